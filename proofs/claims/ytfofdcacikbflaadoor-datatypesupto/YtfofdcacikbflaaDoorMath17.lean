import Derived.Test.YtfofdcacikbflaaDoorMath13G
import Derived.Lib.ParseIntB
namespace Go.Proofs.YtfofdcacikbflaaDoor.Nm
set_option linter.unusedVariables false
open Go

/-- what a text of at most so many digits tells, in so many bits -/
def numR (B most : Nat) (t : ByteArray) : Option Nat :=
  if most < t.size then none else match Lib.parseUintB B t.data.toList with | .ok u => some u | _ => none
theorem numR_long {B most : Nat} {t : ByteArray} (h : most < t.size) : numR B most t = none := by unfold numR; rw [if_pos h]
theorem numR_ok {B most u : Nat} {t : ByteArray} (h : ¬ most < t.size) (hp : Lib.parseUintB B t.data.toList = .ok u) : numR B most t = some u := by unfold numR; rw [if_neg h, hp]
theorem numR_syn {B most : Nat} {t : ByteArray} (h : ¬ most < t.size) (hp : Lib.parseUintB B t.data.toList = .syntax) : numR B most t = none := by unfold numR; rw [if_neg h, hp]
theorem numR_rng {B most : Nat} {t : ByteArray} (h : ¬ most < t.size) (hp : Lib.parseUintB B t.data.toList = .range) : numR B most t = none := by unfold numR; rw [if_neg h, hp]

theorem parse3 (a b c : UInt8) (ha : 48 ≤ a.toNat ∧ a.toNat ≤ 57) : Lib.parseUintB 8 [a, b, c] =
    if 48 ≤ b.toNat ∧ b.toNat ≤ 57 then (if 48 ≤ c.toNat ∧ c.toNat ≤ 57 then (if 255 < ((a.toNat - 48) * 10 + (b.toNat - 48)) * 10 + (c.toNat - 48) then .range else .ok (((a.toNat - 48) * 10 + (b.toNat - 48)) * 10 + (c.toNat - 48))) else .syntax) else .syntax := by
  unfold Lib.parseUintB
  rw [if_neg (by simp), show 2 ^ 8 - 1 = 255 from rfl]
  unfold Lib.parseUintM
  rw [if_pos ha, if_neg (by omega), if_neg (by omega)]
  unfold Lib.parseUintM
  by_cases hb : 48 ≤ b.toNat ∧ b.toNat ≤ 57
  · rw [if_pos hb, if_pos hb, if_neg (by omega), if_neg (by omega)]
    unfold Lib.parseUintM
    by_cases hc : 48 ≤ c.toNat ∧ c.toNat ≤ 57
    · rw [if_pos hc, if_pos hc, if_neg (by omega)]
      by_cases hv : 255 < ((a.toNat - 48) * 10 + (b.toNat - 48)) * 10 + (c.toNat - 48)
      · rw [if_pos hv, if_pos (by omega)]
      · rw [if_neg hv, if_neg (by omega)]
        unfold Lib.parseUintM
        simp
    · rw [if_neg hc, if_neg hc]
  · rw [if_neg hb, if_neg hb]

theorem three_list {t : ByteArray} (h : t.size = 3) : ∃ a b c : UInt8, t.data.toList = [a, b, c] ∧ a.toNat = bt t 0 ∧ b.toNat = bt t 1 ∧ c.toNat = bt t 2 := by
  have hl : t.data.toList.length = 3 := by simpa using h
  match hm : t.data.toList, hl with
  | [a, b, c], _ =>
    refine ⟨a, b, c, rfl, ?_, ?_, ?_⟩
    · have := bt_list t 0 (by omega); simp [hm] at this; exact this
    · have := bt_list t 1 (by omega); simp [hm] at this; exact this
    · have := bt_list t 2 (by omega); simp [hm] at this; exact this

/-- a written byte of three digits -/
theorem pc_num {r : ByteArray} (h4 : 4 ≤ r.size) (h0 : bt r 0 = 92) (h1 : isD (bt r 1) = true) :
    pc r = match numR 8 3 (r.extract 1 4) with | some u => (u, 4) | none => (0, 0) := by
  have hz : (r.extract 1 4).size = 3 := size_extract' _ _ _ h4
  obtain ⟨a, b, c, hl, ha, hb, hc⟩ := three_list hz
  rw [bt_extract _ _ _ _ (by omega) h4] at ha hb hc
  have hd1 : 48 ≤ a.toNat ∧ a.toNat ≤ 57 := by rw [ha]; unfold isD at h1; exact of_decide_eq_true h1
  have hN : numR 8 3 (r.extract 1 4) = match Lib.parseUintB 8 [a, b, c] with | .ok u => some u | _ => none := by
    unfold numR; rw [if_neg (by omega), hl]
  have e2 : isD (bt r 2) = decide (48 ≤ b.toNat ∧ b.toNat ≤ 57) := by unfold isD; rw [hb]
  have e3 : isD (bt r 3) = decide (48 ≤ c.toNat ∧ c.toNat ≤ 57) := by unfold isD; rw [hc]
  have edv : dv r 3 = ((a.toNat - 48) * 10 + (b.toNat - 48)) * 10 + (c.toNat - 48) := by
    simp only [dv]; rw [ha, hb, hc]; simp
  rw [hN, parse3 a b c hd1]
  unfold pc
  rw [if_neg (by omega), if_neg (by omega), if_neg (by rw [h1]; decide), e2, e3, edv]
  by_cases hb2 : 48 ≤ b.toNat ∧ b.toNat ≤ 57
  · by_cases hc2 : 48 ≤ c.toNat ∧ c.toNat ≤ 57
    · rw [if_pos hb2, if_pos hc2, if_neg (by simp [hb2, hc2]; omega)]
      split
      · rfl
      · rfl
    · rw [if_pos hb2, if_neg hc2, if_pos (by right; right; exact decide_eq_false hc2)]
  · rw [if_neg hb2, if_pos (by right; left; exact decide_eq_false hb2)]
theorem pc_short {r : ByteArray} (h0 : bt r 0 = 92) (h4 : r.size < 4) (h1 : r.size < 2 ∨ isD (bt r 1) = true) : pc r = (0, 0) := by
  unfold pc
  rw [if_neg (by omega)]
  by_cases h2 : r.size < 2
  · rw [if_pos h2]
  · rw [if_neg h2]
    rcases h1 with h1 | h1
    · exact absurd h1 h2
    · rw [if_neg (by rw [h1]; decide), if_pos (.inl h4)]
end Go.Proofs.YtfofdcacikbflaaDoor.Nm
