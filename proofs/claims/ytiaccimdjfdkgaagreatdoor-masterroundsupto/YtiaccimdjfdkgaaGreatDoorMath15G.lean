import Derived.Test.YtiaccimdjfdkgaaGreatDoorMath13G
import Derived.Lib.ParseIntB
namespace Go.Proofs.YtiaccimdjfdkgaaGreatDoor.Nm
set_option linter.unusedVariables false

def isD (x : Nat) : Bool := decide (48 ≤ x ∧ x ≤ 57)
/-- the number that k digits behind the first byte tell -/
def dv (r : ByteArray) : Nat → Nat
  | 0 => 0
  | k + 1 => dv r k * 10 + (bt r (k + 1) - 48)
theorem dv_lt (r : ByteArray) : ∀ k, (∀ j, 1 ≤ j → j ≤ k → isD (bt r j) = true) → dv r k < 10 ^ k
  | 0, _ => by simp [dv]
  | k + 1, h => by
    have h1 := dv_lt r k (fun j a b => h j a (by omega))
    have h2 := h (k + 1) (by omega) (Nat.le_refl _)
    simp only [isD, decide_eq_true_iff] at h2
    simp only [dv, Nat.pow_succ]; omega
/-- what stands first in a written label: its byte, and how much of the text that is -/
def pc (r : ByteArray) : Nat × Nat :=
  if bt r 0 ≠ 92 then (bt r 0, 1)
  else if r.size < 2 then (0, 0)
  else if isD (bt r 1) = false then (bt r 1, 2)
  else if r.size < 4 ∨ isD (bt r 2) = false ∨ isD (bt r 3) = false then (0, 0)
  else if 255 < dv r 3 then (0, 0) else (dv r 3, 4)
end Go.Proofs.YtiaccimdjfdkgaaGreatDoor.Nm

namespace Go.Proofs.YtiaccimdjfdkgaaGreatDoor.Nm
set_option linter.unusedVariables false

/-- what comes of a written text: an error and its place; or its labels, and whether they are the whole name -/
structure Scan where
  code : Nat
  place : Nat
  labels : List ByteArray
  whole : Bool

/-- from place k on: the label under way begins at first and has the bytes now; ahead of it stand the labels l -/
def scan (t : ByteArray) : Nat → Nat → Nat → List Nat → List ByteArray → Scan
  | 0, k, first, now, l => ⟨0, 0, if now = [] then l else l ++ [bts now], decide (now = [])⟩
  | f + 1, k, first, now, l =>
    if t.size ≤ k then ⟨0, 0, if now = [] then l else l ++ [bts now], decide (now = [])⟩
    else if bt t k = 46 then
      if now = [] then ⟨2, k, [], false⟩ else scan t f (k + 1) (k + 1) [] (l ++ [bts now])
    else if (pc (t.extract k t.size)).2 = 0 then ⟨2, k, [], false⟩
    else if now.length = 63 then ⟨3, first, [], false⟩
    else scan t f (k + (pc (t.extract k t.size)).2) first (now ++ [(pc (t.extract k t.size)).1]) l

theorem scan_fuel (t : ByteArray) : ∀ (f g k first : Nat) (now : List Nat) (l : List ByteArray), t.size < f + k → t.size < g + k → scan t f k first now l = scan t g k first now l
  | 0, 0, k, first, now, l, _, _ => rfl
  | 0, g + 1, k, first, now, l, hf, hg => by
    unfold scan; rw [if_pos (show t.size ≤ k by omega)]
  | f + 1, 0, k, first, now, l, hf, hg => by
    unfold scan; rw [if_pos (show t.size ≤ k by omega)]
  | f + 1, g + 1, k, first, now, l, hf, hg => by
    unfold scan
    by_cases h0 : t.size ≤ k
    · rw [if_pos h0, if_pos h0]
    · rw [if_neg h0, if_neg h0]
      by_cases h1 : bt t k = 46
      · rw [if_pos h1, if_pos h1]
        by_cases h2 : now = []
        · rw [if_pos h2, if_pos h2]
        · rw [if_neg h2, if_neg h2]; exact scan_fuel t f g _ _ _ _ (by omega) (by omega)
      · rw [if_neg h1, if_neg h1]
        by_cases h3 : (pc (t.extract k t.size)).2 = 0
        · rw [if_pos h3, if_pos h3]
        · rw [if_neg h3, if_neg h3]
          by_cases h4 : now.length = 63
          · rw [if_pos h4, if_pos h4]
          · rw [if_neg h4, if_neg h4]; exact scan_fuel t f g _ _ _ _ (by omega) (by omega)

def scanT (t : ByteArray) (k first : Nat) (now : List Nat) (l : List ByteArray) : Scan := scan t (t.size + 1) k first now l
theorem scanT_end {t : ByteArray} {k first : Nat} {now : List Nat} {l : List ByteArray} (h : t.size ≤ k) : scanT t k first now l = ⟨0, 0, if now = [] then l else l ++ [bts now], decide (now = [])⟩ := by
  unfold scanT scan; rw [if_pos h]
theorem scanT_dot0 {t : ByteArray} {k first : Nat} {l : List ByteArray} (h : k < t.size) (hd : bt t k = 46) : scanT t k first [] l = ⟨2, k, [], false⟩ := by
  unfold scanT scan; rw [if_neg (by omega), if_pos hd, if_pos rfl]
theorem scanT_dot {t : ByteArray} {k first : Nat} {now : List Nat} {l : List ByteArray} (h : k < t.size) (hd : bt t k = 46) (hn : now ≠ []) : scanT t k first now l = scanT t (k + 1) (k + 1) [] (l ++ [bts now]) := by
  unfold scanT
  conv => lhs; unfold scan
  rw [if_neg (by omega), if_pos hd, if_neg hn]
  exact scan_fuel t _ _ _ _ _ _ (by omega) (by omega)
theorem scanT_bad {t : ByteArray} {k first : Nat} {now : List Nat} {l : List ByteArray} (h : k < t.size) (hd : bt t k ≠ 46) (hp : (pc (t.extract k t.size)).2 = 0) : scanT t k first now l = ⟨2, k, [], false⟩ := by
  unfold scanT scan; rw [if_neg (by omega), if_neg hd, if_pos hp]
theorem scanT_full {t : ByteArray} {k first : Nat} {now : List Nat} {l : List ByteArray} (h : k < t.size) (hd : bt t k ≠ 46) (hp : (pc (t.extract k t.size)).2 ≠ 0) (hn : now.length = 63) : scanT t k first now l = ⟨3, first, [], false⟩ := by
  unfold scanT scan; rw [if_neg (by omega), if_neg hd, if_neg hp, if_pos hn]
theorem scanT_byte {t : ByteArray} {k first : Nat} {now : List Nat} {l : List ByteArray} (h : k < t.size) (hd : bt t k ≠ 46) (hp : (pc (t.extract k t.size)).2 ≠ 0) (hn : now.length ≠ 63) :
    scanT t k first now l = scanT t (k + (pc (t.extract k t.size)).2) first (now ++ [(pc (t.extract k t.size)).1]) l := by
  unfold scanT
  conv => lhs; unfold scan
  rw [if_neg (by omega), if_neg hd, if_neg hp, if_neg hn]
  exact scan_fuel t _ _ _ _ _ _ (by omega) (by omega)
/-- a piece lies within the text, and its byte is one -/
theorem pc_le (r : ByteArray) (h : 0 < r.size) : (pc r).2 ≤ r.size ∧ (pc r).1 < 256 := by
  unfold pc
  have hb0 := bt_lt r 0
  have hb1 := bt_lt r 1
  split
  · exact ⟨h, hb0⟩
  · split
    · exact ⟨Nat.zero_le _, by omega⟩
    · split
      · exact ⟨by omega, hb1⟩
      · split
        · exact ⟨Nat.zero_le _, by omega⟩
        · split
          · exact ⟨Nat.zero_le _, by omega⟩
          · exact ⟨by omega, by omega⟩

/-- the name that a text tells: the name, the place, the error -/
def readB (t o : ByteArray) : ByteArray × Nat × Nat :=
  if isN o = false then (ByteArray.empty, 0, 1)
  else if t.size = 0 then (ByteArray.empty, 0, 2)
  else if t = bts [64] then (o, 0, 0)
  else if t = bts [46] then (bts [0], 0, 0)
  else
    if (scanT t 0 0 [] []).code ≠ 0 then (ByteArray.empty, (scanT t 0 0 [] []).place, (scanT t 0 0 [] []).code)
    else if 255 < (putB ((scanT t 0 0 [] []).labels ++ (if (scanT t 0 0 [] []).whole = true then [] else labs o))).size then (ByteArray.empty, 0, 4)
    else (putB ((scanT t 0 0 [] []).labels ++ (if (scanT t 0 0 [] []).whole = true then [] else labs o)), 0, 0)
end Go.Proofs.YtiaccimdjfdkgaaGreatDoor.Nm

namespace Go.Proofs.YtiaccimdjfdkgaaGreatDoor.Nm
set_option linter.unusedVariables false
open Go

/-- what a text of at most so many digits tells, in so many bits -/
def numR (B most : Nat) (t : ByteArray) : Option Nat :=
  if most < t.size then none else match Lib.parseUintB B t.data.toList with | .ok u => some u | _ => none
theorem numR_long {B most : Nat} {t : ByteArray} (h : most < t.size) : numR B most t = none := by unfold numR; rw [if_pos h]
theorem numR_ok {B most u : Nat} {t : ByteArray} (h : ¬ most < t.size) (hp : Lib.parseUintB B t.data.toList = .ok u) : numR B most t = some u := by unfold numR; rw [if_neg h, hp]
theorem numR_syn {B most : Nat} {t : ByteArray} (h : ¬ most < t.size) (hp : Lib.parseUintB B t.data.toList = .syntax) : numR B most t = none := by unfold numR; rw [if_neg h, hp]
theorem numR_rng {B most : Nat} {t : ByteArray} (h : ¬ most < t.size) (hp : Lib.parseUintB B t.data.toList = .range) : numR B most t = none := by unfold numR; rw [if_neg h, hp]

theorem parse3 (a b c : UInt8) (ha : 48 ≤ a.toNat ∧ a.toNat ≤ 57) : Lib.parseUintB 8 [a, b, c] =
    if 48 ≤ b.toNat ∧ b.toNat ≤ 57 then (if 48 ≤ c.toNat ∧ c.toNat ≤ 57 then (if 255 < ((a.toNat - 48) * 10 + (b.toNat - 48)) * 10 + (c.toNat - 48) then .range else .ok (((a.toNat - 48) * 10 + (b.toNat - 48)) * 10 + (c.toNat - 48))) else .syntax) else .syntax := by
  unfold Lib.parseUintB
  rw [if_neg (by simp), show 2 ^ 8 - 1 = 255 from rfl]
  unfold Lib.parseUintM
  rw [if_pos ha, if_neg (by omega), if_neg (by omega)]
  unfold Lib.parseUintM
  by_cases hb : 48 ≤ b.toNat ∧ b.toNat ≤ 57
  · rw [if_pos hb, if_pos hb, if_neg (by omega), if_neg (by omega)]
    unfold Lib.parseUintM
    by_cases hc : 48 ≤ c.toNat ∧ c.toNat ≤ 57
    · rw [if_pos hc, if_pos hc, if_neg (by omega)]
      by_cases hv : 255 < ((a.toNat - 48) * 10 + (b.toNat - 48)) * 10 + (c.toNat - 48)
      · rw [if_pos hv, if_pos (by omega)]
      · rw [if_neg hv, if_neg (by omega)]
        unfold Lib.parseUintM
        simp
    · rw [if_neg hc, if_neg hc]
  · rw [if_neg hb, if_neg hb]

theorem three_list {t : ByteArray} (h : t.size = 3) : ∃ a b c : UInt8, t.data.toList = [a, b, c] ∧ a.toNat = bt t 0 ∧ b.toNat = bt t 1 ∧ c.toNat = bt t 2 := by
  have hl : t.data.toList.length = 3 := by simpa using h
  match hm : t.data.toList, hl with
  | [a, b, c], _ =>
    refine ⟨a, b, c, rfl, ?_, ?_, ?_⟩
    · have := bt_list t 0 (by omega); simp [hm] at this; exact this
    · have := bt_list t 1 (by omega); simp [hm] at this; exact this
    · have := bt_list t 2 (by omega); simp [hm] at this; exact this

/-- a written byte of three digits -/
theorem pc_num {r : ByteArray} (h4 : 4 ≤ r.size) (h0 : bt r 0 = 92) (h1 : isD (bt r 1) = true) :
    pc r = match numR 8 3 (r.extract 1 4) with | some u => (u, 4) | none => (0, 0) := by
  have hz : (r.extract 1 4).size = 3 := size_extract' _ _ _ h4
  obtain ⟨a, b, c, hl, ha, hb, hc⟩ := three_list hz
  rw [bt_extract _ _ _ _ (by omega) h4] at ha hb hc
  have hd1 : 48 ≤ a.toNat ∧ a.toNat ≤ 57 := by rw [ha]; unfold isD at h1; exact of_decide_eq_true h1
  have hN : numR 8 3 (r.extract 1 4) = match Lib.parseUintB 8 [a, b, c] with | .ok u => some u | _ => none := by
    unfold numR; rw [if_neg (by omega), hl]
  have e2 : isD (bt r 2) = decide (48 ≤ b.toNat ∧ b.toNat ≤ 57) := by unfold isD; rw [hb]
  have e3 : isD (bt r 3) = decide (48 ≤ c.toNat ∧ c.toNat ≤ 57) := by unfold isD; rw [hc]
  have edv : dv r 3 = ((a.toNat - 48) * 10 + (b.toNat - 48)) * 10 + (c.toNat - 48) := by
    simp only [dv]; rw [ha, hb, hc]; simp
  rw [hN, parse3 a b c hd1]
  unfold pc
  rw [if_neg (by omega), if_neg (by omega), if_neg (by rw [h1]; decide), e2, e3, edv]
  by_cases hb2 : 48 ≤ b.toNat ∧ b.toNat ≤ 57
  · by_cases hc2 : 48 ≤ c.toNat ∧ c.toNat ≤ 57
    · rw [if_pos hb2, if_pos hc2, if_neg (by simp [hb2, hc2]; omega)]
      split
      · rfl
      · rfl
    · rw [if_pos hb2, if_neg hc2, if_pos (by right; right; exact decide_eq_false hc2)]
  · rw [if_neg hb2, if_pos (by right; left; exact decide_eq_false hb2)]
theorem pc_short {r : ByteArray} (h0 : bt r 0 = 92) (h4 : r.size < 4) (h1 : r.size < 2 ∨ isD (bt r 1) = true) : pc r = (0, 0) := by
  unfold pc
  rw [if_neg (by omega)]
  by_cases h2 : r.size < 2
  · rw [if_pos h2]
  · rw [if_neg h2]
    rcases h1 with h1 | h1
    · exact absurd h1 h2
    · rw [if_neg (by rw [h1]; decide), if_pos (.inl h4)]
end Go.Proofs.YtiaccimdjfdkgaaGreatDoor.Nm
