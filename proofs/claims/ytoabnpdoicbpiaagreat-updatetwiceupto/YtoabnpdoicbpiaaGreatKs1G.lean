import Derived.Test.YtoabnpdoicbpiaaGreatSz1G
namespace Go.Proofs.YtoabnpdoicbpiaaGreat
set_option linter.unusedVariables false
open Go.RowKit Go.Shelf Go.Proofs.YtoabnpdoicbpiaaGreat.Nm
def kindSize : Kind → ByteArray → Option Nat
 | 0, d => fixS 4 d
 | 1, d => fixS 16 d
 | 2, d => domS d
 | n + 13, d => fixS n d
 | 3, d => cntS d
 | 4, d => txtS d
 | 5, d => endS d
 | 6, d => endS d
 | 7, d => cntS d
 | 8, d => hashS d
 | 9, d => setS d
 | 10, d => oneS d
 | 11, d => some d.size
 | 12, d => some d.size
def partsOf : List Kind → ByteArray → Option (List (Kind × ByteArray))
 | [], d => if d.size = 0 then some [] else none
 | k :: ks, d => match kindSize k d with
  | none => none
  | some n => (partsOf ks (d.extract n d.size)).map ((k, d.extract 0 n) :: ·)
set_option maxRecDepth 100000 in
set_option maxHeartbeats 1000000 in
theorem partIsName_any (k : Kind) (b : ByteArray) (w : World) :
  Calls Tryz.prog 100 #[.agg #[kindV k, .string b]] w fun e w' => e = .returned (.bool (decide (k = .dom))) ∧ Below w.heap.size w w' := by
 have hk : ∀ (T0 : TypeId) (w : World), (Instr.typeAssert (kindV k) T0 178 true).run Tryz.prog w = .ok (.tuple #[.agg #[], .bool (decide (k = .dom))]) w := fun T0 w => by
  rcases kind_cases k with rfl | rfl | rfl | rfl | rfl | rfl | rfl | rfl | rfl | rfl | rfl | rfl | rfl | ⟨n, rfl⟩ <;> simp [kindV, Instr.typeAssert] <;> first | decide | (show ¬ ((n + 13 : Nat) = 2); omega)
 go_enter Tryz.func100, Tryz.ntmps100
 go_wp2
 go_ret
 exact ⟨rfl, ((Below.refl _ w).alloc (Nat.le_refl _) _).alloc (by simp) _⟩
end Go.Proofs.YtoabnpdoicbpiaaGreat
namespace Go.Proofs.YtoabnpdoicbpiaaGreat
set_option linter.unusedVariables false
open Go.RowKit Go.Shelf Go.Proofs.YtoabnpdoicbpiaaGreat.Nm
theorem le_fin (s : ByteArray) : ∀ (k i : Nat), s.size - i ≤ k → i ≤ fin s i
 | k, i, hk => by
  by_cases h : GoodL s i
  ·rw [fin_good h]
   have := h.lt
   cases k with
   | zero => omega
   | succ k => have := le_fin s k (i + 1 + bt s i) (by omega); omega
  ·rw [fin_bad h]; exact Nat.le_refl _
theorem dom_walk {d : ByteArray} {k : Nat} (hk : k ≤ d.size) (h0 : bt (d.extract 0 k) (k - 1) = 0) :
  ∀ (f i : Nat), fin (d.extract 0 k) i + 1 = k → d.size < f + (i + 1) → i < k → domP f d (i + 1) = some k
 | 0, i, _, hf, hi => by omega
 | f + 1, i, hfin, hf, hi => by
  have hz : (d.extract 0 k).size = k := by rw [size_extract' _ _ _ hk]; omega
  have hb : bt (d.extract 0 k) i = bt d i := by rw [bt_extract _ _ _ _ (by omega) hk]; simp
  unfold domP
  rw [show i + 1 - 1 = i by omega]
  by_cases hg : GoodL (d.extract 0 k) i
  ·have h1 := hg.pos
   have h2 := hg.room
   rw [fin_good hg] at hfin
   have h3 := le_fin (d.extract 0 k) _ (i + 1 + bt (d.extract 0 k) i) (Nat.le_refl _)
   rw [hb] at h1 h2 h3 hfin
   rw [if_neg (by omega), if_neg (by omega), show i + 1 + bt d i + 1 = (i + 1 + bt d i) + 1 from rfl]
   exact dom_walk hk h0 f (i + 1 + bt d i) hfin (by omega) (by omega)
  ·rw [fin_bad hg] at hfin
   have : k - 1 = i := by omega
   rw [this, hb] at h0
   rw [if_pos h0, hfin]
theorem dom_of_name {d : ByteArray} {k : Nat} (hk : k ≤ d.size) (hN : isN (d.extract 0 k) = true) : domS d = some k := by
 have hz : (d.extract 0 k).size = k := by rw [size_extract' _ _ _ hk]; omega
 have h := hN
 unfold isN at h
 obtain ⟨h1, h2, h3⟩ := of_decide_eq_true h
 rw [hz] at h1 h2
 have e := dom_walk hk (by rw [show k - 1 = fin (d.extract 0 k) 0 by omega]; exact h3) (d.size + 1) 0 h2 (by omega) (by omega)
 unfold domS
 rw [if_neg (by omega), e]
 show (if _ then _ else _) = _
 rw [if_pos hN]
theorem domP_le : ∀ (f : Nat) (d : ByteArray) (i k : Nat), i ≤ d.size → domP f d i = some k → k ≤ d.size
 | 0, d, i, k, _, h => by cases h
 | f + 1, d, i, k, hi, h => by
  unfold domP at h
  split at h
  ·simp at h; omega
  ·split at h
   ·cases h
   ·exact domP_le f d _ k (by omega) h
theorem domS_some {d : ByteArray} {k : Nat} (h : domS d = some k) : k ≤ d.size ∧ k ≤ 255 ∧ 1 ≤ k ∧ isN (d.extract 0 k) = true := by
 unfold domS at h
 split at h
 ·cases h
 ·rename_i h1
  cases e : domP (d.size + 1) d 1 with
  | none => rw [e] at h; cases h
  | some q =>
   rw [e] at h
   change (if _ then _ else _) = _ at h
   split at h
   ·rename_i hN
    simp at h; subst h
    have hq := domP_le _ _ _ _ (by omega) e
    have hz : (d.extract 0 q).size = q := by rw [size_extract' _ _ _ hq]; omega
    have h2 := hN
    unfold isN at h2
    obtain ⟨h3, h4, h5⟩ := of_decide_eq_true h2
    exact ⟨hq, by omega, by omega, hN⟩
   ·cases h
end Go.Proofs.YtoabnpdoicbpiaaGreat
