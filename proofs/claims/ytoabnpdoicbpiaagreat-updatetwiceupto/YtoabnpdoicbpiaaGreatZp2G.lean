import Derived.Test.YtoabnpdoicbpiaaGreatZn6G
import Derived.Test.YtoabnpdoicbpiaaGreatMath8G
namespace Go.Proofs.YtoabnpdoicbpiaaGreat
set_option linter.unusedVariables false
set_option linter.unusedSimpArgs false
open Go.RowKit Go.Shelf Go.Maps Go.Proofs.YtoabnpdoicbpiaaGreat.Nm Go.Proofs.YtoabnpdoicbpiaaGreat.Zs
theorem zlow_low (s : ByteArray) : lowB (lowB s) = lowB s := by
 refine ba_ext (by rw [lowB_size]) fun j _ => ?_
 rw [lowB_bt, lowB_bt]
 unfold lowN
 split
 ·next h => rw [if_neg (by omega)]
 ·rfl
theorem zisN_fold {n : ByteArray} (h : isN n = true) : isN (foldB n) = true ∧ labs (foldB n) = (labs n).map lowB := by rw [foldB_yes h]; exact isN_low h
theorem foldB_twice {n : ByteArray} (h : isN n = true) : foldB (foldB n) = foldB n := by
 rw [foldB_yes (zisN_fold h).1, foldB_yes h, zlow_low]
def goodS (x : Se) : Prop := isN x.1 = true ∧ foldB x.1 = x.1
theorem cmp_zero {a b : ByteArray} (ha : isN a = true) (hb : isN b = true) (fa : foldB a = a) (fb : foldB b = b) (h : cmpB a b = 0) : a = b := by
 have h1 := (ordered ha hb hb).eq
 rw [h] at h1
 simp only [decide_true] at h1
 unfold eqB at h1
 rw [Bool.and_eq_true, toList_bt] at h1
 have := of_decide_eq_true h1.2
 rw [fa, fb] at this
 exact this
theorem cmp_anti {a b : ByteArray} (ha : isN a = true) (hb : isN b = true) : cmpB b a = - cmpB a b := by
 rw [cmpB_yes ha hb, cmpB_yes hb ha]; exact cmpL_anti _ _
theorem cmp_trans {a b c : ByteArray} (ha : isN a = true) (hb : isN b = true) (hc : isN c = true) (h1 : cmpB a b ≤ 0) (h2 : cmpB b c ≤ 0) : cmpB a c ≤ 0 := by
 rw [cmpB_yes ha hb] at h1
 rw [cmpB_yes hb hc] at h2
 rw [cmpB_yes ha hc]
 exact cmpL_trans _ _ _ h1 h2
theorem cmpS_anti {x y : Se} (hx : goodS x) (hy : goodS y) : cmpS y x = - cmpS x y := by
 unfold cmpS
 by_cases e : x.1 = y.1
 ·rw [if_neg (show ¬ y.1 ≠ x.1 from fun h => h e.symm), if_neg (show ¬ x.1 ≠ y.1 from fun h => h e)]
  have h3 := cbl_anti x.2.2.data.toList y.2.2.data.toList
  unfold sgnI
  (repeat' split) <;> omega
 ·rw [if_pos (fun h => e h.symm), if_pos e]
  exact cmp_anti hx.1 hy.1
theorem cmpS_trans {x y z : Se} (hx : goodS x) (hy : goodS y) (hz : goodS z) (h1 : cmpS x y ≤ 0) (h2 : cmpS y z ≤ 0) : cmpS x z ≤ 0 := by
 unfold cmpS at *
 by_cases e1 : x.1 = y.1
 ·by_cases e2 : y.1 = z.1
  ·have e3 : x.1 = z.1 := e1.trans e2
   rw [if_neg (by simp [e1])] at h1
   rw [if_neg (by simp [e2])] at h2
   rw [if_neg (by simp [e3])]
   have h3 := cbl_trans x.2.2.data.toList y.2.2.data.toList z.2.2.data.toList
   unfold sgnI at *
   revert h1 h2
   (repeat' split) <;> intros <;> omega
  ·have e3 : ¬ x.1 = z.1 := fun h => e2 (e1.symm.trans h)
   rw [if_pos e2] at h2
   rw [if_pos e3, e1]
   exact h2
 ·by_cases e2 : y.1 = z.1
  ·have e3 : ¬ x.1 = z.1 := fun h => e1 (h.trans e2.symm)
   rw [if_pos e1] at h1
   rw [if_pos e3, ← e2]
   exact h1
  ·rw [if_pos e1] at h1
   rw [if_pos e2] at h2
   have h3 := cmp_trans hx.1 hy.1 hz.1 h1 h2
   by_cases e3 : x.1 = z.1
   ·exfalso
    rw [← e3] at h2
    have h4 := cmp_anti hx.1 hy.1
    exact e1 (cmp_zero hx.1 hy.1 hx.2 hy.2 (by omega))
   ·rw [if_pos e3]; exact h3
theorem ord_ltS {S : List Se} (h : ∀ s ∈ S, goodS s) : Zs.Ord (ltS S) := by
 have hg : ∀ x, x < S.length → goodS (seAt S x) := fun x hx => by rw [← seAt_get hx]; exact h _ (List.getElem_mem hx)
 refine ⟨fun x y hxy => ?_, fun x y z h1 h2 => ?_⟩
 ·unfold ltS at *
  by_cases e : x < S.length ∧ y < S.length
  ·rw [if_pos e] at hxy
   rw [if_pos ⟨e.2, e.1⟩, cmpS_anti (hg x e.1) (hg y e.2)]
   have := of_decide_eq_true hxy
   exact decide_eq_false (by omega)
  ·rw [if_neg e] at hxy
   rw [if_neg (fun h => e ⟨h.2, h.1⟩)]
   have := of_decide_eq_true hxy
   exact decide_eq_false (fun h => e ⟨this, h⟩)
 ·unfold ltS at *
  by_cases ex : x < S.length
  ·by_cases ey : y < S.length
   ·by_cases ez : z < S.length
    ·rw [if_pos ⟨ey, ex⟩] at h1
     rw [if_pos ⟨ez, ey⟩] at h2
     rw [if_pos ⟨ez, ex⟩]
     have g1 := of_decide_eq_false h1
     have g2 := of_decide_eq_false h2
     have a1 := cmpS_anti (hg x ex) (hg y ey)
     have a2 := cmpS_anti (hg y ey) (hg z ez)
     have a3 := cmpS_anti (hg x ex) (hg z ez)
     have g3 := cmpS_trans (hg x ex) (hg y ey) (hg z ez) (by omega) (by omega)
     exact decide_eq_false (by omega)
    ·rw [if_neg (fun h => ez h.1)]
     exact decide_eq_false ez
   ·rw [if_neg (fun h => ey h.2)] at h2
    have g2 := of_decide_eq_false h2
    rw [if_neg (fun h => g2 h.1)]
    exact decide_eq_false g2
  ·rw [if_neg (fun h => ex h.2)] at h1 ⊢
   have g1 := of_decide_eq_false h1
   rw [if_neg (fun h => g1 h.2)] at h2
   exact h2
end Go.Proofs.YtoabnpdoicbpiaaGreat
namespace Go.Proofs.YtoabnpdoicbpiaaGreat
set_option linter.unusedVariables false
set_option linter.unusedSimpArgs false
open Go.RowKit Go.Shelf Go.Maps Go.Proofs.YtoabnpdoicbpiaaGreat.Nm Go.Proofs.YtoabnpdoicbpiaaGreat.Zs
def mtc (p : Pl) (s : Se) : Bool := decide (s.1 = p.1) && (decide (p.2 = 0) || decide (s.2.1 = p.2))
def RowIs (U : List Se) (k : Nat) (p : Pl) : Option (Nat × Nat) → Prop
 | none => ∀ i, i < k → mtc p (seAt U i) = false
 | some (a, b) => a < b ∧ b ≤ k ∧ mtc p (seAt U a) = true ∧ mtc p (seAt U (b - 1)) = true ∧ (∀ i, i < a → mtc p (seAt U i) = false) ∧ (∀ i, b ≤ i → i < k → mtc p (seAt U i) = false)
theorem mtc_all (s : Se) : mtc (s.1, 0) s = true := by simp [mtc]
theorem mtc_own (s : Se) : mtc (plOf s) s = true := by simp [mtc, plOf]
theorem mtc_no {p : Pl} {s : Se} (h1 : ¬ p = (s.1, 0)) (h2 : ¬ p = plOf s) : mtc p s = false := by
 obtain ⟨o, t⟩ := p
 cases hm : mtc (o, t) s with
 | false => rfl
 | true =>
  unfold mtc at hm
  simp at hm
  obtain ⟨h3, h4 | h4⟩ := hm
  ·exact absurd (by rw [h4, h3]) h1
  ·exact absurd (by unfold plOf; rw [h4, h3]) h2
theorem row_is {U : List Se} {p : Pl} : ∀ k, (∀ i, i < k → 1 ≤ (seAt U i).2.1) → RowIs U k p (rowsF U k p)
 | 0, _ => fun i hi => absurd hi (Nat.not_lt_zero _)
 | k + 1, hp => by
  have ih := row_is (p := p) k (fun i hi => hp i (by omega))
  have hk := hp k (by omega)
  have up : mtc p (seAt U k) = true → RowIs U (k + 1) p (some (grw (rowsF U k p) k)) := fun hm => by
   cases hr : rowsF U k p with
   | none =>
    rw [hr] at ih
    refine ⟨by show k < k + 1; omega, by show k + 1 ≤ k + 1; omega, hm, hm, ih, fun i h1 h2 => absurd (show k + 1 ≤ i from h1) (by omega)⟩
   | some y =>
    obtain ⟨a, b⟩ := y
    rw [hr] at ih
    obtain ⟨h1, h2, h3, h4, h5, h6⟩ := ih
    exact ⟨by show a < k + 1; omega, by show k + 1 ≤ k + 1; omega, h3, hm, h5, fun i h7 h8 => absurd (show k + 1 ≤ i from h7) (by omega)⟩
  show RowIs U (k + 1) p (updR (updR (rowsF U k) (plOf (seAt U k)) k) ((seAt U k).1, 0) k p)
  by_cases e1 : p = ((seAt U k).1, 0)
  ·have e2 : ¬ p = plOf (seAt U k) := fun h => by
    rw [e1] at h
    unfold plOf at h
    have := congrArg Prod.snd h
    simp only at this
    omega
   have hm : mtc p (seAt U k) = true := by rw [e1]; exact mtc_all _
   have := up hm
   rw [show updR (updR (rowsF U k) (plOf (seAt U k)) k) ((seAt U k).1, 0) k p = some (grw (rowsF U k p) k) by
          rw [e1, updR_same, updR_other _ _ _ _ (e1 ▸ e2)]]
   exact this
  ·rw [updR_other _ _ _ _ e1]
   by_cases e2 : p = plOf (seAt U k)
   ·have hm : mtc p (seAt U k) = true := by rw [e2]; exact mtc_own _
    have := up hm
    rw [show updR (rowsF U k) (plOf (seAt U k)) k p = some (grw (rowsF U k p) k) by rw [e2, updR_same]]
    exact this
   ·rw [updR_other _ _ _ _ e2]
    have hm := mtc_no e1 e2
    cases hr : rowsF U k p with
    | none =>
     rw [hr] at ih
     intro i hi
     rcases Nat.lt_or_ge i k with h | h
     ·exact ih i h
     ·obtain rfl : i = k := by omega
      exact hm
    | some y =>
     obtain ⟨a, b⟩ := y
     rw [hr] at ih
     obtain ⟨h1, h2, h3, h4, h5, h6⟩ := ih
     refine ⟨h1, by omega, h3, h4, h5, fun i h7 h8 => ?_⟩
     rcases Nat.lt_or_ge i k with h | h
     ·exact h6 i h7 h
     ·obtain rfl : i = k := by omega
      exact hm
structure Us (U : List Se) : Prop where
 good : ∀ i, i < U.length → goodS (seAt U i)
 pos : ∀ i, i < U.length → 1 ≤ (seAt U i).2.1
 so : ∀ i j, i ≤ j → j < U.length → cmpS (seAt U i) (seAt U j) ≤ 0
theorem cmpS_own {x y : Se} (hx : goodS x) (hy : goodS y) (h : cmpS x y ≤ 0) : cmpB x.1 y.1 ≤ 0 := by
 unfold cmpS at h
 by_cases e : x.1 = y.1
 ·rw [e]
  have := (ordered hy.1 hy.1 hy.1).eq
  have h2 := cmp_anti hy.1 hy.1
  omega
 ·rw [if_pos e] at h; exact h
theorem cmpS_typ {x y : Se} (h : cmpS x y ≤ 0) (e : x.1 = y.1) : x.2.1 ≤ y.2.1 := by
 unfold cmpS at h
 rw [if_neg (by simp [e])] at h
 unfold sgnI at h
 revert h
 (repeat' split) <;> intros <;> omega
theorem Us.mid {U : List Se} (H : Us U) {p : Pl} {i j l : Nat} (h1 : i ≤ j) (h2 : j ≤ l) (h3 : l < U.length) (hi : mtc p (seAt U i) = true) (hl : mtc p (seAt U l) = true) : mtc p (seAt U j) = true := by
 have gi := H.good i (by omega)
 have gj := H.good j (by omega)
 have gl := H.good l (by omega)
 have c1 := H.so i j h1 (by omega)
 have c2 := H.so j l h2 h3
 generalize seAt U i = x at *
 generalize seAt U j = y at *
 generalize seAt U l = z at *
 unfold mtc at *
 simp only [Bool.and_eq_true, Bool.or_eq_true, decide_eq_true_eq] at *
 obtain ⟨a1, a2⟩ := hi
 obtain ⟨b1, b2⟩ := hl
 have e : x.1 = y.1 := by
  have d1 := cmpS_own gi gj c1
  have d2 := cmpS_own gj gl c2
  rw [b1, ← a1] at d2
  have d3 := cmp_anti gi.1 gj.1
  exact cmp_zero gi.1 gj.1 gi.2 gj.2 (by omega)
 refine ⟨by rw [← e]; exact a1, ?_⟩
 rcases a2 with a2 | a2
 ·exact Or.inl a2
 ·rcases b2 with b2 | b2
  ·exact Or.inl b2
  ·have t1 := cmpS_typ c1 e
   have t2 := cmpS_typ c2 (by rw [← e, a1, b1])
   exact Or.inr (by omega)
theorem filter_mid {α : Type} (T : List α) (q : α → Bool) {a b : Nat} (hab : a ≤ b) (hb : b ≤ T.length) (h1 : ∀ i, (h : i < T.length) → i < a → q T[i] = false) (h2 : ∀ i, (h : i < T.length) → a ≤ i → i < b → q T[i] = true) (h3 : ∀ i, (h : i < T.length) → b ≤ i → q T[i] = false) : (T.take b).drop a = T.filter q := by
 have e1 : T = T.take a ++ ((T.take b).drop a ++ T.drop b) := by
  have : (T.take b).take a ++ (T.take b).drop a = T.take b := List.take_append_drop a (T.take b)
  rw [List.take_take, Nat.min_eq_left hab] at this
  rw [← List.append_assoc, this, List.take_append_drop]
 have f1 : (T.take a).filter q = [] := by
  rw [List.filter_eq_nil_iff]
  intro x hx
  obtain ⟨i, hi, rfl⟩ := List.getElem_of_mem hx
  rw [List.length_take] at hi
  rw [List.getElem_take, h1 i (by omega) (by omega)]
  simp
 have f2 : ((T.take b).drop a).filter q = (T.take b).drop a := by
  rw [List.filter_eq_self]
  intro x hx
  obtain ⟨i, hi, rfl⟩ := List.getElem_of_mem hx
  rw [List.length_drop, List.length_take] at hi
  rw [List.getElem_drop, List.getElem_take]
  exact h2 _ (by omega) (by omega) (by omega)
 have f3 : (T.drop b).filter q = [] := by
  rw [List.filter_eq_nil_iff]
  intro x hx
  obtain ⟨i, hi, rfl⟩ := List.getElem_of_mem hx
  rw [List.length_drop] at hi
  rw [List.getElem_drop, h3 _ (by omega) (by omega)]
  simp
 conv => rhs; rw [e1, List.filter_append, List.filter_append, f1, f2, f3]
 simp
theorem row_all {U : List Se} (H : Us U) (p : Pl) : RowIs U U.length p (rowsF U U.length p) := row_is U.length H.pos
theorem row_le {U : List Se} (H : Us U) (p : Pl) : ((rowsF U U.length p).getD (0, 0)).1 ≤ ((rowsF U U.length p).getD (0, 0)).2 ∧ ((rowsF U U.length p).getD (0, 0)).2 ≤ U.length := by
 have h := row_all H p
 cases hr : rowsF U U.length p with
 | none => simp
 | some y =>
  obtain ⟨a, b⟩ := y
  rw [hr] at h
  obtain ⟨h1, h2, _⟩ := h
  exact ⟨by show a ≤ b; omega, h2⟩
theorem row_has {U : List Se} (H : Us U) (p : Pl) : (rowsF U U.length p).isSome = (List.range U.length).any fun i => mtc p (seAt U i) := by
 have h := row_all H p
 cases hr : rowsF U U.length p with
 | none =>
  rw [hr] at h
  symm
  rw [Option.isSome_none, List.any_eq_false]
  intro i hi
  rw [h i (List.mem_range.1 hi)]
  simp
 | some y =>
  obtain ⟨a, b⟩ := y
  rw [hr] at h
  obtain ⟨h1, h2, h3, _⟩ := h
  symm
  rw [Option.isSome_some, List.any_eq_true]
  exact ⟨a, List.mem_range.2 (by omega), h3⟩
theorem one_lt {α : Type} (L : List α) (q : α → Bool) {k : Nat} (hk : k < L.length) (hq : q L[k] = true) : 1 < L.countP q ↔ ∃ j, ∃ h : j < L.length, j ≠ k ∧ q L[j] = true := by
 have e1 : L = L.take k ++ L[k] :: L.drop (k + 1) := by
  rw [List.getElem_cons_drop, List.take_append_drop]
 have e2 : L.countP q = (L.take k).countP q + ((L.drop (k + 1)).countP q + 1) := by
  conv => lhs; rw [e1]
  rw [List.countP_append, List.countP_cons_of_pos hq]
 constructor
 ·intro h
  rcases Nat.eq_zero_or_pos ((L.take k).countP q) with h0 | h0
  ·have h1 : 0 < (L.drop (k + 1)).countP q := by omega
   obtain ⟨x, hx, hqx⟩ := List.countP_pos_iff.1 h1
   obtain ⟨i, hi, rfl⟩ := List.getElem_of_mem hx
   rw [List.length_drop] at hi
   rw [List.getElem_drop] at hqx
   exact ⟨k + 1 + i, by omega, by omega, hqx⟩
  ·obtain ⟨x, hx, hqx⟩ := List.countP_pos_iff.1 h0
   obtain ⟨i, hi, rfl⟩ := List.getElem_of_mem hx
   rw [List.length_take] at hi
   rw [List.getElem_take] at hqx
   exact ⟨i, by omega, by omega, hqx⟩
 ·rintro ⟨j, hj, hne, hqj⟩
  rcases Nat.lt_or_ge j k with h | h
  ·have : 0 < (L.take k).countP q := List.countP_pos_iff.2 ⟨L[j], by
          rw [List.mem_iff_getElem]
          exact ⟨j, by rw [List.length_take]; omega, by rw [List.getElem_take]⟩, hqj⟩
   omega
  ·have : 0 < (L.drop (k + 1)).countP q := List.countP_pos_iff.2 ⟨L[j], by
          rw [List.mem_iff_getElem]
          exact ⟨j - (k + 1), by rw [List.length_drop]; omega, by rw [List.getElem_drop]; congr 1; omega⟩, hqj⟩
   omega
end Go.Proofs.YtoabnpdoicbpiaaGreat
