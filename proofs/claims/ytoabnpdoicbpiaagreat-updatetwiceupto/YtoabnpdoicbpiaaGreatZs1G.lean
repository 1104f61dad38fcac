import Derived.ProofKit
import Derived.Shelf.RegionOpen
import Derived.Deep.RegionHeld3
import Derived.Deep.RegionWith
import Derived.Test.YtoabnpdoicbpiaaGreatGr0G
import Derived.Shelf.RegionOpenPlain
namespace Go.Proofs.YtoabnpdoicbpiaaGreat
set_option linter.unusedVariables false
set_option linter.unusedSimpArgs false
namespace Zs
def ix (L : List Nat) (i : Nat) : Nat := L.getD i 0
def sw (L : List Nat) (i j : Nat) : List Nat := (L.set i (ix L j)).set j (ix L i)
theorem ix_get {L : List Nat} {i : Nat} (h : i < L.length) : L[i] = ix L i := by simp [ix, List.getD, h]
theorem ix_get? {L : List Nat} {i : Nat} (h : i < L.length) : L[i]? = some (ix L i) := by rw [List.getElem?_eq_getElem h, ix_get h]
theorem ix_mem {L : List Nat} {i : Nat} (h : i < L.length) : ix L i ∈ L := by rw [← ix_get h]; exact List.getElem_mem h
theorem ix_set {L : List Nat} {i : Nat} (v : Nat) (h : i < L.length) (k : Nat) : ix (L.set i v) k = if k = i then v else ix L k := by
 unfold ix List.getD
 rw [List.getElem?_set]
 by_cases e : k = i
 ·subst e; simp [h]
 ·rw [if_neg (fun h => e h.symm), if_neg e]
theorem ix_sw {L : List Nat} {i j : Nat} (hi : i < L.length) (hj : j < L.length) (k : Nat) : ix (sw L i j) k = if k = j then ix L i else if k = i then ix L j else ix L k := by
 unfold sw
 rw [ix_set _ (by simpa using hj), ix_set _ hi]
theorem sw_perm {L : List Nat} {i j : Nat} (hi : i < L.length) (hj : j < L.length) : (sw L i j).Perm L := by
 unfold sw
 rw [← ix_get hi, ← ix_get hj]
 exact List.set_set_perm hi hj
structure Ord (lt : Nat → Nat → Bool) : Prop where
 asy : ∀ x y, lt x y = true → lt y x = false
 tr : ∀ x y z, lt y x = false → lt z y = false → lt z x = false
def So (lt : Nat → Nat → Bool) (L : List Nat) (a b : Nat) : Prop := ∀ i j, a ≤ i → i ≤ j → j < b → lt (ix L j) (ix L i) = false
structure Rg (L L' : List Nat) (a b : Nat) : Prop where
 perm : L'.Perm L
 out : ∀ k, k < a ∨ b ≤ k → ix L' k = ix L k
 ins : ∀ k, a ≤ k → k < b → ∃ k', a ≤ k' ∧ k' < b ∧ ix L' k = ix L k'
theorem Rg.refl (L : List Nat) (a b : Nat) : Rg L L a b := ⟨.refl _, fun _ _ => rfl, fun k h1 h2 => ⟨k, h1, h2, rfl⟩⟩
theorem Rg.len {L L' : List Nat} {a b : Nat} (h : Rg L L' a b) : L'.length = L.length := h.perm.length_eq
theorem Rg.trans {L L' L'' : List Nat} {a b : Nat} (h : Rg L L' a b) (g : Rg L' L'' a b) : Rg L L'' a b :=
 ⟨g.perm.trans h.perm, fun k hk => (g.out k hk).trans (h.out k hk), fun k h1 h2 => by
        obtain ⟨k', p1, p2, p3⟩ := g.ins k h1 h2
        obtain ⟨q, q1, q2, q3⟩ := h.ins k' p1 p2
        exact ⟨q, q1, q2, p3.trans q3⟩⟩
theorem Rg.wide {L L' : List Nat} {a b c d : Nat} (h : Rg L L' a b) (hc : c ≤ a) (hd : b ≤ d) : Rg L L' c d :=
 ⟨h.perm, fun k hk => h.out k (by omega), fun k h1 h2 => by
        by_cases e : a ≤ k ∧ k < b
        ·obtain ⟨k', p1, p2, p3⟩ := h.ins k e.1 e.2
         exact ⟨k', by omega, by omega, p3⟩
        ·exact ⟨k, h1, h2, h.out k (by omega)⟩⟩
theorem Rg.sw {L : List Nat} {i j a b : Nat} (hi : a ≤ i) (hi' : i < b) (hj : a ≤ j) (hj' : j < b) (hb : b ≤ L.length) : Rg L (sw L i j) a b := by
 refine ⟨sw_perm (by omega) (by omega), fun k hk => ?_, fun k h1 h2 => ?_⟩
 ·rw [ix_sw (by omega) (by omega), if_neg (by omega), if_neg (by omega)]
 ·rw [ix_sw (by omega) (by omega)]
  split
  ·exact ⟨i, hi, hi', rfl⟩
  ·split
   ·exact ⟨j, hj, hj', rfl⟩
   ·exact ⟨k, h1, h2, rfl⟩
section
variable {lt : Nat → Nat → Bool}
theorem So.out {L L' : List Nat} {a b c d : Nat} (h : So lt L c d) (g : Rg L L' a b) (hd : d ≤ a ∨ b ≤ c) : So lt L' c d := fun i j h1 h2 h3 => by
 rw [g.out i (by omega), g.out j (by omega)]; exact h i j h1 h2 h3
theorem So.sub {L : List Nat} {a b c d : Nat} (h : So lt L a b) (hc : a ≤ c) (hd : d ≤ b) : So lt L c d := fun i j h1 h2 h3 => h i j (by omega) h2 (by omega)
theorem So.one (O : Ord lt) (L : List Nat) {a b : Nat} (h : b ≤ a + 1) : So lt L a b := fun i j h1 h2 h3 => by
 have : i = j := by omega
 subst this
 cases e : lt (ix L i) (ix L i)
 ·rfl
 ·have := O.asy _ _ e; rw [e] at this; cases this
theorem Ord.self (O : Ord lt) (x : Nat) : lt x x = false := by
 cases e : lt x x
 ·rfl
 ·have := O.asy _ _ e; rw [e] at this; cases this
theorem So.join (O : Ord lt) {L : List Nat} {a m b : Nat} (h1 : So lt L a m) (h2 : So lt L m b) (hx : ∀ i j, a ≤ i → i < m → m ≤ j → j < b → lt (ix L j) (ix L i) = false) : So lt L a b := fun i j p1 p2 p3 => by
 by_cases e : j < m
 ·exact h1 i j p1 p2 e
 ·by_cases e2 : i < m
  ·exact hx i j p1 e2 (by omega) p3
  ·exact h2 i j (by omega) p2 p3
def rt (a m b k : Nat) : Nat := if k < a then k else if k < a + (b - m) then k + (m - a) else if k < b then k - (b - m) else k
def sr (a b n k : Nat) : Nat := if a ≤ k ∧ k < a + n then k - a + b else if b ≤ k ∧ k < b + n then k - b + a else k
def Mv (L L' : List Nat) (f : Nat → Nat) : Prop := ∀ k, ix L' k = ix L (f k)
theorem sr_next {L L' : List Nat} {a b i : Nat} (h : Mv L L' (sr a b i)) (ha : a + i < L'.length) (hb : b + i < L'.length) (hd : a + i < b) : Mv L (sw L' (a + i) (b + i)) (sr a b (i + 1)) := fun k => by
 rw [ix_sw ha hb, h (a + i), h (b + i), h k]
 by_cases e1 : k = b + i
 ·rw [if_pos e1]; congr 1; unfold sr; (repeat' split) <;> omega
 ·rw [if_neg e1]
  by_cases e2 : k = a + i
  ·rw [if_pos e2]; congr 1; unfold sr; (repeat' split) <;> omega
  ·rw [if_neg e2]; congr 1; unfold sr; (repeat' split) <;> omega
theorem sr_zero (L : List Nat) (a b : Nat) : Mv L L (sr a b 0) := fun k => by
 congr 1; unfold sr; (repeat' split) <;> omega
theorem rt_left {m i j : Nat} (hi : i ≤ m) (hj : 0 < j) (h : j < i) (k : Nat) : sr (m - i) m j (rt (m - (i - j)) m (m + j) k) = rt (m - i) m (m + j) k := by
 unfold rt sr
 (repeat' split) <;> omega
theorem rt_right {m i j : Nat} (hi : i ≤ m) (hp : 0 < i) (h : i < j) (k : Nat) : sr (m - i) (m + j - i) i (rt (m - i) m (m + (j - i)) k) = rt (m - i) m (m + j) k := by
 unfold rt sr
 (repeat' split) <;> omega
theorem rt_same {m i : Nat} (hi : i ≤ m) (k : Nat) : sr (m - i) m i k = rt (m - i) m (m + i) k := by
 unfold rt sr
 (repeat' split) <;> omega
theorem Mv.rg {L L' : List Nat} {a m b : Nat} (h : Mv L L' (rt a m b)) (hp : L'.Perm L) (ha : a ≤ m) (hb : m ≤ b) : Rg L L' a b := by
 refine ⟨hp, fun k hk => ?_, fun k h1 h2 => ⟨rt a m b k, ?_, ?_, h k⟩⟩
 ·rw [h k]; unfold rt
  rcases hk with hk | hk
  ·rw [if_pos hk]
  ·by_cases e : k < a
   ·rw [if_pos e]
   ·rw [if_neg e, if_neg (by omega), if_neg (by omega)]
 ·unfold rt; (repeat' split) <;> omega
 ·unfold rt; (repeat' split) <;> omega
structure Hv (lt : Nat → Nat → Bool) (L' : List Nat) (a s mid e b : Nat) : Prop where
 p1 : So lt L' a s
 p2 : So lt L' s mid
 p3 : So lt L' mid e
 p4 : So lt L' e b
 low : ∀ i j, a ≤ i → i < mid → mid ≤ j → j < b → lt (ix L' j) (ix L' i) = false
structure Fd (lt : Nat → Nat → Bool) (L : List Nat) (lo hi p s : Nat) : Prop where
 ge : lo ≤ s
 le : s ≤ hi
 lf : s = lo ∨ lt (ix L (p - (s - 1))) (ix L (s - 1)) = false
 rg : s = hi ∨ lt (ix L (p - s)) (ix L s) = true
theorem halves (O : Ord lt) {L L' : List Nat} {a m b mid s e lo hi : Nat} (hm : a < m) (hb : m < b) (hmid : mid = (a + b) / 2) (h2n : a + 2 ≤ b) (he : e = mid + m - s)
  (hlo : lo = if mid < m then mid + m - b else a) (hhi : hi = if mid < m then mid else m)
  (h1 : So lt L a m) (h2 : So lt L m b) (F : Fd lt L lo hi (mid + m - 1) s) (hv : Mv L L' (rt s m e)) : Hv lt L' a s mid e b := by
 obtain ⟨f1, f2, f3, f4⟩ := F
 have hb1 : a < mid ∧ mid < b := by omega
 have hs : a ≤ s ∧ s ≤ m ∧ s ≤ mid := by
  by_cases e : mid < m
  ·rw [if_pos e] at hlo hhi; omega
  ·rw [if_neg e] at hlo hhi; omega
 have hE : m ≤ e ∧ e ≤ b ∧ mid ≤ e := by
  by_cases e : mid < m
  ·rw [if_pos e] at hlo hhi; omega
  ·rw [if_neg e] at hlo hhi; omega
 have v1 : ∀ k, k < s → ix L' k = ix L k := fun k hk => by rw [hv k]; unfold rt; rw [if_pos hk]
 have v2 : ∀ k, s ≤ k → k < mid → ix L' k = ix L (k + (m - s)) := fun k h1 h2 => by rw [hv k]; unfold rt; rw [if_neg (by omega), if_pos (by omega)]
 have v3 : ∀ k, mid ≤ k → k < e → ix L' k = ix L (k - (e - m)) := fun k h1 h2 => by rw [hv k]; unfold rt; rw [if_neg (by omega), if_neg (by omega), if_pos h2]
 have v4 : ∀ k, e ≤ k → ix L' k = ix L k := fun k h1 => by rw [hv k]; unfold rt; rw [if_neg (by omega), if_neg (by omega), if_neg (by omega)]
 have x1 : ∀ i j, a ≤ i → i < s → e ≤ j → j < b → lt (ix L j) (ix L i) = false := fun i j p1 p2 p3 p4 => by
  have hk : lt (ix L e) (ix L (s - 1)) = false := by
   rcases f3 with f3 | f3
   ·exfalso
    by_cases e : mid < m
    ·rw [if_pos e] at hlo; omega
    ·rw [if_neg e] at hlo; omega
   ·rw [show mid + m - 1 - (s - 1) = e by omega] at f3; exact f3
  exact O.tr _ _ _ (h1 i (s - 1) p1 (by omega) (by omega)) (O.tr _ _ _ hk (h2 e j (by omega) p3 p4))
 have x2 : ∀ i j, m ≤ i → i < e → s ≤ j → j < m → lt (ix L j) (ix L i) = false := fun i j p1 p2 p3 p4 => by
  have hk : lt (ix L s) (ix L (e - 1)) = false := by
   rcases f4 with f4 | f4
   ·exfalso
    by_cases e : mid < m
    ·rw [if_pos e] at hhi; omega
    ·rw [if_neg e] at hhi; omega
   ·rw [show mid + m - 1 - s = e - 1 by omega] at f4; exact O.asy _ _ f4
  exact O.tr _ _ _ (h2 i (e - 1) p1 (by omega) (by omega)) (O.tr _ _ _ hk (h1 s j (by omega) p3 p4))
 refine ⟨fun i j q1 q2 q3 => ?_, fun i j q1 q2 q3 => ?_, fun i j q1 q2 q3 => ?_, fun i j q1 q2 q3 => ?_, fun i j q1 q2 q3 q4 => ?_⟩
 ·rw [v1 i (by omega), v1 j (by omega)]; exact h1 i j q1 q2 (by omega)
 ·rw [v2 i q1 (by omega), v2 j (by omega) q3]; exact h2 _ _ (by omega) (by omega) (by omega)
 ·rw [v3 i q1 (by omega), v3 j (by omega) q3]; exact h1 _ _ (by omega) (by omega) (by omega)
 ·rw [v4 i q1, v4 j (by omega)]; exact h2 _ _ (by omega) (by omega) (by omega)
 ·by_cases c1 : i < s
  ·rw [v1 i c1]
   by_cases c2 : j < e
   ·rw [v3 j q3 c2]; exact h1 _ _ q1 (by omega) (by omega)
   ·rw [v4 j (by omega)]; exact x1 i j q1 c1 (by omega) q4
  ·rw [v2 i (by omega) q2]
   by_cases c2 : j < e
   ·rw [v3 j q3 c2]; exact x2 _ _ (by omega) (by omega) (by omega) (by omega)
   ·rw [v4 j (by omega)]; exact h2 _ _ (by omega) (by omega) (by omega)
theorem whole (O : Ord lt) {L L1 L2 : List Nat} {a s mid e b : Nat} (h : Hv lt L a s mid e b) (h1 : a ≤ s) (h2 : s ≤ mid) (h3 : mid ≤ e) (h4 : e ≤ b)
  (r1 : Rg L L1 a mid) (r2 : Rg L1 L2 mid b) (s1 : So lt L1 a mid) (s2 : So lt L2 mid b) : So lt L2 a b := by
 refine So.join O (s1.out r2 (Or.inl (Nat.le_refl _))) s2 fun i j p1 p2 p3 p4 => ?_
 rw [r2.out i (Or.inl p2)]
 obtain ⟨i', q1, q2, q3⟩ := r1.ins i p1 p2
 obtain ⟨j', t1, t2, t3⟩ := r2.ins j p3 p4
 rw [q3, t3, r1.out j' (Or.inr t1)]
 exact h.low i' j' q1 q2 t1 t2
def up1 (a i k : Nat) : Nat := if a ≤ k ∧ k < i then k + 1 else if k = i then a else k
def dn1 (m i k : Nat) : Nat := if i < k ∧ k ≤ m then k - 1 else if k = i then m else k
theorem up1_next {L L' : List Nat} {a k : Nat} (h : Mv L L' (up1 a k)) (ha : a ≤ k) (hk : k + 1 < L'.length) : Mv L (sw L' k (k + 1)) (up1 a (k + 1)) := fun j => by
 rw [ix_sw (by omega) hk, h k, h (k + 1), h j]
 unfold up1
 by_cases e1 : j = k + 1
 ·subst e1
  rw [if_pos rfl, if_neg (by omega), if_pos rfl, if_neg (by omega), if_pos rfl]
 ·rw [if_neg e1]
  by_cases e2 : j = k
  ·subst e2
   rw [if_pos rfl, if_neg (by omega), if_neg (by omega), if_pos (by omega)]
  ·rw [if_neg e2]
   by_cases e3 : a ≤ j ∧ j < k
   ·rw [if_pos e3, if_pos (by omega)]
   ·rw [if_neg e3, if_neg e2, if_neg (by omega), if_neg e1]
theorem up1_zero (L : List Nat) (a : Nat) : Mv L L (up1 a a) := fun k => by
 unfold up1
 rw [if_neg (by omega)]
 by_cases e : k = a
 ·rw [if_pos e, e]
 ·rw [if_neg e]
theorem dn1_next {L L' : List Nat} {m k : Nat} (h : Mv L L' (dn1 m k)) (hk : 0 < k) (hm : k ≤ m) (hl : k < L'.length) : Mv L (sw L' k (k - 1)) (dn1 m (k - 1)) := fun j => by
 rw [ix_sw hl (by omega), h k, h (k - 1), h j]
 unfold dn1
 by_cases e1 : j = k - 1
 ·subst e1
  rw [if_pos rfl, if_neg (by omega), if_pos rfl, if_neg (by omega), if_pos rfl]
 ·rw [if_neg e1]
  by_cases e2 : j = k
  ·subst e2
   rw [if_pos rfl, if_neg (by omega), if_neg (by omega), if_pos (by omega)]
  ·rw [if_neg e2]
   by_cases e3 : k < j ∧ j ≤ m
   ·rw [if_pos e3, if_pos (by omega)]
   ·rw [if_neg e3, if_neg e2, if_neg (by omega), if_neg e1]
theorem dn1_zero (L : List Nat) (m : Nat) : Mv L L (dn1 m m) := fun k => by
 unfold dn1
 rw [if_neg (by omega)]
 by_cases e : k = m
 ·rw [if_pos e, e]
 ·rw [if_neg e]
theorem up1_rg {L L' : List Nat} {a i b : Nat} (h : Mv L L' (up1 a i)) (hp : L'.Perm L) (hi : a ≤ i) (hb : i < b) : Rg L L' a b := by
 refine ⟨hp, fun k hk => ?_, fun k h1 h2 => ⟨up1 a i k, ?_, ?_, h k⟩⟩
 ·rw [h k]; unfold up1; rw [if_neg (by omega), if_neg (by omega)]
 ·unfold up1; repeat' split
  all_goals omega
 ·unfold up1; repeat' split
  all_goals omega
theorem dn1_rg {L L' : List Nat} {m i a b : Nat} (h : Mv L L' (dn1 m i)) (hp : L'.Perm L) (hi : a ≤ i) (hm : i ≤ m) (hb : m < b) : Rg L L' a b := by
 refine ⟨hp, fun k hk => ?_, fun k h1 h2 => ⟨dn1 m i k, ?_, ?_, h k⟩⟩
 ·rw [h k]; unfold dn1; rw [if_neg (by omega), if_neg (by omega)]
 ·unfold dn1; repeat' split
  all_goals omega
 ·unfold dn1; repeat' split
  all_goals omega
theorem into_up (O : Ord lt) {L L' : List Nat} {a b i : Nat} (h2 : So lt L (a + 1) b) (hi : a + 1 ≤ i) (hb : i ≤ b) (hlo : i = a + 1 ∨ lt (ix L (i - 1)) (ix L a) = true) (hhi : i = b ∨ lt (ix L i) (ix L a) = false)
  (hv : Mv L L' (up1 a (i - 1))) : So lt L' a b := fun x y p1 p2 p3 => by
 have b1 : ∀ k, a + 1 ≤ k → k < i → lt (ix L a) (ix L k) = false := fun k k1 k2 => by
  rcases hlo with h | h
  ·omega
  ·exact O.tr _ _ _ (h2 k (i - 1) k1 (by omega) (by omega)) (O.asy _ _ h)
 have b2 : ∀ k, i ≤ k → k < b → lt (ix L k) (ix L a) = false := fun k k1 k2 => by
  rcases hhi with h | h
  ·omega
  ·exact O.tr _ _ _ h (h2 i k (by omega) k1 k2)
 rw [hv x, hv y]
 unfold up1
 by_cases ex : a ≤ x ∧ x < i - 1
 ·rw [if_pos ex]
  by_cases ey : a ≤ y ∧ y < i - 1
  ·rw [if_pos ey]; exact h2 _ _ (by omega) (by omega) (by omega)
  ·rw [if_neg ey]
   by_cases ey2 : y = i - 1
   ·rw [if_pos ey2]; exact b1 _ (by omega) (by omega)
   ·rw [if_neg ey2]; exact h2 _ _ (by omega) (by omega) (by omega)
 ·rw [if_neg ex]
  by_cases ex2 : x = i - 1
  ·rw [if_pos ex2, if_neg (by omega)]
   by_cases ey2 : y = i - 1
   ·rw [if_pos ey2]; exact O.self _
   ·rw [if_neg ey2]; exact b2 _ (by omega) (by omega)
  ·rw [if_neg ex2, if_neg (by omega), if_neg (by omega)]; exact h2 _ _ (by omega) (by omega) (by omega)
theorem into_dn (O : Ord lt) {L L' : List Nat} {a m i : Nat} (h1 : So lt L a m) (hi : a ≤ i) (hm : i ≤ m) (hlo : i = a ∨ lt (ix L m) (ix L (i - 1)) = false) (hhi : i = m ∨ lt (ix L m) (ix L i) = true)
  (hv : Mv L L' (dn1 m i)) : So lt L' a (m + 1) := fun x y p1 p2 p3 => by
 have b1 : ∀ k, a ≤ k → k < i → lt (ix L m) (ix L k) = false := fun k k1 k2 => by
  rcases hlo with h | h
  ·omega
  ·exact O.tr _ _ _ (h1 k (i - 1) k1 (by omega) (by omega)) h
 have b2 : ∀ k, i ≤ k → k < m → lt (ix L k) (ix L m) = false := fun k k1 k2 => by
  rcases hhi with h | h
  ·omega
  ·exact O.tr _ _ _ (O.asy _ _ h) (h1 i k hi k1 k2)
 rw [hv x, hv y]
 unfold dn1
 by_cases ey : i < y ∧ y ≤ m
 ·rw [if_pos ey]
  by_cases ex : i < x ∧ x ≤ m
  ·rw [if_pos ex]; exact h1 _ _ (by omega) (by omega) (by omega)
  ·rw [if_neg ex]
   by_cases ex2 : x = i
   ·rw [if_pos ex2]; exact b2 _ (by omega) (by omega)
   ·rw [if_neg ex2]; exact h1 _ _ (by omega) (by omega) (by omega)
 ·rw [if_neg ey]
  by_cases ey2 : y = i
  ·rw [if_pos ey2, if_neg (by omega)]
   by_cases ex2 : x = i
   ·rw [if_pos ex2]; exact O.self _
   ·rw [if_neg ex2]; exact b1 _ (by omega) (by omega)
  ·rw [if_neg ey2, if_neg (by omega), if_neg (by omega)]; exact h1 _ _ (by omega) (by omega) (by omega)
def Bl (lt : Nat → Nat → Bool) (L : List Nat) (s n : Nat) : Prop := ∀ k, So lt L (k * s) (min ((k + 1) * s) n)
theorem Bl.all {L : List Nat} {s n : Nat} (h : Bl lt L s n) (hs : n ≤ s) : So lt L 0 n := by
 have := h 0
 rw [Nat.zero_mul, Nat.zero_add, Nat.one_mul, Nat.min_eq_right hs] at this
 exact this
def Bu (lt : Nat → Nat → Bool) (L : List Nat) (s hi : Nat) : Prop := ∀ k, (k + 1) * s ≤ hi → So lt L (k * s) ((k + 1) * s)
def Bf (lt : Nat → Nat → Bool) (L : List Nat) (s n lo : Nat) : Prop := ∀ k, lo ≤ k * s → So lt L (k * s) (min ((k + 1) * s) n)
theorem Bu.zero (L : List Nat) {s : Nat} (hs : 0 < s) : Bu lt L s (0 * s) := fun k hk => by
 have : k + 1 ≤ 0 := Nat.le_of_mul_le_mul_right hk hs
 omega
theorem Bu.next {L L' : List Nat} {s t b : Nat} (h : Bu lt L s (t * s)) (hs : 0 < s) (r : Rg L L' (t * s) b) (h' : So lt L' (t * s) ((t + 1) * s)) : Bu lt L' s ((t + 1) * s) := fun k hk => by
 have hk' : k + 1 ≤ t + 1 := Nat.le_of_mul_le_mul_right hk hs
 by_cases e : k = t
 ·subst e; exact h'
 ·have hk2 : (k + 1) * s ≤ t * s := Nat.mul_le_mul_right s (by omega)
  exact (h k hk2).out r (Or.inl hk2)
theorem Bf.next {L L' : List Nat} {s n lo lo' a b : Nat} (f : Bf lt L s n lo) (r : Rg L L' a b) (hb : b ≤ lo') (hl : lo ≤ lo') : Bf lt L' s n lo' := fun k hk => (f k (Nat.le_trans hl hk)).out r (Or.inr (Nat.le_trans hb hk))
theorem Bl.of {L L' : List Nat} {s n t b : Nat} (hs : 0 < s) (u : Bu lt L s (t * s)) (r : Rg L L' (t * s) b) (w : So lt L' (t * s) n) (hn : n ≤ (t + 1) * s) : Bl lt L' s n := fun k => by
 rcases Nat.lt_trichotomy k t with h | h | h
 ·have hk2 : (k + 1) * s ≤ t * s := Nat.mul_le_mul_right s (by omega)
  exact ((u k hk2).out r (Or.inl hk2)).sub (Nat.le_refl _) (Nat.min_le_left _ _)
 ·subst h; exact w.sub (Nat.le_refl _) (Nat.min_le_right _ _)
 ·have hk2 : (t + 1) * s ≤ k * s := Nat.mul_le_mul_right s (by omega)
  intro i j p1 p2 p3
  have := Nat.min_le_right ((k + 1) * s) n
  omega
theorem Bl.from {L : List Nat} {s n : Nat} (h : Bl lt L s n) (lo : Nat) : Bf lt L s n lo := fun k _ => h k
theorem Bf.two {L : List Nat} {s n t : Nat} (f : Bf lt L s n (t * (2 * s))) (hn : (t + 1) * (2 * s) ≤ n) : So lt L (t * (2 * s)) (t * (2 * s) + s) ∧ So lt L (t * (2 * s) + s) ((t + 1) * (2 * s)) := by
 have e1 : 2 * t * s = t * (2 * s) := by rw [Nat.mul_comm 2 t, Nat.mul_assoc]
 have e2 : (2 * t + 1) * s = t * (2 * s) + s := by rw [Nat.add_mul, e1, Nat.one_mul]
 have e3 : (2 * t + 1 + 1) * s = (t + 1) * (2 * s) := by rw [show 2 * t + 1 + 1 = 2 * (t + 1) by omega, Nat.mul_comm 2 (t + 1), Nat.mul_assoc]
 have e4 : (t + 1) * (2 * s) = t * (2 * s) + 2 * s := by rw [Nat.add_mul, Nat.one_mul]
 have h1 := f (2 * t) (by rw [e1]; exact Nat.le_refl _)
 have h2 := f (2 * t + 1) (by rw [e2]; omega)
 rw [e1, e2, Nat.min_eq_left (by omega)] at h1
 rw [e2, e3, Nat.min_eq_left (by omega)] at h2
 exact ⟨h1, h2⟩
theorem Bf.rest {L : List Nat} {s n t : Nat} (f : Bf lt L s n (t * (2 * s))) (hn : n < (t + 1) * (2 * s)) (hm : t * (2 * s) + s < n) : So lt L (t * (2 * s)) (t * (2 * s) + s) ∧ So lt L (t * (2 * s) + s) n := by
 have e1 : 2 * t * s = t * (2 * s) := by rw [Nat.mul_comm 2 t, Nat.mul_assoc]
 have e2 : (2 * t + 1) * s = t * (2 * s) + s := by rw [Nat.add_mul, e1, Nat.one_mul]
 have e3 : (2 * t + 1 + 1) * s = (t + 1) * (2 * s) := by rw [show 2 * t + 1 + 1 = 2 * (t + 1) by omega, Nat.mul_comm 2 (t + 1), Nat.mul_assoc]
 have h1 := f (2 * t) (by rw [e1]; exact Nat.le_refl _)
 have h2 := f (2 * t + 1) (by rw [e2]; omega)
 rw [e1, e2, Nat.min_eq_left (by omega)] at h1
 rw [e2, e3, Nat.min_eq_right (by omega)] at h2
 exact ⟨h1, h2⟩
theorem Bf.last {L : List Nat} {s n t : Nat} (f : Bf lt L s n (t * (2 * s))) (hm : n ≤ t * (2 * s) + s) : So lt L (t * (2 * s)) n := by
 have e1 : 2 * t * s = t * (2 * s) := by rw [Nat.mul_comm 2 t, Nat.mul_assoc]
 have e2 : (2 * t + 1) * s = t * (2 * s) + s := by rw [Nat.add_mul, e1, Nat.one_mul]
 have h1 := f (2 * t) (by rw [e1]; exact Nat.le_refl _)
 rw [e1, e2, Nat.min_eq_right hm] at h1
 exact h1
end
end Zs
end Go.Proofs.YtoabnpdoicbpiaaGreat
namespace Go.Proofs.YtoabnpdoicbpiaaGreat
set_option linter.unusedVariables false
set_option linter.unusedSimpArgs false
open Go.RowKit Go.Shelf Go.Proofs.YtoabnpdoicbpiaaGreat.Nm Go.Proofs.YtoabnpdoicbpiaaGreat.Zs
def zen (L : List Nat) : List Value := L.map fun (n : Nat) => Value.int .i64 (n : Int)
def Nb (w : World) (g : Nat) (L : List Nat) : Prop := Bx w g (zen L).toArray 3
theorem zen_get {L : List Nat} {k : Nat} (h : k < L.length) : (zen L).toArray[k]? = some (.int .i64 (ix L k : Int)) := by
 rw [List.getElem?_toArray]
 unfold zen
 rw [List.getElem?_map, ix_get? h]
 rfl
theorem Nb.cell {w : World} {g : Nat} {L : List Nat} (h : Nb w g L) {k : Nat} (hk : k < L.length) : w.cell? ⟨g, k, none⟩ = some (.int .i64 (ix L k : Int)) := Bx.cell h (zen_get hk)
theorem Nb.free {w : World} {g : Nat} {L : List Nat} (h : Nb w g L) (k : Nat) : w.frozen? ⟨g, k, none⟩ = false := Bx.free h k
theorem zen_set (L : List Nat) (i v : Nat) : (zen L).toArray.setIfInBounds i (.int .i64 (v : Int)) = (zen (L.set i v)).toArray := by
 rw [List.setIfInBounds_toArray]
 unfold zen
 rw [List.map_set]
theorem Nb.set {w : World} {g : Nat} {L : List Nat} (h : Nb w g L) (i v : Nat) : Nb (w.setCell ⟨g, i, none⟩ (.int .i64 (v : Int))) g (L.set i v) := by
 have := Bx.set h i (.int .i64 (v : Int))
 rw [zen_set] at this
 exact this
theorem Nb.sw {w : World} {g : Nat} {L : List Nat} (h : Nb w g L) (i j : Nat) : Nb ((w.setCell ⟨g, i, none⟩ (.int .i64 (ix L j : Int))).setCell ⟨g, j, none⟩ (.int .i64 (ix L i : Int))) g (sw L i j) := (h.set i (ix L j)).set j (ix L i)
theorem Nb.lt {w : World} {g : Nat} {L : List Nat} (h : Nb w g L) : g < w.heap.size := Bx.lt h
theorem Nb.below {w w' : World} {g n : Nat} {L : List Nat} (h : Nb w g L) (hb : Below n w w') (hn : g < n) : Nb w' g L := Bx.below h hb hn
theorem Nb.any {w : World} {g : Nat} {L : List Nat} (h : Nb w g L) (i v : Nat) {j : Nat} (hj : j < L.length) : ∃ u : Nat, (w.setCell ⟨g, i, none⟩ (.int .i64 (v : Int))).cell? ⟨g, j, none⟩ = some (.int .i64 (u : Int)) :=
 ⟨_, (h.set i v).cell (by simpa using hj)⟩
structure Nw (w wr : World) (g : Nat) (L L' : List Nat) : Prop where
 nb : Nb wr g L'
 pm : L'.Perm L
 gr : w.grownBy wr (some g)
theorem Nw.len {w wr : World} {g : Nat} {L L' : List Nat} (h : Nw w wr g L L') : L'.length = L.length := h.pm.length_eq
theorem Nw.swapped {w wr : World} {g : Nat} {L L' : List Nat} (h : Nw w wr g L L') {i j : Nat} (hi : i < L.length) (hj : j < L.length) : Nw w ((wr.setCell ⟨g, i, none⟩ (.int .i64 (ix L' j : Int))).setCell ⟨g, j, none⟩ (.int .i64 (ix L' i : Int))) g L (sw L' i j) :=
 ⟨h.nb.sw i j, (sw_perm (by rw [h.len]; exact hi) (by rw [h.len]; exact hj)).trans h.pm, grown_trans h.gr (grown_trans (grown_set wr g i _) (grown_set _ g j _))⟩
theorem Nw.drewN {w wr : World} {g : Nat} {L L' : List Nat} (h : Nw w wr g L L') (n : Nat) : Nw w (wr.drewN n) g L L' := ⟨h.nb, h.pm, grown_trans h.gr (grown_drewN _ _ _)⟩
theorem Nw.drew {w wr : World} {g : Nat} {L L' : List Nat} (h : Nw w wr g L L') : Nw w wr.drew g L L' := h.drewN 1
theorem Nw.next {w w1 w2 : World} {g : Nat} {L L1 L2 : List Nat} (h : Nw w w1 g L L1) (k : Nw w1 w2 g L1 L2) : Nw w w2 g L L2 := ⟨k.nb, k.pm.trans h.pm, grown_trans h.gr k.gr⟩
theorem Nw.below {w wr w2 : World} {g : Nat} {L L' : List Nat} (h : Nw w wr g L L') (hb : Below wr.heap.size wr w2) : Nw w w2 g L L' := ⟨h.nb.below hb h.nb.lt, h.pm, grown_trans h.gr (grown_below hb _)⟩
set_option maxRecDepth 100000 in
set_option maxHeartbeats 4000000 in
theorem swapRange_any (fv : Value) (g cap : Nat) (L : List Nat) (a b n : Nat) (w : World) (h : Nb w g L) (hd : a + n ≤ b) (hb : b + n ≤ L.length) (hL : L.length ≤ 1048576) :
  Calls Tryz.prog 145 #[.slice (some ⟨g, 0, none⟩) L.length cap, .int .i64 (a : Int), .int .i64 (b : Int), .int .i64 (n : Int), fv] w fun r w' => r = .returned (.tuple #[]) ∧ ∃ L', Mv L L' (sr a b n) ∧ Nw w w' g L L' := by
 have H0 : Hid (Nw w w g L L) := ⟨h, .refl _, grown_refl _ _⟩
 clear h
 go_enter Tryz.func145, Tryz.ntmps145
 go_wp2_with fail
 go_loopw [10] (fun iv wr => ∃ (i : Nat) (L1 : List Nat), iv = .int .i64 (i : Int) ∧ i ≤ n ∧ Hid (Mv L L1 (sr a b i)) ∧ Hid (Nw w wr g L L1)) (fun iv _ => n - (intOf iv).toNat)
 case atStart => exact ⟨0, L, rfl, Nat.zero_le _, sr_zero L a b, H0⟩
 case round =>
  obtain ⟨i, L1, rfl, hi, HM, HW⟩ := hrel
  by_cases hlt : i < n
  ·have hl1 := HW.out.len
   have ca := HW.out.nb.cell (k := a + i) (by omega)
   have cb := HW.out.nb.cell (k := b + i) (by omega)
   have fa := HW.out.nb.free (a + i)
   have fb := HW.out.nb.free (b + i)
   obtain ⟨u, cu⟩ := HW.out.nb.any (a + i) (ix L1 (b + i)) (j := b + i) (by omega)
   have HN := hide' (HW.out.swapped (i := a + i) (j := b + i) (by omega) (by omega))
   have HS := hide' (sr_next HM.out (by omega) (by omega) (by omega))
   obtain ⟨x, hx⟩ : ∃ x, ix L1 (a + i) = x := ⟨_, rfl⟩
   obtain ⟨y, hy⟩ : ∃ y, ix L1 (b + i) = y := ⟨_, rfl⟩
   rw [hx, hy] at HN
   rw [hx] at ca
   rw [hy] at cb cu
   clear hx hy
   have pa : (0 : Int) ≤ (a : Int) + (i : Int) := by omega
   have ba : (a : Int) + (i : Int) < (L.length : Int) := by omega
   have ra : IntKind.i64.wrap ((a : Int) + (i : Int)) = (a : Int) + (i : Int) := by rw [IntKind.wrap_i64]; omega
   have ea : ((a : Int) + (i : Int)).toNat = a + i := by omega
   have pb : (0 : Int) ≤ (b : Int) + (i : Int) := by omega
   have bb : (b : Int) + (i : Int) < (L.length : Int) := by omega
   have rb : IntKind.i64.wrap ((b : Int) + (i : Int)) = (b : Int) + (i : Int) := by rw [IntKind.wrap_i64]; omega
   have eb : ((b : Int) + (i : Int)).toNat = b + i := by omega
   go_wp2_with fail
   go_region_with (fail)
   all_goals
    go_wp2_with fail
    refine ⟨⟨i + 1, _, by go_num, by omega, HS, HN.out.drew⟩, by simp [intOf]; omega⟩
  ·have hin : i = n := by omega
   subst hin
   go_wp2_with fail
   go_end0
   exact ⟨rfl, L1, HM.out, HW.out⟩
end Go.Proofs.YtoabnpdoicbpiaaGreat
namespace Go.Proofs.YtoabnpdoicbpiaaGreat
set_option linter.unusedVariables false
set_option linter.unusedSimpArgs false
open Go.RowKit Go.Shelf Go.Proofs.YtoabnpdoicbpiaaGreat.Nm Go.Proofs.YtoabnpdoicbpiaaGreat.Zs
theorem swapRange_i (fv : Value) (g cap : Nat) (L : List Nat) (l a b n : Nat) (A B N : Int) (w : World) (hA : A = (a : Int)) (hB : B = (b : Int)) (hN : N = (n : Int)) (hl : l = L.length) (h : Nb w g L) (hd : a + n ≤ b) (hb : b + n ≤ L.length) (hL : L.length ≤ 1048576) :
  Calls Tryz.prog 145 #[.slice (some ⟨g, 0, none⟩) l cap, .int .i64 A, .int .i64 B, .int .i64 N, fv] w fun r w' => r = .returned (.tuple #[]) ∧ ∃ L', Mv L L' (sr a b n) ∧ Nw w w' g L L' := by
 subst hA hB hN hl
 exact swapRange_any fv g cap L a b n w h hd hb hL
theorem mv_same {L L' : List Nat} {f f' : Nat → Nat} (h : Mv L L' f) (e : ∀ k, f k = f' k) : Mv L L' f' := fun k => by rw [h k, e k]
theorem mv_comp {L L1 L2 : List Nat} {f f' : Nat → Nat} (h : Mv L L1 f) (h' : Mv L1 L2 f') : Mv L L2 (fun k => f (f' k)) := fun k => by rw [h' k, h (f' k)]
set_option maxRecDepth 100000 in
set_option maxHeartbeats 4000000 in
theorem rotate_any (fv : Value) (g cap : Nat) (L : List Nat) (a m b : Nat) (w : World) (h : Nb w g L) (ha : a < m) (hm : m < b) (hb : b ≤ L.length) (hL : L.length ≤ 1048576) :
  Calls Tryz.prog 139 #[.slice (some ⟨g, 0, none⟩) L.length cap, .int .i64 (a : Int), .int .i64 (m : Int), .int .i64 (b : Int), fv] w fun r w' => r = .returned (.tuple #[]) ∧ ∃ L', Mv L L' (rt a m b) ∧ Nw w w' g L L' := by
 have H0 : Hid (Nw w w g L L) := ⟨h, .refl _, grown_refl _ _⟩
 have HS := hide' (swapRange_i fv g cap)
 clear h
 go_enter Tryz.func139, Tryz.ntmps139
 go_wp2_with fail
 go_loopw [10, 11] (fun iv jv wr => ∃ (i j : Nat) (L1 : List Nat), iv = .int .i64 (i : Int) ∧ jv = .int .i64 (j : Int) ∧ 0 < i ∧ 0 < j ∧ i ≤ m - a ∧ j ≤ b - m ∧ Hid (∀ L', Mv L1 L' (rt (m - i) m (m + j)) → Mv L L' (rt a m b)) ∧ Hid (Nw w wr g L L1)) (fun iv jv _ => (intOf iv).toNat + (intOf jv).toNat)
 case atStart =>
  refine ⟨m - a, b - m, L, by go_num, by go_num, by omega, by omega, Nat.le_refl _, Nat.le_refl _, ?_, H0⟩
  intro L' h
  rw [show m - (m - a) = a by omega, show m + (b - m) = b by omega] at h
  exact h
 case round =>
  obtain ⟨i, j, L1, rfl, rfl, hi0, hj0, hi, hj, HM, HW⟩ := hrel
  have hl1 := hide' HW.out.len
  rcases Nat.lt_trichotomy i j with hlt | heq | hgt
  ·have ne : ¬ (i : Int) = (j : Int) := by omega
   have ng : ¬ (i : Int) > (j : Int) := by omega
   go_wp2_with (go_at_call 145; refine (HS.out L1 L.length (m - i) (m + j - i) i _ _ _ _ (by omega) (by omega) (by omega) hl1.out.symm HW.out.nb (by omega) (by rw [hl1.out]; omega) (by rw [hl1.out]; omega)).mono ?_; rintro r w2 ⟨rfl, L2, hv2, hw2⟩; have HV2 := hide' hv2; have HW2 := hide' hw2; clear hv2 hw2)
   refine ⟨⟨i, j - i, L2, rfl, by go_num, by omega, by omega, by omega, by omega, ?_, HW.out.next HW2.out⟩, by simp [intOf]; omega⟩
   intro L' h'
   exact HM.out L' (mv_same (mv_comp HV2.out h') fun k => rt_right (by omega) (by omega) hlt k)
  ·subst heq
   go_wp2_with (go_at_call 145; refine (HS.out L1 L.length (m - i) m i _ _ _ _ (by omega) (by omega) (by omega) hl1.out.symm HW.out.nb (by omega) (by rw [hl1.out]; omega) (by rw [hl1.out]; omega)).mono ?_; rintro r w2 ⟨rfl, L2, hv2, hw2⟩; have HV2 := hide' hv2; have HW2 := hide' hw2; clear hv2 hw2)
   go_end0
   exact ⟨rfl, L2, HM.out L2 (mv_same HV2.out fun k => rt_same (by omega) k), HW.out.next HW2.out⟩
  ·have ne : ¬ (i : Int) = (j : Int) := by omega
   have ng : (i : Int) > (j : Int) := by omega
   go_wp2_with (go_at_call 145; refine (HS.out L1 L.length (m - i) m j _ _ _ _ (by omega) (by omega) (by omega) hl1.out.symm HW.out.nb (by omega) (by rw [hl1.out]; omega) (by rw [hl1.out]; omega)).mono ?_; rintro r w2 ⟨rfl, L2, hv2, hw2⟩; have HV2 := hide' hv2; have HW2 := hide' hw2; clear hv2 hw2)
   refine ⟨⟨i - j, j, L2, by go_num, rfl, by omega, by omega, by omega, by omega, ?_, HW.out.next HW2.out⟩, by simp [intOf]; omega⟩
   intro L' h'
   exact HM.out L' (mv_same (mv_comp HV2.out h') fun k => rt_left (by omega) (by omega) hgt k)
end Go.Proofs.YtoabnpdoicbpiaaGreat
namespace Go.Proofs.YtoabnpdoicbpiaaGreat
set_option linter.unusedVariables false
set_option linter.unusedSimpArgs false
open Go.RowKit Go.Shelf Go.Proofs.YtoabnpdoicbpiaaGreat.Nm Go.Proofs.YtoabnpdoicbpiaaGreat.Zs
def Cm (w : World) (g n : Nat) (cv : Value) (lt : Nat → Nat → Bool) : Prop :=
 ∀ (x y : Nat) (W : World), x < n → y < n → w.grownBy W (some g) → Calls Tryz.prog 71 #[.int .i64 (x : Int), .int .i64 (y : Int), cv] W fun r w' => (∃ c : Int, r = .returned (.int .i64 c) ∧ decide (c < 0) = lt x y) ∧ Below W.heap.size W w'
theorem Cm.grown {w w1 : World} {g n : Nat} {cv : Value} {lt : Nat → Nat → Bool} (h : Cm w g n cv lt) (hg : w.grownBy w1 (some g)) : Cm w1 g n cv lt := fun x y W hx hy hW => h x y W hx hy (grown_trans hg hW)
abbrev cmf (cv : Value) : Value := .func (Fn.func 71) #[] #[cv]
set_option maxRecDepth 100000 in
set_option maxHeartbeats 1000000 in
theorem insertion_any (cv : Value) (lt : Nat → Nat → Bool) (O : Ord lt) (g cap n : Nat) (L : List Nat) (a b : Nat) (w : World) (h : Nb w g L) (hC : Cm w g n cv lt) (hn : ∀ x ∈ L, x < n) (ha : a ≤ b) (hb : b ≤ L.length) (hL : L.length ≤ 1048576) :
  Calls Tryz.prog 122 #[.slice (some ⟨g, 0, none⟩) L.length cap, .int .i64 (a : Int), .int .i64 (b : Int), cmf cv] w fun r w' => r = .returned (.tuple #[]) ∧ ∃ L', Rg L L' a b ∧ So lt L' a b ∧ Nw w w' g L L' := by
 have H0 : Hid (Nw w w g L L) := ⟨h, .refl _, grown_refl _ _⟩
 have HC := hide' hC
 have HN := hide' hn
 have HO := hide' O
 clear h hC hn O
 go_enter Tryz.func122, Tryz.ntmps122
 go_wp2_with fail
 go_loopw [8] (fun iv wr => ∃ (i : Nat) (L1 : List Nat), iv = .int .i64 (i : Int) ∧ a < i ∧ i ≤ b + 1 ∧ Hid (Rg L L1 a b) ∧ Hid (So lt L1 a i) ∧ Hid (Nw w wr g L L1)) (fun iv _ => b + 1 - (intOf iv).toNat)
 case atStart => exact ⟨a + 1, L, by go_num, by omega, by omega, Rg.refl L a b, So.one HO.out L (Nat.le_refl _), H0⟩
 case round =>
  obtain ⟨i, L1, rfl, hai, hib, HR, HS, HW⟩ := hrel
  by_cases hlt : i < b
  ·go_wp2_with fail
   go_loopw [9] (fun jv wr2 => ∃ (j : Nat) (L2 : List Nat), jv = .int .i64 (j : Int) ∧ a ≤ j ∧ j ≤ i ∧ Hid (Mv L1 L2 (dn1 i j)) ∧ Hid (j = i ∨ lt (ix L1 i) (ix L1 j) = true) ∧ Hid (Nw w wr2 g L L2)) (fun jv _ => (intOf jv).toNat)
   case atStart => exact ⟨i, L1, rfl, by omega, Nat.le_refl _, dn1_zero L1 i, Or.inl rfl, HW⟩
   case round =>
    obtain ⟨j, L2, rfl, haj, hji, HM, HX, HV⟩ := hrel
    have hl1 := HW.out.len
    have hl2 := HV.out.len
    have HE : Hid ((j = a ∨ lt (ix L1 i) (ix L1 (j - 1)) = false) → Rg L L2 a b ∧ So lt L2 a (i + 1)) := fun hs =>
     ⟨HR.out.trans (dn1_rg HM.out (HV.out.pm.trans HW.out.pm.symm) haj hji (by omega)), into_dn HO.out HS.out haj hji hs HX.out HM.out⟩
    by_cases hja : a < j
    ·obtain ⟨q, rfl⟩ : ∃ q, j = q + 1 := ⟨j - 1, by omega⟩
     have m1 : ix L2 (q + 1) = ix L1 i := by rw [HM.out (q + 1)]; unfold dn1; rw [if_neg (by omega), if_pos rfl]
     have m2 : ix L2 q = ix L1 q := by rw [HM.out q]; unfold dn1; rw [if_neg (by omega), if_neg (by omega)]
     have xn : ix L1 i < n := HN.out _ (HW.out.pm.mem_iff.1 (ix_mem (by omega)))
     have yn : ix L1 q < n := HN.out _ (HW.out.pm.mem_iff.1 (ix_mem (by omega)))
     have HK : Hid (∀ W, wr.grownBy W (some g) → Calls Tryz.prog 71 #[.int .i64 (ix L1 i : Int), .int .i64 (ix L1 q : Int), cv] W fun r w' => (∃ c : Int, r = .returned (.int .i64 c) ∧ decide (c < 0) = lt (ix L1 i) (ix L1 q)) ∧ Below W.heap.size W w') :=
      fun W hW => HC.out _ _ W xn yn (grown_trans HV.out.gr hW)
     have HMN := hide' (dn1_next HM.out (by omega) hji (by omega))
     have HVN : Hid (∀ W, Nw w W g L L2 → Nw w ((W.setCell ⟨g, q + 1, none⟩ (.int .i64 (ix L1 q : Int))).setCell ⟨g, q, none⟩ (.int .i64 (ix L1 i : Int))) g L (sw L2 (q + 1) q)) := fun W hW => by
      have := hW.swapped (i := q + 1) (j := q) (by omega) (by omega)
      rw [m1, m2] at this
      exact this
     have HCU : Hid (∀ W, Nw w W g L L2 → ∃ u : Nat, (W.setCell ⟨g, q + 1, none⟩ (.int .i64 (ix L1 q : Int))).cell? ⟨g, q, none⟩ = some (.int .i64 (u : Int))) := fun W hW => hW.nb.any (q + 1) (ix L1 q) (by rw [hW.len]; omega)
     have HCA : Hid (∀ W, Nw w W g L L2 → W.cell? ⟨g, q + 1, none⟩ = some (.int .i64 (ix L1 i : Int)) ∧ W.cell? ⟨g, q, none⟩ = some (.int .i64 (ix L1 q : Int))) := fun W hW => by
      have ca := hW.nb.cell (k := q + 1) (by rw [hW.len]; omega)
      have cb := hW.nb.cell (k := q) (by rw [hW.len]; omega)
      rw [m1] at ca
      rw [m2] at cb
      exact ⟨ca, cb⟩
     rw [Nat.add_sub_cancel] at HMN HE
     obtain ⟨x, hx⟩ : ∃ x, ix L1 i = x := ⟨_, rfl⟩
     obtain ⟨y, hy⟩ : ∃ y, ix L1 q = y := ⟨_, rfl⟩
     have HX1 : Hid (lt x y = true → (q = i ∨ lt (ix L1 i) (ix L1 q) = true)) := fun h => Or.inr (by rw [hx, hy]; exact h)
     rw [hx, hy] at HK HVN HCA HE
     rw [hy] at HCU
     clear m1 m2 xn yn hx hy
     have hgt : (q : Int) + 1 > (a : Int) := by omega
     have hgd : decide ((q : Int) + 1 > (a : Int)) = true := decide_eq_true hgt
     have pa : (0 : Int) ≤ (q : Int) + 1 := by omega
     have ra : IntKind.i64.wrap ((q : Int) + 1) = (q : Int) + 1 := by rw [IntKind.wrap_i64]; omega
     have ea : ((q : Int) + 1).toNat = q + 1 := by omega
     have ba : (q : Int) + 1 < (L.length : Int) := by omega
     have bb : (q : Int) < (L.length : Int) := by omega
     have pb : (0 : Int) ≤ (q : Int) := by omega
     have rb : IntKind.i64.wrap (q : Int) = (q : Int) := by rw [IntKind.wrap_i64]; omega
     obtain ⟨ca, cb⟩ := HCA.out _ HV.out
     cases hlv : lt x y with
     | true =>
      rw [hlv] at HK HE
      have HLV := hide' hlv
      clear hlv
      go_wp2_with fail
      go_region_held3 (fun V => V.cell? ⟨g, q + 1, none⟩ = some (.int .i64 (x : Int)) ∧ V.cell? ⟨g, q, none⟩ = some (.int .i64 (y : Int))) (first | go_keep | exact HCA.out _ HV2.out) ((go_at_call 71; refine (HK.out _ (grown_drewN _ 1 _)).mono ?_; rintro r w2 ⟨⟨c, rfl, hc⟩, hB2⟩; have hcn : c < 0 := of_decide_eq_true hc; have HV2 := hide' (HV.out.drew.below hB2); clear hB2))
      go_wp2_with fail
      obtain ⟨c1, c2⟩ := HCA.out _ HV2.out
      obtain ⟨u, c3⟩ := HCU.out _ HV2.out
      have f1 := HV2.out.nb.free (q + 1)
      have f2 := HV2.out.nb.free q
      have HV3 := hide' (HVN.out _ HV2.out)
      go_region_with (fail)
      all_goals
       go_wp2_with fail
       refine ⟨⟨q, _, by go_num, by omega, by omega, HMN, HX1.out HLV.out, HV3.out.drew⟩, by simp [intOf]⟩
     | false =>
      rw [hlv] at HK HE
      have HLV := hide' hlv
      clear hlv
      go_wp2_with fail
      go_region_held3 (fun V => V.cell? ⟨g, q + 1, none⟩ = some (.int .i64 (x : Int)) ∧ V.cell? ⟨g, q, none⟩ = some (.int .i64 (y : Int))) (first | go_keep | exact HCA.out _ HV2.out) ((go_at_call 71; refine (HK.out _ (grown_drewN _ 1 _)).mono ?_; rintro r w2 ⟨⟨c, rfl, hc⟩, hB2⟩; have hcn : ¬ c < 0 := of_decide_eq_false hc; have HV2 := hide' (HV.out.drew.below hB2); clear hB2))
      go_wp2_with fail
      obtain ⟨q1, q2⟩ := HE.out (by simp)
      refine ⟨⟨i + 1, L2, by go_num, by omega, by omega, q1, q2, HV2⟩, by simp [intOf]; omega⟩
    ·have hjj : j = a := by omega
     subst hjj
     have hng : ¬ (j : Int) > (j : Int) := by omega
     have hngd : decide ((j : Int) > (j : Int)) = false := decide_eq_false hng
     obtain ⟨q1, q2⟩ := HE.out (Or.inl rfl)
     have Q1 := hide' q1
     have Q2 := hide' q2
     clear q1 q2
     go_wp2_with fail
     go_region
     go_wp2_with fail
     refine ⟨⟨i + 1, L2, by go_num, by omega, by omega, Q1, Q2, HV.out.drew⟩, by simp [intOf]; omega⟩
  ·go_wp2_with fail
   go_end0
   exact ⟨rfl, L1, HR.out, HS.out.sub (Nat.le_refl _) (by omega), HW.out⟩
end Go.Proofs.YtoabnpdoicbpiaaGreat
