import Derived.ProofKit
/-
  Proofs: a row that is sorted by merging in place, plainly. (The verifier's own text.)
-/
namespace Go.Proofs.Ytelboefeomnjaaa
set_option linter.unusedVariables false
set_option linter.unusedSimpArgs false
namespace Zs

/-- what stands at a place -/
def ix (L : List Nat) (i : Nat) : Nat := L.getD i 0
/-- two places change -/
def sw (L : List Nat) (i j : Nat) : List Nat := (L.set i (ix L j)).set j (ix L i)
theorem sw_len (L : List Nat) (i j : Nat) : (sw L i j).length = L.length := by simp [sw]
theorem ix_get {L : List Nat} {i : Nat} (h : i < L.length) : L[i] = ix L i := by simp [ix, List.getD, h]
theorem ix_get? {L : List Nat} {i : Nat} (h : i < L.length) : L[i]? = some (ix L i) := by rw [List.getElem?_eq_getElem h, ix_get h]
theorem ix_mem {L : List Nat} {i : Nat} (h : i < L.length) : ix L i ∈ L := by rw [← ix_get h]; exact List.getElem_mem h
theorem ix_set {L : List Nat} {i : Nat} (v : Nat) (h : i < L.length) (k : Nat) : ix (L.set i v) k = if k = i then v else ix L k := by
  unfold ix List.getD
  rw [List.getElem?_set]
  by_cases e : k = i
  · subst e; simp [h]
  · rw [if_neg (fun h => e h.symm), if_neg e]
theorem ix_sw {L : List Nat} {i j : Nat} (hi : i < L.length) (hj : j < L.length) (k : Nat) : ix (sw L i j) k = if k = j then ix L i else if k = i then ix L j else ix L k := by
  unfold sw
  rw [ix_set _ (by simpa using hj), ix_set _ hi]
theorem sw_perm {L : List Nat} {i j : Nat} (hi : i < L.length) (hj : j < L.length) : (sw L i j).Perm L := by
  unfold sw
  rw [← ix_get hi, ← ix_get hj]
  exact List.set_set_perm hi hj

/-- an order in which some may be like each other -/
structure Ord (lt : Nat → Nat → Bool) : Prop where
  asy : ∀ x y, lt x y = true → lt y x = false
  tr : ∀ x y z, lt y x = false → lt z y = false → lt z x = false
/-- from a up to b the row rises -/
def So (lt : Nat → Nat → Bool) (L : List Nat) (a b : Nat) : Prop := ∀ i j, a ≤ i → i ≤ j → j < b → lt (ix L j) (ix L i) = false
/-- outside of a up to b nothing has turned, and within it stands what stood there -/
structure Rg (L L' : List Nat) (a b : Nat) : Prop where
  perm : L'.Perm L
  out : ∀ k, k < a ∨ b ≤ k → ix L' k = ix L k
  ins : ∀ k, a ≤ k → k < b → ∃ k', a ≤ k' ∧ k' < b ∧ ix L' k = ix L k'
theorem Rg.refl (L : List Nat) (a b : Nat) : Rg L L a b := ⟨.refl _, fun _ _ => rfl, fun k h1 h2 => ⟨k, h1, h2, rfl⟩⟩
theorem Rg.len {L L' : List Nat} {a b : Nat} (h : Rg L L' a b) : L'.length = L.length := h.perm.length_eq
theorem Rg.trans {L L' L'' : List Nat} {a b : Nat} (h : Rg L L' a b) (g : Rg L' L'' a b) : Rg L L'' a b :=
  ⟨g.perm.trans h.perm, fun k hk => (g.out k hk).trans (h.out k hk), fun k h1 h2 => by
    obtain ⟨k', p1, p2, p3⟩ := g.ins k h1 h2
    obtain ⟨q, q1, q2, q3⟩ := h.ins k' p1 p2
    exact ⟨q, q1, q2, p3.trans q3⟩⟩
theorem Rg.wide {L L' : List Nat} {a b c d : Nat} (h : Rg L L' a b) (hc : c ≤ a) (hd : b ≤ d) : Rg L L' c d :=
  ⟨h.perm, fun k hk => h.out k (by omega), fun k h1 h2 => by
    by_cases e : a ≤ k ∧ k < b
    · obtain ⟨k', p1, p2, p3⟩ := h.ins k e.1 e.2
      exact ⟨k', by omega, by omega, p3⟩
    · exact ⟨k, h1, h2, h.out k (by omega)⟩⟩
theorem Rg.sw {L : List Nat} {i j a b : Nat} (hi : a ≤ i) (hi' : i < b) (hj : a ≤ j) (hj' : j < b) (hb : b ≤ L.length) : Rg L (sw L i j) a b := by
  refine ⟨sw_perm (by omega) (by omega), fun k hk => ?_, fun k h1 h2 => ?_⟩
  · rw [ix_sw (by omega) (by omega), if_neg (by omega), if_neg (by omega)]
  · rw [ix_sw (by omega) (by omega)]
    split
    · exact ⟨i, hi, hi', rfl⟩
    · split
      · exact ⟨j, hj, hj', rfl⟩
      · exact ⟨k, h1, h2, rfl⟩
section
variable {lt : Nat → Nat → Bool}
theorem So.out {L L' : List Nat} {a b c d : Nat} (h : So lt L c d) (g : Rg L L' a b) (hd : d ≤ a ∨ b ≤ c) : So lt L' c d := fun i j h1 h2 h3 => by
  rw [g.out i (by omega), g.out j (by omega)]; exact h i j h1 h2 h3
theorem So.sub {L : List Nat} {a b c d : Nat} (h : So lt L a b) (hc : a ≤ c) (hd : d ≤ b) : So lt L c d := fun i j h1 h2 h3 => h i j (by omega) h2 (by omega)
theorem So.one (O : Ord lt) (L : List Nat) {a b : Nat} (h : b ≤ a + 1) : So lt L a b := fun i j h1 h2 h3 => by
  have : i = j := by omega
  subst this
  cases e : lt (ix L i) (ix L i)
  · rfl
  · have := O.asy _ _ e; rw [e] at this; cases this
theorem Ord.self (O : Ord lt) (x : Nat) : lt x x = false := by
  cases e : lt x x
  · rfl
  · have := O.asy _ _ e; rw [e] at this; cases this
/-- two parts, of which the one is ahead of the other -/
theorem So.join (O : Ord lt) {L : List Nat} {a m b : Nat} (h1 : So lt L a m) (h2 : So lt L m b) (hx : ∀ i j, a ≤ i → i < m → m ≤ j → j < b → lt (ix L j) (ix L i) = false) : So lt L a b := fun i j p1 p2 p3 => by
  by_cases e : j < m
  · exact h1 i j p1 p2 e
  · by_cases e2 : i < m
    · exact hx i j p1 e2 (by omega) p3
    · exact h2 i j (by omega) p2 p3

/-! ### rows that turn -/
/-- where what stands at k comes from, when the part from a up to m and the one up to b have changed places -/
def rt (a m b k : Nat) : Nat := if k < a then k else if k < a + (b - m) then k + (m - a) else if k < b then k - (b - m) else k
/-- two parts of n have changed places -/
def sr (a b n k : Nat) : Nat := if a ≤ k ∧ k < a + n then k - a + b else if b ≤ k ∧ k < b + n then k - b + a else k
/-- the rows: what stands at k stood at f k -/
def Mv (L L' : List Nat) (f : Nat → Nat) : Prop := ∀ k, ix L' k = ix L (f k)
theorem sr_next {L L' : List Nat} {a b i : Nat} (h : Mv L L' (sr a b i)) (ha : a + i < L'.length) (hb : b + i < L'.length) (hd : a + i < b) : Mv L (sw L' (a + i) (b + i)) (sr a b (i + 1)) := fun k => by
  rw [ix_sw ha hb, h (a + i), h (b + i), h k]
  by_cases e1 : k = b + i
  · rw [if_pos e1]; congr 1; unfold sr; (repeat' split) <;> omega
  · rw [if_neg e1]
    by_cases e2 : k = a + i
    · rw [if_pos e2]; congr 1; unfold sr; (repeat' split) <;> omega
    · rw [if_neg e2]; congr 1; unfold sr; (repeat' split) <;> omega
theorem sr_zero (L : List Nat) (a b : Nat) : Mv L L (sr a b 0) := fun k => by
  congr 1; unfold sr; (repeat' split) <;> omega
/-- the longer one is the first: its beginning goes behind -/
theorem rt_left {m i j : Nat} (hi : i ≤ m) (hj : 0 < j) (h : j < i) (k : Nat) : sr (m - i) m j (rt (m - (i - j)) m (m + j) k) = rt (m - i) m (m + j) k := by
  unfold rt sr
  (repeat' split) <;> omega
/-- the longer one is the second: its end comes ahead -/
theorem rt_right {m i j : Nat} (hi : i ≤ m) (hp : 0 < i) (h : i < j) (k : Nat) : sr (m - i) (m + j - i) i (rt (m - i) m (m + (j - i)) k) = rt (m - i) m (m + j) k := by
  unfold rt sr
  (repeat' split) <;> omega
theorem rt_same {m i : Nat} (hi : i ≤ m) (k : Nat) : sr (m - i) m i k = rt (m - i) m (m + i) k := by
  unfold rt sr
  (repeat' split) <;> omega
/-- a row that has turned within a part -/
theorem Mv.rg {L L' : List Nat} {a m b : Nat} (h : Mv L L' (rt a m b)) (hp : L'.Perm L) (ha : a ≤ m) (hb : m ≤ b) : Rg L L' a b := by
  refine ⟨hp, fun k hk => ?_, fun k h1 h2 => ⟨rt a m b k, ?_, ?_, h k⟩⟩
  · rw [h k]; unfold rt
    rcases hk with hk | hk
    · rw [if_pos hk]
    · by_cases e : k < a
      · rw [if_pos e]
      · rw [if_neg e, if_neg (by omega), if_neg (by omega)]
  · unfold rt; (repeat' split) <;> omega
  · unfold rt; (repeat' split) <;> omega

/-! ### merging -/
/-- the halves, when the part from s up to m and the one up to e have changed places -/
structure Hv (lt : Nat → Nat → Bool) (L' : List Nat) (a s mid e b : Nat) : Prop where
  p1 : So lt L' a s
  p2 : So lt L' s mid
  p3 : So lt L' mid e
  p4 : So lt L' e b
  low : ∀ i j, a ≤ i → i < mid → mid ≤ j → j < b → lt (ix L' j) (ix L' i) = false
/-- where the search has ended -/
structure Fd (lt : Nat → Nat → Bool) (L : List Nat) (lo hi p s : Nat) : Prop where
  ge : lo ≤ s
  le : s ≤ hi
  lf : s = lo ∨ lt (ix L (p - (s - 1))) (ix L (s - 1)) = false
  rg : s = hi ∨ lt (ix L (p - s)) (ix L s) = true
theorem halves (O : Ord lt) {L L' : List Nat} {a m b mid s e lo hi : Nat} (hm : a < m) (hb : m < b) (hmid : mid = (a + b) / 2) (h2n : a + 2 ≤ b) (he : e = mid + m - s)
    (hlo : lo = if mid < m then mid + m - b else a) (hhi : hi = if mid < m then mid else m)
    (h1 : So lt L a m) (h2 : So lt L m b) (F : Fd lt L lo hi (mid + m - 1) s) (hv : Mv L L' (rt s m e)) : Hv lt L' a s mid e b := by
  obtain ⟨f1, f2, f3, f4⟩ := F
  have hb1 : a < mid ∧ mid < b := by omega
  have hs : a ≤ s ∧ s ≤ m ∧ s ≤ mid := by
    by_cases e : mid < m
    · rw [if_pos e] at hlo hhi; omega
    · rw [if_neg e] at hlo hhi; omega
  have hE : m ≤ e ∧ e ≤ b ∧ mid ≤ e := by
    by_cases e : mid < m
    · rw [if_pos e] at hlo hhi; omega
    · rw [if_neg e] at hlo hhi; omega
  have v1 : ∀ k, k < s → ix L' k = ix L k := fun k hk => by rw [hv k]; unfold rt; rw [if_pos hk]
  have v2 : ∀ k, s ≤ k → k < mid → ix L' k = ix L (k + (m - s)) := fun k h1 h2 => by rw [hv k]; unfold rt; rw [if_neg (by omega), if_pos (by omega)]
  have v3 : ∀ k, mid ≤ k → k < e → ix L' k = ix L (k - (e - m)) := fun k h1 h2 => by rw [hv k]; unfold rt; rw [if_neg (by omega), if_neg (by omega), if_pos h2]
  have v4 : ∀ k, e ≤ k → ix L' k = ix L k := fun k h1 => by rw [hv k]; unfold rt; rw [if_neg (by omega), if_neg (by omega), if_neg (by omega)]
  have x1 : ∀ i j, a ≤ i → i < s → e ≤ j → j < b → lt (ix L j) (ix L i) = false := fun i j p1 p2 p3 p4 => by
    have hk : lt (ix L e) (ix L (s - 1)) = false := by
      rcases f3 with f3 | f3
      · exfalso
        by_cases e : mid < m
        · rw [if_pos e] at hlo; omega
        · rw [if_neg e] at hlo; omega
      · rw [show mid + m - 1 - (s - 1) = e by omega] at f3; exact f3
    exact O.tr _ _ _ (h1 i (s - 1) p1 (by omega) (by omega)) (O.tr _ _ _ hk (h2 e j (by omega) p3 p4))
  have x2 : ∀ i j, m ≤ i → i < e → s ≤ j → j < m → lt (ix L j) (ix L i) = false := fun i j p1 p2 p3 p4 => by
    have hk : lt (ix L s) (ix L (e - 1)) = false := by
      rcases f4 with f4 | f4
      · exfalso
        by_cases e : mid < m
        · rw [if_pos e] at hhi; omega
        · rw [if_neg e] at hhi; omega
      · rw [show mid + m - 1 - s = e - 1 by omega] at f4; exact O.asy _ _ f4
    exact O.tr _ _ _ (h2 i (e - 1) p1 (by omega) (by omega)) (O.tr _ _ _ hk (h1 s j (by omega) p3 p4))
  refine ⟨fun i j q1 q2 q3 => ?_, fun i j q1 q2 q3 => ?_, fun i j q1 q2 q3 => ?_, fun i j q1 q2 q3 => ?_, fun i j q1 q2 q3 q4 => ?_⟩
  · rw [v1 i (by omega), v1 j (by omega)]; exact h1 i j q1 q2 (by omega)
  · rw [v2 i q1 (by omega), v2 j (by omega) q3]; exact h2 _ _ (by omega) (by omega) (by omega)
  · rw [v3 i q1 (by omega), v3 j (by omega) q3]; exact h1 _ _ (by omega) (by omega) (by omega)
  · rw [v4 i q1, v4 j (by omega)]; exact h2 _ _ (by omega) (by omega) (by omega)
  · by_cases c1 : i < s
    · rw [v1 i c1]
      by_cases c2 : j < e
      · rw [v3 j q3 c2]; exact h1 _ _ q1 (by omega) (by omega)
      · rw [v4 j (by omega)]; exact x1 i j q1 c1 (by omega) q4
    · rw [v2 i (by omega) q2]
      by_cases c2 : j < e
      · rw [v3 j q3 c2]; exact x2 _ _ (by omega) (by omega) (by omega) (by omega)
      · rw [v4 j (by omega)]; exact h2 _ _ (by omega) (by omega) (by omega)
/-- both halves are merged -/
theorem whole (O : Ord lt) {L L1 L2 : List Nat} {a s mid e b : Nat} (h : Hv lt L a s mid e b) (h1 : a ≤ s) (h2 : s ≤ mid) (h3 : mid ≤ e) (h4 : e ≤ b)
    (r1 : Rg L L1 a mid) (r2 : Rg L1 L2 mid b) (s1 : So lt L1 a mid) (s2 : So lt L2 mid b) : So lt L2 a b := by
  refine So.join O (s1.out r2 (Or.inl (Nat.le_refl _))) s2 fun i j p1 p2 p3 p4 => ?_
  rw [r2.out i (Or.inl p2)]
  obtain ⟨i', q1, q2, q3⟩ := r1.ins i p1 p2
  obtain ⟨j', t1, t2, t3⟩ := r2.ins j p3 p4
  rw [q3, t3, r1.out j' (Or.inr t1)]
  exact h.low i' j' q1 q2 t1 t2

/-! ### one goes into a part -/
/-- what stood at a stands at i, those between have gone back by one -/
def up1 (a i k : Nat) : Nat := if a ≤ k ∧ k < i then k + 1 else if k = i then a else k
/-- what stood at m stands at i, those between have gone on by one -/
def dn1 (m i k : Nat) : Nat := if i < k ∧ k ≤ m then k - 1 else if k = i then m else k
theorem up1_next {L L' : List Nat} {a k : Nat} (h : Mv L L' (up1 a k)) (ha : a ≤ k) (hk : k + 1 < L'.length) : Mv L (sw L' k (k + 1)) (up1 a (k + 1)) := fun j => by
  rw [ix_sw (by omega) hk, h k, h (k + 1), h j]
  unfold up1
  by_cases e1 : j = k + 1
  · subst e1
    rw [if_pos rfl, if_neg (by omega), if_pos rfl, if_neg (by omega), if_pos rfl]
  · rw [if_neg e1]
    by_cases e2 : j = k
    · subst e2
      rw [if_pos rfl, if_neg (by omega), if_neg (by omega), if_pos (by omega)]
    · rw [if_neg e2]
      by_cases e3 : a ≤ j ∧ j < k
      · rw [if_pos e3, if_pos (by omega)]
      · rw [if_neg e3, if_neg e2, if_neg (by omega), if_neg e1]
theorem up1_zero (L : List Nat) (a : Nat) : Mv L L (up1 a a) := fun k => by
  unfold up1
  rw [if_neg (by omega)]
  by_cases e : k = a
  · rw [if_pos e, e]
  · rw [if_neg e]
theorem dn1_next {L L' : List Nat} {m k : Nat} (h : Mv L L' (dn1 m k)) (hk : 0 < k) (hm : k ≤ m) (hl : k < L'.length) : Mv L (sw L' k (k - 1)) (dn1 m (k - 1)) := fun j => by
  rw [ix_sw hl (by omega), h k, h (k - 1), h j]
  unfold dn1
  by_cases e1 : j = k - 1
  · subst e1
    rw [if_pos rfl, if_neg (by omega), if_pos rfl, if_neg (by omega), if_pos rfl]
  · rw [if_neg e1]
    by_cases e2 : j = k
    · subst e2
      rw [if_pos rfl, if_neg (by omega), if_neg (by omega), if_pos (by omega)]
    · rw [if_neg e2]
      by_cases e3 : k < j ∧ j ≤ m
      · rw [if_pos e3, if_pos (by omega)]
      · rw [if_neg e3, if_neg e2, if_neg (by omega), if_neg e1]
theorem dn1_zero (L : List Nat) (m : Nat) : Mv L L (dn1 m m) := fun k => by
  unfold dn1
  rw [if_neg (by omega)]
  by_cases e : k = m
  · rw [if_pos e, e]
  · rw [if_neg e]
theorem up1_rg {L L' : List Nat} {a i b : Nat} (h : Mv L L' (up1 a i)) (hp : L'.Perm L) (hi : a ≤ i) (hb : i < b) : Rg L L' a b := by
  refine ⟨hp, fun k hk => ?_, fun k h1 h2 => ⟨up1 a i k, ?_, ?_, h k⟩⟩
  · rw [h k]; unfold up1; rw [if_neg (by omega), if_neg (by omega)]
  · unfold up1; repeat' split
    all_goals omega
  · unfold up1; repeat' split
    all_goals omega
theorem dn1_rg {L L' : List Nat} {m i a b : Nat} (h : Mv L L' (dn1 m i)) (hp : L'.Perm L) (hi : a ≤ i) (hm : i ≤ m) (hb : m < b) : Rg L L' a b := by
  refine ⟨hp, fun k hk => ?_, fun k h1 h2 => ⟨dn1 m i k, ?_, ?_, h k⟩⟩
  · rw [h k]; unfold dn1; rw [if_neg (by omega), if_neg (by omega)]
  · unfold dn1; repeat' split
    all_goals omega
  · unfold dn1; repeat' split
    all_goals omega
/-- the first goes into those behind it -/
theorem into_up (O : Ord lt) {L L' : List Nat} {a b i : Nat} (h2 : So lt L (a + 1) b) (hi : a + 1 ≤ i) (hb : i ≤ b) (hlo : i = a + 1 ∨ lt (ix L (i - 1)) (ix L a) = true) (hhi : i = b ∨ lt (ix L i) (ix L a) = false)
    (hv : Mv L L' (up1 a (i - 1))) : So lt L' a b := fun x y p1 p2 p3 => by
  have b1 : ∀ k, a + 1 ≤ k → k < i → lt (ix L a) (ix L k) = false := fun k k1 k2 => by
    rcases hlo with h | h
    · omega
    · exact O.tr _ _ _ (h2 k (i - 1) k1 (by omega) (by omega)) (O.asy _ _ h)
  have b2 : ∀ k, i ≤ k → k < b → lt (ix L k) (ix L a) = false := fun k k1 k2 => by
    rcases hhi with h | h
    · omega
    · exact O.tr _ _ _ h (h2 i k (by omega) k1 k2)
  rw [hv x, hv y]
  unfold up1
  by_cases ex : a ≤ x ∧ x < i - 1
  · rw [if_pos ex]
    by_cases ey : a ≤ y ∧ y < i - 1
    · rw [if_pos ey]; exact h2 _ _ (by omega) (by omega) (by omega)
    · rw [if_neg ey]
      by_cases ey2 : y = i - 1
      · rw [if_pos ey2]; exact b1 _ (by omega) (by omega)
      · rw [if_neg ey2]; exact h2 _ _ (by omega) (by omega) (by omega)
  · rw [if_neg ex]
    by_cases ex2 : x = i - 1
    · rw [if_pos ex2, if_neg (by omega)]
      by_cases ey2 : y = i - 1
      · rw [if_pos ey2]; exact O.self _
      · rw [if_neg ey2]; exact b2 _ (by omega) (by omega)
    · rw [if_neg ex2, if_neg (by omega), if_neg (by omega)]; exact h2 _ _ (by omega) (by omega) (by omega)
/-- the last goes into those ahead of it -/
theorem into_dn (O : Ord lt) {L L' : List Nat} {a m i : Nat} (h1 : So lt L a m) (hi : a ≤ i) (hm : i ≤ m) (hlo : i = a ∨ lt (ix L m) (ix L (i - 1)) = false) (hhi : i = m ∨ lt (ix L m) (ix L i) = true)
    (hv : Mv L L' (dn1 m i)) : So lt L' a (m + 1) := fun x y p1 p2 p3 => by
  have b1 : ∀ k, a ≤ k → k < i → lt (ix L m) (ix L k) = false := fun k k1 k2 => by
    rcases hlo with h | h
    · omega
    · exact O.tr _ _ _ (h1 k (i - 1) k1 (by omega) (by omega)) h
  have b2 : ∀ k, i ≤ k → k < m → lt (ix L k) (ix L m) = false := fun k k1 k2 => by
    rcases hhi with h | h
    · omega
    · exact O.tr _ _ _ (O.asy _ _ h) (h1 i k hi k1 k2)
  rw [hv x, hv y]
  unfold dn1
  by_cases ey : i < y ∧ y ≤ m
  · rw [if_pos ey]
    by_cases ex : i < x ∧ x ≤ m
    · rw [if_pos ex]; exact h1 _ _ (by omega) (by omega) (by omega)
    · rw [if_neg ex]
      by_cases ex2 : x = i
      · rw [if_pos ex2]; exact b2 _ (by omega) (by omega)
      · rw [if_neg ex2]; exact h1 _ _ (by omega) (by omega) (by omega)
  · rw [if_neg ey]
    by_cases ey2 : y = i
    · rw [if_pos ey2, if_neg (by omega)]
      by_cases ex2 : x = i
      · rw [if_pos ex2]; exact O.self _
      · rw [if_neg ex2]; exact b1 _ (by omega) (by omega)
    · rw [if_neg ey2, if_neg (by omega), if_neg (by omega)]; exact h1 _ _ (by omega) (by omega) (by omega)

/-! ### blocks -/
/-- every block of s is in order, of the first n -/
def Bl (lt : Nat → Nat → Bool) (L : List Nat) (s n : Nat) : Prop := ∀ k, So lt L (k * s) (min ((k + 1) * s) n)
theorem Bl.all {L : List Nat} {s n : Nat} (h : Bl lt L s n) (hs : n ≤ s) : So lt L 0 n := by
  have := h 0
  rw [Nat.zero_mul, Nat.zero_add, Nat.one_mul, Nat.min_eq_right hs] at this
  exact this
/-- the blocks of s up to a place are in order -/
def Bu (lt : Nat → Nat → Bool) (L : List Nat) (s hi : Nat) : Prop := ∀ k, (k + 1) * s ≤ hi → So lt L (k * s) ((k + 1) * s)
/-- those from a place on -/
def Bf (lt : Nat → Nat → Bool) (L : List Nat) (s n lo : Nat) : Prop := ∀ k, lo ≤ k * s → So lt L (k * s) (min ((k + 1) * s) n)
theorem Bu.zero (L : List Nat) {s : Nat} (hs : 0 < s) : Bu lt L s (0 * s) := fun k hk => by
  have : k + 1 ≤ 0 := Nat.le_of_mul_le_mul_right hk hs
  omega
theorem Bu.next {L L' : List Nat} {s t b : Nat} (h : Bu lt L s (t * s)) (hs : 0 < s) (r : Rg L L' (t * s) b) (h' : So lt L' (t * s) ((t + 1) * s)) : Bu lt L' s ((t + 1) * s) := fun k hk => by
  have hk' : k + 1 ≤ t + 1 := Nat.le_of_mul_le_mul_right hk hs
  by_cases e : k = t
  · subst e; exact h'
  · have hk2 : (k + 1) * s ≤ t * s := Nat.mul_le_mul_right s (by omega)
    exact (h k hk2).out r (Or.inl hk2)
theorem Bf.next {L L' : List Nat} {s n lo lo' a b : Nat} (f : Bf lt L s n lo) (r : Rg L L' a b) (hb : b ≤ lo') (hl : lo ≤ lo') : Bf lt L' s n lo' := fun k hk => (f k (Nat.le_trans hl hk)).out r (Or.inr (Nat.le_trans hb hk))
theorem Bl.of {L L' : List Nat} {s n t b : Nat} (hs : 0 < s) (u : Bu lt L s (t * s)) (r : Rg L L' (t * s) b) (w : So lt L' (t * s) n) (hn : n ≤ (t + 1) * s) : Bl lt L' s n := fun k => by
  rcases Nat.lt_trichotomy k t with h | h | h
  · have hk2 : (k + 1) * s ≤ t * s := Nat.mul_le_mul_right s (by omega)
    exact ((u k hk2).out r (Or.inl hk2)).sub (Nat.le_refl _) (Nat.min_le_left _ _)
  · subst h; exact w.sub (Nat.le_refl _) (Nat.min_le_right _ _)
  · have hk2 : (t + 1) * s ≤ k * s := Nat.mul_le_mul_right s (by omega)
    intro i j p1 p2 p3
    have := Nat.min_le_right ((k + 1) * s) n
    omega
theorem Bl.from {L : List Nat} {s n : Nat} (h : Bl lt L s n) (lo : Nat) : Bf lt L s n lo := fun k _ => h k
/-- two blocks, as one is to be -/
theorem Bf.two {L : List Nat} {s n t : Nat} (f : Bf lt L s n (t * (2 * s))) (hn : (t + 1) * (2 * s) ≤ n) : So lt L (t * (2 * s)) (t * (2 * s) + s) ∧ So lt L (t * (2 * s) + s) ((t + 1) * (2 * s)) := by
  have e1 : 2 * t * s = t * (2 * s) := by rw [Nat.mul_comm 2 t, Nat.mul_assoc]
  have e2 : (2 * t + 1) * s = t * (2 * s) + s := by rw [Nat.add_mul, e1, Nat.one_mul]
  have e3 : (2 * t + 1 + 1) * s = (t + 1) * (2 * s) := by rw [show 2 * t + 1 + 1 = 2 * (t + 1) by omega, Nat.mul_comm 2 (t + 1), Nat.mul_assoc]
  have e4 : (t + 1) * (2 * s) = t * (2 * s) + 2 * s := by rw [Nat.add_mul, Nat.one_mul]
  have h1 := f (2 * t) (by rw [e1]; exact Nat.le_refl _)
  have h2 := f (2 * t + 1) (by rw [e2]; omega)
  rw [e1, e2, Nat.min_eq_left (by omega)] at h1
  rw [e2, e3, Nat.min_eq_left (by omega)] at h2
  exact ⟨h1, h2⟩
/-- a block and what is left -/
theorem Bf.rest {L : List Nat} {s n t : Nat} (f : Bf lt L s n (t * (2 * s))) (hn : n < (t + 1) * (2 * s)) (hm : t * (2 * s) + s < n) : So lt L (t * (2 * s)) (t * (2 * s) + s) ∧ So lt L (t * (2 * s) + s) n := by
  have e1 : 2 * t * s = t * (2 * s) := by rw [Nat.mul_comm 2 t, Nat.mul_assoc]
  have e2 : (2 * t + 1) * s = t * (2 * s) + s := by rw [Nat.add_mul, e1, Nat.one_mul]
  have e3 : (2 * t + 1 + 1) * s = (t + 1) * (2 * s) := by rw [show 2 * t + 1 + 1 = 2 * (t + 1) by omega, Nat.mul_comm 2 (t + 1), Nat.mul_assoc]
  have h1 := f (2 * t) (by rw [e1]; exact Nat.le_refl _)
  have h2 := f (2 * t + 1) (by rw [e2]; omega)
  rw [e1, e2, Nat.min_eq_left (by omega)] at h1
  rw [e2, e3, Nat.min_eq_right (by omega)] at h2
  exact ⟨h1, h2⟩
/-- what is left is one block -/
theorem Bf.last {L : List Nat} {s n t : Nat} (f : Bf lt L s n (t * (2 * s))) (hm : n ≤ t * (2 * s) + s) : So lt L (t * (2 * s)) n := by
  have e1 : 2 * t * s = t * (2 * s) := by rw [Nat.mul_comm 2 t, Nat.mul_assoc]
  have e2 : (2 * t + 1) * s = t * (2 * s) + s := by rw [Nat.add_mul, e1, Nat.one_mul]
  have h1 := f (2 * t) (by rw [e1]; exact Nat.le_refl _)
  rw [e1, e2, Nat.min_eq_right hm] at h1
  exact h1
end
end Zs
end Go.Proofs.Ytelboefeomnjaaa
