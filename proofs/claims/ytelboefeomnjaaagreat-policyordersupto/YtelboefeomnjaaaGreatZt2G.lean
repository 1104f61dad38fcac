import Derived.Test.YtelboefeomnjaaaGreatZt1G
/-
  Proofs: a row that is in order and in which those that are like each other stand by their numbers is the only one of its numbers. (The verifier's own text.)
-/
namespace Go.Proofs.YtelboefeomnjaaaGreat
set_option linter.unusedVariables false
set_option linter.unusedSimpArgs false
namespace Zs
section
variable {lt : Nat → Nat → Bool}
/-- the order in which no two are like each other -/
def fi (lt : Nat → Nat → Bool) (x y : Nat) : Prop := lt y x = false ∧ (lt x y = false → x < y)
theorem fi_one {x y : Nat} (h : fi lt x y) (k : fi lt y x) : x = y := by
  have := h.2 k.1
  have := k.2 h.1
  omega
theorem fi_all {L : List Nat} (h : So lt L 0 L.length) (t : Ts lt L) : L.Pairwise (fi lt) := by
  rw [List.pairwise_iff_getElem]
  intro i j hi hj hij
  rw [ix_get hi, ix_get hj]
  have h1 := h i j (Nat.zero_le _) (by omega) hj
  exact ⟨h1, fun k => t i j hij hj k h1⟩
theorem stable_one {L L' : List Nat} (p : L.Perm L') (h : L.Pairwise (fi lt)) (h' : L'.Pairwise (fi lt)) : L = L' :=
  p.eq_of_pairwise (fun a b _ _ p q => fi_one p q) h h'
/-- the numbers as they come -/
theorem Ts.range (n : Nat) : Ts lt (List.range n) := fun i j p1 p2 _ _ => by
  rw [List.length_range] at p2
  rw [← ix_get (by rw [List.length_range]; omega), ← ix_get (by rw [List.length_range]; omega), List.getElem_range, List.getElem_range]
  exact p1
/-- one goes in ahead of the first that is not ahead of it -/
def put1 (lt : Nat → Nat → Bool) (x : Nat) : List Nat → List Nat
  | [] => [x]
  | y :: l => if lt x y then x :: y :: l else y :: put1 lt x l
theorem put1_perm (x : Nat) : ∀ l : List Nat, (put1 lt x l).Perm (x :: l)
  | [] => .refl _
  | y :: l => by
    unfold put1
    split
    · exact .refl _
    · exact ((put1_perm x l).cons y).trans (.swap x y l)
theorem put1_fi (O : Ord lt) (x : Nat) : ∀ l : List Nat, (∀ y ∈ l, y < x) → l.Pairwise (fi lt) → (put1 lt x l).Pairwise (fi lt)
  | [], _, _ => by simp [put1]
  | y :: l, hx, h => by
    rw [List.pairwise_cons] at h
    unfold put1
    split
    · rename_i hl
      rw [List.pairwise_cons, List.pairwise_cons]
      refine ⟨fun z hz => ?_, h⟩
      have hs : lt x z = true := by
        rcases List.mem_cons.1 hz with e | e
        · rw [e]; exact hl
        · exact O.up hl (h.1 z e).1
      exact ⟨O.asy _ _ hs, fun k => by rw [hs] at k; cases k⟩
    · rename_i hl
      rw [List.pairwise_cons]
      refine ⟨fun z hz => ?_, put1_fi O x l (fun z hz => hx z (List.mem_cons_of_mem _ hz)) h.2⟩
      rcases List.mem_cons.1 ((put1_perm x l).mem_iff.1 hz) with e | e
      · rw [e]; exact ⟨by simpa using hl, fun _ => hx y List.mem_cons_self⟩
      · exact h.1 z e
/-- the numbers up to n, each put in -/
def put (lt : Nat → Nat → Bool) : Nat → List Nat
  | 0 => []
  | n + 1 => put1 lt n (put lt n)
theorem put_perm : ∀ n : Nat, (put lt n).Perm (List.range n)
  | 0 => .refl _
  | n + 1 => by
    rw [List.range_succ]
    exact (put1_perm n _).trans (((put_perm n).cons n).trans (List.perm_append_comm (l₁ := [n])))
theorem put_fi (O : Ord lt) : ∀ n : Nat, (put lt n).Pairwise (fi lt)
  | 0 => List.Pairwise.nil
  | n + 1 => put1_fi O n _ (fun y hy => List.mem_range.1 ((put_perm n).mem_iff.1 hy)) (put_fi O n)
/-- what the stable sort makes of a row: the one and only -/
theorem stable_put (O : Ord lt) {L' : List Nat} {n : Nat} (hp : L'.Perm (List.range n)) (h : So lt L' 0 n) (t : Ts lt L') : L' = put lt n := by
  have e : L'.length = n := by rw [hp.length_eq, List.length_range]
  exact stable_one (hp.trans (put_perm n).symm) (fi_all (by rw [e]; exact h) t) (put_fi O n)
end
end Zs
end Go.Proofs.YtelboefeomnjaaaGreat

/-
  Proofs: those of the least priority: at the beginning of the sorted row, and taken out of the unsorted one in two passes, plainly. (The verifier's own text.)
-/
namespace Go.Proofs.YtelboefeomnjaaaGreat
set_option linter.unusedVariables false
set_option linter.unusedSimpArgs false
namespace Zs
section
variable {lt : Nat → Nat → Bool} {p w : Nat → Int}
/-- the order of servers -/
def Sv (lt : Nat → Nat → Bool) (p w : Nat → Int) : Prop := ∀ x y, lt x y = true ↔ p x < p y ∨ (p x = p y ∧ min (w x) 1 < min (w y) 1)
/-- two passes: who has no weight, then who has one -/
def rowK (p w : Nat → Int) (m : Int) (K : List Nat) : List Nat := (K.filter fun k => decide (p k = m ∧ w k = 0)) ++ K.filter fun k => decide (p k = m ∧ w k ≠ 0)
/-- the beginning of one priority -/
def runM (p : Nat → Int) (m : Int) (M : List Nat) : List Nat := M.takeWhile fun k => decide (p k = m)
theorem Sv.no (S : Sv lt p w) {x y : Nat} : lt x y = false ↔ p y < p x ∨ (p x = p y ∧ min (w y) 1 ≤ min (w x) 1) := by
  have := S x y
  cases h : lt x y
  · rw [h] at this
    simp at this
    constructor
    · intro _; omega
    · intro _; rfl
  · rw [h] at this
    have := this.1 rfl
    constructor
    · intro h; cases h
    · intro h; omega
theorem run_filter (S : Sv lt p w) {m : Int} : ∀ {M : List Nat}, M.Pairwise (fi lt) → (∀ k ∈ M, m ≤ p k) → runM p m M = M.filter fun k => decide (p k = m)
  | [], _, _ => rfl
  | x :: M, h, hm => by
    rw [List.pairwise_cons] at h
    unfold runM
    by_cases e : p x = m
    · rw [List.takeWhile_cons, if_pos (by simpa using e), List.filter_cons, if_pos (by simpa using e)]
      congr 1
      exact run_filter S h.2 fun k hk => hm k (List.mem_cons_of_mem _ hk)
    · rw [List.takeWhile_cons, if_neg (by simpa using e), List.filter_cons, if_neg (by simpa using e)]
      symm
      rw [List.filter_eq_nil_iff]
      intro y hy
      have h1 := S.no.1 (h.1 y hy).1
      have h2 := hm x List.mem_cons_self
      simp
      omega
theorem row_perm (m : Int) (K : List Nat) : (rowK p w m K).Perm (K.filter fun k => decide (p k = m)) := by
  unfold rowK
  induction K with
  | nil => exact .refl _
  | cons x K ih =>
    by_cases e : p x = m
    · by_cases z : w x = 0
      · simpa [List.filter_cons, e, z] using ih
      · have := (List.perm_middle (a := x) (l₁ := K.filter fun k => decide (p k = m ∧ w k = 0)) (l₂ := K.filter fun k => decide (p k = m ∧ w k ≠ 0))).trans (ih.cons x)
        simpa [List.filter_cons, e, z] using this
    · simpa [List.filter_cons, e] using ih
theorem row_fi (S : Sv lt p w) (hw : ∀ k, 0 ≤ w k) (m : Int) {K : List Nat} (hK : K.Pairwise (· < ·)) : (rowK p w m K).Pairwise (fi lt) := by
  unfold rowK
  rw [List.pairwise_append]
  refine ⟨?_, ?_, ?_⟩
  · refine (List.Pairwise.filter _ hK).imp_of_mem ?_
    intro x y hx hy hxy
    have hx := (List.mem_filter.1 hx).2
    have hy := (List.mem_filter.1 hy).2
    simp at hx hy
    exact ⟨S.no.2 (Or.inr ⟨by omega, by omega⟩), fun _ => hxy⟩
  · refine (List.Pairwise.filter _ hK).imp_of_mem ?_
    intro x y hx hy hxy
    have hx := (List.mem_filter.1 hx).2
    have hy := (List.mem_filter.1 hy).2
    simp at hx hy
    have := hw x
    have := hw y
    exact ⟨S.no.2 (Or.inr ⟨by omega, by omega⟩), fun _ => hxy⟩
  · intro x hx y hy
    have hx := (List.mem_filter.1 hx).2
    have hy := (List.mem_filter.1 hy).2
    simp at hx hy
    have := hw y
    have hs : lt x y = true := (S x y).2 (Or.inr ⟨by omega, by omega⟩)
    exact ⟨S.no.2 (Or.inr ⟨by omega, by omega⟩), fun k => by rw [hs] at k; cases k⟩
/-- both ways -/
theorem row_run (S : Sv lt p w) (hw : ∀ k, 0 ≤ w k) {m : Int} {K M : List Nat} (hK : K.Pairwise (· < ·)) (hp : M.Perm K) (hM : M.Pairwise (fi lt)) (hm : ∀ k ∈ K, m ≤ p k) : runM p m M = rowK p w m K := by
  rw [run_filter S hM fun k hk => hm k (hp.mem_iff.1 hk)]
  exact stable_one ((hp.filter _).trans (row_perm m K).symm) (List.Pairwise.filter _ hM) (row_fi S hw m hK)
/-- the first of the sorted row has the least priority -/
theorem head_least (S : Sv lt p w) {x : Nat} {M K : List Nat} (hp : (x :: M).Perm K) (hM : (x :: M).Pairwise (fi lt)) : ∀ k ∈ K, p x ≤ p k := fun k hk => by
  rw [List.pairwise_cons] at hM
  rcases List.mem_cons.1 (hp.mem_iff.2 hk) with e | e
  · rw [e]; exact Int.le_refl _
  · have := S.no.1 (hM.1 k e).1
    omega
end
end Zs
end Go.Proofs.YtelboefeomnjaaaGreat

/-
  Proofs: servers, drawn one behind the other: from the sorted row and from the unsorted one, plainly. (The verifier's own text.)
-/
namespace Go.Proofs.YtelboefeomnjaaaGreat
set_option linter.unusedVariables false
set_option linter.unusedSimpArgs false
namespace Zs
section
variable {lt : Nat → Nat → Bool} {p w : Nat → Int}
/-- the place of the first at which the weights so far reach t -/
def drawI (w : Nat → Int) (t : Int) : Int → List Nat → Nat
  | _, [] => 0
  | a, x :: l => if t ≤ a + w x then 0 else drawI w t (a + w x) l + 1
/-- the weights together -/
def sumW (w : Nat → Int) : List Nat → Int
  | [] => 0
  | x :: l => w x + sumW w l
theorem drawI_lt (w : Nat → Int) (t : Int) : ∀ (l : List Nat) (a : Int), l ≠ [] → t ≤ a + sumW w l → drawI w t a l < l.length
  | [], _, h, _ => absurd rfl h
  | [x], a, _, h => by
    simp only [sumW] at h
    unfold drawI
    rw [if_pos (by omega)]
    simp
  | x :: y :: l, a, _, h => by
    unfold drawI
    split
    · simp
    · have := drawI_lt w t (y :: l) (a + w x) (by simp) (by simp only [sumW] at h ⊢; omega)
      simp only [List.length_cons] at this ⊢
      omega
/-- who is drawn of a row, with a roll -/
def drawn (w : Nat → Int) (r : Int) (l : List Nat) : Nat := ix l (drawI w (r % (sumW w l + 1)) 0 l)
theorem sumW_nn (hw : ∀ k, 0 ≤ w k) : ∀ l : List Nat, 0 ≤ sumW w l
  | [] => Int.le_refl _
  | x :: l => by have := sumW_nn hw l; have := hw x; simp only [sumW]; omega
theorem drawn_mem (hw : ∀ k, 0 ≤ w k) (r : Int) {l : List Nat} (h : l ≠ []) : drawn w r l ∈ l := by
  unfold drawn
  have h0 := sumW_nn hw l
  have h1 := Int.emod_lt_of_pos r (b := sumW w l + 1) (by omega)
  exact ix_mem (drawI_lt w _ l 0 h (by omega))
/-- out of the sorted row -/
def ordM (p w : Nat → Int) (R : Nat → Int) : Nat → Nat → List Nat → List Nat
  | 0, _, _ => []
  | _ + 1, _, [] => []
  | n + 1, t, x :: M => drawn w (R t) (runM p (p x) (x :: M)) :: ordM p w R n (t + 1) ((x :: M).erase (drawn w (R t) (runM p (p x) (x :: M))))
/-- the least priority -/
def leastK (p : Nat → Int) : Int → List Nat → Int
  | m, [] => m
  | m, k :: K => leastK p (if p k < m then p k else m) K
/-- out of the unsorted one -/
def ordK (p w : Nat → Int) (R : Nat → Int) : Nat → Nat → List Nat → List Nat
  | 0, _, _ => []
  | _ + 1, _, [] => []
  | n + 1, t, x :: K => drawn w (R t) (rowK p w (leastK p 65536 (x :: K)) (x :: K)) :: ordK p w R n (t + 1) ((x :: K).erase (drawn w (R t) (rowK p w (leastK p 65536 (x :: K)) (x :: K))))
theorem least_is (p : Nat → Int) (z : Int) : ∀ (K : List Nat) (m : Int), z ≤ m → (∀ k ∈ K, z ≤ p k) → (z = m ∨ ∃ k ∈ K, p k = z) → leastK p m K = z
  | [], m, _, _, h => by
    rcases h with h | ⟨k, hk, _⟩
    · exact h.symm
    · cases hk
  | x :: K, m, hz, hK, h => by
    unfold leastK
    have hx := hK x List.mem_cons_self
    refine least_is p z K _ (by split <;> omega) (fun k hk => hK k (List.mem_cons_of_mem _ hk)) ?_
    rcases h with h | ⟨k, hk, hp⟩
    · left; rw [if_neg (by omega)]; exact h
    · rcases List.mem_cons.1 hk with e | e
      · left; subst e; split <;> omega
      · right; exact ⟨k, e, hp⟩
/-- both ways -/
theorem ord_both (S : Sv lt p w) (hw : ∀ k, 0 ≤ w k) (hp6 : ∀ k, p k < 65536) (R : Nat → Int) : ∀ (n t : Nat) (M K : List Nat), K.Pairwise (· < ·) → M.Perm K → M.Pairwise (fi lt) → ordM p w R n t M = ordK p w R n t K
  | 0, _, _, _, _, _, _ => rfl
  | n + 1, t, M, K, hK, hp, hM => by
    match M, K, hp with
    | [], K, hp => obtain rfl := hp.nil_eq; rfl
    | x :: M, [], hp => exact absurd hp.length_eq (by simp)
    | x :: M, y :: K, hp =>
      have hl := head_least S hp hM
      have e1 : leastK p 65536 (y :: K) = p x := least_is p (p x) _ _ (by have := hp6 x; omega) hl (Or.inr ⟨x, hp.mem_iff.1 List.mem_cons_self, rfl⟩)
      have e2 := row_run S hw hK hp hM hl
      unfold ordM ordK
      rw [e1, ← e2]
      congr 1
      exact ord_both S hw hp6 R n (t + 1) _ _ (hK.sublist List.erase_sublist) (hp.erase _) (hM.sublist List.erase_sublist)
end
end Zs
end Go.Proofs.YtelboefeomnjaaaGreat

/-
  Proofs: rewritings that count: the beginning of the sorted row, and put in one by one, plainly. (The verifier's own text.)
-/
namespace Go.Proofs.YtelboefeomnjaaaGreat
set_option linter.unusedVariables false
set_option linter.unusedSimpArgs false
namespace Zs
section
variable {lt : Nat → Nat → Bool} {p q : Nat → Int}
/-- the order of rewritings -/
def Sr (lt : Nat → Nat → Bool) (p q : Nat → Int) : Prop := ∀ x y, lt x y = true ↔ p x < p y ∨ (p x = p y ∧ q x < q y)
theorem Sr.no (S : Sr lt p q) {x y : Nat} : lt x y = false ↔ p y < p x ∨ (p x = p y ∧ q y ≤ q x) := by
  have := S x y
  cases h : lt x y
  · rw [h] at this
    simp at this
    constructor
    · intro _; omega
    · intro _; rfl
  · rw [h] at this
    have := this.1 rfl
    constructor
    · intro h; cases h
    · intro h; omega
theorem Sr.ord (S : Sr lt p q) : Ord lt := ⟨fun x y h => S.no.2 (by have := (S x y).1 h; omega), fun x y z h k => S.no.2 (by have := S.no.1 h; have := S.no.1 k; omega)⟩
/-- one by one: those of the least order so far -/
def rwK (lt : Nat → Nat → Bool) (p : Nat → Int) : Int → List Nat → List Nat → List Nat
  | _, o, [] => o
  | m, o, x :: K => if p x < m then rwK lt p (p x) [x] K else if m < p x then rwK lt p m o K else rwK lt p m (put1 lt x o) K
theorem rw_all (S : Sr lt p q) : ∀ (K : List Nat) (m : Int) (o D : List Nat), (D ++ K).Pairwise (· < ·) → o.Perm (D.filter fun k => decide (p k = m)) → o.Pairwise (fi lt) → (∀ d ∈ D, m ≤ p d) →
    (rwK lt p m o K).Pairwise (fi lt) ∧ (rwK lt p m o K).Perm ((D ++ K).filter fun k => decide (p k = leastK p m K)) ∧ ∀ d ∈ D ++ K, leastK p m K ≤ p d
  | [], m, o, D, hD, ho, hf, hm => by
    unfold rwK leastK
    rw [List.append_nil]
    exact ⟨hf, ho, hm⟩
  | x :: K, m, o, D, hD, ho, hf, hm => by
    have hA : D ++ x :: K = (D ++ [x]) ++ K := by simp
    have hlt : ∀ d ∈ D, d < x := fun d hd => (List.pairwise_append.1 hD).2.2 d hd x List.mem_cons_self
    rw [hA] at hD ⊢
    unfold rwK leastK
    by_cases e1 : p x < m
    · rw [if_pos e1, if_pos e1]
      refine rw_all S K (p x) [x] (D ++ [x]) hD ?_ (List.pairwise_singleton _ _) ?_
      · rw [List.filter_append, List.filter_eq_nil_iff.2 (fun d hd => by have := hm d hd; simp; omega)]
        simp
      · intro d hd
        rcases List.mem_append.1 hd with h | h
        · have := hm d h; omega
        · rw [List.mem_singleton.1 h]; exact Int.le_refl _
    · rw [if_neg e1, if_neg e1]
      have hm' : ∀ d ∈ D ++ [x], m ≤ p d := fun d hd => by
        rcases List.mem_append.1 hd with h | h
        · exact hm d h
        · rw [List.mem_singleton.1 h]; omega
      by_cases e2 : m < p x
      · rw [if_pos e2]
        refine rw_all S K m o (D ++ [x]) hD ?_ hf hm'
        rw [List.filter_append]
        have : ¬ p x = m := by omega
        simpa [List.filter_cons, this] using ho
      · rw [if_neg e2]
        have e3 : p x = m := by omega
        refine rw_all S K m (put1 lt x o) (D ++ [x]) hD ?_ (put1_fi S.ord x o (fun y hy => hlt y (List.mem_filter.1 (ho.mem_iff.1 hy)).1) hf) hm'
        rw [List.filter_append]
        have h1 : ([x].filter fun k => decide (p k = m)) = [x] := by simp [e3]
        rw [h1]
        exact (put1_perm x o).trans ((ho.cons x).trans (List.perm_append_comm (l₁ := [x])))
theorem runR_filter (S : Sr lt p q) {m : Int} : ∀ {M : List Nat}, M.Pairwise (fi lt) → (∀ k ∈ M, m ≤ p k) → runM p m M = M.filter fun k => decide (p k = m)
  | [], _, _ => rfl
  | x :: M, h, hm => by
    rw [List.pairwise_cons] at h
    unfold runM
    by_cases e : p x = m
    · rw [List.takeWhile_cons, if_pos (by simpa using e), List.filter_cons, if_pos (by simpa using e)]
      congr 1
      exact runR_filter S h.2 fun k hk => hm k (List.mem_cons_of_mem _ hk)
    · rw [List.takeWhile_cons, if_neg (by simpa using e), List.filter_cons, if_neg (by simpa using e)]
      symm
      rw [List.filter_eq_nil_iff]
      intro y hy
      have h1 := S.no.1 (h.1 y hy).1
      have h2 := hm x List.mem_cons_self
      simp
      omega
/-- both ways -/
theorem rw_both (S : Sr lt p q) (hp6 : ∀ k, p k < 65536) {x : Nat} {M K : List Nat} (hK : K.Pairwise (· < ·)) (hp : (x :: M).Perm K) (hM : (x :: M).Pairwise (fi lt)) : runM p (p x) (x :: M) = rwK lt p 65536 [] K := by
  obtain ⟨h1, h2, h3⟩ := rw_all S K 65536 [] [] (by simpa using hK) (by simp) List.Pairwise.nil (by simp)
  have hl : ∀ k ∈ K, p x ≤ p k := fun k hk => by
    rw [List.pairwise_cons] at hM
    rcases List.mem_cons.1 (hp.mem_iff.2 hk) with e | e
    · rw [e]; exact Int.le_refl _
    · have := S.no.1 (hM.1 k e).1
      omega
  have e1 : leastK p 65536 K = p x := least_is p (p x) _ _ (by have := hp6 x; omega) hl (Or.inr ⟨x, hp.mem_iff.1 List.mem_cons_self, rfl⟩)
  rw [e1, List.nil_append] at h2
  rw [runR_filter S hM fun k hk => hl k (hp.mem_iff.1 hk)]
  exact stable_one ((hp.filter _).trans h2.symm) (List.Pairwise.filter _ hM) h1
end
end Zs
end Go.Proofs.YtelboefeomnjaaaGreat
