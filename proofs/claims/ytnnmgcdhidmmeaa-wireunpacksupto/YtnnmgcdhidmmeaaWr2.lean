import Derived.Test.YtnnmgcdhidmmeaaWu9
import Derived.Test.YtnnmgcdhidmmeaaWc3G
namespace Go.Proofs.Ytnnmgcdhidmmeaa
set_option linter.unusedVariables false
open Go.RowKit Go.Shelf Go.Proofs.Ytnnmgcdhidmmeaa.Nm

/-- a record, the reference's way -/
def rr2 (B : ByteArray) (k : Nat) : Except Nat (Rn × Nat) := match rn B k k B.size 10 0 with
  | .error e => .error e
  | .ok r => if B.size < r.2 + 10 then .error 10 else if B.size < r.2 + 10 + be B (r.2 + 8) 2 then .error 10 else
    match sound (be B r.2 2 : Nat) (be B (r.2 + 2) 2 : Nat) (drR B (r.2 + 10) (r.2 + 10 + be B (r.2 + 8) 2) (be B r.2 2 : Nat)) with
    | .error e => .error e
    | .ok d => .ok (⟨r.1, (be B r.2 2 : Nat), (be B (r.2 + 2) 2 : Nat), (be B (r.2 + 4) 4 : Nat), d⟩, r.2 + 10 + be B (r.2 + 8) 2)
theorem rr2_eq (B : ByteArray) (k : Nat) : rr2 B k = rr B k := by
  unfold rr2 rr qr
  cases h : rn B k k B.size 10 0 with
  | error e => rfl
  | ok r =>
    obtain ⟨s, k1⟩ := r
    simp only
    by_cases h4 : B.size < k1 + 4
    · rw [if_pos h4, if_pos (by omega)]
    · rw [if_neg h4]
      simp only
      rw [show k1 + 4 + 4 = k1 + 8 by omega, show k1 + 4 + 6 = k1 + 10 by omega]
      by_cases h10 : B.size < k1 + 10
      · simp only [if_pos h10]
      · simp only [if_neg h10]
        by_cases hn : B.size < k1 + 10 + be B (k1 + 8) 2
        · simp only [if_pos hn]
        · simp only [if_neg hn]
          rw [both_ways B (k1 + 10) (k1 + 10 + be B (k1 + 8) 2) _ _ (by omega) (by omega)]
          rfl
theorem brf_le (t : Int) : ∀ x ∈ brf t, x ≤ 20 := by
  unfold brf; split
  · intro x hx; simp at hx; omega
  · split
    · intro x hx; simp at hx; omega
    · split
      · intro x hx; simp at hx; omega
      · intro x hx; simp at hx
theorem brf_len (t : Int) : (brf t).length ≤ 3 := by
  unfold brf; split
  · decide
  · split
    · decide
    · split
      · decide
      · decide
/-- numbers in memory -/
def NsAt (w : World) (p : Option Addr) (l : List Nat) : Prop := ∀ i, (h : i < l.length) → ∃ g, p = some ⟨g, 0, none⟩ ∧ g < w.heap.size ∧ w.cell? ⟨g, i, none⟩ = some (.int .i64 (l[i] : Int))
theorem NsAt.below {w w' : World} {p : Option Addr} {l : List Nat} (h : NsAt w p l) (hb : Below w.heap.size w w') : NsAt w' p l := by
  intro i hi
  obtain ⟨g, h1, h2, h3⟩ := h i hi
  exact ⟨g, h1, Nat.lt_of_lt_of_le h2 hb.size, (hb.cell (p := ⟨g, i, none⟩) h2).trans h3⟩
theorem NsAt.grown {w w' : World} {p : Option Addr} {l : List Nat} {r : Option Nat} (h : NsAt w p l) (hb : w.grownBy w' r) (hr : ∀ g, p = some ⟨g, 0, none⟩ → r ≠ some g) : NsAt w' p l := by
  intro i hi
  obtain ⟨g, h1, h2, h3⟩ := h i hi
  exact ⟨g, h1, Nat.lt_of_lt_of_le h2 hb.size, (World.cell?_of_block (hb.block g h2 (fun e => hr g h1 e.symm))).trans h3⟩
def bfEnd (t : Int) (w : World) (e : Ending) (w' : World) : Prop := ∃ p c, e = .returned (.slice p (brf t).length c) ∧ NsAt w' p (brf t) ∧ (∀ g, p = some ⟨g, 0, none⟩ → w.heap.size ≤ g) ∧ (brf t).length ≤ c ∧ c ≤ 3 ∧ Below w.heap.size w w'
theorem ns_new (w : World) (l : List Nat) (T : TypeId) : NsAt (w.alloc (.cells (l.map (fun x : Nat => Value.int .i64 (x : Int))).toArray T)) (some ⟨w.heap.size, 0, none⟩) l := by
  intro i hi
  refine ⟨w.heap.size, rfl, by simp, ?_⟩
  exact Bx.cell (World.alloc_heap_new w _) (by simp [List.getElem?_eq_getElem hi])
set_option maxRecDepth 100000 in
set_option maxHeartbeats 1000000 in
/-- gazetteerref2.brief -/
theorem refBrief_any (t : Int) (w : World) : Calls Try.prog 24 #[.int .i64 t] w (bfEnd t w) := by
  have hB0 : ∀ o : Obj, Below w.heap.size w (w.alloc o) := fun o => (Below.refl _ w).alloc (Nat.le_refl _) o
  have hp : ∀ g, (some ⟨w.heap.size, 0, none⟩ : Option Addr) = some ⟨g, 0, none⟩ → w.heap.size ≤ g := fun g e => by injection e with e; injection e; omega
  by_cases h2 : t = 2
  · subst h2
    go_enter Try.func24, Try.ntmps24
    go_wp2
    go_ret
    exact ⟨_, _, rfl, ns_new w [0] _, hp, by decide, by decide, hB0 _⟩
  have b2 : (t == 2) = false := by rw [beq_eq_false_iff_ne]; exact h2
  by_cases h5 : t = 5
  · subst h5
    go_enter Try.func24, Try.ntmps24
    go_wp2
    go_ret
    exact ⟨_, _, rfl, ns_new w [0] _, hp, by decide, by decide, hB0 _⟩
  have b5 : (t == 5) = false := by rw [beq_eq_false_iff_ne]; exact h5
  by_cases h12 : t = 12
  · subst h12
    go_enter Try.func24, Try.ntmps24
    go_wp2
    go_ret
    exact ⟨_, _, rfl, ns_new w [0] _, hp, by decide, by decide, hB0 _⟩
  have b12 : (t == 12) = false := by rw [beq_eq_false_iff_ne]; exact h12
  by_cases h15 : t = 15
  · subst h15
    go_enter Try.func24, Try.ntmps24
    go_wp2
    go_ret
    exact ⟨_, _, rfl, ns_new w [2, 0] _, hp, by decide, by decide, hB0 _⟩
  have b15 : (t == 15) = false := by rw [beq_eq_false_iff_ne]; exact h15
  by_cases h6 : t = 6
  · subst h6
    go_enter Try.func24, Try.ntmps24
    go_wp2
    go_ret
    exact ⟨_, _, rfl, ns_new w [0, 0, 20] _, hp, by decide, by decide, hB0 _⟩
  have b6 : (t == 6) = false := by rw [beq_eq_false_iff_ne]; exact h6
  have HE : Hid (brf t = []) := by unfold Hid brf; rw [if_neg (by omega), if_neg (by omega), if_neg (by omega)]
  go_enter Try.func24, Try.ntmps24
  go_wp2
  go_ret
  refine ⟨none, 0, by rw [HE.out]; rfl, by { rw [HE.out]; intro i hi; exact (Nat.not_lt_zero _ hi).elim }, (fun g e => by cases e), by rw [HE.out]; exact Nat.le_refl _, by decide, Below.refl _ _⟩
end Go.Proofs.Ytnnmgcdhidmmeaa
