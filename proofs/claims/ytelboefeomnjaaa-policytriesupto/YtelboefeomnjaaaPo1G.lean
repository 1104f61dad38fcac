import Derived.Test.YtelboefeomnjaaaZe1
import Derived.Test.YtelboefeomnjaaaCmpG
import Derived.Shelf.RegionOpen
import Derived.Deep.RegionHeld3
import Derived.Test.YtelboefeomnjaaaZe7G
/-
  Proofs: policy.byPriority. (The verifier's own text.)
-/
namespace Go.Proofs.Ytelboefeomnjaaa
set_option linter.unusedVariables false
set_option linter.unusedSimpArgs false
open Go.RowKit Go.Shelf Go.Proofs.Ytelboefeomnjaaa.Nm Go.Proofs.Ytelboefeomnjaaa.Zs

set_option maxRecDepth 100000 in
set_option maxHeartbeats 1000000 in
/-- cmp.Or of two numbers -/
theorem or2E_any (a b : Int) (g : Nat) (w : World) (h0 : w.cell? ⟨g, 0, none⟩ = some (.int .i64 a)) (h1 : w.cell? ⟨g, 1, none⟩ = some (.int .i64 b)) :
    Calls Try.prog 21 #[.slice (some ⟨g, 0, none⟩) 2 2] w fun r w' => r = .returned (.int .i64 (if a ≠ 0 then a else b)) ∧ w' = w := by
  by_cases ha : a = 0
  · by_cases hb : b = 0
    · subst ha hb
      go_enter Try.func21, Try.ntmps21
      go_wp2
      refine wp_loop_rounds 3 ?_
      rw [rounds_succ]; go_wp2
      rw [rounds_succ]; go_wp2
      rw [rounds_succ]; go_wp2
      go_ret
      exact ⟨rfl, rfl⟩
    · subst ha
      go_enter Try.func21, Try.ntmps21
      go_wp2
      refine wp_loop_rounds 2 ?_
      rw [rounds_succ]; go_wp2
      rw [rounds_succ]; go_wp2
      go_ret
      exact ⟨by simp, rfl⟩
  · go_enter Try.func21, Try.ntmps21
    go_wp2
    refine wp_loop_rounds 1 ?_
    rw [rounds_succ]; go_wp2
    go_ret
    exact ⟨by simp [ha], rfl⟩
theorem two_newE (w : World) (X Y : Obj) (a b : Value) (T : TypeId) : (((w.alloc X).alloc Y).alloc (.cells #[a, b] T)).drew.cell? ⟨w.heap.size + 1 + 1, 0, none⟩ = some a ∧ (((w.alloc X).alloc Y).alloc (.cells #[a, b] T)).drew.cell? ⟨w.heap.size + 1 + 1, 1, none⟩ = some b := by
  have h : Bx (((w.alloc X).alloc Y).alloc (.cells #[a, b] T)).drew (w.heap.size + 1 + 1) #[a, b] T := by
    have := World.alloc_heap_new ((w.alloc X).alloc Y) (.cells #[a, b] T)
    have e : ((w.alloc X).alloc Y).heap.size = w.heap.size + 1 + 1 := by simp
    rw [e] at this
    exact this
  exact ⟨h.cell rfl, h.cell rfl⟩
/-- who of one priority has no weight stands ahead of who has one -/
def cmpE (x y : Et) : Int := if sgnI x.f y.f ≠ 0 then sgnI x.f y.f else sgnI (min x.s 1) (min y.s 1)
set_option maxRecDepth 100000 in
set_option maxHeartbeats 4000000 in
/-- policy.byPriority -/
theorem byPriority_any (x y : Et) (w : World) :
    Calls Try.prog 9 #[etV x, etV y] w fun e w' => e = .returned (.int .i64 (cmpE x y)) ∧ Below w.heap.size w w' := by
  obtain ⟨xf, xs, xo, xt, xc, xl, xd⟩ := x
  obtain ⟨yf, ys, yo, yt, yc, yl, yd⟩ := y
  unfold etV cmpE
  simp only
  have HB0 : Hid (∀ X Y T, Below w.heap.size w ((w.alloc (.cells X T)).alloc (.cells Y T))) := fun X Y T => ((Below.refl _ w).alloc (Nat.le_refl _) _).alloc (by simp) _
  have H1 := hide' (fun W => cmpCompare_any xf yf W)
  have H2 := hide' (fun W => cmpCompare_any (min xs 1) (min ys 1) W)
  obtain ⟨A, hA⟩ : ∃ A, sgnI xf yf = A := ⟨_, rfl⟩
  obtain ⟨B, hB⟩ : ∃ B, sgnI (min xs 1) (min ys 1) = B := ⟨_, rfl⟩
  rw [hA] at H1 ⊢
  rw [hB] at H2 ⊢
  clear hA hB
  have H3 := hide' (or2E_any A B)
  obtain ⟨C, hC⟩ : ∃ C, (if A ≠ 0 then A else B) = C := ⟨_, rfl⟩
  rw [hC] at H3 ⊢
  clear hC
  go_enter Try.func9, Try.ntmps9
  go_wp2_with fail
  go_region_held3 (fun V => V.cell? ⟨w.heap.size, 0, none⟩ = some (.int .i64 xf) ∧ V.cell? ⟨w.heap.size, 1, none⟩ = some (.int .i64 xs) ∧ V.cell? ⟨w.heap.size + 1, 0, none⟩ = some (.int .i64 yf) ∧ V.cell? ⟨w.heap.size + 1, 1, none⟩ = some (.int .i64 ys)) (first | go_keep) (first | (go_at_call 22; (with_reducible refine (H1.out _).mono ?_); rintro e w5 ⟨rfl, rfl⟩) | (go_at_call 22; (with_reducible refine (H2.out _).mono ?_); rintro e w6 ⟨rfl, rfl⟩) | (go_at_call 21; refine (H3.out _ _ (two_newE _ _ _ _ _ _).1 (two_newE _ _ _ _ _ _).2).mono ?_; rintro e w7 ⟨rfl, rfl⟩))
  all_goals
    go_wp2_with fail
    go_ret
    exact ⟨rfl, ((HB0.out _ _ _).alloc (by simp; omega) _).drew⟩
/-- in order by priority -/
def ltE (E : List Et) (x y : Nat) : Bool := decide (cmpE (eAt E x) (eAt E y) < 0)
theorem sgn_cases (a b : Int) : (a < b ∧ sgnI a b = -1) ∨ (a = b ∧ sgnI a b = 0) ∨ (b < a ∧ sgnI a b = 1) := by
  unfold sgnI
  rcases Int.lt_trichotomy a b with h | h | h
  · exact .inl ⟨h, by rw [if_pos h]⟩
  · exact .inr (.inl ⟨h, by rw [if_neg (by omega), if_neg (by omega)]⟩)
  · exact .inr (.inr ⟨h, by rw [if_neg (by omega), if_pos h]⟩)
end Go.Proofs.Ytelboefeomnjaaa

/-
  Entries sorted by priority. (The verifier's own text.)
-/
namespace Go.Proofs.Ytelboefeomnjaaa
set_option linter.unusedVariables false
set_option linter.unusedSimpArgs false
open Go.RowKit Go.Shelf Go.Proofs.Ytelboefeomnjaaa.Nm Go.Proofs.Ytelboefeomnjaaa.Zs

theorem cmpE_lt (x y : Et) : cmpE x y < 0 ↔ x.f < y.f ∨ (x.f = y.f ∧ min x.s 1 < min y.s 1) := by
  unfold cmpE
  rcases sgn_cases x.f y.f with ⟨h, e⟩ | ⟨h, e⟩ | ⟨h, e⟩
  · rw [e, if_pos (by omega)]; omega
  · rw [e, if_neg (by omega)]
    rcases sgn_cases (min x.s 1) (min y.s 1) with ⟨h', e'⟩ | ⟨h', e'⟩ | ⟨h', e'⟩ <;> rw [e'] <;> omega
  · rw [e, if_pos (by omega)]; omega
theorem ordE (E : List Et) : Ord (ltE E) := by
  refine ⟨fun x y h => ?_, fun x y z h1 h2 => ?_⟩
  · unfold ltE at h ⊢
    have h := (cmpE_lt _ _).1 (of_decide_eq_true h)
    refine decide_eq_false (fun h' => ?_)
    have h' := (cmpE_lt _ _).1 h'
    omega
  · unfold ltE at h1 h2 ⊢
    have h1 := of_decide_eq_false h1
    have h2 := of_decide_eq_false h2
    rw [cmpE_lt] at h1 h2
    refine decide_eq_false (fun h' => ?_)
    rw [cmpE_lt] at h'
    omega
theorem range_eAt (E : List Et) : (List.range E.length).map (eAt E) = E := by
  apply List.ext_getElem
  · simp
  · intro i h1 h2
    rw [List.getElem_map, List.getElem_range, ← eAt_get h2]
/-- slices.SortStableFunc of entries, by priority -/
theorem sortE_any (E : List Et) (g cap : Nat) (w : World) (h : Eb w g E) (hL : E.length ≤ 1048576) :
    Calls Try.prog 8 #[.slice (some ⟨g, 0, none⟩) E.length cap, cmf] w fun r w' => r = .returned (.tuple #[]) ∧ ∃ B : List Et, Eb w' g B ∧ B.Perm E ∧ B.Pairwise (fun a b => a.f ≤ b.f) ∧ w.grownBy w' (some g) := by
  have h0 : Nb E w g (List.range E.length) := by unfold Nb; rw [range_eAt]; exact h
  have hC : Cm E w g E.length (ltE E) := fun x y W hx hy hW => by
    refine (byPriority_any (eAt E x) (eAt E y) W).mono ?_
    rintro r w' ⟨rfl, hb⟩
    exact ⟨⟨_, rfl, rfl⟩, hb⟩
  have := sortStable_any E (ltE E) (ordE E) g cap E.length (List.range E.length) w h0 hC (fun x hx => List.mem_range.1 hx) (by simpa using hL)
  rw [List.length_range] at this
  refine this.mono ?_
  rintro r w' ⟨rfl, L', hs, hw⟩
  refine ⟨rfl, L'.map (eAt E), hw.nb, ?_, ?_, hw.gr⟩
  · have := hw.pm.map (eAt E)
    rw [range_eAt] at this
    exact this
  · have hl : L'.length = E.length := by rw [hw.len, List.length_range]
    rw [List.pairwise_map, List.pairwise_iff_getElem]
    intro i j hi hj hij
    have h1 := hs i j (Nat.zero_le _) (by omega) (by omega)
    have e1 := ix_get? hi
    have e2 := ix_get? hj
    rw [List.getElem?_eq_getElem hi] at e1
    rw [List.getElem?_eq_getElem hj] at e2
    rw [← Option.some.inj e1, ← Option.some.inj e2] at h1
    unfold ltE at h1
    have h1 := of_decide_eq_false h1
    rw [cmpE_lt] at h1
    omega
end Go.Proofs.Ytelboefeomnjaaa
