import Derived.Test.YtelboefeomnjaaaGreatZs1G
import Derived.Test.YtelboefeomnjaaaGreatCmpG
import Derived.Shelf.RegionOpen
import Derived.Deep.RegionHeld3
/-
  Proofs: policy.byPriority. (The verifier's own text.)
-/
namespace Go.Proofs.YtelboefeomnjaaaGreat
set_option linter.unusedVariables false
set_option linter.unusedSimpArgs false
open Go.RowKit Go.Shelf Go.Proofs.YtelboefeomnjaaaGreat.Nm Go.Proofs.YtelboefeomnjaaaGreat.Zs

set_option maxRecDepth 100000 in
set_option maxHeartbeats 1000000 in
/-- cmp.Or of two numbers -/
theorem or2E_any (a b : Int) (g : Nat) (w : World) (h0 : w.cell? ⟨g, 0, none⟩ = some (.int .i64 a)) (h1 : w.cell? ⟨g, 1, none⟩ = some (.int .i64 b)) :
    Calls Tryz.prog 44 #[.slice (some ⟨g, 0, none⟩) 2 2] w fun r w' => r = .returned (.int .i64 (if a ≠ 0 then a else b)) ∧ w' = w := by
  by_cases ha : a = 0
  · by_cases hb : b = 0
    · subst ha hb
      go_enter Tryz.func44, Tryz.ntmps44
      go_wp2
      refine wp_loop_rounds 3 ?_
      rw [rounds_succ]; go_wp2
      rw [rounds_succ]; go_wp2
      rw [rounds_succ]; go_wp2
      go_ret
      exact ⟨rfl, rfl⟩
    · subst ha
      go_enter Tryz.func44, Tryz.ntmps44
      go_wp2
      refine wp_loop_rounds 2 ?_
      rw [rounds_succ]; go_wp2
      rw [rounds_succ]; go_wp2
      go_ret
      exact ⟨by simp, rfl⟩
  · go_enter Tryz.func44, Tryz.ntmps44
    go_wp2
    refine wp_loop_rounds 1 ?_
    rw [rounds_succ]; go_wp2
    go_ret
    exact ⟨by simp [ha], rfl⟩
theorem two_newE (w : World) (X Y : Obj) (a b : Value) (T : TypeId) : (((w.alloc X).alloc Y).alloc (.cells #[a, b] T)).drew.cell? ⟨w.heap.size + 1 + 1, 0, none⟩ = some a ∧ (((w.alloc X).alloc Y).alloc (.cells #[a, b] T)).drew.cell? ⟨w.heap.size + 1 + 1, 1, none⟩ = some b := by
  have h : Bx (((w.alloc X).alloc Y).alloc (.cells #[a, b] T)).drew (w.heap.size + 1 + 1) #[a, b] T := by
    have := World.alloc_heap_new ((w.alloc X).alloc Y) (.cells #[a, b] T)
    have e : ((w.alloc X).alloc Y).heap.size = w.heap.size + 1 + 1 := by simp
    rw [e] at this
    exact this
  exact ⟨h.cell rfl, h.cell rfl⟩
/-- who of one priority has no weight stands ahead of who has one -/
def cmpE (x y : Et) : Int := if sgnI x.f y.f ≠ 0 then sgnI x.f y.f else sgnI (min x.s 1) (min y.s 1)
set_option maxRecDepth 100000 in
set_option maxHeartbeats 4000000 in
/-- policy.byPriority -/
theorem byPriority_any (x y : Et) (w : World) :
    Calls Tryz.prog 21 #[etV x, etV y] w fun e w' => e = .returned (.int .i64 (cmpE x y)) ∧ Below w.heap.size w w' := by
  obtain ⟨xf, xs, xo, xt, xc, xl, xd⟩ := x
  obtain ⟨yf, ys, yo, yt, yc, yl, yd⟩ := y
  unfold etV cmpE
  simp only
  have HB0 : Hid (∀ X Y T, Below w.heap.size w ((w.alloc (.cells X T)).alloc (.cells Y T))) := fun X Y T => ((Below.refl _ w).alloc (Nat.le_refl _) _).alloc (by simp) _
  have H1 := hide' (fun W => cmpCompare_any xf yf W)
  have H2 := hide' (fun W => cmpCompare_any (min xs 1) (min ys 1) W)
  obtain ⟨A, hA⟩ : ∃ A, sgnI xf yf = A := ⟨_, rfl⟩
  obtain ⟨B, hB⟩ : ∃ B, sgnI (min xs 1) (min ys 1) = B := ⟨_, rfl⟩
  rw [hA] at H1 ⊢
  rw [hB] at H2 ⊢
  clear hA hB
  have H3 := hide' (or2E_any A B)
  obtain ⟨C, hC⟩ : ∃ C, (if A ≠ 0 then A else B) = C := ⟨_, rfl⟩
  rw [hC] at H3 ⊢
  clear hC
  go_enter Tryz.func21, Tryz.ntmps21
  go_wp2_with fail
  go_region_held3 (fun V => V.cell? ⟨w.heap.size, 0, none⟩ = some (.int .i64 xf) ∧ V.cell? ⟨w.heap.size, 1, none⟩ = some (.int .i64 xs) ∧ V.cell? ⟨w.heap.size + 1, 0, none⟩ = some (.int .i64 yf) ∧ V.cell? ⟨w.heap.size + 1, 1, none⟩ = some (.int .i64 ys)) (first | go_keep) (first | (go_at_call 45; (with_reducible refine (H1.out _).mono ?_); rintro e w5 ⟨rfl, rfl⟩) | (go_at_call 45; (with_reducible refine (H2.out _).mono ?_); rintro e w6 ⟨rfl, rfl⟩) | (go_at_call 44; refine (H3.out _ _ (two_newE _ _ _ _ _ _).1 (two_newE _ _ _ _ _ _).2).mono ?_; rintro e w7 ⟨rfl, rfl⟩))
  all_goals
    go_wp2_with fail
    go_ret
    exact ⟨rfl, ((HB0.out _ _ _).alloc (by simp; omega) _).drew⟩
/-- in order by priority -/
def ltE (E : List Et) (x y : Nat) : Bool := decide (cmpE (eAt E x) (eAt E y) < 0)
theorem sgn_cases (a b : Int) : (a < b ∧ sgnI a b = -1) ∨ (a = b ∧ sgnI a b = 0) ∨ (b < a ∧ sgnI a b = 1) := by
  unfold sgnI
  rcases Int.lt_trichotomy a b with h | h | h
  · exact .inl ⟨h, by rw [if_pos h]⟩
  · exact .inr (.inl ⟨h, by rw [if_neg (by omega), if_neg (by omega)]⟩)
  · exact .inr (.inr ⟨h, by rw [if_neg (by omega), if_pos h]⟩)
end Go.Proofs.YtelboefeomnjaaaGreat

/-
  Proofs: policy.byPreference. (The verifier's own text.)
-/
namespace Go.Proofs.YtelboefeomnjaaaGreat
set_option linter.unusedVariables false
set_option linter.unusedSimpArgs false
open Go.RowKit Go.Shelf Go.Proofs.YtelboefeomnjaaaGreat.Nm Go.Proofs.YtelboefeomnjaaaGreat.Zs

/-- by order, then by preference -/
def cmpP (x y : Et) : Int := if sgnI x.f y.f ≠ 0 then sgnI x.f y.f else sgnI x.s y.s
set_option maxRecDepth 100000 in
set_option maxHeartbeats 4000000 in
/-- policy.byPreference -/
theorem byPreference_any (x y : Et) (w : World) :
    Calls Tryz.prog 32 #[etV x, etV y] w fun e w' => e = .returned (.int .i64 (cmpP x y)) ∧ Below w.heap.size w w' := by
  obtain ⟨xf, xs, xo, xt, xc, xl, xd⟩ := x
  obtain ⟨yf, ys, yo, yt, yc, yl, yd⟩ := y
  unfold etV cmpP
  simp only
  have HB0 : Hid (∀ X Y T, Below w.heap.size w ((w.alloc (.cells X T)).alloc (.cells Y T))) := fun X Y T => ((Below.refl _ w).alloc (Nat.le_refl _) _).alloc (by simp) _
  have H1 := hide' (fun W => cmpCompare_any xf yf W)
  have H2 := hide' (fun W => cmpCompare_any xs ys W)
  obtain ⟨A, hA⟩ : ∃ A, sgnI xf yf = A := ⟨_, rfl⟩
  obtain ⟨B, hB⟩ : ∃ B, sgnI xs ys = B := ⟨_, rfl⟩
  rw [hA] at H1 ⊢
  rw [hB] at H2 ⊢
  clear hA hB
  have H3 := hide' (or2E_any A B)
  obtain ⟨C, hC⟩ : ∃ C, (if A ≠ 0 then A else B) = C := ⟨_, rfl⟩
  rw [hC] at H3 ⊢
  clear hC
  go_enter Tryz.func32, Tryz.ntmps32
  go_wp2_with fail
  go_region_held3 (fun V => V.cell? ⟨w.heap.size, 0, none⟩ = some (.int .i64 xf) ∧ V.cell? ⟨w.heap.size, 1, none⟩ = some (.int .i64 xs) ∧ V.cell? ⟨w.heap.size + 1, 0, none⟩ = some (.int .i64 yf) ∧ V.cell? ⟨w.heap.size + 1, 1, none⟩ = some (.int .i64 ys)) (first | go_keep) (first | (go_at_call 45; (with_reducible refine (H1.out _).mono ?_); rintro e w5 ⟨rfl, rfl⟩) | (go_at_call 45; (with_reducible refine (H2.out _).mono ?_); rintro e w6 ⟨rfl, rfl⟩) | (go_at_call 44; refine (H3.out _ _ (two_newE _ _ _ _ _ _).1 (two_newE _ _ _ _ _ _).2).mono ?_; rintro e w7 ⟨rfl, rfl⟩))
  all_goals
    go_wp2_with fail
    go_ret
    exact ⟨rfl, ((HB0.out _ _ _).alloc (by simp; omega) _).drew⟩
/-- in order by preference -/
def ltF (E : List Et) (x y : Nat) : Bool := decide (cmpP (eAt E x) (eAt E y) < 0)
theorem cmpP_lt (x y : Et) : cmpP x y < 0 ↔ x.f < y.f ∨ (x.f = y.f ∧ x.s < y.s) := by
  unfold cmpP
  rcases sgn_cases x.f y.f with ⟨h, e⟩ | ⟨h, e⟩ | ⟨h, e⟩
  · rw [e]; simp; omega
  · rw [e]
    rcases sgn_cases x.s y.s with ⟨k, f⟩ | ⟨k, f⟩ | ⟨k, f⟩ <;> rw [f] <;> simp <;> omega
  · rw [e]; simp; omega
end Go.Proofs.YtelboefeomnjaaaGreat
