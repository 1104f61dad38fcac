import Derived.Test.YtelboefeomnjaaaGreatPo1G
import Derived.Test.YtelboefeomnjaaaGreatZt7G
import Derived.Test.YtelboefeomnjaaaGreatZt2G
import Derived.Test.YtelboefeomnjaaaGreatZu7G
/-
  Entries sorted by priority: the one row that keeps the order of those that are like each other. (The verifier's own text; Po2 and this one exclude each other.)
-/
namespace Go.Proofs.YtelboefeomnjaaaGreat
set_option linter.unusedVariables false
set_option linter.unusedSimpArgs false
open Go.RowKit Go.Shelf Go.Proofs.YtelboefeomnjaaaGreat.Nm Go.Proofs.YtelboefeomnjaaaGreat.Zs

theorem cmpE_lt (x y : Et) : cmpE x y < 0 ↔ x.f < y.f ∨ (x.f = y.f ∧ min x.s 1 < min y.s 1) := by
  unfold cmpE
  rcases sgn_cases x.f y.f with ⟨h, e⟩ | ⟨h, e⟩ | ⟨h, e⟩
  · rw [e, if_pos (by omega)]; omega
  · rw [e, if_neg (by omega)]
    rcases sgn_cases (min x.s 1) (min y.s 1) with ⟨h', e'⟩ | ⟨h', e'⟩ | ⟨h', e'⟩ <;> rw [e'] <;> omega
  · rw [e, if_pos (by omega)]; omega
theorem ordE (E : List Et) : Ord (ltE E) := by
  refine ⟨fun x y h => ?_, fun x y z h1 h2 => ?_⟩
  · unfold ltE at h ⊢
    have h := (cmpE_lt _ _).1 (of_decide_eq_true h)
    refine decide_eq_false (fun h' => ?_)
    have h' := (cmpE_lt _ _).1 h'
    omega
  · unfold ltE at h1 h2 ⊢
    have h1 := of_decide_eq_false h1
    have h2 := of_decide_eq_false h2
    rw [cmpE_lt] at h1 h2
    refine decide_eq_false (fun h' => ?_)
    rw [cmpE_lt] at h'
    omega
theorem range_eAt (E : List Et) : (List.range E.length).map (eAt E) = E := by
  apply List.ext_getElem
  · simp
  · intro i h1 h2
    rw [List.getElem_map, List.getElem_range, ← eAt_get h2]
theorem svE (E : List Et) : Sv (ltE E) (fun k => (eAt E k).f) (fun k => (eAt E k).s) := fun x y => by
  unfold ltE
  rw [decide_eq_true_iff, cmpE_lt]
/-- slices.SortStableFunc of entries, by priority -/
theorem sortS_any (E : List Et) (g cap : Nat) (w : World) (h : Eb w g E) (hL : E.length ≤ 1048576) :
    Calls Tryz.prog 20 #[.slice (some ⟨g, 0, none⟩) E.length cap, cmf] w fun r w' => r = .returned (.tuple #[]) ∧ Eb w' g ((put (ltE E) E.length).map (eAt E)) ∧ w.grownBy w' (some g) := by
  have h0 : Nb E w g (List.range E.length) := by unfold Nb; rw [range_eAt, tlE_nil hL, List.append_nil]; exact h
  have hC : Cm E w g E.length (ltE E) := fun x y W hx hy hW => by
    refine (byPriority_any (eAt E x) (eAt E y) W).mono ?_
    rintro r w' ⟨rfl, hb⟩
    exact ⟨⟨_, rfl, rfl⟩, hb⟩
  have := sortStable_any E (ltE E) (ordE E) g cap E.length (List.range E.length) w h0 hC (fun x hx => List.mem_range.1 hx) (by simpa using hL)
  rw [List.length_range] at this
  refine this.mono ?_
  rintro r w' ⟨rfl, L', hs, ht, hw⟩
  obtain rfl := stable_put (ordE E) hw.pm hs (ht (Ts.range _))
  have hb := hw.nb
  unfold Nb at hb
  rw [tlE_nil hL, List.append_nil] at hb
  exact ⟨rfl, hb, hw.gr⟩
end Go.Proofs.YtelboefeomnjaaaGreat

/-
  Entries sorted by preference: the one row that keeps the order of those that are like each other. (The verifier's own text.)
-/
namespace Go.Proofs.YtelboefeomnjaaaGreat
set_option linter.unusedVariables false
set_option linter.unusedSimpArgs false
open Go.RowKit Go.Shelf Go.Proofs.YtelboefeomnjaaaGreat.Nm Go.Proofs.YtelboefeomnjaaaGreat.Zs

theorem srF (E : List Et) : Sr (ltF E) (fun k => (eAt E k).f) (fun k => (eAt E k).s) := fun x y => by
  unfold ltF
  rw [decide_eq_true_iff, cmpP_lt]
end Go.Proofs.YtelboefeomnjaaaGreat
