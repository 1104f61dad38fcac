import Derived.Test.YtjnhkiibnmbmfaaSy4
import Derived.Deep.RegionHeld3
/-
  Chapter 7: the reference's Roll. (The verifier's own text.)
-/
namespace Go.Proofs.Ytjnhkiibnmbmfaa
set_option linter.unusedVariables false
set_option linter.unusedSimpArgs false
open Go.RowKit Go.Shelf Go.Sort Go.Proofs.Ytjnhkiibnmbmfaa.Nm

/-- what Roll answers -/
def rollEnd (I : List Tk) (l : Tk) (f m e s now ka sa : Int) (r : Ending) (w : World) : Prop :=
  (rollC I l f m e s now ka sa ≠ 0 ∧ r = rollNo (rollC I l f m e s now ka sa)) ∨ (rollC I l f m e s now ka sa = 0 ∧ ∃ p c, r = .returned (.tuple #[.slice p (I.length + 2) c, .int .i64 0]) ∧ TsAt w p (rollL I l f m e s now ka sa))
theorem rollEnd_no {I : List Tk} {l : Tk} {f m e s now ka sa c : Int} (h : rollC I l f m e s now ka sa = c) (hc : c ≠ 0) (w : World) : rollEnd I l f m e s now ka sa (rollNo c) w := .inl ⟨by rw [h]; exact hc, by rw [h]⟩
/-- signer.Roll -/
theorem roll_any (I : List Tk) (l : Tk) (g off cap : Nat) (f m e s now ka sa : Int) (w : World) (hL : (I ++ [l]).length ≤ 1048576) (hat : TsAt w (some ⟨g, off, none⟩) (I ++ [l])) (hl : l.r = 4294967296) (hI : ∀ k ∈ I, k.r ≠ 4294967296) (hlb : lineB (I ++ [l]) = true) (hq0 : 0 ≤ l.a) :
    Calls Try.prog 5 #[.slice (some ⟨g, off, none⟩) (I ++ [l]).length cap, .agg #[.int .i64 f, .int .i64 m, .int .i64 e, .int .i64 s], .int .i64 now, .int .i64 ka, .int .i64 sa] w fun r w' => rollEnd I l f m e s now ka sa r w' ∧ Below w.heap.size w w' := by
  have hL' : (I ++ [l]).length ≤ 4294967296 := by omega
  cases h1 : ageB ka && ageB sa with
  | false => exact (roll_age _ _ _ _ _ _ _ _ _ _ _ h1).mono fun r w' ⟨hr, hb⟩ => ⟨by rw [hr]; exact rollEnd_no (by unfold rollC; rw [h1]; rfl) (by decide) _, hb⟩
  | true =>
    cases h2 : rkB f m e s with
    | false => exact (roll_key I l g off cap f m e s now ka sa w hL' hat hl hI hlb h1 h2).mono fun r w' ⟨hr, hb⟩ => ⟨by rw [hr]; exact rollEnd_no (by unfold rollC; rw [h1, h2]; rfl) (by decide) _, hb⟩
    | true =>
      cases h3 : (I ++ [l]).any (fun k => decide (pubB k.f k.m k.e k.s = pubB f m e s)) with
      | true => exact (roll_twice I l g off cap f m e s now ka sa w hL' hat hl hI hlb h1 h2 h3).mono fun r w' ⟨hr, hb⟩ => ⟨by rw [hr]; exact rollEnd_no (by unfold rollC; rw [h1, h2, h3]; rfl) (by decide) _, hb⟩
      | false =>
        by_cases h4 : now < l.a
        · exact (roll_busy I l g off cap f m e s now ka sa w hL' hat hl hI hlb h1 h2 h3 h4).mono fun r w' ⟨hr, hb⟩ => ⟨by rw [hr]; exact rollEnd_no (by unfold rollC; rw [h1, h2, h3, decide_eq_true h4]; rfl) (by decide) _, hb⟩
        · by_cases h5 : now > 4294967295 - ka - sa
          · exact (roll_time I l g off cap f m e s now ka sa w hL' hat hl hI hlb h1 h2 h3 (by omega) h5).mono fun r w' ⟨hr, hb⟩ => ⟨by rw [hr]; exact rollEnd_no (by unfold rollC; rw [h1, h2, h3, decide_eq_false h4, decide_eq_true h5]; rfl) (by decide) _, hb⟩
          · by_cases h6 : (I ++ [l]).length = 50
            · exact (roll_many I l g off cap f m e s now ka sa w hL' hat hl hI hlb h1 h2 h3 (by omega) (by omega) h6).mono fun r w' ⟨hr, hb⟩ => ⟨by rw [hr]; exact rollEnd_no (by unfold rollC; rw [h1, h2, h3, decide_eq_false h4, decide_eq_false h5, decide_eq_true h6]; rfl) (by decide) _, hb⟩
            · exact (roll_good I l g off cap f m e s now ka sa w hL hat hl hI hlb h1 h2 h3 (by omega) (by omega) h6 hq0).mono fun r w' ⟨hr, hb⟩ => ⟨.inr ⟨by unfold rollC; rw [h1, h2, h3, decide_eq_false h4, decide_eq_false h5, decide_eq_false h6]; rfl, hr⟩, hb⟩
set_option maxRecDepth 100000 in
set_option maxHeartbeats 2000000 in
/-- the reference's Roll, at a wrong age -/
theorem refRoll_age (p : Option Addr) (cap n : Nat) (f m e s now ka sa : Int) (w : World) (h : (ageB ka && ageB sa) = false) :
    Calls Try.prog 6 #[.slice p n cap, .agg #[.int .i64 f, .int .i64 m, .int .i64 e, .int .i64 s], .int .i64 now, .int .i64 ka, .int .i64 sa] w fun r w' => r = rollNo 23 ∧ Below w.heap.size w w' := by
  have hbad : ¬ ((0 ≤ ka ∧ ka ≤ 2147483647) ∧ (0 ≤ sa ∧ sa ≤ 2147483647)) := fun hh => by
    have : (ageB ka && ageB sa) = true := by simpa [ageB] using hh
    rw [h] at this; cases this
  have HB := hide' ((Below.refl w.heap.size w).alloc (Nat.le_refl _) (.cells #[.int .i64 f, .int .i64 m, .int .i64 e, .int .i64 s] 24))
  clear h
  go_enter Try.func6, Try.ntmps6
  by_cases q1 : ka < 0
  · go_wp2_with fail
    go_ret2
    exact ⟨rfl, HB.out⟩
  · by_cases q2 : ka > 2147483647
    · go_wp2_with fail
      go_ret2
      exact ⟨rfl, HB.out⟩
    · by_cases q3 : sa < 0
      · go_wp2_with fail
        go_ret2
        exact ⟨rfl, HB.out⟩
      · by_cases q4 : sa > 2147483647
        · go_wp2_with fail
          go_ret2
          exact ⟨rfl, HB.out⟩
        · exact absurd ⟨⟨by omega, by omega⟩, by omega, by omega⟩ hbad
end Go.Proofs.Ytjnhkiibnmbmfaa
