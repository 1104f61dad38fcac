import Derived.Test.YtjnhkiibnmbmfaaSs11
/-
  Chapter 7: lines whose keys follow one another, plainly. (The verifier's own text.)
-/
namespace Go.Proofs.Ytjnhkiibnmbmfaa
set_option linter.unusedVariables false
set_option linter.unusedSimpArgs false
open Go.RowKit Go.Shelf Go.Proofs.Ytjnhkiibnmbmfaa.Nm

/-- each key signs where the one ahead stops, is told ka before and sa behind; the last one has no end -/
def Ch (ka sa : Int) : Int → Int → List Tk → Tk → Prop
  | p, a, [], l => l.p = p ∧ l.a = a ∧ l.r = 4294967296 ∧ l.x = 4294967296
  | p, a, k :: I, l => (k.p = p ∧ k.a = a ∧ a ≤ k.r ∧ k.r + sa ≤ 4294967295 ∧ k.x = k.r + sa) ∧ Ch ka sa (k.r - ka) k.r I l
theorem Ch.last {ka sa : Int} : ∀ {I : List Tk} {p a : Int} {l : Tk}, Ch ka sa p a I l → l.r = 4294967296 ∧ l.x = 4294967296
  | [], _, _, _, h => ⟨h.2.2.1, h.2.2.2⟩
  | _ :: _, _, _, _, h => Ch.last h.2
theorem Ch.ends {ka sa : Int} (hs : 0 ≤ sa) : ∀ {I : List Tk} {p a : Int} {l : Tk}, Ch ka sa p a I l → ∀ k ∈ I, k.r ≠ 4294967296
  | [], _, _, _, _, k, hk => by cases hk
  | _ :: _, _, _, _, h, k, hk => by
    rcases List.mem_cons.1 hk with rfl | hk
    · have := h.1.2.2.2.1
      omega
    · exact Ch.ends hs h.2 k hk
/-- what the last key becomes -/
def oldT (l : Tk) (now ka sa : Int) : Tk := ⟨l.f, l.m, l.e, l.s, l.p, l.a, now + ka, now + ka + sa⟩
/-- the next one -/
def newT (f m e s now ka : Int) : Tk := ⟨f, m, e, s, now, now + ka, 4294967296, 4294967296⟩
theorem Ch.roll {ka sa now f m e s : Int} (hk : 0 ≤ ka) (ht : now + ka + sa ≤ 4294967295) : ∀ {I : List Tk} {p a : Int} {l : Tk}, Ch ka sa p a I l → l.a ≤ now → Ch ka sa p a (I ++ [oldT l now ka sa]) (newT f m e s now ka)
  | [], p, a, l, ⟨h1, h2, h3, h4⟩, hl => by
    refine ⟨⟨h1, h2, ?_, ?_, rfl⟩, ?_, rfl, rfl, rfl⟩
    · show a ≤ now + ka
      omega
    · show now + ka + sa ≤ 4294967295
      omega
    · show now = now + ka - ka
      omega
  | k :: I, p, a, l, ⟨h1, h2⟩, hl => ⟨h1, Ch.roll hk ht h2 hl⟩
theorem Ch.served {ka sa A b : Int} (hA : A ≤ 4294967295) (hb : b ≤ 4294967295) (h1 : b - A ≤ ka) (h2 : A - b ≤ sa) : ∀ {I : List Tk} {p a : Int} {l : Tk}, Ch ka sa p a I l → a ≤ b → p ≤ A → servedB (I ++ [l]) A b = true
  | [], p, a, l, ⟨e1, e2, e3, e4⟩, hab, hpa => by
    simp only [servedB, List.nil_append, List.any_cons, List.any_nil, Bool.or_false, told, signs, Bool.and_eq_true, decide_eq_true_eq]
    omega
  | k :: I, p, a, l, ⟨⟨e1, e2, e3, e4, e5⟩, h⟩, hab, hpa => by
    have ih := Ch.served hA hb h1 h2 h
    simp only [servedB, List.cons_append, List.any_cons, Bool.or_eq_true] at ih ⊢
    by_cases hlt : b < k.r
    · left
      simp only [told, signs, Bool.and_eq_true, decide_eq_true_eq]
      omega
    · right
      exact ih (by omega) (by omega)
/-- Roll's errors: 0 if there is none -/
def rollC (I : List Tk) (l : Tk) (f m e s now ka sa : Int) : Int :=
  bif !(ageB ka && ageB sa) then 23 else bif !rkB f m e s then 24 else bif (I ++ [l]).any (fun k => decide (pubB k.f k.m k.e k.s = pubB f m e s)) then 19 else
  bif decide (now < l.a) then 29 else bif decide (now > 4294967295 - ka - sa) then 25 else bif decide ((I ++ [l]).length = 50) then 20 else 0
/-- the line that it makes -/
def rollL (I : List Tk) (l : Tk) (f m e s now ka sa : Int) : List Tk := (I ++ [oldT l now ka sa]) ++ [newT f m e s now ka]
theorem rollL_len (I : List Tk) (l : Tk) (f m e s now ka sa : Int) : (rollL I l f m e s now ka sa).length = I.length + 2 := by simp [rollL]
theorem rollC_ok {I : List Tk} {l : Tk} {f m e s now ka sa : Int} (h : rollC I l f m e s now ka sa = 0) : (0 ≤ ka ∧ ka ≤ 2147483647) ∧ (0 ≤ sa ∧ sa ≤ 2147483647) ∧ rkB f m e s = true ∧ l.a ≤ now ∧ now + ka + sa ≤ 4294967295 ∧ (I ++ [l]).length ≠ 50 := by
  unfold rollC at h
  cases h1 : ageB ka && ageB sa with
  | false => rw [h1] at h; exact absurd (show (23 : Int) = 0 from h) (by decide)
  | true =>
    cases h2 : rkB f m e s with
    | false => rw [h1, h2] at h; exact absurd (show (24 : Int) = 0 from h) (by decide)
    | true =>
      cases h3 : (I ++ [l]).any (fun k => decide (pubB k.f k.m k.e k.s = pubB f m e s)) with
      | true => rw [h1, h2, h3] at h; exact absurd (show (19 : Int) = 0 from h) (by decide)
      | false =>
        cases h4 : decide (now < l.a) with
        | true => rw [h1, h2, h3, h4] at h; exact absurd (show (29 : Int) = 0 from h) (by decide)
        | false =>
          cases h5 : decide (now > 4294967295 - ka - sa) with
          | true => rw [h1, h2, h3, h4, h5] at h; exact absurd (show (25 : Int) = 0 from h) (by decide)
          | false =>
            cases h6 : decide ((I ++ [l]).length = 50) with
            | true => rw [h1, h2, h3, h4, h5, h6] at h; exact absurd (show (20 : Int) = 0 from h) (by decide)
            | false =>
              have h1' : ageB ka = true ∧ ageB sa = true := by simpa using h1
              simp only [ageB, Bool.and_eq_true, decide_eq_true_eq] at h1'
              have h4' := of_decide_eq_false h4
              have h5' := of_decide_eq_false h5
              have h6' := of_decide_eq_false h6
              exact ⟨h1'.1, h1'.2, rfl, by omega, by omega, h6'⟩
theorem line_roll {I : List Tk} {l : Tk} {f m e s now ka sa : Int} (hl : lineB (I ++ [l]) = true) (h : rollC I l f m e s now ka sa = 0) : lineB (rollL I l f m e s now ka sa) = true := by
  obtain ⟨⟨a1, a2⟩, ⟨a3, a4⟩, h2, h3, h4, h5⟩ := rollC_ok h
  unfold lineB at hl ⊢
  unfold rollL
  simp only [Bool.and_eq_true, decide_eq_true_eq, List.all_append, List.all_cons, List.all_nil, Bool.and_true, List.length_append, List.length_cons, List.length_nil] at hl h5 ⊢
  obtain ⟨h6, h7, h8⟩ := hl
  unfold rightT timesB at h8
  simp only [Bool.and_eq_true, decide_eq_true_eq] at h8
  refine ⟨by omega, ⟨h7, ?_⟩, ?_⟩
  · unfold rightT timesB oldT
    simp only [Bool.and_eq_true, decide_eq_true_eq]
    exact ⟨h8.1, by omega⟩
  · unfold rightT timesB newT
    simp only [Bool.and_eq_true, decide_eq_true_eq]
    exact ⟨h2, by omega⟩
/-- the first key -/
theorem first_key : ∃ d : Int, keyR 251 263 3 256 = .tuple #[.agg #[.int .i64 256, .int .i64 66013, .int .i64 3, .int .i64 d], .int .i64 0] ∧ rkB 256 66013 3 d = true := by
  have hi : invN 3 65500 = 43667 := invN_eq ⟨by decide, by decide, by decide⟩
  refine ⟨43667, ?_, by decide⟩
  unfold keyR
  rw [show keyOKB 251 263 3 256 = true by decide +kernel]
  show Value.tuple #[.agg #[.int .i64 256, .int .i64 (251 * 263), .int .i64 3, .int .i64 (invN 3 65500 : Int)], .int .i64 0] = _
  rw [hi]
  rfl
end Go.Proofs.Ytjnhkiibnmbmfaa
