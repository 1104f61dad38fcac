import Derived.Test.YtjnhkiibnmbmfaaSs4
/-
  Chapter 7: the reference's right lines, and which times are served. (The verifier's own text.)
-/
namespace Go.Proofs.Ytjnhkiibnmbmfaa
set_option linter.unusedVariables false
set_option linter.unusedSimpArgs false
open Go.RowKit Go.Shelf Go.Sort Go.Proofs.Ytjnhkiibnmbmfaa.Nm

set_option maxRecDepth 100000 in
set_option maxHeartbeats 1000000 in
/-- the reference's Served -/
theorem refServed_any (L : List Tk) (p : Option Addr) (cap : Nat) (a b : Int) (w : World) (hL : L.length ≤ 4294967296) (hat : TsAt w p L) :
    Calls Try.prog 9 #[.slice p L.length cap, .int .i64 a, .int .i64 b] w fun r w' => r = .returned (.bool (servedB L a b)) ∧ Below w.heap.size w w' := by
  have HA := hide' hat
  clear hat
  have HYES : Hid (∀ (k : Nat) (hk : k < L.length), (told L[k] a && signs L[k] b) = true → servedB L a b = true) := fun k hk h => List.any_eq_true.2 ⟨L[k], List.getElem_mem hk, h⟩
  have HNO : Hid ((∀ (k : Nat) (hk : k < L.length), (told L[k] a && signs L[k] b) = false) → servedB L a b = false) := fun h => List.any_eq_false.2 fun x hx => by
    obtain ⟨j, hj, rfl⟩ := List.getElem_of_mem hx
    rw [h j hj]; simp
  generalize servedB L a b = R at *
  go_enter Try.func9, Try.ntmps9
  go_wp2_with fail
  go_loopw [11] (fun i wr => ∃ k : Nat, i = .int .i64 (k : Int) ∧ k ≤ L.length ∧ Hid (∀ j (hj : j < L.length), j < k → (told L[j] a && signs L[j] b) = false) ∧ Below w.heap.size w wr) (fun i _ => L.length - (intOf i).toNat)
  case atStart => exact ⟨0, rfl, Nat.zero_le _, (fun j _ h => absurd h (Nat.not_lt_zero _)), Below.refl _ _⟩
  case round =>
    obtain ⟨k, rfl, hk, HN, hBr⟩ := hrel
    have HBr := hide' hBr
    by_cases hlt : k < L.length
    · obtain ⟨g, off, rfl, hg, e0, e1, e2, e3, e4, e5, e6, e7⟩ := TsAt.cells (TsAt.below HA.out hBr) k hlt
      have HY := hide' (HYES.out k hlt)
      have HX : Hid ((told L[k] a && signs L[k] b) = false → ∀ j (hj : j < L.length), j < k + 1 → (told L[j] a && signs L[j] b) = false) := by
        intro h j hj hjk
        rcases Nat.lt_or_ge j k with h' | h'
        · exact HN.out j hj h'
        · obtain rfl : j = k := by omega
          exact h
      generalize L[k] = x at *
      obtain ⟨f, m, e, s, pp, ac, rr, xx⟩ := x
      dsimp only at e0 e1 e2 e3 e4 e5 e6 e7
      have HB2 : Hid (Below w.heap.size w (wr.alloc (.cells #[.int .i64 f, .int .i64 m, .int .i64 e, .int .i64 s, .int .i64 pp, .int .i64 ac, .int .i64 rr, .int .i64 xx] 29))) := HBr.out.alloc HBr.out.size _
      clear hBr
      by_cases h1 : ac ≤ b
      · by_cases h2 : b < rr
        · by_cases h3 : pp ≤ a
          · by_cases h4 : a < xx
            · have HV : Hid (R = true) := HY.out (by simp [told, signs]; omega)
              go_wp2_with fail
              go_ret
              exact ⟨by rw [HV.out]; rfl, HB2.out⟩
            · have HV := hide' (HX.out (by simp [told, signs]; omega))
              go_wp2_with fail
              exact ⟨⟨k + 1, by go_num, by omega, HV.out, HB2.out⟩, by simp [intOf]; omega⟩
          · have HV := hide' (HX.out (by simp [told, signs]; omega))
            go_wp2_with fail
            exact ⟨⟨k + 1, by go_num, by omega, HV.out, HB2.out⟩, by simp [intOf]; omega⟩
        · have HV := hide' (HX.out (by simp [told, signs]; omega))
          go_wp2_with fail
          exact ⟨⟨k + 1, by go_num, by omega, HV.out, HB2.out⟩, by simp [intOf]; omega⟩
      · have HV := hide' (HX.out (by simp [told, signs]; omega))
        go_wp2_with fail
        exact ⟨⟨k + 1, by go_num, by omega, HV.out, HB2.out⟩, by simp [intOf]; omega⟩
    · obtain rfl : k = L.length := by omega
      have HV : Hid (R = false) := HNO.out (fun j hj => HN.out j hj hj)
      go_wp2_with fail
      go_ret
      exact ⟨by rw [HV.out]; rfl, HBr.out⟩

set_option maxRecDepth 100000 in
set_option maxHeartbeats 1000000 in
/-- the reference's RightLine -/
theorem refLine_any (L : List Tk) (p : Option Addr) (cap : Nat) (w : World) (hL : L.length ≤ 4294967296) (hat : TsAt w p L) :
    Calls Try.prog 20 #[.slice p L.length cap] w fun r w' => r = .returned (.bool (lineB L)) ∧ Below w.heap.size w w' := by
  have HA := hide' hat
  clear hat
  have HNO : Hid (∀ (k : Nat) (hk : k < L.length), rightT L[k] = false → lineB L = false) := fun k hk h => by
    unfold lineB
    rw [Bool.and_eq_false_iff]
    refine .inr (List.all_eq_false.2 ⟨L[k], List.getElem_mem hk, by rw [h]; simp⟩)
  have HYES : Hid ((∀ (k : Nat) (hk : k < L.length), rightT L[k] = true) → lineB L = decide (L.length ≤ 50)) := fun h => by
    unfold lineB
    have ha : L.all rightT = true := List.all_eq_true.2 fun x hx => by
      obtain ⟨j, hj, rfl⟩ := List.getElem_of_mem hx
      exact h j hj
    rw [ha, Bool.and_true]
  generalize lineB L = R at *
  go_enter Try.func20, Try.ntmps20
  go_wp2_with fail
  go_loopw [7] (fun i wr => ∃ k : Nat, i = .int .i64 (k : Int) ∧ k ≤ L.length ∧ Hid (∀ j (hj : j < L.length), j < k → rightT L[j] = true) ∧ Below w.heap.size w wr) (fun i _ => L.length - (intOf i).toNat)
  case atStart => exact ⟨0, rfl, Nat.zero_le _, (fun j _ h => absurd h (Nat.not_lt_zero _)), Below.refl _ _⟩
  case round =>
    obtain ⟨k, rfl, hk, HN, hBr⟩ := hrel
    have HBr := hide' hBr
    by_cases hlt : k < L.length
    · obtain ⟨g, off, rfl, hg, e0, e1, e2, e3, e4, e5, e6, e7⟩ := TsAt.cells (TsAt.below HA.out hBr) k hlt
      have HY := hide' (HNO.out k hlt)
      have HX : Hid (rightT L[k] = true → ∀ j (hj : j < L.length), j < k + 1 → rightT L[j] = true) := by
        intro h j hj hjk
        rcases Nat.lt_or_ge j k with h' | h'
        · exact HN.out j hj h'
        · obtain rfl : j = k := by omega
          exact h
      generalize L[k] = x at *
      obtain ⟨f, m, e, s, pp, ac, rr, xx⟩ := x
      dsimp only at e0 e1 e2 e3 e4 e5 e6 e7
      have HB2 : Hid (Below w.heap.size w (wr.alloc (.cells #[.int .i64 f, .int .i64 m, .int .i64 e, .int .i64 s, .int .i64 pp, .int .i64 ac, .int .i64 rr, .int .i64 xx] 29))) := HBr.out.alloc HBr.out.size _
      have HBX : Hid (Bx (wr.alloc (.cells #[.int .i64 f, .int .i64 m, .int .i64 e, .int .i64 s, .int .i64 pp, .int .i64 ac, .int .i64 rr, .int .i64 xx] 29)) wr.heap.size #[.int .i64 f, .int .i64 m, .int .i64 e, .int .i64 s, .int .i64 pp, .int .i64 ac, .int .i64 rr, .int .i64 xx] 29) := bxNew _ _ _
      have HRK := hide' (refRight_any f m e s)
      have HT : Hid (rightT ⟨f, m, e, s, pp, ac, rr, xx⟩ = (rkB f m e s && timesB ⟨f, m, e, s, pp, ac, rr, xx⟩)) := rfl
      rw [HT.out] at HY HX
      generalize rkB f m e s = bk at *
      clear hBr HT
      cases bk with
      | false =>
        have HV : Hid (R = false) := HY.out rfl
        go_wp2_with (go_at_call 21; refine (HRK.out _).mono ?_; rintro r1 w1 ⟨rfl, hB1⟩)
        go_ret
        exact ⟨by rw [HV.out]; rfl, bstep HB2.out hB1 HB2.out.size⟩
      | true =>
        by_cases h1 : 0 ≤ pp
        · by_cases h2 : pp ≤ ac
          · by_cases h3 : ac ≤ rr
            · by_cases h4 : rr ≤ xx
              · by_cases h5 : xx ≤ 4294967296
                · have HV := hide' (HX.out (by simp [timesB]; omega))
                  go_wp2_with (go_at_call 21; refine (HRK.out _).mono ?_; rintro r1 w1 ⟨rfl, hB1⟩; obtain ⟨q0, q1, q2, q3, q4, q5, q6, q7⟩ := bx8 (HBX.out.below hB1 HBX.out.lt))
                  exact ⟨⟨k + 1, by go_num, by omega, HV.out, bstep HB2.out hB1 HB2.out.size⟩, by simp [intOf]; omega⟩
                · have HV : Hid (R = false) := HY.out (by simp [timesB]; omega)
                  go_wp2_with (go_at_call 21; refine (HRK.out _).mono ?_; rintro r1 w1 ⟨rfl, hB1⟩; obtain ⟨q0, q1, q2, q3, q4, q5, q6, q7⟩ := bx8 (HBX.out.below hB1 HBX.out.lt))
                  go_ret
                  exact ⟨by rw [HV.out]; rfl, bstep HB2.out hB1 HB2.out.size⟩
              · have HV : Hid (R = false) := HY.out (by simp [timesB]; omega)
                go_wp2_with (go_at_call 21; refine (HRK.out _).mono ?_; rintro r1 w1 ⟨rfl, hB1⟩; obtain ⟨q0, q1, q2, q3, q4, q5, q6, q7⟩ := bx8 (HBX.out.below hB1 HBX.out.lt))
                go_ret
                exact ⟨by rw [HV.out]; rfl, bstep HB2.out hB1 HB2.out.size⟩
            · have HV : Hid (R = false) := HY.out (by simp [timesB]; omega)
              go_wp2_with (go_at_call 21; refine (HRK.out _).mono ?_; rintro r1 w1 ⟨rfl, hB1⟩; obtain ⟨q0, q1, q2, q3, q4, q5, q6, q7⟩ := bx8 (HBX.out.below hB1 HBX.out.lt))
              go_ret
              exact ⟨by rw [HV.out]; rfl, bstep HB2.out hB1 HB2.out.size⟩
          · have HV : Hid (R = false) := HY.out (by simp [timesB]; omega)
            go_wp2_with (go_at_call 21; refine (HRK.out _).mono ?_; rintro r1 w1 ⟨rfl, hB1⟩; obtain ⟨q0, q1, q2, q3, q4, q5, q6, q7⟩ := bx8 (HBX.out.below hB1 HBX.out.lt))
            go_ret
            exact ⟨by rw [HV.out]; rfl, bstep HB2.out hB1 HB2.out.size⟩
        · have HV : Hid (R = false) := HY.out (by simp [timesB]; omega)
          go_wp2_with (go_at_call 21; refine (HRK.out _).mono ?_; rintro r1 w1 ⟨rfl, hB1⟩; obtain ⟨q0, q1, q2, q3, q4, q5, q6, q7⟩ := bx8 (HBX.out.below hB1 HBX.out.lt))
          go_ret
          exact ⟨by rw [HV.out]; rfl, bstep HB2.out hB1 HB2.out.size⟩
    · obtain rfl : k = L.length := by omega
      have HV := hide' (HYES.out (fun j hj => HN.out j hj hj))
      by_cases h50 : L.length ≤ 50
      · rw [decide_eq_true h50] at HV
        go_wp2_with fail
        go_ret
        exact ⟨by rw [HV.out]; simp; omega, HBr.out⟩
      · rw [decide_eq_false h50] at HV
        go_wp2_with fail
        go_ret
        exact ⟨by rw [HV.out]; simp; omega, HBr.out⟩
end Go.Proofs.Ytjnhkiibnmbmfaa
