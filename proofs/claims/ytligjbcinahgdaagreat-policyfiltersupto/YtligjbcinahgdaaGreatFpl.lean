import Derived.Test.YtligjbcinahgdaaGreatFpcG
import Derived.Test.YtligjbcinahgdaaGreatFpeG
import Derived.Test.YtligjbcinahgdaaGreatFpi
import Derived.Test.YtligjbcinahgdaaGreatFpj
import Derived.Test.YtligjbcinahgdaaGreatFpk
/-
  Both Filters whole. (The verifier's own text.)
-/
namespace Go.Proofs.YtligjbcinahgdaaGreat
set_option linter.unusedVariables false
set_option linter.unusedSimpArgs false
open Go.RowKit Go.Shelf Go.Maps Go.Proofs.YtligjbcinahgdaaGreat.Nm

/-- how long its lists are -/
theorem filM_len (R : List Ru) (P : List Qn) (M : Mx) (h : M.ls.q.length ≤ 1048576 ∧ M.ls.a.length ≤ 1048576 ∧ M.ls.u.length ≤ 1048576 ∧ M.ls.d.length ≤ 1048576) : (filM R P M).ls.q.length ≤ 1048576 ∧ (filM R P M).ls.a.length ≤ 1048576 ∧ (filM R P M).ls.u.length ≤ 1048576 ∧ (filM R P M).ls.d.length ≤ 1048576 := by
  have hb : ∀ c (L : List Rn), L.length ≤ 1 → (bareM M c L).ls.q.length ≤ 1048576 ∧ (bareM M c L).ls.a.length ≤ 1048576 ∧ (bareM M c L).ls.u.length ≤ 1048576 ∧ (bareM M c L).ls.d.length ≤ 1048576 := fun c L hL => ⟨h.1, Nat.le_trans hL (by omega), Nat.zero_le _, Nat.le_trans (kp_le M.ls.d) h.2.2.2⟩
  unfold filM
  split
  · exact h
  · split
    · exact h
    · unfold ruleM
      split
      · exact h
      · split
        · exact ⟨Nat.zero_le _, Nat.zero_le _, Nat.zero_le _, Nat.zero_le _⟩
        · split
          · exact hb 3 [] (by simp)
          · split
            · exact hb 0 [] (by simp)
            · split
              · exact hb 0 _ (by simp)
              · exact hb 0 [] (by simp)
theorem filter_any (R : List Ru) (pr : Option Addr) (cr : Nat) (j0 j2 j9 : Int) (k1 k3 k4 k5 k6 k7 k8 : Bool) (r0 s0 t0 v0 : Option Addr) (rc sc tc vc : Nat) (P : List Qn) (Am Um Dm : List Rn) (i0 i2 i9 : Int) (b1 b3 b4 b5 b6 b7 b8 : Bool) (q0 a0 u0 d0 : Option Addr) (qc ac uc dc : Nat) (Q : List Qn) (A U D : List Rn) (w : World) (hP : QsAt w r0 P) (hl : LsAt w q0 a0 u0 d0 Q A U D) (hln : Q.length ≤ 1048576 ∧ A.length ≤ 1048576 ∧ U.length ≤ 1048576 ∧ D.length ≤ 1048576) (hA : RuAt w pr R) (hR : R.length ≤ 1048576) (hz : ∀ x ∈ R, x.n.size ≤ 1048576 ∧ x.d.size ≤ 1048576) (hqs : ∀ q ∈ P, q.n.size ≤ 1048576) :
    Calls Tryz.prog 8 #[.slice pr R.length cr, .agg #[.int .i64 j0, .bool k1, .int .i64 j2, .bool k3, .bool k4, .bool k5, .bool k6, .bool k7, .bool k8, .int .i64 j9, .slice r0 P.length rc, .slice s0 Am.length sc, .slice t0 Um.length tc, .slice v0 Dm.length vc], .agg #[.int .i64 i0, .bool b1, .int .i64 i2, .bool b3, .bool b4, .bool b5, .bool b6, .bool b7, .bool b8, .int .i64 i9, .slice q0 Q.length qc, .slice a0 A.length ac, .slice u0 U.length uc, .slice d0 D.length dc]] w (FiE (filM R P ⟨i0, b1, i2, b3, b4, b5, b6, b7, b8, i9, ⟨Q, A, U, D⟩, true⟩) w) := by
  by_cases hp : P.length = 1
  · obtain ⟨⟨qn, qt, ql⟩, hq⟩ : ∃ q, P[0]'(by omega) = q := ⟨_, rfl⟩
    have hg : P.getD 0 zQ = ⟨qn, qt, ql⟩ := by rw [List.getD_eq_getElem?_getD, List.getElem?_eq_getElem (by omega), hq]; rfl
    have hqn : qn.size ≤ 1048576 := by
      have := hqs _ (List.getElem_mem (show 0 < P.length by omega))
      rw [hq] at this
      exact this
    unfold filM
    rw [if_neg (by simpa using hp), hg]
    simp only
    by_cases hr : ruI R qn < 0
    · rw [if_pos hr]
      exact filter_none R pr cr j0 j2 j9 k1 k3 k4 k5 k6 k7 k8 r0 s0 t0 v0 rc sc tc vc P Am Um Dm i0 i2 i9 b1 b3 b4 b5 b6 b7 b8 q0 a0 u0 d0 qc ac uc dc Q A U D qn qt ql w hP hl hln hA hR hz hp hq hqn hr
    · rw [if_neg hr]
      have hb := ru_bound R qn
      obtain ⟨ii, hii⟩ : ∃ ii : Nat, ruI R qn = (ii : Int) := ⟨(ruI R qn).toNat, by omega⟩
      rw [hii] at hb ⊢
      rw [Int.toNat_natCast] at hb ⊢
      have hlt : ii < R.length := by omega
      obtain ⟨⟨xn, xb, xk, xt, xl, xd⟩, hx⟩ : ∃ x, R[ii] = x := ⟨_, rfl⟩
      have hu : uAt R ii = ⟨xn, xb, xk, xt, xl, xd⟩ := (uAt_get hlt).symm.trans hx
      have hg2 := rg_facts (hb.2.2 (by omega))
      rw [hu] at hg2 ⊢
      have h04 : 0 ≤ xk ∧ xk ≤ 4 := hg2.2
      clear hg2 hb
      rcases (show xk = 0 ∨ xk = 1 ∨ xk = 2 ∨ xk = 3 ∨ xk = 4 by omega) with rfl | rfl | rfl | rfl | rfl
      · exact filter_pass R pr cr j0 j2 j9 k1 k3 k4 k5 k6 k7 k8 r0 s0 t0 v0 rc sc tc vc P Am Um Dm i0 i2 i9 b1 b3 b4 b5 b6 b7 b8 q0 a0 u0 d0 qc ac uc dc Q A U D qn qt ql ii xn xb xt xl xd w hP hl hln hA hR hz hp hq hqn hlt hii hx
      · exact filter_drop R pr cr j0 j2 j9 k1 k3 k4 k5 k6 k7 k8 r0 s0 t0 v0 rc sc tc vc P Am Um Dm i0 i2 i9 b1 b3 b4 b5 b6 b7 b8 q0 a0 u0 d0 qc ac uc dc Q A U D qn qt ql ii xn xb xt xl xd w hP hl hln hA hR hz hp hq hqn hlt hii hx
      · exact filter_noname R pr cr j0 j2 j9 k1 k3 k4 k5 k6 k7 k8 r0 s0 t0 v0 rc sc tc vc P Am Um Dm i0 i2 i9 b1 b3 b4 b5 b6 b7 b8 q0 a0 u0 d0 qc ac uc dc Q A U D qn qt ql ii xn xb xt xl xd w hP hl hln hA hR hz hp hq hqn hlt hii hx
      · exact filter_nodata R pr cr j0 j2 j9 k1 k3 k4 k5 k6 k7 k8 r0 s0 t0 v0 rc sc tc vc P Am Um Dm i0 i2 i9 b1 b3 b4 b5 b6 b7 b8 q0 a0 u0 d0 qc ac uc dc Q A U D qn qt ql ii xn xb xt xl xd w hP hl hln hA hR hz hp hq hqn hlt hii hx
      · by_cases h1 : xt = qt
        · have e : ruleM ⟨xn, xb, 4, xt, xl, xd⟩ ⟨qn, qt, ql⟩ ⟨i0, b1, i2, b3, b4, b5, b6, b7, b8, i9, ⟨Q, A, U, D⟩, true⟩ = bareM ⟨i0, b1, i2, b3, b4, b5, b6, b7, b8, i9, ⟨Q, A, U, D⟩, true⟩ 0 [⟨qn, xt, 1, xl, xd⟩] := by simp [ruleM, sayB, sayR, h1]
          rw [e]
          exact filter_say1 R pr cr j0 j2 j9 k1 k3 k4 k5 k6 k7 k8 r0 s0 t0 v0 rc sc tc vc P Am Um Dm i0 i2 i9 b1 b3 b4 b5 b6 b7 b8 q0 a0 u0 d0 qc ac uc dc Q A U D qn qt ql ii xn xb xt xl xd w hP hl hln hA hR hz hp hq hqn hlt hii hx h1
        · by_cases h2 : qt = 255
          · have e : ruleM ⟨xn, xb, 4, xt, xl, xd⟩ ⟨qn, qt, ql⟩ ⟨i0, b1, i2, b3, b4, b5, b6, b7, b8, i9, ⟨Q, A, U, D⟩, true⟩ = bareM ⟨i0, b1, i2, b3, b4, b5, b6, b7, b8, i9, ⟨Q, A, U, D⟩, true⟩ 0 [⟨qn, xt, 1, xl, xd⟩] := by simp [ruleM, sayB, sayR, h2]
            rw [e]
            exact filter_say2 R pr cr j0 j2 j9 k1 k3 k4 k5 k6 k7 k8 r0 s0 t0 v0 rc sc tc vc P Am Um Dm i0 i2 i9 b1 b3 b4 b5 b6 b7 b8 q0 a0 u0 d0 qc ac uc dc Q A U D qn qt ql ii xn xb xt xl xd w hP hl hln hA hR hz hp hq hqn hlt hii hx h1 h2
          · by_cases h3 : xt = 5
            · have e : ruleM ⟨xn, xb, 4, xt, xl, xd⟩ ⟨qn, qt, ql⟩ ⟨i0, b1, i2, b3, b4, b5, b6, b7, b8, i9, ⟨Q, A, U, D⟩, true⟩ = bareM ⟨i0, b1, i2, b3, b4, b5, b6, b7, b8, i9, ⟨Q, A, U, D⟩, true⟩ 0 [⟨qn, xt, 1, xl, xd⟩] := by simp [ruleM, sayB, sayR, h3]
              rw [e]
              exact filter_say3 R pr cr j0 j2 j9 k1 k3 k4 k5 k6 k7 k8 r0 s0 t0 v0 rc sc tc vc P Am Um Dm i0 i2 i9 b1 b3 b4 b5 b6 b7 b8 q0 a0 u0 d0 qc ac uc dc Q A U D qn qt ql ii xn xb xt xl xd w hP hl hln hA hR hz hp hq hqn hlt hii hx h1 h2 h3
            · have e : ruleM ⟨xn, xb, 4, xt, xl, xd⟩ ⟨qn, qt, ql⟩ ⟨i0, b1, i2, b3, b4, b5, b6, b7, b8, i9, ⟨Q, A, U, D⟩, true⟩ = bareM ⟨i0, b1, i2, b3, b4, b5, b6, b7, b8, i9, ⟨Q, A, U, D⟩, true⟩ 0 [] := by simp [ruleM, sayB, h1, h2, h3]
              rw [e]
              exact filter_silent R pr cr j0 j2 j9 k1 k3 k4 k5 k6 k7 k8 r0 s0 t0 v0 rc sc tc vc P Am Um Dm i0 i2 i9 b1 b3 b4 b5 b6 b7 b8 q0 a0 u0 d0 qc ac uc dc Q A U D qn qt ql ii xn xb xt xl xd w hP hl hln hA hR hz hp hq hqn hlt hii hx h1 h2 h3
  · have e : filM R P ⟨i0, b1, i2, b3, b4, b5, b6, b7, b8, i9, ⟨Q, A, U, D⟩, true⟩ = ⟨i0, b1, i2, b3, b4, b5, b6, b7, b8, i9, ⟨Q, A, U, D⟩, true⟩ := by unfold filM; rw [if_pos hp]
    rw [e]
    exact filter_many R pr cr j0 j2 j9 k1 k3 k4 k5 k6 k7 k8 r0 s0 t0 v0 rc sc tc vc P Am Um Dm i0 i2 i9 b1 b3 b4 b5 b6 b7 b8 q0 a0 u0 d0 qc ac uc dc Q A U D w hP hl hln hp
theorem rfilter_any (R : List Ru) (pr : Option Addr) (cr : Nat) (j0 j2 j9 : Int) (k1 k3 k4 k5 k6 k7 k8 : Bool) (r0 s0 t0 v0 : Option Addr) (rc sc tc vc : Nat) (P : List Qn) (Am Um Dm : List Rn) (i0 i2 i9 : Int) (b1 b3 b4 b5 b6 b7 b8 : Bool) (q0 a0 u0 d0 : Option Addr) (qc ac uc dc : Nat) (Q : List Qn) (A U D : List Rn) (w : World) (hP : QsAt w r0 P) (hl : LsAt w q0 a0 u0 d0 Q A U D) (hln : Q.length ≤ 1048576 ∧ A.length ≤ 1048576 ∧ U.length ≤ 1048576 ∧ D.length ≤ 1048576) (hA : RuAt w pr R) (hR : R.length ≤ 1048576) (hz : ∀ x ∈ R, x.n.size ≤ 1048576 ∧ x.d.size ≤ 1048576) (hqs : ∀ q ∈ P, q.n.size ≤ 1048576) :
    Calls Tryz.prog 9 #[.slice pr R.length cr, .agg #[.int .i64 j0, .bool k1, .int .i64 j2, .bool k3, .bool k4, .bool k5, .bool k6, .bool k7, .bool k8, .int .i64 j9, .slice r0 P.length rc, .slice s0 Am.length sc, .slice t0 Um.length tc, .slice v0 Dm.length vc], .agg #[.int .i64 i0, .bool b1, .int .i64 i2, .bool b3, .bool b4, .bool b5, .bool b6, .bool b7, .bool b8, .int .i64 i9, .slice q0 Q.length qc, .slice a0 A.length ac, .slice u0 U.length uc, .slice d0 D.length dc]] w (RfE (filM R P ⟨i0, b1, i2, b3, b4, b5, b6, b7, b8, i9, ⟨Q, A, U, D⟩, true⟩) w) := by
  by_cases hp : P.length = 1
  · obtain ⟨⟨qn, qt, ql⟩, hq⟩ : ∃ q, P[0]'(by omega) = q := ⟨_, rfl⟩
    have hg : P.getD 0 zQ = ⟨qn, qt, ql⟩ := by rw [List.getD_eq_getElem?_getD, List.getElem?_eq_getElem (by omega), hq]; rfl
    have hqn : qn.size ≤ 1048576 := by
      have := hqs _ (List.getElem_mem (show 0 < P.length by omega))
      rw [hq] at this
      exact this
    unfold filM
    rw [if_neg (by simpa using hp), hg]
    simp only
    by_cases hr : ruI R qn < 0
    · rw [if_pos hr]
      exact rfilter_none R pr cr j0 j2 j9 k1 k3 k4 k5 k6 k7 k8 r0 s0 t0 v0 rc sc tc vc P Am Um Dm i0 i2 i9 b1 b3 b4 b5 b6 b7 b8 q0 a0 u0 d0 qc ac uc dc Q A U D qn qt ql w hP hl hln hA hR hz hp hq hqn hr
    · rw [if_neg hr]
      have hb := ru_bound R qn
      obtain ⟨ii, hii⟩ : ∃ ii : Nat, ruI R qn = (ii : Int) := ⟨(ruI R qn).toNat, by omega⟩
      rw [hii] at hb ⊢
      rw [Int.toNat_natCast] at hb ⊢
      have hlt : ii < R.length := by omega
      obtain ⟨⟨xn, xb, xk, xt, xl, xd⟩, hx⟩ : ∃ x, R[ii] = x := ⟨_, rfl⟩
      have hu : uAt R ii = ⟨xn, xb, xk, xt, xl, xd⟩ := (uAt_get hlt).symm.trans hx
      have hg2 := rg_facts (hb.2.2 (by omega))
      rw [hu] at hg2 ⊢
      have h04 : 0 ≤ xk ∧ xk ≤ 4 := hg2.2
      clear hg2 hb
      rcases (show xk = 0 ∨ xk = 1 ∨ xk = 2 ∨ xk = 3 ∨ xk = 4 by omega) with rfl | rfl | rfl | rfl | rfl
      · exact rfilter_pass R pr cr j0 j2 j9 k1 k3 k4 k5 k6 k7 k8 r0 s0 t0 v0 rc sc tc vc P Am Um Dm i0 i2 i9 b1 b3 b4 b5 b6 b7 b8 q0 a0 u0 d0 qc ac uc dc Q A U D qn qt ql ii xn xb xt xl xd w hP hl hln hA hR hz hp hq hqn hlt hii hx
      · exact rfilter_drop R pr cr j0 j2 j9 k1 k3 k4 k5 k6 k7 k8 r0 s0 t0 v0 rc sc tc vc P Am Um Dm i0 i2 i9 b1 b3 b4 b5 b6 b7 b8 q0 a0 u0 d0 qc ac uc dc Q A U D qn qt ql ii xn xb xt xl xd w hP hl hln hA hR hz hp hq hqn hlt hii hx
      · exact rfilter_noname R pr cr j0 j2 j9 k1 k3 k4 k5 k6 k7 k8 r0 s0 t0 v0 rc sc tc vc P Am Um Dm i0 i2 i9 b1 b3 b4 b5 b6 b7 b8 q0 a0 u0 d0 qc ac uc dc Q A U D qn qt ql ii xn xb xt xl xd w hP hl hln hA hR hz hp hq hqn hlt hii hx
      · exact rfilter_nodata R pr cr j0 j2 j9 k1 k3 k4 k5 k6 k7 k8 r0 s0 t0 v0 rc sc tc vc P Am Um Dm i0 i2 i9 b1 b3 b4 b5 b6 b7 b8 q0 a0 u0 d0 qc ac uc dc Q A U D qn qt ql ii xn xb xt xl xd w hP hl hln hA hR hz hp hq hqn hlt hii hx
      · by_cases h1 : xt = qt
        · have e : ruleM ⟨xn, xb, 4, xt, xl, xd⟩ ⟨qn, qt, ql⟩ ⟨i0, b1, i2, b3, b4, b5, b6, b7, b8, i9, ⟨Q, A, U, D⟩, true⟩ = bareM ⟨i0, b1, i2, b3, b4, b5, b6, b7, b8, i9, ⟨Q, A, U, D⟩, true⟩ 0 [⟨qn, xt, 1, xl, xd⟩] := by simp [ruleM, sayB, sayR, h1]
          rw [e]
          exact rfilter_say1 R pr cr j0 j2 j9 k1 k3 k4 k5 k6 k7 k8 r0 s0 t0 v0 rc sc tc vc P Am Um Dm i0 i2 i9 b1 b3 b4 b5 b6 b7 b8 q0 a0 u0 d0 qc ac uc dc Q A U D qn qt ql ii xn xb xt xl xd w hP hl hln hA hR hz hp hq hqn hlt hii hx h1
        · by_cases h2 : qt = 255
          · have e : ruleM ⟨xn, xb, 4, xt, xl, xd⟩ ⟨qn, qt, ql⟩ ⟨i0, b1, i2, b3, b4, b5, b6, b7, b8, i9, ⟨Q, A, U, D⟩, true⟩ = bareM ⟨i0, b1, i2, b3, b4, b5, b6, b7, b8, i9, ⟨Q, A, U, D⟩, true⟩ 0 [⟨qn, xt, 1, xl, xd⟩] := by simp [ruleM, sayB, sayR, h2]
            rw [e]
            exact rfilter_say2 R pr cr j0 j2 j9 k1 k3 k4 k5 k6 k7 k8 r0 s0 t0 v0 rc sc tc vc P Am Um Dm i0 i2 i9 b1 b3 b4 b5 b6 b7 b8 q0 a0 u0 d0 qc ac uc dc Q A U D qn qt ql ii xn xb xt xl xd w hP hl hln hA hR hz hp hq hqn hlt hii hx h1 h2
          · by_cases h3 : xt = 5
            · have e : ruleM ⟨xn, xb, 4, xt, xl, xd⟩ ⟨qn, qt, ql⟩ ⟨i0, b1, i2, b3, b4, b5, b6, b7, b8, i9, ⟨Q, A, U, D⟩, true⟩ = bareM ⟨i0, b1, i2, b3, b4, b5, b6, b7, b8, i9, ⟨Q, A, U, D⟩, true⟩ 0 [⟨qn, xt, 1, xl, xd⟩] := by simp [ruleM, sayB, sayR, h3]
              rw [e]
              exact rfilter_say3 R pr cr j0 j2 j9 k1 k3 k4 k5 k6 k7 k8 r0 s0 t0 v0 rc sc tc vc P Am Um Dm i0 i2 i9 b1 b3 b4 b5 b6 b7 b8 q0 a0 u0 d0 qc ac uc dc Q A U D qn qt ql ii xn xb xt xl xd w hP hl hln hA hR hz hp hq hqn hlt hii hx h1 h2 h3
            · have e : ruleM ⟨xn, xb, 4, xt, xl, xd⟩ ⟨qn, qt, ql⟩ ⟨i0, b1, i2, b3, b4, b5, b6, b7, b8, i9, ⟨Q, A, U, D⟩, true⟩ = bareM ⟨i0, b1, i2, b3, b4, b5, b6, b7, b8, i9, ⟨Q, A, U, D⟩, true⟩ 0 [] := by simp [ruleM, sayB, h1, h2, h3]
              rw [e]
              exact rfilter_silent R pr cr j0 j2 j9 k1 k3 k4 k5 k6 k7 k8 r0 s0 t0 v0 rc sc tc vc P Am Um Dm i0 i2 i9 b1 b3 b4 b5 b6 b7 b8 q0 a0 u0 d0 qc ac uc dc Q A U D qn qt ql ii xn xb xt xl xd w hP hl hln hA hR hz hp hq hqn hlt hii hx h1 h2 h3
  · have e : filM R P ⟨i0, b1, i2, b3, b4, b5, b6, b7, b8, i9, ⟨Q, A, U, D⟩, true⟩ = ⟨i0, b1, i2, b3, b4, b5, b6, b7, b8, i9, ⟨Q, A, U, D⟩, true⟩ := by unfold filM; rw [if_pos hp]
    rw [e]
    exact rfilter_many R pr cr j0 j2 j9 k1 k3 k4 k5 k6 k7 k8 r0 s0 t0 v0 rc sc tc vc P Am Um Dm i0 i2 i9 b1 b3 b4 b5 b6 b7 b8 q0 a0 u0 d0 qc ac uc dc Q A U D w hP hl hln hp
end Go.Proofs.YtligjbcinahgdaaGreat
