import Derived.Test.YtligjbcinahgdaaGreatFpb
/-
  Proofs: policy.Filter: the answer as it is. (The verifier's own text.)
-/
namespace Go.Proofs.YtligjbcinahgdaaGreat
set_option linter.unusedVariables false
set_option linter.unusedSimpArgs false
open Go.RowKit Go.Shelf Go.Maps Go.Proofs.YtligjbcinahgdaaGreat.Nm

set_option maxRecDepth 100000 in
set_option maxHeartbeats 8000000 in
/-- not one question -/
theorem filter_many (R : List Ru) (pr : Option Addr) (cr : Nat) (j0 j2 j9 : Int) (k1 k3 k4 k5 k6 k7 k8 : Bool) (r0 s0 t0 v0 : Option Addr) (rc sc tc vc : Nat) (P : List Qn) (Am Um Dm : List Rn) (i0 i2 i9 : Int) (b1 b3 b4 b5 b6 b7 b8 : Bool) (q0 a0 u0 d0 : Option Addr) (qc ac uc dc : Nat) (Q : List Qn) (A U D : List Rn) (w : World) (hP : QsAt w r0 P) (hl : LsAt w q0 a0 u0 d0 Q A U D) (hln : Q.length ≤ 1048576 ∧ A.length ≤ 1048576 ∧ U.length ≤ 1048576 ∧ D.length ≤ 1048576) (hne : P.length ≠ 1) :
    Calls Tryz.prog 8 #[.slice pr R.length cr, .agg #[.int .i64 j0, .bool k1, .int .i64 j2, .bool k3, .bool k4, .bool k5, .bool k6, .bool k7, .bool k8, .int .i64 j9, .slice r0 P.length rc, .slice s0 Am.length sc, .slice t0 Um.length tc, .slice v0 Dm.length vc], .agg #[.int .i64 i0, .bool b1, .int .i64 i2, .bool b3, .bool b4, .bool b5, .bool b6, .bool b7, .bool b8, .int .i64 i9, .slice q0 Q.length qc, .slice a0 A.length ac, .slice u0 U.length uc, .slice d0 D.length dc]] w (FiE ⟨i0, b1, i2, b3, b4, b5, b6, b7, b8, i9, ⟨Q, A, U, D⟩, true⟩ w) := by
  obtain ⟨wr, hwr⟩ : ∃ wr, ((w.alloc (.cells #[.int .i64 j0, .bool k1, .int .i64 j2, .bool k3, .bool k4, .bool k5, .bool k6, .bool k7, .bool k8, .int .i64 j9, .slice r0 P.length rc, .slice s0 Am.length sc, .slice t0 Um.length tc, .slice v0 Dm.length vc] 27)).alloc (.cells #[.int .i64 i0, .bool b1, .int .i64 i2, .bool b3, .bool b4, .bool b5, .bool b6, .bool b7, .bool b8, .int .i64 i9, .slice q0 Q.length qc, .slice a0 A.length ac, .slice u0 U.length uc, .slice d0 D.length dc] 27)).alloc (.cells #[.int .i64 0, .bool false, .int .i64 0, .bool false, .bool false, .bool false, .bool false, .bool false, .bool false, .int .i64 0, .slice none 0 0, .slice none 0 0, .slice none 0 0, .slice none 0 0] 27) = wr := ⟨_, rfl⟩
  have H0 : Hid (B3 w wr #[.int .i64 j0, .bool k1, .int .i64 j2, .bool k3, .bool k4, .bool k5, .bool k6, .bool k7, .bool k8, .int .i64 j9, .slice r0 P.length rc, .slice s0 Am.length sc, .slice t0 Um.length tc, .slice v0 Dm.length vc] #[.int .i64 i0, .bool b1, .int .i64 i2, .bool b3, .bool b4, .bool b5, .bool b6, .bool b7, .bool b8, .int .i64 i9, .slice q0 Q.length qc, .slice a0 A.length ac, .slice u0 U.length uc, .slice d0 D.length dc] #[.int .i64 0, .bool false, .int .i64 0, .bool false, .bool false, .bool false, .bool false, .bool false, .bool false, .int .i64 0, .slice none 0 0, .slice none 0 0, .slice none 0 0, .slice none 0 0]) := hwr ▸ B3.new w _ _ _
  have m10 : wr.cell? ⟨w.heap.size, 10, none⟩ = some (.slice r0 P.length rc) := H0.out.m.cell rfl
  have HCo : Hid (∀ V, Below w.heap.size w V → Calls Tryz.prog 23 #[.agg #[.int .i64 i0, .bool b1, .int .i64 i2, .bool b3, .bool b4, .bool b5, .bool b6, .bool b7, .bool b8, .int .i64 i9, .slice q0 Q.length qc, .slice a0 A.length ac, .slice u0 U.length uc, .slice d0 D.length dc]] V fun e w' => ∃ q1 a1 u1 d1 c1 ca cu cd, e = .returned (.agg #[.int .i64 i0, .bool b1, .int .i64 i2, .bool b3, .bool b4, .bool b5, .bool b6, .bool b7, .bool b8, .int .i64 i9, .slice q1 Q.length c1, .slice a1 A.length ca, .slice u1 U.length cu, .slice d1 D.length cd]) ∧ Mg4 w' V.heap.size (.slice q1 Q.length c1) (.slice a1 A.length ca) (.slice u1 U.length cu) (.slice d1 D.length cd) ⟨Q, A, U, D⟩ ∧ Below V.heap.size V w') := fun V hV => pcopyOf_any i0 i2 i9 b1 b3 b4 b5 b6 b7 b8 q0 a0 u0 d0 qc ac uc dc Q A U D V (hl.below hV) hln
  have hpn : ((P.length : Int) == 1) = false := by rw [beq_eq_false_iff_ne]; omega
  obtain ⟨x0, x1, x2, x3, x4, x5, x6, x7, x8, x9, x10, x11, x12, x13⟩ := bx14 H0.out.a
  clear hl hln hP hne
  go_enter Tryz.func8, Tryz.ntmps8
  go_wp2_with (go_at_call 23; (with_reducible refine (HCo.out _ H0.out.b).mono ?_); rintro e w1 ⟨q1, a1, u1, d1, c1, ca, cu, cd, rfl, hmg, hB⟩; have H1 := hide' (H0.out.step hB); have HMg := hide' hmg; have HSz1 := hide' H0.out.z; obtain ⟨r0, r1, r2, r3, r4, r5, r6, r7, r8, r9, r10, r11, r12, r13⟩ := bx14 H1.out.r; obtain ⟨f0, f1, f2, f3, f4, f5, f6, f7, f8, f9, f10, f11, f12, f13⟩ := bx14_free H1.out.r; obtain ⟨WZ, hWZ⟩ : ∃ W, set14 w1 (w.heap.size + 2) (.int .i64 i0) (.bool b1) (.int .i64 i2) (.bool b3) (.bool b4) (.bool b5) (.bool b6) (.bool b7) (.bool b8) (.int .i64 i9) (.slice q1 Q.length c1) (.slice a1 A.length ca) (.slice u1 U.length cu) (.slice d1 D.length cd) = W := ⟨_, rfl⟩; have HYZ : Hid (Bx WZ (w.heap.size + 2) #[.int .i64 i0, .bool b1, .int .i64 i2, .bool b3, .bool b4, .bool b5, .bool b6, .bool b7, .bool b8, .int .i64 i9, .slice q1 Q.length c1, .slice a1 A.length ca, .slice u1 U.length cu, .slice d1 D.length cd] 27) := (hWZ ▸ bx14_set H1.out.r (.int .i64 i0) (.bool b1) (.int .i64 i2) (.bool b3) (.bool b4) (.bool b5) (.bool b6) (.bool b7) (.bool b8) (.int .i64 i9) (.slice q1 Q.length c1) (.slice a1 A.length ca) (.slice u1 U.length cu) (.slice d1 D.length cd)); have HBZ : Hid (Below w.heap.size w WZ) := (hWZ ▸ below14 H1.out.b (Nat.le_add_right _ _) H1.out.b.size (.int .i64 i0) (.bool b1) (.int .i64 i2) (.bool b3) (.bool b4) (.bool b5) (.bool b6) (.bool b7) (.bool b8) (.int .i64 i9) (.slice q1 Q.length c1) (.slice a1 A.length ca) (.slice u1 U.length cu) (.slice d1 D.length cd)); have HGZ : Hid (w1.grownBy WZ (some (w.heap.size + 2))) := (hWZ ▸ grown14 w1 (w.heap.size + 2) (.int .i64 i0) (.bool b1) (.int .i64 i2) (.bool b3) (.bool b4) (.bool b5) (.bool b6) (.bool b7) (.bool b8) (.int .i64 i9) (.slice q1 Q.length c1) (.slice a1 A.length ca) (.slice u1 U.length cu) (.slice d1 D.length cd)); unfold set14 at hWZ; clear hmg hB)
  obtain ⟨y0, y1, y2, y3, y4, y5, y6, y7, y8, y9, y10, y11, y12, y13⟩ := bx14 HYZ.out
  exact bodyPost_ret (v := .tuple #[.agg #[.int .i64 i0, .bool b1, .int .i64 i2, .bool b3, .bool b4, .bool b5, .bool b6, .bool b7, .bool b8, .int .i64 i9, .slice q1 Q.length c1, .slice a1 A.length ca, .slice u1 U.length cu, .slice d1 D.length cd], .bool true]) (by simp [results, go_sem, y0, y1, y2, y3, y4, y5, y6, y7, y8, y9, y10, y11, y12, y13]) rfl ⟨q1, a1, u1, d1, c1, ca, cu, cd, rfl, (HMg.out.keep HGZ.out (fun q e => by injection e with e; have := HSz1.out; omega)).low (by have := HSz1.out; omega), HBZ.out⟩
set_option maxRecDepth 100000 in
set_option maxHeartbeats 8000000 in
/-- no rule -/
theorem filter_none (R : List Ru) (pr : Option Addr) (cr : Nat) (j0 j2 j9 : Int) (k1 k3 k4 k5 k6 k7 k8 : Bool) (r0 s0 t0 v0 : Option Addr) (rc sc tc vc : Nat) (P : List Qn) (Am Um Dm : List Rn) (i0 i2 i9 : Int) (b1 b3 b4 b5 b6 b7 b8 : Bool) (q0 a0 u0 d0 : Option Addr) (qc ac uc dc : Nat) (Q : List Qn) (A U D : List Rn) (qn : ByteArray) (qt ql : Int) (w : World) (hP : QsAt w r0 P) (hl : LsAt w q0 a0 u0 d0 Q A U D) (hln : Q.length ≤ 1048576 ∧ A.length ≤ 1048576 ∧ U.length ≤ 1048576 ∧ D.length ≤ 1048576) (hA : RuAt w pr R) (hR : R.length ≤ 1048576) (hz : ∀ x ∈ R, x.n.size ≤ 1048576 ∧ x.d.size ≤ 1048576) (hp : P.length = 1) (hq : P[0]'(by omega) = ⟨qn, qt, ql⟩) (hqs : qn.size ≤ 1048576) (hru : ruI R qn < 0) :
    Calls Tryz.prog 8 #[.slice pr R.length cr, .agg #[.int .i64 j0, .bool k1, .int .i64 j2, .bool k3, .bool k4, .bool k5, .bool k6, .bool k7, .bool k8, .int .i64 j9, .slice r0 P.length rc, .slice s0 Am.length sc, .slice t0 Um.length tc, .slice v0 Dm.length vc], .agg #[.int .i64 i0, .bool b1, .int .i64 i2, .bool b3, .bool b4, .bool b5, .bool b6, .bool b7, .bool b8, .int .i64 i9, .slice q0 Q.length qc, .slice a0 A.length ac, .slice u0 U.length uc, .slice d0 D.length dc]] w (FiE ⟨i0, b1, i2, b3, b4, b5, b6, b7, b8, i9, ⟨Q, A, U, D⟩, true⟩ w) := by
  obtain ⟨wr, hwr⟩ : ∃ wr, ((w.alloc (.cells #[.int .i64 j0, .bool k1, .int .i64 j2, .bool k3, .bool k4, .bool k5, .bool k6, .bool k7, .bool k8, .int .i64 j9, .slice r0 P.length rc, .slice s0 Am.length sc, .slice t0 Um.length tc, .slice v0 Dm.length vc] 27)).alloc (.cells #[.int .i64 i0, .bool b1, .int .i64 i2, .bool b3, .bool b4, .bool b5, .bool b6, .bool b7, .bool b8, .int .i64 i9, .slice q0 Q.length qc, .slice a0 A.length ac, .slice u0 U.length uc, .slice d0 D.length dc] 27)).alloc (.cells #[.int .i64 0, .bool false, .int .i64 0, .bool false, .bool false, .bool false, .bool false, .bool false, .bool false, .int .i64 0, .slice none 0 0, .slice none 0 0, .slice none 0 0, .slice none 0 0] 27) = wr := ⟨_, rfl⟩
  have H0 : Hid (B3 w wr #[.int .i64 j0, .bool k1, .int .i64 j2, .bool k3, .bool k4, .bool k5, .bool k6, .bool k7, .bool k8, .int .i64 j9, .slice r0 P.length rc, .slice s0 Am.length sc, .slice t0 Um.length tc, .slice v0 Dm.length vc] #[.int .i64 i0, .bool b1, .int .i64 i2, .bool b3, .bool b4, .bool b5, .bool b6, .bool b7, .bool b8, .int .i64 i9, .slice q0 Q.length qc, .slice a0 A.length ac, .slice u0 U.length uc, .slice d0 D.length dc] #[.int .i64 0, .bool false, .int .i64 0, .bool false, .bool false, .bool false, .bool false, .bool false, .bool false, .int .i64 0, .slice none 0 0, .slice none 0 0, .slice none 0 0, .slice none 0 0]) := hwr ▸ B3.new w _ _ _
  have m10 : wr.cell? ⟨w.heap.size, 10, none⟩ = some (.slice r0 P.length rc) := H0.out.m.cell rfl
  have HCo : Hid (∀ V, Below w.heap.size w V → Calls Tryz.prog 23 #[.agg #[.int .i64 i0, .bool b1, .int .i64 i2, .bool b3, .bool b4, .bool b5, .bool b6, .bool b7, .bool b8, .int .i64 i9, .slice q0 Q.length qc, .slice a0 A.length ac, .slice u0 U.length uc, .slice d0 D.length dc]] V fun e w' => ∃ q1 a1 u1 d1 c1 ca cu cd, e = .returned (.agg #[.int .i64 i0, .bool b1, .int .i64 i2, .bool b3, .bool b4, .bool b5, .bool b6, .bool b7, .bool b8, .int .i64 i9, .slice q1 Q.length c1, .slice a1 A.length ca, .slice u1 U.length cu, .slice d1 D.length cd]) ∧ Mg4 w' V.heap.size (.slice q1 Q.length c1) (.slice a1 A.length ca) (.slice u1 U.length cu) (.slice d1 D.length cd) ⟨Q, A, U, D⟩ ∧ Below V.heap.size V w') := fun V hV => pcopyOf_any i0 i2 i9 b1 b3 b4 b5 b6 b7 b8 q0 a0 u0 d0 qc ac uc dc Q A U D V (hl.below hV) hln
  have hp1 : ((P.length : Int) == 1) = true := by rw [beq_iff_eq]; omega
  obtain ⟨gq, oq, hpq, hgq, z0, z1, z2⟩ := hP 0 (by omega)
  subst hpq
  rw [Nat.zero_mul, Nat.add_zero] at z0 z1 z2
  have hpi : (0 : Int) < (P.length : Int) := by omega
  rw [hq] at z0 z1 z2
  simp only at z0 z1 z2
  have zr0 : wr.cell? ⟨gq, oq, none⟩ = some (.string qn) := (H0.out.b.cell (p := ⟨gq, oq, none⟩) hgq).trans z0
  have zr1 : wr.cell? ⟨gq, oq + 1, none⟩ = some (.int .i64 qt) := (H0.out.b.cell (p := ⟨gq, oq + 1, none⟩) hgq).trans z1
  have zr2 : wr.cell? ⟨gq, oq + 2, none⟩ = some (.int .i64 ql) := (H0.out.b.cell (p := ⟨gq, oq + 2, none⟩) hgq).trans z2
  obtain ⟨wq, hwq⟩ : ∃ W, wr.alloc (.cells #[.string qn, .int .i64 qt, .int .i64 ql] 52) = W := ⟨_, rfl⟩
  have HQB : Hid (Bx wq wr.heap.size #[.string qn, .int .i64 qt, .int .i64 ql] 52) := hwq ▸ World.alloc_heap_new wr _
  have H1 := hide' (H0.out.step (alloc_belF hwq))
  have q00 : wq.cell? ⟨wr.heap.size, 0, none⟩ = some (.string qn) := HQB.out.cell rfl
  have HRu : Hid (∀ V, Below w.heap.size w V → Calls Tryz.prog 5 #[.slice pr R.length cr, .string qn] V fun e w' => e = .returned (.int .i64 (ruI R qn)) ∧ Below V.heap.size V w') := fun V hV => policyRule_any R pr cr qn V (by
    intro k hk
    obtain ⟨g, off, h1, h2, e0, e1, e2, e3, e4, e5⟩ := hA k hk
    have c := fun (j : Nat) => hV.cell (p := ⟨g, j, none⟩) h2
    exact ⟨g, off, h1, Nat.lt_of_lt_of_le h2 hV.size, (c _).trans e0, (c _).trans e1, (c _).trans e2, (c _).trans e3, (c _).trans e4, (c _).trans e5⟩) hR hz hqs
  obtain ⟨ri, hri⟩ : ∃ z, ruI R qn = z := ⟨_, rfl⟩
  rw [hri] at HRu hru
  clear hri hl hln hA hz hP z0 z1 z2 hp hq hgq
  go_enter Tryz.func8, Tryz.ntmps8
  go_wp2_with (first
    | (go_at_call 5; (with_reducible refine (HRu.out _ H1.out.b).mono ?_); rintro e w2 ⟨rfl, hB⟩; have H2 := hide' (H1.out.step hB); obtain ⟨x0, x1, x2, x3, x4, x5, x6, x7, x8, x9, x10, x11, x12, x13⟩ := bx14 H2.out.a; clear hB)
    | (go_at_call 23; (with_reducible refine (HCo.out _ H2.out.b).mono ?_); rintro e w3 ⟨q1, a1, u1, d1, c1, ca, cu, cd, rfl, hmg, hB⟩; have H3 := hide' (H2.out.step hB); have HMg := hide' hmg; have HSz3 := hide' H2.out.z; obtain ⟨r0, r1, r2, r3, r4, r5, r6, r7, r8, r9, r10, r11, r12, r13⟩ := bx14 H3.out.r; obtain ⟨f0, f1, f2, f3, f4, f5, f6, f7, f8, f9, f10, f11, f12, f13⟩ := bx14_free H3.out.r; obtain ⟨WZ, hWZ⟩ : ∃ W, set14 w3 (w.heap.size + 2) (.int .i64 i0) (.bool b1) (.int .i64 i2) (.bool b3) (.bool b4) (.bool b5) (.bool b6) (.bool b7) (.bool b8) (.int .i64 i9) (.slice q1 Q.length c1) (.slice a1 A.length ca) (.slice u1 U.length cu) (.slice d1 D.length cd) = W := ⟨_, rfl⟩; have HYZ : Hid (Bx WZ (w.heap.size + 2) #[.int .i64 i0, .bool b1, .int .i64 i2, .bool b3, .bool b4, .bool b5, .bool b6, .bool b7, .bool b8, .int .i64 i9, .slice q1 Q.length c1, .slice a1 A.length ca, .slice u1 U.length cu, .slice d1 D.length cd] 27) := (hWZ ▸ bx14_set H3.out.r (.int .i64 i0) (.bool b1) (.int .i64 i2) (.bool b3) (.bool b4) (.bool b5) (.bool b6) (.bool b7) (.bool b8) (.int .i64 i9) (.slice q1 Q.length c1) (.slice a1 A.length ca) (.slice u1 U.length cu) (.slice d1 D.length cd)); have HBZ : Hid (Below w.heap.size w WZ) := (hWZ ▸ below14 H3.out.b (Nat.le_add_right _ _) H3.out.b.size (.int .i64 i0) (.bool b1) (.int .i64 i2) (.bool b3) (.bool b4) (.bool b5) (.bool b6) (.bool b7) (.bool b8) (.int .i64 i9) (.slice q1 Q.length c1) (.slice a1 A.length ca) (.slice u1 U.length cu) (.slice d1 D.length cd)); have HGZ : Hid (w3.grownBy WZ (some (w.heap.size + 2))) := (hWZ ▸ grown14 w3 (w.heap.size + 2) (.int .i64 i0) (.bool b1) (.int .i64 i2) (.bool b3) (.bool b4) (.bool b5) (.bool b6) (.bool b7) (.bool b8) (.int .i64 i9) (.slice q1 Q.length c1) (.slice a1 A.length ca) (.slice u1 U.length cu) (.slice d1 D.length cd)); unfold set14 at hWZ; clear hmg hB))
  obtain ⟨y0, y1, y2, y3, y4, y5, y6, y7, y8, y9, y10, y11, y12, y13⟩ := bx14 HYZ.out
  exact bodyPost_ret (v := .tuple #[.agg #[.int .i64 i0, .bool b1, .int .i64 i2, .bool b3, .bool b4, .bool b5, .bool b6, .bool b7, .bool b8, .int .i64 i9, .slice q1 Q.length c1, .slice a1 A.length ca, .slice u1 U.length cu, .slice d1 D.length cd], .bool true]) (by simp [results, go_sem, y0, y1, y2, y3, y4, y5, y6, y7, y8, y9, y10, y11, y12, y13]) rfl ⟨q1, a1, u1, d1, c1, ca, cu, cd, rfl, (HMg.out.keep HGZ.out (fun q e => by injection e with e; have := HSz3.out; omega)).low (by have := HSz3.out; omega), HBZ.out⟩
end Go.Proofs.YtligjbcinahgdaaGreat

/-
  Proofs: policy.Filter: a rule that passes, drops or hides. (The verifier's own text.)
-/
namespace Go.Proofs.YtligjbcinahgdaaGreat
set_option linter.unusedVariables false
set_option linter.unusedSimpArgs false
open Go.RowKit Go.Shelf Go.Maps Go.Proofs.YtligjbcinahgdaaGreat.Nm

set_option maxRecDepth 100000 in
set_option maxHeartbeats 8000000 in
/-- a rule that lets it pass -/
theorem filter_pass (R : List Ru) (pr : Option Addr) (cr : Nat) (j0 j2 j9 : Int) (k1 k3 k4 k5 k6 k7 k8 : Bool) (r0 s0 t0 v0 : Option Addr) (rc sc tc vc : Nat) (P : List Qn) (Am Um Dm : List Rn) (i0 i2 i9 : Int) (b1 b3 b4 b5 b6 b7 b8 : Bool) (q0 a0 u0 d0 : Option Addr) (qc ac uc dc : Nat) (Q : List Qn) (A U D : List Rn) (qn : ByteArray) (qt ql : Int) (ii : Nat) (xn : ByteArray) (xb : Bool) (xt xl : Int) (xd : ByteArray) (w : World) (hP : QsAt w r0 P) (hl : LsAt w q0 a0 u0 d0 Q A U D) (hln : Q.length ≤ 1048576 ∧ A.length ≤ 1048576 ∧ U.length ≤ 1048576 ∧ D.length ≤ 1048576) (hA : RuAt w pr R) (hR : R.length ≤ 1048576) (hz : ∀ x ∈ R, x.n.size ≤ 1048576 ∧ x.d.size ≤ 1048576) (hp : P.length = 1) (hq : P[0]'(by omega) = ⟨qn, qt, ql⟩) (hqs : qn.size ≤ 1048576) (hii : ii < R.length) (hru : ruI R qn = (ii : Int)) (hx : R[ii]'hii = ⟨xn, xb, 0, xt, xl, xd⟩) :
    Calls Tryz.prog 8 #[.slice pr R.length cr, .agg #[.int .i64 j0, .bool k1, .int .i64 j2, .bool k3, .bool k4, .bool k5, .bool k6, .bool k7, .bool k8, .int .i64 j9, .slice r0 P.length rc, .slice s0 Am.length sc, .slice t0 Um.length tc, .slice v0 Dm.length vc], .agg #[.int .i64 i0, .bool b1, .int .i64 i2, .bool b3, .bool b4, .bool b5, .bool b6, .bool b7, .bool b8, .int .i64 i9, .slice q0 Q.length qc, .slice a0 A.length ac, .slice u0 U.length uc, .slice d0 D.length dc]] w (FiE ⟨i0, b1, i2, b3, b4, b5, b6, b7, b8, i9, ⟨Q, A, U, D⟩, true⟩ w) := by
  obtain ⟨wr, hwr⟩ : ∃ wr, ((w.alloc (.cells #[.int .i64 j0, .bool k1, .int .i64 j2, .bool k3, .bool k4, .bool k5, .bool k6, .bool k7, .bool k8, .int .i64 j9, .slice r0 P.length rc, .slice s0 Am.length sc, .slice t0 Um.length tc, .slice v0 Dm.length vc] 27)).alloc (.cells #[.int .i64 i0, .bool b1, .int .i64 i2, .bool b3, .bool b4, .bool b5, .bool b6, .bool b7, .bool b8, .int .i64 i9, .slice q0 Q.length qc, .slice a0 A.length ac, .slice u0 U.length uc, .slice d0 D.length dc] 27)).alloc (.cells #[.int .i64 0, .bool false, .int .i64 0, .bool false, .bool false, .bool false, .bool false, .bool false, .bool false, .int .i64 0, .slice none 0 0, .slice none 0 0, .slice none 0 0, .slice none 0 0] 27) = wr := ⟨_, rfl⟩
  have H0 : Hid (B3 w wr #[.int .i64 j0, .bool k1, .int .i64 j2, .bool k3, .bool k4, .bool k5, .bool k6, .bool k7, .bool k8, .int .i64 j9, .slice r0 P.length rc, .slice s0 Am.length sc, .slice t0 Um.length tc, .slice v0 Dm.length vc] #[.int .i64 i0, .bool b1, .int .i64 i2, .bool b3, .bool b4, .bool b5, .bool b6, .bool b7, .bool b8, .int .i64 i9, .slice q0 Q.length qc, .slice a0 A.length ac, .slice u0 U.length uc, .slice d0 D.length dc] #[.int .i64 0, .bool false, .int .i64 0, .bool false, .bool false, .bool false, .bool false, .bool false, .bool false, .int .i64 0, .slice none 0 0, .slice none 0 0, .slice none 0 0, .slice none 0 0]) := hwr ▸ B3.new w _ _ _
  have m10 : wr.cell? ⟨w.heap.size, 10, none⟩ = some (.slice r0 P.length rc) := H0.out.m.cell rfl
  have HCo : Hid (∀ V, Below w.heap.size w V → Calls Tryz.prog 23 #[.agg #[.int .i64 i0, .bool b1, .int .i64 i2, .bool b3, .bool b4, .bool b5, .bool b6, .bool b7, .bool b8, .int .i64 i9, .slice q0 Q.length qc, .slice a0 A.length ac, .slice u0 U.length uc, .slice d0 D.length dc]] V fun e w' => ∃ q1 a1 u1 d1 c1 ca cu cd, e = .returned (.agg #[.int .i64 i0, .bool b1, .int .i64 i2, .bool b3, .bool b4, .bool b5, .bool b6, .bool b7, .bool b8, .int .i64 i9, .slice q1 Q.length c1, .slice a1 A.length ca, .slice u1 U.length cu, .slice d1 D.length cd]) ∧ Mg4 w' V.heap.size (.slice q1 Q.length c1) (.slice a1 A.length ca) (.slice u1 U.length cu) (.slice d1 D.length cd) ⟨Q, A, U, D⟩ ∧ Below V.heap.size V w') := fun V hV => pcopyOf_any i0 i2 i9 b1 b3 b4 b5 b6 b7 b8 q0 a0 u0 d0 qc ac uc dc Q A U D V (hl.below hV) hln
  have hp1 : ((P.length : Int) == 1) = true := by rw [beq_iff_eq]; omega
  obtain ⟨gq, oq, hpq, hgq, z0, z1, z2⟩ := hP 0 (by omega)
  subst hpq
  rw [Nat.zero_mul, Nat.add_zero] at z0 z1 z2
  have hpi : (0 : Int) < (P.length : Int) := by omega
  rw [hq] at z0 z1 z2
  simp only at z0 z1 z2
  have zr0 : wr.cell? ⟨gq, oq, none⟩ = some (.string qn) := (H0.out.b.cell (p := ⟨gq, oq, none⟩) hgq).trans z0
  have zr1 : wr.cell? ⟨gq, oq + 1, none⟩ = some (.int .i64 qt) := (H0.out.b.cell (p := ⟨gq, oq + 1, none⟩) hgq).trans z1
  have zr2 : wr.cell? ⟨gq, oq + 2, none⟩ = some (.int .i64 ql) := (H0.out.b.cell (p := ⟨gq, oq + 2, none⟩) hgq).trans z2
  obtain ⟨wq, hwq⟩ : ∃ W, wr.alloc (.cells #[.string qn, .int .i64 qt, .int .i64 ql] 52) = W := ⟨_, rfl⟩
  have HQB : Hid (Bx wq wr.heap.size #[.string qn, .int .i64 qt, .int .i64 ql] 52) := hwq ▸ World.alloc_heap_new wr _
  have H1 := hide' (H0.out.step (alloc_belF hwq))
  have q00 : wq.cell? ⟨wr.heap.size, 0, none⟩ = some (.string qn) := HQB.out.cell rfl
  have HRu : Hid (∀ V, Below w.heap.size w V → Calls Tryz.prog 5 #[.slice pr R.length cr, .string qn] V fun e w' => e = .returned (.int .i64 (ruI R qn)) ∧ Below V.heap.size V w') := fun V hV => policyRule_any R pr cr qn V (by
    intro k hk
    obtain ⟨g, off, h1, h2, e0, e1, e2, e3, e4, e5⟩ := hA k hk
    have c := fun (j : Nat) => hV.cell (p := ⟨g, j, none⟩) h2
    exact ⟨g, off, h1, Nat.lt_of_lt_of_le h2 hV.size, (c _).trans e0, (c _).trans e1, (c _).trans e2, (c _).trans e3, (c _).trans e4, (c _).trans e5⟩) hR hz hqs
  have HRu2 : Hid (∀ V, Below w.heap.size w V → Calls Tryz.prog 5 #[.slice pr R.length cr, .string qn] V fun e w' => e = .returned (.int .i64 (ii : Int)) ∧ Below V.heap.size V w') := by
    rw [← hru]
    exact HRu
  have HA := hide' hA
  have hii' : (ii : Int) < (R.length : Int) := by omega
  have hi0 : (0 : Int) ≤ (ii : Int) := by omega
  have hnl : ¬ (ii : Int) < 0 := by omega
  obtain ⟨gr, og, hpr, hgr, -⟩ := hA ii hii
  subst hpr
  have HCe : Hid (∀ V, Below w.heap.size w V → V.cell? ⟨gr, og + ii * 6, none⟩ = some (.string xn) ∧ V.cell? ⟨gr, og + ii * 6 + 1, none⟩ = some (.bool xb) ∧ V.cell? ⟨gr, og + ii * 6 + 2, none⟩ = some (.int .i64 0) ∧ V.cell? ⟨gr, og + ii * 6 + 3, none⟩ = some (.int .i64 xt) ∧ V.cell? ⟨gr, og + ii * 6 + 4, none⟩ = some (.int .i64 xl) ∧ V.cell? ⟨gr, og + ii * 6 + 5, none⟩ = some (.string xd)) := fun V hV => by
    obtain ⟨g, off, h1, h2, e0, e1, e2, e3, e4, e5⟩ := HA.out ii hii
    injection h1 with h1
    injection h1 with g1 g2
    subst g1 g2
    rw [hx] at e0 e1 e2 e3 e4 e5
    have c := fun (j : Nat) => hV.cell (p := ⟨gr, j, none⟩) h2
    exact ⟨(c _).trans e0, (c _).trans e1, (c _).trans e2, (c _).trans e3, (c _).trans e4, (c _).trans e5⟩
  clear HRu
  clear hl hln hA hz hP z0 z1 z2 hp hq hgq hx hru
  go_enter Tryz.func8, Tryz.ntmps8
  go_wp2_with (first
    | (go_at_call 5; (with_reducible refine (HRu2.out _ H1.out.b).mono ?_); rintro e w2 ⟨rfl, hB⟩; have H2 := hide' (H1.out.step hB); obtain ⟨c0, c1', c2, c3, c4, c5⟩ := HCe.out _ H2.out.b; obtain ⟨wu, hwu⟩ : ∃ W, w2.alloc (.cells #[.string xn, .bool xb, .int .i64 0, .int .i64 xt, .int .i64 xl, .string xd] 45) = W := ⟨_, rfl⟩; have HUB : Hid (Bx wu w2.heap.size #[.string xn, .bool xb, .int .i64 0, .int .i64 xt, .int .i64 xl, .string xd] 45) := (hwu ▸ World.alloc_heap_new w2 _); have HQ2 := hide' ((HQB.out.below hB HQB.out.lt).below (alloc_belF hwu) (HQB.out.below hB HQB.out.lt).lt); have H3 := hide' (H2.out.step (alloc_belF hwu)); have u2 : wu.cell? ⟨w2.heap.size, 2, none⟩ = some (.int .i64 0) := HUB.out.cell rfl; obtain ⟨x0, x1, x2, x3, x4, x5, x6, x7, x8, x9, x10, x11, x12, x13⟩ := bx14 H3.out.a; clear hB)
    | (go_at_call 23; (with_reducible refine (HCo.out _ H3.out.b).mono ?_); rintro e w4 ⟨q1, a1, u1, d1, c1, ca, cu, cd, rfl, hmg, hB⟩; have H4 := hide' (H3.out.step hB); have HMg := hide' hmg; have HSz4 := hide' H3.out.z; obtain ⟨r0, r1, r2, r3, r4, r5, r6, r7, r8, r9, r10, r11, r12, r13⟩ := bx14 H4.out.r; obtain ⟨f0, f1, f2, f3, f4, f5, f6, f7, f8, f9, f10, f11, f12, f13⟩ := bx14_free H4.out.r; obtain ⟨WZ, hWZ⟩ : ∃ W, set14 w4 (w.heap.size + 2) (.int .i64 i0) (.bool b1) (.int .i64 i2) (.bool b3) (.bool b4) (.bool b5) (.bool b6) (.bool b7) (.bool b8) (.int .i64 i9) (.slice q1 Q.length c1) (.slice a1 A.length ca) (.slice u1 U.length cu) (.slice d1 D.length cd) = W := ⟨_, rfl⟩; have HYZ : Hid (Bx WZ (w.heap.size + 2) #[.int .i64 i0, .bool b1, .int .i64 i2, .bool b3, .bool b4, .bool b5, .bool b6, .bool b7, .bool b8, .int .i64 i9, .slice q1 Q.length c1, .slice a1 A.length ca, .slice u1 U.length cu, .slice d1 D.length cd] 27) := (hWZ ▸ bx14_set H4.out.r (.int .i64 i0) (.bool b1) (.int .i64 i2) (.bool b3) (.bool b4) (.bool b5) (.bool b6) (.bool b7) (.bool b8) (.int .i64 i9) (.slice q1 Q.length c1) (.slice a1 A.length ca) (.slice u1 U.length cu) (.slice d1 D.length cd)); have HBZ : Hid (Below w.heap.size w WZ) := (hWZ ▸ below14 H4.out.b (Nat.le_add_right _ _) H4.out.b.size (.int .i64 i0) (.bool b1) (.int .i64 i2) (.bool b3) (.bool b4) (.bool b5) (.bool b6) (.bool b7) (.bool b8) (.int .i64 i9) (.slice q1 Q.length c1) (.slice a1 A.length ca) (.slice u1 U.length cu) (.slice d1 D.length cd)); have HGZ : Hid (w4.grownBy WZ (some (w.heap.size + 2))) := (hWZ ▸ grown14 w4 (w.heap.size + 2) (.int .i64 i0) (.bool b1) (.int .i64 i2) (.bool b3) (.bool b4) (.bool b5) (.bool b6) (.bool b7) (.bool b8) (.int .i64 i9) (.slice q1 Q.length c1) (.slice a1 A.length ca) (.slice u1 U.length cu) (.slice d1 D.length cd)); unfold set14 at hWZ; clear hmg hB))
  obtain ⟨y0, y1, y2, y3, y4, y5, y6, y7, y8, y9, y10, y11, y12, y13⟩ := bx14 HYZ.out
  exact bodyPost_ret (v := .tuple #[.agg #[.int .i64 i0, .bool b1, .int .i64 i2, .bool b3, .bool b4, .bool b5, .bool b6, .bool b7, .bool b8, .int .i64 i9, .slice q1 Q.length c1, .slice a1 A.length ca, .slice u1 U.length cu, .slice d1 D.length cd], .bool true]) (by simp [results, go_sem, y0, y1, y2, y3, y4, y5, y6, y7, y8, y9, y10, y11, y12, y13]) rfl ⟨q1, a1, u1, d1, c1, ca, cu, cd, rfl, (HMg.out.keep HGZ.out (fun q e => by injection e with e; have := HSz4.out; omega)).low (by have := HSz4.out; omega), HBZ.out⟩
set_option maxRecDepth 100000 in
set_option maxHeartbeats 8000000 in
/-- a rule that drops it -/
theorem filter_drop (R : List Ru) (pr : Option Addr) (cr : Nat) (j0 j2 j9 : Int) (k1 k3 k4 k5 k6 k7 k8 : Bool) (r0 s0 t0 v0 : Option Addr) (rc sc tc vc : Nat) (P : List Qn) (Am Um Dm : List Rn) (i0 i2 i9 : Int) (b1 b3 b4 b5 b6 b7 b8 : Bool) (q0 a0 u0 d0 : Option Addr) (qc ac uc dc : Nat) (Q : List Qn) (A U D : List Rn) (qn : ByteArray) (qt ql : Int) (ii : Nat) (xn : ByteArray) (xb : Bool) (xt xl : Int) (xd : ByteArray) (w : World) (hP : QsAt w r0 P) (hl : LsAt w q0 a0 u0 d0 Q A U D) (hln : Q.length ≤ 1048576 ∧ A.length ≤ 1048576 ∧ U.length ≤ 1048576 ∧ D.length ≤ 1048576) (hA : RuAt w pr R) (hR : R.length ≤ 1048576) (hz : ∀ x ∈ R, x.n.size ≤ 1048576 ∧ x.d.size ≤ 1048576) (hp : P.length = 1) (hq : P[0]'(by omega) = ⟨qn, qt, ql⟩) (hqs : qn.size ≤ 1048576) (hii : ii < R.length) (hru : ruI R qn = (ii : Int)) (hx : R[ii]'hii = ⟨xn, xb, 1, xt, xl, xd⟩) :
    Calls Tryz.prog 8 #[.slice pr R.length cr, .agg #[.int .i64 j0, .bool k1, .int .i64 j2, .bool k3, .bool k4, .bool k5, .bool k6, .bool k7, .bool k8, .int .i64 j9, .slice r0 P.length rc, .slice s0 Am.length sc, .slice t0 Um.length tc, .slice v0 Dm.length vc], .agg #[.int .i64 i0, .bool b1, .int .i64 i2, .bool b3, .bool b4, .bool b5, .bool b6, .bool b7, .bool b8, .int .i64 i9, .slice q0 Q.length qc, .slice a0 A.length ac, .slice u0 U.length uc, .slice d0 D.length dc]] w (FiE zeroM w) := by
  obtain ⟨wr, hwr⟩ : ∃ wr, ((w.alloc (.cells #[.int .i64 j0, .bool k1, .int .i64 j2, .bool k3, .bool k4, .bool k5, .bool k6, .bool k7, .bool k8, .int .i64 j9, .slice r0 P.length rc, .slice s0 Am.length sc, .slice t0 Um.length tc, .slice v0 Dm.length vc] 27)).alloc (.cells #[.int .i64 i0, .bool b1, .int .i64 i2, .bool b3, .bool b4, .bool b5, .bool b6, .bool b7, .bool b8, .int .i64 i9, .slice q0 Q.length qc, .slice a0 A.length ac, .slice u0 U.length uc, .slice d0 D.length dc] 27)).alloc (.cells #[.int .i64 0, .bool false, .int .i64 0, .bool false, .bool false, .bool false, .bool false, .bool false, .bool false, .int .i64 0, .slice none 0 0, .slice none 0 0, .slice none 0 0, .slice none 0 0] 27) = wr := ⟨_, rfl⟩
  have H0 : Hid (B3 w wr #[.int .i64 j0, .bool k1, .int .i64 j2, .bool k3, .bool k4, .bool k5, .bool k6, .bool k7, .bool k8, .int .i64 j9, .slice r0 P.length rc, .slice s0 Am.length sc, .slice t0 Um.length tc, .slice v0 Dm.length vc] #[.int .i64 i0, .bool b1, .int .i64 i2, .bool b3, .bool b4, .bool b5, .bool b6, .bool b7, .bool b8, .int .i64 i9, .slice q0 Q.length qc, .slice a0 A.length ac, .slice u0 U.length uc, .slice d0 D.length dc] #[.int .i64 0, .bool false, .int .i64 0, .bool false, .bool false, .bool false, .bool false, .bool false, .bool false, .int .i64 0, .slice none 0 0, .slice none 0 0, .slice none 0 0, .slice none 0 0]) := hwr ▸ B3.new w _ _ _
  have m10 : wr.cell? ⟨w.heap.size, 10, none⟩ = some (.slice r0 P.length rc) := H0.out.m.cell rfl
  have hp1 : ((P.length : Int) == 1) = true := by rw [beq_iff_eq]; omega
  obtain ⟨gq, oq, hpq, hgq, z0, z1, z2⟩ := hP 0 (by omega)
  subst hpq
  rw [Nat.zero_mul, Nat.add_zero] at z0 z1 z2
  have hpi : (0 : Int) < (P.length : Int) := by omega
  rw [hq] at z0 z1 z2
  simp only at z0 z1 z2
  have zr0 : wr.cell? ⟨gq, oq, none⟩ = some (.string qn) := (H0.out.b.cell (p := ⟨gq, oq, none⟩) hgq).trans z0
  have zr1 : wr.cell? ⟨gq, oq + 1, none⟩ = some (.int .i64 qt) := (H0.out.b.cell (p := ⟨gq, oq + 1, none⟩) hgq).trans z1
  have zr2 : wr.cell? ⟨gq, oq + 2, none⟩ = some (.int .i64 ql) := (H0.out.b.cell (p := ⟨gq, oq + 2, none⟩) hgq).trans z2
  obtain ⟨wq, hwq⟩ : ∃ W, wr.alloc (.cells #[.string qn, .int .i64 qt, .int .i64 ql] 52) = W := ⟨_, rfl⟩
  have HQB : Hid (Bx wq wr.heap.size #[.string qn, .int .i64 qt, .int .i64 ql] 52) := hwq ▸ World.alloc_heap_new wr _
  have H1 := hide' (H0.out.step (alloc_belF hwq))
  have q00 : wq.cell? ⟨wr.heap.size, 0, none⟩ = some (.string qn) := HQB.out.cell rfl
  have HRu : Hid (∀ V, Below w.heap.size w V → Calls Tryz.prog 5 #[.slice pr R.length cr, .string qn] V fun e w' => e = .returned (.int .i64 (ruI R qn)) ∧ Below V.heap.size V w') := fun V hV => policyRule_any R pr cr qn V (by
    intro k hk
    obtain ⟨g, off, h1, h2, e0, e1, e2, e3, e4, e5⟩ := hA k hk
    have c := fun (j : Nat) => hV.cell (p := ⟨g, j, none⟩) h2
    exact ⟨g, off, h1, Nat.lt_of_lt_of_le h2 hV.size, (c _).trans e0, (c _).trans e1, (c _).trans e2, (c _).trans e3, (c _).trans e4, (c _).trans e5⟩) hR hz hqs
  have HRu2 : Hid (∀ V, Below w.heap.size w V → Calls Tryz.prog 5 #[.slice pr R.length cr, .string qn] V fun e w' => e = .returned (.int .i64 (ii : Int)) ∧ Below V.heap.size V w') := by
    rw [← hru]
    exact HRu
  have HA := hide' hA
  have hii' : (ii : Int) < (R.length : Int) := by omega
  have hi0 : (0 : Int) ≤ (ii : Int) := by omega
  have hnl : ¬ (ii : Int) < 0 := by omega
  obtain ⟨gr, og, hpr, hgr, -⟩ := hA ii hii
  subst hpr
  have HCe : Hid (∀ V, Below w.heap.size w V → V.cell? ⟨gr, og + ii * 6, none⟩ = some (.string xn) ∧ V.cell? ⟨gr, og + ii * 6 + 1, none⟩ = some (.bool xb) ∧ V.cell? ⟨gr, og + ii * 6 + 2, none⟩ = some (.int .i64 1) ∧ V.cell? ⟨gr, og + ii * 6 + 3, none⟩ = some (.int .i64 xt) ∧ V.cell? ⟨gr, og + ii * 6 + 4, none⟩ = some (.int .i64 xl) ∧ V.cell? ⟨gr, og + ii * 6 + 5, none⟩ = some (.string xd)) := fun V hV => by
    obtain ⟨g, off, h1, h2, e0, e1, e2, e3, e4, e5⟩ := HA.out ii hii
    injection h1 with h1
    injection h1 with g1 g2
    subst g1 g2
    rw [hx] at e0 e1 e2 e3 e4 e5
    have c := fun (j : Nat) => hV.cell (p := ⟨gr, j, none⟩) h2
    exact ⟨(c _).trans e0, (c _).trans e1, (c _).trans e2, (c _).trans e3, (c _).trans e4, (c _).trans e5⟩
  clear HRu
  clear hl hln hA hz hP z0 z1 z2 hp hq hgq hx hru
  go_enter Tryz.func8, Tryz.ntmps8
  go_wp2_with (go_at_call 5; (with_reducible refine (HRu2.out _ H1.out.b).mono ?_); rintro e w2 ⟨rfl, hB⟩; have H2 := hide' (H1.out.step hB); obtain ⟨c0, c1', c2, c3, c4, c5⟩ := HCe.out _ H2.out.b; obtain ⟨wu, hwu⟩ : ∃ W, w2.alloc (.cells #[.string xn, .bool xb, .int .i64 1, .int .i64 xt, .int .i64 xl, .string xd] 45) = W := ⟨_, rfl⟩; have HUB : Hid (Bx wu w2.heap.size #[.string xn, .bool xb, .int .i64 1, .int .i64 xt, .int .i64 xl, .string xd] 45) := (hwu ▸ World.alloc_heap_new w2 _); have HQ2 := hide' ((HQB.out.below hB HQB.out.lt).below (alloc_belF hwu) (HQB.out.below hB HQB.out.lt).lt); have H3 := hide' (H2.out.step (alloc_belF hwu)); have u2 : wu.cell? ⟨w2.heap.size, 2, none⟩ = some (.int .i64 1) := HUB.out.cell rfl; obtain ⟨x0, x1, x2, x3, x4, x5, x6, x7, x8, x9, x10, x11, x12, x13⟩ := bx14 H3.out.a; obtain ⟨r0, r1, r2, r3, r4, r5, r6, r7, r8, r9, r10, r11, r12, r13⟩ := bx14 H3.out.r; obtain ⟨f0, f1, f2, f3, f4, f5, f6, f7, f8, f9, f10, f11, f12, f13⟩ := bx14_free H3.out.r; obtain ⟨WZ, hWZ⟩ : ∃ W, set14 wu (w.heap.size + 2) (.int .i64 0) (.bool false) (.int .i64 0) (.bool false) (.bool false) (.bool false) (.bool false) (.bool false) (.bool false) (.int .i64 0) (.slice none 0 0) (.slice none 0 0) (.slice none 0 0) (.slice none 0 0) = W := ⟨_, rfl⟩; have HYZ : Hid (Bx WZ (w.heap.size + 2) #[.int .i64 0, .bool false, .int .i64 0, .bool false, .bool false, .bool false, .bool false, .bool false, .bool false, .int .i64 0, .slice none 0 0, .slice none 0 0, .slice none 0 0, .slice none 0 0] 27) := (hWZ ▸ bx14_set H3.out.r (.int .i64 0) (.bool false) (.int .i64 0) (.bool false) (.bool false) (.bool false) (.bool false) (.bool false) (.bool false) (.int .i64 0) (.slice none 0 0) (.slice none 0 0) (.slice none 0 0) (.slice none 0 0)); have HBZ : Hid (Below w.heap.size w WZ) := (hWZ ▸ below14 H3.out.b (Nat.le_add_right _ _) H3.out.b.size (.int .i64 0) (.bool false) (.int .i64 0) (.bool false) (.bool false) (.bool false) (.bool false) (.bool false) (.bool false) (.int .i64 0) (.slice none 0 0) (.slice none 0 0) (.slice none 0 0) (.slice none 0 0)); have HGZ : Hid (wu.grownBy WZ (some (w.heap.size + 2))) := (hWZ ▸ grown14 wu (w.heap.size + 2) (.int .i64 0) (.bool false) (.int .i64 0) (.bool false) (.bool false) (.bool false) (.bool false) (.bool false) (.bool false) (.int .i64 0) (.slice none 0 0) (.slice none 0 0) (.slice none 0 0) (.slice none 0 0)); unfold set14 at hWZ; clear hB)
  obtain ⟨y0, y1, y2, y3, y4, y5, y6, y7, y8, y9, y10, y11, y12, y13⟩ := bx14 HYZ.out
  exact bodyPost_ret (v := .tuple #[.agg #[.int .i64 0, .bool false, .int .i64 0, .bool false, .bool false, .bool false, .bool false, .bool false, .bool false, .int .i64 0, .slice none 0 0, .slice none 0 0, .slice none 0 0, .slice none 0 0], .bool false]) (by simp [results, go_sem, y0, y1, y2, y3, y4, y5, y6, y7, y8, y9, y10, y11, y12, y13]) rfl ⟨none, none, none, none, 0, 0, 0, 0, rfl, ⟨World.ownsRow_nil _ _ _ _, World.ownsRow_nil _ _ _ _, World.ownsRow_nil _ _ _ _, World.ownsRow_nil _ _ _ _, apart_nil _, apart_nil _, apart_nil _, apart_nil _, apart_nil _, apart_nil _⟩, HBZ.out⟩
set_option maxRecDepth 100000 in
set_option maxHeartbeats 8000000 in
theorem filter_noname (R : List Ru) (pr : Option Addr) (cr : Nat) (j0 j2 j9 : Int) (k1 k3 k4 k5 k6 k7 k8 : Bool) (r0 s0 t0 v0 : Option Addr) (rc sc tc vc : Nat) (P : List Qn) (Am Um Dm : List Rn) (i0 i2 i9 : Int) (b1 b3 b4 b5 b6 b7 b8 : Bool) (q0 a0 u0 d0 : Option Addr) (qc ac uc dc : Nat) (Q : List Qn) (A U D : List Rn) (qn : ByteArray) (qt ql : Int) (ii : Nat) (xn : ByteArray) (xb : Bool) (xt xl : Int) (xd : ByteArray) (w : World) (hP : QsAt w r0 P) (hl : LsAt w q0 a0 u0 d0 Q A U D) (hln : Q.length ≤ 1048576 ∧ A.length ≤ 1048576 ∧ U.length ≤ 1048576 ∧ D.length ≤ 1048576) (hA : RuAt w pr R) (hR : R.length ≤ 1048576) (hz : ∀ x ∈ R, x.n.size ≤ 1048576 ∧ x.d.size ≤ 1048576) (hp : P.length = 1) (hq : P[0]'(by omega) = ⟨qn, qt, ql⟩) (hqs : qn.size ≤ 1048576) (hii : ii < R.length) (hru : ruI R qn = (ii : Int)) (hx : R[ii]'hii = ⟨xn, xb, 2, xt, xl, xd⟩) :
    Calls Tryz.prog 8 #[.slice pr R.length cr, .agg #[.int .i64 j0, .bool k1, .int .i64 j2, .bool k3, .bool k4, .bool k5, .bool k6, .bool k7, .bool k8, .int .i64 j9, .slice r0 P.length rc, .slice s0 Am.length sc, .slice t0 Um.length tc, .slice v0 Dm.length vc], .agg #[.int .i64 i0, .bool b1, .int .i64 i2, .bool b3, .bool b4, .bool b5, .bool b6, .bool b7, .bool b8, .int .i64 i9, .slice q0 Q.length qc, .slice a0 A.length ac, .slice u0 U.length uc, .slice d0 D.length dc]] w (FiE (bareM ⟨i0, b1, i2, b3, b4, b5, b6, b7, b8, i9, ⟨Q, A, U, D⟩, true⟩ 3 []) w) := by
  obtain ⟨wr, hwr⟩ : ∃ wr, ((w.alloc (.cells #[.int .i64 j0, .bool k1, .int .i64 j2, .bool k3, .bool k4, .bool k5, .bool k6, .bool k7, .bool k8, .int .i64 j9, .slice r0 P.length rc, .slice s0 Am.length sc, .slice t0 Um.length tc, .slice v0 Dm.length vc] 27)).alloc (.cells #[.int .i64 i0, .bool b1, .int .i64 i2, .bool b3, .bool b4, .bool b5, .bool b6, .bool b7, .bool b8, .int .i64 i9, .slice q0 Q.length qc, .slice a0 A.length ac, .slice u0 U.length uc, .slice d0 D.length dc] 27)).alloc (.cells #[.int .i64 0, .bool false, .int .i64 0, .bool false, .bool false, .bool false, .bool false, .bool false, .bool false, .int .i64 0, .slice none 0 0, .slice none 0 0, .slice none 0 0, .slice none 0 0] 27) = wr := ⟨_, rfl⟩
  have H0 : Hid (B3 w wr #[.int .i64 j0, .bool k1, .int .i64 j2, .bool k3, .bool k4, .bool k5, .bool k6, .bool k7, .bool k8, .int .i64 j9, .slice r0 P.length rc, .slice s0 Am.length sc, .slice t0 Um.length tc, .slice v0 Dm.length vc] #[.int .i64 i0, .bool b1, .int .i64 i2, .bool b3, .bool b4, .bool b5, .bool b6, .bool b7, .bool b8, .int .i64 i9, .slice q0 Q.length qc, .slice a0 A.length ac, .slice u0 U.length uc, .slice d0 D.length dc] #[.int .i64 0, .bool false, .int .i64 0, .bool false, .bool false, .bool false, .bool false, .bool false, .bool false, .int .i64 0, .slice none 0 0, .slice none 0 0, .slice none 0 0, .slice none 0 0]) := hwr ▸ B3.new w _ _ _
  have m10 : wr.cell? ⟨w.heap.size, 10, none⟩ = some (.slice r0 P.length rc) := H0.out.m.cell rfl
  have HBa : Hid (∀ V, Below w.heap.size w V → Calls Tryz.prog 24 #[.agg #[.int .i64 i0, .bool b1, .int .i64 i2, .bool b3, .bool b4, .bool b5, .bool b6, .bool b7, .bool b8, .int .i64 i9, .slice q0 Q.length qc, .slice a0 A.length ac, .slice u0 U.length uc, .slice d0 D.length dc], .int .i64 3] V fun e w' => ∃ q1 d1 c1 cd, e = .returned (.agg #[.int .i64 i0, .bool b1, .int .i64 i2, .bool false, .bool b4, .bool b5, .bool b6, .bool b7, .bool b8, .int .i64 3, .slice q1 Q.length c1, .slice none 0 0, .slice none 0 0, .slice d1 (kp D).length cd]) ∧ Mg4 w' V.heap.size (.slice q1 Q.length c1) (.slice none 0 0) (.slice none 0 0) (.slice d1 (kp D).length cd) ⟨Q, [], [], kp D⟩ ∧ Below V.heap.size V w') := fun V hV => bare_any 3 i0 i2 i9 b1 b3 b4 b5 b6 b7 b8 q0 a0 u0 d0 qc ac uc dc Q A U D V (hl.below hV) hln
  have hp1 : ((P.length : Int) == 1) = true := by rw [beq_iff_eq]; omega
  obtain ⟨gq, oq, hpq, hgq, z0, z1, z2⟩ := hP 0 (by omega)
  subst hpq
  rw [Nat.zero_mul, Nat.add_zero] at z0 z1 z2
  have hpi : (0 : Int) < (P.length : Int) := by omega
  rw [hq] at z0 z1 z2
  simp only at z0 z1 z2
  have zr0 : wr.cell? ⟨gq, oq, none⟩ = some (.string qn) := (H0.out.b.cell (p := ⟨gq, oq, none⟩) hgq).trans z0
  have zr1 : wr.cell? ⟨gq, oq + 1, none⟩ = some (.int .i64 qt) := (H0.out.b.cell (p := ⟨gq, oq + 1, none⟩) hgq).trans z1
  have zr2 : wr.cell? ⟨gq, oq + 2, none⟩ = some (.int .i64 ql) := (H0.out.b.cell (p := ⟨gq, oq + 2, none⟩) hgq).trans z2
  obtain ⟨wq, hwq⟩ : ∃ W, wr.alloc (.cells #[.string qn, .int .i64 qt, .int .i64 ql] 52) = W := ⟨_, rfl⟩
  have HQB : Hid (Bx wq wr.heap.size #[.string qn, .int .i64 qt, .int .i64 ql] 52) := hwq ▸ World.alloc_heap_new wr _
  have H1 := hide' (H0.out.step (alloc_belF hwq))
  have q00 : wq.cell? ⟨wr.heap.size, 0, none⟩ = some (.string qn) := HQB.out.cell rfl
  have HRu : Hid (∀ V, Below w.heap.size w V → Calls Tryz.prog 5 #[.slice pr R.length cr, .string qn] V fun e w' => e = .returned (.int .i64 (ruI R qn)) ∧ Below V.heap.size V w') := fun V hV => policyRule_any R pr cr qn V (by
    intro k hk
    obtain ⟨g, off, h1, h2, e0, e1, e2, e3, e4, e5⟩ := hA k hk
    have c := fun (j : Nat) => hV.cell (p := ⟨g, j, none⟩) h2
    exact ⟨g, off, h1, Nat.lt_of_lt_of_le h2 hV.size, (c _).trans e0, (c _).trans e1, (c _).trans e2, (c _).trans e3, (c _).trans e4, (c _).trans e5⟩) hR hz hqs
  have HRu2 : Hid (∀ V, Below w.heap.size w V → Calls Tryz.prog 5 #[.slice pr R.length cr, .string qn] V fun e w' => e = .returned (.int .i64 (ii : Int)) ∧ Below V.heap.size V w') := by
    rw [← hru]
    exact HRu
  have HA := hide' hA
  have hii' : (ii : Int) < (R.length : Int) := by omega
  have hi0 : (0 : Int) ≤ (ii : Int) := by omega
  have hnl : ¬ (ii : Int) < 0 := by omega
  obtain ⟨gr, og, hpr, hgr, -⟩ := hA ii hii
  subst hpr
  have HCe : Hid (∀ V, Below w.heap.size w V → V.cell? ⟨gr, og + ii * 6, none⟩ = some (.string xn) ∧ V.cell? ⟨gr, og + ii * 6 + 1, none⟩ = some (.bool xb) ∧ V.cell? ⟨gr, og + ii * 6 + 2, none⟩ = some (.int .i64 2) ∧ V.cell? ⟨gr, og + ii * 6 + 3, none⟩ = some (.int .i64 xt) ∧ V.cell? ⟨gr, og + ii * 6 + 4, none⟩ = some (.int .i64 xl) ∧ V.cell? ⟨gr, og + ii * 6 + 5, none⟩ = some (.string xd)) := fun V hV => by
    obtain ⟨g, off, h1, h2, e0, e1, e2, e3, e4, e5⟩ := HA.out ii hii
    injection h1 with h1
    injection h1 with g1 g2
    subst g1 g2
    rw [hx] at e0 e1 e2 e3 e4 e5
    have c := fun (j : Nat) => hV.cell (p := ⟨gr, j, none⟩) h2
    exact ⟨(c _).trans e0, (c _).trans e1, (c _).trans e2, (c _).trans e3, (c _).trans e4, (c _).trans e5⟩
  clear HRu
  clear hl hln hA hz hP z0 z1 z2 hp hq hgq hx hru
  go_enter Tryz.func8, Tryz.ntmps8
  go_wp2_with (first
    | (go_at_call 5; (with_reducible refine (HRu2.out _ H1.out.b).mono ?_); rintro e w2 ⟨rfl, hB⟩; have H2 := hide' (H1.out.step hB); obtain ⟨c0, c1', c2, c3, c4, c5⟩ := HCe.out _ H2.out.b; obtain ⟨wu, hwu⟩ : ∃ W, w2.alloc (.cells #[.string xn, .bool xb, .int .i64 2, .int .i64 xt, .int .i64 xl, .string xd] 45) = W := ⟨_, rfl⟩; have HUB : Hid (Bx wu w2.heap.size #[.string xn, .bool xb, .int .i64 2, .int .i64 xt, .int .i64 xl, .string xd] 45) := (hwu ▸ World.alloc_heap_new w2 _); have HQ2 := hide' ((HQB.out.below hB HQB.out.lt).below (alloc_belF hwu) (HQB.out.below hB HQB.out.lt).lt); have H3 := hide' (H2.out.step (alloc_belF hwu)); have u2 : wu.cell? ⟨w2.heap.size, 2, none⟩ = some (.int .i64 2) := HUB.out.cell rfl; obtain ⟨x0, x1, x2, x3, x4, x5, x6, x7, x8, x9, x10, x11, x12, x13⟩ := bx14 H3.out.a; clear hB)
    | (go_at_call 24; (with_reducible refine (HBa.out _ H3.out.b).mono ?_); rintro e w4 ⟨q1, d1, c1, cd, rfl, hmg, hB⟩; have H4 := hide' (H3.out.step hB); have HMg := hide' hmg; have HSz4 := hide' H3.out.z; obtain ⟨r0, r1, r2, r3, r4, r5, r6, r7, r8, r9, r10, r11, r12, r13⟩ := bx14 H4.out.r; obtain ⟨f0, f1, f2, f3, f4, f5, f6, f7, f8, f9, f10, f11, f12, f13⟩ := bx14_free H4.out.r; obtain ⟨WZ, hWZ⟩ : ∃ W, set14 w4 (w.heap.size + 2) (.int .i64 i0) (.bool b1) (.int .i64 i2) (.bool false) (.bool b4) (.bool b5) (.bool b6) (.bool b7) (.bool b8) (.int .i64 3) (.slice q1 Q.length c1) (.slice none 0 0) (.slice none 0 0) (.slice d1 (kp D).length cd) = W := ⟨_, rfl⟩; have HYZ : Hid (Bx WZ (w.heap.size + 2) #[.int .i64 i0, .bool b1, .int .i64 i2, .bool false, .bool b4, .bool b5, .bool b6, .bool b7, .bool b8, .int .i64 3, .slice q1 Q.length c1, .slice none 0 0, .slice none 0 0, .slice d1 (kp D).length cd] 27) := (hWZ ▸ bx14_set H4.out.r (.int .i64 i0) (.bool b1) (.int .i64 i2) (.bool false) (.bool b4) (.bool b5) (.bool b6) (.bool b7) (.bool b8) (.int .i64 3) (.slice q1 Q.length c1) (.slice none 0 0) (.slice none 0 0) (.slice d1 (kp D).length cd)); have HBZ : Hid (Below w.heap.size w WZ) := (hWZ ▸ below14 H4.out.b (Nat.le_add_right _ _) H4.out.b.size (.int .i64 i0) (.bool b1) (.int .i64 i2) (.bool false) (.bool b4) (.bool b5) (.bool b6) (.bool b7) (.bool b8) (.int .i64 3) (.slice q1 Q.length c1) (.slice none 0 0) (.slice none 0 0) (.slice d1 (kp D).length cd)); have HGZ : Hid (w4.grownBy WZ (some (w.heap.size + 2))) := (hWZ ▸ grown14 w4 (w.heap.size + 2) (.int .i64 i0) (.bool b1) (.int .i64 i2) (.bool false) (.bool b4) (.bool b5) (.bool b6) (.bool b7) (.bool b8) (.int .i64 3) (.slice q1 Q.length c1) (.slice none 0 0) (.slice none 0 0) (.slice d1 (kp D).length cd)); unfold set14 at hWZ; clear hmg hB))
  obtain ⟨y0, y1, y2, y3, y4, y5, y6, y7, y8, y9, y10, y11, y12, y13⟩ := bx14 HYZ.out
  exact bodyPost_ret (v := .tuple #[.agg #[.int .i64 i0, .bool b1, .int .i64 i2, .bool false, .bool b4, .bool b5, .bool b6, .bool b7, .bool b8, .int .i64 3, .slice q1 Q.length c1, .slice none 0 0, .slice none 0 0, .slice d1 (kp D).length cd], .bool true]) (by simp [results, go_sem, y0, y1, y2, y3, y4, y5, y6, y7, y8, y9, y10, y11, y12, y13]) rfl ⟨q1, none, none, d1, c1, 0, 0, cd, rfl, (HMg.out.keep HGZ.out (fun q e => by injection e with e; have := HSz4.out; omega)).low (by have := HSz4.out; omega), HBZ.out⟩
set_option maxRecDepth 100000 in
set_option maxHeartbeats 8000000 in
theorem filter_nodata (R : List Ru) (pr : Option Addr) (cr : Nat) (j0 j2 j9 : Int) (k1 k3 k4 k5 k6 k7 k8 : Bool) (r0 s0 t0 v0 : Option Addr) (rc sc tc vc : Nat) (P : List Qn) (Am Um Dm : List Rn) (i0 i2 i9 : Int) (b1 b3 b4 b5 b6 b7 b8 : Bool) (q0 a0 u0 d0 : Option Addr) (qc ac uc dc : Nat) (Q : List Qn) (A U D : List Rn) (qn : ByteArray) (qt ql : Int) (ii : Nat) (xn : ByteArray) (xb : Bool) (xt xl : Int) (xd : ByteArray) (w : World) (hP : QsAt w r0 P) (hl : LsAt w q0 a0 u0 d0 Q A U D) (hln : Q.length ≤ 1048576 ∧ A.length ≤ 1048576 ∧ U.length ≤ 1048576 ∧ D.length ≤ 1048576) (hA : RuAt w pr R) (hR : R.length ≤ 1048576) (hz : ∀ x ∈ R, x.n.size ≤ 1048576 ∧ x.d.size ≤ 1048576) (hp : P.length = 1) (hq : P[0]'(by omega) = ⟨qn, qt, ql⟩) (hqs : qn.size ≤ 1048576) (hii : ii < R.length) (hru : ruI R qn = (ii : Int)) (hx : R[ii]'hii = ⟨xn, xb, 3, xt, xl, xd⟩) :
    Calls Tryz.prog 8 #[.slice pr R.length cr, .agg #[.int .i64 j0, .bool k1, .int .i64 j2, .bool k3, .bool k4, .bool k5, .bool k6, .bool k7, .bool k8, .int .i64 j9, .slice r0 P.length rc, .slice s0 Am.length sc, .slice t0 Um.length tc, .slice v0 Dm.length vc], .agg #[.int .i64 i0, .bool b1, .int .i64 i2, .bool b3, .bool b4, .bool b5, .bool b6, .bool b7, .bool b8, .int .i64 i9, .slice q0 Q.length qc, .slice a0 A.length ac, .slice u0 U.length uc, .slice d0 D.length dc]] w (FiE (bareM ⟨i0, b1, i2, b3, b4, b5, b6, b7, b8, i9, ⟨Q, A, U, D⟩, true⟩ 0 []) w) := by
  obtain ⟨wr, hwr⟩ : ∃ wr, ((w.alloc (.cells #[.int .i64 j0, .bool k1, .int .i64 j2, .bool k3, .bool k4, .bool k5, .bool k6, .bool k7, .bool k8, .int .i64 j9, .slice r0 P.length rc, .slice s0 Am.length sc, .slice t0 Um.length tc, .slice v0 Dm.length vc] 27)).alloc (.cells #[.int .i64 i0, .bool b1, .int .i64 i2, .bool b3, .bool b4, .bool b5, .bool b6, .bool b7, .bool b8, .int .i64 i9, .slice q0 Q.length qc, .slice a0 A.length ac, .slice u0 U.length uc, .slice d0 D.length dc] 27)).alloc (.cells #[.int .i64 0, .bool false, .int .i64 0, .bool false, .bool false, .bool false, .bool false, .bool false, .bool false, .int .i64 0, .slice none 0 0, .slice none 0 0, .slice none 0 0, .slice none 0 0] 27) = wr := ⟨_, rfl⟩
  have H0 : Hid (B3 w wr #[.int .i64 j0, .bool k1, .int .i64 j2, .bool k3, .bool k4, .bool k5, .bool k6, .bool k7, .bool k8, .int .i64 j9, .slice r0 P.length rc, .slice s0 Am.length sc, .slice t0 Um.length tc, .slice v0 Dm.length vc] #[.int .i64 i0, .bool b1, .int .i64 i2, .bool b3, .bool b4, .bool b5, .bool b6, .bool b7, .bool b8, .int .i64 i9, .slice q0 Q.length qc, .slice a0 A.length ac, .slice u0 U.length uc, .slice d0 D.length dc] #[.int .i64 0, .bool false, .int .i64 0, .bool false, .bool false, .bool false, .bool false, .bool false, .bool false, .int .i64 0, .slice none 0 0, .slice none 0 0, .slice none 0 0, .slice none 0 0]) := hwr ▸ B3.new w _ _ _
  have m10 : wr.cell? ⟨w.heap.size, 10, none⟩ = some (.slice r0 P.length rc) := H0.out.m.cell rfl
  have HBa : Hid (∀ V, Below w.heap.size w V → Calls Tryz.prog 24 #[.agg #[.int .i64 i0, .bool b1, .int .i64 i2, .bool b3, .bool b4, .bool b5, .bool b6, .bool b7, .bool b8, .int .i64 i9, .slice q0 Q.length qc, .slice a0 A.length ac, .slice u0 U.length uc, .slice d0 D.length dc], .int .i64 0] V fun e w' => ∃ q1 d1 c1 cd, e = .returned (.agg #[.int .i64 i0, .bool b1, .int .i64 i2, .bool false, .bool b4, .bool b5, .bool b6, .bool b7, .bool b8, .int .i64 0, .slice q1 Q.length c1, .slice none 0 0, .slice none 0 0, .slice d1 (kp D).length cd]) ∧ Mg4 w' V.heap.size (.slice q1 Q.length c1) (.slice none 0 0) (.slice none 0 0) (.slice d1 (kp D).length cd) ⟨Q, [], [], kp D⟩ ∧ Below V.heap.size V w') := fun V hV => bare_any 0 i0 i2 i9 b1 b3 b4 b5 b6 b7 b8 q0 a0 u0 d0 qc ac uc dc Q A U D V (hl.below hV) hln
  have hp1 : ((P.length : Int) == 1) = true := by rw [beq_iff_eq]; omega
  obtain ⟨gq, oq, hpq, hgq, z0, z1, z2⟩ := hP 0 (by omega)
  subst hpq
  rw [Nat.zero_mul, Nat.add_zero] at z0 z1 z2
  have hpi : (0 : Int) < (P.length : Int) := by omega
  rw [hq] at z0 z1 z2
  simp only at z0 z1 z2
  have zr0 : wr.cell? ⟨gq, oq, none⟩ = some (.string qn) := (H0.out.b.cell (p := ⟨gq, oq, none⟩) hgq).trans z0
  have zr1 : wr.cell? ⟨gq, oq + 1, none⟩ = some (.int .i64 qt) := (H0.out.b.cell (p := ⟨gq, oq + 1, none⟩) hgq).trans z1
  have zr2 : wr.cell? ⟨gq, oq + 2, none⟩ = some (.int .i64 ql) := (H0.out.b.cell (p := ⟨gq, oq + 2, none⟩) hgq).trans z2
  obtain ⟨wq, hwq⟩ : ∃ W, wr.alloc (.cells #[.string qn, .int .i64 qt, .int .i64 ql] 52) = W := ⟨_, rfl⟩
  have HQB : Hid (Bx wq wr.heap.size #[.string qn, .int .i64 qt, .int .i64 ql] 52) := hwq ▸ World.alloc_heap_new wr _
  have H1 := hide' (H0.out.step (alloc_belF hwq))
  have q00 : wq.cell? ⟨wr.heap.size, 0, none⟩ = some (.string qn) := HQB.out.cell rfl
  have HRu : Hid (∀ V, Below w.heap.size w V → Calls Tryz.prog 5 #[.slice pr R.length cr, .string qn] V fun e w' => e = .returned (.int .i64 (ruI R qn)) ∧ Below V.heap.size V w') := fun V hV => policyRule_any R pr cr qn V (by
    intro k hk
    obtain ⟨g, off, h1, h2, e0, e1, e2, e3, e4, e5⟩ := hA k hk
    have c := fun (j : Nat) => hV.cell (p := ⟨g, j, none⟩) h2
    exact ⟨g, off, h1, Nat.lt_of_lt_of_le h2 hV.size, (c _).trans e0, (c _).trans e1, (c _).trans e2, (c _).trans e3, (c _).trans e4, (c _).trans e5⟩) hR hz hqs
  have HRu2 : Hid (∀ V, Below w.heap.size w V → Calls Tryz.prog 5 #[.slice pr R.length cr, .string qn] V fun e w' => e = .returned (.int .i64 (ii : Int)) ∧ Below V.heap.size V w') := by
    rw [← hru]
    exact HRu
  have HA := hide' hA
  have hii' : (ii : Int) < (R.length : Int) := by omega
  have hi0 : (0 : Int) ≤ (ii : Int) := by omega
  have hnl : ¬ (ii : Int) < 0 := by omega
  obtain ⟨gr, og, hpr, hgr, -⟩ := hA ii hii
  subst hpr
  have HCe : Hid (∀ V, Below w.heap.size w V → V.cell? ⟨gr, og + ii * 6, none⟩ = some (.string xn) ∧ V.cell? ⟨gr, og + ii * 6 + 1, none⟩ = some (.bool xb) ∧ V.cell? ⟨gr, og + ii * 6 + 2, none⟩ = some (.int .i64 3) ∧ V.cell? ⟨gr, og + ii * 6 + 3, none⟩ = some (.int .i64 xt) ∧ V.cell? ⟨gr, og + ii * 6 + 4, none⟩ = some (.int .i64 xl) ∧ V.cell? ⟨gr, og + ii * 6 + 5, none⟩ = some (.string xd)) := fun V hV => by
    obtain ⟨g, off, h1, h2, e0, e1, e2, e3, e4, e5⟩ := HA.out ii hii
    injection h1 with h1
    injection h1 with g1 g2
    subst g1 g2
    rw [hx] at e0 e1 e2 e3 e4 e5
    have c := fun (j : Nat) => hV.cell (p := ⟨gr, j, none⟩) h2
    exact ⟨(c _).trans e0, (c _).trans e1, (c _).trans e2, (c _).trans e3, (c _).trans e4, (c _).trans e5⟩
  clear HRu
  clear hl hln hA hz hP z0 z1 z2 hp hq hgq hx hru
  go_enter Tryz.func8, Tryz.ntmps8
  go_wp2_with (first
    | (go_at_call 5; (with_reducible refine (HRu2.out _ H1.out.b).mono ?_); rintro e w2 ⟨rfl, hB⟩; have H2 := hide' (H1.out.step hB); obtain ⟨c0, c1', c2, c3, c4, c5⟩ := HCe.out _ H2.out.b; obtain ⟨wu, hwu⟩ : ∃ W, w2.alloc (.cells #[.string xn, .bool xb, .int .i64 3, .int .i64 xt, .int .i64 xl, .string xd] 45) = W := ⟨_, rfl⟩; have HUB : Hid (Bx wu w2.heap.size #[.string xn, .bool xb, .int .i64 3, .int .i64 xt, .int .i64 xl, .string xd] 45) := (hwu ▸ World.alloc_heap_new w2 _); have HQ2 := hide' ((HQB.out.below hB HQB.out.lt).below (alloc_belF hwu) (HQB.out.below hB HQB.out.lt).lt); have H3 := hide' (H2.out.step (alloc_belF hwu)); have u2 : wu.cell? ⟨w2.heap.size, 2, none⟩ = some (.int .i64 3) := HUB.out.cell rfl; obtain ⟨x0, x1, x2, x3, x4, x5, x6, x7, x8, x9, x10, x11, x12, x13⟩ := bx14 H3.out.a; clear hB)
    | (go_at_call 24; (with_reducible refine (HBa.out _ H3.out.b).mono ?_); rintro e w4 ⟨q1, d1, c1, cd, rfl, hmg, hB⟩; have H4 := hide' (H3.out.step hB); have HMg := hide' hmg; have HSz4 := hide' H3.out.z; obtain ⟨r0, r1, r2, r3, r4, r5, r6, r7, r8, r9, r10, r11, r12, r13⟩ := bx14 H4.out.r; obtain ⟨f0, f1, f2, f3, f4, f5, f6, f7, f8, f9, f10, f11, f12, f13⟩ := bx14_free H4.out.r; obtain ⟨WZ, hWZ⟩ : ∃ W, set14 w4 (w.heap.size + 2) (.int .i64 i0) (.bool b1) (.int .i64 i2) (.bool false) (.bool b4) (.bool b5) (.bool b6) (.bool b7) (.bool b8) (.int .i64 0) (.slice q1 Q.length c1) (.slice none 0 0) (.slice none 0 0) (.slice d1 (kp D).length cd) = W := ⟨_, rfl⟩; have HYZ : Hid (Bx WZ (w.heap.size + 2) #[.int .i64 i0, .bool b1, .int .i64 i2, .bool false, .bool b4, .bool b5, .bool b6, .bool b7, .bool b8, .int .i64 0, .slice q1 Q.length c1, .slice none 0 0, .slice none 0 0, .slice d1 (kp D).length cd] 27) := (hWZ ▸ bx14_set H4.out.r (.int .i64 i0) (.bool b1) (.int .i64 i2) (.bool false) (.bool b4) (.bool b5) (.bool b6) (.bool b7) (.bool b8) (.int .i64 0) (.slice q1 Q.length c1) (.slice none 0 0) (.slice none 0 0) (.slice d1 (kp D).length cd)); have HBZ : Hid (Below w.heap.size w WZ) := (hWZ ▸ below14 H4.out.b (Nat.le_add_right _ _) H4.out.b.size (.int .i64 i0) (.bool b1) (.int .i64 i2) (.bool false) (.bool b4) (.bool b5) (.bool b6) (.bool b7) (.bool b8) (.int .i64 0) (.slice q1 Q.length c1) (.slice none 0 0) (.slice none 0 0) (.slice d1 (kp D).length cd)); have HGZ : Hid (w4.grownBy WZ (some (w.heap.size + 2))) := (hWZ ▸ grown14 w4 (w.heap.size + 2) (.int .i64 i0) (.bool b1) (.int .i64 i2) (.bool false) (.bool b4) (.bool b5) (.bool b6) (.bool b7) (.bool b8) (.int .i64 0) (.slice q1 Q.length c1) (.slice none 0 0) (.slice none 0 0) (.slice d1 (kp D).length cd)); unfold set14 at hWZ; clear hmg hB))
  obtain ⟨y0, y1, y2, y3, y4, y5, y6, y7, y8, y9, y10, y11, y12, y13⟩ := bx14 HYZ.out
  exact bodyPost_ret (v := .tuple #[.agg #[.int .i64 i0, .bool b1, .int .i64 i2, .bool false, .bool b4, .bool b5, .bool b6, .bool b7, .bool b8, .int .i64 0, .slice q1 Q.length c1, .slice none 0 0, .slice none 0 0, .slice d1 (kp D).length cd], .bool true]) (by simp [results, go_sem, y0, y1, y2, y3, y4, y5, y6, y7, y8, y9, y10, y11, y12, y13]) rfl ⟨q1, none, none, d1, c1, 0, 0, cd, rfl, (HMg.out.keep HGZ.out (fun q e => by injection e with e; have := HSz4.out; omega)).low (by have := HSz4.out; omega), HBZ.out⟩
end Go.Proofs.YtligjbcinahgdaaGreat
