import Derived.Test.YtligjbcinahgdaaGreatFpb
/-
  Proofs: policy.Filter: a rule that says something. (The verifier's own text.)
-/
namespace Go.Proofs.YtligjbcinahgdaaGreat
set_option linter.unusedVariables false
set_option linter.unusedSimpArgs false
open Go.RowKit Go.Shelf Go.Maps Go.Proofs.YtligjbcinahgdaaGreat.Nm

theorem own_awayF {W4 w7 W8 : World} {n e s k j : Nat} {v u : Value} {xs : List Value} (h : W4.ownsRow n e s v k xs) (b1 : Below W4.heap.size W4 w7) (hw : w7.setCell ⟨W4.heap.size, j, none⟩ u = W8) : W8.ownsRow n e s v k xs := by
  rw [← hw]
  refine (own_below h b1).kept (grown_set w7 W4.heap.size j u) ?_
  cases hq : v.ownBlock with
  | none => exact .inl rfl
  | some q => exact .inr (fun e => by injection e with e; have := (h.lt q hq).2; omega)
theorem say_step {w w4 wd w6 w7 W8 : World} {mm ma zs sd : Array Value} {vq vd : Value} {Q : List Qn} {E : List Rn} {n : Nat} {x : Rn} (h4 : Mg4 w4 n vq (.slice none 0 0) (.slice none 0 0) vd ⟨Q, [], [], E⟩) (hd : w4.alloc (.cells sd 27) = wd) (h5 : B3 w wd mm ma zs) (h4z : w.heap.size + 3 ≤ w4.heap.size) (hn : n ≤ w4.heap.size) (hB : Below wd.heap.size wd w6) (hw7 : w6.alloc (.cells #[.string x.o, .int .i64 x.t, .int .i64 x.c, .int .i64 x.l, .string x.d] 55) = w7) (hW8 : w7.setCell ⟨w4.heap.size, 11, none⟩ (.slice (some ⟨w6.heap.size, 0, none⟩) 1 1) = W8) :
    Bx w7 w4.heap.size sd 27 ∧ Bx W8 w4.heap.size (sd.setIfInBounds 11 (.slice (some ⟨w6.heap.size, 0, none⟩) 1 1)) 27 ∧ B3 w W8 mm ma zs ∧ Mg4 W8 n vq (.slice (some ⟨w6.heap.size, 0, none⟩) 1 1) (.slice none 0 0) vd ⟨Q, [x], [], E⟩ := by
  have bd : Below w4.heap.size w4 wd := alloc_belF hd
  have b7 : Below w6.heap.size w6 w7 := alloc_belF hw7
  have b47 : Below w4.heap.size w4 w7 := bstep (bstep bd hB bd.size) b7 (Nat.le_trans bd.size hB.size)
  have hsd : wd.heap.size = w4.heap.size + 1 := by rw [← hd]; simp
  have h6s := hB.size
  have hxd : Bx wd w4.heap.size sd 27 := hd ▸ World.alloc_heap_new w4 _
  have hx7 : Bx w7 w4.heap.size sd 27 := (hxd.below hB hxd.lt).below b7 (hxd.below hB hxd.lt).lt
  have h7 := (h5.step hB).step b7
  have hg := grown_set w7 w4.heap.size 11 (.slice (some ⟨w6.heap.size, 0, none⟩) 1 1)
  rw [hW8] at hg
  have hown : w7.ownsRow w6.heap.size 55 5 (.slice (some ⟨w6.heap.size, 0, none⟩) 1 1) 1 (rce5 [x]) := by
    have hx : Bx w7 w6.heap.size #[.string x.o, .int .i64 x.t, .int .i64 x.c, .int .i64 x.l, .string x.d] 55 := hw7 ▸ World.alloc_heap_new w6 _
    exact ⟨rfl, .inr ⟨w6.heap.size, 1, _, rfl, Nat.le_refl _, hx, Nat.le_refl _, by unfold maxLen; omega, rfl, rfl⟩⟩
  refine ⟨hx7, ?_, ⟨h7.m.grown hg (fun e => by injection e with e; omega), h7.a.grown hg (fun e => by injection e with e; omega), h7.r.grown hg (fun e => by injection e with e; omega), h7.b.grown hg h7.b.size (fun q e => by injection e with e; omega), Nat.le_trans h7.z hg.size⟩, ⟨own_awayF h4.q b47 hW8, own_low (own_setF hown hW8 (by omega)) (by omega), World.ownsRow_nil _ _ _ _, own_awayF h4.d b47 hW8, ?_, apart_nil _, h4.qd, apart_nil _, ?_, (apart_nil _).symm⟩⟩
  · rw [← hW8]; exact hx7.set 11 _
  · intro y hy e
    have := (h4.q.lt y hy).2
    have e' : w6.heap.size = y := by injection e
    omega
  · intro y hy e
    have := (h4.d.lt y e).2
    have e' : w6.heap.size = y := by injection hy
    omega
set_option maxRecDepth 100000 in
set_option maxHeartbeats 8000000 in
theorem filter_silent (R : List Ru) (pr : Option Addr) (cr : Nat) (j0 j2 j9 : Int) (k1 k3 k4 k5 k6 k7 k8 : Bool) (r0 s0 t0 v0 : Option Addr) (rc sc tc vc : Nat) (P : List Qn) (Am Um Dm : List Rn) (i0 i2 i9 : Int) (b1 b3 b4 b5 b6 b7 b8 : Bool) (q0 a0 u0 d0 : Option Addr) (qc ac uc dc : Nat) (Q : List Qn) (A U D : List Rn) (qn : ByteArray) (qt ql : Int) (ii : Nat) (xn : ByteArray) (xb : Bool) (xt xl : Int) (xd : ByteArray) (w : World) (hP : QsAt w r0 P) (hl : LsAt w q0 a0 u0 d0 Q A U D) (hln : Q.length ≤ 1048576 ∧ A.length ≤ 1048576 ∧ U.length ≤ 1048576 ∧ D.length ≤ 1048576) (hA : RuAt w pr R) (hR : R.length ≤ 1048576) (hz : ∀ x ∈ R, x.n.size ≤ 1048576 ∧ x.d.size ≤ 1048576) (hp : P.length = 1) (hq : P[0]'(by omega) = ⟨qn, qt, ql⟩) (hqs : qn.size ≤ 1048576) (hii : ii < R.length) (hru : ruI R qn = (ii : Int)) (hx : R[ii]'hii = ⟨xn, xb, 4, xt, xl, xd⟩) (h1 : ¬ xt = qt) (h2 : ¬ qt = 255) (h3 : ¬ xt = 5) :
    Calls Tryz.prog 8 #[.slice pr R.length cr, .agg #[.int .i64 j0, .bool k1, .int .i64 j2, .bool k3, .bool k4, .bool k5, .bool k6, .bool k7, .bool k8, .int .i64 j9, .slice r0 P.length rc, .slice s0 Am.length sc, .slice t0 Um.length tc, .slice v0 Dm.length vc], .agg #[.int .i64 i0, .bool b1, .int .i64 i2, .bool b3, .bool b4, .bool b5, .bool b6, .bool b7, .bool b8, .int .i64 i9, .slice q0 Q.length qc, .slice a0 A.length ac, .slice u0 U.length uc, .slice d0 D.length dc]] w (FiE (bareM ⟨i0, b1, i2, b3, b4, b5, b6, b7, b8, i9, ⟨Q, A, U, D⟩, true⟩ 0 []) w) := by
  obtain ⟨wr, hwr⟩ : ∃ wr, ((w.alloc (.cells #[.int .i64 j0, .bool k1, .int .i64 j2, .bool k3, .bool k4, .bool k5, .bool k6, .bool k7, .bool k8, .int .i64 j9, .slice r0 P.length rc, .slice s0 Am.length sc, .slice t0 Um.length tc, .slice v0 Dm.length vc] 27)).alloc (.cells #[.int .i64 i0, .bool b1, .int .i64 i2, .bool b3, .bool b4, .bool b5, .bool b6, .bool b7, .bool b8, .int .i64 i9, .slice q0 Q.length qc, .slice a0 A.length ac, .slice u0 U.length uc, .slice d0 D.length dc] 27)).alloc (.cells #[.int .i64 0, .bool false, .int .i64 0, .bool false, .bool false, .bool false, .bool false, .bool false, .bool false, .int .i64 0, .slice none 0 0, .slice none 0 0, .slice none 0 0, .slice none 0 0] 27) = wr := ⟨_, rfl⟩
  have H0 : Hid (B3 w wr #[.int .i64 j0, .bool k1, .int .i64 j2, .bool k3, .bool k4, .bool k5, .bool k6, .bool k7, .bool k8, .int .i64 j9, .slice r0 P.length rc, .slice s0 Am.length sc, .slice t0 Um.length tc, .slice v0 Dm.length vc] #[.int .i64 i0, .bool b1, .int .i64 i2, .bool b3, .bool b4, .bool b5, .bool b6, .bool b7, .bool b8, .int .i64 i9, .slice q0 Q.length qc, .slice a0 A.length ac, .slice u0 U.length uc, .slice d0 D.length dc] #[.int .i64 0, .bool false, .int .i64 0, .bool false, .bool false, .bool false, .bool false, .bool false, .bool false, .int .i64 0, .slice none 0 0, .slice none 0 0, .slice none 0 0, .slice none 0 0]) := hwr ▸ B3.new w _ _ _
  have m10 : wr.cell? ⟨w.heap.size, 10, none⟩ = some (.slice r0 P.length rc) := H0.out.m.cell rfl
  have HBa : Hid (∀ V, Below w.heap.size w V → Calls Tryz.prog 24 #[.agg #[.int .i64 i0, .bool b1, .int .i64 i2, .bool b3, .bool b4, .bool b5, .bool b6, .bool b7, .bool b8, .int .i64 i9, .slice q0 Q.length qc, .slice a0 A.length ac, .slice u0 U.length uc, .slice d0 D.length dc], .int .i64 0] V fun e w' => ∃ q1 d1 c1 cd, e = .returned (.agg #[.int .i64 i0, .bool b1, .int .i64 i2, .bool false, .bool b4, .bool b5, .bool b6, .bool b7, .bool b8, .int .i64 0, .slice q1 Q.length c1, .slice none 0 0, .slice none 0 0, .slice d1 (kp D).length cd]) ∧ Mg4 w' V.heap.size (.slice q1 Q.length c1) (.slice none 0 0) (.slice none 0 0) (.slice d1 (kp D).length cd) ⟨Q, [], [], kp D⟩ ∧ Below V.heap.size V w') := fun V hV => bare_any 0 i0 i2 i9 b1 b3 b4 b5 b6 b7 b8 q0 a0 u0 d0 qc ac uc dc Q A U D V (hl.below hV) hln
  have hp1 : ((P.length : Int) == 1) = true := by rw [beq_iff_eq]; omega
  obtain ⟨gq, oq, hpq, hgq, z0, z1, z2⟩ := hP 0 (by omega)
  subst hpq
  rw [Nat.zero_mul, Nat.add_zero] at z0 z1 z2
  have hpi : (0 : Int) < (P.length : Int) := by omega
  rw [hq] at z0 z1 z2
  simp only at z0 z1 z2
  have zr0 : wr.cell? ⟨gq, oq, none⟩ = some (.string qn) := (H0.out.b.cell (p := ⟨gq, oq, none⟩) hgq).trans z0
  have zr1 : wr.cell? ⟨gq, oq + 1, none⟩ = some (.int .i64 qt) := (H0.out.b.cell (p := ⟨gq, oq + 1, none⟩) hgq).trans z1
  have zr2 : wr.cell? ⟨gq, oq + 2, none⟩ = some (.int .i64 ql) := (H0.out.b.cell (p := ⟨gq, oq + 2, none⟩) hgq).trans z2
  obtain ⟨wq, hwq⟩ : ∃ W, wr.alloc (.cells #[.string qn, .int .i64 qt, .int .i64 ql] 52) = W := ⟨_, rfl⟩
  have HQB : Hid (Bx wq wr.heap.size #[.string qn, .int .i64 qt, .int .i64 ql] 52) := hwq ▸ World.alloc_heap_new wr _
  have H1 := hide' (H0.out.step (alloc_belF hwq))
  have q00 : wq.cell? ⟨wr.heap.size, 0, none⟩ = some (.string qn) := HQB.out.cell rfl
  have HRu : Hid (∀ V, Below w.heap.size w V → Calls Tryz.prog 5 #[.slice pr R.length cr, .string qn] V fun e w' => e = .returned (.int .i64 (ruI R qn)) ∧ Below V.heap.size V w') := fun V hV => policyRule_any R pr cr qn V (by
    intro k hk
    obtain ⟨g, off, h1, h2, e0, e1, e2, e3, e4, e5⟩ := hA k hk
    have c := fun (j : Nat) => hV.cell (p := ⟨g, j, none⟩) h2
    exact ⟨g, off, h1, Nat.lt_of_lt_of_le h2 hV.size, (c _).trans e0, (c _).trans e1, (c _).trans e2, (c _).trans e3, (c _).trans e4, (c _).trans e5⟩) hR hz hqs
  have HRu2 : Hid (∀ V, Below w.heap.size w V → Calls Tryz.prog 5 #[.slice pr R.length cr, .string qn] V fun e w' => e = .returned (.int .i64 (ii : Int)) ∧ Below V.heap.size V w') := by
    rw [← hru]
    exact HRu
  have HA := hide' hA
  have hii' : (ii : Int) < (R.length : Int) := by omega
  have hi0 : (0 : Int) ≤ (ii : Int) := by omega
  have hnl : ¬ (ii : Int) < 0 := by omega
  obtain ⟨gr, og, hpr, hgr, -⟩ := hA ii hii
  subst hpr
  have HCe : Hid (∀ V, Below w.heap.size w V → V.cell? ⟨gr, og + ii * 6, none⟩ = some (.string xn) ∧ V.cell? ⟨gr, og + ii * 6 + 1, none⟩ = some (.bool xb) ∧ V.cell? ⟨gr, og + ii * 6 + 2, none⟩ = some (.int .i64 4) ∧ V.cell? ⟨gr, og + ii * 6 + 3, none⟩ = some (.int .i64 xt) ∧ V.cell? ⟨gr, og + ii * 6 + 4, none⟩ = some (.int .i64 xl) ∧ V.cell? ⟨gr, og + ii * 6 + 5, none⟩ = some (.string xd)) := fun V hV => by
    obtain ⟨g, off, h1, h2, e0, e1, e2, e3, e4, e5⟩ := HA.out ii hii
    injection h1 with h1
    injection h1 with g1 g2
    subst g1 g2
    rw [hx] at e0 e1 e2 e3 e4 e5
    have c := fun (j : Nat) => hV.cell (p := ⟨gr, j, none⟩) h2
    exact ⟨(c _).trans e0, (c _).trans e1, (c _).trans e2, (c _).trans e3, (c _).trans e4, (c _).trans e5⟩
  clear HRu
  clear hl hln hA hz hP z0 z1 z2 hp hq hgq hx hru
  have g1 : (xt == qt) = false := by rw [beq_eq_false_iff_ne]; exact h1
  have g2 : (qt == 255) = false := by rw [beq_eq_false_iff_ne]; exact h2
  have g3 : (xt == 5) = false := by rw [beq_eq_false_iff_ne]; exact h3
  go_enter Tryz.func8, Tryz.ntmps8
  go_wp2_with (first
    | (go_at_call 5; (with_reducible refine (HRu2.out _ H1.out.b).mono ?_); rintro e w2 ⟨rfl, hB⟩; have H2 := hide' (H1.out.step hB); obtain ⟨c0, c1', c2, c3, c4, c5⟩ := HCe.out _ H2.out.b; obtain ⟨wu, hwu⟩ : ∃ W, w2.alloc (.cells #[.string xn, .bool xb, .int .i64 4, .int .i64 xt, .int .i64 xl, .string xd] 45) = W := ⟨_, rfl⟩; have HUB : Hid (Bx wu w2.heap.size #[.string xn, .bool xb, .int .i64 4, .int .i64 xt, .int .i64 xl, .string xd] 45) := (hwu ▸ World.alloc_heap_new w2 _); have HQ2 := hide' ((HQB.out.below hB HQB.out.lt).below (alloc_belF hwu) (HQB.out.below hB HQB.out.lt).lt); have H3 := hide' (H2.out.step (alloc_belF hwu)); have u2 : wu.cell? ⟨w2.heap.size, 2, none⟩ = some (.int .i64 4) := HUB.out.cell rfl; obtain ⟨x0, x1, x2, x3, x4, x5, x6, x7, x8, x9, x10, x11, x12, x13⟩ := bx14 H3.out.a; clear hB)
    | (go_at_call 24; (with_reducible refine (HBa.out _ H3.out.b).mono ?_); rintro e w4 ⟨q1, d1, c1, cd, rfl, hmg, hB⟩; have H4 := hide' (H3.out.step hB); have HMg := hide' hmg; have HSz4 := hide' H3.out.z; obtain ⟨wd, hwd⟩ : ∃ W, w4.alloc (.cells #[.int .i64 i0, .bool b1, .int .i64 i2, .bool false, .bool b4, .bool b5, .bool b6, .bool b7, .bool b8, .int .i64 0, .slice q1 Q.length c1, .slice none 0 0, .slice none 0 0, .slice d1 (kp D).length cd] 27) = W := ⟨_, rfl⟩; have HDB : Hid (Bx wd w4.heap.size #[.int .i64 i0, .bool b1, .int .i64 i2, .bool false, .bool b4, .bool b5, .bool b6, .bool b7, .bool b8, .int .i64 0, .slice q1 Q.length c1, .slice none 0 0, .slice none 0 0, .slice d1 (kp D).length cd] 27) := (hwd ▸ World.alloc_heap_new w4 _); have hb5 : Below w4.heap.size w4 wd := alloc_belF hwd; have H5 := hide' (H4.out.step hb5); have HQ5 := hide' ((HQ2.out.below hB HQ2.out.lt).below hb5 (HQ2.out.below hB HQ2.out.lt).lt); have HU5 := hide' ((HUB.out.below hB HUB.out.lt).below hb5 (HUB.out.below hB HUB.out.lt).lt); have HM5 := hide' (hmg.keep (grown_below hb5 none) (fun q e => by cases e)); have qq0 : wd.cell? ⟨wr.heap.size, 0, none⟩ = some (.string qn) := HQ5.out.cell rfl; have qq1 : wd.cell? ⟨wr.heap.size, 1, none⟩ = some (.int .i64 qt) := HQ5.out.cell rfl; obtain ⟨uu0, uu1, uu2, uu3, uu4, uu5⟩ := bx6P HU5.out; obtain ⟨s0, s1, s2, s3, s4, s5, s6, s7, s8, s9, s10, s11, s12, s13⟩ := bx14 HDB.out; obtain ⟨r0, r1, r2, r3, r4, r5, r6, r7, r8, r9, r10, r11, r12, r13⟩ := bx14 H5.out.r; obtain ⟨f0, f1, f2, f3, f4, f5, f6, f7, f8, f9, f10, f11, f12, f13⟩ := bx14_free H5.out.r; obtain ⟨WZ, hWZ⟩ : ∃ W, set14 wd (w.heap.size + 2) (.int .i64 i0) (.bool b1) (.int .i64 i2) (.bool false) (.bool b4) (.bool b5) (.bool b6) (.bool b7) (.bool b8) (.int .i64 0) (.slice q1 Q.length c1) (.slice none 0 0) (.slice none 0 0) (.slice d1 (kp D).length cd) = W := ⟨_, rfl⟩; have HYZ : Hid (Bx WZ (w.heap.size + 2) #[.int .i64 i0, .bool b1, .int .i64 i2, .bool false, .bool b4, .bool b5, .bool b6, .bool b7, .bool b8, .int .i64 0, .slice q1 Q.length c1, .slice none 0 0, .slice none 0 0, .slice d1 (kp D).length cd] 27) := (hWZ ▸ bx14_set H5.out.r (.int .i64 i0) (.bool b1) (.int .i64 i2) (.bool false) (.bool b4) (.bool b5) (.bool b6) (.bool b7) (.bool b8) (.int .i64 0) (.slice q1 Q.length c1) (.slice none 0 0) (.slice none 0 0) (.slice d1 (kp D).length cd)); have HBZ : Hid (Below w.heap.size w WZ) := (hWZ ▸ below14 H5.out.b (Nat.le_add_right _ _) H5.out.b.size (.int .i64 i0) (.bool b1) (.int .i64 i2) (.bool false) (.bool b4) (.bool b5) (.bool b6) (.bool b7) (.bool b8) (.int .i64 0) (.slice q1 Q.length c1) (.slice none 0 0) (.slice none 0 0) (.slice d1 (kp D).length cd)); have HGZ : Hid (wd.grownBy WZ (some (w.heap.size + 2))) := (hWZ ▸ grown14 wd (w.heap.size + 2) (.int .i64 i0) (.bool b1) (.int .i64 i2) (.bool false) (.bool b4) (.bool b5) (.bool b6) (.bool b7) (.bool b8) (.int .i64 0) (.slice q1 Q.length c1) (.slice none 0 0) (.slice none 0 0) (.slice d1 (kp D).length cd)); unfold set14 at hWZ; clear hb5; clear hmg hB))
  obtain ⟨y0, y1, y2, y3, y4, y5, y6, y7, y8, y9, y10, y11, y12, y13⟩ := bx14 HYZ.out
  exact bodyPost_ret (v := .tuple #[.agg #[.int .i64 i0, .bool b1, .int .i64 i2, .bool false, .bool b4, .bool b5, .bool b6, .bool b7, .bool b8, .int .i64 0, .slice q1 Q.length c1, .slice none 0 0, .slice none 0 0, .slice d1 (kp D).length cd], .bool true]) (by simp [results, go_sem, y0, y1, y2, y3, y4, y5, y6, y7, y8, y9, y10, y11, y12, y13]) rfl ⟨q1, none, none, d1, c1, 0, 0, cd, rfl, (HM5.out.keep HGZ.out (fun q e => by injection e with e; have := HSz4.out; omega)).low (by have := HSz4.out; omega), HBZ.out⟩
set_option maxRecDepth 100000 in
set_option maxHeartbeats 8000000 in
theorem filter_say1 (R : List Ru) (pr : Option Addr) (cr : Nat) (j0 j2 j9 : Int) (k1 k3 k4 k5 k6 k7 k8 : Bool) (r0 s0 t0 v0 : Option Addr) (rc sc tc vc : Nat) (P : List Qn) (Am Um Dm : List Rn) (i0 i2 i9 : Int) (b1 b3 b4 b5 b6 b7 b8 : Bool) (q0 a0 u0 d0 : Option Addr) (qc ac uc dc : Nat) (Q : List Qn) (A U D : List Rn) (qn : ByteArray) (qt ql : Int) (ii : Nat) (xn : ByteArray) (xb : Bool) (xt xl : Int) (xd : ByteArray) (w : World) (hP : QsAt w r0 P) (hl : LsAt w q0 a0 u0 d0 Q A U D) (hln : Q.length ≤ 1048576 ∧ A.length ≤ 1048576 ∧ U.length ≤ 1048576 ∧ D.length ≤ 1048576) (hA : RuAt w pr R) (hR : R.length ≤ 1048576) (hz : ∀ x ∈ R, x.n.size ≤ 1048576 ∧ x.d.size ≤ 1048576) (hp : P.length = 1) (hq : P[0]'(by omega) = ⟨qn, qt, ql⟩) (hqs : qn.size ≤ 1048576) (hii : ii < R.length) (hru : ruI R qn = (ii : Int)) (hx : R[ii]'hii = ⟨xn, xb, 4, xt, xl, xd⟩) (h1 : xt = qt) :
    Calls Tryz.prog 8 #[.slice pr R.length cr, .agg #[.int .i64 j0, .bool k1, .int .i64 j2, .bool k3, .bool k4, .bool k5, .bool k6, .bool k7, .bool k8, .int .i64 j9, .slice r0 P.length rc, .slice s0 Am.length sc, .slice t0 Um.length tc, .slice v0 Dm.length vc], .agg #[.int .i64 i0, .bool b1, .int .i64 i2, .bool b3, .bool b4, .bool b5, .bool b6, .bool b7, .bool b8, .int .i64 i9, .slice q0 Q.length qc, .slice a0 A.length ac, .slice u0 U.length uc, .slice d0 D.length dc]] w (FiE (bareM ⟨i0, b1, i2, b3, b4, b5, b6, b7, b8, i9, ⟨Q, A, U, D⟩, true⟩ 0 [⟨qn, xt, 1, xl, xd⟩]) w) := by
  obtain ⟨wr, hwr⟩ : ∃ wr, ((w.alloc (.cells #[.int .i64 j0, .bool k1, .int .i64 j2, .bool k3, .bool k4, .bool k5, .bool k6, .bool k7, .bool k8, .int .i64 j9, .slice r0 P.length rc, .slice s0 Am.length sc, .slice t0 Um.length tc, .slice v0 Dm.length vc] 27)).alloc (.cells #[.int .i64 i0, .bool b1, .int .i64 i2, .bool b3, .bool b4, .bool b5, .bool b6, .bool b7, .bool b8, .int .i64 i9, .slice q0 Q.length qc, .slice a0 A.length ac, .slice u0 U.length uc, .slice d0 D.length dc] 27)).alloc (.cells #[.int .i64 0, .bool false, .int .i64 0, .bool false, .bool false, .bool false, .bool false, .bool false, .bool false, .int .i64 0, .slice none 0 0, .slice none 0 0, .slice none 0 0, .slice none 0 0] 27) = wr := ⟨_, rfl⟩
  have H0 : Hid (B3 w wr #[.int .i64 j0, .bool k1, .int .i64 j2, .bool k3, .bool k4, .bool k5, .bool k6, .bool k7, .bool k8, .int .i64 j9, .slice r0 P.length rc, .slice s0 Am.length sc, .slice t0 Um.length tc, .slice v0 Dm.length vc] #[.int .i64 i0, .bool b1, .int .i64 i2, .bool b3, .bool b4, .bool b5, .bool b6, .bool b7, .bool b8, .int .i64 i9, .slice q0 Q.length qc, .slice a0 A.length ac, .slice u0 U.length uc, .slice d0 D.length dc] #[.int .i64 0, .bool false, .int .i64 0, .bool false, .bool false, .bool false, .bool false, .bool false, .bool false, .int .i64 0, .slice none 0 0, .slice none 0 0, .slice none 0 0, .slice none 0 0]) := hwr ▸ B3.new w _ _ _
  have m10 : wr.cell? ⟨w.heap.size, 10, none⟩ = some (.slice r0 P.length rc) := H0.out.m.cell rfl
  have HBa : Hid (∀ V, Below w.heap.size w V → Calls Tryz.prog 24 #[.agg #[.int .i64 i0, .bool b1, .int .i64 i2, .bool b3, .bool b4, .bool b5, .bool b6, .bool b7, .bool b8, .int .i64 i9, .slice q0 Q.length qc, .slice a0 A.length ac, .slice u0 U.length uc, .slice d0 D.length dc], .int .i64 0] V fun e w' => ∃ q1 d1 c1 cd, e = .returned (.agg #[.int .i64 i0, .bool b1, .int .i64 i2, .bool false, .bool b4, .bool b5, .bool b6, .bool b7, .bool b8, .int .i64 0, .slice q1 Q.length c1, .slice none 0 0, .slice none 0 0, .slice d1 (kp D).length cd]) ∧ Mg4 w' V.heap.size (.slice q1 Q.length c1) (.slice none 0 0) (.slice none 0 0) (.slice d1 (kp D).length cd) ⟨Q, [], [], kp D⟩ ∧ Below V.heap.size V w') := fun V hV => bare_any 0 i0 i2 i9 b1 b3 b4 b5 b6 b7 b8 q0 a0 u0 d0 qc ac uc dc Q A U D V (hl.below hV) hln
  have hp1 : ((P.length : Int) == 1) = true := by rw [beq_iff_eq]; omega
  obtain ⟨gq, oq, hpq, hgq, z0, z1, z2⟩ := hP 0 (by omega)
  subst hpq
  rw [Nat.zero_mul, Nat.add_zero] at z0 z1 z2
  have hpi : (0 : Int) < (P.length : Int) := by omega
  rw [hq] at z0 z1 z2
  simp only at z0 z1 z2
  have zr0 : wr.cell? ⟨gq, oq, none⟩ = some (.string qn) := (H0.out.b.cell (p := ⟨gq, oq, none⟩) hgq).trans z0
  have zr1 : wr.cell? ⟨gq, oq + 1, none⟩ = some (.int .i64 qt) := (H0.out.b.cell (p := ⟨gq, oq + 1, none⟩) hgq).trans z1
  have zr2 : wr.cell? ⟨gq, oq + 2, none⟩ = some (.int .i64 ql) := (H0.out.b.cell (p := ⟨gq, oq + 2, none⟩) hgq).trans z2
  obtain ⟨wq, hwq⟩ : ∃ W, wr.alloc (.cells #[.string qn, .int .i64 qt, .int .i64 ql] 52) = W := ⟨_, rfl⟩
  have HQB : Hid (Bx wq wr.heap.size #[.string qn, .int .i64 qt, .int .i64 ql] 52) := hwq ▸ World.alloc_heap_new wr _
  have H1 := hide' (H0.out.step (alloc_belF hwq))
  have q00 : wq.cell? ⟨wr.heap.size, 0, none⟩ = some (.string qn) := HQB.out.cell rfl
  have HRu : Hid (∀ V, Below w.heap.size w V → Calls Tryz.prog 5 #[.slice pr R.length cr, .string qn] V fun e w' => e = .returned (.int .i64 (ruI R qn)) ∧ Below V.heap.size V w') := fun V hV => policyRule_any R pr cr qn V (by
    intro k hk
    obtain ⟨g, off, h1, h2, e0, e1, e2, e3, e4, e5⟩ := hA k hk
    have c := fun (j : Nat) => hV.cell (p := ⟨g, j, none⟩) h2
    exact ⟨g, off, h1, Nat.lt_of_lt_of_le h2 hV.size, (c _).trans e0, (c _).trans e1, (c _).trans e2, (c _).trans e3, (c _).trans e4, (c _).trans e5⟩) hR hz hqs
  have HRu2 : Hid (∀ V, Below w.heap.size w V → Calls Tryz.prog 5 #[.slice pr R.length cr, .string qn] V fun e w' => e = .returned (.int .i64 (ii : Int)) ∧ Below V.heap.size V w') := by
    rw [← hru]
    exact HRu
  have HA := hide' hA
  have hii' : (ii : Int) < (R.length : Int) := by omega
  have hi0 : (0 : Int) ≤ (ii : Int) := by omega
  have hnl : ¬ (ii : Int) < 0 := by omega
  obtain ⟨gr, og, hpr, hgr, -⟩ := hA ii hii
  subst hpr
  have HCe : Hid (∀ V, Below w.heap.size w V → V.cell? ⟨gr, og + ii * 6, none⟩ = some (.string xn) ∧ V.cell? ⟨gr, og + ii * 6 + 1, none⟩ = some (.bool xb) ∧ V.cell? ⟨gr, og + ii * 6 + 2, none⟩ = some (.int .i64 4) ∧ V.cell? ⟨gr, og + ii * 6 + 3, none⟩ = some (.int .i64 xt) ∧ V.cell? ⟨gr, og + ii * 6 + 4, none⟩ = some (.int .i64 xl) ∧ V.cell? ⟨gr, og + ii * 6 + 5, none⟩ = some (.string xd)) := fun V hV => by
    obtain ⟨g, off, h1, h2, e0, e1, e2, e3, e4, e5⟩ := HA.out ii hii
    injection h1 with h1
    injection h1 with g1 g2
    subst g1 g2
    rw [hx] at e0 e1 e2 e3 e4 e5
    have c := fun (j : Nat) => hV.cell (p := ⟨gr, j, none⟩) h2
    exact ⟨(c _).trans e0, (c _).trans e1, (c _).trans e2, (c _).trans e3, (c _).trans e4, (c _).trans e5⟩
  clear HRu
  clear hl hln hA hz hP z0 z1 z2 hp hq hgq hx hru
  have HSa := hide' (fun V => saidOf_any ⟨xn, xb, 4, xt, xl, xd⟩ qn V)
  unfold ruV at HSa
  simp only at HSa
  have g1 : (xt == qt) = true := by rw [beq_iff_eq]; exact h1
  clear h1
  go_enter Tryz.func8, Tryz.ntmps8
  go_wp2_with (first
    | (go_at_call 5; (with_reducible refine (HRu2.out _ H1.out.b).mono ?_); rintro e w2 ⟨rfl, hB⟩; have H2 := hide' (H1.out.step hB); obtain ⟨c0, c1', c2, c3, c4, c5⟩ := HCe.out _ H2.out.b; obtain ⟨wu, hwu⟩ : ∃ W, w2.alloc (.cells #[.string xn, .bool xb, .int .i64 4, .int .i64 xt, .int .i64 xl, .string xd] 45) = W := ⟨_, rfl⟩; have HUB : Hid (Bx wu w2.heap.size #[.string xn, .bool xb, .int .i64 4, .int .i64 xt, .int .i64 xl, .string xd] 45) := (hwu ▸ World.alloc_heap_new w2 _); have HQ2 := hide' ((HQB.out.below hB HQB.out.lt).below (alloc_belF hwu) (HQB.out.below hB HQB.out.lt).lt); have H3 := hide' (H2.out.step (alloc_belF hwu)); have u2 : wu.cell? ⟨w2.heap.size, 2, none⟩ = some (.int .i64 4) := HUB.out.cell rfl; obtain ⟨x0, x1, x2, x3, x4, x5, x6, x7, x8, x9, x10, x11, x12, x13⟩ := bx14 H3.out.a; clear hB)
    | (go_at_call 24; (with_reducible refine (HBa.out _ H3.out.b).mono ?_); rintro e w4 ⟨q1, d1, c1, cd, rfl, hmg, hB⟩; have H4 := hide' (H3.out.step hB); have HMg := hide' hmg; have HSz4 := hide' H3.out.z; obtain ⟨wd, hwd⟩ : ∃ W, w4.alloc (.cells #[.int .i64 i0, .bool b1, .int .i64 i2, .bool false, .bool b4, .bool b5, .bool b6, .bool b7, .bool b8, .int .i64 0, .slice q1 Q.length c1, .slice none 0 0, .slice none 0 0, .slice d1 (kp D).length cd] 27) = W := ⟨_, rfl⟩; have HDB : Hid (Bx wd w4.heap.size #[.int .i64 i0, .bool b1, .int .i64 i2, .bool false, .bool b4, .bool b5, .bool b6, .bool b7, .bool b8, .int .i64 0, .slice q1 Q.length c1, .slice none 0 0, .slice none 0 0, .slice d1 (kp D).length cd] 27) := (hwd ▸ World.alloc_heap_new w4 _); have hb5 : Below w4.heap.size w4 wd := alloc_belF hwd; have H5 := hide' (H4.out.step hb5); have HQ5 := hide' ((HQ2.out.below hB HQ2.out.lt).below hb5 (HQ2.out.below hB HQ2.out.lt).lt); have HU5 := hide' ((HUB.out.below hB HUB.out.lt).below hb5 (HUB.out.below hB HUB.out.lt).lt); have HM5 := hide' (hmg.keep (grown_below hb5 none) (fun q e => by cases e)); have qq0 : wd.cell? ⟨wr.heap.size, 0, none⟩ = some (.string qn) := HQ5.out.cell rfl; have qq1 : wd.cell? ⟨wr.heap.size, 1, none⟩ = some (.int .i64 qt) := HQ5.out.cell rfl; obtain ⟨uu0, uu1, uu2, uu3, uu4, uu5⟩ := bx6P HU5.out; have HWD := hide' hwd; have HZ4 := hide' H4.out.z; have HN4 : Hid (wu.heap.size ≤ w4.heap.size) := hB.size; clear hb5; clear hmg hB)
    | (go_at_call 25; (with_reducible refine (HSa.out _).mono ?_); rintro e w6 ⟨rfl, hB⟩; obtain ⟨w7, hw7⟩ : ∃ W, w6.alloc (.cells #[.string qn, .int .i64 xt, .int .i64 1, .int .i64 xl, .string xd] 55) = W := ⟨_, rfl⟩; obtain ⟨W8, hW8⟩ : ∃ W, w7.setCell ⟨w4.heap.size, 11, none⟩ (.slice (some ⟨w6.heap.size, 0, none⟩) 1 1) = W := ⟨_, rfl⟩; obtain ⟨HX7, HD7, H7, HM7⟩ := say_step (x := ⟨qn, xt, 1, xl, xd⟩) HMg.out HWD.out H5.out HZ4.out HN4.out hB hw7 hW8; have e11 : w7.cell? ⟨w4.heap.size, 11, none⟩ = some (.slice none 0 0) := HX7.cell rfl; have g11 : w7.frozen? ⟨w4.heap.size, 11, none⟩ = false := HX7.free 11; have HD8 : Hid (Bx W8 w4.heap.size #[.int .i64 i0, .bool b1, .int .i64 i2, .bool false, .bool b4, .bool b5, .bool b6, .bool b7, .bool b8, .int .i64 0, .slice q1 Q.length c1, .slice (some ⟨w6.heap.size, 0, none⟩) 1 1, .slice none 0 0, .slice d1 (kp D).length cd] 27) := HD7; have H8 := hide' H7; have HM8 := hide' HM7; obtain ⟨v0, v1, v2, v3, v4, v5, v6, v7, v8, v9, v10, v11, v12, v13⟩ := bx14 HD8.out; obtain ⟨r0, r1, r2, r3, r4, r5, r6, r7, r8, r9, r10, r11, r12, r13⟩ := bx14 H8.out.r; obtain ⟨f0, f1, f2, f3, f4, f5, f6, f7, f8, f9, f10, f11, f12, f13⟩ := bx14_free H8.out.r; obtain ⟨WZ, hWZ⟩ : ∃ W, set14 W8 (w.heap.size + 2) (.int .i64 i0) (.bool b1) (.int .i64 i2) (.bool false) (.bool b4) (.bool b5) (.bool b6) (.bool b7) (.bool b8) (.int .i64 0) (.slice q1 Q.length c1) (.slice (some ⟨w6.heap.size, 0, none⟩) 1 1) (.slice none 0 0) (.slice d1 (kp D).length cd) = W := ⟨_, rfl⟩; have HYZ : Hid (Bx WZ (w.heap.size + 2) #[.int .i64 i0, .bool b1, .int .i64 i2, .bool false, .bool b4, .bool b5, .bool b6, .bool b7, .bool b8, .int .i64 0, .slice q1 Q.length c1, .slice (some ⟨w6.heap.size, 0, none⟩) 1 1, .slice none 0 0, .slice d1 (kp D).length cd] 27) := (hWZ ▸ bx14_set H8.out.r (.int .i64 i0) (.bool b1) (.int .i64 i2) (.bool false) (.bool b4) (.bool b5) (.bool b6) (.bool b7) (.bool b8) (.int .i64 0) (.slice q1 Q.length c1) (.slice (some ⟨w6.heap.size, 0, none⟩) 1 1) (.slice none 0 0) (.slice d1 (kp D).length cd)); have HBZ : Hid (Below w.heap.size w WZ) := (hWZ ▸ below14 H8.out.b (Nat.le_add_right _ _) H8.out.b.size (.int .i64 i0) (.bool b1) (.int .i64 i2) (.bool false) (.bool b4) (.bool b5) (.bool b6) (.bool b7) (.bool b8) (.int .i64 0) (.slice q1 Q.length c1) (.slice (some ⟨w6.heap.size, 0, none⟩) 1 1) (.slice none 0 0) (.slice d1 (kp D).length cd)); have HGZ : Hid (W8.grownBy WZ (some (w.heap.size + 2))) := (hWZ ▸ grown14 W8 (w.heap.size + 2) (.int .i64 i0) (.bool b1) (.int .i64 i2) (.bool false) (.bool b4) (.bool b5) (.bool b6) (.bool b7) (.bool b8) (.int .i64 0) (.slice q1 Q.length c1) (.slice (some ⟨w6.heap.size, 0, none⟩) 1 1) (.slice none 0 0) (.slice d1 (kp D).length cd)); unfold set14 at hWZ; clear hB HX7 HD7 H7 HM7))
  obtain ⟨y0, y1, y2, y3, y4, y5, y6, y7, y8, y9, y10, y11, y12, y13⟩ := bx14 HYZ.out
  exact bodyPost_ret (v := .tuple #[.agg #[.int .i64 i0, .bool b1, .int .i64 i2, .bool false, .bool b4, .bool b5, .bool b6, .bool b7, .bool b8, .int .i64 0, .slice q1 Q.length c1, .slice (some ⟨w6.heap.size, 0, none⟩) 1 1, .slice none 0 0, .slice d1 (kp D).length cd], .bool true]) (by simp [results, go_sem, y0, y1, y2, y3, y4, y5, y6, y7, y8, y9, y10, y11, y12, y13]) rfl ⟨q1, some ⟨w6.heap.size, 0, none⟩, none, d1, c1, 1, 0, cd, rfl, (HM8.out.keep HGZ.out (fun q e => by injection e with e; have := HSz4.out; omega)).low (by have := HSz4.out; omega), HBZ.out⟩
end Go.Proofs.YtligjbcinahgdaaGreat

/-
  Proofs: policy.Filter: a rule that says something, for all types. (The verifier's own text.)
-/
namespace Go.Proofs.YtligjbcinahgdaaGreat
set_option linter.unusedVariables false
set_option linter.unusedSimpArgs false
open Go.RowKit Go.Shelf Go.Maps Go.Proofs.YtligjbcinahgdaaGreat.Nm

set_option maxRecDepth 100000 in
set_option maxHeartbeats 8000000 in
theorem filter_say2 (R : List Ru) (pr : Option Addr) (cr : Nat) (j0 j2 j9 : Int) (k1 k3 k4 k5 k6 k7 k8 : Bool) (r0 s0 t0 v0 : Option Addr) (rc sc tc vc : Nat) (P : List Qn) (Am Um Dm : List Rn) (i0 i2 i9 : Int) (b1 b3 b4 b5 b6 b7 b8 : Bool) (q0 a0 u0 d0 : Option Addr) (qc ac uc dc : Nat) (Q : List Qn) (A U D : List Rn) (qn : ByteArray) (qt ql : Int) (ii : Nat) (xn : ByteArray) (xb : Bool) (xt xl : Int) (xd : ByteArray) (w : World) (hP : QsAt w r0 P) (hl : LsAt w q0 a0 u0 d0 Q A U D) (hln : Q.length ≤ 1048576 ∧ A.length ≤ 1048576 ∧ U.length ≤ 1048576 ∧ D.length ≤ 1048576) (hA : RuAt w pr R) (hR : R.length ≤ 1048576) (hz : ∀ x ∈ R, x.n.size ≤ 1048576 ∧ x.d.size ≤ 1048576) (hp : P.length = 1) (hq : P[0]'(by omega) = ⟨qn, qt, ql⟩) (hqs : qn.size ≤ 1048576) (hii : ii < R.length) (hru : ruI R qn = (ii : Int)) (hx : R[ii]'hii = ⟨xn, xb, 4, xt, xl, xd⟩) (h1 : ¬ xt = qt) (h2 : qt = 255) :
    Calls Tryz.prog 8 #[.slice pr R.length cr, .agg #[.int .i64 j0, .bool k1, .int .i64 j2, .bool k3, .bool k4, .bool k5, .bool k6, .bool k7, .bool k8, .int .i64 j9, .slice r0 P.length rc, .slice s0 Am.length sc, .slice t0 Um.length tc, .slice v0 Dm.length vc], .agg #[.int .i64 i0, .bool b1, .int .i64 i2, .bool b3, .bool b4, .bool b5, .bool b6, .bool b7, .bool b8, .int .i64 i9, .slice q0 Q.length qc, .slice a0 A.length ac, .slice u0 U.length uc, .slice d0 D.length dc]] w (FiE (bareM ⟨i0, b1, i2, b3, b4, b5, b6, b7, b8, i9, ⟨Q, A, U, D⟩, true⟩ 0 [⟨qn, xt, 1, xl, xd⟩]) w) := by
  obtain ⟨wr, hwr⟩ : ∃ wr, ((w.alloc (.cells #[.int .i64 j0, .bool k1, .int .i64 j2, .bool k3, .bool k4, .bool k5, .bool k6, .bool k7, .bool k8, .int .i64 j9, .slice r0 P.length rc, .slice s0 Am.length sc, .slice t0 Um.length tc, .slice v0 Dm.length vc] 27)).alloc (.cells #[.int .i64 i0, .bool b1, .int .i64 i2, .bool b3, .bool b4, .bool b5, .bool b6, .bool b7, .bool b8, .int .i64 i9, .slice q0 Q.length qc, .slice a0 A.length ac, .slice u0 U.length uc, .slice d0 D.length dc] 27)).alloc (.cells #[.int .i64 0, .bool false, .int .i64 0, .bool false, .bool false, .bool false, .bool false, .bool false, .bool false, .int .i64 0, .slice none 0 0, .slice none 0 0, .slice none 0 0, .slice none 0 0] 27) = wr := ⟨_, rfl⟩
  have H0 : Hid (B3 w wr #[.int .i64 j0, .bool k1, .int .i64 j2, .bool k3, .bool k4, .bool k5, .bool k6, .bool k7, .bool k8, .int .i64 j9, .slice r0 P.length rc, .slice s0 Am.length sc, .slice t0 Um.length tc, .slice v0 Dm.length vc] #[.int .i64 i0, .bool b1, .int .i64 i2, .bool b3, .bool b4, .bool b5, .bool b6, .bool b7, .bool b8, .int .i64 i9, .slice q0 Q.length qc, .slice a0 A.length ac, .slice u0 U.length uc, .slice d0 D.length dc] #[.int .i64 0, .bool false, .int .i64 0, .bool false, .bool false, .bool false, .bool false, .bool false, .bool false, .int .i64 0, .slice none 0 0, .slice none 0 0, .slice none 0 0, .slice none 0 0]) := hwr ▸ B3.new w _ _ _
  have m10 : wr.cell? ⟨w.heap.size, 10, none⟩ = some (.slice r0 P.length rc) := H0.out.m.cell rfl
  have HBa : Hid (∀ V, Below w.heap.size w V → Calls Tryz.prog 24 #[.agg #[.int .i64 i0, .bool b1, .int .i64 i2, .bool b3, .bool b4, .bool b5, .bool b6, .bool b7, .bool b8, .int .i64 i9, .slice q0 Q.length qc, .slice a0 A.length ac, .slice u0 U.length uc, .slice d0 D.length dc], .int .i64 0] V fun e w' => ∃ q1 d1 c1 cd, e = .returned (.agg #[.int .i64 i0, .bool b1, .int .i64 i2, .bool false, .bool b4, .bool b5, .bool b6, .bool b7, .bool b8, .int .i64 0, .slice q1 Q.length c1, .slice none 0 0, .slice none 0 0, .slice d1 (kp D).length cd]) ∧ Mg4 w' V.heap.size (.slice q1 Q.length c1) (.slice none 0 0) (.slice none 0 0) (.slice d1 (kp D).length cd) ⟨Q, [], [], kp D⟩ ∧ Below V.heap.size V w') := fun V hV => bare_any 0 i0 i2 i9 b1 b3 b4 b5 b6 b7 b8 q0 a0 u0 d0 qc ac uc dc Q A U D V (hl.below hV) hln
  have hp1 : ((P.length : Int) == 1) = true := by rw [beq_iff_eq]; omega
  obtain ⟨gq, oq, hpq, hgq, z0, z1, z2⟩ := hP 0 (by omega)
  subst hpq
  rw [Nat.zero_mul, Nat.add_zero] at z0 z1 z2
  have hpi : (0 : Int) < (P.length : Int) := by omega
  rw [hq] at z0 z1 z2
  simp only at z0 z1 z2
  have zr0 : wr.cell? ⟨gq, oq, none⟩ = some (.string qn) := (H0.out.b.cell (p := ⟨gq, oq, none⟩) hgq).trans z0
  have zr1 : wr.cell? ⟨gq, oq + 1, none⟩ = some (.int .i64 qt) := (H0.out.b.cell (p := ⟨gq, oq + 1, none⟩) hgq).trans z1
  have zr2 : wr.cell? ⟨gq, oq + 2, none⟩ = some (.int .i64 ql) := (H0.out.b.cell (p := ⟨gq, oq + 2, none⟩) hgq).trans z2
  obtain ⟨wq, hwq⟩ : ∃ W, wr.alloc (.cells #[.string qn, .int .i64 qt, .int .i64 ql] 52) = W := ⟨_, rfl⟩
  have HQB : Hid (Bx wq wr.heap.size #[.string qn, .int .i64 qt, .int .i64 ql] 52) := hwq ▸ World.alloc_heap_new wr _
  have H1 := hide' (H0.out.step (alloc_belF hwq))
  have q00 : wq.cell? ⟨wr.heap.size, 0, none⟩ = some (.string qn) := HQB.out.cell rfl
  have HRu : Hid (∀ V, Below w.heap.size w V → Calls Tryz.prog 5 #[.slice pr R.length cr, .string qn] V fun e w' => e = .returned (.int .i64 (ruI R qn)) ∧ Below V.heap.size V w') := fun V hV => policyRule_any R pr cr qn V (by
    intro k hk
    obtain ⟨g, off, h1, h2, e0, e1, e2, e3, e4, e5⟩ := hA k hk
    have c := fun (j : Nat) => hV.cell (p := ⟨g, j, none⟩) h2
    exact ⟨g, off, h1, Nat.lt_of_lt_of_le h2 hV.size, (c _).trans e0, (c _).trans e1, (c _).trans e2, (c _).trans e3, (c _).trans e4, (c _).trans e5⟩) hR hz hqs
  have HRu2 : Hid (∀ V, Below w.heap.size w V → Calls Tryz.prog 5 #[.slice pr R.length cr, .string qn] V fun e w' => e = .returned (.int .i64 (ii : Int)) ∧ Below V.heap.size V w') := by
    rw [← hru]
    exact HRu
  have HA := hide' hA
  have hii' : (ii : Int) < (R.length : Int) := by omega
  have hi0 : (0 : Int) ≤ (ii : Int) := by omega
  have hnl : ¬ (ii : Int) < 0 := by omega
  obtain ⟨gr, og, hpr, hgr, -⟩ := hA ii hii
  subst hpr
  have HCe : Hid (∀ V, Below w.heap.size w V → V.cell? ⟨gr, og + ii * 6, none⟩ = some (.string xn) ∧ V.cell? ⟨gr, og + ii * 6 + 1, none⟩ = some (.bool xb) ∧ V.cell? ⟨gr, og + ii * 6 + 2, none⟩ = some (.int .i64 4) ∧ V.cell? ⟨gr, og + ii * 6 + 3, none⟩ = some (.int .i64 xt) ∧ V.cell? ⟨gr, og + ii * 6 + 4, none⟩ = some (.int .i64 xl) ∧ V.cell? ⟨gr, og + ii * 6 + 5, none⟩ = some (.string xd)) := fun V hV => by
    obtain ⟨g, off, h1, h2, e0, e1, e2, e3, e4, e5⟩ := HA.out ii hii
    injection h1 with h1
    injection h1 with g1 g2
    subst g1 g2
    rw [hx] at e0 e1 e2 e3 e4 e5
    have c := fun (j : Nat) => hV.cell (p := ⟨gr, j, none⟩) h2
    exact ⟨(c _).trans e0, (c _).trans e1, (c _).trans e2, (c _).trans e3, (c _).trans e4, (c _).trans e5⟩
  clear HRu
  clear hl hln hA hz hP z0 z1 z2 hp hq hgq hx hru
  have HSa := hide' (fun V => saidOf_any ⟨xn, xb, 4, xt, xl, xd⟩ qn V)
  unfold ruV at HSa
  simp only at HSa
  have g1 : (xt == qt) = false := by rw [beq_eq_false_iff_ne]; exact h1
  have g2 : (qt == 255) = true := by rw [beq_iff_eq]; exact h2
  clear h1 h2
  go_enter Tryz.func8, Tryz.ntmps8
  go_wp2_with (first
    | (go_at_call 5; (with_reducible refine (HRu2.out _ H1.out.b).mono ?_); rintro e w2 ⟨rfl, hB⟩; have H2 := hide' (H1.out.step hB); obtain ⟨c0, c1', c2, c3, c4, c5⟩ := HCe.out _ H2.out.b; obtain ⟨wu, hwu⟩ : ∃ W, w2.alloc (.cells #[.string xn, .bool xb, .int .i64 4, .int .i64 xt, .int .i64 xl, .string xd] 45) = W := ⟨_, rfl⟩; have HUB : Hid (Bx wu w2.heap.size #[.string xn, .bool xb, .int .i64 4, .int .i64 xt, .int .i64 xl, .string xd] 45) := (hwu ▸ World.alloc_heap_new w2 _); have HQ2 := hide' ((HQB.out.below hB HQB.out.lt).below (alloc_belF hwu) (HQB.out.below hB HQB.out.lt).lt); have H3 := hide' (H2.out.step (alloc_belF hwu)); have u2 : wu.cell? ⟨w2.heap.size, 2, none⟩ = some (.int .i64 4) := HUB.out.cell rfl; obtain ⟨x0, x1, x2, x3, x4, x5, x6, x7, x8, x9, x10, x11, x12, x13⟩ := bx14 H3.out.a; clear hB)
    | (go_at_call 24; (with_reducible refine (HBa.out _ H3.out.b).mono ?_); rintro e w4 ⟨q1, d1, c1, cd, rfl, hmg, hB⟩; have H4 := hide' (H3.out.step hB); have HMg := hide' hmg; have HSz4 := hide' H3.out.z; obtain ⟨wd, hwd⟩ : ∃ W, w4.alloc (.cells #[.int .i64 i0, .bool b1, .int .i64 i2, .bool false, .bool b4, .bool b5, .bool b6, .bool b7, .bool b8, .int .i64 0, .slice q1 Q.length c1, .slice none 0 0, .slice none 0 0, .slice d1 (kp D).length cd] 27) = W := ⟨_, rfl⟩; have HDB : Hid (Bx wd w4.heap.size #[.int .i64 i0, .bool b1, .int .i64 i2, .bool false, .bool b4, .bool b5, .bool b6, .bool b7, .bool b8, .int .i64 0, .slice q1 Q.length c1, .slice none 0 0, .slice none 0 0, .slice d1 (kp D).length cd] 27) := (hwd ▸ World.alloc_heap_new w4 _); have hb5 : Below w4.heap.size w4 wd := alloc_belF hwd; have H5 := hide' (H4.out.step hb5); have HQ5 := hide' ((HQ2.out.below hB HQ2.out.lt).below hb5 (HQ2.out.below hB HQ2.out.lt).lt); have HU5 := hide' ((HUB.out.below hB HUB.out.lt).below hb5 (HUB.out.below hB HUB.out.lt).lt); have HM5 := hide' (hmg.keep (grown_below hb5 none) (fun q e => by cases e)); have qq0 : wd.cell? ⟨wr.heap.size, 0, none⟩ = some (.string qn) := HQ5.out.cell rfl; have qq1 : wd.cell? ⟨wr.heap.size, 1, none⟩ = some (.int .i64 qt) := HQ5.out.cell rfl; obtain ⟨uu0, uu1, uu2, uu3, uu4, uu5⟩ := bx6P HU5.out; have HWD := hide' hwd; have HZ4 := hide' H4.out.z; have HN4 : Hid (wu.heap.size ≤ w4.heap.size) := hB.size; clear hb5; clear hmg hB)
    | (go_at_call 25; (with_reducible refine (HSa.out _).mono ?_); rintro e w6 ⟨rfl, hB⟩; obtain ⟨w7, hw7⟩ : ∃ W, w6.alloc (.cells #[.string qn, .int .i64 xt, .int .i64 1, .int .i64 xl, .string xd] 55) = W := ⟨_, rfl⟩; obtain ⟨W8, hW8⟩ : ∃ W, w7.setCell ⟨w4.heap.size, 11, none⟩ (.slice (some ⟨w6.heap.size, 0, none⟩) 1 1) = W := ⟨_, rfl⟩; obtain ⟨HX7, HD7, H7, HM7⟩ := say_step (x := ⟨qn, xt, 1, xl, xd⟩) HMg.out HWD.out H5.out HZ4.out HN4.out hB hw7 hW8; have e11 : w7.cell? ⟨w4.heap.size, 11, none⟩ = some (.slice none 0 0) := HX7.cell rfl; have g11 : w7.frozen? ⟨w4.heap.size, 11, none⟩ = false := HX7.free 11; have HD8 : Hid (Bx W8 w4.heap.size #[.int .i64 i0, .bool b1, .int .i64 i2, .bool false, .bool b4, .bool b5, .bool b6, .bool b7, .bool b8, .int .i64 0, .slice q1 Q.length c1, .slice (some ⟨w6.heap.size, 0, none⟩) 1 1, .slice none 0 0, .slice d1 (kp D).length cd] 27) := HD7; have H8 := hide' H7; have HM8 := hide' HM7; obtain ⟨v0, v1, v2, v3, v4, v5, v6, v7, v8, v9, v10, v11, v12, v13⟩ := bx14 HD8.out; obtain ⟨r0, r1, r2, r3, r4, r5, r6, r7, r8, r9, r10, r11, r12, r13⟩ := bx14 H8.out.r; obtain ⟨f0, f1, f2, f3, f4, f5, f6, f7, f8, f9, f10, f11, f12, f13⟩ := bx14_free H8.out.r; obtain ⟨WZ, hWZ⟩ : ∃ W, set14 W8 (w.heap.size + 2) (.int .i64 i0) (.bool b1) (.int .i64 i2) (.bool false) (.bool b4) (.bool b5) (.bool b6) (.bool b7) (.bool b8) (.int .i64 0) (.slice q1 Q.length c1) (.slice (some ⟨w6.heap.size, 0, none⟩) 1 1) (.slice none 0 0) (.slice d1 (kp D).length cd) = W := ⟨_, rfl⟩; have HYZ : Hid (Bx WZ (w.heap.size + 2) #[.int .i64 i0, .bool b1, .int .i64 i2, .bool false, .bool b4, .bool b5, .bool b6, .bool b7, .bool b8, .int .i64 0, .slice q1 Q.length c1, .slice (some ⟨w6.heap.size, 0, none⟩) 1 1, .slice none 0 0, .slice d1 (kp D).length cd] 27) := (hWZ ▸ bx14_set H8.out.r (.int .i64 i0) (.bool b1) (.int .i64 i2) (.bool false) (.bool b4) (.bool b5) (.bool b6) (.bool b7) (.bool b8) (.int .i64 0) (.slice q1 Q.length c1) (.slice (some ⟨w6.heap.size, 0, none⟩) 1 1) (.slice none 0 0) (.slice d1 (kp D).length cd)); have HBZ : Hid (Below w.heap.size w WZ) := (hWZ ▸ below14 H8.out.b (Nat.le_add_right _ _) H8.out.b.size (.int .i64 i0) (.bool b1) (.int .i64 i2) (.bool false) (.bool b4) (.bool b5) (.bool b6) (.bool b7) (.bool b8) (.int .i64 0) (.slice q1 Q.length c1) (.slice (some ⟨w6.heap.size, 0, none⟩) 1 1) (.slice none 0 0) (.slice d1 (kp D).length cd)); have HGZ : Hid (W8.grownBy WZ (some (w.heap.size + 2))) := (hWZ ▸ grown14 W8 (w.heap.size + 2) (.int .i64 i0) (.bool b1) (.int .i64 i2) (.bool false) (.bool b4) (.bool b5) (.bool b6) (.bool b7) (.bool b8) (.int .i64 0) (.slice q1 Q.length c1) (.slice (some ⟨w6.heap.size, 0, none⟩) 1 1) (.slice none 0 0) (.slice d1 (kp D).length cd)); unfold set14 at hWZ; clear hB HX7 HD7 H7 HM7))
  obtain ⟨y0, y1, y2, y3, y4, y5, y6, y7, y8, y9, y10, y11, y12, y13⟩ := bx14 HYZ.out
  exact bodyPost_ret (v := .tuple #[.agg #[.int .i64 i0, .bool b1, .int .i64 i2, .bool false, .bool b4, .bool b5, .bool b6, .bool b7, .bool b8, .int .i64 0, .slice q1 Q.length c1, .slice (some ⟨w6.heap.size, 0, none⟩) 1 1, .slice none 0 0, .slice d1 (kp D).length cd], .bool true]) (by simp [results, go_sem, y0, y1, y2, y3, y4, y5, y6, y7, y8, y9, y10, y11, y12, y13]) rfl ⟨q1, some ⟨w6.heap.size, 0, none⟩, none, d1, c1, 1, 0, cd, rfl, (HM8.out.keep HGZ.out (fun q e => by injection e with e; have := HSz4.out; omega)).low (by have := HSz4.out; omega), HBZ.out⟩
set_option maxRecDepth 100000 in
set_option maxHeartbeats 8000000 in
theorem filter_say3 (R : List Ru) (pr : Option Addr) (cr : Nat) (j0 j2 j9 : Int) (k1 k3 k4 k5 k6 k7 k8 : Bool) (r0 s0 t0 v0 : Option Addr) (rc sc tc vc : Nat) (P : List Qn) (Am Um Dm : List Rn) (i0 i2 i9 : Int) (b1 b3 b4 b5 b6 b7 b8 : Bool) (q0 a0 u0 d0 : Option Addr) (qc ac uc dc : Nat) (Q : List Qn) (A U D : List Rn) (qn : ByteArray) (qt ql : Int) (ii : Nat) (xn : ByteArray) (xb : Bool) (xt xl : Int) (xd : ByteArray) (w : World) (hP : QsAt w r0 P) (hl : LsAt w q0 a0 u0 d0 Q A U D) (hln : Q.length ≤ 1048576 ∧ A.length ≤ 1048576 ∧ U.length ≤ 1048576 ∧ D.length ≤ 1048576) (hA : RuAt w pr R) (hR : R.length ≤ 1048576) (hz : ∀ x ∈ R, x.n.size ≤ 1048576 ∧ x.d.size ≤ 1048576) (hp : P.length = 1) (hq : P[0]'(by omega) = ⟨qn, qt, ql⟩) (hqs : qn.size ≤ 1048576) (hii : ii < R.length) (hru : ruI R qn = (ii : Int)) (hx : R[ii]'hii = ⟨xn, xb, 4, xt, xl, xd⟩) (h1 : ¬ xt = qt) (h2 : ¬ qt = 255) (h3 : xt = 5) :
    Calls Tryz.prog 8 #[.slice pr R.length cr, .agg #[.int .i64 j0, .bool k1, .int .i64 j2, .bool k3, .bool k4, .bool k5, .bool k6, .bool k7, .bool k8, .int .i64 j9, .slice r0 P.length rc, .slice s0 Am.length sc, .slice t0 Um.length tc, .slice v0 Dm.length vc], .agg #[.int .i64 i0, .bool b1, .int .i64 i2, .bool b3, .bool b4, .bool b5, .bool b6, .bool b7, .bool b8, .int .i64 i9, .slice q0 Q.length qc, .slice a0 A.length ac, .slice u0 U.length uc, .slice d0 D.length dc]] w (FiE (bareM ⟨i0, b1, i2, b3, b4, b5, b6, b7, b8, i9, ⟨Q, A, U, D⟩, true⟩ 0 [⟨qn, xt, 1, xl, xd⟩]) w) := by
  obtain ⟨wr, hwr⟩ : ∃ wr, ((w.alloc (.cells #[.int .i64 j0, .bool k1, .int .i64 j2, .bool k3, .bool k4, .bool k5, .bool k6, .bool k7, .bool k8, .int .i64 j9, .slice r0 P.length rc, .slice s0 Am.length sc, .slice t0 Um.length tc, .slice v0 Dm.length vc] 27)).alloc (.cells #[.int .i64 i0, .bool b1, .int .i64 i2, .bool b3, .bool b4, .bool b5, .bool b6, .bool b7, .bool b8, .int .i64 i9, .slice q0 Q.length qc, .slice a0 A.length ac, .slice u0 U.length uc, .slice d0 D.length dc] 27)).alloc (.cells #[.int .i64 0, .bool false, .int .i64 0, .bool false, .bool false, .bool false, .bool false, .bool false, .bool false, .int .i64 0, .slice none 0 0, .slice none 0 0, .slice none 0 0, .slice none 0 0] 27) = wr := ⟨_, rfl⟩
  have H0 : Hid (B3 w wr #[.int .i64 j0, .bool k1, .int .i64 j2, .bool k3, .bool k4, .bool k5, .bool k6, .bool k7, .bool k8, .int .i64 j9, .slice r0 P.length rc, .slice s0 Am.length sc, .slice t0 Um.length tc, .slice v0 Dm.length vc] #[.int .i64 i0, .bool b1, .int .i64 i2, .bool b3, .bool b4, .bool b5, .bool b6, .bool b7, .bool b8, .int .i64 i9, .slice q0 Q.length qc, .slice a0 A.length ac, .slice u0 U.length uc, .slice d0 D.length dc] #[.int .i64 0, .bool false, .int .i64 0, .bool false, .bool false, .bool false, .bool false, .bool false, .bool false, .int .i64 0, .slice none 0 0, .slice none 0 0, .slice none 0 0, .slice none 0 0]) := hwr ▸ B3.new w _ _ _
  have m10 : wr.cell? ⟨w.heap.size, 10, none⟩ = some (.slice r0 P.length rc) := H0.out.m.cell rfl
  have HBa : Hid (∀ V, Below w.heap.size w V → Calls Tryz.prog 24 #[.agg #[.int .i64 i0, .bool b1, .int .i64 i2, .bool b3, .bool b4, .bool b5, .bool b6, .bool b7, .bool b8, .int .i64 i9, .slice q0 Q.length qc, .slice a0 A.length ac, .slice u0 U.length uc, .slice d0 D.length dc], .int .i64 0] V fun e w' => ∃ q1 d1 c1 cd, e = .returned (.agg #[.int .i64 i0, .bool b1, .int .i64 i2, .bool false, .bool b4, .bool b5, .bool b6, .bool b7, .bool b8, .int .i64 0, .slice q1 Q.length c1, .slice none 0 0, .slice none 0 0, .slice d1 (kp D).length cd]) ∧ Mg4 w' V.heap.size (.slice q1 Q.length c1) (.slice none 0 0) (.slice none 0 0) (.slice d1 (kp D).length cd) ⟨Q, [], [], kp D⟩ ∧ Below V.heap.size V w') := fun V hV => bare_any 0 i0 i2 i9 b1 b3 b4 b5 b6 b7 b8 q0 a0 u0 d0 qc ac uc dc Q A U D V (hl.below hV) hln
  have hp1 : ((P.length : Int) == 1) = true := by rw [beq_iff_eq]; omega
  obtain ⟨gq, oq, hpq, hgq, z0, z1, z2⟩ := hP 0 (by omega)
  subst hpq
  rw [Nat.zero_mul, Nat.add_zero] at z0 z1 z2
  have hpi : (0 : Int) < (P.length : Int) := by omega
  rw [hq] at z0 z1 z2
  simp only at z0 z1 z2
  have zr0 : wr.cell? ⟨gq, oq, none⟩ = some (.string qn) := (H0.out.b.cell (p := ⟨gq, oq, none⟩) hgq).trans z0
  have zr1 : wr.cell? ⟨gq, oq + 1, none⟩ = some (.int .i64 qt) := (H0.out.b.cell (p := ⟨gq, oq + 1, none⟩) hgq).trans z1
  have zr2 : wr.cell? ⟨gq, oq + 2, none⟩ = some (.int .i64 ql) := (H0.out.b.cell (p := ⟨gq, oq + 2, none⟩) hgq).trans z2
  obtain ⟨wq, hwq⟩ : ∃ W, wr.alloc (.cells #[.string qn, .int .i64 qt, .int .i64 ql] 52) = W := ⟨_, rfl⟩
  have HQB : Hid (Bx wq wr.heap.size #[.string qn, .int .i64 qt, .int .i64 ql] 52) := hwq ▸ World.alloc_heap_new wr _
  have H1 := hide' (H0.out.step (alloc_belF hwq))
  have q00 : wq.cell? ⟨wr.heap.size, 0, none⟩ = some (.string qn) := HQB.out.cell rfl
  have HRu : Hid (∀ V, Below w.heap.size w V → Calls Tryz.prog 5 #[.slice pr R.length cr, .string qn] V fun e w' => e = .returned (.int .i64 (ruI R qn)) ∧ Below V.heap.size V w') := fun V hV => policyRule_any R pr cr qn V (by
    intro k hk
    obtain ⟨g, off, h1, h2, e0, e1, e2, e3, e4, e5⟩ := hA k hk
    have c := fun (j : Nat) => hV.cell (p := ⟨g, j, none⟩) h2
    exact ⟨g, off, h1, Nat.lt_of_lt_of_le h2 hV.size, (c _).trans e0, (c _).trans e1, (c _).trans e2, (c _).trans e3, (c _).trans e4, (c _).trans e5⟩) hR hz hqs
  have HRu2 : Hid (∀ V, Below w.heap.size w V → Calls Tryz.prog 5 #[.slice pr R.length cr, .string qn] V fun e w' => e = .returned (.int .i64 (ii : Int)) ∧ Below V.heap.size V w') := by
    rw [← hru]
    exact HRu
  have HA := hide' hA
  have hii' : (ii : Int) < (R.length : Int) := by omega
  have hi0 : (0 : Int) ≤ (ii : Int) := by omega
  have hnl : ¬ (ii : Int) < 0 := by omega
  obtain ⟨gr, og, hpr, hgr, -⟩ := hA ii hii
  subst hpr
  have HCe : Hid (∀ V, Below w.heap.size w V → V.cell? ⟨gr, og + ii * 6, none⟩ = some (.string xn) ∧ V.cell? ⟨gr, og + ii * 6 + 1, none⟩ = some (.bool xb) ∧ V.cell? ⟨gr, og + ii * 6 + 2, none⟩ = some (.int .i64 4) ∧ V.cell? ⟨gr, og + ii * 6 + 3, none⟩ = some (.int .i64 xt) ∧ V.cell? ⟨gr, og + ii * 6 + 4, none⟩ = some (.int .i64 xl) ∧ V.cell? ⟨gr, og + ii * 6 + 5, none⟩ = some (.string xd)) := fun V hV => by
    obtain ⟨g, off, h1, h2, e0, e1, e2, e3, e4, e5⟩ := HA.out ii hii
    injection h1 with h1
    injection h1 with g1 g2
    subst g1 g2
    rw [hx] at e0 e1 e2 e3 e4 e5
    have c := fun (j : Nat) => hV.cell (p := ⟨gr, j, none⟩) h2
    exact ⟨(c _).trans e0, (c _).trans e1, (c _).trans e2, (c _).trans e3, (c _).trans e4, (c _).trans e5⟩
  clear HRu
  clear hl hln hA hz hP z0 z1 z2 hp hq hgq hx hru
  have HSa := hide' (fun V => saidOf_any ⟨xn, xb, 4, xt, xl, xd⟩ qn V)
  unfold ruV at HSa
  simp only at HSa
  have g1 : (xt == qt) = false := by rw [beq_eq_false_iff_ne]; exact h1
  have g2 : (qt == 255) = false := by rw [beq_eq_false_iff_ne]; exact h2
  have g3 : (xt == 5) = true := by rw [beq_iff_eq]; exact h3
  clear h1 h2 h3
  go_enter Tryz.func8, Tryz.ntmps8
  go_wp2_with (first
    | (go_at_call 5; (with_reducible refine (HRu2.out _ H1.out.b).mono ?_); rintro e w2 ⟨rfl, hB⟩; have H2 := hide' (H1.out.step hB); obtain ⟨c0, c1', c2, c3, c4, c5⟩ := HCe.out _ H2.out.b; obtain ⟨wu, hwu⟩ : ∃ W, w2.alloc (.cells #[.string xn, .bool xb, .int .i64 4, .int .i64 xt, .int .i64 xl, .string xd] 45) = W := ⟨_, rfl⟩; have HUB : Hid (Bx wu w2.heap.size #[.string xn, .bool xb, .int .i64 4, .int .i64 xt, .int .i64 xl, .string xd] 45) := (hwu ▸ World.alloc_heap_new w2 _); have HQ2 := hide' ((HQB.out.below hB HQB.out.lt).below (alloc_belF hwu) (HQB.out.below hB HQB.out.lt).lt); have H3 := hide' (H2.out.step (alloc_belF hwu)); have u2 : wu.cell? ⟨w2.heap.size, 2, none⟩ = some (.int .i64 4) := HUB.out.cell rfl; obtain ⟨x0, x1, x2, x3, x4, x5, x6, x7, x8, x9, x10, x11, x12, x13⟩ := bx14 H3.out.a; clear hB)
    | (go_at_call 24; (with_reducible refine (HBa.out _ H3.out.b).mono ?_); rintro e w4 ⟨q1, d1, c1, cd, rfl, hmg, hB⟩; have H4 := hide' (H3.out.step hB); have HMg := hide' hmg; have HSz4 := hide' H3.out.z; obtain ⟨wd, hwd⟩ : ∃ W, w4.alloc (.cells #[.int .i64 i0, .bool b1, .int .i64 i2, .bool false, .bool b4, .bool b5, .bool b6, .bool b7, .bool b8, .int .i64 0, .slice q1 Q.length c1, .slice none 0 0, .slice none 0 0, .slice d1 (kp D).length cd] 27) = W := ⟨_, rfl⟩; have HDB : Hid (Bx wd w4.heap.size #[.int .i64 i0, .bool b1, .int .i64 i2, .bool false, .bool b4, .bool b5, .bool b6, .bool b7, .bool b8, .int .i64 0, .slice q1 Q.length c1, .slice none 0 0, .slice none 0 0, .slice d1 (kp D).length cd] 27) := (hwd ▸ World.alloc_heap_new w4 _); have hb5 : Below w4.heap.size w4 wd := alloc_belF hwd; have H5 := hide' (H4.out.step hb5); have HQ5 := hide' ((HQ2.out.below hB HQ2.out.lt).below hb5 (HQ2.out.below hB HQ2.out.lt).lt); have HU5 := hide' ((HUB.out.below hB HUB.out.lt).below hb5 (HUB.out.below hB HUB.out.lt).lt); have HM5 := hide' (hmg.keep (grown_below hb5 none) (fun q e => by cases e)); have qq0 : wd.cell? ⟨wr.heap.size, 0, none⟩ = some (.string qn) := HQ5.out.cell rfl; have qq1 : wd.cell? ⟨wr.heap.size, 1, none⟩ = some (.int .i64 qt) := HQ5.out.cell rfl; obtain ⟨uu0, uu1, uu2, uu3, uu4, uu5⟩ := bx6P HU5.out; have HWD := hide' hwd; have HZ4 := hide' H4.out.z; have HN4 : Hid (wu.heap.size ≤ w4.heap.size) := hB.size; clear hb5; clear hmg hB)
    | (go_at_call 25; (with_reducible refine (HSa.out _).mono ?_); rintro e w6 ⟨rfl, hB⟩; obtain ⟨w7, hw7⟩ : ∃ W, w6.alloc (.cells #[.string qn, .int .i64 xt, .int .i64 1, .int .i64 xl, .string xd] 55) = W := ⟨_, rfl⟩; obtain ⟨W8, hW8⟩ : ∃ W, w7.setCell ⟨w4.heap.size, 11, none⟩ (.slice (some ⟨w6.heap.size, 0, none⟩) 1 1) = W := ⟨_, rfl⟩; obtain ⟨HX7, HD7, H7, HM7⟩ := say_step (x := ⟨qn, xt, 1, xl, xd⟩) HMg.out HWD.out H5.out HZ4.out HN4.out hB hw7 hW8; have e11 : w7.cell? ⟨w4.heap.size, 11, none⟩ = some (.slice none 0 0) := HX7.cell rfl; have g11 : w7.frozen? ⟨w4.heap.size, 11, none⟩ = false := HX7.free 11; have HD8 : Hid (Bx W8 w4.heap.size #[.int .i64 i0, .bool b1, .int .i64 i2, .bool false, .bool b4, .bool b5, .bool b6, .bool b7, .bool b8, .int .i64 0, .slice q1 Q.length c1, .slice (some ⟨w6.heap.size, 0, none⟩) 1 1, .slice none 0 0, .slice d1 (kp D).length cd] 27) := HD7; have H8 := hide' H7; have HM8 := hide' HM7; obtain ⟨v0, v1, v2, v3, v4, v5, v6, v7, v8, v9, v10, v11, v12, v13⟩ := bx14 HD8.out; obtain ⟨r0, r1, r2, r3, r4, r5, r6, r7, r8, r9, r10, r11, r12, r13⟩ := bx14 H8.out.r; obtain ⟨f0, f1, f2, f3, f4, f5, f6, f7, f8, f9, f10, f11, f12, f13⟩ := bx14_free H8.out.r; obtain ⟨WZ, hWZ⟩ : ∃ W, set14 W8 (w.heap.size + 2) (.int .i64 i0) (.bool b1) (.int .i64 i2) (.bool false) (.bool b4) (.bool b5) (.bool b6) (.bool b7) (.bool b8) (.int .i64 0) (.slice q1 Q.length c1) (.slice (some ⟨w6.heap.size, 0, none⟩) 1 1) (.slice none 0 0) (.slice d1 (kp D).length cd) = W := ⟨_, rfl⟩; have HYZ : Hid (Bx WZ (w.heap.size + 2) #[.int .i64 i0, .bool b1, .int .i64 i2, .bool false, .bool b4, .bool b5, .bool b6, .bool b7, .bool b8, .int .i64 0, .slice q1 Q.length c1, .slice (some ⟨w6.heap.size, 0, none⟩) 1 1, .slice none 0 0, .slice d1 (kp D).length cd] 27) := (hWZ ▸ bx14_set H8.out.r (.int .i64 i0) (.bool b1) (.int .i64 i2) (.bool false) (.bool b4) (.bool b5) (.bool b6) (.bool b7) (.bool b8) (.int .i64 0) (.slice q1 Q.length c1) (.slice (some ⟨w6.heap.size, 0, none⟩) 1 1) (.slice none 0 0) (.slice d1 (kp D).length cd)); have HBZ : Hid (Below w.heap.size w WZ) := (hWZ ▸ below14 H8.out.b (Nat.le_add_right _ _) H8.out.b.size (.int .i64 i0) (.bool b1) (.int .i64 i2) (.bool false) (.bool b4) (.bool b5) (.bool b6) (.bool b7) (.bool b8) (.int .i64 0) (.slice q1 Q.length c1) (.slice (some ⟨w6.heap.size, 0, none⟩) 1 1) (.slice none 0 0) (.slice d1 (kp D).length cd)); have HGZ : Hid (W8.grownBy WZ (some (w.heap.size + 2))) := (hWZ ▸ grown14 W8 (w.heap.size + 2) (.int .i64 i0) (.bool b1) (.int .i64 i2) (.bool false) (.bool b4) (.bool b5) (.bool b6) (.bool b7) (.bool b8) (.int .i64 0) (.slice q1 Q.length c1) (.slice (some ⟨w6.heap.size, 0, none⟩) 1 1) (.slice none 0 0) (.slice d1 (kp D).length cd)); unfold set14 at hWZ; clear hB HX7 HD7 H7 HM7))
  obtain ⟨y0, y1, y2, y3, y4, y5, y6, y7, y8, y9, y10, y11, y12, y13⟩ := bx14 HYZ.out
  exact bodyPost_ret (v := .tuple #[.agg #[.int .i64 i0, .bool b1, .int .i64 i2, .bool false, .bool b4, .bool b5, .bool b6, .bool b7, .bool b8, .int .i64 0, .slice q1 Q.length c1, .slice (some ⟨w6.heap.size, 0, none⟩) 1 1, .slice none 0 0, .slice d1 (kp D).length cd], .bool true]) (by simp [results, go_sem, y0, y1, y2, y3, y4, y5, y6, y7, y8, y9, y10, y11, y12, y13]) rfl ⟨q1, some ⟨w6.heap.size, 0, none⟩, none, d1, c1, 1, 0, cd, rfl, (HM8.out.keep HGZ.out (fun q e => by injection e with e; have := HSz4.out; omega)).low (by have := HSz4.out; omega), HBZ.out⟩
end Go.Proofs.YtligjbcinahgdaaGreat
