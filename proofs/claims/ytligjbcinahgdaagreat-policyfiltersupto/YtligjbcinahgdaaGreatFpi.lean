import Derived.Test.YtligjbcinahgdaaGreatSgmG
/-
  Proofs: gazetteerref11.Filter: its ends behind the loop. (The verifier's own text.)
-/
namespace Go.Proofs.YtligjbcinahgdaaGreat
set_option linter.unusedVariables false
set_option linter.unusedSimpArgs false
open Go.RowKit Go.Shelf Go.Maps Go.Proofs.YtligjbcinahgdaaGreat.Nm

set_option maxRecDepth 100000 in
set_option maxHeartbeats 8000000 in
theorem rfilter_noname (R : List Ru) (pr : Option Addr) (cr : Nat) (j0 j2 j9 : Int) (k1 k3 k4 k5 k6 k7 k8 : Bool) (r0 s0 t0 v0 : Option Addr) (rc sc tc vc : Nat) (P : List Qn) (Am Um Dm : List Rn) (i0 i2 i9 : Int) (b1 b3 b4 b5 b6 b7 b8 : Bool) (q0 a0 u0 d0 : Option Addr) (qc ac uc dc : Nat) (Q : List Qn) (A U D : List Rn) (qn : ByteArray) (qt ql : Int) (ii : Nat) (xn : ByteArray) (xb : Bool) (xt xl : Int) (xd : ByteArray) (w : World) (hP : QsAt w r0 P) (hl : LsAt w q0 a0 u0 d0 Q A U D) (hln : Q.length ≤ 1048576 ∧ A.length ≤ 1048576 ∧ U.length ≤ 1048576 ∧ D.length ≤ 1048576) (hA : RuAt w pr R) (hR : R.length ≤ 1048576) (hz : ∀ x ∈ R, x.n.size ≤ 1048576 ∧ x.d.size ≤ 1048576) (hp : P.length = 1) (hq : P[0]'(by omega) = ⟨qn, qt, ql⟩) (hqs : qn.size ≤ 1048576) (hii : ii < R.length) (hru : ruI R qn = (ii : Int)) (hx : R[ii]'hii = ⟨xn, xb, 2, xt, xl, xd⟩)  :
    Calls Tryz.prog 9 #[.slice pr R.length cr, .agg #[.int .i64 j0, .bool k1, .int .i64 j2, .bool k3, .bool k4, .bool k5, .bool k6, .bool k7, .bool k8, .int .i64 j9, .slice r0 P.length rc, .slice s0 Am.length sc, .slice t0 Um.length tc, .slice v0 Dm.length vc], .agg #[.int .i64 i0, .bool b1, .int .i64 i2, .bool b3, .bool b4, .bool b5, .bool b6, .bool b7, .bool b8, .int .i64 i9, .slice q0 Q.length qc, .slice a0 A.length ac, .slice u0 U.length uc, .slice d0 D.length dc]] w (RfE (bareM ⟨i0, b1, i2, b3, b4, b5, b6, b7, b8, i9, ⟨Q, A, U, D⟩, true⟩ 3 []) w) := by
  obtain ⟨wr, hwr⟩ : ∃ wr, ((w.alloc (.cells #[.int .i64 j0, .bool k1, .int .i64 j2, .bool k3, .bool k4, .bool k5, .bool k6, .bool k7, .bool k8, .int .i64 j9, .slice r0 P.length rc, .slice s0 Am.length sc, .slice t0 Um.length tc, .slice v0 Dm.length vc] 27)).alloc (.cells #[.int .i64 i0, .bool b1, .int .i64 i2, .bool b3, .bool b4, .bool b5, .bool b6, .bool b7, .bool b8, .int .i64 i9, .slice q0 Q.length qc, .slice a0 A.length ac, .slice u0 U.length uc, .slice d0 D.length dc] 27)).alloc (.cells #[.int .i64 0, .bool false, .int .i64 0, .bool false, .bool false, .bool false, .bool false, .bool false, .bool false, .int .i64 0, .slice none 0 0, .slice none 0 0, .slice none 0 0, .slice none 0 0] 27) = wr := ⟨_, rfl⟩
  have H0 : Hid (B3 w wr #[.int .i64 j0, .bool k1, .int .i64 j2, .bool k3, .bool k4, .bool k5, .bool k6, .bool k7, .bool k8, .int .i64 j9, .slice r0 P.length rc, .slice s0 Am.length sc, .slice t0 Um.length tc, .slice v0 Dm.length vc] #[.int .i64 i0, .bool b1, .int .i64 i2, .bool b3, .bool b4, .bool b5, .bool b6, .bool b7, .bool b8, .int .i64 i9, .slice q0 Q.length qc, .slice a0 A.length ac, .slice u0 U.length uc, .slice d0 D.length dc] #[.int .i64 0, .bool false, .int .i64 0, .bool false, .bool false, .bool false, .bool false, .bool false, .bool false, .int .i64 0, .slice none 0 0, .slice none 0 0, .slice none 0 0, .slice none 0 0]) := hwr ▸ B3.new w _ _ _
  have m10 : wr.cell? ⟨w.heap.size, 10, none⟩ = some (.slice r0 P.length rc) := H0.out.m.cell rfl
  have hp1 : ((P.length : Int) == 1) = true := by rw [beq_iff_eq]; omega
  obtain ⟨gq, oq, hpq, hgq, z0, z1, z2⟩ := hP 0 (by omega)
  subst hpq
  rw [Nat.zero_mul, Nat.add_zero] at z0 z1 z2
  have hpi : (0 : Int) < (P.length : Int) := by omega
  rw [hq] at z0 z1 z2
  simp only at z0 z1 z2
  have zr0 : wr.cell? ⟨gq, oq, none⟩ = some (.string qn) := (H0.out.b.cell (p := ⟨gq, oq, none⟩) hgq).trans z0
  have zr1 : wr.cell? ⟨gq, oq + 1, none⟩ = some (.int .i64 qt) := (H0.out.b.cell (p := ⟨gq, oq + 1, none⟩) hgq).trans z1
  have zr2 : wr.cell? ⟨gq, oq + 2, none⟩ = some (.int .i64 ql) := (H0.out.b.cell (p := ⟨gq, oq + 2, none⟩) hgq).trans z2
  obtain ⟨wq, hwq⟩ : ∃ W, wr.alloc (.cells #[.string qn, .int .i64 qt, .int .i64 ql] 52) = W := ⟨_, rfl⟩
  have HQB : Hid (Bx wq wr.heap.size #[.string qn, .int .i64 qt, .int .i64 ql] 52) := hwq ▸ World.alloc_heap_new wr _
  have H1 := hide' (H0.out.step (alloc_belF hwq))
  have q00 : wq.cell? ⟨wr.heap.size, 0, none⟩ = some (.string qn) := HQB.out.cell rfl
  have HRu : Hid (∀ V, Below w.heap.size w V → Calls Tryz.prog 6 #[.slice pr R.length cr, .string qn] V fun e w' => e = .returned (.int .i64 (ruI R qn)) ∧ Below V.heap.size V w') := fun V hV => refRule_any R pr cr qn V (by
    intro k hk
    obtain ⟨g, off, h1, h2, e0, e1, e2, e3, e4, e5⟩ := hA k hk
    have c := fun (j : Nat) => hV.cell (p := ⟨g, j, none⟩) h2
    exact ⟨g, off, h1, Nat.lt_of_lt_of_le h2 hV.size, (c _).trans e0, (c _).trans e1, (c _).trans e2, (c _).trans e3, (c _).trans e4, (c _).trans e5⟩) hR hz hqs
  have HRu2 : Hid (∀ V, Below w.heap.size w V → Calls Tryz.prog 6 #[.slice pr R.length cr, .string qn] V fun e w' => e = .returned (.int .i64 (ii : Int)) ∧ Below V.heap.size V w') := by
    rw [← hru]
    exact HRu
  have HA := hide' hA
  have hii' : (ii : Int) < (R.length : Int) := by omega
  have hi0 : (0 : Int) ≤ (ii : Int) := by omega
  have hnl : ¬ (ii : Int) < 0 := by omega
  obtain ⟨gr, og, hpr, hgr, -⟩ := hA ii hii
  subst hpr
  have HCe : Hid (∀ V, Below w.heap.size w V → V.cell? ⟨gr, og + ii * 6, none⟩ = some (.string xn) ∧ V.cell? ⟨gr, og + ii * 6 + 1, none⟩ = some (.bool xb) ∧ V.cell? ⟨gr, og + ii * 6 + 2, none⟩ = some (.int .i64 2) ∧ V.cell? ⟨gr, og + ii * 6 + 3, none⟩ = some (.int .i64 xt) ∧ V.cell? ⟨gr, og + ii * 6 + 4, none⟩ = some (.int .i64 xl) ∧ V.cell? ⟨gr, og + ii * 6 + 5, none⟩ = some (.string xd)) := fun V hV => by
    obtain ⟨g, off, h1, h2, e0, e1, e2, e3, e4, e5⟩ := HA.out ii hii
    injection h1 with h1
    injection h1 with g1 g2
    subst g1 g2
    rw [hx] at e0 e1 e2 e3 e4 e5
    have c := fun (j : Nat) => hV.cell (p := ⟨gr, j, none⟩) h2
    exact ⟨(c _).trans e0, (c _).trans e1, (c _).trans e2, (c _).trans e3, (c _).trans e4, (c _).trans e5⟩
  clear HRu
  have hnd : decide ((ii : Int) < 0) = false := decide_eq_false hnl
  have HLs := hide' hl
  have hDl := hln.2.2.2
  have HWR : Hid (w.heap.size + 2 < wr.heap.size) := H0.out.z
  clear hl hln hA hz hP z0 z1 z2 hp hq hgq hx hru
  go_enter Tryz.func9, Tryz.ntmps9
  go_wp2_with (go_at_call 6; (with_reducible refine (HRu2.out _ H1.out.b).mono ?_); rintro e w2 ⟨rfl, hB⟩; have H2 := hide' (H1.out.step hB); obtain ⟨c0, c1', c2, c3, c4, c5⟩ := HCe.out _ H2.out.b; obtain ⟨wu, hwu⟩ : ∃ W, w2.alloc (.cells #[.string xn, .bool xb, .int .i64 2, .int .i64 xt, .int .i64 xl, .string xd] 45) = W := ⟨_, rfl⟩; have HUB : Hid (Bx wu w2.heap.size #[.string xn, .bool xb, .int .i64 2, .int .i64 xt, .int .i64 xl, .string xd] 45) := (hwu ▸ World.alloc_heap_new w2 _); have HQ2 := hide' ((HQB.out.below hB HQB.out.lt).below (alloc_belF hwu) (HQB.out.below hB HQB.out.lt).lt); have H3 := hide' (H2.out.step (alloc_belF hwu)); have u2 : wu.cell? ⟨w2.heap.size, 2, none⟩ = some (.int .i64 2) := HUB.out.cell rfl; have H5 : Hid (A5 w wu wu.heap.size #[.int .i64 i0, .bool b1, .int .i64 i2, .bool b3, .bool b4, .bool b5, .bool b6, .bool b7, .bool b8, .int .i64 i9, .slice q0 Q.length qc, .slice a0 A.length ac, .slice u0 U.length uc, .slice d0 D.length dc] #[.int .i64 0, .bool false, .int .i64 0, .bool false, .bool false, .bool false, .bool false, .bool false, .bool false, .int .i64 0, .slice none 0 0, .slice none 0 0, .slice none 0 0, .slice none 0 0] w2.heap.size #[.string xn, .bool xb, .int .i64 2, .int .i64 xt, .int .i64 xl, .string xd] wr.heap.size #[.string qn, .int .i64 qt, .int .i64 ql]) := ⟨H3.out.a, H3.out.r, HUB.out, HQ2.out, H3.out.b, (by have := H3.out.z; have := HUB.out.lt; have := H2.out.z; omega), HUB.out.lt, HQ2.out.lt, Nat.le_refl _, H2.out.z, HWR.out⟩; have x13' : wu.cell? ⟨w.heap.size + 1, 13, none⟩ = some (.slice d0 D.length dc) := H5.out.a.cell rfl; clear hB)
  clear hwu x13' hwq
  obtain ⟨wr0, hwr0⟩ : ∃ z, wr.heap.size = z := ⟨_, rfl⟩
  rw [hwr0] at H5
  try rw [hwr0]
  go_loopw [11, 49] (fun ov kv wv => ∃ (k : Nat) (op : Option Addr) (oc : Nat), kv = .int .i64 (k : Int) ∧ k ≤ D.length ∧ ov = .slice op (kp (D.take k)).length oc ∧ Hid (wv.ownsRow wu.heap.size 55 5 (.slice op (kp (D.take k)).length oc) (kp (D.take k)).length (rce5 (kp (D.take k)))) ∧ Hid (A5 w wv wu.heap.size #[.int .i64 i0, .bool b1, .int .i64 i2, .bool b3, .bool b4, .bool b5, .bool b6, .bool b7, .bool b8, .int .i64 i9, .slice q0 Q.length qc, .slice a0 A.length ac, .slice u0 U.length uc, .slice d0 D.length dc] #[.int .i64 0, .bool false, .int .i64 0, .bool false, .bool false, .bool false, .bool false, .bool false, .bool false, .int .i64 0, .slice none 0 0, .slice none 0 0, .slice none 0 0, .slice none 0 0] w2.heap.size #[.string xn, .bool xb, .int .i64 2, .int .i64 xt, .int .i64 xl, .string xd] wr0 #[.string qn, .int .i64 qt, .int .i64 ql])) (fun _ kv _ => D.length - (intOf kv).toNat)
  case atStart => exact ⟨0, none, 0, rfl, Nat.zero_le _, rfl, World.ownsRow_nil _ _ _ _, H5⟩
  case round =>
    clear H5
    obtain ⟨k, op, oc, rfl, hk, rfl, HOw, HA5⟩ := hrel
    by_cases hlt : k < D.length
    · have pk : (k : Int) < (D.length : Int) := by omega
      have pk0 : (0 : Int) ≤ (k : Int) := by omega
      obtain ⟨g, off, rfl, hg, e0, e1, e2, e3, e4⟩ := (HLs.out.below HA5.out.b).d k hlt
      have HKs := hide' (kp_succ hlt)
      have hkl : (kp (D.take k)).length ≤ 1048576 := by have := kp_le (D.take k); rw [List.length_take] at this; omega
      obtain ⟨x, hxx⟩ : ∃ x, D[k] = x := ⟨_, rfl⟩
      rw [hxx] at e0 e1 e2 e3 e4 HKs
      clear hxx
      obtain ⟨yo, yt, yc, yl, yd⟩ := x
      simp only at e0 e1 e2 e3 e4 HKs
      obtain ⟨E, hE⟩ : ∃ E, kp (D.take k) = E := ⟨_, rfl⟩
      rw [hE] at HKs HOw hkl ⊢
      clear hE
      obtain ⟨wx, hwx⟩ : ∃ W, wr.alloc (.cells #[.string yo, .int .i64 yt, .int .i64 yc, .int .i64 yl, .string yd] 55) = W := ⟨_, rfl⟩
      have HXB : Hid (Bx wx wr.heap.size #[.string yo, .int .i64 yt, .int .i64 yc, .int .i64 yl, .string yd] 55) := hwx ▸ World.alloc_heap_new wr _
      have HAx := hide' (HA5.out.step (alloc_belF hwx))
      have HOx := hide' (own_below HOw.out (alloc_belF hwx))
      have g0 : wx.cell? ⟨wr.heap.size, 0, none⟩ = some (.string yo) := HXB.out.cell rfl
      have g1 : wx.cell? ⟨wr.heap.size, 1, none⟩ = some (.int .i64 yt) := HXB.out.cell rfl
      have g2 : wx.cell? ⟨wr.heap.size, 2, none⟩ = some (.int .i64 yc) := HXB.out.cell rfl
      have g3 : wx.cell? ⟨wr.heap.size, 3, none⟩ = some (.int .i64 yl) := HXB.out.cell rfl
      have g4 : wx.cell? ⟨wr.heap.size, 4, none⟩ = some (.string yd) := HXB.out.cell rfl
      by_cases h41 : yt = 41
      · subst h41
        rw [if_pos rfl] at HKs
        obtain ⟨wy, hwy⟩ : ∃ W, wx.alloc (.cells #[.string yo, .int .i64 41, .int .i64 yc, .int .i64 yl, .string yd] 55) = W := ⟨_, rfl⟩
        have HAy := hide' (HAx.out.step (alloc_belF hwy))
        have HOy := hide' (own_below HOx.out (alloc_belF hwy))
        have HRy : Hid (RsAt wy (some ⟨wx.heap.size, 0, none⟩) [⟨yo, 41, yc, yl, yd⟩]) := by
          intro k hk
          obtain rfl : k = 0 := by simpa using hk
          have hb : Bx wy wx.heap.size #[.string yo, .int .i64 41, .int .i64 yc, .int .i64 yl, .string yd] 55 := hwy ▸ World.alloc_heap_new wx _
          exact ⟨_, 0, rfl, hb.lt, hb.cell rfl, hb.cell rfl, hb.cell rfl, hb.cell rfl, hb.cell rfl⟩
        go_wp2_with (at_builtin; refine wpList_append_recsM rfl _ _ rfl wu.heap.size _ E.length (rce5 E) rfl HOy.out (some ⟨wx.heap.size, 0, none⟩) [⟨yo, 41, yc, yl, yd⟩] 1 rfl HRy.out (fun h => absurd h (Option.some_ne_none _)) (by simp only [List.length_singleton]; omega) HAy.out.nz ?_; intro v9 w9 ho9 hg9; have HA9 := hide' (HAy.out.grown hg9 (fun q e => ownBlock_le HOy.out e)); have ho9' := own_snocF ho9; obtain ⟨p9, c9, hv9, -⟩ := own_shape ho9'; subst hv9; have HO9 := hide' ho9'; clear ho9 ho9' hg9)
        exact ⟨⟨k + 1, p9, c9, by go_num, by omega, by first | (rw [HKs.out]; rfl) | (rw [HKs.out, List.length_append]; rfl) | (rw [HKs.out]; simp), by rw [HKs.out]; exact HO9, HA9⟩, by simp [intOf]; omega⟩
      · rw [if_neg h41, List.append_nil] at HKs
        have h41b : (yt == 41) = false := by rw [beq_eq_false_iff_ne]; exact h41
        go_wp2_with fail
        exact ⟨⟨k + 1, op, oc, by go_num, by omega, by rw [HKs.out], by rw [HKs.out]; exact HOx, HAx⟩, by simp [intOf]; omega⟩
    · obtain rfl : k = D.length := by omega
      rw [List.take_length] at HOw ⊢
      have cs1 : wr.cell? ⟨w.heap.size + 1, 11, none⟩ = some (.slice a0 A.length ac) := HA5.out.a.cell rfl
      have fs1 : wr.frozen? ⟨w.heap.size + 1, 11, none⟩ = false := HA5.out.a.free 11
      obtain ⟨V1, hV1⟩ : ∃ W, wr.setCell ⟨w.heap.size + 1, 11, none⟩ (.slice none 0 0) = W := ⟨_, rfl⟩
      have HV1 : Hid (A5 w V1 wu.heap.size #[.int .i64 i0, .bool b1, .int .i64 i2, .bool b3, .bool b4, .bool b5, .bool b6, .bool b7, .bool b8, .int .i64 i9, .slice q0 Q.length qc, .slice none 0 0, .slice u0 U.length uc, .slice d0 D.length dc] #[.int .i64 0, .bool false, .int .i64 0, .bool false, .bool false, .bool false, .bool false, .bool false, .bool false, .int .i64 0, .slice none 0 0, .slice none 0 0, .slice none 0 0, .slice none 0 0] w2.heap.size #[.string xn, .bool xb, .int .i64 2, .int .i64 xt, .int .i64 xl, .string xd] wr0 #[.string qn, .int .i64 qt, .int .i64 ql]) := HA5.out.set hV1
      have HO1 := hide' (HA5.out.row HOw.out hV1)
      have cs2 : V1.cell? ⟨w.heap.size + 1, 12, none⟩ = some (.slice u0 U.length uc) := HV1.out.a.cell rfl
      have fs2 : V1.frozen? ⟨w.heap.size + 1, 12, none⟩ = false := HV1.out.a.free 12
      obtain ⟨V2, hV2⟩ : ∃ W, V1.setCell ⟨w.heap.size + 1, 12, none⟩ (.slice none 0 0) = W := ⟨_, rfl⟩
      have HV2 : Hid (A5 w V2 wu.heap.size #[.int .i64 i0, .bool b1, .int .i64 i2, .bool b3, .bool b4, .bool b5, .bool b6, .bool b7, .bool b8, .int .i64 i9, .slice q0 Q.length qc, .slice none 0 0, .slice none 0 0, .slice d0 D.length dc] #[.int .i64 0, .bool false, .int .i64 0, .bool false, .bool false, .bool false, .bool false, .bool false, .bool false, .int .i64 0, .slice none 0 0, .slice none 0 0, .slice none 0 0, .slice none 0 0] w2.heap.size #[.string xn, .bool xb, .int .i64 2, .int .i64 xt, .int .i64 xl, .string xd] wr0 #[.string qn, .int .i64 qt, .int .i64 ql]) := HV1.out.set hV2
      have HO2 := hide' (HV1.out.row HO1.out hV2)
      have cs3 : V2.cell? ⟨w.heap.size + 1, 13, none⟩ = some (.slice d0 D.length dc) := HV2.out.a.cell rfl
      have fs3 : V2.frozen? ⟨w.heap.size + 1, 13, none⟩ = false := HV2.out.a.free 13
      obtain ⟨V3, hV3⟩ : ∃ W, V2.setCell ⟨w.heap.size + 1, 13, none⟩ (.slice op (kp D).length oc) = W := ⟨_, rfl⟩
      have HV3 : Hid (A5 w V3 wu.heap.size #[.int .i64 i0, .bool b1, .int .i64 i2, .bool b3, .bool b4, .bool b5, .bool b6, .bool b7, .bool b8, .int .i64 i9, .slice q0 Q.length qc, .slice none 0 0, .slice none 0 0, .slice op (kp D).length oc] #[.int .i64 0, .bool false, .int .i64 0, .bool false, .bool false, .bool false, .bool false, .bool false, .bool false, .int .i64 0, .slice none 0 0, .slice none 0 0, .slice none 0 0, .slice none 0 0] w2.heap.size #[.string xn, .bool xb, .int .i64 2, .int .i64 xt, .int .i64 xl, .string xd] wr0 #[.string qn, .int .i64 qt, .int .i64 ql]) := HV2.out.set hV3
      have HO3 := hide' (HV2.out.row HO2.out hV3)
      have cs4 : V3.cell? ⟨w.heap.size + 1, 3, none⟩ = some (.bool b3) := HV3.out.a.cell rfl
      have fs4 : V3.frozen? ⟨w.heap.size + 1, 3, none⟩ = false := HV3.out.a.free 3
      obtain ⟨V4, hV4⟩ : ∃ W, V3.setCell ⟨w.heap.size + 1, 3, none⟩ (.bool false) = W := ⟨_, rfl⟩
      have HV4 : Hid (A5 w V4 wu.heap.size #[.int .i64 i0, .bool b1, .int .i64 i2, .bool false, .bool b4, .bool b5, .bool b6, .bool b7, .bool b8, .int .i64 i9, .slice q0 Q.length qc, .slice none 0 0, .slice none 0 0, .slice op (kp D).length oc] #[.int .i64 0, .bool false, .int .i64 0, .bool false, .bool false, .bool false, .bool false, .bool false, .bool false, .int .i64 0, .slice none 0 0, .slice none 0 0, .slice none 0 0, .slice none 0 0] w2.heap.size #[.string xn, .bool xb, .int .i64 2, .int .i64 xt, .int .i64 xl, .string xd] wr0 #[.string qn, .int .i64 qt, .int .i64 ql]) := HV3.out.set hV4
      have HO4 := hide' (HV3.out.row HO3.out hV4)
      have cs5 : V4.cell? ⟨w.heap.size + 1, 9, none⟩ = some (.int .i64 i9) := HV4.out.a.cell rfl
      have fs5 : V4.frozen? ⟨w.heap.size + 1, 9, none⟩ = false := HV4.out.a.free 9
      obtain ⟨V5, hV5⟩ : ∃ W, V4.setCell ⟨w.heap.size + 1, 9, none⟩ (.int .i64 0) = W := ⟨_, rfl⟩
      have HV5 : Hid (A5 w V5 wu.heap.size #[.int .i64 i0, .bool b1, .int .i64 i2, .bool false, .bool b4, .bool b5, .bool b6, .bool b7, .bool b8, .int .i64 0, .slice q0 Q.length qc, .slice none 0 0, .slice none 0 0, .slice op (kp D).length oc] #[.int .i64 0, .bool false, .int .i64 0, .bool false, .bool false, .bool false, .bool false, .bool false, .bool false, .int .i64 0, .slice none 0 0, .slice none 0 0, .slice none 0 0, .slice none 0 0] w2.heap.size #[.string xn, .bool xb, .int .i64 2, .int .i64 xt, .int .i64 xl, .string xd] wr0 #[.string qn, .int .i64 qt, .int .i64 ql]) := HV4.out.set hV5
      have HO5 := hide' (HV4.out.row HO4.out hV5)
      have cs6 : V5.cell? ⟨w.heap.size + 1, 9, none⟩ = some (.int .i64 0) := HV5.out.a.cell rfl
      have fs6 : V5.frozen? ⟨w.heap.size + 1, 9, none⟩ = false := HV5.out.a.free 9
      obtain ⟨V6, hV6⟩ : ∃ W, V5.setCell ⟨w.heap.size + 1, 9, none⟩ (.int .i64 3) = W := ⟨_, rfl⟩
      have HV6 : Hid (A5 w V6 wu.heap.size #[.int .i64 i0, .bool b1, .int .i64 i2, .bool false, .bool b4, .bool b5, .bool b6, .bool b7, .bool b8, .int .i64 3, .slice q0 Q.length qc, .slice none 0 0, .slice none 0 0, .slice op (kp D).length oc] #[.int .i64 0, .bool false, .int .i64 0, .bool false, .bool false, .bool false, .bool false, .bool false, .bool false, .int .i64 0, .slice none 0 0, .slice none 0 0, .slice none 0 0, .slice none 0 0] w2.heap.size #[.string xn, .bool xb, .int .i64 2, .int .i64 xt, .int .i64 xl, .string xd] wr0 #[.string qn, .int .i64 qt, .int .i64 ql]) := HV5.out.set hV6
      have HO6 := hide' (HV5.out.row HO5.out hV6)
      obtain ⟨uu0, uu1, uu2, uu3, uu4, uu5⟩ := bx6P HV6.out.u
      obtain ⟨wz0, wz1, wz2, wz3, wz4, wz5⟩ := bx6P HV5.out.u
      have qq0 : V6.cell? ⟨wr0, 0, none⟩ = some (.string qn) := HV6.out.q.cell rfl
      have qq1 : V6.cell? ⟨wr0, 1, none⟩ = some (.int .i64 qt) := HV6.out.q.cell rfl
      obtain ⟨s0, s1, s2, s3, s4, s5, s6, s7, s8, s9, s10, s11, s12, s13⟩ := bx14 HV6.out.a
      obtain ⟨r0, r1, r2, r3, r4, r5, r6, r7, r8, r9, r10, r11, r12, r13⟩ := bx14 HV6.out.r
      obtain ⟨f0, f1, f2, f3, f4, f5, f6, f7, f8, f9, f10, f11, f12, f13⟩ := bx14_free HV6.out.r
      obtain ⟨WZ, hWZ⟩ : ∃ W, set14 V6 (w.heap.size + 2) (.int .i64 i0) (.bool b1) (.int .i64 i2) (.bool false) (.bool b4) (.bool b5) (.bool b6) (.bool b7) (.bool b8) (.int .i64 3) (.slice q0 Q.length qc) (.slice none 0 0) (.slice none 0 0) (.slice op (kp D).length oc) = W := ⟨_, rfl⟩
      have HYZ : Hid (Bx WZ (w.heap.size + 2) #[.int .i64 i0, .bool b1, .int .i64 i2, .bool false, .bool b4, .bool b5, .bool b6, .bool b7, .bool b8, .int .i64 3, .slice q0 Q.length qc, .slice none 0 0, .slice none 0 0, .slice op (kp D).length oc] 27) := hWZ ▸ bx14_set HV6.out.r (.int .i64 i0) (.bool b1) (.int .i64 i2) (.bool false) (.bool b4) (.bool b5) (.bool b6) (.bool b7) (.bool b8) (.int .i64 3) (.slice q0 Q.length qc) (.slice none 0 0) (.slice none 0 0) (.slice op (kp D).length oc)
      have HBZ : Hid (Below w.heap.size w WZ) := hWZ ▸ below14 HV6.out.b (Nat.le_add_right _ _) HV6.out.b.size (.int .i64 i0) (.bool b1) (.int .i64 i2) (.bool false) (.bool b4) (.bool b5) (.bool b6) (.bool b7) (.bool b8) (.int .i64 3) (.slice q0 Q.length qc) (.slice none 0 0) (.slice none 0 0) (.slice op (kp D).length oc)
      have HGZ : Hid (V6.grownBy WZ (some (w.heap.size + 2))) := hWZ ▸ grown14 V6 (w.heap.size + 2) (.int .i64 i0) (.bool b1) (.int .i64 i2) (.bool false) (.bool b4) (.bool b5) (.bool b6) (.bool b7) (.bool b8) (.int .i64 3) (.slice q0 Q.length qc) (.slice none 0 0) (.slice none 0 0) (.slice op (kp D).length oc)
      have HOZ := hide' (own_keep HO6.out HGZ.out (fun q e => by injection e with e; have := HV6.out.n0; omega))
      unfold set14 at hWZ
      go_wp2_with fail
      obtain ⟨y0, y1, y2, y3, y4, y5, y6, y7, y8, y9, y10, y11, y12, y13⟩ := bx14 HYZ.out
      exact bodyPost_ret (v := .tuple #[.agg #[.int .i64 i0, .bool b1, .int .i64 i2, .bool false, .bool b4, .bool b5, .bool b6, .bool b7, .bool b8, .int .i64 3, .slice q0 Q.length qc, .slice none 0 0, .slice none 0 0, .slice op (kp D).length oc], .bool true]) (by simp [results, go_sem, y0, y1, y2, y3, y4, y5, y6, y7, y8, y9, y10, y11, y12, y13]) rfl ⟨q0, none, none, op, qc, 0, 0, oc, rfl, ⟨(HLs.out.below HBZ.out).q, (fun k hk => by cases hk), (fun k hk => by cases hk), rs_ownF HOZ.out rfl⟩, HBZ.out⟩
set_option maxRecDepth 100000 in
set_option maxHeartbeats 8000000 in
theorem rfilter_nodata (R : List Ru) (pr : Option Addr) (cr : Nat) (j0 j2 j9 : Int) (k1 k3 k4 k5 k6 k7 k8 : Bool) (r0 s0 t0 v0 : Option Addr) (rc sc tc vc : Nat) (P : List Qn) (Am Um Dm : List Rn) (i0 i2 i9 : Int) (b1 b3 b4 b5 b6 b7 b8 : Bool) (q0 a0 u0 d0 : Option Addr) (qc ac uc dc : Nat) (Q : List Qn) (A U D : List Rn) (qn : ByteArray) (qt ql : Int) (ii : Nat) (xn : ByteArray) (xb : Bool) (xt xl : Int) (xd : ByteArray) (w : World) (hP : QsAt w r0 P) (hl : LsAt w q0 a0 u0 d0 Q A U D) (hln : Q.length ≤ 1048576 ∧ A.length ≤ 1048576 ∧ U.length ≤ 1048576 ∧ D.length ≤ 1048576) (hA : RuAt w pr R) (hR : R.length ≤ 1048576) (hz : ∀ x ∈ R, x.n.size ≤ 1048576 ∧ x.d.size ≤ 1048576) (hp : P.length = 1) (hq : P[0]'(by omega) = ⟨qn, qt, ql⟩) (hqs : qn.size ≤ 1048576) (hii : ii < R.length) (hru : ruI R qn = (ii : Int)) (hx : R[ii]'hii = ⟨xn, xb, 3, xt, xl, xd⟩)  :
    Calls Tryz.prog 9 #[.slice pr R.length cr, .agg #[.int .i64 j0, .bool k1, .int .i64 j2, .bool k3, .bool k4, .bool k5, .bool k6, .bool k7, .bool k8, .int .i64 j9, .slice r0 P.length rc, .slice s0 Am.length sc, .slice t0 Um.length tc, .slice v0 Dm.length vc], .agg #[.int .i64 i0, .bool b1, .int .i64 i2, .bool b3, .bool b4, .bool b5, .bool b6, .bool b7, .bool b8, .int .i64 i9, .slice q0 Q.length qc, .slice a0 A.length ac, .slice u0 U.length uc, .slice d0 D.length dc]] w (RfE (bareM ⟨i0, b1, i2, b3, b4, b5, b6, b7, b8, i9, ⟨Q, A, U, D⟩, true⟩ 0 []) w) := by
  obtain ⟨wr, hwr⟩ : ∃ wr, ((w.alloc (.cells #[.int .i64 j0, .bool k1, .int .i64 j2, .bool k3, .bool k4, .bool k5, .bool k6, .bool k7, .bool k8, .int .i64 j9, .slice r0 P.length rc, .slice s0 Am.length sc, .slice t0 Um.length tc, .slice v0 Dm.length vc] 27)).alloc (.cells #[.int .i64 i0, .bool b1, .int .i64 i2, .bool b3, .bool b4, .bool b5, .bool b6, .bool b7, .bool b8, .int .i64 i9, .slice q0 Q.length qc, .slice a0 A.length ac, .slice u0 U.length uc, .slice d0 D.length dc] 27)).alloc (.cells #[.int .i64 0, .bool false, .int .i64 0, .bool false, .bool false, .bool false, .bool false, .bool false, .bool false, .int .i64 0, .slice none 0 0, .slice none 0 0, .slice none 0 0, .slice none 0 0] 27) = wr := ⟨_, rfl⟩
  have H0 : Hid (B3 w wr #[.int .i64 j0, .bool k1, .int .i64 j2, .bool k3, .bool k4, .bool k5, .bool k6, .bool k7, .bool k8, .int .i64 j9, .slice r0 P.length rc, .slice s0 Am.length sc, .slice t0 Um.length tc, .slice v0 Dm.length vc] #[.int .i64 i0, .bool b1, .int .i64 i2, .bool b3, .bool b4, .bool b5, .bool b6, .bool b7, .bool b8, .int .i64 i9, .slice q0 Q.length qc, .slice a0 A.length ac, .slice u0 U.length uc, .slice d0 D.length dc] #[.int .i64 0, .bool false, .int .i64 0, .bool false, .bool false, .bool false, .bool false, .bool false, .bool false, .int .i64 0, .slice none 0 0, .slice none 0 0, .slice none 0 0, .slice none 0 0]) := hwr ▸ B3.new w _ _ _
  have m10 : wr.cell? ⟨w.heap.size, 10, none⟩ = some (.slice r0 P.length rc) := H0.out.m.cell rfl
  have hp1 : ((P.length : Int) == 1) = true := by rw [beq_iff_eq]; omega
  obtain ⟨gq, oq, hpq, hgq, z0, z1, z2⟩ := hP 0 (by omega)
  subst hpq
  rw [Nat.zero_mul, Nat.add_zero] at z0 z1 z2
  have hpi : (0 : Int) < (P.length : Int) := by omega
  rw [hq] at z0 z1 z2
  simp only at z0 z1 z2
  have zr0 : wr.cell? ⟨gq, oq, none⟩ = some (.string qn) := (H0.out.b.cell (p := ⟨gq, oq, none⟩) hgq).trans z0
  have zr1 : wr.cell? ⟨gq, oq + 1, none⟩ = some (.int .i64 qt) := (H0.out.b.cell (p := ⟨gq, oq + 1, none⟩) hgq).trans z1
  have zr2 : wr.cell? ⟨gq, oq + 2, none⟩ = some (.int .i64 ql) := (H0.out.b.cell (p := ⟨gq, oq + 2, none⟩) hgq).trans z2
  obtain ⟨wq, hwq⟩ : ∃ W, wr.alloc (.cells #[.string qn, .int .i64 qt, .int .i64 ql] 52) = W := ⟨_, rfl⟩
  have HQB : Hid (Bx wq wr.heap.size #[.string qn, .int .i64 qt, .int .i64 ql] 52) := hwq ▸ World.alloc_heap_new wr _
  have H1 := hide' (H0.out.step (alloc_belF hwq))
  have q00 : wq.cell? ⟨wr.heap.size, 0, none⟩ = some (.string qn) := HQB.out.cell rfl
  have HRu : Hid (∀ V, Below w.heap.size w V → Calls Tryz.prog 6 #[.slice pr R.length cr, .string qn] V fun e w' => e = .returned (.int .i64 (ruI R qn)) ∧ Below V.heap.size V w') := fun V hV => refRule_any R pr cr qn V (by
    intro k hk
    obtain ⟨g, off, h1, h2, e0, e1, e2, e3, e4, e5⟩ := hA k hk
    have c := fun (j : Nat) => hV.cell (p := ⟨g, j, none⟩) h2
    exact ⟨g, off, h1, Nat.lt_of_lt_of_le h2 hV.size, (c _).trans e0, (c _).trans e1, (c _).trans e2, (c _).trans e3, (c _).trans e4, (c _).trans e5⟩) hR hz hqs
  have HRu2 : Hid (∀ V, Below w.heap.size w V → Calls Tryz.prog 6 #[.slice pr R.length cr, .string qn] V fun e w' => e = .returned (.int .i64 (ii : Int)) ∧ Below V.heap.size V w') := by
    rw [← hru]
    exact HRu
  have HA := hide' hA
  have hii' : (ii : Int) < (R.length : Int) := by omega
  have hi0 : (0 : Int) ≤ (ii : Int) := by omega
  have hnl : ¬ (ii : Int) < 0 := by omega
  obtain ⟨gr, og, hpr, hgr, -⟩ := hA ii hii
  subst hpr
  have HCe : Hid (∀ V, Below w.heap.size w V → V.cell? ⟨gr, og + ii * 6, none⟩ = some (.string xn) ∧ V.cell? ⟨gr, og + ii * 6 + 1, none⟩ = some (.bool xb) ∧ V.cell? ⟨gr, og + ii * 6 + 2, none⟩ = some (.int .i64 3) ∧ V.cell? ⟨gr, og + ii * 6 + 3, none⟩ = some (.int .i64 xt) ∧ V.cell? ⟨gr, og + ii * 6 + 4, none⟩ = some (.int .i64 xl) ∧ V.cell? ⟨gr, og + ii * 6 + 5, none⟩ = some (.string xd)) := fun V hV => by
    obtain ⟨g, off, h1, h2, e0, e1, e2, e3, e4, e5⟩ := HA.out ii hii
    injection h1 with h1
    injection h1 with g1 g2
    subst g1 g2
    rw [hx] at e0 e1 e2 e3 e4 e5
    have c := fun (j : Nat) => hV.cell (p := ⟨gr, j, none⟩) h2
    exact ⟨(c _).trans e0, (c _).trans e1, (c _).trans e2, (c _).trans e3, (c _).trans e4, (c _).trans e5⟩
  clear HRu
  have hnd : decide ((ii : Int) < 0) = false := decide_eq_false hnl
  have HLs := hide' hl
  have hDl := hln.2.2.2
  have HWR : Hid (w.heap.size + 2 < wr.heap.size) := H0.out.z
  clear hl hln hA hz hP z0 z1 z2 hp hq hgq hx hru
  go_enter Tryz.func9, Tryz.ntmps9
  go_wp2_with (go_at_call 6; (with_reducible refine (HRu2.out _ H1.out.b).mono ?_); rintro e w2 ⟨rfl, hB⟩; have H2 := hide' (H1.out.step hB); obtain ⟨c0, c1', c2, c3, c4, c5⟩ := HCe.out _ H2.out.b; obtain ⟨wu, hwu⟩ : ∃ W, w2.alloc (.cells #[.string xn, .bool xb, .int .i64 3, .int .i64 xt, .int .i64 xl, .string xd] 45) = W := ⟨_, rfl⟩; have HUB : Hid (Bx wu w2.heap.size #[.string xn, .bool xb, .int .i64 3, .int .i64 xt, .int .i64 xl, .string xd] 45) := (hwu ▸ World.alloc_heap_new w2 _); have HQ2 := hide' ((HQB.out.below hB HQB.out.lt).below (alloc_belF hwu) (HQB.out.below hB HQB.out.lt).lt); have H3 := hide' (H2.out.step (alloc_belF hwu)); have u2 : wu.cell? ⟨w2.heap.size, 2, none⟩ = some (.int .i64 3) := HUB.out.cell rfl; have H5 : Hid (A5 w wu wu.heap.size #[.int .i64 i0, .bool b1, .int .i64 i2, .bool b3, .bool b4, .bool b5, .bool b6, .bool b7, .bool b8, .int .i64 i9, .slice q0 Q.length qc, .slice a0 A.length ac, .slice u0 U.length uc, .slice d0 D.length dc] #[.int .i64 0, .bool false, .int .i64 0, .bool false, .bool false, .bool false, .bool false, .bool false, .bool false, .int .i64 0, .slice none 0 0, .slice none 0 0, .slice none 0 0, .slice none 0 0] w2.heap.size #[.string xn, .bool xb, .int .i64 3, .int .i64 xt, .int .i64 xl, .string xd] wr.heap.size #[.string qn, .int .i64 qt, .int .i64 ql]) := ⟨H3.out.a, H3.out.r, HUB.out, HQ2.out, H3.out.b, (by have := H3.out.z; have := HUB.out.lt; have := H2.out.z; omega), HUB.out.lt, HQ2.out.lt, Nat.le_refl _, H2.out.z, HWR.out⟩; have x13' : wu.cell? ⟨w.heap.size + 1, 13, none⟩ = some (.slice d0 D.length dc) := H5.out.a.cell rfl; clear hB)
  clear hwu x13' hwq
  obtain ⟨wr0, hwr0⟩ : ∃ z, wr.heap.size = z := ⟨_, rfl⟩
  rw [hwr0] at H5
  try rw [hwr0]
  go_loopw [11, 49] (fun ov kv wv => ∃ (k : Nat) (op : Option Addr) (oc : Nat), kv = .int .i64 (k : Int) ∧ k ≤ D.length ∧ ov = .slice op (kp (D.take k)).length oc ∧ Hid (wv.ownsRow wu.heap.size 55 5 (.slice op (kp (D.take k)).length oc) (kp (D.take k)).length (rce5 (kp (D.take k)))) ∧ Hid (A5 w wv wu.heap.size #[.int .i64 i0, .bool b1, .int .i64 i2, .bool b3, .bool b4, .bool b5, .bool b6, .bool b7, .bool b8, .int .i64 i9, .slice q0 Q.length qc, .slice a0 A.length ac, .slice u0 U.length uc, .slice d0 D.length dc] #[.int .i64 0, .bool false, .int .i64 0, .bool false, .bool false, .bool false, .bool false, .bool false, .bool false, .int .i64 0, .slice none 0 0, .slice none 0 0, .slice none 0 0, .slice none 0 0] w2.heap.size #[.string xn, .bool xb, .int .i64 3, .int .i64 xt, .int .i64 xl, .string xd] wr0 #[.string qn, .int .i64 qt, .int .i64 ql])) (fun _ kv _ => D.length - (intOf kv).toNat)
  case atStart => exact ⟨0, none, 0, rfl, Nat.zero_le _, rfl, World.ownsRow_nil _ _ _ _, H5⟩
  case round =>
    clear H5
    obtain ⟨k, op, oc, rfl, hk, rfl, HOw, HA5⟩ := hrel
    by_cases hlt : k < D.length
    · have pk : (k : Int) < (D.length : Int) := by omega
      have pk0 : (0 : Int) ≤ (k : Int) := by omega
      obtain ⟨g, off, rfl, hg, e0, e1, e2, e3, e4⟩ := (HLs.out.below HA5.out.b).d k hlt
      have HKs := hide' (kp_succ hlt)
      have hkl : (kp (D.take k)).length ≤ 1048576 := by have := kp_le (D.take k); rw [List.length_take] at this; omega
      obtain ⟨x, hxx⟩ : ∃ x, D[k] = x := ⟨_, rfl⟩
      rw [hxx] at e0 e1 e2 e3 e4 HKs
      clear hxx
      obtain ⟨yo, yt, yc, yl, yd⟩ := x
      simp only at e0 e1 e2 e3 e4 HKs
      obtain ⟨E, hE⟩ : ∃ E, kp (D.take k) = E := ⟨_, rfl⟩
      rw [hE] at HKs HOw hkl ⊢
      clear hE
      obtain ⟨wx, hwx⟩ : ∃ W, wr.alloc (.cells #[.string yo, .int .i64 yt, .int .i64 yc, .int .i64 yl, .string yd] 55) = W := ⟨_, rfl⟩
      have HXB : Hid (Bx wx wr.heap.size #[.string yo, .int .i64 yt, .int .i64 yc, .int .i64 yl, .string yd] 55) := hwx ▸ World.alloc_heap_new wr _
      have HAx := hide' (HA5.out.step (alloc_belF hwx))
      have HOx := hide' (own_below HOw.out (alloc_belF hwx))
      have g0 : wx.cell? ⟨wr.heap.size, 0, none⟩ = some (.string yo) := HXB.out.cell rfl
      have g1 : wx.cell? ⟨wr.heap.size, 1, none⟩ = some (.int .i64 yt) := HXB.out.cell rfl
      have g2 : wx.cell? ⟨wr.heap.size, 2, none⟩ = some (.int .i64 yc) := HXB.out.cell rfl
      have g3 : wx.cell? ⟨wr.heap.size, 3, none⟩ = some (.int .i64 yl) := HXB.out.cell rfl
      have g4 : wx.cell? ⟨wr.heap.size, 4, none⟩ = some (.string yd) := HXB.out.cell rfl
      by_cases h41 : yt = 41
      · subst h41
        rw [if_pos rfl] at HKs
        obtain ⟨wy, hwy⟩ : ∃ W, wx.alloc (.cells #[.string yo, .int .i64 41, .int .i64 yc, .int .i64 yl, .string yd] 55) = W := ⟨_, rfl⟩
        have HAy := hide' (HAx.out.step (alloc_belF hwy))
        have HOy := hide' (own_below HOx.out (alloc_belF hwy))
        have HRy : Hid (RsAt wy (some ⟨wx.heap.size, 0, none⟩) [⟨yo, 41, yc, yl, yd⟩]) := by
          intro k hk
          obtain rfl : k = 0 := by simpa using hk
          have hb : Bx wy wx.heap.size #[.string yo, .int .i64 41, .int .i64 yc, .int .i64 yl, .string yd] 55 := hwy ▸ World.alloc_heap_new wx _
          exact ⟨_, 0, rfl, hb.lt, hb.cell rfl, hb.cell rfl, hb.cell rfl, hb.cell rfl, hb.cell rfl⟩
        go_wp2_with (at_builtin; refine wpList_append_recsM rfl _ _ rfl wu.heap.size _ E.length (rce5 E) rfl HOy.out (some ⟨wx.heap.size, 0, none⟩) [⟨yo, 41, yc, yl, yd⟩] 1 rfl HRy.out (fun h => absurd h (Option.some_ne_none _)) (by simp only [List.length_singleton]; omega) HAy.out.nz ?_; intro v9 w9 ho9 hg9; have HA9 := hide' (HAy.out.grown hg9 (fun q e => ownBlock_le HOy.out e)); have ho9' := own_snocF ho9; obtain ⟨p9, c9, hv9, -⟩ := own_shape ho9'; subst hv9; have HO9 := hide' ho9'; clear ho9 ho9' hg9)
        exact ⟨⟨k + 1, p9, c9, by go_num, by omega, by first | (rw [HKs.out]; rfl) | (rw [HKs.out, List.length_append]; rfl) | (rw [HKs.out]; simp), by rw [HKs.out]; exact HO9, HA9⟩, by simp [intOf]; omega⟩
      · rw [if_neg h41, List.append_nil] at HKs
        have h41b : (yt == 41) = false := by rw [beq_eq_false_iff_ne]; exact h41
        go_wp2_with fail
        exact ⟨⟨k + 1, op, oc, by go_num, by omega, by rw [HKs.out], by rw [HKs.out]; exact HOx, HAx⟩, by simp [intOf]; omega⟩
    · obtain rfl : k = D.length := by omega
      rw [List.take_length] at HOw ⊢
      have cs1 : wr.cell? ⟨w.heap.size + 1, 11, none⟩ = some (.slice a0 A.length ac) := HA5.out.a.cell rfl
      have fs1 : wr.frozen? ⟨w.heap.size + 1, 11, none⟩ = false := HA5.out.a.free 11
      obtain ⟨V1, hV1⟩ : ∃ W, wr.setCell ⟨w.heap.size + 1, 11, none⟩ (.slice none 0 0) = W := ⟨_, rfl⟩
      have HV1 : Hid (A5 w V1 wu.heap.size #[.int .i64 i0, .bool b1, .int .i64 i2, .bool b3, .bool b4, .bool b5, .bool b6, .bool b7, .bool b8, .int .i64 i9, .slice q0 Q.length qc, .slice none 0 0, .slice u0 U.length uc, .slice d0 D.length dc] #[.int .i64 0, .bool false, .int .i64 0, .bool false, .bool false, .bool false, .bool false, .bool false, .bool false, .int .i64 0, .slice none 0 0, .slice none 0 0, .slice none 0 0, .slice none 0 0] w2.heap.size #[.string xn, .bool xb, .int .i64 3, .int .i64 xt, .int .i64 xl, .string xd] wr0 #[.string qn, .int .i64 qt, .int .i64 ql]) := HA5.out.set hV1
      have HO1 := hide' (HA5.out.row HOw.out hV1)
      have cs2 : V1.cell? ⟨w.heap.size + 1, 12, none⟩ = some (.slice u0 U.length uc) := HV1.out.a.cell rfl
      have fs2 : V1.frozen? ⟨w.heap.size + 1, 12, none⟩ = false := HV1.out.a.free 12
      obtain ⟨V2, hV2⟩ : ∃ W, V1.setCell ⟨w.heap.size + 1, 12, none⟩ (.slice none 0 0) = W := ⟨_, rfl⟩
      have HV2 : Hid (A5 w V2 wu.heap.size #[.int .i64 i0, .bool b1, .int .i64 i2, .bool b3, .bool b4, .bool b5, .bool b6, .bool b7, .bool b8, .int .i64 i9, .slice q0 Q.length qc, .slice none 0 0, .slice none 0 0, .slice d0 D.length dc] #[.int .i64 0, .bool false, .int .i64 0, .bool false, .bool false, .bool false, .bool false, .bool false, .bool false, .int .i64 0, .slice none 0 0, .slice none 0 0, .slice none 0 0, .slice none 0 0] w2.heap.size #[.string xn, .bool xb, .int .i64 3, .int .i64 xt, .int .i64 xl, .string xd] wr0 #[.string qn, .int .i64 qt, .int .i64 ql]) := HV1.out.set hV2
      have HO2 := hide' (HV1.out.row HO1.out hV2)
      have cs3 : V2.cell? ⟨w.heap.size + 1, 13, none⟩ = some (.slice d0 D.length dc) := HV2.out.a.cell rfl
      have fs3 : V2.frozen? ⟨w.heap.size + 1, 13, none⟩ = false := HV2.out.a.free 13
      obtain ⟨V3, hV3⟩ : ∃ W, V2.setCell ⟨w.heap.size + 1, 13, none⟩ (.slice op (kp D).length oc) = W := ⟨_, rfl⟩
      have HV3 : Hid (A5 w V3 wu.heap.size #[.int .i64 i0, .bool b1, .int .i64 i2, .bool b3, .bool b4, .bool b5, .bool b6, .bool b7, .bool b8, .int .i64 i9, .slice q0 Q.length qc, .slice none 0 0, .slice none 0 0, .slice op (kp D).length oc] #[.int .i64 0, .bool false, .int .i64 0, .bool false, .bool false, .bool false, .bool false, .bool false, .bool false, .int .i64 0, .slice none 0 0, .slice none 0 0, .slice none 0 0, .slice none 0 0] w2.heap.size #[.string xn, .bool xb, .int .i64 3, .int .i64 xt, .int .i64 xl, .string xd] wr0 #[.string qn, .int .i64 qt, .int .i64 ql]) := HV2.out.set hV3
      have HO3 := hide' (HV2.out.row HO2.out hV3)
      have cs4 : V3.cell? ⟨w.heap.size + 1, 3, none⟩ = some (.bool b3) := HV3.out.a.cell rfl
      have fs4 : V3.frozen? ⟨w.heap.size + 1, 3, none⟩ = false := HV3.out.a.free 3
      obtain ⟨V4, hV4⟩ : ∃ W, V3.setCell ⟨w.heap.size + 1, 3, none⟩ (.bool false) = W := ⟨_, rfl⟩
      have HV4 : Hid (A5 w V4 wu.heap.size #[.int .i64 i0, .bool b1, .int .i64 i2, .bool false, .bool b4, .bool b5, .bool b6, .bool b7, .bool b8, .int .i64 i9, .slice q0 Q.length qc, .slice none 0 0, .slice none 0 0, .slice op (kp D).length oc] #[.int .i64 0, .bool false, .int .i64 0, .bool false, .bool false, .bool false, .bool false, .bool false, .bool false, .int .i64 0, .slice none 0 0, .slice none 0 0, .slice none 0 0, .slice none 0 0] w2.heap.size #[.string xn, .bool xb, .int .i64 3, .int .i64 xt, .int .i64 xl, .string xd] wr0 #[.string qn, .int .i64 qt, .int .i64 ql]) := HV3.out.set hV4
      have HO4 := hide' (HV3.out.row HO3.out hV4)
      have cs5 : V4.cell? ⟨w.heap.size + 1, 9, none⟩ = some (.int .i64 i9) := HV4.out.a.cell rfl
      have fs5 : V4.frozen? ⟨w.heap.size + 1, 9, none⟩ = false := HV4.out.a.free 9
      obtain ⟨V5, hV5⟩ : ∃ W, V4.setCell ⟨w.heap.size + 1, 9, none⟩ (.int .i64 0) = W := ⟨_, rfl⟩
      have HV5 : Hid (A5 w V5 wu.heap.size #[.int .i64 i0, .bool b1, .int .i64 i2, .bool false, .bool b4, .bool b5, .bool b6, .bool b7, .bool b8, .int .i64 0, .slice q0 Q.length qc, .slice none 0 0, .slice none 0 0, .slice op (kp D).length oc] #[.int .i64 0, .bool false, .int .i64 0, .bool false, .bool false, .bool false, .bool false, .bool false, .bool false, .int .i64 0, .slice none 0 0, .slice none 0 0, .slice none 0 0, .slice none 0 0] w2.heap.size #[.string xn, .bool xb, .int .i64 3, .int .i64 xt, .int .i64 xl, .string xd] wr0 #[.string qn, .int .i64 qt, .int .i64 ql]) := HV4.out.set hV5
      have HO5 := hide' (HV4.out.row HO4.out hV5)
      obtain ⟨uu0, uu1, uu2, uu3, uu4, uu5⟩ := bx6P HV5.out.u
      have qq0 : V5.cell? ⟨wr0, 0, none⟩ = some (.string qn) := HV5.out.q.cell rfl
      have qq1 : V5.cell? ⟨wr0, 1, none⟩ = some (.int .i64 qt) := HV5.out.q.cell rfl
      obtain ⟨s0, s1, s2, s3, s4, s5, s6, s7, s8, s9, s10, s11, s12, s13⟩ := bx14 HV5.out.a
      obtain ⟨r0, r1, r2, r3, r4, r5, r6, r7, r8, r9, r10, r11, r12, r13⟩ := bx14 HV5.out.r
      obtain ⟨f0, f1, f2, f3, f4, f5, f6, f7, f8, f9, f10, f11, f12, f13⟩ := bx14_free HV5.out.r
      obtain ⟨WZ, hWZ⟩ : ∃ W, set14 V5 (w.heap.size + 2) (.int .i64 i0) (.bool b1) (.int .i64 i2) (.bool false) (.bool b4) (.bool b5) (.bool b6) (.bool b7) (.bool b8) (.int .i64 0) (.slice q0 Q.length qc) (.slice none 0 0) (.slice none 0 0) (.slice op (kp D).length oc) = W := ⟨_, rfl⟩
      have HYZ : Hid (Bx WZ (w.heap.size + 2) #[.int .i64 i0, .bool b1, .int .i64 i2, .bool false, .bool b4, .bool b5, .bool b6, .bool b7, .bool b8, .int .i64 0, .slice q0 Q.length qc, .slice none 0 0, .slice none 0 0, .slice op (kp D).length oc] 27) := hWZ ▸ bx14_set HV5.out.r (.int .i64 i0) (.bool b1) (.int .i64 i2) (.bool false) (.bool b4) (.bool b5) (.bool b6) (.bool b7) (.bool b8) (.int .i64 0) (.slice q0 Q.length qc) (.slice none 0 0) (.slice none 0 0) (.slice op (kp D).length oc)
      have HBZ : Hid (Below w.heap.size w WZ) := hWZ ▸ below14 HV5.out.b (Nat.le_add_right _ _) HV5.out.b.size (.int .i64 i0) (.bool b1) (.int .i64 i2) (.bool false) (.bool b4) (.bool b5) (.bool b6) (.bool b7) (.bool b8) (.int .i64 0) (.slice q0 Q.length qc) (.slice none 0 0) (.slice none 0 0) (.slice op (kp D).length oc)
      have HGZ : Hid (V5.grownBy WZ (some (w.heap.size + 2))) := hWZ ▸ grown14 V5 (w.heap.size + 2) (.int .i64 i0) (.bool b1) (.int .i64 i2) (.bool false) (.bool b4) (.bool b5) (.bool b6) (.bool b7) (.bool b8) (.int .i64 0) (.slice q0 Q.length qc) (.slice none 0 0) (.slice none 0 0) (.slice op (kp D).length oc)
      have HOZ := hide' (own_keep HO5.out HGZ.out (fun q e => by injection e with e; have := HV5.out.n0; omega))
      unfold set14 at hWZ
      go_wp2_with fail
      obtain ⟨y0, y1, y2, y3, y4, y5, y6, y7, y8, y9, y10, y11, y12, y13⟩ := bx14 HYZ.out
      exact bodyPost_ret (v := .tuple #[.agg #[.int .i64 i0, .bool b1, .int .i64 i2, .bool false, .bool b4, .bool b5, .bool b6, .bool b7, .bool b8, .int .i64 0, .slice q0 Q.length qc, .slice none 0 0, .slice none 0 0, .slice op (kp D).length oc], .bool true]) (by simp [results, go_sem, y0, y1, y2, y3, y4, y5, y6, y7, y8, y9, y10, y11, y12, y13]) rfl ⟨q0, none, none, op, qc, 0, 0, oc, rfl, ⟨(HLs.out.below HBZ.out).q, (fun k hk => by cases hk), (fun k hk => by cases hk), rs_ownF HOZ.out rfl⟩, HBZ.out⟩
end Go.Proofs.YtligjbcinahgdaaGreat
