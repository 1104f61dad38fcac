import Derived.Test.YtnnmgcdhidmmeaaWr7
namespace Go.Proofs.Ytnnmgcdhidmmeaa
set_option linter.unusedVariables false
open Go.RowKit Go.Shelf Go.Proofs.Ytnnmgcdhidmmeaa.Nm

set_option maxRecDepth 100000 in
set_option maxHeartbeats 200000000 in
/-- gazetteerref2.UnpackMessage, with a head -/
theorem refUnpack_head (b o cap : Nat) (B : ByteArray) (w : World) (hB : Lib.Bytes w b o B) (hb : b < w.heap.size) (h12 : 12 ≤ B.size) (hS : B.size ≤ 65535) (hc : B.size ≤ cap) (hs : sg (be B 2 2) 6 = false) :
    Calls Try.prog 5 #[.slice (some ⟨b, o, none⟩) B.size cap] w (upEnd B w) := by
  obtain ⟨wa, hwa⟩ : ∃ wa, w.alloc (.cells #[.int .i64 0, .bool false, .int .i64 0, .bool false, .bool false, .bool false, .bool false, .bool false, .bool false, .int .i64 0, .slice none 0 0, .slice none 0 0, .slice none 0 0, .slice none 0 0] 26) = wa := ⟨_, rfl⟩
  obtain ⟨wb, hwb⟩ : ∃ wb, wa.alloc (.cells #[.int .i64 0, .bool false, .int .i64 0, .bool false, .bool false, .bool false, .bool false, .bool false, .bool false, .int .i64 0, .slice none 0 0, .slice none 0 0, .slice none 0 0, .slice none 0 0] 26) = wb := ⟨_, rfl⟩
  obtain ⟨wc, hwc⟩ : ∃ wc, wb.alloc (.cells #[.int .i64 0, .bool false, .int .i64 0, .bool false, .bool false, .bool false, .bool false, .bool false, .bool false, .int .i64 0, .slice none 0 0, .slice none 0 0, .slice none 0 0, .slice none 0 0] 26) = wc := ⟨_, rfl⟩
  have H0 : Hid (Um w wc wa.heap.size wb.heap.size) := by
    have hza : wa.heap.size = w.heap.size + 1 := by rw [← hwa]; simp
    have hzb : wb.heap.size = w.heap.size + 2 := by rw [← hwb]; simp [hza]
    have h1 : Bx wa w.heap.size #[.int .i64 0, .bool false, .int .i64 0, .bool false, .bool false, .bool false, .bool false, .bool false, .bool false, .int .i64 0, .slice none 0 0, .slice none 0 0, .slice none 0 0, .slice none 0 0] 26 := hwa ▸ World.alloc_heap_new w _
    have h2 : Bx wb wa.heap.size #[.int .i64 0, .bool false, .int .i64 0, .bool false, .bool false, .bool false, .bool false, .bool false, .bool false, .int .i64 0, .slice none 0 0, .slice none 0 0, .slice none 0 0, .slice none 0 0] 26 := hwb ▸ World.alloc_heap_new wa _
    have h3 : Bx wc wb.heap.size #[.int .i64 0, .bool false, .int .i64 0, .bool false, .bool false, .bool false, .bool false, .bool false, .bool false, .int .i64 0, .slice none 0 0, .slice none 0 0, .slice none 0 0, .slice none 0 0] 26 := hwc ▸ World.alloc_heap_new wb _
    have g2 : wa.grownBy wb none := hwb ▸ World.grownBy_alloc _ _ _
    have g3 : wb.grownBy wc none := hwc ▸ World.grownBy_alloc _ _ _
    refine ⟨(h1.grown g2 (by simp)).grown g3 (by simp), h3, ?_, by omega, by omega⟩
    rw [← hwc, ← hwb, ← hwa]; exact (((Below.refl _ w).alloc (Nat.le_refl _) _).alloc (by simp) _).alloc (by simp; omega) _
  have HMx : Hid (Bx wc wa.heap.size #[.int .i64 0, .bool false, .int .i64 0, .bool false, .bool false, .bool false, .bool false, .bool false, .bool false, .int .i64 0, .slice none 0 0, .slice none 0 0, .slice none 0 0, .slice none 0 0] 26) := by
    have h2 : Bx wb wa.heap.size #[.int .i64 0, .bool false, .int .i64 0, .bool false, .bool false, .bool false, .bool false, .bool false, .bool false, .int .i64 0, .slice none 0 0, .slice none 0 0, .slice none 0 0, .slice none 0 0] 26 := hwb ▸ World.alloc_heap_new wa _
    exact hwc ▸ h2.grown (World.grownBy_alloc wb _ none) (by simp)
  have HX : Hid (upk B = parts4 B) := by unfold Hid upk; rw [if_neg (by omega), if_neg (by omega), if_neg (by rw [hs]; decide)]
  obtain ⟨v, hv⟩ : ∃ v, be B 2 2 = v := ⟨_, rfl⟩
  have HV := hide' hv
  have hvl : v < 65536 := hv ▸ be2_lt _ _
  have hbit : (((v : Int) / 64 % 2) == 1) = false := by
    rw [hv] at hs; have := of_decide_eq_false hs; rw [beq_eq_false_iff_ne]; simp at this; omega
  have hb15 : (((v : Int) / 32768) == 1) = sg v 15 := by rw [Bool.eq_iff_iff, beq_iff_eq]; unfold sg; rw [decide_eq_true_iff]; simp; omega
  have hb10 : (((v : Int) / 1024 % 2) == 1) = sg v 10 := by rw [Bool.eq_iff_iff, beq_iff_eq]; unfold sg; rw [decide_eq_true_iff]; simp; omega
  have hb9 : (((v : Int) / 512 % 2) == 1) = sg v 9 := by rw [Bool.eq_iff_iff, beq_iff_eq]; unfold sg; rw [decide_eq_true_iff]; simp; omega
  have hb8 : (((v : Int) / 256 % 2) == 1) = sg v 8 := by rw [Bool.eq_iff_iff, beq_iff_eq]; unfold sg; rw [decide_eq_true_iff]; simp; omega
  have hb7 : (((v : Int) / 128 % 2) == 1) = sg v 7 := by rw [Bool.eq_iff_iff, beq_iff_eq]; unfold sg; rw [decide_eq_true_iff]; simp; omega
  have hb5 : (((v : Int) / 32 % 2) == 1) = sg v 5 := by rw [Bool.eq_iff_iff, beq_iff_eq]; unfold sg; rw [decide_eq_true_iff]; simp; omega
  have hb4 : (((v : Int) / 16 % 2) == 1) = sg v 4 := by rw [Bool.eq_iff_iff, beq_iff_eq]; unfold sg; rw [decide_eq_true_iff]; simp; omega
  obtain ⟨op, hop, HOP⟩ : ∃ op : Nat, (v : Int) / 2048 % 16 = (op : Int) ∧ Hid (v / 2048 % 16 = op) := ⟨v / 2048 % 16, by simp, rfl⟩
  obtain ⟨rc, hrc, HRC⟩ : ∃ rc : Nat, (v : Int) % 16 = (rc : Int) ∧ Hid (v % 16 = rc) := ⟨v % 16, by simp, rfl⟩
  obtain ⟨id, hid⟩ : ∃ v, be B 0 2 = v := ⟨_, rfl⟩
  have HID := hide' hid
  obtain ⟨cq, hcq⟩ : ∃ v, be B 4 2 = v := ⟨_, rfl⟩
  have HN2 := hide' (fun (W : World) => refValue_win B 2 2 W (by omega) (by omega))
  have HN0 := hide' (fun (W : World) => refValue_win B 0 2 W (by omega) (by omega))
  have HN4 := hide' (fun (W : World) => refValue_win B 4 2 W (by omega) (by omega))
  rw [hv] at HN2
  rw [hid] at HN0
  rw [hcq] at HN4
  have hcql : cq < 65536 := hcq ▸ be2_lt _ _
  have HP := hide' (parts4_eq B)
  rw [hcq] at HP
  have hby : Lib.Bytes wc b o B := hB.blk (H0.out.bl.block b hb)
  have hcv2 := conv_win (W := wc) (c := cap - 2) (n := 2) (l := 2) (x := o + 2) hby (fun _ => rfl) (by omega)
  have hcv0 := conv_win (W := wc) (c := cap) (n := 2) (l := 0) (x := o) hby (fun _ => rfl) (by omega)
  obtain ⟨m0, m1, m2, m3, m4, m5, m6, m7, m8, m9, m10, m11, m12, m13⟩ := bx14 HMx.out
  obtain ⟨f0, f1, f2, f3, f4, f5, f6, f7, f8, f9, f10, f11, f12, f13⟩ := bx14_free HMx.out
  have HS0 : Hid (Us w (set10 wc wa.heap.size id op rc v) wa.heap.size wb.heap.size wc.heap.size b o B id op rc v (.slice none 0 0) (.slice none 0 0) (.slice none 0 0) (.slice none 0 0) ⟨[], [], [], []⟩) := by
    have e1 := H0.out.hM
    have e2 := H0.out.hN
    exact ⟨um10 _ _ _ _ H0.out, bx10_set _ _ _ _ HMx.out, ⟨World.ownsRow_nil _ _ _ _, World.ownsRow_nil _ _ _ _, World.ownsRow_nil _ _ _ _, World.ownsRow_nil _ _ _ _, apart_nil _, apart_nil _, apart_nil _, apart_nil _, apart_nil _, apart_nil _⟩, hby.blk (block10 _ _ _ _ _ _ b (by omega)), H0.out.n.lt, by rw [size10]; exact Nat.le_refl _, hb⟩
  clear hv hid hcq hs hby hB
  go_enter Try.func5, Try.ntmps5
  have FT1 : Hid True := trivial
  go_wp2_with (first
    | (go_at_call 12; have _ := FT1; clear FT1; refine (HN2.out _).mono ?_; rintro e w1 ⟨rfl, h1⟩; have h1' := h1.symm; subst h1')
    | (go_at_call 12; refine (HN0.out _).mono ?_; rintro e w1 ⟨rfl, h1⟩; have h1' := h1.symm; subst h1'))
  clear hwa hwb hwc m0 m1 m2 m3 m4 m5 m6 m7 m8 m9 m10 m11 m12 m13 f0 f1 f2 f3 f4 f5 f6 f7 f8 f9 f10 f11 f12 f13 hcv2 hcv0 hbit hb15 hb10 hb9 hb8 hb7 hb5 hb4 hop hrc HMx H0 HN2 HN0
  go_loopw [8, 9] (fun av kv wr => ∃ (j k' : Nat) (L : List Qn) (vq : Value), kv = .int .i64 (j : Int) ∧ av = .int .i64 (k' : Int) ∧ j ≤ cq ∧ k' ≤ B.size ∧ Hid (L.length = j) ∧ Hid (Us w wr wa.heap.size wb.heap.size wc.heap.size b o B id op rc v vq (.slice none 0 0) (.slice none 0 0) (.slice none 0 0) ⟨L, [], [], []⟩) ∧ Hid (qs B cq 12 [] = qs B (cq - j) k' L)) (fun _ kv _ => cq - (intOf kv).toNat)
  case atStart => exact ⟨0, 12, [], _, rfl, rfl, Nat.zero_le _, h12, rfl, HS0, rfl⟩
  case round =>
    clear HS0
    obtain ⟨j, k', L, vq, rfl, rfl, hj, hk', HLN, H, HR⟩ := hrel
    have hby := H.out.by_
    have hcv4 := conv_win (W := wr) (c := cap - 4) (n := 2) (l := 4) (x := o + 4) hby (fun _ => rfl) (by omega)
    by_cases hlt : j < cq
    · have HRn := hide' (refReadName_any b o cap B k' k' B.size 10 0 wr hby hk' (Nat.le_refl _) hS hc hk' (.inr rfl) (by omega))
      obtain ⟨mm, hm⟩ : ∃ m, cq - j = m + 1 := ⟨cq - j - 1, by omega⟩
      have HM := hide' hm
      clear hm
      cases hr : rn B k' k' B.size 10 0 with
      | error x =>
        have HQ : Hid (upk B = .error (x, k')) := by
          unfold Hid; rw [HX.out, HP.out, HR.out, HM.out, qs]; unfold qr; rw [hr]
        have hxx := rn_err _ _ _ _ _ _ hr
        have hx0 : ((x : Int) == 0) = false := by rw [beq_eq_false_iff_ne]; omega
        have hx1 : ((x : Int) != 0) = true := by rw [bne_iff_ne]; omega
        rw [hr] at HRn
        clear hxx
        obtain ⟨r0, r1, r2, r3, r4, r5, r6, r7, r8, r9, r10, r11, r12, r13⟩ := bx14 H.out.um.r; obtain ⟨f0, f1, f2, f3, f4, f5, f6, f7, f8, f9, f10, f11, f12, f13⟩ := bx14_free H.out.um.r; obtain ⟨m0, m1, m2, m3, m4, m5, m6, m7, m8, m9, m10, m11, m12, m13⟩ := bx14 H.out.um.n
        go_wp2_with (first
          | (go_at_call 12; refine (HN4.out _).mono ?_; rintro e w1 ⟨rfl, h1⟩; have h1' := h1.symm; subst h1')
          | (go_at_call 13; refine HRn.out.mono ?_; rintro e w4 ⟨⟨zz, rfl⟩, h4⟩; have h4' := h4.symm; subst h4'))
        obtain ⟨q0, q1, q2, q3, q4, q5, q6, q7, q8, q9, q10, q11, q12, q13⟩ := bx14 (bx14_set H.out.um.r (.int .i64 0) (.bool false) (.int .i64 0) (.bool false) (.bool false) (.bool false) (.bool false) (.bool false) (.bool false) (.int .i64 0) (.slice none 0 0) (.slice none 0 0) (.slice none 0 0) (.slice none 0 0))
        unfold set14 at q0 q1 q2 q3 q4 q5 q6 q7 q8 q9 q10 q11 q12 q13
        refine bodyPost_ret (v := .tuple #[.agg mz, .int .i64 (k' : Int), .int .i64 (x : Int)]) (by simp [results, go_sem, mz, q0, q1, q2, q3, q4, q5, q6, q7, q8, q9, q10, q11, q12, q13]) rfl ?_
        unfold upEnd
        rw [HQ.out]
        exact ⟨rfl, below14 H.out.um.bl (Nat.le_refl _) H.out.um.bl.size (.int .i64 0) (.bool false) (.int .i64 0) (.bool false) (.bool false) (.bool false) (.bool false) (.bool false) (.bool false) (.int .i64 0) (.slice none 0 0) (.slice none 0 0) (.slice none 0 0) (.slice none 0 0)⟩
      | ok r =>
        obtain ⟨s, k1⟩ := r
        obtain ⟨n1, n2, n3, n4, n5⟩ := rn_name (Nat.le_refl _) hr
        rw [hr] at HRn
        replace HRn : Hid (Calls Try.prog 13 #[.slice (some ⟨b, o, none⟩) B.size cap, .int .i64 (k' : Int), .int .i64 (k' : Int), .int .i64 (B.size : Int), .int .i64 ((10 : Nat) : Int), .int .i64 ((0 : Nat) : Int)] wr fun e w' => e = .returned (.tuple #[.string s, .int .i64 (k1 : Int), .int .i64 0]) ∧ w' = wr) := HRn.out
        by_cases h4 : B.size < k1 + 4
        · have HQ : Hid (upk B = .error (10, k')) := by
            unfold Hid; rw [HX.out, HP.out, HR.out, HM.out, qs]; unfold qr; rw [hr]; simp only; rw [if_pos h4]
          obtain ⟨r0, r1, r2, r3, r4, r5, r6, r7, r8, r9, r10, r11, r12, r13⟩ := bx14 H.out.um.r; obtain ⟨f0, f1, f2, f3, f4, f5, f6, f7, f8, f9, f10, f11, f12, f13⟩ := bx14_free H.out.um.r; obtain ⟨m0, m1, m2, m3, m4, m5, m6, m7, m8, m9, m10, m11, m12, m13⟩ := bx14 H.out.um.n
          go_wp2_with (first
            | (go_at_call 12; refine (HN4.out _).mono ?_; rintro e w1 ⟨rfl, h1⟩; have h1' := h1.symm; subst h1')
            | (go_at_call 13; refine HRn.out.mono ?_; rintro e w4 ⟨rfl, h4⟩; have h4' := h4.symm; subst h4'))
          obtain ⟨q0, q1, q2, q3, q4, q5, q6, q7, q8, q9, q10, q11, q12, q13⟩ := bx14 (bx14_set H.out.um.r (.int .i64 0) (.bool false) (.int .i64 0) (.bool false) (.bool false) (.bool false) (.bool false) (.bool false) (.bool false) (.int .i64 0) (.slice none 0 0) (.slice none 0 0) (.slice none 0 0) (.slice none 0 0))
          unfold set14 at q0 q1 q2 q3 q4 q5 q6 q7 q8 q9 q10 q11 q12 q13
          refine bodyPost_ret (v := .tuple #[.agg mz, .int .i64 (k' : Int), .int .i64 10]) (by simp [results, go_sem, mz, q0, q1, q2, q3, q4, q5, q6, q7, q8, q9, q10, q11, q12, q13]) rfl ?_
          unfold upEnd
          rw [HQ.out]
          exact ⟨rfl, below14 H.out.um.bl (Nat.le_refl _) H.out.um.bl.size (.int .i64 0) (.bool false) (.int .i64 0) (.bool false) (.bool false) (.bool false) (.bool false) (.bool false) (.bool false) (.int .i64 0) (.slice none 0 0) (.slice none 0 0) (.slice none 0 0) (.slice none 0 0)⟩
        · have hk4 : k1 + 4 ≤ B.size := by omega
          have w1a : ∀ W : World, _ := win_run6 b o B.size cap k1 (k1 + 2) (zl := (k1 : Int)) (zh := (k1 : Int) + 2) rfl (by omega) (by omega) (by omega)
          have w2a : ∀ W : World, _ := win_run6 b o B.size cap (k1 + 2) (k1 + 4) (zl := (k1 : Int) + 2) (zh := (k1 : Int) + 4) (by omega) (by omega) (by omega) (by omega)
          rw [show k1 + 2 - k1 = 2 by omega] at w1a
          rw [show k1 + 4 - (k1 + 2) = 2 by omega] at w2a
          have x2 : IntKind.i64.wrap ((k1 : Int) + 2) = (k1 : Int) + 2 := by rw [IntWalk.i64_in] <;> omega
          have x4 : IntKind.i64.wrap ((k1 : Int) + 4) = (k1 : Int) + 4 := by rw [IntWalk.i64_in] <;> omega
          obtain ⟨s1, hs1⟩ : ∃ s1, B.extract k1 (k1 + 2) = s1 := ⟨_, rfl⟩
          obtain ⟨s2, hs2⟩ : ∃ s1, B.extract (k1 + 2) (k1 + 2 + 2) = s1 := ⟨_, rfl⟩
          have v1 : ∀ W : World, Lib.Bytes W b o B → _ := fun W hW => conv_win (c := cap - k1) (n := 2) (l := k1) (x := o + k1) hW (fun _ => rfl) (by omega)
          have v2 : ∀ W : World, Lib.Bytes W b o B → _ := fun W hW => conv_win (c := cap - (k1 + 2)) (n := 2) (l := k1 + 2) (x := o + (k1 + 2)) hW (fun _ => rfl) (by omega)
          have z1 : s1.size ≤ 4 := by rw [← hs1]; simp [ByteArray.size_extract]; omega
          have z2 : s2.size ≤ 4 := by rw [← hs2]; simp [ByteArray.size_extract]; omega
          have hval : ∀ (l n : Nat) (s : ByteArray), B.extract l (l + n) = s → l + n ≤ B.size → be s 0 s.size = be B l n := fun l n s e hl => by
            subst e
            rw [show (B.extract l (l + n)).size = n by simp [ByteArray.size_extract]; omega, be_ext hl n (by omega), Nat.add_zero]
          obtain ⟨tt, ht, HT⟩ : ∃ t, be s1 0 s1.size = t ∧ Hid (be B k1 2 = t) := ⟨_, rfl, (hval k1 2 s1 hs1 (by omega)).symm⟩
          obtain ⟨cc, hcc, HC⟩ : ∃ t, be s2 0 s2.size = t ∧ Hid (be B (k1 + 2) 2 = t) := ⟨_, rfl, (hval (k1 + 2) 2 s2 hs2 (by omega)).symm⟩
          rw [hs1] at v1
          rw [hs2] at v2
          clear hs1 hs2 hval
          have HQ : Hid (qs B cq 12 [] = qs B (cq - (j + 1)) (k1 + 4) (L ++ [⟨s, (tt : Int), (cc : Int)⟩])) := by
            unfold Hid; rw [HR.out, HM.out, qs]; unfold qr; rw [hr]; simp only; rw [if_neg h4, HT.out, HC.out, show cq - (j + 1) = mm by have := HM.out; omega]
          obtain ⟨i0, hi, hz0, hz1, hz2⟩ := info_parts Try.infoQuestion
          obtain ⟨pq, cpq, rfl, _⟩ := own_shape H.out.rows.q
          have c10 : wr.cell? ⟨wa.heap.size, 10, none⟩ = some (.slice pq L.length cpq) := H.out.mb.cell rfl
          have fz10 : wr.frozen? ⟨wa.heap.size, 10, none⟩ = false := H.out.mb.free 10
          go_upto_region 20 with (first
            | (go_at_call 12; refine (HN4.out _).mono ?_; rintro e w1 ⟨rfl, h1⟩; have h1' := h1.symm; subst h1')
            | (go_at_call 13; refine HRn.out.mono ?_; rintro e w4 ⟨rfl, h4⟩; have h4' := h4.symm; subst h4'))
          clear hcv4
          have hbyd : Lib.Bytes wr.drew b o B := hby
          have hMl : wa.heap.size < wr.heap.size := H.out.mb.lt
          have HO := hide' H.out.rows.q
          have hsz := H.out.sz
          have hcl : L.length ≤ 65535 := by have := HLN.out; omega
          have HF6 : Hid (∀ (ob : Obj) (w6 : World), (wr.drew.alloc ob).grownBy w6 (Value.ownBlock (.slice pq L.length cpq)) → wr.grownBy w6 (Value.ownBlock (.slice pq L.length cpq)) ∧ w6.cell? ⟨wa.heap.size, 10, none⟩ = some (.slice pq L.length cpq) ∧ w6.frozen? ⟨wa.heap.size, 10, none⟩ = false) := by
            intro ob w6 hg
            have hg2 : wr.grownBy w6 (Value.ownBlock (.slice pq L.length cpq)) := grown_trans (grown_trans (grown_drewN wr 1 _) (World.grownBy_alloc _ _ _)) hg
            have hb6 := H.out.mb.grown hg2 (fun e => by have := H.out.rows.q.lt _ e; have := H.out.hn; have := H.out.um.hN; omega)
            exact ⟨hg2, hb6.cell rfl, hb6.free 10⟩
          go_cut [11] from 115 to 136 (fun s11 wx => s11 = .int .i64 (k1 : Int) ∧ ∃ vq2, Us w wx wa.heap.size wb.heap.size wc.heap.size b o B id op rc v vq2 (.slice none 0 0) (.slice none 0 0) (.slice none 0 0) ⟨L ++ [⟨s, (tt : Int), (cc : Int)⟩], [], [], []⟩)
          case first =>
            go_region_law (first
              | (refine step_append_lies _ rfl _ _ 23 rfl wc.heap.size 46 i0 (.agg #[.string ⟨#[]⟩, .int .i64 0, .int .i64 0]) 3 32 Try.underlying23 hi hz0 hz1 hz2 rfl (by decide) (.slice pq L.length cpq) L.length (qcells L) rfl (HO.out.drew.alloc _) ⟨_, 0, none⟩ 1 1 [.string s, .int .i64 (tt : Int), .int .i64 (cc : Int)] rfl rfl (row_newQ _ #[.string s, .int .i64 (tt : Int), .int .i64 (cc : Int)] 46) (by simp [Value.oneCell']) (by decide) (by unfold maxLen; omega) (by omega) (by simp; omega) _ rfl ?_; intro g6 cap6 w6 hown6 hgrow6 hpl6 hlt6; have HO6 := hide' hown6; obtain ⟨hg6, cc6, ff6⟩ := HF6.out _ _ hgrow6; have HG6 := hide' hg6; clear hown6 hgrow6 hpl6 hlt6 hg6)
              | (go_simp; go_at_call 12; refine Calls.mono (refValue_any _ _ (by first | exact z1 | exact z2)) ?_; rintro e w8' ⟨rfl, rfl⟩))
            all_goals
              go_wp2_with fail
              go_meet
              case rel => exact ⟨rfl, _, (H.out.push (vo := .slice pq L.length cpq) (fun q e => (HO.out.lt q e).1) HG6.out 10 (.slice (some ⟨g6, 0, none⟩) (L.length + 1) cap6) (vq2 := .slice (some ⟨g6, 0, none⟩) (L.length + 1) cap6) rfl ⟨by rw [List.length_append, qcells_app]; exact HO6.out, World.ownsRow_nil _ _ _ _, World.ownsRow_nil _ _ _ _, World.ownsRow_nil _ _ _ _, apart_nil _, apart_nil _, apart_nil _, apart_nil _, apart_nil _, apart_nil _⟩)⟩
          case rest =>
            obtain ⟨rfl, vq2, H2⟩ := hcut
            go_wp2_with fail
            go_roundw
            case rel => exact ⟨j + 1, k1 + 4, _, vq2, by go_num, by simp, by omega, by omega, by rw [List.length_append, HLN.out]; rfl, H2, HQ⟩
            case measure => simp [intOf]; omega
    · have hjq : cq - j = 0 := by omega
      have HPQ : Hid (parts4 B = pa4 B L k') := by unfold Hid; rw [HP.out, HR.out, hjq, qs]
      clear hjq HP
      obtain ⟨wr0, hwr0⟩ : ∃ wr0, wr = wr0 := ⟨_, rfl⟩
      rw [hwr0] at H hby hcv4 ⊢
      clear hwr0
      go_wp2_with (go_at_call 12; refine (HN4.out _).mono ?_; rintro e w1 ⟨rfl, h1⟩; have h1' := h1.symm; subst h1')
      clear hcv4 hby
      refine ref_sections _ b o cap B w wa wb wc hb h12 hS hc HX v op rc id HV HOP HRC HID k' L vq hk' HPQ wr0 H ?_ _ _ _ _ _ _ _ _ _ _ _ _ _ _ _ _ _ _ _ _ _ _ _ _ _ _ _ _ _ _ _ _ _ _ _ _ _ _ _ _ _ _ _ _ _ _ _ _ _ _ _ _ _ _ _ _ _ _ _ _ _ _ _ _ _ _ _ _ _ _ _ _ _ _ _ _ _ _ _ _ _ _ _ _ _ _ _ _ _ _ _ _ _ _ _ _ _ _ _ _ _ _ _ _ _ _ _ _ _ _ _ _ _ _ _ _ _ _ _ _ _ _ _ _ _ _ _ _ _ _ _ _ _ _ _ _ _ _ _ _ _ _ _ _ _ _ _ _ _ _ _ _ _ _ _ _ _ _ _ _ _ _ _ _ _ _ _ _ _ _ _ _ _ _ _ _ _ _ _ _ _ _ _ _ _ _ _ _ _ _ _ _ _
      assumption
/-- gazetteerref2.UnpackMessage -/
theorem refUnpack_any (p : Option Addr) (cap : Nat) (B : ByteArray) (w : World) (hS : B.size ≤ 4294967296) (hc : B.size ≤ cap) (hp : 12 ≤ B.size → ∃ b o, p = some ⟨b, o, none⟩ ∧ b < w.heap.size ∧ Lib.Bytes w b o B) :
    Calls Try.prog 5 #[.slice p B.size cap] w (upEnd B w) := by
  by_cases h1 : 65535 < B.size ∨ B.size < 12
  · exact refUnpack_short p cap B w hS h1
  · obtain ⟨b, o, rfl, hb, hB⟩ := hp (by omega)
    cases hs : sg (be B 2 2) 6 with
    | true => exact refUnpack_form b o cap B w hB hb (by omega) (by omega) hc hs
    | false => exact refUnpack_head b o cap B w hB hb (by omega) (by omega) hc hs
end Go.Proofs.Ytnnmgcdhidmmeaa
