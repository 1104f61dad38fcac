import Derived.Test.YtlgogddobjkngaaWl2G
namespace Go.Proofs.Ytlgogddobjkngaa
set_option linter.unusedVariables false
open Go.RowKit Go.Shelf Go.Maps Go.Proofs.Ytlgogddobjkngaa.Nm
set_option maxRecDepth 5000000 in
set_option maxHeartbeats 4000000 in
theorem wireEnds_good_in_more (i0 i2 i9 : Nat) (b1 b3 b4 b5 b6 b7 b8 : Bool) (q0 a0 u0 d0 : Option Addr) (qc ac uc dc : Nat) (Q : List Qn) (A U D : List Rn) (cut : Int) (p : Option Addr) (cap : Nat) (X : ByteArray) (w : World) (hl : LsAt w q0 a0 u0 d0 Q A U D) (hS : X.size ≤ 140737488351232) (hc : X.size ≤ cap) (hp : ByAt w p X) (hm : msgOK i0 i2 i9 Q A U D = true) (hbig : ¬ 65535 < (packS i0 i2 i9 b1 b3 b4 b5 b6 b7 b8 Q A U D).out.size) (hcut : 0 ≤ cut ∧ cut < ((packS i0 i2 i9 b1 b3 b4 b5 b6 b7 b8 Q A U D).out.size : Int)) (htl : 0 < X.size ∧ (packS i0 i2 i9 b1 b3 b4 b5 b6 b7 b8 Q A U D).out.size + X.size ≤ 65535) :
    Calls Try.prog 4 #[.agg #[.int .i64 (i0 : Int), .bool b1, .int .i64 (i2 : Int), .bool b3, .bool b4, .bool b5, .bool b6, .bool b7, .bool b8, .int .i64 (i9 : Int), .slice q0 Q.length qc, .slice a0 A.length ac, .slice u0 U.length uc, .slice d0 D.length dc], .int .i64 cut, .slice p X.size cap] w fun e w' => e = .returned (.bool true) ∧ Below w.heap.size w w' := by
  have HX : Hid (Bx (w.alloc (.cells #[.int .i64 (i0 : Int), .bool b1, .int .i64 (i2 : Int), .bool b3, .bool b4, .bool b5, .bool b6, .bool b7, .bool b8, .int .i64 (i9 : Int), .slice q0 Q.length qc, .slice a0 A.length ac, .slice u0 U.length uc, .slice d0 D.length dc] 25)) w.heap.size #[.int .i64 (i0 : Int), .bool b1, .int .i64 (i2 : Int), .bool b3, .bool b4, .bool b5, .bool b6, .bool b7, .bool b8, .int .i64 (i9 : Int), .slice q0 Q.length qc, .slice a0 A.length ac, .slice u0 U.length uc, .slice d0 D.length dc] 25) := World.alloc_heap_new w _
  have HB := hide' ((Below.refl w.heap.size w).alloc (Nat.le_refl _) (.cells #[.int .i64 (i0 : Int), .bool b1, .int .i64 (i2 : Int), .bool b3, .bool b4, .bool b5, .bool b6, .bool b7, .bool b8, .int .i64 (i9 : Int), .slice q0 Q.length qc, .slice a0 A.length ac, .slice u0 U.length uc, .slice d0 D.length dc] 25))
  have HW := hide' hl
  have HPB := hide' hp
  have T1 : Hid True := trivial
  obtain ⟨sP, hsP⟩ : ∃ sP, packS i0 i2 i9 b1 b3 b4 b5 b6 b7 b8 Q A U D = sP := ⟨_, rfl⟩
  have HUP := hide' (fun (p : Option Addr) (cap : Nat) (w : World) h2 h3 => unpack_pack i0 i2 i9 b1 b3 b4 b5 b6 b7 b8 Q A U D hm (by omega) p cap w h2 h3)
  have HK := hide' (upk_pack i0 i2 i9 b1 b3 b4 b5 b6 b7 b8 Q A U D hm (by omega)).1
  rw [hsP] at HUP HK
  rw [hsP] at hbig hcut htl
  have HSP := hide' hsP
  clear hsP
  obtain ⟨n, hn⟩ : ∃ n, sP.out.size = n := ⟨_, rfl⟩
  rw [hn] at hbig hcut htl
  have HN := hide' hn
  have hnl : n ≤ 65535 := by omega
  have HU1 : Hid (∀ (p : Option Addr) (W : World), ByAt W p sP.out → Calls Try.prog 7 #[.slice p n n] W fun e w' => ∃ a1 a2 a3 a4 c1 c2 c3 c4, e = .returned (.tuple #[.agg #[.int .i64 (i0 : Int), .bool b1, .int .i64 (i2 : Int), .bool b3, .bool b4, .bool b5, .bool b6, .bool b7, .bool b8, .int .i64 (i9 : Int), .slice a1 Q.length c1, .slice a2 A.length c2, .slice a3 U.length c3, .slice a4 D.length c4], .int .i64 0, .int .i64 0]) ∧ Mg4 w' W.heap.size (.slice a1 Q.length c1) (.slice a2 A.length c2) (.slice a3 U.length c3) (.slice a4 D.length c4) ⟨Q, A, U, D⟩ ∧ Below W.heap.size W w') := by
    intro p W h
    have := HUP.out p n W (by omega) h
    rw [hn] at this
    exact this
  clear hn
  obtain ⟨k, rfl⟩ : ∃ k : Nat, cut = (k : Int) := ⟨cut.toNat, by omega⟩
  have hkn : k < n := by omega
  have hk1 : (k : Int) < (n : Int) := by omega
  have hk0 : (0 : Int) ≤ (k : Int) := by omega
  clear hcut
  have ht0 : ((X.size : Int) == 0) = false := by rw [beq_eq_false_iff_ne]; omega
  have htb : ¬ (65535 : Int) < (n : Int) + (X.size : Int) := by omega
  have HT := hide' htl
  clear htl
  clear hl hp
  go_enter Try.func4, Try.ntmps4
  go_wp2_with (first
    | (go_at_call 6; refine (question_any _).mono ?_; rintro e w1 ⟨g1, rfl, hL1, hB1⟩; have L1 := hide' hL1; have HB1 := hide' (bstep HB.out hB1 HB.out.size); have HX1 : Hid (Bx w1 w.heap.size #[.int .i64 (i0 : Int), .bool b1, .int .i64 (i2 : Int), .bool b3, .bool b4, .bool b5, .bool b6, .bool b7, .bool b8, .int .i64 (i9 : Int), .slice q0 Q.length qc, .slice a0 A.length ac, .slice u0 U.length uc, .slice d0 D.length dc] 25) := HX.out.below hB1 HX.out.lt; clear hL1 hB1)
    | (go_at_call 5; have _ := T1; clear T1; refine (pack_yes 7 0 0 false false false true false false false (some ⟨g1, 0, none⟩) none none none 1 0 0 0 [exQ] [] [] [] _ L1.out exMsg).mono ?_; rintro e w2 ⟨h2', hB2⟩; rw [if_neg (by rw [exPack]; decide), exPack] at h2'; obtain ⟨p2, c2, rfl, hO2⟩ := h2'; have HB2 := hide' (bstep HB1.out hB2 HB1.out.size); have HX2 : Hid (Bx w2 w.heap.size #[.int .i64 (i0 : Int), .bool b1, .int .i64 (i2 : Int), .bool b3, .bool b4, .bool b5, .bool b6, .bool b7, .bool b8, .int .i64 (i9 : Int), .slice q0 Q.length qc, .slice a0 A.length ac, .slice u0 U.length uc, .slice d0 D.length dc] 25) := HX1.out.below hB2 HX1.out.lt; obtain ⟨m0, m1, m2, m3, m4, m5, m6, m7, m8, m9, m10, m11, m12, m13⟩ := bx14 HX2.out; clear hB2 hO2)
    | (go_at_call 5; refine (pack_yes i0 i2 i9 b1 b3 b4 b5 b6 b7 b8 q0 a0 u0 d0 qc ac uc dc Q A U D _ (HW.out.below HB2.out) hm).mono ?_; rintro e w3 ⟨h3, hB3⟩; rw [HSP.out, HN.out, if_neg hbig] at h3; obtain ⟨p3, c3, rfl, hO3⟩ := h3; have HO3 := hide' (byAt_own hO3); have hc3 : n ≤ c3 := own_cap hO3; have hcn3 := run_cut p3 n c3 n hc3; have hck3 := run_cut p3 n c3 k (by omega); have HB3 := hide' (bstep HB2.out hB3 HB2.out.size); have T2 : Hid True := trivial; clear hO3 hB3)
    | (go_at_call 7; have _ := T2; clear T2; refine Calls.mono (HU1.out p3 _ HO3.out) ?_; rintro e w4 ⟨r1, r2, r3, r4, z1, z2, z3, z4, rfl, hL4, hB4⟩; have HO4 := hide' (fun o : Obj => (HO3.out.below hB4).al o); have HB4 := hide' (fun o : Obj => below_al (bstep HB3.out hB4 HB3.out.size) o); have hB4s : Hid (w.heap.size ≤ w4.heap.size) := Nat.le_trans HB3.out.size hB4.size; have T3 : Hid True := trivial; clear hL4 hB4)
    | (go_at_call 7; have _ := T3; clear T3; refine Calls.mono (unpack_cut HK.out (by rw [HN.out]; exact hkn) p3 _ (HO4.out _)) ?_; rintro e w5 ⟨at5, rfl, hB5⟩; have HO5 := hide' ((HO4.out _).below hB5); have HB5 := hide' (bstep (HB4.out _) hB5 (HB4.out _).size); have hB5s : Hid (w.heap.size ≤ w5.heap.size) := Nat.le_trans (HB4.out _).size hB5.size; clear hB5)
    | (at_builtin; refine wpList_append_bb _ rfl _ _ rfl w5.heap.size (.slice none 0 0) .empty sP.out p3 c3 rfl (World.ownsRow_nil _ _ _ _) (by rw [HN.out]; rfl) HO5.out (by rw [HN.out]; exact sP_pos HK.out HN.out) (by rw [HN.out]; show 0 + n ≤ _; omega) (by exact Nat.le_refl _) ?_; intro v6 w6 hO6 hg6; rw [empty_app] at hO6; have HB56 := hide' (below_none hg6); have HB6 := hide' (bstep HB5.out HB56.out HB5.out.size); rw [HN.out] at hO6; obtain ⟨p6, c6, rfl, _⟩ := own_shape hO6; have HO6 := hide' hO6; clear hO6 hg6)
    | (at_builtin; refine wpList_append_bb _ rfl _ _ rfl w5.heap.size (.slice p6 n c6) sP.out X p cap rfl (by rw [HN.out]; exact HO6.out) rfl (HPB.out.below HB6.out) HT.out.1 (by rw [HN.out]; exact HT.out.2) (Nat.le_trans (by exact Nat.le_refl _) HB56.out.size) ?_; intro v7 w7 hO7 hg7; obtain ⟨p7, c7, rfl, hc7, _⟩ := own_shape hO7; have HO7 := hide' hO7; have HB7 := hide' (below_own HB5.out HB56.out HO6.out hB5s.out hg7); clear hO7 hg7)
    | (go_at_call 7; refine Calls.mono (unpack_more HK.out HT.out.1 (by rw [HN.out]; exact HT.out.2) p7 c7 _ hc7 (byAt_own HO7.out)) ?_; rintro e w8 ⟨rfl, hB8⟩; rw [HN.out]; have HB8 := hide' (bstep HB7.out hB8 HB7.out.size); clear hB8; obtain ⟨wz, hwz⟩ : ∃ wz, w8.alloc (.cells #[.int .i64 0, .bool false, .int .i64 0, .bool false, .bool false, .bool false, .bool false, .bool false, .bool false, .int .i64 0, .slice none 0 0, .slice none 0 0, .slice none 0 0, .slice none 0 0] 25) = wz := ⟨_, rfl⟩; have HBz : Hid (Below w.heap.size w wz) := hwz ▸ HB8.out.alloc HB8.out.size _; have HYz : Hid (Bx wz w8.heap.size #[.int .i64 0, .bool false, .int .i64 0, .bool false, .bool false, .bool false, .bool false, .bool false, .bool false, .int .i64 0, .slice none 0 0, .slice none 0 0, .slice none 0 0, .slice none 0 0] 25) := hwz ▸ World.alloc_heap_new w8 _; obtain ⟨y0, y1, y2, y3, y4, y5, y6, y7, y8, y9, y10, y11, y12, y13⟩ := bx14 HYz.out; obtain ⟨f0, f1, f2, f3, f4, f5, f6, f7, f8, f9, f10, f11, f12, f13⟩ := bx14_free HYz.out; obtain ⟨w9, hw9⟩ : ∃ w9, set14 wz w8.heap.size (.int .i64 0) (.bool false) (.int .i64 0) (.bool false) (.bool false) (.bool false) (.bool false) (.bool false) (.bool false) (.int .i64 0) (.slice none 0 0) (.slice none 0 0) (.slice none 0 0) (.slice none 0 0) = w9 := ⟨_, rfl⟩; have HY9 : Hid (Bx w9 w8.heap.size #[.int .i64 0, .bool false, .int .i64 0, .bool false, .bool false, .bool false, .bool false, .bool false, .bool false, .int .i64 0, .slice none 0 0, .slice none 0 0, .slice none 0 0, .slice none 0 0] 25) := hw9 ▸ bx14_set HYz.out (.int .i64 0) (.bool false) (.int .i64 0) (.bool false) (.bool false) (.bool false) (.bool false) (.bool false) (.bool false) (.int .i64 0) (.slice none 0 0) (.slice none 0 0) (.slice none 0 0) (.slice none 0 0); have HB9 : Hid (Below w.heap.size w w9) := hw9 ▸ below14 HBz.out HB8.out.size HBz.out.size (.int .i64 0) (.bool false) (.int .i64 0) (.bool false) (.bool false) (.bool false) (.bool false) (.bool false) (.bool false) (.int .i64 0) (.slice none 0 0) (.slice none 0 0) (.slice none 0 0) (.slice none 0 0); unfold set14 at hw9; obtain ⟨v0, v1, v2, v3, v4, v5, v6, v7, v8, v9, v10, v11, v12, v13⟩ := bx14 HY9.out)
    | (go_at_call 9; refine (sameNone _).mono ?_; rintro e w10 ⟨rfl, hB10⟩; have HBf := hide' (bstep HB9.out hB10 HB9.out.size); clear hB10))
  go_ret
  exact ⟨rfl, HBf.out⟩
set_option maxRecDepth 5000000 in
set_option maxHeartbeats 4000000 in
theorem wireEnds_good_neg_more (i0 i2 i9 : Nat) (b1 b3 b4 b5 b6 b7 b8 : Bool) (q0 a0 u0 d0 : Option Addr) (qc ac uc dc : Nat) (Q : List Qn) (A U D : List Rn) (cut : Int) (p : Option Addr) (cap : Nat) (X : ByteArray) (w : World) (hl : LsAt w q0 a0 u0 d0 Q A U D) (hS : X.size ≤ 140737488351232) (hc : X.size ≤ cap) (hp : ByAt w p X) (hm : msgOK i0 i2 i9 Q A U D = true) (hbig : ¬ 65535 < (packS i0 i2 i9 b1 b3 b4 b5 b6 b7 b8 Q A U D).out.size) (hcut : cut < 0) (htl : 0 < X.size ∧ (packS i0 i2 i9 b1 b3 b4 b5 b6 b7 b8 Q A U D).out.size + X.size ≤ 65535) :
    Calls Try.prog 4 #[.agg #[.int .i64 (i0 : Int), .bool b1, .int .i64 (i2 : Int), .bool b3, .bool b4, .bool b5, .bool b6, .bool b7, .bool b8, .int .i64 (i9 : Int), .slice q0 Q.length qc, .slice a0 A.length ac, .slice u0 U.length uc, .slice d0 D.length dc], .int .i64 cut, .slice p X.size cap] w fun e w' => e = .returned (.bool true) ∧ Below w.heap.size w w' := by
  have HX : Hid (Bx (w.alloc (.cells #[.int .i64 (i0 : Int), .bool b1, .int .i64 (i2 : Int), .bool b3, .bool b4, .bool b5, .bool b6, .bool b7, .bool b8, .int .i64 (i9 : Int), .slice q0 Q.length qc, .slice a0 A.length ac, .slice u0 U.length uc, .slice d0 D.length dc] 25)) w.heap.size #[.int .i64 (i0 : Int), .bool b1, .int .i64 (i2 : Int), .bool b3, .bool b4, .bool b5, .bool b6, .bool b7, .bool b8, .int .i64 (i9 : Int), .slice q0 Q.length qc, .slice a0 A.length ac, .slice u0 U.length uc, .slice d0 D.length dc] 25) := World.alloc_heap_new w _
  have HB := hide' ((Below.refl w.heap.size w).alloc (Nat.le_refl _) (.cells #[.int .i64 (i0 : Int), .bool b1, .int .i64 (i2 : Int), .bool b3, .bool b4, .bool b5, .bool b6, .bool b7, .bool b8, .int .i64 (i9 : Int), .slice q0 Q.length qc, .slice a0 A.length ac, .slice u0 U.length uc, .slice d0 D.length dc] 25))
  have HW := hide' hl
  have HPB := hide' hp
  have T1 : Hid True := trivial
  obtain ⟨sP, hsP⟩ : ∃ sP, packS i0 i2 i9 b1 b3 b4 b5 b6 b7 b8 Q A U D = sP := ⟨_, rfl⟩
  have HUP := hide' (fun (p : Option Addr) (cap : Nat) (w : World) h2 h3 => unpack_pack i0 i2 i9 b1 b3 b4 b5 b6 b7 b8 Q A U D hm (by omega) p cap w h2 h3)
  have HK := hide' (upk_pack i0 i2 i9 b1 b3 b4 b5 b6 b7 b8 Q A U D hm (by omega)).1
  rw [hsP] at HUP HK
  rw [hsP] at hbig htl
  have HSP := hide' hsP
  clear hsP
  obtain ⟨n, hn⟩ : ∃ n, sP.out.size = n := ⟨_, rfl⟩
  rw [hn] at hbig htl
  have HN := hide' hn
  have hnl : n ≤ 65535 := by omega
  have HU1 : Hid (∀ (p : Option Addr) (W : World), ByAt W p sP.out → Calls Try.prog 7 #[.slice p n n] W fun e w' => ∃ a1 a2 a3 a4 c1 c2 c3 c4, e = .returned (.tuple #[.agg #[.int .i64 (i0 : Int), .bool b1, .int .i64 (i2 : Int), .bool b3, .bool b4, .bool b5, .bool b6, .bool b7, .bool b8, .int .i64 (i9 : Int), .slice a1 Q.length c1, .slice a2 A.length c2, .slice a3 U.length c3, .slice a4 D.length c4], .int .i64 0, .int .i64 0]) ∧ Mg4 w' W.heap.size (.slice a1 Q.length c1) (.slice a2 A.length c2) (.slice a3 U.length c3) (.slice a4 D.length c4) ⟨Q, A, U, D⟩ ∧ Below W.heap.size W w') := by
    intro p W h
    have := HUP.out p n W (by omega) h
    rw [hn] at this
    exact this
  clear hn
  have hcn : ¬ (0 : Int) ≤ cut := by omega
  clear hcut
  have ht0 : ((X.size : Int) == 0) = false := by rw [beq_eq_false_iff_ne]; omega
  have htb : ¬ (65535 : Int) < (n : Int) + (X.size : Int) := by omega
  have HT := hide' htl
  clear htl
  clear hl hp
  go_enter Try.func4, Try.ntmps4
  go_wp2_with (first
    | (go_at_call 6; refine (question_any _).mono ?_; rintro e w1 ⟨g1, rfl, hL1, hB1⟩; have L1 := hide' hL1; have HB1 := hide' (bstep HB.out hB1 HB.out.size); have HX1 : Hid (Bx w1 w.heap.size #[.int .i64 (i0 : Int), .bool b1, .int .i64 (i2 : Int), .bool b3, .bool b4, .bool b5, .bool b6, .bool b7, .bool b8, .int .i64 (i9 : Int), .slice q0 Q.length qc, .slice a0 A.length ac, .slice u0 U.length uc, .slice d0 D.length dc] 25) := HX.out.below hB1 HX.out.lt; clear hL1 hB1)
    | (go_at_call 5; have _ := T1; clear T1; refine (pack_yes 7 0 0 false false false true false false false (some ⟨g1, 0, none⟩) none none none 1 0 0 0 [exQ] [] [] [] _ L1.out exMsg).mono ?_; rintro e w2 ⟨h2', hB2⟩; rw [if_neg (by rw [exPack]; decide), exPack] at h2'; obtain ⟨p2, c2, rfl, hO2⟩ := h2'; have HB2 := hide' (bstep HB1.out hB2 HB1.out.size); have HX2 : Hid (Bx w2 w.heap.size #[.int .i64 (i0 : Int), .bool b1, .int .i64 (i2 : Int), .bool b3, .bool b4, .bool b5, .bool b6, .bool b7, .bool b8, .int .i64 (i9 : Int), .slice q0 Q.length qc, .slice a0 A.length ac, .slice u0 U.length uc, .slice d0 D.length dc] 25) := HX1.out.below hB2 HX1.out.lt; obtain ⟨m0, m1, m2, m3, m4, m5, m6, m7, m8, m9, m10, m11, m12, m13⟩ := bx14 HX2.out; clear hB2 hO2)
    | (go_at_call 5; refine (pack_yes i0 i2 i9 b1 b3 b4 b5 b6 b7 b8 q0 a0 u0 d0 qc ac uc dc Q A U D _ (HW.out.below HB2.out) hm).mono ?_; rintro e w3 ⟨h3, hB3⟩; rw [HSP.out, HN.out, if_neg hbig] at h3; obtain ⟨p3, c3, rfl, hO3⟩ := h3; have HO3 := hide' (byAt_own hO3); have hc3 : n ≤ c3 := own_cap hO3; have hcn3 := run_cut p3 n c3 n hc3; have HB3 := hide' (bstep HB2.out hB3 HB2.out.size); have T2 : Hid True := trivial; clear hO3 hB3)
    | (go_at_call 7; have _ := T2; clear T2; refine Calls.mono (HU1.out p3 _ HO3.out) ?_; rintro e w4 ⟨r1, r2, r3, r4, z1, z2, z3, z4, rfl, hL4, hB4⟩; have HO4 := hide' (fun o : Obj => (HO3.out.below hB4).al o); have HB4 := hide' (fun o : Obj => below_al (bstep HB3.out hB4 HB3.out.size) o); have hB4s : Hid (w.heap.size ≤ w4.heap.size) := Nat.le_trans HB3.out.size hB4.size; have T3 : Hid True := trivial; clear hL4 hB4)
    | (at_builtin; refine wpList_append_bb _ rfl _ _ rfl w4.heap.size (.slice none 0 0) .empty sP.out p3 c3 rfl (World.ownsRow_nil _ _ _ _) (by rw [HN.out]; rfl) (HO4.out _) (by rw [HN.out]; exact sP_pos HK.out HN.out) (by rw [HN.out]; show 0 + n ≤ _; omega) (by simp) ?_; intro v6 w6 hO6 hg6; rw [empty_app] at hO6; have HB56 := hide' (below_none hg6); have HB6 := hide' (bstep (HB4.out _) HB56.out (HB4.out _).size); rw [HN.out] at hO6; obtain ⟨p6, c6, rfl, _⟩ := own_shape hO6; have HO6 := hide' hO6; clear hO6 hg6)
    | (at_builtin; refine wpList_append_bb _ rfl _ _ rfl w4.heap.size (.slice p6 n c6) sP.out X p cap rfl (by rw [HN.out]; exact HO6.out) rfl (HPB.out.below HB6.out) HT.out.1 (by rw [HN.out]; exact HT.out.2) (Nat.le_trans (by simp) HB56.out.size) ?_; intro v7 w7 hO7 hg7; obtain ⟨p7, c7, rfl, hc7, _⟩ := own_shape hO7; have HO7 := hide' hO7; have HB7 := hide' (below_own (HB4.out _) HB56.out HO6.out hB4s.out hg7); clear hO7 hg7)
    | (go_at_call 7; refine Calls.mono (unpack_more HK.out HT.out.1 (by rw [HN.out]; exact HT.out.2) p7 c7 _ hc7 (byAt_own HO7.out)) ?_; rintro e w8 ⟨rfl, hB8⟩; rw [HN.out]; have HB8 := hide' (bstep HB7.out hB8 HB7.out.size); clear hB8; obtain ⟨wz, hwz⟩ : ∃ wz, w8.alloc (.cells #[.int .i64 0, .bool false, .int .i64 0, .bool false, .bool false, .bool false, .bool false, .bool false, .bool false, .int .i64 0, .slice none 0 0, .slice none 0 0, .slice none 0 0, .slice none 0 0] 25) = wz := ⟨_, rfl⟩; have HBz : Hid (Below w.heap.size w wz) := hwz ▸ HB8.out.alloc HB8.out.size _; have HYz : Hid (Bx wz w8.heap.size #[.int .i64 0, .bool false, .int .i64 0, .bool false, .bool false, .bool false, .bool false, .bool false, .bool false, .int .i64 0, .slice none 0 0, .slice none 0 0, .slice none 0 0, .slice none 0 0] 25) := hwz ▸ World.alloc_heap_new w8 _; obtain ⟨y0, y1, y2, y3, y4, y5, y6, y7, y8, y9, y10, y11, y12, y13⟩ := bx14 HYz.out; obtain ⟨f0, f1, f2, f3, f4, f5, f6, f7, f8, f9, f10, f11, f12, f13⟩ := bx14_free HYz.out; obtain ⟨w9, hw9⟩ : ∃ w9, set14 wz w8.heap.size (.int .i64 0) (.bool false) (.int .i64 0) (.bool false) (.bool false) (.bool false) (.bool false) (.bool false) (.bool false) (.int .i64 0) (.slice none 0 0) (.slice none 0 0) (.slice none 0 0) (.slice none 0 0) = w9 := ⟨_, rfl⟩; have HY9 : Hid (Bx w9 w8.heap.size #[.int .i64 0, .bool false, .int .i64 0, .bool false, .bool false, .bool false, .bool false, .bool false, .bool false, .int .i64 0, .slice none 0 0, .slice none 0 0, .slice none 0 0, .slice none 0 0] 25) := hw9 ▸ bx14_set HYz.out (.int .i64 0) (.bool false) (.int .i64 0) (.bool false) (.bool false) (.bool false) (.bool false) (.bool false) (.bool false) (.int .i64 0) (.slice none 0 0) (.slice none 0 0) (.slice none 0 0) (.slice none 0 0); have HB9 : Hid (Below w.heap.size w w9) := hw9 ▸ below14 HBz.out HB8.out.size HBz.out.size (.int .i64 0) (.bool false) (.int .i64 0) (.bool false) (.bool false) (.bool false) (.bool false) (.bool false) (.bool false) (.int .i64 0) (.slice none 0 0) (.slice none 0 0) (.slice none 0 0) (.slice none 0 0); unfold set14 at hw9; obtain ⟨v0, v1, v2, v3, v4, v5, v6, v7, v8, v9, v10, v11, v12, v13⟩ := bx14 HY9.out)
    | (go_at_call 9; refine (sameNone _).mono ?_; rintro e w10 ⟨rfl, hB10⟩; have HBf := hide' (bstep HB9.out hB10 HB9.out.size); clear hB10))
  go_ret
  exact ⟨rfl, HBf.out⟩
set_option maxRecDepth 5000000 in
set_option maxHeartbeats 4000000 in
theorem wireEnds_good_far_more (i0 i2 i9 : Nat) (b1 b3 b4 b5 b6 b7 b8 : Bool) (q0 a0 u0 d0 : Option Addr) (qc ac uc dc : Nat) (Q : List Qn) (A U D : List Rn) (cut : Int) (p : Option Addr) (cap : Nat) (X : ByteArray) (w : World) (hl : LsAt w q0 a0 u0 d0 Q A U D) (hS : X.size ≤ 140737488351232) (hc : X.size ≤ cap) (hp : ByAt w p X) (hm : msgOK i0 i2 i9 Q A U D = true) (hbig : ¬ 65535 < (packS i0 i2 i9 b1 b3 b4 b5 b6 b7 b8 Q A U D).out.size) (hcut : ((packS i0 i2 i9 b1 b3 b4 b5 b6 b7 b8 Q A U D).out.size : Int) ≤ cut) (htl : 0 < X.size ∧ (packS i0 i2 i9 b1 b3 b4 b5 b6 b7 b8 Q A U D).out.size + X.size ≤ 65535) :
    Calls Try.prog 4 #[.agg #[.int .i64 (i0 : Int), .bool b1, .int .i64 (i2 : Int), .bool b3, .bool b4, .bool b5, .bool b6, .bool b7, .bool b8, .int .i64 (i9 : Int), .slice q0 Q.length qc, .slice a0 A.length ac, .slice u0 U.length uc, .slice d0 D.length dc], .int .i64 cut, .slice p X.size cap] w fun e w' => e = .returned (.bool true) ∧ Below w.heap.size w w' := by
  have HX : Hid (Bx (w.alloc (.cells #[.int .i64 (i0 : Int), .bool b1, .int .i64 (i2 : Int), .bool b3, .bool b4, .bool b5, .bool b6, .bool b7, .bool b8, .int .i64 (i9 : Int), .slice q0 Q.length qc, .slice a0 A.length ac, .slice u0 U.length uc, .slice d0 D.length dc] 25)) w.heap.size #[.int .i64 (i0 : Int), .bool b1, .int .i64 (i2 : Int), .bool b3, .bool b4, .bool b5, .bool b6, .bool b7, .bool b8, .int .i64 (i9 : Int), .slice q0 Q.length qc, .slice a0 A.length ac, .slice u0 U.length uc, .slice d0 D.length dc] 25) := World.alloc_heap_new w _
  have HB := hide' ((Below.refl w.heap.size w).alloc (Nat.le_refl _) (.cells #[.int .i64 (i0 : Int), .bool b1, .int .i64 (i2 : Int), .bool b3, .bool b4, .bool b5, .bool b6, .bool b7, .bool b8, .int .i64 (i9 : Int), .slice q0 Q.length qc, .slice a0 A.length ac, .slice u0 U.length uc, .slice d0 D.length dc] 25))
  have HW := hide' hl
  have HPB := hide' hp
  have T1 : Hid True := trivial
  obtain ⟨sP, hsP⟩ : ∃ sP, packS i0 i2 i9 b1 b3 b4 b5 b6 b7 b8 Q A U D = sP := ⟨_, rfl⟩
  have HUP := hide' (fun (p : Option Addr) (cap : Nat) (w : World) h2 h3 => unpack_pack i0 i2 i9 b1 b3 b4 b5 b6 b7 b8 Q A U D hm (by omega) p cap w h2 h3)
  have HK := hide' (upk_pack i0 i2 i9 b1 b3 b4 b5 b6 b7 b8 Q A U D hm (by omega)).1
  rw [hsP] at HUP HK
  rw [hsP] at hbig hcut htl
  have HSP := hide' hsP
  clear hsP
  obtain ⟨n, hn⟩ : ∃ n, sP.out.size = n := ⟨_, rfl⟩
  rw [hn] at hbig hcut htl
  have HN := hide' hn
  have hnl : n ≤ 65535 := by omega
  have HU1 : Hid (∀ (p : Option Addr) (W : World), ByAt W p sP.out → Calls Try.prog 7 #[.slice p n n] W fun e w' => ∃ a1 a2 a3 a4 c1 c2 c3 c4, e = .returned (.tuple #[.agg #[.int .i64 (i0 : Int), .bool b1, .int .i64 (i2 : Int), .bool b3, .bool b4, .bool b5, .bool b6, .bool b7, .bool b8, .int .i64 (i9 : Int), .slice a1 Q.length c1, .slice a2 A.length c2, .slice a3 U.length c3, .slice a4 D.length c4], .int .i64 0, .int .i64 0]) ∧ Mg4 w' W.heap.size (.slice a1 Q.length c1) (.slice a2 A.length c2) (.slice a3 U.length c3) (.slice a4 D.length c4) ⟨Q, A, U, D⟩ ∧ Below W.heap.size W w') := by
    intro p W h
    have := HUP.out p n W (by omega) h
    rw [hn] at this
    exact this
  clear hn
  have hcn : (0 : Int) ≤ cut := by omega
  have hcf : ¬ cut < (n : Int) := by omega
  clear hcut
  have ht0 : ((X.size : Int) == 0) = false := by rw [beq_eq_false_iff_ne]; omega
  have htb : ¬ (65535 : Int) < (n : Int) + (X.size : Int) := by omega
  have HT := hide' htl
  clear htl
  clear hl hp
  go_enter Try.func4, Try.ntmps4
  go_wp2_with (first
    | (go_at_call 6; refine (question_any _).mono ?_; rintro e w1 ⟨g1, rfl, hL1, hB1⟩; have L1 := hide' hL1; have HB1 := hide' (bstep HB.out hB1 HB.out.size); have HX1 : Hid (Bx w1 w.heap.size #[.int .i64 (i0 : Int), .bool b1, .int .i64 (i2 : Int), .bool b3, .bool b4, .bool b5, .bool b6, .bool b7, .bool b8, .int .i64 (i9 : Int), .slice q0 Q.length qc, .slice a0 A.length ac, .slice u0 U.length uc, .slice d0 D.length dc] 25) := HX.out.below hB1 HX.out.lt; clear hL1 hB1)
    | (go_at_call 5; have _ := T1; clear T1; refine (pack_yes 7 0 0 false false false true false false false (some ⟨g1, 0, none⟩) none none none 1 0 0 0 [exQ] [] [] [] _ L1.out exMsg).mono ?_; rintro e w2 ⟨h2', hB2⟩; rw [if_neg (by rw [exPack]; decide), exPack] at h2'; obtain ⟨p2, c2, rfl, hO2⟩ := h2'; have HB2 := hide' (bstep HB1.out hB2 HB1.out.size); have HX2 : Hid (Bx w2 w.heap.size #[.int .i64 (i0 : Int), .bool b1, .int .i64 (i2 : Int), .bool b3, .bool b4, .bool b5, .bool b6, .bool b7, .bool b8, .int .i64 (i9 : Int), .slice q0 Q.length qc, .slice a0 A.length ac, .slice u0 U.length uc, .slice d0 D.length dc] 25) := HX1.out.below hB2 HX1.out.lt; obtain ⟨m0, m1, m2, m3, m4, m5, m6, m7, m8, m9, m10, m11, m12, m13⟩ := bx14 HX2.out; clear hB2 hO2)
    | (go_at_call 5; refine (pack_yes i0 i2 i9 b1 b3 b4 b5 b6 b7 b8 q0 a0 u0 d0 qc ac uc dc Q A U D _ (HW.out.below HB2.out) hm).mono ?_; rintro e w3 ⟨h3, hB3⟩; rw [HSP.out, HN.out, if_neg hbig] at h3; obtain ⟨p3, c3, rfl, hO3⟩ := h3; have HO3 := hide' (byAt_own hO3); have hc3 : n ≤ c3 := own_cap hO3; have hcn3 := run_cut p3 n c3 n hc3; have HB3 := hide' (bstep HB2.out hB3 HB2.out.size); have T2 : Hid True := trivial; clear hO3 hB3)
    | (go_at_call 7; have _ := T2; clear T2; refine Calls.mono (HU1.out p3 _ HO3.out) ?_; rintro e w4 ⟨r1, r2, r3, r4, z1, z2, z3, z4, rfl, hL4, hB4⟩; have HO4 := hide' (fun o : Obj => (HO3.out.below hB4).al o); have HB4 := hide' (fun o : Obj => below_al (bstep HB3.out hB4 HB3.out.size) o); have hB4s : Hid (w.heap.size ≤ w4.heap.size) := Nat.le_trans HB3.out.size hB4.size; have T3 : Hid True := trivial; clear hL4 hB4)
    | (at_builtin; refine wpList_append_bb _ rfl _ _ rfl w4.heap.size (.slice none 0 0) .empty sP.out p3 c3 rfl (World.ownsRow_nil _ _ _ _) (by rw [HN.out]; rfl) (HO4.out _) (by rw [HN.out]; exact sP_pos HK.out HN.out) (by rw [HN.out]; show 0 + n ≤ _; omega) (by simp) ?_; intro v6 w6 hO6 hg6; rw [empty_app] at hO6; have HB56 := hide' (below_none hg6); have HB6 := hide' (bstep (HB4.out _) HB56.out (HB4.out _).size); rw [HN.out] at hO6; obtain ⟨p6, c6, rfl, _⟩ := own_shape hO6; have HO6 := hide' hO6; clear hO6 hg6)
    | (at_builtin; refine wpList_append_bb _ rfl _ _ rfl w4.heap.size (.slice p6 n c6) sP.out X p cap rfl (by rw [HN.out]; exact HO6.out) rfl (HPB.out.below HB6.out) HT.out.1 (by rw [HN.out]; exact HT.out.2) (Nat.le_trans (by simp) HB56.out.size) ?_; intro v7 w7 hO7 hg7; obtain ⟨p7, c7, rfl, hc7, _⟩ := own_shape hO7; have HO7 := hide' hO7; have HB7 := hide' (below_own (HB4.out _) HB56.out HO6.out hB4s.out hg7); clear hO7 hg7)
    | (go_at_call 7; refine Calls.mono (unpack_more HK.out HT.out.1 (by rw [HN.out]; exact HT.out.2) p7 c7 _ hc7 (byAt_own HO7.out)) ?_; rintro e w8 ⟨rfl, hB8⟩; rw [HN.out]; have HB8 := hide' (bstep HB7.out hB8 HB7.out.size); clear hB8; obtain ⟨wz, hwz⟩ : ∃ wz, w8.alloc (.cells #[.int .i64 0, .bool false, .int .i64 0, .bool false, .bool false, .bool false, .bool false, .bool false, .bool false, .int .i64 0, .slice none 0 0, .slice none 0 0, .slice none 0 0, .slice none 0 0] 25) = wz := ⟨_, rfl⟩; have HBz : Hid (Below w.heap.size w wz) := hwz ▸ HB8.out.alloc HB8.out.size _; have HYz : Hid (Bx wz w8.heap.size #[.int .i64 0, .bool false, .int .i64 0, .bool false, .bool false, .bool false, .bool false, .bool false, .bool false, .int .i64 0, .slice none 0 0, .slice none 0 0, .slice none 0 0, .slice none 0 0] 25) := hwz ▸ World.alloc_heap_new w8 _; obtain ⟨y0, y1, y2, y3, y4, y5, y6, y7, y8, y9, y10, y11, y12, y13⟩ := bx14 HYz.out; obtain ⟨f0, f1, f2, f3, f4, f5, f6, f7, f8, f9, f10, f11, f12, f13⟩ := bx14_free HYz.out; obtain ⟨w9, hw9⟩ : ∃ w9, set14 wz w8.heap.size (.int .i64 0) (.bool false) (.int .i64 0) (.bool false) (.bool false) (.bool false) (.bool false) (.bool false) (.bool false) (.int .i64 0) (.slice none 0 0) (.slice none 0 0) (.slice none 0 0) (.slice none 0 0) = w9 := ⟨_, rfl⟩; have HY9 : Hid (Bx w9 w8.heap.size #[.int .i64 0, .bool false, .int .i64 0, .bool false, .bool false, .bool false, .bool false, .bool false, .bool false, .int .i64 0, .slice none 0 0, .slice none 0 0, .slice none 0 0, .slice none 0 0] 25) := hw9 ▸ bx14_set HYz.out (.int .i64 0) (.bool false) (.int .i64 0) (.bool false) (.bool false) (.bool false) (.bool false) (.bool false) (.bool false) (.int .i64 0) (.slice none 0 0) (.slice none 0 0) (.slice none 0 0) (.slice none 0 0); have HB9 : Hid (Below w.heap.size w w9) := hw9 ▸ below14 HBz.out HB8.out.size HBz.out.size (.int .i64 0) (.bool false) (.int .i64 0) (.bool false) (.bool false) (.bool false) (.bool false) (.bool false) (.bool false) (.int .i64 0) (.slice none 0 0) (.slice none 0 0) (.slice none 0 0) (.slice none 0 0); unfold set14 at hw9; obtain ⟨v0, v1, v2, v3, v4, v5, v6, v7, v8, v9, v10, v11, v12, v13⟩ := bx14 HY9.out)
    | (go_at_call 9; refine (sameNone _).mono ?_; rintro e w10 ⟨rfl, hB10⟩; have HBf := hide' (bstep HB9.out hB10 HB9.out.size); clear hB10))
  go_ret
  exact ⟨rfl, HBf.out⟩
end Go.Proofs.Ytlgogddobjkngaa
