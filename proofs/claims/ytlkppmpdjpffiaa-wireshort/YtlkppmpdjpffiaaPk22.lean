import Derived.Test.YtlkppmpdjpffiaaPk19
import Derived.Test.YtlkppmpdjpffiaaPk26G
namespace Go.Proofs.Ytlkppmpdjpffiaa
set_option linter.unusedVariables false
open Go.RowKit Go.Shelf Go.Maps Go.Proofs.Ytlkppmpdjpffiaa.Nm

set_option maxRecDepth 5000000 in
set_option maxHeartbeats 2000000 in
theorem wireShort_main (i0 i2 i9 : Nat) (b1 b3 b4 b5 b6 b7 b8 : Bool) (q0 a0 u0 d0 : Option Addr) (qc ac uc dc : Nat) (Q : List Qn) (A U D : List Rn) (dt : ByteArray) (w : World) (hl : LsAt w q0 a0 u0 d0 Q A U D) (hm : msgOK i0 i2 i9 Q A U D = true) (hbig : ¬ 65535 < (packS i0 i2 i9 b1 b3 b4 b5 b6 b7 b8 Q A U D).out.size) (hdl : dt.size ≤ 60000) (hq : 0 < Q.length) (hr : Q[0].n ≠ ⟨#[0]⟩) (hdn : d0 = none → dc = 0) :
    Calls Try.prog 3 #[.agg #[.int .i64 (i0 : Int), .bool b1, .int .i64 (i2 : Int), .bool b3, .bool b4, .bool b5, .bool b6, .bool b7, .bool b8, .int .i64 (i9 : Int), .slice q0 Q.length qc, .slice a0 A.length ac, .slice u0 U.length uc, .slice d0 D.length dc], .string dt] w fun e w' => e = .returned (.bool true) ∧ Below w.heap.size w w' := by
  have HX : Hid (Bx (w.alloc (.cells #[.int .i64 (i0 : Int), .bool b1, .int .i64 (i2 : Int), .bool b3, .bool b4, .bool b5, .bool b6, .bool b7, .bool b8, .int .i64 (i9 : Int), .slice q0 Q.length qc, .slice a0 A.length ac, .slice u0 U.length uc, .slice d0 D.length dc] 25)) w.heap.size #[.int .i64 (i0 : Int), .bool b1, .int .i64 (i2 : Int), .bool b3, .bool b4, .bool b5, .bool b6, .bool b7, .bool b8, .int .i64 (i9 : Int), .slice q0 Q.length qc, .slice a0 A.length ac, .slice u0 U.length uc, .slice d0 D.length dc] 25) := World.alloc_heap_new w _
  have HB := hide' ((Below.refl w.heap.size w).alloc (Nat.le_refl _) (.cells #[.int .i64 (i0 : Int), .bool b1, .int .i64 (i2 : Int), .bool b3, .bool b4, .bool b5, .bool b6, .bool b7, .bool b8, .int .i64 (i9 : Int), .slice q0 Q.length qc, .slice a0 A.length ac, .slice u0 U.length uc, .slice d0 D.length dc] 25))
  have HW := hide' hl
  have T1 : Hid True := trivial
  obtain ⟨sP, hsP⟩ : ∃ sP, packS i0 i2 i9 b1 b3 b4 b5 b6 b7 b8 Q A U D = sP := ⟨_, rfl⟩
  rw [hsP] at hbig
  have hple := plainN_le hm
  have hpl := hsP ▸ packS_plain i0 i2 i9 b1 b3 b4 b5 b6 b7 b8 hm
  obtain ⟨PN, hPN⟩ : ∃ n, plainN Q A U D = n := ⟨_, rfl⟩
  have HPN := hide' hPN
  rw [hPN] at hpl
  have HSP := hide' hsP
  have hle : ¬ (PN : Int) < (sP.out.size : Int) := by omega
  obtain ⟨nn, hnn⟩ : ∃ nn, Q[0].n = nn := ⟨_, rfl⟩
  rw [hnn] at hr
  have hq0 : ((Q.length : Int) == 0) = false := by rw [beq_eq_false_iff_ne]; omega
  have hrt : (nn.toList == [0]) = false := by rw [beq_eq_false_iff_ne]; intro e; exact hr (toList_inj.1 (e.trans (by rw [toList_eq])))
  have hdI : ¬ (60000 : Int) < (dt.size : Int) := by omega
  have hld : D.length ≤ 65535 := (msgOK_parts hm).2.2.2.2.2.2.1
  obtain ⟨i0', hi, hz0, hz1, hz2⟩ := info_parts Try.infoRec
  have HDN := hide' hdn
  clear hl hsP hPN hpl hdn
  go_enter Try.func3, Try.ntmps3
  go_wp2_with (first
    | (go_at_call 5; have _ := T1; clear T1; refine (question_any _).mono ?_; rintro e w1 ⟨g1, rfl, hL1, hB1⟩; have L1 := hide' hL1; have HB1 := hide' (bstep HB.out hB1 HB.out.size); have HX1 : Hid (Bx w1 w.heap.size #[.int .i64 (i0 : Int), .bool b1, .int .i64 (i2 : Int), .bool b3, .bool b4, .bool b5, .bool b6, .bool b7, .bool b8, .int .i64 (i9 : Int), .slice q0 Q.length qc, .slice a0 A.length ac, .slice u0 U.length uc, .slice d0 D.length dc] 25) := HX.out.below hB1 HX.out.lt; have T2 : Hid True := trivial; clear hL1 hB1)
    | (go_at_call 4; have _ := T2; clear T2; refine (pack_yes 7 0 0 false false false true false false false (some ⟨g1, 0, none⟩) none none none 1 0 0 0 [exQ] [] [] [] _ L1.out exMsg).mono ?_; rintro e w2 ⟨h2, hB2⟩; rw [if_neg (by rw [exPack]; decide), exPack] at h2; obtain ⟨p2, c2, rfl, hO2⟩ := h2; have HB2 := hide' (bstep HB1.out hB2 HB1.out.size); have HX2 : Hid (Bx w2 w.heap.size #[.int .i64 (i0 : Int), .bool b1, .int .i64 (i2 : Int), .bool b3, .bool b4, .bool b5, .bool b6, .bool b7, .bool b8, .int .i64 (i9 : Int), .slice q0 Q.length qc, .slice a0 A.length ac, .slice u0 U.length uc, .slice d0 D.length dc] 25) := HX1.out.below hB2 HX1.out.lt; clear hB2 hO2)
    | (go_at_call 5; refine (question_any _).mono ?_; rintro e w3 ⟨g3, rfl, hL3, hB3⟩; have L3 := hide' hL3; have HB3 := hide' (bstep HB2.out hB3 HB2.out.size); have HX3 : Hid (Bx w3 w.heap.size #[.int .i64 (i0 : Int), .bool b1, .int .i64 (i2 : Int), .bool b3, .bool b4, .bool b5, .bool b6, .bool b7, .bool b8, .int .i64 (i9 : Int), .slice q0 Q.length qc, .slice a0 A.length ac, .slice u0 U.length uc, .slice d0 D.length dc] 25) := HX2.out.below hB3 HX2.out.lt; have T3 : Hid True := trivial; clear hL3 hB3)
    | (go_at_call 6; have _ := T3; clear T3; refine (plain_any 7 0 0 false false false true false false false (some ⟨g3, 0, none⟩) none none none 1 0 0 0 [exQ] [] [] [] _ L3.out (by rw [exPlain]; decide)).mono ?_; rintro e w4 ⟨rfl, hB4⟩; rw [exPlain]; have HB4 := hide' (bstep HB3.out hB4 HB3.out.size); have HX4 : Hid (Bx w4 w.heap.size #[.int .i64 (i0 : Int), .bool b1, .int .i64 (i2 : Int), .bool b3, .bool b4, .bool b5, .bool b6, .bool b7, .bool b8, .int .i64 (i9 : Int), .slice q0 Q.length qc, .slice a0 A.length ac, .slice u0 U.length uc, .slice d0 D.length dc] 25) := HX3.out.below hB4 HX3.out.lt; obtain ⟨m0, m1, m2, m3, m4, m5, m6, m7, m8, m9, m10, m11, m12, m13⟩ := bx14c HX4.out; clear hB4)
    | (go_at_call 4; refine (pack_yes i0 i2 i9 b1 b3 b4 b5 b6 b7 b8 q0 a0 u0 d0 qc ac uc dc Q A U D _ (HW.out.below HB4.out) hm).mono ?_; rintro e w5 ⟨h5, hB5⟩; rw [HSP.out, if_neg hbig] at h5; obtain ⟨p5, c5, rfl, hO5⟩ := h5; clear hO5; have HX5 : Hid (Bx w5 w.heap.size #[.int .i64 (i0 : Int), .bool b1, .int .i64 (i2 : Int), .bool b3, .bool b4, .bool b5, .bool b6, .bool b7, .bool b8, .int .i64 (i9 : Int), .slice q0 Q.length qc, .slice a0 A.length ac, .slice u0 U.length uc, .slice d0 D.length dc] 25) := HX4.out.below hB5 HX4.out.lt; obtain ⟨n0, n1, n2, n3, n4, n5, n6, n7, n8, n9, n10, n11, n12, n13⟩ := bx14c HX5.out; have HB5 := hide' (bstep HB4.out hB5 HB4.out.size); clear hB5)
    | (go_at_call 6; refine (plain_any i0 i2 i9 b1 b3 b4 b5 b6 b7 b8 q0 a0 u0 d0 qc ac uc dc Q A U D _ (HW.out.below HB5.out) hple).mono ?_; rintro e w6 ⟨rfl, hB6⟩; rw [HPN.out]; have HX6 : Hid (Bx w6 w.heap.size #[.int .i64 (i0 : Int), .bool b1, .int .i64 (i2 : Int), .bool b3, .bool b4, .bool b5, .bool b6, .bool b7, .bool b8, .int .i64 (i9 : Int), .slice q0 Q.length qc, .slice a0 A.length ac, .slice u0 U.length uc, .slice d0 D.length dc] 25) := HX5.out.below hB6 HX5.out.lt; have HB6 := hide' (bstep HB5.out hB6 HB5.out.size); have o10 : w6.cell? ⟨w.heap.size, 10, none⟩ = some (.slice q0 Q.length qc) := HX6.out.cell rfl; obtain ⟨gq, oq, rfl, hgq, k0, _⟩ := qsAt_below HW.out.q HB6.out 0 hq; have k00 : w6.cell? ⟨gq, oq, none⟩ = some (.string nn) := hnn ▸ (by simpa using k0); clear k0; have o13 : w6.cell? ⟨w.heap.size, 13, none⟩ = some (.slice d0 D.length dc) := HX6.out.cell rfl; obtain ⟨z0, z1, z2, z3, z4, z5, z6, z7, z8, z9, _, z11, z12, _⟩ := bx14c HX6.out; clear hB6))
  obtain ⟨W0, hW0⟩ : ∃ W0, w6.alloc (.cells #[.int .i64 (i0 : Int), .bool b1, .int .i64 (i2 : Int), .bool b3, .bool b4, .bool b5, .bool b6, .bool b7, .bool b8, .int .i64 (i9 : Int), .slice (some ⟨gq, oq, none⟩) Q.length qc, .slice a0 A.length ac, .slice u0 U.length uc, .slice d0 D.length dc] 25) = W0 := ⟨_, rfl⟩
  have X0 : Hid (Bx W0 w.heap.size #[.int .i64 (i0 : Int), .bool b1, .int .i64 (i2 : Int), .bool b3, .bool b4, .bool b5, .bool b6, .bool b7, .bool b8, .int .i64 (i9 : Int), .slice (some ⟨gq, oq, none⟩) Q.length qc, .slice a0 A.length ac, .slice u0 U.length uc, .slice d0 D.length dc] 25) := hW0 ▸ (HX6.out.below ((Below.refl w6.heap.size w6).alloc (Nat.le_refl _) _) HX6.out.lt)
  have Y0 : Hid (Bx W0 w6.heap.size #[.int .i64 (i0 : Int), .bool b1, .int .i64 (i2 : Int), .bool b3, .bool b4, .bool b5, .bool b6, .bool b7, .bool b8, .int .i64 (i9 : Int), .slice (some ⟨gq, oq, none⟩) Q.length qc, .slice a0 A.length ac, .slice u0 U.length uc, .slice d0 D.length dc] 25) := hW0 ▸ bx_new w6 _ _
  have HB0 : Hid (Below w.heap.size w W0) := hW0 ▸ HB6.out.alloc HB6.out.size _
  have p13 : W0.cell? ⟨w.heap.size, 13, none⟩ = some (.slice d0 D.length dc) := X0.out.cell rfl
  have p10 : W0.cell? ⟨w.heap.size, 10, none⟩ = some (.slice (some ⟨gq, oq, none⟩) Q.length qc) := X0.out.cell rfl
  have pnn : W0.cell? ⟨gq, oq, none⟩ = some (.string nn) := by rw [← hW0]; exact cell_alloc_l _ k00
  have y13 : W0.frozen? ⟨w6.heap.size, 13, none⟩ = false := Y0.out.free 13
  have HRD : Hid (∀ W : World, Below w.heap.size w W → RsAt W d0 D) := fun W hb => (HW.out.below hb).d
  have HZ6 : Hid (W0.heap.size = w6.heap.size + 1) := by unfold Hid; rw [← hW0, World.size_alloc]
  rw [hW0]
  clear hW0 z0 z1 z2 z3 z4 z5 z6 z7 z8 z9 z11 z12 n0 n1 n2 n3 n4 n5 n6 n7 n8 n9 n10 n11 n12 n13 m0 m1 m2 m3 m4 m5 m6 m7 m8 m9 m10 m11 m12 m13 o10 o13 k00
  have hz6 : W0.heap.size = w6.heap.size + 1 := HZ6.out
  have hxl := HX6.out.lt
  refine short_both _ i0 i2 i9 b1 b3 b4 b5 b6 b7 b8 a0 u0 d0 gq oq qc ac uc dc w6.heap.size sP.out.size c5 p5 Q A U D dt nn w W0 HW (hide' hm) (by unfold Hid; rw [HSP.out]) (by omega) hq (hide' hnn) (hide' hr) hdl HDN hld ⟨HB0.out, Nat.le_refl _, X0.out, Y0.out, pnn, by omega, HRD.out _ HB0.out, HB0.out.size⟩ hxl hgq (show w6.heap.size < W0.heap.size by omega) _ _ _ _ _ _ _ _ _ _ _ _ _ _ _ _ _ _ _ _ _ _ _ _ _ _ _ _ _ _ _ _ _ _ _ _ _ _ _ _ _ _ _ _ _ _ _ _ _ _ _ _ _ _ _ _ _ _ _ _ _ _ _ _ _ _ _ _ _ _ _ _ _ _ _ _ _ _ _ _ _ _ _ _ _ _ _ _ _ _ _ _ _ _ _ _ _ _ _ _ _ _ _ ?_
  assumption
end Go.Proofs.Ytlkppmpdjpffiaa
