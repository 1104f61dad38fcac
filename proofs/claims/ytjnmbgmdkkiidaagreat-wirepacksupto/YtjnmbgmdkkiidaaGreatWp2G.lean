import Derived.Test.YtjnmbgmdkkiidaaGreatWp1
import Derived.Test.YtjnmbgmdkkiidaaGreatFr0G
/-
  The law WirePacks, where m is packed. (The verifier's own text.)
-/
namespace Go.Proofs.YtjnmbgmdkkiidaaGreat
set_option linter.unusedVariables false
set_option linter.unusedSimpArgs false
open Go.RowKit Go.Shelf Go.Maps Go.Proofs.YtjnmbgmdkkiidaaGreat.Nm

theorem own_firstW {w : World} {base e size : Nat} {p : Option Addr} {n c : Nat} {xs : List Value} (h : w.ownsRow base e size (.slice p n c) n xs) (hn : 0 < n) : ∃ g, p = some ⟨g, 0, none⟩ := by
  rcases h.2 with ⟨h1, h0⟩ | ⟨g, cap, cur, h1, _⟩
  · omega
  · injection h1 with h1
    exact ⟨g, h1⟩
theorem own_setN {w : World} {base g cap N : Nat} {o : ByteArray} (h : w.ownsRow base 5 1 (.slice (some ⟨g, 0, none⟩) N cap) N (Lib.strCells o)) (hs : o.size = N) (k x : Nat) (hk : k < N) (hx : x < 256) : ∃ o' : ByteArray, o'.size = N ∧ (w.setCell ⟨g, k, none⟩ (.int .u8 (x : Int))).ownsRow base 5 1 (.slice (some ⟨g, 0, none⟩) N cap) N (Lib.strCells o') := by
  subst hs
  exact ⟨_, Array.size_setIfInBounds, own_setB h k x hk hx⟩
theorem own_byteN {w : World} {base g cap N : Nat} {o : ByteArray} (h : w.ownsRow base 5 1 (.slice (some ⟨g, 0, none⟩) N cap) N (Lib.strCells o)) (hs : o.size = N) (k : Nat) (hk : k < N) : ∃ x : Int, w.cell? ⟨g, k, none⟩ = some (.int .u8 x) ∧ w.frozen? ⟨g, k, none⟩ = false := by
  subst hs
  have hk' : k < o.data.size := hk
  refine ⟨((o.data[k]'hk').toNat : Int), ?_, h.frozenAt k⟩
  rw [h.cellAt k (by omega)]
  simp only [Lib.strCells, List.getElem?_map, Array.getElem?_toList, Array.getElem?_eq_getElem hk', Option.map_some]
theorem xor_u8 (x : Int) : ∃ y : Nat, y < 256 ∧ bits .xor .u8 x 255 = (y : Int) := by
  refine ⟨(bits .xor .u8 x 255).toNat, ?_, ?_⟩
  all_goals
    have h : bits .xor .u8 x 255 = IntKind.u8.wrap ((BitVec.ofInt 8 x ^^^ BitVec.ofInt 8 255).toNat : Int) := rfl
    rw [h]
    simp [IntKind.wrap, IntKind.bits, IntKind.signed]
    omega
theorem own_keepW {w w' : World} {base e size n : Nat} {v : Value} {xs : List Value} {g : Nat} (h : w.ownsRow base e size v n xs) (hg : w.grownBy w' (some g)) (hne : g < base) : w'.ownsRow base e size v n xs :=
  own_blk h (fun q eq => hg.block q (h.lt q eq).2 (fun e => by have := (h.lt q eq).1; injection e with e; omega))

set_option maxRecDepth 100000 in
set_option maxHeartbeats 8000000 in
theorem packs_yes (i0 i2 i9 : Nat) (b1 b3 b4 b5 b6 b7 b8 : Bool) (q0 a0 u0 d0 : Option Addr) (qc ac uc dc : Nat) (Q : List Qn) (A U D : List Rn) (w : World) (hl : LsAt w q0 a0 u0 d0 Q A U D) (hz : ZOk Q A U D) (hnq : q0 = none → qc = 0) (hn : (a0 = none → ac = 0) ∧ (u0 = none → uc = 0) ∧ (d0 = none → dc = 0)) (hln : Q.length ≤ 1048576 ∧ A.length ≤ 1048576 ∧ U.length ≤ 1048576 ∧ D.length ≤ 1048576) (hm : msgOK i0 i2 i9 Q A U D = true) (O : ByteArray) (hO : (packS i0 i2 i9 b1 b3 b4 b5 b6 b7 b8 Q A U D).out = O) (hsm : ¬ 65535 < O.size) (hpos : 0 < O.size) :
    Calls Tryz.prog 3 #[.agg #[.int .i64 (i0 : Int), .bool b1, .int .i64 (i2 : Int), .bool b3, .bool b4, .bool b5, .bool b6, .bool b7, .bool b8, .int .i64 (i9 : Int), .slice q0 Q.length qc, .slice a0 A.length ac, .slice u0 U.length uc, .slice d0 D.length dc]] w fun e w' => e = .returned (.bool true) ∧ Below w.heap.size w w' := by
  have HX0 : Hid (Bx (w.alloc (.cells #[.int .i64 (i0 : Int), .bool b1, .int .i64 (i2 : Int), .bool b3, .bool b4, .bool b5, .bool b6, .bool b7, .bool b8, .int .i64 (i9 : Int), .slice q0 Q.length qc, .slice a0 A.length ac, .slice u0 U.length uc, .slice d0 D.length dc] 25)) w.heap.size #[.int .i64 (i0 : Int), .bool b1, .int .i64 (i2 : Int), .bool b3, .bool b4, .bool b5, .bool b6, .bool b7, .bool b8, .int .i64 (i9 : Int), .slice q0 Q.length qc, .slice a0 A.length ac, .slice u0 U.length uc, .slice d0 D.length dc] 25) := World.alloc_heap_new w _
  have HB0 := hide' ((Below.refl w.heap.size w).alloc (Nat.le_refl _) (.cells #[.int .i64 (i0 : Int), .bool b1, .int .i64 (i2 : Int), .bool b3, .bool b4, .bool b5, .bool b6, .bool b7, .bool b8, .int .i64 (i9 : Int), .slice q0 Q.length qc, .slice a0 A.length ac, .slice u0 U.length uc, .slice d0 D.length dc] 25))
  have HL := hide' hl
  have HZ := hide' hz
  have HNQ := hide' hnq
  have HN := hide' hn
  have HLN := hide' hln
  have HHM := hide' hm
  have HOO := hide' hO
  have HSM := hide' hsm
  have HPO := hide' hpos
  have HLM : Hid (Q.length ≤ maxLen ∧ A.length ≤ maxLen ∧ U.length ≤ maxLen ∧ D.length ≤ maxLen) := by
    have := hln
    unfold Hid maxLen
    omega
  obtain ⟨x0, x1, x2, x3, x4, x5, x6, x7, x8, x9, x10, x11, x12, x13⟩ := bx14 HX0.out
  clear hl hz hnq hn hln hm hO hsm hpos
  have T1 : Hid True := trivial
  go_enter Tryz.func3, Tryz.ntmps3
  go_upto_region 4 with (first
    | (go_at_call 5; refine (twinM_any (i0 : Int) (i2 : Int) (i9 : Int) b1 b3 b4 b5 b6 b7 b8 q0 a0 u0 d0 qc ac uc dc Q A U D _ (HL.out.below HB0.out) HNQ.out HN.out HLN.out).mono ?_; rintro e w1 ⟨q1, ga, gu, gd, c1, ca, cu, cd, rfl, ht, hB⟩; have HT1 := hide' ht; have HB1 := hide' (bstep HB0.out hB HB0.out.size); have HX1 : Hid (Bx w1 w.heap.size #[.int .i64 (i0 : Int), .bool b1, .int .i64 (i2 : Int), .bool b3, .bool b4, .bool b5, .bool b6, .bool b7, .bool b8, .int .i64 (i9 : Int), .slice q0 Q.length qc, .slice a0 A.length ac, .slice u0 U.length uc, .slice d0 D.length dc] 25) := HX0.out.below hB HX0.out.lt; clear ht hB; obtain ⟨w2, hw2⟩ : ∃ w2, w1.alloc (.cells #[.int .i64 (i0 : Int), .bool b1, .int .i64 (i2 : Int), .bool b3, .bool b4, .bool b5, .bool b6, .bool b7, .bool b8, .int .i64 (i9 : Int), .slice q1 Q.length c1, .slice (some ⟨ga, 0, none⟩) A.length ca, .slice (some ⟨gu, 0, none⟩) U.length cu, .slice (some ⟨gd, 0, none⟩) D.length cd] 25) = w2 := ⟨_, rfl⟩; have HG : Hid (Below w1.heap.size w1 w2) := hw2 ▸ (Below.refl _ w1).alloc (Nat.le_refl _) _; have HT2 := hide' (HT1.out.below HG.out); have HB2 := hide' (bstep HB1.out HG.out HB1.out.size); have HX2 : Hid (Bx w2 w.heap.size #[.int .i64 (i0 : Int), .bool b1, .int .i64 (i2 : Int), .bool b3, .bool b4, .bool b5, .bool b6, .bool b7, .bool b8, .int .i64 (i9 : Int), .slice q0 Q.length qc, .slice a0 A.length ac, .slice u0 U.length uc, .slice d0 D.length dc] 25) := HX1.out.below HG.out HX1.out.lt; have HY2 : Hid (Bx w2 w1.heap.size #[.int .i64 (i0 : Int), .bool b1, .int .i64 (i2 : Int), .bool b3, .bool b4, .bool b5, .bool b6, .bool b7, .bool b8, .int .i64 (i9 : Int), .slice q1 Q.length c1, .slice (some ⟨ga, 0, none⟩) A.length ca, .slice (some ⟨gu, 0, none⟩) U.length cu, .slice (some ⟨gd, 0, none⟩) D.length cd] 25) := hw2 ▸ World.alloc_heap_new w1 _; have HLO2 := hide' (HT2.out.ls HL.out); have HC2 := hide' (Below.refl w2.heap.size w2); clear x0 x1 x2 x3 x4 x5 x6 x7 x8 x9 x10 x11 x12 x13; obtain ⟨x0, x1, x2, x3, x4, x5, x6, x7, x8, x9, x10, x11, x12, x13⟩ := bx14 HX2.out; obtain ⟨y0, y1, y2, y3, y4, y5, y6, y7, y8, y9, y10, y11, y12, y13⟩ := bx14 HY2.out; have T2 : Hid True := trivial)
    | (go_at_call 6; have _ := T2; clear T2; refine (pack_yes i0 i2 i9 b1 b3 b4 b5 b6 b7 b8 q1 (some ⟨ga, 0, none⟩) (some ⟨gu, 0, none⟩) (some ⟨gd, 0, none⟩) c1 ca cu cd Q A U D _ HLO2.out HHM.out).mono ?_; rintro e w3 ⟨hh, hB⟩; rw [HOO.out, if_neg HSM.out] at hh; obtain ⟨p1, k1, rfl, ho1⟩ := hh; obtain ⟨g1, rfl⟩ := own_firstW ho1 HPO.out; have HR3 : Hid (w3.ownsRow w2.heap.size 5 1 (.slice (some ⟨g1, 0, none⟩) O.size k1) O.size (Go.Lib.strCells O)) := ho1; clear ho1; have HB3 := hide' (bstep HB2.out hB HB2.out.size); have HC3 := hide' (bstep HC2.out hB HC2.out.size); have HX3 : Hid (Bx w3 w.heap.size #[.int .i64 (i0 : Int), .bool b1, .int .i64 (i2 : Int), .bool b3, .bool b4, .bool b5, .bool b6, .bool b7, .bool b8, .int .i64 (i9 : Int), .slice q0 Q.length qc, .slice a0 A.length ac, .slice u0 U.length uc, .slice d0 D.length dc] 25) := HX2.out.below hB HX2.out.lt; have HY3 : Hid (Bx w3 w1.heap.size #[.int .i64 (i0 : Int), .bool b1, .int .i64 (i2 : Int), .bool b3, .bool b4, .bool b5, .bool b6, .bool b7, .bool b8, .int .i64 (i9 : Int), .slice q1 Q.length c1, .slice (some ⟨ga, 0, none⟩) A.length ca, .slice (some ⟨gu, 0, none⟩) U.length cu, .slice (some ⟨gd, 0, none⟩) D.length cd] 25) := HY2.out.below hB HY2.out.lt; have HT3 := hide' (HT2.out.below hB); have HLO3 := hide' (HLO2.out.below hB); clear hB x0 x1 x2 x3 x4 x5 x6 x7 x8 x9 x10 x11 x12 x13 y0 y1 y2 y3 y4 y5 y6 y7 y8 y9 y10 y11 y12 y13; obtain ⟨x0, x1, x2, x3, x4, x5, x6, x7, x8, x9, x10, x11, x12, x13⟩ := bx14 HX3.out; obtain ⟨y0, y1, y2, y3, y4, y5, y6, y7, y8, y9, y10, y11, y12, y13⟩ := bx14 HY3.out; have T3 : Hid True := trivial)
    | (go_at_call 7; refine (refPack_yes i0 i2 i9 b1 b3 b4 b5 b6 b7 b8 q0 a0 u0 d0 qc ac uc dc Q A U D _ (HL.out.below HB3.out) HZ.out HN.out HLM.out HHM.out).mono ?_; rintro e w4 ⟨hh, hB⟩; rw [HOO.out, if_neg HSM.out] at hh; obtain ⟨p2, k2, rfl, ho2⟩ := hh; have HS4 : Hid (w4.ownsRow w3.heap.size 5 1 (.slice p2 O.size k2) O.size (Go.Lib.strCells O)) := ho2; clear ho2; have HR4 : Hid (w4.ownsRow w2.heap.size 5 1 (.slice (some ⟨g1, 0, none⟩) O.size k1) O.size (Go.Lib.strCells O)) := own_below HR3.out hB; have HB4 := hide' (bstep HB3.out hB HB3.out.size); have HC4 := hide' (bstep HC3.out hB HC3.out.size); have HX4 : Hid (Bx w4 w.heap.size #[.int .i64 (i0 : Int), .bool b1, .int .i64 (i2 : Int), .bool b3, .bool b4, .bool b5, .bool b6, .bool b7, .bool b8, .int .i64 (i9 : Int), .slice q0 Q.length qc, .slice a0 A.length ac, .slice u0 U.length uc, .slice d0 D.length dc] 25) := HX3.out.below hB HX3.out.lt; have HY4 : Hid (Bx w4 w1.heap.size #[.int .i64 (i0 : Int), .bool b1, .int .i64 (i2 : Int), .bool b3, .bool b4, .bool b5, .bool b6, .bool b7, .bool b8, .int .i64 (i9 : Int), .slice q1 Q.length c1, .slice (some ⟨ga, 0, none⟩) A.length ca, .slice (some ⟨gu, 0, none⟩) U.length cu, .slice (some ⟨gd, 0, none⟩) D.length cd] 25) := HY3.out.below hB HY3.out.lt; have HT4 := hide' (HT3.out.below hB); have HLO4 := hide' (HLO3.out.below hB); clear hB x0 x1 x2 x3 x4 x5 x6 x7 x8 x9 x10 x11 x12 x13 y0 y1 y2 y3 y4 y5 y6 y7 y8 y9 y10 y11 y12 y13; obtain ⟨x0, x1, x2, x3, x4, x5, x6, x7, x8, x9, x10, x11, x12, x13⟩ := bx14 HX4.out; obtain ⟨y0, y1, y2, y3, y4, y5, y6, y7, y8, y9, y10, y11, y12, y13⟩ := bx14 HY4.out))
  rename_i K hK
  have HK := hide' hK
  clear hK
  go_wp2_with fail
  go_region_held3 (fun W => W.cell? ⟨w.heap.size, 0, none⟩ = some (.int .i64 (i0 : Int)) ∧ W.cell? ⟨w.heap.size, 1, none⟩ = some (.bool b1) ∧ W.cell? ⟨w.heap.size, 2, none⟩ = some (.int .i64 (i2 : Int)) ∧ W.cell? ⟨w.heap.size, 3, none⟩ = some (.bool b3) ∧ W.cell? ⟨w.heap.size, 4, none⟩ = some (.bool b4) ∧ W.cell? ⟨w.heap.size, 5, none⟩ = some (.bool b5) ∧ W.cell? ⟨w.heap.size, 6, none⟩ = some (.bool b6) ∧ W.cell? ⟨w.heap.size, 7, none⟩ = some (.bool b7) ∧ W.cell? ⟨w.heap.size, 8, none⟩ = some (.bool b8) ∧ W.cell? ⟨w.heap.size, 9, none⟩ = some (.int .i64 (i9 : Int)) ∧ W.cell? ⟨w.heap.size, 10, none⟩ = some (.slice q0 Q.length qc) ∧ W.cell? ⟨w.heap.size, 11, none⟩ = some (.slice a0 A.length ac) ∧ W.cell? ⟨w.heap.size, 12, none⟩ = some (.slice u0 U.length uc) ∧ W.cell? ⟨w.heap.size, 13, none⟩ = some (.slice d0 D.length dc) ∧ W.cell? ⟨w1.heap.size, 0, none⟩ = some (.int .i64 (i0 : Int)) ∧ W.cell? ⟨w1.heap.size, 1, none⟩ = some (.bool b1) ∧ W.cell? ⟨w1.heap.size, 2, none⟩ = some (.int .i64 (i2 : Int)) ∧ W.cell? ⟨w1.heap.size, 3, none⟩ = some (.bool b3) ∧ W.cell? ⟨w1.heap.size, 4, none⟩ = some (.bool b4) ∧ W.cell? ⟨w1.heap.size, 5, none⟩ = some (.bool b5) ∧ W.cell? ⟨w1.heap.size, 6, none⟩ = some (.bool b6) ∧ W.cell? ⟨w1.heap.size, 7, none⟩ = some (.bool b7) ∧ W.cell? ⟨w1.heap.size, 8, none⟩ = some (.bool b8) ∧ W.cell? ⟨w1.heap.size, 9, none⟩ = some (.int .i64 (i9 : Int)) ∧ W.cell? ⟨w1.heap.size, 10, none⟩ = some (.slice q1 Q.length c1) ∧ W.cell? ⟨w1.heap.size, 11, none⟩ = some (.slice (some ⟨ga, 0, none⟩) A.length ca) ∧ W.cell? ⟨w1.heap.size, 12, none⟩ = some (.slice (some ⟨gu, 0, none⟩) U.length cu) ∧ W.cell? ⟨w1.heap.size, 13, none⟩ = some (.slice (some ⟨gd, 0, none⟩) D.length cd)) (first | go_keep | exact cells28 HX7.out HY7.out | exact cells28 HX6.out HY6.out | exact cells28 HX5.out HY5.out | exact cells28 HX4.out HY4.out) (first
    | (go_at_call 8; refine (wholeM_any (i0 : Int) (i2 : Int) (i9 : Int) b1 b3 b4 b5 b6 b7 b8 q0 a0 u0 d0 q1 ga gu gd ca cu cd c1 qc ac uc dc Q A U D _ (by first | exact HT4.out | exact ⟨HT4.out.q, HT4.out.a, HT4.out.u, HT4.out.d, HT4.out.ka, HT4.out.ku, HT4.out.kd⟩) (by first | exact HL.out.below HB4.out | exact HL.out.below HB4.out.drew) HLN.out).mono ?_; rintro e w5 ⟨rfl, hB⟩; have HB5 : Hid (Below w.heap.size w w5) := (by first | exact bstep HB4.out hB HB4.out.size | exact bstep HB4.out.drew hB HB4.out.size); have HC5 : Hid (Below w2.heap.size w2 w5) := (by first | exact bstep HC4.out hB HC4.out.size | exact bstep HC4.out.drew hB HC4.out.size); have HX5 : Hid (Bx w5 w.heap.size #[.int .i64 (i0 : Int), .bool b1, .int .i64 (i2 : Int), .bool b3, .bool b4, .bool b5, .bool b6, .bool b7, .bool b8, .int .i64 (i9 : Int), .slice q0 Q.length qc, .slice a0 A.length ac, .slice u0 U.length uc, .slice d0 D.length dc] 25) := (by first | exact HX4.out.below hB HX4.out.lt | exact Bx.below (w := w4.drew) HX4.out hB HX4.out.lt); have HY5 : Hid (Bx w5 w1.heap.size #[.int .i64 (i0 : Int), .bool b1, .int .i64 (i2 : Int), .bool b3, .bool b4, .bool b5, .bool b6, .bool b7, .bool b8, .int .i64 (i9 : Int), .slice q1 Q.length c1, .slice (some ⟨ga, 0, none⟩) A.length ca, .slice (some ⟨gu, 0, none⟩) U.length cu, .slice (some ⟨gd, 0, none⟩) D.length cd] 25) := (by first | exact HY4.out.below hB HY4.out.lt | exact Bx.below (w := w4.drew) HY4.out hB HY4.out.lt); have HR5 : Hid (w5.ownsRow w2.heap.size 5 1 (.slice (some ⟨g1, 0, none⟩) O.size k1) O.size (Go.Lib.strCells O)) := (by first | exact own_below HR4.out hB | exact own_below (w := w4.drew) HR4.out hB); have HS5 : Hid (w5.ownsRow w3.heap.size 5 1 (.slice p2 O.size k2) O.size (Go.Lib.strCells O)) := (by first | exact own_below HS4.out hB | exact own_below (w := w4.drew) HS4.out hB); have HT5 : Hid (Tn4 w5 q1 ga gu gd ca cu cd Q A U D) := (by first | exact HT4.out.below hB | exact Tn4.below (w := w4.drew) ⟨HT4.out.q, HT4.out.a, HT4.out.u, HT4.out.d, HT4.out.ka, HT4.out.ku, HT4.out.kd⟩ hB); have HLO5 := hide' (HT5.out.ls HL.out); clear hB)
    | (go_at_call 9; refine (sameBytes (.slice (some ⟨g1, 0, none⟩) O.size k1) (.slice p2 O.size k2) O _ (by first | exact own_text HR5.out | exact own_text (W := w5.drew) HR5.out) (by first | exact own_text HS5.out | exact own_text (W := w5.drew) HS5.out)).mono ?_; rintro e wq ⟨rfl, hq⟩; have hq' := hq.symm; clear hq; subst hq')
    | (go_at_call 10; refine (wcheck_any (i0 : Int) (i2 : Int) (i9 : Int) b1 b3 b4 b5 b6 b7 b8 q1 (some ⟨ga, 0, none⟩) (some ⟨gu, 0, none⟩) (some ⟨gd, 0, none⟩) c1 ca cu cd Q A U D _ (by first | exact HLO5.out | exact HLO5.out.below ((Below.refl _ _).drew))).mono ?_; rintro e w6 ⟨he, hB⟩; rw [HHM.out] at he; simp only [if_true, if_false, Bool.false_eq_true] at he; subst he; have HB6 : Hid (Below w.heap.size w w6) := (by first | exact bstep HB5.out hB HB5.out.size | exact bstep HB5.out.drew hB HB5.out.size); have HC6 : Hid (Below w2.heap.size w2 w6) := (by first | exact bstep HC5.out hB HC5.out.size | exact bstep HC5.out.drew hB HC5.out.size); have HX6 : Hid (Bx w6 w.heap.size #[.int .i64 (i0 : Int), .bool b1, .int .i64 (i2 : Int), .bool b3, .bool b4, .bool b5, .bool b6, .bool b7, .bool b8, .int .i64 (i9 : Int), .slice q0 Q.length qc, .slice a0 A.length ac, .slice u0 U.length uc, .slice d0 D.length dc] 25) := (by first | exact HX5.out.below hB HX5.out.lt | exact Bx.below (w := w5.drew) HX5.out hB HX5.out.lt); have HY6 : Hid (Bx w6 w1.heap.size #[.int .i64 (i0 : Int), .bool b1, .int .i64 (i2 : Int), .bool b3, .bool b4, .bool b5, .bool b6, .bool b7, .bool b8, .int .i64 (i9 : Int), .slice q1 Q.length c1, .slice (some ⟨ga, 0, none⟩) A.length ca, .slice (some ⟨gu, 0, none⟩) U.length cu, .slice (some ⟨gd, 0, none⟩) D.length cd] 25) := (by first | exact HY5.out.below hB HY5.out.lt | exact Bx.below (w := w5.drew) HY5.out hB HY5.out.lt); have HR6 : Hid (w6.ownsRow w2.heap.size 5 1 (.slice (some ⟨g1, 0, none⟩) O.size k1) O.size (Go.Lib.strCells O)) := (by first | exact own_below HR5.out hB | exact own_below (w := w5.drew) HR5.out hB); have HS6 : Hid (w6.ownsRow w3.heap.size 5 1 (.slice p2 O.size k2) O.size (Go.Lib.strCells O)) := (by first | exact own_below HS5.out hB | exact own_below (w := w5.drew) HS5.out hB); have HT6 : Hid (Tn4 w6 q1 ga gu gd ca cu cd Q A U D) := (by first | exact HT5.out.below hB | exact Tn4.below (w := w5.drew) ⟨HT5.out.q, HT5.out.a, HT5.out.u, HT5.out.d, HT5.out.ka, HT5.out.ku, HT5.out.kd⟩ hB); have HLO6 := hide' (HT6.out.ls HL.out); clear hB)
    | (go_at_call 11; refine (refCheck_any (i0 : Int) (i2 : Int) (i9 : Int) b1 b3 b4 b5 b6 b7 b8 q0 a0 u0 d0 qc ac uc dc Q A U D _ (by first | exact HL.out.below HB6.out | exact HL.out.below HB6.out.drew) HZ.out HLM.out).mono ?_; rintro e w7 ⟨he, hB⟩; rw [HHM.out] at he; unfold chkV at he; simp only [if_true, if_false, Bool.false_eq_true] at he; subst he; have HB7 : Hid (Below w.heap.size w w7) := (by first | exact bstep HB6.out hB HB6.out.size | exact bstep HB6.out.drew hB HB6.out.size); have HC7 : Hid (Below w2.heap.size w2 w7) := (by first | exact bstep HC6.out hB HC6.out.size | exact bstep HC6.out.drew hB HC6.out.size); have HX7 : Hid (Bx w7 w.heap.size #[.int .i64 (i0 : Int), .bool b1, .int .i64 (i2 : Int), .bool b3, .bool b4, .bool b5, .bool b6, .bool b7, .bool b8, .int .i64 (i9 : Int), .slice q0 Q.length qc, .slice a0 A.length ac, .slice u0 U.length uc, .slice d0 D.length dc] 25) := (by first | exact HX6.out.below hB HX6.out.lt | exact Bx.below (w := w6.drew) HX6.out hB HX6.out.lt); have HY7 : Hid (Bx w7 w1.heap.size #[.int .i64 (i0 : Int), .bool b1, .int .i64 (i2 : Int), .bool b3, .bool b4, .bool b5, .bool b6, .bool b7, .bool b8, .int .i64 (i9 : Int), .slice q1 Q.length c1, .slice (some ⟨ga, 0, none⟩) A.length ca, .slice (some ⟨gu, 0, none⟩) U.length cu, .slice (some ⟨gd, 0, none⟩) D.length cd] 25) := (by first | exact HY6.out.below hB HY6.out.lt | exact Bx.below (w := w6.drew) HY6.out hB HY6.out.lt); have HR7 : Hid (w7.ownsRow w2.heap.size 5 1 (.slice (some ⟨g1, 0, none⟩) O.size k1) O.size (Go.Lib.strCells O)) := (by first | exact own_below HR6.out hB | exact own_below (w := w6.drew) HR6.out hB); have HS7 : Hid (w7.ownsRow w3.heap.size 5 1 (.slice p2 O.size k2) O.size (Go.Lib.strCells O)) := (by first | exact own_below HS6.out hB | exact own_below (w := w6.drew) HS6.out hB); have HT7 : Hid (Tn4 w7 q1 ga gu gd ca cu cd Q A U D) := (by first | exact HT6.out.below hB | exact Tn4.below (w := w6.drew) ⟨HT6.out.q, HT6.out.a, HT6.out.u, HT6.out.d, HT6.out.ka, HT6.out.ku, HT6.out.kd⟩ hB); have HLO7 := hide' (HT7.out.ls HL.out); clear hB))
  all_goals
    obtain ⟨y0, y1, y2, y3, y4, y5, y6, y7, y8, y9, y10, y11, y12, y13⟩ := bx14 HY7.out
    go_wp2_with fail
    refine HK.out _ _ ?_
    have hN : O.size ≤ 65535 := by have := HSM.out; omega
    go_wp2_with fail
    clear y0 y1 y2 y3 y4 y5 y6 y7 y8 y9 y10 y11 y12 y13
    go_loopw [45] (fun iv wr => ∃ (k : Nat) (B : ByteArray), iv = .int .i64 (k : Int) ∧ k ≤ O.size ∧ Hid (B.size = O.size) ∧ Hid (wr.ownsRow w2.heap.size 5 1 (.slice (some ⟨g1, 0, none⟩) O.size k1) O.size (Go.Lib.strCells B)) ∧ Hid (w7.grownBy wr (some g1))) (fun iv _ => O.size - (intOf iv).toNat)
    case atStart => exact ⟨0, O, rfl, Nat.zero_le _, rfl, HR7.out, by first | exact grown_refl _ _ | exact grown_drew _ _⟩
    case round =>
      obtain ⟨k, B, rfl, hk, HBS, HRr, HGr⟩ := hrel
      by_cases hlt : k < O.size
      · obtain ⟨x, hx, hf⟩ := own_byteN HRr.out HBS.out k hlt
        obtain ⟨y, hy, hxy⟩ := xor_u8 x
        obtain ⟨B', hs', hr'⟩ := own_setN HRr.out HBS.out k y hlt hy
        have HR' := hide' hr'
        have HS' := hide' hs'
        have HG' := hide' (grown_trans HGr.out (grown_set wr g1 k (.int .u8 (y : Int))))
        clear hr' hs'
        go_wp2_with fail
        go_roundw
        case rel => exact ⟨k + 1, B', by go_num, by omega, HS', HR', HG'⟩
        case measure => simp [intOf]; omega
      · obtain rfl : k = O.size := by omega
        have hg1 : g1 < w3.heap.size ∧ w2.heap.size ≤ g1 := ⟨(HR3.out.lt g1 rfl).2, (HR3.out.lt g1 rfl).1⟩
        have HCr : Hid (Below w2.heap.size w2 wr) := HC7.out.grown HGr.out HC7.out.size (fun q e => by injection e with e; omega)
        have HBr : Hid (Below w.heap.size w wr) := HB7.out.grown HGr.out HB7.out.size (fun q e => by injection e with e; have := HB2.out.size; omega)
        have HYr : Hid (Bx wr w1.heap.size #[.int .i64 (i0 : Int), .bool b1, .int .i64 (i2 : Int), .bool b3, .bool b4, .bool b5, .bool b6, .bool b7, .bool b8, .int .i64 (i9 : Int), .slice q1 Q.length c1, .slice (some ⟨ga, 0, none⟩) A.length ca, .slice (some ⟨gu, 0, none⟩) U.length cu, .slice (some ⟨gd, 0, none⟩) D.length cd] 25) := HY2.out.below HCr.out HY2.out.lt
        have HLOr := hide' ((HT2.out.below HCr.out).ls HL.out)
        have HSr : Hid (wr.ownsRow w3.heap.size 5 1 (.slice p2 O.size k2) O.size (Go.Lib.strCells O)) := own_keepW HS7.out HGr.out hg1.1
        clear hg1
        obtain ⟨y0, y1, y2, y3, y4, y5, y6, y7, y8, y9, y10, y11, y12, y13⟩ := bx14 HYr.out
        go_wp2_with (first
          | (go_at_call 6; have _ := T3; clear T3; refine Calls.mono (show Calls Tryz.prog 6 _ _ (fun e w' => ∃ p3 k3, e = .returned (.tuple #[.slice p3 O.size k3, .int .i64 0]) ∧ w'.ownsRow wr.heap.size 5 1 (.slice p3 O.size k3) O.size (Go.Lib.strCells O) ∧ Below wr.heap.size wr w') by first | exact (pack_yes i0 i2 i9 b1 b3 b4 b5 b6 b7 b8 q1 (some ⟨ga, 0, none⟩) (some ⟨gu, 0, none⟩) (some ⟨gd, 0, none⟩) c1 ca cu cd Q A U D _ HLOr.out HHM.out).mono (fun e w' h => by have hh := h.1; rw [HOO.out, if_neg HSM.out] at hh; obtain ⟨p3, k3, he, ho⟩ := hh; exact ⟨p3, k3, he, ho, bstep (Below.refl _ wr) h.2 (Nat.le_refl _)⟩) | exact (pack_yes i0 i2 i9 b1 b3 b4 b5 b6 b7 b8 q1 (some ⟨ga, 0, none⟩) (some ⟨gu, 0, none⟩) (some ⟨gd, 0, none⟩) c1 ca cu cd Q A U D _ (HLOr.out.below ((Below.refl _ _).drew)) HHM.out).mono (fun e w' h => by have hh := h.1; rw [HOO.out, if_neg HSM.out] at hh; obtain ⟨p3, k3, he, ho⟩ := hh; exact ⟨p3, k3, he, ho, bstep ((Below.refl _ wr).drew) h.2 (Nat.le_refl _)⟩)) ?_; rintro e w8 ⟨p3, k3, rfl, ho3, hB⟩; have HR8 := hide' ho3; have HS8 := hide' (own_below HSr.out hB); have HB8 := hide' (bstep HBr.out hB HBr.out.size); clear ho3 hB)
          | (go_at_call 9; refine (sameBytes (.slice p3 O.size k3) (.slice p2 O.size k2) O _ (by first | exact own_text HR8.out | exact own_text (W := w8.drew) HR8.out) (by first | exact own_text HS8.out | exact own_text (W := w8.drew) HS8.out)).mono ?_; rintro e wq ⟨rfl, rfl⟩))
        go_ret
        exact ⟨rfl, HB8.out⟩
end Go.Proofs.YtjnmbgmdkkiidaaGreat

namespace Go.Proofs.YtjnmbgmdkkiidaaGreat.wirePacksP
set_option linter.unusedVariables false
open Go.ChangeShapes Go.WideShapes Go.ChangeAt Go.RowKit
open Go.ChangeMaps (open_string shut_string)
open Go.Proofs.YtjnmbgmdkkiidaaGreat.Fra Go.Proofs.YtjnmbgmdkkiidaaGreat.Frb Go.Proofs.YtjnmbgmdkkiidaaGreat.Nm

theorem quesL_ge : ∀ (Q : List Qn) (s : PS), (∀ q ∈ Q, qOK q = true) → POk s → POk (quesL Q s) ∧ s.out.size ≤ (quesL Q s).out.size
  | [], s, _, h => ⟨h, Nat.le_refl _⟩
  | q :: Q, s, hq, h => by
    obtain ⟨h1, _, h3⟩ := quesQ_ok (hq q (by simp)) h
    obtain ⟨h4, h5⟩ := quesL_ge Q (quesQ q s) (fun x hx => hq x (by simp [hx])) h1
    exact ⟨h4, Nat.le_trans h3 h5⟩
theorem runR_ge (most : Int) : ∀ (L : List Rn) (s : PS) (c : Nat), (∀ r ∈ L, rOK r = true) → POk s → s.out.size ≤ (runR most L s c).1.out.size
  | [], s, _, _, _ => Nat.le_refl _
  | r :: L, s, c, hr, h => by
    obtain ⟨h1, _, h3⟩ := recR_ok (hr r (by simp)) h
    show s.out.size ≤ (if most < (s.out.size : Int) then (s, c) else runR most L (recR r s) (c + 1)).1.out.size
    split
    · exact Nat.le_refl _
    · exact Nat.le_trans h3 (runR_ge most L (recR r s) (c + 1) (fun x hx => hr x (by simp [hx])) h1)
theorem out_pos {i0 i2 i9 : Nat} (b1 b3 b4 b5 b6 b7 b8 : Bool) {Q : List Qn} {A U D : List Rn} (hm : msgOK i0 i2 i9 Q A U D = true) : 0 < (packS i0 i2 i9 b1 b3 b4 b5 b6 b7 b8 Q A U D).out.size := by
  obtain ⟨_, _, _, _, _, _, _, hl⟩ := msgOK_parts hm
  obtain ⟨oq, oa, ou, od⟩ := lstOK_parts hl
  have h0 : POk ⟨.empty, []⟩ := ⟨(fun x hx => by cases hx), Nat.le_refl _⟩
  have h1 : POk (headP i0 i2 i9 b1 b3 b4 b5 b6 b7 b8 Q.length A.length U.length D.length ⟨.empty, []⟩) := (((((h0.more _).more _).more _).more _).more _).more _
  have h2 : (headP i0 i2 i9 b1 b3 b4 b5 b6 b7 b8 Q.length A.length U.length D.length ⟨.empty, []⟩).out.size = 12 := by
    show ((((((_ ++ _) ++ _) ++ _) ++ _) ++ _) ++ _ : ByteArray).size = 12
    simp only [ByteArray.size_append, numB_size]
    rfl
  obtain ⟨h3, h4⟩ := quesL_ge Q _ oq h1
  have h5 := runR_ge 65535 (A ++ U ++ D) _ 0 (fun r hr => by
    rcases List.mem_append.1 hr with h | h
    · rcases List.mem_append.1 h with h | h
      · exact oa r h
      · exact ou r h
    · exact od r h) h3
  unfold packS
  omega
set_option maxRecDepth 100000 in
theorem wirePacks_any (i0 i2 i9 : Int) (b1 b3 b4 b5 b6 b7 b8 : Bool) (q0 a0 u0 d0 : Option Addr) (qc ac uc dc : Nat) (Q : List Qn) (A U D : List Rn) (w : World) (hl : LsAt w q0 a0 u0 d0 Q A U D) (hz : ZOk Q A U D) (hnq : q0 = none → qc = 0) (hn : (a0 = none → ac = 0) ∧ (u0 = none → uc = 0) ∧ (d0 = none → dc = 0)) (hln : Q.length ≤ 1048576 ∧ A.length ≤ 1048576 ∧ U.length ≤ 1048576 ∧ D.length ≤ 1048576) :
    Calls Tryz.prog 3 #[.agg #[.int .i64 i0, .bool b1, .int .i64 i2, .bool b3, .bool b4, .bool b5, .bool b6, .bool b7, .bool b8, .int .i64 i9, .slice q0 Q.length qc, .slice a0 A.length ac, .slice u0 U.length uc, .slice d0 D.length dc]] w fun e w' => e = .returned (.bool true) ∧ Below w.heap.size w w' := by
  cases hm : msgOK i0 i2 i9 Q A U D with
  | false => exact packs_no i0 i2 i9 b1 b3 b4 b5 b6 b7 b8 q0 a0 u0 d0 qc ac uc dc Q A U D w hl hz hnq hn hln hm
  | true =>
    obtain ⟨⟨n0, e0, _⟩, ⟨n2, e2, _⟩, ⟨n9, e9, _⟩, _⟩ := msgOK_parts hm
    subst e0; subst e2; subst e9
    by_cases hb : 65535 < (packS n0 n2 n9 b1 b3 b4 b5 b6 b7 b8 Q A U D).out.size
    · exact packs_large n0 n2 n9 b1 b3 b4 b5 b6 b7 b8 q0 a0 u0 d0 qc ac uc dc Q A U D w hl hz hnq hn hln hm hb
    · exact packs_yes n0 n2 n9 b1 b3 b4 b5 b6 b7 b8 q0 a0 u0 d0 qc ac uc dc Q A U D w hl hz hnq hn hln hm _ rfl hb (out_pos b1 b3 b4 b5 b6 b7 b8 hm)

set_option maxRecDepth 100000 in
theorem contract (H : Type) (enc : TypeId × Value → H) (W : World) (base : Nat) (args : Array Value) (ds gs : List (DataW H)) (before : List MemPlace)
    (hval : ∀ (j : Nat) t v, Tryz.f3.params[j]? = some t → args[j]? = some v → Value.okWide Tryz.prog W .any base t v)
    (hW : DataW.Whole enc Tryz.prog Tryz.f3.params.toList Rows.wirePacksSpec.vars false W args.toList ds gs before) (hk : Rows.uptoSmall H (ds ++ gs) = true) :
    Calls Tryz.prog 3 args W fun e W' => ∃ v, e = .returned v ∧ Rows.wirePacksSpec.post enc Tryz.prog Tryz.f3 false true false false W args v W' := by
  have hW' := hW
  have hlt := hW.lt
  obtain ⟨p, q, hA0, hV, rfl, _, _⟩ := hW
  have hA : DataW.TrodAll enc Tryz.prog W 0 (fun _ => true) true Tryz.f3.params.toList args.toList ds p := hA0
  rw [Tryz.params3] at hA hval
  obtain ⟨v0, vs0, d0, ds0, p0, q0, hargs, rfl, rfl, h0, r0⟩ := trodAll_cons hA
  obtain ⟨rfl, rfl, rfl⟩ := trodAll_nil r0
  obtain rfl : args = #[v0] := by cases args; simp_all
  obtain ⟨rfl, rfl⟩ := trodVars_none hV
  have hsame0 : ∀ W' : World, Below W.heap.size W W' → DataW.Trod enc Tryz.prog W' 0 (fun b => decide (b < W.heap.size)) true 25 v0 d0 p0 :=
    fun W' hn => Below.trod laid (by kernel_rfl) (of_decide_eq_true (by kernel_rfl)) h0 hn (fun x hx => hlt x (by simp [hx]))
  clear hA0
  simp only [List.append_nil] at hk
  have hbk : Rows.uptoBulk d0 ≤ 1048576 := by
    have h : Rows.uptoBulkAll [d0] ≤ 1048576 := of_decide_eq_true hk
    simp only [Rows.uptoBulkAll] at h
    omega
  obtain ⟨i0, i2, i9, b1, b3, b4, b5, b6, b7, b8, q0, a0, u0, d0', qc, ac, uc, dc, Q, A, U, D, rfl, hL, nq, na, nu, nd, ⟨lq, la, lu, ld⟩, sq, sa, su, sd⟩ := msg_openB (hval 0 25 v0 rfl rfl) h0
  refine (wirePacks_any i0 i2 i9 b1 b3 b4 b5 b6 b7 b8 q0 a0 u0 d0' qc ac uc dc Q A U D W hL ⟨fun x h => Nat.le_trans (sq x h) hbk, fun x h => Nat.le_trans (sa x h) hbk, fun x h => Nat.le_trans (su x h) hbk, fun x h => Nat.le_trans (sd x h) hbk⟩ nq ⟨na, nu, nd⟩ ⟨by omega, by omega, by omega, by omega⟩).mono fun e W' ⟨he, bel⟩ => ?_
  subst he
  exact ⟨_, rfl, _, _, _, [], _, [], hW', trodAll_mk1 (shut_bool Tryz.underlying4 _), (trodAll_cons_mk (hsame0 W' bel) trodAll_mk0), rfl, bel.frame _, fun h => by cases h⟩

set_option maxRecDepth 100000 in
theorem lifted (os : Os) (started : os.Started) (H : Type) (enc : TypeId × Value → H) (F : Stop.Interp) :
    ReturnsInHanded {} Tryz.checked os 3 .any ((Rows.OpenSpec.upto Rows.wirePacksSpec).pre6 enc Tryz.prog Tryz.f3 Rows.wirePacksUptoRow.domain false) (((Rows.OpenSpec.upto Rows.wirePacksSpec).at F).post enc Tryz.prog Tryz.f3 false true false false) := by
  refine returnsInHanded_of_cond (C := Tryz.checked) (s := Rows.OpenSpec.upto Rows.wirePacksSpec) (k := Rows.uptoSmall) rfl own started (by kernel_rfl) Tryz.func3
    (OpenSpec.witness (enc := enc) (C := Tryz.checked) (s := Rows.OpenSpec.upto Rows.wirePacksSpec) (k := Rows.uptoSmall) rfl false ⟨#[], #[.agg #[.int .i64 0, .bool false, .int .i64 0, .bool false, .bool false, .bool false, .bool false, .bool false, .bool false, .int .i64 0, .slice none 0 0, .slice none 0 0, .slice none 0 0, .slice none 0 0]], []⟩ 8 (by kernel_rfl) (by kernel_rfl) (by kernel_rfl)
      (x := ([.agg [.lit (.int .i64 0), .lit (.bool false), .lit (.int .i64 0), .lit (.bool false), .lit (.bool false), .lit (.bool false), .lit (.bool false), .lit (.bool false), .lit (.bool false), .lit (.int .i64 0), .nil, .nil, .nil, .nil]], [], [])) (by kernel_rfl) rfl (by kernel_rfl)) ?_
  intro W base args ds gs before hval hW _ hk _
  exact contract H enc W base args ds gs before hval hW hk

theorem proved : Rows.WirePacksUptoSaid :=
  OpenClaim.holds_of_cond 3 Tryz.f3 rfl rfl rfl rfl rfl rfl rfl ⟨rfl, rfl, rfl, rfl, rfl⟩ rfl rfl rfl rfl rfl (by kernel_rfl) Tryz.func3 (by kernel_rfl)
    (of_decide_eq_true (by kernel_rfl)) (by unfold Func.isWrapper; first | (rw [if_pos (by decide +kernel)]; kernel_rfl) | (rw [if_neg (by decide +kernel)]; exact ⟨rfl, rfl⟩))
    (fun os started H enc _ F => lifted os started H enc F)
end Go.Proofs.YtjnmbgmdkkiidaaGreat.wirePacksP
namespace Go.Proofs.YtjnmbgmdkkiidaaGreat
theorem wirePacks_upto : Rows.WirePacksUptoSaid := wirePacksP.proved
end Go.Proofs.YtjnmbgmdkkiidaaGreat
