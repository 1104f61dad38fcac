import Derived.Test.YtjnmbgmdkkiidaaGreatPp9
import Derived.Test.YtjnmbgmdkkiidaaGreatOw1G
/-
  The reference's PackMessage, in all. (The verifier's own text.)
-/
namespace Go.Proofs.YtjnmbgmdkkiidaaGreat
set_option linter.unusedVariables false
set_option linter.unusedSimpArgs false
open Go.RowKit Go.Shelf Go.Maps Go.Proofs.YtjnmbgmdkkiidaaGreat.Nm

set_option maxRecDepth 100000 in
/-- gazetteerref2.sign -/
theorem sign_any (b : Bool) (v : Int) (w : World) : Calls Tryz.prog 19 #[.bool b, .int .i64 v] w fun e w' => e = .returned (.int .i64 (if b then v else 0)) ∧ w' = w := by
  cases b
  · go_enter Tryz.func19, Tryz.ntmps19
    go_wp2
    go_ret
    exact ⟨rfl, rfl⟩
  · go_enter Tryz.func19, Tryz.ntmps19
    go_wp2
    go_ret
    exact ⟨rfl, rfl⟩

set_option maxRecDepth 100000 in
set_option maxHeartbeats 8000000 in
theorem pm_num (i0 i2 i9 : Nat) (b1 b3 b4 b5 b6 b7 b8 : Bool) (q0 a0 u0 d0 : Option Addr) (qc ac uc dc : Nat) (Q : List Qn) (A U D : List Rn) (P B v : Nat) (u1 u2 u3 : Value) (s : PS) (w w0 : World) (HL : Hid (LsAt w q0 a0 u0 d0 Q A U D)) (HN : Hid ((a0 = none → ac = 0) ∧ (u0 = none → uc = 0) ∧ (d0 = none → dc = 0))) (HM : Hid (lstOK Q A U D = true)) (HLN : Hid (Q.length ≤ 65535 ∧ A.length ≤ 65535 ∧ U.length ≤ 65535 ∧ D.length ≤ 65535)) (HP : Hid (Pp w0 P w.heap.size u1 u2 u3 s)) (HB : Hid (Below w.heap.size w w0)) (HX : Hid (Bx w0 B #[.int .i64 (i0 : Int), .bool b1, .int .i64 (i2 : Int), .bool b3, .bool b4, .bool b5, .bool b6, .bool b7, .bool b8, .int .i64 (i9 : Int), .slice q0 Q.length qc, .slice a0 A.length ac, .slice u0 U.length uc, .slice d0 D.length dc] 25)) (HNB : Hid (¬ own3 P u1 u2 u3 B)) (HOK : Hid (POk s)) (hs : s.out.size = 0) (h0 : i0 < 65536) (hv : v < 65536) (x0 x2 x3 x6 x7 x8 x9 x10 x11 x12 x13 x14 x15 x16 x17 x18 x19 x20 x21 x22 x23 x24 x25 x26 x27 x28 x29 x30 x31 x32 x33 x34 x35 x36 x37 x38 x39 x40 x41 x42 x43 x44 x45 x46 x47 x48 x49 x50 x51 x52 x53 x54 x55 x56 x57 x58 x59 x60 x61 x62 x63 x64 x65 x66 x67 x68 x69 x70 x71 x72 x73 x74 x75 x76 x77 x78 x79 x80 x81 x82 x83 x84 x85 x86 x87 x88 x89 x90 x91 x92 x93 x94 x95 x96 x97 x98 x99 x100 x101 x102 x103 x104 x105 x106 x107 x108 x109 x110 x111 x112 x113 x114 x115 x116 x117 x118 x119 x120 x121 x122 x123 x124 x125 x126 x127 x128 x129 x130 x131 x132 x133 x134 x135 x136 : Value) :
    Code.wp Tryz.prog (((Tryz.f7.body.map (tailsN 4)).getD []).getD 0 .skip) (bodyPost Tryz.prog Tryz.f7 (packE (runR 65535 (A ++ U ++ D) (quesL Q ⟨s.out ++ (((((numB i0 2 ++ numB v 2) ++ numB Q.length 2) ++ numB A.length 2) ++ numB U.length 2) ++ numB D.length 2), s.tab⟩) 0).1 w)) ⟨List.toArray (x0 :: (.pointer (some ⟨B, 0, none⟩) : Value) :: x2 :: x3 :: (.pointer (some ⟨P, 0, none⟩) : Value) :: (.int .i64 (v : Int) : Value) :: x6 :: x7 :: x8 :: x9 :: x10 :: x11 :: x12 :: x13 :: x14 :: x15 :: x16 :: x17 :: x18 :: x19 :: x20 :: x21 :: x22 :: x23 :: x24 :: x25 :: x26 :: x27 :: x28 :: x29 :: x30 :: x31 :: x32 :: x33 :: x34 :: x35 :: x36 :: x37 :: x38 :: x39 :: x40 :: x41 :: x42 :: x43 :: x44 :: x45 :: x46 :: x47 :: x48 :: x49 :: x50 :: x51 :: x52 :: x53 :: x54 :: x55 :: x56 :: x57 :: x58 :: x59 :: x60 :: x61 :: x62 :: x63 :: x64 :: x65 :: x66 :: x67 :: x68 :: x69 :: x70 :: x71 :: x72 :: x73 :: x74 :: x75 :: x76 :: x77 :: x78 :: x79 :: x80 :: x81 :: x82 :: x83 :: x84 :: x85 :: x86 :: x87 :: x88 :: x89 :: x90 :: x91 :: x92 :: x93 :: x94 :: x95 :: x96 :: x97 :: x98 :: x99 :: x100 :: x101 :: x102 :: x103 :: x104 :: x105 :: x106 :: x107 :: x108 :: x109 :: x110 :: x111 :: x112 :: x113 :: x114 :: x115 :: x116 :: x117 :: x118 :: x119 :: x120 :: x121 :: x122 :: x123 :: x124 :: x125 :: x126 :: x127 :: x128 :: x129 :: x130 :: x131 :: x132 :: x133 :: x134 :: x135 :: x136 :: []), []⟩ w0 := by
  have hLN := HLN.out
  have had2 : ∀ W : World, (Op.stringOp .add (numB i0 2) (numB v 2)).run Tryz.prog W = .ok (.string ((numB i0 2 ++ numB v 2))) W := fun W => run_string_add_sum W _ _ (by simp only [ByteArray.size_append, numB_size]; decide)
  have had3 : ∀ W : World, (Op.stringOp .add ((numB i0 2 ++ numB v 2)) (numB Q.length 2)).run Tryz.prog W = .ok (.string (((numB i0 2 ++ numB v 2) ++ numB Q.length 2))) W := fun W => run_string_add_sum W _ _ (by simp only [ByteArray.size_append, numB_size]; decide)
  have had4 : ∀ W : World, (Op.stringOp .add (((numB i0 2 ++ numB v 2) ++ numB Q.length 2)) (numB A.length 2)).run Tryz.prog W = .ok (.string ((((numB i0 2 ++ numB v 2) ++ numB Q.length 2) ++ numB A.length 2))) W := fun W => run_string_add_sum W _ _ (by simp only [ByteArray.size_append, numB_size]; decide)
  have had5 : ∀ W : World, (Op.stringOp .add ((((numB i0 2 ++ numB v 2) ++ numB Q.length 2) ++ numB A.length 2)) (numB U.length 2)).run Tryz.prog W = .ok (.string (((((numB i0 2 ++ numB v 2) ++ numB Q.length 2) ++ numB A.length 2) ++ numB U.length 2))) W := fun W => run_string_add_sum W _ _ (by simp only [ByteArray.size_append, numB_size]; decide)
  have had6 : ∀ W : World, (Op.stringOp .add (((((numB i0 2 ++ numB v 2) ++ numB Q.length 2) ++ numB A.length 2) ++ numB U.length 2)) (numB D.length 2)).run Tryz.prog W = .ok (.string ((((((numB i0 2 ++ numB v 2) ++ numB Q.length 2) ++ numB A.length 2) ++ numB U.length 2) ++ numB D.length 2))) W := fun W => run_string_add_sum W _ _ (by simp only [ByteArray.size_append, numB_size]; decide)
  have HSZ : Hid (((((((numB i0 2 ++ numB v 2) ++ numB Q.length 2) ++ numB A.length 2) ++ numB U.length 2) ++ numB D.length 2)).size = 12) := by unfold Hid; simp only [ByteArray.size_append, numB_size]
  obtain ⟨z0, z10, z11, z12, z13⟩ : w0.cell? ⟨B, 0, none⟩ = some (.int .i64 (i0 : Int)) ∧ w0.cell? ⟨B, 10, none⟩ = some (.slice q0 Q.length qc) ∧ w0.cell? ⟨B, 11, none⟩ = some (.slice a0 A.length ac) ∧ w0.cell? ⟨B, 12, none⟩ = some (.slice u0 U.length uc) ∧ w0.cell? ⟨B, 13, none⟩ = some (.slice d0 D.length dc) := ⟨HX.out.cell rfl, HX.out.cell rfl, HX.out.cell rfl, HX.out.cell rfl, HX.out.cell rfl⟩
  have T0 : Hid True := trivial
  conv => arg 2; whnf
  go_upto_region 5 with fail
  rename_i K hK
  have HK := hide' hK
  clear hK
  go_wp2_with fail
  go_region_held3 (fun W => W.cell? ⟨B, 0, none⟩ = some (.int .i64 (i0 : Int)) ∧ W.cell? ⟨B, 10, none⟩ = some (.slice q0 Q.length qc) ∧ W.cell? ⟨B, 11, none⟩ = some (.slice a0 A.length ac) ∧ W.cell? ⟨B, 12, none⟩ = some (.slice u0 U.length uc) ∧ W.cell? ⟨B, 13, none⟩ = some (.slice d0 D.length dc)) (first | go_keep | exact ⟨HX7.out.cell rfl, HX7.out.cell rfl, HX7.out.cell rfl, HX7.out.cell rfl, HX7.out.cell rfl⟩ | exact ⟨HX6.out.cell rfl, HX6.out.cell rfl, HX6.out.cell rfl, HX6.out.cell rfl, HX6.out.cell rfl⟩ | exact ⟨HX5.out.cell rfl, HX5.out.cell rfl, HX5.out.cell rfl, HX5.out.cell rfl, HX5.out.cell rfl⟩ | exact ⟨HX4.out.cell rfl, HX4.out.cell rfl, HX4.out.cell rfl, HX4.out.cell rfl, HX4.out.cell rfl⟩ | exact ⟨HX3.out.cell rfl, HX3.out.cell rfl, HX3.out.cell rfl, HX3.out.cell rfl, HX3.out.cell rfl⟩ | exact ⟨HX2.out.cell rfl, HX2.out.cell rfl, HX2.out.cell rfl, HX2.out.cell rfl, HX2.out.cell rfl⟩ | exact ⟨HX1.out.cell rfl, HX1.out.cell rfl, HX1.out.cell rfl, HX1.out.cell rfl, HX1.out.cell rfl⟩ | exact ⟨HX.out.cell rfl, HX.out.cell rfl, HX.out.cell rfl, HX.out.cell rfl, HX.out.cell rfl⟩) (first
    | (go_at_call 21; have _ := T0; clear T0; refine (refNumber_any 2 i0 _ (by omega) (by omega)).mono ?_; rintro e w1 ⟨rfl, hB⟩; have HP1 : Hid (Pp w1 P w.heap.size u1 u2 u3 s) := (by first | exact HP.out.below hB | exact HP.out.drew.below hB); have HX1 : Hid (Bx w1 B #[.int .i64 (i0 : Int), .bool b1, .int .i64 (i2 : Int), .bool b3, .bool b4, .bool b5, .bool b6, .bool b7, .bool b8, .int .i64 (i9 : Int), .slice q0 Q.length qc, .slice a0 A.length ac, .slice u0 U.length uc, .slice d0 D.length dc] 25) := (by first | exact HX.out.below hB HX.out.lt | exact Bx.below (w := w0.drew) HX.out hB HX.out.lt); have HB1 : Hid (Below w.heap.size w w1) := (by first | exact bstep HB.out hB HB.out.size | exact bstep HB.out.drew hB HB.out.size); clear hB; have T1 : Hid True := trivial)
    | (go_at_call 21; have _ := T1; clear T1; refine (refNumber_any 2 v _ (by omega) (by omega)).mono ?_; rintro e w2 ⟨rfl, hB⟩; have HP2 : Hid (Pp w2 P w.heap.size u1 u2 u3 s) := (by first | exact HP1.out.below hB | exact HP1.out.drew.below hB); have HX2 : Hid (Bx w2 B #[.int .i64 (i0 : Int), .bool b1, .int .i64 (i2 : Int), .bool b3, .bool b4, .bool b5, .bool b6, .bool b7, .bool b8, .int .i64 (i9 : Int), .slice q0 Q.length qc, .slice a0 A.length ac, .slice u0 U.length uc, .slice d0 D.length dc] 25) := (by first | exact HX1.out.below hB HX1.out.lt | exact Bx.below (w := w1.drew) HX1.out hB HX1.out.lt); have HB2 : Hid (Below w.heap.size w w2) := (by first | exact bstep HB1.out hB HB1.out.size | exact bstep HB1.out.drew hB HB1.out.size); clear hB; have T2 : Hid True := trivial)
    | (go_at_call 21; have _ := T2; clear T2; refine (refNumber_any 2 Q.length _ (by omega) (by omega)).mono ?_; rintro e w3 ⟨rfl, hB⟩; have HP3 : Hid (Pp w3 P w.heap.size u1 u2 u3 s) := (by first | exact HP2.out.below hB | exact HP2.out.drew.below hB); have HX3 : Hid (Bx w3 B #[.int .i64 (i0 : Int), .bool b1, .int .i64 (i2 : Int), .bool b3, .bool b4, .bool b5, .bool b6, .bool b7, .bool b8, .int .i64 (i9 : Int), .slice q0 Q.length qc, .slice a0 A.length ac, .slice u0 U.length uc, .slice d0 D.length dc] 25) := (by first | exact HX2.out.below hB HX2.out.lt | exact Bx.below (w := w2.drew) HX2.out hB HX2.out.lt); have HB3 : Hid (Below w.heap.size w w3) := (by first | exact bstep HB2.out hB HB2.out.size | exact bstep HB2.out.drew hB HB2.out.size); clear hB; have T3 : Hid True := trivial)
    | (go_at_call 21; have _ := T3; clear T3; refine (refNumber_any 2 A.length _ (by omega) (by omega)).mono ?_; rintro e w4 ⟨rfl, hB⟩; have HP4 : Hid (Pp w4 P w.heap.size u1 u2 u3 s) := (by first | exact HP3.out.below hB | exact HP3.out.drew.below hB); have HX4 : Hid (Bx w4 B #[.int .i64 (i0 : Int), .bool b1, .int .i64 (i2 : Int), .bool b3, .bool b4, .bool b5, .bool b6, .bool b7, .bool b8, .int .i64 (i9 : Int), .slice q0 Q.length qc, .slice a0 A.length ac, .slice u0 U.length uc, .slice d0 D.length dc] 25) := (by first | exact HX3.out.below hB HX3.out.lt | exact Bx.below (w := w3.drew) HX3.out hB HX3.out.lt); have HB4 : Hid (Below w.heap.size w w4) := (by first | exact bstep HB3.out hB HB3.out.size | exact bstep HB3.out.drew hB HB3.out.size); clear hB; have T4 : Hid True := trivial)
    | (go_at_call 21; have _ := T4; clear T4; refine (refNumber_any 2 U.length _ (by omega) (by omega)).mono ?_; rintro e w5 ⟨rfl, hB⟩; have HP5 : Hid (Pp w5 P w.heap.size u1 u2 u3 s) := (by first | exact HP4.out.below hB | exact HP4.out.drew.below hB); have HX5 : Hid (Bx w5 B #[.int .i64 (i0 : Int), .bool b1, .int .i64 (i2 : Int), .bool b3, .bool b4, .bool b5, .bool b6, .bool b7, .bool b8, .int .i64 (i9 : Int), .slice q0 Q.length qc, .slice a0 A.length ac, .slice u0 U.length uc, .slice d0 D.length dc] 25) := (by first | exact HX4.out.below hB HX4.out.lt | exact Bx.below (w := w4.drew) HX4.out hB HX4.out.lt); have HB5 : Hid (Below w.heap.size w w5) := (by first | exact bstep HB4.out hB HB4.out.size | exact bstep HB4.out.drew hB HB4.out.size); clear hB; have T5 : Hid True := trivial)
    | (go_at_call 21; have _ := T5; clear T5; refine (refNumber_any 2 D.length _ (by omega) (by omega)).mono ?_; rintro e w6 ⟨rfl, hB⟩; have HP6 : Hid (Pp w6 P w.heap.size u1 u2 u3 s) := (by first | exact HP5.out.below hB | exact HP5.out.drew.below hB); have HX6 : Hid (Bx w6 B #[.int .i64 (i0 : Int), .bool b1, .int .i64 (i2 : Int), .bool b3, .bool b4, .bool b5, .bool b6, .bool b7, .bool b8, .int .i64 (i9 : Int), .slice q0 Q.length qc, .slice a0 A.length ac, .slice u0 U.length uc, .slice d0 D.length dc] 25) := (by first | exact HX5.out.below hB HX5.out.lt | exact Bx.below (w := w5.drew) HX5.out hB HX5.out.lt); have HB6 : Hid (Below w.heap.size w w6) := (by first | exact bstep HB5.out hB HB5.out.size | exact bstep HB5.out.drew hB HB5.out.size); clear hB; have T6 : Hid True := trivial)
    | (go_at_call 20; refine Calls.mono (show Calls Tryz.prog 20 _ _ (fun e w' => e = .returned (.tuple #[]) ∧ ∃ t4 t5 t6, Pp w' P w.heap.size t4 t5 t6 ⟨s.out ++ (((((numB i0 2 ++ numB v 2) ++ numB Q.length 2) ++ numB A.length 2) ++ numB U.length 2) ++ numB D.length 2), s.tab⟩ ∧ Fq w6 w' (own3 P u1 u2 u3) (own3 P t4 t5 t6)) by first | exact put_fq HP6.out (Fq.refl _ _) (by omega) (by rw [HSZ.out]; omega) | exact put_fq HP6.out.drew (Fq.drew _ _) (by omega) (by rw [HSZ.out]; omega)) ?_; rintro e w7 ⟨rfl, t4, t5, t6, r1, r2⟩; have HP7 := hide' r1; have HB7 := hide' (HB6.out.trans (r2.below HB6.out.size HP6.out.1.low)); have HX7 := hide' (r2.bx HX6.out HNB.out).1; have HNB7 := hide' (r2.bx HX6.out HNB.out).2; clear r1 r2))
  all_goals
    go_wp2_with fail
    refine HK.out _ _ ?_
    have hsz : (PS.mk (s.out ++ ((((((numB i0 2 ++ numB v 2) ++ numB Q.length 2) ++ numB A.length 2) ++ numB U.length 2) ++ numB D.length 2))) s.tab).out.size = 12 := by show (s.out ++ ((((((numB i0 2 ++ numB v 2) ++ numB Q.length 2) ++ numB A.length 2) ++ numB U.length 2) ++ numB D.length 2))).size = 12; rw [ByteArray.size_append, HSZ.out, hs]
    first
      | exact pm_ques i0 i2 i9 b1 b3 b4 b5 b6 b7 b8 q0 a0 u0 d0 qc ac uc dc Q A U D P B t4 t5 t6 ⟨s.out ++ ((((((numB i0 2 ++ numB v 2) ++ numB Q.length 2) ++ numB A.length 2) ++ numB U.length 2) ++ numB D.length 2)), s.tab⟩ w w7 HL HN HM HLN HP7 HB7 HX7 HNB7 (HOK.out.more _) (by omega) _ _ _ _ _ _ _ _ _ _ _ _ _ _ _ _ _ _ _ _ _ _ _ _ _ _ _ _ _ _ _ _ _ _ _ _ _ _ _ _ _ _ _ _ _ _ _ _ _ _ _ _ _ _ _ _ _ _ _ _ _ _ _ _ _ _ _ _ _ _ _ _ _ _ _ _ _ _ _ _ _ _ _ _ _ _ _ _ _ _ _ _ _ _ _ _ _ _ _ _ _ _ _ _ _ _ _ _ _ _ _ _ _ _ _ _ _ _ _ _ _ _ _ _ _ _ _ _ _ _ _ _ _ _ _
      | exact pm_ques i0 i2 i9 b1 b3 b4 b5 b6 b7 b8 q0 a0 u0 d0 qc ac uc dc Q A U D P B t4 t5 t6 ⟨s.out ++ ((((((numB i0 2 ++ numB v 2) ++ numB Q.length 2) ++ numB A.length 2) ++ numB U.length 2) ++ numB D.length 2)), s.tab⟩ w w7.drew HL HN HM HLN HP7.out.drew HB7.out.drew HX7.out HNB7 (HOK.out.more _) (by omega) _ _ _ _ _ _ _ _ _ _ _ _ _ _ _ _ _ _ _ _ _ _ _ _ _ _ _ _ _ _ _ _ _ _ _ _ _ _ _ _ _ _ _ _ _ _ _ _ _ _ _ _ _ _ _ _ _ _ _ _ _ _ _ _ _ _ _ _ _ _ _ _ _ _ _ _ _ _ _ _ _ _ _ _ _ _ _ _ _ _ _ _ _ _ _ _ _ _ _ _ _ _ _ _ _ _ _ _ _ _ _ _ _ _ _ _ _ _ _ _ _ _ _ _ _ _ _ _ _ _ _ _ _ _ _
end Go.Proofs.YtjnmbgmdkkiidaaGreat

namespace Go.Proofs.YtjnmbgmdkkiidaaGreat
set_option linter.unusedVariables false
open Go.RowKit Go.Shelf Go.Proofs.YtjnmbgmdkkiidaaGreat.Nm

def set14 (w : World) (R : Nat) (a0 a1 a2 a3 a4 a5 a6 a7 a8 a9 a10 a11 a12 a13 : Value) : World := ((((((((((((((w.setCell ⟨R, 0, none⟩ a0).setCell ⟨R, 1, none⟩ a1).setCell ⟨R, 2, none⟩ a2).setCell ⟨R, 3, none⟩ a3).setCell ⟨R, 4, none⟩ a4).setCell ⟨R, 5, none⟩ a5).setCell ⟨R, 6, none⟩ a6).setCell ⟨R, 7, none⟩ a7).setCell ⟨R, 8, none⟩ a8).setCell ⟨R, 9, none⟩ a9).setCell ⟨R, 10, none⟩ a10).setCell ⟨R, 11, none⟩ a11).setCell ⟨R, 12, none⟩ a12).setCell ⟨R, 13, none⟩ a13)
theorem bx14_set {w : World} {R : Nat} {T : TypeId} {b0 b1 b2 b3 b4 b5 b6 b7 b8 b9 b10 b11 b12 b13 : Value} (h : Bx w R #[b0, b1, b2, b3, b4, b5, b6, b7, b8, b9, b10, b11, b12, b13] T) (a0 a1 a2 a3 a4 a5 a6 a7 a8 a9 a10 a11 a12 a13 : Value) : Bx (set14 w R a0 a1 a2 a3 a4 a5 a6 a7 a8 a9 a10 a11 a12 a13) R #[a0, a1, a2, a3, a4, a5, a6, a7, a8, a9, a10, a11, a12, a13] T := by
  have h0 : Bx (w.setCell ⟨R, 0, none⟩ a0) R #[a0, b1, b2, b3, b4, b5, b6, b7, b8, b9, b10, b11, b12, b13] T := h.set 0 a0
  have h1 : Bx ((w.setCell ⟨R, 0, none⟩ a0).setCell ⟨R, 1, none⟩ a1) R #[a0, a1, b2, b3, b4, b5, b6, b7, b8, b9, b10, b11, b12, b13] T := h0.set 1 a1
  have h2 : Bx (((w.setCell ⟨R, 0, none⟩ a0).setCell ⟨R, 1, none⟩ a1).setCell ⟨R, 2, none⟩ a2) R #[a0, a1, a2, b3, b4, b5, b6, b7, b8, b9, b10, b11, b12, b13] T := h1.set 2 a2
  have h3 : Bx ((((w.setCell ⟨R, 0, none⟩ a0).setCell ⟨R, 1, none⟩ a1).setCell ⟨R, 2, none⟩ a2).setCell ⟨R, 3, none⟩ a3) R #[a0, a1, a2, a3, b4, b5, b6, b7, b8, b9, b10, b11, b12, b13] T := h2.set 3 a3
  have h4 : Bx (((((w.setCell ⟨R, 0, none⟩ a0).setCell ⟨R, 1, none⟩ a1).setCell ⟨R, 2, none⟩ a2).setCell ⟨R, 3, none⟩ a3).setCell ⟨R, 4, none⟩ a4) R #[a0, a1, a2, a3, a4, b5, b6, b7, b8, b9, b10, b11, b12, b13] T := h3.set 4 a4
  have h5 : Bx ((((((w.setCell ⟨R, 0, none⟩ a0).setCell ⟨R, 1, none⟩ a1).setCell ⟨R, 2, none⟩ a2).setCell ⟨R, 3, none⟩ a3).setCell ⟨R, 4, none⟩ a4).setCell ⟨R, 5, none⟩ a5) R #[a0, a1, a2, a3, a4, a5, b6, b7, b8, b9, b10, b11, b12, b13] T := h4.set 5 a5
  have h6 : Bx (((((((w.setCell ⟨R, 0, none⟩ a0).setCell ⟨R, 1, none⟩ a1).setCell ⟨R, 2, none⟩ a2).setCell ⟨R, 3, none⟩ a3).setCell ⟨R, 4, none⟩ a4).setCell ⟨R, 5, none⟩ a5).setCell ⟨R, 6, none⟩ a6) R #[a0, a1, a2, a3, a4, a5, a6, b7, b8, b9, b10, b11, b12, b13] T := h5.set 6 a6
  have h7 : Bx ((((((((w.setCell ⟨R, 0, none⟩ a0).setCell ⟨R, 1, none⟩ a1).setCell ⟨R, 2, none⟩ a2).setCell ⟨R, 3, none⟩ a3).setCell ⟨R, 4, none⟩ a4).setCell ⟨R, 5, none⟩ a5).setCell ⟨R, 6, none⟩ a6).setCell ⟨R, 7, none⟩ a7) R #[a0, a1, a2, a3, a4, a5, a6, a7, b8, b9, b10, b11, b12, b13] T := h6.set 7 a7
  have h8 : Bx (((((((((w.setCell ⟨R, 0, none⟩ a0).setCell ⟨R, 1, none⟩ a1).setCell ⟨R, 2, none⟩ a2).setCell ⟨R, 3, none⟩ a3).setCell ⟨R, 4, none⟩ a4).setCell ⟨R, 5, none⟩ a5).setCell ⟨R, 6, none⟩ a6).setCell ⟨R, 7, none⟩ a7).setCell ⟨R, 8, none⟩ a8) R #[a0, a1, a2, a3, a4, a5, a6, a7, a8, b9, b10, b11, b12, b13] T := h7.set 8 a8
  have h9 : Bx ((((((((((w.setCell ⟨R, 0, none⟩ a0).setCell ⟨R, 1, none⟩ a1).setCell ⟨R, 2, none⟩ a2).setCell ⟨R, 3, none⟩ a3).setCell ⟨R, 4, none⟩ a4).setCell ⟨R, 5, none⟩ a5).setCell ⟨R, 6, none⟩ a6).setCell ⟨R, 7, none⟩ a7).setCell ⟨R, 8, none⟩ a8).setCell ⟨R, 9, none⟩ a9) R #[a0, a1, a2, a3, a4, a5, a6, a7, a8, a9, b10, b11, b12, b13] T := h8.set 9 a9
  have h10 : Bx (((((((((((w.setCell ⟨R, 0, none⟩ a0).setCell ⟨R, 1, none⟩ a1).setCell ⟨R, 2, none⟩ a2).setCell ⟨R, 3, none⟩ a3).setCell ⟨R, 4, none⟩ a4).setCell ⟨R, 5, none⟩ a5).setCell ⟨R, 6, none⟩ a6).setCell ⟨R, 7, none⟩ a7).setCell ⟨R, 8, none⟩ a8).setCell ⟨R, 9, none⟩ a9).setCell ⟨R, 10, none⟩ a10) R #[a0, a1, a2, a3, a4, a5, a6, a7, a8, a9, a10, b11, b12, b13] T := h9.set 10 a10
  have h11 : Bx ((((((((((((w.setCell ⟨R, 0, none⟩ a0).setCell ⟨R, 1, none⟩ a1).setCell ⟨R, 2, none⟩ a2).setCell ⟨R, 3, none⟩ a3).setCell ⟨R, 4, none⟩ a4).setCell ⟨R, 5, none⟩ a5).setCell ⟨R, 6, none⟩ a6).setCell ⟨R, 7, none⟩ a7).setCell ⟨R, 8, none⟩ a8).setCell ⟨R, 9, none⟩ a9).setCell ⟨R, 10, none⟩ a10).setCell ⟨R, 11, none⟩ a11) R #[a0, a1, a2, a3, a4, a5, a6, a7, a8, a9, a10, a11, b12, b13] T := h10.set 11 a11
  have h12 : Bx (((((((((((((w.setCell ⟨R, 0, none⟩ a0).setCell ⟨R, 1, none⟩ a1).setCell ⟨R, 2, none⟩ a2).setCell ⟨R, 3, none⟩ a3).setCell ⟨R, 4, none⟩ a4).setCell ⟨R, 5, none⟩ a5).setCell ⟨R, 6, none⟩ a6).setCell ⟨R, 7, none⟩ a7).setCell ⟨R, 8, none⟩ a8).setCell ⟨R, 9, none⟩ a9).setCell ⟨R, 10, none⟩ a10).setCell ⟨R, 11, none⟩ a11).setCell ⟨R, 12, none⟩ a12) R #[a0, a1, a2, a3, a4, a5, a6, a7, a8, a9, a10, a11, a12, b13] T := h11.set 12 a12
  have h13 : Bx ((((((((((((((w.setCell ⟨R, 0, none⟩ a0).setCell ⟨R, 1, none⟩ a1).setCell ⟨R, 2, none⟩ a2).setCell ⟨R, 3, none⟩ a3).setCell ⟨R, 4, none⟩ a4).setCell ⟨R, 5, none⟩ a5).setCell ⟨R, 6, none⟩ a6).setCell ⟨R, 7, none⟩ a7).setCell ⟨R, 8, none⟩ a8).setCell ⟨R, 9, none⟩ a9).setCell ⟨R, 10, none⟩ a10).setCell ⟨R, 11, none⟩ a11).setCell ⟨R, 12, none⟩ a12).setCell ⟨R, 13, none⟩ a13) R #[a0, a1, a2, a3, a4, a5, a6, a7, a8, a9, a10, a11, a12, a13] T := h12.set 13 a13
  exact h13
theorem bx14 {w : World} {R : Nat} {T : TypeId} {b0 b1 b2 b3 b4 b5 b6 b7 b8 b9 b10 b11 b12 b13 : Value} (h : Bx w R #[b0, b1, b2, b3, b4, b5, b6, b7, b8, b9, b10, b11, b12, b13] T) : w.cell? ⟨R, 0, none⟩ = some b0 ∧ w.cell? ⟨R, 1, none⟩ = some b1 ∧ w.cell? ⟨R, 2, none⟩ = some b2 ∧ w.cell? ⟨R, 3, none⟩ = some b3 ∧ w.cell? ⟨R, 4, none⟩ = some b4 ∧ w.cell? ⟨R, 5, none⟩ = some b5 ∧ w.cell? ⟨R, 6, none⟩ = some b6 ∧ w.cell? ⟨R, 7, none⟩ = some b7 ∧ w.cell? ⟨R, 8, none⟩ = some b8 ∧ w.cell? ⟨R, 9, none⟩ = some b9 ∧ w.cell? ⟨R, 10, none⟩ = some b10 ∧ w.cell? ⟨R, 11, none⟩ = some b11 ∧ w.cell? ⟨R, 12, none⟩ = some b12 ∧ w.cell? ⟨R, 13, none⟩ = some b13 :=
  ⟨h.cell rfl, h.cell rfl, h.cell rfl, h.cell rfl, h.cell rfl, h.cell rfl, h.cell rfl, h.cell rfl, h.cell rfl, h.cell rfl, h.cell rfl, h.cell rfl, h.cell rfl, h.cell rfl⟩
theorem bx14_free {w : World} {R : Nat} {T : TypeId} {b0 b1 b2 b3 b4 b5 b6 b7 b8 b9 b10 b11 b12 b13 : Value} (h : Bx w R #[b0, b1, b2, b3, b4, b5, b6, b7, b8, b9, b10, b11, b12, b13] T) : w.frozen? ⟨R, 0, none⟩ = false ∧ w.frozen? ⟨R, 1, none⟩ = false ∧ w.frozen? ⟨R, 2, none⟩ = false ∧ w.frozen? ⟨R, 3, none⟩ = false ∧ w.frozen? ⟨R, 4, none⟩ = false ∧ w.frozen? ⟨R, 5, none⟩ = false ∧ w.frozen? ⟨R, 6, none⟩ = false ∧ w.frozen? ⟨R, 7, none⟩ = false ∧ w.frozen? ⟨R, 8, none⟩ = false ∧ w.frozen? ⟨R, 9, none⟩ = false ∧ w.frozen? ⟨R, 10, none⟩ = false ∧ w.frozen? ⟨R, 11, none⟩ = false ∧ w.frozen? ⟨R, 12, none⟩ = false ∧ w.frozen? ⟨R, 13, none⟩ = false :=
  ⟨h.free 0, h.free 1, h.free 2, h.free 3, h.free 4, h.free 5, h.free 6, h.free 7, h.free 8, h.free 9, h.free 10, h.free 11, h.free 12, h.free 13⟩
theorem Bx.far {w : World} {R : Nat} {cs : Array Value} {T : TypeId} (h : Bx w R cs T) {R' : Nat} (hne : R ≠ R') (j : Nat) (u : Value) : Bx (w.setCell ⟨R', j, none⟩ u) R cs T := (Below.heap_setCell _ _ _ R hne).trans h
theorem bset {m : Nat} {w w' : World} (h : Below m w w') {R : Nat} (hR : m ≤ R) (hm : m ≤ w'.heap.size) (j : Nat) (u : Value) : Below m w (w'.setCell ⟨R, j, none⟩ u) := h.grown (grown_set w' R j u) hm (fun q e => by injection e; omega)
structure BS (m : Nat) (w w' : World) : Prop where
  b : Below m w w'
  z : m ≤ w'.heap.size
theorem BS.set {m : Nat} {w w' : World} (h : BS m w w') {R : Nat} (hR : m ≤ R) (j : Nat) (u : Value) : BS m w (w'.setCell ⟨R, j, none⟩ u) := ⟨bset h.b hR h.z j u, by rw [set_size]; exact h.z⟩
theorem below14 {m : Nat} {w w' : World} (h : Below m w w') {R : Nat} (hR : m ≤ R) (hm : m ≤ w'.heap.size) (a0 a1 a2 a3 a4 a5 a6 a7 a8 a9 a10 a11 a12 a13 : Value) : Below m w (set14 w' R a0 a1 a2 a3 a4 a5 a6 a7 a8 a9 a10 a11 a12 a13) :=
  (((((((((((((((BS.mk h hm).set hR 0 a0).set hR 1 a1).set hR 2 a2).set hR 3 a3).set hR 4 a4).set hR 5 a5).set hR 6 a6).set hR 7 a7).set hR 8 a8).set hR 9 a9).set hR 10 a10).set hR 11 a11).set hR 12 a12).set hR 13 a13).b
end Go.Proofs.YtjnmbgmdkkiidaaGreat

/-
  The reference's PackMessage, in all. (The verifier's own text.)
-/
namespace Go.Proofs.YtjnmbgmdkkiidaaGreat
set_option linter.unusedVariables false
open Go.RowKit Go.Shelf Go.Maps Go.Proofs.YtjnmbgmdkkiidaaGreat.Nm

theorem sgn_nat (b : Bool) (v : Nat) : (if b then (v : Int) else 0) = ((b.toNat * v : Nat) : Int) := by cases b <;> simp
theorem new_paper (w1 : World) (base : Nat) (hb : base ≤ w1.heap.size) : Pp (w1.alloc (.cells #[.slice none 0 0, .slice none 0 0, .slice none 0 0] 52)) w1.heap.size base (.slice none 0 0) (.slice none 0 0) (.slice none 0 0) ⟨.empty, []⟩ :=
  ⟨⟨World.alloc_heap_new w1 _, ⟨World.ownsRow_nil _ _ _ _, by simp [Value.ownBlock]⟩, ⟨World.ownsRow_nil _ _ _ _, by simp [Value.ownBlock]⟩, ⟨World.ownsRow_nil _ _ _ _, by simp [Value.ownBlock]⟩, hb, fun q e => by simp [Value.ownBlock] at e, fun q e => by simp [Value.ownBlock] at e, fun q e => by simp [Value.ownBlock] at e⟩, List.nodup_nil⟩

set_option maxRecDepth 100000 in
set_option maxHeartbeats 2000000 in
/-- gazetteerref2.PackMessage, of what is no message -/
theorem refPack_no (i0 i2 i9 : Int) (b1 b3 b4 b5 b6 b7 b8 : Bool) (q0 a0 u0 d0 : Option Addr) (qc ac uc dc : Nat) (Q : List Qn) (A U D : List Rn) (w : World) (hl : LsAt w q0 a0 u0 d0 Q A U D) (hz : ZOk Q A U D) (hn : (a0 = none → ac = 0) ∧ (u0 = none → uc = 0) ∧ (d0 = none → dc = 0)) (hln : Q.length ≤ maxLen ∧ A.length ≤ maxLen ∧ U.length ≤ maxLen ∧ D.length ≤ maxLen) (hm : msgOK i0 i2 i9 Q A U D = false) :
    Calls Tryz.prog 7 #[.agg #[.int .i64 i0, .bool b1, .int .i64 i2, .bool b3, .bool b4, .bool b5, .bool b6, .bool b7, .bool b8, .int .i64 i9, .slice q0 Q.length qc, .slice a0 A.length ac, .slice u0 U.length uc, .slice d0 D.length dc]] w fun e w' => e = .returned (.tuple #[.slice none 0 0, .int .i64 8]) ∧ Below w.heap.size w w' := by
  have HX : Hid (Bx (w.alloc (.cells #[.int .i64 i0, .bool b1, .int .i64 i2, .bool b3, .bool b4, .bool b5, .bool b6, .bool b7, .bool b8, .int .i64 i9, .slice q0 Q.length qc, .slice a0 A.length ac, .slice u0 U.length uc, .slice d0 D.length dc] 25)) w.heap.size #[.int .i64 i0, .bool b1, .int .i64 i2, .bool b3, .bool b4, .bool b5, .bool b6, .bool b7, .bool b8, .int .i64 i9, .slice q0 Q.length qc, .slice a0 A.length ac, .slice u0 U.length uc, .slice d0 D.length dc] 25) := World.alloc_heap_new w _
  have HB := hide' ((Below.refl w.heap.size w).alloc (Nat.le_refl _) (.cells #[.int .i64 i0, .bool b1, .int .i64 i2, .bool b3, .bool b4, .bool b5, .bool b6, .bool b7, .bool b8, .int .i64 i9, .slice q0 Q.length qc, .slice a0 A.length ac, .slice u0 U.length uc, .slice d0 D.length dc] 25))
  have HC := hide' (refCheck_any i0 i2 i9 b1 b3 b4 b5 b6 b7 b8 q0 a0 u0 d0 qc ac uc dc Q A U D _ (hl.below HB.out) hz hln)
  rw [hm] at HC
  obtain ⟨y0, y1, y2, y3, y4, y5, y6, y7, y8, y9, y10, y11, y12, y13⟩ := bx14 HX.out

  clear hl hz hn hln
  go_enter Tryz.func7, Tryz.ntmps7
  go_wp2_with (go_at_call 11; refine HC.out.mono ?_; rintro e w1 ⟨rfl, hB⟩; have HB1 := hide' (bstep HB.out hB HB.out.size); clear hB; unfold chkV; rw [if_neg (by decide)])
  go_ret2
  exact ⟨rfl, HB1.out⟩
set_option maxRecDepth 100000 in
set_option maxHeartbeats 8000000 in
/-- gazetteerref2.PackMessage, of a message -/
theorem refPack_yes (i0 i2 i9 : Nat) (b1 b3 b4 b5 b6 b7 b8 : Bool) (q0 a0 u0 d0 : Option Addr) (qc ac uc dc : Nat) (Q : List Qn) (A U D : List Rn) (w : World) (hl : LsAt w q0 a0 u0 d0 Q A U D) (hz : ZOk Q A U D) (hn : (a0 = none → ac = 0) ∧ (u0 = none → uc = 0) ∧ (d0 = none → dc = 0)) (hln : Q.length ≤ maxLen ∧ A.length ≤ maxLen ∧ U.length ≤ maxLen ∧ D.length ≤ maxLen) (hm : msgOK i0 i2 i9 Q A U D = true) :
    Calls Tryz.prog 7 #[.agg #[.int .i64 (i0 : Int), .bool b1, .int .i64 (i2 : Int), .bool b3, .bool b4, .bool b5, .bool b6, .bool b7, .bool b8, .int .i64 (i9 : Int), .slice q0 Q.length qc, .slice a0 A.length ac, .slice u0 U.length uc, .slice d0 D.length dc]] w (packE (packS i0 i2 i9 b1 b3 b4 b5 b6 b7 b8 Q A U D) w) := by
  obtain ⟨⟨_, e0, k0⟩, ⟨_, e2, k2⟩, ⟨_, e9, k9⟩, lq, la, lu, ld, hlst⟩ := msgOK_parts hm
  have h0 : i0 < 65536 := by omega
  have h2 : i2 < 16 := by omega
  have h9 : i9 < 16 := by omega
  clear e0 k0 e2 k2 e9 k9
  have HX : Hid (Bx (w.alloc (.cells #[.int .i64 (i0 : Int), .bool b1, .int .i64 (i2 : Int), .bool b3, .bool b4, .bool b5, .bool b6, .bool b7, .bool b8, .int .i64 (i9 : Int), .slice q0 Q.length qc, .slice a0 A.length ac, .slice u0 U.length uc, .slice d0 D.length dc] 25)) w.heap.size #[.int .i64 (i0 : Int), .bool b1, .int .i64 (i2 : Int), .bool b3, .bool b4, .bool b5, .bool b6, .bool b7, .bool b8, .int .i64 (i9 : Int), .slice q0 Q.length qc, .slice a0 A.length ac, .slice u0 U.length uc, .slice d0 D.length dc] 25) := World.alloc_heap_new w _
  have HB := hide' ((Below.refl w.heap.size w).alloc (Nat.le_refl _) (.cells #[.int .i64 (i0 : Int), .bool b1, .int .i64 (i2 : Int), .bool b3, .bool b4, .bool b5, .bool b6, .bool b7, .bool b8, .int .i64 (i9 : Int), .slice q0 Q.length qc, .slice a0 A.length ac, .slice u0 U.length uc, .slice d0 D.length dc] 25))
  have HC := hide' (refCheck_any (i0 : Int) (i2 : Int) (i9 : Int) b1 b3 b4 b5 b6 b7 b8 q0 a0 u0 d0 qc ac uc dc Q A U D _ (hl.below HB.out) hz hln)
  rw [hm] at HC
  obtain ⟨y0, y1, y2, y3, y4, y5, y6, y7, y8, y9, y10, y11, y12, y13⟩ := bx14 HX.out

  have HL := hide' hl
  have HN := hide' hn
  have HM := hide' hlst
  have HLN := hide' (And.intro lq (And.intro la (And.intro lu ld)))
  clear hl hz hn hln hlst
  obtain ⟨g1, hg1⟩ : ∃ g : Nat, b1.toNat * 32768 = g := ⟨_, rfl⟩
  have gb1 : g1 ≤ 32768 := by rw [← hg1]; cases b1 <;> simp
  have S1 : Hid (∀ W : World, Calls Tryz.prog 19 #[.bool b1, .int .i64 32768] W fun e w' => e = .returned (.int .i64 (g1 : Int)) ∧ w' = W) := fun W => (sign_any b1 32768 W).mono fun e w' ⟨h1, h2⟩ => ⟨by rw [h1, show (if b1 = true then (32768 : Int) else 0) = ((g1 : Nat) : Int) by rw [← hg1]; exact sgn_nat b1 32768], h2⟩
  obtain ⟨g3, hg3⟩ : ∃ g : Nat, b3.toNat * 1024 = g := ⟨_, rfl⟩
  have gb3 : g3 ≤ 1024 := by rw [← hg3]; cases b3 <;> simp
  have S3 : Hid (∀ W : World, Calls Tryz.prog 19 #[.bool b3, .int .i64 1024] W fun e w' => e = .returned (.int .i64 (g3 : Int)) ∧ w' = W) := fun W => (sign_any b3 1024 W).mono fun e w' ⟨h1, h2⟩ => ⟨by rw [h1, show (if b3 = true then (1024 : Int) else 0) = ((g3 : Nat) : Int) by rw [← hg3]; exact sgn_nat b3 1024], h2⟩
  obtain ⟨g4, hg4⟩ : ∃ g : Nat, b4.toNat * 512 = g := ⟨_, rfl⟩
  have gb4 : g4 ≤ 512 := by rw [← hg4]; cases b4 <;> simp
  have S4 : Hid (∀ W : World, Calls Tryz.prog 19 #[.bool b4, .int .i64 512] W fun e w' => e = .returned (.int .i64 (g4 : Int)) ∧ w' = W) := fun W => (sign_any b4 512 W).mono fun e w' ⟨h1, h2⟩ => ⟨by rw [h1, show (if b4 = true then (512 : Int) else 0) = ((g4 : Nat) : Int) by rw [← hg4]; exact sgn_nat b4 512], h2⟩
  obtain ⟨g5, hg5⟩ : ∃ g : Nat, b5.toNat * 256 = g := ⟨_, rfl⟩
  have gb5 : g5 ≤ 256 := by rw [← hg5]; cases b5 <;> simp
  have S5 : Hid (∀ W : World, Calls Tryz.prog 19 #[.bool b5, .int .i64 256] W fun e w' => e = .returned (.int .i64 (g5 : Int)) ∧ w' = W) := fun W => (sign_any b5 256 W).mono fun e w' ⟨h1, h2⟩ => ⟨by rw [h1, show (if b5 = true then (256 : Int) else 0) = ((g5 : Nat) : Int) by rw [← hg5]; exact sgn_nat b5 256], h2⟩
  obtain ⟨g6, hg6⟩ : ∃ g : Nat, b6.toNat * 128 = g := ⟨_, rfl⟩
  have gb6 : g6 ≤ 128 := by rw [← hg6]; cases b6 <;> simp
  have S6 : Hid (∀ W : World, Calls Tryz.prog 19 #[.bool b6, .int .i64 128] W fun e w' => e = .returned (.int .i64 (g6 : Int)) ∧ w' = W) := fun W => (sign_any b6 128 W).mono fun e w' ⟨h1, h2⟩ => ⟨by rw [h1, show (if b6 = true then (128 : Int) else 0) = ((g6 : Nat) : Int) by rw [← hg6]; exact sgn_nat b6 128], h2⟩
  obtain ⟨g7, hg7⟩ : ∃ g : Nat, b7.toNat * 32 = g := ⟨_, rfl⟩
  have gb7 : g7 ≤ 32 := by rw [← hg7]; cases b7 <;> simp
  have S7 : Hid (∀ W : World, Calls Tryz.prog 19 #[.bool b7, .int .i64 32] W fun e w' => e = .returned (.int .i64 (g7 : Int)) ∧ w' = W) := fun W => (sign_any b7 32 W).mono fun e w' ⟨h1, h2⟩ => ⟨by rw [h1, show (if b7 = true then (32 : Int) else 0) = ((g7 : Nat) : Int) by rw [← hg7]; exact sgn_nat b7 32], h2⟩
  obtain ⟨g8, hg8⟩ : ∃ g : Nat, b8.toNat * 16 = g := ⟨_, rfl⟩
  have gb8 : g8 ≤ 16 := by rw [← hg8]; cases b8 <;> simp
  have S8 : Hid (∀ W : World, Calls Tryz.prog 19 #[.bool b8, .int .i64 16] W fun e w' => e = .returned (.int .i64 (g8 : Int)) ∧ w' = W) := fun W => (sign_any b8 16 W).mono fun e w' ⟨h1, h2⟩ => ⟨by rw [h1, show (if b8 = true then (16 : Int) else 0) = ((g8 : Nat) : Int) by rw [← hg8]; exact sgn_nat b8 16], h2⟩
  have HV : Hid ((((((((((g1 : Int) + 2048 * (i2 : Int)) + (g3 : Int)) + (g4 : Int)) + (g5 : Int)) + (g6 : Int)) + (g7 : Int)) + (g8 : Int)) + (i9 : Int)) = ((sgS i2 i9 b1 b3 b4 b5 b6 b7 b8 7 : Nat) : Int)) := by
    unfold Hid
    have : sgS i2 i9 b1 b3 b4 b5 b6 b7 b8 7 = i2 * 2048 + i9 + g1 + g3 + g4 + g5 + g6 + g7 + g8 := by rw [← hg1, ← hg3, ← hg4, ← hg5, ← hg6, ← hg7, ← hg8]; simp [sgS]
    rw [this]; omega
  have hv : sgS i2 i9 b1 b3 b4 b5 b6 b7 b8 7 < 65536 := by have := HV.out; omega
  have HHP : Hid (packS i0 i2 i9 b1 b3 b4 b5 b6 b7 b8 Q A U D = (runR 65535 (A ++ U ++ D) (quesL Q ⟨ByteArray.empty ++ (((((numB i0 2 ++ numB (sgS i2 i9 b1 b3 b4 b5 b6 b7 b8 7) 2) ++ numB Q.length 2) ++ numB A.length 2) ++ numB U.length 2) ++ numB D.length 2), []⟩) 0).1) := by
    unfold Hid packS headP
    simp only [ByteArray.append_assoc]
  rw [HHP.out]
  have hwm : IntKind.i64.wrap (2048 * (i2 : Int)) = 2048 * (i2 : Int) := by rw [IntWalk.i64_in] <;> omega
  have hw0 : IntKind.i64.wrap ((g1 : Int) + 2048 * (i2 : Int)) = (g1 : Int) + 2048 * (i2 : Int) := by rw [IntWalk.i64_in] <;> omega
  have hw1 : IntKind.i64.wrap (((g1 : Int) + 2048 * (i2 : Int)) + (g3 : Int)) = ((g1 : Int) + 2048 * (i2 : Int)) + (g3 : Int) := by rw [IntWalk.i64_in] <;> omega
  have hw2 : IntKind.i64.wrap ((((g1 : Int) + 2048 * (i2 : Int)) + (g3 : Int)) + (g4 : Int)) = (((g1 : Int) + 2048 * (i2 : Int)) + (g3 : Int)) + (g4 : Int) := by rw [IntWalk.i64_in] <;> omega
  have hw3 : IntKind.i64.wrap (((((g1 : Int) + 2048 * (i2 : Int)) + (g3 : Int)) + (g4 : Int)) + (g5 : Int)) = ((((g1 : Int) + 2048 * (i2 : Int)) + (g3 : Int)) + (g4 : Int)) + (g5 : Int) := by rw [IntWalk.i64_in] <;> omega
  have hw4 : IntKind.i64.wrap ((((((g1 : Int) + 2048 * (i2 : Int)) + (g3 : Int)) + (g4 : Int)) + (g5 : Int)) + (g6 : Int)) = (((((g1 : Int) + 2048 * (i2 : Int)) + (g3 : Int)) + (g4 : Int)) + (g5 : Int)) + (g6 : Int) := by rw [IntWalk.i64_in] <;> omega
  have hw5 : IntKind.i64.wrap (((((((g1 : Int) + 2048 * (i2 : Int)) + (g3 : Int)) + (g4 : Int)) + (g5 : Int)) + (g6 : Int)) + (g7 : Int)) = ((((((g1 : Int) + 2048 * (i2 : Int)) + (g3 : Int)) + (g4 : Int)) + (g5 : Int)) + (g6 : Int)) + (g7 : Int) := by rw [IntWalk.i64_in] <;> omega
  have hw6 : IntKind.i64.wrap ((((((((g1 : Int) + 2048 * (i2 : Int)) + (g3 : Int)) + (g4 : Int)) + (g5 : Int)) + (g6 : Int)) + (g7 : Int)) + (g8 : Int)) = (((((((g1 : Int) + 2048 * (i2 : Int)) + (g3 : Int)) + (g4 : Int)) + (g5 : Int)) + (g6 : Int)) + (g7 : Int)) + (g8 : Int) := by rw [IntWalk.i64_in] <;> omega
  have hw7 : IntKind.i64.wrap (((((((((g1 : Int) + 2048 * (i2 : Int)) + (g3 : Int)) + (g4 : Int)) + (g5 : Int)) + (g6 : Int)) + (g7 : Int)) + (g8 : Int)) + (i9 : Int)) = ((((((((g1 : Int) + 2048 * (i2 : Int)) + (g3 : Int)) + (g4 : Int)) + (g5 : Int)) + (g6 : Int)) + (g7 : Int)) + (g8 : Int)) + (i9 : Int) := by rw [IntWalk.i64_in] <;> omega
  clear hg1 hg3 hg4 hg5 hg6 hg7 hg8 hm
  go_enter Tryz.func7, Tryz.ntmps7
  go_upto_region 4 with (go_at_call 11; refine HC.out.mono ?_; rintro e w1 ⟨rfl, hB⟩; have HB1 := hide' (bstep HB.out hB HB.out.size); have HX1 : Hid (Bx w1 w.heap.size #[.int .i64 (i0 : Int), .bool b1, .int .i64 (i2 : Int), .bool b3, .bool b4, .bool b5, .bool b6, .bool b7, .bool b8, .int .i64 (i9 : Int), .slice q0 Q.length qc, .slice a0 A.length ac, .slice u0 U.length uc, .slice d0 D.length dc] 25) := HX.out.below hB HX.out.lt; unfold chkV; rw [if_pos rfl]; obtain ⟨w2, hw2⟩ : ∃ w2, w1.alloc (.cells #[.slice none 0 0, .slice none 0 0, .slice none 0 0] 52) = w2 := ⟨_, rfl⟩; have HP2 : Hid (Pp w2 w1.heap.size w.heap.size (.slice none 0 0) (.slice none 0 0) (.slice none 0 0) ⟨.empty, []⟩) := hw2 ▸ new_paper w1 w.heap.size HB1.out.size; have HB2 : Hid (Below w.heap.size w w2) := hw2 ▸ HB1.out.alloc HB1.out.size _; have HX2 : Hid (Bx w2 w.heap.size #[.int .i64 (i0 : Int), .bool b1, .int .i64 (i2 : Int), .bool b3, .bool b4, .bool b5, .bool b6, .bool b7, .bool b8, .int .i64 (i9 : Int), .slice q0 Q.length qc, .slice a0 A.length ac, .slice u0 U.length uc, .slice d0 D.length dc] 25) := hw2 ▸ HX1.out.grown (World.grownBy_alloc w1 _ none) (by simp); have HNB : Hid (¬ own3 w1.heap.size (.slice none 0 0) (.slice none 0 0) (.slice none 0 0) w.heap.size) := (fun e => by have := HX1.out.lt; rcases e with e | e | e | e <;> first | omega | simp [Value.ownBlock] at e); clear hB y0 y1 y2 y3 y4 y5 y6 y7 y8 y9 y10 y11 y12 y13)
  rename_i K hK
  have HK := hide' hK
  clear hK
  obtain ⟨y0, y1, y2, y3, y4, y5, y6, y7, y8, y9, y10, y11, y12, y13⟩ := bx14 HX2.out
  go_wp2_with fail
  go_region_held3 (fun W => W.cell? ⟨w.heap.size, 1, none⟩ = some (.bool b1) ∧ W.cell? ⟨w.heap.size, 2, none⟩ = some (.int .i64 (i2 : Int)) ∧ W.cell? ⟨w.heap.size, 3, none⟩ = some (.bool b3) ∧ W.cell? ⟨w.heap.size, 4, none⟩ = some (.bool b4) ∧ W.cell? ⟨w.heap.size, 5, none⟩ = some (.bool b5) ∧ W.cell? ⟨w.heap.size, 6, none⟩ = some (.bool b6) ∧ W.cell? ⟨w.heap.size, 7, none⟩ = some (.bool b7) ∧ W.cell? ⟨w.heap.size, 8, none⟩ = some (.bool b8) ∧ W.cell? ⟨w.heap.size, 9, none⟩ = some (.int .i64 (i9 : Int))) (first | go_keep | exact ⟨y1, y2, y3, y4, y5, y6, y7, y8, y9⟩) (first
    | (go_at_call 19; refine (S1.out _).mono ?_; rintro e wq ⟨rfl, rfl⟩)
    | (go_at_call 19; refine (S3.out _).mono ?_; rintro e wq ⟨rfl, rfl⟩)
    | (go_at_call 19; refine (S4.out _).mono ?_; rintro e wq ⟨rfl, rfl⟩)
    | (go_at_call 19; refine (S5.out _).mono ?_; rintro e wq ⟨rfl, rfl⟩)
    | (go_at_call 19; refine (S6.out _).mono ?_; rintro e wq ⟨rfl, rfl⟩)
    | (go_at_call 19; refine (S7.out _).mono ?_; rintro e wq ⟨rfl, rfl⟩)
    | (go_at_call 19; refine (S8.out _).mono ?_; rintro e wq ⟨rfl, rfl⟩))
  all_goals
    go_wp2_with fail
    refine HK.out _ _ ?_
    rw [HV.out]
    first
      | exact pm_num i0 i2 i9 b1 b3 b4 b5 b6 b7 b8 q0 a0 u0 d0 qc ac uc dc Q A U D w1.heap.size w.heap.size (sgS i2 i9 b1 b3 b4 b5 b6 b7 b8 7) (.slice none 0 0) (.slice none 0 0) (.slice none 0 0) ⟨.empty, []⟩ w w2 HL HN HM HLN HP2 HB2 HX2 HNB ⟨(fun x hx => by cases hx), Nat.zero_le _⟩ rfl h0 hv _ _ _ _ _ _ _ _ _ _ _ _ _ _ _ _ _ _ _ _ _ _ _ _ _ _ _ _ _ _ _ _ _ _ _ _ _ _ _ _ _ _ _ _ _ _ _ _ _ _ _ _ _ _ _ _ _ _ _ _ _ _ _ _ _ _ _ _ _ _ _ _ _ _ _ _ _ _ _ _ _ _ _ _ _ _ _ _ _ _ _ _ _ _ _ _ _ _ _ _ _ _ _ _ _ _ _ _ _ _ _ _ _ _ _ _ _ _ _ _ _ _ _ _ _ _ _ _ _ _ _ _ _ _
      | exact pm_num i0 i2 i9 b1 b3 b4 b5 b6 b7 b8 q0 a0 u0 d0 qc ac uc dc Q A U D w1.heap.size w.heap.size (sgS i2 i9 b1 b3 b4 b5 b6 b7 b8 7) (.slice none 0 0) (.slice none 0 0) (.slice none 0 0) ⟨.empty, []⟩ w w2.drew HL HN HM HLN HP2.out.drew HB2.out.drew HX2.out HNB ⟨(fun x hx => by cases hx), Nat.zero_le _⟩ rfl h0 hv _ _ _ _ _ _ _ _ _ _ _ _ _ _ _ _ _ _ _ _ _ _ _ _ _ _ _ _ _ _ _ _ _ _ _ _ _ _ _ _ _ _ _ _ _ _ _ _ _ _ _ _ _ _ _ _ _ _ _ _ _ _ _ _ _ _ _ _ _ _ _ _ _ _ _ _ _ _ _ _ _ _ _ _ _ _ _ _ _ _ _ _ _ _ _ _ _ _ _ _ _ _ _ _ _ _ _ _ _ _ _ _ _ _ _ _ _ _ _ _ _ _ _ _ _ _ _ _ _ _ _ _ _ _
end Go.Proofs.YtjnmbgmdkkiidaaGreat
