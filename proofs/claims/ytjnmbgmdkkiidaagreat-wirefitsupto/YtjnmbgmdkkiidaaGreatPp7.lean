import Derived.Test.YtjnmbgmdkkiidaaGreatPp4G
import Derived.Test.YtjnmbgmdkkiidaaGreatPk14G
/-
  The reference's CheckMessage. (The verifier's own text.)
-/
namespace Go.Proofs.YtjnmbgmdkkiidaaGreat
set_option linter.unusedVariables false
open Go.RowKit Go.Shelf Go.Maps Go.Proofs.YtjnmbgmdkkiidaaGreat.Nm

theorem all_take {α : Type} (f : α → Bool) (L : List α) (k : Nat) (hk : k < L.length) (b : Bool) : (b && (L.take (k + 1)).all f) = ((b && (L.take k).all f) && f L[k]) := by
  rw [List.take_succ_eq_append_getElem hk, List.all_append]
  simp [Bool.and_assoc]
/-- what CheckMessage says -/
def chkV (b : Bool) : Value := if b then .int .i64 0 else .int .i64 8
/-- names that are short enough for the reference -/
structure ZOk (Q : List Qn) (A U D : List Rn) : Prop where
  q : ∀ x ∈ Q, x.n.size ≤ 1048576
  a : ∀ r ∈ A, r.o.size ≤ 1048576
  u : ∀ r ∈ U, r.o.size ≤ 1048576
  d : ∀ r ∈ D, r.o.size ≤ 1048576

set_option maxRecDepth 100000 in
set_option maxHeartbeats 8000000 in
theorem cm_tail (i0 i2 i9 : Int) (b1 b3 b4 b5 b6 b7 b8 : Bool) (q0 a0 u0 d0 : Option Addr) (qc ac uc dc : Nat) (Q : List Qn) (A U D : List Rn) (B : Nat) (ok2 : Bool) (w w0 : World) (HL : Hid (LsAt w0 q0 a0 u0 d0 Q A U D)) (HZ : Hid (ZOk Q A U D)) (HX : Hid (Bx w0 B #[.int .i64 i0, .bool b1, .int .i64 i2, .bool b3, .bool b4, .bool b5, .bool b6, .bool b7, .bool b8, .int .i64 i9, .slice q0 Q.length qc, .slice a0 A.length ac, .slice u0 U.length uc, .slice d0 D.length dc] 25)) (HB0 : Hid (Below w.heap.size w w0)) (HLN : Hid (Q.length ≤ maxLen ∧ A.length ≤ maxLen ∧ U.length ≤ maxLen ∧ D.length ≤ maxLen)) (x0 x2 x4 x5 x6 x7 x8 x9 x10 x11 x12 x13 x14 x15 x16 x17 x18 x19 x20 x21 x22 x23 x24 x25 x26 x27 x28 x29 x30 x31 x32 x33 x34 x35 x36 x37 x38 x39 x40 x41 x42 x43 x44 x45 x46 x47 x48 x49 x50 x51 x52 x53 x54 x55 x56 x57 x58 x59 x60 x61 x62 x63 x64 x65 x66 x67 x68 x69 x70 x71 x72 x73 x74 x75 x76 x77 x78 x79 x80 x81 x82 x83 x84 x85 x86 x87 x88 x89 x90 x91 x92 x93 x94 x95 x96 x97 x98 x99 x100 x101 x102 x103 x104 x105 x106 x107 x108 x109 x110 x111 x112 x113 x114 x115 x116 x117 x118 x119 x120 x121 x122 x123 x124 x125 x126 x127 x128 x129 x130 x131 x132 x133 x134 x135 x136 x137 x138 x139 : Value) :
    Code.wp Tryz.prog (((Tryz.f11.body.map (tailsN 2)).getD []).getD 0 .skip) (bodyPost Tryz.prog Tryz.f11 (fun e w' => e = .returned (chkV (ok2 && lstOK Q A U D)) ∧ Below w.heap.size w w')) ⟨List.toArray (x0 :: (.pointer (some ⟨B, 0, none⟩) : Value) :: x2 :: (.bool ok2 : Value) :: x4 :: x5 :: x6 :: x7 :: x8 :: x9 :: x10 :: x11 :: x12 :: x13 :: x14 :: x15 :: x16 :: x17 :: x18 :: x19 :: x20 :: x21 :: x22 :: x23 :: x24 :: x25 :: x26 :: x27 :: x28 :: x29 :: x30 :: x31 :: x32 :: x33 :: x34 :: x35 :: x36 :: x37 :: x38 :: x39 :: x40 :: x41 :: x42 :: x43 :: x44 :: x45 :: x46 :: x47 :: x48 :: x49 :: x50 :: x51 :: x52 :: x53 :: x54 :: x55 :: x56 :: x57 :: x58 :: x59 :: x60 :: x61 :: x62 :: x63 :: x64 :: x65 :: x66 :: x67 :: x68 :: x69 :: x70 :: x71 :: x72 :: x73 :: x74 :: x75 :: x76 :: x77 :: x78 :: x79 :: x80 :: x81 :: x82 :: x83 :: x84 :: x85 :: x86 :: x87 :: x88 :: x89 :: x90 :: x91 :: x92 :: x93 :: x94 :: x95 :: x96 :: x97 :: x98 :: x99 :: x100 :: x101 :: x102 :: x103 :: x104 :: x105 :: x106 :: x107 :: x108 :: x109 :: x110 :: x111 :: x112 :: x113 :: x114 :: x115 :: x116 :: x117 :: x118 :: x119 :: x120 :: x121 :: x122 :: x123 :: x124 :: x125 :: x126 :: x127 :: x128 :: x129 :: x130 :: x131 :: x132 :: x133 :: x134 :: x135 :: x136 :: x137 :: x138 :: x139 :: []), []⟩ w0 := by
  have hmx : maxLen ≤ 9223372036854775807 := by decide
  have hLN := HLN.out
  have m10 := HX.out.cell (j := 10) rfl
  conv => arg 2; whnf
  go_wp2_with fail
  go_loopw [3, 68] (fun okv iv wr => ∃ k : Nat, okv = .bool (ok2 && (Q.take k).all qOK) ∧ iv = .int .i64 (k : Int) ∧ k ≤ Q.length ∧ Hid (Below w0.heap.size w0 wr)) (fun _ iv _ => Q.length - (intOf iv).toNat)
  case atStart => exact ⟨0, by simp, rfl, Nat.zero_le _, Below.refl _ _⟩
  case round =>
    obtain ⟨k, rfl, rfl, hk, HBq⟩ := hrel
    by_cases hlt : k < Q.length
    · have HT := hide' (all_take qOK Q k hlt ok2)
      obtain ⟨g, off, rfl, hg, e0, e1, e2⟩ := (HL.out.below HBq.out).q k hlt
      have hz := HZ.out.q _ (List.getElem_mem hlt)
      obtain ⟨y, hy⟩ : ∃ y, Q[k] = y := ⟨_, rfl⟩
      rw [hy] at e0 e1 e2 hz HT
      obtain ⟨yn, yt, yc⟩ := y
      simp only at e0 e1 e2 hz
      clear hy
      generalize hb : (ok2 && (Q.take k).all qOK) = bb at *
      clear hb
      cases bb with
      | false =>
        go_wp2_with fail
        go_roundw
        case rel => exact ⟨k + 1, by rw [HT.out]; rfl, by go_num, by omega, HBq.out.alloc HBq.out.size _⟩
        case measure => simp [intOf]; omega
      | true =>
        have hq : qOK ⟨yn, yt, yc⟩ = (isN yn && fitsN yt 16 && fitsN yc 16) := rfl
        have HQ := hide' hq
        clear hq
        cases hN : isN yn with
        | false =>
          rw [hN] at HQ
          have IN := hide' (fun w => refIsName_any yn w hz)
          rw [hN] at IN
          have HV : Hid (qOK ⟨yn, yt, yc⟩ = false) := by unfold Hid; rw [HQ.out]; rfl
          go_wp2_with (go_at_call 30; refine (IN.out _).mono ?_; rintro e w5 ⟨rfl, hB5⟩; have HB5 := hide' (bstep (HBq.out.alloc HBq.out.size (.cells #[.string yn, .int .i64 yt, .int .i64 yc] 57)) hB5 (HBq.out.alloc HBq.out.size (.cells #[.string yn, .int .i64 yt, .int .i64 yc] 57)).size); have HX5 : Hid (Bx w5 wr.heap.size #[.string yn, .int .i64 yt, .int .i64 yc] 57) := (show Bx (wr.alloc (.cells #[.string yn, .int .i64 yt, .int .i64 yc] 57)) wr.heap.size _ _ from World.alloc_heap_new wr _).below hB5 (by simp); have s1 := HX5.out.cell (j := 1) rfl; have s2 := HX5.out.cell (j := 2) rfl; clear hB5)
          go_roundw
          case rel => exact ⟨k + 1, by rw [HT.out, HV.out]; first | rfl | (rw [show decide (yc ≤ 65535) = false by simp only [decide_eq_false_iff_not]; omega]; rfl) | (rw [show decide (yc ≤ 65535) = true by simp only [decide_eq_true_eq]; omega]; rfl), by go_num, by omega, HB5.out⟩
          case measure => simp [intOf]; omega
        | true =>
          rw [hN] at HQ
          have IN := hide' (fun w => refIsName_any yn w hz)
          rw [hN] at IN
          by_cases h1 : 0 ≤ yt
          case neg =>
            have HV : Hid (qOK ⟨yn, yt, yc⟩ = false) := by unfold Hid; rw [HQ.out]; simp [fitsN]; omega
            go_wp2_with (go_at_call 30; refine (IN.out _).mono ?_; rintro e w5 ⟨rfl, hB5⟩; have HB5 := hide' (bstep (HBq.out.alloc HBq.out.size (.cells #[.string yn, .int .i64 yt, .int .i64 yc] 57)) hB5 (HBq.out.alloc HBq.out.size (.cells #[.string yn, .int .i64 yt, .int .i64 yc] 57)).size); have HX5 : Hid (Bx w5 wr.heap.size #[.string yn, .int .i64 yt, .int .i64 yc] 57) := (show Bx (wr.alloc (.cells #[.string yn, .int .i64 yt, .int .i64 yc] 57)) wr.heap.size _ _ from World.alloc_heap_new wr _).below hB5 (by simp); have s1 := HX5.out.cell (j := 1) rfl; have s2 := HX5.out.cell (j := 2) rfl; clear hB5)
            go_roundw
            case rel => exact ⟨k + 1, by rw [HT.out, HV.out]; first | rfl | (rw [show decide (yc ≤ 65535) = false by simp only [decide_eq_false_iff_not]; omega]; rfl) | (rw [show decide (yc ≤ 65535) = true by simp only [decide_eq_true_eq]; omega]; rfl), by go_num, by omega, HB5.out⟩
            case measure => simp [intOf]; omega
          by_cases h2 : yt ≤ 65535
          case neg =>
            have HV : Hid (qOK ⟨yn, yt, yc⟩ = false) := by unfold Hid; rw [HQ.out]; simp [fitsN]; omega
            go_wp2_with (go_at_call 30; refine (IN.out _).mono ?_; rintro e w5 ⟨rfl, hB5⟩; have HB5 := hide' (bstep (HBq.out.alloc HBq.out.size (.cells #[.string yn, .int .i64 yt, .int .i64 yc] 57)) hB5 (HBq.out.alloc HBq.out.size (.cells #[.string yn, .int .i64 yt, .int .i64 yc] 57)).size); have HX5 : Hid (Bx w5 wr.heap.size #[.string yn, .int .i64 yt, .int .i64 yc] 57) := (show Bx (wr.alloc (.cells #[.string yn, .int .i64 yt, .int .i64 yc] 57)) wr.heap.size _ _ from World.alloc_heap_new wr _).below hB5 (by simp); have s1 := HX5.out.cell (j := 1) rfl; have s2 := HX5.out.cell (j := 2) rfl; clear hB5)
            go_roundw
            case rel => exact ⟨k + 1, by rw [HT.out, HV.out]; first | rfl | (rw [show decide (yc ≤ 65535) = false by simp only [decide_eq_false_iff_not]; omega]; rfl) | (rw [show decide (yc ≤ 65535) = true by simp only [decide_eq_true_eq]; omega]; rfl), by go_num, by omega, HB5.out⟩
            case measure => simp [intOf]; omega
          by_cases h3 : 0 ≤ yc
          case neg =>
            have HV : Hid (qOK ⟨yn, yt, yc⟩ = false) := by unfold Hid; rw [HQ.out]; simp [fitsN]; omega
            go_wp2_with (go_at_call 30; refine (IN.out _).mono ?_; rintro e w5 ⟨rfl, hB5⟩; have HB5 := hide' (bstep (HBq.out.alloc HBq.out.size (.cells #[.string yn, .int .i64 yt, .int .i64 yc] 57)) hB5 (HBq.out.alloc HBq.out.size (.cells #[.string yn, .int .i64 yt, .int .i64 yc] 57)).size); have HX5 : Hid (Bx w5 wr.heap.size #[.string yn, .int .i64 yt, .int .i64 yc] 57) := (show Bx (wr.alloc (.cells #[.string yn, .int .i64 yt, .int .i64 yc] 57)) wr.heap.size _ _ from World.alloc_heap_new wr _).below hB5 (by simp); have s1 := HX5.out.cell (j := 1) rfl; have s2 := HX5.out.cell (j := 2) rfl; clear hB5)
            go_roundw
            case rel => exact ⟨k + 1, by rw [HT.out, HV.out]; first | rfl | (rw [show decide (yc ≤ 65535) = false by simp only [decide_eq_false_iff_not]; omega]; rfl) | (rw [show decide (yc ≤ 65535) = true by simp only [decide_eq_true_eq]; omega]; rfl), by go_num, by omega, HB5.out⟩
            case measure => simp [intOf]; omega
          by_cases h4 : yc ≤ 65535
          case neg =>
            have HV : Hid (qOK ⟨yn, yt, yc⟩ = false) := by unfold Hid; rw [HQ.out]; simp [fitsN]; omega
            go_wp2_with (go_at_call 30; refine (IN.out _).mono ?_; rintro e w5 ⟨rfl, hB5⟩; have HB5 := hide' (bstep (HBq.out.alloc HBq.out.size (.cells #[.string yn, .int .i64 yt, .int .i64 yc] 57)) hB5 (HBq.out.alloc HBq.out.size (.cells #[.string yn, .int .i64 yt, .int .i64 yc] 57)).size); have HX5 : Hid (Bx w5 wr.heap.size #[.string yn, .int .i64 yt, .int .i64 yc] 57) := (show Bx (wr.alloc (.cells #[.string yn, .int .i64 yt, .int .i64 yc] 57)) wr.heap.size _ _ from World.alloc_heap_new wr _).below hB5 (by simp); have s1 := HX5.out.cell (j := 1) rfl; have s2 := HX5.out.cell (j := 2) rfl; clear hB5)
            go_roundw
            case rel => exact ⟨k + 1, by rw [HT.out, HV.out]; first | rfl | (rw [show decide (yc ≤ 65535) = false by simp only [decide_eq_false_iff_not]; omega]; rfl) | (rw [show decide (yc ≤ 65535) = true by simp only [decide_eq_true_eq]; omega]; rfl), by go_num, by omega, HB5.out⟩
            case measure => simp [intOf]; omega
          have HV : Hid (qOK ⟨yn, yt, yc⟩ = true) := by unfold Hid; rw [HQ.out]; simp [fitsN]; omega
          go_wp2_with (go_at_call 30; refine (IN.out _).mono ?_; rintro e w5 ⟨rfl, hB5⟩; have HB5 := hide' (bstep (HBq.out.alloc HBq.out.size (.cells #[.string yn, .int .i64 yt, .int .i64 yc] 57)) hB5 (HBq.out.alloc HBq.out.size (.cells #[.string yn, .int .i64 yt, .int .i64 yc] 57)).size); have HX5 : Hid (Bx w5 wr.heap.size #[.string yn, .int .i64 yt, .int .i64 yc] 57) := (show Bx (wr.alloc (.cells #[.string yn, .int .i64 yt, .int .i64 yc] 57)) wr.heap.size _ _ from World.alloc_heap_new wr _).below hB5 (by simp); have s1 := HX5.out.cell (j := 1) rfl; have s2 := HX5.out.cell (j := 2) rfl; clear hB5)
          go_roundw
          case rel => exact ⟨k + 1, by rw [HT.out, HV.out]; first | rfl | (rw [show decide (yc ≤ 65535) = false by simp only [decide_eq_false_iff_not]; omega]; rfl) | (rw [show decide (yc ≤ 65535) = true by simp only [decide_eq_true_eq]; omega]; rfl), by go_num, by omega, HB5.out⟩
          case measure => simp [intOf]; omega
    · obtain rfl : k = Q.length := by omega
      rw [List.take_length]
      obtain ⟨oq, hoq⟩ : ∃ b, (ok2 && Q.all qOK) = b := ⟨_, rfl⟩
      rw [hoq]
      have Hoq := hide' hoq
      clear hoq
      have m11 := (HX.out.below HBq.out HX.out.lt).cell (j := 11) rfl
      go_wp2_with fail
      go_loopw [3, 102] (fun okv iv wr => ∃ k : Nat, okv = .bool (oq && (A.take k).all rOK) ∧ iv = .int .i64 (k : Int) ∧ k ≤ A.length ∧ Hid (Below w0.heap.size w0 wr)) (fun _ iv _ => A.length - (intOf iv).toNat)
      case atStart => exact ⟨0, by simp, rfl, Nat.zero_le _, HBq⟩
      case round =>
        obtain ⟨k, rfl, rfl, hk, HBa⟩ := hrel
        by_cases hlt : k < A.length
        · have HT := hide' (all_take rOK A k hlt oq)
          obtain ⟨g, off, rfl, hg, e0, e1, e2, e3, e4⟩ := (HL.out.below HBa.out).a k hlt
          have hz := HZ.out.a _ (List.getElem_mem hlt)
          have hzd := (HL.out.zas _ (List.getElem_mem hlt)).2
          obtain ⟨y, hy⟩ : ∃ y, A[k] = y := ⟨_, rfl⟩
          rw [hy] at e0 e1 e2 e3 e4 hz hzd HT
          obtain ⟨yo, yt, yc, yl, yd⟩ := y
          simp only at e0 e1 e2 e3 e4 hz hzd
          clear hy
          generalize hb : (oq && (A.take k).all rOK) = bb at *
          clear hb
          cases bb with
          | false =>
            go_wp2_with fail
            go_roundw
            case rel => exact ⟨k + 1, by rw [HT.out]; rfl, by go_num, by omega, HBa.out.alloc HBa.out.size _⟩
            case measure => simp [intOf]; omega
          | true =>
            go_wp2_with (go_at_call 31; refine (refRight_any yo yt yc yl yd _ hz hzd).mono ?_; rintro e w5 ⟨rfl, hB5⟩; have HB5 := hide' (bstep (HBa.out.alloc HBa.out.size (.cells #[.string yo, .int .i64 yt, .int .i64 yc, .int .i64 yl, .string yd] 59)) hB5 (HBa.out.alloc HBa.out.size (.cells #[.string yo, .int .i64 yt, .int .i64 yc, .int .i64 yl, .string yd] 59)).size); clear hB5)
            go_roundw
            case rel => exact ⟨k + 1, by rw [HT.out]; rfl, by go_num, by omega, HB5.out⟩
            case measure => simp [intOf]; omega
        · obtain rfl : k = A.length := by omega
          rw [List.take_length]
          obtain ⟨oa, hoa⟩ : ∃ b, (oq && A.all rOK) = b := ⟨_, rfl⟩
          rw [hoa]
          have Hoa := hide' hoa
          clear hoa
          have m12 := (HX.out.below HBa.out HX.out.lt).cell (j := 12) rfl
          go_wp2_with fail
          go_loopw [3, 115] (fun okv iv wr => ∃ k : Nat, okv = .bool (oa && (U.take k).all rOK) ∧ iv = .int .i64 (k : Int) ∧ k ≤ U.length ∧ Hid (Below w0.heap.size w0 wr)) (fun _ iv _ => U.length - (intOf iv).toNat)
          case atStart => exact ⟨0, by simp, rfl, Nat.zero_le _, HBa⟩
          case round =>
            obtain ⟨k, rfl, rfl, hk, HBu⟩ := hrel
            by_cases hlt : k < U.length
            · have HT := hide' (all_take rOK U k hlt oa)
              obtain ⟨g, off, rfl, hg, e0, e1, e2, e3, e4⟩ := (HL.out.below HBu.out).u k hlt
              have hz := HZ.out.u _ (List.getElem_mem hlt)
              have hzd := (HL.out.zus _ (List.getElem_mem hlt)).2
              obtain ⟨y, hy⟩ : ∃ y, U[k] = y := ⟨_, rfl⟩
              rw [hy] at e0 e1 e2 e3 e4 hz hzd HT
              obtain ⟨yo, yt, yc, yl, yd⟩ := y
              simp only at e0 e1 e2 e3 e4 hz hzd
              clear hy
              generalize hb : (oa && (U.take k).all rOK) = bb at *
              clear hb
              cases bb with
              | false =>
                go_wp2_with fail
                go_roundw
                case rel => exact ⟨k + 1, by rw [HT.out]; rfl, by go_num, by omega, HBu.out.alloc HBu.out.size _⟩
                case measure => simp [intOf]; omega
              | true =>
                go_wp2_with (go_at_call 31; refine (refRight_any yo yt yc yl yd _ hz hzd).mono ?_; rintro e w5 ⟨rfl, hB5⟩; have HB5 := hide' (bstep (HBu.out.alloc HBu.out.size (.cells #[.string yo, .int .i64 yt, .int .i64 yc, .int .i64 yl, .string yd] 59)) hB5 (HBu.out.alloc HBu.out.size (.cells #[.string yo, .int .i64 yt, .int .i64 yc, .int .i64 yl, .string yd] 59)).size); clear hB5)
                go_roundw
                case rel => exact ⟨k + 1, by rw [HT.out]; rfl, by go_num, by omega, HB5.out⟩
                case measure => simp [intOf]; omega
            · obtain rfl : k = U.length := by omega
              rw [List.take_length]
              obtain ⟨ou, hou⟩ : ∃ b, (oa && U.all rOK) = b := ⟨_, rfl⟩
              rw [hou]
              have Hou := hide' hou
              clear hou
              have m13 := (HX.out.below HBu.out HX.out.lt).cell (j := 13) rfl
              go_wp2_with fail
              go_loopw [3, 128] (fun okv iv wr => ∃ k : Nat, okv = .bool (ou && (D.take k).all rOK) ∧ iv = .int .i64 (k : Int) ∧ k ≤ D.length ∧ Hid (Below w0.heap.size w0 wr)) (fun _ iv _ => D.length - (intOf iv).toNat)
              case atStart => exact ⟨0, by simp, rfl, Nat.zero_le _, HBu⟩
              case round =>
                obtain ⟨k, rfl, rfl, hk, HBd⟩ := hrel
                by_cases hlt : k < D.length
                · have HT := hide' (all_take rOK D k hlt ou)
                  obtain ⟨g, off, rfl, hg, e0, e1, e2, e3, e4⟩ := (HL.out.below HBd.out).d k hlt
                  have hz := HZ.out.d _ (List.getElem_mem hlt)
                  have hzd := (HL.out.zds _ (List.getElem_mem hlt)).2
                  obtain ⟨y, hy⟩ : ∃ y, D[k] = y := ⟨_, rfl⟩
                  rw [hy] at e0 e1 e2 e3 e4 hz hzd HT
                  obtain ⟨yo, yt, yc, yl, yd⟩ := y
                  simp only at e0 e1 e2 e3 e4 hz hzd
                  clear hy
                  generalize hb : (ou && (D.take k).all rOK) = bb at *
                  clear hb
                  cases bb with
                  | false =>
                    go_wp2_with fail
                    go_roundw
                    case rel => exact ⟨k + 1, by rw [HT.out]; rfl, by go_num, by omega, HBd.out.alloc HBd.out.size _⟩
                    case measure => simp [intOf]; omega
                  | true =>
                    go_wp2_with (go_at_call 31; refine (refRight_any yo yt yc yl yd _ hz hzd).mono ?_; rintro e w5 ⟨rfl, hB5⟩; have HB5 := hide' (bstep (HBd.out.alloc HBd.out.size (.cells #[.string yo, .int .i64 yt, .int .i64 yc, .int .i64 yl, .string yd] 59)) hB5 (HBd.out.alloc HBd.out.size (.cells #[.string yo, .int .i64 yt, .int .i64 yc, .int .i64 yl, .string yd] 59)).size); clear hB5)
                    go_roundw
                    case rel => exact ⟨k + 1, by rw [HT.out]; rfl, by go_num, by omega, HB5.out⟩
                    case measure => simp [intOf]; omega
                · obtain rfl : k = D.length := by omega
                  rw [List.take_length]
                  obtain ⟨od, hod⟩ : ∃ b, (ou && D.all rOK) = b := ⟨_, rfl⟩
                  rw [hod]
                  have Hod := hide' hod
                  clear hod
                  have HV : Hid ((ok2 && lstOK Q A U D) = od) := by
                    unfold Hid lstOK
                    rw [← Hod.out, ← Hou.out, ← Hoa.out, ← Hoq.out]
                    simp [Bool.and_assoc]
                  have HBf := hide' (bstep HB0.out HBd.out HB0.out.size)
                  cases od
                  · go_wp2
                    go_ret
                    exact ⟨by rw [HV.out]; rfl, HBf.out⟩
                  · go_wp2
                    go_ret
                    exact ⟨by rw [HV.out]; rfl, HBf.out⟩
set_option maxRecDepth 100000 in
set_option maxHeartbeats 4000000 in
/-- gazetteerref2.CheckMessage -/
theorem refCheck_any (i0 i2 i9 : Int) (b1 b3 b4 b5 b6 b7 b8 : Bool) (q0 a0 u0 d0 : Option Addr) (qc ac uc dc : Nat) (Q : List Qn) (A U D : List Rn) (w : World) (hl : LsAt w q0 a0 u0 d0 Q A U D) (hz : ZOk Q A U D) (hln : Q.length ≤ maxLen ∧ A.length ≤ maxLen ∧ U.length ≤ maxLen ∧ D.length ≤ maxLen) :
    Calls Tryz.prog 11 #[.agg #[.int .i64 i0, .bool b1, .int .i64 i2, .bool b3, .bool b4, .bool b5, .bool b6, .bool b7, .bool b8, .int .i64 i9, .slice q0 Q.length qc, .slice a0 A.length ac, .slice u0 U.length uc, .slice d0 D.length dc]] w fun e w' => e = .returned (chkV (msgOK i0 i2 i9 Q A U D)) ∧ Below w.heap.size w w' := by
  have hmx : maxLen ≤ 9223372036854775807 := by decide
  have HX : Hid (Bx (w.alloc (.cells #[.int .i64 i0, .bool b1, .int .i64 i2, .bool b3, .bool b4, .bool b5, .bool b6, .bool b7, .bool b8, .int .i64 i9, .slice q0 Q.length qc, .slice a0 A.length ac, .slice u0 U.length uc, .slice d0 D.length dc] 25)) w.heap.size #[.int .i64 i0, .bool b1, .int .i64 i2, .bool b3, .bool b4, .bool b5, .bool b6, .bool b7, .bool b8, .int .i64 i9, .slice q0 Q.length qc, .slice a0 A.length ac, .slice u0 U.length uc, .slice d0 D.length dc] 25) := World.alloc_heap_new w _
  have HB := hide' ((Below.refl w.heap.size w).alloc (Nat.le_refl _) (.cells #[.int .i64 i0, .bool b1, .int .i64 i2, .bool b3, .bool b4, .bool b5, .bool b6, .bool b7, .bool b8, .int .i64 i9, .slice q0 Q.length qc, .slice a0 A.length ac, .slice u0 U.length uc, .slice d0 D.length dc] 25))
  have HL := hide' (hl.below HB.out)
  have HZ := hide' hz
  have HLN := hide' hln
  have HM : Hid (msgOK i0 i2 i9 Q A U D = ((fitsN i0 16 && fitsN i2 4 && fitsN i9 4 && decide (Q.length ≤ 65535) && decide (A.length ≤ 65535) && decide (U.length ≤ 65535) && decide (D.length ≤ 65535)) && lstOK Q A U D)) := rfl
  rw [HM.out]
  clear hl hz HM

  by_cases h1 : 0 ≤ i0
  case neg =>
    have HV : Hid ((fitsN i0 16 && fitsN i2 4 && fitsN i9 4 && decide (Q.length ≤ 65535) && decide (A.length ≤ 65535) && decide (U.length ≤ 65535) && decide (D.length ≤ 65535)) = false) := by unfold Hid; simp [fitsN]; omega
    rw [HV.out]
    go_enter Tryz.func11, Tryz.ntmps11
    go_upto_region 2 with fail
    rename_i K hK
    have HK := hide' hK
    clear hK
    go_wp2_with fail
    refine HK.out _ _ ?_
    first | exact cm_tail i0 i2 i9 b1 b3 b4 b5 b6 b7 b8 q0 a0 u0 d0 qc ac uc dc Q A U D w.heap.size false w _ HL HZ HX HB HLN _ _ _ _ _ _ _ _ _ _ _ _ _ _ _ _ _ _ _ _ _ _ _ _ _ _ _ _ _ _ _ _ _ _ _ _ _ _ _ _ _ _ _ _ _ _ _ _ _ _ _ _ _ _ _ _ _ _ _ _ _ _ _ _ _ _ _ _ _ _ _ _ _ _ _ _ _ _ _ _ _ _ _ _ _ _ _ _ _ _ _ _ _ _ _ _ _ _ _ _ _ _ _ _ _ _ _ _ _ _ _ _ _ _ _ _ _ _ _ _ _ _ _ _ _ _ _ _ _ _ _ _ _ _ _ _ _ _ | (rw [show decide ((D.length : Int) ≤ 65535) = false by simp; omega]; exact cm_tail i0 i2 i9 b1 b3 b4 b5 b6 b7 b8 q0 a0 u0 d0 qc ac uc dc Q A U D w.heap.size false w _ HL HZ HX HB HLN _ _ _ _ _ _ _ _ _ _ _ _ _ _ _ _ _ _ _ _ _ _ _ _ _ _ _ _ _ _ _ _ _ _ _ _ _ _ _ _ _ _ _ _ _ _ _ _ _ _ _ _ _ _ _ _ _ _ _ _ _ _ _ _ _ _ _ _ _ _ _ _ _ _ _ _ _ _ _ _ _ _ _ _ _ _ _ _ _ _ _ _ _ _ _ _ _ _ _ _ _ _ _ _ _ _ _ _ _ _ _ _ _ _ _ _ _ _ _ _ _ _ _ _ _ _ _ _ _ _ _ _ _ _ _ _ _ _)
  by_cases h2 : i0 ≤ 65535
  case neg =>
    have HV : Hid ((fitsN i0 16 && fitsN i2 4 && fitsN i9 4 && decide (Q.length ≤ 65535) && decide (A.length ≤ 65535) && decide (U.length ≤ 65535) && decide (D.length ≤ 65535)) = false) := by unfold Hid; simp [fitsN]; omega
    rw [HV.out]
    go_enter Tryz.func11, Tryz.ntmps11
    go_upto_region 2 with fail
    rename_i K hK
    have HK := hide' hK
    clear hK
    go_wp2_with fail
    refine HK.out _ _ ?_
    first | exact cm_tail i0 i2 i9 b1 b3 b4 b5 b6 b7 b8 q0 a0 u0 d0 qc ac uc dc Q A U D w.heap.size false w _ HL HZ HX HB HLN _ _ _ _ _ _ _ _ _ _ _ _ _ _ _ _ _ _ _ _ _ _ _ _ _ _ _ _ _ _ _ _ _ _ _ _ _ _ _ _ _ _ _ _ _ _ _ _ _ _ _ _ _ _ _ _ _ _ _ _ _ _ _ _ _ _ _ _ _ _ _ _ _ _ _ _ _ _ _ _ _ _ _ _ _ _ _ _ _ _ _ _ _ _ _ _ _ _ _ _ _ _ _ _ _ _ _ _ _ _ _ _ _ _ _ _ _ _ _ _ _ _ _ _ _ _ _ _ _ _ _ _ _ _ _ _ _ _ | (rw [show decide ((D.length : Int) ≤ 65535) = false by simp; omega]; exact cm_tail i0 i2 i9 b1 b3 b4 b5 b6 b7 b8 q0 a0 u0 d0 qc ac uc dc Q A U D w.heap.size false w _ HL HZ HX HB HLN _ _ _ _ _ _ _ _ _ _ _ _ _ _ _ _ _ _ _ _ _ _ _ _ _ _ _ _ _ _ _ _ _ _ _ _ _ _ _ _ _ _ _ _ _ _ _ _ _ _ _ _ _ _ _ _ _ _ _ _ _ _ _ _ _ _ _ _ _ _ _ _ _ _ _ _ _ _ _ _ _ _ _ _ _ _ _ _ _ _ _ _ _ _ _ _ _ _ _ _ _ _ _ _ _ _ _ _ _ _ _ _ _ _ _ _ _ _ _ _ _ _ _ _ _ _ _ _ _ _ _ _ _ _ _ _ _ _)
  by_cases h3 : 0 ≤ i2
  case neg =>
    have HV : Hid ((fitsN i0 16 && fitsN i2 4 && fitsN i9 4 && decide (Q.length ≤ 65535) && decide (A.length ≤ 65535) && decide (U.length ≤ 65535) && decide (D.length ≤ 65535)) = false) := by unfold Hid; simp [fitsN]; omega
    rw [HV.out]
    go_enter Tryz.func11, Tryz.ntmps11
    go_upto_region 2 with fail
    rename_i K hK
    have HK := hide' hK
    clear hK
    go_wp2_with fail
    refine HK.out _ _ ?_
    first | exact cm_tail i0 i2 i9 b1 b3 b4 b5 b6 b7 b8 q0 a0 u0 d0 qc ac uc dc Q A U D w.heap.size false w _ HL HZ HX HB HLN _ _ _ _ _ _ _ _ _ _ _ _ _ _ _ _ _ _ _ _ _ _ _ _ _ _ _ _ _ _ _ _ _ _ _ _ _ _ _ _ _ _ _ _ _ _ _ _ _ _ _ _ _ _ _ _ _ _ _ _ _ _ _ _ _ _ _ _ _ _ _ _ _ _ _ _ _ _ _ _ _ _ _ _ _ _ _ _ _ _ _ _ _ _ _ _ _ _ _ _ _ _ _ _ _ _ _ _ _ _ _ _ _ _ _ _ _ _ _ _ _ _ _ _ _ _ _ _ _ _ _ _ _ _ _ _ _ _ | (rw [show decide ((D.length : Int) ≤ 65535) = false by simp; omega]; exact cm_tail i0 i2 i9 b1 b3 b4 b5 b6 b7 b8 q0 a0 u0 d0 qc ac uc dc Q A U D w.heap.size false w _ HL HZ HX HB HLN _ _ _ _ _ _ _ _ _ _ _ _ _ _ _ _ _ _ _ _ _ _ _ _ _ _ _ _ _ _ _ _ _ _ _ _ _ _ _ _ _ _ _ _ _ _ _ _ _ _ _ _ _ _ _ _ _ _ _ _ _ _ _ _ _ _ _ _ _ _ _ _ _ _ _ _ _ _ _ _ _ _ _ _ _ _ _ _ _ _ _ _ _ _ _ _ _ _ _ _ _ _ _ _ _ _ _ _ _ _ _ _ _ _ _ _ _ _ _ _ _ _ _ _ _ _ _ _ _ _ _ _ _ _ _ _ _ _)
  by_cases h4 : i2 ≤ 15
  case neg =>
    have HV : Hid ((fitsN i0 16 && fitsN i2 4 && fitsN i9 4 && decide (Q.length ≤ 65535) && decide (A.length ≤ 65535) && decide (U.length ≤ 65535) && decide (D.length ≤ 65535)) = false) := by unfold Hid; simp [fitsN]; omega
    rw [HV.out]
    go_enter Tryz.func11, Tryz.ntmps11
    go_upto_region 2 with fail
    rename_i K hK
    have HK := hide' hK
    clear hK
    go_wp2_with fail
    refine HK.out _ _ ?_
    first | exact cm_tail i0 i2 i9 b1 b3 b4 b5 b6 b7 b8 q0 a0 u0 d0 qc ac uc dc Q A U D w.heap.size false w _ HL HZ HX HB HLN _ _ _ _ _ _ _ _ _ _ _ _ _ _ _ _ _ _ _ _ _ _ _ _ _ _ _ _ _ _ _ _ _ _ _ _ _ _ _ _ _ _ _ _ _ _ _ _ _ _ _ _ _ _ _ _ _ _ _ _ _ _ _ _ _ _ _ _ _ _ _ _ _ _ _ _ _ _ _ _ _ _ _ _ _ _ _ _ _ _ _ _ _ _ _ _ _ _ _ _ _ _ _ _ _ _ _ _ _ _ _ _ _ _ _ _ _ _ _ _ _ _ _ _ _ _ _ _ _ _ _ _ _ _ _ _ _ _ | (rw [show decide ((D.length : Int) ≤ 65535) = false by simp; omega]; exact cm_tail i0 i2 i9 b1 b3 b4 b5 b6 b7 b8 q0 a0 u0 d0 qc ac uc dc Q A U D w.heap.size false w _ HL HZ HX HB HLN _ _ _ _ _ _ _ _ _ _ _ _ _ _ _ _ _ _ _ _ _ _ _ _ _ _ _ _ _ _ _ _ _ _ _ _ _ _ _ _ _ _ _ _ _ _ _ _ _ _ _ _ _ _ _ _ _ _ _ _ _ _ _ _ _ _ _ _ _ _ _ _ _ _ _ _ _ _ _ _ _ _ _ _ _ _ _ _ _ _ _ _ _ _ _ _ _ _ _ _ _ _ _ _ _ _ _ _ _ _ _ _ _ _ _ _ _ _ _ _ _ _ _ _ _ _ _ _ _ _ _ _ _ _ _ _ _ _)
  by_cases h5 : 0 ≤ i9
  case neg =>
    have HV : Hid ((fitsN i0 16 && fitsN i2 4 && fitsN i9 4 && decide (Q.length ≤ 65535) && decide (A.length ≤ 65535) && decide (U.length ≤ 65535) && decide (D.length ≤ 65535)) = false) := by unfold Hid; simp [fitsN]; omega
    rw [HV.out]
    go_enter Tryz.func11, Tryz.ntmps11
    go_upto_region 2 with fail
    rename_i K hK
    have HK := hide' hK
    clear hK
    go_wp2_with fail
    refine HK.out _ _ ?_
    first | exact cm_tail i0 i2 i9 b1 b3 b4 b5 b6 b7 b8 q0 a0 u0 d0 qc ac uc dc Q A U D w.heap.size false w _ HL HZ HX HB HLN _ _ _ _ _ _ _ _ _ _ _ _ _ _ _ _ _ _ _ _ _ _ _ _ _ _ _ _ _ _ _ _ _ _ _ _ _ _ _ _ _ _ _ _ _ _ _ _ _ _ _ _ _ _ _ _ _ _ _ _ _ _ _ _ _ _ _ _ _ _ _ _ _ _ _ _ _ _ _ _ _ _ _ _ _ _ _ _ _ _ _ _ _ _ _ _ _ _ _ _ _ _ _ _ _ _ _ _ _ _ _ _ _ _ _ _ _ _ _ _ _ _ _ _ _ _ _ _ _ _ _ _ _ _ _ _ _ _ | (rw [show decide ((D.length : Int) ≤ 65535) = false by simp; omega]; exact cm_tail i0 i2 i9 b1 b3 b4 b5 b6 b7 b8 q0 a0 u0 d0 qc ac uc dc Q A U D w.heap.size false w _ HL HZ HX HB HLN _ _ _ _ _ _ _ _ _ _ _ _ _ _ _ _ _ _ _ _ _ _ _ _ _ _ _ _ _ _ _ _ _ _ _ _ _ _ _ _ _ _ _ _ _ _ _ _ _ _ _ _ _ _ _ _ _ _ _ _ _ _ _ _ _ _ _ _ _ _ _ _ _ _ _ _ _ _ _ _ _ _ _ _ _ _ _ _ _ _ _ _ _ _ _ _ _ _ _ _ _ _ _ _ _ _ _ _ _ _ _ _ _ _ _ _ _ _ _ _ _ _ _ _ _ _ _ _ _ _ _ _ _ _ _ _ _ _)
  by_cases h6 : i9 ≤ 15
  case neg =>
    have HV : Hid ((fitsN i0 16 && fitsN i2 4 && fitsN i9 4 && decide (Q.length ≤ 65535) && decide (A.length ≤ 65535) && decide (U.length ≤ 65535) && decide (D.length ≤ 65535)) = false) := by unfold Hid; simp [fitsN]; omega
    rw [HV.out]
    go_enter Tryz.func11, Tryz.ntmps11
    go_upto_region 2 with fail
    rename_i K hK
    have HK := hide' hK
    clear hK
    go_wp2_with fail
    refine HK.out _ _ ?_
    first | exact cm_tail i0 i2 i9 b1 b3 b4 b5 b6 b7 b8 q0 a0 u0 d0 qc ac uc dc Q A U D w.heap.size false w _ HL HZ HX HB HLN _ _ _ _ _ _ _ _ _ _ _ _ _ _ _ _ _ _ _ _ _ _ _ _ _ _ _ _ _ _ _ _ _ _ _ _ _ _ _ _ _ _ _ _ _ _ _ _ _ _ _ _ _ _ _ _ _ _ _ _ _ _ _ _ _ _ _ _ _ _ _ _ _ _ _ _ _ _ _ _ _ _ _ _ _ _ _ _ _ _ _ _ _ _ _ _ _ _ _ _ _ _ _ _ _ _ _ _ _ _ _ _ _ _ _ _ _ _ _ _ _ _ _ _ _ _ _ _ _ _ _ _ _ _ _ _ _ _ | (rw [show decide ((D.length : Int) ≤ 65535) = false by simp; omega]; exact cm_tail i0 i2 i9 b1 b3 b4 b5 b6 b7 b8 q0 a0 u0 d0 qc ac uc dc Q A U D w.heap.size false w _ HL HZ HX HB HLN _ _ _ _ _ _ _ _ _ _ _ _ _ _ _ _ _ _ _ _ _ _ _ _ _ _ _ _ _ _ _ _ _ _ _ _ _ _ _ _ _ _ _ _ _ _ _ _ _ _ _ _ _ _ _ _ _ _ _ _ _ _ _ _ _ _ _ _ _ _ _ _ _ _ _ _ _ _ _ _ _ _ _ _ _ _ _ _ _ _ _ _ _ _ _ _ _ _ _ _ _ _ _ _ _ _ _ _ _ _ _ _ _ _ _ _ _ _ _ _ _ _ _ _ _ _ _ _ _ _ _ _ _ _ _ _ _ _)
  by_cases h7 : Q.length ≤ 65535
  case neg =>
    have HV : Hid ((fitsN i0 16 && fitsN i2 4 && fitsN i9 4 && decide (Q.length ≤ 65535) && decide (A.length ≤ 65535) && decide (U.length ≤ 65535) && decide (D.length ≤ 65535)) = false) := by unfold Hid; simp [fitsN]; omega
    rw [HV.out]
    go_enter Tryz.func11, Tryz.ntmps11
    go_upto_region 2 with fail
    rename_i K hK
    have HK := hide' hK
    clear hK
    go_wp2_with fail
    refine HK.out _ _ ?_
    first | exact cm_tail i0 i2 i9 b1 b3 b4 b5 b6 b7 b8 q0 a0 u0 d0 qc ac uc dc Q A U D w.heap.size false w _ HL HZ HX HB HLN _ _ _ _ _ _ _ _ _ _ _ _ _ _ _ _ _ _ _ _ _ _ _ _ _ _ _ _ _ _ _ _ _ _ _ _ _ _ _ _ _ _ _ _ _ _ _ _ _ _ _ _ _ _ _ _ _ _ _ _ _ _ _ _ _ _ _ _ _ _ _ _ _ _ _ _ _ _ _ _ _ _ _ _ _ _ _ _ _ _ _ _ _ _ _ _ _ _ _ _ _ _ _ _ _ _ _ _ _ _ _ _ _ _ _ _ _ _ _ _ _ _ _ _ _ _ _ _ _ _ _ _ _ _ _ _ _ _ | (rw [show decide ((D.length : Int) ≤ 65535) = false by simp; omega]; exact cm_tail i0 i2 i9 b1 b3 b4 b5 b6 b7 b8 q0 a0 u0 d0 qc ac uc dc Q A U D w.heap.size false w _ HL HZ HX HB HLN _ _ _ _ _ _ _ _ _ _ _ _ _ _ _ _ _ _ _ _ _ _ _ _ _ _ _ _ _ _ _ _ _ _ _ _ _ _ _ _ _ _ _ _ _ _ _ _ _ _ _ _ _ _ _ _ _ _ _ _ _ _ _ _ _ _ _ _ _ _ _ _ _ _ _ _ _ _ _ _ _ _ _ _ _ _ _ _ _ _ _ _ _ _ _ _ _ _ _ _ _ _ _ _ _ _ _ _ _ _ _ _ _ _ _ _ _ _ _ _ _ _ _ _ _ _ _ _ _ _ _ _ _ _ _ _ _ _)
  by_cases h8 : A.length ≤ 65535
  case neg =>
    have HV : Hid ((fitsN i0 16 && fitsN i2 4 && fitsN i9 4 && decide (Q.length ≤ 65535) && decide (A.length ≤ 65535) && decide (U.length ≤ 65535) && decide (D.length ≤ 65535)) = false) := by unfold Hid; simp [fitsN]; omega
    rw [HV.out]
    go_enter Tryz.func11, Tryz.ntmps11
    go_upto_region 2 with fail
    rename_i K hK
    have HK := hide' hK
    clear hK
    go_wp2_with fail
    refine HK.out _ _ ?_
    first | exact cm_tail i0 i2 i9 b1 b3 b4 b5 b6 b7 b8 q0 a0 u0 d0 qc ac uc dc Q A U D w.heap.size false w _ HL HZ HX HB HLN _ _ _ _ _ _ _ _ _ _ _ _ _ _ _ _ _ _ _ _ _ _ _ _ _ _ _ _ _ _ _ _ _ _ _ _ _ _ _ _ _ _ _ _ _ _ _ _ _ _ _ _ _ _ _ _ _ _ _ _ _ _ _ _ _ _ _ _ _ _ _ _ _ _ _ _ _ _ _ _ _ _ _ _ _ _ _ _ _ _ _ _ _ _ _ _ _ _ _ _ _ _ _ _ _ _ _ _ _ _ _ _ _ _ _ _ _ _ _ _ _ _ _ _ _ _ _ _ _ _ _ _ _ _ _ _ _ _ | (rw [show decide ((D.length : Int) ≤ 65535) = false by simp; omega]; exact cm_tail i0 i2 i9 b1 b3 b4 b5 b6 b7 b8 q0 a0 u0 d0 qc ac uc dc Q A U D w.heap.size false w _ HL HZ HX HB HLN _ _ _ _ _ _ _ _ _ _ _ _ _ _ _ _ _ _ _ _ _ _ _ _ _ _ _ _ _ _ _ _ _ _ _ _ _ _ _ _ _ _ _ _ _ _ _ _ _ _ _ _ _ _ _ _ _ _ _ _ _ _ _ _ _ _ _ _ _ _ _ _ _ _ _ _ _ _ _ _ _ _ _ _ _ _ _ _ _ _ _ _ _ _ _ _ _ _ _ _ _ _ _ _ _ _ _ _ _ _ _ _ _ _ _ _ _ _ _ _ _ _ _ _ _ _ _ _ _ _ _ _ _ _ _ _ _ _)
  by_cases h9 : U.length ≤ 65535
  case neg =>
    have HV : Hid ((fitsN i0 16 && fitsN i2 4 && fitsN i9 4 && decide (Q.length ≤ 65535) && decide (A.length ≤ 65535) && decide (U.length ≤ 65535) && decide (D.length ≤ 65535)) = false) := by unfold Hid; simp [fitsN]; omega
    rw [HV.out]
    go_enter Tryz.func11, Tryz.ntmps11
    go_upto_region 2 with fail
    rename_i K hK
    have HK := hide' hK
    clear hK
    go_wp2_with fail
    refine HK.out _ _ ?_
    first | exact cm_tail i0 i2 i9 b1 b3 b4 b5 b6 b7 b8 q0 a0 u0 d0 qc ac uc dc Q A U D w.heap.size false w _ HL HZ HX HB HLN _ _ _ _ _ _ _ _ _ _ _ _ _ _ _ _ _ _ _ _ _ _ _ _ _ _ _ _ _ _ _ _ _ _ _ _ _ _ _ _ _ _ _ _ _ _ _ _ _ _ _ _ _ _ _ _ _ _ _ _ _ _ _ _ _ _ _ _ _ _ _ _ _ _ _ _ _ _ _ _ _ _ _ _ _ _ _ _ _ _ _ _ _ _ _ _ _ _ _ _ _ _ _ _ _ _ _ _ _ _ _ _ _ _ _ _ _ _ _ _ _ _ _ _ _ _ _ _ _ _ _ _ _ _ _ _ _ _ | (rw [show decide ((D.length : Int) ≤ 65535) = false by simp; omega]; exact cm_tail i0 i2 i9 b1 b3 b4 b5 b6 b7 b8 q0 a0 u0 d0 qc ac uc dc Q A U D w.heap.size false w _ HL HZ HX HB HLN _ _ _ _ _ _ _ _ _ _ _ _ _ _ _ _ _ _ _ _ _ _ _ _ _ _ _ _ _ _ _ _ _ _ _ _ _ _ _ _ _ _ _ _ _ _ _ _ _ _ _ _ _ _ _ _ _ _ _ _ _ _ _ _ _ _ _ _ _ _ _ _ _ _ _ _ _ _ _ _ _ _ _ _ _ _ _ _ _ _ _ _ _ _ _ _ _ _ _ _ _ _ _ _ _ _ _ _ _ _ _ _ _ _ _ _ _ _ _ _ _ _ _ _ _ _ _ _ _ _ _ _ _ _ _ _ _ _)
  by_cases h10 : D.length ≤ 65535
  case neg =>
    have HV : Hid ((fitsN i0 16 && fitsN i2 4 && fitsN i9 4 && decide (Q.length ≤ 65535) && decide (A.length ≤ 65535) && decide (U.length ≤ 65535) && decide (D.length ≤ 65535)) = false) := by unfold Hid; simp [fitsN]; omega
    rw [HV.out]
    go_enter Tryz.func11, Tryz.ntmps11
    go_upto_region 2 with fail
    rename_i K hK
    have HK := hide' hK
    clear hK
    go_wp2_with fail
    refine HK.out _ _ ?_
    first | exact cm_tail i0 i2 i9 b1 b3 b4 b5 b6 b7 b8 q0 a0 u0 d0 qc ac uc dc Q A U D w.heap.size false w _ HL HZ HX HB HLN _ _ _ _ _ _ _ _ _ _ _ _ _ _ _ _ _ _ _ _ _ _ _ _ _ _ _ _ _ _ _ _ _ _ _ _ _ _ _ _ _ _ _ _ _ _ _ _ _ _ _ _ _ _ _ _ _ _ _ _ _ _ _ _ _ _ _ _ _ _ _ _ _ _ _ _ _ _ _ _ _ _ _ _ _ _ _ _ _ _ _ _ _ _ _ _ _ _ _ _ _ _ _ _ _ _ _ _ _ _ _ _ _ _ _ _ _ _ _ _ _ _ _ _ _ _ _ _ _ _ _ _ _ _ _ _ _ _ | (rw [show decide ((D.length : Int) ≤ 65535) = false by simp; omega]; exact cm_tail i0 i2 i9 b1 b3 b4 b5 b6 b7 b8 q0 a0 u0 d0 qc ac uc dc Q A U D w.heap.size false w _ HL HZ HX HB HLN _ _ _ _ _ _ _ _ _ _ _ _ _ _ _ _ _ _ _ _ _ _ _ _ _ _ _ _ _ _ _ _ _ _ _ _ _ _ _ _ _ _ _ _ _ _ _ _ _ _ _ _ _ _ _ _ _ _ _ _ _ _ _ _ _ _ _ _ _ _ _ _ _ _ _ _ _ _ _ _ _ _ _ _ _ _ _ _ _ _ _ _ _ _ _ _ _ _ _ _ _ _ _ _ _ _ _ _ _ _ _ _ _ _ _ _ _ _ _ _ _ _ _ _ _ _ _ _ _ _ _ _ _ _ _ _ _ _)
  have HV : Hid ((fitsN i0 16 && fitsN i2 4 && fitsN i9 4 && decide (Q.length ≤ 65535) && decide (A.length ≤ 65535) && decide (U.length ≤ 65535) && decide (D.length ≤ 65535)) = true) := by unfold Hid; simp [fitsN]; omega
  rw [HV.out]
  go_enter Tryz.func11, Tryz.ntmps11
  go_upto_region 2 with fail
  rename_i K hK
  have HK := hide' hK
  clear hK
  go_wp2_with fail
  refine HK.out _ _ ?_
  first | exact cm_tail i0 i2 i9 b1 b3 b4 b5 b6 b7 b8 q0 a0 u0 d0 qc ac uc dc Q A U D w.heap.size true w _ HL HZ HX HB HLN _ _ _ _ _ _ _ _ _ _ _ _ _ _ _ _ _ _ _ _ _ _ _ _ _ _ _ _ _ _ _ _ _ _ _ _ _ _ _ _ _ _ _ _ _ _ _ _ _ _ _ _ _ _ _ _ _ _ _ _ _ _ _ _ _ _ _ _ _ _ _ _ _ _ _ _ _ _ _ _ _ _ _ _ _ _ _ _ _ _ _ _ _ _ _ _ _ _ _ _ _ _ _ _ _ _ _ _ _ _ _ _ _ _ _ _ _ _ _ _ _ _ _ _ _ _ _ _ _ _ _ _ _ _ _ _ _ _ | (rw [show decide ((D.length : Int) ≤ 65535) = true by simp; omega]; exact cm_tail i0 i2 i9 b1 b3 b4 b5 b6 b7 b8 q0 a0 u0 d0 qc ac uc dc Q A U D w.heap.size true w _ HL HZ HX HB HLN _ _ _ _ _ _ _ _ _ _ _ _ _ _ _ _ _ _ _ _ _ _ _ _ _ _ _ _ _ _ _ _ _ _ _ _ _ _ _ _ _ _ _ _ _ _ _ _ _ _ _ _ _ _ _ _ _ _ _ _ _ _ _ _ _ _ _ _ _ _ _ _ _ _ _ _ _ _ _ _ _ _ _ _ _ _ _ _ _ _ _ _ _ _ _ _ _ _ _ _ _ _ _ _ _ _ _ _ _ _ _ _ _ _ _ _ _ _ _ _ _ _ _ _ _ _ _ _ _ _ _ _ _ _ _ _ _ _)
end Go.Proofs.YtjnmbgmdkkiidaaGreat
