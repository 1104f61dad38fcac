import Derived.Test.YtinnmfidnecncaaFtd
import Derived.Test.YtinnmfidnecncaaFte
import Derived.Test.YtinnmfidnecncaaFtf
import Derived.Deep.Cut
import Derived.Test.YtinnmfidnecncaaFr0G
namespace Go.Proofs.Ytinnmfidnecncaa
set_option linter.unusedVariables false
open Go.RowKit Go.Shelf Go.Maps Go.Proofs.Ytinnmfidnecncaa.Nm

set_option maxRecDepth 100000 in
theorem fw_some (i0 i2 i9 : Nat) (b1 b3 b4 b5 b6 b7 b8 : Bool) (q0 a0 u0 d0 q1 a1 u1 d1 : Option Addr) (qc ac uc dc qc1 ac1 uc1 cd : Nat) (Q : List Qn) (A U D Dk : List Rn) (limit : Int) (R Y : Nat) (w w0 : World) (HB0 : Hid (Below w.heap.size w w0)) (HX0 : Hid (Bx w0 R #[.int .i64 (i0 : Int), .bool b1, .int .i64 (i2 : Int), .bool b3, .bool b4, .bool b5, .bool b6, .bool b7, .bool b8, .int .i64 (i9 : Int), .slice q0 Q.length qc, .slice a0 A.length ac, .slice u0 U.length uc, .slice d0 D.length dc] 25)) (HY0 : Hid (Bx w0 Y #[.int .i64 (i0 : Int), .bool b1, .int .i64 (i2 : Int), .bool b3, .bool b4, .bool b5, .bool b6, .bool b7, .bool b8, .int .i64 (i9 : Int), .slice q1 Q.length qc1, .slice a1 A.length ac1, .slice u1 U.length uc1, .slice d1 Dk.length cd] 25)) (HW0 : Hid (LsAt w0 q0 a0 u0 d0 Q A U D)) (HL0 : Hid (LsAt w0 q1 a1 u1 d1 Q A U Dk)) (hm : msgOK i0 i2 i9 Q A U D = true) (hmem : ∀ r ∈ Dk, r ∈ D) (hlen : Dk.length ≤ D.length) (hfit : (((fitR (min limit 65535) i0 i2 i9 b1 b3 b4 b5 b6 b7 b8 Q A U Dk).1.out.size : Nat) : Int) ≤ min limit 65535) (hor : Dk = D ∨ min limit 65535 < (((fitR (min limit 65535) i0 i2 i9 b1 b3 b4 b5 b6 b7 b8 Q A U D).1.out.size : Nat) : Int)) (x0 x3 x4 x7 x8 x9 x10 x11 x12 x13 x14 x15 x16 x17 x18 x19 x20 x21 x22 x23 x24 x25 x26 x27 x28 x29 x30 x31 x32 x33 x34 x35 x36 x37 x38 x39 x40 x41 x42 x43 x44 x45 x46 x47 x48 x49 x50 x51 x52 x53 x54 x55 x56 x57 x58 x59 x60 x61 x62 x63 x64 x65 x66 x67 x68 x69 x70 x71 x72 x73 x74 x75 x76 x77 x78 x79 x80 x81 x82 x83 x84 x85 x86 x87 x88 x89 x90 x91 x92 x93 x94 x95 x96 x97 x98 x99 x100 x101 x102 x103 x104 x105 x106 x107 x108 x109 x110 x111 x112 : Value) :
    Code.wp Try.prog (((Try.f4.body.map (tailsN 7)).getD []).getD 0 .skip) (bodyPost Try.prog Try.f4 fun e w' => e = .returned (.bool true) ∧ Below w.heap.size w w') ⟨List.toArray (x0 :: (.int .i64 limit : Value) :: (.pointer (some ⟨R, 0, none⟩) : Value) :: x3 :: x4 :: (.pointer (some ⟨Y, 0, none⟩) : Value) :: (.int .i64 0 : Value) :: x7 :: x8 :: x9 :: x10 :: x11 :: x12 :: x13 :: x14 :: x15 :: x16 :: x17 :: x18 :: x19 :: x20 :: x21 :: x22 :: x23 :: x24 :: x25 :: x26 :: x27 :: x28 :: x29 :: x30 :: x31 :: x32 :: x33 :: x34 :: x35 :: x36 :: x37 :: x38 :: x39 :: x40 :: x41 :: x42 :: x43 :: x44 :: x45 :: x46 :: x47 :: x48 :: x49 :: x50 :: x51 :: x52 :: x53 :: x54 :: x55 :: x56 :: x57 :: x58 :: x59 :: x60 :: x61 :: x62 :: x63 :: x64 :: x65 :: x66 :: x67 :: x68 :: x69 :: x70 :: x71 :: x72 :: x73 :: x74 :: x75 :: x76 :: x77 :: x78 :: x79 :: x80 :: x81 :: x82 :: x83 :: x84 :: x85 :: x86 :: x87 :: x88 :: x89 :: x90 :: x91 :: x92 :: x93 :: x94 :: x95 :: x96 :: x97 :: x98 :: x99 :: x100 :: x101 :: x102 :: x103 :: x104 :: x105 :: x106 :: x107 :: x108 :: x109 :: x110 :: x111 :: x112 :: []), []⟩ w0 := by
  have hmx := msgOK_less hm hmem hlen
  have hp := fit_pack hmx (by omega) hfit
  rw [← hp] at hfit
  by_cases hbig : 65535 < (packS i0 i2 i9 b1 b3 b4 b5 b6 b7 b8 Q A U D).out.size
  · exact fw_large_same i0 i2 i9 b1 b3 b4 b5 b6 b7 b8 q0 a0 u0 d0 q1 a1 u1 d1 qc ac uc dc qc1 ac1 uc1 cd Q A U D Dk limit R Y w w0 HB0 HX0 HY0 HW0 HL0 hm hmx (by omega) (by omega) hbig x0 x3 x4 x7 x8 x9 x10 x11 x12 x13 x14 x15 x16 x17 x18 x19 x20 x21 x22 x23 x24 x25 x26 x27 x28 x29 x30 x31 x32 x33 x34 x35 x36 x37 x38 x39 x40 x41 x42 x43 x44 x45 x46 x47 x48 x49 x50 x51 x52 x53 x54 x55 x56 x57 x58 x59 x60 x61 x62 x63 x64 x65 x66 x67 x68 x69 x70 x71 x72 x73 x74 x75 x76 x77 x78 x79 x80 x81 x82 x83 x84 x85 x86 x87 x88 x89 x90 x91 x92 x93 x94 x95 x96 x97 x98 x99 x100 x101 x102 x103 x104 x105 x106 x107 x108 x109 x110 x111 x112
  · by_cases hov : limit < (((packS i0 i2 i9 b1 b3 b4 b5 b6 b7 b8 Q A U D).out.size : Nat) : Int)
    · exact fw_over_same i0 i2 i9 b1 b3 b4 b5 b6 b7 b8 q0 a0 u0 d0 q1 a1 u1 d1 qc ac uc dc qc1 ac1 uc1 cd Q A U D Dk limit R Y w w0 HB0 HX0 HY0 HW0 HL0 hm hmx (by omega) (by omega) hbig hov x0 x3 x4 x7 x8 x9 x10 x11 x12 x13 x14 x15 x16 x17 x18 x19 x20 x21 x22 x23 x24 x25 x26 x27 x28 x29 x30 x31 x32 x33 x34 x35 x36 x37 x38 x39 x40 x41 x42 x43 x44 x45 x46 x47 x48 x49 x50 x51 x52 x53 x54 x55 x56 x57 x58 x59 x60 x61 x62 x63 x64 x65 x66 x67 x68 x69 x70 x71 x72 x73 x74 x75 x76 x77 x78 x79 x80 x81 x82 x83 x84 x85 x86 x87 x88 x89 x90 x91 x92 x93 x94 x95 x96 x97 x98 x99 x100 x101 x102 x103 x104 x105 x106 x107 x108 x109 x110 x111 x112
    · have hpf := pack_fit hm (by omega) (show (((packS i0 i2 i9 b1 b3 b4 b5 b6 b7 b8 Q A U D).out.size : Nat) : Int) ≤ min limit 65535 by omega)
      have hd : Dk = D := by
        rcases hor with h | h
        · exact h
        · omega
      exact fw_fits_same i0 i2 i9 b1 b3 b4 b5 b6 b7 b8 q0 a0 u0 d0 q1 a1 u1 d1 qc ac uc dc qc1 ac1 uc1 cd Q A U D Dk limit R Y w w0 HB0 HX0 HY0 HW0 HL0 hm hmx (by omega) (by omega) hbig (by omega) hd x0 x3 x4 x7 x8 x9 x10 x11 x12 x13 x14 x15 x16 x17 x18 x19 x20 x21 x22 x23 x24 x25 x26 x27 x28 x29 x30 x31 x32 x33 x34 x35 x36 x37 x38 x39 x40 x41 x42 x43 x44 x45 x46 x47 x48 x49 x50 x51 x52 x53 x54 x55 x56 x57 x58 x59 x60 x61 x62 x63 x64 x65 x66 x67 x68 x69 x70 x71 x72 x73 x74 x75 x76 x77 x78 x79 x80 x81 x82 x83 x84 x85 x86 x87 x88 x89 x90 x91 x92 x93 x94 x95 x96 x97 x98 x99 x100 x101 x102 x103 x104 x105 x106 x107 x108 x109 x110 x111 x112
set_option maxRecDepth 100000 in
theorem fw_cut (i0 i2 i9 : Nat) (b1 b3 b4 b5 b6 b7 b8 : Bool) (q0 a0 u0 d0 q1 a1 u1 d1 : Option Addr) (qc ac uc dc qc1 ac1 uc1 cd : Nat) (Q : List Qn) (A U D Dk : List Rn) (limit : Int) (R Y : Nat) (w w0 : World) (HB0 : Hid (Below w.heap.size w w0)) (HX0 : Hid (Bx w0 R #[.int .i64 (i0 : Int), .bool b1, .int .i64 (i2 : Int), .bool b3, .bool b4, .bool b5, .bool b6, .bool b7, .bool b8, .int .i64 (i9 : Int), .slice q0 Q.length qc, .slice a0 A.length ac, .slice u0 U.length uc, .slice d0 D.length dc] 25)) (HY0 : Hid (Bx w0 Y #[.int .i64 (i0 : Int), .bool b1, .int .i64 (i2 : Int), .bool b3, .bool true, .bool b5, .bool b6, .bool b7, .bool b8, .int .i64 (i9 : Int), .slice q1 Q.length qc1, .slice a1 0 ac1, .slice u1 0 uc1, .slice d1 Dk.length cd] 25)) (HW0 : Hid (LsAt w0 q0 a0 u0 d0 Q A U D)) (HL0 : Hid (LsAt w0 q1 a1 u1 d1 Q [] [] Dk)) (hm : msgOK i0 i2 i9 Q A U D = true) (hmem : ∀ r ∈ Dk, r ∈ D) (hlen : Dk.length ≤ D.length) (hfit : (((fitR (min limit 65535) i0 i2 i9 b1 b3 true b5 b6 b7 b8 Q [] [] Dk).1.out.size : Nat) : Int) ≤ min limit 65535) (hor : min limit 65535 < (((fitR (min limit 65535) i0 i2 i9 b1 b3 b4 b5 b6 b7 b8 Q A U D).1.out.size : Nat) : Int)) (x0 x3 x4 x7 x8 x9 x10 x11 x12 x13 x14 x15 x16 x17 x18 x19 x20 x21 x22 x23 x24 x25 x26 x27 x28 x29 x30 x31 x32 x33 x34 x35 x36 x37 x38 x39 x40 x41 x42 x43 x44 x45 x46 x47 x48 x49 x50 x51 x52 x53 x54 x55 x56 x57 x58 x59 x60 x61 x62 x63 x64 x65 x66 x67 x68 x69 x70 x71 x72 x73 x74 x75 x76 x77 x78 x79 x80 x81 x82 x83 x84 x85 x86 x87 x88 x89 x90 x91 x92 x93 x94 x95 x96 x97 x98 x99 x100 x101 x102 x103 x104 x105 x106 x107 x108 x109 x110 x111 x112 : Value) :
    Code.wp Try.prog (((Try.f4.body.map (tailsN 7)).getD []).getD 0 .skip) (bodyPost Try.prog Try.f4 fun e w' => e = .returned (.bool true) ∧ Below w.heap.size w w') ⟨List.toArray (x0 :: (.int .i64 limit : Value) :: (.pointer (some ⟨R, 0, none⟩) : Value) :: x3 :: x4 :: (.pointer (some ⟨Y, 0, none⟩) : Value) :: (.int .i64 0 : Value) :: x7 :: x8 :: x9 :: x10 :: x11 :: x12 :: x13 :: x14 :: x15 :: x16 :: x17 :: x18 :: x19 :: x20 :: x21 :: x22 :: x23 :: x24 :: x25 :: x26 :: x27 :: x28 :: x29 :: x30 :: x31 :: x32 :: x33 :: x34 :: x35 :: x36 :: x37 :: x38 :: x39 :: x40 :: x41 :: x42 :: x43 :: x44 :: x45 :: x46 :: x47 :: x48 :: x49 :: x50 :: x51 :: x52 :: x53 :: x54 :: x55 :: x56 :: x57 :: x58 :: x59 :: x60 :: x61 :: x62 :: x63 :: x64 :: x65 :: x66 :: x67 :: x68 :: x69 :: x70 :: x71 :: x72 :: x73 :: x74 :: x75 :: x76 :: x77 :: x78 :: x79 :: x80 :: x81 :: x82 :: x83 :: x84 :: x85 :: x86 :: x87 :: x88 :: x89 :: x90 :: x91 :: x92 :: x93 :: x94 :: x95 :: x96 :: x97 :: x98 :: x99 :: x100 :: x101 :: x102 :: x103 :: x104 :: x105 :: x106 :: x107 :: x108 :: x109 :: x110 :: x111 :: x112 :: []), []⟩ w0 := by
  have hmx := msgOK_less hm hmem hlen
  have hmx := msgOK_none hmx
  have hp := fit_pack hmx (by omega) hfit
  rw [← hp] at hfit
  by_cases hbig : 65535 < (packS i0 i2 i9 b1 b3 b4 b5 b6 b7 b8 Q A U D).out.size
  · by_cases hna : 0 = A.length
    · have hna := List.eq_nil_of_length_eq_zero hna.symm
      by_cases hnu : 0 = U.length
      · exact fw_large_none i0 i2 i9 b1 b3 b4 b5 b6 b7 b8 q0 a0 u0 d0 q1 a1 u1 d1 qc ac uc dc qc1 ac1 uc1 cd Q A U D Dk limit R Y w w0 HB0 HX0 HY0 HW0 HL0 hm hmx (by omega) (by omega) hbig hna (List.eq_nil_of_length_eq_zero hnu.symm) x0 x3 x4 x7 x8 x9 x10 x11 x12 x13 x14 x15 x16 x17 x18 x19 x20 x21 x22 x23 x24 x25 x26 x27 x28 x29 x30 x31 x32 x33 x34 x35 x36 x37 x38 x39 x40 x41 x42 x43 x44 x45 x46 x47 x48 x49 x50 x51 x52 x53 x54 x55 x56 x57 x58 x59 x60 x61 x62 x63 x64 x65 x66 x67 x68 x69 x70 x71 x72 x73 x74 x75 x76 x77 x78 x79 x80 x81 x82 x83 x84 x85 x86 x87 x88 x89 x90 x91 x92 x93 x94 x95 x96 x97 x98 x99 x100 x101 x102 x103 x104 x105 x106 x107 x108 x109 x110 x111 x112
      · exact fw_large_auth i0 i2 i9 b1 b3 b4 b5 b6 b7 b8 q0 a0 u0 d0 q1 a1 u1 d1 qc ac uc dc qc1 ac1 uc1 cd Q A U D Dk limit R Y w w0 HB0 HX0 HY0 HW0 HL0 hm hmx (by omega) (by omega) hbig hna hnu x0 x3 x4 x7 x8 x9 x10 x11 x12 x13 x14 x15 x16 x17 x18 x19 x20 x21 x22 x23 x24 x25 x26 x27 x28 x29 x30 x31 x32 x33 x34 x35 x36 x37 x38 x39 x40 x41 x42 x43 x44 x45 x46 x47 x48 x49 x50 x51 x52 x53 x54 x55 x56 x57 x58 x59 x60 x61 x62 x63 x64 x65 x66 x67 x68 x69 x70 x71 x72 x73 x74 x75 x76 x77 x78 x79 x80 x81 x82 x83 x84 x85 x86 x87 x88 x89 x90 x91 x92 x93 x94 x95 x96 x97 x98 x99 x100 x101 x102 x103 x104 x105 x106 x107 x108 x109 x110 x111 x112
    · exact fw_large_ans i0 i2 i9 b1 b3 b4 b5 b6 b7 b8 q0 a0 u0 d0 q1 a1 u1 d1 qc ac uc dc qc1 ac1 uc1 cd Q A U D Dk limit R Y w w0 HB0 HX0 HY0 HW0 HL0 hm hmx (by omega) (by omega) hbig hna x0 x3 x4 x7 x8 x9 x10 x11 x12 x13 x14 x15 x16 x17 x18 x19 x20 x21 x22 x23 x24 x25 x26 x27 x28 x29 x30 x31 x32 x33 x34 x35 x36 x37 x38 x39 x40 x41 x42 x43 x44 x45 x46 x47 x48 x49 x50 x51 x52 x53 x54 x55 x56 x57 x58 x59 x60 x61 x62 x63 x64 x65 x66 x67 x68 x69 x70 x71 x72 x73 x74 x75 x76 x77 x78 x79 x80 x81 x82 x83 x84 x85 x86 x87 x88 x89 x90 x91 x92 x93 x94 x95 x96 x97 x98 x99 x100 x101 x102 x103 x104 x105 x106 x107 x108 x109 x110 x111 x112
  · by_cases hov : limit < (((packS i0 i2 i9 b1 b3 b4 b5 b6 b7 b8 Q A U D).out.size : Nat) : Int)
    · by_cases hna : 0 = A.length
      · have hna := List.eq_nil_of_length_eq_zero hna.symm
        by_cases hnu : 0 = U.length
        · exact fw_over_none i0 i2 i9 b1 b3 b4 b5 b6 b7 b8 q0 a0 u0 d0 q1 a1 u1 d1 qc ac uc dc qc1 ac1 uc1 cd Q A U D Dk limit R Y w w0 HB0 HX0 HY0 HW0 HL0 hm hmx (by omega) (by omega) hbig hov hna (List.eq_nil_of_length_eq_zero hnu.symm) x0 x3 x4 x7 x8 x9 x10 x11 x12 x13 x14 x15 x16 x17 x18 x19 x20 x21 x22 x23 x24 x25 x26 x27 x28 x29 x30 x31 x32 x33 x34 x35 x36 x37 x38 x39 x40 x41 x42 x43 x44 x45 x46 x47 x48 x49 x50 x51 x52 x53 x54 x55 x56 x57 x58 x59 x60 x61 x62 x63 x64 x65 x66 x67 x68 x69 x70 x71 x72 x73 x74 x75 x76 x77 x78 x79 x80 x81 x82 x83 x84 x85 x86 x87 x88 x89 x90 x91 x92 x93 x94 x95 x96 x97 x98 x99 x100 x101 x102 x103 x104 x105 x106 x107 x108 x109 x110 x111 x112
        · exact fw_over_auth i0 i2 i9 b1 b3 b4 b5 b6 b7 b8 q0 a0 u0 d0 q1 a1 u1 d1 qc ac uc dc qc1 ac1 uc1 cd Q A U D Dk limit R Y w w0 HB0 HX0 HY0 HW0 HL0 hm hmx (by omega) (by omega) hbig hov hna hnu x0 x3 x4 x7 x8 x9 x10 x11 x12 x13 x14 x15 x16 x17 x18 x19 x20 x21 x22 x23 x24 x25 x26 x27 x28 x29 x30 x31 x32 x33 x34 x35 x36 x37 x38 x39 x40 x41 x42 x43 x44 x45 x46 x47 x48 x49 x50 x51 x52 x53 x54 x55 x56 x57 x58 x59 x60 x61 x62 x63 x64 x65 x66 x67 x68 x69 x70 x71 x72 x73 x74 x75 x76 x77 x78 x79 x80 x81 x82 x83 x84 x85 x86 x87 x88 x89 x90 x91 x92 x93 x94 x95 x96 x97 x98 x99 x100 x101 x102 x103 x104 x105 x106 x107 x108 x109 x110 x111 x112
      · exact fw_over_ans i0 i2 i9 b1 b3 b4 b5 b6 b7 b8 q0 a0 u0 d0 q1 a1 u1 d1 qc ac uc dc qc1 ac1 uc1 cd Q A U D Dk limit R Y w w0 HB0 HX0 HY0 HW0 HL0 hm hmx (by omega) (by omega) hbig hov hna x0 x3 x4 x7 x8 x9 x10 x11 x12 x13 x14 x15 x16 x17 x18 x19 x20 x21 x22 x23 x24 x25 x26 x27 x28 x29 x30 x31 x32 x33 x34 x35 x36 x37 x38 x39 x40 x41 x42 x43 x44 x45 x46 x47 x48 x49 x50 x51 x52 x53 x54 x55 x56 x57 x58 x59 x60 x61 x62 x63 x64 x65 x66 x67 x68 x69 x70 x71 x72 x73 x74 x75 x76 x77 x78 x79 x80 x81 x82 x83 x84 x85 x86 x87 x88 x89 x90 x91 x92 x93 x94 x95 x96 x97 x98 x99 x100 x101 x102 x103 x104 x105 x106 x107 x108 x109 x110 x111 x112
    · have hpf := pack_fit hm (by omega) (show (((packS i0 i2 i9 b1 b3 b4 b5 b6 b7 b8 Q A U D).out.size : Nat) : Int) ≤ min limit 65535 by omega)
      omega
end Go.Proofs.Ytinnmfidnecncaa

/-
  WireFitsWell, in all. (The verifier's own text.)
-/
namespace Go.Proofs.Ytinnmfidnecncaa
set_option linter.unusedVariables false
open Go.RowKit Go.Shelf Go.Maps Go.Proofs.Ytinnmfidnecncaa.Nm

set_option maxRecDepth 5000000 in
set_option maxHeartbeats 4000000 in
/-- WireFitsWell: a message -/
theorem fitsWell_yes (i0 i2 i9 : Nat) (b1 b3 b4 b5 b6 b7 b8 : Bool) (q0 a0 u0 d0 : Option Addr) (qc ac uc dc : Nat) (Q : List Qn) (A U D : List Rn) (limit : Int) (w : World) (hl : LsAt w q0 a0 u0 d0 Q A U D) (hm : msgOK i0 i2 i9 Q A U D = true) (nq : q0 = none → qc = 0) (na : a0 = none → ac = 0) (nu : u0 = none → uc = 0) (nd : d0 = none → dc = 0) (hlo : -9223372036854775808 ≤ limit) :
    Calls Try.prog 4 #[.agg #[.int .i64 (i0 : Int), .bool b1, .int .i64 (i2 : Int), .bool b3, .bool b4, .bool b5, .bool b6, .bool b7, .bool b8, .int .i64 (i9 : Int), .slice q0 Q.length qc, .slice a0 A.length ac, .slice u0 U.length uc, .slice d0 D.length dc], .int .i64 limit] w fun e w' => e = .returned (.bool true) ∧ Below w.heap.size w w' := by
  have HX : Hid (Bx (w.alloc (.cells #[.int .i64 (i0 : Int), .bool b1, .int .i64 (i2 : Int), .bool b3, .bool b4, .bool b5, .bool b6, .bool b7, .bool b8, .int .i64 (i9 : Int), .slice q0 Q.length qc, .slice a0 A.length ac, .slice u0 U.length uc, .slice d0 D.length dc] 25)) w.heap.size #[.int .i64 (i0 : Int), .bool b1, .int .i64 (i2 : Int), .bool b3, .bool b4, .bool b5, .bool b6, .bool b7, .bool b8, .int .i64 (i9 : Int), .slice q0 Q.length qc, .slice a0 A.length ac, .slice u0 U.length uc, .slice d0 D.length dc] 25) := World.alloc_heap_new w _
  have HB := hide' ((Below.refl w.heap.size w).alloc (Nat.le_refl _) (.cells #[.int .i64 (i0 : Int), .bool b1, .int .i64 (i2 : Int), .bool b3, .bool b4, .bool b5, .bool b6, .bool b7, .bool b8, .int .i64 (i9 : Int), .slice q0 Q.length qc, .slice a0 A.length ac, .slice u0 U.length uc, .slice d0 D.length dc] 25))
  have HW := hide' hl
  have T1 : Hid True := trivial
  have HMin : Hid ((min (24 : Int) 65535 = 24) ∧ (min (23 : Int) 65535 = 23)) := ⟨by omega, by omega⟩
  clear hl
  have HHM := hide' hm
  have HN4 := hide' (And.intro nq (And.intro na (And.intro nu nd)))
  have HLO := hide' hlo
  clear hm nq na nu nd hlo
  go_enter Try.func4, Try.ntmps4
  go_wp2_with (first
    | (go_at_call 6; have _ := T1; clear T1; refine (question_any _).mono ?_; rintro e w1 ⟨g1, rfl, hL1, hB1⟩; have L1 := hide' hL1; have HB1 := hide' (bstep HB.out hB1 HB.out.size); have HX1 : Hid (Bx w1 w.heap.size #[.int .i64 (i0 : Int), .bool b1, .int .i64 (i2 : Int), .bool b3, .bool b4, .bool b5, .bool b6, .bool b7, .bool b8, .int .i64 (i9 : Int), .slice q0 Q.length qc, .slice a0 A.length ac, .slice u0 U.length uc, .slice d0 D.length dc] 25) := HX.out.below hB1 HX.out.lt; have T2 : Hid True := trivial; clear hL1 hB1)
    | (go_at_call 10; have _ := T2; clear T2; refine (fit_yes 7 0 0 false false false true false false false (some ⟨g1, 0, none⟩) none none none 1 0 0 0 [exQ] [] [] [] 24 _ L1.out exMsg (fun e => by cases e) (fun _ => rfl) (fun _ => rfl) (fun _ => rfl) (by omega)).mono ?_; rintro e w2 h2; rw [HMin.out.1] at h2; obtain ⟨e1, e2, e3, e4, k1, k2, k3, k4, rfl, hL2, hB2⟩ := fitEx24 h2; have HB2 := hide' (bstep HB1.out hB2 HB1.out.size); have HX2 : Hid (Bx w2 w.heap.size #[.int .i64 (i0 : Int), .bool b1, .int .i64 (i2 : Int), .bool b3, .bool b4, .bool b5, .bool b6, .bool b7, .bool b8, .int .i64 (i9 : Int), .slice q0 Q.length qc, .slice a0 A.length ac, .slice u0 U.length uc, .slice d0 D.length dc] 25) := HX1.out.below hB2 HX1.out.lt; obtain ⟨w3, hw3⟩ : ∃ w3, w2.alloc (.cells #[.int .i64 7, .bool false, .int .i64 0, .bool false, .bool false, .bool true, .bool false, .bool false, .bool false, .int .i64 0, .slice e1 1 k1, .slice e2 0 k2, .slice e3 0 k3, .slice e4 0 k4] 25) = w3 := ⟨_, rfl⟩; have HB23 : Hid (Below w2.heap.size w2 w3) := hw3 ▸ (Below.refl _ w2).alloc (Nat.le_refl _) _; have L3 := hide' (hL2.below HB23.out); have HB3 := hide' (bstep HB2.out HB23.out HB2.out.size); have HX3 : Hid (Bx w3 w.heap.size #[.int .i64 (i0 : Int), .bool b1, .int .i64 (i2 : Int), .bool b3, .bool b4, .bool b5, .bool b6, .bool b7, .bool b8, .int .i64 (i9 : Int), .slice q0 Q.length qc, .slice a0 A.length ac, .slice u0 U.length uc, .slice d0 D.length dc] 25) := HX2.out.below HB23.out HX2.out.lt; have HY3 : Hid (Bx w3 w2.heap.size #[.int .i64 7, .bool false, .int .i64 0, .bool false, .bool false, .bool true, .bool false, .bool false, .bool false, .int .i64 0, .slice e1 1 k1, .slice e2 0 k2, .slice e3 0 k3, .slice e4 0 k4] 25) := hw3 ▸ World.alloc_heap_new w2 _; clear hL2 hB2 h2; have T3 : Hid True := trivial)
    | (go_at_call 6; have _ := T3; clear T3; refine (question_any _).mono ?_; rintro e w4 ⟨g4, rfl, hL4, hB4⟩; have L4 := hide' hL4; have L34 := hide' (L3.out.below hB4); have HB4 := hide' (bstep HB3.out hB4 HB3.out.size); have HX4 : Hid (Bx w4 w.heap.size #[.int .i64 (i0 : Int), .bool b1, .int .i64 (i2 : Int), .bool b3, .bool b4, .bool b5, .bool b6, .bool b7, .bool b8, .int .i64 (i9 : Int), .slice q0 Q.length qc, .slice a0 A.length ac, .slice u0 U.length uc, .slice d0 D.length dc] 25) := HX3.out.below hB4 HX3.out.lt; have HY4 : Hid (Bx w4 w2.heap.size #[.int .i64 7, .bool false, .int .i64 0, .bool false, .bool false, .bool true, .bool false, .bool false, .bool false, .int .i64 0, .slice e1 1 k1, .slice e2 0 k2, .slice e3 0 k3, .slice e4 0 k4] 25) := HY3.out.below hB4 HY3.out.lt; obtain ⟨y0, y1, y2, y3, y4, y5, y6, y7, y8, y9, y10, y11, y12, y13⟩ := bx14 HY4.out; clear hL4 hB4))
  have y0 : ∀ W : World, Below w3.heap.size w3 W → Bx W w2.heap.size #[.int .i64 7, .bool false, .int .i64 0, .bool false, .bool false, .bool true, .bool false, .bool false, .bool false, .int .i64 0, .slice e1 1 k1, .slice e2 0 k2, .slice e3 0 k3, .slice e4 0 k4] 25 := fun W h => HY3.out.below h HY3.out.lt
  have HYA := hide' y0
  clear y0
  obtain ⟨y0, y1, y2, y3, y4, y5, y6, y7, y8, y9, y10, y11, y12, y13⟩ := bx14 HY3.out
  obtain ⟨z0, z1, z2, z3, z4, z5, z6, z7, z8, z9, z10, z11, z12, z13⟩ := bx14 (HYA.out _ ((Below.refl _ w3).drew))
  have HDr := hide' ((Below.refl w3.heap.size w3).drew)
  go_region_with (first | (go_at_call 6; refine (question_any _).mono ?_; rintro e w4 ⟨g4, rfl, hL4, hB4⟩; have L4 := hide' hL4; have HB34 : Hid (Below w3.heap.size w3 w4) := (by first | exact bstep HDr.out hB4 HDr.out.size | exact hB4); obtain ⟨v0, v1, v2, v3, v4, v5, v6, v7, v8, v9, v10, v11, v12, v13⟩ := bx14 (HYA.out _ HB34.out); clear hL4 hB4) | (go_at_call 9; refine (sameMessages2 7 0 0 false false false true false false false e1 e2 e3 e4 (some ⟨g4, 0, none⟩) none none none k1 k2 k3 k4 1 0 0 0 ⟨[exQ], [], [], []⟩ _ ⟨(L3.out.below HB34.out).q, (L3.out.below HB34.out).a, (L3.out.below HB34.out).u, (L3.out.below HB34.out).d⟩ ⟨L4.out.q, L4.out.a, L4.out.u, L4.out.d⟩ (by decide)).mono ?_; rintro e w5 ⟨rfl, hB5⟩; have HB35 := hide' (bstep HB34.out hB5 HB34.out.size); clear hB5))
  all_goals
    go_upto_region 7 with (first
      | (go_at_call 6; refine (question_any _).mono ?_; rintro e w6 ⟨g6, rfl, hL6, hB6⟩; have L6 := hide' hL6; have HB36 := hide' (bstep HB35.out hB6 HB35.out.size); have T6 : Hid True := trivial; clear hL6 hB6)
      | (go_at_call 10; have _ := T6; clear T6; refine (fit_yes 7 0 0 false false false true false false false (some ⟨g6, 0, none⟩) none none none 1 0 0 0 [exQ] [] [] [] 23 _ L6.out exMsg (fun e => by cases e) (fun _ => rfl) (fun _ => rfl) (fun _ => rfl) (by omega)).mono ?_; rintro e w7 h7; rw [HMin.out.2] at h7; obtain ⟨rfl, hB7⟩ := fitEx23 h7; have HB37 := hide' (bstep HB36.out hB7 HB36.out.size); have HB7 := hide' (bstep HB3.out HB37.out HB3.out.size); have HX7 : Hid (Bx w7 w.heap.size #[.int .i64 (i0 : Int), .bool b1, .int .i64 (i2 : Int), .bool b3, .bool b4, .bool b5, .bool b6, .bool b7, .bool b8, .int .i64 (i9 : Int), .slice q0 Q.length qc, .slice a0 A.length ac, .slice u0 U.length uc, .slice d0 D.length dc] 25) := HX3.out.below HB37.out HX3.out.lt; have HY7 : Hid (Bx w7 w2.heap.size #[.int .i64 7, .bool false, .int .i64 0, .bool false, .bool false, .bool true, .bool false, .bool false, .bool false, .int .i64 0, .slice e1 1 k1, .slice e2 0 k2, .slice e3 0 k3, .slice e4 0 k4] 25) := HYA.out _ HB37.out; clear h7 hB7 y0 y1 y2 y3 y4 y5 y6 y7 y8 y9 y10 y11 y12 y13 z0 z1 z2 z3 z4 z5 z6 z7 z8 z9 z10 z11 z12 z13; obtain ⟨x0, x1, x2, x3, x4, x5, x6, x7, x8, x9, x10, x11, x12, x13⟩ := bx14 HX7.out))
    rename_i K hK
    have HK := hide' hK
    clear hK
    go_wp2_with fail
    refine (fit_yes i0 i2 i9 b1 b3 b4 b5 b6 b7 b8 q0 a0 u0 d0 qc ac uc dc Q A U D limit _ (HW.out.below HB7.out) HHM.out HN4.out.1 HN4.out.2.1 HN4.out.2.2.1 HN4.out.2.2.2 HLO.out).mono ?_
    rintro e w8 h8
    have hne : w.heap.size ≠ w2.heap.size := by have := HX2.out.lt; omega
    have hst : ∀ s, Value.string s ∉ (#[.int .i64 7, .bool false, .int .i64 0, .bool false, .bool false, .bool true, .bool false, .bool false, .bool false, .int .i64 0, .slice e1 1 k1, .slice e2 0 k2, .slice e3 0 k3, .slice e4 0 k4] : Array Value) := fun s h => by simp at h
    rcases h8 with ⟨q1, a1, u1, d1, qc1, ac1, uc1, cd, Dk, rfl, hl8, hmem, hlen, hfit, hor, hB8⟩ | ⟨q1, d1, qc1, cd, Dk, rfl, hl8, hmem, hlen, hfit, hor, hB8⟩ | ⟨rfl, hbig, hB8⟩
    · have HX8 : Hid (Bx w8 w.heap.size #[.int .i64 (i0 : Int), .bool b1, .int .i64 (i2 : Int), .bool b3, .bool b4, .bool b5, .bool b6, .bool b7, .bool b8, .int .i64 (i9 : Int), .slice q0 Q.length qc, .slice a0 A.length ac, .slice u0 U.length uc, .slice d0 D.length dc] 25) := HX7.out.below hB8 HX7.out.lt
      have HY8 : Hid (Bx w8 w2.heap.size #[.int .i64 7, .bool false, .int .i64 0, .bool false, .bool false, .bool true, .bool false, .bool false, .bool false, .int .i64 0, .slice e1 1 k1, .slice e2 0 k2, .slice e3 0 k3, .slice e4 0 k4] 25) := HY7.out.below hB8 HY7.out.lt
      have HB8 := hide' (bstep HB7.out hB8 HB7.out.size)
      clear hB8
      obtain ⟨r0, r1, r2, r3, r4, r5, r6, r7, r8, r9, r10, r11, r12, r13⟩ := bx14 HY8.out
      obtain ⟨f0, f1, f2, f3, f4, f5, f6, f7, f8, f9, f10, f11, f12, f13⟩ := bx14_free HY8.out
      obtain ⟨w9, hw9⟩ : ∃ w9, set14 w8 w2.heap.size (.int .i64 (i0 : Int)) (.bool b1) (.int .i64 (i2 : Int)) (.bool b3) (.bool b4) (.bool b5) (.bool b6) (.bool b7) (.bool b8) (.int .i64 (i9 : Int)) (.slice q1 Q.length qc1) (.slice a1 A.length ac1) (.slice u1 U.length uc1) (.slice d1 Dk.length cd) = w9 := ⟨_, rfl⟩
      have HY9 : Hid (Bx w9 w2.heap.size #[.int .i64 (i0 : Int), .bool b1, .int .i64 (i2 : Int), .bool b3, .bool b4, .bool b5, .bool b6, .bool b7, .bool b8, .int .i64 (i9 : Int), .slice q1 Q.length qc1, .slice a1 A.length ac1, .slice u1 U.length uc1, .slice d1 Dk.length cd] 25) := hw9 ▸ bx14_set HY8.out (.int .i64 (i0 : Int)) (.bool b1) (.int .i64 (i2 : Int)) (.bool b3) (.bool b4) (.bool b5) (.bool b6) (.bool b7) (.bool b8) (.int .i64 (i9 : Int)) (.slice q1 Q.length qc1) (.slice a1 A.length ac1) (.slice u1 U.length uc1) (.slice d1 Dk.length cd)
      have HX9 : Hid (Bx w9 w.heap.size #[.int .i64 (i0 : Int), .bool b1, .int .i64 (i2 : Int), .bool b3, .bool b4, .bool b5, .bool b6, .bool b7, .bool b8, .int .i64 (i9 : Int), .slice q0 Q.length qc, .slice a0 A.length ac, .slice u0 U.length uc, .slice d0 D.length dc] 25) := hw9 ▸ bx_set14 HX8.out hne (.int .i64 (i0 : Int)) (.bool b1) (.int .i64 (i2 : Int)) (.bool b3) (.bool b4) (.bool b5) (.bool b6) (.bool b7) (.bool b8) (.int .i64 (i9 : Int)) (.slice q1 Q.length qc1) (.slice a1 A.length ac1) (.slice u1 U.length uc1) (.slice d1 Dk.length cd)
      have HB9 : Hid (Below w.heap.size w w9) := hw9 ▸ below14 HB8.out (HB2.out.size) HB8.out.size (.int .i64 (i0 : Int)) (.bool b1) (.int .i64 (i2 : Int)) (.bool b3) (.bool b4) (.bool b5) (.bool b6) (.bool b7) (.bool b8) (.int .i64 (i9 : Int)) (.slice q1 Q.length qc1) (.slice a1 A.length ac1) (.slice u1 U.length uc1) (.slice d1 Dk.length cd)
      have HL9 := hide' (ls_set hl8 HY8.out hst (.int .i64 (i0 : Int)) (.bool b1) (.int .i64 (i2 : Int)) (.bool b3) (.bool b4) (.bool b5) (.bool b6) (.bool b7) (.bool b8) (.int .i64 (i9 : Int)) (.slice q1 Q.length qc1) (.slice a1 A.length ac1) (.slice u1 U.length uc1) (.slice d1 Dk.length cd))
      rw [hw9] at HL9
      have HP9 := hide' (And.intro hmem (And.intro hlen (And.intro hfit hor)))
      clear hl8 hmem hlen hfit hor
      unfold set14 at hw9
      go_wp2_with fail
      refine HK.out _ _ ?_
      exact fw_some i0 i2 i9 b1 b3 b4 b5 b6 b7 b8 q0 a0 u0 d0 q1 a1 u1 d1 qc ac uc dc qc1 ac1 uc1 cd Q A U D Dk limit w.heap.size w2.heap.size w w9 HB9 HX9 HY9 (hide' (HW.out.below HB9.out)) HL9 HHM.out HP9.out.1 HP9.out.2.1 HP9.out.2.2.1 HP9.out.2.2.2 _ _ _ _ _ _ _ _ _ _ _ _ _ _ _ _ _ _ _ _ _ _ _ _ _ _ _ _ _ _ _ _ _ _ _ _ _ _ _ _ _ _ _ _ _ _ _ _ _ _ _ _ _ _ _ _ _ _ _ _ _ _ _ _ _ _ _ _ _ _ _ _ _ _ _ _ _ _ _ _ _ _ _ _ _ _ _ _ _ _ _ _ _ _ _ _ _ _ _ _ _ _ _ _ _ _ _ _ _
    · have HX8 : Hid (Bx w8 w.heap.size #[.int .i64 (i0 : Int), .bool b1, .int .i64 (i2 : Int), .bool b3, .bool b4, .bool b5, .bool b6, .bool b7, .bool b8, .int .i64 (i9 : Int), .slice q0 Q.length qc, .slice a0 A.length ac, .slice u0 U.length uc, .slice d0 D.length dc] 25) := HX7.out.below hB8 HX7.out.lt
      have HY8 : Hid (Bx w8 w2.heap.size #[.int .i64 7, .bool false, .int .i64 0, .bool false, .bool false, .bool true, .bool false, .bool false, .bool false, .int .i64 0, .slice e1 1 k1, .slice e2 0 k2, .slice e3 0 k3, .slice e4 0 k4] 25) := HY7.out.below hB8 HY7.out.lt
      have HB8 := hide' (bstep HB7.out hB8 HB7.out.size)
      clear hB8
      obtain ⟨r0, r1, r2, r3, r4, r5, r6, r7, r8, r9, r10, r11, r12, r13⟩ := bx14 HY8.out
      obtain ⟨f0, f1, f2, f3, f4, f5, f6, f7, f8, f9, f10, f11, f12, f13⟩ := bx14_free HY8.out
      obtain ⟨w9, hw9⟩ : ∃ w9, set14 w8 w2.heap.size (.int .i64 (i0 : Int)) (.bool b1) (.int .i64 (i2 : Int)) (.bool b3) (.bool true) (.bool b5) (.bool b6) (.bool b7) (.bool b8) (.int .i64 (i9 : Int)) (.slice q1 Q.length qc1) (.slice none 0 0) (.slice none 0 0) (.slice d1 Dk.length cd) = w9 := ⟨_, rfl⟩
      have HY9 : Hid (Bx w9 w2.heap.size #[.int .i64 (i0 : Int), .bool b1, .int .i64 (i2 : Int), .bool b3, .bool true, .bool b5, .bool b6, .bool b7, .bool b8, .int .i64 (i9 : Int), .slice q1 Q.length qc1, .slice none 0 0, .slice none 0 0, .slice d1 Dk.length cd] 25) := hw9 ▸ bx14_set HY8.out (.int .i64 (i0 : Int)) (.bool b1) (.int .i64 (i2 : Int)) (.bool b3) (.bool true) (.bool b5) (.bool b6) (.bool b7) (.bool b8) (.int .i64 (i9 : Int)) (.slice q1 Q.length qc1) (.slice none 0 0) (.slice none 0 0) (.slice d1 Dk.length cd)
      have HX9 : Hid (Bx w9 w.heap.size #[.int .i64 (i0 : Int), .bool b1, .int .i64 (i2 : Int), .bool b3, .bool b4, .bool b5, .bool b6, .bool b7, .bool b8, .int .i64 (i9 : Int), .slice q0 Q.length qc, .slice a0 A.length ac, .slice u0 U.length uc, .slice d0 D.length dc] 25) := hw9 ▸ bx_set14 HX8.out hne (.int .i64 (i0 : Int)) (.bool b1) (.int .i64 (i2 : Int)) (.bool b3) (.bool true) (.bool b5) (.bool b6) (.bool b7) (.bool b8) (.int .i64 (i9 : Int)) (.slice q1 Q.length qc1) (.slice none 0 0) (.slice none 0 0) (.slice d1 Dk.length cd)
      have HB9 : Hid (Below w.heap.size w w9) := hw9 ▸ below14 HB8.out (HB2.out.size) HB8.out.size (.int .i64 (i0 : Int)) (.bool b1) (.int .i64 (i2 : Int)) (.bool b3) (.bool true) (.bool b5) (.bool b6) (.bool b7) (.bool b8) (.int .i64 (i9 : Int)) (.slice q1 Q.length qc1) (.slice none 0 0) (.slice none 0 0) (.slice d1 Dk.length cd)
      have HL9 := hide' (ls_set hl8 HY8.out hst (.int .i64 (i0 : Int)) (.bool b1) (.int .i64 (i2 : Int)) (.bool b3) (.bool true) (.bool b5) (.bool b6) (.bool b7) (.bool b8) (.int .i64 (i9 : Int)) (.slice q1 Q.length qc1) (.slice none 0 0) (.slice none 0 0) (.slice d1 Dk.length cd))
      rw [hw9] at HL9
      have HP9 := hide' (And.intro hmem (And.intro hlen (And.intro hfit hor)))
      clear hl8 hmem hlen hfit hor
      unfold set14 at hw9
      go_wp2_with fail
      refine HK.out _ _ ?_
      exact fw_cut i0 i2 i9 b1 b3 b4 b5 b6 b7 b8 q0 a0 u0 d0 q1 none none d1 qc ac uc dc qc1 0 0 cd Q A U D Dk limit w.heap.size w2.heap.size w w9 HB9 HX9 HY9 (hide' (HW.out.below HB9.out)) HL9 HHM.out HP9.out.1 HP9.out.2.1 HP9.out.2.2.1 HP9.out.2.2.2 _ _ _ _ _ _ _ _ _ _ _ _ _ _ _ _ _ _ _ _ _ _ _ _ _ _ _ _ _ _ _ _ _ _ _ _ _ _ _ _ _ _ _ _ _ _ _ _ _ _ _ _ _ _ _ _ _ _ _ _ _ _ _ _ _ _ _ _ _ _ _ _ _ _ _ _ _ _ _ _ _ _ _ _ _ _ _ _ _ _ _ _ _ _ _ _ _ _ _ _ _ _ _ _ _ _ _ _ _
    · have HX8 : Hid (Bx w8 w.heap.size #[.int .i64 (i0 : Int), .bool b1, .int .i64 (i2 : Int), .bool b3, .bool b4, .bool b5, .bool b6, .bool b7, .bool b8, .int .i64 (i9 : Int), .slice q0 Q.length qc, .slice a0 A.length ac, .slice u0 U.length uc, .slice d0 D.length dc] 25) := HX7.out.below hB8 HX7.out.lt
      have HY8 : Hid (Bx w8 w2.heap.size #[.int .i64 7, .bool false, .int .i64 0, .bool false, .bool false, .bool true, .bool false, .bool false, .bool false, .int .i64 0, .slice e1 1 k1, .slice e2 0 k2, .slice e3 0 k3, .slice e4 0 k4] 25) := HY7.out.below hB8 HY7.out.lt
      have HB8 := hide' (bstep HB7.out hB8 HB7.out.size)
      clear hB8
      obtain ⟨r0, r1, r2, r3, r4, r5, r6, r7, r8, r9, r10, r11, r12, r13⟩ := bx14 HY8.out
      obtain ⟨f0, f1, f2, f3, f4, f5, f6, f7, f8, f9, f10, f11, f12, f13⟩ := bx14_free HY8.out
      obtain ⟨w9, hw9⟩ : ∃ w9, set14 w8 w2.heap.size (.int .i64 0) (.bool false) (.int .i64 0) (.bool false) (.bool false) (.bool false) (.bool false) (.bool false) (.bool false) (.int .i64 0) (.slice none 0 0) (.slice none 0 0) (.slice none 0 0) (.slice none 0 0) = w9 := ⟨_, rfl⟩
      have HY9 : Hid (Bx w9 w2.heap.size #[.int .i64 0, .bool false, .int .i64 0, .bool false, .bool false, .bool false, .bool false, .bool false, .bool false, .int .i64 0, .slice none 0 0, .slice none 0 0, .slice none 0 0, .slice none 0 0] 25) := hw9 ▸ bx14_set HY8.out (.int .i64 0) (.bool false) (.int .i64 0) (.bool false) (.bool false) (.bool false) (.bool false) (.bool false) (.bool false) (.int .i64 0) (.slice none 0 0) (.slice none 0 0) (.slice none 0 0) (.slice none 0 0)
      have HX9 : Hid (Bx w9 w.heap.size #[.int .i64 (i0 : Int), .bool b1, .int .i64 (i2 : Int), .bool b3, .bool b4, .bool b5, .bool b6, .bool b7, .bool b8, .int .i64 (i9 : Int), .slice q0 Q.length qc, .slice a0 A.length ac, .slice u0 U.length uc, .slice d0 D.length dc] 25) := hw9 ▸ bx_set14 HX8.out hne (.int .i64 0) (.bool false) (.int .i64 0) (.bool false) (.bool false) (.bool false) (.bool false) (.bool false) (.bool false) (.int .i64 0) (.slice none 0 0) (.slice none 0 0) (.slice none 0 0) (.slice none 0 0)
      have HB9 : Hid (Below w.heap.size w w9) := hw9 ▸ below14 HB8.out (HB2.out.size) HB8.out.size (.int .i64 0) (.bool false) (.int .i64 0) (.bool false) (.bool false) (.bool false) (.bool false) (.bool false) (.bool false) (.int .i64 0) (.slice none 0 0) (.slice none 0 0) (.slice none 0 0) (.slice none 0 0)
      clear hbig
      unfold set14 at hw9
      go_wp2_with fail
      refine HK.out _ _ ?_
      exact fw_large limit w.heap.size w2.heap.size w w9 HB9 HY9 _ _ _ _ _ _ _ _ _ _ _ _ _ _ _ _ _ _ _ _ _ _ _ _ _ _ _ _ _ _ _ _ _ _ _ _ _ _ _ _ _ _ _ _ _ _ _ _ _ _ _ _ _ _ _ _ _ _ _ _ _ _ _ _ _ _ _ _ _ _ _ _ _ _ _ _ _ _ _ _ _ _ _ _ _ _ _ _ _ _ _ _ _ _ _ _ _ _ _ _ _ _ _ _ _ _ _ _ _

/-- WireFitsWell -/
theorem wireFitsWell_any (i0 i2 i9 : Int) (b1 b3 b4 b5 b6 b7 b8 : Bool) (q0 a0 u0 d0 : Option Addr) (qc ac uc dc : Nat) (Q : List Qn) (A U D : List Rn) (limit : Int) (w : World) (hl : LsAt w q0 a0 u0 d0 Q A U D) (nq : q0 = none → qc = 0) (na : a0 = none → ac = 0) (nu : u0 = none → uc = 0) (nd : d0 = none → dc = 0) (hlo : -9223372036854775808 ≤ limit) :
    Calls Try.prog 4 #[.agg #[.int .i64 i0, .bool b1, .int .i64 i2, .bool b3, .bool b4, .bool b5, .bool b6, .bool b7, .bool b8, .int .i64 i9, .slice q0 Q.length qc, .slice a0 A.length ac, .slice u0 U.length uc, .slice d0 D.length dc], .int .i64 limit] w fun e w' => e = .returned (.bool true) ∧ Below w.heap.size w w' := by
  cases hm : msgOK i0 i2 i9 Q A U D with
  | false => exact fitsWell_no i0 i2 i9 b1 b3 b4 b5 b6 b7 b8 q0 a0 u0 d0 qc ac uc dc Q A U D limit w hl hm
  | true =>
    obtain ⟨⟨n0, rfl, _⟩, ⟨n2, rfl, _⟩, ⟨n9, rfl, _⟩, _⟩ := msgOK_parts hm
    exact fitsWell_yes n0 n2 n9 b1 b3 b4 b5 b6 b7 b8 q0 a0 u0 d0 qc ac uc dc Q A U D limit w hl hm nq na nu nd hlo
end Go.Proofs.Ytinnmfidnecncaa

namespace Go.Proofs.Ytinnmfidnecncaa.wireFitsWellP
set_option linter.unusedVariables false
open Go.ChangeShapes Go.WideShapes Go.ChangeAt Go.RowKit
open Go.ChangeMaps (open_string shut_string)
open Go.Proofs.Ytinnmfidnecncaa.Fra

set_option maxRecDepth 100000 in
theorem contract (H : Type) (enc : TypeId × Value → H) (W : World) (base : Nat) (args : Array Value) (ds gs : List (DataW H)) (before : List MemPlace)
    (hval : ∀ (j : Nat) t v, Try.f4.params[j]? = some t → args[j]? = some v → Value.okWide Try.prog W .any base t v)
    (hW : DataW.Whole enc Try.prog Try.f4.params.toList Rows.wireFitsWellSpec.vars false W args.toList ds gs before) :
    Calls Try.prog 4 args W fun e W' => ∃ v, e = .returned v ∧ Rows.wireFitsWellSpec.post enc Try.prog Try.f4 false true false false W args v W' := by
  have hW' := hW
  have hlt := hW.lt
  obtain ⟨p, q, hA0, hV, rfl, _, _⟩ := hW
  have hA : DataW.TrodAll enc Try.prog W 0 (fun _ => true) true Try.f4.params.toList args.toList ds p := hA0
  rw [Try.params4] at hA hval
  obtain ⟨v0, vs0, d0, ds0, p0, q0, hargs, rfl, rfl, h0, r0⟩ := trodAll_cons hA
  obtain ⟨v1, vs1, d1, ds1, p1, q1, rfl, rfl, rfl, h1, r1⟩ := trodAll_cons r0
  obtain ⟨rfl, rfl, rfl⟩ := trodAll_nil r1
  obtain rfl : args = #[v0, v1] := by cases args; simp_all
  obtain ⟨rfl, rfl⟩ := trodVars_none hV
  have hsame0 : ∀ W' : World, Below W.heap.size W W' → DataW.Trod enc Try.prog W' 0 (fun b => decide (b < W.heap.size)) true 25 v0 d0 p0 :=
    fun W' hn => Below.trod laid (by kernel_rfl) (of_decide_eq_true (by kernel_rfl)) h0 hn (fun x hx => hlt x (by simp [hx]))
  clear hA0
  obtain ⟨i0, i2, i9, b1, b3, b4, b5, b6, b7, b8, q0, a0, u0, d0', qc, ac, uc, dc, Q, A, U, D, rfl, hL, hn⟩ := msg_open (hval 0 25 v0 rfl rfl) h0
  obtain ⟨z1, rfl, rfl, rfl, m1⟩ := open_int Try.underlying3 (hval 1 3 v1 rfl rfl) h1
  have hz1 : -9223372036854775808 ≤ z1 := by
    have := m1
    have e1 : IntKind.i64.min = -9223372036854775808 := rfl
    simp [Lit.wf, e1] at this
    omega
  refine (wireFitsWell_any i0 i2 i9 b1 b3 b4 b5 b6 b7 b8 q0 a0 u0 d0' qc ac uc dc Q A U D z1 W hL hn.1 hn.2.1 hn.2.2.1 hn.2.2.2 hz1).mono fun e W' ⟨he, bel⟩ => ?_
  subst he
  exact ⟨_, rfl, _, _, _, [], _, [], hW', trodAll_mk1 (shut_bool Try.underlying4 _), (trodAll_cons_mk (hsame0 W' bel) (trodAll_cons_mk (shut_int Try.underlying3 m1) trodAll_mk0)), rfl, bel.frame _, fun h => by cases h⟩

set_option maxRecDepth 100000 in
theorem lifted (os : Os) (started : os.Started) (H : Type) (enc : TypeId × Value → H) :
    ReturnsInHanded {} Try.checked os 4 .any (Rows.wireFitsWellSpec.pre6 enc Try.prog Try.f4 Rows.wireFitsWellRow.domain false) (Rows.wireFitsWellSpec.post enc Try.prog Try.f4 false true false false) := by
  refine returnsInHanded_of_change (C := Try.checked) own started (by kernel_rfl) Try.func4
    (ChangeSpec.witness6 (enc := enc) (C := Try.checked) false ⟨#[], #[.agg #[.int .i64 0, .bool false, .int .i64 0, .bool false, .bool false, .bool false, .bool false, .bool false, .bool false, .int .i64 0, .slice none 0 0, .slice none 0 0, .slice none 0 0, .slice none 0 0], .int .i64 0], []⟩ 8 (by kernel_rfl) (by kernel_rfl) (by kernel_rfl) (by kernel_rfl)) ?_
  intro W base args ds gs before hval hW _ _
  exact contract H enc W base args ds gs before hval hW

theorem proved : Rows.WireFitsWellSaid :=
  OpenClaim.holds_of_wide 4 Try.f4 rfl rfl rfl rfl rfl rfl rfl ⟨rfl, rfl, rfl, rfl, rfl⟩ rfl rfl rfl rfl rfl (by kernel_rfl) Try.func4 (by kernel_rfl)
    (of_decide_eq_true (by kernel_rfl)) (by unfold Func.isWrapper; first | (rw [if_pos (by decide +kernel)]; kernel_rfl) | (rw [if_neg (by decide +kernel)]; exact ⟨rfl, rfl⟩))
    (fun os started H enc _ => lifted os started H enc)
end Go.Proofs.Ytinnmfidnecncaa.wireFitsWellP
namespace Go.Proofs.Ytinnmfidnecncaa
theorem wireFitsWell_said : Rows.WireFitsWellSaid := wireFitsWellP.proved
end Go.Proofs.Ytinnmfidnecncaa
