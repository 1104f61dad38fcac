import Derived.Test.YtelboefeomnjaaaGreatQo3G
/-
  Proofs: the reference's Order: a pass. (The verifier's own text; mkqo5.py.)
-/
namespace Go.Proofs.YtelboefeomnjaaaGreat
set_option linter.unusedVariables false
set_option linter.unusedSimpArgs false
open Go.RowKit Go.Shelf Go.Maps Go.Proofs.YtelboefeomnjaaaGreat.Nm Go.Proofs.YtelboefeomnjaaaGreat.Zs

set_option maxRecDepth 100000 in
set_option maxHeartbeats 8000000 in
theorem pass0_any (Q : Exit → Act → World → Prop) (w wo wA : World) (b0 g0 off0 cl oc : Nat) (oq : Option Addr) (L : List Rn) (xs : List Int) (T K O A : List Nat) (m : Int) (rp : Option Addr) (rc : Nat) (hL : L.length ≤ 1048576) (hKL : K.length ≤ L.length) (HDat : Hid (Dat L)) (HSum : Hid (Sums L)) (HR : Hid (Ry w b0 L xs T K O (some ⟨g0, off0, none⟩) cl oq oc wo)) (hAl : A.length ≤ 0 * K.length) (HOw : Hid (wA.ownsRow wo.heap.size 3 1 (.slice rp A.length rc) A.length (inR A))) (HBa : Hid (Below wo.heap.size wo wA))
    (x0 x1 x2 x3 x4 x5 x7 x9 x10 x11 x15 x16 x17 x18 x19 x20 x21 x22 x23 x24 x25 x26 x27 x28 x29 x30 x31 x32 x33 x34 x35 x36 x37 x38 x39 x40 x41 x42 x43 x44 x45 x46 x47 x48 x49 x50 x51 x52 x53 x54 x55 x56 x57 x58 x62 x63 x64 x65 x66 x67 x68 x69 x70 x71 x72 x73 x74 x75 x76 x77 x78 x79 x80 x81 x82 x83 x84 x85 x86 x87 x88 x89 x90 x91 x92 x93 x94 x95 x96 x97 x98 x99 x100 x101 x102 x103 x104 x105 x106 x107 x108 x109 x110 x111 x112 x113 x114 x115 x116 x117 x118 x119 x120 x121 x122 x123 x124 x125 x126 x127 x128 x129 x130 x131 x132 x133 x134 x135 x136 x137 x138 x139 x140 : Value)
    (HK : Hid (∀ (B : List Nat) (rp2 : Option Addr) (rc2 : Nat) (wB : World) (y15 y16 y17 y61 y62 y63 y64 y65 y66 y67 y68 y69 y70 y71 y72 y73 y74 y75 y76 y77 y78 y79 y80 y81 y82 y83 y84 y85 y86 y87 y88 : Value), B = A ++ psK (pK L) (wK L) m true K K.length → B.length ≤ 0 * K.length + K.length → wB.ownsRow wo.heap.size 3 1 (.slice rp2 B.length rc2) B.length (inR B) → Below wo.heap.size wo wB → Q .normal ⟨List.toArray (x0 :: x1 :: x2 :: x3 :: x4 :: x5 :: (.slice (some ⟨g0, off0, none⟩) K.length cl : Value) :: x7 :: (.int .i64 m : Value) :: x9 :: x10 :: x11 :: (.slice rp2 B.length rc2 : Value) :: (.int .i64 (smP (wK L) K B) : Value) :: (.int .i64 0 : Value) :: y15 :: y16 :: y17 :: x18 :: x19 :: x20 :: x21 :: x22 :: x23 :: x24 :: x25 :: x26 :: x27 :: x28 :: x29 :: x30 :: x31 :: x32 :: x33 :: x34 :: x35 :: x36 :: x37 :: x38 :: x39 :: x40 :: x41 :: x42 :: x43 :: x44 :: x45 :: x46 :: x47 :: x48 :: x49 :: x50 :: x51 :: x52 :: x53 :: x54 :: x55 :: x56 :: x57 :: x58 :: (.slice (some ⟨g0, off0, none⟩) K.length cl : Value) :: (.int .i64 (K.length : Int) : Value) :: y61 :: y62 :: y63 :: y64 :: y65 :: y66 :: y67 :: y68 :: y69 :: y70 :: y71 :: y72 :: y73 :: y74 :: y75 :: y76 :: y77 :: y78 :: y79 :: y80 :: y81 :: y82 :: y83 :: y84 :: y85 :: y86 :: y87 :: y88 :: x89 :: x90 :: x91 :: x92 :: x93 :: x94 :: x95 :: x96 :: x97 :: x98 :: x99 :: x100 :: x101 :: x102 :: x103 :: x104 :: x105 :: x106 :: x107 :: x108 :: x109 :: x110 :: x111 :: x112 :: x113 :: x114 :: x115 :: x116 :: x117 :: x118 :: x119 :: x120 :: x121 :: x122 :: x123 :: x124 :: x125 :: x126 :: x127 :: x128 :: x129 :: x130 :: x131 :: x132 :: x133 :: x134 :: x135 :: x136 :: x137 :: x138 :: x139 :: x140 :: []), []⟩ wB)) :
    Code.wp Tryz.prog (((Tryz.f7.body.map (tailsN 21)).getD []).getD 0 .skip) Q ⟨List.toArray (x0 :: x1 :: x2 :: x3 :: x4 :: x5 :: (.slice (some ⟨g0, off0, none⟩) K.length cl : Value) :: x7 :: (.int .i64 m : Value) :: x9 :: x10 :: x11 :: (.slice rp A.length rc : Value) :: (.int .i64 (smP (wK L) K A) : Value) :: (.int .i64 0 : Value) :: x15 :: x16 :: x17 :: x18 :: x19 :: x20 :: x21 :: x22 :: x23 :: x24 :: x25 :: x26 :: x27 :: x28 :: x29 :: x30 :: x31 :: x32 :: x33 :: x34 :: x35 :: x36 :: x37 :: x38 :: x39 :: x40 :: x41 :: x42 :: x43 :: x44 :: x45 :: x46 :: x47 :: x48 :: x49 :: x50 :: x51 :: x52 :: x53 :: x54 :: x55 :: x56 :: x57 :: x58 :: (.slice (some ⟨g0, off0, none⟩) K.length cl : Value) :: (.int .i64 (K.length : Int) : Value) :: (.int .i64 0 : Value) :: x62 :: x63 :: x64 :: x65 :: x66 :: x67 :: x68 :: x69 :: x70 :: x71 :: x72 :: x73 :: x74 :: x75 :: x76 :: x77 :: x78 :: x79 :: x80 :: x81 :: x82 :: x83 :: x84 :: x85 :: x86 :: x87 :: x88 :: x89 :: x90 :: x91 :: x92 :: x93 :: x94 :: x95 :: x96 :: x97 :: x98 :: x99 :: x100 :: x101 :: x102 :: x103 :: x104 :: x105 :: x106 :: x107 :: x108 :: x109 :: x110 :: x111 :: x112 :: x113 :: x114 :: x115 :: x116 :: x117 :: x118 :: x119 :: x120 :: x121 :: x122 :: x123 :: x124 :: x125 :: x126 :: x127 :: x128 :: x129 :: x130 :: x131 :: x132 :: x133 :: x134 :: x135 :: x136 :: x137 :: x138 :: x139 :: x140 :: []), []⟩ wA := by
  conv => arg 2; whnf
  go_wp2_with fail
  go_loopw [12, 13, 61] (fun rv sv kv wr => ∃ (j : Nat) (B : List Nat) (rp : Option Addr) (rc : Nat), kv = .int .i64 (j : Int) ∧ j ≤ K.length ∧ rv = .slice rp B.length rc ∧ sv = .int .i64 (smP (wK L) K B) ∧ B.length ≤ 0 * K.length + j ∧ Hid (B = A ++ psK (pK L) (wK L) m true K j) ∧ Hid (wr.ownsRow wo.heap.size 3 1 (.slice rp B.length rc) B.length (inR B)) ∧ Hid (Below wo.heap.size wo wr)) (fun _ _ kv _ => K.length - (intOf kv).toNat)
  case atStart => exact ⟨0, A, rp, rc, rfl, Nat.zero_le _, rfl, rfl, by omega, by unfold Hid; rw [psK_zero, List.append_nil], HOw, HBa⟩
  case round =>
    clear HOw HBa
    obtain ⟨j, B, rp2, rc2, rfl, hj, rfl, rfl, hBl, HBe, HOw, HBa⟩ := hrel
    have pj0 : (0 : Int) ≤ (j : Int) := by omega
    by_cases hlt : j < K.length
    · have pj : (j : Int) < (K.length : Int) := by omega
      obtain ⟨g2, off2, hpl2, hil, xo, xt, xc, xl, xd, hx, c0, c1, c2, c3, c4⟩ := (HR.out.below HBa.out).at hlt
      injection hpl2 with hpl2
      injection hpl2 with e1 e2
      subst e1 e2
      obtain ⟨hd4, hpv, hwv⟩ := HDat.out hil hx
      have HN0 := hide' (fun V => number0_any xd V (by omega))
      have HN1 := hide' (fun V => number1_any xd V hd4)
      rw [← hpv] at HN0
      rw [← hwv] at HN1
      have HBn : Hid (∀ o, Below wo.heap.size wo (wr.alloc o)) := fun o => HBa.out.alloc HBa.out.size o
      have HOn : Hid (∀ o, (wr.alloc o).ownsRow wo.heap.size 3 1 (.slice rp2 B.length rc2) B.length (inR B)) := fun o => HOw.out.alloc o
      have hs1 := HSum.out K B (by omega)
      have HSn := hide' (smP_snoc (wK L) K B j)
      have hwb := wK_ok L (ix K j)
      have HYes : Hid (pK L (ix K j) = m → decide (wK L (ix K j) = 0) = true → B ++ [j] = A ++ psK (pK L) (wK L) m true K (j + 1)) := fun e1 e2 => by rw [HBe.out, psK_yes e1 e2, List.append_assoc]
      have HNo : Hid (¬ (pK L (ix K j) = m ∧ decide (wK L (ix K j) = 0) = true) → B = A ++ psK (pK L) (wK L) m true K (j + 1)) := fun e => by rw [HBe.out, psK_no e]
      clear hx hpv hwv
      generalize pK L (ix K j) = pv at *
      generalize wK L (ix K j) = wv at *
      obtain ⟨sm, hsm⟩ : ∃ s, smP (wK L) K B = s := ⟨_, rfl⟩
      rw [hsm] at hs1 HSn
      have HSe := hide' hsm
      rw [hsm]
      clear hsm
      have ea : IntKind.i64.wrap (sm + wv) = sm + wv := by rw [IntKind.wrap_i64]; omega
      by_cases hpm : pv = m
      · by_cases hw0 : wv = 0
        · have HY2 := hide' (HYes.out hpm (decide_eq_true hw0))
          have hpb : (pv == m) = true := by rw [beq_iff_eq]; exact hpm
          have hwb0 : (wv == 0) = true := by rw [beq_iff_eq]; exact hw0
          have HPM := hide' hpm
          have HW0 := hide' hw0
          obtain ⟨wx, hwx⟩ : ∃ wx, wr.alloc (.cells #[.string xo, .int .i64 xt, .int .i64 xc, .int .i64 xl, .string xd] 42) = wx := ⟨_, rfl⟩
          have hbx : Bx wx wr.heap.size #[.string xo, .int .i64 xt, .int .i64 xc, .int .i64 xl, .string xd] 42 := hwx ▸ World.alloc_heap_new wr _
          have b4 : wx.cell? ⟨wr.heap.size, 4, none⟩ = some (.string xd) := hbx.cell rfl
          have HBx : Hid (Below wo.heap.size wo wx) := hwx ▸ HBn.out _
          have HOx : Hid (wx.ownsRow wo.heap.size 3 1 (.slice rp2 B.length rc2) B.length (inR B)) := hwx ▸ HOn.out _
          obtain ⟨wy, hwy⟩ : ∃ wy, wx.alloc (.cells #[.int .i64 (j : Int)] 3) = wy := ⟨_, rfl⟩
          have HBy : Hid (Below wo.heap.size wo wy) := hwy ▸ HBx.out.alloc HBx.out.size _
          have HOy : Hid (wy.ownsRow wo.heap.size 3 1 (.slice rp2 B.length rc2) B.length (inR B)) := hwy ▸ HOx.out.alloc _
          have HCy : Hid (wy.cell? ⟨wx.heap.size, 0, none⟩ = some (.int .i64 (j : Int))) := hwy ▸ cell_new1 wx _ _
          have HBl : Hid (B.length ≤ 4194304) := by unfold Hid; omega
          clear hpm hw0 hbx
          go_wp2_with (first
            | (go_at_call 27; (with_reducible refine (HN1.out _).mono ?_); rintro e w5 ⟨rfl, hw5⟩; have hw5' := hw5.symm; subst hw5')
            | (go_at_call 27; (with_reducible refine (HN0.out _).mono ?_); rintro e w6 ⟨rfl, hw6⟩; have hw6' := hw6.symm; subst hw6')
            | (at_builtin; refine wpList_append_int1 rfl _ _ rfl wo.heap.size _ B B.length rfl HOy.out wx.heap.size j rfl HCy.out HBl.out HBy.out.size ?_; intro v8 w8 ho8 hg8; have HO8 := hide' ho8; have HB8 := hide' (HBy.out.grown hg8 HBy.out.size (fun q e => ownBlock_le HOw.out e)); obtain ⟨rp8, rc8, hv8, -, -, -⟩ := own_shape ho8; subst hv8; clear ho8 hg8))
          exact ⟨⟨j + 1, B ++ [j], rp8, rc8, by go_num, by omega, by rw [List.length_append]; rfl, by rw [HSn.out], by rw [List.length_append, List.length_singleton]; omega, HY2, by unfold Hid; rw [List.length_append]; exact HO8.out, HB8⟩, by simp [intOf]; omega⟩
        · have HN2 := hide' (HNo.out (fun e => hw0 (of_decide_eq_true e.2)))
          have hpb : (pv == m) = true := by rw [beq_iff_eq]; exact hpm
          have hwb0 : (wv == 0) = !true := by rw [beq_eq_false_iff_ne.2 hw0]; rfl
          have HPM := hide' hpm
          have HW0 := hide' hw0
          clear hpm hw0
          go_wp2_with (first
            | (go_at_call 27; (with_reducible refine (HN1.out _).mono ?_); rintro e w5 ⟨rfl, hw5⟩; have hw5' := hw5.symm; subst hw5')
            | (go_at_call 27; (with_reducible refine (HN0.out _).mono ?_); rintro e w6 ⟨rfl, hw6⟩; have hw6' := hw6.symm; subst hw6'))
          exact ⟨⟨j + 1, B, rp2, rc2, by go_num, by omega, rfl, by rw [HSe.out], by omega, HN2, HOn.out _, HBn.out _⟩, by simp [intOf]; omega⟩
      · have HN2 := hide' (HNo.out (fun e => hpm e.1))
        have hpb : (pv == m) = false := by rw [beq_eq_false_iff_ne]; exact hpm
        have HPM := hide' hpm
        clear hpm
        go_wp2_with (first
          | (go_at_call 27; (with_reducible refine (HN1.out _).mono ?_); rintro e w5 ⟨rfl, hw5⟩; have hw5' := hw5.symm; subst hw5')
          | (go_at_call 27; (with_reducible refine (HN0.out _).mono ?_); rintro e w6 ⟨rfl, hw6⟩; have hw6' := hw6.symm; subst hw6'))
        exact ⟨⟨j + 1, B, rp2, rc2, by go_num, by omega, rfl, by rw [HSe.out], by omega, HN2, HOn.out _, HBn.out _⟩, by simp [intOf]; omega⟩
    · obtain rfl : j = K.length := by omega
      have HE := hide' (fun y15 y16 y17 y61 y62 y63 y64 y65 y66 y67 y68 y69 y70 y71 y72 y73 y74 y75 y76 y77 y78 y79 y80 y81 y82 y83 y84 y85 y86 y87 y88 => HK.out B rp2 rc2 wr y15 y16 y17 y61 y62 y63 y64 y65 y66 y67 y68 y69 y70 y71 y72 y73 y74 y75 y76 y77 y78 y79 y80 y81 y82 y83 y84 y85 y86 y87 y88 HBe.out hBl HOw.out HBa.out)
      go_wp2_with fail
      exact HE.out _ _ _ _ _ _ _ _ _ _ _ _ _ _ _ _ _ _ _ _ _ _ _ _ _ _ _ _ _ _ _
set_option maxRecDepth 100000 in
set_option maxHeartbeats 8000000 in
theorem pass1_any (Q : Exit → Act → World → Prop) (w wo wA : World) (b0 g0 off0 cl oc : Nat) (oq : Option Addr) (L : List Rn) (xs : List Int) (T K O A : List Nat) (m : Int) (rp : Option Addr) (rc : Nat) (hL : L.length ≤ 1048576) (hKL : K.length ≤ L.length) (HDat : Hid (Dat L)) (HSum : Hid (Sums L)) (HR : Hid (Ry w b0 L xs T K O (some ⟨g0, off0, none⟩) cl oq oc wo)) (hAl : A.length ≤ 1 * K.length) (HOw : Hid (wA.ownsRow wo.heap.size 3 1 (.slice rp A.length rc) A.length (inR A))) (HBa : Hid (Below wo.heap.size wo wA))
    (x0 x1 x2 x3 x4 x5 x7 x9 x10 x11 x15 x16 x17 x18 x19 x20 x21 x22 x23 x24 x25 x26 x27 x28 x29 x30 x31 x32 x33 x34 x35 x36 x37 x38 x39 x40 x41 x42 x43 x44 x45 x46 x47 x48 x49 x50 x51 x52 x53 x54 x55 x56 x57 x58 x62 x63 x64 x65 x66 x67 x68 x69 x70 x71 x72 x73 x74 x75 x76 x77 x78 x79 x80 x81 x82 x83 x84 x85 x86 x87 x88 x89 x90 x91 x92 x93 x94 x95 x96 x97 x98 x99 x100 x101 x102 x103 x104 x105 x106 x107 x108 x109 x110 x111 x112 x113 x114 x115 x116 x117 x118 x119 x120 x121 x122 x123 x124 x125 x126 x127 x128 x129 x130 x131 x132 x133 x134 x135 x136 x137 x138 x139 x140 : Value)
    (HK : Hid (∀ (B : List Nat) (rp2 : Option Addr) (rc2 : Nat) (wB : World) (y15 y16 y17 y61 y62 y63 y64 y65 y66 y67 y68 y69 y70 y71 y72 y73 y74 y75 y76 y77 y78 y79 y80 y81 y82 y83 y84 y85 y86 y87 y88 : Value), B = A ++ psK (pK L) (wK L) m false K K.length → B.length ≤ 1 * K.length + K.length → wB.ownsRow wo.heap.size 3 1 (.slice rp2 B.length rc2) B.length (inR B) → Below wo.heap.size wo wB → Q .normal ⟨List.toArray (x0 :: x1 :: x2 :: x3 :: x4 :: x5 :: (.slice (some ⟨g0, off0, none⟩) K.length cl : Value) :: x7 :: (.int .i64 m : Value) :: x9 :: x10 :: x11 :: (.slice rp2 B.length rc2 : Value) :: (.int .i64 (smP (wK L) K B) : Value) :: (.int .i64 1 : Value) :: y15 :: y16 :: y17 :: x18 :: x19 :: x20 :: x21 :: x22 :: x23 :: x24 :: x25 :: x26 :: x27 :: x28 :: x29 :: x30 :: x31 :: x32 :: x33 :: x34 :: x35 :: x36 :: x37 :: x38 :: x39 :: x40 :: x41 :: x42 :: x43 :: x44 :: x45 :: x46 :: x47 :: x48 :: x49 :: x50 :: x51 :: x52 :: x53 :: x54 :: x55 :: x56 :: x57 :: x58 :: (.slice (some ⟨g0, off0, none⟩) K.length cl : Value) :: (.int .i64 (K.length : Int) : Value) :: y61 :: y62 :: y63 :: y64 :: y65 :: y66 :: y67 :: y68 :: y69 :: y70 :: y71 :: y72 :: y73 :: y74 :: y75 :: y76 :: y77 :: y78 :: y79 :: y80 :: y81 :: y82 :: y83 :: y84 :: y85 :: y86 :: y87 :: y88 :: x89 :: x90 :: x91 :: x92 :: x93 :: x94 :: x95 :: x96 :: x97 :: x98 :: x99 :: x100 :: x101 :: x102 :: x103 :: x104 :: x105 :: x106 :: x107 :: x108 :: x109 :: x110 :: x111 :: x112 :: x113 :: x114 :: x115 :: x116 :: x117 :: x118 :: x119 :: x120 :: x121 :: x122 :: x123 :: x124 :: x125 :: x126 :: x127 :: x128 :: x129 :: x130 :: x131 :: x132 :: x133 :: x134 :: x135 :: x136 :: x137 :: x138 :: x139 :: x140 :: []), []⟩ wB)) :
    Code.wp Tryz.prog (((Tryz.f7.body.map (tailsN 21)).getD []).getD 0 .skip) Q ⟨List.toArray (x0 :: x1 :: x2 :: x3 :: x4 :: x5 :: (.slice (some ⟨g0, off0, none⟩) K.length cl : Value) :: x7 :: (.int .i64 m : Value) :: x9 :: x10 :: x11 :: (.slice rp A.length rc : Value) :: (.int .i64 (smP (wK L) K A) : Value) :: (.int .i64 1 : Value) :: x15 :: x16 :: x17 :: x18 :: x19 :: x20 :: x21 :: x22 :: x23 :: x24 :: x25 :: x26 :: x27 :: x28 :: x29 :: x30 :: x31 :: x32 :: x33 :: x34 :: x35 :: x36 :: x37 :: x38 :: x39 :: x40 :: x41 :: x42 :: x43 :: x44 :: x45 :: x46 :: x47 :: x48 :: x49 :: x50 :: x51 :: x52 :: x53 :: x54 :: x55 :: x56 :: x57 :: x58 :: (.slice (some ⟨g0, off0, none⟩) K.length cl : Value) :: (.int .i64 (K.length : Int) : Value) :: (.int .i64 0 : Value) :: x62 :: x63 :: x64 :: x65 :: x66 :: x67 :: x68 :: x69 :: x70 :: x71 :: x72 :: x73 :: x74 :: x75 :: x76 :: x77 :: x78 :: x79 :: x80 :: x81 :: x82 :: x83 :: x84 :: x85 :: x86 :: x87 :: x88 :: x89 :: x90 :: x91 :: x92 :: x93 :: x94 :: x95 :: x96 :: x97 :: x98 :: x99 :: x100 :: x101 :: x102 :: x103 :: x104 :: x105 :: x106 :: x107 :: x108 :: x109 :: x110 :: x111 :: x112 :: x113 :: x114 :: x115 :: x116 :: x117 :: x118 :: x119 :: x120 :: x121 :: x122 :: x123 :: x124 :: x125 :: x126 :: x127 :: x128 :: x129 :: x130 :: x131 :: x132 :: x133 :: x134 :: x135 :: x136 :: x137 :: x138 :: x139 :: x140 :: []), []⟩ wA := by
  conv => arg 2; whnf
  go_wp2_with fail
  go_loopw [12, 13, 61] (fun rv sv kv wr => ∃ (j : Nat) (B : List Nat) (rp : Option Addr) (rc : Nat), kv = .int .i64 (j : Int) ∧ j ≤ K.length ∧ rv = .slice rp B.length rc ∧ sv = .int .i64 (smP (wK L) K B) ∧ B.length ≤ 1 * K.length + j ∧ Hid (B = A ++ psK (pK L) (wK L) m false K j) ∧ Hid (wr.ownsRow wo.heap.size 3 1 (.slice rp B.length rc) B.length (inR B)) ∧ Hid (Below wo.heap.size wo wr)) (fun _ _ kv _ => K.length - (intOf kv).toNat)
  case atStart => exact ⟨0, A, rp, rc, rfl, Nat.zero_le _, rfl, rfl, by omega, by unfold Hid; rw [psK_zero, List.append_nil], HOw, HBa⟩
  case round =>
    clear HOw HBa
    obtain ⟨j, B, rp2, rc2, rfl, hj, rfl, rfl, hBl, HBe, HOw, HBa⟩ := hrel
    have pj0 : (0 : Int) ≤ (j : Int) := by omega
    by_cases hlt : j < K.length
    · have pj : (j : Int) < (K.length : Int) := by omega
      obtain ⟨g2, off2, hpl2, hil, xo, xt, xc, xl, xd, hx, c0, c1, c2, c3, c4⟩ := (HR.out.below HBa.out).at hlt
      injection hpl2 with hpl2
      injection hpl2 with e1 e2
      subst e1 e2
      obtain ⟨hd4, hpv, hwv⟩ := HDat.out hil hx
      have HN0 := hide' (fun V => number0_any xd V (by omega))
      have HN1 := hide' (fun V => number1_any xd V hd4)
      rw [← hpv] at HN0
      rw [← hwv] at HN1
      have HBn : Hid (∀ o, Below wo.heap.size wo (wr.alloc o)) := fun o => HBa.out.alloc HBa.out.size o
      have HOn : Hid (∀ o, (wr.alloc o).ownsRow wo.heap.size 3 1 (.slice rp2 B.length rc2) B.length (inR B)) := fun o => HOw.out.alloc o
      have hs1 := HSum.out K B (by omega)
      have HSn := hide' (smP_snoc (wK L) K B j)
      have hwb := wK_ok L (ix K j)
      have HYes : Hid (pK L (ix K j) = m → decide (wK L (ix K j) = 0) = false → B ++ [j] = A ++ psK (pK L) (wK L) m false K (j + 1)) := fun e1 e2 => by rw [HBe.out, psK_yes e1 e2, List.append_assoc]
      have HNo : Hid (¬ (pK L (ix K j) = m ∧ decide (wK L (ix K j) = 0) = false) → B = A ++ psK (pK L) (wK L) m false K (j + 1)) := fun e => by rw [HBe.out, psK_no e]
      clear hx hpv hwv
      generalize pK L (ix K j) = pv at *
      generalize wK L (ix K j) = wv at *
      obtain ⟨sm, hsm⟩ : ∃ s, smP (wK L) K B = s := ⟨_, rfl⟩
      rw [hsm] at hs1 HSn
      have HSe := hide' hsm
      rw [hsm]
      clear hsm
      have ea : IntKind.i64.wrap (sm + wv) = sm + wv := by rw [IntKind.wrap_i64]; omega
      by_cases hpm : pv = m
      · by_cases hw0 : ¬ wv = 0
        · have HY2 := hide' (HYes.out hpm (decide_eq_false hw0))
          have hpb : (pv == m) = true := by rw [beq_iff_eq]; exact hpm
          have hwb0 : (wv == 0) = false := by rw [beq_eq_false_iff_ne]; exact hw0
          have HPM := hide' hpm
          have HW0 := hide' hw0
          obtain ⟨wx, hwx⟩ : ∃ wx, wr.alloc (.cells #[.string xo, .int .i64 xt, .int .i64 xc, .int .i64 xl, .string xd] 42) = wx := ⟨_, rfl⟩
          have hbx : Bx wx wr.heap.size #[.string xo, .int .i64 xt, .int .i64 xc, .int .i64 xl, .string xd] 42 := hwx ▸ World.alloc_heap_new wr _
          have b4 : wx.cell? ⟨wr.heap.size, 4, none⟩ = some (.string xd) := hbx.cell rfl
          have HBx : Hid (Below wo.heap.size wo wx) := hwx ▸ HBn.out _
          have HOx : Hid (wx.ownsRow wo.heap.size 3 1 (.slice rp2 B.length rc2) B.length (inR B)) := hwx ▸ HOn.out _
          obtain ⟨wy, hwy⟩ : ∃ wy, wx.alloc (.cells #[.int .i64 (j : Int)] 3) = wy := ⟨_, rfl⟩
          have HBy : Hid (Below wo.heap.size wo wy) := hwy ▸ HBx.out.alloc HBx.out.size _
          have HOy : Hid (wy.ownsRow wo.heap.size 3 1 (.slice rp2 B.length rc2) B.length (inR B)) := hwy ▸ HOx.out.alloc _
          have HCy : Hid (wy.cell? ⟨wx.heap.size, 0, none⟩ = some (.int .i64 (j : Int))) := hwy ▸ cell_new1 wx _ _
          have HBl : Hid (B.length ≤ 4194304) := by unfold Hid; omega
          clear hpm hw0 hbx
          go_wp2_with (first
            | (go_at_call 27; (with_reducible refine (HN1.out _).mono ?_); rintro e w5 ⟨rfl, hw5⟩; have hw5' := hw5.symm; subst hw5')
            | (go_at_call 27; (with_reducible refine (HN0.out _).mono ?_); rintro e w6 ⟨rfl, hw6⟩; have hw6' := hw6.symm; subst hw6')
            | (at_builtin; refine wpList_append_int1 rfl _ _ rfl wo.heap.size _ B B.length rfl HOy.out wx.heap.size j rfl HCy.out HBl.out HBy.out.size ?_; intro v8 w8 ho8 hg8; have HO8 := hide' ho8; have HB8 := hide' (HBy.out.grown hg8 HBy.out.size (fun q e => ownBlock_le HOw.out e)); obtain ⟨rp8, rc8, hv8, -, -, -⟩ := own_shape ho8; subst hv8; clear ho8 hg8))
          exact ⟨⟨j + 1, B ++ [j], rp8, rc8, by go_num, by omega, by rw [List.length_append]; rfl, by rw [HSn.out], by rw [List.length_append, List.length_singleton]; omega, HY2, by unfold Hid; rw [List.length_append]; exact HO8.out, HB8⟩, by simp [intOf]; omega⟩
        · have HN2 := hide' (HNo.out (fun e => hw0 (of_decide_eq_false e.2)))
          have hpb : (pv == m) = true := by rw [beq_iff_eq]; exact hpm
          have hwb0 : (wv == 0) = !false := by rw [beq_iff_eq.2 (Classical.not_not.1 hw0)]; rfl
          have HPM := hide' hpm
          have HW0 := hide' hw0
          clear hpm hw0
          go_wp2_with (first
            | (go_at_call 27; (with_reducible refine (HN1.out _).mono ?_); rintro e w5 ⟨rfl, hw5⟩; have hw5' := hw5.symm; subst hw5')
            | (go_at_call 27; (with_reducible refine (HN0.out _).mono ?_); rintro e w6 ⟨rfl, hw6⟩; have hw6' := hw6.symm; subst hw6'))
          exact ⟨⟨j + 1, B, rp2, rc2, by go_num, by omega, rfl, by rw [HSe.out], by omega, HN2, HOn.out _, HBn.out _⟩, by simp [intOf]; omega⟩
      · have HN2 := hide' (HNo.out (fun e => hpm e.1))
        have hpb : (pv == m) = false := by rw [beq_eq_false_iff_ne]; exact hpm
        have HPM := hide' hpm
        clear hpm
        go_wp2_with (first
          | (go_at_call 27; (with_reducible refine (HN1.out _).mono ?_); rintro e w5 ⟨rfl, hw5⟩; have hw5' := hw5.symm; subst hw5')
          | (go_at_call 27; (with_reducible refine (HN0.out _).mono ?_); rintro e w6 ⟨rfl, hw6⟩; have hw6' := hw6.symm; subst hw6'))
        exact ⟨⟨j + 1, B, rp2, rc2, by go_num, by omega, rfl, by rw [HSe.out], by omega, HN2, HOn.out _, HBn.out _⟩, by simp [intOf]; omega⟩
    · obtain rfl : j = K.length := by omega
      have HE := hide' (fun y15 y16 y17 y61 y62 y63 y64 y65 y66 y67 y68 y69 y70 y71 y72 y73 y74 y75 y76 y77 y78 y79 y80 y81 y82 y83 y84 y85 y86 y87 y88 => HK.out B rp2 rc2 wr y15 y16 y17 y61 y62 y63 y64 y65 y66 y67 y68 y69 y70 y71 y72 y73 y74 y75 y76 y77 y78 y79 y80 y81 y82 y83 y84 y85 y86 y87 y88 HBe.out hBl HOw.out HBa.out)
      go_wp2_with fail
      exact HE.out _ _ _ _ _ _ _ _ _ _ _ _ _ _ _ _ _ _ _ _ _ _ _ _ _ _ _ _ _ _ _
end Go.Proofs.YtelboefeomnjaaaGreat

/-
  Proofs: the reference's Order: the drawing. (The verifier's own text; mkqo5.py.)
-/
namespace Go.Proofs.YtelboefeomnjaaaGreat
set_option linter.unusedVariables false
set_option linter.unusedSimpArgs false
open Go.RowKit Go.Shelf Go.Maps Go.Proofs.YtelboefeomnjaaaGreat.Nm Go.Proofs.YtelboefeomnjaaaGreat.Zs

set_option maxRecDepth 100000 in
set_option maxHeartbeats 8000000 in
theorem draw_nil (Q : Exit → Act → World → Prop) (w wB : World) (b0 g0 off0 cl oc gr rc : Nat) (oq : Option Addr) (L : List Rn) (xs : List Int) (T K O : List Nat) (m : Int) (pz : Option Addr) (cz : Nat) (hL : L.length ≤ 1048576) (hKL : K.length ≤ L.length) (h0 : 0 < K.length) (HXB : Hid (∀ x ∈ xs, -9223372036854775808 ≤ x ∧ x ≤ 9223372036854775807)) (HDat : Hid (Dat L)) (HSum : Hid (Sums L)) (RW : List Nat) (HRW : Hid (RW = rowP (pK L) (wK L) m K)) (HM : Hid (leastK (pK L) 65536 K = m)) (HRB : Hid (Ry w b0 L xs T K O (some ⟨g0, off0, none⟩) cl oq oc wB)) (HRl2 : Hid (RW.length ≤ 2 * K.length)) (HRp : Hid (0 < RW.length)) (HCel : Hid (∀ j, j < RW.length → wB.cell? ⟨gr, j, none⟩ = some (.int .i64 (ix RW j : Nat)))) (HZ : Hid ([] = xs.drop O.length ∧ ZAt w w.heap.size pz [] ∧ ([] : List Int).length ≤ cz))
    (x0 x2 x3 x4 x5 x8 x9 x10 x11 x14 x15 x16 x17 x19 x20 x21 x22 x23 x24 x25 x26 x27 x28 x29 x30 x31 x32 x33 x34 x35 x36 x37 x38 x39 x40 x41 x42 x43 x44 x45 x46 x47 x48 x49 x50 x51 x52 x53 x54 x55 x56 x57 x58 x59 x60 x61 x62 x63 x64 x65 x66 x67 x68 x69 x70 x71 x72 x73 x74 x75 x76 x77 x78 x79 x80 x81 x82 x83 x84 x85 x86 x87 x88 x89 x90 x91 x92 x93 x94 x95 x96 x97 x98 x99 x100 x101 x102 x103 x104 x105 x106 x107 x108 x109 x110 x111 x112 x113 x114 x115 x116 x117 x118 x119 x120 x121 x122 x123 x124 x125 x126 x127 x128 x129 x130 x131 x132 x133 x134 x135 x136 x137 x138 x139 x140 : Value)
    (HKK : Hid (∀ (d : Nat) (p8 q9 pz2 : Option Addr) (c8 c9 cz2 : Nat) (Z2 : List Int) (w8 : World) (y18 y19 y21 y89 y90 y91 y92 y93 y94 y95 y96 y97 y98 y99 y100 y101 y102 y103 y104 y105 y106 y107 y108 y109 y110 y111 y112 y113 y114 y115 y116 y117 y118 y119 y120 y121 y122 y123 y124 y125 y126 y127 y128 y129 y130 y131 y132 y133 y134 y135 y136 y137 y138 y139 : Value), d < K.length → (p8 = none → c8 = 0) → Z2 = xs.drop (O.length + 1) → ZAt w w.heap.size pz2 Z2 → Z2.length ≤ cz2 → Ry w b0 L xs T (K.eraseIdx d) (O ++ [ix K d]) p8 c8 q9 c9 w8 → Q .normal ⟨List.toArray (x0 :: (.slice pz2 Z2.length cz2 : Value) :: x2 :: x3 :: x4 :: x5 :: (.slice p8 (K.eraseIdx d).length c8 : Value) :: (.slice q9 (O.length + 1) c9 : Value) :: x8 :: x9 :: x10 :: x11 :: (.slice (some ⟨gr, 0, none⟩) RW.length rc : Value) :: (.int .i64 (smP (wK L) K RW) : Value) :: x14 :: x15 :: x16 :: x17 :: y18 :: y19 :: x20 :: y21 :: x22 :: x23 :: x24 :: x25 :: x26 :: x27 :: x28 :: x29 :: x30 :: x31 :: x32 :: x33 :: x34 :: x35 :: x36 :: x37 :: x38 :: x39 :: x40 :: x41 :: x42 :: x43 :: x44 :: x45 :: x46 :: x47 :: x48 :: x49 :: x50 :: x51 :: x52 :: x53 :: x54 :: x55 :: x56 :: x57 :: x58 :: x59 :: x60 :: x61 :: x62 :: x63 :: x64 :: x65 :: x66 :: x67 :: x68 :: x69 :: x70 :: x71 :: x72 :: x73 :: x74 :: x75 :: x76 :: x77 :: x78 :: x79 :: x80 :: x81 :: x82 :: x83 :: x84 :: x85 :: x86 :: x87 :: x88 :: y89 :: y90 :: y91 :: y92 :: y93 :: y94 :: y95 :: y96 :: y97 :: y98 :: y99 :: y100 :: y101 :: y102 :: y103 :: y104 :: y105 :: y106 :: y107 :: y108 :: y109 :: y110 :: y111 :: y112 :: y113 :: y114 :: y115 :: y116 :: y117 :: y118 :: y119 :: y120 :: y121 :: y122 :: y123 :: y124 :: y125 :: y126 :: y127 :: y128 :: y129 :: y130 :: y131 :: y132 :: y133 :: y134 :: y135 :: y136 :: y137 :: y138 :: y139 :: x140 :: []), []⟩ w8)) :
    Code.wp Tryz.prog (((Tryz.f7.body.map (tailsN 29)).getD []).getD 0 .skip) Q ⟨List.toArray (x0 :: (.slice pz ([] : List Int).length cz : Value) :: x2 :: x3 :: x4 :: x5 :: (.slice (some ⟨g0, off0, none⟩) K.length cl : Value) :: (.slice oq O.length oc : Value) :: x8 :: x9 :: x10 :: x11 :: (.slice (some ⟨gr, 0, none⟩) RW.length rc : Value) :: (.int .i64 (smP (wK L) K RW) : Value) :: x14 :: x15 :: x16 :: x17 :: (.int .i64 0 : Value) :: x19 :: x20 :: x21 :: x22 :: x23 :: x24 :: x25 :: x26 :: x27 :: x28 :: x29 :: x30 :: x31 :: x32 :: x33 :: x34 :: x35 :: x36 :: x37 :: x38 :: x39 :: x40 :: x41 :: x42 :: x43 :: x44 :: x45 :: x46 :: x47 :: x48 :: x49 :: x50 :: x51 :: x52 :: x53 :: x54 :: x55 :: x56 :: x57 :: x58 :: x59 :: x60 :: x61 :: x62 :: x63 :: x64 :: x65 :: x66 :: x67 :: x68 :: x69 :: x70 :: x71 :: x72 :: x73 :: x74 :: x75 :: x76 :: x77 :: x78 :: x79 :: x80 :: x81 :: x82 :: x83 :: x84 :: x85 :: x86 :: x87 :: x88 :: x89 :: x90 :: x91 :: x92 :: x93 :: x94 :: x95 :: x96 :: x97 :: x98 :: x99 :: x100 :: x101 :: x102 :: x103 :: x104 :: x105 :: x106 :: x107 :: x108 :: x109 :: x110 :: x111 :: x112 :: x113 :: x114 :: x115 :: x116 :: x117 :: x118 :: x119 :: x120 :: x121 :: x122 :: x123 :: x124 :: x125 :: x126 :: x127 :: x128 :: x129 :: x130 :: x131 :: x132 :: x133 :: x134 :: x135 :: x136 :: x137 :: x138 :: x139 :: x140 :: []), []⟩ wB := by
  have hRWl : RW.length ≤ 2097152 := by have := HRl2.out; omega
  have hsb := HSum.out K RW (by have := HRl2.out; omega)
  obtain ⟨sm, hsm⟩ : ∃ s, smP (wK L) K RW = s := ⟨_, rfl⟩
  have HSe := hide' hsm
  rw [hsm] at hsb
  rw [hsm] at HKK ⊢
  clear hsm
  have es1 : IntKind.i64.wrap (sm + 1) = sm + 1 := by rw [IntKind.wrap_i64]; omega
  have es0 : ¬ sm + 1 = 0 := by omega
  have es0b : (sm + 1 == 0) = false := by rw [beq_eq_false_iff_ne]; exact es0
  have HTl : Hid (∀ d, d < K.length → d = ((K.take d).map (rK L)).length) := fun d hd => by rw [List.length_map, List.length_take]; omega
  have HDl : Hid (∀ d, K.length - (d + 1) = ((K.drop (d + 1)).map (rK L)).length) := fun d => by rw [List.length_map, List.length_drop]
  have HZn := hide' (show [] = xs.drop (O.length + 1) from (rl_nil HZ.out.1).2)
  have hmb : (0 : Int) ≤ 0 ∧ 0 ≤ sm := by omega
  have HMo : Hid ((0 : Int) = rlN xs O.length % (smP (wK L) K RW + 1)) := by unfold Hid; rw [(rl_nil HZ.out.1).1]; simp
  have HPlA : Hid (∀ j, j < RW.length → (0 : Int) ≤ smP (wK L) K (RW.take (j + 1)) → (j = 0 ∨ smP (wK L) K (RW.take j) < (0 : Int)) → ix K (ix RW j) = drawn (wK L) (rlN xs O.length) (rowK (pK L) (wK L) m K)) := fun j hj h1 h2 => by
    have e := HRW.out
    subst e
    exact drawn_place (P := pK L) (W := wK L) (K := K) (m := m) (z := rlN xs O.length) (t := (0 : Int)) (i := j) (fun k => (wK_ok L k).1) hj HMo.out h1 h2
  have HLtA : Hid (∀ j, j < RW.length → ix RW j < K.length) := fun j hj => by
    have e := HRW.out
    subst e
    rw [← ix_get hj]; exact rowP_lt (List.getElem_mem hj)
  conv => arg 2; whnf
  go_wp2_with fail
  go_loopw [6, 7, 19, 108] (fun lv ov sv kv wr => ∃ j : Nat, lv = .slice (some ⟨g0, off0, none⟩) K.length cl ∧ ov = .slice oq O.length oc ∧ kv = .int .i64 (j : Int) ∧ j < RW.length ∧ sv = .int .i64 (smP (wK L) K (RW.take j)) ∧ Hid (j = 0 ∨ smP (wK L) K (RW.take j) < (0 : Int)) ∧ Hid (wr = wB)) (fun _ _ _ kv _ => RW.length - (intOf kv).toNat)
  case atStart => exact ⟨0, rfl, rfl, rfl, HRp.out, rfl, Or.inl rfl, rfl⟩
  case round =>
    obtain ⟨j, rfl, rfl, rfl, hj, rfl, HJ, HWr⟩ := hrel
    have hwr := HWr.out
    subst hwr
    have pj0 : (0 : Int) ≤ (j : Int) := by omega
    have pj : (j : Int) < (RW.length : Int) := by omega
    have hcj := HCel.out j hj
    have hdl := HLtA.out j hj
    have HTk := hide' (show smP (wK L) K (RW.take (j + 1)) = smP (wK L) K (RW.take j) + wK L (ix K (ix RW j)) by rw [List.take_succ_eq_append_getElem hj, smP_snoc, ix_get hj])
    have HPl := hide' (HPlA.out j hj)
    have HEnd : Hid (j + 1 = RW.length → smP (wK L) K (RW.take (j + 1)) = sm) := fun e => by rw [e, List.take_length]; exact HSe.out
    have hst := HSum.out K (RW.take j) (by rw [List.length_take]; have := HRl2.out; omega)
    obtain ⟨d, hd⟩ : ∃ d, ix RW j = d := ⟨_, rfl⟩
    rw [hd] at hcj hdl HTk HPl
    clear hd
    obtain ⟨g2, off2, hpl2, hil, xo, xt, xc, xl, xd, hx, c0, c1, c2, c3, c4⟩ := HRB.out.at hdl
    injection hpl2 with hpl2
    injection hpl2 with e1 e2
    subst e1 e2
    obtain ⟨hd4, hpv, hwv⟩ := HDat.out hil hx
    have HN1 := hide' (fun V => number1_any xd V hd4)
    rw [← hwv] at HN1
    have hwb := wK_ok L (ix K d)
    have HXd := hide' hx
    obtain ⟨wv, hwv'⟩ : ∃ q, wK L (ix K d) = q := ⟨_, rfl⟩
    rw [hwv'] at HN1 HTk hwb
    obtain ⟨st, hst'⟩ : ∃ q, smP (wK L) K (RW.take j) = q := ⟨_, rfl⟩
    rw [hst'] at HTk HJ HPl hst ⊢
    clear hx hpv hwv hwv' hst'
    have ea : IntKind.i64.wrap (st + wv) = st + wv := by rw [IntKind.wrap_i64]; omega
    have pd0 : (0 : Int) ≤ (d : Int) := by omega
    have pd : (d : Int) < (K.length : Int) := by omega
    by_cases hge : (0 : Int) ≤ st + wv
    · have HDr := hide' (HPl.out (by rw [HTk.out]; exact hge) HJ.out)
      have hgd : decide ((0 : Int) ≤ st + wv) = true := decide_eq_true hge
      obtain ⟨wb, hwb2⟩ : ∃ wb, wr.alloc (.cells #[.string xo, .int .i64 xt, .int .i64 xc, .int .i64 xl, .string xd] 42) = wb := ⟨_, rfl⟩
      have HRb := hide' (HRB.out.below (alloc_belQ hwb2))
      have HRs := hide' (rs_newQ hwb2)
      have HL1 : Hid (O.length + 1 ≤ 10000000) := by unfold Hid; have := HRB.out.ln; omega
      have ed : IntKind.i64.wrap ((d : Int) + 1) = ((d + 1 : Nat) : Int) := by rw [IntKind.wrap_i64]; omega
      have pcl : (d : Int) ≤ (cl : Int) := by have := HRB.out.lc; omega
      have pc2 : (K.length : Int) ≤ (cl : Int) := by have := HRB.out.lc; omega
      obtain ⟨Ad, hAd, HAd⟩ : ∃ Ad : Addr, (if cl = d + 1 then some (⟨g0, off0, none⟩ : Addr) else some ⟨g0, off0 + (d + 1) * 5, none⟩) = some Ad ∧ Hid (d + 1 < K.length → Ad = ⟨g0, off0 + (d + 1) * 5, none⟩) := by
        by_cases hcl : cl = d + 1
        · exact ⟨_, by rw [if_pos hcl], fun h => by exfalso; have := HRB.out.lc; omega⟩
        · exact ⟨_, by rw [if_neg hcl], fun _ => rfl⟩
      have ps0 : (0 : Int) ≤ (d : Int) + 1 := by omega
      have ps1 : (d : Int) + 1 ≤ (K.length : Int) := by omega
      go_wp2_with (first
        | (go_at_call 27; (with_reducible refine (HN1.out _).mono ?_); rintro e w6 ⟨rfl, hw6⟩; have hw6' := hw6.symm; subst hw6')
        | (at_builtin; refine wpList_append_recA rfl _ _ rfl b0 _ O.length (rce5 (O.map (rK L))) rfl HRb.out.ow ⟨wr.heap.size, 0, none⟩ [⟨xo, xt, xc, xl, xd⟩] 1 rfl HRs.out HL1.out HRb.out.gb.2 ?_; intro v9 w9 ho9 hg9 hp9; obtain ⟨q9, c9, hv9, hl9, how9, hbl9, hsz9, hq9⟩ := HRb.out.put hdl (by rw [HXd.out]; exact ho9) hg9 hp9; subst hv9; have HL9 := hide' hl9; have HB9 := hide' (Nat.le_trans HRb.out.gb.2 hsz9); have HNx := hide' (fun (w3 : World) (v8 : Value) h8 hb3 => HRb.out.next hdl (by rw [HM.out]; exact HDr.out) how9 hbl9 HB9.out hq9 (w3 := w3) (v8 := v8) h8 hb3); clear ho9 hg9 hp9 hl9 how9 hbl9 hsz9 hq9 c0 c1 c2 c3 c4 hwb2))
      refine wp_region_noPanic ?_
      refine wp_region_held_drew (S := fun _ => True) (by kernel_rfl) ?_ (fun hHeld => ?_)
      · trivial
      refine takeD 0 (some 130) (.slice (some ⟨g0, off0, none⟩) K.length cl) rfl rfl (by kernel_rfl) (by kernel_rfl) (by kernel_rfl) (fun _ _ _ h => h) (Or.inl ⟨by rfl, ?_⟩) (by assumption) ?_
      · intro w hSw; (try dsimp only at hSw); go_simp <;> (intros; omega)
      simp only [Act.put, List.setIfInBounds_toArray, List.set_cons_zero, List.set_cons_succ]
      refine takeD 1 (some 131) (.int .i64 (d : Int)) rfl rfl (by kernel_rfl) (by kernel_rfl) (by kernel_rfl) (fun _ _ _ h => h) (Or.inl ⟨by rfl, ?_⟩) (by assumption) ?_
      · intro w hSw; (try dsimp only at hSw); go_simp <;> (intros; omega)
      simp only [Act.put, List.setIfInBounds_toArray, List.set_cons_zero, List.set_cons_succ]
      refine takeD 2 (some 132) (.slice (some ⟨g0, off0, none⟩) d cl) rfl rfl (by kernel_rfl) (by kernel_rfl) (by kernel_rfl) (fun _ _ _ h => h) (Or.inl ⟨by rfl, ?_⟩) (by assumption) ?_
      · intro w hSw; (try dsimp only at hSw); go_simp <;> (intros; omega)
      simp only [Act.put, List.setIfInBounds_toArray, List.set_cons_zero, List.set_cons_succ]
      refine takeD 4 (some 134) (.slice (some ⟨g0, off0, none⟩) K.length cl) rfl rfl (by kernel_rfl) (by kernel_rfl) (by kernel_rfl) (fun _ _ _ h => h) (Or.inl ⟨by rfl, ?_⟩) (by assumption) ?_
      · intro w hSw; (try dsimp only at hSw); go_simp <;> (intros; omega)
      simp only [Act.put, List.setIfInBounds_toArray, List.set_cons_zero, List.set_cons_succ]
      refine takeD 5 (some 135) (.int .i64 (d : Int)) rfl rfl (by kernel_rfl) (by kernel_rfl) (by kernel_rfl) (fun _ _ _ h => h) (Or.inl ⟨by rfl, ?_⟩) (by assumption) ?_
      · intro w hSw; (try dsimp only at hSw); go_simp <;> (intros; omega)
      simp only [Act.put, List.setIfInBounds_toArray, List.set_cons_zero, List.set_cons_succ]
      refine takeD 6 (some 136) (.int .i64 ((d : Int) + 1)) rfl rfl (by kernel_rfl) (by kernel_rfl) (by kernel_rfl) (fun _ _ _ h => h) (Or.inl ⟨by rfl, ?_⟩) (by assumption) ?_
      · intro w hSw; (try dsimp only at hSw); go_simp <;> (intros; omega)
      simp only [Act.put, List.setIfInBounds_toArray, List.set_cons_zero, List.set_cons_succ]
      refine takeD 7 (some 137) (.slice (some Ad) (K.length - (d + 1)) (cl - (d + 1))) rfl rfl (by kernel_rfl) (by kernel_rfl) (by kernel_rfl) (fun _ _ _ h => h) (Or.inl ⟨by rfl, ?_⟩) (by assumption) ?_
      · intro w hSw; (try dsimp only at hSw); go_simp <;> (intros; omega)
      simp only [Act.put, List.setIfInBounds_toArray, List.set_cons_zero, List.set_cons_succ]
      refine wpAnyH_ready (rs := [3]) (by kernel_rfl) (by simp) ?_
      refine AllReadyH.cons rfl (fun K_ hK => ?_) AllReadyH.nil
      refine step_append_recsQ rfl _ _ rfl w9.heap.size (.slice none 0 0) 0 [] rfl (World.ownsRow_nil _ _ _ _) ⟨g0, off0, none⟩ ((K.take d).map (rK L)) d cl rfl (HTl.out d hdl) (rs_takeQ HL9.out d) (by omega) (Nat.le_refl _) ?_; intro v7 w7 ho7 hg7; have HO7 := hide' ho7; have HG7 := hide' (grown_trans (grown_drewN w9 1 none) hg7); clear ho7 hg7
      refine hK.out (Act.put _ (some 133) v7) _ trivial (fun hHeld => ?_)
      clear hK K_
      try simp only [Act.put, List.setIfInBounds_toArray, List.set_cons_zero, List.set_cons_succ]
      refine wpAnyH_ready (rs := [8]) (by kernel_rfl) (by simp) ?_
      refine AllReadyH.cons rfl (fun K_ hK => ?_) AllReadyH.nil
      refine step_append_recsQ rfl _ _ rfl w9.heap.size v7 (0 + d) ([] ++ rce5 ((K.take d).map (rK L))) rfl HO7.out Ad ((K.drop (d + 1)).map (rK L)) (K.length - (d + 1)) (cl - (d + 1)) rfl (HDl.out d) (rs_dropQ HL9.out HG7.out HAd.out) (by omega) (by have := HG7.out.size; simpa using this) ?_; intro v8 w8 ho8 hg8; have HO8 := hide' ho8; have HG8 := hide' hg8; clear ho8 hg8
      refine hK.out (Act.put _ (some 138) v8) _ trivial (fun hHeld => ?_)
      clear hK K_
      try simp only [Act.put, List.setIfInBounds_toArray, List.set_cons_zero, List.set_cons_succ]
      obtain ⟨p8, c8, hv8, hn8, hr8⟩ := HNx.out _ v8 (by simpa using HO8.out) (below_twoQ (b := 0) HG7.out HO7.out HG8.out)
      subst hv8
      refine takeD 9 (some 6) (.slice p8 (K.eraseIdx d).length c8) rfl rfl (by kernel_rfl) (by kernel_rfl) (by kernel_rfl) (fun _ _ _ h => h) (Or.inl ⟨by rfl, ?_⟩) (by assumption) ?_
      · intro w hSw; (try dsimp only at hSw); go_simp <;> (intros; omega)
      simp only [Act.put, List.setIfInBounds_toArray, List.set_cons_zero, List.set_cons_succ]
      refine wpAnyH_done (by kernel_rfl) ?_ _
      have HE := hide' (fun y18 y19 y21 y89 y90 y91 y92 y93 y94 y95 y96 y97 y98 y99 y100 y101 y102 y103 y104 y105 y106 y107 y108 y109 y110 y111 y112 y113 y114 y115 y116 y117 y118 y119 y120 y121 y122 y123 y124 y125 y126 y127 y128 y129 y130 y131 y132 y133 y134 y135 y136 y137 y138 y139 => HKK.out d p8 q9 pz c8 c9 cz [] _ y18 y19 y21 y89 y90 y91 y92 y93 y94 y95 y96 y97 y98 y99 y100 y101 y102 y103 y104 y105 y106 y107 y108 y109 y110 y111 y112 y113 y114 y115 y116 y117 y118 y119 y120 y121 y122 y123 y124 y125 y126 y127 y128 y129 y130 y131 y132 y133 y134 y135 y136 y137 y138 y139 hdl hn8 HZn.out HZ.out.2.1 HZ.out.2.2 hr8)
      clear hr8 hn8
      refine NoPanic.normal ?_
      go_wp2_with fail
      exact HE.out _ _ _ _ _ _ _ _ _ _ _ _ _ _ _ _ _ _ _ _ _ _ _ _ _ _ _ _ _ _ _ _ _ _ _ _ _ _ _ _ _ _ _ _ _ _ _ _ _ _ _ _ _ _
    · exfalso; omega
set_option maxRecDepth 100000 in
set_option maxHeartbeats 8000000 in
theorem draw_neg (Q : Exit → Act → World → Prop) (w wB : World) (b0 g0 off0 cl oc gr rc : Nat) (oq : Option Addr) (L : List Rn) (xs : List Int) (T K O : List Nat) (m : Int) (gz oz cz zn : Nat) (z : Int) (Z : List Int) (HZN : Hid (zn = (z :: Z).length)) (hL : L.length ≤ 1048576) (hKL : K.length ≤ L.length) (h0 : 0 < K.length) (HXB : Hid (∀ x ∈ xs, -9223372036854775808 ≤ x ∧ x ≤ 9223372036854775807)) (HDat : Hid (Dat L)) (HSum : Hid (Sums L)) (RW : List Nat) (HRW : Hid (RW = rowP (pK L) (wK L) m K)) (HM : Hid (leastK (pK L) 65536 K = m)) (HRB : Hid (Ry w b0 L xs T K O (some ⟨g0, off0, none⟩) cl oq oc wB)) (HRl2 : Hid (RW.length ≤ 2 * K.length)) (HRp : Hid (0 < RW.length)) (HCel : Hid (∀ j, j < RW.length → wB.cell? ⟨gr, j, none⟩ = some (.int .i64 (ix RW j : Nat)))) (HZ : Hid (z :: Z = xs.drop O.length ∧ ZAt w w.heap.size (some ⟨gz, oz, none⟩) (z :: Z) ∧ (z :: Z).length ≤ cz)) (hzn : z < 0)
    (x0 x2 x3 x4 x5 x8 x9 x10 x11 x14 x15 x16 x17 x19 x20 x21 x22 x23 x24 x25 x26 x27 x28 x29 x30 x31 x32 x33 x34 x35 x36 x37 x38 x39 x40 x41 x42 x43 x44 x45 x46 x47 x48 x49 x50 x51 x52 x53 x54 x55 x56 x57 x58 x59 x60 x61 x62 x63 x64 x65 x66 x67 x68 x69 x70 x71 x72 x73 x74 x75 x76 x77 x78 x79 x80 x81 x82 x83 x84 x85 x86 x87 x88 x89 x90 x91 x92 x93 x94 x95 x96 x97 x98 x99 x100 x101 x102 x103 x104 x105 x106 x107 x108 x109 x110 x111 x112 x113 x114 x115 x116 x117 x118 x119 x120 x121 x122 x123 x124 x125 x126 x127 x128 x129 x130 x131 x132 x133 x134 x135 x136 x137 x138 x139 x140 : Value)
    (HKK : Hid (∀ (d : Nat) (p8 q9 pz2 : Option Addr) (c8 c9 cz2 : Nat) (Z2 : List Int) (w8 : World) (y18 y19 y21 y89 y90 y91 y92 y93 y94 y95 y96 y97 y98 y99 y100 y101 y102 y103 y104 y105 y106 y107 y108 y109 y110 y111 y112 y113 y114 y115 y116 y117 y118 y119 y120 y121 y122 y123 y124 y125 y126 y127 y128 y129 y130 y131 y132 y133 y134 y135 y136 y137 y138 y139 : Value), d < K.length → (p8 = none → c8 = 0) → Z2 = xs.drop (O.length + 1) → ZAt w w.heap.size pz2 Z2 → Z2.length ≤ cz2 → Ry w b0 L xs T (K.eraseIdx d) (O ++ [ix K d]) p8 c8 q9 c9 w8 → Q .normal ⟨List.toArray (x0 :: (.slice pz2 Z2.length cz2 : Value) :: x2 :: x3 :: x4 :: x5 :: (.slice p8 (K.eraseIdx d).length c8 : Value) :: (.slice q9 (O.length + 1) c9 : Value) :: x8 :: x9 :: x10 :: x11 :: (.slice (some ⟨gr, 0, none⟩) RW.length rc : Value) :: (.int .i64 (smP (wK L) K RW) : Value) :: x14 :: x15 :: x16 :: x17 :: y18 :: y19 :: x20 :: y21 :: x22 :: x23 :: x24 :: x25 :: x26 :: x27 :: x28 :: x29 :: x30 :: x31 :: x32 :: x33 :: x34 :: x35 :: x36 :: x37 :: x38 :: x39 :: x40 :: x41 :: x42 :: x43 :: x44 :: x45 :: x46 :: x47 :: x48 :: x49 :: x50 :: x51 :: x52 :: x53 :: x54 :: x55 :: x56 :: x57 :: x58 :: x59 :: x60 :: x61 :: x62 :: x63 :: x64 :: x65 :: x66 :: x67 :: x68 :: x69 :: x70 :: x71 :: x72 :: x73 :: x74 :: x75 :: x76 :: x77 :: x78 :: x79 :: x80 :: x81 :: x82 :: x83 :: x84 :: x85 :: x86 :: x87 :: x88 :: y89 :: y90 :: y91 :: y92 :: y93 :: y94 :: y95 :: y96 :: y97 :: y98 :: y99 :: y100 :: y101 :: y102 :: y103 :: y104 :: y105 :: y106 :: y107 :: y108 :: y109 :: y110 :: y111 :: y112 :: y113 :: y114 :: y115 :: y116 :: y117 :: y118 :: y119 :: y120 :: y121 :: y122 :: y123 :: y124 :: y125 :: y126 :: y127 :: y128 :: y129 :: y130 :: y131 :: y132 :: y133 :: y134 :: y135 :: y136 :: y137 :: y138 :: y139 :: x140 :: []), []⟩ w8)) :
    Code.wp Tryz.prog (((Tryz.f7.body.map (tailsN 29)).getD []).getD 0 .skip) Q ⟨List.toArray (x0 :: (.slice (some ⟨gz, oz, none⟩) zn cz : Value) :: x2 :: x3 :: x4 :: x5 :: (.slice (some ⟨g0, off0, none⟩) K.length cl : Value) :: (.slice oq O.length oc : Value) :: x8 :: x9 :: x10 :: x11 :: (.slice (some ⟨gr, 0, none⟩) RW.length rc : Value) :: (.int .i64 (smP (wK L) K RW) : Value) :: x14 :: x15 :: x16 :: x17 :: (.int .i64 0 : Value) :: x19 :: x20 :: x21 :: x22 :: x23 :: x24 :: x25 :: x26 :: x27 :: x28 :: x29 :: x30 :: x31 :: x32 :: x33 :: x34 :: x35 :: x36 :: x37 :: x38 :: x39 :: x40 :: x41 :: x42 :: x43 :: x44 :: x45 :: x46 :: x47 :: x48 :: x49 :: x50 :: x51 :: x52 :: x53 :: x54 :: x55 :: x56 :: x57 :: x58 :: x59 :: x60 :: x61 :: x62 :: x63 :: x64 :: x65 :: x66 :: x67 :: x68 :: x69 :: x70 :: x71 :: x72 :: x73 :: x74 :: x75 :: x76 :: x77 :: x78 :: x79 :: x80 :: x81 :: x82 :: x83 :: x84 :: x85 :: x86 :: x87 :: x88 :: x89 :: x90 :: x91 :: x92 :: x93 :: x94 :: x95 :: x96 :: x97 :: x98 :: x99 :: x100 :: x101 :: x102 :: x103 :: x104 :: x105 :: x106 :: x107 :: x108 :: x109 :: x110 :: x111 :: x112 :: x113 :: x114 :: x115 :: x116 :: x117 :: x118 :: x119 :: x120 :: x121 :: x122 :: x123 :: x124 :: x125 :: x126 :: x127 :: x128 :: x129 :: x130 :: x131 :: x132 :: x133 :: x134 :: x135 :: x136 :: x137 :: x138 :: x139 :: x140 :: []), []⟩ wB := by
  have hRWl : RW.length ≤ 2097152 := by have := HRl2.out; omega
  have hsb := HSum.out K RW (by have := HRl2.out; omega)
  obtain ⟨sm, hsm⟩ : ∃ s, smP (wK L) K RW = s := ⟨_, rfl⟩
  have HSe := hide' hsm
  rw [hsm] at hsb
  rw [hsm] at HKK ⊢
  clear hsm
  have es1 : IntKind.i64.wrap (sm + 1) = sm + 1 := by rw [IntKind.wrap_i64]; omega
  have es0 : ¬ sm + 1 = 0 := by omega
  have es0b : (sm + 1 == 0) = false := by rw [beq_eq_false_iff_ne]; exact es0
  have HTl : Hid (∀ d, d < K.length → d = ((K.take d).map (rK L)).length) := fun d hd => by rw [List.length_map, List.length_take]; omega
  have HDl : Hid (∀ d, K.length - (d + 1) = ((K.drop (d + 1)).map (rK L)).length) := fun d => by rw [List.length_map, List.length_drop]
  obtain ⟨hrl0, hZ1, hzm⟩ := rl_cons HZ.out.1
  have HRl := hide' hrl0
  have HZn := hide' hZ1
  have HZb := hide' (HXB.out z hzm)
  obtain ⟨gz', oz', hpz, hgz, hcz⟩ := HZ.out.2.1 0 (by simp)
  injection hpz with hpz
  injection hpz with e1 e2
  subst e1 e2
  have hcz2 : wB.cell? ⟨gz, oz, none⟩ = some (.int .i64 z) := by
    rw [HRB.out.bl.cell (p := ⟨gz, oz, none⟩) hgz]
    simpa using hcz
  obtain ⟨Adz, hAz, hslz⟩ := run_fromI gz oz (z :: Z).length cz (by simp) HZ.out.2.2
  have HZt := hide' (zat_tail HZ.out.2.1 hAz)
  have HZl : Hid (Z.length ≤ cz - 1) := by unfold Hid; have := HZ.out.2.2; simp at this; omega
  have hslz' : ∀ W : World, (Instr.slice 23 (.slice (some ⟨gz, oz, none⟩) zn cz) (some (.int .i64 1)) none none).run Tryz.prog W = .ok (.slice (some Adz) Z.length (cz - 1)) W := by rw [HZN.out]; exact hslz
  have hzl : (0 : Int) < (zn : Int) := by rw [HZN.out, List.length_cons]; omega
  have pz0 : (0 : Int) < (0 : Int) + 1 := by omega
  clear hrl0 hZ1 hzm hcz hAz hslz pz0
  have hzb := HZb.out
  obtain ⟨rl, hrl⟩ : ∃ r, -(z + 1) = r := ⟨_, rfl⟩
  have ez1 : IntKind.i64.wrap (z + 1) = z + 1 := by rw [IntKind.wrap_i64]; omega
  have ez2 : IntKind.i64.wrap (-(z + 1)) = rl := by rw [IntKind.wrap_i64]; omega
  have hrb : 0 ≤ rl ∧ rl ≤ 9223372036854775807 := by have := rlN_ok HXB.out O.length; rw [HRl.out, if_pos hzn, hrl] at this; exact this
  obtain ⟨mo, hmo⟩ : ∃ q, rl.tmod (sm + 1) = q := ⟨_, rfl⟩
  have hmb : 0 ≤ mo ∧ mo ≤ sm := by
    rw [← hmo, Int.tmod_eq_emod_of_nonneg hrb.1]
    have h1 := Int.emod_nonneg rl (show sm + 1 ≠ 0 by omega)
    have h2 := Int.emod_lt_of_pos rl (show 0 < sm + 1 by omega)
    omega
  have HMo : Hid (mo = rlN xs O.length % (smP (wK L) K RW + 1)) := by
    unfold Hid
    rw [HRl.out, if_pos hzn, hrl, HSe.out, ← hmo, Int.tmod_eq_emod_of_nonneg hrb.1]
  have emo : IntKind.i64.wrap mo = mo := by rw [IntKind.wrap_i64]; omega
  have HPlA : Hid (∀ j, j < RW.length → mo ≤ smP (wK L) K (RW.take (j + 1)) → (j = 0 ∨ smP (wK L) K (RW.take j) < mo) → ix K (ix RW j) = drawn (wK L) (rlN xs O.length) (rowK (pK L) (wK L) m K)) := fun j hj h1 h2 => by
    have e := HRW.out
    subst e
    exact drawn_place (P := pK L) (W := wK L) (K := K) (m := m) (z := rlN xs O.length) (t := mo) (i := j) (fun k => (wK_ok L k).1) hj HMo.out h1 h2
  have HLtA : Hid (∀ j, j < RW.length → ix RW j < K.length) := fun j hj => by
    have e := HRW.out
    subst e
    rw [← ix_get hj]; exact rowP_lt (List.getElem_mem hj)
  conv => arg 2; whnf
  go_wp2_with fail
  go_loopw [6, 7, 19, 108] (fun lv ov sv kv wr => ∃ j : Nat, lv = .slice (some ⟨g0, off0, none⟩) K.length cl ∧ ov = .slice oq O.length oc ∧ kv = .int .i64 (j : Int) ∧ j < RW.length ∧ sv = .int .i64 (smP (wK L) K (RW.take j)) ∧ Hid (j = 0 ∨ smP (wK L) K (RW.take j) < mo) ∧ Hid (wr = wB)) (fun _ _ _ kv _ => RW.length - (intOf kv).toNat)
  case atStart => exact ⟨0, rfl, rfl, rfl, HRp.out, rfl, Or.inl rfl, rfl⟩
  case round =>
    obtain ⟨j, rfl, rfl, rfl, hj, rfl, HJ, HWr⟩ := hrel
    have hwr := HWr.out
    subst hwr
    have pj0 : (0 : Int) ≤ (j : Int) := by omega
    have pj : (j : Int) < (RW.length : Int) := by omega
    have hcj := HCel.out j hj
    have hdl := HLtA.out j hj
    have HTk := hide' (show smP (wK L) K (RW.take (j + 1)) = smP (wK L) K (RW.take j) + wK L (ix K (ix RW j)) by rw [List.take_succ_eq_append_getElem hj, smP_snoc, ix_get hj])
    have HPl := hide' (HPlA.out j hj)
    have HEnd : Hid (j + 1 = RW.length → smP (wK L) K (RW.take (j + 1)) = sm) := fun e => by rw [e, List.take_length]; exact HSe.out
    have hst := HSum.out K (RW.take j) (by rw [List.length_take]; have := HRl2.out; omega)
    obtain ⟨d, hd⟩ : ∃ d, ix RW j = d := ⟨_, rfl⟩
    rw [hd] at hcj hdl HTk HPl
    clear hd
    obtain ⟨g2, off2, hpl2, hil, xo, xt, xc, xl, xd, hx, c0, c1, c2, c3, c4⟩ := HRB.out.at hdl
    injection hpl2 with hpl2
    injection hpl2 with e1 e2
    subst e1 e2
    obtain ⟨hd4, hpv, hwv⟩ := HDat.out hil hx
    have HN1 := hide' (fun V => number1_any xd V hd4)
    rw [← hwv] at HN1
    have hwb := wK_ok L (ix K d)
    have HXd := hide' hx
    obtain ⟨wv, hwv'⟩ : ∃ q, wK L (ix K d) = q := ⟨_, rfl⟩
    rw [hwv'] at HN1 HTk hwb
    obtain ⟨st, hst'⟩ : ∃ q, smP (wK L) K (RW.take j) = q := ⟨_, rfl⟩
    rw [hst'] at HTk HJ HPl hst ⊢
    clear hx hpv hwv hwv' hst'
    have ea : IntKind.i64.wrap (st + wv) = st + wv := by rw [IntKind.wrap_i64]; omega
    have pd0 : (0 : Int) ≤ (d : Int) := by omega
    have pd : (d : Int) < (K.length : Int) := by omega
    by_cases hge : mo ≤ st + wv
    · have HDr := hide' (HPl.out (by rw [HTk.out]; exact hge) HJ.out)
      have hgd : decide (mo ≤ st + wv) = true := decide_eq_true hge
      obtain ⟨wb, hwb2⟩ : ∃ wb, wr.alloc (.cells #[.string xo, .int .i64 xt, .int .i64 xc, .int .i64 xl, .string xd] 42) = wb := ⟨_, rfl⟩
      have HRb := hide' (HRB.out.below (alloc_belQ hwb2))
      have HRs := hide' (rs_newQ hwb2)
      have HL1 : Hid (O.length + 1 ≤ 10000000) := by unfold Hid; have := HRB.out.ln; omega
      have ed : IntKind.i64.wrap ((d : Int) + 1) = ((d + 1 : Nat) : Int) := by rw [IntKind.wrap_i64]; omega
      have pcl : (d : Int) ≤ (cl : Int) := by have := HRB.out.lc; omega
      have pc2 : (K.length : Int) ≤ (cl : Int) := by have := HRB.out.lc; omega
      obtain ⟨Ad, hAd, HAd⟩ : ∃ Ad : Addr, (if cl = d + 1 then some (⟨g0, off0, none⟩ : Addr) else some ⟨g0, off0 + (d + 1) * 5, none⟩) = some Ad ∧ Hid (d + 1 < K.length → Ad = ⟨g0, off0 + (d + 1) * 5, none⟩) := by
        by_cases hcl : cl = d + 1
        · exact ⟨_, by rw [if_pos hcl], fun h => by exfalso; have := HRB.out.lc; omega⟩
        · exact ⟨_, by rw [if_neg hcl], fun _ => rfl⟩
      have ps0 : (0 : Int) ≤ (d : Int) + 1 := by omega
      have ps1 : (d : Int) + 1 ≤ (K.length : Int) := by omega
      go_wp2_with (first
        | (go_at_call 27; (with_reducible refine (HN1.out _).mono ?_); rintro e w6 ⟨rfl, hw6⟩; have hw6' := hw6.symm; subst hw6')
        | (at_builtin; refine wpList_append_recA rfl _ _ rfl b0 _ O.length (rce5 (O.map (rK L))) rfl HRb.out.ow ⟨wr.heap.size, 0, none⟩ [⟨xo, xt, xc, xl, xd⟩] 1 rfl HRs.out HL1.out HRb.out.gb.2 ?_; intro v9 w9 ho9 hg9 hp9; obtain ⟨q9, c9, hv9, hl9, how9, hbl9, hsz9, hq9⟩ := HRb.out.put hdl (by rw [HXd.out]; exact ho9) hg9 hp9; subst hv9; have HL9 := hide' hl9; have HB9 := hide' (Nat.le_trans HRb.out.gb.2 hsz9); have HNx := hide' (fun (w3 : World) (v8 : Value) h8 hb3 => HRb.out.next hdl (by rw [HM.out]; exact HDr.out) how9 hbl9 HB9.out hq9 (w3 := w3) (v8 := v8) h8 hb3); clear ho9 hg9 hp9 hl9 how9 hbl9 hsz9 hq9 c0 c1 c2 c3 c4 hwb2))
      refine wp_region_noPanic ?_
      refine wp_region_held_drew (S := fun _ => True) (by kernel_rfl) ?_ (fun hHeld => ?_)
      · trivial
      refine takeD 0 (some 130) (.slice (some ⟨g0, off0, none⟩) K.length cl) rfl rfl (by kernel_rfl) (by kernel_rfl) (by kernel_rfl) (fun _ _ _ h => h) (Or.inl ⟨by rfl, ?_⟩) (by assumption) ?_
      · intro w hSw; (try dsimp only at hSw); go_simp <;> (intros; omega)
      simp only [Act.put, List.setIfInBounds_toArray, List.set_cons_zero, List.set_cons_succ]
      refine takeD 1 (some 131) (.int .i64 (d : Int)) rfl rfl (by kernel_rfl) (by kernel_rfl) (by kernel_rfl) (fun _ _ _ h => h) (Or.inl ⟨by rfl, ?_⟩) (by assumption) ?_
      · intro w hSw; (try dsimp only at hSw); go_simp <;> (intros; omega)
      simp only [Act.put, List.setIfInBounds_toArray, List.set_cons_zero, List.set_cons_succ]
      refine takeD 2 (some 132) (.slice (some ⟨g0, off0, none⟩) d cl) rfl rfl (by kernel_rfl) (by kernel_rfl) (by kernel_rfl) (fun _ _ _ h => h) (Or.inl ⟨by rfl, ?_⟩) (by assumption) ?_
      · intro w hSw; (try dsimp only at hSw); go_simp <;> (intros; omega)
      simp only [Act.put, List.setIfInBounds_toArray, List.set_cons_zero, List.set_cons_succ]
      refine takeD 4 (some 134) (.slice (some ⟨g0, off0, none⟩) K.length cl) rfl rfl (by kernel_rfl) (by kernel_rfl) (by kernel_rfl) (fun _ _ _ h => h) (Or.inl ⟨by rfl, ?_⟩) (by assumption) ?_
      · intro w hSw; (try dsimp only at hSw); go_simp <;> (intros; omega)
      simp only [Act.put, List.setIfInBounds_toArray, List.set_cons_zero, List.set_cons_succ]
      refine takeD 5 (some 135) (.int .i64 (d : Int)) rfl rfl (by kernel_rfl) (by kernel_rfl) (by kernel_rfl) (fun _ _ _ h => h) (Or.inl ⟨by rfl, ?_⟩) (by assumption) ?_
      · intro w hSw; (try dsimp only at hSw); go_simp <;> (intros; omega)
      simp only [Act.put, List.setIfInBounds_toArray, List.set_cons_zero, List.set_cons_succ]
      refine takeD 6 (some 136) (.int .i64 ((d : Int) + 1)) rfl rfl (by kernel_rfl) (by kernel_rfl) (by kernel_rfl) (fun _ _ _ h => h) (Or.inl ⟨by rfl, ?_⟩) (by assumption) ?_
      · intro w hSw; (try dsimp only at hSw); go_simp <;> (intros; omega)
      simp only [Act.put, List.setIfInBounds_toArray, List.set_cons_zero, List.set_cons_succ]
      refine takeD 7 (some 137) (.slice (some Ad) (K.length - (d + 1)) (cl - (d + 1))) rfl rfl (by kernel_rfl) (by kernel_rfl) (by kernel_rfl) (fun _ _ _ h => h) (Or.inl ⟨by rfl, ?_⟩) (by assumption) ?_
      · intro w hSw; (try dsimp only at hSw); go_simp <;> (intros; omega)
      simp only [Act.put, List.setIfInBounds_toArray, List.set_cons_zero, List.set_cons_succ]
      refine wpAnyH_ready (rs := [3]) (by kernel_rfl) (by simp) ?_
      refine AllReadyH.cons rfl (fun K_ hK => ?_) AllReadyH.nil
      refine step_append_recsQ rfl _ _ rfl w9.heap.size (.slice none 0 0) 0 [] rfl (World.ownsRow_nil _ _ _ _) ⟨g0, off0, none⟩ ((K.take d).map (rK L)) d cl rfl (HTl.out d hdl) (rs_takeQ HL9.out d) (by omega) (Nat.le_refl _) ?_; intro v7 w7 ho7 hg7; have HO7 := hide' ho7; have HG7 := hide' (grown_trans (grown_drewN w9 1 none) hg7); clear ho7 hg7
      refine hK.out (Act.put _ (some 133) v7) _ trivial (fun hHeld => ?_)
      clear hK K_
      try simp only [Act.put, List.setIfInBounds_toArray, List.set_cons_zero, List.set_cons_succ]
      refine wpAnyH_ready (rs := [8]) (by kernel_rfl) (by simp) ?_
      refine AllReadyH.cons rfl (fun K_ hK => ?_) AllReadyH.nil
      refine step_append_recsQ rfl _ _ rfl w9.heap.size v7 (0 + d) ([] ++ rce5 ((K.take d).map (rK L))) rfl HO7.out Ad ((K.drop (d + 1)).map (rK L)) (K.length - (d + 1)) (cl - (d + 1)) rfl (HDl.out d) (rs_dropQ HL9.out HG7.out HAd.out) (by omega) (by have := HG7.out.size; simpa using this) ?_; intro v8 w8 ho8 hg8; have HO8 := hide' ho8; have HG8 := hide' hg8; clear ho8 hg8
      refine hK.out (Act.put _ (some 138) v8) _ trivial (fun hHeld => ?_)
      clear hK K_
      try simp only [Act.put, List.setIfInBounds_toArray, List.set_cons_zero, List.set_cons_succ]
      obtain ⟨p8, c8, hv8, hn8, hr8⟩ := HNx.out _ v8 (by simpa using HO8.out) (below_twoQ (b := 0) HG7.out HO7.out HG8.out)
      subst hv8
      refine takeD 9 (some 6) (.slice p8 (K.eraseIdx d).length c8) rfl rfl (by kernel_rfl) (by kernel_rfl) (by kernel_rfl) (fun _ _ _ h => h) (Or.inl ⟨by rfl, ?_⟩) (by assumption) ?_
      · intro w hSw; (try dsimp only at hSw); go_simp <;> (intros; omega)
      simp only [Act.put, List.setIfInBounds_toArray, List.set_cons_zero, List.set_cons_succ]
      refine wpAnyH_done (by kernel_rfl) ?_ _
      have HE := hide' (fun y18 y19 y21 y89 y90 y91 y92 y93 y94 y95 y96 y97 y98 y99 y100 y101 y102 y103 y104 y105 y106 y107 y108 y109 y110 y111 y112 y113 y114 y115 y116 y117 y118 y119 y120 y121 y122 y123 y124 y125 y126 y127 y128 y129 y130 y131 y132 y133 y134 y135 y136 y137 y138 y139 => HKK.out d p8 q9 (some Adz) c8 c9 (cz - 1) Z _ y18 y19 y21 y89 y90 y91 y92 y93 y94 y95 y96 y97 y98 y99 y100 y101 y102 y103 y104 y105 y106 y107 y108 y109 y110 y111 y112 y113 y114 y115 y116 y117 y118 y119 y120 y121 y122 y123 y124 y125 y126 y127 y128 y129 y130 y131 y132 y133 y134 y135 y136 y137 y138 y139 hdl hn8 HZn.out HZt.out HZl.out hr8)
      clear hr8 hn8
      refine NoPanic.normal ?_
      go_wp2_with fail
      exact HE.out _ _ _ _ _ _ _ _ _ _ _ _ _ _ _ _ _ _ _ _ _ _ _ _ _ _ _ _ _ _ _ _ _ _ _ _ _ _ _ _ _ _ _ _ _ _ _ _ _ _ _ _ _ _
    · have hgd : decide (mo ≤ st + wv) = false := decide_eq_false hge
      have hj2 : j + 1 < RW.length := by
        rcases Nat.lt_or_ge (j + 1) RW.length with h | h
        · exact h
        · exfalso
          have e1 : j + 1 = RW.length := by omega
          have := HEnd.out e1
          rw [HTk.out] at this
          omega
      go_wp2_with (go_at_call 27; (with_reducible refine (HN1.out _).mono ?_); rintro e w6 ⟨rfl, hw6⟩; have hw6' := hw6.symm; subst hw6')
      have HJn : Hid (j + 1 = 0 ∨ smP (wK L) K (RW.take (j + 1)) < mo) := by unfold Hid; rw [HTk.out]; omega
      have hrl := HRl2.out
      exact ⟨⟨j + 1, rfl, rfl, by go_num, hj2, by rw [HTk.out], HJn, by first | exact trivial | rfl⟩, by simp [intOf]; omega⟩
set_option maxRecDepth 100000 in
set_option maxHeartbeats 8000000 in
theorem draw_pos (Q : Exit → Act → World → Prop) (w wB : World) (b0 g0 off0 cl oc gr rc : Nat) (oq : Option Addr) (L : List Rn) (xs : List Int) (T K O : List Nat) (m : Int) (gz oz cz zn : Nat) (z : Int) (Z : List Int) (HZN : Hid (zn = (z :: Z).length)) (hL : L.length ≤ 1048576) (hKL : K.length ≤ L.length) (h0 : 0 < K.length) (HXB : Hid (∀ x ∈ xs, -9223372036854775808 ≤ x ∧ x ≤ 9223372036854775807)) (HDat : Hid (Dat L)) (HSum : Hid (Sums L)) (RW : List Nat) (HRW : Hid (RW = rowP (pK L) (wK L) m K)) (HM : Hid (leastK (pK L) 65536 K = m)) (HRB : Hid (Ry w b0 L xs T K O (some ⟨g0, off0, none⟩) cl oq oc wB)) (HRl2 : Hid (RW.length ≤ 2 * K.length)) (HRp : Hid (0 < RW.length)) (HCel : Hid (∀ j, j < RW.length → wB.cell? ⟨gr, j, none⟩ = some (.int .i64 (ix RW j : Nat)))) (HZ : Hid (z :: Z = xs.drop O.length ∧ ZAt w w.heap.size (some ⟨gz, oz, none⟩) (z :: Z) ∧ (z :: Z).length ≤ cz)) (hzn : ¬ z < 0)
    (x0 x2 x3 x4 x5 x8 x9 x10 x11 x14 x15 x16 x17 x19 x20 x21 x22 x23 x24 x25 x26 x27 x28 x29 x30 x31 x32 x33 x34 x35 x36 x37 x38 x39 x40 x41 x42 x43 x44 x45 x46 x47 x48 x49 x50 x51 x52 x53 x54 x55 x56 x57 x58 x59 x60 x61 x62 x63 x64 x65 x66 x67 x68 x69 x70 x71 x72 x73 x74 x75 x76 x77 x78 x79 x80 x81 x82 x83 x84 x85 x86 x87 x88 x89 x90 x91 x92 x93 x94 x95 x96 x97 x98 x99 x100 x101 x102 x103 x104 x105 x106 x107 x108 x109 x110 x111 x112 x113 x114 x115 x116 x117 x118 x119 x120 x121 x122 x123 x124 x125 x126 x127 x128 x129 x130 x131 x132 x133 x134 x135 x136 x137 x138 x139 x140 : Value)
    (HKK : Hid (∀ (d : Nat) (p8 q9 pz2 : Option Addr) (c8 c9 cz2 : Nat) (Z2 : List Int) (w8 : World) (y18 y19 y21 y89 y90 y91 y92 y93 y94 y95 y96 y97 y98 y99 y100 y101 y102 y103 y104 y105 y106 y107 y108 y109 y110 y111 y112 y113 y114 y115 y116 y117 y118 y119 y120 y121 y122 y123 y124 y125 y126 y127 y128 y129 y130 y131 y132 y133 y134 y135 y136 y137 y138 y139 : Value), d < K.length → (p8 = none → c8 = 0) → Z2 = xs.drop (O.length + 1) → ZAt w w.heap.size pz2 Z2 → Z2.length ≤ cz2 → Ry w b0 L xs T (K.eraseIdx d) (O ++ [ix K d]) p8 c8 q9 c9 w8 → Q .normal ⟨List.toArray (x0 :: (.slice pz2 Z2.length cz2 : Value) :: x2 :: x3 :: x4 :: x5 :: (.slice p8 (K.eraseIdx d).length c8 : Value) :: (.slice q9 (O.length + 1) c9 : Value) :: x8 :: x9 :: x10 :: x11 :: (.slice (some ⟨gr, 0, none⟩) RW.length rc : Value) :: (.int .i64 (smP (wK L) K RW) : Value) :: x14 :: x15 :: x16 :: x17 :: y18 :: y19 :: x20 :: y21 :: x22 :: x23 :: x24 :: x25 :: x26 :: x27 :: x28 :: x29 :: x30 :: x31 :: x32 :: x33 :: x34 :: x35 :: x36 :: x37 :: x38 :: x39 :: x40 :: x41 :: x42 :: x43 :: x44 :: x45 :: x46 :: x47 :: x48 :: x49 :: x50 :: x51 :: x52 :: x53 :: x54 :: x55 :: x56 :: x57 :: x58 :: x59 :: x60 :: x61 :: x62 :: x63 :: x64 :: x65 :: x66 :: x67 :: x68 :: x69 :: x70 :: x71 :: x72 :: x73 :: x74 :: x75 :: x76 :: x77 :: x78 :: x79 :: x80 :: x81 :: x82 :: x83 :: x84 :: x85 :: x86 :: x87 :: x88 :: y89 :: y90 :: y91 :: y92 :: y93 :: y94 :: y95 :: y96 :: y97 :: y98 :: y99 :: y100 :: y101 :: y102 :: y103 :: y104 :: y105 :: y106 :: y107 :: y108 :: y109 :: y110 :: y111 :: y112 :: y113 :: y114 :: y115 :: y116 :: y117 :: y118 :: y119 :: y120 :: y121 :: y122 :: y123 :: y124 :: y125 :: y126 :: y127 :: y128 :: y129 :: y130 :: y131 :: y132 :: y133 :: y134 :: y135 :: y136 :: y137 :: y138 :: y139 :: x140 :: []), []⟩ w8)) :
    Code.wp Tryz.prog (((Tryz.f7.body.map (tailsN 29)).getD []).getD 0 .skip) Q ⟨List.toArray (x0 :: (.slice (some ⟨gz, oz, none⟩) zn cz : Value) :: x2 :: x3 :: x4 :: x5 :: (.slice (some ⟨g0, off0, none⟩) K.length cl : Value) :: (.slice oq O.length oc : Value) :: x8 :: x9 :: x10 :: x11 :: (.slice (some ⟨gr, 0, none⟩) RW.length rc : Value) :: (.int .i64 (smP (wK L) K RW) : Value) :: x14 :: x15 :: x16 :: x17 :: (.int .i64 0 : Value) :: x19 :: x20 :: x21 :: x22 :: x23 :: x24 :: x25 :: x26 :: x27 :: x28 :: x29 :: x30 :: x31 :: x32 :: x33 :: x34 :: x35 :: x36 :: x37 :: x38 :: x39 :: x40 :: x41 :: x42 :: x43 :: x44 :: x45 :: x46 :: x47 :: x48 :: x49 :: x50 :: x51 :: x52 :: x53 :: x54 :: x55 :: x56 :: x57 :: x58 :: x59 :: x60 :: x61 :: x62 :: x63 :: x64 :: x65 :: x66 :: x67 :: x68 :: x69 :: x70 :: x71 :: x72 :: x73 :: x74 :: x75 :: x76 :: x77 :: x78 :: x79 :: x80 :: x81 :: x82 :: x83 :: x84 :: x85 :: x86 :: x87 :: x88 :: x89 :: x90 :: x91 :: x92 :: x93 :: x94 :: x95 :: x96 :: x97 :: x98 :: x99 :: x100 :: x101 :: x102 :: x103 :: x104 :: x105 :: x106 :: x107 :: x108 :: x109 :: x110 :: x111 :: x112 :: x113 :: x114 :: x115 :: x116 :: x117 :: x118 :: x119 :: x120 :: x121 :: x122 :: x123 :: x124 :: x125 :: x126 :: x127 :: x128 :: x129 :: x130 :: x131 :: x132 :: x133 :: x134 :: x135 :: x136 :: x137 :: x138 :: x139 :: x140 :: []), []⟩ wB := by
  have hRWl : RW.length ≤ 2097152 := by have := HRl2.out; omega
  have hsb := HSum.out K RW (by have := HRl2.out; omega)
  obtain ⟨sm, hsm⟩ : ∃ s, smP (wK L) K RW = s := ⟨_, rfl⟩
  have HSe := hide' hsm
  rw [hsm] at hsb
  rw [hsm] at HKK ⊢
  clear hsm
  have es1 : IntKind.i64.wrap (sm + 1) = sm + 1 := by rw [IntKind.wrap_i64]; omega
  have es0 : ¬ sm + 1 = 0 := by omega
  have es0b : (sm + 1 == 0) = false := by rw [beq_eq_false_iff_ne]; exact es0
  have HTl : Hid (∀ d, d < K.length → d = ((K.take d).map (rK L)).length) := fun d hd => by rw [List.length_map, List.length_take]; omega
  have HDl : Hid (∀ d, K.length - (d + 1) = ((K.drop (d + 1)).map (rK L)).length) := fun d => by rw [List.length_map, List.length_drop]
  obtain ⟨hrl0, hZ1, hzm⟩ := rl_cons HZ.out.1
  have HRl := hide' hrl0
  have HZn := hide' hZ1
  have HZb := hide' (HXB.out z hzm)
  obtain ⟨gz', oz', hpz, hgz, hcz⟩ := HZ.out.2.1 0 (by simp)
  injection hpz with hpz
  injection hpz with e1 e2
  subst e1 e2
  have hcz2 : wB.cell? ⟨gz, oz, none⟩ = some (.int .i64 z) := by
    rw [HRB.out.bl.cell (p := ⟨gz, oz, none⟩) hgz]
    simpa using hcz
  obtain ⟨Adz, hAz, hslz⟩ := run_fromI gz oz (z :: Z).length cz (by simp) HZ.out.2.2
  have HZt := hide' (zat_tail HZ.out.2.1 hAz)
  have HZl : Hid (Z.length ≤ cz - 1) := by unfold Hid; have := HZ.out.2.2; simp at this; omega
  have hslz' : ∀ W : World, (Instr.slice 23 (.slice (some ⟨gz, oz, none⟩) zn cz) (some (.int .i64 1)) none none).run Tryz.prog W = .ok (.slice (some Adz) Z.length (cz - 1)) W := by rw [HZN.out]; exact hslz
  have hzl : (0 : Int) < (zn : Int) := by rw [HZN.out, List.length_cons]; omega
  have pz0 : (0 : Int) < (0 : Int) + 1 := by omega
  clear hrl0 hZ1 hzm hcz hAz hslz pz0
  have hrb : 0 ≤ z ∧ z ≤ 9223372036854775807 := by have := rlN_ok HXB.out O.length; rw [HRl.out, if_neg hzn] at this; exact this
  obtain ⟨mo, hmo⟩ : ∃ q, z.tmod (sm + 1) = q := ⟨_, rfl⟩
  have hmb : 0 ≤ mo ∧ mo ≤ sm := by
    rw [← hmo, Int.tmod_eq_emod_of_nonneg hrb.1]
    have h1 := Int.emod_nonneg z (show sm + 1 ≠ 0 by omega)
    have h2 := Int.emod_lt_of_pos z (show 0 < sm + 1 by omega)
    omega
  have HMo : Hid (mo = rlN xs O.length % (smP (wK L) K RW + 1)) := by
    unfold Hid
    rw [HRl.out, if_neg hzn, HSe.out, ← hmo, Int.tmod_eq_emod_of_nonneg hrb.1]
  have emo : IntKind.i64.wrap mo = mo := by rw [IntKind.wrap_i64]; omega
  have HPlA : Hid (∀ j, j < RW.length → mo ≤ smP (wK L) K (RW.take (j + 1)) → (j = 0 ∨ smP (wK L) K (RW.take j) < mo) → ix K (ix RW j) = drawn (wK L) (rlN xs O.length) (rowK (pK L) (wK L) m K)) := fun j hj h1 h2 => by
    have e := HRW.out
    subst e
    exact drawn_place (P := pK L) (W := wK L) (K := K) (m := m) (z := rlN xs O.length) (t := mo) (i := j) (fun k => (wK_ok L k).1) hj HMo.out h1 h2
  have HLtA : Hid (∀ j, j < RW.length → ix RW j < K.length) := fun j hj => by
    have e := HRW.out
    subst e
    rw [← ix_get hj]; exact rowP_lt (List.getElem_mem hj)
  conv => arg 2; whnf
  go_wp2_with fail
  go_loopw [6, 7, 19, 108] (fun lv ov sv kv wr => ∃ j : Nat, lv = .slice (some ⟨g0, off0, none⟩) K.length cl ∧ ov = .slice oq O.length oc ∧ kv = .int .i64 (j : Int) ∧ j < RW.length ∧ sv = .int .i64 (smP (wK L) K (RW.take j)) ∧ Hid (j = 0 ∨ smP (wK L) K (RW.take j) < mo) ∧ Hid (wr = wB)) (fun _ _ _ kv _ => RW.length - (intOf kv).toNat)
  case atStart => exact ⟨0, rfl, rfl, rfl, HRp.out, rfl, Or.inl rfl, rfl⟩
  case round =>
    obtain ⟨j, rfl, rfl, rfl, hj, rfl, HJ, HWr⟩ := hrel
    have hwr := HWr.out
    subst hwr
    have pj0 : (0 : Int) ≤ (j : Int) := by omega
    have pj : (j : Int) < (RW.length : Int) := by omega
    have hcj := HCel.out j hj
    have hdl := HLtA.out j hj
    have HTk := hide' (show smP (wK L) K (RW.take (j + 1)) = smP (wK L) K (RW.take j) + wK L (ix K (ix RW j)) by rw [List.take_succ_eq_append_getElem hj, smP_snoc, ix_get hj])
    have HPl := hide' (HPlA.out j hj)
    have HEnd : Hid (j + 1 = RW.length → smP (wK L) K (RW.take (j + 1)) = sm) := fun e => by rw [e, List.take_length]; exact HSe.out
    have hst := HSum.out K (RW.take j) (by rw [List.length_take]; have := HRl2.out; omega)
    obtain ⟨d, hd⟩ : ∃ d, ix RW j = d := ⟨_, rfl⟩
    rw [hd] at hcj hdl HTk HPl
    clear hd
    obtain ⟨g2, off2, hpl2, hil, xo, xt, xc, xl, xd, hx, c0, c1, c2, c3, c4⟩ := HRB.out.at hdl
    injection hpl2 with hpl2
    injection hpl2 with e1 e2
    subst e1 e2
    obtain ⟨hd4, hpv, hwv⟩ := HDat.out hil hx
    have HN1 := hide' (fun V => number1_any xd V hd4)
    rw [← hwv] at HN1
    have hwb := wK_ok L (ix K d)
    have HXd := hide' hx
    obtain ⟨wv, hwv'⟩ : ∃ q, wK L (ix K d) = q := ⟨_, rfl⟩
    rw [hwv'] at HN1 HTk hwb
    obtain ⟨st, hst'⟩ : ∃ q, smP (wK L) K (RW.take j) = q := ⟨_, rfl⟩
    rw [hst'] at HTk HJ HPl hst ⊢
    clear hx hpv hwv hwv' hst'
    have ea : IntKind.i64.wrap (st + wv) = st + wv := by rw [IntKind.wrap_i64]; omega
    have pd0 : (0 : Int) ≤ (d : Int) := by omega
    have pd : (d : Int) < (K.length : Int) := by omega
    by_cases hge : mo ≤ st + wv
    · have HDr := hide' (HPl.out (by rw [HTk.out]; exact hge) HJ.out)
      have hgd : decide (mo ≤ st + wv) = true := decide_eq_true hge
      obtain ⟨wb, hwb2⟩ : ∃ wb, wr.alloc (.cells #[.string xo, .int .i64 xt, .int .i64 xc, .int .i64 xl, .string xd] 42) = wb := ⟨_, rfl⟩
      have HRb := hide' (HRB.out.below (alloc_belQ hwb2))
      have HRs := hide' (rs_newQ hwb2)
      have HL1 : Hid (O.length + 1 ≤ 10000000) := by unfold Hid; have := HRB.out.ln; omega
      have ed : IntKind.i64.wrap ((d : Int) + 1) = ((d + 1 : Nat) : Int) := by rw [IntKind.wrap_i64]; omega
      have pcl : (d : Int) ≤ (cl : Int) := by have := HRB.out.lc; omega
      have pc2 : (K.length : Int) ≤ (cl : Int) := by have := HRB.out.lc; omega
      obtain ⟨Ad, hAd, HAd⟩ : ∃ Ad : Addr, (if cl = d + 1 then some (⟨g0, off0, none⟩ : Addr) else some ⟨g0, off0 + (d + 1) * 5, none⟩) = some Ad ∧ Hid (d + 1 < K.length → Ad = ⟨g0, off0 + (d + 1) * 5, none⟩) := by
        by_cases hcl : cl = d + 1
        · exact ⟨_, by rw [if_pos hcl], fun h => by exfalso; have := HRB.out.lc; omega⟩
        · exact ⟨_, by rw [if_neg hcl], fun _ => rfl⟩
      have ps0 : (0 : Int) ≤ (d : Int) + 1 := by omega
      have ps1 : (d : Int) + 1 ≤ (K.length : Int) := by omega
      go_wp2_with (first
        | (go_at_call 27; (with_reducible refine (HN1.out _).mono ?_); rintro e w6 ⟨rfl, hw6⟩; have hw6' := hw6.symm; subst hw6')
        | (at_builtin; refine wpList_append_recA rfl _ _ rfl b0 _ O.length (rce5 (O.map (rK L))) rfl HRb.out.ow ⟨wr.heap.size, 0, none⟩ [⟨xo, xt, xc, xl, xd⟩] 1 rfl HRs.out HL1.out HRb.out.gb.2 ?_; intro v9 w9 ho9 hg9 hp9; obtain ⟨q9, c9, hv9, hl9, how9, hbl9, hsz9, hq9⟩ := HRb.out.put hdl (by rw [HXd.out]; exact ho9) hg9 hp9; subst hv9; have HL9 := hide' hl9; have HB9 := hide' (Nat.le_trans HRb.out.gb.2 hsz9); have HNx := hide' (fun (w3 : World) (v8 : Value) h8 hb3 => HRb.out.next hdl (by rw [HM.out]; exact HDr.out) how9 hbl9 HB9.out hq9 (w3 := w3) (v8 := v8) h8 hb3); clear ho9 hg9 hp9 hl9 how9 hbl9 hsz9 hq9 c0 c1 c2 c3 c4 hwb2))
      refine wp_region_noPanic ?_
      refine wp_region_held_drew (S := fun _ => True) (by kernel_rfl) ?_ (fun hHeld => ?_)
      · trivial
      refine takeD 0 (some 130) (.slice (some ⟨g0, off0, none⟩) K.length cl) rfl rfl (by kernel_rfl) (by kernel_rfl) (by kernel_rfl) (fun _ _ _ h => h) (Or.inl ⟨by rfl, ?_⟩) (by assumption) ?_
      · intro w hSw; (try dsimp only at hSw); go_simp <;> (intros; omega)
      simp only [Act.put, List.setIfInBounds_toArray, List.set_cons_zero, List.set_cons_succ]
      refine takeD 1 (some 131) (.int .i64 (d : Int)) rfl rfl (by kernel_rfl) (by kernel_rfl) (by kernel_rfl) (fun _ _ _ h => h) (Or.inl ⟨by rfl, ?_⟩) (by assumption) ?_
      · intro w hSw; (try dsimp only at hSw); go_simp <;> (intros; omega)
      simp only [Act.put, List.setIfInBounds_toArray, List.set_cons_zero, List.set_cons_succ]
      refine takeD 2 (some 132) (.slice (some ⟨g0, off0, none⟩) d cl) rfl rfl (by kernel_rfl) (by kernel_rfl) (by kernel_rfl) (fun _ _ _ h => h) (Or.inl ⟨by rfl, ?_⟩) (by assumption) ?_
      · intro w hSw; (try dsimp only at hSw); go_simp <;> (intros; omega)
      simp only [Act.put, List.setIfInBounds_toArray, List.set_cons_zero, List.set_cons_succ]
      refine takeD 4 (some 134) (.slice (some ⟨g0, off0, none⟩) K.length cl) rfl rfl (by kernel_rfl) (by kernel_rfl) (by kernel_rfl) (fun _ _ _ h => h) (Or.inl ⟨by rfl, ?_⟩) (by assumption) ?_
      · intro w hSw; (try dsimp only at hSw); go_simp <;> (intros; omega)
      simp only [Act.put, List.setIfInBounds_toArray, List.set_cons_zero, List.set_cons_succ]
      refine takeD 5 (some 135) (.int .i64 (d : Int)) rfl rfl (by kernel_rfl) (by kernel_rfl) (by kernel_rfl) (fun _ _ _ h => h) (Or.inl ⟨by rfl, ?_⟩) (by assumption) ?_
      · intro w hSw; (try dsimp only at hSw); go_simp <;> (intros; omega)
      simp only [Act.put, List.setIfInBounds_toArray, List.set_cons_zero, List.set_cons_succ]
      refine takeD 6 (some 136) (.int .i64 ((d : Int) + 1)) rfl rfl (by kernel_rfl) (by kernel_rfl) (by kernel_rfl) (fun _ _ _ h => h) (Or.inl ⟨by rfl, ?_⟩) (by assumption) ?_
      · intro w hSw; (try dsimp only at hSw); go_simp <;> (intros; omega)
      simp only [Act.put, List.setIfInBounds_toArray, List.set_cons_zero, List.set_cons_succ]
      refine takeD 7 (some 137) (.slice (some Ad) (K.length - (d + 1)) (cl - (d + 1))) rfl rfl (by kernel_rfl) (by kernel_rfl) (by kernel_rfl) (fun _ _ _ h => h) (Or.inl ⟨by rfl, ?_⟩) (by assumption) ?_
      · intro w hSw; (try dsimp only at hSw); go_simp <;> (intros; omega)
      simp only [Act.put, List.setIfInBounds_toArray, List.set_cons_zero, List.set_cons_succ]
      refine wpAnyH_ready (rs := [3]) (by kernel_rfl) (by simp) ?_
      refine AllReadyH.cons rfl (fun K_ hK => ?_) AllReadyH.nil
      refine step_append_recsQ rfl _ _ rfl w9.heap.size (.slice none 0 0) 0 [] rfl (World.ownsRow_nil _ _ _ _) ⟨g0, off0, none⟩ ((K.take d).map (rK L)) d cl rfl (HTl.out d hdl) (rs_takeQ HL9.out d) (by omega) (Nat.le_refl _) ?_; intro v7 w7 ho7 hg7; have HO7 := hide' ho7; have HG7 := hide' (grown_trans (grown_drewN w9 1 none) hg7); clear ho7 hg7
      refine hK.out (Act.put _ (some 133) v7) _ trivial (fun hHeld => ?_)
      clear hK K_
      try simp only [Act.put, List.setIfInBounds_toArray, List.set_cons_zero, List.set_cons_succ]
      refine wpAnyH_ready (rs := [8]) (by kernel_rfl) (by simp) ?_
      refine AllReadyH.cons rfl (fun K_ hK => ?_) AllReadyH.nil
      refine step_append_recsQ rfl _ _ rfl w9.heap.size v7 (0 + d) ([] ++ rce5 ((K.take d).map (rK L))) rfl HO7.out Ad ((K.drop (d + 1)).map (rK L)) (K.length - (d + 1)) (cl - (d + 1)) rfl (HDl.out d) (rs_dropQ HL9.out HG7.out HAd.out) (by omega) (by have := HG7.out.size; simpa using this) ?_; intro v8 w8 ho8 hg8; have HO8 := hide' ho8; have HG8 := hide' hg8; clear ho8 hg8
      refine hK.out (Act.put _ (some 138) v8) _ trivial (fun hHeld => ?_)
      clear hK K_
      try simp only [Act.put, List.setIfInBounds_toArray, List.set_cons_zero, List.set_cons_succ]
      obtain ⟨p8, c8, hv8, hn8, hr8⟩ := HNx.out _ v8 (by simpa using HO8.out) (below_twoQ (b := 0) HG7.out HO7.out HG8.out)
      subst hv8
      refine takeD 9 (some 6) (.slice p8 (K.eraseIdx d).length c8) rfl rfl (by kernel_rfl) (by kernel_rfl) (by kernel_rfl) (fun _ _ _ h => h) (Or.inl ⟨by rfl, ?_⟩) (by assumption) ?_
      · intro w hSw; (try dsimp only at hSw); go_simp <;> (intros; omega)
      simp only [Act.put, List.setIfInBounds_toArray, List.set_cons_zero, List.set_cons_succ]
      refine wpAnyH_done (by kernel_rfl) ?_ _
      have HE := hide' (fun y18 y19 y21 y89 y90 y91 y92 y93 y94 y95 y96 y97 y98 y99 y100 y101 y102 y103 y104 y105 y106 y107 y108 y109 y110 y111 y112 y113 y114 y115 y116 y117 y118 y119 y120 y121 y122 y123 y124 y125 y126 y127 y128 y129 y130 y131 y132 y133 y134 y135 y136 y137 y138 y139 => HKK.out d p8 q9 (some Adz) c8 c9 (cz - 1) Z _ y18 y19 y21 y89 y90 y91 y92 y93 y94 y95 y96 y97 y98 y99 y100 y101 y102 y103 y104 y105 y106 y107 y108 y109 y110 y111 y112 y113 y114 y115 y116 y117 y118 y119 y120 y121 y122 y123 y124 y125 y126 y127 y128 y129 y130 y131 y132 y133 y134 y135 y136 y137 y138 y139 hdl hn8 HZn.out HZt.out HZl.out hr8)
      clear hr8 hn8
      refine NoPanic.normal ?_
      go_wp2_with fail
      exact HE.out _ _ _ _ _ _ _ _ _ _ _ _ _ _ _ _ _ _ _ _ _ _ _ _ _ _ _ _ _ _ _ _ _ _ _ _ _ _ _ _ _ _ _ _ _ _ _ _ _ _ _ _ _ _
    · have hgd : decide (mo ≤ st + wv) = false := decide_eq_false hge
      have hj2 : j + 1 < RW.length := by
        rcases Nat.lt_or_ge (j + 1) RW.length with h | h
        · exact h
        · exfalso
          have e1 : j + 1 = RW.length := by omega
          have := HEnd.out e1
          rw [HTk.out] at this
          omega
      go_wp2_with (go_at_call 27; (with_reducible refine (HN1.out _).mono ?_); rintro e w6 ⟨rfl, hw6⟩; have hw6' := hw6.symm; subst hw6')
      have HJn : Hid (j + 1 = 0 ∨ smP (wK L) K (RW.take (j + 1)) < mo) := by unfold Hid; rw [HTk.out]; omega
      have hrl := HRl2.out
      exact ⟨⟨j + 1, rfl, rfl, by go_num, hj2, by rw [HTk.out], HJn, by first | exact trivial | rfl⟩, by simp [intOf]; omega⟩
end Go.Proofs.YtelboefeomnjaaaGreat

/-
  Proofs: the reference's Order: those that are left. (The verifier's own text; mkqo5.py.)
-/
namespace Go.Proofs.YtelboefeomnjaaaGreat
set_option linter.unusedVariables false
set_option linter.unusedSimpArgs false
open Go.RowKit Go.Shelf Go.Maps Go.Proofs.YtelboefeomnjaaaGreat.Nm Go.Proofs.YtelboefeomnjaaaGreat.Zs

set_option maxRecDepth 100000 in
set_option maxHeartbeats 16000000 in
theorem rorder_loop (w w2 : World) (b0 : Nat) (L : List Rn) (xs : List Int) (T : List Nat) (px pl : Option Addr) (cx cl : Nat) (hL : L.length ≤ 1048576) (HPl0 : Hid (pl = none → cl = 0)) (HXB : Hid (∀ x ∈ xs, -9223372036854775808 ≤ x ∧ x ≤ 9223372036854775807)) (HDat : Hid (Dat L)) (HSum : Hid (Sums L)) (HZX : Hid (ZAt w w.heap.size px xs)) (hxc : xs.length ≤ cx) (HS2 : Hid (Ry w b0 L xs T (List.range L.length) [] pl cl none 0 w2))
    (HFin : Hid (∀ (b0 : Nat) (oq : Option Addr) (oc : Nat) (pl : Option Addr) (cl : Nat) (wr : World) (O : List Nat), Ry w b0 L xs T [] O pl cl oq oc wr → OrX L xs w (.returned (.tuple #[.slice oq O.length oc, .int .i64 0])) wr))
    (x0 x2 x3 x4 x5 x8 x9 x10 x11 x12 x13 x14 x15 x16 x17 x18 x19 x20 x21 x22 x23 x24 x25 x26 x27 x28 x29 x30 x31 x32 x33 x34 x35 x36 x37 x38 x39 x40 x41 x42 x43 x44 x45 x46 x47 x48 x49 x50 x51 x52 x53 x54 x55 x56 x57 x58 x59 x60 x61 x62 x63 x64 x65 x66 x67 x68 x69 x70 x71 x72 x73 x74 x75 x76 x77 x78 x79 x80 x81 x82 x83 x84 x85 x86 x87 x88 x89 x90 x91 x92 x93 x94 x95 x96 x97 x98 x99 x100 x101 x102 x103 x104 x105 x106 x107 x108 x109 x110 x111 x112 x113 x114 x115 x116 x117 x118 x119 x120 x121 x122 x123 x124 x125 x126 x127 x128 x129 x130 x131 x132 x133 x134 x135 x136 x137 x138 x139 x140 : Value) :
    Code.wp Tryz.prog (((Tryz.f7.body.map (tailsN 6)).getD []).getD 0 .skip) (bodyPost Tryz.prog Tryz.f7 (OrX L xs w)) ⟨List.toArray (x0 :: (.slice px xs.length cx : Value) :: x2 :: x3 :: x4 :: x5 :: (.slice pl L.length cl : Value) :: (.slice none 0 0 : Value) :: x8 :: x9 :: x10 :: x11 :: x12 :: x13 :: x14 :: x15 :: x16 :: x17 :: x18 :: x19 :: x20 :: x21 :: x22 :: x23 :: x24 :: x25 :: x26 :: x27 :: x28 :: x29 :: x30 :: x31 :: x32 :: x33 :: x34 :: x35 :: x36 :: x37 :: x38 :: x39 :: x40 :: x41 :: x42 :: x43 :: x44 :: x45 :: x46 :: x47 :: x48 :: x49 :: x50 :: x51 :: x52 :: x53 :: x54 :: x55 :: x56 :: x57 :: x58 :: x59 :: x60 :: x61 :: x62 :: x63 :: x64 :: x65 :: x66 :: x67 :: x68 :: x69 :: x70 :: x71 :: x72 :: x73 :: x74 :: x75 :: x76 :: x77 :: x78 :: x79 :: x80 :: x81 :: x82 :: x83 :: x84 :: x85 :: x86 :: x87 :: x88 :: x89 :: x90 :: x91 :: x92 :: x93 :: x94 :: x95 :: x96 :: x97 :: x98 :: x99 :: x100 :: x101 :: x102 :: x103 :: x104 :: x105 :: x106 :: x107 :: x108 :: x109 :: x110 :: x111 :: x112 :: x113 :: x114 :: x115 :: x116 :: x117 :: x118 :: x119 :: x120 :: x121 :: x122 :: x123 :: x124 :: x125 :: x126 :: x127 :: x128 :: x129 :: x130 :: x131 :: x132 :: x133 :: x134 :: x135 :: x136 :: x137 :: x138 :: x139 :: x140 :: []), []⟩ w2 := by
  conv => arg 2; whnf
  go_wp2_with fail
  go_loopw [1, 6, 7] (fun zv lv ov wr => ∃ (K O : List Nat) (pl : Option Addr) (cl : Nat) (oq : Option Addr) (oc : Nat) (pz : Option Addr) (cz : Nat) (Z : List Int), zv = .slice pz Z.length cz ∧ lv = .slice pl K.length cl ∧ ov = .slice oq O.length oc ∧ K.length ≤ L.length ∧ Hid (pl = none → cl = 0) ∧ Hid (Z = xs.drop O.length ∧ ZAt w w.heap.size pz Z ∧ Z.length ≤ cz) ∧ Hid (Ry w b0 L xs T K O pl cl oq oc wr)) (fun _ lv _ _ => lnQ lv)
  case atStart => exact ⟨List.range L.length, [], pl, cl, none, 0, px, cx, xs, rfl, by rw [List.length_range], rfl, by rw [List.length_range]; exact Nat.le_refl _, HPl0, ⟨rfl, HZX.out, hxc⟩, HS2⟩
  case round =>
    obtain ⟨K, O, pl, cl, oq, oc, pz, cz, Z, rfl, rfl, rfl, hKL, HPn, HZ, HR⟩ := hrel
    rcases Nat.eq_zero_or_pos K.length with h0 | h0
    · have hK0 : K = [] := List.eq_nil_of_length_eq_zero h0
      subst hK0
      have HE2 := hide' (HFin.out _ oq oc pl cl wr O HR.out)
      go_wp2_with fail
      go_ret2
      exact HE2.out
    · obtain ⟨wo, hwo⟩ : ∃ wo, wo = wr := ⟨_, rfl⟩
      rw [← hwo] at HR ⊢
      clear hwo
      obtain ⟨g0, off0, hpl0, -⟩ := HR.out.at h0
      subst hpl0
      have pk0 : (0 : Int) < (K.length : Int) := by omega
      go_wp2_with fail
      go_loopw [8, 43] (fun mv kv wr => ∃ j : Nat, kv = .int .i64 (j : Int) ∧ j ≤ K.length ∧ mv = .int .i64 (lsK (pK L) K j) ∧ Hid (Below wo.heap.size wo wr)) (fun _ kv _ => K.length - (intOf kv).toNat)
      case atStart => exact ⟨0, rfl, Nat.zero_le _, rfl, Below.refl _ _⟩
      case round =>
        obtain ⟨j, rfl, hj, rfl, HBa⟩ := hrel
        have pj0 : (0 : Int) ≤ (j : Int) := by omega
        by_cases hlt : j < K.length
        · have pj : (j : Int) < (K.length : Int) := by omega
          obtain ⟨g2, off2, hpl2, hil, xo, xt, xc, xl, xd, hx, c0, c1, c2, c3, c4⟩ := (HR.out.below HBa.out).at hlt
          injection hpl2 with hpl2
          injection hpl2 with e1 e2
          subst e1 e2
          obtain ⟨hd4, hpv, hwv⟩ := HDat.out hil hx
          have HN0 := hide' (fun V => number0_any xd V (by omega))
          rw [← hpv] at HN0
          have HBn : Hid (∀ o, Below wo.heap.size wo (wr.alloc o)) := fun o => HBa.out.alloc HBa.out.size o
          have HSc := hide' (lsK_succ (P := pK L) hlt)
          clear hx hpv hwv
          generalize pK L (ix K j) = pv at *
          obtain ⟨ls, hls⟩ : ∃ s, lsK (pK L) K j = s := ⟨_, rfl⟩
          rw [hls] at HSc ⊢
          clear hls
          by_cases hlp : pv < ls
          · have HSd : Hid (lsK (pK L) K (j + 1) = pv) := by unfold Hid; rw [HSc.out, if_pos hlp]
            go_wp2_with (go_at_call 27; (with_reducible refine (HN0.out _).mono ?_); rintro e w6 ⟨rfl, hw6⟩; have hw6' := hw6.symm; subst hw6')
            exact ⟨⟨j + 1, by go_num, by omega, by rw [HSd.out], HBn.out _⟩, by simp [intOf]; omega⟩
          · have HSd : Hid (lsK (pK L) K (j + 1) = ls) := by unfold Hid; rw [HSc.out, if_neg hlp]
            go_wp2_with (go_at_call 27; (with_reducible refine (HN0.out _).mono ?_); rintro e w6 ⟨rfl, hw6⟩; have hw6' := hw6.symm; subst hw6')
            exact ⟨⟨j + 1, by go_num, by omega, by rw [HSd.out], HBn.out _⟩, by simp [intOf]; omega⟩
        · obtain rfl : j = K.length := by omega
          obtain ⟨wA, hwA⟩ : ∃ wA, wA = wr := ⟨_, rfl⟩
          rw [← hwA] at HBa ⊢
          clear hwA
          rw [lsK_all]
          obtain ⟨m, hm⟩ : ∃ m, leastK (pK L) 65536 K = m := ⟨_, rfl⟩
          have HM := hide' hm
          rw [hm]
          clear hm
          go_wp2_with fail
          go_loopw [12, 13, 14] (fun rv sv pv wr => ∃ (a : Nat) (A : List Nat) (rp : Option Addr) (rc : Nat), pv = .int .i64 (a : Int) ∧ a ≤ 2 ∧ rv = .slice rp A.length rc ∧ sv = .int .i64 (smP (wK L) K A) ∧ A.length ≤ a * K.length ∧ Hid (A = rowA (pK L) (wK L) m K a) ∧ Hid (wr.ownsRow wo.heap.size 3 1 (.slice rp A.length rc) A.length (inR A)) ∧ Hid (Below wo.heap.size wo wr)) (fun _ _ pv _ => 2 - (intOf pv).toNat)
          case atStart => exact ⟨0, [], none, 0, rfl, by omega, rfl, rfl, by simp, rfl, World.ownsRow_nil _ _ _ _, HBa⟩
          case round =>
            clear HBa
            obtain ⟨a, A, rp, rc, rfl, ha, rfl, rfl, hAl, HAe, HOw, HBa⟩ := hrel
            have ha3 : a = 0 ∨ a = 1 ∨ a = 2 := by omega
            rcases ha3 with rfl | rfl | rfl
            · go_upto_region 21 with fail
              rename_i K_ hK_
              have HK_ := hide' hK_
              clear hK_
              go_wp2_with fail
              refine HK_.out _ _ ?_
              refine pass0_any _ w wo wr b0 g0 off0 cl oc oq L xs T K O A m rp rc hL hKL HDat HSum HR (by omega) HOw HBa _ _ _ _ _ _ _ _ _ _ _ _ _ _ _ _ _ _ _ _ _ _ _ _ _ _ _ _ _ _ _ _ _ _ _ _ _ _ _ _ _ _ _ _ _ _ _ _ _ _ _ _ _ _ _ _ _ _ _ _ _ _ _ _ _ _ _ _ _ _ _ _ _ _ _ _ _ _ _ _ _ _ _ _ _ _ _ _ _ _ _ _ _ _ _ _ _ _ _ _ _ _ _ _ _ _ _ _ _ _ _ _ _ _ _ _ _ _ _ _ _ _ _ _ _ _ _ _ _ _ _ _ _ (fun B rp2 rc2 wB y15 y16 y17 y61 y62 y63 y64 y65 y66 y67 y68 y69 y70 y71 y72 y73 y74 y75 y76 y77 y78 y79 y80 y81 y82 y83 y84 y85 y86 y87 y88 hBe hBl hOw2 hB2 => ?_)
              have HB2 := hide' hB2
              have HO2 := hide' hOw2
              have HBe2 : Hid (B = rowA (pK L) (wK L) m K 1) := by unfold Hid; rw [hBe, HAe.out]; rfl
              clear hBe hOw2 hB2
              go_wp2_with fail
              exact ⟨⟨1, B, rp2, rc2, by go_num, by omega, rfl, rfl, by omega, HBe2, HO2, HB2⟩, by simp [intOf]⟩
            · go_upto_region 21 with fail
              rename_i K_ hK_
              have HK_ := hide' hK_
              clear hK_
              go_wp2_with fail
              refine HK_.out _ _ ?_
              refine pass1_any _ w wo wr b0 g0 off0 cl oc oq L xs T K O A m rp rc hL hKL HDat HSum HR (by omega) HOw HBa _ _ _ _ _ _ _ _ _ _ _ _ _ _ _ _ _ _ _ _ _ _ _ _ _ _ _ _ _ _ _ _ _ _ _ _ _ _ _ _ _ _ _ _ _ _ _ _ _ _ _ _ _ _ _ _ _ _ _ _ _ _ _ _ _ _ _ _ _ _ _ _ _ _ _ _ _ _ _ _ _ _ _ _ _ _ _ _ _ _ _ _ _ _ _ _ _ _ _ _ _ _ _ _ _ _ _ _ _ _ _ _ _ _ _ _ _ _ _ _ _ _ _ _ _ _ _ _ _ _ _ _ _ (fun B rp2 rc2 wB y15 y16 y17 y61 y62 y63 y64 y65 y66 y67 y68 y69 y70 y71 y72 y73 y74 y75 y76 y77 y78 y79 y80 y81 y82 y83 y84 y85 y86 y87 y88 hBe hBl hOw2 hB2 => ?_)
              have HB2 := hide' hB2
              have HO2 := hide' hOw2
              have HBe2 : Hid (B = rowA (pK L) (wK L) m K 2) := by unfold Hid; rw [hBe, HAe.out]; rfl
              clear hBe hOw2 hB2
              go_wp2_with fail
              exact ⟨⟨2, B, rp2, rc2, by go_num, by omega, rfl, rfl, by omega, HBe2, HO2, HB2⟩, by simp [intOf]⟩
            · obtain rfl : A = rowP (pK L) (wK L) m K := HAe.out
              obtain ⟨wB, hwB⟩ : ∃ wB, wB = wr := ⟨_, rfl⟩
              rw [← hwB] at HOw HBa ⊢
              clear hwB HAe
              have HRp : Hid (0 < (rowP (pK L) (wK L) m K).length) := by unfold Hid; rw [← HM.out]; exact rowP_pos (fun k => (pK_ok L k).2) h0
              have HRl2 := hide' hAl
              obtain ⟨gr, rc', hrp⟩ := own_somP HOw.out HRp.out
              injection hrp with hrp _ hrc
              subst hrp
              have HCel : Hid (∀ j, j < (rowP (pK L) (wK L) m K).length → wB.cell? ⟨gr, j, none⟩ = some (.int .i64 (ix (rowP (pK L) (wK L) m K) j : Nat))) := fun j hj => by
                rw [HOw.out.cellAt j (by omega)]
                simp [inR, hj, ix_get hj]
              have HRB := hide' (HR.out.below HBa.out)
              have HEl : Hid (∀ d, d < K.length → (K.eraseIdx d).length = K.length - 1) := fun d hd => by rw [List.length_eraseIdx, if_pos hd]
              go_upto_region 29 with fail
              rename_i K_ hK_
              have HK_ := hide' hK_
              clear hK_
              go_wp2_with fail
              refine HK_.out _ _ ?_
              cases Z with
              | nil =>
                refine draw_nil _ w wB b0 g0 off0 cl oc gr _ oq L xs T K O m pz cz hL hKL h0 HXB HDat HSum _ rfl HM HRB HRl2 HRp HCel HZ _ _ _ _ _ _ _ _ _ _ _ _ _ _ _ _ _ _ _ _ _ _ _ _ _ _ _ _ _ _ _ _ _ _ _ _ _ _ _ _ _ _ _ _ _ _ _ _ _ _ _ _ _ _ _ _ _ _ _ _ _ _ _ _ _ _ _ _ _ _ _ _ _ _ _ _ _ _ _ _ _ _ _ _ _ _ _ _ _ _ _ _ _ _ _ _ _ _ _ _ _ _ _ _ _ _ _ _ _ _ _ _ _ _ _ _ _ _ _ _ _ _ _ _ _ _ _ _ _ _ _ _ _ _ _ (fun d p8 q9 pz2 c8 c9 cz2 Z2 w8 y18 y19 y21 y89 y90 y91 y92 y93 y94 y95 y96 y97 y98 y99 y100 y101 y102 y103 y104 y105 y106 y107 y108 y109 y110 y111 y112 y113 y114 y115 y116 y117 y118 y119 y120 y121 y122 y123 y124 y125 y126 y127 y128 y129 y130 y131 y132 y133 y134 y135 y136 y137 y138 y139 hd hn8 hz2 hza hzl hr8 => ?_)
                have HR8 := hide' hr8
                have HN8 := hide' hn8
                have hel := HEl.out d hd
                have HZ2 : Hid (Z2 = xs.drop (O ++ [ix K d]).length ∧ ZAt w w.heap.size pz2 Z2 ∧ Z2.length ≤ cz2) := ⟨by rw [List.length_append]; exact hz2, hza, hzl⟩
                clear hr8 hn8 hz2 hza hzl
                go_wp2_with fail
                exact ⟨⟨K.eraseIdx d, O ++ [ix K d], p8, c8, q9, c9, pz2, cz2, Z2, rfl, rfl, by rw [List.length_append]; rfl, by rw [HEl.out d hd]; omega, HN8, HZ2, HR8⟩, by simp only [lnQ]; rw [HEl.out d hd]; omega⟩
              | cons z Z =>
                obtain ⟨gz, oz, hpz, hgz, hcz⟩ := HZ.out.2.1 0 (by simp)
                subst hpz
                by_cases hzn : z < 0
                · refine draw_neg _ w wB b0 g0 off0 cl oc gr _ oq L xs T K O m gz oz cz (z :: Z).length z Z rfl hL hKL h0 HXB HDat HSum _ rfl HM HRB HRl2 HRp HCel HZ hzn _ _ _ _ _ _ _ _ _ _ _ _ _ _ _ _ _ _ _ _ _ _ _ _ _ _ _ _ _ _ _ _ _ _ _ _ _ _ _ _ _ _ _ _ _ _ _ _ _ _ _ _ _ _ _ _ _ _ _ _ _ _ _ _ _ _ _ _ _ _ _ _ _ _ _ _ _ _ _ _ _ _ _ _ _ _ _ _ _ _ _ _ _ _ _ _ _ _ _ _ _ _ _ _ _ _ _ _ _ _ _ _ _ _ _ _ _ _ _ _ _ _ _ _ _ _ _ _ _ _ _ _ _ _ _ (fun d p8 q9 pz2 c8 c9 cz2 Z2 w8 y18 y19 y21 y89 y90 y91 y92 y93 y94 y95 y96 y97 y98 y99 y100 y101 y102 y103 y104 y105 y106 y107 y108 y109 y110 y111 y112 y113 y114 y115 y116 y117 y118 y119 y120 y121 y122 y123 y124 y125 y126 y127 y128 y129 y130 y131 y132 y133 y134 y135 y136 y137 y138 y139 hd hn8 hz2 hza hzl hr8 => ?_)
                  have HR8 := hide' hr8
                  have HN8 := hide' hn8
                  have hel := HEl.out d hd
                  have HZ2 : Hid (Z2 = xs.drop (O ++ [ix K d]).length ∧ ZAt w w.heap.size pz2 Z2 ∧ Z2.length ≤ cz2) := ⟨by rw [List.length_append]; exact hz2, hza, hzl⟩
                  clear hr8 hn8 hz2 hza hzl
                  go_wp2_with fail
                  exact ⟨⟨K.eraseIdx d, O ++ [ix K d], p8, c8, q9, c9, pz2, cz2, Z2, rfl, rfl, by rw [List.length_append]; rfl, by rw [HEl.out d hd]; omega, HN8, HZ2, HR8⟩, by simp only [lnQ]; rw [HEl.out d hd]; omega⟩
                · refine draw_pos _ w wB b0 g0 off0 cl oc gr _ oq L xs T K O m gz oz cz (z :: Z).length z Z rfl hL hKL h0 HXB HDat HSum _ rfl HM HRB HRl2 HRp HCel HZ hzn _ _ _ _ _ _ _ _ _ _ _ _ _ _ _ _ _ _ _ _ _ _ _ _ _ _ _ _ _ _ _ _ _ _ _ _ _ _ _ _ _ _ _ _ _ _ _ _ _ _ _ _ _ _ _ _ _ _ _ _ _ _ _ _ _ _ _ _ _ _ _ _ _ _ _ _ _ _ _ _ _ _ _ _ _ _ _ _ _ _ _ _ _ _ _ _ _ _ _ _ _ _ _ _ _ _ _ _ _ _ _ _ _ _ _ _ _ _ _ _ _ _ _ _ _ _ _ _ _ _ _ _ _ _ _ (fun d p8 q9 pz2 c8 c9 cz2 Z2 w8 y18 y19 y21 y89 y90 y91 y92 y93 y94 y95 y96 y97 y98 y99 y100 y101 y102 y103 y104 y105 y106 y107 y108 y109 y110 y111 y112 y113 y114 y115 y116 y117 y118 y119 y120 y121 y122 y123 y124 y125 y126 y127 y128 y129 y130 y131 y132 y133 y134 y135 y136 y137 y138 y139 hd hn8 hz2 hza hzl hr8 => ?_)
                  have HR8 := hide' hr8
                  have HN8 := hide' hn8
                  have hel := HEl.out d hd
                  have HZ2 : Hid (Z2 = xs.drop (O ++ [ix K d]).length ∧ ZAt w w.heap.size pz2 Z2 ∧ Z2.length ≤ cz2) := ⟨by rw [List.length_append]; exact hz2, hza, hzl⟩
                  clear hr8 hn8 hz2 hza hzl
                  go_wp2_with fail
                  exact ⟨⟨K.eraseIdx d, O ++ [ix K d], p8, c8, q9, c9, pz2, cz2, Z2, rfl, rfl, by rw [List.length_append]; rfl, by rw [HEl.out d hd]; omega, HN8, HZ2, HR8⟩, by simp only [lnQ]; rw [HEl.out d hd]; omega⟩
end Go.Proofs.YtelboefeomnjaaaGreat

/-
  Proofs: the reference's Order: all of it. (The verifier's own text; mkqo5.py.)
-/
namespace Go.Proofs.YtelboefeomnjaaaGreat
set_option linter.unusedVariables false
set_option linter.unusedSimpArgs false
open Go.RowKit Go.Shelf Go.Maps Go.Proofs.YtelboefeomnjaaaGreat.Nm Go.Proofs.YtelboefeomnjaaaGreat.Zs

set_option maxRecDepth 100000 in
set_option maxHeartbeats 16000000 in
theorem rorder_yes (L : List Rn) (p : Option Addr) (cap : Nat) (xs : List Int) (px : Option Addr) (cx : Nat) (w : World) (hL : L.length ≤ 1048576) (hat : RsAt w p L) (hpn : p = none → cap = 0) (hz : ∀ r ∈ L, r.o.size ≤ 1048576 ∧ r.d.size ≤ 1048576) (hn : srvB L = true) (hr : rootB L = false) (hzx : ZAt w w.heap.size px xs) (hxl0 : xs.length ≤ 1048576) (hxc : xs.length ≤ cx) (hxb : ∀ x ∈ xs, -9223372036854775808 ≤ x ∧ x ≤ 9223372036854775807) :
    Calls Tryz.prog 7 #[.slice p L.length cap, .slice px xs.length cx] w (OrX L xs w) := by
  have HE := hide' (isSet11_any L p cap 33 w hL hat (fun r hr => ⟨(hz r hr).1, by have := (hz r hr).2; omega⟩))
  rw [setT_srv, hn] at HE
  have HZX := hide' hzx
  have HXB := hide' hxb
  have HA := hide' hat
  have HPn := hide' hpn
  obtain ⟨h0, hall, -⟩ := srv_facts hn
  obtain ⟨T, hT⟩ : ∃ T, ordT L xs = T := ⟨_, rfl⟩
  have HFin : Hid (∀ (b0 : Nat) (oq : Option Addr) (oc : Nat) (pl : Option Addr) (cl : Nat) (wr : World) (O : List Nat), Ry w b0 L xs T [] O pl cl oq oc wr → OrX L xs w (.returned (.tuple #[.slice oq O.length oc, .int .i64 0])) wr) := fun b0 oq oc pl cl wr O h => by
    have e : O = T := by simpa [ordK] using h.od
    unfold OrX
    have e2 : ordR L xs = O.map (rK L) := by unfold ordR; rw [hn, hr, e, ← hT]; rfl
    have e3 : ordC L = 0 := by unfold ordC; rw [hn]; rfl
    rw [e2, e3, List.length_map]
    exact ⟨oq, oc, rfl, own_baseQ h.ow h.gb.1, h.bl⟩
  have HDat : Hid (Dat L) := fun {k xo xd xt xc xl} hk e => by
    rw [rK_get hk] at e
    have hok := hall _ (List.getElem_mem hk)
    have h4 : 4 ≤ L[k].d.size := srv_size (by have := (ok_facts hok.1).2.2.2.2.1; rw [hok.2] at this; exact this)
    rw [pK_get hk, wK_get hk]
    rw [e] at h4 ⊢
    exact ⟨h4, rfl, rfl⟩
  have HStart : Hid (∀ (w1 w2 : World) (v2 : Value), Below w.heap.size w w1 → w2.ownsRow w1.heap.size 42 5 v2 (0 + L.length) ([] ++ rce5 L) → w1.grownBy w2 (Value.slice none 0 0).ownBlock → ∃ pl cl, v2 = .slice pl L.length cl ∧ Hid (pl = none → cl = 0) ∧ Hid (Ry w w2.heap.size L xs T (List.range L.length) [] pl cl none 0 w2)) := fun w1 w2 v2 hb ho hg => by
    rw [Nat.zero_add, List.nil_append] at ho
    obtain ⟨g, c, rfl⟩ := own_somP ho h0
    have hcc := own_shape ho
    obtain ⟨p', c', e1, hc1, hc2, hc3⟩ := hcc
    injection e1 with e1 _ e3
    subst e3
    have eL : (List.range L.length).map (rK L) = L := by
      apply List.ext_getElem
      · simp
      · intro i h1 h2
        rw [List.getElem_map, List.getElem_range, rK_get h2]
    obtain ⟨rest, hrb, _⟩ := rb_ownM ho
    have hlt : g < w2.heap.size := Bx.lt hrb
    refine ⟨_, _, rfl, (fun e => by cases e), ?_, (fun a e => ?_), ?_, by simp, (fun a e e2 => by cases e2), World.ownsRow_nil _ _ _ _, ?_, List.pairwise_lt_range, fun k hk => List.mem_range.1 hk, hb.grown hg hb.size (fun q e => by cases e), Nat.le_trans hb.size hg.size, Nat.le_refl _⟩
    · rw [eL]; exact rb_rs hrb
    · injection e with e; subst e; exact hlt
    · rw [List.length_range]; exact ⟨hc1, hc2⟩
    · rw [List.length_range, ← hT, ordT_K]; rfl
  have HSum : Hid (Sums L) := fun K B hB => by
    have h1 := smP_nn (fun k => (wK_ok L k).1) K B
    have h2 := smP_le (fun k => (wK_ok L k).2) K B
    omega
  have HRoot : Hid (L.length = 1 → ¬ L[0].d.extract 6 L[0].d.size = ⟨#[0]⟩) := fun h1 e => by
    unfold rootB at hr
    rw [decide_eq_true h1, rK_get h0, Bool.true_and, decide_eq_false_iff_not] at hr
    exact hr e
  have hsz : 6 ≤ L[0].d.size := (srv_name (by
      have := (ok_facts (hall _ (List.getElem_mem h0)).1).2.2.2.2.1
      rw [(hall _ (List.getElem_mem h0)).2] at this
      exact this)).2.1
  obtain ⟨g1, off1, hpp, hg, f0, f1, f2, f3, f4⟩ := hat 0 h0
  subst hpp
  rw [Nat.zero_mul, Nat.add_zero] at f4
  generalize L[0].d = xd0 at *
  have HF : Hid (∀ V, Below w.heap.size w V → V.cell? ⟨g1, off1 + 4, none⟩ = some (.string xd0)) := fun V hV => (hV.cell (p := ⟨g1, off1 + 4, none⟩) hg).trans f4
  have hli : (0 : Int) < (L.length : Int) := by omega
  have h6i : (6 : Int) ≤ (xd0.size : Int) := by omega
  have HOne : Hid (((L.length : Int) == 1) = false ∨ (((L.length : Int) == 1) = true ∧ ((xd0.extract 6 xd0.size).toList == [0]) = false)) := by
    by_cases h1 : L.length = 1
    · right
      refine ⟨by rw [beq_iff_eq]; omega, ?_⟩
      rw [beq_eq_false_iff_ne]
      exact fun e => HRoot.out h1 (toList_inj.1 (e.trans (by rw [Go.Proofs.YtelboefeomnjaaaGreat.Nm.toList_eq])))
    · left
      rw [beq_eq_false_iff_ne]; omega
  clear hat hz hn hr hzx hxb hall f0 f1 f2 f3 f4 HRoot hT hg hpn
  rcases HOne.out with hone | ⟨hone, hrt⟩
  · skip
    go_enter Tryz.func7, Tryz.ntmps7
    go_upto_region 6 with (first
      | (go_at_call 26; refine HE.out.mono ?_; rintro e w1 ⟨rfl, hB1⟩; have HB1 := hide' hB1; have fz := HF.out w1 hB1; have HS1 := hide' (rsAt_below7 HA.out hB1); clear hB1)
      | (at_builtin; refine wpList_append_recsM rfl _ _ rfl w1.heap.size (.slice none 0 0) 0 [] rfl (World.ownsRow_nil _ _ _ _) _ L cap rfl HS1.out HPn.out (by omega) (Nat.le_refl _) ?_; intro v2 w2 ho2 hg2; obtain ⟨pl, cl, hv2, HPl0, HS2⟩ := HStart.out w1 w2 v2 HB1.out ho2 hg2; subst hv2; clear ho2 hg2))
    rename_i K_ hK_
    have HK_ := hide' hK_
    clear hK_
    go_wp2_with fail
    refine HK_.out _ _ ?_
    exact rorder_loop w w2 w2.heap.size L xs T px pl cx cl hL HPl0 HXB HDat HSum HZX hxc HS2 HFin _ _ _ _ _ _ _ _ _ _ _ _ _ _ _ _ _ _ _ _ _ _ _ _ _ _ _ _ _ _ _ _ _ _ _ _ _ _ _ _ _ _ _ _ _ _ _ _ _ _ _ _ _ _ _ _ _ _ _ _ _ _ _ _ _ _ _ _ _ _ _ _ _ _ _ _ _ _ _ _ _ _ _ _ _ _ _ _ _ _ _ _ _ _ _ _ _ _ _ _ _ _ _ _ _ _ _ _ _ _ _ _ _ _ _ _ _ _ _ _ _ _ _ _ _ _ _ _ _ _ _ _ _ _ _ _ _ _
  · skip
    go_enter Tryz.func7, Tryz.ntmps7
    go_upto_region 6 with (first
      | (go_at_call 26; refine HE.out.mono ?_; rintro e w1 ⟨rfl, hB1⟩; have HB1 := hide' hB1; have fz := HF.out w1 hB1; have HS1 := hide' (rsAt_below7 HA.out hB1); clear hB1)
      | (at_builtin; refine wpList_append_recsM rfl _ _ rfl w1.heap.size (.slice none 0 0) 0 [] rfl (World.ownsRow_nil _ _ _ _) _ L cap rfl HS1.out HPn.out (by omega) (Nat.le_refl _) ?_; intro v2 w2 ho2 hg2; obtain ⟨pl, cl, hv2, HPl0, HS2⟩ := HStart.out w1 w2 v2 HB1.out ho2 hg2; subst hv2; clear ho2 hg2))
    rename_i K_ hK_
    have HK_ := hide' hK_
    clear hK_
    go_wp2_with fail
    refine HK_.out _ _ ?_
    exact rorder_loop w w2 w2.heap.size L xs T px pl cx cl hL HPl0 HXB HDat HSum HZX hxc HS2 HFin _ _ _ _ _ _ _ _ _ _ _ _ _ _ _ _ _ _ _ _ _ _ _ _ _ _ _ _ _ _ _ _ _ _ _ _ _ _ _ _ _ _ _ _ _ _ _ _ _ _ _ _ _ _ _ _ _ _ _ _ _ _ _ _ _ _ _ _ _ _ _ _ _ _ _ _ _ _ _ _ _ _ _ _ _ _ _ _ _ _ _ _ _ _ _ _ _ _ _ _ _ _ _ _ _ _ _ _ _ _ _ _ _ _ _ _ _ _ _ _ _ _ _ _ _ _ _ _ _ _ _ _ _ _ _ _ _ _
/-- the reference's Order -/
theorem rorder_any (L : List Rn) (p : Option Addr) (cap : Nat) (xs : List Int) (px : Option Addr) (cx : Nat) (w : World) (hL : L.length ≤ 1048576) (hat : RsAt w p L) (hpn : p = none → cap = 0) (hz : ∀ r ∈ L, r.o.size ≤ 1048576 ∧ r.d.size ≤ 1048576) (hzx : ZAt w w.heap.size px xs) (hxl0 : xs.length ≤ 1048576) (hxc : xs.length ≤ cx) (hxb : ∀ x ∈ xs, -9223372036854775808 ≤ x ∧ x ≤ 9223372036854775807) :
    Calls Tryz.prog 7 #[.slice p L.length cap, .slice px xs.length cx] w (OrX L xs w) := by
  cases hs : srvB L with
  | false => exact rorder_no L p cap xs px cx w hL hat hz hs
  | true =>
    cases hr : rootB L with
    | false => exact rorder_yes L p cap xs px cx w hL hat hpn hz hs hr hzx hxl0 hxc hxb
    | true => exact rorder_root L p cap xs px cx w hL hat hz hs hr
end Go.Proofs.YtelboefeomnjaaaGreat
