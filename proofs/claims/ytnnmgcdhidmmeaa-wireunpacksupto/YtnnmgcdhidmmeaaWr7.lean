import Derived.Test.YtnnmgcdhidmmeaaWr6
namespace Go.Proofs.Ytnnmgcdhidmmeaa
set_option linter.unusedVariables false
open Go.RowKit Go.Shelf Go.Proofs.Ytnnmgcdhidmmeaa.Nm

set_option maxRecDepth 1000000 in
set_option maxHeartbeats 200000000 in
/-- the sections of UnpackMessage: the loop, and what stands behind it -/
theorem ref_sections (K : Act → World → Prop) (b o cap : Nat) (B : ByteArray) (w wa wb wc : World) (hb : b < w.heap.size) (h12 : 12 ≤ B.size) (hS : B.size ≤ 65535) (hc : B.size ≤ cap) (HX : Hid (upk B = parts4 B)) (v op rc id : Nat) (HV : Hid (be B 2 2 = v)) (HOP : Hid (v / 2048 % 16 = op)) (HRC : Hid (v % 16 = rc)) (HID : Hid (be B 0 2 = id)) (k' : Nat) (L : List Qn) (vq : Value) (hk' : k' ≤ B.size) (HPQ : Hid (parts4 B = pa4 B L k')) (wr0 : World)
    (H : Hid (Us w wr0 wa.heap.size wb.heap.size wc.heap.size b o B id op rc v vq (.slice none 0 0) (.slice none 0 0) (.slice none 0 0) ⟨L, [], [], []⟩))
    (hK : ∀ (a : Act) (W : World), Code.wp Try.prog (behind (behind (Try.f5.body.getD .skip))) (bodyPost Try.prog Try.f5 (upEnd B w)) a W → K a W)
    (x1 x3 x4 x7 x9 x10 x11 x12 x14 x15 x16 x17 x18 x19 x20 x21 x22 x23 x24 x25 x26 x27 x28 x29 x30 x31 x32 x33 x34 x35 x36 x37 x38 x39 x40 x41 x42 x43 x44 x45 x46 x47 x48 x49 x50 x51 x52 x53 x54 x55 x56 x57 x58 x59 x60 x61 x62 x63 x64 x65 x66 x67 x68 x69 x70 x71 x72 x73 x74 x75 x76 x77 x78 x79 x80 x81 x82 x83 x84 x85 x86 x87 x88 x89 x90 x91 x92 x93 x94 x95 x96 x97 x98 x99 x100 x101 x102 x103 x104 x105 x106 x107 x108 x109 x110 x111 x112 x113 x114 x115 x116 x117 x118 x119 x120 x121 x122 x123 x124 x125 x126 x127 x128 x129 x130 x131 x132 x133 x134 x135 x136 x137 x138 x139 x140 x141 x142 x143 x144 x145 x146 x147 x148 x149 x150 x151 x152 x153 x154 x155 x156 x157 x158 x159 x160 x161 x162 x163 x164 x165 x166 x167 x168 x169 x170 x171 x172 x173 x174 x175 x176 x177 x178 x179 x180 x181 x182 x183 x184 x185 x186 x187 x188 x189 x190 x191 x192 x193 x194 x195 x196 x197 x198 : Value) :
    Code.wp Try.prog (Code.loop (((Try.f5.body.map loopsOf).getD []).getD 1 .skip)) (Exit.inBlock 2 (Exit.then K (bodyPost Try.prog Try.f5 (upEnd B w)))) ⟨List.toArray ((.slice (some ⟨b, o, none⟩) B.size cap : Value) :: x1 :: (.pointer (some ⟨w.heap.size, 0, none⟩) : Value) :: x3 :: x4 :: (.pointer (some ⟨wa.heap.size, 0, none⟩) : Value) :: (.pointer (some ⟨wb.heap.size, 0, none⟩) : Value) :: x7 :: (.int .i64 (k' : Int) : Value) :: x9 :: x10 :: x11 :: x12 :: (.int .i64 0 : Value) :: x14 :: x15 :: x16 :: x17 :: x18 :: x19 :: x20 :: x21 :: x22 :: x23 :: x24 :: x25 :: x26 :: x27 :: x28 :: x29 :: x30 :: x31 :: x32 :: x33 :: x34 :: x35 :: x36 :: x37 :: x38 :: x39 :: x40 :: x41 :: x42 :: x43 :: x44 :: x45 :: x46 :: x47 :: x48 :: x49 :: x50 :: x51 :: x52 :: x53 :: x54 :: x55 :: x56 :: x57 :: x58 :: x59 :: x60 :: x61 :: x62 :: x63 :: x64 :: x65 :: x66 :: x67 :: x68 :: x69 :: x70 :: x71 :: x72 :: x73 :: x74 :: x75 :: x76 :: x77 :: x78 :: x79 :: x80 :: x81 :: x82 :: x83 :: x84 :: x85 :: x86 :: x87 :: x88 :: x89 :: x90 :: x91 :: x92 :: x93 :: x94 :: x95 :: x96 :: x97 :: x98 :: x99 :: x100 :: x101 :: x102 :: x103 :: x104 :: x105 :: x106 :: x107 :: x108 :: x109 :: x110 :: x111 :: x112 :: x113 :: x114 :: x115 :: x116 :: x117 :: x118 :: x119 :: x120 :: x121 :: x122 :: x123 :: x124 :: x125 :: x126 :: x127 :: x128 :: x129 :: x130 :: x131 :: x132 :: x133 :: x134 :: x135 :: x136 :: x137 :: x138 :: x139 :: x140 :: x141 :: x142 :: x143 :: x144 :: x145 :: x146 :: x147 :: x148 :: x149 :: x150 :: x151 :: x152 :: x153 :: x154 :: x155 :: x156 :: x157 :: x158 :: x159 :: x160 :: x161 :: x162 :: x163 :: x164 :: x165 :: x166 :: x167 :: x168 :: x169 :: x170 :: x171 :: x172 :: x173 :: x174 :: x175 :: x176 :: x177 :: x178 :: x179 :: x180 :: x181 :: x182 :: x183 :: x184 :: x185 :: x186 :: x187 :: x188 :: x189 :: x190 :: x191 :: x192 :: x193 :: x194 :: x195 :: x196 :: x197 :: x198 :: []), []⟩ wr0 := by
  conv => arg 2; arg 1; whnf
  have HK := hide' hK
  clear hK
  go_loopw [8, 13] (fun av sv wr => ∃ (s kk : Nat), sv = .int .i64 (s : Int) ∧ av = .int .i64 (kk : Int) ∧ s ≤ 3 ∧ kk ≤ B.size ∧ Hid (PU w wr wa.heap.size wb.heap.size wc.heap.size b o B id op rc v L kk s)) (fun _ sv _ => 3 - (intOf sv).toNat)
  case atStart => exact ⟨0, k', rfl, rfl, Nat.zero_le _, hk', ⟨_, H.out, HPQ.out⟩⟩
  case round =>
    clear H HPQ
    obtain ⟨sn, kk, rfl, rfl, hsn, hkk, HU⟩ := hrel
    by_cases hs3 : sn < 3
    · have hsc : sn = 0 ∨ sn = 1 ∨ sn = 2 := by omega
      rcases hsc with rfl | rfl | rfl
      · obtain ⟨vq, hU, hX⟩ := HU.out
        have HU2 := hide' hU
        have HXs := hide' hX
        clear hU hX HU
        obtain ⟨cn, hcn⟩ : ∃ v, be B 6 2 = v := ⟨_, rfl⟩
        have hcnl : cn < 65536 := hcn ▸ be2_lt _ _
        have HNs := hide' (fun (W : World) => refValue_win B 6 2 W (by omega) (by omega))
        rw [hcn] at HNs
        have HCN := hide' hcn
        clear hcn
        go_wp2_with fail
        go_loopw [8, 14] (fun av kv wr => ∃ (j k2 : Nat) (Y : List Rn) (vL : Value), kv = .int .i64 (j : Int) ∧ av = .int .i64 (k2 : Int) ∧ j ≤ cn ∧ k2 ≤ B.size ∧ Hid (Y.length = j) ∧ Hid (Us w wr wa.heap.size wb.heap.size wc.heap.size b o B id op rc v vq vL (.slice none 0 0) (.slice none 0 0) ⟨L, Y, [], []⟩) ∧ Hid (rs B cn kk [] = rs B (cn - j) k2 Y)) (fun _ kv _ => cn - (intOf kv).toNat)
        case atStart => exact ⟨0, kk, [], _, rfl, rfl, Nat.zero_le _, hkk, rfl, HU2, rfl⟩
        case round =>
          clear HU2
          obtain ⟨j, k2, Y, vL, rfl, rfl, hj, hk2, HLN, H, HR⟩ := hrel
          have hby := H.out.by_
          have hcvs := conv_win (W := wr) (c := cap - 6) (n := 2) (l := 6) (x := o + 6) hby (fun _ => rfl) (by omega)
          by_cases hlt : j < cn
          · have HRc := hide' (refRecord_any b o cap k2 B wr hby (by have := H.out.um.bl.size; omega) hk2 hS hc)
            rw [rr2_eq] at HRc
            obtain ⟨mm, hm⟩ : ∃ m, cn - j = m + 1 := ⟨cn - j - 1, by omega⟩
            have HM := hide' hm
            clear hm
            cases hr : rr B k2 with
            | error x =>
              have HQ : Hid (upk B = .error (x, k2)) := by
                unfold Hid; rw [HX.out, HXs.out]; unfold pa4; rw [HCN.out, HR.out, HM.out, rs, hr]
              have hx1 : ((x : Int) != 0) = true := by have := rr_err hr; rw [bne_iff_ne]; omega
              rw [hr] at HRc
              go_wp2_with (first
                | (go_at_call 12; refine (HNs.out _).mono ?_; rintro e w1 ⟨rfl, h1⟩; have h1' := h1.symm; subst h1')
                | (go_at_call 14; refine HRc.out.mono ?_; rintro e w4 ⟨rfl, hB4⟩; have H4 := hide' (H.out.below hB4); clear hB4; have H5 := hide' (H4.out.alloc (.cells #[.string ⟨#[]⟩, .int .i64 0, .int .i64 0, .int .i64 0, .string ⟨#[]⟩] 48)); obtain ⟨r0, r1, r2, r3, r4, r5, r6, r7, r8, r9, r10, r11, r12, r13⟩ := bx14 H5.out.um.r; obtain ⟨f0, f1, f2, f3, f4, f5, f6, f7, f8, f9, f10, f11, f12, f13⟩ := bx14_free H5.out.um.r; obtain ⟨m0, m1, m2, m3, m4, m5, m6, m7, m8, m9, m10, m11, m12, m13⟩ := bx14 H5.out.um.n))
              obtain ⟨q0, q1, q2, q3, q4, q5, q6, q7, q8, q9, q10, q11, q12, q13⟩ := bx14 (bx14_set H5.out.um.r (.int .i64 0) (.bool false) (.int .i64 0) (.bool false) (.bool false) (.bool false) (.bool false) (.bool false) (.bool false) (.int .i64 0) (.slice none 0 0) (.slice none 0 0) (.slice none 0 0) (.slice none 0 0))
              unfold set14 at q0 q1 q2 q3 q4 q5 q6 q7 q8 q9 q10 q11 q12 q13
              refine bodyPost_ret (v := .tuple #[.agg mz, .int .i64 (k2 : Int), .int .i64 (x : Int)]) (by simp [results, go_sem, mz, q0, q1, q2, q3, q4, q5, q6, q7, q8, q9, q10, q11, q12, q13]) rfl ?_
              unfold upEnd
              rw [HQ.out]
              exact ⟨rfl, below14 H5.out.um.bl (Nat.le_refl _) H5.out.um.bl.size (.int .i64 0) (.bool false) (.int .i64 0) (.bool false) (.bool false) (.bool false) (.bool false) (.bool false) (.bool false) (.int .i64 0) (.slice none 0 0) (.slice none 0 0) (.slice none 0 0) (.slice none 0 0)⟩
            | ok r =>
              obtain ⟨⟨xo, xt, xc, xl, xd⟩, k3⟩ := r
              have hk3 := rr_le hr
              have HQ : Hid (rs B cn kk [] = rs B (cn - (j + 1)) k3 (Y ++ [⟨xo, xt, xc, xl, xd⟩])) := by
                unfold Hid; rw [HR.out, HM.out, rs, hr, show cn - (j + 1) = mm by have := HM.out; omega]
              rw [hr] at HRc
              replace HRc : Hid (Calls Try.prog 14 #[.slice (some ⟨b, o, none⟩) B.size cap, .int .i64 (k2 : Int)] wr fun e w' => e = .returned (.tuple #[.agg #[.string xo, .int .i64 xt, .int .i64 xc, .int .i64 xl, .string xd], .int .i64 (k3 : Int), .int .i64 0]) ∧ Below wr.heap.size wr w') := HRc.out
              obtain ⟨i0, hi, hz0, hz1, hz2⟩ := info_parts Try.infoRecord
              obtain ⟨pL, cL, rfl, _⟩ := own_shape H.out.rows.a
              have hcl : Y.length ≤ 65535 := by have := HLN.out; omega
              go_wp2_with (first
                | (go_at_call 12; refine (HNs.out _).mono ?_; rintro e w1 ⟨rfl, h1⟩; have h1' := h1.symm; subst h1')
                | (go_at_call 14; refine HRc.out.mono ?_; rintro e w4 ⟨rfl, hB4⟩; have H4 := hide' (H.out.below hB4); clear hB4; have c4 := fun o1 => ((H4.out.alloc o1).mb.cell (j := 11) rfl); have HOa : Hid (w4.ownsRow wc.heap.size 48 5 (.slice pL Y.length cL) Y.length (rcells Y)) := H4.out.rows.a; have hsz4 := H4.out.sz; have hMl4 : wa.heap.size < w4.heap.size := H4.out.mb.lt)
                | (at_builtin; refine wpList_append_apart _ rfl _ _ 24 rfl wc.heap.size 48 i0 (.agg #[.string ⟨#[]⟩, .int .i64 0, .int .i64 0, .int .i64 0, .string ⟨#[]⟩]) 5 56 Try.underlying24 hi hz0 hz1 hz2 rfl (by decide) _ _ _ rfl ((HOa.out.alloc _).alloc _) ⟨w4.heap.size + 1, 0, none⟩ 1 1 [.string xo, .int .i64 xt, .int .i64 xc, .int .i64 xl, .string xd] rfl rfl (by have := row_newR (w4.alloc (.cells #[.string xo, .int .i64 xt, .int .i64 xc, .int .i64 xl, .string xd] 48)) #[.string xo, .int .i64 xt, .int .i64 xc, .int .i64 xl, .string xd] 48; rw [World.size_alloc] at this; exact this) (by simp [Value.oneCell']) (by unfold maxLen; omega) (by omega) (by simp; omega) ?_; intro v6 w6 hown6 hgrow6 hpl6; obtain ⟨p6, c6, rfl, _⟩ := own_shape hown6; have HO6 := hide' hown6; have HG6 := hide' hgrow6; have HPl := hide' hpl6; obtain ⟨cc6, ff6⟩ := US6 H4.out hgrow6 11 (y := .slice pL Y.length cL) (fun q e => (H4.out.rows.a.lt q e).1) rfl; clear hown6 hgrow6 hpl6))
              have HAp := H.out.rows
              have hrows := (H4.out.alloc (.cells #[.string xo, .int .i64 xt, .int .i64 xc, .int .i64 xl, .string xd] 48)).alloc (.cells #[.string xo, .int .i64 xt, .int .i64 xc, .int .i64 xl, .string xd] 48)
              have HPn := hrows.push (vo := .slice pL Y.length cL) (fun q e => (HOa.out.lt q e).1) HG6.out 11 (.slice p6 (Y.length + 1) c6) (vq2 := vq) (va2 := (.slice p6 (Y.length + 1) c6)) (vu2 := (.slice none 0 0)) (vd2 := (.slice none 0 0)) (ls2 := ⟨L, Y ++ [⟨xo, xt, xc, xl, xd⟩], [], []⟩) rfl ⟨own_apart hrows.rows.q HG6.out HAp.qa, by rw [List.length_append, rcells_app]; exact HO6.out, World.ownsRow_nil _ _ _ _, World.ownsRow_nil _ _ _ _, apart_place hrows.rows.q HAp.qa HPl.out, apart_nil _, apart_nil _, apart_nil _, apart_nil _, apart_nil _⟩
              go_roundw
              case rel => refine ⟨_, _, _, _, _, _, _, _, _, _, _, _, _, _, _, _, _, _, _, _, _, _, _, _, _, _, _, _, _, _, _, _, _, _, _, _, _, _, _, _, _, _, _, _, _, _, _, _, _, _, _, _, _, _, _, _, ⟨j + 1, k3, Y ++ [(⟨xo, xt, xc, xl, xd⟩ : Rn)], (.slice p6 (Y.length + 1) c6), ?_, rfl, by omega, hk3, by rw [List.length_append, HLN.out]; rfl, hide' HPn, HQ⟩, rfl⟩; go_num
              case measure => simp [intOf]; omega
          · have hj0 : cn - j = 0 := by omega
            have HXn : Hid (parts4 B = pu4 B L Y k2) := by unfold Hid; rw [HXs.out]; unfold pa4; rw [HCN.out, HR.out, hj0, rs]
            clear hj0
            go_wp2_with (go_at_call 12; refine (HNs.out _).mono ?_; rintro e w1 ⟨rfl, h1⟩; have h1' := h1.symm; subst h1')
            refine ⟨⟨1, k2, by go_num, rfl, by omega, hk2, ⟨vq, vL, Y, H.out, HXn.out⟩⟩, ?_⟩
            simp [intOf]
      · obtain ⟨vq, va, A, hU, hX⟩ := HU.out
        have HU2 := hide' hU
        have HXs := hide' hX
        clear hU hX HU
        obtain ⟨cn, hcn⟩ : ∃ v, be B 8 2 = v := ⟨_, rfl⟩
        have hcnl : cn < 65536 := hcn ▸ be2_lt _ _
        have HNs := hide' (fun (W : World) => refValue_win B 8 2 W (by omega) (by omega))
        rw [hcn] at HNs
        have HCN := hide' hcn
        clear hcn
        go_wp2_with fail
        go_loopw [8, 14] (fun av kv wr => ∃ (j k2 : Nat) (Y : List Rn) (vL : Value), kv = .int .i64 (j : Int) ∧ av = .int .i64 (k2 : Int) ∧ j ≤ cn ∧ k2 ≤ B.size ∧ Hid (Y.length = j) ∧ Hid (Us w wr wa.heap.size wb.heap.size wc.heap.size b o B id op rc v vq va vL (.slice none 0 0) ⟨L, A, Y, []⟩) ∧ Hid (rs B cn kk [] = rs B (cn - j) k2 Y)) (fun _ kv _ => cn - (intOf kv).toNat)
        case atStart => exact ⟨0, kk, [], _, rfl, rfl, Nat.zero_le _, hkk, rfl, HU2, rfl⟩
        case round =>
          clear HU2
          obtain ⟨j, k2, Y, vL, rfl, rfl, hj, hk2, HLN, H, HR⟩ := hrel
          have hby := H.out.by_
          have hcvs := conv_win (W := wr) (c := cap - 8) (n := 2) (l := 8) (x := o + 8) hby (fun _ => rfl) (by omega)
          by_cases hlt : j < cn
          · have HRc := hide' (refRecord_any b o cap k2 B wr hby (by have := H.out.um.bl.size; omega) hk2 hS hc)
            rw [rr2_eq] at HRc
            obtain ⟨mm, hm⟩ : ∃ m, cn - j = m + 1 := ⟨cn - j - 1, by omega⟩
            have HM := hide' hm
            clear hm
            cases hr : rr B k2 with
            | error x =>
              have HQ : Hid (upk B = .error (x, k2)) := by
                unfold Hid; rw [HX.out, HXs.out]; unfold pu4; rw [HCN.out, HR.out, HM.out, rs, hr]
              have hx1 : ((x : Int) != 0) = true := by have := rr_err hr; rw [bne_iff_ne]; omega
              rw [hr] at HRc
              go_wp2_with (first
                | (go_at_call 12; refine (HNs.out _).mono ?_; rintro e w1 ⟨rfl, h1⟩; have h1' := h1.symm; subst h1')
                | (go_at_call 14; refine HRc.out.mono ?_; rintro e w4 ⟨rfl, hB4⟩; have H4 := hide' (H.out.below hB4); clear hB4; have H5 := hide' (H4.out.alloc (.cells #[.string ⟨#[]⟩, .int .i64 0, .int .i64 0, .int .i64 0, .string ⟨#[]⟩] 48)); obtain ⟨r0, r1, r2, r3, r4, r5, r6, r7, r8, r9, r10, r11, r12, r13⟩ := bx14 H5.out.um.r; obtain ⟨f0, f1, f2, f3, f4, f5, f6, f7, f8, f9, f10, f11, f12, f13⟩ := bx14_free H5.out.um.r; obtain ⟨m0, m1, m2, m3, m4, m5, m6, m7, m8, m9, m10, m11, m12, m13⟩ := bx14 H5.out.um.n))
              obtain ⟨q0, q1, q2, q3, q4, q5, q6, q7, q8, q9, q10, q11, q12, q13⟩ := bx14 (bx14_set H5.out.um.r (.int .i64 0) (.bool false) (.int .i64 0) (.bool false) (.bool false) (.bool false) (.bool false) (.bool false) (.bool false) (.int .i64 0) (.slice none 0 0) (.slice none 0 0) (.slice none 0 0) (.slice none 0 0))
              unfold set14 at q0 q1 q2 q3 q4 q5 q6 q7 q8 q9 q10 q11 q12 q13
              refine bodyPost_ret (v := .tuple #[.agg mz, .int .i64 (k2 : Int), .int .i64 (x : Int)]) (by simp [results, go_sem, mz, q0, q1, q2, q3, q4, q5, q6, q7, q8, q9, q10, q11, q12, q13]) rfl ?_
              unfold upEnd
              rw [HQ.out]
              exact ⟨rfl, below14 H5.out.um.bl (Nat.le_refl _) H5.out.um.bl.size (.int .i64 0) (.bool false) (.int .i64 0) (.bool false) (.bool false) (.bool false) (.bool false) (.bool false) (.bool false) (.int .i64 0) (.slice none 0 0) (.slice none 0 0) (.slice none 0 0) (.slice none 0 0)⟩
            | ok r =>
              obtain ⟨⟨xo, xt, xc, xl, xd⟩, k3⟩ := r
              have hk3 := rr_le hr
              have HQ : Hid (rs B cn kk [] = rs B (cn - (j + 1)) k3 (Y ++ [⟨xo, xt, xc, xl, xd⟩])) := by
                unfold Hid; rw [HR.out, HM.out, rs, hr, show cn - (j + 1) = mm by have := HM.out; omega]
              rw [hr] at HRc
              replace HRc : Hid (Calls Try.prog 14 #[.slice (some ⟨b, o, none⟩) B.size cap, .int .i64 (k2 : Int)] wr fun e w' => e = .returned (.tuple #[.agg #[.string xo, .int .i64 xt, .int .i64 xc, .int .i64 xl, .string xd], .int .i64 (k3 : Int), .int .i64 0]) ∧ Below wr.heap.size wr w') := HRc.out
              obtain ⟨i0, hi, hz0, hz1, hz2⟩ := info_parts Try.infoRecord
              obtain ⟨pL, cL, rfl, _⟩ := own_shape H.out.rows.u
              have hcl : Y.length ≤ 65535 := by have := HLN.out; omega
              go_wp2_with (first
                | (go_at_call 12; refine (HNs.out _).mono ?_; rintro e w1 ⟨rfl, h1⟩; have h1' := h1.symm; subst h1')
                | (go_at_call 14; refine HRc.out.mono ?_; rintro e w4 ⟨rfl, hB4⟩; have H4 := hide' (H.out.below hB4); clear hB4; have c4 := fun o1 => ((H4.out.alloc o1).mb.cell (j := 12) rfl); have HOa : Hid (w4.ownsRow wc.heap.size 48 5 (.slice pL Y.length cL) Y.length (rcells Y)) := H4.out.rows.u; have hsz4 := H4.out.sz; have hMl4 : wa.heap.size < w4.heap.size := H4.out.mb.lt)
                | (at_builtin; refine wpList_append_apart _ rfl _ _ 24 rfl wc.heap.size 48 i0 (.agg #[.string ⟨#[]⟩, .int .i64 0, .int .i64 0, .int .i64 0, .string ⟨#[]⟩]) 5 56 Try.underlying24 hi hz0 hz1 hz2 rfl (by decide) _ _ _ rfl ((HOa.out.alloc _).alloc _) ⟨w4.heap.size + 1, 0, none⟩ 1 1 [.string xo, .int .i64 xt, .int .i64 xc, .int .i64 xl, .string xd] rfl rfl (by have := row_newR (w4.alloc (.cells #[.string xo, .int .i64 xt, .int .i64 xc, .int .i64 xl, .string xd] 48)) #[.string xo, .int .i64 xt, .int .i64 xc, .int .i64 xl, .string xd] 48; rw [World.size_alloc] at this; exact this) (by simp [Value.oneCell']) (by unfold maxLen; omega) (by omega) (by simp; omega) ?_; intro v6 w6 hown6 hgrow6 hpl6; obtain ⟨p6, c6, rfl, _⟩ := own_shape hown6; have HO6 := hide' hown6; have HG6 := hide' hgrow6; have HPl := hide' hpl6; obtain ⟨cc6, ff6⟩ := US6 H4.out hgrow6 12 (y := .slice pL Y.length cL) (fun q e => (H4.out.rows.u.lt q e).1) rfl; clear hown6 hgrow6 hpl6))
              have HAp := H.out.rows
              have hrows := (H4.out.alloc (.cells #[.string xo, .int .i64 xt, .int .i64 xc, .int .i64 xl, .string xd] 48)).alloc (.cells #[.string xo, .int .i64 xt, .int .i64 xc, .int .i64 xl, .string xd] 48)
              have HPn := hrows.push (vo := .slice pL Y.length cL) (fun q e => (HOa.out.lt q e).1) HG6.out 12 (.slice p6 (Y.length + 1) c6) (vq2 := vq) (va2 := va) (vu2 := (.slice p6 (Y.length + 1) c6)) (vd2 := (.slice none 0 0)) (ls2 := ⟨L, A, Y ++ [⟨xo, xt, xc, xl, xd⟩], []⟩) rfl ⟨own_apart hrows.rows.q HG6.out HAp.qu, own_apart hrows.rows.a HG6.out HAp.au, by rw [List.length_append, rcells_app]; exact HO6.out, World.ownsRow_nil _ _ _ _, HAp.qa, apart_place hrows.rows.q HAp.qu HPl.out, apart_nil _, apart_place hrows.rows.a HAp.au HPl.out, apart_nil _, apart_nil _⟩
              go_roundw
              case rel => refine ⟨_, _, _, _, _, _, _, _, _, _, _, _, _, _, _, _, _, _, _, _, _, _, _, _, _, _, _, _, _, _, _, _, _, _, _, _, _, _, _, _, _, _, _, _, _, _, _, _, _, _, _, _, _, _, _, _, ⟨j + 1, k3, Y ++ [(⟨xo, xt, xc, xl, xd⟩ : Rn)], (.slice p6 (Y.length + 1) c6), ?_, rfl, by omega, hk3, by rw [List.length_append, HLN.out]; rfl, hide' HPn, HQ⟩, rfl⟩; go_num
              case measure => simp [intOf]; omega
          · have hj0 : cn - j = 0 := by omega
            have HXn : Hid (parts4 B = pd4 B L A Y k2) := by unfold Hid; rw [HXs.out]; unfold pu4; rw [HCN.out, HR.out, hj0, rs]
            clear hj0
            go_wp2_with (go_at_call 12; refine (HNs.out _).mono ?_; rintro e w1 ⟨rfl, h1⟩; have h1' := h1.symm; subst h1')
            refine ⟨⟨2, k2, by go_num, rfl, by omega, hk2, ⟨vq, va, vL, A, Y, H.out, HXn.out⟩⟩, ?_⟩
            simp [intOf]
      · obtain ⟨vq, va, vu, A, U, hU, hX⟩ := HU.out
        have HU2 := hide' hU
        have HXs := hide' hX
        clear hU hX HU
        obtain ⟨cn, hcn⟩ : ∃ v, be B 10 2 = v := ⟨_, rfl⟩
        have hcnl : cn < 65536 := hcn ▸ be2_lt _ _
        have HNs := hide' (fun (W : World) => refValue_win B 10 2 W (by omega) (by omega))
        rw [hcn] at HNs
        have HCN := hide' hcn
        clear hcn
        go_wp2_with fail
        go_loopw [8, 14] (fun av kv wr => ∃ (j k2 : Nat) (Y : List Rn) (vL : Value), kv = .int .i64 (j : Int) ∧ av = .int .i64 (k2 : Int) ∧ j ≤ cn ∧ k2 ≤ B.size ∧ Hid (Y.length = j) ∧ Hid (Us w wr wa.heap.size wb.heap.size wc.heap.size b o B id op rc v vq va vu vL ⟨L, A, U, Y⟩) ∧ Hid (rs B cn kk [] = rs B (cn - j) k2 Y)) (fun _ kv _ => cn - (intOf kv).toNat)
        case atStart => exact ⟨0, kk, [], _, rfl, rfl, Nat.zero_le _, hkk, rfl, HU2, rfl⟩
        case round =>
          clear HU2
          obtain ⟨j, k2, Y, vL, rfl, rfl, hj, hk2, HLN, H, HR⟩ := hrel
          have hby := H.out.by_
          have hcvs := conv_win (W := wr) (c := cap - 10) (n := 2) (l := 10) (x := o + 10) hby (fun _ => rfl) (by omega)
          by_cases hlt : j < cn
          · have HRc := hide' (refRecord_any b o cap k2 B wr hby (by have := H.out.um.bl.size; omega) hk2 hS hc)
            rw [rr2_eq] at HRc
            obtain ⟨mm, hm⟩ : ∃ m, cn - j = m + 1 := ⟨cn - j - 1, by omega⟩
            have HM := hide' hm
            clear hm
            cases hr : rr B k2 with
            | error x =>
              have HQ : Hid (upk B = .error (x, k2)) := by
                unfold Hid; rw [HX.out, HXs.out]; unfold pd4; rw [HCN.out, HR.out, HM.out, rs, hr]
              have hx1 : ((x : Int) != 0) = true := by have := rr_err hr; rw [bne_iff_ne]; omega
              rw [hr] at HRc
              go_wp2_with (first
                | (go_at_call 12; refine (HNs.out _).mono ?_; rintro e w1 ⟨rfl, h1⟩; have h1' := h1.symm; subst h1')
                | (go_at_call 14; refine HRc.out.mono ?_; rintro e w4 ⟨rfl, hB4⟩; have H4 := hide' (H.out.below hB4); clear hB4; have H5 := hide' (H4.out.alloc (.cells #[.string ⟨#[]⟩, .int .i64 0, .int .i64 0, .int .i64 0, .string ⟨#[]⟩] 48)); obtain ⟨r0, r1, r2, r3, r4, r5, r6, r7, r8, r9, r10, r11, r12, r13⟩ := bx14 H5.out.um.r; obtain ⟨f0, f1, f2, f3, f4, f5, f6, f7, f8, f9, f10, f11, f12, f13⟩ := bx14_free H5.out.um.r; obtain ⟨m0, m1, m2, m3, m4, m5, m6, m7, m8, m9, m10, m11, m12, m13⟩ := bx14 H5.out.um.n))
              obtain ⟨q0, q1, q2, q3, q4, q5, q6, q7, q8, q9, q10, q11, q12, q13⟩ := bx14 (bx14_set H5.out.um.r (.int .i64 0) (.bool false) (.int .i64 0) (.bool false) (.bool false) (.bool false) (.bool false) (.bool false) (.bool false) (.int .i64 0) (.slice none 0 0) (.slice none 0 0) (.slice none 0 0) (.slice none 0 0))
              unfold set14 at q0 q1 q2 q3 q4 q5 q6 q7 q8 q9 q10 q11 q12 q13
              refine bodyPost_ret (v := .tuple #[.agg mz, .int .i64 (k2 : Int), .int .i64 (x : Int)]) (by simp [results, go_sem, mz, q0, q1, q2, q3, q4, q5, q6, q7, q8, q9, q10, q11, q12, q13]) rfl ?_
              unfold upEnd
              rw [HQ.out]
              exact ⟨rfl, below14 H5.out.um.bl (Nat.le_refl _) H5.out.um.bl.size (.int .i64 0) (.bool false) (.int .i64 0) (.bool false) (.bool false) (.bool false) (.bool false) (.bool false) (.bool false) (.int .i64 0) (.slice none 0 0) (.slice none 0 0) (.slice none 0 0) (.slice none 0 0)⟩
            | ok r =>
              obtain ⟨⟨xo, xt, xc, xl, xd⟩, k3⟩ := r
              have hk3 := rr_le hr
              have HQ : Hid (rs B cn kk [] = rs B (cn - (j + 1)) k3 (Y ++ [⟨xo, xt, xc, xl, xd⟩])) := by
                unfold Hid; rw [HR.out, HM.out, rs, hr, show cn - (j + 1) = mm by have := HM.out; omega]
              rw [hr] at HRc
              replace HRc : Hid (Calls Try.prog 14 #[.slice (some ⟨b, o, none⟩) B.size cap, .int .i64 (k2 : Int)] wr fun e w' => e = .returned (.tuple #[.agg #[.string xo, .int .i64 xt, .int .i64 xc, .int .i64 xl, .string xd], .int .i64 (k3 : Int), .int .i64 0]) ∧ Below wr.heap.size wr w') := HRc.out
              obtain ⟨i0, hi, hz0, hz1, hz2⟩ := info_parts Try.infoRecord
              obtain ⟨pL, cL, rfl, _⟩ := own_shape H.out.rows.d
              have hcl : Y.length ≤ 65535 := by have := HLN.out; omega
              go_wp2_with (first
                | (go_at_call 12; refine (HNs.out _).mono ?_; rintro e w1 ⟨rfl, h1⟩; have h1' := h1.symm; subst h1')
                | (go_at_call 14; refine HRc.out.mono ?_; rintro e w4 ⟨rfl, hB4⟩; have H4 := hide' (H.out.below hB4); clear hB4; have c4 := fun o1 => ((H4.out.alloc o1).mb.cell (j := 13) rfl); have HOa : Hid (w4.ownsRow wc.heap.size 48 5 (.slice pL Y.length cL) Y.length (rcells Y)) := H4.out.rows.d; have hsz4 := H4.out.sz; have hMl4 : wa.heap.size < w4.heap.size := H4.out.mb.lt)
                | (at_builtin; refine wpList_append_apart _ rfl _ _ 24 rfl wc.heap.size 48 i0 (.agg #[.string ⟨#[]⟩, .int .i64 0, .int .i64 0, .int .i64 0, .string ⟨#[]⟩]) 5 56 Try.underlying24 hi hz0 hz1 hz2 rfl (by decide) _ _ _ rfl ((HOa.out.alloc _).alloc _) ⟨w4.heap.size + 1, 0, none⟩ 1 1 [.string xo, .int .i64 xt, .int .i64 xc, .int .i64 xl, .string xd] rfl rfl (by have := row_newR (w4.alloc (.cells #[.string xo, .int .i64 xt, .int .i64 xc, .int .i64 xl, .string xd] 48)) #[.string xo, .int .i64 xt, .int .i64 xc, .int .i64 xl, .string xd] 48; rw [World.size_alloc] at this; exact this) (by simp [Value.oneCell']) (by unfold maxLen; omega) (by omega) (by simp; omega) ?_; intro v6 w6 hown6 hgrow6 hpl6; obtain ⟨p6, c6, rfl, _⟩ := own_shape hown6; have HO6 := hide' hown6; have HG6 := hide' hgrow6; have HPl := hide' hpl6; obtain ⟨cc6, ff6⟩ := US6 H4.out hgrow6 13 (y := .slice pL Y.length cL) (fun q e => (H4.out.rows.d.lt q e).1) rfl; clear hown6 hgrow6 hpl6))
              have HAp := H.out.rows
              have hrows := (H4.out.alloc (.cells #[.string xo, .int .i64 xt, .int .i64 xc, .int .i64 xl, .string xd] 48)).alloc (.cells #[.string xo, .int .i64 xt, .int .i64 xc, .int .i64 xl, .string xd] 48)
              have HPn := hrows.push (vo := .slice pL Y.length cL) (fun q e => (HOa.out.lt q e).1) HG6.out 13 (.slice p6 (Y.length + 1) c6) (vq2 := vq) (va2 := va) (vu2 := vu) (vd2 := (.slice p6 (Y.length + 1) c6)) (ls2 := ⟨L, A, U, Y ++ [⟨xo, xt, xc, xl, xd⟩]⟩) rfl ⟨own_apart hrows.rows.q HG6.out HAp.qd, own_apart hrows.rows.a HG6.out HAp.ad, own_apart hrows.rows.u HG6.out HAp.ud, by rw [List.length_append, rcells_app]; exact HO6.out, HAp.qa, HAp.qu, apart_place hrows.rows.q HAp.qd HPl.out, HAp.au, apart_place hrows.rows.a HAp.ad HPl.out, apart_place hrows.rows.u HAp.ud HPl.out⟩
              go_roundw
              case rel => refine ⟨_, _, _, _, _, _, _, _, _, _, _, _, _, _, _, _, _, _, _, _, _, _, _, _, _, _, _, _, _, _, _, _, _, _, _, _, _, _, _, _, _, _, _, _, _, _, _, _, _, _, _, _, _, _, _, _, ⟨j + 1, k3, Y ++ [(⟨xo, xt, xc, xl, xd⟩ : Rn)], (.slice p6 (Y.length + 1) c6), ?_, rfl, by omega, hk3, by rw [List.length_append, HLN.out]; rfl, hide' HPn, HQ⟩, rfl⟩; go_num
              case measure => simp [intOf]; omega
          · have hj0 : cn - j = 0 := by omega
            have HXn : Hid (parts4 B = pe4 B L A U Y k2) := by unfold Hid; rw [HXs.out]; unfold pd4; rw [HCN.out, HR.out, hj0, rs]
            clear hj0
            go_wp2_with (go_at_call 12; refine (HNs.out _).mono ?_; rintro e w1 ⟨rfl, h1⟩; have h1' := h1.symm; subst h1')
            refine ⟨⟨3, k2, by go_num, rfl, by omega, hk2, ⟨vq, va, vu, vL, A, U, Y, H.out, HXn.out⟩⟩, ?_⟩
            simp [intOf]
    · obtain rfl : sn = 3 := by omega
      obtain ⟨vq, va, vu, vd, A, U, D, hU, hX⟩ := HU.out
      have HU2 := hide' hU
      by_cases hlast : kk < B.size
      · have HQ : Hid (upk B = .error (11, kk)) := by unfold Hid; rw [HX.out, hX]; unfold pe4; rw [if_pos hlast]
        obtain ⟨r0, r1, r2, r3, r4, r5, r6, r7, r8, r9, r10, r11, r12, r13⟩ := bx14 HU2.out.um.r; obtain ⟨f0, f1, f2, f3, f4, f5, f6, f7, f8, f9, f10, f11, f12, f13⟩ := bx14_free HU2.out.um.r; obtain ⟨m0, m1, m2, m3, m4, m5, m6, m7, m8, m9, m10, m11, m12, m13⟩ := bx14 HU2.out.um.n
        clear hX hU
        go_wp2_with fail
        refine HK.out _ _ ?_
        conv => arg 2; whnf
        go_wp2_with fail
        obtain ⟨q0, q1, q2, q3, q4, q5, q6, q7, q8, q9, q10, q11, q12, q13⟩ := bx14 (bx14_set HU2.out.um.r (.int .i64 0) (.bool false) (.int .i64 0) (.bool false) (.bool false) (.bool false) (.bool false) (.bool false) (.bool false) (.int .i64 0) (.slice none 0 0) (.slice none 0 0) (.slice none 0 0) (.slice none 0 0))
        unfold set14 at q0 q1 q2 q3 q4 q5 q6 q7 q8 q9 q10 q11 q12 q13
        refine bodyPost_ret (v := .tuple #[.agg mz, .int .i64 (kk : Int), .int .i64 11]) (by simp [results, go_sem, mz, q0, q1, q2, q3, q4, q5, q6, q7, q8, q9, q10, q11, q12, q13]) rfl ?_
        unfold upEnd
        rw [HQ.out]
        exact ⟨rfl, below14 HU2.out.um.bl (Nat.le_refl _) HU2.out.um.bl.size (.int .i64 0) (.bool false) (.int .i64 0) (.bool false) (.bool false) (.bool false) (.bool false) (.bool false) (.bool false) (.int .i64 0) (.slice none 0 0) (.slice none 0 0) (.slice none 0 0) (.slice none 0 0)⟩
      · have HQ : Hid (upk B = .ok ⟨L, A, U, D⟩) := by unfold Hid; rw [HX.out, hX]; unfold pe4; rw [if_neg hlast]
        obtain ⟨p1, n1, rfl, _⟩ := own_shape hU.rows.q
        obtain ⟨p2, n2, rfl, _⟩ := own_shape hU.rows.a
        obtain ⟨p3, n3, rfl, _⟩ := own_shape hU.rows.u
        obtain ⟨p4, n4, rfl, _⟩ := own_shape hU.rows.d
        obtain ⟨r0, r1, r2, r3, r4, r5, r6, r7, r8, r9, r10, r11, r12, r13⟩ := bx14 HU2.out.um.r; obtain ⟨f0, f1, f2, f3, f4, f5, f6, f7, f8, f9, f10, f11, f12, f13⟩ := bx14_free HU2.out.um.r
        obtain ⟨e0, e1, e2, e3, e4, e5, e6, e7, e8, e9, e10, e11, e12, e13⟩ := bx14 (hU.mb : Bx wr wa.heap.size #[.int .i64 (id : Int), .bool (sg v 15), .int .i64 (op : Int), .bool (sg v 10), .bool (sg v 9), .bool (sg v 8), .bool (sg v 7), .bool (sg v 5), .bool (sg v 4), .int .i64 (rc : Int), (.slice p1 L.length n1), (.slice p2 A.length n2), (.slice p3 U.length n3), (.slice p4 D.length n4)] 26)
        clear hX hU
        go_wp2_with fail
        refine HK.out _ _ ?_
        conv => arg 2; whnf
        go_wp2_with fail
        obtain ⟨q0, q1, q2, q3, q4, q5, q6, q7, q8, q9, q10, q11, q12, q13⟩ := bx14 (bx14_set HU2.out.um.r (.int .i64 (id : Int)) (.bool (sg v 15)) (.int .i64 (op : Int)) (.bool (sg v 10)) (.bool (sg v 9)) (.bool (sg v 8)) (.bool (sg v 7)) (.bool (sg v 5)) (.bool (sg v 4)) (.int .i64 (rc : Int)) (.slice p1 L.length n1) (.slice p2 A.length n2) (.slice p3 U.length n3) (.slice p4 D.length n4))
        unfold set14 at q0 q1 q2 q3 q4 q5 q6 q7 q8 q9 q10 q11 q12 q13
        refine bodyPost_ret (v := .tuple #[.agg (mcs id op rc v (.slice p1 L.length n1) (.slice p2 A.length n2) (.slice p3 U.length n3) (.slice p4 D.length n4)), .int .i64 0, .int .i64 0]) (by simp [results, go_sem, mcs, q0, q1, q2, q3, q4, q5, q6, q7, q8, q9, q10, q11, q12, q13]) rfl ?_
        unfold upEnd
        rw [HQ.out, HV.out, HID.out, HOP.out, HRC.out]
        refine ⟨_, _, _, _, rfl, (mg14 HU2.out.rows ?_ (.int .i64 (id : Int)) (.bool (sg v 15)) (.int .i64 (op : Int)) (.bool (sg v 10)) (.bool (sg v 9)) (.bool (sg v 8)) (.bool (sg v 7)) (.bool (sg v 5)) (.bool (sg v 4)) (.int .i64 (rc : Int)) (.slice p1 L.length n1) (.slice p2 A.length n2) (.slice p3 U.length n3) (.slice p4 D.length n4)).low ?_, below14 HU2.out.um.bl (Nat.le_refl _) HU2.out.um.bl.size (.int .i64 (id : Int)) (.bool (sg v 15)) (.int .i64 (op : Int)) (.bool (sg v 10)) (.bool (sg v 9)) (.bool (sg v 8)) (.bool (sg v 7)) (.bool (sg v 5)) (.bool (sg v 4)) (.int .i64 (rc : Int)) (.slice p1 L.length n1) (.slice p2 A.length n2) (.slice p3 U.length n3) (.slice p4 D.length n4)⟩
        · have := HU2.out.um.hM; have := HU2.out.um.hN; have := HU2.out.hn; omega
        · have := HU2.out.um.hM; have := HU2.out.um.hN; have := HU2.out.hn; omega
end Go.Proofs.Ytnnmgcdhidmmeaa
