import Derived.Test.YthabenjghhmicaaGreatZi5
import Derived.Test.YthabenjghhmicaaGreatZgpG
/-
  Proofs: ZoneGives: what is found stands there. (The verifier's own text.)
-/
namespace Go.Proofs.YthabenjghhmicaaGreat
set_option linter.unusedVariables false
set_option linter.unusedSimpArgs false
open Go.RowKit Go.Shelf Go.Maps Go.Proofs.YthabenjghhmicaaGreat.Nm Go.Proofs.YthabenjghhmicaaGreat.Zs


set_option maxRecDepth 100000 in
set_option maxHeartbeats 16000000 in
theorem gives_wild (L : List Rn) (p : Option Addr) (cap : Nat) (q : ByteArray) (w wb : World) (fb : Nat) (fo fe : ByteArray) (fk : Int) (fp : Option Addr) (fr : List Rn) (fc : Nat) (hL : L.length ≤ 1048576) (HAT : Hid (RsAt w p L)) (HS : Hid (∀ j, j < L.length → rSm (rAt L j))) (hq : q.size ≤ 1048576) (HE1 : Hid (Below w.heap.size w wb)) (HFb : Hid (Bx wb fb #[.int .i64 fk, .string fo, .string fe, .bool true, .slice fp fr.length fc] 34)) (HRb : Hid (RsAt wb fp fr)) (HG : Hid (∀ y ∈ fr, thereB L q fo true y)) (HFR : Hid (fr.length ≤ 2000)) (HFO : Hid (fo.size ≤ maxLen))
    (x0 x3 x4 x5 x6 x7 x8 x9 x10 x11 x12 x13 x14 x15 x16 x17 x19 x20 x21 x22 x23 x24 x25 x26 x27 x28 x29 x30 x31 x32 x33 x34 x35 x36 x37 x38 x39 x40 x41 x42 x43 x44 x45 x46 x47 x48 x49 x50 x51 x52 x53 x54 x55 x56 x57 x58 x59 x60 x61 x62 x63 x64 x65 x66 x67 x68 x69 x70 x71 x72 x73 x74 x75 x76 x77 x78 x79 x80 x81 x82 x83 x84 x85 x86 x87 x88 x89 x90 x91 x92 x93 x94 x95 x96 x97 x98 x99 x100 x101 x102 x103 x104 x105 x106 x107 x108 x109 x110 x111 x112 x113 x114 x115 x116 x117 x118 x119 x120 x121 x122 x123 x124 x125 x126 x127 x128 x129 x130 x131 x132 x133 x134 x135 x136 x137 x138 x139 x140 x141 x142 x143 x144 x145 x146 x147 x148 x149 x150 x151 x152 x153 x154 x155 x156 x157 x158 x159 x160 x161 x162 x163 x164 x165 x166 x167 x168 x169 x170 : Value) :
    Code.wp Tryz.prog (((Tryz.f6.body.map (tailsN 21)).getD []).getD 0 .skip) (bodyPost Tryz.prog Tryz.f6 fun r w' => r = .returned (.bool true) ∧ Below w.heap.size w w') ⟨List.toArray (x0 :: (.slice p L.length cap : Value) :: (.string q : Value) :: x3 :: x4 :: x5 :: x6 :: x7 :: x8 :: x9 :: x10 :: x11 :: x12 :: x13 :: x14 :: x15 :: x16 :: x17 :: (.pointer (some ⟨fb, 0, none⟩) : Value) :: x19 :: x20 :: x21 :: x22 :: x23 :: x24 :: x25 :: x26 :: x27 :: x28 :: x29 :: x30 :: x31 :: x32 :: x33 :: x34 :: x35 :: x36 :: x37 :: x38 :: x39 :: x40 :: x41 :: x42 :: x43 :: x44 :: x45 :: x46 :: x47 :: x48 :: x49 :: x50 :: x51 :: x52 :: x53 :: x54 :: x55 :: x56 :: x57 :: x58 :: x59 :: x60 :: x61 :: x62 :: x63 :: x64 :: x65 :: x66 :: x67 :: x68 :: x69 :: x70 :: x71 :: x72 :: x73 :: x74 :: x75 :: x76 :: x77 :: x78 :: x79 :: x80 :: x81 :: x82 :: x83 :: x84 :: x85 :: x86 :: x87 :: x88 :: x89 :: x90 :: x91 :: x92 :: x93 :: x94 :: x95 :: x96 :: x97 :: x98 :: x99 :: x100 :: x101 :: x102 :: x103 :: x104 :: x105 :: x106 :: x107 :: x108 :: x109 :: x110 :: x111 :: x112 :: x113 :: x114 :: x115 :: x116 :: x117 :: x118 :: x119 :: x120 :: x121 :: x122 :: x123 :: x124 :: x125 :: x126 :: x127 :: x128 :: x129 :: x130 :: x131 :: x132 :: x133 :: x134 :: x135 :: x136 :: x137 :: x138 :: x139 :: x140 :: x141 :: x142 :: x143 :: x144 :: x145 :: x146 :: x147 :: x148 :: x149 :: x150 :: x151 :: x152 :: x153 :: x154 :: x155 :: x156 :: x157 :: x158 :: x159 :: x160 :: x161 :: x162 :: x163 :: x164 :: x165 :: x166 :: x167 :: x168 :: x169 :: x170 :: []), []⟩ wb := by
  have HCA : Hid (∀ V, Below wb.heap.size wb V → V.cell? ⟨fb, 1, none⟩ = some (.string fo) ∧ V.cell? ⟨fb, 3, none⟩ = some (.bool true) ∧ V.cell? ⟨fb, 4, none⟩ = some (.slice fp fr.length fc)) := fun V hV => by
    obtain ⟨b0, b1, b2, b3, b4, _⟩ := bx5_cells (HFb.out.below hV HFb.out.lt)
    exact ⟨b1, b3, b4⟩
  obtain ⟨a1, a3, a4⟩ := HCA.out _ (Below.refl wb.heap.size wb)
  have HRW := hide' (rs_stay HAT.out HE1.out)
  conv => arg 2; whnf
  go_wp2_with fail
  go_loopw [108] (fun iv wv => ∃ i : Nat, iv = .int .i64 (i : Int) ∧ i ≤ fr.length ∧ Hid (Below wb.heap.size wb wv)) (fun iv _ => fr.length - (intOf iv).toNat)
  case atStart => exact ⟨0, rfl, Nat.zero_le _, Below.refl _ _⟩
  case round =>
    obtain ⟨i, rfl, hi, HBi⟩ := hrel
    have hfl := HFR.out
    obtain ⟨wi, rfl⟩ : ∃ wi, wi = wr := ⟨_, rfl⟩
    obtain ⟨a1, a3, a4⟩ := HCA.out _ HBi.out
    by_cases hil : i < fr.length
    · have pi' : (i : Int) < (fr.length : Int) := by omega
      obtain ⟨gy, oy, hpy, hgy, n0, n1, n2, n3, n4⟩ := (rs_stay HRb.out HBi.out) i hil
      subst hpy
      have HTh := hide' (fit_there (HG.out _ (List.getElem_mem hil)))
      obtain ⟨y, hy⟩ : ∃ y, fr[i] = y := ⟨_, rfl⟩
      rw [hy] at n0 n1 n2 n3 n4 HTh
      clear hy
      obtain ⟨yo, yt, yc, yl, yd⟩ := y
      simp only at n0 n1 n2 n3 n4
      obtain ⟨wy, hwy⟩ : ∃ wy, wi.alloc (.cells #[.string yo, .int .i64 yt, .int .i64 yc, .int .i64 yl, .string yd] 54) = wy := ⟨_, rfl⟩
      have HBy : Hid (Below wi.heap.size wi wy) := hwy ▸ (Below.refl _ wi).alloc (Nat.le_refl _) _
      obtain ⟨yb, hyb⟩ : ∃ yb, wi.heap.size = yb := ⟨_, rfl⟩
      have HYy : Hid (Bx wy yb #[.string yo, .int .i64 yt, .int .i64 yc, .int .i64 yl, .string yd] 54) := hyb ▸ hwy ▸ World.alloc_heap_new wi _
      have HBb2 := hide' (bstep HBi.out HBy.out HBi.out.size)
      have HRW2 := hide' (rs_stay HRW.out HBb2.out)
      have HCB : Hid (∀ V, Below wy.heap.size wy V → V.cell? ⟨fb, 1, none⟩ = some (.string fo) ∧ V.cell? ⟨fb, 3, none⟩ = some (.bool true) ∧ V.cell? ⟨yb, 0, none⟩ = some (.string yo) ∧ V.cell? ⟨yb, 1, none⟩ = some (.int .i64 yt) ∧ V.cell? ⟨yb, 2, none⟩ = some (.int .i64 yc) ∧ V.cell? ⟨yb, 3, none⟩ = some (.int .i64 yl) ∧ V.cell? ⟨yb, 4, none⟩ = some (.string yd)) := fun V hV => by
        obtain ⟨b1, b3, b4⟩ := HCA.out V (bstep HBb2.out hV HBb2.out.size)
        obtain ⟨d0, d1, d2, d3, d4, _⟩ := bx5_cells (HYy.out.below hV HYy.out.lt)
        exact ⟨b1, b3, d0, d1, d2, d3, d4⟩
      go_wp2_with fail
      go_loopw [21, 114] (fun iv jv wv => ∃ j : Nat, jv = .int .i64 (j : Int) ∧ j ≤ L.length ∧ (∃ b, iv = .bool b ∧ Hid (b = amF (fitP q fo true ⟨yo, yt, yc, yl, yd⟩) L j)) ∧ Hid (Below wy.heap.size wy wv)) (fun _ jv _ => L.length - (intOf jv).toNat)
      case atStart => exact ⟨0, rfl, Nat.zero_le _, ⟨false, rfl, rfl⟩, Below.refl _ _⟩
      case round =>
        obtain ⟨j, rfl, hj, ⟨b, rfl, HB⟩, HBj⟩ := hrel
        by_cases hjl : j < L.length
        · have pj : (j : Int) < (L.length : Int) := by omega
          obtain ⟨gx, ox, hpx, hgx, n0, n1, n2, n3, n4⟩ := (rs_stay HRW2.out HBj.out) j hjl
          subst hpx
          have hsm := HS.out j hjl
          rw [← rAt_get hjl] at hsm
          have HSu := hide' (amF_succ (P := fitP q fo true ⟨yo, yt, yc, yl, yd⟩) hjl)
          rw [← HB.out] at HSu
          have HEq := hide' (fun V => equal_any L[j].o fo V (by have := hsm.1; unfold maxLen; omega) HFO.out)
          have HWi := hide' (fun V => within_any q L[j].o V (by unfold maxLen; omega) (by have := hsm.1; unfold maxLen; omega))
          obtain ⟨x, hx⟩ : ∃ x, L[j] = x := ⟨_, rfl⟩
          rw [hx] at n0 n1 n2 n3 n4 HSu HEq HWi
          clear hx hsm
          obtain ⟨xo, xt, xc, xl, xd⟩ := x
          simp only at n0 n1 n2 n3 n4 HEq HWi
          obtain ⟨wx, hwx⟩ : ∃ wx, wr.alloc (.cells #[.string xo, .int .i64 xt, .int .i64 xc, .int .i64 xl, .string xd] 54) = wx := ⟨_, rfl⟩
          have HBx : Hid (Below wr.heap.size wr wx) := hwx ▸ (Below.refl _ wr).alloc (Nat.le_refl _) _
          have HXx : Hid (Bx wx wr.heap.size #[.string xo, .int .i64 xt, .int .i64 xc, .int .i64 xl, .string xd] 54) := hwx ▸ World.alloc_heap_new wr _
          have HEn : Hid (∀ V, Below wx.heap.size wx V → Below wy.heap.size wy V) := fun V hV => bstep (bstep HBj.out HBx.out HBj.out.size) hV (bstep HBj.out HBx.out HBj.out.size).size
          have HCX : Hid (∀ V, Below wx.heap.size wx V → V.cell? ⟨wr.heap.size, 0, none⟩ = some (.string xo) ∧ V.cell? ⟨wr.heap.size, 1, none⟩ = some (.int .i64 xt) ∧ V.cell? ⟨wr.heap.size, 2, none⟩ = some (.int .i64 xc) ∧ V.cell? ⟨wr.heap.size, 3, none⟩ = some (.int .i64 xl) ∧ V.cell? ⟨wr.heap.size, 4, none⟩ = some (.string xd)) := fun V hV => by
            obtain ⟨d0, d1, d2, d3, d4, _⟩ := bx5_cells (HXx.out.below hV HXx.out.lt)
            exact ⟨d0, d1, d2, d3, d4⟩
          have hB := Below.refl wx.heap.size wx
          obtain ⟨m0, m1, m2, m3, m4⟩ := HCX.out _ hB
          obtain ⟨c1, c3, d0, d1, d2, d3, d4⟩ := HCB.out _ (HEn.out _ hB)
          cases b with
          | true =>
            go_wp2_with fail
            exact ⟨⟨j + 1, by go_num, by omega, ⟨true, rfl, (show true = _ by rw [HSu.out]; rfl)⟩, HEn.out _ hB⟩, by simp [intOf] <;> omega⟩
          | false =>
            cases hE : eqB xo fo with
            | false =>
              rw [hE] at HEq
              have HEE := hide' hE
              clear hE
              go_wp2_with (go_at_call 27; refine (HEq.out _).mono ?_; rintro e w6 ⟨rfl, hB5⟩; have hB := bstep hB hB5 hB.size; obtain ⟨m0, m1, m2, m3, m4⟩ := HCX.out _ hB; obtain ⟨c1, c3, d0, d1, d2, d3, d4⟩ := HCB.out _ (HEn.out _ hB); clear hB5)
              exact ⟨⟨j + 1, by go_num, by omega, ⟨false, rfl, (show false = _ by rw [HSu.out]; simp [fitP, HEE.out])⟩, HEn.out _ hB⟩, by simp [intOf] <;> omega⟩
            | true =>
              rw [hE] at HEq
              have HEE := hide' hE
              clear hE
              by_cases hh : xt = yt
              · have HQ0 := hide' hh
                have hq0 : (xt == yt) = true := by simp [hh]
                clear hh
                by_cases hh : xd = yd
                · have HQ1 := hide' hh
                  have hq1 : (xd.toList == yd.toList) = true := by rw [toList_bt]; exact decide_eq_true hh
                  clear hh
                  by_cases hh : xl = yl
                  · have HQ2 := hide' hh
                    have hq2 : (xl == yl) = true := by simp [hh]
                    clear hh
                    by_cases hh : yo = q
                    · have HQ3 := hide' hh
                      have hq3 : (yo.toList == q.toList) = true := by rw [toList_bt]; exact decide_eq_true hh
                      clear hh
                      go_wp2_with (go_at_call 27; refine (HEq.out _).mono ?_; rintro e w6 ⟨rfl, hB5⟩; have hB := bstep hB hB5 hB.size; obtain ⟨m0, m1, m2, m3, m4⟩ := HCX.out _ hB; obtain ⟨c1, c3, d0, d1, d2, d3, d4⟩ := HCB.out _ (HEn.out _ hB); clear hB5)
                      exact ⟨⟨j + 1, by go_num, by omega, ⟨true, rfl, (show true = _ by rw [HSu.out]; simp [fitP, HEE.out, HQ0.out, HQ1.out, HQ2.out, HQ3.out])⟩, HEn.out _ hB⟩, by simp [intOf] <;> omega⟩
                    · have HQ3 := hide' hh
                      have hq3 : (yo.toList == q.toList) = false := by rw [toList_bt]; exact decide_eq_false hh
                      clear hh
                      go_wp2_with (go_at_call 27; refine (HEq.out _).mono ?_; rintro e w6 ⟨rfl, hB5⟩; have hB := bstep hB hB5 hB.size; obtain ⟨m0, m1, m2, m3, m4⟩ := HCX.out _ hB; obtain ⟨c1, c3, d0, d1, d2, d3, d4⟩ := HCB.out _ (HEn.out _ hB); clear hB5)
                      exact ⟨⟨j + 1, by go_num, by omega, ⟨false, rfl, (show false = _ by rw [HSu.out]; simp [fitP, HEE.out, HQ0.out, HQ1.out, HQ2.out, HQ3.out])⟩, HEn.out _ hB⟩, by simp [intOf] <;> omega⟩
                  · have HQ2 := hide' hh
                    have hq2 : (xl == yl) = false := by simp [hh]
                    clear hh
                    go_wp2_with (go_at_call 27; refine (HEq.out _).mono ?_; rintro e w6 ⟨rfl, hB5⟩; have hB := bstep hB hB5 hB.size; obtain ⟨m0, m1, m2, m3, m4⟩ := HCX.out _ hB; obtain ⟨c1, c3, d0, d1, d2, d3, d4⟩ := HCB.out _ (HEn.out _ hB); clear hB5)
                    exact ⟨⟨j + 1, by go_num, by omega, ⟨false, rfl, (show false = _ by rw [HSu.out]; simp [fitP, HEE.out, HQ0.out, HQ1.out, HQ2.out])⟩, HEn.out _ hB⟩, by simp [intOf] <;> omega⟩
                · have HQ1 := hide' hh
                  have hq1 : (xd.toList == yd.toList) = false := by rw [toList_bt]; exact decide_eq_false hh
                  clear hh
                  go_wp2_with (go_at_call 27; refine (HEq.out _).mono ?_; rintro e w6 ⟨rfl, hB5⟩; have hB := bstep hB hB5 hB.size; obtain ⟨m0, m1, m2, m3, m4⟩ := HCX.out _ hB; obtain ⟨c1, c3, d0, d1, d2, d3, d4⟩ := HCB.out _ (HEn.out _ hB); clear hB5)
                  exact ⟨⟨j + 1, by go_num, by omega, ⟨false, rfl, (show false = _ by rw [HSu.out]; simp [fitP, HEE.out, HQ0.out, HQ1.out])⟩, HEn.out _ hB⟩, by simp [intOf] <;> omega⟩
              · have HQ0 := hide' hh
                have hq0 : (xt == yt) = false := by simp [hh]
                clear hh
                go_wp2_with (go_at_call 27; refine (HEq.out _).mono ?_; rintro e w6 ⟨rfl, hB5⟩; have hB := bstep hB hB5 hB.size; obtain ⟨m0, m1, m2, m3, m4⟩ := HCX.out _ hB; obtain ⟨c1, c3, d0, d1, d2, d3, d4⟩ := HCB.out _ (HEn.out _ hB); clear hB5)
                exact ⟨⟨j + 1, by go_num, by omega, ⟨false, rfl, (show false = _ by rw [HSu.out]; simp [fitP, HEE.out, HQ0.out])⟩, HEn.out _ hB⟩, by simp [intOf] <;> omega⟩
        · obtain rfl : j = L.length := by omega
          have hbt : b = true := by rw [HB.out]; exact HTh.out
          subst hbt
          go_wp2_with fail
          exact ⟨⟨i + 1, by go_num, by omega, bstep HBb2.out HBj.out HBb2.out.size⟩, by simp [intOf] <;> omega⟩
    · obtain rfl : i = fr.length := by omega
      go_wp2_with fail
      go_ret
      exact ⟨rfl, bstep HE1.out HBi.out HE1.out.size⟩
end Go.Proofs.YthabenjghhmicaaGreat
