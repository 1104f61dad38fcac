import Derived.Test.YtoabnpdoicbpiaaGreatZr1G
namespace Go.Proofs.YtoabnpdoicbpiaaGreat
set_option linter.unusedVariables false
set_option linter.unusedSimpArgs false
open Go.RowKit Go.Shelf Go.Maps Go.Proofs.YtoabnpdoicbpiaaGreat.Nm
set_option maxRecDepth 100000 in
set_option maxHeartbeats 4000000 in
theorem brk3_any (apex : ByteArray) (L : List Rn) (p : Option Addr) (cap k : Nat) (w : World) (hL : L.length ≤ 1048576) (hat : RsAt w p L) (hs : ∀ j, j < L.length → rSm (rAt L j)) (hap : apex.size ≤ 1048576) (hk : k < L.length) :
  Calls Tryz.prog 81 #[.int .i64 3, .string apex, .slice p L.length cap, .int .i64 (k : Int)] w fun r w' => r = .returned (.bool (brk3 apex (rAt L k))) ∧ Below w.heap.size w w' := by
 obtain ⟨g, off, hp⟩ := rs_at hat hk
 subst hp
 have HAT := hide' hat
 have HSm := hide' hs
 have HXX : Hid (rSm (rAt L k)) := hs k hk
 obtain ⟨q0, q1, q2, q3, q4⟩ := rs_cells hat rfl hk (Below.refl _ w)
 have K0 := hide' (Bk.start w (rAt L k))
 obtain ⟨x, hx⟩ : ∃ x, rAt L k = x := ⟨_, rfl⟩
 rw [hx] at q0 q1 q2 q3 q4 HXX K0
 try rw [hx]
 have HX := hide' hx
 clear hx hat hs
 have HJ : Hid (∀ j, j < L.length → ∀ V, Below w.heap.size w V → V.cell? ⟨g, off + j * 5, none⟩ = some (.string (rAt L j).o) ∧ V.cell? ⟨g, off + j * 5 + 1, none⟩ = some (.int .i64 (rAt L j).t) ∧ V.cell? ⟨g, off + j * 5 + 2, none⟩ = some (.int .i64 (rAt L j).c) ∧ V.cell? ⟨g, off + j * 5 + 3, none⟩ = some (.int .i64 (rAt L j).l) ∧ V.cell? ⟨g, off + j * 5 + 4, none⟩ = some (.string (rAt L j).d)) := fun j hj V hV => rs_cells HAT.out rfl hj hV
 have pk1 : (0 : Int) ≤ (k : Int) := by omega
 have pk2 : (k : Int) < (L.length : Int) := by omega
 obtain ⟨wa, hwa⟩ : ∃ wa, w.alloc (.cells #[.string x.o, .int .i64 x.t, .int .i64 x.c, .int .i64 x.l, .string x.d] 29) = wa := ⟨_, rfl⟩
 rw [hwa] at K0
 have HK : Hid (∀ V, Below wa.heap.size wa V → Bk w V x) := fun V hV => K0.out.step hV
 obtain ⟨v0, v1, v2, v3, v4⟩ := K0.out.cells
 obtain ⟨xo, xt, xc, xl, xd⟩ := x
 simp only at q0 q1 q2 q3 q4 v0 v1 v2 v3 v4 hwa
 have HW := hide' (fun V => refWithin_any xo apex V HXX.out.1 hap)
 show Calls _ _ _ _ fun r w' => r = .returned (.bool (!withinB xo apex)) ∧ _
 go_enter Tryz.func81, Tryz.ntmps81
 go_wp2_with (go_at_call 111; refine (HW.out _).mono ?_; rintro e w5 ⟨rfl, hB5⟩)
 go_ret
 exact ⟨rfl, (HK.out _ hB5).bl⟩
set_option maxRecDepth 100000 in
set_option maxHeartbeats 4000000 in
theorem brk7_any (apex : ByteArray) (L : List Rn) (p : Option Addr) (cap k : Nat) (w : World) (hL : L.length ≤ 1048576) (hat : RsAt w p L) (hs : ∀ j, j < L.length → rSm (rAt L j)) (hap : apex.size ≤ 1048576) (hk : k < L.length) :
  Calls Tryz.prog 81 #[.int .i64 7, .string apex, .slice p L.length cap, .int .i64 (k : Int)] w fun r w' => r = .returned (.bool (brk7 (rAt L k))) ∧ Below w.heap.size w w' := by
 obtain ⟨g, off, hp⟩ := rs_at hat hk
 subst hp
 have HAT := hide' hat
 have HSm := hide' hs
 have HXX : Hid (rSm (rAt L k)) := hs k hk
 obtain ⟨q0, q1, q2, q3, q4⟩ := rs_cells hat rfl hk (Below.refl _ w)
 have K0 := hide' (Bk.start w (rAt L k))
 obtain ⟨x, hx⟩ : ∃ x, rAt L k = x := ⟨_, rfl⟩
 rw [hx] at q0 q1 q2 q3 q4 HXX K0
 try rw [hx]
 have HX := hide' hx
 clear hx hat hs
 have HJ : Hid (∀ j, j < L.length → ∀ V, Below w.heap.size w V → V.cell? ⟨g, off + j * 5, none⟩ = some (.string (rAt L j).o) ∧ V.cell? ⟨g, off + j * 5 + 1, none⟩ = some (.int .i64 (rAt L j).t) ∧ V.cell? ⟨g, off + j * 5 + 2, none⟩ = some (.int .i64 (rAt L j).c) ∧ V.cell? ⟨g, off + j * 5 + 3, none⟩ = some (.int .i64 (rAt L j).l) ∧ V.cell? ⟨g, off + j * 5 + 4, none⟩ = some (.string (rAt L j).d)) := fun j hj V hV => rs_cells HAT.out rfl hj hV
 have pk1 : (0 : Int) ≤ (k : Int) := by omega
 have pk2 : (k : Int) < (L.length : Int) := by omega
 obtain ⟨wa, hwa⟩ : ∃ wa, w.alloc (.cells #[.string x.o, .int .i64 x.t, .int .i64 x.c, .int .i64 x.l, .string x.d] 29) = wa := ⟨_, rfl⟩
 rw [hwa] at K0
 have HK : Hid (∀ V, Below wa.heap.size wa V → Bk w V x) := fun V hV => K0.out.step hV
 obtain ⟨v0, v1, v2, v3, v4⟩ := K0.out.cells
 obtain ⟨xo, xt, xc, xl, xd⟩ := x
 simp only at q0 q1 q2 q3 q4 v0 v1 v2 v3 v4 hwa
 have HW := hide' (fun V => refIsStar_any xo V HXX.out.1)
 show Calls _ _ _ _ fun r w' => r = .returned (.bool ((decide (xt = 2) || decide (xt = 39)) && isStarB xo)) ∧ _
 by_cases h2 : xt = 2
 ·subst h2
  go_enter Tryz.func81, Tryz.ntmps81
  go_wp2_with (go_at_call 114; refine (HW.out _).mono ?_; rintro e w5 ⟨rfl, hB5⟩)
  go_ret
  exact ⟨by simp, (HK.out _ hB5).bl⟩
 ·have h2b : (xt == 2) = false := by simp [h2]
  by_cases h3 : xt = 39
  ·subst h3
   go_enter Tryz.func81, Tryz.ntmps81
   go_wp2_with (go_at_call 114; refine (HW.out _).mono ?_; rintro e w5 ⟨rfl, hB5⟩)
   go_ret
   exact ⟨by simp, (HK.out _ hB5).bl⟩
  ·have h3b : (xt == 39) = false := by simp [h3]
   go_enter Tryz.func81, Tryz.ntmps81
   go_wp2_with fail
   go_ret
   exact ⟨by simp [h2, h3], K0.out.bl⟩
set_option maxRecDepth 100000 in
set_option maxHeartbeats 4000000 in
theorem brk6_any (apex : ByteArray) (L : List Rn) (p : Option Addr) (cap k : Nat) (w : World) (hL : L.length ≤ 1048576) (hat : RsAt w p L) (hs : ∀ j, j < L.length → rSm (rAt L j)) (hap : apex.size ≤ 1048576) (hk : k < L.length) :
  Calls Tryz.prog 81 #[.int .i64 6, .string apex, .slice p L.length cap, .int .i64 (k : Int)] w fun r w' => r = .returned (.bool (false)) ∧ Below w.heap.size w w' := by
 obtain ⟨g, off, hp⟩ := rs_at hat hk
 subst hp
 have HAT := hide' hat
 have HSm := hide' hs
 have HXX : Hid (rSm (rAt L k)) := hs k hk
 obtain ⟨q0, q1, q2, q3, q4⟩ := rs_cells hat rfl hk (Below.refl _ w)
 have K0 := hide' (Bk.start w (rAt L k))
 obtain ⟨x, hx⟩ : ∃ x, rAt L k = x := ⟨_, rfl⟩
 rw [hx] at q0 q1 q2 q3 q4 HXX K0
 try rw [hx]
 have HX := hide' hx
 clear hx hat hs
 have HJ : Hid (∀ j, j < L.length → ∀ V, Below w.heap.size w V → V.cell? ⟨g, off + j * 5, none⟩ = some (.string (rAt L j).o) ∧ V.cell? ⟨g, off + j * 5 + 1, none⟩ = some (.int .i64 (rAt L j).t) ∧ V.cell? ⟨g, off + j * 5 + 2, none⟩ = some (.int .i64 (rAt L j).c) ∧ V.cell? ⟨g, off + j * 5 + 3, none⟩ = some (.int .i64 (rAt L j).l) ∧ V.cell? ⟨g, off + j * 5 + 4, none⟩ = some (.string (rAt L j).d)) := fun j hj V hV => rs_cells HAT.out rfl hj hV
 have pk1 : (0 : Int) ≤ (k : Int) := by omega
 have pk2 : (k : Int) < (L.length : Int) := by omega
 obtain ⟨wa, hwa⟩ : ∃ wa, w.alloc (.cells #[.string x.o, .int .i64 x.t, .int .i64 x.c, .int .i64 x.l, .string x.d] 29) = wa := ⟨_, rfl⟩
 rw [hwa] at K0
 have HK : Hid (∀ V, Below wa.heap.size wa V → Bk w V x) := fun V hV => K0.out.step hV
 obtain ⟨v0, v1, v2, v3, v4⟩ := K0.out.cells
 obtain ⟨xo, xt, xc, xl, xd⟩ := x
 simp only at q0 q1 q2 q3 q4 v0 v1 v2 v3 v4 hwa
 go_enter Tryz.func81, Tryz.ntmps81
 go_wp2_with fail
 go_ret
 exact ⟨rfl, K0.out.bl⟩
end Go.Proofs.YtoabnpdoicbpiaaGreat
namespace Go.Proofs.YtoabnpdoicbpiaaGreat
set_option linter.unusedVariables false
set_option linter.unusedSimpArgs false
open Go.RowKit Go.Shelf Go.Maps Go.Proofs.YtoabnpdoicbpiaaGreat.Nm
set_option maxRecDepth 100000 in
set_option maxHeartbeats 4000000 in
theorem brk2_any (apex : ByteArray) (L : List Rn) (p : Option Addr) (cap k : Nat) (w : World) (hL : L.length ≤ 1048576) (hat : RsAt w p L) (hs : ∀ j, j < L.length → rSm (rAt L j)) (hap : apex.size ≤ 1048576) (hk : k < L.length) :
  Calls Tryz.prog 81 #[.int .i64 2, .string apex, .slice p L.length cap, .int .i64 (k : Int)] w fun r w' => r = .returned (.bool (brk2 (rAt L k))) ∧ Below w.heap.size w w' := by
 obtain ⟨g, off, hp⟩ := rs_at hat hk
 subst hp
 have HAT := hide' hat
 have HSm := hide' hs
 have HXX : Hid (rSm (rAt L k)) := hs k hk
 obtain ⟨q0, q1, q2, q3, q4⟩ := rs_cells hat rfl hk (Below.refl _ w)
 have K0 := hide' (Bk.start w (rAt L k))
 obtain ⟨x, hx⟩ : ∃ x, rAt L k = x := ⟨_, rfl⟩
 rw [hx] at q0 q1 q2 q3 q4 HXX K0
 try rw [hx]
 have HX := hide' hx
 clear hx hat hs
 have HJ : Hid (∀ j, j < L.length → ∀ V, Below w.heap.size w V → V.cell? ⟨g, off + j * 5, none⟩ = some (.string (rAt L j).o) ∧ V.cell? ⟨g, off + j * 5 + 1, none⟩ = some (.int .i64 (rAt L j).t) ∧ V.cell? ⟨g, off + j * 5 + 2, none⟩ = some (.int .i64 (rAt L j).c) ∧ V.cell? ⟨g, off + j * 5 + 3, none⟩ = some (.int .i64 (rAt L j).l) ∧ V.cell? ⟨g, off + j * 5 + 4, none⟩ = some (.string (rAt L j).d)) := fun j hj V hV => rs_cells HAT.out rfl hj hV
 have pk1 : (0 : Int) ≤ (k : Int) := by omega
 have pk2 : (k : Int) < (L.length : Int) := by omega
 obtain ⟨wa, hwa⟩ : ∃ wa, w.alloc (.cells #[.string x.o, .int .i64 x.t, .int .i64 x.c, .int .i64 x.l, .string x.d] 29) = wa := ⟨_, rfl⟩
 rw [hwa] at K0
 have HK : Hid (∀ V, Below wa.heap.size wa V → Bk w V x) := fun V hV => K0.out.step hV
 obtain ⟨v0, v1, v2, v3, v4⟩ := K0.out.cells
 obtain ⟨xo, xt, xc, xl, xd⟩ := x
 simp only at q0 q1 q2 q3 q4 v0 v1 v2 v3 v4 hwa
 obtain ⟨o, ho_⟩ : ∃ o, xo = o := ⟨_, rfl⟩
 subst ho_
 have ho : xo.size ≤ 1048576 := HXX.out.1
 have hd : xd.size ≤ 9223372036854775807 := Nat.le_trans HXX.out.2 (by omega)
 show Calls _ _ _ _ fun r w' => r = .returned (.bool (!zonB xo xd xt xc xl)) ∧ _
 have HB := hide' K0.out.bl
 have HH := hide' K0.out.x
 have QF : Hid (∀ V : World, Bx V w.heap.size #[.string xo, .int .i64 xt, .int .i64 xc, .int .i64 xl, .string xd] 29 → V.cell? ⟨w.heap.size, 0, none⟩ = some (.string xo) ∧ V.cell? ⟨w.heap.size, 1, none⟩ = some (.int .i64 xt) ∧ V.cell? ⟨w.heap.size, 2, none⟩ = some (.int .i64 xc) ∧ V.cell? ⟨w.heap.size, 3, none⟩ = some (.int .i64 xl) ∧ V.cell? ⟨w.heap.size, 4, none⟩ = some (.string xd)) := fun V h => ⟨h.cell rfl, h.cell rfl, h.cell rfl, h.cell rfl, h.cell rfl⟩
 clear K0 HK HJ HAT HSm HX
 obtain ⟨ee, hee⟩ : ∃ ee, errD xt xd = ee := ⟨_, rfl⟩
 have HE := hide' hee
 cases hN : isN xo with
 | false =>
  have HV : Hid (zonB xo xd xt xc xl = false) := by unfold Hid zonB; rw [hN]; rfl
  have HN := hide' hN
  rw [HV.out]
  go_enter Tryz.func81, Tryz.ntmps81
  go_wp2_with (first
   | (go_at_call 80; refine (refIsName_any xo _ ho).mono ?_; rw [HN.out]; rintro r w1 ⟨rfl, hB1⟩; have HH1 := hide' (HH.out.below hB1 HH.out.lt); have HB1 := hide' (bstep HB.out hB1 HB.out.size); obtain ⟨j0, j1, j2, j3, j4⟩ := QF.out w1 HH1.out; clear hB1)
   | (go_at_call 110; refine (refCheckData_any xt xd _ hd).mono ?_; rw [HE.out]; rintro r w2 ⟨rfl, hB2⟩; have HB2 := hide' (bstep HB1.out hB2 HB1.out.size); clear hB2))
  go_ret
  exact ⟨rfl, by first | exact HB2.out | exact HB1.out⟩
 | true =>
  have HN := hide' hN
  by_cases hc : xc = 1
  ·by_cases hl0 : 0 ≤ xl
   ·by_cases hl1 : xl ≤ 2147483647
    ·by_cases h0 : ee = 0
     ·have HV : Hid (zonB xo xd xt xc xl = true) := by unfold Hid zonB; rw [hN, decide_eq_true hc, decide_eq_true hl0, decide_eq_true hl1, decide_eq_true (hee.trans h0)]; rfl
      subst h0
      subst hc
      clear hN hee
      rw [HV.out]
      go_enter Tryz.func81, Tryz.ntmps81
      go_wp2_with (first
       | (go_at_call 80; refine (refIsName_any xo _ ho).mono ?_; rw [HN.out]; rintro r w1 ⟨rfl, hB1⟩; have HH1 := hide' (HH.out.below hB1 HH.out.lt); have HB1 := hide' (bstep HB.out hB1 HB.out.size); obtain ⟨j0, j1, j2, j3, j4⟩ := QF.out w1 HH1.out; clear hB1)
       | (go_at_call 110; refine (refCheckData_any xt xd _ hd).mono ?_; rw [HE.out]; rintro r w2 ⟨rfl, hB2⟩; have HB2 := hide' (bstep HB1.out hB2 HB1.out.size); clear hB2))
      go_ret
      exact ⟨rfl, by first | exact HB2.out | exact HB1.out⟩
     ·have HV : Hid (zonB xo xd xt xc xl = false) := by unfold Hid zonB; rw [decide_eq_false (fun h => h0 (hee.symm.trans h))]; simp
      have hb : ((ee : Int) == 0) = false := by rw [beq_eq_false_iff_ne]; omega
      have hb2 : ¬ (ee : Int) = 0 := by omega
      subst hc
      clear hN hee h0
      rw [HV.out]
      go_enter Tryz.func81, Tryz.ntmps81
      go_wp2_with (first
       | (go_at_call 80; refine (refIsName_any xo _ ho).mono ?_; rw [HN.out]; rintro r w1 ⟨rfl, hB1⟩; have HH1 := hide' (HH.out.below hB1 HH.out.lt); have HB1 := hide' (bstep HB.out hB1 HB.out.size); obtain ⟨j0, j1, j2, j3, j4⟩ := QF.out w1 HH1.out; clear hB1)
       | (go_at_call 110; refine (refCheckData_any xt xd _ hd).mono ?_; rw [HE.out]; rintro r w2 ⟨rfl, hB2⟩; have HB2 := hide' (bstep HB1.out hB2 HB1.out.size); clear hB2))
      go_ret
      exact ⟨rfl, by first | exact HB2.out | exact HB1.out⟩
    ·have HV : Hid (zonB xo xd xt xc xl = false) := by unfold Hid zonB; rw [decide_eq_false hl1]; simp
     subst hc
     clear hN hee
     rw [HV.out]
     go_enter Tryz.func81, Tryz.ntmps81
     go_wp2_with (first
      | (go_at_call 80; refine (refIsName_any xo _ ho).mono ?_; rw [HN.out]; rintro r w1 ⟨rfl, hB1⟩; have HH1 := hide' (HH.out.below hB1 HH.out.lt); have HB1 := hide' (bstep HB.out hB1 HB.out.size); obtain ⟨j0, j1, j2, j3, j4⟩ := QF.out w1 HH1.out; clear hB1)
      | (go_at_call 110; refine (refCheckData_any xt xd _ hd).mono ?_; rw [HE.out]; rintro r w2 ⟨rfl, hB2⟩; have HB2 := hide' (bstep HB1.out hB2 HB1.out.size); clear hB2))
     go_ret
     exact ⟨rfl, by first | exact HB2.out | exact HB1.out⟩
   ·have HV : Hid (zonB xo xd xt xc xl = false) := by unfold Hid zonB; rw [decide_eq_false hl0]; simp
    subst hc
    clear hN hee
    rw [HV.out]
    go_enter Tryz.func81, Tryz.ntmps81
    go_wp2_with (first
     | (go_at_call 80; refine (refIsName_any xo _ ho).mono ?_; rw [HN.out]; rintro r w1 ⟨rfl, hB1⟩; have HH1 := hide' (HH.out.below hB1 HH.out.lt); have HB1 := hide' (bstep HB.out hB1 HB.out.size); obtain ⟨j0, j1, j2, j3, j4⟩ := QF.out w1 HH1.out; clear hB1)
     | (go_at_call 110; refine (refCheckData_any xt xd _ hd).mono ?_; rw [HE.out]; rintro r w2 ⟨rfl, hB2⟩; have HB2 := hide' (bstep HB1.out hB2 HB1.out.size); clear hB2))
    go_ret
    exact ⟨rfl, by first | exact HB2.out | exact HB1.out⟩
  ·have HV : Hid (zonB xo xd xt xc xl = false) := by unfold Hid zonB; rw [decide_eq_false hc]; simp
   have hb : (xc == 1) = false := by rw [beq_eq_false_iff_ne]; exact hc
   clear hN hee
   rw [HV.out]
   go_enter Tryz.func81, Tryz.ntmps81
   go_wp2_with (first
    | (go_at_call 80; refine (refIsName_any xo _ ho).mono ?_; rw [HN.out]; rintro r w1 ⟨rfl, hB1⟩; have HH1 := hide' (HH.out.below hB1 HH.out.lt); have HB1 := hide' (bstep HB.out hB1 HB.out.size); obtain ⟨j0, j1, j2, j3, j4⟩ := QF.out w1 HH1.out; clear hB1)
    | (go_at_call 110; refine (refCheckData_any xt xd _ hd).mono ?_; rw [HE.out]; rintro r w2 ⟨rfl, hB2⟩; have HB2 := hide' (bstep HB1.out hB2 HB1.out.size); clear hB2))
   go_ret
   exact ⟨rfl, by first | exact HB2.out | exact HB1.out⟩
end Go.Proofs.YtoabnpdoicbpiaaGreat
namespace Go.Proofs.YtoabnpdoicbpiaaGreat
set_option linter.unusedVariables false
set_option linter.unusedSimpArgs false
open Go.RowKit Go.Shelf Go.Maps Go.Proofs.YtoabnpdoicbpiaaGreat.Nm
set_option maxRecDepth 100000 in
set_option maxHeartbeats 4000000 in
theorem brk4_any (apex : ByteArray) (L : List Rn) (p : Option Addr) (cap k : Nat) (w : World) (hL : L.length ≤ 1048576) (hat : RsAt w p L) (hs : ∀ j, j < L.length → rSm (rAt L j)) (hap : apex.size ≤ 1048576) (hk : k < L.length) :
  Calls Tryz.prog 81 #[.int .i64 4, .string apex, .slice p L.length cap, .int .i64 (k : Int)] w fun r w' => r = .returned (.bool (brk4 L k (rAt L k))) ∧ Below w.heap.size w w' := by
 obtain ⟨g, off, hp⟩ := rs_at hat hk
 subst hp
 have HAT := hide' hat
 have HSm := hide' hs
 have HXX : Hid (rSm (rAt L k)) := hs k hk
 obtain ⟨q0, q1, q2, q3, q4⟩ := rs_cells hat rfl hk (Below.refl _ w)
 have K0 := hide' (Bk.start w (rAt L k))
 obtain ⟨x, hx⟩ : ∃ x, rAt L k = x := ⟨_, rfl⟩
 rw [hx] at q0 q1 q2 q3 q4 HXX K0
 try rw [hx]
 have HX := hide' hx
 clear hx hat hs
 have HJ : Hid (∀ j, j < L.length → ∀ V, Below w.heap.size w V → V.cell? ⟨g, off + j * 5, none⟩ = some (.string (rAt L j).o) ∧ V.cell? ⟨g, off + j * 5 + 1, none⟩ = some (.int .i64 (rAt L j).t) ∧ V.cell? ⟨g, off + j * 5 + 2, none⟩ = some (.int .i64 (rAt L j).c) ∧ V.cell? ⟨g, off + j * 5 + 3, none⟩ = some (.int .i64 (rAt L j).l) ∧ V.cell? ⟨g, off + j * 5 + 4, none⟩ = some (.string (rAt L j).d)) := fun j hj V hV => rs_cells HAT.out rfl hj hV
 have pk1 : (0 : Int) ≤ (k : Int) := by omega
 have pk2 : (k : Int) < (L.length : Int) := by omega
 obtain ⟨wa, hwa⟩ : ∃ wa, w.alloc (.cells #[.string x.o, .int .i64 x.t, .int .i64 x.c, .int .i64 x.l, .string x.d] 29) = wa := ⟨_, rfl⟩
 rw [hwa] at K0
 have HK : Hid (∀ V, Below wa.heap.size wa V → Bk w V x) := fun V hV => K0.out.step hV
 obtain ⟨v0, v1, v2, v3, v4⟩ := K0.out.cells
 obtain ⟨xo, xt, xc, xl, xd⟩ := x
 simp only at q0 q1 q2 q3 q4 v0 v1 v2 v3 v4 hwa
 show Calls _ _ _ _ fun r w' => r = .returned (.bool ((List.range k).any fun j => alikeB (rAt L j) (⟨xo, xt, xc, xl, xd⟩ : Rn))) ∧ _
 go_enter Tryz.func81, Tryz.ntmps81
 go_wp2_with fail
 go_loopw [10] (fun jv wr => ∃ j : Nat, jv = .int .i64 (j : Int) ∧ j ≤ k ∧ Hid (∀ i, i < j → (fun j => alikeB (rAt L j) (⟨xo, xt, xc, xl, xd⟩ : Rn)) i = false) ∧ Hid (Below wa.heap.size wa wr)) (fun jv _ => k - (intOf jv).toNat)
 case atStart => exact ⟨0, rfl, Nat.zero_le _, (fun i h => absurd h (Nat.not_lt_zero _)), Below.refl _ _⟩
 case round =>
  obtain ⟨j, rfl, hj, HN, HBr⟩ := hrel
  have hBl0 : Below w.heap.size w wr := (HK.out _ HBr.out).bl
  have HBl := hide' hBl0
  obtain ⟨u0, u1, u2, u3, u4⟩ := (HK.out _ HBr.out).cells
  simp only at u0 u1 u2 u3 u4
  by_cases hlt : j < k
  ·have hjL : j < L.length := by omega
   obtain ⟨y0, y1, y2, y3, y4⟩ := HJ.out j hjL wr hBl0
   have HJS := hide' (HSm.out j hjL)
   have HU : Hid ((fun j => alikeB (rAt L j) (⟨xo, xt, xc, xl, xd⟩ : Rn)) j = false → ∀ i, i < j + 1 → (fun j => alikeB (rAt L j) (⟨xo, xt, xc, xl, xd⟩ : Rn)) i = false) := fun h => up_to HN.out h
   have HQ : Hid (∀ V, Below wr.heap.size wr V → (V.cell? ⟨g, off + j * 5, none⟩ = some (.string (rAt L j).o) ∧ V.cell? ⟨g, off + j * 5 + 1, none⟩ = some (.int .i64 (rAt L j).t) ∧ V.cell? ⟨g, off + j * 5 + 2, none⟩ = some (.int .i64 (rAt L j).c) ∧ V.cell? ⟨g, off + j * 5 + 3, none⟩ = some (.int .i64 (rAt L j).l) ∧ V.cell? ⟨g, off + j * 5 + 4, none⟩ = some (.string (rAt L j).d)) ∧ V.cell? ⟨w.heap.size, 0, none⟩ = some (.string xo) ∧ V.cell? ⟨w.heap.size, 1, none⟩ = some (.int .i64 xt) ∧ V.cell? ⟨w.heap.size, 2, none⟩ = some (.int .i64 xc) ∧ V.cell? ⟨w.heap.size, 3, none⟩ = some (.int .i64 xl) ∧ V.cell? ⟨w.heap.size, 4, none⟩ = some (.string xd)) := fun V hV => ⟨HJ.out j hjL V (bstep HBl.out hV HBl.out.size), (HK.out _ (bstep HBr.out hV HBr.out.size)).cells⟩
   have HBn : Hid (∀ V, Below wr.heap.size wr V → Below wa.heap.size wa V) := fun V hV => bstep HBr.out hV HBr.out.size
   have HFi : Hid (∀ V, Below wr.heap.size wr V → Below w.heap.size w V) := fun V hV => bstep HBl.out hV HBl.out.size
   clear hBl0
   have pj1 : (0 : Int) ≤ (j : Int) := by omega
   have pj2 : (j : Int) < (L.length : Int) := by omega
   have pj3 : (j : Int) < (k : Int) := by omega
   have HA := hide' (fun V => alike_any (rAt L j) (⟨xo, xt, xc, xl, xd⟩ : Rn) V HJS.out HXX.out)
   have HH : Hid (alikeB (rAt L j) (⟨xo, xt, xc, xl, xd⟩ : Rn) = true → ((List.range k).any fun j => alikeB (rAt L j) (⟨xo, xt, xc, xl, xd⟩ : Rn)) = true) := fun h => any_hit hlt h
   obtain ⟨A, hA⟩ : ∃ A, alikeB (rAt L j) (⟨xo, xt, xc, xl, xd⟩ : Rn) = A := ⟨_, rfl⟩
   rw [hA] at HA HH
   have HU2 : Hid (A = false → ∀ i, i < j + 1 → (fun j => alikeB (rAt L j) (⟨xo, xt, xc, xl, xd⟩ : Rn)) i = false) := fun h => HU.out (hA.trans h)
   clear hA HU
   obtain ⟨y, hy⟩ : ∃ y, rAt L j = y := ⟨_, rfl⟩
   rw [hy] at y0 y1 y2 y3 y4 HJS HQ HA
   have HYY := hide' hy
   clear hy
   obtain ⟨yo, yt, yc, yl, yd⟩ := y
   simp only at y0 y1 y2 y3 y4 HQ
   unfold rcV at HA
   simp only at HA
   have hB := (Below.refl wr.heap.size wr).drew
   cases A with
   | true =>
    have HHH := hide' (HH.out rfl)
    go_wp2_with fail
    go_region_held3 (fun V => (V.cell? ⟨g, off + j * 5, none⟩ = some (.string yo) ∧ V.cell? ⟨g, off + j * 5 + 1, none⟩ = some (.int .i64 yt) ∧ V.cell? ⟨g, off + j * 5 + 2, none⟩ = some (.int .i64 yc) ∧ V.cell? ⟨g, off + j * 5 + 3, none⟩ = some (.int .i64 yl) ∧ V.cell? ⟨g, off + j * 5 + 4, none⟩ = some (.string yd)) ∧ V.cell? ⟨w.heap.size, 0, none⟩ = some (.string xo) ∧ V.cell? ⟨w.heap.size, 1, none⟩ = some (.int .i64 xt) ∧ V.cell? ⟨w.heap.size, 2, none⟩ = some (.int .i64 xc) ∧ V.cell? ⟨w.heap.size, 3, none⟩ = some (.int .i64 xl) ∧ V.cell? ⟨w.heap.size, 4, none⟩ = some (.string xd)) (first | go_keep | (with_reducible exact HQ.out _ hB)) ((go_at_call 112; refine (HA.out _).mono ?_; rintro e w5 ⟨rfl, hB5⟩; have hB := below_any hB hB5 (by first | exact .inl rfl | exact .inr rfl) hB.size; clear hB5))
    all_goals
     go_wp2_with fail
     go_ret
     exact ⟨by rw [HHH.out]; rfl, HFi.out _ hB⟩
   | false =>
    have HUU := hide' (HU2.out rfl)
    go_wp2_with fail
    go_region_held3 (fun V => (V.cell? ⟨g, off + j * 5, none⟩ = some (.string yo) ∧ V.cell? ⟨g, off + j * 5 + 1, none⟩ = some (.int .i64 yt) ∧ V.cell? ⟨g, off + j * 5 + 2, none⟩ = some (.int .i64 yc) ∧ V.cell? ⟨g, off + j * 5 + 3, none⟩ = some (.int .i64 yl) ∧ V.cell? ⟨g, off + j * 5 + 4, none⟩ = some (.string yd)) ∧ V.cell? ⟨w.heap.size, 0, none⟩ = some (.string xo) ∧ V.cell? ⟨w.heap.size, 1, none⟩ = some (.int .i64 xt) ∧ V.cell? ⟨w.heap.size, 2, none⟩ = some (.int .i64 xc) ∧ V.cell? ⟨w.heap.size, 3, none⟩ = some (.int .i64 xl) ∧ V.cell? ⟨w.heap.size, 4, none⟩ = some (.string xd)) (first | go_keep | (with_reducible exact HQ.out _ hB)) ((go_at_call 112; refine (HA.out _).mono ?_; rintro e w5 ⟨rfl, hB5⟩; have hB := below_any hB hB5 (by first | exact .inl rfl | exact .inr rfl) hB.size; clear hB5))
    all_goals
     go_wp2_with fail
     exact ⟨⟨j + 1, by go_num, by omega, HUU, HBn.out _ hB⟩, by simp [intOf]; omega⟩
  ·obtain rfl : j = k := by omega
   have HZ := hide' (any_not HN.out)
   go_wp2_with fail
   go_ret
   exact ⟨by rw [HZ.out]; rfl, HBl.out⟩
end Go.Proofs.YtoabnpdoicbpiaaGreat
namespace Go.Proofs.YtoabnpdoicbpiaaGreat
set_option linter.unusedVariables false
set_option linter.unusedSimpArgs false
open Go.RowKit Go.Shelf Go.Maps Go.Proofs.YtoabnpdoicbpiaaGreat.Nm
set_option maxRecDepth 100000 in
set_option maxHeartbeats 4000000 in
theorem brk5_any (apex : ByteArray) (L : List Rn) (p : Option Addr) (cap k : Nat) (w : World) (hL : L.length ≤ 1048576) (hat : RsAt w p L) (hs : ∀ j, j < L.length → rSm (rAt L j)) (hap : apex.size ≤ 1048576) (hk : k < L.length) :
  Calls Tryz.prog 81 #[.int .i64 5, .string apex, .slice p L.length cap, .int .i64 (k : Int)] w fun r w' => r = .returned (.bool (brk5 apex L k (rAt L k))) ∧ Below w.heap.size w w' := by
 obtain ⟨g, off, hp⟩ := rs_at hat hk
 subst hp
 have HAT := hide' hat
 have HSm := hide' hs
 have HXX : Hid (rSm (rAt L k)) := hs k hk
 obtain ⟨q0, q1, q2, q3, q4⟩ := rs_cells hat rfl hk (Below.refl _ w)
 have K0 := hide' (Bk.start w (rAt L k))
 obtain ⟨x, hx⟩ : ∃ x, rAt L k = x := ⟨_, rfl⟩
 rw [hx] at q0 q1 q2 q3 q4 HXX K0
 try rw [hx]
 have HX := hide' hx
 clear hx hat hs
 have HJ : Hid (∀ j, j < L.length → ∀ V, Below w.heap.size w V → V.cell? ⟨g, off + j * 5, none⟩ = some (.string (rAt L j).o) ∧ V.cell? ⟨g, off + j * 5 + 1, none⟩ = some (.int .i64 (rAt L j).t) ∧ V.cell? ⟨g, off + j * 5 + 2, none⟩ = some (.int .i64 (rAt L j).c) ∧ V.cell? ⟨g, off + j * 5 + 3, none⟩ = some (.int .i64 (rAt L j).l) ∧ V.cell? ⟨g, off + j * 5 + 4, none⟩ = some (.string (rAt L j).d)) := fun j hj V hV => rs_cells HAT.out rfl hj hV
 have pk1 : (0 : Int) ≤ (k : Int) := by omega
 have pk2 : (k : Int) < (L.length : Int) := by omega
 obtain ⟨wa, hwa⟩ : ∃ wa, w.alloc (.cells #[.string x.o, .int .i64 x.t, .int .i64 x.c, .int .i64 x.l, .string x.d] 29) = wa := ⟨_, rfl⟩
 rw [hwa] at K0
 have HK : Hid (∀ V, Below wa.heap.size wa V → Bk w V x) := fun V hV => K0.out.step hV
 obtain ⟨v0, v1, v2, v3, v4⟩ := K0.out.cells
 obtain ⟨xo, xt, xc, xl, xd⟩ := x
 simp only at q0 q1 q2 q3 q4 v0 v1 v2 v3 v4 hwa
 show Calls _ _ _ _ fun r w' => r = .returned (.bool (decide (xt = 6) && (((List.range k).any fun j => decide ((rAt L j).t = 6)) || !eqB xo apex))) ∧ _
 have HE := hide' (fun V => equalName_any xo apex V HXX.out.1 hap)
 by_cases h6 : ¬ xt = 6
 ·have h6b : (xt != 6) = true := by simp [h6]
  go_enter Tryz.func81, Tryz.ntmps81
  go_wp2_with fail
  go_ret
  exact ⟨by simp [h6], K0.out.bl⟩
 have h6 := Decidable.not_not.1 h6
 subst h6
 rw [decide_eq_true rfl, Bool.true_and]
 go_enter Tryz.func81, Tryz.ntmps81
 go_wp2_with fail
 go_loopw [11] (fun jv wr => ∃ j : Nat, jv = .int .i64 (j : Int) ∧ j ≤ k ∧ Hid (∀ i, i < j → (fun j => decide ((rAt L j).t = 6)) i = false) ∧ Hid (Below wa.heap.size wa wr)) (fun jv _ => k - (intOf jv).toNat)
 case atStart => exact ⟨0, rfl, Nat.zero_le _, (fun i h => absurd h (Nat.not_lt_zero _)), Below.refl _ _⟩
 case round =>
  obtain ⟨j, rfl, hj, HN, HBr⟩ := hrel
  have hBl0 : Below w.heap.size w wr := (HK.out _ HBr.out).bl
  have HBl := hide' hBl0
  obtain ⟨u0, u1, u2, u3, u4⟩ := (HK.out _ HBr.out).cells
  simp only at u0 u1 u2 u3 u4
  by_cases hlt : j < k
  ·have hjL : j < L.length := by omega
   obtain ⟨y0, y1, y2, y3, y4⟩ := HJ.out j hjL wr hBl0
   have HJS := hide' (HSm.out j hjL)
   have HU : Hid ((fun j => decide ((rAt L j).t = 6)) j = false → ∀ i, i < j + 1 → (fun j => decide ((rAt L j).t = 6)) i = false) := fun h => up_to HN.out h
   have HQ : Hid (∀ V, Below wr.heap.size wr V → (V.cell? ⟨g, off + j * 5, none⟩ = some (.string (rAt L j).o) ∧ V.cell? ⟨g, off + j * 5 + 1, none⟩ = some (.int .i64 (rAt L j).t) ∧ V.cell? ⟨g, off + j * 5 + 2, none⟩ = some (.int .i64 (rAt L j).c) ∧ V.cell? ⟨g, off + j * 5 + 3, none⟩ = some (.int .i64 (rAt L j).l) ∧ V.cell? ⟨g, off + j * 5 + 4, none⟩ = some (.string (rAt L j).d)) ∧ V.cell? ⟨w.heap.size, 0, none⟩ = some (.string xo) ∧ V.cell? ⟨w.heap.size, 1, none⟩ = some (.int .i64 6) ∧ V.cell? ⟨w.heap.size, 2, none⟩ = some (.int .i64 xc) ∧ V.cell? ⟨w.heap.size, 3, none⟩ = some (.int .i64 xl) ∧ V.cell? ⟨w.heap.size, 4, none⟩ = some (.string xd)) := fun V hV => ⟨HJ.out j hjL V (bstep HBl.out hV HBl.out.size), (HK.out _ (bstep HBr.out hV HBr.out.size)).cells⟩
   have HBn : Hid (∀ V, Below wr.heap.size wr V → Below wa.heap.size wa V) := fun V hV => bstep HBr.out hV HBr.out.size
   have HFi : Hid (∀ V, Below wr.heap.size wr V → Below w.heap.size w V) := fun V hV => bstep HBl.out hV HBl.out.size
   clear hBl0
   have pj1 : (0 : Int) ≤ (j : Int) := by omega
   have pj2 : (j : Int) < (L.length : Int) := by omega
   have pj3 : (j : Int) < (k : Int) := by omega
   obtain ⟨y, hy⟩ : ∃ y, rAt L j = y := ⟨_, rfl⟩
   rw [hy] at y0 y1 y2 y3 y4 HJS HQ
   have HYY := hide' hy
   clear hy
   obtain ⟨yo, yt, yc, yl, yd⟩ := y
   simp only at y0 y1 y2 y3 y4 HQ
   by_cases ht : yt = 6
   ·have HH : Hid (((List.range k).any fun j => decide ((rAt L j).t = 6)) = true) := any_hit hlt (by rw [HYY.out]; simp [ht])
    subst ht
    go_wp2_with fail
    go_ret
    exact ⟨by rw [HH.out]; rfl, HBl.out⟩
   ·have htb : (yt == 6) = false := by simp [ht]
    have HUU := hide' (HU.out (by show decide ((rAt L j).t = 6) = false; rw [HYY.out]; simp [ht]))
    go_wp2_with fail
    exact ⟨⟨j + 1, by go_num, by omega, HUU, HBr⟩, by simp [intOf]; omega⟩
  ·obtain rfl : j = k := by omega
   have HZ := hide' (any_not HN.out)
   go_wp2_with (go_at_call 113; refine (HE.out _).mono ?_; rintro e w5 ⟨rfl, hB5⟩)
   go_ret
   exact ⟨by rw [HZ.out]; rfl, bstep HBl.out hB5 HBl.out.size⟩
end Go.Proofs.YtoabnpdoicbpiaaGreat
namespace Go.Proofs.YtoabnpdoicbpiaaGreat
set_option linter.unusedVariables false
set_option linter.unusedSimpArgs false
open Go.RowKit Go.Shelf Go.Maps Go.Proofs.YtoabnpdoicbpiaaGreat.Nm
set_option maxRecDepth 100000 in
set_option maxHeartbeats 4000000 in
theorem brk10_any (apex : ByteArray) (L : List Rn) (p : Option Addr) (cap k : Nat) (w : World) (hL : L.length ≤ 1048576) (hat : RsAt w p L) (hs : ∀ j, j < L.length → rSm (rAt L j)) (hap : apex.size ≤ 1048576) (hk : k < L.length) :
  Calls Tryz.prog 81 #[.int .i64 10, .string apex, .slice p L.length cap, .int .i64 (k : Int)] w fun r w' => r = .returned (.bool (brk10 L k (rAt L k))) ∧ Below w.heap.size w w' := by
 obtain ⟨g, off, hp⟩ := rs_at hat hk
 subst hp
 have HAT := hide' hat
 have HSm := hide' hs
 have HXX : Hid (rSm (rAt L k)) := hs k hk
 obtain ⟨q0, q1, q2, q3, q4⟩ := rs_cells hat rfl hk (Below.refl _ w)
 have K0 := hide' (Bk.start w (rAt L k))
 obtain ⟨x, hx⟩ : ∃ x, rAt L k = x := ⟨_, rfl⟩
 rw [hx] at q0 q1 q2 q3 q4 HXX K0
 try rw [hx]
 have HX := hide' hx
 clear hx hat hs
 have HJ : Hid (∀ j, j < L.length → ∀ V, Below w.heap.size w V → V.cell? ⟨g, off + j * 5, none⟩ = some (.string (rAt L j).o) ∧ V.cell? ⟨g, off + j * 5 + 1, none⟩ = some (.int .i64 (rAt L j).t) ∧ V.cell? ⟨g, off + j * 5 + 2, none⟩ = some (.int .i64 (rAt L j).c) ∧ V.cell? ⟨g, off + j * 5 + 3, none⟩ = some (.int .i64 (rAt L j).l) ∧ V.cell? ⟨g, off + j * 5 + 4, none⟩ = some (.string (rAt L j).d)) := fun j hj V hV => rs_cells HAT.out rfl hj hV
 have pk1 : (0 : Int) ≤ (k : Int) := by omega
 have pk2 : (k : Int) < (L.length : Int) := by omega
 obtain ⟨wa, hwa⟩ : ∃ wa, w.alloc (.cells #[.string x.o, .int .i64 x.t, .int .i64 x.c, .int .i64 x.l, .string x.d] 29) = wa := ⟨_, rfl⟩
 rw [hwa] at K0
 have HK : Hid (∀ V, Below wa.heap.size wa V → Bk w V x) := fun V hV => K0.out.step hV
 obtain ⟨v0, v1, v2, v3, v4⟩ := K0.out.cells
 obtain ⟨xo, xt, xc, xl, xd⟩ := x
 simp only at q0 q1 q2 q3 q4 v0 v1 v2 v3 v4 hwa
 have HV : Hid (brk10 L k (⟨xo, xt, xc, xl, xd⟩ : Rn) = match (List.range k).find? (fun j => !decide (xt = 46) && (decide ((rAt L j).t = xt) && eqB (rAt L j).o xo)) with | some j => !decide ((rAt L j).l = xl) | none => false) := rfl
 obtain ⟨RV, hRV⟩ : ∃ RV, brk10 L k (⟨xo, xt, xc, xl, xd⟩ : Rn) = RV := ⟨_, rfl⟩
 rw [hRV] at HV ⊢
 clear hRV
 go_enter Tryz.func81, Tryz.ntmps81
 go_wp2_with fail
 go_loopw [15] (fun jv wr => ∃ j : Nat, jv = .int .i64 (j : Int) ∧ j ≤ k ∧ Hid (∀ i, i < j → (fun j => !decide (xt = 46) && (decide ((rAt L j).t = xt) && eqB (rAt L j).o xo)) i = false) ∧ Hid (Below wa.heap.size wa wr)) (fun jv _ => k - (intOf jv).toNat)
 case atStart => exact ⟨0, rfl, Nat.zero_le _, (fun i h => absurd h (Nat.not_lt_zero _)), Below.refl _ _⟩
 case round =>
  obtain ⟨j, rfl, hj, HN, HBr⟩ := hrel
  have hBl0 : Below w.heap.size w wr := (HK.out _ HBr.out).bl
  have HBl := hide' hBl0
  obtain ⟨u0, u1, u2, u3, u4⟩ := (HK.out _ HBr.out).cells
  simp only at u0 u1 u2 u3 u4
  by_cases hlt : j < k
  ·have hjL : j < L.length := by omega
   obtain ⟨y0, y1, y2, y3, y4⟩ := HJ.out j hjL wr hBl0
   have HJS := hide' (HSm.out j hjL)
   have HU : Hid ((fun j => !decide (xt = 46) && (decide ((rAt L j).t = xt) && eqB (rAt L j).o xo)) j = false → ∀ i, i < j + 1 → (fun j => !decide (xt = 46) && (decide ((rAt L j).t = xt) && eqB (rAt L j).o xo)) i = false) := fun h => up_to HN.out h
   have HQ : Hid (∀ V, Below wr.heap.size wr V → (V.cell? ⟨g, off + j * 5, none⟩ = some (.string (rAt L j).o) ∧ V.cell? ⟨g, off + j * 5 + 1, none⟩ = some (.int .i64 (rAt L j).t) ∧ V.cell? ⟨g, off + j * 5 + 2, none⟩ = some (.int .i64 (rAt L j).c) ∧ V.cell? ⟨g, off + j * 5 + 3, none⟩ = some (.int .i64 (rAt L j).l) ∧ V.cell? ⟨g, off + j * 5 + 4, none⟩ = some (.string (rAt L j).d)) ∧ V.cell? ⟨w.heap.size, 0, none⟩ = some (.string xo) ∧ V.cell? ⟨w.heap.size, 1, none⟩ = some (.int .i64 xt) ∧ V.cell? ⟨w.heap.size, 2, none⟩ = some (.int .i64 xc) ∧ V.cell? ⟨w.heap.size, 3, none⟩ = some (.int .i64 xl) ∧ V.cell? ⟨w.heap.size, 4, none⟩ = some (.string xd)) := fun V hV => ⟨HJ.out j hjL V (bstep HBl.out hV HBl.out.size), (HK.out _ (bstep HBr.out hV HBr.out.size)).cells⟩
   have HBn : Hid (∀ V, Below wr.heap.size wr V → Below wa.heap.size wa V) := fun V hV => bstep HBr.out hV HBr.out.size
   have HFi : Hid (∀ V, Below wr.heap.size wr V → Below w.heap.size w V) := fun V hV => bstep HBl.out hV HBl.out.size
   clear hBl0
   have pj1 : (0 : Int) ≤ (j : Int) := by omega
   have pj2 : (j : Int) < (L.length : Int) := by omega
   have pj3 : (j : Int) < (k : Int) := by omega
   have HE := hide' (fun V => equalName_any (rAt L j).o xo V HJS.out.1 HXX.out.1)
   have HH : Hid ((fun j => !decide (xt = 46) && (decide ((rAt L j).t = xt) && eqB (rAt L j).o xo)) j = true → RV = !decide ((rAt L j).l = xl)) := fun h => by
    rw [HV.out]
    have : (List.range k).find? (fun j => !decide (xt = 46) && (decide ((rAt L j).t = xt) && eqB (rAt L j).o xo)) = some j := by
     rw [List.find?_range_eq_some]
     exact ⟨h, by simpa using hlt, fun i hi => by have h9 := HN.out i hi; simp only at h9; rw [h9]; rfl⟩
    rw [this]
   simp only at HH HU
   obtain ⟨E, hE⟩ : ∃ E, eqB (rAt L j).o xo = E := ⟨_, rfl⟩
   rw [hE] at HE HH HU
   clear hE
   obtain ⟨y, hy⟩ : ∃ y, rAt L j = y := ⟨_, rfl⟩
   rw [hy] at y0 y1 y2 y3 y4 HJS HQ HE HH HU
   have HYY := hide' hy
   clear hy
   obtain ⟨yo, yt, yc, yl, yd⟩ := y
   simp only at y0 y1 y2 y3 y4 HQ
   simp only at HH HU HE
   have hB := (Below.refl wr.heap.size wr).drew
   by_cases h46 : xt = 46
   ·have HUU := hide' (HU.out (by simp [h46]))
    have h46b : (xt != 46) = false := by simp [h46]
    clear h46
    go_wp2_with fail
    go_region
    all_goals
     go_wp2_with fail
     exact ⟨⟨j + 1, by go_num, by omega, HUU, HBn.out _ hB⟩, by simp [intOf]; omega⟩
   ·have h46b : (xt != 46) = true := by simp [h46]
    by_cases ht : yt = xt
    ·have htb : (yt == xt) = true := by simp [ht]
     cases E with
     | true =>
      have HHH := hide' (HH.out (by simp [h46, ht]))
      clear ht h46
      have hld : (yl != xl) = !decide (yl = xl) := by by_cases e : yl = xl <;> simp [e]
      have HLD := hide' hld
      clear hld
      go_wp2_with fail
      go_region_held3 (fun V => (V.cell? ⟨g, off + j * 5, none⟩ = some (.string yo) ∧ V.cell? ⟨g, off + j * 5 + 1, none⟩ = some (.int .i64 yt) ∧ V.cell? ⟨g, off + j * 5 + 2, none⟩ = some (.int .i64 yc) ∧ V.cell? ⟨g, off + j * 5 + 3, none⟩ = some (.int .i64 yl) ∧ V.cell? ⟨g, off + j * 5 + 4, none⟩ = some (.string yd)) ∧ V.cell? ⟨w.heap.size, 0, none⟩ = some (.string xo) ∧ V.cell? ⟨w.heap.size, 1, none⟩ = some (.int .i64 xt) ∧ V.cell? ⟨w.heap.size, 2, none⟩ = some (.int .i64 xc) ∧ V.cell? ⟨w.heap.size, 3, none⟩ = some (.int .i64 xl) ∧ V.cell? ⟨w.heap.size, 4, none⟩ = some (.string xd)) (first | go_keep | (with_reducible exact HQ.out _ hB)) ((go_at_call 113; refine (HE.out _).mono ?_; rintro e w5 ⟨rfl, hB5⟩; have hB := below_any hB hB5 (by first | exact .inl rfl | exact .inr rfl) hB.size; clear hB5))
      all_goals
       go_wp2_with fail
       have hB := hB.drew
       obtain ⟨⟨z0, z1, z2, z3, z4⟩, c0, c1, c2, c3, c4⟩ := HQ.out _ hB
       go_region
       all_goals
        go_wp2_with fail
        go_ret
        refine ⟨?_, HFi.out _ hB⟩
        rw [HHH.out, ← HLD.out]; rfl
     | false =>
      have HUU := hide' (HU.out (by simp))
      clear ht h46
      go_wp2_with fail
      go_region_held3 (fun V => (V.cell? ⟨g, off + j * 5, none⟩ = some (.string yo) ∧ V.cell? ⟨g, off + j * 5 + 1, none⟩ = some (.int .i64 yt) ∧ V.cell? ⟨g, off + j * 5 + 2, none⟩ = some (.int .i64 yc) ∧ V.cell? ⟨g, off + j * 5 + 3, none⟩ = some (.int .i64 yl) ∧ V.cell? ⟨g, off + j * 5 + 4, none⟩ = some (.string yd)) ∧ V.cell? ⟨w.heap.size, 0, none⟩ = some (.string xo) ∧ V.cell? ⟨w.heap.size, 1, none⟩ = some (.int .i64 xt) ∧ V.cell? ⟨w.heap.size, 2, none⟩ = some (.int .i64 xc) ∧ V.cell? ⟨w.heap.size, 3, none⟩ = some (.int .i64 xl) ∧ V.cell? ⟨w.heap.size, 4, none⟩ = some (.string xd)) (first | go_keep | (with_reducible exact HQ.out _ hB)) ((go_at_call 113; refine (HE.out _).mono ?_; rintro e w5 ⟨rfl, hB5⟩; have hB := below_any hB hB5 (by first | exact .inl rfl | exact .inr rfl) hB.size; clear hB5))
      all_goals
       go_wp2_with fail
       exact ⟨⟨j + 1, by go_num, by omega, HUU, HBn.out _ hB⟩, by simp [intOf]; omega⟩
    ·have htb : (yt == xt) = false := by simp [ht]
     have HUU := hide' (HU.out (by simp [ht]))
     go_wp2_with fail
     go_region
     all_goals
      go_wp2_with fail
      exact ⟨⟨j + 1, by go_num, by omega, HUU, HBn.out _ hB⟩, by simp [intOf]; omega⟩
  ·obtain rfl : j = k := by omega
   have HZ : Hid (RV = false) := by
    unfold Hid
    rw [HV.out]
    have : (List.range j).find? (fun j => !decide (xt = 46) && (decide ((rAt L j).t = xt) && eqB (rAt L j).o xo)) = none := by
     rw [List.find?_eq_none]
     intro i hi
     have h9 := HN.out i (List.mem_range.1 hi); simp only at h9; rw [h9]; simp
    rw [this]
   go_wp2_with fail
   go_ret
   exact ⟨by rw [HZ.out]; rfl, HBl.out⟩
end Go.Proofs.YtoabnpdoicbpiaaGreat
