import Derived.Test.YtbahjpjncopabaaGreatZr1G
/-
  gazetteerref3.breaks, rules 3 and 7. (The verifier's own text.)
-/
namespace Go.Proofs.YtbahjpjncopabaaGreat
set_option linter.unusedVariables false
set_option linter.unusedSimpArgs false
open Go.RowKit Go.Shelf Go.Maps Go.Proofs.YtbahjpjncopabaaGreat.Nm

set_option maxRecDepth 100000 in
set_option maxHeartbeats 4000000 in
/-- gazetteerref3.breaks, rule 3 -/
theorem brk3_any (apex : ByteArray) (L : List Rn) (p : Option Addr) (cap k : Nat) (w : World) (hL : L.length ≤ 1048576) (hat : RsAt w p L) (hs : ∀ j, j < L.length → rSm (rAt L j)) (hap : apex.size ≤ 1048576) (hk : k < L.length) :
    Calls Tryz.prog 24 #[.int .i64 3, .string apex, .slice p L.length cap, .int .i64 (k : Int)] w fun r w' => r = .returned (.bool (brk3 apex (rAt L k))) ∧ Below w.heap.size w w' := by
  obtain ⟨g, off, hp⟩ := rs_at hat hk
  subst hp
  have HAT := hide' hat
  have HSm := hide' hs
  have HXX : Hid (rSm (rAt L k)) := hs k hk
  obtain ⟨q0, q1, q2, q3, q4⟩ := rs_cells hat rfl hk (Below.refl _ w)
  have K0 := hide' (Bk.start w (rAt L k))
  obtain ⟨x, hx⟩ : ∃ x, rAt L k = x := ⟨_, rfl⟩
  rw [hx] at q0 q1 q2 q3 q4 HXX K0
  try rw [hx]
  have HX := hide' hx
  clear hx hat hs
  have HJ : Hid (∀ j, j < L.length → ∀ V, Below w.heap.size w V → V.cell? ⟨g, off + j * 5, none⟩ = some (.string (rAt L j).o) ∧ V.cell? ⟨g, off + j * 5 + 1, none⟩ = some (.int .i64 (rAt L j).t) ∧ V.cell? ⟨g, off + j * 5 + 2, none⟩ = some (.int .i64 (rAt L j).c) ∧ V.cell? ⟨g, off + j * 5 + 3, none⟩ = some (.int .i64 (rAt L j).l) ∧ V.cell? ⟨g, off + j * 5 + 4, none⟩ = some (.string (rAt L j).d)) := fun j hj V hV => rs_cells HAT.out rfl hj hV
  have pk1 : (0 : Int) ≤ (k : Int) := by omega
  have pk2 : (k : Int) < (L.length : Int) := by omega
  obtain ⟨wa, hwa⟩ : ∃ wa, w.alloc (.cells #[.string x.o, .int .i64 x.t, .int .i64 x.c, .int .i64 x.l, .string x.d] 40) = wa := ⟨_, rfl⟩
  rw [hwa] at K0
  have HK : Hid (∀ V, Below wa.heap.size wa V → Bk w V x) := fun V hV => K0.out.step hV
  obtain ⟨v0, v1, v2, v3, v4⟩ := K0.out.cells
  obtain ⟨xo, xt, xc, xl, xd⟩ := x
  simp only at q0 q1 q2 q3 q4 v0 v1 v2 v3 v4 hwa
  have HW := hide' (fun V => refWithin_any xo apex V HXX.out.1 hap)
  show Calls _ _ _ _ fun r w' => r = .returned (.bool (!withinB xo apex)) ∧ _
  go_enter Tryz.func24, Tryz.ntmps24
  go_wp2_with (go_at_call 55; refine (HW.out _).mono ?_; rintro e w5 ⟨rfl, hB5⟩)
  go_ret
  exact ⟨rfl, (HK.out _ hB5).bl⟩

set_option maxRecDepth 100000 in
set_option maxHeartbeats 4000000 in
/-- gazetteerref3.breaks, rule 7 -/
theorem brk7_any (apex : ByteArray) (L : List Rn) (p : Option Addr) (cap k : Nat) (w : World) (hL : L.length ≤ 1048576) (hat : RsAt w p L) (hs : ∀ j, j < L.length → rSm (rAt L j)) (hap : apex.size ≤ 1048576) (hk : k < L.length) :
    Calls Tryz.prog 24 #[.int .i64 7, .string apex, .slice p L.length cap, .int .i64 (k : Int)] w fun r w' => r = .returned (.bool (brk7 (rAt L k))) ∧ Below w.heap.size w w' := by
  obtain ⟨g, off, hp⟩ := rs_at hat hk
  subst hp
  have HAT := hide' hat
  have HSm := hide' hs
  have HXX : Hid (rSm (rAt L k)) := hs k hk
  obtain ⟨q0, q1, q2, q3, q4⟩ := rs_cells hat rfl hk (Below.refl _ w)
  have K0 := hide' (Bk.start w (rAt L k))
  obtain ⟨x, hx⟩ : ∃ x, rAt L k = x := ⟨_, rfl⟩
  rw [hx] at q0 q1 q2 q3 q4 HXX K0
  try rw [hx]
  have HX := hide' hx
  clear hx hat hs
  have HJ : Hid (∀ j, j < L.length → ∀ V, Below w.heap.size w V → V.cell? ⟨g, off + j * 5, none⟩ = some (.string (rAt L j).o) ∧ V.cell? ⟨g, off + j * 5 + 1, none⟩ = some (.int .i64 (rAt L j).t) ∧ V.cell? ⟨g, off + j * 5 + 2, none⟩ = some (.int .i64 (rAt L j).c) ∧ V.cell? ⟨g, off + j * 5 + 3, none⟩ = some (.int .i64 (rAt L j).l) ∧ V.cell? ⟨g, off + j * 5 + 4, none⟩ = some (.string (rAt L j).d)) := fun j hj V hV => rs_cells HAT.out rfl hj hV
  have pk1 : (0 : Int) ≤ (k : Int) := by omega
  have pk2 : (k : Int) < (L.length : Int) := by omega
  obtain ⟨wa, hwa⟩ : ∃ wa, w.alloc (.cells #[.string x.o, .int .i64 x.t, .int .i64 x.c, .int .i64 x.l, .string x.d] 40) = wa := ⟨_, rfl⟩
  rw [hwa] at K0
  have HK : Hid (∀ V, Below wa.heap.size wa V → Bk w V x) := fun V hV => K0.out.step hV
  obtain ⟨v0, v1, v2, v3, v4⟩ := K0.out.cells
  obtain ⟨xo, xt, xc, xl, xd⟩ := x
  simp only at q0 q1 q2 q3 q4 v0 v1 v2 v3 v4 hwa
  have HW := hide' (fun V => refIsStar_any xo V HXX.out.1)
  show Calls _ _ _ _ fun r w' => r = .returned (.bool ((decide (xt = 2) || decide (xt = 39)) && isStarB xo)) ∧ _
  by_cases h2 : xt = 2
  · subst h2
    go_enter Tryz.func24, Tryz.ntmps24
    go_wp2_with (go_at_call 58; refine (HW.out _).mono ?_; rintro e w5 ⟨rfl, hB5⟩)
    go_ret
    exact ⟨by simp, (HK.out _ hB5).bl⟩
  · have h2b : (xt == 2) = false := by simp [h2]
    by_cases h3 : xt = 39
    · subst h3
      go_enter Tryz.func24, Tryz.ntmps24
      go_wp2_with (go_at_call 58; refine (HW.out _).mono ?_; rintro e w5 ⟨rfl, hB5⟩)
      go_ret
      exact ⟨by simp, (HK.out _ hB5).bl⟩
    · have h3b : (xt == 39) = false := by simp [h3]
      go_enter Tryz.func24, Tryz.ntmps24
      go_wp2_with fail
      go_ret
      exact ⟨by simp [h2, h3], K0.out.bl⟩

set_option maxRecDepth 100000 in
set_option maxHeartbeats 4000000 in
/-- gazetteerref3.breaks, rule 6 -/
theorem brk6_any (apex : ByteArray) (L : List Rn) (p : Option Addr) (cap k : Nat) (w : World) (hL : L.length ≤ 1048576) (hat : RsAt w p L) (hs : ∀ j, j < L.length → rSm (rAt L j)) (hap : apex.size ≤ 1048576) (hk : k < L.length) :
    Calls Tryz.prog 24 #[.int .i64 6, .string apex, .slice p L.length cap, .int .i64 (k : Int)] w fun r w' => r = .returned (.bool (false)) ∧ Below w.heap.size w w' := by
  obtain ⟨g, off, hp⟩ := rs_at hat hk
  subst hp
  have HAT := hide' hat
  have HSm := hide' hs
  have HXX : Hid (rSm (rAt L k)) := hs k hk
  obtain ⟨q0, q1, q2, q3, q4⟩ := rs_cells hat rfl hk (Below.refl _ w)
  have K0 := hide' (Bk.start w (rAt L k))
  obtain ⟨x, hx⟩ : ∃ x, rAt L k = x := ⟨_, rfl⟩
  rw [hx] at q0 q1 q2 q3 q4 HXX K0
  try rw [hx]
  have HX := hide' hx
  clear hx hat hs
  have HJ : Hid (∀ j, j < L.length → ∀ V, Below w.heap.size w V → V.cell? ⟨g, off + j * 5, none⟩ = some (.string (rAt L j).o) ∧ V.cell? ⟨g, off + j * 5 + 1, none⟩ = some (.int .i64 (rAt L j).t) ∧ V.cell? ⟨g, off + j * 5 + 2, none⟩ = some (.int .i64 (rAt L j).c) ∧ V.cell? ⟨g, off + j * 5 + 3, none⟩ = some (.int .i64 (rAt L j).l) ∧ V.cell? ⟨g, off + j * 5 + 4, none⟩ = some (.string (rAt L j).d)) := fun j hj V hV => rs_cells HAT.out rfl hj hV
  have pk1 : (0 : Int) ≤ (k : Int) := by omega
  have pk2 : (k : Int) < (L.length : Int) := by omega
  obtain ⟨wa, hwa⟩ : ∃ wa, w.alloc (.cells #[.string x.o, .int .i64 x.t, .int .i64 x.c, .int .i64 x.l, .string x.d] 40) = wa := ⟨_, rfl⟩
  rw [hwa] at K0
  have HK : Hid (∀ V, Below wa.heap.size wa V → Bk w V x) := fun V hV => K0.out.step hV
  obtain ⟨v0, v1, v2, v3, v4⟩ := K0.out.cells
  obtain ⟨xo, xt, xc, xl, xd⟩ := x
  simp only at q0 q1 q2 q3 q4 v0 v1 v2 v3 v4 hwa
  go_enter Tryz.func24, Tryz.ntmps24
  go_wp2_with fail
  go_ret
  exact ⟨rfl, K0.out.bl⟩
end Go.Proofs.YtbahjpjncopabaaGreat

/-
  gazetteerref3.breaks, rule 2. (The verifier's own text.)
-/
namespace Go.Proofs.YtbahjpjncopabaaGreat
set_option linter.unusedVariables false
set_option linter.unusedSimpArgs false
open Go.RowKit Go.Shelf Go.Maps Go.Proofs.YtbahjpjncopabaaGreat.Nm

set_option maxRecDepth 100000 in
set_option maxHeartbeats 4000000 in
/-- gazetteerref3.breaks, rule 2 -/
theorem brk2_any (apex : ByteArray) (L : List Rn) (p : Option Addr) (cap k : Nat) (w : World) (hL : L.length ≤ 1048576) (hat : RsAt w p L) (hs : ∀ j, j < L.length → rSm (rAt L j)) (hap : apex.size ≤ 1048576) (hk : k < L.length) :
    Calls Tryz.prog 24 #[.int .i64 2, .string apex, .slice p L.length cap, .int .i64 (k : Int)] w fun r w' => r = .returned (.bool (brk2 (rAt L k))) ∧ Below w.heap.size w w' := by
  obtain ⟨g, off, hp⟩ := rs_at hat hk
  subst hp
  have HAT := hide' hat
  have HSm := hide' hs
  have HXX : Hid (rSm (rAt L k)) := hs k hk
  obtain ⟨q0, q1, q2, q3, q4⟩ := rs_cells hat rfl hk (Below.refl _ w)
  have K0 := hide' (Bk.start w (rAt L k))
  obtain ⟨x, hx⟩ : ∃ x, rAt L k = x := ⟨_, rfl⟩
  rw [hx] at q0 q1 q2 q3 q4 HXX K0
  try rw [hx]
  have HX := hide' hx
  clear hx hat hs
  have HJ : Hid (∀ j, j < L.length → ∀ V, Below w.heap.size w V → V.cell? ⟨g, off + j * 5, none⟩ = some (.string (rAt L j).o) ∧ V.cell? ⟨g, off + j * 5 + 1, none⟩ = some (.int .i64 (rAt L j).t) ∧ V.cell? ⟨g, off + j * 5 + 2, none⟩ = some (.int .i64 (rAt L j).c) ∧ V.cell? ⟨g, off + j * 5 + 3, none⟩ = some (.int .i64 (rAt L j).l) ∧ V.cell? ⟨g, off + j * 5 + 4, none⟩ = some (.string (rAt L j).d)) := fun j hj V hV => rs_cells HAT.out rfl hj hV
  have pk1 : (0 : Int) ≤ (k : Int) := by omega
  have pk2 : (k : Int) < (L.length : Int) := by omega
  obtain ⟨wa, hwa⟩ : ∃ wa, w.alloc (.cells #[.string x.o, .int .i64 x.t, .int .i64 x.c, .int .i64 x.l, .string x.d] 40) = wa := ⟨_, rfl⟩
  rw [hwa] at K0
  have HK : Hid (∀ V, Below wa.heap.size wa V → Bk w V x) := fun V hV => K0.out.step hV
  obtain ⟨v0, v1, v2, v3, v4⟩ := K0.out.cells
  obtain ⟨xo, xt, xc, xl, xd⟩ := x
  simp only at q0 q1 q2 q3 q4 v0 v1 v2 v3 v4 hwa
  obtain ⟨o, ho_⟩ : ∃ o, xo = o := ⟨_, rfl⟩
  subst ho_
  have ho : xo.size ≤ 1048576 := HXX.out.1
  have hd : xd.size ≤ 9223372036854775807 := Nat.le_trans HXX.out.2 (by omega)
  show Calls _ _ _ _ fun r w' => r = .returned (.bool (!zonB xo xd xt xc xl)) ∧ _
  have HB := hide' K0.out.bl
  have HH := hide' K0.out.x
  have QF : Hid (∀ V : World, Bx V w.heap.size #[.string xo, .int .i64 xt, .int .i64 xc, .int .i64 xl, .string xd] 40 → V.cell? ⟨w.heap.size, 0, none⟩ = some (.string xo) ∧ V.cell? ⟨w.heap.size, 1, none⟩ = some (.int .i64 xt) ∧ V.cell? ⟨w.heap.size, 2, none⟩ = some (.int .i64 xc) ∧ V.cell? ⟨w.heap.size, 3, none⟩ = some (.int .i64 xl) ∧ V.cell? ⟨w.heap.size, 4, none⟩ = some (.string xd)) := fun V h => ⟨h.cell rfl, h.cell rfl, h.cell rfl, h.cell rfl, h.cell rfl⟩
  clear K0 HK HJ HAT HSm HX
  obtain ⟨ee, hee⟩ : ∃ ee, errD xt xd = ee := ⟨_, rfl⟩
  have HE := hide' hee
  cases hN : isN xo with
  | false =>
    have HV : Hid (zonB xo xd xt xc xl = false) := by unfold Hid zonB; rw [hN]; rfl
    have HN := hide' hN
    rw [HV.out]
    go_enter Tryz.func24, Tryz.ntmps24
    go_wp2_with (first
      | (go_at_call 23; refine (refIsName_any xo _ ho).mono ?_; rw [HN.out]; rintro r w1 ⟨rfl, hB1⟩; have HH1 := hide' (HH.out.below hB1 HH.out.lt); have HB1 := hide' (bstep HB.out hB1 HB.out.size); obtain ⟨j0, j1, j2, j3, j4⟩ := QF.out w1 HH1.out; clear hB1)
      | (go_at_call 54; refine (refCheckData_any xt xd _ hd).mono ?_; rw [HE.out]; rintro r w2 ⟨rfl, hB2⟩; have HB2 := hide' (bstep HB1.out hB2 HB1.out.size); clear hB2))
    go_ret
    exact ⟨rfl, by first | exact HB2.out | exact HB1.out⟩
  | true =>
    have HN := hide' hN
    by_cases hc : xc = 1
    · by_cases hl0 : 0 ≤ xl
      · by_cases hl1 : xl ≤ 2147483647
        · by_cases h0 : ee = 0
          · have HV : Hid (zonB xo xd xt xc xl = true) := by unfold Hid zonB; rw [hN, decide_eq_true hc, decide_eq_true hl0, decide_eq_true hl1, decide_eq_true (hee.trans h0)]; rfl
            subst h0
            subst hc
            clear hN hee
            rw [HV.out]
            go_enter Tryz.func24, Tryz.ntmps24
            go_wp2_with (first
              | (go_at_call 23; refine (refIsName_any xo _ ho).mono ?_; rw [HN.out]; rintro r w1 ⟨rfl, hB1⟩; have HH1 := hide' (HH.out.below hB1 HH.out.lt); have HB1 := hide' (bstep HB.out hB1 HB.out.size); obtain ⟨j0, j1, j2, j3, j4⟩ := QF.out w1 HH1.out; clear hB1)
              | (go_at_call 54; refine (refCheckData_any xt xd _ hd).mono ?_; rw [HE.out]; rintro r w2 ⟨rfl, hB2⟩; have HB2 := hide' (bstep HB1.out hB2 HB1.out.size); clear hB2))
            go_ret
            exact ⟨rfl, by first | exact HB2.out | exact HB1.out⟩
          · have HV : Hid (zonB xo xd xt xc xl = false) := by unfold Hid zonB; rw [decide_eq_false (fun h => h0 (hee.symm.trans h))]; simp
            have hb : ((ee : Int) == 0) = false := by rw [beq_eq_false_iff_ne]; omega
            have hb2 : ¬ (ee : Int) = 0 := by omega
            subst hc
            clear hN hee h0
            rw [HV.out]
            go_enter Tryz.func24, Tryz.ntmps24
            go_wp2_with (first
              | (go_at_call 23; refine (refIsName_any xo _ ho).mono ?_; rw [HN.out]; rintro r w1 ⟨rfl, hB1⟩; have HH1 := hide' (HH.out.below hB1 HH.out.lt); have HB1 := hide' (bstep HB.out hB1 HB.out.size); obtain ⟨j0, j1, j2, j3, j4⟩ := QF.out w1 HH1.out; clear hB1)
              | (go_at_call 54; refine (refCheckData_any xt xd _ hd).mono ?_; rw [HE.out]; rintro r w2 ⟨rfl, hB2⟩; have HB2 := hide' (bstep HB1.out hB2 HB1.out.size); clear hB2))
            go_ret
            exact ⟨rfl, by first | exact HB2.out | exact HB1.out⟩
        · have HV : Hid (zonB xo xd xt xc xl = false) := by unfold Hid zonB; rw [decide_eq_false hl1]; simp
          subst hc
          clear hN hee
          rw [HV.out]
          go_enter Tryz.func24, Tryz.ntmps24
          go_wp2_with (first
            | (go_at_call 23; refine (refIsName_any xo _ ho).mono ?_; rw [HN.out]; rintro r w1 ⟨rfl, hB1⟩; have HH1 := hide' (HH.out.below hB1 HH.out.lt); have HB1 := hide' (bstep HB.out hB1 HB.out.size); obtain ⟨j0, j1, j2, j3, j4⟩ := QF.out w1 HH1.out; clear hB1)
            | (go_at_call 54; refine (refCheckData_any xt xd _ hd).mono ?_; rw [HE.out]; rintro r w2 ⟨rfl, hB2⟩; have HB2 := hide' (bstep HB1.out hB2 HB1.out.size); clear hB2))
          go_ret
          exact ⟨rfl, by first | exact HB2.out | exact HB1.out⟩
      · have HV : Hid (zonB xo xd xt xc xl = false) := by unfold Hid zonB; rw [decide_eq_false hl0]; simp
        subst hc
        clear hN hee
        rw [HV.out]
        go_enter Tryz.func24, Tryz.ntmps24
        go_wp2_with (first
          | (go_at_call 23; refine (refIsName_any xo _ ho).mono ?_; rw [HN.out]; rintro r w1 ⟨rfl, hB1⟩; have HH1 := hide' (HH.out.below hB1 HH.out.lt); have HB1 := hide' (bstep HB.out hB1 HB.out.size); obtain ⟨j0, j1, j2, j3, j4⟩ := QF.out w1 HH1.out; clear hB1)
          | (go_at_call 54; refine (refCheckData_any xt xd _ hd).mono ?_; rw [HE.out]; rintro r w2 ⟨rfl, hB2⟩; have HB2 := hide' (bstep HB1.out hB2 HB1.out.size); clear hB2))
        go_ret
        exact ⟨rfl, by first | exact HB2.out | exact HB1.out⟩
    · have HV : Hid (zonB xo xd xt xc xl = false) := by unfold Hid zonB; rw [decide_eq_false hc]; simp
      have hb : (xc == 1) = false := by rw [beq_eq_false_iff_ne]; exact hc
      clear hN hee
      rw [HV.out]
      go_enter Tryz.func24, Tryz.ntmps24
      go_wp2_with (first
        | (go_at_call 23; refine (refIsName_any xo _ ho).mono ?_; rw [HN.out]; rintro r w1 ⟨rfl, hB1⟩; have HH1 := hide' (HH.out.below hB1 HH.out.lt); have HB1 := hide' (bstep HB.out hB1 HB.out.size); obtain ⟨j0, j1, j2, j3, j4⟩ := QF.out w1 HH1.out; clear hB1)
        | (go_at_call 54; refine (refCheckData_any xt xd _ hd).mono ?_; rw [HE.out]; rintro r w2 ⟨rfl, hB2⟩; have HB2 := hide' (bstep HB1.out hB2 HB1.out.size); clear hB2))
      go_ret
      exact ⟨rfl, by first | exact HB2.out | exact HB1.out⟩
end Go.Proofs.YtbahjpjncopabaaGreat
