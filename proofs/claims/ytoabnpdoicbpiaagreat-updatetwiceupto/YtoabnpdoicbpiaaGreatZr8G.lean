import Derived.Test.YtoabnpdoicbpiaaGreatZr1G
/-
  gazetteerref3.breaks, rule 8. (The verifier's own text.)
-/
namespace Go.Proofs.YtoabnpdoicbpiaaGreat
set_option linter.unusedVariables false
set_option linter.unusedSimpArgs false
open Go.RowKit Go.Shelf Go.Maps Go.Proofs.YtoabnpdoicbpiaaGreat.Nm

set_option maxRecDepth 100000 in
set_option maxHeartbeats 4000000 in
/-- gazetteerref3.breaks, rule 8 -/
theorem brk8_any (apex : ByteArray) (L : List Rn) (p : Option Addr) (cap k : Nat) (w : World) (hL : L.length ≤ 1048576) (hat : RsAt w p L) (hs : ∀ j, j < L.length → rSm (rAt L j)) (hap : apex.size ≤ 1048576) (hk : k < L.length) :
    Calls Tryz.prog 81 #[.int .i64 8, .string apex, .slice p L.length cap, .int .i64 (k : Int)] w fun r w' => r = .returned (.bool (brk8 L k (rAt L k))) ∧ Below w.heap.size w w' := by
  obtain ⟨g, off, hp⟩ := rs_at hat hk
  subst hp
  have HAT := hide' hat
  have HSm := hide' hs
  have HXX : Hid (rSm (rAt L k)) := hs k hk
  obtain ⟨q0, q1, q2, q3, q4⟩ := rs_cells hat rfl hk (Below.refl _ w)
  have K0 := hide' (Bk.start w (rAt L k))
  obtain ⟨x, hx⟩ : ∃ x, rAt L k = x := ⟨_, rfl⟩
  rw [hx] at q0 q1 q2 q3 q4 HXX K0
  try rw [hx]
  have HX := hide' hx
  clear hx hat hs
  have HJ : Hid (∀ j, j < L.length → ∀ V, Below w.heap.size w V → V.cell? ⟨g, off + j * 5, none⟩ = some (.string (rAt L j).o) ∧ V.cell? ⟨g, off + j * 5 + 1, none⟩ = some (.int .i64 (rAt L j).t) ∧ V.cell? ⟨g, off + j * 5 + 2, none⟩ = some (.int .i64 (rAt L j).c) ∧ V.cell? ⟨g, off + j * 5 + 3, none⟩ = some (.int .i64 (rAt L j).l) ∧ V.cell? ⟨g, off + j * 5 + 4, none⟩ = some (.string (rAt L j).d)) := fun j hj V hV => rs_cells HAT.out rfl hj hV
  have pk1 : (0 : Int) ≤ (k : Int) := by omega
  have pk2 : (k : Int) < (L.length : Int) := by omega
  obtain ⟨wa, hwa⟩ : ∃ wa, w.alloc (.cells #[.string x.o, .int .i64 x.t, .int .i64 x.c, .int .i64 x.l, .string x.d] 29) = wa := ⟨_, rfl⟩
  rw [hwa] at K0
  have HK : Hid (∀ V, Below wa.heap.size wa V → Bk w V x) := fun V hV => K0.out.step hV
  obtain ⟨v0, v1, v2, v3, v4⟩ := K0.out.cells
  obtain ⟨xo, xt, xc, xl, xd⟩ := x
  simp only at q0 q1 q2 q3 q4 v0 v1 v2 v3 v4 hwa
  show Calls _ _ _ _ fun r w' => r = .returned (.bool (decide (xt = 5) && ((List.range L.length).any fun j => !decide (j = k) && (eqB (rAt L j).o xo && othB (rAt L j))))) ∧ _
  by_cases h6 : ¬ xt = 5
  · have h6b : (xt == 5) = false := by simp [h6]
    go_enter Tryz.func81, Tryz.ntmps81
    go_wp2_with fail
    go_loopw [110] (fun jv wr => ∃ j : Nat, jv = .int .i64 (j : Int) ∧ j ≤ L.length ∧ Hid (Below wa.heap.size wa wr)) (fun jv _ => L.length - (intOf jv).toNat)
    case atStart => exact ⟨0, rfl, Nat.zero_le _, Below.refl _ _⟩
    case round =>
      obtain ⟨j, rfl, hj, HBr⟩ := hrel
      obtain ⟨u0, u1, u2, u3, u4⟩ := (HK.out _ HBr.out).cells
      simp only at u0 u1 u2 u3 u4
      by_cases hlt : j < L.length
      · have pj : (j : Int) < (L.length : Int) := by omega
        go_wp2_with fail
        go_region
        all_goals
          go_wp2_with fail
          exact ⟨⟨j + 1, by go_num, by omega, HBr.out.drew⟩, by simp [intOf]; omega⟩
      · obtain rfl : j = L.length := by omega
        go_wp2_with fail
        go_ret
        exact ⟨by simp [h6], (HK.out _ HBr.out).bl⟩
  have h6 := Decidable.not_not.1 h6
  subst h6
  rw [decide_eq_true rfl, Bool.true_and]
  go_enter Tryz.func81, Tryz.ntmps81
  go_wp2_with fail
  go_loopw [110] (fun jv wr => ∃ j : Nat, jv = .int .i64 (j : Int) ∧ j ≤ L.length ∧ Hid (∀ i, i < j → (fun j => !decide (j = k) && (eqB (rAt L j).o xo && othB (rAt L j))) i = false) ∧ Hid (Below wa.heap.size wa wr)) (fun jv _ => L.length - (intOf jv).toNat)
  case atStart => exact ⟨0, rfl, Nat.zero_le _, (fun i h => absurd h (Nat.not_lt_zero _)), Below.refl _ _⟩
  case round =>
    obtain ⟨j, rfl, hj, HN, HBr⟩ := hrel
    have hBl0 : Below w.heap.size w wr := (HK.out _ HBr.out).bl
    have HBl := hide' hBl0
    obtain ⟨u0, u1, u2, u3, u4⟩ := (HK.out _ HBr.out).cells
    simp only at u0 u1 u2 u3 u4
    by_cases hlt : j < L.length
    · have hjL : j < L.length := by omega
      obtain ⟨y0, y1, y2, y3, y4⟩ := HJ.out j hjL wr hBl0
      have HJS := hide' (HSm.out j hjL)
      have HU : Hid ((fun j => !decide (j = k) && (eqB (rAt L j).o xo && othB (rAt L j))) j = false → ∀ i, i < j + 1 → (fun j => !decide (j = k) && (eqB (rAt L j).o xo && othB (rAt L j))) i = false) := fun h => up_to HN.out h
      have HQ : Hid (∀ V, Below wr.heap.size wr V → (V.cell? ⟨g, off + j * 5, none⟩ = some (.string (rAt L j).o) ∧ V.cell? ⟨g, off + j * 5 + 1, none⟩ = some (.int .i64 (rAt L j).t) ∧ V.cell? ⟨g, off + j * 5 + 2, none⟩ = some (.int .i64 (rAt L j).c) ∧ V.cell? ⟨g, off + j * 5 + 3, none⟩ = some (.int .i64 (rAt L j).l) ∧ V.cell? ⟨g, off + j * 5 + 4, none⟩ = some (.string (rAt L j).d)) ∧ V.cell? ⟨w.heap.size, 0, none⟩ = some (.string xo) ∧ V.cell? ⟨w.heap.size, 1, none⟩ = some (.int .i64 5) ∧ V.cell? ⟨w.heap.size, 2, none⟩ = some (.int .i64 xc) ∧ V.cell? ⟨w.heap.size, 3, none⟩ = some (.int .i64 xl) ∧ V.cell? ⟨w.heap.size, 4, none⟩ = some (.string xd)) := fun V hV => ⟨HJ.out j hjL V (bstep HBl.out hV HBl.out.size), (HK.out _ (bstep HBr.out hV HBr.out.size)).cells⟩
      have HBn : Hid (∀ V, Below wr.heap.size wr V → Below wa.heap.size wa V) := fun V hV => bstep HBr.out hV HBr.out.size
      have HFi : Hid (∀ V, Below wr.heap.size wr V → Below w.heap.size w V) := fun V hV => bstep HBl.out hV HBl.out.size
      clear hBl0
      have pj1 : (0 : Int) ≤ (j : Int) := by omega
      have pj2 : (j : Int) < (L.length : Int) := by omega
      have pj3 : (j : Int) < (L.length : Int) := by omega
      have HE := hide' (fun V => equalName_any (rAt L j).o xo V HJS.out.1 HXX.out.1)
      have HH : Hid ((fun j => !decide (j = k) && (eqB (rAt L j).o xo && othB (rAt L j))) j = true → ((List.range L.length).any (fun j => !decide (j = k) && (eqB (rAt L j).o xo && othB (rAt L j)))) = true) := fun h => any_hit hlt h
      simp only at HH HU
      obtain ⟨E, hE⟩ : ∃ E, eqB (rAt L j).o xo = E := ⟨_, rfl⟩
      rw [hE] at HE HH HU
      clear hE
      obtain ⟨y, hy⟩ : ∃ y, rAt L j = y := ⟨_, rfl⟩
      rw [hy] at y0 y1 y2 y3 y4 HJS HQ HE HH HU
      have HYY := hide' hy
      clear hy
      obtain ⟨yo, yt, yc, yl, yd⟩ := y
      simp only at y0 y1 y2 y3 y4 HQ
      simp only [othB] at HH HU HE
      have hB := (Below.refl wr.heap.size wr).drew
      by_cases hjk : j = k
      · have HUU := hide' (HU.out (by simp [hjk]))
        have hjb : ((j : Int) != (k : Int)) = false := by simp [hjk]
        clear hjk
        go_wp2_with fail
        go_region
        all_goals
          go_wp2_with fail
          exact ⟨⟨j + 1, by go_num, by omega, HUU, HBn.out _ hB⟩, by simp [intOf]; omega⟩
      · have hjb : ((j : Int) != (k : Int)) = true := by simp; omega
        cases E with
        | false =>
          have HUU := hide' (HU.out (by simp))
          go_wp2_with fail
          refine wp_region_held_drew (S := (fun V => (V.cell? ⟨g, off + j * 5, none⟩ = some (.string yo) ∧ V.cell? ⟨g, off + j * 5 + 1, none⟩ = some (.int .i64 yt) ∧ V.cell? ⟨g, off + j * 5 + 2, none⟩ = some (.int .i64 yc) ∧ V.cell? ⟨g, off + j * 5 + 3, none⟩ = some (.int .i64 yl) ∧ V.cell? ⟨g, off + j * 5 + 4, none⟩ = some (.string yd)) ∧ V.cell? ⟨w.heap.size, 0, none⟩ = some (.string xo) ∧ V.cell? ⟨w.heap.size, 1, none⟩ = some (.int .i64 5) ∧ V.cell? ⟨w.heap.size, 2, none⟩ = some (.int .i64 xc) ∧ V.cell? ⟨w.heap.size, 3, none⟩ = some (.int .i64 xl) ∧ V.cell? ⟨w.heap.size, 4, none⟩ = some (.string xd))) (by kernel_rfl) ?_ (fun hHeld => ?_)
          · (try dsimp only); go_keep
          refine takeD 0 (some 113) (.pointer (some ⟨w.heap.size, 1, none⟩)) rfl rfl (by kernel_rfl) (by kernel_rfl) (by kernel_rfl) (fun _ _ _ h => h) (Or.inl ⟨by rfl, ?_⟩) (by assumption) ?_
          · intro w hSw; (try dsimp only at hSw); go_simp <;> (intros; omega)
          simp only [Act.put, List.setIfInBounds_toArray, List.set_cons_zero, List.set_cons_succ]
          refine takeD 1 (some 114) (.int .i64 5) rfl rfl (by kernel_rfl) (by kernel_rfl) (by kernel_rfl) (fun _ _ _ h => h) (Or.inl ⟨by rfl, ?_⟩) (by assumption) ?_
          · intro w hSw; (try dsimp only at hSw); go_simp <;> (intros; omega)
          simp only [Act.put, List.setIfInBounds_toArray, List.set_cons_zero, List.set_cons_succ]
          refine takeD 2 (some 115) (.bool true) rfl rfl (by kernel_rfl) (by kernel_rfl) (by kernel_rfl) (fun _ _ _ h => h) (Or.inl ⟨by rfl, ?_⟩) (by assumption) ?_
          · intro w hSw; (try dsimp only at hSw); go_simp <;> (intros; omega)
          simp only [Act.put, List.setIfInBounds_toArray, List.set_cons_zero, List.set_cons_succ]
          refine takeD 3 (some 116) (.bool true) rfl rfl (by kernel_rfl) (by kernel_rfl) (by kernel_rfl) (fun _ _ _ h => h) (Or.inl ⟨by rfl, ?_⟩) (by assumption) ?_
          · intro w hSw; (try dsimp only at hSw); go_simp <;> (intros; omega)
          simp only [Act.put, List.setIfInBounds_toArray, List.set_cons_zero, List.set_cons_succ]
          refine takeD 4 (some 117) (.int .i64 (j : Int)) rfl rfl (by kernel_rfl) (by kernel_rfl) (by kernel_rfl) (fun _ _ _ h => h) (Or.inl ⟨by rfl, ?_⟩) (by assumption) ?_
          · intro w hSw; (try dsimp only at hSw); go_simp <;> (intros; omega)
          simp only [Act.put, List.setIfInBounds_toArray, List.set_cons_zero, List.set_cons_succ]
          refine takeD 5 (some 118) (.int .i64 (k : Int)) rfl rfl (by kernel_rfl) (by kernel_rfl) (by kernel_rfl) (fun _ _ _ h => h) (Or.inl ⟨by rfl, ?_⟩) (by assumption) ?_
          · intro w hSw; (try dsimp only at hSw); go_simp <;> (intros; omega)
          simp only [Act.put, List.setIfInBounds_toArray, List.set_cons_zero, List.set_cons_succ]
          refine takeD 6 (some 119) (.bool true) rfl rfl (by kernel_rfl) (by kernel_rfl) (by kernel_rfl) (fun _ _ _ h => h) (Or.inl ⟨by rfl, ?_⟩) (by assumption) ?_
          · intro w hSw; (try dsimp only at hSw); go_simp <;> (intros; omega)
          simp only [Act.put, List.setIfInBounds_toArray, List.set_cons_zero, List.set_cons_succ]
          refine takeD 7 (some 120) (.bool true) rfl rfl (by kernel_rfl) (by kernel_rfl) (by kernel_rfl) (fun _ _ _ h => h) (Or.inl ⟨by rfl, ?_⟩) (by assumption) ?_
          · intro w hSw; (try dsimp only at hSw); go_simp <;> (intros; omega)
          simp only [Act.put, List.setIfInBounds_toArray, List.set_cons_zero, List.set_cons_succ]
          refine takeD 8 (some 121) (.bool true) rfl rfl (by kernel_rfl) (by kernel_rfl) (by kernel_rfl) (fun _ _ _ h => h) (Or.inl ⟨by rfl, ?_⟩) (by assumption) ?_
          · intro w hSw; (try dsimp only at hSw); go_simp <;> (intros; omega)
          simp only [Act.put, List.setIfInBounds_toArray, List.set_cons_zero, List.set_cons_succ]
          refine takeD 9 (some 122) (.slice (some ⟨g, off, none⟩) L.length cap) rfl rfl (by kernel_rfl) (by kernel_rfl) (by kernel_rfl) (fun _ _ _ h => h) (Or.inl ⟨by rfl, ?_⟩) (by assumption) ?_
          · intro w hSw; (try dsimp only at hSw); go_simp <;> (intros; omega)
          simp only [Act.put, List.setIfInBounds_toArray, List.set_cons_zero, List.set_cons_succ]
          refine takeD 10 (some 123) (.int .i64 (j : Int)) rfl rfl (by kernel_rfl) (by kernel_rfl) (by kernel_rfl) (fun _ _ _ h => h) (Or.inl ⟨by rfl, ?_⟩) (by assumption) ?_
          · intro w hSw; (try dsimp only at hSw); go_simp <;> (intros; omega)
          simp only [Act.put, List.setIfInBounds_toArray, List.set_cons_zero, List.set_cons_succ]
          refine takeD 11 (some 124) (.pointer (some ⟨g, off + j * 5, none⟩)) rfl rfl (by kernel_rfl) (by kernel_rfl) (by kernel_rfl) (fun _ _ _ h => h) (Or.inl ⟨by rfl, ?_⟩) (by assumption) ?_
          · intro w hSw; (try dsimp only at hSw); go_simp <;> (intros; omega)
          simp only [Act.put, List.setIfInBounds_toArray, List.set_cons_zero, List.set_cons_succ]
          refine takeD 12 (some 125) (.pointer (some ⟨g, off + j * 5, none⟩)) rfl rfl (by kernel_rfl) (by kernel_rfl) (by kernel_rfl) (fun _ _ _ h => h) (Or.inl ⟨by rfl, ?_⟩) (by assumption) ?_
          · intro w hSw; (try dsimp only at hSw); go_simp <;> (intros; omega)
          simp only [Act.put, List.setIfInBounds_toArray, List.set_cons_zero, List.set_cons_succ]
          refine takeD 13 (some 126) (.string yo) rfl rfl (by kernel_rfl) (by kernel_rfl) (by kernel_rfl) (fun _ _ _ h => h) (Or.inl ⟨by rfl, ?_⟩) (by assumption) ?_
          · intro w hSw; (try dsimp only at hSw); go_simp <;> (intros; omega)
          simp only [Act.put, List.setIfInBounds_toArray, List.set_cons_zero, List.set_cons_succ]
          refine takeD 14 (some 127) (.pointer (some ⟨w.heap.size, 0, none⟩)) rfl rfl (by kernel_rfl) (by kernel_rfl) (by kernel_rfl) (fun _ _ _ h => h) (Or.inl ⟨by rfl, ?_⟩) (by assumption) ?_
          · intro w hSw; (try dsimp only at hSw); go_simp <;> (intros; omega)
          simp only [Act.put, List.setIfInBounds_toArray, List.set_cons_zero, List.set_cons_succ]
          refine takeD 15 (some 128) (.string xo) rfl rfl (by kernel_rfl) (by kernel_rfl) (by kernel_rfl) (fun _ _ _ h => h) (Or.inl ⟨by rfl, ?_⟩) (by assumption) ?_
          · intro w hSw; (try dsimp only at hSw); go_simp <;> (intros; omega)
          simp only [Act.put, List.setIfInBounds_toArray, List.set_cons_zero, List.set_cons_succ]
          refine wpAnyH_ready (rs := [16]) (by kernel_rfl) (by simp) ?_
          refine AllReadyH.cons rfl (fun K hK => ?_) AllReadyH.nil
          go_simp
          go_at_call 113; refine (HE.out _).mono ?_; rintro e w5 ⟨rfl, hB5⟩; have hB := below_any hB hB5 (by first | exact .inl rfl | exact .inr rfl) hB.size; clear hB5
          go_wp2_with fail
          refine hK.out _ _ (HQ.out _ hB) (fun hHeld => ?_)
          clear hK K
          try simp only [Act.put, List.setIfInBounds_toArray, List.set_cons_zero, List.set_cons_succ]
          refine takeD 17 (some 130) (.bool false) rfl rfl (by kernel_rfl) (by kernel_rfl) (by kernel_rfl) (fun _ _ _ h => h) (Or.inl ⟨by rfl, ?_⟩) (by assumption) ?_
          · intro w hSw; (try dsimp only at hSw); go_simp <;> (intros; omega)
          simp only [Act.put, List.setIfInBounds_toArray, List.set_cons_zero, List.set_cons_succ]
          refine takeD 18 (some 131) (.bool false) rfl rfl (by kernel_rfl) (by kernel_rfl) (by kernel_rfl) (fun _ _ _ h => h) (Or.inl ⟨by rfl, ?_⟩) (by assumption) ?_
          · intro w hSw; (try dsimp only at hSw); go_simp <;> (intros; omega)
          simp only [Act.put, List.setIfInBounds_toArray, List.set_cons_zero, List.set_cons_succ]
          refine takeD 19 (some 132) undef rfl rfl (by kernel_rfl) (by kernel_rfl) (by kernel_rfl) (fun _ _ _ h => h) (Or.inr ⟨by rfl, rfl⟩) (by assumption) ?_
          simp only [Act.put, List.setIfInBounds_toArray, List.set_cons_zero, List.set_cons_succ]
          refine takeD 20 (some 133) undef rfl rfl (by kernel_rfl) (by kernel_rfl) (by kernel_rfl) (fun _ _ _ h => h) (Or.inr ⟨by rfl, rfl⟩) (by assumption) ?_
          simp only [Act.put, List.setIfInBounds_toArray, List.set_cons_zero, List.set_cons_succ]
          refine takeD 21 (some 134) undef rfl rfl (by kernel_rfl) (by kernel_rfl) (by kernel_rfl) (fun _ _ _ h => h) (Or.inr ⟨by rfl, rfl⟩) (by assumption) ?_
          simp only [Act.put, List.setIfInBounds_toArray, List.set_cons_zero, List.set_cons_succ]
          refine takeD 22 (some 135) undef rfl rfl (by kernel_rfl) (by kernel_rfl) (by kernel_rfl) (fun _ _ _ h => h) (Or.inr ⟨by rfl, rfl⟩) (by assumption) ?_
          simp only [Act.put, List.setIfInBounds_toArray, List.set_cons_zero, List.set_cons_succ]
          refine takeD 23 (some 136) undef rfl rfl (by kernel_rfl) (by kernel_rfl) (by kernel_rfl) (fun _ _ _ h => h) (Or.inr ⟨by rfl, rfl⟩) (by assumption) ?_
          simp only [Act.put, List.setIfInBounds_toArray, List.set_cons_zero, List.set_cons_succ]
          refine takeD 24 (some 137) undef rfl rfl (by kernel_rfl) (by kernel_rfl) (by kernel_rfl) (fun _ _ _ h => h) (Or.inr ⟨by rfl, rfl⟩) (by assumption) ?_
          simp only [Act.put, List.setIfInBounds_toArray, List.set_cons_zero, List.set_cons_succ]
          refine takeD 25 (some 138) (.bool false) rfl rfl (by kernel_rfl) (by kernel_rfl) (by kernel_rfl) (fun _ _ _ h => h) (Or.inl ⟨by rfl, ?_⟩) (by assumption) ?_
          · intro w hSw; (try dsimp only at hSw); go_simp <;> (intros; omega)
          simp only [Act.put, List.setIfInBounds_toArray, List.set_cons_zero, List.set_cons_succ]
          refine takeD 26 (some 139) (.bool false) rfl rfl (by kernel_rfl) (by kernel_rfl) (by kernel_rfl) (fun _ _ _ h => h) (Or.inl ⟨by rfl, ?_⟩) (by assumption) ?_
          · intro w hSw; (try dsimp only at hSw); go_simp <;> (intros; omega)
          simp only [Act.put, List.setIfInBounds_toArray, List.set_cons_zero, List.set_cons_succ]
          refine takeD 27 (some 140) undef rfl rfl (by kernel_rfl) (by kernel_rfl) (by kernel_rfl) (fun _ _ _ h => h) (Or.inr ⟨by rfl, rfl⟩) (by assumption) ?_
          simp only [Act.put, List.setIfInBounds_toArray, List.set_cons_zero, List.set_cons_succ]
          refine takeD 28 (some 141) undef rfl rfl (by kernel_rfl) (by kernel_rfl) (by kernel_rfl) (fun _ _ _ h => h) (Or.inr ⟨by rfl, rfl⟩) (by assumption) ?_
          simp only [Act.put, List.setIfInBounds_toArray, List.set_cons_zero, List.set_cons_succ]
          refine takeD 29 (some 142) undef rfl rfl (by kernel_rfl) (by kernel_rfl) (by kernel_rfl) (fun _ _ _ h => h) (Or.inr ⟨by rfl, rfl⟩) (by assumption) ?_
          simp only [Act.put, List.setIfInBounds_toArray, List.set_cons_zero, List.set_cons_succ]
          refine takeD 30 (some 143) undef rfl rfl (by kernel_rfl) (by kernel_rfl) (by kernel_rfl) (fun _ _ _ h => h) (Or.inr ⟨by rfl, rfl⟩) (by assumption) ?_
          simp only [Act.put, List.setIfInBounds_toArray, List.set_cons_zero, List.set_cons_succ]
          refine takeD 31 (some 144) undef rfl rfl (by kernel_rfl) (by kernel_rfl) (by kernel_rfl) (fun _ _ _ h => h) (Or.inr ⟨by rfl, rfl⟩) (by assumption) ?_
          simp only [Act.put, List.setIfInBounds_toArray, List.set_cons_zero, List.set_cons_succ]
          refine takeD 32 (some 145) undef rfl rfl (by kernel_rfl) (by kernel_rfl) (by kernel_rfl) (fun _ _ _ h => h) (Or.inr ⟨by rfl, rfl⟩) (by assumption) ?_
          simp only [Act.put, List.setIfInBounds_toArray, List.set_cons_zero, List.set_cons_succ]
          refine takeD 33 (some 146) (.bool false) rfl rfl (by kernel_rfl) (by kernel_rfl) (by kernel_rfl) (fun _ _ _ h => h) (Or.inl ⟨by rfl, ?_⟩) (by assumption) ?_
          · intro w hSw; (try dsimp only at hSw); go_simp <;> (intros; omega)
          simp only [Act.put, List.setIfInBounds_toArray, List.set_cons_zero, List.set_cons_succ]
          refine wpAnyH_done (by kernel_rfl) ?_ _
          go_wp2_with fail
          exact ⟨⟨j + 1, by go_num, by omega, HUU, HBn.out _ hB⟩, by simp [intOf]; omega⟩
        | true =>
          by_cases e1 : yt = 46
          · have HUU := hide' (HU.out (by simp [e1]))
            have e1b : (yt != 46) = false := by simp [e1]
            clear e1
            go_wp2_with fail
            refine wp_region_held_drew (S := (fun V => (V.cell? ⟨g, off + j * 5, none⟩ = some (.string yo) ∧ V.cell? ⟨g, off + j * 5 + 1, none⟩ = some (.int .i64 yt) ∧ V.cell? ⟨g, off + j * 5 + 2, none⟩ = some (.int .i64 yc) ∧ V.cell? ⟨g, off + j * 5 + 3, none⟩ = some (.int .i64 yl) ∧ V.cell? ⟨g, off + j * 5 + 4, none⟩ = some (.string yd)) ∧ V.cell? ⟨w.heap.size, 0, none⟩ = some (.string xo) ∧ V.cell? ⟨w.heap.size, 1, none⟩ = some (.int .i64 5) ∧ V.cell? ⟨w.heap.size, 2, none⟩ = some (.int .i64 xc) ∧ V.cell? ⟨w.heap.size, 3, none⟩ = some (.int .i64 xl) ∧ V.cell? ⟨w.heap.size, 4, none⟩ = some (.string xd))) (by kernel_rfl) ?_ (fun hHeld => ?_)
            · (try dsimp only); go_keep
            refine takeD 0 (some 113) (.pointer (some ⟨w.heap.size, 1, none⟩)) rfl rfl (by kernel_rfl) (by kernel_rfl) (by kernel_rfl) (fun _ _ _ h => h) (Or.inl ⟨by rfl, ?_⟩) (by assumption) ?_
            · intro w hSw; (try dsimp only at hSw); go_simp <;> (intros; omega)
            simp only [Act.put, List.setIfInBounds_toArray, List.set_cons_zero, List.set_cons_succ]
            refine takeD 1 (some 114) (.int .i64 5) rfl rfl (by kernel_rfl) (by kernel_rfl) (by kernel_rfl) (fun _ _ _ h => h) (Or.inl ⟨by rfl, ?_⟩) (by assumption) ?_
            · intro w hSw; (try dsimp only at hSw); go_simp <;> (intros; omega)
            simp only [Act.put, List.setIfInBounds_toArray, List.set_cons_zero, List.set_cons_succ]
            refine takeD 2 (some 115) (.bool true) rfl rfl (by kernel_rfl) (by kernel_rfl) (by kernel_rfl) (fun _ _ _ h => h) (Or.inl ⟨by rfl, ?_⟩) (by assumption) ?_
            · intro w hSw; (try dsimp only at hSw); go_simp <;> (intros; omega)
            simp only [Act.put, List.setIfInBounds_toArray, List.set_cons_zero, List.set_cons_succ]
            refine takeD 3 (some 116) (.bool true) rfl rfl (by kernel_rfl) (by kernel_rfl) (by kernel_rfl) (fun _ _ _ h => h) (Or.inl ⟨by rfl, ?_⟩) (by assumption) ?_
            · intro w hSw; (try dsimp only at hSw); go_simp <;> (intros; omega)
            simp only [Act.put, List.setIfInBounds_toArray, List.set_cons_zero, List.set_cons_succ]
            refine takeD 4 (some 117) (.int .i64 (j : Int)) rfl rfl (by kernel_rfl) (by kernel_rfl) (by kernel_rfl) (fun _ _ _ h => h) (Or.inl ⟨by rfl, ?_⟩) (by assumption) ?_
            · intro w hSw; (try dsimp only at hSw); go_simp <;> (intros; omega)
            simp only [Act.put, List.setIfInBounds_toArray, List.set_cons_zero, List.set_cons_succ]
            refine takeD 5 (some 118) (.int .i64 (k : Int)) rfl rfl (by kernel_rfl) (by kernel_rfl) (by kernel_rfl) (fun _ _ _ h => h) (Or.inl ⟨by rfl, ?_⟩) (by assumption) ?_
            · intro w hSw; (try dsimp only at hSw); go_simp <;> (intros; omega)
            simp only [Act.put, List.setIfInBounds_toArray, List.set_cons_zero, List.set_cons_succ]
            refine takeD 6 (some 119) (.bool true) rfl rfl (by kernel_rfl) (by kernel_rfl) (by kernel_rfl) (fun _ _ _ h => h) (Or.inl ⟨by rfl, ?_⟩) (by assumption) ?_
            · intro w hSw; (try dsimp only at hSw); go_simp <;> (intros; omega)
            simp only [Act.put, List.setIfInBounds_toArray, List.set_cons_zero, List.set_cons_succ]
            refine takeD 7 (some 120) (.bool true) rfl rfl (by kernel_rfl) (by kernel_rfl) (by kernel_rfl) (fun _ _ _ h => h) (Or.inl ⟨by rfl, ?_⟩) (by assumption) ?_
            · intro w hSw; (try dsimp only at hSw); go_simp <;> (intros; omega)
            simp only [Act.put, List.setIfInBounds_toArray, List.set_cons_zero, List.set_cons_succ]
            refine takeD 8 (some 121) (.bool true) rfl rfl (by kernel_rfl) (by kernel_rfl) (by kernel_rfl) (fun _ _ _ h => h) (Or.inl ⟨by rfl, ?_⟩) (by assumption) ?_
            · intro w hSw; (try dsimp only at hSw); go_simp <;> (intros; omega)
            simp only [Act.put, List.setIfInBounds_toArray, List.set_cons_zero, List.set_cons_succ]
            refine takeD 9 (some 122) (.slice (some ⟨g, off, none⟩) L.length cap) rfl rfl (by kernel_rfl) (by kernel_rfl) (by kernel_rfl) (fun _ _ _ h => h) (Or.inl ⟨by rfl, ?_⟩) (by assumption) ?_
            · intro w hSw; (try dsimp only at hSw); go_simp <;> (intros; omega)
            simp only [Act.put, List.setIfInBounds_toArray, List.set_cons_zero, List.set_cons_succ]
            refine takeD 10 (some 123) (.int .i64 (j : Int)) rfl rfl (by kernel_rfl) (by kernel_rfl) (by kernel_rfl) (fun _ _ _ h => h) (Or.inl ⟨by rfl, ?_⟩) (by assumption) ?_
            · intro w hSw; (try dsimp only at hSw); go_simp <;> (intros; omega)
            simp only [Act.put, List.setIfInBounds_toArray, List.set_cons_zero, List.set_cons_succ]
            refine takeD 11 (some 124) (.pointer (some ⟨g, off + j * 5, none⟩)) rfl rfl (by kernel_rfl) (by kernel_rfl) (by kernel_rfl) (fun _ _ _ h => h) (Or.inl ⟨by rfl, ?_⟩) (by assumption) ?_
            · intro w hSw; (try dsimp only at hSw); go_simp <;> (intros; omega)
            simp only [Act.put, List.setIfInBounds_toArray, List.set_cons_zero, List.set_cons_succ]
            refine takeD 12 (some 125) (.pointer (some ⟨g, off + j * 5, none⟩)) rfl rfl (by kernel_rfl) (by kernel_rfl) (by kernel_rfl) (fun _ _ _ h => h) (Or.inl ⟨by rfl, ?_⟩) (by assumption) ?_
            · intro w hSw; (try dsimp only at hSw); go_simp <;> (intros; omega)
            simp only [Act.put, List.setIfInBounds_toArray, List.set_cons_zero, List.set_cons_succ]
            refine takeD 13 (some 126) (.string yo) rfl rfl (by kernel_rfl) (by kernel_rfl) (by kernel_rfl) (fun _ _ _ h => h) (Or.inl ⟨by rfl, ?_⟩) (by assumption) ?_
            · intro w hSw; (try dsimp only at hSw); go_simp <;> (intros; omega)
            simp only [Act.put, List.setIfInBounds_toArray, List.set_cons_zero, List.set_cons_succ]
            refine takeD 14 (some 127) (.pointer (some ⟨w.heap.size, 0, none⟩)) rfl rfl (by kernel_rfl) (by kernel_rfl) (by kernel_rfl) (fun _ _ _ h => h) (Or.inl ⟨by rfl, ?_⟩) (by assumption) ?_
            · intro w hSw; (try dsimp only at hSw); go_simp <;> (intros; omega)
            simp only [Act.put, List.setIfInBounds_toArray, List.set_cons_zero, List.set_cons_succ]
            refine takeD 15 (some 128) (.string xo) rfl rfl (by kernel_rfl) (by kernel_rfl) (by kernel_rfl) (fun _ _ _ h => h) (Or.inl ⟨by rfl, ?_⟩) (by assumption) ?_
            · intro w hSw; (try dsimp only at hSw); go_simp <;> (intros; omega)
            simp only [Act.put, List.setIfInBounds_toArray, List.set_cons_zero, List.set_cons_succ]
            refine wpAnyH_ready (rs := [16]) (by kernel_rfl) (by simp) ?_
            refine AllReadyH.cons rfl (fun K hK => ?_) AllReadyH.nil
            go_simp
            go_at_call 113; refine (HE.out _).mono ?_; rintro e w5 ⟨rfl, hB5⟩; have hB := below_any hB hB5 (by first | exact .inl rfl | exact .inr rfl) hB.size; clear hB5
            go_wp2_with fail
            refine hK.out _ _ (HQ.out _ hB) (fun hHeld => ?_)
            clear hK K
            try simp only [Act.put, List.setIfInBounds_toArray, List.set_cons_zero, List.set_cons_succ]
            refine takeD 17 (some 130) (.bool true) rfl rfl (by kernel_rfl) (by kernel_rfl) (by kernel_rfl) (fun _ _ _ h => h) (Or.inl ⟨by rfl, ?_⟩) (by assumption) ?_
            · intro w hSw; (try dsimp only at hSw); go_simp <;> (intros; omega)
            simp only [Act.put, List.setIfInBounds_toArray, List.set_cons_zero, List.set_cons_succ]
            refine takeD 18 (some 131) (.bool true) rfl rfl (by kernel_rfl) (by kernel_rfl) (by kernel_rfl) (fun _ _ _ h => h) (Or.inl ⟨by rfl, ?_⟩) (by assumption) ?_
            · intro w hSw; (try dsimp only at hSw); go_simp <;> (intros; omega)
            simp only [Act.put, List.setIfInBounds_toArray, List.set_cons_zero, List.set_cons_succ]
            refine takeD 19 (some 132) (.slice (some ⟨g, off, none⟩) L.length cap) rfl rfl (by kernel_rfl) (by kernel_rfl) (by kernel_rfl) (fun _ _ _ h => h) (Or.inl ⟨by rfl, ?_⟩) (by assumption) ?_
            · intro w hSw; (try dsimp only at hSw); go_simp <;> (intros; omega)
            simp only [Act.put, List.setIfInBounds_toArray, List.set_cons_zero, List.set_cons_succ]
            refine takeD 20 (some 133) (.int .i64 (j : Int)) rfl rfl (by kernel_rfl) (by kernel_rfl) (by kernel_rfl) (fun _ _ _ h => h) (Or.inl ⟨by rfl, ?_⟩) (by assumption) ?_
            · intro w hSw; (try dsimp only at hSw); go_simp <;> (intros; omega)
            simp only [Act.put, List.setIfInBounds_toArray, List.set_cons_zero, List.set_cons_succ]
            refine takeD 21 (some 134) (.pointer (some ⟨g, off + j * 5, none⟩)) rfl rfl (by kernel_rfl) (by kernel_rfl) (by kernel_rfl) (fun _ _ _ h => h) (Or.inl ⟨by rfl, ?_⟩) (by assumption) ?_
            · intro w hSw; (try dsimp only at hSw); go_simp <;> (intros; omega)
            simp only [Act.put, List.setIfInBounds_toArray, List.set_cons_zero, List.set_cons_succ]
            refine takeD 22 (some 135) (.pointer (some ⟨g, off + j * 5 + 1, none⟩)) rfl rfl (by kernel_rfl) (by kernel_rfl) (by kernel_rfl) (fun _ _ _ h => h) (Or.inl ⟨by rfl, ?_⟩) (by assumption) ?_
            · intro w hSw; (try dsimp only at hSw); go_simp <;> (intros; omega)
            simp only [Act.put, List.setIfInBounds_toArray, List.set_cons_zero, List.set_cons_succ]
            refine takeD 23 (some 136) (.int .i64 yt) rfl rfl (by kernel_rfl) (by kernel_rfl) (by kernel_rfl) (fun _ _ _ h => h) (Or.inl ⟨by rfl, ?_⟩) (by assumption) ?_
            · intro w hSw; (try dsimp only at hSw); go_simp <;> (intros; omega)
            simp only [Act.put, List.setIfInBounds_toArray, List.set_cons_zero, List.set_cons_succ]
            refine takeD 24 (some 137) (.bool false) rfl rfl (by kernel_rfl) (by kernel_rfl) (by kernel_rfl) (fun _ _ _ h => h) (Or.inl ⟨by rfl, ?_⟩) (by assumption) ?_
            · intro w hSw; (try dsimp only at hSw); go_simp <;> (intros; omega)
            simp only [Act.put, List.setIfInBounds_toArray, List.set_cons_zero, List.set_cons_succ]
            refine takeD 25 (some 138) (.bool false) rfl rfl (by kernel_rfl) (by kernel_rfl) (by kernel_rfl) (fun _ _ _ h => h) (Or.inl ⟨by rfl, ?_⟩) (by assumption) ?_
            · intro w hSw; (try dsimp only at hSw); go_simp <;> (intros; omega)
            simp only [Act.put, List.setIfInBounds_toArray, List.set_cons_zero, List.set_cons_succ]
            refine takeD 26 (some 139) (.bool false) rfl rfl (by kernel_rfl) (by kernel_rfl) (by kernel_rfl) (fun _ _ _ h => h) (Or.inl ⟨by rfl, ?_⟩) (by assumption) ?_
            · intro w hSw; (try dsimp only at hSw); go_simp <;> (intros; omega)
            simp only [Act.put, List.setIfInBounds_toArray, List.set_cons_zero, List.set_cons_succ]
            refine takeD 27 (some 140) undef rfl rfl (by kernel_rfl) (by kernel_rfl) (by kernel_rfl) (fun _ _ _ h => h) (Or.inr ⟨by rfl, rfl⟩) (by assumption) ?_
            simp only [Act.put, List.setIfInBounds_toArray, List.set_cons_zero, List.set_cons_succ]
            refine takeD 28 (some 141) undef rfl rfl (by kernel_rfl) (by kernel_rfl) (by kernel_rfl) (fun _ _ _ h => h) (Or.inr ⟨by rfl, rfl⟩) (by assumption) ?_
            simp only [Act.put, List.setIfInBounds_toArray, List.set_cons_zero, List.set_cons_succ]
            refine takeD 29 (some 142) undef rfl rfl (by kernel_rfl) (by kernel_rfl) (by kernel_rfl) (fun _ _ _ h => h) (Or.inr ⟨by rfl, rfl⟩) (by assumption) ?_
            simp only [Act.put, List.setIfInBounds_toArray, List.set_cons_zero, List.set_cons_succ]
            refine takeD 30 (some 143) undef rfl rfl (by kernel_rfl) (by kernel_rfl) (by kernel_rfl) (fun _ _ _ h => h) (Or.inr ⟨by rfl, rfl⟩) (by assumption) ?_
            simp only [Act.put, List.setIfInBounds_toArray, List.set_cons_zero, List.set_cons_succ]
            refine takeD 31 (some 144) undef rfl rfl (by kernel_rfl) (by kernel_rfl) (by kernel_rfl) (fun _ _ _ h => h) (Or.inr ⟨by rfl, rfl⟩) (by assumption) ?_
            simp only [Act.put, List.setIfInBounds_toArray, List.set_cons_zero, List.set_cons_succ]
            refine takeD 32 (some 145) undef rfl rfl (by kernel_rfl) (by kernel_rfl) (by kernel_rfl) (fun _ _ _ h => h) (Or.inr ⟨by rfl, rfl⟩) (by assumption) ?_
            simp only [Act.put, List.setIfInBounds_toArray, List.set_cons_zero, List.set_cons_succ]
            refine takeD 33 (some 146) (.bool false) rfl rfl (by kernel_rfl) (by kernel_rfl) (by kernel_rfl) (fun _ _ _ h => h) (Or.inl ⟨by rfl, ?_⟩) (by assumption) ?_
            · intro w hSw; (try dsimp only at hSw); go_simp <;> (intros; omega)
            simp only [Act.put, List.setIfInBounds_toArray, List.set_cons_zero, List.set_cons_succ]
            refine wpAnyH_done (by kernel_rfl) ?_ _
            go_wp2_with fail
            exact ⟨⟨j + 1, by go_num, by omega, HUU, HBn.out _ hB⟩, by simp [intOf]; omega⟩
          · have e1b : (yt != 46) = true := by simp [e1]
            by_cases e2 : yt = 47
            · have HUU := hide' (HU.out (by simp [e2]))
              have e2b : (yt != 47) = false := by simp [e2]
              clear e1 e2
              go_wp2_with fail
              refine wp_region_held_drew (S := (fun V => (V.cell? ⟨g, off + j * 5, none⟩ = some (.string yo) ∧ V.cell? ⟨g, off + j * 5 + 1, none⟩ = some (.int .i64 yt) ∧ V.cell? ⟨g, off + j * 5 + 2, none⟩ = some (.int .i64 yc) ∧ V.cell? ⟨g, off + j * 5 + 3, none⟩ = some (.int .i64 yl) ∧ V.cell? ⟨g, off + j * 5 + 4, none⟩ = some (.string yd)) ∧ V.cell? ⟨w.heap.size, 0, none⟩ = some (.string xo) ∧ V.cell? ⟨w.heap.size, 1, none⟩ = some (.int .i64 5) ∧ V.cell? ⟨w.heap.size, 2, none⟩ = some (.int .i64 xc) ∧ V.cell? ⟨w.heap.size, 3, none⟩ = some (.int .i64 xl) ∧ V.cell? ⟨w.heap.size, 4, none⟩ = some (.string xd))) (by kernel_rfl) ?_ (fun hHeld => ?_)
              · (try dsimp only); go_keep
              refine takeD 0 (some 113) (.pointer (some ⟨w.heap.size, 1, none⟩)) rfl rfl (by kernel_rfl) (by kernel_rfl) (by kernel_rfl) (fun _ _ _ h => h) (Or.inl ⟨by rfl, ?_⟩) (by assumption) ?_
              · intro w hSw; (try dsimp only at hSw); go_simp <;> (intros; omega)
              simp only [Act.put, List.setIfInBounds_toArray, List.set_cons_zero, List.set_cons_succ]
              refine takeD 1 (some 114) (.int .i64 5) rfl rfl (by kernel_rfl) (by kernel_rfl) (by kernel_rfl) (fun _ _ _ h => h) (Or.inl ⟨by rfl, ?_⟩) (by assumption) ?_
              · intro w hSw; (try dsimp only at hSw); go_simp <;> (intros; omega)
              simp only [Act.put, List.setIfInBounds_toArray, List.set_cons_zero, List.set_cons_succ]
              refine takeD 2 (some 115) (.bool true) rfl rfl (by kernel_rfl) (by kernel_rfl) (by kernel_rfl) (fun _ _ _ h => h) (Or.inl ⟨by rfl, ?_⟩) (by assumption) ?_
              · intro w hSw; (try dsimp only at hSw); go_simp <;> (intros; omega)
              simp only [Act.put, List.setIfInBounds_toArray, List.set_cons_zero, List.set_cons_succ]
              refine takeD 3 (some 116) (.bool true) rfl rfl (by kernel_rfl) (by kernel_rfl) (by kernel_rfl) (fun _ _ _ h => h) (Or.inl ⟨by rfl, ?_⟩) (by assumption) ?_
              · intro w hSw; (try dsimp only at hSw); go_simp <;> (intros; omega)
              simp only [Act.put, List.setIfInBounds_toArray, List.set_cons_zero, List.set_cons_succ]
              refine takeD 4 (some 117) (.int .i64 (j : Int)) rfl rfl (by kernel_rfl) (by kernel_rfl) (by kernel_rfl) (fun _ _ _ h => h) (Or.inl ⟨by rfl, ?_⟩) (by assumption) ?_
              · intro w hSw; (try dsimp only at hSw); go_simp <;> (intros; omega)
              simp only [Act.put, List.setIfInBounds_toArray, List.set_cons_zero, List.set_cons_succ]
              refine takeD 5 (some 118) (.int .i64 (k : Int)) rfl rfl (by kernel_rfl) (by kernel_rfl) (by kernel_rfl) (fun _ _ _ h => h) (Or.inl ⟨by rfl, ?_⟩) (by assumption) ?_
              · intro w hSw; (try dsimp only at hSw); go_simp <;> (intros; omega)
              simp only [Act.put, List.setIfInBounds_toArray, List.set_cons_zero, List.set_cons_succ]
              refine takeD 6 (some 119) (.bool true) rfl rfl (by kernel_rfl) (by kernel_rfl) (by kernel_rfl) (fun _ _ _ h => h) (Or.inl ⟨by rfl, ?_⟩) (by assumption) ?_
              · intro w hSw; (try dsimp only at hSw); go_simp <;> (intros; omega)
              simp only [Act.put, List.setIfInBounds_toArray, List.set_cons_zero, List.set_cons_succ]
              refine takeD 7 (some 120) (.bool true) rfl rfl (by kernel_rfl) (by kernel_rfl) (by kernel_rfl) (fun _ _ _ h => h) (Or.inl ⟨by rfl, ?_⟩) (by assumption) ?_
              · intro w hSw; (try dsimp only at hSw); go_simp <;> (intros; omega)
              simp only [Act.put, List.setIfInBounds_toArray, List.set_cons_zero, List.set_cons_succ]
              refine takeD 8 (some 121) (.bool true) rfl rfl (by kernel_rfl) (by kernel_rfl) (by kernel_rfl) (fun _ _ _ h => h) (Or.inl ⟨by rfl, ?_⟩) (by assumption) ?_
              · intro w hSw; (try dsimp only at hSw); go_simp <;> (intros; omega)
              simp only [Act.put, List.setIfInBounds_toArray, List.set_cons_zero, List.set_cons_succ]
              refine takeD 9 (some 122) (.slice (some ⟨g, off, none⟩) L.length cap) rfl rfl (by kernel_rfl) (by kernel_rfl) (by kernel_rfl) (fun _ _ _ h => h) (Or.inl ⟨by rfl, ?_⟩) (by assumption) ?_
              · intro w hSw; (try dsimp only at hSw); go_simp <;> (intros; omega)
              simp only [Act.put, List.setIfInBounds_toArray, List.set_cons_zero, List.set_cons_succ]
              refine takeD 10 (some 123) (.int .i64 (j : Int)) rfl rfl (by kernel_rfl) (by kernel_rfl) (by kernel_rfl) (fun _ _ _ h => h) (Or.inl ⟨by rfl, ?_⟩) (by assumption) ?_
              · intro w hSw; (try dsimp only at hSw); go_simp <;> (intros; omega)
              simp only [Act.put, List.setIfInBounds_toArray, List.set_cons_zero, List.set_cons_succ]
              refine takeD 11 (some 124) (.pointer (some ⟨g, off + j * 5, none⟩)) rfl rfl (by kernel_rfl) (by kernel_rfl) (by kernel_rfl) (fun _ _ _ h => h) (Or.inl ⟨by rfl, ?_⟩) (by assumption) ?_
              · intro w hSw; (try dsimp only at hSw); go_simp <;> (intros; omega)
              simp only [Act.put, List.setIfInBounds_toArray, List.set_cons_zero, List.set_cons_succ]
              refine takeD 12 (some 125) (.pointer (some ⟨g, off + j * 5, none⟩)) rfl rfl (by kernel_rfl) (by kernel_rfl) (by kernel_rfl) (fun _ _ _ h => h) (Or.inl ⟨by rfl, ?_⟩) (by assumption) ?_
              · intro w hSw; (try dsimp only at hSw); go_simp <;> (intros; omega)
              simp only [Act.put, List.setIfInBounds_toArray, List.set_cons_zero, List.set_cons_succ]
              refine takeD 13 (some 126) (.string yo) rfl rfl (by kernel_rfl) (by kernel_rfl) (by kernel_rfl) (fun _ _ _ h => h) (Or.inl ⟨by rfl, ?_⟩) (by assumption) ?_
              · intro w hSw; (try dsimp only at hSw); go_simp <;> (intros; omega)
              simp only [Act.put, List.setIfInBounds_toArray, List.set_cons_zero, List.set_cons_succ]
              refine takeD 14 (some 127) (.pointer (some ⟨w.heap.size, 0, none⟩)) rfl rfl (by kernel_rfl) (by kernel_rfl) (by kernel_rfl) (fun _ _ _ h => h) (Or.inl ⟨by rfl, ?_⟩) (by assumption) ?_
              · intro w hSw; (try dsimp only at hSw); go_simp <;> (intros; omega)
              simp only [Act.put, List.setIfInBounds_toArray, List.set_cons_zero, List.set_cons_succ]
              refine takeD 15 (some 128) (.string xo) rfl rfl (by kernel_rfl) (by kernel_rfl) (by kernel_rfl) (fun _ _ _ h => h) (Or.inl ⟨by rfl, ?_⟩) (by assumption) ?_
              · intro w hSw; (try dsimp only at hSw); go_simp <;> (intros; omega)
              simp only [Act.put, List.setIfInBounds_toArray, List.set_cons_zero, List.set_cons_succ]
              refine wpAnyH_ready (rs := [16]) (by kernel_rfl) (by simp) ?_
              refine AllReadyH.cons rfl (fun K hK => ?_) AllReadyH.nil
              go_simp
              go_at_call 113; refine (HE.out _).mono ?_; rintro e w5 ⟨rfl, hB5⟩; have hB := below_any hB hB5 (by first | exact .inl rfl | exact .inr rfl) hB.size; clear hB5
              go_wp2_with fail
              refine hK.out _ _ (HQ.out _ hB) (fun hHeld => ?_)
              clear hK K
              try simp only [Act.put, List.setIfInBounds_toArray, List.set_cons_zero, List.set_cons_succ]
              refine takeD 17 (some 130) (.bool true) rfl rfl (by kernel_rfl) (by kernel_rfl) (by kernel_rfl) (fun _ _ _ h => h) (Or.inl ⟨by rfl, ?_⟩) (by assumption) ?_
              · intro w hSw; (try dsimp only at hSw); go_simp <;> (intros; omega)
              simp only [Act.put, List.setIfInBounds_toArray, List.set_cons_zero, List.set_cons_succ]
              refine takeD 18 (some 131) (.bool true) rfl rfl (by kernel_rfl) (by kernel_rfl) (by kernel_rfl) (fun _ _ _ h => h) (Or.inl ⟨by rfl, ?_⟩) (by assumption) ?_
              · intro w hSw; (try dsimp only at hSw); go_simp <;> (intros; omega)
              simp only [Act.put, List.setIfInBounds_toArray, List.set_cons_zero, List.set_cons_succ]
              refine takeD 19 (some 132) (.slice (some ⟨g, off, none⟩) L.length cap) rfl rfl (by kernel_rfl) (by kernel_rfl) (by kernel_rfl) (fun _ _ _ h => h) (Or.inl ⟨by rfl, ?_⟩) (by assumption) ?_
              · intro w hSw; (try dsimp only at hSw); go_simp <;> (intros; omega)
              simp only [Act.put, List.setIfInBounds_toArray, List.set_cons_zero, List.set_cons_succ]
              refine takeD 20 (some 133) (.int .i64 (j : Int)) rfl rfl (by kernel_rfl) (by kernel_rfl) (by kernel_rfl) (fun _ _ _ h => h) (Or.inl ⟨by rfl, ?_⟩) (by assumption) ?_
              · intro w hSw; (try dsimp only at hSw); go_simp <;> (intros; omega)
              simp only [Act.put, List.setIfInBounds_toArray, List.set_cons_zero, List.set_cons_succ]
              refine takeD 21 (some 134) (.pointer (some ⟨g, off + j * 5, none⟩)) rfl rfl (by kernel_rfl) (by kernel_rfl) (by kernel_rfl) (fun _ _ _ h => h) (Or.inl ⟨by rfl, ?_⟩) (by assumption) ?_
              · intro w hSw; (try dsimp only at hSw); go_simp <;> (intros; omega)
              simp only [Act.put, List.setIfInBounds_toArray, List.set_cons_zero, List.set_cons_succ]
              refine takeD 22 (some 135) (.pointer (some ⟨g, off + j * 5 + 1, none⟩)) rfl rfl (by kernel_rfl) (by kernel_rfl) (by kernel_rfl) (fun _ _ _ h => h) (Or.inl ⟨by rfl, ?_⟩) (by assumption) ?_
              · intro w hSw; (try dsimp only at hSw); go_simp <;> (intros; omega)
              simp only [Act.put, List.setIfInBounds_toArray, List.set_cons_zero, List.set_cons_succ]
              refine takeD 23 (some 136) (.int .i64 yt) rfl rfl (by kernel_rfl) (by kernel_rfl) (by kernel_rfl) (fun _ _ _ h => h) (Or.inl ⟨by rfl, ?_⟩) (by assumption) ?_
              · intro w hSw; (try dsimp only at hSw); go_simp <;> (intros; omega)
              simp only [Act.put, List.setIfInBounds_toArray, List.set_cons_zero, List.set_cons_succ]
              refine takeD 24 (some 137) (.bool true) rfl rfl (by kernel_rfl) (by kernel_rfl) (by kernel_rfl) (fun _ _ _ h => h) (Or.inl ⟨by rfl, ?_⟩) (by assumption) ?_
              · intro w hSw; (try dsimp only at hSw); go_simp <;> (intros; omega)
              simp only [Act.put, List.setIfInBounds_toArray, List.set_cons_zero, List.set_cons_succ]
              refine takeD 25 (some 138) (.bool true) rfl rfl (by kernel_rfl) (by kernel_rfl) (by kernel_rfl) (fun _ _ _ h => h) (Or.inl ⟨by rfl, ?_⟩) (by assumption) ?_
              · intro w hSw; (try dsimp only at hSw); go_simp <;> (intros; omega)
              simp only [Act.put, List.setIfInBounds_toArray, List.set_cons_zero, List.set_cons_succ]
              refine takeD 26 (some 139) (.bool true) rfl rfl (by kernel_rfl) (by kernel_rfl) (by kernel_rfl) (fun _ _ _ h => h) (Or.inl ⟨by rfl, ?_⟩) (by assumption) ?_
              · intro w hSw; (try dsimp only at hSw); go_simp <;> (intros; omega)
              simp only [Act.put, List.setIfInBounds_toArray, List.set_cons_zero, List.set_cons_succ]
              refine takeD 27 (some 140) (.slice (some ⟨g, off, none⟩) L.length cap) rfl rfl (by kernel_rfl) (by kernel_rfl) (by kernel_rfl) (fun _ _ _ h => h) (Or.inl ⟨by rfl, ?_⟩) (by assumption) ?_
              · intro w hSw; (try dsimp only at hSw); go_simp <;> (intros; omega)
              simp only [Act.put, List.setIfInBounds_toArray, List.set_cons_zero, List.set_cons_succ]
              refine takeD 28 (some 141) (.int .i64 (j : Int)) rfl rfl (by kernel_rfl) (by kernel_rfl) (by kernel_rfl) (fun _ _ _ h => h) (Or.inl ⟨by rfl, ?_⟩) (by assumption) ?_
              · intro w hSw; (try dsimp only at hSw); go_simp <;> (intros; omega)
              simp only [Act.put, List.setIfInBounds_toArray, List.set_cons_zero, List.set_cons_succ]
              refine takeD 29 (some 142) (.pointer (some ⟨g, off + j * 5, none⟩)) rfl rfl (by kernel_rfl) (by kernel_rfl) (by kernel_rfl) (fun _ _ _ h => h) (Or.inl ⟨by rfl, ?_⟩) (by assumption) ?_
              · intro w hSw; (try dsimp only at hSw); go_simp <;> (intros; omega)
              simp only [Act.put, List.setIfInBounds_toArray, List.set_cons_zero, List.set_cons_succ]
              refine takeD 30 (some 143) (.pointer (some ⟨g, off + j * 5 + 1, none⟩)) rfl rfl (by kernel_rfl) (by kernel_rfl) (by kernel_rfl) (fun _ _ _ h => h) (Or.inl ⟨by rfl, ?_⟩) (by assumption) ?_
              · intro w hSw; (try dsimp only at hSw); go_simp <;> (intros; omega)
              simp only [Act.put, List.setIfInBounds_toArray, List.set_cons_zero, List.set_cons_succ]
              refine takeD 31 (some 144) (.int .i64 yt) rfl rfl (by kernel_rfl) (by kernel_rfl) (by kernel_rfl) (fun _ _ _ h => h) (Or.inl ⟨by rfl, ?_⟩) (by assumption) ?_
              · intro w hSw; (try dsimp only at hSw); go_simp <;> (intros; omega)
              simp only [Act.put, List.setIfInBounds_toArray, List.set_cons_zero, List.set_cons_succ]
              refine takeD 32 (some 145) (.bool false) rfl rfl (by kernel_rfl) (by kernel_rfl) (by kernel_rfl) (fun _ _ _ h => h) (Or.inl ⟨by rfl, ?_⟩) (by assumption) ?_
              · intro w hSw; (try dsimp only at hSw); go_simp <;> (intros; omega)
              simp only [Act.put, List.setIfInBounds_toArray, List.set_cons_zero, List.set_cons_succ]
              refine takeD 33 (some 146) (.bool false) rfl rfl (by kernel_rfl) (by kernel_rfl) (by kernel_rfl) (fun _ _ _ h => h) (Or.inl ⟨by rfl, ?_⟩) (by assumption) ?_
              · intro w hSw; (try dsimp only at hSw); go_simp <;> (intros; omega)
              simp only [Act.put, List.setIfInBounds_toArray, List.set_cons_zero, List.set_cons_succ]
              refine wpAnyH_done (by kernel_rfl) ?_ _
              go_wp2_with fail
              exact ⟨⟨j + 1, by go_num, by omega, HUU, HBn.out _ hB⟩, by simp [intOf]; omega⟩
            · have e2b : (yt != 47) = true := by simp [e2]
              have HHH := hide' (HH.out (by simp [hjk, e1, e2]))
              clear e1 e2
              go_wp2_with fail
              refine wp_region_held_drew (S := (fun V => (V.cell? ⟨g, off + j * 5, none⟩ = some (.string yo) ∧ V.cell? ⟨g, off + j * 5 + 1, none⟩ = some (.int .i64 yt) ∧ V.cell? ⟨g, off + j * 5 + 2, none⟩ = some (.int .i64 yc) ∧ V.cell? ⟨g, off + j * 5 + 3, none⟩ = some (.int .i64 yl) ∧ V.cell? ⟨g, off + j * 5 + 4, none⟩ = some (.string yd)) ∧ V.cell? ⟨w.heap.size, 0, none⟩ = some (.string xo) ∧ V.cell? ⟨w.heap.size, 1, none⟩ = some (.int .i64 5) ∧ V.cell? ⟨w.heap.size, 2, none⟩ = some (.int .i64 xc) ∧ V.cell? ⟨w.heap.size, 3, none⟩ = some (.int .i64 xl) ∧ V.cell? ⟨w.heap.size, 4, none⟩ = some (.string xd))) (by kernel_rfl) ?_ (fun hHeld => ?_)
              · (try dsimp only); go_keep
              refine takeD 0 (some 113) (.pointer (some ⟨w.heap.size, 1, none⟩)) rfl rfl (by kernel_rfl) (by kernel_rfl) (by kernel_rfl) (fun _ _ _ h => h) (Or.inl ⟨by rfl, ?_⟩) (by assumption) ?_
              · intro w hSw; (try dsimp only at hSw); go_simp <;> (intros; omega)
              simp only [Act.put, List.setIfInBounds_toArray, List.set_cons_zero, List.set_cons_succ]
              refine takeD 1 (some 114) (.int .i64 5) rfl rfl (by kernel_rfl) (by kernel_rfl) (by kernel_rfl) (fun _ _ _ h => h) (Or.inl ⟨by rfl, ?_⟩) (by assumption) ?_
              · intro w hSw; (try dsimp only at hSw); go_simp <;> (intros; omega)
              simp only [Act.put, List.setIfInBounds_toArray, List.set_cons_zero, List.set_cons_succ]
              refine takeD 2 (some 115) (.bool true) rfl rfl (by kernel_rfl) (by kernel_rfl) (by kernel_rfl) (fun _ _ _ h => h) (Or.inl ⟨by rfl, ?_⟩) (by assumption) ?_
              · intro w hSw; (try dsimp only at hSw); go_simp <;> (intros; omega)
              simp only [Act.put, List.setIfInBounds_toArray, List.set_cons_zero, List.set_cons_succ]
              refine takeD 3 (some 116) (.bool true) rfl rfl (by kernel_rfl) (by kernel_rfl) (by kernel_rfl) (fun _ _ _ h => h) (Or.inl ⟨by rfl, ?_⟩) (by assumption) ?_
              · intro w hSw; (try dsimp only at hSw); go_simp <;> (intros; omega)
              simp only [Act.put, List.setIfInBounds_toArray, List.set_cons_zero, List.set_cons_succ]
              refine takeD 4 (some 117) (.int .i64 (j : Int)) rfl rfl (by kernel_rfl) (by kernel_rfl) (by kernel_rfl) (fun _ _ _ h => h) (Or.inl ⟨by rfl, ?_⟩) (by assumption) ?_
              · intro w hSw; (try dsimp only at hSw); go_simp <;> (intros; omega)
              simp only [Act.put, List.setIfInBounds_toArray, List.set_cons_zero, List.set_cons_succ]
              refine takeD 5 (some 118) (.int .i64 (k : Int)) rfl rfl (by kernel_rfl) (by kernel_rfl) (by kernel_rfl) (fun _ _ _ h => h) (Or.inl ⟨by rfl, ?_⟩) (by assumption) ?_
              · intro w hSw; (try dsimp only at hSw); go_simp <;> (intros; omega)
              simp only [Act.put, List.setIfInBounds_toArray, List.set_cons_zero, List.set_cons_succ]
              refine takeD 6 (some 119) (.bool true) rfl rfl (by kernel_rfl) (by kernel_rfl) (by kernel_rfl) (fun _ _ _ h => h) (Or.inl ⟨by rfl, ?_⟩) (by assumption) ?_
              · intro w hSw; (try dsimp only at hSw); go_simp <;> (intros; omega)
              simp only [Act.put, List.setIfInBounds_toArray, List.set_cons_zero, List.set_cons_succ]
              refine takeD 7 (some 120) (.bool true) rfl rfl (by kernel_rfl) (by kernel_rfl) (by kernel_rfl) (fun _ _ _ h => h) (Or.inl ⟨by rfl, ?_⟩) (by assumption) ?_
              · intro w hSw; (try dsimp only at hSw); go_simp <;> (intros; omega)
              simp only [Act.put, List.setIfInBounds_toArray, List.set_cons_zero, List.set_cons_succ]
              refine takeD 8 (some 121) (.bool true) rfl rfl (by kernel_rfl) (by kernel_rfl) (by kernel_rfl) (fun _ _ _ h => h) (Or.inl ⟨by rfl, ?_⟩) (by assumption) ?_
              · intro w hSw; (try dsimp only at hSw); go_simp <;> (intros; omega)
              simp only [Act.put, List.setIfInBounds_toArray, List.set_cons_zero, List.set_cons_succ]
              refine takeD 9 (some 122) (.slice (some ⟨g, off, none⟩) L.length cap) rfl rfl (by kernel_rfl) (by kernel_rfl) (by kernel_rfl) (fun _ _ _ h => h) (Or.inl ⟨by rfl, ?_⟩) (by assumption) ?_
              · intro w hSw; (try dsimp only at hSw); go_simp <;> (intros; omega)
              simp only [Act.put, List.setIfInBounds_toArray, List.set_cons_zero, List.set_cons_succ]
              refine takeD 10 (some 123) (.int .i64 (j : Int)) rfl rfl (by kernel_rfl) (by kernel_rfl) (by kernel_rfl) (fun _ _ _ h => h) (Or.inl ⟨by rfl, ?_⟩) (by assumption) ?_
              · intro w hSw; (try dsimp only at hSw); go_simp <;> (intros; omega)
              simp only [Act.put, List.setIfInBounds_toArray, List.set_cons_zero, List.set_cons_succ]
              refine takeD 11 (some 124) (.pointer (some ⟨g, off + j * 5, none⟩)) rfl rfl (by kernel_rfl) (by kernel_rfl) (by kernel_rfl) (fun _ _ _ h => h) (Or.inl ⟨by rfl, ?_⟩) (by assumption) ?_
              · intro w hSw; (try dsimp only at hSw); go_simp <;> (intros; omega)
              simp only [Act.put, List.setIfInBounds_toArray, List.set_cons_zero, List.set_cons_succ]
              refine takeD 12 (some 125) (.pointer (some ⟨g, off + j * 5, none⟩)) rfl rfl (by kernel_rfl) (by kernel_rfl) (by kernel_rfl) (fun _ _ _ h => h) (Or.inl ⟨by rfl, ?_⟩) (by assumption) ?_
              · intro w hSw; (try dsimp only at hSw); go_simp <;> (intros; omega)
              simp only [Act.put, List.setIfInBounds_toArray, List.set_cons_zero, List.set_cons_succ]
              refine takeD 13 (some 126) (.string yo) rfl rfl (by kernel_rfl) (by kernel_rfl) (by kernel_rfl) (fun _ _ _ h => h) (Or.inl ⟨by rfl, ?_⟩) (by assumption) ?_
              · intro w hSw; (try dsimp only at hSw); go_simp <;> (intros; omega)
              simp only [Act.put, List.setIfInBounds_toArray, List.set_cons_zero, List.set_cons_succ]
              refine takeD 14 (some 127) (.pointer (some ⟨w.heap.size, 0, none⟩)) rfl rfl (by kernel_rfl) (by kernel_rfl) (by kernel_rfl) (fun _ _ _ h => h) (Or.inl ⟨by rfl, ?_⟩) (by assumption) ?_
              · intro w hSw; (try dsimp only at hSw); go_simp <;> (intros; omega)
              simp only [Act.put, List.setIfInBounds_toArray, List.set_cons_zero, List.set_cons_succ]
              refine takeD 15 (some 128) (.string xo) rfl rfl (by kernel_rfl) (by kernel_rfl) (by kernel_rfl) (fun _ _ _ h => h) (Or.inl ⟨by rfl, ?_⟩) (by assumption) ?_
              · intro w hSw; (try dsimp only at hSw); go_simp <;> (intros; omega)
              simp only [Act.put, List.setIfInBounds_toArray, List.set_cons_zero, List.set_cons_succ]
              refine wpAnyH_ready (rs := [16]) (by kernel_rfl) (by simp) ?_
              refine AllReadyH.cons rfl (fun K hK => ?_) AllReadyH.nil
              go_simp
              go_at_call 113; refine (HE.out _).mono ?_; rintro e w5 ⟨rfl, hB5⟩; have hB := below_any hB hB5 (by first | exact .inl rfl | exact .inr rfl) hB.size; clear hB5
              go_wp2_with fail
              refine hK.out _ _ (HQ.out _ hB) (fun hHeld => ?_)
              clear hK K
              try simp only [Act.put, List.setIfInBounds_toArray, List.set_cons_zero, List.set_cons_succ]
              refine takeD 17 (some 130) (.bool true) rfl rfl (by kernel_rfl) (by kernel_rfl) (by kernel_rfl) (fun _ _ _ h => h) (Or.inl ⟨by rfl, ?_⟩) (by assumption) ?_
              · intro w hSw; (try dsimp only at hSw); go_simp <;> (intros; omega)
              simp only [Act.put, List.setIfInBounds_toArray, List.set_cons_zero, List.set_cons_succ]
              refine takeD 18 (some 131) (.bool true) rfl rfl (by kernel_rfl) (by kernel_rfl) (by kernel_rfl) (fun _ _ _ h => h) (Or.inl ⟨by rfl, ?_⟩) (by assumption) ?_
              · intro w hSw; (try dsimp only at hSw); go_simp <;> (intros; omega)
              simp only [Act.put, List.setIfInBounds_toArray, List.set_cons_zero, List.set_cons_succ]
              refine takeD 19 (some 132) (.slice (some ⟨g, off, none⟩) L.length cap) rfl rfl (by kernel_rfl) (by kernel_rfl) (by kernel_rfl) (fun _ _ _ h => h) (Or.inl ⟨by rfl, ?_⟩) (by assumption) ?_
              · intro w hSw; (try dsimp only at hSw); go_simp <;> (intros; omega)
              simp only [Act.put, List.setIfInBounds_toArray, List.set_cons_zero, List.set_cons_succ]
              refine takeD 20 (some 133) (.int .i64 (j : Int)) rfl rfl (by kernel_rfl) (by kernel_rfl) (by kernel_rfl) (fun _ _ _ h => h) (Or.inl ⟨by rfl, ?_⟩) (by assumption) ?_
              · intro w hSw; (try dsimp only at hSw); go_simp <;> (intros; omega)
              simp only [Act.put, List.setIfInBounds_toArray, List.set_cons_zero, List.set_cons_succ]
              refine takeD 21 (some 134) (.pointer (some ⟨g, off + j * 5, none⟩)) rfl rfl (by kernel_rfl) (by kernel_rfl) (by kernel_rfl) (fun _ _ _ h => h) (Or.inl ⟨by rfl, ?_⟩) (by assumption) ?_
              · intro w hSw; (try dsimp only at hSw); go_simp <;> (intros; omega)
              simp only [Act.put, List.setIfInBounds_toArray, List.set_cons_zero, List.set_cons_succ]
              refine takeD 22 (some 135) (.pointer (some ⟨g, off + j * 5 + 1, none⟩)) rfl rfl (by kernel_rfl) (by kernel_rfl) (by kernel_rfl) (fun _ _ _ h => h) (Or.inl ⟨by rfl, ?_⟩) (by assumption) ?_
              · intro w hSw; (try dsimp only at hSw); go_simp <;> (intros; omega)
              simp only [Act.put, List.setIfInBounds_toArray, List.set_cons_zero, List.set_cons_succ]
              refine takeD 23 (some 136) (.int .i64 yt) rfl rfl (by kernel_rfl) (by kernel_rfl) (by kernel_rfl) (fun _ _ _ h => h) (Or.inl ⟨by rfl, ?_⟩) (by assumption) ?_
              · intro w hSw; (try dsimp only at hSw); go_simp <;> (intros; omega)
              simp only [Act.put, List.setIfInBounds_toArray, List.set_cons_zero, List.set_cons_succ]
              refine takeD 24 (some 137) (.bool true) rfl rfl (by kernel_rfl) (by kernel_rfl) (by kernel_rfl) (fun _ _ _ h => h) (Or.inl ⟨by rfl, ?_⟩) (by assumption) ?_
              · intro w hSw; (try dsimp only at hSw); go_simp <;> (intros; omega)
              simp only [Act.put, List.setIfInBounds_toArray, List.set_cons_zero, List.set_cons_succ]
              refine takeD 25 (some 138) (.bool true) rfl rfl (by kernel_rfl) (by kernel_rfl) (by kernel_rfl) (fun _ _ _ h => h) (Or.inl ⟨by rfl, ?_⟩) (by assumption) ?_
              · intro w hSw; (try dsimp only at hSw); go_simp <;> (intros; omega)
              simp only [Act.put, List.setIfInBounds_toArray, List.set_cons_zero, List.set_cons_succ]
              refine takeD 26 (some 139) (.bool true) rfl rfl (by kernel_rfl) (by kernel_rfl) (by kernel_rfl) (fun _ _ _ h => h) (Or.inl ⟨by rfl, ?_⟩) (by assumption) ?_
              · intro w hSw; (try dsimp only at hSw); go_simp <;> (intros; omega)
              simp only [Act.put, List.setIfInBounds_toArray, List.set_cons_zero, List.set_cons_succ]
              refine takeD 27 (some 140) (.slice (some ⟨g, off, none⟩) L.length cap) rfl rfl (by kernel_rfl) (by kernel_rfl) (by kernel_rfl) (fun _ _ _ h => h) (Or.inl ⟨by rfl, ?_⟩) (by assumption) ?_
              · intro w hSw; (try dsimp only at hSw); go_simp <;> (intros; omega)
              simp only [Act.put, List.setIfInBounds_toArray, List.set_cons_zero, List.set_cons_succ]
              refine takeD 28 (some 141) (.int .i64 (j : Int)) rfl rfl (by kernel_rfl) (by kernel_rfl) (by kernel_rfl) (fun _ _ _ h => h) (Or.inl ⟨by rfl, ?_⟩) (by assumption) ?_
              · intro w hSw; (try dsimp only at hSw); go_simp <;> (intros; omega)
              simp only [Act.put, List.setIfInBounds_toArray, List.set_cons_zero, List.set_cons_succ]
              refine takeD 29 (some 142) (.pointer (some ⟨g, off + j * 5, none⟩)) rfl rfl (by kernel_rfl) (by kernel_rfl) (by kernel_rfl) (fun _ _ _ h => h) (Or.inl ⟨by rfl, ?_⟩) (by assumption) ?_
              · intro w hSw; (try dsimp only at hSw); go_simp <;> (intros; omega)
              simp only [Act.put, List.setIfInBounds_toArray, List.set_cons_zero, List.set_cons_succ]
              refine takeD 30 (some 143) (.pointer (some ⟨g, off + j * 5 + 1, none⟩)) rfl rfl (by kernel_rfl) (by kernel_rfl) (by kernel_rfl) (fun _ _ _ h => h) (Or.inl ⟨by rfl, ?_⟩) (by assumption) ?_
              · intro w hSw; (try dsimp only at hSw); go_simp <;> (intros; omega)
              simp only [Act.put, List.setIfInBounds_toArray, List.set_cons_zero, List.set_cons_succ]
              refine takeD 31 (some 144) (.int .i64 yt) rfl rfl (by kernel_rfl) (by kernel_rfl) (by kernel_rfl) (fun _ _ _ h => h) (Or.inl ⟨by rfl, ?_⟩) (by assumption) ?_
              · intro w hSw; (try dsimp only at hSw); go_simp <;> (intros; omega)
              simp only [Act.put, List.setIfInBounds_toArray, List.set_cons_zero, List.set_cons_succ]
              refine takeD 32 (some 145) (.bool true) rfl rfl (by kernel_rfl) (by kernel_rfl) (by kernel_rfl) (fun _ _ _ h => h) (Or.inl ⟨by rfl, ?_⟩) (by assumption) ?_
              · intro w hSw; (try dsimp only at hSw); go_simp <;> (intros; omega)
              simp only [Act.put, List.setIfInBounds_toArray, List.set_cons_zero, List.set_cons_succ]
              refine takeD 33 (some 146) (.bool true) rfl rfl (by kernel_rfl) (by kernel_rfl) (by kernel_rfl) (fun _ _ _ h => h) (Or.inl ⟨by rfl, ?_⟩) (by assumption) ?_
              · intro w hSw; (try dsimp only at hSw); go_simp <;> (intros; omega)
              simp only [Act.put, List.setIfInBounds_toArray, List.set_cons_zero, List.set_cons_succ]
              refine wpAnyH_done (by kernel_rfl) ?_ _
              go_wp2_with fail
              go_ret
              exact ⟨by rw [show ((List.range L.length).any fun j => !decide (j = k) && (eqB (rAt L j).o xo && othB (rAt L j))) = true from HHH.out]; rfl, HFi.out _ hB⟩
    · obtain rfl : j = L.length := by omega
      have HZ := hide' (any_not HN.out)
      go_wp2_with fail
      go_ret
      exact ⟨by rw [HZ.out]; rfl, HBl.out⟩
end Go.Proofs.YtoabnpdoicbpiaaGreat

/-
  gazetteerref3.breaks, rule 9. (The verifier's own text.)
-/
namespace Go.Proofs.YtoabnpdoicbpiaaGreat
set_option linter.unusedVariables false
set_option linter.unusedSimpArgs false
open Go.RowKit Go.Shelf Go.Maps Go.Proofs.YtoabnpdoicbpiaaGreat.Nm

set_option maxRecDepth 100000 in
set_option maxHeartbeats 4000000 in
/-- gazetteerref3.breaks, rule 9 -/
theorem brk9_any (apex : ByteArray) (L : List Rn) (p : Option Addr) (cap k : Nat) (w : World) (hL : L.length ≤ 1048576) (hat : RsAt w p L) (hs : ∀ j, j < L.length → rSm (rAt L j)) (hap : apex.size ≤ 1048576) (hk : k < L.length) :
    Calls Tryz.prog 81 #[.int .i64 9, .string apex, .slice p L.length cap, .int .i64 (k : Int)] w fun r w' => r = .returned (.bool (brk9 apex L k (rAt L k))) ∧ Below w.heap.size w w' := by
  obtain ⟨g, off, hp⟩ := rs_at hat hk
  subst hp
  have HAT := hide' hat
  have HSm := hide' hs
  have HXX : Hid (rSm (rAt L k)) := hs k hk
  obtain ⟨q0, q1, q2, q3, q4⟩ := rs_cells hat rfl hk (Below.refl _ w)
  have K0 := hide' (Bk.start w (rAt L k))
  obtain ⟨x, hx⟩ : ∃ x, rAt L k = x := ⟨_, rfl⟩
  rw [hx] at q0 q1 q2 q3 q4 HXX K0
  try rw [hx]
  have HX := hide' hx
  clear hx hat hs
  have HJ : Hid (∀ j, j < L.length → ∀ V, Below w.heap.size w V → V.cell? ⟨g, off + j * 5, none⟩ = some (.string (rAt L j).o) ∧ V.cell? ⟨g, off + j * 5 + 1, none⟩ = some (.int .i64 (rAt L j).t) ∧ V.cell? ⟨g, off + j * 5 + 2, none⟩ = some (.int .i64 (rAt L j).c) ∧ V.cell? ⟨g, off + j * 5 + 3, none⟩ = some (.int .i64 (rAt L j).l) ∧ V.cell? ⟨g, off + j * 5 + 4, none⟩ = some (.string (rAt L j).d)) := fun j hj V hV => rs_cells HAT.out rfl hj hV
  have pk1 : (0 : Int) ≤ (k : Int) := by omega
  have pk2 : (k : Int) < (L.length : Int) := by omega
  obtain ⟨wa, hwa⟩ : ∃ wa, w.alloc (.cells #[.string x.o, .int .i64 x.t, .int .i64 x.c, .int .i64 x.l, .string x.d] 29) = wa := ⟨_, rfl⟩
  rw [hwa] at K0
  have HK : Hid (∀ V, Below wa.heap.size wa V → Bk w V x) := fun V hV => K0.out.step hV
  obtain ⟨v0, v1, v2, v3, v4⟩ := K0.out.cells
  obtain ⟨xo, xt, xc, xl, xd⟩ := x
  simp only at q0 q1 q2 q3 q4 v0 v1 v2 v3 v4 hwa
  show Calls _ _ _ _ fun r w' => r = .returned (.bool (decide (xt = 39) && (((List.range L.length).any (fun j => (!decide (j = k) && (eqB (rAt L j).o xo && decide ((rAt L j).t = 39))) || (!eqB (rAt L j).o xo && withinB (rAt L j).o xo))) || eqB xo apex))) ∧ _
  have HEA := hide' (fun V => equalName_any xo apex V HXX.out.1 hap)
  by_cases h6 : ¬ xt = 39
  · have h6b : (xt != 39) = true := by simp [h6]
    go_enter Tryz.func81, Tryz.ntmps81
    go_wp2_with fail
    go_ret
    exact ⟨by simp [h6], K0.out.bl⟩
  have h6 := Decidable.not_not.1 h6
  subst h6
  rw [decide_eq_true rfl, Bool.true_and]
  go_enter Tryz.func81, Tryz.ntmps81
  go_wp2_with fail
  go_loopw [155] (fun jv wr => ∃ j : Nat, jv = .int .i64 (j : Int) ∧ j ≤ L.length ∧ Hid (∀ i, i < j → (fun j => (!decide (j = k) && (eqB (rAt L j).o xo && decide ((rAt L j).t = 39))) || (!eqB (rAt L j).o xo && withinB (rAt L j).o xo)) i = false) ∧ Hid (Below wa.heap.size wa wr)) (fun jv _ => L.length - (intOf jv).toNat)
  case atStart => exact ⟨0, rfl, Nat.zero_le _, (fun i h => absurd h (Nat.not_lt_zero _)), Below.refl _ _⟩
  case round =>
    obtain ⟨j, rfl, hj, HN, HBr⟩ := hrel
    have hBl0 : Below w.heap.size w wr := (HK.out _ HBr.out).bl
    have HBl := hide' hBl0
    obtain ⟨u0, u1, u2, u3, u4⟩ := (HK.out _ HBr.out).cells
    simp only at u0 u1 u2 u3 u4
    by_cases hlt : j < L.length
    · have hjL : j < L.length := by omega
      obtain ⟨y0, y1, y2, y3, y4⟩ := HJ.out j hjL wr hBl0
      have HJS := hide' (HSm.out j hjL)
      have HU : Hid ((fun j => (!decide (j = k) && (eqB (rAt L j).o xo && decide ((rAt L j).t = 39))) || (!eqB (rAt L j).o xo && withinB (rAt L j).o xo)) j = false → ∀ i, i < j + 1 → (fun j => (!decide (j = k) && (eqB (rAt L j).o xo && decide ((rAt L j).t = 39))) || (!eqB (rAt L j).o xo && withinB (rAt L j).o xo)) i = false) := fun h => up_to HN.out h
      have HQ : Hid (∀ V, Below wr.heap.size wr V → (V.cell? ⟨g, off + j * 5, none⟩ = some (.string (rAt L j).o) ∧ V.cell? ⟨g, off + j * 5 + 1, none⟩ = some (.int .i64 (rAt L j).t) ∧ V.cell? ⟨g, off + j * 5 + 2, none⟩ = some (.int .i64 (rAt L j).c) ∧ V.cell? ⟨g, off + j * 5 + 3, none⟩ = some (.int .i64 (rAt L j).l) ∧ V.cell? ⟨g, off + j * 5 + 4, none⟩ = some (.string (rAt L j).d)) ∧ V.cell? ⟨w.heap.size, 0, none⟩ = some (.string xo) ∧ V.cell? ⟨w.heap.size, 1, none⟩ = some (.int .i64 39) ∧ V.cell? ⟨w.heap.size, 2, none⟩ = some (.int .i64 xc) ∧ V.cell? ⟨w.heap.size, 3, none⟩ = some (.int .i64 xl) ∧ V.cell? ⟨w.heap.size, 4, none⟩ = some (.string xd)) := fun V hV => ⟨HJ.out j hjL V (bstep HBl.out hV HBl.out.size), (HK.out _ (bstep HBr.out hV HBr.out.size)).cells⟩
      have HBn : Hid (∀ V, Below wr.heap.size wr V → Below wa.heap.size wa V) := fun V hV => bstep HBr.out hV HBr.out.size
      have HFi : Hid (∀ V, Below wr.heap.size wr V → Below w.heap.size w V) := fun V hV => bstep HBl.out hV HBl.out.size
      clear hBl0
      have pj1 : (0 : Int) ≤ (j : Int) := by omega
      have pj2 : (j : Int) < (L.length : Int) := by omega
      have pj3 : (j : Int) < (L.length : Int) := by omega
      have HE := hide' (fun V => equalName_any (rAt L j).o xo V HJS.out.1 HXX.out.1)
      have HW := hide' (fun V => refWithin_any (rAt L j).o xo V HJS.out.1 HXX.out.1)
      have HH : Hid ((fun j => (!decide (j = k) && (eqB (rAt L j).o xo && decide ((rAt L j).t = 39))) || (!eqB (rAt L j).o xo && withinB (rAt L j).o xo)) j = true → ((List.range L.length).any (fun j => (!decide (j = k) && (eqB (rAt L j).o xo && decide ((rAt L j).t = 39))) || (!eqB (rAt L j).o xo && withinB (rAt L j).o xo))) = true) := fun h => any_hit hlt h
      simp only at HH HU
      obtain ⟨E, hE⟩ : ∃ E, eqB (rAt L j).o xo = E := ⟨_, rfl⟩
      obtain ⟨Wn, hWn⟩ : ∃ Wn, withinB (rAt L j).o xo = Wn := ⟨_, rfl⟩
      rw [hE] at HE HH HU
      rw [hWn] at HW HH HU
      clear hE hWn
      obtain ⟨y, hy⟩ : ∃ y, rAt L j = y := ⟨_, rfl⟩
      rw [hy] at y0 y1 y2 y3 y4 HJS HQ HE HW HH HU
      have HYY := hide' hy
      clear hy
      obtain ⟨yo, yt, yc, yl, yd⟩ := y
      simp only at y0 y1 y2 y3 y4 HQ
      simp only at HH HU HE HW
      have hB := (Below.refl wr.heap.size wr).drew
      cases E with
      | true =>
        by_cases hjk : j = k
        · have HUU := hide' (HU.out (by simp [hjk]))
          have hjb : ((j : Int) != (k : Int)) = false := by simp [hjk]
          clear hjk
          go_wp2_with fail
          go_region_held3 (fun V => (V.cell? ⟨g, off + j * 5, none⟩ = some (.string yo) ∧ V.cell? ⟨g, off + j * 5 + 1, none⟩ = some (.int .i64 yt) ∧ V.cell? ⟨g, off + j * 5 + 2, none⟩ = some (.int .i64 yc) ∧ V.cell? ⟨g, off + j * 5 + 3, none⟩ = some (.int .i64 yl) ∧ V.cell? ⟨g, off + j * 5 + 4, none⟩ = some (.string yd)) ∧ V.cell? ⟨w.heap.size, 0, none⟩ = some (.string xo) ∧ V.cell? ⟨w.heap.size, 1, none⟩ = some (.int .i64 39) ∧ V.cell? ⟨w.heap.size, 2, none⟩ = some (.int .i64 xc) ∧ V.cell? ⟨w.heap.size, 3, none⟩ = some (.int .i64 xl) ∧ V.cell? ⟨w.heap.size, 4, none⟩ = some (.string xd)) (first | go_keep | (with_reducible exact HQ.out _ hB)) ((go_at_call 113; refine (HE.out _).mono ?_; rintro e w5 ⟨rfl, hB5⟩; have hB := below_any hB hB5 (by first | exact .inl rfl | exact .inr rfl) hB.size; clear hB5))
          all_goals
            go_wp2_with fail
            have hB := hB.drew
            obtain ⟨⟨z0, z1, z2, z3, z4⟩, c0, c1, c2, c3, c4⟩ := HQ.out _ hB
            go_region
            all_goals
              go_wp2_with fail
              exact ⟨⟨j + 1, by go_num, by omega, HUU, HBn.out _ hB⟩, by simp [intOf]; omega⟩
        · have hjb : ((j : Int) != (k : Int)) = true := by simp; omega
          by_cases e1 : yt = 39
          · have HHH := hide' (HH.out (by simp [hjk, e1]))
            have e1b : (yt == 39) = true := by simp [e1]
            clear e1
            go_wp2_with fail
            go_region_held3 (fun V => (V.cell? ⟨g, off + j * 5, none⟩ = some (.string yo) ∧ V.cell? ⟨g, off + j * 5 + 1, none⟩ = some (.int .i64 yt) ∧ V.cell? ⟨g, off + j * 5 + 2, none⟩ = some (.int .i64 yc) ∧ V.cell? ⟨g, off + j * 5 + 3, none⟩ = some (.int .i64 yl) ∧ V.cell? ⟨g, off + j * 5 + 4, none⟩ = some (.string yd)) ∧ V.cell? ⟨w.heap.size, 0, none⟩ = some (.string xo) ∧ V.cell? ⟨w.heap.size, 1, none⟩ = some (.int .i64 39) ∧ V.cell? ⟨w.heap.size, 2, none⟩ = some (.int .i64 xc) ∧ V.cell? ⟨w.heap.size, 3, none⟩ = some (.int .i64 xl) ∧ V.cell? ⟨w.heap.size, 4, none⟩ = some (.string xd)) (first | go_keep | (with_reducible exact HQ.out _ hB)) ((go_at_call 113; refine (HE.out _).mono ?_; rintro e w5 ⟨rfl, hB5⟩; have hB := below_any hB hB5 (by first | exact .inl rfl | exact .inr rfl) hB.size; clear hB5))
            all_goals
              go_wp2_with fail
              have hB := hB.drew
              obtain ⟨⟨z0, z1, z2, z3, z4⟩, c0, c1, c2, c3, c4⟩ := HQ.out _ hB
              go_region
              all_goals
                go_wp2_with fail
                go_ret
                exact ⟨by rw [HHH.out]; rfl, HFi.out _ hB⟩
          · have HUU := hide' (HU.out (by simp [e1]))
            have e1b : (yt == 39) = false := by simp [e1]
            go_wp2_with fail
            go_region_held3 (fun V => (V.cell? ⟨g, off + j * 5, none⟩ = some (.string yo) ∧ V.cell? ⟨g, off + j * 5 + 1, none⟩ = some (.int .i64 yt) ∧ V.cell? ⟨g, off + j * 5 + 2, none⟩ = some (.int .i64 yc) ∧ V.cell? ⟨g, off + j * 5 + 3, none⟩ = some (.int .i64 yl) ∧ V.cell? ⟨g, off + j * 5 + 4, none⟩ = some (.string yd)) ∧ V.cell? ⟨w.heap.size, 0, none⟩ = some (.string xo) ∧ V.cell? ⟨w.heap.size, 1, none⟩ = some (.int .i64 39) ∧ V.cell? ⟨w.heap.size, 2, none⟩ = some (.int .i64 xc) ∧ V.cell? ⟨w.heap.size, 3, none⟩ = some (.int .i64 xl) ∧ V.cell? ⟨w.heap.size, 4, none⟩ = some (.string xd)) (first | go_keep | (with_reducible exact HQ.out _ hB)) ((go_at_call 113; refine (HE.out _).mono ?_; rintro e w5 ⟨rfl, hB5⟩; have hB := below_any hB hB5 (by first | exact .inl rfl | exact .inr rfl) hB.size; clear hB5))
            all_goals
              go_wp2_with fail
              have hB := hB.drew
              obtain ⟨⟨z0, z1, z2, z3, z4⟩, c0, c1, c2, c3, c4⟩ := HQ.out _ hB
              go_region
              all_goals
                go_wp2_with fail
                exact ⟨⟨j + 1, by go_num, by omega, HUU, HBn.out _ hB⟩, by simp [intOf]; omega⟩
      | false =>
        by_cases hjk : j = k
        · have hjb : ((j : Int) != (k : Int)) = false := by simp [hjk]
          cases Wn with
          | true =>
            have HHH := hide' (HH.out (by simp))
            clear hjk
            go_wp2_with fail
            go_region_held3 (fun V => (V.cell? ⟨g, off + j * 5, none⟩ = some (.string yo) ∧ V.cell? ⟨g, off + j * 5 + 1, none⟩ = some (.int .i64 yt) ∧ V.cell? ⟨g, off + j * 5 + 2, none⟩ = some (.int .i64 yc) ∧ V.cell? ⟨g, off + j * 5 + 3, none⟩ = some (.int .i64 yl) ∧ V.cell? ⟨g, off + j * 5 + 4, none⟩ = some (.string yd)) ∧ V.cell? ⟨w.heap.size, 0, none⟩ = some (.string xo) ∧ V.cell? ⟨w.heap.size, 1, none⟩ = some (.int .i64 39) ∧ V.cell? ⟨w.heap.size, 2, none⟩ = some (.int .i64 xc) ∧ V.cell? ⟨w.heap.size, 3, none⟩ = some (.int .i64 xl) ∧ V.cell? ⟨w.heap.size, 4, none⟩ = some (.string xd)) (first | go_keep | (with_reducible exact HQ.out _ hB)) ((go_at_call 113; refine (HE.out _).mono ?_; rintro e w5 ⟨rfl, hB5⟩; have hB := below_any hB hB5 (by first | exact .inl rfl | exact .inr rfl) hB.size; clear hB5))
            all_goals
              go_wp2_with fail
              have hB := hB.drew
              obtain ⟨⟨z0, z1, z2, z3, z4⟩, c0, c1, c2, c3, c4⟩ := HQ.out _ hB
              refine wp_region_held_drew (S := (fun V => (V.cell? ⟨g, off + j * 5, none⟩ = some (.string yo) ∧ V.cell? ⟨g, off + j * 5 + 1, none⟩ = some (.int .i64 yt) ∧ V.cell? ⟨g, off + j * 5 + 2, none⟩ = some (.int .i64 yc) ∧ V.cell? ⟨g, off + j * 5 + 3, none⟩ = some (.int .i64 yl) ∧ V.cell? ⟨g, off + j * 5 + 4, none⟩ = some (.string yd)) ∧ V.cell? ⟨w.heap.size, 0, none⟩ = some (.string xo) ∧ V.cell? ⟨w.heap.size, 1, none⟩ = some (.int .i64 39) ∧ V.cell? ⟨w.heap.size, 2, none⟩ = some (.int .i64 xc) ∧ V.cell? ⟨w.heap.size, 3, none⟩ = some (.int .i64 xl) ∧ V.cell? ⟨w.heap.size, 4, none⟩ = some (.string xd))) (by kernel_rfl) ?_ (fun hHeld => ?_)
              · (try dsimp only); go_keep
              refine takeD 0 (some 166) (.int .i64 (j : Int)) rfl rfl (by kernel_rfl) (by kernel_rfl) (by kernel_rfl) (fun _ _ _ h => h) (Or.inl ⟨by rfl, ?_⟩) (by assumption) ?_
              · intro w hSw; (try dsimp only at hSw); go_simp <;> (intros; omega)
              simp only [Act.put, List.setIfInBounds_toArray, List.set_cons_zero, List.set_cons_succ]
              refine takeD 1 (some 167) (.int .i64 (k : Int)) rfl rfl (by kernel_rfl) (by kernel_rfl) (by kernel_rfl) (fun _ _ _ h => h) (Or.inl ⟨by rfl, ?_⟩) (by assumption) ?_
              · intro w hSw; (try dsimp only at hSw); go_simp <;> (intros; omega)
              simp only [Act.put, List.setIfInBounds_toArray, List.set_cons_zero, List.set_cons_succ]
              refine takeD 2 (some 168) (.bool false) rfl rfl (by kernel_rfl) (by kernel_rfl) (by kernel_rfl) (fun _ _ _ h => h) (Or.inl ⟨by rfl, ?_⟩) (by assumption) ?_
              · intro w hSw; (try dsimp only at hSw); go_simp <;> (intros; omega)
              simp only [Act.put, List.setIfInBounds_toArray, List.set_cons_zero, List.set_cons_succ]
              refine takeD 3 (some 169) (.bool false) rfl rfl (by kernel_rfl) (by kernel_rfl) (by kernel_rfl) (fun _ _ _ h => h) (Or.inl ⟨by rfl, ?_⟩) (by assumption) ?_
              · intro w hSw; (try dsimp only at hSw); go_simp <;> (intros; omega)
              simp only [Act.put, List.setIfInBounds_toArray, List.set_cons_zero, List.set_cons_succ]
              refine takeD 4 (some 170) undef rfl rfl (by kernel_rfl) (by kernel_rfl) (by kernel_rfl) (fun _ _ _ h => h) (Or.inr ⟨by rfl, rfl⟩) (by assumption) ?_
              simp only [Act.put, List.setIfInBounds_toArray, List.set_cons_zero, List.set_cons_succ]
              refine takeD 5 (some 171) (.bool false) rfl rfl (by kernel_rfl) (by kernel_rfl) (by kernel_rfl) (fun _ _ _ h => h) (Or.inl ⟨by rfl, ?_⟩) (by assumption) ?_
              · intro w hSw; (try dsimp only at hSw); go_simp <;> (intros; omega)
              simp only [Act.put, List.setIfInBounds_toArray, List.set_cons_zero, List.set_cons_succ]
              refine takeD 6 (some 172) (.bool false) rfl rfl (by kernel_rfl) (by kernel_rfl) (by kernel_rfl) (fun _ _ _ h => h) (Or.inl ⟨by rfl, ?_⟩) (by assumption) ?_
              · intro w hSw; (try dsimp only at hSw); go_simp <;> (intros; omega)
              simp only [Act.put, List.setIfInBounds_toArray, List.set_cons_zero, List.set_cons_succ]
              refine takeD 7 (some 173) undef rfl rfl (by kernel_rfl) (by kernel_rfl) (by kernel_rfl) (fun _ _ _ h => h) (Or.inr ⟨by rfl, rfl⟩) (by assumption) ?_
              simp only [Act.put, List.setIfInBounds_toArray, List.set_cons_zero, List.set_cons_succ]
              refine takeD 8 (some 174) undef rfl rfl (by kernel_rfl) (by kernel_rfl) (by kernel_rfl) (fun _ _ _ h => h) (Or.inr ⟨by rfl, rfl⟩) (by assumption) ?_
              simp only [Act.put, List.setIfInBounds_toArray, List.set_cons_zero, List.set_cons_succ]
              refine takeD 9 (some 175) undef rfl rfl (by kernel_rfl) (by kernel_rfl) (by kernel_rfl) (fun _ _ _ h => h) (Or.inr ⟨by rfl, rfl⟩) (by assumption) ?_
              simp only [Act.put, List.setIfInBounds_toArray, List.set_cons_zero, List.set_cons_succ]
              refine takeD 10 (some 176) undef rfl rfl (by kernel_rfl) (by kernel_rfl) (by kernel_rfl) (fun _ _ _ h => h) (Or.inr ⟨by rfl, rfl⟩) (by assumption) ?_
              simp only [Act.put, List.setIfInBounds_toArray, List.set_cons_zero, List.set_cons_succ]
              refine takeD 11 (some 177) undef rfl rfl (by kernel_rfl) (by kernel_rfl) (by kernel_rfl) (fun _ _ _ h => h) (Or.inr ⟨by rfl, rfl⟩) (by assumption) ?_
              simp only [Act.put, List.setIfInBounds_toArray, List.set_cons_zero, List.set_cons_succ]
              refine takeD 12 (some 178) undef rfl rfl (by kernel_rfl) (by kernel_rfl) (by kernel_rfl) (fun _ _ _ h => h) (Or.inr ⟨by rfl, rfl⟩) (by assumption) ?_
              simp only [Act.put, List.setIfInBounds_toArray, List.set_cons_zero, List.set_cons_succ]
              refine takeD 13 (some 179) (.bool false) rfl rfl (by kernel_rfl) (by kernel_rfl) (by kernel_rfl) (fun _ _ _ h => h) (Or.inl ⟨by rfl, ?_⟩) (by assumption) ?_
              · intro w hSw; (try dsimp only at hSw); go_simp <;> (intros; omega)
              simp only [Act.put, List.setIfInBounds_toArray, List.set_cons_zero, List.set_cons_succ]
              refine takeD 14 (some 180) (.bool false) rfl rfl (by kernel_rfl) (by kernel_rfl) (by kernel_rfl) (fun _ _ _ h => h) (Or.inl ⟨by rfl, ?_⟩) (by assumption) ?_
              · intro w hSw; (try dsimp only at hSw); go_simp <;> (intros; omega)
              simp only [Act.put, List.setIfInBounds_toArray, List.set_cons_zero, List.set_cons_succ]
              refine takeD 15 (some 181) (.bool false) rfl rfl (by kernel_rfl) (by kernel_rfl) (by kernel_rfl) (fun _ _ _ h => h) (Or.inl ⟨by rfl, ?_⟩) (by assumption) ?_
              · intro w hSw; (try dsimp only at hSw); go_simp <;> (intros; omega)
              simp only [Act.put, List.setIfInBounds_toArray, List.set_cons_zero, List.set_cons_succ]
              refine takeD 16 (some 182) (.bool true) rfl rfl (by kernel_rfl) (by kernel_rfl) (by kernel_rfl) (fun _ _ _ h => h) (Or.inl ⟨by rfl, ?_⟩) (by assumption) ?_
              · intro w hSw; (try dsimp only at hSw); go_simp <;> (intros; omega)
              simp only [Act.put, List.setIfInBounds_toArray, List.set_cons_zero, List.set_cons_succ]
              refine takeD 17 (some 183) (.bool true) rfl rfl (by kernel_rfl) (by kernel_rfl) (by kernel_rfl) (fun _ _ _ h => h) (Or.inl ⟨by rfl, ?_⟩) (by assumption) ?_
              · intro w hSw; (try dsimp only at hSw); go_simp <;> (intros; omega)
              simp only [Act.put, List.setIfInBounds_toArray, List.set_cons_zero, List.set_cons_succ]
              refine takeD 18 (some 184) (.slice (some ⟨g, off, none⟩) L.length cap) rfl rfl (by kernel_rfl) (by kernel_rfl) (by kernel_rfl) (fun _ _ _ h => h) (Or.inl ⟨by rfl, ?_⟩) (by assumption) ?_
              · intro w hSw; (try dsimp only at hSw); go_simp <;> (intros; omega)
              simp only [Act.put, List.setIfInBounds_toArray, List.set_cons_zero, List.set_cons_succ]
              refine takeD 19 (some 185) (.int .i64 (j : Int)) rfl rfl (by kernel_rfl) (by kernel_rfl) (by kernel_rfl) (fun _ _ _ h => h) (Or.inl ⟨by rfl, ?_⟩) (by assumption) ?_
              · intro w hSw; (try dsimp only at hSw); go_simp <;> (intros; omega)
              simp only [Act.put, List.setIfInBounds_toArray, List.set_cons_zero, List.set_cons_succ]
              refine takeD 20 (some 186) (.pointer (some ⟨g, off + j * 5, none⟩)) rfl rfl (by kernel_rfl) (by kernel_rfl) (by kernel_rfl) (fun _ _ _ h => h) (Or.inl ⟨by rfl, ?_⟩) (by assumption) ?_
              · intro w hSw; (try dsimp only at hSw); go_simp <;> (intros; omega)
              simp only [Act.put, List.setIfInBounds_toArray, List.set_cons_zero, List.set_cons_succ]
              refine takeD 21 (some 187) (.pointer (some ⟨g, off + j * 5, none⟩)) rfl rfl (by kernel_rfl) (by kernel_rfl) (by kernel_rfl) (fun _ _ _ h => h) (Or.inl ⟨by rfl, ?_⟩) (by assumption) ?_
              · intro w hSw; (try dsimp only at hSw); go_simp <;> (intros; omega)
              simp only [Act.put, List.setIfInBounds_toArray, List.set_cons_zero, List.set_cons_succ]
              refine takeD 22 (some 188) (.string yo) rfl rfl (by kernel_rfl) (by kernel_rfl) (by kernel_rfl) (fun _ _ _ h => h) (Or.inl ⟨by rfl, ?_⟩) (by assumption) ?_
              · intro w hSw; (try dsimp only at hSw); go_simp <;> (intros; omega)
              simp only [Act.put, List.setIfInBounds_toArray, List.set_cons_zero, List.set_cons_succ]
              refine takeD 23 (some 189) (.pointer (some ⟨w.heap.size, 0, none⟩)) rfl rfl (by kernel_rfl) (by kernel_rfl) (by kernel_rfl) (fun _ _ _ h => h) (Or.inl ⟨by rfl, ?_⟩) (by assumption) ?_
              · intro w hSw; (try dsimp only at hSw); go_simp <;> (intros; omega)
              simp only [Act.put, List.setIfInBounds_toArray, List.set_cons_zero, List.set_cons_succ]
              refine takeD 24 (some 190) (.string xo) rfl rfl (by kernel_rfl) (by kernel_rfl) (by kernel_rfl) (fun _ _ _ h => h) (Or.inl ⟨by rfl, ?_⟩) (by assumption) ?_
              · intro w hSw; (try dsimp only at hSw); go_simp <;> (intros; omega)
              simp only [Act.put, List.setIfInBounds_toArray, List.set_cons_zero, List.set_cons_succ]
              refine wpAnyH_ready (rs := [25]) (by kernel_rfl) (by simp) ?_
              refine AllReadyH.cons rfl (fun K hK => ?_) AllReadyH.nil
              go_simp
              go_at_call 111; refine (HW.out _).mono ?_; rintro e w6 ⟨rfl, hB5⟩; have hB := below_any hB hB5 (by first | exact .inl rfl | exact .inr rfl) hB.size; clear hB5
              go_wp2_with fail
              refine hK.out _ _ (HQ.out _ hB) (fun hHeld => ?_)
              clear hK K
              try simp only [Act.put, List.setIfInBounds_toArray, List.set_cons_zero, List.set_cons_succ]
              refine takeD 26 (some 192) (.bool true) rfl rfl (by kernel_rfl) (by kernel_rfl) (by kernel_rfl) (fun _ _ _ h => h) (Or.inl ⟨by rfl, ?_⟩) (by assumption) ?_
              · intro w hSw; (try dsimp only at hSw); go_simp <;> (intros; omega)
              simp only [Act.put, List.setIfInBounds_toArray, List.set_cons_zero, List.set_cons_succ]
              refine takeD 27 (some 193) (.bool true) rfl rfl (by kernel_rfl) (by kernel_rfl) (by kernel_rfl) (fun _ _ _ h => h) (Or.inl ⟨by rfl, ?_⟩) (by assumption) ?_
              · intro w hSw; (try dsimp only at hSw); go_simp <;> (intros; omega)
              simp only [Act.put, List.setIfInBounds_toArray, List.set_cons_zero, List.set_cons_succ]
              refine wpAnyH_done (by kernel_rfl) ?_ _
              go_wp2_with fail
              go_ret
              exact ⟨by rw [HHH.out]; rfl, HFi.out _ hB⟩
          | false =>
            have HUU := hide' (HU.out (by simp))
            clear hjk
            go_wp2_with fail
            go_region_held3 (fun V => (V.cell? ⟨g, off + j * 5, none⟩ = some (.string yo) ∧ V.cell? ⟨g, off + j * 5 + 1, none⟩ = some (.int .i64 yt) ∧ V.cell? ⟨g, off + j * 5 + 2, none⟩ = some (.int .i64 yc) ∧ V.cell? ⟨g, off + j * 5 + 3, none⟩ = some (.int .i64 yl) ∧ V.cell? ⟨g, off + j * 5 + 4, none⟩ = some (.string yd)) ∧ V.cell? ⟨w.heap.size, 0, none⟩ = some (.string xo) ∧ V.cell? ⟨w.heap.size, 1, none⟩ = some (.int .i64 39) ∧ V.cell? ⟨w.heap.size, 2, none⟩ = some (.int .i64 xc) ∧ V.cell? ⟨w.heap.size, 3, none⟩ = some (.int .i64 xl) ∧ V.cell? ⟨w.heap.size, 4, none⟩ = some (.string xd)) (first | go_keep | (with_reducible exact HQ.out _ hB)) ((go_at_call 113; refine (HE.out _).mono ?_; rintro e w5 ⟨rfl, hB5⟩; have hB := below_any hB hB5 (by first | exact .inl rfl | exact .inr rfl) hB.size; clear hB5))
            all_goals
              go_wp2_with fail
              have hB := hB.drew
              obtain ⟨⟨z0, z1, z2, z3, z4⟩, c0, c1, c2, c3, c4⟩ := HQ.out _ hB
              refine wp_region_held_drew (S := (fun V => (V.cell? ⟨g, off + j * 5, none⟩ = some (.string yo) ∧ V.cell? ⟨g, off + j * 5 + 1, none⟩ = some (.int .i64 yt) ∧ V.cell? ⟨g, off + j * 5 + 2, none⟩ = some (.int .i64 yc) ∧ V.cell? ⟨g, off + j * 5 + 3, none⟩ = some (.int .i64 yl) ∧ V.cell? ⟨g, off + j * 5 + 4, none⟩ = some (.string yd)) ∧ V.cell? ⟨w.heap.size, 0, none⟩ = some (.string xo) ∧ V.cell? ⟨w.heap.size, 1, none⟩ = some (.int .i64 39) ∧ V.cell? ⟨w.heap.size, 2, none⟩ = some (.int .i64 xc) ∧ V.cell? ⟨w.heap.size, 3, none⟩ = some (.int .i64 xl) ∧ V.cell? ⟨w.heap.size, 4, none⟩ = some (.string xd))) (by kernel_rfl) ?_ (fun hHeld => ?_)
              · (try dsimp only); go_keep
              refine takeD 0 (some 166) (.int .i64 (j : Int)) rfl rfl (by kernel_rfl) (by kernel_rfl) (by kernel_rfl) (fun _ _ _ h => h) (Or.inl ⟨by rfl, ?_⟩) (by assumption) ?_
              · intro w hSw; (try dsimp only at hSw); go_simp <;> (intros; omega)
              simp only [Act.put, List.setIfInBounds_toArray, List.set_cons_zero, List.set_cons_succ]
              refine takeD 1 (some 167) (.int .i64 (k : Int)) rfl rfl (by kernel_rfl) (by kernel_rfl) (by kernel_rfl) (fun _ _ _ h => h) (Or.inl ⟨by rfl, ?_⟩) (by assumption) ?_
              · intro w hSw; (try dsimp only at hSw); go_simp <;> (intros; omega)
              simp only [Act.put, List.setIfInBounds_toArray, List.set_cons_zero, List.set_cons_succ]
              refine takeD 2 (some 168) (.bool false) rfl rfl (by kernel_rfl) (by kernel_rfl) (by kernel_rfl) (fun _ _ _ h => h) (Or.inl ⟨by rfl, ?_⟩) (by assumption) ?_
              · intro w hSw; (try dsimp only at hSw); go_simp <;> (intros; omega)
              simp only [Act.put, List.setIfInBounds_toArray, List.set_cons_zero, List.set_cons_succ]
              refine takeD 3 (some 169) (.bool false) rfl rfl (by kernel_rfl) (by kernel_rfl) (by kernel_rfl) (fun _ _ _ h => h) (Or.inl ⟨by rfl, ?_⟩) (by assumption) ?_
              · intro w hSw; (try dsimp only at hSw); go_simp <;> (intros; omega)
              simp only [Act.put, List.setIfInBounds_toArray, List.set_cons_zero, List.set_cons_succ]
              refine takeD 4 (some 170) undef rfl rfl (by kernel_rfl) (by kernel_rfl) (by kernel_rfl) (fun _ _ _ h => h) (Or.inr ⟨by rfl, rfl⟩) (by assumption) ?_
              simp only [Act.put, List.setIfInBounds_toArray, List.set_cons_zero, List.set_cons_succ]
              refine takeD 5 (some 171) (.bool false) rfl rfl (by kernel_rfl) (by kernel_rfl) (by kernel_rfl) (fun _ _ _ h => h) (Or.inl ⟨by rfl, ?_⟩) (by assumption) ?_
              · intro w hSw; (try dsimp only at hSw); go_simp <;> (intros; omega)
              simp only [Act.put, List.setIfInBounds_toArray, List.set_cons_zero, List.set_cons_succ]
              refine takeD 6 (some 172) (.bool false) rfl rfl (by kernel_rfl) (by kernel_rfl) (by kernel_rfl) (fun _ _ _ h => h) (Or.inl ⟨by rfl, ?_⟩) (by assumption) ?_
              · intro w hSw; (try dsimp only at hSw); go_simp <;> (intros; omega)
              simp only [Act.put, List.setIfInBounds_toArray, List.set_cons_zero, List.set_cons_succ]
              refine takeD 7 (some 173) undef rfl rfl (by kernel_rfl) (by kernel_rfl) (by kernel_rfl) (fun _ _ _ h => h) (Or.inr ⟨by rfl, rfl⟩) (by assumption) ?_
              simp only [Act.put, List.setIfInBounds_toArray, List.set_cons_zero, List.set_cons_succ]
              refine takeD 8 (some 174) undef rfl rfl (by kernel_rfl) (by kernel_rfl) (by kernel_rfl) (fun _ _ _ h => h) (Or.inr ⟨by rfl, rfl⟩) (by assumption) ?_
              simp only [Act.put, List.setIfInBounds_toArray, List.set_cons_zero, List.set_cons_succ]
              refine takeD 9 (some 175) undef rfl rfl (by kernel_rfl) (by kernel_rfl) (by kernel_rfl) (fun _ _ _ h => h) (Or.inr ⟨by rfl, rfl⟩) (by assumption) ?_
              simp only [Act.put, List.setIfInBounds_toArray, List.set_cons_zero, List.set_cons_succ]
              refine takeD 10 (some 176) undef rfl rfl (by kernel_rfl) (by kernel_rfl) (by kernel_rfl) (fun _ _ _ h => h) (Or.inr ⟨by rfl, rfl⟩) (by assumption) ?_
              simp only [Act.put, List.setIfInBounds_toArray, List.set_cons_zero, List.set_cons_succ]
              refine takeD 11 (some 177) undef rfl rfl (by kernel_rfl) (by kernel_rfl) (by kernel_rfl) (fun _ _ _ h => h) (Or.inr ⟨by rfl, rfl⟩) (by assumption) ?_
              simp only [Act.put, List.setIfInBounds_toArray, List.set_cons_zero, List.set_cons_succ]
              refine takeD 12 (some 178) undef rfl rfl (by kernel_rfl) (by kernel_rfl) (by kernel_rfl) (fun _ _ _ h => h) (Or.inr ⟨by rfl, rfl⟩) (by assumption) ?_
              simp only [Act.put, List.setIfInBounds_toArray, List.set_cons_zero, List.set_cons_succ]
              refine takeD 13 (some 179) (.bool false) rfl rfl (by kernel_rfl) (by kernel_rfl) (by kernel_rfl) (fun _ _ _ h => h) (Or.inl ⟨by rfl, ?_⟩) (by assumption) ?_
              · intro w hSw; (try dsimp only at hSw); go_simp <;> (intros; omega)
              simp only [Act.put, List.setIfInBounds_toArray, List.set_cons_zero, List.set_cons_succ]
              refine takeD 14 (some 180) (.bool false) rfl rfl (by kernel_rfl) (by kernel_rfl) (by kernel_rfl) (fun _ _ _ h => h) (Or.inl ⟨by rfl, ?_⟩) (by assumption) ?_
              · intro w hSw; (try dsimp only at hSw); go_simp <;> (intros; omega)
              simp only [Act.put, List.setIfInBounds_toArray, List.set_cons_zero, List.set_cons_succ]
              refine takeD 15 (some 181) (.bool false) rfl rfl (by kernel_rfl) (by kernel_rfl) (by kernel_rfl) (fun _ _ _ h => h) (Or.inl ⟨by rfl, ?_⟩) (by assumption) ?_
              · intro w hSw; (try dsimp only at hSw); go_simp <;> (intros; omega)
              simp only [Act.put, List.setIfInBounds_toArray, List.set_cons_zero, List.set_cons_succ]
              refine takeD 16 (some 182) (.bool true) rfl rfl (by kernel_rfl) (by kernel_rfl) (by kernel_rfl) (fun _ _ _ h => h) (Or.inl ⟨by rfl, ?_⟩) (by assumption) ?_
              · intro w hSw; (try dsimp only at hSw); go_simp <;> (intros; omega)
              simp only [Act.put, List.setIfInBounds_toArray, List.set_cons_zero, List.set_cons_succ]
              refine takeD 17 (some 183) (.bool true) rfl rfl (by kernel_rfl) (by kernel_rfl) (by kernel_rfl) (fun _ _ _ h => h) (Or.inl ⟨by rfl, ?_⟩) (by assumption) ?_
              · intro w hSw; (try dsimp only at hSw); go_simp <;> (intros; omega)
              simp only [Act.put, List.setIfInBounds_toArray, List.set_cons_zero, List.set_cons_succ]
              refine takeD 18 (some 184) (.slice (some ⟨g, off, none⟩) L.length cap) rfl rfl (by kernel_rfl) (by kernel_rfl) (by kernel_rfl) (fun _ _ _ h => h) (Or.inl ⟨by rfl, ?_⟩) (by assumption) ?_
              · intro w hSw; (try dsimp only at hSw); go_simp <;> (intros; omega)
              simp only [Act.put, List.setIfInBounds_toArray, List.set_cons_zero, List.set_cons_succ]
              refine takeD 19 (some 185) (.int .i64 (j : Int)) rfl rfl (by kernel_rfl) (by kernel_rfl) (by kernel_rfl) (fun _ _ _ h => h) (Or.inl ⟨by rfl, ?_⟩) (by assumption) ?_
              · intro w hSw; (try dsimp only at hSw); go_simp <;> (intros; omega)
              simp only [Act.put, List.setIfInBounds_toArray, List.set_cons_zero, List.set_cons_succ]
              refine takeD 20 (some 186) (.pointer (some ⟨g, off + j * 5, none⟩)) rfl rfl (by kernel_rfl) (by kernel_rfl) (by kernel_rfl) (fun _ _ _ h => h) (Or.inl ⟨by rfl, ?_⟩) (by assumption) ?_
              · intro w hSw; (try dsimp only at hSw); go_simp <;> (intros; omega)
              simp only [Act.put, List.setIfInBounds_toArray, List.set_cons_zero, List.set_cons_succ]
              refine takeD 21 (some 187) (.pointer (some ⟨g, off + j * 5, none⟩)) rfl rfl (by kernel_rfl) (by kernel_rfl) (by kernel_rfl) (fun _ _ _ h => h) (Or.inl ⟨by rfl, ?_⟩) (by assumption) ?_
              · intro w hSw; (try dsimp only at hSw); go_simp <;> (intros; omega)
              simp only [Act.put, List.setIfInBounds_toArray, List.set_cons_zero, List.set_cons_succ]
              refine takeD 22 (some 188) (.string yo) rfl rfl (by kernel_rfl) (by kernel_rfl) (by kernel_rfl) (fun _ _ _ h => h) (Or.inl ⟨by rfl, ?_⟩) (by assumption) ?_
              · intro w hSw; (try dsimp only at hSw); go_simp <;> (intros; omega)
              simp only [Act.put, List.setIfInBounds_toArray, List.set_cons_zero, List.set_cons_succ]
              refine takeD 23 (some 189) (.pointer (some ⟨w.heap.size, 0, none⟩)) rfl rfl (by kernel_rfl) (by kernel_rfl) (by kernel_rfl) (fun _ _ _ h => h) (Or.inl ⟨by rfl, ?_⟩) (by assumption) ?_
              · intro w hSw; (try dsimp only at hSw); go_simp <;> (intros; omega)
              simp only [Act.put, List.setIfInBounds_toArray, List.set_cons_zero, List.set_cons_succ]
              refine takeD 24 (some 190) (.string xo) rfl rfl (by kernel_rfl) (by kernel_rfl) (by kernel_rfl) (fun _ _ _ h => h) (Or.inl ⟨by rfl, ?_⟩) (by assumption) ?_
              · intro w hSw; (try dsimp only at hSw); go_simp <;> (intros; omega)
              simp only [Act.put, List.setIfInBounds_toArray, List.set_cons_zero, List.set_cons_succ]
              refine wpAnyH_ready (rs := [25]) (by kernel_rfl) (by simp) ?_
              refine AllReadyH.cons rfl (fun K hK => ?_) AllReadyH.nil
              go_simp
              go_at_call 111; refine (HW.out _).mono ?_; rintro e w6 ⟨rfl, hB5⟩; have hB := below_any hB hB5 (by first | exact .inl rfl | exact .inr rfl) hB.size; clear hB5
              go_wp2_with fail
              refine hK.out _ _ (HQ.out _ hB) (fun hHeld => ?_)
              clear hK K
              try simp only [Act.put, List.setIfInBounds_toArray, List.set_cons_zero, List.set_cons_succ]
              refine takeD 26 (some 192) (.bool false) rfl rfl (by kernel_rfl) (by kernel_rfl) (by kernel_rfl) (fun _ _ _ h => h) (Or.inl ⟨by rfl, ?_⟩) (by assumption) ?_
              · intro w hSw; (try dsimp only at hSw); go_simp <;> (intros; omega)
              simp only [Act.put, List.setIfInBounds_toArray, List.set_cons_zero, List.set_cons_succ]
              refine takeD 27 (some 193) (.bool false) rfl rfl (by kernel_rfl) (by kernel_rfl) (by kernel_rfl) (fun _ _ _ h => h) (Or.inl ⟨by rfl, ?_⟩) (by assumption) ?_
              · intro w hSw; (try dsimp only at hSw); go_simp <;> (intros; omega)
              simp only [Act.put, List.setIfInBounds_toArray, List.set_cons_zero, List.set_cons_succ]
              refine wpAnyH_done (by kernel_rfl) ?_ _
              go_wp2_with fail
              exact ⟨⟨j + 1, by go_num, by omega, HUU, HBn.out _ hB⟩, by simp [intOf]; omega⟩
        · have hjb : ((j : Int) != (k : Int)) = true := by simp; omega
          cases Wn with
          | true =>
            have HHH := hide' (HH.out (by simp))
            go_wp2_with fail
            go_region_held3 (fun V => (V.cell? ⟨g, off + j * 5, none⟩ = some (.string yo) ∧ V.cell? ⟨g, off + j * 5 + 1, none⟩ = some (.int .i64 yt) ∧ V.cell? ⟨g, off + j * 5 + 2, none⟩ = some (.int .i64 yc) ∧ V.cell? ⟨g, off + j * 5 + 3, none⟩ = some (.int .i64 yl) ∧ V.cell? ⟨g, off + j * 5 + 4, none⟩ = some (.string yd)) ∧ V.cell? ⟨w.heap.size, 0, none⟩ = some (.string xo) ∧ V.cell? ⟨w.heap.size, 1, none⟩ = some (.int .i64 39) ∧ V.cell? ⟨w.heap.size, 2, none⟩ = some (.int .i64 xc) ∧ V.cell? ⟨w.heap.size, 3, none⟩ = some (.int .i64 xl) ∧ V.cell? ⟨w.heap.size, 4, none⟩ = some (.string xd)) (first | go_keep | (with_reducible exact HQ.out _ hB)) ((go_at_call 113; refine (HE.out _).mono ?_; rintro e w5 ⟨rfl, hB5⟩; have hB := below_any hB hB5 (by first | exact .inl rfl | exact .inr rfl) hB.size; clear hB5))
            all_goals
              go_wp2_with fail
              have hB := hB.drew
              obtain ⟨⟨z0, z1, z2, z3, z4⟩, c0, c1, c2, c3, c4⟩ := HQ.out _ hB
              refine wp_region_held_drew (S := (fun V => (V.cell? ⟨g, off + j * 5, none⟩ = some (.string yo) ∧ V.cell? ⟨g, off + j * 5 + 1, none⟩ = some (.int .i64 yt) ∧ V.cell? ⟨g, off + j * 5 + 2, none⟩ = some (.int .i64 yc) ∧ V.cell? ⟨g, off + j * 5 + 3, none⟩ = some (.int .i64 yl) ∧ V.cell? ⟨g, off + j * 5 + 4, none⟩ = some (.string yd)) ∧ V.cell? ⟨w.heap.size, 0, none⟩ = some (.string xo) ∧ V.cell? ⟨w.heap.size, 1, none⟩ = some (.int .i64 39) ∧ V.cell? ⟨w.heap.size, 2, none⟩ = some (.int .i64 xc) ∧ V.cell? ⟨w.heap.size, 3, none⟩ = some (.int .i64 xl) ∧ V.cell? ⟨w.heap.size, 4, none⟩ = some (.string xd))) (by kernel_rfl) ?_ (fun hHeld => ?_)
              · (try dsimp only); go_keep
              refine takeD 0 (some 166) (.int .i64 (j : Int)) rfl rfl (by kernel_rfl) (by kernel_rfl) (by kernel_rfl) (fun _ _ _ h => h) (Or.inl ⟨by rfl, ?_⟩) (by assumption) ?_
              · intro w hSw; (try dsimp only at hSw); go_simp <;> (intros; omega)
              simp only [Act.put, List.setIfInBounds_toArray, List.set_cons_zero, List.set_cons_succ]
              refine takeD 1 (some 167) (.int .i64 (k : Int)) rfl rfl (by kernel_rfl) (by kernel_rfl) (by kernel_rfl) (fun _ _ _ h => h) (Or.inl ⟨by rfl, ?_⟩) (by assumption) ?_
              · intro w hSw; (try dsimp only at hSw); go_simp <;> (intros; omega)
              simp only [Act.put, List.setIfInBounds_toArray, List.set_cons_zero, List.set_cons_succ]
              refine takeD 2 (some 168) (.bool true) rfl rfl (by kernel_rfl) (by kernel_rfl) (by kernel_rfl) (fun _ _ _ h => h) (Or.inl ⟨by rfl, ?_⟩) (by assumption) ?_
              · intro w hSw; (try dsimp only at hSw); go_simp <;> (intros; omega)
              simp only [Act.put, List.setIfInBounds_toArray, List.set_cons_zero, List.set_cons_succ]
              refine takeD 3 (some 169) (.bool true) rfl rfl (by kernel_rfl) (by kernel_rfl) (by kernel_rfl) (fun _ _ _ h => h) (Or.inl ⟨by rfl, ?_⟩) (by assumption) ?_
              · intro w hSw; (try dsimp only at hSw); go_simp <;> (intros; omega)
              simp only [Act.put, List.setIfInBounds_toArray, List.set_cons_zero, List.set_cons_succ]
              refine takeD 4 (some 170) (.bool false) rfl rfl (by kernel_rfl) (by kernel_rfl) (by kernel_rfl) (fun _ _ _ h => h) (Or.inl ⟨by rfl, ?_⟩) (by assumption) ?_
              · intro w hSw; (try dsimp only at hSw); go_simp <;> (intros; omega)
              simp only [Act.put, List.setIfInBounds_toArray, List.set_cons_zero, List.set_cons_succ]
              refine takeD 5 (some 171) (.bool false) rfl rfl (by kernel_rfl) (by kernel_rfl) (by kernel_rfl) (fun _ _ _ h => h) (Or.inl ⟨by rfl, ?_⟩) (by assumption) ?_
              · intro w hSw; (try dsimp only at hSw); go_simp <;> (intros; omega)
              simp only [Act.put, List.setIfInBounds_toArray, List.set_cons_zero, List.set_cons_succ]
              refine takeD 6 (some 172) (.bool false) rfl rfl (by kernel_rfl) (by kernel_rfl) (by kernel_rfl) (fun _ _ _ h => h) (Or.inl ⟨by rfl, ?_⟩) (by assumption) ?_
              · intro w hSw; (try dsimp only at hSw); go_simp <;> (intros; omega)
              simp only [Act.put, List.setIfInBounds_toArray, List.set_cons_zero, List.set_cons_succ]
              refine takeD 7 (some 173) undef rfl rfl (by kernel_rfl) (by kernel_rfl) (by kernel_rfl) (fun _ _ _ h => h) (Or.inr ⟨by rfl, rfl⟩) (by assumption) ?_
              simp only [Act.put, List.setIfInBounds_toArray, List.set_cons_zero, List.set_cons_succ]
              refine takeD 8 (some 174) undef rfl rfl (by kernel_rfl) (by kernel_rfl) (by kernel_rfl) (fun _ _ _ h => h) (Or.inr ⟨by rfl, rfl⟩) (by assumption) ?_
              simp only [Act.put, List.setIfInBounds_toArray, List.set_cons_zero, List.set_cons_succ]
              refine takeD 9 (some 175) undef rfl rfl (by kernel_rfl) (by kernel_rfl) (by kernel_rfl) (fun _ _ _ h => h) (Or.inr ⟨by rfl, rfl⟩) (by assumption) ?_
              simp only [Act.put, List.setIfInBounds_toArray, List.set_cons_zero, List.set_cons_succ]
              refine takeD 10 (some 176) undef rfl rfl (by kernel_rfl) (by kernel_rfl) (by kernel_rfl) (fun _ _ _ h => h) (Or.inr ⟨by rfl, rfl⟩) (by assumption) ?_
              simp only [Act.put, List.setIfInBounds_toArray, List.set_cons_zero, List.set_cons_succ]
              refine takeD 11 (some 177) undef rfl rfl (by kernel_rfl) (by kernel_rfl) (by kernel_rfl) (fun _ _ _ h => h) (Or.inr ⟨by rfl, rfl⟩) (by assumption) ?_
              simp only [Act.put, List.setIfInBounds_toArray, List.set_cons_zero, List.set_cons_succ]
              refine takeD 12 (some 178) undef rfl rfl (by kernel_rfl) (by kernel_rfl) (by kernel_rfl) (fun _ _ _ h => h) (Or.inr ⟨by rfl, rfl⟩) (by assumption) ?_
              simp only [Act.put, List.setIfInBounds_toArray, List.set_cons_zero, List.set_cons_succ]
              refine takeD 13 (some 179) (.bool false) rfl rfl (by kernel_rfl) (by kernel_rfl) (by kernel_rfl) (fun _ _ _ h => h) (Or.inl ⟨by rfl, ?_⟩) (by assumption) ?_
              · intro w hSw; (try dsimp only at hSw); go_simp <;> (intros; omega)
              simp only [Act.put, List.setIfInBounds_toArray, List.set_cons_zero, List.set_cons_succ]
              refine takeD 14 (some 180) (.bool false) rfl rfl (by kernel_rfl) (by kernel_rfl) (by kernel_rfl) (fun _ _ _ h => h) (Or.inl ⟨by rfl, ?_⟩) (by assumption) ?_
              · intro w hSw; (try dsimp only at hSw); go_simp <;> (intros; omega)
              simp only [Act.put, List.setIfInBounds_toArray, List.set_cons_zero, List.set_cons_succ]
              refine takeD 15 (some 181) (.bool false) rfl rfl (by kernel_rfl) (by kernel_rfl) (by kernel_rfl) (fun _ _ _ h => h) (Or.inl ⟨by rfl, ?_⟩) (by assumption) ?_
              · intro w hSw; (try dsimp only at hSw); go_simp <;> (intros; omega)
              simp only [Act.put, List.setIfInBounds_toArray, List.set_cons_zero, List.set_cons_succ]
              refine takeD 16 (some 182) (.bool true) rfl rfl (by kernel_rfl) (by kernel_rfl) (by kernel_rfl) (fun _ _ _ h => h) (Or.inl ⟨by rfl, ?_⟩) (by assumption) ?_
              · intro w hSw; (try dsimp only at hSw); go_simp <;> (intros; omega)
              simp only [Act.put, List.setIfInBounds_toArray, List.set_cons_zero, List.set_cons_succ]
              refine takeD 17 (some 183) (.bool true) rfl rfl (by kernel_rfl) (by kernel_rfl) (by kernel_rfl) (fun _ _ _ h => h) (Or.inl ⟨by rfl, ?_⟩) (by assumption) ?_
              · intro w hSw; (try dsimp only at hSw); go_simp <;> (intros; omega)
              simp only [Act.put, List.setIfInBounds_toArray, List.set_cons_zero, List.set_cons_succ]
              refine takeD 18 (some 184) (.slice (some ⟨g, off, none⟩) L.length cap) rfl rfl (by kernel_rfl) (by kernel_rfl) (by kernel_rfl) (fun _ _ _ h => h) (Or.inl ⟨by rfl, ?_⟩) (by assumption) ?_
              · intro w hSw; (try dsimp only at hSw); go_simp <;> (intros; omega)
              simp only [Act.put, List.setIfInBounds_toArray, List.set_cons_zero, List.set_cons_succ]
              refine takeD 19 (some 185) (.int .i64 (j : Int)) rfl rfl (by kernel_rfl) (by kernel_rfl) (by kernel_rfl) (fun _ _ _ h => h) (Or.inl ⟨by rfl, ?_⟩) (by assumption) ?_
              · intro w hSw; (try dsimp only at hSw); go_simp <;> (intros; omega)
              simp only [Act.put, List.setIfInBounds_toArray, List.set_cons_zero, List.set_cons_succ]
              refine takeD 20 (some 186) (.pointer (some ⟨g, off + j * 5, none⟩)) rfl rfl (by kernel_rfl) (by kernel_rfl) (by kernel_rfl) (fun _ _ _ h => h) (Or.inl ⟨by rfl, ?_⟩) (by assumption) ?_
              · intro w hSw; (try dsimp only at hSw); go_simp <;> (intros; omega)
              simp only [Act.put, List.setIfInBounds_toArray, List.set_cons_zero, List.set_cons_succ]
              refine takeD 21 (some 187) (.pointer (some ⟨g, off + j * 5, none⟩)) rfl rfl (by kernel_rfl) (by kernel_rfl) (by kernel_rfl) (fun _ _ _ h => h) (Or.inl ⟨by rfl, ?_⟩) (by assumption) ?_
              · intro w hSw; (try dsimp only at hSw); go_simp <;> (intros; omega)
              simp only [Act.put, List.setIfInBounds_toArray, List.set_cons_zero, List.set_cons_succ]
              refine takeD 22 (some 188) (.string yo) rfl rfl (by kernel_rfl) (by kernel_rfl) (by kernel_rfl) (fun _ _ _ h => h) (Or.inl ⟨by rfl, ?_⟩) (by assumption) ?_
              · intro w hSw; (try dsimp only at hSw); go_simp <;> (intros; omega)
              simp only [Act.put, List.setIfInBounds_toArray, List.set_cons_zero, List.set_cons_succ]
              refine takeD 23 (some 189) (.pointer (some ⟨w.heap.size, 0, none⟩)) rfl rfl (by kernel_rfl) (by kernel_rfl) (by kernel_rfl) (fun _ _ _ h => h) (Or.inl ⟨by rfl, ?_⟩) (by assumption) ?_
              · intro w hSw; (try dsimp only at hSw); go_simp <;> (intros; omega)
              simp only [Act.put, List.setIfInBounds_toArray, List.set_cons_zero, List.set_cons_succ]
              refine takeD 24 (some 190) (.string xo) rfl rfl (by kernel_rfl) (by kernel_rfl) (by kernel_rfl) (fun _ _ _ h => h) (Or.inl ⟨by rfl, ?_⟩) (by assumption) ?_
              · intro w hSw; (try dsimp only at hSw); go_simp <;> (intros; omega)
              simp only [Act.put, List.setIfInBounds_toArray, List.set_cons_zero, List.set_cons_succ]
              refine wpAnyH_ready (rs := [25]) (by kernel_rfl) (by simp) ?_
              refine AllReadyH.cons rfl (fun K hK => ?_) AllReadyH.nil
              go_simp
              go_at_call 111; refine (HW.out _).mono ?_; rintro e w6 ⟨rfl, hB5⟩; have hB := below_any hB hB5 (by first | exact .inl rfl | exact .inr rfl) hB.size; clear hB5
              go_wp2_with fail
              refine hK.out _ _ (HQ.out _ hB) (fun hHeld => ?_)
              clear hK K
              try simp only [Act.put, List.setIfInBounds_toArray, List.set_cons_zero, List.set_cons_succ]
              refine takeD 26 (some 192) (.bool true) rfl rfl (by kernel_rfl) (by kernel_rfl) (by kernel_rfl) (fun _ _ _ h => h) (Or.inl ⟨by rfl, ?_⟩) (by assumption) ?_
              · intro w hSw; (try dsimp only at hSw); go_simp <;> (intros; omega)
              simp only [Act.put, List.setIfInBounds_toArray, List.set_cons_zero, List.set_cons_succ]
              refine takeD 27 (some 193) (.bool true) rfl rfl (by kernel_rfl) (by kernel_rfl) (by kernel_rfl) (fun _ _ _ h => h) (Or.inl ⟨by rfl, ?_⟩) (by assumption) ?_
              · intro w hSw; (try dsimp only at hSw); go_simp <;> (intros; omega)
              simp only [Act.put, List.setIfInBounds_toArray, List.set_cons_zero, List.set_cons_succ]
              refine wpAnyH_done (by kernel_rfl) ?_ _
              go_wp2_with fail
              go_ret
              exact ⟨by rw [HHH.out]; rfl, HFi.out _ hB⟩
          | false =>
            have HUU := hide' (HU.out (by simp))
            go_wp2_with fail
            go_region_held3 (fun V => (V.cell? ⟨g, off + j * 5, none⟩ = some (.string yo) ∧ V.cell? ⟨g, off + j * 5 + 1, none⟩ = some (.int .i64 yt) ∧ V.cell? ⟨g, off + j * 5 + 2, none⟩ = some (.int .i64 yc) ∧ V.cell? ⟨g, off + j * 5 + 3, none⟩ = some (.int .i64 yl) ∧ V.cell? ⟨g, off + j * 5 + 4, none⟩ = some (.string yd)) ∧ V.cell? ⟨w.heap.size, 0, none⟩ = some (.string xo) ∧ V.cell? ⟨w.heap.size, 1, none⟩ = some (.int .i64 39) ∧ V.cell? ⟨w.heap.size, 2, none⟩ = some (.int .i64 xc) ∧ V.cell? ⟨w.heap.size, 3, none⟩ = some (.int .i64 xl) ∧ V.cell? ⟨w.heap.size, 4, none⟩ = some (.string xd)) (first | go_keep | (with_reducible exact HQ.out _ hB)) ((go_at_call 113; refine (HE.out _).mono ?_; rintro e w5 ⟨rfl, hB5⟩; have hB := below_any hB hB5 (by first | exact .inl rfl | exact .inr rfl) hB.size; clear hB5))
            all_goals
              go_wp2_with fail
              have hB := hB.drew
              obtain ⟨⟨z0, z1, z2, z3, z4⟩, c0, c1, c2, c3, c4⟩ := HQ.out _ hB
              refine wp_region_held_drew (S := (fun V => (V.cell? ⟨g, off + j * 5, none⟩ = some (.string yo) ∧ V.cell? ⟨g, off + j * 5 + 1, none⟩ = some (.int .i64 yt) ∧ V.cell? ⟨g, off + j * 5 + 2, none⟩ = some (.int .i64 yc) ∧ V.cell? ⟨g, off + j * 5 + 3, none⟩ = some (.int .i64 yl) ∧ V.cell? ⟨g, off + j * 5 + 4, none⟩ = some (.string yd)) ∧ V.cell? ⟨w.heap.size, 0, none⟩ = some (.string xo) ∧ V.cell? ⟨w.heap.size, 1, none⟩ = some (.int .i64 39) ∧ V.cell? ⟨w.heap.size, 2, none⟩ = some (.int .i64 xc) ∧ V.cell? ⟨w.heap.size, 3, none⟩ = some (.int .i64 xl) ∧ V.cell? ⟨w.heap.size, 4, none⟩ = some (.string xd))) (by kernel_rfl) ?_ (fun hHeld => ?_)
              · (try dsimp only); go_keep
              refine takeD 0 (some 166) (.int .i64 (j : Int)) rfl rfl (by kernel_rfl) (by kernel_rfl) (by kernel_rfl) (fun _ _ _ h => h) (Or.inl ⟨by rfl, ?_⟩) (by assumption) ?_
              · intro w hSw; (try dsimp only at hSw); go_simp <;> (intros; omega)
              simp only [Act.put, List.setIfInBounds_toArray, List.set_cons_zero, List.set_cons_succ]
              refine takeD 1 (some 167) (.int .i64 (k : Int)) rfl rfl (by kernel_rfl) (by kernel_rfl) (by kernel_rfl) (fun _ _ _ h => h) (Or.inl ⟨by rfl, ?_⟩) (by assumption) ?_
              · intro w hSw; (try dsimp only at hSw); go_simp <;> (intros; omega)
              simp only [Act.put, List.setIfInBounds_toArray, List.set_cons_zero, List.set_cons_succ]
              refine takeD 2 (some 168) (.bool true) rfl rfl (by kernel_rfl) (by kernel_rfl) (by kernel_rfl) (fun _ _ _ h => h) (Or.inl ⟨by rfl, ?_⟩) (by assumption) ?_
              · intro w hSw; (try dsimp only at hSw); go_simp <;> (intros; omega)
              simp only [Act.put, List.setIfInBounds_toArray, List.set_cons_zero, List.set_cons_succ]
              refine takeD 3 (some 169) (.bool true) rfl rfl (by kernel_rfl) (by kernel_rfl) (by kernel_rfl) (fun _ _ _ h => h) (Or.inl ⟨by rfl, ?_⟩) (by assumption) ?_
              · intro w hSw; (try dsimp only at hSw); go_simp <;> (intros; omega)
              simp only [Act.put, List.setIfInBounds_toArray, List.set_cons_zero, List.set_cons_succ]
              refine takeD 4 (some 170) (.bool false) rfl rfl (by kernel_rfl) (by kernel_rfl) (by kernel_rfl) (fun _ _ _ h => h) (Or.inl ⟨by rfl, ?_⟩) (by assumption) ?_
              · intro w hSw; (try dsimp only at hSw); go_simp <;> (intros; omega)
              simp only [Act.put, List.setIfInBounds_toArray, List.set_cons_zero, List.set_cons_succ]
              refine takeD 5 (some 171) (.bool false) rfl rfl (by kernel_rfl) (by kernel_rfl) (by kernel_rfl) (fun _ _ _ h => h) (Or.inl ⟨by rfl, ?_⟩) (by assumption) ?_
              · intro w hSw; (try dsimp only at hSw); go_simp <;> (intros; omega)
              simp only [Act.put, List.setIfInBounds_toArray, List.set_cons_zero, List.set_cons_succ]
              refine takeD 6 (some 172) (.bool false) rfl rfl (by kernel_rfl) (by kernel_rfl) (by kernel_rfl) (fun _ _ _ h => h) (Or.inl ⟨by rfl, ?_⟩) (by assumption) ?_
              · intro w hSw; (try dsimp only at hSw); go_simp <;> (intros; omega)
              simp only [Act.put, List.setIfInBounds_toArray, List.set_cons_zero, List.set_cons_succ]
              refine takeD 7 (some 173) undef rfl rfl (by kernel_rfl) (by kernel_rfl) (by kernel_rfl) (fun _ _ _ h => h) (Or.inr ⟨by rfl, rfl⟩) (by assumption) ?_
              simp only [Act.put, List.setIfInBounds_toArray, List.set_cons_zero, List.set_cons_succ]
              refine takeD 8 (some 174) undef rfl rfl (by kernel_rfl) (by kernel_rfl) (by kernel_rfl) (fun _ _ _ h => h) (Or.inr ⟨by rfl, rfl⟩) (by assumption) ?_
              simp only [Act.put, List.setIfInBounds_toArray, List.set_cons_zero, List.set_cons_succ]
              refine takeD 9 (some 175) undef rfl rfl (by kernel_rfl) (by kernel_rfl) (by kernel_rfl) (fun _ _ _ h => h) (Or.inr ⟨by rfl, rfl⟩) (by assumption) ?_
              simp only [Act.put, List.setIfInBounds_toArray, List.set_cons_zero, List.set_cons_succ]
              refine takeD 10 (some 176) undef rfl rfl (by kernel_rfl) (by kernel_rfl) (by kernel_rfl) (fun _ _ _ h => h) (Or.inr ⟨by rfl, rfl⟩) (by assumption) ?_
              simp only [Act.put, List.setIfInBounds_toArray, List.set_cons_zero, List.set_cons_succ]
              refine takeD 11 (some 177) undef rfl rfl (by kernel_rfl) (by kernel_rfl) (by kernel_rfl) (fun _ _ _ h => h) (Or.inr ⟨by rfl, rfl⟩) (by assumption) ?_
              simp only [Act.put, List.setIfInBounds_toArray, List.set_cons_zero, List.set_cons_succ]
              refine takeD 12 (some 178) undef rfl rfl (by kernel_rfl) (by kernel_rfl) (by kernel_rfl) (fun _ _ _ h => h) (Or.inr ⟨by rfl, rfl⟩) (by assumption) ?_
              simp only [Act.put, List.setIfInBounds_toArray, List.set_cons_zero, List.set_cons_succ]
              refine takeD 13 (some 179) (.bool false) rfl rfl (by kernel_rfl) (by kernel_rfl) (by kernel_rfl) (fun _ _ _ h => h) (Or.inl ⟨by rfl, ?_⟩) (by assumption) ?_
              · intro w hSw; (try dsimp only at hSw); go_simp <;> (intros; omega)
              simp only [Act.put, List.setIfInBounds_toArray, List.set_cons_zero, List.set_cons_succ]
              refine takeD 14 (some 180) (.bool false) rfl rfl (by kernel_rfl) (by kernel_rfl) (by kernel_rfl) (fun _ _ _ h => h) (Or.inl ⟨by rfl, ?_⟩) (by assumption) ?_
              · intro w hSw; (try dsimp only at hSw); go_simp <;> (intros; omega)
              simp only [Act.put, List.setIfInBounds_toArray, List.set_cons_zero, List.set_cons_succ]
              refine takeD 15 (some 181) (.bool false) rfl rfl (by kernel_rfl) (by kernel_rfl) (by kernel_rfl) (fun _ _ _ h => h) (Or.inl ⟨by rfl, ?_⟩) (by assumption) ?_
              · intro w hSw; (try dsimp only at hSw); go_simp <;> (intros; omega)
              simp only [Act.put, List.setIfInBounds_toArray, List.set_cons_zero, List.set_cons_succ]
              refine takeD 16 (some 182) (.bool true) rfl rfl (by kernel_rfl) (by kernel_rfl) (by kernel_rfl) (fun _ _ _ h => h) (Or.inl ⟨by rfl, ?_⟩) (by assumption) ?_
              · intro w hSw; (try dsimp only at hSw); go_simp <;> (intros; omega)
              simp only [Act.put, List.setIfInBounds_toArray, List.set_cons_zero, List.set_cons_succ]
              refine takeD 17 (some 183) (.bool true) rfl rfl (by kernel_rfl) (by kernel_rfl) (by kernel_rfl) (fun _ _ _ h => h) (Or.inl ⟨by rfl, ?_⟩) (by assumption) ?_
              · intro w hSw; (try dsimp only at hSw); go_simp <;> (intros; omega)
              simp only [Act.put, List.setIfInBounds_toArray, List.set_cons_zero, List.set_cons_succ]
              refine takeD 18 (some 184) (.slice (some ⟨g, off, none⟩) L.length cap) rfl rfl (by kernel_rfl) (by kernel_rfl) (by kernel_rfl) (fun _ _ _ h => h) (Or.inl ⟨by rfl, ?_⟩) (by assumption) ?_
              · intro w hSw; (try dsimp only at hSw); go_simp <;> (intros; omega)
              simp only [Act.put, List.setIfInBounds_toArray, List.set_cons_zero, List.set_cons_succ]
              refine takeD 19 (some 185) (.int .i64 (j : Int)) rfl rfl (by kernel_rfl) (by kernel_rfl) (by kernel_rfl) (fun _ _ _ h => h) (Or.inl ⟨by rfl, ?_⟩) (by assumption) ?_
              · intro w hSw; (try dsimp only at hSw); go_simp <;> (intros; omega)
              simp only [Act.put, List.setIfInBounds_toArray, List.set_cons_zero, List.set_cons_succ]
              refine takeD 20 (some 186) (.pointer (some ⟨g, off + j * 5, none⟩)) rfl rfl (by kernel_rfl) (by kernel_rfl) (by kernel_rfl) (fun _ _ _ h => h) (Or.inl ⟨by rfl, ?_⟩) (by assumption) ?_
              · intro w hSw; (try dsimp only at hSw); go_simp <;> (intros; omega)
              simp only [Act.put, List.setIfInBounds_toArray, List.set_cons_zero, List.set_cons_succ]
              refine takeD 21 (some 187) (.pointer (some ⟨g, off + j * 5, none⟩)) rfl rfl (by kernel_rfl) (by kernel_rfl) (by kernel_rfl) (fun _ _ _ h => h) (Or.inl ⟨by rfl, ?_⟩) (by assumption) ?_
              · intro w hSw; (try dsimp only at hSw); go_simp <;> (intros; omega)
              simp only [Act.put, List.setIfInBounds_toArray, List.set_cons_zero, List.set_cons_succ]
              refine takeD 22 (some 188) (.string yo) rfl rfl (by kernel_rfl) (by kernel_rfl) (by kernel_rfl) (fun _ _ _ h => h) (Or.inl ⟨by rfl, ?_⟩) (by assumption) ?_
              · intro w hSw; (try dsimp only at hSw); go_simp <;> (intros; omega)
              simp only [Act.put, List.setIfInBounds_toArray, List.set_cons_zero, List.set_cons_succ]
              refine takeD 23 (some 189) (.pointer (some ⟨w.heap.size, 0, none⟩)) rfl rfl (by kernel_rfl) (by kernel_rfl) (by kernel_rfl) (fun _ _ _ h => h) (Or.inl ⟨by rfl, ?_⟩) (by assumption) ?_
              · intro w hSw; (try dsimp only at hSw); go_simp <;> (intros; omega)
              simp only [Act.put, List.setIfInBounds_toArray, List.set_cons_zero, List.set_cons_succ]
              refine takeD 24 (some 190) (.string xo) rfl rfl (by kernel_rfl) (by kernel_rfl) (by kernel_rfl) (fun _ _ _ h => h) (Or.inl ⟨by rfl, ?_⟩) (by assumption) ?_
              · intro w hSw; (try dsimp only at hSw); go_simp <;> (intros; omega)
              simp only [Act.put, List.setIfInBounds_toArray, List.set_cons_zero, List.set_cons_succ]
              refine wpAnyH_ready (rs := [25]) (by kernel_rfl) (by simp) ?_
              refine AllReadyH.cons rfl (fun K hK => ?_) AllReadyH.nil
              go_simp
              go_at_call 111; refine (HW.out _).mono ?_; rintro e w6 ⟨rfl, hB5⟩; have hB := below_any hB hB5 (by first | exact .inl rfl | exact .inr rfl) hB.size; clear hB5
              go_wp2_with fail
              refine hK.out _ _ (HQ.out _ hB) (fun hHeld => ?_)
              clear hK K
              try simp only [Act.put, List.setIfInBounds_toArray, List.set_cons_zero, List.set_cons_succ]
              refine takeD 26 (some 192) (.bool false) rfl rfl (by kernel_rfl) (by kernel_rfl) (by kernel_rfl) (fun _ _ _ h => h) (Or.inl ⟨by rfl, ?_⟩) (by assumption) ?_
              · intro w hSw; (try dsimp only at hSw); go_simp <;> (intros; omega)
              simp only [Act.put, List.setIfInBounds_toArray, List.set_cons_zero, List.set_cons_succ]
              refine takeD 27 (some 193) (.bool false) rfl rfl (by kernel_rfl) (by kernel_rfl) (by kernel_rfl) (fun _ _ _ h => h) (Or.inl ⟨by rfl, ?_⟩) (by assumption) ?_
              · intro w hSw; (try dsimp only at hSw); go_simp <;> (intros; omega)
              simp only [Act.put, List.setIfInBounds_toArray, List.set_cons_zero, List.set_cons_succ]
              refine wpAnyH_done (by kernel_rfl) ?_ _
              go_wp2_with fail
              exact ⟨⟨j + 1, by go_num, by omega, HUU, HBn.out _ hB⟩, by simp [intOf]; omega⟩
    · obtain rfl : j = L.length := by omega
      have HZ := hide' (any_not HN.out)
      go_wp2_with (go_at_call 113; refine (HEA.out _).mono ?_; rintro e w5 ⟨rfl, hB5⟩)
      go_ret
      exact ⟨by rw [HZ.out]; rfl, bstep HBl.out hB5 HBl.out.size⟩
end Go.Proofs.YtoabnpdoicbpiaaGreat
