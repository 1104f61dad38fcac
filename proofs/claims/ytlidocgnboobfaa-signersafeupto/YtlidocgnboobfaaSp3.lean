import Derived.Test.YtlidocgnboobfaaSp2
/-
  Chapter 7: the plan of a time, of the reference. (The verifier's own text.)
-/
namespace Go.Proofs.Ytlidocgnboobfaa
set_option linter.unusedVariables false
set_option linter.unusedSimpArgs false
open Go.RowKit Go.Shelf Go.Proofs.Ytlidocgnboobfaa.Nm

theorem planK_yes (L : List Tk) (k : Tk) (t : Int) (h1 : k.p ≤ t) (h2 : t < k.x) : planK (L ++ [k]) t = planK L t ++ [⟨k.f, k.m, k.e, k.s, signs k t⟩] := by
  rw [planK_snoc, if_pos (by simp [told, h1, h2])]
theorem planK_no (L : List Tk) (k : Tk) (t : Int) (h : ¬ (k.p ≤ t ∧ t < k.x)) : planK (L ++ [k]) t = planK L t := by
  rw [planK_snoc, if_neg (by simpa [told] using h), List.append_nil]
set_option maxRecDepth 100000 in
set_option maxHeartbeats 1000000 in
/-- the reference's PlanAt -/
theorem refPlanAt_any (L : List Tk) (p : Option Addr) (cap : Nat) (q0 : Option Addr) (n0 c0 : Nat) (kb : Bool) (ks : ByteArray) (i3 i4 i5 i6 : Int) (t : Int) (w : World) (hL : L.length ≤ 1048576) (hat : TsAt w p L) :
    Calls Try.prog 7 #[.slice p L.length cap, .agg #[.slice q0 n0 c0, .bool kb, .string ks, .int .i64 i3, .int .i64 i4, .int .i64 i5, .int .i64 i6], .int .i64 t] w fun r w' => ∃ v, r = .returned (.agg #[v, .bool kb, .string ks, .int .i64 i3, .int .i64 i4, .int .i64 i5, .int .i64 i6]) ∧ w'.ownsRow w.heap.size 32 5 v (planK L t).length (rowV pnV (planK L t)) ∧ Below w.heap.size w w' := by
  have HA := hide' hat
  clear hat
  go_enter Try.func7, Try.ntmps7
  go_wp2_with fail
  go_loopw [14] (fun i wr => ∃ (n : Nat) (v : Value), i = .int .i64 (n : Int) ∧ n ≤ L.length ∧ Bx wr (w.heap.size + 1 + 1) #[v, .bool kb, .string ks, .int .i64 i3, .int .i64 i4, .int .i64 i5, .int .i64 i6] 25 ∧ Bx wr (w.heap.size + 1) #[.slice none 0 0, .bool false, .string ⟨#[]⟩, .int .i64 0, .int .i64 0, .int .i64 0, .int .i64 0] 25 ∧ wr.ownsRow (w.heap.size + 3) 32 5 v (planK (L.take n) t).length (rowV pnV (planK (L.take n) t)) ∧ Below w.heap.size w wr) (fun i _ => L.length - (intOf i).toNat)
  case atStart => exact ⟨0, _, rfl, Nat.zero_le _, by simpa using bxNew ((w.alloc (.cells #[.slice q0 n0 c0, .bool kb, .string ks, .int .i64 i3, .int .i64 i4, .int .i64 i5, .int .i64 i6] 25)).alloc (.cells #[.slice none 0 0, .bool false, .string ⟨#[]⟩, .int .i64 0, .int .i64 0, .int .i64 0, .int .i64 0] 25)) _ _, by simpa using (bxNew (w.alloc (.cells #[.slice q0 n0 c0, .bool kb, .string ks, .int .i64 i3, .int .i64 i4, .int .i64 i5, .int .i64 i6] 25)) _ _).al _, by simpa [planK, rowV] using row_nil _ _ _ _, (((Below.refl _ _).alloc (Nat.le_refl _) _).alloc (by simp) _).alloc (by simp; omega) _⟩
  case round =>
    obtain ⟨n, v, rfl, hn, hb0, hb1, hown, hBr⟩ := hrel
    have HBr := hide' hBr
    have HB0 := hide' hb0
    have HB1 := hide' hb1
    have HO := hide' hown
    by_cases hlt : n < L.length
    · obtain ⟨g, off, rfl, hg, e0, e1, e2, e3, e4, e5, e6, e7⟩ := TsAt.cells (row_below' HA.out hBr) n hlt
      obtain ⟨x, hx⟩ : ∃ x, L[n] = x := ⟨_, rfl⟩
      have HX := hide' (show L.take (n + 1) = L.take n ++ [x] by rw [List.take_add_one, List.getElem?_eq_getElem hlt, hx]; rfl)
      have HLN : Hid ((planK (L.take n) t).length ≤ n) := Nat.le_trans (planK_le _ _) (by rw [List.length_take]; omega)
      rw [hx] at e0 e1 e2 e3 e4 e5 e6 e7
      clear hx hBr hb0 hb1 hown
      have HPY := hide' (planK_yes (L.take n) x t)
      have HPN := hide' (planK_no (L.take n) x t)
      rw [← HX.out] at HPY HPN
      have HO' := hide' HO.out
      generalize hK0 : planK (L.take n) t = K0 at *
      clear HO HX hK0
      obtain ⟨f, m, e, s, pp, a, r, xx⟩ := x
      dsimp only [signs] at e0 e1 e2 e3 e4 e5 e6 e7 HPY HPN
      obtain ⟨i0, hi, hz0, hz1, hz2⟩ := info_parts infoPn
      have HOA : Hid (∀ o, ((wr.alloc (.cells #[.int .i64 f, .int .i64 m, .int .i64 e, .int .i64 s, .int .i64 pp, .int .i64 a, .int .i64 r, .int .i64 xx] 44)).alloc o).ownsRow (w.heap.size + 3) 32 5 v K0.length (rowV pnV K0)) := fun o => row_bel HO'.out (((Below.refl _ _).alloc (Nat.le_refl _) _).alloc (by simp) _) (Nat.le_refl _)
      have HLA : Hid (∀ o, w.heap.size + 3 ≤ ((wr.alloc (.cells #[.int .i64 f, .int .i64 m, .int .i64 e, .int .i64 s, .int .i64 pp, .int .i64 a, .int .i64 r, .int .i64 xx] 44)).alloc o).heap.size) := fun o => by have := HB0.out.lt; simp; omega
      have HGA : Hid (∀ o w6, ((wr.alloc (.cells #[.int .i64 f, .int .i64 m, .int .i64 e, .int .i64 s, .int .i64 pp, .int .i64 a, .int .i64 r, .int .i64 xx] 44)).alloc o).grownBy w6 v.ownBlock → Below w.heap.size w w6 ∧ Bx w6 (w.heap.size + 1 + 1) #[v, .bool kb, .string ks, .int .i64 i3, .int .i64 i4, .int .i64 i5, .int .i64 i6] 25 ∧ Bx w6 (w.heap.size + 1) #[.slice none 0 0, .bool false, .string ⟨#[]⟩, .int .i64 0, .int .i64 0, .int .i64 0, .int .i64 0] 25) := by
        intro o w6 hg
        have hr := HO'.out.lt
        exact ⟨((HBr.out.alloc HBr.out.size _).alloc (by have := HBr.out.size; simp; omega) _).grown hg (by have := HBr.out.size; simp; omega) (fun k e => by have := (hr k e).1; omega), ((HB0.out.al _).al _).grown hg (fun e => by have := (hr _ e).1; omega), ((HB1.out.al _).al _).grown hg (fun e => by have := (hr _ e).1; omega)⟩
      have HW0 : Hid (Bx (wr.alloc (.cells #[.int .i64 f, .int .i64 m, .int .i64 e, .int .i64 s, .int .i64 pp, .int .i64 a, .int .i64 r, .int .i64 xx] 44)) (w.heap.size + 1 + 1) #[v, .bool kb, .string ks, .int .i64 i3, .int .i64 i4, .int .i64 i5, .int .i64 i6] 25 ∧ Bx (wr.alloc (.cells #[.int .i64 f, .int .i64 m, .int .i64 e, .int .i64 s, .int .i64 pp, .int .i64 a, .int .i64 r, .int .i64 xx] 44)) (w.heap.size + 1) #[.slice none 0 0, .bool false, .string ⟨#[]⟩, .int .i64 0, .int .i64 0, .int .i64 0, .int .i64 0] 25 ∧ (wr.alloc (.cells #[.int .i64 f, .int .i64 m, .int .i64 e, .int .i64 s, .int .i64 pp, .int .i64 a, .int .i64 r, .int .i64 xx] 44)).ownsRow (w.heap.size + 3) 32 5 v K0.length (rowV pnV K0) ∧ Below w.heap.size w (wr.alloc (.cells #[.int .i64 f, .int .i64 m, .int .i64 e, .int .i64 s, .int .i64 pp, .int .i64 a, .int .i64 r, .int .i64 xx] 44))) := ⟨HB0.out.al _, HB1.out.al _, row_bel HO'.out ((Below.refl _ _).alloc (Nat.le_refl _) _) (Nat.le_refl _), HBr.out.alloc HBr.out.size _⟩
      have HBW := hide' HB0.out.lt
      have y0 : ∀ o, (wr.alloc o).cell? ⟨w.heap.size + 1 + 1, 0, none⟩ = some v := fun o => (HB0.out.al o).cell rfl
      clear HO' HB0 HB1
      by_cases h1 : pp ≤ t
      · by_cases h2 : t < xx
        · obtain ⟨sg, hsg⟩ : ∃ sg, (decide (a ≤ t) && decide (t < r)) = sg := ⟨_, rfl⟩
          have HPK := hide' (HPY.out h1 h2)
          rw [hsg] at HPK
          clear HPY HPN
          by_cases h3 : a ≤ t
          · by_cases h4 : t < r
            · obtain rfl : true = sg := by rw [← hsg, decide_eq_true h3, decide_eq_true h4]; rfl
              clear hsg
              go_wp2_with (at_builtin; refine wpList_append_lies _ rfl _ _ 23 rfl (w.heap.size + 3) 32 i0 (.agg #[.int .i64 0, .int .i64 0, .int .i64 0, .int .i64 0, .bool false]) 5 40 Try.underlying23 hi hz0 hz1 hz2 rfl (by decide) v K0.length (rowV pnV K0) rfl (HOA.out _) ⟨_, 0, none⟩ 1 1 (pnV ⟨f, m, e, s, true⟩) rfl rfl (World.news_of_block (bxAt _ #[.int .i64 f, .int .i64 m, .int .i64 e, .int .i64 s, .bool true] 32 _ (by simp))) (pnV_one _) (by decide) (by have := HLN.out; unfold maxLen; omega) (by have := HLN.out; omega) (HLA.out _) _ rfl ?_; intro g6 cap6 w6 hown6 hgrow6 hpl6 hlt6; have E4 := hide' (HGA.out _ _ hgrow6); have HO6 := hide' hown6; have z0 : w6.cell? ⟨w.heap.size + 1 + 1, 0, none⟩ = some v := E4.out.2.1.cell rfl; have z1 : w6.frozen? ⟨w.heap.size + 1 + 1, 0, none⟩ = false := E4.out.2.1.free 0; clear hown6 hgrow6 hpl6 hlt6)
              obtain ⟨E0, E1, E2⟩ := E4.out
              have EO := HO6.out
              have hx0 := E1.set 0 (.slice (some ⟨g6, 0, none⟩) (K0.length + 1) cap6)
              refine ⟨⟨n + 1, _, by go_num, by omega, by simpa using hx0, E2.far (by omega) _, ?_, E0.setCell (p := ⟨w.heap.size + 1 + 1, 0, none⟩) (by show w.heap.size ≤ w.heap.size + 1 + 1; omega) _⟩, by simp [intOf]; omega⟩
              rw [HPK.out, rowV_app, List.length_append]
              have hge := (EO.lt g6 rfl).1
              exact row_blk EO fun g eg _ _ => Below.heap_setCell _ _ _ g (by
                have hgg : g6 = g := by simpa [Value.ownBlock] using eg
                subst hgg
                show g6 ≠ w.heap.size + 1 + 1
                omega)
            · obtain rfl : false = sg := by rw [← hsg, decide_eq_false h4, Bool.and_false]
              clear hsg
              go_wp2_with (at_builtin; refine wpList_append_lies _ rfl _ _ 23 rfl (w.heap.size + 3) 32 i0 (.agg #[.int .i64 0, .int .i64 0, .int .i64 0, .int .i64 0, .bool false]) 5 40 Try.underlying23 hi hz0 hz1 hz2 rfl (by decide) v K0.length (rowV pnV K0) rfl (HOA.out _) ⟨_, 0, none⟩ 1 1 (pnV ⟨f, m, e, s, false⟩) rfl rfl (World.news_of_block (bxAt _ #[.int .i64 f, .int .i64 m, .int .i64 e, .int .i64 s, .bool false] 32 _ (by simp))) (pnV_one _) (by decide) (by have := HLN.out; unfold maxLen; omega) (by have := HLN.out; omega) (HLA.out _) _ rfl ?_; intro g6 cap6 w6 hown6 hgrow6 hpl6 hlt6; have E4 := hide' (HGA.out _ _ hgrow6); have HO6 := hide' hown6; have z0 : w6.cell? ⟨w.heap.size + 1 + 1, 0, none⟩ = some v := E4.out.2.1.cell rfl; have z1 : w6.frozen? ⟨w.heap.size + 1 + 1, 0, none⟩ = false := E4.out.2.1.free 0; clear hown6 hgrow6 hpl6 hlt6)
              obtain ⟨E0, E1, E2⟩ := E4.out
              have EO := HO6.out
              have hx0 := E1.set 0 (.slice (some ⟨g6, 0, none⟩) (K0.length + 1) cap6)
              refine ⟨⟨n + 1, _, by go_num, by omega, by simpa using hx0, E2.far (by omega) _, ?_, E0.setCell (p := ⟨w.heap.size + 1 + 1, 0, none⟩) (by show w.heap.size ≤ w.heap.size + 1 + 1; omega) _⟩, by simp [intOf]; omega⟩
              rw [HPK.out, rowV_app, List.length_append]
              have hge := (EO.lt g6 rfl).1
              exact row_blk EO fun g eg _ _ => Below.heap_setCell _ _ _ g (by
                have hgg : g6 = g := by simpa [Value.ownBlock] using eg
                subst hgg
                show g6 ≠ w.heap.size + 1 + 1
                omega)
          · obtain rfl : false = sg := by rw [← hsg, decide_eq_false h3]; rfl
            clear hsg
            go_wp2_with (at_builtin; refine wpList_append_lies _ rfl _ _ 23 rfl (w.heap.size + 3) 32 i0 (.agg #[.int .i64 0, .int .i64 0, .int .i64 0, .int .i64 0, .bool false]) 5 40 Try.underlying23 hi hz0 hz1 hz2 rfl (by decide) v K0.length (rowV pnV K0) rfl (HOA.out _) ⟨_, 0, none⟩ 1 1 (pnV ⟨f, m, e, s, false⟩) rfl rfl (World.news_of_block (bxAt _ #[.int .i64 f, .int .i64 m, .int .i64 e, .int .i64 s, .bool false] 32 _ (by simp))) (pnV_one _) (by decide) (by have := HLN.out; unfold maxLen; omega) (by have := HLN.out; omega) (HLA.out _) _ rfl ?_; intro g6 cap6 w6 hown6 hgrow6 hpl6 hlt6; have E4 := hide' (HGA.out _ _ hgrow6); have HO6 := hide' hown6; have z0 : w6.cell? ⟨w.heap.size + 1 + 1, 0, none⟩ = some v := E4.out.2.1.cell rfl; have z1 : w6.frozen? ⟨w.heap.size + 1 + 1, 0, none⟩ = false := E4.out.2.1.free 0; clear hown6 hgrow6 hpl6 hlt6)
            obtain ⟨E0, E1, E2⟩ := E4.out
            have EO := HO6.out
            have hx0 := E1.set 0 (.slice (some ⟨g6, 0, none⟩) (K0.length + 1) cap6)
            refine ⟨⟨n + 1, _, by go_num, by omega, by simpa using hx0, E2.far (by omega) _, ?_, E0.setCell (p := ⟨w.heap.size + 1 + 1, 0, none⟩) (by show w.heap.size ≤ w.heap.size + 1 + 1; omega) _⟩, by simp [intOf]; omega⟩
            rw [HPK.out, rowV_app, List.length_append]
            have hge := (EO.lt g6 rfl).1
            exact row_blk EO fun g eg _ _ => Below.heap_setCell _ _ _ g (by
              have hgg : g6 = g := by simpa [Value.ownBlock] using eg
              subst hgg
              show g6 ≠ w.heap.size + 1 + 1
              omega)
        · have HPK := hide' (HPN.out (fun hh => h2 hh.2))
          clear HPY HPN
          go_wp2_with fail
          have hW0 := HW0.out
          refine ⟨⟨n + 1, v, by go_num, by omega, hW0.1, hW0.2.1, ?_, hW0.2.2.2⟩, by simp [intOf]; omega⟩
          rw [HPK.out]
          exact hW0.2.2.1
      · have HPK := hide' (HPN.out (fun hh => h1 hh.1))
        clear HPY HPN
        go_wp2_with fail
        have hW0 := HW0.out
        refine ⟨⟨n + 1, v, by go_num, by omega, hW0.1, hW0.2.1, ?_, hW0.2.2.2⟩, by simp [intOf]; omega⟩
        rw [HPK.out]
        exact hW0.2.2.1
    · obtain rfl : n = L.length := by omega
      obtain ⟨pv, cv, rfl, _, _, _⟩ := own_shape HO.out
      obtain ⟨q0, q1, q2, q3, q4, q5, q6⟩ := bx7 HB0.out
      obtain ⟨r0, r1, r2, r3, r4, r5, r6⟩ := bx7 HB1.out
      have f0 := HB1.out.free 0
      have f1 := HB1.out.free 1
      have f2 := HB1.out.free 2
      have f3 := HB1.out.free 3
      have f4 := HB1.out.free 4
      have f5 := HB1.out.free 5
      have f6 := HB1.out.free 6
      have HF := hide' (((((((HB1.out.set 0 (.slice pv (planK (L.take L.length) t).length cv)).set 1 (.bool kb)).set 2 (.string ks)).set 3 (.int .i64 i3)).set 4 (.int .i64 i4)).set 5 (.int .i64 i5)).set 6 (.int .i64 i6))
      clear hBr hb0 hb1 hown
      rw [List.take_length] at HO HF
      go_wp2_with fail
      have hF := HF.out
      simp only [List.setIfInBounds_toArray, List.set_cons_zero, List.set_cons_succ] at hF
      obtain ⟨z0, z1, z2, z3, z4, z5, z6⟩ := bx7 hF
      refine bodyPost_ret (v := .agg #[.slice pv (planK L t).length cv, .bool kb, .string ks, .int .i64 i3, .int .i64 i4, .int .i64 i5, .int .i64 i6]) (by simp [results, go_sem, z0, z1, z2, z3, z4, z5, z6]) rfl ?_
      refine ⟨_, rfl, row_lower (row_blk HO.out fun g _ hg _ => ?_) (by omega), ?_⟩
      · have hne : g ≠ w.heap.size + 1 := by omega
        rw [Below.heap_setCell _ _ _ g hne, Below.heap_setCell _ _ _ g hne, Below.heap_setCell _ _ _ g hne, Below.heap_setCell _ _ _ g hne, Below.heap_setCell _ _ _ g hne, Below.heap_setCell _ _ _ g hne, Below.heap_setCell _ _ _ g hne]
      · have hx := HBr.out
        exact ((((((hx.setCell (p := ⟨w.heap.size + 1, 0, none⟩) (Nat.le_succ _) _).setCell (p := ⟨w.heap.size + 1, 1, none⟩) (Nat.le_succ _) _).setCell (p := ⟨w.heap.size + 1, 2, none⟩) (Nat.le_succ _) _).setCell (p := ⟨w.heap.size + 1, 3, none⟩) (Nat.le_succ _) _).setCell (p := ⟨w.heap.size + 1, 4, none⟩) (Nat.le_succ _) _).setCell (p := ⟨w.heap.size + 1, 5, none⟩) (Nat.le_succ _) _).setCell (p := ⟨w.heap.size + 1, 6, none⟩) (Nat.le_succ _) _
end Go.Proofs.Ytlidocgnboobfaa
