import Derived.Test.YtbcefnfbofpjgaaShw
namespace Go.Proofs.Ytbcefnfbofpjgaa
set_option linter.unusedVariables false
open Go.RowKit Go.Shelf Nm

theorem extract_one {X : ByteArray} {k : Nat} (h : k < X.size) : X.extract k (k + 1) = bts [bt X k] := by
  apply ba_ext
  · rw [size_extract' _ _ _ (by omega), bts_size]; simp
  · intro j hj
    rw [size_extract' _ _ _ (by omega)] at hj
    have : j = 0 := by omega
    subst this
    rw [bt_extract _ _ _ _ (by omega) (by omega), bts_bt _ (by intro x hx; simp at hx; rw [hx]; exact bt_lt X k) 0 (by simp)]
    rfl
theorem add_bts (W : World) (l m : List Nat) (h : l.length + m.length ≤ 4294967296) : (Op.stringOp .add (bts l) (bts m)).run Try.prog W = .ok (.string (bts (l ++ m))) W := by
  rw [bts_append]; exact run_string_add_sum W _ _ (by rw [bts_size, bts_size]; omega)

set_option maxRecDepth 100000 in
set_option maxHeartbeats 2000000 in
/-- gazetteerref1.ShowName -/
theorem showName_any (s : ByteArray) (w : World) (hs : s.size ≤ 1048576) :
    Calls Try.prog 11 #[.string s] w fun e w' => e = .returned (.string (showB s)) ∧ Below w.heap.size w w' := by
  cases hN : isN s with
  | false =>
    have HT : Hid (showB s = ByteArray.empty) := showB_no hN
    go_enter Try.func11, Try.ntmps11
    go_wp2_with (go_at_call 23; refine (split_no s _ hs hN).mono ?_; rintro e w1 ⟨v, rfl, hB1⟩)
    go_ret
    exact ⟨by rw [HT.out]; rfl, hB1⟩
  | true =>
    have hl := labs_len_le hN
    by_cases h0 : (labs s).length = 0
    · have HT : Hid (showB s = bts [46]) := showB_root hN h0
      have h0' : (((labs s).length : Int) == 0) = true := by rw [beq_iff_eq]; omega
      clear h0
      go_enter Try.func11, Try.ntmps11
      go_wp2_with (go_at_call 23; refine (split_yes s _ hs hN).mono ?_; rintro e w1 ⟨p, cap, rfl, _, hB1⟩)
      go_ret
      exact ⟨by rw [HT.out]; rfl, hB1⟩
    · have HT : Hid (showB s = bts (shAll (labs s))) := showB_yes hN (by omega)
      have h0' : (((labs s).length : Int) == 0) = false := by rw [beq_eq_false_iff_ne]; omega
      have HM : Hid (∀ x ∈ labs s, x.size ≤ 63) := fun x hx => (labs_mem hx).2
      have HLEN : Hid (∀ i, (shAll ((labs s).take i)).length ≤ 1020) := by
        intro i
        have h1 := shAll_len ((labs s).take i)
        have h2 := chunks_size_take (labs s) i
        have h3 := putB_size (labs s)
        rw [putB_labs hN] at h3
        have h4 := ((isN_iff s).1 hN).1
        omega
      clear h0
      go_enter Try.func11, Try.ntmps11
      go_wp2_with (go_at_call 23; refine (split_yes s _ hs hN).mono ?_; rintro e w1 ⟨p, cap, rfl, ⟨hc, _⟩, hB1⟩)
      go_loopw [5, 21] (fun sv i wr => ∃ k : Nat, i = .int .i64 k ∧ k ≤ (labs s).length ∧ sv = .string (bts (shAll ((labs s).take k))) ∧ Below w1.heap.size w1 wr)
        (fun _ i _ => (labs s).length - (intOf i).toNat)
      case atStart => exact ⟨0, rfl, Nat.zero_le _, rfl, Below.refl _ _⟩
      case round =>
        obtain ⟨k, rfl, hk, rfl, hB⟩ := hrel
        by_cases hlt : k < (labs s).length
        · obtain ⟨g, off, rfl, hg, hcell0⟩ := hc k hlt
          have hcell := (hB.cell (p := ⟨g, off + k, none⟩) hg).trans hcell0
          have hx63 := HM.out _ (List.getElem_mem hlt)
          have HSN : Hid (shAll ((labs s).take (k + 1)) = shAll ((labs s).take k) ++ shLab (labs s)[k]) := by
            unfold Hid; rw [List.take_succ_eq_append_getElem hlt, shAll_snoc]
          have HA : Hid ((shAll ((labs s).take k)).length ≤ 1020) := HLEN.out k
          generalize (labs s)[k] = X at *
          generalize hAc : shAll ((labs s).take k) = A at *
          have HAc : Hid (shAll ((labs s).take k) = A) := hAc
          clear hcell0 hAc
          obtain ⟨wo, rfl⟩ : ∃ wo, wo = wr := ⟨_, rfl⟩
          go_wp2
          go_loopw [5, 8] (fun sv i wr => ∃ j : Nat, i = .int .i64 j ∧ j ≤ X.size ∧ sv = .string (bts (A ++ shTo X j)) ∧ Below w1.heap.size w1 wr)
            (fun _ i _ => X.size - (intOf i).toNat)
          case atStart => exact ⟨0, rfl, Nat.zero_le _, by simp [shTo], hB⟩
          case round =>
            obtain ⟨j, rfl, hj, rfl, hBr⟩ := hrel
            have HTL : Hid ((shTo X j).length ≤ 4 * j) := shTo_len X j
            by_cases hjlt : j < X.size
            · obtain ⟨y, hy, HY, hy256⟩ := bt_wrap hjlt
              have HE : Hid (X.extract j (j + 1) = bts [y]) := by unfold Hid; rw [extract_one hjlt, HY]
              have HST : Hid (A ++ shTo X j ++ shL y = A ++ shTo X (j + 1)) := by unfold Hid; rw [← HY]; simp [shTo]
              have hex : ∀ W : World, (Op.stringOp .add (bts (A ++ shTo X j)) (bts (shL y))).run Try.prog W = .ok (.string (bts (A ++ shTo X (j + 1)))) W := fun W => by
                rw [← HST.out]
                refine add_bts W _ _ ?_
                have := HA.out; have := HTL.out; have := (shL_len y).2
                rw [List.length_append]; omega
              clear HY
              cases hm : amB marks y with
              | true =>
                have HS := shL_marked hm
                rw [HS] at hex
                have ha1 : ∀ W : World, (Op.stringOp .add ⟨#[92]⟩ (X.extract j (j + 1))).run Try.prog W = .ok (.string (bts [92, y])) W := fun W => by
                  rw [HE.out]; exact add_bts W [92] [y] (by simp)
                clear HS
                go_wp2_with (go_at_call 43; refine (among_any y marks _ (by decide)).mono ?_; rintro e w2 ⟨rfl, rfl⟩; rw [hm])
                refine ⟨⟨j + 1, by go_num, hjlt, rfl, hBr⟩, ?_⟩
                simp [intOf]; omega
              | false =>
                by_cases hesc : y < 33 ∨ 126 < y
                · have HS := shL_esc hesc
                  rw [HS] at hex
                  clear HS
                  rcases hesc with h | h
                  all_goals
                    go_wp2_with (first
                      | (go_at_call 43; refine (among_any y marks _ (by decide)).mono ?_; rintro e w2 ⟨rfl, rfl⟩; rw [hm])
                      | (go_at_call 44; refine (escape_any y _ hy256).mono ?_; rintro e w3 ⟨rfl, hB3⟩))
                    refine ⟨⟨j + 1, by go_num, hjlt, rfl, bstep hBr hB3 hBr.size⟩, ?_⟩
                    simp [intOf]; omega
                · have h1 : 33 ≤ y := by omega
                  have h2 : y ≤ 126 := by omega
                  have HS := shL_plain hm h1 h2
                  rw [HS, ← HE.out] at hex
                  clear HS hesc
                  go_wp2_with (go_at_call 43; refine (among_any y marks _ (by decide)).mono ?_; rintro e w2 ⟨rfl, rfl⟩; rw [hm])
                  refine ⟨⟨j + 1, by go_num, hjlt, rfl, hBr⟩, ?_⟩
                  simp [intOf]; omega
            · have HJ : Hid (A ++ shTo X j ++ [46] = shAll ((labs s).take (k + 1))) := by
                unfold Hid; rw [HSN.out, shLab, show j = X.size by omega, List.append_assoc]
              have hex : ∀ W : World, (Op.stringOp .add (bts (A ++ shTo X j)) ⟨#[46]⟩).run Try.prog W = .ok (.string (bts (shAll ((labs s).take (k + 1))))) W := fun W => by
                rw [← HJ.out]
                refine add_bts W _ [46] ?_
                have := HA.out; have := HTL.out
                rw [List.length_append]; simp; omega
              go_wp2
              go_roundw
              case rel => exact ⟨k + 1, by go_num, hlt, rfl, hBr⟩
              case measure => simp [intOf]; omega
        · have HK : Hid ((labs s).take k = labs s) := List.take_of_length_le (by omega)
          go_wp2
          go_ret
          exact ⟨by rw [HT.out, HK.out]; rfl, hB1.trans (hB.mono hB1.size)⟩
end Go.Proofs.Ytbcefnfbofpjgaa
