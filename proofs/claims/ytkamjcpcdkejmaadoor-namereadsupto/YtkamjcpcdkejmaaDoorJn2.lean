import Derived.Test.YtkamjcpcdkejmaaDoorJn
namespace Go.Proofs.YtkamjcpcdkejmaaDoor
set_option linter.unusedVariables false
open Go.RowKit Go.Shelf Nm

theorem owns_some {w : World} {base e size : Nat} {v : Value} {n : Nat} {xs : List Value} (h : w.ownsRow base e size v n xs) (hn : 0 < n) : ∃ g cap, v = .slice (some ⟨g, 0, none⟩) n cap := by
  obtain ⟨_, (⟨_, h0⟩ | ⟨g, cap, cur, rfl, _⟩)⟩ := h
  · omega
  · exact ⟨g, cap, rfl⟩

set_option maxRecDepth 100000 in
set_option maxHeartbeats 2000000 in
/-- name.Join -/
theorem join_any (p : Option Addr) (cap : Nat) (l : List ByteArray) (w : World) (hc : StrsAt w p l) (hll : l.length ≤ 1048576) (hxl : ∀ x ∈ l, x.size ≤ 1048576) :
    Calls Tryd.prog 13 #[.slice p l.length cap] w fun e w' => e = .returned (.tuple #[.string (joinB l).1, .int .i64 (joinB l).2]) ∧ Below w.heap.size w w' := by
  have HXL := hide' hxl
  clear hxl
  obtain ⟨i0, hi, hz0, hz1, hz2⟩ := info_parts Tryd.infoByte
  go_enter Tryd.func13, Tryd.ntmps13
  go_wp2
  go_loopw [4, 12] (fun sz i wr => ∃ (k z : Nat), i = .int .i64 k ∧ sz = .int .i64 z ∧ k ≤ l.length ∧ z ≤ 1 + 64 * k ∧ Hid (z = 1 + (chunks (l.take k)).size) ∧ Hid (OkL (l.take k)) ∧ Below w.heap.size w wr)
    (fun _ i _ => l.length - (intOf i).toNat)
  case atStart => exact ⟨0, 1, rfl, rfl, Nat.zero_le _, by omega, rfl, fun x hx => by simp at hx, Below.refl _ _⟩
  case round =>
    obtain ⟨k, z, rfl, rfl, hk, hz, HZ, HO, hB⟩ := hrel
    by_cases hlt : k < l.length
    · obtain ⟨g, off, rfl, hg, hcell0⟩ := hc k hlt
      have hcell := (hB.cell (p := ⟨g, off + k, none⟩) hg).trans hcell0
      have hxs := HXL.out _ (List.getElem_mem hlt)
      have HSZ : Hid ((chunks (l.take (k + 1))).size = (chunks (l.take k)).size + (1 + l[k].size)) := chunks_take_size hlt
      have HOK : Hid (0 < l[k].size ∧ l[k].size ≤ 63 → OkL (l.take (k + 1))) := fun h => okL_take_succ hlt HO.out h
      have HBAD : Hid (¬ (0 < l[k].size ∧ l[k].size ≤ 63) → joinB l = (ByteArray.empty, 3)) := fun h => joinB_bad (List.getElem_mem hlt) h
      generalize l[k] = X at *
      clear hcell0
      by_cases h0 : 0 < X.size
      · have he : ((X.size : Int) == 0) = false := by rw [beq_eq_false_iff_ne]; omega
        by_cases h63 : X.size ≤ 63
        · have HO2 : Hid (OkL (l.take (k + 1))) := HOK.out ⟨h0, h63⟩
          have HZ2 : Hid (z + (1 + X.size) = 1 + (chunks (l.take (k + 1))).size) := by
            have := HZ.out; have := HSZ.out; unfold Hid; omega
          clear HBAD HOK
          go_wp2
          go_roundw
          case rel => exact ⟨k + 1, z + (1 + X.size), by go_num, by go_num, hlt, by omega, HZ2, HO2, hB⟩
          case measure => simp [intOf]; omega
        · have HV : Hid (joinB l = (ByteArray.empty, 3)) := HBAD.out (by omega)
          have h63' : 63 < X.size := by omega
          go_wp2
          go_ret2
          exact ⟨by rw [HV.out]; rfl, hB⟩
      · have he : ((X.size : Int) == 0) = true := by rw [beq_iff_eq]; omega
        have HV : Hid (joinB l = (ByteArray.empty, 3)) := HBAD.out (by omega)
        go_wp2
        go_ret2
        exact ⟨by rw [HV.out]; rfl, hB⟩
    · have HL : Hid (l.take k = l) := List.take_of_length_le (by omega)
      have hps := putB_size l
      rw [HL.out] at HZ HO
      by_cases h255 : (putB l).size ≤ 255
      · have HV : Hid (joinB l = (putB l, 0)) := joinB_ok HO.out h255
        have hz255 : z ≤ 255 := by have := HZ.out; omega
        have HCZ : Hid ((chunks l).size ≤ 254) := by unfold Hid; omega
        have hl254 : l.length ≤ 254 := by have := chunks_len l; omega
        have HPS : Hid ((putB l).size = (chunks l).size + 1) := hps
        have hcr := hc.below hB
        obtain ⟨wo, rfl⟩ : ∃ wo, wo = wr := ⟨_, rfl⟩
        have hmk : ∀ u : World, (Instr.makeSlice 39 (.int .i64 0) (.int .i64 (z : Int))).run Tryd.prog u = .ok (.slice (some ⟨u.heap.size, 0, none⟩) 0 z) (u.alloc (.cells (madeCells #[.int .u8 0] z) 5)) := fun u => by
          have h := run_make (P := Tryd.prog) u 39 5 i0 (.int .u8 0) Tryd.underlying39 hi hz0 .i64 .i64 0 (z : Int) (by omega) (by omega) (by rw [hz2]; omega) (by omega)
          simpa [hz1, Value.cells] using h
        clear hps h255 HZ
        go_wp2
        clear hmk
        go_loopw [7, 36] (fun v i w3 => ∃ (k2 g2 c2 : Nat), i = .int .i64 k2 ∧ v = .slice (some ⟨g2, 0, none⟩) (chunks (l.take k2)).size c2 ∧ k2 ≤ l.length ∧ w3.ownsRow wo.heap.size 5 1 v (chunks (l.take k2)).size (Go.Lib.strCells (chunks (l.take k2))) ∧ Below wo.heap.size wo w3)
          (fun _ i _ => l.length - (intOf i).toNat)
        case atStart => exact ⟨0, wo.heap.size, z, rfl, rfl, Nat.zero_le _, World.ownsRow_made _ _ _ (Nat.le_refl _) (by unfold maxLen; omega) (by simp [madeCells]), (Below.refl _ _).alloc (Nat.le_refl _) _⟩
        case round =>
          obtain ⟨k2, g2, c2, rfl, rfl, hk2, hown, hB3⟩ := hrel
          by_cases hlt2 : k2 < l.length
          · obtain ⟨g, off, rfl, hg, hcell0⟩ := hcr k2 hlt2
            have hcell := (hB3.cell (p := ⟨g, off + k2, none⟩) hg).trans hcell0
            have hx63 := (HO.out _ (List.getElem_mem hlt2)).2
            have HSZ : Hid ((chunks (l.take (k2 + 1))).size = (chunks (l.take k2)).size + 1 + l[k2].size) := by unfold Hid; rw [chunks_take_size hlt2]; omega
            have HST : Hid (Go.Lib.strCells (chunks (l.take (k2 + 1))) = Go.Lib.strCells (chunks (l.take k2)) ++ [.int .u8 (l[k2].size : Int)] ++ Go.Lib.strCells l[k2]) := by
              unfold Hid; rw [chunks_take_succ hlt2, strCells_append, strCells_chunk _ (by omega), List.append_assoc]
            have HMX : Hid ((chunks (l.take k2)).size ≤ 254) := by have := chunks_size_take l k2; have := HCZ.out; unfold Hid; omega
            have hmx : (chunks (l.take k2)).size ≤ 254 := HMX.out
            generalize l[k2] = X at *
            generalize hT : (chunks (l.take k2)).size = T at *
            clear hcell0 hT HMX
            go_wp2_with (first
              | (at_builtin; refine wpList_append_own _ rfl _ _ 39 rfl wo.heap.size 5 i0 (.int .u8 0) 1 1 Tryd.underlying39 hi hz0 hz1 hz2 rfl (by decide) _ _ _ rfl (hown.alloc _) ⟨wr.heap.size, 0, none⟩ 1 1 [.int .u8 (X.size : Int)] rfl rfl (cell_one_new _ _ _) (by simp [Value.oneCell']) (by unfold maxLen; omega) (by omega) (by have := hB3.size; simp; omega) ?_; intro v' w4 hown' hgrow _; have hB4 := below_app hB3 (Nat.le_refl _) hown hgrow; obtain ⟨g4, c4, rfl⟩ := owns_some hown' (by omega))
              | (at_builtin; refine Go.Lib.wpList_append_own_string _ rfl _ _ 39 9 rfl wo.heap.size 5 i0 Tryd.underlying39 Tryd.underlying9 hi hz0 hz1 hz2 _ _ _ rfl hown' X rfl (by unfold maxLen; omega) (by omega) hB4.size ?_; intro v'' w5 hown'' hgrow'' _; have hB5 : Below wo.heap.size wo w5 := hB4.grown hgrow'' hB4.size (fun _ e => ownBlock_le hown' e); obtain ⟨g5, c5, rfl⟩ := owns_some hown'' (by omega)))
            go_wp2
            go_roundw
            case rel => exact ⟨k2 + 1, g5, c5, by go_num, by rw [HSZ.out], hlt2, by rw [HSZ.out, HST.out]; exact hown'', hB5⟩
            case measure => simp [intOf]; omega
          · have HK : Hid (l.take k2 = l) := List.take_of_length_le (by omega)
            rw [HK.out] at hown
            have hcv := owns_str hown
            have had : ∀ W : World, (Op.stringOp .add (chunks l) ⟨#[0]⟩).run Tryd.prog W = .ok (.string (putB l)) W := fun W => by
              have := HCZ.out
              exact run_string_add_sum W _ _ (by rw [show (⟨#[0]⟩ : ByteArray).size = 1 from rfl]; omega)
            rw [HK.out]
            go_wp2
            go_ret2
            exact ⟨by rw [HV.out]; rfl, hB.trans (hB3.mono hB.size)⟩
      · have HV : Hid (joinB l = (ByteArray.empty, 4)) := joinB_long HO.out (by omega)
        have hz255 : 255 < z := by have := HZ.out; omega
        clear hps h255
        go_wp2
        go_ret2
        exact ⟨by rw [HV.out]; rfl, hB⟩
end Go.Proofs.YtkamjcpcdkejmaaDoor
