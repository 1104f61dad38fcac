import Derived.Test.YtennkhdhnbdbeaaGreatCmpG
import Derived.Test.YtennkhdhnbdbeaaGreatMath8G
import Derived.Test.YtennkhdhnbdbeaaGreatMath13G
namespace Go.Proofs.YtennkhdhnbdbeaaGreat
set_option linter.unusedVariables false
open Go.RowKit Go.Shelf Go.Proofs.YtennkhdhnbdbeaaGreat.Nm

theorem owns_one (w : World) (t : TypeId) (u : Value) : (w.alloc (.cells #[u] t)).ownsRow w.heap.size t 1 (.slice (some ⟨w.heap.size, 0, none⟩) 1 1) 1 [u] :=
  ⟨rfl, .inr ⟨w.heap.size, 1, #[u], rfl, Nat.le_refl _, World.alloc_heap_new w _, Nat.le_refl _, by unfold maxLen; omega, rfl, rfl⟩⟩

/-- name.Star -/
theorem star_any (s : ByteArray) (w : World) (hm : s.size ≤ maxLen) :
    Calls Tryz.prog 16 #[.string s] w fun e w' => e = .returned (.string (starB s)) ∧ Below w.heap.size w w' := by
  cases hN : isN s with
  | false =>
    have HT : Hid (starB s = ByteArray.empty) := starB_no (fun e => by rw [hN] at e; cases e.1)
    go_enter Tryz.func16, Tryz.ntmps16
    go_wp2_with (go_at_call 60; refine (isName_any _ _ hm).mono ?_; rintro e w1 ⟨rfl, hB1⟩)
    go_ret
    exact ⟨by rw [HT.out]; rfl, hB1⟩
  | true =>
    have hz := ((isN_iff s).1 hN).1
    by_cases h253 : s.size ≤ 253
    · have HT : Hid (starB s = ⟨#[1, 42]⟩ ++ s) := starB_yes hN h253
      go_enter Tryz.func16, Tryz.ntmps16
      go_wp2_with (go_at_call 60; refine (isName_any _ _ hm).mono ?_; rintro e w1 ⟨rfl, hB1⟩)
      go_ret
      exact ⟨by rw [HT.out]; rfl, hB1⟩
    · have HT : Hid (starB s = ByteArray.empty) := starB_no (fun e => h253 e.2)
      have h253' : 253 < s.size := by omega
      go_enter Tryz.func16, Tryz.ntmps16
      go_wp2_with (go_at_call 60; refine (isName_any _ _ hm).mono ?_; rintro e w1 ⟨rfl, hB1⟩)
      go_ret
      exact ⟨by rw [HT.out]; rfl, hB1⟩

/-- strings.HasPrefix, at the star -/
theorem hasStar_any (s : ByteArray) (w : World) (hm : s.size ≤ 255) :
    Calls Tryz.prog 108 #[.string s, .string ⟨#[1, 42]⟩] w fun e w' => e = .returned (.bool (decide (2 ≤ s.size) && ((s.extract 0 2).toList == [1, 42]))) ∧ w' = w := by
  by_cases h : 2 ≤ s.size
  · have HD : Hid (decide (2 ≤ s.size) = true) := decide_eq_true h
    go_enter Tryz.func108, Tryz.ntmps108
    go_wp2
    go_ret
    exact ⟨by first | rfl | (rw [HD.out]; rfl), rfl⟩
  · have HD : Hid (decide (2 ≤ s.size) = false) := decide_eq_false h
    have h' : s.size < 2 := by omega
    go_enter Tryz.func108, Tryz.ntmps108
    go_wp2
    go_ret
    exact ⟨by first | rfl | (rw [HD.out]; rfl), rfl⟩
theorem hasPrefix_any (s : ByteArray) (w : World) (hm : s.size ≤ 255) :
    Calls Tryz.prog 95 #[.string s, .string ⟨#[1, 42]⟩] w fun e w' => e = .returned (.bool (decide (2 ≤ s.size) && ((s.extract 0 2).toList == [1, 42]))) ∧ w' = w := by
  go_enter Tryz.func95, Tryz.ntmps95
  go_wp2_with (go_at_call 108; refine (hasStar_any _ _ hm).mono ?_; rintro e w1 ⟨rfl, rfl⟩)
  go_ret
  exact ⟨rfl, rfl⟩

/-- name.IsStar -/
theorem isStar_any (s : ByteArray) (w : World) (hm : s.size ≤ maxLen) :
    Calls Tryz.prog 68 #[.string s] w fun e w' => e = .returned (.bool (isStarB s)) ∧ Below w.heap.size w w' := by
  cases hN : isN s with
  | false =>
    have HT : Hid (isStarB s = false) := by unfold Hid isStarB; rw [hN]; rfl
    go_enter Tryz.func68, Tryz.ntmps68
    go_wp2_with (go_at_call 60; refine (isName_any _ _ hm).mono ?_; rintro e w1 ⟨rfl, hB1⟩)
    go_ret
    exact ⟨by rw [HT.out]; rfl, hB1⟩
  | true =>
    have hz := ((isN_iff s).1 hN).1
    have HT : Hid (isStarB s = (decide (2 ≤ s.size) && ((s.extract 0 2).toList == [1, 42]))) := by
      unfold Hid isStarB
      rw [hN, Bool.true_and]
      by_cases h2 : 2 ≤ s.size
      · rw [prefix_star h2, decide_eq_true h2]; rfl
      · rw [decide_eq_false h2, Bool.false_and, decide_eq_false_iff_not]
        rintro ⟨h0, _⟩
        have hl : (labs s).length = 0 := by
          by_cases e : (labs s).length = 0
          · exact e
          · have := isStar_long hN (by omega); omega
        have := isStar_short hN hl
        omega
    go_enter Tryz.func68, Tryz.ntmps68
    go_wp2_with (first
      | (go_at_call 60; refine (isName_any _ _ hm).mono ?_; rintro e w1 ⟨rfl, hB1⟩)
      | (go_at_call 95; refine (hasPrefix_any _ _ hz).mono ?_; rintro e w2 ⟨rfl, rfl⟩))
    go_ret
    exact ⟨by rw [HT.out]; rfl, hB1⟩

/-- gazetteerref1.IsStar -/
theorem refIsStar_any (s : ByteArray) (w : World) (hs : s.size ≤ 1048576) :
    Calls Tryz.prog 80 #[.string s] w fun e w' => e = .returned (.bool (isStarB s)) ∧ Below w.heap.size w w' := by
  cases hN : isN s with
  | false =>
    have HT : Hid (isStarB s = false) := by unfold Hid isStarB; rw [hN]; rfl
    go_enter Tryz.func80, Tryz.ntmps80
    go_wp2_with (go_at_call 76; refine (split_no s _ hs hN).mono ?_; rintro e w1 ⟨v, rfl, hB1⟩)
    go_ret
    exact ⟨by rw [HT.out]; rfl, hB1⟩
  | true =>
    by_cases h0 : 0 < (labs s).length
    · have HT : Hid (isStarB s = ((labs s)[0].toList == [42])) := by
        unfold Hid isStarB; rw [hN, isStar_first hN h0]; rfl
      generalize hX : (labs s)[0] = X at *
      have HX : Hid ((labs s)[0] = X) := hX
      clear hX
      go_enter Tryz.func80, Tryz.ntmps80
      go_wp2_with (go_at_call 76; refine (split_yes s _ hs hN).mono ?_; rintro e w1 ⟨p, cap, rfl, ⟨hc, hcap, hcap2, _⟩, hB1⟩; obtain ⟨g, off, rfl, hg, hcell⟩ := hc 0 h0; rw [HX.out, Nat.add_zero] at hcell)
      go_ret
      exact ⟨by rw [HT.out]; rfl, hB1⟩
    · have HT : Hid (isStarB s = false) := by
        have := isStar_short hN (by omega)
        unfold Hid isStarB; rw [hN, this.1]; rfl
      have h0' : ¬ (0 : Int) < ((labs s).length : Int) := by omega
      go_enter Tryz.func80, Tryz.ntmps80
      go_wp2_with (go_at_call 76; refine (split_yes s _ hs hN).mono ?_; rintro e w1 ⟨p, cap, rfl, ⟨hc, hcap, hcap2, _⟩, hB1⟩)
      go_ret
      exact ⟨by rw [HT.out]; rfl, hB1⟩

set_option maxRecDepth 100000 in
set_option maxHeartbeats 1000000 in
/-- gazetteerref1.Star -/
theorem refStar_any (s : ByteArray) (w : World) (hs : s.size ≤ 1048576) :
    Calls Tryz.prog 84 #[.string s] w fun e w' => e = .returned (.string (starB s)) ∧ Below w.heap.size w w' := by
  cases hN : isN s with
  | false =>
    have HT : Hid (starB s = ByteArray.empty) := starB_no (fun e => by rw [hN] at e; cases e.1)
    go_enter Tryz.func84, Tryz.ntmps84
    go_wp2_with (go_at_call 76; refine (split_no s _ hs hN).mono ?_; rintro e w1 ⟨v, rfl, hB1⟩)
    go_ret
    exact ⟨by rw [HT.out]; rfl, hB1⟩
  | true =>
    have hz := ((isN_iff s).1 hN).1
    by_cases h253 : s.size ≤ 253
    · have HT : Hid (starB s = putB (⟨#[42]⟩ :: labs s)) := by unfold Hid; rw [starB_yes hN h253, starB_put hN]
      have hl := labs_len_le hN
      have HZ : Hid ((putB (⟨#[42]⟩ :: labs s)).size ≤ 4294967296) := by
        unfold Hid; rw [starB_put hN, ByteArray.size_append, show (⟨#[1, 42]⟩ : ByteArray).size = 2 from rfl]; omega
      have HO : Hid (∀ x ∈ ⟨#[42]⟩ :: labs s, x.size ≤ 255) := fun x hx => by
        rcases List.mem_cons.1 hx with rfl | h
        · decide
        · have := (labs_mem h).2; omega
      go_enter Tryz.func84, Tryz.ntmps84
      go_wp2_with (first
        | (go_at_call 76; refine (split_yes s _ hs hN).mono ?_; rintro e w1 ⟨p, cap, rfl, ⟨hc, hcap, hcap2, hnone⟩, hB1⟩; have HN : Hid (p = none → cap = 0) := hnone; clear hnone)
        | (at_builtin; refine wpList_append_strs rfl _ _ rfl w1.heap.size _ 1 [.string ⟨#[42]⟩] rfl (owns_one w1 9 (.string ⟨#[42]⟩)) p (labs s) cap rfl (hc.below ((Below.refl _ _).alloc (Nat.le_refl _) _)) HN.out (by omega) (by simp) ?_; intro v5 w5 hown5 hg5; have hB5 : Below w1.heap.size w1 w5 := ((Below.refl _ _).alloc (Nat.le_refl _) _).grown hg5 (by simp) (fun k e => ownBlock_le (owns_one w1 9 (.string ⟨#[42]⟩)) e); have hst : Strs w5 v5 (⟨#[42]⟩ :: labs s) := Strs.of_owns (base := w1.heap.size) (by rw [List.length_cons, Nat.add_comm]; exact hown5))
        | (go_at_call 82; refine (put_any _ (⟨#[42]⟩ :: labs s) _ hst HO.out HZ.out).mono ?_; rintro e w6 ⟨rfl, hB6⟩))
      go_ret
      exact ⟨by rw [HT.out]; rfl, ext_t (ext_t hB1 hB5) hB6⟩
    · have HT : Hid (starB s = ByteArray.empty) := starB_no (fun e => h253 e.2)
      have h253' : 253 < s.size := by omega
      go_enter Tryz.func84, Tryz.ntmps84
      go_wp2_with (go_at_call 76; refine (split_yes s _ hs hN).mono ?_; rintro e w1 ⟨p, cap, rfl, _, hB1⟩)
      go_ret
      exact ⟨by rw [HT.out]; rfl, hB1⟩

end Go.Proofs.YtennkhdhnbdbeaaGreat

namespace Go.Proofs.YtennkhdhnbdbeaaGreat
set_option linter.unusedVariables false
open Go.RowKit Go.Shelf Go.Proofs.YtennkhdhnbdbeaaGreat.Nm

theorem Tryz.infoByte : (Tryz.prog.info? 5).map (fun i => (i.zero, i.size, i.bytes)) = some (some (.int .u8 0), 1, 1) := by kernel_rfl

/-- the bytes of an owned row, as a text -/
theorem owns_str {w : World} {base g cap : Nat} {t : ByteArray} (h : w.ownsRow base 5 1 (.slice (some ⟨g, 0, none⟩) t.size cap) t.size (Go.Lib.strCells t)) :
    (convert 73 9 (.slice (some ⟨g, 0, none⟩) t.size cap)).run Tryz.prog w = .ok (.string t) w := by
  obtain ⟨hl, (⟨h1, _⟩ | ⟨g', cap', cur, h1, hb, hg, hn, hcap, hsz, ht⟩)⟩ := h
  · cases h1
  · simp at h1
    obtain ⟨rfl, rfl⟩ := h1
    have hlen : t.data.toList.length = t.size := by simp
    have := run_convert_bytes_back (P := Tryz.prog) w 73 9 5 ⟨g, 0, none⟩ cap t.data.toList Tryz.underlying73 Tryz.underlying5 Tryz.underlying9 (fun j hj => by
      have hj' : j < t.size := by omega
      have hcur : cur[j]? = some (.int .u8 (t.data.toList[j].toNat : Int)) := by
        have := congrArg (fun l => l[j]?) ht
        simp only [Nat.mul_one] at this
        rw [List.getElem?_take, if_pos hj'] at this
        rw [← Array.getElem?_toList, this]
        unfold Go.Lib.strCells
        rw [List.getElem?_map, List.getElem?_eq_getElem hj]; rfl
      rw [addr_add, Nat.zero_add]
      simp [World.cell?, hg, hcur])
    rw [hlen] at this
    simpa using this
end Go.Proofs.YtennkhdhnbdbeaaGreat

namespace Go.Proofs.YtennkhdhnbdbeaaGreat
set_option linter.unusedVariables false
open Go.RowKit Go.Shelf Go.Proofs.YtennkhdhnbdbeaaGreat.Nm

theorem owns_some {w : World} {base e size : Nat} {v : Value} {n : Nat} {xs : List Value} (h : w.ownsRow base e size v n xs) (hn : 0 < n) : ∃ g cap, v = .slice (some ⟨g, 0, none⟩) n cap := by
  obtain ⟨_, (⟨_, h0⟩ | ⟨g, cap, cur, rfl, _⟩)⟩ := h
  · omega
  · exact ⟨g, cap, rfl⟩

set_option maxRecDepth 100000 in
set_option maxHeartbeats 2000000 in
/-- name.Join -/
theorem join_any (p : Option Addr) (cap : Nat) (l : List ByteArray) (w : World) (hc : StrsAt w p l) (hll : l.length ≤ 1048576) (hxl : ∀ x ∈ l, x.size ≤ 1048576) :
    Calls Tryz.prog 17 #[.slice p l.length cap] w fun e w' => e = .returned (.tuple #[.string (joinB l).1, .int .i64 (joinB l).2]) ∧ Below w.heap.size w w' := by
  have HXL := hide' hxl
  clear hxl
  obtain ⟨i0, hi, hz0, hz1, hz2⟩ := info_parts Tryz.infoByte
  go_enter Tryz.func17, Tryz.ntmps17
  go_wp2
  go_loopw [4, 12] (fun sz i wr => ∃ (k z : Nat), i = .int .i64 k ∧ sz = .int .i64 z ∧ k ≤ l.length ∧ z ≤ 1 + 64 * k ∧ Hid (z = 1 + (chunks (l.take k)).size) ∧ Hid (OkL (l.take k)) ∧ Below w.heap.size w wr)
    (fun _ i _ => l.length - (intOf i).toNat)
  case atStart => exact ⟨0, 1, rfl, rfl, Nat.zero_le _, by omega, rfl, fun x hx => by simp at hx, Below.refl _ _⟩
  case round =>
    obtain ⟨k, z, rfl, rfl, hk, hz, HZ, HO, hB⟩ := hrel
    by_cases hlt : k < l.length
    · obtain ⟨g, off, rfl, hg, hcell0⟩ := hc k hlt
      have hcell := (hB.cell (p := ⟨g, off + k, none⟩) hg).trans hcell0
      have hxs := HXL.out _ (List.getElem_mem hlt)
      have HSZ : Hid ((chunks (l.take (k + 1))).size = (chunks (l.take k)).size + (1 + l[k].size)) := chunks_take_size hlt
      have HOK : Hid (0 < l[k].size ∧ l[k].size ≤ 63 → OkL (l.take (k + 1))) := fun h => okL_take_succ hlt HO.out h
      have HBAD : Hid (¬ (0 < l[k].size ∧ l[k].size ≤ 63) → joinB l = (ByteArray.empty, 3)) := fun h => joinB_bad (List.getElem_mem hlt) h
      generalize l[k] = X at *
      clear hcell0
      by_cases h0 : 0 < X.size
      · have he : ((X.size : Int) == 0) = false := by rw [beq_eq_false_iff_ne]; omega
        by_cases h63 : X.size ≤ 63
        · have HO2 : Hid (OkL (l.take (k + 1))) := HOK.out ⟨h0, h63⟩
          have HZ2 : Hid (z + (1 + X.size) = 1 + (chunks (l.take (k + 1))).size) := by
            have := HZ.out; have := HSZ.out; unfold Hid; omega
          clear HBAD HOK
          go_wp2
          go_roundw
          case rel => exact ⟨k + 1, z + (1 + X.size), by go_num, by go_num, hlt, by omega, HZ2, HO2, hB⟩
          case measure => simp [intOf]; omega
        · have HV : Hid (joinB l = (ByteArray.empty, 3)) := HBAD.out (by omega)
          have h63' : 63 < X.size := by omega
          go_wp2
          go_ret2
          exact ⟨by rw [HV.out]; rfl, hB⟩
      · have he : ((X.size : Int) == 0) = true := by rw [beq_iff_eq]; omega
        have HV : Hid (joinB l = (ByteArray.empty, 3)) := HBAD.out (by omega)
        go_wp2
        go_ret2
        exact ⟨by rw [HV.out]; rfl, hB⟩
    · have HL : Hid (l.take k = l) := List.take_of_length_le (by omega)
      have hps := putB_size l
      rw [HL.out] at HZ HO
      by_cases h255 : (putB l).size ≤ 255
      · have HV : Hid (joinB l = (putB l, 0)) := joinB_ok HO.out h255
        have hz255 : z ≤ 255 := by have := HZ.out; omega
        have HCZ : Hid ((chunks l).size ≤ 254) := by unfold Hid; omega
        have hl254 : l.length ≤ 254 := by have := chunks_len l; omega
        have HPS : Hid ((putB l).size = (chunks l).size + 1) := hps
        have hcr := hc.below hB
        obtain ⟨wo, rfl⟩ : ∃ wo, wo = wr := ⟨_, rfl⟩
        have hmk : ∀ u : World, (Instr.makeSlice 73 (.int .i64 0) (.int .i64 (z : Int))).run Tryz.prog u = .ok (.slice (some ⟨u.heap.size, 0, none⟩) 0 z) (u.alloc (.cells (madeCells #[.int .u8 0] z) 5)) := fun u => by
          have h := run_make (P := Tryz.prog) u 73 5 i0 (.int .u8 0) Tryz.underlying73 hi hz0 .i64 .i64 0 (z : Int) (by omega) (by omega) (by rw [hz2]; omega) (by omega)
          simpa [hz1, Value.cells] using h
        clear hps h255 HZ
        go_wp2
        clear hmk
        go_loopw [7, 36] (fun v i w3 => ∃ (k2 g2 c2 : Nat), i = .int .i64 k2 ∧ v = .slice (some ⟨g2, 0, none⟩) (chunks (l.take k2)).size c2 ∧ k2 ≤ l.length ∧ w3.ownsRow wo.heap.size 5 1 v (chunks (l.take k2)).size (Go.Lib.strCells (chunks (l.take k2))) ∧ Below wo.heap.size wo w3)
          (fun _ i _ => l.length - (intOf i).toNat)
        case atStart => exact ⟨0, wo.heap.size, z, rfl, rfl, Nat.zero_le _, World.ownsRow_made _ _ _ (Nat.le_refl _) (by unfold maxLen; omega) (by simp [madeCells]), (Below.refl _ _).alloc (Nat.le_refl _) _⟩
        case round =>
          obtain ⟨k2, g2, c2, rfl, rfl, hk2, hown, hB3⟩ := hrel
          by_cases hlt2 : k2 < l.length
          · obtain ⟨g, off, rfl, hg, hcell0⟩ := hcr k2 hlt2
            have hcell := (hB3.cell (p := ⟨g, off + k2, none⟩) hg).trans hcell0
            have hx63 := (HO.out _ (List.getElem_mem hlt2)).2
            have HSZ : Hid ((chunks (l.take (k2 + 1))).size = (chunks (l.take k2)).size + 1 + l[k2].size) := by unfold Hid; rw [chunks_take_size hlt2]; omega
            have HST : Hid (Go.Lib.strCells (chunks (l.take (k2 + 1))) = Go.Lib.strCells (chunks (l.take k2)) ++ [.int .u8 (l[k2].size : Int)] ++ Go.Lib.strCells l[k2]) := by
              unfold Hid; rw [chunks_take_succ hlt2, strCells_append, strCells_chunk _ (by omega), List.append_assoc]
            have HMX : Hid ((chunks (l.take k2)).size ≤ 254) := by have := chunks_size_take l k2; have := HCZ.out; unfold Hid; omega
            have hmx : (chunks (l.take k2)).size ≤ 254 := HMX.out
            generalize l[k2] = X at *
            generalize hT : (chunks (l.take k2)).size = T at *
            clear hcell0 hT HMX
            go_wp2_with (first
              | (at_builtin; refine wpList_append_own _ rfl _ _ 73 rfl wo.heap.size 5 i0 (.int .u8 0) 1 1 Tryz.underlying73 hi hz0 hz1 hz2 rfl (by decide) _ _ _ rfl (hown.alloc _) ⟨wr.heap.size, 0, none⟩ 1 1 [.int .u8 (X.size : Int)] rfl rfl (cell_one_new _ _ _) (by simp [Value.oneCell']) (by unfold maxLen; omega) (by omega) (by have := hB3.size; simp; omega) ?_; intro v' w4 hown' hgrow _; have hB4 := below_app hB3 (Nat.le_refl _) hown hgrow; obtain ⟨g4, c4, rfl⟩ := owns_some hown' (by omega))
              | (at_builtin; refine Go.Lib.wpList_append_own_string _ rfl _ _ 73 9 rfl wo.heap.size 5 i0 Tryz.underlying73 Tryz.underlying9 hi hz0 hz1 hz2 _ _ _ rfl hown' X rfl (by unfold maxLen; omega) (by omega) hB4.size ?_; intro v'' w5 hown'' hgrow'' _; have hB5 : Below wo.heap.size wo w5 := hB4.grown hgrow'' hB4.size (fun _ e => ownBlock_le hown' e); obtain ⟨g5, c5, rfl⟩ := owns_some hown'' (by omega)))
            go_wp2
            go_roundw
            case rel => exact ⟨k2 + 1, g5, c5, by go_num, by rw [HSZ.out], hlt2, by rw [HSZ.out, HST.out]; exact hown'', hB5⟩
            case measure => simp [intOf]; omega
          · have HK : Hid (l.take k2 = l) := List.take_of_length_le (by omega)
            rw [HK.out] at hown
            have hcv := owns_str hown
            have had : ∀ W : World, (Op.stringOp .add (chunks l) ⟨#[0]⟩).run Tryz.prog W = .ok (.string (putB l)) W := fun W => by
              have := HCZ.out
              exact run_string_add_sum W _ _ (by rw [show (⟨#[0]⟩ : ByteArray).size = 1 from rfl]; omega)
            rw [HK.out]
            go_wp2
            go_ret2
            exact ⟨by rw [HV.out]; rfl, hB.trans (hB3.mono hB.size)⟩
      · have HV : Hid (joinB l = (ByteArray.empty, 4)) := joinB_long HO.out (by omega)
        have hz255 : 255 < z := by have := HZ.out; omega
        clear hps h255
        go_wp2
        go_ret2
        exact ⟨by rw [HV.out]; rfl, hB⟩
end Go.Proofs.YtennkhdhnbdbeaaGreat
