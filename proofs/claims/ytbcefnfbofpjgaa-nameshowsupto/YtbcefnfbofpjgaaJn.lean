import Derived.Test.YtbcefnfbofpjgaaPrt
import Derived.Test.YtbcefnfbofpjgaaMath13
namespace Go.Proofs.Ytbcefnfbofpjgaa
set_option linter.unusedVariables false
open Go.RowKit Go.Shelf Nm

set_option maxRecDepth 100000 in
set_option maxHeartbeats 1000000 in
/-- gazetteerref1.Join -/
theorem refJoin_any (p : Option Addr) (cap : Nat) (l : List ByteArray) (w : World) (hc : StrsAt w p l) (hll : l.length ≤ 1048576) (hxl : ∀ x ∈ l, x.size ≤ 1048576) :
    Calls Try.prog 27 #[.slice p l.length cap] w fun e w' => e = .returned (.tuple #[.string (joinB l).1, .int .i64 (joinB l).2]) ∧ Below w.heap.size w w' := by
  have HXL := hide' hxl
  clear hxl
  go_enter Try.func27, Try.ntmps27
  go_wp2
  go_loopw [4, 9] (fun sz i wr => ∃ (k z : Nat), i = .int .i64 k ∧ sz = .int .i64 z ∧ k ≤ l.length ∧ z ≤ 400 ∧ Hid (z = 1 + (chunks (l.take k)).size ∨ (300 ≤ z ∧ 300 ≤ 1 + (chunks (l.take k)).size)) ∧ Hid (OkL (l.take k)) ∧ Below w.heap.size w wr)
    (fun _ i _ => l.length - (intOf i).toNat)
  case atStart => exact ⟨0, 1, rfl, rfl, Nat.zero_le _, by omega, .inl rfl, fun x hx => by simp at hx, Below.refl _ _⟩
  case round =>
    obtain ⟨k, z, rfl, rfl, hk, hz, HZ, HO, hB⟩ := hrel
    by_cases hlt : k < l.length
    · obtain ⟨g, off, rfl, hg, hcell0⟩ := hc k hlt
      have hcell := (hB.cell (p := ⟨g, off + k, none⟩) hg).trans hcell0
      have hxs := HXL.out _ (List.getElem_mem hlt)
      have HSZ : Hid ((chunks (l.take (k + 1))).size = (chunks (l.take k)).size + (1 + l[k].size)) := chunks_take_size hlt
      have HOK : Hid (0 < l[k].size ∧ l[k].size ≤ 63 → OkL (l.take (k + 1))) := fun h => okL_take_succ hlt HO.out h
      have HBAD : Hid (¬ (0 < l[k].size ∧ l[k].size ≤ 63) → joinB l = (ByteArray.empty, 3)) := fun h => joinB_bad (List.getElem_mem hlt) h
      generalize l[k] = X at *
      clear hcell0
      by_cases h0 : 0 < X.size
      · have he := isEmpty_false h0
        by_cases h63 : X.size ≤ 63
        · have HO2 : Hid (OkL (l.take (k + 1))) := HOK.out ⟨h0, h63⟩
          clear HBAD HOK
          by_cases h300 : z < 300
          · have HZ2 : Hid (z + (1 + X.size) = 1 + (chunks (l.take (k + 1))).size ∨ (300 ≤ z + (1 + X.size) ∧ 300 ≤ 1 + (chunks (l.take (k + 1))).size)) := by
              have := HZ.out; have := HSZ.out; unfold Hid; omega
            go_wp2
            go_roundw
            case rel => exact ⟨k + 1, z + (1 + X.size), by go_num, by go_num, hlt, by omega, HZ2, HO2, hB⟩
            case measure => simp [intOf]; omega
          · have HZ2 : Hid (z = 1 + (chunks (l.take (k + 1))).size ∨ (300 ≤ z ∧ 300 ≤ 1 + (chunks (l.take (k + 1))).size)) := by
              have := HZ.out; have := HSZ.out; unfold Hid; omega
            have h300' : 300 ≤ z := by omega
            go_wp2
            go_roundw
            case rel => exact ⟨k + 1, z, by go_num, rfl, hlt, hz, HZ2, HO2, hB⟩
            case measure => simp [intOf]; omega
        · have HV : Hid (joinB l = (ByteArray.empty, 3)) := HBAD.out (by omega)
          have h63' : 63 < X.size := by omega
          go_wp2
          go_ret2
          exact ⟨by rw [HV.out]; rfl, hB⟩
      · have he := isEmpty_true (r := X) (by omega)
        have HV : Hid (joinB l = (ByteArray.empty, 3)) := HBAD.out (by omega)
        go_wp2
        go_ret2
        exact ⟨by rw [HV.out]; rfl, hB⟩
    · have HL : Hid (l.take k = l) := List.take_of_length_le (by omega)
      have hps := putB_size l
      rw [HL.out] at HZ HO
      by_cases h255 : (putB l).size ≤ 255
      · have HV : Hid (joinB l = (putB l, 0)) := joinB_ok HO.out h255
        have hz255 : z ≤ 255 := by have := HZ.out; omega
        have hst : Strs wr (.slice p l.length cap) l := (hc.below hB).strs cap
        have HM : Hid (∀ x ∈ l, x.size ≤ 255) := fun x hx => by have := HO.out x hx; omega
        have HPZ : Hid ((putB l).size ≤ 4294967296) := by unfold Hid; omega
        clear hps h255
        go_wp2_with (go_at_call 47; refine (put_any _ l _ hst HM.out HPZ.out).mono ?_; rintro e w6 ⟨rfl, hB6⟩)
        go_ret2
        exact ⟨by rw [HV.out]; rfl, bstep hB hB6 hB.size⟩
      · have HV : Hid (joinB l = (ByteArray.empty, 4)) := joinB_long HO.out (by omega)
        have hz255 : 255 < z := by have := HZ.out; omega
        clear hps h255
        go_wp2
        go_ret2
        exact ⟨by rw [HV.out]; rfl, hB⟩

theorem Try.infoByte : (Try.prog.info? 5).map (fun i => (i.zero, i.size, i.bytes)) = some (some (.int .u8 0), 1, 1) := by kernel_rfl

/-- the bytes of an owned row, as a text -/
theorem owns_str {w : World} {base g cap : Nat} {t : ByteArray} (h : w.ownsRow base 5 1 (.slice (some ⟨g, 0, none⟩) t.size cap) t.size (Go.Lib.strCells t)) :
    (convert 44 9 (.slice (some ⟨g, 0, none⟩) t.size cap)).run Try.prog w = .ok (.string t) w := by
  obtain ⟨hl, (⟨h1, _⟩ | ⟨g', cap', cur, h1, hb, hg, hn, hcap, hsz, ht⟩)⟩ := h
  · cases h1
  · simp at h1
    obtain ⟨rfl, rfl⟩ := h1
    have hlen : t.data.toList.length = t.size := by simp
    have := run_convert_bytes_back (P := Try.prog) w 44 9 5 ⟨g, 0, none⟩ cap t.data.toList Try.underlying44 Try.underlying5 Try.underlying9 (fun j hj => by
      have hj' : j < t.size := by omega
      have hcur : cur[j]? = some (.int .u8 (t.data.toList[j].toNat : Int)) := by
        have := congrArg (fun l => l[j]?) ht
        simp only [Nat.mul_one] at this
        rw [List.getElem?_take, if_pos hj'] at this
        rw [← Array.getElem?_toList, this]
        unfold Go.Lib.strCells
        rw [List.getElem?_map, List.getElem?_eq_getElem hj]; rfl
      rw [addr_add, Nat.zero_add]
      simp [World.cell?, hg, hcur])
    rw [hlen] at this
    simpa using this
end Go.Proofs.Ytbcefnfbofpjgaa
