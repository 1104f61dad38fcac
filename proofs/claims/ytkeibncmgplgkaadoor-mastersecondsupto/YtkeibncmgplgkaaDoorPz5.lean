import Derived.Test.YtkeibncmgplgkaaDoorPz4
import Derived.Lib.OthersKept
namespace Go.Proofs.YtkeibncmgplgkaaDoor
set_option linter.unusedVariables false
open Go.RowKit Go.Shelf Go.Proofs.YtkeibncmgplgkaaDoor.Nm

/-- the letters of units -/
def uB : List UInt8 := [119, 100, 104, 109, 115]
theorem uB_has (x : UInt8) (h : uB.contains x = true) : x.toNat < 128 := by
  simp [uB] at h
  rcases h with rfl | rfl | rfl | rfl | rfl <;> decide
theorem list_bt (s : ByteArray) (j : Nat) (b : UInt8) (h : s.data.toList[j]? = some b) : j < s.size ∧ b.toNat = bt s j := by
  have hl : s.data.toList.length = s.size := by simp
  obtain ⟨hj, e⟩ := List.getElem?_eq_some_iff.1 h
  exact ⟨by omega, by rw [← e]; exact bt_list s j (by omega)⟩
/-- over a rune from 128 on -/
theorem NoAny_skip {s : ByteArray} {i : Nat} (hi : i < s.size) (h : Lib.NoAny s.data.toList uB i) (hb : 128 ≤ bt s i) : Lib.NoAny s.data.toList uB (i + (Utf8.decode s i).2) := by
  intro j b hj hjb
  by_cases hji : j < i
  · exact h j b hji hjb
  · obtain ⟨hjs, he⟩ := list_bt s j b hjb
    have h128 : 128 ≤ b.toNat := by
      rw [he]
      by_cases e : j = i
      · rw [e]; exact hb
      · have := (decode_skip s i hi).2 (j - i) (by omega) (by omega)
        rw [show i + (j - i) = j by omega] at this
        exact this
    cases hc : uB.contains b with
    | false => rfl
    | true => have := uB_has b hc; omega

theorem iterAt_below {w wr : World} {s : ByteArray} {p : Nat} (h : Below w.heap.size w wr) : Below w.heap.size w (wr.iterAt w.heap.size s p) := by
  refine ⟨h.os, h.tape, h.output, by simpa [World.iterAt] using h.size, fun k hk => ?_⟩
  have : (wr.iterAt w.heap.size s p).heap[k]? = wr.heap[k]? := by
    simp [World.iterAt, show w.heap.size ≠ k by omega]
  exact this.trans (h.block k hk)

set_option maxHeartbeats 8000000 in
set_option maxRecDepth 100000 in
/-- strings.IndexAny among the letters of units, of a short text -/
theorem indexAny_short (s : ByteArray) (w : World) (hs : s.size ≤ 8) :
    Calls Tryd.prog 8 #[.string s, .string ⟨#[119, 100, 104, 109, 115]⟩] w fun e w' => e = .returned (.int .i64 (Lib.indexAny s.data.toList uB)) ∧ Below w.heap.size w w' := by
  have h8 : decide ((8 : Int) < (s.size : Int)) = false := decide_eq_false (by omega)
  have hA := hide3 (fun (r : Int) (w : World) (h0 : 0 ≤ r) (h1 : r < 128) => Any.strings_IndexRune_ascii { Tryd.lays153 with } ⟨#[119, 100, 104, 109, 115]⟩ r w h0 h1)
  have hS := hide3 (fun (n : Int) (w : World) => Any.strings_shouldUseASCIISet { Tryd.lays153 with } n w)
  go_enter Tryd.func8, Tryd.ntmps8
  go_wp2_with (go_at_call 14; refine (hS.out _ _).mono ?_; rintro e w ⟨rfl, rfl⟩; rw [h8])
  go_loopw [9, 10] (fun _ _ wr => ∃ i : Nat, i ≤ s.size ∧ wr.heap[w.heap.size]? = some (.stringIter s i) ∧ Below w.heap.size w wr ∧ Lib.NoAny s.data.toList uB i) (fun _ _ wr => s.size - wr.iterPos w.heap.size)
  case atStart => exact ⟨0, Nat.zero_le _, World.iter_heap _ _ _, (Below.refl _ w).alloc (Nat.le_refl _) _, Lib.NoAny.zero _ _⟩
  case round =>
    obtain ⟨i, hi, hh, hB, hN⟩ := hrel
    have HN := hide3 hN
    have HM : Hid (wr.iterPos w.heap.size = i) := by unfold Hid World.iterPos; rw [hh]
    clear hN
    by_cases hlt : i < s.size
    · have hnx := fun ty => Lib.run_next_any_at (P := Tryd.prog) wr w.heap.size s i ty hh hlt
      obtain ⟨W1, hW1⟩ : ∃ W1, wr.iterAt w.heap.size s (i + (Utf8.decode s i).2) = W1 := ⟨_, rfl⟩
      have hh1 : W1.heap[w.heap.size]? = some (.stringIter s (i + (Utf8.decode s i).2)) := hW1 ▸ Lib.iterAt_heap wr w.heap.size s i _ hh
      have hB1 : Below w.heap.size w W1 := hW1 ▸ iterAt_below hB
      have hlt1 : w.heap.size < W1.heap.size := (Array.getElem?_eq_some_iff.1 hh1).1
      rw [hW1] at hnx
      obtain ⟨y, hy, HY, hyl⟩ := bt_wrap hlt
      obtain ⟨hsk1, hsk2⟩ := decode_skip s i hlt
      have hwp : 1 ≤ (Utf8.decode s i).2 := Lib.width_pos s i
      by_cases h128 : 128 ≤ y
      · have hN2 := hide3 (NoAny_skip hlt HN.out (by rw [HY]; exact h128))
        have hr1 : 128 ≤ (Utf8.decode s i).1 := (decode_high s i hlt (by have : (s[i]'hlt).toNat = bt s i := bt_eq hlt; omega)).1
        have hr2 : (Utf8.decode s i).1 ≤ 1114111 := Lib.rune_le s i
        have HR := hide3 (fun w => indexRune_high (Utf8.decode s i).1 hr1 hr2 w)
        clear hsk2 hr1 hr2 hy HY hW1 HN
        generalize (Utf8.decode s i).1 = r at *
        generalize (Utf8.decode s i).2 = d at *
        go_wp2_with (go_at_call 13; refine (HR.out _).mono ?_; rintro e w3 ⟨rfl, hB3⟩)
        go_roundw
        case rel => exact ⟨i + d, hsk1, (hB3.block _ hlt1).trans hh1, hB1.trans (hB3.mono hB1.size), hN2.out⟩
        case measure =>
          rw [HM.out]
          have : w3.iterPos w.heap.size = i + d := by unfold World.iterPos; rw [(hB3.block _ hlt1).trans hh1]
          rw [this]; omega
      · have hya : (s[i]'hlt).toNat < 128 := by have : (s[i]'hlt).toNat = bt s i := bt_eq hlt; omega
        have hdec : Utf8.decode s i = (y, 1) := by
          rw [decode_ascii s i hlt hya]
          have : (s[i]'hlt).toNat = bt s i := bt_eq hlt
          rw [this, HY]
        rw [hdec] at hnx hh1
        obtain ⟨x, hx⟩ : ∃ x, s.data.toList[i]? = some x := ⟨_, List.getElem?_eq_getElem (by simpa using hlt)⟩
        have hxy : x.toNat = y := by rw [(list_bt s i x hx).2]; exact HY
        have hback : ((y : Int).toNat.toUInt8) = x := by
          apply UInt8.toNat_inj.1
          show (UInt8.ofNat y).toNat = _
          rw [UInt8.toNat_ofNat', hxy]; omega
        have hcon := Lib.contains_iff_indexByte uB x
        have HX := hide3 hx
        clear hsk1 hsk2 hwp hdec hW1 hya hx hxy
        have HA2 := hide3 (fun w => hA.out (y : Int) w (by omega) (by omega))
        rw [hback] at HA2
        cases hin : uB.contains x with
        | false =>
          rw [hin] at hcon
          have hneg : Lib.indexByte uB x < 0 := by have := of_decide_eq_false hcon.symm; omega
          have hN2 := hide3 (HN.out.succ HX.out hin)
          have HA3 : Hid (∀ w, Calls Tryd.prog 13 #[.string ⟨#[119, 100, 104, 109, 115]⟩, .int .i32 (y : Int)] w fun e w' => e = .returned (.int .i64 (Lib.indexByte uB x)) ∧ w' = w) := HA2
          clear hcon HA2 HN HX hy HY hback hA
          generalize Lib.indexByte uB x = q at *
          go_wp2_with (go_at_call 13; refine (HA3.out _).mono ?_; rintro e w3 ⟨rfl, hw3⟩; subst hw3)
          go_roundw
          case rel => exact ⟨i + 1, by omega, hh1, hB1, hN2.out⟩
          case measure =>
            rw [HM.out]
            have : w3.iterPos w.heap.size = i + 1 := by unfold World.iterPos; rw [hh1]
            rw [this]; omega
        | true =>
          rw [hin] at hcon
          have hneg : 0 ≤ Lib.indexByte uB x := of_decide_eq_true hcon.symm
          have HE : Hid (Lib.indexAny s.data.toList uB = (i : Int)) := Lib.indexAny_hit HN.out HX.out hin
          have HA3 : Hid (∀ w, Calls Tryd.prog 13 #[.string ⟨#[119, 100, 104, 109, 115]⟩, .int .i32 (y : Int)] w fun e w' => e = .returned (.int .i64 (Lib.indexByte uB x)) ∧ w' = w) := HA2
          clear hcon HA2 HN HX hy HY hback hA
          generalize Lib.indexByte uB x = q at *
          go_wp2_with (go_at_call 13; refine (HA3.out _).mono ?_; rintro e w3 ⟨rfl, hw3⟩; subst hw3)
          go_ret
          exact ⟨by rw [HE.out]; rfl, hB1⟩
    · have hnx := fun ty => Lib.run_next_end_at (P := Tryd.prog) wr w.heap.size s i ty hh hlt
      have HE : Hid (Lib.indexAny s.data.toList uB = -1) := Lib.indexAny_none (by
        have hl : s.data.toList.length = s.size := by simp
        rw [hl]; rw [show s.size = i by omega]; exact HN.out)
      clear HN
      go_wp2_with fail
      go_ret
      exact ⟨by rw [HE.out]; rfl, hB⟩

set_option maxRecDepth 100000 in
theorem zero256 (w : World) : (zeroValue 39).run Tryd.prog w = .ok (.agg (Array.replicate 256 (.bool false))) w := by kernel_rfl
theorem size256 : (Tryd.prog.info? 39).map (·.size) = some 256 := by kernel_rfl
set_option maxRecDepth 1000000 in
/-- strings.IndexAny among the letters of units -/
theorem indexAny_any (s : ByteArray) (w : World) (hs : s.size ≤ 1048576) :
    Calls Tryd.prog 8 #[.string s, .string ⟨#[119, 100, 104, 109, 115]⟩] w fun e w' => e = .returned (.int .i64 (Lib.indexAny s.data.toList uB)) ∧ Below w.heap.size w w' := by
  by_cases h8 : s.size ≤ 8
  · exact indexAny_short s w h8
  · refine (Any.strings_IndexAny_long Tryd.lays153 zero256 size256 s ⟨#[119, 100, 104, 109, 115]⟩ w (by decide) (by omega) (by omega) (by show (5 : Nat) < 4294967281; omega) ?_).mono ?_
    · intro j b hj
      have hm := List.mem_of_getElem? hj
      simp at hm
      rcases hm with rfl | rfl | rfl | rfl | rfl <;> decide
    · rintro e w' ⟨rfl, rfl⟩
      exact ⟨rfl, ((Below.refl _ w).alloc (Nat.le_refl _) _).alloc (by simp) _⟩
end Go.Proofs.YtkeibncmgplgkaaDoor
