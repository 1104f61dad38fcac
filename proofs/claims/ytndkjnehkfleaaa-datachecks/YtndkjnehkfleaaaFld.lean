import Derived.Test.YtndkjnehkfleaaaPut
import Derived.Test.YtndkjnehkfleaaaSml
import Derived.Test.YtndkjnehkfleaaaMathG
namespace Go.Proofs.Ytndkjnehkfleaaa
set_option linter.unusedVariables false
open Go.RowKit Go.Shelf Nm

theorem ownsRow_below {w w' : World} {base e size : Nat} {v : Value} {n : Nat} {xs : List Value} (h : w.ownsRow base e size v n xs) (hb : Below w.heap.size w w') : w'.ownsRow base e size v n xs := by
  obtain ⟨hl, (⟨rfl, h0⟩ | ⟨g, cap, cur, rfl, hg, hh, rest⟩)⟩ := h
  · exact ⟨hl, .inl ⟨rfl, h0⟩⟩
  · exact ⟨hl, .inr ⟨g, cap, cur, rfl, hg, (hb.block g (Array.getElem?_eq_some_iff.1 hh).1).trans hh, rest⟩⟩

theorem below_app {B e size n : Nat} {w' w2 w3 : World} {o : Obj} {ov : Value} {xs : List Value} (h : Below B w' w2) (hB : B ≤ w'.heap.size) (hown : w2.ownsRow B e size ov n xs) (hg : (w2.alloc o).grownBy w3 ov.ownBlock) : Below B w' w3 :=
  (h.alloc (Nat.le_trans hB h.size) _).grown hg (by have := h.size; simp; omega) (fun _ e => ownBlock_le hown e)
theorem bstep {B : Nat} {a b c : World} (h : Below B a b) (k : Below b.heap.size b c) (hB : B ≤ b.heap.size) : Below B a c := h.trans (k.mono hB)

/-- gazetteerref1.IsName -/
theorem refIsName_any (s : ByteArray) (w : World) (hs : s.size ≤ 1048576) :
    Calls Try.prog 31 #[.string s] w fun e w' => e = .returned (.bool (isN s)) ∧ Below w.heap.size w w' := by
  go_enter Try.func31, Try.ntmps31
  go_wp2_with (go_at_call 27; refine (split_any s _ hs).mono ?_; rintro e w' ⟨v, rfl, hv, hB⟩)
  go_ret
  exact ⟨rfl, hB⟩

set_option maxRecDepth 100000 in
set_option maxHeartbeats 1000000 in
/-- gazetteerref1.FoldName -/
theorem foldName_any (s : ByteArray) (w : World) (hs : s.size ≤ 1048576) :
    Calls Try.prog 20 #[.string s] w fun e w' => e = .returned (.string (foldB s)) ∧ Below w.heap.size w w' := by
  obtain ⟨i0, hi, hz0, hz1, hz2⟩ := info_parts Try.infoStr
  cases hN : isN s with
  | false =>
    have HF : Hid (foldB s = ByteArray.empty) := foldB_no hN
    go_enter Try.func20, Try.ntmps20
    go_wp2_with (go_at_call 27; refine (split_any s _ hs).mono ?_; rintro e w' ⟨v, rfl, hv, hB⟩)
    go_ret
    exact ⟨by rw [HF.out]; rfl, hB⟩
  | true =>
    have HF : Hid (foldB s = lowB s) := foldB_yes hN
    have HP : Hid (putB ((labs s).map lowB) = foldB s) := by unfold Hid; rw [HF.out, putB_low_labs hN]
    have hs255 : s.size ≤ 255 := ((isN_iff s).1 hN).1
    have HM : Hid (∀ x ∈ labs s, x.size ≤ 63) := fun x hx => (labs_mem hx).2
    have HZ : Hid (putB (labs s) = s) := putB_labs hN
    have hll : (labs s).length ≤ 255 := by have := chunks_len (labs s); have := putB_size (labs s); rw [HZ.out] at this; omega
    go_enter Try.func20, Try.ntmps20
    go_wp2_with (go_at_call 27; refine (split_yes s _ hs hN).mono ?_; rintro e w' ⟨p, cap, rfl, ⟨hc, _⟩, hB⟩)
    go_loopw [5, 17] (fun ov i wr => ∃ k : Nat, i = .int .i64 k ∧ k ≤ (labs s).length ∧ wr.ownsRow w'.heap.size 9 1 ov k ((((labs s).map lowB).take k).map Value.string) ∧ Below w'.heap.size w' wr)
      (fun _ i _ => (labs s).length - (intOf i).toNat)
    case atStart => exact ⟨0, rfl, Nat.zero_le _, World.ownsRow_nil _ _ _ _, Below.refl _ _⟩
    case round =>
      obtain ⟨k, rfl, hk, hown, hBr⟩ := hrel
      by_cases hlt : k < (labs s).length
      · obtain ⟨g, off, rfl, hg, hcell0⟩ := hc k hlt
        have hcell := (hBr.cell (p := ⟨g, off + k, none⟩) hg).trans hcell0
        have hx63 : (labs s)[k].size ≤ 63 := HM.out _ (List.getElem_mem _)
        obtain ⟨x, hx⟩ : ∃ x, (labs s)[k] = x := ⟨_, rfl⟩
        rw [hx] at hcell hx63
        have HT : Hid ((((labs s).map lowB).take (k + 1)).map Value.string = (((labs s).map lowB).take k).map Value.string ++ [.string (lowB x)]) := by
          unfold Hid
          rw [List.take_succ_eq_append_getElem (by simpa using hlt)]
          simp [hx]
        clear hx hcell0
        go_wp2_with (first
          | (go_at_call 28; refine (low_any x _ (by omega)).mono ?_; rintro e w2 ⟨rfl, hB2⟩; have hown2 := ownsRow_below hown hB2)
          | (at_builtin; refine wpList_append_own _ rfl _ _ 22 rfl w'.heap.size 9 i0 (.string .empty) 1 16 Try.underlying22 hi hz0 hz1 hz2 rfl (by decide) _ _ _ rfl (hown2.alloc _) ⟨w2.heap.size, 0, none⟩ 1 1 [.string (lowB x)] rfl rfl (cell_one_new _ _ _) (by simp [Value.oneCell']) (by unfold maxLen; omega) (by omega) (by have := hBr.size; have := hB2.size; simp; omega) ?_; intro v' w3 hown' hgrow _))
        refine ⟨⟨k + 1, by go_num, hlt, ?_, below_app (bstep hBr hB2 hBr.size) (Nat.le_refl _) hown2 hgrow⟩, ?_⟩
        · rw [HT.out]; exact hown'
        · simp [intOf]; omega
      · have hstr : Strs wr u5 ((labs s).map lowB) := by
          refine Strs.of_owns (base := w'.heap.size) ?_
          rw [List.take_of_length_le (by simp; omega), show k = (labs s).length by omega] at hown
          rw [List.length_map]; exact hown
        have hz : (putB ((labs s).map lowB)).size ≤ 4294967296 := by rw [HP.out, HF.out, lowB_size]; omega
        have hM2 : ∀ x ∈ (labs s).map lowB, x.size ≤ 255 := by
          intro x hx
          obtain ⟨y, hy, rfl⟩ := List.mem_map.1 hx
          have := HM.out y hy
          rw [lowB_size]; omega
        have HS := hstr
        have HZ2 : Hid ((putB ((labs s).map lowB)).size ≤ 4294967296) := hz
        have HM2 : Hid (∀ x ∈ (labs s).map lowB, x.size ≤ 255) := hM2
        clear hstr hz hM2
        go_wp2_with (go_at_call 29; refine (put_any u5 ((labs s).map lowB) _ HS HM2.out HZ2.out).mono ?_; rintro e w4 ⟨rfl, hB4⟩)
        go_ret
        exact ⟨by rw [HP.out]; rfl, bstep (hB.trans (hBr.mono hB.size)) hB4 (Nat.le_trans hB.size hBr.size)⟩

/-- name.Fold -/
theorem fold_any (s : ByteArray) (w : World) (hm : s.size ≤ maxLen) :
    Calls Try.prog 18 #[.string s] w fun e w' => e = .returned (.string (foldB s)) ∧ Below w.heap.size w w' := by
  cases hN : isN s with
  | false =>
    have HF : Hid (foldB s = ByteArray.empty) := foldB_no hN
    go_enter Try.func18, Try.ntmps18
    go_wp2_with (go_at_call 25; refine (isName_any s _ hm).mono ?_; rintro e w' ⟨rfl, hB⟩)
    go_ret
    exact ⟨by rw [HF.out]; rfl, hB⟩
  | true =>
    have HF : Hid (foldB s = lowB s) := foldB_yes hN
    have hs255 : s.size ≤ 255 := ((isN_iff s).1 hN).1
    go_enter Try.func18, Try.ntmps18
    go_wp2_with (first
      | (go_at_call 25; refine (isName_any s _ hm).mono ?_; rintro e w' ⟨rfl, hB⟩)
      | (go_at_call 26; refine (small_any s _ (by omega)).mono ?_; rintro e w2 ⟨rfl, hB2⟩))
    go_ret
    exact ⟨by rw [HF.out]; rfl, bstep hB hB2 hB.size⟩
end Go.Proofs.Ytndkjnehkfleaaa
