import Derived.Test.YtnbmmdcomhbhmaaPut
import Derived.Test.YtnbmmdcomhbhmaaMath4
namespace Go.Proofs.Ytnbmmdcomhbhmaa
set_option linter.unusedVariables false
open Go.RowKit Go.Shelf Nm

theorem ownsRow_below {w w' : World} {base e size : Nat} {v : Value} {n : Nat} {xs : List Value} (h : w.ownsRow base e size v n xs) (hb : Below w.heap.size w w') : w'.ownsRow base e size v n xs := by
  obtain ⟨hl, (⟨rfl, h0⟩ | ⟨g, cap, cur, rfl, hg, hh, rest⟩)⟩ := h
  · exact ⟨hl, .inl ⟨rfl, h0⟩⟩
  · exact ⟨hl, .inr ⟨g, cap, cur, rfl, hg, (hb.block g (Array.getElem?_eq_some_iff.1 hh).1).trans hh, rest⟩⟩

theorem hide' {p : Prop} (h : p) : Hid p := h
theorem below_app {B e size n : Nat} {w' w2 w3 : World} {o : Obj} {ov : Value} {xs : List Value} (h : Below B w' w2) (hB : B ≤ w'.heap.size) (hown : w2.ownsRow B e size ov n xs) (hg : (w2.alloc o).grownBy w3 ov.ownBlock) : Below B w' w3 :=
  (h.alloc (Nat.le_trans hB h.size) _).grown hg (by have := h.size; simp; omega) (fun _ e => ownBlock_le hown e)
theorem bstep {B : Nat} {a b c : World} (h : Below B a b) (k : Below b.heap.size b c) (hB : B ≤ b.heap.size) : Below B a c := h.trans (k.mono hB)

/-- gazetteerref1.IsName -/
theorem refIsName_any (s : ByteArray) (w : World) (hs : s.size ≤ 1048576) :
    Calls Try.prog 28 #[.string s] w fun e w' => e = .returned (.bool (isN s)) ∧ Below w.heap.size w w' := by
  go_enter Try.func28, Try.ntmps28
  go_wp2_with (go_at_call 27; refine (split_any s _ hs).mono ?_; rintro e w' ⟨v, rfl, hv, hB⟩)
  go_ret
  exact ⟨rfl, hB⟩

/-- gazetteerref1.Check -/
theorem refCheck_any (s : ByteArray) (w : World) (hs : s.size ≤ 1048576) :
    Calls Try.prog 13 #[.string s] w fun e w' => e = .returned (.int .i64 (chk s)) ∧ Below w.heap.size w w' := by
  have HC : Hid (chk s = if isN s = true then 0 else 1) := rfl
  go_enter Try.func13, Try.ntmps13
  cases hN : isN s with
  | true =>
    rw [hN] at HC
    go_wp2_with (go_at_call 28; refine (refIsName_any s _ hs).mono ?_; rintro e w' ⟨rfl, hB⟩)
    go_ret
    exact ⟨by rw [HC.out]; rfl, hB⟩
  | false =>
    rw [hN] at HC
    go_wp2_with (go_at_call 28; refine (refIsName_any s _ hs).mono ?_; rintro e w' ⟨rfl, hB⟩)
    go_ret
    exact ⟨by rw [HC.out]; rfl, hB⟩

set_option maxRecDepth 100000 in
set_option maxHeartbeats 1000000 in
/-- gazetteerref1.FoldName -/
theorem foldName_any (s : ByteArray) (w : World) (hs : s.size ≤ 1048576) :
    Calls Try.prog 17 #[.string s] w fun e w' => e = .returned (.string (foldB s)) ∧ Below w.heap.size w w' := by
  obtain ⟨i0, hi, hz0, hz1, hz2⟩ := info_parts Try.infoStr
  cases hN : isN s with
  | false =>
    have HF : Hid (foldB s = ByteArray.empty) := foldB_no hN
    go_enter Try.func17, Try.ntmps17
    go_wp2_with (go_at_call 27; refine (split_any s _ hs).mono ?_; rintro e w' ⟨v, rfl, hv, hB⟩)
    go_ret
    exact ⟨by rw [HF.out]; rfl, hB⟩
  | true =>
    have HF : Hid (foldB s = lowB s) := foldB_yes hN
    have HP : Hid (putB ((labs s).map lowB) = foldB s) := by unfold Hid; rw [HF.out, putB_low_labs hN]
    have hs255 : s.size ≤ 255 := ((isN_iff s).1 hN).1
    have HM : Hid (∀ x ∈ labs s, x.size ≤ 63) := fun x hx => (labs_mem hx).2
    have HZ : Hid (putB (labs s) = s) := putB_labs hN
    have hll : (labs s).length ≤ 255 := by have := chunks_len (labs s); have := putB_size (labs s); rw [HZ.out] at this; omega
    go_enter Try.func17, Try.ntmps17
    go_wp2_with (go_at_call 27; refine (split_yes s _ hs hN).mono ?_; rintro e w' ⟨p, cap, rfl, ⟨hc, _⟩, hB⟩)
    go_loopw [5, 17] (fun ov i wr => ∃ k : Nat, i = .int .i64 k ∧ k ≤ (labs s).length ∧ wr.ownsRow w'.heap.size 9 1 ov k ((((labs s).map lowB).take k).map Value.string) ∧ Below w'.heap.size w' wr)
      (fun _ i _ => (labs s).length - (intOf i).toNat)
    case atStart => exact ⟨0, rfl, Nat.zero_le _, World.ownsRow_nil _ _ _ _, Below.refl _ _⟩
    case round =>
      obtain ⟨k, rfl, hk, hown, hBr⟩ := hrel
      by_cases hlt : k < (labs s).length
      · obtain ⟨g, off, rfl, hg, hcell0⟩ := hc k hlt
        have hcell := (hBr.cell (p := ⟨g, off + k, none⟩) hg).trans hcell0
        have hx63 : (labs s)[k].size ≤ 63 := HM.out _ (List.getElem_mem _)
        obtain ⟨x, hx⟩ : ∃ x, (labs s)[k] = x := ⟨_, rfl⟩
        rw [hx] at hcell hx63
        have HT : Hid ((((labs s).map lowB).take (k + 1)).map Value.string = (((labs s).map lowB).take k).map Value.string ++ [.string (lowB x)]) := by
          unfold Hid
          rw [List.take_succ_eq_append_getElem (by simpa using hlt)]
          simp [hx]
        clear hx hcell0
        go_wp2_with (first
          | (go_at_call 52; refine (low_any x _ (by omega)).mono ?_; rintro e w2 ⟨rfl, hB2⟩; have hown2 := ownsRow_below hown hB2)
          | (at_builtin; refine wpList_append_own _ rfl _ _ 31 rfl w'.heap.size 9 i0 (.string .empty) 1 16 Try.underlying31 hi hz0 hz1 hz2 rfl (by decide) _ _ _ rfl (hown2.alloc _) ⟨w2.heap.size, 0, none⟩ 1 1 [.string (lowB x)] rfl rfl (cell_one_new _ _ _) (by simp [Value.oneCell']) (by unfold maxLen; omega) (by omega) (by have := hBr.size; have := hB2.size; simp; omega) ?_; intro v' w3 hown' hgrow _))
        refine ⟨⟨k + 1, by go_num, hlt, ?_, below_app (bstep hBr hB2 hBr.size) (Nat.le_refl _) hown2 hgrow⟩, ?_⟩
        · rw [HT.out]; exact hown'
        · simp [intOf]; omega
      · have hstr : Strs wr u5 ((labs s).map lowB) := by
          refine Strs.of_owns (base := w'.heap.size) ?_
          rw [List.take_of_length_le (by simp; omega), show k = (labs s).length by omega] at hown
          rw [List.length_map]; exact hown
        have hz : (putB ((labs s).map lowB)).size ≤ 4294967296 := by rw [HP.out, HF.out, lowB_size]; omega
        have hM2 : ∀ x ∈ (labs s).map lowB, x.size ≤ 255 := by
          intro x hx
          obtain ⟨y, hy, rfl⟩ := List.mem_map.1 hx
          have := HM.out y hy
          rw [lowB_size]; omega
        have HS := hstr
        have HZ2 : Hid ((putB ((labs s).map lowB)).size ≤ 4294967296) := hz
        have HM2 : Hid (∀ x ∈ (labs s).map lowB, x.size ≤ 255) := hM2
        clear hstr hz hM2
        go_wp2_with (go_at_call 47; refine (put_any u5 ((labs s).map lowB) _ HS HM2.out HZ2.out).mono ?_; rintro e w4 ⟨rfl, hB4⟩)
        go_ret
        exact ⟨by rw [HP.out]; rfl, bstep (hB.trans (hBr.mono hB.size)) hB4 (Nat.le_trans hB.size hBr.size)⟩

set_option maxRecDepth 100000 in
set_option maxHeartbeats 1000000 in
/-- name.Fold -/
theorem fold_any (s : ByteArray) (w : World) (hm : s.size ≤ maxLen) :
    Calls Try.prog 16 #[.string s] w fun e w' => e = .returned (.string (foldB s)) ∧ Below w.heap.size w w' := by
  have hcv := fun w' => run_bytes_of_string (P := Try.prog) w' 9 45 5 s Try.underlying9 Try.underlying45 Try.underlying5
  cases hN : isN s with
  | false =>
    have HF : Hid (foldB s = ByteArray.empty) := foldB_no hN
    clear hcv
    go_enter Try.func16, Try.ntmps16
    go_wp2_with (go_at_call 44; refine (isName_any s _ hm).mono ?_; rintro e w' ⟨rfl, hB⟩)
    go_ret
    exact ⟨by rw [HF.out]; rfl, hB⟩
  | true =>
    have HF : Hid (foldB s = lowB s) := foldB_yes hN
    have hs255 : s.size ≤ 255 := ((isN_iff s).1 hN).1
    go_enter Try.func16, Try.ntmps16
    go_wp2_with (go_at_call 44; refine (isName_any s _ hm).mono ?_; rintro e w' ⟨rfl, hB⟩)
    go_loopw [13] (fun i wr => ∃ k : Nat, i = .int .i64 k ∧ k ≤ s.size ∧ HoldsB wr w'.heap.size s.size (fun j => if j < k then lowN (bt s j) else bt s j) ∧ Below w'.heap.size w' wr)
      (fun i _ => s.size - (intOf i).toNat)
    case atStart => exact ⟨0, rfl, Nat.zero_le _, ((holdsB_new _ _ _ _).drew).congr (by simp), ((Below.refl _ _).alloc (Nat.le_refl _) _).drew⟩
    case round =>
      obtain ⟨k, rfl, hk, hH, hBr⟩ := hrel
      by_cases hlt : k < s.size
      · have hc := hH.cell k hlt
        have hfr := hH.free k hlt
        simp only [Nat.lt_irrefl, if_false] at hc
        obtain ⟨x, hx, hx256⟩ : ∃ x, bt s k = x ∧ x < 256 := ⟨_, rfl, bt_lt _ _⟩
        rw [hx] at hc
        have HX : Hid (bt s k = x) := hx
        clear hx
        have hnext : ∀ (W : World) (y : Nat), y = lowN x → HoldsB W w'.heap.size s.size (fun j => if j = k then y else if j < k then lowN (bt s j) else bt s j) → HoldsB W w'.heap.size s.size (fun j => if j < k + 1 then lowN (bt s j) else bt s j) := by
          intro W y hy h
          refine h.congr fun j _ => ?_
          by_cases e : j = k
          · subst e; rw [if_pos rfl, if_pos (by omega), hy, HX.out]
          · rw [if_neg e]
            by_cases e2 : j < k
            · rw [if_pos e2, if_pos (by omega)]
            · rw [if_neg e2, if_neg (by omega)]
        have hstay : ∀ (W : World), lowN x = x → HoldsB W w'.heap.size s.size (fun j => if j < k then lowN (bt s j) else bt s j) → HoldsB W w'.heap.size s.size (fun j => if j < k + 1 then lowN (bt s j) else bt s j) := by
          intro W hy h
          refine h.congr fun j _ => ?_
          by_cases e : j = k
          · subst e; rw [if_neg (by omega), if_pos (by omega), HX.out, hy]
          · by_cases e2 : j < k
            · rw [if_pos e2, if_pos (by omega)]
            · rw [if_neg e2, if_neg (by omega)]
        have HNX := hide' hnext
        have HST := hide' hstay
        clear hnext hstay
        by_cases h65 : 65 ≤ x
        · by_cases h90 : x ≤ 90
          · go_wp2
            go_roundw
            case rel => exact ⟨k + 1, by go_num, hlt, HNX.out _ (x + 32) (by unfold lowN; rw [if_pos ⟨h65, h90⟩]) (hH.set k (x + 32) hlt), hBr.setCell (p := ⟨w'.heap.size, k, none⟩) (Nat.le_refl _) _⟩
            case measure => simp [intOf]; omega
          · have h90' : 90 < x := by omega
            go_wp2
            go_roundw
            case rel => exact ⟨k + 1, by go_num, hlt, HST.out _ (by unfold lowN; rw [if_neg (by omega)]) hH, hBr⟩
            case measure => simp [intOf]; omega
        · have h65' : x < 65 := by omega
          go_wp2
          go_roundw
          case rel => exact ⟨k + 1, by go_num, hlt, HST.out _ (by unfold lowN; rw [if_neg (by omega)]) hH, hBr⟩
          case measure => simp [intOf]; omega
      · have hst : ∀ cap, (convert 45 9 (.slice (some ⟨w'.heap.size, 0, none⟩) s.size cap)).run Try.prog wr = .ok (.string (lowB s)) wr := fun cap => by
          have hz := lowB_size s
          rw [← hz] at hH ⊢
          exact hH.str (fun j hj => by rw [if_pos (by omega), lowB_bt]) cap
        go_wp2
        go_ret
        exact ⟨by rw [HF.out]; rfl, hB.trans (hBr.mono hB.size)⟩
end Go.Proofs.Ytnbmmdcomhbhmaa
