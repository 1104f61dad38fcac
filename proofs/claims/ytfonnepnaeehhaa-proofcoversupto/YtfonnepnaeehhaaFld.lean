import Derived.Test.YtfonnepnaeehhaaPut
import Derived.Test.YtfonnepnaeehhaaSml
import Derived.Test.YtfonnepnaeehhaaMath4
namespace Go.Proofs.Ytfonnepnaeehhaa
set_option linter.unusedVariables false
open Go.RowKit Go.Shelf Nm

theorem ownsRow_below {w w' : World} {base e size : Nat} {v : Value} {n : Nat} {xs : List Value} (h : w.ownsRow base e size v n xs) (hb : Below w.heap.size w w') : w'.ownsRow base e size v n xs := by
  obtain ⟨hl, (⟨rfl, h0⟩ | ⟨g, cap, cur, rfl, hg, hh, rest⟩)⟩ := h
  · exact ⟨hl, .inl ⟨rfl, h0⟩⟩
  · exact ⟨hl, .inr ⟨g, cap, cur, rfl, hg, (hb.block g (Array.getElem?_eq_some_iff.1 hh).1).trans hh, rest⟩⟩

theorem below_app {B e size n : Nat} {w' w2 w3 : World} {o : Obj} {ov : Value} {xs : List Value} (h : Below B w' w2) (hB : B ≤ w'.heap.size) (hown : w2.ownsRow B e size ov n xs) (hg : (w2.alloc o).grownBy w3 ov.ownBlock) : Below B w' w3 :=
  (h.alloc (Nat.le_trans hB h.size) _).grown hg (by have := h.size; simp; omega) (fun _ e => ownBlock_le hown e)
theorem bstep {B : Nat} {a b c : World} (h : Below B a b) (k : Below b.heap.size b c) (hB : B ≤ b.heap.size) : Below B a c := h.trans (k.mono hB)

/-- gazetteerref1.IsName -/
theorem refIsName_any (s : ByteArray) (w : World) (hs : s.size ≤ 1048576) :
    Calls Try.prog 9 #[.string s] w fun e w' => e = .returned (.bool (isN s)) ∧ Below w.heap.size w w' := by
  go_enter Try.func9, Try.ntmps9
  go_wp2_with (go_at_call 18; refine (split_any s _ hs).mono ?_; rintro e w' ⟨v, rfl, hv, hB⟩)
  go_ret
  exact ⟨rfl, hB⟩

/-- name.Fold -/
theorem fold_any (s : ByteArray) (w : World) (hm : s.size ≤ maxLen) :
    Calls Try.prog 14 #[.string s] w fun e w' => e = .returned (.string (foldB s)) ∧ Below w.heap.size w w' := by
  cases hN : isN s with
  | false =>
    have HF : Hid (foldB s = ByteArray.empty) := foldB_no hN
    go_enter Try.func14, Try.ntmps14
    go_wp2_with (go_at_call 12; refine (isName_any s _ hm).mono ?_; rintro e w' ⟨rfl, hB⟩)
    go_ret
    exact ⟨by rw [HF.out]; rfl, hB⟩
  | true =>
    have HF : Hid (foldB s = lowB s) := foldB_yes hN
    have hs255 : s.size ≤ 255 := ((isN_iff s).1 hN).1
    go_enter Try.func14, Try.ntmps14
    go_wp2_with (first
      | (go_at_call 12; refine (isName_any s _ hm).mono ?_; rintro e w' ⟨rfl, hB⟩)
      | (go_at_call 21; refine (small_any s _ (by omega)).mono ?_; rintro e w2 ⟨rfl, hB2⟩))
    go_ret
    exact ⟨by rw [HF.out]; rfl, bstep hB hB2 hB.size⟩
end Go.Proofs.Ytfonnepnaeehhaa
