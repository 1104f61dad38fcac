import Derived.Test.YtkamjcpcdkejmaaDoorPce
import Derived.Test.YtkamjcpcdkejmaaDoorMath16
namespace Go.Proofs.YtkamjcpcdkejmaaDoor
set_option linter.unusedVariables false
open Go.RowKit Go.Shelf Nm

/-- two rows of two kinds do not lie in one block -/
theorem rows_ne {w : World} {base e1 e2 s1 s2 n1 n2 : Nat} {v1 v2 : Value} {xs ys : List Value} (h1 : w.ownsRow base e1 s1 v1 n1 xs) (h2 : w.ownsRow base e2 s2 v2 n2 ys) (hne : e1 ≠ e2) : v1.ownBlock = none ∨ v1.ownBlock ≠ v2.ownBlock := by
  obtain ⟨_, (⟨rfl, _⟩ | ⟨g, cap, cur, rfl, _, hg, _⟩)⟩ := h1
  · exact .inl rfl
  · right
    obtain ⟨_, (⟨rfl, _⟩ | ⟨g', cap', cur', rfl, _, hg', _⟩)⟩ := h2
    · simp [Value.ownBlock]
    · intro e
      simp [Value.ownBlock] at e
      subst e
      rw [hg] at hg'
      simp at hg'
      exact hne hg'.2

theorem row_other {w2 w3 : World} {base e1 e2 s1 s2 n1 n2 : Nat} {o : Obj} {v1 v2 : Value} {xs ys : List Value} (h1 : w2.ownsRow base e1 s1 v1 n1 xs) (h2 : w2.ownsRow base e2 s2 v2 n2 ys) (hne : e1 ≠ e2) (hg : (w2.alloc o).grownBy w3 v2.ownBlock) : w3.ownsRow base e1 s1 v1 n1 xs :=
  (h1.alloc o).kept hg (rows_ne (h1.alloc o) (h2.alloc o) hne)

theorem readB_noName {t o : ByteArray} (h : isN o = false) : readB t o = (ByteArray.empty, 0, 1) := by unfold readB; rw [if_pos h]
theorem readB_empty {t o : ByteArray} (h : isN o = true) (h0 : t.size = 0) : readB t o = (ByteArray.empty, 0, 2) := by unfold readB; rw [if_neg (by rw [h]; decide), if_pos h0]
theorem readB_at {t o : ByteArray} (h : isN o = true) (h0 : t = bts [64]) : readB t o = (o, 0, 0) := by
  unfold readB; rw [if_neg (by rw [h]; decide), if_neg (by rw [h0, bts_size]; simp), if_pos h0]
theorem readB_dot {t o : ByteArray} (h : isN o = true) (h0 : t = bts [46]) : readB t o = (bts [0], 0, 0) := by
  unfold readB; rw [if_neg (by rw [h]; decide), if_neg (by rw [h0, bts_size]; simp), if_neg (by rw [h0]; decide +kernel), if_pos h0]
theorem toList_lit (t : ByteArray) (b : Nat) : (t.toList == [UInt8.ofNat b]) = decide (t = bts [b]) := by
  rw [show [UInt8.ofNat b] = (bts [b]).toList by rw [toList_eq]; rfl, toList_bt]

set_option maxRecDepth 100000 in
set_option maxHeartbeats 1000000 in
theorem readName_small (t o : ByteArray) (w : World) (ht : t.size ≤ 1048576) (ho : o.size ≤ 1048576) (hs : isN o = false ∨ t.size = 0 ∨ t = bts [64] ∨ t = bts [46]) :
    Calls Tryd.prog 6 #[.string t, .string o] w fun e w' => e = .returned (.tuple #[.string (readB t o).1, .int .i64 ((readB t o).2.1 : Int), .int .i64 ((readB t o).2.2 : Int)]) ∧ Below w.heap.size w w' := by
  cases hN : isN o with
  | false =>
    have HR : Hid (readB t o = (ByteArray.empty, 0, 1)) := readB_noName hN
    clear hs
    go_enter Tryd.func6, Tryd.ntmps6
    go_wp2_with (go_at_call 19; refine (split_no o _ ho hN).mono ?_; rintro e w1 ⟨v, rfl, hB1⟩)
    go_ret3
    exact ⟨by rw [HR.out]; rfl, hB1⟩
  | true =>
    by_cases h0 : t.size = 0
    · have HR : Hid (readB t o = (ByteArray.empty, 0, 2)) := readB_empty hN h0
      have he := isEmpty_true h0
      clear hs h0
      go_enter Tryd.func6, Tryd.ntmps6
      go_wp2_with (go_at_call 19; refine (split_yes o _ ho hN).mono ?_; rintro e w1 ⟨p, cap, rfl, _, hB1⟩)
      go_ret3
      exact ⟨by rw [HR.out]; rfl, hB1⟩
    · have he := isEmpty_false (r := t) (by omega)
      by_cases h64 : t = bts [64]
      · have HR : Hid (readB t o = (o, 0, 0)) := readB_at hN h64
        have h64' : (t.toList == [64]) = true := by rw [show ([64] : List UInt8) = [UInt8.ofNat 64] from rfl, toList_lit]; exact decide_eq_true h64
        clear hs h64 h0
        go_enter Tryd.func6, Tryd.ntmps6
        go_wp2_with (go_at_call 19; refine (split_yes o _ ho hN).mono ?_; rintro e w1 ⟨p, cap, rfl, _, hB1⟩)
        go_ret3
        exact ⟨by rw [HR.out]; rfl, hB1⟩
      · have h46 : t = bts [46] := by
          rcases hs with h | h | h | h
          · rw [hN] at h; cases h
          · exact absurd h h0
          · exact absurd h h64
          · exact h
        have HR : Hid (readB t o = (bts [0], 0, 0)) := readB_dot hN h46
        have h64' : (t.toList == [64]) = false := by rw [show ([64] : List UInt8) = [UInt8.ofNat 64] from rfl, toList_lit]; exact decide_eq_false h64
        have h46' : (t.toList == [46]) = true := by rw [show ([46] : List UInt8) = [UInt8.ofNat 46] from rfl, toList_lit]; exact decide_eq_true h46
        clear hs h64 h0 h46
        go_enter Tryd.func6, Tryd.ntmps6
        go_wp2_with (go_at_call 19; refine (split_yes o _ ho hN).mono ?_; rintro e w1 ⟨p, cap, rfl, _, hB1⟩)
        go_ret3
        exact ⟨by rw [HR.out]; rfl, hB1⟩
end Go.Proofs.YtkamjcpcdkejmaaDoor
