import Derived.Test.YtiaccimdjfdkgaaGreatDoorShwG
import Derived.Test.YtiaccimdjfdkgaaGreatDoorSu1G
import Derived.Test.YtiaccimdjfdkgaaGreatDoorMath15G
namespace Go.Proofs.YtiaccimdjfdkgaaGreatDoor
set_option linter.unusedVariables false
open Go.RowKit Go.Shelf Go.Proofs.YtiaccimdjfdkgaaGreatDoor.Nm

/-- spell.isDigit -/
theorem isDigit_any (x : Nat) (w : World) (hx : x < 256) :
    Calls Tryz.prog 136 #[.int .u8 (x : Int)] w fun e w' => e = .returned (.bool (isD x)) ∧ w' = w := by
  by_cases h1 : 48 ≤ x
  · by_cases h2 : x ≤ 57
    · have HD : Hid (isD x = true) := by unfold Hid isD; exact decide_eq_true ⟨h1, h2⟩
      go_enter Tryz.func136, Tryz.ntmps136
      go_wp2
      go_ret
      exact ⟨by rw [HD.out]; simp; omega, rfl⟩
    · have HD : Hid (isD x = false) := by unfold Hid isD; exact decide_eq_false (by omega)
      have h2' : 57 < x := by omega
      go_enter Tryz.func136, Tryz.ntmps136
      go_wp2
      go_ret
      exact ⟨by rw [HD.out]; simp; omega, rfl⟩
  · have HD : Hid (isD x = false) := by unfold Hid isD; exact decide_eq_false (by omega)
    have h1' : x < 48 := by omega
    go_enter Tryz.func136, Tryz.ntmps136
    go_wp2
    go_ret
    exact ⟨by rw [HD.out]; first | rfl | (simp; omega), rfl⟩

set_option maxRecDepth 100000 in
set_option maxHeartbeats 1000000 in
/-- spell.Byte -/
theorem byte_any (r : ByteArray) (w : World) (h0 : 0 < r.size) (hr : r.size ≤ 1048576) (hG : Gl w) :
    Calls Tryz.prog 121 #[.string r] w fun e w' => e = .returned (.tuple #[.int .u8 ((pc r).1 : Int), .int .i64 ((pc r).2 : Int)]) ∧ Below w.heap.size w w' := by
  obtain ⟨y0, hy0, HY0, hy0l⟩ := bt_wrap h0
  have he := isEmpty_false (r := r) (by omega)
  by_cases hb : y0 = 92
  · subst hb
    by_cases hs2 : 1 < r.size
    · obtain ⟨y1, hy1, HY1, hy1l⟩ := bt_wrap hs2
      cases hd1 : isD y1 with
      | false =>
        have HP : Hid (pc r = (y1, 2)) := by unfold Hid pc; rw [if_neg (by omega), if_neg (by omega), HY1, if_pos hd1]
        clear HY0 HY1
        go_enter Tryz.func121, Tryz.ntmps121
        go_wp2_with (go_at_call 136; refine (isDigit_any y1 _ hy1l).mono ?_; rintro e w1 ⟨rfl, rfl⟩; rw [hd1])
        go_ret2
        exact ⟨by rw [HP.out]; rfl, Below.refl _ _⟩
      | true =>
        by_cases hs4 : r.size < 4
        · have HP : Hid (pc r = (0, 0)) := pc_short HY0 hs4 (.inr (by rw [HY1]; exact hd1))
          clear HY0 HY1
          go_enter Tryz.func121, Tryz.ntmps121
          go_wp2_with (go_at_call 136; refine (isDigit_any y1 _ hy1l).mono ?_; rintro e w1 ⟨rfl, rfl⟩; rw [hd1])
          go_ret2
          exact ⟨by rw [HP.out]; rfl, Below.refl _ _⟩
        · have hs4' : 4 ≤ r.size := by omega
          have HPN := pc_num hs4' HY0 (by rw [HY1]; exact hd1)
          have hz3 : (r.extract 1 4).size ≤ 1048576 := by rw [size_extract' _ _ _ hs4']; omega
          have hnum := fun w => number_at (r.extract 1 4) 8 3 w (.inl rfl) (by omega) hz3
          cases hn : numR 8 3 (r.extract 1 4) with
          | none =>
            rw [hn] at HPN hnum
            have HP : Hid (pc r = (0, 0)) := HPN
            have HN := hide' hnum
            clear HY0 HY1 HPN hn hnum hs4 hz3
            go_enter Tryz.func121, Tryz.ntmps121
            go_wp2_with (first
              | (go_at_call 136; refine (isDigit_any y1 _ hy1l).mono ?_; rintro e w1 ⟨rfl, rfl⟩; rw [hd1])
              | (go_at_call 73; refine (HN.out _ hG).mono ?_; rintro e w2 ⟨rfl, hB2⟩; simp only [Option.isSome, Option.getD]))
            go_ret2
            exact ⟨by rw [HP.out]; rfl, hB2⟩
          | some u =>
            rw [hn] at HPN hnum
            have HP : Hid (pc r = (u, 4)) := HPN
            have hu : u < 256 := by have := (pc_le r h0).2; rw [HP.out] at this; exact this
            have HN := hide' hnum
            clear HY0 HY1 HPN hn hnum hs4 hz3
            go_enter Tryz.func121, Tryz.ntmps121
            go_wp2_with (first
              | (go_at_call 136; refine (isDigit_any y1 _ hy1l).mono ?_; rintro e w1 ⟨rfl, rfl⟩; rw [hd1])
              | (go_at_call 73; refine (HN.out _ hG).mono ?_; rintro e w2 ⟨rfl, hB2⟩; simp only [Option.isSome, Option.getD]))
            go_ret2
            exact ⟨by rw [HP.out]; first | rfl | (congr 2; omega), hB2⟩
    · have HP : Hid (pc r = (0, 0)) := pc_short HY0 (by omega) (.inl (by omega))
      have hs1 : r.size < 2 := by omega
      clear HY0
      go_enter Tryz.func121, Tryz.ntmps121
      go_wp2
      go_ret2
      exact ⟨by rw [HP.out]; rfl, Below.refl _ _⟩
  · have HP : Hid (pc r = (y0, 1)) := by unfold Hid pc; rw [HY0, if_pos hb]
    have hb' : ((y0 : Int) == 92) = false := by rw [beq_eq_false_iff_ne]; omega
    have hb'' : ((y0 : Int) != 92) = true := by rw [bne_iff_ne]; omega
    clear HY0
    go_enter Tryz.func121, Tryz.ntmps121
    go_wp2
    go_ret2
    exact ⟨by rw [HP.out]; rfl, Below.refl _ _⟩
end Go.Proofs.YtiaccimdjfdkgaaGreatDoor

namespace Go.Proofs.YtiaccimdjfdkgaaGreatDoor
set_option linter.unusedVariables false
open Go.RowKit Go.Shelf Go.Proofs.YtiaccimdjfdkgaaGreatDoor.Nm

end Go.Proofs.YtiaccimdjfdkgaaGreatDoor

namespace Go.Proofs.YtiaccimdjfdkgaaGreatDoor
set_option linter.unusedVariables false
open Go.RowKit Go.Shelf Go.Proofs.YtiaccimdjfdkgaaGreatDoor.Nm

/-- two rows of two kinds do not lie in one block -/
theorem rows_ne {w : World} {base e1 e2 s1 s2 n1 n2 : Nat} {v1 v2 : Value} {xs ys : List Value} (h1 : w.ownsRow base e1 s1 v1 n1 xs) (h2 : w.ownsRow base e2 s2 v2 n2 ys) (hne : e1 ≠ e2) : v1.ownBlock = none ∨ v1.ownBlock ≠ v2.ownBlock := by
  obtain ⟨_, (⟨rfl, _⟩ | ⟨g, cap, cur, rfl, _, hg, _⟩)⟩ := h1
  · exact .inl rfl
  · right
    obtain ⟨_, (⟨rfl, _⟩ | ⟨g', cap', cur', rfl, _, hg', _⟩)⟩ := h2
    · simp [Value.ownBlock]
    · intro e
      simp [Value.ownBlock] at e
      subst e
      rw [hg] at hg'
      simp at hg'
      exact hne hg'.2

theorem row_other {w2 w3 : World} {base e1 e2 s1 s2 n1 n2 : Nat} {o : Obj} {v1 v2 : Value} {xs ys : List Value} (h1 : w2.ownsRow base e1 s1 v1 n1 xs) (h2 : w2.ownsRow base e2 s2 v2 n2 ys) (hne : e1 ≠ e2) (hg : (w2.alloc o).grownBy w3 v2.ownBlock) : w3.ownsRow base e1 s1 v1 n1 xs :=
  (h1.alloc o).kept hg (rows_ne (h1.alloc o) (h2.alloc o) hne)

theorem readB_noName {t o : ByteArray} (h : isN o = false) : readB t o = (ByteArray.empty, 0, 1) := by unfold readB; rw [if_pos h]
theorem readB_empty {t o : ByteArray} (h : isN o = true) (h0 : t.size = 0) : readB t o = (ByteArray.empty, 0, 2) := by unfold readB; rw [if_neg (by rw [h]; decide), if_pos h0]
theorem readB_at {t o : ByteArray} (h : isN o = true) (h0 : t = bts [64]) : readB t o = (o, 0, 0) := by
  unfold readB; rw [if_neg (by rw [h]; decide), if_neg (by rw [h0, bts_size]; simp), if_pos h0]
theorem readB_dot {t o : ByteArray} (h : isN o = true) (h0 : t = bts [46]) : readB t o = (bts [0], 0, 0) := by
  unfold readB; rw [if_neg (by rw [h]; decide), if_neg (by rw [h0, bts_size]; simp), if_neg (by rw [h0]; decide +kernel), if_pos h0]
theorem toList_lit (t : ByteArray) (b : Nat) : (t.toList == [UInt8.ofNat b]) = decide (t = bts [b]) := by
  rw [show [UInt8.ofNat b] = (bts [b]).toList by rw [toList_eq]; rfl, toList_bt]

end Go.Proofs.YtiaccimdjfdkgaaGreatDoor
