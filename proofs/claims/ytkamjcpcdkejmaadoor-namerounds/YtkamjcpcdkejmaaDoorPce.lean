import Derived.Test.YtkamjcpcdkejmaaDoorRdb
namespace Go.Proofs.YtkamjcpcdkejmaaDoor
set_option linter.unusedVariables false
open Go.RowKit Go.Shelf Nm

set_option maxRecDepth 100000 in
set_option maxHeartbeats 1000000 in
/-- gazetteerref1.piece -/
theorem piece_any (r : ByteArray) (w : World) (h0 : 0 < r.size) (hr : r.size ≤ 1048576) :
    Calls Tryd.prog 20 #[.string r] w fun e w' => e = .returned (.tuple #[.int .u8 ((pc r).1 : Int), .int .i64 ((pc r).2 : Int)]) ∧ w' = w := by
  obtain ⟨y0, hy0, HY0, hy0l⟩ := bt_wrap h0
  by_cases hb : y0 = 92
  · subst hb
    by_cases hs2 : 1 < r.size
    · obtain ⟨y1, hy1, HY1, hy1l⟩ := bt_wrap hs2
      have hs2' : 2 ≤ r.size := by omega
      cases hd1 : isD y1 with
      | false =>
        have HP : Hid (pc r = (y1, 2)) := by unfold Hid pc; rw [if_neg (by omega), if_neg (by omega), HY1, if_pos hd1]
        have hd2 : y1 < 48 ∨ 57 < y1 := by unfold isD at hd1; have := of_decide_eq_false hd1; omega
        clear HY0 HY1
        rcases hd2 with h | h
        all_goals
          go_enter Tryd.func20, Tryd.ntmps20
          go_wp2
          go_ret2
          exact ⟨by rw [HP.out]; rfl, rfl⟩
      | true =>
        have hd2 : 48 ≤ y1 ∧ y1 ≤ 57 := by unfold isD at hd1; exact of_decide_eq_true hd1
        obtain ⟨hd2, hd3⟩ := hd2
        have HBAD : Hid (∀ k, 1 ≤ k → k < 4 → (r.size ≤ k ∨ isD (bt r k) = false) → pc r = (0, 0)) := by
          intro k hk1 hk4 hk
          unfold pc
          rw [if_neg (by omega), if_neg (by omega), HY1, if_neg (by rw [hd1]; decide), if_pos]
          have : k = 1 ∨ k = 2 ∨ k = 3 := by omega
          rcases hk with hk | hk
          · left; omega
          · rcases this with rfl | rfl | rfl
            · rw [HY1, hd1] at hk; cases hk
            · exact .inr (.inl hk)
            · exact .inr (.inr hk)
        have HGOOD : Hid ((∀ j, 1 ≤ j → j ≤ 3 → isD (bt r j) = true) → 4 ≤ r.size → pc r = if 255 < dv r 3 then (0, 0) else (dv r 3, 4)) := by
          intro h h4
          unfold pc
          rw [if_neg (by omega), if_neg (by omega), if_neg (by rw [h 1 (by omega) (by omega)]; decide), if_neg (by rw [h 2 (by omega) (by omega), h 3 (by omega) (by omega)]; simp; omega)]
        clear HY0 HY1
        go_enter Tryd.func20, Tryd.ntmps20
        go_wp2
        go_loopw [4, 5] (fun nv i wr => ∃ k : Nat, i = .int .i64 ((k : Int) + 1) ∧ k ≤ 3 ∧ nv = .int .i64 (dv r k) ∧ Hid (∀ j, 1 ≤ j → j ≤ k → isD (bt r j) = true) ∧ k < r.size ∧ wr = w) (fun _ i _ => (4 - intOf i).toNat)
        case atStart => exact ⟨0, rfl, by omega, rfl, fun j a b => by omega, h0, rfl⟩
        case round =>
          obtain ⟨k, rfl, hk, rfl, HD, hkr0, rfl⟩ := hrel
          have hdv : dv r k ≤ 1000 := by
            have h1 := dv_lt r k HD.out
            have : k = 0 ∨ k = 1 ∨ k = 2 ∨ k = 3 := by omega
            rcases this with rfl | rfl | rfl | rfl <;> simp at h1 <;> omega
          by_cases hk3 : k < 3
          · by_cases hkr : k + 1 < r.size
            · obtain ⟨y, hy, HY, hyl⟩ := bt_wrap hkr
              have hw : wrap64 (y : Int) = (y : Int) := wrap64_byte' hyl
              cases hd : isD y with
              | false =>
                have HP : Hid (pc r = (0, 0)) := HBAD.out (k + 1) (by omega) (by omega) (.inr (by rw [HY]; exact hd))
                have hd4 : y < 48 ∨ 57 < y := by unfold isD at hd; have := of_decide_eq_false hd; omega
                clear HY
                rcases hd4 with h | h
                all_goals
                  go_wp2
                  go_ret2
                  exact ⟨by rw [HP.out]; rfl, rfl⟩
              | true =>
                have hd4 : 48 ≤ y ∧ y ≤ 57 := by unfold isD at hd; exact of_decide_eq_true hd
                obtain ⟨hd4, hd5⟩ := hd4
                have HDV : Hid (((dv r (k + 1) : Nat) : Int) = (dv r k : Int) * 10 + (y : Int) - 48) := by
                  unfold Hid; simp only [dv]; rw [HY]; omega
                have HD2 : Hid (∀ j, 1 ≤ j → j ≤ k + 1 → isD (bt r j) = true) := by
                  intro j h1 h2
                  by_cases e : j = k + 1
                  · subst e; rw [HY]; exact hd
                  · exact HD.out j h1 (by omega)
                clear HY
                generalize dv r k = D at *
                go_wp2
                refine ⟨⟨k + 1, by go_num, by omega, by rw [HDV.out], HD2, by omega, by first | rfl | trivial⟩, ?_⟩
                simp [intOf]; omega
            · have HP : Hid (pc r = (0, 0)) := HBAD.out (k + 1) (by omega) (by omega) (.inl (by omega))
              have hkr' : (r.size : Int) ≤ (k : Int) + 1 := by omega
              go_wp2
              go_ret2
              exact ⟨by rw [HP.out]; rfl, rfl⟩
          · obtain rfl : k = 3 := by omega
            have HG := HGOOD.out HD.out (by omega)
            by_cases h255 : 255 < dv r 3
            · have HP : Hid (pc r = (0, 0)) := by unfold Hid; rw [HG, if_pos h255]
              clear HG
              go_wp2
              go_ret2
              exact ⟨by rw [HP.out]; rfl, rfl⟩
            · have HP : Hid (pc r = (dv r 3, 4)) := by unfold Hid; rw [HG, if_neg h255]
              have h255' : dv r 3 ≤ 255 := by omega
              clear HG h255
              go_wp2
              go_ret2
              exact ⟨by rw [HP.out]; rfl, rfl⟩
    · have HP : Hid (pc r = (0, 0)) := by unfold Hid pc; rw [if_neg (by omega), if_pos (by omega)]
      have hs1 : r.size < 2 := by omega
      clear HY0
      go_enter Tryd.func20, Tryd.ntmps20
      go_wp2
      go_ret2
      exact ⟨by rw [HP.out]; rfl, rfl⟩
  · have HP : Hid (pc r = (y0, 1)) := by unfold Hid pc; rw [HY0, if_pos hb]
    have hb' : ((y0 : Int) == 92) = false := by rw [beq_eq_false_iff_ne]; omega
    have hb'' : ((y0 : Int) != 92) = true := by rw [bne_iff_ne]; omega
    clear HY0
    go_enter Tryd.func20, Tryd.ntmps20
    go_wp2
    go_ret2
    exact ⟨by rw [HP.out]; rfl, rfl⟩
end Go.Proofs.YtkamjcpcdkejmaaDoor
