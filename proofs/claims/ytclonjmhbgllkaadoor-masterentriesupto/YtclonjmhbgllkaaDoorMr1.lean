import Derived.Test.YtclonjmhbgllkaaDoorMe5
namespace Go.Proofs.YtclonjmhbgllkaaDoor
set_option linter.unusedVariables false
open Go.RowKit Go.Shelf Nm

/-- gazetteerref2.blank -/
theorem refBlank_any (x : Nat) (w : World) (hx : x < 256) :
    Calls Tryd.prog 9 #[.int .u8 (x : Int)] w fun e w' => e = .returned (.bool (isBl x)) ∧ w' = w := by
  go_enter Tryd.func9, Tryd.ntmps9
  go_wp2
  all_goals
    go_ret
    refine ⟨?_, rfl⟩
    show Ending.returned (Value.bool _) = Ending.returned (Value.bool _)
    congr 2; unfold isBl; rw [Bool.eq_iff_iff]; simp; omega

theorem token_blank (t : ByteArray) (k : Nat) (w : World) (ht : t.size ≤ 1048576) (hk : k < t.size) (hb : isBl (bt t k) = true) :
    Calls Tryd.prog 10 #[.string t, .int .i64 (k : Int)] w fun e w' => e = .returned (.tuple #[.int .u8 32, .int .i64 ((k + 1 : Nat) : Int)]) ∧ w' = w := by
  obtain ⟨y, hy, HY, hyl⟩ := bt_wrap hk
  rw [HY] at hb
  have HB := hide2 (fun (w : World) => refBlank_any y w hyl)
  rw [hb] at HB
  clear HY hb
  go_enter Tryd.func10, Tryd.ntmps10
  go_wp2_with (go_at_call 9; refine (HB.out _).mono ?_; rintro e w ⟨rfl, rfl⟩)
  go_ret2
  exact ⟨rfl, rfl⟩
theorem token_sign (t : ByteArray) (k : Nat) (w : World) (ht : t.size ≤ 1048576) (hk : k < t.size) (hb : bt t k = 10 ∨ bt t k = 40 ∨ bt t k = 41) :
    Calls Tryd.prog 10 #[.string t, .int .i64 (k : Int)] w fun e w' => e = .returned (.tuple #[.int .u8 (bt t k : Int), .int .i64 ((k + 1 : Nat) : Int)]) ∧ w' = w := by
  obtain ⟨y, hy, HY, hyl⟩ := bt_wrap hk
  rw [HY] at hb
  rw [HY]
  have HB := hide2 (fun (w : World) => refBlank_any y w hyl)
  clear HY
  rcases hb with rfl | rfl | rfl
  all_goals
    go_enter Tryd.func10, Tryd.ntmps10
    go_wp2_with (go_at_call 9; refine (HB.out _).mono ?_; rintro e w ⟨rfl, rfl⟩)
    go_ret2
    exact ⟨rfl, rfl⟩

set_option maxRecDepth 100000 in
set_option maxHeartbeats 2000000 in
theorem token_remark (t : ByteArray) (k : Nat) (w : World) (ht : t.size ≤ 1048576) (hk : k < t.size) (hb : bt t k = 59) :
    Calls Tryd.prog 10 #[.string t, .int .i64 (k : Int)] w fun e w' => e = .returned (.tuple #[.int .u8 32, .int .i64 (rEnd t k : Int)]) ∧ w' = w := by
  obtain ⟨y, hy, HY, hyl⟩ := bt_wrap hk
  rw [HY] at hb
  subst hb
  have HB := hide2 (fun (w : World) => refBlank_any 59 w hyl)
  clear HY
  go_enter Tryd.func10, Tryd.ntmps10
  go_wp2_with (go_at_call 9; refine (HB.out _).mono ?_; rintro e w ⟨rfl, rfl⟩)
  go_loopw [7] (fun jv wr => ∃ j : Nat, jv = .int .i64 (j : Int) ∧ k ≤ j ∧ j ≤ t.size ∧ Hid (rEnd t k = rEnd t j) ∧ wr = w) (fun jv _ => t.size - (intOf jv).toNat)
  case atStart => exact ⟨k, rfl, Nat.le_refl _, by omega, rfl, rfl⟩
  case round =>
    obtain ⟨j, rfl, hkj, hj, HR, rfl⟩ := hrel
    clear hy
    by_cases hlt : j < t.size
    · obtain ⟨y, hy, HY, hyl⟩ := bt_wrap hlt
      by_cases h10 : y = 10
      · subst h10
        have HQ : Hid (rEnd t k = j) := by unfold Hid; rw [HR.out, rEnd_eq, if_neg (fun h => h.2 HY)]
        clear HY HR
        go_wp2_with fail
        go_ret2
        exact ⟨by rw [HQ.out]; rfl, rfl⟩
      · have hne : ((y : Int) != 10) = true := by rw [bne_iff_ne]; omega
        have HQ : Hid (rEnd t k = rEnd t (j + 1)) := by unfold Hid; rw [HR.out, rEnd_eq, if_pos ⟨hlt, by rw [HY]; exact h10⟩]
        clear HY HR
        go_wp2_with fail
        go_roundw
        case rel => exact ⟨j + 1, by go_num, by omega, by omega, HQ, by first | rfl | trivial⟩
        case measure => simp [intOf]; omega
    · have HQ : Hid (rEnd t k = j) := by unfold Hid; rw [HR.out, rEnd_eq, if_neg (fun h => hlt h.1)]
      clear HR
      go_wp2_with fail
      go_ret2
      exact ⟨by rw [HQ.out]; rfl, rfl⟩

/-- what token answers of a word that ends so -/
def tkEnd (kd : Nat) (r : Option Nat) (e : Ending) : Prop :=
  match r with
  | some j => e = .returned (.tuple #[.int .u8 (kd : Int), .int .i64 (j : Int)])
  | none => ∃ j : Nat, e = .returned (.tuple #[.int .u8 120, .int .i64 (j : Int)])

set_option maxRecDepth 100000 in
set_option maxHeartbeats 4000000 in
theorem token_quoted (t : ByteArray) (k : Nat) (w : World) (ht : t.size ≤ 1048576) (hk : k < t.size) (hb : bt t k = 34) :
    Calls Tryd.prog 10 #[.string t, .int .i64 (k : Int)] w fun e w' => tkEnd 113 ((qEnd t (k + 1)).map (· + 1)) e ∧ w' = w := by
  obtain ⟨y, hy, HY, hyl⟩ := bt_wrap hk
  rw [HY] at hb
  subst hb
  have HB := hide2 (fun (w : World) => refBlank_any 34 w hyl)
  clear HY
  go_enter Tryd.func10, Tryd.ntmps10
  go_wp2_with (go_at_call 9; refine (HB.out _).mono ?_; rintro e w ⟨rfl, rfl⟩)
  go_loopw [7] (fun jv wr => ∃ j : Nat, jv = .int .i64 (j : Int) ∧ k + 1 ≤ j ∧ j ≤ t.size ∧ Hid (qEnd t (k + 1) = qEnd t j) ∧ wr = w) (fun jv _ => t.size - (intOf jv).toNat)
  case atStart => exact ⟨k + 1, by go_num, Nat.le_refl _, by omega, rfl, rfl⟩
  case round =>
    obtain ⟨j, rfl, hkj, hj, HR, rfl⟩ := hrel
    clear hy
    by_cases hlt : j < t.size
    · obtain ⟨y, hy, HY, hyl⟩ := bt_wrap hlt
      by_cases h92 : y = 92
      · subst h92
        by_cases hlt2 : j + 1 < t.size
        · obtain ⟨y2, hy2, HY2, hyl2⟩ := bt_wrap hlt2
          by_cases h10 : y2 = 10
          · subst h10
            have HQ : Hid (qEnd t (k + 1) = none) := by unfold Hid; rw [HR.out, qEnd, if_pos hlt, if_pos HY, if_neg (fun h => h.2 HY2)]
            clear HY HR HY2
            go_wp2_with fail
            go_ret2
            rw [HQ.out]
            exact ⟨⟨j, rfl⟩, rfl⟩
          · have hne : ((y2 : Int) == 10) = false := by rw [beq_eq_false_iff_ne]; omega
            have HQ : Hid (qEnd t (k + 1) = qEnd t (j + 2)) := by unfold Hid; rw [HR.out, qEnd, if_pos hlt, if_pos HY, if_pos ⟨hlt2, by rw [HY2]; exact h10⟩]
            clear HY HR HY2
            go_wp2_with fail
            go_roundw
            case rel => first | exact ⟨j + 2, by go_num, by omega, by omega, HQ, by first | rfl | trivial⟩ | ((repeat apply Exists.intro); exact ⟨⟨j + 2, by go_num, by omega, by omega, HQ, by first | rfl | trivial⟩, rfl⟩)
            case measure => simp [intOf]; omega
        · have HQ : Hid (qEnd t (k + 1) = none) := by unfold Hid; rw [HR.out, qEnd, if_pos hlt, if_pos HY, if_neg (fun h => hlt2 h.1)]
          clear HY HR
          go_wp2_with fail
          go_ret2
          rw [HQ.out]
          exact ⟨⟨j, rfl⟩, rfl⟩
      · have n92 : ((y : Int) == 92) = false := by rw [beq_eq_false_iff_ne]; omega
        by_cases h34 : y = 34
        · subst h34
          have HQ : Hid (qEnd t (k + 1) = some j) := by unfold Hid; rw [HR.out, qEnd, if_pos hlt, if_neg (by rw [HY]; decide), if_pos HY]
          clear HY HR
          go_wp2_with fail
          go_ret2
          rw [HQ.out]
          exact ⟨rfl, rfl⟩
        · have n34 : ((y : Int) == 34) = false := by rw [beq_eq_false_iff_ne]; omega
          by_cases h10 : y = 10
          · subst h10
            have HQ : Hid (qEnd t (k + 1) = none) := by unfold Hid; rw [HR.out, qEnd, if_pos hlt, if_neg (by rw [HY]; decide), if_neg (by rw [HY]; decide), if_pos HY]
            clear HY HR
            go_wp2_with fail
            go_ret2
            rw [HQ.out]
            exact ⟨⟨j, rfl⟩, rfl⟩
          · have n10 : ((y : Int) == 10) = false := by rw [beq_eq_false_iff_ne]; omega
            have HQ : Hid (qEnd t (k + 1) = qEnd t (j + 1)) := by unfold Hid; rw [HR.out, qEnd, if_pos hlt, if_neg (by rw [HY]; exact h92), if_neg (by rw [HY]; exact h34), if_neg (by rw [HY]; exact h10)]
            clear HY HR
            go_wp2_with fail
            go_roundw
            case rel => exact ⟨j + 1, by go_num, by omega, by omega, HQ, by first | rfl | trivial⟩
            case measure => simp [intOf]; omega
    · have HQ : Hid (qEnd t (k + 1) = none) := by unfold Hid; rw [HR.out, qEnd, if_neg hlt]
      clear HR
      go_wp2_with fail
      go_ret2
      rw [HQ.out]
      exact ⟨⟨j, rfl⟩, rfl⟩

set_option maxRecDepth 100000 in
set_option maxHeartbeats 4000000 in
theorem token_plain (t : ByteArray) (k : Nat) (w : World) (ht : t.size ≤ 1048576) (hk : k < t.size) (hb : isStop (bt t k) = false) :
    Calls Tryd.prog 10 #[.string t, .int .i64 (k : Int)] w fun e w' => tkEnd 119 (wEnd t k) e ∧ w' = w := by
  obtain ⟨y0, hy0, HY0, hyl0⟩ := bt_wrap hk
  rw [HY0] at hb
  obtain ⟨n1, n2, n3, n4, n5, n6, n7, n8⟩ := nostop hb
  have n8' : ((y0 : Int) != 34) = true := by rw [bne_iff_ne]; intro e; rw [e] at n8; simp at n8
  have hbl : isBl y0 = false := by cases h : isBl y0 <;> simp_all [isStop]
  have HB := hide2 (fun (w : World) => refBlank_any y0 w hyl0)
  rw [hbl] at HB
  clear HY0 hb hbl n1 n2 n3
  go_enter Tryd.func10, Tryd.ntmps10
  go_wp2_with (go_at_call 9; refine (HB.out _).mono ?_; rintro e w ⟨rfl, rfl⟩)
  go_loopw [7] (fun jv wr => ∃ j : Nat, jv = .int .i64 (j : Int) ∧ k ≤ j ∧ j ≤ t.size ∧ Hid (wEnd t k = wEnd t j) ∧ wr = w) (fun jv _ => t.size - (intOf jv).toNat)
  case atStart => exact ⟨k, rfl, Nat.le_refl _, by omega, rfl, rfl⟩
  case round =>
    obtain ⟨j, rfl, hkj, hj, HR, rfl⟩ := hrel
    clear hy0 HB
    by_cases hlt : j < t.size
    · obtain ⟨y, hy, HY, hyl⟩ := bt_wrap hlt
      have HB := hide2 (fun (w : World) => refBlank_any y w hyl)
      by_cases h92 : y = 92
      · subst h92
        by_cases hlt2 : j + 1 < t.size
        · obtain ⟨y2, hy2, HY2, hyl2⟩ := bt_wrap hlt2
          by_cases h10 : y2 = 10
          · subst h10
            have HQ : Hid (wEnd t k = none) := by unfold Hid; rw [HR.out, wEnd, if_pos hlt, if_neg (by rw [HY]; decide), if_pos HY, if_neg (fun h => h.2 HY2)]
            clear HY HR HY2
            go_wp2_with fail
            go_ret2
            rw [HQ.out]
            exact ⟨⟨j, rfl⟩, rfl⟩
          · have hne : ((y2 : Int) == 10) = false := by rw [beq_eq_false_iff_ne]; omega
            have HQ : Hid (wEnd t k = wEnd t (j + 2)) := by unfold Hid; rw [HR.out, wEnd, if_pos hlt, if_neg (by rw [HY]; decide), if_pos HY, if_pos ⟨hlt2, by rw [HY2]; exact h10⟩]
            clear HY HR HY2
            go_wp2_with fail
            go_roundw
            case rel => first | exact ⟨j + 2, by go_num, by omega, by omega, HQ, by first | rfl | trivial⟩ | ((repeat apply Exists.intro); exact ⟨⟨j + 2, by go_num, by omega, by omega, HQ, by first | rfl | trivial⟩, rfl⟩)
            case measure => simp [intOf]; omega
        · have HQ : Hid (wEnd t k = none) := by unfold Hid; rw [HR.out, wEnd, if_pos hlt, if_neg (by rw [HY]; decide), if_pos HY, if_neg (fun h => hlt2 h.1)]
          clear HY HR
          go_wp2_with fail
          go_ret2
          rw [HQ.out]
          exact ⟨⟨j, rfl⟩, rfl⟩
      · have n92 : ((y : Int) == 92) = false := by rw [beq_eq_false_iff_ne]; omega
        cases hst : isStop y with
        | true =>
          have HQ : Hid (wEnd t k = some j) := HR.out.trans (wEnd_stop hlt (by rw [HY]; exact hst))
          clear HY HR
          rcases stop_cases hst with rfl | rfl | rfl | rfl | rfl | rfl | rfl | rfl
          all_goals
            clear hst h92
            go_wp2_with (go_at_call 9; refine (HB.out _).mono ?_; rintro e w ⟨rfl, rfl⟩)
            go_ret2
            rw [HQ.out]
            exact ⟨rfl, rfl⟩
        | false =>
          have HQ : Hid (wEnd t k = wEnd t (j + 1)) := by unfold Hid; rw [HR.out, wEnd, if_pos hlt, if_neg (by rw [HY, hst]; simp), if_neg (by rw [HY]; exact h92)]
          have hbl : isBl y = false := by cases h : isBl y <;> simp_all [isStop]
          obtain ⟨m1, m2, m3, m4, m5, m6, m7, m8⟩ := nostop hst
          rw [hbl] at HB
          clear HY HR hst hbl m1 m2 m3
          go_wp2_with (go_at_call 9; refine (HB.out _).mono ?_; rintro e w ⟨rfl, rfl⟩)
          go_roundw
          case rel => exact ⟨j + 1, by go_num, by omega, by omega, HQ, by first | rfl | trivial⟩
          case measure => simp [intOf]; omega
    · have HQ : Hid (wEnd t k = some j) := HR.out.trans (wEnd_out hlt)
      clear HR
      go_wp2_with fail
      go_ret2
      rw [HQ.out]
      exact ⟨rfl, rfl⟩
end Go.Proofs.YtclonjmhbgllkaaDoor
