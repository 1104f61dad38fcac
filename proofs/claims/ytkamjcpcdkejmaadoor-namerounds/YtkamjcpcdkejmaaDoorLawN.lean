import Derived.Test.YtkamjcpcdkejmaaDoorRd
import Derived.Test.YtkamjcpcdkejmaaDoorMath19
namespace Go.Proofs.YtkamjcpcdkejmaaDoor
set_option linter.unusedVariables false
open Go.RowKit Go.Shelf Nm

abbrev W0 : ByteArray := ⟨#[3, 119, 119, 119, 7, 69, 120, 97, 109, 112, 108, 101, 0]⟩
abbrev T0 : ByteArray := ⟨#[119, 119, 119, 46, 69, 120, 97, 109, 112, 108, 101, 46]⟩
theorem k_read : readB T0 ⟨#[0]⟩ = (W0, 0, 0) := by decide +kernel
theorem k_show : showB W0 = T0 := by decide +kernel
theorem k_root : isN ⟨#[0]⟩ = true := by decide +kernel
theorem z_T0 : T0.size ≤ 1048576 := by decide
theorem z_W0 : W0.size ≤ maxLen := small_max (by decide)
theorem z_R0 : (⟨#[0]⟩ : ByteArray).size ≤ maxLen := small_max (by decide)
theorem chk_yes' {s : ByteArray} (h : isN s = true) : chk s = 0 := by simp [chk, h]
theorem chk_no' {s : ByteArray} (h : isN s = false) : chk s = 1 := by simp [chk, h]

theorem eqB_noName {a : ByteArray} (b : ByteArray) (h : isN a = false) : eqB a b = false := by unfold eqB; rw [h]; rfl
theorem lowB_idem (s : ByteArray) : lowB (lowB s) = lowB s := by
  refine ba_ext (by rw [lowB_size]) fun j _ => ?_
  rw [lowB_bt, lowB_bt]
  unfold lowN
  split
  · next h => rw [if_neg (by omega)]
  · rfl
theorem eqB_fold {n : ByteArray} (h : isN n = true) : eqB n (foldB n) = true := by
  rw [foldB_yes h, eqB_iff]
  obtain ⟨h1, h2⟩ := isN_low h
  refine ⟨h, h1, ?_⟩
  rw [h2, List.map_map]
  refine List.map_congr_left fun x _ => ?_
  simp [lowB_idem]
theorem tail_all {n : ByteArray} (h : isN n = true) : tailB n ((labs n).length : Nat) = n := by
  rw [(tailB_yes h (Nat.le_refl _)).2.2, Nat.sub_self, List.drop_zero, putB_labs h]
theorem tail_none {n : ByteArray} (h : isN n = true) : tailB n 0 = ⟨#[0]⟩ := by
  have := (tailB_yes h (Nat.zero_le _)).2.2
  rw [Nat.sub_zero, List.drop_length, labs_nil_putB] at this
  exact this
theorem par_tail {n : ByteArray} (h : isN n = true) : parB n = tailB n (((labs n).length : Int) - 1) := by unfold parB; rw [cntI_yes h]
theorem par_parts {n : ByteArray} (h : isN n = true) (hl : 0 < (labs n).length) : isN (parB n) = true ∧ labs (parB n) = (labs n).drop 1 := by
  have e : parB n = tailB n (((labs n).length - 1 : Nat) : Int) := by rw [par_tail h]; congr 1; omega
  have := tailB_yes h (k := (labs n).length - 1) (by omega)
  rw [e]
  refine ⟨this.1, this.2.1.trans ?_⟩
  congr 1; omega
theorem within_par {n : ByteArray} (h : isN n = true) (hl : 0 < (labs n).length) : withinB n (parB n) = true := by
  obtain ⟨h1, h2⟩ := par_parts h hl
  rw [withinB_iff]
  refine ⟨h, h1, by rw [h2, List.length_drop]; omega, ?_⟩
  rw [h2, List.length_drop, show (labs n).length - ((labs n).length - 1) = 1 by omega]
theorem par_within {n : ByteArray} (h : isN n = true) (hl : 0 < (labs n).length) : withinB (parB n) n = false := by
  obtain ⟨h1, h2⟩ := par_parts h hl
  cases hw : withinB (parB n) n with
  | false => rfl
  | true =>
    have := ((withinB_iff _ _).1 hw).2.2.1
    rw [h2, List.length_drop] at this; omega
theorem par_size (n : ByteArray) : (parB n).size ≤ 255 := tailB_size n _
theorem join_labs {n : ByteArray} (h : isN n = true) : joinB (labs n) = (n, 0) := by
  have h255 := ((isN_iff n).1 h).1
  have := joinB_ok (okL_labs n) (by rw [putB_labs h]; exact h255)
  rw [putB_labs h] at this; exact this

set_option maxRecDepth 100000 in
set_option maxHeartbeats 4000000 in
theorem rounds_no (n o : ByteArray) (w : World) (hn : n.size ≤ maxLen) (ho : o.size ≤ maxLen) (hG : Gl w) (hN : isN n = false) :
    Calls Tryd.prog 4 #[.string n, .string o] w fun e w' => e = .returned (.bool true) ∧ Below w.heap.size w w' := by
  have hB0 := Below.refl w.heap.size w
  have kn := chk_no' hN
  have ks : showB n = ByteArray.empty := showB_no hN
  have kf : foldB n = ByteArray.empty := foldB_no hN
  have kc : cntI n = -1 := cntI_no hN
  have ke : eqB n n = false := eqB_noName n hN
  have HKN := hide' kn
  have HKS := hide' ks
  have HKF := hide' kf
  have HKC := hide' kc
  have HKE := hide' ke
  have hko : chk o = 1 ∨ chk o = 0 := by unfold chk; split <;> simp
  clear kn ks kf kc ke hN
  rcases hko with ko | ko
  all_goals
    have HKO := hide' ko
    clear ko
    go_enter Tryd.func4, Tryd.ntmps4
    go_wp2_with (first
      | (go_at_call 5; refine (read_any T0 ⟨#[0]⟩ _ z_T0 z_R0 (hG.grow hB0)).mono ?_; rintro e w1 ⟨rfl, hB1⟩; rw [k_read]; have hB0 := ext_t hB0 hB1; clear hB1)
      | (go_at_call 7; refine (show_any _ _ (by first | exact z_W0 | assumption)).mono ?_; rintro e w1 ⟨rfl, hB1⟩; (first | rw [k_show] | rw [HKS.out]); have hB0 := ext_t hB0 hB1; clear hB1)
      | (go_at_call 8; refine (check_any _ _ (by assumption)).mono ?_; rintro e w1 ⟨rfl, hB1⟩; (first | rw [HKO.out] | rw [HKN.out]); have hB0 := ext_t hB0 hB1; clear hB1)
      | (go_at_call 9; refine (fold_any _ _ (by assumption)).mono ?_; rintro e w1 ⟨rfl, hB1⟩; rw [HKF.out]; have hB0 := ext_t hB0 hB1; clear hB1)
      | (go_at_call 10; refine (count_any _ _ (by assumption)).mono ?_; rintro e w1 ⟨rfl, hB1⟩; rw [HKC.out]; have hB0 := ext_t hB0 hB1; clear hB1)
      | (go_at_call 11; refine (equal_any _ _ _ (by assumption) (by assumption)).mono ?_; rintro e w1 ⟨rfl, hB1⟩; rw [HKE.out]; have hB0 := ext_t hB0 hB1; clear hB1))
    go_ret
    refine ⟨rfl, ?_⟩
    assumption

set_option maxRecDepth 100000 in
set_option maxHeartbeats 1200000 in
theorem rounds_yes (n o : ByteArray) (w : World) (hn : n.size ≤ maxLen) (ho : o.size ≤ maxLen) (hG : Gl w) (hN : isN n = true) :
    Calls Tryd.prog 4 #[.string n, .string o] w fun e w' => e = .returned (.bool true) ∧ Below w.heap.size w w' := by
  have hB0 := Below.refl w.heap.size w
  have hs255 : n.size ≤ 255 := ((isN_iff n).1 hN).1
  have HKN : Hid (chk n = 0) := chk_yes' hN
  have hll : (labs n).length ≤ 254 := labs_len_le hN
  have HKC : Hid (cntI n = ((labs n).length : Nat)) := cntI_yes hN
  have HTA : Hid (tailB n ((labs n).length : Nat) = n) := tail_all hN
  have HT0 : Hid (tailB n 0 = ⟨#[0]⟩) := tail_none hN
  have HEQ : Hid (eqB n (foldB n) = true) := eqB_fold hN
  have HJ : Hid (joinB (labs n) = (n, 0)) := join_labs hN
  have HJX : Hid (∀ x ∈ labs n, x.size ≤ 1048576) := fun x hx => by have := labs_mem hx; omega
  have hfz : (foldB n).size ≤ maxLen := by rw [foldB_yes hN, lowB_size]; exact hn
  have hpz : (parB n).size ≤ maxLen := small_max (by have := par_size n; omega)
  have HPT : Hid (tailB n (((labs n).length : Int) - 1) = parB n) := (par_tail hN).symm
  have hroot : (n.toList == [0]) = decide ((labs n).length = 0) := root_iff hN
  have hsz : (showB n).size ≤ 1048576 := showB_size hN
  have HRD : Hid (readB (showB n) ⟨#[0]⟩ = (n, 0, 0)) := read_show hN k_root
  have HRO : Hid (isN o = true → readB (showB n) o = (n, 0, 0)) := fun h => read_show hN h
  have HW1 : Hid (0 < (labs n).length → withinB n (parB n) = true) := within_par hN
  have HW2 : Hid (0 < (labs n).length → withinB (parB n) n = false) := par_within hN
  have HP0 : Hid ((labs n).length = 0 → parB n = ByteArray.empty) := parB_root hN
  have hko : (isN o = false ∧ chk o = 1) ∨ (isN o = true ∧ chk o = 0) := by
    cases h : isN o with
    | false => exact .inl ⟨rfl, chk_no' h⟩
    | true => exact .inr ⟨rfl, chk_yes' h⟩
  have HLY := hide' (fun w => labels_yes n w hn hN)
  obtain ⟨SH, hSH⟩ : ∃ SH, showB n = SH := ⟨_, rfl⟩
  obtain ⟨PN, hPN⟩ : ∃ PN, parB n = PN := ⟨_, rfl⟩
  obtain ⟨FN, hFN⟩ : ∃ FN, foldB n = FN := ⟨_, rfl⟩
  have HSH : Hid (showB n = SH) := hSH
  have HPN : Hid (parB n = PN) := hPN
  have HFN : Hid (foldB n = FN) := hFN
  rw [hSH] at hsz HRD HRO
  rw [hPN] at hpz HPT HW1 HW2 HP0
  rw [hFN] at hfz HEQ
  clear hSH hPN hFN hN
  rcases hko with ⟨hNo, ko⟩ | ⟨hNo, ko⟩
  · have HR2 := HRD
    have HKO := hide' ko
    clear ko hNo HRO HRD
    by_cases hl0 : (labs n).length = 0
    · have hP := HP0.out hl0
      rw [decide_eq_true hl0] at hroot
      rw [hP] at HPN HPT hpz
      have hl1 : (((labs n).length : Int) == 0) = true := by rw [beq_iff_eq]; omega
      have hW1' : Hid (True) := trivial
      have hW2' : Hid (True) := trivial
      clear hP HW1 HW2 HP0 hl0
      go_enter Tryd.func4, Tryd.ntmps4
      go_wp2_with (first
        | (go_at_call 5; refine (read_any _ _ _ (by first | exact hsz | exact z_T0) (by first | exact z_R0 | exact ho) (hG.grow hB0)).mono ?_; rintro e w1 ⟨rfl, hB1⟩; (first | rw [k_read] | rw [HR2.out]); have hB0 := ext_t hB0 hB1; clear hB1)
        | (go_at_call 7; refine (show_any _ _ (by first | exact z_W0 | assumption)).mono ?_; rintro e w1 ⟨rfl, hB1⟩; (first | rw [k_show] | rw [HSH.out]); have hB0 := ext_t hB0 hB1; clear hB1)
        | (go_at_call 8; refine (check_any _ _ (by assumption)).mono ?_; rintro e w1 ⟨rfl, hB1⟩; (first | rw [HKO.out] | rw [HKN.out]); have hB0 := ext_t hB0 hB1; clear hB1)
        | (go_at_call 12; refine (HLY.out _).mono ?_; rintro e wl ⟨p, cap, rfl, ⟨hat, hcp, hcp2⟩, hB1⟩; have hB0 := ext_t hB0 hB1; clear hB1)
        | (go_at_call 13; refine (join_any p cap (labs n) _ hat (by omega) HJX.out).mono ?_; rintro e w1 ⟨rfl, hB1⟩; rw [HJ.out]; have hB0 := ext_t hB0 hB1; clear hB1)
        | (go_at_call 9; refine (fold_any _ _ (by assumption)).mono ?_; rintro e w1 ⟨rfl, hB1⟩; rw [HFN.out]; have hB0 := ext_t hB0 hB1; clear hB1)
        | (go_at_call 10; refine (count_any _ _ (by assumption)).mono ?_; rintro e w1 ⟨rfl, hB1⟩; rw [HKC.out]; have hB0 := ext_t hB0 hB1; clear hB1)
        | (go_at_call 14; refine (tail_any n _ _ (by assumption)).mono ?_; rintro e w1 ⟨rfl, hB1⟩; (first | rw [HTA.out] | rw [HT0.out] | rw [HPT.out]); have hB0 := ext_t hB0 hB1; clear hB1)
        | (go_at_call 15; refine (parent_any n _ (by assumption)).mono ?_; rintro e w1 ⟨rfl, hB1⟩; rw [HPN.out]; have hB0 := ext_t hB0 hB1; clear hB1)
        | (go_at_call 16; refine (within_any _ _ _ (by assumption) (by assumption)).mono ?_; rintro e w1 ⟨rfl, hB1⟩; (first | rw [hW1'.out] | rw [hW2'.out]); have hB0 := ext_t hB0 hB1; clear hB1)
        | (go_at_call 11; refine (equal_any _ _ _ (by assumption) (by assumption)).mono ?_; rintro e w1 ⟨rfl, hB1⟩; rw [HEQ.out]; have hB0 := ext_t hB0 hB1; clear hB1))
      go_ret
      refine ⟨?_, ?_⟩
      · first | rfl | simp
      · assumption
    · have hW1' := hide' (HW1.out (by omega))
      have hW2' := hide' (HW2.out (by omega))
      rw [decide_eq_false hl0] at hroot
      have hl1 : (((labs n).length : Int) == 0) = false := by rw [beq_eq_false_iff_ne]; omega
      have hlp : 0 < (labs n).length := by omega
      clear HW1 HW2 HP0 hl0
      go_enter Tryd.func4, Tryd.ntmps4
      go_wp2_with (first
        | (go_at_call 5; refine (read_any _ _ _ (by first | exact hsz | exact z_T0) (by first | exact z_R0 | exact ho) (hG.grow hB0)).mono ?_; rintro e w1 ⟨rfl, hB1⟩; (first | rw [k_read] | rw [HR2.out]); have hB0 := ext_t hB0 hB1; clear hB1)
        | (go_at_call 7; refine (show_any _ _ (by first | exact z_W0 | assumption)).mono ?_; rintro e w1 ⟨rfl, hB1⟩; (first | rw [k_show] | rw [HSH.out]); have hB0 := ext_t hB0 hB1; clear hB1)
        | (go_at_call 8; refine (check_any _ _ (by assumption)).mono ?_; rintro e w1 ⟨rfl, hB1⟩; (first | rw [HKO.out] | rw [HKN.out]); have hB0 := ext_t hB0 hB1; clear hB1)
        | (go_at_call 12; refine (HLY.out _).mono ?_; rintro e wl ⟨p, cap, rfl, ⟨hat, hcp, hcp2⟩, hB1⟩; have hB0 := ext_t hB0 hB1; clear hB1)
        | (go_at_call 13; refine (join_any p cap (labs n) _ hat (by omega) HJX.out).mono ?_; rintro e w1 ⟨rfl, hB1⟩; rw [HJ.out]; have hB0 := ext_t hB0 hB1; clear hB1)
        | (go_at_call 9; refine (fold_any _ _ (by assumption)).mono ?_; rintro e w1 ⟨rfl, hB1⟩; rw [HFN.out]; have hB0 := ext_t hB0 hB1; clear hB1)
        | (go_at_call 10; refine (count_any _ _ (by assumption)).mono ?_; rintro e w1 ⟨rfl, hB1⟩; rw [HKC.out]; have hB0 := ext_t hB0 hB1; clear hB1)
        | (go_at_call 14; refine (tail_any n _ _ (by assumption)).mono ?_; rintro e w1 ⟨rfl, hB1⟩; (first | rw [HTA.out] | rw [HT0.out] | rw [HPT.out]); have hB0 := ext_t hB0 hB1; clear hB1)
        | (go_at_call 15; refine (parent_any n _ (by assumption)).mono ?_; rintro e w1 ⟨rfl, hB1⟩; rw [HPN.out]; have hB0 := ext_t hB0 hB1; clear hB1)
        | (go_at_call 16; refine (within_any _ _ _ (by assumption) (by assumption)).mono ?_; rintro e w1 ⟨rfl, hB1⟩; (first | rw [hW1'.out] | rw [hW2'.out]); have hB0 := ext_t hB0 hB1; clear hB1)
        | (go_at_call 11; refine (equal_any _ _ _ (by assumption) (by assumption)).mono ?_; rintro e w1 ⟨rfl, hB1⟩; rw [HEQ.out]; have hB0 := ext_t hB0 hB1; clear hB1))
      go_ret
      refine ⟨?_, ?_⟩
      · first | rfl | simp
      · assumption
  · have HR2 := hide' (HRO.out hNo)
    have HKO := hide' ko
    clear ko hNo HRO HRD
    by_cases hl0 : (labs n).length = 0
    · have hP := HP0.out hl0
      rw [decide_eq_true hl0] at hroot
      rw [hP] at HPN HPT hpz
      have hl1 : (((labs n).length : Int) == 0) = true := by rw [beq_iff_eq]; omega
      have hW1' : Hid (True) := trivial
      have hW2' : Hid (True) := trivial
      clear hP HW1 HW2 HP0 hl0
      go_enter Tryd.func4, Tryd.ntmps4
      go_wp2_with (first
        | (go_at_call 5; refine (read_any _ _ _ (by first | exact hsz | exact z_T0) (by first | exact z_R0 | exact ho) (hG.grow hB0)).mono ?_; rintro e w1 ⟨rfl, hB1⟩; (first | rw [k_read] | rw [HR2.out]); have hB0 := ext_t hB0 hB1; clear hB1)
        | (go_at_call 7; refine (show_any _ _ (by first | exact z_W0 | assumption)).mono ?_; rintro e w1 ⟨rfl, hB1⟩; (first | rw [k_show] | rw [HSH.out]); have hB0 := ext_t hB0 hB1; clear hB1)
        | (go_at_call 8; refine (check_any _ _ (by assumption)).mono ?_; rintro e w1 ⟨rfl, hB1⟩; (first | rw [HKO.out] | rw [HKN.out]); have hB0 := ext_t hB0 hB1; clear hB1)
        | (go_at_call 12; refine (HLY.out _).mono ?_; rintro e wl ⟨p, cap, rfl, ⟨hat, hcp, hcp2⟩, hB1⟩; have hB0 := ext_t hB0 hB1; clear hB1)
        | (go_at_call 13; refine (join_any p cap (labs n) _ hat (by omega) HJX.out).mono ?_; rintro e w1 ⟨rfl, hB1⟩; rw [HJ.out]; have hB0 := ext_t hB0 hB1; clear hB1)
        | (go_at_call 9; refine (fold_any _ _ (by assumption)).mono ?_; rintro e w1 ⟨rfl, hB1⟩; rw [HFN.out]; have hB0 := ext_t hB0 hB1; clear hB1)
        | (go_at_call 10; refine (count_any _ _ (by assumption)).mono ?_; rintro e w1 ⟨rfl, hB1⟩; rw [HKC.out]; have hB0 := ext_t hB0 hB1; clear hB1)
        | (go_at_call 14; refine (tail_any n _ _ (by assumption)).mono ?_; rintro e w1 ⟨rfl, hB1⟩; (first | rw [HTA.out] | rw [HT0.out] | rw [HPT.out]); have hB0 := ext_t hB0 hB1; clear hB1)
        | (go_at_call 15; refine (parent_any n _ (by assumption)).mono ?_; rintro e w1 ⟨rfl, hB1⟩; rw [HPN.out]; have hB0 := ext_t hB0 hB1; clear hB1)
        | (go_at_call 16; refine (within_any _ _ _ (by assumption) (by assumption)).mono ?_; rintro e w1 ⟨rfl, hB1⟩; (first | rw [hW1'.out] | rw [hW2'.out]); have hB0 := ext_t hB0 hB1; clear hB1)
        | (go_at_call 11; refine (equal_any _ _ _ (by assumption) (by assumption)).mono ?_; rintro e w1 ⟨rfl, hB1⟩; rw [HEQ.out]; have hB0 := ext_t hB0 hB1; clear hB1))
      go_ret
      refine ⟨?_, ?_⟩
      · first | rfl | simp
      · assumption
    · have hW1' := hide' (HW1.out (by omega))
      have hW2' := hide' (HW2.out (by omega))
      rw [decide_eq_false hl0] at hroot
      have hl1 : (((labs n).length : Int) == 0) = false := by rw [beq_eq_false_iff_ne]; omega
      have hlp : 0 < (labs n).length := by omega
      clear HW1 HW2 HP0 hl0
      go_enter Tryd.func4, Tryd.ntmps4
      go_wp2_with (first
        | (go_at_call 5; refine (read_any _ _ _ (by first | exact hsz | exact z_T0) (by first | exact z_R0 | exact ho) (hG.grow hB0)).mono ?_; rintro e w1 ⟨rfl, hB1⟩; (first | rw [k_read] | rw [HR2.out]); have hB0 := ext_t hB0 hB1; clear hB1)
        | (go_at_call 7; refine (show_any _ _ (by first | exact z_W0 | assumption)).mono ?_; rintro e w1 ⟨rfl, hB1⟩; (first | rw [k_show] | rw [HSH.out]); have hB0 := ext_t hB0 hB1; clear hB1)
        | (go_at_call 8; refine (check_any _ _ (by assumption)).mono ?_; rintro e w1 ⟨rfl, hB1⟩; (first | rw [HKO.out] | rw [HKN.out]); have hB0 := ext_t hB0 hB1; clear hB1)
        | (go_at_call 12; refine (HLY.out _).mono ?_; rintro e wl ⟨p, cap, rfl, ⟨hat, hcp, hcp2⟩, hB1⟩; have hB0 := ext_t hB0 hB1; clear hB1)
        | (go_at_call 13; refine (join_any p cap (labs n) _ hat (by omega) HJX.out).mono ?_; rintro e w1 ⟨rfl, hB1⟩; rw [HJ.out]; have hB0 := ext_t hB0 hB1; clear hB1)
        | (go_at_call 9; refine (fold_any _ _ (by assumption)).mono ?_; rintro e w1 ⟨rfl, hB1⟩; rw [HFN.out]; have hB0 := ext_t hB0 hB1; clear hB1)
        | (go_at_call 10; refine (count_any _ _ (by assumption)).mono ?_; rintro e w1 ⟨rfl, hB1⟩; rw [HKC.out]; have hB0 := ext_t hB0 hB1; clear hB1)
        | (go_at_call 14; refine (tail_any n _ _ (by assumption)).mono ?_; rintro e w1 ⟨rfl, hB1⟩; (first | rw [HTA.out] | rw [HT0.out] | rw [HPT.out]); have hB0 := ext_t hB0 hB1; clear hB1)
        | (go_at_call 15; refine (parent_any n _ (by assumption)).mono ?_; rintro e w1 ⟨rfl, hB1⟩; rw [HPN.out]; have hB0 := ext_t hB0 hB1; clear hB1)
        | (go_at_call 16; refine (within_any _ _ _ (by assumption) (by assumption)).mono ?_; rintro e w1 ⟨rfl, hB1⟩; (first | rw [hW1'.out] | rw [hW2'.out]); have hB0 := ext_t hB0 hB1; clear hB1)
        | (go_at_call 11; refine (equal_any _ _ _ (by assumption) (by assumption)).mono ?_; rintro e w1 ⟨rfl, hB1⟩; rw [HEQ.out]; have hB0 := ext_t hB0 hB1; clear hB1))
      go_ret
      refine ⟨?_, ?_⟩
      · first | rfl | simp
      · assumption

theorem rounds_walk (n o : ByteArray) (w : World) (hn : n.size ≤ maxLen) (ho : o.size ≤ maxLen) (hG : Gl w) :
    Calls Tryd.prog 4 #[.string n, .string o] w fun e w' => e = .returned (.bool true) ∧ Below w.heap.size w w' := by
  cases hN : isN n with
  | false => exact rounds_no n o w hn ho hG hN
  | true => exact rounds_yes n o w hn ho hG hN
end Go.Proofs.YtkamjcpcdkejmaaDoor
