import Derived.Test.YtfofdcacikbflaaDg3
namespace Go.Proofs.Ytfofdcacikbflaa
set_option linter.unusedVariables false
open Go.RowKit Go.Shelf Go.Proofs.Ytfofdcacikbflaa.Nm

abbrev F0 : ByteArray := ⟨#[102, 111, 111, 98, 97, 114]⟩
theorem k_foobar : to32B F0 = ⟨#[99, 112, 110, 109, 117, 111, 106, 49, 101, 56]⟩ := by decide +kernel
theorem z_F0 : F0.size ≤ 1048576 := by decide
theorem to32_size (a : ByteArray) (h : a.size ≤ 1048576) : (to32B a).size ≤ 4194304 := by
  obtain ⟨p, hp1, hp2⟩ := bits_code (w := 5) (by omega) _ (bitsL 8 (lst a a.size)) (Nat.le_refl _) (bitsL_bin 8 _)
  have l1 := congrArg List.length hp2
  rw [bitsL_len, List.length_append, bitsL_len, lst_len, List.length_replicate] at l1
  rw [to32B_size]; unfold c32; omega

theorem less_lst : ∀ l m : List UInt8, Op.bytesLess l m = decide (l.map UInt8.toNat < m.map UInt8.toNat)
  | [], [] => by simp [Op.bytesLess]
  | _ :: _, [] => by simp [Op.bytesLess]
  | [], _ :: _ => by simp [Op.bytesLess]
  | a :: x, b :: y => by
    simp only [Op.bytesLess, List.map_cons]
    rw [less_lst x y, Bool.eq_iff_iff, decide_eq_true_iff, List.cons_lt_cons_iff, Bool.or_eq_true, Bool.and_eq_true, decide_eq_true_iff, decide_eq_true_iff, beq_iff_eq, UInt8.lt_iff_toNat_lt, ← UInt8.toNat_inj]
theorem lst_map (s : ByteArray) : s.toList.map UInt8.toNat = lst s s.size := by
  rw [toList_eq]
  refine List.ext_getElem (by rw [List.length_map, lst_len]; simp) fun j h1 h2 => ?_
  have hj : j < s.size := by rw [lst_len] at h2; exact h2
  have := bt_list s j hj
  simp only [List.getElem_map]
  rw [this]
  simp [lst]
theorem order_same {a b : ByteArray} (h : a.size = b.size) : Op.bytesLess (to32B a).toList (to32B b).toList = Op.bytesLess a.toList b.toList := by
  rw [less_lst, less_lst, lst_map, lst_map, lst_map, lst_map, Bool.eq_iff_iff, decide_eq_true_iff, decide_eq_true_iff]
  exact to32_order h
theorem eq_same (a b : ByteArray) : ((to32B a).toList == (to32B b).toList) = (a.toList == b.toList) := by
  rw [Bool.eq_iff_iff, beq_iff_eq, beq_iff_eq, toList_inj, toList_inj]
  exact ⟨to32_inj, fun e => by rw [e]⟩

set_option maxRecDepth 100000 in
set_option maxHeartbeats 1000000 in
theorem order32_walk (a b : ByteArray) (w : World) (ha : a.size ≤ 1048576) (hb : b.size ≤ 1048576) :
    Calls Try.prog 5 #[.string a, .string b] w fun e w' => e = .returned (.bool true) ∧ Below w.heap.size w w' := by
  have hB0 := Below.refl w.heap.size w
  have HF := hide' (fun w => from32_any (to32B a) w (to32_size a ha))
  have HR : Hid (fromB 5 d32 (lowB (to32B a)) = some (lst a a.size)) := from_to a
  have HL : Hid (bts (lst a a.size) = a) := bts_lst a
  by_cases hsz : a.size = b.size
  · have ho1 := order_same hsz
    have ho2 := eq_same a b
    go_enter Try.func5, Try.ntmps5
    go_wp2_with (first
      | (go_at_call 16; refine (to32_any _ _ (by first | exact z_F0 | assumption)).mono ?_; rintro e w1 ⟨rfl, hB1⟩; (try rw [k_foobar]); have hB0 := ext_t hB0 hB1; clear hB1)
      | (go_at_call 14; refine (HF.out _).mono ?_; rintro e w1 ⟨rfl, hB1⟩; rw [HR.out]; simp only [fromEnd]; rw [HL.out]; have hB0 := ext_t hB0 hB1; clear hB1))
    all_goals
      go_ret
      refine ⟨?_, ?_⟩
      · first | rfl | simp_all
      · assumption
  · have hsz' : ((a.size : Int) == (b.size : Int)) = false := by rw [beq_eq_false_iff_ne]; omega
    have hsz'' : ((a.size : Int) != (b.size : Int)) = true := by rw [bne_iff_ne]; omega
    clear hsz
    go_enter Try.func5, Try.ntmps5
    go_wp2_with (first
      | (go_at_call 16; refine (to32_any _ _ (by first | exact z_F0 | assumption)).mono ?_; rintro e w1 ⟨rfl, hB1⟩; (try rw [k_foobar]); have hB0 := ext_t hB0 hB1; clear hB1)
      | (go_at_call 14; refine (HF.out _).mono ?_; rintro e w1 ⟨rfl, hB1⟩; rw [HR.out]; simp only [fromEnd]; rw [HL.out]; have hB0 := ext_t hB0 hB1; clear hB1))
    all_goals
      go_ret
      refine ⟨?_, ?_⟩
      · first | rfl | simp_all
      · assumption
end Go.Proofs.Ytfofdcacikbflaa
