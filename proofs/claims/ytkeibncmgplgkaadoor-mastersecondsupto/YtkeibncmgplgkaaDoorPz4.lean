import Derived.Test.YtkeibncmgplgkaaDoorPz3
import Derived.WalkMore
import Derived.WalkSmall
namespace Go.Proofs.YtkeibncmgplgkaaDoor
set_option linter.unusedVariables false
open Go.RowKit Go.Shelf Go.Proofs.YtkeibncmgplgkaaDoor.Nm

theorem ext_low (a b : Nat) : ∀ x ∈ ((⟨#[119, 100, 104, 109, 115]⟩ : ByteArray).extract a b).data.toList, x.toNat < 128 := by
  intro x hx
  have h1 : x ∈ (#[119, 100, 104, 109, 115] : Array UInt8).toList := by
    rw [ByteArray.data_extract, Array.toList_extract] at hx
    exact List.mem_of_mem_drop (List.mem_of_mem_take hx)
  simp at h1
  rcases h1 with rfl | rfl | rfl | rfl | rfl <;> decide

set_option maxHeartbeats 8000000 in
set_option maxRecDepth 1000000 in
/-- .. of any rune from 128 on -/
theorem indexRune_high (r : Nat) (h : 128 ≤ r) (h2 : r ≤ 1114111) (w : World) :
    Calls Tryd.prog 13 #[.string ⟨#[119, 100, 104, 109, 115]⟩, .int .i32 (r : Int)] w fun e w' => e = .returned (.int .i64 (-1)) ∧ Below w.heap.size w w' := by
  by_cases he : r = 65533
  · subst he; exact indexRune_bad w
  · have n1 : ((r : Int) == 65533) = false := by rw [beq_eq_false_iff_ne]; omega
    have n2 : ¬ (r : Int) < 128 := by omega
    have HV := hide3 (fun w => validRune_any r w h2)
    cases hv : (decide (r < 55296) || decide (57343 < r)) with
    | false =>
      rw [hv] at HV
      clear h h2 he hv
      go_enter Tryd.func13, Tryd.ntmps13
      go_wp2_with (go_at_call 20; refine (HV.out _).mono ?_; rintro e w1 ⟨rfl, rfl⟩)
      go_ret
      exact ⟨rfl, Below.refl _ _⟩
    | true =>
      rw [hv] at HV
      have hval : Utf8.valid (r : Int) = true := by
        simp at hv
        unfold Utf8.valid
        simp; omega
      obtain ⟨f1, f2, f3⟩ := encode_facts (r : Int) hval (by omega)
      have hcv : ∀ w : World, (convert 21 9 (.int .i32 (r : Int))).run Tryd.prog w = .ok (.string (Utf8.encode (r : Int))) w := fun w => run_convert_int_string w _ _ _ _ (by kernel_rfl) Tryd.underlying9
      generalize Utf8.encode (r : Int) = E at *
      have f4 := f3 (by omega)
      clear f3 hval hv h h2 he
      rcases (show E.size = 2 ∨ E.size = 3 ∨ E.size = 4 by omega) with hs | hs | hs
      · obtain ⟨y, hy, HY, hyl⟩ := bt_wrap (s := E) (i := 1) (by omega)
        have hy128 : 128 ≤ y := by
          have e : (E[E.size - 1]'(by omega)).toNat = bt E (E.size - 1) := bt_eq (by omega)
          rw [e, hs] at f4
          rw [← HY]; exact f4
        have hc : ((ByteArray.mk #[119, 100, 104, 109, 115])[1]'(by decide)).toNat = 100 := rfl
        have n3 : ((100 : Int) != (y : Int)) = true := by rw [bne_iff_ne]; omega
        have HIB := hide3 (fun (S : ByteArray) (w : World) (hS : ∀ x ∈ S.data.toList, x.toNat < 128) => (ib_any S (y : Int) w).mono (fun e w' hh => by rw [ib_none S.data.toList _ hS (by rw [show ((y : Int).toNat.toUInt8).toNat = y by show (UInt8.ofNat y).toNat = y; rw [UInt8.toNat_ofNat']; omega]; exact hy128)] at hh; exact hh))
        have hsz : (ByteArray.mk #[119, 100, 104, 109, 115]).size = 5 := rfl
        have hwr : IntKind.i64.wrap 2 = 2 := by first | rfl | decide
        clear HY f4
        go_enter Tryd.func13, Tryd.ntmps13
        go_wp2_with (go_at_call 20; refine (HV.out _).mono ?_; rintro e w1 ⟨rfl, rfl⟩)
        go_step3
        go_wp2_with fail
        refine wp_loop_rounds 1 ?_
        rw [rounds_succ]
        go_wp2_with fail
        go_step3
        go_wp2_with fail
        go_quiet (fail)
        have HBq : Hid (Below w1.heap.size w1 (w1.drewN nq)) := below_drewN (Below.refl _ _) nq
        generalize w1.drewN nq = wq at *
        go_wp2_with fail
        go_quiet ((go_at_call 9; exact Calls.quiet_of_same (HIB.out _ _ (ext_low _ _))))
        go_wp2
        try rw [Exit.noGoto_ret]
        try go_wp2
        try rw [Exit.noGoto_ret]
        go_ret
        exact ⟨rfl, below_drewN HBq.out _⟩
      · obtain ⟨y, hy, HY, hyl⟩ := bt_wrap (s := E) (i := 2) (by omega)
        have hy128 : 128 ≤ y := by
          have e : (E[E.size - 1]'(by omega)).toNat = bt E (E.size - 1) := bt_eq (by omega)
          rw [e, hs] at f4
          rw [← HY]; exact f4
        have hc : ((ByteArray.mk #[119, 100, 104, 109, 115])[2]'(by decide)).toNat = 104 := rfl
        have n3 : ((104 : Int) != (y : Int)) = true := by rw [bne_iff_ne]; omega
        have HIB := hide3 (fun (S : ByteArray) (w : World) (hS : ∀ x ∈ S.data.toList, x.toNat < 128) => (ib_any S (y : Int) w).mono (fun e w' hh => by rw [ib_none S.data.toList _ hS (by rw [show ((y : Int).toNat.toUInt8).toNat = y by show (UInt8.ofNat y).toNat = y; rw [UInt8.toNat_ofNat']; omega]; exact hy128)] at hh; exact hh))
        have hsz : (ByteArray.mk #[119, 100, 104, 109, 115]).size = 5 := rfl
        have hwr : IntKind.i64.wrap 3 = 3 := by first | rfl | decide
        clear HY f4
        go_enter Tryd.func13, Tryd.ntmps13
        go_wp2_with (go_at_call 20; refine (HV.out _).mono ?_; rintro e w1 ⟨rfl, rfl⟩)
        go_step3
        go_wp2_with fail
        refine wp_loop_rounds 1 ?_
        rw [rounds_succ]
        go_wp2_with fail
        go_step3
        go_wp2_with fail
        go_quiet (fail)
        have HBq : Hid (Below w1.heap.size w1 (w1.drewN nq)) := below_drewN (Below.refl _ _) nq
        generalize w1.drewN nq = wq at *
        go_wp2_with fail
        go_quiet ((go_at_call 9; exact Calls.quiet_of_same (HIB.out _ _ (ext_low _ _))))
        go_wp2
        try rw [Exit.noGoto_ret]
        try go_wp2
        try rw [Exit.noGoto_ret]
        go_ret
        exact ⟨rfl, below_drewN HBq.out _⟩
      · obtain ⟨y, hy, HY, hyl⟩ := bt_wrap (s := E) (i := 3) (by omega)
        have hy128 : 128 ≤ y := by
          have e : (E[E.size - 1]'(by omega)).toNat = bt E (E.size - 1) := bt_eq (by omega)
          rw [e, hs] at f4
          rw [← HY]; exact f4
        have hc : ((ByteArray.mk #[119, 100, 104, 109, 115])[3]'(by decide)).toNat = 109 := rfl
        have n3 : ((109 : Int) != (y : Int)) = true := by rw [bne_iff_ne]; omega
        have HIB := hide3 (fun (S : ByteArray) (w : World) (hS : ∀ x ∈ S.data.toList, x.toNat < 128) => (ib_any S (y : Int) w).mono (fun e w' hh => by rw [ib_none S.data.toList _ hS (by rw [show ((y : Int).toNat.toUInt8).toNat = y by show (UInt8.ofNat y).toNat = y; rw [UInt8.toNat_ofNat']; omega]; exact hy128)] at hh; exact hh))
        have hsz : (ByteArray.mk #[119, 100, 104, 109, 115]).size = 5 := rfl
        have hwr : IntKind.i64.wrap 4 = 4 := by first | rfl | decide
        clear HY f4
        go_enter Tryd.func13, Tryd.ntmps13
        go_wp2_with (go_at_call 20; refine (HV.out _).mono ?_; rintro e w1 ⟨rfl, rfl⟩)
        go_step3
        go_wp2_with fail
        refine wp_loop_rounds 1 ?_
        rw [rounds_succ]
        go_wp2_with fail
        go_step3
        go_wp2_with fail
        go_quiet (fail)
        have HBq : Hid (Below w1.heap.size w1 (w1.drewN nq)) := below_drewN (Below.refl _ _) nq
        generalize w1.drewN nq = wq at *
        go_wp2_with fail
        go_quiet ((go_at_call 9; exact Calls.quiet_of_same (HIB.out _ _ (ext_low _ _))))
        go_wp2
        try rw [Exit.noGoto_ret]
        try go_wp2
        try rw [Exit.noGoto_ret]
        go_ret
        exact ⟨rfl, below_drewN HBq.out _⟩
end Go.Proofs.YtkeibncmgplgkaaDoor
