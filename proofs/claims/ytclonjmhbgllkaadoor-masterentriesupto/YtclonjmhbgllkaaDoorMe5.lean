import Derived.Test.YtclonjmhbgllkaaDoorMe4
import Derived.WalkMore
namespace Go.Proofs.YtclonjmhbgllkaaDoor
set_option linter.unusedVariables false
open Go.RowKit Go.Shelf Nm

theorem stop_cases {y : Nat} (h : isStop y = true) : y = 32 ∨ y = 9 ∨ y = 13 ∨ y = 10 ∨ y = 59 ∨ y = 40 ∨ y = 41 ∨ y = 34 := by
  simp [isStop, isBl] at h; omega
theorem nostop {y : Nat} (h : isStop y = false) : ((y : Int) == 32) = false ∧ ((y : Int) == 9) = false ∧ ((y : Int) == 13) = false ∧ ((y : Int) == 10) = false ∧ ((y : Int) == 59) = false ∧ ((y : Int) == 40) = false ∧ ((y : Int) == 41) = false ∧ ((y : Int) == 34) = false := by
  simp [isStop, isBl] at h
  refine ⟨?_, ?_, ?_, ?_, ?_, ?_, ?_, ?_⟩ <;> (rw [beq_eq_false_iff_ne]; omega)
theorem wEnd_stop {t : ByteArray} {k : Nat} (h : k < t.size) (hs : isStop (bt t k) = true) : wEnd t k = some k := by rw [wEnd, if_pos h, if_pos hs]
theorem wEnd_out {t : ByteArray} {k : Nat} (h : ¬ k < t.size) : wEnd t k = some k := by rw [wEnd, if_neg h]

set_option maxRecDepth 100000 in
set_option maxHeartbeats 4000000 in
/-- (*scanner).word -/
theorem word_any (g : Nat) (f t : ByteArray) (k l : Nat) (w : World) (h : Sc w g f t k l) (ht : t.size ≤ 1048576) (hk : k < t.size) :
    Calls Tryd.prog 18 #[.pointer (some ⟨g, 0, none⟩)] w (wdEnd (tokW t k) f t l g w) := by
  have hlt := h.lt
  obtain ⟨w1, hw1⟩ : ∃ w1, w.alloc (.cells #[.string ⟨#[]⟩, .bool false] 33) = w1 := ⟨_, rfl⟩
  have h1 : Sc w1 g f t k l := hw1 ▸ h.alloc _
  have HG1 : Hid (w.grownBy w1 (some g)) := hw1 ▸ World.grownBy_alloc _ _ _
  have r01 : w1.cell? ⟨w.heap.size, 0, none⟩ = some (.string ⟨#[]⟩) := hw1 ▸ new_cell rfl _ _ _
  have r11 : w1.cell? ⟨w.heap.size, 1, none⟩ = some (.bool false) := hw1 ▸ new_cell rfl _ _ _
  have z01 (j : Nat) : w1.frozen? ⟨w.heap.size, j, none⟩ = false := hw1 ▸ new_free rfl _ _ _
  have hz1 : w1.heap.size = w.heap.size + 1 := by rw [← hw1]; simp
  have c1 := h1.c1
  have c2 := h1.c2
  obtain ⟨y, hy, HY, hyl⟩ := bt_wrap hk
  by_cases h34 : y = 34
  · subst h34
    have HT : Hid (tokW t k = (qEnd t (k + 1)).map (fun e => (⟨t.extract (k + 1) e, true⟩, e + 1))) := by unfold Hid tokW; rw [if_pos HY]
    have HQ := hide2 (fun (w : World) (h : Sc w g f t k l) => quoted_any g f t k l w h ht hk)
    clear HY
    cases hq : qEnd t (k + 1) with
    | none =>
      rw [hq] at HQ HT
      go_enter Tryd.func18, Tryd.ntmps18
      go_wp2_with fail
      go_step3
      go_wp2_with fail
      go_quiet (fail)
      have hq1 : Sc (w1.drewN nq) g f t k l := h1.drewN nq
      have gq := hide2 (grown_drewN w1 nq (some g))
      generalize w1.drewN nq = wq at *
      go_wp2_with (go_at_call 24; refine (HQ.out _ hq1).mono ?_; rintro e w2 ⟨rfl, hg2⟩; have HG2 := hide2 (grown_trans gq.out hg2); clear hg2; have r0 := far_cell HG2.out (b := w.heap.size) (j := 0) (by omega) r01; have r1 := far_cell HG2.out (b := w.heap.size) (j := 1) (by omega) r11; have z0 := far_free HG2.out (b := w.heap.size) (j := 0) (by omega) (by omega) (z01 0); have z1 := far_free HG2.out (b := w.heap.size) (j := 1) (by omega) (by omega) (z01 1))
      obtain ⟨e0, e1⟩ := two_set r0 r1 (.string ⟨#[]⟩) (.bool false)
      try rw [Exit.noGoto_ret]
      refine bodyPost_ret (v := .tuple #[.agg #[.string ⟨#[]⟩, .bool false], .iface 54 (errA f 2 l)]) (by simp [results, go_sem, e0, e1]) rfl ?_
      rw [HT.out]
      exact ⟨rfl, grown_far (grown_far (grown_trans HG1.out HG2.out) (Nat.le_refl _) _ _) (Nat.le_refl _) _ _⟩
    | some j =>
      rw [hq] at HQ HT
      generalize hx : t.extract (k + 1) j = X at *
      go_enter Tryd.func18, Tryd.ntmps18
      go_wp2_with fail
      go_step3
      go_wp2_with fail
      go_quiet (fail)
      have hq1 : Sc (w1.drewN nq) g f t k l := h1.drewN nq
      have gq := hide2 (grown_drewN w1 nq (some g))
      generalize w1.drewN nq = wq at *
      go_wp2_with (go_at_call 24; refine (HQ.out _ hq1).mono ?_; rintro e w2 ⟨rfl, hs2, hg2⟩; have HG2 := hide2 (grown_trans gq.out hg2); clear hg2; have r0 := far_cell HG2.out (b := w.heap.size) (j := 0) (by omega) r01; have r1 := far_cell HG2.out (b := w.heap.size) (j := 1) (by omega) r11; have z0 := far_free HG2.out (b := w.heap.size) (j := 0) (by omega) (by omega) (z01 0); have z1 := far_free HG2.out (b := w.heap.size) (j := 1) (by omega) (by omega) (z01 1))
      obtain ⟨e0, e1⟩ := two_set r0 r1 (.string X) (.bool true)
      try rw [Exit.noGoto_ret]
      refine bodyPost_ret (v := .tuple #[.agg #[.string X, .bool true], .nilIface]) (by simp [results, go_sem, e0, e1]) rfl ?_
      rw [HT.out]
      refine ⟨by rw [← hx], ?_, grown_far (grown_far (grown_trans HG1.out HG2.out) (Nat.le_refl _) _ _) (Nat.le_refl _) _ _⟩
      exact (Below.heap_setCell _ _ _ g (by show g ≠ w.heap.size; omega)).trans ((Below.heap_setCell _ _ _ g (by show g ≠ w.heap.size; omega)).trans hs2)
  · have hyb : ((y : Int) == 34) = false := by rw [beq_eq_false_iff_ne]; omega
    have HT : Hid (tokW t k = (wEnd t k).map (fun e => (⟨t.extract k e, false⟩, e))) := by unfold Hid tokW; rw [if_neg (by rw [HY]; exact h34)]
    have HMo := hide2 (fun (k l : Nat) (w : World) (h : Sc w g f t k l) => more_any g f t k l w h ht)
    clear HY
    go_enter Tryd.func18, Tryd.ntmps18
    go_wp2_with fail
    go_step3
    go_wp2_with fail
    go_quiet (fail)
    have hq1 : Sc (w1.drewN nq) g f t k l := h1.drewN nq
    have gq := hide2 (grown_drewN w1 nq (some g))
    generalize w1.drewN nq = wq at *
    have d2 := hq1.c2
    go_wp2_with fail
    go_step3
    go_wp2_with fail
    clear c1 c2 d2 hy hyb hyl h34 hw1
    go_loopw [24] (fun _ wr => ∃ k' : Nat, k ≤ k' ∧ k' ≤ t.size ∧ Hid (wEnd t k = wEnd t k') ∧ Sc wr g f t k' l ∧ w1.grownBy wr (some g))
      (fun _ wr => t.size - (match wr.cell? ⟨g, 2, none⟩ with | some (.int _ n) => n.toNat | _ => 0))
    case atStart => exact ⟨k, Nat.le_refl _, by omega, rfl, hq1, gq.out⟩
    case round =>
      clear hq1 gq
      obtain ⟨k', hkk, hk', HR, hr, hg⟩ := hrel
      have HM := hide2 hr.c2
      have HMo1 := hide2 (HMo.out k' l)
      have HG := hide2 hg
      clear hg
      -- what both ways out do
      by_cases hlt2 : k' < t.size
      · have hd : decide (k' < t.size) = true := decide_eq_true hlt2
        rw [hd] at HMo1
        obtain ⟨y, hy, HY, hyl⟩ := bt_wrap hlt2
        cases hst : isStop y with
        | true =>
          have HQ : Hid (wEnd t k = some k') := HR.out.trans (wEnd_stop hlt2 (by rw [HY]; exact hst))
          clear HY HR
          rcases stop_cases hst with rfl | rfl | rfl | rfl | rfl | rfl | rfl | rfl
          all_goals
            clear hst
            go_wp2_with (go_at_call 12; refine (HMo1.out _ hr).mono ?_; rintro e w2 ⟨rfl, m, hm⟩; have hr2 : Sc w2 g f t k' l := hm ▸ hr.drewN m; have HGm : Hid (w1.grownBy w2 (some g)) := hm ▸ grown_trans HG.out (grown_drewN wr m (some g)); clear hm; have s1 := hr2.c1; have s2 := hr2.c2)
            go_quiet (fail)
            have hq : Sc (w2.drewN nq) g f t k' l := hr2.drewN nq
            have HG2 := hide2 (grown_trans HGm.out (grown_drewN w2 nq (some g)))
            clear s1 s2 hr2
            generalize w2.drewN nq = wq2 at *
            have r0 := far_cell HG2.out (b := w.heap.size) (j := 0) (by omega) r01
            have r1 := far_cell HG2.out (b := w.heap.size) (j := 1) (by omega) r11
            have z0 := far_free HG2.out (b := w.heap.size) (j := 0) (by omega) (by omega) (z01 0)
            have z1 := far_free HG2.out (b := w.heap.size) (j := 1) (by omega) (by omega) (z01 1)
            have s1 := hq.c1
            have s2 := hq.c2
            go_wp2_with fail
            go_region
            go_wp2
            obtain ⟨e0, e1⟩ := two_set r0 r1 (.string (t.extract k k')) (.bool false)
            try rw [Exit.noGoto_ret]
            refine bodyPost_ret (v := .tuple #[.agg #[.string (t.extract k k'), .bool false], .nilIface]) (by simp [results, go_sem, e0, e1]) rfl ?_
            rw [HT.out, HQ.out]
            refine ⟨rfl, ?_, grown_trans (grown_far (grown_far (grown_trans HG1.out HG2.out) (Nat.le_refl _) _ _) (Nat.le_refl _) _ _) (grown_drewN _ 1 _)⟩
            exact (Below.heap_setCell _ _ _ g (by show g ≠ w.heap.size; omega)).trans ((Below.heap_setCell _ _ _ g (by show g ≠ w.heap.size; omega)).trans hq)
        | false =>
          obtain ⟨n1, n2, n3, n4, n5, n6, n7, n8⟩ := nostop hst
          have HQL : Hid (wEnd t k' = (match ltr t k' with | some k' => wEnd t k' | none => none)) := wEnd_ltr hlt2 (by rw [HY]; exact hst)
          cases hl : ltr t k' with
          | none =>
            rw [hl] at HQL
            have HL := hide2 (fun (w : World) (h : Sc w g f t k' l) => letter_none hl w h ht hk')
            have HQ : Hid (wEnd t k = none) := HR.out.trans HQL.out
            clear HR HY HQL hl hst
            go_wp2_with (go_at_call 12; refine (HMo1.out _ hr).mono ?_; rintro e w2 ⟨rfl, m, hm⟩; have hr2 : Sc w2 g f t k' l := hm ▸ hr.drewN m; have HGm : Hid (w1.grownBy w2 (some g)) := hm ▸ grown_trans HG.out (grown_drewN wr m (some g)); clear hm; have s1 := hr2.c1; have s2 := hr2.c2)
            go_quiet (fail)
            have hq : Sc (w2.drewN nq) g f t k' l := hr2.drewN nq
            have HGq := hide2 (grown_trans HGm.out (grown_drewN w2 nq (some g)))
            clear s1 s2 hr2
            generalize w2.drewN nq = wq2 at *
            go_wp2_with (go_at_call 25; refine (HL.out _ hq).mono ?_; rintro e w3 ⟨rfl, hg2⟩; have HG2 := hide2 (grown_trans HGq.out hg2); clear hg2; have r0 := far_cell HG2.out (b := w.heap.size) (j := 0) (by omega) r01; have r1 := far_cell HG2.out (b := w.heap.size) (j := 1) (by omega) r11; have z0 := far_free HG2.out (b := w.heap.size) (j := 0) (by omega) (by omega) (z01 0); have z1 := far_free HG2.out (b := w.heap.size) (j := 1) (by omega) (by omega) (z01 1))
            obtain ⟨e0, e1⟩ := two_set r0 r1 (.string ⟨#[]⟩) (.bool false)
            try rw [Exit.noGoto_ret]
            refine bodyPost_ret (v := .tuple #[.agg #[.string ⟨#[]⟩, .bool false], .iface 54 (errA f 2 l)]) (by simp [results, go_sem, e0, e1]) rfl ?_
            rw [HT.out, HQ.out]
            exact ⟨rfl, grown_far (grown_far (grown_trans HG1.out HG2.out) (Nat.le_refl _) _ _) (Nat.le_refl _) _ _⟩
          | some k2 =>
            rw [hl] at HQL
            have HL := hide2 (fun (w : World) (h : Sc w g f t k' l) => letter_some hl w h ht hk')
            have hk2 := ltr_some hl
            have HQ : Hid (wEnd t k = wEnd t k2) := HR.out.trans HQL.out
            clear HR HY HQL hl hst
            go_wp2_with (go_at_call 12; refine (HMo1.out _ hr).mono ?_; rintro e w2 ⟨rfl, m, hm⟩; have hr2 : Sc w2 g f t k' l := hm ▸ hr.drewN m; have HGm : Hid (w1.grownBy w2 (some g)) := hm ▸ grown_trans HG.out (grown_drewN wr m (some g)); clear hm; have s1 := hr2.c1; have s2 := hr2.c2)
            go_quiet (fail)
            have hq : Sc (w2.drewN nq) g f t k' l := hr2.drewN nq
            have HGq := hide2 (grown_trans HGm.out (grown_drewN w2 nq (some g)))
            clear s1 s2 hr2
            generalize w2.drewN nq = wq2 at *
            go_wp2_with (go_at_call 25; refine (HL.out _ hq).mono ?_; rintro e w3 ⟨rfl, hs2, hg2⟩; have HG2 := hide2 (grown_trans HGq.out hg2); clear hg2)
            go_roundw
            case rel => exact ⟨k2, by omega, hk2.2, HQ, hs2, HG2.out⟩
            case measure => rw [HM.out, hs2.c2]; simp; omega
      · have hd : decide (k' < t.size) = false := decide_eq_false hlt2
        rw [hd] at HMo1
        have HQ : Hid (wEnd t k = some k') := HR.out.trans (wEnd_out hlt2)
        clear HR
        go_wp2_with (go_at_call 12; refine (HMo1.out _ hr).mono ?_; rintro e w2 ⟨rfl, m, hm⟩; have hr2 : Sc w2 g f t k' l := hm ▸ hr.drewN m; have HGm : Hid (w1.grownBy w2 (some g)) := hm ▸ grown_trans HG.out (grown_drewN wr m (some g)); clear hm; have HG2 := HGm; have s1 := hr2.c1; have s2 := hr2.c2; have r0 := far_cell HG2.out (b := w.heap.size) (j := 0) (by omega) r01; have r1 := far_cell HG2.out (b := w.heap.size) (j := 1) (by omega) r11; have z0 := far_free HG2.out (b := w.heap.size) (j := 0) (by omega) (by omega) (z01 0); have z1 := far_free HG2.out (b := w.heap.size) (j := 1) (by omega) (by omega) (z01 1))
        go_region
        go_wp2
        obtain ⟨e0, e1⟩ := two_set r0 r1 (.string (t.extract k k')) (.bool false)
        try rw [Exit.noGoto_ret]
        refine bodyPost_ret (v := .tuple #[.agg #[.string (t.extract k k'), .bool false], .nilIface]) (by simp [results, go_sem, e0, e1]) rfl ?_
        rw [HT.out, HQ.out]
        refine ⟨rfl, ?_, grown_trans (grown_far (grown_far (grown_trans HG1.out HG2.out) (Nat.le_refl _) _ _) (Nat.le_refl _) _ _) (grown_drewN _ 1 _)⟩
        exact (Below.heap_setCell _ _ _ g (by show g ≠ w.heap.size; omega)).trans ((Below.heap_setCell _ _ _ g (by show g ≠ w.heap.size; omega)).trans hr2)
end Go.Proofs.YtclonjmhbgllkaaDoor
