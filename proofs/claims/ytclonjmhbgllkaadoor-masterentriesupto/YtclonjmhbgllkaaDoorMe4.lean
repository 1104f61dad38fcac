import Derived.Test.YtclonjmhbgllkaaDoorMe3
import Derived.RegionTactic
import Derived.ChangeAlike
import Derived.Deep.Cut
namespace Go.Proofs.YtclonjmhbgllkaaDoor
set_option linter.unusedVariables false
open Go.RowKit Go.Shelf Nm

theorem letter_some {g : Nat} {f t : ByteArray} {k l k' : Nat} (hl : ltr t k = some k') (w : World) (h : Sc w g f t k l) (ht : t.size ≤ 1048576) (hk : k ≤ t.size) :
    Calls Tryd.prog 25 #[.pointer (some ⟨g, 0, none⟩)] w fun e w' => e = .returned .nilIface ∧ Sc w' g f t k' l ∧ w.grownBy w' (some g) := by
  refine (letter_any g f t k l w h ht hk).mono ?_
  intro e w' h2; unfold ltrEnd at h2; rw [hl] at h2; exact h2
theorem letter_none {g : Nat} {f t : ByteArray} {k l : Nat} (hl : ltr t k = none) (w : World) (h : Sc w g f t k l) (ht : t.size ≤ 1048576) (hk : k ≤ t.size) :
    Calls Tryd.prog 25 #[.pointer (some ⟨g, 0, none⟩)] w fun e w' => e = .returned (.iface 54 (errA f 2 l)) ∧ w.grownBy w' (some g) := by
  refine (letter_any g f t k l w h ht hk).mono ?_
  intro e w' h2; unfold ltrEnd at h2; rw [hl] at h2; exact h2

theorem ltr_some {t : ByteArray} {k k' : Nat} (h : ltr t k = some k') : k < k' ∧ k' ≤ t.size := by
  unfold ltr at h
  split at h
  · cases h
  · rename_i h1
    have := atE_lt (by simpa using h1)
    split at h
    · split at h
      · cases h
      · rename_i h2
        have := atE_lt (by simpa using h2)
        simp at h; omega
    · simp at h; omega
theorem qEnd_end {t : ByteArray} {k : Nat} (h : atE t k = true) : qEnd t k = none := by
  unfold atE at h
  rw [qEnd]
  by_cases hk : k < t.size
  · simp [hk] at h; rw [if_pos hk, if_neg (by omega), if_neg (by omega), if_pos h]
  · rw [if_neg hk]
theorem qEnd_ltr {t : ByteArray} {k : Nat} (h : atE t k = false) (h34 : bt t k ≠ 34) : qEnd t k = (match ltr t k with | some k' => qEnd t k' | none => none) := by
  have hk := atE_lt h
  rw [qEnd, if_pos hk.1]
  unfold ltr
  rw [if_neg (show ¬ atE t k = true by rw [h]; simp)]
  by_cases h92 : bt t k = 92
  · rw [if_pos h92, if_pos h92]
    cases h2 : atE t (k + 1) with
    | true => rw [if_pos rfl, if_neg]; intro hh; unfold atE at h2; simp at h2; omega
    | false => have := atE_lt h2; rw [if_pos this, if_neg (by simp)]
  · rw [if_neg h92, if_neg h92, if_neg h34, if_neg hk.2]
theorem wEnd_ltr {t : ByteArray} {k : Nat} (hk : k < t.size) (hs : isStop (bt t k) = false) : wEnd t k = (match ltr t k with | some k' => wEnd t k' | none => none) := by
  have h10 : bt t k ≠ 10 := by intro e; rw [e] at hs; simp [isStop] at hs
  have h : atE t k = false := by unfold atE; simp [hk, h10]
  rw [wEnd, if_pos hk, if_neg (by rw [hs]; simp)]
  unfold ltr
  rw [if_neg (show ¬ atE t k = true by rw [h]; simp)]
  by_cases h92 : bt t k = 92
  · rw [if_pos h92, if_pos h92]
    cases h2 : atE t (k + 1) with
    | true => rw [if_pos rfl, if_neg]; intro hh; unfold atE at h2; simp at h2; omega
    | false => have := atE_lt h2; rw [if_pos this, if_neg (by simp)]
  · rw [if_neg h92, if_neg h92]

theorem new_cell {W : World} {n : Nat} (hn : W.heap.size = n) (C : Array Value) (T : TypeId) (j : Nat) : (W.alloc (.cells C T)).cell? ⟨n, j, none⟩ = C[j]? := by
  subst hn
  unfold World.cell?
  rw [World.alloc_heap_new W (.cells C T)]
  simp
theorem new_free {W : World} {n : Nat} (hn : W.heap.size = n) (C : Array Value) (T : TypeId) (j : Nat) : (W.alloc (.cells C T)).frozen? ⟨n, j, none⟩ = false := by
  subst hn
  unfold World.frozen?
  rw [World.alloc_heap_new W (.cells C T)]
  simp
theorem set_size (w : World) (a : Addr) (v : Value) : (w.setCell a v).heap.size = w.heap.size := by simp [World.setCell]

def wdEnd (r : Option (Wd × Nat)) (f t : ByteArray) (l g : Nat) (w : World) (e : Ending) (w' : World) : Prop :=
  match r with
  | some x => e = .returned (.tuple #[.agg #[.string x.1.t, .bool x.1.q], .nilIface]) ∧ Sc w' g f t x.2 l ∧ w.grownBy w' (some g)
  | none => e = .returned (.tuple #[.agg #[.string ⟨#[]⟩, .bool false], .iface 54 (errA f 2 l)]) ∧ w.grownBy w' (some g)
theorem grown_far {w w' : World} {r : Option Nat} (h : w.grownBy w' r) {R : Nat} (hR : w.heap.size ≤ R) (j : Nat) (u : Value) : w.grownBy (w'.setCell ⟨R, j, none⟩ u) r :=
  ⟨h.os, h.tape, h.output, by rw [set_size]; exact h.size, fun b hb hne => (Below.heap_setCell _ _ _ b (by show b ≠ R; omega)).trans (h.block b hb hne)⟩
theorem two_set {w : World} {R : Nat} {a0 b0 : Value} (r0 : w.cell? ⟨R, 0, none⟩ = some a0) (r1 : w.cell? ⟨R, 1, none⟩ = some b0) (a b : Value) :
    ((w.setCell ⟨R, 0, none⟩ a).setCell ⟨R, 1, none⟩ b).cell? ⟨R, 0, none⟩ = some a ∧ ((w.setCell ⟨R, 0, none⟩ a).setCell ⟨R, 1, none⟩ b).cell? ⟨R, 1, none⟩ = some b := by
  constructor
  · rw [World.cell?_setCell_other _ _ _ _ (by intro e; cases e), World.cell?_setCell_same' _ _ _ (by rw [r0]; rfl)]
  · rw [World.cell?_setCell_same']; rw [World.cell?_setCell_other _ _ _ _ (by intro e; cases e), r1]; rfl
/-- a result's cells beside the scanner -/
theorem far_cell {w w' : World} {g : Nat} (h : w.grownBy w' (some g)) {b j : Nat} {v : Value} (hb : b ≠ g) (hc : w.cell? ⟨b, j, none⟩ = some v) : w'.cell? ⟨b, j, none⟩ = some v := by
  have hlt : b < w.heap.size := by
    rcases Nat.lt_or_ge b w.heap.size with h | h
    · exact h
    · simp [World.cell?, Array.getElem?_eq_none h] at hc
  rw [World.cell?_of_block (h.block b hlt (fun e => hb (Option.some.inj e)))]; exact hc
theorem far_free {w w' : World} {g : Nat} (h : w.grownBy w' (some g)) {b j : Nat} (hb : b ≠ g) (hlt : b < w.heap.size) (hc : w.frozen? ⟨b, j, none⟩ = false) : w'.frozen? ⟨b, j, none⟩ = false := by
  rw [World.frozen?_of_block (h.block b hlt (fun e => hb (Option.some.inj e)))]; exact hc

set_option maxRecDepth 100000 in
set_option maxHeartbeats 2000000 in
/-- (*scanner).quotedWord -/
theorem quoted_any (g : Nat) (f t : ByteArray) (k l : Nat) (w : World) (h : Sc w g f t k l) (ht : t.size ≤ 1048576) (hk : k < t.size) :
    Calls Tryd.prog 24 #[.pointer (some ⟨g, 0, none⟩)] w (wdEnd ((qEnd t (k + 1)).map (fun e => (⟨t.extract (k + 1) e, true⟩, e + 1))) f t l g w) := by
  have hlt := h.lt
  have HA := hide2 (fun (k l : Nat) (w : World) (h : Sc w g f t k l) => atEnd_any g f t k l w h ht)
  obtain ⟨w1, hw1⟩ : ∃ w1, (w.setCell ⟨g, 2, none⟩ (.int .i64 ((k : Int) + 1))).alloc (.cells #[.string ⟨#[]⟩, .bool false] 33) = w1 := ⟨_, rfl⟩
  have h1 : Sc w1 g f t (k + 1) l := hw1 ▸ (h.go (k + 1) (y := (k : Int) + 1) (by omega)).alloc _
  have hg1 : w.grownBy w1 (some g) := hw1 ▸ grown_trans (grown_set _ _ _ _) (World.grownBy_alloc _ _ _)
  have r01 : w1.cell? ⟨w.heap.size, 0, none⟩ = some (.string ⟨#[]⟩) := hw1 ▸ new_cell (set_size _ _ _) _ _ _
  have r11 : w1.cell? ⟨w.heap.size, 1, none⟩ = some (.bool false) := hw1 ▸ new_cell (set_size _ _ _) _ _ _
  have z01 (j : Nat) : w1.frozen? ⟨w.heap.size, j, none⟩ = false := hw1 ▸ new_free (set_size _ _ _) _ _ _
  have hz1 : w1.heap.size = w.heap.size + 1 := by rw [← hw1]; simp
  have HG1 := hide2 hg1
  clear hg1
  have c2 := h.c2
  have f2 := h.free 2
  have c2' := h1.c2
  go_enter Tryd.func24, Tryd.ntmps24
  go_wp2_with fail
  clear hw1 c2 f2 c2'
  go_loopw [17] (fun _ wr => ∃ k' : Nat, k + 1 ≤ k' ∧ k' ≤ t.size ∧ Hid (qEnd t (k + 1) = qEnd t k') ∧ Sc wr g f t k' l ∧ w1.grownBy wr (some g))
    (fun _ wr => t.size - (match wr.cell? ⟨g, 2, none⟩ with | some (.int _ n) => n.toNat | _ => 0))
  case atStart => exact ⟨k + 1, Nat.le_refl _, by omega, rfl, h1, grown_refl _ _⟩
  case round =>
    obtain ⟨k', hkk, hk', HR, hr, hg⟩ := hrel
    have HM := hide2 hr.c2
    have c1 := hr.c1
    have c2 := hr.c2
    have f2 := hr.free 2
    have r0 := far_cell hg (b := w.heap.size) (j := 0) (by omega) r01
    have r1 := far_cell hg (b := w.heap.size) (j := 1) (by omega) r11
    have z0 := far_free hg (b := w.heap.size) (j := 0) (by omega) (by omega) (z01 0)
    have z1 := far_free hg (b := w.heap.size) (j := 1) (by omega) (by omega) (z01 1)
    have HG := hide2 hg
    have HA1 := hide2 (HA.out k' l)
    cases ha : atE t k' with
    | true =>
      rw [ha] at HA1
      have hl : ltr t k' = none := by unfold ltr; rw [if_pos ha]
      have HL := hide2 (fun (w : World) (h : Sc w g f t k' l) => letter_none hl w h ht hk')
      have HQ : Hid (qEnd t (k + 1) = none) := HR.out.trans (qEnd_end ha)
      clear hg HR
      go_wp2_with fail
      go_quiet ((go_at_call 23; refine Calls.quiet_of (HA1.out _ ?_); exact hr))
      have hq : Sc (wr.drewN nq) g f t k' l := hr.drewN nq
      have gq := hide2 (grown_trans HG.out (grown_drewN wr nq (some g)))
      generalize wr.drewN nq = wq at *
      clear r0 r1 z0 z1
      go_wp2_with (go_at_call 25; refine (HL.out _ hq).mono ?_; rintro e w2 ⟨rfl, hg2⟩; have HG2 := hide2 (grown_trans gq.out hg2); clear hg2; have r0 := far_cell HG2.out (b := w.heap.size) (j := 0) (by omega) r01; have r1 := far_cell HG2.out (b := w.heap.size) (j := 1) (by omega) r11; have z0 := far_free HG2.out (b := w.heap.size) (j := 0) (by omega) (by omega) (z01 0); have z1 := far_free HG2.out (b := w.heap.size) (j := 1) (by omega) (by omega) (z01 1))
      obtain ⟨e0, e1⟩ := two_set r0 r1 (.string ⟨#[]⟩) (.bool false)
      refine bodyPost_ret (v := .tuple #[.agg #[.string ⟨#[]⟩, .bool false], .iface 54 (errA f 2 l)]) (by simp [results, go_sem, e0, e1]) rfl ?_
      rw [HQ.out]
      exact ⟨rfl, grown_far (grown_far (grown_trans HG1.out HG2.out) (Nat.le_refl _) _ _) (Nat.le_refl _) _ _⟩
    | false =>
      rw [ha] at HA1
      have hlt := (atE_lt ha).1
      obtain ⟨y, hy, HY, hyl⟩ := bt_wrap hlt
      clear r0 r1 z0 z1
      by_cases h34 : y = 34
      · subst h34
        have HQ : Hid (qEnd t (k + 1) = some k') := by
          unfold Hid; rw [HR.out, qEnd, if_pos hlt, if_neg (by rw [HY]; decide), if_pos HY]
        clear HY HR hg
        go_wp2_with fail
        go_quiet ((go_at_call 23; refine Calls.quiet_of (HA1.out _ ?_); exact hr))
        have hq : Sc (wr.drewN nq) g f t k' l := hr.drewN nq
        have gq := hide2 (grown_trans HG.out (grown_drewN wr nq (some g)))
        generalize wr.drewN nq = wq at *
        obtain ⟨w2, hw2⟩ : ∃ w2, wq.setCell ⟨g, 2, none⟩ (.int .i64 ((k' : Int) + 1)) = w2 := ⟨_, rfl⟩
        have h2 : Sc w2 g f t (k' + 1) l := hw2 ▸ hq.go (k' + 1) (y := (k' : Int) + 1) (by omega)
        have HG2 : Hid (w1.grownBy w2 (some g)) := hw2 ▸ grown_trans gq.out (grown_set _ _ _ _)
        have r0 := far_cell HG2.out (b := w.heap.size) (j := 0) (by omega) r01
        have r1 := far_cell HG2.out (b := w.heap.size) (j := 1) (by omega) r11
        have z0 := far_free HG2.out (b := w.heap.size) (j := 0) (by omega) (by omega) (z01 0)
        have z1 := far_free HG2.out (b := w.heap.size) (j := 1) (by omega) (by omega) (z01 1)
        have d2 := hq.c2
        have g2 := hq.free 2
        have s1 := h2.c1
        have s2 := h2.c2
        go_wp2_with fail
        go_region
        go_wp2
        obtain ⟨e0, e1⟩ := two_set r0 r1 (.string (t.extract (k + 1) k')) (.bool true)
        refine bodyPost_ret (v := .tuple #[.agg #[.string (t.extract (k + 1) k'), .bool true], .nilIface]) (by simp [results, go_sem, e0, e1]) rfl ?_
        rw [HQ.out]
        refine ⟨rfl, ?_, ?_⟩
        · show Sc _ g f t (k' + 1) l
          exact (Below.heap_setCell _ _ _ g (by show g ≠ w.heap.size; omega)).trans ((Below.heap_setCell _ _ _ g (by show g ≠ w.heap.size; omega)).trans h2)
        · exact grown_trans (grown_far (grown_far (grown_trans HG1.out HG2.out) (Nat.le_refl _) _ _) (Nat.le_refl _) _ _) (grown_drewN _ 1 _)
      · have hyb : ((y : Int) == 34) = false := by rw [beq_eq_false_iff_ne]; omega
        have hyb2 : ((y : Int) != 34) = true := by rw [bne_iff_ne]; omega
        have HQL : Hid (qEnd t k' = (match ltr t k' with | some k' => qEnd t k' | none => none)) := qEnd_ltr ha (by rw [HY]; exact h34)
        cases hl : ltr t k' with
        | none =>
          rw [hl] at HQL
          have HL := hide2 (fun (w : World) (h : Sc w g f t k' l) => letter_none hl w h ht hk')
          have HQ : Hid (qEnd t (k + 1) = none) := HR.out.trans HQL.out
          clear hg HR HY HQL hl
          go_wp2_with fail
          go_quiet ((go_at_call 23; refine Calls.quiet_of (HA1.out _ ?_); exact hr))
          have hq : Sc (wr.drewN nq) g f t k' l := hr.drewN nq
          have gq := hide2 (grown_trans HG.out (grown_drewN wr nq (some g)))
          generalize wr.drewN nq = wq at *
          go_wp2_with (go_at_call 25; refine (HL.out _ hq).mono ?_; rintro e w2 ⟨rfl, hg2⟩; have HG2 := hide2 (grown_trans gq.out hg2); clear hg2; have r0 := far_cell HG2.out (b := w.heap.size) (j := 0) (by omega) r01; have r1 := far_cell HG2.out (b := w.heap.size) (j := 1) (by omega) r11; have z0 := far_free HG2.out (b := w.heap.size) (j := 0) (by omega) (by omega) (z01 0); have z1 := far_free HG2.out (b := w.heap.size) (j := 1) (by omega) (by omega) (z01 1))
          obtain ⟨e0, e1⟩ := two_set r0 r1 (.string ⟨#[]⟩) (.bool false)
          refine bodyPost_ret (v := .tuple #[.agg #[.string ⟨#[]⟩, .bool false], .iface 54 (errA f 2 l)]) (by simp [results, go_sem, e0, e1]) rfl ?_
          rw [HQ.out]
          exact ⟨rfl, grown_far (grown_far (grown_trans HG1.out HG2.out) (Nat.le_refl _) _ _) (Nat.le_refl _) _ _⟩
        | some k2 =>
          rw [hl] at HQL
          have HL := hide2 (fun (w : World) (h : Sc w g f t k' l) => letter_some hl w h ht hk')
          have hk2 := ltr_some hl
          have HQ : Hid (qEnd t (k + 1) = qEnd t k2) := HR.out.trans HQL.out
          clear hg HR HY HQL hl
          go_wp2_with fail
          go_quiet ((go_at_call 23; refine Calls.quiet_of (HA1.out _ ?_); exact hr))
          have hq : Sc (wr.drewN nq) g f t k' l := hr.drewN nq
          have gq := hide2 (grown_trans HG.out (grown_drewN wr nq (some g)))
          generalize wr.drewN nq = wq at *
          go_wp2_with (go_at_call 25; refine (HL.out _ hq).mono ?_; rintro e w2 ⟨rfl, hs2, hg2⟩; have HG2 := hide2 (grown_trans gq.out hg2); clear hg2)
          go_roundw
          case rel => exact ⟨k2, by omega, hk2.2, HQ, hs2, HG2.out⟩
          case measure => rw [HM.out, hs2.c2]; simp; omega
end Go.Proofs.YtclonjmhbgllkaaDoor
