import Derived.Test.YtclonjmhbgllkaaDoorMe2
namespace Go.Proofs.YtclonjmhbgllkaaDoor
set_option linter.unusedVariables false
open Go.RowKit Go.Shelf Nm

theorem Sc.go {w : World} {g : Nat} {f t : ByteArray} {k l : Nat} (h : Sc w g f t k l) (k' : Nat) {y : Int} (hy : y = (k' : Int)) : Sc (w.setCell ⟨g, 2, none⟩ (.int .i64 y)) g f t k' l := by subst hy; exact h.set2 k'
theorem Sc.ln {w : World} {g : Nat} {f t : ByteArray} {k l : Nat} (h : Sc w g f t k l) (l' : Nat) {y : Int} (hy : y = (l' : Int)) : Sc (w.setCell ⟨g, 3, none⟩ (.int .i64 y)) g f t k l' := by subst hy; exact h.set3 l'
theorem grown_drewN (w : World) (n : Nat) (r : Option Nat) : w.grownBy (w.drewN n) r := ⟨rfl, rfl, rfl, Nat.le_refl _, fun _ _ _ => rfl⟩
theorem grown_set (w : World) (g j : Nat) (u : Value) : w.grownBy (w.setCell ⟨g, j, none⟩ u) (some g) :=
  ⟨rfl, rfl, rfl, by simp [World.setCell], fun b hb hne => Below.heap_setCell _ _ _ b (by show b ≠ g; exact fun e => hne (by rw [e]))⟩
theorem grown_refl (w : World) (r : Option Nat) : w.grownBy w r := ⟨rfl, rfl, rfl, Nat.le_refl _, fun _ _ _ => rfl⟩
theorem grown_below {w w' : World} (h : Below w.heap.size w w') (r : Option Nat) : w.grownBy w' r := ⟨h.os, h.tape, h.output, h.size, fun k hk _ => h.block k hk⟩
theorem grown_trans {a b c : World} {r : Option Nat} (h : a.grownBy b r) (k : b.grownBy c r) : a.grownBy c r :=
  ⟨k.os.trans h.os, k.tape.trans h.tape, k.output.trans h.output, Nat.le_trans h.size k.size, fun j hj hne => (k.block j (Nat.lt_of_lt_of_le hj h.size) hne).trans (h.block j hj hne)⟩

/-- behind a letter at k -/
def ltr (t : ByteArray) (k : Nat) : Option Nat := if atE t k = true then none else if bt t k = 92 then (if atE t (k + 1) = true then none else some (k + 2)) else some (k + 1)
def ltrEnd (f t : ByteArray) (k l g : Nat) (w : World) (e : Ending) (w' : World) : Prop :=
  match ltr t k with
  | some k' => e = .returned .nilIface ∧ Sc w' g f t k' l ∧ w.grownBy w' (some g)
  | none => e = .returned (.iface 54 (errA f 2 l)) ∧ w.grownBy w' (some g)

theorem atE_lt {t : ByteArray} {k : Nat} (h : atE t k = false) : k < t.size ∧ bt t k ≠ 10 := by
  unfold atE at h; simp at h; exact h

set_option maxRecDepth 100000 in
set_option maxHeartbeats 1000000 in
/-- (*scanner).letter -/
theorem letter_any (g : Nat) (f t : ByteArray) (k l : Nat) (w : World) (h : Sc w g f t k l) (ht : t.size ≤ 1048576) (hk : k ≤ t.size) :
    Calls Tryd.prog 25 #[.pointer (some ⟨g, 0, none⟩)] w (ltrEnd f t k l g w) := by
  have c1 := h.c1
  have c2 := h.c2
  have HA := hide2 (fun (k l : Nat) (w : World) (h : Sc w g f t k l) => atEnd_any g f t k l w h ht)
  cases ha : atE t k with
  | true =>
    have HL : Hid (ltr t k = none) := by unfold Hid ltr; rw [if_pos ha]
    have HA1 := hide2 (HA.out k l)
    rw [ha] at HA1
    have HF := hide2 (fun (w : World) (h : Sc w g f t k l) => fail_any g f t k l 2 l w h)
    go_enter Tryd.func25, Tryd.ntmps25
    go_wp2_with fail
    go_quiet ((go_at_call 23; refine Calls.quiet_of (HA1.out _ ?_); exact h))
    have hq : Sc (w.drewN nq) g f t k l := h.drewN nq
    have gq := hide2 (grown_drewN w nq (some g))
    generalize w.drewN nq = wq at *
    go_wp2_with (first | (go_at_call 23; refine (HA1.out _ hq).mono ?_; rintro e w1 ⟨rfl, m, rfl⟩; have c3 := (hq.drewN m).c3) | (go_at_call 16; refine (HF.out _ (hq.drewN m)).mono ?_; rintro e w2 ⟨rfl, rfl⟩))
    go_ret
    unfold ltrEnd
    rw [HL.out]
    exact ⟨rfl, grown_trans gq.out (grown_drewN _ _ _)⟩
  | false =>
    have hlt := (atE_lt ha).1
    obtain ⟨y, hy, HY, hyl⟩ := bt_wrap hlt
    have HA1 := hide2 (HA.out k l)
    rw [ha] at HA1
    by_cases h92 : y = 92
    · subst h92
      cases ha2 : atE t (k + 1) with
      | true =>
        have HL : Hid (ltr t k = none) := by unfold Hid ltr; rw [if_neg (by rw [ha]; simp), if_pos HY, if_pos ha2]
        have HA2 := hide2 (HA.out (k + 1) l)
        rw [ha2] at HA2
        have HF := hide2 (fun (w : World) (h : Sc w g f t (k + 1) l) => fail_any g f t (k + 1) l 2 l w h)
        clear HY
        go_enter Tryd.func25, Tryd.ntmps25
        go_wp2_with fail
        go_quiet ((go_at_call 23; refine Calls.quiet_of (HA1.out _ ?_); exact h))
        have hq : Sc (w.drewN nq) g f t k l := h.drewN nq
        have gq := hide2 (grown_drewN w nq (some g))
        generalize w.drewN nq = wq at *
        have cq := hq.c2
        have fq := hq.free 2
        go_wp2_with (first | (go_at_call 23; have hs := (hq.go (k + 1) (y := (k : Int) + 1) (by omega)); refine (HA2.out _ hs).mono ?_; rintro e w1 ⟨rfl, m, rfl⟩; have c3 := (hs.drewN m).c3) | (go_at_call 16; refine (HF.out _ (hs.drewN m)).mono ?_; rintro e w2 ⟨rfl, rfl⟩))
        go_ret
        unfold ltrEnd
        rw [HL.out]
        exact ⟨rfl, grown_trans (grown_trans gq.out (grown_set _ _ _ _)) (grown_drewN _ _ _)⟩
      | false =>
        have HL : Hid (ltr t k = some (k + 2)) := by unfold Hid ltr; rw [if_neg (by rw [ha]; simp), if_pos HY, if_neg (by rw [ha2]; simp)]
        have HA2 := hide2 (HA.out (k + 1) l)
        rw [ha2] at HA2
        clear HY
        go_enter Tryd.func25, Tryd.ntmps25
        go_wp2_with fail
        go_quiet ((go_at_call 23; refine Calls.quiet_of (HA1.out _ ?_); exact h))
        have hq : Sc (w.drewN nq) g f t k l := h.drewN nq
        have gq := hide2 (grown_drewN w nq (some g))
        generalize w.drewN nq = wq at *
        have cq := hq.c2
        have fq := hq.free 2
        go_wp2_with (go_at_call 23; have hs := (hq.go (k + 1) (y := (k : Int) + 1) (by omega)); refine (HA2.out _ hs).mono ?_; rintro e w1 ⟨rfl, m, rfl⟩; have c3 := (hs.drewN m).c2; have f3 := (hs.drewN m).free 2)
        go_ret
        unfold ltrEnd
        rw [HL.out]
        exact ⟨rfl, (hs.drewN m).go (k + 2) (by omega), grown_trans (grown_trans (grown_trans gq.out (grown_set _ _ _ _)) (grown_drewN _ _ _)) (grown_set _ _ _ _)⟩
    · have HL : Hid (ltr t k = some (k + 1)) := by unfold Hid ltr; rw [if_neg (by rw [ha]; simp), HY, if_neg h92]
      have hyb : ((y : Int) == 92) = false := by rw [beq_eq_false_iff_ne]; omega
      clear HY
      go_enter Tryd.func25, Tryd.ntmps25
      go_wp2_with fail
      go_quiet ((go_at_call 23; refine Calls.quiet_of (HA1.out _ ?_); exact h))
      have hq : Sc (w.drewN nq) g f t k l := h.drewN nq
      have gq := hide2 (grown_drewN w nq (some g))
      generalize w.drewN nq = wq at *
      have cq := hq.c2
      have fq := hq.free 2
      go_wp2_with (go_at_call 23; refine (HA1.out _ hq).mono ?_; rintro e w1 ⟨rfl, m, rfl⟩; have c3 := (hq.drewN m).c2; have f3 := (hq.drewN m).free 2)
      go_ret
      unfold ltrEnd
      rw [HL.out]
      exact ⟨rfl, (hq.drewN m).go (k + 1) (by omega), grown_trans (grown_trans gq.out (grown_drewN _ _ _)) (grown_set _ _ _ _)⟩

set_option maxRecDepth 100000 in
set_option maxHeartbeats 1000000 in
/-- (*scanner).passRemark -/
theorem passRemark_any (g : Nat) (f t : ByteArray) (k l : Nat) (w : World) (h : Sc w g f t k l) (ht : t.size ≤ 1048576) (hk : k ≤ t.size) :
    Calls Tryd.prog 17 #[.pointer (some ⟨g, 0, none⟩)] w fun e w' => e = .returned (.tuple #[]) ∧ Sc w' g f t (rEnd t k) l ∧ w.grownBy w' (some g) := by
  have HA := hide2 (fun (k l : Nat) (w : World) (h : Sc w g f t k l) => atEnd_any g f t k l w h ht)
  go_enter Tryd.func17, Tryd.ntmps17
  go_wp2_with fail
  go_loopw [2] (fun _ wr => ∃ k' : Nat, k' ≤ t.size ∧ Hid (rEnd t k = rEnd t k') ∧ Sc wr g f t k' l ∧ w.grownBy wr (some g))
    (fun _ wr => t.size - (match wr.cell? ⟨g, 2, none⟩ with | some (.int _ n) => n.toNat | _ => 0))
  case atStart => exact ⟨k, hk, rfl, h, grown_refl _ _⟩
  case round =>
    obtain ⟨k', hk', HR, hr, hg⟩ := hrel
    have HM := hide2 hr.c2
    have HA1 := hide2 (HA.out k' l)
    cases ha : atE t k' with
    | true =>
      rw [ha] at HA1
      have HE : Hid (rEnd t k' = k') := by
        unfold Hid; rw [rEnd_eq, if_neg]; intro hh; unfold atE at ha; simp at ha; omega
      go_wp2_with (go_at_call 23; refine (HA1.out _ hr).mono ?_; rintro e w1 ⟨rfl, m, rfl⟩)
      go_end0
      exact ⟨rfl, by rw [HR.out, HE.out]; exact hr.drewN m, grown_trans hg (grown_drewN _ _ _)⟩
    | false =>
      rw [ha] at HA1
      have hlt := (atE_lt ha)
      have HE : Hid (rEnd t k' = rEnd t (k' + 1)) := by
        unfold Hid; rw [rEnd_eq, if_pos hlt]
      go_wp2_with (go_at_call 23; refine (HA1.out _ hr).mono ?_; rintro e w1 ⟨rfl, m, rfl⟩; have c3 := (hr.drewN m).c2; have f3 := (hr.drewN m).free 2)
      go_roundw
      case rel => exact ⟨k' + 1, by omega, HR.out.trans HE.out, (hr.drewN m).go (k' + 1) (by omega), grown_trans (grown_trans hg (grown_drewN _ _ _)) (grown_set _ _ _ _)⟩
      case measure =>
        rw [HM.out, ((hr.drewN m).go (k' + 1) (by omega)).c2]
        simp; omega
end Go.Proofs.YtclonjmhbgllkaaDoor
