import Derived.Shelf.RegionOpen
import Derived.WalkKit
import Derived.WalkSpells
import Derived.WalkLawsBesides
import Derived.OwnWalkIn
import Derived.BigQuiet
import Derived.Deep.QuietTactic
import Derived.RangeFuncBox
import Derived.Test.YtclonjmhbgllkaaDoorRows
import Derived.Test.YtclonjmhbgllkaaDoorMe1
namespace Go.Proofs.YtclonjmhbgllkaaDoor
set_option linter.unusedVariables false
open Go.RowKit Go.Shelf Nm

theorem hide2 {p : Prop} (h : p) : Hid p := h
theorem bstep {B : Nat} {a b c : World} (h : Below B a b) (k : Below b.heap.size b c) (hB : B ≤ b.heap.size) : Below B a c := h.trans (k.mono hB)

/-- a scanner in memory: its file, its text, its place, its line -/
def Sc (w : World) (g : Nat) (f t : ByteArray) (k l : Nat) : Prop :=
  w.heap[g]? = some (.cells #[.string f, .string t, .int .i64 (k : Int), .int .i64 (l : Int)] 48 (0, 0))
theorem Sc.lt {w : World} {g : Nat} {f t : ByteArray} {k l : Nat} (h : Sc w g f t k l) : g < w.heap.size := (Array.getElem?_eq_some_iff.1 h).1
theorem Sc.c0 {w : World} {g : Nat} {f t : ByteArray} {k l : Nat} (h : Sc w g f t k l) : w.cell? ⟨g, 0, none⟩ = some (.string f) := by unfold Sc at h; simp [World.cell?, h]
theorem Sc.c1 {w : World} {g : Nat} {f t : ByteArray} {k l : Nat} (h : Sc w g f t k l) : w.cell? ⟨g, 1, none⟩ = some (.string t) := by unfold Sc at h; simp [World.cell?, h]
theorem Sc.c2 {w : World} {g : Nat} {f t : ByteArray} {k l : Nat} (h : Sc w g f t k l) : w.cell? ⟨g, 2, none⟩ = some (.int .i64 (k : Int)) := by unfold Sc at h; simp [World.cell?, h]
theorem Sc.c3 {w : World} {g : Nat} {f t : ByteArray} {k l : Nat} (h : Sc w g f t k l) : w.cell? ⟨g, 3, none⟩ = some (.int .i64 (l : Int)) := by unfold Sc at h; simp [World.cell?, h]
theorem Sc.free {w : World} {g : Nat} {f t : ByteArray} {k l : Nat} (h : Sc w g f t k l) (j : Nat) : w.frozen? ⟨g, j, none⟩ = false := by unfold Sc at h; simp [World.frozen?, h]
theorem Sc.drewN {w : World} {g : Nat} {f t : ByteArray} {k l : Nat} (h : Sc w g f t k l) (n : Nat) : Sc (w.drewN n) g f t k l := h
theorem Sc.set2 {w : World} {g : Nat} {f t : ByteArray} {k l : Nat} (h : Sc w g f t k l) (k' : Nat) : Sc (w.setCell ⟨g, 2, none⟩ (.int .i64 (k' : Int))) g f t k' l := by
  unfold Sc at *
  simp [World.setCell, Array.getElem?_modify, h]
theorem Sc.set3 {w : World} {g : Nat} {f t : ByteArray} {k l : Nat} (h : Sc w g f t k l) (l' : Nat) : Sc (w.setCell ⟨g, 3, none⟩ (.int .i64 (l' : Int))) g f t k l' := by
  unfold Sc at *
  simp [World.setCell, Array.getElem?_modify, h]
theorem Sc.below {w w' : World} {g : Nat} {f t : ByteArray} {k l : Nat} (h : Sc w g f t k l) (hb : Below w.heap.size w w') : Sc w' g f t k l := (hb.block g h.lt).trans h
theorem Sc.alloc {w : World} {g : Nat} {f t : ByteArray} {k l : Nat} (h : Sc w g f t k l) (o : Obj) : Sc (w.alloc o) g f t k l := h.below ((Below.refl _ w).alloc (Nat.le_refl _) o)

theorem quiet_below {w : World} (n : Nat) : Below w.heap.size w (w.drewN n) := below_drewN (Below.refl _ w) n

/-- (*scanner).more -/
theorem more_any (g : Nat) (f t : ByteArray) (k l : Nat) (w : World) (h : Sc w g f t k l) (ht : t.size ≤ 1048576) :
    Calls Tryd.prog 12 #[.pointer (some ⟨g, 0, none⟩)] w fun e w' => e = .returned (.bool (decide (k < t.size))) ∧ ∃ m, w' = w.drewN m := by
  have c1 := h.c1
  have c2 := h.c2
  have HD : Hid (decide ((k : Int) < (t.size : Int)) = decide (k < t.size)) := by unfold Hid; simp
  go_enter Tryd.func12, Tryd.ntmps12
  go_wp2_with fail
  go_quiet (fail)
  go_wp2
  go_ret
  exact ⟨by rw [← HD.out]; rfl, _, rfl⟩

/-- isBlank -/
theorem isBlank_any (x : Nat) (w : World) (hx : x < 256) :
    Calls Tryd.prog 15 #[.int .u8 (x : Int)] w fun e w' => e = .returned (.bool (isBl x)) ∧ w' = w := by
  go_enter Tryd.func15, Tryd.ntmps15
  go_wp2
  all_goals
    go_ret
    refine ⟨?_, rfl⟩
    show Ending.returned (Value.bool _) = Ending.returned (Value.bool _)
    congr 2; unfold isBl; rw [Bool.eq_iff_iff]; simp; omega

/-- what fail answers -/
def errA (f : ByteArray) (c l : Nat) : Value := .agg #[.string f, .int .i64 (l : Int), .iface 52 (.int .i64 (c : Int))]
/-- (*scanner).fail -/
theorem fail_any (g : Nat) (f t : ByteArray) (k l : Nat) (c n : Nat) (w : World) (h : Sc w g f t k l) :
    Calls Tryd.prog 16 #[.pointer (some ⟨g, 0, none⟩), .int .i64 (c : Int), .int .i64 (n : Int)] w fun e w' => e = .returned (.iface 54 (errA f c n)) ∧ w' = w := by
  have c0 := h.c0
  go_enter Tryd.func16, Tryd.ntmps16
  go_wp2
  go_ret
  exact ⟨rfl, rfl⟩

/-- does a line end at k? -/
def atE (t : ByteArray) (k : Nat) : Bool := !(decide (k < t.size)) || bt t k == 10
/-- (*scanner).atEnd -/
theorem atEnd_any (g : Nat) (f t : ByteArray) (k l : Nat) (w : World) (h : Sc w g f t k l) (ht : t.size ≤ 1048576) :
    Calls Tryd.prog 23 #[.pointer (some ⟨g, 0, none⟩)] w fun e w' => e = .returned (.bool (atE t k)) ∧ ∃ m, w' = w.drewN m := by
  have c1 := h.c1
  have c2 := h.c2
  by_cases hlt : k < t.size
  · obtain ⟨y, hy, HY, hyl⟩ := bt_wrap hlt
    have HM := hide2 (fun w h => more_any g f t k l w h ht)
    have hd : decide (k < t.size) = true := decide_eq_true hlt
    rw [hd] at HM
    have HE : Hid (atE t k = ((y : Int) == 10)) := by
      unfold Hid atE; rw [HY]; simp [hlt]
      by_cases e : y = 10
      · subst e; rfl
      · rw [beq_eq_false_iff_ne.2 e]; symm; rw [beq_eq_false_iff_ne]; omega
    clear HY
    go_enter Tryd.func23, Tryd.ntmps23
    go_wp2_with fail
    go_quiet ((go_at_call 12; refine Calls.quiet_of (HM.out _ ?_); exact h))
    go_wp2
    go_ret
    exact ⟨by rw [HE.out]; rfl, _, rfl⟩
  · have HM := hide2 (fun w h => more_any g f t k l w h ht)
    have hd : decide (k < t.size) = false := decide_eq_false hlt
    rw [hd] at HM
    have HE : Hid (atE t k = true) := by unfold Hid atE; simp [hlt]
    go_enter Tryd.func23, Tryd.ntmps23
    go_wp2_with fail
    go_quiet ((go_at_call 12; refine Calls.quiet_of (HM.out _ ?_); exact h))
    go_wp2
    go_ret
    exact ⟨by rw [HE.out]; rfl, _, rfl⟩
end Go.Proofs.YtclonjmhbgllkaaDoor
