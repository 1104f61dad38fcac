import Derived.Test.YtiaccimdjfdkgaaGreatDoorMathG
import Derived.Shelf.RegionOpen
import Derived.WalkKit
import Derived.WalkSpells
import Derived.WalkLawsBesides
import Derived.OwnWalkIn
import Derived.BigQuiet
import Derived.Deep.QuietTactic
import Derived.RangeFuncBox
import Derived.Test.YtiaccimdjfdkgaaGreatDoorRows
import Derived.RegionTactic
import Derived.ChangeAlike
import Derived.Deep.Cut
import Derived.WalkMore
import Derived.Deep.RegionHeld3
import Derived.Deep.CutRange
/-
  Plain facts on files of entries: no program, no memory. (The verifier's own text.)
-/
namespace Go.Proofs.YtiaccimdjfdkgaaGreatDoor.Nm
set_option linter.unusedVariables false

def isBl (b : Nat) : Bool := b == 32 || b == 9 || b == 13
def isStop (b : Nat) : Bool := isBl b || b == 10 || b == 59 || b == 40 || b == 41 || b == 34

/-- where a word without quotes ends, from k on -/
def wEnd (s : ByteArray) (k : Nat) : Option Nat :=
  if k < s.size then
    if isStop (bt s k) = true then some k
    else if bt s k = 92 then
      if k + 1 < s.size ∧ bt s (k + 1) ≠ 10 then wEnd s (k + 2) else none
    else wEnd s (k + 1)
  else some k

/-- where the quotes are closed, from k on -/
def qEnd (s : ByteArray) (k : Nat) : Option Nat :=
  if k < s.size then
    if bt s k = 92 then
      if k + 1 < s.size ∧ bt s (k + 1) ≠ 10 then qEnd s (k + 2) else none
    else if bt s k = 34 then some k
    else if bt s k = 10 then none
    else qEnd s (k + 1)
  else none

/-- where a remark ends -/
def rEnd (s : ByteArray) (k : Nat) : Nat := if k < s.size then if bt s k ≠ 10 then rEnd s (k + 1) else k else k
theorem rEnd_eq (s : ByteArray) (k : Nat) : rEnd s k = if k < s.size ∧ bt s k ≠ 10 then rEnd s (k + 1) else k := by
  rw [rEnd]
  by_cases h1 : k < s.size
  · by_cases h2 : bt s k ≠ 10
    · rw [if_pos h1, if_pos h2, if_pos ⟨h1, h2⟩]
    · rw [if_pos h1, if_neg h2, if_neg (fun h => h2 h.2)]
  · rw [if_neg h1, if_neg (fun h => h1 h.1)]

structure Wd where
  t : ByteArray
  q : Bool
structure En where
  l : Nat
  b : Bool
  ws : List Wd

def tokW (s : ByteArray) (k : Nat) : Option (Wd × Nat) :=
  if bt s k = 34 then (qEnd s (k + 1)).map (fun e => (⟨s.extract (k + 1) e, true⟩, e + 1))
  else (wEnd s k).map (fun e => (⟨s.extract k e, false⟩, e))

theorem wEnd_le (s : ByteArray) (k e : Nat) (hk : k ≤ s.size) (h : wEnd s k = some e) : k ≤ e ∧ e ≤ s.size := by
  fun_induction wEnd s k with
  | case1 k h1 h2 => simp at h; omega
  | case2 k h1 h2 h3 h4 ih => have := ih (by omega) h; omega
  | case3 => cases h
  | case4 k h1 h2 h3 ih => have := ih (by omega) h; omega
  | case5 k h1 => simp at h; omega
theorem wEnd_lt (s : ByteArray) (k e : Nat) (hk : k < s.size) (hs : isStop (bt s k) = false) (h : wEnd s k = some e) : k < e ∧ e ≤ s.size := by
  rw [wEnd, if_pos hk, if_neg (by rw [hs]; simp)] at h
  split at h
  · split at h
    · have := wEnd_le s _ e (by omega) h; omega
    · cases h
  · have := wEnd_le s _ e (by omega) h; omega
theorem qEnd_le (s : ByteArray) (k e : Nat) (h : qEnd s k = some e) : k ≤ e ∧ e < s.size := by
  fun_induction qEnd s k with
  | case1 k h1 h2 h3 ih => have := ih h; omega
  | case2 => cases h
  | case3 k h1 h2 h3 => simp at h; omega
  | case4 => cases h
  | case5 k h1 h2 h3 h4 ih => have := ih h; omega
  | case6 => cases h
theorem rEnd_le (s : ByteArray) (k : Nat) (hk : k ≤ s.size) : k ≤ rEnd s k ∧ rEnd s k ≤ s.size := by
  fun_induction rEnd s k with
  | case1 k h1 h2 ih => have := ih (by omega); omega
  | case2 k h1 h2 => omega
  | case3 k h1 => omega
theorem rEnd_lt (s : ByteArray) (k : Nat) (hk : k < s.size) (h : bt s k ≠ 10) : k < rEnd s k ∧ rEnd s k ≤ s.size := by
  rw [rEnd_eq, if_pos ⟨hk, h⟩]; have := rEnd_le s (k + 1) (by omega); omega
theorem tokW_lt {s : ByteArray} {k : Nat} {x : Wd} {e : Nat} (hk : k < s.size) (hs : isStop (bt s k) = false ∨ bt s k = 34) (h : tokW s k = some (x, e)) : k < e ∧ e ≤ s.size := by
  unfold tokW at h
  split at h
  · cases hq : qEnd s (k + 1) with
    | none => rw [hq] at h; cases h
    | some y => rw [hq] at h; simp at h; have := qEnd_le s _ _ hq; omega
  · cases hw : wEnd s k with
    | none => rw [hw] at h; cases h
    | some y =>
      rw [hw] at h; simp at h
      have := wEnd_lt s k y hk (by rcases hs with hs | hs; exact hs; contradiction) hw; omega

/-- an entry that is wrong (error, line), or a right one (place and line behind it, words) -/
abbrev Er := (Nat × Nat) ⊕ (Nat × Nat × List Wd)

/-- the rest of an entry: at k, on line l, within the '(' of line o (0: none), behind the words ws -/
def ent (s : ByteArray) (k l o : Nat) (ws : List Wd) : Er :=
  if k < s.size then
    if bt s k = 10 then if o = 0 then .inr ((k + 1), (l + 1), ws) else ent s (k + 1) (l + 1) o ws
    else if isBl (bt s k) = true then ent s (k + 1) l o ws
    else if bt s k = 40 then if o = 0 then ent s (k + 1) l l ws else .inl (2, l)
    else if bt s k = 41 then if o = 0 then .inl (2, l) else ent s (k + 1) l 0 ws
    else if bt s k = 59 then if k < rEnd s k then ent s (rEnd s k) l o ws else .inl (0, 0)
    else match tokW s k with
      | none => .inl (2, l)
      | some x => if k < x.2 then ent s x.2 l o (ws ++ [x.1]) else .inl (0, 0)
  else if o = 0 then .inr ((k + 1), (l + 1), ws) else .inl (10, o)

theorem ent_good (s : ByteArray) (k l o : Nat) (ws : List Wd) (k' l' : Nat) (ws' : List Wd) (hk : k ≤ s.size) (h : ent s k l o ws = .inr (k', l', ws')) :
    k < k' ∧ k' ≤ s.size + 1 ∧ l < l' ∧ l' + k ≤ l + k' ∧ ws'.length + k ≤ ws.length + k' := by
  fun_induction ent s k l o ws with
  | case1 => simp at h; obtain ⟨rfl, rfl, rfl⟩ := h; omega
  | case2 k l o ws h1 h2 h3 ih => have := ih (by omega) h; omega
  | case3 k l o ws h1 h2 h3 ih => have := ih (by omega) h; omega
  | case4 k l ws h1 h2 h3 h4 ih => have := ih (by omega) h; omega
  | case5 => cases h
  | case6 => cases h
  | case7 k l o ws h1 h2 h3 h4 h5 h6 ih => have := ih (by omega) h; omega
  | case8 k l o ws h1 h2 h3 h4 h5 h6 h7 ih => have := rEnd_le s k (by omega); have := ih (by omega) h; omega
  | case9 => cases h
  | case10 => cases h
  | case11 k l o ws h1 h2 h3 h4 h5 h6 x hx h7 ih =>
    have hst : isStop (bt s k) = false ∨ bt s k = 34 := by
      by_cases h34 : bt s k = 34
      · exact .inr h34
      · left; simp [isStop, h2, h3, h4, h5, h6, h34]
    have := tokW_lt (x := x.1) (e := x.2) h1 hst hx
    have := ih (by omega) h
    simp at this; omega
  | case12 => cases h
  | case13 => simp at h; obtain ⟨rfl, rfl, rfl⟩ := h; omega
  | case14 => cases h

/-- what is wrong (error, line), or all entries -/
abbrev Rs := (Nat × Nat) ⊕ List En

def putE (out : List En) (l : Nat) (b : Bool) (ws : List Wd) : List En := if ws.length = 0 then out else out ++ [⟨l, b, ws⟩]

/-- the entries from k on, behind those of out -/
def ents (s : ByteArray) (k l : Nat) (out : List En) : Rs :=
  if k < s.size then
    match ent s k l 0 [] with
    | .inl (c, l) => .inl (c, l)
    | .inr (k', l', ws) => if k < k' then ents s k' l' (putE out l (isBl (bt s k)) ws) else .inl (0, 0)
  else .inr out
def entsB (s : ByteArray) : Rs := ents s 0 1 []
end Go.Proofs.YtiaccimdjfdkgaaGreatDoor.Nm

namespace Go.Proofs.YtiaccimdjfdkgaaGreatDoor
set_option linter.unusedVariables false
open Go.RowKit Go.Shelf Go.Proofs.YtiaccimdjfdkgaaGreatDoor.Nm

theorem hide2 {p : Prop} (h : p) : Hid p := h
theorem bstepM {B : Nat} {a b c : World} (h : Below B a b) (k : Below b.heap.size b c) (hB : B ≤ b.heap.size) : Below B a c := h.trans (k.mono hB)

/-- a scanner in memory: its file, its text, its place, its line -/
def Sc (w : World) (g : Nat) (f t : ByteArray) (k l : Nat) : Prop :=
  w.heap[g]? = some (.cells #[.string f, .string t, .int .i64 (k : Int), .int .i64 (l : Int)] 134 (0, 0))
theorem Sc.lt {w : World} {g : Nat} {f t : ByteArray} {k l : Nat} (h : Sc w g f t k l) : g < w.heap.size := (Array.getElem?_eq_some_iff.1 h).1
theorem Sc.c0 {w : World} {g : Nat} {f t : ByteArray} {k l : Nat} (h : Sc w g f t k l) : w.cell? ⟨g, 0, none⟩ = some (.string f) := by unfold Sc at h; simp [World.cell?, h]
theorem Sc.c1 {w : World} {g : Nat} {f t : ByteArray} {k l : Nat} (h : Sc w g f t k l) : w.cell? ⟨g, 1, none⟩ = some (.string t) := by unfold Sc at h; simp [World.cell?, h]
theorem Sc.c2 {w : World} {g : Nat} {f t : ByteArray} {k l : Nat} (h : Sc w g f t k l) : w.cell? ⟨g, 2, none⟩ = some (.int .i64 (k : Int)) := by unfold Sc at h; simp [World.cell?, h]
theorem Sc.c3 {w : World} {g : Nat} {f t : ByteArray} {k l : Nat} (h : Sc w g f t k l) : w.cell? ⟨g, 3, none⟩ = some (.int .i64 (l : Int)) := by unfold Sc at h; simp [World.cell?, h]
theorem Sc.free {w : World} {g : Nat} {f t : ByteArray} {k l : Nat} (h : Sc w g f t k l) (j : Nat) : w.frozen? ⟨g, j, none⟩ = false := by unfold Sc at h; simp [World.frozen?, h]
theorem Sc.drewN {w : World} {g : Nat} {f t : ByteArray} {k l : Nat} (h : Sc w g f t k l) (n : Nat) : Sc (w.drewN n) g f t k l := h
theorem Sc.set2 {w : World} {g : Nat} {f t : ByteArray} {k l : Nat} (h : Sc w g f t k l) (k' : Nat) : Sc (w.setCell ⟨g, 2, none⟩ (.int .i64 (k' : Int))) g f t k' l := by
  unfold Sc at *
  simp [World.setCell, Array.getElem?_modify, h]
theorem Sc.set3 {w : World} {g : Nat} {f t : ByteArray} {k l : Nat} (h : Sc w g f t k l) (l' : Nat) : Sc (w.setCell ⟨g, 3, none⟩ (.int .i64 (l' : Int))) g f t k l' := by
  unfold Sc at *
  simp [World.setCell, Array.getElem?_modify, h]
theorem Sc.below {w w' : World} {g : Nat} {f t : ByteArray} {k l : Nat} (h : Sc w g f t k l) (hb : Below w.heap.size w w') : Sc w' g f t k l := (hb.block g h.lt).trans h
theorem Sc.alloc {w : World} {g : Nat} {f t : ByteArray} {k l : Nat} (h : Sc w g f t k l) (o : Obj) : Sc (w.alloc o) g f t k l := h.below ((Below.refl _ w).alloc (Nat.le_refl _) o)

theorem quiet_below {w : World} (n : Nat) : Below w.heap.size w (w.drewN n) := below_drewN (Below.refl _ w) n

/-- (*scanner).more -/
theorem more_any (g : Nat) (f t : ByteArray) (k l : Nat) (w : World) (h : Sc w g f t k l) (ht : t.size ≤ 1073741824) :
    Calls Tryz.prog 56 #[.pointer (some ⟨g, 0, none⟩)] w fun e w' => e = .returned (.bool (decide (k < t.size))) ∧ ∃ m, w' = w.drewN m := by
  have c1 := h.c1
  have c2 := h.c2
  have HD : Hid (decide ((k : Int) < (t.size : Int)) = decide (k < t.size)) := by unfold Hid; simp
  go_enter Tryz.func56, Tryz.ntmps56
  go_wp2_with fail
  go_quiet (fail)
  go_wp2
  go_ret
  exact ⟨by rw [← HD.out]; rfl, _, rfl⟩

/-- isBlank -/
theorem isBlank_any (x : Nat) (w : World) (hx : x < 256) :
    Calls Tryz.prog 79 #[.int .u8 (x : Int)] w fun e w' => e = .returned (.bool (isBl x)) ∧ w' = w := by
  go_enter Tryz.func79, Tryz.ntmps79
  go_wp2
  all_goals
    go_ret
    refine ⟨?_, rfl⟩
    show Ending.returned (Value.bool _) = Ending.returned (Value.bool _)
    congr 2; unfold isBl; rw [Bool.eq_iff_iff]; simp; omega

/-- what fail answers -/
def errA (f : ByteArray) (c l : Nat) : Value := .agg #[.string f, .int .i64 (l : Int), .iface 42 (.int .i64 (c : Int))]
/-- (*scanner).fail -/
theorem fail_any (g : Nat) (f t : ByteArray) (k l : Nat) (c n : Nat) (w : World) (h : Sc w g f t k l) :
    Calls Tryz.prog 80 #[.pointer (some ⟨g, 0, none⟩), .int .i64 (c : Int), .int .i64 (n : Int)] w fun e w' => e = .returned (.iface 71 (errA f c n)) ∧ w' = w := by
  have c0 := h.c0
  go_enter Tryz.func80, Tryz.ntmps80
  go_wp2
  go_ret
  exact ⟨rfl, rfl⟩

/-- does a line end at k? -/
def atE (t : ByteArray) (k : Nat) : Bool := !(decide (k < t.size)) || bt t k == 10
/-- (*scanner).atEnd -/
theorem atEnd_any (g : Nat) (f t : ByteArray) (k l : Nat) (w : World) (h : Sc w g f t k l) (ht : t.size ≤ 1073741824) :
    Calls Tryz.prog 105 #[.pointer (some ⟨g, 0, none⟩)] w fun e w' => e = .returned (.bool (atE t k)) ∧ ∃ m, w' = w.drewN m := by
  have c1 := h.c1
  have c2 := h.c2
  by_cases hlt : k < t.size
  · obtain ⟨y, hy, HY, hyl⟩ := bt_wrap hlt
    have HM := hide2 (fun w h => more_any g f t k l w h ht)
    have hd : decide (k < t.size) = true := decide_eq_true hlt
    rw [hd] at HM
    have HE : Hid (atE t k = ((y : Int) == 10)) := by
      unfold Hid atE; rw [HY]; simp [hlt]
      by_cases e : y = 10
      · subst e; rfl
      · rw [beq_eq_false_iff_ne.2 e]; symm; rw [beq_eq_false_iff_ne]; omega
    clear HY
    go_enter Tryz.func105, Tryz.ntmps105
    go_wp2_with fail
    go_quiet ((go_at_call 56; refine Calls.quiet_of (HM.out _ ?_); exact h))
    go_wp2
    go_ret
    exact ⟨by rw [HE.out]; rfl, _, rfl⟩
  · have HM := hide2 (fun w h => more_any g f t k l w h ht)
    have hd : decide (k < t.size) = false := decide_eq_false hlt
    rw [hd] at HM
    have HE : Hid (atE t k = true) := by unfold Hid atE; simp [hlt]
    go_enter Tryz.func105, Tryz.ntmps105
    go_wp2_with fail
    go_quiet ((go_at_call 56; refine Calls.quiet_of (HM.out _ ?_); exact h))
    go_wp2
    go_ret
    exact ⟨by rw [HE.out]; rfl, _, rfl⟩
end Go.Proofs.YtiaccimdjfdkgaaGreatDoor

namespace Go.Proofs.YtiaccimdjfdkgaaGreatDoor
set_option linter.unusedVariables false
open Go.RowKit Go.Shelf Go.Proofs.YtiaccimdjfdkgaaGreatDoor.Nm

theorem Sc.go {w : World} {g : Nat} {f t : ByteArray} {k l : Nat} (h : Sc w g f t k l) (k' : Nat) {y : Int} (hy : y = (k' : Int)) : Sc (w.setCell ⟨g, 2, none⟩ (.int .i64 y)) g f t k' l := by subst hy; exact h.set2 k'
theorem Sc.ln {w : World} {g : Nat} {f t : ByteArray} {k l : Nat} (h : Sc w g f t k l) (l' : Nat) {y : Int} (hy : y = (l' : Int)) : Sc (w.setCell ⟨g, 3, none⟩ (.int .i64 y)) g f t k l' := by subst hy; exact h.set3 l'
theorem grown_drewNM (w : World) (n : Nat) (r : Option Nat) : w.grownBy (w.drewN n) r := ⟨rfl, rfl, rfl, Nat.le_refl _, fun _ _ _ => rfl⟩
theorem grown_setM (w : World) (g j : Nat) (u : Value) : w.grownBy (w.setCell ⟨g, j, none⟩ u) (some g) :=
  ⟨rfl, rfl, rfl, by simp [World.setCell], fun b hb hne => Below.heap_setCell _ _ _ b (by show b ≠ g; exact fun e => hne (by rw [e]))⟩
theorem grown_reflM (w : World) (r : Option Nat) : w.grownBy w r := ⟨rfl, rfl, rfl, Nat.le_refl _, fun _ _ _ => rfl⟩
theorem grown_belowM {w w' : World} (h : Below w.heap.size w w') (r : Option Nat) : w.grownBy w' r := ⟨h.os, h.tape, h.output, h.size, fun k hk _ => h.block k hk⟩
theorem grown_transM {a b c : World} {r : Option Nat} (h : a.grownBy b r) (k : b.grownBy c r) : a.grownBy c r :=
  ⟨k.os.trans h.os, k.tape.trans h.tape, k.output.trans h.output, Nat.le_trans h.size k.size, fun j hj hne => (k.block j (Nat.lt_of_lt_of_le hj h.size) hne).trans (h.block j hj hne)⟩

/-- behind a letter at k -/
def ltr (t : ByteArray) (k : Nat) : Option Nat := if atE t k = true then none else if bt t k = 92 then (if atE t (k + 1) = true then none else some (k + 2)) else some (k + 1)
def ltrEnd (f t : ByteArray) (k l g : Nat) (w : World) (e : Ending) (w' : World) : Prop :=
  match ltr t k with
  | some k' => e = .returned .nilIface ∧ Sc w' g f t k' l ∧ w.grownBy w' (some g)
  | none => e = .returned (.iface 71 (errA f 2 l)) ∧ w.grownBy w' (some g)

theorem atE_lt {t : ByteArray} {k : Nat} (h : atE t k = false) : k < t.size ∧ bt t k ≠ 10 := by
  unfold atE at h; simp at h; exact h

set_option maxRecDepth 100000 in
set_option maxHeartbeats 1000000 in
/-- (*scanner).letter -/
theorem letter_any (g : Nat) (f t : ByteArray) (k l : Nat) (w : World) (h : Sc w g f t k l) (ht : t.size ≤ 1073741824) (hk : k ≤ t.size) :
    Calls Tryz.prog 107 #[.pointer (some ⟨g, 0, none⟩)] w (ltrEnd f t k l g w) := by
  have c1 := h.c1
  have c2 := h.c2
  have HA := hide2 (fun (k l : Nat) (w : World) (h : Sc w g f t k l) => atEnd_any g f t k l w h ht)
  cases ha : atE t k with
  | true =>
    have HL : Hid (ltr t k = none) := by unfold Hid ltr; rw [if_pos ha]
    have HA1 := hide2 (HA.out k l)
    rw [ha] at HA1
    have HF := hide2 (fun (w : World) (h : Sc w g f t k l) => fail_any g f t k l 2 l w h)
    go_enter Tryz.func107, Tryz.ntmps107
    go_wp2_with fail
    go_quiet ((go_at_call 105; refine Calls.quiet_of (HA1.out _ ?_); exact h))
    have hq : Sc (w.drewN nq) g f t k l := h.drewN nq
    have gq := hide2 (grown_drewNM w nq (some g))
    generalize w.drewN nq = wq at *
    go_wp2_with (first | (go_at_call 105; refine (HA1.out _ hq).mono ?_; rintro e w1 ⟨rfl, m, rfl⟩; have c3 := (hq.drewN m).c3) | (go_at_call 80; refine (HF.out _ (hq.drewN m)).mono ?_; rintro e w2 ⟨rfl, rfl⟩))
    go_ret
    unfold ltrEnd
    rw [HL.out]
    exact ⟨rfl, grown_transM gq.out (grown_drewNM _ _ _)⟩
  | false =>
    have hlt := (atE_lt ha).1
    obtain ⟨y, hy, HY, hyl⟩ := bt_wrap hlt
    have HA1 := hide2 (HA.out k l)
    rw [ha] at HA1
    by_cases h92 : y = 92
    · subst h92
      cases ha2 : atE t (k + 1) with
      | true =>
        have HL : Hid (ltr t k = none) := by unfold Hid ltr; rw [if_neg (by rw [ha]; simp), if_pos HY, if_pos ha2]
        have HA2 := hide2 (HA.out (k + 1) l)
        rw [ha2] at HA2
        have HF := hide2 (fun (w : World) (h : Sc w g f t (k + 1) l) => fail_any g f t (k + 1) l 2 l w h)
        clear HY
        go_enter Tryz.func107, Tryz.ntmps107
        go_wp2_with fail
        go_quiet ((go_at_call 105; refine Calls.quiet_of (HA1.out _ ?_); exact h))
        have hq : Sc (w.drewN nq) g f t k l := h.drewN nq
        have gq := hide2 (grown_drewNM w nq (some g))
        generalize w.drewN nq = wq at *
        have cq := hq.c2
        have fq := hq.free 2
        go_wp2_with (first | (go_at_call 105; have hs := (hq.go (k + 1) (y := (k : Int) + 1) (by omega)); refine (HA2.out _ hs).mono ?_; rintro e w1 ⟨rfl, m, rfl⟩; have c3 := (hs.drewN m).c3) | (go_at_call 80; refine (HF.out _ (hs.drewN m)).mono ?_; rintro e w2 ⟨rfl, rfl⟩))
        go_ret
        unfold ltrEnd
        rw [HL.out]
        exact ⟨rfl, grown_transM (grown_transM gq.out (grown_setM _ _ _ _)) (grown_drewNM _ _ _)⟩
      | false =>
        have HL : Hid (ltr t k = some (k + 2)) := by unfold Hid ltr; rw [if_neg (by rw [ha]; simp), if_pos HY, if_neg (by rw [ha2]; simp)]
        have HA2 := hide2 (HA.out (k + 1) l)
        rw [ha2] at HA2
        clear HY
        go_enter Tryz.func107, Tryz.ntmps107
        go_wp2_with fail
        go_quiet ((go_at_call 105; refine Calls.quiet_of (HA1.out _ ?_); exact h))
        have hq : Sc (w.drewN nq) g f t k l := h.drewN nq
        have gq := hide2 (grown_drewNM w nq (some g))
        generalize w.drewN nq = wq at *
        have cq := hq.c2
        have fq := hq.free 2
        go_wp2_with (go_at_call 105; have hs := (hq.go (k + 1) (y := (k : Int) + 1) (by omega)); refine (HA2.out _ hs).mono ?_; rintro e w1 ⟨rfl, m, rfl⟩; have c3 := (hs.drewN m).c2; have f3 := (hs.drewN m).free 2)
        go_ret
        unfold ltrEnd
        rw [HL.out]
        exact ⟨rfl, (hs.drewN m).go (k + 2) (by omega), grown_transM (grown_transM (grown_transM gq.out (grown_setM _ _ _ _)) (grown_drewNM _ _ _)) (grown_setM _ _ _ _)⟩
    · have HL : Hid (ltr t k = some (k + 1)) := by unfold Hid ltr; rw [if_neg (by rw [ha]; simp), HY, if_neg h92]
      have hyb : ((y : Int) == 92) = false := by rw [beq_eq_false_iff_ne]; omega
      clear HY
      go_enter Tryz.func107, Tryz.ntmps107
      go_wp2_with fail
      go_quiet ((go_at_call 105; refine Calls.quiet_of (HA1.out _ ?_); exact h))
      have hq : Sc (w.drewN nq) g f t k l := h.drewN nq
      have gq := hide2 (grown_drewNM w nq (some g))
      generalize w.drewN nq = wq at *
      have cq := hq.c2
      have fq := hq.free 2
      go_wp2_with (go_at_call 105; refine (HA1.out _ hq).mono ?_; rintro e w1 ⟨rfl, m, rfl⟩; have c3 := (hq.drewN m).c2; have f3 := (hq.drewN m).free 2)
      go_ret
      unfold ltrEnd
      rw [HL.out]
      exact ⟨rfl, (hq.drewN m).go (k + 1) (by omega), grown_transM (grown_transM gq.out (grown_drewNM _ _ _)) (grown_setM _ _ _ _)⟩

set_option maxRecDepth 100000 in
set_option maxHeartbeats 1000000 in
/-- (*scanner).passRemark -/
theorem passRemark_any (g : Nat) (f t : ByteArray) (k l : Nat) (w : World) (h : Sc w g f t k l) (ht : t.size ≤ 1073741824) (hk : k ≤ t.size) :
    Calls Tryz.prog 81 #[.pointer (some ⟨g, 0, none⟩)] w fun e w' => e = .returned (.tuple #[]) ∧ Sc w' g f t (rEnd t k) l ∧ w.grownBy w' (some g) := by
  have HA := hide2 (fun (k l : Nat) (w : World) (h : Sc w g f t k l) => atEnd_any g f t k l w h ht)
  go_enter Tryz.func81, Tryz.ntmps81
  go_wp2_with fail
  go_loopw [2] (fun _ wr => ∃ k' : Nat, k' ≤ t.size ∧ Hid (rEnd t k = rEnd t k') ∧ Sc wr g f t k' l ∧ w.grownBy wr (some g))
    (fun _ wr => t.size - (match wr.cell? ⟨g, 2, none⟩ with | some (.int _ n) => n.toNat | _ => 0))
  case atStart => exact ⟨k, hk, rfl, h, grown_reflM _ _⟩
  case round =>
    obtain ⟨k', hk', HR, hr, hg⟩ := hrel
    have HM := hide2 hr.c2
    have HA1 := hide2 (HA.out k' l)
    cases ha : atE t k' with
    | true =>
      rw [ha] at HA1
      have HE : Hid (rEnd t k' = k') := by
        unfold Hid; rw [rEnd_eq, if_neg]; intro hh; unfold atE at ha; simp at ha; omega
      go_wp2_with (go_at_call 105; refine (HA1.out _ hr).mono ?_; rintro e w1 ⟨rfl, m, rfl⟩)
      go_end0
      exact ⟨rfl, by rw [HR.out, HE.out]; exact hr.drewN m, grown_transM hg (grown_drewNM _ _ _)⟩
    | false =>
      rw [ha] at HA1
      have hlt := (atE_lt ha)
      have HE : Hid (rEnd t k' = rEnd t (k' + 1)) := by
        unfold Hid; rw [rEnd_eq, if_pos hlt]
      go_wp2_with (go_at_call 105; refine (HA1.out _ hr).mono ?_; rintro e w1 ⟨rfl, m, rfl⟩; have c3 := (hr.drewN m).c2; have f3 := (hr.drewN m).free 2)
      go_roundw
      case rel => exact ⟨k' + 1, by omega, HR.out.trans HE.out, (hr.drewN m).go (k' + 1) (by omega), grown_transM (grown_transM hg (grown_drewNM _ _ _)) (grown_setM _ _ _ _)⟩
      case measure =>
        rw [HM.out, ((hr.drewN m).go (k' + 1) (by omega)).c2]
        simp; omega
end Go.Proofs.YtiaccimdjfdkgaaGreatDoor

namespace Go.Proofs.YtiaccimdjfdkgaaGreatDoor
set_option linter.unusedVariables false
open Go.RowKit Go.Shelf Go.Proofs.YtiaccimdjfdkgaaGreatDoor.Nm

theorem letter_some {g : Nat} {f t : ByteArray} {k l k' : Nat} (hl : ltr t k = some k') (w : World) (h : Sc w g f t k l) (ht : t.size ≤ 1073741824) (hk : k ≤ t.size) :
    Calls Tryz.prog 107 #[.pointer (some ⟨g, 0, none⟩)] w fun e w' => e = .returned .nilIface ∧ Sc w' g f t k' l ∧ w.grownBy w' (some g) := by
  refine (letter_any g f t k l w h ht hk).mono ?_
  intro e w' h2; unfold ltrEnd at h2; rw [hl] at h2; exact h2
theorem letter_none {g : Nat} {f t : ByteArray} {k l : Nat} (hl : ltr t k = none) (w : World) (h : Sc w g f t k l) (ht : t.size ≤ 1073741824) (hk : k ≤ t.size) :
    Calls Tryz.prog 107 #[.pointer (some ⟨g, 0, none⟩)] w fun e w' => e = .returned (.iface 71 (errA f 2 l)) ∧ w.grownBy w' (some g) := by
  refine (letter_any g f t k l w h ht hk).mono ?_
  intro e w' h2; unfold ltrEnd at h2; rw [hl] at h2; exact h2

theorem ltr_some {t : ByteArray} {k k' : Nat} (h : ltr t k = some k') : k < k' ∧ k' ≤ t.size := by
  unfold ltr at h
  split at h
  · cases h
  · rename_i h1
    have := atE_lt (by simpa using h1)
    split at h
    · split at h
      · cases h
      · rename_i h2
        have := atE_lt (by simpa using h2)
        simp at h; omega
    · simp at h; omega
theorem qEnd_end {t : ByteArray} {k : Nat} (h : atE t k = true) : qEnd t k = none := by
  unfold atE at h
  rw [qEnd]
  by_cases hk : k < t.size
  · simp [hk] at h; rw [if_pos hk, if_neg (by omega), if_neg (by omega), if_pos h]
  · rw [if_neg hk]
theorem qEnd_ltr {t : ByteArray} {k : Nat} (h : atE t k = false) (h34 : bt t k ≠ 34) : qEnd t k = (match ltr t k with | some k' => qEnd t k' | none => none) := by
  have hk := atE_lt h
  rw [qEnd, if_pos hk.1]
  unfold ltr
  rw [if_neg (show ¬ atE t k = true by rw [h]; simp)]
  by_cases h92 : bt t k = 92
  · rw [if_pos h92, if_pos h92]
    cases h2 : atE t (k + 1) with
    | true => rw [if_pos rfl, if_neg]; intro hh; unfold atE at h2; simp at h2; omega
    | false => have := atE_lt h2; rw [if_pos this, if_neg (by simp)]
  · rw [if_neg h92, if_neg h92, if_neg h34, if_neg hk.2]
theorem wEnd_ltr {t : ByteArray} {k : Nat} (hk : k < t.size) (hs : isStop (bt t k) = false) : wEnd t k = (match ltr t k with | some k' => wEnd t k' | none => none) := by
  have h10 : bt t k ≠ 10 := by intro e; rw [e] at hs; simp [isStop] at hs
  have h : atE t k = false := by unfold atE; simp [hk, h10]
  rw [wEnd, if_pos hk, if_neg (by rw [hs]; simp)]
  unfold ltr
  rw [if_neg (show ¬ atE t k = true by rw [h]; simp)]
  by_cases h92 : bt t k = 92
  · rw [if_pos h92, if_pos h92]
    cases h2 : atE t (k + 1) with
    | true => rw [if_pos rfl, if_neg]; intro hh; unfold atE at h2; simp at h2; omega
    | false => have := atE_lt h2; rw [if_pos this, if_neg (by simp)]
  · rw [if_neg h92, if_neg h92]

theorem new_cell {W : World} {n : Nat} (hn : W.heap.size = n) (C : Array Value) (T : TypeId) (j : Nat) : (W.alloc (.cells C T)).cell? ⟨n, j, none⟩ = C[j]? := by
  subst hn
  unfold World.cell?
  rw [World.alloc_heap_new W (.cells C T)]
  simp
theorem new_free {W : World} {n : Nat} (hn : W.heap.size = n) (C : Array Value) (T : TypeId) (j : Nat) : (W.alloc (.cells C T)).frozen? ⟨n, j, none⟩ = false := by
  subst hn
  unfold World.frozen?
  rw [World.alloc_heap_new W (.cells C T)]
  simp
theorem set_sizeM (w : World) (a : Addr) (v : Value) : (w.setCell a v).heap.size = w.heap.size := by simp [World.setCell]

def wdEnd (r : Option (Wd × Nat)) (f t : ByteArray) (l g : Nat) (w : World) (e : Ending) (w' : World) : Prop :=
  match r with
  | some x => e = .returned (.tuple #[.agg #[.string x.1.t, .bool x.1.q], .nilIface]) ∧ Sc w' g f t x.2 l ∧ w.grownBy w' (some g)
  | none => e = .returned (.tuple #[.agg #[.string ⟨#[]⟩, .bool false], .iface 71 (errA f 2 l)]) ∧ w.grownBy w' (some g)
theorem grown_far {w w' : World} {r : Option Nat} (h : w.grownBy w' r) {R : Nat} (hR : w.heap.size ≤ R) (j : Nat) (u : Value) : w.grownBy (w'.setCell ⟨R, j, none⟩ u) r :=
  ⟨h.os, h.tape, h.output, by rw [set_sizeM]; exact h.size, fun b hb hne => (Below.heap_setCell _ _ _ b (by show b ≠ R; omega)).trans (h.block b hb hne)⟩
theorem two_set {w : World} {R : Nat} {a0 b0 : Value} (r0 : w.cell? ⟨R, 0, none⟩ = some a0) (r1 : w.cell? ⟨R, 1, none⟩ = some b0) (a b : Value) :
    ((w.setCell ⟨R, 0, none⟩ a).setCell ⟨R, 1, none⟩ b).cell? ⟨R, 0, none⟩ = some a ∧ ((w.setCell ⟨R, 0, none⟩ a).setCell ⟨R, 1, none⟩ b).cell? ⟨R, 1, none⟩ = some b := by
  constructor
  · rw [World.cell?_setCell_other _ _ _ _ (by intro e; cases e), World.cell?_setCell_same' _ _ _ (by rw [r0]; rfl)]
  · rw [World.cell?_setCell_same']; rw [World.cell?_setCell_other _ _ _ _ (by intro e; cases e), r1]; rfl
/-- a result's cells beside the scanner -/
theorem far_cell {w w' : World} {g : Nat} (h : w.grownBy w' (some g)) {b j : Nat} {v : Value} (hb : b ≠ g) (hc : w.cell? ⟨b, j, none⟩ = some v) : w'.cell? ⟨b, j, none⟩ = some v := by
  have hlt : b < w.heap.size := by
    rcases Nat.lt_or_ge b w.heap.size with h | h
    · exact h
    · simp [World.cell?, Array.getElem?_eq_none h] at hc
  rw [World.cell?_of_block (h.block b hlt (fun e => hb (Option.some.inj e)))]; exact hc
theorem far_free {w w' : World} {g : Nat} (h : w.grownBy w' (some g)) {b j : Nat} (hb : b ≠ g) (hlt : b < w.heap.size) (hc : w.frozen? ⟨b, j, none⟩ = false) : w'.frozen? ⟨b, j, none⟩ = false := by
  rw [World.frozen?_of_block (h.block b hlt (fun e => hb (Option.some.inj e)))]; exact hc

set_option maxRecDepth 100000 in
set_option maxHeartbeats 2000000 in
/-- (*scanner).quotedWord -/
theorem quoted_anyM (g : Nat) (f t : ByteArray) (k l : Nat) (w : World) (h : Sc w g f t k l) (ht : t.size ≤ 1073741824) (hk : k < t.size) :
    Calls Tryz.prog 106 #[.pointer (some ⟨g, 0, none⟩)] w (wdEnd ((qEnd t (k + 1)).map (fun e => (⟨t.extract (k + 1) e, true⟩, e + 1))) f t l g w) := by
  have hlt := h.lt
  have HA := hide2 (fun (k l : Nat) (w : World) (h : Sc w g f t k l) => atEnd_any g f t k l w h ht)
  obtain ⟨w1, hw1⟩ : ∃ w1, (w.setCell ⟨g, 2, none⟩ (.int .i64 ((k : Int) + 1))).alloc (.cells #[.string ⟨#[]⟩, .bool false] 121) = w1 := ⟨_, rfl⟩
  have h1 : Sc w1 g f t (k + 1) l := hw1 ▸ (h.go (k + 1) (y := (k : Int) + 1) (by omega)).alloc _
  have hg1 : w.grownBy w1 (some g) := hw1 ▸ grown_transM (grown_setM _ _ _ _) (World.grownBy_alloc _ _ _)
  have r01 : w1.cell? ⟨w.heap.size, 0, none⟩ = some (.string ⟨#[]⟩) := hw1 ▸ new_cell (set_sizeM _ _ _) _ _ _
  have r11 : w1.cell? ⟨w.heap.size, 1, none⟩ = some (.bool false) := hw1 ▸ new_cell (set_sizeM _ _ _) _ _ _
  have z01 (j : Nat) : w1.frozen? ⟨w.heap.size, j, none⟩ = false := hw1 ▸ new_free (set_sizeM _ _ _) _ _ _
  have hz1 : w1.heap.size = w.heap.size + 1 := by rw [← hw1]; simp
  have HG1 := hide2 hg1
  clear hg1
  have c2 := h.c2
  have f2 := h.free 2
  have c2' := h1.c2
  go_enter Tryz.func106, Tryz.ntmps106
  go_wp2_with fail
  clear hw1 c2 f2 c2'
  go_loopw [17] (fun _ wr => ∃ k' : Nat, k + 1 ≤ k' ∧ k' ≤ t.size ∧ Hid (qEnd t (k + 1) = qEnd t k') ∧ Sc wr g f t k' l ∧ w1.grownBy wr (some g))
    (fun _ wr => t.size - (match wr.cell? ⟨g, 2, none⟩ with | some (.int _ n) => n.toNat | _ => 0))
  case atStart => exact ⟨k + 1, Nat.le_refl _, by omega, rfl, h1, grown_reflM _ _⟩
  case round =>
    obtain ⟨k', hkk, hk', HR, hr, hg⟩ := hrel
    have HM := hide2 hr.c2
    have c1 := hr.c1
    have c2 := hr.c2
    have f2 := hr.free 2
    have r0 := far_cell hg (b := w.heap.size) (j := 0) (by omega) r01
    have r1 := far_cell hg (b := w.heap.size) (j := 1) (by omega) r11
    have z0 := far_free hg (b := w.heap.size) (j := 0) (by omega) (by omega) (z01 0)
    have z1 := far_free hg (b := w.heap.size) (j := 1) (by omega) (by omega) (z01 1)
    have HG := hide2 hg
    have HA1 := hide2 (HA.out k' l)
    cases ha : atE t k' with
    | true =>
      rw [ha] at HA1
      have hl : ltr t k' = none := by unfold ltr; rw [if_pos ha]
      have HL := hide2 (fun (w : World) (h : Sc w g f t k' l) => letter_none hl w h ht hk')
      have HQ : Hid (qEnd t (k + 1) = none) := HR.out.trans (qEnd_end ha)
      clear hg HR
      go_wp2_with fail
      go_quiet ((go_at_call 105; refine Calls.quiet_of (HA1.out _ ?_); exact hr))
      have hq : Sc (wr.drewN nq) g f t k' l := hr.drewN nq
      have gq := hide2 (grown_transM HG.out (grown_drewNM wr nq (some g)))
      generalize wr.drewN nq = wq at *
      clear r0 r1 z0 z1
      go_wp2_with (go_at_call 107; refine (HL.out _ hq).mono ?_; rintro e w2 ⟨rfl, hg2⟩; have HG2 := hide2 (grown_transM gq.out hg2); clear hg2; have r0 := far_cell HG2.out (b := w.heap.size) (j := 0) (by omega) r01; have r1 := far_cell HG2.out (b := w.heap.size) (j := 1) (by omega) r11; have z0 := far_free HG2.out (b := w.heap.size) (j := 0) (by omega) (by omega) (z01 0); have z1 := far_free HG2.out (b := w.heap.size) (j := 1) (by omega) (by omega) (z01 1))
      obtain ⟨e0, e1⟩ := two_set r0 r1 (.string ⟨#[]⟩) (.bool false)
      refine bodyPost_ret (v := .tuple #[.agg #[.string ⟨#[]⟩, .bool false], .iface 71 (errA f 2 l)]) (by simp [results, go_sem, e0, e1]) rfl ?_
      rw [HQ.out]
      exact ⟨rfl, grown_far (grown_far (grown_transM HG1.out HG2.out) (Nat.le_refl _) _ _) (Nat.le_refl _) _ _⟩
    | false =>
      rw [ha] at HA1
      have hlt := (atE_lt ha).1
      obtain ⟨y, hy, HY, hyl⟩ := bt_wrap hlt
      clear r0 r1 z0 z1
      by_cases h34 : y = 34
      · subst h34
        have HQ : Hid (qEnd t (k + 1) = some k') := by
          unfold Hid; rw [HR.out, qEnd, if_pos hlt, if_neg (by rw [HY]; decide), if_pos HY]
        clear HY HR hg
        go_wp2_with fail
        go_quiet ((go_at_call 105; refine Calls.quiet_of (HA1.out _ ?_); exact hr))
        have hq : Sc (wr.drewN nq) g f t k' l := hr.drewN nq
        have gq := hide2 (grown_transM HG.out (grown_drewNM wr nq (some g)))
        generalize wr.drewN nq = wq at *
        obtain ⟨w2, hw2⟩ : ∃ w2, wq.setCell ⟨g, 2, none⟩ (.int .i64 ((k' : Int) + 1)) = w2 := ⟨_, rfl⟩
        have h2 : Sc w2 g f t (k' + 1) l := hw2 ▸ hq.go (k' + 1) (y := (k' : Int) + 1) (by omega)
        have HG2 : Hid (w1.grownBy w2 (some g)) := hw2 ▸ grown_transM gq.out (grown_setM _ _ _ _)
        have r0 := far_cell HG2.out (b := w.heap.size) (j := 0) (by omega) r01
        have r1 := far_cell HG2.out (b := w.heap.size) (j := 1) (by omega) r11
        have z0 := far_free HG2.out (b := w.heap.size) (j := 0) (by omega) (by omega) (z01 0)
        have z1 := far_free HG2.out (b := w.heap.size) (j := 1) (by omega) (by omega) (z01 1)
        have d2 := hq.c2
        have g2 := hq.free 2
        have s1 := h2.c1
        have s2 := h2.c2
        go_wp2_with fail
        go_region
        go_wp2
        obtain ⟨e0, e1⟩ := two_set r0 r1 (.string (t.extract (k + 1) k')) (.bool true)
        refine bodyPost_ret (v := .tuple #[.agg #[.string (t.extract (k + 1) k'), .bool true], .nilIface]) (by simp [results, go_sem, e0, e1]) rfl ?_
        rw [HQ.out]
        refine ⟨rfl, ?_, ?_⟩
        · show Sc _ g f t (k' + 1) l
          exact (Below.heap_setCell _ _ _ g (by show g ≠ w.heap.size; omega)).trans ((Below.heap_setCell _ _ _ g (by show g ≠ w.heap.size; omega)).trans h2)
        · exact grown_transM (grown_far (grown_far (grown_transM HG1.out HG2.out) (Nat.le_refl _) _ _) (Nat.le_refl _) _ _) (grown_drewNM _ 1 _)
      · have hyb : ((y : Int) == 34) = false := by rw [beq_eq_false_iff_ne]; omega
        have hyb2 : ((y : Int) != 34) = true := by rw [bne_iff_ne]; omega
        have HQL : Hid (qEnd t k' = (match ltr t k' with | some k' => qEnd t k' | none => none)) := qEnd_ltr ha (by rw [HY]; exact h34)
        cases hl : ltr t k' with
        | none =>
          rw [hl] at HQL
          have HL := hide2 (fun (w : World) (h : Sc w g f t k' l) => letter_none hl w h ht hk')
          have HQ : Hid (qEnd t (k + 1) = none) := HR.out.trans HQL.out
          clear hg HR HY HQL hl
          go_wp2_with fail
          go_quiet ((go_at_call 105; refine Calls.quiet_of (HA1.out _ ?_); exact hr))
          have hq : Sc (wr.drewN nq) g f t k' l := hr.drewN nq
          have gq := hide2 (grown_transM HG.out (grown_drewNM wr nq (some g)))
          generalize wr.drewN nq = wq at *
          go_wp2_with (go_at_call 107; refine (HL.out _ hq).mono ?_; rintro e w2 ⟨rfl, hg2⟩; have HG2 := hide2 (grown_transM gq.out hg2); clear hg2; have r0 := far_cell HG2.out (b := w.heap.size) (j := 0) (by omega) r01; have r1 := far_cell HG2.out (b := w.heap.size) (j := 1) (by omega) r11; have z0 := far_free HG2.out (b := w.heap.size) (j := 0) (by omega) (by omega) (z01 0); have z1 := far_free HG2.out (b := w.heap.size) (j := 1) (by omega) (by omega) (z01 1))
          obtain ⟨e0, e1⟩ := two_set r0 r1 (.string ⟨#[]⟩) (.bool false)
          refine bodyPost_ret (v := .tuple #[.agg #[.string ⟨#[]⟩, .bool false], .iface 71 (errA f 2 l)]) (by simp [results, go_sem, e0, e1]) rfl ?_
          rw [HQ.out]
          exact ⟨rfl, grown_far (grown_far (grown_transM HG1.out HG2.out) (Nat.le_refl _) _ _) (Nat.le_refl _) _ _⟩
        | some k2 =>
          rw [hl] at HQL
          have HL := hide2 (fun (w : World) (h : Sc w g f t k' l) => letter_some hl w h ht hk')
          have hk2 := ltr_some hl
          have HQ : Hid (qEnd t (k + 1) = qEnd t k2) := HR.out.trans HQL.out
          clear hg HR HY HQL hl
          go_wp2_with fail
          go_quiet ((go_at_call 105; refine Calls.quiet_of (HA1.out _ ?_); exact hr))
          have hq : Sc (wr.drewN nq) g f t k' l := hr.drewN nq
          have gq := hide2 (grown_transM HG.out (grown_drewNM wr nq (some g)))
          generalize wr.drewN nq = wq at *
          go_wp2_with (go_at_call 107; refine (HL.out _ hq).mono ?_; rintro e w2 ⟨rfl, hs2, hg2⟩; have HG2 := hide2 (grown_transM gq.out hg2); clear hg2)
          go_roundw
          case rel => exact ⟨k2, by omega, hk2.2, HQ, hs2, HG2.out⟩
          case measure => rw [HM.out, hs2.c2]; simp; omega
end Go.Proofs.YtiaccimdjfdkgaaGreatDoor

namespace Go.Proofs.YtiaccimdjfdkgaaGreatDoor
set_option linter.unusedVariables false
open Go.RowKit Go.Shelf Go.Proofs.YtiaccimdjfdkgaaGreatDoor.Nm

theorem stop_cases {y : Nat} (h : isStop y = true) : y = 32 ∨ y = 9 ∨ y = 13 ∨ y = 10 ∨ y = 59 ∨ y = 40 ∨ y = 41 ∨ y = 34 := by
  simp [isStop, isBl] at h; omega
theorem nostop {y : Nat} (h : isStop y = false) : ((y : Int) == 32) = false ∧ ((y : Int) == 9) = false ∧ ((y : Int) == 13) = false ∧ ((y : Int) == 10) = false ∧ ((y : Int) == 59) = false ∧ ((y : Int) == 40) = false ∧ ((y : Int) == 41) = false ∧ ((y : Int) == 34) = false := by
  simp [isStop, isBl] at h
  refine ⟨?_, ?_, ?_, ?_, ?_, ?_, ?_, ?_⟩ <;> (rw [beq_eq_false_iff_ne]; omega)
theorem wEnd_stop {t : ByteArray} {k : Nat} (h : k < t.size) (hs : isStop (bt t k) = true) : wEnd t k = some k := by rw [wEnd, if_pos h, if_pos hs]
theorem wEnd_out {t : ByteArray} {k : Nat} (h : ¬ k < t.size) : wEnd t k = some k := by rw [wEnd, if_neg h]

set_option maxRecDepth 100000 in
set_option maxHeartbeats 4000000 in
/-- (*scanner).word -/
theorem word_any (g : Nat) (f t : ByteArray) (k l : Nat) (w : World) (h : Sc w g f t k l) (ht : t.size ≤ 1073741824) (hk : k < t.size) :
    Calls Tryz.prog 82 #[.pointer (some ⟨g, 0, none⟩)] w (wdEnd (tokW t k) f t l g w) := by
  have hlt := h.lt
  obtain ⟨w1, hw1⟩ : ∃ w1, w.alloc (.cells #[.string ⟨#[]⟩, .bool false] 121) = w1 := ⟨_, rfl⟩
  have h1 : Sc w1 g f t k l := hw1 ▸ h.alloc _
  have HG1 : Hid (w.grownBy w1 (some g)) := hw1 ▸ World.grownBy_alloc _ _ _
  have r01 : w1.cell? ⟨w.heap.size, 0, none⟩ = some (.string ⟨#[]⟩) := hw1 ▸ new_cell rfl _ _ _
  have r11 : w1.cell? ⟨w.heap.size, 1, none⟩ = some (.bool false) := hw1 ▸ new_cell rfl _ _ _
  have z01 (j : Nat) : w1.frozen? ⟨w.heap.size, j, none⟩ = false := hw1 ▸ new_free rfl _ _ _
  have hz1 : w1.heap.size = w.heap.size + 1 := by rw [← hw1]; simp
  have c1 := h1.c1
  have c2 := h1.c2
  obtain ⟨y, hy, HY, hyl⟩ := bt_wrap hk
  by_cases h34 : y = 34
  · subst h34
    have HT : Hid (tokW t k = (qEnd t (k + 1)).map (fun e => (⟨t.extract (k + 1) e, true⟩, e + 1))) := by unfold Hid tokW; rw [if_pos HY]
    have HQ := hide2 (fun (w : World) (h : Sc w g f t k l) => quoted_anyM g f t k l w h ht hk)
    clear HY
    cases hq : qEnd t (k + 1) with
    | none =>
      rw [hq] at HQ HT
      go_enter Tryz.func82, Tryz.ntmps82
      go_wp2_with fail
      go_step3
      go_wp2_with fail
      go_quiet (fail)
      have hq1 : Sc (w1.drewN nq) g f t k l := h1.drewN nq
      have gq := hide2 (grown_drewNM w1 nq (some g))
      generalize w1.drewN nq = wq at *
      go_wp2_with (go_at_call 106; refine (HQ.out _ hq1).mono ?_; rintro e w2 ⟨rfl, hg2⟩; have HG2 := hide2 (grown_transM gq.out hg2); clear hg2; have r0 := far_cell HG2.out (b := w.heap.size) (j := 0) (by omega) r01; have r1 := far_cell HG2.out (b := w.heap.size) (j := 1) (by omega) r11; have z0 := far_free HG2.out (b := w.heap.size) (j := 0) (by omega) (by omega) (z01 0); have z1 := far_free HG2.out (b := w.heap.size) (j := 1) (by omega) (by omega) (z01 1))
      obtain ⟨e0, e1⟩ := two_set r0 r1 (.string ⟨#[]⟩) (.bool false)
      try rw [Exit.noGoto_ret]
      refine bodyPost_ret (v := .tuple #[.agg #[.string ⟨#[]⟩, .bool false], .iface 71 (errA f 2 l)]) (by simp [results, go_sem, e0, e1]) rfl ?_
      rw [HT.out]
      exact ⟨rfl, grown_far (grown_far (grown_transM HG1.out HG2.out) (Nat.le_refl _) _ _) (Nat.le_refl _) _ _⟩
    | some j =>
      rw [hq] at HQ HT
      generalize hx : t.extract (k + 1) j = X at *
      go_enter Tryz.func82, Tryz.ntmps82
      go_wp2_with fail
      go_step3
      go_wp2_with fail
      go_quiet (fail)
      have hq1 : Sc (w1.drewN nq) g f t k l := h1.drewN nq
      have gq := hide2 (grown_drewNM w1 nq (some g))
      generalize w1.drewN nq = wq at *
      go_wp2_with (go_at_call 106; refine (HQ.out _ hq1).mono ?_; rintro e w2 ⟨rfl, hs2, hg2⟩; have HG2 := hide2 (grown_transM gq.out hg2); clear hg2; have r0 := far_cell HG2.out (b := w.heap.size) (j := 0) (by omega) r01; have r1 := far_cell HG2.out (b := w.heap.size) (j := 1) (by omega) r11; have z0 := far_free HG2.out (b := w.heap.size) (j := 0) (by omega) (by omega) (z01 0); have z1 := far_free HG2.out (b := w.heap.size) (j := 1) (by omega) (by omega) (z01 1))
      obtain ⟨e0, e1⟩ := two_set r0 r1 (.string X) (.bool true)
      try rw [Exit.noGoto_ret]
      refine bodyPost_ret (v := .tuple #[.agg #[.string X, .bool true], .nilIface]) (by simp [results, go_sem, e0, e1]) rfl ?_
      rw [HT.out]
      refine ⟨by rw [← hx], ?_, grown_far (grown_far (grown_transM HG1.out HG2.out) (Nat.le_refl _) _ _) (Nat.le_refl _) _ _⟩
      exact (Below.heap_setCell _ _ _ g (by show g ≠ w.heap.size; omega)).trans ((Below.heap_setCell _ _ _ g (by show g ≠ w.heap.size; omega)).trans hs2)
  · have hyb : ((y : Int) == 34) = false := by rw [beq_eq_false_iff_ne]; omega
    have HT : Hid (tokW t k = (wEnd t k).map (fun e => (⟨t.extract k e, false⟩, e))) := by unfold Hid tokW; rw [if_neg (by rw [HY]; exact h34)]
    have HMo := hide2 (fun (k l : Nat) (w : World) (h : Sc w g f t k l) => more_any g f t k l w h ht)
    clear HY
    go_enter Tryz.func82, Tryz.ntmps82
    go_wp2_with fail
    go_step3
    go_wp2_with fail
    go_quiet (fail)
    have hq1 : Sc (w1.drewN nq) g f t k l := h1.drewN nq
    have gq := hide2 (grown_drewNM w1 nq (some g))
    generalize w1.drewN nq = wq at *
    have d2 := hq1.c2
    go_wp2_with fail
    go_step3
    go_wp2_with fail
    clear c1 c2 d2 hy hyb hyl h34 hw1
    go_loopw [24] (fun _ wr => ∃ k' : Nat, k ≤ k' ∧ k' ≤ t.size ∧ Hid (wEnd t k = wEnd t k') ∧ Sc wr g f t k' l ∧ w1.grownBy wr (some g))
      (fun _ wr => t.size - (match wr.cell? ⟨g, 2, none⟩ with | some (.int _ n) => n.toNat | _ => 0))
    case atStart => exact ⟨k, Nat.le_refl _, by omega, rfl, hq1, gq.out⟩
    case round =>
      clear hq1 gq
      obtain ⟨k', hkk, hk', HR, hr, hg⟩ := hrel
      have HM := hide2 hr.c2
      have HMo1 := hide2 (HMo.out k' l)
      have HG := hide2 hg
      clear hg
      -- what both ways out do
      by_cases hlt2 : k' < t.size
      · have hd : decide (k' < t.size) = true := decide_eq_true hlt2
        rw [hd] at HMo1
        obtain ⟨y, hy, HY, hyl⟩ := bt_wrap hlt2
        cases hst : isStop y with
        | true =>
          have HQ : Hid (wEnd t k = some k') := HR.out.trans (wEnd_stop hlt2 (by rw [HY]; exact hst))
          clear HY HR
          rcases stop_cases hst with rfl | rfl | rfl | rfl | rfl | rfl | rfl | rfl
          all_goals
            clear hst
            go_wp2_with (go_at_call 56; refine (HMo1.out _ hr).mono ?_; rintro e w2 ⟨rfl, m, hm⟩; have hr2 : Sc w2 g f t k' l := hm ▸ hr.drewN m; have HGm : Hid (w1.grownBy w2 (some g)) := hm ▸ grown_transM HG.out (grown_drewNM wr m (some g)); clear hm; have s1 := hr2.c1; have s2 := hr2.c2)
            go_quiet (fail)
            have hq : Sc (w2.drewN nq) g f t k' l := hr2.drewN nq
            have HG2 := hide2 (grown_transM HGm.out (grown_drewNM w2 nq (some g)))
            clear s1 s2 hr2
            generalize w2.drewN nq = wq2 at *
            have r0 := far_cell HG2.out (b := w.heap.size) (j := 0) (by omega) r01
            have r1 := far_cell HG2.out (b := w.heap.size) (j := 1) (by omega) r11
            have z0 := far_free HG2.out (b := w.heap.size) (j := 0) (by omega) (by omega) (z01 0)
            have z1 := far_free HG2.out (b := w.heap.size) (j := 1) (by omega) (by omega) (z01 1)
            have s1 := hq.c1
            have s2 := hq.c2
            go_wp2_with fail
            go_region
            go_wp2
            obtain ⟨e0, e1⟩ := two_set r0 r1 (.string (t.extract k k')) (.bool false)
            try rw [Exit.noGoto_ret]
            refine bodyPost_ret (v := .tuple #[.agg #[.string (t.extract k k'), .bool false], .nilIface]) (by simp [results, go_sem, e0, e1]) rfl ?_
            rw [HT.out, HQ.out]
            refine ⟨rfl, ?_, grown_transM (grown_far (grown_far (grown_transM HG1.out HG2.out) (Nat.le_refl _) _ _) (Nat.le_refl _) _ _) (grown_drewNM _ 1 _)⟩
            exact (Below.heap_setCell _ _ _ g (by show g ≠ w.heap.size; omega)).trans ((Below.heap_setCell _ _ _ g (by show g ≠ w.heap.size; omega)).trans hq)
        | false =>
          obtain ⟨n1, n2, n3, n4, n5, n6, n7, n8⟩ := nostop hst
          have HQL : Hid (wEnd t k' = (match ltr t k' with | some k' => wEnd t k' | none => none)) := wEnd_ltr hlt2 (by rw [HY]; exact hst)
          cases hl : ltr t k' with
          | none =>
            rw [hl] at HQL
            have HL := hide2 (fun (w : World) (h : Sc w g f t k' l) => letter_none hl w h ht hk')
            have HQ : Hid (wEnd t k = none) := HR.out.trans HQL.out
            clear HR HY HQL hl hst
            go_wp2_with (go_at_call 56; refine (HMo1.out _ hr).mono ?_; rintro e w2 ⟨rfl, m, hm⟩; have hr2 : Sc w2 g f t k' l := hm ▸ hr.drewN m; have HGm : Hid (w1.grownBy w2 (some g)) := hm ▸ grown_transM HG.out (grown_drewNM wr m (some g)); clear hm; have s1 := hr2.c1; have s2 := hr2.c2)
            go_quiet (fail)
            have hq : Sc (w2.drewN nq) g f t k' l := hr2.drewN nq
            have HGq := hide2 (grown_transM HGm.out (grown_drewNM w2 nq (some g)))
            clear s1 s2 hr2
            generalize w2.drewN nq = wq2 at *
            go_wp2_with (go_at_call 107; refine (HL.out _ hq).mono ?_; rintro e w3 ⟨rfl, hg2⟩; have HG2 := hide2 (grown_transM HGq.out hg2); clear hg2; have r0 := far_cell HG2.out (b := w.heap.size) (j := 0) (by omega) r01; have r1 := far_cell HG2.out (b := w.heap.size) (j := 1) (by omega) r11; have z0 := far_free HG2.out (b := w.heap.size) (j := 0) (by omega) (by omega) (z01 0); have z1 := far_free HG2.out (b := w.heap.size) (j := 1) (by omega) (by omega) (z01 1))
            obtain ⟨e0, e1⟩ := two_set r0 r1 (.string ⟨#[]⟩) (.bool false)
            try rw [Exit.noGoto_ret]
            refine bodyPost_ret (v := .tuple #[.agg #[.string ⟨#[]⟩, .bool false], .iface 71 (errA f 2 l)]) (by simp [results, go_sem, e0, e1]) rfl ?_
            rw [HT.out, HQ.out]
            exact ⟨rfl, grown_far (grown_far (grown_transM HG1.out HG2.out) (Nat.le_refl _) _ _) (Nat.le_refl _) _ _⟩
          | some k2 =>
            rw [hl] at HQL
            have HL := hide2 (fun (w : World) (h : Sc w g f t k' l) => letter_some hl w h ht hk')
            have hk2 := ltr_some hl
            have HQ : Hid (wEnd t k = wEnd t k2) := HR.out.trans HQL.out
            clear HR HY HQL hl hst
            go_wp2_with (go_at_call 56; refine (HMo1.out _ hr).mono ?_; rintro e w2 ⟨rfl, m, hm⟩; have hr2 : Sc w2 g f t k' l := hm ▸ hr.drewN m; have HGm : Hid (w1.grownBy w2 (some g)) := hm ▸ grown_transM HG.out (grown_drewNM wr m (some g)); clear hm; have s1 := hr2.c1; have s2 := hr2.c2)
            go_quiet (fail)
            have hq : Sc (w2.drewN nq) g f t k' l := hr2.drewN nq
            have HGq := hide2 (grown_transM HGm.out (grown_drewNM w2 nq (some g)))
            clear s1 s2 hr2
            generalize w2.drewN nq = wq2 at *
            go_wp2_with (go_at_call 107; refine (HL.out _ hq).mono ?_; rintro e w3 ⟨rfl, hs2, hg2⟩; have HG2 := hide2 (grown_transM HGq.out hg2); clear hg2)
            go_roundw
            case rel => exact ⟨k2, by omega, hk2.2, HQ, hs2, HG2.out⟩
            case measure => rw [HM.out, hs2.c2]; simp; omega
      · have hd : decide (k' < t.size) = false := decide_eq_false hlt2
        rw [hd] at HMo1
        have HQ : Hid (wEnd t k = some k') := HR.out.trans (wEnd_out hlt2)
        clear HR
        go_wp2_with (go_at_call 56; refine (HMo1.out _ hr).mono ?_; rintro e w2 ⟨rfl, m, hm⟩; have hr2 : Sc w2 g f t k' l := hm ▸ hr.drewN m; have HGm : Hid (w1.grownBy w2 (some g)) := hm ▸ grown_transM HG.out (grown_drewNM wr m (some g)); clear hm; have HG2 := HGm; have s1 := hr2.c1; have s2 := hr2.c2; have r0 := far_cell HG2.out (b := w.heap.size) (j := 0) (by omega) r01; have r1 := far_cell HG2.out (b := w.heap.size) (j := 1) (by omega) r11; have z0 := far_free HG2.out (b := w.heap.size) (j := 0) (by omega) (by omega) (z01 0); have z1 := far_free HG2.out (b := w.heap.size) (j := 1) (by omega) (by omega) (z01 1))
        go_region
        go_wp2
        obtain ⟨e0, e1⟩ := two_set r0 r1 (.string (t.extract k k')) (.bool false)
        try rw [Exit.noGoto_ret]
        refine bodyPost_ret (v := .tuple #[.agg #[.string (t.extract k k'), .bool false], .nilIface]) (by simp [results, go_sem, e0, e1]) rfl ?_
        rw [HT.out, HQ.out]
        refine ⟨rfl, ?_, grown_transM (grown_far (grown_far (grown_transM HG1.out HG2.out) (Nat.le_refl _) _ _) (Nat.le_refl _) _ _) (grown_drewNM _ 1 _)⟩
        exact (Below.heap_setCell _ _ _ g (by show g ≠ w.heap.size; omega)).trans ((Below.heap_setCell _ _ _ g (by show g ≠ w.heap.size; omega)).trans hr2)
end Go.Proofs.YtiaccimdjfdkgaaGreatDoor

namespace Go.Proofs.YtiaccimdjfdkgaaGreatDoor
set_option linter.unusedVariables false
open Go.RowKit Go.Shelf Go.Proofs.YtiaccimdjfdkgaaGreatDoor.Nm

theorem cell_alloc_lM {W : World} {a : Addr} {v : Value} (o : Obj) (h : W.cell? a = some v) : (W.alloc o).cell? a = some v := cell_kept h (World.grownBy_alloc W o none) (fun r e => by cases e)
theorem frozen_alloc_lM {W : World} {a : Addr} {v : Value} (o : Obj) (h : W.cell? a = some v) (hf : W.frozen? a = false) : (W.alloc o).frozen? a = false := (frozen_kept h (World.grownBy_alloc W o none) (fun r e => by cases e)).trans hf
/-- words as cells -/
def wcells (ws : List Wd) : List Value := ws.flatMap (fun x => [.string x.t, .bool x.q])
theorem wcells_app (ws : List Wd) (x : Wd) : wcells (ws ++ [x]) = wcells ws ++ [.string x.t, .bool x.q] := by simp [wcells]
theorem wcells_len (ws : List Wd) : (wcells ws).length = ws.length * 2 := by
  induction ws with
  | nil => rfl
  | cons x ws ih => simp only [wcells, List.flatMap_cons, List.length_append, List.length_cons] at *; simp at *; omega

def entZ : Array Value := #[.int .i64 0, .bool false, .slice none 0 0]
/-- an entry's state: the scanner, the entry as far as it was read (at R + 1), the result's cells (at R) -/
structure EI (w wr : World) (g : Nat) (f t : ByteArray) (k0 l0 k l : Nat) (ws : List Wd) : Prop where
  sc : Sc wr g f t k l
  e : ∃ v, wr.heap[w.heap.size + 1]? = some (.cells #[.int .i64 (l0 : Int), .bool (isBl (bt t k0)), v] 82 (0, 0)) ∧ wr.ownsRow (w.heap.size + 2) 121 2 v ws.length (wcells ws)
  r : wr.heap[w.heap.size]? = some (.cells entZ 82 (0, 0))
  gr : w.grownBy wr (some g)
  lt : g < w.heap.size
  sz : w.heap.size + 2 ≤ wr.heap.size

theorem grown_blk {w w' : World} {g : Nat} (h : w.grownBy w' (some g)) {b : Nat} {o : Obj} (hb : b ≠ g) (ho : w.heap[b]? = some o) : w'.heap[b]? = some o :=
  (h.block b (Array.getElem?_eq_some_iff.1 ho).1 (fun e => hb (Option.some.inj e))).trans ho
theorem EI.move {w wr wr' : World} {g : Nat} {f t : ByteArray} {k0 l0 k l k' l' : Nat} {ws : List Wd} (h : EI w wr g f t k0 l0 k l ws) (hs : Sc wr' g f t k' l') (hg : wr.grownBy wr' (some g)) : EI w wr' g f t k0 l0 k' l' ws := by
  obtain ⟨sc, ⟨v, e1, e2⟩, r, gr, lt, sz⟩ := h
  refine ⟨hs, ⟨v, grown_blk hg (by omega) e1, e2.kept hg ?_⟩, grown_blk hg (by omega) r, grown_transM gr hg, lt, Nat.le_trans sz hg.size⟩
  by_cases hv : v.ownBlock = none
  · exact .inl hv
  · right
    intro he
    obtain ⟨q, hq⟩ := Option.ne_none_iff_exists'.1 hv
    have := e2.lt q hq
    rw [hq] at he
    injection he with he
    omega
theorem EI.c {w wr : World} {g : Nat} {f t : ByteArray} {k0 l0 k l : Nat} {ws : List Wd} (h : EI w wr g f t k0 l0 k l ws) :
    ∃ v, (wr.cell? ⟨w.heap.size + 1, 0, none⟩ = some (.int .i64 (l0 : Int)) ∧ wr.cell? ⟨w.heap.size + 1, 1, none⟩ = some (.bool (isBl (bt t k0))) ∧ wr.cell? ⟨w.heap.size + 1, 2, none⟩ = some v ∧ (∀ j, wr.frozen? ⟨w.heap.size + 1, j, none⟩ = false)) ∧
      (wr.cell? ⟨w.heap.size, 0, none⟩ = some (.int .i64 0) ∧ wr.cell? ⟨w.heap.size, 1, none⟩ = some (.bool false) ∧ wr.cell? ⟨w.heap.size, 2, none⟩ = some (.slice none 0 0) ∧ (∀ j, wr.frozen? ⟨w.heap.size, j, none⟩ = false)) ∧ wr.ownsRow (w.heap.size + 2) 121 2 v ws.length (wcells ws) := by
  obtain ⟨sc, ⟨v, e1, e2⟩, r, gr, lt, sz⟩ := h
  refine ⟨v, ⟨?_, ?_, ?_, fun j => ?_⟩, ⟨?_, ?_, ?_, fun j => ?_⟩, e2⟩
  · simp [World.cell?, e1]
  · simp [World.cell?, e1]
  · simp [World.cell?, e1]
  · simp [World.frozen?, e1]
  · simp [World.cell?, r, entZ]
  · simp [World.cell?, r, entZ]
  · simp [World.cell?, r, entZ]
  · simp [World.frozen?, r]

theorem Tryz.infoWord : (Tryz.prog.info? 121).map (fun i => (i.zero, i.size, i.bytes)) = some (some (.agg #[.string ⟨#[]⟩, .bool false]), 2, 24) := by kernel_rfl
theorem cells_new {W : World} {n : Nat} (hn : W.heap.size = n) (C : Array Value) (T : TypeId) : ∀ j u, C.toList[j]? = some u → (W.alloc (.cells C T)).cell? (Addr.add ⟨n, 0, none⟩ j) = some u := by
  intro j u hj
  have : Addr.add ⟨n, 0, none⟩ j = ⟨n, j, none⟩ := by unfold Addr.add; split <;> simp_all
  rw [this, new_cell hn, ← Array.getElem?_toList]; exact hj
/-- a word more -/
theorem EI.push {w wr w6 : World} {g : Nat} {f t : ByteArray} {k0 l0 k l n : Nat} {ws : List Wd} {x : Wd} {v v' : Value} {o1 o2 : Obj} (h : EI w wr g f t k0 l0 k l ws) (hn : n = ws.length)
    (hv : wr.cell? ⟨w.heap.size + 1, 2, none⟩ = some v) (hown : wr.ownsRow (w.heap.size + 2) 121 2 v n (wcells ws))
    (hown' : w6.ownsRow (w.heap.size + 2) 121 2 v' (n + 1) (wcells ws ++ [.string x.t, .bool x.q])) (hg : ((wr.alloc o1).alloc o2).grownBy w6 v.ownBlock) :
    EI w (w6.setCell ⟨w.heap.size + 1, 2, none⟩ v') g f t k0 l0 k l (ws ++ [x]) ∧ (w6.cell? ⟨w.heap.size + 1, 2, none⟩ = some v ∧ w6.frozen? ⟨w.heap.size + 1, 2, none⟩ = false) := by
  subst hn
  obtain ⟨sc, ⟨v0, e1, e2⟩, r, gr, lt, sz⟩ := h
  have hvv : v0 = v := by simp [World.cell?, e1] at hv; exact hv
  subst hvv
  have hle : ∀ q, v0.ownBlock = some q → w.heap.size + 2 ≤ q := fun q hq => (hown.lt q hq).1
  have hB : Below (w.heap.size + 2) wr w6 := (((Below.refl _ wr).alloc sz o1).alloc (by simp; omega) o2).grown hg (by simp; omega) (fun q hq => hle q hq)
  have b1 := (hB.block (w.heap.size + 1) (by omega)).trans e1
  refine ⟨⟨?_, ⟨v', ?_, ?_⟩, ?_, ?_, lt, ?_⟩, ?_, ?_⟩
  · exact (Below.heap_setCell _ _ _ g (by show g ≠ w.heap.size + 1; omega)).trans ((hB.block g (by omega)).trans sc)
  · simp [World.setCell, Array.getElem?_modify, b1]
  · rw [List.length_append, wcells_app]
    exact ownsRow_setCell_below hown' (by show w.heap.size + 1 < w.heap.size + 2; omega) _
  · exact (Below.heap_setCell _ _ _ w.heap.size (by show w.heap.size ≠ w.heap.size + 1; omega)).trans ((hB.block w.heap.size (by omega)).trans r)
  · exact grown_far ⟨hB.os.trans gr.os, hB.tape.trans gr.tape, hB.output.trans gr.output, Nat.le_trans gr.size hB.size, fun b hb hne => (hB.block b (by omega)).trans (gr.block b hb hne)⟩ (by omega) _ _
  · rw [set_sizeM]; exact Nat.le_trans sz hB.size
  · simp [World.cell?, b1]
  · simp [World.frozen?, b1]
theorem three_set {w : World} {R : Nat} {a0 b0 c0 : Value} (r0 : w.cell? ⟨R, 0, none⟩ = some a0) (r1 : w.cell? ⟨R, 1, none⟩ = some b0) (r2 : w.cell? ⟨R, 2, none⟩ = some c0) (a b c : Value) :
    (((w.setCell ⟨R, 0, none⟩ a).setCell ⟨R, 1, none⟩ b).setCell ⟨R, 2, none⟩ c).cell? ⟨R, 0, none⟩ = some a ∧ (((w.setCell ⟨R, 0, none⟩ a).setCell ⟨R, 1, none⟩ b).setCell ⟨R, 2, none⟩ c).cell? ⟨R, 1, none⟩ = some b ∧ (((w.setCell ⟨R, 0, none⟩ a).setCell ⟨R, 1, none⟩ b).setCell ⟨R, 2, none⟩ c).cell? ⟨R, 2, none⟩ = some c := by
  obtain ⟨h0, h1⟩ := two_set r0 r1 a b
  refine ⟨?_, ?_, ?_⟩
  · rw [World.cell?_setCell_other _ _ _ _ (by intro e; cases e)]; exact h0
  · rw [World.cell?_setCell_other _ _ _ _ (by intro e; cases e)]; exact h1
  · rw [World.cell?_setCell_same']; rw [World.cell?_setCell_other _ _ _ _ (by intro e; cases e), World.cell?_setCell_other _ _ _ _ (by intro e; cases e), r2]; rfl

def entEnd (r : Er) (f t : ByteArray) (k l g : Nat) (w : World) (e : Ending) (w' : World) : Prop :=
  match r with
  | .inr (k', l', ws) => ∃ p c, e = .returned (.tuple #[.agg #[.int .i64 (l : Int), .bool (isBl (bt t k)), .slice p ws.length c], .nilIface]) ∧ w'.ownsRow w.heap.size 121 2 (.slice p ws.length c) ws.length (wcells ws) ∧ Sc w' g f t k' l' ∧ w.grownBy w' (some g)
  | .inl (c, l') => e = .returned (.tuple #[.agg #[.int .i64 0, .bool false, .slice none 0 0], .iface 71 (errA f c l')]) ∧ w.grownBy w' (some g)

end Go.Proofs.YtiaccimdjfdkgaaGreatDoor
