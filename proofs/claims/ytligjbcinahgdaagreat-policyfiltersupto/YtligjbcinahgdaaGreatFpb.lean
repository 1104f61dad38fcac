import Derived.Test.YtligjbcinahgdaaGreatFp8G
import Derived.Test.YtligjbcinahgdaaGreatFpa
import Derived.Test.YtligjbcinahgdaaGreatSf8G
/-
  What Filter says, plainly. (The verifier's own text.)
-/
namespace Go.Proofs.YtligjbcinahgdaaGreat
set_option linter.unusedVariables false
set_option linter.unusedSimpArgs false
open Go.RowKit Go.Shelf Go.Maps Go.Proofs.YtligjbcinahgdaaGreat.Nm

/-- a message that is said, and whether it is -/
structure Mx where
  i0 : Int
  b1 : Bool
  i2 : Int
  b3 : Bool
  b4 : Bool
  b5 : Bool
  b6 : Bool
  b7 : Bool
  b8 : Bool
  i9 : Int
  ls : Ls
  ok : Bool
/-- without what it tells, with a code and what is told instead -/
def bareM (M : Mx) (c : Int) (A : List Rn) : Mx := ⟨M.i0, M.b1, M.i2, false, M.b4, M.b5, M.b6, M.b7, M.b8, c, ⟨M.ls.q, A, [], kp M.ls.d⟩, true⟩
def zeroM : Mx := ⟨0, false, 0, false, false, false, false, false, false, 0, ⟨[], [], [], []⟩, false⟩
/-- what a rule says -/
def sayR (x : Ru) (n : ByteArray) : Rn := ⟨n, x.t, 1, x.l, x.d⟩
/-- does it say it? -/
def sayB (x : Ru) (q : Qn) : Bool := decide (x.t = q.t) || decide (q.t = 255) || decide (x.t = 5)
/-- what is said by a rule -/
def ruleM (x : Ru) (q : Qn) (M : Mx) : Mx :=
  if x.k = 0 then M else if x.k = 1 then zeroM else if x.k = 2 then bareM M 3 [] else if x.k = 3 then bareM M 0 [] else if sayB x q = true then bareM M 0 [sayR x q.n] else bareM M 0 []
def zQ : Qn := ⟨⟨#[]⟩, 0, 0⟩
/-- Filter -/
def filM (R : List Ru) (P : List Qn) (M : Mx) : Mx :=
  if P.length ≠ 1 then M else if ruI R (P.getD 0 zQ).n < 0 then M else ruleM (uAt R (ruI R (P.getD 0 zQ).n).toNat) (P.getD 0 zQ) M
/-- how the program's Filter ends: lists of its own -/
def FiE (X : Mx) (w : World) (e : Ending) (w' : World) : Prop := ∃ p1 p2 p3 p4 c1 c2 c3 c4, e = .returned (.tuple #[.agg #[.int .i64 X.i0, .bool X.b1, .int .i64 X.i2, .bool X.b3, .bool X.b4, .bool X.b5, .bool X.b6, .bool X.b7, .bool X.b8, .int .i64 X.i9, .slice p1 X.ls.q.length c1, .slice p2 X.ls.a.length c2, .slice p3 X.ls.u.length c3, .slice p4 X.ls.d.length c4], .bool X.ok]) ∧ Mg4 w' w.heap.size (.slice p1 X.ls.q.length c1) (.slice p2 X.ls.a.length c2) (.slice p3 X.ls.u.length c3) (.slice p4 X.ls.d.length c4) X.ls ∧ Below w.heap.size w w'
theorem Mg4.low {w : World} {n m : Nat} {vq va vu vd : Value} {ls : Ls} (h : Mg4 w n vq va vu vd ls) (hm : m ≤ n) : Mg4 w m vq va vu vd ls := ⟨own_low h.q hm, own_low h.a hm, own_low h.u hm, own_low h.d hm, h.qa, h.qu, h.qd, h.au, h.ad, h.ud⟩
/-- three boxes: the question's message, the answer, what is said -/
structure B3 (w V : World) (mm ma zs : Array Value) : Prop where
  m : Bx V w.heap.size mm 27
  a : Bx V (w.heap.size + 1) ma 27
  r : Bx V (w.heap.size + 2) zs 27
  b : Below w.heap.size w V
  z : w.heap.size + 3 ≤ V.heap.size
theorem B3.step {w V V' : World} {mm ma zs : Array Value} (h : B3 w V mm ma zs) (hb : Below V.heap.size V V') : B3 w V' mm ma zs := ⟨h.m.below hb h.m.lt, h.a.below hb h.a.lt, h.r.below hb h.r.lt, bstep h.b hb h.b.size, Nat.le_trans h.z hb.size⟩
theorem B3.new (w : World) (mm ma zs : Array Value) : B3 w (((w.alloc (.cells mm 27)).alloc (.cells ma 27)).alloc (.cells zs 27)) mm ma zs := by
  have hm : Bx (w.alloc (.cells mm 27)) w.heap.size mm 27 := World.alloc_heap_new w _
  have ha : Bx ((w.alloc (.cells mm 27)).alloc (.cells ma 27)) (w.heap.size + 1) ma 27 := by
    have := World.alloc_heap_new (w.alloc (.cells mm 27)) (.cells ma 27)
    rw [World.size_alloc] at this
    exact this
  have hr : Bx (((w.alloc (.cells mm 27)).alloc (.cells ma 27)).alloc (.cells zs 27)) (w.heap.size + 2) zs 27 := by
    have := World.alloc_heap_new ((w.alloc (.cells mm 27)).alloc (.cells ma 27)) (.cells zs 27)
    rw [World.size_alloc, World.size_alloc] at this
    exact this
  refine ⟨(hm.grown (World.grownBy_alloc _ _ none) (by simp)).grown (World.grownBy_alloc _ _ none) (by simp), ha.grown (World.grownBy_alloc _ _ none) (by simp), hr, (((Below.refl _ w).alloc (Nat.le_refl _) _).alloc (by simp) _).alloc (by simp; omega) _, by simp⟩
end Go.Proofs.YtligjbcinahgdaaGreat
