import Derived.Test.YtennkhdhnbdbeaaGreatSf8G
import Derived.Deep.RegionHeld3
import Derived.Test.YtennkhdhnbdbeaaGreatCntG
import Derived.Test.YtennkhdhnbdbeaaGreatSg1G
namespace Go.Proofs.YtennkhdhnbdbeaaGreat
set_option linter.unusedVariables false
open Go.RowKit Go.Shelf Go.Proofs.YtennkhdhnbdbeaaGreat.Nm

theorem takeD {P : Program} {ops : Array Oper} {Q : Exit → Act → World → Prop} {md : Region.Mode} {S : World → Prop} (i : Nat) (d : Option Tmp) (v : Value) {oi : Oper} {fuel : Nat} {listed : Array Bool} {a : Act} {w : World} (hi : ops[i]? = some oi) (hd : oi.dst = d)
    (hs : Region.noSelect ops = true) (hf : Region.free md ops listed i = true) (hr : (Region.ready md ops listed).contains i = true)
    (hQ : ∀ c a w, Q (.panic c) (a.put d v) w → Q (.panic c) a w) (hy : YieldsIf P ops S oi v a) (hS : S w)
    (h : wpAnyH P md ops Q S fuel (listed.setIfInBounds i true) (a.put d v) w) : wpAnyH P md ops Q S (fuel + 1) listed a w := by
  subst hd
  exact wpAnyH_take hi hs hf hr hQ hy hS h

set_option linter.unusedSimpArgs false
end Go.Proofs.YtennkhdhnbdbeaaGreat

/-
  seal.isSet. (The verifier's own text.)
-/
namespace Go.Proofs.YtennkhdhnbdbeaaGreat
set_option linter.unusedVariables false
set_option linter.unusedSimpArgs false
open Go.RowKit Go.Shelf Go.Sort Go.Proofs.YtennkhdhnbdbeaaGreat.Nm

/-- what is strange beside a record of that type and owner -/
def strB (t0 : Int) (o0 : ByteArray) (r : Rn) : Bool := !zonB r.o r.d r.t r.c r.l || r.t != t0 || !eqB r.o o0
/-- are the records a set? -/
def setOK (L : List Rn) : Bool := match L with
  | [] => false
  | x :: l => !(x.t == 46) && !((x :: l).any (strB x.t x.o)) && ((Lib.compact (srt (fdL (x :: l)))).length == (x :: l).length)
theorem setOK_eq {L : List Rn} (h0 : 0 < L.length) : setOK L = (!(L[0].t == 46) && !(L.any (strB L[0].t L[0].o)) && ((Lib.compact (srt (fdL L))).length == L.length)) := by
  cases L with
  | nil => simp at h0
  | cons x l => rfl
theorem int_beq (a b : Nat) : ((a : Int) == (b : Int)) = (a == b) := by
  rw [Bool.eq_iff_iff, beq_iff_eq, beq_iff_eq]; omega
theorem setOK_nil {L : List Rn} (h0 : L.length = 0) : setOK L = false := by
  cases L with
  | nil => rfl
  | cons x l => simp at h0
end Go.Proofs.YtennkhdhnbdbeaaGreat
