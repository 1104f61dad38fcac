import Derived.Test.YtinnmfidnecncaaWc1G
import Derived.Test.YtinnmfidnecncaaRz1G
import Derived.RegionTactic
import Derived.ChangeAlike
import Derived.Test.YtinnmfidnecncaaLowG
namespace Go.Proofs.Ytinnmfidnecncaa
set_option linter.unusedVariables false
open Go.RowKit Go.Shelf Go.Proofs.Ytinnmfidnecncaa.Nm

/-- data that are none -/
def noneOK (c : Int) (d : ByteArray) : Bool := decide (d.size = 0 ∧ (c = 254 ∨ c = 255))
/-- a record of a message -/
def recOK (o : ByteArray) (t c ttl : Int) (d : ByteArray) : Bool := headOK o t c && fitsN ttl 32 && dataOK t c d
end Go.Proofs.Ytinnmfidnecncaa

namespace Go.Proofs.Ytinnmfidnecncaa
set_option linter.unusedVariables false
open Go.RowKit Go.Shelf Go.Proofs.Ytinnmfidnecncaa.Nm

set_option maxRecDepth 100000 in
set_option maxHeartbeats 1000000 in
/-- wire.sectionsOf -/
theorem sectionsOf_any (g o : Nat) (w : World) :
    Calls Try.prog 19 #[.pointer (some ⟨g, o, none⟩)] w fun e w' => e = .returned (.agg #[.pointer (some ⟨g, o + 11, none⟩), .pointer (some ⟨g, o + 12, none⟩), .pointer (some ⟨g, o + 13, none⟩)]) ∧ Below w.heap.size w w' := by
  go_enter Try.func19, Try.ntmps19
  go_wp2
  go_region
  go_wp2
  refine bodyPost_ret (v := .agg #[.pointer (some ⟨g, o + 11, none⟩), .pointer (some ⟨g, o + 12, none⟩), .pointer (some ⟨g, o + 13, none⟩)]) (by simp [results, go_sem]) rfl ⟨rfl, ?_⟩
  exact ((Below.refl _ w).alloc (Nat.le_refl _) _).drew
end Go.Proofs.Ytinnmfidnecncaa

/-
  Questions and records in memory. (The verifier's own text; it stood in Wc5.)
-/
namespace Go.Proofs.Ytinnmfidnecncaa
set_option linter.unusedVariables false
open Go.RowKit Go.Shelf Go.Proofs.Ytinnmfidnecncaa.Nm

/-- a question: its name, type and class -/
structure Qn where
  n : ByteArray
  t : Int
  c : Int
/-- questions in memory -/
def QsAt (w : World) (p : Option Addr) (l : List Qn) : Prop := ∀ k, (hk : k < l.length) → ∃ g off, p = some ⟨g, off, none⟩ ∧ g < w.heap.size ∧ w.cell? ⟨g, off + k * 3, none⟩ = some (.string l[k].n) ∧ w.cell? ⟨g, off + k * 3 + 1, none⟩ = some (.int .i64 l[k].t) ∧ w.cell? ⟨g, off + k * 3 + 2, none⟩ = some (.int .i64 l[k].c)
/-- a record -/
structure Rn where
  o : ByteArray
  t : Int
  c : Int
  l : Int
  d : ByteArray
/-- records in memory -/
def RsAt (w : World) (p : Option Addr) (l : List Rn) : Prop := ∀ k, (hk : k < l.length) → ∃ g off, p = some ⟨g, off, none⟩ ∧ g < w.heap.size ∧ w.cell? ⟨g, off + k * 5, none⟩ = some (.string l[k].o) ∧ w.cell? ⟨g, off + k * 5 + 1, none⟩ = some (.int .i64 l[k].t) ∧ w.cell? ⟨g, off + k * 5 + 2, none⟩ = some (.int .i64 l[k].c) ∧ w.cell? ⟨g, off + k * 5 + 3, none⟩ = some (.int .i64 l[k].l) ∧ w.cell? ⟨g, off + k * 5 + 4, none⟩ = some (.string l[k].d)
end Go.Proofs.Ytinnmfidnecncaa

namespace Go.Proofs.Ytinnmfidnecncaa
set_option linter.unusedVariables false
open Go.RowKit Go.Shelf Go.Proofs.Ytinnmfidnecncaa.Nm

def qOK (q : Qn) : Bool := headOK q.n q.t q.c

set_option maxRecDepth 100000 in
set_option maxHeartbeats 1000000 in
/-- rightParts, where a question is not right -/
theorem rightParts_bad (g o : Nat) (p : Option Addr) (cap : Nat) (Q : List Qn) (w : World) (hg : g < w.heap.size) (hQl : Q.length ≤ 1048576) (hc : w.cell? ⟨g, o + 10, none⟩ = some (.slice p Q.length cap)) (hQ : QsAt w p Q) (hn : ∀ q ∈ Q, q.n.size ≤ maxLen) (hbad : Q.all qOK = false) :
    Calls Try.prog 20 #[.pointer (some ⟨g, o, none⟩)] w fun e w' => e = .returned (.bool false) ∧ Below w.heap.size w w' := by
  go_enter Try.func20, Try.ntmps20
  go_wp2
  go_loopw [14] (fun i wr => ∃ k : Nat, i = .int .i64 k ∧ k ≤ Q.length ∧ (Q.take k).all qOK = true ∧ Below w.heap.size w wr) (fun i _ => Q.length - (intOf i).toNat)
  case atStart => exact ⟨0, rfl, Nat.zero_le _, rfl, Below.refl _ _⟩
  case round =>
    obtain ⟨k, rfl, hk, hT, hB⟩ := hrel
    by_cases hlt : k < Q.length
    · obtain ⟨gq, oq, rfl, hgq, h0, h1, h2⟩ := hQ k hlt
      have hc0 := (hB.cell (p := ⟨gq, oq + k * 3, none⟩) hgq).trans h0
      have hc1 := (hB.cell (p := ⟨gq, oq + k * 3 + 1, none⟩) hgq).trans h1
      have hc2 := (hB.cell (p := ⟨gq, oq + k * 3 + 2, none⟩) hgq).trans h2
      have HH := hide' (fun w => rightHead_any Q[k].n Q[k].t Q[k].c w (hn _ (List.getElem_mem hlt)))
      clear h0 h1 h2
      cases hq : headOK Q[k].n Q[k].t Q[k].c with
      | false =>
        rw [hq] at HH
        generalize Q[k].n = qn at *
        generalize Q[k].t = qt at *
        generalize Q[k].c = qc at *
        go_wp2_with (go_at_call 34; refine (HH.out _).mono ?_; rintro e w1 ⟨rfl, hB1⟩)
        go_ret
        exact ⟨rfl, bstep (hB.alloc hB.size _) hB1 (Nat.le_trans hB.size (by simp))⟩
      | true =>
        rw [hq] at HH
        have hT2 : (Q.take (k + 1)).all qOK = true := by rw [List.take_succ_eq_append_getElem hlt, List.all_append, hT]; simp [qOK, hq]
        generalize Q[k].n = qn at *
        generalize Q[k].t = qt at *
        generalize Q[k].c = qc at *
        go_wp2_with (go_at_call 34; refine (HH.out _).mono ?_; rintro e w1 ⟨rfl, hB1⟩)
        go_roundw
        case rel => exact ⟨k + 1, by go_num, by omega, hT2, bstep (hB.alloc hB.size _) hB1 (Nat.le_trans hB.size (by simp))⟩
        case measure => simp [intOf]; omega
    · exfalso
      have : Q.take k = Q := List.take_of_length_le (by omega)
      rw [this, hbad] at hT
      exact Bool.noConfusion hT
end Go.Proofs.Ytinnmfidnecncaa
