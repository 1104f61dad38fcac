import Derived.Shelf.RegionOpen
import Derived.WalkKit
import Derived.WalkSpells
import Derived.WalkLawsBesides
import Derived.OwnWalkIn
import Derived.BigQuiet
import Derived.Deep.QuietTactic
import Derived.RangeFuncBox
import Derived.Lib.SlBytesRow
import Derived.Test.YtelboefeomnjaaaGreatRows
import Derived.Laws.AppendOwnNone
/-
  Boxes in memory. (The verifier's own text.)
-/
namespace Go.Proofs.YtelboefeomnjaaaGreat
set_option linter.unusedVariables false
open Go.RowKit Go.Shelf

theorem grown_drewN (w : World) (n : Nat) (r : Option Nat) : w.grownBy (w.drewN n) r := ⟨rfl, rfl, rfl, Nat.le_refl _, fun _ _ _ => rfl⟩
theorem grown_set (w : World) (g j : Nat) (u : Value) : w.grownBy (w.setCell ⟨g, j, none⟩ u) (some g) :=
  ⟨rfl, rfl, rfl, by simp [World.setCell], fun b hb hne => Below.heap_setCell _ _ _ b (by show b ≠ g; exact fun e => hne (by rw [e]))⟩
theorem grown_refl (w : World) (r : Option Nat) : w.grownBy w r := ⟨rfl, rfl, rfl, Nat.le_refl _, fun _ _ _ => rfl⟩
theorem grown_below {w w' : World} (h : Below w.heap.size w w') (r : Option Nat) : w.grownBy w' r := ⟨h.os, h.tape, h.output, h.size, fun k hk _ => h.block k hk⟩
theorem grown_trans {a b c : World} {r : Option Nat} (h : a.grownBy b r) (k : b.grownBy c r) : a.grownBy c r :=
  ⟨k.os.trans h.os, k.tape.trans h.tape, k.output.trans h.output, Nat.le_trans h.size k.size, fun j hj hne => (k.block j (Nat.lt_of_lt_of_le hj h.size) hne).trans (h.block j hj hne)⟩
/-- a box in memory -/
def Bx (w : World) (R : Nat) (cs : Array Value) (T : TypeId) : Prop := w.heap[R]? = some (.cells cs T (0, 0))
section
variable {w w' : World} {R : Nat} {cs : Array Value} {T : TypeId}
theorem Bx.lt (h : Bx w R cs T) : R < w.heap.size := (Array.getElem?_eq_some_iff.1 h).1
theorem Bx.cell (h : Bx w R cs T) {j : Nat} {v : Value} (hj : cs[j]? = some v) : w.cell? ⟨R, j, none⟩ = some v := by unfold Bx at h; simp [World.cell?, h, hj]
theorem Bx.free (h : Bx w R cs T) (j : Nat) : w.frozen? ⟨R, j, none⟩ = false := by unfold Bx at h; simp [World.frozen?, h]
theorem Bx.set (h : Bx w R cs T) (j : Nat) (u : Value) : Bx (w.setCell ⟨R, j, none⟩ u) R (cs.setIfInBounds j u) T := by
  unfold Bx at *
  simp [World.setCell, Array.getElem?_modify, h]
theorem Bx.grown {r : Option Nat} (h : Bx w R cs T) (hg : w.grownBy w' r) (hne : r ≠ some R) : Bx w' R cs T := (hg.block R h.lt (fun e => hne e.symm)).trans h
theorem Bx.below {n : Nat} (h : Bx w R cs T) (hb : Below n w w') (hn : R < n) : Bx w' R cs T := (hb.block R hn).trans h
end
theorem bx3 {w : World} {R : Nat} {T : TypeId} {a b c : Value} (h : Bx w R #[a, b, c] T) : w.cell? ⟨R, 0, none⟩ = some a ∧ w.cell? ⟨R, 1, none⟩ = some b ∧ w.cell? ⟨R, 2, none⟩ = some c ∧ w.frozen? ⟨R, 0, none⟩ = false ∧ w.frozen? ⟨R, 1, none⟩ = false ∧ w.frozen? ⟨R, 2, none⟩ = false :=
  ⟨h.cell rfl, h.cell rfl, h.cell rfl, h.free 0, h.free 1, h.free 2⟩
theorem bx3_set {w : World} {R : Nat} {T : TypeId} {a b c : Value} (h : Bx w R #[a, b, c] T) (x y z : Value) : Bx (((w.setCell ⟨R, 0, none⟩ x).setCell ⟨R, 1, none⟩ y).setCell ⟨R, 2, none⟩ z) R #[x, y, z] T := ((h.set 0 x).set 1 y).set 2 z
theorem own_shape {w : World} {base e size : Nat} {v : Value} {n : Nat} {xs : List Value} (h : w.ownsRow base e size v n xs) : ∃ p c, v = .slice p n c ∧ n ≤ c ∧ c ≤ maxLen ∧ (p = none → c = 0) := by
  obtain ⟨hl, (⟨rfl, rfl⟩ | ⟨g, cap, cur, rfl, hb, hg, hn, hcap, hsz, ht⟩)⟩ := h
  · exact ⟨none, 0, rfl, Nat.le_refl _, Nat.zero_le _, fun _ => rfl⟩
  · exact ⟨_, cap, rfl, hn, hcap, fun e => by cases e⟩
end Go.Proofs.YtelboefeomnjaaaGreat

/-
  Rows of structs in memory, whatever the struct. (The verifier's own text.)
-/
namespace Go.Proofs.YtelboefeomnjaaaGreat
set_option linter.unusedVariables false
open Go.RowKit Go.Shelf

section
variable {α : Type} {C : Nat} {V : α → List Value}
/-- structs as cells -/
def rowV (V : α → List Value) : List α → List Value
  | [] => []
  | x :: l => V x ++ rowV V l
theorem rowV_len (hV : ∀ x, (V x).length = C) : ∀ L : List α, (rowV V L).length = L.length * C
  | [] => by simp [rowV]
  | x :: l => by simp only [rowV, List.length_append, rowV_len hV l, List.length_cons, hV]; rw [Nat.succ_mul]; omega
theorem rowV_app : ∀ (L M : List α), rowV V (L ++ M) = rowV V L ++ rowV V M
  | [], M => by simp [rowV]
  | y :: l, M => by simp only [List.cons_append, rowV, rowV_app l M, List.append_assoc]
theorem rowV_one (h1 : ∀ x, ∀ u ∈ V x, u.oneCell' = true) : ∀ (L : List α), ∀ u ∈ rowV V L, u.oneCell' = true
  | [], u, h => by cases h
  | x :: l, u, h => by
    rcases List.mem_append.1 h with h | h
    · exact h1 x u h
    · exact rowV_one h1 l u h
theorem rowV_get (hV : ∀ x, (V x).length = C) : ∀ (L : List α) (k r : Nat) (hk : k < L.length), r < C → (rowV V L)[k * C + r]? = (V L[k])[r]?
  | x :: l, 0, r, _, hr => by
    simp only [rowV, Nat.zero_mul, Nat.zero_add, List.getElem_cons_zero]
    rw [List.getElem?_append_left (by rw [hV]; omega)]
  | x :: l, k + 1, r, hk, hr => by
    simp only [rowV, List.getElem_cons_succ]
    rw [List.getElem?_append_right (by rw [hV, Nat.succ_mul]; omega)]
    rw [← rowV_get hV l k r (by simpa using hk) hr]
    congr 1
    rw [hV, Nat.succ_mul]; omega
end

theorem bxNew (w : World) (cs : Array Value) (T : TypeId) : Bx (w.alloc (.cells cs T)) w.heap.size cs T := World.alloc_heap_new w _
end Go.Proofs.YtelboefeomnjaaaGreat
