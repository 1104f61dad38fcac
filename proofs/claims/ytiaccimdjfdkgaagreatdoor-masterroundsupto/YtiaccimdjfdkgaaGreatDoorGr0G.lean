import Derived.Shelf.RegionOpen
import Derived.WalkKit
import Derived.WalkSpells
import Derived.WalkLawsBesides
import Derived.OwnWalkIn
import Derived.BigQuiet
import Derived.Deep.QuietTactic
import Derived.RangeFuncBox
import Derived.Lib.SlBytesRow
import Derived.Test.YtiaccimdjfdkgaaGreatDoorRows
import Derived.Laws.AppendOwnNone
/-
  Boxes in memory. (The verifier's own text.)
-/
namespace Go.Proofs.YtiaccimdjfdkgaaGreatDoor
set_option linter.unusedVariables false
open Go.RowKit Go.Shelf

theorem grown_drewN (w : World) (n : Nat) (r : Option Nat) : w.grownBy (w.drewN n) r := ⟨rfl, rfl, rfl, Nat.le_refl _, fun _ _ _ => rfl⟩
theorem grown_set (w : World) (g j : Nat) (u : Value) : w.grownBy (w.setCell ⟨g, j, none⟩ u) (some g) :=
  ⟨rfl, rfl, rfl, by simp [World.setCell], fun b hb hne => Below.heap_setCell _ _ _ b (by show b ≠ g; exact fun e => hne (by rw [e]))⟩
theorem grown_refl (w : World) (r : Option Nat) : w.grownBy w r := ⟨rfl, rfl, rfl, Nat.le_refl _, fun _ _ _ => rfl⟩
theorem grown_below {w w' : World} (h : Below w.heap.size w w') (r : Option Nat) : w.grownBy w' r := ⟨h.os, h.tape, h.output, h.size, fun k hk _ => h.block k hk⟩
theorem grown_trans {a b c : World} {r : Option Nat} (h : a.grownBy b r) (k : b.grownBy c r) : a.grownBy c r :=
  ⟨k.os.trans h.os, k.tape.trans h.tape, k.output.trans h.output, Nat.le_trans h.size k.size, fun j hj hne => (k.block j (Nat.lt_of_lt_of_le hj h.size) hne).trans (h.block j hj hne)⟩
theorem set_size (w : World) (a : Addr) (v : Value) : (w.setCell a v).heap.size = w.heap.size := by simp [World.setCell]

/-- a box in memory -/
def Bx (w : World) (R : Nat) (cs : Array Value) (T : TypeId) : Prop := w.heap[R]? = some (.cells cs T (0, 0))
section
variable {w w' : World} {R : Nat} {cs : Array Value} {T : TypeId}
theorem Bx.lt (h : Bx w R cs T) : R < w.heap.size := (Array.getElem?_eq_some_iff.1 h).1
theorem Bx.cell (h : Bx w R cs T) {j : Nat} {v : Value} (hj : cs[j]? = some v) : w.cell? ⟨R, j, none⟩ = some v := by unfold Bx at h; simp [World.cell?, h, hj]
theorem Bx.free (h : Bx w R cs T) (j : Nat) : w.frozen? ⟨R, j, none⟩ = false := by unfold Bx at h; simp [World.frozen?, h]
theorem Bx.set (h : Bx w R cs T) (j : Nat) (u : Value) : Bx (w.setCell ⟨R, j, none⟩ u) R (cs.setIfInBounds j u) T := by
  unfold Bx at *
  simp [World.setCell, Array.getElem?_modify, h]
theorem Bx.grown {r : Option Nat} (h : Bx w R cs T) (hg : w.grownBy w' r) (hne : r ≠ some R) : Bx w' R cs T := (hg.block R h.lt (fun e => hne e.symm)).trans h
theorem Bx.below {n : Nat} (h : Bx w R cs T) (hb : Below n w w') (hn : R < n) : Bx w' R cs T := (hb.block R hn).trans h
end
theorem bx3 {w : World} {R : Nat} {T : TypeId} {a b c : Value} (h : Bx w R #[a, b, c] T) : w.cell? ⟨R, 0, none⟩ = some a ∧ w.cell? ⟨R, 1, none⟩ = some b ∧ w.cell? ⟨R, 2, none⟩ = some c ∧ w.frozen? ⟨R, 0, none⟩ = false ∧ w.frozen? ⟨R, 1, none⟩ = false ∧ w.frozen? ⟨R, 2, none⟩ = false :=
  ⟨h.cell rfl, h.cell rfl, h.cell rfl, h.free 0, h.free 1, h.free 2⟩
theorem bx3_set {w : World} {R : Nat} {T : TypeId} {a b c : Value} (h : Bx w R #[a, b, c] T) (x y z : Value) : Bx (((w.setCell ⟨R, 0, none⟩ x).setCell ⟨R, 1, none⟩ y).setCell ⟨R, 2, none⟩ z) R #[x, y, z] T := ((h.set 0 x).set 1 y).set 2 z
theorem grown_far1 {w w' : World} {r : Option Nat} (h : w.grownBy w' r) {R : Nat} (hR : w.heap.size ≤ R) (j : Nat) (u : Value) : w.grownBy (w'.setCell ⟨R, j, none⟩ u) r :=
  ⟨h.os, h.tape, h.output, by rw [set_size]; exact h.size, fun b hb hne => (Below.heap_setCell _ _ _ b (by show b ≠ R; omega)).trans (h.block b hb hne)⟩
theorem own_shape {w : World} {base e size : Nat} {v : Value} {n : Nat} {xs : List Value} (h : w.ownsRow base e size v n xs) : ∃ p c, v = .slice p n c ∧ n ≤ c ∧ c ≤ maxLen ∧ (p = none → c = 0) := by
  obtain ⟨hl, (⟨rfl, rfl⟩ | ⟨g, cap, cur, rfl, hb, hg, hn, hcap, hsz, ht⟩)⟩ := h
  · exact ⟨none, 0, rfl, Nat.le_refl _, Nat.zero_le _, fun _ => rfl⟩
  · exact ⟨_, cap, rfl, hn, hcap, fun e => by cases e⟩
end Go.Proofs.YtiaccimdjfdkgaaGreatDoor

/-
  Rows of structs in memory, whatever the struct. (The verifier's own text.)
-/
namespace Go.Proofs.YtiaccimdjfdkgaaGreatDoor
set_option linter.unusedVariables false
open Go.RowKit Go.Shelf

section
variable {α : Type} {C : Nat} {V : α → List Value}
/-- structs as cells -/
def rowV (V : α → List Value) : List α → List Value
  | [] => []
  | x :: l => V x ++ rowV V l
/-- structs in memory -/
def RowAt (C : Nat) (V : α → List Value) (w : World) (p : Option Addr) (l : List α) : Prop := ∀ k, (hk : k < l.length) → ∃ g off, p = some ⟨g, off, none⟩ ∧ g < w.heap.size ∧ ∀ r, r < C → w.cell? ⟨g, off + k * C + r, none⟩ = (V l[k])[r]?
theorem rowV_len (hV : ∀ x, (V x).length = C) : ∀ L : List α, (rowV V L).length = L.length * C
  | [] => by simp [rowV]
  | x :: l => by simp only [rowV, List.length_append, rowV_len hV l, List.length_cons, hV]; rw [Nat.succ_mul]; omega
theorem rowV_app : ∀ (L M : List α), rowV V (L ++ M) = rowV V L ++ rowV V M
  | [], M => by simp [rowV]
  | y :: l, M => by simp only [List.cons_append, rowV, rowV_app l M, List.append_assoc]
theorem rowV_snoc (L : List α) (x : α) : rowV V (L ++ [x]) = rowV V L ++ V x := by rw [rowV_app]; simp [rowV]
theorem rowV_one (h1 : ∀ x, ∀ u ∈ V x, u.oneCell' = true) : ∀ (L : List α), ∀ u ∈ rowV V L, u.oneCell' = true
  | [], u, h => by cases h
  | x :: l, u, h => by
    rcases List.mem_append.1 h with h | h
    · exact h1 x u h
    · exact rowV_one h1 l u h
theorem rowV_get (hV : ∀ x, (V x).length = C) : ∀ (L : List α) (k r : Nat) (hk : k < L.length), r < C → (rowV V L)[k * C + r]? = (V L[k])[r]?
  | x :: l, 0, r, _, hr => by
    simp only [rowV, Nat.zero_mul, Nat.zero_add, List.getElem_cons_zero]
    rw [List.getElem?_append_left (by rw [hV]; omega)]
  | x :: l, k + 1, r, hk, hr => by
    simp only [rowV, List.getElem_cons_succ]
    rw [List.getElem?_append_right (by rw [hV, Nat.succ_mul]; omega)]
    rw [← rowV_get hV l k r (by simpa using hk) hr]
    congr 1
    rw [hV, Nat.succ_mul]; omega
theorem row_news (hV : ∀ x, (V x).length = C) {w : World} {ad : Addr} {L : List α} (h : RowAt C V w (some ad) L) : ∀ j u, (rowV V L)[j]? = some u → w.cell? (ad.add j) = some u := by
  intro j u hj
  have hlt : j < L.length * C := by have := (List.getElem?_eq_some_iff.1 hj).1; rw [rowV_len hV] at this; exact this
  have hC : 0 < C := by rcases Nat.eq_zero_or_pos C with h | h; { rw [h] at hlt; simp at hlt }; { exact h }
  have hk : j / C < L.length := Nat.div_lt_of_lt_mul (by rw [Nat.mul_comm]; exact hlt)
  obtain ⟨g, off, hp, _, e⟩ := h (j / C) hk
  obtain rfl := Option.some.inj hp
  have hr := Nat.mod_lt j hC
  have hjj : j / C * C + j % C = j := by rw [Nat.mul_comm]; exact Nat.div_add_mod j C
  have ha : (⟨g, off, none⟩ : Addr).add j = ⟨g, off + j, none⟩ := by simp [Addr.add]
  rw [ha]
  have := e (j % C) hr
  rw [Nat.add_assoc, hjj] at this
  rw [this, ← rowV_get hV L (j / C) (j % C) hk hr, hjj, hj]
theorem row_below {w w' : World} {p : Option Addr} {l : List α} {n : Nat} (h : RowAt C V w p l) (hn : ∀ g off, p = some ⟨g, off, none⟩ → g < n) (hb : Below n w w') : RowAt C V w' p l := fun k hk => by
  obtain ⟨g, off, hp, hg, e⟩ := h k hk
  exact ⟨g, off, hp, Nat.lt_of_lt_of_le hg hb.size, fun r hr => (hb.cell (p := ⟨g, off + k * C + r, none⟩) (hn g off hp)).trans (e r hr)⟩
theorem row_below' {w w' : World} {p : Option Addr} {l : List α} (h : RowAt C V w p l) (hb : Below w.heap.size w w') : RowAt C V w' p l := fun k hk => by
  obtain ⟨g, off, hp, hg, e⟩ := h k hk
  exact ⟨g, off, hp, Nat.lt_of_lt_of_le hg hb.size, fun r hr => (hb.cell (p := ⟨g, off + k * C + r, none⟩) hg).trans (e r hr)⟩
theorem row_grown {w w' : World} {p : Option Addr} {l : List α} {rr : Option Nat} (h : RowAt C V w p l) (hg : w.grownBy w' rr) (hne : ∀ g off, p = some ⟨g, off, none⟩ → rr ≠ some g) : RowAt C V w' p l := fun k hk => by
  obtain ⟨g, off, hp, hg', e⟩ := h k hk
  refine ⟨g, off, hp, Nat.lt_of_lt_of_le hg' hg.size, fun r hr => ?_⟩
  have := hg.block g hg' (fun e => hne g off hp e.symm)
  rw [← e r hr]
  simp only [World.cell?, this]
theorem row_none {w : World} {l : List α} (h : RowAt C V w none l) : l = [] := by
  cases l with
  | nil => rfl
  | cons y l => obtain ⟨g, off, hp, _⟩ := h 0 (by simp); cases hp
/-- a row of one's own, read -/
theorem row_own (hV : ∀ x, (V x).length = C) {w : World} {base e : Nat} {p : Option Addr} {c : Nat} {L : List α} (h : w.ownsRow base e C (.slice p L.length c) L.length (rowV V L)) : RowAt C V w p L := by
  intro k hk
  obtain ⟨g, hg⟩ : ∃ g, p = some ⟨g, 0, none⟩ := by
    rcases h.2 with ⟨h1, h0⟩ | ⟨g, cap, cur, h1, _⟩
    · omega
    · injection h1 with h1; exact ⟨g, h1⟩
  subst hg
  refine ⟨g, 0, rfl, (h.lt g rfl).2, fun r hr => ?_⟩
  have hlt : k * C + r < L.length * C := Nat.lt_of_lt_of_le (by omega : k * C + r < k * C + C) (by rw [← Nat.succ_mul]; exact Nat.mul_le_mul_right _ hk)
  rw [Nat.zero_add, h.cellAt (k * C + r) hlt, rowV_get hV L k r hk hr]
/-- where it lies -/
theorem row_base {w : World} {base e : Nat} {p : Option Addr} {c n : Nat} {xs : List Value} (h : w.ownsRow base e C (.slice p n c) n xs) : ∀ g off, p = some ⟨g, off, none⟩ → base ≤ g ∧ g < w.heap.size := by
  intro g off hp
  rcases h.2 with ⟨h1, h0⟩ | ⟨g', cap, cur, h1, _⟩
  · injection h1 with h1; rw [hp] at h1; cases h1
  · injection h1 with h1
    rw [hp] at h1
    injection h1 with h1
    injection h1 with h1 h2 _
    subst h1 h2
    exact h.lt g (by rw [hp]; rfl)
/-- 'append(v, l...)' of structs, l nil too -/
theorem wpList_append_rows {P : Program} {t e : TypeId} {z : Value} {bytes : Nat} (ht : P.underlying t = some (.slice e)) (hi : (P.info? e).map (fun i => (i.zero, i.size, i.bytes)) = some (some z, C, bytes)) (hzs : z.cells.size = C) (hC : 0 < C) (hby : bytes ≤ 64)
    (hV : ∀ x, (V x).length = C) (h1 : ∀ x, ∀ u ∈ V x, u.oneCell' = true)
    {w : World} {ops : Array Oper} {rest : List Oper} {o : Oper} {a : Act} {Q : Exit → Act → World → Prop} (hgd : o.guard = none) (s x : Operand)
    (ho : o.op = .call { callee := .builtin .append, args := #[s, x], argTypes := #[t, t] })
    (base : Nat) (v : Value) (n : Nat) (xs : List Value) (hs : a.eval s = v) (hown : w.ownsRow base e C v n xs)
    (p : Option Addr) (l : List α) (c : Nat) (hx : a.eval x = .slice p l.length c) (hat : RowAt C V w p l) (hnone : p = none → c = 0)
    (hsm : n + l.length ≤ 4294967296) (hbase : base ≤ w.heap.size)
    (h : ∀ v' w', w'.ownsRow base e C v' (n + l.length) (xs ++ rowV V l) → w.grownBy w' v.ownBlock → wpList P ops Q rest (a.put o.dst v') w') : wpList P ops Q (o :: rest) a w := by
  obtain ⟨i0, hi, hz0, hz1, hz2⟩ := info_parts hi
  cases p with
  | none =>
    obtain rfl := row_none hat
    have hc := hnone rfl
    subst hc
    refine wpList_append_own_none hgd s x t ho base e i0 C ht hi v n xs hs hown hx (h v w ?_ (grown_refl _ _))
    simpa [rowV] using hown
  | some ad =>
    exact wpList_append_own w hgd s x t ho base e i0 z C bytes ht hi hz0 hz1 hz2 hzs hC v n xs hs hown ad l.length c (rowV V l) hx (rowV_len hV l) (row_news hV hat) (rowV_one h1 l) (by unfold maxLen; omega) (Nat.le_trans (Nat.mul_le_mul hsm hby) (by decide)) hbase (fun v' w' h1 h2 _ => h v' w' h1 h2)
/-- one struct in a block of its own -/
theorem row_box {w : World} {B : Nat} {x : α} {T : TypeId} (hV : ∀ x, (V x).length = C) (hb : Bx w B (V x).toArray T) : RowAt C V w (some ⟨B, 0, none⟩) [x] := by
  intro k hk
  obtain rfl : k = 0 := by simpa using hk
  refine ⟨B, 0, rfl, hb.lt, fun r hr => ?_⟩
  have hl : r < (V x).length := by rw [hV]; exact hr
  have : (V x).toArray[r]? = some ((V x)[r]) := by simp [hl]
  rw [show 0 + 0 * C + r = r by omega, hb.cell this]
  simp [hl]
end

theorem bxNew (w : World) (cs : Array Value) (T : TypeId) : Bx (w.alloc (.cells cs T)) w.heap.size cs T := World.alloc_heap_new w _
theorem bxAt (w : World) (cs : Array Value) (T : TypeId) (R : Nat) (h : w.heap.size = R) : Bx (w.alloc (.cells cs T)) R cs T := by subst h; exact bxNew _ _ _
theorem Bx.al {w : World} {R : Nat} {cs : Array Value} {T : TypeId} (h : Bx w R cs T) (o : Obj) : Bx (w.alloc o) R cs T := h.grown (World.grownBy_alloc w o none) (by simp)
theorem Bx.farR {w : World} {R R' j : Nat} {cs : Array Value} {T : TypeId} (h : Bx w R cs T) (hne : R ≠ R') (u : Value) : Bx (w.setCell ⟨R', j, none⟩ u) R cs T := (Below.heap_setCell _ _ _ R hne).trans h
/-- a row whose block stays -/
theorem row_blk {w w' : World} {n e size k : Nat} {v : Value} {xs : List Value} (h : w.ownsRow n e size v k xs) (hb : ∀ g, v.ownBlock = some g → n ≤ g → g < w.heap.size → w'.heap[g]? = w.heap[g]?) : w'.ownsRow n e size v k xs := by
  have hlt := h.lt
  obtain ⟨hl, (h0 | ⟨g, cap, cur, rfl, hg, hc, rest⟩)⟩ := h
  · exact ⟨hl, .inl h0⟩
  · exact ⟨hl, .inr ⟨g, cap, cur, rfl, hg, (hb g rfl (hlt g rfl).1 (hlt g rfl).2).trans hc, rest⟩⟩
theorem row_bel {w w' : World} {n e size k m : Nat} {v : Value} {xs : List Value} (h : w.ownsRow n e size v k xs) (hb : Below m w w') (hm : w.heap.size ≤ m) : w'.ownsRow n e size v k xs := row_blk h fun g _ _ hg => hb.block g (Nat.lt_of_lt_of_le hg hm)
theorem row_lower {w : World} {n n' e size k : Nat} {v : Value} {xs : List Value} (h : w.ownsRow n e size v k xs) (hn : n' ≤ n) : w.ownsRow n' e size v k xs := by
  obtain ⟨hl, (h0 | ⟨g, cap, cur, rfl, hg, hc, rest⟩)⟩ := h
  · exact ⟨hl, .inl h0⟩
  · exact ⟨hl, .inr ⟨g, cap, cur, rfl, Nat.le_trans hn hg, hc, rest⟩⟩
theorem row_nil (w : World) (n e size : Nat) : w.ownsRow n e size (.slice none 0 0) 0 [] := ⟨by simp, .inl ⟨rfl, rfl⟩⟩
theorem bx8 {w : World} {R : Nat} {T : TypeId} {a b c d e f g h : Value} (hb : Bx w R #[a, b, c, d, e, f, g, h] T) : w.cell? ⟨R, 0, none⟩ = some a ∧ w.cell? ⟨R, 1, none⟩ = some b ∧ w.cell? ⟨R, 2, none⟩ = some c ∧ w.cell? ⟨R, 3, none⟩ = some d ∧ w.cell? ⟨R, 4, none⟩ = some e ∧ w.cell? ⟨R, 5, none⟩ = some f ∧ w.cell? ⟨R, 6, none⟩ = some g ∧ w.cell? ⟨R, 7, none⟩ = some h :=
  ⟨hb.cell rfl, hb.cell rfl, hb.cell rfl, hb.cell rfl, hb.cell rfl, hb.cell rfl, hb.cell rfl, hb.cell rfl⟩
theorem bx7 {w : World} {R : Nat} {T : TypeId} {a b c d e f g : Value} (hb : Bx w R #[a, b, c, d, e, f, g] T) : w.cell? ⟨R, 0, none⟩ = some a ∧ w.cell? ⟨R, 1, none⟩ = some b ∧ w.cell? ⟨R, 2, none⟩ = some c ∧ w.cell? ⟨R, 3, none⟩ = some d ∧ w.cell? ⟨R, 4, none⟩ = some e ∧ w.cell? ⟨R, 5, none⟩ = some f ∧ w.cell? ⟨R, 6, none⟩ = some g :=
  ⟨hb.cell rfl, hb.cell rfl, hb.cell rfl, hb.cell rfl, hb.cell rfl, hb.cell rfl, hb.cell rfl⟩

end Go.Proofs.YtiaccimdjfdkgaaGreatDoor
