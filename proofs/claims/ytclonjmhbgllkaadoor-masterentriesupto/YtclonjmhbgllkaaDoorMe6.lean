import Derived.Test.YtclonjmhbgllkaaDoorMe5
import Derived.Deep.RegionHeld3
import Derived.Deep.CutRange
namespace Go.Proofs.YtclonjmhbgllkaaDoor
set_option linter.unusedVariables false
open Go.RowKit Go.Shelf Nm

theorem cell_alloc_l {W : World} {a : Addr} {v : Value} (o : Obj) (h : W.cell? a = some v) : (W.alloc o).cell? a = some v := cell_kept h (World.grownBy_alloc W o none) (fun r e => by cases e)
theorem frozen_alloc_l {W : World} {a : Addr} {v : Value} (o : Obj) (h : W.cell? a = some v) (hf : W.frozen? a = false) : (W.alloc o).frozen? a = false := (frozen_kept h (World.grownBy_alloc W o none) (fun r e => by cases e)).trans hf
/-- words as cells -/
def wcells (ws : List Wd) : List Value := ws.flatMap (fun x => [.string x.t, .bool x.q])
theorem wcells_app (ws : List Wd) (x : Wd) : wcells (ws ++ [x]) = wcells ws ++ [.string x.t, .bool x.q] := by simp [wcells]
theorem wcells_len (ws : List Wd) : (wcells ws).length = ws.length * 2 := by
  induction ws with
  | nil => rfl
  | cons x ws ih => simp only [wcells, List.flatMap_cons, List.length_append, List.length_cons] at *; simp at *; omega

def entZ : Array Value := #[.int .i64 0, .bool false, .slice none 0 0]
/-- an entry's state: the scanner, the entry as far as it was read (at R + 1), the result's cells (at R) -/
structure EI (w wr : World) (g : Nat) (f t : ByteArray) (k0 l0 k l : Nat) (ws : List Wd) : Prop where
  sc : Sc wr g f t k l
  e : ∃ v, wr.heap[w.heap.size + 1]? = some (.cells #[.int .i64 (l0 : Int), .bool (isBl (bt t k0)), v] 31 (0, 0)) ∧ wr.ownsRow (w.heap.size + 2) 33 2 v ws.length (wcells ws)
  r : wr.heap[w.heap.size]? = some (.cells entZ 31 (0, 0))
  gr : w.grownBy wr (some g)
  lt : g < w.heap.size
  sz : w.heap.size + 2 ≤ wr.heap.size

theorem grown_blk {w w' : World} {g : Nat} (h : w.grownBy w' (some g)) {b : Nat} {o : Obj} (hb : b ≠ g) (ho : w.heap[b]? = some o) : w'.heap[b]? = some o :=
  (h.block b (Array.getElem?_eq_some_iff.1 ho).1 (fun e => hb (Option.some.inj e))).trans ho
theorem EI.move {w wr wr' : World} {g : Nat} {f t : ByteArray} {k0 l0 k l k' l' : Nat} {ws : List Wd} (h : EI w wr g f t k0 l0 k l ws) (hs : Sc wr' g f t k' l') (hg : wr.grownBy wr' (some g)) : EI w wr' g f t k0 l0 k' l' ws := by
  obtain ⟨sc, ⟨v, e1, e2⟩, r, gr, lt, sz⟩ := h
  refine ⟨hs, ⟨v, grown_blk hg (by omega) e1, e2.kept hg ?_⟩, grown_blk hg (by omega) r, grown_trans gr hg, lt, Nat.le_trans sz hg.size⟩
  by_cases hv : v.ownBlock = none
  · exact .inl hv
  · right
    intro he
    obtain ⟨q, hq⟩ := Option.ne_none_iff_exists'.1 hv
    have := e2.lt q hq
    rw [hq] at he
    injection he with he
    omega
theorem EI.c {w wr : World} {g : Nat} {f t : ByteArray} {k0 l0 k l : Nat} {ws : List Wd} (h : EI w wr g f t k0 l0 k l ws) :
    ∃ v, (wr.cell? ⟨w.heap.size + 1, 0, none⟩ = some (.int .i64 (l0 : Int)) ∧ wr.cell? ⟨w.heap.size + 1, 1, none⟩ = some (.bool (isBl (bt t k0))) ∧ wr.cell? ⟨w.heap.size + 1, 2, none⟩ = some v ∧ (∀ j, wr.frozen? ⟨w.heap.size + 1, j, none⟩ = false)) ∧
      (wr.cell? ⟨w.heap.size, 0, none⟩ = some (.int .i64 0) ∧ wr.cell? ⟨w.heap.size, 1, none⟩ = some (.bool false) ∧ wr.cell? ⟨w.heap.size, 2, none⟩ = some (.slice none 0 0) ∧ (∀ j, wr.frozen? ⟨w.heap.size, j, none⟩ = false)) ∧ wr.ownsRow (w.heap.size + 2) 33 2 v ws.length (wcells ws) := by
  obtain ⟨sc, ⟨v, e1, e2⟩, r, gr, lt, sz⟩ := h
  refine ⟨v, ⟨?_, ?_, ?_, fun j => ?_⟩, ⟨?_, ?_, ?_, fun j => ?_⟩, e2⟩
  · simp [World.cell?, e1]
  · simp [World.cell?, e1]
  · simp [World.cell?, e1]
  · simp [World.frozen?, e1]
  · simp [World.cell?, r, entZ]
  · simp [World.cell?, r, entZ]
  · simp [World.cell?, r, entZ]
  · simp [World.frozen?, r]

theorem Tryd.infoWord : (Tryd.prog.info? 33).map (fun i => (i.zero, i.size, i.bytes)) = some (some (.agg #[.string ⟨#[]⟩, .bool false]), 2, 24) := by kernel_rfl
theorem cells_new {W : World} {n : Nat} (hn : W.heap.size = n) (C : Array Value) (T : TypeId) : ∀ j u, C.toList[j]? = some u → (W.alloc (.cells C T)).cell? (Addr.add ⟨n, 0, none⟩ j) = some u := by
  intro j u hj
  have : Addr.add ⟨n, 0, none⟩ j = ⟨n, j, none⟩ := by unfold Addr.add; split <;> simp_all
  rw [this, new_cell hn, ← Array.getElem?_toList]; exact hj
/-- a word more -/
theorem EI.push {w wr w6 : World} {g : Nat} {f t : ByteArray} {k0 l0 k l n : Nat} {ws : List Wd} {x : Wd} {v v' : Value} {o1 o2 : Obj} (h : EI w wr g f t k0 l0 k l ws) (hn : n = ws.length)
    (hv : wr.cell? ⟨w.heap.size + 1, 2, none⟩ = some v) (hown : wr.ownsRow (w.heap.size + 2) 33 2 v n (wcells ws))
    (hown' : w6.ownsRow (w.heap.size + 2) 33 2 v' (n + 1) (wcells ws ++ [.string x.t, .bool x.q])) (hg : ((wr.alloc o1).alloc o2).grownBy w6 v.ownBlock) :
    EI w (w6.setCell ⟨w.heap.size + 1, 2, none⟩ v') g f t k0 l0 k l (ws ++ [x]) ∧ (w6.cell? ⟨w.heap.size + 1, 2, none⟩ = some v ∧ w6.frozen? ⟨w.heap.size + 1, 2, none⟩ = false) := by
  subst hn
  obtain ⟨sc, ⟨v0, e1, e2⟩, r, gr, lt, sz⟩ := h
  have hvv : v0 = v := by simp [World.cell?, e1] at hv; exact hv
  subst hvv
  have hle : ∀ q, v0.ownBlock = some q → w.heap.size + 2 ≤ q := fun q hq => (hown.lt q hq).1
  have hB : Below (w.heap.size + 2) wr w6 := (((Below.refl _ wr).alloc sz o1).alloc (by simp; omega) o2).grown hg (by simp; omega) (fun q hq => hle q hq)
  have b1 := (hB.block (w.heap.size + 1) (by omega)).trans e1
  refine ⟨⟨?_, ⟨v', ?_, ?_⟩, ?_, ?_, lt, ?_⟩, ?_, ?_⟩
  · exact (Below.heap_setCell _ _ _ g (by show g ≠ w.heap.size + 1; omega)).trans ((hB.block g (by omega)).trans sc)
  · simp [World.setCell, Array.getElem?_modify, b1]
  · rw [List.length_append, wcells_app]
    exact ownsRow_setCell_below hown' (by show w.heap.size + 1 < w.heap.size + 2; omega) _
  · exact (Below.heap_setCell _ _ _ w.heap.size (by show w.heap.size ≠ w.heap.size + 1; omega)).trans ((hB.block w.heap.size (by omega)).trans r)
  · exact grown_far ⟨hB.os.trans gr.os, hB.tape.trans gr.tape, hB.output.trans gr.output, Nat.le_trans gr.size hB.size, fun b hb hne => (hB.block b (by omega)).trans (gr.block b hb hne)⟩ (by omega) _ _
  · rw [set_size]; exact Nat.le_trans sz hB.size
  · simp [World.cell?, b1]
  · simp [World.frozen?, b1]
theorem three_set {w : World} {R : Nat} {a0 b0 c0 : Value} (r0 : w.cell? ⟨R, 0, none⟩ = some a0) (r1 : w.cell? ⟨R, 1, none⟩ = some b0) (r2 : w.cell? ⟨R, 2, none⟩ = some c0) (a b c : Value) :
    (((w.setCell ⟨R, 0, none⟩ a).setCell ⟨R, 1, none⟩ b).setCell ⟨R, 2, none⟩ c).cell? ⟨R, 0, none⟩ = some a ∧ (((w.setCell ⟨R, 0, none⟩ a).setCell ⟨R, 1, none⟩ b).setCell ⟨R, 2, none⟩ c).cell? ⟨R, 1, none⟩ = some b ∧ (((w.setCell ⟨R, 0, none⟩ a).setCell ⟨R, 1, none⟩ b).setCell ⟨R, 2, none⟩ c).cell? ⟨R, 2, none⟩ = some c := by
  obtain ⟨h0, h1⟩ := two_set r0 r1 a b
  refine ⟨?_, ?_, ?_⟩
  · rw [World.cell?_setCell_other _ _ _ _ (by intro e; cases e)]; exact h0
  · rw [World.cell?_setCell_other _ _ _ _ (by intro e; cases e)]; exact h1
  · rw [World.cell?_setCell_same']; rw [World.cell?_setCell_other _ _ _ _ (by intro e; cases e), World.cell?_setCell_other _ _ _ _ (by intro e; cases e), r2]; rfl

def entEnd (r : Er) (f t : ByteArray) (k l g : Nat) (w : World) (e : Ending) (w' : World) : Prop :=
  match r with
  | .inr (k', l', ws) => ∃ p c, e = .returned (.tuple #[.agg #[.int .i64 (l : Int), .bool (isBl (bt t k)), .slice p ws.length c], .nilIface]) ∧ w'.ownsRow w.heap.size 33 2 (.slice p ws.length c) ws.length (wcells ws) ∧ Sc w' g f t k' l' ∧ w.grownBy w' (some g)
  | .inl (c, l') => e = .returned (.tuple #[.agg #[.int .i64 0, .bool false, .slice none 0 0], .iface 54 (errA f c l')]) ∧ w.grownBy w' (some g)

end Go.Proofs.YtclonjmhbgllkaaDoor
