import Derived.Test.YtclonjmhbgllkaaDoorMe9
import Derived.Test.YtclonjmhbgllkaaDoorMr1
import Derived.Deep.RegionHeldLaw
import Derived.Deep.AppendLies
namespace Go.Proofs.YtclonjmhbgllkaaDoor
set_option linter.unusedVariables false
open Go.RowKit Go.Shelf Go.Proofs.YtclonjmhbgllkaaDoor.Nm

/-- what is left of a file behind an entry -/
def cont (t : ByteArray) (L : List En) (l0 : Nat) (b0 : Bool) (r : Er) : Rs :=
  match r with
  | .inl (c, l) => .inl (c, l)
  | .inr (k, l, ws) => ents t k l (putE L l0 b0 ws)
theorem ents_cont {t : ByteArray} {k l : Nat} {L : List En} (hk : k < t.size) : ents t k l L = cont t L l (isBl (bt t k)) (ent t k l 0 []) := by
  rw [ents, if_pos hk]
  unfold cont
  cases he : ent t k l 0 [] with
  | inl zz => obtain ⟨c, l2⟩ := zz; rfl
  | inr zz => obtain ⟨k2, l2, ws⟩ := zz; have := ent_good t k l 0 [] k2 l2 ws (by omega) he; simp only [if_pos this.1]
theorem ents_out {t : ByteArray} {k l : Nat} {L : List En} (hk : ¬ k < t.size) : ents t k l L = .inr L := by rw [ents, if_neg hk]

theorem EZ.kept {w w' : World} {base : Nat} {v : Value} {Z : List Ez} {r : Option Nat} (h : EZ w base v Z) (hg : w.grownBy w' r) (hv : ∀ q, r = some q → v.ownBlock ≠ some q) (hz : ∀ q, r = some q → ∀ z ∈ Z, z.2.1 ≠ q) : EZ w' base v Z := by
  refine ⟨h.own.kept hg ?_, fun z hzz => (h.rows z hzz).kept hg ?_, h.apart, h.asc⟩
  · by_cases hv0 : v.ownBlock = none
    · exact .inl hv0
    · right
      intro he
      obtain ⟨q, hq⟩ := Option.ne_none_iff_exists'.1 hv0
      exact hv q (he ▸ hq) hq
  · intro he
    exact hz _ he.symm z hzz rfl
/-- the state of the reference's Entries: the fault's cells (at R), the entry's (at R + 1), the entries behind it -/
structure RS (w wr : World) (x0 x1 x2 : Value) (v : Value) (Z : List Ez) (nb : Nat) : Prop where
  r : wr.heap[w.heap.size]? = some (.cells #[.int .i64 0, .string ⟨#[]⟩, .int .i64 0] 25 (0, 0))
  e : wr.heap[w.heap.size + 1]? = some (.cells #[x0, x1, x2] 31 (0, 0))
  ez : EZ wr (w.heap.size + 2) v Z
  hv : ∀ q, v.ownBlock = some q → q < nb
  hz : ∀ z ∈ Z, z.2.1 < nb
  nb1 : nb ≤ wr.heap.size
  nb2 : w.heap.size + 2 ≤ nb
  b : Below w.heap.size w wr
theorem RS.top {w wr : World} {x0 x1 x2 v : Value} {Z : List Ez} {nb : Nat} (h : RS w wr x0 x1 x2 v Z nb) : RS w wr x0 x1 x2 v Z wr.heap.size :=
  ⟨h.r, h.e, h.ez, fun q hq => (h.ez.own.lt q hq).2, fun z hz => (h.ez.rows z hz).lt.2, Nat.le_refl _, Nat.le_trans h.nb2 h.nb1, h.b⟩
theorem RS.c {w wr : World} {x0 x1 x2 v : Value} {Z : List Ez} {nb : Nat} (h : RS w wr x0 x1 x2 v Z nb) :
    (wr.cell? ⟨w.heap.size + 1, 0, none⟩ = some x0 ∧ wr.cell? ⟨w.heap.size + 1, 1, none⟩ = some x1 ∧ wr.cell? ⟨w.heap.size + 1, 2, none⟩ = some x2 ∧ (∀ j, wr.frozen? ⟨w.heap.size + 1, j, none⟩ = false)) ∧
      (wr.cell? ⟨w.heap.size, 0, none⟩ = some (.int .i64 0) ∧ wr.cell? ⟨w.heap.size, 1, none⟩ = some (.string ⟨#[]⟩) ∧ wr.cell? ⟨w.heap.size, 2, none⟩ = some (.int .i64 0) ∧ (∀ j, wr.frozen? ⟨w.heap.size, j, none⟩ = false)) := by
  have e := h.e
  have r := h.r
  refine ⟨⟨?_, ?_, ?_, fun j => ?_⟩, ⟨?_, ?_, ?_, fun j => ?_⟩⟩
  · simp [World.cell?, e]
  · simp [World.cell?, e]
  · simp [World.cell?, e]
  · simp [World.frozen?, e]
  · simp [World.cell?, r]
  · simp [World.cell?, r]
  · simp [World.cell?, r]
  · simp [World.frozen?, r]
theorem RS.drewN {w wr : World} {x0 x1 x2 v : Value} {Z : List Ez} {nb : Nat} (h : RS w wr x0 x1 x2 v Z nb) (n : Nat) : RS w (wr.drewN n) x0 x1 x2 v Z nb :=
  ⟨h.r, h.e, h.ez.below (quiet_below n), h.hv, h.hz, h.nb1, h.nb2, below_drewN h.b n⟩
/-- another entry is begun -/
theorem RS.fresh {w wr : World} {x0 x1 x2 v : Value} {Z : List Ez} {nb : Nat} (h : RS w wr x0 x1 x2 v Z nb) (a b c : Value) :
    RS w (((wr.setCell ⟨w.heap.size + 1, 0, none⟩ a).setCell ⟨w.heap.size + 1, 1, none⟩ b).setCell ⟨w.heap.size + 1, 2, none⟩ c) a b c v Z nb := by
  have hb := h.nb2
  have hb1 := h.nb1
  refine ⟨?_, ?_, ((h.ez.far (by omega) _ _).far (by omega) _ _).far (by omega) _ _, h.hv, h.hz, by simp only [set_size]; exact h.nb1, h.nb2, below_far (below_far (below_far h.b (by omega) _ _) (by omega) _ _) (by omega) _ _⟩
  · exact (Below.heap_setCell _ _ _ _ (by show w.heap.size ≠ w.heap.size + 1; omega)).trans ((Below.heap_setCell _ _ _ _ (by show w.heap.size ≠ w.heap.size + 1; omega)).trans ((Below.heap_setCell _ _ _ _ (by show w.heap.size ≠ w.heap.size + 1; omega)).trans h.r))
  · simp [World.setCell, Array.getElem?_modify, h.e]
/-- a word more -/
theorem RS.word {w wr w6 : World} {x0 x1 x2 v v' : Value} {Z : List Ez} {nb n : Nat} {xs ys : List Value} {o : Obj} (h : RS w wr x0 x1 x2 v Z nb) (hown : wr.ownsRow nb 33 2 x2 n xs) (hg : (wr.alloc o).grownBy w6 x2.ownBlock)
    (hown' : w6.ownsRow nb 33 2 v' (n + 1) ys) :
    RS w (w6.setCell ⟨w.heap.size + 1, 2, none⟩ v') x0 x1 v' v Z nb ∧ (w6.setCell ⟨w.heap.size + 1, 2, none⟩ v').ownsRow nb 33 2 v' (n + 1) ys ∧ (w6.cell? ⟨w.heap.size + 1, 2, none⟩ = some x2 ∧ w6.frozen? ⟨w.heap.size + 1, 2, none⟩ = false) := by
  have hb := h.nb2
  have hb1 := h.nb1
  have hle : ∀ q, x2.ownBlock = some q → nb ≤ q := fun q hq => (hown.lt q hq).1
  have hB : Below nb wr w6 := ((Below.refl _ wr).alloc hb1 o).grown hg (by simp; omega) (fun q hq => hle q hq)
  have e6 := (hB.block (w.heap.size + 1) (by omega)).trans h.e
  have ez6 : EZ w6 (w.heap.size + 2) v Z := (h.ez.below ((Below.refl _ wr).alloc (Nat.le_refl _) o)).kept hg (fun q hq e => by have := hle q hq; have := h.hv q e; omega) (fun q hq z hz e => by have := hle q hq; have := h.hz z hz; omega)
  refine ⟨⟨?_, ?_, ez6.far (by omega) _ _, h.hv, h.hz, by rw [set_size]; exact Nat.le_trans h.nb1 hB.size, h.nb2, below_far (h.b.trans (hB.mono (by omega))) (by omega) _ _⟩, ownsRow_setCell_below hown' (by show w.heap.size + 1 < nb; omega) _, ?_, ?_⟩
  · exact (Below.heap_setCell _ _ _ _ (by show w.heap.size ≠ w.heap.size + 1; omega)).trans ((hB.block w.heap.size (by omega)).trans h.r)
  · simp [World.setCell, Array.getElem?_modify, e6]
  · simp [World.cell?, e6]
  · simp [World.frozen?, e6]
/-- an entry more -/
theorem RS.entry {w wr w6 : World} {x0 x1 x2 v : Value} {Z : List Ez} {nb g cap : Nat} {z : Ez} {o : Obj} (h : RS w wr x0 x1 x2 v Z nb) (hz : WR wr nb z) (hg : (wr.alloc o).grownBy w6 v.ownBlock)
    (hown : w6.ownsRow (w.heap.size + 2) 31 3 (.slice (some ⟨g, 0, none⟩) (Z.length + 1) cap) (Z.length + 1) (ecells Z ++ encE z)) (hpl : v.ownBlock = some g ∨ g = wr.heap.size + 1) :
    RS w w6 x0 x1 x2 (.slice (some ⟨g, 0, none⟩) (Z.length + 1) cap) (Z ++ [z]) w6.heap.size := by
  have hb := h.nb2
  have hb1 := h.nb1
  have hle : ∀ q, v.ownBlock = some q → w.heap.size + 2 ≤ q := fun q hq => (h.ez.own.lt q hq).1
  have hB : Below (w.heap.size + 2) wr w6 := ((Below.refl _ wr).alloc (by omega) o).grown hg (by simp; omega) (fun q hq => hle q hq)
  have hz1 := hz.lt
  have hs6 : wr.heap.size + 1 ≤ w6.heap.size := by have := hg.size; simpa using this
  have hk : ∀ y, WR wr (w.heap.size + 2) y → (∀ q, v.ownBlock = some q → q ≠ y.2.1) → WR w6 (w.heap.size + 2) y := by
    intro y hy hne
    have h1 : WR (wr.alloc o) (w.heap.size + 2) y := World.ownsRow.alloc hy o
    refine h1.kept hg ?_
    intro he
    exact hne _ he.symm rfl
  have rows6 : ∀ y ∈ Z ++ [z], WR w6 (w.heap.size + 2) y := by
    intro y hy
    rcases List.mem_append.1 hy with hy | hy
    · exact hk y (h.ez.rows y hy) (fun q hq e => h.ez.apart y hy (by rw [hq, e]))
    · obtain rfl := List.mem_singleton.1 hy
      exact hk _ (owns_base hz (by omega)) (fun q hq e => by have := h.hv q hq; omega)
  refine ⟨(hB.block w.heap.size (by omega)).trans h.r, (hB.block (w.heap.size + 1) (by omega)).trans h.e, ⟨by rw [List.length_append, ecells_app]; exact hown, rows6, ?_, ?_⟩, ?_, ?_, Nat.le_refl _, by omega, h.b.trans (hB.mono (by omega))⟩
  · intro y hy e
    injection e with e
    rcases hpl with hp | hp
    · rcases List.mem_append.1 hy with hy | hy
      · exact h.ez.apart y hy (by rw [hp]; exact congrArg some e)
      · obtain rfl := List.mem_singleton.1 hy
        have := h.hv _ hp
        have e' : g = y.2.1 := e
        omega
    · have e' : g = y.2.1 := e
      rcases List.mem_append.1 hy with hy | hy
      · have := (h.ez.rows y hy).lt; omega
      · obtain rfl := List.mem_singleton.1 hy
        omega
  · rw [List.pairwise_append]
    refine ⟨h.ez.asc, List.pairwise_singleton _ _, fun a ha b hb2 => ?_⟩
    obtain rfl := List.mem_singleton.1 hb2
    have := h.hz a ha; omega
  · intro q hq
    exact (World.ownsRow.lt hown q hq).2
  · intro y hy
    exact (rows6 y hy).lt.2
end Go.Proofs.YtclonjmhbgllkaaDoor
