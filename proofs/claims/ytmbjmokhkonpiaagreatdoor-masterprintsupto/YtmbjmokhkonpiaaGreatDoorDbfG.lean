import Derived.Test.YtmbjmokhkonpiaaGreatDoorDbdG
import Derived.Shelf.RegionOpen
import Derived.WalkKit
import Derived.WalkSpells
import Derived.WalkLawsBesides
import Derived.OwnWalkIn
import Derived.BigQuiet
import Derived.Deep.QuietTactic
import Derived.Deep.RegionHeld3
import Derived.Test.YtmbjmokhkonpiaaGreatDoorNs1G
/-
  Proofs: a line of words under way: more, take, plain, must. (The verifier's own text.)
-/
namespace Go.Proofs.YtmbjmokhkonpiaaGreatDoor
set_option linter.unusedVariables false
set_option linter.unusedSimpArgs false
open Go.RowKit Go.Shelf Go.Proofs.YtmbjmokhkonpiaaGreatDoor.Nm

/-- a line in memory: its words, its origin, how far it was read -/
structure Ln (W0 : World) (L : Nat) (q : Option Addr) (c : Nat) (Z : List Wz) (o : ByteArray) (n : Nat) (w : World) : Prop where
  blk : w.heap[L]? = some (.cells #[.slice q Z.length c, .string o, .int .i64 (n : Int)] 160 (0, 0))
  bel : Below W0.heap.size W0 w
  ge : W0.heap.size ≤ L
  row : ∀ j (z : Wz), Z[j]? = some z → ∃ b off, q = some ⟨b, off, none⟩ ∧ W0.cell? ⟨b, off + j * 2, none⟩ = some (.string (bts z.t)) ∧ W0.cell? ⟨b, off + j * 2 + 1, none⟩ = some (.bool z.q)
  len : Z.length ≤ 16777216
  cap : Z.length ≤ c ∧ c ≤ 9223372036854775807
section
variable {W0 : World} {L : Nat} {q : Option Addr} {c : Nat} {Z : List Wz} {o : ByteArray} {n : Nat} {w : World}
theorem Ln.lt (h : Ln W0 L q c Z o n w) : L < w.heap.size := (Array.getElem?_eq_some_iff.1 h.blk).1
theorem Ln.c0 (h : Ln W0 L q c Z o n w) : w.cell? ⟨L, 0, none⟩ = some (.slice q Z.length c) := by have := h.blk; simp [World.cell?, this]
theorem Ln.c1 (h : Ln W0 L q c Z o n w) : w.cell? ⟨L, 1, none⟩ = some (.string o) := by have := h.blk; simp [World.cell?, this]
theorem Ln.c2 (h : Ln W0 L q c Z o n w) : w.cell? ⟨L, 2, none⟩ = some (.int .i64 (n : Int)) := by have := h.blk; simp [World.cell?, this]
theorem Ln.free (h : Ln W0 L q c Z o n w) (j : Nat) : w.frozen? ⟨L, j, none⟩ = false := by have := h.blk; simp [World.frozen?, this]
theorem Ln.drewN (h : Ln W0 L q c Z o n w) (m : Nat) : Ln W0 L q c Z o n (w.drewN m) := ⟨h.blk, below_drewN h.bel m, h.ge, h.row, h.len, h.cap⟩
theorem Ln.below {w' : World} (h : Ln W0 L q c Z o n w) (hb : Below w.heap.size w w') : Ln W0 L q c Z o n w' := ⟨(hb.block L h.lt).trans h.blk, bstep h.bel hb h.bel.size, h.ge, h.row, h.len, h.cap⟩
theorem Ln.set (h : Ln W0 L q c Z o n w) (n' : Nat) : Ln W0 L q c Z o n' (w.setCell ⟨L, 2, none⟩ (.int .i64 (n' : Int))) := by
  refine ⟨?_, h.bel.setCell (p := ⟨L, 2, none⟩) h.ge _, h.ge, h.row, h.len, h.cap⟩
  have := h.blk
  simp [World.setCell, Array.getElem?_modify, this]
theorem Ln.at (h : Ln W0 L q c Z o n w) {j : Nat} {z : Wz} (hz : Z[j]? = some z) : ∃ b off, q = some ⟨b, off, none⟩ ∧ w.cell? ⟨b, off + j * 2, none⟩ = some (.string (bts z.t)) ∧ w.cell? ⟨b, off + j * 2 + 1, none⟩ = some (.bool z.q) ∧ b < W0.heap.size := by
  obtain ⟨b, off, h1, h2, h3⟩ := h.row j z hz
  have hb : b < W0.heap.size := Lib.lt_of_cell h2
  exact ⟨b, off, h1, (h.bel.cell (p := ⟨b, off + j * 2, none⟩) hb).trans h2, (h.bel.cell (p := ⟨b, off + j * 2 + 1, none⟩) hb).trans h3, hb⟩
theorem Ln.other {B : Nat} (h : Ln W0 L q c Z o n w) (hB : B ≠ L) (hge : W0.heap.size ≤ B) (j : Nat) (v : Value) : Ln W0 L q c Z o n (w.setCell ⟨B, j, none⟩ v) := by
  refine ⟨?_, h.bel.setCell (p := ⟨B, j, none⟩) hge _, h.ge, h.row, h.len, h.cap⟩
  rw [Below.heap_setCell _ _ _ _ (by show L ≠ B; omega)]
  exact h.blk
theorem Ln.drew (h : Ln W0 L q c Z o n w) : Ln W0 L q c Z o n w.drew := h.drewN 1
/-- what reading does to the world -/
def Rg (w w' : World) (L : Nat) : Prop := w.grownBy w' (some L)
theorem Rg.refl (w : World) (L : Nat) : Rg w w L := ⟨rfl, rfl, rfl, Nat.le_refl _, fun _ _ _ => rfl⟩
theorem Rg.trans {a b c : World} {L : Nat} (h : Rg a b L) (k : Rg b c L) : Rg a c L :=
  ⟨k.os.trans h.os, k.tape.trans h.tape, k.output.trans h.output, Nat.le_trans h.size k.size, fun j hj hne => (k.block j (Nat.lt_of_lt_of_le hj h.size) hne).trans (h.block j hj hne)⟩
theorem Rg.set (w : World) (L j : Nat) (u : Value) : Rg w (w.setCell ⟨L, j, none⟩ u) L :=
  ⟨rfl, rfl, rfl, by simp [World.setCell], fun b hb hne => Below.heap_setCell _ _ _ b (by show b ≠ L; exact fun e => hne (by rw [e]))⟩
theorem Rg.new {w w' : World} {L B : Nat} (h : Rg w w' L) (hB : w.heap.size ≤ B) (j : Nat) (u : Value) : Rg w (w'.setCell ⟨B, j, none⟩ u) L :=
  ⟨h.os, h.tape, h.output, by simpa [World.setCell] using h.size, fun b hb hne => (Below.heap_setCell _ _ _ b (by show b ≠ B; omega)).trans (h.block b hb hne)⟩
theorem Rg.drew {w w' : World} {L : Nat} (h : Rg w w' L) : Rg w w'.drew L := ⟨h.os, h.tape, h.output, h.size, h.block⟩
theorem Rg.below {w w' w0 : World} {L : Nat} (h : Rg w w' L) (hb : Below w0.heap.size w0 w) (hL : w0.heap.size ≤ L) : Below w0.heap.size w0 w' :=
  ⟨h.os.trans hb.os, h.tape.trans hb.tape, h.output.trans hb.output, Nat.le_trans hb.size h.size, fun j hj => (h.block j (Nat.lt_of_lt_of_le hj hb.size) (by intro e; injection e with e; omega)).trans (hb.block j hj)⟩
end
end Go.Proofs.YtmbjmokhkonpiaaGreatDoor

/-
  Proofs: the next word that stands without quotes, all words that are left; builders. (The verifier's own text.)
-/
namespace Go.Proofs.YtmbjmokhkonpiaaGreatDoor
set_option linter.unusedVariables false
set_option linter.unusedSimpArgs false
open Go.RowKit Go.Shelf Go.Proofs.YtmbjmokhkonpiaaGreatDoor.Nm

section
variable {W0 : World} {L : Nat} {q : Option Addr} {c : Nat} {Z : List Wz} {o : ByteArray} {n : Nat} {w : World}
end
/-- a builder that holds a text -/
def Bd (B b : Nat) (x : ByteArray) (w : World) : Prop := Lib.IsBuilderF 36 5 B b (Lib.byteCells x.data.toList) w ∧ B ≤ w.heap.size
theorem byteCells_app (x y : ByteArray) : Lib.byteCells x.data.toList ++ Lib.strCells y = Lib.byteCells (x ++ y).data.toList := by
  simp [Lib.byteCells, Lib.strCells]
theorem Bd.new (w : World) : Bd w.heap.size w.heap.size ⟨#[]⟩ (w.alloc (.cells #[.pointer none, .slice none 0 0] 36)) :=
  ⟨.inl ⟨Nat.le_refl _, .slice none 0 0, World.alloc_heap_new _ _, World.ownsRowF_nil _ _ _ _, by simp [Value.ownBlock]⟩, by simp⟩
theorem Bd.kept {B b : Nat} {x : ByteArray} {w w' : World} (h : Bd B b x w) (hb : ∀ g, B ≤ g → g < w.heap.size → w'.heap[g]? = w.heap[g]?) (hs : w.heap.size ≤ w'.heap.size) : Bd B b x w' := by
  refine ⟨?_, Nat.le_trans h.2 hs⟩
  have key : ∀ p, Lib.BuilderAtF 36 5 B b p (Lib.byteCells x.data.toList) w → Lib.BuilderAtF 36 5 B b p (Lib.byteCells x.data.toList) w' := fun p hp => by
    obtain ⟨hB, v, hg, ⟨hl, ho⟩, hne⟩ := hp
    refine ⟨hB, v, (hb b hB (Array.getElem?_eq_some_iff.1 hg).1).trans hg, ⟨hl, ?_⟩, hne⟩
    rcases ho with ho | ⟨g, cap, cur, fz, h1, h2, h3, h4⟩
    · exact .inl ho
    · exact .inr ⟨g, cap, cur, fz, h1, h2, (hb g h2 (Array.getElem?_eq_some_iff.1 h3).1).trans h3, h4⟩
  rcases h.1 with h | h
  · exact .inl (key _ h)
  · exact .inr (key _ h)
theorem Bd.below {B b : Nat} {x : ByteArray} {w w' : World} (h : Bd B b x w) (hb : Below w.heap.size w w') : Bd B b x w' := h.kept (fun g _ hg => hb.block g hg) hb.size
theorem bstring_any (B b : Nat) (x : ByteArray) (w : World) (h : Bd B b x w) :
    Calls Tryz.prog 17 #[.pointer (some ⟨b, 0, none⟩)] w fun e w' => e = .returned (.string x) ∧ Bd B b x w' ∧ Below B w w' := by
  refine (builderString_any B b x.data.toList w h.1 h.2).mono ?_
  rintro e w' ⟨rfl, h1, h2, -⟩
  exact ⟨rfl, ⟨h1, Nat.le_trans h.2 h2.size⟩, h2⟩
end Go.Proofs.YtmbjmokhkonpiaaGreatDoor
