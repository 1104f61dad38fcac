import Derived.Test.YtelboefeomnjaaaRc1G
import Derived.Test.YtelboefeomnjaaaCntG
namespace Go.Proofs.Ytelboefeomnjaaa
set_option linter.unusedVariables false
open Go.RowKit Go.Shelf Go.Proofs.Ytelboefeomnjaaa.Nm
attribute [local go_sem] Oper.semAt_some

/-- all cells below stay -/
def KpW (B : Nat) (W W' : World) : Prop := ∀ (a : Addr) v, a.block < B → W.cell? a = some v → W'.cell? a = some v
theorem kpW_t {B : Nat} {A C D : World} (h : KpW B A C) (k : KpW B C D) : KpW B A D := fun a v hb e => k a v hb (h a v hb e)
theorem kpW_b {B : Nat} {w : World} (W : World) (l : Nat) (o o' : Obj) (_ : w.heap.size ≤ l) (h : W.heap[l]? = some o) (hc : o.isCells = false) (_ : o.isWalk = false) : KpW B W (W.putObj l o') :=
  fun a v _ e => cell_kept e (grownBy_putObj' W l o') (fun r e => by cases e; exact ⟨_, h, hc⟩)
theorem kpW_below {B n : Nat} {W W' : World} (h : Below n W W') (hB : B ≤ n) : KpW B W W' := fun a v hb e => (h.cell (Nat.lt_of_lt_of_le hb hB)).trans e

/-- whole numbers in memory, below a block -/
def ZAt (w : World) (B : Nat) (p : Option Addr) (L : List Int) : Prop := ∀ k (h : k < L.length), ∃ g off, p = some ⟨g, off, none⟩ ∧ g < B ∧ w.cell? ⟨g, off + k, none⟩ = some (.int .i64 L[k])
theorem ZAt.keep {w w' : World} {B C : Nat} {p : Option Addr} {L : List Int} (h : ZAt w B p L) (hk : KpW C w w') (hB : B ≤ C) : ZAt w' B p L := fun k hk' => by
  obtain ⟨g, off, h1, h2, h3⟩ := h k hk'
  exact ⟨g, off, h1, h2, hk _ _ (Nat.lt_of_lt_of_le h2 hB) h3⟩
abbrev encI (x : Int) : Value := .int .i64 x

end Go.Proofs.Ytelboefeomnjaaa
