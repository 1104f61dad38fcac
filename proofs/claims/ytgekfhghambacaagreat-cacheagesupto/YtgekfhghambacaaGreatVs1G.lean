import Derived.Test.YtgekfhghambacaaGreatRc1G
import Derived.Test.YtgekfhghambacaaGreatWkG
import Derived.Shelf.SlIterI.Sorted
import Derived.Shelf.SortM.Plain
import Derived.Shelf.SortM.SortNone
import Derived.Ground.SlgmProg
import Derived.Shelf.RegionOpenPlain
import Derived.Lib.BufferRead
import Derived.Test.YtgekfhghambacaaGreatThG
namespace Go.Proofs.YtgekfhghambacaaGreat
set_option linter.unusedVariables false
open Go.RowKit Go.Shelf Go.Proofs.YtgekfhghambacaaGreat.Nm
attribute [local go_sem] Oper.semAt_some

/-- all cells below stay -/
def KpW (B : Nat) (W W' : World) : Prop := ∀ (a : Addr) v, a.block < B → W.cell? a = some v → W'.cell? a = some v
/-- whole numbers in memory, below a block -/
def ZAt (w : World) (B : Nat) (p : Option Addr) (L : List Int) : Prop := ∀ k (h : k < L.length), ∃ g off, p = some ⟨g, off, none⟩ ∧ g < B ∧ w.cell? ⟨g, off + k, none⟩ = some (.int .i64 L[k])
theorem ZAt.keep {w w' : World} {B C : Nat} {p : Option Addr} {L : List Int} (h : ZAt w B p L) (hk : KpW C w w') (hB : B ≤ C) : ZAt w' B p L := fun k hk' => by
  obtain ⟨g, off, h1, h2, h3⟩ := h k hk'
  exact ⟨g, off, h1, h2, hk _ _ (Nat.lt_of_lt_of_le h2 hB) h3⟩
end Go.Proofs.YtgekfhghambacaaGreat

namespace Go.Proofs.YtgekfhghambacaaGreat
set_option linter.unusedVariables false
open Go.RowKit Go.Shelf Go.Sort Go.Proofs.YtgekfhghambacaaGreat.Nm

end Go.Proofs.YtgekfhghambacaaGreat

namespace Go.Proofs.YtgekfhghambacaaGreat
set_option linter.unusedVariables false
open Go.RowKit Go.Shelf Go.Proofs.YtgekfhghambacaaGreat.Nm

/-- a set under way: the blocks that are done, the block, its bytes -/
structure SetS where
  done : List Nat
  blk : Int
  marks : List Nat
def SetS.bytes (s : SetS) : List Nat := if s.blk < 0 then s.done else s.done ++ s.blk.toNat :: s.marks.length :: s.marks
def SetS.next (s : SetS) (b : Nat) : SetS := if (b : Int) = s.blk then s else ⟨s.bytes, b, []⟩
def SetS.fill (s : SetS) (k : Nat) : SetS := { s with marks := s.marks ++ List.replicate (k + 1 - s.marks.length) 0 }
def SetS.mark (s : SetS) (m : Nat) : SetS := { s with marks := s.marks.set (s.marks.length - 1) (s.marks.getD (s.marks.length - 1) 0 ||| m) }
def SetS.step (s : SetS) (t : Int) : SetS := if isTy t = true then ((s.next (t.toNat / 256)).fill (t.toNat % 256 / 8)).mark (2 ^ (7 - t.toNat % 8)) else s
end Go.Proofs.YtgekfhghambacaaGreat

namespace Go.Proofs.YtgekfhghambacaaGreat
set_option linter.unusedVariables false
open Go.Proofs.YtgekfhghambacaaGreat.Nm

end Go.Proofs.YtgekfhghambacaaGreat

namespace Go.Proofs.YtgekfhghambacaaGreat
set_option linter.unusedVariables false
open Go.RowKit Go.Shelf Go.Proofs.YtgekfhghambacaaGreat.Nm

end Go.Proofs.YtgekfhghambacaaGreat
