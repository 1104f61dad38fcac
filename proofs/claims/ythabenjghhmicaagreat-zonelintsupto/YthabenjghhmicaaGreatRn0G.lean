import Derived.Test.YthabenjghhmicaaGreatLowG
import Derived.Test.YthabenjghhmicaaGreatGr0G
namespace Go.Proofs.YthabenjghhmicaaGreat
set_option linter.unusedVariables false
open Go.RowKit Go.Shelf Go.Proofs.YthabenjghhmicaaGreat.Nm
structure Rn where
 o : ByteArray
 t : Int
 c : Int
 l : Int
 d : ByteArray
def RsAt (w : World) (p : Option Addr) (l : List Rn) : Prop := ∀ k, (hk : k < l.length) → ∃ g off, p = some ⟨g, off, none⟩ ∧ g < w.heap.size ∧ w.cell? ⟨g, off + k * 5, none⟩ = some (.string l[k].o) ∧ w.cell? ⟨g, off + k * 5 + 1, none⟩ = some (.int .i64 l[k].t) ∧ w.cell? ⟨g, off + k * 5 + 2, none⟩ = some (.int .i64 l[k].c) ∧ w.cell? ⟨g, off + k * 5 + 3, none⟩ = some (.int .i64 l[k].l) ∧ w.cell? ⟨g, off + k * 5 + 4, none⟩ = some (.string l[k].d)
end Go.Proofs.YthabenjghhmicaaGreat
namespace Go.Proofs.YthabenjghhmicaaGreat
set_option linter.unusedVariables false
open Go.RowKit Go.Shelf Go.Proofs.YthabenjghhmicaaGreat.Nm
end Go.Proofs.YthabenjghhmicaaGreat
