import Derived.Test.YtoabnpdoicbpiaaGreatWkG
import Derived.Test.YtoabnpdoicbpiaaGreatGr0G
namespace Go.Proofs.YtoabnpdoicbpiaaGreat
set_option linter.unusedVariables false
open Go.RowKit Go.Shelf Go.Proofs.YtoabnpdoicbpiaaGreat.Nm
structure Qn where
 n : ByteArray
 t : Int
 c : Int
def QsAt (w : World) (p : Option Addr) (l : List Qn) : Prop := ∀ k, (hk : k < l.length) → ∃ g off, p = some ⟨g, off, none⟩ ∧ g < w.heap.size ∧ w.cell? ⟨g, off + k * 3, none⟩ = some (.string l[k].n) ∧ w.cell? ⟨g, off + k * 3 + 1, none⟩ = some (.int .i64 l[k].t) ∧ w.cell? ⟨g, off + k * 3 + 2, none⟩ = some (.int .i64 l[k].c)
structure Rn where
 o : ByteArray
 t : Int
 c : Int
 l : Int
 d : ByteArray
def RsAt (w : World) (p : Option Addr) (l : List Rn) : Prop := ∀ k, (hk : k < l.length) → ∃ g off, p = some ⟨g, off, none⟩ ∧ g < w.heap.size ∧ w.cell? ⟨g, off + k * 5, none⟩ = some (.string l[k].o) ∧ w.cell? ⟨g, off + k * 5 + 1, none⟩ = some (.int .i64 l[k].t) ∧ w.cell? ⟨g, off + k * 5 + 2, none⟩ = some (.int .i64 l[k].c) ∧ w.cell? ⟨g, off + k * 5 + 3, none⟩ = some (.int .i64 l[k].l) ∧ w.cell? ⟨g, off + k * 5 + 4, none⟩ = some (.string l[k].d)
end Go.Proofs.YtoabnpdoicbpiaaGreat
namespace Go.Proofs.YtoabnpdoicbpiaaGreat
set_option linter.unusedVariables false
open Go.RowKit Go.Shelf Go.Proofs.YtoabnpdoicbpiaaGreat.Nm
end Go.Proofs.YtoabnpdoicbpiaaGreat
