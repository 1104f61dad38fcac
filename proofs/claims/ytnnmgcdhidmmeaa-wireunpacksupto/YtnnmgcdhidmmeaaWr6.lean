import Derived.Test.YtnnmgcdhidmmeaaWr4G
import Derived.Test.YtnnmgcdhidmmeaaWr3
import Derived.Test.YtnnmgcdhidmmeaaAp1
namespace Go.Proofs.Ytnnmgcdhidmmeaa
set_option linter.unusedVariables false
open Go.RowKit Go.Shelf Go.Proofs.Ytnnmgcdhidmmeaa.Nm

theorem win_run6 (b o len cap l h : Nat) {zl zh : Int} (hl : zl = (l : Int)) (hh : zh = (h : Int)) (h1 : l < h) (h2 : h ≤ cap) (W : World) : (Instr.slice 22 (.slice (some ⟨b, o, none⟩) len cap) (some (.int .i64 zl)) (some (.int .i64 zh)) none).run Try.prog W = .ok (.slice (some ⟨b, o + l, none⟩) (h - l) (cap - l)) W := by
  subst hl; subst hh
  obtain ⟨x, h3, h4⟩ := run_win b o len cap l h (by omega) h2
  rw [h3, h4 h1]
/-- the bodies of the loops of a code, the outer ones first -/
def loopsOf : Code → List Code
  | .loop c => c :: loopsOf c
  | .seq a b => loopsOf a ++ loopsOf b
  | .block _ c => loopsOf c
  | .scope c => loopsOf c
  | .cond _ a b => loopsOf a ++ loopsOf b
  | _ => []
def hasLoop : Code → Bool
  | .loop _ => true
  | .seq a b => hasLoop a || hasLoop b
  | .block _ c => hasLoop c
  | .scope c => hasLoop c
  | .cond _ a b => hasLoop a || hasLoop b
  | _ => false
/-- what stands behind the first statement with a loop -/
def behind : Code → Code
  | .seq x y => bif hasLoop x then y else behind y
  | .scope c => behind c
  | .block _ c => behind c
  | _ => .skip
end Go.Proofs.Ytnnmgcdhidmmeaa
