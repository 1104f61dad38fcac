import Derived.Test.YtipifhifjbenlaaGreatRc1G
import Derived.Test.YtipifhifjbenlaaGreatAp1G
namespace Go.Proofs.YtipifhifjbenlaaGreat
set_option linter.unusedVariables false
open Go.RowKit Go.Shelf Go.Proofs.YtipifhifjbenlaaGreat.Nm

set_option maxRecDepth 100000 in
set_option maxHeartbeats 1000000 in
/-- data.Types, of what is no set -/
theorem types_no (s : ByteArray) (w : World) (hs : s.size ≤ 1048576) (hl : typB s = none) :
    Calls Tryz.prog 142 #[.string s] w fun e w' => e = .returned (.tuple #[.slice none 0 0, .int .i64 7]) ∧ Below w.heap.size w w' := by
  have hmf : ∀ (fn : Fn) (first cap : Array Value) (w : World), (Instr.makeFunc fn first cap).run Tryz.prog w = .ok (.func fn first cap) w := fun _ _ _ _ => rfl
  have HT := hide' (fun w => typesOf_any s w hs)
  rw [hl] at HT
  have bx := Boxed.new w 73 (.int .i64 0)
  go_enter_defers Tryz.func142, Tryz.ntmps142
  go_wp2_with (go_at_call 148; refine (HT.out _).mono ?_; rintro e w1 ⟨rfl, hB1⟩; have bx1 := bxBelow bx hB1 (by simp); have hc1 := bx1.cell; have hf1 := bx1.frozen)
  simp only [bodyPostD, flt]
  refine leaves_cons (f := 147) (args := #[.pointer (some ⟨w.heap.size, 0, none⟩)]) (by simp) (by simp [go_sem]) ?_
  refine (types1_panicking ⟨w.heap.size, 0, none⟩ 0 7 0 [] _ bx1.cell bx1.frozen bx1.lt).mono ?_
  rintro e u' w'' ⟨rfl, rfl, w2, hB2, rfl⟩
  have bx3 := (bxBelow bx1 hB2 bx1.lt).set (.int .i64 ((7 : Nat) : Int))
  have hc3 : (w2.setCell ⟨w.heap.size, 0, none⟩ (.int .i64 7)).cell? ⟨w.heap.size, 0, none⟩ = some (.int .i64 7) := bx3.cell
  rw [World.size_alloc] at hB1
  have hBa : Below w.heap.size w w1 := ((Below.refl _ w).alloc (Nat.le_refl _) _).trans (hB1.mono (by omega))
  have hBb : Below w.heap.size w (w2.setCell ⟨w.heap.size, 0, none⟩ (.int .i64 ((7 : Nat) : Int))) := (hBa.trans (hB2.mono hBa.size)).setCell (p := ⟨w.heap.size, 0, none⟩) (Nat.le_refl _) _
  simp only [settle]
  refine ⟨.tuple #[.slice none 0 0, .int .i64 ((7 : Nat) : Int)], ?_, rfl, hBb⟩
  simp [results, Tryz.results142, go_sem, hc3]
/-- data.Types -/
theorem types_any (s : ByteArray) (w : World) (hs : s.size ≤ 1048576) :
    Calls Tryz.prog 142 #[.string s] w fun e w' => rtEnd w (typB s) e w' ∧ Below w.heap.size w w' := by
  cases h : typB s with
  | some l => exact (types_yes s l w hs h).mono (by rintro e w' ⟨v, rfl, h1, h2⟩; exact ⟨⟨v, rfl, h1⟩, h2⟩)
  | none => exact (types_no s w hs h).mono (by rintro e w' ⟨rfl, h2⟩; exact ⟨rfl, h2⟩)
end Go.Proofs.YtipifhifjbenlaaGreat
