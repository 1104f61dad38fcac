import Derived.Test.YtndkjnehkfleaaaRCm
import Derived.Test.YtndkjnehkfleaaaMath8G
namespace Go.Proofs.Ytndkjnehkfleaaa
set_option linter.unusedVariables false
open Go.RowKit Go.Shelf Nm

theorem owns_one (w : World) (t : TypeId) (u : Value) : (w.alloc (.cells #[u] t)).ownsRow w.heap.size t 1 (.slice (some ⟨w.heap.size, 0, none⟩) 1 1) 1 [u] :=
  ⟨rfl, .inr ⟨w.heap.size, 1, #[u], rfl, Nat.le_refl _, World.alloc_heap_new w _, Nat.le_refl _, by unfold maxLen; omega, rfl, rfl⟩⟩

set_option maxRecDepth 100000 in
set_option maxHeartbeats 1000000 in
/-- sameTexts, at two lists that are the same -/
theorem sameTexts_same (px py : Option Addr) (cx cy : Nat) (l : List ByteArray) (w : World) (hx : StrsAt w px l) (hy : StrsAt w py l) (hll : l.length ≤ 4294967296) :
    Calls Try.prog 6 #[.slice px l.length cx, .slice py l.length cy] w fun e w' => e = .returned (.bool true) ∧ Below w.heap.size w w' := by
  go_enter Try.func6, Try.ntmps6
  go_wp2
  go_loopw [13] (fun i wr => ∃ k : Nat, i = .int .i64 k ∧ k ≤ l.length ∧ Below w.heap.size w wr) (fun i _ => l.length - (intOf i).toNat)
  case atStart => exact ⟨0, rfl, Nat.zero_le _, Below.refl _ _⟩
  case round =>
    obtain ⟨k, rfl, hk, hB⟩ := hrel
    by_cases hlt : k < l.length
    · obtain ⟨gx, ox, rfl, hgx, hcx0⟩ := hx k hlt
      obtain ⟨gy, oy, rfl, hgy, hcy0⟩ := hy k hlt
      have hcx := (hB.cell (p := ⟨gx, ox + k, none⟩) hgx).trans hcx0
      have hcy := (hB.cell (p := ⟨gy, oy + k, none⟩) hgy).trans hcy0
      generalize l[k] = X at *
      clear hcx0 hcy0
      go_wp2
      go_quiet (fail)
      go_wp2
      all_goals
        go_roundw
        case rel => exact ⟨k + 1, by go_num, by omega, below_drewN hB _⟩
        case measure => simp [intOf]; omega
    · go_wp2
      go_ret
      exact ⟨rfl, hB⟩
end Go.Proofs.Ytndkjnehkfleaaa
