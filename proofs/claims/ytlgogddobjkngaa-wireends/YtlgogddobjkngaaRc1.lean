import Derived.Test.YtlgogddobjkngaaThG
import Derived.Defers
import Derived.Recover
import Derived.Laws.Pointers
namespace Go.Proofs.Ytlgogddobjkngaa
set_option linter.unusedVariables false
open Go.RowKit Go.Shelf Go.Proofs.Ytlgogddobjkngaa.Nm

set_option maxRecDepth 100000 in
/-- data.faultOf -/
theorem faultOf_none (w : World) :
    Calls Try.prog 46 #[.nilIface] w fun e w' => e = .returned (.agg #[.int .i64 0, .int .i64 0]) ∧ Below w.heap.size w w' := by
  go_enter Try.func46, Try.ntmps46
  go_wp2
  refine bodyPost_ret (v := .agg #[.int .i64 0, .int .i64 0]) ?_ rfl ?_
  · simp [results, Try.results46, go_sem]
  · exact ⟨rfl, (Below.refl _ _).alloc (Nat.le_refl _) _⟩
set_option maxRecDepth 100000 in
theorem faultOf_some (code at_ : Nat) (w : World) :
    Calls Try.prog 46 #[.iface 108 (.agg #[.int .i64 (code : Int), .int .i64 (at_ : Int)])] w fun e w' => e = .returned (.agg #[.int .i64 (code : Int), .int .i64 (at_ : Int)]) ∧ Below w.heap.size w w' := by
  have hta : ∀ (v : Value) (T0 : TypeId) (w : World), (Instr.typeAssert (.iface 108 v) T0 108 true).run Try.prog w = .ok (.tuple #[v, .bool true]) w := fun v T0 w => by
    simp [Instr.typeAssert]
  go_enter Try.func46, Try.ntmps46
  go_wp2
  refine bodyPost_ret (v := .agg #[.int .i64 (code : Int), .int .i64 (at_ : Int)]) ?_ rfl ?_
  · simp [results, Try.results46, go_sem]
  · exact ⟨rfl, ((Below.refl _ _).alloc (Nat.le_refl _) _).alloc (by simp) _⟩

theorem bxBelow {w w' : World} {n B : Nat} {t : TypeId} {v : Value} (h : Boxed w B t v) (hb : Below n w w') (hn : B < n) : Boxed w' B t v := (hb.block B hn).trans h
theorem own_mono {w : World} {base base' e size n : Nat} {v : Value} {xs : List Value} (h : w.ownsRow base e size v n xs) (hb : base' ≤ base) : w.ownsRow base' e size v n xs := by
  obtain ⟨hl, (⟨rfl, h0⟩ | ⟨g, cap, cur, rfl, hg, rest⟩)⟩ := h
  · exact ⟨hl, .inl ⟨rfl, h0⟩⟩
  · exact ⟨hl, .inr ⟨g, cap, cur, rfl, Nat.le_trans hb hg, rest⟩⟩
theorem field_code (a b : Int) (w : World) : (Instr.field 108 (.agg #[.int .i64 a, .int .i64 b]) 0).run Try.prog w = .ok (.int .i64 a) w := by
  simp [Instr.field, run_underlying Try.underlying108, go_sem, asAgg]
theorem below_frozen {n : Nat} {w w' : World} (h : Below n w w') {p : Addr} (hp : p.block < n) : w'.frozen? p = w.frozen? p := by
  unfold World.frozen?; rw [h.block p.block hp]

end Go.Proofs.Ytlgogddobjkngaa
