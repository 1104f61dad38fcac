import Derived.Test.YtfofdcacikbflaaTy2
import Derived.Defers
import Derived.Recover
import Derived.Laws.Pointers
namespace Go.Proofs.Ytfofdcacikbflaa
set_option linter.unusedVariables false
open Go.RowKit Go.Shelf Go.Proofs.Ytfofdcacikbflaa.Nm

set_option maxRecDepth 100000 in
/-- data.faultOf -/
theorem faultOf_none (w : World) :
    Calls Try.prog 26 #[.nilIface] w fun e w' => e = .returned (.agg #[.int .i64 0, .int .i64 0]) ∧ Below w.heap.size w w' := by
  go_enter Try.func26, Try.ntmps26
  go_wp2
  refine bodyPost_ret (v := .agg #[.int .i64 0, .int .i64 0]) ?_ rfl ?_
  · simp [results, Try.results26, go_sem]
  · exact ⟨rfl, (Below.refl _ _).alloc (Nat.le_refl _) _⟩
set_option maxRecDepth 100000 in
theorem faultOf_some (code at_ : Nat) (w : World) :
    Calls Try.prog 26 #[.iface 50 (.agg #[.int .i64 (code : Int), .int .i64 (at_ : Int)])] w fun e w' => e = .returned (.agg #[.int .i64 (code : Int), .int .i64 (at_ : Int)]) ∧ Below w.heap.size w w' := by
  have hta : ∀ (v : Value) (T0 : TypeId) (w : World), (Instr.typeAssert (.iface 50 v) T0 50 true).run Try.prog w = .ok (.tuple #[v, .bool true]) w := fun v T0 w => by
    simp [Instr.typeAssert]
  go_enter Try.func26, Try.ntmps26
  go_wp2
  refine bodyPost_ret (v := .agg #[.int .i64 (code : Int), .int .i64 (at_ : Int)]) ?_ rfl ?_
  · simp [results, Try.results26, go_sem]
  · exact ⟨rfl, ((Below.refl _ _).alloc (Nat.le_refl _) _).alloc (by simp) _⟩

theorem bxBelow {w w' : World} {n B : Nat} {t : TypeId} {v : Value} (h : Boxed w B t v) (hb : Below n w w') (hn : B < n) : Boxed w' B t v := (hb.block B hn).trans h
theorem own_mono {w : World} {base base' e size n : Nat} {v : Value} {xs : List Value} (h : w.ownsRow base e size v n xs) (hb : base' ≤ base) : w.ownsRow base' e size v n xs := by
  obtain ⟨hl, (⟨rfl, h0⟩ | ⟨g, cap, cur, rfl, hg, rest⟩)⟩ := h
  · exact ⟨hl, .inl ⟨rfl, h0⟩⟩
  · exact ⟨hl, .inr ⟨g, cap, cur, rfl, Nat.le_trans hb hg, rest⟩⟩
theorem field_code (a b : Int) (w : World) : (Instr.field 50 (.agg #[.int .i64 a, .int .i64 b]) 0).run Try.prog w = .ok (.int .i64 a) w := by
  simp [Instr.field, run_underlying Try.underlying50, go_sem, asAgg]
theorem below_frozen {n : Nat} {w w' : World} (h : Below n w w') {p : Addr} (hp : p.block < n) : w'.frozen? p = w.frozen? p := by
  unfold World.frozen?; rw [h.block p.block hp]

set_option maxRecDepth 100000 in
/-- data.Types's deferred function, of a frame that panics -/
theorem types1_panicking (p : Addr) (x : Int) (code at_ : Nat) (older : List PanicEntry) (w : World) (hc : w.cell? p = some (.int .i64 x)) (hz : w.frozen? p = false) (hp : p.block < w.heap.size) :
    CallsD Try.prog 39 #[.pointer (some p)] (.panicking ({ v := .iface 50 (.agg #[.int .i64 (code : Int), .int .i64 (at_ : Int)]), recovered := false } :: older)) w fun e u' w' =>
      e = .returned (.tuple #[]) ∧ u' = .panicking ({ v := .iface 50 (.agg #[.int .i64 (code : Int), .int .i64 (at_ : Int)]), recovered := true } :: older) ∧ ∃ w2, Below w.heap.size w w2 ∧ w' = w2.setCell p (.int .i64 (code : Int)) := by
  refine callsD_of_wpS Try.func39 rfl fun c₀ cs hu => ?_
  apply wpS_region
  simp [wpOpsS, go_sem, recoverD, hu, Try.ntmps39]
  refine (faultOf_some code at_ w).mono ?_
  rintro e w2 ⟨rfl, hB2⟩
  have hc2 : w2.cell? p = some (.int .i64 x) := (hB2.cell hp).trans hc
  have hz2 : w2.frozen? p = false := (below_frozen hB2 hp).trans hz
  simp [go_sem, field_code, hc2, hz2, bodyPostS, results, Try.results39]
  exact ⟨w2, hB2, rfl⟩

set_option maxRecDepth 100000 in
/-- .. of a frame that returns -/
theorem types1_idle (p : Addr) (x : Int) (w : World) (hc : w.cell? p = some (.int .i64 x)) (hz : w.frozen? p = false) (hp : p.block < w.heap.size) :
    CallsD Try.prog 39 #[.pointer (some p)] .returning w fun e u' w' => e = .returned (.tuple #[]) ∧ u' = .returning ∧ ∃ w2, Below w.heap.size w w2 ∧ w' = w2.setCell p (.int .i64 0) := by
  refine callsD_of_wpS Try.func39 rfl fun c₀ cs hu => ?_
  apply wpS_region
  simp [wpOpsS, go_sem, recoverD, hu, Try.ntmps39]
  refine (faultOf_none w).mono ?_
  rintro e w2 ⟨rfl, hB2⟩
  have hc2 : w2.cell? p = some (.int .i64 x) := (hB2.cell hp).trans hc
  have hz2 : w2.frozen? p = false := (below_frozen hB2 hp).trans hz
  simp [go_sem, field_code, hc2, hz2, bodyPostS, results, Try.results39]
  exact ⟨_, by cases c₀; simp_all, rfl, w2, hB2, rfl⟩

set_option maxRecDepth 100000 in
set_option maxHeartbeats 1000000 in
/-- data.Types -/
theorem types_yes (s : ByteArray) (l : List Nat) (w : World) (hs : s.size ≤ 1048576) (hl : typB s = some l) :
    Calls Try.prog 18 #[.string s] w fun e w' => ∃ v, e = .returned (.tuple #[v, .int .i64 0]) ∧ w'.ownsRow w.heap.size 3 1 v l.length (nums l) ∧ Below w.heap.size w w' := by
  have hmf : ∀ (fn : Fn) (first cap : Array Value) (w : World), (Instr.makeFunc fn first cap).run Try.prog w = .ok (.func fn first cap) w := fun _ _ _ _ => rfl
  have HT := hide' (fun w => typesOf_any s w hs)
  rw [hl] at HT
  have bx := Boxed.new w 25 (.int .i64 0)
  go_enter_defers Try.func18, Try.ntmps18
  go_wp2_with (go_at_call 40; refine (HT.out _).mono ?_; rintro e w1 ⟨⟨v, rfl, hown⟩, hB1⟩; have bx1 := bxBelow bx hB1 (by simp); have hc1 := bx1.cell; have hf1 := bx1.frozen; obtain ⟨p, c, rfl, hpc, hc9, hsh⟩ := owns_shape hown)
  refine leaves_cons (f := 39) (args := #[.pointer (some ⟨w.heap.size, 0, none⟩)]) (by simp) (by simp [go_sem]) ?_
  have bx2 := bx1.set (.int .i64 0)
  refine (types1_idle ⟨w.heap.size, 0, none⟩ 0 _ bx2.cell bx2.frozen bx2.lt).mono ?_
  rintro e u' w'' ⟨rfl, rfl, w2, hB2, rfl⟩
  have bx3 := (bxBelow bx2 hB2 bx2.lt).set (.int .i64 0)
  have hc3 := bx3.cell
  rw [World.size_alloc] at hown hB1
  have ho1 := ownsRow_setCell_below hown (a := ⟨w.heap.size, 0, none⟩) (by show w.heap.size < w.heap.size + 1; omega) (.int .i64 0)
  have ho3 := ownsRow_setCell_below (ownsRow_below ho1 hB2) (a := ⟨w.heap.size, 0, none⟩) (by show w.heap.size < w.heap.size + 1; omega) (.int .i64 0)
  have hBa : Below w.heap.size w (w1.setCell ⟨w.heap.size, 0, none⟩ (.int .i64 0)) := (((Below.refl _ w).alloc (Nat.le_refl _) _).trans (hB1.mono (by omega))).setCell (p := ⟨w.heap.size, 0, none⟩) (Nat.le_refl _) _
  have hBb : Below w.heap.size w (w2.setCell ⟨w.heap.size, 0, none⟩ (.int .i64 0)) := (hBa.trans (hB2.mono hBa.size)).setCell (p := ⟨w.heap.size, 0, none⟩) (Nat.le_refl _) _
  have hfin : ∃ v, Ending.returned (.tuple #[.slice p l.length c, .int .i64 0]) = Ending.returned (.tuple #[v, .int .i64 0]) ∧ (w2.setCell ⟨w.heap.size, 0, none⟩ (.int .i64 0)).ownsRow w.heap.size 3 1 v l.length (nums l) ∧ Below w.heap.size w (w2.setCell ⟨w.heap.size, 0, none⟩ (.int .i64 0)) :=
    ⟨_, rfl, own_mono ho3 (by omega), hBb⟩
  simp only [Leaves, settle]
  refine ⟨_, ?_, hfin⟩
  simp [results, Try.results18, go_sem, hc3]
end Go.Proofs.Ytfofdcacikbflaa
