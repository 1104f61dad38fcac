import Derived.Test.YtclonjmhbgllkaaDoorAs2
namespace Go.Proofs.YtclonjmhbgllkaaDoor
set_option linter.unusedVariables false
open Go.RowKit Go.Extern.Stop Go.Stop Go.Extern Nm

theorem noAs (v : Value) (xT : TypeId) (w : World) : (Instr.typeAssert (.iface 54 v) xT 80 true).run Tryd.prog w = .ok (.tuple #[.nilIface, .bool false]) w := run_typeAssert_lacksB Tryd.underlying80 (by kernel_rfl) (by kernel_rfl) v xT w
theorem hasUn (v : Value) (xT : TypeId) (w : World) : (Instr.typeAssert (.iface 54 v) xT 83 true).run Tryd.prog w = .ok (.tuple #[.iface 54 v, .bool true]) w := run_typeAssert_hasB Tryd.underlying83 (by kernel_rfl) v xT w
theorem unwrap_any (f : ByteArray) (c l : Nat) (w : World) :
    Calls Tryd.prog 48 #[errA f c l] w fun e w' => e = .returned (.iface 52 (.int .i64 (c : Int))) ∧ w' = w.alloc (.cells #[.string f, .int .i64 (l : Int), .iface 52 (.int .i64 (c : Int))] 54) := by
  unfold errA
  go_enter Tryd.func48, Tryd.ntmps48
  go_wp2
  go_ret
  exact ⟨rfl, rfl⟩

set_option maxHeartbeats 4000000 in
/-- errors.as at a placed error, a *placed for its target -/
theorem asIn_placed (t b : Nat) (f : ByteArray) (c l : Nat) (o0 o1 o2 : Value) (w : World) (hb : w.cell? ⟨b, 0, none⟩ = some (.pointer (some ⟨t, 0, none⟩)))
    (t0 : w.cell? ⟨t, 0, none⟩ = some o0) (t1 : w.cell? ⟨t, 1, none⟩ = some o1) (t2 : w.cell? ⟨t, 2, none⟩ = some o2) (tf : ∀ j, w.frozen? ⟨t, j, none⟩ = false) :
    Calls Tryd.prog 22 #[.iface 54 (errA f c l), .iface 57 (.pointer (some ⟨t, 0, none⟩)), .agg #[.pointer (some ⟨1, 57, none⟩), .pointer (some ⟨b, 0, none⟩), .int .u64 150], .iface 75 (.agg #[.pointer (some ⟨1, 54, none⟩)])] w fun ev w' => ev = .returned (.bool true) ∧
      w'.cell? ⟨t, 0, none⟩ = some (.string f) ∧ w'.cell? ⟨t, 1, none⟩ = some (.int .i64 (l : Int)) ∧ w.grownBy w' (some t) := by
  have h19 := @run_callFunc_extern Tryd.prog 19 _ (fun args => ReflectliteValue.unpack (args.getD 0 (.tuple #[]))) Tryd.func19 (by kernel_rfl) (by kernel_rfl) (by kernel_rfl) (by kernel_rfl)
  have h26 := @run_callFunc_extern Tryd.prog 26 _ ReflectliteType.typeOf Tryd.func26 (by kernel_rfl) (by kernel_rfl) (by kernel_rfl) (by kernel_rfl)
  have h53 := @run_callFunc_extern Tryd.prog 53 _ (ReflectliteType.relation "AssignableTo" ReflectliteType.assignableTo) Tryd.func53 (by kernel_rfl) (by kernel_rfl) (by kernel_rfl) (by kernel_rfl)
  have h27 := @run_callFunc_extern Tryd.prog 27 _ (ReflectliteValue.method (ReflectliteValue.valueError "reflectlite.Value.Elem" 0) ReflectliteValue.elem) Tryd.func27 (by kernel_rfl) (by kernel_rfl) (by kernel_rfl) (by kernel_rfl)
  have h28 := @run_callFunc_extern Tryd.prog 28 _ ReflectliteValue.set Tryd.func28 (by kernel_rfl) (by kernel_rfl) (by kernel_rfl) (by kernel_rfl)
  have mA := mAssignable
  have tO := tOfP
  have a1 := asgPP
  have v1 := vOfP
  have tl : t < w.heap.size := by
    rcases Nat.lt_or_ge t w.heap.size with h | h
    · exact h
    · simp [World.cell?, Array.getElem?_eq_none h] at t0
  obtain ⟨wA, hwA⟩ : ∃ wA, w.alloc (.cells #[.pointer (some ⟨1, 57, none⟩), .pointer (some ⟨b, 0, none⟩), .int .u64 150] 64) = wA := ⟨_, rfl⟩
  have zA : wA.heap.size = w.heap.size + 1 := by rw [← hwA]; simp
  have gA : w.grownBy wA none := hwA ▸ World.grownBy_alloc _ _ _
  have x0 : wA.cell? ⟨w.heap.size, 0, none⟩ = some (.pointer (some ⟨1, 57, none⟩)) := hwA ▸ new_cell rfl _ _ _
  have x1 : wA.cell? ⟨w.heap.size, 1, none⟩ = some (.pointer (some ⟨b, 0, none⟩)) := hwA ▸ new_cell rfl _ _ _
  have x2 : wA.cell? ⟨w.heap.size, 2, none⟩ = some (.int .u64 150) := hwA ▸ new_cell rfl _ _ _
  have hbA : wA.cell? ⟨b, 0, none⟩ = some (.pointer (some ⟨t, 0, none⟩)) := hwA ▸ cell_alloc_l _ hb
  have el := elemVP ⟨b, 0, none⟩ ⟨t, 0, none⟩ wA hbA
  obtain ⟨wB, hwB⟩ : ∃ wB, wA.alloc (.cells #[.string f, .int .i64 (l : Int), .iface 52 (.int .i64 (c : Int))] 54) = wB := ⟨_, rfl⟩
  have gB : w.grownBy wB none := hwB ▸ grown_trans gA (World.grownBy_alloc _ _ _)
  have y0 : wB.cell? ⟨w.heap.size + 1, 0, none⟩ = some (.string f) := hwB ▸ new_cell zA _ _ _
  have y1 : wB.cell? ⟨w.heap.size + 1, 1, none⟩ = some (.int .i64 (l : Int)) := hwB ▸ new_cell zA _ _ _
  have y2 : wB.cell? ⟨w.heap.size + 1, 2, none⟩ = some (.iface 52 (.int .i64 (c : Int))) := hwB ▸ new_cell zA _ _ _
  have u0 := gB.cell t0 (fun e => by cases e)
  have u1 := gB.cell t1 (fun e => by cases e)
  have u2 := gB.cell t2 (fun e => by cases e)
  have uf : ∀ j, wB.frozen? ⟨t, j, none⟩ = false := fun j => (World.frozen?_of_block (gB.block t tl (fun e => by cases e))).trans (tf j)
  have st := setP t (w.heap.size + 1) f l c o0 o1 o2 wB y0 y1 y2 u0 u1 u2 uf
  have HU := hide2 (three_set u0 u1 u2 (.string f) (.int .i64 (l : Int)) (.iface 52 (.int .i64 (c : Int))))
  have HG : Hid (w.grownBy wB (some t)) := ⟨gB.os, gB.tape, gB.output, gB.size, fun k hk _ => gB.block k hk (fun e => by cases e)⟩
  clear y0 y1 y2 u0 u1 u2 uf t0 t1 t2 tf hb hbA gA gB
  simp only [hT, rT] at tO a1 v1 el st
  go_enter Tryd.func22, Tryd.ntmps22
  go_wp2_with fail
  refine wp_loop_rounds 1 ?_
  rw [rounds_succ]
  go_wp2_with fail
  go_ret
  exact ⟨rfl, HU.out.1, HU.out.2.1, grown_trans (grown_trans (grown_trans HG.out (grown_set _ _ _ _)) (grown_set _ _ _ _)) (grown_set _ _ _ _)⟩

set_option maxHeartbeats 4000000 in
/-- errors.as at a placed error, a *wrong for its target -/
theorem asIn_wrong (t b : Nat) (f : ByteArray) (c l : Nat) (o0 : Value) (w : World) (hb : w.cell? ⟨b, 0, none⟩ = some (.pointer (some ⟨t, 0, none⟩)))
    (t0 : w.cell? ⟨t, 0, none⟩ = some o0) (tf : ∀ j, w.frozen? ⟨t, j, none⟩ = false) :
    Calls Tryd.prog 22 #[.iface 54 (errA f c l), .iface 56 (.pointer (some ⟨t, 0, none⟩)), .agg #[.pointer (some ⟨1, 56, none⟩), .pointer (some ⟨b, 0, none⟩), .int .u64 150], .iface 75 (.agg #[.pointer (some ⟨1, 52, none⟩)])] w fun ev w' => ev = .returned (.bool true) ∧
      w'.cell? ⟨t, 0, none⟩ = some (.int .i64 (c : Int)) ∧ w.grownBy w' (some t) := by
  have h19 := @run_callFunc_extern Tryd.prog 19 _ (fun args => ReflectliteValue.unpack (args.getD 0 (.tuple #[]))) Tryd.func19 (by kernel_rfl) (by kernel_rfl) (by kernel_rfl) (by kernel_rfl)
  have h26 := @run_callFunc_extern Tryd.prog 26 _ ReflectliteType.typeOf Tryd.func26 (by kernel_rfl) (by kernel_rfl) (by kernel_rfl) (by kernel_rfl)
  have h53 := @run_callFunc_extern Tryd.prog 53 _ (ReflectliteType.relation "AssignableTo" ReflectliteType.assignableTo) Tryd.func53 (by kernel_rfl) (by kernel_rfl) (by kernel_rfl) (by kernel_rfl)
  have h27 := @run_callFunc_extern Tryd.prog 27 _ (ReflectliteValue.method (ReflectliteValue.valueError "reflectlite.Value.Elem" 0) ReflectliteValue.elem) Tryd.func27 (by kernel_rfl) (by kernel_rfl) (by kernel_rfl) (by kernel_rfl)
  have h28 := @run_callFunc_extern Tryd.prog 28 _ ReflectliteValue.set Tryd.func28 (by kernel_rfl) (by kernel_rfl) (by kernel_rfl) (by kernel_rfl)
  have mA := mAssignable
  have mU := mUnwrap
  have tO := tOfP
  have tO2 := tOfW
  have a1 := asgPW
  have a2 := asgWW
  have v1 := vOfW
  have nA := noAs
  have hU := hasUn
  have HUn := hide2 (fun w => unwrap_any f c l w)
  have tl : t < w.heap.size := by
    rcases Nat.lt_or_ge t w.heap.size with h | h
    · exact h
    · simp [World.cell?, Array.getElem?_eq_none h] at t0
  obtain ⟨wA, hwA⟩ : ∃ wA, w.alloc (.cells #[.pointer (some ⟨1, 56, none⟩), .pointer (some ⟨b, 0, none⟩), .int .u64 150] 64) = wA := ⟨_, rfl⟩
  have zA : wA.heap.size = w.heap.size + 1 := by rw [← hwA]; simp
  have gA : w.grownBy wA none := hwA ▸ World.grownBy_alloc _ _ _
  have hbA : wA.cell? ⟨b, 0, none⟩ = some (.pointer (some ⟨t, 0, none⟩)) := hwA ▸ cell_alloc_l _ hb
  have x0' : wA.cell? ⟨w.heap.size, 0, none⟩ = some (.pointer (some ⟨1, 56, none⟩)) := hwA ▸ new_cell rfl _ _ _
  have x1' : wA.cell? ⟨w.heap.size, 1, none⟩ = some (.pointer (some ⟨b, 0, none⟩)) := hwA ▸ new_cell rfl _ _ _
  have x2' : wA.cell? ⟨w.heap.size, 2, none⟩ = some (.int .u64 150) := hwA ▸ new_cell rfl _ _ _
  obtain ⟨wC, hwC⟩ : ∃ wC, wA.alloc (.cells #[.string f, .int .i64 (l : Int), .iface 52 (.int .i64 (c : Int))] 54) = wC := ⟨_, rfl⟩
  have zC : wC.heap.size = w.heap.size + 2 := by rw [← hwC]; simp [zA]
  have gC : w.grownBy wC none := hwC ▸ grown_trans gA (World.grownBy_alloc _ _ _)
  have x0 : wC.cell? ⟨w.heap.size, 0, none⟩ = some (.pointer (some ⟨1, 56, none⟩)) := hwC ▸ cell_alloc_l _ x0'
  have x1 : wC.cell? ⟨w.heap.size, 1, none⟩ = some (.pointer (some ⟨b, 0, none⟩)) := hwC ▸ cell_alloc_l _ x1'
  have x2 : wC.cell? ⟨w.heap.size, 2, none⟩ = some (.int .u64 150) := hwC ▸ cell_alloc_l _ x2'
  have hbC : wC.cell? ⟨b, 0, none⟩ = some (.pointer (some ⟨t, 0, none⟩)) := hwC ▸ cell_alloc_l _ hbA
  have el := elemVW ⟨b, 0, none⟩ ⟨t, 0, none⟩ wC hbC
  obtain ⟨wB, hwB⟩ : ∃ wB, wC.alloc (.cells #[.int .i64 (c : Int)] 52) = wB := ⟨_, rfl⟩
  have gB : w.grownBy wB none := hwB ▸ grown_trans gC (World.grownBy_alloc _ _ _)
  have y0 : wB.cell? ⟨w.heap.size + 2, 0, none⟩ = some (.int .i64 (c : Int)) := hwB ▸ new_cell zC _ _ _
  have u0 := gB.cell t0 (fun e => by cases e)
  have uf : wB.frozen? ⟨t, 0, none⟩ = false := (World.frozen?_of_block (gB.block t tl (fun e => by cases e))).trans (tf 0)
  have st := setW ⟨t, 0, none⟩ ⟨w.heap.size + 2, 0, none⟩ c o0 wB y0 u0 uf
  have HU : Hid ((wB.setCell ⟨t, 0, none⟩ (.int .i64 (c : Int))).cell? ⟨t, 0, none⟩ = some (.int .i64 (c : Int))) := World.cell?_setCell_same' _ _ _ (by rw [u0]; rfl)
  have HG : Hid (w.grownBy wB (some t)) := ⟨gB.os, gB.tape, gB.output, gB.size, fun k hk _ => gB.block k hk (fun e => by cases e)⟩
  clear y0 u0 uf t0 tf hb hbA gA gB gC hbC x0' x1' x2'
  simp only [hT, rT] at tO tO2 a1 a2 v1 el st
  go_enter Tryd.func22, Tryd.ntmps22
  go_wp2_with fail
  refine wp_loop_rounds 2 ?_
  rw [rounds_succ]
  go_wp2_with (go_at_call 48; refine (HUn.out _).mono ?_; rintro e w2 ⟨rfl, rfl⟩)
  rw [rounds_succ]
  go_wp2_with fail
  go_ret
  exact ⟨rfl, HU.out, grown_trans HG.out (grown_set _ _ _ _)⟩
end Go.Proofs.YtclonjmhbgllkaaDoor
