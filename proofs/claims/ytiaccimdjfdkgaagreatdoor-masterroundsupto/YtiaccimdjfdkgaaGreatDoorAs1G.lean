import Derived.Test.YtiaccimdjfdkgaaGreatDoorMe1G
import Derived.LaidEql
import Derived.Stop.Asserts
import Derived.RowKitTokens
import Derived.Test.YtiaccimdjfdkgaaGreatDoorMe7G
namespace Go.Proofs.YtiaccimdjfdkgaaGreatDoor
set_option linter.unusedVariables false
open Go.RowKit Go.Extern.Stop Go.Stop Go.Extern Go.Proofs.YtiaccimdjfdkgaaGreatDoor.Nm

/-- errors.As(nil, target) -/
theorem as_nil (t : Value) (w : World) :
    Calls Tryz.prog 24 #[.nilIface, t] w fun e w' => e = .returned (.bool false) ∧ w' = w := by
  go_enter Tryz.func24, Tryz.ntmps24
  go_wp2
  go_ret
  exact ⟨rfl, rfl⟩

def hT (t : TypeId) : Value := .pointer (some ⟨11, t, none⟩)
def rT (t : TypeId) : Value := .iface 147 (.agg #[hT t])

theorem valueOfW (t : Addr) (w : World) : (ReflectliteValue.unpack (.iface 73 (.pointer (some t)))).run Tryz.prog w
    = .ok (.agg #[hT 73, .pointer (some ⟨w.heap.size, 0, none⟩), .int .u64 150]) (w.alloc (.cells #[.pointer (some t)] 73)) := by kernel_rfl
theorem valueOfP (t : Addr) (w : World) : (ReflectliteValue.unpack (.iface 74 (.pointer (some t)))).run Tryz.prog w
    = .ok (.agg #[hT 74, .pointer (some ⟨w.heap.size, 0, none⟩), .int .u64 150]) (w.alloc (.cells #[.pointer (some t)] 74)) := by kernel_rfl
theorem typeW (a : Addr) (w : World) : (ReflectliteValue.methodAny (ReflectliteValue.valueError "reflectlite.Value.Type" 0) (fun t _ _ _ => ReflectliteType.toType t) #[.agg #[hT 73, .pointer (some a), .int .u64 150]]).run Tryz.prog w
    = .ok (rT 73) w := by kernel_rfl
theorem typeP (a : Addr) (w : World) : (ReflectliteValue.methodAny (ReflectliteValue.valueError "reflectlite.Value.Type" 0) (fun t _ _ _ => ReflectliteType.toType t) #[.agg #[hT 74, .pointer (some a), .int .u64 150]]).run Tryz.prog w
    = .ok (rT 74) w := by kernel_rfl
theorem kindW (w : World) : ((ReflectliteType.abiMethod fun t => (fun a : Nat => Value.int IntKind.u8 (a : Int)) <$> Rtype.kind t) #[hT 73]).run Tryz.prog w = .ok (.int .u8 22) w := by kernel_rfl
theorem kindP (w : World) : ((ReflectliteType.abiMethod fun t => (fun a : Nat => Value.int IntKind.u8 (a : Int)) <$> Rtype.kind t) #[hT 74]).run Tryz.prog w = .ok (.int .u8 22) w := by kernel_rfl
theorem kindW2 (w : World) : ((ReflectliteType.abiMethod fun t => (fun a : Nat => Value.int IntKind.u8 (a : Int)) <$> Rtype.kind t) #[hT 42]).run Tryz.prog w = .ok (.int .u8 2) w := by kernel_rfl
theorem kindP2 (w : World) : ((ReflectliteType.abiMethod fun t => (fun a : Nat => Value.int IntKind.u8 (a : Int)) <$> Rtype.kind t) #[hT 71]).run Tryz.prog w = .ok (.int .u8 25) w := by kernel_rfl
theorem mKind (n : Nat) (h : Value) (w : World) : (Go.method (n + 2) 147 (.agg #[h]) "Kind").run Tryz.prog w = .ok (174, h) w := by kernel_rfl
theorem mElem (n : Nat) (h : Value) (w : World) : (Go.method (n + 2) 147 (.agg #[h]) "Elem").run Tryz.prog w = .ok (188, .agg #[h]) w := by kernel_rfl
theorem mImplements (n : Nat) (h : Value) (w : World) : (Go.method (n + 2) 147 (.agg #[h]) "Implements").run Tryz.prog w = .ok (189, .agg #[h]) w := by kernel_rfl
theorem mAssignable (n : Nat) (h : Value) (w : World) : (Go.method (n + 2) 147 (.agg #[h]) "AssignableTo").run Tryz.prog w = .ok (186, .agg #[h]) w := by kernel_rfl
theorem mUnwrap (n : Nat) (h : Value) (w : World) : (Go.method (n + 2) 71 h "Unwrap").run Tryz.prog w = .ok (180, h) w := by kernel_rfl
theorem elemW (w : World) : (ReflectliteType.method ReflectliteType.elem #[.agg #[hT 73]]).run Tryz.prog w = .ok (rT 42) w := by kernel_rfl
theorem elemP (w : World) : (ReflectliteType.method ReflectliteType.elem #[.agg #[hT 74]]).run Tryz.prog w = .ok (rT 71) w := by kernel_rfl
theorem implW (w : World) : (ReflectliteType.relation "Implements" ReflectliteType.implements_ #[.agg #[hT 42], rT 51]).run Tryz.prog w = .ok (.bool true) w := by kernel_rfl
theorem implP (w : World) : (ReflectliteType.relation "Implements" ReflectliteType.implements_ #[.agg #[hT 71], rT 51]).run Tryz.prog w = .ok (.bool true) w := by kernel_rfl
theorem tOfW (v : Value) (w : World) : (ReflectliteType.typeOf #[.iface 42 v]).run Tryz.prog w = .ok (rT 42) w := by kernel_rfl
theorem tOfP (v : Value) (w : World) : (ReflectliteType.typeOf #[.iface 71 v]).run Tryz.prog w = .ok (rT 71) w := by kernel_rfl
theorem asgWW (w : World) : (ReflectliteType.relation "AssignableTo" ReflectliteType.assignableTo #[.agg #[hT 42], rT 42]).run Tryz.prog w = .ok (.bool true) w := by kernel_rfl
theorem asgPP (w : World) : (ReflectliteType.relation "AssignableTo" ReflectliteType.assignableTo #[.agg #[hT 71], rT 71]).run Tryz.prog w = .ok (.bool true) w := by kernel_rfl
theorem asgPW (w : World) : (ReflectliteType.relation "AssignableTo" ReflectliteType.assignableTo #[.agg #[hT 71], rT 42]).run Tryz.prog w = .ok (.bool false) w := by kernel_rfl
theorem vOfW (c : Int) (w : World) : (ReflectliteValue.unpack (.iface 42 (.int .i64 c))).run Tryz.prog w
    = .ok (.agg #[hT 42, .pointer (some ⟨w.heap.size, 0, none⟩), .int .u64 130]) (w.alloc (.cells #[.int .i64 c] 42)) := by kernel_rfl
theorem vOfP (f : ByteArray) (c l : Nat) (w : World) : (ReflectliteValue.unpack (.iface 71 (errA f c l))).run Tryz.prog w
    = .ok (.agg #[hT 71, .pointer (some ⟨w.heap.size, 0, none⟩), .int .u64 153]) (w.alloc (.cells #[.string f, .int .i64 (l : Int), .iface 42 (.int .i64 (c : Int))] 71)) := by kernel_rfl
theorem elemOfW (w : World) : (Rtype.elem? 73).run Tryz.prog w = .ok (some 42) w := by kernel_rfl
theorem elemOfP (w : World) : (Rtype.elem? 74).run Tryz.prog w = .ok (some 71) w := by kernel_rfl
theorem mkW (p : Addr) (w : World) : (ReflectliteValue.mk 42 p ReflectliteValue.flagAddr).run Tryz.prog w = .ok (.agg #[hT 42, .pointer (some p), .int .u64 386]) w := by kernel_rfl
theorem mkP (p : Addr) (w : World) : (ReflectliteValue.mk 71 p ReflectliteValue.flagAddr).run Tryz.prog w = .ok (.agg #[hT 71, .pointer (some p), .int .u64 409]) w := by kernel_rfl
theorem partsW (a : Addr) (w : World) : (ReflectliteValue.parts (.agg #[hT 73, .pointer (some a), .int .u64 150])).run Tryz.prog w = .ok (some (73, a, 150)) w := by kernel_rfl
theorem partsP (a : Addr) (w : World) : (ReflectliteValue.parts (.agg #[hT 74, .pointer (some a), .int .u64 150])).run Tryz.prog w = .ok (some (74, a, 150)) w := by kernel_rfl
theorem isNilW (a p : Addr) (W : World) (ha : W.cell? a = some (.pointer (some p))) :
    (ReflectliteValue.method (ReflectliteValue.valueError "reflectlite.Value.IsNil" 0) ReflectliteValue.isNil #[.agg #[hT 73, .pointer (some a), .int .u64 150]]).run Tryz.prog W = .ok (.bool false) W := by
  change Sem.run Tryz.prog (ReflectliteValue.parts (.agg #[hT 73, .pointer (some a), .int .u64 150]) >>= _) W = _
  simp only [Sem.run_bind, partsW, Result.andThen]
  simp [ReflectliteValue.isNil, loadVar, isAgg, underlying, Tryz.underlying73, ha, Result.andThen]
theorem isNilP (a p : Addr) (W : World) (ha : W.cell? a = some (.pointer (some p))) :
    (ReflectliteValue.method (ReflectliteValue.valueError "reflectlite.Value.IsNil" 0) ReflectliteValue.isNil #[.agg #[hT 74, .pointer (some a), .int .u64 150]]).run Tryz.prog W = .ok (.bool false) W := by
  change Sem.run Tryz.prog (ReflectliteValue.parts (.agg #[hT 74, .pointer (some a), .int .u64 150]) >>= _) W = _
  simp only [Sem.run_bind, partsP, Result.andThen]
  simp [ReflectliteValue.isNil, loadVar, isAgg, underlying, Tryz.underlying74, ha, Result.andThen]
theorem elemVW (a p : Addr) (W : World) (ha : W.cell? a = some (.pointer (some p))) :
    (ReflectliteValue.method (ReflectliteValue.valueError "reflectlite.Value.Elem" 0) ReflectliteValue.elem #[.agg #[hT 73, .pointer (some a), .int .u64 150]]).run Tryz.prog W
      = .ok (.agg #[hT 42, .pointer (some p), .int .u64 386]) W := by
  change Sem.run Tryz.prog (ReflectliteValue.parts (.agg #[hT 73, .pointer (some a), .int .u64 150]) >>= _) W = _
  simp only [Sem.run_bind, partsW, Result.andThen]
  simp [ReflectliteValue.elem, loadVar, isAgg, underlying, Tryz.underlying73, ha, Result.andThen, elemOfW, mkW]
theorem elemVP (a p : Addr) (W : World) (ha : W.cell? a = some (.pointer (some p))) :
    (ReflectliteValue.method (ReflectliteValue.valueError "reflectlite.Value.Elem" 0) ReflectliteValue.elem #[.agg #[hT 74, .pointer (some a), .int .u64 150]]).run Tryz.prog W
      = .ok (.agg #[hT 71, .pointer (some p), .int .u64 409]) W := by
  change Sem.run Tryz.prog (ReflectliteValue.parts (.agg #[hT 74, .pointer (some a), .int .u64 150]) >>= _) W = _
  simp only [Sem.run_bind, partsP, Result.andThen]
  simp [ReflectliteValue.elem, loadVar, isAgg, underlying, Tryz.underlying74, ha, Result.andThen, elemOfP, mkP]
end Go.Proofs.YtiaccimdjfdkgaaGreatDoor

namespace Go.Proofs.YtiaccimdjfdkgaaGreatDoor
set_option linter.unusedVariables false
open Go.RowKit Go.Extern.Stop Go.Stop Go.Extern Go.Proofs.YtiaccimdjfdkgaaGreatDoor.Nm

theorem partsWa (a : Addr) (w : World) : (ReflectliteValue.parts (.agg #[hT 42, .pointer (some a), .int .u64 386])).run Tryz.prog w = .ok (some (42, a, 386)) w := by kernel_rfl
theorem partsWb (a : Addr) (w : World) : (ReflectliteValue.parts (.agg #[hT 42, .pointer (some a), .int .u64 130])).run Tryz.prog w = .ok (some (42, a, 130)) w := by kernel_rfl
theorem partsPa (a : Addr) (w : World) : (ReflectliteValue.parts (.agg #[hT 71, .pointer (some a), .int .u64 409])).run Tryz.prog w = .ok (some (71, a, 409)) w := by kernel_rfl
theorem partsPb (a : Addr) (w : World) : (ReflectliteValue.parts (.agg #[hT 71, .pointer (some a), .int .u64 153])).run Tryz.prog w = .ok (some (71, a, 153)) w := by kernel_rfl
theorem directW (w : World) : (Rtype.directlyAssignable 42 42).run Tryz.prog w = .ok true w := by kernel_rfl
theorem directP (w : World) : (Rtype.directlyAssignable 71 71).run Tryz.prog w = .ok true w := by kernel_rfl
theorem setW (ta b : Addr) (c : Int) (old : Value) (W : World) (hb : W.cell? b = some (.int .i64 c)) (ht : W.cell? ta = some old) (hf : W.frozen? ta = false) :
    (ReflectliteValue.set #[.agg #[hT 42, .pointer (some ta), .int .u64 386], .agg #[hT 42, .pointer (some b), .int .u64 130]]).run Tryz.prog W
      = .ok (.tuple #[]) (W.setCell ta (.int .i64 c)) := by
  change Sem.run Tryz.prog (ReflectliteValue.parts (.agg #[hT 42, .pointer (some ta), .int .u64 386]) >>= fun p => ReflectliteValue.parts (.agg #[hT 42, .pointer (some b), .int .u64 130]) >>= _) W = _
  simp only [Sem.run_bind, partsWa, partsWb, Result.andThen]
  simp [ReflectliteValue.flagAddr, loadVar, isAgg, underlying, Tryz.underlying42, hb, Result.andThen, directW, storeVar, Value.cells, storeCells, Addr.add]
  rw [run_store Tryz.prog W ta _ _ (by rfl)]
  simp [ht, hf]
theorem sizeP (w : World) : (sizeOf 71).run Tryz.prog w = .ok 3 w := by kernel_rfl
theorem setP (t b : Nat) (f : ByteArray) (l c : Int) (o0 o1 o2 : Value) (W : World) (h0 : W.cell? ⟨b, 0, none⟩ = some (.string f)) (h1 : W.cell? ⟨b, 1, none⟩ = some (.int .i64 l)) (h2 : W.cell? ⟨b, 2, none⟩ = some (.iface 42 (.int .i64 c)))
    (t0 : W.cell? ⟨t, 0, none⟩ = some o0) (t1 : W.cell? ⟨t, 1, none⟩ = some o1) (t2 : W.cell? ⟨t, 2, none⟩ = some o2) (hf : ∀ j, W.frozen? ⟨t, j, none⟩ = false) :
    (ReflectliteValue.set #[.agg #[hT 71, .pointer (some ⟨t, 0, none⟩), .int .u64 409], .agg #[hT 71, .pointer (some ⟨b, 0, none⟩), .int .u64 153]]).run Tryz.prog W
      = .ok (.tuple #[]) (((W.setCell ⟨t, 0, none⟩ (.string f)).setCell ⟨t, 1, none⟩ (.int .i64 l)).setCell ⟨t, 2, none⟩ (.iface 42 (.int .i64 c))) := by
  change Sem.run Tryz.prog (ReflectliteValue.parts (.agg #[hT 71, .pointer (some ⟨t, 0, none⟩), .int .u64 409]) >>= fun p => ReflectliteValue.parts (.agg #[hT 71, .pointer (some ⟨b, 0, none⟩), .int .u64 153]) >>= _) W = _
  simp only [Sem.run_bind, partsPa, partsPb, Result.andThen]
  simp [ReflectliteValue.flagAddr, loadVar, isAgg, underlying, Tryz.underlying71, Result.andThen, directP, storeVar]
  have hl : Sem.run Tryz.prog (loadCells ⟨b, 0, none⟩ 3) W = .ok #[.string f, .int .i64 l, .iface 42 (.int .i64 c)] W := by
    simp [loadCells, go_sem, h0, h1, h2, Addr.add]
  rw [hl]
  have k0 : (W.setCell ⟨t, 0, none⟩ (.string f)).cell? ⟨t, 1, none⟩ = some o1 := by rw [World.cell?_setCell_other _ _ _ _ (by intro e; cases e)]; exact t1
  have k1 : ((W.setCell ⟨t, 0, none⟩ (.string f)).setCell ⟨t, 1, none⟩ (.int .i64 l)).cell? ⟨t, 2, none⟩ = some o2 := by rw [World.cell?_setCell_other _ _ _ _ (by intro e; cases e), World.cell?_setCell_other _ _ _ _ (by intro e; cases e)]; exact t2
  simp [Value.cells, storeCells, Addr.add, Result.andThen, go_sem, t0, k0, k1, hf, World.frozen?_setCell]
end Go.Proofs.YtiaccimdjfdkgaaGreatDoor

namespace Go.Proofs.YtiaccimdjfdkgaaGreatDoor
set_option linter.unusedVariables false
open Go.RowKit Go.Extern.Stop Go.Stop Go.Extern Go.Proofs.YtiaccimdjfdkgaaGreatDoor.Nm

theorem noAs (v : Value) (xT : TypeId) (w : World) : (Instr.typeAssert (.iface 71 v) xT 152 true).run Tryz.prog w = .ok (.tuple #[.nilIface, .bool false]) w := run_typeAssert_lacksB Tryz.underlying152 (by kernel_rfl) (by kernel_rfl) v xT w
theorem hasUn (v : Value) (xT : TypeId) (w : World) : (Instr.typeAssert (.iface 71 v) xT 155 true).run Tryz.prog w = .ok (.tuple #[.iface 71 v, .bool true]) w := run_typeAssert_hasB Tryz.underlying155 (by kernel_rfl) v xT w
theorem unwrap_any (f : ByteArray) (c l : Nat) (w : World) :
    Calls Tryz.prog 180 #[errA f c l] w fun e w' => e = .returned (.iface 42 (.int .i64 (c : Int))) ∧ w' = w.alloc (.cells #[.string f, .int .i64 (l : Int), .iface 42 (.int .i64 (c : Int))] 71) := by
  unfold errA
  go_enter Tryz.func180, Tryz.ntmps180
  go_wp2
  go_ret
  exact ⟨rfl, rfl⟩

set_option maxHeartbeats 4000000 in
/-- errors.as at a placed error, a *placed for its target -/
theorem asIn_placed (t b : Nat) (f : ByteArray) (c l : Nat) (o0 o1 o2 : Value) (w : World) (hb : w.cell? ⟨b, 0, none⟩ = some (.pointer (some ⟨t, 0, none⟩)))
    (t0 : w.cell? ⟨t, 0, none⟩ = some o0) (t1 : w.cell? ⟨t, 1, none⟩ = some o1) (t2 : w.cell? ⟨t, 2, none⟩ = some o2) (tf : ∀ j, w.frozen? ⟨t, j, none⟩ = false) :
    Calls Tryz.prog 49 #[.iface 71 (errA f c l), .iface 74 (.pointer (some ⟨t, 0, none⟩)), .agg #[.pointer (some ⟨11, 74, none⟩), .pointer (some ⟨b, 0, none⟩), .int .u64 150], .iface 147 (.agg #[.pointer (some ⟨11, 71, none⟩)])] w fun ev w' => ev = .returned (.bool true) ∧
      w'.cell? ⟨t, 0, none⟩ = some (.string f) ∧ w'.cell? ⟨t, 1, none⟩ = some (.int .i64 (l : Int)) ∧ w.grownBy w' (some t) := by
  have h19 := @run_callFunc_extern Tryz.prog 46 _ (fun args => ReflectliteValue.unpack (args.getD 0 (.tuple #[]))) Tryz.func46 (by kernel_rfl) (by kernel_rfl) (by kernel_rfl) (by kernel_rfl)
  have h26 := @run_callFunc_extern Tryz.prog 69 _ ReflectliteType.typeOf Tryz.func69 (by kernel_rfl) (by kernel_rfl) (by kernel_rfl) (by kernel_rfl)
  have h53 := @run_callFunc_extern Tryz.prog 186 _ (ReflectliteType.relation "AssignableTo" ReflectliteType.assignableTo) Tryz.func186 (by kernel_rfl) (by kernel_rfl) (by kernel_rfl) (by kernel_rfl)
  have h27 := @run_callFunc_extern Tryz.prog 70 _ (ReflectliteValue.method (ReflectliteValue.valueError "reflectlite.Value.Elem" 0) ReflectliteValue.elem) Tryz.func70 (by kernel_rfl) (by kernel_rfl) (by kernel_rfl) (by kernel_rfl)
  have h28 := @run_callFunc_extern Tryz.prog 71 _ ReflectliteValue.set Tryz.func71 (by kernel_rfl) (by kernel_rfl) (by kernel_rfl) (by kernel_rfl)
  have mA := mAssignable
  have tO := tOfP
  have a1 := asgPP
  have v1 := vOfP
  have tl : t < w.heap.size := by
    rcases Nat.lt_or_ge t w.heap.size with h | h
    · exact h
    · simp [World.cell?, Array.getElem?_eq_none h] at t0
  obtain ⟨wA, hwA⟩ : ∃ wA, w.alloc (.cells #[.pointer (some ⟨11, 74, none⟩), .pointer (some ⟨b, 0, none⟩), .int .u64 150] 108) = wA := ⟨_, rfl⟩
  have zA : wA.heap.size = w.heap.size + 1 := by rw [← hwA]; simp
  have gA : w.grownBy wA none := hwA ▸ World.grownBy_alloc _ _ _
  have x0 : wA.cell? ⟨w.heap.size, 0, none⟩ = some (.pointer (some ⟨11, 74, none⟩)) := hwA ▸ new_cell rfl _ _ _
  have x1 : wA.cell? ⟨w.heap.size, 1, none⟩ = some (.pointer (some ⟨b, 0, none⟩)) := hwA ▸ new_cell rfl _ _ _
  have x2 : wA.cell? ⟨w.heap.size, 2, none⟩ = some (.int .u64 150) := hwA ▸ new_cell rfl _ _ _
  have hbA : wA.cell? ⟨b, 0, none⟩ = some (.pointer (some ⟨t, 0, none⟩)) := hwA ▸ cell_alloc_lM _ hb
  have el := elemVP ⟨b, 0, none⟩ ⟨t, 0, none⟩ wA hbA
  obtain ⟨wB, hwB⟩ : ∃ wB, wA.alloc (.cells #[.string f, .int .i64 (l : Int), .iface 42 (.int .i64 (c : Int))] 71) = wB := ⟨_, rfl⟩
  have gB : w.grownBy wB none := hwB ▸ grown_transM gA (World.grownBy_alloc _ _ _)
  have y0 : wB.cell? ⟨w.heap.size + 1, 0, none⟩ = some (.string f) := hwB ▸ new_cell zA _ _ _
  have y1 : wB.cell? ⟨w.heap.size + 1, 1, none⟩ = some (.int .i64 (l : Int)) := hwB ▸ new_cell zA _ _ _
  have y2 : wB.cell? ⟨w.heap.size + 1, 2, none⟩ = some (.iface 42 (.int .i64 (c : Int))) := hwB ▸ new_cell zA _ _ _
  have u0 := gB.cell t0 (fun e => by cases e)
  have u1 := gB.cell t1 (fun e => by cases e)
  have u2 := gB.cell t2 (fun e => by cases e)
  have uf : ∀ j, wB.frozen? ⟨t, j, none⟩ = false := fun j => (World.frozen?_of_block (gB.block t tl (fun e => by cases e))).trans (tf j)
  have st := setP t (w.heap.size + 1) f l c o0 o1 o2 wB y0 y1 y2 u0 u1 u2 uf
  have HU := hide2 (three_set u0 u1 u2 (.string f) (.int .i64 (l : Int)) (.iface 42 (.int .i64 (c : Int))))
  have HG : Hid (w.grownBy wB (some t)) := ⟨gB.os, gB.tape, gB.output, gB.size, fun k hk _ => gB.block k hk (fun e => by cases e)⟩
  clear y0 y1 y2 u0 u1 u2 uf t0 t1 t2 tf hb hbA gA gB
  simp only [hT, rT] at tO a1 v1 el st
  go_enter Tryz.func49, Tryz.ntmps49
  go_wp2_with fail
  refine wp_loop_rounds 1 ?_
  rw [rounds_succ]
  go_wp2_with fail
  go_ret
  exact ⟨rfl, HU.out.1, HU.out.2.1, grown_transM (grown_transM (grown_transM HG.out (grown_setM _ _ _ _)) (grown_setM _ _ _ _)) (grown_setM _ _ _ _)⟩

set_option maxHeartbeats 4000000 in
/-- errors.as at a placed error, a *wrong for its target -/
theorem asIn_wrong (t b : Nat) (f : ByteArray) (c l : Nat) (o0 : Value) (w : World) (hb : w.cell? ⟨b, 0, none⟩ = some (.pointer (some ⟨t, 0, none⟩)))
    (t0 : w.cell? ⟨t, 0, none⟩ = some o0) (tf : ∀ j, w.frozen? ⟨t, j, none⟩ = false) :
    Calls Tryz.prog 49 #[.iface 71 (errA f c l), .iface 73 (.pointer (some ⟨t, 0, none⟩)), .agg #[.pointer (some ⟨11, 73, none⟩), .pointer (some ⟨b, 0, none⟩), .int .u64 150], .iface 147 (.agg #[.pointer (some ⟨11, 42, none⟩)])] w fun ev w' => ev = .returned (.bool true) ∧
      w'.cell? ⟨t, 0, none⟩ = some (.int .i64 (c : Int)) ∧ w.grownBy w' (some t) := by
  have h19 := @run_callFunc_extern Tryz.prog 46 _ (fun args => ReflectliteValue.unpack (args.getD 0 (.tuple #[]))) Tryz.func46 (by kernel_rfl) (by kernel_rfl) (by kernel_rfl) (by kernel_rfl)
  have h26 := @run_callFunc_extern Tryz.prog 69 _ ReflectliteType.typeOf Tryz.func69 (by kernel_rfl) (by kernel_rfl) (by kernel_rfl) (by kernel_rfl)
  have h53 := @run_callFunc_extern Tryz.prog 186 _ (ReflectliteType.relation "AssignableTo" ReflectliteType.assignableTo) Tryz.func186 (by kernel_rfl) (by kernel_rfl) (by kernel_rfl) (by kernel_rfl)
  have h27 := @run_callFunc_extern Tryz.prog 70 _ (ReflectliteValue.method (ReflectliteValue.valueError "reflectlite.Value.Elem" 0) ReflectliteValue.elem) Tryz.func70 (by kernel_rfl) (by kernel_rfl) (by kernel_rfl) (by kernel_rfl)
  have h28 := @run_callFunc_extern Tryz.prog 71 _ ReflectliteValue.set Tryz.func71 (by kernel_rfl) (by kernel_rfl) (by kernel_rfl) (by kernel_rfl)
  have mA := mAssignable
  have mU := mUnwrap
  have tO := tOfP
  have tO2 := tOfW
  have a1 := asgPW
  have a2 := asgWW
  have v1 := vOfW
  have nA := noAs
  have hU := hasUn
  have HUn := hide2 (fun w => unwrap_any f c l w)
  have tl : t < w.heap.size := by
    rcases Nat.lt_or_ge t w.heap.size with h | h
    · exact h
    · simp [World.cell?, Array.getElem?_eq_none h] at t0
  obtain ⟨wA, hwA⟩ : ∃ wA, w.alloc (.cells #[.pointer (some ⟨11, 73, none⟩), .pointer (some ⟨b, 0, none⟩), .int .u64 150] 108) = wA := ⟨_, rfl⟩
  have zA : wA.heap.size = w.heap.size + 1 := by rw [← hwA]; simp
  have gA : w.grownBy wA none := hwA ▸ World.grownBy_alloc _ _ _
  have hbA : wA.cell? ⟨b, 0, none⟩ = some (.pointer (some ⟨t, 0, none⟩)) := hwA ▸ cell_alloc_lM _ hb
  have x0' : wA.cell? ⟨w.heap.size, 0, none⟩ = some (.pointer (some ⟨11, 73, none⟩)) := hwA ▸ new_cell rfl _ _ _
  have x1' : wA.cell? ⟨w.heap.size, 1, none⟩ = some (.pointer (some ⟨b, 0, none⟩)) := hwA ▸ new_cell rfl _ _ _
  have x2' : wA.cell? ⟨w.heap.size, 2, none⟩ = some (.int .u64 150) := hwA ▸ new_cell rfl _ _ _
  obtain ⟨wC, hwC⟩ : ∃ wC, wA.alloc (.cells #[.string f, .int .i64 (l : Int), .iface 42 (.int .i64 (c : Int))] 71) = wC := ⟨_, rfl⟩
  have zC : wC.heap.size = w.heap.size + 2 := by rw [← hwC]; simp [zA]
  have gC : w.grownBy wC none := hwC ▸ grown_transM gA (World.grownBy_alloc _ _ _)
  have x0 : wC.cell? ⟨w.heap.size, 0, none⟩ = some (.pointer (some ⟨11, 73, none⟩)) := hwC ▸ cell_alloc_lM _ x0'
  have x1 : wC.cell? ⟨w.heap.size, 1, none⟩ = some (.pointer (some ⟨b, 0, none⟩)) := hwC ▸ cell_alloc_lM _ x1'
  have x2 : wC.cell? ⟨w.heap.size, 2, none⟩ = some (.int .u64 150) := hwC ▸ cell_alloc_lM _ x2'
  have hbC : wC.cell? ⟨b, 0, none⟩ = some (.pointer (some ⟨t, 0, none⟩)) := hwC ▸ cell_alloc_lM _ hbA
  have el := elemVW ⟨b, 0, none⟩ ⟨t, 0, none⟩ wC hbC
  obtain ⟨wB, hwB⟩ : ∃ wB, wC.alloc (.cells #[.int .i64 (c : Int)] 42) = wB := ⟨_, rfl⟩
  have gB : w.grownBy wB none := hwB ▸ grown_transM gC (World.grownBy_alloc _ _ _)
  have y0 : wB.cell? ⟨w.heap.size + 2, 0, none⟩ = some (.int .i64 (c : Int)) := hwB ▸ new_cell zC _ _ _
  have u0 := gB.cell t0 (fun e => by cases e)
  have uf : wB.frozen? ⟨t, 0, none⟩ = false := (World.frozen?_of_block (gB.block t tl (fun e => by cases e))).trans (tf 0)
  have st := setW ⟨t, 0, none⟩ ⟨w.heap.size + 2, 0, none⟩ c o0 wB y0 u0 uf
  have HU : Hid ((wB.setCell ⟨t, 0, none⟩ (.int .i64 (c : Int))).cell? ⟨t, 0, none⟩ = some (.int .i64 (c : Int))) := World.cell?_setCell_same' _ _ _ (by rw [u0]; rfl)
  have HG : Hid (w.grownBy wB (some t)) := ⟨gB.os, gB.tape, gB.output, gB.size, fun k hk _ => gB.block k hk (fun e => by cases e)⟩
  clear y0 u0 uf t0 tf hb hbA gA gB gC hbC x0' x1' x2'
  simp only [hT, rT] at tO tO2 a1 a2 v1 el st
  go_enter Tryz.func49, Tryz.ntmps49
  go_wp2_with fail
  refine wp_loop_rounds 2 ?_
  rw [rounds_succ]
  go_wp2_with (go_at_call 180; refine (HUn.out _).mono ?_; rintro e w2 ⟨rfl, rfl⟩)
  rw [rounds_succ]
  go_wp2_with fail
  go_ret
  exact ⟨rfl, HU.out, grown_transM HG.out (grown_setM _ _ _ _)⟩
end Go.Proofs.YtiaccimdjfdkgaaGreatDoor

namespace Go.Proofs.YtiaccimdjfdkgaaGreatDoor
set_option linter.unusedVariables false
open Go.RowKit Go.Extern.Stop Go.Stop Go.Extern Go.Proofs.YtiaccimdjfdkgaaGreatDoor.Nm

set_option maxHeartbeats 4000000 in
/-- errors.As at a placed error, a *placed for its target -/
theorem as_placed (t : Nat) (f : ByteArray) (c l : Nat) (o0 o1 o2 : Value) (w : World) (hg : w.cell? ⟨1, 0, none⟩ = some (.iface 147 (.agg #[hT 51])))
    (t0 : w.cell? ⟨t, 0, none⟩ = some o0) (t1 : w.cell? ⟨t, 1, none⟩ = some o1) (t2 : w.cell? ⟨t, 2, none⟩ = some o2) (tf : ∀ j, w.frozen? ⟨t, j, none⟩ = false) :
    Calls Tryz.prog 24 #[.iface 71 (errA f c l), .iface 74 (.pointer (some ⟨t, 0, none⟩))] w fun ev w' => ev = .returned (.bool true) ∧
      w'.cell? ⟨t, 0, none⟩ = some (.string f) ∧ w'.cell? ⟨t, 1, none⟩ = some (.int .i64 (l : Int)) ∧ w.grownBy w' (some t) := by
  have h19 := @run_callFunc_extern Tryz.prog 46 _ (fun args => ReflectliteValue.unpack (args.getD 0 (.tuple #[]))) Tryz.func46 (by kernel_rfl) (by kernel_rfl) (by kernel_rfl) (by kernel_rfl)
  have h20 := @run_callFunc_extern Tryz.prog 47 _ (ReflectliteValue.methodAny (ReflectliteValue.valueError "reflectlite.Value.Type" 0) (fun t _ _ _ => ReflectliteType.toType t)) Tryz.func47 (by kernel_rfl) (by kernel_rfl) (by kernel_rfl) (by kernel_rfl)
  have h21 := @run_callFunc_extern Tryz.prog 48 _ (ReflectliteValue.method (ReflectliteValue.valueError "reflectlite.Value.IsNil" 0) ReflectliteValue.isNil) Tryz.func48 (by kernel_rfl) (by kernel_rfl) (by kernel_rfl) (by kernel_rfl)
  have h43 := @run_callFunc_extern Tryz.prog 174 _ (ReflectliteType.abiMethod fun t => do pure (.int .u8 (← Rtype.kind t))) Tryz.func174 (by kernel_rfl) (by kernel_rfl) (by kernel_rfl) (by kernel_rfl)
  have h55 := @run_callFunc_extern Tryz.prog 188 _ (ReflectliteType.method ReflectliteType.elem) Tryz.func188 (by kernel_rfl) (by kernel_rfl) (by kernel_rfl) (by kernel_rfl)
  have h56 := @run_callFunc_extern Tryz.prog 189 _ (ReflectliteType.relation "Implements" ReflectliteType.implements_) Tryz.func189 (by kernel_rfl) (by kernel_rfl) (by kernel_rfl) (by kernel_rfl)
  have f6 := valueOfP
  have f7 := typeP
  have mK := mKind
  have mE := mElem
  have mI := mImplements
  have k1 := kindP
  have k2 := kindP2
  have e1 := elemP
  have i1 := implP
  have tl : t < w.heap.size := by
    rcases Nat.lt_or_ge t w.heap.size with h | h
    · exact h
    · simp [World.cell?, Array.getElem?_eq_none h] at t0
  obtain ⟨wA, hwA⟩ : ∃ wA, w.alloc (.cells #[.pointer (some ⟨t, 0, none⟩)] 74) = wA := ⟨_, rfl⟩
  have zA : wA.heap.size = w.heap.size + 1 := by rw [← hwA]; simp
  have gA : w.grownBy wA none := hwA ▸ World.grownBy_alloc _ _ _
  have pA : wA.cell? ⟨w.heap.size, 0, none⟩ = some (.pointer (some ⟨t, 0, none⟩)) := hwA ▸ new_cell rfl _ _ _
  obtain ⟨wB, hwB⟩ : ∃ wB, wA.alloc (.cells #[hT 74, .pointer (some ⟨w.heap.size, 0, none⟩), .int .u64 150] 108) = wB := ⟨_, rfl⟩
  have zB : wB.heap.size = w.heap.size + 2 := by rw [← hwB]; simp [zA]
  have gB : w.grownBy wB none := hwB ▸ grown_transM gA (World.grownBy_alloc _ _ _)
  have b0 : wB.cell? ⟨w.heap.size + 1, 0, none⟩ = some (hT 74) := hwB ▸ new_cell zA _ _ _
  have b1 : wB.cell? ⟨w.heap.size + 1, 1, none⟩ = some (.pointer (some ⟨w.heap.size, 0, none⟩)) := hwB ▸ new_cell zA _ _ _
  have b2 : wB.cell? ⟨w.heap.size + 1, 2, none⟩ = some (.int .u64 150) := hwB ▸ new_cell zA _ _ _
  have hgB : wB.cell? ⟨1, 0, none⟩ = some (.iface 147 (.agg #[hT 51])) := gB.cell hg (fun e => by cases e)
  have pB : wB.cell? ⟨w.heap.size, 0, none⟩ = some (.pointer (some ⟨t, 0, none⟩)) := hwB ▸ cell_alloc_lM _ pA
  have n8 := isNilP ⟨w.heap.size, 0, none⟩ ⟨t, 0, none⟩ wB pB
  have HAs := hide2 (asIn_placed t w.heap.size f c l o0 o1 o2 wB pB (gB.cell t0 (fun e => by cases e)) (gB.cell t1 (fun e => by cases e)) (gB.cell t2 (fun e => by cases e)) (fun j => (World.frozen?_of_block (gB.block t tl (fun e => by cases e))).trans (tf j)))
  have HGB : Hid (w.grownBy wB (some t)) := ⟨gB.os, gB.tape, gB.output, gB.size, fun k hk _ => gB.block k hk (fun e => by cases e)⟩
  clear gB gA t0 t1 t2 tf
  simp only [hT, rT] at f6 f7 k1 k2 e1 i1 hwB b0 hgB n8 hg
  go_enter Tryz.func24, Tryz.ntmps24
  go_wp2_with (go_at_call 49; refine (HAs.out).mono ?_; rintro e w2 ⟨rfl, q0, q1, hg2⟩)
  go_ret
  exact ⟨rfl, q0, q1, grown_transM HGB.out hg2⟩

set_option maxHeartbeats 4000000 in
/-- errors.As at a placed error, a *wrong for its target -/
theorem as_wrong (t : Nat) (f : ByteArray) (c l : Nat) (o0 : Value) (w : World) (hg : w.cell? ⟨1, 0, none⟩ = some (.iface 147 (.agg #[hT 51])))
    (t0 : w.cell? ⟨t, 0, none⟩ = some o0) (tf : ∀ j, w.frozen? ⟨t, j, none⟩ = false) :
    Calls Tryz.prog 24 #[.iface 71 (errA f c l), .iface 73 (.pointer (some ⟨t, 0, none⟩))] w fun ev w' => ev = .returned (.bool true) ∧
      w'.cell? ⟨t, 0, none⟩ = some (.int .i64 (c : Int)) ∧ w.grownBy w' (some t) := by
  have h19 := @run_callFunc_extern Tryz.prog 46 _ (fun args => ReflectliteValue.unpack (args.getD 0 (.tuple #[]))) Tryz.func46 (by kernel_rfl) (by kernel_rfl) (by kernel_rfl) (by kernel_rfl)
  have h20 := @run_callFunc_extern Tryz.prog 47 _ (ReflectliteValue.methodAny (ReflectliteValue.valueError "reflectlite.Value.Type" 0) (fun t _ _ _ => ReflectliteType.toType t)) Tryz.func47 (by kernel_rfl) (by kernel_rfl) (by kernel_rfl) (by kernel_rfl)
  have h21 := @run_callFunc_extern Tryz.prog 48 _ (ReflectliteValue.method (ReflectliteValue.valueError "reflectlite.Value.IsNil" 0) ReflectliteValue.isNil) Tryz.func48 (by kernel_rfl) (by kernel_rfl) (by kernel_rfl) (by kernel_rfl)
  have h43 := @run_callFunc_extern Tryz.prog 174 _ (ReflectliteType.abiMethod fun t => do pure (.int .u8 (← Rtype.kind t))) Tryz.func174 (by kernel_rfl) (by kernel_rfl) (by kernel_rfl) (by kernel_rfl)
  have h55 := @run_callFunc_extern Tryz.prog 188 _ (ReflectliteType.method ReflectliteType.elem) Tryz.func188 (by kernel_rfl) (by kernel_rfl) (by kernel_rfl) (by kernel_rfl)
  have h56 := @run_callFunc_extern Tryz.prog 189 _ (ReflectliteType.relation "Implements" ReflectliteType.implements_) Tryz.func189 (by kernel_rfl) (by kernel_rfl) (by kernel_rfl) (by kernel_rfl)
  have f6 := valueOfW
  have f7 := typeW
  have mK := mKind
  have mE := mElem
  have mI := mImplements
  have k1 := kindW
  have k2 := kindW2
  have e1 := elemW
  have i1 := implW
  have tl : t < w.heap.size := by
    rcases Nat.lt_or_ge t w.heap.size with h | h
    · exact h
    · simp [World.cell?, Array.getElem?_eq_none h] at t0
  obtain ⟨wA, hwA⟩ : ∃ wA, w.alloc (.cells #[.pointer (some ⟨t, 0, none⟩)] 73) = wA := ⟨_, rfl⟩
  have zA : wA.heap.size = w.heap.size + 1 := by rw [← hwA]; simp
  have gA : w.grownBy wA none := hwA ▸ World.grownBy_alloc _ _ _
  have pA : wA.cell? ⟨w.heap.size, 0, none⟩ = some (.pointer (some ⟨t, 0, none⟩)) := hwA ▸ new_cell rfl _ _ _
  obtain ⟨wB, hwB⟩ : ∃ wB, wA.alloc (.cells #[hT 73, .pointer (some ⟨w.heap.size, 0, none⟩), .int .u64 150] 108) = wB := ⟨_, rfl⟩
  have zB : wB.heap.size = w.heap.size + 2 := by rw [← hwB]; simp [zA]
  have gB : w.grownBy wB none := hwB ▸ grown_transM gA (World.grownBy_alloc _ _ _)
  have b0 : wB.cell? ⟨w.heap.size + 1, 0, none⟩ = some (hT 73) := hwB ▸ new_cell zA _ _ _
  have b1 : wB.cell? ⟨w.heap.size + 1, 1, none⟩ = some (.pointer (some ⟨w.heap.size, 0, none⟩)) := hwB ▸ new_cell zA _ _ _
  have b2 : wB.cell? ⟨w.heap.size + 1, 2, none⟩ = some (.int .u64 150) := hwB ▸ new_cell zA _ _ _
  have hgB : wB.cell? ⟨1, 0, none⟩ = some (.iface 147 (.agg #[hT 51])) := gB.cell hg (fun e => by cases e)
  have pB : wB.cell? ⟨w.heap.size, 0, none⟩ = some (.pointer (some ⟨t, 0, none⟩)) := hwB ▸ cell_alloc_lM _ pA
  have n8 := isNilW ⟨w.heap.size, 0, none⟩ ⟨t, 0, none⟩ wB pB
  have HAs := hide2 (asIn_wrong t w.heap.size f c l o0 wB pB (gB.cell t0 (fun e => by cases e)) (fun j => (World.frozen?_of_block (gB.block t tl (fun e => by cases e))).trans (tf j)))
  have HGB : Hid (w.grownBy wB (some t)) := ⟨gB.os, gB.tape, gB.output, gB.size, fun k hk _ => gB.block k hk (fun e => by cases e)⟩
  clear gB gA t0 tf
  simp only [hT, rT] at f6 f7 k1 k2 e1 i1 hwB b0 hgB n8 hg
  go_enter Tryz.func24, Tryz.ntmps24
  go_wp2_with (go_at_call 49; refine (HAs.out).mono ?_; rintro e w2 ⟨rfl, q0, hg2⟩)
  go_ret
  exact ⟨rfl, q0, grown_transM HGB.out hg2⟩
end Go.Proofs.YtiaccimdjfdkgaaGreatDoor

namespace Go.Proofs.YtiaccimdjfdkgaaGreatDoor
set_option linter.unusedVariables false
open Go.RowKit Go.Shelf Go.Proofs.YtiaccimdjfdkgaaGreatDoor.Nm

/-- what the variable errors.errorType holds -/
def GE (w : World) : Prop := w.cell? ⟨1, 0, none⟩ = some (.iface 147 (.agg #[hT 51]))
theorem GE.lt {w : World} (h : GE w) : 1 < w.heap.size := by
  rcases Nat.lt_or_ge 1 w.heap.size with h1 | h1
  · exact h1
  · unfold GE at h
    simp [World.cell?, Array.getElem?_eq_none h1] at h
theorem GE.below {w w' : World} (h : GE w) (hb : Below w.heap.size w w') : GE w' := (hb.cell (p := ⟨1, 0, none⟩) h.lt).trans h

theorem below_far {B : Nat} {a b : World} (h : Below B a b) {R : Nat} (hR : B ≤ R) (j : Nat) (u : Value) : Below B a (b.setCell ⟨R, j, none⟩ u) :=
  ⟨h.os, h.tape, h.output, by rw [set_sizeM]; exact h.size, fun k hk => (Below.heap_setCell _ _ _ k (by show k ≠ R; omega)).trans (h.block k hk)⟩

set_option maxHeartbeats 2000000 in
theorem faultOf_nil (w : World) : Calls Tryz.prog 12 #[.nilIface] w fun e w' => e = .returned (.agg #[.int .i64 0, .string ⟨#[]⟩, .int .i64 0]) ∧ Below w.heap.size w w' := by
  go_enter Tryz.func12, Tryz.ntmps12
  go_wp2_with (go_at_call 24; refine (as_nil _ _).mono ?_; rintro e w2 ⟨rfl, rfl⟩)
  refine bodyPost_ret (v := .agg #[.int .i64 0, .string ⟨#[]⟩, .int .i64 0]) ?_ rfl ⟨rfl, ?_⟩
  · simp [results, go_sem]
  · exact (((Below.refl _ w).alloc (Nat.le_refl _) _).alloc (by simp) _).alloc (by simp; omega) _

set_option maxHeartbeats 2000000 in
theorem faultOf_err (f : ByteArray) (c l : Nat) (w : World) (hG : GE w) : Calls Tryz.prog 12 #[.iface 71 (errA f c l)] w fun e w' => e = .returned (.agg #[.int .i64 (c : Int), .string f, .int .i64 (l : Int)]) ∧ Below w.heap.size w w' := by
  have hG0 := hG.lt
  obtain ⟨wA, hwA⟩ : ∃ wA, w.alloc (.cells #[.int .i64 0, .string ⟨#[]⟩, .int .i64 0] 26) = wA := ⟨_, rfl⟩
  have zA : wA.heap.size = w.heap.size + 1 := by rw [← hwA]; simp
  have BA : Below w.heap.size w wA := hwA ▸ (Below.refl _ w).alloc (Nat.le_refl _) _
  obtain ⟨wB, hwB⟩ : ∃ wB, wA.alloc (.cells #[.int .i64 0] 42) = wB := ⟨_, rfl⟩
  have zB : wB.heap.size = w.heap.size + 2 := by rw [← hwB]; simp [zA]
  have BB : Below w.heap.size w wB := hwB ▸ BA.alloc (by omega) _
  obtain ⟨wC, hwC⟩ : ∃ wC, wB.alloc (.cells #[.string ⟨#[]⟩, .int .i64 0, .nilIface] 71) = wC := ⟨_, rfl⟩
  have zC : wC.heap.size = w.heap.size + 3 := by rw [← hwC]; simp [zB]
  have BC : Below w.heap.size w wC := hwC ▸ BB.alloc (by omega) _
  have hGC : GE wC := hG.below BC
  have a0' : wA.cell? ⟨w.heap.size, 0, none⟩ = some (.int .i64 0) := hwA ▸ new_cell rfl _ _ _
  have a1' : wA.cell? ⟨w.heap.size, 1, none⟩ = some (.string ⟨#[]⟩) := hwA ▸ new_cell rfl _ _ _
  have a2' : wA.cell? ⟨w.heap.size, 2, none⟩ = some (.int .i64 0) := hwA ▸ new_cell rfl _ _ _
  have a0 : wC.cell? ⟨w.heap.size, 0, none⟩ = some (.int .i64 0) := hwC ▸ cell_alloc_lM _ (hwB ▸ cell_alloc_lM _ a0')
  have a1 : wC.cell? ⟨w.heap.size, 1, none⟩ = some (.string ⟨#[]⟩) := hwC ▸ cell_alloc_lM _ (hwB ▸ cell_alloc_lM _ a1')
  have a2 : wC.cell? ⟨w.heap.size, 2, none⟩ = some (.int .i64 0) := hwC ▸ cell_alloc_lM _ (hwB ▸ cell_alloc_lM _ a2')
  have af : ∀ j, wC.frozen? ⟨w.heap.size, j, none⟩ = false := fun j => by
    have e1 : wC.heap[w.heap.size]? = wA.heap[w.heap.size]? := by
      rw [← hwC, ← hwB]
      exact (((Below.refl _ wA).alloc (Nat.le_refl _) _).alloc (by simp) _).block _ (by omega)
    rw [World.frozen?_of_block (a := ⟨w.heap.size, j, none⟩) e1]
    exact hwA ▸ new_free rfl _ _ _
  have b0 : wC.cell? ⟨w.heap.size + 1, 0, none⟩ = some (.int .i64 0) := hwC ▸ cell_alloc_lM _ (hwB ▸ new_cell zA _ _ _)
  have bf : ∀ j, wC.frozen? ⟨w.heap.size + 1, j, none⟩ = false := fun j => by
    have e1 : wC.heap[w.heap.size + 1]? = wB.heap[w.heap.size + 1]? := by
      rw [← hwC]
      exact ((Below.refl _ wB).alloc (Nat.le_refl _) _).block _ (by omega)
    rw [World.frozen?_of_block (a := ⟨w.heap.size + 1, j, none⟩) e1]
    exact hwB ▸ new_free zA _ _ _
  have c0 : wC.cell? ⟨w.heap.size + 2, 0, none⟩ = some (.string ⟨#[]⟩) := hwC ▸ new_cell zB _ _ _
  have c1 : wC.cell? ⟨w.heap.size + 2, 1, none⟩ = some (.int .i64 0) := hwC ▸ new_cell zB _ _ _
  have c2 : wC.cell? ⟨w.heap.size + 2, 2, none⟩ = some .nilIface := hwC ▸ new_cell zB _ _ _
  have cf : ∀ j, wC.frozen? ⟨w.heap.size + 2, j, none⟩ = false := fun j => hwC ▸ new_free zB _ _ _
  have H1 := hide2 (as_wrong (w.heap.size + 1) f c l _ wC hGC b0 bf)
  clear a0' a1' a2' b0 bf
  go_enter Tryz.func12, Tryz.ntmps12
  go_upto_region 4 with (go_at_call 24; refine H1.out.mono ?_; rintro e w2 ⟨rfl, q0, hg2⟩)
  have hz2 := hg2.size
  have H2 := hide2 (as_placed (w.heap.size + 2) f c l _ _ _ w2 (far_cell hg2 (by omega) hGC) (far_cell hg2 (by omega) c0) (far_cell hg2 (by omega) c1) (far_cell hg2 (by omega) c2) (fun j => far_free hg2 (by omega) (by omega) (cf j)))
  have r0' := far_cell hg2 (by omega) a0
  have r1' := far_cell hg2 (by omega) a1
  have r2' := far_cell hg2 (by omega) a2
  have rf' := fun j => far_free hg2 (by omega) (by omega) (af j)
  have HB2 : Hid (Below w.heap.size w w2) := BC.grown hg2 (by omega) (fun q hq => by injection hq with hq; omega)
  clear c0 c1 c2 cf a0 a1 a2 af hg2 BA BB BC hwA hwB hwC
  go_wp2_with (go_at_call 24; refine H2.out.mono ?_; rintro e w3 ⟨rfl, s0, s1, hg3⟩; have q0' := far_cell hg3 (by omega) q0; have r0 := far_cell hg3 (by omega) r0'; have r1 := far_cell hg3 (by omega) r1'; have r2 := far_cell hg3 (by omega) r2'; have z0 := far_free hg3 (by omega) (by omega) (rf' 0); have z1 := far_free hg3 (by omega) (by omega) (rf' 1); have z2 := far_free hg3 (by omega) (by omega) (rf' 2); have HB3 := hide2 (HB2.out.grown hg3 (by omega) (fun q hq => by injection hq with hq; omega)); clear hg3)
  obtain ⟨e0, e1, e2⟩ := three_set r0 r1 r2 (.int .i64 (c : Int)) (.string f) (.int .i64 (l : Int))
  refine bodyPost_ret (v := .agg #[.int .i64 (c : Int), .string f, .int .i64 (l : Int)]) (by simp [results, go_sem, e0, e1, e2]) rfl ⟨rfl, ?_⟩
  exact below_far (below_far (below_far HB3.out (Nat.le_refl _) _ _) (Nat.le_refl _) _ _) (Nat.le_refl _) _ _

def faultV (c l : Nat) : Value := .agg #[.int .i64 (c : Int), .string ⟨#[]⟩, .int .i64 (l : Int)]
def entriesEnd (r : Rs) (w : World) (e : Ending) (w' : World) : Prop :=
  match r with
  | .inr L => ∃ p c, e = .returned (.tuple #[.slice p L.length c, .agg #[.int .i64 0, .string ⟨#[]⟩, .int .i64 0]]) ∧ EL w' w.heap.size (.slice p L.length c) L ∧ Below w.heap.size w w'
  | .inl (c, l) => e = .returned (.tuple #[.slice none 0 0, .agg #[.int .i64 (c : Int), .string ⟨#[]⟩, .int .i64 (l : Int)]]) ∧ Below w.heap.size w w'
theorem EL.shape {w : World} {base : Nat} {v : Value} {L : List En} (h : EL w base v L) : ∃ p c, v = .slice p L.length c ∧ L.length ≤ c ∧ c ≤ maxLen := by
  obtain ⟨Z, rfl, hZ⟩ := h
  obtain ⟨p, c, rfl, h1, h2, _⟩ := owns_shape2 hZ.own
  exact ⟨p, c, by simp, by simpa using h1, h2⟩
theorem EL.below {w w' : World} {base : Nat} {v : Value} {L : List En} (h : EL w base v L) (hb : Below w.heap.size w w') : EL w' base v L := by
  obtain ⟨Z, h1, h2⟩ := h; exact ⟨Z, h1, h2.below hb⟩
theorem EZ.far {w : World} {base R : Nat} {v : Value} {Z : List Ez} (h : EZ w base v Z) (hR : R < base) (j : Nat) (u : Value) : EZ (w.setCell ⟨R, j, none⟩ u) base v Z := h.grown (grown_setM _ _ _ _) hR
theorem EL.base {w : World} {base base' : Nat} {v : Value} {L : List En} (h : EL w base v L) (hb : base' ≤ base) : EL w base' v L := by
  obtain ⟨Z, h1, h2⟩ := h
  exact ⟨Z, h1, ⟨owns_base h2.own hb, fun z hz => owns_base (h2.rows z hz) hb, h2.apart, h2.asc⟩⟩

end Go.Proofs.YtiaccimdjfdkgaaGreatDoor

/-
  errors.As at an error that has no place; faultOf of it. (The verifier's own text.)
-/
namespace Go.Proofs.YtiaccimdjfdkgaaGreatDoor
set_option linter.unusedVariables false
open Go.RowKit Go.Extern.Stop Go.Stop Go.Extern Go.Proofs.YtiaccimdjfdkgaaGreatDoor.Nm

theorem noAsW (v : Value) (xT : TypeId) (w : World) : (Instr.typeAssert (.iface 42 v) xT 152 true).run Tryz.prog w = .ok (.tuple #[.nilIface, .bool false]) w := run_typeAssert_lacksB Tryz.underlying152 (by kernel_rfl) (by kernel_rfl) v xT w
theorem noUnW (v : Value) (xT : TypeId) (w : World) : (Instr.typeAssert (.iface 42 v) xT 155 true).run Tryz.prog w = .ok (.tuple #[.nilIface, .bool false]) w := run_typeAssert_lacksB Tryz.underlying155 (by kernel_rfl) (by kernel_rfl) v xT w
theorem noUlW (v : Value) (xT : TypeId) (w : World) : (Instr.typeAssert (.iface 42 v) xT 157 true).run Tryz.prog w = .ok (.tuple #[.nilIface, .bool false]) w := run_typeAssert_lacksB Tryz.underlying157 (by kernel_rfl) (by kernel_rfl) v xT w
theorem asgWP (w : World) : (ReflectliteType.relation "AssignableTo" ReflectliteType.assignableTo #[.agg #[hT 42], rT 71]).run Tryz.prog w = .ok (.bool false) w := by kernel_rfl

set_option maxHeartbeats 4000000 in
/-- errors.as at an error with no place, a *wrong for its target -/
theorem asIn_bareW (t b c : Nat) (o0 : Value) (w : World) (hb : w.cell? ⟨b, 0, none⟩ = some (.pointer (some ⟨t, 0, none⟩)))
    (t0 : w.cell? ⟨t, 0, none⟩ = some o0) (tf : ∀ j, w.frozen? ⟨t, j, none⟩ = false) :
    Calls Tryz.prog 49 #[.iface 42 (.int .i64 (c : Int)), .iface 73 (.pointer (some ⟨t, 0, none⟩)), .agg #[.pointer (some ⟨11, 73, none⟩), .pointer (some ⟨b, 0, none⟩), .int .u64 150], .iface 147 (.agg #[.pointer (some ⟨11, 42, none⟩)])] w fun ev w' => ev = .returned (.bool true) ∧
      w'.cell? ⟨t, 0, none⟩ = some (.int .i64 (c : Int)) ∧ w.grownBy w' (some t) := by
  have h19 := @run_callFunc_extern Tryz.prog 46 _ (fun args => ReflectliteValue.unpack (args.getD 0 (.tuple #[]))) Tryz.func46 (by kernel_rfl) (by kernel_rfl) (by kernel_rfl) (by kernel_rfl)
  have h26 := @run_callFunc_extern Tryz.prog 69 _ ReflectliteType.typeOf Tryz.func69 (by kernel_rfl) (by kernel_rfl) (by kernel_rfl) (by kernel_rfl)
  have h53 := @run_callFunc_extern Tryz.prog 186 _ (ReflectliteType.relation "AssignableTo" ReflectliteType.assignableTo) Tryz.func186 (by kernel_rfl) (by kernel_rfl) (by kernel_rfl) (by kernel_rfl)
  have h27 := @run_callFunc_extern Tryz.prog 70 _ (ReflectliteValue.method (ReflectliteValue.valueError "reflectlite.Value.Elem" 0) ReflectliteValue.elem) Tryz.func70 (by kernel_rfl) (by kernel_rfl) (by kernel_rfl) (by kernel_rfl)
  have h28 := @run_callFunc_extern Tryz.prog 71 _ ReflectliteValue.set Tryz.func71 (by kernel_rfl) (by kernel_rfl) (by kernel_rfl) (by kernel_rfl)
  have mA := mAssignable
  have tO := tOfW
  have a1 := asgWW
  have v1 := vOfW
  have tl : t < w.heap.size := by
    rcases Nat.lt_or_ge t w.heap.size with h | h
    · exact h
    · simp [World.cell?, Array.getElem?_eq_none h] at t0
  obtain ⟨wA, hwA⟩ : ∃ wA, w.alloc (.cells #[.pointer (some ⟨11, 73, none⟩), .pointer (some ⟨b, 0, none⟩), .int .u64 150] 108) = wA := ⟨_, rfl⟩
  have zA : wA.heap.size = w.heap.size + 1 := by rw [← hwA]; simp
  have gA : w.grownBy wA none := hwA ▸ World.grownBy_alloc _ _ _
  have hbA : wA.cell? ⟨b, 0, none⟩ = some (.pointer (some ⟨t, 0, none⟩)) := hwA ▸ cell_alloc_lM _ hb
  have x0 : wA.cell? ⟨w.heap.size, 0, none⟩ = some (.pointer (some ⟨11, 73, none⟩)) := hwA ▸ new_cell rfl _ _ _
  have x1 : wA.cell? ⟨w.heap.size, 1, none⟩ = some (.pointer (some ⟨b, 0, none⟩)) := hwA ▸ new_cell rfl _ _ _
  have x2 : wA.cell? ⟨w.heap.size, 2, none⟩ = some (.int .u64 150) := hwA ▸ new_cell rfl _ _ _
  have el := elemVW ⟨b, 0, none⟩ ⟨t, 0, none⟩ wA hbA
  obtain ⟨wB, hwB⟩ : ∃ wB, wA.alloc (.cells #[.int .i64 (c : Int)] 42) = wB := ⟨_, rfl⟩
  have gB : w.grownBy wB none := hwB ▸ grown_transM gA (World.grownBy_alloc _ _ _)
  have y0 : wB.cell? ⟨w.heap.size + 1, 0, none⟩ = some (.int .i64 (c : Int)) := hwB ▸ new_cell zA _ _ _
  have u0 := gB.cell t0 (fun e => by cases e)
  have uf : wB.frozen? ⟨t, 0, none⟩ = false := (World.frozen?_of_block (gB.block t tl (fun e => by cases e))).trans (tf 0)
  have st := setW ⟨t, 0, none⟩ ⟨w.heap.size + 1, 0, none⟩ c o0 wB y0 u0 uf
  have HU : Hid ((wB.setCell ⟨t, 0, none⟩ (.int .i64 (c : Int))).cell? ⟨t, 0, none⟩ = some (.int .i64 (c : Int))) := World.cell?_setCell_same' _ _ _ (by rw [u0]; rfl)
  have HG : Hid (w.grownBy wB (some t)) := ⟨gB.os, gB.tape, gB.output, gB.size, fun k hk _ => gB.block k hk (fun e => by cases e)⟩
  clear y0 u0 uf t0 tf hb hbA gA gB
  simp only [hT, rT] at tO a1 v1 el st
  go_enter Tryz.func49, Tryz.ntmps49
  go_wp2_with fail
  refine wp_loop_rounds 1 ?_
  rw [rounds_succ]
  go_wp2_with fail
  go_ret
  exact ⟨rfl, HU.out, grown_transM HG.out (grown_setM _ _ _ _)⟩
set_option maxHeartbeats 4000000 in
/-- errors.as at an error with no place, a *placed for its target -/
theorem asIn_bareP (t b c : Nat) (w : World) :
    Calls Tryz.prog 49 #[.iface 42 (.int .i64 (c : Int)), .iface 74 (.pointer (some ⟨t, 0, none⟩)), .agg #[.pointer (some ⟨11, 74, none⟩), .pointer (some ⟨b, 0, none⟩), .int .u64 150], .iface 147 (.agg #[.pointer (some ⟨11, 71, none⟩)])] w fun ev w' => ev = .returned (.bool false) ∧ w.grownBy w' none := by
  have h26 := @run_callFunc_extern Tryz.prog 69 _ ReflectliteType.typeOf Tryz.func69 (by kernel_rfl) (by kernel_rfl) (by kernel_rfl) (by kernel_rfl)
  have h53 := @run_callFunc_extern Tryz.prog 186 _ (ReflectliteType.relation "AssignableTo" ReflectliteType.assignableTo) Tryz.func186 (by kernel_rfl) (by kernel_rfl) (by kernel_rfl) (by kernel_rfl)
  have mA := mAssignable
  have tO := tOfW
  have a1 := asgWP
  have nA := noAsW
  have nU := noUnW
  have nL := noUlW
  obtain ⟨wA, hwA⟩ : ∃ wA, w.alloc (.cells #[.pointer (some ⟨11, 74, none⟩), .pointer (some ⟨b, 0, none⟩), .int .u64 150] 108) = wA := ⟨_, rfl⟩
  have HG : Hid (w.grownBy wA none) := hwA ▸ World.grownBy_alloc _ _ _
  simp only [hT, rT] at tO a1
  go_enter Tryz.func49, Tryz.ntmps49
  go_wp2_with fail
  refine wp_loop_rounds 1 ?_
  rw [rounds_succ]
  go_wp2_with fail
  go_ret
  exact ⟨rfl, HG.out⟩

set_option maxHeartbeats 4000000 in
/-- errors.As at an error with no place, a *wrong for its target -/
theorem as_bareW (t c : Nat) (o0 : Value) (w : World) (hg : w.cell? ⟨1, 0, none⟩ = some (.iface 147 (.agg #[hT 51])))
    (t0 : w.cell? ⟨t, 0, none⟩ = some o0) (tf : ∀ j, w.frozen? ⟨t, j, none⟩ = false) :
    Calls Tryz.prog 24 #[.iface 42 (.int .i64 (c : Int)), .iface 73 (.pointer (some ⟨t, 0, none⟩))] w fun ev w' => ev = .returned (.bool true) ∧
      w'.cell? ⟨t, 0, none⟩ = some (.int .i64 (c : Int)) ∧ w.grownBy w' (some t) := by
  have h19 := @run_callFunc_extern Tryz.prog 46 _ (fun args => ReflectliteValue.unpack (args.getD 0 (.tuple #[]))) Tryz.func46 (by kernel_rfl) (by kernel_rfl) (by kernel_rfl) (by kernel_rfl)
  have h20 := @run_callFunc_extern Tryz.prog 47 _ (ReflectliteValue.methodAny (ReflectliteValue.valueError "reflectlite.Value.Type" 0) (fun t _ _ _ => ReflectliteType.toType t)) Tryz.func47 (by kernel_rfl) (by kernel_rfl) (by kernel_rfl) (by kernel_rfl)
  have h21 := @run_callFunc_extern Tryz.prog 48 _ (ReflectliteValue.method (ReflectliteValue.valueError "reflectlite.Value.IsNil" 0) ReflectliteValue.isNil) Tryz.func48 (by kernel_rfl) (by kernel_rfl) (by kernel_rfl) (by kernel_rfl)
  have h43 := @run_callFunc_extern Tryz.prog 174 _ (ReflectliteType.abiMethod fun t => do pure (.int .u8 (← Rtype.kind t))) Tryz.func174 (by kernel_rfl) (by kernel_rfl) (by kernel_rfl) (by kernel_rfl)
  have h55 := @run_callFunc_extern Tryz.prog 188 _ (ReflectliteType.method ReflectliteType.elem) Tryz.func188 (by kernel_rfl) (by kernel_rfl) (by kernel_rfl) (by kernel_rfl)
  have h56 := @run_callFunc_extern Tryz.prog 189 _ (ReflectliteType.relation "Implements" ReflectliteType.implements_) Tryz.func189 (by kernel_rfl) (by kernel_rfl) (by kernel_rfl) (by kernel_rfl)
  have f6 := valueOfW
  have f7 := typeW
  have mK := mKind
  have mE := mElem
  have mI := mImplements
  have k1 := kindW
  have k2 := kindW2
  have e1 := elemW
  have i1 := implW
  have tl : t < w.heap.size := by
    rcases Nat.lt_or_ge t w.heap.size with h | h
    · exact h
    · simp [World.cell?, Array.getElem?_eq_none h] at t0
  obtain ⟨wA, hwA⟩ : ∃ wA, w.alloc (.cells #[.pointer (some ⟨t, 0, none⟩)] 73) = wA := ⟨_, rfl⟩
  have zA : wA.heap.size = w.heap.size + 1 := by rw [← hwA]; simp
  have gA : w.grownBy wA none := hwA ▸ World.grownBy_alloc _ _ _
  have pA : wA.cell? ⟨w.heap.size, 0, none⟩ = some (.pointer (some ⟨t, 0, none⟩)) := hwA ▸ new_cell rfl _ _ _
  obtain ⟨wB, hwB⟩ : ∃ wB, wA.alloc (.cells #[hT 73, .pointer (some ⟨w.heap.size, 0, none⟩), .int .u64 150] 108) = wB := ⟨_, rfl⟩
  have zB : wB.heap.size = w.heap.size + 2 := by rw [← hwB]; simp [zA]
  have gB : w.grownBy wB none := hwB ▸ grown_transM gA (World.grownBy_alloc _ _ _)
  have b0 : wB.cell? ⟨w.heap.size + 1, 0, none⟩ = some (hT 73) := hwB ▸ new_cell zA _ _ _
  have b1 : wB.cell? ⟨w.heap.size + 1, 1, none⟩ = some (.pointer (some ⟨w.heap.size, 0, none⟩)) := hwB ▸ new_cell zA _ _ _
  have b2 : wB.cell? ⟨w.heap.size + 1, 2, none⟩ = some (.int .u64 150) := hwB ▸ new_cell zA _ _ _
  have hgB : wB.cell? ⟨1, 0, none⟩ = some (.iface 147 (.agg #[hT 51])) := gB.cell hg (fun e => by cases e)
  have pB : wB.cell? ⟨w.heap.size, 0, none⟩ = some (.pointer (some ⟨t, 0, none⟩)) := hwB ▸ cell_alloc_lM _ pA
  have n8 := isNilW ⟨w.heap.size, 0, none⟩ ⟨t, 0, none⟩ wB pB
  have HAs := hide2 (asIn_bareW t w.heap.size c o0 wB pB (gB.cell t0 (fun e => by cases e)) (fun j => (World.frozen?_of_block (gB.block t tl (fun e => by cases e))).trans (tf j)))
  have HGB : Hid (w.grownBy wB (some t)) := ⟨gB.os, gB.tape, gB.output, gB.size, fun k hk _ => gB.block k hk (fun e => by cases e)⟩
  clear gB gA t0 tf
  simp only [hT, rT] at f6 f7 k1 k2 e1 i1 hwB b0 hgB n8 hg
  go_enter Tryz.func24, Tryz.ntmps24
  go_wp2_with (go_at_call 49; refine (HAs.out).mono ?_; rintro e w2 ⟨rfl, q0, hg2⟩)
  go_ret
  exact ⟨rfl, q0, grown_transM HGB.out hg2⟩
set_option maxHeartbeats 4000000 in
/-- errors.As at an error with no place, a *placed for its target -/
theorem as_bareP (t c : Nat) (w : World) (hg : w.cell? ⟨1, 0, none⟩ = some (.iface 147 (.agg #[hT 51])))
    : Calls Tryz.prog 24 #[.iface 42 (.int .i64 (c : Int)), .iface 74 (.pointer (some ⟨t, 0, none⟩))] w fun ev w' => ev = .returned (.bool false) ∧ w.grownBy w' none := by
  have h19 := @run_callFunc_extern Tryz.prog 46 _ (fun args => ReflectliteValue.unpack (args.getD 0 (.tuple #[]))) Tryz.func46 (by kernel_rfl) (by kernel_rfl) (by kernel_rfl) (by kernel_rfl)
  have h20 := @run_callFunc_extern Tryz.prog 47 _ (ReflectliteValue.methodAny (ReflectliteValue.valueError "reflectlite.Value.Type" 0) (fun t _ _ _ => ReflectliteType.toType t)) Tryz.func47 (by kernel_rfl) (by kernel_rfl) (by kernel_rfl) (by kernel_rfl)
  have h21 := @run_callFunc_extern Tryz.prog 48 _ (ReflectliteValue.method (ReflectliteValue.valueError "reflectlite.Value.IsNil" 0) ReflectliteValue.isNil) Tryz.func48 (by kernel_rfl) (by kernel_rfl) (by kernel_rfl) (by kernel_rfl)
  have h43 := @run_callFunc_extern Tryz.prog 174 _ (ReflectliteType.abiMethod fun t => do pure (.int .u8 (← Rtype.kind t))) Tryz.func174 (by kernel_rfl) (by kernel_rfl) (by kernel_rfl) (by kernel_rfl)
  have h55 := @run_callFunc_extern Tryz.prog 188 _ (ReflectliteType.method ReflectliteType.elem) Tryz.func188 (by kernel_rfl) (by kernel_rfl) (by kernel_rfl) (by kernel_rfl)
  have h56 := @run_callFunc_extern Tryz.prog 189 _ (ReflectliteType.relation "Implements" ReflectliteType.implements_) Tryz.func189 (by kernel_rfl) (by kernel_rfl) (by kernel_rfl) (by kernel_rfl)
  have f6 := valueOfP
  have f7 := typeP
  have mK := mKind
  have mE := mElem
  have mI := mImplements
  have k1 := kindP
  have k2 := kindP2
  have e1 := elemP
  have i1 := implP
  obtain ⟨wA, hwA⟩ : ∃ wA, w.alloc (.cells #[.pointer (some ⟨t, 0, none⟩)] 74) = wA := ⟨_, rfl⟩
  have zA : wA.heap.size = w.heap.size + 1 := by rw [← hwA]; simp
  have gA : w.grownBy wA none := hwA ▸ World.grownBy_alloc _ _ _
  have pA : wA.cell? ⟨w.heap.size, 0, none⟩ = some (.pointer (some ⟨t, 0, none⟩)) := hwA ▸ new_cell rfl _ _ _
  obtain ⟨wB, hwB⟩ : ∃ wB, wA.alloc (.cells #[hT 74, .pointer (some ⟨w.heap.size, 0, none⟩), .int .u64 150] 108) = wB := ⟨_, rfl⟩
  have zB : wB.heap.size = w.heap.size + 2 := by rw [← hwB]; simp [zA]
  have gB : w.grownBy wB none := hwB ▸ grown_transM gA (World.grownBy_alloc _ _ _)
  have b0 : wB.cell? ⟨w.heap.size + 1, 0, none⟩ = some (hT 74) := hwB ▸ new_cell zA _ _ _
  have b1 : wB.cell? ⟨w.heap.size + 1, 1, none⟩ = some (.pointer (some ⟨w.heap.size, 0, none⟩)) := hwB ▸ new_cell zA _ _ _
  have b2 : wB.cell? ⟨w.heap.size + 1, 2, none⟩ = some (.int .u64 150) := hwB ▸ new_cell zA _ _ _
  have hgB : wB.cell? ⟨1, 0, none⟩ = some (.iface 147 (.agg #[hT 51])) := gB.cell hg (fun e => by cases e)
  have pB : wB.cell? ⟨w.heap.size, 0, none⟩ = some (.pointer (some ⟨t, 0, none⟩)) := hwB ▸ cell_alloc_lM _ pA
  have n8 := isNilP ⟨w.heap.size, 0, none⟩ ⟨t, 0, none⟩ wB pB
  have HAs := hide2 (asIn_bareP t w.heap.size c wB)
  have HGB : Hid (w.grownBy wB none) := gB
  clear gB gA
  simp only [hT, rT] at f6 f7 k1 k2 e1 i1 hwB b0 hgB n8 hg
  go_enter Tryz.func24, Tryz.ntmps24
  go_wp2_with (go_at_call 49; refine (HAs.out).mono ?_; rintro e w2 ⟨rfl, hg2⟩)
  go_ret
  exact ⟨rfl, grown_transM HGB.out hg2⟩

set_option maxHeartbeats 2000000 in
theorem faultOf_bare (c : Nat) (w : World) (hG : GE w) : Calls Tryz.prog 12 #[.iface 42 (.int .i64 (c : Int))] w fun e w' => e = .returned (.agg #[.int .i64 (c : Int), .string ⟨#[]⟩, .int .i64 0]) ∧ Below w.heap.size w w' := by
  have hG0 := hG.lt
  obtain ⟨wA, hwA⟩ : ∃ wA, w.alloc (.cells #[.int .i64 0, .string ⟨#[]⟩, .int .i64 0] 26) = wA := ⟨_, rfl⟩
  have zA : wA.heap.size = w.heap.size + 1 := by rw [← hwA]; simp
  have BA : Below w.heap.size w wA := hwA ▸ (Below.refl _ w).alloc (Nat.le_refl _) _
  obtain ⟨wB, hwB⟩ : ∃ wB, wA.alloc (.cells #[.int .i64 0] 42) = wB := ⟨_, rfl⟩
  have zB : wB.heap.size = w.heap.size + 2 := by rw [← hwB]; simp [zA]
  have BB : Below w.heap.size w wB := hwB ▸ BA.alloc (by omega) _
  obtain ⟨wC, hwC⟩ : ∃ wC, wB.alloc (.cells #[.string ⟨#[]⟩, .int .i64 0, .nilIface] 71) = wC := ⟨_, rfl⟩
  have zC : wC.heap.size = w.heap.size + 3 := by rw [← hwC]; simp [zB]
  have BC : Below w.heap.size w wC := hwC ▸ BB.alloc (by omega) _
  have hGC : GE wC := hG.below BC
  have a0' : wA.cell? ⟨w.heap.size, 0, none⟩ = some (.int .i64 0) := hwA ▸ new_cell rfl _ _ _
  have a1' : wA.cell? ⟨w.heap.size, 1, none⟩ = some (.string ⟨#[]⟩) := hwA ▸ new_cell rfl _ _ _
  have a2' : wA.cell? ⟨w.heap.size, 2, none⟩ = some (.int .i64 0) := hwA ▸ new_cell rfl _ _ _
  have a0 : wC.cell? ⟨w.heap.size, 0, none⟩ = some (.int .i64 0) := hwC ▸ cell_alloc_lM _ (hwB ▸ cell_alloc_lM _ a0')
  have a1 : wC.cell? ⟨w.heap.size, 1, none⟩ = some (.string ⟨#[]⟩) := hwC ▸ cell_alloc_lM _ (hwB ▸ cell_alloc_lM _ a1')
  have a2 : wC.cell? ⟨w.heap.size, 2, none⟩ = some (.int .i64 0) := hwC ▸ cell_alloc_lM _ (hwB ▸ cell_alloc_lM _ a2')
  have af : ∀ j, wC.frozen? ⟨w.heap.size, j, none⟩ = false := fun j => by
    have e1 : wC.heap[w.heap.size]? = wA.heap[w.heap.size]? := by
      rw [← hwC, ← hwB]
      exact (((Below.refl _ wA).alloc (Nat.le_refl _) _).alloc (by simp) _).block _ (by omega)
    rw [World.frozen?_of_block (a := ⟨w.heap.size, j, none⟩) e1]
    exact hwA ▸ new_free rfl _ _ _
  have b0 : wC.cell? ⟨w.heap.size + 1, 0, none⟩ = some (.int .i64 0) := hwC ▸ cell_alloc_lM _ (hwB ▸ new_cell zA _ _ _)
  have bf : ∀ j, wC.frozen? ⟨w.heap.size + 1, j, none⟩ = false := fun j => by
    have e1 : wC.heap[w.heap.size + 1]? = wB.heap[w.heap.size + 1]? := by
      rw [← hwC]
      exact ((Below.refl _ wB).alloc (Nat.le_refl _) _).block _ (by omega)
    rw [World.frozen?_of_block (a := ⟨w.heap.size + 1, j, none⟩) e1]
    exact hwB ▸ new_free zA _ _ _
  have c0 : wC.cell? ⟨w.heap.size + 2, 0, none⟩ = some (.string ⟨#[]⟩) := hwC ▸ new_cell zB _ _ _
  have c1 : wC.cell? ⟨w.heap.size + 2, 1, none⟩ = some (.int .i64 0) := hwC ▸ new_cell zB _ _ _
  have c2 : wC.cell? ⟨w.heap.size + 2, 2, none⟩ = some .nilIface := hwC ▸ new_cell zB _ _ _
  have cf : ∀ j, wC.frozen? ⟨w.heap.size + 2, j, none⟩ = false := fun j => hwC ▸ new_free zB _ _ _
  have H1 := hide2 (as_bareW (w.heap.size + 1) c _ wC hGC b0 bf)
  clear a0' a1' a2' b0 bf
  go_enter Tryz.func12, Tryz.ntmps12
  go_upto_region 4 with (go_at_call 24; refine H1.out.mono ?_; rintro e w2 ⟨rfl, q0, hg2⟩)
  have hz2 := hg2.size
  have H2 := hide2 (as_bareP (w.heap.size + 2) c w2 (far_cell hg2 (by omega) hGC))
  have s0 := far_cell hg2 (by omega) c0
  have s1 := far_cell hg2 (by omega) c1
  have r0' := far_cell hg2 (by omega) a0
  have r1' := far_cell hg2 (by omega) a1
  have r2' := far_cell hg2 (by omega) a2
  have rf' := fun j => far_free hg2 (by omega) (by omega) (af j)
  have HB2 : Hid (Below w.heap.size w w2) := BC.grown hg2 (by omega) (fun q hq => by injection hq with hq; omega)
  clear c0 c1 c2 cf a0 a1 a2 af hg2 BA BB BC hwA hwB hwC
  go_wp2_with (go_at_call 24; refine H2.out.mono ?_; rintro e w3 ⟨rfl, hg3⟩; have q0' := hg3.cell q0 (by simp); have u0 := hg3.cell s0 (by simp); have u1 := hg3.cell s1 (by simp); have r0 := hg3.cell r0' (by simp); have r1 := hg3.cell r1' (by simp); have r2 := hg3.cell r2' (by simp); have z0 := (World.frozen?_of_block (hg3.block w.heap.size (by omega) (by simp))).trans (rf' 0); have z1 := (World.frozen?_of_block (hg3.block w.heap.size (by omega) (by simp))).trans (rf' 1); have z2 := (World.frozen?_of_block (hg3.block w.heap.size (by omega) (by simp))).trans (rf' 2); have HB3 := hide2 (HB2.out.grown hg3 (by omega) (fun q hq => by cases hq)); clear hg3)
  obtain ⟨e0, e1, e2⟩ := three_set r0 r1 r2 (.int .i64 (c : Int)) (.string ⟨#[]⟩) (.int .i64 0)
  refine bodyPost_ret (v := .agg #[.int .i64 (c : Int), .string ⟨#[]⟩, .int .i64 0]) (by simp [results, go_sem, e0, e1, e2]) rfl ⟨rfl, ?_⟩
  exact below_far (below_far (below_far HB3.out (Nat.le_refl _) _ _) (Nat.le_refl _) _ _) (Nat.le_refl _) _ _

end Go.Proofs.YtiaccimdjfdkgaaGreatDoor
