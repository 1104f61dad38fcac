import Derived.Test.YtclonjmhbgllkaaDoorMe6
import Derived.LaidEql
import Derived.Stop.Asserts
import Derived.RowKitTokens
namespace Go.Proofs.YtclonjmhbgllkaaDoor
set_option linter.unusedVariables false
open Go.RowKit Go.Extern.Stop Go.Stop Go.Extern Nm

/-- errors.As(nil, target) -/
theorem as_nil (t : Value) (w : World) :
    Calls Tryd.prog 14 #[.nilIface, t] w fun e w' => e = .returned (.bool false) ∧ w' = w := by
  go_enter Tryd.func14, Tryd.ntmps14
  go_wp2
  go_ret
  exact ⟨rfl, rfl⟩

def hT (t : TypeId) : Value := .pointer (some ⟨1, t, none⟩)
def rT (t : TypeId) : Value := .iface 75 (.agg #[hT t])

theorem valueOfW (t : Addr) (w : World) : (ReflectliteValue.unpack (.iface 56 (.pointer (some t)))).run Tryd.prog w
    = .ok (.agg #[hT 56, .pointer (some ⟨w.heap.size, 0, none⟩), .int .u64 150]) (w.alloc (.cells #[.pointer (some t)] 56)) := by kernel_rfl
theorem valueOfP (t : Addr) (w : World) : (ReflectliteValue.unpack (.iface 57 (.pointer (some t)))).run Tryd.prog w
    = .ok (.agg #[hT 57, .pointer (some ⟨w.heap.size, 0, none⟩), .int .u64 150]) (w.alloc (.cells #[.pointer (some t)] 57)) := by kernel_rfl
theorem typeW (a : Addr) (w : World) : (ReflectliteValue.methodAny (ReflectliteValue.valueError "reflectlite.Value.Type" 0) (fun t _ _ _ => ReflectliteType.toType t) #[.agg #[hT 56, .pointer (some a), .int .u64 150]]).run Tryd.prog w
    = .ok (rT 56) w := by kernel_rfl
theorem typeP (a : Addr) (w : World) : (ReflectliteValue.methodAny (ReflectliteValue.valueError "reflectlite.Value.Type" 0) (fun t _ _ _ => ReflectliteType.toType t) #[.agg #[hT 57, .pointer (some a), .int .u64 150]]).run Tryd.prog w
    = .ok (rT 57) w := by kernel_rfl
theorem kindW (w : World) : ((ReflectliteType.abiMethod fun t => (fun a : Nat => Value.int IntKind.u8 (a : Int)) <$> Rtype.kind t) #[hT 56]).run Tryd.prog w = .ok (.int .u8 22) w := by kernel_rfl
theorem kindP (w : World) : ((ReflectliteType.abiMethod fun t => (fun a : Nat => Value.int IntKind.u8 (a : Int)) <$> Rtype.kind t) #[hT 57]).run Tryd.prog w = .ok (.int .u8 22) w := by kernel_rfl
theorem kindW2 (w : World) : ((ReflectliteType.abiMethod fun t => (fun a : Nat => Value.int IntKind.u8 (a : Int)) <$> Rtype.kind t) #[hT 52]).run Tryd.prog w = .ok (.int .u8 2) w := by kernel_rfl
theorem kindP2 (w : World) : ((ReflectliteType.abiMethod fun t => (fun a : Nat => Value.int IntKind.u8 (a : Int)) <$> Rtype.kind t) #[hT 54]).run Tryd.prog w = .ok (.int .u8 25) w := by kernel_rfl
theorem mKind (n : Nat) (h : Value) (w : World) : (Go.method (n + 2) 75 (.agg #[h]) "Kind").run Tryd.prog w = .ok (43, h) w := by kernel_rfl
theorem mElem (n : Nat) (h : Value) (w : World) : (Go.method (n + 2) 75 (.agg #[h]) "Elem").run Tryd.prog w = .ok (55, .agg #[h]) w := by kernel_rfl
theorem mImplements (n : Nat) (h : Value) (w : World) : (Go.method (n + 2) 75 (.agg #[h]) "Implements").run Tryd.prog w = .ok (56, .agg #[h]) w := by kernel_rfl
theorem mAssignable (n : Nat) (h : Value) (w : World) : (Go.method (n + 2) 75 (.agg #[h]) "AssignableTo").run Tryd.prog w = .ok (53, .agg #[h]) w := by kernel_rfl
theorem mUnwrap (n : Nat) (h : Value) (w : World) : (Go.method (n + 2) 54 h "Unwrap").run Tryd.prog w = .ok (48, h) w := by kernel_rfl
theorem elemW (w : World) : (ReflectliteType.method ReflectliteType.elem #[.agg #[hT 56]]).run Tryd.prog w = .ok (rT 52) w := by kernel_rfl
theorem elemP (w : World) : (ReflectliteType.method ReflectliteType.elem #[.agg #[hT 57]]).run Tryd.prog w = .ok (rT 54) w := by kernel_rfl
theorem implW (w : World) : (ReflectliteType.relation "Implements" ReflectliteType.implements_ #[.agg #[hT 52], rT 36]).run Tryd.prog w = .ok (.bool true) w := by kernel_rfl
theorem implP (w : World) : (ReflectliteType.relation "Implements" ReflectliteType.implements_ #[.agg #[hT 54], rT 36]).run Tryd.prog w = .ok (.bool true) w := by kernel_rfl
theorem tOfW (v : Value) (w : World) : (ReflectliteType.typeOf #[.iface 52 v]).run Tryd.prog w = .ok (rT 52) w := by kernel_rfl
theorem tOfP (v : Value) (w : World) : (ReflectliteType.typeOf #[.iface 54 v]).run Tryd.prog w = .ok (rT 54) w := by kernel_rfl
theorem asgWW (w : World) : (ReflectliteType.relation "AssignableTo" ReflectliteType.assignableTo #[.agg #[hT 52], rT 52]).run Tryd.prog w = .ok (.bool true) w := by kernel_rfl
theorem asgPP (w : World) : (ReflectliteType.relation "AssignableTo" ReflectliteType.assignableTo #[.agg #[hT 54], rT 54]).run Tryd.prog w = .ok (.bool true) w := by kernel_rfl
theorem asgPW (w : World) : (ReflectliteType.relation "AssignableTo" ReflectliteType.assignableTo #[.agg #[hT 54], rT 52]).run Tryd.prog w = .ok (.bool false) w := by kernel_rfl
theorem vOfW (c : Int) (w : World) : (ReflectliteValue.unpack (.iface 52 (.int .i64 c))).run Tryd.prog w
    = .ok (.agg #[hT 52, .pointer (some ⟨w.heap.size, 0, none⟩), .int .u64 130]) (w.alloc (.cells #[.int .i64 c] 52)) := by kernel_rfl
theorem vOfP (f : ByteArray) (c l : Nat) (w : World) : (ReflectliteValue.unpack (.iface 54 (errA f c l))).run Tryd.prog w
    = .ok (.agg #[hT 54, .pointer (some ⟨w.heap.size, 0, none⟩), .int .u64 153]) (w.alloc (.cells #[.string f, .int .i64 (l : Int), .iface 52 (.int .i64 (c : Int))] 54)) := by kernel_rfl
theorem elemOfW (w : World) : (Rtype.elem? 56).run Tryd.prog w = .ok (some 52) w := by kernel_rfl
theorem elemOfP (w : World) : (Rtype.elem? 57).run Tryd.prog w = .ok (some 54) w := by kernel_rfl
theorem mkW (p : Addr) (w : World) : (ReflectliteValue.mk 52 p ReflectliteValue.flagAddr).run Tryd.prog w = .ok (.agg #[hT 52, .pointer (some p), .int .u64 386]) w := by kernel_rfl
theorem mkP (p : Addr) (w : World) : (ReflectliteValue.mk 54 p ReflectliteValue.flagAddr).run Tryd.prog w = .ok (.agg #[hT 54, .pointer (some p), .int .u64 409]) w := by kernel_rfl
theorem partsW (a : Addr) (w : World) : (ReflectliteValue.parts (.agg #[hT 56, .pointer (some a), .int .u64 150])).run Tryd.prog w = .ok (some (56, a, 150)) w := by kernel_rfl
theorem partsP (a : Addr) (w : World) : (ReflectliteValue.parts (.agg #[hT 57, .pointer (some a), .int .u64 150])).run Tryd.prog w = .ok (some (57, a, 150)) w := by kernel_rfl
theorem isNilW (a p : Addr) (W : World) (ha : W.cell? a = some (.pointer (some p))) :
    (ReflectliteValue.method (ReflectliteValue.valueError "reflectlite.Value.IsNil" 0) ReflectliteValue.isNil #[.agg #[hT 56, .pointer (some a), .int .u64 150]]).run Tryd.prog W = .ok (.bool false) W := by
  change Sem.run Tryd.prog (ReflectliteValue.parts (.agg #[hT 56, .pointer (some a), .int .u64 150]) >>= _) W = _
  simp only [Sem.run_bind, partsW, Result.andThen]
  simp [ReflectliteValue.isNil, loadVar, isAgg, underlying, Tryd.underlying56, ha, Result.andThen]
theorem isNilP (a p : Addr) (W : World) (ha : W.cell? a = some (.pointer (some p))) :
    (ReflectliteValue.method (ReflectliteValue.valueError "reflectlite.Value.IsNil" 0) ReflectliteValue.isNil #[.agg #[hT 57, .pointer (some a), .int .u64 150]]).run Tryd.prog W = .ok (.bool false) W := by
  change Sem.run Tryd.prog (ReflectliteValue.parts (.agg #[hT 57, .pointer (some a), .int .u64 150]) >>= _) W = _
  simp only [Sem.run_bind, partsP, Result.andThen]
  simp [ReflectliteValue.isNil, loadVar, isAgg, underlying, Tryd.underlying57, ha, Result.andThen]
theorem elemVW (a p : Addr) (W : World) (ha : W.cell? a = some (.pointer (some p))) :
    (ReflectliteValue.method (ReflectliteValue.valueError "reflectlite.Value.Elem" 0) ReflectliteValue.elem #[.agg #[hT 56, .pointer (some a), .int .u64 150]]).run Tryd.prog W
      = .ok (.agg #[hT 52, .pointer (some p), .int .u64 386]) W := by
  change Sem.run Tryd.prog (ReflectliteValue.parts (.agg #[hT 56, .pointer (some a), .int .u64 150]) >>= _) W = _
  simp only [Sem.run_bind, partsW, Result.andThen]
  simp [ReflectliteValue.elem, loadVar, isAgg, underlying, Tryd.underlying56, ha, Result.andThen, elemOfW, mkW]
theorem elemVP (a p : Addr) (W : World) (ha : W.cell? a = some (.pointer (some p))) :
    (ReflectliteValue.method (ReflectliteValue.valueError "reflectlite.Value.Elem" 0) ReflectliteValue.elem #[.agg #[hT 57, .pointer (some a), .int .u64 150]]).run Tryd.prog W
      = .ok (.agg #[hT 54, .pointer (some p), .int .u64 409]) W := by
  change Sem.run Tryd.prog (ReflectliteValue.parts (.agg #[hT 57, .pointer (some a), .int .u64 150]) >>= _) W = _
  simp only [Sem.run_bind, partsP, Result.andThen]
  simp [ReflectliteValue.elem, loadVar, isAgg, underlying, Tryd.underlying57, ha, Result.andThen, elemOfP, mkP]
end Go.Proofs.YtclonjmhbgllkaaDoor
