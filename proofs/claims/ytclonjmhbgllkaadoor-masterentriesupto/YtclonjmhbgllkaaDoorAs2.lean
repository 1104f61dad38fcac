import Derived.Test.YtclonjmhbgllkaaDoorAs1
namespace Go.Proofs.YtclonjmhbgllkaaDoor
set_option linter.unusedVariables false
open Go.RowKit Go.Extern.Stop Go.Stop Go.Extern Nm

theorem partsWa (a : Addr) (w : World) : (ReflectliteValue.parts (.agg #[hT 52, .pointer (some a), .int .u64 386])).run Tryd.prog w = .ok (some (52, a, 386)) w := by kernel_rfl
theorem partsWb (a : Addr) (w : World) : (ReflectliteValue.parts (.agg #[hT 52, .pointer (some a), .int .u64 130])).run Tryd.prog w = .ok (some (52, a, 130)) w := by kernel_rfl
theorem partsPa (a : Addr) (w : World) : (ReflectliteValue.parts (.agg #[hT 54, .pointer (some a), .int .u64 409])).run Tryd.prog w = .ok (some (54, a, 409)) w := by kernel_rfl
theorem partsPb (a : Addr) (w : World) : (ReflectliteValue.parts (.agg #[hT 54, .pointer (some a), .int .u64 153])).run Tryd.prog w = .ok (some (54, a, 153)) w := by kernel_rfl
theorem directW (w : World) : (Rtype.directlyAssignable 52 52).run Tryd.prog w = .ok true w := by kernel_rfl
theorem directP (w : World) : (Rtype.directlyAssignable 54 54).run Tryd.prog w = .ok true w := by kernel_rfl
theorem setW (ta b : Addr) (c : Int) (old : Value) (W : World) (hb : W.cell? b = some (.int .i64 c)) (ht : W.cell? ta = some old) (hf : W.frozen? ta = false) :
    (ReflectliteValue.set #[.agg #[hT 52, .pointer (some ta), .int .u64 386], .agg #[hT 52, .pointer (some b), .int .u64 130]]).run Tryd.prog W
      = .ok (.tuple #[]) (W.setCell ta (.int .i64 c)) := by
  change Sem.run Tryd.prog (ReflectliteValue.parts (.agg #[hT 52, .pointer (some ta), .int .u64 386]) >>= fun p => ReflectliteValue.parts (.agg #[hT 52, .pointer (some b), .int .u64 130]) >>= _) W = _
  simp only [Sem.run_bind, partsWa, partsWb, Result.andThen]
  simp [ReflectliteValue.flagAddr, loadVar, isAgg, underlying, Tryd.underlying52, hb, Result.andThen, directW, storeVar, Value.cells, storeCells, Addr.add]
  rw [run_store Tryd.prog W ta _ _ (by rfl)]
  simp [ht, hf]
theorem sizeP (w : World) : (sizeOf 54).run Tryd.prog w = .ok 3 w := by kernel_rfl
theorem setP (t b : Nat) (f : ByteArray) (l c : Int) (o0 o1 o2 : Value) (W : World) (h0 : W.cell? ⟨b, 0, none⟩ = some (.string f)) (h1 : W.cell? ⟨b, 1, none⟩ = some (.int .i64 l)) (h2 : W.cell? ⟨b, 2, none⟩ = some (.iface 52 (.int .i64 c)))
    (t0 : W.cell? ⟨t, 0, none⟩ = some o0) (t1 : W.cell? ⟨t, 1, none⟩ = some o1) (t2 : W.cell? ⟨t, 2, none⟩ = some o2) (hf : ∀ j, W.frozen? ⟨t, j, none⟩ = false) :
    (ReflectliteValue.set #[.agg #[hT 54, .pointer (some ⟨t, 0, none⟩), .int .u64 409], .agg #[hT 54, .pointer (some ⟨b, 0, none⟩), .int .u64 153]]).run Tryd.prog W
      = .ok (.tuple #[]) (((W.setCell ⟨t, 0, none⟩ (.string f)).setCell ⟨t, 1, none⟩ (.int .i64 l)).setCell ⟨t, 2, none⟩ (.iface 52 (.int .i64 c))) := by
  change Sem.run Tryd.prog (ReflectliteValue.parts (.agg #[hT 54, .pointer (some ⟨t, 0, none⟩), .int .u64 409]) >>= fun p => ReflectliteValue.parts (.agg #[hT 54, .pointer (some ⟨b, 0, none⟩), .int .u64 153]) >>= _) W = _
  simp only [Sem.run_bind, partsPa, partsPb, Result.andThen]
  simp [ReflectliteValue.flagAddr, loadVar, isAgg, underlying, Tryd.underlying54, Result.andThen, directP, storeVar]
  have hl : Sem.run Tryd.prog (loadCells ⟨b, 0, none⟩ 3) W = .ok #[.string f, .int .i64 l, .iface 52 (.int .i64 c)] W := by
    simp [loadCells, go_sem, h0, h1, h2, Addr.add]
  rw [hl]
  have k0 : (W.setCell ⟨t, 0, none⟩ (.string f)).cell? ⟨t, 1, none⟩ = some o1 := by rw [World.cell?_setCell_other _ _ _ _ (by intro e; cases e)]; exact t1
  have k1 : ((W.setCell ⟨t, 0, none⟩ (.string f)).setCell ⟨t, 1, none⟩ (.int .i64 l)).cell? ⟨t, 2, none⟩ = some o2 := by rw [World.cell?_setCell_other _ _ _ _ (by intro e; cases e), World.cell?_setCell_other _ _ _ _ (by intro e; cases e)]; exact t2
  simp [Value.cells, storeCells, Addr.add, Result.andThen, go_sem, t0, k0, k1, hf, World.frozen?_setCell]
end Go.Proofs.YtclonjmhbgllkaaDoor
