import Derived.Test.YtclonjmhbgllkaaDoorAs3
namespace Go.Proofs.YtclonjmhbgllkaaDoor
set_option linter.unusedVariables false
open Go.RowKit Go.Extern.Stop Go.Stop Go.Extern Nm

set_option maxHeartbeats 4000000 in
/-- errors.As at a placed error, a *placed for its target -/
theorem as_placed (t : Nat) (f : ByteArray) (c l : Nat) (o0 o1 o2 : Value) (w : World) (hg : w.cell? ⟨0, 0, none⟩ = some (.iface 75 (.agg #[hT 36])))
    (t0 : w.cell? ⟨t, 0, none⟩ = some o0) (t1 : w.cell? ⟨t, 1, none⟩ = some o1) (t2 : w.cell? ⟨t, 2, none⟩ = some o2) (tf : ∀ j, w.frozen? ⟨t, j, none⟩ = false) :
    Calls Tryd.prog 14 #[.iface 54 (errA f c l), .iface 57 (.pointer (some ⟨t, 0, none⟩))] w fun ev w' => ev = .returned (.bool true) ∧
      w'.cell? ⟨t, 0, none⟩ = some (.string f) ∧ w'.cell? ⟨t, 1, none⟩ = some (.int .i64 (l : Int)) ∧ w.grownBy w' (some t) := by
  have h19 := @run_callFunc_extern Tryd.prog 19 _ (fun args => ReflectliteValue.unpack (args.getD 0 (.tuple #[]))) Tryd.func19 (by kernel_rfl) (by kernel_rfl) (by kernel_rfl) (by kernel_rfl)
  have h20 := @run_callFunc_extern Tryd.prog 20 _ (ReflectliteValue.methodAny (ReflectliteValue.valueError "reflectlite.Value.Type" 0) (fun t _ _ _ => ReflectliteType.toType t)) Tryd.func20 (by kernel_rfl) (by kernel_rfl) (by kernel_rfl) (by kernel_rfl)
  have h21 := @run_callFunc_extern Tryd.prog 21 _ (ReflectliteValue.method (ReflectliteValue.valueError "reflectlite.Value.IsNil" 0) ReflectliteValue.isNil) Tryd.func21 (by kernel_rfl) (by kernel_rfl) (by kernel_rfl) (by kernel_rfl)
  have h43 := @run_callFunc_extern Tryd.prog 43 _ (ReflectliteType.abiMethod fun t => do pure (.int .u8 (← Rtype.kind t))) Tryd.func43 (by kernel_rfl) (by kernel_rfl) (by kernel_rfl) (by kernel_rfl)
  have h55 := @run_callFunc_extern Tryd.prog 55 _ (ReflectliteType.method ReflectliteType.elem) Tryd.func55 (by kernel_rfl) (by kernel_rfl) (by kernel_rfl) (by kernel_rfl)
  have h56 := @run_callFunc_extern Tryd.prog 56 _ (ReflectliteType.relation "Implements" ReflectliteType.implements_) Tryd.func56 (by kernel_rfl) (by kernel_rfl) (by kernel_rfl) (by kernel_rfl)
  have f6 := valueOfP
  have f7 := typeP
  have mK := mKind
  have mE := mElem
  have mI := mImplements
  have k1 := kindP
  have k2 := kindP2
  have e1 := elemP
  have i1 := implP
  have tl : t < w.heap.size := by
    rcases Nat.lt_or_ge t w.heap.size with h | h
    · exact h
    · simp [World.cell?, Array.getElem?_eq_none h] at t0
  obtain ⟨wA, hwA⟩ : ∃ wA, w.alloc (.cells #[.pointer (some ⟨t, 0, none⟩)] 57) = wA := ⟨_, rfl⟩
  have zA : wA.heap.size = w.heap.size + 1 := by rw [← hwA]; simp
  have gA : w.grownBy wA none := hwA ▸ World.grownBy_alloc _ _ _
  have pA : wA.cell? ⟨w.heap.size, 0, none⟩ = some (.pointer (some ⟨t, 0, none⟩)) := hwA ▸ new_cell rfl _ _ _
  obtain ⟨wB, hwB⟩ : ∃ wB, wA.alloc (.cells #[hT 57, .pointer (some ⟨w.heap.size, 0, none⟩), .int .u64 150] 64) = wB := ⟨_, rfl⟩
  have zB : wB.heap.size = w.heap.size + 2 := by rw [← hwB]; simp [zA]
  have gB : w.grownBy wB none := hwB ▸ grown_trans gA (World.grownBy_alloc _ _ _)
  have b0 : wB.cell? ⟨w.heap.size + 1, 0, none⟩ = some (hT 57) := hwB ▸ new_cell zA _ _ _
  have b1 : wB.cell? ⟨w.heap.size + 1, 1, none⟩ = some (.pointer (some ⟨w.heap.size, 0, none⟩)) := hwB ▸ new_cell zA _ _ _
  have b2 : wB.cell? ⟨w.heap.size + 1, 2, none⟩ = some (.int .u64 150) := hwB ▸ new_cell zA _ _ _
  have hgB : wB.cell? ⟨0, 0, none⟩ = some (.iface 75 (.agg #[hT 36])) := gB.cell hg (fun e => by cases e)
  have pB : wB.cell? ⟨w.heap.size, 0, none⟩ = some (.pointer (some ⟨t, 0, none⟩)) := hwB ▸ cell_alloc_l _ pA
  have n8 := isNilP ⟨w.heap.size, 0, none⟩ ⟨t, 0, none⟩ wB pB
  have HAs := hide2 (asIn_placed t w.heap.size f c l o0 o1 o2 wB pB (gB.cell t0 (fun e => by cases e)) (gB.cell t1 (fun e => by cases e)) (gB.cell t2 (fun e => by cases e)) (fun j => (World.frozen?_of_block (gB.block t tl (fun e => by cases e))).trans (tf j)))
  have HGB : Hid (w.grownBy wB (some t)) := ⟨gB.os, gB.tape, gB.output, gB.size, fun k hk _ => gB.block k hk (fun e => by cases e)⟩
  clear gB gA t0 t1 t2 tf
  simp only [hT, rT] at f6 f7 k1 k2 e1 i1 hwB b0 hgB n8 hg
  go_enter Tryd.func14, Tryd.ntmps14
  go_wp2_with (go_at_call 22; refine (HAs.out).mono ?_; rintro e w2 ⟨rfl, q0, q1, hg2⟩)
  go_ret
  exact ⟨rfl, q0, q1, grown_trans HGB.out hg2⟩

set_option maxHeartbeats 4000000 in
/-- errors.As at a placed error, a *wrong for its target -/
theorem as_wrong (t : Nat) (f : ByteArray) (c l : Nat) (o0 : Value) (w : World) (hg : w.cell? ⟨0, 0, none⟩ = some (.iface 75 (.agg #[hT 36])))
    (t0 : w.cell? ⟨t, 0, none⟩ = some o0) (tf : ∀ j, w.frozen? ⟨t, j, none⟩ = false) :
    Calls Tryd.prog 14 #[.iface 54 (errA f c l), .iface 56 (.pointer (some ⟨t, 0, none⟩))] w fun ev w' => ev = .returned (.bool true) ∧
      w'.cell? ⟨t, 0, none⟩ = some (.int .i64 (c : Int)) ∧ w.grownBy w' (some t) := by
  have h19 := @run_callFunc_extern Tryd.prog 19 _ (fun args => ReflectliteValue.unpack (args.getD 0 (.tuple #[]))) Tryd.func19 (by kernel_rfl) (by kernel_rfl) (by kernel_rfl) (by kernel_rfl)
  have h20 := @run_callFunc_extern Tryd.prog 20 _ (ReflectliteValue.methodAny (ReflectliteValue.valueError "reflectlite.Value.Type" 0) (fun t _ _ _ => ReflectliteType.toType t)) Tryd.func20 (by kernel_rfl) (by kernel_rfl) (by kernel_rfl) (by kernel_rfl)
  have h21 := @run_callFunc_extern Tryd.prog 21 _ (ReflectliteValue.method (ReflectliteValue.valueError "reflectlite.Value.IsNil" 0) ReflectliteValue.isNil) Tryd.func21 (by kernel_rfl) (by kernel_rfl) (by kernel_rfl) (by kernel_rfl)
  have h43 := @run_callFunc_extern Tryd.prog 43 _ (ReflectliteType.abiMethod fun t => do pure (.int .u8 (← Rtype.kind t))) Tryd.func43 (by kernel_rfl) (by kernel_rfl) (by kernel_rfl) (by kernel_rfl)
  have h55 := @run_callFunc_extern Tryd.prog 55 _ (ReflectliteType.method ReflectliteType.elem) Tryd.func55 (by kernel_rfl) (by kernel_rfl) (by kernel_rfl) (by kernel_rfl)
  have h56 := @run_callFunc_extern Tryd.prog 56 _ (ReflectliteType.relation "Implements" ReflectliteType.implements_) Tryd.func56 (by kernel_rfl) (by kernel_rfl) (by kernel_rfl) (by kernel_rfl)
  have f6 := valueOfW
  have f7 := typeW
  have mK := mKind
  have mE := mElem
  have mI := mImplements
  have k1 := kindW
  have k2 := kindW2
  have e1 := elemW
  have i1 := implW
  have tl : t < w.heap.size := by
    rcases Nat.lt_or_ge t w.heap.size with h | h
    · exact h
    · simp [World.cell?, Array.getElem?_eq_none h] at t0
  obtain ⟨wA, hwA⟩ : ∃ wA, w.alloc (.cells #[.pointer (some ⟨t, 0, none⟩)] 56) = wA := ⟨_, rfl⟩
  have zA : wA.heap.size = w.heap.size + 1 := by rw [← hwA]; simp
  have gA : w.grownBy wA none := hwA ▸ World.grownBy_alloc _ _ _
  have pA : wA.cell? ⟨w.heap.size, 0, none⟩ = some (.pointer (some ⟨t, 0, none⟩)) := hwA ▸ new_cell rfl _ _ _
  obtain ⟨wB, hwB⟩ : ∃ wB, wA.alloc (.cells #[hT 56, .pointer (some ⟨w.heap.size, 0, none⟩), .int .u64 150] 64) = wB := ⟨_, rfl⟩
  have zB : wB.heap.size = w.heap.size + 2 := by rw [← hwB]; simp [zA]
  have gB : w.grownBy wB none := hwB ▸ grown_trans gA (World.grownBy_alloc _ _ _)
  have b0 : wB.cell? ⟨w.heap.size + 1, 0, none⟩ = some (hT 56) := hwB ▸ new_cell zA _ _ _
  have b1 : wB.cell? ⟨w.heap.size + 1, 1, none⟩ = some (.pointer (some ⟨w.heap.size, 0, none⟩)) := hwB ▸ new_cell zA _ _ _
  have b2 : wB.cell? ⟨w.heap.size + 1, 2, none⟩ = some (.int .u64 150) := hwB ▸ new_cell zA _ _ _
  have hgB : wB.cell? ⟨0, 0, none⟩ = some (.iface 75 (.agg #[hT 36])) := gB.cell hg (fun e => by cases e)
  have pB : wB.cell? ⟨w.heap.size, 0, none⟩ = some (.pointer (some ⟨t, 0, none⟩)) := hwB ▸ cell_alloc_l _ pA
  have n8 := isNilW ⟨w.heap.size, 0, none⟩ ⟨t, 0, none⟩ wB pB
  have HAs := hide2 (asIn_wrong t w.heap.size f c l o0 wB pB (gB.cell t0 (fun e => by cases e)) (fun j => (World.frozen?_of_block (gB.block t tl (fun e => by cases e))).trans (tf j)))
  have HGB : Hid (w.grownBy wB (some t)) := ⟨gB.os, gB.tape, gB.output, gB.size, fun k hk _ => gB.block k hk (fun e => by cases e)⟩
  clear gB gA t0 tf
  simp only [hT, rT] at f6 f7 k1 k2 e1 i1 hwB b0 hgB n8 hg
  go_enter Tryd.func14, Tryd.ntmps14
  go_wp2_with (go_at_call 22; refine (HAs.out).mono ?_; rintro e w2 ⟨rfl, q0, hg2⟩)
  go_ret
  exact ⟨rfl, q0, grown_trans HGB.out hg2⟩
end Go.Proofs.YtclonjmhbgllkaaDoor
