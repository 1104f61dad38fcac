import Derived.Test.YtelboefeomnjaaaGreatLowG
import Derived.Test.YtelboefeomnjaaaGreatMath13G
import Derived.Deep.RegionWith
import Derived.Test.YtelboefeomnjaaaGreatBt1G
namespace Go.Proofs.YtelboefeomnjaaaGreat.Nm
set_option linter.unusedVariables false

/-- one number of a digest behind k bytes -/
def hN (M P : Nat) (s : ByteArray) : Nat → Nat
  | 0 => 1
  | k + 1 => (hN M P s k * M + bt s k + 1) % P
end Go.Proofs.YtelboefeomnjaaaGreat.Nm
namespace Go.Proofs.YtelboefeomnjaaaGreat
open Go.RowKit Go.Shelf Go.Proofs.YtelboefeomnjaaaGreat.Nm

end Go.Proofs.YtelboefeomnjaaaGreat

namespace Go.Proofs.YtelboefeomnjaaaGreat
set_option linter.unusedVariables false
open Go.RowKit Go.Shelf Go.Proofs.YtelboefeomnjaaaGreat.Nm

theorem Tryz.infoByte : (Tryz.prog.info? 5).map (fun i => (i.zero, i.size, i.bytes)) = some (some (.int .u8 0), 1, 1) := by kernel_rfl

end Go.Proofs.YtelboefeomnjaaaGreat

namespace Go.Proofs.YtelboefeomnjaaaGreat
set_option linter.unusedVariables false
open Go.RowKit Go.Shelf Go.Proofs.YtelboefeomnjaaaGreat.Nm

/-- a sum in memory -/
structure SumAt (w : World) (B h M P : Nat) : Prop where
  lt : B < w.heap.size
  c0 : w.cell? ⟨B, 0, none⟩ = some (.int .u64 (h : Int))
  c1 : w.cell? ⟨B, 1, none⟩ = some (.int .u64 (M : Int))
  c2 : w.cell? ⟨B, 2, none⟩ = some (.int .u64 (P : Int))
  f0 : w.frozen? ⟨B, 0, none⟩ = false

theorem SumAt.set {w : World} {B h M P : Nat} (hS : SumAt w B h M P) (h' : Nat) : SumAt (w.setCell ⟨B, 0, none⟩ (.int .u64 (h' : Int))).drew B h' M P := by
  refine ⟨by simpa [World.setCell] using hS.lt, ?_, ?_, ?_, ?_⟩
  · exact World.cell?_setCell_same' _ _ _ (by rw [hS.c0]; rfl)
  · exact (World.cell?_setCell_other _ _ _ _ (fun e => by simp at e)).trans hS.c1
  · exact (World.cell?_setCell_other _ _ _ _ (fun e => by simp at e)).trans hS.c2
  · exact (World.frozen?_setCell _ _ _ _).trans hS.f0
theorem SumAt.other {w : World} {B C h M P : Nat} (hS : SumAt w B h M P) (hne : C ≠ B) (v : Value) : SumAt (w.setCell ⟨C, 0, none⟩ v).drew B h M P := by
  refine ⟨by simpa [World.setCell] using hS.lt, ?_, ?_, ?_, ?_⟩
  · exact (cell_far w _ _ _ hne).trans hS.c0
  · exact (cell_far w _ _ _ hne).trans hS.c1
  · exact (cell_far w _ _ _ hne).trans hS.c2
  · exact (World.frozen?_setCell _ _ _ _).trans hS.f0
theorem SumAt.below {w w' : World} {B h M P : Nat} (hS : SumAt w B h M P) (hb : Below w.heap.size w w') : SumAt w' B h M P :=
  ⟨Nat.lt_of_lt_of_le hS.lt hb.size, (hb.cell (p := ⟨B, 0, none⟩) hS.lt).trans hS.c0, (hb.cell (p := ⟨B, 1, none⟩) hS.lt).trans hS.c1, (hb.cell (p := ⟨B, 2, none⟩) hS.lt).trans hS.c2, (hb.frozen (p := ⟨B, 0, none⟩) hS.lt).trans hS.f0⟩

theorem SumAt.alloc {w : World} {B h M P : Nat} (hS : SumAt w B h M P) (o : Obj) : SumAt (w.alloc o) B h M P := hS.below ((Below.refl _ _).alloc (Nat.le_refl _) _)

end Go.Proofs.YtelboefeomnjaaaGreat

namespace Go.Proofs.YtelboefeomnjaaaGreat
set_option linter.unusedVariables false
open Go.RowKit Go.Shelf Go.Proofs.YtelboefeomnjaaaGreat.Nm

end Go.Proofs.YtelboefeomnjaaaGreat

namespace Go.Proofs.YtelboefeomnjaaaGreat.Nm
set_option linter.unusedVariables false

/-- the number that bytes are -/
def vN (s : ByteArray) : Nat → Nat
  | 0 => 0
  | k + 1 => vN s k * 256 + bt s k
theorem vN_lt (s : ByteArray) : ∀ k, vN s k < 256 ^ k
  | 0 => by simp [vN]
  | k + 1 => by
    have h1 := vN_lt s k
    have h2 := bt_lt s k
    rw [vN, Nat.pow_succ]
    omega
end Go.Proofs.YtelboefeomnjaaaGreat.Nm
namespace Go.Proofs.YtelboefeomnjaaaGreat
set_option linter.unusedVariables false
open Go.RowKit Go.Shelf Go.Proofs.YtelboefeomnjaaaGreat.Nm

set_option maxRecDepth 100000 in
set_option maxHeartbeats 1000000 in
/-- spell.Value -/
theorem spellValue_any (s : ByteArray) (w : World) (hs : s.size ≤ 4) :
    Calls Tryz.prog 41 #[.string s] w fun e w' => e = .returned (.int .i64 (vN s s.size : Int)) ∧ w' = w := by
  go_enter Tryz.func41, Tryz.ntmps41
  go_wp2
  go_loop [3, 7] (fun a i => ∃ j : Nat, i = .int .i64 (j : Int) ∧ a = .int .i64 (vN s j : Int) ∧ j ≤ s.size) (fun _ i => s.size - (intOf i).toNat)
  case atStart => exact ⟨0, rfl, rfl, Nat.zero_le _⟩
  case round =>
    obtain ⟨j, rfl, rfl, hj⟩ := hrel
    by_cases hlt : j < s.size
    · obtain ⟨y, hy, hy256⟩ : ∃ y, bt s j = y ∧ y < 256 := ⟨_, rfl, bt_lt _ _⟩
      have hby : (s[j]'hlt).toNat = y := (bt_eq hlt).trans hy
      have hl : vN s j < 16777216 := by
        have h1 := vN_lt s j
        have h2 : 256 ^ j ≤ 256 ^ 3 := Nat.pow_le_pow_right (by omega) (by omega)
        omega
      have HE : Hid (vN s (j + 1) = vN s j * 256 + y) := by unfold Hid; rw [vN, hy]
      generalize vN s j = x at *
      have hor : bits .or .i64 ((x : Int) * 256) (y : Int) = ((x * 256 + y : Nat) : Int) := by
        have := or_shl 8 x y (by omega) (by omega) (by omega)
        simpa using this
      go_wp2_with fail
      exact ⟨⟨j + 1, by go_num, by rw [HE.out]; congr 1 <;> omega, by omega⟩, by simp [intOf]; omega⟩
    · obtain rfl : j = s.size := by omega
      go_wp2
      go_ret
      exact ⟨rfl, rfl⟩

set_option maxRecDepth 100000 in
set_option maxHeartbeats 1000000 in
/-- gazetteerref1.Value -/
theorem refValue4_any (s : ByteArray) (w : World) (hs : s.size ≤ 4) :
    Calls Tryz.prog 47 #[.string s] w fun e w' => e = .returned (.int .i64 (vN s s.size : Int)) ∧ w' = w := by
  go_enter Tryz.func47, Tryz.ntmps47
  go_wp2
  go_loop [3, 4] (fun a i => ∃ j : Nat, i = .int .i64 (j : Int) ∧ a = .int .i64 (vN s j : Int) ∧ j ≤ s.size) (fun _ i => s.size - (intOf i).toNat)
  case atStart => exact ⟨0, rfl, rfl, Nat.zero_le _⟩
  case round =>
    obtain ⟨j, rfl, rfl, hj⟩ := hrel
    by_cases hlt : j < s.size
    · obtain ⟨y, hy, hy256⟩ : ∃ y, bt s j = y ∧ y < 256 := ⟨_, rfl, bt_lt _ _⟩
      have hby : (s[j]'hlt).toNat = y := (bt_eq hlt).trans hy
      have hl : vN s j < 16777216 := by
        have h1 := vN_lt s j
        have h2 : 256 ^ j ≤ 256 ^ 3 := Nat.pow_le_pow_right (by omega) (by omega)
        omega
      have HE : Hid (vN s (j + 1) = vN s j * 256 + y) := by unfold Hid; rw [vN, hy]
      generalize vN s j = x at *
      go_wp2
      go_round
      case rel => exact ⟨j + 1, by go_num, by rw [HE.out]; simp, by omega⟩
      case measure => simp [intOf]; omega
    · obtain rfl : j = s.size := by omega
      go_wp2
      go_ret
      exact ⟨rfl, rfl⟩

end Go.Proofs.YtelboefeomnjaaaGreat
