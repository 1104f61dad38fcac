import Derived.Test.YtmbjmokhkonpiaaGreatDoorSd3G
import Derived.Test.YtmbjmokhkonpiaaGreatDoorBt1G
namespace Go.Proofs.YtmbjmokhkonpiaaGreatDoor.Nm
set_option linter.unusedVariables false

/-- the number that bytes are -/
def vN (s : ByteArray) : Nat → Nat
  | 0 => 0
  | k + 1 => vN s k * 256 + bt s k
theorem vN_lt (s : ByteArray) : ∀ k, vN s k < 256 ^ k
  | 0 => by simp [vN]
  | k + 1 => by
    have h1 := vN_lt s k
    have h2 := bt_lt s k
    rw [vN, Nat.pow_succ]
    omega
end Go.Proofs.YtmbjmokhkonpiaaGreatDoor.Nm
namespace Go.Proofs.YtmbjmokhkonpiaaGreatDoor
set_option linter.unusedVariables false
open Go.RowKit Go.Shelf Go.Proofs.YtmbjmokhkonpiaaGreatDoor.Nm

set_option maxRecDepth 100000 in
set_option maxHeartbeats 1000000 in
/-- spell.Value -/
theorem spellValue_any (s : ByteArray) (w : World) (hs : s.size ≤ 4) :
    Calls Tryz.prog 106 #[.string s] w fun e w' => e = .returned (.int .i64 (vN s s.size : Int)) ∧ w' = w := by
  go_enter Tryz.func106, Tryz.ntmps106
  go_wp2
  go_loop [3, 7] (fun a i => ∃ j : Nat, i = .int .i64 (j : Int) ∧ a = .int .i64 (vN s j : Int) ∧ j ≤ s.size) (fun _ i => s.size - (intOf i).toNat)
  case atStart => exact ⟨0, rfl, rfl, Nat.zero_le _⟩
  case round =>
    obtain ⟨j, rfl, rfl, hj⟩ := hrel
    by_cases hlt : j < s.size
    · obtain ⟨y, hy, hy256⟩ : ∃ y, bt s j = y ∧ y < 256 := ⟨_, rfl, bt_lt _ _⟩
      have hby : (s[j]'hlt).toNat = y := (bt_eq hlt).trans hy
      have hl : vN s j < 16777216 := by
        have h1 := vN_lt s j
        have h2 : 256 ^ j ≤ 256 ^ 3 := Nat.pow_le_pow_right (by omega) (by omega)
        omega
      have HE : Hid (vN s (j + 1) = vN s j * 256 + y) := by unfold Hid; rw [vN, hy]
      generalize vN s j = x at *
      have hor : bits .or .i64 ((x : Int) * 256) (y : Int) = ((x * 256 + y : Nat) : Int) := by
        have := or_shl 8 x y (by omega) (by omega) (by omega)
        simpa using this
      go_wp2_with fail
      exact ⟨⟨j + 1, by go_num, by rw [HE.out]; congr 1 <;> omega, by omega⟩, by simp [intOf]; omega⟩
    · obtain rfl : j = s.size := by omega
      go_wp2
      go_ret
      exact ⟨rfl, rfl⟩

set_option maxRecDepth 100000 in
set_option maxHeartbeats 1000000 in
/-- gazetteerref1.Value -/
theorem refValue4_any (s : ByteArray) (w : World) (hs : s.size ≤ 4) :
    Calls Tryz.prog 62 #[.string s] w fun e w' => e = .returned (.int .i64 (vN s s.size : Int)) ∧ w' = w := by
  go_enter Tryz.func62, Tryz.ntmps62
  go_wp2
  go_loop [3, 4] (fun a i => ∃ j : Nat, i = .int .i64 (j : Int) ∧ a = .int .i64 (vN s j : Int) ∧ j ≤ s.size) (fun _ i => s.size - (intOf i).toNat)
  case atStart => exact ⟨0, rfl, rfl, Nat.zero_le _⟩
  case round =>
    obtain ⟨j, rfl, rfl, hj⟩ := hrel
    by_cases hlt : j < s.size
    · obtain ⟨y, hy, hy256⟩ : ∃ y, bt s j = y ∧ y < 256 := ⟨_, rfl, bt_lt _ _⟩
      have hby : (s[j]'hlt).toNat = y := (bt_eq hlt).trans hy
      have hl : vN s j < 16777216 := by
        have h1 := vN_lt s j
        have h2 : 256 ^ j ≤ 256 ^ 3 := Nat.pow_le_pow_right (by omega) (by omega)
        omega
      have HE : Hid (vN s (j + 1) = vN s j * 256 + y) := by unfold Hid; rw [vN, hy]
      generalize vN s j = x at *
      go_wp2
      go_round
      case rel => exact ⟨j + 1, by go_num, by rw [HE.out]; simp, by omega⟩
      case measure => simp [intOf]; omega
    · obtain rfl : j = s.size := by omega
      go_wp2
      go_ret
      exact ⟨rfl, rfl⟩

end Go.Proofs.YtmbjmokhkonpiaaGreatDoor
