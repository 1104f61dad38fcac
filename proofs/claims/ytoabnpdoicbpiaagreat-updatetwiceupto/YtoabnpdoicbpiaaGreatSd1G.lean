import Derived.Test.YtoabnpdoicbpiaaGreatWkG
import Derived.Test.YtoabnpdoicbpiaaGreatMath13G
import Derived.Deep.RegionWith
import Derived.Test.YtoabnpdoicbpiaaGreatGr0G
namespace Go.Proofs.YtoabnpdoicbpiaaGreat.Nm
set_option linter.unusedVariables false
def hN (M P : Nat) (s : ByteArray) : Nat → Nat
 | 0 => 1
 | k + 1 => (hN M P s k * M + bt s k + 1) % P
def nB (v n : Nat) : ByteArray := bts ((List.range n).map fun i => v / 256 ^ (n - 1 - i) % 256)
theorem nB_size (v n : Nat) : (nB v n).size = n := by unfold nB; rw [bts_size]; simp
theorem nB_bt (v n i : Nat) (h : i < n) : bt (nB v n) i = v / 256 ^ (n - 1 - i) % 256 := by
 unfold nB
 rw [bts_bt _ (fun x hx => by obtain ⟨j, _, rfl⟩ := List.mem_map.1 hx; exact Nat.mod_lt _ (by omega)) i (by simpa using h)]
 simp
end Go.Proofs.YtoabnpdoicbpiaaGreat.Nm
namespace Go.Proofs.YtoabnpdoicbpiaaGreat
open Go.RowKit Go.Shelf Go.Proofs.YtoabnpdoicbpiaaGreat.Nm
end Go.Proofs.YtoabnpdoicbpiaaGreat
namespace Go.Proofs.YtoabnpdoicbpiaaGreat
set_option linter.unusedVariables false
open Go.RowKit Go.Shelf Go.Proofs.YtoabnpdoicbpiaaGreat.Nm
theorem Tryz.infoByte : (Tryz.prog.info? 5).map (fun i => (i.zero, i.size, i.bytes)) = some (some (.int .u8 0), 1, 1) := by kernel_rfl
theorem holdsB_made (w : World) (n : Nat) (t : TypeId) : HoldsB (w.alloc (.cells (madeCells #[.int .u8 0] n) t)) w.heap.size n (fun _ => 0) := by
 refine ⟨by simp, fun j hj => ?_, fun j hj => ?_⟩
 ·rw [World.cell?_alloc_mark]
  simp [madeCells, hj, Nat.mod_one]
 ·have : (w.alloc (.cells (madeCells #[.int .u8 0] n) t)).heap[w.heap.size]? = some (.cells (madeCells #[.int .u8 0] n) t) := by
   show (w.heap.push _)[w.heap.size]? = _
   simp
  simp only [World.frozen?, this]
  simp
theorem byte_shift (v m : Nat) : (v : Int) / 2 ^ (8 * m) % 256 = ((v / 256 ^ m % 256 : Nat) : Int) := by
 rw [show (256 : Nat) ^ m = 2 ^ (8 * m) by rw [Nat.pow_mul]]
 generalize 8 * m = e
 simp
set_option maxRecDepth 100000 in
set_option maxHeartbeats 1000000 in
theorem spellBytes_any (n v : Nat) (w : World) (hn : n ≤ 8) (hv : v ≤ 9007199254740992) :
  Calls Tryz.prog 64 #[.int .i64 (v : Int), .int .i64 (n : Int)] w fun e w' => e = .returned (.string (nB v n)) ∧ Below w.heap.size w w' := by
 obtain ⟨i0, hi, hz0, hz1, hz2⟩ := info_parts Tryz.infoByte
 have hmk : ∀ u : World, (Instr.makeSlice 146 (.int .i64 (n : Int)) (.int .i64 (n : Int))).run Tryz.prog u = .ok (.slice (some ⟨u.heap.size, 0, none⟩) n n) (u.alloc (.cells (madeCells #[.int .u8 0] n) 5)) := fun u => by
  have h := run_make (P := Tryz.prog) u 146 5 i0 (.int .u8 0) Tryz.underlying146 hi hz0 .i64 .i64 (n : Int) (n : Int) (by omega) (by omega) (by rw [hz2]; omega) (by omega)
  simpa [hz1, Value.cells] using h
 go_enter Tryz.func64, Tryz.ntmps64
 go_wp2
 clear hmk
 go_loopw [11] (fun i wr => ∃ k : Nat, i = .int .i64 k ∧ k ≤ n ∧ HoldsB wr w.heap.size n (fun j => if j < k then v / 256 ^ (n - 1 - j) % 256 else 0) ∧ Below w.heap.size w wr)
  (fun i _ => n - (intOf i).toNat)
 case atStart => exact ⟨0, rfl, Nat.zero_le _, (holdsB_made _ _ _).congr (by simp), (Below.refl _ _).alloc (Nat.le_refl _) _⟩
 case round =>
  obtain ⟨k, rfl, hk, hH, hBr⟩ := hrel
  by_cases hlt : k < n
  ·have hc := hH.cell k hlt
   have hfr := hH.free k hlt
   simp only [Nat.lt_irrefl, if_false] at hc
   go_wp2_with fail
   rw [byte_shift v (n - 1 - k)]
   refine ⟨⟨k + 1, by go_num, by omega, (hH.set k (v / 256 ^ (n - 1 - k) % 256) hlt).congr fun j hj => ?_, hBr.setCell (p := ⟨w.heap.size, k, none⟩) (Nat.le_refl _) _⟩, by simp [intOf]; omega⟩
   by_cases e : j = k
   ·subst e; rw [if_pos rfl, if_pos (by omega)]
   ·rw [if_neg e]
    by_cases e2 : j < k
    ·rw [if_pos e2, if_pos (by omega)]
    ·rw [if_neg e2, if_neg (by omega)]
  ·obtain rfl : k = n := by omega
   have hst : ∀ cap, (convert 146 9 (.slice (some ⟨w.heap.size, 0, none⟩) k cap)).run Tryz.prog wr = .ok (.string (nB v k)) wr := fun cap => by
    have hz := nB_size v k
    have hH' : HoldsB wr w.heap.size (nB v k).size (fun j => if j < k then v / 256 ^ (k - 1 - j) % 256 else 0) := by rw [hz]; exact hH
    have h := hH'.str (fun j hj => by rw [hz] at hj; rw [if_pos hj, nB_bt _ _ _ hj]) cap
    rwa [hz] at h
   go_wp2
   go_ret
   exact ⟨rfl, hBr⟩
end Go.Proofs.YtoabnpdoicbpiaaGreat
namespace Go.Proofs.YtoabnpdoicbpiaaGreat
set_option linter.unusedVariables false
open Go.RowKit Go.Shelf Go.Proofs.YtoabnpdoicbpiaaGreat.Nm
structure SumAt (w : World) (B h M P : Nat) : Prop where
 lt : B < w.heap.size
 c0 : w.cell? ⟨B, 0, none⟩ = some (.int .u64 (h : Int))
 c1 : w.cell? ⟨B, 1, none⟩ = some (.int .u64 (M : Int))
 c2 : w.cell? ⟨B, 2, none⟩ = some (.int .u64 (P : Int))
 f0 : w.frozen? ⟨B, 0, none⟩ = false
theorem SumAt.set {w : World} {B h M P : Nat} (hS : SumAt w B h M P) (h' : Nat) : SumAt (w.setCell ⟨B, 0, none⟩ (.int .u64 (h' : Int))).drew B h' M P := by
 refine ⟨by simpa [World.setCell] using hS.lt, ?_, ?_, ?_, ?_⟩
 ·exact World.cell?_setCell_same' _ _ _ (by rw [hS.c0]; rfl)
 ·exact (World.cell?_setCell_other _ _ _ _ (fun e => by simp at e)).trans hS.c1
 ·exact (World.cell?_setCell_other _ _ _ _ (fun e => by simp at e)).trans hS.c2
 ·exact (World.frozen?_setCell _ _ _ _).trans hS.f0
theorem SumAt.below {w w' : World} {B h M P : Nat} (hS : SumAt w B h M P) (hb : Below w.heap.size w w') : SumAt w' B h M P :=
 ⟨Nat.lt_of_lt_of_le hS.lt hb.size, (hb.cell (p := ⟨B, 0, none⟩) hS.lt).trans hS.c0, (hb.cell (p := ⟨B, 1, none⟩) hS.lt).trans hS.c1, (hb.cell (p := ⟨B, 2, none⟩) hS.lt).trans hS.c2, (hb.frozen (p := ⟨B, 0, none⟩) hS.lt).trans hS.f0⟩
theorem SumAt.alloc {w : World} {B h M P : Nat} (hS : SumAt w B h M P) (o : Obj) : SumAt (w.alloc o) B h M P := hS.below ((Below.refl _ _).alloc (Nat.le_refl _) _)
end Go.Proofs.YtoabnpdoicbpiaaGreat
namespace Go.Proofs.YtoabnpdoicbpiaaGreat
set_option linter.unusedVariables false
open Go.RowKit Go.Shelf Go.Proofs.YtoabnpdoicbpiaaGreat.Nm
end Go.Proofs.YtoabnpdoicbpiaaGreat
namespace Go.Proofs.YtoabnpdoicbpiaaGreat.Nm
set_option linter.unusedVariables false
def vN (s : ByteArray) : Nat → Nat
 | 0 => 0
 | k + 1 => vN s k * 256 + bt s k
theorem vN_lt (s : ByteArray) : ∀ k, vN s k < 256 ^ k
 | 0 => by simp [vN]
 | k + 1 => by
  have h1 := vN_lt s k
  have h2 := bt_lt s k
  rw [vN, Nat.pow_succ]
  omega
end Go.Proofs.YtoabnpdoicbpiaaGreat.Nm
namespace Go.Proofs.YtoabnpdoicbpiaaGreat
set_option linter.unusedVariables false
open Go.RowKit Go.Shelf Go.Proofs.YtoabnpdoicbpiaaGreat.Nm
set_option maxRecDepth 100000 in
set_option maxHeartbeats 1000000 in
theorem spellValue_any (s : ByteArray) (w : World) (hs : s.size ≤ 4) :
  Calls Tryz.prog 63 #[.string s] w fun e w' => e = .returned (.int .i64 (vN s s.size : Int)) ∧ w' = w := by
 go_enter Tryz.func63, Tryz.ntmps63
 go_wp2
 go_loop [3, 7] (fun a i => ∃ j : Nat, i = .int .i64 (j : Int) ∧ a = .int .i64 (vN s j : Int) ∧ j ≤ s.size) (fun _ i => s.size - (intOf i).toNat)
 case atStart => exact ⟨0, rfl, rfl, Nat.zero_le _⟩
 case round =>
  obtain ⟨j, rfl, rfl, hj⟩ := hrel
  by_cases hlt : j < s.size
  ·obtain ⟨y, hy, hy256⟩ : ∃ y, bt s j = y ∧ y < 256 := ⟨_, rfl, bt_lt _ _⟩
   have hby : (s[j]'hlt).toNat = y := (bt_eq hlt).trans hy
   have hl : vN s j < 16777216 := by
    have h1 := vN_lt s j
    have h2 : 256 ^ j ≤ 256 ^ 3 := Nat.pow_le_pow_right (by omega) (by omega)
    omega
   have HE : Hid (vN s (j + 1) = vN s j * 256 + y) := by unfold Hid; rw [vN, hy]
   generalize vN s j = x at *
   have hor : bits .or .i64 ((x : Int) * 256) (y : Int) = ((x * 256 + y : Nat) : Int) := by
    have := or_shl 8 x y (by omega) (by omega) (by omega)
    simpa using this
   go_wp2_with fail
   exact ⟨⟨j + 1, by go_num, by rw [HE.out]; congr 1 <;> omega, by omega⟩, by simp [intOf]; omega⟩
  ·obtain rfl : j = s.size := by omega
   go_wp2
   go_ret
   exact ⟨rfl, rfl⟩
end Go.Proofs.YtoabnpdoicbpiaaGreat
