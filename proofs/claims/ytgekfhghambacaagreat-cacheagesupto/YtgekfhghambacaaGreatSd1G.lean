import Derived.Test.YtgekfhghambacaaGreatWkG
import Derived.Test.YtgekfhghambacaaGreatMath13G
import Derived.Deep.RegionWith
namespace Go.Proofs.YtgekfhghambacaaGreat.Nm
set_option linter.unusedVariables false

/-- one number of a digest behind k bytes -/
def hN (M P : Nat) (s : ByteArray) : Nat → Nat
  | 0 => 1
  | k + 1 => (hN M P s k * M + bt s k + 1) % P
theorem hN_lt (M P : Nat) (s : ByteArray) (hP : 1 < P) : ∀ k, hN M P s k < P
  | 0 => hP
  | k + 1 => Nat.mod_lt _ (by omega)

/-- a number as so many bytes, the highest first -/
def nB (v n : Nat) : ByteArray := bts ((List.range n).map fun i => v / 256 ^ (n - 1 - i) % 256)
theorem nB_size (v n : Nat) : (nB v n).size = n := by unfold nB; rw [bts_size]; simp
theorem nB_bt (v n i : Nat) (h : i < n) : bt (nB v n) i = v / 256 ^ (n - 1 - i) % 256 := by
  unfold nB
  rw [bts_bt _ (fun x hx => by obtain ⟨j, _, rfl⟩ := List.mem_map.1 hx; exact Nat.mod_lt _ (by omega)) i (by simpa using h)]
  simp
/-- a digest -/
def digB (s : ByteArray) : ByteArray := nB (hN 1000003 1099511627689 s s.size) 5 ++ nB (hN 999983 1099511627563 s s.size) 5
theorem digB_size (s : ByteArray) : (digB s).size = 10 := by unfold digB; rw [ByteArray.size_append, nB_size, nB_size]

/-- a name's hash -/
def hashB (n salt : ByteArray) : Nat → ByteArray
  | 0 => digB (foldB n ++ salt)
  | k + 1 => digB (hashB n salt k ++ salt)
theorem hashB_size (n salt : ByteArray) : ∀ k, (hashB n salt k).size = 10
  | 0 => digB_size _
  | k + 1 => digB_size _
end Go.Proofs.YtgekfhghambacaaGreat.Nm
namespace Go.Proofs.YtgekfhghambacaaGreat
open Go.RowKit Go.Shelf Go.Proofs.YtgekfhghambacaaGreat.Nm

end Go.Proofs.YtgekfhghambacaaGreat

namespace Go.Proofs.YtgekfhghambacaaGreat
set_option linter.unusedVariables false
open Go.RowKit Go.Shelf Go.Proofs.YtgekfhghambacaaGreat.Nm

theorem Tryz.infoByte : (Tryz.prog.info? 5).map (fun i => (i.zero, i.size, i.bytes)) = some (some (.int .u8 0), 1, 1) := by kernel_rfl

theorem holdsB_made (w : World) (n : Nat) (t : TypeId) : HoldsB (w.alloc (.cells (madeCells #[.int .u8 0] n) t)) w.heap.size n (fun _ => 0) := by
  refine ⟨by simp, fun j hj => ?_, fun j hj => ?_⟩
  · rw [World.cell?_alloc_mark]
    simp [madeCells, hj, Nat.mod_one]
  · have : (w.alloc (.cells (madeCells #[.int .u8 0] n) t)).heap[w.heap.size]? = some (.cells (madeCells #[.int .u8 0] n) t) := by
      show (w.heap.push _)[w.heap.size]? = _
      simp
    simp only [World.frozen?, this]
    simp

theorem byte_shift (v m : Nat) : (v : Int) / 2 ^ (8 * m) % 256 = ((v / 256 ^ m % 256 : Nat) : Int) := by
  rw [show (256 : Nat) ^ m = 2 ^ (8 * m) by rw [Nat.pow_mul]]
  generalize 8 * m = e
  simp

set_option maxRecDepth 100000 in
set_option maxHeartbeats 1000000 in
/-- spell.Bytes -/
theorem spellBytes_any (n v : Nat) (w : World) (hn : n ≤ 8) (hv : v ≤ 9007199254740992) :
    Calls Tryz.prog 174 #[.int .i64 (v : Int), .int .i64 (n : Int)] w fun e w' => e = .returned (.string (nB v n)) ∧ Below w.heap.size w w' := by
  obtain ⟨i0, hi, hz0, hz1, hz2⟩ := info_parts Tryz.infoByte
  have hmk : ∀ u : World, (Instr.makeSlice 125 (.int .i64 (n : Int)) (.int .i64 (n : Int))).run Tryz.prog u = .ok (.slice (some ⟨u.heap.size, 0, none⟩) n n) (u.alloc (.cells (madeCells #[.int .u8 0] n) 5)) := fun u => by
    have h := run_make (P := Tryz.prog) u 125 5 i0 (.int .u8 0) Tryz.underlying125 hi hz0 .i64 .i64 (n : Int) (n : Int) (by omega) (by omega) (by rw [hz2]; omega) (by omega)
    simpa [hz1, Value.cells] using h
  go_enter Tryz.func174, Tryz.ntmps174
  go_wp2
  clear hmk
  go_loopw [11] (fun i wr => ∃ k : Nat, i = .int .i64 k ∧ k ≤ n ∧ HoldsB wr w.heap.size n (fun j => if j < k then v / 256 ^ (n - 1 - j) % 256 else 0) ∧ Below w.heap.size w wr)
    (fun i _ => n - (intOf i).toNat)
  case atStart => exact ⟨0, rfl, Nat.zero_le _, (holdsB_made _ _ _).congr (by simp), (Below.refl _ _).alloc (Nat.le_refl _) _⟩
  case round =>
    obtain ⟨k, rfl, hk, hH, hBr⟩ := hrel
    by_cases hlt : k < n
    · have hc := hH.cell k hlt
      have hfr := hH.free k hlt
      simp only [Nat.lt_irrefl, if_false] at hc
      go_wp2_with fail
      rw [byte_shift v (n - 1 - k)]
      refine ⟨⟨k + 1, by go_num, by omega, (hH.set k (v / 256 ^ (n - 1 - k) % 256) hlt).congr fun j hj => ?_, hBr.setCell (p := ⟨w.heap.size, k, none⟩) (Nat.le_refl _) _⟩, by simp [intOf]; omega⟩
      by_cases e : j = k
      · subst e; rw [if_pos rfl, if_pos (by omega)]
      · rw [if_neg e]
        by_cases e2 : j < k
        · rw [if_pos e2, if_pos (by omega)]
        · rw [if_neg e2, if_neg (by omega)]
    · obtain rfl : k = n := by omega
      have hst : ∀ cap, (convert 125 9 (.slice (some ⟨w.heap.size, 0, none⟩) k cap)).run Tryz.prog wr = .ok (.string (nB v k)) wr := fun cap => by
        have hz := nB_size v k
        have hH' : HoldsB wr w.heap.size (nB v k).size (fun j => if j < k then v / 256 ^ (k - 1 - j) % 256 else 0) := by rw [hz]; exact hH
        have h := hH'.str (fun j hj => by rw [hz] at hj; rw [if_pos hj, nB_bt _ _ _ hj]) cap
        rwa [hz] at h
      go_wp2
      go_ret
      exact ⟨rfl, hBr⟩

end Go.Proofs.YtgekfhghambacaaGreat
