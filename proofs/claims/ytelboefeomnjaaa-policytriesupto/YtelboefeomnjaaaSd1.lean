import Derived.Test.YtelboefeomnjaaaLowG
import Derived.Test.YtelboefeomnjaaaMath13G
namespace Go.Proofs.Ytelboefeomnjaaa.Nm
set_option linter.unusedVariables false

/-- one number of a digest behind k bytes -/
def hN (M P : Nat) (s : ByteArray) : Nat → Nat
  | 0 => 1
  | k + 1 => (hN M P s k * M + bt s k + 1) % P
theorem hN_lt (M P : Nat) (s : ByteArray) (hP : 1 < P) : ∀ k, hN M P s k < P
  | 0 => hP
  | k + 1 => Nat.mod_lt _ (by omega)

/-- a number as so many bytes, the highest first -/
def nB (v n : Nat) : ByteArray := bts ((List.range n).map fun i => v / 256 ^ (n - 1 - i) % 256)
theorem nB_size (v n : Nat) : (nB v n).size = n := by unfold nB; rw [bts_size]; simp
theorem nB_bt (v n i : Nat) (h : i < n) : bt (nB v n) i = v / 256 ^ (n - 1 - i) % 256 := by
  unfold nB
  rw [bts_bt _ (fun x hx => by obtain ⟨j, _, rfl⟩ := List.mem_map.1 hx; exact Nat.mod_lt _ (by omega)) i (by simpa using h)]
  simp
theorem nB_zero (v : Nat) : nB v 0 = ByteArray.empty := rfl
theorem nB_succ (v n : Nat) : nB v (n + 1) = nB (v / 256) n ++ bts [v % 256] := by
  unfold nB
  rw [List.range_succ, List.map_append, bts_append]
  congr 1
  · congr 1
    refine List.map_congr_left fun i hi => ?_
    have hi' : i < n := List.mem_range.1 hi
    rw [Nat.div_div_eq_div_mul, show n + 1 - 1 - i = (n - 1 - i) + 1 by omega, Nat.pow_succ, Nat.mul_comm (256 ^ (n - 1 - i)) 256]
  · simp

/-- a digest -/
def digB (s : ByteArray) : ByteArray := nB (hN 1000003 1099511627689 s s.size) 5 ++ nB (hN 999983 1099511627563 s s.size) 5
theorem digB_size (s : ByteArray) : (digB s).size = 10 := by unfold digB; rw [ByteArray.size_append, nB_size, nB_size]

/-- a name's hash -/
def hashB (n salt : ByteArray) : Nat → ByteArray
  | 0 => digB (foldB n ++ salt)
  | k + 1 => digB (hashB n salt k ++ salt)
theorem hashB_size (n salt : ByteArray) : ∀ k, (hashB n salt k).size = 10
  | 0 => digB_size _
  | k + 1 => digB_size _
end Go.Proofs.Ytelboefeomnjaaa.Nm
namespace Go.Proofs.Ytelboefeomnjaaa
open Go.RowKit Go.Shelf Go.Proofs.Ytelboefeomnjaaa.Nm

theorem wrap_three (z y : Nat) (hz : z ≤ 1152921504606846976) (hy : y < 256) : wrap64 (wrap64 ((z : Int) + (y : Int)) + 1) = ((z + y + 1 : Nat) : Int) := by
  have h1 : wrap64 ((z : Int) + (y : Int)) = (z : Int) + (y : Int) := Go.IntWalk.wrap64_in _ (by omega)
  have h2 : wrap64 ((z : Int) + (y : Int) + 1) = (z : Int) + (y : Int) + 1 := Go.IntWalk.wrap64_in _ (by omega)
  rw [h1, h2]
  omega
end Go.Proofs.Ytelboefeomnjaaa
