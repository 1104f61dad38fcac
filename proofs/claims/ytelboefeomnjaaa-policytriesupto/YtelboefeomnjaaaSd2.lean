import Derived.Test.YtelboefeomnjaaaSd1
import Derived.Deep.RegionWith
namespace Go.Proofs.Ytelboefeomnjaaa
set_option linter.unusedVariables false
open Go.RowKit Go.Shelf Go.Proofs.Ytelboefeomnjaaa.Nm

theorem Try.infoByte : (Try.prog.info? 5).map (fun i => (i.zero, i.size, i.bytes)) = some (some (.int .u8 0), 1, 1) := by kernel_rfl

theorem holdsB_made (w : World) (n : Nat) (t : TypeId) : HoldsB (w.alloc (.cells (madeCells #[.int .u8 0] n) t)) w.heap.size n (fun _ => 0) := by
  refine ⟨by simp, fun j hj => ?_, fun j hj => ?_⟩
  · rw [World.cell?_alloc_mark]
    simp [madeCells, hj, Nat.mod_one]
  · have : (w.alloc (.cells (madeCells #[.int .u8 0] n) t)).heap[w.heap.size]? = some (.cells (madeCells #[.int .u8 0] n) t) := by
      show (w.heap.push _)[w.heap.size]? = _
      simp
    simp only [World.frozen?, this]
    simp

theorem byte_shift (v m : Nat) : (v : Int) / 2 ^ (8 * m) % 256 = ((v / 256 ^ m % 256 : Nat) : Int) := by
  rw [show (256 : Nat) ^ m = 2 ^ (8 * m) by rw [Nat.pow_mul]]
  generalize 8 * m = e
  simp

theorem one_b (W W' : World) (n : Nat) (hn : n < 256) (hb : Below (W.alloc (.cells #[.int .u8 (n : Int)] 5)).heap.size (W.alloc (.cells #[.int .u8 (n : Int)] 5)) W') : (convert 84 9 (.slice (some ⟨W.heap.size, 0, none⟩) 1 1)).run Try.prog W' = .ok (.string (bts [n])) W' := by
  have hlt : W.heap.size < (W.alloc (.cells #[.int .u8 (n : Int)] 5)).heap.size := by simp
  have hz : (bts [n]).size = 1 := rfl
  have hH : HoldsB W' W.heap.size (bts [n]).size (fun _ => n) := by
    refine ⟨Nat.lt_of_lt_of_le hlt hb.size, fun j hj => ?_, fun j hj => ?_⟩
    · obtain rfl : j = 0 := by omega
      rw [hb.cell (p := ⟨W.heap.size, 0, none⟩) hlt]
      exact (cell_new_l W _ _).1
    · obtain rfl : j = 0 := by omega
      rw [hb.frozen (p := ⟨W.heap.size, 0, none⟩) hlt]
      exact (cell_new_l W _ _).2
  exact hH.str (fun j hj => by obtain rfl : j = 0 := by omega
                               rw [bts_bt _ (by simpa using hn) 0 (by simp)]; rfl) 1

end Go.Proofs.Ytelboefeomnjaaa
