import Derived.Test.YtndkjnehkfleaaaCnt
import Derived.Test.YtndkjnehkfleaaaMathG
namespace Go.Proofs.Ytndkjnehkfleaaa
set_option linter.unusedVariables false
open Go.RowKit Go.Shelf Nm

theorem ext_t {a b c : World} (h : Below a.heap.size a b) (k : Below b.heap.size b c) : Below a.heap.size a c := h.trans (k.mono h.size)
theorem small_max {n : Nat} (h : n ≤ 1048576) : n ≤ maxLen := by unfold maxLen; omega
theorem tail_max (s : ByteArray) (k : Int) : (tailB s k).size ≤ maxLen := small_max (by have := tailB_size s k; omega)
theorem tail_small (s : ByteArray) (k : Int) : (tailB s k).size ≤ 1048576 := by have := tailB_size s k; omega

theorem addr_add (g off d : Nat) : Addr.add ⟨g, off, none⟩ d = ⟨g, off + d, none⟩ := by unfold Addr.add; split <;> simp_all
theorem strs_drop1 {w : World} {p : Option Addr} {l : List ByteArray} (h : StrsAt w p l) (d cap : Nat) : Strs w (.slice (Option.map (fun x => x.add d) p) (l.length - d) cap) (l.drop d) := by
  refine ⟨_, cap, by rw [List.length_drop], fun j hj => ?_⟩
  rw [List.length_drop] at hj
  obtain ⟨g, off, rfl, hg, hc⟩ := h (d + j) (by omega)
  refine ⟨g, off + d, by simp [addr_add], hg, ?_⟩
  rw [List.getElem_drop, Nat.add_assoc]; exact hc
theorem strs_drop0 {w : World} {p : Option Addr} {l : List ByteArray} {d : Nat} (h : l.length ≤ d) (cap : Nat) : Strs w (.slice p (l.length - d) cap) (l.drop d) :=
  ⟨p, cap, by rw [List.length_drop], fun j hj => by rw [List.length_drop] at hj; omega⟩

end Go.Proofs.Ytndkjnehkfleaaa
