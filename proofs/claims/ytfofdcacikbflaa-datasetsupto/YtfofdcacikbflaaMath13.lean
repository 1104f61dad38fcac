import Derived.Test.YtfofdcacikbflaaMath12
import Derived.Lib.AppendStr
namespace Go.Proofs.Ytfofdcacikbflaa.Nm
set_option linter.unusedVariables false

/-- labels as they must be, by reckoning -/
def okLB (l : List ByteArray) : Bool := l.all (fun x => decide (0 < x.size ∧ x.size ≤ 63))
theorem okLB_iff (l : List ByteArray) : okLB l = true ↔ OkL l := by
  unfold okLB OkL
  rw [List.all_eq_true]
  simp
def joinB (l : List ByteArray) : ByteArray × Int := if okLB l = true then (if (putB l).size ≤ 255 then (putB l, 0) else (ByteArray.empty, 4)) else (ByteArray.empty, 3)
theorem joinB_bad {l : List ByteArray} {x : ByteArray} (hx : x ∈ l) (h : ¬ (0 < x.size ∧ x.size ≤ 63)) : joinB l = (ByteArray.empty, 3) := by
  unfold joinB; rw [if_neg]; intro e; exact h ((okLB_iff l).1 e x hx)
theorem joinB_ok {l : List ByteArray} (h : OkL l) (hz : (putB l).size ≤ 255) : joinB l = (putB l, 0) := by
  unfold joinB; rw [if_pos ((okLB_iff l).2 h), if_pos hz]
theorem joinB_long {l : List ByteArray} (h : OkL l) (hz : 255 < (putB l).size) : joinB l = (ByteArray.empty, 4) := by
  unfold joinB; rw [if_pos ((okLB_iff l).2 h), if_neg (by omega)]
theorem okL_take_succ {l : List ByteArray} {k : Nat} (hk : k < l.length) (h : OkL (l.take k)) (hx : 0 < l[k].size ∧ l[k].size ≤ 63) : OkL (l.take (k + 1)) := by
  rw [List.take_succ_eq_append_getElem hk]
  exact h.append (fun x h => by simp at h; rw [h]; exact hx)
theorem chunks_take_succ {l : List ByteArray} {k : Nat} (hk : k < l.length) : chunks (l.take (k + 1)) = chunks (l.take k) ++ chunk l[k] := by
  rw [List.take_succ_eq_append_getElem hk, chunks_snoc]
theorem chunks_take_size {l : List ByteArray} {k : Nat} (hk : k < l.length) : (chunks (l.take (k + 1))).size = (chunks (l.take k)).size + (1 + l[k].size) := by
  rw [chunks_take_succ hk, ByteArray.size_append, chunk_size]
theorem chunks_take_le {l : List ByteArray} : ∀ k, k ≤ l.length → OkL (l.take k) → (chunks (l.take k)).size ≤ 64 * k
  | 0, _, _ => by simp [chunks]
  | k + 1, hk, h => by
    have hk' : k < l.length := by omega
    have h1 : OkL (l.take k) := fun x hx => h x (by rw [List.take_succ_eq_append_getElem hk']; exact List.mem_append.2 (.inl hx))
    have h2 := chunks_take_le (l := l) k (by omega) h1
    have h3 := h l[k] (by rw [List.take_succ_eq_append_getElem hk']; exact List.mem_append.2 (.inr (List.mem_singleton.2 rfl)))
    rw [chunks_take_size hk']; omega

theorem strCells_append (a b : ByteArray) : Go.Lib.strCells (a ++ b) = Go.Lib.strCells a ++ Go.Lib.strCells b := by
  unfold Go.Lib.strCells
  rw [ByteArray.data_append, Array.toList_append, List.map_append]

theorem strCells_chunk (x : ByteArray) (h : x.size < 256) : Go.Lib.strCells (chunk x) = [.int .u8 (x.size : Int)] ++ Go.Lib.strCells x := by
  unfold chunk
  rw [strCells_append]
  congr 1
  show [Go.Value.int .u8 ((UInt8.ofNat x.size).toNat : Int)] = _
  rw [UInt8.toNat_ofNat', Nat.mod_eq_of_lt (by omega)]
end Go.Proofs.Ytfofdcacikbflaa.Nm
