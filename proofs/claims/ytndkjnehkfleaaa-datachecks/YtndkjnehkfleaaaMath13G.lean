import Derived.Test.YtndkjnehkfleaaaMath8G
import Derived.Lib.AppendStr
namespace Go.Proofs.Ytndkjnehkfleaaa.Nm
set_option linter.unusedVariables false

/-- labels as they must be, by reckoning -/
def okLB (l : List ByteArray) : Bool := l.all (fun x => decide (0 < x.size ∧ x.size ≤ 63))
theorem okLB_iff (l : List ByteArray) : okLB l = true ↔ OkL l := by
  unfold okLB OkL
  rw [List.all_eq_true]
  simp
def joinB (l : List ByteArray) : ByteArray × Int := if okLB l = true then (if (putB l).size ≤ 255 then (putB l, 0) else (ByteArray.empty, 4)) else (ByteArray.empty, 3)
theorem joinB_bad {l : List ByteArray} {x : ByteArray} (hx : x ∈ l) (h : ¬ (0 < x.size ∧ x.size ≤ 63)) : joinB l = (ByteArray.empty, 3) := by
  unfold joinB; rw [if_neg]; intro e; exact h ((okLB_iff l).1 e x hx)
theorem joinB_ok {l : List ByteArray} (h : OkL l) (hz : (putB l).size ≤ 255) : joinB l = (putB l, 0) := by
  unfold joinB; rw [if_pos ((okLB_iff l).2 h), if_pos hz]
theorem joinB_long {l : List ByteArray} (h : OkL l) (hz : 255 < (putB l).size) : joinB l = (ByteArray.empty, 4) := by
  unfold joinB; rw [if_pos ((okLB_iff l).2 h), if_neg (by omega)]
theorem okL_take_succ {l : List ByteArray} {k : Nat} (hk : k < l.length) (h : OkL (l.take k)) (hx : 0 < l[k].size ∧ l[k].size ≤ 63) : OkL (l.take (k + 1)) := by
  rw [List.take_succ_eq_append_getElem hk]
  exact h.append (fun x h => by simp at h; rw [h]; exact hx)
theorem chunks_take_succ {l : List ByteArray} {k : Nat} (hk : k < l.length) : chunks (l.take (k + 1)) = chunks (l.take k) ++ chunk l[k] := by
  rw [List.take_succ_eq_append_getElem hk, chunks_snoc]
theorem chunks_take_size {l : List ByteArray} {k : Nat} (hk : k < l.length) : (chunks (l.take (k + 1))).size = (chunks (l.take k)).size + (1 + l[k].size) := by
  rw [chunks_take_succ hk, ByteArray.size_append, chunk_size]
theorem chunks_take_le {l : List ByteArray} : ∀ k, k ≤ l.length → OkL (l.take k) → (chunks (l.take k)).size ≤ 64 * k
  | 0, _, _ => by simp [chunks]
  | k + 1, hk, h => by
    have hk' : k < l.length := by omega
    have h1 : OkL (l.take k) := fun x hx => h x (by rw [List.take_succ_eq_append_getElem hk']; exact List.mem_append.2 (.inl hx))
    have h2 := chunks_take_le (l := l) k (by omega) h1
    have h3 := h l[k] (by rw [List.take_succ_eq_append_getElem hk']; exact List.mem_append.2 (.inr (List.mem_singleton.2 rfl)))
    rw [chunks_take_size hk']; omega

theorem strCells_append (a b : ByteArray) : Go.Lib.strCells (a ++ b) = Go.Lib.strCells a ++ Go.Lib.strCells b := by
  unfold Go.Lib.strCells
  rw [ByteArray.data_append, Array.toList_append, List.map_append]

theorem strCells_chunk (x : ByteArray) (h : x.size < 256) : Go.Lib.strCells (chunk x) = [.int .u8 (x.size : Int)] ++ Go.Lib.strCells x := by
  unfold chunk
  rw [strCells_append]
  congr 1
  show [Go.Value.int .u8 ((UInt8.ofNat x.size).toNat : Int)] = _
  rw [UInt8.toNat_ofNat', Nat.mod_eq_of_lt (by omega)]
end Go.Proofs.Ytndkjnehkfleaaa.Nm

namespace Go.Proofs.Ytndkjnehkfleaaa.Nm
set_option linter.unusedVariables false

/-- a byte among those of a text -/
def amB (s : ByteArray) (b : Nat) : Bool := (List.range s.size).any (fun j => bt s j == b)
theorem amB_true {s : ByteArray} {b j : Nat} (hj : j < s.size) (h : bt s j = b) : amB s b = true := by
  unfold amB; rw [List.any_eq_true]; exact ⟨j, List.mem_range.2 hj, by simp [h]⟩
theorem amB_false {s : ByteArray} {b : Nat} (h : ∀ j, j < s.size → bt s j ≠ b) : amB s b = false := by
  unfold amB; rw [List.any_eq_false]; intro j hj; simp [h j (List.mem_range.1 hj)]

/-- bytes as a text -/
def bts (l : List Nat) : ByteArray := ⟨(l.map UInt8.ofNat).toArray⟩
theorem bts_size (l : List Nat) : (bts l).size = l.length := by
  show (l.map UInt8.ofNat).toArray.size = _
  simp
theorem bts_bt (l : List Nat) (h : ∀ x ∈ l, x < 256) (j : Nat) (hj : j < l.length) : bt (bts l) j = l[j] := by
  have hz := bts_size l
  rw [← bt_eq (s := bts l) (by omega)]
  have e : (bts l)[j]'(by omega) = UInt8.ofNat l[j] := by
    have h2 : (l.map UInt8.ofNat).toArray[j]'(by simpa using hj) = UInt8.ofNat l[j] := by simp
    exact h2
  rw [e, UInt8.toNat_ofNat', Nat.mod_eq_of_lt (h _ (List.getElem_mem hj))]
def escL (b : Nat) : List Nat := [92, 48 + b / 100, 48 + b / 10 % 10, 48 + b % 10]
def marks : ByteArray := ⟨#[46, 92, 34, 40, 41, 59, 64, 36]⟩
/-- how a byte is written -/
def shL (b : Nat) : List Nat := if amB marks b = true then [92, b] else if b < 33 ∨ 126 < b then escL b else [b]
theorem marks_in {b : Nat} (h : amB marks b = true) : 33 < b ∧ b ≤ 126 := by
  unfold amB at h
  rw [List.any_eq_true] at h
  obtain ⟨j, hj, he⟩ := h
  have hj' : j < 8 := List.mem_range.1 hj
  have hb := eq_of_beq he
  have : ∀ i, i < 8 → 33 < bt marks i ∧ bt marks i ≤ 126 := by decide +kernel
  have := this j hj'
  omega
theorem shL_marked {b : Nat} (h : amB marks b = true) : shL b = [92, b] := by unfold shL; rw [if_pos h]
theorem shL_esc {b : Nat} (h : b < 33 ∨ 126 < b) : shL b = escL b := by
  unfold shL
  rw [if_neg, if_pos h]
  intro e; have := marks_in e; omega
theorem shL_plain {b : Nat} (h : amB marks b = false) (h1 : 33 ≤ b) (h2 : b ≤ 126) : shL b = [b] := by
  unfold shL; rw [if_neg (by rw [h]; decide), if_neg (by omega)]
theorem shL_lt {b : Nat} (hb : b < 256) : ∀ x ∈ shL b, x < 256 := by
  intro x hx
  unfold shL at hx
  split at hx
  · simp at hx; omega
  · split at hx
    · simp [escL] at hx; omega
    · simp at hx; omega
theorem shL_len (b : Nat) : 0 < (shL b).length ∧ (shL b).length ≤ 4 := by
  unfold shL; split
  · simp
  · split <;> simp [escL]
/-- how a byte is written, wherever: those below the first as numbers, the marked ones behind a sign -/
def shG (f : Nat) (m : ByteArray) (b : Nat) : List Nat := if b < f ∨ 126 < b then escL b else if amB m b = true then [92, b] else [b]
theorem shG_esc {f : Nat} {m : ByteArray} {b : Nat} (h : b < f ∨ 126 < b) : shG f m b = escL b := by unfold shG; rw [if_pos h]
theorem shG_marked {f : Nat} {m : ByteArray} {b : Nat} (h : ¬ (b < f ∨ 126 < b)) (hm : amB m b = true) : shG f m b = [92, b] := by unfold shG; rw [if_neg h, if_pos hm]
theorem shG_plain {f : Nat} {m : ByteArray} {b : Nat} (h : ¬ (b < f ∨ 126 < b)) (hm : amB m b = false) : shG f m b = [b] := by unfold shG; rw [if_neg h, if_neg (by rw [hm]; decide)]
theorem shG_name (b : Nat) : shG 33 marks b = shL b := by
  unfold shG shL
  by_cases h : b < 33 ∨ 126 < b
  · rw [if_pos h, if_pos h]
    split
    · next hm => have := marks_in hm; omega
    · rfl
  · rw [if_neg h, if_neg h]
theorem shG_len (f : Nat) (m : ByteArray) (b : Nat) : 0 < (shG f m b).length ∧ (shG f m b).length ≤ 4 := by
  unfold shG; split
  · simp [escL]
  · split <;> simp
theorem shG_lt {f : Nat} {m : ByteArray} {b : Nat} (hb : b < 256) : ∀ x ∈ shG f m b, x < 256 := by
  intro x hx
  unfold shG at hx
  split at hx
  · simp [escL] at hx; omega
  · split at hx
    · simp at hx; omega
    · simp at hx; omega
theorem bts_append (l m : List Nat) : bts (l ++ m) = bts l ++ bts m := by
  unfold bts
  apply ByteArray.ext
  rw [ByteArray.data_append]
  simp
theorem bts_cells (l : List Nat) (h : ∀ x ∈ l, x < 256) : Go.Lib.strCells (bts l) = l.map (fun x : Nat => Go.Value.int .u8 (x : Int)) := by
  unfold Go.Lib.strCells bts
  simp only [List.map_map]
  apply List.map_congr_left
  intro x hx
  simp only [Function.comp]
  rw [UInt8.toNat_ofNat', Nat.mod_eq_of_lt (h x hx)]

/-- a label, written: the bytes of its first k ones -/
def shTo (x : ByteArray) : Nat → List Nat
  | 0 => []
  | k + 1 => shTo x k ++ shL (bt x k)
def shLab (x : ByteArray) : List Nat := shTo x x.size ++ [46]
def shAll (l : List ByteArray) : List Nat := l.flatMap shLab
theorem shTo_lt (x : ByteArray) : ∀ k, ∀ y ∈ shTo x k, y < 256
  | 0, y, h => by simp [shTo] at h
  | k + 1, y, h => by
    rcases List.mem_append.1 h with h | h
    · exact shTo_lt x k y h
    · exact shL_lt (bt_lt x k) y h
theorem shTo_len (x : ByteArray) : ∀ k, (shTo x k).length ≤ 4 * k
  | 0 => by simp [shTo]
  | k + 1 => by
    have := shTo_len x k
    have := (shL_len (bt x k)).2
    simp only [shTo, List.length_append]; omega
theorem shLab_len (x : ByteArray) : (shLab x).length ≤ 4 * x.size + 1 := by
  have := shTo_len x x.size
  simp only [shLab, List.length_append, List.length_cons, List.length_nil]; omega
theorem shAll_snoc (l : List ByteArray) (x : ByteArray) : shAll (l ++ [x]) = shAll l ++ shLab x := by simp [shAll]
theorem shAll_len : ∀ l : List ByteArray, (shAll l).length ≤ 4 * (chunks l).size
  | [] => by simp [shAll]
  | x :: l => by
    have h1 := shAll_len l
    have h2 := shLab_len x
    have e : (shAll (x :: l)).length = (shLab x).length + (shAll l).length := by simp [shAll]
    rw [e, chunks_cons, ByteArray.size_append, chunk_size]; omega
/-- how a name is written -/
def showB (s : ByteArray) : ByteArray := if isN s = true then (if (labs s).length = 0 then bts [46] else bts (shAll (labs s))) else ByteArray.empty
theorem showB_no {s : ByteArray} (h : isN s = false) : showB s = ByteArray.empty := by unfold showB; rw [if_neg (by rw [h]; decide)]
theorem showB_root {s : ByteArray} (h : isN s = true) (hl : (labs s).length = 0) : showB s = bts [46] := by unfold showB; rw [if_pos h, if_pos hl]
theorem showB_yes {s : ByteArray} (h : isN s = true) (hl : 0 < (labs s).length) : showB s = bts (shAll (labs s)) := by unfold showB; rw [if_pos h, if_neg (by omega)]
end Go.Proofs.Ytndkjnehkfleaaa.Nm
