import Derived.Test.YtjnhkiibnmbmfaaSpl
import Derived.Test.YtjnhkiibnmbmfaaMathG
import Derived.Laws.IdiomStrings
namespace Go.Proofs.Ytjnhkiibnmbmfaa
set_option linter.unusedVariables false
open Go.RowKit Go.Shelf Nm

/-- '[]byte(s)': the new block's bytes -/
structure HoldsB (w : World) (b : Nat) (n : Nat) (f : Nat → Nat) : Prop where
  lt : b < w.heap.size
  cell : ∀ j, j < n → w.cell? ⟨b, j, none⟩ = some (.int .u8 (f j))
  free : ∀ j, j < n → w.frozen? ⟨b, j, none⟩ = false

theorem getElem?_bytesRow (s : ByteArray) (cap j : Nat) (h : j < s.size) : (bytesRow s cap)[j]? = some (.int .u8 (bt s j)) := by
  have hs : s.data.size = s.size := rfl
  unfold bytesRow
  rw [Array.getElem?_append_left (by simp; omega), Array.getElem?_map, Array.getElem?_eq_getElem (by omega)]
  simp [bt, h]
  rfl

theorem frozen_mark (w : World) (C : Array Value) (t : TypeId) (a c j : Nat) (h : j < a) : (w.alloc (.cells C t (a, c))).frozen? ⟨w.heap.size, j, none⟩ = false := by
  have : (w.alloc (.cells C t (a, c))).heap[w.heap.size]? = some (.cells C t (a, c)) := by
    show (w.heap.push (.cells C t (a, c)))[w.heap.size]? = _
    simp
  simp only [World.frozen?, this]
  simp
  omega

theorem holdsB_new (w : World) (s : ByteArray) (cap : Nat) (t : TypeId) :
    HoldsB (w.alloc (.cells (bytesRow s cap) t ((bytesRow s cap).size, (bytesRow s cap).size + 1))) w.heap.size s.size (bt s) := by
  refine ⟨by simp, fun j hj => ?_, fun j hj => ?_⟩
  · rw [World.cell?_alloc_mark, getElem?_bytesRow s cap j hj]
  · refine frozen_mark _ _ _ _ _ _ ?_
    have hs : s.data.size = s.size := rfl
    unfold bytesRow; simp; omega

theorem HoldsB.drew {w : World} {b n : Nat} {f : Nat → Nat} (h : HoldsB w b n f) : HoldsB w.drew b n f := ⟨h.lt, h.cell, h.free⟩

theorem HoldsB.set {w : World} {b n : Nat} {f : Nat → Nat} (h : HoldsB w b n f) (k x : Nat) (hk : k < n) : HoldsB (w.setCell ⟨b, k, none⟩ (.int .u8 x)) b n (fun j => if j = k then x else f j) := by
  refine ⟨by simpa [World.setCell] using h.lt, fun j hj => ?_, fun j hj => ?_⟩
  · by_cases e : j = k
    · subst e; rw [if_pos rfl, World.cell?_setCell_same' _ _ _ (by rw [h.cell _ hj]; rfl)]
    · rw [if_neg e, World.cell?_setCell_other _ _ _ _ (fun e' => e (by simpa using congrArg Addr.off e'.symm))]; exact h.cell j hj
  · rw [World.frozen?_setCell]; exact h.free j hj

theorem HoldsB.congr {w : World} {b n : Nat} {f g : Nat → Nat} (h : HoldsB w b n f) (e : ∀ j, j < n → f j = g j) : HoldsB w b n g :=
  ⟨h.lt, fun j hj => by rw [← e j hj]; exact h.cell j hj, h.free⟩

/-- 'string(b)' -/
theorem HoldsB.str {w : World} {b : Nat} {f : Nat → Nat} {t : ByteArray} (h : HoldsB w b t.size f) (hf : ∀ j, j < t.size → f j = bt t j) (cap : Nat) :
    (convert 62 9 (.slice (some ⟨b, 0, none⟩) t.size cap)).run Try.prog w = .ok (.string t) w := by
  have hl : t.data.toList.length = t.size := by simp
  have := run_convert_bytes_back (P := Try.prog) w 62 9 5 ⟨b, 0, none⟩ cap t.data.toList Try.underlying62 Try.underlying5 Try.underlying9 (fun j hj => by
    have hj' : j < t.size := by omega
    have e : t.data.toList[j].toNat = bt t j := bt_list t j hj'
    rw [e]
    have := h.cell j hj'
    rw [hf j hj'] at this
    rw [show Addr.add ⟨b, 0, none⟩ j = ⟨b, j, none⟩ by unfold Addr.add; split <;> simp_all]
    exact this)
  rw [hl] at this
  simpa using this

end Go.Proofs.Ytjnhkiibnmbmfaa
