import Derived.Test.YtndkjnehkfleaaaSpl
import Derived.Test.YtndkjnehkfleaaaMathG
import Derived.Laws.IdiomStrings
namespace Go.Proofs.Ytndkjnehkfleaaa
set_option linter.unusedVariables false
open Go.RowKit Go.Shelf Nm

/-- '[]byte(s)': the new block's bytes -/
structure HoldsB (w : World) (b : Nat) (n : Nat) (f : Nat → Nat) : Prop where
  lt : b < w.heap.size
  cell : ∀ j, j < n → w.cell? ⟨b, j, none⟩ = some (.int .u8 (f j))
  free : ∀ j, j < n → w.frozen? ⟨b, j, none⟩ = false

theorem getElem?_bytesRow (s : ByteArray) (cap j : Nat) (h : j < s.size) : (bytesRow s cap)[j]? = some (.int .u8 (bt s j)) := by
  have hs : s.data.size = s.size := rfl
  unfold bytesRow
  rw [Array.getElem?_append_left (by simp; omega), Array.getElem?_map, Array.getElem?_eq_getElem (by omega)]
  simp [bt, h]
  rfl

theorem frozen_mark (w : World) (C : Array Value) (t : TypeId) (a c j : Nat) (h : j < a) : (w.alloc (.cells C t (a, c))).frozen? ⟨w.heap.size, j, none⟩ = false := by
  have : (w.alloc (.cells C t (a, c))).heap[w.heap.size]? = some (.cells C t (a, c)) := by
    show (w.heap.push (.cells C t (a, c)))[w.heap.size]? = _
    simp
  simp only [World.frozen?, this]
  simp
  omega

theorem holdsB_new (w : World) (s : ByteArray) (cap : Nat) (t : TypeId) :
    HoldsB (w.alloc (.cells (bytesRow s cap) t ((bytesRow s cap).size, (bytesRow s cap).size + 1))) w.heap.size s.size (bt s) := by
  refine ⟨by simp, fun j hj => ?_, fun j hj => ?_⟩
  · rw [World.cell?_alloc_mark, getElem?_bytesRow s cap j hj]
  · refine frozen_mark _ _ _ _ _ _ ?_
    have hs : s.data.size = s.size := rfl
    unfold bytesRow; simp; omega

theorem HoldsB.drew {w : World} {b n : Nat} {f : Nat → Nat} (h : HoldsB w b n f) : HoldsB w.drew b n f := ⟨h.lt, h.cell, h.free⟩

theorem HoldsB.set {w : World} {b n : Nat} {f : Nat → Nat} (h : HoldsB w b n f) (k x : Nat) (hk : k < n) : HoldsB (w.setCell ⟨b, k, none⟩ (.int .u8 x)) b n (fun j => if j = k then x else f j) := by
  refine ⟨by simpa [World.setCell] using h.lt, fun j hj => ?_, fun j hj => ?_⟩
  · by_cases e : j = k
    · subst e; rw [if_pos rfl, World.cell?_setCell_same' _ _ _ (by rw [h.cell _ hj]; rfl)]
    · rw [if_neg e, World.cell?_setCell_other _ _ _ _ (fun e' => e (by simpa using congrArg Addr.off e'.symm))]; exact h.cell j hj
  · rw [World.frozen?_setCell]; exact h.free j hj

theorem HoldsB.congr {w : World} {b n : Nat} {f g : Nat → Nat} (h : HoldsB w b n f) (e : ∀ j, j < n → f j = g j) : HoldsB w b n g :=
  ⟨h.lt, fun j hj => by rw [← e j hj]; exact h.cell j hj, h.free⟩

/-- 'string(b)' -/
theorem HoldsB.str {w : World} {b : Nat} {f : Nat → Nat} {t : ByteArray} (h : HoldsB w b t.size f) (hf : ∀ j, j < t.size → f j = bt t j) (cap : Nat) :
    (convert 43 9 (.slice (some ⟨b, 0, none⟩) t.size cap)).run Try.prog w = .ok (.string t) w := by
  have hl : t.data.toList.length = t.size := by simp
  have := run_convert_bytes_back (P := Try.prog) w 43 9 5 ⟨b, 0, none⟩ cap t.data.toList Try.underlying43 Try.underlying5 Try.underlying9 (fun j hj => by
    have hj' : j < t.size := by omega
    have e : t.data.toList[j].toNat = bt t j := bt_list t j hj'
    rw [e]
    have := h.cell j hj'
    rw [hf j hj'] at this
    rw [show Addr.add ⟨b, 0, none⟩ j = ⟨b, j, none⟩ by unfold Addr.add; split <;> simp_all]
    exact this)
  rw [hl] at this
  simpa using this

set_option maxRecDepth 100000 in
set_option maxHeartbeats 1000000 in
/-- gazetteerref1.Low -/
theorem low_any (s : ByteArray) (w : World) (hs : s.size ≤ 1048576) :
    Calls Try.prog 28 #[.string s] w fun e w' => e = .returned (.string (lowB s)) ∧ Below w.heap.size w w' := by
  have hcv := fun w' => run_bytes_of_string (P := Try.prog) w' 9 43 5 s Try.underlying9 Try.underlying43 Try.underlying5
  go_enter Try.func28, Try.ntmps28
  go_wp2
  go_loopw [9] (fun i wr => ∃ k : Nat, i = .int .i64 k ∧ k ≤ s.size ∧ HoldsB wr w.heap.size s.size (fun j => if j < k then lowN (bt s j) else bt s j) ∧ Below w.heap.size w wr)
    (fun i _ => s.size - (intOf i).toNat)
  case atStart => exact ⟨0, rfl, Nat.zero_le _, ((holdsB_new _ _ _ _).drew).congr (by simp), ((Below.refl _ _).alloc (Nat.le_refl _) _).drew⟩
  case round =>
    obtain ⟨k, rfl, hk, hH, hB⟩ := hrel
    by_cases hlt : k < s.size
    · have hc := hH.cell k hlt
      have hfr := hH.free k hlt
      simp only [Nat.lt_irrefl, if_false] at hc
      obtain ⟨x, hx, hx256⟩ : ∃ x, bt s k = x ∧ x < 256 := ⟨_, rfl, bt_lt _ _⟩
      rw [hx] at hc
      have HX : Hid (bt s k = x) := hx
      clear hx
      have hnext : ∀ (W : World) (y : Nat), y = lowN x → HoldsB W w.heap.size s.size (fun j => if j = k then y else if j < k then lowN (bt s j) else bt s j) → HoldsB W w.heap.size s.size (fun j => if j < k + 1 then lowN (bt s j) else bt s j) := by
        intro W y hy h
        refine h.congr fun j _ => ?_
        by_cases e : j = k
        · subst e; rw [if_pos rfl, if_pos (by omega), hy, HX.out]
        · rw [if_neg e]
          by_cases e2 : j < k
          · rw [if_pos e2, if_pos (by omega)]
          · rw [if_neg e2, if_neg (by omega)]
      have hstay : ∀ (W : World), lowN x = x → HoldsB W w.heap.size s.size (fun j => if j < k then lowN (bt s j) else bt s j) → HoldsB W w.heap.size s.size (fun j => if j < k + 1 then lowN (bt s j) else bt s j) := by
        intro W hy h
        refine h.congr fun j _ => ?_
        by_cases e : j = k
        · subst e; rw [if_neg (by omega), if_pos (by omega), HX.out, hy]
        · by_cases e2 : j < k
          · rw [if_pos e2, if_pos (by omega)]
          · rw [if_neg e2, if_neg (by omega)]
      by_cases h65 : 65 ≤ x
      · by_cases h90 : x ≤ 90
        · go_wp2
          go_roundw
          case rel => exact ⟨k + 1, by go_num, hlt, hnext _ (x + 32) (by unfold lowN; rw [if_pos ⟨h65, h90⟩]) (hH.set k (x + 32) hlt), hB.setCell (p := ⟨w.heap.size, k, none⟩) (Nat.le_refl _) _⟩
          case measure => simp [intOf]; omega
        · have h90' : 90 < x := by omega
          go_wp2
          go_roundw
          case rel => exact ⟨k + 1, by go_num, hlt, hstay _ (by unfold lowN; rw [if_neg (by omega)]) hH, hB⟩
          case measure => simp [intOf]; omega
      · have h65' : x < 65 := by omega
        go_wp2
        go_roundw
        case rel => exact ⟨k + 1, by go_num, hlt, hstay _ (by unfold lowN; rw [if_neg (by omega)]) hH, hB⟩
        case measure => simp [intOf]; omega
    · have hst : ∀ cap, (convert 43 9 (.slice (some ⟨w.heap.size, 0, none⟩) s.size cap)).run Try.prog wr = .ok (.string (lowB s)) wr := fun cap => by
        have hz := lowB_size s
        rw [← hz] at hH ⊢
        exact hH.str (fun j hj => by rw [if_pos (by omega), lowB_bt]) cap
      go_wp2
      go_ret
      exact ⟨rfl, hB⟩
end Go.Proofs.Ytndkjnehkfleaaa
