import Derived.Test.YtelboefeomnjaaaGreatWkG
import Derived.Test.YtelboefeomnjaaaGreatMathG
import Derived.Laws.IdiomStrings
namespace Go.Proofs.YtelboefeomnjaaaGreat
set_option linter.unusedVariables false
open Go.RowKit Go.Shelf Go.Proofs.YtelboefeomnjaaaGreat.Nm

/-- '[]byte(s)': the new block's bytes -/
structure HoldsB (w : World) (b : Nat) (n : Nat) (f : Nat → Nat) : Prop where
  lt : b < w.heap.size
  cell : ∀ j, j < n → w.cell? ⟨b, j, none⟩ = some (.int .u8 (f j))
  free : ∀ j, j < n → w.frozen? ⟨b, j, none⟩ = false

theorem getElem?_bytesRow (s : ByteArray) (cap j : Nat) (h : j < s.size) : (bytesRow s cap)[j]? = some (.int .u8 (bt s j)) := by
  have hs : s.data.size = s.size := rfl
  unfold bytesRow
  rw [Array.getElem?_append_left (by simp; omega), Array.getElem?_map, Array.getElem?_eq_getElem (by omega)]
  simp [bt, h]
  rfl

theorem frozen_mark (w : World) (C : Array Value) (t : TypeId) (a c j : Nat) (h : j < a) : (w.alloc (.cells C t (a, c))).frozen? ⟨w.heap.size, j, none⟩ = false := by
  have : (w.alloc (.cells C t (a, c))).heap[w.heap.size]? = some (.cells C t (a, c)) := by
    show (w.heap.push (.cells C t (a, c)))[w.heap.size]? = _
    simp
  simp only [World.frozen?, this]
  simp
  omega

theorem holdsB_new (w : World) (s : ByteArray) (cap : Nat) (t : TypeId) :
    HoldsB (w.alloc (.cells (bytesRow s cap) t ((bytesRow s cap).size, (bytesRow s cap).size + 1))) w.heap.size s.size (bt s) := by
  refine ⟨by simp, fun j hj => ?_, fun j hj => ?_⟩
  · rw [World.cell?_alloc_mark, getElem?_bytesRow s cap j hj]
  · refine frozen_mark _ _ _ _ _ _ ?_
    have hs : s.data.size = s.size := rfl
    unfold bytesRow; simp; omega

theorem HoldsB.drew {w : World} {b n : Nat} {f : Nat → Nat} (h : HoldsB w b n f) : HoldsB w.drew b n f := ⟨h.lt, h.cell, h.free⟩

theorem HoldsB.set {w : World} {b n : Nat} {f : Nat → Nat} (h : HoldsB w b n f) (k x : Nat) (hk : k < n) : HoldsB (w.setCell ⟨b, k, none⟩ (.int .u8 x)) b n (fun j => if j = k then x else f j) := by
  refine ⟨by simpa [World.setCell] using h.lt, fun j hj => ?_, fun j hj => ?_⟩
  · by_cases e : j = k
    · subst e; rw [if_pos rfl, World.cell?_setCell_same' _ _ _ (by rw [h.cell _ hj]; rfl)]
    · rw [if_neg e, World.cell?_setCell_other _ _ _ _ (fun e' => e (by simpa using congrArg Addr.off e'.symm))]; exact h.cell j hj
  · rw [World.frozen?_setCell]; exact h.free j hj

theorem HoldsB.congr {w : World} {b n : Nat} {f g : Nat → Nat} (h : HoldsB w b n f) (e : ∀ j, j < n → f j = g j) : HoldsB w b n g :=
  ⟨h.lt, fun j hj => by rw [← e j hj]; exact h.cell j hj, h.free⟩

/-- 'string(b)' -/
theorem HoldsB.str {w : World} {b : Nat} {f : Nat → Nat} {t : ByteArray} (h : HoldsB w b t.size f) (hf : ∀ j, j < t.size → f j = bt t j) (cap : Nat) :
    (convert 87 9 (.slice (some ⟨b, 0, none⟩) t.size cap)).run Tryz.prog w = .ok (.string t) w := by
  have hl : t.data.toList.length = t.size := by simp
  have := run_convert_bytes_back (P := Tryz.prog) w 87 9 5 ⟨b, 0, none⟩ cap t.data.toList Tryz.underlying87 Tryz.underlying5 Tryz.underlying9 (fun j hj => by
    have hj' : j < t.size := by omega
    have e : t.data.toList[j].toNat = bt t j := bt_list t j hj'
    rw [e]
    have := h.cell j hj'
    rw [hf j hj'] at this
    rw [show Addr.add ⟨b, 0, none⟩ j = ⟨b, j, none⟩ by unfold Addr.add; split <;> simp_all]
    exact this)
  rw [hl] at this
  simpa using this

set_option maxRecDepth 100000 in
set_option maxHeartbeats 1000000 in
/-- gazetteerref1.Low -/
theorem low_any (s : ByteArray) (w : World) (hs : s.size ≤ 1048576) :
    Calls Tryz.prog 35 #[.string s] w fun e w' => e = .returned (.string (lowB s)) ∧ Below w.heap.size w w' := by
  have hcv := fun w' => run_bytes_of_string (P := Tryz.prog) w' 9 87 5 s Tryz.underlying9 Tryz.underlying87 Tryz.underlying5
  go_enter Tryz.func35, Tryz.ntmps35
  go_wp2
  go_loopw [9] (fun i wr => ∃ k : Nat, i = .int .i64 k ∧ k ≤ s.size ∧ HoldsB wr w.heap.size s.size (fun j => if j < k then lowN (bt s j) else bt s j) ∧ Below w.heap.size w wr)
    (fun i _ => s.size - (intOf i).toNat)
  case atStart => exact ⟨0, rfl, Nat.zero_le _, ((holdsB_new _ _ _ _).drew).congr (by simp), ((Below.refl _ _).alloc (Nat.le_refl _) _).drew⟩
  case round =>
    obtain ⟨k, rfl, hk, hH, hB⟩ := hrel
    by_cases hlt : k < s.size
    · have hc := hH.cell k hlt
      have hfr := hH.free k hlt
      simp only [Nat.lt_irrefl, if_false] at hc
      obtain ⟨x, hx, hx256⟩ : ∃ x, bt s k = x ∧ x < 256 := ⟨_, rfl, bt_lt _ _⟩
      rw [hx] at hc
      have HX : Hid (bt s k = x) := hx
      clear hx
      have hnext : ∀ (W : World) (y : Nat), y = lowN x → HoldsB W w.heap.size s.size (fun j => if j = k then y else if j < k then lowN (bt s j) else bt s j) → HoldsB W w.heap.size s.size (fun j => if j < k + 1 then lowN (bt s j) else bt s j) := by
        intro W y hy h
        refine h.congr fun j _ => ?_
        by_cases e : j = k
        · subst e; rw [if_pos rfl, if_pos (by omega), hy, HX.out]
        · rw [if_neg e]
          by_cases e2 : j < k
          · rw [if_pos e2, if_pos (by omega)]
          · rw [if_neg e2, if_neg (by omega)]
      have hstay : ∀ (W : World), lowN x = x → HoldsB W w.heap.size s.size (fun j => if j < k then lowN (bt s j) else bt s j) → HoldsB W w.heap.size s.size (fun j => if j < k + 1 then lowN (bt s j) else bt s j) := by
        intro W hy h
        refine h.congr fun j _ => ?_
        by_cases e : j = k
        · subst e; rw [if_neg (by omega), if_pos (by omega), HX.out, hy]
        · by_cases e2 : j < k
          · rw [if_pos e2, if_pos (by omega)]
          · rw [if_neg e2, if_neg (by omega)]
      by_cases h65 : 65 ≤ x
      · by_cases h90 : x ≤ 90
        · go_wp2
          go_roundw
          case rel => exact ⟨k + 1, by go_num, hlt, hnext _ (x + 32) (by unfold lowN; rw [if_pos ⟨h65, h90⟩]) (hH.set k (x + 32) hlt), hB.setCell (p := ⟨w.heap.size, k, none⟩) (Nat.le_refl _) _⟩
          case measure => simp [intOf]; omega
        · have h90' : 90 < x := by omega
          go_wp2
          go_roundw
          case rel => exact ⟨k + 1, by go_num, hlt, hstay _ (by unfold lowN; rw [if_neg (by omega)]) hH, hB⟩
          case measure => simp [intOf]; omega
      · have h65' : x < 65 := by omega
        go_wp2
        go_roundw
        case rel => exact ⟨k + 1, by go_num, hlt, hstay _ (by unfold lowN; rw [if_neg (by omega)]) hH, hB⟩
        case measure => simp [intOf]; omega
    · have hst : ∀ cap, (convert 87 9 (.slice (some ⟨w.heap.size, 0, none⟩) s.size cap)).run Tryz.prog wr = .ok (.string (lowB s)) wr := fun cap => by
        have hz := lowB_size s
        rw [← hz] at hH ⊢
        exact hH.str (fun j hj => by rw [if_pos (by omega), lowB_bt]) cap
      go_wp2
      go_ret
      exact ⟨rfl, hB⟩
end Go.Proofs.YtelboefeomnjaaaGreat

namespace Go.Proofs.YtelboefeomnjaaaGreat
set_option linter.unusedVariables false
open Go.RowKit Go.Shelf Go.Proofs.YtelboefeomnjaaaGreat.Nm

/-- a list of texts, in memory -/
def Strs (w : World) (v : Value) (l : List ByteArray) : Prop :=
  ∃ p cap, v = .slice p l.length cap ∧ ∀ j (h : j < l.length), ∃ g off, p = some ⟨g, off, none⟩ ∧ g < w.heap.size ∧ w.cell? ⟨g, off + j, none⟩ = some (.string l[j])

theorem Strs.below {w w' : World} {v : Value} {l : List ByteArray} (h : Strs w v l) (hb : Below w.heap.size w w') : Strs w' v l := by
  obtain ⟨p, cap, hv, hc⟩ := h
  refine ⟨p, cap, hv, fun j hj => ?_⟩
  obtain ⟨g, off, hp, hg, hcell⟩ := hc j hj
  exact ⟨g, off, hp, Nat.lt_of_lt_of_le hg hb.size, (hb.cell (p := ⟨g, off + j, none⟩) hg).trans hcell⟩

theorem owns_cap {w : World} {base : Nat} {p : Option Addr} {n cap : Nat} {xs : List Value} {m : Nat} (h : w.ownsRow base 9 1 (.slice p m cap) n xs) : n ≤ cap ∧ cap ≤ maxLen ∧ (p = none → cap = 0) := by
  obtain ⟨hl, (⟨h1, h0⟩ | ⟨g, cap', cur, h1, hb, hg, hn, hcap, hsz, ht⟩)⟩ := h
  · simp at h1; exact ⟨by omega, by rw [h1.2.2]; exact Nat.zero_le _, fun _ => h1.2.2⟩
  · simp at h1; obtain ⟨e, _, rfl⟩ := h1; exact ⟨hn, hcap, fun e2 => by rw [e2] at e; cases e⟩
theorem Strs.of_owns {w : World} {base : Nat} {v : Value} {l : List ByteArray} (h : w.ownsRow base 9 1 v l.length (l.map Value.string)) : Strs w v l := by
  obtain ⟨hl, (⟨rfl, h0⟩ | ⟨g, cap, cur, rfl, hb, hg, hn, hcap, hsz, ht⟩)⟩ := h
  · exact ⟨none, 0, by rw [h0], fun j hj => by omega⟩
  · refine ⟨some ⟨g, 0, none⟩, cap, rfl, fun j hj => ⟨g, 0, rfl, (Array.getElem?_eq_some_iff.1 hg).1, ?_⟩⟩
    have hcur : cur[j]? = some (.string l[j]) := by
      have := congrArg (fun t => t[j]?) ht
      simp only [Nat.mul_one] at this
      rw [List.getElem?_take, if_pos hj] at this
      rw [← Array.getElem?_toList, this]
      simp [hj]
    simp [World.cell?, hg, hcur]

/-- the cells of a list of texts -/
def StrsAt (w : World) (p : Option Addr) (l : List ByteArray) : Prop :=
  ∀ j (h : j < l.length), ∃ g off, p = some ⟨g, off, none⟩ ∧ g < w.heap.size ∧ w.cell? ⟨g, off + j, none⟩ = some (.string l[j])
theorem StrsAt.below {w w' : World} {p : Option Addr} {l : List ByteArray} (h : StrsAt w p l) (hb : Below w.heap.size w w') : StrsAt w' p l := by
  intro j hj
  obtain ⟨g, off, hp, hg, hcell⟩ := h j hj
  exact ⟨g, off, hp, Nat.lt_of_lt_of_le hg hb.size, (hb.cell (p := ⟨g, off + j, none⟩) hg).trans hcell⟩
theorem split_yes (s : ByteArray) (w : World) (hs : s.size ≤ 1048576) (hN : isN s = true) :
    Calls Tryz.prog 72 #[.string s] w fun e w' => ∃ p cap, e = .returned (.tuple #[.slice p (labs s).length cap, .bool true]) ∧ (StrsAt w' p (labs s) ∧ (labs s).length ≤ cap ∧ cap ≤ 9223372036854775807 ∧ (p = none → cap = 0)) ∧ Below w.heap.size w w' := by
  refine (split_any s w hs).mono ?_
  rintro e w' ⟨v, rfl, hv, hB⟩
  obtain ⟨p, cap, rfl, hc⟩ := Strs.of_owns (hv hN)
  obtain ⟨h1, h2, h3⟩ := owns_cap (hv hN)
  exact ⟨p, cap, by rw [hN], ⟨hc, h1, by unfold maxLen at h2; omega, h3⟩, hB⟩
/-- 'string([]byte{n})' -/
theorem one_byte (W : World) (n : Nat) (hn : n < 256) : (convert 87 9 (.slice (some ⟨W.heap.size, 0, none⟩) 1 1)).run Tryz.prog (W.alloc (.cells #[.int .u8 (n : Int)] 5)) = .ok (.string ⟨#[UInt8.ofNat n]⟩) (W.alloc (.cells #[.int .u8 (n : Int)] 5)) := by
  have hc := cell_new_l W (.int .u8 (n : Int)) 5
  refine HoldsB.str (t := ⟨#[UInt8.ofNat n]⟩) (f := fun _ => n) ⟨by simp, fun j hj => ?_, fun j hj => ?_⟩ (fun j hj => ?_) 1
  · have : j = 0 := by have : j < 1 := hj; omega
    subst this; exact hc.1
  · have : j = 0 := by have : j < 1 := hj; omega
    subst this; exact hc.2
  · have : j = 0 := by have : j < 1 := hj; omega
    subst this
    rw [← bt_eq hj]
    show n = (UInt8.ofNat n).toNat
    rw [UInt8.toNat_ofNat']; omega

set_option maxRecDepth 100000 in
set_option maxHeartbeats 1000000 in
/-- gazetteerref1.Put -/
theorem put_any (v : Value) (l : List ByteArray) (w : World) (hv : Strs w v l) (hl : ∀ x ∈ l, x.size ≤ 255) (hz : (putB l).size ≤ 4294967296) :
    Calls Tryz.prog 80 #[v] w fun e w' => e = .returned (.string (putB l)) ∧ Below w.heap.size w w' := by
  obtain ⟨p, cap, rfl, hc⟩ := hv
  have hll : l.length ≤ 4294967296 := by have := chunks_len l; have := putB_size l; omega
  go_enter Tryz.func80, Tryz.ntmps80
  go_wp2
  go_loopw [3, 8] (fun sv i wr => ∃ k : Nat, i = .int .i64 k ∧ k ≤ l.length ∧ sv = .string (chunks (l.take k)) ∧ Below w.heap.size w wr)
    (fun _ i _ => l.length - (intOf i).toNat)
  case atStart => exact ⟨0, rfl, Nat.zero_le _, rfl, Below.refl _ _⟩
  case round =>
    obtain ⟨k, rfl, hk, rfl, hB⟩ := hrel
    by_cases hlt : k < l.length
    · obtain ⟨g, off, rfl, hg, hcell0⟩ := hc k hlt
      have hcell := (hB.cell (p := ⟨g, off + k, none⟩) hg).trans hcell0
      have hx255 := hl l[k] (List.getElem_mem _)
      obtain ⟨x, hx⟩ : ∃ x, l[k] = x := ⟨_, rfl⟩
      rw [hx] at hcell hx255
      have hxs : (chunks (l.take (k + 1))).size ≤ (chunks l).size := chunks_size_take l (k + 1)
      have hps := putB_size l
      have hsn : chunks (l.take (k + 1)) = chunks (l.take k) ++ chunk x := by rw [← hx, ← chunks_snoc, List.take_succ_eq_append_getElem hlt]
      have hss : (chunks (l.take k)).size + (chunk x).size ≤ 4294967296 := by rw [hsn, ByteArray.size_append] at hxs; omega
      have HSN : Hid (chunks (l.take (k + 1)) = chunks (l.take k) ++ chunk x) := hsn
      have hcv : ∀ W : World, (convert 87 9 (.slice (some ⟨W.heap.size, 0, none⟩) 1 1)).run Tryz.prog (W.alloc (.cells #[.int .u8 (x.size : Int)] 5)) = .ok (.string ⟨#[UInt8.ofNat x.size]⟩) (W.alloc (.cells #[.int .u8 (x.size : Int)] 5)) := fun W => one_byte W x.size (by omega)
      have had1 : ∀ W : World, (Op.stringOp .add ⟨#[UInt8.ofNat x.size]⟩ x).run Tryz.prog W = .ok (.string (chunk x)) W := fun W => run_string_add_sum W _ x (by rw [show (⟨#[UInt8.ofNat x.size]⟩ : ByteArray).size = 1 from rfl]; omega)
      have had2 : ∀ W : World, (Op.stringOp .add (chunks (l.take k)) (chunk x)).run Tryz.prog W = .ok (.string (chunks (l.take (k + 1)))) W := fun W => by
        rw [HSN.out]; exact run_string_add_sum W _ _ (by omega)
      clear hx hxs hps hsn hss hcell0
      go_wp2
      go_roundw
      case rel => exact ⟨k + 1, by go_num, hlt, rfl, hB.alloc hB.size _⟩
      case measure => simp [intOf]; omega
    · have had : ∀ W : World, (Op.stringOp .add (chunks (l.take k)) ⟨#[0]⟩).run Tryz.prog W = .ok (.string (putB l)) W := fun W => by
        rw [List.take_of_length_le (by omega)]
        have := putB_size l
        exact run_string_add_sum W _ _ (by rw [show (⟨#[0]⟩ : ByteArray).size = 1 from rfl]; omega)
      go_wp2
      go_ret
      exact ⟨rfl, hB⟩
end Go.Proofs.YtelboefeomnjaaaGreat

namespace Go.Proofs.YtelboefeomnjaaaGreat
set_option linter.unusedVariables false
open Go.RowKit Go.Shelf Go.Proofs.YtelboefeomnjaaaGreat.Nm

theorem hide' {p : Prop} (h : p) : Hid p := h

set_option maxRecDepth 100000 in
set_option maxHeartbeats 1000000 in
/-- spell.Small -/
theorem small_any (s : ByteArray) (w : World) (hs : s.size ≤ 1048576) :
    Calls Tryz.prog 28 #[.string s] w fun e w' => e = .returned (.string (lowB s)) ∧ Below w.heap.size w w' := by
  have hcv := fun w' => run_bytes_of_string (P := Tryz.prog) w' 9 87 5 s Tryz.underlying9 Tryz.underlying87 Tryz.underlying5
  go_enter Tryz.func28, Tryz.ntmps28
  go_wp2
  go_loopw [10] (fun i wr => ∃ k : Nat, i = .int .i64 k ∧ k ≤ s.size ∧ HoldsB wr w.heap.size s.size (fun j => if j < k then lowN (bt s j) else bt s j) ∧ Below w.heap.size w wr)
    (fun i _ => s.size - (intOf i).toNat)
  case atStart => exact ⟨0, rfl, Nat.zero_le _, ((holdsB_new _ _ _ _).drew).congr (by simp), ((Below.refl _ _).alloc (Nat.le_refl _) _).drew⟩
  case round =>
    obtain ⟨k, rfl, hk, hH, hBr⟩ := hrel
    by_cases hlt : k < s.size
    · have hc := hH.cell k hlt
      have hfr := hH.free k hlt
      simp only [Nat.lt_irrefl, if_false] at hc
      obtain ⟨x, hx, hx256⟩ : ∃ x, bt s k = x ∧ x < 256 := ⟨_, rfl, bt_lt _ _⟩
      rw [hx] at hc
      have HX : Hid (bt s k = x) := hx
      clear hx
      have hnext : ∀ (W : World) (y : Nat), y = lowN x → HoldsB W w.heap.size s.size (fun j => if j = k then y else if j < k then lowN (bt s j) else bt s j) → HoldsB W w.heap.size s.size (fun j => if j < k + 1 then lowN (bt s j) else bt s j) := by
        intro W y hy h
        refine h.congr fun j _ => ?_
        by_cases e : j = k
        · subst e; rw [if_pos rfl, if_pos (by omega), hy, HX.out]
        · rw [if_neg e]
          by_cases e2 : j < k
          · rw [if_pos e2, if_pos (by omega)]
          · rw [if_neg e2, if_neg (by omega)]
      have hstay : ∀ (W : World), lowN x = x → HoldsB W w.heap.size s.size (fun j => if j < k then lowN (bt s j) else bt s j) → HoldsB W w.heap.size s.size (fun j => if j < k + 1 then lowN (bt s j) else bt s j) := by
        intro W hy h
        refine h.congr fun j _ => ?_
        by_cases e : j = k
        · subst e; rw [if_neg (by omega), if_pos (by omega), HX.out, hy]
        · by_cases e2 : j < k
          · rw [if_pos e2, if_pos (by omega)]
          · rw [if_neg e2, if_neg (by omega)]
      have HNX := hide' hnext
      have HST := hide' hstay
      clear hnext hstay
      by_cases h65 : 65 ≤ x
      · by_cases h90 : x ≤ 90
        · go_wp2
          go_roundw
          case rel => exact ⟨k + 1, by go_num, hlt, HNX.out _ (x + 32) (by unfold lowN; rw [if_pos ⟨h65, h90⟩]) (hH.set k (x + 32) hlt), hBr.setCell (p := ⟨w.heap.size, k, none⟩) (Nat.le_refl _) _⟩
          case measure => simp [intOf]; omega
        · have h90' : 90 < x := by omega
          go_wp2
          go_roundw
          case rel => exact ⟨k + 1, by go_num, hlt, HST.out _ (by unfold lowN; rw [if_neg (by omega)]) hH, hBr⟩
          case measure => simp [intOf]; omega
      · have h65' : x < 65 := by omega
        go_wp2
        go_roundw
        case rel => exact ⟨k + 1, by go_num, hlt, HST.out _ (by unfold lowN; rw [if_neg (by omega)]) hH, hBr⟩
        case measure => simp [intOf]; omega
    · have hst : ∀ cap, (convert 87 9 (.slice (some ⟨w.heap.size, 0, none⟩) s.size cap)).run Tryz.prog wr = .ok (.string (lowB s)) wr := fun cap => by
        have hz := lowB_size s
        rw [← hz] at hH ⊢
        exact hH.str (fun j hj => by rw [if_pos (by omega), lowB_bt]) cap
      go_wp2
      go_ret
      exact ⟨rfl, hBr⟩
end Go.Proofs.YtelboefeomnjaaaGreat

namespace Go.Proofs.YtelboefeomnjaaaGreat
set_option linter.unusedVariables false
open Go.RowKit Go.Shelf Go.Proofs.YtelboefeomnjaaaGreat.Nm

theorem ownsRow_below {w w' : World} {base e size : Nat} {v : Value} {n : Nat} {xs : List Value} (h : w.ownsRow base e size v n xs) (hb : Below w.heap.size w w') : w'.ownsRow base e size v n xs := by
  obtain ⟨hl, (⟨rfl, h0⟩ | ⟨g, cap, cur, rfl, hg, hh, rest⟩)⟩ := h
  · exact ⟨hl, .inl ⟨rfl, h0⟩⟩
  · exact ⟨hl, .inr ⟨g, cap, cur, rfl, hg, (hb.block g (Array.getElem?_eq_some_iff.1 hh).1).trans hh, rest⟩⟩

theorem below_app {B e size n : Nat} {w' w2 w3 : World} {o : Obj} {ov : Value} {xs : List Value} (h : Below B w' w2) (hB : B ≤ w'.heap.size) (hown : w2.ownsRow B e size ov n xs) (hg : (w2.alloc o).grownBy w3 ov.ownBlock) : Below B w' w3 :=
  (h.alloc (Nat.le_trans hB h.size) _).grown hg (by have := h.size; simp; omega) (fun _ e => ownBlock_le hown e)
theorem bstep {B : Nat} {a b c : World} (h : Below B a b) (k : Below b.heap.size b c) (hB : B ≤ b.heap.size) : Below B a c := h.trans (k.mono hB)

/-- gazetteerref1.IsName -/
theorem refIsName_any (s : ByteArray) (w : World) (hs : s.size ≤ 1048576) :
    Calls Tryz.prog 60 #[.string s] w fun e w' => e = .returned (.bool (isN s)) ∧ Below w.heap.size w w' := by
  go_enter Tryz.func60, Tryz.ntmps60
  go_wp2_with (go_at_call 72; refine (split_any s _ hs).mono ?_; rintro e w' ⟨v, rfl, hv, hB⟩)
  go_ret
  exact ⟨rfl, hB⟩

set_option maxRecDepth 100000 in
set_option maxHeartbeats 1000000 in
/-- gazetteerref1.FoldName -/
theorem foldName_any (s : ByteArray) (w : World) (hs : s.size ≤ 1048576) :
    Calls Tryz.prog 71 #[.string s] w fun e w' => e = .returned (.string (foldB s)) ∧ Below w.heap.size w w' := by
  obtain ⟨i0, hi, hz0, hz1, hz2⟩ := info_parts Tryz.infoStr
  cases hN : isN s with
  | false =>
    have HF : Hid (foldB s = ByteArray.empty) := foldB_no hN
    go_enter Tryz.func71, Tryz.ntmps71
    go_wp2_with (go_at_call 72; refine (split_any s _ hs).mono ?_; rintro e w' ⟨v, rfl, hv, hB⟩)
    go_ret
    exact ⟨by rw [HF.out]; rfl, hB⟩
  | true =>
    have HF : Hid (foldB s = lowB s) := foldB_yes hN
    have HP : Hid (putB ((labs s).map lowB) = foldB s) := by unfold Hid; rw [HF.out, putB_low_labs hN]
    have hs255 : s.size ≤ 255 := ((isN_iff s).1 hN).1
    have HM : Hid (∀ x ∈ labs s, x.size ≤ 63) := fun x hx => (labs_mem hx).2
    have HZ : Hid (putB (labs s) = s) := putB_labs hN
    have hll : (labs s).length ≤ 255 := by have := chunks_len (labs s); have := putB_size (labs s); rw [HZ.out] at this; omega
    go_enter Tryz.func71, Tryz.ntmps71
    go_wp2_with (go_at_call 72; refine (split_yes s _ hs hN).mono ?_; rintro e w' ⟨p, cap, rfl, ⟨hc, _⟩, hB⟩)
    go_loopw [5, 17] (fun ov i wr => ∃ k : Nat, i = .int .i64 k ∧ k ≤ (labs s).length ∧ wr.ownsRow w'.heap.size 9 1 ov k ((((labs s).map lowB).take k).map Value.string) ∧ Below w'.heap.size w' wr)
      (fun _ i _ => (labs s).length - (intOf i).toNat)
    case atStart => exact ⟨0, rfl, Nat.zero_le _, World.ownsRow_nil _ _ _ _, Below.refl _ _⟩
    case round =>
      obtain ⟨k, rfl, hk, hown, hBr⟩ := hrel
      by_cases hlt : k < (labs s).length
      · obtain ⟨g, off, rfl, hg, hcell0⟩ := hc k hlt
        have hcell := (hBr.cell (p := ⟨g, off + k, none⟩) hg).trans hcell0
        have hx63 : (labs s)[k].size ≤ 63 := HM.out _ (List.getElem_mem _)
        obtain ⟨x, hx⟩ : ∃ x, (labs s)[k] = x := ⟨_, rfl⟩
        rw [hx] at hcell hx63
        have HT : Hid ((((labs s).map lowB).take (k + 1)).map Value.string = (((labs s).map lowB).take k).map Value.string ++ [.string (lowB x)]) := by
          unfold Hid
          rw [List.take_succ_eq_append_getElem (by simpa using hlt)]
          simp [hx]
        clear hx hcell0
        go_wp2_with (first
          | (go_at_call 35; refine (low_any x _ (by omega)).mono ?_; rintro e w2 ⟨rfl, hB2⟩; have hown2 := ownsRow_below hown hB2)
          | (at_builtin; refine wpList_append_own _ rfl _ _ 61 rfl w'.heap.size 9 i0 (.string .empty) 1 16 Tryz.underlying61 hi hz0 hz1 hz2 rfl (by decide) _ _ _ rfl (hown2.alloc _) ⟨w2.heap.size, 0, none⟩ 1 1 [.string (lowB x)] rfl rfl (cell_one_new _ _ _) (by simp [Value.oneCell']) (by unfold maxLen; omega) (by omega) (by have := hBr.size; have := hB2.size; simp; omega) ?_; intro v' w3 hown' hgrow _))
        refine ⟨⟨k + 1, by go_num, hlt, ?_, below_app (bstep hBr hB2 hBr.size) (Nat.le_refl _) hown2 hgrow⟩, ?_⟩
        · rw [HT.out]; exact hown'
        · simp [intOf]; omega
      · have hstr : Strs wr u5 ((labs s).map lowB) := by
          refine Strs.of_owns (base := w'.heap.size) ?_
          rw [List.take_of_length_le (by simp; omega), show k = (labs s).length by omega] at hown
          rw [List.length_map]; exact hown
        have hz : (putB ((labs s).map lowB)).size ≤ 4294967296 := by rw [HP.out, HF.out, lowB_size]; omega
        have hM2 : ∀ x ∈ (labs s).map lowB, x.size ≤ 255 := by
          intro x hx
          obtain ⟨y, hy, rfl⟩ := List.mem_map.1 hx
          have := HM.out y hy
          rw [lowB_size]; omega
        have HS := hstr
        have HZ2 : Hid ((putB ((labs s).map lowB)).size ≤ 4294967296) := hz
        have HM2 : Hid (∀ x ∈ (labs s).map lowB, x.size ≤ 255) := hM2
        clear hstr hz hM2
        go_wp2_with (go_at_call 80; refine (put_any u5 ((labs s).map lowB) _ HS HM2.out HZ2.out).mono ?_; rintro e w4 ⟨rfl, hB4⟩)
        go_ret
        exact ⟨by rw [HP.out]; rfl, bstep (hB.trans (hBr.mono hB.size)) hB4 (Nat.le_trans hB.size hBr.size)⟩

/-- name.Fold -/
theorem fold_any (s : ByteArray) (w : World) (hm : s.size ≤ maxLen) :
    Calls Tryz.prog 76 #[.string s] w fun e w' => e = .returned (.string (foldB s)) ∧ Below w.heap.size w w' := by
  cases hN : isN s with
  | false =>
    have HF : Hid (foldB s = ByteArray.empty) := foldB_no hN
    go_enter Tryz.func76, Tryz.ntmps76
    go_wp2_with (go_at_call 75; refine (isName_any s _ hm).mono ?_; rintro e w' ⟨rfl, hB⟩)
    go_ret
    exact ⟨by rw [HF.out]; rfl, hB⟩
  | true =>
    have HF : Hid (foldB s = lowB s) := foldB_yes hN
    have hs255 : s.size ≤ 255 := ((isN_iff s).1 hN).1
    go_enter Tryz.func76, Tryz.ntmps76
    go_wp2_with (first
      | (go_at_call 75; refine (isName_any s _ hm).mono ?_; rintro e w' ⟨rfl, hB⟩)
      | (go_at_call 28; refine (small_any s _ (by omega)).mono ?_; rintro e w2 ⟨rfl, hB2⟩))
    go_ret
    exact ⟨by rw [HF.out]; rfl, bstep hB hB2 hB.size⟩
end Go.Proofs.YtelboefeomnjaaaGreat
