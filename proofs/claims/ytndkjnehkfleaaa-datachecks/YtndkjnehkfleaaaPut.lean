import Derived.Test.YtndkjnehkfleaaaLow
import Derived.Test.YtndkjnehkfleaaaMathG
namespace Go.Proofs.Ytndkjnehkfleaaa
set_option linter.unusedVariables false
open Go.RowKit Go.Shelf Nm

/-- a list of texts, in memory -/
def Strs (w : World) (v : Value) (l : List ByteArray) : Prop :=
  ∃ p cap, v = .slice p l.length cap ∧ ∀ j (h : j < l.length), ∃ g off, p = some ⟨g, off, none⟩ ∧ g < w.heap.size ∧ w.cell? ⟨g, off + j, none⟩ = some (.string l[j])

theorem Strs.below {w w' : World} {v : Value} {l : List ByteArray} (h : Strs w v l) (hb : Below w.heap.size w w') : Strs w' v l := by
  obtain ⟨p, cap, hv, hc⟩ := h
  refine ⟨p, cap, hv, fun j hj => ?_⟩
  obtain ⟨g, off, hp, hg, hcell⟩ := hc j hj
  exact ⟨g, off, hp, Nat.lt_of_lt_of_le hg hb.size, (hb.cell (p := ⟨g, off + j, none⟩) hg).trans hcell⟩

theorem owns_cap {w : World} {base : Nat} {p : Option Addr} {n cap : Nat} {xs : List Value} {m : Nat} (h : w.ownsRow base 9 1 (.slice p m cap) n xs) : n ≤ cap ∧ cap ≤ maxLen ∧ (p = none → cap = 0) := by
  obtain ⟨hl, (⟨h1, h0⟩ | ⟨g, cap', cur, h1, hb, hg, hn, hcap, hsz, ht⟩)⟩ := h
  · simp at h1; exact ⟨by omega, by rw [h1.2.2]; exact Nat.zero_le _, fun _ => h1.2.2⟩
  · simp at h1; obtain ⟨e, _, rfl⟩ := h1; exact ⟨hn, hcap, fun e2 => by rw [e2] at e; cases e⟩
theorem Strs.of_owns {w : World} {base : Nat} {v : Value} {l : List ByteArray} (h : w.ownsRow base 9 1 v l.length (l.map Value.string)) : Strs w v l := by
  obtain ⟨hl, (⟨rfl, h0⟩ | ⟨g, cap, cur, rfl, hb, hg, hn, hcap, hsz, ht⟩)⟩ := h
  · exact ⟨none, 0, by rw [h0], fun j hj => by omega⟩
  · refine ⟨some ⟨g, 0, none⟩, cap, rfl, fun j hj => ⟨g, 0, rfl, (Array.getElem?_eq_some_iff.1 hg).1, ?_⟩⟩
    have hcur : cur[j]? = some (.string l[j]) := by
      have := congrArg (fun t => t[j]?) ht
      simp only [Nat.mul_one] at this
      rw [List.getElem?_take, if_pos hj] at this
      rw [← Array.getElem?_toList, this]
      simp [hj]
    simp [World.cell?, hg, hcur]

/-- the cells of a list of texts -/
def StrsAt (w : World) (p : Option Addr) (l : List ByteArray) : Prop :=
  ∀ j (h : j < l.length), ∃ g off, p = some ⟨g, off, none⟩ ∧ g < w.heap.size ∧ w.cell? ⟨g, off + j, none⟩ = some (.string l[j])
theorem StrsAt.below {w w' : World} {p : Option Addr} {l : List ByteArray} (h : StrsAt w p l) (hb : Below w.heap.size w w') : StrsAt w' p l := by
  intro j hj
  obtain ⟨g, off, hp, hg, hcell⟩ := h j hj
  exact ⟨g, off, hp, Nat.lt_of_lt_of_le hg hb.size, (hb.cell (p := ⟨g, off + j, none⟩) hg).trans hcell⟩
theorem StrsAt.strs {w : World} {p : Option Addr} {l : List ByteArray} (h : StrsAt w p l) (cap : Nat) : Strs w (.slice p l.length cap) l := ⟨p, cap, rfl, h⟩

theorem split_yes (s : ByteArray) (w : World) (hs : s.size ≤ 1048576) (hN : isN s = true) :
    Calls Try.prog 27 #[.string s] w fun e w' => ∃ p cap, e = .returned (.tuple #[.slice p (labs s).length cap, .bool true]) ∧ (StrsAt w' p (labs s) ∧ (labs s).length ≤ cap ∧ cap ≤ 9223372036854775807 ∧ (p = none → cap = 0)) ∧ Below w.heap.size w w' := by
  refine (split_any s w hs).mono ?_
  rintro e w' ⟨v, rfl, hv, hB⟩
  obtain ⟨p, cap, rfl, hc⟩ := Strs.of_owns (hv hN)
  obtain ⟨h1, h2, h3⟩ := owns_cap (hv hN)
  exact ⟨p, cap, by rw [hN], ⟨hc, h1, by unfold maxLen at h2; omega, h3⟩, hB⟩
theorem split_no (s : ByteArray) (w : World) (hs : s.size ≤ 1048576) (hN : isN s = false) :
    Calls Try.prog 27 #[.string s] w fun e w' => ∃ v, e = .returned (.tuple #[v, .bool false]) ∧ Below w.heap.size w w' := by
  refine (split_any s w hs).mono ?_
  rintro e w' ⟨v, rfl, hv, hB⟩
  exact ⟨v, by rw [hN], hB⟩

/-- 'string([]byte{n})' -/
theorem one_byte (W : World) (n : Nat) (hn : n < 256) : (convert 43 9 (.slice (some ⟨W.heap.size, 0, none⟩) 1 1)).run Try.prog (W.alloc (.cells #[.int .u8 (n : Int)] 5)) = .ok (.string ⟨#[UInt8.ofNat n]⟩) (W.alloc (.cells #[.int .u8 (n : Int)] 5)) := by
  have hc := cell_new_l W (.int .u8 (n : Int)) 5
  refine HoldsB.str (t := ⟨#[UInt8.ofNat n]⟩) (f := fun _ => n) ⟨by simp, fun j hj => ?_, fun j hj => ?_⟩ (fun j hj => ?_) 1
  · have : j = 0 := by have : j < 1 := hj; omega
    subst this; exact hc.1
  · have : j = 0 := by have : j < 1 := hj; omega
    subst this; exact hc.2
  · have : j = 0 := by have : j < 1 := hj; omega
    subst this
    rw [← bt_eq hj]
    show n = (UInt8.ofNat n).toNat
    rw [UInt8.toNat_ofNat']; omega

set_option maxRecDepth 100000 in
set_option maxHeartbeats 1000000 in
/-- gazetteerref1.Put -/
theorem put_any (v : Value) (l : List ByteArray) (w : World) (hv : Strs w v l) (hl : ∀ x ∈ l, x.size ≤ 255) (hz : (putB l).size ≤ 4294967296) :
    Calls Try.prog 29 #[v] w fun e w' => e = .returned (.string (putB l)) ∧ Below w.heap.size w w' := by
  obtain ⟨p, cap, rfl, hc⟩ := hv
  have hll : l.length ≤ 4294967296 := by have := chunks_len l; have := putB_size l; omega
  go_enter Try.func29, Try.ntmps29
  go_wp2
  go_loopw [3, 8] (fun sv i wr => ∃ k : Nat, i = .int .i64 k ∧ k ≤ l.length ∧ sv = .string (chunks (l.take k)) ∧ Below w.heap.size w wr)
    (fun _ i _ => l.length - (intOf i).toNat)
  case atStart => exact ⟨0, rfl, Nat.zero_le _, rfl, Below.refl _ _⟩
  case round =>
    obtain ⟨k, rfl, hk, rfl, hB⟩ := hrel
    by_cases hlt : k < l.length
    · obtain ⟨g, off, rfl, hg, hcell0⟩ := hc k hlt
      have hcell := (hB.cell (p := ⟨g, off + k, none⟩) hg).trans hcell0
      have hx255 := hl l[k] (List.getElem_mem _)
      obtain ⟨x, hx⟩ : ∃ x, l[k] = x := ⟨_, rfl⟩
      rw [hx] at hcell hx255
      have hxs : (chunks (l.take (k + 1))).size ≤ (chunks l).size := chunks_size_take l (k + 1)
      have hps := putB_size l
      have hsn : chunks (l.take (k + 1)) = chunks (l.take k) ++ chunk x := by rw [← hx, ← chunks_snoc, List.take_succ_eq_append_getElem hlt]
      have hss : (chunks (l.take k)).size + (chunk x).size ≤ 4294967296 := by rw [hsn, ByteArray.size_append] at hxs; omega
      have HSN : Hid (chunks (l.take (k + 1)) = chunks (l.take k) ++ chunk x) := hsn
      have hcv : ∀ W : World, (convert 43 9 (.slice (some ⟨W.heap.size, 0, none⟩) 1 1)).run Try.prog (W.alloc (.cells #[.int .u8 (x.size : Int)] 5)) = .ok (.string ⟨#[UInt8.ofNat x.size]⟩) (W.alloc (.cells #[.int .u8 (x.size : Int)] 5)) := fun W => one_byte W x.size (by omega)
      have had1 : ∀ W : World, (Op.stringOp .add ⟨#[UInt8.ofNat x.size]⟩ x).run Try.prog W = .ok (.string (chunk x)) W := fun W => run_string_add_sum W _ x (by rw [show (⟨#[UInt8.ofNat x.size]⟩ : ByteArray).size = 1 from rfl]; omega)
      have had2 : ∀ W : World, (Op.stringOp .add (chunks (l.take k)) (chunk x)).run Try.prog W = .ok (.string (chunks (l.take (k + 1)))) W := fun W => by
        rw [HSN.out]; exact run_string_add_sum W _ _ (by omega)
      clear hx hxs hps hsn hss hcell0
      go_wp2
      go_roundw
      case rel => exact ⟨k + 1, by go_num, hlt, rfl, hB.alloc hB.size _⟩
      case measure => simp [intOf]; omega
    · have had : ∀ W : World, (Op.stringOp .add (chunks (l.take k)) ⟨#[0]⟩).run Try.prog W = .ok (.string (putB l)) W := fun W => by
        rw [List.take_of_length_le (by omega)]
        have := putB_size l
        exact run_string_add_sum W _ _ (by rw [show (⟨#[0]⟩ : ByteArray).size = 1 from rfl]; omega)
      go_wp2
      go_ret
      exact ⟨rfl, hB⟩
end Go.Proofs.Ytndkjnehkfleaaa
