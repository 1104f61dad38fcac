import Derived.Test.YtfacfhigehdejaaGreatDoorWkG
import Derived.Test.YtfacfhigehdejaaGreatDoorMathG
import Derived.Laws.IdiomStrings
namespace Go.Proofs.YtfacfhigehdejaaGreatDoor
set_option linter.unusedVariables false
open Go.RowKit Go.Shelf Go.Proofs.YtfacfhigehdejaaGreatDoor.Nm

/-- '[]byte(s)': the new block's bytes -/
structure HoldsB (w : World) (b : Nat) (n : Nat) (f : Nat → Nat) : Prop where
  lt : b < w.heap.size
  cell : ∀ j, j < n → w.cell? ⟨b, j, none⟩ = some (.int .u8 (f j))
  free : ∀ j, j < n → w.frozen? ⟨b, j, none⟩ = false

theorem getElem?_bytesRow (s : ByteArray) (cap j : Nat) (h : j < s.size) : (bytesRow s cap)[j]? = some (.int .u8 (bt s j)) := by
  have hs : s.data.size = s.size := rfl
  unfold bytesRow
  rw [Array.getElem?_append_left (by simp; omega), Array.getElem?_map, Array.getElem?_eq_getElem (by omega)]
  simp [bt, h]
  rfl

theorem frozen_mark (w : World) (C : Array Value) (t : TypeId) (a c j : Nat) (h : j < a) : (w.alloc (.cells C t (a, c))).frozen? ⟨w.heap.size, j, none⟩ = false := by
  have : (w.alloc (.cells C t (a, c))).heap[w.heap.size]? = some (.cells C t (a, c)) := by
    show (w.heap.push (.cells C t (a, c)))[w.heap.size]? = _
    simp
  simp only [World.frozen?, this]
  simp
  omega

theorem holdsB_new (w : World) (s : ByteArray) (cap : Nat) (t : TypeId) :
    HoldsB (w.alloc (.cells (bytesRow s cap) t ((bytesRow s cap).size, (bytesRow s cap).size + 1))) w.heap.size s.size (bt s) := by
  refine ⟨by simp, fun j hj => ?_, fun j hj => ?_⟩
  · rw [World.cell?_alloc_mark, getElem?_bytesRow s cap j hj]
  · refine frozen_mark _ _ _ _ _ _ ?_
    have hs : s.data.size = s.size := rfl
    unfold bytesRow; simp; omega

theorem HoldsB.drew {w : World} {b n : Nat} {f : Nat → Nat} (h : HoldsB w b n f) : HoldsB w.drew b n f := ⟨h.lt, h.cell, h.free⟩

theorem HoldsB.set {w : World} {b n : Nat} {f : Nat → Nat} (h : HoldsB w b n f) (k x : Nat) (hk : k < n) : HoldsB (w.setCell ⟨b, k, none⟩ (.int .u8 x)) b n (fun j => if j = k then x else f j) := by
  refine ⟨by simpa [World.setCell] using h.lt, fun j hj => ?_, fun j hj => ?_⟩
  · by_cases e : j = k
    · subst e; rw [if_pos rfl, World.cell?_setCell_same' _ _ _ (by rw [h.cell _ hj]; rfl)]
    · rw [if_neg e, World.cell?_setCell_other _ _ _ _ (fun e' => e (by simpa using congrArg Addr.off e'.symm))]; exact h.cell j hj
  · rw [World.frozen?_setCell]; exact h.free j hj

theorem HoldsB.congr {w : World} {b n : Nat} {f g : Nat → Nat} (h : HoldsB w b n f) (e : ∀ j, j < n → f j = g j) : HoldsB w b n g :=
  ⟨h.lt, fun j hj => by rw [← e j hj]; exact h.cell j hj, h.free⟩

/-- 'string(b)' -/
theorem HoldsB.str {w : World} {b : Nat} {f : Nat → Nat} {t : ByteArray} (h : HoldsB w b t.size f) (hf : ∀ j, j < t.size → f j = bt t j) (cap : Nat) :
    (convert 69 9 (.slice (some ⟨b, 0, none⟩) t.size cap)).run Tryz.prog w = .ok (.string t) w := by
  have hl : t.data.toList.length = t.size := by simp
  have := run_convert_bytes_back (P := Tryz.prog) w 69 9 5 ⟨b, 0, none⟩ cap t.data.toList Tryz.underlying69 Tryz.underlying5 Tryz.underlying9 (fun j hj => by
    have hj' : j < t.size := by omega
    have e : t.data.toList[j].toNat = bt t j := bt_list t j hj'
    rw [e]
    have := h.cell j hj'
    rw [hf j hj'] at this
    rw [show Addr.add ⟨b, 0, none⟩ j = ⟨b, j, none⟩ by unfold Addr.add; split <;> simp_all]
    exact this)
  rw [hl] at this
  simpa using this

end Go.Proofs.YtfacfhigehdejaaGreatDoor

namespace Go.Proofs.YtfacfhigehdejaaGreatDoor
set_option linter.unusedVariables false
open Go.RowKit Go.Shelf Go.Proofs.YtfacfhigehdejaaGreatDoor.Nm

/-- a list of texts, in memory -/
def Strs (w : World) (v : Value) (l : List ByteArray) : Prop :=
  ∃ p cap, v = .slice p l.length cap ∧ ∀ j (h : j < l.length), ∃ g off, p = some ⟨g, off, none⟩ ∧ g < w.heap.size ∧ w.cell? ⟨g, off + j, none⟩ = some (.string l[j])

theorem Strs.below {w w' : World} {v : Value} {l : List ByteArray} (h : Strs w v l) (hb : Below w.heap.size w w') : Strs w' v l := by
  obtain ⟨p, cap, hv, hc⟩ := h
  refine ⟨p, cap, hv, fun j hj => ?_⟩
  obtain ⟨g, off, hp, hg, hcell⟩ := hc j hj
  exact ⟨g, off, hp, Nat.lt_of_lt_of_le hg hb.size, (hb.cell (p := ⟨g, off + j, none⟩) hg).trans hcell⟩

theorem owns_cap {w : World} {base : Nat} {p : Option Addr} {n cap : Nat} {xs : List Value} {m : Nat} (h : w.ownsRow base 9 1 (.slice p m cap) n xs) : n ≤ cap ∧ cap ≤ maxLen ∧ (p = none → cap = 0) := by
  obtain ⟨hl, (⟨h1, h0⟩ | ⟨g, cap', cur, h1, hb, hg, hn, hcap, hsz, ht⟩)⟩ := h
  · simp at h1; exact ⟨by omega, by rw [h1.2.2]; exact Nat.zero_le _, fun _ => h1.2.2⟩
  · simp at h1; obtain ⟨e, _, rfl⟩ := h1; exact ⟨hn, hcap, fun e2 => by rw [e2] at e; cases e⟩
theorem Strs.of_owns {w : World} {base : Nat} {v : Value} {l : List ByteArray} (h : w.ownsRow base 9 1 v l.length (l.map Value.string)) : Strs w v l := by
  obtain ⟨hl, (⟨rfl, h0⟩ | ⟨g, cap, cur, rfl, hb, hg, hn, hcap, hsz, ht⟩)⟩ := h
  · exact ⟨none, 0, by rw [h0], fun j hj => by omega⟩
  · refine ⟨some ⟨g, 0, none⟩, cap, rfl, fun j hj => ⟨g, 0, rfl, (Array.getElem?_eq_some_iff.1 hg).1, ?_⟩⟩
    have hcur : cur[j]? = some (.string l[j]) := by
      have := congrArg (fun t => t[j]?) ht
      simp only [Nat.mul_one] at this
      rw [List.getElem?_take, if_pos hj] at this
      rw [← Array.getElem?_toList, this]
      simp [hj]
    simp [World.cell?, hg, hcur]

/-- the cells of a list of texts -/
def StrsAt (w : World) (p : Option Addr) (l : List ByteArray) : Prop :=
  ∀ j (h : j < l.length), ∃ g off, p = some ⟨g, off, none⟩ ∧ g < w.heap.size ∧ w.cell? ⟨g, off + j, none⟩ = some (.string l[j])
theorem StrsAt.below {w w' : World} {p : Option Addr} {l : List ByteArray} (h : StrsAt w p l) (hb : Below w.heap.size w w') : StrsAt w' p l := by
  intro j hj
  obtain ⟨g, off, hp, hg, hcell⟩ := h j hj
  exact ⟨g, off, hp, Nat.lt_of_lt_of_le hg hb.size, (hb.cell (p := ⟨g, off + j, none⟩) hg).trans hcell⟩
theorem StrsAt.strs {w : World} {p : Option Addr} {l : List ByteArray} (h : StrsAt w p l) (cap : Nat) : Strs w (.slice p l.length cap) l := ⟨p, cap, rfl, h⟩

/-- 'string([]byte{n})' -/
theorem one_byte (W : World) (n : Nat) (hn : n < 256) : (convert 69 9 (.slice (some ⟨W.heap.size, 0, none⟩) 1 1)).run Tryz.prog (W.alloc (.cells #[.int .u8 (n : Int)] 5)) = .ok (.string ⟨#[UInt8.ofNat n]⟩) (W.alloc (.cells #[.int .u8 (n : Int)] 5)) := by
  have hc := cell_new_l W (.int .u8 (n : Int)) 5
  refine HoldsB.str (t := ⟨#[UInt8.ofNat n]⟩) (f := fun _ => n) ⟨by simp, fun j hj => ?_, fun j hj => ?_⟩ (fun j hj => ?_) 1
  · have : j = 0 := by have : j < 1 := hj; omega
    subst this; exact hc.1
  · have : j = 0 := by have : j < 1 := hj; omega
    subst this; exact hc.2
  · have : j = 0 := by have : j < 1 := hj; omega
    subst this
    rw [← bt_eq hj]
    show n = (UInt8.ofNat n).toNat
    rw [UInt8.toNat_ofNat']; omega

end Go.Proofs.YtfacfhigehdejaaGreatDoor

namespace Go.Proofs.YtfacfhigehdejaaGreatDoor
set_option linter.unusedVariables false
open Go.RowKit Go.Shelf Go.Proofs.YtfacfhigehdejaaGreatDoor.Nm

theorem hide' {p : Prop} (h : p) : Hid p := h

set_option maxRecDepth 100000 in
set_option maxHeartbeats 1000000 in
/-- spell.Small -/
theorem small_any (s : ByteArray) (w : World) (hs : s.size ≤ 1048576) :
    Calls Tryz.prog 23 #[.string s] w fun e w' => e = .returned (.string (lowB s)) ∧ Below w.heap.size w w' := by
  have hcv := fun w' => run_bytes_of_string (P := Tryz.prog) w' 9 69 5 s Tryz.underlying9 Tryz.underlying69 Tryz.underlying5
  go_enter Tryz.func23, Tryz.ntmps23
  go_wp2
  go_loopw [10] (fun i wr => ∃ k : Nat, i = .int .i64 k ∧ k ≤ s.size ∧ HoldsB wr w.heap.size s.size (fun j => if j < k then lowN (bt s j) else bt s j) ∧ Below w.heap.size w wr)
    (fun i _ => s.size - (intOf i).toNat)
  case atStart => exact ⟨0, rfl, Nat.zero_le _, ((holdsB_new _ _ _ _).drew).congr (by simp), ((Below.refl _ _).alloc (Nat.le_refl _) _).drew⟩
  case round =>
    obtain ⟨k, rfl, hk, hH, hBr⟩ := hrel
    by_cases hlt : k < s.size
    · have hc := hH.cell k hlt
      have hfr := hH.free k hlt
      simp only [Nat.lt_irrefl, if_false] at hc
      obtain ⟨x, hx, hx256⟩ : ∃ x, bt s k = x ∧ x < 256 := ⟨_, rfl, bt_lt _ _⟩
      rw [hx] at hc
      have HX : Hid (bt s k = x) := hx
      clear hx
      have hnext : ∀ (W : World) (y : Nat), y = lowN x → HoldsB W w.heap.size s.size (fun j => if j = k then y else if j < k then lowN (bt s j) else bt s j) → HoldsB W w.heap.size s.size (fun j => if j < k + 1 then lowN (bt s j) else bt s j) := by
        intro W y hy h
        refine h.congr fun j _ => ?_
        by_cases e : j = k
        · subst e; rw [if_pos rfl, if_pos (by omega), hy, HX.out]
        · rw [if_neg e]
          by_cases e2 : j < k
          · rw [if_pos e2, if_pos (by omega)]
          · rw [if_neg e2, if_neg (by omega)]
      have hstay : ∀ (W : World), lowN x = x → HoldsB W w.heap.size s.size (fun j => if j < k then lowN (bt s j) else bt s j) → HoldsB W w.heap.size s.size (fun j => if j < k + 1 then lowN (bt s j) else bt s j) := by
        intro W hy h
        refine h.congr fun j _ => ?_
        by_cases e : j = k
        · subst e; rw [if_neg (by omega), if_pos (by omega), HX.out, hy]
        · by_cases e2 : j < k
          · rw [if_pos e2, if_pos (by omega)]
          · rw [if_neg e2, if_neg (by omega)]
      have HNX := hide' hnext
      have HST := hide' hstay
      clear hnext hstay
      by_cases h65 : 65 ≤ x
      · by_cases h90 : x ≤ 90
        · go_wp2
          go_roundw
          case rel => exact ⟨k + 1, by go_num, hlt, HNX.out _ (x + 32) (by unfold lowN; rw [if_pos ⟨h65, h90⟩]) (hH.set k (x + 32) hlt), hBr.setCell (p := ⟨w.heap.size, k, none⟩) (Nat.le_refl _) _⟩
          case measure => simp [intOf]; omega
        · have h90' : 90 < x := by omega
          go_wp2
          go_roundw
          case rel => exact ⟨k + 1, by go_num, hlt, HST.out _ (by unfold lowN; rw [if_neg (by omega)]) hH, hBr⟩
          case measure => simp [intOf]; omega
      · have h65' : x < 65 := by omega
        go_wp2
        go_roundw
        case rel => exact ⟨k + 1, by go_num, hlt, HST.out _ (by unfold lowN; rw [if_neg (by omega)]) hH, hBr⟩
        case measure => simp [intOf]; omega
    · have hst : ∀ cap, (convert 69 9 (.slice (some ⟨w.heap.size, 0, none⟩) s.size cap)).run Tryz.prog wr = .ok (.string (lowB s)) wr := fun cap => by
        have hz := lowB_size s
        rw [← hz] at hH ⊢
        exact hH.str (fun j hj => by rw [if_pos (by omega), lowB_bt]) cap
      go_wp2
      go_ret
      exact ⟨rfl, hBr⟩
end Go.Proofs.YtfacfhigehdejaaGreatDoor

namespace Go.Proofs.YtfacfhigehdejaaGreatDoor
set_option linter.unusedVariables false
open Go.RowKit Go.Shelf Go.Proofs.YtfacfhigehdejaaGreatDoor.Nm

theorem ownsRow_below {w w' : World} {base e size : Nat} {v : Value} {n : Nat} {xs : List Value} (h : w.ownsRow base e size v n xs) (hb : Below w.heap.size w w') : w'.ownsRow base e size v n xs := by
  obtain ⟨hl, (⟨rfl, h0⟩ | ⟨g, cap, cur, rfl, hg, hh, rest⟩)⟩ := h
  · exact ⟨hl, .inl ⟨rfl, h0⟩⟩
  · exact ⟨hl, .inr ⟨g, cap, cur, rfl, hg, (hb.block g (Array.getElem?_eq_some_iff.1 hh).1).trans hh, rest⟩⟩

theorem below_app {B e size n : Nat} {w' w2 w3 : World} {o : Obj} {ov : Value} {xs : List Value} (h : Below B w' w2) (hB : B ≤ w'.heap.size) (hown : w2.ownsRow B e size ov n xs) (hg : (w2.alloc o).grownBy w3 ov.ownBlock) : Below B w' w3 :=
  (h.alloc (Nat.le_trans hB h.size) _).grown hg (by have := h.size; simp; omega) (fun _ e => ownBlock_le hown e)
theorem bstep {B : Nat} {a b c : World} (h : Below B a b) (k : Below b.heap.size b c) (hB : B ≤ b.heap.size) : Below B a c := h.trans (k.mono hB)

end Go.Proofs.YtfacfhigehdejaaGreatDoor
