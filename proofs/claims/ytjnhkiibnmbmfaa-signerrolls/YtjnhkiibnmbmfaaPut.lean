import Derived.Test.YtjnhkiibnmbmfaaLow
import Derived.Test.YtjnhkiibnmbmfaaMathG
namespace Go.Proofs.Ytjnhkiibnmbmfaa
set_option linter.unusedVariables false
open Go.RowKit Go.Shelf Nm

/-- a list of texts, in memory -/
def Strs (w : World) (v : Value) (l : List ByteArray) : Prop :=
  ∃ p cap, v = .slice p l.length cap ∧ ∀ j (h : j < l.length), ∃ g off, p = some ⟨g, off, none⟩ ∧ g < w.heap.size ∧ w.cell? ⟨g, off + j, none⟩ = some (.string l[j])

theorem Strs.below {w w' : World} {v : Value} {l : List ByteArray} (h : Strs w v l) (hb : Below w.heap.size w w') : Strs w' v l := by
  obtain ⟨p, cap, hv, hc⟩ := h
  refine ⟨p, cap, hv, fun j hj => ?_⟩
  obtain ⟨g, off, hp, hg, hcell⟩ := hc j hj
  exact ⟨g, off, hp, Nat.lt_of_lt_of_le hg hb.size, (hb.cell (p := ⟨g, off + j, none⟩) hg).trans hcell⟩

theorem owns_cap {w : World} {base : Nat} {p : Option Addr} {n cap : Nat} {xs : List Value} {m : Nat} (h : w.ownsRow base 9 1 (.slice p m cap) n xs) : n ≤ cap ∧ cap ≤ maxLen ∧ (p = none → cap = 0) := by
  obtain ⟨hl, (⟨h1, h0⟩ | ⟨g, cap', cur, h1, hb, hg, hn, hcap, hsz, ht⟩)⟩ := h
  · simp at h1; exact ⟨by omega, by rw [h1.2.2]; exact Nat.zero_le _, fun _ => h1.2.2⟩
  · simp at h1; obtain ⟨e, _, rfl⟩ := h1; exact ⟨hn, hcap, fun e2 => by rw [e2] at e; cases e⟩
theorem Strs.of_owns {w : World} {base : Nat} {v : Value} {l : List ByteArray} (h : w.ownsRow base 9 1 v l.length (l.map Value.string)) : Strs w v l := by
  obtain ⟨hl, (⟨rfl, h0⟩ | ⟨g, cap, cur, rfl, hb, hg, hn, hcap, hsz, ht⟩)⟩ := h
  · exact ⟨none, 0, by rw [h0], fun j hj => by omega⟩
  · refine ⟨some ⟨g, 0, none⟩, cap, rfl, fun j hj => ⟨g, 0, rfl, (Array.getElem?_eq_some_iff.1 hg).1, ?_⟩⟩
    have hcur : cur[j]? = some (.string l[j]) := by
      have := congrArg (fun t => t[j]?) ht
      simp only [Nat.mul_one] at this
      rw [List.getElem?_take, if_pos hj] at this
      rw [← Array.getElem?_toList, this]
      simp [hj]
    simp [World.cell?, hg, hcur]

/-- the cells of a list of texts -/
def StrsAt (w : World) (p : Option Addr) (l : List ByteArray) : Prop :=
  ∀ j (h : j < l.length), ∃ g off, p = some ⟨g, off, none⟩ ∧ g < w.heap.size ∧ w.cell? ⟨g, off + j, none⟩ = some (.string l[j])
theorem StrsAt.below {w w' : World} {p : Option Addr} {l : List ByteArray} (h : StrsAt w p l) (hb : Below w.heap.size w w') : StrsAt w' p l := by
  intro j hj
  obtain ⟨g, off, hp, hg, hcell⟩ := h j hj
  exact ⟨g, off, hp, Nat.lt_of_lt_of_le hg hb.size, (hb.cell (p := ⟨g, off + j, none⟩) hg).trans hcell⟩
theorem StrsAt.strs {w : World} {p : Option Addr} {l : List ByteArray} (h : StrsAt w p l) (cap : Nat) : Strs w (.slice p l.length cap) l := ⟨p, cap, rfl, h⟩

/-- 'string([]byte{n})' -/
theorem one_byte (W : World) (n : Nat) (hn : n < 256) : (convert 62 9 (.slice (some ⟨W.heap.size, 0, none⟩) 1 1)).run Try.prog (W.alloc (.cells #[.int .u8 (n : Int)] 5)) = .ok (.string ⟨#[UInt8.ofNat n]⟩) (W.alloc (.cells #[.int .u8 (n : Int)] 5)) := by
  have hc := cell_new_l W (.int .u8 (n : Int)) 5
  refine HoldsB.str (t := ⟨#[UInt8.ofNat n]⟩) (f := fun _ => n) ⟨by simp, fun j hj => ?_, fun j hj => ?_⟩ (fun j hj => ?_) 1
  · have : j = 0 := by have : j < 1 := hj; omega
    subst this; exact hc.1
  · have : j = 0 := by have : j < 1 := hj; omega
    subst this; exact hc.2
  · have : j = 0 := by have : j < 1 := hj; omega
    subst this
    rw [← bt_eq hj]
    show n = (UInt8.ofNat n).toNat
    rw [UInt8.toNat_ofNat']; omega

end Go.Proofs.Ytjnhkiibnmbmfaa
