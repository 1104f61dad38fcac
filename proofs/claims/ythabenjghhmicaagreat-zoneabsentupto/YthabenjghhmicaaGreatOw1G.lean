import Derived.Test.YthabenjghhmicaaGreatRn0G
import Derived.Test.YthabenjghhmicaaGreatRz1G
import Derived.Test.YthabenjghhmicaaGreatVs1G
import Derived.Test.YthabenjghhmicaaGreatFt1G
import Derived.Laws.AppendOwnNone
import Derived.Lib.SliceRun
import Derived.Deep.AppendLies
namespace Go.Proofs.YthabenjghhmicaaGreat
set_option linter.unusedVariables false
open Go.RowKit Go.Shelf Go.Proofs.YthabenjghhmicaaGreat.Nm

/-- a row whose block stays -/
theorem own_blk {w w' : World} {n e size k : Nat} {v : Value} {xs : List Value} (h : w.ownsRow n e size v k xs) (hb : ∀ g, v.ownBlock = some g → w'.heap[g]? = w.heap[g]?) : w'.ownsRow n e size v k xs := by
  obtain ⟨hl, (h0 | ⟨g, cap, cur, rfl, hg, hc, rest⟩)⟩ := h
  · exact ⟨hl, .inl h0⟩
  · exact ⟨hl, .inr ⟨g, cap, cur, rfl, hg, (hb g rfl).trans hc, rest⟩⟩
/-- a store into a row of one's own -/
theorem own_put {w : World} {base e size g n cap : Nat} {xs : List Value} (h : w.ownsRow base e size (.slice (some ⟨g, 0, none⟩) n cap) n xs) (j : Nat) (hj : j < n * size) (u : Value) :
    (w.setCell ⟨g, j, none⟩ u).ownsRow base e size (.slice (some ⟨g, 0, none⟩) n cap) n (xs.set j u) := by
  obtain ⟨hl, (⟨h1, h2⟩ | ⟨g', cap', cur, h1, hb, hg, hn, hcm, hcs, htk⟩)⟩ := h
  · cases h1
  · injection h1 with h1 h2 h3
    injection h1 with h1
    injection h1 with h1
    subst h1; subst h3
    refine ⟨by simpa using hl, .inr ⟨g, cap, cur.setIfInBounds j u, rfl, hb, ?_, hn, hcm, by simpa using hcs, ?_⟩⟩
    · simp [World.setCell, Array.getElem?_modify, hg]
    · rw [← htk]
      simp [List.take_set]
theorem own_off {w : World} {base e size g b j n cap : Nat} {xs : List Value} (h : w.ownsRow base e size (.slice (some ⟨g, 0, none⟩) n cap) n xs) (hne : g ≠ b) (u : Value) :
    (w.setCell ⟨b, j, none⟩ u).ownsRow base e size (.slice (some ⟨g, 0, none⟩) n cap) n xs := own_blk h (fun x e => by
      have : g = x := by simpa [Value.ownBlock] using e
      subst this
      exact Below.heap_setCell _ _ _ g hne)
theorem own_cell {w : World} {base e size g n cap : Nat} {xs : List Value} (h : w.ownsRow base e size (.slice (some ⟨g, 0, none⟩) n cap) n xs) (j : Nat) (hj : j < n * size) : ∃ u, w.cell? ⟨g, j, none⟩ = some u ∧ w.frozen? ⟨g, j, none⟩ = false := by
  have h1 := h.cellAt j hj
  have hl := h.1
  rw [List.getElem?_eq_getElem (by omega)] at h1
  refine ⟨_, h1, ?_⟩
  rcases h.2 with ⟨h2, _⟩ | ⟨g', cap', cur, h2, hb, hg, _⟩
  · cases h2
  · injection h2 with h2
    injection h2 with h2
    injection h2 with h2
    subst h2
    simp [World.frozen?, hg]
end Go.Proofs.YthabenjghhmicaaGreat

/-
  gazetteersame's Spare, Twin. (The verifier's own text.)
-/
namespace Go.Proofs.YthabenjghhmicaaGreat
set_option linter.unusedVariables false
open Go.RowKit Go.Shelf Go.Maps Go.Proofs.YthabenjghhmicaaGreat.Nm

def spT : ByteArray := ⟨#[115, 112, 97, 114, 101]⟩
/-- the record that no list has -/
def spR : Rn := ⟨spT, -77, -77, -77, spT⟩
theorem own_below {w w' : World} {b e s n : Nat} {v : Value} {xs : List Value} (h : w.ownsRow b e s v n xs) (hb : Below w.heap.size w w') : w'.ownsRow b e s v n xs := own_blk h (fun g eg => hb.block g (h.lt g eg).2)

theorem own_cap {w : World} {b e s n m c : Nat} {p : Option Addr} {xs : List Value} (h : w.ownsRow b e s (.slice p m c) n xs) : n ≤ c ∧ c ≤ maxLen := by
  obtain ⟨_, _, hsh, h1, h2, _⟩ := own_shape h
  injection hsh with _ _ hsh
  subst hsh
  exact ⟨h1, h2⟩
end Go.Proofs.YthabenjghhmicaaGreat
