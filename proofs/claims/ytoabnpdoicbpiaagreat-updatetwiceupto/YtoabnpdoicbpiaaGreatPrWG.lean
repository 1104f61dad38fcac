import Derived.Test.YtoabnpdoicbpiaaGreatCmpG
import Derived.Test.YtoabnpdoicbpiaaGreatMath13G
import Derived.Laws.Runes
namespace Go.Proofs.YtoabnpdoicbpiaaGreat
set_option linter.unusedVariables false
open Go.RowKit Go.Shelf Go.Proofs.YtoabnpdoicbpiaaGreat.Nm
theorem owns_shape {w : World} {base e : Nat} {v : Value} {n : Nat} {xs : List Value} (h : w.ownsRow base e 1 v n xs) : ∃ p c, v = .slice p n c ∧ n ≤ c ∧ c ≤ 9223372036854775807 ∧ ((p = none ∧ n = 0) ∨ ∃ g, p = some ⟨g, 0, none⟩ ∧ base ≤ g ∧ g < w.heap.size) := by
 obtain ⟨_, (⟨rfl, rfl⟩ | ⟨g, cap, cur, rfl, hb, hg, hn, hcap, _⟩)⟩ := h
 ·exact ⟨none, 0, rfl, Nat.le_refl _, by omega, .inl ⟨rfl, rfl⟩⟩
 ·exact ⟨_, cap, rfl, hn, by unfold maxLen at hcap; omega, .inr ⟨g, rfl, hb, (Array.getElem?_eq_some_iff.1 hg).1⟩⟩
def Row (w : World) (g n : Nat) : Prop := ∃ cur : Array Value, w.heap[g]? = some (.cells cur 9 (0, 0)) ∧ n ≤ cur.size
theorem Row.cell {w : World} {g n j : Nat} (h : Row w g n) (hj : j < n) : ∃ v, w.cell? ⟨g, j, none⟩ = some v := by
 obtain ⟨cur, hg, hn⟩ := h
 exact ⟨cur[j]'(by omega), by simp [World.cell?, hg, Array.getElem?_eq_getElem (show j < cur.size by omega)]⟩
theorem Row.free {w : World} {g n j : Nat} (h : Row w g n) : w.frozen? ⟨g, j, none⟩ = false := by
 obtain ⟨cur, hg, hn⟩ := h
 simp [World.frozen?, hg]
theorem Row.set {w : World} {g n : Nat} (h : Row w g n) (j : Nat) (v : Value) : Row (w.setCell ⟨g, j, none⟩ v) g n := by
 obtain ⟨cur, hg, hn⟩ := h
 refine ⟨cur.setIfInBounds j v, ?_, by simpa using hn⟩
 simp [World.setCell, Array.getElem?_modify, hg]
theorem Row.of_owns {w : World} {base g c n : Nat} {xs : List Value} (h : w.ownsRow base 9 1 (.slice (some ⟨g, 0, none⟩) n c) n xs) : Row w g n := by
 obtain ⟨_, (⟨h1, _⟩ | ⟨g', cap', cur, h1, hb, hg, hn, hcap, hsz, _⟩)⟩ := h
 ·cases h1
 ·simp at h1; obtain ⟨rfl, rfl⟩ := h1
  exact ⟨cur, hg, by omega⟩
theorem Row.below {w w' : World} {g n B : Nat} (h : Row w g n) (hb : Below B w w') (hg : g < B) : Row w' g n := by
 obtain ⟨cur, h1, hn⟩ := h
 exact ⟨cur, (hb.block g hg).trans h1, hn⟩
theorem StrsAt.set {w : World} {p : Option Addr} {l : List ByteArray} (h : StrsAt w p l) {g : Nat} (hne : ∀ g' o, p = some ⟨g', o, none⟩ → g' ≠ g) (j : Nat) (v : Value) : StrsAt (w.setCell ⟨g, j, none⟩ v) p l := by
 intro i hi
 obtain ⟨g', o, hp, hg, hc⟩ := h i hi
 exact ⟨g', o, hp, by simpa [World.setCell] using hg, by rw [cell_far _ _ _ _ (fun e => hne g' o hp e.symm)]; exact hc⟩
end Go.Proofs.YtoabnpdoicbpiaaGreat
namespace Go.Proofs.YtoabnpdoicbpiaaGreat
set_option linter.unusedVariables false
open Go.RowKit Go.Shelf Go.Proofs.YtoabnpdoicbpiaaGreat.Nm
end Go.Proofs.YtoabnpdoicbpiaaGreat
