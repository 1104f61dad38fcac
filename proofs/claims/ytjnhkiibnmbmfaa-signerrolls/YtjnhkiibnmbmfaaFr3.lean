import Derived.Test.YtjnhkiibnmbmfaaFr2
import Derived.Test.YtjnhkiibnmbmfaaSy7
/-
  Turns that come in. (The verifier's own text.)
-/
namespace Go.Proofs.Ytjnhkiibnmbmfaa
set_option linter.unusedVariables false
open Go.RowKit Go.Shelf Go.Proofs.Ytjnhkiibnmbmfaa.Nm
open Go.ChangeShapes Go.WideShapes Go.Deep

section
variable {H : Type} {enc : TypeId × Value → H} {w : World} {base : Nat} {spare : Nat → Bool} {held : Bool}
theorem shapeN : shapesOf Try.prog 32 = some ([(3, 0, 1), (3, 1, 1), (3, 2, 1), (3, 3, 1)], 4) := by kernel_rfl
theorem turn_cells {fuel : Nat} {cs : List Value} {x : DataW H × List MemPlace} (h : DataW.trod enc Try.prog w base spare held fuel 32 cs = some x) : ∃ t : Tn, cs = tnV t := by
  obtain ⟨hl, k, hf⟩ := field_open shapeN h
  match cs, hl with
  | [x0, x1, x2, x3], _ =>
    obtain ⟨_, h0⟩ := hf 0 _ rfl
    obtain ⟨_, h1⟩ := hf 1 _ rfl
    obtain ⟨_, h2⟩ := hf 2 _ rfl
    obtain ⟨_, h3⟩ := hf 3 _ rfl
    obtain ⟨n0, e0⟩ := int1 h0
    obtain ⟨n1, e1⟩ := int1 h1
    obtain ⟨n2, e2⟩ := int1 h2
    obtain ⟨n3, e3⟩ := int1 h3
    refine ⟨⟨n0, n1, n2, n3⟩, ?_⟩
    simp at e0 e1 e2 e3
    rw [e0, e1, e2, e3]
    rfl
/-- turns that come in -/
theorem turns_open {fuel : Nat} {v : Value} {x : DataW H × List MemPlace} (h : DataW.trod enc Try.prog w base spare held fuel 22 [v] = some x) :
    ∃ (a : Option Addr) (cap : Nat) (L : List Tn), v = .slice a L.length cap ∧ (a = none → cap = 0) ∧ NtAt w a L ∧ ((L = []) ∨ ∃ es sp, x.1 = .slice es sp ∧ es.length = L.length) ∧ L.length ≤ 9223372036854775807 := by
  rcases open_slice Try.underlying22 h with ⟨hv, _⟩ | ⟨a, len, cap, m, n, D, Pl, hv, hb, hl, hm, hmm, hx, hel⟩
  · obtain rfl : v = .slice none 0 0 := by simpa using hv
    exact ⟨none, 0, [], rfl, fun _ => rfl, (fun k hk => absurd hk (Nat.not_lt_zero _)), .inl rfl, by simp⟩
  · obtain rfl : v = .slice (some a) len cap := by simpa using hv
    have hC : Try.prog.cellsOf 32 = 4 := by kernel_rfl
    obtain ⟨b, o, spot⟩ := a
    haveI : Inhabited Tn := ⟨⟨0, 0, 0, 0⟩⟩
    obtain ⟨F, hF⟩ := choose_lt (α := Tn) (n := len) (p := fun i k => spot = none ∧ b < w.heap.size ∧ ∀ r, r < 4 → w.cell? ⟨b, o + i * 4 + r, none⟩ = (tnV k)[r]?) (fun i hi => by
      obtain ⟨cs', hcs, htr⟩ := hel i (by rw [hmm]; split <;> omega)
      rw [hC] at hcs
      obtain ⟨k, rfl⟩ := turn_cells htr
      obtain ⟨_, hlen, hcell⟩ := World.cells?_some hcs
      have h0 := hcell 0 (by omega)
      have hs : spot = none := by
        obtain ⟨cs0, hcs0, htr0⟩ := hel 0 (by rw [hmm]; split <;> omega)
        rw [hC] at hcs0
        obtain ⟨_, hlen0, hcell0⟩ := World.cells?_some hcs0
        have h00 := hcell0 0 (by omega)
        rw [List.getElem?_eq_getElem (by omega)] at h00
        have := World.cell?_spot h00
        simpa [Addr.add] using this
      subst hs
      have ha : ∀ j, ((⟨b, o, none⟩ : Addr).add (i * 4)).add j = ⟨b, o + i * 4 + j, none⟩ := fun j => by rw [addr_plus, addr_plus]
      refine ⟨k, rfl, ?_, fun r hr => ?_⟩
      · rw [ha, List.getElem?_eq_getElem (by rw [tnV_len]; omega)] at h0
        unfold World.cell? at h0
        split at h0
        · rename_i hh
          exact (Array.getElem?_eq_some_iff.1 hh).1
        · cases h0
      · rw [← ha, hcell r hr])
    refine ⟨some ⟨b, o, spot⟩, cap, (List.range len).map F, by simp, (fun e => by cases e), fun k hk => ?_, .inr ⟨_, _, by rw [hx], by simp⟩, by unfold maxLen at hm; simp; omega⟩
    have hk' : k < len := by simpa using hk
    obtain ⟨hs, hg, hc⟩ := hF k hk'
    exact ⟨b, o, by rw [hs], hg, fun r hr => by rw [hc r hr]; simp⟩
end
end Go.Proofs.Ytjnhkiibnmbmfaa
