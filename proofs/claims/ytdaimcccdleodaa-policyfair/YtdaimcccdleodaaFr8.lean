import Derived.Test.YtdaimcccdleodaaRw0
import Derived.Deep.Fields
import Derived.ChangeSlices
/-
  Rows of structs that come in. (The verifier's own text.)
-/
namespace Go.Proofs.Ytdaimcccdleodaa
set_option linter.unusedVariables false
open Go.RowKit Go.Shelf
open Go.ChangeShapes Go.WideShapes Go.Deep

theorem addr_plus (g off d : Nat) : Addr.add ⟨g, off, none⟩ d = ⟨g, off + d, none⟩ := by unfold Addr.add; split <;> simp_all
/-- a struct's fields: their types, where they lie, how many cells they have; and how many there are in all -/
def shapesOf (P : Program) (t : TypeId) : Option (List (TypeId × Nat × Nat) × Nat) := (P.underlying t).bind fun u => match u with | .struct fs => some (fs.toList.map (fun f => (f.type, f.offset, P.cellsOf f.type)), P.cellsOf t) | _ => none
section
variable {H : Type} {enc : TypeId × Value → H} {w : World} {base : Nat} {spare : Nat → Bool} {held : Bool}
theorem field_open {t : TypeId} {l : List (TypeId × Nat × Nat)} {n fuel : Nat} {cs : List Value} {x : DataW H × List MemPlace} (hs : shapesOf Try.prog t = some (l, n)) (h : DataW.trod enc Try.prog w base spare held fuel t cs = some x) :
    cs.length = n ∧ ∃ k : Nat, ∀ (j : Nat) (y : TypeId × Nat × Nat), l[j]? = some y → ∃ z, DataW.trod enc Try.prog w base spare held k y.1 ((cs.drop y.2.1).take y.2.2) = some z := by
  unfold shapesOf at hs
  obtain ⟨u, hu, hs⟩ := Option.bind_eq_some_iff.1 hs
  split at hs
  · rename_i fs
    have hs' := Option.some.inj hs
    have h1 := (Prod.mk.inj hs').1
    have h2 := (Prod.mk.inj hs').2
    obtain ⟨xs, k, _, _, hlen, hxl, hf⟩ := DataW.trod_struct hu h
    refine ⟨hlen.trans h2, k, fun j y hy => ?_⟩
    subst h1
    have hj : j < fs.size := by have := (List.getElem?_eq_some_iff.1 hy).1; simpa using this
    have hg := hf j fs[j] (by simp [hj])
    rw [List.getElem?_eq_getElem (by omega)] at hg
    have hy' : y = (fs[j].type, fs[j].offset, Try.prog.cellsOf fs[j].type) := by simpa [hj] using hy.symm
    subst hy'
    exact ⟨_, hg⟩
  · cases hs
theorem int1 {fuel : Nat} {cs : List Value} {x : DataW H × List MemPlace} (h : DataW.trod enc Try.prog w base spare held fuel 3 cs = some x) : ∃ n : Int, cs = [.int .i64 n] := by
  obtain ⟨n, e, _, _⟩ := DataW.trod_int Try.underlying3 h
  exact ⟨n, e⟩
theorem str1 {fuel : Nat} {cs : List Value} {x : DataW H × List MemPlace} (h : DataW.trod enc Try.prog w base spare held fuel 9 cs = some x) : ∃ s : ByteArray, cs = [.string s] := by
  obtain ⟨n, e, _, _⟩ := DataW.trod_string Try.underlying9 h
  exact ⟨n, e⟩
/-- a row that comes in, whatever its elements -/
theorem row_open {α : Type} [Inhabited α] {C : Nat} {V : α → List Value} {Φ : α → Prop} {t e : TypeId} {fuel : Nat} {v : Value} {x : DataW H × List MemPlace} (ht : Try.prog.underlying t = some (.slice e)) (hC : Try.prog.cellsOf e = C) (hpos : 0 < C) (hV : ∀ k, (V k).length = C)
    (hcells : ∀ (f : Nat) (cs : List Value) (y : DataW H × List MemPlace), DataW.trod enc Try.prog w base spare held f e cs = some y → ∃ k : α, cs = V k ∧ Φ k)
    (h : DataW.trod enc Try.prog w base spare held fuel t [v] = some x) :
    ∃ (a : Option Addr) (cap : Nat) (L : List α), v = .slice a L.length cap ∧ (a = none → cap = 0) ∧ RowAt C V w a L ∧ L.length ≤ 9223372036854775807 ∧ ∀ k ∈ L, Φ k := by
  rcases open_slice ht h with ⟨hv, _⟩ | ⟨a, len, cap, m, n, D, Pl, hv, hb, hl, hm, hmm, hx, hel⟩
  · obtain rfl : v = .slice none 0 0 := by simpa using hv
    exact ⟨none, 0, [], rfl, fun _ => rfl, (fun k hk => absurd hk (Nat.not_lt_zero _)), by simp, fun k hk => by cases hk⟩
  · obtain rfl : v = .slice (some a) len cap := by simpa using hv
    obtain ⟨b, o, spot⟩ := a
    obtain ⟨F, hF⟩ := choose_lt (α := α) (n := len) (p := fun i k => Φ k ∧ spot = none ∧ b < w.heap.size ∧ ∀ r, r < C → w.cell? ⟨b, o + i * C + r, none⟩ = (V k)[r]?) (fun i hi => by
      obtain ⟨cs', hcs, htr⟩ := hel i (by rw [hmm]; split <;> omega)
      rw [hC] at hcs
      obtain ⟨k, rfl, hk⟩ := hcells _ _ _ htr
      obtain ⟨_, hlen, hcell⟩ := World.cells?_some hcs
      have h0 := hcell 0 hpos
      have hs : spot = none := by
        rw [List.getElem?_eq_getElem (by rw [hV]; exact hpos)] at h0
        have := World.cell?_spot h0
        have e1 : (((⟨b, o, spot⟩ : Addr).add (i * C)).add 0).spot = none := this
        by_cases hsp : spot = none
        · exact hsp
        · exfalso
          cases hsp' : spot with
          | none => exact hsp hsp'
          | some sp =>
            subst hsp'
            obtain ⟨cs0, hcs0, htr0⟩ := hel 0 (by rw [hmm]; split <;> omega)
            rw [hC] at hcs0
            obtain ⟨k0, rfl, _⟩ := hcells _ _ _ htr0
            obtain ⟨_, _, hcell0⟩ := World.cells?_some hcs0
            have h00 := hcell0 0 hpos
            rw [List.getElem?_eq_getElem (by rw [hV]; exact hpos)] at h00
            have := World.cell?_spot h00
            simp [Addr.add] at this
      subst hs
      have ha : ∀ j, ((⟨b, o, none⟩ : Addr).add (i * C)).add j = ⟨b, o + i * C + j, none⟩ := fun j => by rw [addr_plus, addr_plus]
      refine ⟨k, hk, rfl, ?_, fun r hr => ?_⟩
      · rw [ha, List.getElem?_eq_getElem (by rw [hV]; exact hpos)] at h0
        unfold World.cell? at h0
        split at h0
        · rename_i hh
          exact (Array.getElem?_eq_some_iff.1 hh).1
        · cases h0
      · rw [← ha, hcell r hr])
    refine ⟨some ⟨b, o, spot⟩, cap, (List.range len).map F, by simp, (fun e => by cases e), fun k hk => ?_, by unfold maxLen at hm; simp; omega, fun y hy => ?_⟩
    · have hk' : k < len := by simpa using hk
      obtain ⟨_, hs, hg, hc⟩ := hF k hk'
      exact ⟨b, o, by rw [hs], hg, fun r hr => by rw [hc r hr]; simp⟩
    · obtain ⟨i, hi, rfl⟩ := List.mem_map.1 hy
      exact (hF i (List.mem_range.1 hi)).1
end
end Go.Proofs.Ytdaimcccdleodaa
