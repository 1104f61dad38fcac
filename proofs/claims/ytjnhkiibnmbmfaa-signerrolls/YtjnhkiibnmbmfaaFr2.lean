import Derived.Test.YtjnhkiibnmbmfaaSp1
import Derived.Deep.Fields
import Derived.ChangeSlices
/-
  Lines of keys and plans that come in. (The verifier's own text.)
-/
namespace Go.Proofs.Ytjnhkiibnmbmfaa
set_option linter.unusedVariables false
open Go.RowKit Go.Shelf Go.Proofs.Ytjnhkiibnmbmfaa.Nm
open Go.ChangeShapes Go.WideShapes Go.Deep

theorem addr_plus (g off d : Nat) : Addr.add ⟨g, off, none⟩ d = ⟨g, off + d, none⟩ := by unfold Addr.add; split <;> simp_all
/-- a struct's fields: their types, where they lie, how many cells they have; and how many there are in all -/
def shapesOf (P : Program) (t : TypeId) : Option (List (TypeId × Nat × Nat) × Nat) := (P.underlying t).bind fun u => match u with | .struct fs => some (fs.toList.map (fun f => (f.type, f.offset, P.cellsOf f.type)), P.cellsOf t) | _ => none
section
variable {H : Type} {enc : TypeId × Value → H} {w : World} {base : Nat} {spare : Nat → Bool} {held : Bool}
theorem field_open {t : TypeId} {l : List (TypeId × Nat × Nat)} {n fuel : Nat} {cs : List Value} {x : DataW H × List MemPlace} (hs : shapesOf Try.prog t = some (l, n)) (h : DataW.trod enc Try.prog w base spare held fuel t cs = some x) :
    cs.length = n ∧ ∃ k : Nat, ∀ (j : Nat) (y : TypeId × Nat × Nat), l[j]? = some y → ∃ z, DataW.trod enc Try.prog w base spare held k y.1 ((cs.drop y.2.1).take y.2.2) = some z := by
  unfold shapesOf at hs
  obtain ⟨u, hu, hs⟩ := Option.bind_eq_some_iff.1 hs
  split at hs
  · rename_i fs
    have hs' := Option.some.inj hs
    have h1 := (Prod.mk.inj hs').1
    have h2 := (Prod.mk.inj hs').2
    obtain ⟨xs, k, _, _, hlen, hxl, hf⟩ := DataW.trod_struct hu h
    refine ⟨hlen.trans h2, k, fun j y hy => ?_⟩
    subst h1
    have hj : j < fs.size := by have := (List.getElem?_eq_some_iff.1 hy).1; simpa using this
    have hg := hf j fs[j] (by simp [hj])
    rw [List.getElem?_eq_getElem (by omega)] at hg
    have hy' : y = (fs[j].type, fs[j].offset, Try.prog.cellsOf fs[j].type) := by simpa [hj] using hy.symm
    subst hy'
    exact ⟨_, hg⟩
  · cases hs
theorem int1 {fuel : Nat} {cs : List Value} {x : DataW H × List MemPlace} (h : DataW.trod enc Try.prog w base spare held fuel 3 cs = some x) : ∃ n : Int, cs = [.int .i64 n] := by
  obtain ⟨n, e, _, _⟩ := DataW.trod_int Try.underlying3 h
  exact ⟨n, e⟩
theorem shapeK : shapesOf Try.prog 24 = some ([(3, 0, 1), (3, 1, 1), (3, 2, 1), (3, 3, 1)], 4) := by kernel_rfl
theorem shapeT : shapesOf Try.prog 29 = some ([(24, 0, 4), (3, 4, 1), (3, 5, 1), (3, 6, 1), (3, 7, 1)], 8) := by kernel_rfl
theorem key_cells {fuel : Nat} {cs : List Value} {x : DataW H × List MemPlace} (h : DataW.trod enc Try.prog w base spare held fuel 24 cs = some x) : ∃ a b c d : Int, cs = [.int .i64 a, .int .i64 b, .int .i64 c, .int .i64 d] := by
  obtain ⟨hl, k, hf⟩ := field_open shapeK h
  match cs, hl with
  | [x0, x1, x2, x3], _ =>
    obtain ⟨_, h0⟩ := hf 0 _ rfl
    obtain ⟨_, h1⟩ := hf 1 _ rfl
    obtain ⟨_, h2⟩ := hf 2 _ rfl
    obtain ⟨_, h3⟩ := hf 3 _ rfl
    obtain ⟨n0, e0⟩ := int1 h0
    obtain ⟨n1, e1⟩ := int1 h1
    obtain ⟨n2, e2⟩ := int1 h2
    obtain ⟨n3, e3⟩ := int1 h3
    refine ⟨n0, n1, n2, n3, ?_⟩
    simp at e0 e1 e2 e3
    rw [e0, e1, e2, e3]
theorem timed_cells {fuel : Nat} {cs : List Value} {x : DataW H × List MemPlace} (h : DataW.trod enc Try.prog w base spare held fuel 29 cs = some x) : ∃ k : Tk, cs = tkV k := by
  obtain ⟨hl, k, hf⟩ := field_open shapeT h
  match cs, hl with
  | [x0, x1, x2, x3, x4, x5, x6, x7], _ =>
    obtain ⟨_, h0⟩ := hf 0 _ rfl
    obtain ⟨_, h4⟩ := hf 1 _ rfl
    obtain ⟨_, h5⟩ := hf 2 _ rfl
    obtain ⟨_, h6⟩ := hf 3 _ rfl
    obtain ⟨_, h7⟩ := hf 4 _ rfl
    obtain ⟨a, b, c, d, e0⟩ := key_cells h0
    obtain ⟨n4, e4⟩ := int1 h4
    obtain ⟨n5, e5⟩ := int1 h5
    obtain ⟨n6, e6⟩ := int1 h6
    obtain ⟨n7, e7⟩ := int1 h7
    refine ⟨⟨a, b, c, d, n4, n5, n6, n7⟩, ?_⟩
    simp at e0 e4 e5 e6 e7
    obtain ⟨rfl, rfl, rfl, rfl⟩ := e0
    rw [e4, e5, e6, e7]
    rfl
/-- a line that comes in -/
theorem line_open {fuel : Nat} {v : Value} {x : DataW H × List MemPlace} (h : DataW.trod enc Try.prog w base spare held fuel 30 [v] = some x) :
    ∃ (a : Option Addr) (cap : Nat) (L : List Tk), v = .slice a L.length cap ∧ (a = none → cap = 0) ∧ TsAt w a L ∧ ((L = []) ∨ ∃ es sp, x.1 = .slice es sp ∧ es.length = L.length) := by
  rcases open_slice Try.underlying30 h with ⟨hv, _⟩ | ⟨a, len, cap, m, n, D, Pl, hv, hb, hl, hm, hmm, hx, hel⟩
  · obtain rfl : v = .slice none 0 0 := by simpa using hv
    exact ⟨none, 0, [], rfl, fun _ => rfl, (fun k hk => absurd hk (Nat.not_lt_zero _)), .inl rfl⟩
  · obtain rfl : v = .slice (some a) len cap := by simpa using hv
    have hC : Try.prog.cellsOf 29 = 8 := by kernel_rfl
    obtain ⟨b, o, spot⟩ := a
    haveI : Inhabited Tk := ⟨⟨0, 0, 0, 0, 0, 0, 0, 0⟩⟩
    obtain ⟨F, hF⟩ := choose_lt (α := Tk) (n := len) (p := fun i k => spot = none ∧ b < w.heap.size ∧ ∀ r, r < 8 → w.cell? ⟨b, o + i * 8 + r, none⟩ = (tkV k)[r]?) (fun i hi => by
      obtain ⟨cs', hcs, htr⟩ := hel i (by rw [hmm]; split <;> omega)
      rw [hC] at hcs
      obtain ⟨k, rfl⟩ := timed_cells htr
      obtain ⟨_, hlen, hcell⟩ := World.cells?_some hcs
      have h0 := hcell 0 (by omega)
      have hs : spot = none := by
        obtain ⟨cs0, hcs0, htr0⟩ := hel 0 (by rw [hmm]; split <;> omega)
        rw [hC] at hcs0
        obtain ⟨_, hlen0, hcell0⟩ := World.cells?_some hcs0
        have h00 := hcell0 0 (by omega)
        rw [List.getElem?_eq_getElem (by omega)] at h00
        have := World.cell?_spot h00
        simpa [Addr.add] using this
      subst hs
      have ha : ∀ j, ((⟨b, o, none⟩ : Addr).add (i * 8)).add j = ⟨b, o + i * 8 + j, none⟩ := fun j => by rw [addr_plus, addr_plus]
      refine ⟨k, rfl, ?_, fun r hr => ?_⟩
      · rw [ha, List.getElem?_eq_getElem (by rw [tkV_len]; omega)] at h0
        unfold World.cell? at h0
        split at h0
        · rename_i hh
          exact (Array.getElem?_eq_some_iff.1 hh).1
        · cases h0
      · rw [← ha, hcell r hr])
    refine ⟨some ⟨b, o, spot⟩, cap, (List.range len).map F, by simp, (fun e => by cases e), fun k hk => ?_, .inr ⟨_, _, by rw [hx], by simp⟩⟩
    have hk' : k < len := by simpa using hk
    obtain ⟨hs, hg, hc⟩ := hF k hk'
    exact ⟨b, o, by rw [hs], hg, fun r hr => by rw [hc r hr]; simp⟩
end
end Go.Proofs.Ytjnhkiibnmbmfaa
