import Derived.Test.YtoabnpdoicbpiaaGreatZq1G
/-
  Proofs: what stands at a place of a zone, and what is there. (The verifier's own text.)
-/
namespace Go.Proofs.YtoabnpdoicbpiaaGreat
set_option linter.unusedVariables false
set_option linter.unusedSimpArgs false
open Go.RowKit Go.Shelf Go.Maps Go.Proofs.YtoabnpdoicbpiaaGreat.Nm Go.Proofs.YtoabnpdoicbpiaaGreat.Zs

section
variable {n : Nat} {W : World} {apex : ByteArray} {L : List Rn} {ord : List Nat} {Z RW NM C m cnt : Nat} {p : Option Addr} {cp : Nat} {f : ByteArray → Option Nat}
end
end Go.Proofs.YtoabnpdoicbpiaaGreat

/-
  Proofs: slices.DeleteFunc with zone's function. (The verifier's own text; after Ft2, Ft3.)
-/
namespace Go.Proofs.YtoabnpdoicbpiaaGreat.Zd
set_option linter.unusedVariables false
set_option linter.unusedSimpArgs false
open Go.RowKit Go.Shelf Go.Maps Go.Proofs.YtoabnpdoicbpiaaGreat Go.Proofs.YtoabnpdoicbpiaaGreat.Nm

def plR (r : Rn) : Bool := !countB r
theorem rsAt_block {w : World} {g : Nat} {A B : List Rn} {rest : List Value} (h : Rb w g (A ++ B) rest) : RsAt w (some ⟨g, A.length * 5, none⟩) B := fun k hk => by
  obtain ⟨h0, h1, h2, h3, h4⟩ := h.cells (j := A.length + k) (by rw [List.length_append]; omega)
  have e : (A ++ B)[A.length + k]'(by rw [List.length_append]; omega) = B[k] := by
    rw [List.getElem_append_right (by omega)]; congr 1; omega
  rw [e] at h0 h1 h2 h3 h4
  have e5 : (A.length + k) * 5 = A.length * 5 + k * 5 := by omega
  rw [e5] at h0 h1 h2 h3 h4
  exact ⟨g, A.length * 5, rfl, h.lt, h0, h1, h2, h3, h4⟩

/-- what may not be left out -/
def kp (B : List Rn) : List Rn := B.filter fun r => !plR r
theorem kp_all {B : List Rn} (h : ∀ x ∈ B, plR x = false) : kp B = B := List.filter_eq_self.2 fun x hx => by rw [h x hx]; rfl
theorem kp_app (A B : List Rn) : kp (A ++ B) = kp A ++ kp B := List.filter_append ..
theorem run_from (g o len cap i : Nat) (hi : i ≤ len) (hc : len ≤ cap) (hne : i < cap) (W : World) : (Instr.slice 22 (.slice (some ⟨g, o, none⟩) len cap) (some (.int .i64 (i : Int))) none none).run Tryz.prog W = .ok (.slice (some ⟨g, o + i * 5, none⟩) (len - i) (cap - i)) W := by
  have ht' : Tryz.prog.underlying 22 = some (.slice (Tryz.prog.elem 22)) := by simp [Program.elem, Tryz.underlying22]
  have he' : Tryz.prog.elem 22 = 29 := by simp [Program.elem, Tryz.underlying22]
  rw [run_slice_l W _ _ _ _ ht' .i64 _ (by omega) (by omega), he', Tryz.sizeOf29]
  have e1 : ¬ cap = i := by omega
  rcases Nat.eq_zero_or_pos i with rfl | hp
  · simp [Result.andThen, sliced, Addr.add]
  · have e2 : ¬ i * 5 = 0 := by omega
    simp [Result.andThen, sliced, Addr.add, e1]
    omega
theorem run_upto (g o len cap i : Nat) (hc : i ≤ cap) (W : World) : (Instr.slice 22 (.slice (some ⟨g, o, none⟩) len cap) none (some (.int .i64 (i : Int))) none).run Tryz.prog W = .ok (.slice (some ⟨g, o, none⟩) i cap) W := by
  have ht' : Tryz.prog.underlying 22 = some (.slice (Tryz.prog.elem 22)) := by simp [Program.elem, Tryz.underlying22]
  have he' : Tryz.prog.elem 22 = 29 := by simp [Program.elem, Tryz.underlying22]
  rw [run_slice_h W _ _ _ _ ht' .i64 _ (by omega) (by omega), he', Tryz.sizeOf29]
  simp [Result.andThen, sliced, Addr.add]
theorem zero_run (w : World) : (zeroValue 29).run Tryz.prog w = .ok (.agg (ren5 zR).toArray) w := by
  have hz : Tryz.t29.zero = some (.agg (ren5 zR).toArray) := by kernel_rfl
  simp [zeroValue, hz]
/-- where DeleteFunc stands: the first i are kept, from j on nothing has turned -/
structure Dl (w wr : World) (g : Nat) (A B : List Rn) (rest : List Value) (i j : Nat) (F : List Rn) : Prop where
  rb : Rb wr g (A ++ F) rest
  len : F.length = B.length
  took : F.take i = kp (B.take j)
  drop : F.drop j = B.drop j
  gr : w.grownBy wr (some g)
theorem Dl.skip {w wr w2 : World} {g : Nat} {A B : List Rn} {rest : List Value} {i j : Nat} {F : List Rn} (h : Dl w wr g A B rest i j F) (hj : j < B.length) (hp : plR B[j] = true) (hb : Below wr.heap.size wr w2) : Dl w w2 g A B rest i (j + 1) F := by
  refine ⟨h.rb.below hb h.rb.lt, h.len, ?_, ?_, grown_trans h.gr (grown_below hb _)⟩
  · rw [h.took, List.take_succ_eq_append_getElem hj, kp_app]
    have : kp [B[j]] = [] := by simp [kp, hp]
    rw [this, List.append_nil]
  · have := congrArg (List.drop 1) h.drop
    simpa [List.drop_drop, Nat.add_comm] using this
theorem Dl.keep {w wr w2 : World} {g : Nat} {A B : List Rn} {rest : List Value} {i j : Nat} {F : List Rn} (h : Dl w wr g A B rest i j F) (hj : j < B.length) (hi : i < j) (hp : plR B[j] = false) (hb : Below wr.heap.size wr w2) : Dl w (setR w2 g (A.length * 5 + i * 5) B[j]) g A B rest (i + 1) (j + 1) (F.set i B[j]) := by
  have hl := h.len
  have h1 : Rb w2 g (A ++ F) rest := h.rb.below hb h.rb.lt
  have h2 := h1.put (j := A.length + i) (by rw [List.length_append]; omega) B[j]
  have e1 : (A.length + i) * 5 = A.length * 5 + i * 5 := by omega
  have e2 : (A ++ F).set (A.length + i) B[j] = A ++ F.set i B[j] := by rw [List.set_append_right _ _ (by omega), Nat.add_sub_cancel_left]
  rw [e1, e2] at h2
  refine ⟨h2, by simpa using hl, ?_, ?_, ?_⟩
  · rw [List.take_succ_eq_append_getElem (by simp; omega), List.take_set_of_le (Nat.le_refl _), h.took, List.take_succ_eq_append_getElem hj, kp_app]
    have : kp [B[j]] = [B[j]] := by simp [kp, hp]
    rw [this]
    simp
  · rw [List.drop_set_of_lt (by omega)]
    have := congrArg (List.drop 1) h.drop
    simpa [List.drop_drop, Nat.add_comm] using this
  · rw [setR_cells]
    exact grown_trans h.gr (grown_trans (grown_below hb _) (grown_setCells g _ _ w2))

theorem Dl.at {w wr : World} {g : Nat} {A B : List Rn} {rest : List Value} {i j : Nat} {F : List Rn} (h : Dl w wr g A B rest i j F) (hj : j < B.length) : wr.cell? ⟨g, A.length * 5 + j * 5, none⟩ = some (.string B[j].o) ∧ wr.cell? ⟨g, A.length * 5 + j * 5 + 1, none⟩ = some (.int .i64 B[j].t) ∧ wr.cell? ⟨g, A.length * 5 + j * 5 + 2, none⟩ = some (.int .i64 B[j].c) ∧ wr.cell? ⟨g, A.length * 5 + j * 5 + 3, none⟩ = some (.int .i64 B[j].l) ∧ wr.cell? ⟨g, A.length * 5 + j * 5 + 4, none⟩ = some (.string B[j].d) := by
  have hl := h.len
  have hF : F[j] = B[j] := by
    have := congrArg (fun l => l[0]?) h.drop
    simp only [List.getElem?_drop, Nat.add_zero] at this
    rw [List.getElem?_eq_getElem (by omega), List.getElem?_eq_getElem hj] at this
    exact Option.some.inj this
  obtain ⟨g', off, hp, _, h0, h1, h2, h3, h4⟩ := rsAt_block h.rb j (by omega)
  injection hp with hp
  injection hp with e1 e2
  subst e1; subst e2
  rw [hF] at h0 h1 h2 h3 h4
  exact ⟨h0, h1, h2, h3, h4⟩
theorem rb_five {w : World} {g : Nat} {A F : List Rn} {rest : List Value} (h : Rb w g (A ++ F) rest) {i : Nat} (hi : i < F.length) : ∃ (o d : ByteArray) (t c l : Int), w.cell? ⟨g, A.length * 5 + i * 5, none⟩ = some (.string o) ∧ w.cell? ⟨g, A.length * 5 + i * 5 + 1, none⟩ = some (.int .i64 t) ∧ w.cell? ⟨g, A.length * 5 + i * 5 + 2, none⟩ = some (.int .i64 c) ∧ w.cell? ⟨g, A.length * 5 + i * 5 + 3, none⟩ = some (.int .i64 l) ∧ w.cell? ⟨g, A.length * 5 + i * 5 + 4, none⟩ = some (.string d) ∧ w.frozen? ⟨g, A.length * 5 + i * 5, none⟩ = false ∧ w.frozen? ⟨g, A.length * 5 + i * 5 + 1, none⟩ = false ∧ w.frozen? ⟨g, A.length * 5 + i * 5 + 2, none⟩ = false ∧ w.frozen? ⟨g, A.length * 5 + i * 5 + 3, none⟩ = false ∧ w.frozen? ⟨g, A.length * 5 + i * 5 + 4, none⟩ = false := by
  obtain ⟨g', off, hp, _, h0, h1, h2, h3, h4⟩ := rsAt_block h i hi
  injection hp with hp
  injection hp with e1 e2
  subst e1; subst e2
  exact ⟨_, _, _, _, _, h0, h1, h2, h3, h4, h.free _, h.free _, h.free _, h.free _, h.free _⟩
theorem idxNone {B : List Rn} {r : Ending} (hall : ∀ x ∈ B, plR x = false) (h : (r = .returned (.int .i64 (-1)) ∧ ∀ x ∈ B, plR x = false) ∨ ∃ i : Nat, ∃ hi : i < B.length, r = .returned (.int .i64 (i : Int)) ∧ plR B[i] = true ∧ ∀ x ∈ B.take i, plR x = false) : r = .returned (.int .i64 (-1)) := by
  rcases h with h | ⟨i, hi, _, h2, _⟩
  · exact h.1
  · have := hall _ (List.getElem_mem hi)
    rw [this] at h2; cases h2
theorem idxSome {B : List Rn} {r : Ending} (hall : (B.all fun x => !plR x) = false) (h : (r = .returned (.int .i64 (-1)) ∧ ∀ x ∈ B, plR x = false) ∨ ∃ i : Nat, ∃ hi : i < B.length, r = .returned (.int .i64 (i : Int)) ∧ plR B[i] = true ∧ ∀ x ∈ B.take i, plR x = false) : ∃ i : Nat, ∃ hi : i < B.length, r = .returned (.int .i64 (i : Int)) ∧ plR B[i] = true ∧ ∀ x ∈ B.take i, plR x = false := by
  rcases h with h | h
  · have : (B.all fun x => !plR x) = true := List.all_eq_true.2 fun x hx => by rw [h.2 x hx]; rfl
    rw [this] at hall; cases hall
  · exact h

end Go.Proofs.YtoabnpdoicbpiaaGreat.Zd

/-
  Proofs: (*zone.Zone).says, leaves, lettersOf, typeLeft. (The verifier's own text.)
-/
namespace Go.Proofs.YtoabnpdoicbpiaaGreat
set_option linter.unusedVariables false
set_option linter.unusedSimpArgs false
open Go.RowKit Go.Shelf Go.Maps Go.Proofs.YtoabnpdoicbpiaaGreat.Nm Go.Proofs.YtoabnpdoicbpiaaGreat.Zs

section
variable {n : Nat} {W : World} {apex : ByteArray} {L : List Rn} {ord : List Nat} {Z RW NM C m cnt : Nat} {p : Option Addr} {cp : Nat} {f : ByteArray → Option Nat}
end
end Go.Proofs.YtoabnpdoicbpiaaGreat

/-
  Proofs: (*zone.Zone).says, leaves, lettersOf, typeLeft. (The verifier's own text.)
-/
namespace Go.Proofs.YtoabnpdoicbpiaaGreat
set_option linter.unusedVariables false
set_option linter.unusedSimpArgs false
open Go.RowKit Go.Shelf Go.Maps Go.Proofs.YtoabnpdoicbpiaaGreat.Nm Go.Proofs.YtoabnpdoicbpiaaGreat.Zs

section
variable {n : Nat} {W : World} {apex : ByteArray} {L : List Rn} {ord : List Nat} {Z RW NM C m cnt : Nat} {p : Option Addr} {cp : Nat} {f : ByteArray → Option Nat}
end
end Go.Proofs.YtoabnpdoicbpiaaGreat

/-
  Proofs: (*zone.Zone).leaves, lettersOf, typeLeft. (The verifier's own text.)
-/
namespace Go.Proofs.YtoabnpdoicbpiaaGreat
set_option linter.unusedVariables false
set_option linter.unusedSimpArgs false
open Go.RowKit Go.Shelf Go.Maps Go.Proofs.YtoabnpdoicbpiaaGreat.Nm Go.Proofs.YtoabnpdoicbpiaaGreat.Zs

section
variable {n : Nat} {W : World} {apex : ByteArray} {L : List Rn} {ord : List Nat} {Z RW NM C m cnt : Nat} {p : Option Addr} {cp : Nat} {f : ByteArray → Option Nat}
end
end Go.Proofs.YtoabnpdoicbpiaaGreat

/-
  Proofs: (*zone.Zone).findAbsent. (The verifier's own text.)
-/
namespace Go.Proofs.YtoabnpdoicbpiaaGreat
set_option linter.unusedVariables false
set_option linter.unusedSimpArgs false
open Go.RowKit Go.Shelf Go.Maps Go.Proofs.YtoabnpdoicbpiaaGreat.Nm Go.Proofs.YtoabnpdoicbpiaaGreat.Zs

/-! ### names on the way up to the apex -/
/-- a folded name within the apex -/
structure InA (apex m : ByteArray) : Prop where
  nm : isN m = true
  fo : foldB m = m
  wi : withinB m apex = true
theorem put_size {l : List ByteArray} (h : OkL l) : (putB (l.map lowB)).size = (putB l).size := by
  rw [putB_low l (fun x hx => (h x hx).2), lowB_size]
theorem InA.cases {apex m : ByteArray} (h : InA apex m) (na : isN apex = true) : (labs m).length = (labs apex).length ∧ m = foldB apex ∨ (labs apex).length < (labs m).length ∧ apex.size < m.size := by
  obtain ⟨_, _, h1, h2⟩ := (withinB_iff m apex).1 h.wi
  have sm : m.size = (putB (labs m)).size := by rw [putB_labs h.nm]
  have sa : apex.size = (putB (labs apex)).size := by rw [putB_labs na]
  rcases Nat.lt_or_ge (labs apex).length (labs m).length with hl | hl
  · right
    refine ⟨hl, ?_⟩
    have e : labs m = (labs m).take ((labs m).length - (labs apex).length) ++ (labs m).drop ((labs m).length - (labs apex).length) := (List.take_append_drop _ _).symm
    have s1 : (putB ((labs m).drop ((labs m).length - (labs apex).length))).size = apex.size := by
      rw [sa, ← put_size ((okL_labs m).drop _), h2, put_size (okL_labs apex)]
    have s2 : (putB (labs m)).size = (chunks ((labs m).take ((labs m).length - (labs apex).length))).size + (putB ((labs m).drop ((labs m).length - (labs apex).length))).size := by
      conv => lhs; rw [e, putB_append]
      rw [ByteArray.size_append]
    have s3 := chunks_len ((labs m).take ((labs m).length - (labs apex).length))
    rw [List.length_take] at s3
    omega
  · left
    have hle : (labs m).length = (labs apex).length := by omega
    refine ⟨hle, ?_⟩
    rw [hle, Nat.sub_self, List.drop_zero] at h2
    have e1 : lowB m = lowB apex := by rw [← putB_low_labs h.nm, ← putB_low_labs na, h2]
    rw [← h.fo, foldB_yes h.nm, foldB_yes na, e1]
theorem InA.up {apex m : ByteArray} (h : InA apex m) (na : isN apex = true) (hs : apex.size < m.size) : InA apex (abvB m) := by
  have h1 : 1 < m.size := by have := isN_pos na; omega
  obtain ⟨a1, a2, a3, a4⟩ := abv_name h.nm h1
  have hlen := (abv_put h.nm h1).2
  rw [List.length_drop] at hlen
  have hlow : (labs m).map lowB = labs m := by
    have := (zisN_fold h.nm).2
    rw [h.fo] at this
    exact this.symm
  refine ⟨a1, ?_, ?_⟩
  · rw [foldB_yes a1, ← putB_low_labs a1, a2, List.map_drop, hlow, ← (abv_put h.nm h1).1]
  · obtain ⟨_, _, h2, h3⟩ := (withinB_iff m apex).1 h.wi
    rcases h.cases na with ⟨he, hm⟩ | ⟨hl, _⟩
    · exfalso
      have : m.size = apex.size := by rw [hm, foldB_yes na, lowB_size]
      omega
    · rw [withinB_iff]
      refine ⟨a1, na, by rw [a2, List.length_drop]; omega, ?_⟩
      rw [a2, List.length_drop, List.drop_drop, show 1 + ((labs m).length - 1 - (labs apex).length) = (labs m).length - (labs apex).length by omega]
      exact h3
/-- what is said -/
structure Fd where
  k : Int
  o : ByteArray
  e : ByteArray
  w : Bool
  r : List Rn
end Go.Proofs.YtoabnpdoicbpiaaGreat

/-
  Proofs: (*zone.Zone).findAbsent. (The verifier's own text.)
-/
namespace Go.Proofs.YtoabnpdoicbpiaaGreat
set_option linter.unusedVariables false
set_option linter.unusedSimpArgs false
open Go.RowKit Go.Shelf Go.Maps Go.Proofs.YtoabnpdoicbpiaaGreat.Nm Go.Proofs.YtoabnpdoicbpiaaGreat.Zs

section
variable {n : Nat} {W : World} {apex : ByteArray} {L : List Rn} {ord : List Nat} {Z RW NM C m cnt : Nat} {p : Option Addr} {cp : Nat} {f : ByteArray → Option Nat}
end
end Go.Proofs.YtoabnpdoicbpiaaGreat

/-
  Proofs: (*zone.Zone).Find. (The verifier's own text.)
-/
namespace Go.Proofs.YtoabnpdoicbpiaaGreat
set_option linter.unusedVariables false
set_option linter.unusedSimpArgs false
open Go.RowKit Go.Shelf Go.Maps Go.Proofs.YtoabnpdoicbpiaaGreat.Nm Go.Proofs.YtoabnpdoicbpiaaGreat.Zs

section
variable {n : Nat} {W : World} {apex : ByteArray} {L : List Rn} {ord : List Nat} {Z RW NM C m cnt : Nat} {p : Option Addr} {cp : Nat} {f : ByteArray → Option Nat}
end
end Go.Proofs.YtoabnpdoicbpiaaGreat
