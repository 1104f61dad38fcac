import Derived.Test.YtkamjcpcdkejmaaDoorRdb
import Derived.Test.YtkamjcpcdkejmaaDoorPrW
import Derived.RangeFuncBox
namespace Go.Proofs.YtkamjcpcdkejmaaDoor
set_option linter.unusedVariables false
open Go.RowKit Go.Shelf Nm

/-- strconv's errors lie below -/
def Lo (B : Nat) : Prop := 1 < B ∧ 2 < B
theorem Lo.le {B C : Nat} (h : Lo B) (hc : B ≤ C) : Lo C := ⟨Nat.lt_of_lt_of_le h.1 hc, Nat.lt_of_lt_of_le h.2 hc⟩
theorem lt_of_cell {w : World} {b o : Nat} {v : Value} (h : w.cell? ⟨b, o, none⟩ = some v) : b < w.heap.size := by
  unfold World.cell? at h
  rcases Nat.lt_or_ge b w.heap.size with hlt | hge
  · exact hlt
  · rw [Array.getElem?_eq_none hge] at h; simp at h
theorem Gl.lo {w : World} (h : Gl w) : Lo w.heap.size := by
  obtain ⟨e0, e1, h0, g0, h1, g1⟩ := h
  exact ⟨lt_of_cell h0, lt_of_cell h1⟩
theorem Gl.below {w w' : World} {B : Nat} (h : Gl w) (hb : Below B w w') (hB : Lo B) : Gl w' := by
  obtain ⟨e0, e1, h0, g0, h1, g1⟩ := h
  exact ⟨e0, e1, (hb.cell (p := ⟨1, 0, none⟩) hB.1).trans h0, g0, (hb.cell (p := ⟨2, 0, none⟩) hB.2).trans h1, g1⟩
theorem Gl.grow {w w' : World} (h : Gl w) (hb : Below w.heap.size w w') : Gl w' := h.below hb h.lo

/-- what readLabels and its inner function share: the text's, the wire form's and the place's variables -/
structure RL (B : Nat) (t : ByteArray) (k : Nat) (xs : List Nat) (w : World) : Prop where
  tx : Boxed w B 9 (.string t)
  wr : ∃ v, Boxed w (B + 1) 39 v ∧ w.ownsRow (B + 3) 5 1 v xs.length (byts xs)
  pl : Boxed w (B + 2) 3 (.int .i64 (k : Int))
  sz : B + 3 ≤ w.heap.size

theorem bx_below {w w' : World} {n B : Nat} {t : TypeId} {v : Value} (h : Boxed w B t v) (hb : Below n w w') (hn : B < n) : Boxed w' B t v := (hb.block B hn).trans h
theorem bx_other {w : World} {B C : Nat} {t : TypeId} {v u : Value} (h : Boxed w B t v) (hne : B ≠ C) : Boxed (w.setCell ⟨C, 0, none⟩ u) B t v := h.kept (grownBy_setCell' w C u) (by simp; exact hne)
theorem bx_row {w : World} {B g j : Nat} {t : TypeId} {v u : Value} (h : Boxed w B t v) (hne : B ≠ g) : Boxed (w.setCell ⟨g, j, none⟩ u) B t v :=
  (Below.heap_setCell _ _ _ B (by show B ≠ g; exact hne)).trans h

/-- behind a callee that leaves what was there -/
theorem RL.below {B k : Nat} {t : ByteArray} {xs : List Nat} {w w' : World} (h : RL B t k xs w) (hb : Below w.heap.size w w') : RL B t k xs w' := by
  obtain ⟨h1, ⟨v, h2, h3⟩, h4, h5⟩ := h
  have := hb.size
  exact ⟨(bx_below h1 hb (by omega)), ⟨v, (bx_below h2 hb (by omega)), ownsRow_below h3 hb⟩, (bx_below h4 hb (by omega)), by omega⟩
theorem RL.drew {B k : Nat} {t : ByteArray} {xs : List Nat} {w : World} (h : RL B t k xs w) : RL B t k xs w.drew := by
  obtain ⟨h1, ⟨v, h2, h3⟩, h4, h5⟩ := h
  exact ⟨h1, ⟨v, h2, h3.drew⟩, h4, h5⟩
/-- the place goes on -/
theorem RL.drewN {B k : Nat} {t : ByteArray} {xs : List Nat} {w : World} (h : RL B t k xs w) (n : Nat) : RL B t k xs (w.drewN n) := by
  obtain ⟨h1, ⟨v, h2, h3⟩, h4, h5⟩ := h
  exact ⟨h1, ⟨v, h2, h3⟩, h4, h5⟩
theorem RL.go {B k k' : Nat} {y : Int} {t : ByteArray} {xs : List Nat} {w : World} (h : RL B t k xs w) (hy : y = (k' : Int)) : RL B t k' xs (w.setCell ⟨B + 2, 0, none⟩ (.int .i64 y)) := by
  subst hy
  obtain ⟨h1, ⟨v, h2, h3⟩, h4, h5⟩ := h
  exact ⟨(bx_other h1 (by omega)), ⟨v, (bx_other h2 (by omega)), ownsRow_setCell_below h3 (by show B + 2 < B + 3; omega) _⟩, h4.set _, by simpa [World.setCell] using h5⟩
/-- a byte more -/
theorem RL.push {B k x n : Nat} {t : ByteArray} {xs : List Nat} {w w1 : World} {v v' : Value} {tmp : Obj} (h : RL B t k xs w) (hv : Boxed w (B + 1) 39 v) (hn : n = xs.length) (hown : w.ownsRow (B + 3) 5 1 v n (byts xs))
    (hown' : w1.ownsRow (B + 3) 5 1 v' (n + 1) (byts xs ++ [.int .u8 (x : Int)])) (hg : (w.alloc tmp).grownBy w1 v.ownBlock) :
    RL B t k (xs ++ [x]) (w1.setCell ⟨B + 1, 0, none⟩ v') ∧ Boxed w1 (B + 1) 39 v ∧ Below B w (w1.setCell ⟨B + 1, 0, none⟩ v') := by
  subst hn
  obtain ⟨h1, _, h4, h5⟩ := h
  have hle : ∀ q, v.ownBlock = some q → B + 3 ≤ q := fun q hq => ownBlock_le hown hq
  have hB3 : Below (B + 3) w w1 := ((Below.refl _ w).alloc h5 tmp).grown hg (by simp; omega) (fun q hq => hle q hq)
  have e1 := (bx_below h1 hB3 (by omega))
  have e2 := (bx_below hv hB3 (by omega))
  have e4 := (bx_below h4 hB3 (by omega))
  have := hB3.size
  refine ⟨⟨(bx_other e1 (by omega)), ⟨v', e2.set v', ?_⟩, (bx_other e4 (by omega)), by simp [World.setCell]; omega⟩, e2, (hB3.mono (by omega)).setCell (p := ⟨B + 1, 0, none⟩) (by show B ≤ B + 1; omega) _⟩
  have := ownsRow_setCell_below hown' (a := ⟨B + 1, 0, none⟩) (by show B + 1 < B + 3; omega) v'
  simpa [byts] using this
/-- a byte of the row is written anew -/
theorem RL.put {B k x j g cap n : Nat} {y : Int} {t : ByteArray} {xs : List Nat} {w : World} (h : RL B t k xs w) (hv : Boxed w (B + 1) 39 (.slice (some ⟨g, 0, none⟩) n cap)) (hn : n = xs.length) (hy : y = (x : Int)) (hown : w.ownsRow (B + 3) 5 1 (.slice (some ⟨g, 0, none⟩) n cap) n (byts xs)) :
    RL B t k (xs.set j x) (w.setCell ⟨g, j, none⟩ (.int .u8 y)) ∧ Below B w (w.setCell ⟨g, j, none⟩ (.int .u8 y)) := by
  subst hn
  subst hy
  obtain ⟨h1, _, h4, h5⟩ := h
  have hg : B + 3 ≤ g := ownBlock_le hown (q := g) rfl
  obtain ⟨s1, s2⟩ := hown.stored j (.int .u8 (x : Int))
  refine ⟨⟨(bx_row h1 (by omega)), ⟨_, (bx_row hv (by omega)), ?_⟩, (bx_row h4 (by omega)), by simpa [World.setCell] using h5⟩, (Below.refl _ _).setCell (p := ⟨g, j, none⟩) (by show B ≤ g; omega) _⟩
  have e : byts (xs.set j x) = (byts xs).set j (.int .u8 (x : Int)) := by simp [byts, List.map_set]
  rw [e, List.length_set]; exact s1
theorem row_lt {w : World} {base e size g n c : Nat} {xs : List Value} (h : w.ownsRow base e size (.slice (some ⟨g, 0, none⟩) n c) n xs) : g < w.heap.size := by
  obtain ⟨_, (⟨h1, _⟩ | ⟨g', cap, cur, h1, _, hg, _⟩)⟩ := h
  · cases h1
  · simp at h1; obtain ⟨rfl, _⟩ := h1; exact (Array.getElem?_eq_some_iff.1 hg).1
/-- the place, out of its variable -/
def plOf (B : Nat) (w : World) : Nat := match w.cell? ⟨B + 2, 0, none⟩ with | some (.int _ n) => n.toNat | _ => 0
theorem plOf_eq {B k : Nat} {w : World} (h : Boxed w (B + 2) 3 (.int .i64 (k : Int))) : plOf B w = k := by
  unfold plOf; rw [h.cell]; simp
theorem set_len (pre now : List Nat) (b : Nat) : (pre ++ now.length :: now ++ [b]).set pre.length (now.length + 1) = pre ++ (now ++ [b]).length :: (now ++ [b]) := by
  rw [List.append_assoc, List.set_append_right _ _ (Nat.le_refl _)]
  simp
/-- the length goes up by one -/
theorem RL.step {B k b g c n : Nat} {t : ByteArray} {pre now : List Nat} {W : World} (h : RL B t k (pre ++ now.length :: now ++ [b]) W) (hb : Boxed W (B + 1) 39 (.slice (some ⟨g, 0, none⟩) n c)) (hn : n = pre.length + 1 + now.length + 1) :
    W.cell? ⟨g, pre.length, none⟩ = some (.int .u8 (now.length : Int)) ∧ W.frozen? ⟨g, pre.length, none⟩ = false ∧
    (W.setCell ⟨g, pre.length, none⟩ (.int .u8 ((now.length : Int) + 1))).cell? ⟨B + 2, 0, none⟩ = some (.int .i64 (k : Int)) ∧ (W.setCell ⟨g, pre.length, none⟩ (.int .u8 ((now.length : Int) + 1))).frozen? ⟨B + 2, 0, none⟩ = false ∧
    RL B t k (pre ++ (now ++ [b]).length :: (now ++ [b])) (W.setCell ⟨g, pre.length, none⟩ (.int .u8 ((now.length : Int) + 1))) ∧ Below B W (W.setCell ⟨g, pre.length, none⟩ (.int .u8 ((now.length : Int) + 1))) := by
  obtain ⟨v, hv, hown⟩ := h.wr
  have hxl : (pre ++ now.length :: now ++ [b]).length = n := by rw [hn]; simp; omega
  obtain rfl : v = .slice (some ⟨g, 0, none⟩) n c := by
    have := (show W.heap[B + 1]? = _ from hv).symm.trans hb
    simpa using this
  rw [hxl] at hown
  have hc : W.cell? ⟨g, pre.length, none⟩ = some (.int .u8 (now.length : Int)) := by
    rw [hown.cellAt pre.length (by omega)]; simp [byts]
  obtain ⟨r1, r2⟩ := RL.put (x := now.length + 1) (j := pre.length) (y := (now.length : Int) + 1) h hb hxl.symm (by simp) hown
  rw [set_len] at r1
  exact ⟨hc, hown.frozenAt _, r1.pl.cell, r1.pl.frozen, r1, r2⟩
end Go.Proofs.YtkamjcpcdkejmaaDoor
