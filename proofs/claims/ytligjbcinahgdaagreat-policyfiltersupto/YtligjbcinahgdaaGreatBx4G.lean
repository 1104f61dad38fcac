import Derived.Test.YtligjbcinahgdaaGreatGr0G
import Derived.Test.YtligjbcinahgdaaGreatRn0G
import Derived.Test.YtligjbcinahgdaaGreatAp1
import Derived.Test.YtligjbcinahgdaaGreatMl0G
namespace Go.Proofs.YtligjbcinahgdaaGreat
set_option linter.unusedVariables false
open Go.RowKit Go.Shelf Go.Proofs.YtligjbcinahgdaaGreat.Nm

def set14 (w : World) (R : Nat) (a0 a1 a2 a3 a4 a5 a6 a7 a8 a9 a10 a11 a12 a13 : Value) : World := ((((((((((((((w.setCell ⟨R, 0, none⟩ a0).setCell ⟨R, 1, none⟩ a1).setCell ⟨R, 2, none⟩ a2).setCell ⟨R, 3, none⟩ a3).setCell ⟨R, 4, none⟩ a4).setCell ⟨R, 5, none⟩ a5).setCell ⟨R, 6, none⟩ a6).setCell ⟨R, 7, none⟩ a7).setCell ⟨R, 8, none⟩ a8).setCell ⟨R, 9, none⟩ a9).setCell ⟨R, 10, none⟩ a10).setCell ⟨R, 11, none⟩ a11).setCell ⟨R, 12, none⟩ a12).setCell ⟨R, 13, none⟩ a13)
theorem bx14_set {w : World} {R : Nat} {T : TypeId} {b0 b1 b2 b3 b4 b5 b6 b7 b8 b9 b10 b11 b12 b13 : Value} (h : Bx w R #[b0, b1, b2, b3, b4, b5, b6, b7, b8, b9, b10, b11, b12, b13] T) (a0 a1 a2 a3 a4 a5 a6 a7 a8 a9 a10 a11 a12 a13 : Value) : Bx (set14 w R a0 a1 a2 a3 a4 a5 a6 a7 a8 a9 a10 a11 a12 a13) R #[a0, a1, a2, a3, a4, a5, a6, a7, a8, a9, a10, a11, a12, a13] T := by
  have h0 : Bx (w.setCell ⟨R, 0, none⟩ a0) R #[a0, b1, b2, b3, b4, b5, b6, b7, b8, b9, b10, b11, b12, b13] T := h.set 0 a0
  have h1 : Bx ((w.setCell ⟨R, 0, none⟩ a0).setCell ⟨R, 1, none⟩ a1) R #[a0, a1, b2, b3, b4, b5, b6, b7, b8, b9, b10, b11, b12, b13] T := h0.set 1 a1
  have h2 : Bx (((w.setCell ⟨R, 0, none⟩ a0).setCell ⟨R, 1, none⟩ a1).setCell ⟨R, 2, none⟩ a2) R #[a0, a1, a2, b3, b4, b5, b6, b7, b8, b9, b10, b11, b12, b13] T := h1.set 2 a2
  have h3 : Bx ((((w.setCell ⟨R, 0, none⟩ a0).setCell ⟨R, 1, none⟩ a1).setCell ⟨R, 2, none⟩ a2).setCell ⟨R, 3, none⟩ a3) R #[a0, a1, a2, a3, b4, b5, b6, b7, b8, b9, b10, b11, b12, b13] T := h2.set 3 a3
  have h4 : Bx (((((w.setCell ⟨R, 0, none⟩ a0).setCell ⟨R, 1, none⟩ a1).setCell ⟨R, 2, none⟩ a2).setCell ⟨R, 3, none⟩ a3).setCell ⟨R, 4, none⟩ a4) R #[a0, a1, a2, a3, a4, b5, b6, b7, b8, b9, b10, b11, b12, b13] T := h3.set 4 a4
  have h5 : Bx ((((((w.setCell ⟨R, 0, none⟩ a0).setCell ⟨R, 1, none⟩ a1).setCell ⟨R, 2, none⟩ a2).setCell ⟨R, 3, none⟩ a3).setCell ⟨R, 4, none⟩ a4).setCell ⟨R, 5, none⟩ a5) R #[a0, a1, a2, a3, a4, a5, b6, b7, b8, b9, b10, b11, b12, b13] T := h4.set 5 a5
  have h6 : Bx (((((((w.setCell ⟨R, 0, none⟩ a0).setCell ⟨R, 1, none⟩ a1).setCell ⟨R, 2, none⟩ a2).setCell ⟨R, 3, none⟩ a3).setCell ⟨R, 4, none⟩ a4).setCell ⟨R, 5, none⟩ a5).setCell ⟨R, 6, none⟩ a6) R #[a0, a1, a2, a3, a4, a5, a6, b7, b8, b9, b10, b11, b12, b13] T := h5.set 6 a6
  have h7 : Bx ((((((((w.setCell ⟨R, 0, none⟩ a0).setCell ⟨R, 1, none⟩ a1).setCell ⟨R, 2, none⟩ a2).setCell ⟨R, 3, none⟩ a3).setCell ⟨R, 4, none⟩ a4).setCell ⟨R, 5, none⟩ a5).setCell ⟨R, 6, none⟩ a6).setCell ⟨R, 7, none⟩ a7) R #[a0, a1, a2, a3, a4, a5, a6, a7, b8, b9, b10, b11, b12, b13] T := h6.set 7 a7
  have h8 : Bx (((((((((w.setCell ⟨R, 0, none⟩ a0).setCell ⟨R, 1, none⟩ a1).setCell ⟨R, 2, none⟩ a2).setCell ⟨R, 3, none⟩ a3).setCell ⟨R, 4, none⟩ a4).setCell ⟨R, 5, none⟩ a5).setCell ⟨R, 6, none⟩ a6).setCell ⟨R, 7, none⟩ a7).setCell ⟨R, 8, none⟩ a8) R #[a0, a1, a2, a3, a4, a5, a6, a7, a8, b9, b10, b11, b12, b13] T := h7.set 8 a8
  have h9 : Bx ((((((((((w.setCell ⟨R, 0, none⟩ a0).setCell ⟨R, 1, none⟩ a1).setCell ⟨R, 2, none⟩ a2).setCell ⟨R, 3, none⟩ a3).setCell ⟨R, 4, none⟩ a4).setCell ⟨R, 5, none⟩ a5).setCell ⟨R, 6, none⟩ a6).setCell ⟨R, 7, none⟩ a7).setCell ⟨R, 8, none⟩ a8).setCell ⟨R, 9, none⟩ a9) R #[a0, a1, a2, a3, a4, a5, a6, a7, a8, a9, b10, b11, b12, b13] T := h8.set 9 a9
  have h10 : Bx (((((((((((w.setCell ⟨R, 0, none⟩ a0).setCell ⟨R, 1, none⟩ a1).setCell ⟨R, 2, none⟩ a2).setCell ⟨R, 3, none⟩ a3).setCell ⟨R, 4, none⟩ a4).setCell ⟨R, 5, none⟩ a5).setCell ⟨R, 6, none⟩ a6).setCell ⟨R, 7, none⟩ a7).setCell ⟨R, 8, none⟩ a8).setCell ⟨R, 9, none⟩ a9).setCell ⟨R, 10, none⟩ a10) R #[a0, a1, a2, a3, a4, a5, a6, a7, a8, a9, a10, b11, b12, b13] T := h9.set 10 a10
  have h11 : Bx ((((((((((((w.setCell ⟨R, 0, none⟩ a0).setCell ⟨R, 1, none⟩ a1).setCell ⟨R, 2, none⟩ a2).setCell ⟨R, 3, none⟩ a3).setCell ⟨R, 4, none⟩ a4).setCell ⟨R, 5, none⟩ a5).setCell ⟨R, 6, none⟩ a6).setCell ⟨R, 7, none⟩ a7).setCell ⟨R, 8, none⟩ a8).setCell ⟨R, 9, none⟩ a9).setCell ⟨R, 10, none⟩ a10).setCell ⟨R, 11, none⟩ a11) R #[a0, a1, a2, a3, a4, a5, a6, a7, a8, a9, a10, a11, b12, b13] T := h10.set 11 a11
  have h12 : Bx (((((((((((((w.setCell ⟨R, 0, none⟩ a0).setCell ⟨R, 1, none⟩ a1).setCell ⟨R, 2, none⟩ a2).setCell ⟨R, 3, none⟩ a3).setCell ⟨R, 4, none⟩ a4).setCell ⟨R, 5, none⟩ a5).setCell ⟨R, 6, none⟩ a6).setCell ⟨R, 7, none⟩ a7).setCell ⟨R, 8, none⟩ a8).setCell ⟨R, 9, none⟩ a9).setCell ⟨R, 10, none⟩ a10).setCell ⟨R, 11, none⟩ a11).setCell ⟨R, 12, none⟩ a12) R #[a0, a1, a2, a3, a4, a5, a6, a7, a8, a9, a10, a11, a12, b13] T := h11.set 12 a12
  have h13 : Bx ((((((((((((((w.setCell ⟨R, 0, none⟩ a0).setCell ⟨R, 1, none⟩ a1).setCell ⟨R, 2, none⟩ a2).setCell ⟨R, 3, none⟩ a3).setCell ⟨R, 4, none⟩ a4).setCell ⟨R, 5, none⟩ a5).setCell ⟨R, 6, none⟩ a6).setCell ⟨R, 7, none⟩ a7).setCell ⟨R, 8, none⟩ a8).setCell ⟨R, 9, none⟩ a9).setCell ⟨R, 10, none⟩ a10).setCell ⟨R, 11, none⟩ a11).setCell ⟨R, 12, none⟩ a12).setCell ⟨R, 13, none⟩ a13) R #[a0, a1, a2, a3, a4, a5, a6, a7, a8, a9, a10, a11, a12, a13] T := h12.set 13 a13
  exact h13
theorem bx14 {w : World} {R : Nat} {T : TypeId} {b0 b1 b2 b3 b4 b5 b6 b7 b8 b9 b10 b11 b12 b13 : Value} (h : Bx w R #[b0, b1, b2, b3, b4, b5, b6, b7, b8, b9, b10, b11, b12, b13] T) : w.cell? ⟨R, 0, none⟩ = some b0 ∧ w.cell? ⟨R, 1, none⟩ = some b1 ∧ w.cell? ⟨R, 2, none⟩ = some b2 ∧ w.cell? ⟨R, 3, none⟩ = some b3 ∧ w.cell? ⟨R, 4, none⟩ = some b4 ∧ w.cell? ⟨R, 5, none⟩ = some b5 ∧ w.cell? ⟨R, 6, none⟩ = some b6 ∧ w.cell? ⟨R, 7, none⟩ = some b7 ∧ w.cell? ⟨R, 8, none⟩ = some b8 ∧ w.cell? ⟨R, 9, none⟩ = some b9 ∧ w.cell? ⟨R, 10, none⟩ = some b10 ∧ w.cell? ⟨R, 11, none⟩ = some b11 ∧ w.cell? ⟨R, 12, none⟩ = some b12 ∧ w.cell? ⟨R, 13, none⟩ = some b13 :=
  ⟨h.cell rfl, h.cell rfl, h.cell rfl, h.cell rfl, h.cell rfl, h.cell rfl, h.cell rfl, h.cell rfl, h.cell rfl, h.cell rfl, h.cell rfl, h.cell rfl, h.cell rfl, h.cell rfl⟩
theorem bx14_free {w : World} {R : Nat} {T : TypeId} {b0 b1 b2 b3 b4 b5 b6 b7 b8 b9 b10 b11 b12 b13 : Value} (h : Bx w R #[b0, b1, b2, b3, b4, b5, b6, b7, b8, b9, b10, b11, b12, b13] T) : w.frozen? ⟨R, 0, none⟩ = false ∧ w.frozen? ⟨R, 1, none⟩ = false ∧ w.frozen? ⟨R, 2, none⟩ = false ∧ w.frozen? ⟨R, 3, none⟩ = false ∧ w.frozen? ⟨R, 4, none⟩ = false ∧ w.frozen? ⟨R, 5, none⟩ = false ∧ w.frozen? ⟨R, 6, none⟩ = false ∧ w.frozen? ⟨R, 7, none⟩ = false ∧ w.frozen? ⟨R, 8, none⟩ = false ∧ w.frozen? ⟨R, 9, none⟩ = false ∧ w.frozen? ⟨R, 10, none⟩ = false ∧ w.frozen? ⟨R, 11, none⟩ = false ∧ w.frozen? ⟨R, 12, none⟩ = false ∧ w.frozen? ⟨R, 13, none⟩ = false :=
  ⟨h.free 0, h.free 1, h.free 2, h.free 3, h.free 4, h.free 5, h.free 6, h.free 7, h.free 8, h.free 9, h.free 10, h.free 11, h.free 12, h.free 13⟩
theorem Bx.far {w : World} {R : Nat} {cs : Array Value} {T : TypeId} (h : Bx w R cs T) {R' : Nat} (hne : R ≠ R') (j : Nat) (u : Value) : Bx (w.setCell ⟨R', j, none⟩ u) R cs T := (Below.heap_setCell _ _ _ R hne).trans h
theorem bset {m : Nat} {w w' : World} (h : Below m w w') {R : Nat} (hR : m ≤ R) (hm : m ≤ w'.heap.size) (j : Nat) (u : Value) : Below m w (w'.setCell ⟨R, j, none⟩ u) := h.grown (grown_set w' R j u) hm (fun q e => by injection e; omega)
structure BS (m : Nat) (w w' : World) : Prop where
  b : Below m w w'
  z : m ≤ w'.heap.size
theorem BS.set {m : Nat} {w w' : World} (h : BS m w w') {R : Nat} (hR : m ≤ R) (j : Nat) (u : Value) : BS m w (w'.setCell ⟨R, j, none⟩ u) := ⟨bset h.b hR h.z j u, by rw [set_size]; exact h.z⟩
theorem below14 {m : Nat} {w w' : World} (h : Below m w w') {R : Nat} (hR : m ≤ R) (hm : m ≤ w'.heap.size) (a0 a1 a2 a3 a4 a5 a6 a7 a8 a9 a10 a11 a12 a13 : Value) : Below m w (set14 w' R a0 a1 a2 a3 a4 a5 a6 a7 a8 a9 a10 a11 a12 a13) :=
  (((((((((((((((BS.mk h hm).set hR 0 a0).set hR 1 a1).set hR 2 a2).set hR 3 a3).set hR 4 a4).set hR 5 a5).set hR 6 a6).set hR 7 a7).set hR 8 a8).set hR 9 a9).set hR 10 a10).set hR 11 a11).set hR 12 a12).set hR 13 a13).b
end Go.Proofs.YtligjbcinahgdaaGreat

namespace Go.Proofs.YtligjbcinahgdaaGreat
set_option linter.unusedVariables false
open Go.RowKit Go.Shelf Go.Proofs.YtligjbcinahgdaaGreat.Nm

/-- a row whose block stays -/
theorem own_blk {w w' : World} {n e size k : Nat} {v : Value} {xs : List Value} (h : w.ownsRow n e size v k xs) (hb : ∀ g, v.ownBlock = some g → w'.heap[g]? = w.heap[g]?) : w'.ownsRow n e size v k xs := by
  obtain ⟨hl, (h0 | ⟨g, cap, cur, rfl, hg, hc, rest⟩)⟩ := h
  · exact ⟨hl, .inl h0⟩
  · exact ⟨hl, .inr ⟨g, cap, cur, rfl, hg, (hb g rfl).trans hc, rest⟩⟩
/-- a store into a row of one's own -/
theorem own_put {w : World} {base e size g n cap : Nat} {xs : List Value} (h : w.ownsRow base e size (.slice (some ⟨g, 0, none⟩) n cap) n xs) (j : Nat) (hj : j < n * size) (u : Value) :
    (w.setCell ⟨g, j, none⟩ u).ownsRow base e size (.slice (some ⟨g, 0, none⟩) n cap) n (xs.set j u) := by
  obtain ⟨hl, (⟨h1, h2⟩ | ⟨g', cap', cur, h1, hb, hg, hn, hcm, hcs, htk⟩)⟩ := h
  · cases h1
  · injection h1 with h1 h2 h3
    injection h1 with h1
    injection h1 with h1
    subst h1; subst h3
    refine ⟨by simpa using hl, .inr ⟨g, cap, cur.setIfInBounds j u, rfl, hb, ?_, hn, hcm, by simpa using hcs, ?_⟩⟩
    · simp [World.setCell, Array.getElem?_modify, hg]
    · rw [← htk]
      simp [List.take_set]
theorem own_cell {w : World} {base e size g n cap : Nat} {xs : List Value} (h : w.ownsRow base e size (.slice (some ⟨g, 0, none⟩) n cap) n xs) (j : Nat) (hj : j < n * size) : ∃ u, w.cell? ⟨g, j, none⟩ = some u ∧ w.frozen? ⟨g, j, none⟩ = false := by
  have h1 := h.cellAt j hj
  have hl := h.1
  rw [List.getElem?_eq_getElem (by omega)] at h1
  refine ⟨_, h1, ?_⟩
  rcases h.2 with ⟨h2, _⟩ | ⟨g', cap', cur, h2, hb, hg, _⟩
  · cases h2
  · injection h2 with h2
    injection h2 with h2
    injection h2 with h2
    subst h2
    simp [World.frozen?, hg]
end Go.Proofs.YtligjbcinahgdaaGreat

/-
  What marking needs of rows. (The verifier's own text.)
-/
namespace Go.Proofs.YtligjbcinahgdaaGreat
set_option linter.unusedVariables false
open Go.RowKit Go.Shelf Go.Maps Go.Proofs.YtligjbcinahgdaaGreat.Nm

/-- questions as cells -/
def qenc (x : Qn) : List Value := [.string x.n, .int .i64 x.t, .int .i64 x.c]
def qcells (L : List Qn) : List Value := L.flatMap qenc
theorem row_newR (w : World) (cs : Array Value) (T : TypeId) : ∀ j u, cs.toList[j]? = some u → (w.alloc (.cells cs T)).cell? ((⟨w.heap.size, 0, none⟩ : Addr).add j) = some u := by
  intro j u hj
  have ea : (⟨w.heap.size, 0, none⟩ : Addr).add j = ⟨w.heap.size, j, none⟩ := by
    unfold Addr.add; split <;> simp_all
  rw [ea]
  exact Bx.cell (World.alloc_heap_new w _) (by rw [← Array.getElem?_toList]; exact hj)
/-- records as cells -/
def renc (x : Rn) : List Value := [.string x.o, .int .i64 x.t, .int .i64 x.c, .int .i64 x.l, .string x.d]
def rcells (L : List Rn) : List Value := L.flatMap renc
theorem rcells_app (L : List Rn) (x : Rn) : rcells (L ++ [x]) = rcells L ++ renc x := by simp [rcells]
/-- two rows lie apart -/
def Apart (a b : Value) : Prop := ∀ x, a.ownBlock = some x → b.ownBlock ≠ some x
/-- the lists of a message in memory -/
structure Mg4 (w : World) (n : Nat) (vq va vu vd : Value) (ls : Ls) : Prop where
  q : w.ownsRow n 52 3 vq ls.q.length (qcells ls.q)
  a : w.ownsRow n 55 5 va ls.a.length (rcells ls.a)
  u : w.ownsRow n 55 5 vu ls.u.length (rcells ls.u)
  d : w.ownsRow n 55 5 vd ls.d.length (rcells ls.d)
  qa : Apart vq va
  qu : Apart vq vu
  qd : Apart vq vd
  au : Apart va vu
  ad : Apart va vd
  ud : Apart vu vd
theorem apart_nil (v : Value) : Apart v (.slice none 0 0) := fun x _ e => by cases e
theorem own_low {w : World} {n n2 e size k : Nat} {v : Value} {xs : List Value} (h : w.ownsRow n2 e size v k xs) (hn : n ≤ n2) : w.ownsRow n e size v k xs := by
  obtain ⟨hl, (h0 | ⟨g, cap, cur, rfl, hg, rest⟩)⟩ := h
  · exact ⟨hl, .inl h0⟩
  · exact ⟨hl, .inr ⟨g, cap, cur, rfl, Nat.le_trans hn hg, rest⟩⟩
theorem own_keep {w w' : World} {n e size k : Nat} {v : Value} {xs : List Value} {r : Option Nat} (h : w.ownsRow n e size v k xs) (hg : w.grownBy w' r) (hr : ∀ q, r = some q → q < n) : w'.ownsRow n e size v k xs := by
  refine h.kept hg ?_
  by_cases hv : v.ownBlock = none
  · exact .inl hv
  · right
    intro he
    cases r with
    | none => exact hv he
    | some q => have := h.lt q he; have := hr q rfl; omega
theorem Mg4.keep {w w' : World} {n : Nat} {vq va vu vd : Value} {ls : Ls} {r : Option Nat} (h : Mg4 w n vq va vu vd ls) (hg : w.grownBy w' r) (hr : ∀ q, r = some q → q < n) : Mg4 w' n vq va vu vd ls :=
  ⟨own_keep h.q hg hr, own_keep h.a hg hr, own_keep h.u hg hr, own_keep h.d hg hr, h.qa, h.qu, h.qd, h.au, h.ad, h.ud⟩
/-- a row of the newest is apart from an elder one -/
theorem apart_new {w w' : World} {n m e1 s1 k1 e2 s2 k2 : Nat} {v1 v2 : Value} {x1 x2 : List Value} (h1 : w.ownsRow n e1 s1 v1 k1 x1) (h2 : w'.ownsRow m e2 s2 v2 k2 x2) (hm : w.heap.size ≤ m) : Apart v1 v2 := fun x hx hy => by
  have := h1.lt x hx
  have := h2.lt x hy
  omega
theorem apart_place {w : World} {n e size k : Nat} {a c d : Value} {xs : List Value} (h : w.ownsRow n e size a k xs) (hap : Apart a c) (hpl : d.ownBlock = c.ownBlock ∨ d.ownBlock = some w.heap.size) : Apart a d := fun x hx hy => by
  rcases hpl with h1 | h1
  · rw [h1] at hy; exact hap _ hx hy
  · rw [h1] at hy; injection hy with hy; have := h.lt _ hx; omega
/-- a row is kept while another one grows -/
theorem own_apart {w w2 : World} {n e size k : Nat} {a c : Value} {xs : List Value} (h : w.ownsRow n e size a k xs) (hg : w.grownBy w2 c.ownBlock) (hap : Apart a c) : w2.ownsRow n e size a k xs := by
  refine h.kept hg ?_
  by_cases hv : a.ownBlock = none
  · exact .inl hv
  · right
    intro he
    cases hx : a.ownBlock with
    | none => exact hv hx
    | some x => rw [hx] at he; exact hap x hx he.symm
theorem Apart.symm {a c : Value} (h : Apart a c) : Apart c a := fun x hc ha => h x ha hc
/-- Rcd in memory, to be read -/
def RcdAt (w : World) (g : Nat) (L : List Rn) : Prop := ∀ j, (hj : j < L.length) → w.cell? ⟨g, j * 5, none⟩ = some (.string L[j].o) ∧ w.cell? ⟨g, j * 5 + 1, none⟩ = some (.int .i64 L[j].t) ∧ w.cell? ⟨g, j * 5 + 2, none⟩ = some (.int .i64 L[j].c) ∧ w.cell? ⟨g, j * 5 + 3, none⟩ = some (.int .i64 L[j].l) ∧ w.cell? ⟨g, j * 5 + 4, none⟩ = some (.string L[j].d)
theorem Rcd_get (L : List Rn) : ∀ j, (hj : j < L.length) → (rcells L)[j * 5]? = some (.string L[j].o) ∧ (rcells L)[j * 5 + 1]? = some (.int .i64 L[j].t) ∧ (rcells L)[j * 5 + 2]? = some (.int .i64 L[j].c) ∧ (rcells L)[j * 5 + 3]? = some (.int .i64 L[j].l) ∧ (rcells L)[j * 5 + 4]? = some (.string L[j].d) := by
  induction L with
  | nil => intro j hj; simp at hj
  | cons x L ih =>
    intro j hj
    have e : rcells (x :: L) = (.string x.o) :: (.int .i64 x.t) :: (.int .i64 x.c) :: (.int .i64 x.l) :: (.string x.d) :: rcells L := by simp [rcells, renc]
    cases j with
    | zero => simp [e]
    | succ j =>
      have := ih j (by simpa using hj)
      rw [e]
      have e1 : (j + 1) * 5 = j * 5 + 1 + 1 + 1 + 1 + 1 := by omega
      rw [e1]
      simpa using this
theorem Rcd_own {w : World} {base g cap n : Nat} {L : List Rn} (h : w.ownsRow base 55 5 (.slice (some ⟨g, 0, none⟩) n cap) n (rcells L)) (hn : n = L.length) : RcdAt w g L := by
  subst hn
  intro j hj
  have hc : ∀ i, i < L.length * 5 → w.cell? ⟨g, i, none⟩ = (rcells L)[i]? := fun i hi => World.ownsRow.cellAt h i hi
  obtain ⟨h0, h1, h2, h3, h4⟩ := Rcd_get L j hj
  exact ⟨(hc _ (by omega)).trans h0, (hc _ (by omega)).trans h1, (hc _ (by omega)).trans h2, (hc _ (by omega)).trans h3, (hc _ (by omega)).trans h4⟩
theorem below_quiet {w : World} (m : Nat) : Below w.heap.size w (w.drewN m) := ⟨rfl, rfl, rfl, Nat.le_refl _, fun _ _ => rfl⟩
theorem infoR0 : (Tryz.prog.info? 55).map (fun i => (i.zero, i.size, i.bytes)) = some (some (.agg #[.string ⟨#[]⟩, .int .i64 0, .int .i64 0, .int .i64 0, .string ⟨#[]⟩]), 5, 56) := by kernel_rfl
end Go.Proofs.YtligjbcinahgdaaGreat
