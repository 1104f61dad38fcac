import Derived.Test.YtligjbcinahgdaaGreatBx4G
import Derived.Test.YtligjbcinahgdaaGreatAp1
namespace Go.Proofs.YtligjbcinahgdaaGreat
set_option linter.unusedVariables false
open Go.RowKit Go.Shelf Go.Proofs.YtligjbcinahgdaaGreat.Nm

/-- what turns: the blocks of four rows alone -/
structure Fr4 (w w' : World) (vq va vu vd : Value) : Prop where
  os : w'.os = w.os
  tape : w'.tape = w.tape
  output : w'.output = w.output
  size : w.heap.size ≤ w'.heap.size
  block : ∀ k, k < w.heap.size → vq.ownBlock ≠ some k → va.ownBlock ≠ some k → vu.ownBlock ≠ some k → vd.ownBlock ≠ some k → w'.heap[k]? = w.heap[k]?
theorem Fr4.refl (w : World) (vq va vu vd : Value) : Fr4 w w vq va vu vd := ⟨rfl, rfl, rfl, Nat.le_refl _, fun _ _ _ _ _ _ => rfl⟩
/-- a step whose one block is one of the four rows', or new -/
theorem Fr4.step {w w1 w2 : World} {vq va vu vd : Value} {r : Option Nat} (h : Fr4 w w1 vq va vu vd) (k : w1.grownBy w2 r) (hr : ∀ q, r = some q → q < w.heap.size → vq.ownBlock = some q ∨ va.ownBlock = some q ∨ vu.ownBlock = some q ∨ vd.ownBlock = some q) : Fr4 w w2 vq va vu vd :=
  ⟨k.os.trans h.os, k.tape.trans h.tape, k.output.trans h.output, Nat.le_trans h.size k.size, fun j hj h1 h2 h3 h4 => (k.block j (Nat.lt_of_lt_of_le hj h.size) (fun e => by
    rcases hr j e.symm hj with e | e | e | e
    · exact h1 e
    · exact h2 e
    · exact h3 e
    · exact h4 e)).trans (h.block j hj h1 h2 h3 h4)⟩
/-- what a mark is -/
def mkT (j k : Nat) : Int := match j with | 0 => -(k : Int) - 1 | 1 => -1000 - (k : Int) - 1 | _ => -2000 - (k : Int) - 1
def grT (j k : Nat) : Int := match j with | 0 => -500 - (k : Int) | 1 => -1500 - (k : Int) | _ => -2500 - (k : Int)
def mkR (j k : Nat) : Rn := ⟨⟨#[109, 97, 114, 107]⟩, mkT j k, 0, 0, ⟨#[]⟩⟩
def grR (j k : Nat) : Rn := ⟨⟨#[103, 114, 111, 119, 110]⟩, grT j k, 0, 0, ⟨#[]⟩⟩
/-- the first k of a list are marked -/
def mkL (j k : Nat) (R : List Rn) : List Rn := (List.range k).map (mkR j) ++ R.drop k
theorem mkL_len (j k : Nat) (R : List Rn) (hk : k ≤ R.length) : (mkL j k R).length = R.length := by simp [mkL]; omega
theorem mkL_zero (j : Nat) (R : List Rn) : mkL j 0 R = R := by simp [mkL]
theorem mkL_succ (j k : Nat) (R : List Rn) (hk : k < R.length) : (mkL j k R).set k (mkR j k) = mkL j (k + 1) R := by
  apply List.ext_getElem
  · simp [mkL]; omega
  · intro i h1 h2
    simp [mkL] at h1
    by_cases h3 : i = k
    · subst h3
      simp [mkL, List.getElem_append_left]
    · rw [List.getElem_set_ne (by omega)]
      by_cases h4 : i < k
      · simp [mkL, List.getElem_append_left, h4, show i < k + 1 by omega]
      · simp only [mkL]
        rw [List.getElem_append_right (by simp; omega), List.getElem_append_right (by simp; omega)]
        simp
        congr 1; omega
theorem rcells_set (L : List Rn) (k : Nat) (x : Rn) (hk : k < L.length) : (((((rcells L).set (k * 5) (.string x.o)).set (k * 5 + 1) (.int .i64 x.t)).set (k * 5 + 2) (.int .i64 x.c)).set (k * 5 + 3) (.int .i64 x.l)).set (k * 5 + 4) (.string x.d) = rcells (L.set k x) := by
  induction L generalizing k with
  | nil => simp at hk
  | cons y L ih =>
    have e : rcells (y :: L) = .string y.o :: .int .i64 y.t :: .int .i64 y.c :: .int .i64 y.l :: .string y.d :: rcells L := by simp [rcells, renc]
    cases k with
    | zero => simp [rcells, renc]
    | succ k =>
      have e1 : (k + 1) * 5 = k * 5 + 1 + 1 + 1 + 1 + 1 := by omega
      have := ih k (by simpa using hk)
      rw [e, e1]
      simp only [List.set_cons_succ]
      rw [this]
      simp [rcells, renc]
end Go.Proofs.YtligjbcinahgdaaGreat

namespace Go.Proofs.YtligjbcinahgdaaGreat
set_option linter.unusedVariables false
open Go.RowKit Go.Shelf Go.Proofs.YtligjbcinahgdaaGreat.Nm

/-- five cells of a row are set -/
def setRm (w : World) (g k : Nat) (x : Rn) : World := ((((w.setCell ⟨g, k * 5, none⟩ (.string x.o)).setCell ⟨g, k * 5 + 1, none⟩ (.int .i64 x.t)).setCell ⟨g, k * 5 + 2, none⟩ (.int .i64 x.c)).setCell ⟨g, k * 5 + 3, none⟩ (.int .i64 x.l)).setCell ⟨g, k * 5 + 4, none⟩ (.string x.d)
theorem setRm_grown (w : World) (g k : Nat) (x : Rn) : w.grownBy (setRm w g k x) (some g) := grown_trans (grown_trans (grown_trans (grown_trans (grown_set w g _ _) (grown_set _ g _ _)) (grown_set _ g _ _)) (grown_set _ g _ _)) (grown_set _ g _ _)
theorem setRm_own {w : World} {base g cap : Nat} {R : List Rn} (h : w.ownsRow base 55 5 (.slice (some ⟨g, 0, none⟩) R.length cap) R.length (rcells R)) (k : Nat) (hk : k < R.length) (x : Rn) : (setRm w g k x).ownsRow base 55 5 (.slice (some ⟨g, 0, none⟩) R.length cap) R.length (rcells (R.set k x)) := by
  have h5 := own_put (own_put (own_put (own_put (own_put h (k * 5) (by omega) (.string x.o)) (k * 5 + 1) (by omega) (.int .i64 x.t)) (k * 5 + 2) (by omega) (.int .i64 x.c)) (k * 5 + 3) (by omega) (.int .i64 x.l)) (k * 5 + 4) (by omega) (.string x.d)
  rw [rcells_set R k x hk] at h5
  exact h5
theorem own_ne {a c : Value} {g : Nat} (h : Apart a c) (hc : c.ownBlock = some g := by rfl) : a.ownBlock = none ∨ a.ownBlock ≠ some g := .inr (fun e => h g e hc)
/-- marking under way: the message's box, the list of lists, its three rows -/
structure M3 (w wr : World) (bx : Array Value) (L n : Nat) (vq va vu vd : Value) (v0 v1 v2 : Value) (R0 R1 R2 : List Rn) : Prop where
  fr : Fr4 w wr vq va vu vd
  mb : Bx wr w.heap.size bx 27
  lb : Bx wr L #[v0, v1, v2] 25
  r0 : wr.ownsRow n 55 5 v0 R0.length (rcells R0)
  r1 : wr.ownsRow n 55 5 v1 R1.length (rcells R1)
  r2 : wr.ownsRow n 55 5 v2 R2.length (rcells R2)
  a01 : Apart v0 v1
  a02 : Apart v0 v2
  a12 : Apart v1 v2
  o0 : ∀ x, v0.ownBlock = some x → (va.ownBlock = some x ∨ w.heap.size < x) ∧ x ≠ w.heap.size ∧ x ≠ L
  o1 : ∀ x, v1.ownBlock = some x → (vu.ownBlock = some x ∨ w.heap.size < x) ∧ x ≠ w.heap.size ∧ x ≠ L
  o2 : ∀ x, v2.ownBlock = some x → (vd.ownBlock = some x ∨ w.heap.size < x) ∧ x ≠ w.heap.size ∧ x ≠ L
  Ll : w.heap.size < L
  sz : n ≤ w.heap.size
theorem M3.put0 {w wr : World} {bx : Array Value} {L n g cap m : Nat} {vq va vu vd v1 v2 : Value} {R0 R1 R2 : List Rn} (h : M3 w wr bx L n vq va vu vd (.slice (some ⟨g, 0, none⟩) m cap) v1 v2 R0 R1 R2) (k : Nat) (hm : R0.length = m) (hk : k < m) (x : Rn) : M3 w (setRm wr g k x) bx L n vq va vu vd (.slice (some ⟨g, 0, none⟩) m cap) v1 v2 (R0.set k x) R1 R2 := by
  subst hm
  have hg := setRm_grown wr g k x
  obtain ⟨h1, h2, h3⟩ := h.o0 g rfl
  exact ⟨h.fr.step hg (fun q e hq => by injection e with e; subst e; rcases h1 with h1 | h1; exact .inr (.inl h1); omega), h.mb.grown hg (fun e => h2 (Option.some.inj e)), h.lb.grown hg (fun e => h3 (Option.some.inj e)), by rw [List.length_set]; exact setRm_own h.r0 k hk x, h.r1.kept hg (own_ne h.a01.symm), h.r2.kept hg (own_ne h.a02.symm), h.a01, h.a02, h.a12, h.o0, h.o1, h.o2, h.Ll, h.sz⟩
theorem M3.grow0 {w wr w2 : World} {bx : Array Value} {L n : Nat} {vq va vu vd v0 v1 v2 u : Value} {R0 R1 R2 : List Rn} (h : M3 w wr bx L n vq va vu vd v0 v1 v2 R0 R1 R2) {x : Rn} (hown : w2.ownsRow n 55 5 u (R0.length + 1) (rcells R0 ++ renc x)) (hg : wr.grownBy w2 v0.ownBlock) (hpl : u.ownBlock = v0.ownBlock ∨ u.ownBlock = some wr.heap.size) : M3 w (w2.setCell ⟨L, 0, none⟩ u) bx L n vq va vu vd u v1 v2 (R0 ++ [x]) R1 R2 := by
  have hLl := h.Ll
  have hml := h.mb.lt
  have hll := h.lb.lt
  have hg2 := grown_set w2 L 0 u
  have hu : ∀ g, u.ownBlock = some g → g ≠ L := fun g e => by
    rcases hpl with h1 | h1
    · exact (h.o0 g (h1 ▸ e)).2.2
    · rw [h1] at e; injection e with e; omega
  have hv : ∀ q, v0.ownBlock = some q → q < w.heap.size → vq.ownBlock = some q ∨ va.ownBlock = some q ∨ vu.ownBlock = some q ∨ vd.ownBlock = some q := fun q e hq => by
    rcases (h.o0 q e).1 with h1 | h1
    · exact .inr (.inl h1)
    · omega
  exact ⟨(h.fr.step hg hv).step hg2 (fun q e hq => by injection e with e; omega), (h.mb.grown hg (fun e => (h.o0 _ e).2.1 rfl)).far (by omega) _ _, (h.lb.grown hg (fun e => (h.o0 _ e).2.2 rfl)).set 0 u, by rw [List.length_append, rcells_app]; exact own_blk hown (fun g e => Below.heap_setCell _ _ _ g (by have := hu g e; omega)), own_blk (own_apart h.r1 hg h.a01.symm) (fun g e => Below.heap_setCell _ _ _ g (fun e2 => (h.o1 g e).2.2 e2)), own_blk (own_apart h.r2 hg h.a02.symm) (fun g e => Below.heap_setCell _ _ _ g (fun e2 => (h.o2 g e).2.2 e2)), (apart_place h.r1 h.a01.symm hpl).symm, (apart_place h.r2 h.a02.symm hpl).symm, h.a12, (fun y e => by rcases hpl with h1 | h1; exact h.o0 y (h1 ▸ e); (rw [h1] at e; injection e with e; subst e; exact ⟨.inr (by have := h.mb.lt; omega), by have := h.mb.lt; omega, by have := h.lb.lt; omega⟩)), h.o1, h.o2, hLl, h.sz⟩
theorem M3.put1 {w wr : World} {bx : Array Value} {L n g cap m : Nat} {vq va vu vd v0 v2 : Value} {R0 R1 R2 : List Rn} (h : M3 w wr bx L n vq va vu vd v0 (.slice (some ⟨g, 0, none⟩) m cap) v2 R0 R1 R2) (k : Nat) (hm : R1.length = m) (hk : k < m) (x : Rn) : M3 w (setRm wr g k x) bx L n vq va vu vd v0 (.slice (some ⟨g, 0, none⟩) m cap) v2 R0 (R1.set k x) R2 := by
  subst hm
  have hg := setRm_grown wr g k x
  obtain ⟨h1, h2, h3⟩ := h.o1 g rfl
  exact ⟨h.fr.step hg (fun q e hq => by injection e with e; subst e; rcases h1 with h1 | h1; exact .inr (.inr (.inl h1)); omega), h.mb.grown hg (fun e => h2 (Option.some.inj e)), h.lb.grown hg (fun e => h3 (Option.some.inj e)), h.r0.kept hg (own_ne h.a01), by rw [List.length_set]; exact setRm_own h.r1 k hk x, h.r2.kept hg (own_ne h.a12.symm), h.a01, h.a02, h.a12, h.o0, h.o1, h.o2, h.Ll, h.sz⟩
theorem M3.grow1 {w wr w2 : World} {bx : Array Value} {L n : Nat} {vq va vu vd v0 v1 v2 u : Value} {R0 R1 R2 : List Rn} (h : M3 w wr bx L n vq va vu vd v0 v1 v2 R0 R1 R2) {x : Rn} (hown : w2.ownsRow n 55 5 u (R1.length + 1) (rcells R1 ++ renc x)) (hg : wr.grownBy w2 v1.ownBlock) (hpl : u.ownBlock = v1.ownBlock ∨ u.ownBlock = some wr.heap.size) : M3 w (w2.setCell ⟨L, 1, none⟩ u) bx L n vq va vu vd v0 u v2 R0 (R1 ++ [x]) R2 := by
  have hLl := h.Ll
  have hml := h.mb.lt
  have hll := h.lb.lt
  have hg2 := grown_set w2 L 1 u
  have hu : ∀ g, u.ownBlock = some g → g ≠ L := fun g e => by
    rcases hpl with h1 | h1
    · exact (h.o1 g (h1 ▸ e)).2.2
    · rw [h1] at e; injection e with e; omega
  have hv : ∀ q, v1.ownBlock = some q → q < w.heap.size → vq.ownBlock = some q ∨ va.ownBlock = some q ∨ vu.ownBlock = some q ∨ vd.ownBlock = some q := fun q e hq => by
    rcases (h.o1 q e).1 with h1 | h1
    · exact .inr (.inr (.inl h1))
    · omega
  exact ⟨(h.fr.step hg hv).step hg2 (fun q e hq => by injection e with e; omega), (h.mb.grown hg (fun e => (h.o1 _ e).2.1 rfl)).far (by omega) _ _, (h.lb.grown hg (fun e => (h.o1 _ e).2.2 rfl)).set 1 u, own_blk (own_apart h.r0 hg h.a01) (fun g e => Below.heap_setCell _ _ _ g (fun e2 => (h.o0 g e).2.2 e2)), by rw [List.length_append, rcells_app]; exact own_blk hown (fun g e => Below.heap_setCell _ _ _ g (by have := hu g e; omega)), own_blk (own_apart h.r2 hg h.a12.symm) (fun g e => Below.heap_setCell _ _ _ g (fun e2 => (h.o2 g e).2.2 e2)), apart_place h.r0 h.a01 hpl, h.a02, (apart_place h.r2 h.a12.symm hpl).symm, h.o0, (fun y e => by rcases hpl with h1 | h1; exact h.o1 y (h1 ▸ e); (rw [h1] at e; injection e with e; subst e; exact ⟨.inr (by have := h.mb.lt; omega), by have := h.mb.lt; omega, by have := h.lb.lt; omega⟩)), h.o2, hLl, h.sz⟩
theorem M3.put2 {w wr : World} {bx : Array Value} {L n g cap m : Nat} {vq va vu vd v0 v1 : Value} {R0 R1 R2 : List Rn} (h : M3 w wr bx L n vq va vu vd v0 v1 (.slice (some ⟨g, 0, none⟩) m cap) R0 R1 R2) (k : Nat) (hm : R2.length = m) (hk : k < m) (x : Rn) : M3 w (setRm wr g k x) bx L n vq va vu vd v0 v1 (.slice (some ⟨g, 0, none⟩) m cap) R0 R1 (R2.set k x) := by
  subst hm
  have hg := setRm_grown wr g k x
  obtain ⟨h1, h2, h3⟩ := h.o2 g rfl
  exact ⟨h.fr.step hg (fun q e hq => by injection e with e; subst e; rcases h1 with h1 | h1; exact .inr (.inr (.inr h1)); omega), h.mb.grown hg (fun e => h2 (Option.some.inj e)), h.lb.grown hg (fun e => h3 (Option.some.inj e)), h.r0.kept hg (own_ne h.a02), h.r1.kept hg (own_ne h.a12), by rw [List.length_set]; exact setRm_own h.r2 k hk x, h.a01, h.a02, h.a12, h.o0, h.o1, h.o2, h.Ll, h.sz⟩
theorem M3.grow2 {w wr w2 : World} {bx : Array Value} {L n : Nat} {vq va vu vd v0 v1 v2 u : Value} {R0 R1 R2 : List Rn} (h : M3 w wr bx L n vq va vu vd v0 v1 v2 R0 R1 R2) {x : Rn} (hown : w2.ownsRow n 55 5 u (R2.length + 1) (rcells R2 ++ renc x)) (hg : wr.grownBy w2 v2.ownBlock) (hpl : u.ownBlock = v2.ownBlock ∨ u.ownBlock = some wr.heap.size) : M3 w (w2.setCell ⟨L, 2, none⟩ u) bx L n vq va vu vd v0 v1 u R0 R1 (R2 ++ [x]) := by
  have hLl := h.Ll
  have hml := h.mb.lt
  have hll := h.lb.lt
  have hg2 := grown_set w2 L 2 u
  have hu : ∀ g, u.ownBlock = some g → g ≠ L := fun g e => by
    rcases hpl with h1 | h1
    · exact (h.o2 g (h1 ▸ e)).2.2
    · rw [h1] at e; injection e with e; omega
  have hv : ∀ q, v2.ownBlock = some q → q < w.heap.size → vq.ownBlock = some q ∨ va.ownBlock = some q ∨ vu.ownBlock = some q ∨ vd.ownBlock = some q := fun q e hq => by
    rcases (h.o2 q e).1 with h1 | h1
    · exact .inr (.inr (.inr h1))
    · omega
  exact ⟨(h.fr.step hg hv).step hg2 (fun q e hq => by injection e with e; omega), (h.mb.grown hg (fun e => (h.o2 _ e).2.1 rfl)).far (by omega) _ _, (h.lb.grown hg (fun e => (h.o2 _ e).2.2 rfl)).set 2 u, own_blk (own_apart h.r0 hg h.a02) (fun g e => Below.heap_setCell _ _ _ g (fun e2 => (h.o0 g e).2.2 e2)), own_blk (own_apart h.r1 hg h.a12) (fun g e => Below.heap_setCell _ _ _ g (fun e2 => (h.o1 g e).2.2 e2)), by rw [List.length_append, rcells_app]; exact own_blk hown (fun g e => Below.heap_setCell _ _ _ g (by have := hu g e; omega)), h.a01, apart_place h.r0 h.a02 hpl, apart_place h.r1 h.a12 hpl, h.o0, h.o1, (fun y e => by rcases hpl with h1 | h1; exact h.o2 y (h1 ▸ e); (rw [h1] at e; injection e with e; subst e; exact ⟨.inr (by have := h.mb.lt; omega), by have := h.mb.lt; omega, by have := h.lb.lt; omega⟩)), hLl, h.sz⟩
theorem M3.same {w wr w2 : World} {bx : Array Value} {L n : Nat} {vq va vu vd v0 v1 v2 : Value} {R0 R1 R2 : List Rn} (h : M3 w wr bx L n vq va vu vd v0 v1 v2 R0 R1 R2) (hb : Below wr.heap.size wr w2) : M3 w w2 bx L n vq va vu vd v0 v1 v2 R0 R1 R2 :=
  ⟨h.fr.step (grown_below hb none) (fun q e => by cases e), h.mb.below hb h.mb.lt, h.lb.below hb h.lb.lt, h.r0.kept (grown_below hb none) (by by_cases hv : v0.ownBlock = none; exact .inl hv; exact .inr hv), h.r1.kept (grown_below hb none) (by by_cases hv : v1.ownBlock = none; exact .inl hv; exact .inr hv), h.r2.kept (grown_below hb none) (by by_cases hv : v2.ownBlock = none; exact .inl hv; exact .inr hv), h.a01, h.a02, h.a12, h.o0, h.o1, h.o2, h.Ll, h.sz⟩
end Go.Proofs.YtligjbcinahgdaaGreat

namespace Go.Proofs.YtligjbcinahgdaaGreat
set_option linter.unusedVariables false
open Go.RowKit Go.Shelf Go.Proofs.YtligjbcinahgdaaGreat.Nm

/-- the first k that are grown -/
def grL (j k : Nat) : List Rn := (List.range k).map (grR j)
theorem grL_succ (j k : Nat) : grL j (k + 1) = grL j k ++ [grR j k] := by simp [grL, List.range_succ]
theorem cell_al {W : World} {a : Addr} {v : Value} {o : Obj} (h : W.cell? a = some v) : (W.alloc o).cell? a = some v := by rw [World.cell?_alloc_some W a o (by rw [h]; rfl)]; exact h
theorem own_one {w : World} {base e size : Nat} {p : Option Addr} {n c : Nat} {xs : List Value} (h : w.ownsRow base e size (.slice p n c) n xs) (hn : 0 < n) : ∃ g, p = some ⟨g, 0, none⟩ := by
  rcases h.2 with ⟨h1, h0⟩ | ⟨g, cap, cur, h1, _⟩
  · omega
  · injection h1 with h1 h2 h3; exact ⟨g, h1⟩

/-- where the marking loop stands -/
def PMm (w wr : World) (bx : Array Value) (L n : Nat) (vq va vu vd : Value) (ls : Ls) (j : Nat) : Prop := match j with
  | 0 => M3 w wr bx L n vq va vu vd va vu vd ls.a ls.u ls.d
  | 1 => M3 w wr bx L n vq va vu vd va vu vd (mkL 0 ls.a.length ls.a) ls.u ls.d
  | 2 => M3 w wr bx L n vq va vu vd va vu vd (mkL 0 ls.a.length ls.a) (mkL 1 ls.u.length ls.u) ls.d
  | _ => M3 w wr bx L n vq va vu vd va vu vd (mkL 0 ls.a.length ls.a) (mkL 1 ls.u.length ls.u) (mkL 2 ls.d.length ls.d)
/-- where the growing loop stands -/
def PGm (w wr : World) (bx : Array Value) (L n : Nat) (vq va vu vd : Value) (ls : Ls) (j : Nat) : Prop := match j with
  | 0 => ∃ v0 v1 v2, M3 w wr bx L n vq va vu vd v0 v1 v2 (mkL 0 ls.a.length ls.a) (mkL 1 ls.u.length ls.u) (mkL 2 ls.d.length ls.d)
  | 1 => ∃ v0 v1 v2, M3 w wr bx L n vq va vu vd v0 v1 v2 (mkL 0 ls.a.length ls.a ++ grL 0 9) (mkL 1 ls.u.length ls.u) (mkL 2 ls.d.length ls.d)
  | 2 => ∃ v0 v1 v2, M3 w wr bx L n vq va vu vd v0 v1 v2 (mkL 0 ls.a.length ls.a ++ grL 0 9) (mkL 1 ls.u.length ls.u ++ grL 1 9) (mkL 2 ls.d.length ls.d)
  | _ => ∃ v0 v1 v2, M3 w wr bx L n vq va vu vd v0 v1 v2 (mkL 0 ls.a.length ls.a ++ grL 0 9) (mkL 1 ls.u.length ls.u ++ grL 1 9) (mkL 2 ls.d.length ls.d ++ grL 2 9)

set_option maxRecDepth 100000 in
set_option maxHeartbeats 200000000 in
/-- gazetteersame.MarkMessage -/
theorem mark_any (i0 i2 i9 : Int) (s1 s3 s4 s5 s6 s7 s8 : Bool) (a1 a2 a3 a4 : Option Addr) (c1 c2 c3 c4 n : Nat) (ls : Ls) (w : World) (hA : Mg4 w n (.slice a1 ls.q.length c1) (.slice a2 ls.a.length c2) (.slice a3 ls.u.length c3) (.slice a4 ls.d.length c4) ls) (hn : n ≤ w.heap.size) (hl1 : ls.q.length ≤ 1048576) (hl2 : ls.a.length ≤ 1048576) (hl3 : ls.u.length ≤ 1048576) (hl4 : ls.d.length ≤ 1048576) :
    Calls Tryz.prog 12 #[.agg #[.int .i64 i0, .bool s1, .int .i64 i2, .bool s3, .bool s4, .bool s5, .bool s6, .bool s7, .bool s8, .int .i64 i9, .slice a1 ls.q.length c1, .slice a2 ls.a.length c2, .slice a3 ls.u.length c3, .slice a4 ls.d.length c4]] w fun e w' => e = .returned (.bool true) ∧ Fr4 w w' (.slice a1 ls.q.length c1) (.slice a2 ls.a.length c2) (.slice a3 ls.u.length c3) (.slice a4 ls.d.length c4) := by
  obtain ⟨wa, hwa⟩ : ∃ wa, w.alloc (.cells #[.int .i64 i0, .bool s1, .int .i64 i2, .bool s3, .bool s4, .bool s5, .bool s6, .bool s7, .bool s8, .int .i64 i9, .slice a1 ls.q.length c1, .slice a2 ls.a.length c2, .slice a3 ls.u.length c3, .slice a4 ls.d.length c4] 27) = wa := ⟨_, rfl⟩
  have hba : Bx wa w.heap.size #[.int .i64 i0, .bool s1, .int .i64 i2, .bool s3, .bool s4, .bool s5, .bool s6, .bool s7, .bool s8, .int .i64 i9, .slice a1 ls.q.length c1, .slice a2 ls.a.length c2, .slice a3 ls.u.length c3, .slice a4 ls.d.length c4] 27 := hwa ▸ World.alloc_heap_new w _
  have hga : w.grownBy wa none := hwa ▸ World.grownBy_alloc _ _ _
  have HA0 := hide' (hA.keep hga (fun q e => by cases e))
  have HFa : Hid (Fr4 w wa (.slice a1 ls.q.length c1) (.slice a2 ls.a.length c2) (.slice a3 ls.u.length c3) (.slice a4 ls.d.length c4)) := (Fr4.refl w _ _ _ _).step hga (fun q e => by cases e)
  have HBa := hide' hba
  have HAw := hide' hA
  have x10 : wa.cell? ⟨w.heap.size, 10, none⟩ = some (.slice a1 ls.q.length c1) := hba.cell rfl
  clear hba hga hA
  go_enter Tryz.func12, Tryz.ntmps12
  go_wp2_with fail
  clear hwa x10
  go_loopw [16] (fun i wr => ∃ k : Nat, i = .int .i64 (k : Int) ∧ k ≤ ls.q.length ∧ Hid (Fr4 w wr (.slice a1 ls.q.length c1) (.slice a2 ls.a.length c2) (.slice a3 ls.u.length c3) (.slice a4 ls.d.length c4)) ∧ Hid (Bx wr w.heap.size #[.int .i64 i0, .bool s1, .int .i64 i2, .bool s3, .bool s4, .bool s5, .bool s6, .bool s7, .bool s8, .int .i64 i9, .slice a1 ls.q.length c1, .slice a2 ls.a.length c2, .slice a3 ls.u.length c3, .slice a4 ls.d.length c4] 27) ∧ Hid (∃ xs, wr.ownsRow n 52 3 (.slice a1 ls.q.length c1) ls.q.length xs) ∧ Hid (wr.ownsRow n 55 5 (.slice a2 ls.a.length c2) ls.a.length (rcells ls.a) ∧ wr.ownsRow n 55 5 (.slice a3 ls.u.length c3) ls.u.length (rcells ls.u) ∧ wr.ownsRow n 55 5 (.slice a4 ls.d.length c4) ls.d.length (rcells ls.d))) (fun i _ => ls.q.length - (intOf i).toNat)
  case atStart => exact ⟨0, rfl, Nat.zero_le _, HFa, HBa, ⟨_, HA0.out.q⟩, ⟨HA0.out.a, HA0.out.u, HA0.out.d⟩⟩
  case round =>
    clear HFa HBa HA0
    obtain ⟨k, rfl, hk, HF, HB, HQ, HRs⟩ := hrel
    have x10 : wr.cell? ⟨w.heap.size, 10, none⟩ = some (.slice a1 ls.q.length c1) := HB.out.cell rfl
    by_cases hlt : k < ls.q.length
    · obtain ⟨xs, hq⟩ := HQ.out
      obtain ⟨g, rfl⟩ := own_one hq (by omega)
      obtain ⟨u0, e0, f0⟩ := own_cell hq (k * 3) (by omega)
      obtain ⟨u1, e1, f1⟩ := own_cell hq (k * 3 + 1) (by omega)
      obtain ⟨u2, e2, f2⟩ := own_cell hq (k * 3 + 2) (by omega)
      have HQ2 := hide' hq
      have hgl := (HAw.out.q.lt g rfl).2
      have HG3 : Hid (∀ x0 x1 x2 : Value, wr.grownBy (((wr.setCell ⟨g, k * 3, none⟩ x0).setCell ⟨g, k * 3 + 1, none⟩ x1).setCell ⟨g, k * 3 + 2, none⟩ x2) (some g)) := fun x0 x1 x2 => grown_trans (grown_trans (grown_set _ _ _ _) (grown_set _ _ _ _)) (grown_set _ _ _ _)
      clear hq HQ
      go_wp2_with fail
      go_roundw
      case rel => exact ⟨k + 1, by go_num, by omega, HF.out.step (HG3.out _ _ _) (fun q e _ => by injection e with e; subst e; exact .inl rfl), HB.out.grown (HG3.out _ _ _) (fun e => by injection e; omega), ⟨_, own_put (own_put (own_put HQ2.out (k * 3) (by omega) _) (k * 3 + 1) (by omega) _) (k * 3 + 2) (by omega) _⟩, ⟨HRs.out.1.kept (HG3.out _ _ _) (own_ne HAw.out.qa.symm), HRs.out.2.1.kept (HG3.out _ _ _) (own_ne HAw.out.qu.symm), HRs.out.2.2.kept (HG3.out _ _ _) (own_ne HAw.out.qd.symm)⟩⟩
      case measure => simp [intOf]; omega
    · have x11 : wr.cell? ⟨w.heap.size, 11, none⟩ = some (.slice a2 ls.a.length c2) := HB.out.cell rfl
      have x12 : wr.cell? ⟨w.heap.size, 12, none⟩ = some (.slice a3 ls.u.length c3) := HB.out.cell rfl
      have x13 : wr.cell? ⟨w.heap.size, 13, none⟩ = some (.slice a4 ls.d.length c4) := HB.out.cell rfl
      obtain ⟨wl, hwl⟩ : ∃ wl, wr.alloc (.cells #[.slice a2 ls.a.length c2, .slice a3 ls.u.length c3, .slice a4 ls.d.length c4] 25) = wl := ⟨_, rfl⟩
      obtain ⟨L, hL⟩ : ∃ L, wr.heap.size = L := ⟨_, rfl⟩
      have HM0 : Hid (M3 w wl #[.int .i64 i0, .bool s1, .int .i64 i2, .bool s3, .bool s4, .bool s5, .bool s6, .bool s7, .bool s8, .int .i64 i9, .slice a1 ls.q.length c1, .slice a2 ls.a.length c2, .slice a3 ls.u.length c3, .slice a4 ls.d.length c4] L n (.slice a1 ls.q.length c1) (.slice a2 ls.a.length c2) (.slice a3 ls.u.length c3) (.slice a4 ls.d.length c4) (.slice a2 ls.a.length c2) (.slice a3 ls.u.length c3) (.slice a4 ls.d.length c4) ls.a ls.u ls.d) := by
        have hg : wr.grownBy wl none := hwl ▸ World.grownBy_alloc _ _ _
        have h1 := HB.out.lt
        have hx : ∀ (v : Value) (m e s : Nat) (ys : List Value), w.ownsRow n e s v m ys → ∀ x, v.ownBlock = some x → (v.ownBlock = some x ∨ w.heap.size < x) ∧ x ≠ w.heap.size ∧ x ≠ L := fun v m e s ys h x hx => by
          have := h.lt x hx
          exact ⟨.inl hx, by omega, by omega⟩
        have hk2 : ∀ (v : Value) (m : Nat) (ys : List Value), wr.ownsRow n 55 5 v m ys → wl.ownsRow n 55 5 v m ys := fun v m ys h => own_keep h hg (fun q e => by cases e)
        have hlb : Bx wl L #[.slice a2 ls.a.length c2, .slice a3 ls.u.length c3, .slice a4 ls.d.length c4] 25 := by rw [← hL, ← hwl]; exact World.alloc_heap_new wr _
        exact ⟨HF.out.step hg (fun q e => by cases e), HB.out.grown hg (by simp), hlb, hk2 _ _ _ HRs.out.1, hk2 _ _ _ HRs.out.2.1, hk2 _ _ _ HRs.out.2.2, HAw.out.au, HAw.out.ad, HAw.out.ud, hx _ _ _ _ _ HAw.out.a, hx _ _ _ _ _ HAw.out.u, hx _ _ _ _ _ HAw.out.d, by omega, hn⟩
      go_wp2_with fail
      clear hwl hL x10 x11 x12 x13 HF HB HQ HRs
      go_loopw [37] (fun i wr => ∃ j : Nat, i = .int .i64 (j : Int) ∧ j ≤ 3 ∧ Hid (PMm w wr #[.int .i64 i0, .bool s1, .int .i64 i2, .bool s3, .bool s4, .bool s5, .bool s6, .bool s7, .bool s8, .int .i64 i9, .slice a1 ls.q.length c1, .slice a2 ls.a.length c2, .slice a3 ls.u.length c3, .slice a4 ls.d.length c4] L n (.slice a1 ls.q.length c1) (.slice a2 ls.a.length c2) (.slice a3 ls.u.length c3) (.slice a4 ls.d.length c4) ls j)) (fun i _ => 3 - (intOf i).toNat)
      case atStart => exact ⟨0, rfl, Nat.zero_le _, HM0⟩
      case round =>
        clear HM0
        obtain ⟨j, rfl, hj, HM⟩ := hrel
        by_cases hj3 : j < 3
        · have hjc : j = 0 ∨ j = 1 ∨ j = 2 := by omega
          rcases hjc with rfl | rfl | rfl
          · have HM2 : Hid (M3 w wr #[.int .i64 i0, .bool s1, .int .i64 i2, .bool s3, .bool s4, .bool s5, .bool s6, .bool s7, .bool s8, .int .i64 i9, .slice a1 ls.q.length c1, .slice a2 ls.a.length c2, .slice a3 ls.u.length c3, .slice a4 ls.d.length c4] L n (.slice a1 ls.q.length c1) (.slice a2 ls.a.length c2) (.slice a3 ls.u.length c3) (.slice a4 ls.d.length c4) (.slice a2 ls.a.length c2) (.slice a3 ls.u.length c3) (.slice a4 ls.d.length c4) (mkL 0 0 ls.a) ls.u ls.d) := by rw [mkL_zero]; exact HM.out
            clear HM
            have l0 : wr.cell? ⟨L, 0, none⟩ = some (.slice a2 ls.a.length c2) := HM2.out.lb.cell rfl
            go_wp2_with fail
            clear l0
            go_loopw [45] (fun i wr => ∃ k : Nat, i = .int .i64 (k : Int) ∧ k ≤ ls.a.length ∧ Hid (M3 w wr #[.int .i64 i0, .bool s1, .int .i64 i2, .bool s3, .bool s4, .bool s5, .bool s6, .bool s7, .bool s8, .int .i64 i9, .slice a1 ls.q.length c1, .slice a2 ls.a.length c2, .slice a3 ls.u.length c3, .slice a4 ls.d.length c4] L n (.slice a1 ls.q.length c1) (.slice a2 ls.a.length c2) (.slice a3 ls.u.length c3) (.slice a4 ls.d.length c4) (.slice a2 ls.a.length c2) (.slice a3 ls.u.length c3) (.slice a4 ls.d.length c4) (mkL 0 k ls.a) ls.u ls.d)) (fun i _ => ls.a.length - (intOf i).toNat)
            case atStart => exact ⟨0, rfl, Nat.zero_le _, HM2⟩
            case round =>
              clear HM2
              obtain ⟨k, rfl, hk, HM⟩ := hrel
              have l0 : wr.cell? ⟨L, 0, none⟩ = some (.slice a2 ls.a.length c2) := HM.out.lb.cell rfl
              by_cases hlt : k < ls.a.length
              · have hlen := mkL_len 0 k ls.a (by omega)
                have hr : wr.ownsRow n 55 5 (.slice a2 ls.a.length c2) ls.a.length (rcells (mkL 0 k ls.a)) := by have := HM.out.r0; rw [hlen] at this; exact this
                obtain ⟨g, rfl⟩ := own_one hr (by omega)
                obtain ⟨u0, e0, f0⟩ := own_cell hr (k * 5) (by omega)
                obtain ⟨u1, e1, f1⟩ := own_cell hr (k * 5 + 1) (by omega)
                obtain ⟨u2, e2, f2⟩ := own_cell hr (k * 5 + 2) (by omega)
                obtain ⟨u3, e3, f3⟩ := own_cell hr (k * 5 + 3) (by omega)
                obtain ⟨u4, e4, f4⟩ := own_cell hr (k * 5 + 4) (by omega)
                have HMn := hide' (HM.out.put0 k hlen hlt (mkR 0 k))
                rw [mkL_succ 0 k ls.a hlt] at HMn
                clear hr hlen
                go_wp2_with fail
                refine ⟨⟨k + 1, by go_num, by omega, HMn⟩, ?_⟩
                simp [intOf]; omega
              · obtain rfl : k = ls.a.length := by omega
                go_wp2_with fail
                refine ⟨⟨1, by go_num, by omega, HM⟩, ?_⟩
                simp [intOf]
          · have HM2 : Hid (M3 w wr #[.int .i64 i0, .bool s1, .int .i64 i2, .bool s3, .bool s4, .bool s5, .bool s6, .bool s7, .bool s8, .int .i64 i9, .slice a1 ls.q.length c1, .slice a2 ls.a.length c2, .slice a3 ls.u.length c3, .slice a4 ls.d.length c4] L n (.slice a1 ls.q.length c1) (.slice a2 ls.a.length c2) (.slice a3 ls.u.length c3) (.slice a4 ls.d.length c4) (.slice a2 ls.a.length c2) (.slice a3 ls.u.length c3) (.slice a4 ls.d.length c4) (mkL 0 ls.a.length ls.a) (mkL 1 0 ls.u) ls.d) := by rw [mkL_zero]; exact HM.out
            clear HM
            have l1 : wr.cell? ⟨L, 1, none⟩ = some (.slice a3 ls.u.length c3) := HM2.out.lb.cell rfl
            go_wp2_with fail
            clear l1
            go_loopw [45] (fun i wr => ∃ k : Nat, i = .int .i64 (k : Int) ∧ k ≤ ls.u.length ∧ Hid (M3 w wr #[.int .i64 i0, .bool s1, .int .i64 i2, .bool s3, .bool s4, .bool s5, .bool s6, .bool s7, .bool s8, .int .i64 i9, .slice a1 ls.q.length c1, .slice a2 ls.a.length c2, .slice a3 ls.u.length c3, .slice a4 ls.d.length c4] L n (.slice a1 ls.q.length c1) (.slice a2 ls.a.length c2) (.slice a3 ls.u.length c3) (.slice a4 ls.d.length c4) (.slice a2 ls.a.length c2) (.slice a3 ls.u.length c3) (.slice a4 ls.d.length c4) (mkL 0 ls.a.length ls.a) (mkL 1 k ls.u) ls.d)) (fun i _ => ls.u.length - (intOf i).toNat)
            case atStart => exact ⟨0, rfl, Nat.zero_le _, HM2⟩
            case round =>
              clear HM2
              obtain ⟨k, rfl, hk, HM⟩ := hrel
              have l1 : wr.cell? ⟨L, 1, none⟩ = some (.slice a3 ls.u.length c3) := HM.out.lb.cell rfl
              by_cases hlt : k < ls.u.length
              · have hlen := mkL_len 1 k ls.u (by omega)
                have hr : wr.ownsRow n 55 5 (.slice a3 ls.u.length c3) ls.u.length (rcells (mkL 1 k ls.u)) := by have := HM.out.r1; rw [hlen] at this; exact this
                obtain ⟨g, rfl⟩ := own_one hr (by omega)
                obtain ⟨u0, e0, f0⟩ := own_cell hr (k * 5) (by omega)
                obtain ⟨u1, e1, f1⟩ := own_cell hr (k * 5 + 1) (by omega)
                obtain ⟨u2, e2, f2⟩ := own_cell hr (k * 5 + 2) (by omega)
                obtain ⟨u3, e3, f3⟩ := own_cell hr (k * 5 + 3) (by omega)
                obtain ⟨u4, e4, f4⟩ := own_cell hr (k * 5 + 4) (by omega)
                have HMn := hide' (HM.out.put1 k hlen hlt (mkR 1 k))
                rw [mkL_succ 1 k ls.u hlt] at HMn
                clear hr hlen
                go_wp2_with fail
                refine ⟨⟨k + 1, by go_num, by omega, HMn⟩, ?_⟩
                simp [intOf]; omega
              · obtain rfl : k = ls.u.length := by omega
                go_wp2_with fail
                refine ⟨⟨2, by go_num, by omega, HM⟩, ?_⟩
                simp [intOf]
          · have HM2 : Hid (M3 w wr #[.int .i64 i0, .bool s1, .int .i64 i2, .bool s3, .bool s4, .bool s5, .bool s6, .bool s7, .bool s8, .int .i64 i9, .slice a1 ls.q.length c1, .slice a2 ls.a.length c2, .slice a3 ls.u.length c3, .slice a4 ls.d.length c4] L n (.slice a1 ls.q.length c1) (.slice a2 ls.a.length c2) (.slice a3 ls.u.length c3) (.slice a4 ls.d.length c4) (.slice a2 ls.a.length c2) (.slice a3 ls.u.length c3) (.slice a4 ls.d.length c4) (mkL 0 ls.a.length ls.a) (mkL 1 ls.u.length ls.u) (mkL 2 0 ls.d)) := by rw [mkL_zero]; exact HM.out
            clear HM
            have l2 : wr.cell? ⟨L, 2, none⟩ = some (.slice a4 ls.d.length c4) := HM2.out.lb.cell rfl
            go_wp2_with fail
            clear l2
            go_loopw [45] (fun i wr => ∃ k : Nat, i = .int .i64 (k : Int) ∧ k ≤ ls.d.length ∧ Hid (M3 w wr #[.int .i64 i0, .bool s1, .int .i64 i2, .bool s3, .bool s4, .bool s5, .bool s6, .bool s7, .bool s8, .int .i64 i9, .slice a1 ls.q.length c1, .slice a2 ls.a.length c2, .slice a3 ls.u.length c3, .slice a4 ls.d.length c4] L n (.slice a1 ls.q.length c1) (.slice a2 ls.a.length c2) (.slice a3 ls.u.length c3) (.slice a4 ls.d.length c4) (.slice a2 ls.a.length c2) (.slice a3 ls.u.length c3) (.slice a4 ls.d.length c4) (mkL 0 ls.a.length ls.a) (mkL 1 ls.u.length ls.u) (mkL 2 k ls.d))) (fun i _ => ls.d.length - (intOf i).toNat)
            case atStart => exact ⟨0, rfl, Nat.zero_le _, HM2⟩
            case round =>
              clear HM2
              obtain ⟨k, rfl, hk, HM⟩ := hrel
              have l2 : wr.cell? ⟨L, 2, none⟩ = some (.slice a4 ls.d.length c4) := HM.out.lb.cell rfl
              by_cases hlt : k < ls.d.length
              · have hlen := mkL_len 2 k ls.d (by omega)
                have hr : wr.ownsRow n 55 5 (.slice a4 ls.d.length c4) ls.d.length (rcells (mkL 2 k ls.d)) := by have := HM.out.r2; rw [hlen] at this; exact this
                obtain ⟨g, rfl⟩ := own_one hr (by omega)
                obtain ⟨u0, e0, f0⟩ := own_cell hr (k * 5) (by omega)
                obtain ⟨u1, e1, f1⟩ := own_cell hr (k * 5 + 1) (by omega)
                obtain ⟨u2, e2, f2⟩ := own_cell hr (k * 5 + 2) (by omega)
                obtain ⟨u3, e3, f3⟩ := own_cell hr (k * 5 + 3) (by omega)
                obtain ⟨u4, e4, f4⟩ := own_cell hr (k * 5 + 4) (by omega)
                have HMn := hide' (HM.out.put2 k hlen hlt (mkR 2 k))
                rw [mkL_succ 2 k ls.d hlt] at HMn
                clear hr hlen
                go_wp2_with fail
                refine ⟨⟨k + 1, by go_num, by omega, HMn⟩, ?_⟩
                simp [intOf]; omega
              · obtain rfl : k = ls.d.length := by omega
                go_wp2_with fail
                refine ⟨⟨3, by go_num, by omega, HM⟩, ?_⟩
                simp [intOf]
        · obtain rfl : j = 3 := by omega
          have HMf : Hid (M3 w wr #[.int .i64 i0, .bool s1, .int .i64 i2, .bool s3, .bool s4, .bool s5, .bool s6, .bool s7, .bool s8, .int .i64 i9, .slice a1 ls.q.length c1, .slice a2 ls.a.length c2, .slice a3 ls.u.length c3, .slice a4 ls.d.length c4] L n (.slice a1 ls.q.length c1) (.slice a2 ls.a.length c2) (.slice a3 ls.u.length c3) (.slice a4 ls.d.length c4) (.slice a2 ls.a.length c2) (.slice a3 ls.u.length c3) (.slice a4 ls.d.length c4) (mkL 0 ls.a.length ls.a) (mkL 1 ls.u.length ls.u) (mkL 2 ls.d.length ls.d)) := HM.out
          clear HM
          have HG0 : Hid (PGm w wr #[.int .i64 i0, .bool s1, .int .i64 i2, .bool s3, .bool s4, .bool s5, .bool s6, .bool s7, .bool s8, .int .i64 i9, .slice a1 ls.q.length c1, .slice a2 ls.a.length c2, .slice a3 ls.u.length c3, .slice a4 ls.d.length c4] L n (.slice a1 ls.q.length c1) (.slice a2 ls.a.length c2) (.slice a3 ls.u.length c3) (.slice a4 ls.d.length c4) ls 0) := ⟨_, _, _, HMf.out⟩
          clear HMf
          obtain ⟨wr1, hwr1⟩ : ∃ wr1, wr = wr1 := ⟨_, rfl⟩
          rw [hwr1] at HG0 ⊢
          clear hwr1
          go_wp2_with fail
          go_loopw [64] (fun i wr => ∃ j : Nat, i = .int .i64 (j : Int) ∧ j ≤ 3 ∧ Hid (PGm w wr #[.int .i64 i0, .bool s1, .int .i64 i2, .bool s3, .bool s4, .bool s5, .bool s6, .bool s7, .bool s8, .int .i64 i9, .slice a1 ls.q.length c1, .slice a2 ls.a.length c2, .slice a3 ls.u.length c3, .slice a4 ls.d.length c4] L n (.slice a1 ls.q.length c1) (.slice a2 ls.a.length c2) (.slice a3 ls.u.length c3) (.slice a4 ls.d.length c4) ls j)) (fun i _ => 3 - (intOf i).toNat)
          case atStart => exact ⟨0, rfl, Nat.zero_le _, HG0⟩
          case round =>
            clear HG0
            obtain ⟨j, rfl, hj, HG⟩ := hrel
            by_cases hj3 : j < 3
            · have hjc : j = 0 ∨ j = 1 ∨ j = 2 := by omega
              rcases hjc with rfl | rfl | rfl
              · obtain ⟨v0, v1, v2, hM⟩ := HG.out
                have HM2 : Hid (M3 w wr #[.int .i64 i0, .bool s1, .int .i64 i2, .bool s3, .bool s4, .bool s5, .bool s6, .bool s7, .bool s8, .int .i64 i9, .slice a1 ls.q.length c1, .slice a2 ls.a.length c2, .slice a3 ls.u.length c3, .slice a4 ls.d.length c4] L n (.slice a1 ls.q.length c1) (.slice a2 ls.a.length c2) (.slice a3 ls.u.length c3) (.slice a4 ls.d.length c4) v0 v1 v2 (mkL 0 ls.a.length ls.a ++ grL 0 0) (mkL 1 ls.u.length ls.u) (mkL 2 ls.d.length ls.d)) := by
                  unfold Hid
                  rw [show mkL 0 ls.a.length ls.a ++ grL 0 0 = mkL 0 ls.a.length ls.a from by simp [grL]]
                  exact hM
                clear hM HG
                go_wp2_with fail
                go_loopw [8] (fun i wr => ∃ (k : Nat) (vv : Value), i = .int .i64 (k : Int) ∧ k ≤ 9 ∧ Hid (M3 w wr #[.int .i64 i0, .bool s1, .int .i64 i2, .bool s3, .bool s4, .bool s5, .bool s6, .bool s7, .bool s8, .int .i64 i9, .slice a1 ls.q.length c1, .slice a2 ls.a.length c2, .slice a3 ls.u.length c3, .slice a4 ls.d.length c4] L n (.slice a1 ls.q.length c1) (.slice a2 ls.a.length c2) (.slice a3 ls.u.length c3) (.slice a4 ls.d.length c4) vv v1 v2 (mkL 0 ls.a.length ls.a ++ grL 0 k) (mkL 1 ls.u.length ls.u) (mkL 2 ls.d.length ls.d))) (fun i _ => 9 - (intOf i).toNat)
                case atStart => exact ⟨0, _, rfl, Nat.zero_le _, HM2⟩
                case round =>
                  clear HM2
                  obtain ⟨k, vv, rfl, hk, HM⟩ := hrel
                  by_cases hlt : k < 9
                  · obtain ⟨pv, cv, rfl, _⟩ := own_shape HM.out.r0
                    obtain ⟨m, hm⟩ : ∃ m, (mkL 0 ls.a.length ls.a ++ grL 0 k).length = m := ⟨_, rfl⟩
                    have hml : m ≤ 1048585 := by rw [← hm, List.length_append, mkL_len _ _ _ (Nat.le_refl _)]; simp [grL]; omega
                    have HMh := hide' hm
                    have HOw : Hid (wr.ownsRow n 55 5 (.slice pv m cv) m (rcells (mkL 0 ls.a.length ls.a ++ grL 0 k))) := by have := HM.out.r0; rw [hm] at this; exact this
                    have l0 : wr.cell? ⟨L, 0, none⟩ = some (.slice pv m cv) := by have := HM.out.lb.cell (j := 0) rfl; rw [hm] at this; exact this
                    rw [hm] at HM
                    clear hm
                    obtain ⟨i0', hi, hz0, hz1, hz2⟩ := info_parts infoR0
                    have hsz : n ≤ wr.heap.size := by have := HM.out.sz; have := HM.out.mb.lt; omega
                    go_wp2_with (at_builtin; refine wpList_append_apart _ rfl _ _ 25 rfl n 55 i0' (.agg #[.string ⟨#[]⟩, .int .i64 0, .int .i64 0, .int .i64 0, .string ⟨#[]⟩]) 5 56 Tryz.underlying25 hi hz0 hz1 hz2 rfl (by decide) _ _ _ rfl (HOw.out.alloc _) ⟨wr.heap.size, 0, none⟩ 1 1 [.string ⟨#[103, 114, 111, 119, 110]⟩, .int .i64 (-500 - (k : Int)), .int .i64 0, .int .i64 0, .string ⟨#[]⟩] rfl rfl (row_newR wr #[.string ⟨#[103, 114, 111, 119, 110]⟩, .int .i64 (-500 - (k : Int)), .int .i64 0, .int .i64 0, .string ⟨#[]⟩] 55) (by simp [Value.oneCell']) (by unfold maxLen; omega) (by omega) (by simp; omega) ?_; intro v6 w6 hown6 hgrow6 hpl6; obtain ⟨p6, c6, rfl, _⟩ := own_shape hown6; have HO6 := hide' hown6; have HG6 := hide' hgrow6; have HPl := hide' hpl6; have hb6 := (HM.out.same ((Below.refl _ wr).alloc (Nat.le_refl _) (.cells #[.string ⟨#[103, 114, 111, 119, 110]⟩, .int .i64 (-500 - (k : Int)), .int .i64 0, .int .i64 0, .string ⟨#[]⟩] 55))).lb.grown hgrow6 (fun e => (HM.out.o0 _ e).2.2 rfl); have cc6 := hb6.cell (j := 0) rfl; have ff6 := hb6.free 0; clear hown6 hgrow6 hpl6 hb6)
                    have HMa := HM.out.same ((Below.refl _ wr).alloc (Nat.le_refl _) (.cells #[.string ⟨#[103, 114, 111, 119, 110]⟩, .int .i64 (-500 - (k : Int)), .int .i64 0, .int .i64 0, .string ⟨#[]⟩] 55))
                    have HMg := HMa.grow0 (x := grR 0 k) (by rw [HMh.out]; exact HO6.out) HG6.out HPl.out
                    rw [List.append_assoc, ← grL_succ] at HMg
                    refine ⟨⟨_, _, _, _, _, _, _, _, _, _, _, _, _, _, _, _, _, _, _, _, ⟨k + 1, (.slice p6 (m + 1) c6), ?_, by omega, hide' HMg⟩, rfl⟩, ?_⟩
                    · go_num
                    · simp [intOf]; omega
                  · obtain rfl : k = 9 := by omega
                    go_wp2_with fail
                    refine ⟨⟨1, by go_num, by omega, ⟨_, _, _, HM.out⟩⟩, ?_⟩
                    simp [intOf]
              · obtain ⟨v0, v1, v2, hM⟩ := HG.out
                have HM2 : Hid (M3 w wr #[.int .i64 i0, .bool s1, .int .i64 i2, .bool s3, .bool s4, .bool s5, .bool s6, .bool s7, .bool s8, .int .i64 i9, .slice a1 ls.q.length c1, .slice a2 ls.a.length c2, .slice a3 ls.u.length c3, .slice a4 ls.d.length c4] L n (.slice a1 ls.q.length c1) (.slice a2 ls.a.length c2) (.slice a3 ls.u.length c3) (.slice a4 ls.d.length c4) v0 v1 v2 (mkL 0 ls.a.length ls.a ++ grL 0 9) (mkL 1 ls.u.length ls.u ++ grL 1 0) (mkL 2 ls.d.length ls.d)) := by
                  unfold Hid
                  rw [show mkL 1 ls.u.length ls.u ++ grL 1 0 = mkL 1 ls.u.length ls.u from by simp [grL]]
                  exact hM
                clear hM HG
                go_wp2_with fail
                go_loopw [8] (fun i wr => ∃ (k : Nat) (vv : Value), i = .int .i64 (k : Int) ∧ k ≤ 9 ∧ Hid (M3 w wr #[.int .i64 i0, .bool s1, .int .i64 i2, .bool s3, .bool s4, .bool s5, .bool s6, .bool s7, .bool s8, .int .i64 i9, .slice a1 ls.q.length c1, .slice a2 ls.a.length c2, .slice a3 ls.u.length c3, .slice a4 ls.d.length c4] L n (.slice a1 ls.q.length c1) (.slice a2 ls.a.length c2) (.slice a3 ls.u.length c3) (.slice a4 ls.d.length c4) v0 vv v2 (mkL 0 ls.a.length ls.a ++ grL 0 9) (mkL 1 ls.u.length ls.u ++ grL 1 k) (mkL 2 ls.d.length ls.d))) (fun i _ => 9 - (intOf i).toNat)
                case atStart => exact ⟨0, _, rfl, Nat.zero_le _, HM2⟩
                case round =>
                  clear HM2
                  obtain ⟨k, vv, rfl, hk, HM⟩ := hrel
                  by_cases hlt : k < 9
                  · obtain ⟨pv, cv, rfl, _⟩ := own_shape HM.out.r1
                    obtain ⟨m, hm⟩ : ∃ m, (mkL 1 ls.u.length ls.u ++ grL 1 k).length = m := ⟨_, rfl⟩
                    have hml : m ≤ 1048585 := by rw [← hm, List.length_append, mkL_len _ _ _ (Nat.le_refl _)]; simp [grL]; omega
                    have HMh := hide' hm
                    have HOw : Hid (wr.ownsRow n 55 5 (.slice pv m cv) m (rcells (mkL 1 ls.u.length ls.u ++ grL 1 k))) := by have := HM.out.r1; rw [hm] at this; exact this
                    have l1 : wr.cell? ⟨L, 1, none⟩ = some (.slice pv m cv) := by have := HM.out.lb.cell (j := 1) rfl; rw [hm] at this; exact this
                    rw [hm] at HM
                    clear hm
                    obtain ⟨i0', hi, hz0, hz1, hz2⟩ := info_parts infoR0
                    have hsz : n ≤ wr.heap.size := by have := HM.out.sz; have := HM.out.mb.lt; omega
                    go_wp2_with (at_builtin; refine wpList_append_apart _ rfl _ _ 25 rfl n 55 i0' (.agg #[.string ⟨#[]⟩, .int .i64 0, .int .i64 0, .int .i64 0, .string ⟨#[]⟩]) 5 56 Tryz.underlying25 hi hz0 hz1 hz2 rfl (by decide) _ _ _ rfl (HOw.out.alloc _) ⟨wr.heap.size, 0, none⟩ 1 1 [.string ⟨#[103, 114, 111, 119, 110]⟩, .int .i64 (-1500 - (k : Int)), .int .i64 0, .int .i64 0, .string ⟨#[]⟩] rfl rfl (row_newR wr #[.string ⟨#[103, 114, 111, 119, 110]⟩, .int .i64 (-1500 - (k : Int)), .int .i64 0, .int .i64 0, .string ⟨#[]⟩] 55) (by simp [Value.oneCell']) (by unfold maxLen; omega) (by omega) (by simp; omega) ?_; intro v6 w6 hown6 hgrow6 hpl6; obtain ⟨p6, c6, rfl, _⟩ := own_shape hown6; have HO6 := hide' hown6; have HG6 := hide' hgrow6; have HPl := hide' hpl6; have hb6 := (HM.out.same ((Below.refl _ wr).alloc (Nat.le_refl _) (.cells #[.string ⟨#[103, 114, 111, 119, 110]⟩, .int .i64 (-1500 - (k : Int)), .int .i64 0, .int .i64 0, .string ⟨#[]⟩] 55))).lb.grown hgrow6 (fun e => (HM.out.o1 _ e).2.2 rfl); have cc6 := hb6.cell (j := 1) rfl; have ff6 := hb6.free 1; clear hown6 hgrow6 hpl6 hb6)
                    have HMa := HM.out.same ((Below.refl _ wr).alloc (Nat.le_refl _) (.cells #[.string ⟨#[103, 114, 111, 119, 110]⟩, .int .i64 (-1500 - (k : Int)), .int .i64 0, .int .i64 0, .string ⟨#[]⟩] 55))
                    have HMg := HMa.grow1 (x := grR 1 k) (by rw [HMh.out]; exact HO6.out) HG6.out HPl.out
                    rw [List.append_assoc, ← grL_succ] at HMg
                    refine ⟨⟨_, _, _, _, _, _, _, _, _, _, _, _, _, _, _, _, _, _, _, _, ⟨k + 1, (.slice p6 (m + 1) c6), ?_, by omega, hide' HMg⟩, rfl⟩, ?_⟩
                    · go_num
                    · simp [intOf]; omega
                  · obtain rfl : k = 9 := by omega
                    go_wp2_with fail
                    refine ⟨⟨2, by go_num, by omega, ⟨_, _, _, HM.out⟩⟩, ?_⟩
                    simp [intOf]
              · obtain ⟨v0, v1, v2, hM⟩ := HG.out
                have HM2 : Hid (M3 w wr #[.int .i64 i0, .bool s1, .int .i64 i2, .bool s3, .bool s4, .bool s5, .bool s6, .bool s7, .bool s8, .int .i64 i9, .slice a1 ls.q.length c1, .slice a2 ls.a.length c2, .slice a3 ls.u.length c3, .slice a4 ls.d.length c4] L n (.slice a1 ls.q.length c1) (.slice a2 ls.a.length c2) (.slice a3 ls.u.length c3) (.slice a4 ls.d.length c4) v0 v1 v2 (mkL 0 ls.a.length ls.a ++ grL 0 9) (mkL 1 ls.u.length ls.u ++ grL 1 9) (mkL 2 ls.d.length ls.d ++ grL 2 0)) := by
                  unfold Hid
                  rw [show mkL 2 ls.d.length ls.d ++ grL 2 0 = mkL 2 ls.d.length ls.d from by simp [grL]]
                  exact hM
                clear hM HG
                go_wp2_with fail
                go_loopw [8] (fun i wr => ∃ (k : Nat) (vv : Value), i = .int .i64 (k : Int) ∧ k ≤ 9 ∧ Hid (M3 w wr #[.int .i64 i0, .bool s1, .int .i64 i2, .bool s3, .bool s4, .bool s5, .bool s6, .bool s7, .bool s8, .int .i64 i9, .slice a1 ls.q.length c1, .slice a2 ls.a.length c2, .slice a3 ls.u.length c3, .slice a4 ls.d.length c4] L n (.slice a1 ls.q.length c1) (.slice a2 ls.a.length c2) (.slice a3 ls.u.length c3) (.slice a4 ls.d.length c4) v0 v1 vv (mkL 0 ls.a.length ls.a ++ grL 0 9) (mkL 1 ls.u.length ls.u ++ grL 1 9) (mkL 2 ls.d.length ls.d ++ grL 2 k))) (fun i _ => 9 - (intOf i).toNat)
                case atStart => exact ⟨0, _, rfl, Nat.zero_le _, HM2⟩
                case round =>
                  clear HM2
                  obtain ⟨k, vv, rfl, hk, HM⟩ := hrel
                  by_cases hlt : k < 9
                  · obtain ⟨pv, cv, rfl, _⟩ := own_shape HM.out.r2
                    obtain ⟨m, hm⟩ : ∃ m, (mkL 2 ls.d.length ls.d ++ grL 2 k).length = m := ⟨_, rfl⟩
                    have hml : m ≤ 1048585 := by rw [← hm, List.length_append, mkL_len _ _ _ (Nat.le_refl _)]; simp [grL]; omega
                    have HMh := hide' hm
                    have HOw : Hid (wr.ownsRow n 55 5 (.slice pv m cv) m (rcells (mkL 2 ls.d.length ls.d ++ grL 2 k))) := by have := HM.out.r2; rw [hm] at this; exact this
                    have l2 : wr.cell? ⟨L, 2, none⟩ = some (.slice pv m cv) := by have := HM.out.lb.cell (j := 2) rfl; rw [hm] at this; exact this
                    rw [hm] at HM
                    clear hm
                    obtain ⟨i0', hi, hz0, hz1, hz2⟩ := info_parts infoR0
                    have hsz : n ≤ wr.heap.size := by have := HM.out.sz; have := HM.out.mb.lt; omega
                    go_wp2_with (at_builtin; refine wpList_append_apart _ rfl _ _ 25 rfl n 55 i0' (.agg #[.string ⟨#[]⟩, .int .i64 0, .int .i64 0, .int .i64 0, .string ⟨#[]⟩]) 5 56 Tryz.underlying25 hi hz0 hz1 hz2 rfl (by decide) _ _ _ rfl (HOw.out.alloc _) ⟨wr.heap.size, 0, none⟩ 1 1 [.string ⟨#[103, 114, 111, 119, 110]⟩, .int .i64 (-2500 - (k : Int)), .int .i64 0, .int .i64 0, .string ⟨#[]⟩] rfl rfl (row_newR wr #[.string ⟨#[103, 114, 111, 119, 110]⟩, .int .i64 (-2500 - (k : Int)), .int .i64 0, .int .i64 0, .string ⟨#[]⟩] 55) (by simp [Value.oneCell']) (by unfold maxLen; omega) (by omega) (by simp; omega) ?_; intro v6 w6 hown6 hgrow6 hpl6; obtain ⟨p6, c6, rfl, _⟩ := own_shape hown6; have HO6 := hide' hown6; have HG6 := hide' hgrow6; have HPl := hide' hpl6; have hb6 := (HM.out.same ((Below.refl _ wr).alloc (Nat.le_refl _) (.cells #[.string ⟨#[103, 114, 111, 119, 110]⟩, .int .i64 (-2500 - (k : Int)), .int .i64 0, .int .i64 0, .string ⟨#[]⟩] 55))).lb.grown hgrow6 (fun e => (HM.out.o2 _ e).2.2 rfl); have cc6 := hb6.cell (j := 2) rfl; have ff6 := hb6.free 2; clear hown6 hgrow6 hpl6 hb6)
                    have HMa := HM.out.same ((Below.refl _ wr).alloc (Nat.le_refl _) (.cells #[.string ⟨#[103, 114, 111, 119, 110]⟩, .int .i64 (-2500 - (k : Int)), .int .i64 0, .int .i64 0, .string ⟨#[]⟩] 55))
                    have HMg := HMa.grow2 (x := grR 2 k) (by rw [HMh.out]; exact HO6.out) HG6.out HPl.out
                    rw [List.append_assoc, ← grL_succ] at HMg
                    refine ⟨⟨_, _, _, _, _, _, _, _, _, _, _, _, _, _, _, _, _, _, _, _, ⟨k + 1, (.slice p6 (m + 1) c6), ?_, by omega, hide' HMg⟩, rfl⟩, ?_⟩
                    · go_num
                    · simp [intOf]; omega
                  · obtain rfl : k = 9 := by omega
                    go_wp2_with fail
                    refine ⟨⟨3, by go_num, by omega, ⟨_, _, _, HM.out⟩⟩, ?_⟩
                    simp [intOf]
            · obtain rfl : j = 3 := by omega
              obtain ⟨v0, v1, v2, hM⟩ := HG.out
              have HM := hide' hM
              clear hM HG
              have x11 : wr.cell? ⟨w.heap.size, 11, none⟩ = some (.slice a2 ls.a.length c2) := HM.out.mb.cell rfl
              have x12 : wr.cell? ⟨w.heap.size, 12, none⟩ = some (.slice a3 ls.u.length c3) := HM.out.mb.cell rfl
              have x13 : wr.cell? ⟨w.heap.size, 13, none⟩ = some (.slice a4 ls.d.length c4) := HM.out.mb.cell rfl
              obtain ⟨wn, hwn⟩ : ∃ wn, wr.alloc (.cells #[.int .i64 (ls.a.length : Int), .int .i64 (ls.u.length : Int), .int .i64 (ls.d.length : Int)] 3) = wn := ⟨_, rfl⟩
              obtain ⟨Nb, hNb⟩ : ∃ Nb, wr.heap.size = Nb := ⟨_, rfl⟩
              have HMn : Hid (M3 w wn #[.int .i64 i0, .bool s1, .int .i64 i2, .bool s3, .bool s4, .bool s5, .bool s6, .bool s7, .bool s8, .int .i64 i9, .slice a1 ls.q.length c1, .slice a2 ls.a.length c2, .slice a3 ls.u.length c3, .slice a4 ls.d.length c4] L n (.slice a1 ls.q.length c1) (.slice a2 ls.a.length c2) (.slice a3 ls.u.length c3) (.slice a4 ls.d.length c4) v0 v1 v2 (mkL 0 ls.a.length ls.a ++ grL 0 9) (mkL 1 ls.u.length ls.u ++ grL 1 9) (mkL 2 ls.d.length ls.d ++ grL 2 9)) := hwn ▸ HM.out.same ((Below.refl _ wr).alloc (Nat.le_refl _) _)
              have HNn : Hid (Bx wn Nb #[.int .i64 (ls.a.length : Int), .int .i64 (ls.u.length : Int), .int .i64 (ls.d.length : Int)] 3) := by unfold Hid; rw [← hNb, ← hwn]; exact World.alloc_heap_new wr _
              clear HM
              go_wp2_with fail
              clear hwn hNb x11 x12 x13
              go_loopw [99] (fun i wr => ∃ j : Nat, i = .int .i64 (j : Int) ∧ j ≤ 3 ∧ Hid (M3 w wr #[.int .i64 i0, .bool s1, .int .i64 i2, .bool s3, .bool s4, .bool s5, .bool s6, .bool s7, .bool s8, .int .i64 i9, .slice a1 ls.q.length c1, .slice a2 ls.a.length c2, .slice a3 ls.u.length c3, .slice a4 ls.d.length c4] L n (.slice a1 ls.q.length c1) (.slice a2 ls.a.length c2) (.slice a3 ls.u.length c3) (.slice a4 ls.d.length c4) v0 v1 v2 (mkL 0 ls.a.length ls.a ++ grL 0 9) (mkL 1 ls.u.length ls.u ++ grL 1 9) (mkL 2 ls.d.length ls.d ++ grL 2 9)) ∧ Hid (Bx wr Nb #[.int .i64 (ls.a.length : Int), .int .i64 (ls.u.length : Int), .int .i64 (ls.d.length : Int)] 3)) (fun i _ => 3 - (intOf i).toNat)
              case atStart => exact ⟨0, rfl, Nat.zero_le _, HMn, HNn⟩
              case round =>
                clear HMn HNn
                obtain ⟨j, rfl, hj, HM, HN⟩ := hrel
                by_cases hj3 : j < 3
                · have hjc : j = 0 ∨ j = 1 ∨ j = 2 := by omega
                  rcases hjc with rfl | rfl | rfl
                  · obtain ⟨m, hm⟩ : ∃ m, (mkL 0 ls.a.length ls.a ++ grL 0 9).length = m := ⟨_, rfl⟩
                    have hml : m = ls.a.length + 9 := by rw [← hm, List.length_append, mkL_len _ _ _ (Nat.le_refl _)]; simp [grL]
                    obtain ⟨pv, cv, hpv, _⟩ := own_shape HM.out.r0
                    rw [hm] at hpv
                    have HPV := hide' hpv
                    have HMH := hide' hm
                    have HML := hide' hml
                    have l0 : wr.cell? ⟨L, 0, none⟩ = some (.slice pv m cv) := by rw [← hpv]; exact HM.out.lb.cell rfl
                    have hmb : m ≤ 1048585 := by omega
                    clear hm hml hpv
                    go_wp2_with fail
                    clear l0
                    go_loopw [107] (fun i wr => ∃ k : Nat, i = .int .i64 (k : Int) ∧ k ≤ m ∧ Hid (M3 w wr #[.int .i64 i0, .bool s1, .int .i64 i2, .bool s3, .bool s4, .bool s5, .bool s6, .bool s7, .bool s8, .int .i64 i9, .slice a1 ls.q.length c1, .slice a2 ls.a.length c2, .slice a3 ls.u.length c3, .slice a4 ls.d.length c4] L n (.slice a1 ls.q.length c1) (.slice a2 ls.a.length c2) (.slice a3 ls.u.length c3) (.slice a4 ls.d.length c4) v0 v1 v2 (mkL 0 ls.a.length ls.a ++ grL 0 9) (mkL 1 ls.u.length ls.u ++ grL 1 9) (mkL 2 ls.d.length ls.d ++ grL 2 9)) ∧ Hid (Bx wr Nb #[.int .i64 (ls.a.length : Int), .int .i64 (ls.u.length : Int), .int .i64 (ls.d.length : Int)] 3)) (fun i _ => m - (intOf i).toNat)
                    case atStart => exact ⟨0, rfl, Nat.zero_le _, HM, HN⟩
                    case round =>
                      clear HM HN
                      obtain ⟨k, rfl, hk, HM, HN⟩ := hrel
                      have l0 : wr.cell? ⟨L, 0, none⟩ = some (.slice pv m cv) := by rw [← HPV.out]; exact HM.out.lb.cell rfl
                      have n0 : ∀ o, (wr.alloc o).cell? ⟨Nb, 0, none⟩ = some (.int .i64 (ls.a.length : Int)) := fun o => (HN.out.grown (World.grownBy_alloc wr o none) (by simp)).cell rfl
                      have ll0 : ∀ o, (wr.alloc o).cell? ⟨L, 0, none⟩ = some (.slice pv m cv) := fun o => by rw [← HPV.out]; exact (HM.out.lb.grown (World.grownBy_alloc wr o none) (by simp)).cell rfl
                      have HSm : Hid (∀ o m2, M3 w ((wr.alloc o).drewN m2) #[.int .i64 i0, .bool s1, .int .i64 i2, .bool s3, .bool s4, .bool s5, .bool s6, .bool s7, .bool s8, .int .i64 i9, .slice a1 ls.q.length c1, .slice a2 ls.a.length c2, .slice a3 ls.u.length c3, .slice a4 ls.d.length c4] L n (.slice a1 ls.q.length c1) (.slice a2 ls.a.length c2) (.slice a3 ls.u.length c3) (.slice a4 ls.d.length c4) v0 v1 v2 (mkL 0 ls.a.length ls.a ++ grL 0 9) (mkL 1 ls.u.length ls.u ++ grL 1 9) (mkL 2 ls.d.length ls.d ++ grL 2 9) ∧ Bx ((wr.alloc o).drewN m2) Nb #[.int .i64 (ls.a.length : Int), .int .i64 (ls.u.length : Int), .int .i64 (ls.d.length : Int)] 3) := fun o m2 => ⟨(HM.out.same ((Below.refl _ wr).alloc (Nat.le_refl _) o)).same (below_quiet m2), HN.out.grown (grown_trans (World.grownBy_alloc wr o none) (grown_drewN _ m2 none)) (by simp)⟩
                      by_cases hlt : k < m
                      · have hr : wr.ownsRow n 55 5 (.slice pv m cv) m (rcells (mkL 0 ls.a.length ls.a ++ grL 0 9)) := by have := HM.out.r0; rw [HMH.out] at this; rw [← HPV.out]; exact this
                        obtain ⟨g, rfl⟩ := own_one hr (by omega)
                        have hat := Rcd_own hr HMH.out.symm k (by rw [HMH.out]; exact hlt)
                        by_cases hkl : k < ls.a.length
                        · rw [show (mkL 0 ls.a.length ls.a ++ grL 0 9)[k]'(by rw [HMH.out]; exact hlt) = mkR 0 k from by simp [mkL, List.getElem_append_left, hkl]] at hat
                          obtain ⟨t0, t1, t2, t3, t4⟩ := hat
                          simp only [mkR, mkT] at t0 t1 t2 t3 t4
                          have q0 := fun o => cell_al (o := o) t0
                          have q1 := fun o => cell_al (o := o) t1
                          have q2 := fun o => cell_al (o := o) t2
                          have q3 := fun o => cell_al (o := o) t3
                          have q4 := fun o => cell_al (o := o) t4
                          clear hr t0 t1 t2 t3 t4
                          go_wp2_with fail
                          go_quiet (fail)
                          go_wp2
                          refine ⟨⟨k + 1, by go_num, by omega, (HSm.out _ _).1, (HSm.out _ _).2⟩, ?_⟩
                          simp [intOf]; omega
                        · obtain ⟨kk, hkk⟩ : ∃ kk, k = ls.a.length + kk := ⟨k - ls.a.length, by omega⟩
                          rw [show (mkL 0 ls.a.length ls.a ++ grL 0 9)[k]'(by rw [HMH.out]; exact hlt) = grR 0 kk from by subst hkk; simp [mkL, grL, List.getElem_append_right]] at hat
                          obtain ⟨t0, t1, t2, t3, t4⟩ := hat
                          simp only [grR, grT] at t0 t1 t2 t3 t4
                          have q0 := fun o => cell_al (o := o) t0
                          have q1 := fun o => cell_al (o := o) t1
                          have q2 := fun o => cell_al (o := o) t2
                          have q3 := fun o => cell_al (o := o) t3
                          have q4 := fun o => cell_al (o := o) t4
                          have hsub : (k : Int) - (ls.a.length : Int) = (kk : Int) := by omega
                          have HKK := hide' hkk
                          clear hr t0 t1 t2 t3 t4 hkk
                          go_wp2_with fail
                          go_quiet (fail)
                          go_wp2
                          refine ⟨⟨k + 1, by go_num, by omega, (HSm.out _ _).1, (HSm.out _ _).2⟩, ?_⟩
                          simp [intOf]; omega
                      · obtain rfl : k = m := by omega
                        go_wp2_with fail
                        refine ⟨⟨1, by go_num, by omega, HM, HN⟩, ?_⟩
                        simp [intOf]
                  · obtain ⟨m, hm⟩ : ∃ m, (mkL 1 ls.u.length ls.u ++ grL 1 9).length = m := ⟨_, rfl⟩
                    have hml : m = ls.u.length + 9 := by rw [← hm, List.length_append, mkL_len _ _ _ (Nat.le_refl _)]; simp [grL]
                    obtain ⟨pv, cv, hpv, _⟩ := own_shape HM.out.r1
                    rw [hm] at hpv
                    have HPV := hide' hpv
                    have HMH := hide' hm
                    have HML := hide' hml
                    have l1 : wr.cell? ⟨L, 1, none⟩ = some (.slice pv m cv) := by rw [← hpv]; exact HM.out.lb.cell rfl
                    have hmb : m ≤ 1048585 := by omega
                    clear hm hml hpv
                    go_wp2_with fail
                    clear l1
                    go_loopw [107] (fun i wr => ∃ k : Nat, i = .int .i64 (k : Int) ∧ k ≤ m ∧ Hid (M3 w wr #[.int .i64 i0, .bool s1, .int .i64 i2, .bool s3, .bool s4, .bool s5, .bool s6, .bool s7, .bool s8, .int .i64 i9, .slice a1 ls.q.length c1, .slice a2 ls.a.length c2, .slice a3 ls.u.length c3, .slice a4 ls.d.length c4] L n (.slice a1 ls.q.length c1) (.slice a2 ls.a.length c2) (.slice a3 ls.u.length c3) (.slice a4 ls.d.length c4) v0 v1 v2 (mkL 0 ls.a.length ls.a ++ grL 0 9) (mkL 1 ls.u.length ls.u ++ grL 1 9) (mkL 2 ls.d.length ls.d ++ grL 2 9)) ∧ Hid (Bx wr Nb #[.int .i64 (ls.a.length : Int), .int .i64 (ls.u.length : Int), .int .i64 (ls.d.length : Int)] 3)) (fun i _ => m - (intOf i).toNat)
                    case atStart => exact ⟨0, rfl, Nat.zero_le _, HM, HN⟩
                    case round =>
                      clear HM HN
                      obtain ⟨k, rfl, hk, HM, HN⟩ := hrel
                      have l1 : wr.cell? ⟨L, 1, none⟩ = some (.slice pv m cv) := by rw [← HPV.out]; exact HM.out.lb.cell rfl
                      have n1 : ∀ o, (wr.alloc o).cell? ⟨Nb, 1, none⟩ = some (.int .i64 (ls.u.length : Int)) := fun o => (HN.out.grown (World.grownBy_alloc wr o none) (by simp)).cell rfl
                      have ll1 : ∀ o, (wr.alloc o).cell? ⟨L, 1, none⟩ = some (.slice pv m cv) := fun o => by rw [← HPV.out]; exact (HM.out.lb.grown (World.grownBy_alloc wr o none) (by simp)).cell rfl
                      have HSm : Hid (∀ o m2, M3 w ((wr.alloc o).drewN m2) #[.int .i64 i0, .bool s1, .int .i64 i2, .bool s3, .bool s4, .bool s5, .bool s6, .bool s7, .bool s8, .int .i64 i9, .slice a1 ls.q.length c1, .slice a2 ls.a.length c2, .slice a3 ls.u.length c3, .slice a4 ls.d.length c4] L n (.slice a1 ls.q.length c1) (.slice a2 ls.a.length c2) (.slice a3 ls.u.length c3) (.slice a4 ls.d.length c4) v0 v1 v2 (mkL 0 ls.a.length ls.a ++ grL 0 9) (mkL 1 ls.u.length ls.u ++ grL 1 9) (mkL 2 ls.d.length ls.d ++ grL 2 9) ∧ Bx ((wr.alloc o).drewN m2) Nb #[.int .i64 (ls.a.length : Int), .int .i64 (ls.u.length : Int), .int .i64 (ls.d.length : Int)] 3) := fun o m2 => ⟨(HM.out.same ((Below.refl _ wr).alloc (Nat.le_refl _) o)).same (below_quiet m2), HN.out.grown (grown_trans (World.grownBy_alloc wr o none) (grown_drewN _ m2 none)) (by simp)⟩
                      by_cases hlt : k < m
                      · have hr : wr.ownsRow n 55 5 (.slice pv m cv) m (rcells (mkL 1 ls.u.length ls.u ++ grL 1 9)) := by have := HM.out.r1; rw [HMH.out] at this; rw [← HPV.out]; exact this
                        obtain ⟨g, rfl⟩ := own_one hr (by omega)
                        have hat := Rcd_own hr HMH.out.symm k (by rw [HMH.out]; exact hlt)
                        by_cases hkl : k < ls.u.length
                        · rw [show (mkL 1 ls.u.length ls.u ++ grL 1 9)[k]'(by rw [HMH.out]; exact hlt) = mkR 1 k from by simp [mkL, List.getElem_append_left, hkl]] at hat
                          obtain ⟨t0, t1, t2, t3, t4⟩ := hat
                          simp only [mkR, mkT] at t0 t1 t2 t3 t4
                          have q0 := fun o => cell_al (o := o) t0
                          have q1 := fun o => cell_al (o := o) t1
                          have q2 := fun o => cell_al (o := o) t2
                          have q3 := fun o => cell_al (o := o) t3
                          have q4 := fun o => cell_al (o := o) t4
                          clear hr t0 t1 t2 t3 t4
                          go_wp2_with fail
                          go_quiet (fail)
                          go_wp2
                          refine ⟨⟨k + 1, by go_num, by omega, (HSm.out _ _).1, (HSm.out _ _).2⟩, ?_⟩
                          simp [intOf]; omega
                        · obtain ⟨kk, hkk⟩ : ∃ kk, k = ls.u.length + kk := ⟨k - ls.u.length, by omega⟩
                          rw [show (mkL 1 ls.u.length ls.u ++ grL 1 9)[k]'(by rw [HMH.out]; exact hlt) = grR 1 kk from by subst hkk; simp [mkL, grL, List.getElem_append_right]] at hat
                          obtain ⟨t0, t1, t2, t3, t4⟩ := hat
                          simp only [grR, grT] at t0 t1 t2 t3 t4
                          have q0 := fun o => cell_al (o := o) t0
                          have q1 := fun o => cell_al (o := o) t1
                          have q2 := fun o => cell_al (o := o) t2
                          have q3 := fun o => cell_al (o := o) t3
                          have q4 := fun o => cell_al (o := o) t4
                          have hsub : (k : Int) - (ls.u.length : Int) = (kk : Int) := by omega
                          have HKK := hide' hkk
                          clear hr t0 t1 t2 t3 t4 hkk
                          go_wp2_with fail
                          go_quiet (fail)
                          go_wp2
                          refine ⟨⟨k + 1, by go_num, by omega, (HSm.out _ _).1, (HSm.out _ _).2⟩, ?_⟩
                          simp [intOf]; omega
                      · obtain rfl : k = m := by omega
                        go_wp2_with fail
                        refine ⟨⟨2, by go_num, by omega, HM, HN⟩, ?_⟩
                        simp [intOf]
                  · obtain ⟨m, hm⟩ : ∃ m, (mkL 2 ls.d.length ls.d ++ grL 2 9).length = m := ⟨_, rfl⟩
                    have hml : m = ls.d.length + 9 := by rw [← hm, List.length_append, mkL_len _ _ _ (Nat.le_refl _)]; simp [grL]
                    obtain ⟨pv, cv, hpv, _⟩ := own_shape HM.out.r2
                    rw [hm] at hpv
                    have HPV := hide' hpv
                    have HMH := hide' hm
                    have HML := hide' hml
                    have l2 : wr.cell? ⟨L, 2, none⟩ = some (.slice pv m cv) := by rw [← hpv]; exact HM.out.lb.cell rfl
                    have hmb : m ≤ 1048585 := by omega
                    clear hm hml hpv
                    go_wp2_with fail
                    clear l2
                    go_loopw [107] (fun i wr => ∃ k : Nat, i = .int .i64 (k : Int) ∧ k ≤ m ∧ Hid (M3 w wr #[.int .i64 i0, .bool s1, .int .i64 i2, .bool s3, .bool s4, .bool s5, .bool s6, .bool s7, .bool s8, .int .i64 i9, .slice a1 ls.q.length c1, .slice a2 ls.a.length c2, .slice a3 ls.u.length c3, .slice a4 ls.d.length c4] L n (.slice a1 ls.q.length c1) (.slice a2 ls.a.length c2) (.slice a3 ls.u.length c3) (.slice a4 ls.d.length c4) v0 v1 v2 (mkL 0 ls.a.length ls.a ++ grL 0 9) (mkL 1 ls.u.length ls.u ++ grL 1 9) (mkL 2 ls.d.length ls.d ++ grL 2 9)) ∧ Hid (Bx wr Nb #[.int .i64 (ls.a.length : Int), .int .i64 (ls.u.length : Int), .int .i64 (ls.d.length : Int)] 3)) (fun i _ => m - (intOf i).toNat)
                    case atStart => exact ⟨0, rfl, Nat.zero_le _, HM, HN⟩
                    case round =>
                      clear HM HN
                      obtain ⟨k, rfl, hk, HM, HN⟩ := hrel
                      have l2 : wr.cell? ⟨L, 2, none⟩ = some (.slice pv m cv) := by rw [← HPV.out]; exact HM.out.lb.cell rfl
                      have n2 : ∀ o, (wr.alloc o).cell? ⟨Nb, 2, none⟩ = some (.int .i64 (ls.d.length : Int)) := fun o => (HN.out.grown (World.grownBy_alloc wr o none) (by simp)).cell rfl
                      have ll2 : ∀ o, (wr.alloc o).cell? ⟨L, 2, none⟩ = some (.slice pv m cv) := fun o => by rw [← HPV.out]; exact (HM.out.lb.grown (World.grownBy_alloc wr o none) (by simp)).cell rfl
                      have HSm : Hid (∀ o m2, M3 w ((wr.alloc o).drewN m2) #[.int .i64 i0, .bool s1, .int .i64 i2, .bool s3, .bool s4, .bool s5, .bool s6, .bool s7, .bool s8, .int .i64 i9, .slice a1 ls.q.length c1, .slice a2 ls.a.length c2, .slice a3 ls.u.length c3, .slice a4 ls.d.length c4] L n (.slice a1 ls.q.length c1) (.slice a2 ls.a.length c2) (.slice a3 ls.u.length c3) (.slice a4 ls.d.length c4) v0 v1 v2 (mkL 0 ls.a.length ls.a ++ grL 0 9) (mkL 1 ls.u.length ls.u ++ grL 1 9) (mkL 2 ls.d.length ls.d ++ grL 2 9) ∧ Bx ((wr.alloc o).drewN m2) Nb #[.int .i64 (ls.a.length : Int), .int .i64 (ls.u.length : Int), .int .i64 (ls.d.length : Int)] 3) := fun o m2 => ⟨(HM.out.same ((Below.refl _ wr).alloc (Nat.le_refl _) o)).same (below_quiet m2), HN.out.grown (grown_trans (World.grownBy_alloc wr o none) (grown_drewN _ m2 none)) (by simp)⟩
                      by_cases hlt : k < m
                      · have hr : wr.ownsRow n 55 5 (.slice pv m cv) m (rcells (mkL 2 ls.d.length ls.d ++ grL 2 9)) := by have := HM.out.r2; rw [HMH.out] at this; rw [← HPV.out]; exact this
                        obtain ⟨g, rfl⟩ := own_one hr (by omega)
                        have hat := Rcd_own hr HMH.out.symm k (by rw [HMH.out]; exact hlt)
                        by_cases hkl : k < ls.d.length
                        · rw [show (mkL 2 ls.d.length ls.d ++ grL 2 9)[k]'(by rw [HMH.out]; exact hlt) = mkR 2 k from by simp [mkL, List.getElem_append_left, hkl]] at hat
                          obtain ⟨t0, t1, t2, t3, t4⟩ := hat
                          simp only [mkR, mkT] at t0 t1 t2 t3 t4
                          have q0 := fun o => cell_al (o := o) t0
                          have q1 := fun o => cell_al (o := o) t1
                          have q2 := fun o => cell_al (o := o) t2
                          have q3 := fun o => cell_al (o := o) t3
                          have q4 := fun o => cell_al (o := o) t4
                          clear hr t0 t1 t2 t3 t4
                          go_wp2_with fail
                          go_quiet (fail)
                          go_wp2
                          refine ⟨⟨k + 1, by go_num, by omega, (HSm.out _ _).1, (HSm.out _ _).2⟩, ?_⟩
                          simp [intOf]; omega
                        · obtain ⟨kk, hkk⟩ : ∃ kk, k = ls.d.length + kk := ⟨k - ls.d.length, by omega⟩
                          rw [show (mkL 2 ls.d.length ls.d ++ grL 2 9)[k]'(by rw [HMH.out]; exact hlt) = grR 2 kk from by subst hkk; simp [mkL, grL, List.getElem_append_right]] at hat
                          obtain ⟨t0, t1, t2, t3, t4⟩ := hat
                          simp only [grR, grT] at t0 t1 t2 t3 t4
                          have q0 := fun o => cell_al (o := o) t0
                          have q1 := fun o => cell_al (o := o) t1
                          have q2 := fun o => cell_al (o := o) t2
                          have q3 := fun o => cell_al (o := o) t3
                          have q4 := fun o => cell_al (o := o) t4
                          have hsub : (k : Int) - (ls.d.length : Int) = (kk : Int) := by omega
                          have HKK := hide' hkk
                          clear hr t0 t1 t2 t3 t4 hkk
                          go_wp2_with fail
                          go_quiet (fail)
                          go_wp2
                          refine ⟨⟨k + 1, by go_num, by omega, (HSm.out _ _).1, (HSm.out _ _).2⟩, ?_⟩
                          simp [intOf]; omega
                      · obtain rfl : k = m := by omega
                        go_wp2_with fail
                        refine ⟨⟨3, by go_num, by omega, HM, HN⟩, ?_⟩
                        simp [intOf]
                · obtain rfl : j = 3 := by omega
                  go_wp2_with fail
                  go_ret
                  exact ⟨rfl, HM.out.fr⟩
end Go.Proofs.YtligjbcinahgdaaGreat
