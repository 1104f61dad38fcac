import Derived.Test.YtnnmgcdhidmmeaaSm1
import Derived.Test.YtnnmgcdhidmmeaaWr4G
import Derived.Test.YtnnmgcdhidmmeaaOw1
namespace Go.Proofs.Ytnnmgcdhidmmeaa
set_option linter.unusedVariables false
open Go.RowKit Go.Shelf Go.Proofs.Ytnnmgcdhidmmeaa.Nm

/-- what turns: the blocks of four rows alone -/
structure Fr4 (w w' : World) (vq va vu vd : Value) : Prop where
  os : w'.os = w.os
  tape : w'.tape = w.tape
  output : w'.output = w.output
  size : w.heap.size ≤ w'.heap.size
  block : ∀ k, k < w.heap.size → vq.ownBlock ≠ some k → va.ownBlock ≠ some k → vu.ownBlock ≠ some k → vd.ownBlock ≠ some k → w'.heap[k]? = w.heap[k]?
theorem Fr4.refl (w : World) (vq va vu vd : Value) : Fr4 w w vq va vu vd := ⟨rfl, rfl, rfl, Nat.le_refl _, fun _ _ _ _ _ _ => rfl⟩
/-- a step whose one block is one of the four rows', or new -/
theorem Fr4.step {w w1 w2 : World} {vq va vu vd : Value} {r : Option Nat} (h : Fr4 w w1 vq va vu vd) (k : w1.grownBy w2 r) (hr : ∀ q, r = some q → q < w.heap.size → vq.ownBlock = some q ∨ va.ownBlock = some q ∨ vu.ownBlock = some q ∨ vd.ownBlock = some q) : Fr4 w w2 vq va vu vd :=
  ⟨k.os.trans h.os, k.tape.trans h.tape, k.output.trans h.output, Nat.le_trans h.size k.size, fun j hj h1 h2 h3 h4 => (k.block j (Nat.lt_of_lt_of_le hj h.size) (fun e => by
    rcases hr j e.symm hj with e | e | e | e
    · exact h1 e
    · exact h2 e
    · exact h3 e
    · exact h4 e)).trans (h.block j hj h1 h2 h3 h4)⟩
/-- what a mark is -/
def mkT (j k : Nat) : Int := match j with | 0 => -(k : Int) - 1 | 1 => -1000 - (k : Int) - 1 | _ => -2000 - (k : Int) - 1
def grT (j k : Nat) : Int := match j with | 0 => -500 - (k : Int) | 1 => -1500 - (k : Int) | _ => -2500 - (k : Int)
def mkR (j k : Nat) : Rn := ⟨⟨#[109, 97, 114, 107]⟩, mkT j k, 0, 0, ⟨#[]⟩⟩
def grR (j k : Nat) : Rn := ⟨⟨#[103, 114, 111, 119, 110]⟩, grT j k, 0, 0, ⟨#[]⟩⟩
/-- the first k of a list are marked -/
def mkL (j k : Nat) (R : List Rn) : List Rn := (List.range k).map (mkR j) ++ R.drop k
theorem mkL_len (j k : Nat) (R : List Rn) (hk : k ≤ R.length) : (mkL j k R).length = R.length := by simp [mkL]; omega
theorem mkL_zero (j : Nat) (R : List Rn) : mkL j 0 R = R := by simp [mkL]
theorem mkL_succ (j k : Nat) (R : List Rn) (hk : k < R.length) : (mkL j k R).set k (mkR j k) = mkL j (k + 1) R := by
  apply List.ext_getElem
  · simp [mkL]; omega
  · intro i h1 h2
    simp [mkL] at h1
    by_cases h3 : i = k
    · subst h3
      simp [mkL, List.getElem_append_left]
    · rw [List.getElem_set_ne (by omega)]
      by_cases h4 : i < k
      · simp [mkL, List.getElem_append_left, h4, show i < k + 1 by omega]
      · simp only [mkL]
        rw [List.getElem_append_right (by simp; omega), List.getElem_append_right (by simp; omega)]
        simp
        congr 1; omega
theorem rcells_set (L : List Rn) (k : Nat) (x : Rn) (hk : k < L.length) : (((((rcells L).set (k * 5) (.string x.o)).set (k * 5 + 1) (.int .i64 x.t)).set (k * 5 + 2) (.int .i64 x.c)).set (k * 5 + 3) (.int .i64 x.l)).set (k * 5 + 4) (.string x.d) = rcells (L.set k x) := by
  induction L generalizing k with
  | nil => simp at hk
  | cons y L ih =>
    have e : rcells (y :: L) = .string y.o :: .int .i64 y.t :: .int .i64 y.c :: .int .i64 y.l :: .string y.d :: rcells L := by simp [rcells, renc]
    cases k with
    | zero => simp [rcells, renc]
    | succ k =>
      have e1 : (k + 1) * 5 = k * 5 + 1 + 1 + 1 + 1 + 1 := by omega
      have := ih k (by simpa using hk)
      rw [e, e1]
      simp only [List.set_cons_succ]
      rw [this]
      simp [rcells, renc]
end Go.Proofs.Ytnnmgcdhidmmeaa

namespace Go.Proofs.Ytnnmgcdhidmmeaa
set_option linter.unusedVariables false
open Go.RowKit Go.Shelf Go.Proofs.Ytnnmgcdhidmmeaa.Nm

/-- five cells of a row are set -/
def setR (w : World) (g k : Nat) (x : Rn) : World := ((((w.setCell ⟨g, k * 5, none⟩ (.string x.o)).setCell ⟨g, k * 5 + 1, none⟩ (.int .i64 x.t)).setCell ⟨g, k * 5 + 2, none⟩ (.int .i64 x.c)).setCell ⟨g, k * 5 + 3, none⟩ (.int .i64 x.l)).setCell ⟨g, k * 5 + 4, none⟩ (.string x.d)
theorem setR_grown (w : World) (g k : Nat) (x : Rn) : w.grownBy (setR w g k x) (some g) := grown_trans (grown_trans (grown_trans (grown_trans (grown_set w g _ _) (grown_set _ g _ _)) (grown_set _ g _ _)) (grown_set _ g _ _)) (grown_set _ g _ _)
theorem setR_own {w : World} {base g cap : Nat} {R : List Rn} (h : w.ownsRow base 48 5 (.slice (some ⟨g, 0, none⟩) R.length cap) R.length (rcells R)) (k : Nat) (hk : k < R.length) (x : Rn) : (setR w g k x).ownsRow base 48 5 (.slice (some ⟨g, 0, none⟩) R.length cap) R.length (rcells (R.set k x)) := by
  have h5 := own_put (own_put (own_put (own_put (own_put h (k * 5) (by omega) (.string x.o)) (k * 5 + 1) (by omega) (.int .i64 x.t)) (k * 5 + 2) (by omega) (.int .i64 x.c)) (k * 5 + 3) (by omega) (.int .i64 x.l)) (k * 5 + 4) (by omega) (.string x.d)
  rw [rcells_set R k x hk] at h5
  exact h5
theorem own_ne {a c : Value} {g : Nat} (h : Apart a c) (hc : c.ownBlock = some g := by rfl) : a.ownBlock = none ∨ a.ownBlock ≠ some g := .inr (fun e => h g e hc)
/-- marking under way: the message's box, the list of lists, its three rows -/
structure M3 (w wr : World) (bx : Array Value) (L n : Nat) (vq va vu vd : Value) (v0 v1 v2 : Value) (R0 R1 R2 : List Rn) : Prop where
  fr : Fr4 w wr vq va vu vd
  mb : Bx wr w.heap.size bx 26
  lb : Bx wr L #[v0, v1, v2] 24
  r0 : wr.ownsRow n 48 5 v0 R0.length (rcells R0)
  r1 : wr.ownsRow n 48 5 v1 R1.length (rcells R1)
  r2 : wr.ownsRow n 48 5 v2 R2.length (rcells R2)
  a01 : Apart v0 v1
  a02 : Apart v0 v2
  a12 : Apart v1 v2
  o0 : ∀ x, v0.ownBlock = some x → (va.ownBlock = some x ∨ w.heap.size < x) ∧ x ≠ w.heap.size ∧ x ≠ L
  o1 : ∀ x, v1.ownBlock = some x → (vu.ownBlock = some x ∨ w.heap.size < x) ∧ x ≠ w.heap.size ∧ x ≠ L
  o2 : ∀ x, v2.ownBlock = some x → (vd.ownBlock = some x ∨ w.heap.size < x) ∧ x ≠ w.heap.size ∧ x ≠ L
  Ll : w.heap.size < L
  sz : n ≤ w.heap.size
theorem M3.put0 {w wr : World} {bx : Array Value} {L n g cap m : Nat} {vq va vu vd v1 v2 : Value} {R0 R1 R2 : List Rn} (h : M3 w wr bx L n vq va vu vd (.slice (some ⟨g, 0, none⟩) m cap) v1 v2 R0 R1 R2) (k : Nat) (hm : R0.length = m) (hk : k < m) (x : Rn) : M3 w (setR wr g k x) bx L n vq va vu vd (.slice (some ⟨g, 0, none⟩) m cap) v1 v2 (R0.set k x) R1 R2 := by
  subst hm
  have hg := setR_grown wr g k x
  obtain ⟨h1, h2, h3⟩ := h.o0 g rfl
  exact ⟨h.fr.step hg (fun q e hq => by injection e with e; subst e; rcases h1 with h1 | h1; exact .inr (.inl h1); omega), h.mb.grown hg (fun e => h2 (Option.some.inj e)), h.lb.grown hg (fun e => h3 (Option.some.inj e)), by rw [List.length_set]; exact setR_own h.r0 k hk x, h.r1.kept hg (own_ne h.a01.symm), h.r2.kept hg (own_ne h.a02.symm), h.a01, h.a02, h.a12, h.o0, h.o1, h.o2, h.Ll, h.sz⟩
theorem M3.grow0 {w wr w2 : World} {bx : Array Value} {L n : Nat} {vq va vu vd v0 v1 v2 u : Value} {R0 R1 R2 : List Rn} (h : M3 w wr bx L n vq va vu vd v0 v1 v2 R0 R1 R2) {x : Rn} (hown : w2.ownsRow n 48 5 u (R0.length + 1) (rcells R0 ++ renc x)) (hg : wr.grownBy w2 v0.ownBlock) (hpl : u.ownBlock = v0.ownBlock ∨ u.ownBlock = some wr.heap.size) : M3 w (w2.setCell ⟨L, 0, none⟩ u) bx L n vq va vu vd u v1 v2 (R0 ++ [x]) R1 R2 := by
  have hLl := h.Ll
  have hml := h.mb.lt
  have hll := h.lb.lt
  have hg2 := grown_set w2 L 0 u
  have hu : ∀ g, u.ownBlock = some g → g ≠ L := fun g e => by
    rcases hpl with h1 | h1
    · exact (h.o0 g (h1 ▸ e)).2.2
    · rw [h1] at e; injection e with e; omega
  have hv : ∀ q, v0.ownBlock = some q → q < w.heap.size → vq.ownBlock = some q ∨ va.ownBlock = some q ∨ vu.ownBlock = some q ∨ vd.ownBlock = some q := fun q e hq => by
    rcases (h.o0 q e).1 with h1 | h1
    · exact .inr (.inl h1)
    · omega
  exact ⟨(h.fr.step hg hv).step hg2 (fun q e hq => by injection e with e; omega), (h.mb.grown hg (fun e => (h.o0 _ e).2.1 rfl)).far (by omega) _ _, (h.lb.grown hg (fun e => (h.o0 _ e).2.2 rfl)).set 0 u, by rw [List.length_append, rcells_app]; exact own_blk hown (fun g e => Below.heap_setCell _ _ _ g (by have := hu g e; omega)), own_blk (own_apart h.r1 hg h.a01.symm) (fun g e => Below.heap_setCell _ _ _ g (fun e2 => (h.o1 g e).2.2 e2)), own_blk (own_apart h.r2 hg h.a02.symm) (fun g e => Below.heap_setCell _ _ _ g (fun e2 => (h.o2 g e).2.2 e2)), (apart_place h.r1 h.a01.symm hpl).symm, (apart_place h.r2 h.a02.symm hpl).symm, h.a12, (fun y e => by rcases hpl with h1 | h1; exact h.o0 y (h1 ▸ e); (rw [h1] at e; injection e with e; subst e; exact ⟨.inr (by have := h.mb.lt; omega), by have := h.mb.lt; omega, by have := h.lb.lt; omega⟩)), h.o1, h.o2, hLl, h.sz⟩
theorem M3.put1 {w wr : World} {bx : Array Value} {L n g cap m : Nat} {vq va vu vd v0 v2 : Value} {R0 R1 R2 : List Rn} (h : M3 w wr bx L n vq va vu vd v0 (.slice (some ⟨g, 0, none⟩) m cap) v2 R0 R1 R2) (k : Nat) (hm : R1.length = m) (hk : k < m) (x : Rn) : M3 w (setR wr g k x) bx L n vq va vu vd v0 (.slice (some ⟨g, 0, none⟩) m cap) v2 R0 (R1.set k x) R2 := by
  subst hm
  have hg := setR_grown wr g k x
  obtain ⟨h1, h2, h3⟩ := h.o1 g rfl
  exact ⟨h.fr.step hg (fun q e hq => by injection e with e; subst e; rcases h1 with h1 | h1; exact .inr (.inr (.inl h1)); omega), h.mb.grown hg (fun e => h2 (Option.some.inj e)), h.lb.grown hg (fun e => h3 (Option.some.inj e)), h.r0.kept hg (own_ne h.a01), by rw [List.length_set]; exact setR_own h.r1 k hk x, h.r2.kept hg (own_ne h.a12.symm), h.a01, h.a02, h.a12, h.o0, h.o1, h.o2, h.Ll, h.sz⟩
theorem M3.grow1 {w wr w2 : World} {bx : Array Value} {L n : Nat} {vq va vu vd v0 v1 v2 u : Value} {R0 R1 R2 : List Rn} (h : M3 w wr bx L n vq va vu vd v0 v1 v2 R0 R1 R2) {x : Rn} (hown : w2.ownsRow n 48 5 u (R1.length + 1) (rcells R1 ++ renc x)) (hg : wr.grownBy w2 v1.ownBlock) (hpl : u.ownBlock = v1.ownBlock ∨ u.ownBlock = some wr.heap.size) : M3 w (w2.setCell ⟨L, 1, none⟩ u) bx L n vq va vu vd v0 u v2 R0 (R1 ++ [x]) R2 := by
  have hLl := h.Ll
  have hml := h.mb.lt
  have hll := h.lb.lt
  have hg2 := grown_set w2 L 1 u
  have hu : ∀ g, u.ownBlock = some g → g ≠ L := fun g e => by
    rcases hpl with h1 | h1
    · exact (h.o1 g (h1 ▸ e)).2.2
    · rw [h1] at e; injection e with e; omega
  have hv : ∀ q, v1.ownBlock = some q → q < w.heap.size → vq.ownBlock = some q ∨ va.ownBlock = some q ∨ vu.ownBlock = some q ∨ vd.ownBlock = some q := fun q e hq => by
    rcases (h.o1 q e).1 with h1 | h1
    · exact .inr (.inr (.inl h1))
    · omega
  exact ⟨(h.fr.step hg hv).step hg2 (fun q e hq => by injection e with e; omega), (h.mb.grown hg (fun e => (h.o1 _ e).2.1 rfl)).far (by omega) _ _, (h.lb.grown hg (fun e => (h.o1 _ e).2.2 rfl)).set 1 u, own_blk (own_apart h.r0 hg h.a01) (fun g e => Below.heap_setCell _ _ _ g (fun e2 => (h.o0 g e).2.2 e2)), by rw [List.length_append, rcells_app]; exact own_blk hown (fun g e => Below.heap_setCell _ _ _ g (by have := hu g e; omega)), own_blk (own_apart h.r2 hg h.a12.symm) (fun g e => Below.heap_setCell _ _ _ g (fun e2 => (h.o2 g e).2.2 e2)), apart_place h.r0 h.a01 hpl, h.a02, (apart_place h.r2 h.a12.symm hpl).symm, h.o0, (fun y e => by rcases hpl with h1 | h1; exact h.o1 y (h1 ▸ e); (rw [h1] at e; injection e with e; subst e; exact ⟨.inr (by have := h.mb.lt; omega), by have := h.mb.lt; omega, by have := h.lb.lt; omega⟩)), h.o2, hLl, h.sz⟩
theorem M3.put2 {w wr : World} {bx : Array Value} {L n g cap m : Nat} {vq va vu vd v0 v1 : Value} {R0 R1 R2 : List Rn} (h : M3 w wr bx L n vq va vu vd v0 v1 (.slice (some ⟨g, 0, none⟩) m cap) R0 R1 R2) (k : Nat) (hm : R2.length = m) (hk : k < m) (x : Rn) : M3 w (setR wr g k x) bx L n vq va vu vd v0 v1 (.slice (some ⟨g, 0, none⟩) m cap) R0 R1 (R2.set k x) := by
  subst hm
  have hg := setR_grown wr g k x
  obtain ⟨h1, h2, h3⟩ := h.o2 g rfl
  exact ⟨h.fr.step hg (fun q e hq => by injection e with e; subst e; rcases h1 with h1 | h1; exact .inr (.inr (.inr h1)); omega), h.mb.grown hg (fun e => h2 (Option.some.inj e)), h.lb.grown hg (fun e => h3 (Option.some.inj e)), h.r0.kept hg (own_ne h.a02), h.r1.kept hg (own_ne h.a12), by rw [List.length_set]; exact setR_own h.r2 k hk x, h.a01, h.a02, h.a12, h.o0, h.o1, h.o2, h.Ll, h.sz⟩
theorem M3.grow2 {w wr w2 : World} {bx : Array Value} {L n : Nat} {vq va vu vd v0 v1 v2 u : Value} {R0 R1 R2 : List Rn} (h : M3 w wr bx L n vq va vu vd v0 v1 v2 R0 R1 R2) {x : Rn} (hown : w2.ownsRow n 48 5 u (R2.length + 1) (rcells R2 ++ renc x)) (hg : wr.grownBy w2 v2.ownBlock) (hpl : u.ownBlock = v2.ownBlock ∨ u.ownBlock = some wr.heap.size) : M3 w (w2.setCell ⟨L, 2, none⟩ u) bx L n vq va vu vd v0 v1 u R0 R1 (R2 ++ [x]) := by
  have hLl := h.Ll
  have hml := h.mb.lt
  have hll := h.lb.lt
  have hg2 := grown_set w2 L 2 u
  have hu : ∀ g, u.ownBlock = some g → g ≠ L := fun g e => by
    rcases hpl with h1 | h1
    · exact (h.o2 g (h1 ▸ e)).2.2
    · rw [h1] at e; injection e with e; omega
  have hv : ∀ q, v2.ownBlock = some q → q < w.heap.size → vq.ownBlock = some q ∨ va.ownBlock = some q ∨ vu.ownBlock = some q ∨ vd.ownBlock = some q := fun q e hq => by
    rcases (h.o2 q e).1 with h1 | h1
    · exact .inr (.inr (.inr h1))
    · omega
  exact ⟨(h.fr.step hg hv).step hg2 (fun q e hq => by injection e with e; omega), (h.mb.grown hg (fun e => (h.o2 _ e).2.1 rfl)).far (by omega) _ _, (h.lb.grown hg (fun e => (h.o2 _ e).2.2 rfl)).set 2 u, own_blk (own_apart h.r0 hg h.a02) (fun g e => Below.heap_setCell _ _ _ g (fun e2 => (h.o0 g e).2.2 e2)), own_blk (own_apart h.r1 hg h.a12) (fun g e => Below.heap_setCell _ _ _ g (fun e2 => (h.o1 g e).2.2 e2)), by rw [List.length_append, rcells_app]; exact own_blk hown (fun g e => Below.heap_setCell _ _ _ g (by have := hu g e; omega)), h.a01, apart_place h.r0 h.a02 hpl, apart_place h.r1 h.a12 hpl, h.o0, h.o1, (fun y e => by rcases hpl with h1 | h1; exact h.o2 y (h1 ▸ e); (rw [h1] at e; injection e with e; subst e; exact ⟨.inr (by have := h.mb.lt; omega), by have := h.mb.lt; omega, by have := h.lb.lt; omega⟩)), hLl, h.sz⟩
theorem M3.same {w wr w2 : World} {bx : Array Value} {L n : Nat} {vq va vu vd v0 v1 v2 : Value} {R0 R1 R2 : List Rn} (h : M3 w wr bx L n vq va vu vd v0 v1 v2 R0 R1 R2) (hb : Below wr.heap.size wr w2) : M3 w w2 bx L n vq va vu vd v0 v1 v2 R0 R1 R2 :=
  ⟨h.fr.step (grown_below hb none) (fun q e => by cases e), h.mb.below hb h.mb.lt, h.lb.below hb h.lb.lt, h.r0.kept (grown_below hb none) (by by_cases hv : v0.ownBlock = none; exact .inl hv; exact .inr hv), h.r1.kept (grown_below hb none) (by by_cases hv : v1.ownBlock = none; exact .inl hv; exact .inr hv), h.r2.kept (grown_below hb none) (by by_cases hv : v2.ownBlock = none; exact .inl hv; exact .inr hv), h.a01, h.a02, h.a12, h.o0, h.o1, h.o2, h.Ll, h.sz⟩
end Go.Proofs.Ytnnmgcdhidmmeaa

namespace Go.Proofs.Ytnnmgcdhidmmeaa
set_option linter.unusedVariables false
open Go.RowKit Go.Shelf Go.Proofs.Ytnnmgcdhidmmeaa.Nm

theorem parts4_len {B : ByteArray} {ls : Ls} (h12 : 12 ≤ B.size) (h : parts4 B = .ok ls) : ls.q.length ≤ 65535 ∧ ls.a.length ≤ 65535 ∧ ls.u.length ≤ 65535 ∧ ls.d.length ≤ 65535 := by
  rw [parts4_eq] at h
  split at h
  · cases h
  · rename_i q hq
    obtain ⟨h1, h2⟩ := qs_le _ _ _ _ h12 hq
    unfold pa4 at h
    split at h
    · cases h
    · rename_i a ha
      obtain ⟨h3, h4⟩ := rs_le _ _ _ _ h1 ha
      unfold pu4 at h
      split at h
      · cases h
      · rename_i u hu
        obtain ⟨h5, h6⟩ := rs_le _ _ _ _ h3 hu
        unfold pd4 at h
        split at h
        · cases h
        · rename_i d hd
          obtain ⟨h7, h8⟩ := rs_le _ _ _ _ h5 hd
          unfold pe4 at h
          split at h
          · cases h
          · cases h
            have := be2_lt B 4
            have := be2_lt B 6
            have := be2_lt B 8
            have := be2_lt B 10
            simp at h2 h4 h6 h8
            exact ⟨by simp; omega, by simp; omega, by simp; omega, by simp; omega⟩
/-- what both answer: one head, one row of lists, one place, one error for the same bytes -/
theorem up_joined (B : ByteArray) : ∃ (i0 i2 i9 : Int) (s1 s3 s4 s5 s6 s7 s8 : Bool) (ls : Ls) (at_ er : Int), (ls.q.length ≤ 65535 ∧ ls.a.length ≤ 65535 ∧ ls.u.length ≤ 65535 ∧ ls.d.length ≤ 65535) ∧ ∀ (w : World) (e : Ending) (w' : World), upEnd B w e w' →
    ∃ (a1 a2 a3 a4 : Option Addr) (c1 c2 c3 c4 : Nat), e = .returned (.tuple #[.agg #[.int .i64 i0, .bool s1, .int .i64 i2, .bool s3, .bool s4, .bool s5, .bool s6, .bool s7, .bool s8, .int .i64 i9, .slice a1 ls.q.length c1, .slice a2 ls.a.length c2, .slice a3 ls.u.length c3, .slice a4 ls.d.length c4], .int .i64 at_, .int .i64 er]) ∧ Mg4 w' w.heap.size (.slice a1 ls.q.length c1) (.slice a2 ls.a.length c2) (.slice a3 ls.u.length c3) (.slice a4 ls.d.length c4) ls ∧ Below w.heap.size w w' := by
  cases h : upk B with
  | error x =>
    refine ⟨0, 0, 0, false, false, false, false, false, false, false, ⟨[], [], [], []⟩, x.2, x.1, ⟨by decide, by decide, by decide, by decide⟩, fun w e w' hu => ?_⟩
    unfold upEnd at hu
    rw [h] at hu
    exact ⟨none, none, none, none, 0, 0, 0, 0, hu.1, ⟨World.ownsRow_nil _ _ _ _, World.ownsRow_nil _ _ _ _, World.ownsRow_nil _ _ _ _, World.ownsRow_nil _ _ _ _, apart_nil _, apart_nil _, apart_nil _, apart_nil _, apart_nil _, apart_nil _⟩, hu.2⟩
  | ok ls =>
    have hl : ls.q.length ≤ 65535 ∧ ls.a.length ≤ 65535 ∧ ls.u.length ≤ 65535 ∧ ls.d.length ≤ 65535 := by
      unfold upk at h
      split at h
      · cases h
      · split at h
        · cases h
        · split at h
          · cases h
          · exact parts4_len (by omega) h
    refine ⟨(be B 0 2 : Nat), (be B 2 2 / 2048 % 16 : Nat), (be B 2 2 % 16 : Nat), sg (be B 2 2) 15, sg (be B 2 2) 10, sg (be B 2 2) 9, sg (be B 2 2) 8, sg (be B 2 2) 7, sg (be B 2 2) 5, sg (be B 2 2) 4, ls, 0, 0, hl, fun w e w' hu => ?_⟩
    unfold upEnd at hu
    rw [h] at hu
    obtain ⟨vq, va, vu, vd, h1, h2, h3⟩ := hu
    obtain ⟨p1, n1, rfl, _⟩ := own_shape h2.q
    obtain ⟨p2, n2, rfl, _⟩ := own_shape h2.a
    obtain ⟨p3, n3, rfl, _⟩ := own_shape h2.u
    obtain ⟨p4, n4, rfl, _⟩ := own_shape h2.d
    exact ⟨p1, p2, p3, p4, n1, n2, n3, n4, h1, h2, h3⟩
/-- 'append([]byte(nil), b...)' -/
theorem wpList_append_bytes {ops : Array Oper} {rest : List Oper} {o : Oper} {a : Act} {Q : Exit → Act → World → Prop} (w : World) (hgd : o.guard = none) (s x : Operand) (ho : o.op = .call { callee := .builtin .append, args := #[s, x], argTypes := #[22, 22] }) (base : Nat) (B : ByteArray) (p : Option Addr) (c : Nat)
    (hs : a.eval s = .slice none 0 0) (hx : a.eval x = .slice p B.size c) (hat : ∀ ad, p = some ad → 0 < B.size → ∃ b oo, ad = ⟨b, oo, none⟩ ∧ Lib.Bytes w b oo B) (hnone : p = none → B.size = 0 ∧ c = 0) (hsm : B.size ≤ 4294967296) (hbase : base ≤ w.heap.size)
    (h : ∀ v' w', w'.ownsRow base 5 1 v' B.size (Go.Lib.strCells B) → w.grownBy w' none → wpList Try.prog ops Q rest (a.put o.dst v') w') : wpList Try.prog ops Q (o :: rest) a w := by
  obtain ⟨i0, hi, hz0, hz1, hz2⟩ := info_parts Try.infoU8
  cases p with
  | none =>
    obtain ⟨hz, hc⟩ := hnone rfl
    subst hc
    have hB : B = ⟨#[]⟩ := by apply ByteArray.ext; exact Array.eq_empty_of_size_eq_zero hz
    subst hB
    refine wpList_append_own_none hgd s x 22 ho base 5 i0 1 Try.underlying22 hi _ 0 [] hs (World.ownsRow_nil _ _ _ _) hx (h _ w ?_ (grown_refl _ _))
    exact World.ownsRow_nil _ _ _ _
  | some ad =>
    refine wpList_append_own w hgd s x 22 ho base 5 i0 (.int .u8 0) 1 1 Try.underlying22 hi hz0 hz1 hz2 rfl (by decide) _ 0 [] hs (World.ownsRow_nil _ _ _ _) ad B.size c (Go.Lib.strCells B) hx (by rw [Go.Lib.strCells_length]; omega) ?_ (strCells_one B) (by unfold maxLen; omega) (by omega) hbase (fun v' w' h1 h2 _ => h v' w' (by simpa using h1) h2)
    by_cases h0 : 0 < B.size
    · obtain ⟨b, oo, rfl, hB⟩ := hat ad rfl h0
      have := Bytes_win hB (k := 0) (n := B.size) (by omega)
      simpa using this
    · intro j u hj
      have := (List.getElem?_eq_some_iff.1 hj).1
      rw [Go.Lib.strCells_length] at this
      omega
/-- a row of bytes, to be read -/
theorem own_bytes {w : World} {base g cap n : Nat} {B : ByteArray} (h : w.ownsRow base 5 1 (.slice (some ⟨g, 0, none⟩) n cap) n (Go.Lib.strCells B)) : Lib.Bytes w g 0 B := by
  have hn : n = B.size := by have := h.1; rw [Go.Lib.strCells_length] at this; omega
  subst hn
  intro i hi
  have hc := h.cellAt i (by omega)
  rw [Nat.zero_add, hc]
  unfold Go.Lib.strCells
  rw [List.getElem?_map, List.getElem?_eq_getElem (by rw [Array.length_toList]; exact hi)]
  rfl
set_option maxRecDepth 100000 in
/-- gazetteersame.Bytes, at the same bytes -/
theorem sameBytes (v1 v2 : Value) (B : ByteArray) (w : World) (h1 : (convert 22 9 v1).run Try.prog w = .ok (.string B) w) (h2 : (convert 22 9 v2).run Try.prog w = .ok (.string B) w) :
    Calls Try.prog 7 #[v1, v2] w fun e w' => e = .returned (.bool true) ∧ w' = w := by
  go_enter Try.func7, Try.ntmps7
  go_wp2_with fail
  go_ret
  exact ⟨by simp, rfl⟩
/-- the law under way: own's bytes, both boxes, both messages' lists -/
structure U5 (w wx : World) (p1 : Option Addr) (cp1 : Nat) (B : ByteArray) (X4 X7 : Nat) (BA BB : Array Value) (n1 n3 : Nat) (a1 a2 a3 a4 b1 b2 b3 b4 : Value) (ls : Ls) : Prop where
  o : wx.ownsRow w.heap.size 5 1 (.slice p1 B.size cp1) B.size (Go.Lib.strCells B)
  x4 : Bx wx X4 BA 26
  x7 : Bx wx X7 BB 26
  m : Mg4 wx n1 a1 a2 a3 a4 ls
  x : Mg4 wx n3 b1 b2 b3 b4 ls
  bl : Below w.heap.size w wx
  sz : n1 ≤ wx.heap.size
  w1 : w.heap.size ≤ n1
  h4 : n1 ≤ X4
  h43 : X4 < n3
  h7 : n3 ≤ X7
  hm : ∀ v, (v = a1 ∨ v = a2 ∨ v = a3 ∨ v = a4) → ∀ y, v.ownBlock = some y → y < X4
  hx : ∀ v, (v = b1 ∨ v = b2 ∨ v = b3 ∨ v = b4) → ∀ y, v.ownBlock = some y → n3 ≤ y ∧ y ≠ X7
  ho : ∀ y, p1 = some ⟨y, 0, none⟩ → y < n1
theorem U5.mk' {w w1 w2 w3 w4 w5 : World} {p1 : Option Addr} {cp1 : Nat} {B : ByteArray} {BA BB : Array Value} {a1 a2 a3 a4 b1 b2 b3 b4 : Value} {ls : Ls} (ho : w1.ownsRow w.heap.size 5 1 (.slice p1 B.size cp1) B.size (Go.Lib.strCells B)) (h1 : Below w.heap.size w w1) (hm : Mg4 w2 w1.heap.size a1 a2 a3 a4 ls) (h2 : Below w1.heap.size w1 w2) (h3 : w2.alloc (.cells BA 26) = w3) (hx : Mg4 w4 w3.heap.size b1 b2 b3 b4 ls) (h4 : Below w3.heap.size w3 w4) (h5 : w4.alloc (.cells BB 26) = w5) : U5 w w5 p1 cp1 B w2.heap.size w4.heap.size BA BB w1.heap.size w3.heap.size a1 a2 a3 a4 b1 b2 b3 b4 ls := by
  have z1 := h1.size
  have z2 := h2.size
  have z4 := h4.size
  have z3 : w3.heap.size = w2.heap.size + 1 := by rw [← h3]; simp
  have z5 : w5.heap.size = w4.heap.size + 1 := by rw [← h5]; simp
  have g12 := grown_below h2 none
  have g23 : w2.grownBy w3 none := h3 ▸ World.grownBy_alloc _ _ _
  have g34 := grown_below h4 none
  have g45 : w4.grownBy w5 none := h5 ▸ World.grownBy_alloc _ _ _
  have k : ∀ q : Nat, (none : Option Nat) = some q → False := fun q e => by cases e
  have b4 : Below w.heap.size w w4 := by
    have e1 := bstep h1 h2 z1
    have e2 : Below w.heap.size w w3 := h3 ▸ e1.alloc e1.size _
    exact bstep e2 h4 e2.size
  refine ⟨own_keep (own_keep (own_keep (own_keep ho g12 (fun q e => (k q e).elim)) g23 (fun q e => (k q e).elim)) g34 (fun q e => (k q e).elim)) g45 (fun q e => (k q e).elim), ?_, h5 ▸ World.alloc_heap_new w4 _, ((hm.keep g23 (fun q e => (k q e).elim)).keep g34 (fun q e => (k q e).elim)).keep g45 (fun q e => (k q e).elim), hx.keep g45 (fun q e => (k q e).elim), h5 ▸ b4.alloc b4.size _, by omega, z1, z2, by omega, z4, ?_, ?_, ?_⟩
  · have e3 : Bx w3 w2.heap.size BA 26 := h3 ▸ World.alloc_heap_new w2 _
    exact (e3.grown g34 (by simp)).grown g45 (by simp)
  · rintro v (rfl | rfl | rfl | rfl) y hy
    · exact (hm.q.lt y hy).2
    · exact (hm.a.lt y hy).2
    · exact (hm.u.lt y hy).2
    · exact (hm.d.lt y hy).2
  · rintro v (rfl | rfl | rfl | rfl) y hy
    · have := hx.q.lt y hy; exact ⟨this.1, by omega⟩
    · have := hx.a.lt y hy; exact ⟨this.1, by omega⟩
    · have := hx.u.lt y hy; exact ⟨this.1, by omega⟩
    · have := hx.d.lt y hy; exact ⟨this.1, by omega⟩
  · rintro y rfl
    exact (ho.lt y rfl).2
section
variable {w wx w2 : World} {p1 : Option Addr} {cp1 : Nat} {B : ByteArray} {X4 X7 : Nat} {BA BB : Array Value} {n1 n3 : Nat} {a1 a2 a3 a4 b1 b2 b3 b4 : Value} {ls : Ls}
theorem U5.below (h : U5 w wx p1 cp1 B X4 X7 BA BB n1 n3 a1 a2 a3 a4 b1 b2 b3 b4 ls) (hb : Below wx.heap.size wx w2) : U5 w w2 p1 cp1 B X4 X7 BA BB n1 n3 a1 a2 a3 a4 b1 b2 b3 b4 ls :=
  ⟨own_keep h.o (grown_below hb none) (fun q e => by cases e), h.x4.below hb h.x4.lt, h.x7.below hb h.x7.lt, h.m.keep (grown_below hb none) (fun q e => by cases e), h.x.keep (grown_below hb none) (fun q e => by cases e), bstep h.bl hb h.bl.size, Nat.le_trans h.sz hb.size, h.w1, h.h4, h.h43, h.h7, h.hm, h.hx, h.ho⟩
/-- what is left behind the marks: own's bytes, both boxes, the other message -/
structure U7 (w wx : World) (p1 : Option Addr) (cp1 : Nat) (B : ByteArray) (X4 X7 : Nat) (BA BB : Array Value) (n3 : Nat) (b1 b2 b3 b4 : Value) (ls : Ls) : Prop where
  o : wx.ownsRow w.heap.size 5 1 (.slice p1 B.size cp1) B.size (Go.Lib.strCells B)
  x4 : Bx wx X4 BA 26
  x7 : Bx wx X7 BB 26
  x : Mg4 wx n3 b1 b2 b3 b4 ls
  bl : Below w.heap.size w wx
  h4 : w.heap.size ≤ X4
  h43 : X4 < n3
  h47 : X4 ≠ X7
theorem U5.marked (h : U5 w wx p1 cp1 B X4 X7 BA BB n1 n3 a1 a2 a3 a4 b1 b2 b3 b4 ls) (hf : Fr4 wx w2 a1 a2 a3 a4) : U7 w w2 p1 cp1 B X4 X7 BA BB n3 b1 b2 b3 b4 ls := by
  have e1 := h.w1
  have e2 := h.h4
  have e3 := h.h43
  have e4 := h.h7
  have hk : ∀ k, k < wx.heap.size → (k < n1 ∨ X4 ≤ k) → w2.heap[k]? = wx.heap[k]? := fun k hk hd => by
    have hne : ∀ v, (v = a1 ∨ v = a2 ∨ v = a3 ∨ v = a4) → v.ownBlock ≠ some k := fun v hv e => by
      have h1 := h.hm v hv k e
      have h2 : n1 ≤ k := by
        rcases hv with rfl | rfl | rfl | rfl
        · exact (h.m.q.lt k e).1
        · exact (h.m.a.lt k e).1
        · exact (h.m.u.lt k e).1
        · exact (h.m.d.lt k e).1
      omega
    exact hf.block k hk (hne _ (.inl rfl)) (hne _ (.inr (.inl rfl))) (hne _ (.inr (.inr (.inl rfl)))) (hne _ (.inr (.inr (.inr rfl))))
  have hr : ∀ (v : Value) (e s m : Nat) (xs : List Value), (v = b1 ∨ v = b2 ∨ v = b3 ∨ v = b4) → wx.ownsRow n3 e s v m xs → w2.ownsRow n3 e s v m xs := fun v e s m xs hv ho => own_blk ho (fun g hg => hk g (ho.lt g hg).2 (.inr (by have := (h.hx v hv g hg).1; omega)))
  refine ⟨own_blk h.o (fun g hg => hk g (h.o.lt g hg).2 (.inl ?_)), (hk X4 h.x4.lt (.inr (Nat.le_refl _))).trans h.x4, (hk X7 h.x7.lt (.inr (by omega))).trans h.x7, ⟨hr _ _ _ _ _ (.inl rfl) h.x.q, hr _ _ _ _ _ (.inr (.inl rfl)) h.x.a, hr _ _ _ _ _ (.inr (.inr (.inl rfl))) h.x.u, hr _ _ _ _ _ (.inr (.inr (.inr rfl))) h.x.d, h.x.qa, h.x.qu, h.x.qd, h.x.au, h.x.ad, h.x.ud⟩, ⟨hf.os.trans h.bl.os, hf.tape.trans h.bl.tape, hf.output.trans h.bl.output, Nat.le_trans h.bl.size hf.size, fun k hk2 => (hk k (by have := h.bl.size; omega) (.inl (by omega))).trans (h.bl.block k hk2)⟩, by omega, e3, by omega⟩
  cases p1 with
  | none => simp [Value.ownBlock] at hg
  | some ad =>
    obtain ⟨g2, rfl⟩ : ∃ g2, ad = ⟨g2, 0, none⟩ := by
      rcases h.o.2 with ⟨h1, _⟩ | ⟨g', cap, cur, h1, _⟩
      · cases h1
      · injection h1 with h1; injection h1 with h1; exact ⟨g', h1⟩
    have : g2 = g := by simpa [Value.ownBlock] using hg
    subst this
    exact h.ho _ rfl
/-- .. and the message that is read again -/
structure U8 (w wx : World) (X4 X7 : Nat) (BA BB : Array Value) (n3 n7 : Nat) (m1 m2 m3 m4 b1 b2 b3 b4 : Value) (ls : Ls) : Prop where
  x4 : Bx wx X4 BA 26
  x7 : Bx wx X7 BB 26
  m : Mg4 wx n7 m1 m2 m3 m4 ls
  x : Mg4 wx n3 b1 b2 b3 b4 ls
  bl : Below w.heap.size w wx
  h4 : w.heap.size ≤ X4
  h43 : X4 < n3
  h47 : X4 ≠ X7
  h48 : X4 < n7
theorem U7.again {m1 m2 m3 m4 : Value} {w8 : World} (h : U7 w wx p1 cp1 B X4 X7 BA BB n3 b1 b2 b3 b4 ls) (hm : Mg4 w8 wx.heap.size m1 m2 m3 m4 ls) (hb : Below wx.heap.size wx w8) : U8 w w8 X4 X7 BA BB n3 wx.heap.size m1 m2 m3 m4 b1 b2 b3 b4 ls :=
  ⟨h.x4.below hb h.x4.lt, h.x7.below hb h.x7.lt, hm, h.x.keep (grown_below hb none) (fun q e => by cases e), bstep h.bl hb h.bl.size, h.h4, h.h43, h.h47, h.x4.lt⟩
end
theorem U8.stored {w wx w9 : World} {X4 X7 : Nat} {BB : Array Value} {n3 n7 : Nat} {m1 m2 m3 m4 b1 b2 b3 b4 z0 z1 z2 z3 z4 z5 z6 z7 z8 z9 z10 z11 z12 z13 : Value} {ls : Ls} (h : U8 w wx X4 X7 #[z0, z1, z2, z3, z4, z5, z6, z7, z8, z9, z10, z11, z12, z13] BB n3 n7 m1 m2 m3 m4 b1 b2 b3 b4 ls) (q0 q1 q2 q3 q4 q5 q6 q7 q8 q9 q10 q11 q12 q13 : Value) (h9 : set14 wx X4 q0 q1 q2 q3 q4 q5 q6 q7 q8 q9 q10 q11 q12 q13 = w9) : U8 w w9 X4 X7 #[q0, q1, q2, q3, q4, q5, q6, q7, q8, q9, q10, q11, q12, q13] BB n3 n7 m1 m2 m3 m4 b1 b2 b3 b4 ls := by
  subst h9
  refine ⟨bx14_set h.x4 q0 q1 q2 q3 q4 q5 q6 q7 q8 q9 q10 q11 q12 q13, ?_, mg14 h.m h.h48 q0 q1 q2 q3 q4 q5 q6 q7 q8 q9 q10 q11 q12 q13, mg14 h.x h.h43 q0 q1 q2 q3 q4 q5 q6 q7 q8 q9 q10 q11 q12 q13, below14 h.bl h.h4 h.bl.size q0 q1 q2 q3 q4 q5 q6 q7 q8 q9 q10 q11 q12 q13, h.h4, h.h43, h.h47, h.h48⟩
  have hne : X7 ≠ X4 := fun e => h.h47 e.symm
  exact ((((((((((((((h.x7.far hne 0 q0).far hne 1 q1).far hne 2 q2).far hne 3 q3).far hne 4 q4).far hne 5 q5).far hne 6 q6).far hne 7 q7).far hne 8 q8).far hne 9 q9).far hne 10 q10).far hne 11 q11).far hne 12 q12).far hne 13 q13)
end Go.Proofs.Ytnnmgcdhidmmeaa
