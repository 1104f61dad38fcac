import Derived.Test.YtlidocgnboobfaaSp4
import Derived.Deep.Cut
import Derived.Deep.CutRange
import Derived.Deep.RegionHeld3
/-
  SignerPlans: the walk. (The verifier's own text.)
-/
namespace Go.Proofs.Ytlidocgnboobfaa
set_option linter.unusedVariables false
set_option linter.unusedSimpArgs false
open Go.RowKit Go.Shelf Go.Proofs.Ytlidocgnboobfaa.Nm

theorem infoTk : (Try.prog.info? 44).map (fun i => (i.zero, i.size, i.bytes)) = some (some (.agg #[.int .i64 0, .int .i64 0, .int .i64 0, .int .i64 0, .int .i64 0, .int .i64 0, .int .i64 0, .int .i64 0]), 8, 64) := by kernel_rfl
/-- a store into a row of one's own -/
theorem row_put {w : World} {base e size g n cap : Nat} {xs : List Value} (h : w.ownsRow base e size (.slice (some ⟨g, 0, none⟩) n cap) n xs) (j : Nat) (hj : j < n * size) (u : Value) :
    (w.setCell ⟨g, j, none⟩ u).ownsRow base e size (.slice (some ⟨g, 0, none⟩) n cap) n (xs.set j u) := by
  obtain ⟨hl, (⟨h1, h2⟩ | ⟨g', cap', cur, h1, hb, hg, hn, hcm, hcs, htk⟩)⟩ := h
  · cases h1
  · injection h1 with h1 h2 h3
    injection h1 with h1
    injection h1 with h1
    subst h1; subst h3
    refine ⟨by simpa using hl, .inr ⟨g, cap, cur.setIfInBounds j u, rfl, hb, ?_, hn, hcm, by simpa using hcs, ?_⟩⟩
    · simp [World.setCell, Array.getElem?_modify, hg]
    · rw [← htk]
      simp [List.take_set]
theorem row_cell {w : World} {base e size g n cap : Nat} {xs : List Value} (h : w.ownsRow base e size (.slice (some ⟨g, 0, none⟩) n cap) n xs) (j : Nat) (hj : j < n * size) : ∃ u, w.cell? ⟨g, j, none⟩ = some u ∧ w.frozen? ⟨g, j, none⟩ = false := by
  have h1 := h.cellAt j hj
  have hl := h.1
  rw [List.getElem?_eq_getElem (by omega)] at h1
  refine ⟨_, h1, ?_⟩
  rcases h.2 with ⟨h2, _⟩ | ⟨g', cap', cur, h2, hb, hg, _⟩
  · cases h2
  · injection h2 with h2
    injection h2 with h2
    injection h2 with h2
    subst h2
    simp [World.frozen?, hg]
/-- blocks that hold plans of noughts -/
def Zs (u : World) (lo hi : Nat) : Prop := ∀ k, lo ≤ k → k < hi → Bx u k #[.slice none 0 0, .bool false, .string ⟨#[]⟩, .int .i64 0, .int .i64 0, .int .i64 0, .int .i64 0] 25
theorem Zs.nil (u : World) (lo : Nat) : Zs u lo lo := fun k h1 h2 => by omega
theorem Zs.below {u u' : World} {lo hi n : Nat} (h : Zs u lo hi) (hb : Below n u u') (hn : hi ≤ n) : Zs u' lo hi := fun k h1 h2 => (h k h1 h2).below hb (by omega)
theorem Zs.alloc {u : World} {lo hi : Nat} (h : Zs u lo hi) (hh : hi = u.heap.size) : Zs (u.alloc (.cells #[.slice none 0 0, .bool false, .string ⟨#[]⟩, .int .i64 0, .int .i64 0, .int .i64 0, .int .i64 0] 25)) lo (hi + 1) := fun k h1 h2 => by
  rcases Nat.lt_or_ge k hi with h3 | h3
  · exact (h k h1 h3).al _
  · obtain rfl : k = hi := by omega
    exact bxAt _ _ _ _ hh.symm
theorem Zs.cells {u : World} {lo hi : Nat} (h : Zs u lo hi) (X : Nat) (h1 : lo ≤ X) (h2 : X < hi) : World.cell? u ⟨X, 0, none⟩ = some (.slice none 0 0) ∧ World.frozen? u ⟨X, 0, none⟩ = false ∧ World.cell? u ⟨X, 1, none⟩ = some (.bool false) ∧ World.frozen? u ⟨X, 1, none⟩ = false ∧ World.cell? u ⟨X, 2, none⟩ = some (.string ⟨#[]⟩) ∧ World.frozen? u ⟨X, 2, none⟩ = false ∧ World.cell? u ⟨X, 3, none⟩ = some (.int .i64 0) ∧ World.frozen? u ⟨X, 3, none⟩ = false ∧ World.cell? u ⟨X, 4, none⟩ = some (.int .i64 0) ∧ World.frozen? u ⟨X, 4, none⟩ = false ∧ World.cell? u ⟨X, 5, none⟩ = some (.int .i64 0) ∧ World.frozen? u ⟨X, 5, none⟩ = false ∧ World.cell? u ⟨X, 6, none⟩ = some (.int .i64 0) ∧ World.frozen? u ⟨X, 6, none⟩ = false := by
  have hb := h X h1 h2
  exact ⟨hb.cell rfl, hb.free 0, hb.cell rfl, hb.free 1, hb.cell rfl, hb.free 2, hb.cell rfl, hb.free 3, hb.cell rfl, hb.free 4, hb.cell rfl, hb.free 5, hb.cell rfl, hb.free 6⟩
theorem Zs.al {u : World} {lo hi : Nat} (h : Zs u lo hi) (o : Obj) : Zs (u.alloc o) lo hi := fun k h1 h2 => (h k h1 h2).al _
/-- what lies in memory before the two plans are made -/
structure Fp (w u : World) (base : Array Value) (v1 : Value) (L : List Tk) : Prop where
  bel : Below w.heap.size w u
  bb : Bx u w.heap.size base 25
  o1 : u.ownsRow (w.heap.size + 1) 44 8 v1 L.length (rowV tkV L)
section
variable {w u u' : World} {base : Array Value} {v1 : Value} {L : List Tk} {p : Option Addr} {c : Nat}
theorem Fp.below {n : Nat} (h : Fp w u base v1 L) (hb : Below n u u') (hn : u.heap.size ≤ n) : Fp w u' base v1 L := ⟨bstep h.bel (hb.mono hn) h.bel.size, h.bb.below hb (Nat.lt_of_lt_of_le h.bb.lt hn), row_bel h.o1 hb hn⟩
theorem Fp.drew (h : Fp w u base v1 L) : Fp w u.drew base v1 L := h.below (n := u.heap.size) (Below.refl _ _).drew (Nat.le_refl _)
theorem Fp.alloc (h : Fp w u base v1 L) (o : Obj) : Fp w (u.alloc o) base v1 L := h.below ((Below.refl _ _).alloc (Nat.le_refl _) _) (Nat.le_refl _)
theorem Fp.ts (h : Fp w u base (.slice p L.length c) L) : TsAt u p L := row_own tkV_len h.o1
end
/-- a world that has drawn, and has new plans of noughts, since u0 -/
def Ay (u0 u : World) : Prop := Below u0.heap.size u0 u ∧ Zs u u0.heap.size u.heap.size
theorem Ay.nil {u0 : World} : Ay u0 u0 := ⟨Below.refl _ _, Zs.nil _ _⟩
theorem Ay.drew {u0 u : World} (h : Ay u0 u) : Ay u0 u.drew := ⟨h.1.drew, fun k h1 h2 => h.2 k h1 h2⟩
theorem Ay.al {u0 u : World} (h : Ay u0 u) : Ay u0 (u.alloc (.cells #[.slice none 0 0, .bool false, .string ⟨#[]⟩, .int .i64 0, .int .i64 0, .int .i64 0, .int .i64 0] 25)) := ⟨h.1.alloc h.1.size _, fun k h1 h2 => (h.2.alloc rfl) k h1 (by simpa using h2)⟩
theorem Ay.bel {u0 u : World} (h : Ay u0 u) : Below u0.heap.size u0 u := h.1
theorem Ay.fp {w u0 u : World} {base : Array Value} {v1 : Value} {L : List Tk} (h : Ay u0 u) (hf : Fp w u0 base v1 L) : Fp w u base v1 L := hf.below h.1 (Nat.le_refl _)
theorem Ay.zs {u0 u : World} (h : Ay u0 u) : Zs u u0.heap.size u.heap.size := h.2
/-- what lies in memory behind: two plans in their boxes -/
structure Fq (w u : World) (base : Array Value) (cs : List Value) (v1 v2 v3 : Value) (A B : Nat) (L : List Tk) (K : List Pn) (X2 : List Value) : Prop where
  f : Fp w u base v1 L
  ba : Bx u A (v2 :: cs).toArray 25
  b3 : Bx u B (v3 :: cs).toArray 25
  o2 : u.ownsRow (w.heap.size + 1) 32 5 v2 K.length X2
  o3 : u.ownsRow (w.heap.size + 1) 32 5 v3 K.length (rowV pnV K)
  ab : A ≠ B
  wa : w.heap.size < A
  wb : w.heap.size < B
  n1 : ∀ g, v1.ownBlock = some g → g ≠ A ∧ g ≠ B ∧ v2.ownBlock ≠ some g
  n2 : ∀ g, v2.ownBlock = some g → g ≠ A ∧ g ≠ B
  n3 : ∀ g, v3.ownBlock = some g → g ≠ A ∧ g ≠ B ∧ v2.ownBlock ≠ some g
section
variable {w u u' : World} {base : Array Value} {cs : List Value} {v1 v2 v3 : Value} {A B n : Nat} {L : List Tk} {K : List Pn} {X2 : List Value}
theorem Fq.below (h : Fq w u base cs v1 v2 v3 A B L K X2) (hb : Below n u u') (hn : u.heap.size ≤ n) : Fq w u' base cs v1 v2 v3 A B L K X2 :=
  ⟨h.f.below hb hn, h.ba.below hb (Nat.lt_of_lt_of_le h.ba.lt hn), h.b3.below hb (Nat.lt_of_lt_of_le h.b3.lt hn), row_bel h.o2 hb hn, row_bel h.o3 hb hn, h.ab, h.wa, h.wb, h.n1, h.n2, h.n3⟩
/-- a store into the first plan's keys -/
theorem Fq.put {g c : Nat} (h : Fq w u base cs v1 (.slice (some ⟨g, 0, none⟩) K.length c) v3 A B L K X2) (j : Nat) (hj : j < K.length * 5) (x : Value) : Fq w (u.setCell ⟨g, j, none⟩ x) base cs v1 (.slice (some ⟨g, 0, none⟩) K.length c) v3 A B L K (X2.set j x) := by
  have hg := (h.o2.lt g rfl).1
  have hA := h.n2 g rfl
  refine ⟨⟨h.f.bel.setCell (p := ⟨g, j, none⟩) (by show w.heap.size ≤ g; omega) _, h.f.bb.far (by omega) _, row_blk h.f.o1 fun k e _ _ => Below.heap_setCell _ _ _ k ?_⟩, h.ba.far (fun e => hA.1 e.symm) _, h.b3.far (fun e => hA.2 e.symm) _, row_put h.o2 j hj x, row_blk h.o3 fun k e _ _ => Below.heap_setCell _ _ _ k ?_, h.ab, h.wa, h.wb, h.n1, h.n2, h.n3⟩
  · intro e'
    exact (h.n1 k e).2.2 (by rw [show k = g from e']; rfl)
  · intro e'
    exact (h.n3 k e).2.2 (by rw [show k = g from e']; rfl)
end
/-- what lies in memory at the last: both plans, the lines -/
structure Fe (w u : World) (ca cb : List Value) (p8 p3 p1 p : Option Addr) (A B : Nat) (L : List Tk) (K : List Pn) : Prop where
  bel : Below w.heap.size w u
  ba : Bx u A ca.toArray 25
  b3 : Bx u B cb.toArray 25
  ps8 : PsAt u p8 K
  ps3 : PsAt u p3 K
  ts1 : TsAt u p1 L
  ts : TsAt u p L
theorem Fe.below {w u u' : World} {ca cb : List Value} {p8 p3 p1 p : Option Addr} {A B : Nat} {L : List Tk} {K : List Pn} (h : Fe w u ca cb p8 p3 p1 p A B L K) (hb : Below u.heap.size u u') : Fe w u' ca cb p8 p3 p1 p A B L K :=
  ⟨bstep h.bel hb h.bel.size, h.ba.below hb h.ba.lt, h.b3.below hb h.b3.lt, row_below' h.ps8 hb, row_below' h.ps3 hb, row_below' h.ts1 hb, row_below' h.ts hb⟩
/-- seven stores into a box -/
def put7 (u : World) (A : Nat) (x0 x1 x2 x3 x4 x5 x6 : Value) : World := (((((((u.setCell ⟨A, 0, none⟩ x0).setCell ⟨A, 1, none⟩ x1).setCell ⟨A, 2, none⟩ x2).setCell ⟨A, 3, none⟩ x3).setCell ⟨A, 4, none⟩ x4).setCell ⟨A, 5, none⟩ x5).setCell ⟨A, 6, none⟩ x6)
theorem put7_heap (u : World) (A : Nat) (x0 x1 x2 x3 x4 x5 x6 : Value) (k : Nat) (hk : k ≠ A) : (put7 u A x0 x1 x2 x3 x4 x5 x6).heap[k]? = u.heap[k]? := by
  unfold put7
  rw [Below.heap_setCell _ _ _ k hk, Below.heap_setCell _ _ _ k hk, Below.heap_setCell _ _ _ k hk, Below.heap_setCell _ _ _ k hk, Below.heap_setCell _ _ _ k hk, Below.heap_setCell _ _ _ k hk, Below.heap_setCell _ _ _ k hk]
theorem put7_below {w u : World} {A n : Nat} (h : Below n w u) (hA : n ≤ A) (x0 x1 x2 x3 x4 x5 x6 : Value) : Below n w (put7 u A x0 x1 x2 x3 x4 x5 x6) :=
  ((((((h.setCell (p := ⟨A, 0, none⟩) hA _).setCell (p := ⟨A, 1, none⟩) hA _).setCell (p := ⟨A, 2, none⟩) hA _).setCell (p := ⟨A, 3, none⟩) hA _).setCell (p := ⟨A, 4, none⟩) hA _).setCell (p := ⟨A, 5, none⟩) hA _).setCell (p := ⟨A, 6, none⟩) hA _
theorem put7_size (u : World) (A : Nat) (x0 x1 x2 x3 x4 x5 x6 : Value) : (put7 u A x0 x1 x2 x3 x4 x5 x6).heap.size = u.heap.size := by unfold put7; simp only [set_size]
theorem put7_bx {u : World} {A : Nat} {y0 y1 y2 y3 y4 y5 y6 : Value} {T : TypeId} (h : Bx u A #[y0, y1, y2, y3, y4, y5, y6] T) (x0 x1 x2 x3 x4 x5 x6 : Value) : Bx (put7 u A x0 x1 x2 x3 x4 x5 x6) A #[x0, x1, x2, x3, x4, x5, x6] T := by
  have hF := (((((((h.set 0 x0).set 1 x1).set 2 x2).set 3 x3).set 4 x4).set 5 x5).set 6 x6)
  simp only [List.setIfInBounds_toArray, List.set_cons_zero, List.set_cons_succ] at hF
  exact hF
theorem put7_row {α : Type} {C : Nat} {V : α → List Value} {u : World} {A : Nat} {p : Option Addr} {l : List α} (h : RowAt C V u p l) (hne : 0 < l.length → ∀ g off, p = some ⟨g, off, none⟩ → g ≠ A) (x0 x1 x2 x3 x4 x5 x6 : Value) : RowAt C V (put7 u A x0 x1 x2 x3 x4 x5 x6) p l := fun k hk => by
  obtain ⟨g, off, hp, hg, e⟩ := h k hk
  refine ⟨g, off, hp, by rw [put7_size]; exact hg, fun r hr => ?_⟩
  rw [← e r hr]
  simp only [World.cell?, put7_heap u A x0 x1 x2 x3 x4 x5 x6 g (hne (by omega) g off hp)]
/-- the first plan is made anew -/
theorem Fq.anew {w u u' : World} {base : Array Value} {k1 k2 k3 k4 k5 k6 : Value} {A B c1 c2 c3 c8 : Nat} {p p1 p2 p3 p8 : Option Addr} {L : List Tk} {K : List Pn} {X2 : List Value} (h : Fq w u base [k1, k2, k3, k4, k5, k6] (.slice p1 L.length c1) (.slice p2 K.length c2) (.slice p3 K.length c3) A B L K X2)
    (hA : TsAt w p L) (hb : Below u.heap.size u u') (ho : u'.ownsRow u.heap.size 32 5 (.slice p8 K.length c8) K.length (rowV pnV K)) :
    Fe w (put7 u' A (.slice p8 K.length c8) k1 k2 k3 k4 k5 k6) [.slice p8 K.length c8, k1, k2, k3, k4, k5, k6] [.slice p3 K.length c3, k1, k2, k3, k4, k5, k6] p8 p3 p1 p A B L K := by
  have h' := h.below hb (Nat.le_refl _)
  have hAlt := h.ba.lt
  refine ⟨put7_below h'.f.bel (Nat.le_of_lt h.wa) _ _ _ _ _ _ _, put7_bx h'.ba _ _ _ _ _ _ _, (put7_heap _ _ _ _ _ _ _ _ _ _ (fun e => h.ab e.symm)).trans h'.b3, put7_row (row_own pnV_len ho) (fun hl g off e => ?_) _ _ _ _ _ _ _, put7_row (row_own pnV_len h'.o3) (fun hl g off e => ?_) _ _ _ _ _ _ _, put7_row h'.f.ts (fun hl g off e => ?_) _ _ _ _ _ _ _, put7_row (row_below' hA h'.f.bel) (fun hl g off e => ?_) _ _ _ _ _ _ _⟩
  · have := (row_base ho g off e).1; omega
  · exact (h.n3 g (by rw [e]; rfl)).1
  · exact (h.n1 g (by rw [e]; rfl)).1
  · obtain ⟨g', off', e', hg', _⟩ := hA 0 hl
    rw [e] at e'
    obtain ⟨rfl, rfl⟩ : g = g' ∧ off = off' := by simpa using e'
    have := h.wa
    omega
/-- the regions of a number in a code -/
def regs (n : Nat) : Code → List Code
  | .region k o d => bif k == n then [.region k o d] else []
  | .seq a b => regs n a ++ regs n b
  | .block _ c => regs n c
  | .scope c => regs n c
  | .cond _ a b => regs n a ++ regs n b
  | .loop c => regs n c
  | _ => []
end Go.Proofs.Ytlidocgnboobfaa
