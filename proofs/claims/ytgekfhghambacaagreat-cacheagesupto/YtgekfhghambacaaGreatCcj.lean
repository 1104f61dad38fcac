import Derived.Test.YtgekfhghambacaaGreatCci
import Derived.Test.YtgekfhghambacaaGreatSgv
/-
  Chapter 12: Put, plainly. (The verifier's own text.)
-/
namespace Go.Proofs.YtgekfhghambacaaGreat
set_option linter.unusedVariables false
set_option linter.unusedSimpArgs false
open Go.RowKit Go.Shelf Go.Maps Go.Proofs.YtgekfhghambacaaGreat.Nm

theorem ds_facts {L : List Rn} (h : dsB L = true) : ∃ x l, L = x :: l ∧ ∀ r ∈ L, zonR r = true ∧ r.t = x.t ∧ eqB r.o x.o = true := by
  cases L with
  | nil => cases h
  | cons x l =>
    refine ⟨x, l, rfl, fun r hr => ?_⟩
    unfold dsB at h
    simp only [Bool.and_eq_true, Bool.not_eq_true'] at h
    have := List.any_eq_false.1 h.1 r hr
    unfold strB at this
    simp at this
    refine ⟨?_, this.1.2, this.2⟩
    unfold zonR
    exact this.1.1
theorem ageF_min (R : List Rn) : ∀ (a : Int), (∀ r ∈ R, 0 ≤ r.l) → 0 ≤ a → (R.foldl (fun a r => min a r.l) a ≤ a ∧ 0 ≤ R.foldl (fun a r => min a r.l) a ∧ ∀ r ∈ R, R.foldl (fun a r => min a r.l) a ≤ r.l) := by
  induction R with
  | nil => intro a _ ha; exact ⟨Int.le_refl _, ha, fun r hr => by cases hr⟩
  | cons x R ih =>
    intro a hr ha
    have hx := hr x List.mem_cons_self
    obtain ⟨h1, h2, h3⟩ := ih (min a x.l) (fun r h => hr r (List.mem_cons_of_mem _ h)) (by omega)
    rw [List.foldl_cons]
    refine ⟨by omega, h2, fun r h => ?_⟩
    rcases List.mem_cons.1 h with rfl | h
    · omega
    · exact h3 r h
theorem ageF_facts {R : List Rn} (h : ∀ r ∈ R, 0 ≤ r.l) : 0 ≤ ageF R ∧ ageF R ≤ 604800 ∧ ∀ r ∈ R, ageF R ≤ r.l := by
  obtain ⟨h1, h2, h3⟩ := ageF_min R 604800 h (by omega)
  exact ⟨h2, h1, h3⟩
/-- what Put answers -/
def putC (S : List Ce) (L : List Rn) (rank now : Int) : Int := if rank < 1 ∨ rank > 4 ∨ ¬ (0 ≤ now ∧ now ≤ 4294967295) then 23 else match L with
  | [] => 8
  | x :: l => if dsB (x :: l) = true then (match atK Ce.key (setK x.o x.t) S with
      | some e => if e.fin > now ∧ e.rank > rank then 30 else 0
      | none => 0) else 8
/-- the voids of names go -/
def voidsS (us : List ByteArray) (S : List Ce) : List Ce := us.foldl (fun S x => outK Ce.key (voidK x) S) S
theorem voidsS_sub : ∀ (us : List ByteArray) (S : List Ce), (voidsS us S).Sublist S
  | [], S => List.Sublist.refl _
  | u :: us, S => (voidsS_sub us _).trans outK_sub
theorem voidsS_snoc (us : List ByteArray) (u : ByteArray) (S : List Ce) : voidsS (us ++ [u]) S = outK Ce.key (voidK u) (voidsS us S) := by
  unfold voidsS
  rw [List.foldl_append]
  rfl
/-- what Put makes of the entries, ahead of pushing out -/
def putS (L : List Rn) (o : ByteArray) (t now rank came : Int) (p : Option Addr) (c b : Nat) (S : List Ce) : List Ce := voidsS (upL o) (outK Ce.key (lackK o t) (repS (setK o t) now (ageF L) rank came L p c b S))
section
variable {w w1 w2 : World} {L M P base : Nat} {most came : Int} {S : List Ce} {Q : List Qe}
/-- whatever is cells stays -/
theorem Cac.keepT (h : Cac w L M P base most came S Q) (hT : ∀ (k : Nat) (o : Obj), w.heap[k]? = some o → o.isCells = true → w1.heap[k]? = some o) (hp : Pmap w1 P Q) (hsz : w.heap.size ≤ w1.heap.size) : Cac w1 L M P base most came S Q := by
  refine ⟨hT _ _ h.bx rfl, hp, fun e he => ?_, fun q hq => ?_, h.all, h.gs, h.blk, h.keys, h.good, h.bL, h.bM, h.bP, h.mp, h.len, Nat.le_trans h.hw hsz⟩
  · obtain ⟨a, ⟨b1, b2⟩, c⟩ := h.en e he
    refine ⟨hT _ _ a rfl, ⟨fun k hk => ?_, fun ad had => ?_⟩, c⟩
    · obtain ⟨g, off, hp, hgl, e0, e1, e2, e3, e4⟩ := b1 k hk
      obtain ⟨cur, T, f, f1, f2, f3, f4⟩ := b2 _ hp
      have hb := hT _ _ f1 rfl
      rw [← f1] at hb
      have hc : ∀ j, w1.cell? ⟨g, j, none⟩ = w.cell? ⟨g, j, none⟩ := fun j => by simp only [World.cell?]; rw [hb]
      exact ⟨g, off, hp, Nat.lt_of_lt_of_le hgl hsz, (hc _).trans e0, (hc _).trans e1, (hc _).trans e2, (hc _).trans e3, (hc _).trans e4⟩
    · obtain ⟨cur, T, f, f1, f2, f3, f4⟩ := b2 _ had
      exact ⟨cur, T, f, hT _ _ f1 rfl, f2, f3, f4⟩
  · obtain ⟨h1, h2, h3, h4⟩ := h.rows q hq
    obtain ⟨cur, hc⟩ := row_block h4
    exact ⟨h1, h2, h3, row_keptQ h4 ((hT _ _ hc rfl).trans hc.symm)⟩
/-- a block that is no cells, beyond the maps, turns -/
theorem Cac.walk {B : Nat} {row : Option Nat} (h : Cac w L M P base most came S Q) (hg : w.grownBy w1 row) (hr : ∀ r, row = some r → B ≤ r ∧ ∃ o : Obj, w.heap[r]? = some o ∧ o.isCells = false) (hP : P < B) : Cac w1 L M P base most came S Q := by
  refine h.keepT (fun k o hk hc => ?_) (h.pm.kept hg (fun e => ?_)) hg.size
  · refine (hg.block k (Array.getElem?_eq_some_iff.1 hk).1 (fun e => ?_)).trans hk
    obtain ⟨_, o', ho, hn⟩ := hr k e.symm
    rw [hk] at ho
    injection ho with ho
    rw [ho, hn] at hc
    cases hc
  · have := (hr P e.symm).1
    omega
theorem Emap.walk {B : Nat} {row : Option Nat} (h : Emap w M S) (hg : w.grownBy w1 row) (hr : ∀ r, row = some r → B ≤ r ∧ ∃ o : Obj, w.heap[r]? = some o ∧ o.isCells = false) (hM : M < B) : Emap w1 M S := Lmap.kept h hg (fun e => by have := (hr M e.symm).1; omega)
theorem Fk.walk {K : Nat → Obj → Prop} {B : Nat} {row : Option Nat} (h : Fk K base w w1) (hg : w1.grownBy w2 row) (hr : ∀ r, row = some r → B ≤ r ∧ ∃ o : Obj, w1.heap[r]? = some o ∧ o.isCells = false) (hB : w.heap.size ≤ B) : Fk K base w w2 := by
  cases row with
  | none => exact h.trans (Fk.idle hg)
  | some r => exact h.fresh hg (Nat.le_trans hB (hr r rfl).1)
/-- what a round keeps -/
theorem Fk.keepsFrom {B : Nat} (h : Fk (FC M P) base w w1) (hM : M < B) (hP : P < B) : KeepsFrom B w w1 :=
  ⟨h.size, fun k o hk ho hn => h.far k o ho (fun hx => by
    cases o with
    | map es c => rcases hx with e | e <;> omega
    | cells cs T f => cases hn
    | _ => exact hx.elim)⟩
/-- what Put does -/
def putE (w : World) (L M P base : Nat) (most came : Int) (S : List Ce) (R : List Rn) (rank now : Int) (r : Ending) (w' : World) : Prop :=
  r = .returned (.int .i64 (putC S R rank now)) ∧ ∃ S' Q' came', Cac w' L M P base most came' S' Q' ∧ Emap w' M S' ∧ Fk (FC M P) base w w' ∧
    ((putC S R rank now ≠ 0 ∧ S' = S ∧ came' = came) ∨
      (putC S R rank now = 0 ∧ dsB R = true ∧ ∃ x l, R = x :: l ∧ ∃ p c b, came' = repC (ageF R) came ∧ pushE most now (putS R x.o x.t now rank came p c b S) S'))
end
end Go.Proofs.YtgekfhghambacaaGreat
