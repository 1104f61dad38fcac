import Derived.Test.YtinnmfidnecncaaFt7
/-
  wire.Fit. (The verifier's own text.)
-/
namespace Go.Proofs.Ytinnmfidnecncaa
set_option linter.unusedVariables false
open Go.RowKit Go.Shelf Go.Maps Go.Proofs.Ytinnmfidnecncaa.Nm

/-- questions below a mark -/
def QsB (w : World) (base : Nat) (p : Option Addr) (l : List Qn) : Prop := ∀ k, (hk : k < l.length) → ∃ g off, p = some ⟨g, off, none⟩ ∧ g < base ∧ w.cell? ⟨g, off + k * 3, none⟩ = some (.string l[k].n) ∧ w.cell? ⟨g, off + k * 3 + 1, none⟩ = some (.int .i64 l[k].t) ∧ w.cell? ⟨g, off + k * 3 + 2, none⟩ = some (.int .i64 l[k].c)
theorem QsB.low {w w' : World} {base : Nat} {p : Option Addr} {l : List Qn} (h : QsB w base p l) (hb : Below base w w') : QsB w' base p l := fun k hk => by
  obtain ⟨g, off, h1, h2, h3, h4, h5⟩ := h k hk
  exact ⟨g, off, h1, h2, (hb.cell (p := ⟨g, off + k * 3, none⟩) h2).trans h3, (hb.cell (p := ⟨g, off + k * 3 + 1, none⟩) h2).trans h4, (hb.cell (p := ⟨g, off + k * 3 + 2, none⟩) h2).trans h5⟩
theorem qsB_own {w : World} {b bd n c : Nat} {p : Option Addr} {L : List Qn} (h : w.ownsRow b 51 3 (.slice p n c) n (qce3 L)) (hn : n = L.length) (hb : ∀ g, (Value.slice p n c).ownBlock = some g → g < bd) : QsB w bd p L := fun k hk => by
  rcases h.2 with ⟨h1, h0⟩ | ⟨g, cap, cur, h1, rest⟩
  · omega
  · injection h1 with h1 h2 h3
    subst h1; subst hn
    have hc : ∀ i, i < L.length * 3 → w.cell? ⟨g, i, none⟩ = (qce3 L)[i]? := fun i hi => World.ownsRow.cellAt h i hi
    obtain ⟨e0, e1, e2⟩ := get3 L k hk
    exact ⟨g, 0, rfl, hb g rfl, by rw [Nat.zero_add]; exact (hc _ (by omega)).trans e0, by rw [Nat.zero_add]; exact (hc _ (by omega)).trans e1, by rw [Nat.zero_add]; exact (hc _ (by omega)).trans e2⟩
theorem rsB_own {w : World} {b bd n c : Nat} {p : Option Addr} {L : List Rn} (h : w.ownsRow b 70 5 (.slice p n c) n (rce5 L)) (hn : n = L.length) (hb : ∀ g, (Value.slice p n c).ownBlock = some g → g < bd) : RsB w bd p L := fun k hk => by
  rcases h.2 with ⟨h1, h0⟩ | ⟨g, cap, cur, h1, rest⟩
  · omega
  · injection h1 with h1 h2 h3
    subst h1; subst hn
    have hc : ∀ i, i < L.length * 5 → w.cell? ⟨g, i, none⟩ = (rce5 L)[i]? := fun i hi => World.ownsRow.cellAt h i hi
    obtain ⟨e0, e1, e2, e3, e4⟩ := get5 L k hk
    exact ⟨g, 0, rfl, hb g rfl, by rw [Nat.zero_add]; exact (hc _ (by omega)).trans e0, by rw [Nat.zero_add]; exact (hc _ (by omega)).trans e1, by rw [Nat.zero_add]; exact (hc _ (by omega)).trans e2, by rw [Nat.zero_add]; exact (hc _ (by omega)).trans e3, by rw [Nat.zero_add]; exact (hc _ (by omega)).trans e4⟩
/-- Fit under way: the message's box and its lists -/
structure FS (w wr : World) (P g bd : Nat) (M : Array Value) (q1 a1 u1 d1 : Option Addr) (cd : Nat) (Q : List Qn) (A U Dk : List Rn) : Prop where
  bx : Bx wr P M 25
  q : QsB wr bd q1 Q
  a : RsB wr bd a1 A
  u : RsB wr bd u1 U
  d : DR wr d1 cd g Dk
  hg : bd ≤ g
  gP : g ≠ P
  bP : bd ≤ P
  wb : w.heap.size ≤ bd
  bl : Below w.heap.size w wr
  nq : ∀ g' off, q1 = some ⟨g', off, none⟩ → w.heap.size + 2 ≤ g'
  na : ∀ g' off, a1 = some ⟨g', off, none⟩ → w.heap.size + 2 ≤ g'
  nu : ∀ g' off, u1 = some ⟨g', off, none⟩ → w.heap.size + 2 ≤ g'
section
variable {w wr w2 : World} {P g bd : Nat} {M : Array Value} {q1 a1 u1 d1 : Option Addr} {cd : Nat} {Q : List Qn} {A U Dk : List Rn}
theorem DR.below (h : DR wr d1 cd g Dk) (hb : Below wr.heap.size wr w2) : DR w2 d1 cd g Dk := by
  refine ⟨h.1, ?_⟩
  rcases h.2 with ⟨rest, h1, h2, h3⟩ | h0
  · exact .inl ⟨rest, h1, h2, h3.below hb h3.lt⟩
  · exact .inr h0
theorem DR.far (h : DR wr d1 cd g Dk) {R : Nat} (hne : g ≠ R) (j : Nat) (u : Value) : DR (wr.setCell ⟨R, j, none⟩ u) d1 cd g Dk := by
  refine ⟨h.1, ?_⟩
  rcases h.2 with ⟨rest, h1, h2, h3⟩ | h0
  · exact .inl ⟨rest, h1, h2, Bx.far h3 hne j u⟩
  · exact .inr h0
theorem FS.low (h : FS w wr P g bd M q1 a1 u1 d1 cd Q A U Dk) : bd ≤ wr.heap.size := Nat.le_trans h.bP (Nat.le_of_lt h.bx.lt)
theorem FS.below (h : FS w wr P g bd M q1 a1 u1 d1 cd Q A U Dk) (hb : Below wr.heap.size wr w2) : FS w w2 P g bd M q1 a1 u1 d1 cd Q A U Dk :=
  ⟨h.bx.below hb h.bx.lt, h.q.low (hb.mono h.low), h.a.low (hb.mono h.low), h.u.low (hb.mono h.low), h.d.below hb, h.hg, h.gP, h.bP, h.wb, bstep h.bl hb h.bl.size, h.nq, h.na, h.nu⟩
theorem FS.ls (h : FS w wr P g bd M q1 a1 u1 d1 cd Q A U Dk) {i0 i2 i9 : Int} (hm : msgOK i0 i2 i9 Q A U Dk = true) : LsAt wr q1 a1 u1 d1 Q A U Dk := by
  obtain ⟨_, _, _, _, _, _, _, hl⟩ := msgOK_parts hm
  obtain ⟨oq, oa, ou, od⟩ := lstOK_parts hl
  have hmx : 65535 ≤ maxLen := by decide
  have hr : ∀ r : Rn, rOK r = true → r.o.size ≤ maxLen ∧ r.d.size ≤ 9223372036854775807 := fun r hr => by
    obtain ⟨h1, _, _, _, hd⟩ := rOK_parts hr
    have h2 := ((isN_iff r.o).1 h1).1
    have h3 := hd.1
    exact ⟨by omega, by omega⟩
  have hRs : ∀ (p : Option Addr) (L : List Rn), RsB wr bd p L → RsAt wr p L := fun p L hh k hk => by
    obtain ⟨g', off, h1, h2, rest⟩ := hh k hk
    exact ⟨g', off, h1, Nat.lt_of_lt_of_le h2 h.low, rest⟩
  refine ⟨fun k hk => ?_, hRs _ _ h.a, hRs _ _ h.u, h.d.at, fun q hq => ?_, fun r h => hr r (oa r h), fun r h => hr r (ou r h), fun r h => hr r (od r h)⟩
  · obtain ⟨g', off, h1, h2, rest⟩ := h.q k hk
    exact ⟨g', off, h1, Nat.lt_of_lt_of_le h2 h.low, rest⟩
  · have h2 := ((isN_iff q.n).1 (qOK_parts (oq q hq)).1).1
    omega
theorem FS.strip (h : FS w wr P g bd M q1 a1 u1 d1 cd Q A U Dk) : FS w wr P g bd M q1 none none d1 cd Q [] [] Dk :=
  ⟨h.bx, h.q, fun k hk => absurd hk (Nat.not_lt_zero _), fun k hk => absurd hk (Nat.not_lt_zero _), h.d, h.hg, h.gP, h.bP, h.wb, h.bl, h.nq, (fun g' off e => by cases e), (fun g' off e => by cases e)⟩
theorem cell_blk {w w' : World} {R : Nat} (hg : w.grownBy w' (some R)) {g' : Nat} (hlt : g' < w.heap.size) (hne : g' ≠ R) (j : Nat) : w'.cell? ⟨g', j, none⟩ = w.cell? ⟨g', j, none⟩ := by
  have := hg.block g' hlt (fun e => hne (by injection e))
  simp only [World.cell?, this]
/-- .. the same where a box beside them is written -/
theorem FS.ls2 (h : FS w wr P g bd M q1 a1 u1 d1 cd Q A U Dk) {i0 i2 i9 : Int} (hm : msgOK i0 i2 i9 Q A U Dk = true) (hR : w.heap.size + 1 < bd) (hg : wr.grownBy w2 (some (w.heap.size + 1))) : LsAt w2 q1 a1 u1 d1 Q A U Dk := by
  have hl := h.ls hm
  have hRs : ∀ (p : Option Addr) (L : List Rn), RsAt wr p L → (∀ g' off, p = some ⟨g', off, none⟩ → 0 < L.length → g' ≠ w.heap.size + 1) → RsAt w2 p L := fun p L hh hne k hk => by
    obtain ⟨g', off, h1, h2, e0, e1, e2, e3, e4⟩ := hh k hk
    have hn := hne g' off h1 (by omega)
    exact ⟨g', off, h1, Nat.lt_of_lt_of_le h2 hg.size, (cell_blk hg h2 hn _).trans e0, (cell_blk hg h2 hn _).trans e1, (cell_blk hg h2 hn _).trans e2, (cell_blk hg h2 hn _).trans e3, (cell_blk hg h2 hn _).trans e4⟩
  refine ⟨fun k hk => ?_, hRs _ _ hl.a (fun g' off e _ => by have := h.na g' off e; omega), hRs _ _ hl.u (fun g' off e _ => by have := h.nu g' off e; omega), hRs _ _ hl.d (fun g' off e hn => ?_), hl.zqs, hl.zas, hl.zus, hl.zds⟩
  · obtain ⟨g', off, h1, h2, e0, e1, e2⟩ := hl.q k hk
    have hn : g' ≠ w.heap.size + 1 := by have := h.nq g' off h1; omega
    exact ⟨g', off, h1, Nat.lt_of_lt_of_le h2 hg.size, (cell_blk hg h2 hn _).trans e0, (cell_blk hg h2 hn _).trans e1, (cell_blk hg h2 hn _).trans e2⟩
  · rcases h.d.2 with ⟨rest, hp, _, _⟩ | ⟨h0, _⟩
    · rw [hp] at e
      injection e with e
      injection e with e
      have := h.hg; omega
    · rw [h0] at hn; exact absurd hn (Nat.lt_irrefl 0)
theorem grown14 (w : World) (R : Nat) (v0 v1 v2 v3 v4 v5 v6 v7 v8 v9 v10 v11 v12 v13 : Value) : w.grownBy (set14 w R v0 v1 v2 v3 v4 v5 v6 v7 v8 v9 v10 v11 v12 v13) (some R) :=
  grown_trans (grown_trans (grown_trans (grown_trans (grown_trans (grown_trans (grown_trans (grown_trans (grown_trans (grown_trans (grown_trans (grown_trans (grown_trans (grown_set _ R 0 v0) (grown_set _ R 1 v1)) (grown_set _ R 2 v2)) (grown_set _ R 3 v3)) (grown_set _ R 4 v4)) (grown_set _ R 5 v5)) (grown_set _ R 6 v6)) (grown_set _ R 7 v7)) (grown_set _ R 8 v8)) (grown_set _ R 9 v9)) (grown_set _ R 10 v10)) (grown_set _ R 11 v11)) (grown_set _ R 12 v12)) (grown_set _ R 13 v13)
/-- some of the additional records are dropped, and the box told so -/
theorem FS.drop (h : FS w wr P g bd M q1 a1 u1 d1 cd Q A U Dk) {D2 : List Rn} (hg : wr.grownBy w2 (some g)) (hd : DR w2 d1 cd g D2) (v : Value) : FS w (w2.setCell ⟨P, 13, none⟩ v) P g bd (M.setIfInBounds 13 v) q1 a1 u1 d1 cd Q A U D2 := by
  have h1 : Bx w2 P M 25 := h.bx.grown hg (by intro e; injection e with e; exact h.gP e)
  have hb : Below bd wr w2 := ⟨hg.os, hg.tape, hg.output, hg.size, fun k hk => hg.block k (Nat.lt_of_lt_of_le hk h.low) (fun e => by injection e with e; have := h.hg; omega)⟩
  have hb2 : Below bd wr (w2.setCell ⟨P, 13, none⟩ v) := hb.grown (grown_set w2 P 13 v) (Nat.le_trans h.low hg.size) (fun q e => by injection e with e; have := h.bP; omega)
  have hbw : Below w.heap.size w (w2.setCell ⟨P, 13, none⟩ v) := by
    have h3 := hb2.mono h.wb
    exact ⟨h3.os.trans h.bl.os, h3.tape.trans h.bl.tape, h3.output.trans h.bl.output, Nat.le_trans h.bl.size h3.size, fun k hk => (h3.block k hk).trans (h.bl.block k hk)⟩
  exact ⟨h1.set 13 v, h.q.low hb2, h.a.low hb2, h.u.low hb2, hd.far h.gP 13 v, h.hg, h.gP, h.bP, h.wb, hbw, h.nq, h.na, h.nu⟩
theorem FS.put (h : FS w wr P g bd M q1 a1 u1 d1 cd Q A U Dk) (j : Nat) (v : Value) : FS w (wr.setCell ⟨P, j, none⟩ v) P g bd (M.setIfInBounds j v) q1 a1 u1 d1 cd Q A U Dk := by
  have hb2 : Below bd wr (wr.setCell ⟨P, j, none⟩ v) := (Below.refl bd wr).grown (grown_set wr P j v) h.low (fun q e => by injection e with e; have := h.bP; omega)
  have hbw : Below w.heap.size w (wr.setCell ⟨P, j, none⟩ v) := by
    have h3 := hb2.mono h.wb
    exact ⟨h3.os.trans h.bl.os, h3.tape.trans h.bl.tape, h3.output.trans h.bl.output, Nat.le_trans h.bl.size h3.size, fun k hk => (h3.block k hk).trans (h.bl.block k hk)⟩
  exact ⟨h.bx.set j v, h.q.low hb2, h.a.low hb2, h.u.low hb2, h.d.far h.gP j v, h.hg, h.gP, h.bP, h.wb, hbw, h.nq, h.na, h.nu⟩
end
theorem fit_begin {w w1 w2 wp : World} {bd qc1 ac1 uc1 cd : Nat} {q1 a1 u1 d1 : Option Addr} {Q : List Qn} {A U D : List Rn} {cs : Array Value} (hB1 : Below w.heap.size w w1) (hB2 : Below w1.heap.size w1 w2) (oq : w2.ownsRow w1.heap.size 51 3 (.slice q1 Q.length qc1) Q.length (qce3 Q)) (oa : w2.ownsRow w1.heap.size 70 5 (.slice a1 A.length ac1) A.length (rce5 A)) (ou : w2.ownsRow w1.heap.size 70 5 (.slice u1 U.length uc1) U.length (rce5 U)) (od : w2.ownsRow bd 70 5 (.slice d1 D.length cd) D.length (rce5 D))
    (gq : ∀ g, (Value.slice q1 Q.length qc1).ownBlock = some g → g < bd) (ga : ∀ g, (Value.slice a1 A.length ac1).ownBlock = some g → g < bd) (gu : ∀ g, (Value.slice u1 U.length uc1).ownBlock = some g → g < bd) (hbd : w1.heap.size ≤ bd) (hbd2 : bd ≤ w2.heap.size) (hR1 : w.heap.size + 1 < w1.heap.size) (hwp : w2.alloc (.cells cs 25) = wp) : ∃ g, Hid (FS w wp w2.heap.size g bd cs q1 a1 u1 d1 cd Q A U D) := by
  have hal : Below w2.heap.size w2 wp := hwp ▸ (Below.refl _ w2).alloc (Nat.le_refl _) _
  have hbx : Bx wp w2.heap.size cs 25 := hwp ▸ World.alloc_heap_new w2 _
  have hbl : Below w.heap.size w wp := bstep (bstep hB1 hB2 hB1.size) hal (Nat.le_trans hB1.size hB2.size)
  have hq : QsB wp bd q1 Q := (qsB_own oq rfl gq).low (hal.mono hbd2)
  have ha : RsB wp bd a1 A := (rsB_own oa rfl ga).low (hal.mono hbd2)
  have hu : RsB wp bd u1 U := (rsB_own ou rfl gu).low (hal.mono hbd2)
  have hwb : w.heap.size ≤ bd := Nat.le_trans hB1.size hbd
  have hlo : ∀ (p : Option Addr) (n c e s : Nat) (xs : List Value), w2.ownsRow w1.heap.size e s (.slice p n c) n xs → ∀ g' off, p = some ⟨g', off, none⟩ → w.heap.size + 2 ≤ g' := fun p n c e s xs h g' off hp => by
    subst hp
    have := (h.lt g' rfl).1
    omega
  rcases Nat.eq_zero_or_pos cd with h0 | h0
  · subst h0
    obtain ⟨_, _, hv, hv2, _⟩ := own_shape od
    injection hv with _ _ hv3
    have hD : D = [] := List.eq_nil_of_length_eq_zero (by omega)
    exact ⟨w2.heap.size + 1, hbx, hq, ha, hu, ⟨by omega, .inr ⟨hD, rfl⟩⟩, by omega, by omega, hbd2, hwb, hbl, hlo _ _ _ _ _ _ oq, hlo _ _ _ _ _ _ oa, hlo _ _ _ _ _ _ ou⟩
  · rcases od.2 with ⟨h1, h2⟩ | ⟨g, cap, cur, h1, hb, hh, hn, _⟩
    · injection h1 with _ _ h3; omega
    · injection h1 with h1 h2 h3
      subst h1; subst h3
      obtain ⟨rest, hr, hbg⟩ := rb_own od
      have hlt : g < w2.heap.size := hr.lt
      exact ⟨g, hbx, hq, ha, hu, ⟨hn, .inl ⟨rest, rfl, h0, hr.below hal hlt⟩⟩, hbg, by omega, hbd2, hwb, hbl, hlo _ _ _ _ _ _ oq, hlo _ _ _ _ _ _ oa, hlo _ _ _ _ _ _ ou⟩
/-- what is right of fewer is right -/
theorem msgOK_less {i0 i2 i9 : Int} {Q : List Qn} {A U D D2 : List Rn} (h : msgOK i0 i2 i9 Q A U D = true) (hs : ∀ r ∈ D2, r ∈ D) (hl : D2.length ≤ D.length) : msgOK i0 i2 i9 Q A U D2 = true := by
  unfold msgOK lstOK at h ⊢
  simp only [Bool.and_eq_true, decide_eq_true_eq, List.all_eq_true] at h ⊢
  exact ⟨⟨h.1.1, by omega⟩, h.2.1, h.2.2.1, fun r hr => h.2.2.2 r (hs r hr)⟩
theorem msgOK_none {i0 i2 i9 : Int} {Q : List Qn} {A U D : List Rn} (h : msgOK i0 i2 i9 Q A U D = true) : msgOK i0 i2 i9 Q [] [] D = true := by
  unfold msgOK lstOK at h ⊢
  simp only [Bool.and_eq_true, decide_eq_true_eq, List.all_eq_true] at h ⊢
  exact ⟨⟨⟨⟨h.1.1.1.1, by simp⟩, by simp⟩, h.1.2⟩, h.2.1, ⟨by simp, by simp⟩, h.2.2.2⟩
theorem run_upto2 (p : Option Addr) (len cap i : Nat) (hc : i ≤ cap) (W : World) : (Instr.slice 23 (.slice p len cap) none (some (.int .i64 (i : Int))) none).run Try.prog W = .ok (.slice p i cap) W := by
  have ht' : Try.prog.underlying 23 = some (.slice (Try.prog.elem 23)) := by simp [Program.elem, Try.underlying23]
  have he' : Try.prog.elem 23 = 70 := by simp [Program.elem, Try.underlying23]
  rw [run_slice_h W _ _ _ _ ht' .i64 _ (by omega) (by omega), he', Try.sizeOf70]
  cases p with
  | none => simp [Result.andThen, sliced]
  | some ad => simp [Result.andThen, sliced, Addr.add]
/-- how long a list in a cell is -/
def lenAt (w : World) (P : Nat) : Nat := match w.cell? ⟨P, 13, none⟩ with | some (.slice _ n _) => n | _ => 0

/-- along Fit's loop -/
structure FL (most : Int) (i0 i2 i9 : Nat) (b1 b3 b4 b5 b6 b7 b8 : Bool) (w wr : World) (P g bd : Nat) (q1 a1 u1 d1 : Option Addr) (qc1 ac1 uc1 cd : Nat) (Q : List Qn) (A U D Dk : List Rn) : Prop where
  fs : FS w wr P g bd #[.int .i64 (i0 : Int), .bool b1, .int .i64 (i2 : Int), .bool b3, .bool b4, .bool b5, .bool b6, .bool b7, .bool b8, .int .i64 (i9 : Int), .slice q1 Q.length qc1, .slice a1 A.length ac1, .slice u1 U.length uc1, .slice d1 Dk.length cd] q1 a1 u1 d1 cd Q A U Dk
  mem : ∀ r ∈ Dk, r ∈ D
  len : Dk.length ≤ D.length
  orr : Dk = D ∨ most < (((fitR most i0 i2 i9 b1 b3 b4 b5 b6 b7 b8 Q A U D).1.out.size : Nat) : Int)
  rb : Bx wr (w.heap.size + 1) #[.int .i64 0, .bool false, .int .i64 0, .bool false, .bool false, .bool false, .bool false, .bool false, .bool false, .int .i64 0, .slice none 0 0, .slice none 0 0, .slice none 0 0, .slice none 0 0] 25
theorem lenAt_fs {most : Int} {i0 i2 i9 : Nat} {b1 b3 b4 b5 b6 b7 b8 : Bool} {w wr : World} {P g bd : Nat} {q1 a1 u1 d1 : Option Addr} {qc1 ac1 uc1 cd : Nat} {Q : List Qn} {A U D Dk : List Rn} (h : FL most i0 i2 i9 b1 b3 b4 b5 b6 b7 b8 w wr P g bd q1 a1 u1 d1 qc1 ac1 uc1 cd Q A U D Dk) : lenAt wr P = Dk.length := by
  have : wr.cell? ⟨P, 13, none⟩ = some (.slice d1 Dk.length cd) := h.fs.bx.cell rfl
  unfold lenAt
  rw [this]
/-- how Fit ends -/
def FitE (most : Int) (i0 i2 i9 : Nat) (b1 b3 b4 b5 b6 b7 b8 : Bool) (Q : List Qn) (A U D : List Rn) (w : World) (e : Ending) (w' : World) : Prop :=
  (∃ q1 a1 u1 d1 qc1 ac1 uc1 cd Dk, e = .returned (.tuple #[.agg #[.int .i64 (i0 : Int), .bool b1, .int .i64 (i2 : Int), .bool b3, .bool b4, .bool b5, .bool b6, .bool b7, .bool b8, .int .i64 (i9 : Int), .slice q1 Q.length qc1, .slice a1 A.length ac1, .slice u1 U.length uc1, .slice d1 Dk.length cd], .int .i64 0]) ∧ LsAt w' q1 a1 u1 d1 Q A U Dk ∧ (∀ r ∈ Dk, r ∈ D) ∧ Dk.length ≤ D.length ∧ (((fitR most i0 i2 i9 b1 b3 b4 b5 b6 b7 b8 Q A U Dk).1.out.size : Nat) : Int) ≤ most ∧ (Dk = D ∨ most < (((fitR most i0 i2 i9 b1 b3 b4 b5 b6 b7 b8 Q A U D).1.out.size : Nat) : Int)) ∧ Below w.heap.size w w') ∨
  (∃ q1 d1 qc1 cd Dk, e = .returned (.tuple #[.agg #[.int .i64 (i0 : Int), .bool b1, .int .i64 (i2 : Int), .bool b3, .bool true, .bool b5, .bool b6, .bool b7, .bool b8, .int .i64 (i9 : Int), .slice q1 Q.length qc1, .slice none 0 0, .slice none 0 0, .slice d1 Dk.length cd], .int .i64 0]) ∧ LsAt w' q1 none none d1 Q [] [] Dk ∧ (∀ r ∈ Dk, r ∈ D) ∧ Dk.length ≤ D.length ∧ (((fitR most i0 i2 i9 b1 b3 true b5 b6 b7 b8 Q [] [] Dk).1.out.size : Nat) : Int) ≤ most ∧ most < (((fitR most i0 i2 i9 b1 b3 b4 b5 b6 b7 b8 Q A U D).1.out.size : Nat) : Int) ∧ Below w.heap.size w w') ∨
  (e = .returned (.tuple #[.agg #[.int .i64 0, .bool false, .int .i64 0, .bool false, .bool false, .bool false, .bool false, .bool false, .bool false, .int .i64 0, .slice none 0 0, .slice none 0 0, .slice none 0 0, .slice none 0 0], .int .i64 12]) ∧ most < (((fitR most i0 i2 i9 b1 b3 b4 b5 b6 b7 b8 Q A U D).1.out.size : Nat) : Int) ∧ Below w.heap.size w w')

set_option maxRecDepth 100000 in
set_option maxHeartbeats 8000000 in
/-- wire.Fit, of a message -/
theorem fit_yes (i0 i2 i9 : Nat) (b1 b3 b4 b5 b6 b7 b8 : Bool) (q0 a0 u0 d0 : Option Addr) (qc ac uc dc : Nat) (Q : List Qn) (A U D : List Rn) (limit : Int) (w : World) (hl : LsAt w q0 a0 u0 d0 Q A U D) (hm : msgOK i0 i2 i9 Q A U D = true) (nq : q0 = none → qc = 0) (na : a0 = none → ac = 0) (nu : u0 = none → uc = 0) (nd : d0 = none → dc = 0) (hlo : -9223372036854775808 ≤ limit) :
    Calls Try.prog 10 #[.agg #[.int .i64 (i0 : Int), .bool b1, .int .i64 (i2 : Int), .bool b3, .bool b4, .bool b5, .bool b6, .bool b7, .bool b8, .int .i64 (i9 : Int), .slice q0 Q.length qc, .slice a0 A.length ac, .slice u0 U.length uc, .slice d0 D.length dc], .int .i64 limit] w (FitE (min limit 65535) i0 i2 i9 b1 b3 b4 b5 b6 b7 b8 Q A U D w) := by
  obtain ⟨_, _, _, lq, la, lu, ld, _⟩ := msgOK_parts hm
  obtain ⟨wz, hwz⟩ : ∃ wr, (w.alloc (.cells #[.int .i64 (i0 : Int), .bool b1, .int .i64 (i2 : Int), .bool b3, .bool b4, .bool b5, .bool b6, .bool b7, .bool b8, .int .i64 (i9 : Int), .slice q0 Q.length qc, .slice a0 A.length ac, .slice u0 U.length uc, .slice d0 D.length dc] 25)).alloc (.cells #[.int .i64 0, .bool false, .int .i64 0, .bool false, .bool false, .bool false, .bool false, .bool false, .bool false, .int .i64 0, .slice none 0 0, .slice none 0 0, .slice none 0 0, .slice none 0 0] 25) = wr := ⟨_, rfl⟩
  have hwzs : wz.heap.size = w.heap.size + 2 := by rw [← hwz]; simp
  have HX : Hid (Bx wz w.heap.size #[.int .i64 (i0 : Int), .bool b1, .int .i64 (i2 : Int), .bool b3, .bool b4, .bool b5, .bool b6, .bool b7, .bool b8, .int .i64 (i9 : Int), .slice q0 Q.length qc, .slice a0 A.length ac, .slice u0 U.length uc, .slice d0 D.length dc] 25) := hwz ▸ Bx.grown (World.alloc_heap_new w _) (World.grownBy_alloc _ _ none) (by simp)
  have HR : Hid (Bx wz (w.heap.size + 1) #[.int .i64 0, .bool false, .int .i64 0, .bool false, .bool false, .bool false, .bool false, .bool false, .bool false, .int .i64 0, .slice none 0 0, .slice none 0 0, .slice none 0 0, .slice none 0 0] 25) := by
    have := World.alloc_heap_new (w.alloc (.cells #[.int .i64 (i0 : Int), .bool b1, .int .i64 (i2 : Int), .bool b3, .bool b4, .bool b5, .bool b6, .bool b7, .bool b8, .int .i64 (i9 : Int), .slice q0 Q.length qc, .slice a0 A.length ac, .slice u0 U.length uc, .slice d0 D.length dc] 25)) (.cells #[.int .i64 0, .bool false, .int .i64 0, .bool false, .bool false, .bool false, .bool false, .bool false, .bool false, .int .i64 0, .slice none 0 0, .slice none 0 0, .slice none 0 0, .slice none 0 0] 25)
    rw [World.size_alloc] at this
    rw [← hwz]
    exact this
  have HB : Hid (Below w.heap.size w wz) := by rw [← hwz]; exact ((Below.refl _ w).alloc (Nat.le_refl _) _).alloc (by simp) _
  have HW := hide' hl
  obtain ⟨most, hmo⟩ : ∃ most, min limit 65535 = most := ⟨_, rfl⟩
  have hmost : most ≤ 65535 := by omega
  have hmost0 : -9223372036854775808 ≤ most := by omega
  rw [hmo]
  obtain ⟨x0, x1, x2, x3, x4, x5, x6, x7, x8, x9, x10, x11, x12, x13⟩ := bx14 HX.out
  clear hl
  go_enter Try.func10, Try.ntmps10
  go_wp2_with (first
    | (go_at_call 8; refine (wcheck_any i0 i2 i9 b1 b3 b4 b5 b6 b7 b8 q0 a0 u0 d0 qc ac uc dc Q A U D _ (HW.out.below HB.out)).mono ?_; rintro e w1 ⟨he, hB⟩; rw [if_pos hm] at he; subst he; have HX1 : Hid (Bx w1 w.heap.size #[.int .i64 (i0 : Int), .bool b1, .int .i64 (i2 : Int), .bool b3, .bool b4, .bool b5, .bool b6, .bool b7, .bool b8, .int .i64 (i9 : Int), .slice q0 Q.length qc, .slice a0 A.length ac, .slice u0 U.length uc, .slice d0 D.length dc] 25) := HX.out.below hB HX.out.lt; have HR1 : Hid (Bx w1 (w.heap.size + 1) #[.int .i64 0, .bool false, .int .i64 0, .bool false, .bool false, .bool false, .bool false, .bool false, .bool false, .int .i64 0, .slice none 0 0, .slice none 0 0, .slice none 0 0, .slice none 0 0] 25) := HR.out.below hB HR.out.lt; have HB1 := hide' (bstep HB.out hB HB.out.size); clear hB x0 x1 x2 x3 x4 x5 x6 x7 x8 x9 x10 x11 x12 x13; obtain ⟨x0, x1, x2, x3, x4, x5, x6, x7, x8, x9, x10, x11, x12, x13⟩ := bx14 HX1.out)
    | (go_at_call 22; refine (copyOf_any i0 i2 i9 b1 b3 b4 b5 b6 b7 b8 q0 a0 u0 d0 qc ac uc dc Q A U D _ (HW.out.below HB1.out) lq la lu ld nq na nu nd).mono ?_; rintro e w2 ⟨vq, va, vu, vd, rfl, bd, oq, oa, ou, od, gq, ga, gu, hbd, hb2, hB2⟩; obtain ⟨q1, qc1, rfl, _⟩ := own_shape oq; obtain ⟨a1, ac1, rfl, _⟩ := own_shape oa; obtain ⟨u1, uc1, rfl, _⟩ := own_shape ou; obtain ⟨d1, cd, rfl, hcd, _⟩ := own_shape od; obtain ⟨wp, hwp⟩ : ∃ wp, w2.alloc (.cells #[.int .i64 (i0 : Int), .bool b1, .int .i64 (i2 : Int), .bool b3, .bool b4, .bool b5, .bool b6, .bool b7, .bool b8, .int .i64 (i9 : Int), .slice q1 Q.length qc1, .slice a1 A.length ac1, .slice u1 U.length uc1, .slice d1 D.length cd] 25) = wp := ⟨_, rfl⟩; obtain ⟨g, HFS⟩ := fit_begin (w := w) HB1.out hB2 oq oa ou od gq ga gu hbd hb2 HR1.out.lt hwp; have HRp : Hid (Bx wp (w.heap.size + 1) #[.int .i64 0, .bool false, .int .i64 0, .bool false, .bool false, .bool false, .bool false, .bool false, .bool false, .int .i64 0, .slice none 0 0, .slice none 0 0, .slice none 0 0, .slice none 0 0] 25) := hwp ▸ Bx.grown (HR1.out.below hB2 HR1.out.lt) (World.grownBy_alloc _ _ none) (by simp); have hRP : w.heap.size + 1 < w2.heap.size := Nat.lt_of_lt_of_le HR1.out.lt hB2.size; have hRb : w.heap.size + 1 < bd := Nat.lt_of_lt_of_le HR1.out.lt hbd; clear oq oa ou od gq ga gu hB2 x0 x1 x2 x3 x4 x5 x6 x7 x8 x9 x10 x11 x12 x13))
  go_loopw [] (fun wr => ∃ Dk, Hid (FL most i0 i2 i9 b1 b3 b4 b5 b6 b7 b8 w wr w2.heap.size g bd q1 a1 u1 d1 qc1 ac1 uc1 cd Q A U D Dk)) (fun wr => lenAt wr w2.heap.size)
  case atStart => exact ⟨D, HFS.out, fun _ h => h, Nat.le_refl _, .inl rfl, HRp.out⟩
  case round =>
    obtain ⟨Dk, HL⟩ := hrel
    have hmk := msgOK_less hm HL.out.mem HL.out.len
    have hdk : Dk.length ≤ 65535 := Nat.le_trans HL.out.len ld
    have HFI := hide' (fits_any w2.heap.size i0 i2 i9 b1 b3 b4 b5 b6 b7 b8 q1 a1 u1 d1 qc1 ac1 uc1 cd Q A U Dk most wr HL.out.fs.bx.lt HL.out.fs.bx (HL.out.fs.ls hmk) hmk hmost hmost0)
    have F1 : Hid True := trivial
    by_cases hfit : (((fitR most i0 i2 i9 b1 b3 b4 b5 b6 b7 b8 Q A U Dk).1.out.size : Nat) : Int) ≤ most
    · simp only [if_pos hfit] at HFI
      have HFT := hide' hfit
      clear hfit
      go_wp2_with (go_at_call 23; have _ := F1; clear F1; refine HFI.out.mono ?_; rintro e w4 ⟨he4, hB4⟩; subst he4; have HFS4 := hide' (HL.out.fs.below hB4); have HR4 : Hid (Bx w4 (w.heap.size + 1) #[.int .i64 0, .bool false, .int .i64 0, .bool false, .bool false, .bool false, .bool false, .bool false, .bool false, .int .i64 0, .slice none 0 0, .slice none 0 0, .slice none 0 0, .slice none 0 0] 25) := HL.out.rb.below hB4 HL.out.rb.lt; clear hB4; obtain ⟨x0, x1, x2, x3, x4, x5, x6, x7, x8, x9, x10, x11, x12, x13⟩ := bx14 HFS4.out.bx; obtain ⟨r0, r1, r2, r3, r4, r5, r6, r7, r8, r9, r10, r11, r12, r13⟩ := bx14 HR4.out; obtain ⟨f0, f1, f2, f3, f4, f5, f6, f7, f8, f9, f10, f11, f12, f13⟩ := bx14_free HR4.out)
      have HF : Hid (FitE most i0 i2 i9 b1 b3 b4 b5 b6 b7 b8 Q A U D w (.returned (.tuple #[.agg #[.int .i64 (i0 : Int), .bool b1, .int .i64 (i2 : Int), .bool b3, .bool b4, .bool b5, .bool b6, .bool b7, .bool b8, .int .i64 (i9 : Int), .slice q1 Q.length qc1, .slice a1 A.length ac1, .slice u1 U.length uc1, .slice d1 Dk.length cd], .int .i64 0])) (set14 w4 (w.heap.size + 1) (.int .i64 (i0 : Int)) (.bool b1) (.int .i64 (i2 : Int)) (.bool b3) (.bool b4) (.bool b5) (.bool b6) (.bool b7) (.bool b8) (.int .i64 (i9 : Int)) (.slice q1 Q.length qc1) (.slice a1 A.length ac1) (.slice u1 U.length uc1) (.slice d1 Dk.length cd))) := .inl ⟨q1, a1, u1, d1, qc1, ac1, uc1, cd, Dk, rfl, HFS4.out.ls2 hmk hRb (grown14 w4 _ _ _ _ _ _ _ _ _ _ _ _ _ _ _), HL.out.mem, HL.out.len, HFT.out, HL.out.orr, below14 HFS4.out.bl (by omega) HFS4.out.bl.size _ _ _ _ _ _ _ _ _ _ _ _ _ _⟩
      obtain ⟨t0, t1, t2, t3, t4, t5, t6, t7, t8, t9, t10, t11, t12, t13⟩ := bx14 (bx14_set HR4.out (.int .i64 (i0 : Int)) (.bool b1) (.int .i64 (i2 : Int)) (.bool b3) (.bool b4) (.bool b5) (.bool b6) (.bool b7) (.bool b8) (.int .i64 (i9 : Int)) (.slice q1 Q.length qc1) (.slice a1 A.length ac1) (.slice u1 U.length uc1) (.slice d1 Dk.length cd))
      unfold set14 at t0 t1 t2 t3 t4 t5 t6 t7 t8 t9 t10 t11 t12 t13
      exact bodyPost_ret (v := .tuple #[.agg #[.int .i64 (i0 : Int), .bool b1, .int .i64 (i2 : Int), .bool b3, .bool b4, .bool b5, .bool b6, .bool b7, .bool b8, .int .i64 (i9 : Int), .slice q1 Q.length qc1, .slice a1 A.length ac1, .slice u1 U.length uc1, .slice d1 Dk.length cd], .int .i64 0]) (by simp [results, go_sem, t0, t1, t2, t3, t4, t5, t6, t7, t8, t9, t10, t11, t12, t13]) rfl HF.out
    · simp only [if_neg hfit] at HFI
      have hbig : Hid (most < (((fitR most i0 i2 i9 b1 b3 b4 b5 b6 b7 b8 Q A U D).1.out.size : Nat) : Int)) := by
        rcases HL.out.orr with e | e
        · rw [← e]; show most < _; omega
        · exact e
      clear hfit
      have hc := fitR_le most i0 i2 i9 b1 b3 b4 b5 b6 b7 b8 Q A U Dk
      obtain ⟨c, hcc⟩ : ∃ c, (fitR most i0 i2 i9 b1 b3 b4 b5 b6 b7 b8 Q A U Dk).2 - A.length - U.length = c := ⟨_, rfl⟩
      rw [hcc] at HFI hc
      clear hcc
      have hcd2 : c ≤ cd := Nat.le_trans hc HL.out.fs.d.1
      have HLEN : Hid ((Dk.take c).length = c) := by unfold Hid; rw [List.length_take]; omega
      have HLP : Hid (∀ (W : World), RsAt W d1 (Dk.take c) → Calls Try.prog 24 #[.slice d1 c cd] W fun r w' => ((r = .returned (.int .i64 (-1)) ∧ ∀ x ∈ Dk.take c, plR x = false) ∨ ∃ i : Nat, ∃ hi : i < (Dk.take c).length, r = .returned (.int .i64 (i : Int)) ∧ plR (Dk.take c)[i] = true) ∧ Below W.heap.size W w') := fun W h => by
        have h2 : ∀ n, n = (Dk.take c).length → Calls Try.prog 24 #[.slice d1 n cd] W fun r w' => ((r = .returned (.int .i64 (-1)) ∧ ∀ x ∈ Dk.take c, plR x = false) ∨ ∃ i : Nat, ∃ hi : i < (Dk.take c).length, r = .returned (.int .i64 (i : Int)) ∧ plR (Dk.take c)[i] = true) ∧ Below W.heap.size W w' := fun n hn => by subst hn; exact lastPlain_any (Dk.take c) d1 cd W (by have := HLEN.out; omega) h
        exact h2 c HLEN.out.symm
      have hup := run_upto2 d1 Dk.length cd c hcd2
      have HMO := hide' hmost
      have HMO0 := hide' hmost0
      have HDK := hide' hdk
      clear hmost hmost0 hcd2 hdk
      by_cases hall : ∀ x ∈ Dk.take c, plR x = false
      · have HALL := hide' hall
        clear hall
        by_cases hf2 : (((fitR most i0 i2 i9 b1 b3 true b5 b6 b7 b8 Q [] [] (dropF Dk 0)).1.out.size : Nat) : Int) ≤ most
        · have HF2C := hide' hf2
          clear hf2
          go_wp2_with (first
          | (go_at_call 23; have _ := F1; clear F1; refine HFI.out.mono ?_; rintro e w4 ⟨he4, hB4⟩; subst he4; have HFS4 := hide' (HL.out.fs.below hB4); have HR4 : Hid (Bx w4 (w.heap.size + 1) #[.int .i64 0, .bool false, .int .i64 0, .bool false, .bool false, .bool false, .bool false, .bool false, .bool false, .int .i64 0, .slice none 0 0, .slice none 0 0, .slice none 0 0, .slice none 0 0] 25) := HL.out.rb.below hB4 HL.out.rb.lt; clear hB4; obtain ⟨x0, x1, x2, x3, x4, x5, x6, x7, x8, x9, x10, x11, x12, x13⟩ := bx14 HFS4.out.bx)
          | (go_at_call 24; refine (HLP.out _ (HFS4.out.d.take c)).mono ?_; rintro e w5 ⟨h5, hB5⟩; obtain rfl := last_none HALL.out h5; have HFS5 := hide' (HFS4.out.below hB5); have HR5 : Hid (Bx w5 (w.heap.size + 1) #[.int .i64 0, .bool false, .int .i64 0, .bool false, .bool false, .bool false, .bool false, .bool false, .bool false, .int .i64 0, .slice none 0 0, .slice none 0 0, .slice none 0 0, .slice none 0 0] 25) := HR4.out.below hB5 HR4.out.lt; clear hB5 h5 x0 x1 x2 x3 x4 x5 x6 x7 x8 x9 x10 x11 x12 x13; obtain ⟨x0, x1, x2, x3, x4, x5, x6, x7, x8, x9, x10, x11, x12, x13⟩ := bx14 HFS5.out.bx)
          | (go_at_call 25; refine (dropPlain_any Dk d1 cd g 0 _ HFS5.out.d (.inr rfl) HDK.out).mono ?_; rintro e w6 ⟨he6, hd6, hg6⟩; obtain ⟨D2, hD2⟩ : ∃ D2, dropF Dk 0 = D2 := ⟨_, rfl⟩; have HD2 := hide' hD2; rw [hD2] at he6 hd6; subst he6; clear hD2; have HFS7 := hide' (HFS5.out.drop hg6 hd6 (.slice d1 D2.length cd)); have HP6 : Hid (Bx w6 w2.heap.size #[.int .i64 (i0 : Int), .bool b1, .int .i64 (i2 : Int), .bool b3, .bool b4, .bool b5, .bool b6, .bool b7, .bool b8, .int .i64 (i9 : Int), .slice q1 Q.length qc1, .slice a1 A.length ac1, .slice u1 U.length uc1, .slice d1 Dk.length cd] 25) := HFS5.out.bx.grown hg6 (fun e => by injection e with e; exact HFS5.out.gP e); have y13 : w6.cell? ⟨w2.heap.size, 13, none⟩ = some (.slice d1 Dk.length cd) := HP6.out.cell rfl; have f13 := HP6.out.free 13; have HR6 : Hid (Bx w6 (w.heap.size + 1) #[.int .i64 0, .bool false, .int .i64 0, .bool false, .bool false, .bool false, .bool false, .bool false, .bool false, .int .i64 0, .slice none 0 0, .slice none 0 0, .slice none 0 0, .slice none 0 0] 25) := HR5.out.grown hg6 (fun e => by injection e with e; have := HFS5.out.hg; omega); obtain ⟨w7, hw7⟩ : ∃ w7, w6.setCell ⟨w2.heap.size, 13, none⟩ (.slice d1 D2.length cd) = w7 := ⟨_, rfl⟩; rw [hw7] at HFS7; have HR7 : Hid (Bx w7 (w.heap.size + 1) #[.int .i64 0, .bool false, .int .i64 0, .bool false, .bool false, .bool false, .bool false, .bool false, .bool false, .int .i64 0, .slice none 0 0, .slice none 0 0, .slice none 0 0, .slice none 0 0] 25) := hw7 ▸ HR6.out.far (by omega) 13 _; clear hd6 hg6 x0 x1 x2 x3 x4 x5 x6 x7 x8 x9 x10 x11 x12 x13; have HP7 : Hid (Bx w7 w2.heap.size #[.int .i64 (i0 : Int), .bool b1, .int .i64 (i2 : Int), .bool b3, .bool b4, .bool b5, .bool b6, .bool b7, .bool b8, .int .i64 (i9 : Int), .slice q1 Q.length qc1, .slice a1 A.length ac1, .slice u1 U.length uc1, .slice d1 D2.length cd] 25) := HFS7.out.bx; obtain ⟨z0, z1, z2, z3, z4, z5, z6, z7, z8, z9, z10, z11, z12, z13⟩ := bx14 HP7.out; have g4 := HP7.out.free 4; have g11 := HP7.out.free 11; have g12 := HP7.out.free 12; obtain ⟨w8, hw8⟩ : ∃ w8, ((w7.setCell ⟨w2.heap.size, 11, none⟩ (.slice none 0 0)).setCell ⟨w2.heap.size, 12, none⟩ (.slice none 0 0)).setCell ⟨w2.heap.size, 4, none⟩ (.bool true) = w8 := ⟨_, rfl⟩; have HFS8 : Hid (FS w w8 w2.heap.size g bd #[.int .i64 (i0 : Int), .bool b1, .int .i64 (i2 : Int), .bool b3, .bool true, .bool b5, .bool b6, .bool b7, .bool b8, .int .i64 (i9 : Int), .slice q1 Q.length qc1, .slice none 0 0, .slice none 0 0, .slice d1 D2.length cd] q1 none none d1 cd Q [] [] D2) := hw8 ▸ (((HFS7.out.put 11 (.slice none 0 0)).put 12 (.slice none 0 0)).put 4 (.bool true)).strip; have HR8 : Hid (Bx w8 (w.heap.size + 1) #[.int .i64 0, .bool false, .int .i64 0, .bool false, .bool false, .bool false, .bool false, .bool false, .bool false, .int .i64 0, .slice none 0 0, .slice none 0 0, .slice none 0 0, .slice none 0 0] 25) := hw8 ▸ ((HR7.out.far (by omega) 11 _).far (by omega) 12 _).far (by omega) 4 _; have hmk2 := msgOK_none (msgOK_less hmk (fun r hr => dropF_mem (HD2.out ▸ hr)) (HD2.out ▸ dropF_le Dk 0) : msgOK (i0 : Int) (i2 : Int) (i9 : Int) Q A U D2 = true); have HF2 := hide' (fits_any w2.heap.size i0 i2 i9 b1 b3 true b5 b6 b7 b8 q1 none none d1 qc1 0 0 cd Q [] [] D2 most w8 HFS8.out.bx.lt HFS8.out.bx (HFS8.out.ls hmk2) hmk2 HMO.out HMO0.out); have hf2 := HF2C.out; rw [HD2.out] at hf2; simp only [if_pos hf2] at HF2; have HF2D := hide' hf2; clear hf2)
          | (go_at_call 23; refine HF2.out.mono ?_; rintro e w9 ⟨he9, hB9⟩; subst he9; have HFS9 := hide' (HFS8.out.below hB9); have HR9 : Hid (Bx w9 (w.heap.size + 1) #[.int .i64 0, .bool false, .int .i64 0, .bool false, .bool false, .bool false, .bool false, .bool false, .bool false, .int .i64 0, .slice none 0 0, .slice none 0 0, .slice none 0 0, .slice none 0 0] 25) := HR8.out.below hB9 HR8.out.lt; clear hB9 z0 z1 z2 z3 z4 z5 z6 z7 z8 z9 z10 z11 z12 z13; obtain ⟨x0, x1, x2, x3, x4, x5, x6, x7, x8, x9, x10, x11, x12, x13⟩ := bx14 HFS9.out.bx; obtain ⟨r0, r1, r2, r3, r4, r5, r6, r7, r8, r9, r10, r11, r12, r13⟩ := bx14 HR9.out; obtain ⟨f0, f1, f2, f3, f4, f5, f6, f7, f8, f9, f10, f11, f12, f13⟩ := bx14_free HR9.out))
          have HF : Hid (FitE most i0 i2 i9 b1 b3 b4 b5 b6 b7 b8 Q A U D w (.returned (.tuple #[.agg #[.int .i64 (i0 : Int), .bool b1, .int .i64 (i2 : Int), .bool b3, .bool true, .bool b5, .bool b6, .bool b7, .bool b8, .int .i64 (i9 : Int), .slice q1 Q.length qc1, .slice none 0 0, .slice none 0 0, .slice d1 D2.length cd], .int .i64 0])) (set14 w9 (w.heap.size + 1) (.int .i64 (i0 : Int)) (.bool b1) (.int .i64 (i2 : Int)) (.bool b3) (.bool true) (.bool b5) (.bool b6) (.bool b7) (.bool b8) (.int .i64 (i9 : Int)) (.slice q1 Q.length qc1) (.slice none 0 0) (.slice none 0 0) (.slice d1 D2.length cd))) := .inr (.inl ⟨q1, d1, qc1, cd, D2, rfl, HFS9.out.ls2 hmk2 hRb (grown14 w9 _ _ _ _ _ _ _ _ _ _ _ _ _ _ _), fun r hr => HL.out.mem r (dropF_mem (HD2.out ▸ hr)), (HD2.out ▸ Nat.le_trans (dropF_le Dk 0) HL.out.len), HF2D.out, hbig.out, below14 HFS9.out.bl (by omega) HFS9.out.bl.size _ _ _ _ _ _ _ _ _ _ _ _ _ _⟩)
          obtain ⟨t0, t1, t2, t3, t4, t5, t6, t7, t8, t9, t10, t11, t12, t13⟩ := bx14 (bx14_set HR9.out (.int .i64 (i0 : Int)) (.bool b1) (.int .i64 (i2 : Int)) (.bool b3) (.bool true) (.bool b5) (.bool b6) (.bool b7) (.bool b8) (.int .i64 (i9 : Int)) (.slice q1 Q.length qc1) (.slice none 0 0) (.slice none 0 0) (.slice d1 D2.length cd))
          unfold set14 at t0 t1 t2 t3 t4 t5 t6 t7 t8 t9 t10 t11 t12 t13
          exact bodyPost_ret (v := .tuple #[.agg #[.int .i64 (i0 : Int), .bool b1, .int .i64 (i2 : Int), .bool b3, .bool true, .bool b5, .bool b6, .bool b7, .bool b8, .int .i64 (i9 : Int), .slice q1 Q.length qc1, .slice none 0 0, .slice none 0 0, .slice d1 D2.length cd], .int .i64 0]) (by simp [results, go_sem, t0, t1, t2, t3, t4, t5, t6, t7, t8, t9, t10, t11, t12, t13]) rfl HF.out
        · have HF2C := hide' hf2
          clear hf2
          go_wp2_with (first
          | (go_at_call 23; have _ := F1; clear F1; refine HFI.out.mono ?_; rintro e w4 ⟨he4, hB4⟩; subst he4; have HFS4 := hide' (HL.out.fs.below hB4); have HR4 : Hid (Bx w4 (w.heap.size + 1) #[.int .i64 0, .bool false, .int .i64 0, .bool false, .bool false, .bool false, .bool false, .bool false, .bool false, .int .i64 0, .slice none 0 0, .slice none 0 0, .slice none 0 0, .slice none 0 0] 25) := HL.out.rb.below hB4 HL.out.rb.lt; clear hB4; obtain ⟨x0, x1, x2, x3, x4, x5, x6, x7, x8, x9, x10, x11, x12, x13⟩ := bx14 HFS4.out.bx)
          | (go_at_call 24; refine (HLP.out _ (HFS4.out.d.take c)).mono ?_; rintro e w5 ⟨h5, hB5⟩; obtain rfl := last_none HALL.out h5; have HFS5 := hide' (HFS4.out.below hB5); have HR5 : Hid (Bx w5 (w.heap.size + 1) #[.int .i64 0, .bool false, .int .i64 0, .bool false, .bool false, .bool false, .bool false, .bool false, .bool false, .int .i64 0, .slice none 0 0, .slice none 0 0, .slice none 0 0, .slice none 0 0] 25) := HR4.out.below hB5 HR4.out.lt; clear hB5 h5 x0 x1 x2 x3 x4 x5 x6 x7 x8 x9 x10 x11 x12 x13; obtain ⟨x0, x1, x2, x3, x4, x5, x6, x7, x8, x9, x10, x11, x12, x13⟩ := bx14 HFS5.out.bx)
          | (go_at_call 25; refine (dropPlain_any Dk d1 cd g 0 _ HFS5.out.d (.inr rfl) HDK.out).mono ?_; rintro e w6 ⟨he6, hd6, hg6⟩; obtain ⟨D2, hD2⟩ : ∃ D2, dropF Dk 0 = D2 := ⟨_, rfl⟩; have HD2 := hide' hD2; rw [hD2] at he6 hd6; subst he6; clear hD2; have HFS7 := hide' (HFS5.out.drop hg6 hd6 (.slice d1 D2.length cd)); have HP6 : Hid (Bx w6 w2.heap.size #[.int .i64 (i0 : Int), .bool b1, .int .i64 (i2 : Int), .bool b3, .bool b4, .bool b5, .bool b6, .bool b7, .bool b8, .int .i64 (i9 : Int), .slice q1 Q.length qc1, .slice a1 A.length ac1, .slice u1 U.length uc1, .slice d1 Dk.length cd] 25) := HFS5.out.bx.grown hg6 (fun e => by injection e with e; exact HFS5.out.gP e); have y13 : w6.cell? ⟨w2.heap.size, 13, none⟩ = some (.slice d1 Dk.length cd) := HP6.out.cell rfl; have f13 := HP6.out.free 13; have HR6 : Hid (Bx w6 (w.heap.size + 1) #[.int .i64 0, .bool false, .int .i64 0, .bool false, .bool false, .bool false, .bool false, .bool false, .bool false, .int .i64 0, .slice none 0 0, .slice none 0 0, .slice none 0 0, .slice none 0 0] 25) := HR5.out.grown hg6 (fun e => by injection e with e; have := HFS5.out.hg; omega); obtain ⟨w7, hw7⟩ : ∃ w7, w6.setCell ⟨w2.heap.size, 13, none⟩ (.slice d1 D2.length cd) = w7 := ⟨_, rfl⟩; rw [hw7] at HFS7; have HR7 : Hid (Bx w7 (w.heap.size + 1) #[.int .i64 0, .bool false, .int .i64 0, .bool false, .bool false, .bool false, .bool false, .bool false, .bool false, .int .i64 0, .slice none 0 0, .slice none 0 0, .slice none 0 0, .slice none 0 0] 25) := hw7 ▸ HR6.out.far (by omega) 13 _; clear hd6 hg6 x0 x1 x2 x3 x4 x5 x6 x7 x8 x9 x10 x11 x12 x13; have HP7 : Hid (Bx w7 w2.heap.size #[.int .i64 (i0 : Int), .bool b1, .int .i64 (i2 : Int), .bool b3, .bool b4, .bool b5, .bool b6, .bool b7, .bool b8, .int .i64 (i9 : Int), .slice q1 Q.length qc1, .slice a1 A.length ac1, .slice u1 U.length uc1, .slice d1 D2.length cd] 25) := HFS7.out.bx; obtain ⟨z0, z1, z2, z3, z4, z5, z6, z7, z8, z9, z10, z11, z12, z13⟩ := bx14 HP7.out; have g4 := HP7.out.free 4; have g11 := HP7.out.free 11; have g12 := HP7.out.free 12; obtain ⟨w8, hw8⟩ : ∃ w8, ((w7.setCell ⟨w2.heap.size, 11, none⟩ (.slice none 0 0)).setCell ⟨w2.heap.size, 12, none⟩ (.slice none 0 0)).setCell ⟨w2.heap.size, 4, none⟩ (.bool true) = w8 := ⟨_, rfl⟩; have HFS8 : Hid (FS w w8 w2.heap.size g bd #[.int .i64 (i0 : Int), .bool b1, .int .i64 (i2 : Int), .bool b3, .bool true, .bool b5, .bool b6, .bool b7, .bool b8, .int .i64 (i9 : Int), .slice q1 Q.length qc1, .slice none 0 0, .slice none 0 0, .slice d1 D2.length cd] q1 none none d1 cd Q [] [] D2) := hw8 ▸ (((HFS7.out.put 11 (.slice none 0 0)).put 12 (.slice none 0 0)).put 4 (.bool true)).strip; have HR8 : Hid (Bx w8 (w.heap.size + 1) #[.int .i64 0, .bool false, .int .i64 0, .bool false, .bool false, .bool false, .bool false, .bool false, .bool false, .int .i64 0, .slice none 0 0, .slice none 0 0, .slice none 0 0, .slice none 0 0] 25) := hw8 ▸ ((HR7.out.far (by omega) 11 _).far (by omega) 12 _).far (by omega) 4 _; have hmk2 := msgOK_none (msgOK_less hmk (fun r hr => dropF_mem (HD2.out ▸ hr)) (HD2.out ▸ dropF_le Dk 0) : msgOK (i0 : Int) (i2 : Int) (i9 : Int) Q A U D2 = true); have HF2 := hide' (fits_any w2.heap.size i0 i2 i9 b1 b3 true b5 b6 b7 b8 q1 none none d1 qc1 0 0 cd Q [] [] D2 most w8 HFS8.out.bx.lt HFS8.out.bx (HFS8.out.ls hmk2) hmk2 HMO.out HMO0.out); have hf2 : ¬ (((fitR most i0 i2 i9 b1 b3 true b5 b6 b7 b8 Q [] [] (dropF Dk 0)).1.out.size : Nat) : Int) ≤ most := (by first | exact HF2C.out | exact Int.not_le.2 HF2C.out); rw [HD2.out] at hf2; simp only [if_neg hf2] at HF2; have HF2D := hide' hf2; clear hf2)
          | (go_at_call 23; refine HF2.out.mono ?_; rintro e w9 ⟨he9, hB9⟩; subst he9; have HFS9 := hide' (HFS8.out.below hB9); have HR9 : Hid (Bx w9 (w.heap.size + 1) #[.int .i64 0, .bool false, .int .i64 0, .bool false, .bool false, .bool false, .bool false, .bool false, .bool false, .int .i64 0, .slice none 0 0, .slice none 0 0, .slice none 0 0, .slice none 0 0] 25) := HR8.out.below hB9 HR8.out.lt; clear hB9 z0 z1 z2 z3 z4 z5 z6 z7 z8 z9 z10 z11 z12 z13; obtain ⟨x0, x1, x2, x3, x4, x5, x6, x7, x8, x9, x10, x11, x12, x13⟩ := bx14 HFS9.out.bx; obtain ⟨r0, r1, r2, r3, r4, r5, r6, r7, r8, r9, r10, r11, r12, r13⟩ := bx14 HR9.out; obtain ⟨f0, f1, f2, f3, f4, f5, f6, f7, f8, f9, f10, f11, f12, f13⟩ := bx14_free HR9.out))
          have HF : Hid (FitE most i0 i2 i9 b1 b3 b4 b5 b6 b7 b8 Q A U D w (.returned (.tuple #[.agg #[.int .i64 0, .bool false, .int .i64 0, .bool false, .bool false, .bool false, .bool false, .bool false, .bool false, .int .i64 0, .slice none 0 0, .slice none 0 0, .slice none 0 0, .slice none 0 0], .int .i64 12])) (set14 w9 (w.heap.size + 1) (.int .i64 0) (.bool false) (.int .i64 0) (.bool false) (.bool false) (.bool false) (.bool false) (.bool false) (.bool false) (.int .i64 0) (.slice none 0 0) (.slice none 0 0) (.slice none 0 0) (.slice none 0 0))) := .inr (.inr ⟨rfl, hbig.out, below14 HFS9.out.bl (by omega) HFS9.out.bl.size _ _ _ _ _ _ _ _ _ _ _ _ _ _⟩)
          obtain ⟨t0, t1, t2, t3, t4, t5, t6, t7, t8, t9, t10, t11, t12, t13⟩ := bx14 (bx14_set HR9.out (.int .i64 0) (.bool false) (.int .i64 0) (.bool false) (.bool false) (.bool false) (.bool false) (.bool false) (.bool false) (.int .i64 0) (.slice none 0 0) (.slice none 0 0) (.slice none 0 0) (.slice none 0 0))
          unfold set14 at t0 t1 t2 t3 t4 t5 t6 t7 t8 t9 t10 t11 t12 t13
          exact bodyPost_ret (v := .tuple #[.agg #[.int .i64 0, .bool false, .int .i64 0, .bool false, .bool false, .bool false, .bool false, .bool false, .bool false, .int .i64 0, .slice none 0 0, .slice none 0 0, .slice none 0 0, .slice none 0 0], .int .i64 12]) (by simp [results, go_sem, t0, t1, t2, t3, t4, t5, t6, t7, t8, t9, t10, t11, t12, t13]) rfl HF.out
      · have HALL := hide' hall
        clear hall
        go_wp2_with (first
          | (go_at_call 23; have _ := F1; clear F1; refine HFI.out.mono ?_; rintro e w4 ⟨he4, hB4⟩; subst he4; have HFS4 := hide' (HL.out.fs.below hB4); have HR4 : Hid (Bx w4 (w.heap.size + 1) #[.int .i64 0, .bool false, .int .i64 0, .bool false, .bool false, .bool false, .bool false, .bool false, .bool false, .int .i64 0, .slice none 0 0, .slice none 0 0, .slice none 0 0, .slice none 0 0] 25) := HL.out.rb.below hB4 HL.out.rb.lt; clear hB4; obtain ⟨x0, x1, x2, x3, x4, x5, x6, x7, x8, x9, x10, x11, x12, x13⟩ := bx14 HFS4.out.bx)
          | (go_at_call 24; refine (HLP.out _ (HFS4.out.d.take c)).mono ?_; rintro e w5 ⟨h5, hB5⟩; obtain ⟨i, hi, rfl, hp⟩ := last_some HALL.out h5; have hi2 : i < Dk.length := (by have := HLEN.out; omega); have HPI : Hid (plR Dk[i] = true) := (by have e : (Dk.take c)[i] = Dk[i] := List.getElem_take; rw [e] at hp; exact hp); have hmx : max (i : Int) 0 = (i : Int) := (by omega); have hnn : decide ((i : Int) < 0) = false := decide_eq_false (by omega); clear hi hp; have HFS5 := hide' (HFS4.out.below hB5); have HR5 : Hid (Bx w5 (w.heap.size + 1) #[.int .i64 0, .bool false, .int .i64 0, .bool false, .bool false, .bool false, .bool false, .bool false, .bool false, .int .i64 0, .slice none 0 0, .slice none 0 0, .slice none 0 0, .slice none 0 0] 25) := HR4.out.below hB5 HR4.out.lt; clear hB5 h5 x0 x1 x2 x3 x4 x5 x6 x7 x8 x9 x10 x11 x12 x13; obtain ⟨x0, x1, x2, x3, x4, x5, x6, x7, x8, x9, x10, x11, x12, x13⟩ := bx14 HFS5.out.bx)
          | (go_at_call 25; refine (dropPlain_any Dk d1 cd g i _ HFS5.out.d (.inl hi2) HDK.out).mono ?_; rintro e w6 ⟨he6, hd6, hg6⟩; obtain ⟨D2, hD2⟩ : ∃ D2, dropF Dk i = D2 := ⟨_, rfl⟩; have HD2 := hide' hD2; rw [hD2] at he6 hd6; subst he6; clear hD2; have HFS7 := hide' (HFS5.out.drop hg6 hd6 (.slice d1 D2.length cd)); have HP6 : Hid (Bx w6 w2.heap.size #[.int .i64 (i0 : Int), .bool b1, .int .i64 (i2 : Int), .bool b3, .bool b4, .bool b5, .bool b6, .bool b7, .bool b8, .int .i64 (i9 : Int), .slice q1 Q.length qc1, .slice a1 A.length ac1, .slice u1 U.length uc1, .slice d1 Dk.length cd] 25) := HFS5.out.bx.grown hg6 (fun e => by injection e with e; exact HFS5.out.gP e); have y13 : w6.cell? ⟨w2.heap.size, 13, none⟩ = some (.slice d1 Dk.length cd) := HP6.out.cell rfl; have f13 := HP6.out.free 13; have HR6 : Hid (Bx w6 (w.heap.size + 1) #[.int .i64 0, .bool false, .int .i64 0, .bool false, .bool false, .bool false, .bool false, .bool false, .bool false, .int .i64 0, .slice none 0 0, .slice none 0 0, .slice none 0 0, .slice none 0 0] 25) := HR5.out.grown hg6 (fun e => by injection e with e; have := HFS5.out.hg; omega); obtain ⟨w7, hw7⟩ : ∃ w7, w6.setCell ⟨w2.heap.size, 13, none⟩ (.slice d1 D2.length cd) = w7 := ⟨_, rfl⟩; rw [hw7] at HFS7; have HR7 : Hid (Bx w7 (w.heap.size + 1) #[.int .i64 0, .bool false, .int .i64 0, .bool false, .bool false, .bool false, .bool false, .bool false, .bool false, .int .i64 0, .slice none 0 0, .slice none 0 0, .slice none 0 0, .slice none 0 0] 25) := hw7 ▸ HR6.out.far (by omega) 13 _; clear hd6 hg6 x0 x1 x2 x3 x4 x5 x6 x7 x8 x9 x10 x11 x12 x13))
        have HL7 : FL most i0 i2 i9 b1 b3 b4 b5 b6 b7 b8 w w7 w2.heap.size g bd q1 a1 u1 d1 qc1 ac1 uc1 cd Q A U D D2 := ⟨HFS7.out, fun r hr => HL.out.mem r (dropF_mem (HD2.out ▸ hr)), (HD2.out ▸ Nat.le_trans (dropF_le Dk i) HL.out.len), .inr hbig.out, HR7.out⟩
        refine ⟨⟨D2, HL7⟩, ?_⟩
        rw [lenAt_fs HL7, lenAt_fs HL.out, ← HD2.out]
        exact dropF_lt hi2 HPI.out
end Go.Proofs.Ytinnmfidnecncaa
