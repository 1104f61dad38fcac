import Derived.Test.YtinnmfidnecncaaWu17
import Derived.Test.YtinnmfidnecncaaPk11G
namespace Go.Proofs.Ytinnmfidnecncaa
set_option linter.unusedVariables false
open Go.RowKit Go.Shelf Go.Proofs.Ytinnmfidnecncaa.Nm

/-- Qst in memory, to be read -/
def QstAt (w : World) (g : Nat) (L : List Qn) : Prop := ∀ j, (hj : j < L.length) → w.cell? ⟨g, j * 3, none⟩ = some (.string L[j].n) ∧ w.cell? ⟨g, j * 3 + 1, none⟩ = some (.int .i64 L[j].t) ∧ w.cell? ⟨g, j * 3 + 2, none⟩ = some (.int .i64 L[j].c)
theorem Qst_get (L : List Qn) : ∀ j, (hj : j < L.length) → (qcells L)[j * 3]? = some (.string L[j].n) ∧ (qcells L)[j * 3 + 1]? = some (.int .i64 L[j].t) ∧ (qcells L)[j * 3 + 2]? = some (.int .i64 L[j].c) := by
  induction L with
  | nil => intro j hj; simp at hj
  | cons x L ih =>
    intro j hj
    have e : qcells (x :: L) = (.string x.n) :: (.int .i64 x.t) :: (.int .i64 x.c) :: qcells L := by simp [qcells, qenc]
    cases j with
    | zero => simp [e]
    | succ j =>
      have := ih j (by simpa using hj)
      rw [e]
      have e1 : (j + 1) * 3 = j * 3 + 1 + 1 + 1 := by omega
      rw [e1]
      simpa using this
theorem Qst_own {w : World} {base g cap n : Nat} {L : List Qn} (h : w.ownsRow base 51 3 (.slice (some ⟨g, 0, none⟩) n cap) n (qcells L)) (hn : n = L.length) : QstAt w g L := by
  subst hn
  intro j hj
  have hc : ∀ i, i < L.length * 3 → w.cell? ⟨g, i, none⟩ = (qcells L)[i]? := fun i hi => World.ownsRow.cellAt h i hi
  obtain ⟨h0, h1, h2⟩ := Qst_get L j hj
  exact ⟨(hc _ (by omega)).trans h0, (hc _ (by omega)).trans h1, (hc _ (by omega)).trans h2⟩
set_option maxRecDepth 100000 in
set_option maxHeartbeats 2000000 in
/-- gazetteersame.Questions, at the same list -/
theorem sameQuestions (p1 p2 : Option Addr) (n c1 c2 b1 b2 : Nat) (L : List Qn) (w : World) (hx : w.ownsRow b1 51 3 (.slice p1 n c1) n (qcells L)) (hy : w.ownsRow b2 51 3 (.slice p2 n c2) n (qcells L)) (hn : n = L.length) (hl : n ≤ 4294967296) :
    Calls Try.prog 11 #[.slice p1 n c1, .slice p2 n c2] w fun e w' => e = .returned (.bool true) ∧ ∃ m, w' = w.drewN m := by
  have HX : Hid (∀ k, k < n → ∃ g1 g2, p1 = some ⟨g1, 0, none⟩ ∧ p2 = some ⟨g2, 0, none⟩ ∧ QstAt w g1 L ∧ QstAt w g2 L) := by
    intro k hk
    have hs : ∀ (b : Nat) (p : Option Addr) (c : Nat), w.ownsRow b 51 3 (.slice p n c) n (qcells L) → ∃ g, p = some ⟨g, 0, none⟩ ∧ QstAt w g L := fun b p c h => by
      rcases h.2 with ⟨h1, h0⟩ | ⟨g, cap, cur, h1, rest⟩
      · omega
      · injection h1 with h1 h2 h3
        subst h1
        exact ⟨g, rfl, Qst_own h hn⟩
    obtain ⟨g1, e1, f1⟩ := hs b1 p1 c1 hx
    obtain ⟨g2, e2, f2⟩ := hs b2 p2 c2 hy
    exact ⟨g1, g2, e1, e2, f1, f2⟩
  have HN := hide' hn
  clear hx hy hn
  go_enter Try.func11, Try.ntmps11
  go_wp2
  go_loopw [13] (fun i wr => ∃ k m : Nat, i = .int .i64 k ∧ k ≤ n ∧ wr = w.drewN m) (fun i _ => n - (intOf i).toNat)
  case atStart => exact ⟨0, 0, rfl, Nat.zero_le _, rfl⟩
  case round =>
    obtain ⟨k, m, rfl, hk, rfl⟩ := hrel
    by_cases hlt : k < n
    · obtain ⟨g1, g2, rfl, rfl, hA, hB⟩ := HX.out k hlt
      obtain ⟨x0, x1, x2⟩ := hA k (by rw [← HN.out]; exact hlt)
      obtain ⟨y0, y1, y2⟩ := hB k (by rw [← HN.out]; exact hlt)
      clear hA hB
      generalize L[k].n = qn at *
      generalize L[k].t = qt at *
      generalize L[k].c = qc at *
      go_wp2
      go_quiet (fail)
      go_wp2
      go_roundw
      case rel => exact ⟨k + 1, m + nq, by go_num, by omega, rfl⟩
      case measure => simp [intOf]; omega
    · go_wp2
      go_ret
      exact ⟨rfl, m, rfl⟩

/-- Rcd in memory, to be read -/
def RcdAt (w : World) (g : Nat) (L : List Rn) : Prop := ∀ j, (hj : j < L.length) → w.cell? ⟨g, j * 5, none⟩ = some (.string L[j].o) ∧ w.cell? ⟨g, j * 5 + 1, none⟩ = some (.int .i64 L[j].t) ∧ w.cell? ⟨g, j * 5 + 2, none⟩ = some (.int .i64 L[j].c) ∧ w.cell? ⟨g, j * 5 + 3, none⟩ = some (.int .i64 L[j].l) ∧ w.cell? ⟨g, j * 5 + 4, none⟩ = some (.string L[j].d)
theorem Rcd_get (L : List Rn) : ∀ j, (hj : j < L.length) → (rcells L)[j * 5]? = some (.string L[j].o) ∧ (rcells L)[j * 5 + 1]? = some (.int .i64 L[j].t) ∧ (rcells L)[j * 5 + 2]? = some (.int .i64 L[j].c) ∧ (rcells L)[j * 5 + 3]? = some (.int .i64 L[j].l) ∧ (rcells L)[j * 5 + 4]? = some (.string L[j].d) := by
  induction L with
  | nil => intro j hj; simp at hj
  | cons x L ih =>
    intro j hj
    have e : rcells (x :: L) = (.string x.o) :: (.int .i64 x.t) :: (.int .i64 x.c) :: (.int .i64 x.l) :: (.string x.d) :: rcells L := by simp [rcells, renc]
    cases j with
    | zero => simp [e]
    | succ j =>
      have := ih j (by simpa using hj)
      rw [e]
      have e1 : (j + 1) * 5 = j * 5 + 1 + 1 + 1 + 1 + 1 := by omega
      rw [e1]
      simpa using this
theorem Rcd_own {w : World} {base g cap n : Nat} {L : List Rn} (h : w.ownsRow base 70 5 (.slice (some ⟨g, 0, none⟩) n cap) n (rcells L)) (hn : n = L.length) : RcdAt w g L := by
  subst hn
  intro j hj
  have hc : ∀ i, i < L.length * 5 → w.cell? ⟨g, i, none⟩ = (rcells L)[i]? := fun i hi => World.ownsRow.cellAt h i hi
  obtain ⟨h0, h1, h2, h3, h4⟩ := Rcd_get L j hj
  exact ⟨(hc _ (by omega)).trans h0, (hc _ (by omega)).trans h1, (hc _ (by omega)).trans h2, (hc _ (by omega)).trans h3, (hc _ (by omega)).trans h4⟩
set_option maxRecDepth 100000 in
set_option maxHeartbeats 2000000 in
/-- gazetteersame.Records, at the same list -/
theorem sameRecords (p1 p2 : Option Addr) (n c1 c2 b1 b2 : Nat) (L : List Rn) (w : World) (hx : w.ownsRow b1 70 5 (.slice p1 n c1) n (rcells L)) (hy : w.ownsRow b2 70 5 (.slice p2 n c2) n (rcells L)) (hn : n = L.length) (hl : n ≤ 4294967296) :
    Calls Try.prog 12 #[.slice p1 n c1, .slice p2 n c2] w fun e w' => e = .returned (.bool true) ∧ ∃ m, w' = w.drewN m := by
  have HX : Hid (∀ k, k < n → ∃ g1 g2, p1 = some ⟨g1, 0, none⟩ ∧ p2 = some ⟨g2, 0, none⟩ ∧ RcdAt w g1 L ∧ RcdAt w g2 L) := by
    intro k hk
    have hs : ∀ (b : Nat) (p : Option Addr) (c : Nat), w.ownsRow b 70 5 (.slice p n c) n (rcells L) → ∃ g, p = some ⟨g, 0, none⟩ ∧ RcdAt w g L := fun b p c h => by
      rcases h.2 with ⟨h1, h0⟩ | ⟨g, cap, cur, h1, rest⟩
      · omega
      · injection h1 with h1 h2 h3
        subst h1
        exact ⟨g, rfl, Rcd_own h hn⟩
    obtain ⟨g1, e1, f1⟩ := hs b1 p1 c1 hx
    obtain ⟨g2, e2, f2⟩ := hs b2 p2 c2 hy
    exact ⟨g1, g2, e1, e2, f1, f2⟩
  have HN := hide' hn
  clear hx hy hn
  go_enter Try.func12, Try.ntmps12
  go_wp2
  go_loopw [13] (fun i wr => ∃ k m : Nat, i = .int .i64 k ∧ k ≤ n ∧ wr = w.drewN m) (fun i _ => n - (intOf i).toNat)
  case atStart => exact ⟨0, 0, rfl, Nat.zero_le _, rfl⟩
  case round =>
    obtain ⟨k, m, rfl, hk, rfl⟩ := hrel
    by_cases hlt : k < n
    · obtain ⟨g1, g2, rfl, rfl, hA, hB⟩ := HX.out k hlt
      obtain ⟨x0, x1, x2, x3, x4⟩ := hA k (by rw [← HN.out]; exact hlt)
      obtain ⟨y0, y1, y2, y3, y4⟩ := hB k (by rw [← HN.out]; exact hlt)
      clear hA hB
      generalize L[k].o = qo at *
      generalize L[k].t = qt at *
      generalize L[k].c = qc at *
      generalize L[k].l = ql at *
      generalize L[k].d = qd at *
      go_wp2
      go_quiet (fail)
      go_wp2
      go_roundw
      case rel => exact ⟨k + 1, m + nq, by go_num, by omega, rfl⟩
      case measure => simp [intOf]; omega
    · go_wp2
      go_ret
      exact ⟨rfl, m, rfl⟩

set_option maxRecDepth 100000 in
set_option maxHeartbeats 4000000 in
/-- gazetteersame.Head, at the same head -/
theorem sameHead (i0 i2 i9 : Int) (s1 s3 s4 s5 s6 s7 s8 : Bool) (a1 a2 a3 a4 b1 b2 b3 b4 : Option Addr) (n1 n2 n3 n4 c1 c2 c3 c4 d1 d2 d3 d4 : Nat) (w : World) :
    Calls Try.prog 21 #[.agg #[.int .i64 i0, .bool s1, .int .i64 i2, .bool s3, .bool s4, .bool s5, .bool s6, .bool s7, .bool s8, .int .i64 i9, .slice a1 n1 c1, .slice a2 n2 c2, .slice a3 n3 c3, .slice a4 n4 c4], .agg #[.int .i64 i0, .bool s1, .int .i64 i2, .bool s3, .bool s4, .bool s5, .bool s6, .bool s7, .bool s8, .int .i64 i9, .slice b1 n1 d1, .slice b2 n2 d2, .slice b3 n3 d3, .slice b4 n4 d4]] w fun e w' => e = .returned (.bool true) ∧ Below w.heap.size w w' := by
  go_enter Try.func21, Try.ntmps21
  go_wp2_with fail
  go_ret
  exact ⟨rfl, ((Below.refl _ w).alloc (Nat.le_refl _) _).alloc (by simp) _⟩

set_option maxRecDepth 100000 in
set_option maxHeartbeats 8000000 in
/-- gazetteersame.Messages, at the same message -/
theorem sameMessages (i0 i2 i9 : Int) (s1 s3 s4 s5 s6 s7 s8 : Bool) (a1 a2 a3 a4 b1 b2 b3 b4 : Option Addr) (c1 c2 c3 c4 d1 d2 d3 d4 m1 m2 : Nat) (ls : Ls) (w : World) (hA : Mg4 w m1 (.slice a1 ls.q.length c1) (.slice a2 ls.a.length c2) (.slice a3 ls.u.length c3) (.slice a4 ls.d.length c4) ls) (hB : Mg4 w m2 (.slice b1 ls.q.length d1) (.slice b2 ls.a.length d2) (.slice b3 ls.u.length d3) (.slice b4 ls.d.length d4) ls) (hl : ls.q.length ≤ 4294967296 ∧ ls.a.length ≤ 4294967296 ∧ ls.u.length ≤ 4294967296 ∧ ls.d.length ≤ 4294967296) :
    Calls Try.prog 9 #[.agg #[.int .i64 i0, .bool s1, .int .i64 i2, .bool s3, .bool s4, .bool s5, .bool s6, .bool s7, .bool s8, .int .i64 i9, .slice a1 ls.q.length c1, .slice a2 ls.a.length c2, .slice a3 ls.u.length c3, .slice a4 ls.d.length c4], .agg #[.int .i64 i0, .bool s1, .int .i64 i2, .bool s3, .bool s4, .bool s5, .bool s6, .bool s7, .bool s8, .int .i64 i9, .slice b1 ls.q.length d1, .slice b2 ls.a.length d2, .slice b3 ls.u.length d3, .slice b4 ls.d.length d4]] w fun e w' => e = .returned (.bool true) ∧ Below w.heap.size w w' := by
  obtain ⟨wa, hwa⟩ : ∃ wa, w.alloc (.cells #[.int .i64 i0, .bool s1, .int .i64 i2, .bool s3, .bool s4, .bool s5, .bool s6, .bool s7, .bool s8, .int .i64 i9, .slice a1 ls.q.length c1, .slice a2 ls.a.length c2, .slice a3 ls.u.length c3, .slice a4 ls.d.length c4] 25) = wa := ⟨_, rfl⟩
  obtain ⟨wb, hwb⟩ : ∃ wb, wa.alloc (.cells #[.int .i64 i0, .bool s1, .int .i64 i2, .bool s3, .bool s4, .bool s5, .bool s6, .bool s7, .bool s8, .int .i64 i9, .slice b1 ls.q.length d1, .slice b2 ls.a.length d2, .slice b3 ls.u.length d3, .slice b4 ls.d.length d4] 25) = wb := ⟨_, rfl⟩
  have h1 : Bx wa w.heap.size #[.int .i64 i0, .bool s1, .int .i64 i2, .bool s3, .bool s4, .bool s5, .bool s6, .bool s7, .bool s8, .int .i64 i9, .slice a1 ls.q.length c1, .slice a2 ls.a.length c2, .slice a3 ls.u.length c3, .slice a4 ls.d.length c4] 25 := hwa ▸ World.alloc_heap_new w _
  have HXa : Hid (Bx wb w.heap.size #[.int .i64 i0, .bool s1, .int .i64 i2, .bool s3, .bool s4, .bool s5, .bool s6, .bool s7, .bool s8, .int .i64 i9, .slice a1 ls.q.length c1, .slice a2 ls.a.length c2, .slice a3 ls.u.length c3, .slice a4 ls.d.length c4] 25) := hwb ▸ h1.grown (World.grownBy_alloc wa _ none) (by simp)
  have HXb : Hid (Bx wb wa.heap.size #[.int .i64 i0, .bool s1, .int .i64 i2, .bool s3, .bool s4, .bool s5, .bool s6, .bool s7, .bool s8, .int .i64 i9, .slice b1 ls.q.length d1, .slice b2 ls.a.length d2, .slice b3 ls.u.length d3, .slice b4 ls.d.length d4] 25) := hwb ▸ World.alloc_heap_new wa _
  have HBb : Hid (Below w.heap.size w wb) := by rw [← hwb, ← hwa]; exact ((Below.refl _ w).alloc (Nat.le_refl _) _).alloc (by simp) _
  have HR : Hid (∀ w1 : World, Below wb.heap.size wb w1 → Mg4 w1 m1 (.slice a1 ls.q.length c1) (.slice a2 ls.a.length c2) (.slice a3 ls.u.length c3) (.slice a4 ls.d.length c4) ls ∧ Mg4 w1 m2 (.slice b1 ls.q.length d1) (.slice b2 ls.a.length d2) (.slice b3 ls.u.length d3) (.slice b4 ls.d.length d4) ls ∧ Bx w1 w.heap.size #[.int .i64 i0, .bool s1, .int .i64 i2, .bool s3, .bool s4, .bool s5, .bool s6, .bool s7, .bool s8, .int .i64 i9, .slice a1 ls.q.length c1, .slice a2 ls.a.length c2, .slice a3 ls.u.length c3, .slice a4 ls.d.length c4] 25 ∧ Bx w1 wa.heap.size #[.int .i64 i0, .bool s1, .int .i64 i2, .bool s3, .bool s4, .bool s5, .bool s6, .bool s7, .bool s8, .int .i64 i9, .slice b1 ls.q.length d1, .slice b2 ls.a.length d2, .slice b3 ls.u.length d3, .slice b4 ls.d.length d4] 25 ∧ Below w.heap.size w w1) := by
    intro w1 hb
    have hg : w.grownBy w1 none := grown_trans (grown_below HBb.out none) (grown_below hb none)
    exact ⟨hA.keep hg (fun q e => by cases e), hB.keep hg (fun q e => by cases e), HXa.out.below hb HXa.out.lt, HXb.out.below hb HXb.out.lt, bstep HBb.out hb HBb.out.size⟩
  have HH := hide' (fun (W : World) => sameHead i0 i2 i9 s1 s3 s4 s5 s6 s7 s8 a1 a2 a3 a4 b1 b2 b3 b4 ls.q.length ls.a.length ls.u.length ls.d.length c1 c2 c3 c4 d1 d2 d3 d4 W)
  obtain ⟨x0, x1, x2, x3, x4, x5, x6, x7, x8, x9, x10, x11, x12, x13⟩ := bx14 HXa.out
  obtain ⟨y0, y1, y2, y3, y4, y5, y6, y7, y8, y9, y10, y11, y12, y13⟩ := bx14 HXb.out
  have HHA := hide' hA
  clear h1 hA hB
  go_enter Try.func9, Try.ntmps9
  have F1 : Hid True := trivial
  have F2 : Hid True := trivial
  go_wp2_with (first
    | (go_at_call 21; refine (HH.out _).mono ?_; rintro e w1 ⟨rfl, hb1⟩; have HB1 := hide' hb1; have H1 := hide' (HR.out _ hb1); clear hb1 x0 x1 x2 x3 x4 x5 x6 x7 x8 x9 x10 x11 x12 x13 y0 y1 y2 y3 y4 y5 y6 y7 y8 y9 y10 y11 y12 y13; obtain ⟨_, _, _, _, _, _, _, _, _, _, x10, x11, x12, x13⟩ := bx14 H1.out.2.2.1; obtain ⟨_, _, _, _, _, _, _, _, _, _, y10, y11, y12, y13⟩ := bx14 H1.out.2.2.2.1)
    | (go_at_call 11; refine (sameQuestions a1 b1 ls.q.length c1 d1 m1 m2 ls.q _ H1.out.1.q H1.out.2.1.q rfl hl.1).mono ?_; rintro e w2 ⟨rfl, mm2, hw2⟩; have HB2 : Hid (Below wb.heap.size wb w2) := hw2 ▸ bstep HB1.out (below_quiet mm2) HB1.out.size; have H2 := hide' (HR.out _ HB2.out); clear hw2 x10 x11 x12 x13 y10 y11 y12 y13; obtain ⟨_, _, _, _, _, _, _, _, _, _, x10, x11, x12, x13⟩ := bx14 H2.out.2.2.1; obtain ⟨_, _, _, _, _, _, _, _, _, _, y10, y11, y12, y13⟩ := bx14 H2.out.2.2.2.1)
    | (go_at_call 12; have _ := F1; clear F1; refine (sameRecords a2 b2 ls.a.length c2 d2 m1 m2 ls.a _ H2.out.1.a H2.out.2.1.a rfl hl.2.1).mono ?_; rintro e w3 ⟨rfl, mm3, hw3⟩; have HB3 : Hid (Below wb.heap.size wb w3) := hw3 ▸ bstep HB2.out (below_quiet mm3) HB2.out.size; have H3 := hide' (HR.out _ HB3.out); clear hw3 x10 x11 x12 x13 y10 y11 y12 y13; obtain ⟨_, _, _, _, _, _, _, _, _, _, x10, x11, x12, x13⟩ := bx14 H3.out.2.2.1; obtain ⟨_, _, _, _, _, _, _, _, _, _, y10, y11, y12, y13⟩ := bx14 H3.out.2.2.2.1)
    | (go_at_call 12; have _ := F2; clear F2; refine (sameRecords a3 b3 ls.u.length c3 d3 m1 m2 ls.u _ H3.out.1.u H3.out.2.1.u rfl hl.2.2.1).mono ?_; rintro e w4 ⟨rfl, mm4, hw4⟩; have HB4 : Hid (Below wb.heap.size wb w4) := hw4 ▸ bstep HB3.out (below_quiet mm4) HB3.out.size; have H4 := hide' (HR.out _ HB4.out); clear hw4 x10 x11 x12 x13 y10 y11 y12 y13; obtain ⟨_, _, _, _, _, _, _, _, _, _, x10, x11, x12, x13⟩ := bx14 H4.out.2.2.1; obtain ⟨_, _, _, _, _, _, _, _, _, _, y10, y11, y12, y13⟩ := bx14 H4.out.2.2.2.1)
    | (go_at_call 12; refine (sameRecords a4 b4 ls.d.length c4 d4 m1 m2 ls.d _ H4.out.1.d H4.out.2.1.d rfl hl.2.2.2).mono ?_; rintro e w5 ⟨rfl, mm5, hw5⟩; have HB5 : Hid (Below wb.heap.size wb w5) := hw5 ▸ bstep HB4.out (below_quiet mm5) HB4.out.size; have H5 := hide' (HR.out _ HB5.out); clear hw5))
  go_ret
  exact ⟨rfl, H5.out.2.2.2.2⟩
end Go.Proofs.Ytinnmfidnecncaa

namespace Go.Proofs.Ytinnmfidnecncaa
set_option linter.unusedVariables false
open Go.RowKit Go.Shelf Go.Maps Go.Proofs.Ytinnmfidnecncaa.Nm

/-- the lists of a message, to be read -/
structure Ms4 (w : World) (q0 a0 u0 d0 : Option Addr) (ls : Ls) : Prop where
  q : QsAt w q0 ls.q
  a : RsAt w a0 ls.a
  u : RsAt w u0 ls.u
  d : RsAt w d0 ls.d
theorem Ms4.below {w w' : World} {q0 a0 u0 d0 : Option Addr} {ls : Ls} (h : Ms4 w q0 a0 u0 d0 ls) (hb : Below w.heap.size w w') : Ms4 w' q0 a0 u0 d0 ls :=
  ⟨qsAt_below h.q hb, rsAt_below h.a hb, rsAt_below h.u hb, rsAt_below h.d hb⟩
theorem cell_lt {w : World} {g o : Nat} {v : Value} (h : w.cell? ⟨g, o, none⟩ = some v) : g < w.heap.size := by
  unfold World.cell? at h
  split at h
  · rename_i hh
    exact (Array.getElem?_eq_some_iff.1 hh).1
  · cases h
theorem qsAt_own {w : World} {b : Nat} {p : Option Addr} {n c : Nat} {L : List Qn} (h : w.ownsRow b 51 3 (.slice p n c) n (qcells L)) (hn : n = L.length) : QsAt w p L := fun k hk => by
  rcases h.2 with ⟨h1, h0⟩ | ⟨g, cap, cur, h1, rest⟩
  · omega
  · injection h1 with h1 h2 h3
    subst h1
    obtain ⟨e0, e1, e2⟩ := Qst_own h hn k hk
    exact ⟨g, 0, rfl, cell_lt e0, by rw [Nat.zero_add]; exact e0, by rw [Nat.zero_add]; exact e1, by rw [Nat.zero_add]; exact e2⟩
theorem rsAt_own2 {w : World} {b : Nat} {p : Option Addr} {n c : Nat} {L : List Rn} (h : w.ownsRow b 70 5 (.slice p n c) n (rcells L)) (hn : n = L.length) : RsAt w p L := fun k hk => by
  rcases h.2 with ⟨h1, h0⟩ | ⟨g, cap, cur, h1, rest⟩
  · omega
  · injection h1 with h1 h2 h3
    subst h1
    obtain ⟨e0, e1, e2, e3, e4⟩ := Rcd_own h hn k hk
    exact ⟨g, 0, rfl, cell_lt e0, by rw [Nat.zero_add]; exact e0, by rw [Nat.zero_add]; exact e1, by rw [Nat.zero_add]; exact e2, by rw [Nat.zero_add]; exact e3, by rw [Nat.zero_add]; exact e4⟩
theorem ms4_own {w : World} {m : Nat} {a1 a2 a3 a4 : Option Addr} {c1 c2 c3 c4 : Nat} {ls : Ls} (h : Mg4 w m (.slice a1 ls.q.length c1) (.slice a2 ls.a.length c2) (.slice a3 ls.u.length c3) (.slice a4 ls.d.length c4) ls) : Ms4 w a1 a2 a3 a4 ls :=
  ⟨qsAt_own h.q rfl, rsAt_own2 h.a rfl, rsAt_own2 h.u rfl, rsAt_own2 h.d rfl⟩

set_option maxRecDepth 100000 in
set_option maxHeartbeats 2000000 in
/-- gazetteersame.Questions, at the same list -/
theorem sameQuestions2 (p1 p2 : Option Addr) (n c1 c2 : Nat) (L : List Qn) (w : World) (hx : QsAt w p1 L) (hy : QsAt w p2 L) (hn : n = L.length) (hl : n ≤ 4294967296) :
    Calls Try.prog 11 #[.slice p1 n c1, .slice p2 n c2] w fun e w' => e = .returned (.bool true) ∧ ∃ m, w' = w.drewN m := by
  have HX := hide' hx
  have HY := hide' hy
  have HN := hide' hn
  clear hx hy hn
  go_enter Try.func11, Try.ntmps11
  go_wp2
  go_loopw [13] (fun i wr => ∃ k m : Nat, i = .int .i64 k ∧ k ≤ n ∧ wr = w.drewN m) (fun i _ => n - (intOf i).toNat)
  case atStart => exact ⟨0, 0, rfl, Nat.zero_le _, rfl⟩
  case round =>
    obtain ⟨k, m, rfl, hk, rfl⟩ := hrel
    by_cases hlt : k < n
    · obtain ⟨g1, o1, rfl, _, x0, x1, x2⟩ := HX.out k (by rw [← HN.out]; exact hlt)
      obtain ⟨g2, o2, rfl, _, y0, y1, y2⟩ := HY.out k (by rw [← HN.out]; exact hlt)
      generalize L[k].n = qn at *
      generalize L[k].t = qt at *
      generalize L[k].c = qc at *
      go_wp2
      go_quiet (fail)
      go_wp2
      go_roundw
      case rel => exact ⟨k + 1, m + nq, by go_num, by omega, rfl⟩
      case measure => simp [intOf]; omega
    · go_wp2
      go_ret
      exact ⟨rfl, m, rfl⟩

set_option maxRecDepth 100000 in
set_option maxHeartbeats 2000000 in
/-- gazetteersame.Records, at the same list -/
theorem sameRecords2 (p1 p2 : Option Addr) (n c1 c2 : Nat) (L : List Rn) (w : World) (hx : RsAt w p1 L) (hy : RsAt w p2 L) (hn : n = L.length) (hl : n ≤ 4294967296) :
    Calls Try.prog 12 #[.slice p1 n c1, .slice p2 n c2] w fun e w' => e = .returned (.bool true) ∧ ∃ m, w' = w.drewN m := by
  have HX := hide' hx
  have HY := hide' hy
  have HN := hide' hn
  clear hx hy hn
  go_enter Try.func12, Try.ntmps12
  go_wp2
  go_loopw [13] (fun i wr => ∃ k m : Nat, i = .int .i64 k ∧ k ≤ n ∧ wr = w.drewN m) (fun i _ => n - (intOf i).toNat)
  case atStart => exact ⟨0, 0, rfl, Nat.zero_le _, rfl⟩
  case round =>
    obtain ⟨k, m, rfl, hk, rfl⟩ := hrel
    by_cases hlt : k < n
    · obtain ⟨g1, o1, rfl, _, x0, x1, x2, x3, x4⟩ := HX.out k (by rw [← HN.out]; exact hlt)
      obtain ⟨g2, o2, rfl, _, y0, y1, y2, y3, y4⟩ := HY.out k (by rw [← HN.out]; exact hlt)
      generalize L[k].o = qo at *
      generalize L[k].t = qt at *
      generalize L[k].c = qc at *
      generalize L[k].l = ql at *
      generalize L[k].d = qd at *
      go_wp2
      go_quiet (fail)
      go_wp2
      go_roundw
      case rel => exact ⟨k + 1, m + nq, by go_num, by omega, rfl⟩
      case measure => simp [intOf]; omega
    · go_wp2
      go_ret
      exact ⟨rfl, m, rfl⟩

set_option maxRecDepth 100000 in
set_option maxHeartbeats 8000000 in
/-- gazetteersame.Messages, at the same message -/
theorem sameMessages2 (i0 i2 i9 : Int) (s1 s3 s4 s5 s6 s7 s8 : Bool) (a1 a2 a3 a4 b1 b2 b3 b4 : Option Addr) (c1 c2 c3 c4 d1 d2 d3 d4 : Nat) (ls : Ls) (w : World) (hA : Ms4 w a1 a2 a3 a4 ls) (hB : Ms4 w b1 b2 b3 b4 ls) (hl : ls.q.length ≤ 4294967296 ∧ ls.a.length ≤ 4294967296 ∧ ls.u.length ≤ 4294967296 ∧ ls.d.length ≤ 4294967296) :
    Calls Try.prog 9 #[.agg #[.int .i64 i0, .bool s1, .int .i64 i2, .bool s3, .bool s4, .bool s5, .bool s6, .bool s7, .bool s8, .int .i64 i9, .slice a1 ls.q.length c1, .slice a2 ls.a.length c2, .slice a3 ls.u.length c3, .slice a4 ls.d.length c4], .agg #[.int .i64 i0, .bool s1, .int .i64 i2, .bool s3, .bool s4, .bool s5, .bool s6, .bool s7, .bool s8, .int .i64 i9, .slice b1 ls.q.length d1, .slice b2 ls.a.length d2, .slice b3 ls.u.length d3, .slice b4 ls.d.length d4]] w fun e w' => e = .returned (.bool true) ∧ Below w.heap.size w w' := by
  obtain ⟨wa, hwa⟩ : ∃ wa, w.alloc (.cells #[.int .i64 i0, .bool s1, .int .i64 i2, .bool s3, .bool s4, .bool s5, .bool s6, .bool s7, .bool s8, .int .i64 i9, .slice a1 ls.q.length c1, .slice a2 ls.a.length c2, .slice a3 ls.u.length c3, .slice a4 ls.d.length c4] 25) = wa := ⟨_, rfl⟩
  obtain ⟨wb, hwb⟩ : ∃ wb, wa.alloc (.cells #[.int .i64 i0, .bool s1, .int .i64 i2, .bool s3, .bool s4, .bool s5, .bool s6, .bool s7, .bool s8, .int .i64 i9, .slice b1 ls.q.length d1, .slice b2 ls.a.length d2, .slice b3 ls.u.length d3, .slice b4 ls.d.length d4] 25) = wb := ⟨_, rfl⟩
  have h1 : Bx wa w.heap.size #[.int .i64 i0, .bool s1, .int .i64 i2, .bool s3, .bool s4, .bool s5, .bool s6, .bool s7, .bool s8, .int .i64 i9, .slice a1 ls.q.length c1, .slice a2 ls.a.length c2, .slice a3 ls.u.length c3, .slice a4 ls.d.length c4] 25 := hwa ▸ World.alloc_heap_new w _
  have HXa : Hid (Bx wb w.heap.size #[.int .i64 i0, .bool s1, .int .i64 i2, .bool s3, .bool s4, .bool s5, .bool s6, .bool s7, .bool s8, .int .i64 i9, .slice a1 ls.q.length c1, .slice a2 ls.a.length c2, .slice a3 ls.u.length c3, .slice a4 ls.d.length c4] 25) := hwb ▸ h1.grown (World.grownBy_alloc wa _ none) (by simp)
  have HXb : Hid (Bx wb wa.heap.size #[.int .i64 i0, .bool s1, .int .i64 i2, .bool s3, .bool s4, .bool s5, .bool s6, .bool s7, .bool s8, .int .i64 i9, .slice b1 ls.q.length d1, .slice b2 ls.a.length d2, .slice b3 ls.u.length d3, .slice b4 ls.d.length d4] 25) := hwb ▸ World.alloc_heap_new wa _
  have HBb : Hid (Below w.heap.size w wb) := by rw [← hwb, ← hwa]; exact ((Below.refl _ w).alloc (Nat.le_refl _) _).alloc (by simp) _
  have HR : Hid (∀ w1 : World, Below wb.heap.size wb w1 → Ms4 w1 a1 a2 a3 a4 ls ∧ Ms4 w1 b1 b2 b3 b4 ls ∧ Bx w1 w.heap.size #[.int .i64 i0, .bool s1, .int .i64 i2, .bool s3, .bool s4, .bool s5, .bool s6, .bool s7, .bool s8, .int .i64 i9, .slice a1 ls.q.length c1, .slice a2 ls.a.length c2, .slice a3 ls.u.length c3, .slice a4 ls.d.length c4] 25 ∧ Bx w1 wa.heap.size #[.int .i64 i0, .bool s1, .int .i64 i2, .bool s3, .bool s4, .bool s5, .bool s6, .bool s7, .bool s8, .int .i64 i9, .slice b1 ls.q.length d1, .slice b2 ls.a.length d2, .slice b3 ls.u.length d3, .slice b4 ls.d.length d4] 25 ∧ Below w.heap.size w w1) := by
    intro w1 hb
    have hg : Below w.heap.size w w1 := bstep HBb.out hb HBb.out.size
    exact ⟨hA.below hg, hB.below hg, HXa.out.below hb HXa.out.lt, HXb.out.below hb HXb.out.lt, hg⟩
  have HH := hide' (fun (W : World) => sameHead i0 i2 i9 s1 s3 s4 s5 s6 s7 s8 a1 a2 a3 a4 b1 b2 b3 b4 ls.q.length ls.a.length ls.u.length ls.d.length c1 c2 c3 c4 d1 d2 d3 d4 W)
  obtain ⟨x0, x1, x2, x3, x4, x5, x6, x7, x8, x9, x10, x11, x12, x13⟩ := bx14 HXa.out
  obtain ⟨y0, y1, y2, y3, y4, y5, y6, y7, y8, y9, y10, y11, y12, y13⟩ := bx14 HXb.out
  clear h1 hA hB
  go_enter Try.func9, Try.ntmps9
  have F1 : Hid True := trivial
  have F2 : Hid True := trivial
  go_wp2_with (first
    | (go_at_call 21; refine (HH.out _).mono ?_; rintro e w1 ⟨rfl, hb1⟩; have HB1 := hide' hb1; have H1 := hide' (HR.out _ hb1); clear hb1 x0 x1 x2 x3 x4 x5 x6 x7 x8 x9 x10 x11 x12 x13 y0 y1 y2 y3 y4 y5 y6 y7 y8 y9 y10 y11 y12 y13; obtain ⟨_, _, _, _, _, _, _, _, _, _, x10, x11, x12, x13⟩ := bx14 H1.out.2.2.1; obtain ⟨_, _, _, _, _, _, _, _, _, _, y10, y11, y12, y13⟩ := bx14 H1.out.2.2.2.1)
    | (go_at_call 11; refine (sameQuestions2 a1 b1 ls.q.length c1 d1 ls.q _ H1.out.1.q H1.out.2.1.q rfl hl.1).mono ?_; rintro e w2 ⟨rfl, mm2, hw2⟩; have HB2 : Hid (Below wb.heap.size wb w2) := hw2 ▸ bstep HB1.out (below_quiet mm2) HB1.out.size; have H2 := hide' (HR.out _ HB2.out); clear hw2 x10 x11 x12 x13 y10 y11 y12 y13; obtain ⟨_, _, _, _, _, _, _, _, _, _, x10, x11, x12, x13⟩ := bx14 H2.out.2.2.1; obtain ⟨_, _, _, _, _, _, _, _, _, _, y10, y11, y12, y13⟩ := bx14 H2.out.2.2.2.1)
    | (go_at_call 12; have _ := F1; clear F1; refine (sameRecords2 a2 b2 ls.a.length c2 d2 ls.a _ H2.out.1.a H2.out.2.1.a rfl hl.2.1).mono ?_; rintro e w3 ⟨rfl, mm3, hw3⟩; have HB3 : Hid (Below wb.heap.size wb w3) := hw3 ▸ bstep HB2.out (below_quiet mm3) HB2.out.size; have H3 := hide' (HR.out _ HB3.out); clear hw3 x10 x11 x12 x13 y10 y11 y12 y13; obtain ⟨_, _, _, _, _, _, _, _, _, _, x10, x11, x12, x13⟩ := bx14 H3.out.2.2.1; obtain ⟨_, _, _, _, _, _, _, _, _, _, y10, y11, y12, y13⟩ := bx14 H3.out.2.2.2.1)
    | (go_at_call 12; have _ := F2; clear F2; refine (sameRecords2 a3 b3 ls.u.length c3 d3 ls.u _ H3.out.1.u H3.out.2.1.u rfl hl.2.2.1).mono ?_; rintro e w4 ⟨rfl, mm4, hw4⟩; have HB4 : Hid (Below wb.heap.size wb w4) := hw4 ▸ bstep HB3.out (below_quiet mm4) HB3.out.size; have H4 := hide' (HR.out _ HB4.out); clear hw4 x10 x11 x12 x13 y10 y11 y12 y13; obtain ⟨_, _, _, _, _, _, _, _, _, _, x10, x11, x12, x13⟩ := bx14 H4.out.2.2.1; obtain ⟨_, _, _, _, _, _, _, _, _, _, y10, y11, y12, y13⟩ := bx14 H4.out.2.2.2.1)
    | (go_at_call 12; refine (sameRecords2 a4 b4 ls.d.length c4 d4 ls.d _ H4.out.1.d H4.out.2.1.d rfl hl.2.2.2).mono ?_; rintro e w5 ⟨rfl, mm5, hw5⟩; have HB5 : Hid (Below wb.heap.size wb w5) := hw5 ▸ bstep HB4.out (below_quiet mm5) HB4.out.size; have H5 := hide' (HR.out _ HB5.out); clear hw5))
  go_ret
  exact ⟨rfl, H5.out.2.2.2.2⟩
end Go.Proofs.Ytinnmfidnecncaa
