import Derived.Test.YtlidocgnboobfaaSp5
/-
  SignerPlans: the region that makes both plans. (The verifier's own text.)
-/
namespace Go.Proofs.Ytlidocgnboobfaa
set_option linter.unusedVariables false
set_option linter.unusedSimpArgs false
open Go.RowKit Go.Shelf Go.Proofs.Ytlidocgnboobfaa.Nm

theorem Zs.facts {u : World} {lo hi : Nat} (h : Zs u lo hi) (X : Nat) (h1 : lo ≤ X) (h2 : X < hi) : (World.cell? u ⟨X, 0, none⟩ = some (.slice none 0 0) ∧ World.frozen? u ⟨X, 0, none⟩ = false ∧ World.cell? u ⟨X, 1, none⟩ = some (.bool false) ∧ World.frozen? u ⟨X, 1, none⟩ = false ∧ World.cell? u ⟨X, 2, none⟩ = some (.string ⟨#[]⟩) ∧ World.frozen? u ⟨X, 2, none⟩ = false ∧ World.cell? u ⟨X, 3, none⟩ = some (.int .i64 0) ∧ World.frozen? u ⟨X, 3, none⟩ = false ∧ World.cell? u ⟨X, 4, none⟩ = some (.int .i64 0) ∧ World.frozen? u ⟨X, 4, none⟩ = false ∧ World.cell? u ⟨X, 5, none⟩ = some (.int .i64 0) ∧ World.frozen? u ⟨X, 5, none⟩ = false ∧ World.cell? u ⟨X, 6, none⟩ = some (.int .i64 0) ∧ World.frozen? u ⟨X, 6, none⟩ = false) ∧ (∀ o, World.cell? (World.alloc u o) ⟨X, 0, none⟩ = some (.slice none 0 0) ∧ World.frozen? (World.alloc u o) ⟨X, 0, none⟩ = false ∧ World.cell? (World.alloc u o) ⟨X, 1, none⟩ = some (.bool false) ∧ World.frozen? (World.alloc u o) ⟨X, 1, none⟩ = false ∧ World.cell? (World.alloc u o) ⟨X, 2, none⟩ = some (.string ⟨#[]⟩) ∧ World.frozen? (World.alloc u o) ⟨X, 2, none⟩ = false ∧ World.cell? (World.alloc u o) ⟨X, 3, none⟩ = some (.int .i64 0) ∧ World.frozen? (World.alloc u o) ⟨X, 3, none⟩ = false ∧ World.cell? (World.alloc u o) ⟨X, 4, none⟩ = some (.int .i64 0) ∧ World.frozen? (World.alloc u o) ⟨X, 4, none⟩ = false ∧ World.cell? (World.alloc u o) ⟨X, 5, none⟩ = some (.int .i64 0) ∧ World.frozen? (World.alloc u o) ⟨X, 5, none⟩ = false ∧ World.cell? (World.alloc u o) ⟨X, 6, none⟩ = some (.int .i64 0) ∧ World.frozen? (World.alloc u o) ⟨X, 6, none⟩ = false) ∧ X ≠ u.heap.size ∧ u.heap.size ≠ X := by
  have hlt := (h X h1 h2).lt
  exact ⟨h.cells X h1 h2, fun o => (h.al o).cells X h1 h2, Nat.ne_of_lt hlt, Nat.ne_of_gt hlt⟩
theorem Zs.ne {u : World} {lo hi : Nat} (h : Zs u lo hi) (X : Nat) (h1 : lo ≤ X) (h2 : X < hi) : X ≠ u.heap.size ∧ u.heap.size ≠ X := by
  have hlt := (h X h1 h2).lt
  exact ⟨Nat.ne_of_lt hlt, Nat.ne_of_gt hlt⟩
theorem lt_a (w : World) (o : Obj) : w.heap.size < (w.alloc o).heap.size := by simp
theorem lt_aa (w : World) (o o' : Obj) : w.heap.size < ((w.alloc o).alloc o').heap.size := by simp; omega
theorem lt_ab (w : World) (o o' : Obj) : w.heap.size + 1 < ((w.alloc o).alloc o').heap.size := by simp
theorem lt_da (w : World) (o : Obj) : w.heap.size < (w.drew.alloc o).heap.size := lt_a w.drew o
theorem lt_daa (w : World) (o o' : Obj) : w.heap.size < ((w.drew.alloc o).alloc o').heap.size := lt_aa w.drew o o'
theorem lt_dab (w : World) (o o' : Obj) : w.heap.size + 1 < ((w.drew.alloc o).alloc o').heap.size := lt_ab w.drew o o'
/-- a world that has grown, and was written to at A and B, since u -/
structure Ch (u u' : World) (A B : Nat) : Prop where
  os : u'.os = u.os
  tape : u'.tape = u.tape
  output : u'.output = u.output
  size : u.heap.size ≤ u'.heap.size
  block : ∀ k, k < u.heap.size → k ≠ A → k ≠ B → u'.heap[k]? = u.heap[k]?
theorem Ch.nil (u : World) (A B : Nat) : Ch u u A B := ⟨rfl, rfl, rfl, Nat.le_refl _, fun _ _ _ _ => rfl⟩
theorem Ch.al {u u' : World} {A B : Nat} (h : Ch u u' A B) (o : Obj) : Ch u (u'.alloc o) A B := by
  have hb : Below u'.heap.size u' (u'.alloc o) := (Below.refl _ _).alloc (Nat.le_refl _) _
  exact ⟨hb.os.trans h.os, hb.tape.trans h.tape, hb.output.trans h.output, Nat.le_trans h.size hb.size, fun k h1 h2 h3 => (hb.block k (Nat.lt_of_lt_of_le h1 h.size)).trans (h.block k h1 h2 h3)⟩
theorem Ch.putA {u u' : World} {A B : Nat} (h : Ch u u' A B) (x0 x1 x2 x3 x4 x5 x6 : Value) : Ch u (put7 u' A x0 x1 x2 x3 x4 x5 x6) A B :=
  have hb := put7_below (Below.refl 0 u') (Nat.zero_le A) x0 x1 x2 x3 x4 x5 x6
  ⟨hb.os.trans h.os, hb.tape.trans h.tape, hb.output.trans h.output, Nat.le_trans h.size hb.size, fun k h1 h2 h3 => (put7_heap _ _ _ _ _ _ _ _ _ k h2).trans (h.block k h1 h2 h3)⟩
theorem Ch.putB {u u' : World} {A B : Nat} (h : Ch u u' A B) (x0 x1 x2 x3 x4 x5 x6 : Value) : Ch u (put7 u' B x0 x1 x2 x3 x4 x5 x6) A B :=
  have hb := put7_below (Below.refl 0 u') (Nat.zero_le B) x0 x1 x2 x3 x4 x5 x6
  ⟨hb.os.trans h.os, hb.tape.trans h.tape, hb.output.trans h.output, Nat.le_trans h.size hb.size, fun k h1 h2 h3 => (put7_heap _ _ _ _ _ _ _ _ _ k h3).trans (h.block k h1 h2 h3)⟩
theorem fq_of {w u u' : World} {base : Array Value} {cs : List Value} {v1 v2 v3 : Value} {A B b2 b3' : Nat} {L : List Tk} {K : List Pn} (hF : Fp w u base v1 L) (hc : Ch u u' A B)
    (ba : Bx u' A (v2 :: cs).toArray 25) (b3 : Bx u' B (v3 :: cs).toArray 25) (o2 : u.ownsRow b2 32 5 v2 K.length (rowV pnV K)) (o3 : u.ownsRow b3' 32 5 v3 K.length (rowV pnV K))
    (l2 : w.heap.size + 1 ≤ b2) (l3 : w.heap.size + 1 ≤ b3') (ab : A ≠ B) (wa : w.heap.size < A) (wb : w.heap.size < B)
    (n1 : ∀ g, v1.ownBlock = some g → g ≠ A ∧ g ≠ B ∧ v2.ownBlock ≠ some g) (n2 : ∀ g, v2.ownBlock = some g → g ≠ A ∧ g ≠ B) (n3 : ∀ g, v3.ownBlock = some g → g ≠ A ∧ g ≠ B ∧ v2.ownBlock ≠ some g) :
    Fq w u' base cs v1 v2 v3 A B L K (rowV pnV K) :=
  ⟨⟨⟨hc.os.trans hF.bel.os, hc.tape.trans hF.bel.tape, hc.output.trans hF.bel.output, Nat.le_trans hF.bel.size hc.size, fun k hk => (hc.block k (Nat.lt_of_lt_of_le hk hF.bel.size) (by omega) (by omega)).trans (hF.bel.block k hk)⟩,
    (hc.block _ hF.bb.lt (by omega) (by omega)).trans hF.bb, row_blk hF.o1 fun g e _ hg => hc.block g hg (n1 g e).1 (n1 g e).2.1⟩,
    ba, b3, row_lower (row_blk o2 fun g e _ hg => hc.block g hg (n2 g e).1 (n2 g e).2) l2, row_lower (row_blk o3 fun g e _ hg => hc.block g hg (n3 g e).1 (n3 g e).2.1) l3, ab, wa, wb, n1, n2, n3⟩
theorem drew_size (u : World) : u.drew.heap.size = u.heap.size := rfl
/-- a world that has grown, and was written to beyond M, since u0 -/
def Ax (M : Nat) (u0 u : World) : Prop := ∀ (cs : Array Value) (T : TypeId), Bx u0 M cs T → Bx u M cs T
theorem Ax.nil {M : Nat} {u0 : World} : Ax M u0 u0 := fun _ _ h => h
theorem Ax.drew {M : Nat} {u0 u : World} (h : Ax M u0 u) : Ax M u0 u.drew := fun cs T hb => h cs T hb
theorem Ax.al {M : Nat} {u0 u : World} {o : Obj} (h : Ax M u0 u) : Ax M u0 (u.alloc o) := fun cs T hb => (h cs T hb).al _
theorem Ax.set {M : Nat} {u0 u : World} {A j : Nat} {v : Value} (hA : M < A) (h : Ax M u0 u) : Ax M u0 (u.setCell ⟨A, j, none⟩ v) := fun cs T hb => (h cs T hb).far (Nat.ne_of_lt hA) _
theorem Ax.bx {M : Nat} {u0 u : World} {cs : Array Value} {T : TypeId} (h : Ax M u0 u) (hb : Bx u0 M cs T) : Bx u M cs T := h cs T hb
set_option maxRecDepth 100000 in
set_option maxHeartbeats 100000000 in
theorem plans_reg (K : Act → World → Prop) (Q : Exit → Act → World → Prop) (L : List Tk) (p p1 q0 : Option Addr) (cap c1 n0 c0 : Nat) (kb : Bool) (ks : ByteArray) (i3 i4 i5 i6 t : Int) (w w1 : World) (hL : L.length ≤ 1048576)
    (HA : Hid (TsAt w p L)) (HF : Hid (Fp w w1 #[.slice q0 n0 c0, .bool kb, .string ks, .int .i64 i3, .int .i64 i4, .int .i64 i5, .int .i64 i6] (.slice p1 L.length c1) L)) (x1 x3 x5 x6 x8 x9 x10 x11 x12 x13 x14 x15 x16 x17 x18 x19 x20 : Value) (rest : List Value)
    (HK : Hid (∀ (A B : Nat) (p2 p3 : Option Addr) (c2 c3 : Nat) (wx : World) (y13 y14 y15 y16 y17 y18 y19 y20 : Value), Fq w wx #[.slice q0 n0 c0, .bool kb, .string ks, .int .i64 i3, .int .i64 i4, .int .i64 i5, .int .i64 i6] [.bool kb, .string ks, .int .i64 i3, .int .i64 i4, .int .i64 i5, .int .i64 i6] (.slice p1 L.length c1) (.slice p2 (planK L t).length c2) (.slice p3 (planK L t).length c3) A B L (planK L t) (rowV pnV (planK L t)) → K ⟨List.toArray ((.slice p L.length cap : Value) :: x1 :: (.int .i64 t : Value) :: x3 :: (.pointer (some ⟨w.heap.size, 0, none⟩) : Value) :: x5 :: x6 :: (.slice p1 L.length c1 : Value) :: (.pointer (some ⟨A, 0, none⟩) : Value) :: (.pointer (some ⟨B, 0, none⟩) : Value) :: x10 :: x11 :: x12 :: y13 :: y14 :: y15 :: y16 :: y17 :: y18 :: y19 :: y20 :: rest), []⟩ wx)) :
    Code.wp Try.prog (((Try.f3.body.map (regs 2)).getD []).getD 0 .skip) (Exit.then K Q) ⟨List.toArray ((.slice p L.length cap : Value) :: x1 :: (.int .i64 t : Value) :: x3 :: (.pointer (some ⟨w.heap.size, 0, none⟩) : Value) :: x5 :: x6 :: (.slice p1 L.length c1 : Value) :: x8 :: x9 :: x10 :: x11 :: x12 :: x13 :: x14 :: x15 :: x16 :: x17 :: x18 :: x19 :: x20 :: rest), []⟩ w1 := by
  conv => arg 2; whnf
  obtain ⟨b0, b1, b2, b3, b4, b5, b6⟩ := bx7 HF.out.bb
  have hM1 : w.heap.size < w1.heap.size := HF.out.bb.lt
  have hN1 : w.heap.size < w1.heap.size + 1 := Nat.lt_succ_of_lt hM1
  go_region_held3 (fun w' => w'.cell? ⟨w.heap.size, 0, none⟩ = some (.slice q0 n0 c0) ∧ w'.cell? ⟨w.heap.size, 1, none⟩ = some (.bool kb) ∧ w'.cell? ⟨w.heap.size, 2, none⟩ = some (.string ks) ∧ w'.cell? ⟨w.heap.size, 3, none⟩ = some (.int .i64 i3) ∧ w'.cell? ⟨w.heap.size, 4, none⟩ = some (.int .i64 i4) ∧ w'.cell? ⟨w.heap.size, 5, none⟩ = some (.int .i64 i5) ∧ w'.cell? ⟨w.heap.size, 6, none⟩ = some (.int .i64 i6)) (first
      | (refine bx7 (Ax.bx (u0 := w4) ?_ HF4.out.bb); (with_reducible (repeat (first | exact Ax.nil | apply Ax.al | apply Ax.drew | (refine Ax.set ?_ ?_; assumption)))); done)
      | (refine bx7 (Ax.bx (u0 := w3) ?_ HF3.out.bb); (with_reducible (repeat (first | exact Ax.nil | apply Ax.al | apply Ax.drew | (refine Ax.set ?_ ?_; assumption)))); done)
      | (refine bx7 (Ax.bx (u0 := w1) ?_ HF.out.bb); (with_reducible (repeat (first | exact Ax.nil | apply Ax.al | apply Ax.drew | (refine Ax.set ?_ ?_; assumption)))); done)
      | go_keep) (first
    | (go_at_call 6
       refine (planAt_any L p1 c1 _ kb ks i3 i4 i5 i6 t _ hL (Ay.fp (by with_reducible repeat (first | exact Ay.nil | apply Ay.al | apply Ay.drew)) HF.out).ts).mono ?_
       rintro r3 w3 ⟨v3, rfl, ho3, hB3⟩
       have HF3 := hide' ((Ay.fp (by with_reducible repeat (first | exact Ay.nil | apply Ay.al | apply Ay.drew)) HF.out).below hB3 (Nat.le_refl _))
       have HZ3 := hide' ((Ay.zs (u0 := w1) (by with_reducible repeat (first | exact Ay.nil | apply Ay.al | apply Ay.drew))).below hB3 (Nat.le_refl _))
       obtain ⟨pv, cv, rfl, _, _, _⟩ := own_shape ho3
       have HO3 := hide' ho3
       have HS3 := hide' hB3.size
       have hM3 : w.heap.size < w3.heap.size := HF3.out.bb.lt
       have hN3 : w.heap.size < w3.heap.size + 1 := Nat.lt_succ_of_lt hM3
       first
       | (with_reducible (have ne1 := HZ3.out.ne (w1.heap.size + 1) (Nat.le_succ _) (lt_dab _ _ _)); with_reducible (have ne0 := HZ3.out.ne w1.heap.size (Nat.le_refl _) (lt_daa _ _ _)))
       | (with_reducible (have ne0 := HZ3.out.ne w1.heap.size (Nat.le_refl _) (lt_da _ _)))
       | skip
       clear ho3 hB3)
    | (go_at_call 7
       refine (refPlanAt_any L p cap q0 n0 c0 kb ks i3 i4 i5 i6 t _ hL (row_below' HA.out (Ay.fp (by with_reducible repeat (first | exact Ay.nil | apply Ay.al | apply Ay.drew)) HF3.out).bel)).mono ?_
       rintro r4 w4 ⟨v4, rfl, ho4, hB4⟩
       have HF4 := hide' ((Ay.fp (by with_reducible repeat (first | exact Ay.nil | apply Ay.al | apply Ay.drew)) HF3.out).below hB4 (Nat.le_refl _))
       have HY4 := hide' ((Ay.zs (u0 := w3) (by with_reducible repeat (first | exact Ay.nil | apply Ay.al | apply Ay.drew))).below hB4 (Nat.le_refl _))
       have HZ4 := hide' ((HZ3.out.below (Ay.bel (u0 := w3) (by with_reducible repeat (first | exact Ay.nil | apply Ay.al | apply Ay.drew))) HS3.out).below hB4 (Nat.le_trans HS3.out (Ay.bel (u0 := w3) (by with_reducible repeat (first | exact Ay.nil | apply Ay.al | apply Ay.drew))).size))
       obtain ⟨pv4, cv4, rfl, _, _, _⟩ := own_shape ho4
       have HO4 := hide' ho4
       have HO34 := hide' (row_bel (row_bel HO3.out (Ay.bel (u0 := w3) (by with_reducible repeat (first | exact Ay.nil | apply Ay.al | apply Ay.drew))) (Nat.le_refl _)) hB4 (Nat.le_refl _))
       have HS4 := hide' hB4.size
       have hM4 : w.heap.size < w4.heap.size := HF4.out.bb.lt
       have hN4 : w.heap.size < w4.heap.size + 1 := Nat.lt_succ_of_lt hM4
       first
       | (with_reducible (have z1 := HZ4.out.facts (w1.heap.size + 1) (Nat.le_succ _) (lt_dab _ _ _)); with_reducible (have z0 := HZ4.out.facts w1.heap.size (Nat.le_refl _) (lt_daa _ _ _)))
       | (with_reducible (have z0 := HZ4.out.facts w1.heap.size (Nat.le_refl _) (lt_da _ _)))
       | skip
       first
       | (with_reducible (have z3 := HY4.out.facts (w3.heap.size + 1) (Nat.le_succ _) (lt_ab _ _ _)); with_reducible (have z2 := HY4.out.facts w3.heap.size (Nat.le_refl _) (lt_aa _ _ _)))
       | (with_reducible (have z2 := HY4.out.facts w3.heap.size (Nat.le_refl _) (lt_a _ _)))
       | skip
       clear ho4 hB4))
  all_goals
    have hS3 := HS3.out
    have hS4 := HS4.out
    have l1 := HF.out.o1.lt
    have l3 := HO3.out.lt
    have l4 := HO4.out.lt
    try simp only [drew_size, World.size_alloc] at hS3
    try simp only [drew_size, World.size_alloc] at hS4
    try simp only [drew_size, World.size_alloc] at l3
    try simp only [drew_size, World.size_alloc] at l4
  · have hab : w4.heap.size ≠ w4.heap.size + 1 := by omega
    exact HK.out (w4.heap.size) (w4.heap.size + 1) _ _ _ _ _ _ _ _ _ _ _ _ _ (fq_of HF4.out (((Ch.nil _ _ _).al _).al _) ((bxAt _ _ _ _ rfl).al _) (bxAt _ _ _ _ (by simp)) HO34.out HO4.out (by simp only [drew_size, World.size_alloc]; omega) (by first | omega | (simp only [drew_size, World.size_alloc]; omega)) hab (by omega) (by omega) (fun g e => ⟨by have := l1 g e; omega, by have := l1 g e; omega, fun e' => by have := l1 g e; have := l3 g e'; omega⟩) (fun g e => ⟨by have := l3 g e; omega, by have := l3 g e; omega⟩) (fun g e => ⟨by have := l4 g e; omega, by have := l4 g e; omega, fun e' => by have := l4 g e; have := l3 g e'; omega⟩))
  · have hab : w4.heap.size + 1 ≠ w4.heap.size := by omega
    exact HK.out (w4.heap.size + 1) (w4.heap.size) _ _ _ _ _ _ _ _ _ _ _ _ _ (fq_of HF4.out (((Ch.nil _ _ _).al _).al _) (bxAt _ _ _ _ (by simp)) ((bxAt _ _ _ _ rfl).al _) HO34.out HO4.out (by simp only [drew_size, World.size_alloc]; omega) (by first | omega | (simp only [drew_size, World.size_alloc]; omega)) hab (by omega) (by omega) (fun g e => ⟨by have := l1 g e; omega, by have := l1 g e; omega, fun e' => by have := l1 g e; have := l3 g e'; omega⟩) (fun g e => ⟨by have := l3 g e; omega, by have := l3 g e; omega⟩) (fun g e => ⟨by have := l4 g e; omega, by have := l4 g e; omega, fun e' => by have := l4 g e; have := l3 g e'; omega⟩))
  · have hab : w3.heap.size ≠ w4.heap.size := by omega
    have ZA := HY4.out (w3.heap.size) (by omega) (by simp only [drew_size, World.size_alloc]; omega)
    exact HK.out (w3.heap.size) (w4.heap.size) _ _ _ _ _ _ _ _ _ _ _ _ _ (fq_of HF4.out ((((Ch.nil _ _ _).al _).putA _ _ _ _ _ _ _).putB _ _ _ _ _ _ _) ((put7_heap _ _ _ _ _ _ _ _ _ _ hab).trans (put7_bx (ZA.al _) _ _ _ _ _ _ _)) (put7_bx ((put7_heap _ _ _ _ _ _ _ _ _ _ (Ne.symm hab)).trans (bxAt _ _ _ _ rfl)) _ _ _ _ _ _ _) HO34.out HO4.out (by simp only [drew_size, World.size_alloc]; omega) (by first | omega | (simp only [drew_size, World.size_alloc]; omega)) hab (by omega) (by omega) (fun g e => ⟨by have := l1 g e; omega, by have := l1 g e; omega, fun e' => by have := l1 g e; have := l3 g e'; omega⟩) (fun g e => ⟨by have := l3 g e; omega, by have := l3 g e; omega⟩) (fun g e => ⟨by have := l4 g e; omega, by have := l4 g e; omega, fun e' => by have := l4 g e; have := l3 g e'; omega⟩))
  · have hab : w3.heap.size ≠ w3.heap.size + 1 := by omega
    have ZA := HY4.out (w3.heap.size) (by omega) (by simp only [drew_size, World.size_alloc]; omega)
    have ZB := HY4.out (w3.heap.size + 1) (by omega) (by simp only [drew_size, World.size_alloc]; omega)
    exact HK.out (w3.heap.size) (w3.heap.size + 1) _ _ _ _ _ _ _ _ _ _ _ _ _ (fq_of HF4.out (((Ch.nil _ _ _).putA _ _ _ _ _ _ _).putB _ _ _ _ _ _ _) ((put7_heap _ _ _ _ _ _ _ _ _ _ hab).trans (put7_bx ZA _ _ _ _ _ _ _)) (put7_bx ((put7_heap _ _ _ _ _ _ _ _ _ _ (Ne.symm hab)).trans ZB) _ _ _ _ _ _ _) HO34.out HO4.out (by simp only [drew_size, World.size_alloc]; omega) (by first | omega | (simp only [drew_size, World.size_alloc]; omega)) hab (by omega) (by omega) (fun g e => ⟨by have := l1 g e; omega, by have := l1 g e; omega, fun e' => by have := l1 g e; have := l3 g e'; omega⟩) (fun g e => ⟨by have := l3 g e; omega, by have := l3 g e; omega⟩) (fun g e => ⟨by have := l4 g e; omega, by have := l4 g e; omega, fun e' => by have := l4 g e; have := l3 g e'; omega⟩))
  · have hab : w4.heap.size ≠ w3.heap.size := by omega
    have ZB := HY4.out (w3.heap.size) (by omega) (by simp only [drew_size, World.size_alloc]; omega)
    exact HK.out (w4.heap.size) (w3.heap.size) _ _ _ _ _ _ _ _ _ _ _ _ _ (fq_of HF4.out (((Ch.nil _ _ _).al _).putB _ _ _ _ _ _ _) ((put7_heap _ _ _ _ _ _ _ _ _ _ hab).trans (bxAt _ _ _ _ rfl)) (put7_bx (ZB.al _) _ _ _ _ _ _ _) HO34.out HO4.out (by simp only [drew_size, World.size_alloc]; omega) (by first | omega | (simp only [drew_size, World.size_alloc]; omega)) hab (by omega) (by omega) (fun g e => ⟨by have := l1 g e; omega, by have := l1 g e; omega, fun e' => by have := l1 g e; have := l3 g e'; omega⟩) (fun g e => ⟨by have := l3 g e; omega, by have := l3 g e; omega⟩) (fun g e => ⟨by have := l4 g e; omega, by have := l4 g e; omega, fun e' => by have := l4 g e; have := l3 g e'; omega⟩))
  · have hab : w3.heap.size + 1 ≠ w3.heap.size := by omega
    have ZA := HY4.out (w3.heap.size + 1) (by omega) (by simp only [drew_size, World.size_alloc]; omega)
    have ZB := HY4.out (w3.heap.size) (by omega) (by simp only [drew_size, World.size_alloc]; omega)
    exact HK.out (w3.heap.size + 1) (w3.heap.size) _ _ _ _ _ _ _ _ _ _ _ _ _ (fq_of HF4.out (((Ch.nil _ _ _).putA _ _ _ _ _ _ _).putB _ _ _ _ _ _ _) ((put7_heap _ _ _ _ _ _ _ _ _ _ hab).trans (put7_bx ZA _ _ _ _ _ _ _)) (put7_bx ((put7_heap _ _ _ _ _ _ _ _ _ _ (Ne.symm hab)).trans ZB) _ _ _ _ _ _ _) HO34.out HO4.out (by simp only [drew_size, World.size_alloc]; omega) (by first | omega | (simp only [drew_size, World.size_alloc]; omega)) hab (by omega) (by omega) (fun g e => ⟨by have := l1 g e; omega, by have := l1 g e; omega, fun e' => by have := l1 g e; have := l3 g e'; omega⟩) (fun g e => ⟨by have := l3 g e; omega, by have := l3 g e; omega⟩) (fun g e => ⟨by have := l4 g e; omega, by have := l4 g e; omega, fun e' => by have := l4 g e; have := l3 g e'; omega⟩))
  · have hab : w1.heap.size ≠ w4.heap.size := by omega
    have ZA := HZ4.out (w1.heap.size) (by omega) (by simp only [drew_size, World.size_alloc]; omega)
    exact HK.out (w1.heap.size) (w4.heap.size) _ _ _ _ _ _ _ _ _ _ _ _ _ (fq_of HF4.out ((((Ch.nil _ _ _).al _).putA _ _ _ _ _ _ _).putB _ _ _ _ _ _ _) ((put7_heap _ _ _ _ _ _ _ _ _ _ hab).trans (put7_bx (ZA.al _) _ _ _ _ _ _ _)) (put7_bx ((put7_heap _ _ _ _ _ _ _ _ _ _ (Ne.symm hab)).trans (bxAt _ _ _ _ rfl)) _ _ _ _ _ _ _) HO34.out HO4.out (by simp only [drew_size, World.size_alloc]; omega) (by first | omega | (simp only [drew_size, World.size_alloc]; omega)) hab (by omega) (by omega) (fun g e => ⟨by have := l1 g e; omega, by have := l1 g e; omega, fun e' => by have := l1 g e; have := l3 g e'; omega⟩) (fun g e => ⟨by have := l3 g e; omega, by have := l3 g e; omega⟩) (fun g e => ⟨by have := l4 g e; omega, by have := l4 g e; omega, fun e' => by have := l4 g e; have := l3 g e'; omega⟩))
  · have hab : w1.heap.size ≠ w3.heap.size := by omega
    have ZA := HZ4.out (w1.heap.size) (by omega) (by simp only [drew_size, World.size_alloc]; omega)
    have ZB := HY4.out (w3.heap.size) (by omega) (by simp only [drew_size, World.size_alloc]; omega)
    exact HK.out (w1.heap.size) (w3.heap.size) _ _ _ _ _ _ _ _ _ _ _ _ _ (fq_of HF4.out (((Ch.nil _ _ _).putA _ _ _ _ _ _ _).putB _ _ _ _ _ _ _) ((put7_heap _ _ _ _ _ _ _ _ _ _ hab).trans (put7_bx ZA _ _ _ _ _ _ _)) (put7_bx ((put7_heap _ _ _ _ _ _ _ _ _ _ (Ne.symm hab)).trans ZB) _ _ _ _ _ _ _) HO34.out HO4.out (by simp only [drew_size, World.size_alloc]; omega) (by first | omega | (simp only [drew_size, World.size_alloc]; omega)) hab (by omega) (by omega) (fun g e => ⟨by have := l1 g e; omega, by have := l1 g e; omega, fun e' => by have := l1 g e; have := l3 g e'; omega⟩) (fun g e => ⟨by have := l3 g e; omega, by have := l3 g e; omega⟩) (fun g e => ⟨by have := l4 g e; omega, by have := l4 g e; omega, fun e' => by have := l4 g e; have := l3 g e'; omega⟩))
  · have hab : w1.heap.size ≠ w1.heap.size + 1 := by omega
    have ZA := HZ4.out (w1.heap.size) (by omega) (by simp only [drew_size, World.size_alloc]; omega)
    have ZB := HZ4.out (w1.heap.size + 1) (by omega) (by simp only [drew_size, World.size_alloc]; omega)
    exact HK.out (w1.heap.size) (w1.heap.size + 1) _ _ _ _ _ _ _ _ _ _ _ _ _ (fq_of HF4.out (((Ch.nil _ _ _).putA _ _ _ _ _ _ _).putB _ _ _ _ _ _ _) ((put7_heap _ _ _ _ _ _ _ _ _ _ hab).trans (put7_bx ZA _ _ _ _ _ _ _)) (put7_bx ((put7_heap _ _ _ _ _ _ _ _ _ _ (Ne.symm hab)).trans ZB) _ _ _ _ _ _ _) HO34.out HO4.out (by simp only [drew_size, World.size_alloc]; omega) (by first | omega | (simp only [drew_size, World.size_alloc]; omega)) hab (by omega) (by omega) (fun g e => ⟨by have := l1 g e; omega, by have := l1 g e; omega, fun e' => by have := l1 g e; have := l3 g e'; omega⟩) (fun g e => ⟨by have := l3 g e; omega, by have := l3 g e; omega⟩) (fun g e => ⟨by have := l4 g e; omega, by have := l4 g e; omega, fun e' => by have := l4 g e; have := l3 g e'; omega⟩))
  · have hab : w4.heap.size ≠ w1.heap.size := by omega
    have ZB := HZ4.out (w1.heap.size) (by omega) (by simp only [drew_size, World.size_alloc]; omega)
    exact HK.out (w4.heap.size) (w1.heap.size) _ _ _ _ _ _ _ _ _ _ _ _ _ (fq_of HF4.out (((Ch.nil _ _ _).al _).putB _ _ _ _ _ _ _) ((put7_heap _ _ _ _ _ _ _ _ _ _ hab).trans (bxAt _ _ _ _ rfl)) (put7_bx (ZB.al _) _ _ _ _ _ _ _) HO34.out HO4.out (by simp only [drew_size, World.size_alloc]; omega) (by first | omega | (simp only [drew_size, World.size_alloc]; omega)) hab (by omega) (by omega) (fun g e => ⟨by have := l1 g e; omega, by have := l1 g e; omega, fun e' => by have := l1 g e; have := l3 g e'; omega⟩) (fun g e => ⟨by have := l3 g e; omega, by have := l3 g e; omega⟩) (fun g e => ⟨by have := l4 g e; omega, by have := l4 g e; omega, fun e' => by have := l4 g e; have := l3 g e'; omega⟩))
  · have hab : w3.heap.size ≠ w1.heap.size := by omega
    have ZA := HY4.out (w3.heap.size) (by omega) (by simp only [drew_size, World.size_alloc]; omega)
    have ZB := HZ4.out (w1.heap.size) (by omega) (by simp only [drew_size, World.size_alloc]; omega)
    exact HK.out (w3.heap.size) (w1.heap.size) _ _ _ _ _ _ _ _ _ _ _ _ _ (fq_of HF4.out (((Ch.nil _ _ _).putA _ _ _ _ _ _ _).putB _ _ _ _ _ _ _) ((put7_heap _ _ _ _ _ _ _ _ _ _ hab).trans (put7_bx ZA _ _ _ _ _ _ _)) (put7_bx ((put7_heap _ _ _ _ _ _ _ _ _ _ (Ne.symm hab)).trans ZB) _ _ _ _ _ _ _) HO34.out HO4.out (by simp only [drew_size, World.size_alloc]; omega) (by first | omega | (simp only [drew_size, World.size_alloc]; omega)) hab (by omega) (by omega) (fun g e => ⟨by have := l1 g e; omega, by have := l1 g e; omega, fun e' => by have := l1 g e; have := l3 g e'; omega⟩) (fun g e => ⟨by have := l3 g e; omega, by have := l3 g e; omega⟩) (fun g e => ⟨by have := l4 g e; omega, by have := l4 g e; omega, fun e' => by have := l4 g e; have := l3 g e'; omega⟩))
  · have hab : w1.heap.size + 1 ≠ w1.heap.size := by omega
    have ZA := HZ4.out (w1.heap.size + 1) (by omega) (by simp only [drew_size, World.size_alloc]; omega)
    have ZB := HZ4.out (w1.heap.size) (by omega) (by simp only [drew_size, World.size_alloc]; omega)
    exact HK.out (w1.heap.size + 1) (w1.heap.size) _ _ _ _ _ _ _ _ _ _ _ _ _ (fq_of HF4.out (((Ch.nil _ _ _).putA _ _ _ _ _ _ _).putB _ _ _ _ _ _ _) ((put7_heap _ _ _ _ _ _ _ _ _ _ hab).trans (put7_bx ZA _ _ _ _ _ _ _)) (put7_bx ((put7_heap _ _ _ _ _ _ _ _ _ _ (Ne.symm hab)).trans ZB) _ _ _ _ _ _ _) HO34.out HO4.out (by simp only [drew_size, World.size_alloc]; omega) (by first | omega | (simp only [drew_size, World.size_alloc]; omega)) hab (by omega) (by omega) (fun g e => ⟨by have := l1 g e; omega, by have := l1 g e; omega, fun e' => by have := l1 g e; have := l3 g e'; omega⟩) (fun g e => ⟨by have := l3 g e; omega, by have := l3 g e; omega⟩) (fun g e => ⟨by have := l4 g e; omega, by have := l4 g e; omega, fun e' => by have := l4 g e; have := l3 g e'; omega⟩))
end Go.Proofs.Ytlidocgnboobfaa
