import Derived.Test.YtennkhdhnbdbeaaGreatTk3G
/-
  gazetteerref4.VerifySet, behind its parts. (The verifier's own text.)
-/
namespace Go.Proofs.YtennkhdhnbdbeaaGreat
set_option linter.unusedVariables false
set_option linter.unusedSimpArgs false
open Go.RowKit Go.Shelf Go.Sort Go.Proofs.YtennkhdhnbdbeaaGreat.Nm

set_option maxRecDepth 100000 in
set_option maxHeartbeats 8000000 in
theorem verifyset_type (L : List Rn) (p : Option Addr) (cap : Nat) (so D q dk o0 xd Fm T p0 p1 p2 p3 p4 p5 p6 p7 p8 : ByteArray) (sc sl now lo xc xl : Int) (t0 c0 v2 v4 v5 v6 v8 tg n e pw fg : Nat) (w : World) (hp : 0 < L.length) (nl : Nat) (hnl : 0 < nl) (hat : RsAt w p L) (hx0 : L[0] = ⟨o0, (t0 : Int), xc, xl, xd⟩)
    (HS : Hid (∀ W : World, RsAt W p L → Calls Tryz.prog 35 #[.slice p nl cap] W fun r w' => r = .returned (.bool true) ∧ Below W.heap.size W w'))
    (HZ : Hid (∀ W : World, Calls Tryz.prog 51 #[.agg #[.string so, .int .i64 46, .int .i64 sc, .int .i64 sl, .string D]] W fun r w' => r = .returned (.bool true) ∧ Below W.heap.size W w'))
    (HF : Hid (∀ W : World, Calls Tryz.prog 53 #[.int .i64 46] W fun r w' => r = .returned (.string Fm) ∧ w' = W))
    (HP : Hid (∀ W : World, Calls Tryz.prog 52 #[.string Fm, .string D] W fun r w' => ∃ gp op cp, r = .returned (.tuple #[.slice (some ⟨gp, op, none⟩) 9 cp, .bool true]) ∧ Pt w' gp op [p0, p1, p2, p3, p4, p5, p6, p7, p8] ∧ Below W.heap.size W w'))
    (HV0 : Hid (∀ W : World, Calls Tryz.prog 54 #[.string p0] W fun r w' => r = .returned (.int .i64 (c0 : Int)) ∧ w' = W)) (hcov : ¬ c0 = t0) :
    Calls Tryz.prog 12 #[.slice p nl cap, .agg #[.string so, .int .i64 46, .int .i64 sc, .int .i64 sl, .string D], .string q, .string dk, .int .i64 now] w fun r w' => r = .returned (.int .i64 6) ∧ Below w.heap.size w w' := by
  have hci : ¬ (c0 : Int) = (t0 : Int) := by omega
  obtain ⟨W0, hW0⟩ : ∃ W0, w.alloc (.cells #[.string so, .int .i64 46, .int .i64 sc, .int .i64 sl, .string D] 27) = W0 := ⟨_, rfl⟩
  have V0 := hide' (Vs.start w #[.string so, .int .i64 46, .int .i64 sc, .int .i64 sl, .string D] p L hat)
  rw [hW0] at V0
  have HFI : Hid (∀ V : World, RsAt V p L → ∃ g off, p = some ⟨g, off, none⟩ ∧ V.cell? ⟨g, off, none⟩ = some (.string o0) ∧ V.cell? ⟨g, off + 1, none⟩ = some (.int .i64 (t0 : Int)) ∧ V.cell? ⟨g, off + 2, none⟩ = some (.int .i64 xc) ∧ V.cell? ⟨g, off + 3, none⟩ = some (.int .i64 xl) ∧ V.cell? ⟨g, off + 4, none⟩ = some (.string xd)) := fun V hV => by
    obtain ⟨g, off, hp2, hg, e0, e1, e2, e3, e4⟩ := hV 0 hp
    rw [Nat.zero_mul, Nat.add_zero, hx0] at e0 e1 e2 e3 e4
    exact ⟨g, off, hp2, e0, e1, e2, e3, e4⟩
  obtain ⟨b0, off, hpp, -⟩ := HFI.out _ hat
  subst hpp
  have HF2 : Hid (∀ V : World, RsAt V (some ⟨b0, off, none⟩) L → V.cell? ⟨b0, off, none⟩ = some (.string o0) ∧ V.cell? ⟨b0, off + 1, none⟩ = some (.int .i64 (t0 : Int)) ∧ V.cell? ⟨b0, off + 2, none⟩ = some (.int .i64 xc) ∧ V.cell? ⟨b0, off + 3, none⟩ = some (.int .i64 xl) ∧ V.cell? ⟨b0, off + 4, none⟩ = some (.string xd)) := fun V hV => by
    obtain ⟨g', off', hg, e0, e1, e2, e3, e4⟩ := HFI.out V hV
    injection hg with hg; injection hg with h1 h2; subst h1; subst h2
    exact ⟨e0, e1, e2, e3, e4⟩
  have hpi : ¬ (nl : Int) = 0 := by omega
  have hpj : (0 : Int) < (nl : Int) := by omega
  have HC : Hid (∀ V : World, Vs w V #[.string so, .int .i64 46, .int .i64 sc, .int .i64 sl, .string D] (some ⟨b0, off, none⟩) L → V.cell? ⟨w.heap.size, 0, none⟩ = some (.string so) ∧ V.cell? ⟨w.heap.size, 1, none⟩ = some (.int .i64 46) ∧ V.cell? ⟨w.heap.size, 2, none⟩ = some (.int .i64 sc) ∧ V.cell? ⟨w.heap.size, 3, none⟩ = some (.int .i64 sl) ∧ V.cell? ⟨w.heap.size, 4, none⟩ = some (.string D)) := fun V h => ⟨h.1.cell rfl, h.1.cell rfl, h.1.cell rfl, h.1.cell rfl, h.1.cell rfl⟩
  clear HFI hat hx0 hp
  go_enter Tryz.func12, Tryz.ntmps12
  go_wp2_with (first
    | (go_at_call 35; refine (HS.out _ V0.out.2.2).mono ?_; rintro r w1 ⟨rfl, hB⟩; have V1 := hide' (V0.out.step hB); clear hB; obtain ⟨s0, s1, s2, s3, s4⟩ := HC.out _ V1.out)
    | (go_at_call 51; refine (HZ.out _).mono ?_; rintro r w2 ⟨rfl, hB⟩; have V2 := hide' (V1.out.step hB); clear hB s0 s1 s2 s3 s4; obtain ⟨s0, s1, s2, s3, s4⟩ := HC.out _ V2.out))
  go_region_held3 (fun V => V.cell? ⟨w.heap.size, 4, none⟩ = some (.string D)) (first | go_keep | exact R4.out.1.1.cell rfl | exact V3.out.1.cell rfl) (first
    | (go_at_call 53; refine (HF.out _).mono ?_; rintro r w3 ⟨rfl, hwa⟩; have V3 := hide' (show Vs w w3 #[.string so, .int .i64 46, .int .i64 sc, .int .i64 sl, .string D] (some ⟨b0, off, none⟩) L by first | (rw [hwa]; exact V2.out) | (rw [hwa]; exact V2.out.drew)); clear hwa)
    | (go_at_call 52; refine (HP.out _).mono ?_; rintro r w4 ⟨gp, op, cp, rfl, hpt, hB⟩; have R4 := hide' (show Rw w w4 #[.string so, .int .i64 46, .int .i64 sc, .int .i64 sl, .string D] (some ⟨b0, off, none⟩) L gp op [p0, p1, p2, p3, p4, p5, p6, p7, p8] from ⟨by first | exact V3.out.step hB | exact V3.out.drew.step hB, hpt⟩); clear hB hpt))
  clear s0 s1 s2 s3 s4 V0 V1 V2 V3 HS HZ HF HP HC
  obtain ⟨e0, e1, e2, e3, e4⟩ := HF2.out _ R4.out.1.2.2
  have R5 := hide' (Rx.start R4.out #[.string o0, .int .i64 (t0 : Int), .int .i64 xc, .int .i64 xl, .string xd])
  go_wp2_with fail
  obtain ⟨W5, hW5⟩ : ∃ W5, w4.alloc (.cells #[.string o0, .int .i64 (t0 : Int), .int .i64 xc, .int .i64 xl, .string xd] 27) = W5 := ⟨_, rfl⟩
  obtain ⟨X, hX⟩ : ∃ X, w4.heap.size = X := ⟨_, rfl⟩
  rw [hW5, hX] at R5
  simp only [hW5, hX]
  clear hW5 hX hW0 R4 e0 e1 e2 e3 e4 HF2
  have QF : Hid (∀ V : World, Rx w V X #[.string so, .int .i64 46, .int .i64 sc, .int .i64 sl, .string D] #[.string o0, .int .i64 (t0 : Int), .int .i64 xc, .int .i64 xl, .string xd] (some ⟨b0, off, none⟩) L gp op [p0, p1, p2, p3, p4, p5, p6, p7, p8] → V.cell? ⟨w.heap.size, 0, none⟩ = some (.string so) ∧ V.cell? ⟨X, 0, none⟩ = some (.string o0) ∧ V.cell? ⟨X, 1, none⟩ = some (.int .i64 (t0 : Int)) ∧ V.cell? ⟨gp, op, none⟩ = some (.string p0) ∧ V.cell? ⟨gp, op + 1, none⟩ = some (.string p1) ∧ V.cell? ⟨gp, op + 2, none⟩ = some (.string p2) ∧ V.cell? ⟨gp, op + 3, none⟩ = some (.string p3) ∧ V.cell? ⟨gp, op + 4, none⟩ = some (.string p4) ∧ V.cell? ⟨gp, op + 5, none⟩ = some (.string p5) ∧ V.cell? ⟨gp, op + 6, none⟩ = some (.string p6) ∧ V.cell? ⟨gp, op + 7, none⟩ = some (.string p7) ∧ V.cell? ⟨gp, op + 8, none⟩ = some (.string p8)) := fun V h => ⟨h.1.1.1.cell rfl, h.2.cell rfl, h.2.cell rfl, h.1.2.2 0 (by simp), h.1.2.2 1 (by simp), h.1.2.2 2 (by simp), h.1.2.2 3 (by simp), h.1.2.2 4 (by simp), h.1.2.2 5 (by simp), h.1.2.2 6 (by simp), h.1.2.2 7 (by simp), h.1.2.2 8 (by simp)⟩
  obtain ⟨s0, x0, x1, r0, r1, r2, r3, r4, r5, r6, r7, r8⟩ := QF.out _ R5.out
  all_goals (go_region_held3 (fun V => V.cell? ⟨gp, op, none⟩ = some (.string p0) ∧ V.cell? ⟨X, 1, none⟩ = some (.int .i64 (t0 : Int))) (first | go_keep | exact ⟨R6.out.1.2.2 0 (by simp), R6.out.2.cell rfl⟩) (first
    | (go_at_call 54; refine (HV0.out _).mono ?_; rintro r w6 ⟨rfl, hwa⟩; have R6 := hide' (show Rx w w6 X #[.string so, .int .i64 46, .int .i64 sc, .int .i64 sl, .string D] #[.string o0, .int .i64 (t0 : Int), .int .i64 xc, .int .i64 xl, .string xd] (some ⟨b0, off, none⟩) L gp op [p0, p1, p2, p3, p4, p5, p6, p7, p8] by first | (rw [hwa]; exact R5.out) | (rw [hwa]; exact R5.out.drew)); clear hwa)))
  all_goals (clear s0 x0 x1 r0 r1 r2 r3 r4 r5 r6 r7 r8)
  all_goals (obtain ⟨s0, x0, x1, r0, r1, r2, r3, r4, r5, r6, r7, r8⟩ := QF.out _ R6.out)
  all_goals (go_wp2_with fail)
  all_goals go_ret
  all_goals (exact ⟨rfl, by first | exact R6.out.1.1.2.1 | exact R6.out.1.1.2.1.drew⟩)
set_option maxRecDepth 100000 in
set_option maxHeartbeats 8000000 in
theorem verifyset_out1 (L : List Rn) (p : Option Addr) (cap : Nat) (so D q dk o0 xd Fm T p0 p1 p2 p3 p4 p5 p6 p7 p8 : ByteArray) (sc sl now lo xc xl : Int) (t0 c0 v2 v4 v5 v6 v8 tg n e pw fg : Nat) (w : World) (hp : 0 < L.length) (nl : Nat) (hnl : 0 < nl) (hat : RsAt w p L) (hx0 : L[0] = ⟨o0, (t0 : Int), xc, xl, xd⟩)
    (HS : Hid (∀ W : World, RsAt W p L → Calls Tryz.prog 35 #[.slice p nl cap] W fun r w' => r = .returned (.bool true) ∧ Below W.heap.size W w'))
    (HZ : Hid (∀ W : World, Calls Tryz.prog 51 #[.agg #[.string so, .int .i64 46, .int .i64 sc, .int .i64 sl, .string D]] W fun r w' => r = .returned (.bool true) ∧ Below W.heap.size W w'))
    (HF : Hid (∀ W : World, Calls Tryz.prog 53 #[.int .i64 46] W fun r w' => r = .returned (.string Fm) ∧ w' = W))
    (HP : Hid (∀ W : World, Calls Tryz.prog 52 #[.string Fm, .string D] W fun r w' => ∃ gp op cp, r = .returned (.tuple #[.slice (some ⟨gp, op, none⟩) 9 cp, .bool true]) ∧ Pt w' gp op [p0, p1, p2, p3, p4, p5, p6, p7, p8] ∧ Below W.heap.size W w'))
    (HV0 : Hid (∀ W : World, Calls Tryz.prog 54 #[.string p0] W fun r w' => r = .returned (.int .i64 (t0 : Int)) ∧ w' = W))
    (HE : Hid (∀ W : World, Calls Tryz.prog 55 #[.string so, .string o0] W fun r w' => r = .returned (.bool false) ∧ Below W.heap.size W w')) :
    Calls Tryz.prog 12 #[.slice p nl cap, .agg #[.string so, .int .i64 46, .int .i64 sc, .int .i64 sl, .string D], .string q, .string dk, .int .i64 now] w fun r w' => r = .returned (.int .i64 5) ∧ Below w.heap.size w w' := by
  obtain ⟨W0, hW0⟩ : ∃ W0, w.alloc (.cells #[.string so, .int .i64 46, .int .i64 sc, .int .i64 sl, .string D] 27) = W0 := ⟨_, rfl⟩
  have V0 := hide' (Vs.start w #[.string so, .int .i64 46, .int .i64 sc, .int .i64 sl, .string D] p L hat)
  rw [hW0] at V0
  have HFI : Hid (∀ V : World, RsAt V p L → ∃ g off, p = some ⟨g, off, none⟩ ∧ V.cell? ⟨g, off, none⟩ = some (.string o0) ∧ V.cell? ⟨g, off + 1, none⟩ = some (.int .i64 (t0 : Int)) ∧ V.cell? ⟨g, off + 2, none⟩ = some (.int .i64 xc) ∧ V.cell? ⟨g, off + 3, none⟩ = some (.int .i64 xl) ∧ V.cell? ⟨g, off + 4, none⟩ = some (.string xd)) := fun V hV => by
    obtain ⟨g, off, hp2, hg, e0, e1, e2, e3, e4⟩ := hV 0 hp
    rw [Nat.zero_mul, Nat.add_zero, hx0] at e0 e1 e2 e3 e4
    exact ⟨g, off, hp2, e0, e1, e2, e3, e4⟩
  obtain ⟨b0, off, hpp, -⟩ := HFI.out _ hat
  subst hpp
  have HF2 : Hid (∀ V : World, RsAt V (some ⟨b0, off, none⟩) L → V.cell? ⟨b0, off, none⟩ = some (.string o0) ∧ V.cell? ⟨b0, off + 1, none⟩ = some (.int .i64 (t0 : Int)) ∧ V.cell? ⟨b0, off + 2, none⟩ = some (.int .i64 xc) ∧ V.cell? ⟨b0, off + 3, none⟩ = some (.int .i64 xl) ∧ V.cell? ⟨b0, off + 4, none⟩ = some (.string xd)) := fun V hV => by
    obtain ⟨g', off', hg, e0, e1, e2, e3, e4⟩ := HFI.out V hV
    injection hg with hg; injection hg with h1 h2; subst h1; subst h2
    exact ⟨e0, e1, e2, e3, e4⟩
  have hpi : ¬ (nl : Int) = 0 := by omega
  have hpj : (0 : Int) < (nl : Int) := by omega
  have HC : Hid (∀ V : World, Vs w V #[.string so, .int .i64 46, .int .i64 sc, .int .i64 sl, .string D] (some ⟨b0, off, none⟩) L → V.cell? ⟨w.heap.size, 0, none⟩ = some (.string so) ∧ V.cell? ⟨w.heap.size, 1, none⟩ = some (.int .i64 46) ∧ V.cell? ⟨w.heap.size, 2, none⟩ = some (.int .i64 sc) ∧ V.cell? ⟨w.heap.size, 3, none⟩ = some (.int .i64 sl) ∧ V.cell? ⟨w.heap.size, 4, none⟩ = some (.string D)) := fun V h => ⟨h.1.cell rfl, h.1.cell rfl, h.1.cell rfl, h.1.cell rfl, h.1.cell rfl⟩
  clear HFI hat hx0 hp
  go_enter Tryz.func12, Tryz.ntmps12
  go_wp2_with (first
    | (go_at_call 35; refine (HS.out _ V0.out.2.2).mono ?_; rintro r w1 ⟨rfl, hB⟩; have V1 := hide' (V0.out.step hB); clear hB; obtain ⟨s0, s1, s2, s3, s4⟩ := HC.out _ V1.out)
    | (go_at_call 51; refine (HZ.out _).mono ?_; rintro r w2 ⟨rfl, hB⟩; have V2 := hide' (V1.out.step hB); clear hB s0 s1 s2 s3 s4; obtain ⟨s0, s1, s2, s3, s4⟩ := HC.out _ V2.out))
  go_region_held3 (fun V => V.cell? ⟨w.heap.size, 4, none⟩ = some (.string D)) (first | go_keep | exact R4.out.1.1.cell rfl | exact V3.out.1.cell rfl) (first
    | (go_at_call 53; refine (HF.out _).mono ?_; rintro r w3 ⟨rfl, hwa⟩; have V3 := hide' (show Vs w w3 #[.string so, .int .i64 46, .int .i64 sc, .int .i64 sl, .string D] (some ⟨b0, off, none⟩) L by first | (rw [hwa]; exact V2.out) | (rw [hwa]; exact V2.out.drew)); clear hwa)
    | (go_at_call 52; refine (HP.out _).mono ?_; rintro r w4 ⟨gp, op, cp, rfl, hpt, hB⟩; have R4 := hide' (show Rw w w4 #[.string so, .int .i64 46, .int .i64 sc, .int .i64 sl, .string D] (some ⟨b0, off, none⟩) L gp op [p0, p1, p2, p3, p4, p5, p6, p7, p8] from ⟨by first | exact V3.out.step hB | exact V3.out.drew.step hB, hpt⟩); clear hB hpt))
  clear s0 s1 s2 s3 s4 V0 V1 V2 V3 HS HZ HF HP HC
  obtain ⟨e0, e1, e2, e3, e4⟩ := HF2.out _ R4.out.1.2.2
  have R5 := hide' (Rx.start R4.out #[.string o0, .int .i64 (t0 : Int), .int .i64 xc, .int .i64 xl, .string xd])
  go_wp2_with fail
  obtain ⟨W5, hW5⟩ : ∃ W5, w4.alloc (.cells #[.string o0, .int .i64 (t0 : Int), .int .i64 xc, .int .i64 xl, .string xd] 27) = W5 := ⟨_, rfl⟩
  obtain ⟨X, hX⟩ : ∃ X, w4.heap.size = X := ⟨_, rfl⟩
  rw [hW5, hX] at R5
  simp only [hW5, hX]
  clear hW5 hX hW0 R4 e0 e1 e2 e3 e4 HF2
  have QF : Hid (∀ V : World, Rx w V X #[.string so, .int .i64 46, .int .i64 sc, .int .i64 sl, .string D] #[.string o0, .int .i64 (t0 : Int), .int .i64 xc, .int .i64 xl, .string xd] (some ⟨b0, off, none⟩) L gp op [p0, p1, p2, p3, p4, p5, p6, p7, p8] → V.cell? ⟨w.heap.size, 0, none⟩ = some (.string so) ∧ V.cell? ⟨X, 0, none⟩ = some (.string o0) ∧ V.cell? ⟨X, 1, none⟩ = some (.int .i64 (t0 : Int)) ∧ V.cell? ⟨gp, op, none⟩ = some (.string p0) ∧ V.cell? ⟨gp, op + 1, none⟩ = some (.string p1) ∧ V.cell? ⟨gp, op + 2, none⟩ = some (.string p2) ∧ V.cell? ⟨gp, op + 3, none⟩ = some (.string p3) ∧ V.cell? ⟨gp, op + 4, none⟩ = some (.string p4) ∧ V.cell? ⟨gp, op + 5, none⟩ = some (.string p5) ∧ V.cell? ⟨gp, op + 6, none⟩ = some (.string p6) ∧ V.cell? ⟨gp, op + 7, none⟩ = some (.string p7) ∧ V.cell? ⟨gp, op + 8, none⟩ = some (.string p8)) := fun V h => ⟨h.1.1.1.cell rfl, h.2.cell rfl, h.2.cell rfl, h.1.2.2 0 (by simp), h.1.2.2 1 (by simp), h.1.2.2 2 (by simp), h.1.2.2 3 (by simp), h.1.2.2 4 (by simp), h.1.2.2 5 (by simp), h.1.2.2 6 (by simp), h.1.2.2 7 (by simp), h.1.2.2 8 (by simp)⟩
  obtain ⟨s0, x0, x1, r0, r1, r2, r3, r4, r5, r6, r7, r8⟩ := QF.out _ R5.out
  all_goals (go_region_held3 (fun V => V.cell? ⟨gp, op, none⟩ = some (.string p0) ∧ V.cell? ⟨X, 1, none⟩ = some (.int .i64 (t0 : Int))) (first | go_keep | exact ⟨R6.out.1.2.2 0 (by simp), R6.out.2.cell rfl⟩) (first
    | (go_at_call 54; refine (HV0.out _).mono ?_; rintro r w6 ⟨rfl, hwa⟩; have R6 := hide' (show Rx w w6 X #[.string so, .int .i64 46, .int .i64 sc, .int .i64 sl, .string D] #[.string o0, .int .i64 (t0 : Int), .int .i64 xc, .int .i64 xl, .string xd] (some ⟨b0, off, none⟩) L gp op [p0, p1, p2, p3, p4, p5, p6, p7, p8] by first | (rw [hwa]; exact R5.out) | (rw [hwa]; exact R5.out.drew)); clear hwa)))
  all_goals (clear s0 x0 x1 r0 r1 r2 r3 r4 r5 r6 r7 r8)
  all_goals (obtain ⟨s0, x0, x1, r0, r1, r2, r3, r4, r5, r6, r7, r8⟩ := QF.out _ R6.out)
  all_goals (go_wp2_with fail)
  refine wp_region_held_drew (S := fun V => V.cell? ⟨w.heap.size, 0, none⟩ = some (.string so) ∧ V.cell? ⟨X, 0, none⟩ = some (.string o0) ∧ V.cell? ⟨gp, op + 7, none⟩ = some (.string p7)) (by kernel_rfl) ?_ (fun hHeld => ?_)
  · (try dsimp only); go_keep
  refine takeD 0 (some 46) (.pointer (some ⟨w.heap.size, 0, none⟩)) rfl rfl (by kernel_rfl) (by kernel_rfl) (by kernel_rfl) (fun _ _ _ h => h) (Or.inl ⟨by rfl, ?_⟩) (by assumption) ?_
  · intro w hSw; (try dsimp only at hSw); go_simp <;> (intros; omega)
  simp only [Act.put, List.setIfInBounds_toArray, List.set_cons_zero, List.set_cons_succ]
  refine takeD 1 (some 47) (.string so) rfl rfl (by kernel_rfl) (by kernel_rfl) (by kernel_rfl) (fun _ _ _ h => h) (Or.inl ⟨by rfl, ?_⟩) (by assumption) ?_
  · intro w hSw; (try dsimp only at hSw); go_simp <;> (intros; omega)
  simp only [Act.put, List.setIfInBounds_toArray, List.set_cons_zero, List.set_cons_succ]
  refine takeD 2 (some 48) (.pointer (some ⟨X, 0, none⟩)) rfl rfl (by kernel_rfl) (by kernel_rfl) (by kernel_rfl) (fun _ _ _ h => h) (Or.inl ⟨by rfl, ?_⟩) (by assumption) ?_
  · intro w hSw; (try dsimp only at hSw); go_simp <;> (intros; omega)
  simp only [Act.put, List.setIfInBounds_toArray, List.set_cons_zero, List.set_cons_succ]
  refine takeD 3 (some 49) (.string o0) rfl rfl (by kernel_rfl) (by kernel_rfl) (by kernel_rfl) (fun _ _ _ h => h) (Or.inl ⟨by rfl, ?_⟩) (by assumption) ?_
  · intro w hSw; (try dsimp only at hSw); go_simp <;> (intros; omega)
  simp only [Act.put, List.setIfInBounds_toArray, List.set_cons_zero, List.set_cons_succ]
  refine wpAnyH_ready (rs := [4]) (by kernel_rfl) (by simp) ?_
  refine AllReadyH.cons rfl (fun K hK => ?_) AllReadyH.nil
  go_simp
  go_at_call 55; refine (HE.out _).mono ?_; rintro r w7 ⟨rfl, hB⟩; have R7 := hide' (show Rx w w7 X #[.string so, .int .i64 46, .int .i64 sc, .int .i64 sl, .string D] #[.string o0, .int .i64 (t0 : Int), .int .i64 xc, .int .i64 xl, .string xd] (some ⟨b0, off, none⟩) L gp op [p0, p1, p2, p3, p4, p5, p6, p7, p8] by first | exact R6.out.step hB | exact R6.out.drew.step hB); clear hB
  go_wp2_with fail
  refine hK.out _ _ (⟨R7.out.1.1.1.cell rfl, R7.out.2.cell rfl, R7.out.1.2.2 7 (by simp)⟩) (fun hHeld => ?_)
  clear hK K
  try simp only [Act.put, List.setIfInBounds_toArray, List.set_cons_zero, List.set_cons_succ]
  refine takeD 5 (some 51) (.bool true) rfl rfl (by kernel_rfl) (by kernel_rfl) (by kernel_rfl) (fun _ _ _ h => h) (Or.inl ⟨by rfl, ?_⟩) (by assumption) ?_
  · intro w hSw; (try dsimp only at hSw); go_simp <;> (intros; omega)
  simp only [Act.put, List.setIfInBounds_toArray, List.set_cons_zero, List.set_cons_succ]
  refine takeD 6 (some 52) (.bool true) rfl rfl (by kernel_rfl) (by kernel_rfl) (by kernel_rfl) (fun _ _ _ h => h) (Or.inl ⟨by rfl, ?_⟩) (by assumption) ?_
  · intro w hSw; (try dsimp only at hSw); go_simp <;> (intros; omega)
  simp only [Act.put, List.setIfInBounds_toArray, List.set_cons_zero, List.set_cons_succ]
  refine takeD 7 (some 53) undef rfl rfl (by kernel_rfl) (by kernel_rfl) (by kernel_rfl) (fun _ _ _ h => h) (Or.inr ⟨by rfl, rfl⟩) (by assumption) ?_
  simp only [Act.put, List.setIfInBounds_toArray, List.set_cons_zero, List.set_cons_succ]
  refine takeD 8 (some 54) undef rfl rfl (by kernel_rfl) (by kernel_rfl) (by kernel_rfl) (fun _ _ _ h => h) (Or.inr ⟨by rfl, rfl⟩) (by assumption) ?_
  simp only [Act.put, List.setIfInBounds_toArray, List.set_cons_zero, List.set_cons_succ]
  refine takeD 9 (some 55) undef rfl rfl (by kernel_rfl) (by kernel_rfl) (by kernel_rfl) (fun _ _ _ h => h) (Or.inr ⟨by rfl, rfl⟩) (by assumption) ?_
  simp only [Act.put, List.setIfInBounds_toArray, List.set_cons_zero, List.set_cons_succ]
  refine takeD 10 (some 56) undef rfl rfl (by kernel_rfl) (by kernel_rfl) (by kernel_rfl) (fun _ _ _ h => h) (Or.inr ⟨by rfl, rfl⟩) (by assumption) ?_
  simp only [Act.put, List.setIfInBounds_toArray, List.set_cons_zero, List.set_cons_succ]
  refine takeD 11 (some 57) undef rfl rfl (by kernel_rfl) (by kernel_rfl) (by kernel_rfl) (fun _ _ _ h => h) (Or.inr ⟨by rfl, rfl⟩) (by assumption) ?_
  simp only [Act.put, List.setIfInBounds_toArray, List.set_cons_zero, List.set_cons_succ]
  refine takeD 12 (some 58) undef rfl rfl (by kernel_rfl) (by kernel_rfl) (by kernel_rfl) (fun _ _ _ h => h) (Or.inr ⟨by rfl, rfl⟩) (by assumption) ?_
  simp only [Act.put, List.setIfInBounds_toArray, List.set_cons_zero, List.set_cons_succ]
  refine takeD 13 (some 59) undef rfl rfl (by kernel_rfl) (by kernel_rfl) (by kernel_rfl) (fun _ _ _ h => h) (Or.inr ⟨by rfl, rfl⟩) (by assumption) ?_
  simp only [Act.put, List.setIfInBounds_toArray, List.set_cons_zero, List.set_cons_succ]
  refine takeD 14 (some 60) (.bool true) rfl rfl (by kernel_rfl) (by kernel_rfl) (by kernel_rfl) (fun _ _ _ h => h) (Or.inl ⟨by rfl, ?_⟩) (by assumption) ?_
  · intro w hSw; (try dsimp only at hSw); go_simp <;> (intros; omega)
  simp only [Act.put, List.setIfInBounds_toArray, List.set_cons_zero, List.set_cons_succ]
  refine wpAnyH_done (by kernel_rfl) ?_ _
  all_goals (go_wp2_with fail)
  all_goals go_ret
  all_goals (exact ⟨rfl, by first | exact R7.out.1.1.2.1 | exact R7.out.1.1.2.1.drew⟩)
set_option maxRecDepth 100000 in
set_option maxHeartbeats 8000000 in
theorem verifyset_out2 (L : List Rn) (p : Option Addr) (cap : Nat) (so D q dk o0 xd Fm T p0 p1 p2 p3 p4 p5 p6 p7 p8 : ByteArray) (sc sl now lo xc xl : Int) (t0 c0 v2 v4 v5 v6 v8 tg n e pw fg : Nat) (w : World) (hp : 0 < L.length) (nl : Nat) (hnl : 0 < nl) (hat : RsAt w p L) (hx0 : L[0] = ⟨o0, (t0 : Int), xc, xl, xd⟩)
    (HS : Hid (∀ W : World, RsAt W p L → Calls Tryz.prog 35 #[.slice p nl cap] W fun r w' => r = .returned (.bool true) ∧ Below W.heap.size W w'))
    (HZ : Hid (∀ W : World, Calls Tryz.prog 51 #[.agg #[.string so, .int .i64 46, .int .i64 sc, .int .i64 sl, .string D]] W fun r w' => r = .returned (.bool true) ∧ Below W.heap.size W w'))
    (HF : Hid (∀ W : World, Calls Tryz.prog 53 #[.int .i64 46] W fun r w' => r = .returned (.string Fm) ∧ w' = W))
    (HP : Hid (∀ W : World, Calls Tryz.prog 52 #[.string Fm, .string D] W fun r w' => ∃ gp op cp, r = .returned (.tuple #[.slice (some ⟨gp, op, none⟩) 9 cp, .bool true]) ∧ Pt w' gp op [p0, p1, p2, p3, p4, p5, p6, p7, p8] ∧ Below W.heap.size W w'))
    (HV0 : Hid (∀ W : World, Calls Tryz.prog 54 #[.string p0] W fun r w' => r = .returned (.int .i64 (t0 : Int)) ∧ w' = W))
    (HE : Hid (∀ W : World, Calls Tryz.prog 55 #[.string so, .string o0] W fun r w' => r = .returned (.bool true) ∧ Below W.heap.size W w'))
    (HW : Hid (∀ W : World, Calls Tryz.prog 36 #[.string o0, .string p7] W fun r w' => r = .returned (.bool false) ∧ Below W.heap.size W w')) :
    Calls Tryz.prog 12 #[.slice p nl cap, .agg #[.string so, .int .i64 46, .int .i64 sc, .int .i64 sl, .string D], .string q, .string dk, .int .i64 now] w fun r w' => r = .returned (.int .i64 5) ∧ Below w.heap.size w w' := by
  obtain ⟨W0, hW0⟩ : ∃ W0, w.alloc (.cells #[.string so, .int .i64 46, .int .i64 sc, .int .i64 sl, .string D] 27) = W0 := ⟨_, rfl⟩
  have V0 := hide' (Vs.start w #[.string so, .int .i64 46, .int .i64 sc, .int .i64 sl, .string D] p L hat)
  rw [hW0] at V0
  have HFI : Hid (∀ V : World, RsAt V p L → ∃ g off, p = some ⟨g, off, none⟩ ∧ V.cell? ⟨g, off, none⟩ = some (.string o0) ∧ V.cell? ⟨g, off + 1, none⟩ = some (.int .i64 (t0 : Int)) ∧ V.cell? ⟨g, off + 2, none⟩ = some (.int .i64 xc) ∧ V.cell? ⟨g, off + 3, none⟩ = some (.int .i64 xl) ∧ V.cell? ⟨g, off + 4, none⟩ = some (.string xd)) := fun V hV => by
    obtain ⟨g, off, hp2, hg, e0, e1, e2, e3, e4⟩ := hV 0 hp
    rw [Nat.zero_mul, Nat.add_zero, hx0] at e0 e1 e2 e3 e4
    exact ⟨g, off, hp2, e0, e1, e2, e3, e4⟩
  obtain ⟨b0, off, hpp, -⟩ := HFI.out _ hat
  subst hpp
  have HF2 : Hid (∀ V : World, RsAt V (some ⟨b0, off, none⟩) L → V.cell? ⟨b0, off, none⟩ = some (.string o0) ∧ V.cell? ⟨b0, off + 1, none⟩ = some (.int .i64 (t0 : Int)) ∧ V.cell? ⟨b0, off + 2, none⟩ = some (.int .i64 xc) ∧ V.cell? ⟨b0, off + 3, none⟩ = some (.int .i64 xl) ∧ V.cell? ⟨b0, off + 4, none⟩ = some (.string xd)) := fun V hV => by
    obtain ⟨g', off', hg, e0, e1, e2, e3, e4⟩ := HFI.out V hV
    injection hg with hg; injection hg with h1 h2; subst h1; subst h2
    exact ⟨e0, e1, e2, e3, e4⟩
  have hpi : ¬ (nl : Int) = 0 := by omega
  have hpj : (0 : Int) < (nl : Int) := by omega
  have HC : Hid (∀ V : World, Vs w V #[.string so, .int .i64 46, .int .i64 sc, .int .i64 sl, .string D] (some ⟨b0, off, none⟩) L → V.cell? ⟨w.heap.size, 0, none⟩ = some (.string so) ∧ V.cell? ⟨w.heap.size, 1, none⟩ = some (.int .i64 46) ∧ V.cell? ⟨w.heap.size, 2, none⟩ = some (.int .i64 sc) ∧ V.cell? ⟨w.heap.size, 3, none⟩ = some (.int .i64 sl) ∧ V.cell? ⟨w.heap.size, 4, none⟩ = some (.string D)) := fun V h => ⟨h.1.cell rfl, h.1.cell rfl, h.1.cell rfl, h.1.cell rfl, h.1.cell rfl⟩
  clear HFI hat hx0 hp
  go_enter Tryz.func12, Tryz.ntmps12
  go_wp2_with (first
    | (go_at_call 35; refine (HS.out _ V0.out.2.2).mono ?_; rintro r w1 ⟨rfl, hB⟩; have V1 := hide' (V0.out.step hB); clear hB; obtain ⟨s0, s1, s2, s3, s4⟩ := HC.out _ V1.out)
    | (go_at_call 51; refine (HZ.out _).mono ?_; rintro r w2 ⟨rfl, hB⟩; have V2 := hide' (V1.out.step hB); clear hB s0 s1 s2 s3 s4; obtain ⟨s0, s1, s2, s3, s4⟩ := HC.out _ V2.out))
  go_region_held3 (fun V => V.cell? ⟨w.heap.size, 4, none⟩ = some (.string D)) (first | go_keep | exact R4.out.1.1.cell rfl | exact V3.out.1.cell rfl) (first
    | (go_at_call 53; refine (HF.out _).mono ?_; rintro r w3 ⟨rfl, hwa⟩; have V3 := hide' (show Vs w w3 #[.string so, .int .i64 46, .int .i64 sc, .int .i64 sl, .string D] (some ⟨b0, off, none⟩) L by first | (rw [hwa]; exact V2.out) | (rw [hwa]; exact V2.out.drew)); clear hwa)
    | (go_at_call 52; refine (HP.out _).mono ?_; rintro r w4 ⟨gp, op, cp, rfl, hpt, hB⟩; have R4 := hide' (show Rw w w4 #[.string so, .int .i64 46, .int .i64 sc, .int .i64 sl, .string D] (some ⟨b0, off, none⟩) L gp op [p0, p1, p2, p3, p4, p5, p6, p7, p8] from ⟨by first | exact V3.out.step hB | exact V3.out.drew.step hB, hpt⟩); clear hB hpt))
  clear s0 s1 s2 s3 s4 V0 V1 V2 V3 HS HZ HF HP HC
  obtain ⟨e0, e1, e2, e3, e4⟩ := HF2.out _ R4.out.1.2.2
  have R5 := hide' (Rx.start R4.out #[.string o0, .int .i64 (t0 : Int), .int .i64 xc, .int .i64 xl, .string xd])
  go_wp2_with fail
  obtain ⟨W5, hW5⟩ : ∃ W5, w4.alloc (.cells #[.string o0, .int .i64 (t0 : Int), .int .i64 xc, .int .i64 xl, .string xd] 27) = W5 := ⟨_, rfl⟩
  obtain ⟨X, hX⟩ : ∃ X, w4.heap.size = X := ⟨_, rfl⟩
  rw [hW5, hX] at R5
  simp only [hW5, hX]
  clear hW5 hX hW0 R4 e0 e1 e2 e3 e4 HF2
  have QF : Hid (∀ V : World, Rx w V X #[.string so, .int .i64 46, .int .i64 sc, .int .i64 sl, .string D] #[.string o0, .int .i64 (t0 : Int), .int .i64 xc, .int .i64 xl, .string xd] (some ⟨b0, off, none⟩) L gp op [p0, p1, p2, p3, p4, p5, p6, p7, p8] → V.cell? ⟨w.heap.size, 0, none⟩ = some (.string so) ∧ V.cell? ⟨X, 0, none⟩ = some (.string o0) ∧ V.cell? ⟨X, 1, none⟩ = some (.int .i64 (t0 : Int)) ∧ V.cell? ⟨gp, op, none⟩ = some (.string p0) ∧ V.cell? ⟨gp, op + 1, none⟩ = some (.string p1) ∧ V.cell? ⟨gp, op + 2, none⟩ = some (.string p2) ∧ V.cell? ⟨gp, op + 3, none⟩ = some (.string p3) ∧ V.cell? ⟨gp, op + 4, none⟩ = some (.string p4) ∧ V.cell? ⟨gp, op + 5, none⟩ = some (.string p5) ∧ V.cell? ⟨gp, op + 6, none⟩ = some (.string p6) ∧ V.cell? ⟨gp, op + 7, none⟩ = some (.string p7) ∧ V.cell? ⟨gp, op + 8, none⟩ = some (.string p8)) := fun V h => ⟨h.1.1.1.cell rfl, h.2.cell rfl, h.2.cell rfl, h.1.2.2 0 (by simp), h.1.2.2 1 (by simp), h.1.2.2 2 (by simp), h.1.2.2 3 (by simp), h.1.2.2 4 (by simp), h.1.2.2 5 (by simp), h.1.2.2 6 (by simp), h.1.2.2 7 (by simp), h.1.2.2 8 (by simp)⟩
  obtain ⟨s0, x0, x1, r0, r1, r2, r3, r4, r5, r6, r7, r8⟩ := QF.out _ R5.out
  all_goals (go_region_held3 (fun V => V.cell? ⟨gp, op, none⟩ = some (.string p0) ∧ V.cell? ⟨X, 1, none⟩ = some (.int .i64 (t0 : Int))) (first | go_keep | exact ⟨R6.out.1.2.2 0 (by simp), R6.out.2.cell rfl⟩) (first
    | (go_at_call 54; refine (HV0.out _).mono ?_; rintro r w6 ⟨rfl, hwa⟩; have R6 := hide' (show Rx w w6 X #[.string so, .int .i64 46, .int .i64 sc, .int .i64 sl, .string D] #[.string o0, .int .i64 (t0 : Int), .int .i64 xc, .int .i64 xl, .string xd] (some ⟨b0, off, none⟩) L gp op [p0, p1, p2, p3, p4, p5, p6, p7, p8] by first | (rw [hwa]; exact R5.out) | (rw [hwa]; exact R5.out.drew)); clear hwa)))
  all_goals (clear s0 x0 x1 r0 r1 r2 r3 r4 r5 r6 r7 r8)
  all_goals (obtain ⟨s0, x0, x1, r0, r1, r2, r3, r4, r5, r6, r7, r8⟩ := QF.out _ R6.out)
  all_goals (go_wp2_with fail)
  all_goals (go_region_held3 (fun V => V.cell? ⟨w.heap.size, 0, none⟩ = some (.string so) ∧ V.cell? ⟨X, 0, none⟩ = some (.string o0) ∧ V.cell? ⟨gp, op + 7, none⟩ = some (.string p7)) (first | go_keep | exact ⟨R8.out.1.1.1.cell rfl, R8.out.2.cell rfl, R8.out.1.2.2 7 (by simp)⟩ | exact ⟨R7.out.1.1.1.cell rfl, R7.out.2.cell rfl, R7.out.1.2.2 7 (by simp)⟩) (first
    | (go_at_call 55; refine (HE.out _).mono ?_; rintro r w7 ⟨rfl, hB⟩; have R7 := hide' (show Rx w w7 X #[.string so, .int .i64 46, .int .i64 sc, .int .i64 sl, .string D] #[.string o0, .int .i64 (t0 : Int), .int .i64 xc, .int .i64 xl, .string xd] (some ⟨b0, off, none⟩) L gp op [p0, p1, p2, p3, p4, p5, p6, p7, p8] by first | exact R6.out.step hB | exact R6.out.drew.step hB); clear hB)
    | (go_at_call 36; refine (HW.out _).mono ?_; rintro r w8 ⟨rfl, hB⟩; have R8 := hide' (show Rx w w8 X #[.string so, .int .i64 46, .int .i64 sc, .int .i64 sl, .string D] #[.string o0, .int .i64 (t0 : Int), .int .i64 xc, .int .i64 xl, .string xd] (some ⟨b0, off, none⟩) L gp op [p0, p1, p2, p3, p4, p5, p6, p7, p8] by first | exact R7.out.step hB | exact R7.out.drew.step hB); clear hB)))
  all_goals (clear s0 x0 x1 r0 r1 r2 r3 r4 r5 r6 r7 r8)
  all_goals (obtain ⟨s0, x0, x1, r0, r1, r2, r3, r4, r5, r6, r7, r8⟩ := QF.out _ R8.out)
  all_goals (go_wp2_with fail)
  all_goals go_ret
  all_goals (exact ⟨rfl, by first | exact R8.out.1.1.2.1 | exact R8.out.1.1.2.1.drew⟩)
set_option maxRecDepth 100000 in
set_option maxHeartbeats 8000000 in
theorem verifyset_name (L : List Rn) (p : Option Addr) (cap : Nat) (so D q dk o0 xd Fm T p0 p1 p2 p3 p4 p5 p6 p7 p8 : ByteArray) (sc sl now lo xc xl : Int) (t0 c0 v2 v4 v5 v6 v8 tg n e pw fg : Nat) (w : World) (hp : 0 < L.length) (nl : Nat) (hnl : 0 < nl) (hat : RsAt w p L) (hx0 : L[0] = ⟨o0, (t0 : Int), xc, xl, xd⟩)
    (HS : Hid (∀ W : World, RsAt W p L → Calls Tryz.prog 35 #[.slice p nl cap] W fun r w' => r = .returned (.bool true) ∧ Below W.heap.size W w'))
    (HZ : Hid (∀ W : World, Calls Tryz.prog 51 #[.agg #[.string so, .int .i64 46, .int .i64 sc, .int .i64 sl, .string D]] W fun r w' => r = .returned (.bool true) ∧ Below W.heap.size W w'))
    (HF : Hid (∀ W : World, Calls Tryz.prog 53 #[.int .i64 46] W fun r w' => r = .returned (.string Fm) ∧ w' = W))
    (HP : Hid (∀ W : World, Calls Tryz.prog 52 #[.string Fm, .string D] W fun r w' => ∃ gp op cp, r = .returned (.tuple #[.slice (some ⟨gp, op, none⟩) 9 cp, .bool true]) ∧ Pt w' gp op [p0, p1, p2, p3, p4, p5, p6, p7, p8] ∧ Below W.heap.size W w'))
    (HV0 : Hid (∀ W : World, Calls Tryz.prog 54 #[.string p0] W fun r w' => r = .returned (.int .i64 (t0 : Int)) ∧ w' = W))
    (HE : Hid (∀ W : World, Calls Tryz.prog 55 #[.string so, .string o0] W fun r w' => r = .returned (.bool true) ∧ Below W.heap.size W w'))
    (HW : Hid (∀ W : World, Calls Tryz.prog 36 #[.string o0, .string p7] W fun r w' => r = .returned (.bool true) ∧ Below W.heap.size W w'))
    (HQ : Hid (∀ W : World, Calls Tryz.prog 55 #[.string q, .string p7] W fun r w' => r = .returned (.bool false) ∧ Below W.heap.size W w')) :
    Calls Tryz.prog 12 #[.slice p nl cap, .agg #[.string so, .int .i64 46, .int .i64 sc, .int .i64 sl, .string D], .string q, .string dk, .int .i64 now] w fun r w' => r = .returned (.int .i64 1) ∧ Below w.heap.size w w' := by
  obtain ⟨W0, hW0⟩ : ∃ W0, w.alloc (.cells #[.string so, .int .i64 46, .int .i64 sc, .int .i64 sl, .string D] 27) = W0 := ⟨_, rfl⟩
  have V0 := hide' (Vs.start w #[.string so, .int .i64 46, .int .i64 sc, .int .i64 sl, .string D] p L hat)
  rw [hW0] at V0
  have HFI : Hid (∀ V : World, RsAt V p L → ∃ g off, p = some ⟨g, off, none⟩ ∧ V.cell? ⟨g, off, none⟩ = some (.string o0) ∧ V.cell? ⟨g, off + 1, none⟩ = some (.int .i64 (t0 : Int)) ∧ V.cell? ⟨g, off + 2, none⟩ = some (.int .i64 xc) ∧ V.cell? ⟨g, off + 3, none⟩ = some (.int .i64 xl) ∧ V.cell? ⟨g, off + 4, none⟩ = some (.string xd)) := fun V hV => by
    obtain ⟨g, off, hp2, hg, e0, e1, e2, e3, e4⟩ := hV 0 hp
    rw [Nat.zero_mul, Nat.add_zero, hx0] at e0 e1 e2 e3 e4
    exact ⟨g, off, hp2, e0, e1, e2, e3, e4⟩
  obtain ⟨b0, off, hpp, -⟩ := HFI.out _ hat
  subst hpp
  have HF2 : Hid (∀ V : World, RsAt V (some ⟨b0, off, none⟩) L → V.cell? ⟨b0, off, none⟩ = some (.string o0) ∧ V.cell? ⟨b0, off + 1, none⟩ = some (.int .i64 (t0 : Int)) ∧ V.cell? ⟨b0, off + 2, none⟩ = some (.int .i64 xc) ∧ V.cell? ⟨b0, off + 3, none⟩ = some (.int .i64 xl) ∧ V.cell? ⟨b0, off + 4, none⟩ = some (.string xd)) := fun V hV => by
    obtain ⟨g', off', hg, e0, e1, e2, e3, e4⟩ := HFI.out V hV
    injection hg with hg; injection hg with h1 h2; subst h1; subst h2
    exact ⟨e0, e1, e2, e3, e4⟩
  have hpi : ¬ (nl : Int) = 0 := by omega
  have hpj : (0 : Int) < (nl : Int) := by omega
  have HC : Hid (∀ V : World, Vs w V #[.string so, .int .i64 46, .int .i64 sc, .int .i64 sl, .string D] (some ⟨b0, off, none⟩) L → V.cell? ⟨w.heap.size, 0, none⟩ = some (.string so) ∧ V.cell? ⟨w.heap.size, 1, none⟩ = some (.int .i64 46) ∧ V.cell? ⟨w.heap.size, 2, none⟩ = some (.int .i64 sc) ∧ V.cell? ⟨w.heap.size, 3, none⟩ = some (.int .i64 sl) ∧ V.cell? ⟨w.heap.size, 4, none⟩ = some (.string D)) := fun V h => ⟨h.1.cell rfl, h.1.cell rfl, h.1.cell rfl, h.1.cell rfl, h.1.cell rfl⟩
  clear HFI hat hx0 hp
  go_enter Tryz.func12, Tryz.ntmps12
  go_wp2_with (first
    | (go_at_call 35; refine (HS.out _ V0.out.2.2).mono ?_; rintro r w1 ⟨rfl, hB⟩; have V1 := hide' (V0.out.step hB); clear hB; obtain ⟨s0, s1, s2, s3, s4⟩ := HC.out _ V1.out)
    | (go_at_call 51; refine (HZ.out _).mono ?_; rintro r w2 ⟨rfl, hB⟩; have V2 := hide' (V1.out.step hB); clear hB s0 s1 s2 s3 s4; obtain ⟨s0, s1, s2, s3, s4⟩ := HC.out _ V2.out))
  go_region_held3 (fun V => V.cell? ⟨w.heap.size, 4, none⟩ = some (.string D)) (first | go_keep | exact R4.out.1.1.cell rfl | exact V3.out.1.cell rfl) (first
    | (go_at_call 53; refine (HF.out _).mono ?_; rintro r w3 ⟨rfl, hwa⟩; have V3 := hide' (show Vs w w3 #[.string so, .int .i64 46, .int .i64 sc, .int .i64 sl, .string D] (some ⟨b0, off, none⟩) L by first | (rw [hwa]; exact V2.out) | (rw [hwa]; exact V2.out.drew)); clear hwa)
    | (go_at_call 52; refine (HP.out _).mono ?_; rintro r w4 ⟨gp, op, cp, rfl, hpt, hB⟩; have R4 := hide' (show Rw w w4 #[.string so, .int .i64 46, .int .i64 sc, .int .i64 sl, .string D] (some ⟨b0, off, none⟩) L gp op [p0, p1, p2, p3, p4, p5, p6, p7, p8] from ⟨by first | exact V3.out.step hB | exact V3.out.drew.step hB, hpt⟩); clear hB hpt))
  clear s0 s1 s2 s3 s4 V0 V1 V2 V3 HS HZ HF HP HC
  obtain ⟨e0, e1, e2, e3, e4⟩ := HF2.out _ R4.out.1.2.2
  have R5 := hide' (Rx.start R4.out #[.string o0, .int .i64 (t0 : Int), .int .i64 xc, .int .i64 xl, .string xd])
  go_wp2_with fail
  obtain ⟨W5, hW5⟩ : ∃ W5, w4.alloc (.cells #[.string o0, .int .i64 (t0 : Int), .int .i64 xc, .int .i64 xl, .string xd] 27) = W5 := ⟨_, rfl⟩
  obtain ⟨X, hX⟩ : ∃ X, w4.heap.size = X := ⟨_, rfl⟩
  rw [hW5, hX] at R5
  simp only [hW5, hX]
  clear hW5 hX hW0 R4 e0 e1 e2 e3 e4 HF2
  have QF : Hid (∀ V : World, Rx w V X #[.string so, .int .i64 46, .int .i64 sc, .int .i64 sl, .string D] #[.string o0, .int .i64 (t0 : Int), .int .i64 xc, .int .i64 xl, .string xd] (some ⟨b0, off, none⟩) L gp op [p0, p1, p2, p3, p4, p5, p6, p7, p8] → V.cell? ⟨w.heap.size, 0, none⟩ = some (.string so) ∧ V.cell? ⟨X, 0, none⟩ = some (.string o0) ∧ V.cell? ⟨X, 1, none⟩ = some (.int .i64 (t0 : Int)) ∧ V.cell? ⟨gp, op, none⟩ = some (.string p0) ∧ V.cell? ⟨gp, op + 1, none⟩ = some (.string p1) ∧ V.cell? ⟨gp, op + 2, none⟩ = some (.string p2) ∧ V.cell? ⟨gp, op + 3, none⟩ = some (.string p3) ∧ V.cell? ⟨gp, op + 4, none⟩ = some (.string p4) ∧ V.cell? ⟨gp, op + 5, none⟩ = some (.string p5) ∧ V.cell? ⟨gp, op + 6, none⟩ = some (.string p6) ∧ V.cell? ⟨gp, op + 7, none⟩ = some (.string p7) ∧ V.cell? ⟨gp, op + 8, none⟩ = some (.string p8)) := fun V h => ⟨h.1.1.1.cell rfl, h.2.cell rfl, h.2.cell rfl, h.1.2.2 0 (by simp), h.1.2.2 1 (by simp), h.1.2.2 2 (by simp), h.1.2.2 3 (by simp), h.1.2.2 4 (by simp), h.1.2.2 5 (by simp), h.1.2.2 6 (by simp), h.1.2.2 7 (by simp), h.1.2.2 8 (by simp)⟩
  obtain ⟨s0, x0, x1, r0, r1, r2, r3, r4, r5, r6, r7, r8⟩ := QF.out _ R5.out
  all_goals (go_region_held3 (fun V => V.cell? ⟨gp, op, none⟩ = some (.string p0) ∧ V.cell? ⟨X, 1, none⟩ = some (.int .i64 (t0 : Int))) (first | go_keep | exact ⟨R6.out.1.2.2 0 (by simp), R6.out.2.cell rfl⟩) (first
    | (go_at_call 54; refine (HV0.out _).mono ?_; rintro r w6 ⟨rfl, hwa⟩; have R6 := hide' (show Rx w w6 X #[.string so, .int .i64 46, .int .i64 sc, .int .i64 sl, .string D] #[.string o0, .int .i64 (t0 : Int), .int .i64 xc, .int .i64 xl, .string xd] (some ⟨b0, off, none⟩) L gp op [p0, p1, p2, p3, p4, p5, p6, p7, p8] by first | (rw [hwa]; exact R5.out) | (rw [hwa]; exact R5.out.drew)); clear hwa)))
  all_goals (clear s0 x0 x1 r0 r1 r2 r3 r4 r5 r6 r7 r8)
  all_goals (obtain ⟨s0, x0, x1, r0, r1, r2, r3, r4, r5, r6, r7, r8⟩ := QF.out _ R6.out)
  all_goals (go_wp2_with fail)
  all_goals (go_region_held3 (fun V => V.cell? ⟨w.heap.size, 0, none⟩ = some (.string so) ∧ V.cell? ⟨X, 0, none⟩ = some (.string o0) ∧ V.cell? ⟨gp, op + 7, none⟩ = some (.string p7)) (first | go_keep | exact ⟨R8.out.1.1.1.cell rfl, R8.out.2.cell rfl, R8.out.1.2.2 7 (by simp)⟩ | exact ⟨R7.out.1.1.1.cell rfl, R7.out.2.cell rfl, R7.out.1.2.2 7 (by simp)⟩) (first
    | (go_at_call 55; refine (HE.out _).mono ?_; rintro r w7 ⟨rfl, hB⟩; have R7 := hide' (show Rx w w7 X #[.string so, .int .i64 46, .int .i64 sc, .int .i64 sl, .string D] #[.string o0, .int .i64 (t0 : Int), .int .i64 xc, .int .i64 xl, .string xd] (some ⟨b0, off, none⟩) L gp op [p0, p1, p2, p3, p4, p5, p6, p7, p8] by first | exact R6.out.step hB | exact R6.out.drew.step hB); clear hB)
    | (go_at_call 36; refine (HW.out _).mono ?_; rintro r w8 ⟨rfl, hB⟩; have R8 := hide' (show Rx w w8 X #[.string so, .int .i64 46, .int .i64 sc, .int .i64 sl, .string D] #[.string o0, .int .i64 (t0 : Int), .int .i64 xc, .int .i64 xl, .string xd] (some ⟨b0, off, none⟩) L gp op [p0, p1, p2, p3, p4, p5, p6, p7, p8] by first | exact R7.out.step hB | exact R7.out.drew.step hB); clear hB)))
  all_goals (clear s0 x0 x1 r0 r1 r2 r3 r4 r5 r6 r7 r8)
  all_goals (obtain ⟨s0, x0, x1, r0, r1, r2, r3, r4, r5, r6, r7, r8⟩ := QF.out _ R8.out)
  all_goals (go_wp2_with (first
    | (go_at_call 55; refine (HQ.out _).mono ?_; rintro r w9 ⟨rfl, hB⟩; have R9 := hide' (show Rx w w9 X #[.string so, .int .i64 46, .int .i64 sc, .int .i64 sl, .string D] #[.string o0, .int .i64 (t0 : Int), .int .i64 xc, .int .i64 xl, .string xd] (some ⟨b0, off, none⟩) L gp op [p0, p1, p2, p3, p4, p5, p6, p7, p8] by first | exact R8.out.step hB | exact R8.out.drew.step hB); clear hB; clear s0 x0 x1 r0 r1 r2 r3 r4 r5 r6 r7 r8; obtain ⟨s0, x0, x1, r0, r1, r2, r3, r4, r5, r6, r7, r8⟩ := QF.out _ R9.out)))
  all_goals go_ret
  all_goals (exact ⟨rfl, by first | exact R9.out.1.1.2.1 | exact R9.out.1.1.2.1.drew⟩)
end Go.Proofs.YtennkhdhnbdbeaaGreat

/-
  gazetteerref4.VerifySet, behind its parts. (The verifier's own text.)
-/
namespace Go.Proofs.YtennkhdhnbdbeaaGreat
set_option linter.unusedVariables false
set_option linter.unusedSimpArgs false
open Go.RowKit Go.Shelf Go.Sort Go.Proofs.YtennkhdhnbdbeaaGreat.Nm

set_option maxRecDepth 100000 in
set_option maxHeartbeats 8000000 in
theorem verifyset_key1 (L : List Rn) (p : Option Addr) (cap : Nat) (so D q dk o0 xd Fm T p0 p1 p2 p3 p4 p5 p6 p7 p8 : ByteArray) (sc sl now lo xc xl : Int) (t0 c0 v2 v4 v5 v6 v8 tg n e pw fg : Nat) (w : World) (hp : 0 < L.length) (nl : Nat) (hnl : 0 < nl) (hat : RsAt w p L) (hx0 : L[0] = ⟨o0, (t0 : Int), xc, xl, xd⟩)
    (HS : Hid (∀ W : World, RsAt W p L → Calls Tryz.prog 35 #[.slice p nl cap] W fun r w' => r = .returned (.bool true) ∧ Below W.heap.size W w'))
    (HZ : Hid (∀ W : World, Calls Tryz.prog 51 #[.agg #[.string so, .int .i64 46, .int .i64 sc, .int .i64 sl, .string D]] W fun r w' => r = .returned (.bool true) ∧ Below W.heap.size W w'))
    (HF : Hid (∀ W : World, Calls Tryz.prog 53 #[.int .i64 46] W fun r w' => r = .returned (.string Fm) ∧ w' = W))
    (HP : Hid (∀ W : World, Calls Tryz.prog 52 #[.string Fm, .string D] W fun r w' => ∃ gp op cp, r = .returned (.tuple #[.slice (some ⟨gp, op, none⟩) 9 cp, .bool true]) ∧ Pt w' gp op [p0, p1, p2, p3, p4, p5, p6, p7, p8] ∧ Below W.heap.size W w'))
    (HV0 : Hid (∀ W : World, Calls Tryz.prog 54 #[.string p0] W fun r w' => r = .returned (.int .i64 (t0 : Int)) ∧ w' = W))
    (HE : Hid (∀ W : World, Calls Tryz.prog 55 #[.string so, .string o0] W fun r w' => r = .returned (.bool true) ∧ Below W.heap.size W w'))
    (HW : Hid (∀ W : World, Calls Tryz.prog 36 #[.string o0, .string p7] W fun r w' => r = .returned (.bool true) ∧ Below W.heap.size W w'))
    (HQ : Hid (∀ W : World, Calls Tryz.prog 55 #[.string q, .string p7] W fun r w' => r = .returned (.bool true) ∧ Below W.heap.size W w'))
    (HK : Hid (∀ W : World, Calls Tryz.prog 56 #[.string dk] W fun r w' => r = .returned (.bool false) ∧ Below W.heap.size W w')) :
    Calls Tryz.prog 12 #[.slice p nl cap, .agg #[.string so, .int .i64 46, .int .i64 sc, .int .i64 sl, .string D], .string q, .string dk, .int .i64 now] w fun r w' => r = .returned (.int .i64 24) ∧ Below w.heap.size w w' := by
  obtain ⟨W0, hW0⟩ : ∃ W0, w.alloc (.cells #[.string so, .int .i64 46, .int .i64 sc, .int .i64 sl, .string D] 27) = W0 := ⟨_, rfl⟩
  have V0 := hide' (Vs.start w #[.string so, .int .i64 46, .int .i64 sc, .int .i64 sl, .string D] p L hat)
  rw [hW0] at V0
  have HFI : Hid (∀ V : World, RsAt V p L → ∃ g off, p = some ⟨g, off, none⟩ ∧ V.cell? ⟨g, off, none⟩ = some (.string o0) ∧ V.cell? ⟨g, off + 1, none⟩ = some (.int .i64 (t0 : Int)) ∧ V.cell? ⟨g, off + 2, none⟩ = some (.int .i64 xc) ∧ V.cell? ⟨g, off + 3, none⟩ = some (.int .i64 xl) ∧ V.cell? ⟨g, off + 4, none⟩ = some (.string xd)) := fun V hV => by
    obtain ⟨g, off, hp2, hg, e0, e1, e2, e3, e4⟩ := hV 0 hp
    rw [Nat.zero_mul, Nat.add_zero, hx0] at e0 e1 e2 e3 e4
    exact ⟨g, off, hp2, e0, e1, e2, e3, e4⟩
  obtain ⟨b0, off, hpp, -⟩ := HFI.out _ hat
  subst hpp
  have HF2 : Hid (∀ V : World, RsAt V (some ⟨b0, off, none⟩) L → V.cell? ⟨b0, off, none⟩ = some (.string o0) ∧ V.cell? ⟨b0, off + 1, none⟩ = some (.int .i64 (t0 : Int)) ∧ V.cell? ⟨b0, off + 2, none⟩ = some (.int .i64 xc) ∧ V.cell? ⟨b0, off + 3, none⟩ = some (.int .i64 xl) ∧ V.cell? ⟨b0, off + 4, none⟩ = some (.string xd)) := fun V hV => by
    obtain ⟨g', off', hg, e0, e1, e2, e3, e4⟩ := HFI.out V hV
    injection hg with hg; injection hg with h1 h2; subst h1; subst h2
    exact ⟨e0, e1, e2, e3, e4⟩
  have hpi : ¬ (nl : Int) = 0 := by omega
  have hpj : (0 : Int) < (nl : Int) := by omega
  have HC : Hid (∀ V : World, Vs w V #[.string so, .int .i64 46, .int .i64 sc, .int .i64 sl, .string D] (some ⟨b0, off, none⟩) L → V.cell? ⟨w.heap.size, 0, none⟩ = some (.string so) ∧ V.cell? ⟨w.heap.size, 1, none⟩ = some (.int .i64 46) ∧ V.cell? ⟨w.heap.size, 2, none⟩ = some (.int .i64 sc) ∧ V.cell? ⟨w.heap.size, 3, none⟩ = some (.int .i64 sl) ∧ V.cell? ⟨w.heap.size, 4, none⟩ = some (.string D)) := fun V h => ⟨h.1.cell rfl, h.1.cell rfl, h.1.cell rfl, h.1.cell rfl, h.1.cell rfl⟩
  clear HFI hat hx0 hp
  go_enter Tryz.func12, Tryz.ntmps12
  go_wp2_with (first
    | (go_at_call 35; refine (HS.out _ V0.out.2.2).mono ?_; rintro r w1 ⟨rfl, hB⟩; have V1 := hide' (V0.out.step hB); clear hB; obtain ⟨s0, s1, s2, s3, s4⟩ := HC.out _ V1.out)
    | (go_at_call 51; refine (HZ.out _).mono ?_; rintro r w2 ⟨rfl, hB⟩; have V2 := hide' (V1.out.step hB); clear hB s0 s1 s2 s3 s4; obtain ⟨s0, s1, s2, s3, s4⟩ := HC.out _ V2.out))
  go_region_held3 (fun V => V.cell? ⟨w.heap.size, 4, none⟩ = some (.string D)) (first | go_keep | exact R4.out.1.1.cell rfl | exact V3.out.1.cell rfl) (first
    | (go_at_call 53; refine (HF.out _).mono ?_; rintro r w3 ⟨rfl, hwa⟩; have V3 := hide' (show Vs w w3 #[.string so, .int .i64 46, .int .i64 sc, .int .i64 sl, .string D] (some ⟨b0, off, none⟩) L by first | (rw [hwa]; exact V2.out) | (rw [hwa]; exact V2.out.drew)); clear hwa)
    | (go_at_call 52; refine (HP.out _).mono ?_; rintro r w4 ⟨gp, op, cp, rfl, hpt, hB⟩; have R4 := hide' (show Rw w w4 #[.string so, .int .i64 46, .int .i64 sc, .int .i64 sl, .string D] (some ⟨b0, off, none⟩) L gp op [p0, p1, p2, p3, p4, p5, p6, p7, p8] from ⟨by first | exact V3.out.step hB | exact V3.out.drew.step hB, hpt⟩); clear hB hpt))
  clear s0 s1 s2 s3 s4 V0 V1 V2 V3 HS HZ HF HP HC
  obtain ⟨e0, e1, e2, e3, e4⟩ := HF2.out _ R4.out.1.2.2
  have R5 := hide' (Rx.start R4.out #[.string o0, .int .i64 (t0 : Int), .int .i64 xc, .int .i64 xl, .string xd])
  go_wp2_with fail
  obtain ⟨W5, hW5⟩ : ∃ W5, w4.alloc (.cells #[.string o0, .int .i64 (t0 : Int), .int .i64 xc, .int .i64 xl, .string xd] 27) = W5 := ⟨_, rfl⟩
  obtain ⟨X, hX⟩ : ∃ X, w4.heap.size = X := ⟨_, rfl⟩
  rw [hW5, hX] at R5
  simp only [hW5, hX]
  clear hW5 hX hW0 R4 e0 e1 e2 e3 e4 HF2
  have QF : Hid (∀ V : World, Rx w V X #[.string so, .int .i64 46, .int .i64 sc, .int .i64 sl, .string D] #[.string o0, .int .i64 (t0 : Int), .int .i64 xc, .int .i64 xl, .string xd] (some ⟨b0, off, none⟩) L gp op [p0, p1, p2, p3, p4, p5, p6, p7, p8] → V.cell? ⟨w.heap.size, 0, none⟩ = some (.string so) ∧ V.cell? ⟨X, 0, none⟩ = some (.string o0) ∧ V.cell? ⟨X, 1, none⟩ = some (.int .i64 (t0 : Int)) ∧ V.cell? ⟨gp, op, none⟩ = some (.string p0) ∧ V.cell? ⟨gp, op + 1, none⟩ = some (.string p1) ∧ V.cell? ⟨gp, op + 2, none⟩ = some (.string p2) ∧ V.cell? ⟨gp, op + 3, none⟩ = some (.string p3) ∧ V.cell? ⟨gp, op + 4, none⟩ = some (.string p4) ∧ V.cell? ⟨gp, op + 5, none⟩ = some (.string p5) ∧ V.cell? ⟨gp, op + 6, none⟩ = some (.string p6) ∧ V.cell? ⟨gp, op + 7, none⟩ = some (.string p7) ∧ V.cell? ⟨gp, op + 8, none⟩ = some (.string p8)) := fun V h => ⟨h.1.1.1.cell rfl, h.2.cell rfl, h.2.cell rfl, h.1.2.2 0 (by simp), h.1.2.2 1 (by simp), h.1.2.2 2 (by simp), h.1.2.2 3 (by simp), h.1.2.2 4 (by simp), h.1.2.2 5 (by simp), h.1.2.2 6 (by simp), h.1.2.2 7 (by simp), h.1.2.2 8 (by simp)⟩
  obtain ⟨s0, x0, x1, r0, r1, r2, r3, r4, r5, r6, r7, r8⟩ := QF.out _ R5.out
  all_goals (go_region_held3 (fun V => V.cell? ⟨gp, op, none⟩ = some (.string p0) ∧ V.cell? ⟨X, 1, none⟩ = some (.int .i64 (t0 : Int))) (first | go_keep | exact ⟨R6.out.1.2.2 0 (by simp), R6.out.2.cell rfl⟩) (first
    | (go_at_call 54; refine (HV0.out _).mono ?_; rintro r w6 ⟨rfl, hwa⟩; have R6 := hide' (show Rx w w6 X #[.string so, .int .i64 46, .int .i64 sc, .int .i64 sl, .string D] #[.string o0, .int .i64 (t0 : Int), .int .i64 xc, .int .i64 xl, .string xd] (some ⟨b0, off, none⟩) L gp op [p0, p1, p2, p3, p4, p5, p6, p7, p8] by first | (rw [hwa]; exact R5.out) | (rw [hwa]; exact R5.out.drew)); clear hwa)))
  all_goals (clear s0 x0 x1 r0 r1 r2 r3 r4 r5 r6 r7 r8)
  all_goals (obtain ⟨s0, x0, x1, r0, r1, r2, r3, r4, r5, r6, r7, r8⟩ := QF.out _ R6.out)
  all_goals (go_wp2_with fail)
  all_goals (go_region_held3 (fun V => V.cell? ⟨w.heap.size, 0, none⟩ = some (.string so) ∧ V.cell? ⟨X, 0, none⟩ = some (.string o0) ∧ V.cell? ⟨gp, op + 7, none⟩ = some (.string p7)) (first | go_keep | exact ⟨R8.out.1.1.1.cell rfl, R8.out.2.cell rfl, R8.out.1.2.2 7 (by simp)⟩ | exact ⟨R7.out.1.1.1.cell rfl, R7.out.2.cell rfl, R7.out.1.2.2 7 (by simp)⟩) (first
    | (go_at_call 55; refine (HE.out _).mono ?_; rintro r w7 ⟨rfl, hB⟩; have R7 := hide' (show Rx w w7 X #[.string so, .int .i64 46, .int .i64 sc, .int .i64 sl, .string D] #[.string o0, .int .i64 (t0 : Int), .int .i64 xc, .int .i64 xl, .string xd] (some ⟨b0, off, none⟩) L gp op [p0, p1, p2, p3, p4, p5, p6, p7, p8] by first | exact R6.out.step hB | exact R6.out.drew.step hB); clear hB)
    | (go_at_call 36; refine (HW.out _).mono ?_; rintro r w8 ⟨rfl, hB⟩; have R8 := hide' (show Rx w w8 X #[.string so, .int .i64 46, .int .i64 sc, .int .i64 sl, .string D] #[.string o0, .int .i64 (t0 : Int), .int .i64 xc, .int .i64 xl, .string xd] (some ⟨b0, off, none⟩) L gp op [p0, p1, p2, p3, p4, p5, p6, p7, p8] by first | exact R7.out.step hB | exact R7.out.drew.step hB); clear hB)))
  all_goals (clear s0 x0 x1 r0 r1 r2 r3 r4 r5 r6 r7 r8)
  all_goals (obtain ⟨s0, x0, x1, r0, r1, r2, r3, r4, r5, r6, r7, r8⟩ := QF.out _ R8.out)
  all_goals (go_wp2_with (first
    | (go_at_call 55; refine (HQ.out _).mono ?_; rintro r w9 ⟨rfl, hB⟩; have R9 := hide' (show Rx w w9 X #[.string so, .int .i64 46, .int .i64 sc, .int .i64 sl, .string D] #[.string o0, .int .i64 (t0 : Int), .int .i64 xc, .int .i64 xl, .string xd] (some ⟨b0, off, none⟩) L gp op [p0, p1, p2, p3, p4, p5, p6, p7, p8] by first | exact R8.out.step hB | exact R8.out.drew.step hB); clear hB; clear s0 x0 x1 r0 r1 r2 r3 r4 r5 r6 r7 r8; obtain ⟨s0, x0, x1, r0, r1, r2, r3, r4, r5, r6, r7, r8⟩ := QF.out _ R9.out)
    | (go_at_call 56; refine (HK.out _).mono ?_; rintro r wa ⟨rfl, hB⟩; have Ra := hide' (show Rx w wa X #[.string so, .int .i64 46, .int .i64 sc, .int .i64 sl, .string D] #[.string o0, .int .i64 (t0 : Int), .int .i64 xc, .int .i64 xl, .string xd] (some ⟨b0, off, none⟩) L gp op [p0, p1, p2, p3, p4, p5, p6, p7, p8] by first | exact R9.out.step hB | exact R9.out.drew.step hB); clear hB; clear s0 x0 x1 r0 r1 r2 r3 r4 r5 r6 r7 r8; obtain ⟨s0, x0, x1, r0, r1, r2, r3, r4, r5, r6, r7, r8⟩ := QF.out _ Ra.out)))
  all_goals go_ret
  all_goals (exact ⟨rfl, by first | exact Ra.out.1.1.2.1 | exact Ra.out.1.1.2.1.drew⟩)
set_option maxRecDepth 100000 in
set_option maxHeartbeats 8000000 in
theorem verifyset_key2 (L : List Rn) (p : Option Addr) (cap : Nat) (so D q dk o0 xd Fm T p0 p1 p2 p3 p4 p5 p6 p7 p8 : ByteArray) (sc sl now lo xc xl : Int) (t0 c0 v2 v4 v5 v6 v8 tg n e pw fg : Nat) (w : World) (hp : 0 < L.length) (nl : Nat) (hnl : 0 < nl) (hat : RsAt w p L) (hx0 : L[0] = ⟨o0, (t0 : Int), xc, xl, xd⟩)
    (HS : Hid (∀ W : World, RsAt W p L → Calls Tryz.prog 35 #[.slice p nl cap] W fun r w' => r = .returned (.bool true) ∧ Below W.heap.size W w'))
    (HZ : Hid (∀ W : World, Calls Tryz.prog 51 #[.agg #[.string so, .int .i64 46, .int .i64 sc, .int .i64 sl, .string D]] W fun r w' => r = .returned (.bool true) ∧ Below W.heap.size W w'))
    (HF : Hid (∀ W : World, Calls Tryz.prog 53 #[.int .i64 46] W fun r w' => r = .returned (.string Fm) ∧ w' = W))
    (HP : Hid (∀ W : World, Calls Tryz.prog 52 #[.string Fm, .string D] W fun r w' => ∃ gp op cp, r = .returned (.tuple #[.slice (some ⟨gp, op, none⟩) 9 cp, .bool true]) ∧ Pt w' gp op [p0, p1, p2, p3, p4, p5, p6, p7, p8] ∧ Below W.heap.size W w'))
    (HV0 : Hid (∀ W : World, Calls Tryz.prog 54 #[.string p0] W fun r w' => r = .returned (.int .i64 (t0 : Int)) ∧ w' = W))
    (HE : Hid (∀ W : World, Calls Tryz.prog 55 #[.string so, .string o0] W fun r w' => r = .returned (.bool true) ∧ Below W.heap.size W w'))
    (HW : Hid (∀ W : World, Calls Tryz.prog 36 #[.string o0, .string p7] W fun r w' => r = .returned (.bool true) ∧ Below W.heap.size W w'))
    (HQ : Hid (∀ W : World, Calls Tryz.prog 55 #[.string q, .string p7] W fun r w' => r = .returned (.bool true) ∧ Below W.heap.size W w'))
    (HK : Hid (∀ W : World, Calls Tryz.prog 56 #[.string dk] W fun r w' => r = .returned (.bool true) ∧ Below W.heap.size W w')) (hp1 : ¬ p1.toList = [253]) :
    Calls Tryz.prog 12 #[.slice p nl cap, .agg #[.string so, .int .i64 46, .int .i64 sc, .int .i64 sl, .string D], .string q, .string dk, .int .i64 now] w fun r w' => r = .returned (.int .i64 24) ∧ Below w.heap.size w w' := by
  obtain ⟨W0, hW0⟩ : ∃ W0, w.alloc (.cells #[.string so, .int .i64 46, .int .i64 sc, .int .i64 sl, .string D] 27) = W0 := ⟨_, rfl⟩
  have V0 := hide' (Vs.start w #[.string so, .int .i64 46, .int .i64 sc, .int .i64 sl, .string D] p L hat)
  rw [hW0] at V0
  have HFI : Hid (∀ V : World, RsAt V p L → ∃ g off, p = some ⟨g, off, none⟩ ∧ V.cell? ⟨g, off, none⟩ = some (.string o0) ∧ V.cell? ⟨g, off + 1, none⟩ = some (.int .i64 (t0 : Int)) ∧ V.cell? ⟨g, off + 2, none⟩ = some (.int .i64 xc) ∧ V.cell? ⟨g, off + 3, none⟩ = some (.int .i64 xl) ∧ V.cell? ⟨g, off + 4, none⟩ = some (.string xd)) := fun V hV => by
    obtain ⟨g, off, hp2, hg, e0, e1, e2, e3, e4⟩ := hV 0 hp
    rw [Nat.zero_mul, Nat.add_zero, hx0] at e0 e1 e2 e3 e4
    exact ⟨g, off, hp2, e0, e1, e2, e3, e4⟩
  obtain ⟨b0, off, hpp, -⟩ := HFI.out _ hat
  subst hpp
  have HF2 : Hid (∀ V : World, RsAt V (some ⟨b0, off, none⟩) L → V.cell? ⟨b0, off, none⟩ = some (.string o0) ∧ V.cell? ⟨b0, off + 1, none⟩ = some (.int .i64 (t0 : Int)) ∧ V.cell? ⟨b0, off + 2, none⟩ = some (.int .i64 xc) ∧ V.cell? ⟨b0, off + 3, none⟩ = some (.int .i64 xl) ∧ V.cell? ⟨b0, off + 4, none⟩ = some (.string xd)) := fun V hV => by
    obtain ⟨g', off', hg, e0, e1, e2, e3, e4⟩ := HFI.out V hV
    injection hg with hg; injection hg with h1 h2; subst h1; subst h2
    exact ⟨e0, e1, e2, e3, e4⟩
  have hpi : ¬ (nl : Int) = 0 := by omega
  have hpj : (0 : Int) < (nl : Int) := by omega
  have HC : Hid (∀ V : World, Vs w V #[.string so, .int .i64 46, .int .i64 sc, .int .i64 sl, .string D] (some ⟨b0, off, none⟩) L → V.cell? ⟨w.heap.size, 0, none⟩ = some (.string so) ∧ V.cell? ⟨w.heap.size, 1, none⟩ = some (.int .i64 46) ∧ V.cell? ⟨w.heap.size, 2, none⟩ = some (.int .i64 sc) ∧ V.cell? ⟨w.heap.size, 3, none⟩ = some (.int .i64 sl) ∧ V.cell? ⟨w.heap.size, 4, none⟩ = some (.string D)) := fun V h => ⟨h.1.cell rfl, h.1.cell rfl, h.1.cell rfl, h.1.cell rfl, h.1.cell rfl⟩
  clear HFI hat hx0 hp
  go_enter Tryz.func12, Tryz.ntmps12
  go_wp2_with (first
    | (go_at_call 35; refine (HS.out _ V0.out.2.2).mono ?_; rintro r w1 ⟨rfl, hB⟩; have V1 := hide' (V0.out.step hB); clear hB; obtain ⟨s0, s1, s2, s3, s4⟩ := HC.out _ V1.out)
    | (go_at_call 51; refine (HZ.out _).mono ?_; rintro r w2 ⟨rfl, hB⟩; have V2 := hide' (V1.out.step hB); clear hB s0 s1 s2 s3 s4; obtain ⟨s0, s1, s2, s3, s4⟩ := HC.out _ V2.out))
  go_region_held3 (fun V => V.cell? ⟨w.heap.size, 4, none⟩ = some (.string D)) (first | go_keep | exact R4.out.1.1.cell rfl | exact V3.out.1.cell rfl) (first
    | (go_at_call 53; refine (HF.out _).mono ?_; rintro r w3 ⟨rfl, hwa⟩; have V3 := hide' (show Vs w w3 #[.string so, .int .i64 46, .int .i64 sc, .int .i64 sl, .string D] (some ⟨b0, off, none⟩) L by first | (rw [hwa]; exact V2.out) | (rw [hwa]; exact V2.out.drew)); clear hwa)
    | (go_at_call 52; refine (HP.out _).mono ?_; rintro r w4 ⟨gp, op, cp, rfl, hpt, hB⟩; have R4 := hide' (show Rw w w4 #[.string so, .int .i64 46, .int .i64 sc, .int .i64 sl, .string D] (some ⟨b0, off, none⟩) L gp op [p0, p1, p2, p3, p4, p5, p6, p7, p8] from ⟨by first | exact V3.out.step hB | exact V3.out.drew.step hB, hpt⟩); clear hB hpt))
  clear s0 s1 s2 s3 s4 V0 V1 V2 V3 HS HZ HF HP HC
  obtain ⟨e0, e1, e2, e3, e4⟩ := HF2.out _ R4.out.1.2.2
  have R5 := hide' (Rx.start R4.out #[.string o0, .int .i64 (t0 : Int), .int .i64 xc, .int .i64 xl, .string xd])
  go_wp2_with fail
  obtain ⟨W5, hW5⟩ : ∃ W5, w4.alloc (.cells #[.string o0, .int .i64 (t0 : Int), .int .i64 xc, .int .i64 xl, .string xd] 27) = W5 := ⟨_, rfl⟩
  obtain ⟨X, hX⟩ : ∃ X, w4.heap.size = X := ⟨_, rfl⟩
  rw [hW5, hX] at R5
  simp only [hW5, hX]
  clear hW5 hX hW0 R4 e0 e1 e2 e3 e4 HF2
  have QF : Hid (∀ V : World, Rx w V X #[.string so, .int .i64 46, .int .i64 sc, .int .i64 sl, .string D] #[.string o0, .int .i64 (t0 : Int), .int .i64 xc, .int .i64 xl, .string xd] (some ⟨b0, off, none⟩) L gp op [p0, p1, p2, p3, p4, p5, p6, p7, p8] → V.cell? ⟨w.heap.size, 0, none⟩ = some (.string so) ∧ V.cell? ⟨X, 0, none⟩ = some (.string o0) ∧ V.cell? ⟨X, 1, none⟩ = some (.int .i64 (t0 : Int)) ∧ V.cell? ⟨gp, op, none⟩ = some (.string p0) ∧ V.cell? ⟨gp, op + 1, none⟩ = some (.string p1) ∧ V.cell? ⟨gp, op + 2, none⟩ = some (.string p2) ∧ V.cell? ⟨gp, op + 3, none⟩ = some (.string p3) ∧ V.cell? ⟨gp, op + 4, none⟩ = some (.string p4) ∧ V.cell? ⟨gp, op + 5, none⟩ = some (.string p5) ∧ V.cell? ⟨gp, op + 6, none⟩ = some (.string p6) ∧ V.cell? ⟨gp, op + 7, none⟩ = some (.string p7) ∧ V.cell? ⟨gp, op + 8, none⟩ = some (.string p8)) := fun V h => ⟨h.1.1.1.cell rfl, h.2.cell rfl, h.2.cell rfl, h.1.2.2 0 (by simp), h.1.2.2 1 (by simp), h.1.2.2 2 (by simp), h.1.2.2 3 (by simp), h.1.2.2 4 (by simp), h.1.2.2 5 (by simp), h.1.2.2 6 (by simp), h.1.2.2 7 (by simp), h.1.2.2 8 (by simp)⟩
  obtain ⟨s0, x0, x1, r0, r1, r2, r3, r4, r5, r6, r7, r8⟩ := QF.out _ R5.out
  all_goals (go_region_held3 (fun V => V.cell? ⟨gp, op, none⟩ = some (.string p0) ∧ V.cell? ⟨X, 1, none⟩ = some (.int .i64 (t0 : Int))) (first | go_keep | exact ⟨R6.out.1.2.2 0 (by simp), R6.out.2.cell rfl⟩) (first
    | (go_at_call 54; refine (HV0.out _).mono ?_; rintro r w6 ⟨rfl, hwa⟩; have R6 := hide' (show Rx w w6 X #[.string so, .int .i64 46, .int .i64 sc, .int .i64 sl, .string D] #[.string o0, .int .i64 (t0 : Int), .int .i64 xc, .int .i64 xl, .string xd] (some ⟨b0, off, none⟩) L gp op [p0, p1, p2, p3, p4, p5, p6, p7, p8] by first | (rw [hwa]; exact R5.out) | (rw [hwa]; exact R5.out.drew)); clear hwa)))
  all_goals (clear s0 x0 x1 r0 r1 r2 r3 r4 r5 r6 r7 r8)
  all_goals (obtain ⟨s0, x0, x1, r0, r1, r2, r3, r4, r5, r6, r7, r8⟩ := QF.out _ R6.out)
  all_goals (go_wp2_with fail)
  all_goals (go_region_held3 (fun V => V.cell? ⟨w.heap.size, 0, none⟩ = some (.string so) ∧ V.cell? ⟨X, 0, none⟩ = some (.string o0) ∧ V.cell? ⟨gp, op + 7, none⟩ = some (.string p7)) (first | go_keep | exact ⟨R8.out.1.1.1.cell rfl, R8.out.2.cell rfl, R8.out.1.2.2 7 (by simp)⟩ | exact ⟨R7.out.1.1.1.cell rfl, R7.out.2.cell rfl, R7.out.1.2.2 7 (by simp)⟩) (first
    | (go_at_call 55; refine (HE.out _).mono ?_; rintro r w7 ⟨rfl, hB⟩; have R7 := hide' (show Rx w w7 X #[.string so, .int .i64 46, .int .i64 sc, .int .i64 sl, .string D] #[.string o0, .int .i64 (t0 : Int), .int .i64 xc, .int .i64 xl, .string xd] (some ⟨b0, off, none⟩) L gp op [p0, p1, p2, p3, p4, p5, p6, p7, p8] by first | exact R6.out.step hB | exact R6.out.drew.step hB); clear hB)
    | (go_at_call 36; refine (HW.out _).mono ?_; rintro r w8 ⟨rfl, hB⟩; have R8 := hide' (show Rx w w8 X #[.string so, .int .i64 46, .int .i64 sc, .int .i64 sl, .string D] #[.string o0, .int .i64 (t0 : Int), .int .i64 xc, .int .i64 xl, .string xd] (some ⟨b0, off, none⟩) L gp op [p0, p1, p2, p3, p4, p5, p6, p7, p8] by first | exact R7.out.step hB | exact R7.out.drew.step hB); clear hB)))
  all_goals (clear s0 x0 x1 r0 r1 r2 r3 r4 r5 r6 r7 r8)
  all_goals (obtain ⟨s0, x0, x1, r0, r1, r2, r3, r4, r5, r6, r7, r8⟩ := QF.out _ R8.out)
  all_goals (go_wp2_with (first
    | (go_at_call 55; refine (HQ.out _).mono ?_; rintro r w9 ⟨rfl, hB⟩; have R9 := hide' (show Rx w w9 X #[.string so, .int .i64 46, .int .i64 sc, .int .i64 sl, .string D] #[.string o0, .int .i64 (t0 : Int), .int .i64 xc, .int .i64 xl, .string xd] (some ⟨b0, off, none⟩) L gp op [p0, p1, p2, p3, p4, p5, p6, p7, p8] by first | exact R8.out.step hB | exact R8.out.drew.step hB); clear hB; clear s0 x0 x1 r0 r1 r2 r3 r4 r5 r6 r7 r8; obtain ⟨s0, x0, x1, r0, r1, r2, r3, r4, r5, r6, r7, r8⟩ := QF.out _ R9.out)
    | (go_at_call 56; refine (HK.out _).mono ?_; rintro r wa ⟨rfl, hB⟩; have Ra := hide' (show Rx w wa X #[.string so, .int .i64 46, .int .i64 sc, .int .i64 sl, .string D] #[.string o0, .int .i64 (t0 : Int), .int .i64 xc, .int .i64 xl, .string xd] (some ⟨b0, off, none⟩) L gp op [p0, p1, p2, p3, p4, p5, p6, p7, p8] by first | exact R9.out.step hB | exact R9.out.drew.step hB); clear hB; clear s0 x0 x1 r0 r1 r2 r3 r4 r5 r6 r7 r8; obtain ⟨s0, x0, x1, r0, r1, r2, r3, r4, r5, r6, r7, r8⟩ := QF.out _ Ra.out)))
  all_goals go_ret
  all_goals (exact ⟨rfl, by first | exact Ra.out.1.1.2.1 | exact Ra.out.1.1.2.1.drew⟩)
set_option maxRecDepth 100000 in
set_option maxHeartbeats 8000000 in
theorem verifyset_key3 (L : List Rn) (p : Option Addr) (cap : Nat) (so D q dk o0 xd Fm T p0 p1 p2 p3 p4 p5 p6 p7 p8 : ByteArray) (sc sl now lo xc xl : Int) (t0 c0 v2 v4 v5 v6 v8 tg n e pw fg : Nat) (w : World) (hp : 0 < L.length) (nl : Nat) (hnl : 0 < nl) (hat : RsAt w p L) (hx0 : L[0] = ⟨o0, (t0 : Int), xc, xl, xd⟩)
    (HS : Hid (∀ W : World, RsAt W p L → Calls Tryz.prog 35 #[.slice p nl cap] W fun r w' => r = .returned (.bool true) ∧ Below W.heap.size W w'))
    (HZ : Hid (∀ W : World, Calls Tryz.prog 51 #[.agg #[.string so, .int .i64 46, .int .i64 sc, .int .i64 sl, .string D]] W fun r w' => r = .returned (.bool true) ∧ Below W.heap.size W w'))
    (HF : Hid (∀ W : World, Calls Tryz.prog 53 #[.int .i64 46] W fun r w' => r = .returned (.string Fm) ∧ w' = W))
    (HP : Hid (∀ W : World, Calls Tryz.prog 52 #[.string Fm, .string D] W fun r w' => ∃ gp op cp, r = .returned (.tuple #[.slice (some ⟨gp, op, none⟩) 9 cp, .bool true]) ∧ Pt w' gp op [p0, ⟨#[253]⟩, p2, p3, p4, p5, p6, p7, p8] ∧ Below W.heap.size W w'))
    (HV0 : Hid (∀ W : World, Calls Tryz.prog 54 #[.string p0] W fun r w' => r = .returned (.int .i64 (t0 : Int)) ∧ w' = W))
    (HE : Hid (∀ W : World, Calls Tryz.prog 55 #[.string so, .string o0] W fun r w' => r = .returned (.bool true) ∧ Below W.heap.size W w'))
    (HW : Hid (∀ W : World, Calls Tryz.prog 36 #[.string o0, .string p7] W fun r w' => r = .returned (.bool true) ∧ Below W.heap.size W w'))
    (HQ : Hid (∀ W : World, Calls Tryz.prog 55 #[.string q, .string p7] W fun r w' => r = .returned (.bool true) ∧ Below W.heap.size W w'))
    (HK : Hid (∀ W : World, Calls Tryz.prog 56 #[.string dk] W fun r w' => r = .returned (.bool true) ∧ Below W.heap.size W w'))
    (HV6 : Hid (∀ W : World, Calls Tryz.prog 54 #[.string p6] W fun r w' => r = .returned (.int .i64 (v6 : Int)) ∧ w' = W))
    (HT : Hid (∀ W : World, Calls Tryz.prog 39 #[.string dk] W fun r w' => r = .returned (.int .i64 (tg : Int)) ∧ w' = W)) (htg : ¬ v6 = tg) :
    Calls Tryz.prog 12 #[.slice p nl cap, .agg #[.string so, .int .i64 46, .int .i64 sc, .int .i64 sl, .string D], .string q, .string dk, .int .i64 now] w fun r w' => r = .returned (.int .i64 24) ∧ Below w.heap.size w w' := by
  have hti : ¬ (v6 : Int) = (tg : Int) := by omega
  obtain ⟨W0, hW0⟩ : ∃ W0, w.alloc (.cells #[.string so, .int .i64 46, .int .i64 sc, .int .i64 sl, .string D] 27) = W0 := ⟨_, rfl⟩
  have V0 := hide' (Vs.start w #[.string so, .int .i64 46, .int .i64 sc, .int .i64 sl, .string D] p L hat)
  rw [hW0] at V0
  have HFI : Hid (∀ V : World, RsAt V p L → ∃ g off, p = some ⟨g, off, none⟩ ∧ V.cell? ⟨g, off, none⟩ = some (.string o0) ∧ V.cell? ⟨g, off + 1, none⟩ = some (.int .i64 (t0 : Int)) ∧ V.cell? ⟨g, off + 2, none⟩ = some (.int .i64 xc) ∧ V.cell? ⟨g, off + 3, none⟩ = some (.int .i64 xl) ∧ V.cell? ⟨g, off + 4, none⟩ = some (.string xd)) := fun V hV => by
    obtain ⟨g, off, hp2, hg, e0, e1, e2, e3, e4⟩ := hV 0 hp
    rw [Nat.zero_mul, Nat.add_zero, hx0] at e0 e1 e2 e3 e4
    exact ⟨g, off, hp2, e0, e1, e2, e3, e4⟩
  obtain ⟨b0, off, hpp, -⟩ := HFI.out _ hat
  subst hpp
  have HF2 : Hid (∀ V : World, RsAt V (some ⟨b0, off, none⟩) L → V.cell? ⟨b0, off, none⟩ = some (.string o0) ∧ V.cell? ⟨b0, off + 1, none⟩ = some (.int .i64 (t0 : Int)) ∧ V.cell? ⟨b0, off + 2, none⟩ = some (.int .i64 xc) ∧ V.cell? ⟨b0, off + 3, none⟩ = some (.int .i64 xl) ∧ V.cell? ⟨b0, off + 4, none⟩ = some (.string xd)) := fun V hV => by
    obtain ⟨g', off', hg, e0, e1, e2, e3, e4⟩ := HFI.out V hV
    injection hg with hg; injection hg with h1 h2; subst h1; subst h2
    exact ⟨e0, e1, e2, e3, e4⟩
  have hpi : ¬ (nl : Int) = 0 := by omega
  have hpj : (0 : Int) < (nl : Int) := by omega
  have HC : Hid (∀ V : World, Vs w V #[.string so, .int .i64 46, .int .i64 sc, .int .i64 sl, .string D] (some ⟨b0, off, none⟩) L → V.cell? ⟨w.heap.size, 0, none⟩ = some (.string so) ∧ V.cell? ⟨w.heap.size, 1, none⟩ = some (.int .i64 46) ∧ V.cell? ⟨w.heap.size, 2, none⟩ = some (.int .i64 sc) ∧ V.cell? ⟨w.heap.size, 3, none⟩ = some (.int .i64 sl) ∧ V.cell? ⟨w.heap.size, 4, none⟩ = some (.string D)) := fun V h => ⟨h.1.cell rfl, h.1.cell rfl, h.1.cell rfl, h.1.cell rfl, h.1.cell rfl⟩
  clear HFI hat hx0 hp
  go_enter Tryz.func12, Tryz.ntmps12
  go_wp2_with (first
    | (go_at_call 35; refine (HS.out _ V0.out.2.2).mono ?_; rintro r w1 ⟨rfl, hB⟩; have V1 := hide' (V0.out.step hB); clear hB; obtain ⟨s0, s1, s2, s3, s4⟩ := HC.out _ V1.out)
    | (go_at_call 51; refine (HZ.out _).mono ?_; rintro r w2 ⟨rfl, hB⟩; have V2 := hide' (V1.out.step hB); clear hB s0 s1 s2 s3 s4; obtain ⟨s0, s1, s2, s3, s4⟩ := HC.out _ V2.out))
  go_region_held3 (fun V => V.cell? ⟨w.heap.size, 4, none⟩ = some (.string D)) (first | go_keep | exact R4.out.1.1.cell rfl | exact V3.out.1.cell rfl) (first
    | (go_at_call 53; refine (HF.out _).mono ?_; rintro r w3 ⟨rfl, hwa⟩; have V3 := hide' (show Vs w w3 #[.string so, .int .i64 46, .int .i64 sc, .int .i64 sl, .string D] (some ⟨b0, off, none⟩) L by first | (rw [hwa]; exact V2.out) | (rw [hwa]; exact V2.out.drew)); clear hwa)
    | (go_at_call 52; refine (HP.out _).mono ?_; rintro r w4 ⟨gp, op, cp, rfl, hpt, hB⟩; have R4 := hide' (show Rw w w4 #[.string so, .int .i64 46, .int .i64 sc, .int .i64 sl, .string D] (some ⟨b0, off, none⟩) L gp op [p0, ⟨#[253]⟩, p2, p3, p4, p5, p6, p7, p8] from ⟨by first | exact V3.out.step hB | exact V3.out.drew.step hB, hpt⟩); clear hB hpt))
  clear s0 s1 s2 s3 s4 V0 V1 V2 V3 HS HZ HF HP HC
  obtain ⟨e0, e1, e2, e3, e4⟩ := HF2.out _ R4.out.1.2.2
  have R5 := hide' (Rx.start R4.out #[.string o0, .int .i64 (t0 : Int), .int .i64 xc, .int .i64 xl, .string xd])
  go_wp2_with fail
  obtain ⟨W5, hW5⟩ : ∃ W5, w4.alloc (.cells #[.string o0, .int .i64 (t0 : Int), .int .i64 xc, .int .i64 xl, .string xd] 27) = W5 := ⟨_, rfl⟩
  obtain ⟨X, hX⟩ : ∃ X, w4.heap.size = X := ⟨_, rfl⟩
  rw [hW5, hX] at R5
  simp only [hW5, hX]
  clear hW5 hX hW0 R4 e0 e1 e2 e3 e4 HF2
  have QF : Hid (∀ V : World, Rx w V X #[.string so, .int .i64 46, .int .i64 sc, .int .i64 sl, .string D] #[.string o0, .int .i64 (t0 : Int), .int .i64 xc, .int .i64 xl, .string xd] (some ⟨b0, off, none⟩) L gp op [p0, ⟨#[253]⟩, p2, p3, p4, p5, p6, p7, p8] → V.cell? ⟨w.heap.size, 0, none⟩ = some (.string so) ∧ V.cell? ⟨X, 0, none⟩ = some (.string o0) ∧ V.cell? ⟨X, 1, none⟩ = some (.int .i64 (t0 : Int)) ∧ V.cell? ⟨gp, op, none⟩ = some (.string p0) ∧ V.cell? ⟨gp, op + 1, none⟩ = some (.string ⟨#[253]⟩) ∧ V.cell? ⟨gp, op + 2, none⟩ = some (.string p2) ∧ V.cell? ⟨gp, op + 3, none⟩ = some (.string p3) ∧ V.cell? ⟨gp, op + 4, none⟩ = some (.string p4) ∧ V.cell? ⟨gp, op + 5, none⟩ = some (.string p5) ∧ V.cell? ⟨gp, op + 6, none⟩ = some (.string p6) ∧ V.cell? ⟨gp, op + 7, none⟩ = some (.string p7) ∧ V.cell? ⟨gp, op + 8, none⟩ = some (.string p8)) := fun V h => ⟨h.1.1.1.cell rfl, h.2.cell rfl, h.2.cell rfl, h.1.2.2 0 (by simp), h.1.2.2 1 (by simp), h.1.2.2 2 (by simp), h.1.2.2 3 (by simp), h.1.2.2 4 (by simp), h.1.2.2 5 (by simp), h.1.2.2 6 (by simp), h.1.2.2 7 (by simp), h.1.2.2 8 (by simp)⟩
  obtain ⟨s0, x0, x1, r0, r1, r2, r3, r4, r5, r6, r7, r8⟩ := QF.out _ R5.out
  all_goals (go_region_held3 (fun V => V.cell? ⟨gp, op, none⟩ = some (.string p0) ∧ V.cell? ⟨X, 1, none⟩ = some (.int .i64 (t0 : Int))) (first | go_keep | exact ⟨R6.out.1.2.2 0 (by simp), R6.out.2.cell rfl⟩) (first
    | (go_at_call 54; refine (HV0.out _).mono ?_; rintro r w6 ⟨rfl, hwa⟩; have R6 := hide' (show Rx w w6 X #[.string so, .int .i64 46, .int .i64 sc, .int .i64 sl, .string D] #[.string o0, .int .i64 (t0 : Int), .int .i64 xc, .int .i64 xl, .string xd] (some ⟨b0, off, none⟩) L gp op [p0, ⟨#[253]⟩, p2, p3, p4, p5, p6, p7, p8] by first | (rw [hwa]; exact R5.out) | (rw [hwa]; exact R5.out.drew)); clear hwa)))
  all_goals (clear s0 x0 x1 r0 r1 r2 r3 r4 r5 r6 r7 r8)
  all_goals (obtain ⟨s0, x0, x1, r0, r1, r2, r3, r4, r5, r6, r7, r8⟩ := QF.out _ R6.out)
  all_goals (go_wp2_with fail)
  all_goals (go_region_held3 (fun V => V.cell? ⟨w.heap.size, 0, none⟩ = some (.string so) ∧ V.cell? ⟨X, 0, none⟩ = some (.string o0) ∧ V.cell? ⟨gp, op + 7, none⟩ = some (.string p7)) (first | go_keep | exact ⟨R8.out.1.1.1.cell rfl, R8.out.2.cell rfl, R8.out.1.2.2 7 (by simp)⟩ | exact ⟨R7.out.1.1.1.cell rfl, R7.out.2.cell rfl, R7.out.1.2.2 7 (by simp)⟩) (first
    | (go_at_call 55; refine (HE.out _).mono ?_; rintro r w7 ⟨rfl, hB⟩; have R7 := hide' (show Rx w w7 X #[.string so, .int .i64 46, .int .i64 sc, .int .i64 sl, .string D] #[.string o0, .int .i64 (t0 : Int), .int .i64 xc, .int .i64 xl, .string xd] (some ⟨b0, off, none⟩) L gp op [p0, ⟨#[253]⟩, p2, p3, p4, p5, p6, p7, p8] by first | exact R6.out.step hB | exact R6.out.drew.step hB); clear hB)
    | (go_at_call 36; refine (HW.out _).mono ?_; rintro r w8 ⟨rfl, hB⟩; have R8 := hide' (show Rx w w8 X #[.string so, .int .i64 46, .int .i64 sc, .int .i64 sl, .string D] #[.string o0, .int .i64 (t0 : Int), .int .i64 xc, .int .i64 xl, .string xd] (some ⟨b0, off, none⟩) L gp op [p0, ⟨#[253]⟩, p2, p3, p4, p5, p6, p7, p8] by first | exact R7.out.step hB | exact R7.out.drew.step hB); clear hB)))
  all_goals (clear s0 x0 x1 r0 r1 r2 r3 r4 r5 r6 r7 r8)
  all_goals (obtain ⟨s0, x0, x1, r0, r1, r2, r3, r4, r5, r6, r7, r8⟩ := QF.out _ R8.out)
  all_goals (go_wp2_with (first
    | (go_at_call 55; refine (HQ.out _).mono ?_; rintro r w9 ⟨rfl, hB⟩; have R9 := hide' (show Rx w w9 X #[.string so, .int .i64 46, .int .i64 sc, .int .i64 sl, .string D] #[.string o0, .int .i64 (t0 : Int), .int .i64 xc, .int .i64 xl, .string xd] (some ⟨b0, off, none⟩) L gp op [p0, ⟨#[253]⟩, p2, p3, p4, p5, p6, p7, p8] by first | exact R8.out.step hB | exact R8.out.drew.step hB); clear hB; clear s0 x0 x1 r0 r1 r2 r3 r4 r5 r6 r7 r8; obtain ⟨s0, x0, x1, r0, r1, r2, r3, r4, r5, r6, r7, r8⟩ := QF.out _ R9.out)
    | (go_at_call 56; refine (HK.out _).mono ?_; rintro r wa ⟨rfl, hB⟩; have Ra := hide' (show Rx w wa X #[.string so, .int .i64 46, .int .i64 sc, .int .i64 sl, .string D] #[.string o0, .int .i64 (t0 : Int), .int .i64 xc, .int .i64 xl, .string xd] (some ⟨b0, off, none⟩) L gp op [p0, ⟨#[253]⟩, p2, p3, p4, p5, p6, p7, p8] by first | exact R9.out.step hB | exact R9.out.drew.step hB); clear hB; clear s0 x0 x1 r0 r1 r2 r3 r4 r5 r6 r7 r8; obtain ⟨s0, x0, x1, r0, r1, r2, r3, r4, r5, r6, r7, r8⟩ := QF.out _ Ra.out)
    | (go_at_call 54; refine (HV6.out _).mono ?_; rintro r wv ⟨rfl, rfl⟩)
    | (go_at_call 39; refine (HT.out _).mono ?_; rintro r wv ⟨rfl, rfl⟩)))
  all_goals go_ret
  all_goals (exact ⟨rfl, by first | exact Ra.out.1.1.2.1 | exact Ra.out.1.1.2.1.drew⟩)
end Go.Proofs.YtennkhdhnbdbeaaGreat

/-
  gazetteerref4.VerifySet, behind its parts. (The verifier's own text.)
-/
namespace Go.Proofs.YtennkhdhnbdbeaaGreat
set_option linter.unusedVariables false
set_option linter.unusedSimpArgs false
open Go.RowKit Go.Shelf Go.Sort Go.Proofs.YtennkhdhnbdbeaaGreat.Nm

set_option maxRecDepth 100000 in
set_option maxHeartbeats 8000000 in
theorem verifyset_label (L : List Rn) (p : Option Addr) (cap : Nat) (so D q dk o0 xd Fm T p0 p1 p2 p3 p4 p5 p6 p7 p8 : ByteArray) (sc sl now lo xc xl : Int) (t0 c0 v2 v4 v5 v6 v8 tg n e pw fg : Nat) (w : World) (hp : 0 < L.length) (nl : Nat) (hnl : 0 < nl) (hat : RsAt w p L) (hx0 : L[0] = ⟨o0, (t0 : Int), xc, xl, xd⟩)
    (HS : Hid (∀ W : World, RsAt W p L → Calls Tryz.prog 35 #[.slice p nl cap] W fun r w' => r = .returned (.bool true) ∧ Below W.heap.size W w'))
    (HZ : Hid (∀ W : World, Calls Tryz.prog 51 #[.agg #[.string so, .int .i64 46, .int .i64 sc, .int .i64 sl, .string D]] W fun r w' => r = .returned (.bool true) ∧ Below W.heap.size W w'))
    (HF : Hid (∀ W : World, Calls Tryz.prog 53 #[.int .i64 46] W fun r w' => r = .returned (.string Fm) ∧ w' = W))
    (HP : Hid (∀ W : World, Calls Tryz.prog 52 #[.string Fm, .string D] W fun r w' => ∃ gp op cp, r = .returned (.tuple #[.slice (some ⟨gp, op, none⟩) 9 cp, .bool true]) ∧ Pt w' gp op [p0, ⟨#[253]⟩, p2, p3, p4, p5, p6, p7, p8] ∧ Below W.heap.size W w'))
    (HV0 : Hid (∀ W : World, Calls Tryz.prog 54 #[.string p0] W fun r w' => r = .returned (.int .i64 (t0 : Int)) ∧ w' = W))
    (HE : Hid (∀ W : World, Calls Tryz.prog 55 #[.string so, .string o0] W fun r w' => r = .returned (.bool true) ∧ Below W.heap.size W w'))
    (HW : Hid (∀ W : World, Calls Tryz.prog 36 #[.string o0, .string p7] W fun r w' => r = .returned (.bool true) ∧ Below W.heap.size W w'))
    (HQ : Hid (∀ W : World, Calls Tryz.prog 55 #[.string q, .string p7] W fun r w' => r = .returned (.bool true) ∧ Below W.heap.size W w'))
    (HK : Hid (∀ W : World, Calls Tryz.prog 56 #[.string dk] W fun r w' => r = .returned (.bool true) ∧ Below W.heap.size W w'))
    (HV6 : Hid (∀ W : World, Calls Tryz.prog 54 #[.string p6] W fun r w' => r = .returned (.int .i64 (v6 : Int)) ∧ w' = W))
    (HT : Hid (∀ W : World, Calls Tryz.prog 39 #[.string dk] W fun r w' => r = .returned (.int .i64 (v6 : Int)) ∧ w' = W))
    (HV2 : Hid (∀ W : World, Calls Tryz.prog 54 #[.string p2] W fun r w' => r = .returned (.int .i64 (v2 : Int)) ∧ w' = W))
    (HL : Hid (∀ W : World, Calls Tryz.prog 38 #[.string o0] W fun r w' => r = .returned (.int .i64 lo) ∧ Below W.heap.size W w')) (hlo : lo < (v2 : Int)) :
    Calls Tryz.prog 12 #[.slice p nl cap, .agg #[.string so, .int .i64 46, .int .i64 sc, .int .i64 sl, .string D], .string q, .string dk, .int .i64 now] w fun r w' => r = .returned (.int .i64 3) ∧ Below w.heap.size w w' := by
  obtain ⟨W0, hW0⟩ : ∃ W0, w.alloc (.cells #[.string so, .int .i64 46, .int .i64 sc, .int .i64 sl, .string D] 27) = W0 := ⟨_, rfl⟩
  have V0 := hide' (Vs.start w #[.string so, .int .i64 46, .int .i64 sc, .int .i64 sl, .string D] p L hat)
  rw [hW0] at V0
  have HFI : Hid (∀ V : World, RsAt V p L → ∃ g off, p = some ⟨g, off, none⟩ ∧ V.cell? ⟨g, off, none⟩ = some (.string o0) ∧ V.cell? ⟨g, off + 1, none⟩ = some (.int .i64 (t0 : Int)) ∧ V.cell? ⟨g, off + 2, none⟩ = some (.int .i64 xc) ∧ V.cell? ⟨g, off + 3, none⟩ = some (.int .i64 xl) ∧ V.cell? ⟨g, off + 4, none⟩ = some (.string xd)) := fun V hV => by
    obtain ⟨g, off, hp2, hg, e0, e1, e2, e3, e4⟩ := hV 0 hp
    rw [Nat.zero_mul, Nat.add_zero, hx0] at e0 e1 e2 e3 e4
    exact ⟨g, off, hp2, e0, e1, e2, e3, e4⟩
  obtain ⟨b0, off, hpp, -⟩ := HFI.out _ hat
  subst hpp
  have HF2 : Hid (∀ V : World, RsAt V (some ⟨b0, off, none⟩) L → V.cell? ⟨b0, off, none⟩ = some (.string o0) ∧ V.cell? ⟨b0, off + 1, none⟩ = some (.int .i64 (t0 : Int)) ∧ V.cell? ⟨b0, off + 2, none⟩ = some (.int .i64 xc) ∧ V.cell? ⟨b0, off + 3, none⟩ = some (.int .i64 xl) ∧ V.cell? ⟨b0, off + 4, none⟩ = some (.string xd)) := fun V hV => by
    obtain ⟨g', off', hg, e0, e1, e2, e3, e4⟩ := HFI.out V hV
    injection hg with hg; injection hg with h1 h2; subst h1; subst h2
    exact ⟨e0, e1, e2, e3, e4⟩
  have hpi : ¬ (nl : Int) = 0 := by omega
  have hpj : (0 : Int) < (nl : Int) := by omega
  have HC : Hid (∀ V : World, Vs w V #[.string so, .int .i64 46, .int .i64 sc, .int .i64 sl, .string D] (some ⟨b0, off, none⟩) L → V.cell? ⟨w.heap.size, 0, none⟩ = some (.string so) ∧ V.cell? ⟨w.heap.size, 1, none⟩ = some (.int .i64 46) ∧ V.cell? ⟨w.heap.size, 2, none⟩ = some (.int .i64 sc) ∧ V.cell? ⟨w.heap.size, 3, none⟩ = some (.int .i64 sl) ∧ V.cell? ⟨w.heap.size, 4, none⟩ = some (.string D)) := fun V h => ⟨h.1.cell rfl, h.1.cell rfl, h.1.cell rfl, h.1.cell rfl, h.1.cell rfl⟩
  clear HFI hat hx0 hp
  go_enter Tryz.func12, Tryz.ntmps12
  go_wp2_with (first
    | (go_at_call 35; refine (HS.out _ V0.out.2.2).mono ?_; rintro r w1 ⟨rfl, hB⟩; have V1 := hide' (V0.out.step hB); clear hB; obtain ⟨s0, s1, s2, s3, s4⟩ := HC.out _ V1.out)
    | (go_at_call 51; refine (HZ.out _).mono ?_; rintro r w2 ⟨rfl, hB⟩; have V2 := hide' (V1.out.step hB); clear hB s0 s1 s2 s3 s4; obtain ⟨s0, s1, s2, s3, s4⟩ := HC.out _ V2.out))
  go_region_held3 (fun V => V.cell? ⟨w.heap.size, 4, none⟩ = some (.string D)) (first | go_keep | exact R4.out.1.1.cell rfl | exact V3.out.1.cell rfl) (first
    | (go_at_call 53; refine (HF.out _).mono ?_; rintro r w3 ⟨rfl, hwa⟩; have V3 := hide' (show Vs w w3 #[.string so, .int .i64 46, .int .i64 sc, .int .i64 sl, .string D] (some ⟨b0, off, none⟩) L by first | (rw [hwa]; exact V2.out) | (rw [hwa]; exact V2.out.drew)); clear hwa)
    | (go_at_call 52; refine (HP.out _).mono ?_; rintro r w4 ⟨gp, op, cp, rfl, hpt, hB⟩; have R4 := hide' (show Rw w w4 #[.string so, .int .i64 46, .int .i64 sc, .int .i64 sl, .string D] (some ⟨b0, off, none⟩) L gp op [p0, ⟨#[253]⟩, p2, p3, p4, p5, p6, p7, p8] from ⟨by first | exact V3.out.step hB | exact V3.out.drew.step hB, hpt⟩); clear hB hpt))
  clear s0 s1 s2 s3 s4 V0 V1 V2 V3 HS HZ HF HP HC
  obtain ⟨e0, e1, e2, e3, e4⟩ := HF2.out _ R4.out.1.2.2
  have R5 := hide' (Rx.start R4.out #[.string o0, .int .i64 (t0 : Int), .int .i64 xc, .int .i64 xl, .string xd])
  go_wp2_with fail
  obtain ⟨W5, hW5⟩ : ∃ W5, w4.alloc (.cells #[.string o0, .int .i64 (t0 : Int), .int .i64 xc, .int .i64 xl, .string xd] 27) = W5 := ⟨_, rfl⟩
  obtain ⟨X, hX⟩ : ∃ X, w4.heap.size = X := ⟨_, rfl⟩
  rw [hW5, hX] at R5
  simp only [hW5, hX]
  clear hW5 hX hW0 R4 e0 e1 e2 e3 e4 HF2
  have QF : Hid (∀ V : World, Rx w V X #[.string so, .int .i64 46, .int .i64 sc, .int .i64 sl, .string D] #[.string o0, .int .i64 (t0 : Int), .int .i64 xc, .int .i64 xl, .string xd] (some ⟨b0, off, none⟩) L gp op [p0, ⟨#[253]⟩, p2, p3, p4, p5, p6, p7, p8] → V.cell? ⟨w.heap.size, 0, none⟩ = some (.string so) ∧ V.cell? ⟨X, 0, none⟩ = some (.string o0) ∧ V.cell? ⟨X, 1, none⟩ = some (.int .i64 (t0 : Int)) ∧ V.cell? ⟨gp, op, none⟩ = some (.string p0) ∧ V.cell? ⟨gp, op + 1, none⟩ = some (.string ⟨#[253]⟩) ∧ V.cell? ⟨gp, op + 2, none⟩ = some (.string p2) ∧ V.cell? ⟨gp, op + 3, none⟩ = some (.string p3) ∧ V.cell? ⟨gp, op + 4, none⟩ = some (.string p4) ∧ V.cell? ⟨gp, op + 5, none⟩ = some (.string p5) ∧ V.cell? ⟨gp, op + 6, none⟩ = some (.string p6) ∧ V.cell? ⟨gp, op + 7, none⟩ = some (.string p7) ∧ V.cell? ⟨gp, op + 8, none⟩ = some (.string p8)) := fun V h => ⟨h.1.1.1.cell rfl, h.2.cell rfl, h.2.cell rfl, h.1.2.2 0 (by simp), h.1.2.2 1 (by simp), h.1.2.2 2 (by simp), h.1.2.2 3 (by simp), h.1.2.2 4 (by simp), h.1.2.2 5 (by simp), h.1.2.2 6 (by simp), h.1.2.2 7 (by simp), h.1.2.2 8 (by simp)⟩
  obtain ⟨s0, x0, x1, r0, r1, r2, r3, r4, r5, r6, r7, r8⟩ := QF.out _ R5.out
  all_goals (go_region_held3 (fun V => V.cell? ⟨gp, op, none⟩ = some (.string p0) ∧ V.cell? ⟨X, 1, none⟩ = some (.int .i64 (t0 : Int))) (first | go_keep | exact ⟨R6.out.1.2.2 0 (by simp), R6.out.2.cell rfl⟩) (first
    | (go_at_call 54; refine (HV0.out _).mono ?_; rintro r w6 ⟨rfl, hwa⟩; have R6 := hide' (show Rx w w6 X #[.string so, .int .i64 46, .int .i64 sc, .int .i64 sl, .string D] #[.string o0, .int .i64 (t0 : Int), .int .i64 xc, .int .i64 xl, .string xd] (some ⟨b0, off, none⟩) L gp op [p0, ⟨#[253]⟩, p2, p3, p4, p5, p6, p7, p8] by first | (rw [hwa]; exact R5.out) | (rw [hwa]; exact R5.out.drew)); clear hwa)))
  all_goals (clear s0 x0 x1 r0 r1 r2 r3 r4 r5 r6 r7 r8)
  all_goals (obtain ⟨s0, x0, x1, r0, r1, r2, r3, r4, r5, r6, r7, r8⟩ := QF.out _ R6.out)
  all_goals (go_wp2_with fail)
  all_goals (go_region_held3 (fun V => V.cell? ⟨w.heap.size, 0, none⟩ = some (.string so) ∧ V.cell? ⟨X, 0, none⟩ = some (.string o0) ∧ V.cell? ⟨gp, op + 7, none⟩ = some (.string p7)) (first | go_keep | exact ⟨R8.out.1.1.1.cell rfl, R8.out.2.cell rfl, R8.out.1.2.2 7 (by simp)⟩ | exact ⟨R7.out.1.1.1.cell rfl, R7.out.2.cell rfl, R7.out.1.2.2 7 (by simp)⟩) (first
    | (go_at_call 55; refine (HE.out _).mono ?_; rintro r w7 ⟨rfl, hB⟩; have R7 := hide' (show Rx w w7 X #[.string so, .int .i64 46, .int .i64 sc, .int .i64 sl, .string D] #[.string o0, .int .i64 (t0 : Int), .int .i64 xc, .int .i64 xl, .string xd] (some ⟨b0, off, none⟩) L gp op [p0, ⟨#[253]⟩, p2, p3, p4, p5, p6, p7, p8] by first | exact R6.out.step hB | exact R6.out.drew.step hB); clear hB)
    | (go_at_call 36; refine (HW.out _).mono ?_; rintro r w8 ⟨rfl, hB⟩; have R8 := hide' (show Rx w w8 X #[.string so, .int .i64 46, .int .i64 sc, .int .i64 sl, .string D] #[.string o0, .int .i64 (t0 : Int), .int .i64 xc, .int .i64 xl, .string xd] (some ⟨b0, off, none⟩) L gp op [p0, ⟨#[253]⟩, p2, p3, p4, p5, p6, p7, p8] by first | exact R7.out.step hB | exact R7.out.drew.step hB); clear hB)))
  all_goals (clear s0 x0 x1 r0 r1 r2 r3 r4 r5 r6 r7 r8)
  all_goals (obtain ⟨s0, x0, x1, r0, r1, r2, r3, r4, r5, r6, r7, r8⟩ := QF.out _ R8.out)
  all_goals (go_wp2_with (first
    | (go_at_call 55; refine (HQ.out _).mono ?_; rintro r w9 ⟨rfl, hB⟩; have R9 := hide' (show Rx w w9 X #[.string so, .int .i64 46, .int .i64 sc, .int .i64 sl, .string D] #[.string o0, .int .i64 (t0 : Int), .int .i64 xc, .int .i64 xl, .string xd] (some ⟨b0, off, none⟩) L gp op [p0, ⟨#[253]⟩, p2, p3, p4, p5, p6, p7, p8] by first | exact R8.out.step hB | exact R8.out.drew.step hB); clear hB; clear s0 x0 x1 r0 r1 r2 r3 r4 r5 r6 r7 r8; obtain ⟨s0, x0, x1, r0, r1, r2, r3, r4, r5, r6, r7, r8⟩ := QF.out _ R9.out)
    | (go_at_call 56; refine (HK.out _).mono ?_; rintro r wa ⟨rfl, hB⟩; have Ra := hide' (show Rx w wa X #[.string so, .int .i64 46, .int .i64 sc, .int .i64 sl, .string D] #[.string o0, .int .i64 (t0 : Int), .int .i64 xc, .int .i64 xl, .string xd] (some ⟨b0, off, none⟩) L gp op [p0, ⟨#[253]⟩, p2, p3, p4, p5, p6, p7, p8] by first | exact R9.out.step hB | exact R9.out.drew.step hB); clear hB; clear s0 x0 x1 r0 r1 r2 r3 r4 r5 r6 r7 r8; obtain ⟨s0, x0, x1, r0, r1, r2, r3, r4, r5, r6, r7, r8⟩ := QF.out _ Ra.out)
    | (go_at_call 54; refine (HV6.out _).mono ?_; rintro r wv ⟨rfl, rfl⟩)
    | (go_at_call 39; refine (HT.out _).mono ?_; rintro r wv ⟨rfl, rfl⟩)))
  all_goals (go_region_held3 (fun V => V.cell? ⟨gp, op + 2, none⟩ = some (.string p2) ∧ V.cell? ⟨X, 0, none⟩ = some (.string o0)) (first | go_keep | exact ⟨Rc.out.1.2.2 2 (by simp), Rc.out.2.cell rfl⟩ | exact ⟨Rb.out.1.2.2 2 (by simp), Rb.out.2.cell rfl⟩) (first
    | (go_at_call 54; refine (HV2.out _).mono ?_; rintro r wb ⟨rfl, hwa⟩; have Rb := hide' (show Rx w wb X #[.string so, .int .i64 46, .int .i64 sc, .int .i64 sl, .string D] #[.string o0, .int .i64 (t0 : Int), .int .i64 xc, .int .i64 xl, .string xd] (some ⟨b0, off, none⟩) L gp op [p0, ⟨#[253]⟩, p2, p3, p4, p5, p6, p7, p8] by first | (rw [hwa]; exact Ra.out) | (rw [hwa]; exact Ra.out.drew)); clear hwa)
    | (go_at_call 38; refine (HL.out _).mono ?_; rintro r wc ⟨rfl, hB⟩; have Rc := hide' (show Rx w wc X #[.string so, .int .i64 46, .int .i64 sc, .int .i64 sl, .string D] #[.string o0, .int .i64 (t0 : Int), .int .i64 xc, .int .i64 xl, .string xd] (some ⟨b0, off, none⟩) L gp op [p0, ⟨#[253]⟩, p2, p3, p4, p5, p6, p7, p8] by first | exact Rb.out.step hB | exact Rb.out.drew.step hB); clear hB)))
  all_goals (clear s0 x0 x1 r0 r1 r2 r3 r4 r5 r6 r7 r8)
  all_goals (obtain ⟨s0, x0, x1, r0, r1, r2, r3, r4, r5, r6, r7, r8⟩ := QF.out _ Rc.out)
  all_goals (go_wp2_with fail)
  all_goals go_ret
  all_goals (exact ⟨rfl, by first | exact Rc.out.1.1.2.1 | exact Rc.out.1.1.2.1.drew⟩)
set_option maxRecDepth 100000 in
set_option maxHeartbeats 8000000 in
theorem verifyset_early (L : List Rn) (p : Option Addr) (cap : Nat) (so D q dk o0 xd Fm T p0 p1 p2 p3 p4 p5 p6 p7 p8 : ByteArray) (sc sl now lo xc xl : Int) (t0 c0 v2 v4 v5 v6 v8 tg n e pw fg : Nat) (w : World) (hp : 0 < L.length) (nl : Nat) (hnl : 0 < nl) (hat : RsAt w p L) (hx0 : L[0] = ⟨o0, (t0 : Int), xc, xl, xd⟩)
    (HS : Hid (∀ W : World, RsAt W p L → Calls Tryz.prog 35 #[.slice p nl cap] W fun r w' => r = .returned (.bool true) ∧ Below W.heap.size W w'))
    (HZ : Hid (∀ W : World, Calls Tryz.prog 51 #[.agg #[.string so, .int .i64 46, .int .i64 sc, .int .i64 sl, .string D]] W fun r w' => r = .returned (.bool true) ∧ Below W.heap.size W w'))
    (HF : Hid (∀ W : World, Calls Tryz.prog 53 #[.int .i64 46] W fun r w' => r = .returned (.string Fm) ∧ w' = W))
    (HP : Hid (∀ W : World, Calls Tryz.prog 52 #[.string Fm, .string D] W fun r w' => ∃ gp op cp, r = .returned (.tuple #[.slice (some ⟨gp, op, none⟩) 9 cp, .bool true]) ∧ Pt w' gp op [p0, ⟨#[253]⟩, p2, p3, p4, p5, p6, p7, p8] ∧ Below W.heap.size W w'))
    (HV0 : Hid (∀ W : World, Calls Tryz.prog 54 #[.string p0] W fun r w' => r = .returned (.int .i64 (t0 : Int)) ∧ w' = W))
    (HE : Hid (∀ W : World, Calls Tryz.prog 55 #[.string so, .string o0] W fun r w' => r = .returned (.bool true) ∧ Below W.heap.size W w'))
    (HW : Hid (∀ W : World, Calls Tryz.prog 36 #[.string o0, .string p7] W fun r w' => r = .returned (.bool true) ∧ Below W.heap.size W w'))
    (HQ : Hid (∀ W : World, Calls Tryz.prog 55 #[.string q, .string p7] W fun r w' => r = .returned (.bool true) ∧ Below W.heap.size W w'))
    (HK : Hid (∀ W : World, Calls Tryz.prog 56 #[.string dk] W fun r w' => r = .returned (.bool true) ∧ Below W.heap.size W w'))
    (HV6 : Hid (∀ W : World, Calls Tryz.prog 54 #[.string p6] W fun r w' => r = .returned (.int .i64 (v6 : Int)) ∧ w' = W))
    (HT : Hid (∀ W : World, Calls Tryz.prog 39 #[.string dk] W fun r w' => r = .returned (.int .i64 (v6 : Int)) ∧ w' = W))
    (HV2 : Hid (∀ W : World, Calls Tryz.prog 54 #[.string p2] W fun r w' => r = .returned (.int .i64 (v2 : Int)) ∧ w' = W))
    (HL : Hid (∀ W : World, Calls Tryz.prog 38 #[.string o0] W fun r w' => r = .returned (.int .i64 lo) ∧ Below W.heap.size W w'))
    (HV5 : Hid (∀ W : World, Calls Tryz.prog 54 #[.string p5] W fun r w' => r = .returned (.int .i64 (v5 : Int)) ∧ w' = W)) (hlo : ¬ lo < (v2 : Int)) (hnow : now < (v5 : Int)) :
    Calls Tryz.prog 12 #[.slice p nl cap, .agg #[.string so, .int .i64 46, .int .i64 sc, .int .i64 sl, .string D], .string q, .string dk, .int .i64 now] w fun r w' => r = .returned (.int .i64 25) ∧ Below w.heap.size w w' := by
  obtain ⟨W0, hW0⟩ : ∃ W0, w.alloc (.cells #[.string so, .int .i64 46, .int .i64 sc, .int .i64 sl, .string D] 27) = W0 := ⟨_, rfl⟩
  have V0 := hide' (Vs.start w #[.string so, .int .i64 46, .int .i64 sc, .int .i64 sl, .string D] p L hat)
  rw [hW0] at V0
  have HFI : Hid (∀ V : World, RsAt V p L → ∃ g off, p = some ⟨g, off, none⟩ ∧ V.cell? ⟨g, off, none⟩ = some (.string o0) ∧ V.cell? ⟨g, off + 1, none⟩ = some (.int .i64 (t0 : Int)) ∧ V.cell? ⟨g, off + 2, none⟩ = some (.int .i64 xc) ∧ V.cell? ⟨g, off + 3, none⟩ = some (.int .i64 xl) ∧ V.cell? ⟨g, off + 4, none⟩ = some (.string xd)) := fun V hV => by
    obtain ⟨g, off, hp2, hg, e0, e1, e2, e3, e4⟩ := hV 0 hp
    rw [Nat.zero_mul, Nat.add_zero, hx0] at e0 e1 e2 e3 e4
    exact ⟨g, off, hp2, e0, e1, e2, e3, e4⟩
  obtain ⟨b0, off, hpp, -⟩ := HFI.out _ hat
  subst hpp
  have HF2 : Hid (∀ V : World, RsAt V (some ⟨b0, off, none⟩) L → V.cell? ⟨b0, off, none⟩ = some (.string o0) ∧ V.cell? ⟨b0, off + 1, none⟩ = some (.int .i64 (t0 : Int)) ∧ V.cell? ⟨b0, off + 2, none⟩ = some (.int .i64 xc) ∧ V.cell? ⟨b0, off + 3, none⟩ = some (.int .i64 xl) ∧ V.cell? ⟨b0, off + 4, none⟩ = some (.string xd)) := fun V hV => by
    obtain ⟨g', off', hg, e0, e1, e2, e3, e4⟩ := HFI.out V hV
    injection hg with hg; injection hg with h1 h2; subst h1; subst h2
    exact ⟨e0, e1, e2, e3, e4⟩
  have hpi : ¬ (nl : Int) = 0 := by omega
  have hpj : (0 : Int) < (nl : Int) := by omega
  have HC : Hid (∀ V : World, Vs w V #[.string so, .int .i64 46, .int .i64 sc, .int .i64 sl, .string D] (some ⟨b0, off, none⟩) L → V.cell? ⟨w.heap.size, 0, none⟩ = some (.string so) ∧ V.cell? ⟨w.heap.size, 1, none⟩ = some (.int .i64 46) ∧ V.cell? ⟨w.heap.size, 2, none⟩ = some (.int .i64 sc) ∧ V.cell? ⟨w.heap.size, 3, none⟩ = some (.int .i64 sl) ∧ V.cell? ⟨w.heap.size, 4, none⟩ = some (.string D)) := fun V h => ⟨h.1.cell rfl, h.1.cell rfl, h.1.cell rfl, h.1.cell rfl, h.1.cell rfl⟩
  clear HFI hat hx0 hp
  go_enter Tryz.func12, Tryz.ntmps12
  go_wp2_with (first
    | (go_at_call 35; refine (HS.out _ V0.out.2.2).mono ?_; rintro r w1 ⟨rfl, hB⟩; have V1 := hide' (V0.out.step hB); clear hB; obtain ⟨s0, s1, s2, s3, s4⟩ := HC.out _ V1.out)
    | (go_at_call 51; refine (HZ.out _).mono ?_; rintro r w2 ⟨rfl, hB⟩; have V2 := hide' (V1.out.step hB); clear hB s0 s1 s2 s3 s4; obtain ⟨s0, s1, s2, s3, s4⟩ := HC.out _ V2.out))
  go_region_held3 (fun V => V.cell? ⟨w.heap.size, 4, none⟩ = some (.string D)) (first | go_keep | exact R4.out.1.1.cell rfl | exact V3.out.1.cell rfl) (first
    | (go_at_call 53; refine (HF.out _).mono ?_; rintro r w3 ⟨rfl, hwa⟩; have V3 := hide' (show Vs w w3 #[.string so, .int .i64 46, .int .i64 sc, .int .i64 sl, .string D] (some ⟨b0, off, none⟩) L by first | (rw [hwa]; exact V2.out) | (rw [hwa]; exact V2.out.drew)); clear hwa)
    | (go_at_call 52; refine (HP.out _).mono ?_; rintro r w4 ⟨gp, op, cp, rfl, hpt, hB⟩; have R4 := hide' (show Rw w w4 #[.string so, .int .i64 46, .int .i64 sc, .int .i64 sl, .string D] (some ⟨b0, off, none⟩) L gp op [p0, ⟨#[253]⟩, p2, p3, p4, p5, p6, p7, p8] from ⟨by first | exact V3.out.step hB | exact V3.out.drew.step hB, hpt⟩); clear hB hpt))
  clear s0 s1 s2 s3 s4 V0 V1 V2 V3 HS HZ HF HP HC
  obtain ⟨e0, e1, e2, e3, e4⟩ := HF2.out _ R4.out.1.2.2
  have R5 := hide' (Rx.start R4.out #[.string o0, .int .i64 (t0 : Int), .int .i64 xc, .int .i64 xl, .string xd])
  go_wp2_with fail
  obtain ⟨W5, hW5⟩ : ∃ W5, w4.alloc (.cells #[.string o0, .int .i64 (t0 : Int), .int .i64 xc, .int .i64 xl, .string xd] 27) = W5 := ⟨_, rfl⟩
  obtain ⟨X, hX⟩ : ∃ X, w4.heap.size = X := ⟨_, rfl⟩
  rw [hW5, hX] at R5
  simp only [hW5, hX]
  clear hW5 hX hW0 R4 e0 e1 e2 e3 e4 HF2
  have QF : Hid (∀ V : World, Rx w V X #[.string so, .int .i64 46, .int .i64 sc, .int .i64 sl, .string D] #[.string o0, .int .i64 (t0 : Int), .int .i64 xc, .int .i64 xl, .string xd] (some ⟨b0, off, none⟩) L gp op [p0, ⟨#[253]⟩, p2, p3, p4, p5, p6, p7, p8] → V.cell? ⟨w.heap.size, 0, none⟩ = some (.string so) ∧ V.cell? ⟨X, 0, none⟩ = some (.string o0) ∧ V.cell? ⟨X, 1, none⟩ = some (.int .i64 (t0 : Int)) ∧ V.cell? ⟨gp, op, none⟩ = some (.string p0) ∧ V.cell? ⟨gp, op + 1, none⟩ = some (.string ⟨#[253]⟩) ∧ V.cell? ⟨gp, op + 2, none⟩ = some (.string p2) ∧ V.cell? ⟨gp, op + 3, none⟩ = some (.string p3) ∧ V.cell? ⟨gp, op + 4, none⟩ = some (.string p4) ∧ V.cell? ⟨gp, op + 5, none⟩ = some (.string p5) ∧ V.cell? ⟨gp, op + 6, none⟩ = some (.string p6) ∧ V.cell? ⟨gp, op + 7, none⟩ = some (.string p7) ∧ V.cell? ⟨gp, op + 8, none⟩ = some (.string p8)) := fun V h => ⟨h.1.1.1.cell rfl, h.2.cell rfl, h.2.cell rfl, h.1.2.2 0 (by simp), h.1.2.2 1 (by simp), h.1.2.2 2 (by simp), h.1.2.2 3 (by simp), h.1.2.2 4 (by simp), h.1.2.2 5 (by simp), h.1.2.2 6 (by simp), h.1.2.2 7 (by simp), h.1.2.2 8 (by simp)⟩
  obtain ⟨s0, x0, x1, r0, r1, r2, r3, r4, r5, r6, r7, r8⟩ := QF.out _ R5.out
  all_goals (go_region_held3 (fun V => V.cell? ⟨gp, op, none⟩ = some (.string p0) ∧ V.cell? ⟨X, 1, none⟩ = some (.int .i64 (t0 : Int))) (first | go_keep | exact ⟨R6.out.1.2.2 0 (by simp), R6.out.2.cell rfl⟩) (first
    | (go_at_call 54; refine (HV0.out _).mono ?_; rintro r w6 ⟨rfl, hwa⟩; have R6 := hide' (show Rx w w6 X #[.string so, .int .i64 46, .int .i64 sc, .int .i64 sl, .string D] #[.string o0, .int .i64 (t0 : Int), .int .i64 xc, .int .i64 xl, .string xd] (some ⟨b0, off, none⟩) L gp op [p0, ⟨#[253]⟩, p2, p3, p4, p5, p6, p7, p8] by first | (rw [hwa]; exact R5.out) | (rw [hwa]; exact R5.out.drew)); clear hwa)))
  all_goals (clear s0 x0 x1 r0 r1 r2 r3 r4 r5 r6 r7 r8)
  all_goals (obtain ⟨s0, x0, x1, r0, r1, r2, r3, r4, r5, r6, r7, r8⟩ := QF.out _ R6.out)
  all_goals (go_wp2_with fail)
  all_goals (go_region_held3 (fun V => V.cell? ⟨w.heap.size, 0, none⟩ = some (.string so) ∧ V.cell? ⟨X, 0, none⟩ = some (.string o0) ∧ V.cell? ⟨gp, op + 7, none⟩ = some (.string p7)) (first | go_keep | exact ⟨R8.out.1.1.1.cell rfl, R8.out.2.cell rfl, R8.out.1.2.2 7 (by simp)⟩ | exact ⟨R7.out.1.1.1.cell rfl, R7.out.2.cell rfl, R7.out.1.2.2 7 (by simp)⟩) (first
    | (go_at_call 55; refine (HE.out _).mono ?_; rintro r w7 ⟨rfl, hB⟩; have R7 := hide' (show Rx w w7 X #[.string so, .int .i64 46, .int .i64 sc, .int .i64 sl, .string D] #[.string o0, .int .i64 (t0 : Int), .int .i64 xc, .int .i64 xl, .string xd] (some ⟨b0, off, none⟩) L gp op [p0, ⟨#[253]⟩, p2, p3, p4, p5, p6, p7, p8] by first | exact R6.out.step hB | exact R6.out.drew.step hB); clear hB)
    | (go_at_call 36; refine (HW.out _).mono ?_; rintro r w8 ⟨rfl, hB⟩; have R8 := hide' (show Rx w w8 X #[.string so, .int .i64 46, .int .i64 sc, .int .i64 sl, .string D] #[.string o0, .int .i64 (t0 : Int), .int .i64 xc, .int .i64 xl, .string xd] (some ⟨b0, off, none⟩) L gp op [p0, ⟨#[253]⟩, p2, p3, p4, p5, p6, p7, p8] by first | exact R7.out.step hB | exact R7.out.drew.step hB); clear hB)))
  all_goals (clear s0 x0 x1 r0 r1 r2 r3 r4 r5 r6 r7 r8)
  all_goals (obtain ⟨s0, x0, x1, r0, r1, r2, r3, r4, r5, r6, r7, r8⟩ := QF.out _ R8.out)
  all_goals (go_wp2_with (first
    | (go_at_call 55; refine (HQ.out _).mono ?_; rintro r w9 ⟨rfl, hB⟩; have R9 := hide' (show Rx w w9 X #[.string so, .int .i64 46, .int .i64 sc, .int .i64 sl, .string D] #[.string o0, .int .i64 (t0 : Int), .int .i64 xc, .int .i64 xl, .string xd] (some ⟨b0, off, none⟩) L gp op [p0, ⟨#[253]⟩, p2, p3, p4, p5, p6, p7, p8] by first | exact R8.out.step hB | exact R8.out.drew.step hB); clear hB; clear s0 x0 x1 r0 r1 r2 r3 r4 r5 r6 r7 r8; obtain ⟨s0, x0, x1, r0, r1, r2, r3, r4, r5, r6, r7, r8⟩ := QF.out _ R9.out)
    | (go_at_call 56; refine (HK.out _).mono ?_; rintro r wa ⟨rfl, hB⟩; have Ra := hide' (show Rx w wa X #[.string so, .int .i64 46, .int .i64 sc, .int .i64 sl, .string D] #[.string o0, .int .i64 (t0 : Int), .int .i64 xc, .int .i64 xl, .string xd] (some ⟨b0, off, none⟩) L gp op [p0, ⟨#[253]⟩, p2, p3, p4, p5, p6, p7, p8] by first | exact R9.out.step hB | exact R9.out.drew.step hB); clear hB; clear s0 x0 x1 r0 r1 r2 r3 r4 r5 r6 r7 r8; obtain ⟨s0, x0, x1, r0, r1, r2, r3, r4, r5, r6, r7, r8⟩ := QF.out _ Ra.out)
    | (go_at_call 54; refine (HV6.out _).mono ?_; rintro r wv ⟨rfl, rfl⟩)
    | (go_at_call 39; refine (HT.out _).mono ?_; rintro r wv ⟨rfl, rfl⟩)))
  all_goals (go_region_held3 (fun V => V.cell? ⟨gp, op + 2, none⟩ = some (.string p2) ∧ V.cell? ⟨X, 0, none⟩ = some (.string o0)) (first | go_keep | exact ⟨Rc.out.1.2.2 2 (by simp), Rc.out.2.cell rfl⟩ | exact ⟨Rb.out.1.2.2 2 (by simp), Rb.out.2.cell rfl⟩) (first
    | (go_at_call 54; refine (HV2.out _).mono ?_; rintro r wb ⟨rfl, hwa⟩; have Rb := hide' (show Rx w wb X #[.string so, .int .i64 46, .int .i64 sc, .int .i64 sl, .string D] #[.string o0, .int .i64 (t0 : Int), .int .i64 xc, .int .i64 xl, .string xd] (some ⟨b0, off, none⟩) L gp op [p0, ⟨#[253]⟩, p2, p3, p4, p5, p6, p7, p8] by first | (rw [hwa]; exact Ra.out) | (rw [hwa]; exact Ra.out.drew)); clear hwa)
    | (go_at_call 38; refine (HL.out _).mono ?_; rintro r wc ⟨rfl, hB⟩; have Rc := hide' (show Rx w wc X #[.string so, .int .i64 46, .int .i64 sc, .int .i64 sl, .string D] #[.string o0, .int .i64 (t0 : Int), .int .i64 xc, .int .i64 xl, .string xd] (some ⟨b0, off, none⟩) L gp op [p0, ⟨#[253]⟩, p2, p3, p4, p5, p6, p7, p8] by first | exact Rb.out.step hB | exact Rb.out.drew.step hB); clear hB)))
  all_goals (clear s0 x0 x1 r0 r1 r2 r3 r4 r5 r6 r7 r8)
  all_goals (obtain ⟨s0, x0, x1, r0, r1, r2, r3, r4, r5, r6, r7, r8⟩ := QF.out _ Rc.out)
  all_goals (have T5 : Hid True := trivial)
  all_goals (go_wp2_with (first
    | (go_at_call 54; have _ := T5; clear T5; refine (HV5.out _).mono ?_; rintro r wv ⟨rfl, rfl⟩)))
  all_goals go_ret
  all_goals (exact ⟨rfl, by first | exact Rc.out.1.1.2.1 | exact Rc.out.1.1.2.1.drew⟩)
set_option maxRecDepth 100000 in
set_option maxHeartbeats 8000000 in
theorem verifyset_late (L : List Rn) (p : Option Addr) (cap : Nat) (so D q dk o0 xd Fm T p0 p1 p2 p3 p4 p5 p6 p7 p8 : ByteArray) (sc sl now lo xc xl : Int) (t0 c0 v2 v4 v5 v6 v8 tg n e pw fg : Nat) (w : World) (hp : 0 < L.length) (nl : Nat) (hnl : 0 < nl) (hat : RsAt w p L) (hx0 : L[0] = ⟨o0, (t0 : Int), xc, xl, xd⟩)
    (HS : Hid (∀ W : World, RsAt W p L → Calls Tryz.prog 35 #[.slice p nl cap] W fun r w' => r = .returned (.bool true) ∧ Below W.heap.size W w'))
    (HZ : Hid (∀ W : World, Calls Tryz.prog 51 #[.agg #[.string so, .int .i64 46, .int .i64 sc, .int .i64 sl, .string D]] W fun r w' => r = .returned (.bool true) ∧ Below W.heap.size W w'))
    (HF : Hid (∀ W : World, Calls Tryz.prog 53 #[.int .i64 46] W fun r w' => r = .returned (.string Fm) ∧ w' = W))
    (HP : Hid (∀ W : World, Calls Tryz.prog 52 #[.string Fm, .string D] W fun r w' => ∃ gp op cp, r = .returned (.tuple #[.slice (some ⟨gp, op, none⟩) 9 cp, .bool true]) ∧ Pt w' gp op [p0, ⟨#[253]⟩, p2, p3, p4, p5, p6, p7, p8] ∧ Below W.heap.size W w'))
    (HV0 : Hid (∀ W : World, Calls Tryz.prog 54 #[.string p0] W fun r w' => r = .returned (.int .i64 (t0 : Int)) ∧ w' = W))
    (HE : Hid (∀ W : World, Calls Tryz.prog 55 #[.string so, .string o0] W fun r w' => r = .returned (.bool true) ∧ Below W.heap.size W w'))
    (HW : Hid (∀ W : World, Calls Tryz.prog 36 #[.string o0, .string p7] W fun r w' => r = .returned (.bool true) ∧ Below W.heap.size W w'))
    (HQ : Hid (∀ W : World, Calls Tryz.prog 55 #[.string q, .string p7] W fun r w' => r = .returned (.bool true) ∧ Below W.heap.size W w'))
    (HK : Hid (∀ W : World, Calls Tryz.prog 56 #[.string dk] W fun r w' => r = .returned (.bool true) ∧ Below W.heap.size W w'))
    (HV6 : Hid (∀ W : World, Calls Tryz.prog 54 #[.string p6] W fun r w' => r = .returned (.int .i64 (v6 : Int)) ∧ w' = W))
    (HT : Hid (∀ W : World, Calls Tryz.prog 39 #[.string dk] W fun r w' => r = .returned (.int .i64 (v6 : Int)) ∧ w' = W))
    (HV2 : Hid (∀ W : World, Calls Tryz.prog 54 #[.string p2] W fun r w' => r = .returned (.int .i64 (v2 : Int)) ∧ w' = W))
    (HL : Hid (∀ W : World, Calls Tryz.prog 38 #[.string o0] W fun r w' => r = .returned (.int .i64 lo) ∧ Below W.heap.size W w'))
    (HV5 : Hid (∀ W : World, Calls Tryz.prog 54 #[.string p5] W fun r w' => r = .returned (.int .i64 (v5 : Int)) ∧ w' = W))
    (HV4 : Hid (∀ W : World, Calls Tryz.prog 54 #[.string p4] W fun r w' => r = .returned (.int .i64 (v4 : Int)) ∧ w' = W)) (hlo : ¬ lo < (v2 : Int)) (hnow : ¬ now < (v5 : Int)) (hlat : (v4 : Int) < now) :
    Calls Tryz.prog 12 #[.slice p nl cap, .agg #[.string so, .int .i64 46, .int .i64 sc, .int .i64 sl, .string D], .string q, .string dk, .int .i64 now] w fun r w' => r = .returned (.int .i64 25) ∧ Below w.heap.size w w' := by
  obtain ⟨W0, hW0⟩ : ∃ W0, w.alloc (.cells #[.string so, .int .i64 46, .int .i64 sc, .int .i64 sl, .string D] 27) = W0 := ⟨_, rfl⟩
  have V0 := hide' (Vs.start w #[.string so, .int .i64 46, .int .i64 sc, .int .i64 sl, .string D] p L hat)
  rw [hW0] at V0
  have HFI : Hid (∀ V : World, RsAt V p L → ∃ g off, p = some ⟨g, off, none⟩ ∧ V.cell? ⟨g, off, none⟩ = some (.string o0) ∧ V.cell? ⟨g, off + 1, none⟩ = some (.int .i64 (t0 : Int)) ∧ V.cell? ⟨g, off + 2, none⟩ = some (.int .i64 xc) ∧ V.cell? ⟨g, off + 3, none⟩ = some (.int .i64 xl) ∧ V.cell? ⟨g, off + 4, none⟩ = some (.string xd)) := fun V hV => by
    obtain ⟨g, off, hp2, hg, e0, e1, e2, e3, e4⟩ := hV 0 hp
    rw [Nat.zero_mul, Nat.add_zero, hx0] at e0 e1 e2 e3 e4
    exact ⟨g, off, hp2, e0, e1, e2, e3, e4⟩
  obtain ⟨b0, off, hpp, -⟩ := HFI.out _ hat
  subst hpp
  have HF2 : Hid (∀ V : World, RsAt V (some ⟨b0, off, none⟩) L → V.cell? ⟨b0, off, none⟩ = some (.string o0) ∧ V.cell? ⟨b0, off + 1, none⟩ = some (.int .i64 (t0 : Int)) ∧ V.cell? ⟨b0, off + 2, none⟩ = some (.int .i64 xc) ∧ V.cell? ⟨b0, off + 3, none⟩ = some (.int .i64 xl) ∧ V.cell? ⟨b0, off + 4, none⟩ = some (.string xd)) := fun V hV => by
    obtain ⟨g', off', hg, e0, e1, e2, e3, e4⟩ := HFI.out V hV
    injection hg with hg; injection hg with h1 h2; subst h1; subst h2
    exact ⟨e0, e1, e2, e3, e4⟩
  have hpi : ¬ (nl : Int) = 0 := by omega
  have hpj : (0 : Int) < (nl : Int) := by omega
  have HC : Hid (∀ V : World, Vs w V #[.string so, .int .i64 46, .int .i64 sc, .int .i64 sl, .string D] (some ⟨b0, off, none⟩) L → V.cell? ⟨w.heap.size, 0, none⟩ = some (.string so) ∧ V.cell? ⟨w.heap.size, 1, none⟩ = some (.int .i64 46) ∧ V.cell? ⟨w.heap.size, 2, none⟩ = some (.int .i64 sc) ∧ V.cell? ⟨w.heap.size, 3, none⟩ = some (.int .i64 sl) ∧ V.cell? ⟨w.heap.size, 4, none⟩ = some (.string D)) := fun V h => ⟨h.1.cell rfl, h.1.cell rfl, h.1.cell rfl, h.1.cell rfl, h.1.cell rfl⟩
  clear HFI hat hx0 hp
  go_enter Tryz.func12, Tryz.ntmps12
  go_wp2_with (first
    | (go_at_call 35; refine (HS.out _ V0.out.2.2).mono ?_; rintro r w1 ⟨rfl, hB⟩; have V1 := hide' (V0.out.step hB); clear hB; obtain ⟨s0, s1, s2, s3, s4⟩ := HC.out _ V1.out)
    | (go_at_call 51; refine (HZ.out _).mono ?_; rintro r w2 ⟨rfl, hB⟩; have V2 := hide' (V1.out.step hB); clear hB s0 s1 s2 s3 s4; obtain ⟨s0, s1, s2, s3, s4⟩ := HC.out _ V2.out))
  go_region_held3 (fun V => V.cell? ⟨w.heap.size, 4, none⟩ = some (.string D)) (first | go_keep | exact R4.out.1.1.cell rfl | exact V3.out.1.cell rfl) (first
    | (go_at_call 53; refine (HF.out _).mono ?_; rintro r w3 ⟨rfl, hwa⟩; have V3 := hide' (show Vs w w3 #[.string so, .int .i64 46, .int .i64 sc, .int .i64 sl, .string D] (some ⟨b0, off, none⟩) L by first | (rw [hwa]; exact V2.out) | (rw [hwa]; exact V2.out.drew)); clear hwa)
    | (go_at_call 52; refine (HP.out _).mono ?_; rintro r w4 ⟨gp, op, cp, rfl, hpt, hB⟩; have R4 := hide' (show Rw w w4 #[.string so, .int .i64 46, .int .i64 sc, .int .i64 sl, .string D] (some ⟨b0, off, none⟩) L gp op [p0, ⟨#[253]⟩, p2, p3, p4, p5, p6, p7, p8] from ⟨by first | exact V3.out.step hB | exact V3.out.drew.step hB, hpt⟩); clear hB hpt))
  clear s0 s1 s2 s3 s4 V0 V1 V2 V3 HS HZ HF HP HC
  obtain ⟨e0, e1, e2, e3, e4⟩ := HF2.out _ R4.out.1.2.2
  have R5 := hide' (Rx.start R4.out #[.string o0, .int .i64 (t0 : Int), .int .i64 xc, .int .i64 xl, .string xd])
  go_wp2_with fail
  obtain ⟨W5, hW5⟩ : ∃ W5, w4.alloc (.cells #[.string o0, .int .i64 (t0 : Int), .int .i64 xc, .int .i64 xl, .string xd] 27) = W5 := ⟨_, rfl⟩
  obtain ⟨X, hX⟩ : ∃ X, w4.heap.size = X := ⟨_, rfl⟩
  rw [hW5, hX] at R5
  simp only [hW5, hX]
  clear hW5 hX hW0 R4 e0 e1 e2 e3 e4 HF2
  have QF : Hid (∀ V : World, Rx w V X #[.string so, .int .i64 46, .int .i64 sc, .int .i64 sl, .string D] #[.string o0, .int .i64 (t0 : Int), .int .i64 xc, .int .i64 xl, .string xd] (some ⟨b0, off, none⟩) L gp op [p0, ⟨#[253]⟩, p2, p3, p4, p5, p6, p7, p8] → V.cell? ⟨w.heap.size, 0, none⟩ = some (.string so) ∧ V.cell? ⟨X, 0, none⟩ = some (.string o0) ∧ V.cell? ⟨X, 1, none⟩ = some (.int .i64 (t0 : Int)) ∧ V.cell? ⟨gp, op, none⟩ = some (.string p0) ∧ V.cell? ⟨gp, op + 1, none⟩ = some (.string ⟨#[253]⟩) ∧ V.cell? ⟨gp, op + 2, none⟩ = some (.string p2) ∧ V.cell? ⟨gp, op + 3, none⟩ = some (.string p3) ∧ V.cell? ⟨gp, op + 4, none⟩ = some (.string p4) ∧ V.cell? ⟨gp, op + 5, none⟩ = some (.string p5) ∧ V.cell? ⟨gp, op + 6, none⟩ = some (.string p6) ∧ V.cell? ⟨gp, op + 7, none⟩ = some (.string p7) ∧ V.cell? ⟨gp, op + 8, none⟩ = some (.string p8)) := fun V h => ⟨h.1.1.1.cell rfl, h.2.cell rfl, h.2.cell rfl, h.1.2.2 0 (by simp), h.1.2.2 1 (by simp), h.1.2.2 2 (by simp), h.1.2.2 3 (by simp), h.1.2.2 4 (by simp), h.1.2.2 5 (by simp), h.1.2.2 6 (by simp), h.1.2.2 7 (by simp), h.1.2.2 8 (by simp)⟩
  obtain ⟨s0, x0, x1, r0, r1, r2, r3, r4, r5, r6, r7, r8⟩ := QF.out _ R5.out
  all_goals (go_region_held3 (fun V => V.cell? ⟨gp, op, none⟩ = some (.string p0) ∧ V.cell? ⟨X, 1, none⟩ = some (.int .i64 (t0 : Int))) (first | go_keep | exact ⟨R6.out.1.2.2 0 (by simp), R6.out.2.cell rfl⟩) (first
    | (go_at_call 54; refine (HV0.out _).mono ?_; rintro r w6 ⟨rfl, hwa⟩; have R6 := hide' (show Rx w w6 X #[.string so, .int .i64 46, .int .i64 sc, .int .i64 sl, .string D] #[.string o0, .int .i64 (t0 : Int), .int .i64 xc, .int .i64 xl, .string xd] (some ⟨b0, off, none⟩) L gp op [p0, ⟨#[253]⟩, p2, p3, p4, p5, p6, p7, p8] by first | (rw [hwa]; exact R5.out) | (rw [hwa]; exact R5.out.drew)); clear hwa)))
  all_goals (clear s0 x0 x1 r0 r1 r2 r3 r4 r5 r6 r7 r8)
  all_goals (obtain ⟨s0, x0, x1, r0, r1, r2, r3, r4, r5, r6, r7, r8⟩ := QF.out _ R6.out)
  all_goals (go_wp2_with fail)
  all_goals (go_region_held3 (fun V => V.cell? ⟨w.heap.size, 0, none⟩ = some (.string so) ∧ V.cell? ⟨X, 0, none⟩ = some (.string o0) ∧ V.cell? ⟨gp, op + 7, none⟩ = some (.string p7)) (first | go_keep | exact ⟨R8.out.1.1.1.cell rfl, R8.out.2.cell rfl, R8.out.1.2.2 7 (by simp)⟩ | exact ⟨R7.out.1.1.1.cell rfl, R7.out.2.cell rfl, R7.out.1.2.2 7 (by simp)⟩) (first
    | (go_at_call 55; refine (HE.out _).mono ?_; rintro r w7 ⟨rfl, hB⟩; have R7 := hide' (show Rx w w7 X #[.string so, .int .i64 46, .int .i64 sc, .int .i64 sl, .string D] #[.string o0, .int .i64 (t0 : Int), .int .i64 xc, .int .i64 xl, .string xd] (some ⟨b0, off, none⟩) L gp op [p0, ⟨#[253]⟩, p2, p3, p4, p5, p6, p7, p8] by first | exact R6.out.step hB | exact R6.out.drew.step hB); clear hB)
    | (go_at_call 36; refine (HW.out _).mono ?_; rintro r w8 ⟨rfl, hB⟩; have R8 := hide' (show Rx w w8 X #[.string so, .int .i64 46, .int .i64 sc, .int .i64 sl, .string D] #[.string o0, .int .i64 (t0 : Int), .int .i64 xc, .int .i64 xl, .string xd] (some ⟨b0, off, none⟩) L gp op [p0, ⟨#[253]⟩, p2, p3, p4, p5, p6, p7, p8] by first | exact R7.out.step hB | exact R7.out.drew.step hB); clear hB)))
  all_goals (clear s0 x0 x1 r0 r1 r2 r3 r4 r5 r6 r7 r8)
  all_goals (obtain ⟨s0, x0, x1, r0, r1, r2, r3, r4, r5, r6, r7, r8⟩ := QF.out _ R8.out)
  all_goals (go_wp2_with (first
    | (go_at_call 55; refine (HQ.out _).mono ?_; rintro r w9 ⟨rfl, hB⟩; have R9 := hide' (show Rx w w9 X #[.string so, .int .i64 46, .int .i64 sc, .int .i64 sl, .string D] #[.string o0, .int .i64 (t0 : Int), .int .i64 xc, .int .i64 xl, .string xd] (some ⟨b0, off, none⟩) L gp op [p0, ⟨#[253]⟩, p2, p3, p4, p5, p6, p7, p8] by first | exact R8.out.step hB | exact R8.out.drew.step hB); clear hB; clear s0 x0 x1 r0 r1 r2 r3 r4 r5 r6 r7 r8; obtain ⟨s0, x0, x1, r0, r1, r2, r3, r4, r5, r6, r7, r8⟩ := QF.out _ R9.out)
    | (go_at_call 56; refine (HK.out _).mono ?_; rintro r wa ⟨rfl, hB⟩; have Ra := hide' (show Rx w wa X #[.string so, .int .i64 46, .int .i64 sc, .int .i64 sl, .string D] #[.string o0, .int .i64 (t0 : Int), .int .i64 xc, .int .i64 xl, .string xd] (some ⟨b0, off, none⟩) L gp op [p0, ⟨#[253]⟩, p2, p3, p4, p5, p6, p7, p8] by first | exact R9.out.step hB | exact R9.out.drew.step hB); clear hB; clear s0 x0 x1 r0 r1 r2 r3 r4 r5 r6 r7 r8; obtain ⟨s0, x0, x1, r0, r1, r2, r3, r4, r5, r6, r7, r8⟩ := QF.out _ Ra.out)
    | (go_at_call 54; refine (HV6.out _).mono ?_; rintro r wv ⟨rfl, rfl⟩)
    | (go_at_call 39; refine (HT.out _).mono ?_; rintro r wv ⟨rfl, rfl⟩)))
  all_goals (go_region_held3 (fun V => V.cell? ⟨gp, op + 2, none⟩ = some (.string p2) ∧ V.cell? ⟨X, 0, none⟩ = some (.string o0)) (first | go_keep | exact ⟨Rc.out.1.2.2 2 (by simp), Rc.out.2.cell rfl⟩ | exact ⟨Rb.out.1.2.2 2 (by simp), Rb.out.2.cell rfl⟩) (first
    | (go_at_call 54; refine (HV2.out _).mono ?_; rintro r wb ⟨rfl, hwa⟩; have Rb := hide' (show Rx w wb X #[.string so, .int .i64 46, .int .i64 sc, .int .i64 sl, .string D] #[.string o0, .int .i64 (t0 : Int), .int .i64 xc, .int .i64 xl, .string xd] (some ⟨b0, off, none⟩) L gp op [p0, ⟨#[253]⟩, p2, p3, p4, p5, p6, p7, p8] by first | (rw [hwa]; exact Ra.out) | (rw [hwa]; exact Ra.out.drew)); clear hwa)
    | (go_at_call 38; refine (HL.out _).mono ?_; rintro r wc ⟨rfl, hB⟩; have Rc := hide' (show Rx w wc X #[.string so, .int .i64 46, .int .i64 sc, .int .i64 sl, .string D] #[.string o0, .int .i64 (t0 : Int), .int .i64 xc, .int .i64 xl, .string xd] (some ⟨b0, off, none⟩) L gp op [p0, ⟨#[253]⟩, p2, p3, p4, p5, p6, p7, p8] by first | exact Rb.out.step hB | exact Rb.out.drew.step hB); clear hB)))
  all_goals (clear s0 x0 x1 r0 r1 r2 r3 r4 r5 r6 r7 r8)
  all_goals (obtain ⟨s0, x0, x1, r0, r1, r2, r3, r4, r5, r6, r7, r8⟩ := QF.out _ Rc.out)
  all_goals (have T5 : Hid True := trivial)
  all_goals (go_wp2_with (first
    | (go_at_call 54; have _ := T5; clear T5; refine (HV5.out _).mono ?_; rintro r wv ⟨rfl, rfl⟩)
    | (go_at_call 54; refine (HV4.out _).mono ?_; rintro r wv ⟨rfl, rfl⟩)))
  all_goals go_ret
  all_goals (exact ⟨rfl, by first | exact Rc.out.1.1.2.1 | exact Rc.out.1.1.2.1.drew⟩)
end Go.Proofs.YtennkhdhnbdbeaaGreat

/-
  gazetteerref4.VerifySet, behind its parts. (The verifier's own text.)
-/
namespace Go.Proofs.YtennkhdhnbdbeaaGreat
set_option linter.unusedVariables false
set_option linter.unusedSimpArgs false
open Go.RowKit Go.Shelf Go.Sort Go.Proofs.YtennkhdhnbdbeaaGreat.Nm

set_option maxRecDepth 100000 in
set_option maxHeartbeats 8000000 in
theorem verifyset_sig1 (L : List Rn) (p : Option Addr) (cap : Nat) (so D q dk o0 xd Fm T p0 p1 p2 p3 p4 p5 p6 p7 p8 : ByteArray) (sc sl now lo xc xl : Int) (t0 c0 v2 v4 v5 v6 v8 tg n e pw fg : Nat) (w : World) (hp : 0 < L.length) (nl : Nat) (hnl : 0 < nl) (hat : RsAt w p L) (hx0 : L[0] = ⟨o0, (t0 : Int), xc, xl, xd⟩)
    (HS : Hid (∀ W : World, RsAt W p L → Calls Tryz.prog 35 #[.slice p nl cap] W fun r w' => r = .returned (.bool true) ∧ Below W.heap.size W w'))
    (HZ : Hid (∀ W : World, Calls Tryz.prog 51 #[.agg #[.string so, .int .i64 46, .int .i64 sc, .int .i64 sl, .string D]] W fun r w' => r = .returned (.bool true) ∧ Below W.heap.size W w'))
    (HF : Hid (∀ W : World, Calls Tryz.prog 53 #[.int .i64 46] W fun r w' => r = .returned (.string Fm) ∧ w' = W))
    (HP : Hid (∀ W : World, Calls Tryz.prog 52 #[.string Fm, .string D] W fun r w' => ∃ gp op cp, r = .returned (.tuple #[.slice (some ⟨gp, op, none⟩) 9 cp, .bool true]) ∧ Pt w' gp op [p0, ⟨#[253]⟩, p2, p3, p4, p5, p6, p7, p8] ∧ Below W.heap.size W w'))
    (HV0 : Hid (∀ W : World, Calls Tryz.prog 54 #[.string p0] W fun r w' => r = .returned (.int .i64 (t0 : Int)) ∧ w' = W))
    (HE : Hid (∀ W : World, Calls Tryz.prog 55 #[.string so, .string o0] W fun r w' => r = .returned (.bool true) ∧ Below W.heap.size W w'))
    (HW : Hid (∀ W : World, Calls Tryz.prog 36 #[.string o0, .string p7] W fun r w' => r = .returned (.bool true) ∧ Below W.heap.size W w'))
    (HQ : Hid (∀ W : World, Calls Tryz.prog 55 #[.string q, .string p7] W fun r w' => r = .returned (.bool true) ∧ Below W.heap.size W w'))
    (HK : Hid (∀ W : World, Calls Tryz.prog 56 #[.string dk] W fun r w' => r = .returned (.bool true) ∧ Below W.heap.size W w'))
    (HV6 : Hid (∀ W : World, Calls Tryz.prog 54 #[.string p6] W fun r w' => r = .returned (.int .i64 (v6 : Int)) ∧ w' = W))
    (HT : Hid (∀ W : World, Calls Tryz.prog 39 #[.string dk] W fun r w' => r = .returned (.int .i64 (v6 : Int)) ∧ w' = W))
    (HV2 : Hid (∀ W : World, Calls Tryz.prog 54 #[.string p2] W fun r w' => r = .returned (.int .i64 (v2 : Int)) ∧ w' = W))
    (HL : Hid (∀ W : World, Calls Tryz.prog 38 #[.string o0] W fun r w' => r = .returned (.int .i64 lo) ∧ Below W.heap.size W w'))
    (HV5 : Hid (∀ W : World, Calls Tryz.prog 54 #[.string p5] W fun r w' => r = .returned (.int .i64 (v5 : Int)) ∧ w' = W))
    (HV4 : Hid (∀ W : World, Calls Tryz.prog 54 #[.string p4] W fun r w' => r = .returned (.int .i64 (v4 : Int)) ∧ w' = W))
    (HN1 : Hid (∀ W : World, Calls Tryz.prog 54 #[.string (dk.extract 4 8)] W fun r w' => r = .returned (.int .i64 (n : Int)) ∧ w' = W))
    (HN2 : Hid (∀ W : World, Calls Tryz.prog 54 #[.string (dk.extract 8 12)] W fun r w' => r = .returned (.int .i64 (e : Int)) ∧ w' = W)) (hlo : ¬ lo < (v2 : Int)) (hnow : ¬ now < (v5 : Int)) (hlat : ¬ (v4 : Int) < now) (hd12 : dk.size = 12) (hx4 : ¬ p8.size = 4) (hxz : p8.size ≤ 65535) :
    Calls Tryz.prog 12 #[.slice p nl cap, .agg #[.string so, .int .i64 46, .int .i64 sc, .int .i64 sl, .string D], .string q, .string dk, .int .i64 now] w fun r w' => r = .returned (.int .i64 26) ∧ Below w.heap.size w w' := by
  have hdi : (dk.size : Int) = 12 := by omega
  have hxi : ¬ (p8.size : Int) = 4 := by omega
  obtain ⟨W0, hW0⟩ : ∃ W0, w.alloc (.cells #[.string so, .int .i64 46, .int .i64 sc, .int .i64 sl, .string D] 27) = W0 := ⟨_, rfl⟩
  have V0 := hide' (Vs.start w #[.string so, .int .i64 46, .int .i64 sc, .int .i64 sl, .string D] p L hat)
  rw [hW0] at V0
  have HFI : Hid (∀ V : World, RsAt V p L → ∃ g off, p = some ⟨g, off, none⟩ ∧ V.cell? ⟨g, off, none⟩ = some (.string o0) ∧ V.cell? ⟨g, off + 1, none⟩ = some (.int .i64 (t0 : Int)) ∧ V.cell? ⟨g, off + 2, none⟩ = some (.int .i64 xc) ∧ V.cell? ⟨g, off + 3, none⟩ = some (.int .i64 xl) ∧ V.cell? ⟨g, off + 4, none⟩ = some (.string xd)) := fun V hV => by
    obtain ⟨g, off, hp2, hg, e0, e1, e2, e3, e4⟩ := hV 0 hp
    rw [Nat.zero_mul, Nat.add_zero, hx0] at e0 e1 e2 e3 e4
    exact ⟨g, off, hp2, e0, e1, e2, e3, e4⟩
  obtain ⟨b0, off, hpp, -⟩ := HFI.out _ hat
  subst hpp
  have HF2 : Hid (∀ V : World, RsAt V (some ⟨b0, off, none⟩) L → V.cell? ⟨b0, off, none⟩ = some (.string o0) ∧ V.cell? ⟨b0, off + 1, none⟩ = some (.int .i64 (t0 : Int)) ∧ V.cell? ⟨b0, off + 2, none⟩ = some (.int .i64 xc) ∧ V.cell? ⟨b0, off + 3, none⟩ = some (.int .i64 xl) ∧ V.cell? ⟨b0, off + 4, none⟩ = some (.string xd)) := fun V hV => by
    obtain ⟨g', off', hg, e0, e1, e2, e3, e4⟩ := HFI.out V hV
    injection hg with hg; injection hg with h1 h2; subst h1; subst h2
    exact ⟨e0, e1, e2, e3, e4⟩
  have hpi : ¬ (nl : Int) = 0 := by omega
  have hpj : (0 : Int) < (nl : Int) := by omega
  have HC : Hid (∀ V : World, Vs w V #[.string so, .int .i64 46, .int .i64 sc, .int .i64 sl, .string D] (some ⟨b0, off, none⟩) L → V.cell? ⟨w.heap.size, 0, none⟩ = some (.string so) ∧ V.cell? ⟨w.heap.size, 1, none⟩ = some (.int .i64 46) ∧ V.cell? ⟨w.heap.size, 2, none⟩ = some (.int .i64 sc) ∧ V.cell? ⟨w.heap.size, 3, none⟩ = some (.int .i64 sl) ∧ V.cell? ⟨w.heap.size, 4, none⟩ = some (.string D)) := fun V h => ⟨h.1.cell rfl, h.1.cell rfl, h.1.cell rfl, h.1.cell rfl, h.1.cell rfl⟩
  clear HFI hat hx0 hp
  go_enter Tryz.func12, Tryz.ntmps12
  go_wp2_with (first
    | (go_at_call 35; refine (HS.out _ V0.out.2.2).mono ?_; rintro r w1 ⟨rfl, hB⟩; have V1 := hide' (V0.out.step hB); clear hB; obtain ⟨s0, s1, s2, s3, s4⟩ := HC.out _ V1.out)
    | (go_at_call 51; refine (HZ.out _).mono ?_; rintro r w2 ⟨rfl, hB⟩; have V2 := hide' (V1.out.step hB); clear hB s0 s1 s2 s3 s4; obtain ⟨s0, s1, s2, s3, s4⟩ := HC.out _ V2.out))
  go_region_held3 (fun V => V.cell? ⟨w.heap.size, 4, none⟩ = some (.string D)) (first | go_keep | exact R4.out.1.1.cell rfl | exact V3.out.1.cell rfl) (first
    | (go_at_call 53; refine (HF.out _).mono ?_; rintro r w3 ⟨rfl, hwa⟩; have V3 := hide' (show Vs w w3 #[.string so, .int .i64 46, .int .i64 sc, .int .i64 sl, .string D] (some ⟨b0, off, none⟩) L by first | (rw [hwa]; exact V2.out) | (rw [hwa]; exact V2.out.drew)); clear hwa)
    | (go_at_call 52; refine (HP.out _).mono ?_; rintro r w4 ⟨gp, op, cp, rfl, hpt, hB⟩; have R4 := hide' (show Rw w w4 #[.string so, .int .i64 46, .int .i64 sc, .int .i64 sl, .string D] (some ⟨b0, off, none⟩) L gp op [p0, ⟨#[253]⟩, p2, p3, p4, p5, p6, p7, p8] from ⟨by first | exact V3.out.step hB | exact V3.out.drew.step hB, hpt⟩); clear hB hpt))
  clear s0 s1 s2 s3 s4 V0 V1 V2 V3 HS HZ HF HP HC
  obtain ⟨e0, e1, e2, e3, e4⟩ := HF2.out _ R4.out.1.2.2
  have R5 := hide' (Rx.start R4.out #[.string o0, .int .i64 (t0 : Int), .int .i64 xc, .int .i64 xl, .string xd])
  go_wp2_with fail
  obtain ⟨W5, hW5⟩ : ∃ W5, w4.alloc (.cells #[.string o0, .int .i64 (t0 : Int), .int .i64 xc, .int .i64 xl, .string xd] 27) = W5 := ⟨_, rfl⟩
  obtain ⟨X, hX⟩ : ∃ X, w4.heap.size = X := ⟨_, rfl⟩
  rw [hW5, hX] at R5
  simp only [hW5, hX]
  clear hW5 hX hW0 R4 e0 e1 e2 e3 e4 HF2
  have QF : Hid (∀ V : World, Rx w V X #[.string so, .int .i64 46, .int .i64 sc, .int .i64 sl, .string D] #[.string o0, .int .i64 (t0 : Int), .int .i64 xc, .int .i64 xl, .string xd] (some ⟨b0, off, none⟩) L gp op [p0, ⟨#[253]⟩, p2, p3, p4, p5, p6, p7, p8] → V.cell? ⟨w.heap.size, 0, none⟩ = some (.string so) ∧ V.cell? ⟨X, 0, none⟩ = some (.string o0) ∧ V.cell? ⟨X, 1, none⟩ = some (.int .i64 (t0 : Int)) ∧ V.cell? ⟨gp, op, none⟩ = some (.string p0) ∧ V.cell? ⟨gp, op + 1, none⟩ = some (.string ⟨#[253]⟩) ∧ V.cell? ⟨gp, op + 2, none⟩ = some (.string p2) ∧ V.cell? ⟨gp, op + 3, none⟩ = some (.string p3) ∧ V.cell? ⟨gp, op + 4, none⟩ = some (.string p4) ∧ V.cell? ⟨gp, op + 5, none⟩ = some (.string p5) ∧ V.cell? ⟨gp, op + 6, none⟩ = some (.string p6) ∧ V.cell? ⟨gp, op + 7, none⟩ = some (.string p7) ∧ V.cell? ⟨gp, op + 8, none⟩ = some (.string p8)) := fun V h => ⟨h.1.1.1.cell rfl, h.2.cell rfl, h.2.cell rfl, h.1.2.2 0 (by simp), h.1.2.2 1 (by simp), h.1.2.2 2 (by simp), h.1.2.2 3 (by simp), h.1.2.2 4 (by simp), h.1.2.2 5 (by simp), h.1.2.2 6 (by simp), h.1.2.2 7 (by simp), h.1.2.2 8 (by simp)⟩
  obtain ⟨s0, x0, x1, r0, r1, r2, r3, r4, r5, r6, r7, r8⟩ := QF.out _ R5.out
  all_goals (go_region_held3 (fun V => V.cell? ⟨gp, op, none⟩ = some (.string p0) ∧ V.cell? ⟨X, 1, none⟩ = some (.int .i64 (t0 : Int))) (first | go_keep | exact ⟨R6.out.1.2.2 0 (by simp), R6.out.2.cell rfl⟩) (first
    | (go_at_call 54; refine (HV0.out _).mono ?_; rintro r w6 ⟨rfl, hwa⟩; have R6 := hide' (show Rx w w6 X #[.string so, .int .i64 46, .int .i64 sc, .int .i64 sl, .string D] #[.string o0, .int .i64 (t0 : Int), .int .i64 xc, .int .i64 xl, .string xd] (some ⟨b0, off, none⟩) L gp op [p0, ⟨#[253]⟩, p2, p3, p4, p5, p6, p7, p8] by first | (rw [hwa]; exact R5.out) | (rw [hwa]; exact R5.out.drew)); clear hwa)))
  all_goals (clear s0 x0 x1 r0 r1 r2 r3 r4 r5 r6 r7 r8)
  all_goals (obtain ⟨s0, x0, x1, r0, r1, r2, r3, r4, r5, r6, r7, r8⟩ := QF.out _ R6.out)
  all_goals (go_wp2_with fail)
  all_goals (go_region_held3 (fun V => V.cell? ⟨w.heap.size, 0, none⟩ = some (.string so) ∧ V.cell? ⟨X, 0, none⟩ = some (.string o0) ∧ V.cell? ⟨gp, op + 7, none⟩ = some (.string p7)) (first | go_keep | exact ⟨R8.out.1.1.1.cell rfl, R8.out.2.cell rfl, R8.out.1.2.2 7 (by simp)⟩ | exact ⟨R7.out.1.1.1.cell rfl, R7.out.2.cell rfl, R7.out.1.2.2 7 (by simp)⟩) (first
    | (go_at_call 55; refine (HE.out _).mono ?_; rintro r w7 ⟨rfl, hB⟩; have R7 := hide' (show Rx w w7 X #[.string so, .int .i64 46, .int .i64 sc, .int .i64 sl, .string D] #[.string o0, .int .i64 (t0 : Int), .int .i64 xc, .int .i64 xl, .string xd] (some ⟨b0, off, none⟩) L gp op [p0, ⟨#[253]⟩, p2, p3, p4, p5, p6, p7, p8] by first | exact R6.out.step hB | exact R6.out.drew.step hB); clear hB)
    | (go_at_call 36; refine (HW.out _).mono ?_; rintro r w8 ⟨rfl, hB⟩; have R8 := hide' (show Rx w w8 X #[.string so, .int .i64 46, .int .i64 sc, .int .i64 sl, .string D] #[.string o0, .int .i64 (t0 : Int), .int .i64 xc, .int .i64 xl, .string xd] (some ⟨b0, off, none⟩) L gp op [p0, ⟨#[253]⟩, p2, p3, p4, p5, p6, p7, p8] by first | exact R7.out.step hB | exact R7.out.drew.step hB); clear hB)))
  all_goals (clear s0 x0 x1 r0 r1 r2 r3 r4 r5 r6 r7 r8)
  all_goals (obtain ⟨s0, x0, x1, r0, r1, r2, r3, r4, r5, r6, r7, r8⟩ := QF.out _ R8.out)
  all_goals (go_wp2_with (first
    | (go_at_call 55; refine (HQ.out _).mono ?_; rintro r w9 ⟨rfl, hB⟩; have R9 := hide' (show Rx w w9 X #[.string so, .int .i64 46, .int .i64 sc, .int .i64 sl, .string D] #[.string o0, .int .i64 (t0 : Int), .int .i64 xc, .int .i64 xl, .string xd] (some ⟨b0, off, none⟩) L gp op [p0, ⟨#[253]⟩, p2, p3, p4, p5, p6, p7, p8] by first | exact R8.out.step hB | exact R8.out.drew.step hB); clear hB; clear s0 x0 x1 r0 r1 r2 r3 r4 r5 r6 r7 r8; obtain ⟨s0, x0, x1, r0, r1, r2, r3, r4, r5, r6, r7, r8⟩ := QF.out _ R9.out)
    | (go_at_call 56; refine (HK.out _).mono ?_; rintro r wa ⟨rfl, hB⟩; have Ra := hide' (show Rx w wa X #[.string so, .int .i64 46, .int .i64 sc, .int .i64 sl, .string D] #[.string o0, .int .i64 (t0 : Int), .int .i64 xc, .int .i64 xl, .string xd] (some ⟨b0, off, none⟩) L gp op [p0, ⟨#[253]⟩, p2, p3, p4, p5, p6, p7, p8] by first | exact R9.out.step hB | exact R9.out.drew.step hB); clear hB; clear s0 x0 x1 r0 r1 r2 r3 r4 r5 r6 r7 r8; obtain ⟨s0, x0, x1, r0, r1, r2, r3, r4, r5, r6, r7, r8⟩ := QF.out _ Ra.out)
    | (go_at_call 54; refine (HV6.out _).mono ?_; rintro r wv ⟨rfl, rfl⟩)
    | (go_at_call 39; refine (HT.out _).mono ?_; rintro r wv ⟨rfl, rfl⟩)))
  all_goals (go_region_held3 (fun V => V.cell? ⟨gp, op + 2, none⟩ = some (.string p2) ∧ V.cell? ⟨X, 0, none⟩ = some (.string o0)) (first | go_keep | exact ⟨Rc.out.1.2.2 2 (by simp), Rc.out.2.cell rfl⟩ | exact ⟨Rb.out.1.2.2 2 (by simp), Rb.out.2.cell rfl⟩) (first
    | (go_at_call 54; refine (HV2.out _).mono ?_; rintro r wb ⟨rfl, hwa⟩; have Rb := hide' (show Rx w wb X #[.string so, .int .i64 46, .int .i64 sc, .int .i64 sl, .string D] #[.string o0, .int .i64 (t0 : Int), .int .i64 xc, .int .i64 xl, .string xd] (some ⟨b0, off, none⟩) L gp op [p0, ⟨#[253]⟩, p2, p3, p4, p5, p6, p7, p8] by first | (rw [hwa]; exact Ra.out) | (rw [hwa]; exact Ra.out.drew)); clear hwa)
    | (go_at_call 38; refine (HL.out _).mono ?_; rintro r wc ⟨rfl, hB⟩; have Rc := hide' (show Rx w wc X #[.string so, .int .i64 46, .int .i64 sc, .int .i64 sl, .string D] #[.string o0, .int .i64 (t0 : Int), .int .i64 xc, .int .i64 xl, .string xd] (some ⟨b0, off, none⟩) L gp op [p0, ⟨#[253]⟩, p2, p3, p4, p5, p6, p7, p8] by first | exact Rb.out.step hB | exact Rb.out.drew.step hB); clear hB)))
  all_goals (clear s0 x0 x1 r0 r1 r2 r3 r4 r5 r6 r7 r8)
  all_goals (obtain ⟨s0, x0, x1, r0, r1, r2, r3, r4, r5, r6, r7, r8⟩ := QF.out _ Rc.out)
  all_goals (have T5 : Hid True := trivial)
  all_goals (go_wp2_with (first
    | (go_at_call 54; have _ := T5; clear T5; refine (HV5.out _).mono ?_; rintro r wv ⟨rfl, rfl⟩)
    | (go_at_call 54; refine (HV4.out _).mono ?_; rintro r wv ⟨rfl, rfl⟩)))
  all_goals (have T5 : Hid True := trivial)
  all_goals (go_region_held3 (fun V => V.cell? ⟨gp, op + 8, none⟩ = some (.string p8)) (first | go_keep | exact Re.out.1.2.2 8 (by simp) | exact Rd.out.1.2.2 8 (by simp)) (first
    | (go_at_call 54; have _ := T5; clear T5; refine (HN1.out _).mono ?_; rintro r wd ⟨rfl, hwa⟩; have Rd := hide' (show Rx w wd X #[.string so, .int .i64 46, .int .i64 sc, .int .i64 sl, .string D] #[.string o0, .int .i64 (t0 : Int), .int .i64 xc, .int .i64 xl, .string xd] (some ⟨b0, off, none⟩) L gp op [p0, ⟨#[253]⟩, p2, p3, p4, p5, p6, p7, p8] by first | (rw [hwa]; exact Rc.out) | (rw [hwa]; exact Rc.out.drew)); clear hwa)
    | (go_at_call 54; refine (HN2.out _).mono ?_; rintro r we ⟨rfl, hwa⟩; have Re := hide' (show Rx w we X #[.string so, .int .i64 46, .int .i64 sc, .int .i64 sl, .string D] #[.string o0, .int .i64 (t0 : Int), .int .i64 xc, .int .i64 xl, .string xd] (some ⟨b0, off, none⟩) L gp op [p0, ⟨#[253]⟩, p2, p3, p4, p5, p6, p7, p8] by first | (rw [hwa]; exact Rd.out) | (rw [hwa]; exact Rd.out.drew)); clear hwa)))
  all_goals (clear s0 x0 x1 r0 r1 r2 r3 r4 r5 r6 r7 r8)
  all_goals (obtain ⟨s0, x0, x1, r0, r1, r2, r3, r4, r5, r6, r7, r8⟩ := QF.out _ Re.out)
  all_goals (go_wp2_with fail)
  all_goals go_ret
  all_goals (exact ⟨rfl, by first | exact Re.out.1.1.2.1 | exact Re.out.1.1.2.1.drew⟩)
set_option maxRecDepth 100000 in
set_option maxHeartbeats 8000000 in
theorem verifyset_sig2 (L : List Rn) (p : Option Addr) (cap : Nat) (so D q dk o0 xd Fm T p0 p1 p2 p3 p4 p5 p6 p7 p8 : ByteArray) (sc sl now lo xc xl : Int) (t0 c0 v2 v4 v5 v6 v8 tg n e pw fg : Nat) (w : World) (hp : 0 < L.length) (nl : Nat) (hnl : 0 < nl) (hat : RsAt w p L) (hx0 : L[0] = ⟨o0, (t0 : Int), xc, xl, xd⟩)
    (HS : Hid (∀ W : World, RsAt W p L → Calls Tryz.prog 35 #[.slice p nl cap] W fun r w' => r = .returned (.bool true) ∧ Below W.heap.size W w'))
    (HZ : Hid (∀ W : World, Calls Tryz.prog 51 #[.agg #[.string so, .int .i64 46, .int .i64 sc, .int .i64 sl, .string D]] W fun r w' => r = .returned (.bool true) ∧ Below W.heap.size W w'))
    (HF : Hid (∀ W : World, Calls Tryz.prog 53 #[.int .i64 46] W fun r w' => r = .returned (.string Fm) ∧ w' = W))
    (HP : Hid (∀ W : World, Calls Tryz.prog 52 #[.string Fm, .string D] W fun r w' => ∃ gp op cp, r = .returned (.tuple #[.slice (some ⟨gp, op, none⟩) 9 cp, .bool true]) ∧ Pt w' gp op [p0, ⟨#[253]⟩, p2, p3, p4, p5, p6, p7, p8] ∧ Below W.heap.size W w'))
    (HV0 : Hid (∀ W : World, Calls Tryz.prog 54 #[.string p0] W fun r w' => r = .returned (.int .i64 (t0 : Int)) ∧ w' = W))
    (HE : Hid (∀ W : World, Calls Tryz.prog 55 #[.string so, .string o0] W fun r w' => r = .returned (.bool true) ∧ Below W.heap.size W w'))
    (HW : Hid (∀ W : World, Calls Tryz.prog 36 #[.string o0, .string p7] W fun r w' => r = .returned (.bool true) ∧ Below W.heap.size W w'))
    (HQ : Hid (∀ W : World, Calls Tryz.prog 55 #[.string q, .string p7] W fun r w' => r = .returned (.bool true) ∧ Below W.heap.size W w'))
    (HK : Hid (∀ W : World, Calls Tryz.prog 56 #[.string dk] W fun r w' => r = .returned (.bool true) ∧ Below W.heap.size W w'))
    (HV6 : Hid (∀ W : World, Calls Tryz.prog 54 #[.string p6] W fun r w' => r = .returned (.int .i64 (v6 : Int)) ∧ w' = W))
    (HT : Hid (∀ W : World, Calls Tryz.prog 39 #[.string dk] W fun r w' => r = .returned (.int .i64 (v6 : Int)) ∧ w' = W))
    (HV2 : Hid (∀ W : World, Calls Tryz.prog 54 #[.string p2] W fun r w' => r = .returned (.int .i64 (v2 : Int)) ∧ w' = W))
    (HL : Hid (∀ W : World, Calls Tryz.prog 38 #[.string o0] W fun r w' => r = .returned (.int .i64 lo) ∧ Below W.heap.size W w'))
    (HV5 : Hid (∀ W : World, Calls Tryz.prog 54 #[.string p5] W fun r w' => r = .returned (.int .i64 (v5 : Int)) ∧ w' = W))
    (HV4 : Hid (∀ W : World, Calls Tryz.prog 54 #[.string p4] W fun r w' => r = .returned (.int .i64 (v4 : Int)) ∧ w' = W))
    (HN1 : Hid (∀ W : World, Calls Tryz.prog 54 #[.string (dk.extract 4 8)] W fun r w' => r = .returned (.int .i64 (n : Int)) ∧ w' = W))
    (HN2 : Hid (∀ W : World, Calls Tryz.prog 54 #[.string (dk.extract 8 12)] W fun r w' => r = .returned (.int .i64 (e : Int)) ∧ w' = W))
    (HV8 : Hid (∀ W : World, Calls Tryz.prog 54 #[.string p8] W fun r w' => r = .returned (.int .i64 (v8 : Int)) ∧ w' = W)) (hlo : ¬ lo < (v2 : Int)) (hnow : ¬ now < (v5 : Int)) (hlat : ¬ (v4 : Int) < now) (hd12 : dk.size = 12) (hx4 : p8.size = 4) (hvn : ¬ v8 < n) :
    Calls Tryz.prog 12 #[.slice p nl cap, .agg #[.string so, .int .i64 46, .int .i64 sc, .int .i64 sl, .string D], .string q, .string dk, .int .i64 now] w fun r w' => r = .returned (.int .i64 26) ∧ Below w.heap.size w w' := by
  have hdi : (dk.size : Int) = 12 := by omega
  have hxi : (p8.size : Int) = 4 := by omega
  have hvi : (n : Int) ≤ (v8 : Int) := by omega
  obtain ⟨W0, hW0⟩ : ∃ W0, w.alloc (.cells #[.string so, .int .i64 46, .int .i64 sc, .int .i64 sl, .string D] 27) = W0 := ⟨_, rfl⟩
  have V0 := hide' (Vs.start w #[.string so, .int .i64 46, .int .i64 sc, .int .i64 sl, .string D] p L hat)
  rw [hW0] at V0
  have HFI : Hid (∀ V : World, RsAt V p L → ∃ g off, p = some ⟨g, off, none⟩ ∧ V.cell? ⟨g, off, none⟩ = some (.string o0) ∧ V.cell? ⟨g, off + 1, none⟩ = some (.int .i64 (t0 : Int)) ∧ V.cell? ⟨g, off + 2, none⟩ = some (.int .i64 xc) ∧ V.cell? ⟨g, off + 3, none⟩ = some (.int .i64 xl) ∧ V.cell? ⟨g, off + 4, none⟩ = some (.string xd)) := fun V hV => by
    obtain ⟨g, off, hp2, hg, e0, e1, e2, e3, e4⟩ := hV 0 hp
    rw [Nat.zero_mul, Nat.add_zero, hx0] at e0 e1 e2 e3 e4
    exact ⟨g, off, hp2, e0, e1, e2, e3, e4⟩
  obtain ⟨b0, off, hpp, -⟩ := HFI.out _ hat
  subst hpp
  have HF2 : Hid (∀ V : World, RsAt V (some ⟨b0, off, none⟩) L → V.cell? ⟨b0, off, none⟩ = some (.string o0) ∧ V.cell? ⟨b0, off + 1, none⟩ = some (.int .i64 (t0 : Int)) ∧ V.cell? ⟨b0, off + 2, none⟩ = some (.int .i64 xc) ∧ V.cell? ⟨b0, off + 3, none⟩ = some (.int .i64 xl) ∧ V.cell? ⟨b0, off + 4, none⟩ = some (.string xd)) := fun V hV => by
    obtain ⟨g', off', hg, e0, e1, e2, e3, e4⟩ := HFI.out V hV
    injection hg with hg; injection hg with h1 h2; subst h1; subst h2
    exact ⟨e0, e1, e2, e3, e4⟩
  have hpi : ¬ (nl : Int) = 0 := by omega
  have hpj : (0 : Int) < (nl : Int) := by omega
  have HC : Hid (∀ V : World, Vs w V #[.string so, .int .i64 46, .int .i64 sc, .int .i64 sl, .string D] (some ⟨b0, off, none⟩) L → V.cell? ⟨w.heap.size, 0, none⟩ = some (.string so) ∧ V.cell? ⟨w.heap.size, 1, none⟩ = some (.int .i64 46) ∧ V.cell? ⟨w.heap.size, 2, none⟩ = some (.int .i64 sc) ∧ V.cell? ⟨w.heap.size, 3, none⟩ = some (.int .i64 sl) ∧ V.cell? ⟨w.heap.size, 4, none⟩ = some (.string D)) := fun V h => ⟨h.1.cell rfl, h.1.cell rfl, h.1.cell rfl, h.1.cell rfl, h.1.cell rfl⟩
  clear HFI hat hx0 hp
  go_enter Tryz.func12, Tryz.ntmps12
  go_wp2_with (first
    | (go_at_call 35; refine (HS.out _ V0.out.2.2).mono ?_; rintro r w1 ⟨rfl, hB⟩; have V1 := hide' (V0.out.step hB); clear hB; obtain ⟨s0, s1, s2, s3, s4⟩ := HC.out _ V1.out)
    | (go_at_call 51; refine (HZ.out _).mono ?_; rintro r w2 ⟨rfl, hB⟩; have V2 := hide' (V1.out.step hB); clear hB s0 s1 s2 s3 s4; obtain ⟨s0, s1, s2, s3, s4⟩ := HC.out _ V2.out))
  go_region_held3 (fun V => V.cell? ⟨w.heap.size, 4, none⟩ = some (.string D)) (first | go_keep | exact R4.out.1.1.cell rfl | exact V3.out.1.cell rfl) (first
    | (go_at_call 53; refine (HF.out _).mono ?_; rintro r w3 ⟨rfl, hwa⟩; have V3 := hide' (show Vs w w3 #[.string so, .int .i64 46, .int .i64 sc, .int .i64 sl, .string D] (some ⟨b0, off, none⟩) L by first | (rw [hwa]; exact V2.out) | (rw [hwa]; exact V2.out.drew)); clear hwa)
    | (go_at_call 52; refine (HP.out _).mono ?_; rintro r w4 ⟨gp, op, cp, rfl, hpt, hB⟩; have R4 := hide' (show Rw w w4 #[.string so, .int .i64 46, .int .i64 sc, .int .i64 sl, .string D] (some ⟨b0, off, none⟩) L gp op [p0, ⟨#[253]⟩, p2, p3, p4, p5, p6, p7, p8] from ⟨by first | exact V3.out.step hB | exact V3.out.drew.step hB, hpt⟩); clear hB hpt))
  clear s0 s1 s2 s3 s4 V0 V1 V2 V3 HS HZ HF HP HC
  obtain ⟨e0, e1, e2, e3, e4⟩ := HF2.out _ R4.out.1.2.2
  have R5 := hide' (Rx.start R4.out #[.string o0, .int .i64 (t0 : Int), .int .i64 xc, .int .i64 xl, .string xd])
  go_wp2_with fail
  obtain ⟨W5, hW5⟩ : ∃ W5, w4.alloc (.cells #[.string o0, .int .i64 (t0 : Int), .int .i64 xc, .int .i64 xl, .string xd] 27) = W5 := ⟨_, rfl⟩
  obtain ⟨X, hX⟩ : ∃ X, w4.heap.size = X := ⟨_, rfl⟩
  rw [hW5, hX] at R5
  simp only [hW5, hX]
  clear hW5 hX hW0 R4 e0 e1 e2 e3 e4 HF2
  have QF : Hid (∀ V : World, Rx w V X #[.string so, .int .i64 46, .int .i64 sc, .int .i64 sl, .string D] #[.string o0, .int .i64 (t0 : Int), .int .i64 xc, .int .i64 xl, .string xd] (some ⟨b0, off, none⟩) L gp op [p0, ⟨#[253]⟩, p2, p3, p4, p5, p6, p7, p8] → V.cell? ⟨w.heap.size, 0, none⟩ = some (.string so) ∧ V.cell? ⟨X, 0, none⟩ = some (.string o0) ∧ V.cell? ⟨X, 1, none⟩ = some (.int .i64 (t0 : Int)) ∧ V.cell? ⟨gp, op, none⟩ = some (.string p0) ∧ V.cell? ⟨gp, op + 1, none⟩ = some (.string ⟨#[253]⟩) ∧ V.cell? ⟨gp, op + 2, none⟩ = some (.string p2) ∧ V.cell? ⟨gp, op + 3, none⟩ = some (.string p3) ∧ V.cell? ⟨gp, op + 4, none⟩ = some (.string p4) ∧ V.cell? ⟨gp, op + 5, none⟩ = some (.string p5) ∧ V.cell? ⟨gp, op + 6, none⟩ = some (.string p6) ∧ V.cell? ⟨gp, op + 7, none⟩ = some (.string p7) ∧ V.cell? ⟨gp, op + 8, none⟩ = some (.string p8)) := fun V h => ⟨h.1.1.1.cell rfl, h.2.cell rfl, h.2.cell rfl, h.1.2.2 0 (by simp), h.1.2.2 1 (by simp), h.1.2.2 2 (by simp), h.1.2.2 3 (by simp), h.1.2.2 4 (by simp), h.1.2.2 5 (by simp), h.1.2.2 6 (by simp), h.1.2.2 7 (by simp), h.1.2.2 8 (by simp)⟩
  obtain ⟨s0, x0, x1, r0, r1, r2, r3, r4, r5, r6, r7, r8⟩ := QF.out _ R5.out
  all_goals (go_region_held3 (fun V => V.cell? ⟨gp, op, none⟩ = some (.string p0) ∧ V.cell? ⟨X, 1, none⟩ = some (.int .i64 (t0 : Int))) (first | go_keep | exact ⟨R6.out.1.2.2 0 (by simp), R6.out.2.cell rfl⟩) (first
    | (go_at_call 54; refine (HV0.out _).mono ?_; rintro r w6 ⟨rfl, hwa⟩; have R6 := hide' (show Rx w w6 X #[.string so, .int .i64 46, .int .i64 sc, .int .i64 sl, .string D] #[.string o0, .int .i64 (t0 : Int), .int .i64 xc, .int .i64 xl, .string xd] (some ⟨b0, off, none⟩) L gp op [p0, ⟨#[253]⟩, p2, p3, p4, p5, p6, p7, p8] by first | (rw [hwa]; exact R5.out) | (rw [hwa]; exact R5.out.drew)); clear hwa)))
  all_goals (clear s0 x0 x1 r0 r1 r2 r3 r4 r5 r6 r7 r8)
  all_goals (obtain ⟨s0, x0, x1, r0, r1, r2, r3, r4, r5, r6, r7, r8⟩ := QF.out _ R6.out)
  all_goals (go_wp2_with fail)
  all_goals (go_region_held3 (fun V => V.cell? ⟨w.heap.size, 0, none⟩ = some (.string so) ∧ V.cell? ⟨X, 0, none⟩ = some (.string o0) ∧ V.cell? ⟨gp, op + 7, none⟩ = some (.string p7)) (first | go_keep | exact ⟨R8.out.1.1.1.cell rfl, R8.out.2.cell rfl, R8.out.1.2.2 7 (by simp)⟩ | exact ⟨R7.out.1.1.1.cell rfl, R7.out.2.cell rfl, R7.out.1.2.2 7 (by simp)⟩) (first
    | (go_at_call 55; refine (HE.out _).mono ?_; rintro r w7 ⟨rfl, hB⟩; have R7 := hide' (show Rx w w7 X #[.string so, .int .i64 46, .int .i64 sc, .int .i64 sl, .string D] #[.string o0, .int .i64 (t0 : Int), .int .i64 xc, .int .i64 xl, .string xd] (some ⟨b0, off, none⟩) L gp op [p0, ⟨#[253]⟩, p2, p3, p4, p5, p6, p7, p8] by first | exact R6.out.step hB | exact R6.out.drew.step hB); clear hB)
    | (go_at_call 36; refine (HW.out _).mono ?_; rintro r w8 ⟨rfl, hB⟩; have R8 := hide' (show Rx w w8 X #[.string so, .int .i64 46, .int .i64 sc, .int .i64 sl, .string D] #[.string o0, .int .i64 (t0 : Int), .int .i64 xc, .int .i64 xl, .string xd] (some ⟨b0, off, none⟩) L gp op [p0, ⟨#[253]⟩, p2, p3, p4, p5, p6, p7, p8] by first | exact R7.out.step hB | exact R7.out.drew.step hB); clear hB)))
  all_goals (clear s0 x0 x1 r0 r1 r2 r3 r4 r5 r6 r7 r8)
  all_goals (obtain ⟨s0, x0, x1, r0, r1, r2, r3, r4, r5, r6, r7, r8⟩ := QF.out _ R8.out)
  all_goals (go_wp2_with (first
    | (go_at_call 55; refine (HQ.out _).mono ?_; rintro r w9 ⟨rfl, hB⟩; have R9 := hide' (show Rx w w9 X #[.string so, .int .i64 46, .int .i64 sc, .int .i64 sl, .string D] #[.string o0, .int .i64 (t0 : Int), .int .i64 xc, .int .i64 xl, .string xd] (some ⟨b0, off, none⟩) L gp op [p0, ⟨#[253]⟩, p2, p3, p4, p5, p6, p7, p8] by first | exact R8.out.step hB | exact R8.out.drew.step hB); clear hB; clear s0 x0 x1 r0 r1 r2 r3 r4 r5 r6 r7 r8; obtain ⟨s0, x0, x1, r0, r1, r2, r3, r4, r5, r6, r7, r8⟩ := QF.out _ R9.out)
    | (go_at_call 56; refine (HK.out _).mono ?_; rintro r wa ⟨rfl, hB⟩; have Ra := hide' (show Rx w wa X #[.string so, .int .i64 46, .int .i64 sc, .int .i64 sl, .string D] #[.string o0, .int .i64 (t0 : Int), .int .i64 xc, .int .i64 xl, .string xd] (some ⟨b0, off, none⟩) L gp op [p0, ⟨#[253]⟩, p2, p3, p4, p5, p6, p7, p8] by first | exact R9.out.step hB | exact R9.out.drew.step hB); clear hB; clear s0 x0 x1 r0 r1 r2 r3 r4 r5 r6 r7 r8; obtain ⟨s0, x0, x1, r0, r1, r2, r3, r4, r5, r6, r7, r8⟩ := QF.out _ Ra.out)
    | (go_at_call 54; refine (HV6.out _).mono ?_; rintro r wv ⟨rfl, rfl⟩)
    | (go_at_call 39; refine (HT.out _).mono ?_; rintro r wv ⟨rfl, rfl⟩)))
  all_goals (go_region_held3 (fun V => V.cell? ⟨gp, op + 2, none⟩ = some (.string p2) ∧ V.cell? ⟨X, 0, none⟩ = some (.string o0)) (first | go_keep | exact ⟨Rc.out.1.2.2 2 (by simp), Rc.out.2.cell rfl⟩ | exact ⟨Rb.out.1.2.2 2 (by simp), Rb.out.2.cell rfl⟩) (first
    | (go_at_call 54; refine (HV2.out _).mono ?_; rintro r wb ⟨rfl, hwa⟩; have Rb := hide' (show Rx w wb X #[.string so, .int .i64 46, .int .i64 sc, .int .i64 sl, .string D] #[.string o0, .int .i64 (t0 : Int), .int .i64 xc, .int .i64 xl, .string xd] (some ⟨b0, off, none⟩) L gp op [p0, ⟨#[253]⟩, p2, p3, p4, p5, p6, p7, p8] by first | (rw [hwa]; exact Ra.out) | (rw [hwa]; exact Ra.out.drew)); clear hwa)
    | (go_at_call 38; refine (HL.out _).mono ?_; rintro r wc ⟨rfl, hB⟩; have Rc := hide' (show Rx w wc X #[.string so, .int .i64 46, .int .i64 sc, .int .i64 sl, .string D] #[.string o0, .int .i64 (t0 : Int), .int .i64 xc, .int .i64 xl, .string xd] (some ⟨b0, off, none⟩) L gp op [p0, ⟨#[253]⟩, p2, p3, p4, p5, p6, p7, p8] by first | exact Rb.out.step hB | exact Rb.out.drew.step hB); clear hB)))
  all_goals (clear s0 x0 x1 r0 r1 r2 r3 r4 r5 r6 r7 r8)
  all_goals (obtain ⟨s0, x0, x1, r0, r1, r2, r3, r4, r5, r6, r7, r8⟩ := QF.out _ Rc.out)
  all_goals (have T5 : Hid True := trivial)
  all_goals (go_wp2_with (first
    | (go_at_call 54; have _ := T5; clear T5; refine (HV5.out _).mono ?_; rintro r wv ⟨rfl, rfl⟩)
    | (go_at_call 54; refine (HV4.out _).mono ?_; rintro r wv ⟨rfl, rfl⟩)))
  all_goals (have T5 : Hid True := trivial)
  all_goals (go_region_held3 (fun V => V.cell? ⟨gp, op + 8, none⟩ = some (.string p8)) (first | go_keep | exact Re.out.1.2.2 8 (by simp) | exact Rd.out.1.2.2 8 (by simp)) (first
    | (go_at_call 54; have _ := T5; clear T5; refine (HN1.out _).mono ?_; rintro r wd ⟨rfl, hwa⟩; have Rd := hide' (show Rx w wd X #[.string so, .int .i64 46, .int .i64 sc, .int .i64 sl, .string D] #[.string o0, .int .i64 (t0 : Int), .int .i64 xc, .int .i64 xl, .string xd] (some ⟨b0, off, none⟩) L gp op [p0, ⟨#[253]⟩, p2, p3, p4, p5, p6, p7, p8] by first | (rw [hwa]; exact Rc.out) | (rw [hwa]; exact Rc.out.drew)); clear hwa)
    | (go_at_call 54; refine (HN2.out _).mono ?_; rintro r we ⟨rfl, hwa⟩; have Re := hide' (show Rx w we X #[.string so, .int .i64 46, .int .i64 sc, .int .i64 sl, .string D] #[.string o0, .int .i64 (t0 : Int), .int .i64 xc, .int .i64 xl, .string xd] (some ⟨b0, off, none⟩) L gp op [p0, ⟨#[253]⟩, p2, p3, p4, p5, p6, p7, p8] by first | (rw [hwa]; exact Rd.out) | (rw [hwa]; exact Rd.out.drew)); clear hwa)))
  all_goals (clear s0 x0 x1 r0 r1 r2 r3 r4 r5 r6 r7 r8)
  all_goals (obtain ⟨s0, x0, x1, r0, r1, r2, r3, r4, r5, r6, r7, r8⟩ := QF.out _ Re.out)
  all_goals (go_wp2_with (first
    | (go_at_call 54; refine (HV8.out _).mono ?_; rintro r wv ⟨rfl, rfl⟩)))
  all_goals go_ret
  all_goals (exact ⟨rfl, by first | exact Re.out.1.1.2.1 | exact Re.out.1.1.2.1.drew⟩)
end Go.Proofs.YtennkhdhnbdbeaaGreat

/-
  gazetteerref4.VerifySet, behind its parts. (The verifier's own text.)
-/
namespace Go.Proofs.YtennkhdhnbdbeaaGreat
set_option linter.unusedVariables false
set_option linter.unusedSimpArgs false
open Go.RowKit Go.Shelf Go.Sort Go.Proofs.YtennkhdhnbdbeaaGreat.Nm

set_option maxRecDepth 100000 in
set_option maxHeartbeats 8000000 in
theorem verifyset_sig3 (L : List Rn) (p : Option Addr) (cap : Nat) (so D q dk o0 xd Fm T p0 p1 p2 p3 p4 p5 p6 p7 p8 : ByteArray) (sc sl now lo xc xl : Int) (t0 c0 v2 v4 v5 v6 v8 tg n e pw fg : Nat) (w : World) (hp : 0 < L.length) (nl : Nat) (hnl : 0 < nl) (hat : RsAt w p L) (hx0 : L[0] = ⟨o0, (t0 : Int), xc, xl, xd⟩)
    (HS : Hid (∀ W : World, RsAt W p L → Calls Tryz.prog 35 #[.slice p nl cap] W fun r w' => r = .returned (.bool true) ∧ Below W.heap.size W w'))
    (HZ : Hid (∀ W : World, Calls Tryz.prog 51 #[.agg #[.string so, .int .i64 46, .int .i64 sc, .int .i64 sl, .string D]] W fun r w' => r = .returned (.bool true) ∧ Below W.heap.size W w'))
    (HF : Hid (∀ W : World, Calls Tryz.prog 53 #[.int .i64 46] W fun r w' => r = .returned (.string Fm) ∧ w' = W))
    (HP : Hid (∀ W : World, Calls Tryz.prog 52 #[.string Fm, .string D] W fun r w' => ∃ gp op cp, r = .returned (.tuple #[.slice (some ⟨gp, op, none⟩) 9 cp, .bool true]) ∧ Pt w' gp op [p0, ⟨#[253]⟩, p2, p3, p4, p5, p6, p7, p8] ∧ Below W.heap.size W w'))
    (HV0 : Hid (∀ W : World, Calls Tryz.prog 54 #[.string p0] W fun r w' => r = .returned (.int .i64 (t0 : Int)) ∧ w' = W))
    (HE : Hid (∀ W : World, Calls Tryz.prog 55 #[.string so, .string o0] W fun r w' => r = .returned (.bool true) ∧ Below W.heap.size W w'))
    (HW : Hid (∀ W : World, Calls Tryz.prog 36 #[.string o0, .string p7] W fun r w' => r = .returned (.bool true) ∧ Below W.heap.size W w'))
    (HQ : Hid (∀ W : World, Calls Tryz.prog 55 #[.string q, .string p7] W fun r w' => r = .returned (.bool true) ∧ Below W.heap.size W w'))
    (HK : Hid (∀ W : World, Calls Tryz.prog 56 #[.string dk] W fun r w' => r = .returned (.bool true) ∧ Below W.heap.size W w'))
    (HV6 : Hid (∀ W : World, Calls Tryz.prog 54 #[.string p6] W fun r w' => r = .returned (.int .i64 (v6 : Int)) ∧ w' = W))
    (HT : Hid (∀ W : World, Calls Tryz.prog 39 #[.string dk] W fun r w' => r = .returned (.int .i64 (v6 : Int)) ∧ w' = W))
    (HV2 : Hid (∀ W : World, Calls Tryz.prog 54 #[.string p2] W fun r w' => r = .returned (.int .i64 (v2 : Int)) ∧ w' = W))
    (HL : Hid (∀ W : World, Calls Tryz.prog 38 #[.string o0] W fun r w' => r = .returned (.int .i64 lo) ∧ Below W.heap.size W w'))
    (HV5 : Hid (∀ W : World, Calls Tryz.prog 54 #[.string p5] W fun r w' => r = .returned (.int .i64 (v5 : Int)) ∧ w' = W))
    (HV4 : Hid (∀ W : World, Calls Tryz.prog 54 #[.string p4] W fun r w' => r = .returned (.int .i64 (v4 : Int)) ∧ w' = W))
    (HN1 : Hid (∀ W : World, Calls Tryz.prog 54 #[.string (dk.extract 4 8)] W fun r w' => r = .returned (.int .i64 (n : Int)) ∧ w' = W))
    (HN2 : Hid (∀ W : World, Calls Tryz.prog 54 #[.string (dk.extract 8 12)] W fun r w' => r = .returned (.int .i64 (e : Int)) ∧ w' = W))
    (HV8 : Hid (∀ W : World, Calls Tryz.prog 54 #[.string p8] W fun r w' => r = .returned (.int .i64 (v8 : Int)) ∧ w' = W))
    (HPW : Hid (∀ W : World, Calls Tryz.prog 42 #[.int .i64 (v8 : Int), .int .i64 (e : Int), .int .i64 (n : Int)] W fun r w' => r = .returned (.int .i64 (pw : Int)) ∧ w' = W))
    (HSD : Hid (∀ (W : World) (gp op cp : Nat), RsAt W p L → Pt W gp op [p0, ⟨#[253]⟩, p2, p3, p4, p5, p6, p7, p8] → Calls Tryz.prog 44 #[.slice (some ⟨gp, op, none⟩) 9 cp, .slice p nl cap] W fun r w' => r = .returned (.string T) ∧ Below W.heap.size W w'))
    (HG : Hid (∀ W : World, Calls Tryz.prog 43 #[.string T, .int .i64 (n : Int)] W fun r w' => r = .returned (.int .i64 (fg : Int)) ∧ Below W.heap.size W w')) (hlo : ¬ lo < (v2 : Int)) (hnow : ¬ now < (v5 : Int)) (hlat : ¬ (v4 : Int) < now) (hd12 : dk.size = 12) (hx4 : p8.size = 4) (hvn : v8 < n) (hne : ¬ pw = fg) :
    Calls Tryz.prog 12 #[.slice p nl cap, .agg #[.string so, .int .i64 46, .int .i64 sc, .int .i64 sl, .string D], .string q, .string dk, .int .i64 now] w fun r w' => r = .returned (.int .i64 26) ∧ Below w.heap.size w w' := by
  have hdi : (dk.size : Int) = 12 := by omega
  have hxi : (p8.size : Int) = 4 := by omega
  have hvi : ¬ (n : Int) ≤ (v8 : Int) := by omega
  have hni : ¬ (pw : Int) = (fg : Int) := by omega
  have hnb : ((pw : Int) != (fg : Int)) = true := bne_iff_ne.2 hni
  obtain ⟨W0, hW0⟩ : ∃ W0, w.alloc (.cells #[.string so, .int .i64 46, .int .i64 sc, .int .i64 sl, .string D] 27) = W0 := ⟨_, rfl⟩
  have V0 := hide' (Vs.start w #[.string so, .int .i64 46, .int .i64 sc, .int .i64 sl, .string D] p L hat)
  rw [hW0] at V0
  have HFI : Hid (∀ V : World, RsAt V p L → ∃ g off, p = some ⟨g, off, none⟩ ∧ V.cell? ⟨g, off, none⟩ = some (.string o0) ∧ V.cell? ⟨g, off + 1, none⟩ = some (.int .i64 (t0 : Int)) ∧ V.cell? ⟨g, off + 2, none⟩ = some (.int .i64 xc) ∧ V.cell? ⟨g, off + 3, none⟩ = some (.int .i64 xl) ∧ V.cell? ⟨g, off + 4, none⟩ = some (.string xd)) := fun V hV => by
    obtain ⟨g, off, hp2, hg, e0, e1, e2, e3, e4⟩ := hV 0 hp
    rw [Nat.zero_mul, Nat.add_zero, hx0] at e0 e1 e2 e3 e4
    exact ⟨g, off, hp2, e0, e1, e2, e3, e4⟩
  obtain ⟨b0, off, hpp, -⟩ := HFI.out _ hat
  subst hpp
  have HF2 : Hid (∀ V : World, RsAt V (some ⟨b0, off, none⟩) L → V.cell? ⟨b0, off, none⟩ = some (.string o0) ∧ V.cell? ⟨b0, off + 1, none⟩ = some (.int .i64 (t0 : Int)) ∧ V.cell? ⟨b0, off + 2, none⟩ = some (.int .i64 xc) ∧ V.cell? ⟨b0, off + 3, none⟩ = some (.int .i64 xl) ∧ V.cell? ⟨b0, off + 4, none⟩ = some (.string xd)) := fun V hV => by
    obtain ⟨g', off', hg, e0, e1, e2, e3, e4⟩ := HFI.out V hV
    injection hg with hg; injection hg with h1 h2; subst h1; subst h2
    exact ⟨e0, e1, e2, e3, e4⟩
  have hpi : ¬ (nl : Int) = 0 := by omega
  have hpj : (0 : Int) < (nl : Int) := by omega
  have HC : Hid (∀ V : World, Vs w V #[.string so, .int .i64 46, .int .i64 sc, .int .i64 sl, .string D] (some ⟨b0, off, none⟩) L → V.cell? ⟨w.heap.size, 0, none⟩ = some (.string so) ∧ V.cell? ⟨w.heap.size, 1, none⟩ = some (.int .i64 46) ∧ V.cell? ⟨w.heap.size, 2, none⟩ = some (.int .i64 sc) ∧ V.cell? ⟨w.heap.size, 3, none⟩ = some (.int .i64 sl) ∧ V.cell? ⟨w.heap.size, 4, none⟩ = some (.string D)) := fun V h => ⟨h.1.cell rfl, h.1.cell rfl, h.1.cell rfl, h.1.cell rfl, h.1.cell rfl⟩
  clear HFI hat hx0 hp
  go_enter Tryz.func12, Tryz.ntmps12
  go_wp2_with (first
    | (go_at_call 35; refine (HS.out _ V0.out.2.2).mono ?_; rintro r w1 ⟨rfl, hB⟩; have V1 := hide' (V0.out.step hB); clear hB; obtain ⟨s0, s1, s2, s3, s4⟩ := HC.out _ V1.out)
    | (go_at_call 51; refine (HZ.out _).mono ?_; rintro r w2 ⟨rfl, hB⟩; have V2 := hide' (V1.out.step hB); clear hB s0 s1 s2 s3 s4; obtain ⟨s0, s1, s2, s3, s4⟩ := HC.out _ V2.out))
  go_region_held3 (fun V => V.cell? ⟨w.heap.size, 4, none⟩ = some (.string D)) (first | go_keep | exact R4.out.1.1.cell rfl | exact V3.out.1.cell rfl) (first
    | (go_at_call 53; refine (HF.out _).mono ?_; rintro r w3 ⟨rfl, hwa⟩; have V3 := hide' (show Vs w w3 #[.string so, .int .i64 46, .int .i64 sc, .int .i64 sl, .string D] (some ⟨b0, off, none⟩) L by first | (rw [hwa]; exact V2.out) | (rw [hwa]; exact V2.out.drew)); clear hwa)
    | (go_at_call 52; refine (HP.out _).mono ?_; rintro r w4 ⟨gp, op, cp, rfl, hpt, hB⟩; have R4 := hide' (show Rw w w4 #[.string so, .int .i64 46, .int .i64 sc, .int .i64 sl, .string D] (some ⟨b0, off, none⟩) L gp op [p0, ⟨#[253]⟩, p2, p3, p4, p5, p6, p7, p8] from ⟨by first | exact V3.out.step hB | exact V3.out.drew.step hB, hpt⟩); clear hB hpt))
  clear s0 s1 s2 s3 s4 V0 V1 V2 V3 HS HZ HF HP HC
  obtain ⟨e0, e1, e2, e3, e4⟩ := HF2.out _ R4.out.1.2.2
  have R5 := hide' (Rx.start R4.out #[.string o0, .int .i64 (t0 : Int), .int .i64 xc, .int .i64 xl, .string xd])
  go_wp2_with fail
  obtain ⟨W5, hW5⟩ : ∃ W5, w4.alloc (.cells #[.string o0, .int .i64 (t0 : Int), .int .i64 xc, .int .i64 xl, .string xd] 27) = W5 := ⟨_, rfl⟩
  obtain ⟨X, hX⟩ : ∃ X, w4.heap.size = X := ⟨_, rfl⟩
  rw [hW5, hX] at R5
  simp only [hW5, hX]
  clear hW5 hX hW0 R4 e0 e1 e2 e3 e4 HF2
  have QF : Hid (∀ V : World, Rx w V X #[.string so, .int .i64 46, .int .i64 sc, .int .i64 sl, .string D] #[.string o0, .int .i64 (t0 : Int), .int .i64 xc, .int .i64 xl, .string xd] (some ⟨b0, off, none⟩) L gp op [p0, ⟨#[253]⟩, p2, p3, p4, p5, p6, p7, p8] → V.cell? ⟨w.heap.size, 0, none⟩ = some (.string so) ∧ V.cell? ⟨X, 0, none⟩ = some (.string o0) ∧ V.cell? ⟨X, 1, none⟩ = some (.int .i64 (t0 : Int)) ∧ V.cell? ⟨gp, op, none⟩ = some (.string p0) ∧ V.cell? ⟨gp, op + 1, none⟩ = some (.string ⟨#[253]⟩) ∧ V.cell? ⟨gp, op + 2, none⟩ = some (.string p2) ∧ V.cell? ⟨gp, op + 3, none⟩ = some (.string p3) ∧ V.cell? ⟨gp, op + 4, none⟩ = some (.string p4) ∧ V.cell? ⟨gp, op + 5, none⟩ = some (.string p5) ∧ V.cell? ⟨gp, op + 6, none⟩ = some (.string p6) ∧ V.cell? ⟨gp, op + 7, none⟩ = some (.string p7) ∧ V.cell? ⟨gp, op + 8, none⟩ = some (.string p8)) := fun V h => ⟨h.1.1.1.cell rfl, h.2.cell rfl, h.2.cell rfl, h.1.2.2 0 (by simp), h.1.2.2 1 (by simp), h.1.2.2 2 (by simp), h.1.2.2 3 (by simp), h.1.2.2 4 (by simp), h.1.2.2 5 (by simp), h.1.2.2 6 (by simp), h.1.2.2 7 (by simp), h.1.2.2 8 (by simp)⟩
  obtain ⟨s0, x0, x1, r0, r1, r2, r3, r4, r5, r6, r7, r8⟩ := QF.out _ R5.out
  all_goals (go_region_held3 (fun V => V.cell? ⟨gp, op, none⟩ = some (.string p0) ∧ V.cell? ⟨X, 1, none⟩ = some (.int .i64 (t0 : Int))) (first | go_keep | exact ⟨R6.out.1.2.2 0 (by simp), R6.out.2.cell rfl⟩) (first
    | (go_at_call 54; refine (HV0.out _).mono ?_; rintro r w6 ⟨rfl, hwa⟩; have R6 := hide' (show Rx w w6 X #[.string so, .int .i64 46, .int .i64 sc, .int .i64 sl, .string D] #[.string o0, .int .i64 (t0 : Int), .int .i64 xc, .int .i64 xl, .string xd] (some ⟨b0, off, none⟩) L gp op [p0, ⟨#[253]⟩, p2, p3, p4, p5, p6, p7, p8] by first | (rw [hwa]; exact R5.out) | (rw [hwa]; exact R5.out.drew)); clear hwa)))
  all_goals (clear s0 x0 x1 r0 r1 r2 r3 r4 r5 r6 r7 r8)
  all_goals (obtain ⟨s0, x0, x1, r0, r1, r2, r3, r4, r5, r6, r7, r8⟩ := QF.out _ R6.out)
  all_goals (go_wp2_with fail)
  all_goals (go_region_held3 (fun V => V.cell? ⟨w.heap.size, 0, none⟩ = some (.string so) ∧ V.cell? ⟨X, 0, none⟩ = some (.string o0) ∧ V.cell? ⟨gp, op + 7, none⟩ = some (.string p7)) (first | go_keep | exact ⟨R8.out.1.1.1.cell rfl, R8.out.2.cell rfl, R8.out.1.2.2 7 (by simp)⟩ | exact ⟨R7.out.1.1.1.cell rfl, R7.out.2.cell rfl, R7.out.1.2.2 7 (by simp)⟩) (first
    | (go_at_call 55; refine (HE.out _).mono ?_; rintro r w7 ⟨rfl, hB⟩; have R7 := hide' (show Rx w w7 X #[.string so, .int .i64 46, .int .i64 sc, .int .i64 sl, .string D] #[.string o0, .int .i64 (t0 : Int), .int .i64 xc, .int .i64 xl, .string xd] (some ⟨b0, off, none⟩) L gp op [p0, ⟨#[253]⟩, p2, p3, p4, p5, p6, p7, p8] by first | exact R6.out.step hB | exact R6.out.drew.step hB); clear hB)
    | (go_at_call 36; refine (HW.out _).mono ?_; rintro r w8 ⟨rfl, hB⟩; have R8 := hide' (show Rx w w8 X #[.string so, .int .i64 46, .int .i64 sc, .int .i64 sl, .string D] #[.string o0, .int .i64 (t0 : Int), .int .i64 xc, .int .i64 xl, .string xd] (some ⟨b0, off, none⟩) L gp op [p0, ⟨#[253]⟩, p2, p3, p4, p5, p6, p7, p8] by first | exact R7.out.step hB | exact R7.out.drew.step hB); clear hB)))
  all_goals (clear s0 x0 x1 r0 r1 r2 r3 r4 r5 r6 r7 r8)
  all_goals (obtain ⟨s0, x0, x1, r0, r1, r2, r3, r4, r5, r6, r7, r8⟩ := QF.out _ R8.out)
  all_goals (go_wp2_with (first
    | (go_at_call 55; refine (HQ.out _).mono ?_; rintro r w9 ⟨rfl, hB⟩; have R9 := hide' (show Rx w w9 X #[.string so, .int .i64 46, .int .i64 sc, .int .i64 sl, .string D] #[.string o0, .int .i64 (t0 : Int), .int .i64 xc, .int .i64 xl, .string xd] (some ⟨b0, off, none⟩) L gp op [p0, ⟨#[253]⟩, p2, p3, p4, p5, p6, p7, p8] by first | exact R8.out.step hB | exact R8.out.drew.step hB); clear hB; clear s0 x0 x1 r0 r1 r2 r3 r4 r5 r6 r7 r8; obtain ⟨s0, x0, x1, r0, r1, r2, r3, r4, r5, r6, r7, r8⟩ := QF.out _ R9.out)
    | (go_at_call 56; refine (HK.out _).mono ?_; rintro r wa ⟨rfl, hB⟩; have Ra := hide' (show Rx w wa X #[.string so, .int .i64 46, .int .i64 sc, .int .i64 sl, .string D] #[.string o0, .int .i64 (t0 : Int), .int .i64 xc, .int .i64 xl, .string xd] (some ⟨b0, off, none⟩) L gp op [p0, ⟨#[253]⟩, p2, p3, p4, p5, p6, p7, p8] by first | exact R9.out.step hB | exact R9.out.drew.step hB); clear hB; clear s0 x0 x1 r0 r1 r2 r3 r4 r5 r6 r7 r8; obtain ⟨s0, x0, x1, r0, r1, r2, r3, r4, r5, r6, r7, r8⟩ := QF.out _ Ra.out)
    | (go_at_call 54; refine (HV6.out _).mono ?_; rintro r wv ⟨rfl, rfl⟩)
    | (go_at_call 39; refine (HT.out _).mono ?_; rintro r wv ⟨rfl, rfl⟩)))
  all_goals (go_region_held3 (fun V => V.cell? ⟨gp, op + 2, none⟩ = some (.string p2) ∧ V.cell? ⟨X, 0, none⟩ = some (.string o0)) (first | go_keep | exact ⟨Rc.out.1.2.2 2 (by simp), Rc.out.2.cell rfl⟩ | exact ⟨Rb.out.1.2.2 2 (by simp), Rb.out.2.cell rfl⟩) (first
    | (go_at_call 54; refine (HV2.out _).mono ?_; rintro r wb ⟨rfl, hwa⟩; have Rb := hide' (show Rx w wb X #[.string so, .int .i64 46, .int .i64 sc, .int .i64 sl, .string D] #[.string o0, .int .i64 (t0 : Int), .int .i64 xc, .int .i64 xl, .string xd] (some ⟨b0, off, none⟩) L gp op [p0, ⟨#[253]⟩, p2, p3, p4, p5, p6, p7, p8] by first | (rw [hwa]; exact Ra.out) | (rw [hwa]; exact Ra.out.drew)); clear hwa)
    | (go_at_call 38; refine (HL.out _).mono ?_; rintro r wc ⟨rfl, hB⟩; have Rc := hide' (show Rx w wc X #[.string so, .int .i64 46, .int .i64 sc, .int .i64 sl, .string D] #[.string o0, .int .i64 (t0 : Int), .int .i64 xc, .int .i64 xl, .string xd] (some ⟨b0, off, none⟩) L gp op [p0, ⟨#[253]⟩, p2, p3, p4, p5, p6, p7, p8] by first | exact Rb.out.step hB | exact Rb.out.drew.step hB); clear hB)))
  all_goals (clear s0 x0 x1 r0 r1 r2 r3 r4 r5 r6 r7 r8)
  all_goals (obtain ⟨s0, x0, x1, r0, r1, r2, r3, r4, r5, r6, r7, r8⟩ := QF.out _ Rc.out)
  all_goals (have T5 : Hid True := trivial)
  all_goals (go_wp2_with (first
    | (go_at_call 54; have _ := T5; clear T5; refine (HV5.out _).mono ?_; rintro r wv ⟨rfl, rfl⟩)
    | (go_at_call 54; refine (HV4.out _).mono ?_; rintro r wv ⟨rfl, rfl⟩)))
  all_goals (have T5 : Hid True := trivial)
  all_goals (go_region_held3 (fun V => V.cell? ⟨gp, op + 8, none⟩ = some (.string p8)) (first | go_keep | exact Re.out.1.2.2 8 (by simp) | exact Rd.out.1.2.2 8 (by simp)) (first
    | (go_at_call 54; have _ := T5; clear T5; refine (HN1.out _).mono ?_; rintro r wd ⟨rfl, hwa⟩; have Rd := hide' (show Rx w wd X #[.string so, .int .i64 46, .int .i64 sc, .int .i64 sl, .string D] #[.string o0, .int .i64 (t0 : Int), .int .i64 xc, .int .i64 xl, .string xd] (some ⟨b0, off, none⟩) L gp op [p0, ⟨#[253]⟩, p2, p3, p4, p5, p6, p7, p8] by first | (rw [hwa]; exact Rc.out) | (rw [hwa]; exact Rc.out.drew)); clear hwa)
    | (go_at_call 54; refine (HN2.out _).mono ?_; rintro r we ⟨rfl, hwa⟩; have Re := hide' (show Rx w we X #[.string so, .int .i64 46, .int .i64 sc, .int .i64 sl, .string D] #[.string o0, .int .i64 (t0 : Int), .int .i64 xc, .int .i64 xl, .string xd] (some ⟨b0, off, none⟩) L gp op [p0, ⟨#[253]⟩, p2, p3, p4, p5, p6, p7, p8] by first | (rw [hwa]; exact Rd.out) | (rw [hwa]; exact Rd.out.drew)); clear hwa)))
  all_goals (clear s0 x0 x1 r0 r1 r2 r3 r4 r5 r6 r7 r8)
  all_goals (obtain ⟨s0, x0, x1, r0, r1, r2, r3, r4, r5, r6, r7, r8⟩ := QF.out _ Re.out)
  all_goals (go_wp2_with (first
    | (go_at_call 54; refine (HV8.out _).mono ?_; rintro r wv ⟨rfl, rfl⟩)
    | (go_at_call 42; refine (HPW.out _).mono ?_; rintro r wv ⟨rfl, rfl⟩)
    | (go_at_call 44; refine (HSD.out _ _ _ _ Re.out.1.1.2.2 Re.out.1.2).mono ?_; rintro r wf ⟨rfl, hB⟩; have Rf := hide' (show Rx w wf X #[.string so, .int .i64 46, .int .i64 sc, .int .i64 sl, .string D] #[.string o0, .int .i64 (t0 : Int), .int .i64 xc, .int .i64 xl, .string xd] (some ⟨b0, off, none⟩) L gp op [p0, ⟨#[253]⟩, p2, p3, p4, p5, p6, p7, p8] by first | exact Re.out.step hB | exact Re.out.drew.step hB); clear hB; clear s0 x0 x1 r0 r1 r2 r3 r4 r5 r6 r7 r8; obtain ⟨s0, x0, x1, r0, r1, r2, r3, r4, r5, r6, r7, r8⟩ := QF.out _ Rf.out)
    | (go_at_call 43; refine (HG.out _).mono ?_; rintro r wg ⟨rfl, hB⟩; have Rg := hide' (show Rx w wg X #[.string so, .int .i64 46, .int .i64 sc, .int .i64 sl, .string D] #[.string o0, .int .i64 (t0 : Int), .int .i64 xc, .int .i64 xl, .string xd] (some ⟨b0, off, none⟩) L gp op [p0, ⟨#[253]⟩, p2, p3, p4, p5, p6, p7, p8] by first | exact Rf.out.step hB | exact Rf.out.drew.step hB); clear hB; clear s0 x0 x1 r0 r1 r2 r3 r4 r5 r6 r7 r8; obtain ⟨s0, x0, x1, r0, r1, r2, r3, r4, r5, r6, r7, r8⟩ := QF.out _ Rg.out)))
  all_goals (try (exfalso; rename_i hh; rw [hnb] at hh; exact absurd hh.2 (by decide)))
  all_goals go_ret
  all_goals (exact ⟨rfl, by first | exact Rg.out.1.1.2.1 | exact Rg.out.1.1.2.1.drew⟩)
set_option maxRecDepth 100000 in
set_option maxHeartbeats 8000000 in
theorem verifyset_ok (L : List Rn) (p : Option Addr) (cap : Nat) (so D q dk o0 xd Fm T p0 p1 p2 p3 p4 p5 p6 p7 p8 : ByteArray) (sc sl now lo xc xl : Int) (t0 c0 v2 v4 v5 v6 v8 tg n e pw fg : Nat) (w : World) (hp : 0 < L.length) (nl : Nat) (hnl : 0 < nl) (hat : RsAt w p L) (hx0 : L[0] = ⟨o0, (t0 : Int), xc, xl, xd⟩)
    (HS : Hid (∀ W : World, RsAt W p L → Calls Tryz.prog 35 #[.slice p nl cap] W fun r w' => r = .returned (.bool true) ∧ Below W.heap.size W w'))
    (HZ : Hid (∀ W : World, Calls Tryz.prog 51 #[.agg #[.string so, .int .i64 46, .int .i64 sc, .int .i64 sl, .string D]] W fun r w' => r = .returned (.bool true) ∧ Below W.heap.size W w'))
    (HF : Hid (∀ W : World, Calls Tryz.prog 53 #[.int .i64 46] W fun r w' => r = .returned (.string Fm) ∧ w' = W))
    (HP : Hid (∀ W : World, Calls Tryz.prog 52 #[.string Fm, .string D] W fun r w' => ∃ gp op cp, r = .returned (.tuple #[.slice (some ⟨gp, op, none⟩) 9 cp, .bool true]) ∧ Pt w' gp op [p0, ⟨#[253]⟩, p2, p3, p4, p5, p6, p7, p8] ∧ Below W.heap.size W w'))
    (HV0 : Hid (∀ W : World, Calls Tryz.prog 54 #[.string p0] W fun r w' => r = .returned (.int .i64 (t0 : Int)) ∧ w' = W))
    (HE : Hid (∀ W : World, Calls Tryz.prog 55 #[.string so, .string o0] W fun r w' => r = .returned (.bool true) ∧ Below W.heap.size W w'))
    (HW : Hid (∀ W : World, Calls Tryz.prog 36 #[.string o0, .string p7] W fun r w' => r = .returned (.bool true) ∧ Below W.heap.size W w'))
    (HQ : Hid (∀ W : World, Calls Tryz.prog 55 #[.string q, .string p7] W fun r w' => r = .returned (.bool true) ∧ Below W.heap.size W w'))
    (HK : Hid (∀ W : World, Calls Tryz.prog 56 #[.string dk] W fun r w' => r = .returned (.bool true) ∧ Below W.heap.size W w'))
    (HV6 : Hid (∀ W : World, Calls Tryz.prog 54 #[.string p6] W fun r w' => r = .returned (.int .i64 (v6 : Int)) ∧ w' = W))
    (HT : Hid (∀ W : World, Calls Tryz.prog 39 #[.string dk] W fun r w' => r = .returned (.int .i64 (v6 : Int)) ∧ w' = W))
    (HV2 : Hid (∀ W : World, Calls Tryz.prog 54 #[.string p2] W fun r w' => r = .returned (.int .i64 (v2 : Int)) ∧ w' = W))
    (HL : Hid (∀ W : World, Calls Tryz.prog 38 #[.string o0] W fun r w' => r = .returned (.int .i64 lo) ∧ Below W.heap.size W w'))
    (HV5 : Hid (∀ W : World, Calls Tryz.prog 54 #[.string p5] W fun r w' => r = .returned (.int .i64 (v5 : Int)) ∧ w' = W))
    (HV4 : Hid (∀ W : World, Calls Tryz.prog 54 #[.string p4] W fun r w' => r = .returned (.int .i64 (v4 : Int)) ∧ w' = W))
    (HN1 : Hid (∀ W : World, Calls Tryz.prog 54 #[.string (dk.extract 4 8)] W fun r w' => r = .returned (.int .i64 (n : Int)) ∧ w' = W))
    (HN2 : Hid (∀ W : World, Calls Tryz.prog 54 #[.string (dk.extract 8 12)] W fun r w' => r = .returned (.int .i64 (e : Int)) ∧ w' = W))
    (HV8 : Hid (∀ W : World, Calls Tryz.prog 54 #[.string p8] W fun r w' => r = .returned (.int .i64 (v8 : Int)) ∧ w' = W))
    (HPW : Hid (∀ W : World, Calls Tryz.prog 42 #[.int .i64 (v8 : Int), .int .i64 (e : Int), .int .i64 (n : Int)] W fun r w' => r = .returned (.int .i64 (pw : Int)) ∧ w' = W))
    (HSD : Hid (∀ (W : World) (gp op cp : Nat), RsAt W p L → Pt W gp op [p0, ⟨#[253]⟩, p2, p3, p4, p5, p6, p7, p8] → Calls Tryz.prog 44 #[.slice (some ⟨gp, op, none⟩) 9 cp, .slice p nl cap] W fun r w' => r = .returned (.string T) ∧ Below W.heap.size W w'))
    (HG : Hid (∀ W : World, Calls Tryz.prog 43 #[.string T, .int .i64 (n : Int)] W fun r w' => r = .returned (.int .i64 (pw : Int)) ∧ Below W.heap.size W w')) (hlo : ¬ lo < (v2 : Int)) (hnow : ¬ now < (v5 : Int)) (hlat : ¬ (v4 : Int) < now) (hd12 : dk.size = 12) (hx4 : p8.size = 4) (hvn : v8 < n) :
    Calls Tryz.prog 12 #[.slice p nl cap, .agg #[.string so, .int .i64 46, .int .i64 sc, .int .i64 sl, .string D], .string q, .string dk, .int .i64 now] w fun r w' => r = .returned (.int .i64 0) ∧ Below w.heap.size w w' := by
  have hdi : (dk.size : Int) = 12 := by omega
  have hxi : (p8.size : Int) = 4 := by omega
  have hvi : ¬ (n : Int) ≤ (v8 : Int) := by omega
  obtain ⟨W0, hW0⟩ : ∃ W0, w.alloc (.cells #[.string so, .int .i64 46, .int .i64 sc, .int .i64 sl, .string D] 27) = W0 := ⟨_, rfl⟩
  have V0 := hide' (Vs.start w #[.string so, .int .i64 46, .int .i64 sc, .int .i64 sl, .string D] p L hat)
  rw [hW0] at V0
  have HFI : Hid (∀ V : World, RsAt V p L → ∃ g off, p = some ⟨g, off, none⟩ ∧ V.cell? ⟨g, off, none⟩ = some (.string o0) ∧ V.cell? ⟨g, off + 1, none⟩ = some (.int .i64 (t0 : Int)) ∧ V.cell? ⟨g, off + 2, none⟩ = some (.int .i64 xc) ∧ V.cell? ⟨g, off + 3, none⟩ = some (.int .i64 xl) ∧ V.cell? ⟨g, off + 4, none⟩ = some (.string xd)) := fun V hV => by
    obtain ⟨g, off, hp2, hg, e0, e1, e2, e3, e4⟩ := hV 0 hp
    rw [Nat.zero_mul, Nat.add_zero, hx0] at e0 e1 e2 e3 e4
    exact ⟨g, off, hp2, e0, e1, e2, e3, e4⟩
  obtain ⟨b0, off, hpp, -⟩ := HFI.out _ hat
  subst hpp
  have HF2 : Hid (∀ V : World, RsAt V (some ⟨b0, off, none⟩) L → V.cell? ⟨b0, off, none⟩ = some (.string o0) ∧ V.cell? ⟨b0, off + 1, none⟩ = some (.int .i64 (t0 : Int)) ∧ V.cell? ⟨b0, off + 2, none⟩ = some (.int .i64 xc) ∧ V.cell? ⟨b0, off + 3, none⟩ = some (.int .i64 xl) ∧ V.cell? ⟨b0, off + 4, none⟩ = some (.string xd)) := fun V hV => by
    obtain ⟨g', off', hg, e0, e1, e2, e3, e4⟩ := HFI.out V hV
    injection hg with hg; injection hg with h1 h2; subst h1; subst h2
    exact ⟨e0, e1, e2, e3, e4⟩
  have hpi : ¬ (nl : Int) = 0 := by omega
  have hpj : (0 : Int) < (nl : Int) := by omega
  have HC : Hid (∀ V : World, Vs w V #[.string so, .int .i64 46, .int .i64 sc, .int .i64 sl, .string D] (some ⟨b0, off, none⟩) L → V.cell? ⟨w.heap.size, 0, none⟩ = some (.string so) ∧ V.cell? ⟨w.heap.size, 1, none⟩ = some (.int .i64 46) ∧ V.cell? ⟨w.heap.size, 2, none⟩ = some (.int .i64 sc) ∧ V.cell? ⟨w.heap.size, 3, none⟩ = some (.int .i64 sl) ∧ V.cell? ⟨w.heap.size, 4, none⟩ = some (.string D)) := fun V h => ⟨h.1.cell rfl, h.1.cell rfl, h.1.cell rfl, h.1.cell rfl, h.1.cell rfl⟩
  clear HFI hat hx0 hp
  go_enter Tryz.func12, Tryz.ntmps12
  go_wp2_with (first
    | (go_at_call 35; refine (HS.out _ V0.out.2.2).mono ?_; rintro r w1 ⟨rfl, hB⟩; have V1 := hide' (V0.out.step hB); clear hB; obtain ⟨s0, s1, s2, s3, s4⟩ := HC.out _ V1.out)
    | (go_at_call 51; refine (HZ.out _).mono ?_; rintro r w2 ⟨rfl, hB⟩; have V2 := hide' (V1.out.step hB); clear hB s0 s1 s2 s3 s4; obtain ⟨s0, s1, s2, s3, s4⟩ := HC.out _ V2.out))
  go_region_held3 (fun V => V.cell? ⟨w.heap.size, 4, none⟩ = some (.string D)) (first | go_keep | exact R4.out.1.1.cell rfl | exact V3.out.1.cell rfl) (first
    | (go_at_call 53; refine (HF.out _).mono ?_; rintro r w3 ⟨rfl, hwa⟩; have V3 := hide' (show Vs w w3 #[.string so, .int .i64 46, .int .i64 sc, .int .i64 sl, .string D] (some ⟨b0, off, none⟩) L by first | (rw [hwa]; exact V2.out) | (rw [hwa]; exact V2.out.drew)); clear hwa)
    | (go_at_call 52; refine (HP.out _).mono ?_; rintro r w4 ⟨gp, op, cp, rfl, hpt, hB⟩; have R4 := hide' (show Rw w w4 #[.string so, .int .i64 46, .int .i64 sc, .int .i64 sl, .string D] (some ⟨b0, off, none⟩) L gp op [p0, ⟨#[253]⟩, p2, p3, p4, p5, p6, p7, p8] from ⟨by first | exact V3.out.step hB | exact V3.out.drew.step hB, hpt⟩); clear hB hpt))
  clear s0 s1 s2 s3 s4 V0 V1 V2 V3 HS HZ HF HP HC
  obtain ⟨e0, e1, e2, e3, e4⟩ := HF2.out _ R4.out.1.2.2
  have R5 := hide' (Rx.start R4.out #[.string o0, .int .i64 (t0 : Int), .int .i64 xc, .int .i64 xl, .string xd])
  go_wp2_with fail
  obtain ⟨W5, hW5⟩ : ∃ W5, w4.alloc (.cells #[.string o0, .int .i64 (t0 : Int), .int .i64 xc, .int .i64 xl, .string xd] 27) = W5 := ⟨_, rfl⟩
  obtain ⟨X, hX⟩ : ∃ X, w4.heap.size = X := ⟨_, rfl⟩
  rw [hW5, hX] at R5
  simp only [hW5, hX]
  clear hW5 hX hW0 R4 e0 e1 e2 e3 e4 HF2
  have QF : Hid (∀ V : World, Rx w V X #[.string so, .int .i64 46, .int .i64 sc, .int .i64 sl, .string D] #[.string o0, .int .i64 (t0 : Int), .int .i64 xc, .int .i64 xl, .string xd] (some ⟨b0, off, none⟩) L gp op [p0, ⟨#[253]⟩, p2, p3, p4, p5, p6, p7, p8] → V.cell? ⟨w.heap.size, 0, none⟩ = some (.string so) ∧ V.cell? ⟨X, 0, none⟩ = some (.string o0) ∧ V.cell? ⟨X, 1, none⟩ = some (.int .i64 (t0 : Int)) ∧ V.cell? ⟨gp, op, none⟩ = some (.string p0) ∧ V.cell? ⟨gp, op + 1, none⟩ = some (.string ⟨#[253]⟩) ∧ V.cell? ⟨gp, op + 2, none⟩ = some (.string p2) ∧ V.cell? ⟨gp, op + 3, none⟩ = some (.string p3) ∧ V.cell? ⟨gp, op + 4, none⟩ = some (.string p4) ∧ V.cell? ⟨gp, op + 5, none⟩ = some (.string p5) ∧ V.cell? ⟨gp, op + 6, none⟩ = some (.string p6) ∧ V.cell? ⟨gp, op + 7, none⟩ = some (.string p7) ∧ V.cell? ⟨gp, op + 8, none⟩ = some (.string p8)) := fun V h => ⟨h.1.1.1.cell rfl, h.2.cell rfl, h.2.cell rfl, h.1.2.2 0 (by simp), h.1.2.2 1 (by simp), h.1.2.2 2 (by simp), h.1.2.2 3 (by simp), h.1.2.2 4 (by simp), h.1.2.2 5 (by simp), h.1.2.2 6 (by simp), h.1.2.2 7 (by simp), h.1.2.2 8 (by simp)⟩
  obtain ⟨s0, x0, x1, r0, r1, r2, r3, r4, r5, r6, r7, r8⟩ := QF.out _ R5.out
  all_goals (go_region_held3 (fun V => V.cell? ⟨gp, op, none⟩ = some (.string p0) ∧ V.cell? ⟨X, 1, none⟩ = some (.int .i64 (t0 : Int))) (first | go_keep | exact ⟨R6.out.1.2.2 0 (by simp), R6.out.2.cell rfl⟩) (first
    | (go_at_call 54; refine (HV0.out _).mono ?_; rintro r w6 ⟨rfl, hwa⟩; have R6 := hide' (show Rx w w6 X #[.string so, .int .i64 46, .int .i64 sc, .int .i64 sl, .string D] #[.string o0, .int .i64 (t0 : Int), .int .i64 xc, .int .i64 xl, .string xd] (some ⟨b0, off, none⟩) L gp op [p0, ⟨#[253]⟩, p2, p3, p4, p5, p6, p7, p8] by first | (rw [hwa]; exact R5.out) | (rw [hwa]; exact R5.out.drew)); clear hwa)))
  all_goals (clear s0 x0 x1 r0 r1 r2 r3 r4 r5 r6 r7 r8)
  all_goals (obtain ⟨s0, x0, x1, r0, r1, r2, r3, r4, r5, r6, r7, r8⟩ := QF.out _ R6.out)
  all_goals (go_wp2_with fail)
  all_goals (go_region_held3 (fun V => V.cell? ⟨w.heap.size, 0, none⟩ = some (.string so) ∧ V.cell? ⟨X, 0, none⟩ = some (.string o0) ∧ V.cell? ⟨gp, op + 7, none⟩ = some (.string p7)) (first | go_keep | exact ⟨R8.out.1.1.1.cell rfl, R8.out.2.cell rfl, R8.out.1.2.2 7 (by simp)⟩ | exact ⟨R7.out.1.1.1.cell rfl, R7.out.2.cell rfl, R7.out.1.2.2 7 (by simp)⟩) (first
    | (go_at_call 55; refine (HE.out _).mono ?_; rintro r w7 ⟨rfl, hB⟩; have R7 := hide' (show Rx w w7 X #[.string so, .int .i64 46, .int .i64 sc, .int .i64 sl, .string D] #[.string o0, .int .i64 (t0 : Int), .int .i64 xc, .int .i64 xl, .string xd] (some ⟨b0, off, none⟩) L gp op [p0, ⟨#[253]⟩, p2, p3, p4, p5, p6, p7, p8] by first | exact R6.out.step hB | exact R6.out.drew.step hB); clear hB)
    | (go_at_call 36; refine (HW.out _).mono ?_; rintro r w8 ⟨rfl, hB⟩; have R8 := hide' (show Rx w w8 X #[.string so, .int .i64 46, .int .i64 sc, .int .i64 sl, .string D] #[.string o0, .int .i64 (t0 : Int), .int .i64 xc, .int .i64 xl, .string xd] (some ⟨b0, off, none⟩) L gp op [p0, ⟨#[253]⟩, p2, p3, p4, p5, p6, p7, p8] by first | exact R7.out.step hB | exact R7.out.drew.step hB); clear hB)))
  all_goals (clear s0 x0 x1 r0 r1 r2 r3 r4 r5 r6 r7 r8)
  all_goals (obtain ⟨s0, x0, x1, r0, r1, r2, r3, r4, r5, r6, r7, r8⟩ := QF.out _ R8.out)
  all_goals (go_wp2_with (first
    | (go_at_call 55; refine (HQ.out _).mono ?_; rintro r w9 ⟨rfl, hB⟩; have R9 := hide' (show Rx w w9 X #[.string so, .int .i64 46, .int .i64 sc, .int .i64 sl, .string D] #[.string o0, .int .i64 (t0 : Int), .int .i64 xc, .int .i64 xl, .string xd] (some ⟨b0, off, none⟩) L gp op [p0, ⟨#[253]⟩, p2, p3, p4, p5, p6, p7, p8] by first | exact R8.out.step hB | exact R8.out.drew.step hB); clear hB; clear s0 x0 x1 r0 r1 r2 r3 r4 r5 r6 r7 r8; obtain ⟨s0, x0, x1, r0, r1, r2, r3, r4, r5, r6, r7, r8⟩ := QF.out _ R9.out)
    | (go_at_call 56; refine (HK.out _).mono ?_; rintro r wa ⟨rfl, hB⟩; have Ra := hide' (show Rx w wa X #[.string so, .int .i64 46, .int .i64 sc, .int .i64 sl, .string D] #[.string o0, .int .i64 (t0 : Int), .int .i64 xc, .int .i64 xl, .string xd] (some ⟨b0, off, none⟩) L gp op [p0, ⟨#[253]⟩, p2, p3, p4, p5, p6, p7, p8] by first | exact R9.out.step hB | exact R9.out.drew.step hB); clear hB; clear s0 x0 x1 r0 r1 r2 r3 r4 r5 r6 r7 r8; obtain ⟨s0, x0, x1, r0, r1, r2, r3, r4, r5, r6, r7, r8⟩ := QF.out _ Ra.out)
    | (go_at_call 54; refine (HV6.out _).mono ?_; rintro r wv ⟨rfl, rfl⟩)
    | (go_at_call 39; refine (HT.out _).mono ?_; rintro r wv ⟨rfl, rfl⟩)))
  all_goals (go_region_held3 (fun V => V.cell? ⟨gp, op + 2, none⟩ = some (.string p2) ∧ V.cell? ⟨X, 0, none⟩ = some (.string o0)) (first | go_keep | exact ⟨Rc.out.1.2.2 2 (by simp), Rc.out.2.cell rfl⟩ | exact ⟨Rb.out.1.2.2 2 (by simp), Rb.out.2.cell rfl⟩) (first
    | (go_at_call 54; refine (HV2.out _).mono ?_; rintro r wb ⟨rfl, hwa⟩; have Rb := hide' (show Rx w wb X #[.string so, .int .i64 46, .int .i64 sc, .int .i64 sl, .string D] #[.string o0, .int .i64 (t0 : Int), .int .i64 xc, .int .i64 xl, .string xd] (some ⟨b0, off, none⟩) L gp op [p0, ⟨#[253]⟩, p2, p3, p4, p5, p6, p7, p8] by first | (rw [hwa]; exact Ra.out) | (rw [hwa]; exact Ra.out.drew)); clear hwa)
    | (go_at_call 38; refine (HL.out _).mono ?_; rintro r wc ⟨rfl, hB⟩; have Rc := hide' (show Rx w wc X #[.string so, .int .i64 46, .int .i64 sc, .int .i64 sl, .string D] #[.string o0, .int .i64 (t0 : Int), .int .i64 xc, .int .i64 xl, .string xd] (some ⟨b0, off, none⟩) L gp op [p0, ⟨#[253]⟩, p2, p3, p4, p5, p6, p7, p8] by first | exact Rb.out.step hB | exact Rb.out.drew.step hB); clear hB)))
  all_goals (clear s0 x0 x1 r0 r1 r2 r3 r4 r5 r6 r7 r8)
  all_goals (obtain ⟨s0, x0, x1, r0, r1, r2, r3, r4, r5, r6, r7, r8⟩ := QF.out _ Rc.out)
  all_goals (have T5 : Hid True := trivial)
  all_goals (go_wp2_with (first
    | (go_at_call 54; have _ := T5; clear T5; refine (HV5.out _).mono ?_; rintro r wv ⟨rfl, rfl⟩)
    | (go_at_call 54; refine (HV4.out _).mono ?_; rintro r wv ⟨rfl, rfl⟩)))
  all_goals (have T5 : Hid True := trivial)
  all_goals (go_region_held3 (fun V => V.cell? ⟨gp, op + 8, none⟩ = some (.string p8)) (first | go_keep | exact Re.out.1.2.2 8 (by simp) | exact Rd.out.1.2.2 8 (by simp)) (first
    | (go_at_call 54; have _ := T5; clear T5; refine (HN1.out _).mono ?_; rintro r wd ⟨rfl, hwa⟩; have Rd := hide' (show Rx w wd X #[.string so, .int .i64 46, .int .i64 sc, .int .i64 sl, .string D] #[.string o0, .int .i64 (t0 : Int), .int .i64 xc, .int .i64 xl, .string xd] (some ⟨b0, off, none⟩) L gp op [p0, ⟨#[253]⟩, p2, p3, p4, p5, p6, p7, p8] by first | (rw [hwa]; exact Rc.out) | (rw [hwa]; exact Rc.out.drew)); clear hwa)
    | (go_at_call 54; refine (HN2.out _).mono ?_; rintro r we ⟨rfl, hwa⟩; have Re := hide' (show Rx w we X #[.string so, .int .i64 46, .int .i64 sc, .int .i64 sl, .string D] #[.string o0, .int .i64 (t0 : Int), .int .i64 xc, .int .i64 xl, .string xd] (some ⟨b0, off, none⟩) L gp op [p0, ⟨#[253]⟩, p2, p3, p4, p5, p6, p7, p8] by first | (rw [hwa]; exact Rd.out) | (rw [hwa]; exact Rd.out.drew)); clear hwa)))
  all_goals (clear s0 x0 x1 r0 r1 r2 r3 r4 r5 r6 r7 r8)
  all_goals (obtain ⟨s0, x0, x1, r0, r1, r2, r3, r4, r5, r6, r7, r8⟩ := QF.out _ Re.out)
  all_goals (go_wp2_with (first
    | (go_at_call 54; refine (HV8.out _).mono ?_; rintro r wv ⟨rfl, rfl⟩)
    | (go_at_call 42; refine (HPW.out _).mono ?_; rintro r wv ⟨rfl, rfl⟩)
    | (go_at_call 44; refine (HSD.out _ _ _ _ Re.out.1.1.2.2 Re.out.1.2).mono ?_; rintro r wf ⟨rfl, hB⟩; have Rf := hide' (show Rx w wf X #[.string so, .int .i64 46, .int .i64 sc, .int .i64 sl, .string D] #[.string o0, .int .i64 (t0 : Int), .int .i64 xc, .int .i64 xl, .string xd] (some ⟨b0, off, none⟩) L gp op [p0, ⟨#[253]⟩, p2, p3, p4, p5, p6, p7, p8] by first | exact Re.out.step hB | exact Re.out.drew.step hB); clear hB; clear s0 x0 x1 r0 r1 r2 r3 r4 r5 r6 r7 r8; obtain ⟨s0, x0, x1, r0, r1, r2, r3, r4, r5, r6, r7, r8⟩ := QF.out _ Rf.out)
    | (go_at_call 43; refine (HG.out _).mono ?_; rintro r wg ⟨rfl, hB⟩; have Rg := hide' (show Rx w wg X #[.string so, .int .i64 46, .int .i64 sc, .int .i64 sl, .string D] #[.string o0, .int .i64 (t0 : Int), .int .i64 xc, .int .i64 xl, .string xd] (some ⟨b0, off, none⟩) L gp op [p0, ⟨#[253]⟩, p2, p3, p4, p5, p6, p7, p8] by first | exact Rf.out.step hB | exact Rf.out.drew.step hB); clear hB; clear s0 x0 x1 r0 r1 r2 r3 r4 r5 r6 r7 r8; obtain ⟨s0, x0, x1, r0, r1, r2, r3, r4, r5, r6, r7, r8⟩ := QF.out _ Rg.out)))
  all_goals go_ret
  all_goals (exact ⟨rfl, by first | exact Rg.out.1.1.2.1 | exact Rg.out.1.1.2.1.drew⟩)
end Go.Proofs.YtennkhdhnbdbeaaGreat
