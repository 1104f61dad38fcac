import Derived.Test.YtennkhdhnbdbeaaGreatCn1G
import Derived.Test.YtennkhdhnbdbeaaGreatRn0G
import Derived.Test.YtennkhdhnbdbeaaGreatSk9G
/-
  seal.Sign: what is asked first. (The verifier's own text.)
-/
namespace Go.Proofs.YtennkhdhnbdbeaaGreat
set_option linter.unusedVariables false
set_option linter.unusedSimpArgs false
open Go.RowKit Go.Shelf Go.Sort Go.Proofs.YtennkhdhnbdbeaaGreat.Nm

/-- the first of records -/
def hdR (L : List Rn) : Rn := L.headD ⟨.empty, 0, 0, 0, .empty⟩
theorem hdR_eq {L : List Rn} (h : 0 < L.length) : L[0] = hdR L := by
  cases L with
  | nil => simp at h
  | cons x l => rfl
theorem setOK_pos {L : List Rn} (h : setOK L = true) : 0 < L.length := by
  cases L with
  | nil => cases h
  | cons x l => simp
/-- what Sign answers beside the record -/
def signE (f m e s : Int) (n : ByteArray) (L : List Rn) (b u : Int) : Int :=
  if rkB f m e s = false then 24 else if isN n = false then 1 else if b < 0 ∨ u < b ∨ 4294967295 < u then 25 else if setOK L = false ∨ oneAge L = false then 8 else if withinB (hdR L).o n = false then 5 else 0
/-- what lies in memory along Sign -/
def Sw (w wc : World) (f m e s : Int) (p : Option Addr) (L : List Rn) : Prop :=
  Bx wc w.heap.size #[.int .i64 f, .int .i64 m, .int .i64 e, .int .i64 s] 23 ∧ Bx wc (w.heap.size + 1) #[.string .empty, .int .i64 0, .int .i64 0, .int .i64 0, .string .empty] 27 ∧ Below w.heap.size w wc ∧ RsAt wc p L
theorem Sw.step {w wc wd : World} {f m e s : Int} {p : Option Addr} {L : List Rn} (h : Sw w wc f m e s p L) (hB : Below wc.heap.size wc wd) : Sw w wd f m e s p L :=
  ⟨h.1.below hB h.1.lt, h.2.1.below hB h.2.1.lt, bstep h.2.2.1 hB h.2.2.1.size, rsAt_below7 h.2.2.2 hB⟩
theorem Sw.keys {w wc : World} {f m e s : Int} {p : Option Addr} {L : List Rn} (h : Sw w wc f m e s p L) : wc.cell? ⟨w.heap.size, 0, none⟩ = some (.int .i64 f) ∧ wc.cell? ⟨w.heap.size, 1, none⟩ = some (.int .i64 m) ∧ wc.cell? ⟨w.heap.size, 2, none⟩ = some (.int .i64 e) ∧ wc.cell? ⟨w.heap.size, 3, none⟩ = some (.int .i64 s) := ⟨h.1.cell rfl, h.1.cell rfl, h.1.cell rfl, h.1.cell rfl⟩
theorem Sw.zero {w wc : World} {f m e s : Int} {p : Option Addr} {L : List Rn} (h : Sw w wc f m e s p L) : wc.cell? ⟨w.heap.size + 1, 0, none⟩ = some (.string .empty) ∧ wc.cell? ⟨w.heap.size + 1, 1, none⟩ = some (.int .i64 0) ∧ wc.cell? ⟨w.heap.size + 1, 2, none⟩ = some (.int .i64 0) ∧ wc.cell? ⟨w.heap.size + 1, 3, none⟩ = some (.int .i64 0) ∧ wc.cell? ⟨w.heap.size + 1, 4, none⟩ = some (.string .empty) := ⟨h.2.1.cell rfl, h.2.1.cell rfl, h.2.1.cell rfl, h.2.1.cell rfl, h.2.1.cell rfl⟩
theorem Sw.start (w : World) (f m e s : Int) (p : Option Addr) (L : List Rn) (hat : RsAt w p L) : Sw w ((w.alloc (.cells #[.int .i64 f, .int .i64 m, .int .i64 e, .int .i64 s] 23)).alloc (.cells #[.string .empty, .int .i64 0, .int .i64 0, .int .i64 0, .string .empty] 27)) f m e s p L := by
  have h1 : Bx (w.alloc (.cells #[.int .i64 f, .int .i64 m, .int .i64 e, .int .i64 s] 23)) w.heap.size #[.int .i64 f, .int .i64 m, .int .i64 e, .int .i64 s] 23 := World.alloc_heap_new w _
  have h2 : Bx ((w.alloc (.cells #[.int .i64 f, .int .i64 m, .int .i64 e, .int .i64 s] 23)).alloc (.cells #[.string .empty, .int .i64 0, .int .i64 0, .int .i64 0, .string .empty] 27)) (w.alloc (.cells #[.int .i64 f, .int .i64 m, .int .i64 e, .int .i64 s] 23)).heap.size #[.string .empty, .int .i64 0, .int .i64 0, .int .i64 0, .string .empty] 27 := World.alloc_heap_new _ _
  rw [World.size_alloc] at h2
  have hb : Below w.heap.size w ((w.alloc (.cells #[.int .i64 f, .int .i64 m, .int .i64 e, .int .i64 s] 23)).alloc (.cells #[.string .empty, .int .i64 0, .int .i64 0, .int .i64 0, .string .empty] 27)) := ((Below.refl _ _).alloc (Nat.le_refl _) _).alloc (by rw [World.size_alloc]; omega) _
  exact ⟨h1.grown (World.grownBy_alloc _ _ none) (by simp), h2, hb, rsAt_below7 hat hb⟩
set_option maxRecDepth 100000 in
set_option maxHeartbeats 4000000 in
/-- seal.Sign, where something is wrong -/
theorem sign_no (f m e s : Int) (n : ByteArray) (L : List Rn) (p : Option Addr) (cap : Nat) (b u : Int) (w : World) (hn : n.size ≤ maxLen) (hL : L.length ≤ 1048576) (hat : RsAt w p L) (hz : ∀ r ∈ L, r.o.size ≤ maxLen ∧ r.d.size ≤ 9223372036854775807) (hE : signE f m e s n L b u ≠ 0) :
    Calls Tryz.prog 8 #[.agg #[.int .i64 f, .int .i64 m, .int .i64 e, .int .i64 s], .string n, .slice p L.length cap, .int .i64 b, .int .i64 u] w fun r w' => r = .returned (.tuple #[.agg #[.string ⟨#[]⟩, .int .i64 0, .int .i64 0, .int .i64 0, .string ⟨#[]⟩], .int .i64 (signE f m e s n L b u)]) ∧ Below w.heap.size w w' := by
  have ST0 := hide' (Sw.start w f m e s p L hat)
  have HI := hide' (fun w => isRight_any f m e s w)
  have HC := hide' (fun w => check_any n w hn)
  have HS := hide' (fun W (h : RsAt W p L) => isSet_any L p cap W hL h hz)
  have HO := hide' (fun W (h : RsAt W p L) => isOneAge_any L p cap W (by omega) h)
  obtain ⟨k0, k1, k2, k3⟩ := ST0.out.keys
  obtain ⟨z0, z1, z2, z3, z4⟩ := ST0.out.zero
  have g0 := ST0.out.2.1.free 0
  have g1 := ST0.out.2.1.free 1
  have g2 := ST0.out.2.1.free 2
  have g3 := ST0.out.2.1.free 3
  have g4 := ST0.out.2.1.free 4
  clear hat
  cases h1 : rkB f m e s with
  | false =>
    have HE : Hid (signE f m e s n L b u = 24) := by unfold Hid signE; rw [if_pos h1]
    rw [HE.out]
    rw [h1] at HI
    clear h1 hE
    go_enter Tryz.func8, Tryz.ntmps8
    go_wp2_with (first
      | (go_at_call 20; refine (HI.out _).mono ?_; rintro r w1 ⟨rfl, hB⟩; have ST1 := hide' (ST0.out.step hB); obtain ⟨z0, z1, z2, z3, z4⟩ := ST1.out.zero; have g0 := ST1.out.2.1.free 0; have g1 := ST1.out.2.1.free 1; have g2 := ST1.out.2.1.free 2; have g3 := ST1.out.2.1.free 3; have g4 := ST1.out.2.1.free 4; clear hB)
      | (go_at_call 21; refine (HC.out _).mono ?_; rintro r w2 ⟨rfl, hB⟩; have ST2 := hide' (ST1.out.step hB); obtain ⟨z0, z1, z2, z3, z4⟩ := ST2.out.zero; have g0 := ST2.out.2.1.free 0; have g1 := ST2.out.2.1.free 1; have g2 := ST2.out.2.1.free 2; have g3 := ST2.out.2.1.free 3; have g4 := ST2.out.2.1.free 4; clear hB)
      | (go_at_call 22; refine (HS.out _ ST2.out.2.2.2).mono ?_; rintro r w3 ⟨rfl, hB⟩; have ST3 := hide' (ST2.out.step hB); obtain ⟨z0, z1, z2, z3, z4⟩ := ST3.out.zero; have g0 := ST3.out.2.1.free 0; have g1 := ST3.out.2.1.free 1; have g2 := ST3.out.2.1.free 2; have g3 := ST3.out.2.1.free 3; have g4 := ST3.out.2.1.free 4; clear hB)
      | (go_at_call 23; refine (HO.out _ ST3.out.2.2.2).mono ?_; rintro r w4 ⟨rfl, hB⟩; have ST4 := hide' (ST3.out.step hB); obtain ⟨z0, z1, z2, z3, z4⟩ := ST4.out.zero; have g0 := ST4.out.2.1.free 0; have g1 := ST4.out.2.1.free 1; have g2 := ST4.out.2.1.free 2; have g3 := ST4.out.2.1.free 3; have g4 := ST4.out.2.1.free 4; clear hB )
      | (go_at_call 24; refine (HWI.out _).mono ?_; rintro r w5 ⟨rfl, hB⟩; have ST5 := hide' (ST4.out.step hB); obtain ⟨z0, z1, z2, z3, z4⟩ := ST5.out.zero; have g0 := ST5.out.2.1.free 0; have g1 := ST5.out.2.1.free 1; have g2 := ST5.out.2.1.free 2; have g3 := ST5.out.2.1.free 3; have g4 := ST5.out.2.1.free 4; clear hB))
    have E := ((((ST1.out.2.1.set 0 (.string ⟨#[]⟩)).set 1 (.int .i64 0)).set 2 (.int .i64 0)).set 3 (.int .i64 0)).set 4 (.string ⟨#[]⟩)
    have q0 := E.cell (j := 0) (v := .string ⟨#[]⟩) (by simp)
    have q1 := E.cell (j := 1) (v := .int .i64 0) (by simp)
    have q2 := E.cell (j := 2) (v := .int .i64 0) (by simp)
    have q3 := E.cell (j := 3) (v := .int .i64 0) (by simp)
    have q4 := E.cell (j := 4) (v := .string ⟨#[]⟩) (by simp)
    refine bodyPost_ret (v := .tuple #[.agg #[.string ⟨#[]⟩, .int .i64 0, .int .i64 0, .int .i64 0, .string ⟨#[]⟩], .int .i64 24]) (by simp [results, go_sem, q0, q1, q2, q3, q4]) rfl ⟨rfl, ?_⟩
    first | exact ST1.out.2.2.1 | exact (((((ST1.out.2.2.1.setCell (p := ⟨w.heap.size + 1, 0, none⟩) (Nat.le_succ _) (.string ⟨#[]⟩)).setCell (p := ⟨w.heap.size + 1, 1, none⟩) (Nat.le_succ _) (.int .i64 0)).setCell (p := ⟨w.heap.size + 1, 2, none⟩) (Nat.le_succ _) (.int .i64 0)).setCell (p := ⟨w.heap.size + 1, 3, none⟩) (Nat.le_succ _) (.int .i64 0)).setCell (p := ⟨w.heap.size + 1, 4, none⟩) (Nat.le_succ _) (.string ⟨#[]⟩))
  | true =>
    rw [h1] at HI
    cases h2 : isN n with
    | false =>
      have HE : Hid (signE f m e s n L b u = 1) := by unfold Hid signE; rw [if_neg (by rw [h1]; decide), if_pos h2]
      rw [HE.out]
      rw [chk_n8 h2] at HC
      clear h1 h2 hE
      go_enter Tryz.func8, Tryz.ntmps8
      go_wp2_with (first
        | (go_at_call 20; refine (HI.out _).mono ?_; rintro r w1 ⟨rfl, hB⟩; have ST1 := hide' (ST0.out.step hB); obtain ⟨z0, z1, z2, z3, z4⟩ := ST1.out.zero; have g0 := ST1.out.2.1.free 0; have g1 := ST1.out.2.1.free 1; have g2 := ST1.out.2.1.free 2; have g3 := ST1.out.2.1.free 3; have g4 := ST1.out.2.1.free 4; clear hB)
        | (go_at_call 21; refine (HC.out _).mono ?_; rintro r w2 ⟨rfl, hB⟩; have ST2 := hide' (ST1.out.step hB); obtain ⟨z0, z1, z2, z3, z4⟩ := ST2.out.zero; have g0 := ST2.out.2.1.free 0; have g1 := ST2.out.2.1.free 1; have g2 := ST2.out.2.1.free 2; have g3 := ST2.out.2.1.free 3; have g4 := ST2.out.2.1.free 4; clear hB)
        | (go_at_call 22; refine (HS.out _ ST2.out.2.2.2).mono ?_; rintro r w3 ⟨rfl, hB⟩; have ST3 := hide' (ST2.out.step hB); obtain ⟨z0, z1, z2, z3, z4⟩ := ST3.out.zero; have g0 := ST3.out.2.1.free 0; have g1 := ST3.out.2.1.free 1; have g2 := ST3.out.2.1.free 2; have g3 := ST3.out.2.1.free 3; have g4 := ST3.out.2.1.free 4; clear hB)
        | (go_at_call 23; refine (HO.out _ ST3.out.2.2.2).mono ?_; rintro r w4 ⟨rfl, hB⟩; have ST4 := hide' (ST3.out.step hB); obtain ⟨z0, z1, z2, z3, z4⟩ := ST4.out.zero; have g0 := ST4.out.2.1.free 0; have g1 := ST4.out.2.1.free 1; have g2 := ST4.out.2.1.free 2; have g3 := ST4.out.2.1.free 3; have g4 := ST4.out.2.1.free 4; clear hB )
        | (go_at_call 24; refine (HWI.out _).mono ?_; rintro r w5 ⟨rfl, hB⟩; have ST5 := hide' (ST4.out.step hB); obtain ⟨z0, z1, z2, z3, z4⟩ := ST5.out.zero; have g0 := ST5.out.2.1.free 0; have g1 := ST5.out.2.1.free 1; have g2 := ST5.out.2.1.free 2; have g3 := ST5.out.2.1.free 3; have g4 := ST5.out.2.1.free 4; clear hB))
      have E := ((((ST2.out.2.1.set 0 (.string ⟨#[]⟩)).set 1 (.int .i64 0)).set 2 (.int .i64 0)).set 3 (.int .i64 0)).set 4 (.string ⟨#[]⟩)
      have q0 := E.cell (j := 0) (v := .string ⟨#[]⟩) (by simp)
      have q1 := E.cell (j := 1) (v := .int .i64 0) (by simp)
      have q2 := E.cell (j := 2) (v := .int .i64 0) (by simp)
      have q3 := E.cell (j := 3) (v := .int .i64 0) (by simp)
      have q4 := E.cell (j := 4) (v := .string ⟨#[]⟩) (by simp)
      refine bodyPost_ret (v := .tuple #[.agg #[.string ⟨#[]⟩, .int .i64 0, .int .i64 0, .int .i64 0, .string ⟨#[]⟩], .int .i64 1]) (by simp [results, go_sem, q0, q1, q2, q3, q4]) rfl ⟨rfl, ?_⟩
      first | exact ST2.out.2.2.1 | exact (((((ST2.out.2.2.1.setCell (p := ⟨w.heap.size + 1, 0, none⟩) (Nat.le_succ _) (.string ⟨#[]⟩)).setCell (p := ⟨w.heap.size + 1, 1, none⟩) (Nat.le_succ _) (.int .i64 0)).setCell (p := ⟨w.heap.size + 1, 2, none⟩) (Nat.le_succ _) (.int .i64 0)).setCell (p := ⟨w.heap.size + 1, 3, none⟩) (Nat.le_succ _) (.int .i64 0)).setCell (p := ⟨w.heap.size + 1, 4, none⟩) (Nat.le_succ _) (.string ⟨#[]⟩))
    | true =>
      rw [chk_y8 h2] at HC
      by_cases h3 : b < 0 ∨ u < b ∨ 4294967295 < u
      · have HE : Hid (signE f m e s n L b u = 25) := by unfold Hid signE; rw [if_neg (by rw [h1]; decide), if_neg (by rw [h2]; decide), if_pos h3]
        rw [HE.out]
        clear h1 h2 hE
        rcases Classical.em (b < 0) with hb | hb
        · clear h3
          go_enter Tryz.func8, Tryz.ntmps8
          go_wp2_with (first
            | (go_at_call 20; refine (HI.out _).mono ?_; rintro r w1 ⟨rfl, hB⟩; have ST1 := hide' (ST0.out.step hB); obtain ⟨z0, z1, z2, z3, z4⟩ := ST1.out.zero; have g0 := ST1.out.2.1.free 0; have g1 := ST1.out.2.1.free 1; have g2 := ST1.out.2.1.free 2; have g3 := ST1.out.2.1.free 3; have g4 := ST1.out.2.1.free 4; clear hB)
            | (go_at_call 21; refine (HC.out _).mono ?_; rintro r w2 ⟨rfl, hB⟩; have ST2 := hide' (ST1.out.step hB); obtain ⟨z0, z1, z2, z3, z4⟩ := ST2.out.zero; have g0 := ST2.out.2.1.free 0; have g1 := ST2.out.2.1.free 1; have g2 := ST2.out.2.1.free 2; have g3 := ST2.out.2.1.free 3; have g4 := ST2.out.2.1.free 4; clear hB)
            | (go_at_call 22; refine (HS.out _ ST2.out.2.2.2).mono ?_; rintro r w3 ⟨rfl, hB⟩; have ST3 := hide' (ST2.out.step hB); obtain ⟨z0, z1, z2, z3, z4⟩ := ST3.out.zero; have g0 := ST3.out.2.1.free 0; have g1 := ST3.out.2.1.free 1; have g2 := ST3.out.2.1.free 2; have g3 := ST3.out.2.1.free 3; have g4 := ST3.out.2.1.free 4; clear hB)
            | (go_at_call 23; refine (HO.out _ ST3.out.2.2.2).mono ?_; rintro r w4 ⟨rfl, hB⟩; have ST4 := hide' (ST3.out.step hB); obtain ⟨z0, z1, z2, z3, z4⟩ := ST4.out.zero; have g0 := ST4.out.2.1.free 0; have g1 := ST4.out.2.1.free 1; have g2 := ST4.out.2.1.free 2; have g3 := ST4.out.2.1.free 3; have g4 := ST4.out.2.1.free 4; clear hB )
            | (go_at_call 24; refine (HWI.out _).mono ?_; rintro r w5 ⟨rfl, hB⟩; have ST5 := hide' (ST4.out.step hB); obtain ⟨z0, z1, z2, z3, z4⟩ := ST5.out.zero; have g0 := ST5.out.2.1.free 0; have g1 := ST5.out.2.1.free 1; have g2 := ST5.out.2.1.free 2; have g3 := ST5.out.2.1.free 3; have g4 := ST5.out.2.1.free 4; clear hB))
          have E := ((((ST2.out.2.1.set 0 (.string ⟨#[]⟩)).set 1 (.int .i64 0)).set 2 (.int .i64 0)).set 3 (.int .i64 0)).set 4 (.string ⟨#[]⟩)
          have q0 := E.cell (j := 0) (v := .string ⟨#[]⟩) (by simp)
          have q1 := E.cell (j := 1) (v := .int .i64 0) (by simp)
          have q2 := E.cell (j := 2) (v := .int .i64 0) (by simp)
          have q3 := E.cell (j := 3) (v := .int .i64 0) (by simp)
          have q4 := E.cell (j := 4) (v := .string ⟨#[]⟩) (by simp)
          refine bodyPost_ret (v := .tuple #[.agg #[.string ⟨#[]⟩, .int .i64 0, .int .i64 0, .int .i64 0, .string ⟨#[]⟩], .int .i64 25]) (by simp [results, go_sem, q0, q1, q2, q3, q4]) rfl ⟨rfl, ?_⟩
          first | exact ST2.out.2.2.1 | exact (((((ST2.out.2.2.1.setCell (p := ⟨w.heap.size + 1, 0, none⟩) (Nat.le_succ _) (.string ⟨#[]⟩)).setCell (p := ⟨w.heap.size + 1, 1, none⟩) (Nat.le_succ _) (.int .i64 0)).setCell (p := ⟨w.heap.size + 1, 2, none⟩) (Nat.le_succ _) (.int .i64 0)).setCell (p := ⟨w.heap.size + 1, 3, none⟩) (Nat.le_succ _) (.int .i64 0)).setCell (p := ⟨w.heap.size + 1, 4, none⟩) (Nat.le_succ _) (.string ⟨#[]⟩))
        rcases Classical.em (u < b) with hb2 | hb2
        · clear h3
          go_enter Tryz.func8, Tryz.ntmps8
          go_wp2_with (first
            | (go_at_call 20; refine (HI.out _).mono ?_; rintro r w1 ⟨rfl, hB⟩; have ST1 := hide' (ST0.out.step hB); obtain ⟨z0, z1, z2, z3, z4⟩ := ST1.out.zero; have g0 := ST1.out.2.1.free 0; have g1 := ST1.out.2.1.free 1; have g2 := ST1.out.2.1.free 2; have g3 := ST1.out.2.1.free 3; have g4 := ST1.out.2.1.free 4; clear hB)
            | (go_at_call 21; refine (HC.out _).mono ?_; rintro r w2 ⟨rfl, hB⟩; have ST2 := hide' (ST1.out.step hB); obtain ⟨z0, z1, z2, z3, z4⟩ := ST2.out.zero; have g0 := ST2.out.2.1.free 0; have g1 := ST2.out.2.1.free 1; have g2 := ST2.out.2.1.free 2; have g3 := ST2.out.2.1.free 3; have g4 := ST2.out.2.1.free 4; clear hB)
            | (go_at_call 22; refine (HS.out _ ST2.out.2.2.2).mono ?_; rintro r w3 ⟨rfl, hB⟩; have ST3 := hide' (ST2.out.step hB); obtain ⟨z0, z1, z2, z3, z4⟩ := ST3.out.zero; have g0 := ST3.out.2.1.free 0; have g1 := ST3.out.2.1.free 1; have g2 := ST3.out.2.1.free 2; have g3 := ST3.out.2.1.free 3; have g4 := ST3.out.2.1.free 4; clear hB)
            | (go_at_call 23; refine (HO.out _ ST3.out.2.2.2).mono ?_; rintro r w4 ⟨rfl, hB⟩; have ST4 := hide' (ST3.out.step hB); obtain ⟨z0, z1, z2, z3, z4⟩ := ST4.out.zero; have g0 := ST4.out.2.1.free 0; have g1 := ST4.out.2.1.free 1; have g2 := ST4.out.2.1.free 2; have g3 := ST4.out.2.1.free 3; have g4 := ST4.out.2.1.free 4; clear hB )
            | (go_at_call 24; refine (HWI.out _).mono ?_; rintro r w5 ⟨rfl, hB⟩; have ST5 := hide' (ST4.out.step hB); obtain ⟨z0, z1, z2, z3, z4⟩ := ST5.out.zero; have g0 := ST5.out.2.1.free 0; have g1 := ST5.out.2.1.free 1; have g2 := ST5.out.2.1.free 2; have g3 := ST5.out.2.1.free 3; have g4 := ST5.out.2.1.free 4; clear hB))
          have E := ((((ST2.out.2.1.set 0 (.string ⟨#[]⟩)).set 1 (.int .i64 0)).set 2 (.int .i64 0)).set 3 (.int .i64 0)).set 4 (.string ⟨#[]⟩)
          have q0 := E.cell (j := 0) (v := .string ⟨#[]⟩) (by simp)
          have q1 := E.cell (j := 1) (v := .int .i64 0) (by simp)
          have q2 := E.cell (j := 2) (v := .int .i64 0) (by simp)
          have q3 := E.cell (j := 3) (v := .int .i64 0) (by simp)
          have q4 := E.cell (j := 4) (v := .string ⟨#[]⟩) (by simp)
          refine bodyPost_ret (v := .tuple #[.agg #[.string ⟨#[]⟩, .int .i64 0, .int .i64 0, .int .i64 0, .string ⟨#[]⟩], .int .i64 25]) (by simp [results, go_sem, q0, q1, q2, q3, q4]) rfl ⟨rfl, ?_⟩
          first | exact ST2.out.2.2.1 | exact (((((ST2.out.2.2.1.setCell (p := ⟨w.heap.size + 1, 0, none⟩) (Nat.le_succ _) (.string ⟨#[]⟩)).setCell (p := ⟨w.heap.size + 1, 1, none⟩) (Nat.le_succ _) (.int .i64 0)).setCell (p := ⟨w.heap.size + 1, 2, none⟩) (Nat.le_succ _) (.int .i64 0)).setCell (p := ⟨w.heap.size + 1, 3, none⟩) (Nat.le_succ _) (.int .i64 0)).setCell (p := ⟨w.heap.size + 1, 4, none⟩) (Nat.le_succ _) (.string ⟨#[]⟩))
        have hb3 : 4294967295 < u := by rcases h3 with h | h | h <;> first | exact absurd h hb | exact absurd h hb2 | exact h
        clear h3
        go_enter Tryz.func8, Tryz.ntmps8
        go_wp2_with (first
          | (go_at_call 20; refine (HI.out _).mono ?_; rintro r w1 ⟨rfl, hB⟩; have ST1 := hide' (ST0.out.step hB); obtain ⟨z0, z1, z2, z3, z4⟩ := ST1.out.zero; have g0 := ST1.out.2.1.free 0; have g1 := ST1.out.2.1.free 1; have g2 := ST1.out.2.1.free 2; have g3 := ST1.out.2.1.free 3; have g4 := ST1.out.2.1.free 4; clear hB)
          | (go_at_call 21; refine (HC.out _).mono ?_; rintro r w2 ⟨rfl, hB⟩; have ST2 := hide' (ST1.out.step hB); obtain ⟨z0, z1, z2, z3, z4⟩ := ST2.out.zero; have g0 := ST2.out.2.1.free 0; have g1 := ST2.out.2.1.free 1; have g2 := ST2.out.2.1.free 2; have g3 := ST2.out.2.1.free 3; have g4 := ST2.out.2.1.free 4; clear hB)
          | (go_at_call 22; refine (HS.out _ ST2.out.2.2.2).mono ?_; rintro r w3 ⟨rfl, hB⟩; have ST3 := hide' (ST2.out.step hB); obtain ⟨z0, z1, z2, z3, z4⟩ := ST3.out.zero; have g0 := ST3.out.2.1.free 0; have g1 := ST3.out.2.1.free 1; have g2 := ST3.out.2.1.free 2; have g3 := ST3.out.2.1.free 3; have g4 := ST3.out.2.1.free 4; clear hB)
          | (go_at_call 23; refine (HO.out _ ST3.out.2.2.2).mono ?_; rintro r w4 ⟨rfl, hB⟩; have ST4 := hide' (ST3.out.step hB); obtain ⟨z0, z1, z2, z3, z4⟩ := ST4.out.zero; have g0 := ST4.out.2.1.free 0; have g1 := ST4.out.2.1.free 1; have g2 := ST4.out.2.1.free 2; have g3 := ST4.out.2.1.free 3; have g4 := ST4.out.2.1.free 4; clear hB )
          | (go_at_call 24; refine (HWI.out _).mono ?_; rintro r w5 ⟨rfl, hB⟩; have ST5 := hide' (ST4.out.step hB); obtain ⟨z0, z1, z2, z3, z4⟩ := ST5.out.zero; have g0 := ST5.out.2.1.free 0; have g1 := ST5.out.2.1.free 1; have g2 := ST5.out.2.1.free 2; have g3 := ST5.out.2.1.free 3; have g4 := ST5.out.2.1.free 4; clear hB))
        have E := ((((ST2.out.2.1.set 0 (.string ⟨#[]⟩)).set 1 (.int .i64 0)).set 2 (.int .i64 0)).set 3 (.int .i64 0)).set 4 (.string ⟨#[]⟩)
        have q0 := E.cell (j := 0) (v := .string ⟨#[]⟩) (by simp)
        have q1 := E.cell (j := 1) (v := .int .i64 0) (by simp)
        have q2 := E.cell (j := 2) (v := .int .i64 0) (by simp)
        have q3 := E.cell (j := 3) (v := .int .i64 0) (by simp)
        have q4 := E.cell (j := 4) (v := .string ⟨#[]⟩) (by simp)
        refine bodyPost_ret (v := .tuple #[.agg #[.string ⟨#[]⟩, .int .i64 0, .int .i64 0, .int .i64 0, .string ⟨#[]⟩], .int .i64 25]) (by simp [results, go_sem, q0, q1, q2, q3, q4]) rfl ⟨rfl, ?_⟩
        first | exact ST2.out.2.2.1 | exact (((((ST2.out.2.2.1.setCell (p := ⟨w.heap.size + 1, 0, none⟩) (Nat.le_succ _) (.string ⟨#[]⟩)).setCell (p := ⟨w.heap.size + 1, 1, none⟩) (Nat.le_succ _) (.int .i64 0)).setCell (p := ⟨w.heap.size + 1, 2, none⟩) (Nat.le_succ _) (.int .i64 0)).setCell (p := ⟨w.heap.size + 1, 3, none⟩) (Nat.le_succ _) (.int .i64 0)).setCell (p := ⟨w.heap.size + 1, 4, none⟩) (Nat.le_succ _) (.string ⟨#[]⟩))
      have hb : ¬ b < 0 := fun h => h3 (.inl h)
      have hb2 : ¬ u < b := fun h => h3 (.inr (.inl h))
      have hb3 : ¬ 4294967295 < u := fun h => h3 (.inr (.inr h))
      cases h4 : setOK L with
      | false =>
        have HE : Hid (signE f m e s n L b u = 8) := by unfold Hid signE; rw [if_neg (by rw [h1]; decide), if_neg (by rw [h2]; decide), if_neg h3, if_pos (.inl h4)]
        rw [HE.out]
        rw [h4] at HS
        clear h1 h2 h3 h4 hE
        go_enter Tryz.func8, Tryz.ntmps8
        go_wp2_with (first
          | (go_at_call 20; refine (HI.out _).mono ?_; rintro r w1 ⟨rfl, hB⟩; have ST1 := hide' (ST0.out.step hB); obtain ⟨z0, z1, z2, z3, z4⟩ := ST1.out.zero; have g0 := ST1.out.2.1.free 0; have g1 := ST1.out.2.1.free 1; have g2 := ST1.out.2.1.free 2; have g3 := ST1.out.2.1.free 3; have g4 := ST1.out.2.1.free 4; clear hB)
          | (go_at_call 21; refine (HC.out _).mono ?_; rintro r w2 ⟨rfl, hB⟩; have ST2 := hide' (ST1.out.step hB); obtain ⟨z0, z1, z2, z3, z4⟩ := ST2.out.zero; have g0 := ST2.out.2.1.free 0; have g1 := ST2.out.2.1.free 1; have g2 := ST2.out.2.1.free 2; have g3 := ST2.out.2.1.free 3; have g4 := ST2.out.2.1.free 4; clear hB)
          | (go_at_call 22; refine (HS.out _ ST2.out.2.2.2).mono ?_; rintro r w3 ⟨rfl, hB⟩; have ST3 := hide' (ST2.out.step hB); obtain ⟨z0, z1, z2, z3, z4⟩ := ST3.out.zero; have g0 := ST3.out.2.1.free 0; have g1 := ST3.out.2.1.free 1; have g2 := ST3.out.2.1.free 2; have g3 := ST3.out.2.1.free 3; have g4 := ST3.out.2.1.free 4; clear hB)
          | (go_at_call 23; refine (HO.out _ ST3.out.2.2.2).mono ?_; rintro r w4 ⟨rfl, hB⟩; have ST4 := hide' (ST3.out.step hB); obtain ⟨z0, z1, z2, z3, z4⟩ := ST4.out.zero; have g0 := ST4.out.2.1.free 0; have g1 := ST4.out.2.1.free 1; have g2 := ST4.out.2.1.free 2; have g3 := ST4.out.2.1.free 3; have g4 := ST4.out.2.1.free 4; clear hB )
          | (go_at_call 24; refine (HWI.out _).mono ?_; rintro r w5 ⟨rfl, hB⟩; have ST5 := hide' (ST4.out.step hB); obtain ⟨z0, z1, z2, z3, z4⟩ := ST5.out.zero; have g0 := ST5.out.2.1.free 0; have g1 := ST5.out.2.1.free 1; have g2 := ST5.out.2.1.free 2; have g3 := ST5.out.2.1.free 3; have g4 := ST5.out.2.1.free 4; clear hB))
        have E := ((((ST3.out.2.1.set 0 (.string ⟨#[]⟩)).set 1 (.int .i64 0)).set 2 (.int .i64 0)).set 3 (.int .i64 0)).set 4 (.string ⟨#[]⟩)
        have q0 := E.cell (j := 0) (v := .string ⟨#[]⟩) (by simp)
        have q1 := E.cell (j := 1) (v := .int .i64 0) (by simp)
        have q2 := E.cell (j := 2) (v := .int .i64 0) (by simp)
        have q3 := E.cell (j := 3) (v := .int .i64 0) (by simp)
        have q4 := E.cell (j := 4) (v := .string ⟨#[]⟩) (by simp)
        refine bodyPost_ret (v := .tuple #[.agg #[.string ⟨#[]⟩, .int .i64 0, .int .i64 0, .int .i64 0, .string ⟨#[]⟩], .int .i64 8]) (by simp [results, go_sem, q0, q1, q2, q3, q4]) rfl ⟨rfl, ?_⟩
        first | exact ST3.out.2.2.1 | exact (((((ST3.out.2.2.1.setCell (p := ⟨w.heap.size + 1, 0, none⟩) (Nat.le_succ _) (.string ⟨#[]⟩)).setCell (p := ⟨w.heap.size + 1, 1, none⟩) (Nat.le_succ _) (.int .i64 0)).setCell (p := ⟨w.heap.size + 1, 2, none⟩) (Nat.le_succ _) (.int .i64 0)).setCell (p := ⟨w.heap.size + 1, 3, none⟩) (Nat.le_succ _) (.int .i64 0)).setCell (p := ⟨w.heap.size + 1, 4, none⟩) (Nat.le_succ _) (.string ⟨#[]⟩))
      | true =>
        have hp := setOK_pos h4
        rw [h4] at HS
        cases h5 : oneAge L with
        | false =>
          have HE : Hid (signE f m e s n L b u = 8) := by unfold Hid signE; rw [if_neg (by rw [h1]; decide), if_neg (by rw [h2]; decide), if_neg h3, if_pos (.inr h5)]
          rw [HE.out]
          rw [h5] at HO
          clear h1 h2 h3 h4 h5 hE
          go_enter Tryz.func8, Tryz.ntmps8
          go_wp2_with (first
            | (go_at_call 20; refine (HI.out _).mono ?_; rintro r w1 ⟨rfl, hB⟩; have ST1 := hide' (ST0.out.step hB); obtain ⟨z0, z1, z2, z3, z4⟩ := ST1.out.zero; have g0 := ST1.out.2.1.free 0; have g1 := ST1.out.2.1.free 1; have g2 := ST1.out.2.1.free 2; have g3 := ST1.out.2.1.free 3; have g4 := ST1.out.2.1.free 4; clear hB)
            | (go_at_call 21; refine (HC.out _).mono ?_; rintro r w2 ⟨rfl, hB⟩; have ST2 := hide' (ST1.out.step hB); obtain ⟨z0, z1, z2, z3, z4⟩ := ST2.out.zero; have g0 := ST2.out.2.1.free 0; have g1 := ST2.out.2.1.free 1; have g2 := ST2.out.2.1.free 2; have g3 := ST2.out.2.1.free 3; have g4 := ST2.out.2.1.free 4; clear hB)
            | (go_at_call 22; refine (HS.out _ ST2.out.2.2.2).mono ?_; rintro r w3 ⟨rfl, hB⟩; have ST3 := hide' (ST2.out.step hB); obtain ⟨z0, z1, z2, z3, z4⟩ := ST3.out.zero; have g0 := ST3.out.2.1.free 0; have g1 := ST3.out.2.1.free 1; have g2 := ST3.out.2.1.free 2; have g3 := ST3.out.2.1.free 3; have g4 := ST3.out.2.1.free 4; clear hB)
            | (go_at_call 23; refine (HO.out _ ST3.out.2.2.2).mono ?_; rintro r w4 ⟨rfl, hB⟩; have ST4 := hide' (ST3.out.step hB); obtain ⟨z0, z1, z2, z3, z4⟩ := ST4.out.zero; have g0 := ST4.out.2.1.free 0; have g1 := ST4.out.2.1.free 1; have g2 := ST4.out.2.1.free 2; have g3 := ST4.out.2.1.free 3; have g4 := ST4.out.2.1.free 4; clear hB )
            | (go_at_call 24; refine (HWI.out _).mono ?_; rintro r w5 ⟨rfl, hB⟩; have ST5 := hide' (ST4.out.step hB); obtain ⟨z0, z1, z2, z3, z4⟩ := ST5.out.zero; have g0 := ST5.out.2.1.free 0; have g1 := ST5.out.2.1.free 1; have g2 := ST5.out.2.1.free 2; have g3 := ST5.out.2.1.free 3; have g4 := ST5.out.2.1.free 4; clear hB))
          have E := ((((ST4.out.2.1.set 0 (.string ⟨#[]⟩)).set 1 (.int .i64 0)).set 2 (.int .i64 0)).set 3 (.int .i64 0)).set 4 (.string ⟨#[]⟩)
          have q0 := E.cell (j := 0) (v := .string ⟨#[]⟩) (by simp)
          have q1 := E.cell (j := 1) (v := .int .i64 0) (by simp)
          have q2 := E.cell (j := 2) (v := .int .i64 0) (by simp)
          have q3 := E.cell (j := 3) (v := .int .i64 0) (by simp)
          have q4 := E.cell (j := 4) (v := .string ⟨#[]⟩) (by simp)
          refine bodyPost_ret (v := .tuple #[.agg #[.string ⟨#[]⟩, .int .i64 0, .int .i64 0, .int .i64 0, .string ⟨#[]⟩], .int .i64 8]) (by simp [results, go_sem, q0, q1, q2, q3, q4]) rfl ⟨rfl, ?_⟩
          first | exact ST4.out.2.2.1 | exact (((((ST4.out.2.2.1.setCell (p := ⟨w.heap.size + 1, 0, none⟩) (Nat.le_succ _) (.string ⟨#[]⟩)).setCell (p := ⟨w.heap.size + 1, 1, none⟩) (Nat.le_succ _) (.int .i64 0)).setCell (p := ⟨w.heap.size + 1, 2, none⟩) (Nat.le_succ _) (.int .i64 0)).setCell (p := ⟨w.heap.size + 1, 3, none⟩) (Nat.le_succ _) (.int .i64 0)).setCell (p := ⟨w.heap.size + 1, 4, none⟩) (Nat.le_succ _) (.string ⟨#[]⟩))
        | true =>
          rw [h5] at HO
          cases h6 : withinB (hdR L).o n with
          | true => exact absurd (show signE f m e s n L b u = 0 by unfold signE; rw [if_neg (by rw [h1]; decide), if_neg (by rw [h2]; decide), if_neg h3, if_neg (by rw [h4, h5]; simp), if_neg (by rw [h6]; decide)]) hE
          | false =>
            have HE : Hid (signE f m e s n L b u = 5) := by unfold Hid signE; rw [if_neg (by rw [h1]; decide), if_neg (by rw [h2]; decide), if_neg h3, if_neg (by rw [h4, h5]; simp), if_pos h6]
            rw [HE.out]
            have HWI := hide' (fun w => within_any (hdR L).o n w (by rw [← hdR_eq hp]; exact (hz _ (List.getElem_mem hp)).1) hn)
            rw [h6] at HWI
            have HFI : Hid (∀ V : World, RsAt V p L → ∃ g off, p = some ⟨g, off, none⟩ ∧ V.cell? ⟨g, off, none⟩ = some (.string (hdR L).o)) := fun V hV => by
              obtain ⟨g, off, hp2, hg, e0, -⟩ := hV 0 hp
              rw [Nat.zero_mul, Nat.add_zero, hdR_eq hp] at e0
              exact ⟨g, off, hp2, e0⟩
            have hpi : ¬ (L.length : Int) = 0 := by omega
            generalize (hdR L).o = xo at *
            clear h1 h2 h3 h4 h5 h6 hE
            go_enter Tryz.func8, Tryz.ntmps8
            go_wp2_with (first
              | (go_at_call 20; refine (HI.out _).mono ?_; rintro r w1 ⟨rfl, hB⟩; have ST1 := hide' (ST0.out.step hB); obtain ⟨z0, z1, z2, z3, z4⟩ := ST1.out.zero; have g0 := ST1.out.2.1.free 0; have g1 := ST1.out.2.1.free 1; have g2 := ST1.out.2.1.free 2; have g3 := ST1.out.2.1.free 3; have g4 := ST1.out.2.1.free 4; clear hB)
              | (go_at_call 21; refine (HC.out _).mono ?_; rintro r w2 ⟨rfl, hB⟩; have ST2 := hide' (ST1.out.step hB); obtain ⟨z0, z1, z2, z3, z4⟩ := ST2.out.zero; have g0 := ST2.out.2.1.free 0; have g1 := ST2.out.2.1.free 1; have g2 := ST2.out.2.1.free 2; have g3 := ST2.out.2.1.free 3; have g4 := ST2.out.2.1.free 4; clear hB)
              | (go_at_call 22; refine (HS.out _ ST2.out.2.2.2).mono ?_; rintro r w3 ⟨rfl, hB⟩; have ST3 := hide' (ST2.out.step hB); obtain ⟨z0, z1, z2, z3, z4⟩ := ST3.out.zero; have g0 := ST3.out.2.1.free 0; have g1 := ST3.out.2.1.free 1; have g2 := ST3.out.2.1.free 2; have g3 := ST3.out.2.1.free 3; have g4 := ST3.out.2.1.free 4; clear hB)
              | (go_at_call 23; refine (HO.out _ ST3.out.2.2.2).mono ?_; rintro r w4 ⟨rfl, hB⟩; have ST4 := hide' (ST3.out.step hB); obtain ⟨z0, z1, z2, z3, z4⟩ := ST4.out.zero; have g0 := ST4.out.2.1.free 0; have g1 := ST4.out.2.1.free 1; have g2 := ST4.out.2.1.free 2; have g3 := ST4.out.2.1.free 3; have g4 := ST4.out.2.1.free 4; clear hB ; obtain ⟨g, off, rfl, e0⟩ := HFI.out _ ST4.out.2.2.2)
              | (go_at_call 24; refine (HWI.out _).mono ?_; rintro r w5 ⟨rfl, hB⟩; have ST5 := hide' (ST4.out.step hB); obtain ⟨z0, z1, z2, z3, z4⟩ := ST5.out.zero; have g0 := ST5.out.2.1.free 0; have g1 := ST5.out.2.1.free 1; have g2 := ST5.out.2.1.free 2; have g3 := ST5.out.2.1.free 3; have g4 := ST5.out.2.1.free 4; clear hB))
            have E := ((((ST5.out.2.1.set 0 (.string ⟨#[]⟩)).set 1 (.int .i64 0)).set 2 (.int .i64 0)).set 3 (.int .i64 0)).set 4 (.string ⟨#[]⟩)
            have q0 := E.cell (j := 0) (v := .string ⟨#[]⟩) (by simp)
            have q1 := E.cell (j := 1) (v := .int .i64 0) (by simp)
            have q2 := E.cell (j := 2) (v := .int .i64 0) (by simp)
            have q3 := E.cell (j := 3) (v := .int .i64 0) (by simp)
            have q4 := E.cell (j := 4) (v := .string ⟨#[]⟩) (by simp)
            refine bodyPost_ret (v := .tuple #[.agg #[.string ⟨#[]⟩, .int .i64 0, .int .i64 0, .int .i64 0, .string ⟨#[]⟩], .int .i64 5]) (by simp [results, go_sem, q0, q1, q2, q3, q4]) rfl ⟨rfl, ?_⟩
            first | exact ST5.out.2.2.1 | exact (((((ST5.out.2.2.1.setCell (p := ⟨w.heap.size + 1, 0, none⟩) (Nat.le_succ _) (.string ⟨#[]⟩)).setCell (p := ⟨w.heap.size + 1, 1, none⟩) (Nat.le_succ _) (.int .i64 0)).setCell (p := ⟨w.heap.size + 1, 2, none⟩) (Nat.le_succ _) (.int .i64 0)).setCell (p := ⟨w.heap.size + 1, 3, none⟩) (Nat.le_succ _) (.int .i64 0)).setCell (p := ⟨w.heap.size + 1, 4, none⟩) (Nat.le_succ _) (.string ⟨#[]⟩))
end Go.Proofs.YtennkhdhnbdbeaaGreat
