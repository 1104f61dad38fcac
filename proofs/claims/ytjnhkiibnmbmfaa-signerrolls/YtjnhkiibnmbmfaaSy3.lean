import Derived.Test.YtjnhkiibnmbmfaaSy2
import Derived.Test.YtjnhkiibnmbmfaaSp0
import Derived.Lib.SliceRun
/-
  Chapter 7: slices.Clone of a line, Roll's errors. (The verifier's own text.)
-/
namespace Go.Proofs.Ytjnhkiibnmbmfaa
set_option linter.unusedVariables false
set_option linter.unusedSimpArgs false
open Go.RowKit Go.Shelf Go.Sort Go.Proofs.Ytjnhkiibnmbmfaa.Nm

theorem row_empty (w : World) (e size : Nat) : (w.alloc (.cells #[] e)).ownsRow w.heap.size e size (.slice (some ⟨w.heap.size, 0, none⟩) 0 0) 0 [] :=
  ⟨by simp, .inr ⟨w.heap.size, 0, #[], rfl, Nat.le_refl _, World.alloc_heap_new w _, by simp, by simp, by simp, by simp⟩⟩
set_option maxRecDepth 100000 in
set_option maxHeartbeats 1000000 in
/-- slices.Clone of a line -/
theorem clone_any (L : List Tk) (ad : Addr) (cap n : Nat) (w : World) (hn : L.length = n) (hL : n ≤ 1048576) (hat : TsAt w (some ad) L) :
    Calls Try.prog 19 #[.slice (some ad) n cap] w fun r w' => (∃ v, r = .returned v ∧ w'.ownsRow w.heap.size 29 8 v n (rowV tkV L)) ∧ Below w.heap.size w w' := by
  subst hn
  have HA := hide' (row_below' hat ((Below.refl w.heap.size w).alloc (Nat.le_refl _) (.cells #[] 29)))
  have HB := hide' ((Below.refl w.heap.size w).alloc (Nat.le_refl _) (.cells #[] 29))
  have HO := hide' (row_empty w 29 8)
  clear hat
  have qT : ∀ (w : World) (a : Option Addr) (n c n' c' : Nat), (binOp .eql 30 (.slice a n c) (.slice none n' c')).run Try.prog w = .ok (.bool a.isNone) w := fun w a n c n' c' => Lib.run_eql_slice_nil w _ _ a n c n' c' Try.underlying30
  go_enter Try.func19, Try.ntmps19
  go_wp2_with (first
    | (at_builtin; refine wpList_append_rows (V := tkV) Try.underlying30 infoTk rfl (by decide) (by decide) tkV_len tkV_one rfl _ _ rfl w.heap.size (.slice (some ⟨w.heap.size, 0, none⟩) 0 0) 0 [] rfl HO.out (some ad) L cap rfl HA.out (fun e => by cases e) (by omega) (by simp) ?_; intro v1 w1 ho1 hg1; rw [Nat.zero_add, List.nil_append] at ho1; have HO1 := hide' ho1; have HB1 := hide' (HB.out.grown hg1 (by simp) (fun k e => by simp [Value.ownBlock] at e; omega)); clear ho1 hg1))
  go_ret
  exact ⟨⟨_, rfl, HO1.out⟩, HB1.out⟩
/-- what Roll answers where something is wrong -/
def rollNo (c : Int) : Ending := .returned (.tuple #[.slice none 0 0, .int .i64 c])
set_option maxRecDepth 100000 in
set_option maxHeartbeats 2000000 in
/-- signer.Roll, at a wrong age -/
theorem roll_age (p : Option Addr) (cap n : Nat) (f m e s now ka sa : Int) (w : World) (h : (ageB ka && ageB sa) = false) :
    Calls Try.prog 5 #[.slice p n cap, .agg #[.int .i64 f, .int .i64 m, .int .i64 e, .int .i64 s], .int .i64 now, .int .i64 ka, .int .i64 sa] w fun r w' => r = rollNo 23 ∧ Below w.heap.size w w' := by
  have H1 := hide' (isAge_any ka)
  have H2 := hide' (isAge_any sa)
  have HB := hide' ((Below.refl w.heap.size w).alloc (Nat.le_refl _) (.cells #[.int .i64 f, .int .i64 m, .int .i64 e, .int .i64 s] 24))
  generalize ageB ka = b1 at *
  generalize ageB sa = b2 at *
  cases b1 with
  | false =>
    clear h
    go_enter Try.func5, Try.ntmps5
    go_wp2_with (first
      | (go_at_call 13; with_reducible refine (H1.out _).mono ?_; rintro r1 w1 ⟨rfl, rfl⟩))
    go_ret2
    exact ⟨rfl, HB.out⟩
  | true =>
    obtain rfl : b2 = false := h
    go_enter Try.func5, Try.ntmps5
    go_wp2_with (first
      | (go_at_call 13; with_reducible refine (H1.out _).mono ?_; rintro r1 w1 ⟨rfl, rfl⟩)
      | (go_at_call 13; with_reducible refine (H2.out _).mono ?_; rintro r1 w1 ⟨rfl, rfl⟩))
    go_ret2
    exact ⟨rfl, HB.out⟩
theorem bx4 {w : World} {R : Nat} {T : TypeId} {a b c d : Value} (hb : Bx w R #[a, b, c, d] T) : w.cell? ⟨R, 0, none⟩ = some a ∧ w.cell? ⟨R, 1, none⟩ = some b ∧ w.cell? ⟨R, 2, none⟩ = some c ∧ w.cell? ⟨R, 3, none⟩ = some d := ⟨hb.cell rfl, hb.cell rfl, hb.cell rfl, hb.cell rfl⟩
/-- when the last key begins to sign, in memory -/
theorem lastCell {w : World} {g off : Nat} {I : List Tk} {l : Tk} (h : TsAt w (some ⟨g, off, none⟩) (I ++ [l])) : g < w.heap.size ∧ w.cell? ⟨g, off + I.length * 8 + 5, none⟩ = some (.int .i64 l.a) ∧ True ∧ True := by
  obtain ⟨g', off', hp, hg, e0, e1, e2, e3, e4, e5, e6, e7⟩ := TsAt.cells h I.length (by simp)
  obtain ⟨rfl, rfl⟩ : g = g' ∧ off = off' := by simpa using hp
  rw [List.getElem_append_right (Nat.le_refl _)] at e5
  simp only [Nat.sub_self, List.getElem_cons_zero] at e5
  exact ⟨hg, e5, trivial, trivial⟩
set_option maxRecDepth 100000 in
set_option maxHeartbeats 2000000 in
/-- signer.Roll: error 24 -/
theorem roll_key (I : List Tk) (l : Tk) (g off cap : Nat) (f m e s now ka sa : Int) (w : World) (hL : (I ++ [l]).length ≤ 4294967296) (hat : TsAt w (some ⟨g, off, none⟩) (I ++ [l])) (hl : l.r = 4294967296) (hI : ∀ k ∈ I, k.r ≠ 4294967296) (hlb : lineB (I ++ [l]) = true) (h : (ageB ka && ageB sa) = true) (hr : rkB f m e s = false) :
    Calls Try.prog 5 #[.slice (some ⟨g, off, none⟩) (I ++ [l]).length cap, .agg #[.int .i64 f, .int .i64 m, .int .i64 e, .int .i64 s], .int .i64 now, .int .i64 ka, .int .i64 sa] w fun r w' => r = rollNo 24 ∧ Below w.heap.size w w' := by
  have hb12 : ageB ka = true ∧ ageB sa = true := by simpa using h
  have H1 := hide' (isAge_any ka)
  have H2 := hide' (isAge_any sa)
  rw [hb12.1] at H1
  rw [hb12.2] at H2
  have ha : (0 ≤ ka ∧ ka ≤ 2147483647) ∧ (0 ≤ sa ∧ sa ≤ 2147483647) := by simpa [ageB] using hb12
  obtain ⟨⟨ha1, ha2⟩, ha3, ha4⟩ := ha
  have HB := hide' ((Below.refl w.heap.size w).alloc (Nat.le_refl _) (.cells #[.int .i64 f, .int .i64 m, .int .i64 e, .int .i64 s] 24))
  have HK0 := hide' (bxNew w #[.int .i64 f, .int .i64 m, .int .i64 e, .int .i64 s] 24)
  have HA0 := hide' (TsAt.below hat HB.out)
  have HE := hide' (endless_any I l (some ⟨g, off, none⟩) cap _ _ rfl hL HA0.out hl hI)
  have HIL := hide' (fun (W : World) (h : TsAt W (some ⟨g, off, none⟩) (I ++ [l])) => isLine_any (I ++ [l]) (some ⟨g, off, none⟩) cap W (by omega) h)
  rw [hlb] at HIL
  have HR := hide' (sIsRight_any f m e s)
  have HP := hide' (public_any f m e s)
  have HH := hide' (fun (W : World) (h : TsAt W (some ⟨g, off, none⟩) (I ++ [l])) => hasPublic_any (I ++ [l]) (some ⟨g, off, none⟩) cap (pubB f m e s) W (by omega) h)
  clear hat hl hI h hb12 hlb
  rw [hr] at HR
  clear hr
  have HLC : Hid (∀ W, TsAt W (some ⟨g, off, none⟩) (I ++ [l]) → g < W.heap.size ∧ W.cell? ⟨g, off + I.length * 8 + 5, none⟩ = some (.int .i64 l.a) ∧ True ∧ True) := fun W h => lastCell h
  have hlen : (I ++ [l]).length = I.length + 1 := by simp
  generalize I ++ [l] = L at *
  generalize I.length = ni at *
  generalize L.length = n at *
  subst hlen
  go_enter Try.func5, Try.ntmps5
  go_wp2_with (first
      | (go_at_call 13; with_reducible refine (H1.out _).mono ?_; rintro r1 w1 ⟨rfl, rfl⟩)
      | (go_at_call 13; with_reducible refine (H2.out _).mono ?_; rintro r1 w1 ⟨rfl, rfl⟩)
      | (go_at_call 14; refine HE.out.mono ?_; rintro r1 w1 ⟨rfl, hB1⟩; have HB1 := hide' (bstep HB.out hB1 HB.out.size); have HA1 := hide' (TsAt.below HA0.out hB1); have HK1 := hide' (HK0.out.below hB1 HK0.out.lt); clear hB1)
      | (go_at_call 15; refine (HIL.out _ HA1.out).mono ?_; rintro r2 w2 ⟨rfl, hB2⟩; have HB2 := hide' (bstep HB1.out hB2 HB1.out.size); have HA2 := hide' (TsAt.below HA1.out hB2); have HK2 := hide' (HK1.out.below hB2 HK1.out.lt); clear hB2; obtain ⟨k0, k1, k2, k3⟩ := bx4 HK2.out)
      | (go_at_call 16; refine (HR.out _).mono ?_; rintro r3 w3 ⟨rfl, hB3⟩; have HB3 := hide' (bstep HB2.out hB3 HB2.out.size); have HA3 := hide' (TsAt.below HA2.out hB3); have HK3 := hide' (HK2.out.below hB3 HK2.out.lt); clear hB3; obtain ⟨m0, m1, m2, m3⟩ := bx4 HK3.out)
      | (go_at_call 18; refine (HP.out _).mono ?_; rintro r4 w4 ⟨rfl, hB4⟩; have HB4 := hide' (bstep HB3.out hB4 HB3.out.size); have HA4 := hide' (TsAt.below HA3.out hB4); have HK4 := hide' (HK3.out.below hB4 HK3.out.lt); clear hB4)
      | (go_at_call 17; refine (HH.out _ HA4.out).mono ?_; rintro r5 w5 ⟨rfl, hB5⟩; have HB5 := hide' (bstep HB4.out hB5 HB4.out.size); have HA5 := hide' (TsAt.below HA4.out hB5); have HK5 := hide' (HK4.out.below hB5 HK4.out.lt); clear hB5; skip))
  go_ret2
  exact ⟨rfl, HB3.out⟩
set_option maxRecDepth 100000 in
set_option maxHeartbeats 2000000 in
/-- signer.Roll: error 19 -/
theorem roll_twice (I : List Tk) (l : Tk) (g off cap : Nat) (f m e s now ka sa : Int) (w : World) (hL : (I ++ [l]).length ≤ 4294967296) (hat : TsAt w (some ⟨g, off, none⟩) (I ++ [l])) (hl : l.r = 4294967296) (hI : ∀ k ∈ I, k.r ≠ 4294967296) (hlb : lineB (I ++ [l]) = true) (h : (ageB ka && ageB sa) = true) (hr : rkB f m e s = true) (hp : ((I ++ [l]).any fun k => decide (pubB k.f k.m k.e k.s = pubB f m e s)) = true) :
    Calls Try.prog 5 #[.slice (some ⟨g, off, none⟩) (I ++ [l]).length cap, .agg #[.int .i64 f, .int .i64 m, .int .i64 e, .int .i64 s], .int .i64 now, .int .i64 ka, .int .i64 sa] w fun r w' => r = rollNo 19 ∧ Below w.heap.size w w' := by
  have hb12 : ageB ka = true ∧ ageB sa = true := by simpa using h
  have H1 := hide' (isAge_any ka)
  have H2 := hide' (isAge_any sa)
  rw [hb12.1] at H1
  rw [hb12.2] at H2
  have ha : (0 ≤ ka ∧ ka ≤ 2147483647) ∧ (0 ≤ sa ∧ sa ≤ 2147483647) := by simpa [ageB] using hb12
  obtain ⟨⟨ha1, ha2⟩, ha3, ha4⟩ := ha
  have HB := hide' ((Below.refl w.heap.size w).alloc (Nat.le_refl _) (.cells #[.int .i64 f, .int .i64 m, .int .i64 e, .int .i64 s] 24))
  have HK0 := hide' (bxNew w #[.int .i64 f, .int .i64 m, .int .i64 e, .int .i64 s] 24)
  have HA0 := hide' (TsAt.below hat HB.out)
  have HE := hide' (endless_any I l (some ⟨g, off, none⟩) cap _ _ rfl hL HA0.out hl hI)
  have HIL := hide' (fun (W : World) (h : TsAt W (some ⟨g, off, none⟩) (I ++ [l])) => isLine_any (I ++ [l]) (some ⟨g, off, none⟩) cap W (by omega) h)
  rw [hlb] at HIL
  have HR := hide' (sIsRight_any f m e s)
  have HP := hide' (public_any f m e s)
  have HH := hide' (fun (W : World) (h : TsAt W (some ⟨g, off, none⟩) (I ++ [l])) => hasPublic_any (I ++ [l]) (some ⟨g, off, none⟩) cap (pubB f m e s) W (by omega) h)
  clear hat hl hI h hb12 hlb
  rw [hr] at HR
  rw [hp] at HH
  clear hp
  clear hr
  have HLC : Hid (∀ W, TsAt W (some ⟨g, off, none⟩) (I ++ [l]) → g < W.heap.size ∧ W.cell? ⟨g, off + I.length * 8 + 5, none⟩ = some (.int .i64 l.a) ∧ True ∧ True) := fun W h => lastCell h
  have hlen : (I ++ [l]).length = I.length + 1 := by simp
  generalize I ++ [l] = L at *
  generalize I.length = ni at *
  generalize L.length = n at *
  subst hlen
  go_enter Try.func5, Try.ntmps5
  go_wp2_with (first
      | (go_at_call 13; with_reducible refine (H1.out _).mono ?_; rintro r1 w1 ⟨rfl, rfl⟩)
      | (go_at_call 13; with_reducible refine (H2.out _).mono ?_; rintro r1 w1 ⟨rfl, rfl⟩)
      | (go_at_call 14; refine HE.out.mono ?_; rintro r1 w1 ⟨rfl, hB1⟩; have HB1 := hide' (bstep HB.out hB1 HB.out.size); have HA1 := hide' (TsAt.below HA0.out hB1); have HK1 := hide' (HK0.out.below hB1 HK0.out.lt); clear hB1)
      | (go_at_call 15; refine (HIL.out _ HA1.out).mono ?_; rintro r2 w2 ⟨rfl, hB2⟩; have HB2 := hide' (bstep HB1.out hB2 HB1.out.size); have HA2 := hide' (TsAt.below HA1.out hB2); have HK2 := hide' (HK1.out.below hB2 HK1.out.lt); clear hB2; obtain ⟨k0, k1, k2, k3⟩ := bx4 HK2.out)
      | (go_at_call 16; refine (HR.out _).mono ?_; rintro r3 w3 ⟨rfl, hB3⟩; have HB3 := hide' (bstep HB2.out hB3 HB2.out.size); have HA3 := hide' (TsAt.below HA2.out hB3); have HK3 := hide' (HK2.out.below hB3 HK2.out.lt); clear hB3; obtain ⟨m0, m1, m2, m3⟩ := bx4 HK3.out)
      | (go_at_call 18; refine (HP.out _).mono ?_; rintro r4 w4 ⟨rfl, hB4⟩; have HB4 := hide' (bstep HB3.out hB4 HB3.out.size); have HA4 := hide' (TsAt.below HA3.out hB4); have HK4 := hide' (HK3.out.below hB4 HK3.out.lt); clear hB4)
      | (go_at_call 17; refine (HH.out _ HA4.out).mono ?_; rintro r5 w5 ⟨rfl, hB5⟩; have HB5 := hide' (bstep HB4.out hB5 HB4.out.size); have HA5 := hide' (TsAt.below HA4.out hB5); have HK5 := hide' (HK4.out.below hB5 HK4.out.lt); clear hB5; skip))
  go_ret2
  exact ⟨rfl, HB5.out⟩
set_option maxRecDepth 100000 in
set_option maxHeartbeats 2000000 in
/-- signer.Roll: error 29 -/
theorem roll_busy (I : List Tk) (l : Tk) (g off cap : Nat) (f m e s now ka sa : Int) (w : World) (hL : (I ++ [l]).length ≤ 4294967296) (hat : TsAt w (some ⟨g, off, none⟩) (I ++ [l])) (hl : l.r = 4294967296) (hI : ∀ k ∈ I, k.r ≠ 4294967296) (hlb : lineB (I ++ [l]) = true) (h : (ageB ka && ageB sa) = true) (hr : rkB f m e s = true) (hp : ((I ++ [l]).any fun k => decide (pubB k.f k.m k.e k.s = pubB f m e s)) = false) (hq : now < l.a) :
    Calls Try.prog 5 #[.slice (some ⟨g, off, none⟩) (I ++ [l]).length cap, .agg #[.int .i64 f, .int .i64 m, .int .i64 e, .int .i64 s], .int .i64 now, .int .i64 ka, .int .i64 sa] w fun r w' => r = rollNo 29 ∧ Below w.heap.size w w' := by
  have hb12 : ageB ka = true ∧ ageB sa = true := by simpa using h
  have H1 := hide' (isAge_any ka)
  have H2 := hide' (isAge_any sa)
  rw [hb12.1] at H1
  rw [hb12.2] at H2
  have ha : (0 ≤ ka ∧ ka ≤ 2147483647) ∧ (0 ≤ sa ∧ sa ≤ 2147483647) := by simpa [ageB] using hb12
  obtain ⟨⟨ha1, ha2⟩, ha3, ha4⟩ := ha
  have HB := hide' ((Below.refl w.heap.size w).alloc (Nat.le_refl _) (.cells #[.int .i64 f, .int .i64 m, .int .i64 e, .int .i64 s] 24))
  have HK0 := hide' (bxNew w #[.int .i64 f, .int .i64 m, .int .i64 e, .int .i64 s] 24)
  have HA0 := hide' (TsAt.below hat HB.out)
  have HE := hide' (endless_any I l (some ⟨g, off, none⟩) cap _ _ rfl hL HA0.out hl hI)
  have HIL := hide' (fun (W : World) (h : TsAt W (some ⟨g, off, none⟩) (I ++ [l])) => isLine_any (I ++ [l]) (some ⟨g, off, none⟩) cap W (by omega) h)
  rw [hlb] at HIL
  have HR := hide' (sIsRight_any f m e s)
  have HP := hide' (public_any f m e s)
  have HH := hide' (fun (W : World) (h : TsAt W (some ⟨g, off, none⟩) (I ++ [l])) => hasPublic_any (I ++ [l]) (some ⟨g, off, none⟩) cap (pubB f m e s) W (by omega) h)
  clear hat hl hI h hb12 hlb
  rw [hr] at HR
  rw [hp] at HH
  clear hp
  clear hr
  have HLC : Hid (∀ W, TsAt W (some ⟨g, off, none⟩) (I ++ [l]) → g < W.heap.size ∧ W.cell? ⟨g, off + I.length * 8 + 5, none⟩ = some (.int .i64 l.a) ∧ True ∧ True) := fun W h => lastCell h
  have hlen : (I ++ [l]).length = I.length + 1 := by simp
  generalize I ++ [l] = L at *
  generalize I.length = ni at *
  generalize L.length = n at *
  subst hlen
  go_enter Try.func5, Try.ntmps5
  go_wp2_with (first
      | (go_at_call 13; with_reducible refine (H1.out _).mono ?_; rintro r1 w1 ⟨rfl, rfl⟩)
      | (go_at_call 13; with_reducible refine (H2.out _).mono ?_; rintro r1 w1 ⟨rfl, rfl⟩)
      | (go_at_call 14; refine HE.out.mono ?_; rintro r1 w1 ⟨rfl, hB1⟩; have HB1 := hide' (bstep HB.out hB1 HB.out.size); have HA1 := hide' (TsAt.below HA0.out hB1); have HK1 := hide' (HK0.out.below hB1 HK0.out.lt); clear hB1)
      | (go_at_call 15; refine (HIL.out _ HA1.out).mono ?_; rintro r2 w2 ⟨rfl, hB2⟩; have HB2 := hide' (bstep HB1.out hB2 HB1.out.size); have HA2 := hide' (TsAt.below HA1.out hB2); have HK2 := hide' (HK1.out.below hB2 HK1.out.lt); clear hB2; obtain ⟨k0, k1, k2, k3⟩ := bx4 HK2.out)
      | (go_at_call 16; refine (HR.out _).mono ?_; rintro r3 w3 ⟨rfl, hB3⟩; have HB3 := hide' (bstep HB2.out hB3 HB2.out.size); have HA3 := hide' (TsAt.below HA2.out hB3); have HK3 := hide' (HK2.out.below hB3 HK2.out.lt); clear hB3; obtain ⟨m0, m1, m2, m3⟩ := bx4 HK3.out)
      | (go_at_call 18; refine (HP.out _).mono ?_; rintro r4 w4 ⟨rfl, hB4⟩; have HB4 := hide' (bstep HB3.out hB4 HB3.out.size); have HA4 := hide' (TsAt.below HA3.out hB4); have HK4 := hide' (HK3.out.below hB4 HK3.out.lt); clear hB4)
      | (go_at_call 17; refine (HH.out _ HA4.out).mono ?_; rintro r5 w5 ⟨rfl, hB5⟩; have HB5 := hide' (bstep HB4.out hB5 HB4.out.size); have HA5 := hide' (TsAt.below HA4.out hB5); have HK5 := hide' (HK4.out.below hB5 HK4.out.lt); clear hB5; obtain ⟨ga, gb, gc, gd⟩ := HLC.out _ HA5.out; obtain ⟨n0, n1, n2, n3⟩ := bx4 HK5.out))
  go_ret2
  exact ⟨rfl, HB5.out⟩
set_option maxRecDepth 100000 in
set_option maxHeartbeats 2000000 in
/-- signer.Roll: error 25 -/
theorem roll_time (I : List Tk) (l : Tk) (g off cap : Nat) (f m e s now ka sa : Int) (w : World) (hL : (I ++ [l]).length ≤ 4294967296) (hat : TsAt w (some ⟨g, off, none⟩) (I ++ [l])) (hl : l.r = 4294967296) (hI : ∀ k ∈ I, k.r ≠ 4294967296) (hlb : lineB (I ++ [l]) = true) (h : (ageB ka && ageB sa) = true) (hr : rkB f m e s = true) (hp : ((I ++ [l]).any fun k => decide (pubB k.f k.m k.e k.s = pubB f m e s)) = false) (hq : l.a ≤ now) (ht : now > 4294967295 - ka - sa) :
    Calls Try.prog 5 #[.slice (some ⟨g, off, none⟩) (I ++ [l]).length cap, .agg #[.int .i64 f, .int .i64 m, .int .i64 e, .int .i64 s], .int .i64 now, .int .i64 ka, .int .i64 sa] w fun r w' => r = rollNo 25 ∧ Below w.heap.size w w' := by
  have hb12 : ageB ka = true ∧ ageB sa = true := by simpa using h
  have H1 := hide' (isAge_any ka)
  have H2 := hide' (isAge_any sa)
  rw [hb12.1] at H1
  rw [hb12.2] at H2
  have ha : (0 ≤ ka ∧ ka ≤ 2147483647) ∧ (0 ≤ sa ∧ sa ≤ 2147483647) := by simpa [ageB] using hb12
  obtain ⟨⟨ha1, ha2⟩, ha3, ha4⟩ := ha
  have HB := hide' ((Below.refl w.heap.size w).alloc (Nat.le_refl _) (.cells #[.int .i64 f, .int .i64 m, .int .i64 e, .int .i64 s] 24))
  have HK0 := hide' (bxNew w #[.int .i64 f, .int .i64 m, .int .i64 e, .int .i64 s] 24)
  have HA0 := hide' (TsAt.below hat HB.out)
  have HE := hide' (endless_any I l (some ⟨g, off, none⟩) cap _ _ rfl hL HA0.out hl hI)
  have HIL := hide' (fun (W : World) (h : TsAt W (some ⟨g, off, none⟩) (I ++ [l])) => isLine_any (I ++ [l]) (some ⟨g, off, none⟩) cap W (by omega) h)
  rw [hlb] at HIL
  have HR := hide' (sIsRight_any f m e s)
  have HP := hide' (public_any f m e s)
  have HH := hide' (fun (W : World) (h : TsAt W (some ⟨g, off, none⟩) (I ++ [l])) => hasPublic_any (I ++ [l]) (some ⟨g, off, none⟩) cap (pubB f m e s) W (by omega) h)
  clear hat hl hI h hb12 hlb
  rw [hr] at HR
  rw [hp] at HH
  clear hp
  clear hr
  have HLC : Hid (∀ W, TsAt W (some ⟨g, off, none⟩) (I ++ [l]) → g < W.heap.size ∧ W.cell? ⟨g, off + I.length * 8 + 5, none⟩ = some (.int .i64 l.a) ∧ True ∧ True) := fun W h => lastCell h
  have hlen : (I ++ [l]).length = I.length + 1 := by simp
  generalize I ++ [l] = L at *
  generalize I.length = ni at *
  generalize L.length = n at *
  subst hlen
  go_enter Try.func5, Try.ntmps5
  go_wp2_with (first
      | (go_at_call 13; with_reducible refine (H1.out _).mono ?_; rintro r1 w1 ⟨rfl, rfl⟩)
      | (go_at_call 13; with_reducible refine (H2.out _).mono ?_; rintro r1 w1 ⟨rfl, rfl⟩)
      | (go_at_call 14; refine HE.out.mono ?_; rintro r1 w1 ⟨rfl, hB1⟩; have HB1 := hide' (bstep HB.out hB1 HB.out.size); have HA1 := hide' (TsAt.below HA0.out hB1); have HK1 := hide' (HK0.out.below hB1 HK0.out.lt); clear hB1)
      | (go_at_call 15; refine (HIL.out _ HA1.out).mono ?_; rintro r2 w2 ⟨rfl, hB2⟩; have HB2 := hide' (bstep HB1.out hB2 HB1.out.size); have HA2 := hide' (TsAt.below HA1.out hB2); have HK2 := hide' (HK1.out.below hB2 HK1.out.lt); clear hB2; obtain ⟨k0, k1, k2, k3⟩ := bx4 HK2.out)
      | (go_at_call 16; refine (HR.out _).mono ?_; rintro r3 w3 ⟨rfl, hB3⟩; have HB3 := hide' (bstep HB2.out hB3 HB2.out.size); have HA3 := hide' (TsAt.below HA2.out hB3); have HK3 := hide' (HK2.out.below hB3 HK2.out.lt); clear hB3; obtain ⟨m0, m1, m2, m3⟩ := bx4 HK3.out)
      | (go_at_call 18; refine (HP.out _).mono ?_; rintro r4 w4 ⟨rfl, hB4⟩; have HB4 := hide' (bstep HB3.out hB4 HB3.out.size); have HA4 := hide' (TsAt.below HA3.out hB4); have HK4 := hide' (HK3.out.below hB4 HK3.out.lt); clear hB4)
      | (go_at_call 17; refine (HH.out _ HA4.out).mono ?_; rintro r5 w5 ⟨rfl, hB5⟩; have HB5 := hide' (bstep HB4.out hB5 HB4.out.size); have HA5 := hide' (TsAt.below HA4.out hB5); have HK5 := hide' (HK4.out.below hB5 HK4.out.lt); clear hB5; obtain ⟨ga, gb, gc, gd⟩ := HLC.out _ HA5.out; obtain ⟨n0, n1, n2, n3⟩ := bx4 HK5.out))
  go_ret2
  exact ⟨rfl, HB5.out⟩
set_option maxRecDepth 100000 in
set_option maxHeartbeats 2000000 in
/-- signer.Roll: error 20 -/
theorem roll_many (I : List Tk) (l : Tk) (g off cap : Nat) (f m e s now ka sa : Int) (w : World) (hL : (I ++ [l]).length ≤ 4294967296) (hat : TsAt w (some ⟨g, off, none⟩) (I ++ [l])) (hl : l.r = 4294967296) (hI : ∀ k ∈ I, k.r ≠ 4294967296) (hlb : lineB (I ++ [l]) = true) (h : (ageB ka && ageB sa) = true) (hr : rkB f m e s = true) (hp : ((I ++ [l]).any fun k => decide (pubB k.f k.m k.e k.s = pubB f m e s)) = false) (hq : l.a ≤ now) (ht : now ≤ 4294967295 - ka - sa) (hm : (I ++ [l]).length = 50) :
    Calls Try.prog 5 #[.slice (some ⟨g, off, none⟩) (I ++ [l]).length cap, .agg #[.int .i64 f, .int .i64 m, .int .i64 e, .int .i64 s], .int .i64 now, .int .i64 ka, .int .i64 sa] w fun r w' => r = rollNo 20 ∧ Below w.heap.size w w' := by
  have hb12 : ageB ka = true ∧ ageB sa = true := by simpa using h
  have H1 := hide' (isAge_any ka)
  have H2 := hide' (isAge_any sa)
  rw [hb12.1] at H1
  rw [hb12.2] at H2
  have ha : (0 ≤ ka ∧ ka ≤ 2147483647) ∧ (0 ≤ sa ∧ sa ≤ 2147483647) := by simpa [ageB] using hb12
  obtain ⟨⟨ha1, ha2⟩, ha3, ha4⟩ := ha
  have HB := hide' ((Below.refl w.heap.size w).alloc (Nat.le_refl _) (.cells #[.int .i64 f, .int .i64 m, .int .i64 e, .int .i64 s] 24))
  have HK0 := hide' (bxNew w #[.int .i64 f, .int .i64 m, .int .i64 e, .int .i64 s] 24)
  have HA0 := hide' (TsAt.below hat HB.out)
  have HE := hide' (endless_any I l (some ⟨g, off, none⟩) cap _ _ rfl hL HA0.out hl hI)
  have HIL := hide' (fun (W : World) (h : TsAt W (some ⟨g, off, none⟩) (I ++ [l])) => isLine_any (I ++ [l]) (some ⟨g, off, none⟩) cap W (by omega) h)
  rw [hlb] at HIL
  have HR := hide' (sIsRight_any f m e s)
  have HP := hide' (public_any f m e s)
  have HH := hide' (fun (W : World) (h : TsAt W (some ⟨g, off, none⟩) (I ++ [l])) => hasPublic_any (I ++ [l]) (some ⟨g, off, none⟩) cap (pubB f m e s) W (by omega) h)
  clear hat hl hI h hb12 hlb
  rw [hr] at HR
  rw [hp] at HH
  clear hp
  clear hr
  have HLC : Hid (∀ W, TsAt W (some ⟨g, off, none⟩) (I ++ [l]) → g < W.heap.size ∧ W.cell? ⟨g, off + I.length * 8 + 5, none⟩ = some (.int .i64 l.a) ∧ True ∧ True) := fun W h => lastCell h
  have hlen : (I ++ [l]).length = I.length + 1 := by simp
  generalize I ++ [l] = L at *
  generalize I.length = ni at *
  generalize L.length = n at *
  subst hlen
  have hm1 : 49 ≤ ni := by omega
  have hm2 : ni ≤ 49 := by omega
  clear hm
  go_enter Try.func5, Try.ntmps5
  go_wp2_with (first
      | (go_at_call 13; with_reducible refine (H1.out _).mono ?_; rintro r1 w1 ⟨rfl, rfl⟩)
      | (go_at_call 13; with_reducible refine (H2.out _).mono ?_; rintro r1 w1 ⟨rfl, rfl⟩)
      | (go_at_call 14; refine HE.out.mono ?_; rintro r1 w1 ⟨rfl, hB1⟩; have HB1 := hide' (bstep HB.out hB1 HB.out.size); have HA1 := hide' (TsAt.below HA0.out hB1); have HK1 := hide' (HK0.out.below hB1 HK0.out.lt); clear hB1)
      | (go_at_call 15; refine (HIL.out _ HA1.out).mono ?_; rintro r2 w2 ⟨rfl, hB2⟩; have HB2 := hide' (bstep HB1.out hB2 HB1.out.size); have HA2 := hide' (TsAt.below HA1.out hB2); have HK2 := hide' (HK1.out.below hB2 HK1.out.lt); clear hB2; obtain ⟨k0, k1, k2, k3⟩ := bx4 HK2.out)
      | (go_at_call 16; refine (HR.out _).mono ?_; rintro r3 w3 ⟨rfl, hB3⟩; have HB3 := hide' (bstep HB2.out hB3 HB2.out.size); have HA3 := hide' (TsAt.below HA2.out hB3); have HK3 := hide' (HK2.out.below hB3 HK2.out.lt); clear hB3; obtain ⟨m0, m1, m2, m3⟩ := bx4 HK3.out)
      | (go_at_call 18; refine (HP.out _).mono ?_; rintro r4 w4 ⟨rfl, hB4⟩; have HB4 := hide' (bstep HB3.out hB4 HB3.out.size); have HA4 := hide' (TsAt.below HA3.out hB4); have HK4 := hide' (HK3.out.below hB4 HK3.out.lt); clear hB4)
      | (go_at_call 17; refine (HH.out _ HA4.out).mono ?_; rintro r5 w5 ⟨rfl, hB5⟩; have HB5 := hide' (bstep HB4.out hB5 HB4.out.size); have HA5 := hide' (TsAt.below HA4.out hB5); have HK5 := hide' (HK4.out.below hB5 HK4.out.lt); clear hB5; obtain ⟨ga, gb, gc, gd⟩ := HLC.out _ HA5.out; obtain ⟨n0, n1, n2, n3⟩ := bx4 HK5.out))
  go_ret2
  exact ⟨rfl, HB5.out⟩
end Go.Proofs.Ytjnhkiibnmbmfaa
