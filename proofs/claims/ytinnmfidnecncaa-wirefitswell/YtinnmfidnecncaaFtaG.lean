import Derived.Test.YtinnmfidnecncaaFt9
import Derived.Test.YtinnmfidnecncaaSm1G
namespace Go.Proofs.Ytinnmfidnecncaa
set_option linter.unusedVariables false
open Go.RowKit Go.Shelf Go.Maps Go.Proofs.Ytinnmfidnecncaa.Nm

/-- Fit of the document's example, in 24 bytes -/
theorem fitEx24 {w : World} {e : Ending} {w' : World} (h : FitE 24 7 0 0 false false false true false false false [exQ] [] [] [] w e w') : ∃ e1 e2 e3 e4 k1 k2 k3 k4, e = .returned (.tuple #[.agg #[.int .i64 7, .bool false, .int .i64 0, .bool false, .bool false, .bool true, .bool false, .bool false, .bool false, .int .i64 0, .slice e1 1 k1, .slice e2 0 k2, .slice e3 0 k3, .slice e4 0 k4], .int .i64 0]) ∧ LsAt w' e1 e2 e3 e4 [exQ] [] [] [] ∧ Below w.heap.size w w' := by
  rcases h with ⟨q1, a1, u1, d1, qc1, ac1, uc1, cd, Dk, he, hl, hm, hn, _, _, hb⟩ | ⟨q1, d1, qc1, cd, Dk, _, _, _, _, _, h1, _⟩ | ⟨_, h1, _⟩
  · obtain rfl : Dk = [] := List.eq_nil_of_length_eq_zero (by simpa using hn)
    exact ⟨q1, a1, u1, d1, qc1, ac1, uc1, cd, he, hl, hb⟩
  · rw [exFit] at h1; omega
  · rw [exFit] at h1; omega
/-- .. in 23 bytes -/
theorem fitEx23 {w : World} {e : Ending} {w' : World} (h : FitE 23 7 0 0 false false false true false false false [exQ] [] [] [] w e w') : e = .returned (.tuple #[.agg #[.int .i64 0, .bool false, .int .i64 0, .bool false, .bool false, .bool false, .bool false, .bool false, .bool false, .int .i64 0, .slice none 0 0, .slice none 0 0, .slice none 0 0, .slice none 0 0], .int .i64 12]) ∧ Below w.heap.size w w' := by
  rcases h with ⟨q1, a1, u1, d1, qc1, ac1, uc1, cd, Dk, he, hl, hm, hn, h1, _, hb⟩ | ⟨q1, d1, qc1, cd, Dk, _, _, _, hn, h1, _⟩ | ⟨he, _, hb⟩
  · obtain rfl : Dk = [] := List.eq_nil_of_length_eq_zero (by simpa using hn)
    rw [exFit] at h1; omega
  · obtain rfl : Dk = [] := List.eq_nil_of_length_eq_zero (by simpa using hn)
    rw [exFit] at h1; omega
  · exact ⟨he, hb⟩

set_option maxRecDepth 100000 in
/-- gazetteersame.Messages, of two that are empty -/
theorem sameNone2 (w : World) : Calls Try.prog 9 #[.agg #[.int .i64 0, .bool false, .int .i64 0, .bool false, .bool false, .bool false, .bool false, .bool false, .bool false, .int .i64 0, .slice none 0 0, .slice none 0 0, .slice none 0 0, .slice none 0 0], .agg #[.int .i64 0, .bool false, .int .i64 0, .bool false, .bool false, .bool false, .bool false, .bool false, .bool false, .int .i64 0, .slice none 0 0, .slice none 0 0, .slice none 0 0, .slice none 0 0]] w fun e w' => e = .returned (.bool true) ∧ Below w.heap.size w w' :=
  sameMessages2 0 0 0 false false false false false false false none none none none none none none none 0 0 0 0 0 0 0 0 ⟨[], [], [], []⟩ w ⟨fun k hk => absurd hk (Nat.not_lt_zero _), fun k hk => absurd hk (Nat.not_lt_zero _), fun k hk => absurd hk (Nat.not_lt_zero _), fun k hk => absurd hk (Nat.not_lt_zero _)⟩ ⟨fun k hk => absurd hk (Nat.not_lt_zero _), fun k hk => absurd hk (Nat.not_lt_zero _), fun k hk => absurd hk (Nat.not_lt_zero _), fun k hk => absurd hk (Nat.not_lt_zero _)⟩ ⟨Nat.zero_le _, Nat.zero_le _, Nat.zero_le _, Nat.zero_le _⟩

set_option maxRecDepth 100000 in
set_option maxHeartbeats 4000000 in
/-- WireFitsWell: no message -/
theorem fitsWell_no (i0 i2 i9 : Int) (b1 b3 b4 b5 b6 b7 b8 : Bool) (q0 a0 u0 d0 : Option Addr) (qc ac uc dc : Nat) (Q : List Qn) (A U D : List Rn) (limit : Int) (w : World) (hl : LsAt w q0 a0 u0 d0 Q A U D) (hm : msgOK i0 i2 i9 Q A U D = false) :
    Calls Try.prog 4 #[.agg #[.int .i64 i0, .bool b1, .int .i64 i2, .bool b3, .bool b4, .bool b5, .bool b6, .bool b7, .bool b8, .int .i64 i9, .slice q0 Q.length qc, .slice a0 A.length ac, .slice u0 U.length uc, .slice d0 D.length dc], .int .i64 limit] w fun e w' => e = .returned (.bool true) ∧ Below w.heap.size w w' := by
  have HX : Hid (Bx (w.alloc (.cells #[.int .i64 i0, .bool b1, .int .i64 i2, .bool b3, .bool b4, .bool b5, .bool b6, .bool b7, .bool b8, .int .i64 i9, .slice q0 Q.length qc, .slice a0 A.length ac, .slice u0 U.length uc, .slice d0 D.length dc] 25)) w.heap.size #[.int .i64 i0, .bool b1, .int .i64 i2, .bool b3, .bool b4, .bool b5, .bool b6, .bool b7, .bool b8, .int .i64 i9, .slice q0 Q.length qc, .slice a0 A.length ac, .slice u0 U.length uc, .slice d0 D.length dc] 25) := World.alloc_heap_new w _
  have HB := hide' ((Below.refl w.heap.size w).alloc (Nat.le_refl _) (.cells #[.int .i64 i0, .bool b1, .int .i64 i2, .bool b3, .bool b4, .bool b5, .bool b6, .bool b7, .bool b8, .int .i64 i9, .slice q0 Q.length qc, .slice a0 A.length ac, .slice u0 U.length uc, .slice d0 D.length dc] 25))
  have HW := hide' hl
  have T1 : Hid True := trivial
  have HMin : Hid ((min (24 : Int) 65535 = 24) ∧ (min (23 : Int) 65535 = 23)) := ⟨by omega, by omega⟩
  clear hl
  go_enter Try.func4, Try.ntmps4
  go_wp2_with (first
    | (go_at_call 6; have _ := T1; clear T1; refine (question_any _).mono ?_; rintro e w1 ⟨g1, rfl, hL1, hB1⟩; have L1 := hide' hL1; have HB1 := hide' (bstep HB.out hB1 HB.out.size); have HX1 : Hid (Bx w1 w.heap.size #[.int .i64 i0, .bool b1, .int .i64 i2, .bool b3, .bool b4, .bool b5, .bool b6, .bool b7, .bool b8, .int .i64 i9, .slice q0 Q.length qc, .slice a0 A.length ac, .slice u0 U.length uc, .slice d0 D.length dc] 25) := HX.out.below hB1 HX.out.lt; have T2 : Hid True := trivial; clear hL1 hB1)
    | (go_at_call 10; have _ := T2; clear T2; refine (fit_yes 7 0 0 false false false true false false false (some ⟨g1, 0, none⟩) none none none 1 0 0 0 [exQ] [] [] [] 24 _ L1.out exMsg (fun e => by cases e) (fun _ => rfl) (fun _ => rfl) (fun _ => rfl) (by omega)).mono ?_; rintro e w2 h2; rw [HMin.out.1] at h2; obtain ⟨e1, e2, e3, e4, k1, k2, k3, k4, rfl, hL2, hB2⟩ := fitEx24 h2; have HB2 := hide' (bstep HB1.out hB2 HB1.out.size); have HX2 : Hid (Bx w2 w.heap.size #[.int .i64 i0, .bool b1, .int .i64 i2, .bool b3, .bool b4, .bool b5, .bool b6, .bool b7, .bool b8, .int .i64 i9, .slice q0 Q.length qc, .slice a0 A.length ac, .slice u0 U.length uc, .slice d0 D.length dc] 25) := HX1.out.below hB2 HX1.out.lt; obtain ⟨w3, hw3⟩ : ∃ w3, w2.alloc (.cells #[.int .i64 7, .bool false, .int .i64 0, .bool false, .bool false, .bool true, .bool false, .bool false, .bool false, .int .i64 0, .slice e1 1 k1, .slice e2 0 k2, .slice e3 0 k3, .slice e4 0 k4] 25) = w3 := ⟨_, rfl⟩; have HB23 : Hid (Below w2.heap.size w2 w3) := hw3 ▸ (Below.refl _ w2).alloc (Nat.le_refl _) _; have L3 := hide' (hL2.below HB23.out); have HB3 := hide' (bstep HB2.out HB23.out HB2.out.size); have HX3 : Hid (Bx w3 w.heap.size #[.int .i64 i0, .bool b1, .int .i64 i2, .bool b3, .bool b4, .bool b5, .bool b6, .bool b7, .bool b8, .int .i64 i9, .slice q0 Q.length qc, .slice a0 A.length ac, .slice u0 U.length uc, .slice d0 D.length dc] 25) := HX2.out.below HB23.out HX2.out.lt; have HY3 : Hid (Bx w3 w2.heap.size #[.int .i64 7, .bool false, .int .i64 0, .bool false, .bool false, .bool true, .bool false, .bool false, .bool false, .int .i64 0, .slice e1 1 k1, .slice e2 0 k2, .slice e3 0 k3, .slice e4 0 k4] 25) := hw3 ▸ World.alloc_heap_new w2 _; clear hL2 hB2 h2; have T3 : Hid True := trivial)
    | (go_at_call 6; have _ := T3; clear T3; refine (question_any _).mono ?_; rintro e w4 ⟨g4, rfl, hL4, hB4⟩; have L4 := hide' hL4; have L34 := hide' (L3.out.below hB4); have HB4 := hide' (bstep HB3.out hB4 HB3.out.size); have HX4 : Hid (Bx w4 w.heap.size #[.int .i64 i0, .bool b1, .int .i64 i2, .bool b3, .bool b4, .bool b5, .bool b6, .bool b7, .bool b8, .int .i64 i9, .slice q0 Q.length qc, .slice a0 A.length ac, .slice u0 U.length uc, .slice d0 D.length dc] 25) := HX3.out.below hB4 HX3.out.lt; have HY4 : Hid (Bx w4 w2.heap.size #[.int .i64 7, .bool false, .int .i64 0, .bool false, .bool false, .bool true, .bool false, .bool false, .bool false, .int .i64 0, .slice e1 1 k1, .slice e2 0 k2, .slice e3 0 k3, .slice e4 0 k4] 25) := HY3.out.below hB4 HY3.out.lt; obtain ⟨y0, y1, y2, y3, y4, y5, y6, y7, y8, y9, y10, y11, y12, y13⟩ := bx14 HY4.out; clear hL4 hB4))
  have y0 : ∀ W : World, Below w3.heap.size w3 W → Bx W w2.heap.size #[.int .i64 7, .bool false, .int .i64 0, .bool false, .bool false, .bool true, .bool false, .bool false, .bool false, .int .i64 0, .slice e1 1 k1, .slice e2 0 k2, .slice e3 0 k3, .slice e4 0 k4] 25 := fun W h => HY3.out.below h HY3.out.lt
  have HYA := hide' y0
  clear y0
  obtain ⟨y0, y1, y2, y3, y4, y5, y6, y7, y8, y9, y10, y11, y12, y13⟩ := bx14 HY3.out
  obtain ⟨z0, z1, z2, z3, z4, z5, z6, z7, z8, z9, z10, z11, z12, z13⟩ := bx14 (HYA.out _ ((Below.refl _ w3).drew))
  have HDr := hide' ((Below.refl w3.heap.size w3).drew)
  go_region_with (first | (go_at_call 6; refine (question_any _).mono ?_; rintro e w4 ⟨g4, rfl, hL4, hB4⟩; have L4 := hide' hL4; have HB34 : Hid (Below w3.heap.size w3 w4) := (by first | exact bstep HDr.out hB4 HDr.out.size | exact hB4); obtain ⟨v0, v1, v2, v3, v4, v5, v6, v7, v8, v9, v10, v11, v12, v13⟩ := bx14 (HYA.out _ HB34.out); clear hL4 hB4) | (go_at_call 9; refine (sameMessages2 7 0 0 false false false true false false false e1 e2 e3 e4 (some ⟨g4, 0, none⟩) none none none k1 k2 k3 k4 1 0 0 0 ⟨[exQ], [], [], []⟩ _ ⟨(L3.out.below HB34.out).q, (L3.out.below HB34.out).a, (L3.out.below HB34.out).u, (L3.out.below HB34.out).d⟩ ⟨L4.out.q, L4.out.a, L4.out.u, L4.out.d⟩ (by decide)).mono ?_; rintro e w5 ⟨rfl, hB5⟩; have HB35 := hide' (bstep HB34.out hB5 HB34.out.size); clear hB5))
  all_goals
    go_wp2_with (first
      | (go_at_call 6; refine (question_any _).mono ?_; rintro e w6 ⟨g6, rfl, hL6, hB6⟩; have L6 := hide' hL6; have HB36 := hide' (bstep HB35.out hB6 HB35.out.size); have T6 : Hid True := trivial; clear hL6 hB6)
      | (go_at_call 10; have _ := T6; clear T6; refine (fit_yes 7 0 0 false false false true false false false (some ⟨g6, 0, none⟩) none none none 1 0 0 0 [exQ] [] [] [] 23 _ L6.out exMsg (fun e => by cases e) (fun _ => rfl) (fun _ => rfl) (fun _ => rfl) (by omega)).mono ?_; rintro e w7 h7; rw [HMin.out.2] at h7; obtain ⟨rfl, hB7⟩ := fitEx23 h7; have HB37 := hide' (bstep HB36.out hB7 HB36.out.size); have HB7 := hide' (bstep HB3.out HB37.out HB3.out.size); have HX7 : Hid (Bx w7 w.heap.size #[.int .i64 i0, .bool b1, .int .i64 i2, .bool b3, .bool b4, .bool b5, .bool b6, .bool b7, .bool b8, .int .i64 i9, .slice q0 Q.length qc, .slice a0 A.length ac, .slice u0 U.length uc, .slice d0 D.length dc] 25) := HX3.out.below HB37.out HX3.out.lt; have HY7 : Hid (Bx w7 w2.heap.size #[.int .i64 7, .bool false, .int .i64 0, .bool false, .bool false, .bool true, .bool false, .bool false, .bool false, .int .i64 0, .slice e1 1 k1, .slice e2 0 k2, .slice e3 0 k3, .slice e4 0 k4] 25) := HYA.out _ HB37.out; clear h7 hB7 y0 y1 y2 y3 y4 y5 y6 y7 y8 y9 y10 y11 y12 y13 z0 z1 z2 z3 z4 z5 z6 z7 z8 z9 z10 z11 z12 z13; obtain ⟨x0, x1, x2, x3, x4, x5, x6, x7, x8, x9, x10, x11, x12, x13⟩ := bx14 HX7.out)
      | (go_at_call 10; refine (fit_no i0 i2 i9 b1 b3 b4 b5 b6 b7 b8 q0 a0 u0 d0 qc ac uc dc Q A U D limit _ (HW.out.below HB7.out) hm).mono ?_; rintro e w8 ⟨rfl, hB8⟩; have HY8 : Hid (Bx w8 w2.heap.size #[.int .i64 7, .bool false, .int .i64 0, .bool false, .bool false, .bool true, .bool false, .bool false, .bool false, .int .i64 0, .slice e1 1 k1, .slice e2 0 k2, .slice e3 0 k3, .slice e4 0 k4] 25) := HY7.out.below hB8 HY7.out.lt; have HB8 := hide' (bstep HB7.out hB8 HB7.out.size); clear hB8; obtain ⟨r0, r1, r2, r3, r4, r5, r6, r7, r8, r9, r10, r11, r12, r13⟩ := bx14 HY8.out; obtain ⟨f0, f1, f2, f3, f4, f5, f6, f7, f8, f9, f10, f11, f12, f13⟩ := bx14_free HY8.out; obtain ⟨w9, hw9⟩ : ∃ w9, set14 w8 w2.heap.size (.int .i64 0) (.bool false) (.int .i64 0) (.bool false) (.bool false) (.bool false) (.bool false) (.bool false) (.bool false) (.int .i64 0) (.slice none 0 0) (.slice none 0 0) (.slice none 0 0) (.slice none 0 0) = w9 := ⟨_, rfl⟩; have HY9 : Hid (Bx w9 w2.heap.size #[.int .i64 0, .bool false, .int .i64 0, .bool false, .bool false, .bool false, .bool false, .bool false, .bool false, .int .i64 0, .slice none 0 0, .slice none 0 0, .slice none 0 0, .slice none 0 0] 25) := hw9 ▸ bx14_set HY8.out (.int .i64 0) (.bool false) (.int .i64 0) (.bool false) (.bool false) (.bool false) (.bool false) (.bool false) (.bool false) (.int .i64 0) (.slice none 0 0) (.slice none 0 0) (.slice none 0 0) (.slice none 0 0); have HB9 : Hid (Below w.heap.size w w9) := hw9 ▸ below14 HB8.out (HB2.out.size) HB8.out.size (.int .i64 0) (.bool false) (.int .i64 0) (.bool false) (.bool false) (.bool false) (.bool false) (.bool false) (.bool false) (.int .i64 0) (.slice none 0 0) (.slice none 0 0) (.slice none 0 0) (.slice none 0 0); unfold set14 at hw9; obtain ⟨s0, s1, s2, s3, s4, s5, s6, s7, s8, s9, s10, s11, s12, s13⟩ := bx14 HY9.out)
      | (go_at_call 9; refine (sameNone2 _).mono ?_; rintro e w10 ⟨rfl, hB10⟩; have HBf := hide' (bstep HB9.out hB10 HB9.out.size); clear hB10))
  all_goals
    go_ret
    exact ⟨rfl, HBf.out⟩
end Go.Proofs.Ytinnmfidnecncaa

/-
  WireFitsWell: what stands behind the third call of Fit. (The verifier's own text.)
-/
namespace Go.Proofs.Ytinnmfidnecncaa
set_option linter.unusedVariables false
open Go.RowKit Go.Shelf Go.Maps Go.Proofs.Ytinnmfidnecncaa.Nm

def isRegN (n : Nat) : Code → Bool
  | .region k _ _ => k == n
  | _ => false
/-- what stands behind a region -/
def tailsN (n : Nat) : Code → List Code
  | .seq a b => bif isRegN n a then [b] else tailsN n a ++ tailsN n b
  | .block _ c => tailsN n c
  | .scope c => tailsN n c
  | .cond _ a b => tailsN n a ++ tailsN n b
  | .loop c => tailsN n c
  | _ => []
set_option maxRecDepth 100000 in
/-- gazetteersame.Records, at lists of other lengths -/
theorem sameRecords_not (p1 p2 : Option Addr) (n1 n2 c1 c2 : Nat) (w : World) (hn : n1 ≠ n2) :
    Calls Try.prog 12 #[.slice p1 n1 c1, .slice p2 n2 c2] w fun e w' => e = .returned (.bool false) ∧ w' = w := by
  have h1 : ((n1 : Int) == (n2 : Int)) = false := by rw [beq_eq_false_iff_ne]; omega
  go_enter Try.func12, Try.ntmps12
  go_wp2
  go_ret
  exact ⟨rfl, rfl⟩

theorem bx_plain {w : World} {R : Nat} {cs : Array Value} {T : TypeId} (h : Bx w R cs T) (hs : ∀ s, Value.string s ∉ cs) {j : Nat} {s : ByteArray} : w.cell? ⟨R, j, none⟩ ≠ some (.string s) := by
  intro he
  have h1 : cs[j]? = some (.string s) := by unfold Bx at h; simpa [World.cell?, h] using he
  exact hs s (Array.mem_of_getElem? h1)
theorem set14_far {w : World} {X g : Nat} (hne : X ≠ g) (a : Nat) (v0 v1 v2 v3 v4 v5 v6 v7 v8 v9 v10 v11 v12 v13 : Value) : (set14 w X v0 v1 v2 v3 v4 v5 v6 v7 v8 v9 v10 v11 v12 v13).cell? ⟨g, a, none⟩ = w.cell? ⟨g, a, none⟩ := by
  unfold set14
  rw [World.cell?_setCell_far _ _ _ _ hne, World.cell?_setCell_far _ _ _ _ hne, World.cell?_setCell_far _ _ _ _ hne, World.cell?_setCell_far _ _ _ _ hne, World.cell?_setCell_far _ _ _ _ hne, World.cell?_setCell_far _ _ _ _ hne, World.cell?_setCell_far _ _ _ _ hne, World.cell?_setCell_far _ _ _ _ hne, World.cell?_setCell_far _ _ _ _ hne, World.cell?_setCell_far _ _ _ _ hne, World.cell?_setCell_far _ _ _ _ hne, World.cell?_setCell_far _ _ _ _ hne, World.cell?_setCell_far _ _ _ _ hne, World.cell?_setCell_far _ _ _ _ hne]
theorem set14_size (w : World) (X : Nat) (v0 v1 v2 v3 v4 v5 v6 v7 v8 v9 v10 v11 v12 v13 : Value) : (set14 w X v0 v1 v2 v3 v4 v5 v6 v7 v8 v9 v10 v11 v12 v13).heap.size = w.heap.size := by
  unfold set14
  simp only [set_size]
/-- a list lies in no box without a text, so it stays where a box is written over -/
theorem qs_set {w : World} {X : Nat} {cs : Array Value} {T : TypeId} {p : Option Addr} {L : List Qn} (h : QsAt w p L) (hb : Bx w X cs T) (hs : ∀ s, Value.string s ∉ cs) (v0 v1 v2 v3 v4 v5 v6 v7 v8 v9 v10 v11 v12 v13 : Value) : QsAt (set14 w X v0 v1 v2 v3 v4 v5 v6 v7 v8 v9 v10 v11 v12 v13) p L := by
  intro k hk
  obtain ⟨g, off, rfl, hg, h1, h2, h3⟩ := h k hk
  have hne : X ≠ g := by
    rintro rfl
    exact bx_plain hb hs h1
  exact ⟨g, off, rfl, by rw [set14_size]; exact hg, by rw [set14_far hne]; exact h1, by rw [set14_far hne]; exact h2, by rw [set14_far hne]; exact h3⟩
theorem rs_set {w : World} {X : Nat} {cs : Array Value} {T : TypeId} {p : Option Addr} {L : List Rn} (h : RsAt w p L) (hb : Bx w X cs T) (hs : ∀ s, Value.string s ∉ cs) (v0 v1 v2 v3 v4 v5 v6 v7 v8 v9 v10 v11 v12 v13 : Value) : RsAt (set14 w X v0 v1 v2 v3 v4 v5 v6 v7 v8 v9 v10 v11 v12 v13) p L := by
  intro k hk
  obtain ⟨g, off, rfl, hg, h1, h2, h3, h4, h5⟩ := h k hk
  have hne : X ≠ g := by
    rintro rfl
    exact bx_plain hb hs h1
  exact ⟨g, off, rfl, by rw [set14_size]; exact hg, by rw [set14_far hne]; exact h1, by rw [set14_far hne]; exact h2, by rw [set14_far hne]; exact h3, by rw [set14_far hne]; exact h4, by rw [set14_far hne]; exact h5⟩
theorem ls_set {w : World} {X : Nat} {cs : Array Value} {T : TypeId} {q0 a0 u0 d0 : Option Addr} {Q : List Qn} {A U D : List Rn} (h : LsAt w q0 a0 u0 d0 Q A U D) (hb : Bx w X cs T) (hs : ∀ s, Value.string s ∉ cs) (v0 v1 v2 v3 v4 v5 v6 v7 v8 v9 v10 v11 v12 v13 : Value) : LsAt (set14 w X v0 v1 v2 v3 v4 v5 v6 v7 v8 v9 v10 v11 v12 v13) q0 a0 u0 d0 Q A U D :=
  ⟨qs_set h.q hb hs v0 v1 v2 v3 v4 v5 v6 v7 v8 v9 v10 v11 v12 v13, rs_set h.a hb hs v0 v1 v2 v3 v4 v5 v6 v7 v8 v9 v10 v11 v12 v13, rs_set h.u hb hs v0 v1 v2 v3 v4 v5 v6 v7 v8 v9 v10 v11 v12 v13, rs_set h.d hb hs v0 v1 v2 v3 v4 v5 v6 v7 v8 v9 v10 v11 v12 v13, h.zqs, h.zas, h.zus, h.zds⟩
theorem bx_set14 {w : World} {X R : Nat} {cs : Array Value} {T : TypeId} (h : Bx w R cs T) (hne : R ≠ X) (v0 v1 v2 v3 v4 v5 v6 v7 v8 v9 v10 v11 v12 v13 : Value) : Bx (set14 w X v0 v1 v2 v3 v4 v5 v6 v7 v8 v9 v10 v11 v12 v13) R cs T :=
  ((((((((((((((h.far hne 0 v0).far hne 1 v1).far hne 2 v2).far hne 3 v3).far hne 4 v4).far hne 5 v5).far hne 6 v6).far hne 7 v7).far hne 8 v8).far hne 9 v9).far hne 10 v10).far hne 11 v11).far hne 12 v12).far hne 13 v13)

set_option maxRecDepth 100000 in
set_option maxHeartbeats 4000000 in
/-- too large -/
theorem fw_large (limit : Int) (R Y : Nat) (w w0 : World) (HB0 : Hid (Below w.heap.size w w0)) (HY0 : Hid (Bx w0 Y #[.int .i64 0, .bool false, .int .i64 0, .bool false, .bool false, .bool false, .bool false, .bool false, .bool false, .int .i64 0, .slice none 0 0, .slice none 0 0, .slice none 0 0, .slice none 0 0] 25)) (x0 x3 x4 x7 x8 x9 x10 x11 x12 x13 x14 x15 x16 x17 x18 x19 x20 x21 x22 x23 x24 x25 x26 x27 x28 x29 x30 x31 x32 x33 x34 x35 x36 x37 x38 x39 x40 x41 x42 x43 x44 x45 x46 x47 x48 x49 x50 x51 x52 x53 x54 x55 x56 x57 x58 x59 x60 x61 x62 x63 x64 x65 x66 x67 x68 x69 x70 x71 x72 x73 x74 x75 x76 x77 x78 x79 x80 x81 x82 x83 x84 x85 x86 x87 x88 x89 x90 x91 x92 x93 x94 x95 x96 x97 x98 x99 x100 x101 x102 x103 x104 x105 x106 x107 x108 x109 x110 x111 x112 : Value) :
    Code.wp Try.prog (((Try.f4.body.map (tailsN 7)).getD []).getD 0 .skip) (bodyPost Try.prog Try.f4 fun e w' => e = .returned (.bool true) ∧ Below w.heap.size w w') ⟨List.toArray (x0 :: (.int .i64 limit : Value) :: (.pointer (some ⟨R, 0, none⟩) : Value) :: x3 :: x4 :: (.pointer (some ⟨Y, 0, none⟩) : Value) :: (.int .i64 12 : Value) :: x7 :: x8 :: x9 :: x10 :: x11 :: x12 :: x13 :: x14 :: x15 :: x16 :: x17 :: x18 :: x19 :: x20 :: x21 :: x22 :: x23 :: x24 :: x25 :: x26 :: x27 :: x28 :: x29 :: x30 :: x31 :: x32 :: x33 :: x34 :: x35 :: x36 :: x37 :: x38 :: x39 :: x40 :: x41 :: x42 :: x43 :: x44 :: x45 :: x46 :: x47 :: x48 :: x49 :: x50 :: x51 :: x52 :: x53 :: x54 :: x55 :: x56 :: x57 :: x58 :: x59 :: x60 :: x61 :: x62 :: x63 :: x64 :: x65 :: x66 :: x67 :: x68 :: x69 :: x70 :: x71 :: x72 :: x73 :: x74 :: x75 :: x76 :: x77 :: x78 :: x79 :: x80 :: x81 :: x82 :: x83 :: x84 :: x85 :: x86 :: x87 :: x88 :: x89 :: x90 :: x91 :: x92 :: x93 :: x94 :: x95 :: x96 :: x97 :: x98 :: x99 :: x100 :: x101 :: x102 :: x103 :: x104 :: x105 :: x106 :: x107 :: x108 :: x109 :: x110 :: x111 :: x112 :: []), []⟩ w0 := by
  obtain ⟨y0, y1, y2, y3, y4, y5, y6, y7, y8, y9, y10, y11, y12, y13⟩ := bx14 HY0.out
  conv => arg 2; whnf
  go_wp2_with (go_at_call 9; refine (sameNone2 _).mono ?_; rintro e w1 ⟨rfl, hB1⟩; have HBf := hide' (bstep HB0.out hB1 HB0.out.size); clear hB1)
  go_ret
  exact ⟨rfl, HBf.out⟩
end Go.Proofs.Ytinnmfidnecncaa
