import Derived.Test.YtlkppmpdjpffiaaPk15G
namespace Go.Proofs.Ytlkppmpdjpffiaa
set_option linter.unusedVariables false
open Go.RowKit Go.Shelf Go.Maps Go.Proofs.Ytlkppmpdjpffiaa.Nm

theorem bx14c {w : World} {R : Nat} {T : TypeId} {x0 x1 x2 x3 x4 x5 x6 x7 x8 x9 x10 x11 x12 x13 : Value} (h : Bx w R #[x0, x1, x2, x3, x4, x5, x6, x7, x8, x9, x10, x11, x12, x13] T) : w.cell? ⟨R, 0, none⟩ = some x0 ∧ w.cell? ⟨R, 1, none⟩ = some x1 ∧ w.cell? ⟨R, 2, none⟩ = some x2 ∧ w.cell? ⟨R, 3, none⟩ = some x3 ∧ w.cell? ⟨R, 4, none⟩ = some x4 ∧ w.cell? ⟨R, 5, none⟩ = some x5 ∧ w.cell? ⟨R, 6, none⟩ = some x6 ∧ w.cell? ⟨R, 7, none⟩ = some x7 ∧ w.cell? ⟨R, 8, none⟩ = some x8 ∧ w.cell? ⟨R, 9, none⟩ = some x9 ∧ w.cell? ⟨R, 10, none⟩ = some x10 ∧ w.cell? ⟨R, 11, none⟩ = some x11 ∧ w.cell? ⟨R, 12, none⟩ = some x12 ∧ w.cell? ⟨R, 13, none⟩ = some x13 :=
  ⟨h.cell rfl, h.cell rfl, h.cell rfl, h.cell rfl, h.cell rfl, h.cell rfl, h.cell rfl, h.cell rfl, h.cell rfl, h.cell rfl, h.cell rfl, h.cell rfl, h.cell rfl, h.cell rfl⟩

set_option maxRecDepth 100000 in
set_option maxHeartbeats 2000000 in
/-- WireShort: no message -/
theorem wireShort_no (i0 i2 i9 : Int) (b1 b3 b4 b5 b6 b7 b8 : Bool) (q0 a0 u0 d0 : Option Addr) (qc ac uc dc : Nat) (Q : List Qn) (A U D : List Rn) (dt : ByteArray) (w : World) (hl : LsAt w q0 a0 u0 d0 Q A U D) (hm : msgOK i0 i2 i9 Q A U D = false) :
    Calls Try.prog 3 #[.agg #[.int .i64 i0, .bool b1, .int .i64 i2, .bool b3, .bool b4, .bool b5, .bool b6, .bool b7, .bool b8, .int .i64 i9, .slice q0 Q.length qc, .slice a0 A.length ac, .slice u0 U.length uc, .slice d0 D.length dc], .string dt] w fun e w' => e = .returned (.bool true) ∧ Below w.heap.size w w' := by
  have HX : Hid (Bx (w.alloc (.cells #[.int .i64 i0, .bool b1, .int .i64 i2, .bool b3, .bool b4, .bool b5, .bool b6, .bool b7, .bool b8, .int .i64 i9, .slice q0 Q.length qc, .slice a0 A.length ac, .slice u0 U.length uc, .slice d0 D.length dc] 25)) w.heap.size #[.int .i64 i0, .bool b1, .int .i64 i2, .bool b3, .bool b4, .bool b5, .bool b6, .bool b7, .bool b8, .int .i64 i9, .slice q0 Q.length qc, .slice a0 A.length ac, .slice u0 U.length uc, .slice d0 D.length dc] 25) := World.alloc_heap_new w _
  have HB := hide' ((Below.refl w.heap.size w).alloc (Nat.le_refl _) (.cells #[.int .i64 i0, .bool b1, .int .i64 i2, .bool b3, .bool b4, .bool b5, .bool b6, .bool b7, .bool b8, .int .i64 i9, .slice q0 Q.length qc, .slice a0 A.length ac, .slice u0 U.length uc, .slice d0 D.length dc] 25))
  have HW := hide' hl
  have T1 : Hid True := trivial
  clear hl
  go_enter Try.func3, Try.ntmps3
  go_wp2_with (first
    | (go_at_call 5; have _ := T1; clear T1; refine (question_any _).mono ?_; rintro e w1 ⟨g1, rfl, hL1, hB1⟩; have L1 := hide' hL1; have HB1 := hide' (bstep HB.out hB1 HB.out.size); have HX1 : Hid (Bx w1 w.heap.size #[.int .i64 i0, .bool b1, .int .i64 i2, .bool b3, .bool b4, .bool b5, .bool b6, .bool b7, .bool b8, .int .i64 i9, .slice q0 Q.length qc, .slice a0 A.length ac, .slice u0 U.length uc, .slice d0 D.length dc] 25) := HX.out.below hB1 HX.out.lt; have T2 : Hid True := trivial; clear hL1 hB1)
    | (go_at_call 4; have _ := T2; clear T2; refine (pack_yes 7 0 0 false false false true false false false (some ⟨g1, 0, none⟩) none none none 1 0 0 0 [exQ] [] [] [] _ L1.out exMsg).mono ?_; rintro e w2 ⟨h2, hB2⟩; rw [if_neg (by rw [exPack]; decide), exPack] at h2; obtain ⟨p2, c2, rfl, hO2⟩ := h2; have HB2 := hide' (bstep HB1.out hB2 HB1.out.size); have HX2 : Hid (Bx w2 w.heap.size #[.int .i64 i0, .bool b1, .int .i64 i2, .bool b3, .bool b4, .bool b5, .bool b6, .bool b7, .bool b8, .int .i64 i9, .slice q0 Q.length qc, .slice a0 A.length ac, .slice u0 U.length uc, .slice d0 D.length dc] 25) := HX1.out.below hB2 HX1.out.lt; clear hB2 hO2)
    | (go_at_call 5; refine (question_any _).mono ?_; rintro e w3 ⟨g3, rfl, hL3, hB3⟩; have L3 := hide' hL3; have HB3 := hide' (bstep HB2.out hB3 HB2.out.size); have HX3 : Hid (Bx w3 w.heap.size #[.int .i64 i0, .bool b1, .int .i64 i2, .bool b3, .bool b4, .bool b5, .bool b6, .bool b7, .bool b8, .int .i64 i9, .slice q0 Q.length qc, .slice a0 A.length ac, .slice u0 U.length uc, .slice d0 D.length dc] 25) := HX2.out.below hB3 HX2.out.lt; have T3 : Hid True := trivial; clear hL3 hB3)
    | (go_at_call 6; have _ := T3; clear T3; refine (plain_any 7 0 0 false false false true false false false (some ⟨g3, 0, none⟩) none none none 1 0 0 0 [exQ] [] [] [] _ L3.out (by rw [exPlain]; decide)).mono ?_; rintro e w4 ⟨rfl, hB4⟩; rw [exPlain]; have HB4 := hide' (bstep HB3.out hB4 HB3.out.size); have HX4 : Hid (Bx w4 w.heap.size #[.int .i64 i0, .bool b1, .int .i64 i2, .bool b3, .bool b4, .bool b5, .bool b6, .bool b7, .bool b8, .int .i64 i9, .slice q0 Q.length qc, .slice a0 A.length ac, .slice u0 U.length uc, .slice d0 D.length dc] 25) := HX3.out.below hB4 HX3.out.lt; obtain ⟨m0, m1, m2, m3, m4, m5, m6, m7, m8, m9, m10, m11, m12, m13⟩ := bx14c HX4.out; clear hB4)
    | (go_at_call 4; refine (pack_no i0 i2 i9 b1 b3 b4 b5 b6 b7 b8 q0 a0 u0 d0 qc ac uc dc Q A U D _ (HW.out.below HB4.out) hm).mono ?_; rintro e w5 ⟨rfl, hB5⟩; have HB5 := hide' (bstep HB4.out hB5 HB4.out.size); clear hB5))
  go_ret
  exact ⟨rfl, HB5.out⟩
theorem plainN_le {i0 i2 i9 : Int} {Q : List Qn} {A U D : List Rn} (hm : msgOK i0 i2 i9 Q A U D = true) : plainN Q A U D ≤ 1099511627776 := by
  obtain ⟨_, _, _, lq, la, lu, ld, hl⟩ := msgOK_parts hm
  obtain ⟨oq, oa, ou, od⟩ := lstOK_parts hl
  have hq : ∀ (L : List Qn), (∀ q ∈ L, qOK q = true) → sumQ L ≤ 259 * L.length := fun L => by
    induction L with
    | nil => intro _; exact Nat.le_refl _
    | cons x l ih =>
      intro h
      have h1 : x.n.size ≤ 255 := ((isN_iff x.n).1 (qOK_parts (h x List.mem_cons_self)).1).1
      have h2 := ih (fun y hy => h y (List.mem_cons_of_mem _ hy))
      simp only [sumQ, List.length_cons]; omega
  have hr : ∀ (L : List Rn), (∀ r ∈ L, rOK r = true) → sumR L ≤ 65800 * L.length := fun L => by
    induction L with
    | nil => intro _; exact Nat.le_refl _
    | cons x l ih =>
      intro h
      obtain ⟨h0, _, _, _, hd⟩ := rOK_parts (h x List.mem_cons_self)
      have h1 : x.o.size ≤ 255 := ((isN_iff x.o).1 h0).1
      have h3 := hd.1
      have h2 := ih (fun y hy => h y (List.mem_cons_of_mem _ hy))
      simp only [sumR, List.length_cons]; omega
  have e1 := hq Q oq
  have e2 := hr A oa
  have e3 := hr U ou
  have e4 := hr D od
  unfold plainN
  omega
theorem packS_plain (i0 i2 i9 : Nat) (b1 b3 b4 b5 b6 b7 b8 : Bool) {Q : List Qn} {A U D : List Rn} (hm : msgOK i0 i2 i9 Q A U D = true) : (packS i0 i2 i9 b1 b3 b4 b5 b6 b7 b8 Q A U D).out.size ≤ plainN Q A U D := by
  obtain ⟨_, _, _, lq, la, lu, ld, hl⟩ := msgOK_parts hm
  obtain ⟨oq, oa, ou, od⟩ := lstOK_parts hl
  obtain ⟨h1, h2⟩ := head_size i0 i2 i9 b1 b3 b4 b5 b6 b7 b8 Q.length A.length U.length D.length
  have hok : POk (headP i0 i2 i9 b1 b3 b4 b5 b6 b7 b8 Q.length A.length U.length D.length ⟨.empty, []⟩) := ⟨fun x hx => by (rw [h2] at hx; cases hx), by rw [h2]; exact Nat.zero_le _⟩
  have h3 := quesL_plain Q (headP i0 i2 i9 b1 b3 b4 b5 b6 b7 b8 Q.length A.length U.length D.length ⟨.empty, []⟩) oq
  have h4 := runR_plain 65535 (A ++ U ++ D) _ 0 (fun r hr => by rcases List.mem_append.1 hr with h | h; (rcases List.mem_append.1 h with h | h; exact oa r h; exact ou r h); exact od r h) (quesL_ok Q _ oq hok).1
  rw [sumR_append, sumR_append] at h4
  unfold packS plainN
  omega

set_option maxRecDepth 100000 in
set_option maxHeartbeats 2000000 in
/-- WireShort: too large -/
theorem wireShort_large (i0 i2 i9 : Nat) (b1 b3 b4 b5 b6 b7 b8 : Bool) (q0 a0 u0 d0 : Option Addr) (qc ac uc dc : Nat) (Q : List Qn) (A U D : List Rn) (dt : ByteArray) (w : World) (hl : LsAt w q0 a0 u0 d0 Q A U D) (hm : msgOK i0 i2 i9 Q A U D = true) (hbig : 65535 < (packS i0 i2 i9 b1 b3 b4 b5 b6 b7 b8 Q A U D).out.size) :
    Calls Try.prog 3 #[.agg #[.int .i64 (i0 : Int), .bool b1, .int .i64 (i2 : Int), .bool b3, .bool b4, .bool b5, .bool b6, .bool b7, .bool b8, .int .i64 (i9 : Int), .slice q0 Q.length qc, .slice a0 A.length ac, .slice u0 U.length uc, .slice d0 D.length dc], .string dt] w fun e w' => e = .returned (.bool true) ∧ Below w.heap.size w w' := by
  have HX : Hid (Bx (w.alloc (.cells #[.int .i64 (i0 : Int), .bool b1, .int .i64 (i2 : Int), .bool b3, .bool b4, .bool b5, .bool b6, .bool b7, .bool b8, .int .i64 (i9 : Int), .slice q0 Q.length qc, .slice a0 A.length ac, .slice u0 U.length uc, .slice d0 D.length dc] 25)) w.heap.size #[.int .i64 (i0 : Int), .bool b1, .int .i64 (i2 : Int), .bool b3, .bool b4, .bool b5, .bool b6, .bool b7, .bool b8, .int .i64 (i9 : Int), .slice q0 Q.length qc, .slice a0 A.length ac, .slice u0 U.length uc, .slice d0 D.length dc] 25) := World.alloc_heap_new w _
  have HB := hide' ((Below.refl w.heap.size w).alloc (Nat.le_refl _) (.cells #[.int .i64 (i0 : Int), .bool b1, .int .i64 (i2 : Int), .bool b3, .bool b4, .bool b5, .bool b6, .bool b7, .bool b8, .int .i64 (i9 : Int), .slice q0 Q.length qc, .slice a0 A.length ac, .slice u0 U.length uc, .slice d0 D.length dc] 25))
  have HW := hide' hl
  have T1 : Hid True := trivial
  obtain ⟨sP, hsP⟩ : ∃ sP, packS i0 i2 i9 b1 b3 b4 b5 b6 b7 b8 Q A U D = sP := ⟨_, rfl⟩
  rw [hsP] at hbig
  have hple := plainN_le hm
  have hpl := hsP ▸ packS_plain i0 i2 i9 b1 b3 b4 b5 b6 b7 b8 hm
  obtain ⟨PN, hPN⟩ : ∃ n, plainN Q A U D = n := ⟨_, rfl⟩
  have HPN := hide' hPN
  rw [hPN] at hpl
  have HSP := hide' hsP
  have hgt : (65535 : Int) < (PN : Int) := by omega
  clear hl hsP hPN hpl
  go_enter Try.func3, Try.ntmps3
  go_wp2_with (first
    | (go_at_call 5; have _ := T1; clear T1; refine (question_any _).mono ?_; rintro e w1 ⟨g1, rfl, hL1, hB1⟩; have L1 := hide' hL1; have HB1 := hide' (bstep HB.out hB1 HB.out.size); have HX1 : Hid (Bx w1 w.heap.size #[.int .i64 (i0 : Int), .bool b1, .int .i64 (i2 : Int), .bool b3, .bool b4, .bool b5, .bool b6, .bool b7, .bool b8, .int .i64 (i9 : Int), .slice q0 Q.length qc, .slice a0 A.length ac, .slice u0 U.length uc, .slice d0 D.length dc] 25) := HX.out.below hB1 HX.out.lt; have T2 : Hid True := trivial; clear hL1 hB1)
    | (go_at_call 4; have _ := T2; clear T2; refine (pack_yes 7 0 0 false false false true false false false (some ⟨g1, 0, none⟩) none none none 1 0 0 0 [exQ] [] [] [] _ L1.out exMsg).mono ?_; rintro e w2 ⟨h2, hB2⟩; rw [if_neg (by rw [exPack]; decide), exPack] at h2; obtain ⟨p2, c2, rfl, hO2⟩ := h2; have HB2 := hide' (bstep HB1.out hB2 HB1.out.size); have HX2 : Hid (Bx w2 w.heap.size #[.int .i64 (i0 : Int), .bool b1, .int .i64 (i2 : Int), .bool b3, .bool b4, .bool b5, .bool b6, .bool b7, .bool b8, .int .i64 (i9 : Int), .slice q0 Q.length qc, .slice a0 A.length ac, .slice u0 U.length uc, .slice d0 D.length dc] 25) := HX1.out.below hB2 HX1.out.lt; clear hB2 hO2)
    | (go_at_call 5; refine (question_any _).mono ?_; rintro e w3 ⟨g3, rfl, hL3, hB3⟩; have L3 := hide' hL3; have HB3 := hide' (bstep HB2.out hB3 HB2.out.size); have HX3 : Hid (Bx w3 w.heap.size #[.int .i64 (i0 : Int), .bool b1, .int .i64 (i2 : Int), .bool b3, .bool b4, .bool b5, .bool b6, .bool b7, .bool b8, .int .i64 (i9 : Int), .slice q0 Q.length qc, .slice a0 A.length ac, .slice u0 U.length uc, .slice d0 D.length dc] 25) := HX2.out.below hB3 HX2.out.lt; have T3 : Hid True := trivial; clear hL3 hB3)
    | (go_at_call 6; have _ := T3; clear T3; refine (plain_any 7 0 0 false false false true false false false (some ⟨g3, 0, none⟩) none none none 1 0 0 0 [exQ] [] [] [] _ L3.out (by rw [exPlain]; decide)).mono ?_; rintro e w4 ⟨rfl, hB4⟩; rw [exPlain]; have HB4 := hide' (bstep HB3.out hB4 HB3.out.size); have HX4 : Hid (Bx w4 w.heap.size #[.int .i64 (i0 : Int), .bool b1, .int .i64 (i2 : Int), .bool b3, .bool b4, .bool b5, .bool b6, .bool b7, .bool b8, .int .i64 (i9 : Int), .slice q0 Q.length qc, .slice a0 A.length ac, .slice u0 U.length uc, .slice d0 D.length dc] 25) := HX3.out.below hB4 HX3.out.lt; obtain ⟨m0, m1, m2, m3, m4, m5, m6, m7, m8, m9, m10, m11, m12, m13⟩ := bx14c HX4.out; clear hB4)
    | (go_at_call 4; refine (pack_yes i0 i2 i9 b1 b3 b4 b5 b6 b7 b8 q0 a0 u0 d0 qc ac uc dc Q A U D _ (HW.out.below HB4.out) hm).mono ?_; rintro e w5 ⟨h5, hB5⟩; rw [HSP.out, if_pos hbig] at h5; subst h5; have HX5 : Hid (Bx w5 w.heap.size #[.int .i64 (i0 : Int), .bool b1, .int .i64 (i2 : Int), .bool b3, .bool b4, .bool b5, .bool b6, .bool b7, .bool b8, .int .i64 (i9 : Int), .slice q0 Q.length qc, .slice a0 A.length ac, .slice u0 U.length uc, .slice d0 D.length dc] 25) := HX4.out.below hB5 HX4.out.lt; obtain ⟨n0, n1, n2, n3, n4, n5, n6, n7, n8, n9, n10, n11, n12, n13⟩ := bx14c HX5.out; have HB5 := hide' (bstep HB4.out hB5 HB4.out.size); clear hB5)
    | (go_at_call 6; refine (plain_any i0 i2 i9 b1 b3 b4 b5 b6 b7 b8 q0 a0 u0 d0 qc ac uc dc Q A U D _ (HW.out.below HB5.out) hple).mono ?_; rintro e w6 ⟨rfl, hB6⟩; rw [HPN.out]; have HB6 := hide' (bstep HB5.out hB6 HB5.out.size); clear hB6))
  go_ret
  exact ⟨rfl, HB6.out⟩

set_option maxRecDepth 5000000 in
set_option maxHeartbeats 2000000 in
theorem wireShort_none (i0 i2 i9 : Nat) (b1 b3 b4 b5 b6 b7 b8 : Bool) (q0 a0 u0 d0 : Option Addr) (qc ac uc dc : Nat) (Q : List Qn) (A U D : List Rn) (dt : ByteArray) (w : World) (hl : LsAt w q0 a0 u0 d0 Q A U D) (hm : msgOK i0 i2 i9 Q A U D = true) (hbig : ¬ 65535 < (packS i0 i2 i9 b1 b3 b4 b5 b6 b7 b8 Q A U D).out.size) (hdl : dt.size ≤ 9223372036854775807) (hq : Q.length = 0) :
    Calls Try.prog 3 #[.agg #[.int .i64 (i0 : Int), .bool b1, .int .i64 (i2 : Int), .bool b3, .bool b4, .bool b5, .bool b6, .bool b7, .bool b8, .int .i64 (i9 : Int), .slice q0 Q.length qc, .slice a0 A.length ac, .slice u0 U.length uc, .slice d0 D.length dc], .string dt] w fun e w' => e = .returned (.bool true) ∧ Below w.heap.size w w' := by
  have HX : Hid (Bx (w.alloc (.cells #[.int .i64 (i0 : Int), .bool b1, .int .i64 (i2 : Int), .bool b3, .bool b4, .bool b5, .bool b6, .bool b7, .bool b8, .int .i64 (i9 : Int), .slice q0 Q.length qc, .slice a0 A.length ac, .slice u0 U.length uc, .slice d0 D.length dc] 25)) w.heap.size #[.int .i64 (i0 : Int), .bool b1, .int .i64 (i2 : Int), .bool b3, .bool b4, .bool b5, .bool b6, .bool b7, .bool b8, .int .i64 (i9 : Int), .slice q0 Q.length qc, .slice a0 A.length ac, .slice u0 U.length uc, .slice d0 D.length dc] 25) := World.alloc_heap_new w _
  have HB := hide' ((Below.refl w.heap.size w).alloc (Nat.le_refl _) (.cells #[.int .i64 (i0 : Int), .bool b1, .int .i64 (i2 : Int), .bool b3, .bool b4, .bool b5, .bool b6, .bool b7, .bool b8, .int .i64 (i9 : Int), .slice q0 Q.length qc, .slice a0 A.length ac, .slice u0 U.length uc, .slice d0 D.length dc] 25))
  have HW := hide' hl
  have T1 : Hid True := trivial
  obtain ⟨sP, hsP⟩ : ∃ sP, packS i0 i2 i9 b1 b3 b4 b5 b6 b7 b8 Q A U D = sP := ⟨_, rfl⟩
  rw [hsP] at hbig
  have hple := plainN_le hm
  have hpl := hsP ▸ packS_plain i0 i2 i9 b1 b3 b4 b5 b6 b7 b8 hm
  obtain ⟨PN, hPN⟩ : ∃ n, plainN Q A U D = n := ⟨_, rfl⟩
  have HPN := hide' hPN
  rw [hPN] at hpl
  have HSP := hide' hsP
  have hle : ¬ (PN : Int) < (sP.out.size : Int) := by omega
  have hq0 : ((Q.length : Int) == 0) = true := by rw [beq_iff_eq]; omega
  clear hq
  clear hl hsP hPN hpl
  go_enter Try.func3, Try.ntmps3
  go_wp2_with (first
    | (go_at_call 5; have _ := T1; clear T1; refine (question_any _).mono ?_; rintro e w1 ⟨g1, rfl, hL1, hB1⟩; have L1 := hide' hL1; have HB1 := hide' (bstep HB.out hB1 HB.out.size); have HX1 : Hid (Bx w1 w.heap.size #[.int .i64 (i0 : Int), .bool b1, .int .i64 (i2 : Int), .bool b3, .bool b4, .bool b5, .bool b6, .bool b7, .bool b8, .int .i64 (i9 : Int), .slice q0 Q.length qc, .slice a0 A.length ac, .slice u0 U.length uc, .slice d0 D.length dc] 25) := HX.out.below hB1 HX.out.lt; have T2 : Hid True := trivial; clear hL1 hB1)
    | (go_at_call 4; have _ := T2; clear T2; refine (pack_yes 7 0 0 false false false true false false false (some ⟨g1, 0, none⟩) none none none 1 0 0 0 [exQ] [] [] [] _ L1.out exMsg).mono ?_; rintro e w2 ⟨h2, hB2⟩; rw [if_neg (by rw [exPack]; decide), exPack] at h2; obtain ⟨p2, c2, rfl, hO2⟩ := h2; have HB2 := hide' (bstep HB1.out hB2 HB1.out.size); have HX2 : Hid (Bx w2 w.heap.size #[.int .i64 (i0 : Int), .bool b1, .int .i64 (i2 : Int), .bool b3, .bool b4, .bool b5, .bool b6, .bool b7, .bool b8, .int .i64 (i9 : Int), .slice q0 Q.length qc, .slice a0 A.length ac, .slice u0 U.length uc, .slice d0 D.length dc] 25) := HX1.out.below hB2 HX1.out.lt; clear hB2 hO2)
    | (go_at_call 5; refine (question_any _).mono ?_; rintro e w3 ⟨g3, rfl, hL3, hB3⟩; have L3 := hide' hL3; have HB3 := hide' (bstep HB2.out hB3 HB2.out.size); have HX3 : Hid (Bx w3 w.heap.size #[.int .i64 (i0 : Int), .bool b1, .int .i64 (i2 : Int), .bool b3, .bool b4, .bool b5, .bool b6, .bool b7, .bool b8, .int .i64 (i9 : Int), .slice q0 Q.length qc, .slice a0 A.length ac, .slice u0 U.length uc, .slice d0 D.length dc] 25) := HX2.out.below hB3 HX2.out.lt; have T3 : Hid True := trivial; clear hL3 hB3)
    | (go_at_call 6; have _ := T3; clear T3; refine (plain_any 7 0 0 false false false true false false false (some ⟨g3, 0, none⟩) none none none 1 0 0 0 [exQ] [] [] [] _ L3.out (by rw [exPlain]; decide)).mono ?_; rintro e w4 ⟨rfl, hB4⟩; rw [exPlain]; have HB4 := hide' (bstep HB3.out hB4 HB3.out.size); have HX4 : Hid (Bx w4 w.heap.size #[.int .i64 (i0 : Int), .bool b1, .int .i64 (i2 : Int), .bool b3, .bool b4, .bool b5, .bool b6, .bool b7, .bool b8, .int .i64 (i9 : Int), .slice q0 Q.length qc, .slice a0 A.length ac, .slice u0 U.length uc, .slice d0 D.length dc] 25) := HX3.out.below hB4 HX3.out.lt; obtain ⟨m0, m1, m2, m3, m4, m5, m6, m7, m8, m9, m10, m11, m12, m13⟩ := bx14c HX4.out; clear hB4)
    | (go_at_call 4; refine (pack_yes i0 i2 i9 b1 b3 b4 b5 b6 b7 b8 q0 a0 u0 d0 qc ac uc dc Q A U D _ (HW.out.below HB4.out) hm).mono ?_; rintro e w5 ⟨h5, hB5⟩; rw [HSP.out, if_neg hbig] at h5; obtain ⟨p5, c5, rfl, hO5⟩ := h5; clear hO5; have HX5 : Hid (Bx w5 w.heap.size #[.int .i64 (i0 : Int), .bool b1, .int .i64 (i2 : Int), .bool b3, .bool b4, .bool b5, .bool b6, .bool b7, .bool b8, .int .i64 (i9 : Int), .slice q0 Q.length qc, .slice a0 A.length ac, .slice u0 U.length uc, .slice d0 D.length dc] 25) := HX4.out.below hB5 HX4.out.lt; obtain ⟨n0, n1, n2, n3, n4, n5, n6, n7, n8, n9, n10, n11, n12, n13⟩ := bx14c HX5.out; have HB5 := hide' (bstep HB4.out hB5 HB4.out.size); clear hB5)
    | (go_at_call 6; refine (plain_any i0 i2 i9 b1 b3 b4 b5 b6 b7 b8 q0 a0 u0 d0 qc ac uc dc Q A U D _ (HW.out.below HB5.out) hple).mono ?_; rintro e w6 ⟨rfl, hB6⟩; rw [HPN.out]; have HX6 : Hid (Bx w6 w.heap.size #[.int .i64 (i0 : Int), .bool b1, .int .i64 (i2 : Int), .bool b3, .bool b4, .bool b5, .bool b6, .bool b7, .bool b8, .int .i64 (i9 : Int), .slice q0 Q.length qc, .slice a0 A.length ac, .slice u0 U.length uc, .slice d0 D.length dc] 25) := HX5.out.below hB6 HX5.out.lt; have HB6 := hide' (bstep HB5.out hB6 HB5.out.size); have o10 : w6.cell? ⟨w.heap.size, 10, none⟩ = some (.slice q0 Q.length qc) := HX6.out.cell rfl;  clear hB6))
  go_ret
  exact ⟨rfl, HB6.out⟩

set_option maxRecDepth 5000000 in
set_option maxHeartbeats 2000000 in
theorem wireShort_root (i0 i2 i9 : Nat) (b1 b3 b4 b5 b6 b7 b8 : Bool) (q0 a0 u0 d0 : Option Addr) (qc ac uc dc : Nat) (Q : List Qn) (A U D : List Rn) (dt : ByteArray) (w : World) (hl : LsAt w q0 a0 u0 d0 Q A U D) (hm : msgOK i0 i2 i9 Q A U D = true) (hbig : ¬ 65535 < (packS i0 i2 i9 b1 b3 b4 b5 b6 b7 b8 Q A U D).out.size) (hdl : dt.size ≤ 9223372036854775807) (hq : 0 < Q.length) (hr : Q[0].n = ⟨#[0]⟩) :
    Calls Try.prog 3 #[.agg #[.int .i64 (i0 : Int), .bool b1, .int .i64 (i2 : Int), .bool b3, .bool b4, .bool b5, .bool b6, .bool b7, .bool b8, .int .i64 (i9 : Int), .slice q0 Q.length qc, .slice a0 A.length ac, .slice u0 U.length uc, .slice d0 D.length dc], .string dt] w fun e w' => e = .returned (.bool true) ∧ Below w.heap.size w w' := by
  have HX : Hid (Bx (w.alloc (.cells #[.int .i64 (i0 : Int), .bool b1, .int .i64 (i2 : Int), .bool b3, .bool b4, .bool b5, .bool b6, .bool b7, .bool b8, .int .i64 (i9 : Int), .slice q0 Q.length qc, .slice a0 A.length ac, .slice u0 U.length uc, .slice d0 D.length dc] 25)) w.heap.size #[.int .i64 (i0 : Int), .bool b1, .int .i64 (i2 : Int), .bool b3, .bool b4, .bool b5, .bool b6, .bool b7, .bool b8, .int .i64 (i9 : Int), .slice q0 Q.length qc, .slice a0 A.length ac, .slice u0 U.length uc, .slice d0 D.length dc] 25) := World.alloc_heap_new w _
  have HB := hide' ((Below.refl w.heap.size w).alloc (Nat.le_refl _) (.cells #[.int .i64 (i0 : Int), .bool b1, .int .i64 (i2 : Int), .bool b3, .bool b4, .bool b5, .bool b6, .bool b7, .bool b8, .int .i64 (i9 : Int), .slice q0 Q.length qc, .slice a0 A.length ac, .slice u0 U.length uc, .slice d0 D.length dc] 25))
  have HW := hide' hl
  have T1 : Hid True := trivial
  obtain ⟨sP, hsP⟩ : ∃ sP, packS i0 i2 i9 b1 b3 b4 b5 b6 b7 b8 Q A U D = sP := ⟨_, rfl⟩
  rw [hsP] at hbig
  have hple := plainN_le hm
  have hpl := hsP ▸ packS_plain i0 i2 i9 b1 b3 b4 b5 b6 b7 b8 hm
  obtain ⟨PN, hPN⟩ : ∃ n, plainN Q A U D = n := ⟨_, rfl⟩
  have HPN := hide' hPN
  rw [hPN] at hpl
  have HSP := hide' hsP
  have hle : ¬ (PN : Int) < (sP.out.size : Int) := by omega
  obtain ⟨nn, hnn⟩ : ∃ nn, Q[0].n = nn := ⟨_, rfl⟩
  rw [hnn] at hr
  have hq0 : ((Q.length : Int) == 0) = false := by rw [beq_eq_false_iff_ne]; omega
  have hrt : (nn.toList == [0]) = true := by rw [hr, toList_eq]; decide
  clear hr
  clear hl hsP hPN hpl
  go_enter Try.func3, Try.ntmps3
  go_wp2_with (first
    | (go_at_call 5; have _ := T1; clear T1; refine (question_any _).mono ?_; rintro e w1 ⟨g1, rfl, hL1, hB1⟩; have L1 := hide' hL1; have HB1 := hide' (bstep HB.out hB1 HB.out.size); have HX1 : Hid (Bx w1 w.heap.size #[.int .i64 (i0 : Int), .bool b1, .int .i64 (i2 : Int), .bool b3, .bool b4, .bool b5, .bool b6, .bool b7, .bool b8, .int .i64 (i9 : Int), .slice q0 Q.length qc, .slice a0 A.length ac, .slice u0 U.length uc, .slice d0 D.length dc] 25) := HX.out.below hB1 HX.out.lt; have T2 : Hid True := trivial; clear hL1 hB1)
    | (go_at_call 4; have _ := T2; clear T2; refine (pack_yes 7 0 0 false false false true false false false (some ⟨g1, 0, none⟩) none none none 1 0 0 0 [exQ] [] [] [] _ L1.out exMsg).mono ?_; rintro e w2 ⟨h2, hB2⟩; rw [if_neg (by rw [exPack]; decide), exPack] at h2; obtain ⟨p2, c2, rfl, hO2⟩ := h2; have HB2 := hide' (bstep HB1.out hB2 HB1.out.size); have HX2 : Hid (Bx w2 w.heap.size #[.int .i64 (i0 : Int), .bool b1, .int .i64 (i2 : Int), .bool b3, .bool b4, .bool b5, .bool b6, .bool b7, .bool b8, .int .i64 (i9 : Int), .slice q0 Q.length qc, .slice a0 A.length ac, .slice u0 U.length uc, .slice d0 D.length dc] 25) := HX1.out.below hB2 HX1.out.lt; clear hB2 hO2)
    | (go_at_call 5; refine (question_any _).mono ?_; rintro e w3 ⟨g3, rfl, hL3, hB3⟩; have L3 := hide' hL3; have HB3 := hide' (bstep HB2.out hB3 HB2.out.size); have HX3 : Hid (Bx w3 w.heap.size #[.int .i64 (i0 : Int), .bool b1, .int .i64 (i2 : Int), .bool b3, .bool b4, .bool b5, .bool b6, .bool b7, .bool b8, .int .i64 (i9 : Int), .slice q0 Q.length qc, .slice a0 A.length ac, .slice u0 U.length uc, .slice d0 D.length dc] 25) := HX2.out.below hB3 HX2.out.lt; have T3 : Hid True := trivial; clear hL3 hB3)
    | (go_at_call 6; have _ := T3; clear T3; refine (plain_any 7 0 0 false false false true false false false (some ⟨g3, 0, none⟩) none none none 1 0 0 0 [exQ] [] [] [] _ L3.out (by rw [exPlain]; decide)).mono ?_; rintro e w4 ⟨rfl, hB4⟩; rw [exPlain]; have HB4 := hide' (bstep HB3.out hB4 HB3.out.size); have HX4 : Hid (Bx w4 w.heap.size #[.int .i64 (i0 : Int), .bool b1, .int .i64 (i2 : Int), .bool b3, .bool b4, .bool b5, .bool b6, .bool b7, .bool b8, .int .i64 (i9 : Int), .slice q0 Q.length qc, .slice a0 A.length ac, .slice u0 U.length uc, .slice d0 D.length dc] 25) := HX3.out.below hB4 HX3.out.lt; obtain ⟨m0, m1, m2, m3, m4, m5, m6, m7, m8, m9, m10, m11, m12, m13⟩ := bx14c HX4.out; clear hB4)
    | (go_at_call 4; refine (pack_yes i0 i2 i9 b1 b3 b4 b5 b6 b7 b8 q0 a0 u0 d0 qc ac uc dc Q A U D _ (HW.out.below HB4.out) hm).mono ?_; rintro e w5 ⟨h5, hB5⟩; rw [HSP.out, if_neg hbig] at h5; obtain ⟨p5, c5, rfl, hO5⟩ := h5; clear hO5; have HX5 : Hid (Bx w5 w.heap.size #[.int .i64 (i0 : Int), .bool b1, .int .i64 (i2 : Int), .bool b3, .bool b4, .bool b5, .bool b6, .bool b7, .bool b8, .int .i64 (i9 : Int), .slice q0 Q.length qc, .slice a0 A.length ac, .slice u0 U.length uc, .slice d0 D.length dc] 25) := HX4.out.below hB5 HX4.out.lt; obtain ⟨n0, n1, n2, n3, n4, n5, n6, n7, n8, n9, n10, n11, n12, n13⟩ := bx14c HX5.out; have HB5 := hide' (bstep HB4.out hB5 HB4.out.size); clear hB5)
    | (go_at_call 6; refine (plain_any i0 i2 i9 b1 b3 b4 b5 b6 b7 b8 q0 a0 u0 d0 qc ac uc dc Q A U D _ (HW.out.below HB5.out) hple).mono ?_; rintro e w6 ⟨rfl, hB6⟩; rw [HPN.out]; have HX6 : Hid (Bx w6 w.heap.size #[.int .i64 (i0 : Int), .bool b1, .int .i64 (i2 : Int), .bool b3, .bool b4, .bool b5, .bool b6, .bool b7, .bool b8, .int .i64 (i9 : Int), .slice q0 Q.length qc, .slice a0 A.length ac, .slice u0 U.length uc, .slice d0 D.length dc] 25) := HX5.out.below hB6 HX5.out.lt; have HB6 := hide' (bstep HB5.out hB6 HB5.out.size); have o10 : w6.cell? ⟨w.heap.size, 10, none⟩ = some (.slice q0 Q.length qc) := HX6.out.cell rfl; obtain ⟨gq, oq, rfl, hgq, k0, _⟩ := qsAt_below HW.out.q HB6.out 0 hq; have k00 : w6.cell? ⟨gq, oq, none⟩ = some (.string nn) := hnn ▸ (by simpa using k0); clear k0; clear hB6))
  go_ret
  exact ⟨rfl, HB6.out⟩

set_option maxRecDepth 5000000 in
set_option maxHeartbeats 2000000 in
theorem wireShort_long (i0 i2 i9 : Nat) (b1 b3 b4 b5 b6 b7 b8 : Bool) (q0 a0 u0 d0 : Option Addr) (qc ac uc dc : Nat) (Q : List Qn) (A U D : List Rn) (dt : ByteArray) (w : World) (hl : LsAt w q0 a0 u0 d0 Q A U D) (hm : msgOK i0 i2 i9 Q A U D = true) (hbig : ¬ 65535 < (packS i0 i2 i9 b1 b3 b4 b5 b6 b7 b8 Q A U D).out.size) (hdl : dt.size ≤ 9223372036854775807) (hq : 0 < Q.length) (hr : Q[0].n ≠ ⟨#[0]⟩) (hdt : 60000 < dt.size) :
    Calls Try.prog 3 #[.agg #[.int .i64 (i0 : Int), .bool b1, .int .i64 (i2 : Int), .bool b3, .bool b4, .bool b5, .bool b6, .bool b7, .bool b8, .int .i64 (i9 : Int), .slice q0 Q.length qc, .slice a0 A.length ac, .slice u0 U.length uc, .slice d0 D.length dc], .string dt] w fun e w' => e = .returned (.bool true) ∧ Below w.heap.size w w' := by
  have HX : Hid (Bx (w.alloc (.cells #[.int .i64 (i0 : Int), .bool b1, .int .i64 (i2 : Int), .bool b3, .bool b4, .bool b5, .bool b6, .bool b7, .bool b8, .int .i64 (i9 : Int), .slice q0 Q.length qc, .slice a0 A.length ac, .slice u0 U.length uc, .slice d0 D.length dc] 25)) w.heap.size #[.int .i64 (i0 : Int), .bool b1, .int .i64 (i2 : Int), .bool b3, .bool b4, .bool b5, .bool b6, .bool b7, .bool b8, .int .i64 (i9 : Int), .slice q0 Q.length qc, .slice a0 A.length ac, .slice u0 U.length uc, .slice d0 D.length dc] 25) := World.alloc_heap_new w _
  have HB := hide' ((Below.refl w.heap.size w).alloc (Nat.le_refl _) (.cells #[.int .i64 (i0 : Int), .bool b1, .int .i64 (i2 : Int), .bool b3, .bool b4, .bool b5, .bool b6, .bool b7, .bool b8, .int .i64 (i9 : Int), .slice q0 Q.length qc, .slice a0 A.length ac, .slice u0 U.length uc, .slice d0 D.length dc] 25))
  have HW := hide' hl
  have T1 : Hid True := trivial
  obtain ⟨sP, hsP⟩ : ∃ sP, packS i0 i2 i9 b1 b3 b4 b5 b6 b7 b8 Q A U D = sP := ⟨_, rfl⟩
  rw [hsP] at hbig
  have hple := plainN_le hm
  have hpl := hsP ▸ packS_plain i0 i2 i9 b1 b3 b4 b5 b6 b7 b8 hm
  obtain ⟨PN, hPN⟩ : ∃ n, plainN Q A U D = n := ⟨_, rfl⟩
  have HPN := hide' hPN
  rw [hPN] at hpl
  have HSP := hide' hsP
  have hle : ¬ (PN : Int) < (sP.out.size : Int) := by omega
  obtain ⟨nn, hnn⟩ : ∃ nn, Q[0].n = nn := ⟨_, rfl⟩
  rw [hnn] at hr
  have hq0 : ((Q.length : Int) == 0) = false := by rw [beq_eq_false_iff_ne]; omega
  have hrt : (nn.toList == [0]) = false := by rw [beq_eq_false_iff_ne]; intro e; exact hr (toList_inj.1 (e.trans (by rw [toList_eq])))
  have hdI : (60000 : Int) < (dt.size : Int) := by omega
  clear hl hsP hPN hpl
  go_enter Try.func3, Try.ntmps3
  go_wp2_with (first
    | (go_at_call 5; have _ := T1; clear T1; refine (question_any _).mono ?_; rintro e w1 ⟨g1, rfl, hL1, hB1⟩; have L1 := hide' hL1; have HB1 := hide' (bstep HB.out hB1 HB.out.size); have HX1 : Hid (Bx w1 w.heap.size #[.int .i64 (i0 : Int), .bool b1, .int .i64 (i2 : Int), .bool b3, .bool b4, .bool b5, .bool b6, .bool b7, .bool b8, .int .i64 (i9 : Int), .slice q0 Q.length qc, .slice a0 A.length ac, .slice u0 U.length uc, .slice d0 D.length dc] 25) := HX.out.below hB1 HX.out.lt; have T2 : Hid True := trivial; clear hL1 hB1)
    | (go_at_call 4; have _ := T2; clear T2; refine (pack_yes 7 0 0 false false false true false false false (some ⟨g1, 0, none⟩) none none none 1 0 0 0 [exQ] [] [] [] _ L1.out exMsg).mono ?_; rintro e w2 ⟨h2, hB2⟩; rw [if_neg (by rw [exPack]; decide), exPack] at h2; obtain ⟨p2, c2, rfl, hO2⟩ := h2; have HB2 := hide' (bstep HB1.out hB2 HB1.out.size); have HX2 : Hid (Bx w2 w.heap.size #[.int .i64 (i0 : Int), .bool b1, .int .i64 (i2 : Int), .bool b3, .bool b4, .bool b5, .bool b6, .bool b7, .bool b8, .int .i64 (i9 : Int), .slice q0 Q.length qc, .slice a0 A.length ac, .slice u0 U.length uc, .slice d0 D.length dc] 25) := HX1.out.below hB2 HX1.out.lt; clear hB2 hO2)
    | (go_at_call 5; refine (question_any _).mono ?_; rintro e w3 ⟨g3, rfl, hL3, hB3⟩; have L3 := hide' hL3; have HB3 := hide' (bstep HB2.out hB3 HB2.out.size); have HX3 : Hid (Bx w3 w.heap.size #[.int .i64 (i0 : Int), .bool b1, .int .i64 (i2 : Int), .bool b3, .bool b4, .bool b5, .bool b6, .bool b7, .bool b8, .int .i64 (i9 : Int), .slice q0 Q.length qc, .slice a0 A.length ac, .slice u0 U.length uc, .slice d0 D.length dc] 25) := HX2.out.below hB3 HX2.out.lt; have T3 : Hid True := trivial; clear hL3 hB3)
    | (go_at_call 6; have _ := T3; clear T3; refine (plain_any 7 0 0 false false false true false false false (some ⟨g3, 0, none⟩) none none none 1 0 0 0 [exQ] [] [] [] _ L3.out (by rw [exPlain]; decide)).mono ?_; rintro e w4 ⟨rfl, hB4⟩; rw [exPlain]; have HB4 := hide' (bstep HB3.out hB4 HB3.out.size); have HX4 : Hid (Bx w4 w.heap.size #[.int .i64 (i0 : Int), .bool b1, .int .i64 (i2 : Int), .bool b3, .bool b4, .bool b5, .bool b6, .bool b7, .bool b8, .int .i64 (i9 : Int), .slice q0 Q.length qc, .slice a0 A.length ac, .slice u0 U.length uc, .slice d0 D.length dc] 25) := HX3.out.below hB4 HX3.out.lt; obtain ⟨m0, m1, m2, m3, m4, m5, m6, m7, m8, m9, m10, m11, m12, m13⟩ := bx14c HX4.out; clear hB4)
    | (go_at_call 4; refine (pack_yes i0 i2 i9 b1 b3 b4 b5 b6 b7 b8 q0 a0 u0 d0 qc ac uc dc Q A U D _ (HW.out.below HB4.out) hm).mono ?_; rintro e w5 ⟨h5, hB5⟩; rw [HSP.out, if_neg hbig] at h5; obtain ⟨p5, c5, rfl, hO5⟩ := h5; clear hO5; have HX5 : Hid (Bx w5 w.heap.size #[.int .i64 (i0 : Int), .bool b1, .int .i64 (i2 : Int), .bool b3, .bool b4, .bool b5, .bool b6, .bool b7, .bool b8, .int .i64 (i9 : Int), .slice q0 Q.length qc, .slice a0 A.length ac, .slice u0 U.length uc, .slice d0 D.length dc] 25) := HX4.out.below hB5 HX4.out.lt; obtain ⟨n0, n1, n2, n3, n4, n5, n6, n7, n8, n9, n10, n11, n12, n13⟩ := bx14c HX5.out; have HB5 := hide' (bstep HB4.out hB5 HB4.out.size); clear hB5)
    | (go_at_call 6; refine (plain_any i0 i2 i9 b1 b3 b4 b5 b6 b7 b8 q0 a0 u0 d0 qc ac uc dc Q A U D _ (HW.out.below HB5.out) hple).mono ?_; rintro e w6 ⟨rfl, hB6⟩; rw [HPN.out]; have HX6 : Hid (Bx w6 w.heap.size #[.int .i64 (i0 : Int), .bool b1, .int .i64 (i2 : Int), .bool b3, .bool b4, .bool b5, .bool b6, .bool b7, .bool b8, .int .i64 (i9 : Int), .slice q0 Q.length qc, .slice a0 A.length ac, .slice u0 U.length uc, .slice d0 D.length dc] 25) := HX5.out.below hB6 HX5.out.lt; have HB6 := hide' (bstep HB5.out hB6 HB5.out.size); have o10 : w6.cell? ⟨w.heap.size, 10, none⟩ = some (.slice q0 Q.length qc) := HX6.out.cell rfl; obtain ⟨gq, oq, rfl, hgq, k0, _⟩ := qsAt_below HW.out.q HB6.out 0 hq; have k00 : w6.cell? ⟨gq, oq, none⟩ = some (.string nn) := hnn ▸ (by simpa using k0); clear k0; clear hB6))
  go_ret
  exact ⟨rfl, HB6.out⟩
end Go.Proofs.Ytlkppmpdjpffiaa
