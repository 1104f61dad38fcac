import Derived.Test.YtligjbcinahgdaaGreatFp5G
import Derived.Test.YtligjbcinahgdaaGreatMl0G
import Derived.Test.YtligjbcinahgdaaGreatBx4G
import Derived.Test.YtligjbcinahgdaaGreatTw4G
/-
  What is written through a box; slices.DeleteFunc of a row of one's own. (The verifier's own text.)
-/
namespace Go.Proofs.YtligjbcinahgdaaGreat
set_option linter.unusedVariables false
set_option linter.unusedSimpArgs false
open Go.RowKit Go.Shelf Go.Maps Go.Proofs.YtligjbcinahgdaaGreat.Nm

section
variable {W W1 W2 : World} {n e s k R R' j : Nat} {v u : Value} {xs : List Value} {cs : Array Value} {T : TypeId}
theorem own_nextF (h : W.ownsRow n e s v k xs) (hb : Below W.heap.size W W1) (hw : W1.setCell ⟨R, j, none⟩ u = W2) (hR : R < n) : W2.ownsRow n e s v k xs := by
  rw [← hw]
  exact own_keep (own_below h hb) (grown_set W1 R j u) (fun q e => by injection e with e; omega)
theorem own_setF (h : W1.ownsRow n e s v k xs) (hw : W1.setCell ⟨R, j, none⟩ u = W2) (hR : R < n) : W2.ownsRow n e s v k xs := by
  rw [← hw]
  exact own_keep h (grown_set W1 R j u) (fun q e => by injection e with e; omega)
theorem bx_nextF (h : Bx W R cs T) (hb : Below W.heap.size W W1) (hw : W1.setCell ⟨R, j, none⟩ u = W2) : Bx W2 R (cs.setIfInBounds j u) T := by
  rw [← hw]
  exact (h.below hb h.lt).set j u
theorem bx_farF (h : Bx W R' cs T) (hb : Below W.heap.size W W1) (hw : W1.setCell ⟨R, j, none⟩ u = W2) (hne : R ≠ R') : Bx W2 R' cs T := by
  rw [← hw]
  exact (h.below hb h.lt).grown (grown_set W1 R j u) (fun q => hne (by injection q))
theorem bel_nextF {w : World} (h : Below w.heap.size w W) (hb : Below W.heap.size W W1) (hw : W1.setCell ⟨w.heap.size, j, none⟩ u = W2) : Below w.heap.size w W2 := by
  rw [← hw]
  have := bstep h hb h.size
  exact this.grown (grown_set W1 _ j u) this.size (fun q e => by injection e with e; omega)
end
theorem rb_ownS {w : World} {base g cap n : Nat} {L : List Rn} (h : w.ownsRow base 55 5 (.slice (some ⟨g, 0, none⟩) n cap) n (rce5 L)) : ∃ rest, Rb w g L rest ∧ base ≤ g ∧ (rce5 L ++ rest).length = cap * 5 ∧ n ≤ cap ∧ cap ≤ maxLen := by
  obtain ⟨hl, (⟨h1, h0⟩ | ⟨g', cap', cur, h1, hb, hg, hn, hcm, hcs, htk⟩)⟩ := h
  · cases h1
  · injection h1 with h1 h2 h3
    injection h1 with h1
    injection h1 with h1
    subst h1 h3
    have e : rce5 L ++ cur.toList.drop (n * 5) = cur.toList := by rw [← htk, List.take_append_drop]
    refine ⟨cur.toList.drop (n * 5), ?_, hb, ?_, hn, hcm⟩
    · unfold Rb Bx
      rw [e, Array.toArray_toList]
      exact hg
    · rw [e, Array.length_toList]; exact hcs
theorem grown14 (w : World) (R : Nat) (a0 a1 a2 a3 a4 a5 a6 a7 a8 a9 a10 a11 a12 a13 : Value) : w.grownBy (set14 w R a0 a1 a2 a3 a4 a5 a6 a7 a8 a9 a10 a11 a12 a13) (some R) :=
  grown_trans (grown_trans (grown_trans (grown_trans (grown_trans (grown_trans (grown_trans (grown_trans (grown_trans (grown_trans (grown_trans (grown_trans (grown_trans (grown_set w R 0 a0) (grown_set _ R 1 a1)) (grown_set _ R 2 a2)) (grown_set _ R 3 a3)) (grown_set _ R 4 a4)) (grown_set _ R 5 a5)) (grown_set _ R 6 a6)) (grown_set _ R 7 a7)) (grown_set _ R 8 a8)) (grown_set _ R 9 a9)) (grown_set _ R 10 a10)) (grown_set _ R 11 a11)) (grown_set _ R 12 a12)) (grown_set _ R 13 a13)
/-- what is kept is a row of one's own -/
theorem own_short {w : World} {base g cap m : Nat} {F : List Rn} {rest : List Value} (h : Rb w g F rest) (hb : base ≤ g) (hl : (rce5 F ++ rest).length = cap * 5) (hm : m ≤ F.length) (hc : m ≤ cap) (hcm : cap ≤ maxLen) : w.ownsRow base 55 5 (.slice (some ⟨g, 0, none⟩) m cap) m (rce5 (F.take m)) := by
  have e : rce5 F = rce5 (F.take m) ++ rce5 (F.drop m) := by rw [← rce5_app, List.take_append_drop]
  have hlen : (rce5 (F.take m)).length = m * 5 := by rw [rce5_len, List.length_take]; congr 1; omega
  refine ⟨hlen, .inr ⟨g, cap, (rce5 F ++ rest).toArray, rfl, hb, h, hc, hcm, by simpa using hl, ?_⟩⟩
  rw [e, List.append_assoc, ← hlen]
  simp
set_option maxRecDepth 100000 in
set_option maxHeartbeats 2000000 in
theorem deleteNil_any (w : World) : Calls Tryz.prog 47 #[.slice none 0 0, .func (Fn.func 48) #[] #[]] w fun r w' => r = .returned (.slice none 0 0) ∧ Below w.heap.size w w' := by
  have HI := hide' (indexPlain_any [] none 0 w (by simp) (fun k hk => by cases hk))
  go_enter Tryz.func47, Tryz.ntmps47
  go_wp2_with (go_at_call 58; refine HI.out.mono ?_; rintro r w1 ⟨hr, hB1⟩; obtain rfl : r = .returned (.int .i64 (-1)) := (idx_none (B := []) (fun x hx => absurd hx List.not_mem_nil) hr); have HB1 := hide' hB1; clear hr hB1)
  go_ret
  exact ⟨rfl, HB1.out⟩
/-- slices.DeleteFunc of a row of one's own -/
theorem dropOwn_any (D : List Rn) (v : Value) (b : Nat) (W : World) (ho : W.ownsRow b 55 5 v D.length (rce5 D)) (hD : D.length ≤ 1048576) :
    Calls Tryz.prog 47 #[v, .func (Fn.func 48) #[] #[]] W fun r w' => ∃ v', r = .returned v' ∧ w'.ownsRow b 55 5 v' (kp D).length (rce5 (kp D)) ∧ W.grownBy w' v.ownBlock ∧ v'.ownBlock = v.ownBlock := by
  rcases id ho.2 with ⟨h1, h0⟩ | ⟨g, cap, cur, h1, _⟩
  · subst h1
    obtain rfl : D = [] := List.eq_nil_of_length_eq_zero h0
    refine (deleteNil_any W).mono ?_
    rintro r w' ⟨rfl, hb⟩
    exact ⟨_, rfl, World.ownsRow_nil _ _ _ _, grown_below hb _, rfl⟩
  · subst h1
    obtain ⟨rest, hr, hg, hl, hc, hcm⟩ := rb_ownS ho
    have := deletePlain_any [] D rest g cap W (by simpa using hr) hc hD
    simp only [List.length_nil, Nat.zero_mul] at this
    refine this.mono ?_
    rintro r w' ⟨F, hF1, hF2, rfl, hF3, hF4⟩
    have hk := kp_le D
    refine ⟨_, rfl, ?_, hF4, rfl⟩
    have hF3' : Rb w' g F rest := by simpa using hF3
    have hl' : (rce5 F ++ rest).length = cap * 5 := by
      rw [List.length_append, rce5_len, hF1, ← rce5_len, ← List.length_append]; exact hl
    have := own_short (m := (kp D).length) hF3' hg hl' (by omega) (by omega) hcm
    rw [hF2] at this
    exact this
end Go.Proofs.YtligjbcinahgdaaGreat

/-
  Proofs: policy.copyOf. (The verifier's own text.)
-/
namespace Go.Proofs.YtligjbcinahgdaaGreat
set_option linter.unusedVariables false
set_option linter.unusedSimpArgs false
open Go.RowKit Go.Shelf Go.Maps Go.Proofs.YtligjbcinahgdaaGreat.Nm

set_option maxRecDepth 100000 in
set_option maxHeartbeats 8000000 in
/-- policy.copyOf -/
theorem pcopyOf_any (i0 i2 i9 : Int) (b1 b3 b4 b5 b6 b7 b8 : Bool) (q0 a0 u0 d0 : Option Addr) (qc ac uc dc : Nat) (Q : List Qn) (A U D : List Rn) (w : World) (hl : LsAt w q0 a0 u0 d0 Q A U D) (hln : Q.length ≤ 1048576 ∧ A.length ≤ 1048576 ∧ U.length ≤ 1048576 ∧ D.length ≤ 1048576) :
    Calls Tryz.prog 23 #[.agg #[.int .i64 i0, .bool b1, .int .i64 i2, .bool b3, .bool b4, .bool b5, .bool b6, .bool b7, .bool b8, .int .i64 i9, .slice q0 Q.length qc, .slice a0 A.length ac, .slice u0 U.length uc, .slice d0 D.length dc]] w fun e w' => ∃ q1 a1 u1 d1 c1 ca cu cd, e = .returned (.agg #[.int .i64 i0, .bool b1, .int .i64 i2, .bool b3, .bool b4, .bool b5, .bool b6, .bool b7, .bool b8, .int .i64 i9, .slice q1 Q.length c1, .slice a1 A.length ca, .slice u1 U.length cu, .slice d1 D.length cd]) ∧ Mg4 w' w.heap.size (.slice q1 Q.length c1) (.slice a1 A.length ca) (.slice u1 U.length cu) (.slice d1 D.length cd) ⟨Q, A, U, D⟩ ∧ Below w.heap.size w w' := by
  obtain ⟨wr, hwr⟩ : ∃ wr, (w.alloc (.cells #[.int .i64 i0, .bool b1, .int .i64 i2, .bool b3, .bool b4, .bool b5, .bool b6, .bool b7, .bool b8, .int .i64 i9, .slice q0 Q.length qc, .slice a0 A.length ac, .slice u0 U.length uc, .slice d0 D.length dc] 27)).alloc (.cells #[.int .i64 0, .bool false, .int .i64 0, .bool false, .bool false, .bool false, .bool false, .bool false, .bool false, .int .i64 0, .slice none 0 0, .slice none 0 0, .slice none 0 0, .slice none 0 0] 27) = wr := ⟨_, rfl⟩
  have hwz : wr.heap.size = w.heap.size + 2 := by rw [← hwr]; simp
  have HX0 : Hid (Bx wr w.heap.size #[.int .i64 i0, .bool b1, .int .i64 i2, .bool b3, .bool b4, .bool b5, .bool b6, .bool b7, .bool b8, .int .i64 i9, .slice q0 Q.length qc, .slice a0 A.length ac, .slice u0 U.length uc, .slice d0 D.length dc] 27) := hwr ▸ Bx.grown (World.alloc_heap_new w _) (World.grownBy_alloc _ _ none) (by simp)
  have HR0 : Hid (Bx wr (w.heap.size + 1) #[.int .i64 0, .bool false, .int .i64 0, .bool false, .bool false, .bool false, .bool false, .bool false, .bool false, .int .i64 0, .slice none 0 0, .slice none 0 0, .slice none 0 0, .slice none 0 0] 27) := by
    have := World.alloc_heap_new (w.alloc (.cells #[.int .i64 i0, .bool b1, .int .i64 i2, .bool b3, .bool b4, .bool b5, .bool b6, .bool b7, .bool b8, .int .i64 i9, .slice q0 Q.length qc, .slice a0 A.length ac, .slice u0 U.length uc, .slice d0 D.length dc] 27)) (.cells #[.int .i64 0, .bool false, .int .i64 0, .bool false, .bool false, .bool false, .bool false, .bool false, .bool false, .int .i64 0, .slice none 0 0, .slice none 0 0, .slice none 0 0, .slice none 0 0] 27)
    rw [World.size_alloc] at this
    rw [← hwr]
    exact this
  have HB0 : Hid (Below w.heap.size w wr) := by rw [← hwr]; exact ((Below.refl _ w).alloc (Nat.le_refl _) _).alloc (by simp) _
  have HSz := hide' hwz
  clear hwz
  have HCQ : Hid (∀ V, Below w.heap.size w V → Calls Tryz.prog 45 #[.slice q0 Q.length qc] V fun r w' => (∃ v, r = .returned v ∧ w'.ownsRow V.heap.size 52 3 v Q.length (qce3 Q)) ∧ Below V.heap.size V w') := fun V hV => cloneQ_any Q q0 qc V hln.1 (hl.below hV).q
  have HCA : Hid (∀ V, Below w.heap.size w V → Calls Tryz.prog 46 #[.slice a0 A.length ac] V fun r w' => (∃ v, r = .returned v ∧ w'.ownsRow V.heap.size 55 5 v A.length (rce5 A)) ∧ Below V.heap.size V w') := fun V hV => cloneR_any A a0 ac V hln.2.1 (hl.below hV).a
  have HCU : Hid (∀ V, Below w.heap.size w V → Calls Tryz.prog 46 #[.slice u0 U.length uc] V fun r w' => (∃ v, r = .returned v ∧ w'.ownsRow V.heap.size 55 5 v U.length (rce5 U)) ∧ Below V.heap.size V w') := fun V hV => cloneR_any U u0 uc V hln.2.2.1 (hl.below hV).u
  have HCD : Hid (∀ V, Below w.heap.size w V → Calls Tryz.prog 46 #[.slice d0 D.length dc] V fun r w' => (∃ v, r = .returned v ∧ w'.ownsRow V.heap.size 55 5 v D.length (rce5 D)) ∧ Below V.heap.size V w') := fun V hV => cloneR_any D d0 dc V hln.2.2.2 (hl.below hV).d
  have HS0 : Hid (w.heap.size + 2 ≤ wr.heap.size) := Nat.le_of_eq HSz.out.symm
  have hz0 : wr.cell? ⟨w.heap.size, 10, none⟩ = some (.slice q0 Q.length qc) := HX0.out.cell rfl
  clear hl
  go_enter Tryz.func23, Tryz.ntmps23
  go_wp2_with (first
    | (go_at_call 45; (with_reducible refine (HCQ.out _ HB0.out).mono ?_); rintro e w1 ⟨⟨vx, rfl, ho⟩, hB⟩; obtain ⟨q1, c1, rfl, _⟩ := own_shape ho; obtain ⟨W1, hW1⟩ : ∃ W, w1.setCell ⟨w.heap.size, 10, none⟩ (.slice q1 Q.length c1) = W := ⟨_, rfl⟩; have hy1 : w1.cell? ⟨w.heap.size, 10, none⟩ = some (.slice q0 Q.length qc) := (HX0.out.below hB HX0.out.lt).cell rfl; have hf1 : w1.frozen? ⟨w.heap.size, 10, none⟩ = false := (HX0.out.below hB HX0.out.lt).free 10; have HX1 : Hid (Bx W1 w.heap.size #[.int .i64 i0, .bool b1, .int .i64 i2, .bool b3, .bool b4, .bool b5, .bool b6, .bool b7, .bool b8, .int .i64 i9, .slice q1 Q.length c1, .slice a0 A.length ac, .slice u0 U.length uc, .slice d0 D.length dc] 27) := bx_nextF HX0.out hB hW1; have HR1 : Hid (Bx W1 (w.heap.size + 1) #[.int .i64 0, .bool false, .int .i64 0, .bool false, .bool false, .bool false, .bool false, .bool false, .bool false, .int .i64 0, .slice none 0 0, .slice none 0 0, .slice none 0 0, .slice none 0 0] 27) := bx_farF HR0.out hB hW1 (Nat.ne_of_lt (Nat.lt_succ_self _)); have HB1 := hide' (bel_nextF HB0.out hB hW1); have Oq1 : Hid (W1.ownsRow (w.heap.size + 2) 52 3 (.slice q1 Q.length c1) Q.length (qce3 Q)) := own_setF (own_low ho HS0.out) hW1 (Nat.lt_succ_of_lt (Nat.lt_succ_self _)); have HS1 : Hid (w.heap.size + 2 ≤ W1.heap.size) := (hW1 ▸ (by rw [set_size]; exact Nat.le_trans HS0.out hB.size)); have hz1 : W1.cell? ⟨w.heap.size, 11, none⟩ = some (.slice a0 A.length ac) := HX1.out.cell rfl; clear hB ho)
    | (go_at_call 46; (with_reducible refine (HCA.out _ HB1.out).mono ?_); rintro e w2 ⟨⟨vx, rfl, ho⟩, hB⟩; obtain ⟨a1, ca, rfl, _⟩ := own_shape ho; obtain ⟨W2, hW2⟩ : ∃ W, w2.setCell ⟨w.heap.size, 11, none⟩ (.slice a1 A.length ca) = W := ⟨_, rfl⟩; have hy2 : w2.cell? ⟨w.heap.size, 11, none⟩ = some (.slice a0 A.length ac) := (HX1.out.below hB HX1.out.lt).cell rfl; have hf2 : w2.frozen? ⟨w.heap.size, 11, none⟩ = false := (HX1.out.below hB HX1.out.lt).free 11; have HX2 : Hid (Bx W2 w.heap.size #[.int .i64 i0, .bool b1, .int .i64 i2, .bool b3, .bool b4, .bool b5, .bool b6, .bool b7, .bool b8, .int .i64 i9, .slice q1 Q.length c1, .slice a1 A.length ca, .slice u0 U.length uc, .slice d0 D.length dc] 27) := bx_nextF HX1.out hB hW2; have HR2 : Hid (Bx W2 (w.heap.size + 1) #[.int .i64 0, .bool false, .int .i64 0, .bool false, .bool false, .bool false, .bool false, .bool false, .bool false, .int .i64 0, .slice none 0 0, .slice none 0 0, .slice none 0 0, .slice none 0 0] 27) := bx_farF HR1.out hB hW2 (Nat.ne_of_lt (Nat.lt_succ_self _)); have HB2 := hide' (bel_nextF HB1.out hB hW2); have Pqa := hide' (apart_new Oq1.out ho (Nat.le_refl _)); have Oq2 := hide' (own_nextF Oq1.out hB hW2 (Nat.lt_succ_of_lt (Nat.lt_succ_self _))); have Oa2 : Hid (W2.ownsRow (w.heap.size + 2) 55 5 (.slice a1 A.length ca) A.length (rce5 A)) := own_setF (own_low ho HS1.out) hW2 (Nat.lt_succ_of_lt (Nat.lt_succ_self _)); have HS2 : Hid (w.heap.size + 2 ≤ W2.heap.size) := (hW2 ▸ (by rw [set_size]; exact Nat.le_trans HS1.out hB.size)); have hz2 : W2.cell? ⟨w.heap.size, 12, none⟩ = some (.slice u0 U.length uc) := HX2.out.cell rfl; clear hB ho)
    | (go_at_call 46; (with_reducible refine (HCU.out _ HB2.out).mono ?_); rintro e w3 ⟨⟨vx, rfl, ho⟩, hB⟩; obtain ⟨u1, cu, rfl, _⟩ := own_shape ho; obtain ⟨W3, hW3⟩ : ∃ W, w3.setCell ⟨w.heap.size, 12, none⟩ (.slice u1 U.length cu) = W := ⟨_, rfl⟩; have hy3 : w3.cell? ⟨w.heap.size, 12, none⟩ = some (.slice u0 U.length uc) := (HX2.out.below hB HX2.out.lt).cell rfl; have hf3 : w3.frozen? ⟨w.heap.size, 12, none⟩ = false := (HX2.out.below hB HX2.out.lt).free 12; have HX3 : Hid (Bx W3 w.heap.size #[.int .i64 i0, .bool b1, .int .i64 i2, .bool b3, .bool b4, .bool b5, .bool b6, .bool b7, .bool b8, .int .i64 i9, .slice q1 Q.length c1, .slice a1 A.length ca, .slice u1 U.length cu, .slice d0 D.length dc] 27) := bx_nextF HX2.out hB hW3; have HR3 : Hid (Bx W3 (w.heap.size + 1) #[.int .i64 0, .bool false, .int .i64 0, .bool false, .bool false, .bool false, .bool false, .bool false, .bool false, .int .i64 0, .slice none 0 0, .slice none 0 0, .slice none 0 0, .slice none 0 0] 27) := bx_farF HR2.out hB hW3 (Nat.ne_of_lt (Nat.lt_succ_self _)); have HB3 := hide' (bel_nextF HB2.out hB hW3); have Pqu := hide' (apart_new Oq2.out ho (Nat.le_refl _)); have Oq3 := hide' (own_nextF Oq2.out hB hW3 (Nat.lt_succ_of_lt (Nat.lt_succ_self _))); have Pau := hide' (apart_new Oa2.out ho (Nat.le_refl _)); have Oa3 := hide' (own_nextF Oa2.out hB hW3 (Nat.lt_succ_of_lt (Nat.lt_succ_self _))); have Ou3 : Hid (W3.ownsRow (w.heap.size + 2) 55 5 (.slice u1 U.length cu) U.length (rce5 U)) := own_setF (own_low ho HS2.out) hW3 (Nat.lt_succ_of_lt (Nat.lt_succ_self _)); have HS3 : Hid (w.heap.size + 2 ≤ W3.heap.size) := (hW3 ▸ (by rw [set_size]; exact Nat.le_trans HS2.out hB.size)); have hz3 : W3.cell? ⟨w.heap.size, 13, none⟩ = some (.slice d0 D.length dc) := HX3.out.cell rfl; clear hB ho)
    | (go_at_call 46; (with_reducible refine (HCD.out _ HB3.out).mono ?_); rintro e w4 ⟨⟨vx, rfl, ho⟩, hB⟩; obtain ⟨d1, cd, rfl, _⟩ := own_shape ho; obtain ⟨W4, hW4⟩ : ∃ W, w4.setCell ⟨w.heap.size, 13, none⟩ (.slice d1 D.length cd) = W := ⟨_, rfl⟩; have hy4 : w4.cell? ⟨w.heap.size, 13, none⟩ = some (.slice d0 D.length dc) := (HX3.out.below hB HX3.out.lt).cell rfl; have hf4 : w4.frozen? ⟨w.heap.size, 13, none⟩ = false := (HX3.out.below hB HX3.out.lt).free 13; have HX4 : Hid (Bx W4 w.heap.size #[.int .i64 i0, .bool b1, .int .i64 i2, .bool b3, .bool b4, .bool b5, .bool b6, .bool b7, .bool b8, .int .i64 i9, .slice q1 Q.length c1, .slice a1 A.length ca, .slice u1 U.length cu, .slice d1 D.length cd] 27) := bx_nextF HX3.out hB hW4; have HR4 : Hid (Bx W4 (w.heap.size + 1) #[.int .i64 0, .bool false, .int .i64 0, .bool false, .bool false, .bool false, .bool false, .bool false, .bool false, .int .i64 0, .slice none 0 0, .slice none 0 0, .slice none 0 0, .slice none 0 0] 27) := bx_farF HR3.out hB hW4 (Nat.ne_of_lt (Nat.lt_succ_self _)); have HB4 := hide' (bel_nextF HB3.out hB hW4); have Pqd := hide' (apart_new Oq3.out ho (Nat.le_refl _)); have Oq4 := hide' (own_nextF Oq3.out hB hW4 (Nat.lt_succ_of_lt (Nat.lt_succ_self _))); have Pad := hide' (apart_new Oa3.out ho (Nat.le_refl _)); have Oa4 := hide' (own_nextF Oa3.out hB hW4 (Nat.lt_succ_of_lt (Nat.lt_succ_self _))); have Pud := hide' (apart_new Ou3.out ho (Nat.le_refl _)); have Ou4 := hide' (own_nextF Ou3.out hB hW4 (Nat.lt_succ_of_lt (Nat.lt_succ_self _))); have Od4 : Hid (W4.ownsRow (w.heap.size + 2) 55 5 (.slice d1 D.length cd) D.length (rce5 D)) := own_setF (own_low ho HS3.out) hW4 (Nat.lt_succ_of_lt (Nat.lt_succ_self _)); have HS4 : Hid (w.heap.size + 2 ≤ W4.heap.size) := (hW4 ▸ (by rw [set_size]; exact Nat.le_trans HS3.out hB.size)); obtain ⟨x0, x1, x2, x3, x4, x5, x6, x7, x8, x9, x10, x11, x12, x13⟩ := bx14 HX4.out; obtain ⟨r0, r1, r2, r3, r4, r5, r6, r7, r8, r9, r10, r11, r12, r13⟩ := bx14 HR4.out; obtain ⟨f0, f1, f2, f3, f4, f5, f6, f7, f8, f9, f10, f11, f12, f13⟩ := bx14_free HR4.out; obtain ⟨W5, hW5⟩ : ∃ W, set14 W4 (w.heap.size + 1) (.int .i64 i0) (.bool b1) (.int .i64 i2) (.bool b3) (.bool b4) (.bool b5) (.bool b6) (.bool b7) (.bool b8) (.int .i64 i9) (.slice q1 Q.length c1) (.slice a1 A.length ca) (.slice u1 U.length cu) (.slice d1 D.length cd) = W := ⟨_, rfl⟩; have HY5 : Hid (Bx W5 (w.heap.size + 1) #[.int .i64 i0, .bool b1, .int .i64 i2, .bool b3, .bool b4, .bool b5, .bool b6, .bool b7, .bool b8, .int .i64 i9, .slice q1 Q.length c1, .slice a1 A.length ca, .slice u1 U.length cu, .slice d1 D.length cd] 27) := (hW5 ▸ bx14_set HR4.out (.int .i64 i0) (.bool b1) (.int .i64 i2) (.bool b3) (.bool b4) (.bool b5) (.bool b6) (.bool b7) (.bool b8) (.int .i64 i9) (.slice q1 Q.length c1) (.slice a1 A.length ca) (.slice u1 U.length cu) (.slice d1 D.length cd)); have HB5 : Hid (Below w.heap.size w W5) := (hW5 ▸ below14 HB4.out (Nat.le_succ _) HB4.out.size (.int .i64 i0) (.bool b1) (.int .i64 i2) (.bool b3) (.bool b4) (.bool b5) (.bool b6) (.bool b7) (.bool b8) (.int .i64 i9) (.slice q1 Q.length c1) (.slice a1 A.length ca) (.slice u1 U.length cu) (.slice d1 D.length cd)); have HG5 : Hid (W4.grownBy W5 (some (w.heap.size + 1))) := (hW5 ▸ grown14 W4 (w.heap.size + 1) (.int .i64 i0) (.bool b1) (.int .i64 i2) (.bool b3) (.bool b4) (.bool b5) (.bool b6) (.bool b7) (.bool b8) (.int .i64 i9) (.slice q1 Q.length c1) (.slice a1 A.length ca) (.slice u1 U.length cu) (.slice d1 D.length cd)); unfold set14 at hW5; clear hB ho))
  obtain ⟨t0, t1, t2, t3, t4, t5, t6, t7, t8, t9, t10, t11, t12, t13⟩ := bx14 HY5.out
  exact bodyPost_ret (v := .agg #[.int .i64 i0, .bool b1, .int .i64 i2, .bool b3, .bool b4, .bool b5, .bool b6, .bool b7, .bool b8, .int .i64 i9, .slice q1 Q.length c1, .slice a1 A.length ca, .slice u1 U.length cu, .slice d1 D.length cd]) (by simp [results, go_sem, t0, t1, t2, t3, t4, t5, t6, t7, t8, t9, t10, t11, t12, t13]) rfl ⟨q1, a1, u1, d1, c1, ca, cu, cd, rfl, ⟨own_low (own_keep Oq4.out HG5.out (fun q e => by injection e with e; omega)) (by omega), own_low (own_keep Oa4.out HG5.out (fun q e => by injection e with e; omega)) (by omega), own_low (own_keep Ou4.out HG5.out (fun q e => by injection e with e; omega)) (by omega), own_low (own_keep Od4.out HG5.out (fun q e => by injection e with e; omega)) (by omega), Pqa.out, Pqu.out, Pqd.out, Pau.out, Pad.out, Pud.out⟩, HB5.out⟩
end Go.Proofs.YtligjbcinahgdaaGreat
