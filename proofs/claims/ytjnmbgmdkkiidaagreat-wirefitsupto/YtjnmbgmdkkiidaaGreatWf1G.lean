import Derived.Test.YtjnmbgmdkkiidaaGreatSm4G
import Derived.Test.YtjnmbgmdkkiidaaGreatFw1G
import Derived.Test.YtjnmbgmdkkiidaaGreatFy6G
import Derived.Test.YtjnmbgmdkkiidaaGreatPk14G
import Derived.Test.YtjnmbgmdkkiidaaGreatFr0G
/-
  The law WireFits, case by case. (The verifier's own text.)
-/
namespace Go.Proofs.YtjnmbgmdkkiidaaGreat
set_option linter.unusedVariables false
open Go.RowKit Go.Shelf Go.Maps Go.Proofs.YtjnmbgmdkkiidaaGreat.Nm

set_option maxRecDepth 100000 in
set_option maxHeartbeats 2000000 in
/-- wire.Fit, of what is no message -/
theorem fit_none (i0 i2 i9 : Int) (b1 b3 b4 b5 b6 b7 b8 : Bool) (q0 a0 u0 d0 : Option Addr) (qc ac uc dc : Nat) (Q : List Qn) (A U D : List Rn) (limit : Int) (w : World) (hl : LsAt w q0 a0 u0 d0 Q A U D) (hm : msgOK i0 i2 i9 Q A U D = false) :
    Calls Tryz.prog 12 #[.agg #[.int .i64 i0, .bool b1, .int .i64 i2, .bool b3, .bool b4, .bool b5, .bool b6, .bool b7, .bool b8, .int .i64 i9, .slice q0 Q.length qc, .slice a0 A.length ac, .slice u0 U.length uc, .slice d0 D.length dc], .int .i64 limit] w fun e w' => e = .returned (.tuple #[.agg #[.int .i64 0, .bool false, .int .i64 0, .bool false, .bool false, .bool false, .bool false, .bool false, .bool false, .int .i64 0, .slice none 0 0, .slice none 0 0, .slice none 0 0, .slice none 0 0], .int .i64 8]) ∧ Below w.heap.size w w' := by
  obtain ⟨wz, hwz⟩ : ∃ wr, (w.alloc (.cells #[.int .i64 i0, .bool b1, .int .i64 i2, .bool b3, .bool b4, .bool b5, .bool b6, .bool b7, .bool b8, .int .i64 i9, .slice q0 Q.length qc, .slice a0 A.length ac, .slice u0 U.length uc, .slice d0 D.length dc] 25)).alloc (.cells #[.int .i64 0, .bool false, .int .i64 0, .bool false, .bool false, .bool false, .bool false, .bool false, .bool false, .int .i64 0, .slice none 0 0, .slice none 0 0, .slice none 0 0, .slice none 0 0] 25) = wr := ⟨_, rfl⟩
  have HX : Hid (Bx wz w.heap.size #[.int .i64 i0, .bool b1, .int .i64 i2, .bool b3, .bool b4, .bool b5, .bool b6, .bool b7, .bool b8, .int .i64 i9, .slice q0 Q.length qc, .slice a0 A.length ac, .slice u0 U.length uc, .slice d0 D.length dc] 25) := hwz ▸ Bx.grown (World.alloc_heap_new w _) (World.grownBy_alloc _ _ none) (by simp)
  have HR : Hid (Bx wz (w.heap.size + 1) #[.int .i64 0, .bool false, .int .i64 0, .bool false, .bool false, .bool false, .bool false, .bool false, .bool false, .int .i64 0, .slice none 0 0, .slice none 0 0, .slice none 0 0, .slice none 0 0] 25) := by
    have := World.alloc_heap_new (w.alloc (.cells #[.int .i64 i0, .bool b1, .int .i64 i2, .bool b3, .bool b4, .bool b5, .bool b6, .bool b7, .bool b8, .int .i64 i9, .slice q0 Q.length qc, .slice a0 A.length ac, .slice u0 U.length uc, .slice d0 D.length dc] 25)) (.cells #[.int .i64 0, .bool false, .int .i64 0, .bool false, .bool false, .bool false, .bool false, .bool false, .bool false, .int .i64 0, .slice none 0 0, .slice none 0 0, .slice none 0 0, .slice none 0 0] 25)
    rw [World.size_alloc] at this
    rw [← hwz]
    exact this
  have HB : Hid (Below w.heap.size w wz) := by rw [← hwz]; exact ((Below.refl _ w).alloc (Nat.le_refl _) _).alloc (by simp) _
  have HW := hide' hl
  obtain ⟨x0, x1, x2, x3, x4, x5, x6, x7, x8, x9, x10, x11, x12, x13⟩ := bx14 HX.out
  clear hl
  go_enter Tryz.func12, Tryz.ntmps12
  go_wp2_with (go_at_call 10; refine (wcheck_any i0 i2 i9 b1 b3 b4 b5 b6 b7 b8 q0 a0 u0 d0 qc ac uc dc Q A U D _ (HW.out.below HB.out)).mono ?_; rintro e w1 ⟨he, hB⟩; rw [if_neg (by rw [hm]; decide)] at he; subst he; have HR1 : Hid (Bx w1 (w.heap.size + 1) #[.int .i64 0, .bool false, .int .i64 0, .bool false, .bool false, .bool false, .bool false, .bool false, .bool false, .int .i64 0, .slice none 0 0, .slice none 0 0, .slice none 0 0, .slice none 0 0] 25) := HR.out.below hB HR.out.lt; have HB1 := hide' (bstep HB.out hB HB.out.size); clear hB x0 x1 x2 x3 x4 x5 x6 x7 x8 x9 x10 x11 x12 x13; obtain ⟨r0, r1, r2, r3, r4, r5, r6, r7, r8, r9, r10, r11, r12, r13⟩ := bx14 HR1.out; obtain ⟨f0, f1, f2, f3, f4, f5, f6, f7, f8, f9, f10, f11, f12, f13⟩ := bx14_free2 HR1.out)
  obtain ⟨t0, t1, t2, t3, t4, t5, t6, t7, t8, t9, t10, t11, t12, t13⟩ := bx14 (bx14_set HR1.out (.int .i64 0) (.bool false) (.int .i64 0) (.bool false) (.bool false) (.bool false) (.bool false) (.bool false) (.bool false) (.int .i64 0) (.slice none 0 0) (.slice none 0 0) (.slice none 0 0) (.slice none 0 0))
  unfold set14 at t0 t1 t2 t3 t4 t5 t6 t7 t8 t9 t10 t11 t12 t13
  exact bodyPost_ret (v := .tuple #[.agg #[.int .i64 0, .bool false, .int .i64 0, .bool false, .bool false, .bool false, .bool false, .bool false, .bool false, .int .i64 0, .slice none 0 0, .slice none 0 0, .slice none 0 0, .slice none 0 0], .int .i64 8]) (by simp [results, go_sem, t0, t1, t2, t3, t4, t5, t6, t7, t8, t9, t10, t11, t12, t13]) rfl ⟨rfl, below14 HB1.out (by omega) HB1.out.size (.int .i64 0) (.bool false) (.int .i64 0) (.bool false) (.bool false) (.bool false) (.bool false) (.bool false) (.bool false) (.int .i64 0) (.slice none 0 0) (.slice none 0 0) (.slice none 0 0) (.slice none 0 0)⟩

set_option maxRecDepth 100000 in
set_option maxHeartbeats 4000000 in
/-- gazetteerref2.FitMessage, of what is no message -/
theorem fitm_no (i0 i2 i9 : Int) (b1 b3 b4 b5 b6 b7 b8 : Bool) (q0 a0 u0 d0 : Option Addr) (qc ac uc dc : Nat) (Q : List Qn) (A U D : List Rn) (limit : Int) (w : World) (hl : LsAt w q0 a0 u0 d0 Q A U D) (hz : ZOk Q A U D) (hln : Q.length ≤ maxLen ∧ A.length ≤ maxLen ∧ U.length ≤ maxLen ∧ D.length ≤ maxLen) (hm : msgOK i0 i2 i9 Q A U D = false) :
    Calls Tryz.prog 13 #[.agg #[.int .i64 i0, .bool b1, .int .i64 i2, .bool b3, .bool b4, .bool b5, .bool b6, .bool b7, .bool b8, .int .i64 i9, .slice q0 Q.length qc, .slice a0 A.length ac, .slice u0 U.length uc, .slice d0 D.length dc], .int .i64 limit] w fun e w' => e = .returned (.tuple #[.agg #[.int .i64 0, .bool false, .int .i64 0, .bool false, .bool false, .bool false, .bool false, .bool false, .bool false, .int .i64 0, .slice none 0 0, .slice none 0 0, .slice none 0 0, .slice none 0 0], .int .i64 8]) ∧ Below w.heap.size w w' := by
  obtain ⟨wz, hwz⟩ : ∃ wr, (w.alloc (.cells #[.int .i64 i0, .bool b1, .int .i64 i2, .bool b3, .bool b4, .bool b5, .bool b6, .bool b7, .bool b8, .int .i64 i9, .slice q0 Q.length qc, .slice a0 A.length ac, .slice u0 U.length uc, .slice d0 D.length dc] 25)).alloc (.cells #[.int .i64 0, .bool false, .int .i64 0, .bool false, .bool false, .bool false, .bool false, .bool false, .bool false, .int .i64 0, .slice none 0 0, .slice none 0 0, .slice none 0 0, .slice none 0 0] 25) = wr := ⟨_, rfl⟩
  have HX : Hid (Bx wz w.heap.size #[.int .i64 i0, .bool b1, .int .i64 i2, .bool b3, .bool b4, .bool b5, .bool b6, .bool b7, .bool b8, .int .i64 i9, .slice q0 Q.length qc, .slice a0 A.length ac, .slice u0 U.length uc, .slice d0 D.length dc] 25) := hwz ▸ Bx.grown (World.alloc_heap_new w _) (World.grownBy_alloc _ _ none) (by simp)
  have HR : Hid (Bx wz (w.heap.size + 1) #[.int .i64 0, .bool false, .int .i64 0, .bool false, .bool false, .bool false, .bool false, .bool false, .bool false, .int .i64 0, .slice none 0 0, .slice none 0 0, .slice none 0 0, .slice none 0 0] 25) := by
    have := World.alloc_heap_new (w.alloc (.cells #[.int .i64 i0, .bool b1, .int .i64 i2, .bool b3, .bool b4, .bool b5, .bool b6, .bool b7, .bool b8, .int .i64 i9, .slice q0 Q.length qc, .slice a0 A.length ac, .slice u0 U.length uc, .slice d0 D.length dc] 25)) (.cells #[.int .i64 0, .bool false, .int .i64 0, .bool false, .bool false, .bool false, .bool false, .bool false, .bool false, .int .i64 0, .slice none 0 0, .slice none 0 0, .slice none 0 0, .slice none 0 0] 25)
    rw [World.size_alloc] at this
    rw [← hwz]
    exact this
  have HB : Hid (Below w.heap.size w wz) := by rw [← hwz]; exact ((Below.refl _ w).alloc (Nat.le_refl _) _).alloc (by simp) _
  have HC := hide' (refCheck_any i0 i2 i9 b1 b3 b4 b5 b6 b7 b8 q0 a0 u0 d0 qc ac uc dc Q A U D wz (hl.below HB.out) hz hln)
  rw [hm] at HC
  obtain ⟨y0, y1, y2, y3, y4, y5, y6, y7, y8, y9, y10, y11, y12, y13⟩ := bx14 HX.out
  clear hl hz hln
  go_enter Tryz.func13, Tryz.ntmps13
  go_wp2_with (go_at_call 11; refine HC.out.mono ?_; rintro e w1 ⟨rfl, hB⟩; have HB1 := hide' (bstep HB.out hB HB.out.size); have HR1 : Hid (Bx w1 (w.heap.size + 1) #[.int .i64 0, .bool false, .int .i64 0, .bool false, .bool false, .bool false, .bool false, .bool false, .bool false, .int .i64 0, .slice none 0 0, .slice none 0 0, .slice none 0 0, .slice none 0 0] 25) := HR.out.below hB HR.out.lt; clear hB y0 y1 y2 y3 y4 y5 y6 y7 y8 y9 y10 y11 y12 y13; unfold chkV; rw [if_neg (by decide)]; obtain ⟨r0, r1, r2, r3, r4, r5, r6, r7, r8, r9, r10, r11, r12, r13⟩ := bx14 HR1.out; obtain ⟨f0, f1, f2, f3, f4, f5, f6, f7, f8, f9, f10, f11, f12, f13⟩ := bx14_free2 HR1.out)
  obtain ⟨t0, t1, t2, t3, t4, t5, t6, t7, t8, t9, t10, t11, t12, t13⟩ := bx14 (bx14_set HR1.out (.int .i64 0) (.bool false) (.int .i64 0) (.bool false) (.bool false) (.bool false) (.bool false) (.bool false) (.bool false) (.int .i64 0) (.slice none 0 0) (.slice none 0 0) (.slice none 0 0) (.slice none 0 0))
  unfold set14 at t0 t1 t2 t3 t4 t5 t6 t7 t8 t9 t10 t11 t12 t13
  exact bodyPost_ret (v := .tuple #[.agg #[.int .i64 0, .bool false, .int .i64 0, .bool false, .bool false, .bool false, .bool false, .bool false, .bool false, .int .i64 0, .slice none 0 0, .slice none 0 0, .slice none 0 0, .slice none 0 0], .int .i64 8]) (by simp [results, go_sem, t0, t1, t2, t3, t4, t5, t6, t7, t8, t9, t10, t11, t12, t13]) rfl ⟨rfl, below14 HB1.out (by omega) HB1.out.size (.int .i64 0) (.bool false) (.int .i64 0) (.bool false) (.bool false) (.bool false) (.bool false) (.bool false) (.bool false) (.int .i64 0) (.slice none 0 0) (.slice none 0 0) (.slice none 0 0) (.slice none 0 0)⟩

theorem mg4_nil (w : World) (n : Nat) : Mg4 w n (.slice none 0 0) (.slice none 0 0) (.slice none 0 0) (.slice none 0 0) ⟨[], [], [], []⟩ :=
  ⟨World.ownsRow_nil _ _ _ _, World.ownsRow_nil _ _ _ _, World.ownsRow_nil _ _ _ _, World.ownsRow_nil _ _ _ _, apart_nil _, apart_nil _, apart_nil _, apart_nil _, apart_nil _, apart_nil _⟩
theorem ms4_nil (w : World) : Ms4 w none none none none ⟨[], [], [], []⟩ := ⟨fun k hk => absurd hk (Nat.not_lt_zero _), fun k hk => absurd hk (Nat.not_lt_zero _), fun k hk => absurd hk (Nat.not_lt_zero _), fun k hk => absurd hk (Nat.not_lt_zero _)⟩
/-- what came in and what was made, however things went on -/
theorem keep_in {w W w' W' : World} {q0 a0 u0 d0 : Option Addr} {Q : List Qn} {A U D : List Rn} (hl : LsAt w q0 a0 u0 d0 Q A U D) (hW : Below w.heap.size w W) (hB : Below W.heap.size W w') (hK : Keeps w.heap.size W.heap.size w' W') : LsAt W' q0 a0 u0 d0 Q A U D :=
  hl.below ⟨hK.os.trans (hB.os.trans hW.os), hK.tape.trans (hB.tape.trans hW.tape), hK.output.trans (hB.output.trans hW.output), Nat.le_trans hW.size (Nat.le_trans hB.size hK.size), fun k hk => (hK.block k (Nat.lt_of_lt_of_le hk (Nat.le_trans hW.size hB.size)) (.inl hk)).trans ((hB.block k (Nat.lt_of_lt_of_le hk hW.size)).trans (hW.block k hk))⟩
theorem keep_row {w W w' W' : World} {e s n : Nat} {v : Value} {xs : List Value} (ho : w'.ownsRow W.heap.size e s v n xs) (hK : Keeps w.heap.size W.heap.size w' W') : W'.ownsRow W.heap.size e s v n xs :=
  own_blk ho (fun x hx => hK.block x (ho.lt x hx).2 (.inr (ho.lt x hx).1))
theorem fit_uniq {p : List Rn → Prop} {D : List Rn} {f f2 : Nat} (hf : f ≤ D.length) (hf2 : f2 ≤ D.length) (h1 : p (dropF D f)) (h2 : p (dropF D f2)) (n1 : ∀ j, j ≤ D.length → cp (D.drop j) < cp (D.drop f) → ¬ p (dropF D j)) (n2 : ∀ j, j ≤ D.length → cp (D.drop j) < cp (D.drop f2) → ¬ p (dropF D j)) : dropF D f2 = dropF D f := by
  have a1 : ¬ cp (D.drop f2) < cp (D.drop f) := fun h => n1 f2 hf2 h h2
  have a2 : ¬ cp (D.drop f) < cp (D.drop f2) := fun h => n2 f hf h h1
  by_cases h : f ≤ f2
  · exact dropF_same D f f2 h (by omega)
  · exact (dropF_same D f2 f (by omega) (by omega)).symm
theorem ex_least {p : Nat → Prop} {g : Nat → Nat} {n : Nat} : ∀ (m : Nat), (∃ f, f ≤ n ∧ p f ∧ g f ≤ m) → ∃ f, f ≤ n ∧ p f ∧ ∀ j, j ≤ n → g j < g f → ¬ p j := by
  intro m
  induction m with
  | zero => rintro ⟨f, h1, h2, h3⟩; exact ⟨f, h1, h2, fun j _ hj => by omega⟩
  | succ m ih =>
    rintro ⟨f, h1, h2, h3⟩
    by_cases h : ∃ j, j ≤ n ∧ p j ∧ g j < g f
    · obtain ⟨j, a, b, c⟩ := h
      exact ih ⟨j, a, b, by omega⟩
    · exact ⟨f, h1, h2, fun j a c b => h ⟨j, a, b, c⟩⟩

set_option maxRecDepth 100000 in
theorem fits_no (i0 i2 i9 : Int) (b1 b3 b4 b5 b6 b7 b8 : Bool) (q0 a0 u0 d0 : Option Addr) (qc ac uc dc : Nat) (Q : List Qn) (A U D : List Rn) (limit : Int) (w : World) (hl : LsAt w q0 a0 u0 d0 Q A U D) (hz : ZOk Q A U D) (hnq : q0 = none → qc = 0) (hn : (a0 = none → ac = 0) ∧ (u0 = none → uc = 0) ∧ (d0 = none → dc = 0)) (hln : Q.length ≤ 1048576 ∧ A.length ≤ 1048576 ∧ U.length ≤ 1048576 ∧ D.length ≤ 1048576) (hlo : -9223372036854775808 ≤ limit) (hm : msgOK i0 i2 i9 Q A U D = false) :
    Calls Tryz.prog 4 #[.agg #[.int .i64 i0, .bool b1, .int .i64 i2, .bool b3, .bool b4, .bool b5, .bool b6, .bool b7, .bool b8, .int .i64 i9, .slice q0 Q.length qc, .slice a0 A.length ac, .slice u0 U.length uc, .slice d0 D.length dc], .int .i64 limit] w fun e w' => e = .returned (.bool true) ∧ Below w.heap.size w w' := by
  have hlx : Q.length ≤ maxLen ∧ A.length ≤ maxLen ∧ U.length ≤ maxLen ∧ D.length ≤ maxLen := by have := hln; unfold maxLen; omega
  refine fits_law i0 i2 i9 b1 b3 b4 b5 b6 b7 b8 q0 a0 u0 d0 qc ac uc dc Q A U D limit w hl hnq hn hln 0 0 0 false false false false false false false 8 ⟨[], [], [], []⟩ ⟨Nat.zero_le _, Nat.zero_le _, Nat.zero_le _, Nat.zero_le _⟩ ?_ ?_
  · intro W q1 ga gu gd c1 ca cu cd h
    refine (fit_none i0 i2 i9 b1 b3 b4 b5 b6 b7 b8 q1 _ _ _ c1 ca cu cd Q A U D limit W h hm).mono ?_
    rintro e w' ⟨rfl, hB⟩
    exact ⟨none, none, none, none, 0, 0, 0, 0, rfl, mg4_nil _ _, hB⟩
  · intro W hW
    refine (fitm_no i0 i2 i9 b1 b3 b4 b5 b6 b7 b8 q0 a0 u0 d0 qc ac uc dc Q A U D limit W (hl.below hW) hz hlx hm).mono ?_
    rintro e w' ⟨rfl, hB⟩
    exact ⟨none, none, none, none, 0, 0, 0, 0, rfl, fun W' _ => ms4_nil W', hB⟩
set_option maxRecDepth 100000 in
theorem fits_yes (i0 i2 i9 : Nat) (b1 b3 b4 b5 b6 b7 b8 : Bool) (q0 a0 u0 d0 : Option Addr) (qc ac uc dc : Nat) (Q : List Qn) (A U D : List Rn) (limit : Int) (w : World) (hl : LsAt w q0 a0 u0 d0 Q A U D) (hz : ZOk Q A U D) (hnq : q0 = none → qc = 0) (hn : (a0 = none → ac = 0) ∧ (u0 = none → uc = 0) ∧ (d0 = none → dc = 0)) (hln : Q.length ≤ 1048576 ∧ A.length ≤ 1048576 ∧ U.length ≤ 1048576 ∧ D.length ≤ 1048576) (hlo : -9223372036854775808 ≤ limit) (hm : msgOK i0 i2 i9 Q A U D = true) (most : Int) (hmo : min limit 65535 = most) (f : Nat) (hf : f ≤ D.length) (hok : okD most i0 i2 i9 b1 b3 b4 b5 b6 b7 b8 Q A U (dropF D f)) (hnx : (∀ j, j ≤ D.length → cp (D.drop j) < cp (D.drop f) → ¬ okD most i0 i2 i9 b1 b3 b4 b5 b6 b7 b8 Q A U (dropF D j))) :
    Calls Tryz.prog 4 #[.agg #[.int .i64 (i0 : Int), .bool b1, .int .i64 (i2 : Int), .bool b3, .bool b4, .bool b5, .bool b6, .bool b7, .bool b8, .int .i64 (i9 : Int), .slice q0 Q.length qc, .slice a0 A.length ac, .slice u0 U.length uc, .slice d0 D.length dc], .int .i64 limit] w fun e w' => e = .returned (.bool true) ∧ Below w.heap.size w w' := by
  obtain ⟨_, _, _, lq, la, lu, ld, _⟩ := msgOK_parts hm
  have ldf : (dropF D f).length ≤ D.length := dropF_le D f
  refine fits_law (i0 : Int) (i2 : Int) (i9 : Int) b1 b3 b4 b5 b6 b7 b8 q0 a0 u0 d0 qc ac uc dc Q A U D limit w hl hnq hn hln (i0 : Int) (i2 : Int) (i9 : Int) b1 b3 b4 b5 b6 b7 b8 0 ⟨Q, A, U, dropF D f⟩ ⟨lq, la, lu, Nat.le_trans ldf ld⟩ ?_ ?_
  · intro W q1 ga gu gd c1 ca cu cd h
    refine (fit_full i0 i2 i9 b1 b3 b4 b5 b6 b7 b8 q1 _ _ _ c1 ca cu cd Q A U D limit W h hm hlo).mono ?_
    rw [hmo]
    rintro e w' (⟨q2, a2, u2, d2, qc2, ac2, uc2, cd2, Dk, f2, rfl, _, hf2, rfl, hok2, hnx2, hmg, hB⟩ | ⟨_, _, _, _, _, _, _, _, _, hall, _⟩ | ⟨_, _, hall, _⟩)
    · have he := fit_uniq (p := fun L => okD most i0 i2 i9 b1 b3 b4 b5 b6 b7 b8 Q A U L) hf hf2 hok hok2 hnx hnx2
      rw [he] at hmg ⊢
      exact ⟨q2, a2, u2, d2, qc2, ac2, uc2, cd2, rfl, hmg.low (by omega), hB⟩
    · exact absurd hok (hall f hf)
    · exact absurd hok (hall f hf)
  · intro W hW
    refine (fitm_yes i0 i2 i9 b1 b3 b4 b5 b6 b7 b8 q0 a0 u0 d0 qc ac uc dc Q A U D limit W (hl.below hW) hz hn hm most hmo f hf hok hnx).mono ?_
    rintro e w' ⟨q, c, rfl, ho, hB⟩
    refine ⟨q0, a0, u0, q, qc, ac, uc, c, rfl, fun W' hK => ?_, hB⟩
    have hl2 := keep_in hl hW hB hK
    exact ⟨hl2.q, hl2.a, hl2.u, rsAt_ownW (keep_row ho hK) rfl⟩
set_option maxRecDepth 100000 in
theorem fits_cut (i0 i2 i9 : Nat) (b1 b3 b4 b5 b6 b7 b8 : Bool) (q0 a0 u0 d0 : Option Addr) (qc ac uc dc : Nat) (Q : List Qn) (A U D : List Rn) (limit : Int) (w : World) (hl : LsAt w q0 a0 u0 d0 Q A U D) (hz : ZOk Q A U D) (hnq : q0 = none → qc = 0) (hn : (a0 = none → ac = 0) ∧ (u0 = none → uc = 0) ∧ (d0 = none → dc = 0)) (hln : Q.length ≤ 1048576 ∧ A.length ≤ 1048576 ∧ U.length ≤ 1048576 ∧ D.length ≤ 1048576) (hlo : -9223372036854775808 ≤ limit) (hm : msgOK i0 i2 i9 Q A U D = true) (most : Int) (hmo : min limit 65535 = most) (hcut : okD most i0 i2 i9 b1 b3 true b5 b6 b7 b8 Q [] [] (dropF D 0)) (hall : (∀ j, j ≤ D.length → ¬ okD most i0 i2 i9 b1 b3 b4 b5 b6 b7 b8 Q A U (dropF D j))) :
    Calls Tryz.prog 4 #[.agg #[.int .i64 (i0 : Int), .bool b1, .int .i64 (i2 : Int), .bool b3, .bool b4, .bool b5, .bool b6, .bool b7, .bool b8, .int .i64 (i9 : Int), .slice q0 Q.length qc, .slice a0 A.length ac, .slice u0 U.length uc, .slice d0 D.length dc], .int .i64 limit] w fun e w' => e = .returned (.bool true) ∧ Below w.heap.size w w' := by
  obtain ⟨_, _, _, lq, la, lu, ld, _⟩ := msgOK_parts hm
  have ldf : (dropF D 0).length ≤ D.length := dropF_le D 0
  refine fits_law (i0 : Int) (i2 : Int) (i9 : Int) b1 b3 b4 b5 b6 b7 b8 q0 a0 u0 d0 qc ac uc dc Q A U D limit w hl hnq hn hln (i0 : Int) (i2 : Int) (i9 : Int) b1 b3 true b5 b6 b7 b8 0 ⟨Q, [], [], dropF D 0⟩ ⟨lq, Nat.zero_le _, Nat.zero_le _, Nat.le_trans ldf ld⟩ ?_ ?_
  · intro W q1 ga gu gd c1 ca cu cd h
    refine (fit_full i0 i2 i9 b1 b3 b4 b5 b6 b7 b8 q1 _ _ _ c1 ca cu cd Q A U D limit W h hm hlo).mono ?_
    rw [hmo]
    rintro e w' (⟨q2, a2, u2, d2, qc2, ac2, uc2, cd2, Dk, f2, rfl, _, hf2, rfl, hok2, hnx2, hmg, hB⟩ | ⟨q2, d2, qc2, cd2, Dk, rfl, _, rfl, hok2, _, hmg, hB⟩ | ⟨_, hno, _, _⟩)
    · exact absurd hok2 (hall f2 hf2)
    · exact ⟨q2, none, none, d2, qc2, 0, 0, cd2, rfl, hmg.low (by omega), hB⟩
    · exact absurd hcut hno
  · intro W hW
    refine (fitm_cut i0 i2 i9 b1 b3 b4 b5 b6 b7 b8 q0 a0 u0 d0 qc ac uc dc Q A U D limit W (hl.below hW) hz hn hm most hmo hcut hall).mono ?_
    rintro e w' ⟨q, c, rfl, ho, hB⟩
    refine ⟨q0, none, none, q, qc, 0, 0, c, rfl, fun W' hK => ?_, hB⟩
    have hl2 := keep_in hl hW hB hK
    exact ⟨hl2.q, fun k hk => absurd hk (Nat.not_lt_zero _), fun k hk => absurd hk (Nat.not_lt_zero _), rsAt_ownW (keep_row ho hK) rfl⟩
set_option maxRecDepth 100000 in
theorem fits_none (i0 i2 i9 : Nat) (b1 b3 b4 b5 b6 b7 b8 : Bool) (q0 a0 u0 d0 : Option Addr) (qc ac uc dc : Nat) (Q : List Qn) (A U D : List Rn) (limit : Int) (w : World) (hl : LsAt w q0 a0 u0 d0 Q A U D) (hz : ZOk Q A U D) (hnq : q0 = none → qc = 0) (hn : (a0 = none → ac = 0) ∧ (u0 = none → uc = 0) ∧ (d0 = none → dc = 0)) (hln : Q.length ≤ 1048576 ∧ A.length ≤ 1048576 ∧ U.length ≤ 1048576 ∧ D.length ≤ 1048576) (hlo : -9223372036854775808 ≤ limit) (hm : msgOK i0 i2 i9 Q A U D = true) (most : Int) (hmo : min limit 65535 = most) (hcut : ¬ okD most i0 i2 i9 b1 b3 true b5 b6 b7 b8 Q [] [] (dropF D 0)) (hall : (∀ j, j ≤ D.length → ¬ okD most i0 i2 i9 b1 b3 b4 b5 b6 b7 b8 Q A U (dropF D j))) :
    Calls Tryz.prog 4 #[.agg #[.int .i64 (i0 : Int), .bool b1, .int .i64 (i2 : Int), .bool b3, .bool b4, .bool b5, .bool b6, .bool b7, .bool b8, .int .i64 (i9 : Int), .slice q0 Q.length qc, .slice a0 A.length ac, .slice u0 U.length uc, .slice d0 D.length dc], .int .i64 limit] w fun e w' => e = .returned (.bool true) ∧ Below w.heap.size w w' := by
  obtain ⟨_, _, _, lq, la, lu, ld, _⟩ := msgOK_parts hm
  refine fits_law (i0 : Int) (i2 : Int) (i9 : Int) b1 b3 b4 b5 b6 b7 b8 q0 a0 u0 d0 qc ac uc dc Q A U D limit w hl hnq hn hln 0 0 0 false false false false false false false 12 ⟨[], [], [], []⟩ ⟨Nat.zero_le _, Nat.zero_le _, Nat.zero_le _, Nat.zero_le _⟩ ?_ ?_
  · intro W q1 ga gu gd c1 ca cu cd h
    refine (fit_full i0 i2 i9 b1 b3 b4 b5 b6 b7 b8 q1 _ _ _ c1 ca cu cd Q A U D limit W h hm hlo).mono ?_
    rw [hmo]
    rintro e w' (⟨q2, a2, u2, d2, qc2, ac2, uc2, cd2, Dk, f2, rfl, _, hf2, rfl, hok2, hnx2, hmg, hB⟩ | ⟨q2, d2, qc2, cd2, Dk, rfl, _, rfl, hok2, _, hmg, hB⟩ | ⟨rfl, _, _, hB⟩)
    · exact absurd hok2 (hall f2 hf2)
    · exact absurd hok2 hcut
    · exact ⟨none, none, none, none, 0, 0, 0, 0, rfl, mg4_nil _ _, hB⟩
  · intro W hW
    refine (fitm_none i0 i2 i9 b1 b3 b4 b5 b6 b7 b8 q0 a0 u0 d0 qc ac uc dc Q A U D limit W (hl.below hW) hz hn hm most hmo hcut hall).mono ?_
    rintro e w' ⟨rfl, hB⟩
    exact ⟨none, none, none, none, 0, 0, 0, 0, rfl, fun W' _ => ms4_nil W', hB⟩
set_option maxRecDepth 100000 in
/-- the law WireFits -/
theorem wireFits_any (i0 i2 i9 : Int) (b1 b3 b4 b5 b6 b7 b8 : Bool) (q0 a0 u0 d0 : Option Addr) (qc ac uc dc : Nat) (Q : List Qn) (A U D : List Rn) (limit : Int) (w : World) (hl : LsAt w q0 a0 u0 d0 Q A U D) (hz : ZOk Q A U D) (hnq : q0 = none → qc = 0) (hn : (a0 = none → ac = 0) ∧ (u0 = none → uc = 0) ∧ (d0 = none → dc = 0)) (hln : Q.length ≤ 1048576 ∧ A.length ≤ 1048576 ∧ U.length ≤ 1048576 ∧ D.length ≤ 1048576) (hlo : -9223372036854775808 ≤ limit) :
    Calls Tryz.prog 4 #[.agg #[.int .i64 i0, .bool b1, .int .i64 i2, .bool b3, .bool b4, .bool b5, .bool b6, .bool b7, .bool b8, .int .i64 i9, .slice q0 Q.length qc, .slice a0 A.length ac, .slice u0 U.length uc, .slice d0 D.length dc], .int .i64 limit] w fun e w' => e = .returned (.bool true) ∧ Below w.heap.size w w' := by
  cases hm : msgOK i0 i2 i9 Q A U D with
  | false => exact fits_no i0 i2 i9 b1 b3 b4 b5 b6 b7 b8 q0 a0 u0 d0 qc ac uc dc Q A U D limit w hl hz hnq hn hln hlo hm
  | true =>
    obtain ⟨⟨n0, e0, _⟩, ⟨n2, e2, _⟩, ⟨n9, e9, _⟩, _⟩ := msgOK_parts hm
    subst e0; subst e2; subst e9
    obtain ⟨most, hmo⟩ : ∃ most, min limit 65535 = most := ⟨_, rfl⟩
    by_cases h : ∃ f, f ≤ D.length ∧ okD most n0 n2 n9 b1 b3 b4 b5 b6 b7 b8 Q A U (dropF D f)
    · obtain ⟨f0, h1, h2⟩ := h
      obtain ⟨f, hf, hok, hnx⟩ := ex_least (p := fun f => okD most n0 n2 n9 b1 b3 b4 b5 b6 b7 b8 Q A U (dropF D f)) (g := fun f => cp (D.drop f)) (n := D.length) (cp (D.drop f0)) ⟨f0, h1, h2, Nat.le_refl _⟩
      exact fits_yes n0 n2 n9 b1 b3 b4 b5 b6 b7 b8 q0 a0 u0 d0 qc ac uc dc Q A U D limit w hl hz hnq hn hln hlo hm most hmo f hf hok hnx
    · have hall : ∀ j, j ≤ D.length → ¬ okD most n0 n2 n9 b1 b3 b4 b5 b6 b7 b8 Q A U (dropF D j) := fun j hj hk => h ⟨j, hj, hk⟩
      by_cases hc : okD most n0 n2 n9 b1 b3 true b5 b6 b7 b8 Q [] [] (dropF D 0)
      · exact fits_cut n0 n2 n9 b1 b3 b4 b5 b6 b7 b8 q0 a0 u0 d0 qc ac uc dc Q A U D limit w hl hz hnq hn hln hlo hm most hmo hc hall
      · exact fits_none n0 n2 n9 b1 b3 b4 b5 b6 b7 b8 q0 a0 u0 d0 qc ac uc dc Q A U D limit w hl hz hnq hn hln hlo hm most hmo hc hall
end Go.Proofs.YtjnmbgmdkkiidaaGreat

namespace Go.Proofs.YtjnmbgmdkkiidaaGreat.wireFitsP
set_option linter.unusedVariables false
open Go.ChangeShapes Go.WideShapes Go.ChangeAt Go.RowKit
open Go.ChangeMaps (open_string shut_string)
open Go.Proofs.YtjnmbgmdkkiidaaGreat.Fra Go.Proofs.YtjnmbgmdkkiidaaGreat.Frb Go.Proofs.YtjnmbgmdkkiidaaGreat.Nm

set_option maxRecDepth 100000 in
theorem contract (H : Type) (enc : TypeId × Value → H) (W : World) (base : Nat) (args : Array Value) (ds gs : List (DataW H)) (before : List MemPlace)
    (hval : ∀ (j : Nat) t v, Tryz.f4.params[j]? = some t → args[j]? = some v → Value.okWide Tryz.prog W .any base t v)
    (hW : DataW.Whole enc Tryz.prog Tryz.f4.params.toList Rows.wireFitsSpec.vars false W args.toList ds gs before) (hk : Rows.uptoSmall H (ds ++ gs) = true) :
    Calls Tryz.prog 4 args W fun e W' => ∃ v, e = .returned v ∧ Rows.wireFitsSpec.post enc Tryz.prog Tryz.f4 false true false false W args v W' := by
  have hW' := hW
  have hlt := hW.lt
  obtain ⟨p, q, hA0, hV, rfl, _, _⟩ := hW
  have hA : DataW.TrodAll enc Tryz.prog W 0 (fun _ => true) true Tryz.f4.params.toList args.toList ds p := hA0
  rw [Tryz.params4] at hA hval
  obtain ⟨v0, vs0, d0, ds0, p0, q0, hargs, rfl, rfl, h0, r0⟩ := trodAll_cons hA
  obtain ⟨v1, vs1, d1, ds1, p1, q1, rfl, rfl, rfl, h1, r1⟩ := trodAll_cons r0
  obtain ⟨rfl, rfl, rfl⟩ := trodAll_nil r1
  obtain rfl : args = #[v0, v1] := by cases args; simp_all
  obtain ⟨rfl, rfl⟩ := trodVars_none hV
  have hsame0 : ∀ W' : World, Below W.heap.size W W' → DataW.Trod enc Tryz.prog W' 0 (fun b => decide (b < W.heap.size)) true 25 v0 d0 p0 :=
    fun W' hn => Below.trod laid (by kernel_rfl) (of_decide_eq_true (by kernel_rfl)) h0 hn (fun x hx => hlt x (by simp [hx]))
  clear hA0
  simp only [List.append_nil] at hk
  have hbk : Rows.uptoBulk d0 ≤ 1048576 := by
    have h : Rows.uptoBulkAll [d0, d1] ≤ 1048576 := of_decide_eq_true hk
    simp only [Rows.uptoBulkAll] at h
    omega
  obtain ⟨i0, i2, i9, b1, b3, b4, b5, b6, b7, b8, q0, a0, u0, d0', qc, ac, uc, dc, Q, A, U, D, rfl, hL, nq, na, nu, nd, ⟨lq, la, lu, ld⟩, sq, sa, su, sd⟩ := msg_openB (hval 0 25 v0 rfl rfl) h0
  obtain ⟨z1, rfl, rfl, rfl, m1⟩ := open_int Tryz.underlying3 (hval 1 3 v1 rfl rfl) h1
  have hz1 : -9223372036854775808 ≤ z1 := by
    have := m1
    have e1 : IntKind.i64.min = -9223372036854775808 := rfl
    simp [Lit.wf, e1] at this
    omega
  refine (wireFits_any i0 i2 i9 b1 b3 b4 b5 b6 b7 b8 q0 a0 u0 d0' qc ac uc dc Q A U D z1 W hL ⟨fun x h => Nat.le_trans (sq x h) hbk, fun x h => Nat.le_trans (sa x h) hbk, fun x h => Nat.le_trans (su x h) hbk, fun x h => Nat.le_trans (sd x h) hbk⟩ nq ⟨na, nu, nd⟩ ⟨by omega, by omega, by omega, by omega⟩ hz1).mono fun e W' ⟨he, bel⟩ => ?_
  subst he
  exact ⟨_, rfl, _, _, _, [], _, [], hW', trodAll_mk1 (shut_bool Tryz.underlying4 _), (trodAll_cons_mk (hsame0 W' bel) (trodAll_cons_mk (shut_int Tryz.underlying3 m1) trodAll_mk0)), rfl, bel.frame _, fun h => by cases h⟩

set_option maxRecDepth 100000 in
theorem lifted (os : Os) (started : os.Started) (H : Type) (enc : TypeId × Value → H) (F : Stop.Interp) :
    ReturnsInHanded {} Tryz.checked os 4 .any ((Rows.OpenSpec.upto Rows.wireFitsSpec).pre6 enc Tryz.prog Tryz.f4 Rows.wireFitsUptoRow.domain false) (((Rows.OpenSpec.upto Rows.wireFitsSpec).at F).post enc Tryz.prog Tryz.f4 false true false false) := by
  refine returnsInHanded_of_cond (C := Tryz.checked) (s := Rows.OpenSpec.upto Rows.wireFitsSpec) (k := Rows.uptoSmall) rfl own started (by kernel_rfl) Tryz.func4
    (OpenSpec.witness (enc := enc) (C := Tryz.checked) (s := Rows.OpenSpec.upto Rows.wireFitsSpec) (k := Rows.uptoSmall) rfl false ⟨#[], #[.agg #[.int .i64 0, .bool false, .int .i64 0, .bool false, .bool false, .bool false, .bool false, .bool false, .bool false, .int .i64 0, .slice none 0 0, .slice none 0 0, .slice none 0 0, .slice none 0 0], .int .i64 0], []⟩ 8 (by kernel_rfl) (by kernel_rfl) (by kernel_rfl)
      (x := ([.agg [.lit (.int .i64 0), .lit (.bool false), .lit (.int .i64 0), .lit (.bool false), .lit (.bool false), .lit (.bool false), .lit (.bool false), .lit (.bool false), .lit (.bool false), .lit (.int .i64 0), .nil, .nil, .nil, .nil], .lit (.int .i64 0)], [], [])) (by kernel_rfl) rfl (by kernel_rfl)) ?_
  intro W base args ds gs before hval hW _ hk _
  exact contract H enc W base args ds gs before hval hW hk

theorem proved : Rows.WireFitsUptoSaid :=
  OpenClaim.holds_of_cond 4 Tryz.f4 rfl rfl rfl rfl rfl rfl rfl ⟨rfl, rfl, rfl, rfl, rfl⟩ rfl rfl rfl rfl rfl (by kernel_rfl) Tryz.func4 (by kernel_rfl)
    (of_decide_eq_true (by kernel_rfl)) (by unfold Func.isWrapper; first | (rw [if_pos (by decide +kernel)]; kernel_rfl) | (rw [if_neg (by decide +kernel)]; exact ⟨rfl, rfl⟩))
    (fun os started H enc _ F => lifted os started H enc F)
end Go.Proofs.YtjnmbgmdkkiidaaGreat.wireFitsP
namespace Go.Proofs.YtjnmbgmdkkiidaaGreat
theorem wireFits_upto : Rows.WireFitsUptoSaid := wireFitsP.proved
end Go.Proofs.YtjnmbgmdkkiidaaGreat
