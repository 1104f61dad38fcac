import Derived.Test.YtinnmfidnecncaaFt8
import Derived.Test.YtinnmfidnecncaaWq1G
import Derived.Test.YtinnmfidnecncaaPk14G
/-
  wire.Fit of what is no message; what has room is what Pack writes. (The verifier's own text.)
-/
namespace Go.Proofs.Ytinnmfidnecncaa
set_option linter.unusedVariables false
open Go.RowKit Go.Shelf Go.Maps Go.Proofs.Ytinnmfidnecncaa.Nm

/-- where all has room, all is written -/
theorem runR_room (most : Int) : ∀ (L : List Rn) (s : PS) (c : Nat), (∀ r ∈ L, rOK r = true) → POk s → (((recL L s).out.size : Nat) : Int) ≤ most → (runR most L s c).1 = recL L s
  | [], s, c, _, _, _ => rfl
  | r :: l, s, c, hL, hs, h => by
    have h1 := (recL_pf (r :: l) s hL hs).1.size
    unfold runR
    rw [if_neg (by omega)]
    exact runR_room most l (recR r s) (c + 1) (fun x hx => hL x (List.mem_cons_of_mem _ hx)) (recR_ok (hL r List.mem_cons_self) hs).1 h
theorem runR_whole (most : Int) : ∀ (L : List Rn) (s : PS) (c : Nat), (∀ r ∈ L, rOK r = true) → POk s → (((runR most L s c).1.out.size : Nat) : Int) ≤ most → (runR most L s c).1 = recL L s
  | [], s, c, _, _, _ => rfl
  | r :: l, s, c, hL, hs, h => by
    unfold runR at h ⊢
    by_cases hm : most < (s.out.size : Int)
    · rw [if_pos hm] at h; simp only at h; omega
    · rw [if_neg hm] at h ⊢
      exact runR_whole most l (recR r s) (c + 1) (fun x hx => hL x (List.mem_cons_of_mem _ hx)) (recR_ok (hL r List.mem_cons_self) hs).1 h
theorem fit_parts {i0 i2 i9 : Nat} {b1 b3 b4 b5 b6 b7 b8 : Bool} {Q : List Qn} {A U D : List Rn} (hm : msgOK i0 i2 i9 Q A U D = true) : (∀ r ∈ A ++ U ++ D, rOK r = true) ∧ POk (quesL Q (headP i0 i2 i9 b1 b3 b4 b5 b6 b7 b8 Q.length A.length U.length D.length ⟨.empty, []⟩)) := by
  obtain ⟨_, _, _, _, _, _, _, hlst⟩ := msgOK_parts hm
  obtain ⟨oq, oa, ou, od⟩ := lstOK_parts hlst
  obtain ⟨z1, z2⟩ := head_size i0 i2 i9 b1 b3 b4 b5 b6 b7 b8 Q.length A.length U.length D.length
  refine ⟨fun r hr => ?_, (quesL_ok Q _ oq ⟨fun x hx => by (rw [z2] at hx; cases hx), by rw [z2]; exact Nat.zero_le _⟩).1⟩
  rcases List.mem_append.1 hr with h | h
  · rcases List.mem_append.1 h with h | h
    · exact oa r h
    · exact ou r h
  · exact od r h
/-- what has room is what Pack writes -/
theorem fit_pack {most : Int} {i0 i2 i9 : Nat} {b1 b3 b4 b5 b6 b7 b8 : Bool} {Q : List Qn} {A U D : List Rn} (hm : msgOK i0 i2 i9 Q A U D = true) (hmo : most ≤ 65535) (h : (((fitR most i0 i2 i9 b1 b3 b4 b5 b6 b7 b8 Q A U D).1.out.size : Nat) : Int) ≤ most) : packS i0 i2 i9 b1 b3 b4 b5 b6 b7 b8 Q A U D = (fitR most i0 i2 i9 b1 b3 b4 b5 b6 b7 b8 Q A U D).1 := by
  obtain ⟨hr, hp⟩ := fit_parts (b1 := b1) (b3 := b3) (b4 := b4) (b5 := b5) (b6 := b6) (b7 := b7) (b8 := b8) hm
  unfold fitR at h ⊢
  have h1 := runR_whole most _ _ 0 hr hp h
  rw [h1] at h ⊢
  unfold packS
  exact runR_room 65535 _ _ 0 hr hp (by omega)
/-- what Pack writes has room where it may -/
theorem pack_fit {most : Int} {i0 i2 i9 : Nat} {b1 b3 b4 b5 b6 b7 b8 : Bool} {Q : List Qn} {A U D : List Rn} (hm : msgOK i0 i2 i9 Q A U D = true) (h65 : (packS i0 i2 i9 b1 b3 b4 b5 b6 b7 b8 Q A U D).out.size ≤ 65535) (h : (((packS i0 i2 i9 b1 b3 b4 b5 b6 b7 b8 Q A U D).out.size : Nat) : Int) ≤ most) : (((fitR most i0 i2 i9 b1 b3 b4 b5 b6 b7 b8 Q A U D).1.out.size : Nat) : Int) ≤ most := by
  obtain ⟨hr, hp⟩ := fit_parts (b1 := b1) (b3 := b3) (b4 := b4) (b5 := b5) (b6 := b6) (b7 := b7) (b8 := b8) hm
  unfold packS at h65 h
  have h1 := runR_whole 65535 _ _ 0 hr hp (by omega)
  rw [h1] at h
  unfold fitR
  rw [runR_room most _ _ 0 hr hp h]
  exact h
/-- the document's example takes 24 bytes, whatever is said of it -/
theorem exFit (most : Int) (b4 : Bool) : (fitR most 7 0 0 false false b4 true false false false [exQ] [] [] []).1.out.size = 24 := by
  unfold fitR
  show (quesP exN 1 1 (headP _ _ _ _ _ _ _ _ _ _ _ _ _ _ _)).out.size = 24
  obtain ⟨h1, h2⟩ := head_size 7 0 0 false false b4 true false false false [exQ].length ([] : List Rn).length ([] : List Rn).length ([] : List Rn).length
  rw [quesP_size, nameL_fresh (labs exN) _ (fun x hx => by rw [h2] at hx; cases hx), h1, putB_labs exN_ok]
  rfl

set_option maxRecDepth 100000 in
set_option maxHeartbeats 2000000 in
/-- wire.Fit, of what is no message -/
theorem fit_no (i0 i2 i9 : Int) (b1 b3 b4 b5 b6 b7 b8 : Bool) (q0 a0 u0 d0 : Option Addr) (qc ac uc dc : Nat) (Q : List Qn) (A U D : List Rn) (limit : Int) (w : World) (hl : LsAt w q0 a0 u0 d0 Q A U D) (hm : msgOK i0 i2 i9 Q A U D = false) :
    Calls Try.prog 10 #[.agg #[.int .i64 i0, .bool b1, .int .i64 i2, .bool b3, .bool b4, .bool b5, .bool b6, .bool b7, .bool b8, .int .i64 i9, .slice q0 Q.length qc, .slice a0 A.length ac, .slice u0 U.length uc, .slice d0 D.length dc], .int .i64 limit] w fun e w' => e = .returned (.tuple #[.agg #[.int .i64 0, .bool false, .int .i64 0, .bool false, .bool false, .bool false, .bool false, .bool false, .bool false, .int .i64 0, .slice none 0 0, .slice none 0 0, .slice none 0 0, .slice none 0 0], .int .i64 8]) ∧ Below w.heap.size w w' := by
  obtain ⟨wz, hwz⟩ : ∃ wr, (w.alloc (.cells #[.int .i64 i0, .bool b1, .int .i64 i2, .bool b3, .bool b4, .bool b5, .bool b6, .bool b7, .bool b8, .int .i64 i9, .slice q0 Q.length qc, .slice a0 A.length ac, .slice u0 U.length uc, .slice d0 D.length dc] 25)).alloc (.cells #[.int .i64 0, .bool false, .int .i64 0, .bool false, .bool false, .bool false, .bool false, .bool false, .bool false, .int .i64 0, .slice none 0 0, .slice none 0 0, .slice none 0 0, .slice none 0 0] 25) = wr := ⟨_, rfl⟩
  have HX : Hid (Bx wz w.heap.size #[.int .i64 i0, .bool b1, .int .i64 i2, .bool b3, .bool b4, .bool b5, .bool b6, .bool b7, .bool b8, .int .i64 i9, .slice q0 Q.length qc, .slice a0 A.length ac, .slice u0 U.length uc, .slice d0 D.length dc] 25) := hwz ▸ Bx.grown (World.alloc_heap_new w _) (World.grownBy_alloc _ _ none) (by simp)
  have HR : Hid (Bx wz (w.heap.size + 1) #[.int .i64 0, .bool false, .int .i64 0, .bool false, .bool false, .bool false, .bool false, .bool false, .bool false, .int .i64 0, .slice none 0 0, .slice none 0 0, .slice none 0 0, .slice none 0 0] 25) := by
    have := World.alloc_heap_new (w.alloc (.cells #[.int .i64 i0, .bool b1, .int .i64 i2, .bool b3, .bool b4, .bool b5, .bool b6, .bool b7, .bool b8, .int .i64 i9, .slice q0 Q.length qc, .slice a0 A.length ac, .slice u0 U.length uc, .slice d0 D.length dc] 25)) (.cells #[.int .i64 0, .bool false, .int .i64 0, .bool false, .bool false, .bool false, .bool false, .bool false, .bool false, .int .i64 0, .slice none 0 0, .slice none 0 0, .slice none 0 0, .slice none 0 0] 25)
    rw [World.size_alloc] at this
    rw [← hwz]
    exact this
  have HB : Hid (Below w.heap.size w wz) := by rw [← hwz]; exact ((Below.refl _ w).alloc (Nat.le_refl _) _).alloc (by simp) _
  have HW := hide' hl
  obtain ⟨x0, x1, x2, x3, x4, x5, x6, x7, x8, x9, x10, x11, x12, x13⟩ := bx14 HX.out
  clear hl
  go_enter Try.func10, Try.ntmps10
  go_wp2_with (go_at_call 8; refine (wcheck_any i0 i2 i9 b1 b3 b4 b5 b6 b7 b8 q0 a0 u0 d0 qc ac uc dc Q A U D _ (HW.out.below HB.out)).mono ?_; rintro e w1 ⟨he, hB⟩; rw [if_neg (by rw [hm]; decide)] at he; subst he; have HR1 : Hid (Bx w1 (w.heap.size + 1) #[.int .i64 0, .bool false, .int .i64 0, .bool false, .bool false, .bool false, .bool false, .bool false, .bool false, .int .i64 0, .slice none 0 0, .slice none 0 0, .slice none 0 0, .slice none 0 0] 25) := HR.out.below hB HR.out.lt; have HB1 := hide' (bstep HB.out hB HB.out.size); clear hB x0 x1 x2 x3 x4 x5 x6 x7 x8 x9 x10 x11 x12 x13; obtain ⟨r0, r1, r2, r3, r4, r5, r6, r7, r8, r9, r10, r11, r12, r13⟩ := bx14 HR1.out; obtain ⟨f0, f1, f2, f3, f4, f5, f6, f7, f8, f9, f10, f11, f12, f13⟩ := bx14_free HR1.out)
  obtain ⟨t0, t1, t2, t3, t4, t5, t6, t7, t8, t9, t10, t11, t12, t13⟩ := bx14 (bx14_set HR1.out (.int .i64 0) (.bool false) (.int .i64 0) (.bool false) (.bool false) (.bool false) (.bool false) (.bool false) (.bool false) (.int .i64 0) (.slice none 0 0) (.slice none 0 0) (.slice none 0 0) (.slice none 0 0))
  unfold set14 at t0 t1 t2 t3 t4 t5 t6 t7 t8 t9 t10 t11 t12 t13
  exact bodyPost_ret (v := .tuple #[.agg #[.int .i64 0, .bool false, .int .i64 0, .bool false, .bool false, .bool false, .bool false, .bool false, .bool false, .int .i64 0, .slice none 0 0, .slice none 0 0, .slice none 0 0, .slice none 0 0], .int .i64 8]) (by simp [results, go_sem, t0, t1, t2, t3, t4, t5, t6, t7, t8, t9, t10, t11, t12, t13]) rfl ⟨rfl, below14 HB1.out (by omega) HB1.out.size (.int .i64 0) (.bool false) (.int .i64 0) (.bool false) (.bool false) (.bool false) (.bool false) (.bool false) (.bool false) (.int .i64 0) (.slice none 0 0) (.slice none 0 0) (.slice none 0 0) (.slice none 0 0)⟩
end Go.Proofs.Ytinnmfidnecncaa
