import Derived.Test.YtjnmbgmdkkiidaaGreatTw3
/-
  gazetteersame's TwinMessage, in all. (The verifier's own text.)
-/
namespace Go.Proofs.YtjnmbgmdkkiidaaGreat
set_option linter.unusedVariables false
open Go.RowKit Go.Shelf Go.Maps Go.Proofs.YtjnmbgmdkkiidaaGreat.Nm

set_option maxRecDepth 100000 in
set_option maxHeartbeats 4000000 in
/-- gazetteersame.TwinMessage -/
theorem twinM_any (i0 i2 i9 : Int) (b1 b3 b4 b5 b6 b7 b8 : Bool) (q0 a0 u0 d0 : Option Addr) (qc ac uc dc : Nat) (Q : List Qn) (A U D : List Rn) (w : World) (hl : LsAt w q0 a0 u0 d0 Q A U D) (hnq : q0 = none → qc = 0) (hn : (a0 = none → ac = 0) ∧ (u0 = none → uc = 0) ∧ (d0 = none → dc = 0)) (hln : Q.length ≤ 1048576 ∧ A.length ≤ 1048576 ∧ U.length ≤ 1048576 ∧ D.length ≤ 1048576) :
    Calls Tryz.prog 5 #[.agg #[.int .i64 i0, .bool b1, .int .i64 i2, .bool b3, .bool b4, .bool b5, .bool b6, .bool b7, .bool b8, .int .i64 i9, .slice q0 Q.length qc, .slice a0 A.length ac, .slice u0 U.length uc, .slice d0 D.length dc]] w fun e w' => ∃ q1 ga gu gd c1 ca cu cd, e = .returned (.agg #[.int .i64 i0, .bool b1, .int .i64 i2, .bool b3, .bool b4, .bool b5, .bool b6, .bool b7, .bool b8, .int .i64 i9, .slice q1 Q.length c1, .slice (some ⟨ga, 0, none⟩) A.length ca, .slice (some ⟨gu, 0, none⟩) U.length cu, .slice (some ⟨gd, 0, none⟩) D.length cd]) ∧ Tn4 w' q1 ga gu gd ca cu cd Q A U D ∧ Below w.heap.size w w' := by
  obtain ⟨w0, hw0⟩ : ∃ w0, (w.alloc (.cells #[.int .i64 i0, .bool b1, .int .i64 i2, .bool b3, .bool b4, .bool b5, .bool b6, .bool b7, .bool b8, .int .i64 i9, .slice q0 Q.length qc, .slice a0 A.length ac, .slice u0 U.length uc, .slice d0 D.length dc] 25)).alloc (.cells #[.int .i64 0, .bool false, .int .i64 0, .bool false, .bool false, .bool false, .bool false, .bool false, .bool false, .int .i64 0, .slice none 0 0, .slice none 0 0, .slice none 0 0, .slice none 0 0] 25) = w0 := ⟨_, rfl⟩
  have HX0 : Hid (Bx w0 w.heap.size #[.int .i64 i0, .bool b1, .int .i64 i2, .bool b3, .bool b4, .bool b5, .bool b6, .bool b7, .bool b8, .int .i64 i9, .slice q0 Q.length qc, .slice a0 A.length ac, .slice u0 U.length uc, .slice d0 D.length dc] 25) := hw0 ▸ Bx.grown (World.alloc_heap_new w _) (World.grownBy_alloc _ _ none) (by simp)
  have HY0 : Hid (Bx w0 (w.heap.size + 1) #[.int .i64 0, .bool false, .int .i64 0, .bool false, .bool false, .bool false, .bool false, .bool false, .bool false, .int .i64 0, .slice none 0 0, .slice none 0 0, .slice none 0 0, .slice none 0 0] 25) := by
    have := World.alloc_heap_new (w.alloc (.cells #[.int .i64 i0, .bool b1, .int .i64 i2, .bool b3, .bool b4, .bool b5, .bool b6, .bool b7, .bool b8, .int .i64 i9, .slice q0 Q.length qc, .slice a0 A.length ac, .slice u0 U.length uc, .slice d0 D.length dc] 25)) (.cells #[.int .i64 0, .bool false, .int .i64 0, .bool false, .bool false, .bool false, .bool false, .bool false, .bool false, .int .i64 0, .slice none 0 0, .slice none 0 0, .slice none 0 0, .slice none 0 0] 25)
    rw [World.size_alloc] at this
    rw [← hw0]
    exact this
  have HB0 : Hid (Below w.heap.size w w0) := by rw [← hw0]; exact ((Below.refl _ w).alloc (Nat.le_refl _) _).alloc (by simp) _
  have hsz0 : w0.heap.size = w.heap.size + 2 := by rw [← hw0]; simp
  have HSZ := hide' hsz0
  have HL := hide' hl
  have HN := hide' hn
  have HLN := hide' hln
  have x10 := HX0.out.cell (j := 10) rfl
  have f10 := HX0.out.free 10
  clear hl hn hln hsz0
  have T1 : Hid True := trivial
  obtain ⟨i1, hi, hz0, hz1, hz2⟩ := info_parts infoQ
  have HI := hide' (And.intro hi (And.intro hz0 (And.intro hz1 hz2)))
  clear hi hz0 hz1 hz2
  cases q0 with
  | none =>
    obtain rfl : Q = [] := by
      cases Q with
      | nil => rfl
      | cons y l => obtain ⟨g, off, hp, _⟩ := HL.out.q 0 (by simp); cases hp
    obtain rfl := hnq rfl
    subst hw0
    go_enter Tryz.func5, Tryz.ntmps5
    go_upto_region 1 with fail
    rename_i K hK
    have HK := hide' hK
    clear hK
    go_wp2_with (at_builtin; have _ := T1; clear T1; refine wpList_append_own_none rfl _ _ 22 rfl w.heap.size 57 i1 3 Tryz.underlying22 HI.out.1 (.slice none 0 0) 0 [] rfl (World.ownsRow_nil _ _ _ _) rfl ?_)
    refine HK.out _ _ ?_
    exact tw_mid i0 i2 i9 b1 b3 b4 b5 b6 b7 b8 none a0 u0 d0 0 ac uc dc [] A U D none w _ HL HN HLN HX0 HY0 HB0 (fun k hk => absurd hk (Nat.not_lt_zero _)) (fun g off e => by cases e) (Nat.le_of_eq HSZ.out.symm) _ _ _ _ _ _ _ _ _ _ _ _ _ _ _ _ _ _
  | some ad =>
    have HA0 : Hid (∀ j u, (qce3 Q)[j]? = some u → w0.cell? (ad.add j) = some u) := fun j u h => qs_news (HL.out.below HB0.out).q j u h
    go_enter Tryz.func5, Tryz.ntmps5
    go_upto_region 1 with fail
    rename_i K hK
    have HK := hide' hK
    clear hK
    go_wp2_with (at_builtin; have _ := T1; clear T1; refine wpList_append_own _ rfl _ _ 22 rfl w0.heap.size 57 i1 (.agg #[.string .empty, .int .i64 0, .int .i64 0]) 3 32 Tryz.underlying22 HI.out.1 HI.out.2.1 HI.out.2.2.1 HI.out.2.2.2 rfl (by decide) (.slice none 0 0) 0 [] rfl (World.ownsRow_nil _ _ _ _) ad Q.length qc (qce3 Q) rfl (qce3_len Q) HA0.out (qce3_one Q) (by have := HLN.out.1; unfold maxLen; omega) (by have := HLN.out.1; omega) (Nat.le_refl _) ?_; intro v1 w1 ho1 hg1 _; rw [Nat.zero_add, List.nil_append] at ho1; obtain ⟨q1, c1, rfl, _⟩ := own_shape ho1; have HO1 := hide' ho1; have HG1 := hide' hg1; have hb1 := HX0.out.grown hg1 (by simp [Value.ownBlock]); have cc1 := hb1.cell (j := 10) rfl; have ff1 := hb1.free 10; have HY1 := hide' (HY0.out.grown hg1 (by simp [Value.ownBlock])); have HX1 := hide' hb1; obtain ⟨w2, hw2⟩ : ∃ w2, w1.setCell ⟨w.heap.size, 10, none⟩ (.slice q1 Q.length c1) = w2 := ⟨_, rfl⟩; have HW2 := hide' hw2; clear ho1 hg1 hb1)
    refine HK.out _ _ ?_
    have HB1 := hide' (HB0.out.grown HG1.out HB0.out.size (fun q e => by simp [Value.ownBlock] at e))
    have HQm : Hid (∀ g off, q1 = some ⟨g, off, none⟩ → w.heap.size + 2 ≤ g) := fun g off e => by
      subst e
      have := (HO1.out.lt g (by
        rcases id HO1.out.2 with ⟨h1, _⟩ | ⟨g', cap, cur, h1, _⟩
        · cases h1
        · injection h1 with h1 _ _
          injection h1 with h1
          injection h1 with h1 h2
          subst h1; subst h2
          rfl)).1
      have := HSZ.out
      omega
    have hsS : w.heap.size + 2 ≤ w2.heap.size := by rw [← HW2.out, set_size]; have := HSZ.out; have := HG1.out.size; omega
    exact tw_mid i0 i2 i9 b1 b3 b4 b5 b6 b7 b8 q1 a0 u0 d0 c1 ac uc dc Q A U D (some ad) w w2 HL HN HLN (HW2.out ▸ HX1.out.set 10 (.slice q1 Q.length c1)) (HW2.out ▸ HY1.out.far (by omega) 10 _) (HW2.out ▸ bset HB1.out (Nat.le_refl _) HB1.out.size 10 _) (HW2.out ▸ qs_setCell (qs_own3 HO1.out rfl) (fun g off e => by have := HQm.out g off e; omega) 10 _) HQm hsS _ _ _ _ _ _ _ _ _ _ _ _ _ _ _ _ _ _
end Go.Proofs.YtjnmbgmdkkiidaaGreat
