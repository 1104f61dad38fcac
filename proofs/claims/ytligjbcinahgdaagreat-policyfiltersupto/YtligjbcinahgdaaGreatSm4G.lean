import Derived.Test.YtligjbcinahgdaaGreatTw1G
import Derived.Test.YtligjbcinahgdaaGreatBx4G
import Derived.Test.YtligjbcinahgdaaGreatTw4G
/-
  gazetteersame.Messages over lists wherever they lie, without more. (The verifier's own text.)
-/
namespace Go.Proofs.YtligjbcinahgdaaGreat
set_option linter.unusedVariables false
open Go.RowKit Go.Shelf Go.Maps Go.Proofs.YtligjbcinahgdaaGreat.Nm

/-- the lists of a message, to be read -/
structure Ms4 (w : World) (q0 a0 u0 d0 : Option Addr) (ls : Ls) : Prop where
  q : QsAt w q0 ls.q
  a : RsAt w a0 ls.a
  u : RsAt w u0 ls.u
  d : RsAt w d0 ls.d
theorem Ms4.below {w w' : World} {q0 a0 u0 d0 : Option Addr} {ls : Ls} (h : Ms4 w q0 a0 u0 d0 ls) (hb : Below w.heap.size w w') : Ms4 w' q0 a0 u0 d0 ls :=
  ⟨qsAt_below h.q hb, rsAt_below h.a hb, rsAt_below h.u hb, rsAt_below h.d hb⟩
set_option maxRecDepth 100000 in
set_option maxHeartbeats 8000000 in
/-- gazetteersame.Messages, at the same message -/
theorem sameMessages2 (i0 i2 i9 : Int) (s1 s3 s4 s5 s6 s7 s8 : Bool) (a1 a2 a3 a4 b1 b2 b3 b4 : Option Addr) (c1 c2 c3 c4 d1 d2 d3 d4 : Nat) (ls : Ls) (w : World) (hA : Ms4 w a1 a2 a3 a4 ls) (hB : Ms4 w b1 b2 b3 b4 ls) (hl : ls.q.length ≤ 4294967296 ∧ ls.a.length ≤ 4294967296 ∧ ls.u.length ≤ 4294967296 ∧ ls.d.length ≤ 4294967296) :
    Calls Tryz.prog 10 #[.agg #[.int .i64 i0, .bool s1, .int .i64 i2, .bool s3, .bool s4, .bool s5, .bool s6, .bool s7, .bool s8, .int .i64 i9, .slice a1 ls.q.length c1, .slice a2 ls.a.length c2, .slice a3 ls.u.length c3, .slice a4 ls.d.length c4], .agg #[.int .i64 i0, .bool s1, .int .i64 i2, .bool s3, .bool s4, .bool s5, .bool s6, .bool s7, .bool s8, .int .i64 i9, .slice b1 ls.q.length d1, .slice b2 ls.a.length d2, .slice b3 ls.u.length d3, .slice b4 ls.d.length d4]] w fun e w' => e = .returned (.bool true) ∧ Below w.heap.size w w' := by
  obtain ⟨wa, hwa⟩ : ∃ wa, w.alloc (.cells #[.int .i64 i0, .bool s1, .int .i64 i2, .bool s3, .bool s4, .bool s5, .bool s6, .bool s7, .bool s8, .int .i64 i9, .slice a1 ls.q.length c1, .slice a2 ls.a.length c2, .slice a3 ls.u.length c3, .slice a4 ls.d.length c4] 27) = wa := ⟨_, rfl⟩
  obtain ⟨wb, hwb⟩ : ∃ wb, wa.alloc (.cells #[.int .i64 i0, .bool s1, .int .i64 i2, .bool s3, .bool s4, .bool s5, .bool s6, .bool s7, .bool s8, .int .i64 i9, .slice b1 ls.q.length d1, .slice b2 ls.a.length d2, .slice b3 ls.u.length d3, .slice b4 ls.d.length d4] 27) = wb := ⟨_, rfl⟩
  have h1 : Bx wa w.heap.size #[.int .i64 i0, .bool s1, .int .i64 i2, .bool s3, .bool s4, .bool s5, .bool s6, .bool s7, .bool s8, .int .i64 i9, .slice a1 ls.q.length c1, .slice a2 ls.a.length c2, .slice a3 ls.u.length c3, .slice a4 ls.d.length c4] 27 := hwa ▸ World.alloc_heap_new w _
  have HXa : Hid (Bx wb w.heap.size #[.int .i64 i0, .bool s1, .int .i64 i2, .bool s3, .bool s4, .bool s5, .bool s6, .bool s7, .bool s8, .int .i64 i9, .slice a1 ls.q.length c1, .slice a2 ls.a.length c2, .slice a3 ls.u.length c3, .slice a4 ls.d.length c4] 27) := hwb ▸ h1.grown (World.grownBy_alloc wa _ none) (by simp)
  have HXb : Hid (Bx wb wa.heap.size #[.int .i64 i0, .bool s1, .int .i64 i2, .bool s3, .bool s4, .bool s5, .bool s6, .bool s7, .bool s8, .int .i64 i9, .slice b1 ls.q.length d1, .slice b2 ls.a.length d2, .slice b3 ls.u.length d3, .slice b4 ls.d.length d4] 27) := hwb ▸ World.alloc_heap_new wa _
  have HBb : Hid (Below w.heap.size w wb) := by rw [← hwb, ← hwa]; exact ((Below.refl _ w).alloc (Nat.le_refl _) _).alloc (by simp) _
  have HR : Hid (∀ w1 : World, Below wb.heap.size wb w1 → Ms4 w1 a1 a2 a3 a4 ls ∧ Ms4 w1 b1 b2 b3 b4 ls ∧ Bx w1 w.heap.size #[.int .i64 i0, .bool s1, .int .i64 i2, .bool s3, .bool s4, .bool s5, .bool s6, .bool s7, .bool s8, .int .i64 i9, .slice a1 ls.q.length c1, .slice a2 ls.a.length c2, .slice a3 ls.u.length c3, .slice a4 ls.d.length c4] 27 ∧ Bx w1 wa.heap.size #[.int .i64 i0, .bool s1, .int .i64 i2, .bool s3, .bool s4, .bool s5, .bool s6, .bool s7, .bool s8, .int .i64 i9, .slice b1 ls.q.length d1, .slice b2 ls.a.length d2, .slice b3 ls.u.length d3, .slice b4 ls.d.length d4] 27 ∧ Below w.heap.size w w1) := by
    intro w1 hb
    have hg : Below w.heap.size w w1 := bstep HBb.out hb HBb.out.size
    exact ⟨hA.below hg, hB.below hg, HXa.out.below hb HXa.out.lt, HXb.out.below hb HXb.out.lt, hg⟩
  have HH := hide' (fun (W : World) => sameHead i0 i2 i9 s1 s3 s4 s5 s6 s7 s8 a1 a2 a3 a4 b1 b2 b3 b4 ls.q.length ls.a.length ls.u.length ls.d.length c1 c2 c3 c4 d1 d2 d3 d4 W)
  obtain ⟨x0, x1, x2, x3, x4, x5, x6, x7, x8, x9, x10, x11, x12, x13⟩ := bx14 HXa.out
  obtain ⟨y0, y1, y2, y3, y4, y5, y6, y7, y8, y9, y10, y11, y12, y13⟩ := bx14 HXb.out
  clear h1 hA hB
  go_enter Tryz.func10, Tryz.ntmps10
  have F1 : Hid True := trivial
  have F2 : Hid True := trivial
  go_wp2_with (first
    | (go_at_call 26; refine (HH.out _).mono ?_; rintro e w1 ⟨rfl, hb1⟩; have HB1 := hide' hb1; have H1 := hide' (HR.out _ hb1); clear hb1 x0 x1 x2 x3 x4 x5 x6 x7 x8 x9 x10 x11 x12 x13 y0 y1 y2 y3 y4 y5 y6 y7 y8 y9 y10 y11 y12 y13; obtain ⟨_, _, _, _, _, _, _, _, _, _, x10, x11, x12, x13⟩ := bx14 H1.out.2.2.1; obtain ⟨_, _, _, _, _, _, _, _, _, _, y10, y11, y12, y13⟩ := bx14 H1.out.2.2.2.1)
    | (go_at_call 27; refine (sameQuestions2 a1 b1 ls.q.length c1 d1 ls.q _ H1.out.1.q H1.out.2.1.q rfl hl.1).mono ?_; rintro e w2 ⟨rfl, mm2, hw2⟩; have HB2 : Hid (Below wb.heap.size wb w2) := hw2 ▸ bstep HB1.out (below_quiet mm2) HB1.out.size; have H2 := hide' (HR.out _ HB2.out); clear hw2 x10 x11 x12 x13 y10 y11 y12 y13; obtain ⟨_, _, _, _, _, _, _, _, _, _, x10, x11, x12, x13⟩ := bx14 H2.out.2.2.1; obtain ⟨_, _, _, _, _, _, _, _, _, _, y10, y11, y12, y13⟩ := bx14 H2.out.2.2.2.1)
    | (go_at_call 28; have _ := F1; clear F1; refine (sameRecords2 a2 b2 ls.a.length c2 d2 ls.a _ H2.out.1.a H2.out.2.1.a rfl hl.2.1).mono ?_; rintro e w3 ⟨rfl, mm3, hw3⟩; have HB3 : Hid (Below wb.heap.size wb w3) := hw3 ▸ bstep HB2.out (below_quiet mm3) HB2.out.size; have H3 := hide' (HR.out _ HB3.out); clear hw3 x10 x11 x12 x13 y10 y11 y12 y13; obtain ⟨_, _, _, _, _, _, _, _, _, _, x10, x11, x12, x13⟩ := bx14 H3.out.2.2.1; obtain ⟨_, _, _, _, _, _, _, _, _, _, y10, y11, y12, y13⟩ := bx14 H3.out.2.2.2.1)
    | (go_at_call 28; have _ := F2; clear F2; refine (sameRecords2 a3 b3 ls.u.length c3 d3 ls.u _ H3.out.1.u H3.out.2.1.u rfl hl.2.2.1).mono ?_; rintro e w4 ⟨rfl, mm4, hw4⟩; have HB4 : Hid (Below wb.heap.size wb w4) := hw4 ▸ bstep HB3.out (below_quiet mm4) HB3.out.size; have H4 := hide' (HR.out _ HB4.out); clear hw4 x10 x11 x12 x13 y10 y11 y12 y13; obtain ⟨_, _, _, _, _, _, _, _, _, _, x10, x11, x12, x13⟩ := bx14 H4.out.2.2.1; obtain ⟨_, _, _, _, _, _, _, _, _, _, y10, y11, y12, y13⟩ := bx14 H4.out.2.2.2.1)
    | (go_at_call 28; refine (sameRecords2 a4 b4 ls.d.length c4 d4 ls.d _ H4.out.1.d H4.out.2.1.d rfl hl.2.2.2).mono ?_; rintro e w5 ⟨rfl, mm5, hw5⟩; have HB5 : Hid (Below wb.heap.size wb w5) := hw5 ▸ bstep HB4.out (below_quiet mm5) HB4.out.size; have H5 := hide' (HR.out _ HB5.out); clear hw5))
  go_ret
  exact ⟨rfl, H5.out.2.2.2.2⟩
end Go.Proofs.YtligjbcinahgdaaGreat

/-
  gazetteersame's TwinMessage, in all. (The verifier's own text.)
-/
namespace Go.Proofs.YtligjbcinahgdaaGreat
set_option linter.unusedVariables false
open Go.RowKit Go.Shelf Go.Maps Go.Proofs.YtligjbcinahgdaaGreat.Nm

set_option maxRecDepth 100000 in
set_option maxHeartbeats 4000000 in
/-- gazetteersame.TwinMessage -/
theorem twinM_any (i0 i2 i9 : Int) (b1 b3 b4 b5 b6 b7 b8 : Bool) (q0 a0 u0 d0 : Option Addr) (qc ac uc dc : Nat) (Q : List Qn) (A U D : List Rn) (w : World) (hl : LsAt w q0 a0 u0 d0 Q A U D) (hnq : q0 = none → qc = 0) (hn : (a0 = none → ac = 0) ∧ (u0 = none → uc = 0) ∧ (d0 = none → dc = 0)) (hln : Q.length ≤ 1048576 ∧ A.length ≤ 1048576 ∧ U.length ≤ 1048576 ∧ D.length ≤ 1048576) :
    Calls Tryz.prog 7 #[.agg #[.int .i64 i0, .bool b1, .int .i64 i2, .bool b3, .bool b4, .bool b5, .bool b6, .bool b7, .bool b8, .int .i64 i9, .slice q0 Q.length qc, .slice a0 A.length ac, .slice u0 U.length uc, .slice d0 D.length dc]] w fun e w' => ∃ q1 ga gu gd c1 ca cu cd, e = .returned (.agg #[.int .i64 i0, .bool b1, .int .i64 i2, .bool b3, .bool b4, .bool b5, .bool b6, .bool b7, .bool b8, .int .i64 i9, .slice q1 Q.length c1, .slice (some ⟨ga, 0, none⟩) A.length ca, .slice (some ⟨gu, 0, none⟩) U.length cu, .slice (some ⟨gd, 0, none⟩) D.length cd]) ∧ Tn4 w' q1 ga gu gd ca cu cd Q A U D ∧ Below w.heap.size w w' := by
  obtain ⟨w0, hw0⟩ : ∃ w0, (w.alloc (.cells #[.int .i64 i0, .bool b1, .int .i64 i2, .bool b3, .bool b4, .bool b5, .bool b6, .bool b7, .bool b8, .int .i64 i9, .slice q0 Q.length qc, .slice a0 A.length ac, .slice u0 U.length uc, .slice d0 D.length dc] 27)).alloc (.cells #[.int .i64 0, .bool false, .int .i64 0, .bool false, .bool false, .bool false, .bool false, .bool false, .bool false, .int .i64 0, .slice none 0 0, .slice none 0 0, .slice none 0 0, .slice none 0 0] 27) = w0 := ⟨_, rfl⟩
  have HX0 : Hid (Bx w0 w.heap.size #[.int .i64 i0, .bool b1, .int .i64 i2, .bool b3, .bool b4, .bool b5, .bool b6, .bool b7, .bool b8, .int .i64 i9, .slice q0 Q.length qc, .slice a0 A.length ac, .slice u0 U.length uc, .slice d0 D.length dc] 27) := hw0 ▸ Bx.grown (World.alloc_heap_new w _) (World.grownBy_alloc _ _ none) (by simp)
  have HY0 : Hid (Bx w0 (w.heap.size + 1) #[.int .i64 0, .bool false, .int .i64 0, .bool false, .bool false, .bool false, .bool false, .bool false, .bool false, .int .i64 0, .slice none 0 0, .slice none 0 0, .slice none 0 0, .slice none 0 0] 27) := by
    have := World.alloc_heap_new (w.alloc (.cells #[.int .i64 i0, .bool b1, .int .i64 i2, .bool b3, .bool b4, .bool b5, .bool b6, .bool b7, .bool b8, .int .i64 i9, .slice q0 Q.length qc, .slice a0 A.length ac, .slice u0 U.length uc, .slice d0 D.length dc] 27)) (.cells #[.int .i64 0, .bool false, .int .i64 0, .bool false, .bool false, .bool false, .bool false, .bool false, .bool false, .int .i64 0, .slice none 0 0, .slice none 0 0, .slice none 0 0, .slice none 0 0] 27)
    rw [World.size_alloc] at this
    rw [← hw0]
    exact this
  have HB0 : Hid (Below w.heap.size w w0) := by rw [← hw0]; exact ((Below.refl _ w).alloc (Nat.le_refl _) _).alloc (by simp) _
  have hsz0 : w0.heap.size = w.heap.size + 2 := by rw [← hw0]; simp
  have HSZ := hide' hsz0
  have HL := hide' hl
  have HN := hide' hn
  have HLN := hide' hln
  have x10 := HX0.out.cell (j := 10) rfl
  have f10 := HX0.out.free 10
  clear hl hn hln hsz0
  have T1 : Hid True := trivial
  obtain ⟨i1, hi, hz0, hz1, hz2⟩ := info_parts infoQ
  have HI := hide' (And.intro hi (And.intro hz0 (And.intro hz1 hz2)))
  clear hi hz0 hz1 hz2
  cases q0 with
  | none =>
    obtain rfl : Q = [] := by
      cases Q with
      | nil => rfl
      | cons y l => obtain ⟨g, off, hp, _⟩ := HL.out.q 0 (by simp); cases hp
    obtain rfl := hnq rfl
    subst hw0
    go_enter Tryz.func7, Tryz.ntmps7
    go_upto_region 1 with fail
    rename_i K hK
    have HK := hide' hK
    clear hK
    go_wp2_with (at_builtin; have _ := T1; clear T1; refine wpList_append_own_none rfl _ _ 24 rfl w.heap.size 52 i1 3 Tryz.underlying24 HI.out.1 (.slice none 0 0) 0 [] rfl (World.ownsRow_nil _ _ _ _) rfl ?_)
    refine HK.out _ _ ?_
    exact tw_mid i0 i2 i9 b1 b3 b4 b5 b6 b7 b8 none a0 u0 d0 0 ac uc dc [] A U D none w _ HL HN HLN HX0 HY0 HB0 (fun k hk => absurd hk (Nat.not_lt_zero _)) (fun g off e => by cases e) (Nat.le_of_eq HSZ.out.symm) _ _ _ _ _ _ _ _ _ _ _ _ _ _ _ _ _ _
  | some ad =>
    have HA0 : Hid (∀ j u, (qce3 Q)[j]? = some u → w0.cell? (ad.add j) = some u) := fun j u h => qs_news (HL.out.below HB0.out).q j u h
    go_enter Tryz.func7, Tryz.ntmps7
    go_upto_region 1 with fail
    rename_i K hK
    have HK := hide' hK
    clear hK
    go_wp2_with (at_builtin; have _ := T1; clear T1; refine wpList_append_own _ rfl _ _ 24 rfl w0.heap.size 52 i1 (.agg #[.string .empty, .int .i64 0, .int .i64 0]) 3 32 Tryz.underlying24 HI.out.1 HI.out.2.1 HI.out.2.2.1 HI.out.2.2.2 rfl (by decide) (.slice none 0 0) 0 [] rfl (World.ownsRow_nil _ _ _ _) ad Q.length qc (qce3 Q) rfl (qce3_len Q) HA0.out (qce3_one Q) (by have := HLN.out.1; unfold maxLen; omega) (by have := HLN.out.1; omega) (Nat.le_refl _) ?_; intro v1 w1 ho1 hg1 _; rw [Nat.zero_add, List.nil_append] at ho1; obtain ⟨q1, c1, rfl, _⟩ := own_shape ho1; have HO1 := hide' ho1; have HG1 := hide' hg1; have hb1 := HX0.out.grown hg1 (by simp [Value.ownBlock]); have cc1 := hb1.cell (j := 10) rfl; have ff1 := hb1.free 10; have HY1 := hide' (HY0.out.grown hg1 (by simp [Value.ownBlock])); have HX1 := hide' hb1; obtain ⟨w2, hw2⟩ : ∃ w2, w1.setCell ⟨w.heap.size, 10, none⟩ (.slice q1 Q.length c1) = w2 := ⟨_, rfl⟩; have HW2 := hide' hw2; clear ho1 hg1 hb1)
    refine HK.out _ _ ?_
    have HB1 := hide' (HB0.out.grown HG1.out HB0.out.size (fun q e => by simp [Value.ownBlock] at e))
    have HQm : Hid (∀ g off, q1 = some ⟨g, off, none⟩ → w.heap.size + 2 ≤ g) := fun g off e => by
      subst e
      have := (HO1.out.lt g (by
        rcases id HO1.out.2 with ⟨h1, _⟩ | ⟨g', cap, cur, h1, _⟩
        · cases h1
        · injection h1 with h1 _ _
          injection h1 with h1
          injection h1 with h1 h2
          subst h1; subst h2
          rfl)).1
      have := HSZ.out
      omega
    have hsS : w.heap.size + 2 ≤ w2.heap.size := by rw [← HW2.out, set_size]; have := HSZ.out; have := HG1.out.size; omega
    exact tw_mid i0 i2 i9 b1 b3 b4 b5 b6 b7 b8 q1 a0 u0 d0 c1 ac uc dc Q A U D (some ad) w w2 HL HN HLN (HW2.out ▸ HX1.out.set 10 (.slice q1 Q.length c1)) (HW2.out ▸ HY1.out.far (by omega) 10 _) (HW2.out ▸ bset HB1.out (Nat.le_refl _) HB1.out.size 10 _) (HW2.out ▸ qs_setCell (qs_own3 HO1.out rfl) (fun g off e => by have := HQm.out g off e; omega) 10 _) HQm hsS _ _ _ _ _ _ _ _ _ _ _ _ _ _ _ _ _ _
end Go.Proofs.YtligjbcinahgdaaGreat
