import Derived.Test.YtligjbcinahgdaaGreatTw1G
import Derived.Test.YtligjbcinahgdaaGreatBx4G
import Derived.Deep.RegionWith
import Derived.Deep.Cut
import Derived.Test.YtligjbcinahgdaaGreatMl0G
/-
  gazetteersame's WholeMessage. (The verifier's own text.)
-/
namespace Go.Proofs.YtligjbcinahgdaaGreat
set_option linter.unusedVariables false
open Go.RowKit Go.Shelf Go.Maps Go.Proofs.YtligjbcinahgdaaGreat.Nm

/-- a message's twin: lists of its own, with two records behind each list of records -/
structure Tn4 (w : World) (q1 : Option Addr) (ga gu gd ca cu cd : Nat) (Q : List Qn) (A U D : List Rn) : Prop where
  q : QsAt w q1 Q
  a : RsAt w (some ⟨ga, 0, none⟩) (A ++ [spR, spR])
  u : RsAt w (some ⟨gu, 0, none⟩) (U ++ [spR, spR])
  d : RsAt w (some ⟨gd, 0, none⟩) (D ++ [spR, spR])
  ka : A.length + 2 ≤ ca
  ku : U.length + 2 ≤ cu
  kd : D.length + 2 ≤ cd
theorem Tn4.below {w w' : World} {q1 : Option Addr} {ga gu gd ca cu cd : Nat} {Q : List Qn} {A U D : List Rn} (h : Tn4 w q1 ga gu gd ca cu cd Q A U D) (hb : Below w.heap.size w w') : Tn4 w' q1 ga gu gd ca cu cd Q A U D :=
  ⟨qsAt_below h.q hb, rsAt_below h.a hb, rsAt_below h.u hb, rsAt_below h.d hb, h.ka, h.ku, h.kd⟩
theorem Tn4.ls {w w2 : World} {q1 q0 a0 u0 d0 : Option Addr} {ga gu gd ca cu cd : Nat} {Q : List Qn} {A U D : List Rn} (h : Tn4 w q1 ga gu gd ca cu cd Q A U D) (k : LsAt w2 q0 a0 u0 d0 Q A U D) : LsAt w q1 (some ⟨ga, 0, none⟩) (some ⟨gu, 0, none⟩) (some ⟨gd, 0, none⟩) Q A U D :=
  ⟨h.q, rs_left h.a, rs_left h.u, rs_left h.d, k.zqs, k.zas, k.zus, k.zds⟩

set_option maxRecDepth 100000 in
set_option maxHeartbeats 4000000 in
/-- gazetteersame.WholeMessage -/
theorem wholeM_any (i0 i2 i9 : Int) (b1 b3 b4 b5 b6 b7 b8 : Bool) (q0 a0 u0 d0 q1 : Option Addr) (ga gu gd ca cu cd c1 qc ac uc dc : Nat) (Q : List Qn) (A U D : List Rn) (w : World) (ht : Tn4 w q1 ga gu gd ca cu cd Q A U D) (hl : LsAt w q0 a0 u0 d0 Q A U D) (hln : Q.length ≤ 1048576 ∧ A.length ≤ 1048576 ∧ U.length ≤ 1048576 ∧ D.length ≤ 1048576) :
    Calls Tryz.prog 11 #[.agg #[.int .i64 i0, .bool b1, .int .i64 i2, .bool b3, .bool b4, .bool b5, .bool b6, .bool b7, .bool b8, .int .i64 i9, .slice q1 Q.length c1, .slice (some ⟨ga, 0, none⟩) A.length ca, .slice (some ⟨gu, 0, none⟩) U.length cu, .slice (some ⟨gd, 0, none⟩) D.length cd], .agg #[.int .i64 i0, .bool b1, .int .i64 i2, .bool b3, .bool b4, .bool b5, .bool b6, .bool b7, .bool b8, .int .i64 i9, .slice q0 Q.length qc, .slice a0 A.length ac, .slice u0 U.length uc, .slice d0 D.length dc]] w fun e w' => e = .returned (.bool true) ∧ Below w.heap.size w w' := by
  obtain ⟨w0, hw0⟩ : ∃ w0, (w.alloc (.cells #[.int .i64 i0, .bool b1, .int .i64 i2, .bool b3, .bool b4, .bool b5, .bool b6, .bool b7, .bool b8, .int .i64 i9, .slice q1 Q.length c1, .slice (some ⟨ga, 0, none⟩) A.length ca, .slice (some ⟨gu, 0, none⟩) U.length cu, .slice (some ⟨gd, 0, none⟩) D.length cd] 27)).alloc (.cells #[.int .i64 i0, .bool b1, .int .i64 i2, .bool b3, .bool b4, .bool b5, .bool b6, .bool b7, .bool b8, .int .i64 i9, .slice q0 Q.length qc, .slice a0 A.length ac, .slice u0 U.length uc, .slice d0 D.length dc] 27) = w0 := ⟨_, rfl⟩
  have HX0 : Hid (Bx w0 w.heap.size #[.int .i64 i0, .bool b1, .int .i64 i2, .bool b3, .bool b4, .bool b5, .bool b6, .bool b7, .bool b8, .int .i64 i9, .slice q1 Q.length c1, .slice (some ⟨ga, 0, none⟩) A.length ca, .slice (some ⟨gu, 0, none⟩) U.length cu, .slice (some ⟨gd, 0, none⟩) D.length cd] 27) := hw0 ▸ Bx.grown (World.alloc_heap_new w _) (World.grownBy_alloc _ _ none) (by simp)
  have HY0 : Hid (Bx w0 (w.heap.size + 1) #[.int .i64 i0, .bool b1, .int .i64 i2, .bool b3, .bool b4, .bool b5, .bool b6, .bool b7, .bool b8, .int .i64 i9, .slice q0 Q.length qc, .slice a0 A.length ac, .slice u0 U.length uc, .slice d0 D.length dc] 27) := by
    have := World.alloc_heap_new (w.alloc (.cells #[.int .i64 i0, .bool b1, .int .i64 i2, .bool b3, .bool b4, .bool b5, .bool b6, .bool b7, .bool b8, .int .i64 i9, .slice q1 Q.length c1, .slice (some ⟨ga, 0, none⟩) A.length ca, .slice (some ⟨gu, 0, none⟩) U.length cu, .slice (some ⟨gd, 0, none⟩) D.length cd] 27)) (.cells #[.int .i64 i0, .bool b1, .int .i64 i2, .bool b3, .bool b4, .bool b5, .bool b6, .bool b7, .bool b8, .int .i64 i9, .slice q0 Q.length qc, .slice a0 A.length ac, .slice u0 U.length uc, .slice d0 D.length dc] 27)
    rw [World.size_alloc] at this
    rw [← hw0]
    exact this
  have HB0 : Hid (Below w.heap.size w w0) := by rw [← hw0]; exact ((Below.refl _ w).alloc (Nat.le_refl _) _).alloc (by simp) _
  have HT := hide' ht
  have HL := hide' hl
  have HLN := hide' hln
  obtain ⟨x0, x1, x2, x3, x4, x5, x6, x7, x8, x9, x10, x11, x12, x13⟩ := bx14 HX0.out
  obtain ⟨y0, y1, y2, y3, y4, y5, y6, y7, y8, y9, y10, y11, y12, y13⟩ := bx14 HY0.out
  clear ht hl hln
  have T1 : Hid True := trivial
  go_enter Tryz.func11, Tryz.ntmps11
  go_wp2_with (first
    | (go_at_call 26; refine (sameHead i0 i2 i9 b1 b3 b4 b5 b6 b7 b8 q1 (some ⟨ga, 0, none⟩) (some ⟨gu, 0, none⟩) (some ⟨gd, 0, none⟩) q0 a0 u0 d0 Q.length A.length U.length D.length c1 ca cu cd qc ac uc dc _).mono ?_; rintro e w1 ⟨rfl, hB⟩; have HB1 := hide' (bstep HB0.out hB HB0.out.size); have HX1 : Hid (Bx w1 w.heap.size #[.int .i64 i0, .bool b1, .int .i64 i2, .bool b3, .bool b4, .bool b5, .bool b6, .bool b7, .bool b8, .int .i64 i9, .slice q1 Q.length c1, .slice (some ⟨ga, 0, none⟩) A.length ca, .slice (some ⟨gu, 0, none⟩) U.length cu, .slice (some ⟨gd, 0, none⟩) D.length cd] 27) := HX0.out.below hB HX0.out.lt; have HY1 : Hid (Bx w1 (w.heap.size + 1) #[.int .i64 i0, .bool b1, .int .i64 i2, .bool b3, .bool b4, .bool b5, .bool b6, .bool b7, .bool b8, .int .i64 i9, .slice q0 Q.length qc, .slice a0 A.length ac, .slice u0 U.length uc, .slice d0 D.length dc] 27) := HY0.out.below hB HY0.out.lt; clear hB x0 x1 x2 x3 x4 x5 x6 x7 x8 x9 x10 x11 x12 x13 y0 y1 y2 y3 y4 y5 y6 y7 y8 y9 y10 y11 y12 y13; obtain ⟨x0, x1, x2, x3, x4, x5, x6, x7, x8, x9, x10, x11, x12, x13⟩ := bx14 HX1.out; obtain ⟨y0, y1, y2, y3, y4, y5, y6, y7, y8, y9, y10, y11, y12, y13⟩ := bx14 HY1.out)
    | (go_at_call 27; refine (sameQuestions2 q1 q0 Q.length c1 qc Q _ (HT.out.below HB1.out).q (HL.out.below HB1.out).q rfl (by have := HLN.out.1; omega)).mono ?_; rintro e w2 ⟨rfl, n2, hw2⟩; have hB : Below w1.heap.size w1 w2 := hw2 ▸ below_drewN (Below.refl _ w1) n2; clear hw2; have HB2 := hide' (bstep HB1.out hB HB1.out.size); have HX2 : Hid (Bx w2 w.heap.size #[.int .i64 i0, .bool b1, .int .i64 i2, .bool b3, .bool b4, .bool b5, .bool b6, .bool b7, .bool b8, .int .i64 i9, .slice q1 Q.length c1, .slice (some ⟨ga, 0, none⟩) A.length ca, .slice (some ⟨gu, 0, none⟩) U.length cu, .slice (some ⟨gd, 0, none⟩) D.length cd] 27) := HX1.out.below hB HX1.out.lt; have HY2 : Hid (Bx w2 (w.heap.size + 1) #[.int .i64 i0, .bool b1, .int .i64 i2, .bool b3, .bool b4, .bool b5, .bool b6, .bool b7, .bool b8, .int .i64 i9, .slice q0 Q.length qc, .slice a0 A.length ac, .slice u0 U.length uc, .slice d0 D.length dc] 27) := HY1.out.below hB HY1.out.lt; clear hB x0 x1 x2 x3 x4 x5 x6 x7 x8 x9 x10 x11 x12 x13 y0 y1 y2 y3 y4 y5 y6 y7 y8 y9 y10 y11 y12 y13; obtain ⟨x0, x1, x2, x3, x4, x5, x6, x7, x8, x9, x10, x11, x12, x13⟩ := bx14 HX2.out; obtain ⟨y0, y1, y2, y3, y4, y5, y6, y7, y8, y9, y10, y11, y12, y13⟩ := bx14 HY2.out)
    | (go_at_call 29; have _ := T1; clear T1; refine (wholeL_any A ga ca a0 ac _ HLN.out.2.1 (HT.out.below HB2.out).a HT.out.ka (HL.out.below HB2.out).a).mono ?_; rintro e w3 ⟨rfl, hB⟩; have HB3 := hide' (bstep HB2.out hB HB2.out.size); have HX3 : Hid (Bx w3 w.heap.size #[.int .i64 i0, .bool b1, .int .i64 i2, .bool b3, .bool b4, .bool b5, .bool b6, .bool b7, .bool b8, .int .i64 i9, .slice q1 Q.length c1, .slice (some ⟨ga, 0, none⟩) A.length ca, .slice (some ⟨gu, 0, none⟩) U.length cu, .slice (some ⟨gd, 0, none⟩) D.length cd] 27) := HX2.out.below hB HX2.out.lt; have HY3 : Hid (Bx w3 (w.heap.size + 1) #[.int .i64 i0, .bool b1, .int .i64 i2, .bool b3, .bool b4, .bool b5, .bool b6, .bool b7, .bool b8, .int .i64 i9, .slice q0 Q.length qc, .slice a0 A.length ac, .slice u0 U.length uc, .slice d0 D.length dc] 27) := HY2.out.below hB HY2.out.lt; clear hB x0 x1 x2 x3 x4 x5 x6 x7 x8 x9 x10 x11 x12 x13 y0 y1 y2 y3 y4 y5 y6 y7 y8 y9 y10 y11 y12 y13; obtain ⟨x0, x1, x2, x3, x4, x5, x6, x7, x8, x9, x10, x11, x12, x13⟩ := bx14 HX3.out; obtain ⟨y0, y1, y2, y3, y4, y5, y6, y7, y8, y9, y10, y11, y12, y13⟩ := bx14 HY3.out; have T2 : Hid True := trivial)
    | (go_at_call 29; have _ := T2; clear T2; refine (wholeL_any U gu cu u0 uc _ HLN.out.2.2.1 (HT.out.below HB3.out).u HT.out.ku (HL.out.below HB3.out).u).mono ?_; rintro e w4 ⟨rfl, hB⟩; have HB4 := hide' (bstep HB3.out hB HB3.out.size); have HX4 : Hid (Bx w4 w.heap.size #[.int .i64 i0, .bool b1, .int .i64 i2, .bool b3, .bool b4, .bool b5, .bool b6, .bool b7, .bool b8, .int .i64 i9, .slice q1 Q.length c1, .slice (some ⟨ga, 0, none⟩) A.length ca, .slice (some ⟨gu, 0, none⟩) U.length cu, .slice (some ⟨gd, 0, none⟩) D.length cd] 27) := HX3.out.below hB HX3.out.lt; have HY4 : Hid (Bx w4 (w.heap.size + 1) #[.int .i64 i0, .bool b1, .int .i64 i2, .bool b3, .bool b4, .bool b5, .bool b6, .bool b7, .bool b8, .int .i64 i9, .slice q0 Q.length qc, .slice a0 A.length ac, .slice u0 U.length uc, .slice d0 D.length dc] 27) := HY3.out.below hB HY3.out.lt; clear hB x0 x1 x2 x3 x4 x5 x6 x7 x8 x9 x10 x11 x12 x13 y0 y1 y2 y3 y4 y5 y6 y7 y8 y9 y10 y11 y12 y13; obtain ⟨x0, x1, x2, x3, x4, x5, x6, x7, x8, x9, x10, x11, x12, x13⟩ := bx14 HX4.out; obtain ⟨y0, y1, y2, y3, y4, y5, y6, y7, y8, y9, y10, y11, y12, y13⟩ := bx14 HY4.out; have T3 : Hid True := trivial)
    | (go_at_call 29; have _ := T3; clear T3; refine (wholeL_any D gd cd d0 dc _ HLN.out.2.2.2 (HT.out.below HB4.out).d HT.out.kd (HL.out.below HB4.out).d).mono ?_; rintro e w5 ⟨rfl, hB⟩; have HBf := hide' (bstep HB4.out hB HB4.out.size); clear hB))
  go_ret
  exact ⟨rfl, HBf.out⟩
end Go.Proofs.YtligjbcinahgdaaGreat

/-
  gazetteersame's TwinMessage. (The verifier's own text.)
-/
namespace Go.Proofs.YtligjbcinahgdaaGreat
set_option linter.unusedVariables false
open Go.RowKit Go.Shelf Go.Maps Go.Proofs.YtligjbcinahgdaaGreat.Nm

theorem qs_own3 {w : World} {b c n : Nat} {p : Option Addr} {L : List Qn} (h : w.ownsRow b 52 3 (.slice p n c) n (qce3 L)) (hn : n = L.length) : QsAt w p L := fun k hk => by
  rcases id h.2 with ⟨h1, h0⟩ | ⟨g, cap, cur, h1, _⟩
  · omega
  · injection h1 with h1 _ _
    subst h1
    have hg := (h.lt g rfl).2
    have e : ∀ j, j < 3 → w.cell? ⟨g, k * 3 + j, none⟩ = (qce3 L)[k * 3 + j]? := fun j hj => h.cellAt (k * 3 + j) (by omega)
    obtain ⟨e0, e1, e2⟩ := get3 L k hk
    refine ⟨g, 0, rfl, hg, ?_, ?_, ?_⟩
    · rw [Nat.zero_add]; exact (e 0 (by omega)).trans e0
    · rw [Nat.zero_add]; exact (e 1 (by omega)).trans e1
    · rw [Nat.zero_add]; exact (e 2 (by omega)).trans e2
theorem rs_setCell {w : World} {p : Option Addr} {L : List Rn} (h : RsAt w p L) {X : Nat} (hX : ∀ g off, p = some ⟨g, off, none⟩ → X ≠ g) (j : Nat) (v : Value) : RsAt (w.setCell ⟨X, j, none⟩ v) p L := fun k hk => by
  obtain ⟨g, off, h1, h2, h3, h4, h5, h6, h7⟩ := h k hk
  have hne := hX g off h1
  exact ⟨g, off, h1, by rw [set_size]; exact h2, (World.cell?_setCell_far _ _ _ _ hne).trans h3, (World.cell?_setCell_far _ _ _ _ hne).trans h4, (World.cell?_setCell_far _ _ _ _ hne).trans h5, (World.cell?_setCell_far _ _ _ _ hne).trans h6, (World.cell?_setCell_far _ _ _ _ hne).trans h7⟩
theorem qs_setCell {w : World} {p : Option Addr} {L : List Qn} (h : QsAt w p L) {X : Nat} (hX : ∀ g off, p = some ⟨g, off, none⟩ → X ≠ g) (j : Nat) (v : Value) : QsAt (w.setCell ⟨X, j, none⟩ v) p L := fun k hk => by
  obtain ⟨g, off, h1, h2, h3, h4, h5⟩ := h k hk
  have hne := hX g off h1
  exact ⟨g, off, h1, by rw [set_size]; exact h2, (World.cell?_setCell_far _ _ _ _ hne).trans h3, (World.cell?_setCell_far _ _ _ _ hne).trans h4, (World.cell?_setCell_far _ _ _ _ hne).trans h5⟩
/-- a twin whose lists lie elsewhere than a block stays where that block is written -/
structure Tn5 (w : World) (m : Nat) (q1 : Option Addr) (ga gu gd ca cu cd : Nat) (Q : List Qn) (A U D : List Rn) : Prop where
  t : Tn4 w q1 ga gu gd ca cu cd Q A U D
  q : ∀ g off, q1 = some ⟨g, off, none⟩ → m ≤ g
  a : m ≤ ga
  u : m ≤ gu
  d : m ≤ gd
theorem Tn5.set {w : World} {m : Nat} {q1 : Option Addr} {ga gu gd ca cu cd : Nat} {Q : List Qn} {A U D : List Rn} (h : Tn5 w m q1 ga gu gd ca cu cd Q A U D) {X : Nat} (hX : X < m) (j : Nat) (v : Value) : Tn5 (w.setCell ⟨X, j, none⟩ v) m q1 ga gu gd ca cu cd Q A U D := by
  have e : ∀ {g : Nat}, m ≤ g → ∀ g' off, (some ⟨g, 0, none⟩ : Option Addr) = some ⟨g', off, none⟩ → X ≠ g' := fun {g} hg g' off e => by
    injection e with e
    injection e with e _
    omega
  exact ⟨⟨qs_setCell h.t.q (fun g off e => by have := h.q g off e; omega) j v, rs_setCell h.t.a (e h.a) j v, rs_setCell h.t.u (e h.u) j v, rs_setCell h.t.d (e h.d) j v, h.t.ka, h.t.ku, h.t.kd⟩, h.q, h.a, h.u, h.d⟩
theorem Tn5.set14 {w : World} {m : Nat} {q1 : Option Addr} {ga gu gd ca cu cd : Nat} {Q : List Qn} {A U D : List Rn} (h : Tn5 w m q1 ga gu gd ca cu cd Q A U D) {X : Nat} (hX : X < m) (v0 v1 v2 v3 v4 v5 v6 v7 v8 v9 v10 v11 v12 v13 : Value) : Tn5 (Go.Proofs.YtligjbcinahgdaaGreat.set14 w X v0 v1 v2 v3 v4 v5 v6 v7 v8 v9 v10 v11 v12 v13) m q1 ga gu gd ca cu cd Q A U D :=
  (((((((((((((h.set hX 0 v0).set hX 1 v1).set hX 2 v2).set hX 3 v3).set hX 4 v4).set hX 5 v5).set hX 6 v6).set hX 7 v7).set hX 8 v8).set hX 9 v9).set hX 10 v10).set hX 11 v11).set hX 12 v12).set hX 13 v13

theorem twin_in {w2 W : World} {F : Nat} {args : Array Value} {L : List Rn} {m : Nat} (h : Calls Tryz.prog F args W fun r w' => ∃ g c, r = .returned (.slice (some ⟨g, 0, none⟩) L.length c) ∧ w'.ownsRow W.heap.size 55 5 (.slice (some ⟨g, 0, none⟩) (L.length + 2) c) (L.length + 2) (rce5 (L ++ [spR, spR])) ∧ Below W.heap.size W w') (hm : m ≤ w2.heap.size) (hb : Below w2.heap.size w2 W) :
    Calls Tryz.prog F args W fun r w' => ∃ g c, r = .returned (.slice (some ⟨g, 0, none⟩) L.length c) ∧ RsAt w' (some ⟨g, 0, none⟩) (L ++ [spR, spR]) ∧ L.length + 2 ≤ c ∧ m ≤ g ∧ Below w2.heap.size w2 w' := by
  refine h.mono ?_
  rintro r w' ⟨g, c, rfl, ho, hB⟩
  exact ⟨g, c, rfl, rs_own5 ho, (own_cap ho).1, by have := (ho.lt g rfl).1; have := hb.size; omega, bstep hb hB hb.size⟩
set_option maxRecDepth 100000 in
set_option maxHeartbeats 4000000 in
theorem tw_end (i0 i2 i9 : Int) (b1 b3 b4 b5 b6 b7 b8 : Bool) (q1 : Option Addr) (ga gu gd c1 ca cu cd : Nat) (Q : List Qn) (A U D : List Rn) (w w6 : World) (HX6 : Hid (Bx w6 w.heap.size #[.int .i64 i0, .bool b1, .int .i64 i2, .bool b3, .bool b4, .bool b5, .bool b6, .bool b7, .bool b8, .int .i64 i9, .slice q1 Q.length c1, .slice (some ⟨ga, 0, none⟩) A.length ca, .slice (some ⟨gu, 0, none⟩) U.length cu, .slice (some ⟨gd, 0, none⟩) D.length cd] 27)) (HY6 : Hid (Bx w6 (w.heap.size + 1) #[.int .i64 0, .bool false, .int .i64 0, .bool false, .bool false, .bool false, .bool false, .bool false, .bool false, .int .i64 0, .slice none 0 0, .slice none 0 0, .slice none 0 0, .slice none 0 0] 27)) (H6 : Hid (Tn5 w6 (w.heap.size + 2) q1 ga gu gd ca cu cd Q A U D)) (HB6 : Hid (Below w.heap.size w w6)) (x0 x3 x4 x5 x6 x7 x8 x9 x10 x11 x12 x13 x14 x15 x16 x17 x18 x19 : Value) :
    Code.wp Tryz.prog (((Tryz.f7.body.map (tailsN 2)).getD []).getD 0 .skip) (bodyPost Tryz.prog Tryz.f7 (fun e w' => ∃ q1 ga gu gd c1 ca cu cd, e = .returned (.agg #[.int .i64 i0, .bool b1, .int .i64 i2, .bool b3, .bool b4, .bool b5, .bool b6, .bool b7, .bool b8, .int .i64 i9, .slice q1 Q.length c1, .slice (some ⟨ga, 0, none⟩) A.length ca, .slice (some ⟨gu, 0, none⟩) U.length cu, .slice (some ⟨gd, 0, none⟩) D.length cd]) ∧ Tn4 w' q1 ga gu gd ca cu cd Q A U D ∧ Below w.heap.size w w')) ⟨List.toArray (x0 :: (.pointer (some ⟨w.heap.size, 0, none⟩) : Value) :: (.pointer (some ⟨w.heap.size + 1, 0, none⟩) : Value) :: x3 :: x4 :: x5 :: x6 :: x7 :: x8 :: x9 :: x10 :: x11 :: x12 :: x13 :: x14 :: x15 :: x16 :: x17 :: x18 :: x19 :: []), []⟩ w6 := by
  obtain ⟨u0, u1, u2, u3, u4, u5, u6, u7, u8, u9, u10, u11, u12, u13⟩ := bx14 HX6.out
  obtain ⟨r0, r1, r2, r3, r4, r5, r6, r7, r8, r9, r10, r11, r12, r13⟩ := bx14 HY6.out
  obtain ⟨f0, f1, f2, f3, f4, f5, f6, f7, f8, f9, f10, f11, f12, f13⟩ := bx14_free HY6.out
  obtain ⟨w7, hw7⟩ : ∃ w7, set14 w6 (w.heap.size + 1) (.int .i64 i0) (.bool b1) (.int .i64 i2) (.bool b3) (.bool b4) (.bool b5) (.bool b6) (.bool b7) (.bool b8) (.int .i64 i9) (.slice q1 Q.length c1) (.slice (some ⟨ga, 0, none⟩) A.length ca) (.slice (some ⟨gu, 0, none⟩) U.length cu) (.slice (some ⟨gd, 0, none⟩) D.length cd) = w7 := ⟨_, rfl⟩
  have HY7 : Hid (Bx w7 (w.heap.size + 1) #[.int .i64 i0, .bool b1, .int .i64 i2, .bool b3, .bool b4, .bool b5, .bool b6, .bool b7, .bool b8, .int .i64 i9, .slice q1 Q.length c1, .slice (some ⟨ga, 0, none⟩) A.length ca, .slice (some ⟨gu, 0, none⟩) U.length cu, .slice (some ⟨gd, 0, none⟩) D.length cd] 27) := hw7 ▸ bx14_set HY6.out (.int .i64 i0) (.bool b1) (.int .i64 i2) (.bool b3) (.bool b4) (.bool b5) (.bool b6) (.bool b7) (.bool b8) (.int .i64 i9) (.slice q1 Q.length c1) (.slice (some ⟨ga, 0, none⟩) A.length ca) (.slice (some ⟨gu, 0, none⟩) U.length cu) (.slice (some ⟨gd, 0, none⟩) D.length cd)
  have H7 : Hid (Tn4 w7 q1 ga gu gd ca cu cd Q A U D) := hw7 ▸ (H6.out.set14 (by omega) (.int .i64 i0) (.bool b1) (.int .i64 i2) (.bool b3) (.bool b4) (.bool b5) (.bool b6) (.bool b7) (.bool b8) (.int .i64 i9) (.slice q1 Q.length c1) (.slice (some ⟨ga, 0, none⟩) A.length ca) (.slice (some ⟨gu, 0, none⟩) U.length cu) (.slice (some ⟨gd, 0, none⟩) D.length cd)).t
  have HB7 : Hid (Below w.heap.size w w7) := hw7 ▸ below14 HB6.out (by omega) HB6.out.size (.int .i64 i0) (.bool b1) (.int .i64 i2) (.bool b3) (.bool b4) (.bool b5) (.bool b6) (.bool b7) (.bool b8) (.int .i64 i9) (.slice q1 Q.length c1) (.slice (some ⟨ga, 0, none⟩) A.length ca) (.slice (some ⟨gu, 0, none⟩) U.length cu) (.slice (some ⟨gd, 0, none⟩) D.length cd)
  unfold set14 at hw7
  obtain ⟨t0, t1, t2, t3, t4, t5, t6, t7, t8, t9, t10, t11, t12, t13⟩ := bx14 HY7.out
  conv => arg 2; whnf
  go_wp2_with fail
  exact bodyPost_ret (v := .agg #[.int .i64 i0, .bool b1, .int .i64 i2, .bool b3, .bool b4, .bool b5, .bool b6, .bool b7, .bool b8, .int .i64 i9, .slice q1 Q.length c1, .slice (some ⟨ga, 0, none⟩) A.length ca, .slice (some ⟨gu, 0, none⟩) U.length cu, .slice (some ⟨gd, 0, none⟩) D.length cd]) (by simp [results, go_sem, t0, t1, t2, t3, t4, t5, t6, t7, t8, t9, t10, t11, t12, t13]) rfl ⟨q1, ga, gu, gd, c1, ca, cu, cd, rfl, H7.out, HB7.out⟩

set_option maxRecDepth 100000 in
set_option maxHeartbeats 8000000 in
theorem tw_mid (i0 i2 i9 : Int) (b1 b3 b4 b5 b6 b7 b8 : Bool) (q1 a0 u0 d0 : Option Addr) (c1 ac uc dc : Nat) (Q : List Qn) (A U D : List Rn) (qx : Option Addr) (w w2 : World) (HL : Hid (LsAt w qx a0 u0 d0 Q A U D)) (HN : Hid ((a0 = none → ac = 0) ∧ (u0 = none → uc = 0) ∧ (d0 = none → dc = 0))) (HLN : Hid (Q.length ≤ 1048576 ∧ A.length ≤ 1048576 ∧ U.length ≤ 1048576 ∧ D.length ≤ 1048576)) (HX2 : Hid (Bx w2 w.heap.size #[.int .i64 i0, .bool b1, .int .i64 i2, .bool b3, .bool b4, .bool b5, .bool b6, .bool b7, .bool b8, .int .i64 i9, .slice q1 Q.length c1, .slice a0 A.length ac, .slice u0 U.length uc, .slice d0 D.length dc] 27)) (HY2 : Hid (Bx w2 (w.heap.size + 1) #[.int .i64 0, .bool false, .int .i64 0, .bool false, .bool false, .bool false, .bool false, .bool false, .bool false, .int .i64 0, .slice none 0 0, .slice none 0 0, .slice none 0 0, .slice none 0 0] 27)) (HB2 : Hid (Below w.heap.size w w2)) (HQ2 : Hid (QsAt w2 q1 Q)) (HQm : Hid (∀ g off, q1 = some ⟨g, off, none⟩ → w.heap.size + 2 ≤ g)) (hS2 : Hid (w.heap.size + 2 ≤ w2.heap.size)) (x0 x3 x4 x5 x6 x7 x8 x9 x10 x11 x12 x13 x14 x15 x16 x17 x18 x19 : Value) :
    Code.wp Tryz.prog (((Tryz.f7.body.map (tailsN 1)).getD []).getD 0 .skip) (bodyPost Tryz.prog Tryz.f7 (fun e w' => ∃ q1 ga gu gd c1 ca cu cd, e = .returned (.agg #[.int .i64 i0, .bool b1, .int .i64 i2, .bool b3, .bool b4, .bool b5, .bool b6, .bool b7, .bool b8, .int .i64 i9, .slice q1 Q.length c1, .slice (some ⟨ga, 0, none⟩) A.length ca, .slice (some ⟨gu, 0, none⟩) U.length cu, .slice (some ⟨gd, 0, none⟩) D.length cd]) ∧ Tn4 w' q1 ga gu gd ca cu cd Q A U D ∧ Below w.heap.size w w')) ⟨List.toArray (x0 :: (.pointer (some ⟨w.heap.size, 0, none⟩) : Value) :: (.pointer (some ⟨w.heap.size + 1, 0, none⟩) : Value) :: x3 :: x4 :: x5 :: x6 :: x7 :: x8 :: x9 :: x10 :: x11 :: x12 :: x13 :: x14 :: x15 :: x16 :: x17 :: x18 :: x19 :: []), []⟩ w2 := by
  have y11 := HX2.out.cell (j := 11) rfl
  have y12 := HX2.out.cell (j := 12) rfl
  have y13 := HX2.out.cell (j := 13) rfl
  have T2 : Hid True := trivial
  conv => arg 2; whnf
  go_upto_region 2 with fail
  rename_i K hK
  have HK := hide' hK
  clear hK
  go_wp2_with fail
  go_region_with (first
    | (go_at_call 22; have _ := T2; clear T2; refine Calls.mono (show Calls Tryz.prog 22 _ _ (fun r w' => ∃ ga ca, r = .returned (.slice (some ⟨ga, 0, none⟩) A.length ca) ∧ RsAt w' (some ⟨ga, 0, none⟩) (A ++ [spR, spR]) ∧ A.length + 2 ≤ ca ∧ w.heap.size + 2 ≤ ga ∧ Below w2.heap.size w2 w') by first | exact twin_in (twin_any A a0 ac w2 HLN.out.2.1 (HL.out.below HB2.out).a HN.out.1) hS2.out (Below.refl _ _) | exact twin_in (twin_any A a0 ac w2.drew HLN.out.2.1 (HL.out.below HB2.out).a HN.out.1) hS2.out ((Below.refl _ w2).drew)) ?_; rintro e w3 ⟨ga, ca, rfl, hr, hc, hg, hB⟩; have R3 := hide' hr; have C3 := hide' (And.intro hc hg); have B3' := hide' hB; have HB3 := hide' (bstep HB2.out hB HB2.out.size); have HX3 : Hid (Bx w3 w.heap.size #[.int .i64 i0, .bool b1, .int .i64 i2, .bool b3, .bool b4, .bool b5, .bool b6, .bool b7, .bool b8, .int .i64 i9, .slice q1 Q.length c1, .slice a0 A.length ac, .slice u0 U.length uc, .slice d0 D.length dc] 27) := HX2.out.below hB HX2.out.lt; have HY3 : Hid (Bx w3 (w.heap.size + 1) #[.int .i64 0, .bool false, .int .i64 0, .bool false, .bool false, .bool false, .bool false, .bool false, .bool false, .int .i64 0, .slice none 0 0, .slice none 0 0, .slice none 0 0, .slice none 0 0] 27) := HY2.out.below hB HY2.out.lt; have hS3 : Hid (w.heap.size + 2 ≤ w3.heap.size) := Nat.le_trans hS2.out hB.size; have p32 := HX3.out.cell (j := 12) rfl; have p33 := HX3.out.cell (j := 13) rfl; clear hr hc hg hB; have T3 : Hid True := trivial)
    | (go_at_call 22; have _ := T3; clear T3; refine Calls.mono (show Calls Tryz.prog 22 _ _ (fun r w' => ∃ gu cu, r = .returned (.slice (some ⟨gu, 0, none⟩) U.length cu) ∧ RsAt w' (some ⟨gu, 0, none⟩) (U ++ [spR, spR]) ∧ U.length + 2 ≤ cu ∧ w.heap.size + 2 ≤ gu ∧ Below w3.heap.size w3 w') by first | exact twin_in (twin_any U u0 uc w3 HLN.out.2.2.1 (HL.out.below HB3.out).u HN.out.2.1) hS3.out (Below.refl _ _) | exact twin_in (twin_any U u0 uc w3.drew HLN.out.2.2.1 (HL.out.below HB3.out).u HN.out.2.1) hS3.out ((Below.refl _ w3).drew)) ?_; rintro e w4 ⟨gu, cu, rfl, hr, hc, hg, hB⟩; have R4 := hide' hr; have C4 := hide' (And.intro hc hg); have B4' := hide' hB; have HB4 := hide' (bstep HB3.out hB HB3.out.size); have HX4 : Hid (Bx w4 w.heap.size #[.int .i64 i0, .bool b1, .int .i64 i2, .bool b3, .bool b4, .bool b5, .bool b6, .bool b7, .bool b8, .int .i64 i9, .slice q1 Q.length c1, .slice a0 A.length ac, .slice u0 U.length uc, .slice d0 D.length dc] 27) := HX3.out.below hB HX3.out.lt; have HY4 : Hid (Bx w4 (w.heap.size + 1) #[.int .i64 0, .bool false, .int .i64 0, .bool false, .bool false, .bool false, .bool false, .bool false, .bool false, .int .i64 0, .slice none 0 0, .slice none 0 0, .slice none 0 0, .slice none 0 0] 27) := HY3.out.below hB HY3.out.lt; have hS4 : Hid (w.heap.size + 2 ≤ w4.heap.size) := Nat.le_trans hS3.out hB.size; have p43 := HX4.out.cell (j := 13) rfl; clear hr hc hg hB; have T4 : Hid True := trivial)
    | (go_at_call 22; have _ := T4; clear T4; refine Calls.mono (show Calls Tryz.prog 22 _ _ (fun r w' => ∃ gd cd, r = .returned (.slice (some ⟨gd, 0, none⟩) D.length cd) ∧ RsAt w' (some ⟨gd, 0, none⟩) (D ++ [spR, spR]) ∧ D.length + 2 ≤ cd ∧ w.heap.size + 2 ≤ gd ∧ Below w4.heap.size w4 w') by first | exact twin_in (twin_any D d0 dc w4 HLN.out.2.2.2 (HL.out.below HB4.out).d HN.out.2.2) hS4.out (Below.refl _ _) | exact twin_in (twin_any D d0 dc w4.drew HLN.out.2.2.2 (HL.out.below HB4.out).d HN.out.2.2) hS4.out ((Below.refl _ w4).drew)) ?_; rintro e w5 ⟨gd, cd, rfl, hr, hc, hg, hB⟩; have R5 := hide' hr; have C5 := hide' (And.intro hc hg); have B5' := hide' hB; have HB5 := hide' (bstep HB4.out hB HB4.out.size); have HX5 : Hid (Bx w5 w.heap.size #[.int .i64 i0, .bool b1, .int .i64 i2, .bool b3, .bool b4, .bool b5, .bool b6, .bool b7, .bool b8, .int .i64 i9, .slice q1 Q.length c1, .slice a0 A.length ac, .slice u0 U.length uc, .slice d0 D.length dc] 27) := HX4.out.below hB HX4.out.lt; have HY5 : Hid (Bx w5 (w.heap.size + 1) #[.int .i64 0, .bool false, .int .i64 0, .bool false, .bool false, .bool false, .bool false, .bool false, .bool false, .int .i64 0, .slice none 0 0, .slice none 0 0, .slice none 0 0, .slice none 0 0] 27) := HY4.out.below hB HY4.out.lt; have hS5 : Hid (w.heap.size + 2 ≤ w5.heap.size) := Nat.le_trans hS4.out hB.size; have p51 := HX5.out.cell (j := 11) rfl; have p52 := HX5.out.cell (j := 12) rfl; have p53 := HX5.out.cell (j := 13) rfl; have f51 := HX5.out.free 11; have f52 := HX5.out.free 12; have f53 := HX5.out.free 13; obtain ⟨w6, hw6⟩ : ∃ w6, ((w5.setCell ⟨w.heap.size, 11, none⟩ (.slice (some ⟨ga, 0, none⟩) A.length ca)).setCell ⟨w.heap.size, 12, none⟩ (.slice (some ⟨gu, 0, none⟩) U.length cu)).setCell ⟨w.heap.size, 13, none⟩ (.slice (some ⟨gd, 0, none⟩) D.length cd) = w6 := ⟨_, rfl⟩; have HW6 := hide' hw6; have H5 : Hid (Tn5 w5 (w.heap.size + 2) q1 ga gu gd ca cu cd Q A U D) := ⟨⟨qsAt_below HQ2.out (bstep (bstep B3'.out B4'.out B3'.out.size) hB (Nat.le_trans B3'.out.size B4'.out.size)), rsAt_below (rsAt_below R3.out B4'.out) hB, rsAt_below R4.out hB, R5.out, C3.out.1, C4.out.1, C5.out.1⟩, HQm.out, C3.out.2, C4.out.2, C5.out.2⟩; clear hr hc hg hB; have T5 : Hid True := trivial))
  all_goals
    refine HK.out _ _ ?_
    have HX6 : Hid (Bx w6 w.heap.size #[.int .i64 i0, .bool b1, .int .i64 i2, .bool b3, .bool b4, .bool b5, .bool b6, .bool b7, .bool b8, .int .i64 i9, .slice q1 Q.length c1, .slice (some ⟨ga, 0, none⟩) A.length ca, .slice (some ⟨gu, 0, none⟩) U.length cu, .slice (some ⟨gd, 0, none⟩) D.length cd] 27) := HW6.out ▸ ((HX5.out.set 11 (.slice (some ⟨ga, 0, none⟩) A.length ca)).set 12 (.slice (some ⟨gu, 0, none⟩) U.length cu)).set 13 (.slice (some ⟨gd, 0, none⟩) D.length cd)
    have HY6 : Hid (Bx w6 (w.heap.size + 1) #[.int .i64 0, .bool false, .int .i64 0, .bool false, .bool false, .bool false, .bool false, .bool false, .bool false, .int .i64 0, .slice none 0 0, .slice none 0 0, .slice none 0 0, .slice none 0 0] 27) := HW6.out ▸ ((HY5.out.far (by omega) 11 (.slice (some ⟨ga, 0, none⟩) A.length ca)).far (by omega) 12 (.slice (some ⟨gu, 0, none⟩) U.length cu)).far (by omega) 13 (.slice (some ⟨gd, 0, none⟩) D.length cd)
    have H6 : Hid (Tn5 w6 (w.heap.size + 2) q1 ga gu gd ca cu cd Q A U D) := HW6.out ▸ ((H5.out.set (by omega) 11 (.slice (some ⟨ga, 0, none⟩) A.length ca)).set (by omega) 12 (.slice (some ⟨gu, 0, none⟩) U.length cu)).set (by omega) 13 (.slice (some ⟨gd, 0, none⟩) D.length cd)
    have HB6 : Hid (Below w.heap.size w w6) := HW6.out ▸ ((((BS.mk HB5.out HB5.out.size).set (Nat.le_refl _) 11 (.slice (some ⟨ga, 0, none⟩) A.length ca)).set (Nat.le_refl _) 12 (.slice (some ⟨gu, 0, none⟩) U.length cu)).set (Nat.le_refl _) 13 (.slice (some ⟨gd, 0, none⟩) D.length cd)).b
    first
      | exact tw_end i0 i2 i9 b1 b3 b4 b5 b6 b7 b8 q1 ga gu gd c1 ca cu cd Q A U D w w6 HX6 HY6 H6 HB6 _ _ _ _ _ _ _ _ _ _ _ _ _ _ _ _ _ _
      | exact tw_end i0 i2 i9 b1 b3 b4 b5 b6 b7 b8 q1 ga gu gd c1 ca cu cd Q A U D w w6.drew HX6.out HY6.out ⟨⟨H6.out.t.q, H6.out.t.a, H6.out.t.u, H6.out.t.d, H6.out.t.ka, H6.out.t.ku, H6.out.t.kd⟩, H6.out.q, H6.out.a, H6.out.u, H6.out.d⟩ HB6.out.drew _ _ _ _ _ _ _ _ _ _ _ _ _ _ _ _ _ _
end Go.Proofs.YtligjbcinahgdaaGreat
