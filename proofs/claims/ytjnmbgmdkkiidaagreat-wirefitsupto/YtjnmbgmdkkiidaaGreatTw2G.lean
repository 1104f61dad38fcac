import Derived.Test.YtjnmbgmdkkiidaaGreatTw1
import Derived.Test.YtjnmbgmdkkiidaaGreatSm3
import Derived.Deep.RegionHeld3
import Derived.Test.YtjnmbgmdkkiidaaGreatPpaG
/-
  gazetteersame's Whole. (The verifier's own text.)
-/
namespace Go.Proofs.YtjnmbgmdkkiidaaGreat
set_option linter.unusedVariables false
open Go.RowKit Go.Shelf Go.Maps Go.Proofs.YtjnmbgmdkkiidaaGreat.Nm

theorem rs_own5 {w : World} {b g c n : Nat} {L : List Rn} (h : w.ownsRow b 59 5 (.slice (some ⟨g, 0, none⟩) n c) n (rce5 L)) : RsAt w (some ⟨g, 0, none⟩) L := fun k hk => by
  obtain ⟨rest, h1, _⟩ := rb_own h
  obtain ⟨e0, e1, e2, e3, e4⟩ := h1.cells hk
  exact ⟨g, 0, rfl, h1.lt, by simpa using e0, by simpa using e1, by simpa using e2, by simpa using e3, by simpa using e4⟩
theorem rs_left {w : World} {p : Option Addr} {L M : List Rn} (h : RsAt w p (L ++ M)) : RsAt w p L := fun k hk => by
  obtain ⟨g, off, h1, h2, h3, h4, h5, h6, h7⟩ := h k (by rw [List.length_append]; omega)
  rw [List.getElem_append_left hk] at h3 h4 h5 h6 h7
  exact ⟨g, off, h1, h2, h3, h4, h5, h6, h7⟩
/-- the two that stand behind -/
theorem rs_spare {w : World} {g : Nat} {L : List Rn} (h : RsAt w (some ⟨g, 0, none⟩) (L ++ [spR, spR])) (j : Nat) (hj : j < 2) : w.cell? ⟨g, (L.length + j) * 5, none⟩ = some (.string spT) ∧ w.cell? ⟨g, (L.length + j) * 5 + 1, none⟩ = some (.int .i64 (-77)) ∧ w.cell? ⟨g, (L.length + j) * 5 + 2, none⟩ = some (.int .i64 (-77)) ∧ w.cell? ⟨g, (L.length + j) * 5 + 3, none⟩ = some (.int .i64 (-77)) ∧ w.cell? ⟨g, (L.length + j) * 5 + 4, none⟩ = some (.string spT) := by
  have hlt : L.length + j < (L ++ [spR, spR]).length := by simp; omega
  obtain ⟨g', off, h1, h2, h3, h4, h5, h6, h7⟩ := h (L.length + j) hlt
  have hs : (L ++ [spR, spR])[L.length + j]'hlt = spR := by
    rw [List.getElem_append_right (by omega)]
    match j, hj with
    | 0, _ => simp
    | 1, _ => simp
  injection h1 with h1
  injection h1 with h1 h0
  subst h1; subst h0
  rw [hs] at h3 h4 h5 h6 h7
  simp only [Nat.zero_add] at h3 h4 h5 h6 h7
  exact ⟨h3, h4, h5, h6, h7⟩

set_option maxRecDepth 100000 in
set_option maxHeartbeats 4000000 in
/-- gazetteersame.Whole -/
theorem wholeL_any (L : List Rn) (g c : Nat) (p : Option Addr) (cap : Nat) (w : World) (hL : L.length ≤ 1048576) (hg : RsAt w (some ⟨g, 0, none⟩) (L ++ [spR, spR])) (hc : L.length + 2 ≤ c) (hat : RsAt w p L) :
    Calls Tryz.prog 26 #[.slice (some ⟨g, 0, none⟩) L.length c, .slice p L.length cap] w fun e w' => e = .returned (.bool true) ∧ Below w.heap.size w w' := by
  have HG := hide' hg
  have HA := hide' hat
  have HQ : Hid (∀ W : World, Below w.heap.size w W → W.cell? ⟨g, L.length * 5, none⟩ = some (.string spT) ∧ W.cell? ⟨g, L.length * 5 + 1, none⟩ = some (.int .i64 (-77)) ∧ W.cell? ⟨g, L.length * 5 + 2, none⟩ = some (.int .i64 (-77)) ∧ W.cell? ⟨g, L.length * 5 + 3, none⟩ = some (.int .i64 (-77)) ∧ W.cell? ⟨g, L.length * 5 + 4, none⟩ = some (.string spT) ∧ W.cell? ⟨g, (L.length + 1) * 5, none⟩ = some (.string spT) ∧ W.cell? ⟨g, (L.length + 1) * 5 + 1, none⟩ = some (.int .i64 (-77)) ∧ W.cell? ⟨g, (L.length + 1) * 5 + 2, none⟩ = some (.int .i64 (-77)) ∧ W.cell? ⟨g, (L.length + 1) * 5 + 3, none⟩ = some (.int .i64 (-77)) ∧ W.cell? ⟨g, (L.length + 1) * 5 + 4, none⟩ = some (.string spT)) := fun W hb => by
    obtain ⟨p0, p1, p2, p3, p4⟩ := rs_spare (rsAt_below HG.out hb) 0 (by omega)
    obtain ⟨r0, r1, r2, r3, r4⟩ := rs_spare (rsAt_below HG.out hb) 1 (by omega)
    exact ⟨p0, p1, p2, p3, p4, r0, r1, r2, r3, r4⟩
  clear hg hat
  have T1 : Hid True := trivial
  have HB0 : Hid (Below w.heap.size w w) := Below.refl _ _
  have hI1 : L.length + 1 < L.length + 2 := by omega
  have hI0 : L.length < L.length + 2 := by omega
  have hw1 : IntKind.i64.wrap ((L.length : Int) + 1) = (L.length : Int) + 1 := by rw [IntWalk.i64_in] <;> omega
  have hJ0 : (0 : Int) ≤ (L.length : Int) := by omega
  have hJ1 : (L.length : Int) < (L.length : Int) + 2 := by omega
  have hJ2 : (0 : Int) ≤ (L.length : Int) + 1 := by omega
  have hJ3 : (L.length : Int) + 1 < (L.length : Int) + 2 := by omega
  have hJ4 : ((L.length : Int) + 1).toNat = L.length + 1 := by omega
  obtain ⟨a0, a1, a2, a3, a4, b0, b1, b2, b3, b4⟩ := HQ.out w HB0.out
  go_enter Tryz.func26, Tryz.ntmps26
  go_wp2_with fail
  go_region_held3 (fun W => W.cell? ⟨g, L.length * 5, none⟩ = some (.string spT) ∧ W.cell? ⟨g, L.length * 5 + 1, none⟩ = some (.int .i64 (-77)) ∧ W.cell? ⟨g, L.length * 5 + 2, none⟩ = some (.int .i64 (-77)) ∧ W.cell? ⟨g, L.length * 5 + 3, none⟩ = some (.int .i64 (-77)) ∧ W.cell? ⟨g, L.length * 5 + 4, none⟩ = some (.string spT) ∧ W.cell? ⟨g, (L.length + 1) * 5, none⟩ = some (.string spT) ∧ W.cell? ⟨g, (L.length + 1) * 5 + 1, none⟩ = some (.int .i64 (-77)) ∧ W.cell? ⟨g, (L.length + 1) * 5 + 2, none⟩ = some (.int .i64 (-77)) ∧ W.cell? ⟨g, (L.length + 1) * 5 + 3, none⟩ = some (.int .i64 (-77)) ∧ W.cell? ⟨g, (L.length + 1) * 5 + 4, none⟩ = some (.string spT)) (first | go_keep | exact HQ.out _ HB3.out | exact HQ.out _ HB2.out | exact HQ.out _ HB1.out | exact HQ.out _ HB0.out) (first
    | (go_at_call 37; have _ := T1; clear T1; refine Calls.mono (show Calls Tryz.prog 37 _ _ (fun e w' => e = .returned (.bool true) ∧ Below w.heap.size w w') by first | exact (sameRecords2 (some ⟨g, 0, none⟩) p L.length c cap L w (rs_left HG.out) HA.out rfl (by omega)).mono (fun e w' ⟨h1, m, h2⟩ => ⟨h1, h2 ▸ below_drewN (Below.refl _ w) m⟩) | exact (sameRecords2 (some ⟨g, 0, none⟩) p L.length c cap L w.drew (rs_left HG.out) HA.out rfl (by omega)).mono (fun e w' ⟨h1, m, h2⟩ => ⟨h1, h2 ▸ below_drewN ((Below.refl _ w).drew) m⟩)) ?_; rintro e w1 ⟨rfl, hB1⟩; have HB1 := hide' hB1; clear hB1; have T2 : Hid True := trivial)
    | (go_at_call 38; have _ := T2; clear T2; refine (spare_any _).mono ?_; rintro e w2 ⟨rfl, hB2⟩; have HB2 : Hid (Below w.heap.size w w2) := (by first | exact bstep HB1.out hB2 HB1.out.size | exact bstep HB1.out.drew hB2 HB1.out.size); clear hB2; have T3 : Hid True := trivial)
    | (go_at_call 38; have _ := T3; clear T3; refine (spare_any _).mono ?_; rintro e w3 ⟨rfl, hB3⟩; have HB3 : Hid (Below w.heap.size w w3) := (by first | exact bstep HB2.out hB3 HB2.out.size | exact bstep HB2.out.drew hB3 HB2.out.size); clear hB3))
  all_goals
    go_wp2_with fail
    go_ret
    first
      | exact ⟨rfl, HB3.out⟩
      | exact ⟨rfl, HB3.out.drew⟩
end Go.Proofs.YtjnmbgmdkkiidaaGreat

/-
  gazetteersame's WholeMessage. (The verifier's own text.)
-/
namespace Go.Proofs.YtjnmbgmdkkiidaaGreat
set_option linter.unusedVariables false
open Go.RowKit Go.Shelf Go.Maps Go.Proofs.YtjnmbgmdkkiidaaGreat.Nm

/-- a message's twin: lists of its own, with two records behind each list of records -/
structure Tn4 (w : World) (q1 : Option Addr) (ga gu gd ca cu cd : Nat) (Q : List Qn) (A U D : List Rn) : Prop where
  q : QsAt w q1 Q
  a : RsAt w (some ⟨ga, 0, none⟩) (A ++ [spR, spR])
  u : RsAt w (some ⟨gu, 0, none⟩) (U ++ [spR, spR])
  d : RsAt w (some ⟨gd, 0, none⟩) (D ++ [spR, spR])
  ka : A.length + 2 ≤ ca
  ku : U.length + 2 ≤ cu
  kd : D.length + 2 ≤ cd
theorem Tn4.below {w w' : World} {q1 : Option Addr} {ga gu gd ca cu cd : Nat} {Q : List Qn} {A U D : List Rn} (h : Tn4 w q1 ga gu gd ca cu cd Q A U D) (hb : Below w.heap.size w w') : Tn4 w' q1 ga gu gd ca cu cd Q A U D :=
  ⟨qsAt_below h.q hb, rsAt_below h.a hb, rsAt_below h.u hb, rsAt_below h.d hb, h.ka, h.ku, h.kd⟩
theorem Tn4.ls {w w2 : World} {q1 q0 a0 u0 d0 : Option Addr} {ga gu gd ca cu cd : Nat} {Q : List Qn} {A U D : List Rn} (h : Tn4 w q1 ga gu gd ca cu cd Q A U D) (k : LsAt w2 q0 a0 u0 d0 Q A U D) : LsAt w q1 (some ⟨ga, 0, none⟩) (some ⟨gu, 0, none⟩) (some ⟨gd, 0, none⟩) Q A U D :=
  ⟨h.q, rs_left h.a, rs_left h.u, rs_left h.d, k.zqs, k.zas, k.zus, k.zds⟩

set_option maxRecDepth 100000 in
set_option maxHeartbeats 4000000 in
/-- gazetteersame.WholeMessage -/
theorem wholeM_any (i0 i2 i9 : Int) (b1 b3 b4 b5 b6 b7 b8 : Bool) (q0 a0 u0 d0 q1 : Option Addr) (ga gu gd ca cu cd c1 qc ac uc dc : Nat) (Q : List Qn) (A U D : List Rn) (w : World) (ht : Tn4 w q1 ga gu gd ca cu cd Q A U D) (hl : LsAt w q0 a0 u0 d0 Q A U D) (hln : Q.length ≤ 1048576 ∧ A.length ≤ 1048576 ∧ U.length ≤ 1048576 ∧ D.length ≤ 1048576) :
    Calls Tryz.prog 8 #[.agg #[.int .i64 i0, .bool b1, .int .i64 i2, .bool b3, .bool b4, .bool b5, .bool b6, .bool b7, .bool b8, .int .i64 i9, .slice q1 Q.length c1, .slice (some ⟨ga, 0, none⟩) A.length ca, .slice (some ⟨gu, 0, none⟩) U.length cu, .slice (some ⟨gd, 0, none⟩) D.length cd], .agg #[.int .i64 i0, .bool b1, .int .i64 i2, .bool b3, .bool b4, .bool b5, .bool b6, .bool b7, .bool b8, .int .i64 i9, .slice q0 Q.length qc, .slice a0 A.length ac, .slice u0 U.length uc, .slice d0 D.length dc]] w fun e w' => e = .returned (.bool true) ∧ Below w.heap.size w w' := by
  obtain ⟨w0, hw0⟩ : ∃ w0, (w.alloc (.cells #[.int .i64 i0, .bool b1, .int .i64 i2, .bool b3, .bool b4, .bool b5, .bool b6, .bool b7, .bool b8, .int .i64 i9, .slice q1 Q.length c1, .slice (some ⟨ga, 0, none⟩) A.length ca, .slice (some ⟨gu, 0, none⟩) U.length cu, .slice (some ⟨gd, 0, none⟩) D.length cd] 25)).alloc (.cells #[.int .i64 i0, .bool b1, .int .i64 i2, .bool b3, .bool b4, .bool b5, .bool b6, .bool b7, .bool b8, .int .i64 i9, .slice q0 Q.length qc, .slice a0 A.length ac, .slice u0 U.length uc, .slice d0 D.length dc] 25) = w0 := ⟨_, rfl⟩
  have HX0 : Hid (Bx w0 w.heap.size #[.int .i64 i0, .bool b1, .int .i64 i2, .bool b3, .bool b4, .bool b5, .bool b6, .bool b7, .bool b8, .int .i64 i9, .slice q1 Q.length c1, .slice (some ⟨ga, 0, none⟩) A.length ca, .slice (some ⟨gu, 0, none⟩) U.length cu, .slice (some ⟨gd, 0, none⟩) D.length cd] 25) := hw0 ▸ Bx.grown (World.alloc_heap_new w _) (World.grownBy_alloc _ _ none) (by simp)
  have HY0 : Hid (Bx w0 (w.heap.size + 1) #[.int .i64 i0, .bool b1, .int .i64 i2, .bool b3, .bool b4, .bool b5, .bool b6, .bool b7, .bool b8, .int .i64 i9, .slice q0 Q.length qc, .slice a0 A.length ac, .slice u0 U.length uc, .slice d0 D.length dc] 25) := by
    have := World.alloc_heap_new (w.alloc (.cells #[.int .i64 i0, .bool b1, .int .i64 i2, .bool b3, .bool b4, .bool b5, .bool b6, .bool b7, .bool b8, .int .i64 i9, .slice q1 Q.length c1, .slice (some ⟨ga, 0, none⟩) A.length ca, .slice (some ⟨gu, 0, none⟩) U.length cu, .slice (some ⟨gd, 0, none⟩) D.length cd] 25)) (.cells #[.int .i64 i0, .bool b1, .int .i64 i2, .bool b3, .bool b4, .bool b5, .bool b6, .bool b7, .bool b8, .int .i64 i9, .slice q0 Q.length qc, .slice a0 A.length ac, .slice u0 U.length uc, .slice d0 D.length dc] 25)
    rw [World.size_alloc] at this
    rw [← hw0]
    exact this
  have HB0 : Hid (Below w.heap.size w w0) := by rw [← hw0]; exact ((Below.refl _ w).alloc (Nat.le_refl _) _).alloc (by simp) _
  have HT := hide' ht
  have HL := hide' hl
  have HLN := hide' hln
  obtain ⟨x0, x1, x2, x3, x4, x5, x6, x7, x8, x9, x10, x11, x12, x13⟩ := bx14 HX0.out
  obtain ⟨y0, y1, y2, y3, y4, y5, y6, y7, y8, y9, y10, y11, y12, y13⟩ := bx14 HY0.out
  clear ht hl hln
  have T1 : Hid True := trivial
  go_enter Tryz.func8, Tryz.ntmps8
  go_wp2_with (first
    | (go_at_call 24; refine (sameHead i0 i2 i9 b1 b3 b4 b5 b6 b7 b8 q1 (some ⟨ga, 0, none⟩) (some ⟨gu, 0, none⟩) (some ⟨gd, 0, none⟩) q0 a0 u0 d0 Q.length A.length U.length D.length c1 ca cu cd qc ac uc dc _).mono ?_; rintro e w1 ⟨rfl, hB⟩; have HB1 := hide' (bstep HB0.out hB HB0.out.size); have HX1 : Hid (Bx w1 w.heap.size #[.int .i64 i0, .bool b1, .int .i64 i2, .bool b3, .bool b4, .bool b5, .bool b6, .bool b7, .bool b8, .int .i64 i9, .slice q1 Q.length c1, .slice (some ⟨ga, 0, none⟩) A.length ca, .slice (some ⟨gu, 0, none⟩) U.length cu, .slice (some ⟨gd, 0, none⟩) D.length cd] 25) := HX0.out.below hB HX0.out.lt; have HY1 : Hid (Bx w1 (w.heap.size + 1) #[.int .i64 i0, .bool b1, .int .i64 i2, .bool b3, .bool b4, .bool b5, .bool b6, .bool b7, .bool b8, .int .i64 i9, .slice q0 Q.length qc, .slice a0 A.length ac, .slice u0 U.length uc, .slice d0 D.length dc] 25) := HY0.out.below hB HY0.out.lt; clear hB x0 x1 x2 x3 x4 x5 x6 x7 x8 x9 x10 x11 x12 x13 y0 y1 y2 y3 y4 y5 y6 y7 y8 y9 y10 y11 y12 y13; obtain ⟨x0, x1, x2, x3, x4, x5, x6, x7, x8, x9, x10, x11, x12, x13⟩ := bx14 HX1.out; obtain ⟨y0, y1, y2, y3, y4, y5, y6, y7, y8, y9, y10, y11, y12, y13⟩ := bx14 HY1.out)
    | (go_at_call 25; refine (sameQuestions2 q1 q0 Q.length c1 qc Q _ (HT.out.below HB1.out).q (HL.out.below HB1.out).q rfl (by have := HLN.out.1; omega)).mono ?_; rintro e w2 ⟨rfl, n2, hw2⟩; have hB : Below w1.heap.size w1 w2 := hw2 ▸ below_drewN (Below.refl _ w1) n2; clear hw2; have HB2 := hide' (bstep HB1.out hB HB1.out.size); have HX2 : Hid (Bx w2 w.heap.size #[.int .i64 i0, .bool b1, .int .i64 i2, .bool b3, .bool b4, .bool b5, .bool b6, .bool b7, .bool b8, .int .i64 i9, .slice q1 Q.length c1, .slice (some ⟨ga, 0, none⟩) A.length ca, .slice (some ⟨gu, 0, none⟩) U.length cu, .slice (some ⟨gd, 0, none⟩) D.length cd] 25) := HX1.out.below hB HX1.out.lt; have HY2 : Hid (Bx w2 (w.heap.size + 1) #[.int .i64 i0, .bool b1, .int .i64 i2, .bool b3, .bool b4, .bool b5, .bool b6, .bool b7, .bool b8, .int .i64 i9, .slice q0 Q.length qc, .slice a0 A.length ac, .slice u0 U.length uc, .slice d0 D.length dc] 25) := HY1.out.below hB HY1.out.lt; clear hB x0 x1 x2 x3 x4 x5 x6 x7 x8 x9 x10 x11 x12 x13 y0 y1 y2 y3 y4 y5 y6 y7 y8 y9 y10 y11 y12 y13; obtain ⟨x0, x1, x2, x3, x4, x5, x6, x7, x8, x9, x10, x11, x12, x13⟩ := bx14 HX2.out; obtain ⟨y0, y1, y2, y3, y4, y5, y6, y7, y8, y9, y10, y11, y12, y13⟩ := bx14 HY2.out)
    | (go_at_call 26; have _ := T1; clear T1; refine (wholeL_any A ga ca a0 ac _ HLN.out.2.1 (HT.out.below HB2.out).a HT.out.ka (HL.out.below HB2.out).a).mono ?_; rintro e w3 ⟨rfl, hB⟩; have HB3 := hide' (bstep HB2.out hB HB2.out.size); have HX3 : Hid (Bx w3 w.heap.size #[.int .i64 i0, .bool b1, .int .i64 i2, .bool b3, .bool b4, .bool b5, .bool b6, .bool b7, .bool b8, .int .i64 i9, .slice q1 Q.length c1, .slice (some ⟨ga, 0, none⟩) A.length ca, .slice (some ⟨gu, 0, none⟩) U.length cu, .slice (some ⟨gd, 0, none⟩) D.length cd] 25) := HX2.out.below hB HX2.out.lt; have HY3 : Hid (Bx w3 (w.heap.size + 1) #[.int .i64 i0, .bool b1, .int .i64 i2, .bool b3, .bool b4, .bool b5, .bool b6, .bool b7, .bool b8, .int .i64 i9, .slice q0 Q.length qc, .slice a0 A.length ac, .slice u0 U.length uc, .slice d0 D.length dc] 25) := HY2.out.below hB HY2.out.lt; clear hB x0 x1 x2 x3 x4 x5 x6 x7 x8 x9 x10 x11 x12 x13 y0 y1 y2 y3 y4 y5 y6 y7 y8 y9 y10 y11 y12 y13; obtain ⟨x0, x1, x2, x3, x4, x5, x6, x7, x8, x9, x10, x11, x12, x13⟩ := bx14 HX3.out; obtain ⟨y0, y1, y2, y3, y4, y5, y6, y7, y8, y9, y10, y11, y12, y13⟩ := bx14 HY3.out; have T2 : Hid True := trivial)
    | (go_at_call 26; have _ := T2; clear T2; refine (wholeL_any U gu cu u0 uc _ HLN.out.2.2.1 (HT.out.below HB3.out).u HT.out.ku (HL.out.below HB3.out).u).mono ?_; rintro e w4 ⟨rfl, hB⟩; have HB4 := hide' (bstep HB3.out hB HB3.out.size); have HX4 : Hid (Bx w4 w.heap.size #[.int .i64 i0, .bool b1, .int .i64 i2, .bool b3, .bool b4, .bool b5, .bool b6, .bool b7, .bool b8, .int .i64 i9, .slice q1 Q.length c1, .slice (some ⟨ga, 0, none⟩) A.length ca, .slice (some ⟨gu, 0, none⟩) U.length cu, .slice (some ⟨gd, 0, none⟩) D.length cd] 25) := HX3.out.below hB HX3.out.lt; have HY4 : Hid (Bx w4 (w.heap.size + 1) #[.int .i64 i0, .bool b1, .int .i64 i2, .bool b3, .bool b4, .bool b5, .bool b6, .bool b7, .bool b8, .int .i64 i9, .slice q0 Q.length qc, .slice a0 A.length ac, .slice u0 U.length uc, .slice d0 D.length dc] 25) := HY3.out.below hB HY3.out.lt; clear hB x0 x1 x2 x3 x4 x5 x6 x7 x8 x9 x10 x11 x12 x13 y0 y1 y2 y3 y4 y5 y6 y7 y8 y9 y10 y11 y12 y13; obtain ⟨x0, x1, x2, x3, x4, x5, x6, x7, x8, x9, x10, x11, x12, x13⟩ := bx14 HX4.out; obtain ⟨y0, y1, y2, y3, y4, y5, y6, y7, y8, y9, y10, y11, y12, y13⟩ := bx14 HY4.out; have T3 : Hid True := trivial)
    | (go_at_call 26; have _ := T3; clear T3; refine (wholeL_any D gd cd d0 dc _ HLN.out.2.2.2 (HT.out.below HB4.out).d HT.out.kd (HL.out.below HB4.out).d).mono ?_; rintro e w5 ⟨rfl, hB⟩; have HBf := hide' (bstep HB4.out hB HB4.out.size); clear hB))
  go_ret
  exact ⟨rfl, HBf.out⟩
end Go.Proofs.YtjnmbgmdkkiidaaGreat
