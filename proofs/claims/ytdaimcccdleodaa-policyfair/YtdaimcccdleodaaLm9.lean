import Derived.Test.YtdaimcccdleodaaLm8
/-
  Chapter 15: (*policy.Limiter).Allow. (The verifier's own text.)
-/
namespace Go.Proofs.Ytdaimcccdleodaa
set_option linter.unusedVariables false
set_option linter.unusedSimpArgs false
open Go.RowKit Go.Shelf Go.Maps

def alwE (L M base n : Nat) (rate burst : Int) (b : Bool) (T : List Tr) (w : World) (e : Ending) (w' : World) : Prop :=
  ∃ S' qv' n', e = .returned (.bool b) ∧ Lim w' L M base qv' n' rate burst S' ∧ S'.map trE = T ∧ n' ≤ n + 1 ∧ Ft LK base w w'
theorem party_yes {s x : ByteArray} (h : whoB s = some x) (W : World) : Calls Try.prog 20 #[.string s] W fun e w' => e = .returned (.tuple #[.agg #[.int .i64 (psz x), .int .u8 (pb x 0), .int .u8 (pb x 1), .int .u8 (pb x 2), .int .u8 (pb x 3), .int .u8 (pb x 4), .int .u8 (pb x 5), .int .u8 (pb x 6)], .bool true]) ∧ Below W.heap.size W w' := by
  have := party_any s W
  rw [h] at this
  exact this
theorem party_none {s : ByteArray} (h : whoB s = none) (W : World) : Calls Try.prog 20 #[.string s] W fun e w' => e = .returned (.tuple #[.agg #[.int .i64 0, .int .u8 0, .int .u8 0, .int .u8 0, .int .u8 0, .int .u8 0, .int .u8 0, .int .u8 0], .bool false]) ∧ Below W.heap.size W w' := by
  have := party_any s W
  rw [h] at this
  exact this
set_option maxRecDepth 100000 in
set_option maxHeartbeats 4000000 in
theorem allow_no (L M base n : Nat) (qv : Value) (rate burst now : Int) (S : List En) (s : ByteArray) (w : World) (h : Lim w L M base qv n rate burst S) (hs : whoB s = none) :
    Calls Try.prog 12 #[.pointer (some ⟨L, 0, none⟩), .string s, .int .i64 now] w (alwE L M base n rate burst false (S.map trE) w) := by
  have HP := hidep (party_none hs)
  have H := hidep h
  clear h hs
  go_enter Try.func12, Try.ntmps12
  go_wp2_with (first
    | (go_at_call 20; (with_reducible refine (HP.out _).mono ?_); rintro e w1 ⟨rfl, hB1⟩; have HB := hidep hB1; clear hB1))
  go_ret
  have hg := grown_trans (grown_below HB.out none) (World.grownBy_alloc w1 (.cells #[.int .i64 0, .int .u8 0, .int .u8 0, .int .u8 0, .int .u8 0, .int .u8 0, .int .u8 0, .int .u8 0] 59) none)
  exact ⟨_, _, _, rfl, H.out.grown hg, rfl, Nat.le_succ _, Ft.idle hg⟩

set_option maxRecDepth 100000 in
set_option maxHeartbeats 4000000 in
theorem allow_in1 (L M base n : Nat) (qv : Value) (rate burst now : Int) (S : List En) (s x : ByteArray) (w : World) (h : Lim w L M base qv n rate burst S) (hs : whoB s = some x) (e0 : En) (he : e0 ∈ S) (hw : e0.who = x)
    (hr0 : 0 ≤ rate) (hr1 : rate ≤ 1000) (hb0 : 1 ≤ burst) (hb1 : burst ≤ 1000) (hnow : (Lit.int .i64 now).wf = true) (hz : reL rate burst e0.left e0.last now = 0) :
    Calls Try.prog 12 #[.pointer (some ⟨L, 0, none⟩), .string s, .int .i64 now] w (alwE L M base n rate burst false (putT (addT burst (S.map trE) x now) x 0 (reT e0.last now)) w) := by
  have HP := hidep (party_yes hs)
  have hx : paG x := who_pG hs
  have HX := hidep hx
  have H := hidep h
  have hF : blkF S x = some e0.blk := by
    unfold blkF
    rw [← hw, find_who h.who he]
    rfl
  have hE := h.good e0 he
  have HE := hidep hE
  have HI := hidep he
  have HW := hidep hw
  have HR := hidep (And.intro hr0 (And.intro hr1 (And.intro hb0 (And.intro hb1 hnow))))
  obtain ⟨l1, hl1⟩ : ∃ l1, reL rate burst e0.left e0.last now = l1 := ⟨_, rfl⟩
  have hr := reL_range (rate := rate) (burst := burst) (left := e0.left) (last := e0.last) (now := now) hr0 (by omega) hE.2.1 hE.2.2.1
  rw [hl1] at hz hr
  try rw [hl1]
  have HL1 := hidep hl1
  have HRL := hidep hr
  have hz1 : (l1 == 0) = true := by simp [hz]
  have hwr : IntKind.i64.wrap (l1 - 1) = l1 - 1 := by rw [IntKind.wrap_i64]; omega
  have HZ := hidep hz
  have hbz : (burst == 0) = false := by simp; omega
  have hs1 : w.cell? ⟨L, 1, none⟩ = some (.int .i64 burst) := h.bx.cell rfl
  have HWL : Hid (∀ W V : World, Below W.heap.size W V → w.grownBy W none → Lim (V.alloc (.cells #[.int .i64 (psz x), .int .u8 (pb x 0), .int .u8 (pb x 1), .int .u8 (pb x 2), .int .u8 (pb x 3), .int .u8 (pb x 4), .int .u8 (pb x 5), .int .u8 (pb x 6)] 59)) L M base qv n rate burst S ∧ Bx (V.alloc (.cells #[.int .i64 (psz x), .int .u8 (pb x 0), .int .u8 (pb x 1), .int .u8 (pb x 2), .int .u8 (pb x 3), .int .u8 (pb x 4), .int .u8 (pb x 5), .int .u8 (pb x 6)] 59)) V.heap.size #[.int .i64 (psz x), .int .u8 (pb x 0), .int .u8 (pb x 1), .int .u8 (pb x 2), .int .u8 (pb x 3), .int .u8 (pb x 4), .int .u8 (pb x 5), .int .u8 (pb x 6)] 59 ∧ w.grownBy (V.alloc (.cells #[.int .i64 (psz x), .int .u8 (pb x 0), .int .u8 (pb x 1), .int .u8 (pb x 2), .int .u8 (pb x 3), .int .u8 (pb x 4), .int .u8 (pb x 5), .int .u8 (pb x 6)] 59)) none) := fun W V hB hg => by
    have h2 := grown_trans hg (grown_trans (grown_below hB none) (World.grownBy_alloc V (.cells #[.int .i64 (psz x), .int .u8 (pb x 0), .int .u8 (pb x 1), .int .u8 (pb x 2), .int .u8 (pb x 3), .int .u8 (pb x 4), .int .u8 (pb x 5), .int .u8 (pb x 6)] 59) none))
    exact ⟨h.grown h2, World.alloc_heap_new V _, h2⟩
  clear hr0 hr1 hb0 hb1 hnow hr hl1 hz h he hE hw
  go_enter Try.func12, Try.ntmps12
  go_wp2_with (first
    | (go_at_call 20; (with_reducible refine (HP.out _).mono ?_); rintro e w1 ⟨rfl, hB1⟩; obtain ⟨w2, hw2⟩ : ∃ w2, w1.alloc (.cells #[.int .i64 (psz x), .int .u8 (pb x 0), .int .u8 (pb x 1), .int .u8 (pb x 2), .int .u8 (pb x 3), .int .u8 (pb x 4), .int .u8 (pb x 5), .int .u8 (pb x 6)] 59) = w2 := ⟨_, rfl⟩; obtain ⟨hA2, hP2, hG2⟩ := HWL.out _ _ hB1 (grown_refl _ _); rw [hw2] at hA2 hP2 hG2; have A2 := hidep hA2; have P2 := hidep hP2; have G2 := hidep hG2; obtain ⟨t0, t1, t2, t3, t4, t5, t6, t7⟩ := bxe hP2; have c1 : w2.cell? ⟨L, 1, none⟩ = some (.int .i64 burst) := hA2.bx.cell rfl; have c2 : w2.cell? ⟨L, 2, none⟩ = some (.map (some M)) := hA2.bx.cell rfl; have hm2 : MPa w2.drew M n (blkF S) := hA2.mp.grown (grown_drewN w2 1 none) (by simp); have hlk := hm2.look HX.out; rw [hF] at hlk; unfold paV ptV at hlk; simp only [Option.map_some, Option.map_none, Option.isSome_some, Option.isSome_none] at hlk; clear hA2 hP2 hG2 hB1 hm2))
  go_region_held3 (fun V => V.cell? ⟨L, 2, none⟩ = some (.map (some M)) ∧ V.cell? ⟨w1.heap.size, 0, none⟩ = some (.int .i64 (psz x)) ∧ V.cell? ⟨w1.heap.size, 1, none⟩ = some (.int .u8 (pb x 0)) ∧ V.cell? ⟨w1.heap.size, 2, none⟩ = some (.int .u8 (pb x 1)) ∧ V.cell? ⟨w1.heap.size, 3, none⟩ = some (.int .u8 (pb x 2)) ∧ V.cell? ⟨w1.heap.size, 4, none⟩ = some (.int .u8 (pb x 3)) ∧ V.cell? ⟨w1.heap.size, 5, none⟩ = some (.int .u8 (pb x 4)) ∧ V.cell? ⟨w1.heap.size, 6, none⟩ = some (.int .u8 (pb x 5)) ∧ V.cell? ⟨w1.heap.size, 7, none⟩ = some (.int .u8 (pb x 6))) (first | go_keep) (fail)
  have A2d : Lim w2.drew L M base qv n rate burst S := A2.out.grown (grown_drewN w2 1 none)
  have hRf := refill_any L e0.blk rate burst e0.left e0.last now (.map (some M)) qv w2.drew A2d.bx (A2d.ac e0 HI.out).1 (bx_kind A2d.bx (A2d.ac e0 HI.out).1 (by decide)) HR.out.1 HR.out.2.1 HR.out.2.2.1 HR.out.2.2.2.1 HE.out.2.1 HE.out.2.2.1 HR.out.2.2.2.2 HE.out.2.2.2
  rw [HL1.out] at hRf
  have HRF := hidep hRf
  have D2 := hidep A2d
  clear hRf A2d
  all_goals
    go_wp2_with (first
      | (go_at_call 22; (with_reducible refine HRF.out.mono ?_); rintro e w5 ⟨rfl, hb5, hg5⟩; have B5 := hidep hb5; have G5 := hidep hg5; have k0 : w5.cell? ⟨e0.blk, 0, none⟩ = some (.int .i64 l1) := hb5.cell rfl; have kf : w5.frozen? ⟨e0.blk, 0, none⟩ = false := hb5.free 0; clear hb5 hg5))
    have hp := Lim.put (e := e0) D2.out HI.out G5.out B5.out HRL.out.1 HRL.out.2 (reT_wf HE.out.2.2.2 HR.out.2.2.2.2)
    go_ret
    have hz0 := HZ.out
    subst hz0
    exact ⟨_, _, _, rfl, hp.1, (by rw [putE_T, ← HW.out, addT_in burst now HI.out]), Nat.le_succ _, (Ft.idle (grown_trans G2.out (grown_drewN w2 1 none))).trans hp.2⟩

set_option maxRecDepth 100000 in
set_option maxHeartbeats 4000000 in
theorem allow_in0 (L M base n : Nat) (qv : Value) (rate burst now : Int) (S : List En) (s x : ByteArray) (w : World) (h : Lim w L M base qv n rate burst S) (hs : whoB s = some x) (e0 : En) (he : e0 ∈ S) (hw : e0.who = x)
    (hr0 : 0 ≤ rate) (hr1 : rate ≤ 1000) (hb0 : 1 ≤ burst) (hb1 : burst ≤ 1000) (hnow : (Lit.int .i64 now).wf = true) (hz : ¬ reL rate burst e0.left e0.last now = 0) :
    Calls Try.prog 12 #[.pointer (some ⟨L, 0, none⟩), .string s, .int .i64 now] w (alwE L M base n rate burst true (putT (addT burst (S.map trE) x now) x (reL rate burst e0.left e0.last now - 1) (reT e0.last now)) w) := by
  have HP := hidep (party_yes hs)
  have hx : paG x := who_pG hs
  have HX := hidep hx
  have H := hidep h
  have hF : blkF S x = some e0.blk := by
    unfold blkF
    rw [← hw, find_who h.who he]
    rfl
  have hE := h.good e0 he
  have HE := hidep hE
  have HI := hidep he
  have HW := hidep hw
  have HR := hidep (And.intro hr0 (And.intro hr1 (And.intro hb0 (And.intro hb1 hnow))))
  obtain ⟨l1, hl1⟩ : ∃ l1, reL rate burst e0.left e0.last now = l1 := ⟨_, rfl⟩
  have hr := reL_range (rate := rate) (burst := burst) (left := e0.left) (last := e0.last) (now := now) hr0 (by omega) hE.2.1 hE.2.2.1
  rw [hl1] at hz hr
  try rw [hl1]
  have HL1 := hidep hl1
  have HRL := hidep hr
  have hz1 : (l1 == 0) = false := by simp [hz]
  have hwr : IntKind.i64.wrap (l1 - 1) = l1 - 1 := by rw [IntKind.wrap_i64]; omega
  have HZ := hidep hz
  have hbz : (burst == 0) = false := by simp; omega
  have hs1 : w.cell? ⟨L, 1, none⟩ = some (.int .i64 burst) := h.bx.cell rfl
  have HWL : Hid (∀ W V : World, Below W.heap.size W V → w.grownBy W none → Lim (V.alloc (.cells #[.int .i64 (psz x), .int .u8 (pb x 0), .int .u8 (pb x 1), .int .u8 (pb x 2), .int .u8 (pb x 3), .int .u8 (pb x 4), .int .u8 (pb x 5), .int .u8 (pb x 6)] 59)) L M base qv n rate burst S ∧ Bx (V.alloc (.cells #[.int .i64 (psz x), .int .u8 (pb x 0), .int .u8 (pb x 1), .int .u8 (pb x 2), .int .u8 (pb x 3), .int .u8 (pb x 4), .int .u8 (pb x 5), .int .u8 (pb x 6)] 59)) V.heap.size #[.int .i64 (psz x), .int .u8 (pb x 0), .int .u8 (pb x 1), .int .u8 (pb x 2), .int .u8 (pb x 3), .int .u8 (pb x 4), .int .u8 (pb x 5), .int .u8 (pb x 6)] 59 ∧ w.grownBy (V.alloc (.cells #[.int .i64 (psz x), .int .u8 (pb x 0), .int .u8 (pb x 1), .int .u8 (pb x 2), .int .u8 (pb x 3), .int .u8 (pb x 4), .int .u8 (pb x 5), .int .u8 (pb x 6)] 59)) none) := fun W V hB hg => by
    have h2 := grown_trans hg (grown_trans (grown_below hB none) (World.grownBy_alloc V (.cells #[.int .i64 (psz x), .int .u8 (pb x 0), .int .u8 (pb x 1), .int .u8 (pb x 2), .int .u8 (pb x 3), .int .u8 (pb x 4), .int .u8 (pb x 5), .int .u8 (pb x 6)] 59) none))
    exact ⟨h.grown h2, World.alloc_heap_new V _, h2⟩
  clear hr0 hr1 hb0 hb1 hnow hr hl1 hz h he hE hw
  go_enter Try.func12, Try.ntmps12
  go_wp2_with (first
    | (go_at_call 20; (with_reducible refine (HP.out _).mono ?_); rintro e w1 ⟨rfl, hB1⟩; obtain ⟨w2, hw2⟩ : ∃ w2, w1.alloc (.cells #[.int .i64 (psz x), .int .u8 (pb x 0), .int .u8 (pb x 1), .int .u8 (pb x 2), .int .u8 (pb x 3), .int .u8 (pb x 4), .int .u8 (pb x 5), .int .u8 (pb x 6)] 59) = w2 := ⟨_, rfl⟩; obtain ⟨hA2, hP2, hG2⟩ := HWL.out _ _ hB1 (grown_refl _ _); rw [hw2] at hA2 hP2 hG2; have A2 := hidep hA2; have P2 := hidep hP2; have G2 := hidep hG2; obtain ⟨t0, t1, t2, t3, t4, t5, t6, t7⟩ := bxe hP2; have c1 : w2.cell? ⟨L, 1, none⟩ = some (.int .i64 burst) := hA2.bx.cell rfl; have c2 : w2.cell? ⟨L, 2, none⟩ = some (.map (some M)) := hA2.bx.cell rfl; have hm2 : MPa w2.drew M n (blkF S) := hA2.mp.grown (grown_drewN w2 1 none) (by simp); have hlk := hm2.look HX.out; rw [hF] at hlk; unfold paV ptV at hlk; simp only [Option.map_some, Option.map_none, Option.isSome_some, Option.isSome_none] at hlk; clear hA2 hP2 hG2 hB1 hm2))
  go_region_held3 (fun V => V.cell? ⟨L, 2, none⟩ = some (.map (some M)) ∧ V.cell? ⟨w1.heap.size, 0, none⟩ = some (.int .i64 (psz x)) ∧ V.cell? ⟨w1.heap.size, 1, none⟩ = some (.int .u8 (pb x 0)) ∧ V.cell? ⟨w1.heap.size, 2, none⟩ = some (.int .u8 (pb x 1)) ∧ V.cell? ⟨w1.heap.size, 3, none⟩ = some (.int .u8 (pb x 2)) ∧ V.cell? ⟨w1.heap.size, 4, none⟩ = some (.int .u8 (pb x 3)) ∧ V.cell? ⟨w1.heap.size, 5, none⟩ = some (.int .u8 (pb x 4)) ∧ V.cell? ⟨w1.heap.size, 6, none⟩ = some (.int .u8 (pb x 5)) ∧ V.cell? ⟨w1.heap.size, 7, none⟩ = some (.int .u8 (pb x 6))) (first | go_keep) (fail)
  have A2d : Lim w2.drew L M base qv n rate burst S := A2.out.grown (grown_drewN w2 1 none)
  have hRf := refill_any L e0.blk rate burst e0.left e0.last now (.map (some M)) qv w2.drew A2d.bx (A2d.ac e0 HI.out).1 (bx_kind A2d.bx (A2d.ac e0 HI.out).1 (by decide)) HR.out.1 HR.out.2.1 HR.out.2.2.1 HR.out.2.2.2.1 HE.out.2.1 HE.out.2.2.1 HR.out.2.2.2.2 HE.out.2.2.2
  rw [HL1.out] at hRf
  have HRF := hidep hRf
  have D2 := hidep A2d
  clear hRf A2d
  all_goals
    go_wp2_with (first
      | (go_at_call 22; (with_reducible refine HRF.out.mono ?_); rintro e w5 ⟨rfl, hb5, hg5⟩; have B5 := hidep hb5; have G5 := hidep hg5; have k0 : w5.cell? ⟨e0.blk, 0, none⟩ = some (.int .i64 l1) := hb5.cell rfl; have kf : w5.frozen? ⟨e0.blk, 0, none⟩ = false := hb5.free 0; clear hb5 hg5))
    have b6 : Bx (w5.setCell ⟨e0.blk, 0, none⟩ (.int .i64 (l1 - 1))) e0.blk #[.int .i64 (l1 - 1), .int .i64 (reT e0.last now)] 67 := B5.out.set 0 _
    have hp := Lim.put (e := e0) D2.out HI.out (grown_trans G5.out (grown_set w5 e0.blk 0 (.int .i64 (l1 - 1)))) b6 (by have := HZ.out; have := HRL.out; omega) (by have := HRL.out; omega) (reT_wf HE.out.2.2.2 HR.out.2.2.2.2)
    go_ret
    exact ⟨_, _, _, rfl, hp.1, (by rw [putE_T, ← HW.out, addT_in burst now HI.out]), Nat.le_succ _, (Ft.idle (grown_trans G2.out (grown_drewN w2 1 none))).trans hp.2⟩

set_option maxRecDepth 100000 in
set_option maxHeartbeats 4000000 in
theorem allow_out1 (L M base n : Nat) (qv : Value) (rate burst now : Int) (S : List En) (s x : ByteArray) (w : World) (h : Lim w L M base qv n rate burst S) (hs : whoB s = some x) (hnew : ∀ e ∈ S, e.who ≠ x) (hn : n < maxLen)
    (hr0 : 0 ≤ rate) (hr1 : rate ≤ 1000) (hb0 : 1 ≤ burst) (hb1 : burst ≤ 1000) (hnow : (Lit.int .i64 now).wf = true) (hz : reL rate burst burst now now = 0) :
    Calls Try.prog 12 #[.pointer (some ⟨L, 0, none⟩), .string s, .int .i64 now] w (alwE L M base n rate burst false (putT (addT burst (S.map trE) x now) x 0 (reT now now)) w) := by
  have HP := hidep (party_yes hs)
  have hx : paG x := who_pG hs
  have HX := hidep hx
  have H := hidep h
  have hF : blkF S x = none := blkF_none hnew
  have HN := hidep hnew
  have HNn := hidep hn
  have HR := hidep (And.intro hr0 (And.intro hr1 (And.intro hb0 (And.intro hb1 hnow))))
  obtain ⟨l1, hl1⟩ : ∃ l1, reL rate burst burst now now = l1 := ⟨_, rfl⟩
  have hr := reL_range (rate := rate) (burst := burst) (left := burst) (last := now) (now := now) hr0 (by omega) (by omega) (Int.le_refl _)
  rw [hl1] at hz hr
  try rw [hl1]
  have HL1 := hidep hl1
  have HRL := hidep hr
  have hz1 : (l1 == 0) = true := by simp [hz]
  have hwr : IntKind.i64.wrap (l1 - 1) = l1 - 1 := by rw [IntKind.wrap_i64]; omega
  have HZ := hidep hz
  have hbz : (burst == 0) = false := by simp; omega
  have hs1 : w.cell? ⟨L, 1, none⟩ = some (.int .i64 burst) := h.bx.cell rfl
  have HWL : Hid (∀ W V : World, Below W.heap.size W V → w.grownBy W none → Lim (V.alloc (.cells #[.int .i64 (psz x), .int .u8 (pb x 0), .int .u8 (pb x 1), .int .u8 (pb x 2), .int .u8 (pb x 3), .int .u8 (pb x 4), .int .u8 (pb x 5), .int .u8 (pb x 6)] 59)) L M base qv n rate burst S ∧ Bx (V.alloc (.cells #[.int .i64 (psz x), .int .u8 (pb x 0), .int .u8 (pb x 1), .int .u8 (pb x 2), .int .u8 (pb x 3), .int .u8 (pb x 4), .int .u8 (pb x 5), .int .u8 (pb x 6)] 59)) V.heap.size #[.int .i64 (psz x), .int .u8 (pb x 0), .int .u8 (pb x 1), .int .u8 (pb x 2), .int .u8 (pb x 3), .int .u8 (pb x 4), .int .u8 (pb x 5), .int .u8 (pb x 6)] 59 ∧ w.grownBy (V.alloc (.cells #[.int .i64 (psz x), .int .u8 (pb x 0), .int .u8 (pb x 1), .int .u8 (pb x 2), .int .u8 (pb x 3), .int .u8 (pb x 4), .int .u8 (pb x 5), .int .u8 (pb x 6)] 59)) none) := fun W V hB hg => by
    have h2 := grown_trans hg (grown_trans (grown_below hB none) (World.grownBy_alloc V (.cells #[.int .i64 (psz x), .int .u8 (pb x 0), .int .u8 (pb x 1), .int .u8 (pb x 2), .int .u8 (pb x 3), .int .u8 (pb x 4), .int .u8 (pb x 5), .int .u8 (pb x 6)] 59) none))
    exact ⟨h.grown h2, World.alloc_heap_new V _, h2⟩
  clear hr0 hr1 hb0 hb1 hnow hr hl1 hz h hnew hn
  go_enter Try.func12, Try.ntmps12
  go_wp2_with (first
    | (go_at_call 20; (with_reducible refine (HP.out _).mono ?_); rintro e w1 ⟨rfl, hB1⟩; obtain ⟨w2, hw2⟩ : ∃ w2, w1.alloc (.cells #[.int .i64 (psz x), .int .u8 (pb x 0), .int .u8 (pb x 1), .int .u8 (pb x 2), .int .u8 (pb x 3), .int .u8 (pb x 4), .int .u8 (pb x 5), .int .u8 (pb x 6)] 59) = w2 := ⟨_, rfl⟩; obtain ⟨hA2, hP2, hG2⟩ := HWL.out _ _ hB1 (grown_refl _ _); rw [hw2] at hA2 hP2 hG2; have A2 := hidep hA2; have P2 := hidep hP2; have G2 := hidep hG2; obtain ⟨t0, t1, t2, t3, t4, t5, t6, t7⟩ := bxe hP2; have c1 : w2.cell? ⟨L, 1, none⟩ = some (.int .i64 burst) := hA2.bx.cell rfl; have c2 : w2.cell? ⟨L, 2, none⟩ = some (.map (some M)) := hA2.bx.cell rfl; have hm2 : MPa w2.drew M n (blkF S) := hA2.mp.grown (grown_drewN w2 1 none) (by simp); have hlk := hm2.look HX.out; rw [hF] at hlk; unfold paV ptV at hlk; simp only [Option.map_some, Option.map_none, Option.isSome_some, Option.isSome_none] at hlk; clear hA2 hP2 hG2 hB1 hm2))
  go_region_held3 (fun V => V.cell? ⟨L, 2, none⟩ = some (.map (some M)) ∧ V.cell? ⟨w1.heap.size, 0, none⟩ = some (.int .i64 (psz x)) ∧ V.cell? ⟨w1.heap.size, 1, none⟩ = some (.int .u8 (pb x 0)) ∧ V.cell? ⟨w1.heap.size, 2, none⟩ = some (.int .u8 (pb x 1)) ∧ V.cell? ⟨w1.heap.size, 3, none⟩ = some (.int .u8 (pb x 2)) ∧ V.cell? ⟨w1.heap.size, 4, none⟩ = some (.int .u8 (pb x 3)) ∧ V.cell? ⟨w1.heap.size, 5, none⟩ = some (.int .u8 (pb x 4)) ∧ V.cell? ⟨w1.heap.size, 6, none⟩ = some (.int .u8 (pb x 5)) ∧ V.cell? ⟨w1.heap.size, 7, none⟩ = some (.int .u8 (pb x 6))) (first | go_keep) (fail)
  all_goals
    go_wp2_with (first
      | (go_at_call 21; refine (admit_any L M base n qv rate burst now S x _ (A2.out.grown (grown_drewN w2 1 none)) HX.out HN.out HNn.out (by have := HR.out.2.2.1; omega) HR.out.2.2.2.2).mono ?_; rintro e w4 ⟨A, qv4, rfl, hl4, hf4⟩; have L4 := hidep hl4; have F4 := hidep hf4; have hRf := refill_any L A rate burst burst now now (.map (some M)) qv4 w4 hl4.bx (hl4.ac ⟨x, A, burst, now⟩ (by simp)).1 (bx_kind hl4.bx (hl4.ac ⟨x, A, burst, now⟩ (by simp)).1 (by decide)) HR.out.1 HR.out.2.1 HR.out.2.2.1 HR.out.2.2.2.1 (by have := HR.out.2.2.1; omega) (Int.le_refl _) HR.out.2.2.2.2 HR.out.2.2.2.2; rw [HL1.out] at hRf; have HRF := hidep hRf; clear hRf hl4 hf4)
      | (go_at_call 22; (with_reducible refine HRF.out.mono ?_); rintro e w5 ⟨rfl, hb5, hg5⟩; have B5 := hidep hb5; have G5 := hidep hg5; have k0 : w5.cell? ⟨A, 0, none⟩ = some (.int .i64 l1) := hb5.cell rfl; have kf : w5.frozen? ⟨A, 0, none⟩ = false := hb5.free 0; clear hb5 hg5))
    have hp := Lim.put (e := (⟨x, A, burst, now⟩ : En)) L4.out (by simp) G5.out B5.out HRL.out.1 HRL.out.2 (reT_wf HR.out.2.2.2.2 HR.out.2.2.2.2)
    go_ret
    have hz0 := HZ.out
    subst hz0
    exact ⟨_, _, _, rfl, hp.1, (by rw [putE_T, addT_out burst now A HN.out]), Nat.le_refl _, ((Ft.idle (grown_trans G2.out (grown_drewN w2 1 none))).trans F4.out).trans hp.2⟩

set_option maxRecDepth 100000 in
set_option maxHeartbeats 4000000 in
theorem allow_out0 (L M base n : Nat) (qv : Value) (rate burst now : Int) (S : List En) (s x : ByteArray) (w : World) (h : Lim w L M base qv n rate burst S) (hs : whoB s = some x) (hnew : ∀ e ∈ S, e.who ≠ x) (hn : n < maxLen)
    (hr0 : 0 ≤ rate) (hr1 : rate ≤ 1000) (hb0 : 1 ≤ burst) (hb1 : burst ≤ 1000) (hnow : (Lit.int .i64 now).wf = true) (hz : ¬ reL rate burst burst now now = 0) :
    Calls Try.prog 12 #[.pointer (some ⟨L, 0, none⟩), .string s, .int .i64 now] w (alwE L M base n rate burst true (putT (addT burst (S.map trE) x now) x (reL rate burst burst now now - 1) (reT now now)) w) := by
  have HP := hidep (party_yes hs)
  have hx : paG x := who_pG hs
  have HX := hidep hx
  have H := hidep h
  have hF : blkF S x = none := blkF_none hnew
  have HN := hidep hnew
  have HNn := hidep hn
  have HR := hidep (And.intro hr0 (And.intro hr1 (And.intro hb0 (And.intro hb1 hnow))))
  obtain ⟨l1, hl1⟩ : ∃ l1, reL rate burst burst now now = l1 := ⟨_, rfl⟩
  have hr := reL_range (rate := rate) (burst := burst) (left := burst) (last := now) (now := now) hr0 (by omega) (by omega) (Int.le_refl _)
  rw [hl1] at hz hr
  try rw [hl1]
  have HL1 := hidep hl1
  have HRL := hidep hr
  have hz1 : (l1 == 0) = false := by simp [hz]
  have hwr : IntKind.i64.wrap (l1 - 1) = l1 - 1 := by rw [IntKind.wrap_i64]; omega
  have HZ := hidep hz
  have hbz : (burst == 0) = false := by simp; omega
  have hs1 : w.cell? ⟨L, 1, none⟩ = some (.int .i64 burst) := h.bx.cell rfl
  have HWL : Hid (∀ W V : World, Below W.heap.size W V → w.grownBy W none → Lim (V.alloc (.cells #[.int .i64 (psz x), .int .u8 (pb x 0), .int .u8 (pb x 1), .int .u8 (pb x 2), .int .u8 (pb x 3), .int .u8 (pb x 4), .int .u8 (pb x 5), .int .u8 (pb x 6)] 59)) L M base qv n rate burst S ∧ Bx (V.alloc (.cells #[.int .i64 (psz x), .int .u8 (pb x 0), .int .u8 (pb x 1), .int .u8 (pb x 2), .int .u8 (pb x 3), .int .u8 (pb x 4), .int .u8 (pb x 5), .int .u8 (pb x 6)] 59)) V.heap.size #[.int .i64 (psz x), .int .u8 (pb x 0), .int .u8 (pb x 1), .int .u8 (pb x 2), .int .u8 (pb x 3), .int .u8 (pb x 4), .int .u8 (pb x 5), .int .u8 (pb x 6)] 59 ∧ w.grownBy (V.alloc (.cells #[.int .i64 (psz x), .int .u8 (pb x 0), .int .u8 (pb x 1), .int .u8 (pb x 2), .int .u8 (pb x 3), .int .u8 (pb x 4), .int .u8 (pb x 5), .int .u8 (pb x 6)] 59)) none) := fun W V hB hg => by
    have h2 := grown_trans hg (grown_trans (grown_below hB none) (World.grownBy_alloc V (.cells #[.int .i64 (psz x), .int .u8 (pb x 0), .int .u8 (pb x 1), .int .u8 (pb x 2), .int .u8 (pb x 3), .int .u8 (pb x 4), .int .u8 (pb x 5), .int .u8 (pb x 6)] 59) none))
    exact ⟨h.grown h2, World.alloc_heap_new V _, h2⟩
  clear hr0 hr1 hb0 hb1 hnow hr hl1 hz h hnew hn
  go_enter Try.func12, Try.ntmps12
  go_wp2_with (first
    | (go_at_call 20; (with_reducible refine (HP.out _).mono ?_); rintro e w1 ⟨rfl, hB1⟩; obtain ⟨w2, hw2⟩ : ∃ w2, w1.alloc (.cells #[.int .i64 (psz x), .int .u8 (pb x 0), .int .u8 (pb x 1), .int .u8 (pb x 2), .int .u8 (pb x 3), .int .u8 (pb x 4), .int .u8 (pb x 5), .int .u8 (pb x 6)] 59) = w2 := ⟨_, rfl⟩; obtain ⟨hA2, hP2, hG2⟩ := HWL.out _ _ hB1 (grown_refl _ _); rw [hw2] at hA2 hP2 hG2; have A2 := hidep hA2; have P2 := hidep hP2; have G2 := hidep hG2; obtain ⟨t0, t1, t2, t3, t4, t5, t6, t7⟩ := bxe hP2; have c1 : w2.cell? ⟨L, 1, none⟩ = some (.int .i64 burst) := hA2.bx.cell rfl; have c2 : w2.cell? ⟨L, 2, none⟩ = some (.map (some M)) := hA2.bx.cell rfl; have hm2 : MPa w2.drew M n (blkF S) := hA2.mp.grown (grown_drewN w2 1 none) (by simp); have hlk := hm2.look HX.out; rw [hF] at hlk; unfold paV ptV at hlk; simp only [Option.map_some, Option.map_none, Option.isSome_some, Option.isSome_none] at hlk; clear hA2 hP2 hG2 hB1 hm2))
  go_region_held3 (fun V => V.cell? ⟨L, 2, none⟩ = some (.map (some M)) ∧ V.cell? ⟨w1.heap.size, 0, none⟩ = some (.int .i64 (psz x)) ∧ V.cell? ⟨w1.heap.size, 1, none⟩ = some (.int .u8 (pb x 0)) ∧ V.cell? ⟨w1.heap.size, 2, none⟩ = some (.int .u8 (pb x 1)) ∧ V.cell? ⟨w1.heap.size, 3, none⟩ = some (.int .u8 (pb x 2)) ∧ V.cell? ⟨w1.heap.size, 4, none⟩ = some (.int .u8 (pb x 3)) ∧ V.cell? ⟨w1.heap.size, 5, none⟩ = some (.int .u8 (pb x 4)) ∧ V.cell? ⟨w1.heap.size, 6, none⟩ = some (.int .u8 (pb x 5)) ∧ V.cell? ⟨w1.heap.size, 7, none⟩ = some (.int .u8 (pb x 6))) (first | go_keep) (fail)
  all_goals
    go_wp2_with (first
      | (go_at_call 21; refine (admit_any L M base n qv rate burst now S x _ (A2.out.grown (grown_drewN w2 1 none)) HX.out HN.out HNn.out (by have := HR.out.2.2.1; omega) HR.out.2.2.2.2).mono ?_; rintro e w4 ⟨A, qv4, rfl, hl4, hf4⟩; have L4 := hidep hl4; have F4 := hidep hf4; have hRf := refill_any L A rate burst burst now now (.map (some M)) qv4 w4 hl4.bx (hl4.ac ⟨x, A, burst, now⟩ (by simp)).1 (bx_kind hl4.bx (hl4.ac ⟨x, A, burst, now⟩ (by simp)).1 (by decide)) HR.out.1 HR.out.2.1 HR.out.2.2.1 HR.out.2.2.2.1 (by have := HR.out.2.2.1; omega) (Int.le_refl _) HR.out.2.2.2.2 HR.out.2.2.2.2; rw [HL1.out] at hRf; have HRF := hidep hRf; clear hRf hl4 hf4)
      | (go_at_call 22; (with_reducible refine HRF.out.mono ?_); rintro e w5 ⟨rfl, hb5, hg5⟩; have B5 := hidep hb5; have G5 := hidep hg5; have k0 : w5.cell? ⟨A, 0, none⟩ = some (.int .i64 l1) := hb5.cell rfl; have kf : w5.frozen? ⟨A, 0, none⟩ = false := hb5.free 0; clear hb5 hg5))
    have b6 : Bx (w5.setCell ⟨A, 0, none⟩ (.int .i64 (l1 - 1))) A #[.int .i64 (l1 - 1), .int .i64 (reT now now)] 67 := B5.out.set 0 _
    have hp := Lim.put (e := (⟨x, A, burst, now⟩ : En)) L4.out (by simp) (grown_trans G5.out (grown_set w5 A 0 (.int .i64 (l1 - 1)))) b6 (by have := HZ.out; have := HRL.out; omega) (by have := HRL.out; omega) (reT_wf HR.out.2.2.2.2 HR.out.2.2.2.2)
    go_ret
    exact ⟨_, _, _, rfl, hp.1, (by rw [putE_T, addT_out burst now A HN.out]), Nat.le_refl _, ((Ft.idle (grown_trans G2.out (grown_drewN w2 1 none))).trans F4.out).trans hp.2⟩
end Go.Proofs.Ytdaimcccdleodaa
