import Derived.Test.YtelboefeomnjaaaGreatLm1G
/-
  Chapter 15: (*policy.Limiter).admit. (The verifier's own text.)
-/
namespace Go.Proofs.YtelboefeomnjaaaGreat
set_option linter.unusedVariables false
set_option linter.unusedSimpArgs false
open Go.RowKit Go.Shelf Go.Maps

theorem infoPar : (Tryz.prog.info? 72).map (fun i => (i.zero, i.size, i.bytes)) = some (some paZ, 8, 16) := by kernel_rfl
def admE (L M base n : Nat) (rate burst now : Int) (T : List En) (x : ByteArray) (w : World) (e : Ending) (w' : World) : Prop :=
  ∃ A qv', e = .returned (.pointer (some ⟨A, 0, none⟩)) ∧ Lim w' L M base qv' (n + 1) rate burst (T ++ [⟨x, A, burst, now⟩]) ∧ Ft LK base w w'

set_option maxRecDepth 100000 in
set_option maxHeartbeats 4000000 in
theorem admit_room (L M base n : Nat) (qv3 : Value) (rate burst now : Int) (T : List En) (x : ByteArray) (w : World) (h : Lim w L M base qv3 n rate burst T) (hx : paG x) (hnew : ∀ e ∈ T, e.who ≠ x) (hlen : T.length < 1000) (hn : n < maxLen) (hb0 : 0 ≤ burst) (hnow : (Lit.int .i64 now).wf = true) :
    Calls Tryz.prog 38 #[.pointer (some ⟨L, 0, none⟩), paV x, .int .i64 now] w (admE L M base n rate burst now T x w) := by
  obtain ⟨qp, qc, rfl, _, _, _⟩ := h.q.form
  obtain ⟨w3, hw3⟩ : ∃ w3, w.alloc (.cells #[.int .i64 (psz x), .int .u8 (pb x 0), .int .u8 (pb x 1), .int .u8 (pb x 2), .int .u8 (pb x 3), .int .u8 (pb x 4), .int .u8 (pb x 5), .int .u8 (pb x 6)] 72) = w3 := ⟨_, rfl⟩
  have G3 : Hid (w.grownBy w3 none) := hw3 ▸ World.grownBy_alloc w _ _
  have HP3 : Hid (Bx w3 w.heap.size #[.int .i64 (psz x), .int .u8 (pb x 0), .int .u8 (pb x 1), .int .u8 (pb x 2), .int .u8 (pb x 3), .int .u8 (pb x 4), .int .u8 (pb x 5), .int .u8 (pb x 6)] 72) := hw3 ▸ World.alloc_heap_new w _
  have H3 := hidep (h.grown G3.out)
  have HF3 : Hid (Ft LK base w w3) := Ft.idle G3.out
  clear h
  have l3 : w3.cell? ⟨L, 3, none⟩ = some (.slice qp T.length qc) := H3.out.bx.cell rfl
  have hl0 : ((T.length : Int) == 1000) = false := by simp; omega
  -- from the world w3 on
  obtain ⟨wb, hwb⟩ : ∃ wb, w3.alloc (.cells #[.int .i64 burst, .int .i64 now] 80) = wb := ⟨_, rfl⟩
  have GB : Hid (w3.grownBy wb none) := hwb ▸ World.grownBy_alloc w3 _ _
  have HA : Hid (Bx wb w3.heap.size #[.int .i64 burst, .int .i64 now] 80) := hwb ▸ World.alloc_heap_new w3 _
  have HLb := hidep (H3.out.grown GB.out)
  have HPb := hidep (HP3.out.grown GB.out (by simp))
  have hmb : MPa wb.drew M n (blkF T) := HLb.out.mp.grown (grown_drewN wb 1 none) (by simp)
  obtain ⟨w5, hrun, hm5, hg5⟩ := hmb.store hx w3.heap.size hn (f' := blkF (T ++ [⟨x, w3.heap.size, burst, now⟩])) (blkF_app (e := ⟨x, w3.heap.size, burst, now⟩) hnew) (fun z _ hz => blkF_other hz)
  have M5 := hidep hm5
  have G5 : Hid (wb.grownBy w5 (some M)) := grown_trans (grown_drewN wb 1 _) hg5
  have nPM : w.heap.size ≠ M := bx_map HPb.out HLb.out.mp
  have nLM : L ≠ M := bx_map HLb.out.bx HLb.out.mp
  have X5 := hidep (HLb.out.bx.grown G5.out (by simp; omega))
  have P5 := hidep (HPb.out.grown G5.out (by simp; omega))
  have Q5 := hidep (HLb.out.q.kept G5.out (fun k e e' => by cases e'; exact map_row HLb.out.mp HLb.out.q e rfl))
  obtain ⟨i0, hi, hz0, hz1, hz2⟩ := info_parts infoPar
  have HI := hidep (And.intro hi (And.intro hz0 (And.intro hz1 hz2)))
  have HN := hidep hnew
  have HT := hidep hlen
  have HX := hidep hx
  have HNW := hidep hnow
  have HB0 := hidep hb0
  have b3 : w3.cell? ⟨L, 1, none⟩ = some (.int .i64 burst) := H3.out.bx.cell rfl
  have m5 : wb.cell? ⟨L, 2, none⟩ = some (.map (some M)) := HLb.out.bx.cell rfl
  have s5 : w5.cell? ⟨L, 2, none⟩ = some (.map (some M)) := X5.out.cell rfl
  have q5 : w5.cell? ⟨L, 3, none⟩ = some (.slice qp T.length qc) := X5.out.cell rfl
  have qa : ∀ ob, (w5.alloc ob).cell? ⟨L, 3, none⟩ = some (.slice qp T.length qc) := fun ob => (X5.out.grown (World.grownBy_alloc w5 ob none) (by simp)).cell rfl
  obtain ⟨t0, t1, t2, t3, t4, t5, t6, t7⟩ := bxe HPb.out
  obtain ⟨u0, u1, u2, u3, u4, u5, u6, u7⟩ := bxe P5.out
  unfold paV at hrun
  clear hm5 hg5 hmb hi hz0 hz1 hz2 hnew hlen hx hnow hn hb0
  unfold paV
  go_enter Tryz.func38, Tryz.ntmps38
  all_goals
    go_wp2_with fail
    go_region_held3 (fun V => V.cell? ⟨L, 2, none⟩ = some (.map (some M)) ∧ V.cell? ⟨w.heap.size, 0, none⟩ = some (.int .i64 (psz x)) ∧ V.cell? ⟨w.heap.size, 1, none⟩ = some (.int .u8 (pb x 0)) ∧ V.cell? ⟨w.heap.size, 2, none⟩ = some (.int .u8 (pb x 1)) ∧ V.cell? ⟨w.heap.size, 3, none⟩ = some (.int .u8 (pb x 2)) ∧ V.cell? ⟨w.heap.size, 4, none⟩ = some (.int .u8 (pb x 3)) ∧ V.cell? ⟨w.heap.size, 5, none⟩ = some (.int .u8 (pb x 4)) ∧ V.cell? ⟨w.heap.size, 6, none⟩ = some (.int .u8 (pb x 5)) ∧ V.cell? ⟨w.heap.size, 7, none⟩ = some (.int .u8 (pb x 6))) (first | go_keep | (with_reducible exact ⟨s5, u0, u1, u2, u3, u4, u5, u6, u7⟩)) (fail)
    all_goals
      go_wp2_with fail
      go_region_law ((refine step_append_orow _ rfl _ _ 66 rfl base 72 i0 paZ 8 16 Tryz.underlying66 HI.out.1 HI.out.2.1 HI.out.2.2.1 HI.out.2.2.2 rfl (by decide) (.slice qp T.length qc) T.length (rowV paC (T.map (·.who))) rfl ((Q5.out.kept (row := none) (by first | exact grown_trans (World.grownBy_alloc w5 _ _) (grown_drewN _ 1 _) | exact World.grownBy_alloc w5 _ _ | exact grown_trans (grown_drewN w5 1 _) (World.grownBy_alloc _ _ _)) (fun _ _ => by simp))) ⟨_, 0, none⟩ 1 1 (paC x) rfl rfl (by first | exact World.news_of_block (bxNew _ #[.int .i64 (psz x), .int .u8 (pb x 0), .int .u8 (pb x 1), .int .u8 (pb x 2), .int .u8 (pb x 3), .int .u8 (pb x 4), .int .u8 (pb x 5), .int .u8 (pb x 6)] 72)) (paC_one _) (by decide) (by have := HT.out; unfold maxLen; omega) (by have := HT.out; omega) (by have := HLb.out.bW; have := G5.out.size; simp; omega) ?_); intro g7 f7 c7 w7 o7 gr7 pl7; obtain ⟨c73, f73⟩ := Lim.push0 H3.out GB.out G5.out (by first | exact grown_trans (World.grownBy_alloc w5 _ _) (grown_drewN _ 1 _) | exact World.grownBy_alloc w5 _ _ | exact grown_trans (grown_drewN w5 1 _) (World.grownBy_alloc _ _ _)) gr7; have E7 := hidep (Lim.push H3.out HX.out HN.out HT.out HB0.out HNW.out GB.out HA.out (Nat.le_refl _) M5.out G5.out (by first | exact grown_trans (World.grownBy_alloc w5 _ _) (grown_drewN _ 1 _) | exact World.grownBy_alloc w5 _ _ | exact grown_trans (grown_drewN w5 1 _) (World.grownBy_alloc _ _ _)) o7 gr7 pl7); clear o7 gr7 pl7)
      all_goals
        go_wp2_with fail
        go_ret
        exact ⟨_, _, rfl, E7.out.1, HF3.out.trans E7.out.2⟩
end Go.Proofs.YtelboefeomnjaaaGreat

/-
  Chapter 15: (*policy.Limiter).admit. (The verifier's own text.)
-/
namespace Go.Proofs.YtelboefeomnjaaaGreat
set_option linter.unusedVariables false
set_option linter.unusedSimpArgs false
open Go.RowKit Go.Shelf Go.Maps


set_option maxRecDepth 100000 in
set_option maxHeartbeats 4000000 in
theorem admit_full (L M base n : Nat) (qv3 : Value) (rate burst now : Int) (e0 : En) (T : List En) (x : ByteArray) (w : World) (h : Lim w L M base qv3 n rate burst (e0 :: T)) (hx : paG x) (hnew : ∀ e ∈ T, e.who ≠ x) (hlen0 : T.length = 999) (hn : n < maxLen) (hb0 : 0 ≤ burst) (hnow : (Lit.int .i64 now).wf = true) :
    Calls Tryz.prog 38 #[.pointer (some ⟨L, 0, none⟩), paV x, .int .i64 now] w (admE L M base n rate burst now T x w) := by
  have hlen : T.length < 1000 := by omega
  obtain ⟨wa, hwa⟩ : ∃ wa, w.alloc (.cells #[.int .i64 (psz x), .int .u8 (pb x 0), .int .u8 (pb x 1), .int .u8 (pb x 2), .int .u8 (pb x 3), .int .u8 (pb x 4), .int .u8 (pb x 5), .int .u8 (pb x 6)] 72) = wa := ⟨_, rfl⟩
  have Ga : Hid (w.grownBy wa none) := hwa ▸ World.grownBy_alloc w _ _
  have HPa : Hid (Bx wa w.heap.size #[.int .i64 (psz x), .int .u8 (pb x 0), .int .u8 (pb x 1), .int .u8 (pb x 2), .int .u8 (pb x 3), .int .u8 (pb x 4), .int .u8 (pb x 5), .int .u8 (pb x 6)] 72) := hwa ▸ World.alloc_heap_new w _
  have Ha := hidep (h.grown Ga.out)
  clear h
  obtain ⟨g, o, cap, rfl, hc1, hc2, hqt⟩ := Orow.tail (n := T.length) Ha.out.q (xs' := rowV paC (T.map (·.who))) (by rw [List.map_cons, rowV, List.drop_append_of_le_length (by rw [paC_len]; exact Nat.le_refl _), List.drop_of_length_le (by rw [paC_len]; exact Nat.le_refl _)]; rfl)
  have hcell : ∀ j u, (paC e0.who)[j]? = some u → wa.cell? ⟨g, o * 8 + j, none⟩ = some u := fun j u hu => by
    have := Ha.out.q.cells j u (by rw [List.map_cons, rowV, List.getElem?_append_left (List.getElem?_eq_some_iff.1 hu).1]; exact hu)
    rw [Addr.add_lit] at this
    exact this
  have hma : MPa wa.drew M n (blkF (e0 :: T)) := Ha.out.mp.grown (grown_drewN wa 1 none) (by simp)
  obtain ⟨w2, hdel, hm2, hg2⟩ := hma.drop (Ha.out.good e0 (by simp)).1 0 (f' := blkF T) (blkF_none (fun e he => by
    have := Ha.out.who
    simp only [List.map_cons, List.nodup_cons] at this
    exact fun h' => this.1 (h' ▸ List.mem_map_of_mem he))) (fun z _ hz => (blkF_tail hz).symm)
  have G2 : Hid (wa.grownBy w2 (some M)) := grown_trans (grown_drewN wa 1 _) hg2
  have E3 := hidep (Lim.pop Ha.out hm2 G2.out hqt)
  obtain ⟨w3, hw3⟩ : ∃ w3, w2.setCell ⟨L, 3, none⟩ (.slice (some ⟨g, o * 8 + 8, none⟩) T.length (cap - 1)) = w3 := ⟨_, rfl⟩
  rw [hw3] at E3
  have H3 := hidep E3.out.1
  have HF3 : Hid (Ft LK base w w3) := (Ft.idle Ga.out).trans E3.out.2
  have nPM0 : w.heap.size ≠ M := bx_map HPa.out Ha.out.mp
  have nLM0 : L ≠ M := bx_map Ha.out.bx Ha.out.mp
  have nPL : L ≠ w.heap.size := bx_kind Ha.out.bx HPa.out (by decide)
  have HP3 : Hid (Bx w3 w.heap.size #[.int .i64 (psz x), .int .u8 (pb x 0), .int .u8 (pb x 1), .int .u8 (pb x 2), .int .u8 (pb x 3), .int .u8 (pb x 4), .int .u8 (pb x 5), .int .u8 (pb x 6)] 72) := hw3 ▸ (HPa.out.grown G2.out (by simp; omega)).grown (grown_set w2 L 3 _) (by simp; omega)
  have x2 := Ha.out.bx.grown G2.out (by simp; omega)
  have k2 : w2.cell? ⟨L, 3, none⟩ = some (.slice (some ⟨g, o * 8, none⟩) (T.length + 1) cap) := x2.cell rfl
  have k2f : w2.frozen? ⟨L, 3, none⟩ = false := x2.free 3
  have l2 : wa.cell? ⟨L, 2, none⟩ = some (.map (some M)) := Ha.out.bx.cell rfl
  have l3 : wa.cell? ⟨L, 3, none⟩ = some (.slice (some ⟨g, o * 8, none⟩) (T.length + 1) cap) := Ha.out.bx.cell rfl
  have y0 : wa.cell? ⟨g, o * 8, none⟩ = some (.int .i64 (psz e0.who)) := hcell 0 _ rfl
  have y1 : wa.cell? ⟨g, o * 8 + 1, none⟩ = some (.int .u8 (pb e0.who 0)) := hcell 1 _ rfl
  have y2 : wa.cell? ⟨g, o * 8 + 2, none⟩ = some (.int .u8 (pb e0.who 1)) := hcell 2 _ rfl
  have y3 : wa.cell? ⟨g, o * 8 + 3, none⟩ = some (.int .u8 (pb e0.who 2)) := hcell 3 _ rfl
  have y4 : wa.cell? ⟨g, o * 8 + 4, none⟩ = some (.int .u8 (pb e0.who 3)) := hcell 4 _ rfl
  have y5 : wa.cell? ⟨g, o * 8 + 5, none⟩ = some (.int .u8 (pb e0.who 4)) := hcell 5 _ rfl
  have y6 : wa.cell? ⟨g, o * 8 + 6, none⟩ = some (.int .u8 (pb e0.who 5)) := hcell 6 _ rfl
  have y7 : wa.cell? ⟨g, o * 8 + 7, none⟩ = some (.int .u8 (pb e0.who 6)) := hcell 7 _ rfl
  have hl0 : ((T.length : Int) + 1 == 1000) = true := by simp; omega
  have HC1 := hidep hc1
  have hcne : ¬ cap = 1 := by omega
  have hc1' : ((T.length : Int) + 1 ≤ (cap : Int)) := by omega
  have hcm : (cap : Int) ≤ 9223372036854775807 := by unfold maxLen at hc2; omega
  have HD := hidep hdel
  clear hm2 hg2 hma hcell hqt hdel x2 hc2 hlen0
  -- from the world w3 on
  obtain ⟨wb, hwb⟩ : ∃ wb, w3.alloc (.cells #[.int .i64 burst, .int .i64 now] 80) = wb := ⟨_, rfl⟩
  have GB : Hid (w3.grownBy wb none) := hwb ▸ World.grownBy_alloc w3 _ _
  have HA : Hid (Bx wb w3.heap.size #[.int .i64 burst, .int .i64 now] 80) := hwb ▸ World.alloc_heap_new w3 _
  have HLb := hidep (H3.out.grown GB.out)
  have HPb := hidep (HP3.out.grown GB.out (by simp))
  have hmb : MPa wb.drew M n (blkF T) := HLb.out.mp.grown (grown_drewN wb 1 none) (by simp)
  obtain ⟨w5, hrun, hm5, hg5⟩ := hmb.store hx w3.heap.size hn (f' := blkF (T ++ [⟨x, w3.heap.size, burst, now⟩])) (blkF_app (e := ⟨x, w3.heap.size, burst, now⟩) hnew) (fun z _ hz => blkF_other hz)
  have M5 := hidep hm5
  have G5 : Hid (wb.grownBy w5 (some M)) := grown_trans (grown_drewN wb 1 _) hg5
  have nPM : w.heap.size ≠ M := bx_map HPb.out HLb.out.mp
  have nLM : L ≠ M := bx_map HLb.out.bx HLb.out.mp
  have X5 := hidep (HLb.out.bx.grown G5.out (by simp; omega))
  have P5 := hidep (HPb.out.grown G5.out (by simp; omega))
  have Q5 := hidep (HLb.out.q.kept G5.out (fun k e e' => by cases e'; exact map_row HLb.out.mp HLb.out.q e rfl))
  obtain ⟨i0, hi, hz0, hz1, hz2⟩ := info_parts infoPar
  have HI := hidep (And.intro hi (And.intro hz0 (And.intro hz1 hz2)))
  have HN := hidep hnew
  have HT := hidep hlen
  have HX := hidep hx
  have HNW := hidep hnow
  have HB0 := hidep hb0
  have b3 : w3.cell? ⟨L, 1, none⟩ = some (.int .i64 burst) := H3.out.bx.cell rfl
  have m5 : wb.cell? ⟨L, 2, none⟩ = some (.map (some M)) := HLb.out.bx.cell rfl
  have s5 : w5.cell? ⟨L, 2, none⟩ = some (.map (some M)) := X5.out.cell rfl
  have q5 : w5.cell? ⟨L, 3, none⟩ = some (.slice (some ⟨g, o * 8 + 8, none⟩) T.length (cap - 1)) := X5.out.cell rfl
  have qa : ∀ ob, (w5.alloc ob).cell? ⟨L, 3, none⟩ = some (.slice (some ⟨g, o * 8 + 8, none⟩) T.length (cap - 1)) := fun ob => (X5.out.grown (World.grownBy_alloc w5 ob none) (by simp)).cell rfl
  obtain ⟨t0, t1, t2, t3, t4, t5, t6, t7⟩ := bxe HPb.out
  obtain ⟨u0, u1, u2, u3, u4, u5, u6, u7⟩ := bxe P5.out
  unfold paV at hrun
  clear hm5 hg5 hmb hi hz0 hz1 hz2 hnew hlen hx hnow hn hb0
  unfold paV
  go_enter Tryz.func38, Tryz.ntmps38
  go_wp2_with fail
  go_region_law (refine step_builtin2 _ rfl _ _ 65 72 rfl (.map (some M)) (paV e0.who) rfl rfl (.tuple #[]) w2 HD.out ?_)
  all_goals
    go_wp2_with fail
    go_region_held3 (fun V => V.cell? ⟨L, 2, none⟩ = some (.map (some M)) ∧ V.cell? ⟨w.heap.size, 0, none⟩ = some (.int .i64 (psz x)) ∧ V.cell? ⟨w.heap.size, 1, none⟩ = some (.int .u8 (pb x 0)) ∧ V.cell? ⟨w.heap.size, 2, none⟩ = some (.int .u8 (pb x 1)) ∧ V.cell? ⟨w.heap.size, 3, none⟩ = some (.int .u8 (pb x 2)) ∧ V.cell? ⟨w.heap.size, 4, none⟩ = some (.int .u8 (pb x 3)) ∧ V.cell? ⟨w.heap.size, 5, none⟩ = some (.int .u8 (pb x 4)) ∧ V.cell? ⟨w.heap.size, 6, none⟩ = some (.int .u8 (pb x 5)) ∧ V.cell? ⟨w.heap.size, 7, none⟩ = some (.int .u8 (pb x 6))) (first | go_keep | (with_reducible exact ⟨s5, u0, u1, u2, u3, u4, u5, u6, u7⟩)) (fail)
    all_goals
      go_wp2_with fail
      go_region_law ((refine step_append_orow _ rfl _ _ 66 rfl base 72 i0 paZ 8 16 Tryz.underlying66 HI.out.1 HI.out.2.1 HI.out.2.2.1 HI.out.2.2.2 rfl (by decide) (.slice (some ⟨g, o * 8 + 8, none⟩) T.length (cap - 1)) T.length (rowV paC (T.map (·.who))) rfl ((Q5.out.kept (row := none) (by first | exact grown_trans (World.grownBy_alloc w5 _ _) (grown_drewN _ 1 _) | exact World.grownBy_alloc w5 _ _ | exact grown_trans (grown_drewN w5 1 _) (World.grownBy_alloc _ _ _)) (fun _ _ => by simp))) ⟨_, 0, none⟩ 1 1 (paC x) rfl rfl (by first | exact World.news_of_block (bxNew _ #[.int .i64 (psz x), .int .u8 (pb x 0), .int .u8 (pb x 1), .int .u8 (pb x 2), .int .u8 (pb x 3), .int .u8 (pb x 4), .int .u8 (pb x 5), .int .u8 (pb x 6)] 72)) (paC_one _) (by decide) (by have := HT.out; unfold maxLen; omega) (by have := HT.out; omega) (by have := HLb.out.bW; have := G5.out.size; simp; omega) ?_); intro g7 f7 c7 w7 o7 gr7 pl7; obtain ⟨c73, f73⟩ := Lim.push0 H3.out GB.out G5.out (by first | exact grown_trans (World.grownBy_alloc w5 _ _) (grown_drewN _ 1 _) | exact World.grownBy_alloc w5 _ _ | exact grown_trans (grown_drewN w5 1 _) (World.grownBy_alloc _ _ _)) gr7; have E7 := hidep (Lim.push H3.out HX.out HN.out HT.out HB0.out HNW.out GB.out HA.out (Nat.le_refl _) M5.out G5.out (by first | exact grown_trans (World.grownBy_alloc w5 _ _) (grown_drewN _ 1 _) | exact World.grownBy_alloc w5 _ _ | exact grown_trans (grown_drewN w5 1 _) (World.grownBy_alloc _ _ _)) o7 gr7 pl7); clear o7 gr7 pl7)
      all_goals
        go_wp2_with fail
        go_ret
        exact ⟨_, _, rfl, E7.out.1, HF3.out.trans E7.out.2⟩
end Go.Proofs.YtelboefeomnjaaaGreat

/-
  Chapter 15: what a limiter does, plainly; what it keeps of one turns. (The verifier's own text.)
-/
namespace Go.Proofs.YtelboefeomnjaaaGreat
set_option linter.unusedVariables false
set_option linter.unusedSimpArgs false
open Go.RowKit Go.Shelf Go.Maps

/-- who comes last, with room for it -/
def goL {α : Type} (S : List α) : List α := if S.length = 1000 then S.tail else S
theorem goL_mem {α : Type} {S : List α} {e : α} (h : e ∈ goL S) : e ∈ S := by
  unfold goL at h
  split at h
  · exact List.mem_of_mem_tail h
  · exact h
theorem goL_map {α β : Type} (f : α → β) (S : List α) : (goL S).map f = goL (S.map f) := by
  unfold goL
  rw [List.length_map]
  split
  · rw [List.map_tail]
  · rfl
theorem admit_any (L M base n : Nat) (qv : Value) (rate burst now : Int) (S : List En) (x : ByteArray) (w : World) (h : Lim w L M base qv n rate burst S) (hx : paG x) (hnew : ∀ e ∈ S, e.who ≠ x) (hn : n < maxLen) (hb0 : 0 ≤ burst) (hnow : (Lit.int .i64 now).wf = true) :
    Calls Tryz.prog 38 #[.pointer (some ⟨L, 0, none⟩), paV x, .int .i64 now] w (admE L M base n rate burst now (goL S) x w) := by
  have hl := h.len
  unfold goL
  split
  · rename_i h1
    cases S with
    | nil => simp at h1
    | cons e0 T =>
      exact admit_full L M base n qv rate burst now e0 T x w h hx (fun e he => hnew e (by simp [he])) (by simpa using h1) hn hb0 hnow
  · exact admit_room L M base n qv rate burst now S x w h hx hnew (by omega) hn hb0 hnow
theorem nodup_inj {α β : Type} {f : α → β} : ∀ {l : List α}, (l.map f).Nodup → ∀ {a b : α}, a ∈ l → b ∈ l → f a = f b → a = b
  | [], _, _, _, h, _, _ => by cases h
  | c :: l, hn, a, b, ha, hb, e => by
    simp only [List.map_cons, List.nodup_cons] at hn
    rcases List.mem_cons.1 ha with rfl | ha'
    · rcases List.mem_cons.1 hb with rfl | hb
      · rfl
      · exact absurd (e ▸ List.mem_map_of_mem hb) hn.1
    · rcases List.mem_cons.1 hb with hb | hb
      · subst hb
        exact absurd (show f b ∈ l.map f from e ▸ List.mem_map_of_mem ha') hn.1
      · exact nodup_inj hn.2 ha' hb e
/-- what is kept of one, turned -/
def putE (S : List En) (x : ByteArray) (l t : Int) : List En := S.map fun y => if y.who = x then { y with left := l, last := t } else y
theorem putE_who (S : List En) (x : ByteArray) (l t : Int) : (putE S x l t).map (·.who) = S.map (·.who) := by
  unfold putE
  rw [List.map_map]
  apply List.map_congr_left
  intro y _
  simp only [Function.comp]
  split <;> rfl
theorem putE_blk (S : List En) (x : ByteArray) (l t : Int) : (putE S x l t).map (·.blk) = S.map (·.blk) := by
  unfold putE
  rw [List.map_map]
  apply List.map_congr_left
  intro y _
  simp only [Function.comp]
  split <;> rfl
theorem putE_F : ∀ (S : List En) (x : ByteArray) (l t : Int) (z : ByteArray), blkF (putE S x l t) z = blkF S z
  | [], _, _, _, _ => rfl
  | y :: S, x, l, t, z => by
    have ih := putE_F S x l t z
    unfold blkF putE at *
    rw [List.map_cons, List.find?_cons, List.find?_cons]
    have e : (if y.who = x then { y with left := l, last := t } else y).who = y.who := by split <;> rfl
    have e2 : (if y.who = x then { y with left := l, last := t } else y).blk = y.blk := by split <;> rfl
    rw [e]
    split
    · simp [e2]
    · exact ih
theorem Lim.put {w w' : World} {L M base n : Nat} {qv : Value} {rate burst : Int} {S : List En} {e : En} {l t : Int} (h : Lim w L M base qv n rate burst S) (he : e ∈ S) (hg : w.grownBy w' (some e.blk)) (hb : Bx w' e.blk #[.int .i64 l, .int .i64 t] 80)
    (hl0 : 0 ≤ l) (hl1 : l ≤ burst) (ht : (Lit.int .i64 t).wf = true) : Lim w' L M base qv n rate burst (putE S e.who l t) ∧ Ft LK base w w' := by
  have hA := (h.ac e he).1
  refine ⟨⟨h.bx.grown hg (by have := bx_kind h.bx hA (by decide); simp; omega), ?_, ?_, ?_, ?_, by rw [putE_who]; exact h.who, by rw [putE_blk]; exact h.blk, by unfold putE; rw [List.length_map]; exact h.len, h.bL, h.bM, Nat.le_trans h.bW hg.size⟩, Ft.one hg hA (lk_acc _) (h.ac e he).2⟩
  · exact (h.mp.grown hg (by have := bx_map hA h.mp; simp; omega)).ext (fun z _ => putE_F S e.who l t z)
  · have hq := h.q.kept hg (fun k e1 e2 => by cases e2; exact bx_row hA h.q e1 (by decide) rfl)
    rw [putE_who]
    have : (putE S e.who l t).length = S.length := by unfold putE; rw [List.length_map]
    rw [this]
    exact hq
  · intro y hy
    obtain ⟨z, hz, rfl⟩ := List.mem_map.1 hy
    split
    · rename_i hw
      have : z = e := nodup_inj h.who hz he hw
      subst this
      exact ⟨hb, (h.ac z hz).2⟩
    · rename_i hw
      refine ⟨(h.ac z hz).1.grown hg (fun e1 => hw ?_), (h.ac z hz).2⟩
      have := nodup_inj h.blk he hz (Option.some.inj e1)
      rw [this]
  · intro y hy
    obtain ⟨z, hz, rfl⟩ := List.mem_map.1 hy
    split
    · exact ⟨(h.good z hz).1, hl0, hl1, ht⟩
    · exact h.good z hz
theorem blkF_some {S : List En} {x : ByteArray} {A : Nat} (h : blkF S x = some A) : ∃ e ∈ S, e.who = x ∧ e.blk = A := by
  unfold blkF at h
  obtain ⟨e, he, hA⟩ := Option.map_eq_some_iff.1 h
  exact ⟨e, List.mem_of_find?_eq_some he, by simpa using List.find?_some he, hA⟩
theorem blkF_no {S : List En} {x : ByteArray} (h : blkF S x = none) : ∀ e ∈ S, e.who ≠ x := by
  unfold blkF at h
  have := Option.map_eq_none_iff.1 h
  intro e he hx
  have := List.find?_eq_none.1 this e he
  simp [hx] at this

/-- one that is seen, plainly -/
abbrev Tr := ByteArray × Int × Int
def trE (e : En) : Tr := (e.who, e.left, e.last)
/-- who may ask: one that is known, and one that isn't -/
def putT (T : List Tr) (x : ByteArray) (l t : Int) : List Tr := T.map fun y => if y.1 = x then (y.1, l, t) else y
/-- what is left to one of two numbers -/
def tkB (l : Int) : Bool := !(l == 0)
def tkL (l : Int) : Int := if l = 0 then 0 else l - 1
/-- who is seen, with this one -/
def addT (burst : Int) (T : List Tr) (x : ByteArray) (now : Int) : List Tr := if T.any (fun y => decide (y.1 = x)) then T else goL T ++ [(x, burst, now)]
def getT (T : List Tr) (x : ByteArray) : Int × Int := ((T.find? (fun y => decide (y.1 = x))).map (·.2)).getD (0, 0)
/-- Allow, of one who has an address -/
def alwB (rate burst : Int) (T : List Tr) (x : ByteArray) (now : Int) : Bool :=
  let T1 := addT burst T x now
  tkB (reL rate burst (getT T1 x).1 (getT T1 x).2 now)
def alwT (rate burst : Int) (T : List Tr) (x : ByteArray) (now : Int) : List Tr :=
  let T1 := addT burst T x now
  putT T1 x (tkL (reL rate burst (getT T1 x).1 (getT T1 x).2 now)) (reT (getT T1 x).2 now)
theorem putE_T (S : List En) (x : ByteArray) (l t : Int) : (putE S x l t).map trE = putT (S.map trE) x l t := by
  unfold putE putT
  rw [List.map_map, List.map_map]
  apply List.map_congr_left
  intro y _
  simp only [Function.comp, trE]
  by_cases h : y.who = x
  · simp [h]
  · simp [h]
theorem find_tr : ∀ (S : List En) (x : ByteArray), (S.map trE).find? (fun y => decide (y.1 = x)) = (S.find? (fun e => decide (e.who = x))).map trE
  | [], _ => rfl
  | y :: S, x => by
    rw [List.map_cons, List.find?_cons, List.find?_cons, find_tr S x]
    show (match decide (y.who = x) with | true => some (trE y) | false => _) = _
    cases decide (y.who = x) <;> rfl
theorem find_who {S : List En} (hn : (S.map (·.who)).Nodup) {e : En} (he : e ∈ S) : S.find? (fun y => decide (y.who = e.who)) = some e := by
  cases h : S.find? (fun y => decide (y.who = e.who)) with
  | none => have := List.find?_eq_none.1 h e he; simp at this
  | some z =>
    have h1 := List.mem_of_find?_eq_some h
    have h2 : z.who = e.who := by simpa using List.find?_some h
    rw [nodup_inj hn h1 he h2]
theorem getT_tr {S : List En} (hn : (S.map (·.who)).Nodup) {e : En} (he : e ∈ S) : getT (S.map trE) e.who = (e.left, e.last) := by
  unfold getT
  rw [find_tr, find_who hn he]
  rfl
theorem addT_in {S : List En} {e : En} (burst now : Int) (he : e ∈ S) : addT burst (S.map trE) e.who now = S.map trE := by
  unfold addT
  rw [if_pos]
  rw [List.any_map]
  exact List.any_eq_true.2 ⟨e, he, by simp [trE]⟩
theorem addT_out {S : List En} {x : ByteArray} (burst now : Int) (A : Nat) (h : ∀ e ∈ S, e.who ≠ x) : addT burst (S.map trE) x now = (goL S ++ [(⟨x, A, burst, now⟩ : En)]).map trE := by
  unfold addT
  rw [if_neg, List.map_append, goL_map]
  · rfl
  · rw [List.any_map]
    intro hh
    obtain ⟨e, he, h1⟩ := List.any_eq_true.1 hh
    exact h e he (of_decide_eq_true h1)
theorem reL_range {rate burst left last now : Int} (hr : 0 ≤ rate) (hb : 0 ≤ burst) (h0 : 0 ≤ left) (h1 : left ≤ burst) : 0 ≤ reL rate burst left last now ∧ reL rate burst left last now ≤ burst := by
  unfold reL
  split
  · exact ⟨h0, h1⟩
  · have : 0 ≤ rate * min (now - last) burst := Int.mul_nonneg hr (by omega)
    omega
theorem reT_wf {last now : Int} (h1 : (Lit.int .i64 last).wf = true) (h2 : (Lit.int .i64 now).wf = true) : (Lit.int .i64 (reT last now)).wf = true := by
  unfold reT
  split
  · exact h1
  · exact h2
end Go.Proofs.YtelboefeomnjaaaGreat

/-
  Chapter 15: (*policy.Limiter).Allow. (The verifier's own text.)
-/
namespace Go.Proofs.YtelboefeomnjaaaGreat
set_option linter.unusedVariables false
set_option linter.unusedSimpArgs false
open Go.RowKit Go.Shelf Go.Maps

def alwE (L M base n : Nat) (rate burst : Int) (b : Bool) (T : List Tr) (w : World) (e : Ending) (w' : World) : Prop :=
  ∃ S' qv' n', e = .returned (.bool b) ∧ Lim w' L M base qv' n' rate burst S' ∧ S'.map trE = T ∧ n' ≤ n + 1 ∧ Ft LK base w w'
theorem party_yes {s x : ByteArray} (h : whoB s = some x) (W : World) : Calls Tryz.prog 37 #[.string s] W fun e w' => e = .returned (.tuple #[.agg #[.int .i64 (psz x), .int .u8 (pb x 0), .int .u8 (pb x 1), .int .u8 (pb x 2), .int .u8 (pb x 3), .int .u8 (pb x 4), .int .u8 (pb x 5), .int .u8 (pb x 6)], .bool true]) ∧ Below W.heap.size W w' := by
  have := party_any s W
  rw [h] at this
  exact this
theorem party_none {s : ByteArray} (h : whoB s = none) (W : World) : Calls Tryz.prog 37 #[.string s] W fun e w' => e = .returned (.tuple #[.agg #[.int .i64 0, .int .u8 0, .int .u8 0, .int .u8 0, .int .u8 0, .int .u8 0, .int .u8 0, .int .u8 0], .bool false]) ∧ Below W.heap.size W w' := by
  have := party_any s W
  rw [h] at this
  exact this
set_option maxRecDepth 100000 in
set_option maxHeartbeats 4000000 in
theorem allow_no (L M base n : Nat) (qv : Value) (rate burst now : Int) (S : List En) (s : ByteArray) (w : World) (h : Lim w L M base qv n rate burst S) (hs : whoB s = none) :
    Calls Tryz.prog 16 #[.pointer (some ⟨L, 0, none⟩), .string s, .int .i64 now] w (alwE L M base n rate burst false (S.map trE) w) := by
  have HP := hidep (party_none hs)
  have H := hidep h
  clear h hs
  go_enter Tryz.func16, Tryz.ntmps16
  go_wp2_with (first
    | (go_at_call 37; (with_reducible refine (HP.out _).mono ?_); rintro e w1 ⟨rfl, hB1⟩; have HB := hidep hB1; clear hB1))
  go_ret
  have hg := grown_trans (grown_below HB.out none) (World.grownBy_alloc w1 (.cells #[.int .i64 0, .int .u8 0, .int .u8 0, .int .u8 0, .int .u8 0, .int .u8 0, .int .u8 0, .int .u8 0] 72) none)
  exact ⟨_, _, _, rfl, H.out.grown hg, rfl, Nat.le_succ _, Ft.idle hg⟩

set_option maxRecDepth 100000 in
set_option maxHeartbeats 4000000 in
theorem allow_in1 (L M base n : Nat) (qv : Value) (rate burst now : Int) (S : List En) (s x : ByteArray) (w : World) (h : Lim w L M base qv n rate burst S) (hs : whoB s = some x) (e0 : En) (he : e0 ∈ S) (hw : e0.who = x)
    (hr0 : 0 ≤ rate) (hr1 : rate ≤ 1000) (hb0 : 1 ≤ burst) (hb1 : burst ≤ 1000) (hnow : (Lit.int .i64 now).wf = true) (hz : reL rate burst e0.left e0.last now = 0) :
    Calls Tryz.prog 16 #[.pointer (some ⟨L, 0, none⟩), .string s, .int .i64 now] w (alwE L M base n rate burst false (putT (addT burst (S.map trE) x now) x 0 (reT e0.last now)) w) := by
  have HP := hidep (party_yes hs)
  have hx : paG x := who_pG hs
  have HX := hidep hx
  have H := hidep h
  have hF : blkF S x = some e0.blk := by
    unfold blkF
    rw [← hw, find_who h.who he]
    rfl
  have hE := h.good e0 he
  have HE := hidep hE
  have HI := hidep he
  have HW := hidep hw
  have HR := hidep (And.intro hr0 (And.intro hr1 (And.intro hb0 (And.intro hb1 hnow))))
  obtain ⟨l1, hl1⟩ : ∃ l1, reL rate burst e0.left e0.last now = l1 := ⟨_, rfl⟩
  have hr := reL_range (rate := rate) (burst := burst) (left := e0.left) (last := e0.last) (now := now) hr0 (by omega) hE.2.1 hE.2.2.1
  rw [hl1] at hz hr
  try rw [hl1]
  have HL1 := hidep hl1
  have HRL := hidep hr
  have hz1 : (l1 == 0) = true := by simp [hz]
  have hwr : IntKind.i64.wrap (l1 - 1) = l1 - 1 := by rw [IntKind.wrap_i64]; omega
  have HZ := hidep hz
  have hbz : (burst == 0) = false := by simp; omega
  have hs1 : w.cell? ⟨L, 1, none⟩ = some (.int .i64 burst) := h.bx.cell rfl
  have HWL : Hid (∀ W V : World, Below W.heap.size W V → w.grownBy W none → Lim (V.alloc (.cells #[.int .i64 (psz x), .int .u8 (pb x 0), .int .u8 (pb x 1), .int .u8 (pb x 2), .int .u8 (pb x 3), .int .u8 (pb x 4), .int .u8 (pb x 5), .int .u8 (pb x 6)] 72)) L M base qv n rate burst S ∧ Bx (V.alloc (.cells #[.int .i64 (psz x), .int .u8 (pb x 0), .int .u8 (pb x 1), .int .u8 (pb x 2), .int .u8 (pb x 3), .int .u8 (pb x 4), .int .u8 (pb x 5), .int .u8 (pb x 6)] 72)) V.heap.size #[.int .i64 (psz x), .int .u8 (pb x 0), .int .u8 (pb x 1), .int .u8 (pb x 2), .int .u8 (pb x 3), .int .u8 (pb x 4), .int .u8 (pb x 5), .int .u8 (pb x 6)] 72 ∧ w.grownBy (V.alloc (.cells #[.int .i64 (psz x), .int .u8 (pb x 0), .int .u8 (pb x 1), .int .u8 (pb x 2), .int .u8 (pb x 3), .int .u8 (pb x 4), .int .u8 (pb x 5), .int .u8 (pb x 6)] 72)) none) := fun W V hB hg => by
    have h2 := grown_trans hg (grown_trans (grown_below hB none) (World.grownBy_alloc V (.cells #[.int .i64 (psz x), .int .u8 (pb x 0), .int .u8 (pb x 1), .int .u8 (pb x 2), .int .u8 (pb x 3), .int .u8 (pb x 4), .int .u8 (pb x 5), .int .u8 (pb x 6)] 72) none))
    exact ⟨h.grown h2, World.alloc_heap_new V _, h2⟩
  clear hr0 hr1 hb0 hb1 hnow hr hl1 hz h he hE hw
  go_enter Tryz.func16, Tryz.ntmps16
  go_wp2_with (first
    | (go_at_call 37; (with_reducible refine (HP.out _).mono ?_); rintro e w1 ⟨rfl, hB1⟩; obtain ⟨w2, hw2⟩ : ∃ w2, w1.alloc (.cells #[.int .i64 (psz x), .int .u8 (pb x 0), .int .u8 (pb x 1), .int .u8 (pb x 2), .int .u8 (pb x 3), .int .u8 (pb x 4), .int .u8 (pb x 5), .int .u8 (pb x 6)] 72) = w2 := ⟨_, rfl⟩; obtain ⟨hA2, hP2, hG2⟩ := HWL.out _ _ hB1 (grown_refl _ _); rw [hw2] at hA2 hP2 hG2; have A2 := hidep hA2; have P2 := hidep hP2; have G2 := hidep hG2; obtain ⟨t0, t1, t2, t3, t4, t5, t6, t7⟩ := bxe hP2; have c1 : w2.cell? ⟨L, 1, none⟩ = some (.int .i64 burst) := hA2.bx.cell rfl; have c2 : w2.cell? ⟨L, 2, none⟩ = some (.map (some M)) := hA2.bx.cell rfl; have hm2 : MPa w2.drew M n (blkF S) := hA2.mp.grown (grown_drewN w2 1 none) (by simp); have hlk := hm2.look HX.out; rw [hF] at hlk; unfold paV ptV at hlk; simp only [Option.map_some, Option.map_none, Option.isSome_some, Option.isSome_none] at hlk; clear hA2 hP2 hG2 hB1 hm2))
  go_region_held3 (fun V => V.cell? ⟨L, 2, none⟩ = some (.map (some M)) ∧ V.cell? ⟨w1.heap.size, 0, none⟩ = some (.int .i64 (psz x)) ∧ V.cell? ⟨w1.heap.size, 1, none⟩ = some (.int .u8 (pb x 0)) ∧ V.cell? ⟨w1.heap.size, 2, none⟩ = some (.int .u8 (pb x 1)) ∧ V.cell? ⟨w1.heap.size, 3, none⟩ = some (.int .u8 (pb x 2)) ∧ V.cell? ⟨w1.heap.size, 4, none⟩ = some (.int .u8 (pb x 3)) ∧ V.cell? ⟨w1.heap.size, 5, none⟩ = some (.int .u8 (pb x 4)) ∧ V.cell? ⟨w1.heap.size, 6, none⟩ = some (.int .u8 (pb x 5)) ∧ V.cell? ⟨w1.heap.size, 7, none⟩ = some (.int .u8 (pb x 6))) (first | go_keep) (fail)
  have A2d : Lim w2.drew L M base qv n rate burst S := A2.out.grown (grown_drewN w2 1 none)
  have hRf := refill_any L e0.blk rate burst e0.left e0.last now (.map (some M)) qv w2.drew A2d.bx (A2d.ac e0 HI.out).1 (bx_kind A2d.bx (A2d.ac e0 HI.out).1 (by decide)) HR.out.1 HR.out.2.1 HR.out.2.2.1 HR.out.2.2.2.1 HE.out.2.1 HE.out.2.2.1 HR.out.2.2.2.2 HE.out.2.2.2
  rw [HL1.out] at hRf
  have HRF := hidep hRf
  have D2 := hidep A2d
  clear hRf A2d
  all_goals
    go_wp2_with (first
      | (go_at_call 39; (with_reducible refine HRF.out.mono ?_); rintro e w5 ⟨rfl, hb5, hg5⟩; have B5 := hidep hb5; have G5 := hidep hg5; have k0 : w5.cell? ⟨e0.blk, 0, none⟩ = some (.int .i64 l1) := hb5.cell rfl; have kf : w5.frozen? ⟨e0.blk, 0, none⟩ = false := hb5.free 0; clear hb5 hg5))
    have hp := Lim.put (e := e0) D2.out HI.out G5.out B5.out HRL.out.1 HRL.out.2 (reT_wf HE.out.2.2.2 HR.out.2.2.2.2)
    go_ret
    have hz0 := HZ.out
    subst hz0
    exact ⟨_, _, _, rfl, hp.1, (by rw [putE_T, ← HW.out, addT_in burst now HI.out]), Nat.le_succ _, (Ft.idle (grown_trans G2.out (grown_drewN w2 1 none))).trans hp.2⟩

set_option maxRecDepth 100000 in
set_option maxHeartbeats 4000000 in
theorem allow_in0 (L M base n : Nat) (qv : Value) (rate burst now : Int) (S : List En) (s x : ByteArray) (w : World) (h : Lim w L M base qv n rate burst S) (hs : whoB s = some x) (e0 : En) (he : e0 ∈ S) (hw : e0.who = x)
    (hr0 : 0 ≤ rate) (hr1 : rate ≤ 1000) (hb0 : 1 ≤ burst) (hb1 : burst ≤ 1000) (hnow : (Lit.int .i64 now).wf = true) (hz : ¬ reL rate burst e0.left e0.last now = 0) :
    Calls Tryz.prog 16 #[.pointer (some ⟨L, 0, none⟩), .string s, .int .i64 now] w (alwE L M base n rate burst true (putT (addT burst (S.map trE) x now) x (reL rate burst e0.left e0.last now - 1) (reT e0.last now)) w) := by
  have HP := hidep (party_yes hs)
  have hx : paG x := who_pG hs
  have HX := hidep hx
  have H := hidep h
  have hF : blkF S x = some e0.blk := by
    unfold blkF
    rw [← hw, find_who h.who he]
    rfl
  have hE := h.good e0 he
  have HE := hidep hE
  have HI := hidep he
  have HW := hidep hw
  have HR := hidep (And.intro hr0 (And.intro hr1 (And.intro hb0 (And.intro hb1 hnow))))
  obtain ⟨l1, hl1⟩ : ∃ l1, reL rate burst e0.left e0.last now = l1 := ⟨_, rfl⟩
  have hr := reL_range (rate := rate) (burst := burst) (left := e0.left) (last := e0.last) (now := now) hr0 (by omega) hE.2.1 hE.2.2.1
  rw [hl1] at hz hr
  try rw [hl1]
  have HL1 := hidep hl1
  have HRL := hidep hr
  have hz1 : (l1 == 0) = false := by simp [hz]
  have hwr : IntKind.i64.wrap (l1 - 1) = l1 - 1 := by rw [IntKind.wrap_i64]; omega
  have HZ := hidep hz
  have hbz : (burst == 0) = false := by simp; omega
  have hs1 : w.cell? ⟨L, 1, none⟩ = some (.int .i64 burst) := h.bx.cell rfl
  have HWL : Hid (∀ W V : World, Below W.heap.size W V → w.grownBy W none → Lim (V.alloc (.cells #[.int .i64 (psz x), .int .u8 (pb x 0), .int .u8 (pb x 1), .int .u8 (pb x 2), .int .u8 (pb x 3), .int .u8 (pb x 4), .int .u8 (pb x 5), .int .u8 (pb x 6)] 72)) L M base qv n rate burst S ∧ Bx (V.alloc (.cells #[.int .i64 (psz x), .int .u8 (pb x 0), .int .u8 (pb x 1), .int .u8 (pb x 2), .int .u8 (pb x 3), .int .u8 (pb x 4), .int .u8 (pb x 5), .int .u8 (pb x 6)] 72)) V.heap.size #[.int .i64 (psz x), .int .u8 (pb x 0), .int .u8 (pb x 1), .int .u8 (pb x 2), .int .u8 (pb x 3), .int .u8 (pb x 4), .int .u8 (pb x 5), .int .u8 (pb x 6)] 72 ∧ w.grownBy (V.alloc (.cells #[.int .i64 (psz x), .int .u8 (pb x 0), .int .u8 (pb x 1), .int .u8 (pb x 2), .int .u8 (pb x 3), .int .u8 (pb x 4), .int .u8 (pb x 5), .int .u8 (pb x 6)] 72)) none) := fun W V hB hg => by
    have h2 := grown_trans hg (grown_trans (grown_below hB none) (World.grownBy_alloc V (.cells #[.int .i64 (psz x), .int .u8 (pb x 0), .int .u8 (pb x 1), .int .u8 (pb x 2), .int .u8 (pb x 3), .int .u8 (pb x 4), .int .u8 (pb x 5), .int .u8 (pb x 6)] 72) none))
    exact ⟨h.grown h2, World.alloc_heap_new V _, h2⟩
  clear hr0 hr1 hb0 hb1 hnow hr hl1 hz h he hE hw
  go_enter Tryz.func16, Tryz.ntmps16
  go_wp2_with (first
    | (go_at_call 37; (with_reducible refine (HP.out _).mono ?_); rintro e w1 ⟨rfl, hB1⟩; obtain ⟨w2, hw2⟩ : ∃ w2, w1.alloc (.cells #[.int .i64 (psz x), .int .u8 (pb x 0), .int .u8 (pb x 1), .int .u8 (pb x 2), .int .u8 (pb x 3), .int .u8 (pb x 4), .int .u8 (pb x 5), .int .u8 (pb x 6)] 72) = w2 := ⟨_, rfl⟩; obtain ⟨hA2, hP2, hG2⟩ := HWL.out _ _ hB1 (grown_refl _ _); rw [hw2] at hA2 hP2 hG2; have A2 := hidep hA2; have P2 := hidep hP2; have G2 := hidep hG2; obtain ⟨t0, t1, t2, t3, t4, t5, t6, t7⟩ := bxe hP2; have c1 : w2.cell? ⟨L, 1, none⟩ = some (.int .i64 burst) := hA2.bx.cell rfl; have c2 : w2.cell? ⟨L, 2, none⟩ = some (.map (some M)) := hA2.bx.cell rfl; have hm2 : MPa w2.drew M n (blkF S) := hA2.mp.grown (grown_drewN w2 1 none) (by simp); have hlk := hm2.look HX.out; rw [hF] at hlk; unfold paV ptV at hlk; simp only [Option.map_some, Option.map_none, Option.isSome_some, Option.isSome_none] at hlk; clear hA2 hP2 hG2 hB1 hm2))
  go_region_held3 (fun V => V.cell? ⟨L, 2, none⟩ = some (.map (some M)) ∧ V.cell? ⟨w1.heap.size, 0, none⟩ = some (.int .i64 (psz x)) ∧ V.cell? ⟨w1.heap.size, 1, none⟩ = some (.int .u8 (pb x 0)) ∧ V.cell? ⟨w1.heap.size, 2, none⟩ = some (.int .u8 (pb x 1)) ∧ V.cell? ⟨w1.heap.size, 3, none⟩ = some (.int .u8 (pb x 2)) ∧ V.cell? ⟨w1.heap.size, 4, none⟩ = some (.int .u8 (pb x 3)) ∧ V.cell? ⟨w1.heap.size, 5, none⟩ = some (.int .u8 (pb x 4)) ∧ V.cell? ⟨w1.heap.size, 6, none⟩ = some (.int .u8 (pb x 5)) ∧ V.cell? ⟨w1.heap.size, 7, none⟩ = some (.int .u8 (pb x 6))) (first | go_keep) (fail)
  have A2d : Lim w2.drew L M base qv n rate burst S := A2.out.grown (grown_drewN w2 1 none)
  have hRf := refill_any L e0.blk rate burst e0.left e0.last now (.map (some M)) qv w2.drew A2d.bx (A2d.ac e0 HI.out).1 (bx_kind A2d.bx (A2d.ac e0 HI.out).1 (by decide)) HR.out.1 HR.out.2.1 HR.out.2.2.1 HR.out.2.2.2.1 HE.out.2.1 HE.out.2.2.1 HR.out.2.2.2.2 HE.out.2.2.2
  rw [HL1.out] at hRf
  have HRF := hidep hRf
  have D2 := hidep A2d
  clear hRf A2d
  all_goals
    go_wp2_with (first
      | (go_at_call 39; (with_reducible refine HRF.out.mono ?_); rintro e w5 ⟨rfl, hb5, hg5⟩; have B5 := hidep hb5; have G5 := hidep hg5; have k0 : w5.cell? ⟨e0.blk, 0, none⟩ = some (.int .i64 l1) := hb5.cell rfl; have kf : w5.frozen? ⟨e0.blk, 0, none⟩ = false := hb5.free 0; clear hb5 hg5))
    have b6 : Bx (w5.setCell ⟨e0.blk, 0, none⟩ (.int .i64 (l1 - 1))) e0.blk #[.int .i64 (l1 - 1), .int .i64 (reT e0.last now)] 80 := B5.out.set 0 _
    have hp := Lim.put (e := e0) D2.out HI.out (grown_trans G5.out (grown_set w5 e0.blk 0 (.int .i64 (l1 - 1)))) b6 (by have := HZ.out; have := HRL.out; omega) (by have := HRL.out; omega) (reT_wf HE.out.2.2.2 HR.out.2.2.2.2)
    go_ret
    exact ⟨_, _, _, rfl, hp.1, (by rw [putE_T, ← HW.out, addT_in burst now HI.out]), Nat.le_succ _, (Ft.idle (grown_trans G2.out (grown_drewN w2 1 none))).trans hp.2⟩

set_option maxRecDepth 100000 in
set_option maxHeartbeats 4000000 in
theorem allow_out1 (L M base n : Nat) (qv : Value) (rate burst now : Int) (S : List En) (s x : ByteArray) (w : World) (h : Lim w L M base qv n rate burst S) (hs : whoB s = some x) (hnew : ∀ e ∈ S, e.who ≠ x) (hn : n < maxLen)
    (hr0 : 0 ≤ rate) (hr1 : rate ≤ 1000) (hb0 : 1 ≤ burst) (hb1 : burst ≤ 1000) (hnow : (Lit.int .i64 now).wf = true) (hz : reL rate burst burst now now = 0) :
    Calls Tryz.prog 16 #[.pointer (some ⟨L, 0, none⟩), .string s, .int .i64 now] w (alwE L M base n rate burst false (putT (addT burst (S.map trE) x now) x 0 (reT now now)) w) := by
  have HP := hidep (party_yes hs)
  have hx : paG x := who_pG hs
  have HX := hidep hx
  have H := hidep h
  have hF : blkF S x = none := blkF_none hnew
  have HN := hidep hnew
  have HNn := hidep hn
  have HR := hidep (And.intro hr0 (And.intro hr1 (And.intro hb0 (And.intro hb1 hnow))))
  obtain ⟨l1, hl1⟩ : ∃ l1, reL rate burst burst now now = l1 := ⟨_, rfl⟩
  have hr := reL_range (rate := rate) (burst := burst) (left := burst) (last := now) (now := now) hr0 (by omega) (by omega) (Int.le_refl _)
  rw [hl1] at hz hr
  try rw [hl1]
  have HL1 := hidep hl1
  have HRL := hidep hr
  have hz1 : (l1 == 0) = true := by simp [hz]
  have hwr : IntKind.i64.wrap (l1 - 1) = l1 - 1 := by rw [IntKind.wrap_i64]; omega
  have HZ := hidep hz
  have hbz : (burst == 0) = false := by simp; omega
  have hs1 : w.cell? ⟨L, 1, none⟩ = some (.int .i64 burst) := h.bx.cell rfl
  have HWL : Hid (∀ W V : World, Below W.heap.size W V → w.grownBy W none → Lim (V.alloc (.cells #[.int .i64 (psz x), .int .u8 (pb x 0), .int .u8 (pb x 1), .int .u8 (pb x 2), .int .u8 (pb x 3), .int .u8 (pb x 4), .int .u8 (pb x 5), .int .u8 (pb x 6)] 72)) L M base qv n rate burst S ∧ Bx (V.alloc (.cells #[.int .i64 (psz x), .int .u8 (pb x 0), .int .u8 (pb x 1), .int .u8 (pb x 2), .int .u8 (pb x 3), .int .u8 (pb x 4), .int .u8 (pb x 5), .int .u8 (pb x 6)] 72)) V.heap.size #[.int .i64 (psz x), .int .u8 (pb x 0), .int .u8 (pb x 1), .int .u8 (pb x 2), .int .u8 (pb x 3), .int .u8 (pb x 4), .int .u8 (pb x 5), .int .u8 (pb x 6)] 72 ∧ w.grownBy (V.alloc (.cells #[.int .i64 (psz x), .int .u8 (pb x 0), .int .u8 (pb x 1), .int .u8 (pb x 2), .int .u8 (pb x 3), .int .u8 (pb x 4), .int .u8 (pb x 5), .int .u8 (pb x 6)] 72)) none) := fun W V hB hg => by
    have h2 := grown_trans hg (grown_trans (grown_below hB none) (World.grownBy_alloc V (.cells #[.int .i64 (psz x), .int .u8 (pb x 0), .int .u8 (pb x 1), .int .u8 (pb x 2), .int .u8 (pb x 3), .int .u8 (pb x 4), .int .u8 (pb x 5), .int .u8 (pb x 6)] 72) none))
    exact ⟨h.grown h2, World.alloc_heap_new V _, h2⟩
  clear hr0 hr1 hb0 hb1 hnow hr hl1 hz h hnew hn
  go_enter Tryz.func16, Tryz.ntmps16
  go_wp2_with (first
    | (go_at_call 37; (with_reducible refine (HP.out _).mono ?_); rintro e w1 ⟨rfl, hB1⟩; obtain ⟨w2, hw2⟩ : ∃ w2, w1.alloc (.cells #[.int .i64 (psz x), .int .u8 (pb x 0), .int .u8 (pb x 1), .int .u8 (pb x 2), .int .u8 (pb x 3), .int .u8 (pb x 4), .int .u8 (pb x 5), .int .u8 (pb x 6)] 72) = w2 := ⟨_, rfl⟩; obtain ⟨hA2, hP2, hG2⟩ := HWL.out _ _ hB1 (grown_refl _ _); rw [hw2] at hA2 hP2 hG2; have A2 := hidep hA2; have P2 := hidep hP2; have G2 := hidep hG2; obtain ⟨t0, t1, t2, t3, t4, t5, t6, t7⟩ := bxe hP2; have c1 : w2.cell? ⟨L, 1, none⟩ = some (.int .i64 burst) := hA2.bx.cell rfl; have c2 : w2.cell? ⟨L, 2, none⟩ = some (.map (some M)) := hA2.bx.cell rfl; have hm2 : MPa w2.drew M n (blkF S) := hA2.mp.grown (grown_drewN w2 1 none) (by simp); have hlk := hm2.look HX.out; rw [hF] at hlk; unfold paV ptV at hlk; simp only [Option.map_some, Option.map_none, Option.isSome_some, Option.isSome_none] at hlk; clear hA2 hP2 hG2 hB1 hm2))
  go_region_held3 (fun V => V.cell? ⟨L, 2, none⟩ = some (.map (some M)) ∧ V.cell? ⟨w1.heap.size, 0, none⟩ = some (.int .i64 (psz x)) ∧ V.cell? ⟨w1.heap.size, 1, none⟩ = some (.int .u8 (pb x 0)) ∧ V.cell? ⟨w1.heap.size, 2, none⟩ = some (.int .u8 (pb x 1)) ∧ V.cell? ⟨w1.heap.size, 3, none⟩ = some (.int .u8 (pb x 2)) ∧ V.cell? ⟨w1.heap.size, 4, none⟩ = some (.int .u8 (pb x 3)) ∧ V.cell? ⟨w1.heap.size, 5, none⟩ = some (.int .u8 (pb x 4)) ∧ V.cell? ⟨w1.heap.size, 6, none⟩ = some (.int .u8 (pb x 5)) ∧ V.cell? ⟨w1.heap.size, 7, none⟩ = some (.int .u8 (pb x 6))) (first | go_keep) (fail)
  all_goals
    go_wp2_with (first
      | (go_at_call 38; refine (admit_any L M base n qv rate burst now S x _ (A2.out.grown (grown_drewN w2 1 none)) HX.out HN.out HNn.out (by have := HR.out.2.2.1; omega) HR.out.2.2.2.2).mono ?_; rintro e w4 ⟨A, qv4, rfl, hl4, hf4⟩; have L4 := hidep hl4; have F4 := hidep hf4; have hRf := refill_any L A rate burst burst now now (.map (some M)) qv4 w4 hl4.bx (hl4.ac ⟨x, A, burst, now⟩ (by simp)).1 (bx_kind hl4.bx (hl4.ac ⟨x, A, burst, now⟩ (by simp)).1 (by decide)) HR.out.1 HR.out.2.1 HR.out.2.2.1 HR.out.2.2.2.1 (by have := HR.out.2.2.1; omega) (Int.le_refl _) HR.out.2.2.2.2 HR.out.2.2.2.2; rw [HL1.out] at hRf; have HRF := hidep hRf; clear hRf hl4 hf4)
      | (go_at_call 39; (with_reducible refine HRF.out.mono ?_); rintro e w5 ⟨rfl, hb5, hg5⟩; have B5 := hidep hb5; have G5 := hidep hg5; have k0 : w5.cell? ⟨A, 0, none⟩ = some (.int .i64 l1) := hb5.cell rfl; have kf : w5.frozen? ⟨A, 0, none⟩ = false := hb5.free 0; clear hb5 hg5))
    have hp := Lim.put (e := (⟨x, A, burst, now⟩ : En)) L4.out (by simp) G5.out B5.out HRL.out.1 HRL.out.2 (reT_wf HR.out.2.2.2.2 HR.out.2.2.2.2)
    go_ret
    have hz0 := HZ.out
    subst hz0
    exact ⟨_, _, _, rfl, hp.1, (by rw [putE_T, addT_out burst now A HN.out]), Nat.le_refl _, ((Ft.idle (grown_trans G2.out (grown_drewN w2 1 none))).trans F4.out).trans hp.2⟩

set_option maxRecDepth 100000 in
set_option maxHeartbeats 4000000 in
theorem allow_out0 (L M base n : Nat) (qv : Value) (rate burst now : Int) (S : List En) (s x : ByteArray) (w : World) (h : Lim w L M base qv n rate burst S) (hs : whoB s = some x) (hnew : ∀ e ∈ S, e.who ≠ x) (hn : n < maxLen)
    (hr0 : 0 ≤ rate) (hr1 : rate ≤ 1000) (hb0 : 1 ≤ burst) (hb1 : burst ≤ 1000) (hnow : (Lit.int .i64 now).wf = true) (hz : ¬ reL rate burst burst now now = 0) :
    Calls Tryz.prog 16 #[.pointer (some ⟨L, 0, none⟩), .string s, .int .i64 now] w (alwE L M base n rate burst true (putT (addT burst (S.map trE) x now) x (reL rate burst burst now now - 1) (reT now now)) w) := by
  have HP := hidep (party_yes hs)
  have hx : paG x := who_pG hs
  have HX := hidep hx
  have H := hidep h
  have hF : blkF S x = none := blkF_none hnew
  have HN := hidep hnew
  have HNn := hidep hn
  have HR := hidep (And.intro hr0 (And.intro hr1 (And.intro hb0 (And.intro hb1 hnow))))
  obtain ⟨l1, hl1⟩ : ∃ l1, reL rate burst burst now now = l1 := ⟨_, rfl⟩
  have hr := reL_range (rate := rate) (burst := burst) (left := burst) (last := now) (now := now) hr0 (by omega) (by omega) (Int.le_refl _)
  rw [hl1] at hz hr
  try rw [hl1]
  have HL1 := hidep hl1
  have HRL := hidep hr
  have hz1 : (l1 == 0) = false := by simp [hz]
  have hwr : IntKind.i64.wrap (l1 - 1) = l1 - 1 := by rw [IntKind.wrap_i64]; omega
  have HZ := hidep hz
  have hbz : (burst == 0) = false := by simp; omega
  have hs1 : w.cell? ⟨L, 1, none⟩ = some (.int .i64 burst) := h.bx.cell rfl
  have HWL : Hid (∀ W V : World, Below W.heap.size W V → w.grownBy W none → Lim (V.alloc (.cells #[.int .i64 (psz x), .int .u8 (pb x 0), .int .u8 (pb x 1), .int .u8 (pb x 2), .int .u8 (pb x 3), .int .u8 (pb x 4), .int .u8 (pb x 5), .int .u8 (pb x 6)] 72)) L M base qv n rate burst S ∧ Bx (V.alloc (.cells #[.int .i64 (psz x), .int .u8 (pb x 0), .int .u8 (pb x 1), .int .u8 (pb x 2), .int .u8 (pb x 3), .int .u8 (pb x 4), .int .u8 (pb x 5), .int .u8 (pb x 6)] 72)) V.heap.size #[.int .i64 (psz x), .int .u8 (pb x 0), .int .u8 (pb x 1), .int .u8 (pb x 2), .int .u8 (pb x 3), .int .u8 (pb x 4), .int .u8 (pb x 5), .int .u8 (pb x 6)] 72 ∧ w.grownBy (V.alloc (.cells #[.int .i64 (psz x), .int .u8 (pb x 0), .int .u8 (pb x 1), .int .u8 (pb x 2), .int .u8 (pb x 3), .int .u8 (pb x 4), .int .u8 (pb x 5), .int .u8 (pb x 6)] 72)) none) := fun W V hB hg => by
    have h2 := grown_trans hg (grown_trans (grown_below hB none) (World.grownBy_alloc V (.cells #[.int .i64 (psz x), .int .u8 (pb x 0), .int .u8 (pb x 1), .int .u8 (pb x 2), .int .u8 (pb x 3), .int .u8 (pb x 4), .int .u8 (pb x 5), .int .u8 (pb x 6)] 72) none))
    exact ⟨h.grown h2, World.alloc_heap_new V _, h2⟩
  clear hr0 hr1 hb0 hb1 hnow hr hl1 hz h hnew hn
  go_enter Tryz.func16, Tryz.ntmps16
  go_wp2_with (first
    | (go_at_call 37; (with_reducible refine (HP.out _).mono ?_); rintro e w1 ⟨rfl, hB1⟩; obtain ⟨w2, hw2⟩ : ∃ w2, w1.alloc (.cells #[.int .i64 (psz x), .int .u8 (pb x 0), .int .u8 (pb x 1), .int .u8 (pb x 2), .int .u8 (pb x 3), .int .u8 (pb x 4), .int .u8 (pb x 5), .int .u8 (pb x 6)] 72) = w2 := ⟨_, rfl⟩; obtain ⟨hA2, hP2, hG2⟩ := HWL.out _ _ hB1 (grown_refl _ _); rw [hw2] at hA2 hP2 hG2; have A2 := hidep hA2; have P2 := hidep hP2; have G2 := hidep hG2; obtain ⟨t0, t1, t2, t3, t4, t5, t6, t7⟩ := bxe hP2; have c1 : w2.cell? ⟨L, 1, none⟩ = some (.int .i64 burst) := hA2.bx.cell rfl; have c2 : w2.cell? ⟨L, 2, none⟩ = some (.map (some M)) := hA2.bx.cell rfl; have hm2 : MPa w2.drew M n (blkF S) := hA2.mp.grown (grown_drewN w2 1 none) (by simp); have hlk := hm2.look HX.out; rw [hF] at hlk; unfold paV ptV at hlk; simp only [Option.map_some, Option.map_none, Option.isSome_some, Option.isSome_none] at hlk; clear hA2 hP2 hG2 hB1 hm2))
  go_region_held3 (fun V => V.cell? ⟨L, 2, none⟩ = some (.map (some M)) ∧ V.cell? ⟨w1.heap.size, 0, none⟩ = some (.int .i64 (psz x)) ∧ V.cell? ⟨w1.heap.size, 1, none⟩ = some (.int .u8 (pb x 0)) ∧ V.cell? ⟨w1.heap.size, 2, none⟩ = some (.int .u8 (pb x 1)) ∧ V.cell? ⟨w1.heap.size, 3, none⟩ = some (.int .u8 (pb x 2)) ∧ V.cell? ⟨w1.heap.size, 4, none⟩ = some (.int .u8 (pb x 3)) ∧ V.cell? ⟨w1.heap.size, 5, none⟩ = some (.int .u8 (pb x 4)) ∧ V.cell? ⟨w1.heap.size, 6, none⟩ = some (.int .u8 (pb x 5)) ∧ V.cell? ⟨w1.heap.size, 7, none⟩ = some (.int .u8 (pb x 6))) (first | go_keep) (fail)
  all_goals
    go_wp2_with (first
      | (go_at_call 38; refine (admit_any L M base n qv rate burst now S x _ (A2.out.grown (grown_drewN w2 1 none)) HX.out HN.out HNn.out (by have := HR.out.2.2.1; omega) HR.out.2.2.2.2).mono ?_; rintro e w4 ⟨A, qv4, rfl, hl4, hf4⟩; have L4 := hidep hl4; have F4 := hidep hf4; have hRf := refill_any L A rate burst burst now now (.map (some M)) qv4 w4 hl4.bx (hl4.ac ⟨x, A, burst, now⟩ (by simp)).1 (bx_kind hl4.bx (hl4.ac ⟨x, A, burst, now⟩ (by simp)).1 (by decide)) HR.out.1 HR.out.2.1 HR.out.2.2.1 HR.out.2.2.2.1 (by have := HR.out.2.2.1; omega) (Int.le_refl _) HR.out.2.2.2.2 HR.out.2.2.2.2; rw [HL1.out] at hRf; have HRF := hidep hRf; clear hRf hl4 hf4)
      | (go_at_call 39; (with_reducible refine HRF.out.mono ?_); rintro e w5 ⟨rfl, hb5, hg5⟩; have B5 := hidep hb5; have G5 := hidep hg5; have k0 : w5.cell? ⟨A, 0, none⟩ = some (.int .i64 l1) := hb5.cell rfl; have kf : w5.frozen? ⟨A, 0, none⟩ = false := hb5.free 0; clear hb5 hg5))
    have b6 : Bx (w5.setCell ⟨A, 0, none⟩ (.int .i64 (l1 - 1))) A #[.int .i64 (l1 - 1), .int .i64 (reT now now)] 80 := B5.out.set 0 _
    have hp := Lim.put (e := (⟨x, A, burst, now⟩ : En)) L4.out (by simp) (grown_trans G5.out (grown_set w5 A 0 (.int .i64 (l1 - 1)))) b6 (by have := HZ.out; have := HRL.out; omega) (by have := HRL.out; omega) (reT_wf HR.out.2.2.2.2 HR.out.2.2.2.2)
    go_ret
    exact ⟨_, _, _, rfl, hp.1, (by rw [putE_T, addT_out burst now A HN.out]), Nat.le_refl _, ((Ft.idle (grown_trans G2.out (grown_drewN w2 1 none))).trans F4.out).trans hp.2⟩
end Go.Proofs.YtelboefeomnjaaaGreat
