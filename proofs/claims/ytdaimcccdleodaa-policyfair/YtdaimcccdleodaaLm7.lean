import Derived.Test.YtdaimcccdleodaaLm6
/-
  Chapter 15: (*policy.Limiter).admit. (The verifier's own text.)
-/
namespace Go.Proofs.Ytdaimcccdleodaa
set_option linter.unusedVariables false
set_option linter.unusedSimpArgs false
open Go.RowKit Go.Shelf Go.Maps


set_option maxRecDepth 100000 in
set_option maxHeartbeats 4000000 in
theorem admit_full (L M base n : Nat) (qv3 : Value) (rate burst now : Int) (e0 : En) (T : List En) (x : ByteArray) (w : World) (h : Lim w L M base qv3 n rate burst (e0 :: T)) (hx : paG x) (hnew : ∀ e ∈ T, e.who ≠ x) (hlen0 : T.length = 999) (hn : n < maxLen) (hb0 : 0 ≤ burst) (hnow : (Lit.int .i64 now).wf = true) :
    Calls Try.prog 21 #[.pointer (some ⟨L, 0, none⟩), paV x, .int .i64 now] w (admE L M base n rate burst now T x w) := by
  have hlen : T.length < 1000 := by omega
  obtain ⟨wa, hwa⟩ : ∃ wa, w.alloc (.cells #[.int .i64 (psz x), .int .u8 (pb x 0), .int .u8 (pb x 1), .int .u8 (pb x 2), .int .u8 (pb x 3), .int .u8 (pb x 4), .int .u8 (pb x 5), .int .u8 (pb x 6)] 59) = wa := ⟨_, rfl⟩
  have Ga : Hid (w.grownBy wa none) := hwa ▸ World.grownBy_alloc w _ _
  have HPa : Hid (Bx wa w.heap.size #[.int .i64 (psz x), .int .u8 (pb x 0), .int .u8 (pb x 1), .int .u8 (pb x 2), .int .u8 (pb x 3), .int .u8 (pb x 4), .int .u8 (pb x 5), .int .u8 (pb x 6)] 59) := hwa ▸ World.alloc_heap_new w _
  have Ha := hidep (h.grown Ga.out)
  clear h
  obtain ⟨g, o, cap, rfl, hc1, hc2, hqt⟩ := Orow.tail (n := T.length) Ha.out.q (xs' := rowV paC (T.map (·.who))) (by rw [List.map_cons, rowV, List.drop_append_of_le_length (by rw [paC_len]; exact Nat.le_refl _), List.drop_of_length_le (by rw [paC_len]; exact Nat.le_refl _)]; rfl)
  have hcell : ∀ j u, (paC e0.who)[j]? = some u → wa.cell? ⟨g, o * 8 + j, none⟩ = some u := fun j u hu => by
    have := Ha.out.q.cells j u (by rw [List.map_cons, rowV, List.getElem?_append_left (List.getElem?_eq_some_iff.1 hu).1]; exact hu)
    rw [Addr.add_lit] at this
    exact this
  have hma : MPa wa.drew M n (blkF (e0 :: T)) := Ha.out.mp.grown (grown_drewN wa 1 none) (by simp)
  obtain ⟨w2, hdel, hm2, hg2⟩ := hma.drop (Ha.out.good e0 (by simp)).1 0 (f' := blkF T) (blkF_none (fun e he => by
    have := Ha.out.who
    simp only [List.map_cons, List.nodup_cons] at this
    exact fun h' => this.1 (h' ▸ List.mem_map_of_mem he))) (fun z _ hz => (blkF_tail hz).symm)
  have G2 : Hid (wa.grownBy w2 (some M)) := grown_trans (grown_drewN wa 1 _) hg2
  have E3 := hidep (Lim.pop Ha.out hm2 G2.out hqt)
  obtain ⟨w3, hw3⟩ : ∃ w3, w2.setCell ⟨L, 3, none⟩ (.slice (some ⟨g, o * 8 + 8, none⟩) T.length (cap - 1)) = w3 := ⟨_, rfl⟩
  rw [hw3] at E3
  have H3 := hidep E3.out.1
  have HF3 : Hid (Ft LK base w w3) := (Ft.idle Ga.out).trans E3.out.2
  have nPM0 : w.heap.size ≠ M := bx_map HPa.out Ha.out.mp
  have nLM0 : L ≠ M := bx_map Ha.out.bx Ha.out.mp
  have nPL : L ≠ w.heap.size := bx_kind Ha.out.bx HPa.out (by decide)
  have HP3 : Hid (Bx w3 w.heap.size #[.int .i64 (psz x), .int .u8 (pb x 0), .int .u8 (pb x 1), .int .u8 (pb x 2), .int .u8 (pb x 3), .int .u8 (pb x 4), .int .u8 (pb x 5), .int .u8 (pb x 6)] 59) := hw3 ▸ (HPa.out.grown G2.out (by simp; omega)).grown (grown_set w2 L 3 _) (by simp; omega)
  have x2 := Ha.out.bx.grown G2.out (by simp; omega)
  have k2 : w2.cell? ⟨L, 3, none⟩ = some (.slice (some ⟨g, o * 8, none⟩) (T.length + 1) cap) := x2.cell rfl
  have k2f : w2.frozen? ⟨L, 3, none⟩ = false := x2.free 3
  have l2 : wa.cell? ⟨L, 2, none⟩ = some (.map (some M)) := Ha.out.bx.cell rfl
  have l3 : wa.cell? ⟨L, 3, none⟩ = some (.slice (some ⟨g, o * 8, none⟩) (T.length + 1) cap) := Ha.out.bx.cell rfl
  have y0 : wa.cell? ⟨g, o * 8, none⟩ = some (.int .i64 (psz e0.who)) := hcell 0 _ rfl
  have y1 : wa.cell? ⟨g, o * 8 + 1, none⟩ = some (.int .u8 (pb e0.who 0)) := hcell 1 _ rfl
  have y2 : wa.cell? ⟨g, o * 8 + 2, none⟩ = some (.int .u8 (pb e0.who 1)) := hcell 2 _ rfl
  have y3 : wa.cell? ⟨g, o * 8 + 3, none⟩ = some (.int .u8 (pb e0.who 2)) := hcell 3 _ rfl
  have y4 : wa.cell? ⟨g, o * 8 + 4, none⟩ = some (.int .u8 (pb e0.who 3)) := hcell 4 _ rfl
  have y5 : wa.cell? ⟨g, o * 8 + 5, none⟩ = some (.int .u8 (pb e0.who 4)) := hcell 5 _ rfl
  have y6 : wa.cell? ⟨g, o * 8 + 6, none⟩ = some (.int .u8 (pb e0.who 5)) := hcell 6 _ rfl
  have y7 : wa.cell? ⟨g, o * 8 + 7, none⟩ = some (.int .u8 (pb e0.who 6)) := hcell 7 _ rfl
  have hl0 : ((T.length : Int) + 1 == 1000) = true := by simp; omega
  have HC1 := hidep hc1
  have hcne : ¬ cap = 1 := by omega
  have hc1' : ((T.length : Int) + 1 ≤ (cap : Int)) := by omega
  have hcm : (cap : Int) ≤ 9223372036854775807 := by unfold maxLen at hc2; omega
  have HD := hidep hdel
  clear hm2 hg2 hma hcell hqt hdel x2 hc2 hlen0
  -- from the world w3 on
  obtain ⟨wb, hwb⟩ : ∃ wb, w3.alloc (.cells #[.int .i64 burst, .int .i64 now] 67) = wb := ⟨_, rfl⟩
  have GB : Hid (w3.grownBy wb none) := hwb ▸ World.grownBy_alloc w3 _ _
  have HA : Hid (Bx wb w3.heap.size #[.int .i64 burst, .int .i64 now] 67) := hwb ▸ World.alloc_heap_new w3 _
  have HLb := hidep (H3.out.grown GB.out)
  have HPb := hidep (HP3.out.grown GB.out (by simp))
  have hmb : MPa wb.drew M n (blkF T) := HLb.out.mp.grown (grown_drewN wb 1 none) (by simp)
  obtain ⟨w5, hrun, hm5, hg5⟩ := hmb.store hx w3.heap.size hn (f' := blkF (T ++ [⟨x, w3.heap.size, burst, now⟩])) (blkF_app (e := ⟨x, w3.heap.size, burst, now⟩) hnew) (fun z _ hz => blkF_other hz)
  have M5 := hidep hm5
  have G5 : Hid (wb.grownBy w5 (some M)) := grown_trans (grown_drewN wb 1 _) hg5
  have nPM : w.heap.size ≠ M := bx_map HPb.out HLb.out.mp
  have nLM : L ≠ M := bx_map HLb.out.bx HLb.out.mp
  have X5 := hidep (HLb.out.bx.grown G5.out (by simp; omega))
  have P5 := hidep (HPb.out.grown G5.out (by simp; omega))
  have Q5 := hidep (HLb.out.q.kept G5.out (fun k e e' => by cases e'; exact map_row HLb.out.mp HLb.out.q e rfl))
  obtain ⟨i0, hi, hz0, hz1, hz2⟩ := info_parts infoPar
  have HI := hidep (And.intro hi (And.intro hz0 (And.intro hz1 hz2)))
  have HN := hidep hnew
  have HT := hidep hlen
  have HX := hidep hx
  have HNW := hidep hnow
  have HB0 := hidep hb0
  have b3 : w3.cell? ⟨L, 1, none⟩ = some (.int .i64 burst) := H3.out.bx.cell rfl
  have m5 : wb.cell? ⟨L, 2, none⟩ = some (.map (some M)) := HLb.out.bx.cell rfl
  have s5 : w5.cell? ⟨L, 2, none⟩ = some (.map (some M)) := X5.out.cell rfl
  have q5 : w5.cell? ⟨L, 3, none⟩ = some (.slice (some ⟨g, o * 8 + 8, none⟩) T.length (cap - 1)) := X5.out.cell rfl
  have qa : ∀ ob, (w5.alloc ob).cell? ⟨L, 3, none⟩ = some (.slice (some ⟨g, o * 8 + 8, none⟩) T.length (cap - 1)) := fun ob => (X5.out.grown (World.grownBy_alloc w5 ob none) (by simp)).cell rfl
  obtain ⟨t0, t1, t2, t3, t4, t5, t6, t7⟩ := bxe HPb.out
  obtain ⟨u0, u1, u2, u3, u4, u5, u6, u7⟩ := bxe P5.out
  unfold paV at hrun
  clear hm5 hg5 hmb hi hz0 hz1 hz2 hnew hlen hx hnow hn hb0
  unfold paV
  go_enter Try.func21, Try.ntmps21
  go_wp2_with fail
  go_region_law (refine step_builtin2 _ rfl _ _ 53 59 rfl (.map (some M)) (paV e0.who) rfl rfl (.tuple #[]) w2 HD.out ?_)
  all_goals
    go_wp2_with fail
    go_region_held3 (fun V => V.cell? ⟨L, 2, none⟩ = some (.map (some M)) ∧ V.cell? ⟨w.heap.size, 0, none⟩ = some (.int .i64 (psz x)) ∧ V.cell? ⟨w.heap.size, 1, none⟩ = some (.int .u8 (pb x 0)) ∧ V.cell? ⟨w.heap.size, 2, none⟩ = some (.int .u8 (pb x 1)) ∧ V.cell? ⟨w.heap.size, 3, none⟩ = some (.int .u8 (pb x 2)) ∧ V.cell? ⟨w.heap.size, 4, none⟩ = some (.int .u8 (pb x 3)) ∧ V.cell? ⟨w.heap.size, 5, none⟩ = some (.int .u8 (pb x 4)) ∧ V.cell? ⟨w.heap.size, 6, none⟩ = some (.int .u8 (pb x 5)) ∧ V.cell? ⟨w.heap.size, 7, none⟩ = some (.int .u8 (pb x 6))) (first | go_keep | (with_reducible exact ⟨s5, u0, u1, u2, u3, u4, u5, u6, u7⟩)) (fail)
    all_goals
      go_wp2_with fail
      go_region_law ((refine step_append_orow _ rfl _ _ 54 rfl base 59 i0 paZ 8 16 Try.underlying54 HI.out.1 HI.out.2.1 HI.out.2.2.1 HI.out.2.2.2 rfl (by decide) (.slice (some ⟨g, o * 8 + 8, none⟩) T.length (cap - 1)) T.length (rowV paC (T.map (·.who))) rfl ((Q5.out.kept (row := none) (by first | exact grown_trans (World.grownBy_alloc w5 _ _) (grown_drewN _ 1 _) | exact World.grownBy_alloc w5 _ _ | exact grown_trans (grown_drewN w5 1 _) (World.grownBy_alloc _ _ _)) (fun _ _ => by simp))) ⟨_, 0, none⟩ 1 1 (paC x) rfl rfl (by first | exact World.news_of_block (bxNew _ #[.int .i64 (psz x), .int .u8 (pb x 0), .int .u8 (pb x 1), .int .u8 (pb x 2), .int .u8 (pb x 3), .int .u8 (pb x 4), .int .u8 (pb x 5), .int .u8 (pb x 6)] 59)) (paC_one _) (by decide) (by have := HT.out; unfold maxLen; omega) (by have := HT.out; omega) (by have := HLb.out.bW; have := G5.out.size; simp; omega) ?_); intro g7 f7 c7 w7 o7 gr7 pl7; obtain ⟨c73, f73⟩ := Lim.push0 H3.out GB.out G5.out (by first | exact grown_trans (World.grownBy_alloc w5 _ _) (grown_drewN _ 1 _) | exact World.grownBy_alloc w5 _ _ | exact grown_trans (grown_drewN w5 1 _) (World.grownBy_alloc _ _ _)) gr7; have E7 := hidep (Lim.push H3.out HX.out HN.out HT.out HB0.out HNW.out GB.out HA.out (Nat.le_refl _) M5.out G5.out (by first | exact grown_trans (World.grownBy_alloc w5 _ _) (grown_drewN _ 1 _) | exact World.grownBy_alloc w5 _ _ | exact grown_trans (grown_drewN w5 1 _) (World.grownBy_alloc _ _ _)) o7 gr7 pl7); clear o7 gr7 pl7)
      all_goals
        go_wp2_with fail
        go_ret
        exact ⟨_, _, rfl, E7.out.1, HF3.out.trans E7.out.2⟩
end Go.Proofs.Ytdaimcccdleodaa
