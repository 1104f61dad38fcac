import Derived.Test.YtkamjcpcdkejmaaDoorFld
import Derived.Test.YtkamjcpcdkejmaaDoorMath5
namespace Go.Proofs.YtkamjcpcdkejmaaDoor
set_option linter.unusedVariables false
open Go.RowKit Go.Shelf Nm
attribute [local go_sem] Oper.semAt_some

theorem isName_in (s : ByteArray) (n : Nat) (w : World) (hm : s.size ≤ maxLen) :
    CallsIn Fence.wide n Tryd.prog 17 #[.string s] w fun e W' => e = .returned (.bool (isN s)) ∧ Below w.heap.size w W' := callsIn_wide.2 (isName_any s w hm)

set_option maxRecDepth 100000 in
set_option maxHeartbeats 2000000 in
theorem count_in (s : ByteArray) (w : World) (hm : s.size ≤ maxLen) :
    CallsIn Fence.wide 3 Tryd.prog 10 #[.string s] w fun e W' => e = .returned (.int .i64 (cntI s)) ∧ Below w.heap.size w W' := by
  have hro : Fence.wide.round = none := rfl
  cases hN : isN s with
  | false =>
    have HC : Hid (cntI s = -1) := cntI_no hN
    refine callsIn_of_wp_marks Tryd.func10 rfl trivial ?_ hro
    simp only [Tryd.ntmps10, List.size_toArray, List.length_cons, List.length_nil, Nat.reduceAdd, Nat.reduceSub, Array.replicate_succ, Array.replicate_zero, List.push_toArray, List.append_toArray, List.nil_append, List.cons_append]
    gi_wp2_with (refine ⟨trivial, ?_⟩; gi_at_call 17; refine (isName_in s _ _ hm).mono ?_; rintro e w' ⟨rfl, hB⟩)
    exact ⟨_, results_tmp rfl _ _ _, by rw [HC.out]; rfl, hB⟩
  | true =>
    have HC : Hid (cntI s = ((labs s).length : Nat)) := cntI_yes hN
    have hs : s.size ≤ 255 := ((isN_iff s).1 hN).1
    refine callsIn_of_wp_marks Tryd.func10 rfl trivial ?_ hro
    simp only [Tryd.ntmps10, List.size_toArray, List.length_cons, List.length_nil, Nat.reduceAdd, Nat.reduceSub, Array.replicate_succ, Array.replicate_zero, List.push_toArray, List.append_toArray, List.nil_append, List.cons_append]
    gi_wp2_with (first
      | (refine ⟨trivial, ?_⟩; gi_at_call 17; refine (isName_in s _ _ hm).mono ?_; rintro e w1 ⟨rfl, hB1⟩)
      | (refine ⟨trivial, ?_⟩; gi_at_call 22; refine (walk_in Fence.wide _ trivial rfl _ _).mono ?_; rintro e w' ⟨rfl, rfl⟩))
    have hs1 := cell_new_l w1 (.int .i64 0) 3
    have hb := cell_new_l (w1.alloc (.cells #[.int .i64 0] 3)) (.string s) 9
    rw [World.size_alloc] at hb
    have hB0 : Below w1.heap.size w1 ((w1.alloc (.cells #[.int .i64 0] 3)).alloc (.cells #[.string s] 9)) := ((Below.refl _ w1).alloc (Nat.le_refl _) _).alloc (by simp) _
    refine wpIn_rangeFunc_ownF hro (by omega) (gf := 27) (lb := #[.pointer (some ⟨w1.heap.size + 1, 0, none⟩)]) rfl trivial (enters_of Tryd.func27 (by kernel_rfl) rfl)
      (walk_stops Fence.wide _ trivial hro (by omega) (w1.heap.size + 1) s hs _ (by simp) hb.1) kpB_t (kpB_b (w := (w1.alloc (.cells #[.int .i64 0] 3)).alloc (.cells #[.string s] 9))) (Below.refl _ _) (fun _ => rfl)
      (fun pre W => (W.cell? ⟨w1.heap.size, 0, none⟩ = some (.int .i64 pre.length) ∧ W.frozen? ⟨w1.heap.size, 0, none⟩ = false) ∧ Below w1.heap.size w1 W)
      (fun _ _ _ => False)
      (OwnFrom.and (Own.from (fun s A B row hs hg hr => ⟨cell_kept hs.1 hg hr, (frozen_kept hs.1 hg hr).trans hs.2⟩) _) (ownFrom_below (Nat.le_refl _) (by simp; omega)))
      (fun _ _ _ _ _ hs _ _ => hs)
      ⟨⟨cell_alloc_l _ hs1.1, frozen_alloc_l _ hs1.1 hs1.2⟩, hB0⟩
      (fun x => { tmps := #[Value.string s, undef, Value.int IntKind.i64 0, Value.pointer (some { block := w1.heap.size, off := 0 }),
          Value.string s, Value.bool true, Value.bool false, Value.string s,
          Value.func (Fn.func 27) #[] #[Value.pointer (some { block := w1.heap.size + 1, off := 0 })], .int .i64 x.1.1, .string x.1.2,
          undef, undef, undef], defers := [] }) ?assign ?body ?done ?stop
    case assign =>
      intro l x W K hK
      dsimp only [encL]
      gi_wp2
      go_simp
      exact hK
    case body =>
      rintro l pre ⟨⟨i, lab⟩, hx⟩ W ⟨⟨hc, hf⟩, hB⟩ hpl
      dsimp only at hx ⊢
      gi_wp2
      refine ⟨KeepsOthers.setCell _ _ _, fun v e => ?_, ⟨?_, by rw [World.frozen?_setCell]; exact hf⟩, hB.setCell (p := ⟨w1.heap.size, 0, none⟩) (Nat.le_refl _) _⟩
      · rw [cell_far _ _ _ _ (by simp)]; exact e
      · rw [World.cell?_setCell_same' _ _ _ (by rw [hc]; rfl)]; simp
    case done =>
      rintro D ys W hD rfl ⟨⟨hc, _⟩, hB⟩ hK
      gi_wp2
      refine ⟨by simp, .inl ⟨_, _, rfl, run_takeDeferred hK, ?_⟩⟩
      refine ⟨_, results_tmp rfl _ _ _, ?_, ?_⟩
      · rw [HC.out, labs_len]; rfl
      · exact (hB1.trans (hB.mono hB1.size)).trans (belowK_b (w := w) (Nat.le_refl _) W D _ _ (by have := hB1.size; simp at hD; omega) hK rfl rfl)
    case stop =>
      rintro D c pre W _ _ h _
      exact h.elim

theorem count_any (s : ByteArray) (w : World) (hm : s.size ≤ maxLen) :
    Calls Tryd.prog 10 #[.string s] w fun e W' => e = .returned (.int .i64 (cntI s)) ∧ Below w.heap.size w W' := callsIn_wide.1 (count_in s w hm)

theorem tail_cells (s t : ByteArray) (w w1 : World) (hB : Below ((w.alloc (Obj.cells #[Value.string s] 9)).alloc (Obj.cells #[Value.string t] 9)).heap.size
    ((w.alloc (Obj.cells #[Value.string s] 9)).alloc (Obj.cells #[Value.string t] 9)) w1) :
    w1.cell? ⟨w.heap.size, 0, none⟩ = some (.string s) ∧ w1.cell? ⟨w.heap.size + 1, 0, none⟩ = some (.string t) ∧ w1.frozen? ⟨w.heap.size + 1, 0, none⟩ = false ∧ Below w.heap.size w w1 ∧ w.heap.size + 2 ≤ w1.heap.size := by
  have c0 := cell_new_l w (.string s) 9
  have c1 := cell_new_l (w.alloc (.cells #[.string s] 9)) (.string t) 9
  rw [World.size_alloc] at c1
  have hz := hB.size
  simp only [World.size_alloc] at hB hz
  refine ⟨(hB.cell (p := ⟨w.heap.size, 0, none⟩) (by simp; omega)).trans (cell_alloc_l _ c0.1), (hB.cell (p := ⟨w.heap.size + 1, 0, none⟩) (by simp)).trans c1.1, (hB.frozen (p := ⟨w.heap.size + 1, 0, none⟩) (by simp)).trans c1.2, ?_, by omega⟩
  exact (((Below.refl _ w).alloc (Nat.le_refl _) _).alloc (by simp) _).trans (hB.mono (by omega))

set_option maxRecDepth 100000 in
set_option maxHeartbeats 2000000 in
theorem tail_in (s : ByteArray) (k : Int) (w : World) (hm : s.size ≤ maxLen) :
    CallsIn Fence.wide 3 Tryd.prog 14 #[.string s, .int .i64 k] w fun e W' => e = .returned (.string (tailB s k)) ∧ Below w.heap.size w W' := by
  have hro : Fence.wide.round = none := rfl
  by_cases hyes : isN s = true ∧ 0 ≤ k ∧ k ≤ (labs s).length
  · obtain ⟨hN, hk0, hkl⟩ := hyes
    obtain ⟨q, rfl⟩ := Int.eq_ofNat_of_zero_le hk0
    have HC : Hid (cntI s = ((labs s).length : Nat)) := cntI_yes hN
    have hs : s.size ≤ 255 := ((isN_iff s).1 hN).1
    have hl254 := labs_len_le hN
    have hkl' : q ≤ (labs s).length := by omega
    refine callsIn_of_wp_marks Tryd.func14 rfl trivial ?_ hro
    simp only [Tryd.ntmps14, List.size_toArray, List.length_cons, List.length_nil, Nat.reduceAdd, Nat.reduceSub, Array.replicate_succ, Array.replicate_zero, List.push_toArray, List.append_toArray, List.nil_append, List.cons_append]
    gi_wp2_with (first
      | (refine ⟨trivial, ?_⟩; gi_at_call 10; refine (callsIn_wide.2 (count_any s _ hm)).mono ?_; rintro e w1 ⟨rfl, hB1⟩; rw [HC.out]; obtain ⟨hn1, hr1, hf1, hB1', hz1⟩ := tail_cells _ _ _ _ hB1; have hn2 := fun o => cell_alloc_l o hn1)
      | (refine ⟨trivial, ?_⟩; gi_at_call 22; refine (walk_in Fence.wide _ trivial rfl _ _).mono ?_; rintro e w' ⟨rfl, rfl⟩))
    obtain ⟨m, hm1, hm2⟩ : ∃ m : Nat, ((labs s).length : Int) - (q : Int) = (m : Int) ∧ m ≤ 254 ∧ Hid (m + q = (labs s).length) := ⟨(labs s).length - q, by omega, by omega, by unfold Hid; omega⟩
    obtain ⟨hm2, HM⟩ := hm2
    rw [hm1]
    clear hm1 hB1
    have hs1 := cell_new_l w1 (.int .i64 (m : Int)) 3
    have hb := cell_new_l (w1.alloc (.cells #[.int .i64 (m : Int)] 3)) (.string s) 9
    rw [World.size_alloc] at hb
    have hB0 : Below w.heap.size w ((w1.alloc (.cells #[.int .i64 (m : Int)] 3)).alloc (.cells #[.string s] 9)) := (hB1'.alloc (by omega) _).alloc (by simp; omega) _
    refine wpIn_rangeFunc_ownF hro (by omega) (gf := 27) (lb := #[.pointer (some ⟨w1.heap.size + 1, 0, none⟩)]) rfl trivial (enters_of Tryd.func27 (by kernel_rfl) rfl)
      (walk_stops Fence.wide _ trivial hro (by omega) (w1.heap.size + 1) s hs _ (by simp) hb.1) kpB_t (kpB_b (w := (w1.alloc (.cells #[.int .i64 (m : Int)] 3)).alloc (.cells #[.string s] 9))) (Below.refl _ _) (fun _ => rfl)
      (fun pre W => (pre.length ≤ m ∧ W.cell? ⟨w1.heap.size, 0, none⟩ = some (.int .i64 ((m : Int) - (pre.length : Int))) ∧ W.frozen? ⟨w1.heap.size, 0, none⟩ = false ∧ W.cell? ⟨w.heap.size, 0, none⟩ = some (.string s) ∧
        W.cell? ⟨w.heap.size + 1, 0, none⟩ = some (.string ⟨#[]⟩) ∧ W.frozen? ⟨w.heap.size + 1, 0, none⟩ = false) ∧ Below w.heap.size w W)
      (fun c pre W => (c = .ret ∧ (∃ pre' x, pre = pre' ++ [x] ∧ pre'.length = m ∧ W.cell? ⟨w.heap.size + 1, 0, none⟩ = some (.string (s.extract x.1.1 s.size)))) ∧ Below w.heap.size w W)
      (OwnFrom.and (Own.from (fun s A B row hs hg hr => ⟨hs.1, cell_kept hs.2.1 hg hr, (frozen_kept hs.2.1 hg hr).trans hs.2.2.1, cell_kept hs.2.2.2.1 hg hr, cell_kept hs.2.2.2.2.1 hg hr, (frozen_kept hs.2.2.2.2.1 hg hr).trans hs.2.2.2.2.2⟩) _) (ownFrom_below (Nat.le_refl _) (by simp; omega)))
      (fun c => OwnFrom.and (Own.from (fun s A B row hs hg hr => ⟨hs.1, by obtain ⟨p', x, h1, h2, h3⟩ := hs.2; exact ⟨p', x, h1, h2, cell_kept h3 hg hr⟩⟩) _) (ownFrom_below (Nat.le_refl _) (by simp; omega)))
      ⟨⟨Nat.zero_le _, (by rw [List.length_nil, Int.natCast_zero, Int.sub_zero]; exact cell_alloc_l _ hs1.1), frozen_alloc_l _ hs1.1 hs1.2, cell_alloc_l _ (cell_alloc_l _ hn1), cell_alloc_l _ (cell_alloc_l _ hr1), frozen_alloc_l _ (cell_alloc_l _ hr1) (frozen_alloc_l _ hr1 hf1)⟩, hB0⟩
      (fun x => { tmps := #[Value.string s, Value.int IntKind.i64 ↑q, Value.pointer (some { block := w.heap.size, off := 0 }), undef,
          Value.pointer (some { block := w.heap.size + 1, off := 0 }), Value.int IntKind.i64 ↑(labs s).length,
          Value.pointer (some { block := w1.heap.size, off := 0 }), .int .i64 x.1.1, Value.string s,
          Value.int IntKind.i64 ↑(labs s).length, Value.int IntKind.i64 ↑q, Value.bool (decide ((q : Int) < 0)),
          Value.bool (decide ((q : Int) < 0)), Value.int IntKind.i64 ↑q, Value.int IntKind.i64 ↑(labs s).length,
          Value.bool false, Value.bool (decide ((q : Int) < 0)), Value.int IntKind.i64 ↑(labs s).length,
          Value.int IntKind.i64 ↑q, Value.int IntKind.i64 (m : Int), Value.string s,
          Value.func (Fn.func 27) #[] #[Value.pointer (some { block := w1.heap.size + 1, off := 0 })], .int .i64 x.1.1, .string x.1.2,
          undef, undef, undef, undef, undef, undef, undef], defers := [] }) ?assign ?body ?done ?stop
    case assign =>
      intro l x W K hK
      dsimp only [encL]
      gi_wp2
      exact hK
    case body =>
      rintro l pre x W ⟨⟨hple, hc, hf, hcn, hcr, hfr⟩, hB⟩ _
      obtain ⟨⟨i, lab⟩, hx⟩ := x
      dsimp only at hx ⊢
      by_cases hz : pre.length = m
      · have hz0 : ((m : Int) - (pre.length : Int) == 0) = true := by rw [beq_iff_eq]; omega
        have hz0' : (m : Int) - (pre.length : Int) = 0 := by omega
        rw [hz0'] at hc
        clear hz0 hz0'
        have HZ : Hid (pre.length = m) := hz
        clear hz
        gi_wp2
        refine ⟨KeepsOthers.setCell _ _ _, ⟨rfl, pre, ⟨(i, lab), hx⟩, rfl, HZ.out, ?_⟩, hB.setCell (p := ⟨w.heap.size + 1, 0, none⟩) (by simp) _⟩
        exact World.cell?_setCell_same' _ _ _ (by rw [hcr]; rfl)
      · have hz0 : ((m : Int) - (pre.length : Int) == 0) = false := by rw [beq_eq_false_iff_ne]; omega
        gi_wp2
        refine ⟨KeepsOthers.setCell _ _ _, fun v e => ?_, ⟨by simp; omega, ?_, by rw [World.frozen?_setCell]; exact hf, ?_, ?_, by rw [World.frozen?_setCell]; exact hfr⟩, hB.setCell (p := ⟨w1.heap.size, 0, none⟩) (by simp; omega) _⟩
        · rw [cell_far _ _ _ _ (by simp)]; exact e
        · rw [World.cell?_setCell_same' _ _ _ (by rw [hc]; rfl)]; simp; omega
        · rw [cell_far _ _ _ _ (by simp; omega)]; exact hcn
        · rw [cell_far _ _ _ _ (by simp; omega)]; exact hcr
    case done =>
      rintro D ys W hD rfl ⟨⟨hple, _, _, _, hcr, hfr⟩, hB⟩ hK
      have HQ : Hid (tailB s q = ⟨#[0]⟩) := by
        have := HM.out
        have := labs_len s
        have hq : q = 0 := by omega
        unfold Hid tailB
        rw [if_pos ⟨hN, hk0, hkl⟩, hq, show ((0 : Nat) : Int).toNat = 0 from rfl, Nat.sub_zero, List.drop_of_length_le (Nat.le_refl _), labs_nil_putB]
      gi_wp2
      have hK' := (KeepsOthers.setCell W ⟨w.heap.size + 1, 0, none⟩ (.string ⟨#[0]⟩)).same D _ hK rfl
      refine ⟨by simp, .inl ⟨_, _, rfl, run_takeDeferred hK', ?_⟩⟩
      have hc5 := cell_kept (World.cell?_setCell_same' W ⟨w.heap.size + 1, 0, none⟩ (.string ⟨#[0]⟩) (by rw [hcr]; rfl)) (grownBy_putObj' _ D (.deferred none)) (fun r e => by cases e; exact ⟨_, hK', rfl⟩)
      refine ⟨.string ⟨#[0]⟩, ?_, by rw [HQ.out], (hB.setCell (p := ⟨w.heap.size + 1, 0, none⟩) (by simp) _).trans (belowK_b (w := w) (Nat.le_refl _) _ D _ _ (by simp at hD; omega) hK' rfl rfl)⟩
      simp [results, Tryd.f14, go_sem, hc5]
    case stop =>
      rintro D c pre W hD hpre ⟨⟨rfl, pre', x, rfl, hpl, hcr⟩, hB⟩ hK
      have HQ : Hid (tailB s q = s.extract x.1.1 s.size) := by
        have := HM.out
        unfold Hid tailB
        rw [if_pos ⟨hN, hk0, hkl⟩, tail_at hN hpre, hpl]
        congr 2; omega
      gi_wp2
      refine ⟨by simp, .inl ⟨_, _, rfl, run_takeDeferred hK, ?_⟩⟩
      have hc5 := cell_kept hcr (grownBy_putObj' _ D (.deferred none)) (fun r e => by cases e; exact ⟨_, hK, rfl⟩)
      refine ⟨.string (s.extract x.1.1 s.size), ?_, by rw [HQ.out], hB.trans (belowK_b (w := w) (Nat.le_refl _) W D _ _ (by simp at hD; omega) hK rfl rfl)⟩
      simp [results, Tryd.f14, go_sem, hc5]
  · have HT : Hid (tailB s k = ByteArray.empty) := by unfold Hid tailB; rw [if_neg hyes]
    obtain ⟨c, hc, hck⟩ : ∃ c, cntI s = c ∧ (k < 0 ∨ c < k) := ⟨_, rfl, by
      cases hN : isN s with
      | false => rw [cntI_no hN]; omega
      | true =>
        rw [cntI_yes hN]
        by_cases h : k < 0
        · exact .inl h
        · exact .inr (by apply Int.lt_of_not_ge; intro h2; exact hyes ⟨hN, by omega, h2⟩)⟩
    have HC : Hid (cntI s = c) := hc
    clear hc hyes
    rcases hck with hk | hk
    all_goals
      refine callsIn_of_wp_marks Tryd.func14 rfl trivial ?_ hro
      simp only [Tryd.ntmps14, List.size_toArray, List.length_cons, List.length_nil, Nat.reduceAdd, Nat.reduceSub, Array.replicate_succ, Array.replicate_zero, List.push_toArray, List.append_toArray, List.nil_append, List.cons_append]
      gi_wp2_with (refine ⟨trivial, ?_⟩; gi_at_call 10; refine (callsIn_wide.2 (count_any s _ hm)).mono ?_; rintro e w1 ⟨rfl, hB1⟩; rw [HC.out]; obtain ⟨hn1, hr1, hf1, hB1', hz1⟩ := tail_cells _ _ _ _ hB1)
    all_goals
      have hc5 := World.cell?_setCell_same' w1 ⟨w.heap.size + 1, 0, none⟩ (.string ⟨#[]⟩) (by rw [hr1]; rfl)
      refine ⟨.string ⟨#[]⟩, ?_, by rw [HT.out]; rfl, hB1'.setCell (p := ⟨w.heap.size + 1, 0, none⟩) (by simp) _⟩
      simp [results, Tryd.f14, go_sem, hc5]

theorem tail_any (s : ByteArray) (k : Int) (w : World) (hm : s.size ≤ maxLen) :
    Calls Tryd.prog 14 #[.string s, .int .i64 k] w fun e W' => e = .returned (.string (tailB s k)) ∧ Below w.heap.size w W' := callsIn_wide.1 (tail_in s k w hm)
end Go.Proofs.YtkamjcpcdkejmaaDoor
