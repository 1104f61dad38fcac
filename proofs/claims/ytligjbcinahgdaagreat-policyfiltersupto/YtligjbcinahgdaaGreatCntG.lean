import Derived.Test.YtligjbcinahgdaaGreatLowG
import Derived.Test.YtligjbcinahgdaaGreatMathG
import Derived.RangeFuncBox
import Derived.Laws.AppendOwnNone
namespace Go.Proofs.YtligjbcinahgdaaGreat
set_option linter.unusedVariables false
open Go.RowKit Go.Shelf Go.Proofs.YtligjbcinahgdaaGreat.Nm
attribute [local go_sem] Oper.semAt_some

theorem isName_in (s : ByteArray) (n : Nat) (w : World) (hm : s.size ≤ maxLen) :
    CallsIn Fence.wide n Tryz.prog 49 #[.string s] w fun e W' => e = .returned (.bool (isN s)) ∧ Below w.heap.size w W' := callsIn_wide.2 (isName_any s w hm)

set_option maxRecDepth 100000 in
set_option maxHeartbeats 2000000 in
theorem count_in (s : ByteArray) (w : World) (hm : s.size ≤ maxLen) :
    CallsIn Fence.wide 3 Tryz.prog 36 #[.string s] w fun e W' => e = .returned (.int .i64 (cntI s)) ∧ Below w.heap.size w W' := by
  have hro : Fence.wide.round = none := rfl
  cases hN : isN s with
  | false =>
    have HC : Hid (cntI s = -1) := cntI_no hN
    refine callsIn_of_wp_marks Tryz.func36 rfl trivial ?_ hro
    simp only [Tryz.ntmps36, List.size_toArray, List.length_cons, List.length_nil, Nat.reduceAdd, Nat.reduceSub, Array.replicate_succ, Array.replicate_zero, List.push_toArray, List.append_toArray, List.nil_append, List.cons_append]
    gi_wp2_with (refine ⟨trivial, ?_⟩; gi_at_call 49; refine (isName_in s _ _ hm).mono ?_; rintro e w' ⟨rfl, hB⟩)
    exact ⟨_, results_tmp rfl _ _ _, by rw [HC.out]; rfl, hB⟩
  | true =>
    have HC : Hid (cntI s = ((labs s).length : Nat)) := cntI_yes hN
    have hs : s.size ≤ 255 := ((isN_iff s).1 hN).1
    refine callsIn_of_wp_marks Tryz.func36 rfl trivial ?_ hro
    simp only [Tryz.ntmps36, List.size_toArray, List.length_cons, List.length_nil, Nat.reduceAdd, Nat.reduceSub, Array.replicate_succ, Array.replicate_zero, List.push_toArray, List.append_toArray, List.nil_append, List.cons_append]
    gi_wp2_with (first
      | (refine ⟨trivial, ?_⟩; gi_at_call 49; refine (isName_in s _ _ hm).mono ?_; rintro e w1 ⟨rfl, hB1⟩)
      | (refine ⟨trivial, ?_⟩; gi_at_call 52; refine (walk_in Fence.wide _ trivial rfl _ _).mono ?_; rintro e w' ⟨rfl, rfl⟩))
    have hs1 := cell_new_l w1 (.int .i64 0) 3
    have hb := cell_new_l (w1.alloc (.cells #[.int .i64 0] 3)) (.string s) 9
    rw [World.size_alloc] at hb
    have hB0 : Below w1.heap.size w1 ((w1.alloc (.cells #[.int .i64 0] 3)).alloc (.cells #[.string s] 9)) := ((Below.refl _ w1).alloc (Nat.le_refl _) _).alloc (by simp) _
    refine wpIn_rangeFunc_ownF hro (by omega) (gf := 60) (lb := #[.pointer (some ⟨w1.heap.size + 1, 0, none⟩)]) rfl trivial (enters_of Tryz.func60 (by kernel_rfl) rfl)
      (walk_stops Fence.wide _ trivial hro (by omega) (w1.heap.size + 1) s hs _ (by simp) hb.1) kpB_t (kpB_b (w := (w1.alloc (.cells #[.int .i64 0] 3)).alloc (.cells #[.string s] 9))) (Below.refl _ _) (fun _ => rfl)
      (fun pre W => (W.cell? ⟨w1.heap.size, 0, none⟩ = some (.int .i64 pre.length) ∧ W.frozen? ⟨w1.heap.size, 0, none⟩ = false) ∧ Below w1.heap.size w1 W)
      (fun _ _ _ => False)
      (OwnFrom.and (Own.from (fun s A B row hs hg hr => ⟨cell_kept hs.1 hg hr, (frozen_kept hs.1 hg hr).trans hs.2⟩) _) (ownFrom_below (Nat.le_refl _) (by simp; omega)))
      (fun _ _ _ _ _ hs _ _ => hs)
      ⟨⟨cell_alloc_l _ hs1.1, frozen_alloc_l _ hs1.1 hs1.2⟩, hB0⟩
      (fun x => { tmps := #[Value.string s, undef, Value.int IntKind.i64 0, Value.pointer (some { block := w1.heap.size, off := 0 }),
          Value.string s, Value.bool true, Value.bool false, Value.string s,
          Value.func (Fn.func 60) #[] #[Value.pointer (some { block := w1.heap.size + 1, off := 0 })], .int .i64 x.1.1, .string x.1.2,
          undef, undef, undef], defers := [] }) ?assign ?body ?done ?stop
    case assign =>
      intro l x W K hK
      dsimp only [encL]
      gi_wp2
      go_simp
      exact hK
    case body =>
      rintro l pre ⟨⟨i, lab⟩, hx⟩ W ⟨⟨hc, hf⟩, hB⟩ hpl
      dsimp only at hx ⊢
      gi_wp2
      refine ⟨KeepsOthers.setCell _ _ _, fun v e => ?_, ⟨?_, by rw [World.frozen?_setCell]; exact hf⟩, hB.setCell (p := ⟨w1.heap.size, 0, none⟩) (Nat.le_refl _) _⟩
      · rw [cell_far _ _ _ _ (by simp)]; exact e
      · rw [World.cell?_setCell_same' _ _ _ (by rw [hc]; rfl)]; simp
    case done =>
      rintro D ys W hD rfl ⟨⟨hc, _⟩, hB⟩ hK
      gi_wp2
      refine ⟨by simp, .inl ⟨_, _, rfl, run_takeDeferred hK, ?_⟩⟩
      refine ⟨_, results_tmp rfl _ _ _, ?_, ?_⟩
      · rw [HC.out, labs_len]; rfl
      · exact (hB1.trans (hB.mono hB1.size)).trans (belowK_b (w := w) (Nat.le_refl _) W D _ _ (by have := hB1.size; simp at hD; omega) hK rfl rfl)
    case stop =>
      rintro D c pre W _ _ h _
      exact h.elim

theorem count_any (s : ByteArray) (w : World) (hm : s.size ≤ maxLen) :
    Calls Tryz.prog 36 #[.string s] w fun e W' => e = .returned (.int .i64 (cntI s)) ∧ Below w.heap.size w W' := callsIn_wide.1 (count_in s w hm)

theorem tail_cells (s t : ByteArray) (w w1 : World) (hB : Below ((w.alloc (Obj.cells #[Value.string s] 9)).alloc (Obj.cells #[Value.string t] 9)).heap.size
    ((w.alloc (Obj.cells #[Value.string s] 9)).alloc (Obj.cells #[Value.string t] 9)) w1) :
    w1.cell? ⟨w.heap.size, 0, none⟩ = some (.string s) ∧ w1.cell? ⟨w.heap.size + 1, 0, none⟩ = some (.string t) ∧ w1.frozen? ⟨w.heap.size + 1, 0, none⟩ = false ∧ Below w.heap.size w w1 ∧ w.heap.size + 2 ≤ w1.heap.size := by
  have c0 := cell_new_l w (.string s) 9
  have c1 := cell_new_l (w.alloc (.cells #[.string s] 9)) (.string t) 9
  rw [World.size_alloc] at c1
  have hz := hB.size
  simp only [World.size_alloc] at hB hz
  refine ⟨(hB.cell (p := ⟨w.heap.size, 0, none⟩) (by simp; omega)).trans (cell_alloc_l _ c0.1), (hB.cell (p := ⟨w.heap.size + 1, 0, none⟩) (by simp)).trans c1.1, (hB.frozen (p := ⟨w.heap.size + 1, 0, none⟩) (by simp)).trans c1.2, ?_, by omega⟩
  exact (((Below.refl _ w).alloc (Nat.le_refl _) _).alloc (by simp) _).trans (hB.mono (by omega))

set_option maxRecDepth 100000 in
set_option maxHeartbeats 2000000 in
theorem tail_in (s : ByteArray) (k : Int) (w : World) (hm : s.size ≤ maxLen) :
    CallsIn Fence.wide 3 Tryz.prog 51 #[.string s, .int .i64 k] w fun e W' => e = .returned (.string (tailB s k)) ∧ Below w.heap.size w W' := by
  have hro : Fence.wide.round = none := rfl
  by_cases hyes : isN s = true ∧ 0 ≤ k ∧ k ≤ (labs s).length
  · obtain ⟨hN, hk0, hkl⟩ := hyes
    obtain ⟨q, rfl⟩ := Int.eq_ofNat_of_zero_le hk0
    have HC : Hid (cntI s = ((labs s).length : Nat)) := cntI_yes hN
    have hs : s.size ≤ 255 := ((isN_iff s).1 hN).1
    have hl254 := labs_len_le hN
    have hkl' : q ≤ (labs s).length := by omega
    refine callsIn_of_wp_marks Tryz.func51 rfl trivial ?_ hro
    simp only [Tryz.ntmps51, List.size_toArray, List.length_cons, List.length_nil, Nat.reduceAdd, Nat.reduceSub, Array.replicate_succ, Array.replicate_zero, List.push_toArray, List.append_toArray, List.nil_append, List.cons_append]
    gi_wp2_with (first
      | (refine ⟨trivial, ?_⟩; gi_at_call 36; refine (callsIn_wide.2 (count_any s _ hm)).mono ?_; rintro e w1 ⟨rfl, hB1⟩; rw [HC.out]; obtain ⟨hn1, hr1, hf1, hB1', hz1⟩ := tail_cells _ _ _ _ hB1; have hn2 := fun o => cell_alloc_l o hn1)
      | (refine ⟨trivial, ?_⟩; gi_at_call 52; refine (walk_in Fence.wide _ trivial rfl _ _).mono ?_; rintro e w' ⟨rfl, rfl⟩))
    obtain ⟨m, hm1, hm2⟩ : ∃ m : Nat, ((labs s).length : Int) - (q : Int) = (m : Int) ∧ m ≤ 254 ∧ Hid (m + q = (labs s).length) := ⟨(labs s).length - q, by omega, by omega, by unfold Hid; omega⟩
    obtain ⟨hm2, HM⟩ := hm2
    rw [hm1]
    clear hm1 hB1
    have hs1 := cell_new_l w1 (.int .i64 (m : Int)) 3
    have hb := cell_new_l (w1.alloc (.cells #[.int .i64 (m : Int)] 3)) (.string s) 9
    rw [World.size_alloc] at hb
    have hB0 : Below w.heap.size w ((w1.alloc (.cells #[.int .i64 (m : Int)] 3)).alloc (.cells #[.string s] 9)) := (hB1'.alloc (by omega) _).alloc (by simp; omega) _
    refine wpIn_rangeFunc_ownF hro (by omega) (gf := 60) (lb := #[.pointer (some ⟨w1.heap.size + 1, 0, none⟩)]) rfl trivial (enters_of Tryz.func60 (by kernel_rfl) rfl)
      (walk_stops Fence.wide _ trivial hro (by omega) (w1.heap.size + 1) s hs _ (by simp) hb.1) kpB_t (kpB_b (w := (w1.alloc (.cells #[.int .i64 (m : Int)] 3)).alloc (.cells #[.string s] 9))) (Below.refl _ _) (fun _ => rfl)
      (fun pre W => (pre.length ≤ m ∧ W.cell? ⟨w1.heap.size, 0, none⟩ = some (.int .i64 ((m : Int) - (pre.length : Int))) ∧ W.frozen? ⟨w1.heap.size, 0, none⟩ = false ∧ W.cell? ⟨w.heap.size, 0, none⟩ = some (.string s) ∧
        W.cell? ⟨w.heap.size + 1, 0, none⟩ = some (.string ⟨#[]⟩) ∧ W.frozen? ⟨w.heap.size + 1, 0, none⟩ = false) ∧ Below w.heap.size w W)
      (fun c pre W => (c = .ret ∧ (∃ pre' x, pre = pre' ++ [x] ∧ pre'.length = m ∧ W.cell? ⟨w.heap.size + 1, 0, none⟩ = some (.string (s.extract x.1.1 s.size)))) ∧ Below w.heap.size w W)
      (OwnFrom.and (Own.from (fun s A B row hs hg hr => ⟨hs.1, cell_kept hs.2.1 hg hr, (frozen_kept hs.2.1 hg hr).trans hs.2.2.1, cell_kept hs.2.2.2.1 hg hr, cell_kept hs.2.2.2.2.1 hg hr, (frozen_kept hs.2.2.2.2.1 hg hr).trans hs.2.2.2.2.2⟩) _) (ownFrom_below (Nat.le_refl _) (by simp; omega)))
      (fun c => OwnFrom.and (Own.from (fun s A B row hs hg hr => ⟨hs.1, by obtain ⟨p', x, h1, h2, h3⟩ := hs.2; exact ⟨p', x, h1, h2, cell_kept h3 hg hr⟩⟩) _) (ownFrom_below (Nat.le_refl _) (by simp; omega)))
      ⟨⟨Nat.zero_le _, (by rw [List.length_nil, Int.natCast_zero, Int.sub_zero]; exact cell_alloc_l _ hs1.1), frozen_alloc_l _ hs1.1 hs1.2, cell_alloc_l _ (cell_alloc_l _ hn1), cell_alloc_l _ (cell_alloc_l _ hr1), frozen_alloc_l _ (cell_alloc_l _ hr1) (frozen_alloc_l _ hr1 hf1)⟩, hB0⟩
      (fun x => { tmps := #[Value.string s, Value.int IntKind.i64 ↑q, Value.pointer (some { block := w.heap.size, off := 0 }), undef,
          Value.pointer (some { block := w.heap.size + 1, off := 0 }), Value.int IntKind.i64 ↑(labs s).length,
          Value.pointer (some { block := w1.heap.size, off := 0 }), .int .i64 x.1.1, Value.string s,
          Value.int IntKind.i64 ↑(labs s).length, Value.int IntKind.i64 ↑q, Value.bool (decide ((q : Int) < 0)),
          Value.bool (decide ((q : Int) < 0)), Value.int IntKind.i64 ↑q, Value.int IntKind.i64 ↑(labs s).length,
          Value.bool false, Value.bool (decide ((q : Int) < 0)), Value.int IntKind.i64 ↑(labs s).length,
          Value.int IntKind.i64 ↑q, Value.int IntKind.i64 (m : Int), Value.string s,
          Value.func (Fn.func 60) #[] #[Value.pointer (some { block := w1.heap.size + 1, off := 0 })], .int .i64 x.1.1, .string x.1.2,
          undef, undef, undef, undef, undef, undef, undef], defers := [] }) ?assign ?body ?done ?stop
    case assign =>
      intro l x W K hK
      dsimp only [encL]
      gi_wp2
      exact hK
    case body =>
      rintro l pre x W ⟨⟨hple, hc, hf, hcn, hcr, hfr⟩, hB⟩ _
      obtain ⟨⟨i, lab⟩, hx⟩ := x
      dsimp only at hx ⊢
      by_cases hz : pre.length = m
      · have hz0 : ((m : Int) - (pre.length : Int) == 0) = true := by rw [beq_iff_eq]; omega
        have hz0' : (m : Int) - (pre.length : Int) = 0 := by omega
        rw [hz0'] at hc
        clear hz0 hz0'
        have HZ : Hid (pre.length = m) := hz
        clear hz
        gi_wp2
        refine ⟨KeepsOthers.setCell _ _ _, ⟨rfl, pre, ⟨(i, lab), hx⟩, rfl, HZ.out, ?_⟩, hB.setCell (p := ⟨w.heap.size + 1, 0, none⟩) (by simp) _⟩
        exact World.cell?_setCell_same' _ _ _ (by rw [hcr]; rfl)
      · have hz0 : ((m : Int) - (pre.length : Int) == 0) = false := by rw [beq_eq_false_iff_ne]; omega
        gi_wp2
        refine ⟨KeepsOthers.setCell _ _ _, fun v e => ?_, ⟨by simp; omega, ?_, by rw [World.frozen?_setCell]; exact hf, ?_, ?_, by rw [World.frozen?_setCell]; exact hfr⟩, hB.setCell (p := ⟨w1.heap.size, 0, none⟩) (by simp; omega) _⟩
        · rw [cell_far _ _ _ _ (by simp)]; exact e
        · rw [World.cell?_setCell_same' _ _ _ (by rw [hc]; rfl)]; simp; omega
        · rw [cell_far _ _ _ _ (by simp; omega)]; exact hcn
        · rw [cell_far _ _ _ _ (by simp; omega)]; exact hcr
    case done =>
      rintro D ys W hD rfl ⟨⟨hple, _, _, _, hcr, hfr⟩, hB⟩ hK
      have HQ : Hid (tailB s q = ⟨#[0]⟩) := by
        have := HM.out
        have := labs_len s
        have hq : q = 0 := by omega
        unfold Hid tailB
        rw [if_pos ⟨hN, hk0, hkl⟩, hq, show ((0 : Nat) : Int).toNat = 0 from rfl, Nat.sub_zero, List.drop_of_length_le (Nat.le_refl _), labs_nil_putB]
      gi_wp2
      have hK' := (KeepsOthers.setCell W ⟨w.heap.size + 1, 0, none⟩ (.string ⟨#[0]⟩)).same D _ hK rfl
      refine ⟨by simp, .inl ⟨_, _, rfl, run_takeDeferred hK', ?_⟩⟩
      have hc5 := cell_kept (World.cell?_setCell_same' W ⟨w.heap.size + 1, 0, none⟩ (.string ⟨#[0]⟩) (by rw [hcr]; rfl)) (grownBy_putObj' _ D (.deferred none)) (fun r e => by cases e; exact ⟨_, hK', rfl⟩)
      refine ⟨.string ⟨#[0]⟩, ?_, by rw [HQ.out], (hB.setCell (p := ⟨w.heap.size + 1, 0, none⟩) (by simp) _).trans (belowK_b (w := w) (Nat.le_refl _) _ D _ _ (by simp at hD; omega) hK' rfl rfl)⟩
      simp [results, Tryz.f51, go_sem, hc5]
    case stop =>
      rintro D c pre W hD hpre ⟨⟨rfl, pre', x, rfl, hpl, hcr⟩, hB⟩ hK
      have HQ : Hid (tailB s q = s.extract x.1.1 s.size) := by
        have := HM.out
        unfold Hid tailB
        rw [if_pos ⟨hN, hk0, hkl⟩, tail_at hN hpre, hpl]
        congr 2; omega
      gi_wp2
      refine ⟨by simp, .inl ⟨_, _, rfl, run_takeDeferred hK, ?_⟩⟩
      have hc5 := cell_kept hcr (grownBy_putObj' _ D (.deferred none)) (fun r e => by cases e; exact ⟨_, hK, rfl⟩)
      refine ⟨.string (s.extract x.1.1 s.size), ?_, by rw [HQ.out], hB.trans (belowK_b (w := w) (Nat.le_refl _) W D _ _ (by simp at hD; omega) hK rfl rfl)⟩
      simp [results, Tryz.f51, go_sem, hc5]
  · have HT : Hid (tailB s k = ByteArray.empty) := by unfold Hid tailB; rw [if_neg hyes]
    obtain ⟨c, hc, hck⟩ : ∃ c, cntI s = c ∧ (k < 0 ∨ c < k) := ⟨_, rfl, by
      cases hN : isN s with
      | false => rw [cntI_no hN]; omega
      | true =>
        rw [cntI_yes hN]
        by_cases h : k < 0
        · exact .inl h
        · exact .inr (by apply Int.lt_of_not_ge; intro h2; exact hyes ⟨hN, by omega, h2⟩)⟩
    have HC : Hid (cntI s = c) := hc
    clear hc hyes
    rcases hck with hk | hk
    all_goals
      refine callsIn_of_wp_marks Tryz.func51 rfl trivial ?_ hro
      simp only [Tryz.ntmps51, List.size_toArray, List.length_cons, List.length_nil, Nat.reduceAdd, Nat.reduceSub, Array.replicate_succ, Array.replicate_zero, List.push_toArray, List.append_toArray, List.nil_append, List.cons_append]
      gi_wp2_with (refine ⟨trivial, ?_⟩; gi_at_call 36; refine (callsIn_wide.2 (count_any s _ hm)).mono ?_; rintro e w1 ⟨rfl, hB1⟩; rw [HC.out]; obtain ⟨hn1, hr1, hf1, hB1', hz1⟩ := tail_cells _ _ _ _ hB1)
    all_goals
      have hc5 := World.cell?_setCell_same' w1 ⟨w.heap.size + 1, 0, none⟩ (.string ⟨#[]⟩) (by rw [hr1]; rfl)
      refine ⟨.string ⟨#[]⟩, ?_, by rw [HT.out]; rfl, hB1'.setCell (p := ⟨w.heap.size + 1, 0, none⟩) (by simp) _⟩
      simp [results, Tryz.f51, go_sem, hc5]

theorem tail_any (s : ByteArray) (k : Int) (w : World) (hm : s.size ≤ maxLen) :
    Calls Tryz.prog 51 #[.string s, .int .i64 k] w fun e W' => e = .returned (.string (tailB s k)) ∧ Below w.heap.size w W' := callsIn_wide.1 (tail_in s k w hm)
end Go.Proofs.YtligjbcinahgdaaGreat

namespace Go.Proofs.YtligjbcinahgdaaGreat
set_option linter.unusedVariables false
open Go.RowKit Go.Shelf Go.Proofs.YtligjbcinahgdaaGreat.Nm

theorem ext_t {a b c : World} (h : Below a.heap.size a b) (k : Below b.heap.size b c) : Below a.heap.size a c := h.trans (k.mono h.size)
theorem small_max {n : Nat} (h : n ≤ 1048576) : n ≤ maxLen := by unfold maxLen; omega
theorem tail_max (s : ByteArray) (k : Int) : (tailB s k).size ≤ maxLen := small_max (by have := tailB_size s k; omega)
theorem tail_small (s : ByteArray) (k : Int) : (tailB s k).size ≤ 1048576 := by have := tailB_size s k; omega

theorem addr_add (g off d : Nat) : Addr.add ⟨g, off, none⟩ d = ⟨g, off + d, none⟩ := by unfold Addr.add; split <;> simp_all
theorem strs_drop1 {w : World} {p : Option Addr} {l : List ByteArray} (h : StrsAt w p l) (d cap : Nat) : Strs w (.slice (Option.map (fun x => x.add d) p) (l.length - d) cap) (l.drop d) := by
  refine ⟨_, cap, by rw [List.length_drop], fun j hj => ?_⟩
  rw [List.length_drop] at hj
  obtain ⟨g, off, rfl, hg, hc⟩ := h (d + j) (by omega)
  refine ⟨g, off + d, by simp [addr_add], hg, ?_⟩
  rw [List.getElem_drop, Nat.add_assoc]; exact hc
theorem strs_drop0 {w : World} {p : Option Addr} {l : List ByteArray} {d : Nat} (h : l.length ≤ d) (cap : Nat) : Strs w (.slice p (l.length - d) cap) (l.drop d) :=
  ⟨p, cap, by rw [List.length_drop], fun j hj => by rw [List.length_drop] at hj; omega⟩

/-- name.Equal -/
theorem equal_any (a b : ByteArray) (w : World) (ha : a.size ≤ maxLen) (hb : b.size ≤ maxLen) :
    Calls Tryz.prog 34 #[.string a, .string b] w fun e w' => e = .returned (.bool (eqB a b)) ∧ Below w.heap.size w w' := by
  cases hN : isN a with
  | false =>
    have HE : Hid (eqB a b = false) := by unfold Hid eqB; rw [hN]; rfl
    go_enter Tryz.func34, Tryz.ntmps34
    go_wp2_with (go_at_call 49; refine (isName_any _ _ ha).mono ?_; rintro e w1 ⟨rfl, hB1⟩)
    go_ret
    exact ⟨by rw [HE.out]; rfl, hB1⟩
  | true =>
    have HE : Hid (eqB a b = ((foldB a).toList == (foldB b).toList)) := by unfold Hid eqB; rw [hN]; rfl
    go_enter Tryz.func34, Tryz.ntmps34
    go_wp2_with (first
      | (go_at_call 49; refine (isName_any _ _ ha).mono ?_; rintro e w1 ⟨rfl, hB1⟩)
      | (go_at_call 50; refine (fold_any _ _ (by assumption)).mono ?_; rintro e w2 ⟨rfl, hB2⟩; have hB1 := ext_t hB1 hB2; clear hB2))
    go_ret
    refine ⟨by rw [HE.out]; rfl, ?_⟩
    assumption

/-- gazetteerref1.EqualName -/
theorem equalName_any (a b : ByteArray) (w : World) (ha : a.size ≤ 1048576) (hb : b.size ≤ 1048576) :
    Calls Tryz.prog 19 #[.string a, .string b] w fun e w' => e = .returned (.bool (eqB a b)) ∧ Below w.heap.size w w' := by
  have HE : Hid ((isN a && isN b && ((foldB a).toList == (foldB b).toList)) = eqB a b) := eqB_ref a b
  have hB0 := Below.refl w.heap.size w
  cases hN : isN a with
  | false =>
    rw [hN] at HE
    go_enter Tryz.func19, Tryz.ntmps19
    go_wp2_with (go_at_call 39; refine (refIsName_any _ _ (by assumption)).mono ?_; rintro e w1 ⟨rfl, hB1⟩; have hB0 := ext_t hB0 hB1; clear hB1)
    go_ret
    refine ⟨by rw [← HE.out]; rfl, ?_⟩
    assumption
  | true =>
    cases hM : isN b with
    | false =>
      rw [hN, hM] at HE
      go_enter Tryz.func19, Tryz.ntmps19
      go_wp2_with (go_at_call 39; refine (refIsName_any _ _ (by assumption)).mono ?_; rintro e w1 ⟨rfl, hB1⟩; have hB0 := ext_t hB0 hB1; clear hB1)
      go_ret
      refine ⟨by rw [← HE.out]; rfl, ?_⟩
      assumption
    | true =>
      rw [hN, hM] at HE
      go_enter Tryz.func19, Tryz.ntmps19
      go_wp2_with (first
        | (go_at_call 39; refine (refIsName_any _ _ (by assumption)).mono ?_; rintro e w1 ⟨rfl, hB1⟩; have hB0 := ext_t hB0 hB1; clear hB1)
        | (go_at_call 41; refine (foldName_any _ _ (by assumption)).mono ?_; rintro e w1 ⟨rfl, hB1⟩; have hB0 := ext_t hB0 hB1; clear hB1))
      go_ret
      refine ⟨by rw [← HE.out]; rfl, ?_⟩
      assumption

/-- name.Within -/
theorem within_any (n z : ByteArray) (w : World) (hn : n.size ≤ maxLen) (hz : z.size ≤ maxLen) :
    Calls Tryz.prog 35 #[.string n, .string z] w fun e w' => e = .returned (.bool (withinB n z)) ∧ Below w.heap.size w w' := by
  have hB0 := Below.refl w.heap.size w
  go_enter Tryz.func35, Tryz.ntmps35
  go_wp2_with (first
    | (go_at_call 36; refine (count_any _ _ hz).mono ?_; rintro e w1 ⟨rfl, hB1⟩; have hB0 := ext_t hB0 hB1; clear hB1)
    | (go_at_call 51; refine (tail_any _ _ _ hn).mono ?_; rintro e w1 ⟨rfl, hB1⟩; have hB0 := ext_t hB0 hB1; clear hB1)
    | (go_at_call 34; refine (equal_any _ _ _ (tail_max _ _) hz).mono ?_; rintro e w1 ⟨rfl, hB1⟩; have hB0 := ext_t hB0 hB1; clear hB1))
  go_ret
  refine ⟨rfl, ?_⟩
  assumption

/-- gazetteerref1.Count -/
theorem refCount_any (s : ByteArray) (w : World) (hs : s.size ≤ 1048576) :
    Calls Tryz.prog 21 #[.string s] w fun e w' => e = .returned (.int .i64 (cntI s)) ∧ Below w.heap.size w w' := by
  cases hN : isN s with
  | false =>
    have HC : Hid (cntI s = -1) := cntI_no hN
    go_enter Tryz.func21, Tryz.ntmps21
    go_wp2_with (go_at_call 43; refine (split_no s _ hs hN).mono ?_; rintro e w1 ⟨v, rfl, hB1⟩)
    go_ret
    exact ⟨by rw [HC.out]; rfl, hB1⟩
  | true =>
    have HC : Hid (cntI s = ((labs s).length : Nat)) := cntI_yes hN
    go_enter Tryz.func21, Tryz.ntmps21
    go_wp2_with (go_at_call 43; refine (split_yes s _ hs hN).mono ?_; rintro e w1 ⟨p, cap, rfl, ⟨hc, hcap, hcap2, _⟩, hB1⟩)
    go_ret
    exact ⟨by rw [HC.out]; rfl, hB1⟩

set_option maxRecDepth 100000 in
set_option maxHeartbeats 1000000 in
/-- gazetteerref1.Tail -/
theorem refTail_any (s : ByteArray) (k : Int) (w : World) (hs : s.size ≤ 1048576) :
    Calls Tryz.prog 42 #[.string s, .int .i64 k] w fun e w' => e = .returned (.string (tailB s k)) ∧ Below w.heap.size w w' := by
  cases hN : isN s with
  | false =>
    have HT : Hid (tailB s k = ByteArray.empty) := tailB_no (fun h => by rw [hN] at h; cases h.1)
    go_enter Tryz.func42, Tryz.ntmps42
    go_wp2_with (go_at_call 43; refine (split_no s _ hs hN).mono ?_; rintro e w1 ⟨v, rfl, hB1⟩)
    go_ret
    exact ⟨by rw [HT.out]; rfl, hB1⟩
  | true =>
    by_cases hk0 : k < 0
    · have HT : Hid (tailB s k = ByteArray.empty) := tailB_no (fun h => by omega)
      go_enter Tryz.func42, Tryz.ntmps42
      go_wp2_with (go_at_call 43; refine (split_yes s _ hs hN).mono ?_; rintro e w1 ⟨p, cap, rfl, ⟨hc, hcap, hcap2, _⟩, hB1⟩)
      go_ret
      exact ⟨by rw [HT.out]; rfl, hB1⟩
    · by_cases hkl : ((labs s).length : Int) < k
      · have HT : Hid (tailB s k = ByteArray.empty) := tailB_no (fun h => by omega)
        have hk0' : 0 ≤ k := by omega
        go_enter Tryz.func42, Tryz.ntmps42
        go_wp2_with (go_at_call 43; refine (split_yes s _ hs hN).mono ?_; rintro e w1 ⟨p, cap, rfl, ⟨hc, hcap, hcap2, _⟩, hB1⟩)
        go_ret
        exact ⟨by rw [HT.out]; rfl, hB1⟩
      · obtain ⟨q, rfl⟩ := Int.eq_ofNat_of_zero_le (show 0 ≤ k by omega)
        have hq : q ≤ (labs s).length := by omega
        have hl := labs_len_le hN
        obtain ⟨t1, t2, t3⟩ := tailB_yes hN hq
        have HT : Hid (tailB s q = putB ((labs s).drop ((labs s).length - q))) := t3
        have HZ : Hid ((putB ((labs s).drop ((labs s).length - q))).size ≤ 4294967296) := by
          unfold Hid; rw [← t3]; have := tailB_size s q; omega
        have HO : Hid (∀ x ∈ (labs s).drop ((labs s).length - q), x.size ≤ 255) := fun x hx => by have := (okL_labs s).drop _ x hx; omega
        clear t1 t2 t3 hk0 hkl
        obtain ⟨d, hd, HD, hd2⟩ : ∃ d : Nat, ((labs s).length : Int) - (q : Int) = (d : Int) ∧ Hid ((labs s).length - q = d) ∧ d ≤ (labs s).length := ⟨(labs s).length - q, by omega, rfl, by omega⟩
        go_enter Tryz.func42, Tryz.ntmps42
        rw [HD.out] at HZ HO HT
        go_wp2_with (first
          | (go_at_call 43; refine (split_yes s _ hs hN).mono ?_; rintro e w1 ⟨p, cap, rfl, ⟨hc, hcap, hcap2, _⟩, hB1⟩)
          | (go_at_call 57; refine (put_any _ ((labs s).drop d) _ (by first | exact strs_drop1 hc d _ | exact strs_drop0 (by omega) _) HO.out HZ.out).mono ?_; rintro e w2 ⟨rfl, hB2⟩))
        all_goals
          go_ret
          exact ⟨by rw [HT.out]; rfl, ext_t hB1 hB2⟩
end Go.Proofs.YtligjbcinahgdaaGreat

namespace Go.Proofs.YtligjbcinahgdaaGreat
set_option linter.unusedVariables false
open Go.RowKit Go.Shelf Go.Proofs.YtligjbcinahgdaaGreat.Nm
end Go.Proofs.YtligjbcinahgdaaGreat

namespace Go.Proofs.YtligjbcinahgdaaGreat
set_option linter.unusedVariables false
open Go.RowKit Go.Shelf Go.Proofs.YtligjbcinahgdaaGreat.Nm

set_option maxRecDepth 100000 in
set_option maxHeartbeats 1000000 in
/-- gazetteerref1.Within -/
theorem refWithin_any (n z : ByteArray) (w : World) (hn : n.size ≤ 1048576) (hz : z.size ≤ 1048576) :
    Calls Tryz.prog 20 #[.string n, .string z] w fun e w' => e = .returned (.bool (withinB n z)) ∧ Below w.heap.size w w' := by
  obtain ⟨c, hc, hcN⟩ : ∃ c : Int, cntI n = c ∧ (isN n = true → c = ((labs n).length : Nat)) ∧ (isN n = false → c = -1) := ⟨_, rfl, cntI_yes, cntI_no⟩
  have HC : Hid (cntI n = c) := hc
  have HCN : Hid ((isN n = true → c = ((labs n).length : Nat)) ∧ (isN n = false → c = -1)) := hcN
  have hc1 : -1 ≤ c ∧ c ≤ 254 := by
    cases hN : isN n with
    | false => have := HCN.out.2 hN; omega
    | true => have := HCN.out.1 hN; have := labs_len_le hN; omega
  obtain ⟨hc1, hc2⟩ := hc1
  clear hc hcN
  go_enter Tryz.func20, Tryz.ntmps20
  go_wp2
  go_loopw [5] (fun i wr => ∃ k : Nat, i = .int .i64 k ∧ (k : Int) ≤ c + 1 ∧ Hid (∀ j : Nat, j < k → eqB (tailB n j) z = false) ∧ Below w.heap.size w wr)
    (fun i _ => (c + 1 - intOf i).toNat)
  case atStart => exact ⟨0, rfl, by omega, fun j hj => absurd hj (Nat.not_lt_zero _), Below.refl _ _⟩
  case round =>
    obtain ⟨k, rfl, hk, HA, hB⟩ := hrel
    by_cases hlt : (k : Int) ≤ c
    · cases hE : eqB (tailB n k) z with
      | true =>
        have HW : Hid (withinB n z = true) := within_some hE
        go_wp2_with (first
          | (go_at_call 21; refine (refCount_any _ _ hn).mono ?_; rintro e w1 ⟨rfl, hB1⟩; rw [HC.out]; have hB := ext_t hB hB1; clear hB1)
          | (go_at_call 42; refine (refTail_any _ _ _ hn).mono ?_; rintro e w1 ⟨rfl, hB1⟩; have hB := ext_t hB hB1; clear hB1)
          | (go_at_call 19; refine (equalName_any _ _ _ (tail_small _ _) hz).mono ?_; rintro e w1 ⟨rfl, hB1⟩; have hB := ext_t hB hB1; clear hB1))
        go_ret
        refine ⟨by rw [HW.out]; rfl, ?_⟩
        assumption
      | false =>
        have HA2 : Hid (∀ j : Nat, j < k + 1 → eqB (tailB n j) z = false) := by
          intro j hj
          by_cases e : j = k
          · subst e; exact hE
          · exact HA.out j (by omega)
        go_wp2_with (first
          | (go_at_call 21; refine (refCount_any _ _ hn).mono ?_; rintro e w1 ⟨rfl, hB1⟩; rw [HC.out]; have hB := ext_t hB hB1; clear hB1)
          | (go_at_call 42; refine (refTail_any _ _ _ hn).mono ?_; rintro e w1 ⟨rfl, hB1⟩; have hB := ext_t hB hB1; clear hB1)
          | (go_at_call 19; refine (equalName_any _ _ _ (tail_small _ _) hz).mono ?_; rintro e w1 ⟨rfl, hB1⟩; have hB := ext_t hB hB1; clear hB1))
        go_roundw
        case rel => exact ⟨k + 1, by go_num, by omega, HA2, by assumption⟩
        case measure => simp [intOf]; omega
    · have HW : Hid (withinB n z = false) := by
        cases hN : isN n with
        | false => exact within_noName hN
        | true =>
          have := HCN.out.1 hN
          exact within_none (fun j hj => HA.out j (by omega))
      go_wp2_with (go_at_call 21; refine (refCount_any _ _ hn).mono ?_; rintro e w1 ⟨rfl, hB1⟩; rw [HC.out]; have hB := ext_t hB hB1; clear hB1)
      go_ret
      refine ⟨by rw [HW.out]; rfl, ?_⟩
      assumption

theorem StrsAt.take {w : World} {p : Option Addr} {l : List ByteArray} (h : StrsAt w p l) (d : Nat) : StrsAt w p (l.take d) := by
  intro j hj
  rw [List.length_take] at hj
  obtain ⟨g, off, hp, hg, hc⟩ := h j (by omega)
  exact ⟨g, off, hp, hg, by rw [List.getElem_take]; exact hc⟩

end Go.Proofs.YtligjbcinahgdaaGreat
