import Derived.Test.YtfonnepnaeehhaaEql
import Derived.RangeFuncBox
namespace Go.Proofs.Ytfonnepnaeehhaa
set_option linter.unusedVariables false
open Go.RowKit Go.Shelf Nm
attribute [local go_sem] Oper.semAt_some

theorem appended2 {W w1 : World} {n₀ nb Bn B : Nat} {t e : TypeId} {size : Nat} {v v' : Value} {k m : Nat} {xs ys : List Value} {tmp : Obj}
    (hv : Boxed W B t v) (hte : t ≠ e) (hrow : W.ownsRow nb e size v k xs) (hnb : nb ≤ W.heap.size) (hn₀ : n₀ ≤ B) (hn₁ : n₀ ≤ nb) (hBn : Bn < nb) (hBB : Bn ≠ B)
    (hown' : w1.ownsRow nb e size v' m ys) (hgrow : (W.alloc tmp).grownBy w1 v.ownBlock) :
    Boxed w1 B t v ∧ Boxed (w1.setCell ⟨B, 0, none⟩ v') B t v' ∧ (w1.setCell ⟨B, 0, none⟩ v').ownsRow nb e size v' m ys ∧ KeepsOthers W (w1.setCell ⟨B, 0, none⟩ v') ∧ Below n₀ W (w1.setCell ⟨B, 0, none⟩ v') ∧ KpB Bn W (w1.setCell ⟨B, 0, none⟩ v') := by
  have hv1 : Boxed w1 B t v := (hv.alloc tmp).kept hgrow (hv.not_row hte hrow)
  refine ⟨hv1, hv1.set v', hown'.kept (grownBy_setCell' w1 B v') (.inr (hv1.not_row hte hown').symm), ?_, ?_, ?_⟩
  · refine ((KeepsOthers.alloc W tmp).trans (KeepsOthers.of_grownBy hgrow fun j o ej hj => ?_)).trans (KeepsOthers.setCell _ _ _)
    rcases (hrow.alloc tmp).2 with ⟨rfl, _⟩ | ⟨g, cap, cur, rfl, _, hgb, _⟩
    · simp [Value.ownBlock] at ej
    · obtain rfl : g = j := by simpa [Value.ownBlock] using ej
      rw [hgb] at hj; cases hj; rfl
  · refine (((Below.refl n₀ W).alloc (by omega) tmp).grown hgrow (by simp; omega) fun j ej => ?_).setCell (p := ⟨B, 0, none⟩) hn₀ v'
    have := ownBlock_le hrow ej
    omega
  · intro u hu
    rw [cell_far _ _ _ _ (fun e => hBB e.symm)]
    refine hgrow.cell (cell_alloc_l _ hu) ?_
    intro e
    have := ownBlock_le hrow e.symm
    simp at this; omega

def labsOr (s : ByteArray) : List ByteArray := if isN s = true then labs s else []
theorem labsOr_yes {s : ByteArray} (h : isN s = true) : labsOr s = labs s := by simp [labsOr, h]
theorem labsOr_no {s : ByteArray} (h : isN s = false) : labsOr s = [] := by simp [labsOr, h]

set_option maxRecDepth 100000 in
set_option maxHeartbeats 2000000 in
theorem labels_in (s : ByteArray) (w : World) (hm : s.size ≤ maxLen) :
    CallsIn Fence.wide 3 Try.prog 13 #[.string s] w fun e W' => ∃ v, e = .returned v ∧ W'.ownsRow w.heap.size 9 1 v (labsOr s).length ((labsOr s).map Value.string) ∧ Below w.heap.size w W' := by
  have hro : Fence.wide.round = none := rfl
  obtain ⟨i0, hi, hz0, hz1, hz2⟩ := info_parts Try.infoStr
  cases hN : isN s with
  | false =>
    have HC : Hid (labsOr s = []) := labsOr_no hN
    refine callsIn_of_wp_marks Try.func13 rfl trivial ?_ hro
    simp only [Try.ntmps13, List.size_toArray, List.length_cons, List.length_nil, Nat.reduceAdd, Nat.reduceSub, Array.replicate_succ, Array.replicate_zero, List.push_toArray, List.append_toArray, List.nil_append, List.cons_append]
    gi_wp2_with (refine ⟨trivial, ?_⟩; gi_at_call 12; refine (isName_in s _ _ hm).mono ?_; rintro e w' ⟨rfl, hB⟩)
    rw [HC.out]
    exact ⟨_, results_tmp rfl _ _ _, _, rfl, World.ownsRow_nil _ _ _ _, hB⟩
  | true =>
    have HC : Hid (labsOr s = labs s) := labsOr_yes hN
    have hs : s.size ≤ 255 := ((isN_iff s).1 hN).1
    refine callsIn_of_wp_marks Try.func13 rfl trivial ?_ hro
    simp only [Try.ntmps13, List.size_toArray, List.length_cons, List.length_nil, Nat.reduceAdd, Nat.reduceSub, Array.replicate_succ, Array.replicate_zero, List.push_toArray, List.append_toArray, List.nil_append, List.cons_append]
    gi_wp2_with (first
      | (refine ⟨trivial, ?_⟩; gi_at_call 12; refine (isName_in s _ _ hm).mono ?_; rintro e w1 ⟨rfl, hB1⟩)
      | (refine ⟨trivial, ?_⟩; gi_at_call 11; refine (walk_in Fence.wide _ trivial rfl _ _).mono ?_; rintro e w' ⟨rfl, rfl⟩))
    have bO := Boxed.new w1 23 (.slice none 0 0)
    have hb := cell_new_l (w1.alloc (.cells #[.slice none 0 0] 23)) (.string s) 9
    rw [World.size_alloc] at hb
    have hB0 : Below w1.heap.size w1 ((w1.alloc (.cells #[.slice none 0 0] 23)).alloc (.cells #[.string s] 9)) := ((Below.refl _ w1).alloc (Nat.le_refl _) _).alloc (by simp) _
    refine wpIn_rangeFunc_ownF hro (by omega) (gf := 20) (lb := #[.pointer (some ⟨w1.heap.size + 1, 0, none⟩)]) rfl trivial (enters_of Try.func20 (by kernel_rfl) rfl)
      (walk_stops Fence.wide _ trivial hro (by omega) (w1.heap.size + 1) s hs _ (by simp) hb.1) kpB_t (kpB_b (w := (w1.alloc (.cells #[.slice none 0 0] 23)).alloc (.cells #[.string s] 9))) (Below.refl _ _) (fun _ => rfl)
      (fun pre W => (∃ v, Boxed W w1.heap.size 23 v ∧ W.ownsRow (w1.heap.size + 2) 9 1 v pre.length (pre.map (fun x => Value.string x.1.2)) ∧ True) ∧ Below w1.heap.size w1 W ∧ w1.heap.size + 2 ≤ W.heap.size)
      (fun _ _ _ => False)
      (OwnFrom.and (Own.from (holdsRow_own (w1.heap.size + 2) w1.heap.size 23 9 1 (fun pre : List (Lab s) => pre.length) (fun pre => pre.map (fun x => Value.string x.1.2)) (fun _ _ => True)) _) (OwnFrom.and (ownFrom_below (Nat.le_refl _) (by simp; omega)) (fun s W W' row h hg _ => Nat.le_trans h hg.size)))
      (fun _ _ _ _ _ hs _ _ => hs)
      ⟨⟨_, bO.alloc _, World.ownsRow_nil _ _ _ _, trivial⟩, hB0, by simp⟩
      (fun x => { tmps := #[Value.string s, undef, Value.slice none 0 0, Value.pointer (some { block := w1.heap.size, off := 0 }), undef, .string x.1.2,
          Value.string s, Value.bool true, Value.bool false, Value.string s,
          Value.func (Fn.func 20) #[] #[Value.pointer (some { block := w1.heap.size + 1, off := 0 })], .int .i64 x.1.1, .string x.1.2,
          undef, undef, undef, undef, undef], defers := [] }) ?assign ?body ?done ?stop
    case assign =>
      intro l x W K hK
      dsimp only [encL]
      gi_wp2
      exact hK
    case body =>
      rintro l pre ⟨⟨i, lab⟩, hx⟩ W ⟨⟨v, hv, hrow, _⟩, hB, hsz⟩ hpl
      dsimp only at hx ⊢
      have hc := hv.cell
      gi_wp2_with (gi_at_builtin; refine wpListIn_append_own _ rfl _ _ 23 rfl (w1.heap.size + 2) 9 i0 (.string .empty) 1 16 Try.underlying23 hi hz0 hz1 hz2 rfl (by decide) _ _ _ rfl (hrow.alloc _) ⟨W.heap.size, 0, none⟩ 1 1 [.string lab] rfl rfl (cell_one_new _ _ _) (by simp [Value.oneCell']) (by unfold maxLen; omega) (by omega) (by simp; omega) ?_; intro v' w2 hown' hgrow _; obtain ⟨g', cap', rfl⟩ := ownsRow_succ hown'; obtain ⟨hv1, hv2, hr2, hk2, hb2, hkp⟩ := appended2 (n₀ := w1.heap.size) (Bn := w1.heap.size + 1) hv (by decide) hrow hsz (Nat.le_refl _) (by omega) (by omega) (by omega) hown' hgrow; have hc1 := hv1.cell; have hf1 := hv1.frozen)
      exact ⟨hk2, hkp, ⟨_, hv2, by simpa using hr2, trivial⟩, hB.trans hb2, Nat.le_trans hsz hb2.size⟩
    case done =>
      rintro D ys W hD rfl ⟨⟨v, hv, hrow, _⟩, hB, hsz⟩ hK
      have hc := hv.cell
      gi_wp2
      refine ⟨by simp, .inl ⟨_, _, rfl, run_takeDeferred hK, ?_⟩⟩
      refine ⟨_, results_tmp rfl _ _ _, v, rfl, ?_, (hB1.trans (hB.mono hB1.size)).trans (belowK_b (w := w) (Nat.le_refl _) W D _ _ (by have := hB1.size; simp at hD; omega) hK rfl rfl)⟩
      have hrow2 := ownsRow_putObj hrow (.deferred none) hK rfl
      rw [HC.out, labs_len]
      have e : (labs s).map Value.string = (rest s 0).map (fun x => Value.string x.1.2) := by simp [labs, labsFrom]
      rw [e]
      obtain ⟨h1, (⟨h2, h3⟩ | ⟨g, cap, cur, h2, hb2, h4⟩)⟩ := hrow2
      · exact ⟨h1, .inl ⟨h2, h3⟩⟩
      · exact ⟨h1, .inr ⟨g, cap, cur, h2, by have := hB1.size; omega, h4⟩⟩
    case stop =>
      rintro D c pre W _ _ h _
      exact h.elim

theorem labels_any (s : ByteArray) (w : World) (hm : s.size ≤ maxLen) :
    Calls Try.prog 13 #[.string s] w fun e W' => ∃ v, e = .returned v ∧ W'.ownsRow w.heap.size 9 1 v (labsOr s).length ((labsOr s).map Value.string) ∧ Below w.heap.size w W' := callsIn_wide.1 (labels_in s w hm)
theorem labels_yes (s : ByteArray) (w : World) (hm : s.size ≤ maxLen) (hN : isN s = true) :
    Calls Try.prog 13 #[.string s] w fun e W' => ∃ p cap, e = .returned (.slice p (labs s).length cap) ∧ (StrsAt W' p (labs s) ∧ (labs s).length ≤ cap ∧ cap ≤ 9223372036854775807) ∧ Below w.heap.size w W' := by
  refine (labels_any s w hm).mono ?_
  rintro e w' ⟨v, rfl, hv, hB⟩
  rw [labsOr_yes hN] at hv
  obtain ⟨p, cap, rfl, hc⟩ := Strs.of_owns hv
  obtain ⟨h1, h2, _⟩ := owns_cap hv
  exact ⟨p, cap, rfl, ⟨hc, h1, by unfold maxLen at h2; omega⟩, hB⟩
end Go.Proofs.Ytfonnepnaeehhaa
