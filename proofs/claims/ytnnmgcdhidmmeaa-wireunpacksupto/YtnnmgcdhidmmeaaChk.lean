import Derived.Test.YtnnmgcdhidmmeaaWk
namespace Go.Proofs.Ytnnmgcdhidmmeaa
set_option linter.unusedVariables false
open Go.RowKit Go.Shelf Nm
attribute [local go_sem] Oper.semAt_some

theorem walk_in (F : Fence) (n : Nat) (hf : F.fn 76) (hro : F.round = none) (s : ByteArray) (w : World) :
    CallsIn F n Try.prog 76 #[.string s] w fun e w' => e = .returned (.func (.func 77) #[] #[.pointer (some ⟨w.heap.size, 0, none⟩)]) ∧ w' = w.alloc (.cells #[.string s] 9) := by
  refine callsIn_of_wp Try.func76 rfl hf ?_ hro
  simp only [Try.ntmps76, List.size_toArray, List.length_cons, List.length_nil, Nat.reduceAdd, Nat.reduceSub, Array.replicate_succ, Array.replicate_zero, List.push_toArray, List.append_toArray, List.nil_append, List.cons_append]
  gi_wp2
  go_ret
  exact ⟨rfl, rfl⟩

theorem walk_stops (F : Fence) (n : Nat) (hf : F.fn 77) (hro : F.round = none) (hn : 1 ≤ n) (Bn : Nat) (s : ByteArray) (hs : s.size ≤ 255) (w : World) (hBn : Bn < w.heap.size)
    (hc : w.cell? ⟨Bn, 0, none⟩ = some (.string s)) :
    SeqStopsK F n Try.prog 77 #[.pointer (some ⟨Bn, 0, none⟩)] (encL s) (KpB Bn) (fun ys => ys = rest s 0) (fun pre => pre <+: rest s 0) (s.size + 1) w := fun l J Jx W hW _ _ hY h0 =>
  walk1_in F n hf hro hn l Bn s hs J Jx hY W ((hW.cell (p := ⟨Bn, 0, none⟩) hBn).trans hc) h0

theorem cell_of_box_l {W : World} {B : Nat} {v : Value} {t : TypeId} (h : W.heap[B]? = some (.cells #[v] t (0, 0))) : W.cell? ⟨B, 0, none⟩ = some v ∧ W.frozen? ⟨B, 0, none⟩ = false := by
  constructor <;> simp [World.cell?, World.frozen?, h]
theorem cell_new_l (W : World) (v : Value) (t : TypeId) : (W.alloc (.cells #[v] t)).cell? ⟨W.heap.size, 0, none⟩ = some v ∧ (W.alloc (.cells #[v] t)).frozen? ⟨W.heap.size, 0, none⟩ = false :=
  cell_of_box_l (World.alloc_heap_new W _)

theorem cell_alloc_l {W : World} {a : Addr} {v : Value} (o : Obj) (h : W.cell? a = some v) : (W.alloc o).cell? a = some v := cell_kept h (World.grownBy_alloc W o none) (fun r e => by cases e)
theorem frozen_alloc_l {W : World} {a : Addr} {v : Value} (o : Obj) (h : W.cell? a = some v) (hf : W.frozen? a = false) : (W.alloc o).frozen? a = false := (frozen_kept h (World.grownBy_alloc W o none) (fun r e => by cases e)).trans hf
theorem cell_far (w : World) (p a : Addr) (v : Value) (h : p.block ≠ a.block) : (w.setCell p v).cell? a = w.cell? a := World.cell?_setCell_other w p a v (fun e => h (by rw [e]))

def chk (s : ByteArray) : Int := if isN s = true then 0 else 1

set_option maxRecDepth 100000 in
set_option maxHeartbeats 2000000 in
theorem check_in (s : ByteArray) (w : World) (hs : s.size ≤ 255) :
    CallsIn Fence.wide 3 Try.prog 75 #[.string s] w fun e W' => e = .returned (.int .i64 (chk s)) ∧ Below w.heap.size w W' := by
  have hro : Fence.wide.round = none := rfl
  refine callsIn_of_wp_marks Try.func75 rfl trivial ?_ hro
  simp only [Try.ntmps75, List.size_toArray, List.length_cons, List.length_nil, Nat.reduceAdd, Nat.reduceSub, Array.replicate_succ, Array.replicate_zero, List.push_toArray, List.append_toArray, List.nil_append, List.cons_append]
  gi_wp2_with (refine ⟨trivial, ?_⟩; gi_at_call 76; refine (walk_in Fence.wide _ trivial rfl _ _).mono ?_; rintro e w' ⟨rfl, rfl⟩)
  have hs1 := cell_new_l w (.int .i64 0) 3
  have hb := cell_new_l (w.alloc (.cells #[.int .i64 0] 3)) (.string s) 9
  rw [World.size_alloc] at hb
  have hB0 : Below w.heap.size w ((w.alloc (.cells #[.int .i64 0] 3)).alloc (.cells #[.string s] 9)) := ((Below.refl _ w).alloc (Nat.le_refl _) _).alloc (by simp) _
  refine wpIn_rangeFunc_ownF hro (by omega) (gf := 77) (lb := #[.pointer (some ⟨w.heap.size + 1, 0, none⟩)]) rfl trivial (enters_of Try.func77 (by kernel_rfl) rfl)
    (walk_stops Fence.wide _ trivial hro (by omega) (w.heap.size + 1) s hs _ (by simp) hb.1) kpB_t (kpB_b (w := (w.alloc (.cells #[.int .i64 0] 3)).alloc (.cells #[.string s] 9))) (Below.refl _ _) (fun _ => rfl)
    (fun pre W => (W.cell? ⟨w.heap.size, 0, none⟩ = some (.int .i64 (lastEnd pre 0)) ∧ W.frozen? ⟨w.heap.size, 0, none⟩ = false) ∧ Below w.heap.size w W)
    (fun _ _ _ => False)
    (OwnFrom.and (Own.from (fun s A B row hs hg hr => ⟨cell_kept hs.1 hg hr, (frozen_kept hs.1 hg hr).trans hs.2⟩) _) (ownFrom_below (Nat.le_refl _) (by simp; omega)))
    (fun _ _ _ _ _ hs _ _ => hs)
    ⟨⟨cell_alloc_l _ hs1.1, frozen_alloc_l _ hs1.1 hs1.2⟩, hB0⟩
    (fun x => { tmps := #[Value.string s, undef, Value.int IntKind.i64 0, Value.pointer (some { block := w.heap.size, off := 0 }),
          .int .i64 x.1.1, .string x.1.2, Value.string s, Value.int IntKind.i64 ↑s.size, Value.bool (decide (255 < (s.size : Int))),
          Value.string s, Value.func (Fn.func 77) #[] #[Value.pointer (some { block := w.heap.size + 1, off := 0 })],
          .int .i64 x.1.1, .string x.1.2, undef, undef, undef, undef, undef, undef, undef, undef, undef], defers := [] }) ?assign ?body ?done ?stop
  case assign =>
    intro l x W K hK
    dsimp only [encL]
    gi_wp2
    exact hK
  case body =>
    rintro l pre ⟨⟨i, lab⟩, hx⟩ W ⟨⟨hc, hf⟩, hB⟩ _
    dsimp only at hx ⊢
    gi_wp2
    refine ⟨KeepsOthers.setCell _ _ _, fun v e => ?_, ⟨?_, by rw [World.frozen?_setCell]; exact hf⟩, hB.setCell (p := ⟨w.heap.size, 0, none⟩) (Nat.le_refl _) _⟩
    · rw [cell_far _ _ _ _ (by simp)]; exact e
    · rw [lastEnd_snoc]; exact World.cell?_setCell_same' _ _ _ (by rw [hc]; rfl)
  case done =>
    rintro D ys W hD rfl ⟨⟨hc, _⟩, hB⟩ hK
    rw [lastEnd_rest s s.size 0 (by omega)] at hc
    have hfl : fin s 0 ≤ s.size := by rw [← lastEnd_rest s s.size 0 (by omega)]; exact lastEnd_le _ _ (by omega)
    have hz := zero_end s (fin s 0) hfl
    have HN : Hid (isN s = decide (fin s 0 + 1 = s.size ∧ bt s (fin s 0) = 0)) := by unfold Hid isN; simp [hs]
    cases hd : decide (fin s 0 + 1 = s.size ∧ bt s (fin s 0) = 0) with
    | true =>
      rw [hd] at hz
      have HN' : Hid (chk s = 0) := by unfold Hid chk; rw [HN.out, hd]; rfl
      clear hd HN
      gi_wp2
      refine ⟨by simp, .inl ⟨_, _, rfl, run_takeDeferred hK, ?_⟩⟩
      exact ⟨_, results_tmp rfl _ _ _, by rw [HN'.out]; rfl, hB.trans (belowK_b (w := w) (Nat.le_refl _) W D _ _ (by simp at hD; omega) hK rfl rfl)⟩
    | false =>
      rw [hd] at hz
      have HN' : Hid (chk s = 1) := by unfold Hid chk; rw [HN.out, hd]; rfl
      clear hd HN
      gi_wp2
      refine ⟨by simp, .inl ⟨_, _, rfl, run_takeDeferred hK, ?_⟩⟩
      exact ⟨_, results_tmp rfl _ _ _, by rw [HN'.out]; rfl, hB.trans (belowK_b (w := w) (Nat.le_refl _) W D _ _ (by simp at hD; omega) hK rfl rfl)⟩
  case stop =>
    rintro D c pre W _ _ h _
    exact h.elim

theorem check_any (s : ByteArray) (w : World) (hm : s.size ≤ maxLen) :
    Calls Try.prog 75 #[.string s] w fun e W' => e = .returned (.int .i64 (chk s)) ∧ Below w.heap.size w W' := by
  by_cases hs : s.size ≤ 255
  · exact callsIn_wide.1 (check_in s w hs)
  · have HN : Hid (chk s = 1) := by unfold Hid chk isN; simp [hs]
    have hl : 255 < s.size := by omega
    have hm' : s.size ≤ 9223372036854775807 := by unfold maxLen at hm; omega
    clear hm hs
    refine (callsIn_wide (n := 3)).1 ?_
    refine callsIn_of_wp_marks Try.func75 rfl trivial ?_ rfl
    simp only [Try.ntmps75, List.size_toArray, List.length_cons, List.length_nil, Nat.reduceAdd, Nat.reduceSub, Array.replicate_succ, Array.replicate_zero, List.push_toArray, List.append_toArray, List.nil_append, List.cons_append]
    gi_wp2
    exact ⟨_, results_tmp rfl _ _ _, by rw [HN.out]; rfl, Below.refl _ _⟩

end Go.Proofs.Ytnnmgcdhidmmeaa
