import Derived.Test.YtfofdcacikbflaaDoorRc1
import Derived.Test.YtfofdcacikbflaaDoorLbl
namespace Go.Proofs.YtfofdcacikbflaaDoor
set_option linter.unusedVariables false
open Go.RowKit Go.Shelf Go.Proofs.YtfofdcacikbflaaDoor.Nm
attribute [local go_sem] Oper.semAt_some

/-- all cells below stay -/
def KpW (B : Nat) (W W' : World) : Prop := ∀ (a : Addr) v, a.block < B → W.cell? a = some v → W'.cell? a = some v
theorem kpW_t {B : Nat} {A C D : World} (h : KpW B A C) (k : KpW B C D) : KpW B A D := fun a v hb e => k a v hb (h a v hb e)
theorem kpW_b {B : Nat} {w : World} (W : World) (l : Nat) (o o' : Obj) (_ : w.heap.size ≤ l) (h : W.heap[l]? = some o) (hc : o.isCells = false) (_ : o.isWalk = false) : KpW B W (W.putObj l o') :=
  fun a v _ e => cell_kept e (grownBy_putObj' W l o') (fun r e => by cases e; exact ⟨_, h, hc⟩)
theorem kpW_below {B n : Nat} {W W' : World} (h : Below n W W') (hB : B ≤ n) : KpW B W W' := fun a v hb e => (h.cell (Nat.lt_of_lt_of_le hb hB)).trans e

/-- whole numbers in memory, below a block -/
def ZAt (w : World) (B : Nat) (p : Option Addr) (L : List Int) : Prop := ∀ k (h : k < L.length), ∃ g off, p = some ⟨g, off, none⟩ ∧ g < B ∧ w.cell? ⟨g, off + k, none⟩ = some (.int .i64 L[k])
theorem ZAt.keep {w w' : World} {B C : Nat} {p : Option Addr} {L : List Int} (h : ZAt w B p L) (hk : KpW C w w') (hB : B ≤ C) : ZAt w' B p L := fun k hk' => by
  obtain ⟨g, off, h1, h2, h3⟩ := h k hk'
  exact ⟨g, off, h1, h2, hk _ _ (Nat.lt_of_lt_of_le h2 hB) h3⟩
abbrev encI (x : Int) : Value := .int .i64 x

set_option maxRecDepth 100000 in
set_option maxHeartbeats 2000000 in
/-- slices.Values's iterator -/
theorem vals1_in (F : Fence) (n : Nat) (hf : F.fn 37) (hro : F.round = none) (hn : 1 ≤ n) (l Bn : Nat) (L : List Int) (p : Option Addr) (cap : Nat) (hL : L.length ≤ 16777216) (J Jx : List Int → World → Prop)
    (hY : ∀ pre x W, J pre W → pre.length < L.length + 1 → YieldAt F (n - 1) Tryd.prog l #[encI x] W fun e W' =>
      (e = .returned (.bool true) ∧ J (pre ++ [x]) W' ∧ KpW (Bn + 1) W W') ∨ (e = .returned (.bool false) ∧ Jx (pre ++ [x]) W'))
    (W : World) (hBn : W.cell? ⟨Bn, 0, none⟩ = some (.slice p L.length cap)) (hat : ZAt W Bn p L) (h0 : J [] W) :
    CallsIn F n Tryd.prog 37 #[.func (.yield l) #[] #[], .pointer (some ⟨Bn, 0, none⟩)] W fun e W' => (∃ v, e = .returned v) ∧
      ((∃ ys, ys = L ∧ J ys W') ∨ (∃ pre, pre <+: L ∧ Jx pre W')) := by
  refine callsIn_of_wp Tryd.func37 rfl hf ?_ hro
  simp only [Tryd.ntmps37, List.size_toArray, List.length_cons, List.length_nil, Nat.reduceAdd, Nat.reduceSub, Array.replicate_succ, Array.replicate_zero, List.push_toArray, List.append_toArray, List.nil_append, List.cons_append]
  gi_wp2
  gi_loopw [7] (fun iv wr => ∃ i : Nat, iv = .int .i64 i ∧ i ≤ L.length ∧ J (L.take i) wr ∧ KpW (Bn + 1) W wr) (fun iv _ => L.length - (intOf iv).toNat)
  case atStart => exact ⟨0, rfl, Nat.zero_le _, h0, fun _ _ _ e => e⟩
  case round =>
    obtain ⟨i, rfl, hi, hJs, hkp⟩ := hrel
    by_cases hlt : i < L.length
    · obtain ⟨g, off, rfl, hg, hcell⟩ := (hat.keep hkp (by omega)) i hlt
      have HTK : Hid (L.take (i + 1) = L.take i ++ [L[i]]) := by unfold Hid; rw [List.take_succ_eq_append_getElem hlt]
      have hy := hY (L.take i) L[i] wr hJs (by rw [List.length_take]; omega)
      rw [← HTK.out] at hy
      generalize L[i] = x at *
      obtain ⟨fn, tmps, assign, body, hy, hR⟩ := hy
      gi_wp2
      refine hR.mono ?_
      rintro e W3 (⟨rfl, hJ3, hk3⟩ | ⟨rfl, hJx3⟩)
      · gi_wp2
        go_roundw
        case rel => exact ⟨i + 1, by go_num, hlt, hJ3, kpW_t hkp hk3⟩
        case measure => simp [intOf]; omega
      · gi_wp2
        refine bodyPost_ret (results_none rfl _ _ _) rfl ?_
        exact ⟨⟨_, rfl⟩, .inr ⟨L.take (i + 1), List.take_prefix _ _, hJx3⟩⟩
    · have he : L.take i = L := List.take_of_length_le (by omega)
      rw [he] at hJs
      gi_wp2
      go_end0
      exact ⟨⟨_, rfl⟩, .inl ⟨L, rfl, hJs⟩⟩

theorem vals_stops (F : Fence) (n : Nat) (hf : F.fn 37) (hro : F.round = none) (hn : 1 ≤ n) (Bn : Nat) (L : List Int) (p : Option Addr) (cap : Nat) (hL : L.length ≤ 16777216) (w : World) (hBn : Bn < w.heap.size)
    (hc : w.cell? ⟨Bn, 0, none⟩ = some (.slice p L.length cap)) (hat : ZAt w Bn p L) :
    SeqStopsK F n Tryd.prog 37 #[.pointer (some ⟨Bn, 0, none⟩)] (fun x => #[encI x]) (KpW (Bn + 1)) (fun ys => ys = L) (fun pre => pre <+: L) (L.length + 1) w := fun l J Jx W hW _ _ hY h0 =>
  vals1_in F n hf hro hn l Bn L p cap hL J Jx hY W ((hW.cell (p := ⟨Bn, 0, none⟩) hBn).trans hc) (hat.keep (kpW_below hW (by omega)) (Nat.le_succ _)) h0

set_option maxRecDepth 100000 in
set_option maxHeartbeats 2000000 in
/-- slices.AppendSeq of slices.Values -/
theorem appendSeq_in (L : List Int) (p : Option Addr) (cap Bn : Nat) (w : World) (hL : L.length ≤ 16777216) (hBn : Bn < w.heap.size) (hcb : w.cell? ⟨Bn, 0, none⟩ = some (.slice p L.length cap)) (hat : ZAt w Bn p L) :
    CallsIn Fence.wide 4 Tryd.prog 42 #[.slice none 0 0, .func (.func 37) #[] #[.pointer (some ⟨Bn, 0, none⟩)]] w fun e W' => ∃ v, e = .returned v ∧ W'.ownsRow w.heap.size 3 1 v L.length (L.map encI) ∧ Below w.heap.size w W' := by
  have hro : Fence.wide.round = none := rfl
  obtain ⟨i0, hi, hz0, hz1, hz2⟩ := info_parts Tryd.infoInt
  refine callsIn_of_wp_marks Tryd.func42 rfl trivial ?_ hro
  simp only [Tryd.ntmps42, List.size_toArray, List.length_cons, List.length_nil, Nat.reduceAdd, Nat.reduceSub, Array.replicate_succ, Array.replicate_zero, List.push_toArray, List.append_toArray, List.nil_append, List.cons_append]
  gi_wp2
  have bO := Boxed.new w 22 (.slice none 0 0)
  have hB0 : Below w.heap.size w (w.alloc (.cells #[.slice none 0 0] 22)) := (Below.refl _ w).alloc (Nat.le_refl _) _
  refine wpIn_rangeFunc_ownF hro (by omega) (gf := 37) (lb := #[.pointer (some ⟨Bn, 0, none⟩)]) rfl trivial (enters_of Tryd.func37 (by kernel_rfl) rfl)
    (vals_stops Fence.wide _ trivial hro (by omega) Bn L p cap hL (w.alloc (.cells #[.slice none 0 0] 22)) (by simp; omega) ((hB0.cell (p := ⟨Bn, 0, none⟩) hBn).trans hcb) (hat.keep (kpW_below hB0 (Nat.le_refl _)) (by omega))) kpW_t (kpW_b (w := w.alloc (.cells #[.slice none 0 0] 22))) (Below.refl _ _) (fun _ => rfl)
    (fun pre W => (∃ v, Boxed W w.heap.size 22 v ∧ W.ownsRow (w.heap.size + 1) 3 1 v pre.length (pre.map encI) ∧ True) ∧ Below w.heap.size w W ∧ w.heap.size + 1 ≤ W.heap.size)
    (fun _ _ _ => False)
    (OwnFrom.and (Own.from (holdsRow_own (w.heap.size + 1) w.heap.size 22 3 1 (fun pre : List Int => pre.length) (fun pre => pre.map encI) (fun _ _ => True)) _) (OwnFrom.and (ownFrom_below (Nat.le_refl _) (by simp)) (fun s W W' row h hg _ => Nat.le_trans h hg.size)))
    (fun _ _ _ _ _ hs _ _ => hs)
    ⟨⟨_, bO, World.ownsRow_nil _ _ _ _, trivial⟩, hB0, by simp⟩
    (fun x => { tmps := #[Value.slice none 0 0, Value.func (Fn.func 37) #[] #[Value.pointer (some { block := Bn, off := 0 })],
          Value.pointer (some { block := w.heap.size, off := 0 }), undef, Value.slice none 0 0, encI x,
          Value.func (Fn.func 37) #[] #[Value.pointer (some { block := Bn, off := 0 })], encI x, undef, undef, undef, undef, undef], defers := [] }) ?assign ?body ?done ?stop
  case assign =>
    intro l x W K hK
    gi_wp2
    exact hK
  case body =>
    rintro l pre x W ⟨⟨v, hv, hrow, _⟩, hB, hsz⟩ hpl
    have hc := hv.cell
    gi_wp2_with (gi_at_builtin; refine wpListIn_append_own _ rfl _ _ 22 rfl (w.heap.size + 1) 3 i0 (.int .i64 0) 1 8 Tryd.underlying22 hi hz0 hz1 hz2 rfl (by decide) _ _ _ rfl (hrow.alloc _) ⟨W.heap.size, 0, none⟩ 1 1 [.int .i64 x] rfl rfl (cell_one_new _ _ _) (by simp [Value.oneCell']) (by unfold maxLen; omega) (by omega) (by simp; omega) ?_; intro v' w2 hown' hgrow _; obtain ⟨g', cap', rfl⟩ := ownsRow_succ hown'; obtain ⟨hv1, hv2, hr2, hk2, hb2, hkp⟩ := appended2 (n₀ := w.heap.size) (Bn := Bn) hv (by decide) hrow hsz (Nat.le_refl _) (by omega) (by omega) (by omega) hown' hgrow; have hc1 := hv1.cell; have hf1 := hv1.frozen)
    exact ⟨hk2, kpW_below hb2 (by omega), ⟨_, hv2, by simpa using hr2, trivial⟩, hB.trans hb2, Nat.le_trans hsz hb2.size⟩
  case done =>
    rintro D ys W hD rfl ⟨⟨v, hv, hrow, _⟩, hB, hsz⟩ hK
    have hc := hv.cell
    gi_wp2
    refine ⟨by simp, .inl ⟨_, _, rfl, run_takeDeferred hK, ?_⟩⟩
    refine ⟨_, results_tmp rfl _ _ _, v, rfl, ?_, hB.trans (belowK_b (w := w) (Nat.le_refl _) W D _ _ (by simp at hD; omega) hK rfl rfl)⟩
    exact own_mono (ownsRow_putObj hrow (.deferred none) hK rfl) (by omega)
  case stop =>
    rintro D c pre W _ _ h _
    exact h.elim
end Go.Proofs.YtfofdcacikbflaaDoor
