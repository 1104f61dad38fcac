import Derived.Test.YtiaccimdjfdkgaaGreatDoorKs1G
import Derived.Test.YtiaccimdjfdkgaaGreatDoorWkG
import Derived.Shelf.SlIterI.Sorted
import Derived.Shelf.SortM.Plain
import Derived.Shelf.SortM.SortNone
import Derived.Ground.SlgmProg
import Derived.Shelf.RegionOpenPlain
import Derived.Lib.BufferRead
import Derived.Test.YtiaccimdjfdkgaaGreatDoorThG
namespace Go.Proofs.YtiaccimdjfdkgaaGreatDoor
set_option linter.unusedVariables false
open Go.RowKit Go.Shelf Go.Proofs.YtiaccimdjfdkgaaGreatDoor.Nm
attribute [local go_sem] Oper.semAt_some

/-- all cells below stay -/
def KpW (B : Nat) (W W' : World) : Prop := ∀ (a : Addr) v, a.block < B → W.cell? a = some v → W'.cell? a = some v
theorem kpW_t {B : Nat} {A C D : World} (h : KpW B A C) (k : KpW B C D) : KpW B A D := fun a v hb e => k a v hb (h a v hb e)
theorem kpW_b {B : Nat} {w : World} (W : World) (l : Nat) (o o' : Obj) (_ : w.heap.size ≤ l) (h : W.heap[l]? = some o) (hc : o.isCells = false) (_ : o.isWalk = false) : KpW B W (W.putObj l o') :=
  fun a v _ e => cell_kept e (grownBy_putObj' W l o') (fun r e => by cases e; exact ⟨_, h, hc⟩)
theorem kpW_below {B n : Nat} {W W' : World} (h : Below n W W') (hB : B ≤ n) : KpW B W W' := fun a v hb e => (h.cell (Nat.lt_of_lt_of_le hb hB)).trans e

/-- whole numbers in memory, below a block -/
def ZAt (w : World) (B : Nat) (p : Option Addr) (L : List Int) : Prop := ∀ k (h : k < L.length), ∃ g off, p = some ⟨g, off, none⟩ ∧ g < B ∧ w.cell? ⟨g, off + k, none⟩ = some (.int .i64 L[k])
theorem ZAt.keep {w w' : World} {B C : Nat} {p : Option Addr} {L : List Int} (h : ZAt w B p L) (hk : KpW C w w') (hB : B ≤ C) : ZAt w' B p L := fun k hk' => by
  obtain ⟨g, off, h1, h2, h3⟩ := h k hk'
  exact ⟨g, off, h1, h2, hk _ _ (Nat.lt_of_lt_of_le h2 hB) h3⟩
abbrev encI (x : Int) : Value := .int .i64 x

set_option maxRecDepth 100000 in
set_option maxHeartbeats 2000000 in
/-- slices.Values's iterator -/
theorem vals1_in (F : Fence) (n : Nat) (hf : F.fn 262) (hro : F.round = none) (hn : 1 ≤ n) (l Bn : Nat) (L : List Int) (p : Option Addr) (cap : Nat) (hL : L.length ≤ 16777216) (J Jx : List Int → World → Prop)
    (hY : ∀ pre x W, J pre W → pre.length < L.length + 1 → YieldAt F (n - 1) Tryz.prog l #[encI x] W fun e W' =>
      (e = .returned (.bool true) ∧ J (pre ++ [x]) W' ∧ KpW (Bn + 1) W W') ∨ (e = .returned (.bool false) ∧ Jx (pre ++ [x]) W'))
    (W : World) (hBn : W.cell? ⟨Bn, 0, none⟩ = some (.slice p L.length cap)) (hat : ZAt W Bn p L) (h0 : J [] W) :
    CallsIn F n Tryz.prog 262 #[.func (.yield l) #[] #[], .pointer (some ⟨Bn, 0, none⟩)] W fun e W' => (∃ v, e = .returned v) ∧
      ((∃ ys, ys = L ∧ J ys W') ∨ (∃ pre, pre <+: L ∧ Jx pre W')) := by
  refine callsIn_of_wp Tryz.func262 rfl hf ?_ hro
  simp only [Tryz.ntmps262, List.size_toArray, List.length_cons, List.length_nil, Nat.reduceAdd, Nat.reduceSub, Array.replicate_succ, Array.replicate_zero, List.push_toArray, List.append_toArray, List.nil_append, List.cons_append]
  gi_wp2
  gi_loopw [7] (fun iv wr => ∃ i : Nat, iv = .int .i64 i ∧ i ≤ L.length ∧ J (L.take i) wr ∧ KpW (Bn + 1) W wr) (fun iv _ => L.length - (intOf iv).toNat)
  case atStart => exact ⟨0, rfl, Nat.zero_le _, h0, fun _ _ _ e => e⟩
  case round =>
    obtain ⟨i, rfl, hi, hJs, hkp⟩ := hrel
    by_cases hlt : i < L.length
    · obtain ⟨g, off, rfl, hg, hcell⟩ := (hat.keep hkp (by omega)) i hlt
      have HTK : Hid (L.take (i + 1) = L.take i ++ [L[i]]) := by unfold Hid; rw [List.take_succ_eq_append_getElem hlt]
      have hy := hY (L.take i) L[i] wr hJs (by rw [List.length_take]; omega)
      rw [← HTK.out] at hy
      generalize L[i] = x at *
      obtain ⟨fn, tmps, assign, body, hy, hR⟩ := hy
      gi_wp2
      refine hR.mono ?_
      rintro e W3 (⟨rfl, hJ3, hk3⟩ | ⟨rfl, hJx3⟩)
      · gi_wp2
        go_roundw
        case rel => exact ⟨i + 1, by go_num, hlt, hJ3, kpW_t hkp hk3⟩
        case measure => simp [intOf]; omega
      · gi_wp2
        refine bodyPost_ret (results_none rfl _ _ _) rfl ?_
        exact ⟨⟨_, rfl⟩, .inr ⟨L.take (i + 1), List.take_prefix _ _, hJx3⟩⟩
    · have he : L.take i = L := List.take_of_length_le (by omega)
      rw [he] at hJs
      gi_wp2
      go_end0
      exact ⟨⟨_, rfl⟩, .inl ⟨L, rfl, hJs⟩⟩

theorem vals_stops (F : Fence) (n : Nat) (hf : F.fn 262) (hro : F.round = none) (hn : 1 ≤ n) (Bn : Nat) (L : List Int) (p : Option Addr) (cap : Nat) (hL : L.length ≤ 16777216) (w : World) (hBn : Bn < w.heap.size)
    (hc : w.cell? ⟨Bn, 0, none⟩ = some (.slice p L.length cap)) (hat : ZAt w Bn p L) :
    SeqStopsK F n Tryz.prog 262 #[.pointer (some ⟨Bn, 0, none⟩)] (fun x => #[encI x]) (KpW (Bn + 1)) (fun ys => ys = L) (fun pre => pre <+: L) (L.length + 1) w := fun l J Jx W hW _ _ hY h0 =>
  vals1_in F n hf hro hn l Bn L p cap hL J Jx hY W ((hW.cell (p := ⟨Bn, 0, none⟩) hBn).trans hc) (hat.keep (kpW_below hW (by omega)) (Nat.le_succ _)) h0

set_option maxRecDepth 100000 in
set_option maxHeartbeats 2000000 in
/-- slices.AppendSeq of slices.Values -/
theorem appendSeq_in (L : List Int) (p : Option Addr) (cap Bn : Nat) (w : World) (hL : L.length ≤ 16777216) (hBn : Bn < w.heap.size) (hcb : w.cell? ⟨Bn, 0, none⟩ = some (.slice p L.length cap)) (hat : ZAt w Bn p L) :
    CallsIn Fence.wide 4 Tryz.prog 263 #[.slice none 0 0, .func (.func 262) #[] #[.pointer (some ⟨Bn, 0, none⟩)]] w fun e W' => ∃ v, e = .returned v ∧ W'.ownsRow w.heap.size 3 1 v L.length (L.map encI) ∧ Below w.heap.size w W' := by
  have hro : Fence.wide.round = none := rfl
  obtain ⟨i0, hi, hz0, hz1, hz2⟩ := info_parts Tryz.infoInt
  refine callsIn_of_wp_marks Tryz.func263 rfl trivial ?_ hro
  simp only [Tryz.ntmps263, List.size_toArray, List.length_cons, List.length_nil, Nat.reduceAdd, Nat.reduceSub, Array.replicate_succ, Array.replicate_zero, List.push_toArray, List.append_toArray, List.nil_append, List.cons_append]
  gi_wp2
  have bO := Boxed.new w 299 (.slice none 0 0)
  have hB0 : Below w.heap.size w (w.alloc (.cells #[.slice none 0 0] 299)) := (Below.refl _ w).alloc (Nat.le_refl _) _
  refine wpIn_rangeFunc_ownF hro (by omega) (gf := 262) (lb := #[.pointer (some ⟨Bn, 0, none⟩)]) rfl trivial (enters_of Tryz.func262 (by kernel_rfl) rfl)
    (vals_stops Fence.wide _ trivial hro (by omega) Bn L p cap hL (w.alloc (.cells #[.slice none 0 0] 299)) (by simp; omega) ((hB0.cell (p := ⟨Bn, 0, none⟩) hBn).trans hcb) (hat.keep (kpW_below hB0 (Nat.le_refl _)) (by omega))) kpW_t (kpW_b (w := w.alloc (.cells #[.slice none 0 0] 299))) (Below.refl _ _) (fun _ => rfl)
    (fun pre W => (∃ v, Boxed W w.heap.size 299 v ∧ W.ownsRow (w.heap.size + 1) 3 1 v pre.length (pre.map encI) ∧ True) ∧ Below w.heap.size w W ∧ w.heap.size + 1 ≤ W.heap.size)
    (fun _ _ _ => False)
    (OwnFrom.and (Own.from (holdsRow_own (w.heap.size + 1) w.heap.size 299 3 1 (fun pre : List Int => pre.length) (fun pre => pre.map encI) (fun _ _ => True)) _) (OwnFrom.and (ownFrom_below (Nat.le_refl _) (by simp)) (fun s W W' row h hg _ => Nat.le_trans h hg.size)))
    (fun _ _ _ _ _ hs _ _ => hs)
    ⟨⟨_, bO, World.ownsRow_nil _ _ _ _, trivial⟩, hB0, by simp⟩
    (fun x => { tmps := #[Value.slice none 0 0, Value.func (Fn.func 262) #[] #[Value.pointer (some { block := Bn, off := 0 })],
          Value.pointer (some { block := w.heap.size, off := 0 }), undef, Value.slice none 0 0, encI x,
          Value.func (Fn.func 262) #[] #[Value.pointer (some { block := Bn, off := 0 })], encI x, undef, undef, undef, undef, undef], defers := [] }) ?assign ?body ?done ?stop
  case assign =>
    intro l x W K hK
    gi_wp2
    exact hK
  case body =>
    rintro l pre x W ⟨⟨v, hv, hrow, _⟩, hB, hsz⟩ hpl
    have hc := hv.cell
    gi_wp2_with (gi_at_builtin; refine wpListIn_append_own _ rfl _ _ 299 rfl (w.heap.size + 1) 3 i0 (.int .i64 0) 1 8 Tryz.underlying299 hi hz0 hz1 hz2 rfl (by decide) _ _ _ rfl (hrow.alloc _) ⟨W.heap.size, 0, none⟩ 1 1 [.int .i64 x] rfl rfl (cell_one_new _ _ _) (by simp [Value.oneCell']) (by unfold maxLen; omega) (by omega) (by simp; omega) ?_; intro v' w2 hown' hgrow _; obtain ⟨g', cap', rfl⟩ := ownsRow_succ hown'; obtain ⟨hv1, hv2, hr2, hk2, hb2, hkp⟩ := appended2 (n₀ := w.heap.size) (Bn := Bn) hv (by decide) hrow hsz (Nat.le_refl _) (by omega) (by omega) (by omega) hown' hgrow; have hc1 := hv1.cell; have hf1 := hv1.frozen)
    exact ⟨hk2, kpW_below hb2 (by omega), ⟨_, hv2, by simpa using hr2, trivial⟩, hB.trans hb2, Nat.le_trans hsz hb2.size⟩
  case done =>
    rintro D ys W hD rfl ⟨⟨v, hv, hrow, _⟩, hB, hsz⟩ hK
    have hc := hv.cell
    gi_wp2
    refine ⟨by simp, .inl ⟨_, _, rfl, run_takeDeferred hK, ?_⟩⟩
    refine ⟨_, results_tmp rfl _ _ _, v, rfl, ?_, hB.trans (belowK_b (w := w) (Nat.le_refl _) W D _ _ (by simp at hD; omega) hK rfl rfl)⟩
    exact own_mono (ownsRow_putObj hrow (.deferred none) hK rfl) (by omega)
  case stop =>
    rintro D c pre W _ _ h _
    exact h.elim
end Go.Proofs.YtiaccimdjfdkgaaGreatDoor

namespace Go.Proofs.YtiaccimdjfdkgaaGreatDoor
set_option linter.unusedVariables false
open Go.RowKit Go.Shelf Go.Sort Go.Proofs.YtiaccimdjfdkgaaGreatDoor.Nm

def Tryz.sortA_ren : Go.Shelf.Ren := ⟨fun | 5 => 261 | 8 => 158 | 7 => 264 | 19 => 159 | 20 => 116 | 10 => 265 | 11 => 266 | 12 => 267 | 13 => 268 | 14 => 269 | 15 => 270 | 16 => 271 | 17 => 272 | 18 => 273 | 30 => 274 | 31 => 275 | 32 => 276 | 33 => 277 | 34 => 278 | 35 => 279 | 40 => 280 | n => n, fun | 23 => 299 | 25 => 3 | 3 => 3 | 32 => 227 | 22 => 299 | 0 => 0 | 44 => 225 | 46 => 200 | 4 => 4 | 36 => 313 | 35 => 312 | 41 => 122 | 5 => 5 | 9 => 9 | 53 => 319 | 57 => 323 | 63 => 325 | 64 => 292 | n => n, fun | n => n⟩
theorem Tryz.sortA : Go.Proofs.SlLaysM.n5 Tryz.prog Tryz.sortA_ren := {
  mixed := by kernel_rfl
  f5 := ⟨Tryz.f261.name, by decide, Tryz.func261.trans (congrArg some (by kernel_rfl))⟩
  f7 := ⟨Tryz.f264.name, by decide, Tryz.func264.trans (congrArg some (by kernel_rfl))⟩
  f8 := Tryz.func158.trans (congrArg some (by kernel_rfl))
  f10 := ⟨Tryz.f265.name, by decide, Tryz.func265.trans (congrArg some (by kernel_rfl))⟩
  f11 := ⟨Tryz.f266.name, by decide, Tryz.func266.trans (congrArg some (by kernel_rfl))⟩
  f12 := ⟨Tryz.f267.name, by decide, Tryz.func267.trans (congrArg some (by kernel_rfl))⟩
  f13 := ⟨Tryz.f268.name, by decide, Tryz.func268.trans (congrArg some (by kernel_rfl))⟩
  f14 := ⟨Tryz.f269.name, by decide, Tryz.func269.trans (congrArg some (by kernel_rfl))⟩
  f15 := ⟨Tryz.f270.name, by decide, Tryz.func270.trans (congrArg some (by kernel_rfl))⟩
  f16 := ⟨Tryz.f271.name, by decide, Tryz.func271.trans (congrArg some (by kernel_rfl))⟩
  f17 := ⟨Tryz.f272.name, by decide, Tryz.func272.trans (congrArg some (by kernel_rfl))⟩
  f18 := ⟨Tryz.f273.name, by decide, Tryz.func273.trans (congrArg some (by kernel_rfl))⟩
  f19 := Tryz.func159.trans (congrArg some (by kernel_rfl))
  f20 := Tryz.func116.trans (congrArg some (by kernel_rfl))
  f30 := ⟨Tryz.f274.name, by decide, Tryz.func274.trans (congrArg some (by kernel_rfl))⟩
  f31 := Tryz.func275.trans (congrArg some (by kernel_rfl))
  f32 := Tryz.func276.trans (congrArg some (by kernel_rfl))
  f33 := ⟨Tryz.f277.name, by decide, Tryz.func277.trans (congrArg some (by kernel_rfl))⟩
  f34 := ⟨Tryz.f278.name, by decide, Tryz.func278.trans (congrArg some (by kernel_rfl))⟩
  f35 := ⟨Tryz.f279.name, by decide, Tryz.func279.trans (congrArg some (by kernel_rfl))⟩
  f40 := ⟨Tryz.f280.name, by decide, Tryz.func280.trans (congrArg some (by kernel_rfl))⟩
  t0 := Tryz.underlying0
  a0 := Tryz.isAgg0
  z0 := Tryz.sizeOf0
  v0 := Tryz.zeroValue0
  t3 := Tryz.underlying3
  a3 := Tryz.isAgg3
  z3 := Tryz.sizeOf3
  v3 := Tryz.zeroValue3
  t4 := Tryz.underlying4
  a4 := Tryz.isAgg4
  z4 := Tryz.sizeOf4
  v4 := Tryz.zeroValue4
  t5 := Tryz.underlying5
  a5 := Tryz.isAgg5
  z5 := Tryz.sizeOf5
  v5 := Tryz.zeroValue5
  t9 := Tryz.underlying9
  a9 := Tryz.isAgg9
  z9 := Tryz.sizeOf9
  v9 := Tryz.zeroValue9
  t22 := Tryz.underlying299
  a22 := Tryz.isAgg299
  z22 := Tryz.sizeOf299
  v22 := Tryz.zeroValue299
  t23 := Tryz.underlying299
  a23 := Tryz.isAgg299
  z23 := Tryz.sizeOf299
  v23 := Tryz.zeroValue299
  t25 := Tryz.underlying3
  a25 := Tryz.isAgg3
  z25 := Tryz.sizeOf3
  v25 := Tryz.zeroValue3
  t32 := Tryz.underlying227
  a32 := Tryz.isAgg227
  z32 := Tryz.sizeOf227
  v32 := Tryz.zeroValue227
  t35 := Tryz.underlying312
  a35 := Tryz.isAgg312
  z35 := Tryz.sizeOf312
  v35 := Tryz.zeroValue312
  t36 := Tryz.underlying313
  a36 := Tryz.isAgg313
  z36 := Tryz.sizeOf313
  v36 := Tryz.zeroValue313
  t41 := Tryz.underlying122
  a41 := Tryz.isAgg122
  z41 := Tryz.sizeOf122
  v41 := Tryz.zeroValue122
  t44 := Tryz.underlying225
  a44 := Tryz.isAgg225
  z44 := Tryz.sizeOf225
  v44 := Tryz.zeroValue225
  t46 := Tryz.underlying200
  a46 := Tryz.isAgg200
  z46 := Tryz.sizeOf200
  v46 := Tryz.zeroValue200
  t53 := Tryz.underlying319
  a53 := Tryz.isAgg319
  z53 := Tryz.sizeOf319
  v53 := Tryz.zeroValue319
  t57 := Tryz.underlying323
  a57 := Tryz.isAgg323
  z57 := Tryz.sizeOf323
  v57 := Tryz.zeroValue323
  t63 := Tryz.underlying325
  a63 := Tryz.isAgg325
  z63 := Tryz.sizeOf325
  v63 := Tryz.zeroValue325
  t64 := Tryz.underlying292
  a64 := Tryz.isAgg292
  z64 := Tryz.sizeOf292
  v64 := Tryz.zeroValue292 }

/-- slices.Values -/
theorem values_any (p : Option Addr) (n cap : Nat) (w : World) :
    Calls Tryz.prog 257 #[.slice p n cap] w fun e w' => e = .returned (.func (.func 262) #[] #[.pointer (some ⟨w.heap.size, 0, none⟩)]) ∧ w' = w.alloc (.cells #[.slice p n cap] 299) := by
  have hmf : ∀ (fn : Fn) (first cap : Array Value) (w : World), (Instr.makeFunc fn first cap).run Tryz.prog w = .ok (.func fn first cap) w := fun _ _ _ _ => rfl
  go_enter Tryz.func257, Tryz.ntmps257
  go_wp2
  go_ret
  exact ⟨rfl, rfl⟩

set_option maxRecDepth 100000 in
/-- slices.Sorted of slices.Values -/
theorem sorted_any (L : List Int) (p : Option Addr) (cap Bn : Nat) (w : World) (hL : L.length ≤ 16777216) (hBn : Bn < w.heap.size) (hcb : w.cell? ⟨Bn, 0, none⟩ = some (.slice p L.length cap)) (hat : ZAt w Bn p L) :
    Calls Tryz.prog 256 #[.func (.func 262) #[] #[.pointer (some ⟨Bn, 0, none⟩)]] w fun e W' => ∃ v, e = .returned v ∧ W'.ownsRow w.heap.size 3 1 v L.length ((L.mergeSort (fun x y => decide (x ≤ y))).map encI) ∧ Below w.heap.size w W' := by
  have HA := hide' (fun w hBn hcb hat => callsIn_wide.1 (appendSeq_in L p cap Bn w hL hBn hcb hat))
  have HC : ∀ w, Bn < w.heap.size → w.cell? ⟨Bn, 0, none⟩ = some (.slice p L.length cap) → ZAt w Bn p L →
      Calls Tryz.prog 260 #[.func (.func 262) #[] #[.pointer (some ⟨Bn, 0, none⟩)]] w fun e W' => ∃ v, e = .returned v ∧ W'.ownsRow w.heap.size 3 1 v L.length (L.map encI) ∧ Below w.heap.size w W' := by
    intro w hBn hcb hat
    have HAA := hide' (HA.out w hBn hcb hat)
    clear hcb
    go_enter Tryz.func260, Tryz.ntmps260
    go_wp2_with (go_at_call 263; refine (HAA.out).mono ?_; rintro e w1 ⟨v, rfl, hown, hB⟩)
    go_ret
    exact ⟨v, rfl, hown, hB⟩
  have HCC := hide' (HC w hBn hcb hat)
  clear hcb HC
  go_enter Tryz.func256, Tryz.ntmps256
  go_wp2_with fail
  refine (HCC.out).mono ?_
  rintro e W ⟨v, rfl, hrow, hb⟩
  rcases hrow.2 with ⟨rfl, hz⟩ | ⟨gb, cap2, cur, rfl, hbase, hgb, r1, r2, r3, r4⟩
  · have hss : L = [] := List.eq_nil_of_length_eq_zero hz
    subst hss
    go_wp2_with (go_at_call 261; refine (AnyM.slices_Sort_int_none Tryz.sortA none 0 W).mono ?_; rintro e w' ⟨rfl, rfl⟩)
    go_ret
    exact ⟨.slice none 0 0, rfl, by simpa using hrow, hb⟩
  · have hH : Holds (Value.int .i64) W gb 0 L.toArray := holds_of_block_i hgb (by simpa using r4)
    have hgl : gb < W.heap.size := (Array.getElem?_eq_some_iff.1 hgb).1
    have cS := AnyM.slices_Sort_int Tryz.sortA gb 0 cap2 L W hH hgl (by omega)
    change Calls Tryz.prog 261 _ _ _ at cS
    have CS := hide' cS
    clear cS
    go_wp2_with (go_at_call 261; refine (CS.out).mono ?_; rintro e w' ⟨rfl, nn, os, rfl⟩)
    go_ret
    exact ⟨_, rfl, ownsRow_sorted_i (by simp) hbase hgb r1 r2 r3, hb.grown (grownBy_sorted_i _) hb.size (fun j hj => by cases hj; exact hbase)⟩
end Go.Proofs.YtiaccimdjfdkgaaGreatDoor

namespace Go.Proofs.YtiaccimdjfdkgaaGreatDoor
set_option linter.unusedVariables false
open Go.RowKit Go.Shelf Go.Proofs.YtiaccimdjfdkgaaGreatDoor.Nm

/-- a set under way: the blocks that are done, the block, its bytes -/
structure SetS where
  done : List Nat
  blk : Int
  marks : List Nat
def SetS.bytes (s : SetS) : List Nat := if s.blk < 0 then s.done else s.done ++ s.blk.toNat :: s.marks.length :: s.marks
def SetS.next (s : SetS) (b : Nat) : SetS := if (b : Int) = s.blk then s else ⟨s.bytes, b, []⟩
def SetS.fill (s : SetS) (k : Nat) : SetS := { s with marks := s.marks ++ List.replicate (k + 1 - s.marks.length) 0 }
def SetS.mark (s : SetS) (m : Nat) : SetS := { s with marks := s.marks.set (s.marks.length - 1) (s.marks.getD (s.marks.length - 1) 0 ||| m) }
def SetS.step (s : SetS) (t : Int) : SetS := if isTy t = true then ((s.next (t.toNat / 256)).fill (t.toNat % 256 / 8)).mark (2 ^ (7 - t.toNat % 8)) else s
def SetS.init : SetS := ⟨[], -1, []⟩
def setB (M : List Int) : List Nat := (M.foldl SetS.step SetS.init).bytes

/-- what holds of a set under way -/
structure SetS.Ok (s : SetS) : Prop where
  low : -1 ≤ s.blk
  high : s.blk ≤ 255
  ml : s.marks.length ≤ 32
  lt : ∀ x ∈ s.bytes, x < 256
  neg : s.blk < 0 → s.marks = []

theorem init_ok : SetS.init.Ok := ⟨by decide, by decide, by decide, (fun x hx => by cases hx), fun _ => rfl⟩
/-- a row of bytes as a text -/
theorem str_owns {W : World} {b c : Nat} {p : Option Addr} {xs : List Nat} (h : W.ownsRow b 5 1 (.slice p xs.length c) xs.length (byts xs)) (hx : ∀ x ∈ xs, x < 256) : (convert 56 9 (.slice p xs.length c)).run Tryz.prog W = .ok (.string (bts xs)) W := by
  have hz : (bts xs).size = xs.length := bts_size _
  rcases h.2 with ⟨h1, h0⟩ | ⟨g, cap, cur, h1, _⟩
  · simp at h1
    obtain ⟨rfl, _, rfl⟩ := h1
    have : xs = [] := List.eq_nil_of_length_eq_zero h0
    subst this
    exact Go.Lib.run_convert_nil_bytes W 56 9 5 0 Tryz.underlying56 Tryz.underlying5 Tryz.underlying9
  · simp at h1
    obtain ⟨rfl, rfl⟩ := h1
    have h' := owns_str (t := bts xs) (w := W) (base := b) (g := g) (cap := c) (by rw [hz, bts_cells _ hx]; exact h)
    rw [hz] at h'; exact h'

def OkD (D mk : List Nat) : Prop := (∀ x ∈ D, x < 256) ∧ ∀ x ∈ mk, x < 256
theorem bytes_pos {D mk : List Nat} {b : Nat} : (⟨D, b, mk⟩ : SetS).bytes = D ++ b :: mk.length :: mk := by
  unfold SetS.bytes; rw [if_neg (by show ¬ ((b : Int) < 0); omega)]; simp
theorem ok_split {D mk : List Nat} {b : Nat} (h : (⟨D, b, mk⟩ : SetS).Ok) : OkD D mk := by
  have := h.lt
  rw [bytes_pos] at this
  exact ⟨fun x hx => this x (by simp [hx]), fun x hx => this x (by simp [hx])⟩
theorem byts_set (l : List Nat) (i x : Nat) : byts (l.set i x) = (byts l).set i (.int .u8 (x : Int)) := by simp [byts, List.map_set]
theorem up_len (D mk : List Nat) (b : Nat) : (D ++ b :: mk.length :: mk ++ [0]).set (D.length + 1) (mk.length + 1) = D ++ b :: (mk ++ [0]).length :: (mk ++ [0]) := by
  rw [List.append_assoc, List.set_append_right _ _ (by omega)]
  simp
theorem at_len (D mk : List Nat) (b : Nat) (l : List Nat) : (D ++ b :: mk.length :: (mk ++ l))[D.length + 1]? = some mk.length := by
  rw [List.getElem?_append_right (by omega)]; simp
/-- the bytes of the block, filled -/
def Fills (mk0 mk : List Nat) (r : Nat) : Prop := mk0.length ≤ mk.length ∧ mk = mk0 ++ List.replicate (mk.length - mk0.length) 0 ∧ (mk.length = mk0.length ∨ mk.length ≤ r + 1)

theorem fills_start {mk0 : List Nat} {r : Nat} : Fills mk0 mk0 r := ⟨Nat.le_refl _, by simp, .inl rfl⟩
theorem owns_cp {w : World} {base e : Nat} {p : Option Addr} {n cap : Nat} {xs : List Value} {m : Nat} (h : w.ownsRow base e 1 (.slice p m cap) n xs) : n ≤ cap ∧ cap ≤ 9223372036854775807 := by
  obtain ⟨hl, (⟨h1, h0⟩ | ⟨g, cap', cur, h1, hb, hg, hn, hcap, hsz, ht⟩)⟩ := h
  · simp at h1; exact ⟨by omega, by omega⟩
  · simp at h1; obtain ⟨e, _, rfl⟩ := h1; exact ⟨hn, by unfold maxLen at hcap; omega⟩
theorem own_zero {w : World} {base e N : Nat} {v : Value} {l : List Nat} (h : w.ownsRow base e 1 v N (byts l ++ [.int .u8 0])) : w.ownsRow base e 1 v N (byts (l ++ [0])) := by simpa [byts] using h
theorem cell_zero {w : World} {base e N g c b : Nat} {D mk : List Nat} (h : w.ownsRow base e 1 (.slice (some ⟨g, 0, none⟩) (N + 1) c) (N + 1) (byts (D ++ b :: mk.length :: mk ++ [0]))) (hN : N = D.length + 2 + mk.length) : w.cell? ⟨g, D.length + 1, none⟩ = some (.int .u8 (mk.length : Int)) := by
  rw [h.cellAt (D.length + 1) (by omega)]
  have := at_len D mk b [0]
  rw [show D ++ b :: mk.length :: mk ++ [0] = D ++ b :: mk.length :: (mk ++ [0]) by simp]
  simp only [byts, List.getElem?_map, this]; rfl

theorem cell_last {w : World} {base e N N1 g c b x : Nat} {D mk : List Nat} (h : w.ownsRow base e 1 (.slice (some ⟨g, 0, none⟩) N1 c) N1 (byts (D ++ b :: mk.length :: mk))) (hN : N1 = D.length + 2 + mk.length) (hN1 : N1 = N + 1) (hm : 1 ≤ mk.length) (hx : mk.getD (mk.length - 1) 0 = x) : w.cell? ⟨g, N, none⟩ = some (.int .u8 (x : Int)) := by
  rw [h.cellAt N (by omega)]
  have e : (D ++ b :: mk.length :: mk)[N]? = some x := by
    rw [List.getElem?_append_right (by omega), show N - D.length = (mk.length - 1) + 2 by omega]
    simp only [List.getElem?_cons_succ]
    rw [← hx, List.getD_eq_getElem?_getD, List.getElem?_eq_getElem (by omega)]; rfl
  simp only [byts, List.getElem?_map, e]; rfl

theorem step_row {w : World} {base e N g c b : Nat} {D mk : List Nat} (h : w.ownsRow base e 1 (.slice (some ⟨g, 0, none⟩) (N + 1) c) (N + 1) (byts (D ++ b :: mk.length :: mk ++ [0]))) :
    (w.setCell ⟨g, D.length + 1, none⟩ (.int .u8 ((mk.length : Int) + 1))).ownsRow base e 1 (.slice (some ⟨g, 0, none⟩) (N + 1) c) (N + 1) (byts (D ++ b :: (mk ++ [0]).length :: (mk ++ [0]))) := by
  have := (h.stored (D.length + 1) (.int .u8 ((mk.length + 1 : Nat) : Int))).1
  rw [← byts_set, up_len] at this
  exact this
theorem fills_up {mk0 mk : List Nat} {r : Nat} (h : Fills mk0 mk r) (hr : mk.length ≤ r) : Fills mk0 (mk ++ [0]) r := by
  obtain ⟨h1, h2, h3⟩ := h
  refine ⟨by simp; omega, ?_, .inr (by simp; omega)⟩
  rw [List.length_append, List.length_singleton, show mk.length + 1 - mk0.length = (mk.length - mk0.length) + 1 by omega, List.replicate_succ', ← List.append_assoc, ← h2]
theorem fills_end {mk0 mk : List Nat} {r : Nat} (h : Fills mk0 mk r) (hr : r + 1 ≤ mk.length) : mk = mk0 ++ List.replicate (r + 1 - mk0.length) 0 := by
  obtain ⟨h1, h2, h3⟩ := h
  rcases h3 with h3 | h3
  · rw [h3, Nat.sub_self] at h2; rw [show r + 1 - mk0.length = 0 by omega]; exact h2
  · rw [show r + 1 = mk.length by omega]; exact h2
theorem fills_lt {mk0 mk : List Nat} {r : Nat} (h : Fills mk0 mk r) (h0 : ∀ y ∈ mk0, y < 256) : ∀ y ∈ mk, y < 256 := by
  intro y hy
  rw [h.2.1] at hy
  rcases List.mem_append.1 hy with h | h
  · exact h0 y h
  · have := (List.mem_replicate.1 h).2; omega
theorem getD_lt {l : List Nat} (h : ∀ y ∈ l, y < 256) (i : Nat) : l.getD i 0 < 256 := by
  rw [List.getD_eq_getElem?_getD]
  cases e : l[i]? with
  | none => decide
  | some y => exact h y (List.mem_of_getElem? e)
theorem end_ok {D mk : List Nat} {b x i : Nat} (hb : b ≤ 255) (hmk : mk.length ≤ 32) (hD : ∀ y ∈ D, y < 256) (hm : ∀ y ∈ mk, y < 256) (hx : x < 256) : (⟨D, b, mk.set i x⟩ : SetS).Ok := by
  refine ⟨by show (-1 : Int) ≤ b; omega, by show (b : Int) ≤ 255; omega, by show (mk.set i x).length ≤ 32; rw [List.length_set]; exact hmk, ?_, fun h => absurd (show (b : Int) < 0 from h) (by omega)⟩
  rw [bytes_pos]
  intro y hy
  rw [List.length_set] at hy
  rcases List.mem_append.1 hy with h | h
  · exact hD y h
  · rcases List.mem_cons.1 h with h | h
    · omega
    · rcases List.mem_cons.1 h with h | h
      · omega
      · rcases List.mem_or_eq_of_mem_set h with h | h
        · exact hm y h
        · omega
theorem end_row {w : World} {base ee N N1 g c b x : Nat} {D mk : List Nat} (h : w.ownsRow base ee 1 (.slice (some ⟨g, 0, none⟩) N1 c) N1 (byts (D ++ b :: mk.length :: mk))) (hN : N1 = D.length + 2 + mk.length) (hN1 : N1 = N + 1) (hm : 1 ≤ mk.length) :
    (w.drew.setCell ⟨g, N, none⟩ (.int .u8 (x : Int))).ownsRow base ee 1 (.slice (some ⟨g, 0, none⟩) N1 c) (⟨D, b, mk.set (mk.length - 1) x⟩ : SetS).bytes.length (byts (⟨D, b, mk.set (mk.length - 1) x⟩ : SetS).bytes) := by
  have e : (⟨D, b, mk.set (mk.length - 1) x⟩ : SetS).bytes = (D ++ b :: mk.length :: mk).set N x := by
    rw [bytes_pos, List.length_set, List.set_append_right _ _ (by omega), show N - D.length = (mk.length - 1) + 2 by omega]
    rfl
  have hl : (⟨D, b, mk.set (mk.length - 1) x⟩ : SetS).bytes.length = N1 := by rw [e, List.length_set]; simp; omega
  rw [hl, e, byts_set]
  have hd : w.drew.ownsRow base ee 1 (.slice (some ⟨g, 0, none⟩) N1 c) N1 (byts (D ++ b :: mk.length :: mk)) := h
  exact (hd.stored N (.int .u8 (x : Int))).1

set_option maxRecDepth 100000 in
set_option maxHeartbeats 4000000 in
/-- data.Set -/
theorem set_any (L : List Int) (p : Option Addr) (cap : Nat) (w : World) (hL : L.length ≤ 1048576) (hlc : L.length ≤ cap) (hc : cap ≤ 9223372036854775807) (hat : ZAt w w.heap.size p L) :
    Calls Tryz.prog 254 #[.slice p L.length cap] w fun e w' => e = .returned (.string (bts (setB (L.mergeSort (fun x y => decide (x ≤ y)))))) ∧ Below w.heap.size w w' := by
  obtain ⟨i0, hi, hz0, hz1, hz2⟩ := info_parts Tryz.infoByte
  have bx := Boxed.new w 299 (.slice p L.length cap)
  have hB0 : Below w.heap.size w (w.alloc (.cells #[.slice p L.length cap] 299)) := (Below.refl _ w).alloc (Nat.le_refl _) _
  have HSO := hide' (sorted_any L p cap w.heap.size (w.alloc (.cells #[.slice p L.length cap] 299)) (by omega) bx.lt bx.cell (hat.keep (kpW_below hB0 (Nat.le_refl _)) (Nat.le_refl _)))
  obtain ⟨M, hM⟩ : ∃ M, L.mergeSort (fun x y => decide (x ≤ y)) = M := ⟨_, rfl⟩
  have hMl : M.length = L.length := by rw [← hM, List.length_mergeSort]
  rw [hM] at HSO
  rw [hM]
  clear bx hM
  go_enter Tryz.func254, Tryz.ntmps254
  go_wp2_with (first
    | (go_at_call 257; refine (values_any p L.length cap _).mono ?_; rintro e w' ⟨rfl, rfl⟩)
    | (go_at_call 256; refine (HSO.out).mono ?_; rintro e w1 ⟨v, rfl, hownM, hB1⟩; obtain ⟨q, cq, rfl, hq1, hq2, hsh⟩ := owns_shape hownM))
  clear HSO hat hB0
  rw [World.size_alloc] at hownM hB1
  have hBw : Below w.heap.size w w1 := ((Below.refl _ w).alloc (Nat.le_refl _) _).trans (hB1.mono (by omega))
  have hml : ∀ j, j < M.length → ∃ g, q = some ⟨g, 0, none⟩ := fun j hj => by
    rcases hsh with ⟨_, h⟩ | ⟨g, h, _, _⟩
    · omega
    · exact ⟨g, h⟩
  have HML := hide' hml
  clear hml hsh hB1
  obtain ⟨n1, hn1⟩ : ∃ n1, w1.heap.size = n1 := ⟨_, rfl⟩
  go_loopw [3, 4, 5, 12] (fun sv bv zv iv wr => ∃ (k : Nat) (s : SetS) (z : Int), iv = .int .i64 k ∧ bv = .int .i64 s.blk ∧ zv = .int .i64 z ∧ k ≤ L.length ∧ Hid (s = (M.take k).foldl SetS.step SetS.init) ∧ Hid s.Ok ∧ Hid (0 ≤ s.blk → z = (s.done.length : Int) + 1) ∧ s.bytes.length ≤ 34 * k ∧ wr.ownsRow n1 5 1 sv s.bytes.length (byts s.bytes) ∧ Below n1 w1 wr)
    (fun _ _ _ iv _ => L.length - (intOf iv).toNat)
  case atStart => exact ⟨0, SetS.init, 0, rfl, rfl, rfl, Nat.zero_le _, rfl, init_ok, (fun h => absurd h (by decide)), by decide, World.ownsRow_nil _ _ _ _, Below.refl _ _⟩
  case round =>
    obtain ⟨k, s, z, rfl, rfl, rfl, hk, HS, HO, HZ, hbl, hown, hBr⟩ := hrel
    obtain ⟨ps, cs, rfl, hps, hcs, hshs⟩ := owns_shape hown
    by_cases hlt : k < L.length
    · have hkM : k < M.length := by omega
      obtain ⟨g, hgq⟩ := HML.out k hkM
      subst hgq
      obtain ⟨t, ht⟩ : ∃ t, M[k] = t := ⟨_, rfl⟩
      have hcell : wr.cell? ⟨g, k, none⟩ = some (.int .i64 t) := by
        have h := (ownsRow_below hownM (hn1 ▸ hBr)).cellAt k (by omega)
        rw [h]; simp [encI, hkM, ht]
      have HS1 : Hid (s.step t = (M.take (k + 1)).foldl SetS.step SetS.init) := by
        unfold Hid; rw [List.take_succ_eq_append_getElem hkM, List.foldl_append, ← HS.out, ht]; rfl
      by_cases hty : isTy t = true
      · have hty1 : 1 ≤ t ∧ t ≤ 65535 := of_decide_eq_true hty
        obtain ⟨n, hn⟩ : ∃ n : Nat, t = (n : Int) := ⟨t.toNat, by omega⟩
        subst hn
        obtain ⟨b, hb⟩ : ∃ b, n / 256 = b := ⟨_, rfl⟩
        obtain ⟨r, hr⟩ : ∃ r, n % 256 / 8 = r := ⟨_, rfl⟩
        obtain ⟨m, hm⟩ : ∃ m, 2 ^ (7 - n % 8) = m := ⟨_, rfl⟩
        have hbI : (n : Int) / 256 = (b : Int) := by omega
        have hrI : (n : Int) % 256 / 8 = (r : Int) := by omega
        have hb255 : b ≤ 255 := by omega
        have hr31 : r ≤ 31 := by omega
        have HMK := hide' (fun w => markOf_any n w (by omega))
        rw [hm] at HMK
        have hm256 : m < 256 := by
          rw [← hm]
          have : 2 ^ (7 - n % 8) ≤ 2 ^ 7 := Nat.pow_le_pow_right (by omega) (by omega)
          omega
        have HST : Hid (((s.next b).fill r).mark m = (M.take (k + 1)).foldl SetS.step SetS.init) := by
          rw [← HS1.out]; unfold Hid SetS.step; rw [if_pos hty]; simp only [Int.toNat_natCast, hb, hr, hm]
        have HI : Hid (isTy (n : Int) = true) := hty
        have hn1' : 1 ≤ (n : Int) := hty1.1
        have hn2' : (n : Int) ≤ 65535 := hty1.2
        clear hty hb hr hm hty1 HS1 HS ht
        have HC : Hid ((b : Int) = s.blk ∧ s.next b = s ∨ (b : Int) ≠ s.blk ∧ s.next b = ⟨s.bytes, b, []⟩) := by
          unfold Hid SetS.next
          by_cases h : (b : Int) = s.blk
          · left; exact ⟨h, if_pos h⟩
          · right; exact ⟨h, if_neg h⟩
        rcases HC.out with ⟨hbk, HN⟩ | ⟨hbk, HN⟩
        · have hz : z = (s.done.length : Int) + 1 := HZ.out (by omega)
          subst hz
          obtain ⟨D, b', mk0⟩ := s
          obtain rfl : b' = (b : Int) := hbk.symm
          have hby : (⟨D, b, mk0⟩ : SetS).bytes = D ++ b :: mk0.length :: mk0 := bytes_pos
          have hbl0 : (⟨D, b, mk0⟩ : SetS).bytes.length = D.length + 2 + mk0.length := by rw [hby]; simp; omega
          obtain ⟨N, hN⟩ : ∃ N, (⟨D, b, mk0⟩ : SetS).bytes.length = N := ⟨_, rfl⟩
          rw [hby, ← hby, hN] at hown
          rw [hN] at hps hbl hbl0
          simp only [hN]
          obtain ⟨g4, rfl⟩ : ∃ g4, ps = some ⟨g4, 0, none⟩ := by
            rcases hshs with ⟨_, h⟩ | ⟨g, h, _⟩
            · rw [hN] at h; omega
            · exact ⟨g, h⟩
          clear hshs HC hbk
          have HOK : Hid (OkD D mk0) := ok_split HO.out
          go_wp2_with (go_at_call 44; refine (isType_any _ _).mono ?_; rintro e w4 ⟨rfl, rfl⟩; rw [HI.out])
          have hB4 := hBr
          have hmk32 : mk0.length ≤ 32 := HO.out.ml
          have hown4 : w4.ownsRow n1 5 1 (.slice (some ⟨g4, 0, none⟩) N cs) N (byts (D ++ b :: mk0.length :: mk0)) := by rw [← hby]; exact hown
          subst hbl0
          have hN0 : D.length + 2 + mk0.length ≤ 34 * k + 2 := by omega
          clear hown hBr hcell HZ HI hN hby HO hbl hps
          go_loopw [3] (fun sv wr => ∃ (mk : List Nat) (N g c : Nat), sv = .slice (some ⟨g, 0, none⟩) N c ∧ N = D.length + 2 + mk.length ∧ N ≤ c ∧ c ≤ 9223372036854775807 ∧ mk.length ≤ 32 ∧ Hid (Fills mk0 mk r) ∧ wr.ownsRow n1 5 1 (.slice (some ⟨g, 0, none⟩) N c) N (byts (D ++ b :: mk.length :: mk)) ∧ Below n1 w1 wr) (fun sv _ => D.length + 40 - slen sv)
          case atStart => exact ⟨mk0, _, g4, cs, rfl, rfl, (owns_cp hown4).1, (owns_cp hown4).2, hmk32, fills_start, hown4, hB4⟩
          case round =>
            clear hown4 hB4
            obtain ⟨mk, N, g5, c5, rfl, hN, hNc, hc5, hmk, HF, hown, hBr⟩ := hrel
            have hcz : wr.cell? ⟨g5, D.length + 1, none⟩ = some (.int .u8 (mk.length : Int)) := by
              rw [hown.cellAt (D.length + 1) (by omega)]
              have := at_len D mk b []
              rw [List.append_nil] at this
              simp only [byts, List.getElem?_map, this]; rfl
            by_cases hin : mk.length ≤ r
            · have hin' : mk.length ≤ 31 := by omega
              go_wp2_with (at_builtin; refine wpList_append_own _ rfl _ _ 56 rfl n1 5 i0 (.int .u8 0) 1 1 Tryz.underlying56 hi hz0 hz1 hz2 rfl (by decide) _ _ _ rfl (hown.alloc _) ⟨wr.heap.size, 0, none⟩ 1 1 [.int .u8 0] rfl rfl (cell_one_new _ _ _) (by simp [Value.oneCell']) (by unfold maxLen; omega) (by omega) (by have := hBr.size; simp; omega) ?_; intro v6 w6 hown6 hgrow6 _; have hB6 : Below n1 w1 w6 := below_app hBr (by omega) hown hgrow6; obtain ⟨g6, c6, rfl⟩ := owns_some hown6 (by omega); have hown7 := own_zero hown6; have hcz6 := cell_zero hown7 hN; have hfz6 := hown7.frozenAt (D.length + 1))
              subst hN
              refine ⟨⟨mk ++ [0], D.length + 2 + mk.length + 1, g6, c6, rfl, by simp; omega, (owns_cp hown7).1, (owns_cp hown7).2, by simp; omega, fills_up HF.out hin, step_row hown7, hB6.setCell (p := ⟨g6, D.length + 1, none⟩) (by show n1 ≤ g6; exact ownBlock_le hown7 rfl) _⟩, ?_⟩
              show D.length + 40 - (D.length + 2 + mk.length + 1) < D.length + 40 - (D.length + 2 + mk.length)
              omega
            · have hmr : r + 1 ≤ mk.length := by omega
              obtain ⟨N', hN'⟩ : ∃ N', N = N' + 1 := ⟨N - 1, by omega⟩
              obtain ⟨x, hx⟩ : ∃ x, mk.getD (mk.length - 1) 0 = x := ⟨_, rfl⟩
              have hcl : wr.cell? ⟨g5, N', none⟩ = some (.int .u8 (x : Int)) := cell_last hown hN hN' (by omega) hx
              have hfl := hown.frozenAt N'
              have HFA := fills_end HF.out hmr
              have HMA : Hid (∀ y ∈ mk, y < 256) := fills_lt HF.out HOK.out.2
              have hx256 : x < 256 := by rw [← hx]; exact getD_lt HMA.out _
              have hor : bits .or .u8 (x : Int) (m : Int) = ((x ||| m : Nat) : Int) := u8_or_nat _ _ hx256 hm256
              have hxm : x ||| m < 256 := Nat.or_lt_two_pow (n := 8) hx256 hm256
              have HE : Hid ((⟨D, b, mk.set (mk.length - 1) (x ||| m)⟩ : SetS) = (M.take (k + 1)).foldl SetS.step SetS.init) := by
                unfold Hid; rw [← HST.out, HN]; unfold SetS.fill SetS.mark; simp only [← HFA, hx]
              have hNi : (N : Int) - 1 = (N' : Int) := by omega
              have hNl : (N' : Int) < (N : Int) := by omega
              have hNl' : N' < N := by omega
              have hwr : IntKind.i64.wrap (N' : Int) = (N' : Int) := by simp [IntKind.wrap, IntKind.bits, IntKind.signed]; omega
              have HNN := hide' hN
              have HNN' := hide' hN'
              have hN9 : N ≤ 9223372036854775807 := by omega
              have mixed : Tryz.prog.follows Departure.mixedOrders = true := by kernel_rfl
              clear HFA
              go_wp2
              clear hcz hN hN'
              go_region_with_o (go_at_call 258; refine (HMK.out _).mono ?_; rintro e w5 ⟨rfl, rfl⟩)
              all_goals go_wp2
              all_goals exact ⟨⟨k + 1, ⟨D, b, mk.set (mk.length - 1) (x ||| m)⟩, (D.length : Int) + 1, rfl, rfl, rfl, by omega, HE, end_ok hb255 hmk HOK.out.1 HMA.out hxm, (fun _ => rfl), by rw [bytes_pos]; simp; omega, end_row hown HNN.out HNN'.out (by omega), Below.drew (hBr.setCell (p := ⟨g5, N', none⟩) (by show n1 ≤ g5; exact ownBlock_le hown rfl) _)⟩, by show L.length - ((k : Int) + 1).toNat < L.length - (k : Int).toNat; omega⟩
        · clear hshs HC
          go_wp2_with (first
            | (go_at_call 44; refine (isType_any _ _).mono ?_; rintro e w2 ⟨rfl, rfl⟩; rw [HI.out])
            | (at_builtin; refine wpList_append_own _ rfl _ _ 56 rfl n1 5 i0 (.int .u8 0) 1 1 Tryz.underlying56 hi hz0 hz1 hz2 rfl (by decide) _ _ _ rfl (hown.alloc _) ⟨w2.heap.size, 0, none⟩ 2 2 [.int .u8 (b : Int), .int .u8 0] rfl rfl (cell_two_new _ _ _ _) (by simp [Value.oneCell']) (by unfold maxLen; omega) (by omega) (by have := hBr.size; simp; omega) ?_; intro v4 w4 hown4 hgrow4 _; have hB4 : Below n1 w1 w4 := below_app hBr (by omega) hown hgrow4; obtain ⟨g4, cs, rfl⟩ := owns_some hown4 (by omega)))
          obtain ⟨D, hD⟩ : ∃ D, s.bytes = D := ⟨_, rfl⟩
          obtain ⟨mk0, hmk0⟩ : ∃ mk0 : List Nat, [] = mk0 := ⟨_, rfl⟩
          have HOK : Hid (OkD D mk0) := by rw [← hD, ← hmk0]; exact ⟨HO.out.lt, (fun x hx => by cases hx)⟩
          rw [hmk0, hD] at HN
          rw [hD] at hown4 hbl
          simp only [hD]
          rw [show ((D.length : Int) + 2 - 1) = (D.length : Int) + 1 by omega]
          have hmz : mk0.length = 0 := by rw [← hmk0]; rfl
          have hmk32 : mk0.length ≤ 32 := by omega
          have hN0 : D.length + 2 + mk0.length ≤ 34 * k + 2 := by omega
          have hown5 : w4.ownsRow n1 5 1 (.slice (some ⟨g4, 0, none⟩) (D.length + 2 + mk0.length) cs) (D.length + 2 + mk0.length) (byts (D ++ b :: mk0.length :: mk0)) := by
            have e : byts (D ++ b :: mk0.length :: mk0) = byts D ++ [.int .u8 (b : Int), .int .u8 0] := by rw [hmz, ← hmk0]; simp [byts]
            rw [e, hmz]; exact hown4
          rw [show D.length + 2 = D.length + 2 + mk0.length by omega]
          clear hown4
          have hown4 := hown5
          clear hown5 hown hBr hcell HZ HI HO hbl hps hgrow4 hmz hmk0 hD hbk
          go_loopw [3] (fun sv wr => ∃ (mk : List Nat) (N g c : Nat), sv = .slice (some ⟨g, 0, none⟩) N c ∧ N = D.length + 2 + mk.length ∧ N ≤ c ∧ c ≤ 9223372036854775807 ∧ mk.length ≤ 32 ∧ Hid (Fills mk0 mk r) ∧ wr.ownsRow n1 5 1 (.slice (some ⟨g, 0, none⟩) N c) N (byts (D ++ b :: mk.length :: mk)) ∧ Below n1 w1 wr) (fun sv _ => D.length + 40 - slen sv)
          case atStart => exact ⟨mk0, _, g4, cs, rfl, rfl, (owns_cp hown4).1, (owns_cp hown4).2, hmk32, fills_start, hown4, hB4⟩
          case round =>
            clear hown4 hB4
            obtain ⟨mk, N, g5, c5, rfl, hN, hNc, hc5, hmk, HF, hown, hBr⟩ := hrel
            have hcz : wr.cell? ⟨g5, D.length + 1, none⟩ = some (.int .u8 (mk.length : Int)) := by
              rw [hown.cellAt (D.length + 1) (by omega)]
              have := at_len D mk b []
              rw [List.append_nil] at this
              simp only [byts, List.getElem?_map, this]; rfl
            by_cases hin : mk.length ≤ r
            · have hin' : mk.length ≤ 31 := by omega
              go_wp2_with (at_builtin; refine wpList_append_own _ rfl _ _ 56 rfl n1 5 i0 (.int .u8 0) 1 1 Tryz.underlying56 hi hz0 hz1 hz2 rfl (by decide) _ _ _ rfl (hown.alloc _) ⟨wr.heap.size, 0, none⟩ 1 1 [.int .u8 0] rfl rfl (cell_one_new _ _ _) (by simp [Value.oneCell']) (by unfold maxLen; omega) (by omega) (by have := hBr.size; simp; omega) ?_; intro v6 w6 hown6 hgrow6 _; have hB6 : Below n1 w1 w6 := below_app hBr (by omega) hown hgrow6; obtain ⟨g6, c6, rfl⟩ := owns_some hown6 (by omega); have hown7 := own_zero hown6; have hcz6 := cell_zero hown7 hN; have hfz6 := hown7.frozenAt (D.length + 1))
              subst hN
              refine ⟨⟨mk ++ [0], D.length + 2 + mk.length + 1, g6, c6, rfl, by simp; omega, (owns_cp hown7).1, (owns_cp hown7).2, by simp; omega, fills_up HF.out hin, step_row hown7, hB6.setCell (p := ⟨g6, D.length + 1, none⟩) (by show n1 ≤ g6; exact ownBlock_le hown7 rfl) _⟩, ?_⟩
              show D.length + 40 - (D.length + 2 + mk.length + 1) < D.length + 40 - (D.length + 2 + mk.length)
              omega
            · have hmr : r + 1 ≤ mk.length := by omega
              obtain ⟨N', hN'⟩ : ∃ N', N = N' + 1 := ⟨N - 1, by omega⟩
              obtain ⟨x, hx⟩ : ∃ x, mk.getD (mk.length - 1) 0 = x := ⟨_, rfl⟩
              have hcl : wr.cell? ⟨g5, N', none⟩ = some (.int .u8 (x : Int)) := cell_last hown hN hN' (by omega) hx
              have hfl := hown.frozenAt N'
              have HFA := fills_end HF.out hmr
              have HMA : Hid (∀ y ∈ mk, y < 256) := fills_lt HF.out HOK.out.2
              have hx256 : x < 256 := by rw [← hx]; exact getD_lt HMA.out _
              have hor : bits .or .u8 (x : Int) (m : Int) = ((x ||| m : Nat) : Int) := u8_or_nat _ _ hx256 hm256
              have hxm : x ||| m < 256 := Nat.or_lt_two_pow (n := 8) hx256 hm256
              have HE : Hid ((⟨D, b, mk.set (mk.length - 1) (x ||| m)⟩ : SetS) = (M.take (k + 1)).foldl SetS.step SetS.init) := by
                unfold Hid; rw [← HST.out, HN]; unfold SetS.fill SetS.mark; simp only [← HFA, hx]
              have hNi : (N : Int) - 1 = (N' : Int) := by omega
              have hNl : (N' : Int) < (N : Int) := by omega
              have hNl' : N' < N := by omega
              have hwr : IntKind.i64.wrap (N' : Int) = (N' : Int) := by simp [IntKind.wrap, IntKind.bits, IntKind.signed]; omega
              have HNN := hide' hN
              have HNN' := hide' hN'
              have hN9 : N ≤ 9223372036854775807 := by omega
              have mixed : Tryz.prog.follows Departure.mixedOrders = true := by kernel_rfl
              clear HFA
              go_wp2
              clear hcz hN hN'
              go_region_with_o (go_at_call 258; refine (HMK.out _).mono ?_; rintro e w5 ⟨rfl, rfl⟩)
              all_goals go_wp2
              all_goals exact ⟨⟨k + 1, ⟨D, b, mk.set (mk.length - 1) (x ||| m)⟩, (D.length : Int) + 1, rfl, rfl, rfl, by omega, HE, end_ok hb255 hmk HOK.out.1 HMA.out hxm, (fun _ => rfl), by rw [bytes_pos]; simp; omega, end_row hown HNN.out HNN'.out (by omega), Below.drew (hBr.setCell (p := ⟨g5, N', none⟩) (by show n1 ≤ g5; exact ownBlock_le hown rfl) _)⟩, by show L.length - ((k : Int) + 1).toNat < L.length - (k : Int).toNat; omega⟩
      · have hstep : s.step t = s := by unfold SetS.step; rw [if_neg hty]
        have HI : Hid (isTy t = false) := by unfold Hid; cases h : isTy t with | true => exact absurd h hty | false => rfl
        have HS2 : Hid (s = (M.take (k + 1)).foldl SetS.step SetS.init) := by unfold Hid; rw [← HS1.out, hstep]
        clear hshs hty hstep HS1 HS
        go_wp2_with (go_at_call 44; refine (isType_any _ _).mono ?_; rintro e w2 ⟨rfl, rfl⟩; rw [HI.out])
        exact ⟨⟨k + 1, s, z, rfl, rfl, rfl, by omega, HS2, HO, HZ, by omega, hown, hBr⟩, by show L.length - ((k : Int) + 1).toNat < L.length - (k : Int).toNat; omega⟩
    · have hke : k = L.length := by omega
      subst hke
      have HS2 : Hid (s = M.foldl SetS.step SetS.init) := by unfold Hid; rw [HS.out, List.take_of_length_le (by omega)]
      have hcv : (convert 56 9 (.slice ps s.bytes.length cs)).run Tryz.prog wr = .ok (.string (bts s.bytes)) wr := str_owns hown HO.out.lt
      clear HS hshs
      go_wp2
      go_ret
      exact ⟨by unfold setB; rw [← HS2.out]; rfl, hBw.trans (hBr.mono (by rw [← hn1]; exact hBw.size))⟩
end Go.Proofs.YtiaccimdjfdkgaaGreatDoor

namespace Go.Proofs.YtiaccimdjfdkgaaGreatDoor
set_option linter.unusedVariables false
open Go.Proofs.YtiaccimdjfdkgaaGreatDoor.Nm

theorem bts_tail (l : List Nat) (k : Nat) (hk : k ≤ l.length) : (bts l).extract k (bts l).size = bts (l.drop k) := by
  conv => lhs; rw [← List.take_append_drop k l, bts_append]
  have : (bts (l.take k)).size = k := by rw [bts_size, List.length_take]; omega
  rw [ByteArray.extract_append_eq_right (by omega) (by rw [ByteArray.size_append])]
theorem bts_mid (A B C : List Nat) : (bts (A ++ B ++ C)).extract A.length (A.length + B.length) = bts B := by
  have hA : (bts A).size = A.length := bts_size _
  have hB : (bts B).size = B.length := bts_size _
  rw [bts_append, bts_append]
  rw [ByteArray.append_assoc, ByteArray.extract_append, hA, show A.length - A.length = 0 by omega, show A.length + B.length - A.length = B.length by omega]
  have e1 : (bts A).extract A.length (A.length + B.length) = .empty := by
    apply ByteArray.ext; simp [← hA]
  rw [e1, ByteArray.empty_append]
  rw [ByteArray.extract_append, hB, show 0 - B.length = 0 by omega, show B.length - B.length = 0 by omega]
  have e2 : (bts C).extract 0 0 = .empty := by apply ByteArray.ext; simp
  rw [e2, ByteArray.append_empty, ← hB, ByteArray.extract_zero_size]

/-- a block is read, whatever follows -/
theorem blk_parse (last : Int) (b : Nat) (mk tail : List Nat) (hl : last < (b : Int)) (h1 : 1 ≤ mk.length) (h32 : mk.length ≤ 32) (hz : mk.getD (mk.length - 1) 0 ≠ 0) (hb : b < 256) (hm : ∀ x ∈ mk, x < 256) (ht : ∀ x ∈ tail, x < 256) :
    typS last (bts (b :: mk.length :: mk ++ tail)) = (typS (b : Int) (bts tail)).map (blkT b (bts mk) (8 * mk.length) ++ ·) := by
  have hall : ∀ x ∈ b :: mk.length :: mk ++ tail, x < 256 := by
    intro x hx
    simp only [List.cons_append, List.mem_cons, List.mem_append] at hx
    rcases hx with h | h | h | h
    · omega
    · omega
    · exact hm x h
    · exact ht x h
  have hlen : (b :: mk.length :: mk ++ tail).length = 2 + mk.length + tail.length := by simp; omega
  have ez : (bts (b :: mk.length :: mk ++ tail)).size = 2 + mk.length + tail.length := by rw [bts_size, hlen]
  have e0 : bt (bts (b :: mk.length :: mk ++ tail)) 0 = b := by rw [bts_bt _ hall 0 (by omega)]; rfl
  have e1 : bt (bts (b :: mk.length :: mk ++ tail)) 1 = mk.length := by rw [bts_bt _ hall 1 (by omega)]; rfl
  have e2 : bt (bts (b :: mk.length :: mk ++ tail)) (1 + mk.length) = mk.getD (mk.length - 1) 0 := by
    rw [bts_bt _ hall _ (by omega)]
    have : (b :: mk.length :: mk ++ tail)[1 + mk.length]? = some (mk.getD (mk.length - 1) 0) := by
      rw [show 1 + mk.length = (mk.length - 1) + 2 by omega]
      simp only [List.cons_append, List.getElem?_cons_succ]
      rw [List.getElem?_append_left (by omega), List.getD_eq_getElem?_getD, List.getElem?_eq_getElem (by omega)]; rfl
    rw [List.getElem?_eq_getElem (by omega)] at this
    simpa using this
  have x1 : (bts (b :: mk.length :: mk ++ tail)).extract 2 (2 + mk.length) = bts mk := bts_mid [b, mk.length] mk tail
  have x2 : (bts (b :: mk.length :: mk ++ tail)).extract (2 + mk.length) (bts (b :: mk.length :: mk ++ tail)).size = bts tail := by
    rw [bts_tail _ _ (by omega)]
    congr 1
    rw [show 2 + mk.length = mk.length + 2 by omega]
    simp
  rw [typS_step (by omega), e0, e1, e2, x1, x2, if_neg (by omega), if_neg (by omega), if_neg (by omega), if_neg hz]

/-- bit i of a block's bytes -/
def bitL (mk : List Nat) (i : Nat) : Nat := mk.getD (i / 8) 0 / 2 ^ (7 - i % 8) % 2
theorem mem_blkT {b : Nat} {s : ByteArray} {x : Nat} : ∀ {k : Nat}, x ∈ blkT b s k ↔ ∃ i, i < k ∧ x = b * 256 + i ∧ bitAt s i = 1
  | 0 => ⟨fun h => (by cases h), fun ⟨i, h, _⟩ => by omega⟩
  | k + 1 => by
    simp only [blkT]
    split
    · rename_i hb
      rw [List.mem_append, mem_blkT (k := k), List.mem_singleton]
      constructor
      · rintro (⟨i, h1, h2, h3⟩ | h)
        · exact ⟨i, by omega, h2, h3⟩
        · exact ⟨k, by omega, h, hb⟩
      · rintro ⟨i, h1, h2, h3⟩
        by_cases h : i = k
        · subst h; exact .inr h2
        · exact .inl ⟨i, by omega, h2, h3⟩
    · rename_i hb
      rw [mem_blkT (k := k)]
      constructor
      · rintro ⟨i, h1, h2, h3⟩; exact ⟨i, by omega, h2, h3⟩
      · rintro ⟨i, h1, h2, h3⟩
        by_cases h : i = k
        · subst h; exact absurd h3 hb
        · exact ⟨i, by omega, h2, h3⟩
theorem rise_blkT {b : Nat} {s : ByteArray} : ∀ {k : Nat}, (blkT b s k).Pairwise (· < ·)
  | 0 => List.Pairwise.nil
  | k + 1 => by
    simp only [blkT]
    split
    · rw [List.pairwise_append]
      refine ⟨rise_blkT, List.pairwise_singleton _ _, fun x hx y hy => ?_⟩
      obtain ⟨i, h1, h2, _⟩ := mem_blkT.1 hx
      rw [List.mem_singleton] at hy
      omega
    · exact rise_blkT
theorem bitAt_bts {mk : List Nat} (hm : ∀ x ∈ mk, x < 256) {i : Nat} (hi : i < 8 * mk.length) : bitAt (bts mk) i = bitL mk i := by
  unfold bitAt bitL
  rw [bts_bt _ hm _ (by omega), List.getD_eq_getElem?_getD, List.getElem?_eq_getElem (by omega)]; rfl
theorem bitL_out {mk : List Nat} {i : Nat} (hi : 8 * mk.length ≤ i) : bitL mk i = 0 := by
  unfold bitL
  rw [List.getD_eq_getElem?_getD, List.getElem?_eq_none (by omega)]; simp
theorem mem_block {b : Nat} {mk : List Nat} (hm : ∀ x ∈ mk, x < 256) (h32 : mk.length ≤ 32) {x : Nat} : x ∈ blkT b (bts mk) (8 * mk.length) ↔ x / 256 = b ∧ bitL mk (x % 256) = 1 := by
  rw [mem_blkT]
  constructor
  · rintro ⟨i, h1, h2, h3⟩
    rw [bitAt_bts hm h1] at h3
    rw [show x % 256 = i by omega]
    exact ⟨by omega, h3⟩
  · rintro ⟨h1, h2⟩
    have hi : x % 256 < 8 * mk.length := by
      rcases Nat.lt_or_ge (x % 256) (8 * mk.length) with h | h
      · exact h
      · rw [bitL_out h] at h2; omega
    exact ⟨x % 256, hi, by omega, by rw [bitAt_bts hm hi]; exact h2⟩

theorem or_bit (a p q : Nat) : (a ||| 2 ^ p) / 2 ^ q % 2 = 1 ↔ a / 2 ^ q % 2 = 1 ∨ p = q := by
  have h1 : ∀ x : Nat, (x / 2 ^ q % 2 = 1) ↔ x.testBit q = true := fun x => by rw [Nat.testBit_eq_decide_div_mod_eq]; simp
  rw [h1, h1, Nat.testBit_or, Nat.testBit_two_pow]
  simp
/-- a bit is set behind the bytes so far -/
theorem bit_mark (mk : List Nat) (n i : Nat) (hl : mk.length ≤ n % 256 / 8 + 1) (hi : i < 256) :
    let mk1 := mk ++ List.replicate (n % 256 / 8 + 1 - mk.length) 0
    bitL (mk1.set (mk1.length - 1) (mk1.getD (mk1.length - 1) 0 ||| 2 ^ (7 - n % 8))) i = 1 ↔ bitL mk i = 1 ∨ i = n % 256 := by
  intro mk1
  have hl1 : mk1.length = n % 256 / 8 + 1 := by simp only [mk1, List.length_append, List.length_replicate]; omega
  have hg : ∀ j, mk1.getD j 0 = mk.getD j 0 := fun j => by
    simp only [mk1, List.getD_eq_getElem?_getD]
    by_cases h : j < mk.length
    · rw [List.getElem?_append_left h]
    · rw [List.getElem?_append_right (by omega), List.getElem?_eq_none (l := mk) (by omega), List.getElem?_replicate]
      split <;> rfl
  unfold bitL
  by_cases h : i / 8 = n % 256 / 8
  · have e : (mk1.set (mk1.length - 1) (mk1.getD (mk1.length - 1) 0 ||| 2 ^ (7 - n % 8))).getD (i / 8) 0 = mk.getD (i / 8) 0 ||| 2 ^ (7 - n % 8) := by
      rw [List.getD_eq_getElem?_getD, show i / 8 = mk1.length - 1 by omega, List.getElem?_set_self (by omega), hg]; rfl
    rw [e, or_bit]
    constructor
    · rintro (h' | h')
      · exact .inl h'
      · exact .inr (by omega)
    · rintro (h' | h')
      · exact .inl h'
      · exact .inr (by omega)
  · have e : (mk1.set (mk1.length - 1) (mk1.getD (mk1.length - 1) 0 ||| 2 ^ (7 - n % 8))).getD (i / 8) 0 = mk.getD (i / 8) 0 := by
      rw [List.getD_eq_getElem?_getD, List.getElem?_set_ne (by omega), ← List.getD_eq_getElem?_getD, hg]
    rw [e]
    constructor
    · exact .inl
    · rintro (h' | h')
      · exact h'
      · omega
end Go.Proofs.YtiaccimdjfdkgaaGreatDoor

namespace Go.Proofs.YtiaccimdjfdkgaaGreatDoor
set_option linter.unusedVariables false
open Go.Proofs.YtiaccimdjfdkgaaGreatDoor.Nm

/-- the blocks that are done, and the bytes of the one under way: what they tell -/
structure Pre (P : List Int) (D mk : List Nat) (b : Nat) (last : Int) (UD : List Nat) : Prop where
  low : -1 ≤ last
  lt : last < (b : Int)
  dlen : D.length ≤ 34 * b
  dlt : ∀ x ∈ D, x < 256
  mlt : ∀ x ∈ mk, x < 256
  parse : ∀ tail : List Nat, (∀ x ∈ tail, x < 256) → typS (-1) (bts (D ++ tail)) = (typS last (bts tail)).map (UD ++ ·)
  rise : UD.Pairwise (· < ·)
  below : ∀ x ∈ UD, x < b * 256
  mem : ∀ n : Nat, (n ∈ UD ∨ (n / 256 = b ∧ bitL mk (n % 256) = 1)) ↔ ((n : Int) ∈ P ∧ isTy n = true)
/-- what holds of a set under way -/
def Inv (P : List Int) (s : SetS) : Prop :=
  (s = SetS.init ∧ ∀ t ∈ P, isTy t = false) ∨
  ∃ (D mk : List Nat) (b : Nat) (last : Int) (UD : List Nat) (top : Nat), s = ⟨D, b, mk⟩ ∧ Pre P D mk b last UD ∧ b = top / 256 ∧ mk.length = top % 256 / 8 + 1 ∧ top ≤ 65535 ∧ mk.getD (mk.length - 1) 0 ≠ 0 ∧ (top : Int) ∈ P

theorem pre_mark {P : List Int} {D mk : List Nat} {last : Int} {UD : List Nat} {n : Nat} (h : Pre P D mk (n / 256) last UD) (hn1 : 1 ≤ n) (hn : n ≤ 65535) (hl : mk.length ≤ n % 256 / 8 + 1) :
    Inv (P ++ [(n : Int)]) ((SetS.fill ⟨D, (n / 256 : Nat), mk⟩ (n % 256 / 8)).mark (2 ^ (7 - n % 8))) := by
  right
  have hty : isTy (n : Int) = true := by unfold isTy; exact decide_eq_true (by omega)
  have hp : 2 ^ (7 - n % 8) ≤ 2 ^ 7 := Nat.pow_le_pow_right (by omega) (by omega)
  obtain ⟨mk1, hmk1⟩ : ∃ mk1, mk ++ List.replicate (n % 256 / 8 + 1 - mk.length) 0 = mk1 := ⟨_, rfl⟩
  have hl1 : mk1.length = n % 256 / 8 + 1 := by rw [← hmk1, List.length_append, List.length_replicate]; omega
  have hm1 : ∀ x ∈ mk1, x < 256 := fun x hx => by
    rw [← hmk1] at hx
    rcases List.mem_append.1 hx with h' | h'
    · exact h.mlt x h'
    · have := (List.mem_replicate.1 h').2; omega
  have hv : mk1.getD (mk1.length - 1) 0 ||| 2 ^ (7 - n % 8) < 256 := Nat.or_lt_two_pow (n := 8) (getD_lt hm1 _) (by omega)
  have hb := bit_mark mk n
  simp only [hmk1] at hb
  refine ⟨D, mk1.set (mk1.length - 1) (mk1.getD (mk1.length - 1) 0 ||| 2 ^ (7 - n % 8)), n / 256, last, UD, n, ?_, ⟨h.low, h.lt, h.dlen, h.dlt, ?_, h.parse, h.rise, h.below, ?_⟩, rfl, ?_, hn, ?_, by simp⟩
  · unfold SetS.fill SetS.mark; simp only [hmk1]
  · intro x hx
    rcases List.mem_or_eq_of_mem_set hx with h' | h'
    · exact hm1 x h'
    · omega
  · intro x
    rw [hb (x % 256) hl (by omega)]
    have := h.mem x
    constructor
    · rintro (h' | ⟨h1, h2 | h2⟩)
      · obtain ⟨a, c⟩ := this.1 (.inl h'); exact ⟨List.mem_append_left _ a, c⟩
      · obtain ⟨a, c⟩ := this.1 (.inr ⟨h1, h2⟩); exact ⟨List.mem_append_left _ a, c⟩
      · have : x = n := by omega
        subst this
        exact ⟨by simp, hty⟩
    · rintro ⟨a, c⟩
      rcases List.mem_append.1 a with a | a
      · rcases this.2 ⟨a, c⟩ with h' | ⟨h1, h2⟩
        · exact .inl h'
        · exact .inr ⟨h1, .inl h2⟩
      · have : x = n := by rw [List.mem_singleton] at a; omega
        subst this
        exact .inr ⟨rfl, .inr rfl⟩
  · rw [List.length_set]; exact hl1
  · rw [List.length_set, List.getD_eq_getElem?_getD, List.getElem?_set_self (by omega)]
    show mk1.getD (mk1.length - 1) 0 ||| 2 ^ (7 - n % 8) ≠ 0
    intro e
    have h0 : 0 < 2 ^ (7 - n % 8) := Nat.two_pow_pos _
    have : 2 ^ (7 - n % 8) ≤ mk1.getD (mk1.length - 1) 0 ||| 2 ^ (7 - n % 8) := Nat.right_le_or
    omega

theorem inv_step {P : List Int} {s : SetS} {t : Int} (h : Inv P s) (ht : ∀ x ∈ P, x ≤ t) : Inv (P ++ [t]) (s.step t) := by
  by_cases hty : isTy t = true
  · have h1 : 1 ≤ t ∧ t ≤ 65535 := of_decide_eq_true hty
    obtain ⟨n, hn⟩ : ∃ n : Nat, t = (n : Int) := ⟨t.toNat, by omega⟩
    subst hn
    have e : s.step (n : Int) = ((s.next (n / 256)).fill (n % 256 / 8)).mark (2 ^ (7 - n % 8)) := by unfold SetS.step; rw [if_pos hty]; simp only [Int.toNat_natCast]
    rw [e]
    rcases h with ⟨rfl, hP⟩ | ⟨D, mk, b, last, UD, top, rfl, hpre, hb, hml, ht5, hz, hmem⟩
    · have e2 : SetS.init.next (n / 256) = ⟨[], (n / 256 : Nat), []⟩ := by
        unfold SetS.next; rw [if_neg (by show ¬ (((n / 256 : Nat) : Int) = -1); omega)]; rfl
      rw [e2]
      refine pre_mark (last := -1) (UD := []) ⟨by omega, by omega, by simp, (fun x hx => by cases hx), (fun x hx => by cases hx), (fun tail _ => by simp), List.Pairwise.nil, (fun x hx => by cases hx), ?_⟩ (by omega) (by omega) (by simp)
      intro x
      constructor
      · rintro (h | ⟨_, h⟩)
        · cases h
        · unfold bitL at h; simp at h
      · rintro ⟨a, c⟩
        rw [hP _ a] at c; cases c
    · have htop : (top : Int) ≤ n := ht _ hmem
      by_cases hbk : n / 256 = b
      · subst hbk
        have e2 : SetS.next ⟨D, (n / 256 : Nat), mk⟩ (n / 256) = ⟨D, (n / 256 : Nat), mk⟩ := by unfold SetS.next; rw [if_pos rfl]
        rw [e2]
        exact pre_mark hpre (by omega) (by omega) (by omega)
      · have e2 : SetS.next ⟨D, (b : Nat), mk⟩ (n / 256) = ⟨D ++ b :: mk.length :: mk, (n / 256 : Nat), []⟩ := by
          unfold SetS.next; rw [if_neg (by show ¬ (((n / 256 : Nat) : Int) = (b : Int)); omega), bytes_pos]
        rw [e2]
        have h32 : mk.length ≤ 32 := by omega
        have hnb : b < n / 256 := by omega
        refine pre_mark (last := b) (UD := UD ++ blkT b (bts mk) (8 * mk.length)) ⟨by omega, by omega, by have := hpre.dlen; simp; omega, ?_, (fun x hx => by cases hx), ?_, ?_, ?_, ?_⟩ (by omega) (by omega) (by simp)
        · intro x hx
          rcases List.mem_append.1 hx with h | h
          · exact hpre.dlt x h
          · rcases List.mem_cons.1 h with h | h
            · omega
            · rcases List.mem_cons.1 h with h | h
              · omega
              · exact hpre.mlt x h
        · intro tail htl
          rw [List.append_assoc, hpre.parse _ ?_]
          · rw [blk_parse last b mk tail hpre.lt (by omega) h32 hz (by omega) hpre.mlt htl, Option.map_map]
            congr 1; funext q; simp
          · intro x hx
            simp only [List.cons_append, List.mem_cons, List.mem_append] at hx
            rcases hx with h | h | h | h
            · omega
            · omega
            · exact hpre.mlt x h
            · exact htl x h
        · rw [List.pairwise_append]
          refine ⟨hpre.rise, rise_blkT, fun x hx y hy => ?_⟩
          have := hpre.below x hx
          obtain ⟨i, _, h2, _⟩ := mem_blkT.1 hy
          omega
        · intro x hx
          rcases List.mem_append.1 hx with h | h
          · exact Nat.lt_of_lt_of_le (hpre.below x h) (Nat.mul_le_mul_right _ (Nat.le_of_lt hnb))
          · have := (mem_block hpre.mlt h32).1 h
            have : (b + 1) * 256 ≤ n / 256 * 256 := Nat.mul_le_mul_right _ hnb
            omega
        · intro x
          rw [← hpre.mem x, List.mem_append, mem_block hpre.mlt h32]
          constructor
          · rintro (h | ⟨_, h⟩)
            · exact h
            · unfold bitL at h; simp at h
          · intro h; exact .inl h
  · have e : s.step t = s := by unfold SetS.step; rw [if_neg hty]
    rw [e]
    rcases h with ⟨rfl, hP⟩ | ⟨D, mk, b, last, UD, top, rfl, hpre, hb, hml, ht5, hz, hmem⟩
    · refine .inl ⟨rfl, fun x hx => ?_⟩
      rcases List.mem_append.1 hx with h | h
      · exact hP x h
      · rw [List.mem_singleton] at h; subst h; simpa using hty
    · refine .inr ⟨D, mk, b, last, UD, top, rfl, ⟨hpre.low, hpre.lt, hpre.dlen, hpre.dlt, hpre.mlt, hpre.parse, hpre.rise, hpre.below, fun n => ?_⟩, hb, hml, ht5, hz, List.mem_append_left _ hmem⟩
      rw [hpre.mem n]
      constructor
      · rintro ⟨a, c⟩; exact ⟨List.mem_append_left _ a, c⟩
      · rintro ⟨a, c⟩
        rcases List.mem_append.1 a with a | a
        · exact ⟨a, c⟩
        · rw [List.mem_singleton] at a; rw [a] at c; exact absurd c hty

theorem inv_all : ∀ (M P : List Int) (s : SetS), Inv P s → (P ++ M).Pairwise (· ≤ ·) → Inv (P ++ M) (M.foldl SetS.step s)
  | [], P, s, h, _ => by simpa using h
  | t :: M, P, s, h, hs => by
    have h1 : ∀ x ∈ P, x ≤ t := fun x hx => (List.pairwise_append.1 hs).2.2 x hx t (List.mem_cons_self ..)
    have := inv_all M (P ++ [t]) (s.step t) (inv_step h h1) (by simpa using hs)
    simpa using this
/-- the types of what Set makes -/
theorem set_types (M : List Int) (hs : M.Pairwise (· ≤ ·)) : ∃ U : List Nat, typB (bts (setB M)) = some U ∧ U.Pairwise (· < ·) ∧ (∀ n : Nat, n ∈ U ↔ ((n : Int) ∈ M ∧ isTy n = true)) ∧ (setB M).length ≤ 8704 := by
  have h := inv_all M [] SetS.init (.inl ⟨rfl, fun x hx => by cases hx⟩) (by simpa using hs)
  rw [List.nil_append] at h
  rcases h with ⟨e, hP⟩ | ⟨D, mk, b, last, UD, top, e, hpre, hb, hml, ht5, hz, hmem⟩
  · refine ⟨[], ?_, List.Pairwise.nil, fun n => ⟨fun h => (by cases h), fun ⟨a, c⟩ => ?_⟩, by unfold setB; rw [e]; decide⟩
    · unfold setB; rw [e]; exact typB_some (typS_nil rfl) (by simp)
    · rw [hP _ a] at c; cases c
  · have h32 : mk.length ≤ 32 := by omega
    have hmm : ∀ n : Nat, n ∈ UD ++ blkT b (bts mk) (8 * mk.length) ↔ ((n : Int) ∈ M ∧ isTy n = true) := fun n => by
      rw [← hpre.mem n, List.mem_append, mem_block hpre.mlt h32]
    have hp : typS (-1) (bts (setB M)) = some (UD ++ blkT b (bts mk) (8 * mk.length)) := by
      unfold setB; rw [e, bytes_pos, hpre.parse _ ?_]
      · have := blk_parse last b mk [] hpre.lt (by omega) h32 hz (by omega) hpre.mlt (fun x hx => by cases hx)
        rw [List.append_nil] at this
        rw [this, typS_nil rfl]; simp
      · intro x hx
        rcases List.mem_cons.1 hx with h | h
        · omega
        · rcases List.mem_cons.1 h with h | h
          · omega
          · exact hpre.mlt x h
    refine ⟨_, typB_some hp ?_, ?_, hmm, by unfold setB; rw [e, bytes_pos]; have := hpre.dlen; simp; omega⟩
    · intro h0
      have := (hmm 0).1 (List.mem_of_mem_head? h0)
      have h2 := this.2
      revert h2; decide
    · rw [List.pairwise_append]
      refine ⟨hpre.rise, rise_blkT, fun x hx y hy => ?_⟩
      have := hpre.below x hx
      obtain ⟨i, _, h2, _⟩ := mem_blkT.1 hy
      omega

/-- two rising lists with the same members are one -/
theorem rise_eq : ∀ (A B : List Nat), A.Pairwise (· < ·) → B.Pairwise (· < ·) → (∀ n, n ∈ A ↔ n ∈ B) → A = B
  | [], [], _, _, _ => rfl
  | [], b :: B, _, _, h => by have := (h b).2 (List.mem_cons_self ..); cases this
  | a :: A, [], _, _, h => by have := (h a).1 (List.mem_cons_self ..); cases this
  | a :: A, b :: B, hA, hB, h => by
    rw [List.pairwise_cons] at hA hB
    have hab : a = b := by
      rcases List.mem_cons.1 ((h a).1 (List.mem_cons_self ..)) with h1 | h1
      · exact h1
      · rcases List.mem_cons.1 ((h b).2 (List.mem_cons_self ..)) with h2 | h2
        · exact h2.symm
        · have := hB.1 a h1; have := hA.1 b h2; omega
    subst hab
    rw [rise_eq A B hA.2 hB.2 fun n => ?_]
    constructor
    · intro hn
      rcases List.mem_cons.1 ((h n).1 (List.mem_cons_of_mem _ hn)) with h1 | h1
      · have := hA.1 n hn; omega
      · exact h1
    · intro hn
      rcases List.mem_cons.1 ((h n).2 (List.mem_cons_of_mem _ hn)) with h1 | h1
      · have := hB.1 n hn; omega
      · exact h1
theorem rise_len : ∀ (A : List Nat) (lo hi : Nat), A.Pairwise (· < ·) → (∀ x ∈ A, lo ≤ x ∧ x < hi) → lo ≤ hi → A.length + lo ≤ hi
  | [], lo, hi, _, _, h => by simpa using h
  | a :: A, lo, hi, hp, hx, _ => by
    rw [List.pairwise_cons] at hp
    have ha := hx a (List.mem_cons_self ..)
    have := rise_len A (a + 1) hi hp.2 (fun x h => ⟨hp.1 x h, (hx x (List.mem_cons_of_mem _ h)).2⟩) ha.2
    rw [List.length_cons]; omega
theorem step_twice (s : SetS) (t : Int) : (s.step t).step t = s.step t := by
  by_cases hty : isTy t = true
  · have e : ∀ s : SetS, s.step t = ((s.next (t.toNat / 256)).fill (t.toNat % 256 / 8)).mark (2 ^ (7 - t.toNat % 8)) := fun s => by unfold SetS.step; rw [if_pos hty]
    have hbk : (s.next (t.toNat / 256)).blk = ((t.toNat / 256 : Nat) : Int) := by
      unfold SetS.next
      by_cases h : ((t.toNat / 256 : Nat) : Int) = s.blk
      · rw [if_pos h]; exact h.symm
      · rw [if_neg h]
    rw [e s]
    generalize s.next (t.toNat / 256) = s1 at hbk ⊢
    obtain ⟨D, b, mk⟩ := s1
    obtain rfl : b = ((t.toNat / 256 : Nat) : Int) := hbk
    rw [e]
    unfold SetS.fill SetS.mark
    simp only
    obtain ⟨mk1, hmk1⟩ : ∃ mk1, mk ++ List.replicate (t.toNat % 256 / 8 + 1 - mk.length) 0 = mk1 := ⟨_, rfl⟩
    have hl1 : t.toNat % 256 / 8 + 1 ≤ mk1.length := by rw [← hmk1, List.length_append, List.length_replicate]; omega
    rw [hmk1]
    have e2 : ∀ mk2 : List Nat, SetS.next ⟨D, ((t.toNat / 256 : Nat) : Int), mk2⟩ (t.toNat / 256) = ⟨D, ((t.toNat / 256 : Nat) : Int), mk2⟩ := fun mk2 => by unfold SetS.next; rw [if_pos rfl]
    rw [e2]
    simp only [List.length_set]
    rw [show t.toNat % 256 / 8 + 1 - mk1.length = 0 by omega]
    simp only [List.replicate_zero, List.append_nil, List.length_set, List.set_set]
    congr 2
    rw [List.getD_eq_getElem?_getD, List.getElem?_set_self (by omega)]
    show mk1.getD (mk1.length - 1) 0 ||| 2 ^ (7 - t.toNat % 8) ||| 2 ^ (7 - t.toNat % 8) = _
    rw [Nat.or_assoc, Nat.or_self]
  · have e : ∀ s : SetS, s.step t = s := fun s => by unfold SetS.step; rw [if_neg hty]
    rw [e, e]
/-- a rising list does what the list does -/
theorem thin : ∀ M : List Int, M.Pairwise (· ≤ ·) → ∃ V : List Nat, V.Pairwise (· < ·) ∧ (∀ n : Nat, n ∈ V ↔ ((n : Int) ∈ M ∧ isTy n = true)) ∧ ∀ s, (V.map (fun n : Nat => (n : Int))).foldl SetS.step s = M.foldl SetS.step s
  | [], _ => ⟨[], List.Pairwise.nil, fun n => ⟨fun h => (by cases h), fun ⟨h, _⟩ => by cases h⟩, fun s => rfl⟩
  | t :: M, hs => by
    rw [List.pairwise_cons] at hs
    obtain ⟨V, h1, h2, h3⟩ := thin M hs.2
    by_cases hty : isTy t = true
    · have hb : 1 ≤ t ∧ t ≤ 65535 := of_decide_eq_true hty
      obtain ⟨n, hn⟩ : ∃ n : Nat, t = (n : Int) := ⟨t.toNat, by omega⟩
      subst hn
      by_cases hin : n ∈ V
      · refine ⟨V, h1, fun x => ?_, fun s => ?_⟩
        · rw [h2 x, List.mem_cons]
          constructor
          · rintro ⟨a, c⟩; exact ⟨.inr a, c⟩
          · rintro ⟨a | a, c⟩
            · have : x = n := by omega
              subst this; exact ⟨((h2 x).1 hin).1, c⟩
            · exact ⟨a, c⟩
        · cases V with
          | nil => cases hin
          | cons v V =>
            have hv : v = n := by
              have hv1 := ((h2 v).1 (List.mem_cons_self ..)).1
              have := hs.1 _ hv1
              rcases List.mem_cons.1 hin with h | h
              · exact h.symm
              · have := (List.pairwise_cons.1 h1).1 n h; omega
            subst hv
            have := h3 (s.step (v : Int))
            simp only [List.map_cons, List.foldl_cons] at this ⊢
            rw [step_twice] at this
            exact this
      · refine ⟨n :: V, ?_, fun x => ?_, fun s => ?_⟩
        · rw [List.pairwise_cons]
          refine ⟨fun v hv => ?_, h1⟩
          have := hs.1 _ ((h2 v).1 hv).1
          have : v ≠ n := fun e => hin (e ▸ hv)
          omega
        · rw [List.mem_cons, List.mem_cons, h2 x]
          constructor
          · rintro (h | ⟨a, c⟩)
            · subst h; exact ⟨.inl rfl, hty⟩
            · exact ⟨.inr a, c⟩
          · rintro ⟨a | a, c⟩
            · exact .inl (by omega)
            · exact .inr ⟨a, c⟩
        · simp only [List.map_cons, List.foldl_cons]; exact h3 _
    · refine ⟨V, h1, fun x => ?_, fun s => ?_⟩
      · rw [h2 x, List.mem_cons]
        constructor
        · rintro ⟨a, c⟩; exact ⟨.inr a, c⟩
        · rintro ⟨a | a, c⟩
          · rw [a] at c; exact absurd c hty
          · exact ⟨a, c⟩
      · rw [h3 s, List.foldl_cons]
        congr 1
        unfold SetS.step; rw [if_neg hty]
/-- Set of the types of a set -/
theorem set_again {M : List Int} (hs : M.Pairwise (· ≤ ·)) {U : List Nat} (hU : U.Pairwise (· < ·)) (hm : ∀ n : Nat, n ∈ U ↔ ((n : Int) ∈ M ∧ isTy n = true)) : setB (U.map (fun n : Nat => (n : Int))) = setB M := by
  obtain ⟨V, h1, h2, h3⟩ := thin M hs
  have : U = V := rise_eq U V hU h1 fun n => (hm n).trans (h2 n).symm
  subst this
  unfold setB; rw [h3]
theorem sort_rising {U : List Nat} (hU : U.Pairwise (· < ·)) : (U.map (fun n : Nat => (n : Int))).mergeSort (fun x y => decide (x ≤ y)) = U.map (fun n : Nat => (n : Int)) := by
  apply List.mergeSort_of_pairwise
  rw [List.pairwise_map]
  exact hU.imp (fun h => by simp; omega)
theorem sort_sorted (L : List Int) : (L.mergeSort (fun x y => decide (x ≤ y))).Pairwise (· ≤ ·) := by
  have := List.pairwise_mergeSort (le := fun (x y : Int) => decide (x ≤ y)) (fun a b c h1 h2 => by simp at *; omega) (fun a b => by simp; omega) L
  exact this.imp (fun h => by simpa using h)
/-- what the law asks of a list's set -/
theorem set_law (L : List Int) : ∃ U : List Nat, typB (bts (setB (L.mergeSort (fun x y => decide (x ≤ y))))) = some U ∧ U.Pairwise (· < ·) ∧ (∀ n : Nat, n ∈ U ↔ ((n : Int) ∈ L ∧ isTy n = true)) ∧ setB ((U.map (fun n : Nat => (n : Int))).mergeSort (fun x y => decide (x ≤ y))) = setB (L.mergeSort (fun x y => decide (x ≤ y))) ∧ (setB (L.mergeSort (fun x y => decide (x ≤ y)))).length ≤ 8704 ∧ U.length ≤ 65536 := by
  obtain ⟨U, h1, h2, h3, h4⟩ := set_types _ (sort_sorted L)
  refine ⟨U, h1, h2, fun n => ?_, ?_, h4, ?_⟩
  · rw [h3 n, List.mem_mergeSort]
  · rw [sort_rising h2]; exact set_again (sort_sorted L) h2 h3
  · have := rise_len U 0 65536 h2 (fun x hx => ⟨Nat.zero_le _, by have := of_decide_eq_true ((h3 x).1 hx).2; omega⟩) (by omega)
    omega
theorem set_first : ∃ U, (setB (([46, 1, 15, 1] : List Int).mergeSort (fun x y => decide (x ≤ y)))).length ≤ 8704 ∧ typB (bts (setB (([46, 1, 15, 1] : List Int).mergeSort (fun x y => decide (x ≤ y))))) = some U ∧ U = [1, 15, 46] := by
  obtain ⟨U, h1, h2, h3, _, h4, _⟩ := set_law [46, 1, 15, 1]
  refine ⟨U, h4, h1, rise_eq _ _ h2 (by simp) fun n => ?_⟩
  rw [h3 n]
  unfold isTy
  simp
  omega
end Go.Proofs.YtiaccimdjfdkgaaGreatDoor

namespace Go.Proofs.YtiaccimdjfdkgaaGreatDoor
set_option linter.unusedVariables false
open Go.RowKit Go.Shelf Go.Proofs.YtiaccimdjfdkgaaGreatDoor.Nm

/-- a set's types rise -/
theorem typF_rise : ∀ (f : Nat) (last : Int) (s : ByteArray) (l : List Nat), -1 ≤ last → typF f last s = some l → l.Pairwise (· < ·) ∧ ∀ x ∈ l, (last + 1) * 256 ≤ (x : Int)
  | 0, last, s, l, _, h => by
    unfold typF at h; split at h
    · simp at h; subst h; exact ⟨.nil, fun x hx => by cases hx⟩
    · cases h
  | f + 1, last, s, l, hl, h => by
    unfold typF at h
    split at h
    · simp at h; subst h; exact ⟨.nil, fun x hx => by cases hx⟩
    split at h
    · cases h
    split at h
    · cases h
    rename_i h3
    split at h
    · cases h
    split at h
    · cases h
    cases e : typF f (bt s 0) (s.extract (2 + bt s 1) s.size) with
    | none => rw [e] at h; cases h
    | some q =>
      rw [e] at h
      simp at h
      subst h
      obtain ⟨h5, h6⟩ := typF_rise f _ _ q (by omega) e
      have hb : ∀ x ∈ blkT (bt s 0) (s.extract 2 (2 + bt s 1)) (8 * bt s 1), bt s 0 * 256 ≤ x ∧ x < bt s 0 * 256 + 256 := fun x hx => by
        obtain ⟨i, hi, rfl, _⟩ := mem_blkT.1 hx
        omega
      refine ⟨List.pairwise_append.2 ⟨rise_blkT, h5, fun a ha b hb' => ?_⟩, fun x hx => ?_⟩
      · have h7 := hb a ha
        have h8 := h6 b hb'
        omega
      · rcases List.mem_append.1 hx with h7 | h7
        · have h8 := hb x h7; omega
        · have h8 := h6 x h7; omega
theorem zero_head {s : ByteArray} {l : List Nat} (h : typS (-1) s = some l) (h0 : 0 ∈ l) : l.head? = some 0 := by
  have h1 := (typF_rise _ _ _ _ (by omega) h).1
  cases l with
  | nil => cases h0
  | cons x l =>
    rcases List.mem_cons.1 h0 with rfl | h2
    · rfl
    · exact absurd ((List.pairwise_cons.1 h1).1 0 h2) (by omega)
theorem head_zero {l : List Nat} (h : l.head? = some 0) : 0 ∈ l := by
  cases l with
  | nil => cases h
  | cons x l => simp at h; subst h; exact List.mem_cons_self ..
theorem bitsL_bit (d : ByteArray) : ∀ (n k : Nat), k < 8 * n → (bitsL 8 (lst d n))[k]? = some (bitAt d k)
  | 0, k, h => by omega
  | n + 1, k, h => by
    have hl : (bitsL 8 (lst d n)).length = 8 * n := by rw [bitsL_len, lst_len]
    rw [lst_succ, bitsL_snoc]
    by_cases hk : k < 8 * n
    · rw [List.getElem?_append_left (by omega)]; exact bitsL_bit d n k hk
    · rw [List.getElem?_append_right (by omega), hl, bitsW_get 8 _ _ (by omega)]
      unfold bitAt
      rw [show k / 8 = n by omega, show 8 - 1 - (k - 8 * n) = 7 - k % 8 by omega]
end Go.Proofs.YtiaccimdjfdkgaaGreatDoor
