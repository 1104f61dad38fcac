import Derived.RangeFuncNested
import Derived.RangeFuncBound
import Derived.RangeFuncCalls
import Derived.RangeFuncLeaves
import Derived.Shelf.Abstract
import Derived.Shelf.RegionOpen
import Derived.WalkKit
import Derived.WalkSpells
import Derived.WalkLawsBesides
import Derived.OwnWalkIn
import Derived.TacticsInMore
import Derived.LoopNIn
import Derived.LoopIn
import Derived.Test.YtoabnpdoicbpiaaGreatRows
import Derived.Test.YtoabnpdoicbpiaaGreatMathG
import Derived.Maps.AppendAt
import Derived.Laws.IdiomStrings
import Derived.RangeFuncBox
import Derived.Laws.AppendOwnNone
namespace Go.Proofs.YtoabnpdoicbpiaaGreat
set_option linter.unusedVariables false
open Go.RowKit Go.Shelf Go.Proofs.YtoabnpdoicbpiaaGreat.Nm
attribute [local go_sem] Oper.semAt_some
def KpB (Bn : Nat) (W W' : World) : Prop := ∀ v, W.cell? ⟨Bn, 0, none⟩ = some v → W'.cell? ⟨Bn, 0, none⟩ = some v
theorem kpB_t {Bn : Nat} {A B C : World} (h : KpB Bn A B) (k : KpB Bn B C) : KpB Bn A C := fun v e => k v (h v e)
theorem kpB_b {Bn : Nat} {w : World} (W : World) (l : Nat) (o o' : Obj) (_ : w.heap.size ≤ l) (h : W.heap[l]? = some o) (hc : o.isCells = false) (_ : o.isWalk = false) : KpB Bn W (W.putObj l o') :=
 fun _ e => cell_kept e (grownBy_putObj' W l o') (fun r e => by cases e; exact ⟨_, h, hc⟩)
def encL (s : ByteArray) (x : Lab s) : Array Value := #[.int .i64 x.1.1, .string x.1.2]
theorem wrap64_byte' {k : Nat} (h : k < 256) : wrap64 (k : Int) = (k : Int) := Go.IntWalk.wrap64_in _ (by omega)
set_option maxRecDepth 100000 in
set_option maxHeartbeats 2000000 in
theorem walk1_in (F : Fence) (n : Nat) (hf : F.fn 65) (hro : F.round = none) (hn : 1 ≤ n) (l Bn : Nat) (s : ByteArray) (hs : s.size ≤ 255) (J Jx : List (Lab s) → World → Prop)
  (hY : ∀ pre x W, J pre W → pre.length < s.size + 1 → YieldAt F (n - 1) Tryz.prog l (encL s x) W fun e W' =>
         (e = .returned (.bool true) ∧ J (pre ++ [x]) W' ∧ KpB Bn W W') ∨ (e = .returned (.bool false) ∧ Jx (pre ++ [x]) W'))
  (W : World) (hBn : W.cell? ⟨Bn, 0, none⟩ = some (.string s)) (h0 : J [] W) :
  CallsIn F n Tryz.prog 65 #[.func (.yield l) #[] #[], .pointer (some ⟨Bn, 0, none⟩)] W fun e W' => (∃ v, e = .returned v) ∧
   ((∃ ys, ys = rest s 0 ∧ J ys W') ∨ (∃ pre, pre <+: rest s 0 ∧ Jx pre W')) := by
 refine callsIn_of_wp Tryz.func65 rfl hf ?_ hro
 simp only [Tryz.ntmps65, List.size_toArray, List.length_cons, List.length_nil, Nat.reduceAdd, Nat.reduceSub, Array.replicate_succ, Array.replicate_zero, List.push_toArray, List.append_toArray, List.nil_append, List.cons_append]
 gi_wp2
 gi_loopw [3] (fun p wr => ∃ (i : Nat) (pre : List (Lab s)), p = .int .i64 i ∧ i ≤ s.size ∧ pre.length ≤ i ∧ rest s 0 = pre ++ rest s i ∧ J pre wr ∧ wr.cell? ⟨Bn, 0, none⟩ = some (.string s))
  (fun p _ => s.size - (intOf p).toNat)
 case atStart => exact ⟨0, [], rfl, Nat.zero_le _, Nat.le_refl _, rfl, h0, hBn⟩
 case round =>
  obtain ⟨i, pre, rfl, hi, hpl, hr0, hJs, hb⟩ := hrel
  have HR : Hid (rest s 0 = pre ++ rest s i) := hr0
  clear hr0
  by_cases hlt : i < s.size
  ·obtain ⟨k, hk, HK⟩ : ∃ k : Nat, wrap64 ↑(s[i]'hlt).toNat = (k : Int) ∧ Hid (bt s i = k) := ⟨bt s i, by rw [bt_eq hlt, wrap64_byte' (bt_lt s i)], rfl⟩
   have hk256 : k < 256 := by have := bt_lt s i; have := HK.out; omega
   by_cases hg : GoodL s i
   ·have h1 : 0 < k := by have := hg.pos; have := HK.out; omega
    have h2 : k ≤ 63 := by have := hg.le; have := HK.out; omega
    have h3 : i + 1 + k ≤ s.size := by have := hg.room; have := HK.out; omega
    have h0 : ((k : Int) == 0) = false := beq_eq_false_iff_ne.2 (by omega)
    obtain ⟨x, hx, HX⟩ : ∃ x : Lab s, encL s x = #[.int .i64 (i : Int), .string (s.extract (i + 1) (i + 1 + k))] ∧ Hid (rest s i = x :: rest s (i + 1 + k)) := by
     refine ⟨labAt s i hg, ?_, ?_⟩
     ·simp [encL, labAt, HK.out]
     ·have := rest_good hg; rw [HK.out] at this; exact this
    have hy := hY pre x wr hJs (by omega)
    rw [hx] at hy
    clear hx
    obtain ⟨fn, tmps, assign, body, hy, hR⟩ := hy
    gi_wp2
    refine hR.mono ?_
    rintro e W3 (⟨rfl, hJ3, hk3⟩ | ⟨rfl, hJx3⟩)
    ·have hb3 := hk3 _ hb
     gi_wp2
     go_roundw
     case rel => exact ⟨i + 1 + k, pre ++ [x], by go_num, h3, by simp; omega, by rw [HR.out, HX.out]; simp, hJ3, hb3⟩
     case measure => simp [intOf]; omega
    ·gi_wp2
     refine bodyPost_ret (results_none rfl _ _ _) rfl ?_
     exact ⟨⟨_, rfl⟩, .inr ⟨pre ++ [x], ⟨rest s (i + 1 + k), by rw [HR.out, HX.out]; simp⟩, hJx3⟩⟩
   ·have HE : Hid (rest s 0 = pre) := by unfold Hid; rw [HR.out, rest_bad hg, List.append_nil]
    by_cases hk0 : k = 0
    ·subst hk0
     have hk' : wrap64 ↑(s[i]'hlt).toNat = 0 := hk
     clear hk
     gi_wp2
     refine bodyPost_ret (results_none rfl _ _ _) rfl ?_
     first | exact ⟨⟨_, rfl⟩, .inl ⟨pre, HE.out.symm, hJs⟩⟩ | (refine ⟨⟨_, rfl⟩, .inl ?_⟩; rw [HE.out]; exact hJs)
    ·have h0 : ((k : Int) == 0) = false := beq_eq_false_iff_ne.2 (by omega)
     by_cases hk63 : k ≤ 63
     ·have h3 : s.size < i + 1 + k := by
       have := HK.out
       apply Nat.lt_of_not_le
       intro hc
       exact hg ⟨hlt, by omega, by omega, by omega⟩
      gi_wp2
      refine bodyPost_ret (results_none rfl _ _ _) rfl ?_
      first | exact ⟨⟨_, rfl⟩, .inl ⟨pre, HE.out.symm, hJs⟩⟩ | (refine ⟨⟨_, rfl⟩, .inl ?_⟩; rw [HE.out]; exact hJs)
     ·have h2 : 63 < k := by omega
      gi_wp2
      refine bodyPost_ret (results_none rfl _ _ _) rfl ?_
      first | exact ⟨⟨_, rfl⟩, .inl ⟨pre, HE.out.symm, hJs⟩⟩ | (refine ⟨⟨_, rfl⟩, .inl ?_⟩; rw [HE.out]; exact hJs)
  ·gi_wp2
   go_end0
   refine ⟨⟨_, rfl⟩, .inl ⟨pre, ?_, hJs⟩⟩
   rw [HR.out, rest_bad (fun g => hlt g.lt), List.append_nil]
end Go.Proofs.YtoabnpdoicbpiaaGreat
namespace Go.Proofs.YtoabnpdoicbpiaaGreat
set_option linter.unusedVariables false
open Go.RowKit Go.Shelf Go.Proofs.YtoabnpdoicbpiaaGreat.Nm
attribute [local go_sem] Oper.semAt_some
theorem walk_in (F : Fence) (n : Nat) (hf : F.fn 32) (hro : F.round = none) (s : ByteArray) (w : World) :
  CallsIn F n Tryz.prog 32 #[.string s] w fun e w' => e = .returned (.func (.func 65) #[] #[.pointer (some ⟨w.heap.size, 0, none⟩)]) ∧ w' = w.alloc (.cells #[.string s] 9) := by
 refine callsIn_of_wp Tryz.func32 rfl hf ?_ hro
 simp only [Tryz.ntmps32, List.size_toArray, List.length_cons, List.length_nil, Nat.reduceAdd, Nat.reduceSub, Array.replicate_succ, Array.replicate_zero, List.push_toArray, List.append_toArray, List.nil_append, List.cons_append]
 gi_wp2
 go_ret
 exact ⟨rfl, rfl⟩
theorem walk_stops (F : Fence) (n : Nat) (hf : F.fn 65) (hro : F.round = none) (hn : 1 ≤ n) (Bn : Nat) (s : ByteArray) (hs : s.size ≤ 255) (w : World) (hBn : Bn < w.heap.size)
  (hc : w.cell? ⟨Bn, 0, none⟩ = some (.string s)) :
  SeqStopsK F n Tryz.prog 65 #[.pointer (some ⟨Bn, 0, none⟩)] (encL s) (KpB Bn) (fun ys => ys = rest s 0) (fun pre => pre <+: rest s 0) (s.size + 1) w := fun l J Jx W hW _ _ hY h0 =>
 walk1_in F n hf hro hn l Bn s hs J Jx hY W ((hW.cell (p := ⟨Bn, 0, none⟩) hBn).trans hc) h0
theorem cell_of_box_l {W : World} {B : Nat} {v : Value} {t : TypeId} (h : W.heap[B]? = some (.cells #[v] t (0, 0))) : W.cell? ⟨B, 0, none⟩ = some v ∧ W.frozen? ⟨B, 0, none⟩ = false := by
 constructor <;> simp [World.cell?, World.frozen?, h]
theorem cell_new_l (W : World) (v : Value) (t : TypeId) : (W.alloc (.cells #[v] t)).cell? ⟨W.heap.size, 0, none⟩ = some v ∧ (W.alloc (.cells #[v] t)).frozen? ⟨W.heap.size, 0, none⟩ = false :=
 cell_of_box_l (World.alloc_heap_new W _)
theorem cell_alloc_l {W : World} {a : Addr} {v : Value} (o : Obj) (h : W.cell? a = some v) : (W.alloc o).cell? a = some v := cell_kept h (World.grownBy_alloc W o none) (fun r e => by cases e)
theorem frozen_alloc_l {W : World} {a : Addr} {v : Value} (o : Obj) (h : W.cell? a = some v) (hf : W.frozen? a = false) : (W.alloc o).frozen? a = false := (frozen_kept h (World.grownBy_alloc W o none) (fun r e => by cases e)).trans hf
theorem cell_far (w : World) (p a : Addr) (v : Value) (h : p.block ≠ a.block) : (w.setCell p v).cell? a = w.cell? a := World.cell?_setCell_other w p a v (fun e => h (by rw [e]))
def chk (s : ByteArray) : Int := if isN s = true then 0 else 1
set_option maxRecDepth 100000 in
set_option maxHeartbeats 2000000 in
theorem check_in (s : ByteArray) (w : World) (hs : s.size ≤ 255) :
  CallsIn Fence.wide 3 Tryz.prog 10 #[.string s] w fun e W' => e = .returned (.int .i64 (chk s)) ∧ Below w.heap.size w W' := by
 have hro : Fence.wide.round = none := rfl
 refine callsIn_of_wp_marks Tryz.func10 rfl trivial ?_ hro
 simp only [Tryz.ntmps10, List.size_toArray, List.length_cons, List.length_nil, Nat.reduceAdd, Nat.reduceSub, Array.replicate_succ, Array.replicate_zero, List.push_toArray, List.append_toArray, List.nil_append, List.cons_append]
 gi_wp2_with (refine ⟨trivial, ?_⟩; gi_at_call 32; refine (walk_in Fence.wide _ trivial rfl _ _).mono ?_; rintro e w' ⟨rfl, rfl⟩)
 have hs1 := cell_new_l w (.int .i64 0) 3
 have hb := cell_new_l (w.alloc (.cells #[.int .i64 0] 3)) (.string s) 9
 rw [World.size_alloc] at hb
 have hB0 : Below w.heap.size w ((w.alloc (.cells #[.int .i64 0] 3)).alloc (.cells #[.string s] 9)) := ((Below.refl _ w).alloc (Nat.le_refl _) _).alloc (by simp) _
 refine wpIn_rangeFunc_ownF hro (by omega) (gf := 65) (lb := #[.pointer (some ⟨w.heap.size + 1, 0, none⟩)]) rfl trivial (enters_of Tryz.func65 (by kernel_rfl) rfl)
  (walk_stops Fence.wide _ trivial hro (by omega) (w.heap.size + 1) s hs _ (by simp) hb.1) kpB_t (kpB_b (w := (w.alloc (.cells #[.int .i64 0] 3)).alloc (.cells #[.string s] 9))) (Below.refl _ _) (fun _ => rfl)
  (fun pre W => (W.cell? ⟨w.heap.size, 0, none⟩ = some (.int .i64 (lastEnd pre 0)) ∧ W.frozen? ⟨w.heap.size, 0, none⟩ = false) ∧ Below w.heap.size w W)
  (fun _ _ _ => False)
  (OwnFrom.and (Own.from (fun s A B row hs hg hr => ⟨cell_kept hs.1 hg hr, (frozen_kept hs.1 hg hr).trans hs.2⟩) _) (ownFrom_below (Nat.le_refl _) (by simp; omega)))
  (fun _ _ _ _ _ hs _ _ => hs)
  ⟨⟨cell_alloc_l _ hs1.1, frozen_alloc_l _ hs1.1 hs1.2⟩, hB0⟩
  (fun x => { tmps := #[Value.string s, undef, Value.int IntKind.i64 0, Value.pointer (some { block := w.heap.size, off := 0 }),
           .int .i64 x.1.1, .string x.1.2, Value.string s, Value.int IntKind.i64 ↑s.size, Value.bool (decide (255 < (s.size : Int))),
           Value.string s, Value.func (Fn.func 65) #[] #[Value.pointer (some { block := w.heap.size + 1, off := 0 })],
           .int .i64 x.1.1, .string x.1.2, undef, undef, undef, undef, undef, undef, undef, undef, undef], defers := [] }) ?assign ?body ?done ?stop
 case assign =>
  intro l x W K hK
  dsimp only [encL]
  gi_wp2
  exact hK
 case body =>
  rintro l pre ⟨⟨i, lab⟩, hx⟩ W ⟨⟨hc, hf⟩, hB⟩ _
  dsimp only at hx ⊢
  gi_wp2
  refine ⟨KeepsOthers.setCell _ _ _, fun v e => ?_, ⟨?_, by rw [World.frozen?_setCell]; exact hf⟩, hB.setCell (p := ⟨w.heap.size, 0, none⟩) (Nat.le_refl _) _⟩
  ·rw [cell_far _ _ _ _ (by simp)]; exact e
  ·rw [lastEnd_snoc]; exact World.cell?_setCell_same' _ _ _ (by rw [hc]; rfl)
 case done =>
  rintro D ys W hD rfl ⟨⟨hc, _⟩, hB⟩ hK
  rw [lastEnd_rest s s.size 0 (by omega)] at hc
  have hfl : fin s 0 ≤ s.size := by rw [← lastEnd_rest s s.size 0 (by omega)]; exact lastEnd_le _ _ (by omega)
  have hz := zero_end s (fin s 0) hfl
  have HN : Hid (isN s = decide (fin s 0 + 1 = s.size ∧ bt s (fin s 0) = 0)) := by unfold Hid isN; simp [hs]
  cases hd : decide (fin s 0 + 1 = s.size ∧ bt s (fin s 0) = 0) with
  | true =>
   rw [hd] at hz
   have HN' : Hid (chk s = 0) := by unfold Hid chk; rw [HN.out, hd]; rfl
   clear hd HN
   gi_wp2
   refine ⟨by simp, .inl ⟨_, _, rfl, run_takeDeferred hK, ?_⟩⟩
   exact ⟨_, results_tmp rfl _ _ _, by rw [HN'.out]; rfl, hB.trans (belowK_b (w := w) (Nat.le_refl _) W D _ _ (by simp at hD; omega) hK rfl rfl)⟩
  | false =>
   rw [hd] at hz
   have HN' : Hid (chk s = 1) := by unfold Hid chk; rw [HN.out, hd]; rfl
   clear hd HN
   gi_wp2
   refine ⟨by simp, .inl ⟨_, _, rfl, run_takeDeferred hK, ?_⟩⟩
   exact ⟨_, results_tmp rfl _ _ _, by rw [HN'.out]; rfl, hB.trans (belowK_b (w := w) (Nat.le_refl _) W D _ _ (by simp at hD; omega) hK rfl rfl)⟩
 case stop =>
  rintro D c pre W _ _ h _
  exact h.elim
theorem check_any (s : ByteArray) (w : World) (hm : s.size ≤ maxLen) :
  Calls Tryz.prog 10 #[.string s] w fun e W' => e = .returned (.int .i64 (chk s)) ∧ Below w.heap.size w W' := by
 by_cases hs : s.size ≤ 255
 ·exact callsIn_wide.1 (check_in s w hs)
 ·have HN : Hid (chk s = 1) := by unfold Hid chk isN; simp [hs]
  have hl : 255 < s.size := by omega
  have hm' : s.size ≤ 9223372036854775807 := by unfold maxLen at hm; omega
  clear hm hs
  refine (callsIn_wide (n := 3)).1 ?_
  refine callsIn_of_wp_marks Tryz.func10 rfl trivial ?_ rfl
  simp only [Tryz.ntmps10, List.size_toArray, List.length_cons, List.length_nil, Nat.reduceAdd, Nat.reduceSub, Array.replicate_succ, Array.replicate_zero, List.push_toArray, List.append_toArray, List.nil_append, List.cons_append]
  gi_wp2
  exact ⟨_, results_tmp rfl _ _ _, by rw [HN.out]; rfl, Below.refl _ _⟩
theorem isName_any (s : ByteArray) (w : World) (hm : s.size ≤ maxLen) :
  Calls Tryz.prog 67 #[.string s] w fun e W' => e = .returned (.bool (isN s)) ∧ Below w.heap.size w W' := by
 go_enter Tryz.func67, Tryz.ntmps67
 go_wp2_with (go_at_call 10; refine (check_any s _ hm).mono ?_; rintro e w' ⟨rfl, hB⟩)
 go_ret
 refine ⟨?_, hB⟩
 cases h : isN s <;> simp [chk, h]
end Go.Proofs.YtoabnpdoicbpiaaGreat
namespace Go.Proofs.YtoabnpdoicbpiaaGreat
set_option linter.unusedVariables false
open Go.RowKit Go.Shelf Go.Proofs.YtoabnpdoicbpiaaGreat.Nm
theorem Tryz.infoStr : (Tryz.prog.info? 9).map (fun i => (i.zero, i.size, i.bytes)) = some (some (.string .empty), 1, 16) := by kernel_rfl
def strLen : Value → Nat | .string s => s.size | _ => 0
theorem ownBlock_le {w : World} {base e size : Nat} {v : Value} {n : Nat} {xs : List Value} (h : w.ownsRow base e size v n xs) {q : Nat} (hq : v.ownBlock = some q) : base ≤ q := by
 obtain ⟨_, (⟨rfl, _⟩ | ⟨g, cap, cur, rfl, hb, _⟩)⟩ := h
 ·simp [Value.ownBlock] at hq
 ·simp [Value.ownBlock] at hq; omega
set_option maxRecDepth 100000 in
set_option maxHeartbeats 1000000 in
theorem split_any (s : ByteArray) (w : World) (hs : s.size ≤ 1048576) :
  Calls Tryz.prog 109 #[.string s] w fun e w' => ∃ v, e = .returned (.tuple #[v, .bool (isN s)]) ∧
   (isN s = true → w'.ownsRow w.heap.size 9 1 v (labs s).length ((labs s).map Value.string)) ∧ Below w.heap.size w w' := by
 obtain ⟨i0, hi, hz0, hz1, hz2⟩ := info_parts Tryz.infoStr
 go_enter Tryz.func109, Tryz.ntmps109
 go_wp2
 go_loopw [4, 5] (fun v rv wr => ∃ (i : Nat) (pre : List ByteArray) (r : ByteArray), rv = .string r ∧ From s i r ∧ i ≤ s.size ∧ Hid (labs s = pre ++ labsFrom s i) ∧ Hid (fin s 0 = fin s i) ∧ pre.length ≤ i ∧
         wr.ownsRow w.heap.size 9 1 v pre.length (pre.map Value.string) ∧ Below w.heap.size w wr)
  (fun _ rv _ => strLen rv)
 case atStart => exact ⟨0, [], s, rfl, ⟨by simp⟩, by omega, rfl, rfl, Nat.le_refl _, World.ownsRow_nil _ _ _ _, Below.refl _ _⟩
 case round =>
  obtain ⟨i, pre, r, rfl, HR, hi', HL, HF, hpl, hown, hB⟩ := hrel
  have HRS : Hid (r.size = s.size - i) := HR.size
  have hr1 : r.size ≤ 1048576 := by have := HRS.out; omega
  by_cases h0 : 0 < r.size
  ·have he := isEmpty_false h0
   obtain ⟨k, hk, HK, hk256⟩ := bt_wrap h0
   have hw : wrap64 (k : Int) = (k : Int) := wrap64_byte' hk256
   have HB : Hid (bt s i = k) := by unfold Hid; rw [← HR.first]; exact HK
   clear HK
   by_cases hk0 : k = 0
   ·subst hk0
    have hbad : ¬ GoodL s i := fun g => by have := g.pos; have := HB.out; omega
    have HFI : Hid (fin s 0 = i) := by unfold Hid; rw [HF.out, fin_bad hbad]
    have HLI : Hid (labs s = pre) := by unfold Hid; rw [HL.out, labsFrom_bad hbad, List.append_nil]
    have HIN : Hid (isN s = (decide (r.size = 1) && decide (s.size ≤ 255))) := by
     unfold Hid isN
     rw [HFI.out]
     have := HRS.out
     have := HB.out
     rw [Bool.eq_iff_iff]; simp; omega
    by_cases h1 : r.size = 1
    ·have h1' : ((r.size : Int) == 1) = true := by rw [beq_iff_eq]; omega
     have HIN' : Hid (isN s = decide ((s.size : Int) ≤ 255)) := by unfold Hid; rw [HIN.out, Bool.eq_iff_iff]; simp; omega
     clear HIN h1
     go_wp2
     go_ret2
     rw [HIN'.out, HLI.out]
     exact ⟨_, rfl, fun _ => hown, hB⟩
    ·have h1' : ((r.size : Int) == 1) = false := by rw [beq_eq_false_iff_ne]; omega
     have HIN' : Hid (isN s = false) := by unfold Hid; rw [HIN.out, decide_eq_false h1]; rfl
     clear HIN h1
     go_wp2
     go_ret2
     rw [HIN'.out]
     exact ⟨_, rfl, (fun h => by cases h), hB⟩
   ·have hk0' : ((k : Int) == 0) = false := beq_eq_false_iff_ne.2 (by omega)
    by_cases hg : GoodL s i
    ·have hk63 : k ≤ 63 := by have := hg.le; have := HB.out; omega
     have hroom : 1 + k ≤ r.size := by have := hg.room; have := HB.out; have := HRS.out; omega
     have HX : Hid (r.extract 1 (1 + k) = s.extract (i + 1) (i + 1 + k)) := by unfold Hid; rw [HR.extract _ _ hi' hroom]; congr 1; omega
     have HNx := HR.next hi' (1 + k) hroom
     have HL2 : Hid (labs s = (pre ++ [r.extract 1 (1 + k)]) ++ labsFrom s (i + (1 + k))) := by
      unfold Hid
      rw [HL.out, labsFrom_good hg, HB.out, HX.out, show i + (1 + k) = i + 1 + k by omega]; simp
     have HF2 : Hid (fin s 0 = fin s (i + (1 + k))) := by unfold Hid; rw [HF.out, fin_good hg, HB.out, show i + (1 + k) = i + 1 + k by omega]
     clear HX HL HF HB
     go_wp2_with (at_builtin; refine wpList_append_own _ rfl _ _ 93 rfl w.heap.size 9 i0 (.string .empty) 1 16 Tryz.underlying93 hi hz0 hz1 hz2 rfl (by decide) _ _ _ rfl (hown.alloc _) ⟨wr.heap.size, 0, none⟩ 1 1 [.string (r.extract 1 (1 + k))] rfl rfl (cell_one_new _ _ _) (by simp [Value.oneCell']) (by unfold maxLen; omega) (by omega) (by have := hB.size; simp; omega) ?_; intro v' w1 hown' hgrow _)
     have hown2 : w1.ownsRow w.heap.size 9 1 v' (pre ++ [r.extract 1 (1 + k)]).length ((pre ++ [r.extract 1 (1 + k)]).map Value.string) := by
      simpa using hown'
     have hB2 : Below w.heap.size w w1 := (hB.alloc hB.size _).grown hgrow (by have := hB.size; simp; omega) (fun q e => ownBlock_le hown e)
     clear hown' hgrow hown hB
     go_wp2
     go_roundw
     case rel => exact ⟨i + (1 + k), _, _, rfl, HNx, by have := HRS.out; omega, HL2, HF2, by simp; omega, hown2, hB2⟩
     case measure => simp [strLen]; omega
    ·have HN : Hid (isN s = false) := by
      have := HB.out
      unfold Hid isN; rw [HF.out, fin_bad hg]; simp; omega
     by_cases hk63 : k ≤ 63
     ·have hroom : r.size < 1 + k := by
       have := HB.out; have := HRS.out
       apply Nat.lt_of_not_le
       intro hc
       exact hg ⟨by omega, by omega, by omega, by omega⟩
      go_wp2
      go_ret2
      rw [HN.out]
      exact ⟨_, rfl, (fun h => by cases h), hB⟩
     ·have h63 : 63 < k := by omega
      go_wp2
      go_ret2
      rw [HN.out]
      exact ⟨_, rfl, (fun h => by cases h), hB⟩
  ·have he := isEmpty_true (r := r) (by omega)
   have hN : isN s = false := by
    have hbad : ¬ GoodL s i := fun g => by have := g.lt; have := HRS.out; omega
    have := HRS.out
    unfold isN; rw [HF.out, fin_bad hbad]; simp; omega
   have HN : Hid (isN s = false) := hN
   clear hN
   go_wp2
   go_ret2
   rw [HN.out]
   exact ⟨_, rfl, (fun h => by cases h), hB⟩
end Go.Proofs.YtoabnpdoicbpiaaGreat
namespace Go.Proofs.YtoabnpdoicbpiaaGreat
set_option linter.unusedVariables false
open Go.RowKit Go.Shelf Go.Proofs.YtoabnpdoicbpiaaGreat.Nm
structure HoldsB (w : World) (b : Nat) (n : Nat) (f : Nat → Nat) : Prop where
 lt : b < w.heap.size
 cell : ∀ j, j < n → w.cell? ⟨b, j, none⟩ = some (.int .u8 (f j))
 free : ∀ j, j < n → w.frozen? ⟨b, j, none⟩ = false
theorem getElem?_bytesRow (s : ByteArray) (cap j : Nat) (h : j < s.size) : (bytesRow s cap)[j]? = some (.int .u8 (bt s j)) := by
 have hs : s.data.size = s.size := rfl
 unfold bytesRow
 rw [Array.getElem?_append_left (by simp; omega), Array.getElem?_map, Array.getElem?_eq_getElem (by omega)]
 simp [bt, h]
 rfl
theorem frozen_mark (w : World) (C : Array Value) (t : TypeId) (a c j : Nat) (h : j < a) : (w.alloc (.cells C t (a, c))).frozen? ⟨w.heap.size, j, none⟩ = false := by
 have : (w.alloc (.cells C t (a, c))).heap[w.heap.size]? = some (.cells C t (a, c)) := by
  show (w.heap.push (.cells C t (a, c)))[w.heap.size]? = _
  simp
 simp only [World.frozen?, this]
 simp
 omega
theorem holdsB_new (w : World) (s : ByteArray) (cap : Nat) (t : TypeId) :
  HoldsB (w.alloc (.cells (bytesRow s cap) t ((bytesRow s cap).size, (bytesRow s cap).size + 1))) w.heap.size s.size (bt s) := by
 refine ⟨by simp, fun j hj => ?_, fun j hj => ?_⟩
 ·rw [World.cell?_alloc_mark, getElem?_bytesRow s cap j hj]
 ·refine frozen_mark _ _ _ _ _ _ ?_
  have hs : s.data.size = s.size := rfl
  unfold bytesRow; simp; omega
theorem HoldsB.drew {w : World} {b n : Nat} {f : Nat → Nat} (h : HoldsB w b n f) : HoldsB w.drew b n f := ⟨h.lt, h.cell, h.free⟩
theorem HoldsB.set {w : World} {b n : Nat} {f : Nat → Nat} (h : HoldsB w b n f) (k x : Nat) (hk : k < n) : HoldsB (w.setCell ⟨b, k, none⟩ (.int .u8 x)) b n (fun j => if j = k then x else f j) := by
 refine ⟨by simpa [World.setCell] using h.lt, fun j hj => ?_, fun j hj => ?_⟩
 ·by_cases e : j = k
  ·subst e; rw [if_pos rfl, World.cell?_setCell_same' _ _ _ (by rw [h.cell _ hj]; rfl)]
  ·rw [if_neg e, World.cell?_setCell_other _ _ _ _ (fun e' => e (by simpa using congrArg Addr.off e'.symm))]; exact h.cell j hj
 ·rw [World.frozen?_setCell]; exact h.free j hj
theorem HoldsB.congr {w : World} {b n : Nat} {f g : Nat → Nat} (h : HoldsB w b n f) (e : ∀ j, j < n → f j = g j) : HoldsB w b n g :=
 ⟨h.lt, fun j hj => by rw [← e j hj]; exact h.cell j hj, h.free⟩
theorem HoldsB.str {w : World} {b : Nat} {f : Nat → Nat} {t : ByteArray} (h : HoldsB w b t.size f) (hf : ∀ j, j < t.size → f j = bt t j) (cap : Nat) :
  (convert 146 9 (.slice (some ⟨b, 0, none⟩) t.size cap)).run Tryz.prog w = .ok (.string t) w := by
 have hl : t.data.toList.length = t.size := by simp
 have := run_convert_bytes_back (P := Tryz.prog) w 146 9 5 ⟨b, 0, none⟩ cap t.data.toList Tryz.underlying146 Tryz.underlying5 Tryz.underlying9 (fun j hj => by
        have hj' : j < t.size := by omega
        have e : t.data.toList[j].toNat = bt t j := bt_list t j hj'
        rw [e]
        have := h.cell j hj'
        rw [hf j hj'] at this
        rw [show Addr.add ⟨b, 0, none⟩ j = ⟨b, j, none⟩ by unfold Addr.add; split <;> simp_all]
        exact this)
 rw [hl] at this
 simpa using this
set_option maxRecDepth 100000 in
set_option maxHeartbeats 1000000 in
theorem low_any (s : ByteArray) (w : World) (hs : s.size ≤ 1048576) :
  Calls Tryz.prog 143 #[.string s] w fun e w' => e = .returned (.string (lowB s)) ∧ Below w.heap.size w w' := by
 have hcv := fun w' => run_bytes_of_string (P := Tryz.prog) w' 9 146 5 s Tryz.underlying9 Tryz.underlying146 Tryz.underlying5
 go_enter Tryz.func143, Tryz.ntmps143
 go_wp2
 go_loopw [9] (fun i wr => ∃ k : Nat, i = .int .i64 k ∧ k ≤ s.size ∧ HoldsB wr w.heap.size s.size (fun j => if j < k then lowN (bt s j) else bt s j) ∧ Below w.heap.size w wr)
  (fun i _ => s.size - (intOf i).toNat)
 case atStart => exact ⟨0, rfl, Nat.zero_le _, ((holdsB_new _ _ _ _).drew).congr (by simp), ((Below.refl _ _).alloc (Nat.le_refl _) _).drew⟩
 case round =>
  obtain ⟨k, rfl, hk, hH, hB⟩ := hrel
  by_cases hlt : k < s.size
  ·have hc := hH.cell k hlt
   have hfr := hH.free k hlt
   simp only [Nat.lt_irrefl, if_false] at hc
   obtain ⟨x, hx, hx256⟩ : ∃ x, bt s k = x ∧ x < 256 := ⟨_, rfl, bt_lt _ _⟩
   rw [hx] at hc
   have HX : Hid (bt s k = x) := hx
   clear hx
   have hnext : ∀ (W : World) (y : Nat), y = lowN x → HoldsB W w.heap.size s.size (fun j => if j = k then y else if j < k then lowN (bt s j) else bt s j) → HoldsB W w.heap.size s.size (fun j => if j < k + 1 then lowN (bt s j) else bt s j) := by
    intro W y hy h
    refine h.congr fun j _ => ?_
    by_cases e : j = k
    ·subst e; rw [if_pos rfl, if_pos (by omega), hy, HX.out]
    ·rw [if_neg e]
     by_cases e2 : j < k
     ·rw [if_pos e2, if_pos (by omega)]
     ·rw [if_neg e2, if_neg (by omega)]
   have hstay : ∀ (W : World), lowN x = x → HoldsB W w.heap.size s.size (fun j => if j < k then lowN (bt s j) else bt s j) → HoldsB W w.heap.size s.size (fun j => if j < k + 1 then lowN (bt s j) else bt s j) := by
    intro W hy h
    refine h.congr fun j _ => ?_
    by_cases e : j = k
    ·subst e; rw [if_neg (by omega), if_pos (by omega), HX.out, hy]
    ·by_cases e2 : j < k
     ·rw [if_pos e2, if_pos (by omega)]
     ·rw [if_neg e2, if_neg (by omega)]
   by_cases h65 : 65 ≤ x
   ·by_cases h90 : x ≤ 90
    ·go_wp2
     go_roundw
     case rel => exact ⟨k + 1, by go_num, hlt, hnext _ (x + 32) (by unfold lowN; rw [if_pos ⟨h65, h90⟩]) (hH.set k (x + 32) hlt), hB.setCell (p := ⟨w.heap.size, k, none⟩) (Nat.le_refl _) _⟩
     case measure => simp [intOf]; omega
    ·have h90' : 90 < x := by omega
     go_wp2
     go_roundw
     case rel => exact ⟨k + 1, by go_num, hlt, hstay _ (by unfold lowN; rw [if_neg (by omega)]) hH, hB⟩
     case measure => simp [intOf]; omega
   ·have h65' : x < 65 := by omega
    go_wp2
    go_roundw
    case rel => exact ⟨k + 1, by go_num, hlt, hstay _ (by unfold lowN; rw [if_neg (by omega)]) hH, hB⟩
    case measure => simp [intOf]; omega
  ·have hst : ∀ cap, (convert 146 9 (.slice (some ⟨w.heap.size, 0, none⟩) s.size cap)).run Tryz.prog wr = .ok (.string (lowB s)) wr := fun cap => by
    have hz := lowB_size s
    rw [← hz] at hH ⊢
    exact hH.str (fun j hj => by rw [if_pos (by omega), lowB_bt]) cap
   go_wp2
   go_ret
   exact ⟨rfl, hB⟩
end Go.Proofs.YtoabnpdoicbpiaaGreat
namespace Go.Proofs.YtoabnpdoicbpiaaGreat
set_option linter.unusedVariables false
open Go.RowKit Go.Shelf Go.Proofs.YtoabnpdoicbpiaaGreat.Nm
def Strs (w : World) (v : Value) (l : List ByteArray) : Prop :=
 ∃ p cap, v = .slice p l.length cap ∧ ∀ j (h : j < l.length), ∃ g off, p = some ⟨g, off, none⟩ ∧ g < w.heap.size ∧ w.cell? ⟨g, off + j, none⟩ = some (.string l[j])
theorem Strs.below {w w' : World} {v : Value} {l : List ByteArray} (h : Strs w v l) (hb : Below w.heap.size w w') : Strs w' v l := by
 obtain ⟨p, cap, hv, hc⟩ := h
 refine ⟨p, cap, hv, fun j hj => ?_⟩
 obtain ⟨g, off, hp, hg, hcell⟩ := hc j hj
 exact ⟨g, off, hp, Nat.lt_of_lt_of_le hg hb.size, (hb.cell (p := ⟨g, off + j, none⟩) hg).trans hcell⟩
theorem owns_cap {w : World} {base : Nat} {p : Option Addr} {n cap : Nat} {xs : List Value} {m : Nat} (h : w.ownsRow base 9 1 (.slice p m cap) n xs) : n ≤ cap ∧ cap ≤ maxLen ∧ (p = none → cap = 0) := by
 obtain ⟨hl, (⟨h1, h0⟩ | ⟨g, cap', cur, h1, hb, hg, hn, hcap, hsz, ht⟩)⟩ := h
 ·simp at h1; exact ⟨by omega, by rw [h1.2.2]; exact Nat.zero_le _, fun _ => h1.2.2⟩
 ·simp at h1; obtain ⟨e, _, rfl⟩ := h1; exact ⟨hn, hcap, fun e2 => by rw [e2] at e; cases e⟩
theorem Strs.of_owns {w : World} {base : Nat} {v : Value} {l : List ByteArray} (h : w.ownsRow base 9 1 v l.length (l.map Value.string)) : Strs w v l := by
 obtain ⟨hl, (⟨rfl, h0⟩ | ⟨g, cap, cur, rfl, hb, hg, hn, hcap, hsz, ht⟩)⟩ := h
 ·exact ⟨none, 0, by rw [h0], fun j hj => by omega⟩
 ·refine ⟨some ⟨g, 0, none⟩, cap, rfl, fun j hj => ⟨g, 0, rfl, (Array.getElem?_eq_some_iff.1 hg).1, ?_⟩⟩
  have hcur : cur[j]? = some (.string l[j]) := by
   have := congrArg (fun t => t[j]?) ht
   simp only [Nat.mul_one] at this
   rw [List.getElem?_take, if_pos hj] at this
   rw [← Array.getElem?_toList, this]
   simp [hj]
  simp [World.cell?, hg, hcur]
def StrsAt (w : World) (p : Option Addr) (l : List ByteArray) : Prop :=
 ∀ j (h : j < l.length), ∃ g off, p = some ⟨g, off, none⟩ ∧ g < w.heap.size ∧ w.cell? ⟨g, off + j, none⟩ = some (.string l[j])
theorem StrsAt.below {w w' : World} {p : Option Addr} {l : List ByteArray} (h : StrsAt w p l) (hb : Below w.heap.size w w') : StrsAt w' p l := by
 intro j hj
 obtain ⟨g, off, hp, hg, hcell⟩ := h j hj
 exact ⟨g, off, hp, Nat.lt_of_lt_of_le hg hb.size, (hb.cell (p := ⟨g, off + j, none⟩) hg).trans hcell⟩
theorem split_yes (s : ByteArray) (w : World) (hs : s.size ≤ 1048576) (hN : isN s = true) :
  Calls Tryz.prog 109 #[.string s] w fun e w' => ∃ p cap, e = .returned (.tuple #[.slice p (labs s).length cap, .bool true]) ∧ (StrsAt w' p (labs s) ∧ (labs s).length ≤ cap ∧ cap ≤ 9223372036854775807 ∧ (p = none → cap = 0)) ∧ Below w.heap.size w w' := by
 refine (split_any s w hs).mono ?_
 rintro e w' ⟨v, rfl, hv, hB⟩
 obtain ⟨p, cap, rfl, hc⟩ := Strs.of_owns (hv hN)
 obtain ⟨h1, h2, h3⟩ := owns_cap (hv hN)
 exact ⟨p, cap, by rw [hN], ⟨hc, h1, by unfold maxLen at h2; omega, h3⟩, hB⟩
theorem split_no (s : ByteArray) (w : World) (hs : s.size ≤ 1048576) (hN : isN s = false) :
  Calls Tryz.prog 109 #[.string s] w fun e w' => ∃ v, e = .returned (.tuple #[v, .bool false]) ∧ Below w.heap.size w w' := by
 refine (split_any s w hs).mono ?_
 rintro e w' ⟨v, rfl, hv, hB⟩
 exact ⟨v, by rw [hN], hB⟩
theorem one_byte (W : World) (n : Nat) (hn : n < 256) : (convert 146 9 (.slice (some ⟨W.heap.size, 0, none⟩) 1 1)).run Tryz.prog (W.alloc (.cells #[.int .u8 (n : Int)] 5)) = .ok (.string ⟨#[UInt8.ofNat n]⟩) (W.alloc (.cells #[.int .u8 (n : Int)] 5)) := by
 have hc := cell_new_l W (.int .u8 (n : Int)) 5
 refine HoldsB.str (t := ⟨#[UInt8.ofNat n]⟩) (f := fun _ => n) ⟨by simp, fun j hj => ?_, fun j hj => ?_⟩ (fun j hj => ?_) 1
 ·have : j = 0 := by have : j < 1 := hj; omega
  subst this; exact hc.1
 ·have : j = 0 := by have : j < 1 := hj; omega
  subst this; exact hc.2
 ·have : j = 0 := by have : j < 1 := hj; omega
  subst this
  rw [← bt_eq hj]
  show n = (UInt8.ofNat n).toNat
  rw [UInt8.toNat_ofNat']; omega
set_option maxRecDepth 100000 in
set_option maxHeartbeats 1000000 in
theorem put_any (v : Value) (l : List ByteArray) (w : World) (hv : Strs w v l) (hl : ∀ x ∈ l, x.size ≤ 255) (hz : (putB l).size ≤ 4294967296) :
  Calls Tryz.prog 142 #[v] w fun e w' => e = .returned (.string (putB l)) ∧ Below w.heap.size w w' := by
 obtain ⟨p, cap, rfl, hc⟩ := hv
 have hll : l.length ≤ 4294967296 := by have := chunks_len l; have := putB_size l; omega
 go_enter Tryz.func142, Tryz.ntmps142
 go_wp2
 go_loopw [3, 8] (fun sv i wr => ∃ k : Nat, i = .int .i64 k ∧ k ≤ l.length ∧ sv = .string (chunks (l.take k)) ∧ Below w.heap.size w wr)
  (fun _ i _ => l.length - (intOf i).toNat)
 case atStart => exact ⟨0, rfl, Nat.zero_le _, rfl, Below.refl _ _⟩
 case round =>
  obtain ⟨k, rfl, hk, rfl, hB⟩ := hrel
  by_cases hlt : k < l.length
  ·obtain ⟨g, off, rfl, hg, hcell0⟩ := hc k hlt
   have hcell := (hB.cell (p := ⟨g, off + k, none⟩) hg).trans hcell0
   have hx255 := hl l[k] (List.getElem_mem _)
   obtain ⟨x, hx⟩ : ∃ x, l[k] = x := ⟨_, rfl⟩
   rw [hx] at hcell hx255
   have hxs : (chunks (l.take (k + 1))).size ≤ (chunks l).size := chunks_size_take l (k + 1)
   have hps := putB_size l
   have hsn : chunks (l.take (k + 1)) = chunks (l.take k) ++ chunk x := by rw [← hx, ← chunks_snoc, List.take_succ_eq_append_getElem hlt]
   have hss : (chunks (l.take k)).size + (chunk x).size ≤ 4294967296 := by rw [hsn, ByteArray.size_append] at hxs; omega
   have HSN : Hid (chunks (l.take (k + 1)) = chunks (l.take k) ++ chunk x) := hsn
   have hcv : ∀ W : World, (convert 146 9 (.slice (some ⟨W.heap.size, 0, none⟩) 1 1)).run Tryz.prog (W.alloc (.cells #[.int .u8 (x.size : Int)] 5)) = .ok (.string ⟨#[UInt8.ofNat x.size]⟩) (W.alloc (.cells #[.int .u8 (x.size : Int)] 5)) := fun W => one_byte W x.size (by omega)
   have had1 : ∀ W : World, (Op.stringOp .add ⟨#[UInt8.ofNat x.size]⟩ x).run Tryz.prog W = .ok (.string (chunk x)) W := fun W => run_string_add_sum W _ x (by rw [show (⟨#[UInt8.ofNat x.size]⟩ : ByteArray).size = 1 from rfl]; omega)
   have had2 : ∀ W : World, (Op.stringOp .add (chunks (l.take k)) (chunk x)).run Tryz.prog W = .ok (.string (chunks (l.take (k + 1)))) W := fun W => by
    rw [HSN.out]; exact run_string_add_sum W _ _ (by omega)
   clear hx hxs hps hsn hss hcell0
   go_wp2
   go_roundw
   case rel => exact ⟨k + 1, by go_num, hlt, rfl, hB.alloc hB.size _⟩
   case measure => simp [intOf]; omega
  ·have had : ∀ W : World, (Op.stringOp .add (chunks (l.take k)) ⟨#[0]⟩).run Tryz.prog W = .ok (.string (putB l)) W := fun W => by
    rw [List.take_of_length_le (by omega)]
    have := putB_size l
    exact run_string_add_sum W _ _ (by rw [show (⟨#[0]⟩ : ByteArray).size = 1 from rfl]; omega)
   go_wp2
   go_ret
   exact ⟨rfl, hB⟩
end Go.Proofs.YtoabnpdoicbpiaaGreat
namespace Go.Proofs.YtoabnpdoicbpiaaGreat
set_option linter.unusedVariables false
open Go.RowKit Go.Shelf Go.Proofs.YtoabnpdoicbpiaaGreat.Nm
theorem hide' {p : Prop} (h : p) : Hid p := h
set_option maxRecDepth 100000 in
set_option maxHeartbeats 1000000 in
theorem small_any (s : ByteArray) (w : World) (hs : s.size ≤ 1048576) :
  Calls Tryz.prog 68 #[.string s] w fun e w' => e = .returned (.string (lowB s)) ∧ Below w.heap.size w w' := by
 have hcv := fun w' => run_bytes_of_string (P := Tryz.prog) w' 9 146 5 s Tryz.underlying9 Tryz.underlying146 Tryz.underlying5
 go_enter Tryz.func68, Tryz.ntmps68
 go_wp2
 go_loopw [10] (fun i wr => ∃ k : Nat, i = .int .i64 k ∧ k ≤ s.size ∧ HoldsB wr w.heap.size s.size (fun j => if j < k then lowN (bt s j) else bt s j) ∧ Below w.heap.size w wr)
  (fun i _ => s.size - (intOf i).toNat)
 case atStart => exact ⟨0, rfl, Nat.zero_le _, ((holdsB_new _ _ _ _).drew).congr (by simp), ((Below.refl _ _).alloc (Nat.le_refl _) _).drew⟩
 case round =>
  obtain ⟨k, rfl, hk, hH, hBr⟩ := hrel
  by_cases hlt : k < s.size
  ·have hc := hH.cell k hlt
   have hfr := hH.free k hlt
   simp only [Nat.lt_irrefl, if_false] at hc
   obtain ⟨x, hx, hx256⟩ : ∃ x, bt s k = x ∧ x < 256 := ⟨_, rfl, bt_lt _ _⟩
   rw [hx] at hc
   have HX : Hid (bt s k = x) := hx
   clear hx
   have hnext : ∀ (W : World) (y : Nat), y = lowN x → HoldsB W w.heap.size s.size (fun j => if j = k then y else if j < k then lowN (bt s j) else bt s j) → HoldsB W w.heap.size s.size (fun j => if j < k + 1 then lowN (bt s j) else bt s j) := by
    intro W y hy h
    refine h.congr fun j _ => ?_
    by_cases e : j = k
    ·subst e; rw [if_pos rfl, if_pos (by omega), hy, HX.out]
    ·rw [if_neg e]
     by_cases e2 : j < k
     ·rw [if_pos e2, if_pos (by omega)]
     ·rw [if_neg e2, if_neg (by omega)]
   have hstay : ∀ (W : World), lowN x = x → HoldsB W w.heap.size s.size (fun j => if j < k then lowN (bt s j) else bt s j) → HoldsB W w.heap.size s.size (fun j => if j < k + 1 then lowN (bt s j) else bt s j) := by
    intro W hy h
    refine h.congr fun j _ => ?_
    by_cases e : j = k
    ·subst e; rw [if_neg (by omega), if_pos (by omega), HX.out, hy]
    ·by_cases e2 : j < k
     ·rw [if_pos e2, if_pos (by omega)]
     ·rw [if_neg e2, if_neg (by omega)]
   have HNX := hide' hnext
   have HST := hide' hstay
   clear hnext hstay
   by_cases h65 : 65 ≤ x
   ·by_cases h90 : x ≤ 90
    ·go_wp2
     go_roundw
     case rel => exact ⟨k + 1, by go_num, hlt, HNX.out _ (x + 32) (by unfold lowN; rw [if_pos ⟨h65, h90⟩]) (hH.set k (x + 32) hlt), hBr.setCell (p := ⟨w.heap.size, k, none⟩) (Nat.le_refl _) _⟩
     case measure => simp [intOf]; omega
    ·have h90' : 90 < x := by omega
     go_wp2
     go_roundw
     case rel => exact ⟨k + 1, by go_num, hlt, HST.out _ (by unfold lowN; rw [if_neg (by omega)]) hH, hBr⟩
     case measure => simp [intOf]; omega
   ·have h65' : x < 65 := by omega
    go_wp2
    go_roundw
    case rel => exact ⟨k + 1, by go_num, hlt, HST.out _ (by unfold lowN; rw [if_neg (by omega)]) hH, hBr⟩
    case measure => simp [intOf]; omega
  ·have hst : ∀ cap, (convert 146 9 (.slice (some ⟨w.heap.size, 0, none⟩) s.size cap)).run Tryz.prog wr = .ok (.string (lowB s)) wr := fun cap => by
    have hz := lowB_size s
    rw [← hz] at hH ⊢
    exact hH.str (fun j hj => by rw [if_pos (by omega), lowB_bt]) cap
   go_wp2
   go_ret
   exact ⟨rfl, hBr⟩
end Go.Proofs.YtoabnpdoicbpiaaGreat
namespace Go.Proofs.YtoabnpdoicbpiaaGreat
set_option linter.unusedVariables false
open Go.RowKit Go.Shelf Go.Proofs.YtoabnpdoicbpiaaGreat.Nm
theorem ownsRow_below {w w' : World} {base e size : Nat} {v : Value} {n : Nat} {xs : List Value} (h : w.ownsRow base e size v n xs) (hb : Below w.heap.size w w') : w'.ownsRow base e size v n xs := by
 obtain ⟨hl, (⟨rfl, h0⟩ | ⟨g, cap, cur, rfl, hg, hh, rest⟩)⟩ := h
 ·exact ⟨hl, .inl ⟨rfl, h0⟩⟩
 ·exact ⟨hl, .inr ⟨g, cap, cur, rfl, hg, (hb.block g (Array.getElem?_eq_some_iff.1 hh).1).trans hh, rest⟩⟩
theorem below_app {B e size n : Nat} {w' w2 w3 : World} {o : Obj} {ov : Value} {xs : List Value} (h : Below B w' w2) (hB : B ≤ w'.heap.size) (hown : w2.ownsRow B e size ov n xs) (hg : (w2.alloc o).grownBy w3 ov.ownBlock) : Below B w' w3 :=
 (h.alloc (Nat.le_trans hB h.size) _).grown hg (by have := h.size; simp; omega) (fun _ e => ownBlock_le hown e)
theorem bstep {B : Nat} {a b c : World} (h : Below B a b) (k : Below b.heap.size b c) (hB : B ≤ b.heap.size) : Below B a c := h.trans (k.mono hB)
theorem refIsName_any (s : ByteArray) (w : World) (hs : s.size ≤ 1048576) :
  Calls Tryz.prog 80 #[.string s] w fun e w' => e = .returned (.bool (isN s)) ∧ Below w.heap.size w w' := by
 go_enter Tryz.func80, Tryz.ntmps80
 go_wp2_with (go_at_call 109; refine (split_any s _ hs).mono ?_; rintro e w' ⟨v, rfl, hv, hB⟩)
 go_ret
 exact ⟨rfl, hB⟩
set_option maxRecDepth 100000 in
set_option maxHeartbeats 1000000 in
theorem foldName_any (s : ByteArray) (w : World) (hs : s.size ≤ 1048576) :
  Calls Tryz.prog 133 #[.string s] w fun e w' => e = .returned (.string (foldB s)) ∧ Below w.heap.size w w' := by
 obtain ⟨i0, hi, hz0, hz1, hz2⟩ := info_parts Tryz.infoStr
 cases hN : isN s with
 | false =>
  have HF : Hid (foldB s = ByteArray.empty) := foldB_no hN
  go_enter Tryz.func133, Tryz.ntmps133
  go_wp2_with (go_at_call 109; refine (split_any s _ hs).mono ?_; rintro e w' ⟨v, rfl, hv, hB⟩)
  go_ret
  exact ⟨by rw [HF.out]; rfl, hB⟩
 | true =>
  have HF : Hid (foldB s = lowB s) := foldB_yes hN
  have HP : Hid (putB ((labs s).map lowB) = foldB s) := by unfold Hid; rw [HF.out, putB_low_labs hN]
  have hs255 : s.size ≤ 255 := ((isN_iff s).1 hN).1
  have HM : Hid (∀ x ∈ labs s, x.size ≤ 63) := fun x hx => (labs_mem hx).2
  have HZ : Hid (putB (labs s) = s) := putB_labs hN
  have hll : (labs s).length ≤ 255 := by have := chunks_len (labs s); have := putB_size (labs s); rw [HZ.out] at this; omega
  go_enter Tryz.func133, Tryz.ntmps133
  go_wp2_with (go_at_call 109; refine (split_yes s _ hs hN).mono ?_; rintro e w' ⟨p, cap, rfl, ⟨hc, _⟩, hB⟩)
  go_loopw [5, 17] (fun ov i wr => ∃ k : Nat, i = .int .i64 k ∧ k ≤ (labs s).length ∧ wr.ownsRow w'.heap.size 9 1 ov k ((((labs s).map lowB).take k).map Value.string) ∧ Below w'.heap.size w' wr)
   (fun _ i _ => (labs s).length - (intOf i).toNat)
  case atStart => exact ⟨0, rfl, Nat.zero_le _, World.ownsRow_nil _ _ _ _, Below.refl _ _⟩
  case round =>
   obtain ⟨k, rfl, hk, hown, hBr⟩ := hrel
   by_cases hlt : k < (labs s).length
   ·obtain ⟨g, off, rfl, hg, hcell0⟩ := hc k hlt
    have hcell := (hBr.cell (p := ⟨g, off + k, none⟩) hg).trans hcell0
    have hx63 : (labs s)[k].size ≤ 63 := HM.out _ (List.getElem_mem _)
    obtain ⟨x, hx⟩ : ∃ x, (labs s)[k] = x := ⟨_, rfl⟩
    rw [hx] at hcell hx63
    have HT : Hid ((((labs s).map lowB).take (k + 1)).map Value.string = (((labs s).map lowB).take k).map Value.string ++ [.string (lowB x)]) := by
     unfold Hid
     rw [List.take_succ_eq_append_getElem (by simpa using hlt)]
     simp [hx]
    clear hx hcell0
    go_wp2_with (first
     | (go_at_call 143; refine (low_any x _ (by omega)).mono ?_; rintro e w2 ⟨rfl, hB2⟩; have hown2 := ownsRow_below hown hB2)
     | (at_builtin; refine wpList_append_own _ rfl _ _ 93 rfl w'.heap.size 9 i0 (.string .empty) 1 16 Tryz.underlying93 hi hz0 hz1 hz2 rfl (by decide) _ _ _ rfl (hown2.alloc _) ⟨w2.heap.size, 0, none⟩ 1 1 [.string (lowB x)] rfl rfl (cell_one_new _ _ _) (by simp [Value.oneCell']) (by unfold maxLen; omega) (by omega) (by have := hBr.size; have := hB2.size; simp; omega) ?_; intro v' w3 hown' hgrow _))
    refine ⟨⟨k + 1, by go_num, hlt, ?_, below_app (bstep hBr hB2 hBr.size) (Nat.le_refl _) hown2 hgrow⟩, ?_⟩
    ·rw [HT.out]; exact hown'
    ·simp [intOf]; omega
   ·have hstr : Strs wr u5 ((labs s).map lowB) := by
     refine Strs.of_owns (base := w'.heap.size) ?_
     rw [List.take_of_length_le (by simp; omega), show k = (labs s).length by omega] at hown
     rw [List.length_map]; exact hown
    have hz : (putB ((labs s).map lowB)).size ≤ 4294967296 := by rw [HP.out, HF.out, lowB_size]; omega
    have hM2 : ∀ x ∈ (labs s).map lowB, x.size ≤ 255 := by
     intro x hx
     obtain ⟨y, hy, rfl⟩ := List.mem_map.1 hx
     have := HM.out y hy
     rw [lowB_size]; omega
    have HS := hstr
    have HZ2 : Hid ((putB ((labs s).map lowB)).size ≤ 4294967296) := hz
    have HM2 : Hid (∀ x ∈ (labs s).map lowB, x.size ≤ 255) := hM2
    clear hstr hz hM2
    go_wp2_with (go_at_call 142; refine (put_any u5 ((labs s).map lowB) _ HS HM2.out HZ2.out).mono ?_; rintro e w4 ⟨rfl, hB4⟩)
    go_ret
    exact ⟨by rw [HP.out]; rfl, bstep (hB.trans (hBr.mono hB.size)) hB4 (Nat.le_trans hB.size hBr.size)⟩
theorem fold_any (s : ByteArray) (w : World) (hm : s.size ≤ maxLen) :
  Calls Tryz.prog 37 #[.string s] w fun e w' => e = .returned (.string (foldB s)) ∧ Below w.heap.size w w' := by
 cases hN : isN s with
 | false =>
  have HF : Hid (foldB s = ByteArray.empty) := foldB_no hN
  go_enter Tryz.func37, Tryz.ntmps37
  go_wp2_with (go_at_call 67; refine (isName_any s _ hm).mono ?_; rintro e w' ⟨rfl, hB⟩)
  go_ret
  exact ⟨by rw [HF.out]; rfl, hB⟩
 | true =>
  have HF : Hid (foldB s = lowB s) := foldB_yes hN
  have hs255 : s.size ≤ 255 := ((isN_iff s).1 hN).1
  go_enter Tryz.func37, Tryz.ntmps37
  go_wp2_with (first
   | (go_at_call 67; refine (isName_any s _ hm).mono ?_; rintro e w' ⟨rfl, hB⟩)
   | (go_at_call 68; refine (small_any s _ (by omega)).mono ?_; rintro e w2 ⟨rfl, hB2⟩))
  go_ret
  exact ⟨by rw [HF.out]; rfl, bstep hB hB2 hB.size⟩
end Go.Proofs.YtoabnpdoicbpiaaGreat
namespace Go.Proofs.YtoabnpdoicbpiaaGreat
set_option linter.unusedVariables false
open Go.RowKit Go.Shelf Go.Proofs.YtoabnpdoicbpiaaGreat.Nm
attribute [local go_sem] Oper.semAt_some
theorem isName_in (s : ByteArray) (n : Nat) (w : World) (hm : s.size ≤ maxLen) :
  CallsIn Fence.wide n Tryz.prog 67 #[.string s] w fun e W' => e = .returned (.bool (isN s)) ∧ Below w.heap.size w W' := callsIn_wide.2 (isName_any s w hm)
set_option maxRecDepth 100000 in
set_option maxHeartbeats 2000000 in
theorem count_in (s : ByteArray) (w : World) (hm : s.size ≤ maxLen) :
  CallsIn Fence.wide 3 Tryz.prog 36 #[.string s] w fun e W' => e = .returned (.int .i64 (cntI s)) ∧ Below w.heap.size w W' := by
 have hro : Fence.wide.round = none := rfl
 cases hN : isN s with
 | false =>
  have HC : Hid (cntI s = -1) := cntI_no hN
  refine callsIn_of_wp_marks Tryz.func36 rfl trivial ?_ hro
  simp only [Tryz.ntmps36, List.size_toArray, List.length_cons, List.length_nil, Nat.reduceAdd, Nat.reduceSub, Array.replicate_succ, Array.replicate_zero, List.push_toArray, List.append_toArray, List.nil_append, List.cons_append]
  gi_wp2_with (refine ⟨trivial, ?_⟩; gi_at_call 67; refine (isName_in s _ _ hm).mono ?_; rintro e w' ⟨rfl, hB⟩)
  exact ⟨_, results_tmp rfl _ _ _, by rw [HC.out]; rfl, hB⟩
 | true =>
  have HC : Hid (cntI s = ((labs s).length : Nat)) := cntI_yes hN
  have hs : s.size ≤ 255 := ((isN_iff s).1 hN).1
  refine callsIn_of_wp_marks Tryz.func36 rfl trivial ?_ hro
  simp only [Tryz.ntmps36, List.size_toArray, List.length_cons, List.length_nil, Nat.reduceAdd, Nat.reduceSub, Array.replicate_succ, Array.replicate_zero, List.push_toArray, List.append_toArray, List.nil_append, List.cons_append]
  gi_wp2_with (first
   | (refine ⟨trivial, ?_⟩; gi_at_call 67; refine (isName_in s _ _ hm).mono ?_; rintro e w1 ⟨rfl, hB1⟩)
   | (refine ⟨trivial, ?_⟩; gi_at_call 32; refine (walk_in Fence.wide _ trivial rfl _ _).mono ?_; rintro e w' ⟨rfl, rfl⟩))
  have hs1 := cell_new_l w1 (.int .i64 0) 3
  have hb := cell_new_l (w1.alloc (.cells #[.int .i64 0] 3)) (.string s) 9
  rw [World.size_alloc] at hb
  have hB0 : Below w1.heap.size w1 ((w1.alloc (.cells #[.int .i64 0] 3)).alloc (.cells #[.string s] 9)) := ((Below.refl _ w1).alloc (Nat.le_refl _) _).alloc (by simp) _
  refine wpIn_rangeFunc_ownF hro (by omega) (gf := 65) (lb := #[.pointer (some ⟨w1.heap.size + 1, 0, none⟩)]) rfl trivial (enters_of Tryz.func65 (by kernel_rfl) rfl)
   (walk_stops Fence.wide _ trivial hro (by omega) (w1.heap.size + 1) s hs _ (by simp) hb.1) kpB_t (kpB_b (w := (w1.alloc (.cells #[.int .i64 0] 3)).alloc (.cells #[.string s] 9))) (Below.refl _ _) (fun _ => rfl)
   (fun pre W => (W.cell? ⟨w1.heap.size, 0, none⟩ = some (.int .i64 pre.length) ∧ W.frozen? ⟨w1.heap.size, 0, none⟩ = false) ∧ Below w1.heap.size w1 W)
   (fun _ _ _ => False)
   (OwnFrom.and (Own.from (fun s A B row hs hg hr => ⟨cell_kept hs.1 hg hr, (frozen_kept hs.1 hg hr).trans hs.2⟩) _) (ownFrom_below (Nat.le_refl _) (by simp; omega)))
   (fun _ _ _ _ _ hs _ _ => hs)
   ⟨⟨cell_alloc_l _ hs1.1, frozen_alloc_l _ hs1.1 hs1.2⟩, hB0⟩
   (fun x => { tmps := #[Value.string s, undef, Value.int IntKind.i64 0, Value.pointer (some { block := w1.heap.size, off := 0 }),
           Value.string s, Value.bool true, Value.bool false, Value.string s,
           Value.func (Fn.func 65) #[] #[Value.pointer (some { block := w1.heap.size + 1, off := 0 })], .int .i64 x.1.1, .string x.1.2,
           undef, undef, undef], defers := [] }) ?assign ?body ?done ?stop
  case assign =>
   intro l x W K hK
   dsimp only [encL]
   gi_wp2
   go_simp
   exact hK
  case body =>
   rintro l pre ⟨⟨i, lab⟩, hx⟩ W ⟨⟨hc, hf⟩, hB⟩ hpl
   dsimp only at hx ⊢
   gi_wp2
   refine ⟨KeepsOthers.setCell _ _ _, fun v e => ?_, ⟨?_, by rw [World.frozen?_setCell]; exact hf⟩, hB.setCell (p := ⟨w1.heap.size, 0, none⟩) (Nat.le_refl _) _⟩
   ·rw [cell_far _ _ _ _ (by simp)]; exact e
   ·rw [World.cell?_setCell_same' _ _ _ (by rw [hc]; rfl)]; simp
  case done =>
   rintro D ys W hD rfl ⟨⟨hc, _⟩, hB⟩ hK
   gi_wp2
   refine ⟨by simp, .inl ⟨_, _, rfl, run_takeDeferred hK, ?_⟩⟩
   refine ⟨_, results_tmp rfl _ _ _, ?_, ?_⟩
   ·rw [HC.out, labs_len]; rfl
   ·exact (hB1.trans (hB.mono hB1.size)).trans (belowK_b (w := w) (Nat.le_refl _) W D _ _ (by have := hB1.size; simp at hD; omega) hK rfl rfl)
  case stop =>
   rintro D c pre W _ _ h _
   exact h.elim
theorem count_any (s : ByteArray) (w : World) (hm : s.size ≤ maxLen) :
  Calls Tryz.prog 36 #[.string s] w fun e W' => e = .returned (.int .i64 (cntI s)) ∧ Below w.heap.size w W' := callsIn_wide.1 (count_in s w hm)
theorem tail_cells (s t : ByteArray) (w w1 : World) (hB : Below ((w.alloc (Obj.cells #[Value.string s] 9)).alloc (Obj.cells #[Value.string t] 9)).heap.size
        ((w.alloc (Obj.cells #[Value.string s] 9)).alloc (Obj.cells #[Value.string t] 9)) w1) :
  w1.cell? ⟨w.heap.size, 0, none⟩ = some (.string s) ∧ w1.cell? ⟨w.heap.size + 1, 0, none⟩ = some (.string t) ∧ w1.frozen? ⟨w.heap.size + 1, 0, none⟩ = false ∧ Below w.heap.size w w1 ∧ w.heap.size + 2 ≤ w1.heap.size := by
 have c0 := cell_new_l w (.string s) 9
 have c1 := cell_new_l (w.alloc (.cells #[.string s] 9)) (.string t) 9
 rw [World.size_alloc] at c1
 have hz := hB.size
 simp only [World.size_alloc] at hB hz
 refine ⟨(hB.cell (p := ⟨w.heap.size, 0, none⟩) (by simp; omega)).trans (cell_alloc_l _ c0.1), (hB.cell (p := ⟨w.heap.size + 1, 0, none⟩) (by simp)).trans c1.1, (hB.frozen (p := ⟨w.heap.size + 1, 0, none⟩) (by simp)).trans c1.2, ?_, by omega⟩
 exact (((Below.refl _ w).alloc (Nat.le_refl _) _).alloc (by simp) _).trans (hB.mono (by omega))
set_option maxRecDepth 100000 in
set_option maxHeartbeats 2000000 in
theorem tail_in (s : ByteArray) (k : Int) (w : World) (hm : s.size ≤ maxLen) :
  CallsIn Fence.wide 3 Tryz.prog 35 #[.string s, .int .i64 k] w fun e W' => e = .returned (.string (tailB s k)) ∧ Below w.heap.size w W' := by
 have hro : Fence.wide.round = none := rfl
 by_cases hyes : isN s = true ∧ 0 ≤ k ∧ k ≤ (labs s).length
 ·obtain ⟨hN, hk0, hkl⟩ := hyes
  obtain ⟨q, rfl⟩ := Int.eq_ofNat_of_zero_le hk0
  have HC : Hid (cntI s = ((labs s).length : Nat)) := cntI_yes hN
  have hs : s.size ≤ 255 := ((isN_iff s).1 hN).1
  have hl254 := labs_len_le hN
  have hkl' : q ≤ (labs s).length := by omega
  refine callsIn_of_wp_marks Tryz.func35 rfl trivial ?_ hro
  simp only [Tryz.ntmps35, List.size_toArray, List.length_cons, List.length_nil, Nat.reduceAdd, Nat.reduceSub, Array.replicate_succ, Array.replicate_zero, List.push_toArray, List.append_toArray, List.nil_append, List.cons_append]
  gi_wp2_with (first
   | (refine ⟨trivial, ?_⟩; gi_at_call 36; refine (callsIn_wide.2 (count_any s _ hm)).mono ?_; rintro e w1 ⟨rfl, hB1⟩; rw [HC.out]; obtain ⟨hn1, hr1, hf1, hB1', hz1⟩ := tail_cells _ _ _ _ hB1; have hn2 := fun o => cell_alloc_l o hn1)
   | (refine ⟨trivial, ?_⟩; gi_at_call 32; refine (walk_in Fence.wide _ trivial rfl _ _).mono ?_; rintro e w' ⟨rfl, rfl⟩))
  obtain ⟨m, hm1, hm2⟩ : ∃ m : Nat, ((labs s).length : Int) - (q : Int) = (m : Int) ∧ m ≤ 254 ∧ Hid (m + q = (labs s).length) := ⟨(labs s).length - q, by omega, by omega, by unfold Hid; omega⟩
  obtain ⟨hm2, HM⟩ := hm2
  rw [hm1]
  clear hm1 hB1
  have hs1 := cell_new_l w1 (.int .i64 (m : Int)) 3
  have hb := cell_new_l (w1.alloc (.cells #[.int .i64 (m : Int)] 3)) (.string s) 9
  rw [World.size_alloc] at hb
  have hB0 : Below w.heap.size w ((w1.alloc (.cells #[.int .i64 (m : Int)] 3)).alloc (.cells #[.string s] 9)) := (hB1'.alloc (by omega) _).alloc (by simp; omega) _
  refine wpIn_rangeFunc_ownF hro (by omega) (gf := 65) (lb := #[.pointer (some ⟨w1.heap.size + 1, 0, none⟩)]) rfl trivial (enters_of Tryz.func65 (by kernel_rfl) rfl)
   (walk_stops Fence.wide _ trivial hro (by omega) (w1.heap.size + 1) s hs _ (by simp) hb.1) kpB_t (kpB_b (w := (w1.alloc (.cells #[.int .i64 (m : Int)] 3)).alloc (.cells #[.string s] 9))) (Below.refl _ _) (fun _ => rfl)
   (fun pre W => (pre.length ≤ m ∧ W.cell? ⟨w1.heap.size, 0, none⟩ = some (.int .i64 ((m : Int) - (pre.length : Int))) ∧ W.frozen? ⟨w1.heap.size, 0, none⟩ = false ∧ W.cell? ⟨w.heap.size, 0, none⟩ = some (.string s) ∧
          W.cell? ⟨w.heap.size + 1, 0, none⟩ = some (.string ⟨#[]⟩) ∧ W.frozen? ⟨w.heap.size + 1, 0, none⟩ = false) ∧ Below w.heap.size w W)
   (fun c pre W => (c = .ret ∧ (∃ pre' x, pre = pre' ++ [x] ∧ pre'.length = m ∧ W.cell? ⟨w.heap.size + 1, 0, none⟩ = some (.string (s.extract x.1.1 s.size)))) ∧ Below w.heap.size w W)
   (OwnFrom.and (Own.from (fun s A B row hs hg hr => ⟨hs.1, cell_kept hs.2.1 hg hr, (frozen_kept hs.2.1 hg hr).trans hs.2.2.1, cell_kept hs.2.2.2.1 hg hr, cell_kept hs.2.2.2.2.1 hg hr, (frozen_kept hs.2.2.2.2.1 hg hr).trans hs.2.2.2.2.2⟩) _) (ownFrom_below (Nat.le_refl _) (by simp; omega)))
   (fun c => OwnFrom.and (Own.from (fun s A B row hs hg hr => ⟨hs.1, by obtain ⟨p', x, h1, h2, h3⟩ := hs.2; exact ⟨p', x, h1, h2, cell_kept h3 hg hr⟩⟩) _) (ownFrom_below (Nat.le_refl _) (by simp; omega)))
   ⟨⟨Nat.zero_le _, (by rw [List.length_nil, Int.natCast_zero, Int.sub_zero]; exact cell_alloc_l _ hs1.1), frozen_alloc_l _ hs1.1 hs1.2, cell_alloc_l _ (cell_alloc_l _ hn1), cell_alloc_l _ (cell_alloc_l _ hr1), frozen_alloc_l _ (cell_alloc_l _ hr1) (frozen_alloc_l _ hr1 hf1)⟩, hB0⟩
   (fun x => { tmps := #[Value.string s, Value.int IntKind.i64 ↑q, Value.pointer (some { block := w.heap.size, off := 0 }), undef,
           Value.pointer (some { block := w.heap.size + 1, off := 0 }), Value.int IntKind.i64 ↑(labs s).length,
           Value.pointer (some { block := w1.heap.size, off := 0 }), .int .i64 x.1.1, Value.string s,
           Value.int IntKind.i64 ↑(labs s).length, Value.int IntKind.i64 ↑q, Value.bool (decide ((q : Int) < 0)),
           Value.bool (decide ((q : Int) < 0)), Value.int IntKind.i64 ↑q, Value.int IntKind.i64 ↑(labs s).length,
           Value.bool false, Value.bool (decide ((q : Int) < 0)), Value.int IntKind.i64 ↑(labs s).length,
           Value.int IntKind.i64 ↑q, Value.int IntKind.i64 (m : Int), Value.string s,
           Value.func (Fn.func 65) #[] #[Value.pointer (some { block := w1.heap.size + 1, off := 0 })], .int .i64 x.1.1, .string x.1.2,
           undef, undef, undef, undef, undef, undef, undef], defers := [] }) ?assign ?body ?done ?stop
  case assign =>
   intro l x W K hK
   dsimp only [encL]
   gi_wp2
   exact hK
  case body =>
   rintro l pre x W ⟨⟨hple, hc, hf, hcn, hcr, hfr⟩, hB⟩ _
   obtain ⟨⟨i, lab⟩, hx⟩ := x
   dsimp only at hx ⊢
   by_cases hz : pre.length = m
   ·have hz0 : ((m : Int) - (pre.length : Int) == 0) = true := by rw [beq_iff_eq]; omega
    have hz0' : (m : Int) - (pre.length : Int) = 0 := by omega
    rw [hz0'] at hc
    clear hz0 hz0'
    have HZ : Hid (pre.length = m) := hz
    clear hz
    gi_wp2
    refine ⟨KeepsOthers.setCell _ _ _, ⟨rfl, pre, ⟨(i, lab), hx⟩, rfl, HZ.out, ?_⟩, hB.setCell (p := ⟨w.heap.size + 1, 0, none⟩) (by simp) _⟩
    exact World.cell?_setCell_same' _ _ _ (by rw [hcr]; rfl)
   ·have hz0 : ((m : Int) - (pre.length : Int) == 0) = false := by rw [beq_eq_false_iff_ne]; omega
    gi_wp2
    refine ⟨KeepsOthers.setCell _ _ _, fun v e => ?_, ⟨by simp; omega, ?_, by rw [World.frozen?_setCell]; exact hf, ?_, ?_, by rw [World.frozen?_setCell]; exact hfr⟩, hB.setCell (p := ⟨w1.heap.size, 0, none⟩) (by simp; omega) _⟩
    ·rw [cell_far _ _ _ _ (by simp)]; exact e
    ·rw [World.cell?_setCell_same' _ _ _ (by rw [hc]; rfl)]; simp; omega
    ·rw [cell_far _ _ _ _ (by simp; omega)]; exact hcn
    ·rw [cell_far _ _ _ _ (by simp; omega)]; exact hcr
  case done =>
   rintro D ys W hD rfl ⟨⟨hple, _, _, _, hcr, hfr⟩, hB⟩ hK
   have HQ : Hid (tailB s q = ⟨#[0]⟩) := by
    have := HM.out
    have := labs_len s
    have hq : q = 0 := by omega
    unfold Hid tailB
    rw [if_pos ⟨hN, hk0, hkl⟩, hq, show ((0 : Nat) : Int).toNat = 0 from rfl, Nat.sub_zero, List.drop_of_length_le (Nat.le_refl _), labs_nil_putB]
   gi_wp2
   have hK' := (KeepsOthers.setCell W ⟨w.heap.size + 1, 0, none⟩ (.string ⟨#[0]⟩)).same D _ hK rfl
   refine ⟨by simp, .inl ⟨_, _, rfl, run_takeDeferred hK', ?_⟩⟩
   have hc5 := cell_kept (World.cell?_setCell_same' W ⟨w.heap.size + 1, 0, none⟩ (.string ⟨#[0]⟩) (by rw [hcr]; rfl)) (grownBy_putObj' _ D (.deferred none)) (fun r e => by cases e; exact ⟨_, hK', rfl⟩)
   refine ⟨.string ⟨#[0]⟩, ?_, by rw [HQ.out], (hB.setCell (p := ⟨w.heap.size + 1, 0, none⟩) (by simp) _).trans (belowK_b (w := w) (Nat.le_refl _) _ D _ _ (by simp at hD; omega) hK' rfl rfl)⟩
   simp [results, Tryz.f35, go_sem, hc5]
  case stop =>
   rintro D c pre W hD hpre ⟨⟨rfl, pre', x, rfl, hpl, hcr⟩, hB⟩ hK
   have HQ : Hid (tailB s q = s.extract x.1.1 s.size) := by
    have := HM.out
    unfold Hid tailB
    rw [if_pos ⟨hN, hk0, hkl⟩, tail_at hN hpre, hpl]
    congr 2; omega
   gi_wp2
   refine ⟨by simp, .inl ⟨_, _, rfl, run_takeDeferred hK, ?_⟩⟩
   have hc5 := cell_kept hcr (grownBy_putObj' _ D (.deferred none)) (fun r e => by cases e; exact ⟨_, hK, rfl⟩)
   refine ⟨.string (s.extract x.1.1 s.size), ?_, by rw [HQ.out], hB.trans (belowK_b (w := w) (Nat.le_refl _) W D _ _ (by simp at hD; omega) hK rfl rfl)⟩
   simp [results, Tryz.f35, go_sem, hc5]
 ·have HT : Hid (tailB s k = ByteArray.empty) := by unfold Hid tailB; rw [if_neg hyes]
  obtain ⟨c, hc, hck⟩ : ∃ c, cntI s = c ∧ (k < 0 ∨ c < k) := ⟨_, rfl, by
         cases hN : isN s with
   | false => rw [cntI_no hN]; omega
   | true =>
          rw [cntI_yes hN]
          by_cases h : k < 0
          ·exact .inl h
          ·exact .inr (by apply Int.lt_of_not_ge; intro h2; exact hyes ⟨hN, by omega, h2⟩)⟩
  have HC : Hid (cntI s = c) := hc
  clear hc hyes
  rcases hck with hk | hk
  all_goals
   refine callsIn_of_wp_marks Tryz.func35 rfl trivial ?_ hro
   simp only [Tryz.ntmps35, List.size_toArray, List.length_cons, List.length_nil, Nat.reduceAdd, Nat.reduceSub, Array.replicate_succ, Array.replicate_zero, List.push_toArray, List.append_toArray, List.nil_append, List.cons_append]
   gi_wp2_with (refine ⟨trivial, ?_⟩; gi_at_call 36; refine (callsIn_wide.2 (count_any s _ hm)).mono ?_; rintro e w1 ⟨rfl, hB1⟩; rw [HC.out]; obtain ⟨hn1, hr1, hf1, hB1', hz1⟩ := tail_cells _ _ _ _ hB1)
  all_goals
   have hc5 := World.cell?_setCell_same' w1 ⟨w.heap.size + 1, 0, none⟩ (.string ⟨#[]⟩) (by rw [hr1]; rfl)
   refine ⟨.string ⟨#[]⟩, ?_, by rw [HT.out]; rfl, hB1'.setCell (p := ⟨w.heap.size + 1, 0, none⟩) (by simp) _⟩
   simp [results, Tryz.f35, go_sem, hc5]
theorem tail_any (s : ByteArray) (k : Int) (w : World) (hm : s.size ≤ maxLen) :
  Calls Tryz.prog 35 #[.string s, .int .i64 k] w fun e W' => e = .returned (.string (tailB s k)) ∧ Below w.heap.size w W' := callsIn_wide.1 (tail_in s k w hm)
end Go.Proofs.YtoabnpdoicbpiaaGreat
namespace Go.Proofs.YtoabnpdoicbpiaaGreat
set_option linter.unusedVariables false
open Go.RowKit Go.Shelf Go.Proofs.YtoabnpdoicbpiaaGreat.Nm
theorem ext_t {a b c : World} (h : Below a.heap.size a b) (k : Below b.heap.size b c) : Below a.heap.size a c := h.trans (k.mono h.size)
theorem small_max {n : Nat} (h : n ≤ 1048576) : n ≤ maxLen := by unfold maxLen; omega
theorem tail_max (s : ByteArray) (k : Int) : (tailB s k).size ≤ maxLen := small_max (by have := tailB_size s k; omega)
theorem tail_small (s : ByteArray) (k : Int) : (tailB s k).size ≤ 1048576 := by have := tailB_size s k; omega
theorem addr_add (g off d : Nat) : Addr.add ⟨g, off, none⟩ d = ⟨g, off + d, none⟩ := by unfold Addr.add; split <;> simp_all
theorem strs_drop1 {w : World} {p : Option Addr} {l : List ByteArray} (h : StrsAt w p l) (d cap : Nat) : Strs w (.slice (Option.map (fun x => x.add d) p) (l.length - d) cap) (l.drop d) := by
 refine ⟨_, cap, by rw [List.length_drop], fun j hj => ?_⟩
 rw [List.length_drop] at hj
 obtain ⟨g, off, rfl, hg, hc⟩ := h (d + j) (by omega)
 refine ⟨g, off + d, by simp [addr_add], hg, ?_⟩
 rw [List.getElem_drop, Nat.add_assoc]; exact hc
theorem strs_drop0 {w : World} {p : Option Addr} {l : List ByteArray} {d : Nat} (h : l.length ≤ d) (cap : Nat) : Strs w (.slice p (l.length - d) cap) (l.drop d) :=
 ⟨p, cap, by rw [List.length_drop], fun j hj => by rw [List.length_drop] at hj; omega⟩
theorem equal_any (a b : ByteArray) (w : World) (ha : a.size ≤ maxLen) (hb : b.size ≤ maxLen) :
  Calls Tryz.prog 34 #[.string a, .string b] w fun e w' => e = .returned (.bool (eqB a b)) ∧ Below w.heap.size w w' := by
 cases hN : isN a with
 | false =>
  have HE : Hid (eqB a b = false) := by unfold Hid eqB; rw [hN]; rfl
  go_enter Tryz.func34, Tryz.ntmps34
  go_wp2_with (go_at_call 67; refine (isName_any _ _ ha).mono ?_; rintro e w1 ⟨rfl, hB1⟩)
  go_ret
  exact ⟨by rw [HE.out]; rfl, hB1⟩
 | true =>
  have HE : Hid (eqB a b = ((foldB a).toList == (foldB b).toList)) := by unfold Hid eqB; rw [hN]; rfl
  go_enter Tryz.func34, Tryz.ntmps34
  go_wp2_with (first
   | (go_at_call 67; refine (isName_any _ _ ha).mono ?_; rintro e w1 ⟨rfl, hB1⟩)
   | (go_at_call 37; refine (fold_any _ _ (by assumption)).mono ?_; rintro e w2 ⟨rfl, hB2⟩; have hB1 := ext_t hB1 hB2; clear hB2))
  go_ret
  refine ⟨by rw [HE.out]; rfl, ?_⟩
  assumption
theorem equalName_any (a b : ByteArray) (w : World) (ha : a.size ≤ 1048576) (hb : b.size ≤ 1048576) :
  Calls Tryz.prog 113 #[.string a, .string b] w fun e w' => e = .returned (.bool (eqB a b)) ∧ Below w.heap.size w w' := by
 have HE : Hid ((isN a && isN b && ((foldB a).toList == (foldB b).toList)) = eqB a b) := eqB_ref a b
 have hB0 := Below.refl w.heap.size w
 cases hN : isN a with
 | false =>
  rw [hN] at HE
  go_enter Tryz.func113, Tryz.ntmps113
  go_wp2_with (go_at_call 80; refine (refIsName_any _ _ (by assumption)).mono ?_; rintro e w1 ⟨rfl, hB1⟩; have hB0 := ext_t hB0 hB1; clear hB1)
  go_ret
  refine ⟨by rw [← HE.out]; rfl, ?_⟩
  assumption
 | true =>
  cases hM : isN b with
  | false =>
   rw [hN, hM] at HE
   go_enter Tryz.func113, Tryz.ntmps113
   go_wp2_with (go_at_call 80; refine (refIsName_any _ _ (by assumption)).mono ?_; rintro e w1 ⟨rfl, hB1⟩; have hB0 := ext_t hB0 hB1; clear hB1)
   go_ret
   refine ⟨by rw [← HE.out]; rfl, ?_⟩
   assumption
  | true =>
   rw [hN, hM] at HE
   go_enter Tryz.func113, Tryz.ntmps113
   go_wp2_with (first
    | (go_at_call 80; refine (refIsName_any _ _ (by assumption)).mono ?_; rintro e w1 ⟨rfl, hB1⟩; have hB0 := ext_t hB0 hB1; clear hB1)
    | (go_at_call 133; refine (foldName_any _ _ (by assumption)).mono ?_; rintro e w1 ⟨rfl, hB1⟩; have hB0 := ext_t hB0 hB1; clear hB1))
   go_ret
   refine ⟨by rw [← HE.out]; rfl, ?_⟩
   assumption
theorem within_any (n z : ByteArray) (w : World) (hn : n.size ≤ maxLen) (hz : z.size ≤ maxLen) :
  Calls Tryz.prog 14 #[.string n, .string z] w fun e w' => e = .returned (.bool (withinB n z)) ∧ Below w.heap.size w w' := by
 have hB0 := Below.refl w.heap.size w
 go_enter Tryz.func14, Tryz.ntmps14
 go_wp2_with (first
  | (go_at_call 36; refine (count_any _ _ hz).mono ?_; rintro e w1 ⟨rfl, hB1⟩; have hB0 := ext_t hB0 hB1; clear hB1)
  | (go_at_call 35; refine (tail_any _ _ _ hn).mono ?_; rintro e w1 ⟨rfl, hB1⟩; have hB0 := ext_t hB0 hB1; clear hB1)
  | (go_at_call 34; refine (equal_any _ _ _ (tail_max _ _) hz).mono ?_; rintro e w1 ⟨rfl, hB1⟩; have hB0 := ext_t hB0 hB1; clear hB1))
 go_ret
 refine ⟨rfl, ?_⟩
 assumption
theorem refCount_any (s : ByteArray) (w : World) (hs : s.size ≤ 1048576) :
  Calls Tryz.prog 130 #[.string s] w fun e w' => e = .returned (.int .i64 (cntI s)) ∧ Below w.heap.size w w' := by
 cases hN : isN s with
 | false =>
  have HC : Hid (cntI s = -1) := cntI_no hN
  go_enter Tryz.func130, Tryz.ntmps130
  go_wp2_with (go_at_call 109; refine (split_no s _ hs hN).mono ?_; rintro e w1 ⟨v, rfl, hB1⟩)
  go_ret
  exact ⟨by rw [HC.out]; rfl, hB1⟩
 | true =>
  have HC : Hid (cntI s = ((labs s).length : Nat)) := cntI_yes hN
  go_enter Tryz.func130, Tryz.ntmps130
  go_wp2_with (go_at_call 109; refine (split_yes s _ hs hN).mono ?_; rintro e w1 ⟨p, cap, rfl, ⟨hc, hcap, hcap2, _⟩, hB1⟩)
  go_ret
  exact ⟨by rw [HC.out]; rfl, hB1⟩
set_option maxRecDepth 100000 in
set_option maxHeartbeats 1000000 in
theorem refTail_any (s : ByteArray) (k : Int) (w : World) (hs : s.size ≤ 1048576) :
  Calls Tryz.prog 131 #[.string s, .int .i64 k] w fun e w' => e = .returned (.string (tailB s k)) ∧ Below w.heap.size w w' := by
 cases hN : isN s with
 | false =>
  have HT : Hid (tailB s k = ByteArray.empty) := tailB_no (fun h => by rw [hN] at h; cases h.1)
  go_enter Tryz.func131, Tryz.ntmps131
  go_wp2_with (go_at_call 109; refine (split_no s _ hs hN).mono ?_; rintro e w1 ⟨v, rfl, hB1⟩)
  go_ret
  exact ⟨by rw [HT.out]; rfl, hB1⟩
 | true =>
  by_cases hk0 : k < 0
  ·have HT : Hid (tailB s k = ByteArray.empty) := tailB_no (fun h => by omega)
   go_enter Tryz.func131, Tryz.ntmps131
   go_wp2_with (go_at_call 109; refine (split_yes s _ hs hN).mono ?_; rintro e w1 ⟨p, cap, rfl, ⟨hc, hcap, hcap2, _⟩, hB1⟩)
   go_ret
   exact ⟨by rw [HT.out]; rfl, hB1⟩
  ·by_cases hkl : ((labs s).length : Int) < k
   ·have HT : Hid (tailB s k = ByteArray.empty) := tailB_no (fun h => by omega)
    have hk0' : 0 ≤ k := by omega
    go_enter Tryz.func131, Tryz.ntmps131
    go_wp2_with (go_at_call 109; refine (split_yes s _ hs hN).mono ?_; rintro e w1 ⟨p, cap, rfl, ⟨hc, hcap, hcap2, _⟩, hB1⟩)
    go_ret
    exact ⟨by rw [HT.out]; rfl, hB1⟩
   ·obtain ⟨q, rfl⟩ := Int.eq_ofNat_of_zero_le (show 0 ≤ k by omega)
    have hq : q ≤ (labs s).length := by omega
    have hl := labs_len_le hN
    obtain ⟨t1, t2, t3⟩ := tailB_yes hN hq
    have HT : Hid (tailB s q = putB ((labs s).drop ((labs s).length - q))) := t3
    have HZ : Hid ((putB ((labs s).drop ((labs s).length - q))).size ≤ 4294967296) := by
     unfold Hid; rw [← t3]; have := tailB_size s q; omega
    have HO : Hid (∀ x ∈ (labs s).drop ((labs s).length - q), x.size ≤ 255) := fun x hx => by have := (okL_labs s).drop _ x hx; omega
    clear t1 t2 t3 hk0 hkl
    obtain ⟨d, hd, HD, hd2⟩ : ∃ d : Nat, ((labs s).length : Int) - (q : Int) = (d : Int) ∧ Hid ((labs s).length - q = d) ∧ d ≤ (labs s).length := ⟨(labs s).length - q, by omega, rfl, by omega⟩
    go_enter Tryz.func131, Tryz.ntmps131
    rw [HD.out] at HZ HO HT
    go_wp2_with (first
     | (go_at_call 109; refine (split_yes s _ hs hN).mono ?_; rintro e w1 ⟨p, cap, rfl, ⟨hc, hcap, hcap2, _⟩, hB1⟩)
     | (go_at_call 142; refine (put_any _ ((labs s).drop d) _ (by first | exact strs_drop1 hc d _ | exact strs_drop0 (by omega) _) HO.out HZ.out).mono ?_; rintro e w2 ⟨rfl, hB2⟩))
    all_goals
     go_ret
     exact ⟨by rw [HT.out]; rfl, ext_t hB1 hB2⟩
end Go.Proofs.YtoabnpdoicbpiaaGreat
namespace Go.Proofs.YtoabnpdoicbpiaaGreat
set_option linter.unusedVariables false
open Go.RowKit Go.Shelf Go.Proofs.YtoabnpdoicbpiaaGreat.Nm
attribute [local go_sem] Oper.semAt_some
theorem appended2 {W w1 : World} {n₀ nb Bn B : Nat} {t e : TypeId} {size : Nat} {v v' : Value} {k m : Nat} {xs ys : List Value} {tmp : Obj}
  (hv : Boxed W B t v) (hte : t ≠ e) (hrow : W.ownsRow nb e size v k xs) (hnb : nb ≤ W.heap.size) (hn₀ : n₀ ≤ B) (hn₁ : n₀ ≤ nb) (hBn : Bn < nb) (hBB : Bn ≠ B)
  (hown' : w1.ownsRow nb e size v' m ys) (hgrow : (W.alloc tmp).grownBy w1 v.ownBlock) :
  Boxed w1 B t v ∧ Boxed (w1.setCell ⟨B, 0, none⟩ v') B t v' ∧ (w1.setCell ⟨B, 0, none⟩ v').ownsRow nb e size v' m ys ∧ KeepsOthers W (w1.setCell ⟨B, 0, none⟩ v') ∧ Below n₀ W (w1.setCell ⟨B, 0, none⟩ v') ∧ KpB Bn W (w1.setCell ⟨B, 0, none⟩ v') := by
 have hv1 : Boxed w1 B t v := (hv.alloc tmp).kept hgrow (hv.not_row hte hrow)
 refine ⟨hv1, hv1.set v', hown'.kept (grownBy_setCell' w1 B v') (.inr (hv1.not_row hte hown').symm), ?_, ?_, ?_⟩
 ·refine ((KeepsOthers.alloc W tmp).trans (KeepsOthers.of_grownBy hgrow fun j o ej hj => ?_)).trans (KeepsOthers.setCell _ _ _)
  rcases (hrow.alloc tmp).2 with ⟨rfl, _⟩ | ⟨g, cap, cur, rfl, _, hgb, _⟩
  ·simp [Value.ownBlock] at ej
  ·obtain rfl : g = j := by simpa [Value.ownBlock] using ej
   rw [hgb] at hj; cases hj; rfl
 ·refine (((Below.refl n₀ W).alloc (by omega) tmp).grown hgrow (by simp; omega) fun j ej => ?_).setCell (p := ⟨B, 0, none⟩) hn₀ v'
  have := ownBlock_le hrow ej
  omega
 ·intro u hu
  rw [cell_far _ _ _ _ (fun e => hBB e.symm)]
  refine hgrow.cell (cell_alloc_l _ hu) ?_
  intro e
  have := ownBlock_le hrow e.symm
  simp at this; omega
def labsOr (s : ByteArray) : List ByteArray := if isN s = true then labs s else []
theorem labsOr_yes {s : ByteArray} (h : isN s = true) : labsOr s = labs s := by simp [labsOr, h]
theorem labsOr_no {s : ByteArray} (h : isN s = false) : labsOr s = [] := by simp [labsOr, h]
set_option maxRecDepth 100000 in
set_option maxHeartbeats 2000000 in
theorem labels_in (s : ByteArray) (w : World) (hm : s.size ≤ maxLen) :
  CallsIn Fence.wide 3 Tryz.prog 124 #[.string s] w fun e W' => ∃ v, e = .returned v ∧ W'.ownsRow w.heap.size 9 1 v (labsOr s).length ((labsOr s).map Value.string) ∧ Below w.heap.size w W' := by
 have hro : Fence.wide.round = none := rfl
 obtain ⟨i0, hi, hz0, hz1, hz2⟩ := info_parts Tryz.infoStr
 cases hN : isN s with
 | false =>
  have HC : Hid (labsOr s = []) := labsOr_no hN
  refine callsIn_of_wp_marks Tryz.func124 rfl trivial ?_ hro
  simp only [Tryz.ntmps124, List.size_toArray, List.length_cons, List.length_nil, Nat.reduceAdd, Nat.reduceSub, Array.replicate_succ, Array.replicate_zero, List.push_toArray, List.append_toArray, List.nil_append, List.cons_append]
  gi_wp2_with (refine ⟨trivial, ?_⟩; gi_at_call 67; refine (isName_in s _ _ hm).mono ?_; rintro e w' ⟨rfl, hB⟩)
  rw [HC.out]
  exact ⟨_, results_tmp rfl _ _ _, _, rfl, World.ownsRow_nil _ _ _ _, hB⟩
 | true =>
  have HC : Hid (labsOr s = labs s) := labsOr_yes hN
  have hs : s.size ≤ 255 := ((isN_iff s).1 hN).1
  refine callsIn_of_wp_marks Tryz.func124 rfl trivial ?_ hro
  simp only [Tryz.ntmps124, List.size_toArray, List.length_cons, List.length_nil, Nat.reduceAdd, Nat.reduceSub, Array.replicate_succ, Array.replicate_zero, List.push_toArray, List.append_toArray, List.nil_append, List.cons_append]
  gi_wp2_with (first
   | (refine ⟨trivial, ?_⟩; gi_at_call 67; refine (isName_in s _ _ hm).mono ?_; rintro e w1 ⟨rfl, hB1⟩)
   | (refine ⟨trivial, ?_⟩; gi_at_call 32; refine (walk_in Fence.wide _ trivial rfl _ _).mono ?_; rintro e w' ⟨rfl, rfl⟩))
  have bO := Boxed.new w1 93 (.slice none 0 0)
  have hb := cell_new_l (w1.alloc (.cells #[.slice none 0 0] 93)) (.string s) 9
  rw [World.size_alloc] at hb
  have hB0 : Below w1.heap.size w1 ((w1.alloc (.cells #[.slice none 0 0] 93)).alloc (.cells #[.string s] 9)) := ((Below.refl _ w1).alloc (Nat.le_refl _) _).alloc (by simp) _
  refine wpIn_rangeFunc_ownF hro (by omega) (gf := 65) (lb := #[.pointer (some ⟨w1.heap.size + 1, 0, none⟩)]) rfl trivial (enters_of Tryz.func65 (by kernel_rfl) rfl)
   (walk_stops Fence.wide _ trivial hro (by omega) (w1.heap.size + 1) s hs _ (by simp) hb.1) kpB_t (kpB_b (w := (w1.alloc (.cells #[.slice none 0 0] 93)).alloc (.cells #[.string s] 9))) (Below.refl _ _) (fun _ => rfl)
   (fun pre W => (∃ v, Boxed W w1.heap.size 93 v ∧ W.ownsRow (w1.heap.size + 2) 9 1 v pre.length (pre.map (fun x => Value.string x.1.2)) ∧ True) ∧ Below w1.heap.size w1 W ∧ w1.heap.size + 2 ≤ W.heap.size)
   (fun _ _ _ => False)
   (OwnFrom.and (Own.from (holdsRow_own (w1.heap.size + 2) w1.heap.size 93 9 1 (fun pre : List (Lab s) => pre.length) (fun pre => pre.map (fun x => Value.string x.1.2)) (fun _ _ => True)) _) (OwnFrom.and (ownFrom_below (Nat.le_refl _) (by simp; omega)) (fun s W W' row h hg _ => Nat.le_trans h hg.size)))
   (fun _ _ _ _ _ hs _ _ => hs)
   ⟨⟨_, bO.alloc _, World.ownsRow_nil _ _ _ _, trivial⟩, hB0, by simp⟩
   (fun x => { tmps := #[Value.string s, undef, Value.slice none 0 0, Value.pointer (some { block := w1.heap.size, off := 0 }), undef, .string x.1.2,
           Value.string s, Value.bool true, Value.bool false, Value.string s,
           Value.func (Fn.func 65) #[] #[Value.pointer (some { block := w1.heap.size + 1, off := 0 })], .int .i64 x.1.1, .string x.1.2,
           undef, undef, undef, undef, undef], defers := [] }) ?assign ?body ?done ?stop
  case assign =>
   intro l x W K hK
   dsimp only [encL]
   gi_wp2
   exact hK
  case body =>
   rintro l pre ⟨⟨i, lab⟩, hx⟩ W ⟨⟨v, hv, hrow, _⟩, hB, hsz⟩ hpl
   dsimp only at hx ⊢
   have hc := hv.cell
   gi_wp2_with (gi_at_builtin; refine wpListIn_append_own _ rfl _ _ 93 rfl (w1.heap.size + 2) 9 i0 (.string .empty) 1 16 Tryz.underlying93 hi hz0 hz1 hz2 rfl (by decide) _ _ _ rfl (hrow.alloc _) ⟨W.heap.size, 0, none⟩ 1 1 [.string lab] rfl rfl (cell_one_new _ _ _) (by simp [Value.oneCell']) (by unfold maxLen; omega) (by omega) (by simp; omega) ?_; intro v' w2 hown' hgrow _; obtain ⟨g', cap', rfl⟩ := ownsRow_succ hown'; obtain ⟨hv1, hv2, hr2, hk2, hb2, hkp⟩ := appended2 (n₀ := w1.heap.size) (Bn := w1.heap.size + 1) hv (by decide) hrow hsz (Nat.le_refl _) (by omega) (by omega) (by omega) hown' hgrow; have hc1 := hv1.cell; have hf1 := hv1.frozen)
   exact ⟨hk2, hkp, ⟨_, hv2, by simpa using hr2, trivial⟩, hB.trans hb2, Nat.le_trans hsz hb2.size⟩
  case done =>
   rintro D ys W hD rfl ⟨⟨v, hv, hrow, _⟩, hB, hsz⟩ hK
   have hc := hv.cell
   gi_wp2
   refine ⟨by simp, .inl ⟨_, _, rfl, run_takeDeferred hK, ?_⟩⟩
   refine ⟨_, results_tmp rfl _ _ _, v, rfl, ?_, (hB1.trans (hB.mono hB1.size)).trans (belowK_b (w := w) (Nat.le_refl _) W D _ _ (by have := hB1.size; simp at hD; omega) hK rfl rfl)⟩
   have hrow2 := ownsRow_putObj hrow (.deferred none) hK rfl
   rw [HC.out, labs_len]
   have e : (labs s).map Value.string = (rest s 0).map (fun x => Value.string x.1.2) := by simp [labs, labsFrom]
   rw [e]
   obtain ⟨h1, (⟨h2, h3⟩ | ⟨g, cap, cur, h2, hb2, h4⟩)⟩ := hrow2
   ·exact ⟨h1, .inl ⟨h2, h3⟩⟩
   ·exact ⟨h1, .inr ⟨g, cap, cur, h2, by have := hB1.size; omega, h4⟩⟩
  case stop =>
   rintro D c pre W _ _ h _
   exact h.elim
theorem labels_any (s : ByteArray) (w : World) (hm : s.size ≤ maxLen) :
  Calls Tryz.prog 124 #[.string s] w fun e W' => ∃ v, e = .returned v ∧ W'.ownsRow w.heap.size 9 1 v (labsOr s).length ((labsOr s).map Value.string) ∧ Below w.heap.size w W' := callsIn_wide.1 (labels_in s w hm)
theorem labels_yes (s : ByteArray) (w : World) (hm : s.size ≤ maxLen) (hN : isN s = true) :
  Calls Tryz.prog 124 #[.string s] w fun e W' => ∃ p cap, e = .returned (.slice p (labs s).length cap) ∧ (StrsAt W' p (labs s) ∧ (labs s).length ≤ cap ∧ cap ≤ 9223372036854775807) ∧ Below w.heap.size w W' := by
 refine (labels_any s w hm).mono ?_
 rintro e w' ⟨v, rfl, hv, hB⟩
 rw [labsOr_yes hN] at hv
 obtain ⟨p, cap, rfl, hc⟩ := Strs.of_owns hv
 obtain ⟨h1, h2, _⟩ := owns_cap hv
 exact ⟨p, cap, rfl, ⟨hc, h1, by unfold maxLen at h2; omega⟩, hB⟩
end Go.Proofs.YtoabnpdoicbpiaaGreat
namespace Go.Proofs.YtoabnpdoicbpiaaGreat
set_option linter.unusedVariables false
open Go.RowKit Go.Shelf Go.Proofs.YtoabnpdoicbpiaaGreat.Nm
set_option maxRecDepth 100000 in
set_option maxHeartbeats 1000000 in
theorem refWithin_any (n z : ByteArray) (w : World) (hn : n.size ≤ 1048576) (hz : z.size ≤ 1048576) :
  Calls Tryz.prog 111 #[.string n, .string z] w fun e w' => e = .returned (.bool (withinB n z)) ∧ Below w.heap.size w w' := by
 obtain ⟨c, hc, hcN⟩ : ∃ c : Int, cntI n = c ∧ (isN n = true → c = ((labs n).length : Nat)) ∧ (isN n = false → c = -1) := ⟨_, rfl, cntI_yes, cntI_no⟩
 have HC : Hid (cntI n = c) := hc
 have HCN : Hid ((isN n = true → c = ((labs n).length : Nat)) ∧ (isN n = false → c = -1)) := hcN
 have hc1 : -1 ≤ c ∧ c ≤ 254 := by
  cases hN : isN n with
  | false => have := HCN.out.2 hN; omega
  | true => have := HCN.out.1 hN; have := labs_len_le hN; omega
 obtain ⟨hc1, hc2⟩ := hc1
 clear hc hcN
 go_enter Tryz.func111, Tryz.ntmps111
 go_wp2
 go_loopw [5] (fun i wr => ∃ k : Nat, i = .int .i64 k ∧ (k : Int) ≤ c + 1 ∧ Hid (∀ j : Nat, j < k → eqB (tailB n j) z = false) ∧ Below w.heap.size w wr)
  (fun i _ => (c + 1 - intOf i).toNat)
 case atStart => exact ⟨0, rfl, by omega, fun j hj => absurd hj (Nat.not_lt_zero _), Below.refl _ _⟩
 case round =>
  obtain ⟨k, rfl, hk, HA, hB⟩ := hrel
  by_cases hlt : (k : Int) ≤ c
  ·cases hE : eqB (tailB n k) z with
   | true =>
    have HW : Hid (withinB n z = true) := within_some hE
    go_wp2_with (first
     | (go_at_call 130; refine (refCount_any _ _ hn).mono ?_; rintro e w1 ⟨rfl, hB1⟩; rw [HC.out]; have hB := ext_t hB hB1; clear hB1)
     | (go_at_call 131; refine (refTail_any _ _ _ hn).mono ?_; rintro e w1 ⟨rfl, hB1⟩; have hB := ext_t hB hB1; clear hB1)
     | (go_at_call 113; refine (equalName_any _ _ _ (tail_small _ _) hz).mono ?_; rintro e w1 ⟨rfl, hB1⟩; have hB := ext_t hB hB1; clear hB1))
    go_ret
    refine ⟨by rw [HW.out]; rfl, ?_⟩
    assumption
   | false =>
    have HA2 : Hid (∀ j : Nat, j < k + 1 → eqB (tailB n j) z = false) := by
     intro j hj
     by_cases e : j = k
     ·subst e; exact hE
     ·exact HA.out j (by omega)
    go_wp2_with (first
     | (go_at_call 130; refine (refCount_any _ _ hn).mono ?_; rintro e w1 ⟨rfl, hB1⟩; rw [HC.out]; have hB := ext_t hB hB1; clear hB1)
     | (go_at_call 131; refine (refTail_any _ _ _ hn).mono ?_; rintro e w1 ⟨rfl, hB1⟩; have hB := ext_t hB hB1; clear hB1)
     | (go_at_call 113; refine (equalName_any _ _ _ (tail_small _ _) hz).mono ?_; rintro e w1 ⟨rfl, hB1⟩; have hB := ext_t hB hB1; clear hB1))
    go_roundw
    case rel => exact ⟨k + 1, by go_num, by omega, HA2, by assumption⟩
    case measure => simp [intOf]; omega
  ·have HW : Hid (withinB n z = false) := by
    cases hN : isN n with
    | false => exact within_noName hN
    | true =>
     have := HCN.out.1 hN
     exact within_none (fun j hj => HA.out j (by omega))
   go_wp2_with (go_at_call 130; refine (refCount_any _ _ hn).mono ?_; rintro e w1 ⟨rfl, hB1⟩; rw [HC.out]; have hB := ext_t hB hB1; clear hB1)
   go_ret
   refine ⟨by rw [HW.out]; rfl, ?_⟩
   assumption
theorem StrsAt.take {w : World} {p : Option Addr} {l : List ByteArray} (h : StrsAt w p l) (d : Nat) : StrsAt w p (l.take d) := by
 intro j hj
 rw [List.length_take] at hj
 obtain ⟨g, off, hp, hg, hc⟩ := h j (by omega)
 exact ⟨g, off, hp, hg, by rw [List.getElem_take]; exact hc⟩
end Go.Proofs.YtoabnpdoicbpiaaGreat
