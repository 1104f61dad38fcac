import Derived.RangeFuncNested
import Derived.RangeFuncBound
import Derived.RangeFuncCalls
import Derived.RangeFuncLeaves
import Derived.Shelf.Abstract
import Derived.Shelf.RegionOpen
import Derived.WalkKit
import Derived.WalkSpells
import Derived.WalkLawsBesides
import Derived.OwnWalkIn
import Derived.TacticsInMore
import Derived.LoopNIn
import Derived.LoopIn
import Derived.Test.YtfacfhigehdejaaGreatDoorRows
import Derived.Test.YtfacfhigehdejaaGreatDoorMathG
import Derived.Maps.AppendAt
namespace Go.Proofs.YtfacfhigehdejaaGreatDoor
set_option linter.unusedVariables false
open Go.RowKit Go.Shelf Go.Proofs.YtfacfhigehdejaaGreatDoor.Nm
attribute [local go_sem] Oper.semAt_some

/-- what a round keeps: the box of the text that is walked over -/
def KpB (Bn : Nat) (W W' : World) : Prop := ∀ v, W.cell? ⟨Bn, 0, none⟩ = some v → W'.cell? ⟨Bn, 0, none⟩ = some v
theorem kpB_t {Bn : Nat} {A B C : World} (h : KpB Bn A B) (k : KpB Bn B C) : KpB Bn A C := fun v e => k v (h v e)
theorem kpB_b {Bn : Nat} {w : World} (W : World) (l : Nat) (o o' : Obj) (_ : w.heap.size ≤ l) (h : W.heap[l]? = some o) (hc : o.isCells = false) (_ : o.isWalk = false) : KpB Bn W (W.putObj l o') :=
  fun _ e => cell_kept e (grownBy_putObj' W l o') (fun r e => by cases e; exact ⟨_, h, hc⟩)

def encL (s : ByteArray) (x : Lab s) : Array Value := #[.int .i64 x.1.1, .string x.1.2]

theorem wrap64_byte' {k : Nat} (h : k < 256) : wrap64 (k : Int) = (k : Int) := Go.IntWalk.wrap64_in _ (by omega)

set_option maxRecDepth 100000 in
set_option maxHeartbeats 2000000 in
theorem walk1_in (F : Fence) (n : Nat) (hf : F.fn 31) (hro : F.round = none) (hn : 1 ≤ n) (l Bn : Nat) (s : ByteArray) (hs : s.size ≤ 255) (J Jx : List (Lab s) → World → Prop)
    (hY : ∀ pre x W, J pre W → pre.length < s.size + 1 → YieldAt F (n - 1) Tryz.prog l (encL s x) W fun e W' =>
      (e = .returned (.bool true) ∧ J (pre ++ [x]) W' ∧ KpB Bn W W') ∨ (e = .returned (.bool false) ∧ Jx (pre ++ [x]) W'))
    (W : World) (hBn : W.cell? ⟨Bn, 0, none⟩ = some (.string s)) (h0 : J [] W) :
    CallsIn F n Tryz.prog 31 #[.func (.yield l) #[] #[], .pointer (some ⟨Bn, 0, none⟩)] W fun e W' => (∃ v, e = .returned v) ∧
      ((∃ ys, ys = rest s 0 ∧ J ys W') ∨ (∃ pre, pre <+: rest s 0 ∧ Jx pre W')) := by
  refine callsIn_of_wp Tryz.func31 rfl hf ?_ hro
  simp only [Tryz.ntmps31, List.size_toArray, List.length_cons, List.length_nil, Nat.reduceAdd, Nat.reduceSub, Array.replicate_succ, Array.replicate_zero, List.push_toArray, List.append_toArray, List.nil_append, List.cons_append]
  gi_wp2
  gi_loopw [3] (fun p wr => ∃ (i : Nat) (pre : List (Lab s)), p = .int .i64 i ∧ i ≤ s.size ∧ pre.length ≤ i ∧ rest s 0 = pre ++ rest s i ∧ J pre wr ∧ wr.cell? ⟨Bn, 0, none⟩ = some (.string s))
    (fun p _ => s.size - (intOf p).toNat)
  case atStart => exact ⟨0, [], rfl, Nat.zero_le _, Nat.le_refl _, rfl, h0, hBn⟩
  case round =>
    obtain ⟨i, pre, rfl, hi, hpl, hr0, hJs, hb⟩ := hrel
    have HR : Hid (rest s 0 = pre ++ rest s i) := hr0
    clear hr0
    by_cases hlt : i < s.size
    · obtain ⟨k, hk, HK⟩ : ∃ k : Nat, wrap64 ↑(s[i]'hlt).toNat = (k : Int) ∧ Hid (bt s i = k) := ⟨bt s i, by rw [bt_eq hlt, wrap64_byte' (bt_lt s i)], rfl⟩
      have hk256 : k < 256 := by have := bt_lt s i; have := HK.out; omega
      by_cases hg : GoodL s i
      · have h1 : 0 < k := by have := hg.pos; have := HK.out; omega
        have h2 : k ≤ 63 := by have := hg.le; have := HK.out; omega
        have h3 : i + 1 + k ≤ s.size := by have := hg.room; have := HK.out; omega
        have h0 : ((k : Int) == 0) = false := beq_eq_false_iff_ne.2 (by omega)
        obtain ⟨x, hx, HX⟩ : ∃ x : Lab s, encL s x = #[.int .i64 (i : Int), .string (s.extract (i + 1) (i + 1 + k))] ∧ Hid (rest s i = x :: rest s (i + 1 + k)) := by
          refine ⟨labAt s i hg, ?_, ?_⟩
          · simp [encL, labAt, HK.out]
          · have := rest_good hg; rw [HK.out] at this; exact this
        have hy := hY pre x wr hJs (by omega)
        rw [hx] at hy
        clear hx
        obtain ⟨fn, tmps, assign, body, hy, hR⟩ := hy
        gi_wp2
        refine hR.mono ?_
        rintro e W3 (⟨rfl, hJ3, hk3⟩ | ⟨rfl, hJx3⟩)
        · have hb3 := hk3 _ hb
          gi_wp2
          go_roundw
          case rel => exact ⟨i + 1 + k, pre ++ [x], by go_num, h3, by simp; omega, by rw [HR.out, HX.out]; simp, hJ3, hb3⟩
          case measure => simp [intOf]; omega
        · gi_wp2
          refine bodyPost_ret (results_none rfl _ _ _) rfl ?_
          exact ⟨⟨_, rfl⟩, .inr ⟨pre ++ [x], ⟨rest s (i + 1 + k), by rw [HR.out, HX.out]; simp⟩, hJx3⟩⟩
      · have HE : Hid (rest s 0 = pre) := by unfold Hid; rw [HR.out, rest_bad hg, List.append_nil]
        by_cases hk0 : k = 0
        · subst hk0
          have hk' : wrap64 ↑(s[i]'hlt).toNat = 0 := hk
          clear hk
          gi_wp2
          refine bodyPost_ret (results_none rfl _ _ _) rfl ?_
          first | exact ⟨⟨_, rfl⟩, .inl ⟨pre, HE.out.symm, hJs⟩⟩ | (refine ⟨⟨_, rfl⟩, .inl ?_⟩; rw [HE.out]; exact hJs)
        · have h0 : ((k : Int) == 0) = false := beq_eq_false_iff_ne.2 (by omega)
          by_cases hk63 : k ≤ 63
          · have h3 : s.size < i + 1 + k := by
              have := HK.out
              apply Nat.lt_of_not_le
              intro hc
              exact hg ⟨hlt, by omega, by omega, by omega⟩
            gi_wp2
            refine bodyPost_ret (results_none rfl _ _ _) rfl ?_
            first | exact ⟨⟨_, rfl⟩, .inl ⟨pre, HE.out.symm, hJs⟩⟩ | (refine ⟨⟨_, rfl⟩, .inl ?_⟩; rw [HE.out]; exact hJs)
          · have h2 : 63 < k := by omega
            gi_wp2
            refine bodyPost_ret (results_none rfl _ _ _) rfl ?_
            first | exact ⟨⟨_, rfl⟩, .inl ⟨pre, HE.out.symm, hJs⟩⟩ | (refine ⟨⟨_, rfl⟩, .inl ?_⟩; rw [HE.out]; exact hJs)
    · gi_wp2
      go_end0
      refine ⟨⟨_, rfl⟩, .inl ⟨pre, ?_, hJs⟩⟩
      rw [HR.out, rest_bad (fun g => hlt g.lt), List.append_nil]
end Go.Proofs.YtfacfhigehdejaaGreatDoor

namespace Go.Proofs.YtfacfhigehdejaaGreatDoor
set_option linter.unusedVariables false
open Go.RowKit Go.Shelf Go.Proofs.YtfacfhigehdejaaGreatDoor.Nm
attribute [local go_sem] Oper.semAt_some

theorem walk_in (F : Fence) (n : Nat) (hf : F.fn 15) (hro : F.round = none) (s : ByteArray) (w : World) :
    CallsIn F n Tryz.prog 15 #[.string s] w fun e w' => e = .returned (.func (.func 31) #[] #[.pointer (some ⟨w.heap.size, 0, none⟩)]) ∧ w' = w.alloc (.cells #[.string s] 9) := by
  refine callsIn_of_wp Tryz.func15 rfl hf ?_ hro
  simp only [Tryz.ntmps15, List.size_toArray, List.length_cons, List.length_nil, Nat.reduceAdd, Nat.reduceSub, Array.replicate_succ, Array.replicate_zero, List.push_toArray, List.append_toArray, List.nil_append, List.cons_append]
  gi_wp2
  go_ret
  exact ⟨rfl, rfl⟩

theorem walk_stops (F : Fence) (n : Nat) (hf : F.fn 31) (hro : F.round = none) (hn : 1 ≤ n) (Bn : Nat) (s : ByteArray) (hs : s.size ≤ 255) (w : World) (hBn : Bn < w.heap.size)
    (hc : w.cell? ⟨Bn, 0, none⟩ = some (.string s)) :
    SeqStopsK F n Tryz.prog 31 #[.pointer (some ⟨Bn, 0, none⟩)] (encL s) (KpB Bn) (fun ys => ys = rest s 0) (fun pre => pre <+: rest s 0) (s.size + 1) w := fun l J Jx W hW _ _ hY h0 =>
  walk1_in F n hf hro hn l Bn s hs J Jx hY W ((hW.cell (p := ⟨Bn, 0, none⟩) hBn).trans hc) h0

theorem cell_of_box_l {W : World} {B : Nat} {v : Value} {t : TypeId} (h : W.heap[B]? = some (.cells #[v] t (0, 0))) : W.cell? ⟨B, 0, none⟩ = some v ∧ W.frozen? ⟨B, 0, none⟩ = false := by
  constructor <;> simp [World.cell?, World.frozen?, h]
theorem cell_new_l (W : World) (v : Value) (t : TypeId) : (W.alloc (.cells #[v] t)).cell? ⟨W.heap.size, 0, none⟩ = some v ∧ (W.alloc (.cells #[v] t)).frozen? ⟨W.heap.size, 0, none⟩ = false :=
  cell_of_box_l (World.alloc_heap_new W _)

theorem cell_alloc_l {W : World} {a : Addr} {v : Value} (o : Obj) (h : W.cell? a = some v) : (W.alloc o).cell? a = some v := cell_kept h (World.grownBy_alloc W o none) (fun r e => by cases e)
theorem frozen_alloc_l {W : World} {a : Addr} {v : Value} (o : Obj) (h : W.cell? a = some v) (hf : W.frozen? a = false) : (W.alloc o).frozen? a = false := (frozen_kept h (World.grownBy_alloc W o none) (fun r e => by cases e)).trans hf
theorem cell_far (w : World) (p a : Addr) (v : Value) (h : p.block ≠ a.block) : (w.setCell p v).cell? a = w.cell? a := World.cell?_setCell_other w p a v (fun e => h (by rw [e]))

def chk (s : ByteArray) : Int := if isN s = true then 0 else 1

set_option maxRecDepth 100000 in
set_option maxHeartbeats 2000000 in
theorem check_in (s : ByteArray) (w : World) (hs : s.size ≤ 255) :
    CallsIn Fence.wide 3 Tryz.prog 5 #[.string s] w fun e W' => e = .returned (.int .i64 (chk s)) ∧ Below w.heap.size w W' := by
  have hro : Fence.wide.round = none := rfl
  refine callsIn_of_wp_marks Tryz.func5 rfl trivial ?_ hro
  simp only [Tryz.ntmps5, List.size_toArray, List.length_cons, List.length_nil, Nat.reduceAdd, Nat.reduceSub, Array.replicate_succ, Array.replicate_zero, List.push_toArray, List.append_toArray, List.nil_append, List.cons_append]
  gi_wp2_with (refine ⟨trivial, ?_⟩; gi_at_call 15; refine (walk_in Fence.wide _ trivial rfl _ _).mono ?_; rintro e w' ⟨rfl, rfl⟩)
  have hs1 := cell_new_l w (.int .i64 0) 3
  have hb := cell_new_l (w.alloc (.cells #[.int .i64 0] 3)) (.string s) 9
  rw [World.size_alloc] at hb
  have hB0 : Below w.heap.size w ((w.alloc (.cells #[.int .i64 0] 3)).alloc (.cells #[.string s] 9)) := ((Below.refl _ w).alloc (Nat.le_refl _) _).alloc (by simp) _
  refine wpIn_rangeFunc_ownF hro (by omega) (gf := 31) (lb := #[.pointer (some ⟨w.heap.size + 1, 0, none⟩)]) rfl trivial (enters_of Tryz.func31 (by kernel_rfl) rfl)
    (walk_stops Fence.wide _ trivial hro (by omega) (w.heap.size + 1) s hs _ (by simp) hb.1) kpB_t (kpB_b (w := (w.alloc (.cells #[.int .i64 0] 3)).alloc (.cells #[.string s] 9))) (Below.refl _ _) (fun _ => rfl)
    (fun pre W => (W.cell? ⟨w.heap.size, 0, none⟩ = some (.int .i64 (lastEnd pre 0)) ∧ W.frozen? ⟨w.heap.size, 0, none⟩ = false) ∧ Below w.heap.size w W)
    (fun _ _ _ => False)
    (OwnFrom.and (Own.from (fun s A B row hs hg hr => ⟨cell_kept hs.1 hg hr, (frozen_kept hs.1 hg hr).trans hs.2⟩) _) (ownFrom_below (Nat.le_refl _) (by simp; omega)))
    (fun _ _ _ _ _ hs _ _ => hs)
    ⟨⟨cell_alloc_l _ hs1.1, frozen_alloc_l _ hs1.1 hs1.2⟩, hB0⟩
    (fun x => { tmps := #[Value.string s, undef, Value.int IntKind.i64 0, Value.pointer (some { block := w.heap.size, off := 0 }),
          .int .i64 x.1.1, .string x.1.2, Value.string s, Value.int IntKind.i64 ↑s.size, Value.bool (decide (255 < (s.size : Int))),
          Value.string s, Value.func (Fn.func 31) #[] #[Value.pointer (some { block := w.heap.size + 1, off := 0 })],
          .int .i64 x.1.1, .string x.1.2, undef, undef, undef, undef, undef, undef, undef, undef, undef], defers := [] }) ?assign ?body ?done ?stop
  case assign =>
    intro l x W K hK
    dsimp only [encL]
    gi_wp2
    exact hK
  case body =>
    rintro l pre ⟨⟨i, lab⟩, hx⟩ W ⟨⟨hc, hf⟩, hB⟩ _
    dsimp only at hx ⊢
    gi_wp2
    refine ⟨KeepsOthers.setCell _ _ _, fun v e => ?_, ⟨?_, by rw [World.frozen?_setCell]; exact hf⟩, hB.setCell (p := ⟨w.heap.size, 0, none⟩) (Nat.le_refl _) _⟩
    · rw [cell_far _ _ _ _ (by simp)]; exact e
    · rw [lastEnd_snoc]; exact World.cell?_setCell_same' _ _ _ (by rw [hc]; rfl)
  case done =>
    rintro D ys W hD rfl ⟨⟨hc, _⟩, hB⟩ hK
    rw [lastEnd_rest s s.size 0 (by omega)] at hc
    have hfl : fin s 0 ≤ s.size := by rw [← lastEnd_rest s s.size 0 (by omega)]; exact lastEnd_le _ _ (by omega)
    have hz := zero_end s (fin s 0) hfl
    have HN : Hid (isN s = decide (fin s 0 + 1 = s.size ∧ bt s (fin s 0) = 0)) := by unfold Hid isN; simp [hs]
    cases hd : decide (fin s 0 + 1 = s.size ∧ bt s (fin s 0) = 0) with
    | true =>
      rw [hd] at hz
      have HN' : Hid (chk s = 0) := by unfold Hid chk; rw [HN.out, hd]; rfl
      clear hd HN
      gi_wp2
      refine ⟨by simp, .inl ⟨_, _, rfl, run_takeDeferred hK, ?_⟩⟩
      exact ⟨_, results_tmp rfl _ _ _, by rw [HN'.out]; rfl, hB.trans (belowK_b (w := w) (Nat.le_refl _) W D _ _ (by simp at hD; omega) hK rfl rfl)⟩
    | false =>
      rw [hd] at hz
      have HN' : Hid (chk s = 1) := by unfold Hid chk; rw [HN.out, hd]; rfl
      clear hd HN
      gi_wp2
      refine ⟨by simp, .inl ⟨_, _, rfl, run_takeDeferred hK, ?_⟩⟩
      exact ⟨_, results_tmp rfl _ _ _, by rw [HN'.out]; rfl, hB.trans (belowK_b (w := w) (Nat.le_refl _) W D _ _ (by simp at hD; omega) hK rfl rfl)⟩
  case stop =>
    rintro D c pre W _ _ h _
    exact h.elim

theorem check_any (s : ByteArray) (w : World) (hm : s.size ≤ maxLen) :
    Calls Tryz.prog 5 #[.string s] w fun e W' => e = .returned (.int .i64 (chk s)) ∧ Below w.heap.size w W' := by
  by_cases hs : s.size ≤ 255
  · exact callsIn_wide.1 (check_in s w hs)
  · have HN : Hid (chk s = 1) := by unfold Hid chk isN; simp [hs]
    have hl : 255 < s.size := by omega
    have hm' : s.size ≤ 9223372036854775807 := by unfold maxLen at hm; omega
    clear hm hs
    refine (callsIn_wide (n := 3)).1 ?_
    refine callsIn_of_wp_marks Tryz.func5 rfl trivial ?_ rfl
    simp only [Tryz.ntmps5, List.size_toArray, List.length_cons, List.length_nil, Nat.reduceAdd, Nat.reduceSub, Array.replicate_succ, Array.replicate_zero, List.push_toArray, List.append_toArray, List.nil_append, List.cons_append]
    gi_wp2
    exact ⟨_, results_tmp rfl _ _ _, by rw [HN.out]; rfl, Below.refl _ _⟩

/-- name.isName -/
theorem isName_any (s : ByteArray) (w : World) (hm : s.size ≤ maxLen) :
    Calls Tryz.prog 123 #[.string s] w fun e W' => e = .returned (.bool (isN s)) ∧ Below w.heap.size w W' := by
  go_enter Tryz.func123, Tryz.ntmps123
  go_wp2_with (go_at_call 5; refine (check_any s _ hm).mono ?_; rintro e w' ⟨rfl, hB⟩)
  go_ret
  refine ⟨?_, hB⟩
  cases h : isN s <;> simp [chk, h]
end Go.Proofs.YtfacfhigehdejaaGreatDoor

namespace Go.Proofs.YtfacfhigehdejaaGreatDoor
set_option linter.unusedVariables false
open Go.RowKit Go.Shelf Go.Proofs.YtfacfhigehdejaaGreatDoor.Nm

theorem Tryz.infoStr : (Tryz.prog.info? 9).map (fun i => (i.zero, i.size, i.bytes)) = some (some (.string .empty), 1, 16) := by kernel_rfl

def strLen : Value → Nat | .string s => s.size | _ => 0

theorem ownBlock_le {w : World} {base e size : Nat} {v : Value} {n : Nat} {xs : List Value} (h : w.ownsRow base e size v n xs) {q : Nat} (hq : v.ownBlock = some q) : base ≤ q := by
  obtain ⟨_, (⟨rfl, _⟩ | ⟨g, cap, cur, rfl, hb, _⟩)⟩ := h
  · simp [Value.ownBlock] at hq
  · simp [Value.ownBlock] at hq; omega

end Go.Proofs.YtfacfhigehdejaaGreatDoor
