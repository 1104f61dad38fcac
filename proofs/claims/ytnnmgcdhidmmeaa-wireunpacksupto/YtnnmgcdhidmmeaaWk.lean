import Derived.RangeFuncNested
import Derived.RangeFuncBound
import Derived.RangeFuncCalls
import Derived.RangeFuncLeaves
import Derived.Shelf.Abstract
import Derived.Shelf.RegionOpen
import Derived.WalkKit
import Derived.WalkSpells
import Derived.WalkLawsBesides
import Derived.OwnWalkIn
import Derived.TacticsInMore
import Derived.LoopNIn
import Derived.LoopIn
import Derived.Test.YtnnmgcdhidmmeaaRows
import Derived.Test.YtnnmgcdhidmmeaaMathG
namespace Go.Proofs.Ytnnmgcdhidmmeaa
set_option linter.unusedVariables false
open Go.RowKit Go.Shelf Nm
attribute [local go_sem] Oper.semAt_some

/-- what a round keeps: the box of the text that is walked over -/
def KpB (Bn : Nat) (W W' : World) : Prop := ∀ v, W.cell? ⟨Bn, 0, none⟩ = some v → W'.cell? ⟨Bn, 0, none⟩ = some v
theorem kpB_t {Bn : Nat} {A B C : World} (h : KpB Bn A B) (k : KpB Bn B C) : KpB Bn A C := fun v e => k v (h v e)
theorem kpB_b {Bn : Nat} {w : World} (W : World) (l : Nat) (o o' : Obj) (_ : w.heap.size ≤ l) (h : W.heap[l]? = some o) (hc : o.isCells = false) (_ : o.isWalk = false) : KpB Bn W (W.putObj l o') :=
  fun _ e => cell_kept e (grownBy_putObj' W l o') (fun r e => by cases e; exact ⟨_, h, hc⟩)

def encL (s : ByteArray) (x : Lab s) : Array Value := #[.int .i64 x.1.1, .string x.1.2]

theorem wrap64_byte' {k : Nat} (h : k < 256) : wrap64 (k : Int) = (k : Int) := Go.IntWalk.wrap64_in _ (by omega)

set_option maxRecDepth 100000 in
set_option maxHeartbeats 2000000 in
theorem walk1_in (F : Fence) (n : Nat) (hf : F.fn 77) (hro : F.round = none) (hn : 1 ≤ n) (l Bn : Nat) (s : ByteArray) (hs : s.size ≤ 255) (J Jx : List (Lab s) → World → Prop)
    (hY : ∀ pre x W, J pre W → pre.length < s.size + 1 → YieldAt F (n - 1) Try.prog l (encL s x) W fun e W' =>
      (e = .returned (.bool true) ∧ J (pre ++ [x]) W' ∧ KpB Bn W W') ∨ (e = .returned (.bool false) ∧ Jx (pre ++ [x]) W'))
    (W : World) (hBn : W.cell? ⟨Bn, 0, none⟩ = some (.string s)) (h0 : J [] W) :
    CallsIn F n Try.prog 77 #[.func (.yield l) #[] #[], .pointer (some ⟨Bn, 0, none⟩)] W fun e W' => (∃ v, e = .returned v) ∧
      ((∃ ys, ys = rest s 0 ∧ J ys W') ∨ (∃ pre, pre <+: rest s 0 ∧ Jx pre W')) := by
  refine callsIn_of_wp Try.func77 rfl hf ?_ hro
  simp only [Try.ntmps77, List.size_toArray, List.length_cons, List.length_nil, Nat.reduceAdd, Nat.reduceSub, Array.replicate_succ, Array.replicate_zero, List.push_toArray, List.append_toArray, List.nil_append, List.cons_append]
  gi_wp2
  gi_loopw [3] (fun p wr => ∃ (i : Nat) (pre : List (Lab s)), p = .int .i64 i ∧ i ≤ s.size ∧ pre.length ≤ i ∧ rest s 0 = pre ++ rest s i ∧ J pre wr ∧ wr.cell? ⟨Bn, 0, none⟩ = some (.string s))
    (fun p _ => s.size - (intOf p).toNat)
  case atStart => exact ⟨0, [], rfl, Nat.zero_le _, Nat.le_refl _, rfl, h0, hBn⟩
  case round =>
    obtain ⟨i, pre, rfl, hi, hpl, hr0, hJs, hb⟩ := hrel
    have HR : Hid (rest s 0 = pre ++ rest s i) := hr0
    clear hr0
    by_cases hlt : i < s.size
    · obtain ⟨k, hk, HK⟩ : ∃ k : Nat, wrap64 ↑(s[i]'hlt).toNat = (k : Int) ∧ Hid (bt s i = k) := ⟨bt s i, by rw [bt_eq hlt, wrap64_byte' (bt_lt s i)], rfl⟩
      have hk256 : k < 256 := by have := bt_lt s i; have := HK.out; omega
      by_cases hg : GoodL s i
      · have h1 : 0 < k := by have := hg.pos; have := HK.out; omega
        have h2 : k ≤ 63 := by have := hg.le; have := HK.out; omega
        have h3 : i + 1 + k ≤ s.size := by have := hg.room; have := HK.out; omega
        have h0 : ((k : Int) == 0) = false := beq_eq_false_iff_ne.2 (by omega)
        obtain ⟨x, hx, HX⟩ : ∃ x : Lab s, encL s x = #[.int .i64 (i : Int), .string (s.extract (i + 1) (i + 1 + k))] ∧ Hid (rest s i = x :: rest s (i + 1 + k)) := by
          refine ⟨labAt s i hg, ?_, ?_⟩
          · simp [encL, labAt, HK.out]
          · have := rest_good hg; rw [HK.out] at this; exact this
        have hy := hY pre x wr hJs (by omega)
        rw [hx] at hy
        clear hx
        obtain ⟨fn, tmps, assign, body, hy, hR⟩ := hy
        gi_wp2
        refine hR.mono ?_
        rintro e W3 (⟨rfl, hJ3, hk3⟩ | ⟨rfl, hJx3⟩)
        · have hb3 := hk3 _ hb
          gi_wp2
          go_roundw
          case rel => exact ⟨i + 1 + k, pre ++ [x], by go_num, h3, by simp; omega, by rw [HR.out, HX.out]; simp, hJ3, hb3⟩
          case measure => simp [intOf]; omega
        · gi_wp2
          refine bodyPost_ret (results_none rfl _ _ _) rfl ?_
          exact ⟨⟨_, rfl⟩, .inr ⟨pre ++ [x], ⟨rest s (i + 1 + k), by rw [HR.out, HX.out]; simp⟩, hJx3⟩⟩
      · have HE : Hid (rest s 0 = pre) := by unfold Hid; rw [HR.out, rest_bad hg, List.append_nil]
        by_cases hk0 : k = 0
        · subst hk0
          have hk' : wrap64 ↑(s[i]'hlt).toNat = 0 := hk
          clear hk
          gi_wp2
          refine bodyPost_ret (results_none rfl _ _ _) rfl ?_
          first | exact ⟨⟨_, rfl⟩, .inl ⟨pre, HE.out.symm, hJs⟩⟩ | (refine ⟨⟨_, rfl⟩, .inl ?_⟩; rw [HE.out]; exact hJs)
        · have h0 : ((k : Int) == 0) = false := beq_eq_false_iff_ne.2 (by omega)
          by_cases hk63 : k ≤ 63
          · have h3 : s.size < i + 1 + k := by
              have := HK.out
              apply Nat.lt_of_not_le
              intro hc
              exact hg ⟨hlt, by omega, by omega, by omega⟩
            gi_wp2
            refine bodyPost_ret (results_none rfl _ _ _) rfl ?_
            first | exact ⟨⟨_, rfl⟩, .inl ⟨pre, HE.out.symm, hJs⟩⟩ | (refine ⟨⟨_, rfl⟩, .inl ?_⟩; rw [HE.out]; exact hJs)
          · have h2 : 63 < k := by omega
            gi_wp2
            refine bodyPost_ret (results_none rfl _ _ _) rfl ?_
            first | exact ⟨⟨_, rfl⟩, .inl ⟨pre, HE.out.symm, hJs⟩⟩ | (refine ⟨⟨_, rfl⟩, .inl ?_⟩; rw [HE.out]; exact hJs)
    · gi_wp2
      go_end0
      refine ⟨⟨_, rfl⟩, .inl ⟨pre, ?_, hJs⟩⟩
      rw [HR.out, rest_bad (fun g => hlt g.lt), List.append_nil]
end Go.Proofs.Ytnnmgcdhidmmeaa
