import Derived.Test.YtdaimcccdleodaaLf1
import Derived.Deep.AppendLies
/-
  Chapter 15: PolicyFair. (The verifier's own text.)
-/
namespace Go.Proofs.Ytdaimcccdleodaa
set_option linter.unusedVariables false
set_option linter.unusedSimpArgs false
open Go.RowKit Go.Shelf Go.Maps

def iwV (z : Int) : List Value := [.int .i64 z]
abbrev IwAt (w : World) (p : Option Addr) (l : List Int) : Prop := RowAt 1 iwV w p l
theorem infoInt1 : (Try.prog.info? 3).map (fun i => (i.zero, i.size, i.bytes)) = some (some (.int .i64 0), 1, 8) := by kernel_rfl
theorem lk_int (cs : Array Value) : ¬ LK (.cells cs 3 (0, 0)) := by intro h; rcases h with h | h | h <;> revert h <;> decide
theorem ik_llim (cs : Array Value) : ¬ IK (.cells cs 56 (0, 0)) := fun h => absurd (show _ = _ from h) (by decide)
theorem ik_lpar (cs : Array Value) : ¬ IK (.cells cs 59 (0, 0)) := fun h => absurd (show _ = _ from h) (by decide)
theorem ik_lacc (cs : Array Value) : ¬ IK (.cells cs 67 (0, 0)) := fun h => absurd (show _ = _ from h) (by decide)
theorem ik_map (es : Array MapEntry) (c : Nat) : ¬ IK (.map es c) := fun h => h
set_option maxRecDepth 100000 in
theorem fair_bad (rate burst : Int) (s : ByteArray) (n cap : Nat) (p : Option Addr) (w : World) (h : goodB rate burst = false) :
    Calls Try.prog 5 #[.int .i64 rate, .int .i64 burst, .string s, .slice p n cap] w fun e w' => e = .returned (.bool true) ∧ Below w.heap.size w w' := by
  have HN := hidep (new_no rate burst w h)
  have HA := hidep (alive_any w)
  clear h
  go_enter Try.func5, Try.ntmps5
  go_wp2_with (first
    | (go_at_call 11; (with_reducible refine HN.out.mono ?_); rintro e w1 ⟨rfl, h1⟩; have h1 := h1.symm; subst h1)
    | (go_at_call 6; (with_reducible refine HA.out.mono ?_); rintro e w2 ⟨rfl, hB2⟩))
  go_ret
  exact ⟨rfl, hB2⟩
set_option maxRecDepth 100000 in
theorem fair_long (rate burst : Int) (s : ByteArray) (n cap : Nat) (p : Option Addr) (w : World) (hg : 0 ≤ rate ∧ rate ≤ 1000 ∧ 1 ≤ burst ∧ burst ≤ 1000) (hn : 300 < n) :
    Calls Try.prog 5 #[.int .i64 rate, .int .i64 burst, .string s, .slice p n cap] w fun e w' => e = .returned (.bool true) ∧ Below w.heap.size w w' := by
  have HN := hidep (new_yes rate burst w hg.1 hg.2.1 hg.2.2.1 hg.2.2.2)
  have hd : decide ((300 : Int) < (n : Int)) = true := by simp; omega
  clear hg hn
  go_enter Try.func5, Try.ntmps5
  go_wp2_with (first
    | (go_at_call 11; (with_reducible refine HN.out.mono ?_); rintro e w1 ⟨⟨L, M, rfl, hL1⟩, hG1⟩; have G1 := hidep hG1; have HA := hidep (alive_any w1); clear hL1 hG1)
    | (go_at_call 6; (with_reducible refine HA.out.mono ?_); rintro e w2 ⟨rfl, hB2⟩))
  go_ret
  exact ⟨rfl, ((Below.refl _ w).grown G1.out (Nat.le_refl _) (fun k e => by cases e)).trans (hB2.mono G1.out.size)⟩
/-- what is added to the time -/
def wtD (z : Int) : Int := (if z < 0 then -(z + 1) else z) % 20
theorem wtD_range (z : Int) : 0 ≤ wtD z ∧ wtD z ≤ 19 := by unfold wtD; omega

set_option maxRecDepth 100000 in
set_option maxHeartbeats 8000000 in
theorem fair_none (rate burst : Int) (s : ByteArray) (C : List Int) (cap : Nat) (p : Option Addr) (w : World) (hs : whoB s = none) (hg : 0 ≤ rate ∧ rate ≤ 1000 ∧ 1 ≤ burst ∧ burst ≤ 1000) (hC : C.length ≤ 300) (hat : IwAt w p C) (hwf : ∀ c ∈ C, (Lit.int .i64 c).wf = true) :
    Calls Try.prog 5 #[.int .i64 rate, .int .i64 burst, .string s, .slice p C.length cap] w fun e w' => e = .returned (.bool true) ∧ Below w.heap.size w w' := by
  have HN := hidep (new_yes rate burst w hg.1 hg.2.1 hg.2.2.1 hg.2.2.2)
  have hd : decide ((300 : Int) < (C.length : Int)) = false := by simp; omega
  have HG := hidep hg
  have HAT := hidep hat
  have HWF := hidep hwf
  have HS := hidep hs
  have h4 : ((s.size : Int) == 4) = false := by unfold whoB at hs; split at hs; { cases hs }; { rename_i h; simp; omega }
  have h16 : ((s.size : Int) == 16) = false := by unfold whoB at hs; split at hs; { cases hs }; { split at hs; { cases hs }; { rename_i h; simp; omega } }
  obtain ⟨i0, hi, hz0, hz1, hz2⟩ := info_parts infoInt1
  have HI := hidep (And.intro hi (And.intro hz0 (And.intro hz1 hz2)))
  clear hg hat hwf hs hi hz0 hz1 hz2
  go_enter Try.func5, Try.ntmps5
  go_wp2_with (first
    | (go_at_call 11; (with_reducible refine HN.out.mono ?_); rintro e w1 ⟨⟨L, M, rfl, hL1⟩, hG1⟩; have L1 := hidep hL1; have G1 := hidep hG1; have HA := hidep (alive_any w1); clear hL1 hG1)
    | (go_at_call 6; (with_reducible refine HA.out.mono ?_); rintro e w2 ⟨rfl, hB2⟩; have L2 := hidep (L1.out.grown (grown_below hB2 none)); have B2 := hidep (((Below.refl _ w).grown G1.out (Nat.le_refl _) (fun k e => by cases e)).trans (hB2.mono G1.out.size)); clear hB2))
  go_loopw [11, 12, 40] (fun nv tv i wr => ∃ (k n : Nat) (now : Int) (ts : List Int) (S : List En) (qv : Value), i = .int .i64 (k : Int) ∧ nv = .int .i64 now ∧ k ≤ C.length ∧ n ≤ k ∧ 0 ≤ now ∧ now ≤ 19 * (k : Int) ∧ ts.length ≤ k ∧ wr.ownsRow w.heap.size 3 1 tv ts.length (rowV iwV ts) ∧ Lim wr L M w.heap.size qv n rate burst S ∧ Hid (ts = []) ∧ Below w.heap.size w wr) (fun _ _ i _ => C.length - (intOf i).toNat)
  case atStart => exact ⟨0, 0, 0, [], [], _, rfl, rfl, Nat.zero_le _, Nat.le_refl _, Int.le_refl _, by simp, by simp, World.ownsRow_nil _ _ _ _, L2.out, rfl, B2.out⟩
  case round =>
    obtain ⟨k, n, now, ts, S, qv, rfl, rfl, hk, hnk, hn0, hn1, htk, hown, hLim, HINV, hBr⟩ := hrel
    have HBr := hidep hBr
    by_cases hlt : k < C.length
    · obtain ⟨g, off, rfl, hgh, ec⟩ := row_below' HAT.out hBr k hlt
      have c0 := ec 0 (by omega)
      simp only [iwV, Nat.add_zero, Nat.mul_one, List.getElem?_cons_zero] at c0
      have hw := HWF.out C[k] (List.getElem_mem hlt)
      generalize C[k] = z at *
      have hdr := wtD_range z
      obtain ⟨d, hdd⟩ : ∃ d, wtD z = d := ⟨_, rfl⟩
      rw [hdd] at hdr
      have hzr : -9223372036854775808 ≤ z ∧ z ≤ 9223372036854775807 := by simp [Lit.wf, IntKind.min, IntKind.max, IntKind.bits, IntKind.signed] at hw; omega
      obtain ⟨nw, hnw⟩ : ∃ nw, now + d = nw := ⟨_, rfl⟩
      have hwn : IntKind.i64.wrap nw = nw := by rw [IntKind.wrap_i64]; omega
      have hnwf : (Lit.int .i64 nw).wf = true := by simp [Lit.wf, IntKind.min, IntKind.max, IntKind.bits, IntKind.signed]; omega
      have HNW := hidep (show 0 ≤ nw ∧ nw ≤ 19 * ((k : Int) + 1) ∧ now ≤ nw by omega)
      have HAL := hidep (allow_any L M w.heap.size n qv rate burst nw S s wr hLim (by unfold maxLen; omega) HG.out.1 HG.out.2.1 HG.out.2.2.1 HG.out.2.2.2 hnwf)
      have HOW := hidep hown
      obtain ⟨tp, tc, rfl, ht1, ht2, ht3⟩ := own_shape hown
      obtain ⟨ab, hab⟩ : ∃ ab, aB rate burst (S.map trE) s nw = ab := ⟨_, rfl⟩
      obtain ⟨T2, hT2⟩ : ∃ T2, aT rate burst (S.map trE) s nw = T2 := ⟨_, rfl⟩
      rw [hab, hT2] at HAL
      have hab2 : ab = false := by rw [← hab]; unfold aB; rw [HS.out]
      clear hown hLim hBr ec hw hnwf hn0 hn1 ht1 ht2 ht3
      by_cases hsn : z < 0
      · have hsg : decide (z < 0) = true := by simp; omega
        have hw1 : IntKind.i64.wrap (z + 1) = z + 1 := by rw [IntKind.wrap_i64]; omega
        have hw2 : IntKind.i64.wrap (-(z + 1)) = -(z + 1) := by rw [IntKind.wrap_i64]; omega
        have hmd : (-(z + 1)).tmod 20 = d := by rw [Int.tmod_eq_emod_of_nonneg (by omega), ← hdd]; unfold wtD; rw [if_pos hsn]
        clear hsn hdd hdr hzr
        subst hab2
        clear hab
        go_wp2_with (go_at_call 12; (with_reducible refine HAL.out.mono ?_); rintro e w5 ⟨S5, q5, n5, rfl, hl5, ht5, hn5, hf5⟩; have L5 := hidep hl5; have F5 := hidep hf5; have N5 := hidep hn5; clear hl5 ht5 hn5 hf5)
        all_goals
         have hN5 := N5.out
         exact ⟨⟨k + 1, n5, nw, ts, S5, q5, by go_num, rfl, by omega, by omega, HNW.out.1, by have := HNW.out.2.1; omega, by omega, ownsRow_ft HOW.out F5.out lk_int, L5.out, HINV.out, HBr.out.trans (F5.out.below HBr.out.size)⟩, by simp [intOf]; omega⟩
      · have hsg : decide (z < 0) = false := by simp; omega
        have hmd : z.tmod 20 = d := by rw [Int.tmod_eq_emod_of_nonneg (by omega), ← hdd]; unfold wtD; rw [if_neg hsn]
        clear hsn hdd hdr hzr
        subst hab2
        clear hab
        go_wp2_with (go_at_call 12; (with_reducible refine HAL.out.mono ?_); rintro e w5 ⟨S5, q5, n5, rfl, hl5, ht5, hn5, hf5⟩; have L5 := hidep hl5; have F5 := hidep hf5; have N5 := hidep hn5; clear hl5 ht5 hn5 hf5)
        all_goals
         have hN5 := N5.out
         exact ⟨⟨k + 1, n5, nw, ts, S5, q5, by go_num, rfl, by omega, by omega, HNW.out.1, by have := HNW.out.2.1; omega, by omega, ownsRow_ft HOW.out F5.out lk_int, L5.out, HINV.out, HBr.out.trans (F5.out.below HBr.out.size)⟩, by simp [intOf]; omega⟩
    · obtain rfl : k = C.length := by omega
      go_wp2_with fail
      go_ret
      exact ⟨rfl, HBr.out⟩
end Go.Proofs.Ytdaimcccdleodaa
