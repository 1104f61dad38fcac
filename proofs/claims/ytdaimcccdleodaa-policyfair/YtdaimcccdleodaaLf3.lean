import Derived.Test.YtdaimcccdleodaaLf2
/-
  Chapter 15: PolicyFair. (The verifier's own text.)
-/
namespace Go.Proofs.Ytdaimcccdleodaa
set_option linter.unusedVariables false
set_option linter.unusedSimpArgs false
open Go.RowKit Go.Shelf Go.Maps


set_option maxRecDepth 100000 in
set_option maxHeartbeats 8000000 in
theorem fair_some (rate burst : Int) (s : ByteArray) (C : List Int) (cap : Nat) (p : Option Addr) (w : World) (x : ByteArray) (hs : whoB s = some x) (hg : 0 ≤ rate ∧ rate ≤ 1000 ∧ 1 ≤ burst ∧ burst ≤ 1000) (hC : C.length ≤ 300) (hat : IwAt w p C) (hwf : ∀ c ∈ C, (Lit.int .i64 c).wf = true) :
    Calls Try.prog 5 #[.int .i64 rate, .int .i64 burst, .string s, .slice p C.length cap] w fun e w' => e = .returned (.bool true) ∧ Below w.heap.size w w' := by
  have HN := hidep (new_yes rate burst w hg.1 hg.2.1 hg.2.2.1 hg.2.2.2)
  have hd : decide ((300 : Int) < (C.length : Int)) = false := by simp; omega
  have HG := hidep hg
  have HAT := hidep hat
  have HWF := hidep hwf
  have HS := hidep hs
  obtain ⟨i0, hi, hz0, hz1, hz2⟩ := info_parts infoInt1
  have HI := hidep (And.intro hi (And.intro hz0 (And.intro hz1 hz2)))
  clear hg hat hwf hs hi hz0 hz1 hz2
  go_enter Try.func5, Try.ntmps5
  go_wp2_with (first
    | (go_at_call 11; (with_reducible refine HN.out.mono ?_); rintro e w1 ⟨⟨L, M, rfl, hL1⟩, hG1⟩; have L1 := hidep hL1; have G1 := hidep hG1; have HA := hidep (alive_any w1); clear hL1 hG1)
    | (go_at_call 6; (with_reducible refine HA.out.mono ?_); rintro e w2 ⟨rfl, hB2⟩; have L2 := hidep (L1.out.grown (grown_below hB2 none)); have B2 := hidep (((Below.refl _ w).grown G1.out (Nat.le_refl _) (fun k e => by cases e)).trans (hB2.mono G1.out.size)); clear hB2))
  go_loopw [11, 12, 40] (fun nv tv i wr => ∃ (k n : Nat) (now : Int) (ts : List Int) (S : List En) (qv : Value), i = .int .i64 (k : Int) ∧ nv = .int .i64 now ∧ k ≤ C.length ∧ n ≤ k ∧ 0 ≤ now ∧ now ≤ 19 * (k : Int) ∧ ts.length ≤ k ∧ wr.ownsRow w.heap.size 3 1 tv ts.length (rowV iwV ts) ∧ Lim wr L M w.heap.size qv n rate burst S ∧ Hid (((k = 0 ∧ S.map trE = [] ∧ ts = []) ∨ (0 < k ∧ ∃ l, Fai rate burst x (S.map trE) ts now l))) ∧ Below w.heap.size w wr) (fun _ _ i _ => C.length - (intOf i).toNat)
  case atStart => exact ⟨0, 0, 0, [], [], _, rfl, rfl, Nat.zero_le _, Nat.le_refl _, Int.le_refl _, by simp, by simp, World.ownsRow_nil _ _ _ _, L2.out, (.inl ⟨rfl, rfl, rfl⟩), B2.out⟩
  case round =>
    obtain ⟨k, n, now, ts, S, qv, rfl, rfl, hk, hnk, hn0, hn1, htk, hown, hLim, HINV, hBr⟩ := hrel
    have HBr := hidep hBr
    by_cases hlt : k < C.length
    · obtain ⟨g, off, rfl, hgh, ec⟩ := row_below' HAT.out hBr k hlt
      have c0 := ec 0 (by omega)
      simp only [iwV, Nat.add_zero, Nat.mul_one, List.getElem?_cons_zero] at c0
      have hw := HWF.out C[k] (List.getElem_mem hlt)
      generalize C[k] = z at *
      have hdr := wtD_range z
      obtain ⟨d, hdd⟩ : ∃ d, wtD z = d := ⟨_, rfl⟩
      rw [hdd] at hdr
      have hzr : -9223372036854775808 ≤ z ∧ z ≤ 9223372036854775807 := by simp [Lit.wf, IntKind.min, IntKind.max, IntKind.bits, IntKind.signed] at hw; omega
      obtain ⟨nw, hnw⟩ : ∃ nw, now + d = nw := ⟨_, rfl⟩
      have hwn : IntKind.i64.wrap nw = nw := by rw [IntKind.wrap_i64]; omega
      have hnwf : (Lit.int .i64 nw).wf = true := by simp [Lit.wf, IntKind.min, IntKind.max, IntKind.bits, IntKind.signed]; omega
      have HNW := hidep (show 0 ≤ nw ∧ nw ≤ 19 * ((k : Int) + 1) ∧ now ≤ nw by omega)
      have HAL := hidep (allow_any L M w.heap.size n qv rate burst nw S s wr hLim (by unfold maxLen; omega) HG.out.1 HG.out.2.1 HG.out.2.2.1 HG.out.2.2.2 hnwf)
      have HOW := hidep hown
      obtain ⟨tp, tc, rfl, ht1, ht2, ht3⟩ := own_shape hown
      obtain ⟨ab, hab⟩ : ∃ ab, aB rate burst (S.map trE) s nw = ab := ⟨_, rfl⟩
      obtain ⟨T2, hT2⟩ : ∃ T2, aT rate burst (S.map trE) s nw = T2 := ⟨_, rfl⟩
      rw [hab, hT2] at HAL
      have HP : Hid ((ab = true → ∃ l, Fai rate burst x T2 (ts ++ [nw]) nw l) ∧ (ab = false → ¬ k = 0 ∧ ∃ l, Fai rate burst x T2 ts nw l)) := by
        subst hab hT2
        rcases HINV.out with ⟨hk0, hS0, ht0⟩ | ⟨hk1, l, hF⟩
        · have := fair_first (rate := rate) (now := nw) HS.out HG.out.2.2.1 HNW.out.1
          rw [hS0, ht0]
          exact ⟨fun _ => ⟨_, this.2⟩, fun h => by rw [this.1] at h; cases h⟩
        · have := fair_next HS.out HG.out.1 HG.out.2.2.1 HNW.out.2.2 hn0 hF
          exact ⟨this.1, fun h => ⟨by omega, this.2 h⟩⟩
      clear hown hLim hBr ec hw hnwf hn0 hn1 ht1 ht2 ht3
      by_cases hsn : z < 0
      · have hsg : decide (z < 0) = true := by simp; omega
        have hw1 : IntKind.i64.wrap (z + 1) = z + 1 := by rw [IntKind.wrap_i64]; omega
        have hw2 : IntKind.i64.wrap (-(z + 1)) = -(z + 1) := by rw [IntKind.wrap_i64]; omega
        have hmd : (-(z + 1)).tmod 20 = d := by rw [Int.tmod_eq_emod_of_nonneg (by omega), ← hdd]; unfold wtD; rw [if_pos hsn]
        clear hsn hdd hdr hzr
        cases ab with
        | false =>
          have hP := HP.out.2 rfl
          have hk0 : ((k : Int) == 0) = false := by simp; omega
          have HPI := hidep hP.2
          clear hP
          go_wp2_with (go_at_call 12; (with_reducible refine HAL.out.mono ?_); rintro e w5 ⟨S5, q5, n5, rfl, hl5, ht5, hn5, hf5⟩; have L5 := hidep hl5; have F5 := hidep hf5; have N5 := hidep hn5; have T5 := hidep ht5; clear hl5 ht5 hn5 hf5)
          have hN5 := N5.out
          exact ⟨⟨k + 1, n5, nw, ts, S5, q5, by go_num, rfl, by omega, by omega, HNW.out.1, by have := HNW.out.2.1; omega, by omega, ownsRow_ft HOW.out F5.out lk_int, L5.out, .inr ⟨by omega, by rw [T5.out]; exact HPI.out⟩, HBr.out.trans (F5.out.below HBr.out.size)⟩, by simp [intOf]; omega⟩
        | true =>
          obtain ⟨l, hF⟩ := HP.out.1 rfl
          have HF := hidep hF
          clear hF
          obtain ⟨N1, hN1⟩ : ∃ N1, ts.length + 1 = N1 := ⟨_, rfl⟩
          have hN1' : N1 ≤ 301 := by omega
          have HN1 := hidep hN1
          have hTT : (ts ++ [nw]).length = N1 := by simp; omega
          have HTT := hidep hTT
          clear hTT
          go_wp2_with (first
            | (go_at_call 12; (with_reducible refine HAL.out.mono ?_); rintro e w5 ⟨S5, q5, n5, rfl, hl5, ht5, hn5, hf5⟩; have L5 := hidep hl5; have F5 := hidep hf5; have N5 := hidep hn5; have T5 := hidep ht5; clear hl5 ht5 hn5 hf5)
            | (at_builtin; refine wpList_append_lies _ rfl _ _ 43 rfl w.heap.size 3 i0 (.int .i64 0) 1 8 Try.underlying43 HI.out.1 HI.out.2.1 HI.out.2.2.1 HI.out.2.2.2 rfl (by decide) (.slice tp ts.length tc) ts.length (rowV iwV ts) rfl ((ownsRow_ft HOW.out F5.out lk_int).alloc _) ⟨_, 0, none⟩ 1 1 [.int .i64 nw] rfl rfl (by exact World.news_of_block (bxNew _ #[.int .i64 nw] 3)) (by simp [Value.oneCell']) (by decide) (by unfold maxLen; omega) (by omega) (by have := HBr.out.size; have := F5.out.size; simp; omega) _ rfl ?_; intro g7 c7 w7 ho7 hg7 hp7 hl7; have O7 := hidep ho7; have F7 := hidep ((F5.out.below HBr.out.size).trans ((Ft.idle (World.grownBy_alloc w5 (.cells #[.int .i64 nw] 3) none) : Ft IK w.heap.size w5 _).trans (ik_row ((ownsRow_ft HOW.out F5.out lk_int).alloc (.cells #[.int .i64 nw] 3)) hg7 (Nat.le_refl _)) |>.below (Nat.le_trans HBr.out.size F5.out.size))); have L7 := hidep ((L5.out.grown (World.grownBy_alloc w5 (.cells #[.int .i64 nw] 3) none)).ft (ik_row ((ownsRow_ft HOW.out F5.out lk_int).alloc (.cells #[.int .i64 nw] 3)) hg7 (Nat.le_refl w.heap.size)) ik_map ik_llim ik_lpar ik_lacc); clear ho7 hg7 hp7 hl7))
          obtain ⟨wo, hwo⟩ : ∃ wo, wo = wr := ⟨_, rfl⟩
          subst hwo
          have hO7 := O7.out
          rw [show rowV iwV ts ++ [Value.int IntKind.i64 nw] = rowV iwV (ts ++ [nw]) from (rowV_snoc ts nw).symm, HN1.out] at hO7
          have HO7 := hidep hO7
          have HC7 : Hid (∀ j (hj : j < (ts ++ [nw]).length), w7.cell? ⟨g7, j, none⟩ = some (.int .i64 (ts ++ [nw])[j])) := fun j hj => by
            have h1 := hO7.cells (g := g7) rfl j (.int .i64 (ts ++ [nw])[j]) (by
              have := rowV_get (V := iwV) (C := 1) (fun _ => rfl) (ts ++ [nw]) j 0 hj (by omega)
              rw [Nat.mul_one, Nat.add_zero] at this
              rw [this]; rfl)
            rw [Addr.add_lit, Nat.zero_add] at h1
            exact h1
          clear hO7
          go_loopw [64] (fun i wr => ∃ j : Nat, i = .int .i64 (j : Int) ∧ j ≤ N1 ∧ wr = w7) (fun i _ => N1 - (intOf i).toNat)
          case atStart => exact ⟨0, rfl, Nat.zero_le _, rfl⟩
          case round =>
            obtain ⟨j, rfl, hj, hwr⟩ := hrel
            have hwr := hwr.symm
            subst hwr
            by_cases hjl : j < N1
            · have hj2 : j < (ts ++ [nw]).length := by rw [HTT.out]; exact hjl
              have k0 := HC7.out j hj2
              have hfa := HF.out.fair j hj2
              have hlo := HF.out.low j hj2
              rw [HTT.out] at hfa
              have hl0 := HF.out.l0
              generalize (ts ++ [nw])[j] = tj at *
              have hnb : nw ≤ 5719 := by have := HNW.out; omega
              have hg := HG.out
              obtain ⟨e, he⟩ : ∃ e, nw - tj = e := ⟨_, rfl⟩
              rw [he] at hfa
              have he0 : 0 ≤ e ∧ e ≤ 5719 := by omega
              obtain ⟨q, hq⟩ : ∃ q, rate * e = q := ⟨_, rfl⟩
              rw [hq] at hfa
              have hq0 : 0 ≤ q := hq ▸ Int.mul_nonneg hg.1 he0.1
              have hq1 : q ≤ 5719000 := hq ▸ Int.le_trans (Int.mul_le_mul hg.2.1 he0.2 he0.1 (by omega)) (by decide)
              have hwe : IntKind.i64.wrap e = e := by rw [IntKind.wrap_i64]; omega
              have hwq : IntKind.i64.wrap q = q := by rw [IntKind.wrap_i64]; omega
              have hws : IntKind.i64.wrap (burst + q) = burst + q := by rw [IntKind.wrap_i64]; omega
              have hwj : IntKind.i64.wrap ((N1 : Int) - (j : Int)) = (N1 : Int) - (j : Int) := by rw [IntKind.wrap_i64]; omega
              have hcm : decide (burst + q < (N1 : Int) - (j : Int)) = false := by simp; omega
              have hji : (j : Int) < (N1 : Int) := by omega
              clear hfa hlo hl0 hnb hg he0 hq0 hq1
              go_wp2_with fail
              exact ⟨⟨j + 1, by go_num, by omega, by first | rfl | trivial⟩, by simp [intOf]; omega⟩
            · obtain rfl : j = N1 := by omega
              go_wp2_with fail
              have hN5 := N5.out
              have hn1 := HN1.out
              exact ⟨⟨k + 1, n5, nw, ts ++ [nw], S5, q5, by go_num, rfl, by omega, by omega, HNW.out.1, by have := HNW.out.2.1; omega, by rw [HTT.out]; omega, by rw [HTT.out]; exact HO7.out, L7.out, .inr ⟨by omega, by rw [T5.out]; exact ⟨l, HF.out⟩⟩, HBr.out.trans F7.out⟩, by simp [intOf]; omega⟩
      · have hsg : decide (z < 0) = false := by simp; omega
        have hmd : z.tmod 20 = d := by rw [Int.tmod_eq_emod_of_nonneg (by omega), ← hdd]; unfold wtD; rw [if_neg hsn]
        clear hsn hdd hdr hzr
        cases ab with
        | false =>
          have hP := HP.out.2 rfl
          have hk0 : ((k : Int) == 0) = false := by simp; omega
          have HPI := hidep hP.2
          clear hP
          go_wp2_with (go_at_call 12; (with_reducible refine HAL.out.mono ?_); rintro e w5 ⟨S5, q5, n5, rfl, hl5, ht5, hn5, hf5⟩; have L5 := hidep hl5; have F5 := hidep hf5; have N5 := hidep hn5; have T5 := hidep ht5; clear hl5 ht5 hn5 hf5)
          have hN5 := N5.out
          exact ⟨⟨k + 1, n5, nw, ts, S5, q5, by go_num, rfl, by omega, by omega, HNW.out.1, by have := HNW.out.2.1; omega, by omega, ownsRow_ft HOW.out F5.out lk_int, L5.out, .inr ⟨by omega, by rw [T5.out]; exact HPI.out⟩, HBr.out.trans (F5.out.below HBr.out.size)⟩, by simp [intOf]; omega⟩
        | true =>
          obtain ⟨l, hF⟩ := HP.out.1 rfl
          have HF := hidep hF
          clear hF
          obtain ⟨N1, hN1⟩ : ∃ N1, ts.length + 1 = N1 := ⟨_, rfl⟩
          have hN1' : N1 ≤ 301 := by omega
          have HN1 := hidep hN1
          have hTT : (ts ++ [nw]).length = N1 := by simp; omega
          have HTT := hidep hTT
          clear hTT
          go_wp2_with (first
            | (go_at_call 12; (with_reducible refine HAL.out.mono ?_); rintro e w5 ⟨S5, q5, n5, rfl, hl5, ht5, hn5, hf5⟩; have L5 := hidep hl5; have F5 := hidep hf5; have N5 := hidep hn5; have T5 := hidep ht5; clear hl5 ht5 hn5 hf5)
            | (at_builtin; refine wpList_append_lies _ rfl _ _ 43 rfl w.heap.size 3 i0 (.int .i64 0) 1 8 Try.underlying43 HI.out.1 HI.out.2.1 HI.out.2.2.1 HI.out.2.2.2 rfl (by decide) (.slice tp ts.length tc) ts.length (rowV iwV ts) rfl ((ownsRow_ft HOW.out F5.out lk_int).alloc _) ⟨_, 0, none⟩ 1 1 [.int .i64 nw] rfl rfl (by exact World.news_of_block (bxNew _ #[.int .i64 nw] 3)) (by simp [Value.oneCell']) (by decide) (by unfold maxLen; omega) (by omega) (by have := HBr.out.size; have := F5.out.size; simp; omega) _ rfl ?_; intro g7 c7 w7 ho7 hg7 hp7 hl7; have O7 := hidep ho7; have F7 := hidep ((F5.out.below HBr.out.size).trans ((Ft.idle (World.grownBy_alloc w5 (.cells #[.int .i64 nw] 3) none) : Ft IK w.heap.size w5 _).trans (ik_row ((ownsRow_ft HOW.out F5.out lk_int).alloc (.cells #[.int .i64 nw] 3)) hg7 (Nat.le_refl _)) |>.below (Nat.le_trans HBr.out.size F5.out.size))); have L7 := hidep ((L5.out.grown (World.grownBy_alloc w5 (.cells #[.int .i64 nw] 3) none)).ft (ik_row ((ownsRow_ft HOW.out F5.out lk_int).alloc (.cells #[.int .i64 nw] 3)) hg7 (Nat.le_refl w.heap.size)) ik_map ik_llim ik_lpar ik_lacc); clear ho7 hg7 hp7 hl7))
          obtain ⟨wo, hwo⟩ : ∃ wo, wo = wr := ⟨_, rfl⟩
          subst hwo
          have hO7 := O7.out
          rw [show rowV iwV ts ++ [Value.int IntKind.i64 nw] = rowV iwV (ts ++ [nw]) from (rowV_snoc ts nw).symm, HN1.out] at hO7
          have HO7 := hidep hO7
          have HC7 : Hid (∀ j (hj : j < (ts ++ [nw]).length), w7.cell? ⟨g7, j, none⟩ = some (.int .i64 (ts ++ [nw])[j])) := fun j hj => by
            have h1 := hO7.cells (g := g7) rfl j (.int .i64 (ts ++ [nw])[j]) (by
              have := rowV_get (V := iwV) (C := 1) (fun _ => rfl) (ts ++ [nw]) j 0 hj (by omega)
              rw [Nat.mul_one, Nat.add_zero] at this
              rw [this]; rfl)
            rw [Addr.add_lit, Nat.zero_add] at h1
            exact h1
          clear hO7
          go_loopw [64] (fun i wr => ∃ j : Nat, i = .int .i64 (j : Int) ∧ j ≤ N1 ∧ wr = w7) (fun i _ => N1 - (intOf i).toNat)
          case atStart => exact ⟨0, rfl, Nat.zero_le _, rfl⟩
          case round =>
            obtain ⟨j, rfl, hj, hwr⟩ := hrel
            have hwr := hwr.symm
            subst hwr
            by_cases hjl : j < N1
            · have hj2 : j < (ts ++ [nw]).length := by rw [HTT.out]; exact hjl
              have k0 := HC7.out j hj2
              have hfa := HF.out.fair j hj2
              have hlo := HF.out.low j hj2
              rw [HTT.out] at hfa
              have hl0 := HF.out.l0
              generalize (ts ++ [nw])[j] = tj at *
              have hnb : nw ≤ 5719 := by have := HNW.out; omega
              have hg := HG.out
              obtain ⟨e, he⟩ : ∃ e, nw - tj = e := ⟨_, rfl⟩
              rw [he] at hfa
              have he0 : 0 ≤ e ∧ e ≤ 5719 := by omega
              obtain ⟨q, hq⟩ : ∃ q, rate * e = q := ⟨_, rfl⟩
              rw [hq] at hfa
              have hq0 : 0 ≤ q := hq ▸ Int.mul_nonneg hg.1 he0.1
              have hq1 : q ≤ 5719000 := hq ▸ Int.le_trans (Int.mul_le_mul hg.2.1 he0.2 he0.1 (by omega)) (by decide)
              have hwe : IntKind.i64.wrap e = e := by rw [IntKind.wrap_i64]; omega
              have hwq : IntKind.i64.wrap q = q := by rw [IntKind.wrap_i64]; omega
              have hws : IntKind.i64.wrap (burst + q) = burst + q := by rw [IntKind.wrap_i64]; omega
              have hwj : IntKind.i64.wrap ((N1 : Int) - (j : Int)) = (N1 : Int) - (j : Int) := by rw [IntKind.wrap_i64]; omega
              have hcm : decide (burst + q < (N1 : Int) - (j : Int)) = false := by simp; omega
              have hji : (j : Int) < (N1 : Int) := by omega
              clear hfa hlo hl0 hnb hg he0 hq0 hq1
              go_wp2_with fail
              exact ⟨⟨j + 1, by go_num, by omega, by first | rfl | trivial⟩, by simp [intOf]; omega⟩
            · obtain rfl : j = N1 := by omega
              go_wp2_with fail
              have hN5 := N5.out
              have hn1 := HN1.out
              exact ⟨⟨k + 1, n5, nw, ts ++ [nw], S5, q5, by go_num, rfl, by omega, by omega, HNW.out.1, by have := HNW.out.2.1; omega, by rw [HTT.out]; omega, by rw [HTT.out]; exact HO7.out, L7.out, .inr ⟨by omega, by rw [T5.out]; exact ⟨l, HF.out⟩⟩, HBr.out.trans F7.out⟩, by simp [intOf]; omega⟩
    · obtain rfl : k = C.length := by omega
      go_wp2_with fail
      go_ret
      exact ⟨rfl, HBr.out⟩
end Go.Proofs.Ytdaimcccdleodaa
