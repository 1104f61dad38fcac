import Derived.Test.YtdaimcccdleodaaLr3
import Derived.Deep.Cut
/-
  Chapter 15: the reference's Allow, of an address of 16 bytes. (The verifier's own text.)
-/
namespace Go.Proofs.Ytdaimcccdleodaa
set_option linter.unusedVariables false
set_option linter.unusedSimpArgs false
open Go.RowKit Go.Shelf Go.Maps

set_option maxRecDepth 100000 in
set_option maxHeartbeats 8000000 in
theorem rallow_16 (R base : Nat) (qv : Value) (rate burst now : Int) (T : List Tr) (s x : ByteArray) (w : World) (h : Ref w R base qv rate burst T) (hs : s.size = 16) (hx : s.extract 0 7 = x) (hnd : (T.map (·.1)).Nodup)
    (hr0 : 0 ≤ rate) (hr1 : rate ≤ 1000) (hb0 : 1 ≤ burst) (hb1 : burst ≤ 1000) (hnow : (Lit.int .i64 now).wf = true) :
    Calls Try.prog 13 #[.pointer (some ⟨R, 0, none⟩), .string s, .int .i64 now] w fun e w' => e = .returned (.bool (alwB rate burst T x now)) ∧ ∃ qv', Ref w' R base qv' rate burst (alwT rate burst T x now) ∧ Ft RK base w w' := by
  have HA := hidep (address_any s)
  rw [show adB s = true by unfold adB; rw [hs]; rfl] at HA
  have H := hidep h
  have HND := hidep hnd
  have HG := hidep (And.intro hr0 (And.intro hr1 (And.intro hb0 (And.intro hb1 hnow))))
  obtain ⟨qp, qc, rfl, hq1, hq2, hq3⟩ := h.q.form
  have q2 : w.cell? ⟨R, 2, none⟩ = some (.slice qp T.length qc) := h.bx.cell rfl
  have q1 : w.cell? ⟨R, 1, none⟩ = some (.int .i64 burst) := h.bx.cell rfl
  have hlen := h.len
  have hnlo : (-9223372036854775808 : Int) ≤ now := by simp [Lit.wf, IntKind.min, IntKind.max, IntKind.bits, IntKind.signed] at hnow; omega
  have HLO := hidep hnlo
  have HK := hidep (fun (m : Nat) (hm : m < T.length) (l t : Int) (he : T[m] = (x, l, t)) (hb : ∀ j (hj : j < T.length), j < m → ¬ T[j].1 = x) => alw_known (rate := rate) (burst := burst) (now := now) hnd hm he hb)
  have HNEW := hidep (fun (hb : ∀ j (hj : j < T.length), ¬ T[j].1 = x) => alw_new (rate := rate) (burst := burst) (now := now) hnd hb)
  generalize hAB : alwB rate burst T x now = AB at *
  generalize hAT : alwT rate burst T x now = AT at *
  clear h hnd hr0 hr1 hb0 hb1 hnow hAB hAT hq1 hq2 hnlo
  go_enter Try.func13, Try.ntmps13
  go_wp2_with (go_at_call 15; (with_reducible refine (HA.out _).mono ?_); rintro e w1 ⟨rfl, h1⟩; have h1 := h1.symm; subst h1)
  go_loopw [8] (fun i wr => ∃ m : Nat, i = .int .i64 (m : Int) ∧ m ≤ T.length ∧ Hid (∀ j (hj : j < T.length), j < m → ¬ T[j].1 = x) ∧ wr = w) (fun i _ => T.length - (intOf i).toNat)
  case atStart => exact ⟨0, rfl, Nat.zero_le _, (fun j _ h => absurd h (Nat.not_lt_zero _)), rfl⟩
  case round =>
    obtain ⟨m, rfl, hm, HN, hwr⟩ := hrel
    have hwr := hwr.symm
    subst hwr
    by_cases hlt : m < T.length
    · obtain ⟨g, o, cap, hqe, hc1, hc2, hbg, hgl⟩ := H.out.q.there (by omega)
      injection hqe with e1 _ e3
      subst e1 e3
      have cc := H.out.q.cells
      have hget : ∀ r, r < 3 → (rowV trV T)[m * 3 + r]? = (trV T[m])[r]? := fun r hr => rowV_get trV_len T m r hlt hr
      have k0 : w.cell? ⟨g, o * 3 + m * 3, none⟩ = some (.string T[m].1) := by
        have := cc (m * 3 + 0) (.string T[m].1) (by rw [hget 0 (by omega)]; rfl)
        rw [Addr.add_lit] at this
        exact this
      have hmi : ((m : Int) == (T.length : Int)) = false := by simp; omega
      have HKM := hidep (HK.out m hlt)
      have HGD := hidep (H.out.good T[m] (List.getElem_mem hlt))
      have HTM : Hid (T.set m T[m] = T) := by unfold Hid; exact List.set_getElem_self hlt
      have HXX : Hid (¬ T[m].1 = x → ∀ j (hj : j < T.length), j < m + 1 → ¬ T[j].1 = x) := fun h j hj hjk => by
        rcases Nat.lt_or_ge j m with h' | h'
        · exact HN.out j hj h'
        · obtain rfl : j = m := by omega
          exact h
      generalize T[m] = y at *
      obtain ⟨yx, l, t⟩ := y
      dsimp only at k0 HGD HXX
      clear cc hget
      by_cases he : yx = x
      · subst he
        have hq : (yx.toList == yx.toList) = true := by simp
        have hAL := HKM.out l t rfl HN.out
        have HAL := hidep hAL
        have h0 : RSt w w R base g o qc (o * 3 + m * 3) rate burst T m yx l t := ⟨H.out.bx, by rw [HTM.out]; exact H.out.q, grown_refl _ _, hlt, rfl⟩
        have H0 := hidep h0
        have HQ : Hid (∀ w', RSt w w' R base g o qc (o * 3 + m * 3) rate burst T m yx (tkL (reL rate burst l t now)) (reT t now) → (Ending.returned (.bool (tkB (reL rate burst l t now))) = .returned (.bool AB) ∧ ∃ qv', Ref w' R base qv' rate burst AT ∧ Ft RK base w w')) := fun w' hS => by
          have hrr := reL_range (rate := rate) (burst := burst) (left := l) (last := t) (now := now) HG.out.1 (by have := HG.out; omega) HGD.out.1 HGD.out.2.1
          have htk : 0 ≤ tkL (reL rate burst l t now) ∧ tkL (reL rate burst l t now) ≤ burst := by unfold tkL; split <;> omega
          have := hS.ref H0.out H.out.good H.out.len htk.1 htk.2 (reT_wf HGD.out.2.2 HG.out.2.2.2.2) H.out.bR H.out.bW
          rw [HAL.out.1, HAL.out.2]
          exact ⟨rfl, _, this⟩
        have htlo : (-9223372036854775808 : Int) ≤ t := by have := HGD.out.2.2; simp [Lit.wf, IntKind.min, IntKind.max, IntKind.bits, IntKind.signed] at this; omega
        have HTL := hidep htlo
        clear h0 hAL htlo hc1 hc2
        go_upto_region 14 with fail
        rename_i K hK
        have HKK := hidep hK
        clear hK
        go_wp2_with fail
        refine HKK.out _ _ ?_
        exact rtail R base g o qc (o * 3 + m * 3) m rate burst now l t T yx _ w H0.out HG.out.1 HG.out.2.1 HG.out.2.2.1 HG.out.2.2.2.1 HGD.out.1 HGD.out.2.1 HG.out.2.2.2.2 HTL.out HQ _ _ _ _ _ _ _ _ _ _ _ _ _ _ _ _ _ _ _ _ _ _ _ _ _ _ _ _ _ _ _ _ _ _ _ _ _ _ _ _ _ _ _ _ _ _ _ _ _ _ _ _ _ _ _ _ _ _ _ _ _ _ _ _ _ _ _ _ _ _ _ _ _ _ _ _ _ _ _ _ _ _ _ _ _ _ _ _ _ _ _ _ _ _ _ _ _ _ _ _ _ _ _ _ _ _ _ _ _ _ _ _ _ _ _ _ _ _ _ _ _ _ _ _ _ _ _ _ _ _ _ _ _ _ _ _ _ _ _ _ _ _ _ _ _ _ _ _ _ _ _ _ _ _ _ _ _ _ _ _ _ _ _
      · have hq : (yx.toList == x.toList) = false := by rw [ba_beq]; exact decide_eq_false he
        have HV := hidep (HXX.out he)
        clear he
        go_wp2_with fail
        exact ⟨⟨m + 1, by go_num, by omega, HV.out, by first | rfl | trivial⟩, by simp [intOf]; omega⟩
    · obtain rfl : m = T.length := by omega
      have HAL := hidep (HNEW.out (fun j hj => HN.out j hj hj))
      obtain ⟨i0, hi, hz0, hz1, hz2⟩ := info_parts infoOne
      have HI := hidep (And.intro hi (And.intro hz0 (And.intro hz1 hz2)))
      have HLT := hidep hlen
      have qa2 : ∀ ob, (w.alloc ob).cell? ⟨R, 2, none⟩ = some (.slice qp T.length qc) := fun ob => (H.out.bx.grown (World.grownBy_alloc w ob none) (by simp)).cell rfl
      have qa1 : ∀ ob, (w.alloc ob).cell? ⟨R, 1, none⟩ = some (.int .i64 burst) := fun ob => (H.out.bx.grown (World.grownBy_alloc w ob none) (by simp)).cell rfl
      have hrr := reL_range (rate := rate) (burst := burst) (left := burst) (last := now) (now := now) HG.out.1 (by have := HG.out; omega) (by have := HG.out; omega) (Int.le_refl _)
      have htk : 0 ≤ tkL (reL rate burst burst now now) ∧ tkL (reL rate burst burst now now) ≤ burst := by unfold tkL; split <;> omega
      have HTK := hidep htk
      clear hi hz0 hz1 hz2 hrr htk hlt hm
      by_cases hfull : T.length = 1000
      · have hgt : decide ((1000 : Int) < (T.length : Int) + 1) = true := by simp; omega
        obtain ⟨n2, hn2⟩ : ∃ n2, T.length = n2 + 1 := ⟨999, by omega⟩
        have hw2 : IntKind.i64.wrap ((T.length : Int) - 1) = (n2 : Int) := by rw [IntKind.wrap_i64]; omega
        have hb2 : (n2 : Int) < (T.length : Int) := by omega
        have hb2n : n2 < T.length := by omega
        have HN2 := hidep hn2
        obtain ⟨y, T2, hT⟩ : ∃ y T2, T = y :: T2 := by
          cases T with
          | nil => simp at hfull
          | cons y T2 => exact ⟨y, T2, rfl⟩
        have HT := hidep hT
        have HFU := hidep hfull
        clear hT hfull hn2 hlen
        go_wp2_with fail
        go_region_law ((refine step_append_orow _ rfl _ _ 36 rfl base 69 i0 (.agg #[.string ⟨#[]⟩, .int .i64 0, .int .i64 0]) 3 32 Try.underlying36 HI.out.1 HI.out.2.1 HI.out.2.2.1 HI.out.2.2.2 rfl (by decide) (.slice qp T.length qc) T.length (rowV trV T) rfl (H.out.q.kept (row := none) (by first | exact grown_trans (World.grownBy_alloc w _ _) (grown_drewN _ 1 _) | exact World.grownBy_alloc w _ _ | exact grown_trans (grown_drewN w 1 _) (World.grownBy_alloc _ _ _)) (fun _ _ => by simp)) ⟨_, 0, none⟩ 1 1 (trV (x, burst, now)) rfl rfl (by first | exact World.news_of_block (bxNew _ #[.string x, .int .i64 burst, .int .i64 now] 69)) (trV_one _) (by decide) (by have := HLT.out; unfold maxLen; omega) (by have := HLT.out; omega) (by have := H.out.bW; simp; omega) ?_); intro g7 f7 c7 w7 o7 gr7 pl7; obtain ⟨c73, f73⟩ := Ref.push0 H.out (by first | exact grown_trans (World.grownBy_alloc w _ _) (grown_drewN _ 1 _) | exact World.grownBy_alloc w _ _ | exact grown_trans (grown_drewN w 1 _) (World.grownBy_alloc _ _ _)) gr7; have E7 := hidep (Ref.push H.out (by first | exact grown_trans (World.grownBy_alloc w _ _) (grown_drewN _ 1 _) | exact World.grownBy_alloc w _ _ | exact grown_trans (grown_drewN w 1 _) (World.grownBy_alloc _ _ _)) gr7 o7); obtain ⟨w8, hw8⟩ : ∃ w8, w7.setCell ⟨R, 2, none⟩ (.slice (some ⟨g7, f7 * 3, none⟩) (T.length + 1) c7) = w8 := ⟨_, rfl⟩; rw [hw8] at E7; have k8 : w8.cell? ⟨R, 2, none⟩ = some (.slice (some ⟨g7, f7 * 3, none⟩) (T.length + 1) c7) := E7.out.1.cell rfl; have k8f : w8.frozen? ⟨R, 2, none⟩ = false := E7.out.1.free 2; clear o7 gr7 pl7; have E9 := hidep (Ref.pop (T2 := T2 ++ [(x, burst, now)]) (y := y) (n := T.length) E7.out.1 (by have := E7.out.2.1; rw [HT.out] at this ⊢; exact this) H.out.bR); obtain ⟨w9, hw9⟩ : ∃ w9, w8.setCell ⟨R, 2, none⟩ (.slice (some ⟨g7, f7 * 3 + 3, none⟩) T.length (c7 - 1)) = w9 := ⟨_, rfl⟩; rw [hw9] at E9; have k9 : w9.cell? ⟨R, 2, none⟩ = some (.slice (some ⟨g7, f7 * 3 + 3, none⟩) T.length (c7 - 1)) := E9.out.1.cell rfl; have hc7 : (T.length : Int) + 1 ≤ (c7 : Int) := (by have := E9.out.2.2.2.1; omega); have hc7m : (c7 : Int) ≤ 9223372036854775807 := (by have := E9.out.2.2.2.2; unfold maxLen at this; omega); have hc7n : ¬ c7 = 1 := (by have := E9.out.2.2.2.1; have := HFU.out; omega))
        all_goals
          go_upto_region 14 with fail
          rename_i K hK
          have HKK := hidep hK
          clear hK
          go_wp2_with fail
          refine HKK.out _ _ ?_
          have e3 : f7 * 3 + 3 = (f7 + 1) * 3 := by omega
          have hgo : goL T = T2 := by unfold goL; rw [if_pos HFU.out, HT.out]; rfl
          have hl2 : T2.length = n2 := by have := HN2.out; rw [HT.out] at this; simpa using this
          have hl3 : (T2 ++ [(x, burst, now)]).length = T.length := by rw [HT.out]; simp
          have h0 : RSt w9 w9 R base g7 (f7 + 1) (c7 - 1) (f7 * 3 + 3 + n2 * 3) rate burst (T2 ++ [(x, burst, now)]) n2 x burst now := by
            refine ⟨?_, ?_, grown_refl _ _, by rw [hl3]; exact hb2n, by omega⟩
            · rw [hl3, ← e3]; exact E9.out.1
            · rw [hl3, ← e3, List.set_append_right _ _ (by omega), hl2, Nat.sub_self]; exact E9.out.2.1
          refine rtail R base g7 (f7 + 1) (c7 - 1) (f7 * 3 + 3 + n2 * 3) n2 rate burst now burst now (T2 ++ [(x, burst, now)]) x _ w9 h0 HG.out.1 HG.out.2.1 HG.out.2.2.1 HG.out.2.2.2.1 (by have := HG.out; omega) (Int.le_refl _) HG.out.2.2.2.2 HLO.out (fun w' hS => ?_) _ _ _ _ _ _ _ _ _ _ _ _ _ _ _ _ _ _ _ _ _ _ _ _ _ _ _ _ _ _ _ _ _ _ _ _ _ _ _ _ _ _ _ _ _ _ _ _ _ _ _ _ _ _ _ _ _ _ _ _ _ _ _ _ _ _ _ _ _ _ _ _ _ _ _ _ _ _ _ _ _ _ _ _ _ _ _ _ _ _ _ _ _ _ _ _ _ _ _ _ _ _ _ _ _ _ _ _ _ _ _ _ _ _ _ _ _ _ _ _ _ _ _ _ _ _ _ _ _ _ _ _ _ _ _ _ _ _ _ _ _ _ _ _ _ _ _ _ _ _ _ _ _ _ _ _ _ _ _ _ _ _ _
          have hgd : ∀ y' ∈ T2 ++ [(x, burst, now)], 0 ≤ y'.2.1 ∧ y'.2.1 ≤ burst ∧ (Lit.int .i64 y'.2.2).wf = true := fun y' hy' => by
            rcases List.mem_append.1 hy' with hy' | hy'
            · exact H.out.good y' (by rw [HT.out]; simp [hy'])
            · obtain rfl := List.mem_singleton.1 hy'
              exact ⟨show (0 : Int) ≤ burst by have := HG.out; omega, Int.le_refl _, HG.out.2.2.2.2⟩
          have hF9 := (E7.out.2.2).trans E9.out.2.2.1
          have := hS.ref h0 hgd (by rw [hl3]; exact HLT.out) HTK.out.1 HTK.out.2 (reT_wf HG.out.2.2.2.2 HG.out.2.2.2.2) H.out.bR (Nat.le_trans H.out.bW hF9.size)
          rw [HAL.out.1, HAL.out.2, hgo, hl2]
          exact ⟨rfl, _, this.1, hF9.trans this.2⟩
      · have hgt : decide ((1000 : Int) < (T.length : Int) + 1) = false := by simp; omega
        have hb2 : (T.length : Int) < (T.length : Int) + 1 := by omega
        have HFU := hidep hfull
        clear hfull hlen
        go_wp2_with fail
        go_region_law ((refine step_append_orow _ rfl _ _ 36 rfl base 69 i0 (.agg #[.string ⟨#[]⟩, .int .i64 0, .int .i64 0]) 3 32 Try.underlying36 HI.out.1 HI.out.2.1 HI.out.2.2.1 HI.out.2.2.2 rfl (by decide) (.slice qp T.length qc) T.length (rowV trV T) rfl (H.out.q.kept (row := none) (by first | exact grown_trans (World.grownBy_alloc w _ _) (grown_drewN _ 1 _) | exact World.grownBy_alloc w _ _ | exact grown_trans (grown_drewN w 1 _) (World.grownBy_alloc _ _ _)) (fun _ _ => by simp)) ⟨_, 0, none⟩ 1 1 (trV (x, burst, now)) rfl rfl (by first | exact World.news_of_block (bxNew _ #[.string x, .int .i64 burst, .int .i64 now] 69)) (trV_one _) (by decide) (by have := HLT.out; unfold maxLen; omega) (by have := HLT.out; omega) (by have := H.out.bW; simp; omega) ?_); intro g7 f7 c7 w7 o7 gr7 pl7; obtain ⟨c73, f73⟩ := Ref.push0 H.out (by first | exact grown_trans (World.grownBy_alloc w _ _) (grown_drewN _ 1 _) | exact World.grownBy_alloc w _ _ | exact grown_trans (grown_drewN w 1 _) (World.grownBy_alloc _ _ _)) gr7; have E7 := hidep (Ref.push H.out (by first | exact grown_trans (World.grownBy_alloc w _ _) (grown_drewN _ 1 _) | exact World.grownBy_alloc w _ _ | exact grown_trans (grown_drewN w 1 _) (World.grownBy_alloc _ _ _)) gr7 o7); obtain ⟨w8, hw8⟩ : ∃ w8, w7.setCell ⟨R, 2, none⟩ (.slice (some ⟨g7, f7 * 3, none⟩) (T.length + 1) c7) = w8 := ⟨_, rfl⟩; rw [hw8] at E7; have k8 : w8.cell? ⟨R, 2, none⟩ = some (.slice (some ⟨g7, f7 * 3, none⟩) (T.length + 1) c7) := E7.out.1.cell rfl; have k8f : w8.frozen? ⟨R, 2, none⟩ = false := E7.out.1.free 2; clear o7 gr7 pl7)
        all_goals
          go_upto_region 14 with fail
          rename_i K hK
          have HKK := hidep hK
          clear hK
          go_wp2_with fail
          refine HKK.out _ _ ?_
          have hgo : goL T = T := by unfold goL; rw [if_neg HFU.out]
          have hl3 : (T ++ [(x, burst, now)]).length = T.length + 1 := by simp
          have h0 : RSt w8 w8 R base g7 f7 c7 (f7 * 3 + T.length * 3) rate burst (T ++ [(x, burst, now)]) T.length x burst now := by
            refine ⟨?_, ?_, grown_refl _ _, by rw [hl3]; omega, rfl⟩
            · rw [hl3]; exact E7.out.1
            · rw [hl3, List.set_append_right _ _ (Nat.le_refl _), Nat.sub_self]; exact E7.out.2.1
          refine rtail R base g7 f7 c7 (f7 * 3 + T.length * 3) T.length rate burst now burst now (T ++ [(x, burst, now)]) x _ w8 h0 HG.out.1 HG.out.2.1 HG.out.2.2.1 HG.out.2.2.2.1 (by have := HG.out; omega) (Int.le_refl _) HG.out.2.2.2.2 HLO.out (fun w' hS => ?_) _ _ _ _ _ _ _ _ _ _ _ _ _ _ _ _ _ _ _ _ _ _ _ _ _ _ _ _ _ _ _ _ _ _ _ _ _ _ _ _ _ _ _ _ _ _ _ _ _ _ _ _ _ _ _ _ _ _ _ _ _ _ _ _ _ _ _ _ _ _ _ _ _ _ _ _ _ _ _ _ _ _ _ _ _ _ _ _ _ _ _ _ _ _ _ _ _ _ _ _ _ _ _ _ _ _ _ _ _ _ _ _ _ _ _ _ _ _ _ _ _ _ _ _ _ _ _ _ _ _ _ _ _ _ _ _ _ _ _ _ _ _ _ _ _ _ _ _ _ _ _ _ _ _ _ _ _ _ _ _ _ _ _
          have hgd : ∀ y' ∈ T ++ [(x, burst, now)], 0 ≤ y'.2.1 ∧ y'.2.1 ≤ burst ∧ (Lit.int .i64 y'.2.2).wf = true := fun y' hy' => by
            rcases List.mem_append.1 hy' with hy' | hy'
            · exact H.out.good y' hy'
            · obtain rfl := List.mem_singleton.1 hy'
              exact ⟨show (0 : Int) ≤ burst by have := HG.out; omega, Int.le_refl _, HG.out.2.2.2.2⟩
          have := hS.ref h0 hgd (by rw [hl3]; have := HLT.out; have := HFU.out; omega) HTK.out.1 HTK.out.2 (reT_wf HG.out.2.2.2.2 HG.out.2.2.2.2) H.out.bR (Nat.le_trans H.out.bW E7.out.2.2.size)
          rw [HAL.out.1, HAL.out.2, hgo]
          exact ⟨rfl, _, this.1, E7.out.2.2.trans this.2⟩
end Go.Proofs.Ytdaimcccdleodaa
