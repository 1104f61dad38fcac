import Derived.Test.YtdaimcccdleodaaLr4
import Derived.Test.YtdaimcccdleodaaLr5
/-
  Chapter 15: PolicyLimits. (The verifier's own text.)
-/
namespace Go.Proofs.Ytdaimcccdleodaa
set_option linter.unusedVariables false
set_option linter.unusedSimpArgs false
open Go.RowKit Go.Shelf Go.Maps

theorem ad_who (s : ByteArray) : adB s = (whoB s).isSome := by
  unfold adB whoB
  by_cases h4 : s.size = 4
  · simp [h4]
  · by_cases h16 : s.size = 16
    · simp [h16]
    · rw [if_neg h4, if_neg h16]
      simp
      omega
set_option maxRecDepth 100000 in
/-- the reference's Allow -/
theorem rallow_any (R base : Nat) (qv : Value) (rate burst now : Int) (T : List Tr) (s : ByteArray) (w : World) (h : Ref w R base qv rate burst T) (hnd : (T.map (·.1)).Nodup)
    (hr0 : 0 ≤ rate) (hr1 : rate ≤ 1000) (hb0 : 1 ≤ burst) (hb1 : burst ≤ 1000) (hnow : (Lit.int .i64 now).wf = true) :
    Calls Try.prog 13 #[.pointer (some ⟨R, 0, none⟩), .string s, .int .i64 now] w fun e w' => e = .returned (.bool (aB rate burst T s now)) ∧ ∃ qv', Ref w' R base qv' rate burst (aT rate burst T s now) ∧ Ft RK base w w' := by
  unfold aB aT
  cases hs : whoB s with
  | none =>
    have HA := hidep (address_any s)
    rw [show adB s = false by rw [ad_who, hs]; rfl] at HA
    have H := hidep h
    clear h hs
    go_enter Try.func13, Try.ntmps13
    go_wp2_with (go_at_call 15; (with_reducible refine (HA.out _).mono ?_); rintro e w1 ⟨rfl, h1⟩; have h1 := h1.symm; subst h1)
    go_ret
    exact ⟨rfl, _, H.out, Ft.refl _ _ _⟩
  | some x =>
    simp only
    unfold whoB at hs
    split at hs
    · rename_i h4
      exact rallow_4 R base qv rate burst now T s x w h h4 (Option.some.inj hs) hnd hr0 hr1 hb0 hb1 hnow
    · split at hs
      · rename_i h16
        exact rallow_16 R base qv rate burst now T s x w h h16 (Option.some.inj hs) hnd hr0 hr1 hb0 hb1 hnow
      · cases hs
/-- a call -/
abbrev Cl := ByteArray × Int
def clV (x : Cl) : List Value := [.string x.1, .int .i64 x.2]
abbrev ClAt (w : World) (p : Option Addr) (l : List Cl) : Prop := RowAt 2 clV w p l
theorem trE_who (S : List En) : (S.map trE).map (·.1) = S.map (·.who) := by rw [List.map_map]; rfl
set_option maxRecDepth 100000 in
theorem limits_a (rate burst : Int) (n cap : Nat) (p : Option Addr) (w : World) (h1 : rate < 0) :
    Calls Try.prog 4 #[.int .i64 rate, .int .i64 burst, .slice p n cap] w fun e w' => e = .returned (.bool true) ∧ Below w.heap.size w w' := by
  have HN := hidep (new_no rate burst w (by unfold goodB; simp; omega))
  have HA := hidep (alive_any w)
  have e1 : decide (0 ≤ rate) = false := by simp; omega
  clear h1
  go_enter Try.func4, Try.ntmps4
  go_wp2_with (first
    | (go_at_call 11; (with_reducible refine HN.out.mono ?_); rintro e w1 ⟨rfl, h1⟩; have h1 := h1.symm; subst h1)
    | (go_at_call 6; (with_reducible refine HA.out.mono ?_); rintro e w2 ⟨rfl, hB2⟩))
  go_ret
  exact ⟨rfl, hB2⟩
set_option maxRecDepth 100000 in
theorem limits_b (rate burst : Int) (n cap : Nat) (p : Option Addr) (w : World) (h1 : 1000 < rate) :
    Calls Try.prog 4 #[.int .i64 rate, .int .i64 burst, .slice p n cap] w fun e w' => e = .returned (.bool true) ∧ Below w.heap.size w w' := by
  have HN := hidep (new_no rate burst w (by unfold goodB; simp; omega))
  have HA := hidep (alive_any w)
  have e1 : decide (0 ≤ rate) = true := by simp; omega
  have e2 : decide (rate ≤ 1000) = false := by simp; omega
  clear h1
  go_enter Try.func4, Try.ntmps4
  go_wp2_with (first
    | (go_at_call 11; (with_reducible refine HN.out.mono ?_); rintro e w1 ⟨rfl, h1⟩; have h1 := h1.symm; subst h1)
    | (go_at_call 6; (with_reducible refine HA.out.mono ?_); rintro e w2 ⟨rfl, hB2⟩))
  go_ret
  exact ⟨rfl, hB2⟩
set_option maxRecDepth 100000 in
theorem limits_c (rate burst : Int) (n cap : Nat) (p : Option Addr) (w : World) (h1 : 0 ≤ rate) (h2 : rate ≤ 1000) (h3 : burst < 1) :
    Calls Try.prog 4 #[.int .i64 rate, .int .i64 burst, .slice p n cap] w fun e w' => e = .returned (.bool true) ∧ Below w.heap.size w w' := by
  have HN := hidep (new_no rate burst w (by unfold goodB; simp; omega))
  have HA := hidep (alive_any w)
  have e1 : decide (0 ≤ rate) = true := by simp; omega
  have e2 : decide (rate ≤ 1000) = true := by simp; omega
  have e3 : decide (1 ≤ burst) = false := by simp; omega
  clear h1 h2 h3
  go_enter Try.func4, Try.ntmps4
  go_wp2_with (first
    | (go_at_call 11; (with_reducible refine HN.out.mono ?_); rintro e w1 ⟨rfl, h1⟩; have h1 := h1.symm; subst h1)
    | (go_at_call 6; (with_reducible refine HA.out.mono ?_); rintro e w2 ⟨rfl, hB2⟩))
  go_ret
  exact ⟨rfl, hB2⟩
set_option maxRecDepth 100000 in
theorem limits_d (rate burst : Int) (n cap : Nat) (p : Option Addr) (w : World) (h1 : 0 ≤ rate) (h2 : rate ≤ 1000) (h3 : 1000 < burst) :
    Calls Try.prog 4 #[.int .i64 rate, .int .i64 burst, .slice p n cap] w fun e w' => e = .returned (.bool true) ∧ Below w.heap.size w w' := by
  have HN := hidep (new_no rate burst w (by unfold goodB; simp; omega))
  have HA := hidep (alive_any w)
  have e1 : decide (0 ≤ rate) = true := by simp; omega
  have e2 : decide (rate ≤ 1000) = true := by simp; omega
  have e3 : decide (1 ≤ burst) = true := by simp; omega
  have e4 : decide (burst ≤ 1000) = false := by simp; omega
  clear h1 h2 h3
  go_enter Try.func4, Try.ntmps4
  go_wp2_with (first
    | (go_at_call 11; (with_reducible refine HN.out.mono ?_); rintro e w1 ⟨rfl, h1⟩; have h1 := h1.symm; subst h1)
    | (go_at_call 6; (with_reducible refine HA.out.mono ?_); rintro e w2 ⟨rfl, hB2⟩))
  go_ret
  exact ⟨rfl, hB2⟩

theorem lk_call (cs : Array Value) : ¬ LK (.cells cs 40 (0, 0)) := by intro h; rcases h with h | h | h <;> revert h <;> decide
theorem rk_call (cs : Array Value) : ¬ RK (.cells cs 40 (0, 0)) := by intro h; rcases h with h | h <;> revert h <;> decide
theorem lk_rlim (cs : Array Value) : ¬ LK (.cells cs 38 (0, 0)) := by intro h; rcases h with h | h | h <;> revert h <;> decide
theorem lk_rone (cs : Array Value) : ¬ LK (.cells cs 69 (0, 0)) := by intro h; rcases h with h | h | h <;> revert h <;> decide
theorem rk_llim (cs : Array Value) : ¬ RK (.cells cs 56 (0, 0)) := by intro h; rcases h with h | h <;> revert h <;> decide
theorem rk_lpar (cs : Array Value) : ¬ RK (.cells cs 59 (0, 0)) := by intro h; rcases h with h | h <;> revert h <;> decide
theorem rk_lacc (cs : Array Value) : ¬ RK (.cells cs 67 (0, 0)) := by intro h; rcases h with h | h <;> revert h <;> decide
theorem rk_map (es : Array MapEntry) (c : Nat) : ¬ RK (.map es c) := fun h => h
set_option maxRecDepth 100000 in
set_option maxHeartbeats 8000000 in
theorem limits_good (rate burst : Int) (C : List Cl) (cap : Nat) (p : Option Addr) (w : World) (hg : 0 ≤ rate ∧ rate ≤ 1000 ∧ 1 ≤ burst ∧ burst ≤ 1000) (hC : C.length ≤ 9223372036854775807) (hat : ClAt w p C) (hwf : ∀ c ∈ C, (Lit.int .i64 c.2).wf = true) :
    Calls Try.prog 4 #[.int .i64 rate, .int .i64 burst, .slice p C.length cap] w fun e w' => e = .returned (.bool true) ∧ Below w.heap.size w w' := by
  have HN := hidep (new_yes rate burst w hg.1 hg.2.1 hg.2.2.1 hg.2.2.2)
  have HG := hidep hg
  have HAT := hidep hat
  have HWF := hidep hwf
  have e1 : decide (0 ≤ rate) = true := by simp; omega
  have e2 : decide (rate ≤ 1000) = true := by simp; omega
  have e3 : decide (1 ≤ burst) = true := by simp; omega
  have e4 : decide (burst ≤ 1000) = true := by simp; omega
  clear hg hat hwf
  go_enter Try.func4, Try.ntmps4
  go_wp2_with (first
    | (go_at_call 11; (with_reducible refine HN.out.mono ?_); rintro e w1 ⟨⟨L, M, rfl, hL1⟩, hG1⟩; have L1 := hidep hL1; have G1 := hidep hG1; have HA := hidep (alive_any w1); clear hL1 hG1)
    | (go_at_call 6; (with_reducible refine HA.out.mono ?_); rintro e w2 ⟨rfl, hB2⟩; have B2 := hidep hB2; clear hB2; obtain ⟨w3, hw3⟩ : ∃ w3, w2.alloc (.cells #[.int .i64 rate, .int .i64 burst, .slice none 0 0] 38) = w3 := ⟨_, rfl⟩; have HX3 : Hid (Bx w3 w2.heap.size #[.int .i64 rate, .int .i64 burst, .slice none 0 0] 38) := hw3 ▸ World.alloc_heap_new w2 _; have L3 : Hid (Lim w3 L M w.heap.size (.slice none 0 0) 0 rate burst []) := hw3 ▸ (L1.out.grown (grown_below B2.out none)).grown (World.grownBy_alloc w2 _ _); have B3 : Hid (Below w.heap.size w w3) := hw3 ▸ (((Below.refl _ w).grown G1.out (Nat.le_refl _) (fun k e => by cases e)).trans (B2.out.mono G1.out.size)).alloc (Nat.le_trans G1.out.size B2.out.size) _; have HSZ : Hid (w.heap.size ≤ w2.heap.size) := Nat.le_trans G1.out.size B2.out.size))
  go_loopw [63] (fun i wr => ∃ (k n : Nat) (S : List En) (qv qv2 : Value), i = .int .i64 (k : Int) ∧ k ≤ C.length ∧ n ≤ k ∧ Lim wr L M w.heap.size qv n rate burst S ∧ Ref wr w2.heap.size w.heap.size qv2 rate burst (S.map trE) ∧ Below w.heap.size w wr) (fun i _ => C.length - (intOf i).toNat)
  case atStart => exact ⟨0, 0, [], _, _, rfl, Nat.zero_le _, Nat.le_refl _, L3.out, ⟨HX3.out, Orow.empty _ _ _ _, (fun y hy => by cases hy), (by simp), HSZ.out, Nat.le_trans HSZ.out (Nat.le_of_lt HX3.out.lt)⟩, B3.out⟩
  case round =>
    obtain ⟨k, n, S, qv, qv2, rfl, hk, hnk, hLim, hRef, hBr⟩ := hrel
    have HBr := hidep hBr
    by_cases hlt : k < C.length
    · obtain ⟨g, off, rfl, hg, ec⟩ := row_below' HAT.out hBr k hlt
      have c0 := ec 0 (by omega)
      have c1 := ec 1 (by omega)
      simp only [clV, Nat.add_zero, List.getElem?_cons_zero, List.getElem?_cons_succ] at c0 c1
      have HW := hidep (HWF.out C[k] (List.getElem_mem hlt))
      generalize C[k] = cl at *
      obtain ⟨s, nw⟩ := cl
      dsimp only at c0 c1 HW
      obtain ⟨wb, hwb⟩ : ∃ wb, wr.alloc (.cells #[.string s, .int .i64 nw] 40) = wb := ⟨_, rfl⟩
      have GB : wr.grownBy wb none := hwb ▸ World.grownBy_alloc wr _ _
      have hXb : Bx wb wr.heap.size #[.string s, .int .i64 nw] 40 := hwb ▸ World.alloc_heap_new wr _
      have hLb := hLim.grown GB
      have hRb := hRef.grown GB
      have b0 : wb.cell? ⟨wr.heap.size, 0, none⟩ = some (.string s) := hXb.cell rfl
      have b1 : wb.cell? ⟨wr.heap.size, 1, none⟩ = some (.int .i64 nw) := hXb.cell rfl
      have HAL : Hid (∀ W, wb.grownBy W none → Calls Try.prog 12 #[.pointer (some ⟨L, 0, none⟩), .string s, .int .i64 nw] W (alwE L M w.heap.size n rate burst (aB rate burst (S.map trE) s nw) (aT rate burst (S.map trE) s nw) wb)) := fun W hW => (allow_any L M w.heap.size n qv rate burst nw S s W (hLb.grown hW) (by unfold maxLen; omega) HG.out.1 HG.out.2.1 HG.out.2.2.1 HG.out.2.2.2 HW.out).mono fun e w' ⟨S', q', n', h1, h2, h3, h4, h5⟩ => ⟨S', q', n', h1, h2, h3, h4, (Ft.idle hW).trans h5⟩
      have HRA : Hid (∀ W5 W, Ft LK w.heap.size wb W5 → W5.grownBy W none → Calls Try.prog 13 #[.pointer (some ⟨w2.heap.size, 0, none⟩), .string s, .int .i64 nw] W fun e w' => e = .returned (.bool (aB rate burst (S.map trE) s nw)) ∧ ∃ qv', Ref w' w2.heap.size w.heap.size qv' rate burst (aT rate burst (S.map trE) s nw) ∧ Ft RK w.heap.size W5 w') := fun W5 W hF hW => (rallow_any w2.heap.size w.heap.size qv2 rate burst nw (S.map trE) s W ((hRb.ft hF lk_rlim lk_rone).grown hW) (by rw [trE_who]; exact hLb.who) HG.out.1 HG.out.2.1 HG.out.2.2.1 HG.out.2.2.2 HW.out).mono fun e w' ⟨h1, q', h2, h3⟩ => ⟨h1, q', h2, (Ft.idle hW).trans h3⟩
      have HXB := hidep hXb
      have HBB : Hid (Below w.heap.size w wb) := HBr.out.grown GB HBr.out.size (fun k e => by cases e)
      generalize aB rate burst (S.map trE) s nw = bb at *
      generalize aT rate burst (S.map trE) s nw = T2 at *
      have hbb : (bb != bb) = false := by simp
      clear hLim hRef hBr hLb hRb hXb GB ec
      go_wp2_with fail
      go_region_held3 (fun V => V.cell? ⟨wr.heap.size, 0, none⟩ = some (.string s) ∧ V.cell? ⟨wr.heap.size, 1, none⟩ = some (.int .i64 nw)) (first | go_keep | exact S5.out | exact S6.out) (first
        | (go_at_call 12; refine (HAL.out _ (by first | exact grown_refl _ _ | exact grown_drewN wb 1 _)).mono ?_; rintro e w5 ⟨S5', q5, n5, rfl, hl5, ht5, hn5, hf5⟩; have L5 := hidep hl5; have T5 := hidep ht5; have N5 := hidep hn5; have F5 := hidep hf5; have S5 : Hid (w5.cell? ⟨wr.heap.size, 0, none⟩ = some (.string s) ∧ w5.cell? ⟨wr.heap.size, 1, none⟩ = some (.int .i64 nw)) := ⟨(HXB.out.ft hf5 (lk_call _)).cell rfl, (HXB.out.ft hf5 (lk_call _)).cell rfl⟩; clear hl5 ht5 hn5 hf5)
        | (go_at_call 13; refine (HRA.out w5 _ F5.out (by first | exact grown_refl _ _ | exact grown_drewN w5 1 _)).mono ?_; rintro e w6 ⟨rfl, q6, hr6, hf6⟩; have R6 := hidep hr6; have F6 := hidep hf6; have S6 : Hid (w6.cell? ⟨wr.heap.size, 0, none⟩ = some (.string s) ∧ w6.cell? ⟨wr.heap.size, 1, none⟩ = some (.int .i64 nw)) := ⟨((HXB.out.ft F5.out (lk_call _)).ft hf6 (rk_call _)).cell rfl, ((HXB.out.ft F5.out (lk_call _)).ft hf6 (rk_call _)).cell rfl⟩; clear hr6 hf6))
      all_goals
        go_wp2_with fail
        have hL6 := L5.out.ft F6.out rk_map rk_llim rk_lpar rk_lacc
        have hR6 := R6.out
        rw [← T5.out] at hR6
        have hB6 := (HBB.out.trans (F5.out.below HBB.out.size)).trans (F6.out.below (Nat.le_trans HBB.out.size F5.out.size))
        have hN5 := N5.out
        first
          | exact ⟨⟨k + 1, n5, S5', q5, q6, by go_num, by omega, by omega, hL6, hR6, hB6⟩, by simp [intOf]; omega⟩
          | exact ⟨⟨k + 1, n5, S5', q5, q6, by go_num, by omega, by omega, hL6.grown (grown_drewN _ 1 none), hR6.grown (grown_drewN _ 1 none), hB6.drew⟩, by simp [intOf]; omega⟩
    · obtain rfl : k = C.length := by omega
      go_wp2_with fail
      go_ret
      exact ⟨rfl, HBr.out⟩
theorem policyLimits_any (rate burst : Int) (C : List Cl) (cap : Nat) (p : Option Addr) (w : World) (hC : C.length ≤ 9223372036854775807) (hat : ClAt w p C) (hwf : ∀ c ∈ C, (Lit.int .i64 c.2).wf = true) :
    Calls Try.prog 4 #[.int .i64 rate, .int .i64 burst, .slice p C.length cap] w fun e w' => e = .returned (.bool true) ∧ Below w.heap.size w w' := by
  by_cases h1 : rate < 0
  · exact limits_a rate burst _ cap p w h1
  · by_cases h2 : 1000 < rate
    · exact limits_b rate burst _ cap p w h2
    · by_cases h3 : burst < 1
      · exact limits_c rate burst _ cap p w (by omega) (by omega) h3
      · by_cases h4 : 1000 < burst
        · exact limits_d rate burst _ cap p w (by omega) (by omega) h4
        · exact limits_good rate burst C cap p w (by omega) hC hat hwf
end Go.Proofs.Ytdaimcccdleodaa
