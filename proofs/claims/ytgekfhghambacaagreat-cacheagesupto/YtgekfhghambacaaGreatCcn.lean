import Derived.Test.YtgekfhghambacaaGreatCclG
/-
  Chapter 12: (*cache.Cache).Prove. (The verifier's own text; mkccn.py writes it.)
-/
namespace Go.Proofs.YtgekfhghambacaaGreat
set_option linter.unusedVariables false
set_option linter.unusedSimpArgs false
open Go.RowKit Go.Shelf Go.Maps Go.Proofs.YtgekfhghambacaaGreat.Nm

/-- what Prove answers -/
def proveC (apex : ByteArray) (now : Int) : Int := if ¬ (0 ≤ now ∧ now ≤ 4294967295) then 23 else if isN apex = false then 1 else 0
/-- is it a proof that may be used? -/
def useB (apex : ByteArray) (r : Rn) : Bool := decide (r.t = 47) && mayB apex r
/-- one that comes -/
def prvOne (most now : Int) (apex : ByteArray) (r : Rn) (S : List Ce) (came : Int) (S' : List Ce) (came' : Int) : Prop :=
  (useB apex r = false ∧ S' = S ∧ came' = came) ∨ (useB apex r = true ∧ came' = repC (min r.l 10800) came ∧ ∃ p c b, pushE most now (repS (proofK apex r.o) now (min r.l 10800) 0 came [r] p c b S) S')
/-- the first k -/
def prv (most now : Int) (apex : ByteArray) (R : List Rn) (S : List Ce) (came : Int) : Nat → List Ce → Int → Prop
  | 0, S', c' => S' = S ∧ c' = came
  | k + 1, S', c' => ∃ S1 c1, prv most now apex R S came k S1 c1 ∧ ∃ r, R[k]? = some r ∧ prvOne most now apex r S1 c1 S' c'
/-- what Prove does -/
def proveE (w : World) (L M P base : Nat) (most came : Int) (S : List Ce) (apex : ByteArray) (R : List Rn) (now : Int) (r : Ending) (w' : World) : Prop :=
  r = .returned (.int .i64 (proveC apex now)) ∧ ∃ S' Q' came', Cac w' L M P base most came' S' Q' ∧ Emap w' M S' ∧ Fk (FC M P) base w w' ∧
    ((proveC apex now ≠ 0 ∧ S' = S ∧ came' = came) ∨ (proveC apex now = 0 ∧ prv most now apex R S came R.length S' came'))
theorem repC_le (a c : Int) : c ≤ repC a c ∧ repC a c ≤ c + 1 := by unfold repC; split <;> omega
theorem rsT_one {w : World} {b : Nat} {r : Rn} (h : Bx w b #[.string r.o, .int .i64 r.t, .int .i64 r.c, .int .i64 r.l, .string r.d] 36) : RsT w (some ⟨b, 0, none⟩) [r] :=
  ⟨rb_rs (rest := []) (by unfold Rb; simpa [rce5, ren5] using h), fun a ha => by
    injection ha with ha
    subst ha
    exact ⟨_, _, _, h, by decide, by decide, by decide, rfl⟩⟩
set_option maxRecDepth 100000 in
set_option maxHeartbeats 8000000 in
/-- (*cache.Cache).Prove -/
theorem prove_any {w : World} {L M P base : Nat} {most came : Int} {S : List Ce} {Q : List Qe} (h : Cac w L M P base most came S Q) (hM : Emap w M S) (hm : most ≠ 0) (hm0 : 0 ≤ most) (hm1 : most ≤ 5000) (hS : (S.length : Int) ≤ most) (hc0 : 0 ≤ came) (hc1 : came ≤ 1099510000000) (apex : ByteArray) (R : List Rn) (p : Option Addr) (c : Nat) (now : Int) (ha : apex.size ≤ maxLen) (hR : R.length ≤ 1048576) (hat : ∀ V, Fk (FC M P) base w V → RsAt V p R) (hz : ∀ r ∈ R, r.o.size ≤ 1048576 ∧ r.d.size ≤ 9223372036854775807) :
    Calls Tryz.prog 11 #[.pointer (some ⟨L, 0, none⟩), .string apex, .slice p R.length c, .int .i64 now] w (proveE w L M P base most came S apex R now) := by
  have HC := hide' h
  have HM := hide' hM
  have HIN := hide' (isNone_any L most w (h.bx.cell (j := 0) rfl) hm)
  have HIT := hide' (fun V => isTime_any now V)
  have HCk := hide' (fun V => check_any apex V ha)
  have HAt := hide' hat
  have HZ := hide' hz
  have HMo : Hid (0 ≤ most ∧ most ≤ 5000) := ⟨hm0, hm1⟩
  have HSl := hide' hS
  have HCm : Hid (0 ≤ came ∧ came ≤ 1099510000000) := ⟨hc0, hc1⟩
  have HAm := hide' ha
  obtain ⟨N, hN⟩ : ∃ N, R.length = N := ⟨_, rfl⟩
  have HN := hide' hN
  rw [hN] at hR ⊢
  clear h hM hm hm0 hm1 hS hc0 hc1 ha hat hz hN
  by_cases htm : 0 ≤ now ∧ now ≤ 4294967295
  case neg =>
    have HQ : Hid (proveC apex now = 23) := by unfold Hid proveC; rw [if_pos htm]
    rw [decide_eq_false htm] at HIT
    clear htm
    go_enter Tryz.func11, Tryz.ntmps11
    go_wp2_with (first
      | (go_at_call 15; refine HIN.out.mono ?_; rintro e1 w1 ⟨rfl, hw1⟩; have hw1' := hw1.symm; subst hw1')
      | (go_at_call 17; refine (HIT.out _).mono ?_; rintro e3 w3 ⟨rfl, hw3⟩; have hw3' := hw3.symm; subst hw3')
      | (go_at_call 16; refine (HCk.out _).mono ?_; rintro e2 w2 ⟨rfl, hB2⟩; have HG2 : Hid (w.grownBy w2 none) := grown_below hB2 none; clear hB2))
    go_ret
    exact ⟨by rw [HQ.out]; rfl, S, Q, came, HC.out, HM.out, Fk.refl _ _ _, .inl ⟨by rw [HQ.out]; decide, rfl, rfl⟩⟩
  have HTm := hide' htm
  rw [decide_eq_true htm] at HIT
  have hq1 : proveC apex now = if isN apex = false then 1 else 0 := by unfold proveC; rw [if_neg (fun h => h htm)]
  clear htm
  cases hN : isN apex with
  | false =>
    have HQ : Hid (proveC apex now = 1) := by unfold Hid; rw [hq1, if_pos hN]
    have hck : chk apex = 1 := by unfold chk; rw [hN]; rfl
    rw [hck] at HCk
    clear hN hck hq1
    go_enter Tryz.func11, Tryz.ntmps11
    go_wp2_with (first
      | (go_at_call 15; refine HIN.out.mono ?_; rintro e1 w1 ⟨rfl, hw1⟩; have hw1' := hw1.symm; subst hw1')
      | (go_at_call 17; refine (HIT.out _).mono ?_; rintro e3 w3 ⟨rfl, hw3⟩; have hw3' := hw3.symm; subst hw3')
      | (go_at_call 16; refine (HCk.out _).mono ?_; rintro e2 w2 ⟨rfl, hB2⟩; have HG2 : Hid (w.grownBy w2 none) := grown_below hB2 none; clear hB2))
    go_ret
    exact ⟨by rw [HQ.out]; rfl, S, Q, came, HC.out.idle HG2.out, Lmap.kept HM.out HG2.out (by simp), Fk.idle HG2.out, .inl ⟨by rw [HQ.out]; decide, rfl, rfl⟩⟩
  | true =>
    have HQ : Hid (proveC apex now = 0) := by unfold Hid; rw [hq1, if_neg (by rw [hN]; simp)]
    have hck : chk apex = 0 := by unfold chk; rw [if_pos hN]
    rw [hck] at HCk
    have HNm := hide' hN
    clear hq1 hck hN
    have HnR : Hid (∀ {cs : Array Value} (k : Nat), ¬ FC M P k (.cells cs 36 (0, 0))) := fun k h => h.elim (fun e => absurd e (by decide)) (fun e => absurd e (by decide))
    go_enter Tryz.func11, Tryz.ntmps11
    go_wp2_with (first
      | (go_at_call 15; refine HIN.out.mono ?_; rintro e1 w1 ⟨rfl, hw1⟩; have hw1' := hw1.symm; subst hw1')
      | (go_at_call 17; refine (HIT.out _).mono ?_; rintro e3 w3 ⟨rfl, hw3⟩; have hw3' := hw3.symm; subst hw3')
      | (go_at_call 16; refine (HCk.out _).mono ?_; rintro e2 w2 ⟨rfl, hB2⟩; have HG2 : Hid (w.grownBy w2 none) := grown_below hB2 none; clear hB2))
    go_loopw [25] (fun v wr => ∃ (k : Nat) (Sk : List Ce) (Qk : List Qe) (ck : Int), v = .int .i64 (k : Int) ∧ k ≤ N ∧ Hid (Cac wr L M P base most ck Sk Qk) ∧ Hid (Emap wr M Sk) ∧ Hid ((Sk.length : Int) ≤ most) ∧ Hid (came ≤ ck ∧ ck ≤ came + k) ∧ Hid (Fk (FC M P) base w wr) ∧ Hid (prv most now apex R S came k Sk ck)) (fun v _ => N - (intOf v).toNat)
    case atStart => exact ⟨0, S, Q, came, rfl, Nat.zero_le _, HC.out.idle HG2.out, Lmap.kept HM.out HG2.out (by simp), HSl.out, (by unfold Hid; omega), Fk.idle HG2.out, ⟨rfl, rfl⟩⟩
    case round =>
      obtain ⟨k, Sk, Qk, ck, rfl, hk, HCr, HMr, HSr, HCk2, HFr, HPv⟩ := hrel
      by_cases hlt : k < N
      · have hkR : k < R.length := by rw [HN.out]; exact hlt
        obtain ⟨g, off, rfl, hg, e0, e1, e2, e3, e4⟩ := HAt.out wr HFr.out k hkR
        obtain ⟨x, hx⟩ : ∃ x, R[k] = x := ⟨_, rfl⟩
        have HRk : Hid (R[k]? = some x) := by unfold Hid; rw [List.getElem?_eq_getElem hkR, hx]
        have HZx := hide' (HZ.out x (hx ▸ List.getElem_mem hkR))
        rw [hx] at e0 e1 e2 e3 e4
        clear hx hkR
        obtain ⟨o, rt, rc, rl, d⟩ := x
        simp only at e0 e1 e2 e3 e4
        obtain ⟨w4, h4⟩ : ∃ v, wr.alloc (.cells #[.string o, .int .i64 rt, .int .i64 rc, .int .i64 rl, .string d] 36) = v := ⟨_, rfl⟩
        have HG4 : Hid (wr.grownBy w4 none) := h4 ▸ World.grownBy_alloc wr _ none
        have HX4 : Hid (Bx w4 wr.heap.size #[.string o, .int .i64 rt, .int .i64 rc, .int .i64 rl, .string d] 36) := h4 ▸ World.alloc_heap_new wr _
        obtain ⟨x0, x1, x2, x3, x4⟩ := bx5C HX4.out
        have HC4 := hide' (HCr.out.idle HG4.out)
        have HM4 : Hid (Emap w4 M Sk) := Lmap.kept HMr.out HG4.out (by simp)
        have HF4 : Hid (Fk (FC M P) base w w4) := HFr.out.trans (Fk.idle HG4.out)
        by_cases hty : rt = 47
        case neg =>
          have hb : (rt != 47) = true := by simp [hty]
          have HUs : Hid (useB apex ⟨o, rt, rc, rl, d⟩ = false) := by unfold Hid useB; simp only; rw [decide_eq_false hty]; rfl
          clear hty
          go_wp2_with fail
          go_roundw
          case rel => exact ⟨k + 1, Sk, Qk, ck, by go_num, hlt, HC4.out, HM4.out, HSr.out, (by have h2 := HCk2.out; unfold Hid; omega), HF4.out, ⟨Sk, ck, HPv.out, _, HRk.out, .inl ⟨HUs.out, rfl, rfl⟩⟩⟩
          case measure => simp [intOf]; omega
        subst hty
        have HMy := hide' (mayUse_any apex o d rc rl w4 HNm.out HZx.out.1 HZx.out.2)
        cases hmy : mayB apex ⟨o, 47, rc, rl, d⟩ with
        | false =>
          have HUs : Hid (useB apex ⟨o, 47, rc, rl, d⟩ = false) := by unfold Hid useB; rw [hmy, Bool.and_false]
          rw [hmy] at HMy
          clear hmy
          go_wp2_with (go_at_call 36; refine HMy.out.mono ?_; rintro e5 w5 ⟨rfl, hB5⟩; have HG5 := hide' (grown_below hB5 none); clear hB5)
          go_roundw
          case rel => exact ⟨k + 1, Sk, Qk, ck, by go_num, hlt, HC4.out.idle HG5.out, Lmap.kept HM4.out HG5.out (by simp), HSr.out, (by have h2 := HCk2.out; unfold Hid; omega), HF4.out.trans (Fk.idle HG5.out), ⟨Sk, ck, HPv.out, _, HRk.out, .inl ⟨HUs.out, rfl, rfl⟩⟩⟩
          case measure => simp [intOf]; omega
        | true =>
          have HUs : Hid (useB apex ⟨o, 47, rc, rl, d⟩ = true) := by unfold Hid useB; rw [hmy]; rfl
          have hzr := ok_facts (mayB_facts hmy)
          rw [hmy] at HMy
          have hrl := hzr.2.2.1
          have hos := hzr.2.2.2.2.2.2.2.2.1
          simp only at hrl hos
          obtain ⟨ag, hag⟩ : ∃ ag, min rl 10800 = ag := ⟨_, rfl⟩
          have HAe := hide' hag
          have HAg : Hid (0 ≤ ag ∧ ag ≤ 10800) := by unfold Hid; omega
          have hfo := foldB_size hzr.1
          have hfa := foldB_size HNm.out
          have HKG : Hid (kyG (proofK apex o)) := ⟨rfl, by unfold proofK maxLen; simp only at hfo ⊢; omega, rfl, by unfold proofK maxLen; simp only; omega⟩
          have HPk := hide' (fun V => proofKey_any apex o V HAm.out (by unfold maxLen; omega))
          have HS7l : Hid (Sk.length < 100000) := by have h1 := HSr.out; have h2 := HMo.out; unfold Hid; omega
          have HC7m : Hid (0 ≤ ck ∧ ck ≤ 1099511627776) := by have h1 := HCk2.out; have h2 := HCm.out; unfold Hid; omega
          clear hmy hzr hrl hos hfo hfa
          unfold kyV at HPk
          obtain ⟨⟨k0, k1, k2, k3⟩, hkk⟩ : ∃ K0, proofK apex o = K0 := ⟨_, rfl⟩
          rw [hkk] at HPk HKG
          have HKe := hide' hkk
          simp only at HPk
          clear hkk
          go_wp2_with (go_at_call 36; refine HMy.out.mono ?_; rintro e5 w7 ⟨rfl, hB5⟩; have HG7 : Hid (w4.grownBy w7 none) := (grown_below hB5 none); clear hB5; obtain ⟨y0, y1, y2, y3, y4⟩ := bx5C (HX4.out.grown HG7.out (by simp)))
          have HX7 := hide' (HX4.out.grown HG7.out (by simp))
          have HC7 := hide' (HC4.out.idle HG7.out)
          have HM7 : Hid (Emap w7 M Sk) := Lmap.kept HM4.out HG7.out (by simp)
          have HF7 : Hid (Fk (FC M P) base w w7) := HF4.out.trans (Fk.idle HG7.out)
          obtain ⟨w8, h8⟩ : ∃ v, w7.drew = v := ⟨_, rfl⟩
          have HG8 : Hid (w7.grownBy w8 none) := h8 ▸ ⟨rfl, rfl, rfl, Nat.le_refl _, fun _ _ _ => rfl⟩
          have HFx : Hid (∀ V : World, w7.grownBy V none → Bx V wr.heap.size #[.string o, .int .i64 47, .int .i64 rc, .int .i64 rl, .string d] 36) := fun V hV => HX7.out.grown hV (by simp)
          refine wp_region_held_drew (S := fun V => Bx V wr.heap.size #[.string o, .int .i64 47, .int .i64 rc, .int .i64 rl, .string d] 36) (by kernel_rfl) ?_ (fun hHeld => ?_)
          · rw [h8]; exact HFx.out _ HG8.out
          rw [h8] at hHeld ⊢
          refine takeD 0 (some 41) (.pointer (some ⟨L, 0, none⟩)) rfl rfl (by kernel_rfl) (by kernel_rfl) (by kernel_rfl) (fun _ _ _ h => h) (Or.inl ⟨by rfl, ?_⟩) (by assumption) ?_
          · intro w hSw; (try dsimp only at hSw); obtain ⟨r0, r1, r2, r3, r4⟩ := bx5C hSw; go_simp <;> (intros; omega)
          simp only [Act.put, List.setIfInBounds_toArray, List.set_cons_zero, List.set_cons_succ]
          refine takeD 1 (some 42) (.string apex) rfl rfl (by kernel_rfl) (by kernel_rfl) (by kernel_rfl) (fun _ _ _ h => h) (Or.inl ⟨by rfl, ?_⟩) (by assumption) ?_
          · intro w hSw; (try dsimp only at hSw); obtain ⟨r0, r1, r2, r3, r4⟩ := bx5C hSw; go_simp <;> (intros; omega)
          simp only [Act.put, List.setIfInBounds_toArray, List.set_cons_zero, List.set_cons_succ]
          refine takeD 2 (some 43) (.pointer (some ⟨wr.heap.size, 0, none⟩)) rfl rfl (by kernel_rfl) (by kernel_rfl) (by kernel_rfl) (fun _ _ _ h => h) (Or.inl ⟨by rfl, ?_⟩) (by assumption) ?_
          · intro w hSw; (try dsimp only at hSw); obtain ⟨r0, r1, r2, r3, r4⟩ := bx5C hSw; go_simp <;> (intros; omega)
          simp only [Act.put, List.setIfInBounds_toArray, List.set_cons_zero, List.set_cons_succ]
          refine takeD 3 (some 44) (.string o) rfl rfl (by kernel_rfl) (by kernel_rfl) (by kernel_rfl) (fun _ _ _ h => h) (Or.inl ⟨by rfl, ?_⟩) (by assumption) ?_
          · intro w hSw; (try dsimp only at hSw); obtain ⟨r0, r1, r2, r3, r4⟩ := bx5C hSw; go_simp <;> (intros; omega)
          simp only [Act.put, List.setIfInBounds_toArray, List.set_cons_zero, List.set_cons_succ]
          refine takeD 5 (some 46) (.int .i64 ag) rfl rfl (by kernel_rfl) (by kernel_rfl) (by kernel_rfl) (fun _ _ _ h => h) (Or.inl ⟨by rfl, ?_⟩) (by assumption) ?_
          · intro w hSw; (try dsimp only at hSw); obtain ⟨r0, r1, r2, r3, r4⟩ := bx5C hSw; go_simp <;> (intros; omega)
          simp only [Act.put, List.setIfInBounds_toArray, List.set_cons_zero, List.set_cons_succ]
          refine takeD 6 (some 47) (.agg #[.string o, .int .i64 47, .int .i64 rc, .int .i64 rl, .string d]) rfl rfl (by kernel_rfl) (by kernel_rfl) (by kernel_rfl) (fun _ _ _ h => h) (Or.inl ⟨by rfl, ?_⟩) (by assumption) ?_
          · intro w hSw; (try dsimp only at hSw); obtain ⟨r0, r1, r2, r3, r4⟩ := bx5C hSw; go_simp <;> (intros; omega)
          simp only [Act.put, List.setIfInBounds_toArray, List.set_cons_zero, List.set_cons_succ]
          refine takeD 9 (some 50) (.int .i64 now) rfl rfl (by kernel_rfl) (by kernel_rfl) (by kernel_rfl) (fun _ _ _ h => h) (Or.inl ⟨by rfl, ?_⟩) (by assumption) ?_
          · intro w hSw; (try dsimp only at hSw); obtain ⟨r0, r1, r2, r3, r4⟩ := bx5C hSw; go_simp <;> (intros; omega)
          simp only [Act.put, List.setIfInBounds_toArray, List.set_cons_zero, List.set_cons_succ]
          refine wpAnyH_ready (rs := [4, 7]) (by kernel_rfl) (by simp) ?_
          refine AllReadyH.cons rfl (fun K hK => ?_) (AllReadyH.cons rfl (fun K hK => ?_) AllReadyH.nil)
          · go_simp
            go_at_call 37; refine (HPk.out _).mono ?_; rintro e4 w9 ⟨rfl, hB9⟩; have HG9 : Hid (w7.grownBy w9 none) := (grown_trans HG8.out (grown_below hB9 none)); clear hB9
            go_wp2_with fail
            refine hK.out _ _ (HFx.out _ HG9.out) (fun hHeld => ?_)
            clear hK K
            try simp only [Act.put, List.setIfInBounds_toArray, List.set_cons_zero, List.set_cons_succ]
            refine wpAnyH_ready (rs := [7]) (by kernel_rfl) (by simp) ?_
            refine AllReadyH.cons rfl (fun K hK => ?_) AllReadyH.nil
            go_simp
            go_wp2_with fail
            obtain ⟨w10, hal⟩ : ∃ v, (w9.alloc (.cells #[.string o, .int .i64 47, .int .i64 rc, .int .i64 rl, .string d] 36)) = v := ⟨_, rfl⟩
            have HGal : Hid (w7.grownBy w10 none) := hal ▸ grown_trans HG9.out (World.grownBy_alloc w9 _ none)
            have HBal : Hid (Bx w10 w9.heap.size #[.string o, .int .i64 47, .int .i64 rc, .int .i64 rl, .string d] 36) := hal ▸ World.alloc_heap_new w9 _
            have HSal : Hid (w9.heap.size < w10.heap.size) := HBal.out.lt
            try rw [hal]
            clear hal
            refine hK.out _ _ (HFx.out _ HGal.out) (fun hHeld => ?_)
            clear hK K
            try simp only [Act.put, List.setIfInBounds_toArray, List.set_cons_zero, List.set_cons_succ]
            refine takeD 8 (some 49) (.agg #[.int .i64 k0, .string k1, .int .i64 k2, .string k3, .int .i64 0, .int .i64 0, .int .i64 ag, .int .i64 0, .slice (some ⟨w9.heap.size, 0, none⟩) 1 1]) rfl rfl (by kernel_rfl) (by kernel_rfl) (by kernel_rfl) (fun _ _ _ h => h) (Or.inl ⟨by rfl, ?_⟩) (by assumption) ?_
            · intro w hSw; (try dsimp only at hSw); obtain ⟨r0, r1, r2, r3, r4⟩ := bx5C hSw; go_simp <;> (intros; omega)
            simp only [Act.put, List.setIfInBounds_toArray, List.set_cons_zero, List.set_cons_succ]
            refine wpAnyH_ready (rs := [10]) (by kernel_rfl) (by simp) ?_
            refine AllReadyH.cons rfl (fun K hK => ?_) AllReadyH.nil
            have HRp := hide' (replace_any (R := [⟨o, 47, rc, rl, d⟩]) (p := some ⟨w9.heap.size, 0, none⟩) (c := 1) (rank := 0) (now := now) (HC7.out.idle HGal.out) (Lmap.kept HM7.out HGal.out (by simp)) HKG.out (rsT_one HBal.out) (Nat.le_refl _) (by unfold maxLen; omega) (fun h => by cases h) HS7l.out HAg.out.1 (Int.le_trans HAg.out.2 (by decide)) HTm.out.1 HTm.out.2 HC7m.out.1 HC7m.out.2)
            simp only [List.length_cons, List.length_nil, Nat.zero_add] at HRp
            go_simp
            go_at_call 23; refine HRp.out.mono ?_; rintro e5 wA ⟨rfl, hwA⟩; obtain ⟨QA, hCA, hMA, hFA⟩ := hwA; have HPu := hide' (pushOut_any (now := now) hCA hMA HMo.out.1); have HFA := hide' hFA; have HBA : Hid (Bx wA wr.heap.size #[.string o, .int .i64 47, .int .i64 rc, .int .i64 rl, .string d] 36) := (HFx.out _ HGal.out).fk hFA (HnR.out _); clear hCA hMA hFA
            go_wp2_with fail
            refine hK.out _ _ (HBA.out) (fun hHeld => ?_)
            clear hK K
            try simp only [Act.put, List.setIfInBounds_toArray, List.set_cons_zero, List.set_cons_succ]
            refine wpAnyH_done (by kernel_rfl) ?_ _
            clear hHeld
            go_wp2_with (go_at_call 30; refine HPu.out.mono ?_; rintro e6 wB ⟨rfl, hwB⟩; obtain ⟨SB, QB, hpu, hCB, hMB, hFB⟩ := hwB; have HPB := hide' hpu; have HCB := hide' hCB; have HMB := hide' hMB; have HFB := hide' hFB; clear hpu hCB hMB hFB)
            go_roundw
            case rel => exact ⟨k + 1, SB, QB, _, by go_num, hlt, HCB.out, HMB.out, pushE_len HPB.out, (by have h1 := repC_le ag ck; have h2 := HCk2.out; unfold Hid; omega), ((HF7.out.trans (Fk.idle HGal.out)).trans HFA.out).trans HFB.out, ⟨Sk, ck, HPv.out, ⟨o, 47, rc, rl, d⟩, HRk.out, .inr ⟨HUs.out, (by show _ = repC (min rl 10800) ck; rw [HAe.out]), _, _, _, (by show pushE most now (repS (proofK apex o) now (min rl 10800) 0 ck [⟨o, 47, rc, rl, d⟩] _ _ _ Sk) SB; rw [HAe.out, HKe.out]; exact HPB.out)⟩⟩⟩
            case measure => simp [intOf]; omega
          · go_simp
            go_wp2_with fail
            obtain ⟨w9a, hal⟩ : ∃ v, (w8.alloc (.cells #[.string o, .int .i64 47, .int .i64 rc, .int .i64 rl, .string d] 36)) = v := ⟨_, rfl⟩
            have HGal : Hid (w7.grownBy w9a none) := hal ▸ grown_trans HG8.out (World.grownBy_alloc w8 _ none)
            have HBal : Hid (Bx w9a w8.heap.size #[.string o, .int .i64 47, .int .i64 rc, .int .i64 rl, .string d] 36) := hal ▸ World.alloc_heap_new w8 _
            have HSal : Hid (w8.heap.size < w9a.heap.size) := HBal.out.lt
            try rw [hal]
            clear hal
            refine hK.out _ _ (HFx.out _ HGal.out) (fun hHeld => ?_)
            clear hK K
            try simp only [Act.put, List.setIfInBounds_toArray, List.set_cons_zero, List.set_cons_succ]
            refine wpAnyH_ready (rs := [4]) (by kernel_rfl) (by simp) ?_
            refine AllReadyH.cons rfl (fun K hK => ?_) AllReadyH.nil
            go_simp
            go_at_call 37; refine (HPk.out _).mono ?_; rintro e4 w9 ⟨rfl, hB9⟩; have HG9b : Hid (w9a.grownBy w9 none) := grown_below hB9 none; have HG9 : Hid (w7.grownBy w9 none) := (grown_trans HGal.out HG9b.out); clear hB9
            go_wp2_with fail
            refine hK.out _ _ (HFx.out _ HG9.out) (fun hHeld => ?_)
            clear hK K
            try simp only [Act.put, List.setIfInBounds_toArray, List.set_cons_zero, List.set_cons_succ]
            have HBal9 := hide' (HBal.out.grown ⟨HG9b.out.os, HG9b.out.tape, HG9b.out.output, HG9b.out.size, HG9b.out.block⟩ (by simp))
            refine takeD 8 (some 49) (.agg #[.int .i64 k0, .string k1, .int .i64 k2, .string k3, .int .i64 0, .int .i64 0, .int .i64 ag, .int .i64 0, .slice (some ⟨w8.heap.size, 0, none⟩) 1 1]) rfl rfl (by kernel_rfl) (by kernel_rfl) (by kernel_rfl) (fun _ _ _ h => h) (Or.inl ⟨by rfl, ?_⟩) (by assumption) ?_
            · intro w hSw; (try dsimp only at hSw); obtain ⟨r0, r1, r2, r3, r4⟩ := bx5C hSw; go_simp <;> (intros; omega)
            simp only [Act.put, List.setIfInBounds_toArray, List.set_cons_zero, List.set_cons_succ]
            refine wpAnyH_ready (rs := [10]) (by kernel_rfl) (by simp) ?_
            refine AllReadyH.cons rfl (fun K hK => ?_) AllReadyH.nil
            have HRp := hide' (replace_any (R := [⟨o, 47, rc, rl, d⟩]) (p := some ⟨w8.heap.size, 0, none⟩) (c := 1) (rank := 0) (now := now) (HC7.out.idle HG9.out) (Lmap.kept HM7.out HG9.out (by simp)) HKG.out (rsT_one HBal9.out) (Nat.le_refl _) (by unfold maxLen; omega) (fun h => by cases h) HS7l.out HAg.out.1 (Int.le_trans HAg.out.2 (by decide)) HTm.out.1 HTm.out.2 HC7m.out.1 HC7m.out.2)
            simp only [List.length_cons, List.length_nil, Nat.zero_add] at HRp
            go_simp
            go_at_call 23; refine HRp.out.mono ?_; rintro e5 wA ⟨rfl, hwA⟩; obtain ⟨QA, hCA, hMA, hFA⟩ := hwA; have HPu := hide' (pushOut_any (now := now) hCA hMA HMo.out.1); have HFA := hide' hFA; have HBA : Hid (Bx wA wr.heap.size #[.string o, .int .i64 47, .int .i64 rc, .int .i64 rl, .string d] 36) := (HFx.out _ HG9.out).fk hFA (HnR.out _); clear hCA hMA hFA
            go_wp2_with fail
            refine hK.out _ _ (HBA.out) (fun hHeld => ?_)
            clear hK K
            try simp only [Act.put, List.setIfInBounds_toArray, List.set_cons_zero, List.set_cons_succ]
            refine wpAnyH_done (by kernel_rfl) ?_ _
            clear hHeld
            go_wp2_with (go_at_call 30; refine HPu.out.mono ?_; rintro e6 wB ⟨rfl, hwB⟩; obtain ⟨SB, QB, hpu, hCB, hMB, hFB⟩ := hwB; have HPB := hide' hpu; have HCB := hide' hCB; have HMB := hide' hMB; have HFB := hide' hFB; clear hpu hCB hMB hFB)
            go_roundw
            case rel => exact ⟨k + 1, SB, QB, _, by go_num, hlt, HCB.out, HMB.out, pushE_len HPB.out, (by have h1 := repC_le ag ck; have h2 := HCk2.out; unfold Hid; omega), ((HF7.out.trans (Fk.idle HG9.out)).trans HFA.out).trans HFB.out, ⟨Sk, ck, HPv.out, ⟨o, 47, rc, rl, d⟩, HRk.out, .inr ⟨HUs.out, (by show _ = repC (min rl 10800) ck; rw [HAe.out]), _, _, _, (by show pushE most now (repS (proofK apex o) now (min rl 10800) 0 ck [⟨o, 47, rc, rl, d⟩] _ _ _ Sk) SB; rw [HAe.out, HKe.out]; exact HPB.out)⟩⟩⟩
            case measure => simp [intOf]; omega
      · obtain rfl : k = N := by omega
        go_wp2_with fail
        go_ret
        refine ⟨by rw [HQ.out]; rfl, Sk, Qk, ck, HCr.out, HMr.out, HFr.out, .inr ⟨HQ.out, ?_⟩⟩
        rw [HN.out]; exact HPv.out
end Go.Proofs.YtgekfhghambacaaGreat
