import Derived.Test.YtgekfhghambacaaGreatCcpG
/-
  Chapter 12: the walk of CacheAges. (The verifier's own text; mkccs.py writes it.)
-/
namespace Go.Proofs.YtgekfhghambacaaGreat
set_option linter.unusedVariables false
set_option linter.unusedSimpArgs false
open Go.RowKit Go.Shelf Go.Maps Go.Proofs.YtgekfhghambacaaGreat.Nm

/-- a turn -/
structure Tu where
  k : Int
  p : Option Addr
  c : Nat
  L : List Rn
  n : ByteArray
  t : Int
  r : Int
  now : Int
/-- turns in memory -/
def TuAt (w : World) (q : Option Addr) (TS : List Tu) : Prop := ∀ i, (hi : i < TS.length) → ∃ g off, q = some ⟨g, off, none⟩ ∧ g < w.heap.size ∧ w.cell? ⟨g, off + i * 6, none⟩ = some (.int .i64 TS[i].k) ∧ w.cell? ⟨g, off + i * 6 + 1, none⟩ = some (.slice TS[i].p TS[i].L.length TS[i].c) ∧ w.cell? ⟨g, off + i * 6 + 2, none⟩ = some (.string TS[i].n) ∧ w.cell? ⟨g, off + i * 6 + 3, none⟩ = some (.int .i64 TS[i].t) ∧ w.cell? ⟨g, off + i * 6 + 4, none⟩ = some (.int .i64 TS[i].r) ∧ w.cell? ⟨g, off + i * 6 + 5, none⟩ = some (.int .i64 TS[i].now) ∧ RsAt w TS[i].p TS[i].L
theorem TuAt.bel {w w' : World} {q : Option Addr} {TS : List Tu} (h : TuAt w q TS) (hb : Below w.heap.size w w') : TuAt w' q TS := fun i hi => by
  obtain ⟨g, off, hp, hg, e0, e1, e2, e3, e4, e5, e6⟩ := h i hi
  exact ⟨g, off, hp, Nat.lt_of_lt_of_le hg hb.size, (hb.cell (p := ⟨g, _, none⟩) hg).trans e0, (hb.cell (p := ⟨g, _, none⟩) hg).trans e1, (hb.cell (p := ⟨g, _, none⟩) hg).trans e2, (hb.cell (p := ⟨g, _, none⟩) hg).trans e3, (hb.cell (p := ⟨g, _, none⟩) hg).trans e4, (hb.cell (p := ⟨g, _, none⟩) hg).trans e5, rs_bel e6 hb⟩
/-- so many entries may come -/
def costT (TS : List Tu) : Nat := (TS.map (fun t => t.L.length + 1)).sum
theorem costT_take (TS : List Tu) : ∀ i, costT (TS.take i) ≤ costT TS := fun i => by
  unfold costT
  conv => rhs; rw [← List.take_append_drop i TS]
  rw [List.map_append, List.sum_append]
  omega
theorem costT_succ {TS : List Tu} {i : Nat} (h : i < TS.length) : costT (TS.take (i + 1)) = costT (TS.take i) + TS[i].L.length + 1 := by
  unfold costT
  rw [List.take_succ_eq_append_getElem h, List.map_append, List.sum_append]
  simp
  omega
/-- what holds ahead of a turn -/
structure Lin (w wr : World) (L M P : Nat) (most : Int) (T : List Pt) (ql : Option Addr) (n cl : Nat) (S : List Ce) (Q : List Qe) (ck : Int) (i : Nat) (TS : List Tu) : Prop where
  st : Lst w wr L M P most T ql n cl S Q ck
  len : (S.length : Int) ≤ most
  ck0 : 0 ≤ ck
  ck1 : ck ≤ (costT (TS.take i) : Int)
  inv : Linv S T
  tm : ∀ pt ∈ T, 0 ≤ pt.now ∧ pt.now ≤ 4294967295
  nn : n ≤ i
theorem sizeL_any {w : World} {L M P base : Nat} {most came now : Int} {S : List Ce} {Q : List Qe} (h : Cac w L M P base most came S Q) (hM : Emap w M S) (hm : most ≠ 0) (hl : (S.length : Int) ≤ most) :
    Calls Tryz.prog 13 #[.pointer (some ⟨L, 0, none⟩), .int .i64 now] w fun r w' => (∃ z : Nat, r = .returned (.int .i64 (z : Int)) ∧ (z : Int) ≤ most) ∧ Below w.heap.size w w' := by
  refine (size_any (now := now) h hM hm).mono ?_
  rintro r w' ⟨rfl, hb⟩
  refine ⟨⟨(aliveF now S).length, rfl, ?_⟩, hb⟩
  have : (aliveF now S).length ≤ S.length := List.length_filter_le _ _
  omega
theorem putC_nil {S : List Ce} {rank now : Int} : putC S [] rank now ≠ 0 := by
  unfold putC
  split <;> simp
theorem Bx.set3F {w : World} {R : Nat} {T : TypeId} {a b c : Value} (h : Bx w R #[a, b, c] T) (x y z : Value) : w.grownBy (((w.setCell ⟨R, 0, none⟩ x).setCell ⟨R, 1, none⟩ y).setCell ⟨R, 2, none⟩ z) (some R) := grown_trans (grown_trans (grown_set _ _ _ _) (grown_set _ _ _ _)) (grown_set _ _ _ _)
theorem Bx.otherC {w w1 : World} {R r : Nat} {cs cs2 : Array Value} {T T2 : TypeId} (h : Bx w R cs T) (hr : Bx w r cs2 T2) (hT : T ≠ T2) (hg : w.grownBy w1 (some r)) : Bx w1 R cs T := h.grown hg (fun e => by
  injection e with e
  unfold Bx at h hr
  rw [← e, hr] at h
  injection h with h
  injection h with _ h _
  exact hT h.symm)
set_option maxRecDepth 100000 in
set_option maxHeartbeats 16000000 in
/-- CacheAges -/
theorem cacheAges_any (w : World) (most : Int) (q : Option Addr) (cq : Nat) (TS : List Tu) (hT : TuAt w q TS) (hN : TS.length ≤ 1048576) (hcost : costT TS ≤ 4194304) (hz : ∀ t ∈ TS, t.n.size ≤ 1048576 ∧ t.L.length ≤ 1048576 ∧ (t.p = none → t.c = 0) ∧ ∀ r ∈ t.L, r.o.size ≤ 1048576 ∧ r.d.size ≤ 1048576) :
    Calls Tryz.prog 3 #[.int .i64 most, .slice q TS.length cq] w fun e w' => e = .returned (.bool true) ∧ Below w.heap.size w w' := by
  have HAl := hide' (fun V => alive_any V)
  by_cases hbad : most < 1 ∨ most > 5000
  · have HN := hide' (new_no most w hbad)
    have hcs : most < 1 ∨ (¬ most < 1 ∧ most > 5000) := by omega
    clear hbad
    rcases hcs with h | ⟨h, h2⟩
    all_goals
      go_enter Tryz.func3, Tryz.ntmps3
      go_wp2_with (first
        | (go_at_call 4; refine HN.out.mono ?_; rintro e1 w1 ⟨rfl, hw1⟩; have hw1' := hw1.symm; subst hw1')
        | (go_at_call 5; refine (HAl.out _).mono ?_; rintro e2 w2 ⟨rfl, hB2⟩; have HB2 := hide' hB2; clear hB2))
      go_ret
      exact ⟨rfl, HB2.out⟩
  have hm1 : 1 ≤ most := by omega
  have hm2 : most ≤ 5000 := by omega
  have hm0 : most ≠ 0 := by omega
  have hmb1 : ¬ most < 1 := by omega
  have HMo : Hid (1 ≤ most ∧ most ≤ 5000 ∧ most ≠ 0) := ⟨hm1, hm2, hm0⟩
  have HNw := hide' (new_yes most w hm1 hm2)
  have HTw := hide' hT
  have HCs := hide' hcost
  have HZ := hide' hz
  obtain ⟨N, hNN⟩ : ∃ N, TS.length = N := ⟨_, rfl⟩
  have HNN := hide' hNN
  rw [hNN] at hN ⊢
  clear hT hcost hz hNN hbad hm0 hmb1
  go_enter Tryz.func3, Tryz.ntmps3
  go_wp2_with (first
    | (go_at_call 4; refine HNw.out.mono ?_; rintro e1 w1 hE; obtain ⟨⟨L, M, P, rfl, hC, hM⟩, hB⟩ := hE; have HC1 := hide' hC; have HM1 := hide' hM; have HB1 := hide' hB; clear hC hM hB)
    | (go_at_call 5; refine (HAl.out _).mono ?_; rintro e2 w2 ⟨rfl, hB2⟩; have HG2 : Hid (w1.grownBy w2 none) := (grown_below hB2 none); clear hB2))
  have HI0 : Hid (Lin w w2 L M P most [] none 0 0 [] [] 0 0 TS) := ⟨⟨HC1.out.idle HG2.out, Lmap.kept HM1.out HG2.out (by simp), HB1.out.grown HG2.out HB1.out.size (fun k e => by cases e), World.ownsRow_nil _ _ _ _, (fun pt h => by cases h)⟩, (by have := HMo.out.1; simp only [List.length_nil]; omega), (by omega), (by simp [costT]), Linv.nil, (fun pt h => by cases h), (by omega)⟩
  clear HC1 HM1 HG2 hm1 hm2
  go_loopw [7, 40] (fun lv iv wr => ∃ (i n cl : Nat) (ql : Option Addr) (T : List Pt) (Sk : List Ce) (Qk : List Qe) (ck : Int), lv = .slice ql n cl ∧ iv = .int .i64 (i : Int) ∧ i ≤ N ∧ n ≤ 1048576 ∧ Hid (Lin w wr L M P most T ql n cl Sk Qk ck i TS)) (fun _ iv _ => N - (intOf iv).toNat)
  case atStart => exact ⟨0, 0, 0, none, [], [], [], 0, rfl, rfl, Nat.zero_le _, by omega, HI0.out⟩
  case round =>
    obtain ⟨i, n, cl, ql, T, Sk, Qk, ck, rfl, rfl, hi, hn, HI⟩ := hrel
    obtain ⟨wo, rfl⟩ : ∃ wo, wo = wr := ⟨_, rfl⟩
    clear HI0
    by_cases hlt : i < N
    · have hiT : i < TS.length := by rw [HNN.out]; exact hlt
      obtain ⟨g, off, rfl, hg, e0, e1, e2, e3, e4, e5, e6⟩ := (HTw.out.bel HI.out.st.bel) i hiT
      obtain ⟨tu, htu⟩ : ∃ tu, TS[i] = tu := ⟨_, rfl⟩
      have hzt := HZ.out tu (htu ▸ List.getElem_mem hiT)
      have HCt : Hid (costT (TS.take (i + 1)) = costT (TS.take i) + tu.L.length + 1) := by unfold Hid; rw [costT_succ hiT, htu]
      have HCi := hide' (costT_take TS i)
      have HLow : Hid (∀ V, Fk (FC M P) w.heap.size wo V → RsAt V tu.p tu.L) := fun V hV => by
        obtain ⟨_, _, _, _, _, _, _, _, _, _, h6⟩ := (HTw.out.bel (HI.out.st.bel.trans (hV.below HI.out.st.bel.size))) i hiT
        rw [htu] at h6
        exact h6
      rw [htu] at e0 e1 e2 e3 e4 e5 e6
      clear htu hiT
      obtain ⟨KD, p, c, RL, nm, ty, rk, now⟩ := tu
      simp only at e0 e1 e2 e3 e4 e5 e6 hzt HCt HLow
      obtain ⟨nL, hnL⟩ : ∃ nL, RL.length = nL := ⟨_, rfl⟩
      rw [hnL] at e1 hzt HCt
      have HnL := hide' hnL
      have HZt := hide' hzt
      have hnLb : nL ≤ 1048576 := hzt.2.1
      clear hnL hzt
      obtain ⟨wt, hwt⟩ : ∃ v, wo.alloc (.cells #[.int .i64 KD, .slice p nL c, .string nm, .int .i64 ty, .int .i64 rk, .int .i64 now] 31) = v := ⟨_, rfl⟩
      have HGt : Hid (wo.grownBy wt none) := hwt ▸ World.grownBy_alloc wo _ none
      have HBt : Hid (Bx wt wo.heap.size #[.int .i64 KD, .slice p nL c, .string nm, .int .i64 ty, .int .i64 rk, .int .i64 now] 31) := hwt ▸ World.alloc_heap_new wo _
      have HIt : Hid (Lin w wt L M P most T ql n cl Sk Qk ck i TS) := ⟨HI.out.st.idle HGt.out, HI.out.len, HI.out.ck0, HI.out.ck1, HI.out.inv, HI.out.tm, HI.out.nn⟩
      have HRt : Hid (RsAt wt p RL) := rs_bel e6 (below_grownC HGt.out)
      have HWo : Hid (w.heap.size ≤ wo.heap.size) := HI.out.st.bel.size
      have y0 : wt.cell? ⟨wo.heap.size, 0, none⟩ = some (.int .i64 KD) := HBt.out.cell rfl
      have y1 : wt.cell? ⟨wo.heap.size, 1, none⟩ = some (.slice p nL c) := HBt.out.cell rfl
      have y2 : wt.cell? ⟨wo.heap.size, 2, none⟩ = some (.string nm) := HBt.out.cell rfl
      have y3 : wt.cell? ⟨wo.heap.size, 3, none⟩ = some (.int .i64 ty) := HBt.out.cell rfl
      have y4 : wt.cell? ⟨wo.heap.size, 4, none⟩ = some (.int .i64 rk) := HBt.out.cell rfl
      have y5 : wt.cell? ⟨wo.heap.size, 5, none⟩ = some (.int .i64 now) := HBt.out.cell rfl
      have HTB : Hid (∀ V, Bx V wo.heap.size #[.int .i64 KD, .slice p nL c, .string nm, .int .i64 ty, .int .i64 rk, .int .i64 now] 31 → V.cell? ⟨wo.heap.size, 4, none⟩ = some (.int .i64 rk) ∧ V.cell? ⟨wo.heap.size, 5, none⟩ = some (.int .i64 now)) := fun V hV => ⟨hV.cell rfl, hV.cell rfl⟩
      have HnT : Hid (∀ k, ¬ FC M P k (.cells #[.int .i64 KD, .slice p nL c, .string nm, .int .i64 ty, .int .i64 rk, .int .i64 now] 31 (0, 0))) := fun k h => h.elim (fun e => absurd e (by decide)) (fun e => absurd e (by decide))
      have HCb : Hid (0 ≤ ck ∧ ck ≤ 4194304) := ⟨HIt.out.ck0, by have h1 := HIt.out.ck1; have h2 := HCi.out; have h3 := HCs.out; omega⟩
      have HSl : Hid (Sk.length < 99999) := by have h1 := HIt.out.len; have h2 := HMo.out.2.1; unfold Hid; omega
      have HNT : Hid (∀ {cs : Array Value} (k : Nat), ¬ FC M P k (.cells cs 33 (0, 0))) := fun k h => h.elim (fun e => absurd e (by decide)) (fun e => absurd e (by decide))
      have HTC : Hid (∀ V, Bx V wo.heap.size #[.int .i64 KD, .slice p nL c, .string nm, .int .i64 ty, .int .i64 rk, .int .i64 now] 31 → V.cell? ⟨wo.heap.size, 1, none⟩ = some (.slice p nL c) ∧ V.cell? ⟨wo.heap.size, 2, none⟩ = some (.string nm) ∧ V.cell? ⟨wo.heap.size, 3, none⟩ = some (.int .i64 ty) ∧ V.cell? ⟨wo.heap.size, 5, none⟩ = some (.int .i64 now)) := fun V hV => ⟨hV.cell rfl, hV.cell rfl, hV.cell rfl, hV.cell rfl⟩
      clear e6 HI
      by_cases hk1 : KD = 1
      case pos =>
        subst hk1
        have b1 : ((1 : Int) == 1) = true := rfl
        have HKz : Hid (∀ r ∈ RL, r.o.size ≤ maxLen ∧ r.d.size ≤ 9223372036854775807) := fun r hr => by
          have := HZt.out.2.2.2 r hr
          exact ⟨by unfold maxLen; omega, by omega⟩
        have HPut : Hid (∀ (V : World) (qo : Option Addr) (co : Nat), Lst w V L M P most T ql n cl Sk Qk ck → RsAt V qo RL → Calls Tryz.prog 7 #[.pointer (some ⟨L, 0, none⟩), .slice qo nL co, .int .i64 rk, .int .i64 now] V (putE V L M P w.heap.size most ck Sk RL rk now)) := fun V qo co hV hr => by
          have h := callsIn_wide.1 (put_in hV.cac hV.em HMo.out.2.2 (by have := HMo.out.1; omega) HSl.out HCb.out.1 (by have := HCb.out.2; omega) RL qo co rk now hr (by rw [HnL.out]; exact hnLb) HKz.out)
          rw [HnL.out] at h
          exact h
        -- what is behind Put
        have HEnd : Hid (∀ (V : World) (S' : List Ce) (Q' : List Qe) (ck' : Int), putC Sk RL rk now ≠ 0 → ((putC Sk RL rk now ≠ 0 ∧ S' = Sk ∧ ck' = ck) ∨ (putC Sk RL rk now = 0 ∧ dsB RL = true ∧ ∃ x l, RL = x :: l ∧ ∃ p c b, ck' = repC (ageF RL) ck ∧ pushE most now (putS RL x.o x.t now rk ck p c b Sk) S')) → Lst w V L M P most T ql n cl S' Q' ck' → S' = Sk ∧ ck' = ck ∧ Lin w V L M P most T ql n cl Sk Q' ck (i + 1) TS) := fun V S' Q' ck' h0 h1 h2 => by
          rcases h1 with ⟨_, rfl, rfl⟩ | ⟨h, _⟩
          · exact ⟨rfl, rfl, h2, HIt.out.len, HIt.out.ck0, by have h1 := HIt.out.ck1; have h3 := HCt.out; omega, HIt.out.inv, HIt.out.tm, Nat.le_succ_of_le HIt.out.nn⟩
          · exact absurd h h0
        cases RL with
        | nil =>
          have hn0 : nL = 0 := by rw [← HnL.out]; rfl
          subst hn0
          obtain ⟨code, hcode⟩ : ∃ code, putC Sk [] rk now = code := ⟨_, rfl⟩
          have hc0 : (code == 0) = false := by rw [beq_eq_false_iff_ne, ← hcode]; exact putC_nil
          have HCo := hide' hcode
          go_wp2_with (first
            | (go_at_call 7; go_loud (have HPu := hide' (HPut.out w6 qo co HS6.out HO6.out.1); refine HPu.out.mono ?_; rintro e9 w9 hP; obtain ⟨hP1, S9, Q9, ck9, hC9, hM9, hF9, hP2⟩ := hP; rw [hcode] at hP1; subst hP1; have HP2 := hide' hP2; have HS9 := hide' (HS6.out.cache hC9 hM9 hF9); have HT9 : Hid (Bx w9 wo.heap.size #[.int .i64 1, .slice p 0 c, .string nm, .int .i64 ty, .int .i64 rk, .int .i64 now] 31) := HT6.out.fk hF9 (HnT.out _); have HW9 : Hid (Bx w9 w5.heap.size #[.int .i64 0, .int .i64 0, .slice none 0 0] 33) := HX6.out.fk hF9 (HNT.out _); clear hP2 hC9 hM9 hF9))
            | (at_builtin; refine wpList_append_recsM rfl _ _ rfl w.heap.size (.slice none 0 0) 0 [] rfl (World.ownsRow_nil _ _ _ _) p [] c (by rw [HnL.out]; rfl) HRt.out HZt.out.2.2.1 (by rw [HnL.out]; omega) HIt.out.st.bel.size ?_; intro v5 w5 ho5 hg5; rw [HnL.out, Nat.zero_add, List.nil_append] at ho5; obtain ⟨qo, co, hv5, -⟩ := own_shape ho5; subst hv5; have HG5 : Hid (wt.grownBy w5 none) := hg5; have HO5 := hide' ho5; clear ho5 hg5; obtain ⟨w6, h6⟩ : ∃ v, w5.alloc (.cells #[.int .i64 0, .int .i64 0, .slice none 0 0] 33) = v := ⟨_, rfl⟩; have HG6 : Hid (w5.grownBy w6 none) := h6 ▸ World.grownBy_alloc w5 _ none; have HX6 : Hid (Bx w6 w5.heap.size #[.int .i64 0, .int .i64 0, .slice none 0 0] 33) := h6 ▸ World.alloc_heap_new w5 _; have HS6 := hide' ((HIt.out.st.idle HG5.out).idle HG6.out); have HO6 := hide' ((rsT_own HO5.out).idle HG6.out); have HT6 := hide' ((HBt.out.grown HG5.out (by simp)).grown HG6.out (by simp)); have HBw : Hid (w.heap.size ≤ w5.heap.size) := Nat.le_trans HIt.out.st.bel.size HG5.out.size; obtain ⟨t4, t5⟩ := HTB.out w6 HT6.out))
          as_aux_lemma =>
            have HF19 : Hid (∀ V : World, w9.grownBy V none → V.cell? ⟨w5.heap.size, 0, none⟩ = some (.int .i64 0) ∧ V.cell? ⟨w5.heap.size, 1, none⟩ = some (.int .i64 0) ∧ V.cell? ⟨w5.heap.size, 2, none⟩ = some (.slice none 0 0) ∧ V.cell? ⟨wo.heap.size, 4, none⟩ = some (.int .i64 rk) ∧ V.cell? ⟨wo.heap.size, 5, none⟩ = some (.int .i64 now)) := fun V hV => by
              obtain ⟨b0, b1, b2, -, -, -⟩ := bx3C (HW9.out.grown hV (by simp))
              obtain ⟨t4, t5⟩ := HTB.out V (HT9.out.grown hV (by simp))
              exact ⟨b0, b1, b2, t4, t5⟩
            obtain ⟨hSe, hce, hLi⟩ := HEnd.out w9 S9 Q9 ck9 putC_nil HP2.out HS9.out
            have HLi := hide' hLi
            clear hLi
            obtain ⟨w9d, hw9d⟩ : ∃ v, w9.drew = v := ⟨_, rfl⟩
            have HG9d : Hid (w9.grownBy w9d none) := hw9d ▸ ⟨rfl, rfl, rfl, Nat.le_refl _, fun _ _ _ => rfl⟩
            refine wp_region_held_drew (S := fun V => w9.grownBy V none) (by kernel_rfl) ?_ (fun hHeld => ?_)
            · rw [hw9d]; exact HG9d.out
            rw [hw9d] at hHeld ⊢
            refine takeD 0 (some 84) (.pointer (some ⟨w5.heap.size, 0, none⟩)) rfl rfl (by kernel_rfl) (by kernel_rfl) (by kernel_rfl) (fun _ _ _ h => h) (Or.inl ⟨by rfl, ?_⟩) (by assumption) ?_
            · intro w hSw; (try dsimp only at hSw); obtain ⟨b0, b1, b2, t4, t5⟩ := HF19.out w hSw; go_simp <;> (intros; omega)
            simp only [Act.put, List.setIfInBounds_toArray, List.set_cons_zero, List.set_cons_succ]
            refine takeD 1 (some 85) (.int .i64 0) rfl rfl (by kernel_rfl) (by kernel_rfl) (by kernel_rfl) (fun _ _ _ h => h) (Or.inl ⟨by rfl, ?_⟩) (by assumption) ?_
            · intro w hSw; (try dsimp only at hSw); obtain ⟨b0, b1, b2, t4, t5⟩ := HF19.out w hSw; go_simp <;> (intros; omega)
            simp only [Act.put, List.setIfInBounds_toArray, List.set_cons_zero, List.set_cons_succ]
            refine takeD 2 (some 86) (.bool false) rfl rfl (by kernel_rfl) (by kernel_rfl) (by kernel_rfl) (fun _ _ _ h => h) (Or.inl ⟨by rfl, ?_⟩) (by assumption) ?_
            · intro w hSw; (try dsimp only at hSw); obtain ⟨b0, b1, b2, t4, t5⟩ := HF19.out w hSw; go_simp <;> (intros; omega)
            simp only [Act.put, List.setIfInBounds_toArray, List.set_cons_zero, List.set_cons_succ]
            refine takeD 3 (some 87) (.bool false) rfl rfl (by kernel_rfl) (by kernel_rfl) (by kernel_rfl) (fun _ _ _ h => h) (Or.inl ⟨by rfl, ?_⟩) (by assumption) ?_
            · intro w hSw; (try dsimp only at hSw); obtain ⟨b0, b1, b2, t4, t5⟩ := HF19.out w hSw; go_simp <;> (intros; omega)
            simp only [Act.put, List.setIfInBounds_toArray, List.set_cons_zero, List.set_cons_succ]
            refine takeD 4 (some 88) undef rfl rfl (by kernel_rfl) (by kernel_rfl) (by kernel_rfl) (fun _ _ _ h => h) (Or.inr ⟨by rfl, rfl⟩) (by assumption) ?_
            simp only [Act.put, List.setIfInBounds_toArray, List.set_cons_zero, List.set_cons_succ]
            refine takeD 5 (some 89) undef rfl rfl (by kernel_rfl) (by kernel_rfl) (by kernel_rfl) (fun _ _ _ h => h) (Or.inr ⟨by rfl, rfl⟩) (by assumption) ?_
            simp only [Act.put, List.setIfInBounds_toArray, List.set_cons_zero, List.set_cons_succ]
            refine takeD 6 (some 90) undef rfl rfl (by kernel_rfl) (by kernel_rfl) (by kernel_rfl) (fun _ _ _ h => h) (Or.inr ⟨by rfl, rfl⟩) (by assumption) ?_
            simp only [Act.put, List.setIfInBounds_toArray, List.set_cons_zero, List.set_cons_succ]
            refine takeD 7 (some 91) undef rfl rfl (by kernel_rfl) (by kernel_rfl) (by kernel_rfl) (fun _ _ _ h => h) (Or.inr ⟨by rfl, rfl⟩) (by assumption) ?_
            simp only [Act.put, List.setIfInBounds_toArray, List.set_cons_zero, List.set_cons_succ]
            refine takeD 8 (some 92) undef rfl rfl (by kernel_rfl) (by kernel_rfl) (by kernel_rfl) (fun _ _ _ h => h) (Or.inr ⟨by rfl, rfl⟩) (by assumption) ?_
            simp only [Act.put, List.setIfInBounds_toArray, List.set_cons_zero, List.set_cons_succ]
            refine takeD 9 (some 93) (.bool false) rfl rfl (by kernel_rfl) (by kernel_rfl) (by kernel_rfl) (fun _ _ _ h => h) (Or.inl ⟨by rfl, ?_⟩) (by assumption) ?_
            · intro w hSw; (try dsimp only at hSw); obtain ⟨b0, b1, b2, t4, t5⟩ := HF19.out w hSw; go_simp <;> (intros; omega)
            simp only [Act.put, List.setIfInBounds_toArray, List.set_cons_zero, List.set_cons_succ]
            refine takeD 10 (some 94) (.bool false) rfl rfl (by kernel_rfl) (by kernel_rfl) (by kernel_rfl) (fun _ _ _ h => h) (Or.inl ⟨by rfl, ?_⟩) (by assumption) ?_
            · intro w hSw; (try dsimp only at hSw); obtain ⟨b0, b1, b2, t4, t5⟩ := HF19.out w hSw; go_simp <;> (intros; omega)
            simp only [Act.put, List.setIfInBounds_toArray, List.set_cons_zero, List.set_cons_succ]
            refine takeD 11 (some 95) undef rfl rfl (by kernel_rfl) (by kernel_rfl) (by kernel_rfl) (fun _ _ _ h => h) (Or.inr ⟨by rfl, rfl⟩) (by assumption) ?_
            simp only [Act.put, List.setIfInBounds_toArray, List.set_cons_zero, List.set_cons_succ]
            refine takeD 12 (some 96) undef rfl rfl (by kernel_rfl) (by kernel_rfl) (by kernel_rfl) (fun _ _ _ h => h) (Or.inr ⟨by rfl, rfl⟩) (by assumption) ?_
            simp only [Act.put, List.setIfInBounds_toArray, List.set_cons_zero, List.set_cons_succ]
            refine takeD 13 (some 97) undef rfl rfl (by kernel_rfl) (by kernel_rfl) (by kernel_rfl) (fun _ _ _ h => h) (Or.inr ⟨by rfl, rfl⟩) (by assumption) ?_
            simp only [Act.put, List.setIfInBounds_toArray, List.set_cons_zero, List.set_cons_succ]
            refine takeD 14 (some 98) undef rfl rfl (by kernel_rfl) (by kernel_rfl) (by kernel_rfl) (fun _ _ _ h => h) (Or.inr ⟨by rfl, rfl⟩) (by assumption) ?_
            simp only [Act.put, List.setIfInBounds_toArray, List.set_cons_zero, List.set_cons_succ]
            refine takeD 15 (some 99) undef rfl rfl (by kernel_rfl) (by kernel_rfl) (by kernel_rfl) (fun _ _ _ h => h) (Or.inr ⟨by rfl, rfl⟩) (by assumption) ?_
            simp only [Act.put, List.setIfInBounds_toArray, List.set_cons_zero, List.set_cons_succ]
            refine takeD 16 (some 100) undef rfl rfl (by kernel_rfl) (by kernel_rfl) (by kernel_rfl) (fun _ _ _ h => h) (Or.inr ⟨by rfl, rfl⟩) (by assumption) ?_
            simp only [Act.put, List.setIfInBounds_toArray, List.set_cons_zero, List.set_cons_succ]
            refine takeD 17 (some 101) undef rfl rfl (by kernel_rfl) (by kernel_rfl) (by kernel_rfl) (fun _ _ _ h => h) (Or.inr ⟨by rfl, rfl⟩) (by assumption) ?_
            simp only [Act.put, List.setIfInBounds_toArray, List.set_cons_zero, List.set_cons_succ]
            refine takeD 18 (some 102) undef rfl rfl (by kernel_rfl) (by kernel_rfl) (by kernel_rfl) (fun _ _ _ h => h) (Or.inr ⟨by rfl, rfl⟩) (by assumption) ?_
            simp only [Act.put, List.setIfInBounds_toArray, List.set_cons_zero, List.set_cons_succ]
            refine takeD 19 (some 103) undef rfl rfl (by kernel_rfl) (by kernel_rfl) (by kernel_rfl) (fun _ _ _ h => h) (Or.inr ⟨by rfl, rfl⟩) (by assumption) ?_
            simp only [Act.put, List.setIfInBounds_toArray, List.set_cons_zero, List.set_cons_succ]
            refine takeD 20 (some 104) undef rfl rfl (by kernel_rfl) (by kernel_rfl) (by kernel_rfl) (fun _ _ _ h => h) (Or.inr ⟨by rfl, rfl⟩) (by assumption) ?_
            simp only [Act.put, List.setIfInBounds_toArray, List.set_cons_zero, List.set_cons_succ]
            refine takeD 21 (some 105) undef rfl rfl (by kernel_rfl) (by kernel_rfl) (by kernel_rfl) (fun _ _ _ h => h) (Or.inr ⟨by rfl, rfl⟩) (by assumption) ?_
            simp only [Act.put, List.setIfInBounds_toArray, List.set_cons_zero, List.set_cons_succ]
            refine takeD 22 (some 106) undef rfl rfl (by kernel_rfl) (by kernel_rfl) (by kernel_rfl) (fun _ _ _ h => h) (Or.inr ⟨by rfl, rfl⟩) (by assumption) ?_
            simp only [Act.put, List.setIfInBounds_toArray, List.set_cons_zero, List.set_cons_succ]
            refine takeD 23 (some 107) undef rfl rfl (by kernel_rfl) (by kernel_rfl) (by kernel_rfl) (fun _ _ _ h => h) (Or.inr ⟨by rfl, rfl⟩) (by assumption) ?_
            simp only [Act.put, List.setIfInBounds_toArray, List.set_cons_zero, List.set_cons_succ]
            refine takeD 24 (some 108) undef rfl rfl (by kernel_rfl) (by kernel_rfl) (by kernel_rfl) (fun _ _ _ h => h) (Or.inr ⟨by rfl, rfl⟩) (by assumption) ?_
            simp only [Act.put, List.setIfInBounds_toArray, List.set_cons_zero, List.set_cons_succ]
            refine takeD 25 (some 109) undef rfl rfl (by kernel_rfl) (by kernel_rfl) (by kernel_rfl) (fun _ _ _ h => h) (Or.inr ⟨by rfl, rfl⟩) (by assumption) ?_
            simp only [Act.put, List.setIfInBounds_toArray, List.set_cons_zero, List.set_cons_succ]
            refine takeD 26 (some 110) undef rfl rfl (by kernel_rfl) (by kernel_rfl) (by kernel_rfl) (fun _ _ _ h => h) (Or.inr ⟨by rfl, rfl⟩) (by assumption) ?_
            simp only [Act.put, List.setIfInBounds_toArray, List.set_cons_zero, List.set_cons_succ]
            refine takeD 27 (some 111) undef rfl rfl (by kernel_rfl) (by kernel_rfl) (by kernel_rfl) (fun _ _ _ h => h) (Or.inr ⟨by rfl, rfl⟩) (by assumption) ?_
            simp only [Act.put, List.setIfInBounds_toArray, List.set_cons_zero, List.set_cons_succ]
            refine takeD 28 (some 112) undef rfl rfl (by kernel_rfl) (by kernel_rfl) (by kernel_rfl) (fun _ _ _ h => h) (Or.inr ⟨by rfl, rfl⟩) (by assumption) ?_
            simp only [Act.put, List.setIfInBounds_toArray, List.set_cons_zero, List.set_cons_succ]
            refine takeD 29 (some 113) undef rfl rfl (by kernel_rfl) (by kernel_rfl) (by kernel_rfl) (fun _ _ _ h => h) (Or.inr ⟨by rfl, rfl⟩) (by assumption) ?_
            simp only [Act.put, List.setIfInBounds_toArray, List.set_cons_zero, List.set_cons_succ]
            refine takeD 30 (some 114) (.bool false) rfl rfl (by kernel_rfl) (by kernel_rfl) (by kernel_rfl) (fun _ _ _ h => h) (Or.inl ⟨by rfl, ?_⟩) (by assumption) ?_
            · intro w hSw; (try dsimp only at hSw); obtain ⟨b0, b1, b2, t4, t5⟩ := HF19.out w hSw; go_simp <;> (intros; omega)
            simp only [Act.put, List.setIfInBounds_toArray, List.set_cons_zero, List.set_cons_succ]
            refine wpAnyH_done (by kernel_rfl) ?_ _
            clear hHeld
            have HLd : Hid (Lin w w9d L M P most T ql n cl Sk Q9 ck (i + 1) TS) := ⟨HLi.out.st.idle HG9d.out, HLi.out.len, HLi.out.ck0, HLi.out.ck1, HLi.out.inv, HLi.out.tm, HLi.out.nn⟩
            obtain ⟨-, s5⟩ := HTB.out _ (HT9.out.grown HG9d.out (by simp))
            have HSz := hide' (sizeL_any (now := now) HLd.out.st.cac HLd.out.st.em HMo.out.2.2 HLd.out.len)
            go_wp2_with (go_at_call 13; refine HSz.out.mono ?_; rintro es ws ⟨hzs, hBs⟩; obtain ⟨z, rfl, hz⟩ := hzs; have HSs := hide' (HLd.out.st.idle (grown_below hBs none)); have hz0 : ¬ ((z : Int) < 0) := Int.not_lt.2 (Int.natCast_nonneg z); have hz1 : ¬ ((z : Int) > most) := Int.not_lt.2 hz; clear hBs hz)
            go_roundw
            case rel => exact ⟨i + 1, n, cl, ql, T, Sk, Q9, ck, rfl, by go_num, hlt, (by have h := HLd.out.nn; omega), ⟨HSs.out, HLd.out.len, HLd.out.ck0, HLd.out.ck1, HLd.out.inv, HLd.out.tm, HLd.out.nn⟩⟩
            case measure => simp [intOf]; omega
        | cons x l =>
          obtain ⟨RL, hRL⟩ : ∃ RL, (x :: l : List Rn) = RL := ⟨_, rfl⟩
          have HRL := hide' hRL
          rw [hRL] at HnL HRt HLow HPut HEnd HKz HZt
          have hn0 : 0 < nL := by rw [← HnL.out, ← hRL]; simp
          have hn0i : ((nL : Int) > 0) := by omega
          clear hRL
          obtain ⟨xo, xt, xc, xl, xd⟩ := x
          obtain ⟨code, hcode⟩ : ∃ code, putC Sk RL rk now = code := ⟨_, rfl⟩
          obtain ⟨⟨kk, kr, kK⟩, hK⟩ : ∃ K, lookB Sk xo xt now = K := ⟨_, rfl⟩
          have HKo : Hid (kk = 1 → kr > rk → code ≠ 0) := fun h1 h2 => by
            rw [← hcode, ← HRL.out]
            exact put_old (by rw [hK]; exact h1) (by rw [hK]; exact h2)
          have HLf := look_facts (n := xo) (t := xt) (now := now) HIt.out.inv
          have HKl : Hid (kK.length ≤ 4294967296) := by
            rw [hK] at HLf
            simp only at HLf
            rcases HLf with h | h
            · have := h.2.2.2.2.2; unfold Hid; omega
            · unfold Hid; rw [h.2]; decide
          have hzx := HKz.out ⟨xo, xt, xc, xl, xd⟩ (by rw [← HRL.out]; exact List.mem_cons_self)
          have HXo : Hid (xo.size ≤ maxLen) := hzx.1
          have HLook : Hid (∀ (V : World) (Q' : List Qe), Lst w V L M P most T ql n cl Sk Q' ck → Calls Tryz.prog 6 #[.pointer (some ⟨L, 0, none⟩), .string xo, .int .i64 xt, .int .i64 now] V (lookE V (kk, kr, kK))) := fun V Q' hV => hK ▸ look_any hV.cac hV.em HIt.out.inv.ok HMo.out.2.2 xo xt now HXo.out
          clear HLf hzx hK
          go_wp2_with (at_builtin; refine wpList_append_recsM rfl _ _ rfl w.heap.size (.slice none 0 0) 0 [] rfl (World.ownsRow_nil _ _ _ _) p RL c (by rw [HnL.out]; rfl) HRt.out HZt.out.2.2.1 (by rw [HnL.out]; omega) HIt.out.st.bel.size ?_; intro v5 w5 ho5 hg5; rw [HnL.out, Nat.zero_add, List.nil_append] at ho5; obtain ⟨qo, co, hv5, -⟩ := own_shape ho5; subst hv5; have HG5 : Hid (wt.grownBy w5 none) := hg5; have HO5 := hide' ho5; clear ho5 hg5; obtain ⟨w6, h6⟩ : ∃ v, w5.alloc (.cells #[.int .i64 0, .int .i64 0, .slice none 0 0] 33) = v := ⟨_, rfl⟩; have HG6 : Hid (w5.grownBy w6 none) := h6 ▸ World.grownBy_alloc w5 _ none; have HX6 : Hid (Bx w6 w5.heap.size #[.int .i64 0, .int .i64 0, .slice none 0 0] 33) := h6 ▸ World.alloc_heap_new w5 _; have HS6 := hide' ((HIt.out.st.idle HG5.out).idle HG6.out); have HO6 := hide' ((rsT_own HO5.out).idle HG6.out); have HT6 := hide' ((HBt.out.grown HG5.out (by simp)).grown HG6.out (by simp)); have HBw : Hid (w.heap.size ≤ w5.heap.size) := Nat.le_trans HIt.out.st.bel.size HG5.out.size; obtain ⟨t4, t5⟩ := HTB.out w6 HT6.out)
          have HLk6 : Hid (Lst w w6 L M P most T ql n cl Sk Qk ck) := HS6.out
          obtain ⟨go, oo, hqo, -, q0, q1, -⟩ := HO6.out.1 0 (by rw [← HRL.out]; simp)
          subst hqo
          have HFo : Hid (∀ V, RsT V (some ⟨go, oo, none⟩) RL → V.cell? ⟨go, oo, none⟩ = some (.string xo) ∧ V.cell? ⟨go, oo + 1, none⟩ = some (.int .i64 xt)) := fun V hV => by
            obtain ⟨g', o', hq', -, q0, q1, -⟩ := hV.1 0 (by rw [← HRL.out]; simp)
            injection hq' with hq'
            injection hq' with h1 h2
            subst h1 h2
            have e : RL[0]'(by rw [← HRL.out]; simp) = ⟨xo, xt, xc, xl, xd⟩ := by simp [← HRL.out]
            rw [e] at q0 q1
            simp only [Nat.zero_mul, Nat.add_zero] at q0 q1
            exact ⟨q0, q1⟩
          have HF15 : Hid (∀ V : World, w6.grownBy V none → V.cell? ⟨go, oo, none⟩ = some (.string xo) ∧ V.cell? ⟨go, oo + 1, none⟩ = some (.int .i64 xt) ∧ V.cell? ⟨wo.heap.size, 5, none⟩ = some (.int .i64 now)) := fun V hV => ⟨(HFo.out V (HO6.out.idle hV)).1, (HFo.out V (HO6.out.idle hV)).2, (HTB.out V (HT6.out.grown hV (by simp))).2⟩
          clear q0 q1
          obtain ⟨w6d, hw6d⟩ : ∃ v, w6.drew = v := ⟨_, rfl⟩
          have HG6d : Hid (w6.grownBy w6d none) := hw6d ▸ ⟨rfl, rfl, rfl, Nat.le_refl _, fun _ _ _ => rfl⟩
          have HLo := hide' (HLook.out w6d Qk (HS6.out.idle HG6d.out))
          refine wp_region_held_drew (S := fun V => V.cell? ⟨go, oo, none⟩ = some (.string xo) ∧ V.cell? ⟨go, oo + 1, none⟩ = some (.int .i64 xt) ∧ V.cell? ⟨wo.heap.size, 5, none⟩ = some (.int .i64 now)) (by kernel_rfl) ?_ (fun hHeld => ?_)
          · rw [hw6d]; exact HF15.out _ HG6d.out
          rw [hw6d] at hHeld ⊢
          refine takeD 0 (some 54) (.pointer (some ⟨L, 0, none⟩)) rfl rfl (by kernel_rfl) (by kernel_rfl) (by kernel_rfl) (fun _ _ _ h => h) (Or.inl ⟨by rfl, ?_⟩) (by assumption) ?_
          · intro w hSw; (try dsimp only at hSw); obtain ⟨q0, q1, t5⟩ := hSw; go_simp <;> (intros; omega)
          simp only [Act.put, List.setIfInBounds_toArray, List.set_cons_zero, List.set_cons_succ]
          refine takeD 1 (some 55) (.slice (some ⟨go, oo, none⟩) nL co) rfl rfl (by kernel_rfl) (by kernel_rfl) (by kernel_rfl) (fun _ _ _ h => h) (Or.inl ⟨by rfl, ?_⟩) (by assumption) ?_
          · intro w hSw; (try dsimp only at hSw); obtain ⟨q0, q1, t5⟩ := hSw; go_simp <;> (intros; omega)
          simp only [Act.put, List.setIfInBounds_toArray, List.set_cons_zero, List.set_cons_succ]
          refine takeD 2 (some 56) (.pointer (some ⟨go, oo, none⟩)) rfl rfl (by kernel_rfl) (by kernel_rfl) (by kernel_rfl) (fun _ _ _ h => h) (Or.inl ⟨by rfl, ?_⟩) (by assumption) ?_
          · intro w hSw; (try dsimp only at hSw); obtain ⟨q0, q1, t5⟩ := hSw; go_simp <;> (intros; omega)
          simp only [Act.put, List.setIfInBounds_toArray, List.set_cons_zero, List.set_cons_succ]
          refine takeD 3 (some 57) (.pointer (some ⟨go, oo, none⟩)) rfl rfl (by kernel_rfl) (by kernel_rfl) (by kernel_rfl) (fun _ _ _ h => h) (Or.inl ⟨by rfl, ?_⟩) (by assumption) ?_
          · intro w hSw; (try dsimp only at hSw); obtain ⟨q0, q1, t5⟩ := hSw; go_simp <;> (intros; omega)
          simp only [Act.put, List.setIfInBounds_toArray, List.set_cons_zero, List.set_cons_succ]
          refine takeD 4 (some 58) (.string xo) rfl rfl (by kernel_rfl) (by kernel_rfl) (by kernel_rfl) (fun _ _ _ h => h) (Or.inl ⟨by rfl, ?_⟩) (by assumption) ?_
          · intro w hSw; (try dsimp only at hSw); obtain ⟨q0, q1, t5⟩ := hSw; go_simp <;> (intros; omega)
          simp only [Act.put, List.setIfInBounds_toArray, List.set_cons_zero, List.set_cons_succ]
          refine takeD 5 (some 59) (.slice (some ⟨go, oo, none⟩) nL co) rfl rfl (by kernel_rfl) (by kernel_rfl) (by kernel_rfl) (fun _ _ _ h => h) (Or.inl ⟨by rfl, ?_⟩) (by assumption) ?_
          · intro w hSw; (try dsimp only at hSw); obtain ⟨q0, q1, t5⟩ := hSw; go_simp <;> (intros; omega)
          simp only [Act.put, List.setIfInBounds_toArray, List.set_cons_zero, List.set_cons_succ]
          refine takeD 6 (some 60) (.pointer (some ⟨go, oo, none⟩)) rfl rfl (by kernel_rfl) (by kernel_rfl) (by kernel_rfl) (fun _ _ _ h => h) (Or.inl ⟨by rfl, ?_⟩) (by assumption) ?_
          · intro w hSw; (try dsimp only at hSw); obtain ⟨q0, q1, t5⟩ := hSw; go_simp <;> (intros; omega)
          simp only [Act.put, List.setIfInBounds_toArray, List.set_cons_zero, List.set_cons_succ]
          refine takeD 7 (some 61) (.pointer (some ⟨go, oo + 1, none⟩)) rfl rfl (by kernel_rfl) (by kernel_rfl) (by kernel_rfl) (fun _ _ _ h => h) (Or.inl ⟨by rfl, ?_⟩) (by assumption) ?_
          · intro w hSw; (try dsimp only at hSw); obtain ⟨q0, q1, t5⟩ := hSw; go_simp <;> (intros; omega)
          simp only [Act.put, List.setIfInBounds_toArray, List.set_cons_zero, List.set_cons_succ]
          refine takeD 8 (some 62) (.int .i64 xt) rfl rfl (by kernel_rfl) (by kernel_rfl) (by kernel_rfl) (fun _ _ _ h => h) (Or.inl ⟨by rfl, ?_⟩) (by assumption) ?_
          · intro w hSw; (try dsimp only at hSw); obtain ⟨q0, q1, t5⟩ := hSw; go_simp <;> (intros; omega)
          simp only [Act.put, List.setIfInBounds_toArray, List.set_cons_zero, List.set_cons_succ]
          refine takeD 9 (some 63) (.pointer (some ⟨wo.heap.size, 5, none⟩)) rfl rfl (by kernel_rfl) (by kernel_rfl) (by kernel_rfl) (fun _ _ _ h => h) (Or.inl ⟨by rfl, ?_⟩) (by assumption) ?_
          · intro w hSw; (try dsimp only at hSw); obtain ⟨q0, q1, t5⟩ := hSw; go_simp <;> (intros; omega)
          simp only [Act.put, List.setIfInBounds_toArray, List.set_cons_zero, List.set_cons_succ]
          refine takeD 10 (some 64) (.int .i64 now) rfl rfl (by kernel_rfl) (by kernel_rfl) (by kernel_rfl) (fun _ _ _ h => h) (Or.inl ⟨by rfl, ?_⟩) (by assumption) ?_
          · intro w hSw; (try dsimp only at hSw); obtain ⟨q0, q1, t5⟩ := hSw; go_simp <;> (intros; omega)
          simp only [Act.put, List.setIfInBounds_toArray, List.set_cons_zero, List.set_cons_succ]
          refine wpAnyH_ready (rs := [11]) (by kernel_rfl) (by simp) ?_
          refine AllReadyH.cons rfl (fun K hK => ?_) AllReadyH.nil
          go_simp
          go_at_call 6; refine HLo.out.mono ?_; rintro e7 w7 hE; obtain ⟨⟨v7, hv7, ho7⟩, hB7⟩ := hE; obtain ⟨q7, c7, rfl, -⟩ := own_shape ho7; simp only at hv7; subst hv7; have HR7 : Hid (RsT w7 q7 kK) := rsT_own ho7; have HG7 : Hid (w6.grownBy w7 none) := (grown_trans HG6d.out (grown_below hB7 none)); clear ho7 hB7
          go_wp2_with fail
          refine hK.out _ _ (HF15.out _ HG7.out) (fun hHeld => ?_)
          clear hK K
          try simp only [Act.put, List.setIfInBounds_toArray, List.set_cons_zero, List.set_cons_succ]
          have HW7 := hide' (HX6.out.grown HG7.out (by simp))
          obtain ⟨z0, z1, z2, f0, f1, f2⟩ := bx3C HW7.out
          obtain ⟨nK, hnK⟩ : ∃ nK, kK.length = nK := ⟨_, rfl⟩
          rw [hnK]
          have HNK := hide' hnK
          clear hnK
          refine wpAnyH_ready (rs := [12]) (by kernel_rfl) (by simp) ?_
          refine AllReadyH.cons rfl (fun K hK => ?_) AllReadyH.nil
          go_simp
          go_wp2_with fail
          obtain ⟨w8, hst⟩ : ∃ v, (((w7.setCell ⟨w5.heap.size, 0, none⟩ (.int .i64 kk)).setCell ⟨w5.heap.size, 1, none⟩ (.int .i64 kr)).setCell ⟨w5.heap.size, 2, none⟩ (.slice q7 nK c7)) = v := ⟨_, rfl⟩
          have HW8 : Hid (Bx w8 w5.heap.size #[.int .i64 kk, .int .i64 kr, .slice q7 nK c7] 33) := hst ▸ bx3C_set HW7.out _ _ _
          have HG8 : Hid (w7.grownBy w8 (some w5.heap.size)) := hst ▸ Bx.set3F HW7.out _ _ _
          have HS8 : Hid (Lst w w8 L M P most T ql n cl Sk Qk ck) := (HS6.out.idle HG7.out).other HW7.out (by decide) HBw.out HG8.out
          have HO8 : Hid (RsT w8 (some ⟨go, oo, none⟩) RL) := (HO6.out.idle HG7.out).other HW7.out (by decide) HG8.out
          have HR8 : Hid (RsT w8 q7 kK) := HR7.out.other HW7.out (by decide) HG8.out
          have HT8 := hide' ((HT6.out.grown HG7.out (by simp)).otherC HW7.out (by decide) HG8.out)
          have HF8 : Hid (w8.cell? ⟨go, oo, none⟩ = some (.string xo) ∧ w8.cell? ⟨go, oo + 1, none⟩ = some (.int .i64 xt) ∧ w8.cell? ⟨wo.heap.size, 5, none⟩ = some (.int .i64 now)) := ⟨(HFo.out w8 HO8.out).1, (HFo.out w8 HO8.out).2, HT8.out.cell rfl⟩
          try rw [hst]
          clear hst z0 z1 z2 f0 f1 f2
          refine hK.out _ _ HF8.out (fun hHeld => ?_)
          clear hK K
          try simp only [Act.put, List.setIfInBounds_toArray, List.set_cons_zero, List.set_cons_succ]
          refine wpAnyH_done (by kernel_rfl) ?_ _
          clear hHeld
          obtain ⟨t4, t5⟩ := HTB.out w8 HT8.out
          have HPu := hide' (HPut.out w8 (some ⟨go, oo, none⟩) co HS8.out HO8.out.1)
          by_cases hcz : code = 0
          case neg =>
            have hc0 : (code == 0) = false := by rw [beq_eq_false_iff_ne]; exact hcz
            go_wp2_with (go_at_call 7; refine HPu.out.mono ?_; rintro e9 w9 hP; obtain ⟨hP1, S9, Q9, ck9, hC9, hM9, hF9, hP2⟩ := hP; rw [hcode] at hP1; subst hP1; have HP2 := hide' hP2; have HF9 := hide' hF9; have HS9 := hide' (HS8.out.cache hC9 hM9 hF9); have HT9 : Hid (Bx w9 wo.heap.size #[.int .i64 1, .slice p nL c, .string nm, .int .i64 ty, .int .i64 rk, .int .i64 now] 31) := HT8.out.fk hF9 (HnT.out _); clear hP2 hF9 hC9 hM9; have HW9 : Hid (Bx w9 w5.heap.size #[.int .i64 kk, .int .i64 kr, .slice q7 nK c7] 33) := HW8.out.fk HF9.out (HNT.out _); have HO9 := hide' (HO8.out.fk HF9.out); have HR9 := hide' (HR8.out.fk HF9.out); obtain ⟨u4, u5⟩ := HTB.out w9 HT9.out)
            obtain ⟨hSe, hce, hLi⟩ := HEnd.out w9 S9 Q9 ck9 (by rw [hcode]; exact hcz) HP2.out HS9.out
            have HLi := hide' hLi
            clear hLi hcz
            have HF19 : Hid (∀ V : World, w9.grownBy V none → V.cell? ⟨w5.heap.size, 0, none⟩ = some (.int .i64 kk) ∧ V.cell? ⟨w5.heap.size, 1, none⟩ = some (.int .i64 kr) ∧ V.cell? ⟨w5.heap.size, 2, none⟩ = some (.slice q7 nK c7) ∧ V.cell? ⟨wo.heap.size, 4, none⟩ = some (.int .i64 rk) ∧ V.cell? ⟨wo.heap.size, 5, none⟩ = some (.int .i64 now) ∧ V.cell? ⟨go, oo, none⟩ = some (.string xo) ∧ V.cell? ⟨go, oo + 1, none⟩ = some (.int .i64 xt)) := fun V hV => by
              obtain ⟨b0, b1, b2, -, -, -⟩ := bx3C (HW9.out.grown hV (by simp))
              obtain ⟨t4, t5⟩ := HTB.out V (HT9.out.grown hV (by simp))
              obtain ⟨q0, q1⟩ := HFo.out V (HO9.out.idle hV)
              exact ⟨b0, b1, b2, t4, t5, q0, q1⟩
            obtain ⟨w9d, hw9d⟩ : ∃ v, w9.drew = v := ⟨_, rfl⟩
            have HG9d : Hid (w9.grownBy w9d none) := hw9d ▸ ⟨rfl, rfl, rfl, Nat.le_refl _, fun _ _ _ => rfl⟩
            by_cases hkk : kk = 1
            case neg =>
              as_aux_lemma =>
                have hk1 : (kk == 1) = false := by rw [beq_eq_false_iff_ne]; exact hkk
                clear hkk
                refine wp_region_held_drew (S := fun V => w9.grownBy V none) (by kernel_rfl) ?_ (fun hHeld => ?_)
                · rw [hw9d]; exact HG9d.out
                rw [hw9d] at hHeld ⊢
                refine takeD 0 (some 84) (.pointer (some ⟨w5.heap.size, 0, none⟩)) rfl rfl (by kernel_rfl) (by kernel_rfl) (by kernel_rfl) (fun _ _ _ h => h) (Or.inl ⟨by rfl, ?_⟩) (by assumption) ?_
                · intro w hSw; (try dsimp only at hSw); obtain ⟨b0, b1, b2, t4, t5, q0, q1⟩ := HF19.out w hSw; go_simp <;> (intros; omega)
                simp only [Act.put, List.setIfInBounds_toArray, List.set_cons_zero, List.set_cons_succ]
                refine takeD 1 (some 85) (.int .i64 kk) rfl rfl (by kernel_rfl) (by kernel_rfl) (by kernel_rfl) (fun _ _ _ h => h) (Or.inl ⟨by rfl, ?_⟩) (by assumption) ?_
                · intro w hSw; (try dsimp only at hSw); obtain ⟨b0, b1, b2, t4, t5, q0, q1⟩ := HF19.out w hSw; go_simp <;> (intros; omega)
                simp only [Act.put, List.setIfInBounds_toArray, List.set_cons_zero, List.set_cons_succ]
                refine takeD 2 (some 86) (.bool false) rfl rfl (by kernel_rfl) (by kernel_rfl) (by kernel_rfl) (fun _ _ _ h => h) (Or.inl ⟨by rfl, ?_⟩) (by assumption) ?_
                · intro w hSw; (try dsimp only at hSw); obtain ⟨b0, b1, b2, t4, t5, q0, q1⟩ := HF19.out w hSw; go_simp <;> (intros; omega)
                simp only [Act.put, List.setIfInBounds_toArray, List.set_cons_zero, List.set_cons_succ]
                refine takeD 3 (some 87) (.bool false) rfl rfl (by kernel_rfl) (by kernel_rfl) (by kernel_rfl) (fun _ _ _ h => h) (Or.inl ⟨by rfl, ?_⟩) (by assumption) ?_
                · intro w hSw; (try dsimp only at hSw); obtain ⟨b0, b1, b2, t4, t5, q0, q1⟩ := HF19.out w hSw; go_simp <;> (intros; omega)
                simp only [Act.put, List.setIfInBounds_toArray, List.set_cons_zero, List.set_cons_succ]
                refine takeD 4 (some 88) undef rfl rfl (by kernel_rfl) (by kernel_rfl) (by kernel_rfl) (fun _ _ _ h => h) (Or.inr ⟨by rfl, rfl⟩) (by assumption) ?_
                simp only [Act.put, List.setIfInBounds_toArray, List.set_cons_zero, List.set_cons_succ]
                refine takeD 5 (some 89) undef rfl rfl (by kernel_rfl) (by kernel_rfl) (by kernel_rfl) (fun _ _ _ h => h) (Or.inr ⟨by rfl, rfl⟩) (by assumption) ?_
                simp only [Act.put, List.setIfInBounds_toArray, List.set_cons_zero, List.set_cons_succ]
                refine takeD 6 (some 90) undef rfl rfl (by kernel_rfl) (by kernel_rfl) (by kernel_rfl) (fun _ _ _ h => h) (Or.inr ⟨by rfl, rfl⟩) (by assumption) ?_
                simp only [Act.put, List.setIfInBounds_toArray, List.set_cons_zero, List.set_cons_succ]
                refine takeD 7 (some 91) undef rfl rfl (by kernel_rfl) (by kernel_rfl) (by kernel_rfl) (fun _ _ _ h => h) (Or.inr ⟨by rfl, rfl⟩) (by assumption) ?_
                simp only [Act.put, List.setIfInBounds_toArray, List.set_cons_zero, List.set_cons_succ]
                refine takeD 8 (some 92) undef rfl rfl (by kernel_rfl) (by kernel_rfl) (by kernel_rfl) (fun _ _ _ h => h) (Or.inr ⟨by rfl, rfl⟩) (by assumption) ?_
                simp only [Act.put, List.setIfInBounds_toArray, List.set_cons_zero, List.set_cons_succ]
                refine takeD 9 (some 93) (.bool false) rfl rfl (by kernel_rfl) (by kernel_rfl) (by kernel_rfl) (fun _ _ _ h => h) (Or.inl ⟨by rfl, ?_⟩) (by assumption) ?_
                · intro w hSw; (try dsimp only at hSw); obtain ⟨b0, b1, b2, t4, t5, q0, q1⟩ := HF19.out w hSw; go_simp <;> (intros; omega)
                simp only [Act.put, List.setIfInBounds_toArray, List.set_cons_zero, List.set_cons_succ]
                refine takeD 10 (some 94) (.bool false) rfl rfl (by kernel_rfl) (by kernel_rfl) (by kernel_rfl) (fun _ _ _ h => h) (Or.inl ⟨by rfl, ?_⟩) (by assumption) ?_
                · intro w hSw; (try dsimp only at hSw); obtain ⟨b0, b1, b2, t4, t5, q0, q1⟩ := HF19.out w hSw; go_simp <;> (intros; omega)
                simp only [Act.put, List.setIfInBounds_toArray, List.set_cons_zero, List.set_cons_succ]
                refine takeD 11 (some 95) undef rfl rfl (by kernel_rfl) (by kernel_rfl) (by kernel_rfl) (fun _ _ _ h => h) (Or.inr ⟨by rfl, rfl⟩) (by assumption) ?_
                simp only [Act.put, List.setIfInBounds_toArray, List.set_cons_zero, List.set_cons_succ]
                refine takeD 12 (some 96) undef rfl rfl (by kernel_rfl) (by kernel_rfl) (by kernel_rfl) (fun _ _ _ h => h) (Or.inr ⟨by rfl, rfl⟩) (by assumption) ?_
                simp only [Act.put, List.setIfInBounds_toArray, List.set_cons_zero, List.set_cons_succ]
                refine takeD 13 (some 97) undef rfl rfl (by kernel_rfl) (by kernel_rfl) (by kernel_rfl) (fun _ _ _ h => h) (Or.inr ⟨by rfl, rfl⟩) (by assumption) ?_
                simp only [Act.put, List.setIfInBounds_toArray, List.set_cons_zero, List.set_cons_succ]
                refine takeD 14 (some 98) undef rfl rfl (by kernel_rfl) (by kernel_rfl) (by kernel_rfl) (fun _ _ _ h => h) (Or.inr ⟨by rfl, rfl⟩) (by assumption) ?_
                simp only [Act.put, List.setIfInBounds_toArray, List.set_cons_zero, List.set_cons_succ]
                refine takeD 15 (some 99) undef rfl rfl (by kernel_rfl) (by kernel_rfl) (by kernel_rfl) (fun _ _ _ h => h) (Or.inr ⟨by rfl, rfl⟩) (by assumption) ?_
                simp only [Act.put, List.setIfInBounds_toArray, List.set_cons_zero, List.set_cons_succ]
                refine takeD 16 (some 100) undef rfl rfl (by kernel_rfl) (by kernel_rfl) (by kernel_rfl) (fun _ _ _ h => h) (Or.inr ⟨by rfl, rfl⟩) (by assumption) ?_
                simp only [Act.put, List.setIfInBounds_toArray, List.set_cons_zero, List.set_cons_succ]
                refine takeD 17 (some 101) undef rfl rfl (by kernel_rfl) (by kernel_rfl) (by kernel_rfl) (fun _ _ _ h => h) (Or.inr ⟨by rfl, rfl⟩) (by assumption) ?_
                simp only [Act.put, List.setIfInBounds_toArray, List.set_cons_zero, List.set_cons_succ]
                refine takeD 18 (some 102) undef rfl rfl (by kernel_rfl) (by kernel_rfl) (by kernel_rfl) (fun _ _ _ h => h) (Or.inr ⟨by rfl, rfl⟩) (by assumption) ?_
                simp only [Act.put, List.setIfInBounds_toArray, List.set_cons_zero, List.set_cons_succ]
                refine takeD 19 (some 103) undef rfl rfl (by kernel_rfl) (by kernel_rfl) (by kernel_rfl) (fun _ _ _ h => h) (Or.inr ⟨by rfl, rfl⟩) (by assumption) ?_
                simp only [Act.put, List.setIfInBounds_toArray, List.set_cons_zero, List.set_cons_succ]
                refine takeD 20 (some 104) undef rfl rfl (by kernel_rfl) (by kernel_rfl) (by kernel_rfl) (fun _ _ _ h => h) (Or.inr ⟨by rfl, rfl⟩) (by assumption) ?_
                simp only [Act.put, List.setIfInBounds_toArray, List.set_cons_zero, List.set_cons_succ]
                refine takeD 21 (some 105) undef rfl rfl (by kernel_rfl) (by kernel_rfl) (by kernel_rfl) (fun _ _ _ h => h) (Or.inr ⟨by rfl, rfl⟩) (by assumption) ?_
                simp only [Act.put, List.setIfInBounds_toArray, List.set_cons_zero, List.set_cons_succ]
                refine takeD 22 (some 106) undef rfl rfl (by kernel_rfl) (by kernel_rfl) (by kernel_rfl) (fun _ _ _ h => h) (Or.inr ⟨by rfl, rfl⟩) (by assumption) ?_
                simp only [Act.put, List.setIfInBounds_toArray, List.set_cons_zero, List.set_cons_succ]
                refine takeD 23 (some 107) undef rfl rfl (by kernel_rfl) (by kernel_rfl) (by kernel_rfl) (fun _ _ _ h => h) (Or.inr ⟨by rfl, rfl⟩) (by assumption) ?_
                simp only [Act.put, List.setIfInBounds_toArray, List.set_cons_zero, List.set_cons_succ]
                refine takeD 24 (some 108) undef rfl rfl (by kernel_rfl) (by kernel_rfl) (by kernel_rfl) (fun _ _ _ h => h) (Or.inr ⟨by rfl, rfl⟩) (by assumption) ?_
                simp only [Act.put, List.setIfInBounds_toArray, List.set_cons_zero, List.set_cons_succ]
                refine takeD 25 (some 109) undef rfl rfl (by kernel_rfl) (by kernel_rfl) (by kernel_rfl) (fun _ _ _ h => h) (Or.inr ⟨by rfl, rfl⟩) (by assumption) ?_
                simp only [Act.put, List.setIfInBounds_toArray, List.set_cons_zero, List.set_cons_succ]
                refine takeD 26 (some 110) undef rfl rfl (by kernel_rfl) (by kernel_rfl) (by kernel_rfl) (fun _ _ _ h => h) (Or.inr ⟨by rfl, rfl⟩) (by assumption) ?_
                simp only [Act.put, List.setIfInBounds_toArray, List.set_cons_zero, List.set_cons_succ]
                refine takeD 27 (some 111) undef rfl rfl (by kernel_rfl) (by kernel_rfl) (by kernel_rfl) (fun _ _ _ h => h) (Or.inr ⟨by rfl, rfl⟩) (by assumption) ?_
                simp only [Act.put, List.setIfInBounds_toArray, List.set_cons_zero, List.set_cons_succ]
                refine takeD 28 (some 112) undef rfl rfl (by kernel_rfl) (by kernel_rfl) (by kernel_rfl) (fun _ _ _ h => h) (Or.inr ⟨by rfl, rfl⟩) (by assumption) ?_
                simp only [Act.put, List.setIfInBounds_toArray, List.set_cons_zero, List.set_cons_succ]
                refine takeD 29 (some 113) undef rfl rfl (by kernel_rfl) (by kernel_rfl) (by kernel_rfl) (fun _ _ _ h => h) (Or.inr ⟨by rfl, rfl⟩) (by assumption) ?_
                simp only [Act.put, List.setIfInBounds_toArray, List.set_cons_zero, List.set_cons_succ]
                refine takeD 30 (some 114) (.bool false) rfl rfl (by kernel_rfl) (by kernel_rfl) (by kernel_rfl) (fun _ _ _ h => h) (Or.inl ⟨by rfl, ?_⟩) (by assumption) ?_
                · intro w hSw; (try dsimp only at hSw); obtain ⟨b0, b1, b2, t4, t5, q0, q1⟩ := HF19.out w hSw; go_simp <;> (intros; omega)
                simp only [Act.put, List.setIfInBounds_toArray, List.set_cons_zero, List.set_cons_succ]
                refine wpAnyH_done (by kernel_rfl) ?_ _
                clear hHeld
                have HLd : Hid (Lin w w9d L M P most T ql n cl Sk Q9 ck (i + 1) TS) := ⟨HLi.out.st.idle HG9d.out, HLi.out.len, HLi.out.ck0, HLi.out.ck1, HLi.out.inv, HLi.out.tm, HLi.out.nn⟩
                obtain ⟨-, s5⟩ := HTB.out _ (HT9.out.grown HG9d.out (by simp))
                have HSz := hide' (sizeL_any (now := now) HLd.out.st.cac HLd.out.st.em HMo.out.2.2 HLd.out.len)
                go_wp2_with (go_at_call 13; refine HSz.out.mono ?_; rintro es ws ⟨hzs, hBs⟩; obtain ⟨z, rfl, hz⟩ := hzs; have HSs := hide' (HLd.out.st.idle (grown_below hBs none)); have hz0 : ¬ ((z : Int) < 0) := Int.not_lt.2 (Int.natCast_nonneg z); have hz1 : ¬ ((z : Int) > most) := Int.not_lt.2 hz; clear hBs hz)
                go_roundw
                case rel => exact ⟨i + 1, n, cl, ql, T, Sk, Q9, ck, rfl, by go_num, hlt, (by have h := HLd.out.nn; omega), ⟨HSs.out, HLd.out.len, HLd.out.ck0, HLd.out.ck1, HLd.out.inv, HLd.out.tm, HLd.out.nn⟩⟩
                case measure => simp [intOf]; omega
            have hk1 : (kk == 1) = true := by rw [hkk]; rfl
            by_cases hgt : kr > rk
            case neg =>
              as_aux_lemma =>
                have hgt2 : ¬ rk < kr := hgt
                refine wp_region_held_drew (S := fun V => w9.grownBy V none) (by kernel_rfl) ?_ (fun hHeld => ?_)
                · rw [hw9d]; exact HG9d.out
                rw [hw9d] at hHeld ⊢
                refine takeD 0 (some 84) (.pointer (some ⟨w5.heap.size, 0, none⟩)) rfl rfl (by kernel_rfl) (by kernel_rfl) (by kernel_rfl) (fun _ _ _ h => h) (Or.inl ⟨by rfl, ?_⟩) (by assumption) ?_
                · intro w hSw; (try dsimp only at hSw); obtain ⟨b0, b1, b2, t4, t5, q0, q1⟩ := HF19.out w hSw; go_simp <;> (intros; omega)
                simp only [Act.put, List.setIfInBounds_toArray, List.set_cons_zero, List.set_cons_succ]
                refine takeD 1 (some 85) (.int .i64 kk) rfl rfl (by kernel_rfl) (by kernel_rfl) (by kernel_rfl) (fun _ _ _ h => h) (Or.inl ⟨by rfl, ?_⟩) (by assumption) ?_
                · intro w hSw; (try dsimp only at hSw); obtain ⟨b0, b1, b2, t4, t5, q0, q1⟩ := HF19.out w hSw; go_simp <;> (intros; omega)
                simp only [Act.put, List.setIfInBounds_toArray, List.set_cons_zero, List.set_cons_succ]
                refine takeD 2 (some 86) (.bool true) rfl rfl (by kernel_rfl) (by kernel_rfl) (by kernel_rfl) (fun _ _ _ h => h) (Or.inl ⟨by rfl, ?_⟩) (by assumption) ?_
                · intro w hSw; (try dsimp only at hSw); obtain ⟨b0, b1, b2, t4, t5, q0, q1⟩ := HF19.out w hSw; go_simp <;> (intros; omega)
                simp only [Act.put, List.setIfInBounds_toArray, List.set_cons_zero, List.set_cons_succ]
                refine takeD 3 (some 87) (.bool true) rfl rfl (by kernel_rfl) (by kernel_rfl) (by kernel_rfl) (fun _ _ _ h => h) (Or.inl ⟨by rfl, ?_⟩) (by assumption) ?_
                · intro w hSw; (try dsimp only at hSw); obtain ⟨b0, b1, b2, t4, t5, q0, q1⟩ := HF19.out w hSw; go_simp <;> (intros; omega)
                simp only [Act.put, List.setIfInBounds_toArray, List.set_cons_zero, List.set_cons_succ]
                refine takeD 4 (some 88) (.pointer (some ⟨w5.heap.size, 1, none⟩)) rfl rfl (by kernel_rfl) (by kernel_rfl) (by kernel_rfl) (fun _ _ _ h => h) (Or.inl ⟨by rfl, ?_⟩) (by assumption) ?_
                · intro w hSw; (try dsimp only at hSw); obtain ⟨b0, b1, b2, t4, t5, q0, q1⟩ := HF19.out w hSw; go_simp <;> (intros; omega)
                simp only [Act.put, List.setIfInBounds_toArray, List.set_cons_zero, List.set_cons_succ]
                refine takeD 5 (some 89) (.int .i64 kr) rfl rfl (by kernel_rfl) (by kernel_rfl) (by kernel_rfl) (fun _ _ _ h => h) (Or.inl ⟨by rfl, ?_⟩) (by assumption) ?_
                · intro w hSw; (try dsimp only at hSw); obtain ⟨b0, b1, b2, t4, t5, q0, q1⟩ := HF19.out w hSw; go_simp <;> (intros; omega)
                simp only [Act.put, List.setIfInBounds_toArray, List.set_cons_zero, List.set_cons_succ]
                refine takeD 6 (some 90) (.pointer (some ⟨wo.heap.size, 4, none⟩)) rfl rfl (by kernel_rfl) (by kernel_rfl) (by kernel_rfl) (fun _ _ _ h => h) (Or.inl ⟨by rfl, ?_⟩) (by assumption) ?_
                · intro w hSw; (try dsimp only at hSw); obtain ⟨b0, b1, b2, t4, t5, q0, q1⟩ := HF19.out w hSw; go_simp <;> (intros; omega)
                simp only [Act.put, List.setIfInBounds_toArray, List.set_cons_zero, List.set_cons_succ]
                refine takeD 7 (some 91) (.int .i64 rk) rfl rfl (by kernel_rfl) (by kernel_rfl) (by kernel_rfl) (fun _ _ _ h => h) (Or.inl ⟨by rfl, ?_⟩) (by assumption) ?_
                · intro w hSw; (try dsimp only at hSw); obtain ⟨b0, b1, b2, t4, t5, q0, q1⟩ := HF19.out w hSw; go_simp <;> (intros; omega)
                simp only [Act.put, List.setIfInBounds_toArray, List.set_cons_zero, List.set_cons_succ]
                refine takeD 8 (some 92) (.bool false) rfl rfl (by kernel_rfl) (by kernel_rfl) (by kernel_rfl) (fun _ _ _ h => h) (Or.inl ⟨by rfl, ?_⟩) (by assumption) ?_
                · intro w hSw; (try dsimp only at hSw); obtain ⟨b0, b1, b2, t4, t5, q0, q1⟩ := HF19.out w hSw; go_simp <;> (intros; omega)
                simp only [Act.put, List.setIfInBounds_toArray, List.set_cons_zero, List.set_cons_succ]
                refine takeD 9 (some 93) (.bool false) rfl rfl (by kernel_rfl) (by kernel_rfl) (by kernel_rfl) (fun _ _ _ h => h) (Or.inl ⟨by rfl, ?_⟩) (by assumption) ?_
                · intro w hSw; (try dsimp only at hSw); obtain ⟨b0, b1, b2, t4, t5, q0, q1⟩ := HF19.out w hSw; go_simp <;> (intros; omega)
                simp only [Act.put, List.setIfInBounds_toArray, List.set_cons_zero, List.set_cons_succ]
                refine takeD 10 (some 94) (.bool false) rfl rfl (by kernel_rfl) (by kernel_rfl) (by kernel_rfl) (fun _ _ _ h => h) (Or.inl ⟨by rfl, ?_⟩) (by assumption) ?_
                · intro w hSw; (try dsimp only at hSw); obtain ⟨b0, b1, b2, t4, t5, q0, q1⟩ := HF19.out w hSw; go_simp <;> (intros; omega)
                simp only [Act.put, List.setIfInBounds_toArray, List.set_cons_zero, List.set_cons_succ]
                refine takeD 11 (some 95) undef rfl rfl (by kernel_rfl) (by kernel_rfl) (by kernel_rfl) (fun _ _ _ h => h) (Or.inr ⟨by rfl, rfl⟩) (by assumption) ?_
                simp only [Act.put, List.setIfInBounds_toArray, List.set_cons_zero, List.set_cons_succ]
                refine takeD 12 (some 96) undef rfl rfl (by kernel_rfl) (by kernel_rfl) (by kernel_rfl) (fun _ _ _ h => h) (Or.inr ⟨by rfl, rfl⟩) (by assumption) ?_
                simp only [Act.put, List.setIfInBounds_toArray, List.set_cons_zero, List.set_cons_succ]
                refine takeD 13 (some 97) undef rfl rfl (by kernel_rfl) (by kernel_rfl) (by kernel_rfl) (fun _ _ _ h => h) (Or.inr ⟨by rfl, rfl⟩) (by assumption) ?_
                simp only [Act.put, List.setIfInBounds_toArray, List.set_cons_zero, List.set_cons_succ]
                refine takeD 14 (some 98) undef rfl rfl (by kernel_rfl) (by kernel_rfl) (by kernel_rfl) (fun _ _ _ h => h) (Or.inr ⟨by rfl, rfl⟩) (by assumption) ?_
                simp only [Act.put, List.setIfInBounds_toArray, List.set_cons_zero, List.set_cons_succ]
                refine takeD 15 (some 99) undef rfl rfl (by kernel_rfl) (by kernel_rfl) (by kernel_rfl) (fun _ _ _ h => h) (Or.inr ⟨by rfl, rfl⟩) (by assumption) ?_
                simp only [Act.put, List.setIfInBounds_toArray, List.set_cons_zero, List.set_cons_succ]
                refine takeD 16 (some 100) undef rfl rfl (by kernel_rfl) (by kernel_rfl) (by kernel_rfl) (fun _ _ _ h => h) (Or.inr ⟨by rfl, rfl⟩) (by assumption) ?_
                simp only [Act.put, List.setIfInBounds_toArray, List.set_cons_zero, List.set_cons_succ]
                refine takeD 17 (some 101) undef rfl rfl (by kernel_rfl) (by kernel_rfl) (by kernel_rfl) (fun _ _ _ h => h) (Or.inr ⟨by rfl, rfl⟩) (by assumption) ?_
                simp only [Act.put, List.setIfInBounds_toArray, List.set_cons_zero, List.set_cons_succ]
                refine takeD 18 (some 102) undef rfl rfl (by kernel_rfl) (by kernel_rfl) (by kernel_rfl) (fun _ _ _ h => h) (Or.inr ⟨by rfl, rfl⟩) (by assumption) ?_
                simp only [Act.put, List.setIfInBounds_toArray, List.set_cons_zero, List.set_cons_succ]
                refine takeD 19 (some 103) undef rfl rfl (by kernel_rfl) (by kernel_rfl) (by kernel_rfl) (fun _ _ _ h => h) (Or.inr ⟨by rfl, rfl⟩) (by assumption) ?_
                simp only [Act.put, List.setIfInBounds_toArray, List.set_cons_zero, List.set_cons_succ]
                refine takeD 20 (some 104) undef rfl rfl (by kernel_rfl) (by kernel_rfl) (by kernel_rfl) (fun _ _ _ h => h) (Or.inr ⟨by rfl, rfl⟩) (by assumption) ?_
                simp only [Act.put, List.setIfInBounds_toArray, List.set_cons_zero, List.set_cons_succ]
                refine takeD 21 (some 105) undef rfl rfl (by kernel_rfl) (by kernel_rfl) (by kernel_rfl) (fun _ _ _ h => h) (Or.inr ⟨by rfl, rfl⟩) (by assumption) ?_
                simp only [Act.put, List.setIfInBounds_toArray, List.set_cons_zero, List.set_cons_succ]
                refine takeD 22 (some 106) undef rfl rfl (by kernel_rfl) (by kernel_rfl) (by kernel_rfl) (fun _ _ _ h => h) (Or.inr ⟨by rfl, rfl⟩) (by assumption) ?_
                simp only [Act.put, List.setIfInBounds_toArray, List.set_cons_zero, List.set_cons_succ]
                refine takeD 23 (some 107) undef rfl rfl (by kernel_rfl) (by kernel_rfl) (by kernel_rfl) (fun _ _ _ h => h) (Or.inr ⟨by rfl, rfl⟩) (by assumption) ?_
                simp only [Act.put, List.setIfInBounds_toArray, List.set_cons_zero, List.set_cons_succ]
                refine takeD 24 (some 108) undef rfl rfl (by kernel_rfl) (by kernel_rfl) (by kernel_rfl) (fun _ _ _ h => h) (Or.inr ⟨by rfl, rfl⟩) (by assumption) ?_
                simp only [Act.put, List.setIfInBounds_toArray, List.set_cons_zero, List.set_cons_succ]
                refine takeD 25 (some 109) undef rfl rfl (by kernel_rfl) (by kernel_rfl) (by kernel_rfl) (fun _ _ _ h => h) (Or.inr ⟨by rfl, rfl⟩) (by assumption) ?_
                simp only [Act.put, List.setIfInBounds_toArray, List.set_cons_zero, List.set_cons_succ]
                refine takeD 26 (some 110) undef rfl rfl (by kernel_rfl) (by kernel_rfl) (by kernel_rfl) (fun _ _ _ h => h) (Or.inr ⟨by rfl, rfl⟩) (by assumption) ?_
                simp only [Act.put, List.setIfInBounds_toArray, List.set_cons_zero, List.set_cons_succ]
                refine takeD 27 (some 111) undef rfl rfl (by kernel_rfl) (by kernel_rfl) (by kernel_rfl) (fun _ _ _ h => h) (Or.inr ⟨by rfl, rfl⟩) (by assumption) ?_
                simp only [Act.put, List.setIfInBounds_toArray, List.set_cons_zero, List.set_cons_succ]
                refine takeD 28 (some 112) undef rfl rfl (by kernel_rfl) (by kernel_rfl) (by kernel_rfl) (fun _ _ _ h => h) (Or.inr ⟨by rfl, rfl⟩) (by assumption) ?_
                simp only [Act.put, List.setIfInBounds_toArray, List.set_cons_zero, List.set_cons_succ]
                refine takeD 29 (some 113) undef rfl rfl (by kernel_rfl) (by kernel_rfl) (by kernel_rfl) (fun _ _ _ h => h) (Or.inr ⟨by rfl, rfl⟩) (by assumption) ?_
                simp only [Act.put, List.setIfInBounds_toArray, List.set_cons_zero, List.set_cons_succ]
                refine takeD 30 (some 114) (.bool false) rfl rfl (by kernel_rfl) (by kernel_rfl) (by kernel_rfl) (fun _ _ _ h => h) (Or.inl ⟨by rfl, ?_⟩) (by assumption) ?_
                · intro w hSw; (try dsimp only at hSw); obtain ⟨b0, b1, b2, t4, t5, q0, q1⟩ := HF19.out w hSw; go_simp <;> (intros; omega)
                simp only [Act.put, List.setIfInBounds_toArray, List.set_cons_zero, List.set_cons_succ]
                refine wpAnyH_done (by kernel_rfl) ?_ _
                clear hHeld
                have HLd : Hid (Lin w w9d L M P most T ql n cl Sk Q9 ck (i + 1) TS) := ⟨HLi.out.st.idle HG9d.out, HLi.out.len, HLi.out.ck0, HLi.out.ck1, HLi.out.inv, HLi.out.tm, HLi.out.nn⟩
                obtain ⟨-, s5⟩ := HTB.out _ (HT9.out.grown HG9d.out (by simp))
                have HSz := hide' (sizeL_any (now := now) HLd.out.st.cac HLd.out.st.em HMo.out.2.2 HLd.out.len)
                go_wp2_with (go_at_call 13; refine HSz.out.mono ?_; rintro es ws ⟨hzs, hBs⟩; obtain ⟨z, rfl, hz⟩ := hzs; have HSs := hide' (HLd.out.st.idle (grown_below hBs none)); have hz0 : ¬ ((z : Int) < 0) := Int.not_lt.2 (Int.natCast_nonneg z); have hz1 : ¬ ((z : Int) > most) := Int.not_lt.2 hz; clear hBs hz)
                go_roundw
                case rel => exact ⟨i + 1, n, cl, ql, T, Sk, Q9, ck, rfl, by go_num, hlt, (by have h := HLd.out.nn; omega), ⟨HSs.out, HLd.out.len, HLd.out.ck0, HLd.out.ck1, HLd.out.inv, HLd.out.tm, HLd.out.nn⟩⟩
                case measure => simp [intOf]; omega
            as_aux_lemma =>
              have hgt2 : rk < kr := hgt
              have HKf : Hid (kk = 1) := hkk
              clear hkk hgt
              have HL2 := hide' (HLook.out w9d Q9 (HLi.out.st.idle HG9d.out))
              refine wp_region_held_drew (S := fun V => w9.grownBy V none) (by kernel_rfl) ?_ (fun hHeld => ?_)
              · rw [hw9d]; exact HG9d.out
              rw [hw9d] at hHeld ⊢
              refine takeD 0 (some 84) (.pointer (some ⟨w5.heap.size, 0, none⟩)) rfl rfl (by kernel_rfl) (by kernel_rfl) (by kernel_rfl) (fun _ _ _ h => h) (Or.inl ⟨by rfl, ?_⟩) (by assumption) ?_
              · intro w hSw; (try dsimp only at hSw); obtain ⟨b0, b1, b2, t4, t5, q0, q1⟩ := HF19.out w hSw; go_simp <;> (intros; omega)
              simp only [Act.put, List.setIfInBounds_toArray, List.set_cons_zero, List.set_cons_succ]
              refine takeD 1 (some 85) (.int .i64 kk) rfl rfl (by kernel_rfl) (by kernel_rfl) (by kernel_rfl) (fun _ _ _ h => h) (Or.inl ⟨by rfl, ?_⟩) (by assumption) ?_
              · intro w hSw; (try dsimp only at hSw); obtain ⟨b0, b1, b2, t4, t5, q0, q1⟩ := HF19.out w hSw; go_simp <;> (intros; omega)
              simp only [Act.put, List.setIfInBounds_toArray, List.set_cons_zero, List.set_cons_succ]
              refine takeD 2 (some 86) (.bool true) rfl rfl (by kernel_rfl) (by kernel_rfl) (by kernel_rfl) (fun _ _ _ h => h) (Or.inl ⟨by rfl, ?_⟩) (by assumption) ?_
              · intro w hSw; (try dsimp only at hSw); obtain ⟨b0, b1, b2, t4, t5, q0, q1⟩ := HF19.out w hSw; go_simp <;> (intros; omega)
              simp only [Act.put, List.setIfInBounds_toArray, List.set_cons_zero, List.set_cons_succ]
              refine takeD 3 (some 87) (.bool true) rfl rfl (by kernel_rfl) (by kernel_rfl) (by kernel_rfl) (fun _ _ _ h => h) (Or.inl ⟨by rfl, ?_⟩) (by assumption) ?_
              · intro w hSw; (try dsimp only at hSw); obtain ⟨b0, b1, b2, t4, t5, q0, q1⟩ := HF19.out w hSw; go_simp <;> (intros; omega)
              simp only [Act.put, List.setIfInBounds_toArray, List.set_cons_zero, List.set_cons_succ]
              refine takeD 4 (some 88) (.pointer (some ⟨w5.heap.size, 1, none⟩)) rfl rfl (by kernel_rfl) (by kernel_rfl) (by kernel_rfl) (fun _ _ _ h => h) (Or.inl ⟨by rfl, ?_⟩) (by assumption) ?_
              · intro w hSw; (try dsimp only at hSw); obtain ⟨b0, b1, b2, t4, t5, q0, q1⟩ := HF19.out w hSw; go_simp <;> (intros; omega)
              simp only [Act.put, List.setIfInBounds_toArray, List.set_cons_zero, List.set_cons_succ]
              refine takeD 5 (some 89) (.int .i64 kr) rfl rfl (by kernel_rfl) (by kernel_rfl) (by kernel_rfl) (fun _ _ _ h => h) (Or.inl ⟨by rfl, ?_⟩) (by assumption) ?_
              · intro w hSw; (try dsimp only at hSw); obtain ⟨b0, b1, b2, t4, t5, q0, q1⟩ := HF19.out w hSw; go_simp <;> (intros; omega)
              simp only [Act.put, List.setIfInBounds_toArray, List.set_cons_zero, List.set_cons_succ]
              refine takeD 6 (some 90) (.pointer (some ⟨wo.heap.size, 4, none⟩)) rfl rfl (by kernel_rfl) (by kernel_rfl) (by kernel_rfl) (fun _ _ _ h => h) (Or.inl ⟨by rfl, ?_⟩) (by assumption) ?_
              · intro w hSw; (try dsimp only at hSw); obtain ⟨b0, b1, b2, t4, t5, q0, q1⟩ := HF19.out w hSw; go_simp <;> (intros; omega)
              simp only [Act.put, List.setIfInBounds_toArray, List.set_cons_zero, List.set_cons_succ]
              refine takeD 7 (some 91) (.int .i64 rk) rfl rfl (by kernel_rfl) (by kernel_rfl) (by kernel_rfl) (fun _ _ _ h => h) (Or.inl ⟨by rfl, ?_⟩) (by assumption) ?_
              · intro w hSw; (try dsimp only at hSw); obtain ⟨b0, b1, b2, t4, t5, q0, q1⟩ := HF19.out w hSw; go_simp <;> (intros; omega)
              simp only [Act.put, List.setIfInBounds_toArray, List.set_cons_zero, List.set_cons_succ]
              refine takeD 8 (some 92) (.bool true) rfl rfl (by kernel_rfl) (by kernel_rfl) (by kernel_rfl) (fun _ _ _ h => h) (Or.inl ⟨by rfl, ?_⟩) (by assumption) ?_
              · intro w hSw; (try dsimp only at hSw); obtain ⟨b0, b1, b2, t4, t5, q0, q1⟩ := HF19.out w hSw; go_simp <;> (intros; omega)
              simp only [Act.put, List.setIfInBounds_toArray, List.set_cons_zero, List.set_cons_succ]
              refine takeD 9 (some 93) (.bool true) rfl rfl (by kernel_rfl) (by kernel_rfl) (by kernel_rfl) (fun _ _ _ h => h) (Or.inl ⟨by rfl, ?_⟩) (by assumption) ?_
              · intro w hSw; (try dsimp only at hSw); obtain ⟨b0, b1, b2, t4, t5, q0, q1⟩ := HF19.out w hSw; go_simp <;> (intros; omega)
              simp only [Act.put, List.setIfInBounds_toArray, List.set_cons_zero, List.set_cons_succ]
              refine takeD 10 (some 94) (.bool true) rfl rfl (by kernel_rfl) (by kernel_rfl) (by kernel_rfl) (fun _ _ _ h => h) (Or.inl ⟨by rfl, ?_⟩) (by assumption) ?_
              · intro w hSw; (try dsimp only at hSw); obtain ⟨b0, b1, b2, t4, t5, q0, q1⟩ := HF19.out w hSw; go_simp <;> (intros; omega)
              simp only [Act.put, List.setIfInBounds_toArray, List.set_cons_zero, List.set_cons_succ]
              refine takeD 11 (some 95) (.int .i64 code) rfl rfl (by kernel_rfl) (by kernel_rfl) (by kernel_rfl) (fun _ _ _ h => h) (Or.inl ⟨by rfl, ?_⟩) (by assumption) ?_
              · intro w hSw; (try dsimp only at hSw); obtain ⟨b0, b1, b2, t4, t5, q0, q1⟩ := HF19.out w hSw; go_simp <;> (intros; omega)
              simp only [Act.put, List.setIfInBounds_toArray, List.set_cons_zero, List.set_cons_succ]
              refine takeD 12 (some 96) (.bool false) rfl rfl (by kernel_rfl) (by kernel_rfl) (by kernel_rfl) (fun _ _ _ h => h) (Or.inl ⟨by rfl, ?_⟩) (by assumption) ?_
              · intro w hSw; (try dsimp only at hSw); obtain ⟨b0, b1, b2, t4, t5, q0, q1⟩ := HF19.out w hSw; go_simp <;> (intros; omega)
              simp only [Act.put, List.setIfInBounds_toArray, List.set_cons_zero, List.set_cons_succ]
              refine takeD 13 (some 97) (.bool false) rfl rfl (by kernel_rfl) (by kernel_rfl) (by kernel_rfl) (fun _ _ _ h => h) (Or.inl ⟨by rfl, ?_⟩) (by assumption) ?_
              · intro w hSw; (try dsimp only at hSw); obtain ⟨b0, b1, b2, t4, t5, q0, q1⟩ := HF19.out w hSw; go_simp <;> (intros; omega)
              simp only [Act.put, List.setIfInBounds_toArray, List.set_cons_zero, List.set_cons_succ]
              refine takeD 14 (some 98) (.agg #[.int .i64 kk, .int .i64 kr, .slice q7 nK c7]) rfl rfl (by kernel_rfl) (by kernel_rfl) (by kernel_rfl) (fun _ _ _ h => h) (Or.inl ⟨by rfl, ?_⟩) (by assumption) ?_
              · intro w hSw; (try dsimp only at hSw); obtain ⟨b0, b1, b2, t4, t5, q0, q1⟩ := HF19.out w hSw; go_simp <;> (intros; omega)
              simp only [Act.put, List.setIfInBounds_toArray, List.set_cons_zero, List.set_cons_succ]
              refine takeD 15 (some 99) (.pointer (some ⟨L, 0, none⟩)) rfl rfl (by kernel_rfl) (by kernel_rfl) (by kernel_rfl) (fun _ _ _ h => h) (Or.inl ⟨by rfl, ?_⟩) (by assumption) ?_
              · intro w hSw; (try dsimp only at hSw); obtain ⟨b0, b1, b2, t4, t5, q0, q1⟩ := HF19.out w hSw; go_simp <;> (intros; omega)
              simp only [Act.put, List.setIfInBounds_toArray, List.set_cons_zero, List.set_cons_succ]
              refine takeD 16 (some 100) (.slice (some ⟨go, oo, none⟩) nL co) rfl rfl (by kernel_rfl) (by kernel_rfl) (by kernel_rfl) (fun _ _ _ h => h) (Or.inl ⟨by rfl, ?_⟩) (by assumption) ?_
              · intro w hSw; (try dsimp only at hSw); obtain ⟨b0, b1, b2, t4, t5, q0, q1⟩ := HF19.out w hSw; go_simp <;> (intros; omega)
              simp only [Act.put, List.setIfInBounds_toArray, List.set_cons_zero, List.set_cons_succ]
              refine takeD 17 (some 101) (.pointer (some ⟨go, oo, none⟩)) rfl rfl (by kernel_rfl) (by kernel_rfl) (by kernel_rfl) (fun _ _ _ h => h) (Or.inl ⟨by rfl, ?_⟩) (by assumption) ?_
              · intro w hSw; (try dsimp only at hSw); obtain ⟨b0, b1, b2, t4, t5, q0, q1⟩ := HF19.out w hSw; go_simp <;> (intros; omega)
              simp only [Act.put, List.setIfInBounds_toArray, List.set_cons_zero, List.set_cons_succ]
              refine takeD 18 (some 102) (.pointer (some ⟨go, oo, none⟩)) rfl rfl (by kernel_rfl) (by kernel_rfl) (by kernel_rfl) (fun _ _ _ h => h) (Or.inl ⟨by rfl, ?_⟩) (by assumption) ?_
              · intro w hSw; (try dsimp only at hSw); obtain ⟨b0, b1, b2, t4, t5, q0, q1⟩ := HF19.out w hSw; go_simp <;> (intros; omega)
              simp only [Act.put, List.setIfInBounds_toArray, List.set_cons_zero, List.set_cons_succ]
              refine takeD 19 (some 103) (.string xo) rfl rfl (by kernel_rfl) (by kernel_rfl) (by kernel_rfl) (fun _ _ _ h => h) (Or.inl ⟨by rfl, ?_⟩) (by assumption) ?_
              · intro w hSw; (try dsimp only at hSw); obtain ⟨b0, b1, b2, t4, t5, q0, q1⟩ := HF19.out w hSw; go_simp <;> (intros; omega)
              simp only [Act.put, List.setIfInBounds_toArray, List.set_cons_zero, List.set_cons_succ]
              refine takeD 20 (some 104) (.slice (some ⟨go, oo, none⟩) nL co) rfl rfl (by kernel_rfl) (by kernel_rfl) (by kernel_rfl) (fun _ _ _ h => h) (Or.inl ⟨by rfl, ?_⟩) (by assumption) ?_
              · intro w hSw; (try dsimp only at hSw); obtain ⟨b0, b1, b2, t4, t5, q0, q1⟩ := HF19.out w hSw; go_simp <;> (intros; omega)
              simp only [Act.put, List.setIfInBounds_toArray, List.set_cons_zero, List.set_cons_succ]
              refine takeD 21 (some 105) (.pointer (some ⟨go, oo, none⟩)) rfl rfl (by kernel_rfl) (by kernel_rfl) (by kernel_rfl) (fun _ _ _ h => h) (Or.inl ⟨by rfl, ?_⟩) (by assumption) ?_
              · intro w hSw; (try dsimp only at hSw); obtain ⟨b0, b1, b2, t4, t5, q0, q1⟩ := HF19.out w hSw; go_simp <;> (intros; omega)
              simp only [Act.put, List.setIfInBounds_toArray, List.set_cons_zero, List.set_cons_succ]
              refine takeD 22 (some 106) (.pointer (some ⟨go, oo + 1, none⟩)) rfl rfl (by kernel_rfl) (by kernel_rfl) (by kernel_rfl) (fun _ _ _ h => h) (Or.inl ⟨by rfl, ?_⟩) (by assumption) ?_
              · intro w hSw; (try dsimp only at hSw); obtain ⟨b0, b1, b2, t4, t5, q0, q1⟩ := HF19.out w hSw; go_simp <;> (intros; omega)
              simp only [Act.put, List.setIfInBounds_toArray, List.set_cons_zero, List.set_cons_succ]
              refine takeD 23 (some 107) (.int .i64 xt) rfl rfl (by kernel_rfl) (by kernel_rfl) (by kernel_rfl) (fun _ _ _ h => h) (Or.inl ⟨by rfl, ?_⟩) (by assumption) ?_
              · intro w hSw; (try dsimp only at hSw); obtain ⟨b0, b1, b2, t4, t5, q0, q1⟩ := HF19.out w hSw; go_simp <;> (intros; omega)
              simp only [Act.put, List.setIfInBounds_toArray, List.set_cons_zero, List.set_cons_succ]
              refine takeD 24 (some 108) (.pointer (some ⟨wo.heap.size, 5, none⟩)) rfl rfl (by kernel_rfl) (by kernel_rfl) (by kernel_rfl) (fun _ _ _ h => h) (Or.inl ⟨by rfl, ?_⟩) (by assumption) ?_
              · intro w hSw; (try dsimp only at hSw); obtain ⟨b0, b1, b2, t4, t5, q0, q1⟩ := HF19.out w hSw; go_simp <;> (intros; omega)
              simp only [Act.put, List.setIfInBounds_toArray, List.set_cons_zero, List.set_cons_succ]
              refine takeD 25 (some 109) (.int .i64 now) rfl rfl (by kernel_rfl) (by kernel_rfl) (by kernel_rfl) (fun _ _ _ h => h) (Or.inl ⟨by rfl, ?_⟩) (by assumption) ?_
              · intro w hSw; (try dsimp only at hSw); obtain ⟨b0, b1, b2, t4, t5, q0, q1⟩ := HF19.out w hSw; go_simp <;> (intros; omega)
              simp only [Act.put, List.setIfInBounds_toArray, List.set_cons_zero, List.set_cons_succ]
              refine wpAnyH_ready (rs := [26]) (by kernel_rfl) (by simp) ?_
              refine AllReadyH.cons rfl (fun K hK => ?_) AllReadyH.nil
              go_simp
              go_at_call 6; refine HL2.out.mono ?_; rintro ea wA hE; obtain ⟨⟨vA, hvA, hoA⟩, hBA⟩ := hE; obtain ⟨qA, cA, rfl, -⟩ := own_shape hoA; simp only at hvA; subst hvA; have HRA := hide' (rs_ownC hoA); have HGA : Hid (w9.grownBy wA none) := (grown_trans HG9d.out (grown_below hBA none)); have HKn := hide' (knownL_any kk kr q7 qA nK c7 cA kK wA (RsT.idle HR9.out HGA.out).1 HRA.out HNK.out.symm (by rw [← HNK.out]; exact HKl.out)); rw [HNK.out]; clear hoA hBA
              go_wp2_with fail
              refine hK.out _ _ (HGA.out) (fun hHeld => ?_)
              clear hK K
              try simp only [Act.put, List.setIfInBounds_toArray, List.set_cons_zero, List.set_cons_succ]
              refine wpAnyH_ready (rs := [27]) (by kernel_rfl) (by simp) ?_
              refine AllReadyH.cons rfl (fun K hK => ?_) AllReadyH.nil
              go_simp
              go_at_call 8; refine HKn.out.mono ?_; rintro eb wB ⟨rfl, hBB⟩; have HGB : Hid (w9.grownBy wB none) := (grown_trans HGA.out (grown_below hBB none)); clear hBB
              go_wp2_with fail
              refine hK.out _ _ (HGB.out) (fun hHeld => ?_)
              clear hK K
              try simp only [Act.put, List.setIfInBounds_toArray, List.set_cons_zero, List.set_cons_succ]
              refine takeD 28 (some 112) (.bool false) rfl rfl (by kernel_rfl) (by kernel_rfl) (by kernel_rfl) (fun _ _ _ h => h) (Or.inl ⟨by rfl, ?_⟩) (by assumption) ?_
              · intro w hSw; (try dsimp only at hSw); obtain ⟨b0, b1, b2, t4, t5, q0, q1⟩ := HF19.out w hSw; go_simp <;> (intros; omega)
              simp only [Act.put, List.setIfInBounds_toArray, List.set_cons_zero, List.set_cons_succ]
              refine takeD 29 (some 113) (.bool false) rfl rfl (by kernel_rfl) (by kernel_rfl) (by kernel_rfl) (fun _ _ _ h => h) (Or.inl ⟨by rfl, ?_⟩) (by assumption) ?_
              · intro w hSw; (try dsimp only at hSw); obtain ⟨b0, b1, b2, t4, t5, q0, q1⟩ := HF19.out w hSw; go_simp <;> (intros; omega)
              simp only [Act.put, List.setIfInBounds_toArray, List.set_cons_zero, List.set_cons_succ]
              refine takeD 30 (some 114) (.bool false) rfl rfl (by kernel_rfl) (by kernel_rfl) (by kernel_rfl) (fun _ _ _ h => h) (Or.inl ⟨by rfl, ?_⟩) (by assumption) ?_
              · intro w hSw; (try dsimp only at hSw); obtain ⟨b0, b1, b2, t4, t5, q0, q1⟩ := HF19.out w hSw; go_simp <;> (intros; omega)
              simp only [Act.put, List.setIfInBounds_toArray, List.set_cons_zero, List.set_cons_succ]
              refine wpAnyH_done (by kernel_rfl) ?_ _
              clear hHeld
              have HLd : Hid (Lin w wB L M P most T ql n cl Sk Q9 ck (i + 1) TS) := ⟨HLi.out.st.idle HGB.out, HLi.out.len, HLi.out.ck0, HLi.out.ck1, HLi.out.inv, HLi.out.tm, HLi.out.nn⟩
              obtain ⟨-, s5⟩ := HTB.out _ (HT9.out.grown HGB.out (by simp))
              have HSz := hide' (sizeL_any (now := now) HLd.out.st.cac HLd.out.st.em HMo.out.2.2 HLd.out.len)
              go_wp2_with (go_at_call 13; refine HSz.out.mono ?_; rintro es ws ⟨hzs, hBs⟩; obtain ⟨z, rfl, hz⟩ := hzs; have HSs := hide' (HLd.out.st.idle (grown_below hBs none)); have hz0 : ¬ ((z : Int) < 0) := Int.not_lt.2 (Int.natCast_nonneg z); have hz1 : ¬ ((z : Int) > most) := Int.not_lt.2 hz; clear hBs hz)
              go_roundw
              case rel => exact ⟨i + 1, n, cl, ql, T, Sk, Q9, ck, rfl, by go_num, hlt, (by have h := HLd.out.nn; omega), ⟨HSs.out, HLd.out.len, HLd.out.ck0, HLd.out.ck1, HLd.out.inv, HLd.out.tm, HLd.out.nn⟩⟩
              case measure => simp [intOf]; omega
          subst hcz
          have hc0 : ((0 : Int) == 0) = true := rfl
          have HInv : Hid (∀ S9 ck9, ((putC Sk RL rk now ≠ 0 ∧ S9 = Sk ∧ ck9 = ck) ∨ (putC Sk RL rk now = 0 ∧ dsB RL = true ∧ ∃ x l, RL = x :: l ∧ ∃ p c b, ck9 = repC (ageF RL) ck ∧ pushE most now (putS RL x.o x.t now rk ck p c b Sk) S9)) → Linv S9 (T ++ [⟨some ⟨go, oo, none⟩, co, RL, rk, now⟩]) ∧ (S9.length : Int) ≤ most ∧ ck ≤ ck9 ∧ ck9 ≤ ck + 1) := fun S9 ck9 h => by
            rcases h with ⟨h, _⟩ | ⟨_, hd, x', l', hx', p', c', b', hc', hp'⟩
            · exact absurd hcode h
            · have htm := putC_time hcode
              refine ⟨put_inv HIt.out.inv hd hx' htm.1 htm.2 (by rw [HnL.out]; exact hnLb) hp', pushE_len hp', ?_⟩
              rw [hc']; exact repC_le _ _
          have HTm2 := hide' (putC_time hcode)
          go_wp2_with (first
            | (go_at_call 7; refine HPu.out.mono ?_; rintro e9 w9 hP; obtain ⟨hP1, S9, Q9, ck9, hC9, hM9, hF9, hP2⟩ := hP; rw [hcode] at hP1; subst hP1; have HP2 := hide' hP2; have HF9 := hide' hF9; have HS9 := hide' (HS8.out.cache hC9 hM9 hF9); have HT9 : Hid (Bx w9 wo.heap.size #[.int .i64 1, .slice p nL c, .string nm, .int .i64 ty, .int .i64 rk, .int .i64 now] 31) := HT8.out.fk hF9 (HnT.out _); clear hP2 hF9 hC9 hM9; have HW9 : Hid (Bx w9 w5.heap.size #[.int .i64 kk, .int .i64 kr, .slice q7 nK c7] 33) := HW8.out.fk HF9.out (HNT.out _); have HO9 := hide' (HO8.out.fk HF9.out); have HR9 := hide' (HR8.out.fk HF9.out); obtain ⟨u4, u5⟩ := HTB.out w9 HT9.out; obtain ⟨wb, hwb⟩ : ∃ v, w9.alloc (.cells #[.slice (some ⟨go, oo, none⟩) nL co, .int .i64 rk, .int .i64 now] 39) = v := ⟨_, rfl⟩; have HGb : Hid (w9.grownBy wb none) := hwb ▸ World.grownBy_alloc w9 _ none; have HBp : Hid (Bx wb w9.heap.size (ptV ⟨some ⟨go, oo, none⟩, co, RL, rk, now⟩).toArray 39) := (by unfold Hid ptV; simp only; rw [HnL.out]; exact hwb ▸ World.alloc_heap_new w9 _); have HSb := hide' (HS9.out.idle HGb.out); have HOb := hide' (HO9.out.idle HGb.out))
            | (at_builtin; refine wpList_append_put rfl _ _ rfl w.heap.size (.slice ql n cl) n (ptC T) rfl (by exact HSb.out.row) w9.heap.size ⟨some ⟨go, oo, none⟩, co, RL, rk, now⟩ rfl HBp.out (by omega) HSb.out.bel.size ?_; intro vx wx hox hgx; obtain ⟨qx, cx, hvx, -⟩ := own_shape hox; subst hvx; have HSx := hide' (HSb.out.note (HOb.out) hox hgx); have HGx := hide' hgx; clear hox hgx))
          obtain ⟨hinv, hlen9, hck1, hck2⟩ := HInv.out S9 ck9 HP2.out
          have hput : ∀ {R2 : Nat} {cs : Array Value} {T2 : TypeId}, Bx wb R2 cs T2 → T2 ≠ 39 → Bx wx R2 cs T2 := fun hb hT2 => hb.grown HGx.out (fun e => by
            obtain ⟨cur, hc⟩ := put_block HSb.out.row e
            unfold Bx at hb
            rw [hc] at hb
            injection hb with hb
            injection hb with _ hb _
            exact hT2 hb.symm)
          have HTx := hide' (hput (HT9.out.grown HGb.out (by simp)) (by decide))
          have HWx := hide' (hput (HW9.out.grown HGb.out (by simp)) (by decide))
          have HOx : Hid (RsT wx (some ⟨go, oo, none⟩) RL) := HSx.out.pts ⟨some ⟨go, oo, none⟩, co, RL, rk, now⟩ (List.mem_append_right _ (List.mem_singleton.2 rfl))
          have HLx : Hid (Lin w wx L M P most (T ++ [⟨some ⟨go, oo, none⟩, co, RL, rk, now⟩]) qx (n + 1) cx S9 Q9 ck9 (i + 1) TS) := ⟨HSx.out, hlen9, by have := HIt.out.ck0; omega, by have h1 := HIt.out.ck1; have h3 := HCt.out; omega, hinv, fun pt hpt => by
            rcases List.mem_append.1 hpt with h | h
            · exact HIt.out.tm pt h
            · rw [List.mem_singleton.1 h]; exact HTm2.out, Nat.succ_le_succ HIt.out.nn⟩
          clear hinv hlen9 hck1 hck2 hput
          have hcz : (0 : Int) = 0 := rfl
          have HF19 : Hid (∀ V : World, wx.grownBy V none → V.cell? ⟨w5.heap.size, 0, none⟩ = some (.int .i64 kk) ∧ V.cell? ⟨w5.heap.size, 1, none⟩ = some (.int .i64 kr) ∧ V.cell? ⟨w5.heap.size, 2, none⟩ = some (.slice q7 nK c7) ∧ V.cell? ⟨wo.heap.size, 4, none⟩ = some (.int .i64 rk) ∧ V.cell? ⟨wo.heap.size, 5, none⟩ = some (.int .i64 now) ∧ V.cell? ⟨go, oo, none⟩ = some (.string xo) ∧ V.cell? ⟨go, oo + 1, none⟩ = some (.int .i64 xt)) := fun V hV => by
            obtain ⟨b0, b1, b2, -, -, -⟩ := bx3C (HWx.out.grown hV (by simp))
            obtain ⟨t4, t5⟩ := HTB.out V (HTx.out.grown hV (by simp))
            obtain ⟨q0, q1⟩ := HFo.out V (HOx.out.idle hV)
            exact ⟨b0, b1, b2, t4, t5, q0, q1⟩
          obtain ⟨w9d, hw9d⟩ : ∃ v, wx.drew = v := ⟨_, rfl⟩
          have HG9d : Hid (wx.grownBy w9d none) := hw9d ▸ ⟨rfl, rfl, rfl, Nat.le_refl _, fun _ _ _ => rfl⟩
          by_cases hkk : kk = 1
          case neg =>
            as_aux_lemma =>
              have hk1 : (kk == 1) = false := by rw [beq_eq_false_iff_ne]; exact hkk
              clear hkk
              refine wp_region_held_drew (S := fun V => wx.grownBy V none) (by kernel_rfl) ?_ (fun hHeld => ?_)
              · rw [hw9d]; exact HG9d.out
              rw [hw9d] at hHeld ⊢
              refine takeD 0 (some 84) (.pointer (some ⟨w5.heap.size, 0, none⟩)) rfl rfl (by kernel_rfl) (by kernel_rfl) (by kernel_rfl) (fun _ _ _ h => h) (Or.inl ⟨by rfl, ?_⟩) (by assumption) ?_
              · intro w hSw; (try dsimp only at hSw); obtain ⟨b0, b1, b2, t4, t5, q0, q1⟩ := HF19.out w hSw; go_simp <;> (intros; omega)
              simp only [Act.put, List.setIfInBounds_toArray, List.set_cons_zero, List.set_cons_succ]
              refine takeD 1 (some 85) (.int .i64 kk) rfl rfl (by kernel_rfl) (by kernel_rfl) (by kernel_rfl) (fun _ _ _ h => h) (Or.inl ⟨by rfl, ?_⟩) (by assumption) ?_
              · intro w hSw; (try dsimp only at hSw); obtain ⟨b0, b1, b2, t4, t5, q0, q1⟩ := HF19.out w hSw; go_simp <;> (intros; omega)
              simp only [Act.put, List.setIfInBounds_toArray, List.set_cons_zero, List.set_cons_succ]
              refine takeD 2 (some 86) (.bool false) rfl rfl (by kernel_rfl) (by kernel_rfl) (by kernel_rfl) (fun _ _ _ h => h) (Or.inl ⟨by rfl, ?_⟩) (by assumption) ?_
              · intro w hSw; (try dsimp only at hSw); obtain ⟨b0, b1, b2, t4, t5, q0, q1⟩ := HF19.out w hSw; go_simp <;> (intros; omega)
              simp only [Act.put, List.setIfInBounds_toArray, List.set_cons_zero, List.set_cons_succ]
              refine takeD 3 (some 87) (.bool false) rfl rfl (by kernel_rfl) (by kernel_rfl) (by kernel_rfl) (fun _ _ _ h => h) (Or.inl ⟨by rfl, ?_⟩) (by assumption) ?_
              · intro w hSw; (try dsimp only at hSw); obtain ⟨b0, b1, b2, t4, t5, q0, q1⟩ := HF19.out w hSw; go_simp <;> (intros; omega)
              simp only [Act.put, List.setIfInBounds_toArray, List.set_cons_zero, List.set_cons_succ]
              refine takeD 4 (some 88) undef rfl rfl (by kernel_rfl) (by kernel_rfl) (by kernel_rfl) (fun _ _ _ h => h) (Or.inr ⟨by rfl, rfl⟩) (by assumption) ?_
              simp only [Act.put, List.setIfInBounds_toArray, List.set_cons_zero, List.set_cons_succ]
              refine takeD 5 (some 89) undef rfl rfl (by kernel_rfl) (by kernel_rfl) (by kernel_rfl) (fun _ _ _ h => h) (Or.inr ⟨by rfl, rfl⟩) (by assumption) ?_
              simp only [Act.put, List.setIfInBounds_toArray, List.set_cons_zero, List.set_cons_succ]
              refine takeD 6 (some 90) undef rfl rfl (by kernel_rfl) (by kernel_rfl) (by kernel_rfl) (fun _ _ _ h => h) (Or.inr ⟨by rfl, rfl⟩) (by assumption) ?_
              simp only [Act.put, List.setIfInBounds_toArray, List.set_cons_zero, List.set_cons_succ]
              refine takeD 7 (some 91) undef rfl rfl (by kernel_rfl) (by kernel_rfl) (by kernel_rfl) (fun _ _ _ h => h) (Or.inr ⟨by rfl, rfl⟩) (by assumption) ?_
              simp only [Act.put, List.setIfInBounds_toArray, List.set_cons_zero, List.set_cons_succ]
              refine takeD 8 (some 92) undef rfl rfl (by kernel_rfl) (by kernel_rfl) (by kernel_rfl) (fun _ _ _ h => h) (Or.inr ⟨by rfl, rfl⟩) (by assumption) ?_
              simp only [Act.put, List.setIfInBounds_toArray, List.set_cons_zero, List.set_cons_succ]
              refine takeD 9 (some 93) (.bool false) rfl rfl (by kernel_rfl) (by kernel_rfl) (by kernel_rfl) (fun _ _ _ h => h) (Or.inl ⟨by rfl, ?_⟩) (by assumption) ?_
              · intro w hSw; (try dsimp only at hSw); obtain ⟨b0, b1, b2, t4, t5, q0, q1⟩ := HF19.out w hSw; go_simp <;> (intros; omega)
              simp only [Act.put, List.setIfInBounds_toArray, List.set_cons_zero, List.set_cons_succ]
              refine takeD 10 (some 94) (.bool false) rfl rfl (by kernel_rfl) (by kernel_rfl) (by kernel_rfl) (fun _ _ _ h => h) (Or.inl ⟨by rfl, ?_⟩) (by assumption) ?_
              · intro w hSw; (try dsimp only at hSw); obtain ⟨b0, b1, b2, t4, t5, q0, q1⟩ := HF19.out w hSw; go_simp <;> (intros; omega)
              simp only [Act.put, List.setIfInBounds_toArray, List.set_cons_zero, List.set_cons_succ]
              refine takeD 11 (some 95) undef rfl rfl (by kernel_rfl) (by kernel_rfl) (by kernel_rfl) (fun _ _ _ h => h) (Or.inr ⟨by rfl, rfl⟩) (by assumption) ?_
              simp only [Act.put, List.setIfInBounds_toArray, List.set_cons_zero, List.set_cons_succ]
              refine takeD 12 (some 96) undef rfl rfl (by kernel_rfl) (by kernel_rfl) (by kernel_rfl) (fun _ _ _ h => h) (Or.inr ⟨by rfl, rfl⟩) (by assumption) ?_
              simp only [Act.put, List.setIfInBounds_toArray, List.set_cons_zero, List.set_cons_succ]
              refine takeD 13 (some 97) undef rfl rfl (by kernel_rfl) (by kernel_rfl) (by kernel_rfl) (fun _ _ _ h => h) (Or.inr ⟨by rfl, rfl⟩) (by assumption) ?_
              simp only [Act.put, List.setIfInBounds_toArray, List.set_cons_zero, List.set_cons_succ]
              refine takeD 14 (some 98) undef rfl rfl (by kernel_rfl) (by kernel_rfl) (by kernel_rfl) (fun _ _ _ h => h) (Or.inr ⟨by rfl, rfl⟩) (by assumption) ?_
              simp only [Act.put, List.setIfInBounds_toArray, List.set_cons_zero, List.set_cons_succ]
              refine takeD 15 (some 99) undef rfl rfl (by kernel_rfl) (by kernel_rfl) (by kernel_rfl) (fun _ _ _ h => h) (Or.inr ⟨by rfl, rfl⟩) (by assumption) ?_
              simp only [Act.put, List.setIfInBounds_toArray, List.set_cons_zero, List.set_cons_succ]
              refine takeD 16 (some 100) undef rfl rfl (by kernel_rfl) (by kernel_rfl) (by kernel_rfl) (fun _ _ _ h => h) (Or.inr ⟨by rfl, rfl⟩) (by assumption) ?_
              simp only [Act.put, List.setIfInBounds_toArray, List.set_cons_zero, List.set_cons_succ]
              refine takeD 17 (some 101) undef rfl rfl (by kernel_rfl) (by kernel_rfl) (by kernel_rfl) (fun _ _ _ h => h) (Or.inr ⟨by rfl, rfl⟩) (by assumption) ?_
              simp only [Act.put, List.setIfInBounds_toArray, List.set_cons_zero, List.set_cons_succ]
              refine takeD 18 (some 102) undef rfl rfl (by kernel_rfl) (by kernel_rfl) (by kernel_rfl) (fun _ _ _ h => h) (Or.inr ⟨by rfl, rfl⟩) (by assumption) ?_
              simp only [Act.put, List.setIfInBounds_toArray, List.set_cons_zero, List.set_cons_succ]
              refine takeD 19 (some 103) undef rfl rfl (by kernel_rfl) (by kernel_rfl) (by kernel_rfl) (fun _ _ _ h => h) (Or.inr ⟨by rfl, rfl⟩) (by assumption) ?_
              simp only [Act.put, List.setIfInBounds_toArray, List.set_cons_zero, List.set_cons_succ]
              refine takeD 20 (some 104) undef rfl rfl (by kernel_rfl) (by kernel_rfl) (by kernel_rfl) (fun _ _ _ h => h) (Or.inr ⟨by rfl, rfl⟩) (by assumption) ?_
              simp only [Act.put, List.setIfInBounds_toArray, List.set_cons_zero, List.set_cons_succ]
              refine takeD 21 (some 105) undef rfl rfl (by kernel_rfl) (by kernel_rfl) (by kernel_rfl) (fun _ _ _ h => h) (Or.inr ⟨by rfl, rfl⟩) (by assumption) ?_
              simp only [Act.put, List.setIfInBounds_toArray, List.set_cons_zero, List.set_cons_succ]
              refine takeD 22 (some 106) undef rfl rfl (by kernel_rfl) (by kernel_rfl) (by kernel_rfl) (fun _ _ _ h => h) (Or.inr ⟨by rfl, rfl⟩) (by assumption) ?_
              simp only [Act.put, List.setIfInBounds_toArray, List.set_cons_zero, List.set_cons_succ]
              refine takeD 23 (some 107) undef rfl rfl (by kernel_rfl) (by kernel_rfl) (by kernel_rfl) (fun _ _ _ h => h) (Or.inr ⟨by rfl, rfl⟩) (by assumption) ?_
              simp only [Act.put, List.setIfInBounds_toArray, List.set_cons_zero, List.set_cons_succ]
              refine takeD 24 (some 108) undef rfl rfl (by kernel_rfl) (by kernel_rfl) (by kernel_rfl) (fun _ _ _ h => h) (Or.inr ⟨by rfl, rfl⟩) (by assumption) ?_
              simp only [Act.put, List.setIfInBounds_toArray, List.set_cons_zero, List.set_cons_succ]
              refine takeD 25 (some 109) undef rfl rfl (by kernel_rfl) (by kernel_rfl) (by kernel_rfl) (fun _ _ _ h => h) (Or.inr ⟨by rfl, rfl⟩) (by assumption) ?_
              simp only [Act.put, List.setIfInBounds_toArray, List.set_cons_zero, List.set_cons_succ]
              refine takeD 26 (some 110) undef rfl rfl (by kernel_rfl) (by kernel_rfl) (by kernel_rfl) (fun _ _ _ h => h) (Or.inr ⟨by rfl, rfl⟩) (by assumption) ?_
              simp only [Act.put, List.setIfInBounds_toArray, List.set_cons_zero, List.set_cons_succ]
              refine takeD 27 (some 111) undef rfl rfl (by kernel_rfl) (by kernel_rfl) (by kernel_rfl) (fun _ _ _ h => h) (Or.inr ⟨by rfl, rfl⟩) (by assumption) ?_
              simp only [Act.put, List.setIfInBounds_toArray, List.set_cons_zero, List.set_cons_succ]
              refine takeD 28 (some 112) undef rfl rfl (by kernel_rfl) (by kernel_rfl) (by kernel_rfl) (fun _ _ _ h => h) (Or.inr ⟨by rfl, rfl⟩) (by assumption) ?_
              simp only [Act.put, List.setIfInBounds_toArray, List.set_cons_zero, List.set_cons_succ]
              refine takeD 29 (some 113) undef rfl rfl (by kernel_rfl) (by kernel_rfl) (by kernel_rfl) (fun _ _ _ h => h) (Or.inr ⟨by rfl, rfl⟩) (by assumption) ?_
              simp only [Act.put, List.setIfInBounds_toArray, List.set_cons_zero, List.set_cons_succ]
              refine takeD 30 (some 114) (.bool false) rfl rfl (by kernel_rfl) (by kernel_rfl) (by kernel_rfl) (fun _ _ _ h => h) (Or.inl ⟨by rfl, ?_⟩) (by assumption) ?_
              · intro w hSw; (try dsimp only at hSw); obtain ⟨b0, b1, b2, t4, t5, q0, q1⟩ := HF19.out w hSw; go_simp <;> (intros; omega)
              simp only [Act.put, List.setIfInBounds_toArray, List.set_cons_zero, List.set_cons_succ]
              refine wpAnyH_done (by kernel_rfl) ?_ _
              clear hHeld
              have HLd : Hid (Lin w w9d L M P most (T ++ [⟨some ⟨go, oo, none⟩, co, RL, rk, now⟩]) qx (n + 1) cx S9 Q9 ck9 (i + 1) TS) := ⟨HLx.out.st.idle HG9d.out, HLx.out.len, HLx.out.ck0, HLx.out.ck1, HLx.out.inv, HLx.out.tm, HLx.out.nn⟩
              obtain ⟨-, s5⟩ := HTB.out _ (HTx.out.grown HG9d.out (by simp))
              have HSz := hide' (sizeL_any (now := now) HLd.out.st.cac HLd.out.st.em HMo.out.2.2 HLd.out.len)
              go_wp2_with (go_at_call 13; refine HSz.out.mono ?_; rintro es ws ⟨hzs, hBs⟩; obtain ⟨z, rfl, hz⟩ := hzs; have HSs := hide' (HLd.out.st.idle (grown_below hBs none)); have hz0 : ¬ ((z : Int) < 0) := Int.not_lt.2 (Int.natCast_nonneg z); have hz1 : ¬ ((z : Int) > most) := Int.not_lt.2 hz; clear hBs hz)
              go_roundw
              case rel => exact ⟨i + 1, (n + 1), cx, qx, (T ++ [⟨some ⟨go, oo, none⟩, co, RL, rk, now⟩]), S9, Q9, ck9, rfl, by go_num, hlt, (by have h := HLd.out.nn; omega), ⟨HSs.out, HLd.out.len, HLd.out.ck0, HLd.out.ck1, HLd.out.inv, HLd.out.tm, HLd.out.nn⟩⟩
              case measure => simp [intOf]; omega
          have hk1 : (kk == 1) = true := by rw [hkk]; rfl
          by_cases hgt : kr > rk
          case neg =>
            as_aux_lemma =>
              have hgt2 : ¬ rk < kr := hgt
              refine wp_region_held_drew (S := fun V => wx.grownBy V none) (by kernel_rfl) ?_ (fun hHeld => ?_)
              · rw [hw9d]; exact HG9d.out
              rw [hw9d] at hHeld ⊢
              refine takeD 0 (some 84) (.pointer (some ⟨w5.heap.size, 0, none⟩)) rfl rfl (by kernel_rfl) (by kernel_rfl) (by kernel_rfl) (fun _ _ _ h => h) (Or.inl ⟨by rfl, ?_⟩) (by assumption) ?_
              · intro w hSw; (try dsimp only at hSw); obtain ⟨b0, b1, b2, t4, t5, q0, q1⟩ := HF19.out w hSw; go_simp <;> (intros; omega)
              simp only [Act.put, List.setIfInBounds_toArray, List.set_cons_zero, List.set_cons_succ]
              refine takeD 1 (some 85) (.int .i64 kk) rfl rfl (by kernel_rfl) (by kernel_rfl) (by kernel_rfl) (fun _ _ _ h => h) (Or.inl ⟨by rfl, ?_⟩) (by assumption) ?_
              · intro w hSw; (try dsimp only at hSw); obtain ⟨b0, b1, b2, t4, t5, q0, q1⟩ := HF19.out w hSw; go_simp <;> (intros; omega)
              simp only [Act.put, List.setIfInBounds_toArray, List.set_cons_zero, List.set_cons_succ]
              refine takeD 2 (some 86) (.bool true) rfl rfl (by kernel_rfl) (by kernel_rfl) (by kernel_rfl) (fun _ _ _ h => h) (Or.inl ⟨by rfl, ?_⟩) (by assumption) ?_
              · intro w hSw; (try dsimp only at hSw); obtain ⟨b0, b1, b2, t4, t5, q0, q1⟩ := HF19.out w hSw; go_simp <;> (intros; omega)
              simp only [Act.put, List.setIfInBounds_toArray, List.set_cons_zero, List.set_cons_succ]
              refine takeD 3 (some 87) (.bool true) rfl rfl (by kernel_rfl) (by kernel_rfl) (by kernel_rfl) (fun _ _ _ h => h) (Or.inl ⟨by rfl, ?_⟩) (by assumption) ?_
              · intro w hSw; (try dsimp only at hSw); obtain ⟨b0, b1, b2, t4, t5, q0, q1⟩ := HF19.out w hSw; go_simp <;> (intros; omega)
              simp only [Act.put, List.setIfInBounds_toArray, List.set_cons_zero, List.set_cons_succ]
              refine takeD 4 (some 88) (.pointer (some ⟨w5.heap.size, 1, none⟩)) rfl rfl (by kernel_rfl) (by kernel_rfl) (by kernel_rfl) (fun _ _ _ h => h) (Or.inl ⟨by rfl, ?_⟩) (by assumption) ?_
              · intro w hSw; (try dsimp only at hSw); obtain ⟨b0, b1, b2, t4, t5, q0, q1⟩ := HF19.out w hSw; go_simp <;> (intros; omega)
              simp only [Act.put, List.setIfInBounds_toArray, List.set_cons_zero, List.set_cons_succ]
              refine takeD 5 (some 89) (.int .i64 kr) rfl rfl (by kernel_rfl) (by kernel_rfl) (by kernel_rfl) (fun _ _ _ h => h) (Or.inl ⟨by rfl, ?_⟩) (by assumption) ?_
              · intro w hSw; (try dsimp only at hSw); obtain ⟨b0, b1, b2, t4, t5, q0, q1⟩ := HF19.out w hSw; go_simp <;> (intros; omega)
              simp only [Act.put, List.setIfInBounds_toArray, List.set_cons_zero, List.set_cons_succ]
              refine takeD 6 (some 90) (.pointer (some ⟨wo.heap.size, 4, none⟩)) rfl rfl (by kernel_rfl) (by kernel_rfl) (by kernel_rfl) (fun _ _ _ h => h) (Or.inl ⟨by rfl, ?_⟩) (by assumption) ?_
              · intro w hSw; (try dsimp only at hSw); obtain ⟨b0, b1, b2, t4, t5, q0, q1⟩ := HF19.out w hSw; go_simp <;> (intros; omega)
              simp only [Act.put, List.setIfInBounds_toArray, List.set_cons_zero, List.set_cons_succ]
              refine takeD 7 (some 91) (.int .i64 rk) rfl rfl (by kernel_rfl) (by kernel_rfl) (by kernel_rfl) (fun _ _ _ h => h) (Or.inl ⟨by rfl, ?_⟩) (by assumption) ?_
              · intro w hSw; (try dsimp only at hSw); obtain ⟨b0, b1, b2, t4, t5, q0, q1⟩ := HF19.out w hSw; go_simp <;> (intros; omega)
              simp only [Act.put, List.setIfInBounds_toArray, List.set_cons_zero, List.set_cons_succ]
              refine takeD 8 (some 92) (.bool false) rfl rfl (by kernel_rfl) (by kernel_rfl) (by kernel_rfl) (fun _ _ _ h => h) (Or.inl ⟨by rfl, ?_⟩) (by assumption) ?_
              · intro w hSw; (try dsimp only at hSw); obtain ⟨b0, b1, b2, t4, t5, q0, q1⟩ := HF19.out w hSw; go_simp <;> (intros; omega)
              simp only [Act.put, List.setIfInBounds_toArray, List.set_cons_zero, List.set_cons_succ]
              refine takeD 9 (some 93) (.bool false) rfl rfl (by kernel_rfl) (by kernel_rfl) (by kernel_rfl) (fun _ _ _ h => h) (Or.inl ⟨by rfl, ?_⟩) (by assumption) ?_
              · intro w hSw; (try dsimp only at hSw); obtain ⟨b0, b1, b2, t4, t5, q0, q1⟩ := HF19.out w hSw; go_simp <;> (intros; omega)
              simp only [Act.put, List.setIfInBounds_toArray, List.set_cons_zero, List.set_cons_succ]
              refine takeD 10 (some 94) (.bool false) rfl rfl (by kernel_rfl) (by kernel_rfl) (by kernel_rfl) (fun _ _ _ h => h) (Or.inl ⟨by rfl, ?_⟩) (by assumption) ?_
              · intro w hSw; (try dsimp only at hSw); obtain ⟨b0, b1, b2, t4, t5, q0, q1⟩ := HF19.out w hSw; go_simp <;> (intros; omega)
              simp only [Act.put, List.setIfInBounds_toArray, List.set_cons_zero, List.set_cons_succ]
              refine takeD 11 (some 95) undef rfl rfl (by kernel_rfl) (by kernel_rfl) (by kernel_rfl) (fun _ _ _ h => h) (Or.inr ⟨by rfl, rfl⟩) (by assumption) ?_
              simp only [Act.put, List.setIfInBounds_toArray, List.set_cons_zero, List.set_cons_succ]
              refine takeD 12 (some 96) undef rfl rfl (by kernel_rfl) (by kernel_rfl) (by kernel_rfl) (fun _ _ _ h => h) (Or.inr ⟨by rfl, rfl⟩) (by assumption) ?_
              simp only [Act.put, List.setIfInBounds_toArray, List.set_cons_zero, List.set_cons_succ]
              refine takeD 13 (some 97) undef rfl rfl (by kernel_rfl) (by kernel_rfl) (by kernel_rfl) (fun _ _ _ h => h) (Or.inr ⟨by rfl, rfl⟩) (by assumption) ?_
              simp only [Act.put, List.setIfInBounds_toArray, List.set_cons_zero, List.set_cons_succ]
              refine takeD 14 (some 98) undef rfl rfl (by kernel_rfl) (by kernel_rfl) (by kernel_rfl) (fun _ _ _ h => h) (Or.inr ⟨by rfl, rfl⟩) (by assumption) ?_
              simp only [Act.put, List.setIfInBounds_toArray, List.set_cons_zero, List.set_cons_succ]
              refine takeD 15 (some 99) undef rfl rfl (by kernel_rfl) (by kernel_rfl) (by kernel_rfl) (fun _ _ _ h => h) (Or.inr ⟨by rfl, rfl⟩) (by assumption) ?_
              simp only [Act.put, List.setIfInBounds_toArray, List.set_cons_zero, List.set_cons_succ]
              refine takeD 16 (some 100) undef rfl rfl (by kernel_rfl) (by kernel_rfl) (by kernel_rfl) (fun _ _ _ h => h) (Or.inr ⟨by rfl, rfl⟩) (by assumption) ?_
              simp only [Act.put, List.setIfInBounds_toArray, List.set_cons_zero, List.set_cons_succ]
              refine takeD 17 (some 101) undef rfl rfl (by kernel_rfl) (by kernel_rfl) (by kernel_rfl) (fun _ _ _ h => h) (Or.inr ⟨by rfl, rfl⟩) (by assumption) ?_
              simp only [Act.put, List.setIfInBounds_toArray, List.set_cons_zero, List.set_cons_succ]
              refine takeD 18 (some 102) undef rfl rfl (by kernel_rfl) (by kernel_rfl) (by kernel_rfl) (fun _ _ _ h => h) (Or.inr ⟨by rfl, rfl⟩) (by assumption) ?_
              simp only [Act.put, List.setIfInBounds_toArray, List.set_cons_zero, List.set_cons_succ]
              refine takeD 19 (some 103) undef rfl rfl (by kernel_rfl) (by kernel_rfl) (by kernel_rfl) (fun _ _ _ h => h) (Or.inr ⟨by rfl, rfl⟩) (by assumption) ?_
              simp only [Act.put, List.setIfInBounds_toArray, List.set_cons_zero, List.set_cons_succ]
              refine takeD 20 (some 104) undef rfl rfl (by kernel_rfl) (by kernel_rfl) (by kernel_rfl) (fun _ _ _ h => h) (Or.inr ⟨by rfl, rfl⟩) (by assumption) ?_
              simp only [Act.put, List.setIfInBounds_toArray, List.set_cons_zero, List.set_cons_succ]
              refine takeD 21 (some 105) undef rfl rfl (by kernel_rfl) (by kernel_rfl) (by kernel_rfl) (fun _ _ _ h => h) (Or.inr ⟨by rfl, rfl⟩) (by assumption) ?_
              simp only [Act.put, List.setIfInBounds_toArray, List.set_cons_zero, List.set_cons_succ]
              refine takeD 22 (some 106) undef rfl rfl (by kernel_rfl) (by kernel_rfl) (by kernel_rfl) (fun _ _ _ h => h) (Or.inr ⟨by rfl, rfl⟩) (by assumption) ?_
              simp only [Act.put, List.setIfInBounds_toArray, List.set_cons_zero, List.set_cons_succ]
              refine takeD 23 (some 107) undef rfl rfl (by kernel_rfl) (by kernel_rfl) (by kernel_rfl) (fun _ _ _ h => h) (Or.inr ⟨by rfl, rfl⟩) (by assumption) ?_
              simp only [Act.put, List.setIfInBounds_toArray, List.set_cons_zero, List.set_cons_succ]
              refine takeD 24 (some 108) undef rfl rfl (by kernel_rfl) (by kernel_rfl) (by kernel_rfl) (fun _ _ _ h => h) (Or.inr ⟨by rfl, rfl⟩) (by assumption) ?_
              simp only [Act.put, List.setIfInBounds_toArray, List.set_cons_zero, List.set_cons_succ]
              refine takeD 25 (some 109) undef rfl rfl (by kernel_rfl) (by kernel_rfl) (by kernel_rfl) (fun _ _ _ h => h) (Or.inr ⟨by rfl, rfl⟩) (by assumption) ?_
              simp only [Act.put, List.setIfInBounds_toArray, List.set_cons_zero, List.set_cons_succ]
              refine takeD 26 (some 110) undef rfl rfl (by kernel_rfl) (by kernel_rfl) (by kernel_rfl) (fun _ _ _ h => h) (Or.inr ⟨by rfl, rfl⟩) (by assumption) ?_
              simp only [Act.put, List.setIfInBounds_toArray, List.set_cons_zero, List.set_cons_succ]
              refine takeD 27 (some 111) undef rfl rfl (by kernel_rfl) (by kernel_rfl) (by kernel_rfl) (fun _ _ _ h => h) (Or.inr ⟨by rfl, rfl⟩) (by assumption) ?_
              simp only [Act.put, List.setIfInBounds_toArray, List.set_cons_zero, List.set_cons_succ]
              refine takeD 28 (some 112) undef rfl rfl (by kernel_rfl) (by kernel_rfl) (by kernel_rfl) (fun _ _ _ h => h) (Or.inr ⟨by rfl, rfl⟩) (by assumption) ?_
              simp only [Act.put, List.setIfInBounds_toArray, List.set_cons_zero, List.set_cons_succ]
              refine takeD 29 (some 113) undef rfl rfl (by kernel_rfl) (by kernel_rfl) (by kernel_rfl) (fun _ _ _ h => h) (Or.inr ⟨by rfl, rfl⟩) (by assumption) ?_
              simp only [Act.put, List.setIfInBounds_toArray, List.set_cons_zero, List.set_cons_succ]
              refine takeD 30 (some 114) (.bool false) rfl rfl (by kernel_rfl) (by kernel_rfl) (by kernel_rfl) (fun _ _ _ h => h) (Or.inl ⟨by rfl, ?_⟩) (by assumption) ?_
              · intro w hSw; (try dsimp only at hSw); obtain ⟨b0, b1, b2, t4, t5, q0, q1⟩ := HF19.out w hSw; go_simp <;> (intros; omega)
              simp only [Act.put, List.setIfInBounds_toArray, List.set_cons_zero, List.set_cons_succ]
              refine wpAnyH_done (by kernel_rfl) ?_ _
              clear hHeld
              have HLd : Hid (Lin w w9d L M P most (T ++ [⟨some ⟨go, oo, none⟩, co, RL, rk, now⟩]) qx (n + 1) cx S9 Q9 ck9 (i + 1) TS) := ⟨HLx.out.st.idle HG9d.out, HLx.out.len, HLx.out.ck0, HLx.out.ck1, HLx.out.inv, HLx.out.tm, HLx.out.nn⟩
              obtain ⟨-, s5⟩ := HTB.out _ (HTx.out.grown HG9d.out (by simp))
              have HSz := hide' (sizeL_any (now := now) HLd.out.st.cac HLd.out.st.em HMo.out.2.2 HLd.out.len)
              go_wp2_with (go_at_call 13; refine HSz.out.mono ?_; rintro es ws ⟨hzs, hBs⟩; obtain ⟨z, rfl, hz⟩ := hzs; have HSs := hide' (HLd.out.st.idle (grown_below hBs none)); have hz0 : ¬ ((z : Int) < 0) := Int.not_lt.2 (Int.natCast_nonneg z); have hz1 : ¬ ((z : Int) > most) := Int.not_lt.2 hz; clear hBs hz)
              go_roundw
              case rel => exact ⟨i + 1, (n + 1), cx, qx, (T ++ [⟨some ⟨go, oo, none⟩, co, RL, rk, now⟩]), S9, Q9, ck9, rfl, by go_num, hlt, (by have h := HLd.out.nn; omega), ⟨HSs.out, HLd.out.len, HLd.out.ck0, HLd.out.ck1, HLd.out.inv, HLd.out.tm, HLd.out.nn⟩⟩
              case measure => simp [intOf]; omega
          exact absurd hcz (HKo.out hkk hgt)
      have b1 : (KD == 1) = false := by rw [beq_eq_false_iff_ne]; exact hk1
      clear hk1
      by_cases hk2 : KD = 2
      case pos =>
        as_aux_lemma =>
          subst hk2
          have b2 : ((2 : Int) == 2) = true := rfl
          obtain ⟨fr, hfr⟩ : ∃ r, RL.headD zRc = r := ⟨_, rfl⟩
          have hfz : fr.o.size ≤ 1048576 ∧ fr.d.size ≤ 1048576 := by
            rw [← hfr]
            cases RL with
            | nil => exact ⟨Nat.zero_le _, Nat.zero_le _⟩
            | cons x l => exact HZt.out.2.2.2 x List.mem_cons_self
          obtain ⟨fo, ft, fc, fl, fd⟩ := fr
          simp only at hfz
          obtain ⟨wtd, hwtd⟩ : ∃ v, wt.drew = v := ⟨_, rfl⟩
          have HGd : Hid (wt.grownBy wtd none) := hwtd ▸ ⟨rfl, rfl, rfl, Nat.le_refl _, fun _ _ _ => rfl⟩
          have HFi : Hid (Calls Tryz.prog 10 #[.slice p nL c] wtd fun e w' => e = .returned (.agg #[.string fo, .int .i64 ft, .int .i64 fc, .int .i64 fl, .string fd]) ∧ Below wtd.heap.size wtd w') := by
            have h := firstL_any p c RL wtd (rs_bel HRt.out (below_grownC HGd.out))
            rw [HnL.out, hfr] at h
            exact h
          have HDe : Hid (∀ V, Lst w V L M P most T ql n cl Sk Qk ck → Calls Tryz.prog 9 #[.pointer (some ⟨L, 0, none⟩), .string nm, .int .i64 ty, .agg #[.string fo, .int .i64 ft, .int .i64 fc, .int .i64 fl, .string fd], .int .i64 now] V (denyE V L M P w.heap.size most ck Sk nm ty ⟨fo, ft, fc, fl, fd⟩ now)) := fun V hV =>
            deny_any hV.cac hV.em HMo.out.2.2 (by have := HMo.out.1; omega) HSl.out HCb.out.1 (by have := HCb.out.2; omega) nm fo fd ty ft fc fl now (by have := HZt.out.1; unfold maxLen; omega) (by have := hfz.1; unfold maxLen; omega) (by have := hfz.2; omega)
          have HInv : Hid (∀ S9 ck9, (((denyC nm ty ⟨fo, ft, fc, fl, fd⟩ now ≠ 0 ∨ denyA ⟨fo, ft, fc, fl, fd⟩ = 0) ∧ S9 = Sk ∧ ck9 = ck) ∨ (denyC nm ty ⟨fo, ft, fc, fl, fd⟩ now = 0 ∧ denyA ⟨fo, ft, fc, fl, fd⟩ ≠ 0 ∧ ck9 = ck + 1 ∧ ∃ b, pushE most now (denyS nm ty now ck ⟨fo, ft, fc, fl, fd⟩ b Sk) S9)) → Linv S9 T ∧ (S9.length : Int) ≤ most ∧ ck ≤ ck9 ∧ ck9 ≤ ck + 1) := fun S9 ck9 h => by
            rcases h with ⟨_, rfl, rfl⟩ | ⟨hd, _, hc, b, hp⟩
            · exact ⟨HIt.out.inv, HIt.out.len, Int.le_refl _, by omega⟩
            · have h3 := denyA_nn hd
              exact ⟨deny_inv HIt.out.inv h3.2.1 h3.2.2 h3.1 hp, pushE_len hp, by omega, by omega⟩
          obtain ⟨code, hcode⟩ : ∃ v, denyC nm ty ⟨fo, ft, fc, fl, fd⟩ now = v := ⟨_, rfl⟩
          clear hfr hfz
          go_wp2_with fail
          refine wp_region_held_drew (S := fun V => Bx V wo.heap.size #[.int .i64 2, .slice p nL c, .string nm, .int .i64 ty, .int .i64 rk, .int .i64 now] 31) (by kernel_rfl) ?_ (fun hHeld => ?_)
          · rw [hwtd]; exact HBt.out.grown HGd.out (by simp)
          rw [hwtd] at hHeld ⊢
          refine takeD 0 (some 117) (.pointer (some ⟨L, 0, none⟩)) rfl rfl (by kernel_rfl) (by kernel_rfl) (by kernel_rfl) (fun _ _ _ h => h) (Or.inl ⟨by rfl, ?_⟩) (by assumption) ?_
          · intro w hSw; (try dsimp only at hSw); obtain ⟨y1, y2, y3, y5⟩ := HTC.out w hSw; go_simp <;> (intros; omega)
          simp only [Act.put, List.setIfInBounds_toArray, List.set_cons_zero, List.set_cons_succ]
          refine takeD 1 (some 118) (.pointer (some ⟨wo.heap.size, 2, none⟩)) rfl rfl (by kernel_rfl) (by kernel_rfl) (by kernel_rfl) (fun _ _ _ h => h) (Or.inl ⟨by rfl, ?_⟩) (by assumption) ?_
          · intro w hSw; (try dsimp only at hSw); obtain ⟨y1, y2, y3, y5⟩ := HTC.out w hSw; go_simp <;> (intros; omega)
          simp only [Act.put, List.setIfInBounds_toArray, List.set_cons_zero, List.set_cons_succ]
          refine takeD 2 (some 119) (.string nm) rfl rfl (by kernel_rfl) (by kernel_rfl) (by kernel_rfl) (fun _ _ _ h => h) (Or.inl ⟨by rfl, ?_⟩) (by assumption) ?_
          · intro w hSw; (try dsimp only at hSw); obtain ⟨y1, y2, y3, y5⟩ := HTC.out w hSw; go_simp <;> (intros; omega)
          simp only [Act.put, List.setIfInBounds_toArray, List.set_cons_zero, List.set_cons_succ]
          refine takeD 3 (some 120) (.pointer (some ⟨wo.heap.size, 3, none⟩)) rfl rfl (by kernel_rfl) (by kernel_rfl) (by kernel_rfl) (fun _ _ _ h => h) (Or.inl ⟨by rfl, ?_⟩) (by assumption) ?_
          · intro w hSw; (try dsimp only at hSw); obtain ⟨y1, y2, y3, y5⟩ := HTC.out w hSw; go_simp <;> (intros; omega)
          simp only [Act.put, List.setIfInBounds_toArray, List.set_cons_zero, List.set_cons_succ]
          refine takeD 4 (some 121) (.int .i64 ty) rfl rfl (by kernel_rfl) (by kernel_rfl) (by kernel_rfl) (fun _ _ _ h => h) (Or.inl ⟨by rfl, ?_⟩) (by assumption) ?_
          · intro w hSw; (try dsimp only at hSw); obtain ⟨y1, y2, y3, y5⟩ := HTC.out w hSw; go_simp <;> (intros; omega)
          simp only [Act.put, List.setIfInBounds_toArray, List.set_cons_zero, List.set_cons_succ]
          refine takeD 5 (some 122) (.pointer (some ⟨wo.heap.size, 1, none⟩)) rfl rfl (by kernel_rfl) (by kernel_rfl) (by kernel_rfl) (fun _ _ _ h => h) (Or.inl ⟨by rfl, ?_⟩) (by assumption) ?_
          · intro w hSw; (try dsimp only at hSw); obtain ⟨y1, y2, y3, y5⟩ := HTC.out w hSw; go_simp <;> (intros; omega)
          simp only [Act.put, List.setIfInBounds_toArray, List.set_cons_zero, List.set_cons_succ]
          refine takeD 6 (some 123) (.slice p nL c) rfl rfl (by kernel_rfl) (by kernel_rfl) (by kernel_rfl) (fun _ _ _ h => h) (Or.inl ⟨by rfl, ?_⟩) (by assumption) ?_
          · intro w hSw; (try dsimp only at hSw); obtain ⟨y1, y2, y3, y5⟩ := HTC.out w hSw; go_simp <;> (intros; omega)
          simp only [Act.put, List.setIfInBounds_toArray, List.set_cons_zero, List.set_cons_succ]
          refine takeD 8 (some 125) (.pointer (some ⟨wo.heap.size, 5, none⟩)) rfl rfl (by kernel_rfl) (by kernel_rfl) (by kernel_rfl) (fun _ _ _ h => h) (Or.inl ⟨by rfl, ?_⟩) (by assumption) ?_
          · intro w hSw; (try dsimp only at hSw); obtain ⟨y1, y2, y3, y5⟩ := HTC.out w hSw; go_simp <;> (intros; omega)
          simp only [Act.put, List.setIfInBounds_toArray, List.set_cons_zero, List.set_cons_succ]
          refine takeD 9 (some 126) (.int .i64 now) rfl rfl (by kernel_rfl) (by kernel_rfl) (by kernel_rfl) (fun _ _ _ h => h) (Or.inl ⟨by rfl, ?_⟩) (by assumption) ?_
          · intro w hSw; (try dsimp only at hSw); obtain ⟨y1, y2, y3, y5⟩ := HTC.out w hSw; go_simp <;> (intros; omega)
          simp only [Act.put, List.setIfInBounds_toArray, List.set_cons_zero, List.set_cons_succ]
          refine wpAnyH_ready (rs := [7]) (by kernel_rfl) (by simp) ?_
          refine AllReadyH.cons rfl (fun K hK => ?_) AllReadyH.nil
          go_simp
          go_at_call 10; refine HFi.out.mono ?_; rintro e7 w7 ⟨rfl, hB7⟩; have HG7 : Hid (wt.grownBy w7 none) := (grown_trans HGd.out (grown_below hB7 none)); clear hB7
          go_wp2_with fail
          refine hK.out _ _ (HBt.out.grown HG7.out (by simp)) (fun hHeld => ?_)
          clear hK K
          try simp only [Act.put, List.setIfInBounds_toArray, List.set_cons_zero, List.set_cons_succ]
          have HDe7 := hide' (HDe.out w7 (HIt.out.st.idle HG7.out))
          have HT7 := hide' (HBt.out.grown HG7.out (by simp))
          refine wpAnyH_ready (rs := [10]) (by kernel_rfl) (by simp) ?_
          refine AllReadyH.cons rfl (fun K hK => ?_) AllReadyH.nil
          go_simp
          go_at_call 9; refine HDe7.out.mono ?_; rintro e9 w9 hP; obtain ⟨hP1, S9, Q9, ck9, hC9, hM9, hF9, hP2⟩ := hP; rw [hcode] at hP1; subst hP1; have HS9 := hide' ((HIt.out.st.idle HG7.out).cache hC9 hM9 hF9); have HT9 : Hid (Bx w9 wo.heap.size #[.int .i64 2, .slice p nL c, .string nm, .int .i64 ty, .int .i64 rk, .int .i64 now] 31) := HT7.out.fk hF9 (HnT.out _); have HLd : Hid (Lin w w9 L M P most T ql n cl S9 Q9 ck9 (i + 1) TS) := (by obtain ⟨hinv, hlen9, hck1, hck2⟩ := HInv.out S9 ck9 hP2; exact ⟨HS9.out, hlen9, (by have := HIt.out.ck0; omega), (by have h1 := HIt.out.ck1; have h3 := HCt.out; omega), hinv, HIt.out.tm, Nat.le_succ_of_le HIt.out.nn⟩); clear hP2 hF9 hC9 hM9
          go_wp2_with fail
          refine hK.out _ _ (HT9.out) (fun hHeld => ?_)
          clear hK K
          try simp only [Act.put, List.setIfInBounds_toArray, List.set_cons_zero, List.set_cons_succ]
          refine wpAnyH_done (by kernel_rfl) ?_ _
          clear hHeld
          obtain ⟨-, s5⟩ := HTB.out _ HT9.out
          have HSz := hide' (sizeL_any (now := now) HLd.out.st.cac HLd.out.st.em HMo.out.2.2 HLd.out.len)
          go_wp2_with (go_at_call 13; refine HSz.out.mono ?_; rintro es ws ⟨hzs, hBs⟩; obtain ⟨z, rfl, hz⟩ := hzs; have HSs := hide' (HLd.out.st.idle (grown_below hBs none)); have hz0 : ¬ ((z : Int) < 0) := Int.not_lt.2 (Int.natCast_nonneg z); have hz1 : ¬ ((z : Int) > most) := Int.not_lt.2 hz; clear hBs hz)
          go_roundw
          case rel => exact ⟨i + 1, n, cl, ql, T, S9, Q9, ck9, rfl, by go_num, hlt, (by have h := HLd.out.nn; omega), ⟨HSs.out, HLd.out.len, HLd.out.ck0, HLd.out.ck1, HLd.out.inv, HLd.out.tm, HLd.out.nn⟩⟩
          case measure => simp [intOf]; omega
      have b2 : (KD == 2) = false := by rw [beq_eq_false_iff_ne]; exact hk2
      clear hk2
      by_cases hk3 : KD = 3
      case pos =>
        as_aux_lemma =>
          subst hk3
          have b3 : ((3 : Int) == 3) = true := rfl
          have HPr : Hid (Calls Tryz.prog 11 #[.pointer (some ⟨L, 0, none⟩), .string nm, .slice p nL c, .int .i64 now] wt (proveE wt L M P w.heap.size most ck Sk nm RL now)) := by
            have h := prove_any HIt.out.st.cac HIt.out.st.em HMo.out.2.2 (by have := HMo.out.1; omega) HMo.out.2.1 HIt.out.len HCb.out.1 (by have := HCb.out.2; omega) nm RL p c now (by have := HZt.out.1; unfold maxLen; omega) (by rw [HnL.out]; exact hnLb) (fun V hV => HLow.out V ((Fk.idle HGt.out).trans hV)) (fun r hr => by
              have := HZt.out.2.2.2 r hr
              exact ⟨this.1, by omega⟩)
            rw [HnL.out] at h
            exact h
          have HInv : Hid (∀ S9 ck9, ((proveC nm now ≠ 0 ∧ S9 = Sk ∧ ck9 = ck) ∨ (proveC nm now = 0 ∧ prv most now nm RL Sk ck RL.length S9 ck9)) → Linv S9 T ∧ (S9.length : Int) ≤ most ∧ ck ≤ ck9 ∧ ck9 ≤ ck + nL) := fun S9 ck9 h => by
            rcases h with ⟨_, rfl, rfl⟩ | ⟨hd, hp⟩
            · exact ⟨HIt.out.inv, HIt.out.len, Int.le_refl _, by omega⟩
            · have h3 := proveC_time hd
              have h4 := prv_came _ _ _ hp
              rw [HnL.out] at h4
              exact ⟨prove_inv HIt.out.inv h3.1 h3.2 (fun r hr => by
                have := HZt.out.2.2.2 r hr
                exact ⟨this.1, by omega⟩) _ _ _ hp, prv_len HIt.out.len _ _ _ hp, h4.1, h4.2⟩
          obtain ⟨code, hcode⟩ : ∃ v, proveC nm now = v := ⟨_, rfl⟩
          go_wp2_with (first
            | (go_at_call 11; go_loud (refine HPr.out.mono ?_; rintro e9 w9 hP; obtain ⟨hP1, S9, Q9, ck9, hC9, hM9, hF9, hP2⟩ := hP; rw [hcode] at hP1; subst hP1; have HS9 := hide' (HIt.out.st.cache hC9 hM9 hF9); have HT9 : Hid (Bx w9 wo.heap.size #[.int .i64 3, .slice p nL c, .string nm, .int .i64 ty, .int .i64 rk, .int .i64 now] 31) := HBt.out.fk hF9 (HnT.out _); have HLd : Hid (Lin w w9 L M P most T ql n cl S9 Q9 ck9 (i + 1) TS) := (by obtain ⟨hinv, hlen9, hck1, hck2⟩ := HInv.out S9 ck9 hP2; exact ⟨HS9.out, hlen9, (by have := HIt.out.ck0; omega), (by have h1 := HIt.out.ck1; have h3 := HCt.out; omega), hinv, HIt.out.tm, Nat.le_succ_of_le HIt.out.nn⟩); obtain ⟨-, s5⟩ := HTB.out w9 HT9.out; have HSz := hide' (sizeL_any (now := now) HLd.out.st.cac HLd.out.st.em HMo.out.2.2 HLd.out.len); clear hP2 hF9 hC9 hM9))
            | (go_at_call 13; refine HSz.out.mono ?_; rintro es ws ⟨hzs, hBs⟩; obtain ⟨z, rfl, hz⟩ := hzs; have HSs := hide' (HLd.out.st.idle (grown_below hBs none)); have hz0 : ¬ ((z : Int) < 0) := Int.not_lt.2 (Int.natCast_nonneg z); have hz1 : ¬ ((z : Int) > most) := Int.not_lt.2 hz; clear hBs hz))
          go_roundw
          case rel => exact ⟨i + 1, n, cl, ql, T, S9, Q9, ck9, rfl, by go_num, hlt, (by have h := HLd.out.nn; omega), ⟨HSs.out, HLd.out.len, HLd.out.ck0, HLd.out.ck1, HLd.out.inv, HLd.out.tm, HLd.out.nn⟩⟩
          case measure => simp [intOf]; omega
      have b3 : (KD == 3) = false := by rw [beq_eq_false_iff_ne]; exact hk3
      clear hk3
      by_cases hk4 : KD = 4
      case pos =>
        as_aux_lemma =>
          subst hk4
          have b4 : ((4 : Int) == 4) = true := rfl
          obtain ⟨⟨kk, kr, kK⟩, hK⟩ : ∃ K, lookB Sk nm ty now = K := ⟨_, rfl⟩
          have HLo : Hid (Calls Tryz.prog 6 #[.pointer (some ⟨L, 0, none⟩), .string nm, .int .i64 ty, .int .i64 now] wt (lookE wt (kk, kr, kK))) := hK ▸ look_any HIt.out.st.cac HIt.out.st.em HIt.out.inv.ok HMo.out.2.2 nm ty now (by have := HZt.out.1; unfold maxLen; omega)
          have hLf := look_facts (n := nm) (t := ty) (now := now) HIt.out.inv
          rw [hK] at hLf
          simp only at hLf
          clear hK
          obtain ⟨nK, hnK⟩ : ∃ nK, kK.length = nK := ⟨_, rfl⟩
          have HNK := hide' hnK
          rcases hLf with ⟨hkk, hne, hnow, hcm, hy, hlen⟩ | ⟨⟨hne1, hne2⟩, hnil⟩
          · have hnK0 : (nK : Int) > 0 := by
              have : 0 < kK.length := List.length_pos_iff.2 hne
              omega
            have HCm : Hid (∀ (V : World) (q7 : Option Addr) (c7 : Nat), Lst w V L M P most T ql n cl Sk Qk ck → RsAt V q7 kK → Calls Tryz.prog 12 #[.slice ql n cl, .agg #[.int .i64 kk, .int .i64 kr, .slice q7 nK c7], .int .i64 now] V fun e w' => e = .returned (.bool true) ∧ Below V.heap.size V w') := fun V q7 c7 hV hR => by
              have hn9 := hV.len
              have h := came_any ql cl T kk kr now q7 c7 kK V hV.points hR (by rw [← hn9]; omega) (by omega) hy hnow HIt.out.tm
              rw [hcm, ← hn9, hnK] at h
              exact h
            clear hnK hcm hy hlen hnow hne
            rcases hkk with rfl | rfl
            · have k1 : ((1 : Int) == 1) = true := rfl
              go_wp2_with (first
                | (go_at_call 6; go_loud (refine HLo.out.mono ?_; rintro e7 w7 hE; obtain ⟨⟨v7, hv7, ho7⟩, hB7⟩ := hE; obtain ⟨q7, c7, rfl, -⟩ := own_shape ho7; simp only at hv7; subst hv7; have HR7 : Hid (RsT w7 q7 kK) := rsT_own ho7; have HG7 : Hid (wt.grownBy w7 none) := (grown_below hB7 none); clear ho7 hB7; rw [HNK.out]; obtain ⟨wa, ha⟩ : ∃ v, w7.alloc (.cells #[.int .i64 0, .int .i64 0, .slice none 0 0] 33) = v := ⟨_, rfl⟩; have HGa : Hid (wt.grownBy wa none) := (grown_trans HG7.out (ha ▸ World.grownBy_alloc w7 _ none)); have HXa : Hid (Bx wa w7.heap.size #[.int .i64 0, .int .i64 0, .slice none 0 0] 33) := ha ▸ World.alloc_heap_new w7 _; have HBw : Hid (w.heap.size ≤ w7.heap.size) := Nat.le_trans HIt.out.st.bel.size HG7.out.size; obtain ⟨z0, z1, z2, f0, f1, f2⟩ := bx3C HXa.out; obtain ⟨w8, hst⟩ : ∃ v, (((wa.setCell ⟨w7.heap.size, 0, none⟩ (.int .i64 1)).setCell ⟨w7.heap.size, 1, none⟩ (.int .i64 kr)).setCell ⟨w7.heap.size, 2, none⟩ (.slice q7 nK c7)) = v := ⟨_, rfl⟩; have HW8 : Hid (Bx w8 w7.heap.size #[.int .i64 1, .int .i64 kr, .slice q7 nK c7] 33) := hst ▸ bx3C_set HXa.out _ _ _; have HG8 : Hid (wa.grownBy w8 (some w7.heap.size)) := hst ▸ Bx.set3F HXa.out _ _ _; have HS8 : Hid (Lst w w8 L M P most T ql n cl Sk Qk ck) := (HIt.out.st.idle HGa.out).other HXa.out (by decide) HBw.out HG8.out; have HR8 : Hid (RsT w8 q7 kK) := (RsT.idle HR7.out (ha ▸ World.grownBy_alloc w7 _ none)).other HXa.out (by decide) HG8.out; have HT8 := hide' ((HBt.out.grown HGa.out (by simp)).otherC HXa.out (by decide) HG8.out); obtain ⟨x1, x2, x3, x5⟩ := HTC.out w8 HT8.out; obtain ⟨k0, k1, k2, -, -, -⟩ := bx3C HW8.out; have HCm8 := hide' (HCm.out w8 q7 c7 HS8.out HR8.out.1)))
                | (go_at_call 12; go_loud (refine HCm8.out.mono ?_; rintro ec wc ⟨rfl, hBc⟩; have HGc : Hid (w8.grownBy wc none) := (grown_below hBc none); clear hBc; have HLd : Hid (Lin w wc L M P most T ql n cl Sk Qk ck (i + 1) TS) := ⟨HS8.out.idle HGc.out, HIt.out.len, HIt.out.ck0, (by have h1 := HIt.out.ck1; have h3 := HCt.out; omega), HIt.out.inv, HIt.out.tm, Nat.le_succ_of_le HIt.out.nn⟩; have HSz := hide' (sizeL_any (now := now) HLd.out.st.cac HLd.out.st.em HMo.out.2.2 HLd.out.len); obtain ⟨-, s5⟩ := HTB.out wc (HT8.out.grown HGc.out (by simp))))
                | (go_at_call 13; refine HSz.out.mono ?_; rintro es ws ⟨hzs, hBs⟩; obtain ⟨z, rfl, hz⟩ := hzs; have HSs := hide' (HLd.out.st.idle (grown_below hBs none)); have hz0 : ¬ ((z : Int) < 0) := Int.not_lt.2 (Int.natCast_nonneg z); have hz1 : ¬ ((z : Int) > most) := Int.not_lt.2 hz; clear hBs hz))
              go_roundw
              case rel => exact ⟨i + 1, n, cl, ql, T, Sk, Qk, ck, rfl, by go_num, hlt, (by have h := HLd.out.nn; omega), ⟨HSs.out, HLd.out.len, HLd.out.ck0, HLd.out.ck1, HLd.out.inv, HLd.out.tm, HLd.out.nn⟩⟩
              case measure => simp [intOf]; omega
            · have k1 : ((2 : Int) == 1) = false := rfl
              have k2 : ((2 : Int) == 2) = true := rfl
              go_wp2_with (first
                | (go_at_call 6; go_loud (refine HLo.out.mono ?_; rintro e7 w7 hE; obtain ⟨⟨v7, hv7, ho7⟩, hB7⟩ := hE; obtain ⟨q7, c7, rfl, -⟩ := own_shape ho7; simp only at hv7; subst hv7; have HR7 : Hid (RsT w7 q7 kK) := rsT_own ho7; have HG7 : Hid (wt.grownBy w7 none) := (grown_below hB7 none); clear ho7 hB7; rw [HNK.out]; obtain ⟨wa, ha⟩ : ∃ v, w7.alloc (.cells #[.int .i64 0, .int .i64 0, .slice none 0 0] 33) = v := ⟨_, rfl⟩; have HGa : Hid (wt.grownBy wa none) := (grown_trans HG7.out (ha ▸ World.grownBy_alloc w7 _ none)); have HXa : Hid (Bx wa w7.heap.size #[.int .i64 0, .int .i64 0, .slice none 0 0] 33) := ha ▸ World.alloc_heap_new w7 _; have HBw : Hid (w.heap.size ≤ w7.heap.size) := Nat.le_trans HIt.out.st.bel.size HG7.out.size; obtain ⟨z0, z1, z2, f0, f1, f2⟩ := bx3C HXa.out; obtain ⟨w8, hst⟩ : ∃ v, (((wa.setCell ⟨w7.heap.size, 0, none⟩ (.int .i64 2)).setCell ⟨w7.heap.size, 1, none⟩ (.int .i64 kr)).setCell ⟨w7.heap.size, 2, none⟩ (.slice q7 nK c7)) = v := ⟨_, rfl⟩; have HW8 : Hid (Bx w8 w7.heap.size #[.int .i64 2, .int .i64 kr, .slice q7 nK c7] 33) := hst ▸ bx3C_set HXa.out _ _ _; have HG8 : Hid (wa.grownBy w8 (some w7.heap.size)) := hst ▸ Bx.set3F HXa.out _ _ _; have HS8 : Hid (Lst w w8 L M P most T ql n cl Sk Qk ck) := (HIt.out.st.idle HGa.out).other HXa.out (by decide) HBw.out HG8.out; have HR8 : Hid (RsT w8 q7 kK) := (RsT.idle HR7.out (ha ▸ World.grownBy_alloc w7 _ none)).other HXa.out (by decide) HG8.out; have HT8 := hide' ((HBt.out.grown HGa.out (by simp)).otherC HXa.out (by decide) HG8.out); obtain ⟨x1, x2, x3, x5⟩ := HTC.out w8 HT8.out; obtain ⟨k0, k1, k2, -, -, -⟩ := bx3C HW8.out; have HCm8 := hide' (HCm.out w8 q7 c7 HS8.out HR8.out.1)))
                | (go_at_call 12; go_loud (refine HCm8.out.mono ?_; rintro ec wc ⟨rfl, hBc⟩; have HGc : Hid (w8.grownBy wc none) := (grown_below hBc none); clear hBc; have HLd : Hid (Lin w wc L M P most T ql n cl Sk Qk ck (i + 1) TS) := ⟨HS8.out.idle HGc.out, HIt.out.len, HIt.out.ck0, (by have h1 := HIt.out.ck1; have h3 := HCt.out; omega), HIt.out.inv, HIt.out.tm, Nat.le_succ_of_le HIt.out.nn⟩; have HSz := hide' (sizeL_any (now := now) HLd.out.st.cac HLd.out.st.em HMo.out.2.2 HLd.out.len); obtain ⟨-, s5⟩ := HTB.out wc (HT8.out.grown HGc.out (by simp))))
                | (go_at_call 13; refine HSz.out.mono ?_; rintro es ws ⟨hzs, hBs⟩; obtain ⟨z, rfl, hz⟩ := hzs; have HSs := hide' (HLd.out.st.idle (grown_below hBs none)); have hz0 : ¬ ((z : Int) < 0) := Int.not_lt.2 (Int.natCast_nonneg z); have hz1 : ¬ ((z : Int) > most) := Int.not_lt.2 hz; clear hBs hz))
              go_roundw
              case rel => exact ⟨i + 1, n, cl, ql, T, Sk, Qk, ck, rfl, by go_num, hlt, (by have h := HLd.out.nn; omega), ⟨HSs.out, HLd.out.len, HLd.out.ck0, HLd.out.ck1, HLd.out.inv, HLd.out.tm, HLd.out.nn⟩⟩
              case measure => simp [intOf]; omega
          · obtain rfl : nK = 0 := by rw [← hnK, hnil]; rfl
            have k1 : (kk == 1) = false := by rw [beq_eq_false_iff_ne]; exact hne1
            have k2 : (kk == 2) = false := by rw [beq_eq_false_iff_ne]; exact hne2
            clear hnK hne1 hne2 hnil
            go_wp2_with (first
              | (go_at_call 6; go_loud (refine HLo.out.mono ?_; rintro e7 w7 hE; obtain ⟨⟨v7, hv7, ho7⟩, hB7⟩ := hE; obtain ⟨q7, c7, rfl, -⟩ := own_shape ho7; simp only at hv7; subst hv7; have HR7 : Hid (RsT w7 q7 kK) := rsT_own ho7; have HG7 : Hid (wt.grownBy w7 none) := (grown_below hB7 none); clear ho7 hB7; rw [HNK.out]; obtain ⟨wa, ha⟩ : ∃ v, w7.alloc (.cells #[.int .i64 0, .int .i64 0, .slice none 0 0] 33) = v := ⟨_, rfl⟩; have HGa : Hid (wt.grownBy wa none) := (grown_trans HG7.out (ha ▸ World.grownBy_alloc w7 _ none)); have HXa : Hid (Bx wa w7.heap.size #[.int .i64 0, .int .i64 0, .slice none 0 0] 33) := ha ▸ World.alloc_heap_new w7 _; have HBw : Hid (w.heap.size ≤ w7.heap.size) := Nat.le_trans HIt.out.st.bel.size HG7.out.size; obtain ⟨z0, z1, z2, f0, f1, f2⟩ := bx3C HXa.out; obtain ⟨w8, hst⟩ : ∃ v, (((wa.setCell ⟨w7.heap.size, 0, none⟩ (.int .i64 kk)).setCell ⟨w7.heap.size, 1, none⟩ (.int .i64 kr)).setCell ⟨w7.heap.size, 2, none⟩ (.slice q7 0 c7)) = v := ⟨_, rfl⟩; have HW8 : Hid (Bx w8 w7.heap.size #[.int .i64 kk, .int .i64 kr, .slice q7 0 c7] 33) := hst ▸ bx3C_set HXa.out _ _ _; have HG8 : Hid (wa.grownBy w8 (some w7.heap.size)) := hst ▸ Bx.set3F HXa.out _ _ _; have HS8 : Hid (Lst w w8 L M P most T ql n cl Sk Qk ck) := (HIt.out.st.idle HGa.out).other HXa.out (by decide) HBw.out HG8.out; have HR8 : Hid (RsT w8 q7 kK) := (RsT.idle HR7.out (ha ▸ World.grownBy_alloc w7 _ none)).other HXa.out (by decide) HG8.out; have HT8 := hide' ((HBt.out.grown HGa.out (by simp)).otherC HXa.out (by decide) HG8.out); obtain ⟨x1, x2, x3, x5⟩ := HTC.out w8 HT8.out; obtain ⟨k0, k1, k2, -, -, -⟩ := bx3C HW8.out; have HLd : Hid (Lin w w8 L M P most T ql n cl Sk Qk ck (i + 1) TS) := ⟨HS8.out, HIt.out.len, HIt.out.ck0, (by have h1 := HIt.out.ck1; have h3 := HCt.out; omega), HIt.out.inv, HIt.out.tm, Nat.le_succ_of_le HIt.out.nn⟩; have HSz := hide' (sizeL_any (now := now) HLd.out.st.cac HLd.out.st.em HMo.out.2.2 HLd.out.len)))
              | (go_at_call 13; refine HSz.out.mono ?_; rintro es ws ⟨hzs, hBs⟩; obtain ⟨z, rfl, hz⟩ := hzs; have HSs := hide' (HLd.out.st.idle (grown_below hBs none)); have hz0 : ¬ ((z : Int) < 0) := Int.not_lt.2 (Int.natCast_nonneg z); have hz1 : ¬ ((z : Int) > most) := Int.not_lt.2 hz; clear hBs hz))
            go_roundw
            case rel => exact ⟨i + 1, n, cl, ql, T, Sk, Qk, ck, rfl, by go_num, hlt, (by have h := HLd.out.nn; omega), ⟨HSs.out, HLd.out.len, HLd.out.ck0, HLd.out.ck1, HLd.out.inv, HLd.out.tm, HLd.out.nn⟩⟩
            case measure => simp [intOf]; omega
      have b4 : (KD == 4) = false := by rw [beq_eq_false_iff_ne]; exact hk4
      clear hk4
      as_aux_lemma =>
        have HLd : Hid (Lin w wt L M P most T ql n cl Sk Qk ck (i + 1) TS) := ⟨HIt.out.st, HIt.out.len, HIt.out.ck0, (by have h1 := HIt.out.ck1; have h3 := HCt.out; omega), HIt.out.inv, HIt.out.tm, Nat.le_succ_of_le HIt.out.nn⟩
        obtain ⟨-, s5⟩ := HTB.out _ HBt.out
        have HSz := hide' (sizeL_any (now := now) HLd.out.st.cac HLd.out.st.em HMo.out.2.2 HLd.out.len)
        go_wp2_with (go_at_call 13; refine HSz.out.mono ?_; rintro es ws ⟨hzs, hBs⟩; obtain ⟨z, rfl, hz⟩ := hzs; have HSs := hide' (HLd.out.st.idle (grown_below hBs none)); have hz0 : ¬ ((z : Int) < 0) := Int.not_lt.2 (Int.natCast_nonneg z); have hz1 : ¬ ((z : Int) > most) := Int.not_lt.2 hz; clear hBs hz)
        go_roundw
        case rel => exact ⟨i + 1, n, cl, ql, T, Sk, Qk, ck, rfl, by go_num, hlt, (by have h := HLd.out.nn; omega), ⟨HSs.out, HLd.out.len, HLd.out.ck0, HLd.out.ck1, HLd.out.inv, HLd.out.tm, HLd.out.nn⟩⟩
        case measure => simp [intOf]; omega
    · obtain rfl : i = N := by omega
      go_wp2_with fail
      go_ret
      exact ⟨rfl, HI.out.st.bel⟩
end Go.Proofs.YtgekfhghambacaaGreat
