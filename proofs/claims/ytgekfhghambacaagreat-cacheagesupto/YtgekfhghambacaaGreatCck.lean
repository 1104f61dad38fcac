import Derived.Test.YtgekfhghambacaaGreatCcj
/-
  Chapter 12: (*cache.Cache).Put. (The verifier's own text; mkcck.py writes it.)
-/
namespace Go.Proofs.YtgekfhghambacaaGreat
set_option linter.unusedVariables false
set_option linter.unusedSimpArgs false
open Go.RowKit Go.Shelf Go.Maps Go.Proofs.YtgekfhghambacaaGreat.Nm
attribute [local go_sem] Oper.semAt_some

theorem Bx.walk {A B' : World} {B r0 : Nat} {cs : Array Value} {T : TypeId} {row : Option Nat} (h : Bx A r0 cs T) (hg : A.grownBy B' row) (hr : ∀ r, row = some r → B ≤ r ∧ ∃ o : Obj, A.heap[r]? = some o ∧ o.isCells = false) : Bx B' r0 cs T := h.grown hg (fun e => by
  obtain ⟨_, o, ho, hn⟩ := hr r0 e
  unfold Bx at h
  rw [h] at ho
  injection ho with ho
  rw [← ho] at hn
  cases hn)
theorem rsT_own {w : World} {base : Nat} {p : Option Addr} {n c : Nat} {L : List Rn} (h : w.ownsRow base 36 5 (.slice p n c) n (rce5 L)) : RsT w p L := by
  refine ⟨rs_ownC h, fun a ha => ?_⟩
  obtain ⟨_, (⟨h1, h2⟩ | ⟨g, cap, cur, h1, _, hg, _⟩)⟩ := h
  · injection h1 with h1
    rw [h1] at ha; cases ha
  · injection h1 with h1
    rw [h1] at ha
    injection ha with ha
    subst ha
    exact ⟨cur, 36, (0, 0), hg, by decide, by decide, by decide, rfl⟩
theorem putC_arg {S : List Ce} {R : List Rn} {rank now : Int} (h : rank < 1 ∨ rank > 4 ∨ ¬ (0 ≤ now ∧ now ≤ 4294967295)) : putC S R rank now = 23 := by unfold putC; rw [if_pos h]
theorem putC_form {S : List Ce} {R : List Rn} {rank now : Int} (h : ¬ (rank < 1 ∨ rank > 4 ∨ ¬ (0 ≤ now ∧ now ≤ 4294967295))) (hd : dsB R = false) : putC S R rank now = 8 := by
  unfold putC; rw [if_neg h]
  cases R with
  | nil => rfl
  | cons x l => simp only; rw [if_neg (by rw [hd]; simp)]
theorem putC_old {S : List Ce} {x : Rn} {l : List Rn} {rank now : Int} {e : Ce} (h : ¬ (rank < 1 ∨ rank > 4 ∨ ¬ (0 ≤ now ∧ now ≤ 4294967295))) (hd : dsB (x :: l) = true) (he : atK Ce.key (setK x.o x.t) S = some e) (hf : e.fin > now ∧ e.rank > rank) : putC S (x :: l) rank now = 30 := by
  unfold putC; rw [if_neg h]; simp only; rw [if_pos hd, he]; simp only; rw [if_pos hf]
theorem putC_ok {S : List Ce} {x : Rn} {l : List Rn} {rank now : Int} (h : ¬ (rank < 1 ∨ rank > 4 ∨ ¬ (0 ≤ now ∧ now ≤ 4294967295))) (hd : dsB (x :: l) = true) (he : ∀ e, atK Ce.key (setK x.o x.t) S = some e → ¬ (e.fin > now ∧ e.rank > rank)) : putC S (x :: l) rank now = 0 := by
  unfold putC; rw [if_neg h]; simp only; rw [if_pos hd]
  cases hc : atK Ce.key (setK x.o x.t) S with
  | none => rfl
  | some e => simp only; rw [if_neg (he e hc)]
set_option maxRecDepth 100000 in
set_option maxHeartbeats 8000000 in
/-- (*cache.Cache).Put -/
theorem put_in {w : World} {L M P base : Nat} {most came : Int} {S : List Ce} {Q : List Qe} (h : Cac w L M P base most came S Q) (hM : Emap w M S) (hm : most ≠ 0) (hm0 : 0 ≤ most) (hS : S.length < 99999) (hc0 : 0 ≤ came) (hc1 : came ≤ 1099511627775) (R : List Rn) (p : Option Addr) (c : Nat) (rank now : Int) (hat : RsAt w p R) (hR : R.length ≤ 1048576) (hz : ∀ r ∈ R, r.o.size ≤ maxLen ∧ r.d.size ≤ 9223372036854775807) :
    CallsIn Fence.wide 3 Tryz.prog 7 #[.pointer (some ⟨L, 0, none⟩), .slice p R.length c, .int .i64 rank, .int .i64 now] w (putE w L M P base most came S R rank now) := by
  have hro : Fence.wide.round = none := rfl
  obtain ⟨a1, h1⟩ : ∃ a, w.alloc (.cells #[.pointer (some ⟨L, 0, none⟩)] 23) = a := ⟨_, rfl⟩
  have HG1 : Hid (w.grownBy a1 none) := h1 ▸ World.grownBy_alloc w _ none
  have HB1 := hide' (below_grownC HG1.out)
  have HX1 : Hid (Bx a1 w.heap.size #[.pointer (some ⟨L, 0, none⟩)] 23) := h1 ▸ World.alloc_heap_new w _
  have HC1 := hide' (h.idle HG1.out)
  have HM1 : Hid (Emap a1 M S) := Lmap.kept hM HG1.out (by simp)
  have HR1 : Hid (RsAt a1 p R) := rs_bel hat HB1.out
  have HIN := hide' (isNone_any L most a1 (HC1.out.bx.cell (j := 0) rfl) hm)
  have HIT := hide' (fun V => isTime_any now V)
  have HIS : Hid (∀ V, Below a1.heap.size a1 V → Calls Tryz.prog 22 #[.slice p R.length c] V fun r w' => r = .returned (.bool (dsB R)) ∧ Below V.heap.size V w') := fun V hV => dataIsSet_any R p c V hR (rs_bel HR1.out hV) hz
  have y4 : a1.cell? ⟨w.heap.size, 0, none⟩ = some (.pointer (some ⟨L, 0, none⟩)) := HX1.out.cell rfl
  have HRl := hide' hR
  have HSl := hide' hS
  have HM0 := hide' hm0
  have HCm : Hid (0 ≤ came ∧ came ≤ 1099511627775) := ⟨hc0, hc1⟩
  have HBs : Hid (base ≤ w.heap.size) := h.hw
  clear h hM hm hS hm0 hc0 hc1 hat hR hz
  by_cases hbad : rank < 1 ∨ rank > 4 ∨ ¬ (0 ≤ now ∧ now ≤ 4294967295)
  · have HQ := hide' (putC_arg (S := S) (R := R) hbad)
    have hcases : rank < 1 ∨ (¬ rank < 1 ∧ rank > 4) ∨ (¬ rank < 1 ∧ ¬ rank > 4 ∧ decide (0 ≤ now ∧ now ≤ 4294967295) = false) := by
      by_cases c1 : rank < 1
      · exact .inl c1
      · by_cases c2 : rank > 4
        · exact .inr (.inl ⟨c1, c2⟩)
        · exact .inr (.inr ⟨c1, c2, decide_eq_false (fun c3 => by rcases hbad with h | h | h; exact c1 h; exact c2 h; exact h c3)⟩)
    clear hbad
    refine callsIn_of_wp_marks Tryz.func7 rfl trivial ?_ hro
    simp only [Tryz.ntmps7, List.size_toArray, List.length_cons, List.length_nil, Nat.reduceAdd, Nat.reduceSub, Array.replicate_succ, Array.replicate_zero, List.push_toArray, List.append_toArray, List.nil_append, List.cons_append]
    refine wpIn_wide.2 ?_
    rcases hcases with h2 | ⟨h2, h3⟩ | ⟨h2, h3, h4⟩
    · go_wp2_with (first
        | (go_at_call 15; refine HIN.out.mono ?_; rintro e1 w1 ⟨rfl, hw1⟩; have hw1' := hw1.symm; subst hw1')
        | (go_at_call 17; refine (HIT.out _).mono ?_; rintro e3 w3 ⟨rfl, hw3⟩; have hw3' := hw3.symm; subst hw3')
        | (go_at_call 22; refine (HIS.out _ (Below.refl _ _)).mono ?_; rintro e2 w2 ⟨rfl, hB2⟩; have HG2 := hide' (grown_below hB2 none); have HB2 : Hid (Below w.heap.size w w2) := bstep HB1.out hB2 HB1.out.size; clear hB2))
      exact ⟨_, results_tmp rfl _ _ _, by rw [HQ.out]; rfl, S, Q, came, HC1.out, HM1.out, Fk.idle HG1.out, .inl ⟨by rw [HQ.out]; decide, rfl, rfl⟩⟩
    · go_wp2_with (first
        | (go_at_call 15; refine HIN.out.mono ?_; rintro e1 w1 ⟨rfl, hw1⟩; have hw1' := hw1.symm; subst hw1')
        | (go_at_call 17; refine (HIT.out _).mono ?_; rintro e3 w3 ⟨rfl, hw3⟩; have hw3' := hw3.symm; subst hw3')
        | (go_at_call 22; refine (HIS.out _ (Below.refl _ _)).mono ?_; rintro e2 w2 ⟨rfl, hB2⟩; have HG2 := hide' (grown_below hB2 none); have HB2 : Hid (Below w.heap.size w w2) := bstep HB1.out hB2 HB1.out.size; clear hB2))
      exact ⟨_, results_tmp rfl _ _ _, by rw [HQ.out]; rfl, S, Q, came, HC1.out, HM1.out, Fk.idle HG1.out, .inl ⟨by rw [HQ.out]; decide, rfl, rfl⟩⟩
    · rw [h4] at HIT
      clear h4
      go_wp2_with (first
        | (go_at_call 15; refine HIN.out.mono ?_; rintro e1 w1 ⟨rfl, hw1⟩; have hw1' := hw1.symm; subst hw1')
        | (go_at_call 17; refine (HIT.out _).mono ?_; rintro e3 w3 ⟨rfl, hw3⟩; have hw3' := hw3.symm; subst hw3')
        | (go_at_call 22; refine (HIS.out _ (Below.refl _ _)).mono ?_; rintro e2 w2 ⟨rfl, hB2⟩; have HG2 := hide' (grown_below hB2 none); have HB2 : Hid (Below w.heap.size w w2) := bstep HB1.out hB2 HB1.out.size; clear hB2))
      exact ⟨_, results_tmp rfl _ _ _, by rw [HQ.out]; rfl, S, Q, came, HC1.out, HM1.out, Fk.idle HG1.out, .inl ⟨by rw [HQ.out]; decide, rfl, rfl⟩⟩
  · have HBad := hide' hbad
    have hr1 : ¬ rank < 1 := fun h => hbad (.inl h)
    have hr2 : ¬ rank > 4 := fun h => hbad (.inr (.inl h))
    have htm : decide (0 ≤ now ∧ now ≤ 4294967295) = true := by
      by_cases c : 0 ≤ now ∧ now ≤ 4294967295
      · exact decide_eq_true c
      · exact absurd (.inr (.inr c)) hbad
    have htm2 : 0 ≤ now ∧ now ≤ 4294967295 := of_decide_eq_true htm
    have HTm := hide' htm2
    rw [htm] at HIT
    clear hbad htm htm2
    cases hds : dsB R with
    | false =>
      have HQ := hide' (putC_form (S := S) (R := R) HBad.out hds)
      rw [hds] at HIS
      clear hds
      refine callsIn_of_wp_marks Tryz.func7 rfl trivial ?_ hro
      simp only [Tryz.ntmps7, List.size_toArray, List.length_cons, List.length_nil, Nat.reduceAdd, Nat.reduceSub, Array.replicate_succ, Array.replicate_zero, List.push_toArray, List.append_toArray, List.nil_append, List.cons_append]
      refine wpIn_wide.2 ?_
      · go_wp2_with (first
          | (go_at_call 15; refine HIN.out.mono ?_; rintro e1 w1 ⟨rfl, hw1⟩; have hw1' := hw1.symm; subst hw1')
          | (go_at_call 17; refine (HIT.out _).mono ?_; rintro e3 w3 ⟨rfl, hw3⟩; have hw3' := hw3.symm; subst hw3')
          | (go_at_call 22; refine (HIS.out _ (Below.refl _ _)).mono ?_; rintro e2 w2 ⟨rfl, hB2⟩; have HG2 := hide' (grown_below hB2 none); have HB2 : Hid (Below w.heap.size w w2) := bstep HB1.out hB2 HB1.out.size; clear hB2))
        exact ⟨_, results_tmp rfl _ _ _, by rw [HQ.out]; rfl, S, Q, came, HC1.out.idle HG2.out, Lmap.kept HM1.out HG2.out (by simp), (Fk.idle HG1.out).trans (Fk.idle HG2.out), .inl ⟨by rw [HQ.out]; decide, rfl, rfl⟩⟩
    | true =>
      rw [hds] at HIS
      obtain ⟨x, l, rfl, hfx⟩ := ds_facts hds
      have HDs := hide' hds
      have hz := (ok_facts (hfx x List.mem_cons_self).1)
      have hN := hz.1
      have ht1 := hz.2.2.2.2.2.1
      have ht2 := hz.2.2.2.2.2.2.1
      have hxs := hz.2.2.2.2.2.2.2.2.1
      have HAg := hide' (ageF_facts (R := x :: l) (fun r hr => (ok_facts (hfx r hr).1).2.2.1))
      obtain ⟨g, off, hp, hgl, q0, q1, -⟩ := HR1.out 0 (by simp)
      simp only [Nat.zero_mul, Nat.add_zero, List.getElem_cons_zero] at q0 q1
      subst hp
      obtain ⟨xo, xt, xc, xl, xd⟩ := x
      simp only at *
      have hfs := foldB_size hN
      have HKs : Hid (kyG (setK xo xt)) := ⟨rfl, by unfold setK maxLen; simp only; omega, by unfold setK; exact wf64C xt (by omega) (by omega), by show (0 : Nat) ≤ maxLen; exact Nat.zero_le _⟩
      have HKl : Hid (kyG (lackK xo xt)) := ⟨rfl, by unfold lackK maxLen; simp only; omega, by unfold lackK; exact wf64C xt (by omega) (by omega), by show (0 : Nat) ≤ maxLen; exact Nat.zero_le _⟩
      have HKv : Hid (∀ x : UN, kyG (voidK x.v)) := fun x => ⟨rfl, by unfold voidK maxLen; have := foldB_size x.ok; simp only; omega, rfl, by show (0 : Nat) ≤ maxLen; exact Nat.zero_le _⟩
      have HSt := hide' (fun V => setKey_any xo xt V (by unfold maxLen; omega))
      have HLk := hide' (fun V => lackKey_any xo xt V (by unfold maxLen; omega))
      have HNn := hide' hN
      obtain ⟨RR, hRR⟩ : ∃ RR, (⟨xo, xt, xc, xl, xd⟩ :: l : List Rn) = RR := ⟨_, rfl⟩
      obtain ⟨N, hNl⟩ : ∃ N, RR.length = N := ⟨_, rfl⟩
      have hN0 : 0 < N := by rw [← hNl, ← hRR]; simp
      have HRR := hide' hRR
      rw [hRR] at HDs HAg HR1 HRl HIS ⊢
      rw [hNl] at HIS ⊢
      have HNl := hide' hNl
      have HC7 : Hid (∀ V : World, a1.grownBy V none → V.cell? ⟨g, off, none⟩ = some (.string xo) ∧ V.cell? ⟨g, off + 1, none⟩ = some (.int .i64 xt)) := fun V hV => ⟨cell_kept q0 hV (fun r e => by cases e), cell_kept q1 hV (fun r e => by cases e)⟩
      obtain ⟨gp, hgp⟩ := peAt_ptr (setK xo xt) S
      have HGp := hide' hgp
      have HF : Hid (∀ V : World, a1.grownBy V none → Cac V L M P base most came S Q ∧ Emap V M S ∧ Bx V w.heap.size #[.pointer (some ⟨L, 0, none⟩)] 23) := fun V hV => ⟨HC1.out.idle hV, Lmap.kept HM1.out hV (by simp), HX1.out.grown hV (by simp)⟩
      have HFl : Hid (∀ V : World, a1.grownBy V none → (Instr.lookup 47 (.map (some M)) (kyV (setK xo xt)) false).run Tryz.prog V = .ok (.pointer gp) V) := fun V hV => HGp.out ▸ (HF.out V hV).2.1.look HKs.out
      clear hz ht1 ht2 hxs hds hfx hgl q0 q1 hfs hN hRR hNl hgp
      unfold kyV at HSt HFl
      obtain ⟨⟨k0, k1, k2, k3⟩, hk⟩ : ∃ K0, setK xo xt = K0 := ⟨_, rfl⟩
      rw [hk] at HSt HFl
      have HK := hide' hk
      simp only at HSt HFl
      clear hk
      refine callsIn_of_wp_marks Tryz.func7 rfl trivial ?_ hro
      simp only [Tryz.ntmps7, List.size_toArray, List.length_cons, List.length_nil, Nat.reduceAdd, Nat.reduceSub, Array.replicate_succ, Array.replicate_zero, List.push_toArray, List.append_toArray, List.nil_append, List.cons_append]
      refine wpIn_wide.2 ?_
      go_wp2_with (first
      | (go_at_call 15; refine HIN.out.mono ?_; rintro e1 w1 ⟨rfl, hw1⟩; have hw1' := hw1.symm; subst hw1')
      | (go_at_call 17; refine (HIT.out _).mono ?_; rintro e3 w3 ⟨rfl, hw3⟩; have hw3' := hw3.symm; subst hw3')
      | (go_at_call 22; refine (HIS.out _ (Below.refl _ _)).mono ?_; rintro e2 w2 ⟨rfl, hB2⟩; have HG2 := hide' (grown_below hB2 none); have HB2 : Hid (Below w.heap.size w w2) := bstep HB1.out hB2 HB1.out.size; clear hB2))
      have HF7 : Hid (∀ V : World, w2.grownBy V none → V.cell? ⟨g, off, none⟩ = some (.string xo) ∧ V.cell? ⟨g, off + 1, none⟩ = some (.int .i64 xt)) := fun V hV => HC7.out V (grown_trans HG2.out hV)
      obtain ⟨wd, hwd⟩ : ∃ wd, w2.drew = wd := ⟨_, rfl⟩
      have HGd : Hid (a1.grownBy wd none) := hwd ▸ grown_drewC HG2.out
      have HHd : Hid (w2.grownBy wd none) := hwd ▸ ⟨rfl, rfl, rfl, Nat.le_refl _, fun _ _ _ => rfl⟩
      refine wp_mono (Q := noPan _) ?_ noPan_imp
      refine wp_region_held_drew (S := fun V => w2.grownBy V none) (by kernel_rfl) ?_ (fun hHeld => ?_)
      · rw [hwd]; exact HHd.out
      refine takeD 0 (some 33) (.slice (some ⟨g, off, none⟩) N c) rfl rfl (by kernel_rfl) (by kernel_rfl) (by kernel_rfl) (fun _ _ _ h => h) (Or.inl ⟨by rfl, ?_⟩) (by assumption) ?_
      · intro w hSw; (try dsimp only at hSw); obtain ⟨q0, q1⟩ := HF7.out w hSw; go_simp <;> (intros; omega)
      simp only [Act.put, List.setIfInBounds_toArray, List.set_cons_zero, List.set_cons_succ]
      refine takeD 1 (some 34) (.pointer (some ⟨g, off, none⟩)) rfl rfl (by kernel_rfl) (by kernel_rfl) (by kernel_rfl) (fun _ _ _ h => h) (Or.inl ⟨by rfl, ?_⟩) (by assumption) ?_
      · intro w hSw; (try dsimp only at hSw); obtain ⟨q0, q1⟩ := HF7.out w hSw; go_simp <;> (intros; omega)
      simp only [Act.put, List.setIfInBounds_toArray, List.set_cons_zero, List.set_cons_succ]
      refine takeD 2 (some 35) (.pointer (some ⟨g, off, none⟩)) rfl rfl (by kernel_rfl) (by kernel_rfl) (by kernel_rfl) (fun _ _ _ h => h) (Or.inl ⟨by rfl, ?_⟩) (by assumption) ?_
      · intro w hSw; (try dsimp only at hSw); obtain ⟨q0, q1⟩ := HF7.out w hSw; go_simp <;> (intros; omega)
      simp only [Act.put, List.setIfInBounds_toArray, List.set_cons_zero, List.set_cons_succ]
      refine takeD 3 (some 36) (.string xo) rfl rfl (by kernel_rfl) (by kernel_rfl) (by kernel_rfl) (fun _ _ _ h => h) (Or.inl ⟨by rfl, ?_⟩) (by assumption) ?_
      · intro w hSw; (try dsimp only at hSw); obtain ⟨q0, q1⟩ := HF7.out w hSw; go_simp <;> (intros; omega)
      simp only [Act.put, List.setIfInBounds_toArray, List.set_cons_zero, List.set_cons_succ]
      refine takeD 4 (some 37) (.slice (some ⟨g, off, none⟩) N c) rfl rfl (by kernel_rfl) (by kernel_rfl) (by kernel_rfl) (fun _ _ _ h => h) (Or.inl ⟨by rfl, ?_⟩) (by assumption) ?_
      · intro w hSw; (try dsimp only at hSw); obtain ⟨q0, q1⟩ := HF7.out w hSw; go_simp <;> (intros; omega)
      simp only [Act.put, List.setIfInBounds_toArray, List.set_cons_zero, List.set_cons_succ]
      refine takeD 5 (some 38) (.pointer (some ⟨g, off, none⟩)) rfl rfl (by kernel_rfl) (by kernel_rfl) (by kernel_rfl) (fun _ _ _ h => h) (Or.inl ⟨by rfl, ?_⟩) (by assumption) ?_
      · intro w hSw; (try dsimp only at hSw); obtain ⟨q0, q1⟩ := HF7.out w hSw; go_simp <;> (intros; omega)
      simp only [Act.put, List.setIfInBounds_toArray, List.set_cons_zero, List.set_cons_succ]
      refine takeD 6 (some 39) (.pointer (some ⟨g, off + 1, none⟩)) rfl rfl (by kernel_rfl) (by kernel_rfl) (by kernel_rfl) (fun _ _ _ h => h) (Or.inl ⟨by rfl, ?_⟩) (by assumption) ?_
      · intro w hSw; (try dsimp only at hSw); obtain ⟨q0, q1⟩ := HF7.out w hSw; go_simp <;> (intros; omega)
      simp only [Act.put, List.setIfInBounds_toArray, List.set_cons_zero, List.set_cons_succ]
      refine takeD 7 (some 40) (.int .i64 xt) rfl rfl (by kernel_rfl) (by kernel_rfl) (by kernel_rfl) (fun _ _ _ h => h) (Or.inl ⟨by rfl, ?_⟩) (by assumption) ?_
      · intro w hSw; (try dsimp only at hSw); obtain ⟨q0, q1⟩ := HF7.out w hSw; go_simp <;> (intros; omega)
      simp only [Act.put, List.setIfInBounds_toArray, List.set_cons_zero, List.set_cons_succ]
      refine takeD 8 (some 9) (.string xo) rfl rfl (by kernel_rfl) (by kernel_rfl) (by kernel_rfl) (fun _ _ _ h => h) (Or.inl ⟨by rfl, ?_⟩) (by assumption) ?_
      · intro w hSw; (try dsimp only at hSw); obtain ⟨q0, q1⟩ := HF7.out w hSw; go_simp <;> (intros; omega)
      simp only [Act.put, List.setIfInBounds_toArray, List.set_cons_zero, List.set_cons_succ]
      refine takeD 9 (some 10) (.int .i64 xt) rfl rfl (by kernel_rfl) (by kernel_rfl) (by kernel_rfl) (fun _ _ _ h => h) (Or.inl ⟨by rfl, ?_⟩) (by assumption) ?_
      · intro w hSw; (try dsimp only at hSw); obtain ⟨q0, q1⟩ := HF7.out w hSw; go_simp <;> (intros; omega)
      simp only [Act.put, List.setIfInBounds_toArray, List.set_cons_zero, List.set_cons_succ]
      refine wpAnyH_done (by kernel_rfl) ?_ _
      clear hHeld
      dsimp only [noPan]
      try rw [hwd]
      clear hwd
      have TT : Hid True := trivial
      go_wp2_with (go_at_call 18; refine (HSt.out _).mono ?_; rintro e1 w3 ⟨rfl, hB3⟩; have HG3 : Hid (a1.grownBy w3 none) := (grown_trans HGd.out (grown_below hB3 none)); clear hB3; obtain ⟨w4, h4⟩ : ∃ w4, w3.alloc (.cells #[.int .i64 k0, .string k1, .int .i64 k2, .string k3] 57) = w4 := ⟨_, rfl⟩)
      have HG34 : Hid (w3.grownBy w4 none) := h4 ▸ World.grownBy_alloc w3 _ none
      have HX4 : Hid (Bx w4 w3.heap.size #[.int .i64 k0, .string k1, .int .i64 k2, .string k3] 57) := h4 ▸ World.alloc_heap_new w3 _
      have HG4 := hide' (grown_trans HG3.out HG34.out)
      obtain ⟨w5, h5⟩ : ∃ w5, w4.drew = w5 := ⟨_, rfl⟩
      have HG45 : Hid (w4.grownBy w5 none) := h5 ▸ ⟨rfl, rfl, rfl, Nat.le_refl _, fun _ _ _ => rfl⟩
      have HG5 := hide' (grown_trans HG4.out HG45.out)
      have HF9 : Hid (∀ V : World, w4.grownBy V none → V.cell? ⟨w.heap.size, 0, none⟩ = some (.pointer (some ⟨L, 0, none⟩)) ∧ V.cell? ⟨L, 2, none⟩ = some (.map (some M)) ∧ V.cell? ⟨w3.heap.size, 0, none⟩ = some (.int .i64 k0) ∧ V.cell? ⟨w3.heap.size, 1, none⟩ = some (.string k1) ∧ V.cell? ⟨w3.heap.size, 2, none⟩ = some (.int .i64 k2) ∧ V.cell? ⟨w3.heap.size, 3, none⟩ = some (.string k3) ∧ (Instr.lookup 47 (.map (some M)) (.agg #[.int .i64 k0, .string k1, .int .i64 k2, .string k3]) false).run Tryz.prog V = .ok (.pointer gp) V) := fun V hV => by
        obtain ⟨f1, f2, f3⟩ := HF.out V (grown_trans HG4.out hV)
        have hx := HX4.out.grown hV (by simp)
        exact ⟨f3.cell rfl, f1.bx.cell rfl, hx.cell rfl, hx.cell rfl, hx.cell rfl, hx.cell rfl, HFl.out V (grown_trans HG4.out hV)⟩
      refine wp_mono (Q := noPan _) ?_ noPan_imp
      refine wp_region_held_drew (S := fun V => w4.grownBy V none) (by kernel_rfl) ?_ (fun hHeld => ?_)
      · rw [h5]; exact HG45.out
      refine takeD 0 (some 44) (.pointer (some ⟨L, 0, none⟩)) rfl rfl (by kernel_rfl) (by kernel_rfl) (by kernel_rfl) (fun _ _ _ h => h) (Or.inl ⟨by rfl, ?_⟩) (by assumption) ?_
      · intro w hSw; (try dsimp only at hSw); obtain ⟨x4, c2, z0, z1, z2, z3, hl⟩ := HF9.out w hSw; go_simp <;> (intros; omega)
      simp only [Act.put, List.setIfInBounds_toArray, List.set_cons_zero, List.set_cons_succ]
      refine takeD 1 (some 45) (.pointer (some ⟨L, 0, none⟩)) rfl rfl (by kernel_rfl) (by kernel_rfl) (by kernel_rfl) (fun _ _ _ h => h) (Or.inl ⟨by rfl, ?_⟩) (by assumption) ?_
      · intro w hSw; (try dsimp only at hSw); obtain ⟨x4, c2, z0, z1, z2, z3, hl⟩ := HF9.out w hSw; go_simp <;> (intros; omega)
      simp only [Act.put, List.setIfInBounds_toArray, List.set_cons_zero, List.set_cons_succ]
      refine takeD 2 (some 46) (.pointer (some ⟨L, 2, none⟩)) rfl rfl (by kernel_rfl) (by kernel_rfl) (by kernel_rfl) (fun _ _ _ h => h) (Or.inl ⟨by rfl, ?_⟩) (by assumption) ?_
      · intro w hSw; (try dsimp only at hSw); obtain ⟨x4, c2, z0, z1, z2, z3, hl⟩ := HF9.out w hSw; go_simp <;> (intros; omega)
      simp only [Act.put, List.setIfInBounds_toArray, List.set_cons_zero, List.set_cons_succ]
      refine takeD 3 (some 47) (.map (some M)) rfl rfl (by kernel_rfl) (by kernel_rfl) (by kernel_rfl) (fun _ _ _ h => h) (Or.inl ⟨by rfl, ?_⟩) (by assumption) ?_
      · intro w hSw; (try dsimp only at hSw); obtain ⟨x4, c2, z0, z1, z2, z3, hl⟩ := HF9.out w hSw; go_simp <;> (intros; omega)
      simp only [Act.put, List.setIfInBounds_toArray, List.set_cons_zero, List.set_cons_succ]
      refine takeD 4 (some 48) (.agg #[.int .i64 k0, .string k1, .int .i64 k2, .string k3]) rfl rfl (by kernel_rfl) (by kernel_rfl) (by kernel_rfl) (fun _ _ _ h => h) (Or.inl ⟨by rfl, ?_⟩) (by assumption) ?_
      · intro w hSw; (try dsimp only at hSw); obtain ⟨x4, c2, z0, z1, z2, z3, hl⟩ := HF9.out w hSw; go_simp <;> (intros; omega)
      simp only [Act.put, List.setIfInBounds_toArray, List.set_cons_zero, List.set_cons_succ]
      refine takeD 5 (some 49) (.pointer gp) rfl rfl (by kernel_rfl) (by kernel_rfl) (by kernel_rfl) (fun _ _ _ h => h) (Or.inl ⟨by rfl, ?_⟩) (by assumption) ?_
      · intro w hSw; (try dsimp only at hSw); obtain ⟨x4, c2, z0, z1, z2, z3, hl⟩ := HF9.out w hSw; go_simp <;> (intros; omega)
      simp only [Act.put, List.setIfInBounds_toArray, List.set_cons_zero, List.set_cons_succ]
      refine takeD 6 (some 12) (.pointer gp) rfl rfl (by kernel_rfl) (by kernel_rfl) (by kernel_rfl) (fun _ _ _ h => h) (Or.inl ⟨by rfl, ?_⟩) (by assumption) ?_
      · intro w hSw; (try dsimp only at hSw); obtain ⟨x4, c2, z0, z1, z2, z3, hl⟩ := HF9.out w hSw; go_simp <;> (intros; omega)
      simp only [Act.put, List.setIfInBounds_toArray, List.set_cons_zero, List.set_cons_succ]
      refine wpAnyH_done (by kernel_rfl) ?_ _
      clear hHeld
      dsimp only [noPan]
      rw [h5]
      clear h5 h4
      have HX5 := hide' (HX4.out.grown HG45.out (by simp))
      obtain ⟨HC5, HM5, HY5⟩ : Hid (Cac w5 L M P base most came S Q) ∧ Hid (Emap w5 M S) ∧ Hid (Bx w5 w.heap.size #[.pointer (some ⟨L, 0, none⟩)] 23) := HF.out w5 HG5.out
      have HRs5 : Hid (RsAt w5 (some ⟨g, off, none⟩) RR) := rs_bel HR1.out (below_grownC HG5.out)
      have HF5 : Hid (Fk (FC M P) base w w5) := (Fk.idle HG1.out).trans (Fk.idle HG5.out)
      have hwx : w.heap.size < w5.heap.size := HY5.out.lt
      have hw3x : w3.heap.size < w5.heap.size := HX5.out.lt
      have HIA := hide' (HGp.out ▸ isAlive_at (setK xo xt) S now w5 base HC5.out.en)
      by_cases hold : ∃ e, atK Ce.key (setK xo xt) S = some e ∧ e.fin > now
      · obtain ⟨e, he, hfin⟩ := hold
        have hes := (atK_some he).1
        have hal : aliveK (setK xo xt) S now = true := by unfold aliveK; rw [he]; exact decide_eq_true hfin
        rw [hal] at HIA
        have hgpe : gp = some ⟨e.blk, 0, none⟩ := by
          have h := HGp.out
          unfold peAt at h
          rw [he] at h
          simp [peV] at h
          exact h.symm
        subst hgpe
        have e7 : w5.cell? ⟨e.blk, 7, none⟩ = some (.int .i64 e.rank) := (HC5.out.en e hes).1.cell rfl
        have HE := hide' he
        have HFi := hide' hfin
        have HXr : Hid (HGp.out = HGp.out) := rfl
        clear he hfin hes hal HXr
        generalize hrk : e.rank = rk at e7
        have HRk := hide' hrk
        clear hrk
        by_cases hgt : rk > rank
        · have HQ := hide' (putC_old (S := S) (x := ⟨xo, xt, xc, xl, xd⟩) (l := l) HBad.out (by rw [HRR.out]; exact HDs.out) HE.out ⟨HFi.out, by rw [HRk.out]; exact hgt⟩)
          rw [HRR.out] at HQ
          go_wp2_with (go_at_call 19; refine HIA.out.mono ?_; rintro e6 w6 ⟨rfl, hw6⟩; have hw6' := hw6.symm; subst hw6')
          exact ⟨_, results_tmp rfl _ _ _, by rw [HQ.out]; rfl, S, Q, came, HC5.out, HM5.out, HF5.out, .inl ⟨by rw [HQ.out]; decide, rfl, rfl⟩⟩
        · have HOld : Hid (∀ e', atK Ce.key (setK xo xt) S = some e' → ¬ (e'.fin > now ∧ e'.rank > rank)) := fun e' he' h => by
            rw [HE.out] at he'
            injection he' with he'
            rw [← he', HRk.out] at h
            exact hgt h.2
          have hgt2 : ¬ rank < rk := hgt
          go_wp2_with (go_at_call 19; refine HIA.out.mono ?_; rintro e6 w6 ⟨rfl, hw6⟩; have hw6' := hw6.symm; subst hw6')
          obtain ⟨B0, hB0⟩ : ∃ B0, w.heap.size = B0 := ⟨_, rfl⟩
          obtain ⟨B3, hB3⟩ : ∃ B3, w3.heap.size = B3 := ⟨_, rfl⟩
          rw [hB0] at HY5 hwx
          rw [hB3] at HX5 hw3x
          rw [hB0, hB3]
          have HB0 := hide' hB0
          clear hB0 hB3
          have HPc := hide' (putC_ok (S := S) (x := ⟨xo, xt, xc, xl, xd⟩) (l := l) (rank := rank) (now := now) HBad.out (by rw [HRR.out]; exact HDs.out) HOld.out)
          rw [HRR.out] at HPc
          obtain ⟨w6, h6⟩ : ∃ w6, w5.drew = w6 := ⟨_, rfl⟩
          have HG6 : Hid (w5.grownBy w6 none) := h6 ▸ ⟨rfl, rfl, rfl, Nat.le_refl _, fun _ _ _ => rfl⟩
          have HAo : Hid (∀ V, w5.grownBy V none → Calls Tryz.prog 24 #[.slice (some ⟨g, off, none⟩) N c] V fun r w' => r = .returned (.int .i64 (ageF RR)) ∧ Below V.heap.size V w') := fun V hV => HNl.out ▸ ageOf_any RR (some ⟨g, off, none⟩) c V (rs_bel HRs5.out (below_grownC hV)) (by have := HRl.out; omega)
          have HCl : Hid (∀ V, w5.grownBy V none → Calls Tryz.prog 25 #[.slice (some ⟨g, off, none⟩) N c] V fun r w' => (∃ v, r = .returned v ∧ w'.ownsRow V.heap.size 36 5 v N (rce5 RR)) ∧ Below V.heap.size V w') := fun V hV => HNl.out ▸ cloneR_any RR (some ⟨g, off, none⟩) c V HRl.out (rs_bel HRs5.out (below_grownC hV))
          generalize hag : ageF RR = ag at HAg HAo
          have HAgE := hide' hag
          clear hag
          have HRp : Hid (∀ (V : World) (q : Option Addr) (cc : Nat), w5.grownBy V none → RsT V q RR → N ≤ cc → cc ≤ maxLen → (q = none → cc = 0) → Calls Tryz.prog 23 #[.pointer (some ⟨L, 0, none⟩), .agg #[.int .i64 k0, .string k1, .int .i64 k2, .string k3, .int .i64 0, .int .i64 0, .int .i64 ag, .int .i64 rank, .slice q N cc], .int .i64 now] V fun r w' => r = .returned (.tuple #[]) ∧ ∃ Q', Cac w' L M P base most (repC ag came) (repS (k0, k1, k2, k3) now ag rank came RR q cc V.heap.size S) Q' ∧ Emap w' M (repS (k0, k1, k2, k3) now ag rank came RR q cc V.heap.size S) ∧ Fk (FC M P) base V w') := fun V q cc hV hr h1 h2 h3 => HNl.out ▸ replace_any (HC5.out.idle hV) (Lmap.kept HM5.out hV (by simp)) (HK.out ▸ HKs.out) hr (by rw [HNl.out]; exact h1) h2 h3 (by have := HSl.out; omega) HAg.out.1 HAg.out.2.1 HTm.out.1 HTm.out.2 HCm.out.1 (by have := HCm.out.2; omega)
          have HnB : Hid (∀ k, ¬ FC M P k (.cells #[.pointer (some ⟨L, 0, none⟩)] 23 (0, 0))) := fun k h => h.elim (fun e => absurd e (by decide)) (fun e => absurd e (by decide))
          have HnK : Hid (∀ k, ¬ FC M P k (.cells #[.int .i64 k0, .string k1, .int .i64 k2, .string k3] 57 (0, 0))) := fun k h => h.elim (fun e => absurd e (by decide)) (fun e => absurd e (by decide))
          have HS12 : Hid (∀ V : World, w5.grownBy V none → Bx V B0 #[.pointer (some ⟨L, 0, none⟩)] 23 ∧ Bx V B3 #[.int .i64 k0, .string k1, .int .i64 k2, .string k3] 57) := fun V hV => ⟨HY5.out.grown hV (by simp), HX5.out.grown hV (by simp)⟩
          go_wp2_with fail
          refine wp_mono (Q := noPan _) ?_ noPan_imp
          refine wp_region_held_drew (S := fun V => Bx V B0 #[.pointer (some ⟨L, 0, none⟩)] 23 ∧ Bx V B3 #[.int .i64 k0, .string k1, .int .i64 k2, .string k3] 57) (by kernel_rfl) ?_ (fun hHeld => ?_)
          · rw [h6]; exact HS12.out _ HG6.out
          rw [h6] at hHeld ⊢
          refine takeD 0 (some 61) (.pointer (some ⟨L, 0, none⟩)) rfl rfl (by kernel_rfl) (by kernel_rfl) (by kernel_rfl) (fun _ _ _ h => h) (Or.inl ⟨by rfl, ?_⟩) (by assumption) ?_
          · intro w hSw; (try dsimp only at hSw); obtain ⟨hb1, hb2⟩ := hSw; have x4 : w.cell? ⟨B0, 0, none⟩ = some (.pointer (some ⟨L, 0, none⟩)) := hb1.cell rfl; have z0 : w.cell? ⟨B3, 0, none⟩ = some (.int .i64 k0) := hb2.cell rfl; have z1 : w.cell? ⟨B3, 1, none⟩ = some (.string k1) := hb2.cell rfl; have z2 : w.cell? ⟨B3, 2, none⟩ = some (.int .i64 k2) := hb2.cell rfl; have z3 : w.cell? ⟨B3, 3, none⟩ = some (.string k3) := hb2.cell rfl; go_simp <;> (intros; omega)
          simp only [Act.put, List.setIfInBounds_toArray, List.set_cons_zero, List.set_cons_succ]
          refine takeD 1 (some 62) (.agg #[.int .i64 k0, .string k1, .int .i64 k2, .string k3]) rfl rfl (by kernel_rfl) (by kernel_rfl) (by kernel_rfl) (fun _ _ _ h => h) (Or.inl ⟨by rfl, ?_⟩) (by assumption) ?_
          · intro w hSw; (try dsimp only at hSw); obtain ⟨hb1, hb2⟩ := hSw; have x4 : w.cell? ⟨B0, 0, none⟩ = some (.pointer (some ⟨L, 0, none⟩)) := hb1.cell rfl; have z0 : w.cell? ⟨B3, 0, none⟩ = some (.int .i64 k0) := hb2.cell rfl; have z1 : w.cell? ⟨B3, 1, none⟩ = some (.string k1) := hb2.cell rfl; have z2 : w.cell? ⟨B3, 2, none⟩ = some (.int .i64 k2) := hb2.cell rfl; have z3 : w.cell? ⟨B3, 3, none⟩ = some (.string k3) := hb2.cell rfl; go_simp <;> (intros; omega)
          simp only [Act.put, List.setIfInBounds_toArray, List.set_cons_zero, List.set_cons_succ]
          refine takeD 2 (some 63) (.slice (some ⟨g, off, none⟩) N c) rfl rfl (by kernel_rfl) (by kernel_rfl) (by kernel_rfl) (fun _ _ _ h => h) (Or.inl ⟨by rfl, ?_⟩) (by assumption) ?_
          · intro w hSw; (try dsimp only at hSw); obtain ⟨hb1, hb2⟩ := hSw; have x4 : w.cell? ⟨B0, 0, none⟩ = some (.pointer (some ⟨L, 0, none⟩)) := hb1.cell rfl; have z0 : w.cell? ⟨B3, 0, none⟩ = some (.int .i64 k0) := hb2.cell rfl; have z1 : w.cell? ⟨B3, 1, none⟩ = some (.string k1) := hb2.cell rfl; have z2 : w.cell? ⟨B3, 2, none⟩ = some (.int .i64 k2) := hb2.cell rfl; have z3 : w.cell? ⟨B3, 3, none⟩ = some (.string k3) := hb2.cell rfl; go_simp <;> (intros; omega)
          simp only [Act.put, List.setIfInBounds_toArray, List.set_cons_zero, List.set_cons_succ]
          refine takeD 4 (some 65) (.int .i64 rank) rfl rfl (by kernel_rfl) (by kernel_rfl) (by kernel_rfl) (fun _ _ _ h => h) (Or.inl ⟨by rfl, ?_⟩) (by assumption) ?_
          · intro w hSw; (try dsimp only at hSw); obtain ⟨hb1, hb2⟩ := hSw; have x4 : w.cell? ⟨B0, 0, none⟩ = some (.pointer (some ⟨L, 0, none⟩)) := hb1.cell rfl; have z0 : w.cell? ⟨B3, 0, none⟩ = some (.int .i64 k0) := hb2.cell rfl; have z1 : w.cell? ⟨B3, 1, none⟩ = some (.string k1) := hb2.cell rfl; have z2 : w.cell? ⟨B3, 2, none⟩ = some (.int .i64 k2) := hb2.cell rfl; have z3 : w.cell? ⟨B3, 3, none⟩ = some (.string k3) := hb2.cell rfl; go_simp <;> (intros; omega)
          simp only [Act.put, List.setIfInBounds_toArray, List.set_cons_zero, List.set_cons_succ]
          refine takeD 5 (some 66) (.slice (some ⟨g, off, none⟩) N c) rfl rfl (by kernel_rfl) (by kernel_rfl) (by kernel_rfl) (fun _ _ _ h => h) (Or.inl ⟨by rfl, ?_⟩) (by assumption) ?_
          · intro w hSw; (try dsimp only at hSw); obtain ⟨hb1, hb2⟩ := hSw; have x4 : w.cell? ⟨B0, 0, none⟩ = some (.pointer (some ⟨L, 0, none⟩)) := hb1.cell rfl; have z0 : w.cell? ⟨B3, 0, none⟩ = some (.int .i64 k0) := hb2.cell rfl; have z1 : w.cell? ⟨B3, 1, none⟩ = some (.string k1) := hb2.cell rfl; have z2 : w.cell? ⟨B3, 2, none⟩ = some (.int .i64 k2) := hb2.cell rfl; have z3 : w.cell? ⟨B3, 3, none⟩ = some (.string k3) := hb2.cell rfl; go_simp <;> (intros; omega)
          simp only [Act.put, List.setIfInBounds_toArray, List.set_cons_zero, List.set_cons_succ]
          refine takeD 8 (some 69) (.int .i64 now) rfl rfl (by kernel_rfl) (by kernel_rfl) (by kernel_rfl) (fun _ _ _ h => h) (Or.inl ⟨by rfl, ?_⟩) (by assumption) ?_
          · intro w hSw; (try dsimp only at hSw); obtain ⟨hb1, hb2⟩ := hSw; have x4 : w.cell? ⟨B0, 0, none⟩ = some (.pointer (some ⟨L, 0, none⟩)) := hb1.cell rfl; have z0 : w.cell? ⟨B3, 0, none⟩ = some (.int .i64 k0) := hb2.cell rfl; have z1 : w.cell? ⟨B3, 1, none⟩ = some (.string k1) := hb2.cell rfl; have z2 : w.cell? ⟨B3, 2, none⟩ = some (.int .i64 k2) := hb2.cell rfl; have z3 : w.cell? ⟨B3, 3, none⟩ = some (.string k3) := hb2.cell rfl; go_simp <;> (intros; omega)
          simp only [Act.put, List.setIfInBounds_toArray, List.set_cons_zero, List.set_cons_succ]
          refine wpAnyH_ready (rs := [3]) (by kernel_rfl) (by simp) ?_
          refine AllReadyH.cons rfl (fun K hK => ?_) AllReadyH.nil
          go_simp
          go_at_call 24; refine (HAo.out _ HG6.out).mono ?_; rintro e1 w7 ⟨rfl, hB7⟩; have HG7 : Hid (w5.grownBy w7 none) := (grown_trans HG6.out (grown_below hB7 none)); clear hB7
          go_wp2_with fail
          refine hK.out _ _ (HS12.out _ HG7.out) (fun hHeld => ?_)
          clear hK K
          try simp only [Act.put, List.setIfInBounds_toArray, List.set_cons_zero, List.set_cons_succ]
          refine wpAnyH_ready (rs := [6]) (by kernel_rfl) (by simp) ?_
          refine AllReadyH.cons rfl (fun K hK => ?_) AllReadyH.nil
          go_simp
          go_at_call 25; refine (HCl.out _ HG7.out).mono ?_; rintro e2 w8 ⟨hv8, hB8⟩; obtain ⟨v, rfl, ho⟩ := hv8; obtain ⟨q8, c8, hq8, hc8, hm8, hn8⟩ := own_shape ho; subst hq8; have HG8 : Hid (w5.grownBy w8 none) := (grown_trans HG7.out (grown_below hB8 none)); have HR8 := hide' (rsT_own ho); have HR8c : Hid (N ≤ c8 ∧ c8 ≤ maxLen ∧ (q8 = none → c8 = 0)) := ⟨hc8, hm8, hn8⟩; clear hB8 ho hc8 hm8 hn8
          go_wp2_with fail
          refine hK.out _ _ (HS12.out _ HG8.out) (fun hHeld => ?_)
          clear hK K
          try simp only [Act.put, List.setIfInBounds_toArray, List.set_cons_zero, List.set_cons_succ]
          refine takeD 7 (some 68) (.agg #[.int .i64 k0, .string k1, .int .i64 k2, .string k3, .int .i64 0, .int .i64 0, .int .i64 ag, .int .i64 rank, .slice q8 N c8]) rfl rfl (by kernel_rfl) (by kernel_rfl) (by kernel_rfl) (fun _ _ _ h => h) (Or.inl ⟨by rfl, ?_⟩) (by assumption) ?_
          · intro w hSw; (try dsimp only at hSw); obtain ⟨hb1, hb2⟩ := hSw; have x4 : w.cell? ⟨B0, 0, none⟩ = some (.pointer (some ⟨L, 0, none⟩)) := hb1.cell rfl; have z0 : w.cell? ⟨B3, 0, none⟩ = some (.int .i64 k0) := hb2.cell rfl; have z1 : w.cell? ⟨B3, 1, none⟩ = some (.string k1) := hb2.cell rfl; have z2 : w.cell? ⟨B3, 2, none⟩ = some (.int .i64 k2) := hb2.cell rfl; have z3 : w.cell? ⟨B3, 3, none⟩ = some (.string k3) := hb2.cell rfl; go_simp <;> (intros; omega)
          simp only [Act.put, List.setIfInBounds_toArray, List.set_cons_zero, List.set_cons_succ]
          refine wpAnyH_ready (rs := [9]) (by kernel_rfl) (by simp) ?_
          refine AllReadyH.cons rfl (fun K hK => ?_) AllReadyH.nil
          go_simp
          go_at_call 23; refine (HRp.out _ _ _ HG8.out HR8.out HR8c.out.1 HR8c.out.2.1 HR8c.out.2.2).mono ?_; rintro e3 w9 ⟨rfl, hw9⟩; obtain ⟨Q9, hC9, hM9, hF9⟩ := hw9; have HC9 := hide' hC9; have HM9 := hide' hM9; have HF9' := hide' hF9; have HS9 : Hid (Bx w9 B0 #[.pointer (some ⟨L, 0, none⟩)] 23 ∧ Bx w9 B3 #[.int .i64 k0, .string k1, .int .i64 k2, .string k3] 57) := ⟨(HS12.out _ HG8.out).1.fk hF9 (HnB.out _), (HS12.out _ HG8.out).2.fk hF9 (HnK.out _)⟩; clear hC9 hM9 hF9
          go_wp2_with fail
          refine hK.out _ _ (HS9.out) (fun hHeld => ?_)
          clear hK K
          try simp only [Act.put, List.setIfInBounds_toArray, List.set_cons_zero, List.set_cons_succ]
          refine wpAnyH_done (by kernel_rfl) ?_ _
          clear hHeld
          dsimp only [noPan]
          have HFk9 : Hid (Fk (FC M P) base w w9) := (HF5.out.trans (Fk.idle HG8.out)).trans HF9'.out
          obtain ⟨S2, hS2⟩ : ∃ S2, repS (k0, k1, k2, k3) now ag rank came RR q8 c8 w8.heap.size S = S2 := ⟨_, rfl⟩
          rw [hS2] at HC9 HM9
          have HS2 := hide' hS2
          clear hS2
          obtain ⟨wx, hx⟩ : ∃ wx, w9.drew = wx := ⟨_, rfl⟩
          have HGx : Hid (w9.grownBy wx none) := hx ▸ ⟨rfl, rfl, rfl, Nat.le_refl _, fun _ _ _ => rfl⟩
          have HF13 : Hid (∀ V : World, w9.grownBy V none → Bx V B0 #[.pointer (some ⟨L, 0, none⟩)] 23) := fun V hV => HS9.out.1.grown hV (by simp)
          unfold kyV at HLk
          obtain ⟨⟨l0, l1, l2, l3⟩, hlk⟩ : ∃ K0, lackK xo xt = K0 := ⟨_, rfl⟩
          rw [hlk] at HLk HKl
          have HLE := hide' hlk
          simp only at HLk
          clear hlk
          have HFg : Hid (∀ V, w9.grownBy V none → Calls Tryz.prog 26 #[.pointer (some ⟨L, 0, none⟩), .agg #[.int .i64 l0, .string l1, .int .i64 l2, .string l3]] V fun e w' => e = .returned (.tuple #[]) ∧ ∃ Q', Cac w' L M P base most (repC ag came) (outK Ce.key (l0, l1, l2, l3) S2) Q' ∧ Emap w' M (outK Ce.key (l0, l1, l2, l3) S2) ∧ Fk (FK M P) base V w') := fun V hV => forget_any (I := fun w S => Emap w M S) (r := none) (x := (l0, l1, l2, l3)) (mvE M HKl.out) (HC9.out.idle hV) (Lmap.kept HM9.out hV (by simp)) HKl.out
          go_wp2_with fail
          refine wp_mono (Q := noPan _) ?_ noPan_imp
          refine wp_region_held_drew (S := fun V => Bx V B0 #[.pointer (some ⟨L, 0, none⟩)] 23) (by kernel_rfl) ?_ (fun hHeld => ?_)
          · rw [hx]; exact HF13.out _ HGx.out
          rw [hx] at hHeld ⊢
          refine takeD 0 (some 71) (.pointer (some ⟨L, 0, none⟩)) rfl rfl (by kernel_rfl) (by kernel_rfl) (by kernel_rfl) (fun _ _ _ h => h) (Or.inl ⟨by rfl, ?_⟩) (by assumption) ?_
          · intro w hSw; (try dsimp only at hSw); have x4 : w.cell? ⟨B0, 0, none⟩ = some (.pointer (some ⟨L, 0, none⟩)) := Bx.cell (j := 0) hSw rfl; go_simp <;> (intros; omega)
          simp only [Act.put, List.setIfInBounds_toArray, List.set_cons_zero, List.set_cons_succ]
          refine takeD 1 (some 72) (.string xo) rfl rfl (by kernel_rfl) (by kernel_rfl) (by kernel_rfl) (fun _ _ _ h => h) (Or.inl ⟨by rfl, ?_⟩) (by assumption) ?_
          · intro w hSw; (try dsimp only at hSw); have x4 : w.cell? ⟨B0, 0, none⟩ = some (.pointer (some ⟨L, 0, none⟩)) := Bx.cell (j := 0) hSw rfl; go_simp <;> (intros; omega)
          simp only [Act.put, List.setIfInBounds_toArray, List.set_cons_zero, List.set_cons_succ]
          refine takeD 2 (some 73) (.int .i64 xt) rfl rfl (by kernel_rfl) (by kernel_rfl) (by kernel_rfl) (fun _ _ _ h => h) (Or.inl ⟨by rfl, ?_⟩) (by assumption) ?_
          · intro w hSw; (try dsimp only at hSw); have x4 : w.cell? ⟨B0, 0, none⟩ = some (.pointer (some ⟨L, 0, none⟩)) := Bx.cell (j := 0) hSw rfl; go_simp <;> (intros; omega)
          simp only [Act.put, List.setIfInBounds_toArray, List.set_cons_zero, List.set_cons_succ]
          refine wpAnyH_ready (rs := [3]) (by kernel_rfl) (by simp) ?_
          refine AllReadyH.cons rfl (fun K hK => ?_) AllReadyH.nil
          go_simp
          go_at_call 27; refine (HLk.out _).mono ?_; rintro e4 wy ⟨rfl, hBy⟩; have HGy : Hid (w9.grownBy wy none) := (grown_trans HGx.out (grown_below hBy none)); clear hBy
          go_wp2_with fail
          refine hK.out _ _ (HF13.out _ HGy.out) (fun hHeld => ?_)
          clear hK K
          try simp only [Act.put, List.setIfInBounds_toArray, List.set_cons_zero, List.set_cons_succ]
          refine wpAnyH_ready (rs := [4]) (by kernel_rfl) (by simp) ?_
          refine AllReadyH.cons rfl (fun K hK => ?_) AllReadyH.nil
          go_simp
          go_at_call 26; refine (HFg.out _ HGy.out).mono ?_; rintro e5 wz ⟨rfl, hwz⟩; obtain ⟨Qz, hCz, hMz, hFz⟩ := hwz; have HCz := hide' hCz; have HMz := hide' hMz; have HFz := hide' (hFz.wide fk_fc); have HYz : Hid (Bx wz B0 #[.pointer (some ⟨L, 0, none⟩)] 23) := (HF13.out _ HGy.out).fk HFz.out (HnB.out _); clear hCz hMz hFz
          go_wp2_with fail
          refine hK.out _ _ (HYz.out) (fun hHeld => ?_)
          clear hK K
          try simp only [Act.put, List.setIfInBounds_toArray, List.set_cons_zero, List.set_cons_succ]
          refine wpAnyH_done (by kernel_rfl) ?_ _
          clear hHeld
          dsimp only [noPan]
          obtain ⟨S3, hS3⟩ : ∃ S3, outK Ce.key (l0, l1, l2, l3) S2 = S3 := ⟨_, rfl⟩
          rw [hS3] at HCz HMz
          have HS3 := hide' hS3
          clear hS3
          generalize hcm : repC ag came = cm at HCz
          have HCm2 := hide' hcm
          clear hcm
          have HFkz : Hid (Fk (FC M P) base w wz) := (HFk9.out.trans (Fk.idle HGy.out)).trans HFz.out
          obtain ⟨a6, h6'⟩ : ∃ a, wz.alloc (.cells #[.string xo] 9) = a := ⟨_, rfl⟩
          have HG6z : Hid (wz.grownBy a6 none) := h6' ▸ World.grownBy_alloc wz _ none
          have b6 : Bx a6 wz.heap.size #[.string xo] 9 := h6' ▸ World.alloc_heap_new wz _
          have hsz6 : wz.heap.size < a6.heap.size := b6.lt
          have HB6c : Hid (a6.cell? ⟨wz.heap.size, 0, none⟩ = some (.string xo)) := b6.cell rfl
          have HC6 := hide' (HCz.out.idle HG6z.out)
          have HM6 : Hid (Emap a6 M S3) := Lmap.kept HMz.out HG6z.out (by simp)
          have HY6 := hide' (HYz.out.grown HG6z.out (by simp))
          have HF6 : Hid (Fk (FC M P) base w a6) := HFkz.out.trans (Fk.idle HG6z.out)
          have HMl : Hid (M < a6.heap.size) := HM6.out.lt
          have HPl : Hid (P < a6.heap.size) := HC6.out.pm.lt
          have HWl : Hid (w.heap.size ≤ a6.heap.size) := HF6.out.size
          clear b6
          go_wp2_with (go_at_call 28; refine (callsIn_wide.1 (upward_in Fence.wide 0 trivial rfl _ _)).mono ?_; rintro e w6' ⟨rfl, hw6⟩; rw [h6'] at hw6; have hw6' := hw6.symm; subst hw6')
          refine (wpIn_wide (n := 3)).1 ?_
          apply wpIn_rangeFunc_ownG hro (by omega) (gf := 45) (lb := #[.pointer (some ⟨wz.heap.size, 0, none⟩)]) rfl trivial (enters_of Tryz.func45 (by kernel_rfl) rfl)
            (upward_stops _ (by omega) wz.heap.size xo HNn.out a6 hsz6 HB6c.out) kpN_t (fun W l o o' a b c d => kpN_b W l o o' a b c d) (Below.refl _ _) (fun _ => rfl)
            (fun pre W => (Bx W B0 #[.pointer (some ⟨L, 0, none⟩)] 23 ∧ ∃ Q', Cac W L M P base most cm (voidsS (pre.map UN.v) S3) Q' ∧ Emap W M (voidsS (pre.map UN.v) S3)) ∧ Fk (FC M P) base w W)
            (fun c pre W => False)
            (fun s A B row hs hg hr => ⟨⟨hs.1.1.walk hg hr, by obtain ⟨Q', g1, g2⟩ := hs.1.2; exact ⟨Q', g1.walk hg hr HPl.out, g2.walk hg hr HMl.out⟩⟩, hs.2.walk hg hr HWl.out⟩)
            (fun c s A B row hs hg hr => hs)
            ⟨⟨HY6.out, Qz, HC6.out, HM6.out⟩, HF6.out⟩
          case hassign =>
            intro l x W K hK
            dsimp only [encU]
            gi_wp2
            exact hK
          case hbody =>
            rintro l pre ⟨x, hx⟩ W ⟨⟨hYW, QW, hCW, hMW⟩, hFW⟩ hlen
            have hxs : x.size ≤ 255 := ((isN_iff x).1 hx).1
            have HVk := hide' (fun V => voidKey_any x V (by unfold maxLen; omega))
            have HKx := hide' (HKv.out ⟨x, hx⟩)
            have HCW := hide' hCW
            have HMW := hide' hMW
            have HYW := hide' hYW
            have HFW := hide' hFW
            have hVs : voidsS ((pre ++ [(⟨x, hx⟩ : UN)]).map UN.v) S3 = outK Ce.key (voidK x) (voidsS (pre.map UN.v) S3) := by rw [List.map_append]; exact voidsS_snoc _ _ _
            have HVs := hide' hVs
            clear hYW hCW hMW hFW hlen hxs hVs
            simp only at HKx
            unfold kyV at HVk
            obtain ⟨⟨v0, v1, v2, v3⟩, hvk⟩ : ∃ K0, voidK x = K0 := ⟨_, rfl⟩
            rw [hvk] at HVk HKx HVs
            simp only at HVk
            clear hvk
            have HFv : Hid (∀ V, W.grownBy V none → Calls Tryz.prog 26 #[.pointer (some ⟨L, 0, none⟩), .agg #[.int .i64 v0, .string v1, .int .i64 v2, .string v3]] V fun e w' => e = .returned (.tuple #[]) ∧ ∃ Q', Cac w' L M P base most cm (outK Ce.key (v0, v1, v2, v3) (voidsS (pre.map UN.v) S3)) Q' ∧ Emap w' M (outK Ce.key (v0, v1, v2, v3) (voidsS (pre.map UN.v) S3)) ∧ Fk (FK M P) base V w') := fun V hV => forget_any (I := fun w S => Emap w M S) (r := none) (x := (v0, v1, v2, v3)) (mvE M HKx.out) (HCW.out.idle hV) (Lmap.kept HMW.out hV (by simp)) HKx.out
            obtain ⟨wv, hwv⟩ : ∃ wv, W.drew = wv := ⟨_, rfl⟩
            have HGv : Hid (W.grownBy wv none) := hwv ▸ ⟨rfl, rfl, rfl, Nat.le_refl _, fun _ _ _ => rfl⟩
            have HF16 : Hid (∀ V : World, W.grownBy V none → Bx V B0 #[.pointer (some ⟨L, 0, none⟩)] 23) := fun V hV => HYW.out.grown hV (by simp)
            dsimp only
            gi_wp2
            refine wpIn_mono (Q := noPan _) ?_ noPan_imp
            refine wpIn_region_heldR (S := fun V => Bx V B0 #[.pointer (some ⟨L, 0, none⟩)] 23) (by kernel_rfl) (by kernel_rfl) noPan_out ?_ (fun hHeld => ?_)
            · rw [hwv]; exact HF16.out _ HGv.out
            rw [hwv] at hHeld ⊢
            refine takeD 0 (some 79) (.pointer (some ⟨L, 0, none⟩)) rfl rfl (by kernel_rfl) (by kernel_rfl) (by kernel_rfl) (fun _ _ _ h => h) (Or.inl ⟨by rfl, ?_⟩) (by assumption) ?_
            · intro w hSw; (try dsimp only at hSw); have x4 : w.cell? ⟨B0, 0, none⟩ = some (.pointer (some ⟨L, 0, none⟩)) := Bx.cell (j := 0) hSw rfl; go_simp <;> (intros; omega)
            simp only [Act.put, List.setIfInBounds_toArray, List.set_cons_zero, List.set_cons_succ]
            refine takeD 1 (some 80) (.string x) rfl rfl (by kernel_rfl) (by kernel_rfl) (by kernel_rfl) (fun _ _ _ h => h) (Or.inl ⟨by rfl, ?_⟩) (by assumption) ?_
            · intro w hSw; (try dsimp only at hSw); have x4 : w.cell? ⟨B0, 0, none⟩ = some (.pointer (some ⟨L, 0, none⟩)) := Bx.cell (j := 0) hSw rfl; go_simp <;> (intros; omega)
            simp only [Act.put, List.setIfInBounds_toArray, List.set_cons_zero, List.set_cons_succ]
            refine wpAnyH_ready (rs := [2]) (by kernel_rfl) (by simp) ?_
            refine AllReadyH.cons rfl (fun K hK => ?_) AllReadyH.nil
            go_simp
            go_at_call 29; refine (HVk.out _).mono ?_; rintro e1 W1 ⟨rfl, hB1⟩; have HGw1 : Hid (W.grownBy W1 none) := (grown_trans HGv.out (grown_below hB1 none)); clear hB1
            go_wp2_with fail
            refine hK.out _ _ (HF16.out _ HGw1.out) (fun hHeld => ?_)
            clear hK K
            try simp only [Act.put, List.setIfInBounds_toArray, List.set_cons_zero, List.set_cons_succ]
            refine wpAnyH_ready (rs := [3]) (by kernel_rfl) (by simp) ?_
            refine AllReadyH.cons rfl (fun K hK => ?_) AllReadyH.nil
            go_simp
            go_at_call 26; refine (HFv.out _ HGw1.out).mono ?_; rintro e2 W2 ⟨rfl, hw2⟩; obtain ⟨Q2, hC2, hM2, hF2⟩ := hw2; have HC2 := hide' hC2; have HM2 := hide' hM2; have HF2 := hide' (hF2.wide (K' := FC M P) fk_fc); have HY2 : Hid (Bx W2 B0 #[.pointer (some ⟨L, 0, none⟩)] 23) := (HF16.out _ HGw1.out).fk HF2.out (HnB.out _); clear hC2 hM2 hF2
            go_wp2_with fail
            refine hK.out _ _ (HY2.out) (fun hHeld => ?_)
            clear hK K
            try simp only [Act.put, List.setIfInBounds_toArray, List.set_cons_zero, List.set_cons_succ]
            refine wpAnyH_done (by kernel_rfl) ?_ _
            clear hHeld
            dsimp only [noPan]
            gi_wp2
            refine ⟨((Fk.idle HGw1.out : Fk (FC M P) base W W1).trans HF2.out).keepsFrom HMl.out HPl.out, trivial, ⟨HY2.out, Q2, ?_, ?_⟩, (HFW.out.trans (Fk.idle HGw1.out)).trans HF2.out⟩
            · rw [HVs.out]; exact HC2.out
            · rw [HVs.out]; exact HM2.out
          case hdone =>
            rintro D ys W hD hys ⟨⟨hYW, QW, hCW, hMW⟩, hFW⟩ hK
            rw [hys] at hCW hMW
            have HPu := hide' (pushOut_any (now := now) hCW hMW HM0.out)
            have HYW := hide' hYW
            have HFW := hide' hFW
            have HKD := hide' hK
            have HMl2 : Hid (M < D) := Nat.lt_of_lt_of_le HMl.out hD
            have HPl2 : Hid (P < D) := Nat.lt_of_lt_of_le HPl.out hD
            have HDw : Hid (w.heap.size ≤ D) := Nat.le_trans HWl.out hD
            have x4 : W.cell? ⟨B0, 0, none⟩ = some (.pointer (some ⟨L, 0, none⟩)) := hYW.cell rfl
            clear hYW hCW hMW hFW hys hK
            go_wp2_with (go_at_call 30; refine HPu.out.mono ?_; rintro e1 W1 ⟨rfl, hw1⟩; obtain ⟨S', Q', hpu, hC1, hM1, hF1⟩ := hw1; have HPu1 := hide' hpu; have HC1' := hide' hC1; have HM1' := hide' hM1; have HF1 := hide' hF1; clear hpu hC1 hM1 hF1)
            have hK1 : W1.heap[D]? = some (.deferred (some [])) := HF1.out.far D _ HKD.out (fun h => h)
            have hgD := grownBy_putObj' W1 D (.deferred none)
            have hrD : ∀ r, some D = some r → D ≤ r ∧ ∃ o : Obj, W1.heap[r]? = some o ∧ o.isCells = false := fun r e => by
              injection e with e
              subst e
              exact ⟨Nat.le_refl _, _, hK1, rfl⟩
            refine ⟨by simp, .inl ⟨_, _, rfl, run_takeDeferred hK1, ?_⟩⟩
            refine ⟨_, results_tmp rfl _ _ _, by rw [HPc.out]; rfl, S', Q', cm, HC1'.out.walk hgD hrD HPl2.out, HM1'.out.walk hgD hrD HMl2.out, (HFW.out.trans HF1.out).walk hgD hrD HDw.out, .inr ⟨HPc.out, HDs.out, ⟨xo, xt, xc, xl, xd⟩, l, HRR.out.symm, q8, c8, w8.heap.size, ?_, ?_⟩⟩
            · rw [HAgE.out]; exact HCm2.out.symm
            · have hpu := HPu1.out
              rw [← HS3.out, ← HS2.out, ← HLE.out, ← HK.out] at hpu
              unfold putS
              rw [HAgE.out]
              exact hpu
          case hstop =>
            rintro D c pre W _ _ h _
            exact h.elim
      · have hal : aliveK (setK xo xt) S now = false := by
          cases hc : aliveK (setK xo xt) S now with
          | false => rfl
          | true => obtain ⟨e, h1, h2⟩ := alive_some hc; exact absurd ⟨e, h1, h2⟩ hold
        rw [hal] at HIA
        have HOld : Hid (∀ e', atK Ce.key (setK xo xt) S = some e' → ¬ (e'.fin > now ∧ e'.rank > rank)) := fun e' he' h => hold ⟨e', he', h.1⟩
        clear hold hal
        go_wp2_with (go_at_call 19; refine HIA.out.mono ?_; rintro e6 w6 ⟨rfl, hw6⟩; have hw6' := hw6.symm; subst hw6')
        obtain ⟨B0, hB0⟩ : ∃ B0, w.heap.size = B0 := ⟨_, rfl⟩
        obtain ⟨B3, hB3⟩ : ∃ B3, w3.heap.size = B3 := ⟨_, rfl⟩
        rw [hB0] at HY5 hwx
        rw [hB3] at HX5 hw3x
        rw [hB0, hB3]
        have HB0 := hide' hB0
        clear hB0 hB3
        have HPc := hide' (putC_ok (S := S) (x := ⟨xo, xt, xc, xl, xd⟩) (l := l) (rank := rank) (now := now) HBad.out (by rw [HRR.out]; exact HDs.out) HOld.out)
        rw [HRR.out] at HPc
        obtain ⟨w6, h6⟩ : ∃ w6, w5.drew = w6 := ⟨_, rfl⟩
        have HG6 : Hid (w5.grownBy w6 none) := h6 ▸ ⟨rfl, rfl, rfl, Nat.le_refl _, fun _ _ _ => rfl⟩
        have HAo : Hid (∀ V, w5.grownBy V none → Calls Tryz.prog 24 #[.slice (some ⟨g, off, none⟩) N c] V fun r w' => r = .returned (.int .i64 (ageF RR)) ∧ Below V.heap.size V w') := fun V hV => HNl.out ▸ ageOf_any RR (some ⟨g, off, none⟩) c V (rs_bel HRs5.out (below_grownC hV)) (by have := HRl.out; omega)
        have HCl : Hid (∀ V, w5.grownBy V none → Calls Tryz.prog 25 #[.slice (some ⟨g, off, none⟩) N c] V fun r w' => (∃ v, r = .returned v ∧ w'.ownsRow V.heap.size 36 5 v N (rce5 RR)) ∧ Below V.heap.size V w') := fun V hV => HNl.out ▸ cloneR_any RR (some ⟨g, off, none⟩) c V HRl.out (rs_bel HRs5.out (below_grownC hV))
        generalize hag : ageF RR = ag at HAg HAo
        have HAgE := hide' hag
        clear hag
        have HRp : Hid (∀ (V : World) (q : Option Addr) (cc : Nat), w5.grownBy V none → RsT V q RR → N ≤ cc → cc ≤ maxLen → (q = none → cc = 0) → Calls Tryz.prog 23 #[.pointer (some ⟨L, 0, none⟩), .agg #[.int .i64 k0, .string k1, .int .i64 k2, .string k3, .int .i64 0, .int .i64 0, .int .i64 ag, .int .i64 rank, .slice q N cc], .int .i64 now] V fun r w' => r = .returned (.tuple #[]) ∧ ∃ Q', Cac w' L M P base most (repC ag came) (repS (k0, k1, k2, k3) now ag rank came RR q cc V.heap.size S) Q' ∧ Emap w' M (repS (k0, k1, k2, k3) now ag rank came RR q cc V.heap.size S) ∧ Fk (FC M P) base V w') := fun V q cc hV hr h1 h2 h3 => HNl.out ▸ replace_any (HC5.out.idle hV) (Lmap.kept HM5.out hV (by simp)) (HK.out ▸ HKs.out) hr (by rw [HNl.out]; exact h1) h2 h3 (by have := HSl.out; omega) HAg.out.1 HAg.out.2.1 HTm.out.1 HTm.out.2 HCm.out.1 (by have := HCm.out.2; omega)
        have HnB : Hid (∀ k, ¬ FC M P k (.cells #[.pointer (some ⟨L, 0, none⟩)] 23 (0, 0))) := fun k h => h.elim (fun e => absurd e (by decide)) (fun e => absurd e (by decide))
        have HnK : Hid (∀ k, ¬ FC M P k (.cells #[.int .i64 k0, .string k1, .int .i64 k2, .string k3] 57 (0, 0))) := fun k h => h.elim (fun e => absurd e (by decide)) (fun e => absurd e (by decide))
        have HS12 : Hid (∀ V : World, w5.grownBy V none → Bx V B0 #[.pointer (some ⟨L, 0, none⟩)] 23 ∧ Bx V B3 #[.int .i64 k0, .string k1, .int .i64 k2, .string k3] 57) := fun V hV => ⟨HY5.out.grown hV (by simp), HX5.out.grown hV (by simp)⟩
        go_wp2_with fail
        refine wp_mono (Q := noPan _) ?_ noPan_imp
        refine wp_region_held_drew (S := fun V => Bx V B0 #[.pointer (some ⟨L, 0, none⟩)] 23 ∧ Bx V B3 #[.int .i64 k0, .string k1, .int .i64 k2, .string k3] 57) (by kernel_rfl) ?_ (fun hHeld => ?_)
        · rw [h6]; exact HS12.out _ HG6.out
        rw [h6] at hHeld ⊢
        refine takeD 0 (some 61) (.pointer (some ⟨L, 0, none⟩)) rfl rfl (by kernel_rfl) (by kernel_rfl) (by kernel_rfl) (fun _ _ _ h => h) (Or.inl ⟨by rfl, ?_⟩) (by assumption) ?_
        · intro w hSw; (try dsimp only at hSw); obtain ⟨hb1, hb2⟩ := hSw; have x4 : w.cell? ⟨B0, 0, none⟩ = some (.pointer (some ⟨L, 0, none⟩)) := hb1.cell rfl; have z0 : w.cell? ⟨B3, 0, none⟩ = some (.int .i64 k0) := hb2.cell rfl; have z1 : w.cell? ⟨B3, 1, none⟩ = some (.string k1) := hb2.cell rfl; have z2 : w.cell? ⟨B3, 2, none⟩ = some (.int .i64 k2) := hb2.cell rfl; have z3 : w.cell? ⟨B3, 3, none⟩ = some (.string k3) := hb2.cell rfl; go_simp <;> (intros; omega)
        simp only [Act.put, List.setIfInBounds_toArray, List.set_cons_zero, List.set_cons_succ]
        refine takeD 1 (some 62) (.agg #[.int .i64 k0, .string k1, .int .i64 k2, .string k3]) rfl rfl (by kernel_rfl) (by kernel_rfl) (by kernel_rfl) (fun _ _ _ h => h) (Or.inl ⟨by rfl, ?_⟩) (by assumption) ?_
        · intro w hSw; (try dsimp only at hSw); obtain ⟨hb1, hb2⟩ := hSw; have x4 : w.cell? ⟨B0, 0, none⟩ = some (.pointer (some ⟨L, 0, none⟩)) := hb1.cell rfl; have z0 : w.cell? ⟨B3, 0, none⟩ = some (.int .i64 k0) := hb2.cell rfl; have z1 : w.cell? ⟨B3, 1, none⟩ = some (.string k1) := hb2.cell rfl; have z2 : w.cell? ⟨B3, 2, none⟩ = some (.int .i64 k2) := hb2.cell rfl; have z3 : w.cell? ⟨B3, 3, none⟩ = some (.string k3) := hb2.cell rfl; go_simp <;> (intros; omega)
        simp only [Act.put, List.setIfInBounds_toArray, List.set_cons_zero, List.set_cons_succ]
        refine takeD 2 (some 63) (.slice (some ⟨g, off, none⟩) N c) rfl rfl (by kernel_rfl) (by kernel_rfl) (by kernel_rfl) (fun _ _ _ h => h) (Or.inl ⟨by rfl, ?_⟩) (by assumption) ?_
        · intro w hSw; (try dsimp only at hSw); obtain ⟨hb1, hb2⟩ := hSw; have x4 : w.cell? ⟨B0, 0, none⟩ = some (.pointer (some ⟨L, 0, none⟩)) := hb1.cell rfl; have z0 : w.cell? ⟨B3, 0, none⟩ = some (.int .i64 k0) := hb2.cell rfl; have z1 : w.cell? ⟨B3, 1, none⟩ = some (.string k1) := hb2.cell rfl; have z2 : w.cell? ⟨B3, 2, none⟩ = some (.int .i64 k2) := hb2.cell rfl; have z3 : w.cell? ⟨B3, 3, none⟩ = some (.string k3) := hb2.cell rfl; go_simp <;> (intros; omega)
        simp only [Act.put, List.setIfInBounds_toArray, List.set_cons_zero, List.set_cons_succ]
        refine takeD 4 (some 65) (.int .i64 rank) rfl rfl (by kernel_rfl) (by kernel_rfl) (by kernel_rfl) (fun _ _ _ h => h) (Or.inl ⟨by rfl, ?_⟩) (by assumption) ?_
        · intro w hSw; (try dsimp only at hSw); obtain ⟨hb1, hb2⟩ := hSw; have x4 : w.cell? ⟨B0, 0, none⟩ = some (.pointer (some ⟨L, 0, none⟩)) := hb1.cell rfl; have z0 : w.cell? ⟨B3, 0, none⟩ = some (.int .i64 k0) := hb2.cell rfl; have z1 : w.cell? ⟨B3, 1, none⟩ = some (.string k1) := hb2.cell rfl; have z2 : w.cell? ⟨B3, 2, none⟩ = some (.int .i64 k2) := hb2.cell rfl; have z3 : w.cell? ⟨B3, 3, none⟩ = some (.string k3) := hb2.cell rfl; go_simp <;> (intros; omega)
        simp only [Act.put, List.setIfInBounds_toArray, List.set_cons_zero, List.set_cons_succ]
        refine takeD 5 (some 66) (.slice (some ⟨g, off, none⟩) N c) rfl rfl (by kernel_rfl) (by kernel_rfl) (by kernel_rfl) (fun _ _ _ h => h) (Or.inl ⟨by rfl, ?_⟩) (by assumption) ?_
        · intro w hSw; (try dsimp only at hSw); obtain ⟨hb1, hb2⟩ := hSw; have x4 : w.cell? ⟨B0, 0, none⟩ = some (.pointer (some ⟨L, 0, none⟩)) := hb1.cell rfl; have z0 : w.cell? ⟨B3, 0, none⟩ = some (.int .i64 k0) := hb2.cell rfl; have z1 : w.cell? ⟨B3, 1, none⟩ = some (.string k1) := hb2.cell rfl; have z2 : w.cell? ⟨B3, 2, none⟩ = some (.int .i64 k2) := hb2.cell rfl; have z3 : w.cell? ⟨B3, 3, none⟩ = some (.string k3) := hb2.cell rfl; go_simp <;> (intros; omega)
        simp only [Act.put, List.setIfInBounds_toArray, List.set_cons_zero, List.set_cons_succ]
        refine takeD 8 (some 69) (.int .i64 now) rfl rfl (by kernel_rfl) (by kernel_rfl) (by kernel_rfl) (fun _ _ _ h => h) (Or.inl ⟨by rfl, ?_⟩) (by assumption) ?_
        · intro w hSw; (try dsimp only at hSw); obtain ⟨hb1, hb2⟩ := hSw; have x4 : w.cell? ⟨B0, 0, none⟩ = some (.pointer (some ⟨L, 0, none⟩)) := hb1.cell rfl; have z0 : w.cell? ⟨B3, 0, none⟩ = some (.int .i64 k0) := hb2.cell rfl; have z1 : w.cell? ⟨B3, 1, none⟩ = some (.string k1) := hb2.cell rfl; have z2 : w.cell? ⟨B3, 2, none⟩ = some (.int .i64 k2) := hb2.cell rfl; have z3 : w.cell? ⟨B3, 3, none⟩ = some (.string k3) := hb2.cell rfl; go_simp <;> (intros; omega)
        simp only [Act.put, List.setIfInBounds_toArray, List.set_cons_zero, List.set_cons_succ]
        refine wpAnyH_ready (rs := [3]) (by kernel_rfl) (by simp) ?_
        refine AllReadyH.cons rfl (fun K hK => ?_) AllReadyH.nil
        go_simp
        go_at_call 24; refine (HAo.out _ HG6.out).mono ?_; rintro e1 w7 ⟨rfl, hB7⟩; have HG7 : Hid (w5.grownBy w7 none) := (grown_trans HG6.out (grown_below hB7 none)); clear hB7
        go_wp2_with fail
        refine hK.out _ _ (HS12.out _ HG7.out) (fun hHeld => ?_)
        clear hK K
        try simp only [Act.put, List.setIfInBounds_toArray, List.set_cons_zero, List.set_cons_succ]
        refine wpAnyH_ready (rs := [6]) (by kernel_rfl) (by simp) ?_
        refine AllReadyH.cons rfl (fun K hK => ?_) AllReadyH.nil
        go_simp
        go_at_call 25; refine (HCl.out _ HG7.out).mono ?_; rintro e2 w8 ⟨hv8, hB8⟩; obtain ⟨v, rfl, ho⟩ := hv8; obtain ⟨q8, c8, hq8, hc8, hm8, hn8⟩ := own_shape ho; subst hq8; have HG8 : Hid (w5.grownBy w8 none) := (grown_trans HG7.out (grown_below hB8 none)); have HR8 := hide' (rsT_own ho); have HR8c : Hid (N ≤ c8 ∧ c8 ≤ maxLen ∧ (q8 = none → c8 = 0)) := ⟨hc8, hm8, hn8⟩; clear hB8 ho hc8 hm8 hn8
        go_wp2_with fail
        refine hK.out _ _ (HS12.out _ HG8.out) (fun hHeld => ?_)
        clear hK K
        try simp only [Act.put, List.setIfInBounds_toArray, List.set_cons_zero, List.set_cons_succ]
        refine takeD 7 (some 68) (.agg #[.int .i64 k0, .string k1, .int .i64 k2, .string k3, .int .i64 0, .int .i64 0, .int .i64 ag, .int .i64 rank, .slice q8 N c8]) rfl rfl (by kernel_rfl) (by kernel_rfl) (by kernel_rfl) (fun _ _ _ h => h) (Or.inl ⟨by rfl, ?_⟩) (by assumption) ?_
        · intro w hSw; (try dsimp only at hSw); obtain ⟨hb1, hb2⟩ := hSw; have x4 : w.cell? ⟨B0, 0, none⟩ = some (.pointer (some ⟨L, 0, none⟩)) := hb1.cell rfl; have z0 : w.cell? ⟨B3, 0, none⟩ = some (.int .i64 k0) := hb2.cell rfl; have z1 : w.cell? ⟨B3, 1, none⟩ = some (.string k1) := hb2.cell rfl; have z2 : w.cell? ⟨B3, 2, none⟩ = some (.int .i64 k2) := hb2.cell rfl; have z3 : w.cell? ⟨B3, 3, none⟩ = some (.string k3) := hb2.cell rfl; go_simp <;> (intros; omega)
        simp only [Act.put, List.setIfInBounds_toArray, List.set_cons_zero, List.set_cons_succ]
        refine wpAnyH_ready (rs := [9]) (by kernel_rfl) (by simp) ?_
        refine AllReadyH.cons rfl (fun K hK => ?_) AllReadyH.nil
        go_simp
        go_at_call 23; refine (HRp.out _ _ _ HG8.out HR8.out HR8c.out.1 HR8c.out.2.1 HR8c.out.2.2).mono ?_; rintro e3 w9 ⟨rfl, hw9⟩; obtain ⟨Q9, hC9, hM9, hF9⟩ := hw9; have HC9 := hide' hC9; have HM9 := hide' hM9; have HF9' := hide' hF9; have HS9 : Hid (Bx w9 B0 #[.pointer (some ⟨L, 0, none⟩)] 23 ∧ Bx w9 B3 #[.int .i64 k0, .string k1, .int .i64 k2, .string k3] 57) := ⟨(HS12.out _ HG8.out).1.fk hF9 (HnB.out _), (HS12.out _ HG8.out).2.fk hF9 (HnK.out _)⟩; clear hC9 hM9 hF9
        go_wp2_with fail
        refine hK.out _ _ (HS9.out) (fun hHeld => ?_)
        clear hK K
        try simp only [Act.put, List.setIfInBounds_toArray, List.set_cons_zero, List.set_cons_succ]
        refine wpAnyH_done (by kernel_rfl) ?_ _
        clear hHeld
        dsimp only [noPan]
        have HFk9 : Hid (Fk (FC M P) base w w9) := (HF5.out.trans (Fk.idle HG8.out)).trans HF9'.out
        obtain ⟨S2, hS2⟩ : ∃ S2, repS (k0, k1, k2, k3) now ag rank came RR q8 c8 w8.heap.size S = S2 := ⟨_, rfl⟩
        rw [hS2] at HC9 HM9
        have HS2 := hide' hS2
        clear hS2
        obtain ⟨wx, hx⟩ : ∃ wx, w9.drew = wx := ⟨_, rfl⟩
        have HGx : Hid (w9.grownBy wx none) := hx ▸ ⟨rfl, rfl, rfl, Nat.le_refl _, fun _ _ _ => rfl⟩
        have HF13 : Hid (∀ V : World, w9.grownBy V none → Bx V B0 #[.pointer (some ⟨L, 0, none⟩)] 23) := fun V hV => HS9.out.1.grown hV (by simp)
        unfold kyV at HLk
        obtain ⟨⟨l0, l1, l2, l3⟩, hlk⟩ : ∃ K0, lackK xo xt = K0 := ⟨_, rfl⟩
        rw [hlk] at HLk HKl
        have HLE := hide' hlk
        simp only at HLk
        clear hlk
        have HFg : Hid (∀ V, w9.grownBy V none → Calls Tryz.prog 26 #[.pointer (some ⟨L, 0, none⟩), .agg #[.int .i64 l0, .string l1, .int .i64 l2, .string l3]] V fun e w' => e = .returned (.tuple #[]) ∧ ∃ Q', Cac w' L M P base most (repC ag came) (outK Ce.key (l0, l1, l2, l3) S2) Q' ∧ Emap w' M (outK Ce.key (l0, l1, l2, l3) S2) ∧ Fk (FK M P) base V w') := fun V hV => forget_any (I := fun w S => Emap w M S) (r := none) (x := (l0, l1, l2, l3)) (mvE M HKl.out) (HC9.out.idle hV) (Lmap.kept HM9.out hV (by simp)) HKl.out
        go_wp2_with fail
        refine wp_mono (Q := noPan _) ?_ noPan_imp
        refine wp_region_held_drew (S := fun V => Bx V B0 #[.pointer (some ⟨L, 0, none⟩)] 23) (by kernel_rfl) ?_ (fun hHeld => ?_)
        · rw [hx]; exact HF13.out _ HGx.out
        rw [hx] at hHeld ⊢
        refine takeD 0 (some 71) (.pointer (some ⟨L, 0, none⟩)) rfl rfl (by kernel_rfl) (by kernel_rfl) (by kernel_rfl) (fun _ _ _ h => h) (Or.inl ⟨by rfl, ?_⟩) (by assumption) ?_
        · intro w hSw; (try dsimp only at hSw); have x4 : w.cell? ⟨B0, 0, none⟩ = some (.pointer (some ⟨L, 0, none⟩)) := Bx.cell (j := 0) hSw rfl; go_simp <;> (intros; omega)
        simp only [Act.put, List.setIfInBounds_toArray, List.set_cons_zero, List.set_cons_succ]
        refine takeD 1 (some 72) (.string xo) rfl rfl (by kernel_rfl) (by kernel_rfl) (by kernel_rfl) (fun _ _ _ h => h) (Or.inl ⟨by rfl, ?_⟩) (by assumption) ?_
        · intro w hSw; (try dsimp only at hSw); have x4 : w.cell? ⟨B0, 0, none⟩ = some (.pointer (some ⟨L, 0, none⟩)) := Bx.cell (j := 0) hSw rfl; go_simp <;> (intros; omega)
        simp only [Act.put, List.setIfInBounds_toArray, List.set_cons_zero, List.set_cons_succ]
        refine takeD 2 (some 73) (.int .i64 xt) rfl rfl (by kernel_rfl) (by kernel_rfl) (by kernel_rfl) (fun _ _ _ h => h) (Or.inl ⟨by rfl, ?_⟩) (by assumption) ?_
        · intro w hSw; (try dsimp only at hSw); have x4 : w.cell? ⟨B0, 0, none⟩ = some (.pointer (some ⟨L, 0, none⟩)) := Bx.cell (j := 0) hSw rfl; go_simp <;> (intros; omega)
        simp only [Act.put, List.setIfInBounds_toArray, List.set_cons_zero, List.set_cons_succ]
        refine wpAnyH_ready (rs := [3]) (by kernel_rfl) (by simp) ?_
        refine AllReadyH.cons rfl (fun K hK => ?_) AllReadyH.nil
        go_simp
        go_at_call 27; refine (HLk.out _).mono ?_; rintro e4 wy ⟨rfl, hBy⟩; have HGy : Hid (w9.grownBy wy none) := (grown_trans HGx.out (grown_below hBy none)); clear hBy
        go_wp2_with fail
        refine hK.out _ _ (HF13.out _ HGy.out) (fun hHeld => ?_)
        clear hK K
        try simp only [Act.put, List.setIfInBounds_toArray, List.set_cons_zero, List.set_cons_succ]
        refine wpAnyH_ready (rs := [4]) (by kernel_rfl) (by simp) ?_
        refine AllReadyH.cons rfl (fun K hK => ?_) AllReadyH.nil
        go_simp
        go_at_call 26; refine (HFg.out _ HGy.out).mono ?_; rintro e5 wz ⟨rfl, hwz⟩; obtain ⟨Qz, hCz, hMz, hFz⟩ := hwz; have HCz := hide' hCz; have HMz := hide' hMz; have HFz := hide' (hFz.wide fk_fc); have HYz : Hid (Bx wz B0 #[.pointer (some ⟨L, 0, none⟩)] 23) := (HF13.out _ HGy.out).fk HFz.out (HnB.out _); clear hCz hMz hFz
        go_wp2_with fail
        refine hK.out _ _ (HYz.out) (fun hHeld => ?_)
        clear hK K
        try simp only [Act.put, List.setIfInBounds_toArray, List.set_cons_zero, List.set_cons_succ]
        refine wpAnyH_done (by kernel_rfl) ?_ _
        clear hHeld
        dsimp only [noPan]
        obtain ⟨S3, hS3⟩ : ∃ S3, outK Ce.key (l0, l1, l2, l3) S2 = S3 := ⟨_, rfl⟩
        rw [hS3] at HCz HMz
        have HS3 := hide' hS3
        clear hS3
        generalize hcm : repC ag came = cm at HCz
        have HCm2 := hide' hcm
        clear hcm
        have HFkz : Hid (Fk (FC M P) base w wz) := (HFk9.out.trans (Fk.idle HGy.out)).trans HFz.out
        obtain ⟨a6, h6'⟩ : ∃ a, wz.alloc (.cells #[.string xo] 9) = a := ⟨_, rfl⟩
        have HG6z : Hid (wz.grownBy a6 none) := h6' ▸ World.grownBy_alloc wz _ none
        have b6 : Bx a6 wz.heap.size #[.string xo] 9 := h6' ▸ World.alloc_heap_new wz _
        have hsz6 : wz.heap.size < a6.heap.size := b6.lt
        have HB6c : Hid (a6.cell? ⟨wz.heap.size, 0, none⟩ = some (.string xo)) := b6.cell rfl
        have HC6 := hide' (HCz.out.idle HG6z.out)
        have HM6 : Hid (Emap a6 M S3) := Lmap.kept HMz.out HG6z.out (by simp)
        have HY6 := hide' (HYz.out.grown HG6z.out (by simp))
        have HF6 : Hid (Fk (FC M P) base w a6) := HFkz.out.trans (Fk.idle HG6z.out)
        have HMl : Hid (M < a6.heap.size) := HM6.out.lt
        have HPl : Hid (P < a6.heap.size) := HC6.out.pm.lt
        have HWl : Hid (w.heap.size ≤ a6.heap.size) := HF6.out.size
        clear b6
        go_wp2_with (go_at_call 28; refine (callsIn_wide.1 (upward_in Fence.wide 0 trivial rfl _ _)).mono ?_; rintro e w6' ⟨rfl, hw6⟩; rw [h6'] at hw6; have hw6' := hw6.symm; subst hw6')
        refine (wpIn_wide (n := 3)).1 ?_
        apply wpIn_rangeFunc_ownG hro (by omega) (gf := 45) (lb := #[.pointer (some ⟨wz.heap.size, 0, none⟩)]) rfl trivial (enters_of Tryz.func45 (by kernel_rfl) rfl)
          (upward_stops _ (by omega) wz.heap.size xo HNn.out a6 hsz6 HB6c.out) kpN_t (fun W l o o' a b c d => kpN_b W l o o' a b c d) (Below.refl _ _) (fun _ => rfl)
          (fun pre W => (Bx W B0 #[.pointer (some ⟨L, 0, none⟩)] 23 ∧ ∃ Q', Cac W L M P base most cm (voidsS (pre.map UN.v) S3) Q' ∧ Emap W M (voidsS (pre.map UN.v) S3)) ∧ Fk (FC M P) base w W)
          (fun c pre W => False)
          (fun s A B row hs hg hr => ⟨⟨hs.1.1.walk hg hr, by obtain ⟨Q', g1, g2⟩ := hs.1.2; exact ⟨Q', g1.walk hg hr HPl.out, g2.walk hg hr HMl.out⟩⟩, hs.2.walk hg hr HWl.out⟩)
          (fun c s A B row hs hg hr => hs)
          ⟨⟨HY6.out, Qz, HC6.out, HM6.out⟩, HF6.out⟩
        case hassign =>
          intro l x W K hK
          dsimp only [encU]
          gi_wp2
          exact hK
        case hbody =>
          rintro l pre ⟨x, hx⟩ W ⟨⟨hYW, QW, hCW, hMW⟩, hFW⟩ hlen
          have hxs : x.size ≤ 255 := ((isN_iff x).1 hx).1
          have HVk := hide' (fun V => voidKey_any x V (by unfold maxLen; omega))
          have HKx := hide' (HKv.out ⟨x, hx⟩)
          have HCW := hide' hCW
          have HMW := hide' hMW
          have HYW := hide' hYW
          have HFW := hide' hFW
          have hVs : voidsS ((pre ++ [(⟨x, hx⟩ : UN)]).map UN.v) S3 = outK Ce.key (voidK x) (voidsS (pre.map UN.v) S3) := by rw [List.map_append]; exact voidsS_snoc _ _ _
          have HVs := hide' hVs
          clear hYW hCW hMW hFW hlen hxs hVs
          simp only at HKx
          unfold kyV at HVk
          obtain ⟨⟨v0, v1, v2, v3⟩, hvk⟩ : ∃ K0, voidK x = K0 := ⟨_, rfl⟩
          rw [hvk] at HVk HKx HVs
          simp only at HVk
          clear hvk
          have HFv : Hid (∀ V, W.grownBy V none → Calls Tryz.prog 26 #[.pointer (some ⟨L, 0, none⟩), .agg #[.int .i64 v0, .string v1, .int .i64 v2, .string v3]] V fun e w' => e = .returned (.tuple #[]) ∧ ∃ Q', Cac w' L M P base most cm (outK Ce.key (v0, v1, v2, v3) (voidsS (pre.map UN.v) S3)) Q' ∧ Emap w' M (outK Ce.key (v0, v1, v2, v3) (voidsS (pre.map UN.v) S3)) ∧ Fk (FK M P) base V w') := fun V hV => forget_any (I := fun w S => Emap w M S) (r := none) (x := (v0, v1, v2, v3)) (mvE M HKx.out) (HCW.out.idle hV) (Lmap.kept HMW.out hV (by simp)) HKx.out
          obtain ⟨wv, hwv⟩ : ∃ wv, W.drew = wv := ⟨_, rfl⟩
          have HGv : Hid (W.grownBy wv none) := hwv ▸ ⟨rfl, rfl, rfl, Nat.le_refl _, fun _ _ _ => rfl⟩
          have HF16 : Hid (∀ V : World, W.grownBy V none → Bx V B0 #[.pointer (some ⟨L, 0, none⟩)] 23) := fun V hV => HYW.out.grown hV (by simp)
          dsimp only
          gi_wp2
          refine wpIn_mono (Q := noPan _) ?_ noPan_imp
          refine wpIn_region_heldR (S := fun V => Bx V B0 #[.pointer (some ⟨L, 0, none⟩)] 23) (by kernel_rfl) (by kernel_rfl) noPan_out ?_ (fun hHeld => ?_)
          · rw [hwv]; exact HF16.out _ HGv.out
          rw [hwv] at hHeld ⊢
          refine takeD 0 (some 79) (.pointer (some ⟨L, 0, none⟩)) rfl rfl (by kernel_rfl) (by kernel_rfl) (by kernel_rfl) (fun _ _ _ h => h) (Or.inl ⟨by rfl, ?_⟩) (by assumption) ?_
          · intro w hSw; (try dsimp only at hSw); have x4 : w.cell? ⟨B0, 0, none⟩ = some (.pointer (some ⟨L, 0, none⟩)) := Bx.cell (j := 0) hSw rfl; go_simp <;> (intros; omega)
          simp only [Act.put, List.setIfInBounds_toArray, List.set_cons_zero, List.set_cons_succ]
          refine takeD 1 (some 80) (.string x) rfl rfl (by kernel_rfl) (by kernel_rfl) (by kernel_rfl) (fun _ _ _ h => h) (Or.inl ⟨by rfl, ?_⟩) (by assumption) ?_
          · intro w hSw; (try dsimp only at hSw); have x4 : w.cell? ⟨B0, 0, none⟩ = some (.pointer (some ⟨L, 0, none⟩)) := Bx.cell (j := 0) hSw rfl; go_simp <;> (intros; omega)
          simp only [Act.put, List.setIfInBounds_toArray, List.set_cons_zero, List.set_cons_succ]
          refine wpAnyH_ready (rs := [2]) (by kernel_rfl) (by simp) ?_
          refine AllReadyH.cons rfl (fun K hK => ?_) AllReadyH.nil
          go_simp
          go_at_call 29; refine (HVk.out _).mono ?_; rintro e1 W1 ⟨rfl, hB1⟩; have HGw1 : Hid (W.grownBy W1 none) := (grown_trans HGv.out (grown_below hB1 none)); clear hB1
          go_wp2_with fail
          refine hK.out _ _ (HF16.out _ HGw1.out) (fun hHeld => ?_)
          clear hK K
          try simp only [Act.put, List.setIfInBounds_toArray, List.set_cons_zero, List.set_cons_succ]
          refine wpAnyH_ready (rs := [3]) (by kernel_rfl) (by simp) ?_
          refine AllReadyH.cons rfl (fun K hK => ?_) AllReadyH.nil
          go_simp
          go_at_call 26; refine (HFv.out _ HGw1.out).mono ?_; rintro e2 W2 ⟨rfl, hw2⟩; obtain ⟨Q2, hC2, hM2, hF2⟩ := hw2; have HC2 := hide' hC2; have HM2 := hide' hM2; have HF2 := hide' (hF2.wide (K' := FC M P) fk_fc); have HY2 : Hid (Bx W2 B0 #[.pointer (some ⟨L, 0, none⟩)] 23) := (HF16.out _ HGw1.out).fk HF2.out (HnB.out _); clear hC2 hM2 hF2
          go_wp2_with fail
          refine hK.out _ _ (HY2.out) (fun hHeld => ?_)
          clear hK K
          try simp only [Act.put, List.setIfInBounds_toArray, List.set_cons_zero, List.set_cons_succ]
          refine wpAnyH_done (by kernel_rfl) ?_ _
          clear hHeld
          dsimp only [noPan]
          gi_wp2
          refine ⟨((Fk.idle HGw1.out : Fk (FC M P) base W W1).trans HF2.out).keepsFrom HMl.out HPl.out, trivial, ⟨HY2.out, Q2, ?_, ?_⟩, (HFW.out.trans (Fk.idle HGw1.out)).trans HF2.out⟩
          · rw [HVs.out]; exact HC2.out
          · rw [HVs.out]; exact HM2.out
        case hdone =>
          rintro D ys W hD hys ⟨⟨hYW, QW, hCW, hMW⟩, hFW⟩ hK
          rw [hys] at hCW hMW
          have HPu := hide' (pushOut_any (now := now) hCW hMW HM0.out)
          have HYW := hide' hYW
          have HFW := hide' hFW
          have HKD := hide' hK
          have HMl2 : Hid (M < D) := Nat.lt_of_lt_of_le HMl.out hD
          have HPl2 : Hid (P < D) := Nat.lt_of_lt_of_le HPl.out hD
          have HDw : Hid (w.heap.size ≤ D) := Nat.le_trans HWl.out hD
          have x4 : W.cell? ⟨B0, 0, none⟩ = some (.pointer (some ⟨L, 0, none⟩)) := hYW.cell rfl
          clear hYW hCW hMW hFW hys hK
          go_wp2_with (go_at_call 30; refine HPu.out.mono ?_; rintro e1 W1 ⟨rfl, hw1⟩; obtain ⟨S', Q', hpu, hC1, hM1, hF1⟩ := hw1; have HPu1 := hide' hpu; have HC1' := hide' hC1; have HM1' := hide' hM1; have HF1 := hide' hF1; clear hpu hC1 hM1 hF1)
          have hK1 : W1.heap[D]? = some (.deferred (some [])) := HF1.out.far D _ HKD.out (fun h => h)
          have hgD := grownBy_putObj' W1 D (.deferred none)
          have hrD : ∀ r, some D = some r → D ≤ r ∧ ∃ o : Obj, W1.heap[r]? = some o ∧ o.isCells = false := fun r e => by
            injection e with e
            subst e
            exact ⟨Nat.le_refl _, _, hK1, rfl⟩
          refine ⟨by simp, .inl ⟨_, _, rfl, run_takeDeferred hK1, ?_⟩⟩
          refine ⟨_, results_tmp rfl _ _ _, by rw [HPc.out]; rfl, S', Q', cm, HC1'.out.walk hgD hrD HPl2.out, HM1'.out.walk hgD hrD HMl2.out, (HFW.out.trans HF1.out).walk hgD hrD HDw.out, .inr ⟨HPc.out, HDs.out, ⟨xo, xt, xc, xl, xd⟩, l, HRR.out.symm, q8, c8, w8.heap.size, ?_, ?_⟩⟩
          · rw [HAgE.out]; exact HCm2.out.symm
          · have hpu := HPu1.out
            rw [← HS3.out, ← HS2.out, ← HLE.out, ← HK.out] at hpu
            unfold putS
            rw [HAgE.out]
            exact hpu
        case hstop =>
          rintro D c pre W _ _ h _
          exact h.elim
end Go.Proofs.YtgekfhghambacaaGreat
