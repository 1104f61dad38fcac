import Derived.Test.YtgekfhghambacaaGreatCch
/-
  Chapter 12: (*cache.Cache).Look. (The verifier's own text; mkcci.py writes it.)
-/
namespace Go.Proofs.YtgekfhghambacaaGreat
set_option linter.unusedVariables false
set_option linter.unusedSimpArgs false
open Go.RowKit Go.Shelf Go.Maps Go.Proofs.YtgekfhghambacaaGreat.Nm

theorem alive_some {x : Ky} {S : List Ce} {now : Int} (h : aliveK x S now = true) : ∃ e, atK Ce.key x S = some e ∧ e.fin > now := by
  unfold aliveK at h
  cases hc : atK Ce.key x S with
  | none => rw [hc] at h; cases h
  | some e => rw [hc] at h; exact ⟨e, rfl, by simpa using h⟩
theorem wf64C (t : Int) (h0 : -9223372036854775808 ≤ t) (h1 : t ≤ 9223372036854775807) : (Lit.int .i64 t).wf = true := by
  simp only [Lit.wf, Bool.and_eq_true, decide_eq_true_eq]
  exact ⟨by show (-9223372036854775808 : Int) ≤ t; exact h0, by show t ≤ 9223372036854775807; exact h1⟩
/-- what an entry tells -/
def tellE (kind now : Int) (e : Ce) : Int × Int × List Rn := (kind, e.rank, e.recs.map (agR (min (e.fin - now) e.age)))
/-- what Look says -/
def lookB (S : List Ce) (n : ByteArray) (t now : Int) : Int × Int × List Rn :=
  if isN n = true ∧ 1 ≤ t ∧ t ≤ 65535 ∧ 0 ≤ now ∧ now ≤ 4294967295 then
    if aliveK (setK n t) S now = true then (match atK Ce.key (setK n t) S with | some e => tellE 1 now e | none => (0, 0, []))
    else if aliveK (setK n 5) S now = true then (match atK Ce.key (setK n 5) S with | some e => tellE 2 now e | none => (0, 0, []))
    else (absB S now n t, 0, [])
  else (0, 0, [])
theorem lookB_no {S : List Ce} {n : ByteArray} {t now : Int} (h : ¬ (isN n = true ∧ 1 ≤ t ∧ t ≤ 65535 ∧ 0 ≤ now ∧ now ≤ 4294967295)) : lookB S n t now = (0, 0, []) := by unfold lookB; rw [if_neg h]
theorem lookB_set {S : List Ce} {n : ByteArray} {t now : Int} {e : Ce} (h : isN n = true ∧ 1 ≤ t ∧ t ≤ 65535 ∧ 0 ≤ now ∧ now ≤ 4294967295) (h1 : aliveK (setK n t) S now = true) (h2 : atK Ce.key (setK n t) S = some e) : lookB S n t now = tellE 1 now e := by unfold lookB; rw [if_pos h, if_pos h1, h2]
theorem lookB_alias {S : List Ce} {n : ByteArray} {t now : Int} {e : Ce} (h : isN n = true ∧ 1 ≤ t ∧ t ≤ 65535 ∧ 0 ≤ now ∧ now ≤ 4294967295) (h0 : aliveK (setK n t) S now = false) (h1 : aliveK (setK n 5) S now = true) (h2 : atK Ce.key (setK n 5) S = some e) : lookB S n t now = tellE 2 now e := by unfold lookB; rw [if_pos h, if_neg (by rw [h0]; simp), if_pos h1, h2]
theorem lookB_abs {S : List Ce} {n : ByteArray} {t now : Int} (h : isN n = true ∧ 1 ≤ t ∧ t ≤ 65535 ∧ 0 ≤ now ∧ now ≤ 4294967295) (h0 : aliveK (setK n t) S now = false) (h1 : aliveK (setK n 5) S now = false) : lookB S n t now = (absB S now n t, 0, []) := by unfold lookB; rw [if_pos h, if_neg (by rw [h0]; simp), if_neg (by rw [h1]; simp)]
/-- what is asked of every entry -/
structure EOk (S : List Ce) : Prop where
  set : ∀ e ∈ S, e.key.1 = 0 → e.recs ≠ [] ∧ e.recs.length ≤ 1048576
  fin : ∀ e ∈ S, 0 ≤ e.fin ∧ e.fin ≤ 8589934592
  prf : ∀ e ∈ S, e.key.1 = 3 → e.recs.length = 1 ∧ ∀ r ∈ e.recs, r.o.size ≤ 1048576 ∧ r.d.size ≤ 9223372036854775807
/-- what Look hands back -/
def lookE (w : World) (K : Int × Int × List Rn) (r : Ending) (w' : World) : Prop := (∃ v, r = .returned (.agg #[.int .i64 K.1, .int .i64 K.2.1, v]) ∧ w'.ownsRow w.heap.size 36 5 v K.2.2.length (rce5 K.2.2)) ∧ Below w.heap.size w w'
theorem own_far3C {w : World} {base R : Nat} {n : Nat} {xs : List Value} {v a b c : Value} {T : TypeId} (h : w.ownsRow base 36 5 v n xs) (hb : Bx w R #[a, b, c] T) (hR : T ≠ 36) (x y z : Value) : (((w.setCell ⟨R, 0, none⟩ x).setCell ⟨R, 1, none⟩ y).setCell ⟨R, 2, none⟩ z).ownsRow base 36 5 v n xs := by
  have h' := h
  refine own_blk h (fun k hk => ?_)
  have hne : k ≠ R := fun e => by
    subst e
    obtain ⟨_, (⟨h1, h2⟩ | ⟨g, cap, cur, h1, _, hg, _⟩)⟩ := h'
    · rw [h1] at hk; cases hk
    · rw [h1] at hk
      unfold Value.ownBlock at hk
      injection hk with hk
      subst hk
      unfold Bx at hb
      rw [hg] at hb
      injection hb with hb
      injection hb with _ hb _
      exact hR hb.symm
  rw [Below.heap_setCell _ _ _ _ hne, Below.heap_setCell _ _ _ _ hne, Below.heap_setCell _ _ _ _ hne]
set_option maxRecDepth 100000 in
set_option maxHeartbeats 4000000 in
/-- (*cache.Cache).Look -/
theorem look_any {w : World} {L M P base : Nat} {most came : Int} {S : List Ce} {Q : List Qe} (h : Cac w L M P base most came S Q) (hM : Emap w M S) (ok : EOk S) (hm : most ≠ 0) (n : ByteArray) (t now : Int) (hn : n.size ≤ maxLen) :
    Calls Tryz.prog 6 #[.pointer (some ⟨L, 0, none⟩), .string n, .int .i64 t, .int .i64 now] w (lookE w (lookB S n t now)) := by
  obtain ⟨a1, h1⟩ : ∃ a, w.alloc (.cells #[.int .i64 0, .int .i64 0, .slice none 0 0] 33) = a := ⟨_, rfl⟩
  have HG1 : Hid (w.grownBy a1 none) := h1 ▸ World.grownBy_alloc w _ none
  have HB1 := hide' (below_grownC HG1.out)
  have HX1 : Hid (Bx a1 w.heap.size #[.int .i64 0, .int .i64 0, .slice none 0 0] 33) := h1 ▸ World.alloc_heap_new w _
  have HC1 := hide' (h.idle HG1.out)
  have HIN := hide' (isNone_any L most a1 (HC1.out.bx.cell (j := 0) rfl) hm)
  have HIT := hide' (fun V => isTime_any now V)
  have HM1 : Hid (Emap a1 M S) := Lmap.kept hM HG1.out (by simp)
  have HCk := hide' (fun V => check_any n V hn)
  have HOk := hide' ok
  clear h hM ok hm
  by_cases hall : isN n = true ∧ 1 ≤ t ∧ t ≤ 65535 ∧ 0 ≤ now ∧ now ≤ 4294967295
  · have HAll := hide' hall
    obtain ⟨hN, ht1, ht2, hw1, hw2⟩ := hall
    have hns : n.size ≤ 255 := ((isN_iff n).1 hN).1
    have hck : chk n = 0 := by unfold chk; rw [if_pos hN]
    have htm : decide (0 ≤ now ∧ now ≤ 4294967295) = true := decide_eq_true ⟨hw1, hw2⟩
    rw [hck] at HCk
    rw [htm] at HIT
    have hfs := foldB_size hN
    have HK1 : Hid (kyG (setK n t)) := ⟨rfl, by unfold setK maxLen; simp only; omega, by unfold setK; exact wf64C t (by omega) (by omega), by show (0 : Nat) ≤ maxLen; exact Nat.zero_le _⟩
    have HK5 : Hid (kyG (setK n 5)) := ⟨rfl, by unfold setK maxLen; simp only; omega, rfl, by show (0 : Nat) ≤ maxLen; exact Nat.zero_le _⟩
    have HWf : Hid ((Lit.int .i64 t).wf = true) := HK1.out.2.2.1
    have HSt := hide' (fun V => setKey_any n t V hn)
    have HS5 := hide' (fun V => setKey_any n 5 V hn)
    have HF : Hid (∀ V : World, a1.grownBy V none → V.cell? ⟨L, 2, none⟩ = some (.map (some M)) ∧ Emap V M S ∧ Cac V L M P base most came S Q ∧ Bx V w.heap.size #[.int .i64 0, .int .i64 0, .slice none 0 0] 33) := fun V hV =>
      ⟨(HC1.out.idle hV).bx.cell rfl, Lmap.kept HM1.out hV (by simp), HC1.out.idle hV, HX1.out.grown hV (by simp)⟩
    obtain ⟨gt, hgt⟩ := peAt_ptr (setK n t) S
    obtain ⟨g5, hg5⟩ := peAt_ptr (setK n 5) S
    have HGt := hide' hgt
    have HG5 := hide' hg5
    have HFt : Hid (∀ V : World, a1.grownBy V none → V.cell? ⟨L, 2, none⟩ = some (.map (some M)) ∧ (Instr.lookup 47 (.map (some M)) (kyV (setK n t)) false).run Tryz.prog V = .ok (.pointer gt) V) := fun V hg => ⟨(HF.out V hg).1, HGt.out ▸ (HF.out V hg).2.1.look HK1.out⟩
    have HF5 : Hid (∀ V : World, a1.grownBy V none → V.cell? ⟨L, 2, none⟩ = some (.map (some M)) ∧ (Instr.lookup 47 (.map (some M)) (kyV (setK n 5)) false).run Tryz.prog V = .ok (.pointer g5) V) := fun V hg => ⟨(HF.out V hg).1, HG5.out ▸ (HF.out V hg).2.1.look HK5.out⟩
    obtain ⟨at1, ha1⟩ : ∃ b, aliveK (setK n t) S now = b := ⟨_, rfl⟩
    obtain ⟨at5, ha5⟩ : ∃ b, aliveK (setK n 5) S now = b := ⟨_, rfl⟩
    have HA1 := hide' ha1
    have HA5 := hide' ha5
    have HIt : Hid (∀ V : World, a1.grownBy V none → Calls Tryz.prog 19 #[.pointer gt, .int .i64 now] V fun r w' => r = .returned (.bool at1) ∧ w' = V) := fun V hg => HA1.out ▸ HGt.out ▸ isAlive_at (setK n t) S now V base (HF.out V hg).2.2.1.en
    have HI5 : Hid (∀ V : World, a1.grownBy V none → Calls Tryz.prog 19 #[.pointer g5, .int .i64 now] V fun r w' => r = .returned (.bool at5) ∧ w' = V) := fun V hg => HA5.out ▸ HG5.out ▸ isAlive_at (setK n 5) S now V base (HF.out V hg).2.2.1.en
    have HNn := hide' hN
    have HW2 : Hid (0 ≤ now ∧ now ≤ 4294967295) := ⟨hw1, hw2⟩
    have HAb : Hid (∀ V : World, a1.grownBy V none → Calls Tryz.prog 21 #[.pointer (some ⟨L, 0, none⟩), .string n, .int .i64 t, .int .i64 now] V fun r w' => r = .returned (.int .i64 (absB S now n t)) ∧ Below V.heap.size V w') := fun V hg => callsIn_wide.1 (absence_in (HF.out V hg).2.2.1 (HF.out V hg).2.1 n t now HNn.out HWf.out HOk.out.prf)
    have HKn : Hid (∀ (V : World) (e : Ce) (k : Int) (x : Int), a1.grownBy V none → atK Ce.key (setK n x) S = some e → Calls Tryz.prog 20 #[peV e.blk, .int .i64 k, .int .i64 now] V fun r w' => (∃ g cap, r = .returned (.agg #[.int .i64 k, .int .i64 e.rank, .slice (some ⟨g, 0, none⟩) e.recs.length cap]) ∧ w'.ownsRow V.heap.size 36 5 (.slice (some ⟨g, 0, none⟩) e.recs.length cap) e.recs.length (rce5 (e.recs.map (agR (min (e.fin - now) e.age))))) ∧ Below V.heap.size V w') := fun V e k x hg he => by
      obtain ⟨hes, hek⟩ := atK_some he
      have h0 : e.key.1 = 0 := by rw [hek]; rfl
      exact known_any V base e k now ((HF.out V hg).2.2.1.en e hes) (HOk.out.set e hes h0).1 (HOk.out.set e hes h0).2 (HOk.out.fin e hes).1 (HOk.out.fin e hes).2 HW2.out.1 HW2.out.2
    clear hgt hg5 ha1 ha5 hN hns hck htm hfs
    unfold kyV at HFt HF5 HSt HS5
    generalize hk : setK n t = K0 at HFt HSt
    obtain ⟨k0, k1, k2, k3⟩ := K0
    have HKt := hide' hk
    generalize hk5 : setK n 5 = K5 at HF5 HS5
    obtain ⟨j0, j1, j2, j3⟩ := K5
    simp only at HFt HF5 HSt HS5
    clear hk hk5
    go_enter Tryz.func6, Tryz.ntmps6
    go_wp2_with (first
      | (go_at_call 15; refine HIN.out.mono ?_; rintro e1 w1 ⟨rfl, hw1⟩; have hw1' := hw1.symm; subst hw1')
      | (go_at_call 16; refine (HCk.out _).mono ?_; rintro e2 w2 ⟨rfl, hB2⟩; have HG2 := hide' (grown_below hB2 none); clear hB2)
      | (go_at_call 17; refine (HIT.out _).mono ?_; rintro e3 w3 ⟨rfl, hw3⟩; have hw3' := hw3.symm; subst hw3'))
    have HG2' : Hid (a1.grownBy w2 none) := HG2.out
    have HFt2 : Hid (∀ V : World, w2.grownBy V none → V.cell? ⟨L, 2, none⟩ = some (.map (some M)) ∧ (Instr.lookup 47 (.map (some M)) (.agg #[.int .i64 k0, .string k1, .int .i64 k2, .string k3]) false).run Tryz.prog V = .ok (.pointer gt) V) := fun V hg => HFt.out V (grown_trans HG2.out hg)
    refine wp_region_held_drew (S := fun V => w2.grownBy V none) (by kernel_rfl) ?_ (fun hHeld => ?_)
    · exact ⟨rfl, rfl, rfl, Nat.le_refl _, fun _ _ _ => rfl⟩
    refine takeD 0 (some 32) (.pointer (some ⟨L, 0, none⟩)) rfl rfl (by kernel_rfl) (by kernel_rfl) (by kernel_rfl) (fun _ _ _ h => h) (Or.inl ⟨by rfl, ?_⟩) (by assumption) ?_
    · intro w hSw; (try dsimp only at hSw); obtain ⟨c2, hl⟩ := HFt2.out w hSw; go_simp <;> (intros; omega)
    simp only [Act.put, List.setIfInBounds_toArray, List.set_cons_zero, List.set_cons_succ]
    refine takeD 1 (some 33) (.pointer (some ⟨L, 0, none⟩)) rfl rfl (by kernel_rfl) (by kernel_rfl) (by kernel_rfl) (fun _ _ _ h => h) (Or.inl ⟨by rfl, ?_⟩) (by assumption) ?_
    · intro w hSw; (try dsimp only at hSw); obtain ⟨c2, hl⟩ := HFt2.out w hSw; go_simp <;> (intros; omega)
    simp only [Act.put, List.setIfInBounds_toArray, List.set_cons_zero, List.set_cons_succ]
    refine takeD 2 (some 34) (.pointer (some ⟨L, 2, none⟩)) rfl rfl (by kernel_rfl) (by kernel_rfl) (by kernel_rfl) (fun _ _ _ h => h) (Or.inl ⟨by rfl, ?_⟩) (by assumption) ?_
    · intro w hSw; (try dsimp only at hSw); obtain ⟨c2, hl⟩ := HFt2.out w hSw; go_simp <;> (intros; omega)
    simp only [Act.put, List.setIfInBounds_toArray, List.set_cons_zero, List.set_cons_succ]
    refine takeD 3 (some 35) (.map (some M)) rfl rfl (by kernel_rfl) (by kernel_rfl) (by kernel_rfl) (fun _ _ _ h => h) (Or.inl ⟨by rfl, ?_⟩) (by assumption) ?_
    · intro w hSw; (try dsimp only at hSw); obtain ⟨c2, hl⟩ := HFt2.out w hSw; go_simp <;> (intros; omega)
    simp only [Act.put, List.setIfInBounds_toArray, List.set_cons_zero, List.set_cons_succ]
    refine takeD 4 (some 36) (.string n) rfl rfl (by kernel_rfl) (by kernel_rfl) (by kernel_rfl) (fun _ _ _ h => h) (Or.inl ⟨by rfl, ?_⟩) (by assumption) ?_
    · intro w hSw; (try dsimp only at hSw); obtain ⟨c2, hl⟩ := HFt2.out w hSw; go_simp <;> (intros; omega)
    simp only [Act.put, List.setIfInBounds_toArray, List.set_cons_zero, List.set_cons_succ]
    refine takeD 5 (some 37) (.int .i64 t) rfl rfl (by kernel_rfl) (by kernel_rfl) (by kernel_rfl) (fun _ _ _ h => h) (Or.inl ⟨by rfl, ?_⟩) (by assumption) ?_
    · intro w hSw; (try dsimp only at hSw); obtain ⟨c2, hl⟩ := HFt2.out w hSw; go_simp <;> (intros; omega)
    simp only [Act.put, List.setIfInBounds_toArray, List.set_cons_zero, List.set_cons_succ]
    refine wpAnyH_ready (rs := [6]) (by kernel_rfl) (by simp) ?_
    refine AllReadyH.cons rfl (fun K hK => ?_) AllReadyH.nil
    go_simp
    go_at_call 18; refine (HSt.out _).mono ?_; rintro e1 w3 ⟨rfl, hB1⟩; have HGw3 : Hid (w2.grownBy w3 none) := (grown_trans hHeld (grown_below hB1 none)); clear hB1
    go_wp2_with fail
    refine hK.out _ _ (HGw3.out) (fun hHeld => ?_)
    clear hK K
    try simp only [Act.put, List.setIfInBounds_toArray, List.set_cons_zero, List.set_cons_succ]
    refine takeD 7 (some 39) (.pointer gt) rfl rfl (by kernel_rfl) (by kernel_rfl) (by kernel_rfl) (fun _ _ _ h => h) (Or.inl ⟨by rfl, ?_⟩) (by assumption) ?_
    · intro w hSw; (try dsimp only at hSw); obtain ⟨c2, hl⟩ := HFt2.out w hSw; go_simp <;> (intros; omega)
    simp only [Act.put, List.setIfInBounds_toArray, List.set_cons_zero, List.set_cons_succ]
    refine takeD 8 (some 9) (.pointer gt) rfl rfl (by kernel_rfl) (by kernel_rfl) (by kernel_rfl) (fun _ _ _ h => h) (Or.inl ⟨by rfl, ?_⟩) (by assumption) ?_
    · intro w hSw; (try dsimp only at hSw); obtain ⟨c2, hl⟩ := HFt2.out w hSw; go_simp <;> (intros; omega)
    simp only [Act.put, List.setIfInBounds_toArray, List.set_cons_zero, List.set_cons_succ]
    refine wpAnyH_done (by kernel_rfl) ?_ _
    clear hHeld
    have HG3 := hide' (grown_trans HG2.out HGw3.out)
    cases at1 with
    | true =>
      obtain ⟨e, he, hfin⟩ := alive_some HA1.out
      have HQ := hide' (lookB_set HAll.out HA1.out he)
      have hpe : peV e.blk = .pointer gt := by
        have h := HGt.out
        unfold peAt at h
        rw [he] at h
        exact h
      have HKe := hide' (hpe ▸ HKn.out w3 e 1 t HG3.out he)
      have HB := hide' ((below_grownC HG1.out).trans ((below_grownC (HG3.out)).mono HG1.out.size))
      have HS : Hid (w.heap.size ≤ w3.heap.size) := HB.out.size
      have HXv := hide' (HF.out w3 (HG3.out)).2.2.2
      clear hpe hfin
      unfold tellE at HQ
      generalize hrk : e.rank = rk at HKe HQ
      generalize hrn : e.recs.length = rn at HKe
      generalize hrr : e.recs.map (agR (min (e.fin - now) e.age)) = RR at HKe HQ
      have HRn : Hid (rn = RR.length) := by unfold Hid; rw [← hrr, List.length_map, hrn]
      clear hrk hrn hrr he
      go_wp2_with (first
        | (go_at_call 19; refine (HIt.out _ HG3.out).mono ?_; rintro e4 w4 ⟨rfl, hw4⟩; have hw4' := hw4.symm; subst hw4')
        | (go_at_call 20; refine HKe.out.mono ?_; rintro e5 w5 ⟨hv5, hB5⟩; obtain ⟨g, cap, rfl, ho⟩ := hv5; have HO5 := hide' ho; have HB5 := hide' (bstep HB.out hB5 HB.out.size); have HX5 := hide' (HXv.out.below hB5 HXv.out.lt); obtain ⟨z0, z1, z2, f0, f1, f2⟩ := bx3C HX5.out; clear ho hB5))
      have hb := bx3C_set HX5.out (.int .i64 1) (.int .i64 rk) (.slice (some ⟨g, 0, none⟩) rn cap)
      have HBf := below3C HB5.out (Nat.le_refl _) (.int .i64 1) (.int .i64 rk) (.slice (some ⟨g, 0, none⟩) rn cap)
      obtain ⟨r0, r1, r2, -, -, -⟩ := bx3C hb
      refine bodyPost_ret (v := .agg #[.int .i64 1, .int .i64 rk, .slice (some ⟨g, 0, none⟩) rn cap]) (by simp [results, go_sem, r0, r1, r2]) rfl ?_
      rw [HQ.out]
      refine ⟨⟨_, rfl, ?_⟩, HBf⟩
      rw [← HRn.out]
      exact own_lowC (own_far3C HO5.out HX5.out (by decide) _ _ _) HS.out
    | false =>
      go_wp2_with (go_at_call 19; refine (HIt.out _ HG3.out).mono ?_; rintro e4 w4 ⟨rfl, hw4⟩; have hw4' := hw4.symm; subst hw4')
      have HF53 : Hid (∀ V : World, w3.grownBy V none → V.cell? ⟨L, 2, none⟩ = some (.map (some M)) ∧ (Instr.lookup 47 (.map (some M)) (.agg #[.int .i64 j0, .string j1, .int .i64 j2, .string j3]) false).run Tryz.prog V = .ok (.pointer g5) V) := fun V hg => HF5.out V (grown_trans HG3.out hg)
      refine wp_region_held_drew (S := fun V => w3.grownBy V none) (by kernel_rfl) ?_ (fun hHeld => ?_)
      · exact ⟨rfl, rfl, rfl, Nat.le_refl _, fun _ _ _ => rfl⟩
      refine takeD 0 (some 46) (.pointer (some ⟨L, 0, none⟩)) rfl rfl (by kernel_rfl) (by kernel_rfl) (by kernel_rfl) (fun _ _ _ h => h) (Or.inl ⟨by rfl, ?_⟩) (by assumption) ?_
      · intro w hSw; (try dsimp only at hSw); obtain ⟨c2, hl⟩ := HF53.out w hSw; go_simp <;> (intros; omega)
      simp only [Act.put, List.setIfInBounds_toArray, List.set_cons_zero, List.set_cons_succ]
      refine takeD 1 (some 47) (.pointer (some ⟨L, 0, none⟩)) rfl rfl (by kernel_rfl) (by kernel_rfl) (by kernel_rfl) (fun _ _ _ h => h) (Or.inl ⟨by rfl, ?_⟩) (by assumption) ?_
      · intro w hSw; (try dsimp only at hSw); obtain ⟨c2, hl⟩ := HF53.out w hSw; go_simp <;> (intros; omega)
      simp only [Act.put, List.setIfInBounds_toArray, List.set_cons_zero, List.set_cons_succ]
      refine takeD 2 (some 48) (.pointer (some ⟨L, 2, none⟩)) rfl rfl (by kernel_rfl) (by kernel_rfl) (by kernel_rfl) (fun _ _ _ h => h) (Or.inl ⟨by rfl, ?_⟩) (by assumption) ?_
      · intro w hSw; (try dsimp only at hSw); obtain ⟨c2, hl⟩ := HF53.out w hSw; go_simp <;> (intros; omega)
      simp only [Act.put, List.setIfInBounds_toArray, List.set_cons_zero, List.set_cons_succ]
      refine takeD 3 (some 49) (.map (some M)) rfl rfl (by kernel_rfl) (by kernel_rfl) (by kernel_rfl) (fun _ _ _ h => h) (Or.inl ⟨by rfl, ?_⟩) (by assumption) ?_
      · intro w hSw; (try dsimp only at hSw); obtain ⟨c2, hl⟩ := HF53.out w hSw; go_simp <;> (intros; omega)
      simp only [Act.put, List.setIfInBounds_toArray, List.set_cons_zero, List.set_cons_succ]
      refine takeD 4 (some 50) (.string n) rfl rfl (by kernel_rfl) (by kernel_rfl) (by kernel_rfl) (fun _ _ _ h => h) (Or.inl ⟨by rfl, ?_⟩) (by assumption) ?_
      · intro w hSw; (try dsimp only at hSw); obtain ⟨c2, hl⟩ := HF53.out w hSw; go_simp <;> (intros; omega)
      simp only [Act.put, List.setIfInBounds_toArray, List.set_cons_zero, List.set_cons_succ]
      refine wpAnyH_ready (rs := [5]) (by kernel_rfl) (by simp) ?_
      refine AllReadyH.cons rfl (fun K hK => ?_) AllReadyH.nil
      go_simp
      go_at_call 18; refine (HS5.out _).mono ?_; rintro e1 w5 ⟨rfl, hB1⟩; have HGw5 : Hid (w3.grownBy w5 none) := (grown_trans hHeld (grown_below hB1 none)); clear hB1
      go_wp2_with fail
      refine hK.out _ _ (HGw5.out) (fun hHeld => ?_)
      clear hK K
      try simp only [Act.put, List.setIfInBounds_toArray, List.set_cons_zero, List.set_cons_succ]
      refine takeD 6 (some 52) (.pointer g5) rfl rfl (by kernel_rfl) (by kernel_rfl) (by kernel_rfl) (fun _ _ _ h => h) (Or.inl ⟨by rfl, ?_⟩) (by assumption) ?_
      · intro w hSw; (try dsimp only at hSw); obtain ⟨c2, hl⟩ := HF53.out w hSw; go_simp <;> (intros; omega)
      simp only [Act.put, List.setIfInBounds_toArray, List.set_cons_zero, List.set_cons_succ]
      refine takeD 7 (some 10) (.pointer g5) rfl rfl (by kernel_rfl) (by kernel_rfl) (by kernel_rfl) (fun _ _ _ h => h) (Or.inl ⟨by rfl, ?_⟩) (by assumption) ?_
      · intro w hSw; (try dsimp only at hSw); obtain ⟨c2, hl⟩ := HF53.out w hSw; go_simp <;> (intros; omega)
      simp only [Act.put, List.setIfInBounds_toArray, List.set_cons_zero, List.set_cons_succ]
      refine wpAnyH_done (by kernel_rfl) ?_ _
      clear hHeld
      have HG5w := hide' (grown_trans HG3.out HGw5.out)
      cases at5 with
      | true =>
        obtain ⟨e, he, hfin⟩ := alive_some HA5.out
        have HQ := hide' (lookB_alias HAll.out HA1.out HA5.out he)
        have hpe : peV e.blk = .pointer g5 := by
          have h := HG5.out
          unfold peAt at h
          rw [he] at h
          exact h
        have HKe := hide' (hpe ▸ HKn.out w5 e 2 5 HG5w.out he)
        have HB := hide' ((below_grownC HG1.out).trans ((below_grownC (HG5w.out)).mono HG1.out.size))
        have HS : Hid (w.heap.size ≤ w5.heap.size) := HB.out.size
        have HXv := hide' (HF.out w5 (HG5w.out)).2.2.2
        clear hpe hfin
        unfold tellE at HQ
        generalize hrk : e.rank = rk at HKe HQ
        generalize hrn : e.recs.length = rn at HKe
        generalize hrr : e.recs.map (agR (min (e.fin - now) e.age)) = RR at HKe HQ
        have HRn : Hid (rn = RR.length) := by unfold Hid; rw [← hrr, List.length_map, hrn]
        clear hrk hrn hrr he
        go_wp2_with (first
          | (go_at_call 19; refine (HI5.out _ HG5w.out).mono ?_; rintro e4 w4 ⟨rfl, hw4⟩; have hw4' := hw4.symm; subst hw4')
          | (go_at_call 20; refine HKe.out.mono ?_; rintro e5 w5 ⟨hv5, hB5⟩; obtain ⟨g, cap, rfl, ho⟩ := hv5; have HO5 := hide' ho; have HB5 := hide' (bstep HB.out hB5 HB.out.size); have HX5 := hide' (HXv.out.below hB5 HXv.out.lt); obtain ⟨z0, z1, z2, f0, f1, f2⟩ := bx3C HX5.out; clear ho hB5))
        have hb := bx3C_set HX5.out (.int .i64 2) (.int .i64 rk) (.slice (some ⟨g, 0, none⟩) rn cap)
        have HBf := below3C HB5.out (Nat.le_refl _) (.int .i64 2) (.int .i64 rk) (.slice (some ⟨g, 0, none⟩) rn cap)
        obtain ⟨r0, r1, r2, -, -, -⟩ := bx3C hb
        refine bodyPost_ret (v := .agg #[.int .i64 2, .int .i64 rk, .slice (some ⟨g, 0, none⟩) rn cap]) (by simp [results, go_sem, r0, r1, r2]) rfl ?_
        rw [HQ.out]
        refine ⟨⟨_, rfl, ?_⟩, HBf⟩
        rw [← HRn.out]
        exact own_lowC (own_far3C HO5.out HX5.out (by decide) _ _ _) HS.out
      | false =>
        have HQ := hide' (lookB_abs (S := S) HAll.out HA1.out HA5.out)
        have HX5 := hide' (HF.out w5 HG5w.out).2.2.2
        have HB := hide' ((below_grownC HG1.out).trans ((below_grownC HG5w.out).mono HG1.out.size))
        have HAbs := hide' (HAb.out w5 HG5w.out)
        generalize absB S now n t = ab at HQ HAbs
        go_wp2_with (first
          | (go_at_call 19; refine (HI5.out _ HG5w.out).mono ?_; rintro e6 w6 ⟨rfl, hw6⟩; have hw6' := hw6.symm; subst hw6')
          | (go_at_call 21; refine HAbs.out.mono ?_; rintro e7 w7 ⟨rfl, hB7⟩; have HX7 := hide' (HX5.out.below hB7 HX5.out.lt); have HB7 := hide' (bstep HB.out hB7 HB.out.size); obtain ⟨z0, z1, z2, f0, f1, f2⟩ := bx3C HX7.out; clear hB7))
        have hb := bx3C_set HX7.out (.int .i64 ab) (.int .i64 0) (.slice none 0 0)
        have HBf := below3C HB7.out (Nat.le_refl _) (.int .i64 ab) (.int .i64 0) (.slice none 0 0)
        obtain ⟨r0, r1, r2, -, -, -⟩ := bx3C hb
        refine bodyPost_ret (v := .agg #[.int .i64 ab, .int .i64 0, .slice none 0 0]) (by simp [results, go_sem, r0, r1, r2]) rfl ?_
        rw [HQ.out]
        exact ⟨⟨_, rfl, World.ownsRow_nil _ _ _ _⟩, HBf⟩
  · have HQ := hide' (lookB_no (S := S) hall)
    obtain ⟨z0, z1, z2, f0, f1, f2⟩ := bx3C HX1.out
    have HF0 : Hid (∀ V : World, a1.grownBy V none → Bx V w.heap.size #[.int .i64 0, .int .i64 0, .slice none 0 0] 33 ∧ Below w.heap.size w V) := fun V hV => ⟨HX1.out.grown hV (by simp), HB1.out.grown hV HB1.out.size (fun k e => by cases e)⟩
    have hcases : isN n = false ∨ (isN n = true ∧ t < 1) ∨ (isN n = true ∧ 1 ≤ t ∧ t > 65535) ∨ (isN n = true ∧ 1 ≤ t ∧ t ≤ 65535 ∧ decide (0 ≤ now ∧ now ≤ 4294967295) = false) := by
      cases hc : isN n with
      | false => exact .inl rfl
      | true =>
        rw [hc] at hall
        by_cases c1 : t < 1
        · exact .inr (.inl ⟨rfl, c1⟩)
        · by_cases c2 : t > 65535
          · exact .inr (.inr (.inl ⟨rfl, by omega, c2⟩))
          · exact .inr (.inr (.inr ⟨rfl, by omega, by omega, decide_eq_false (fun c3 => hall ⟨rfl, by omega, by omega, c3.1, c3.2⟩)⟩))
    clear hall
    have HIN2 := hide' HIN.out
    go_enter Tryz.func6, Tryz.ntmps6
    rcases hcases with hN | ⟨hN, h2⟩ | ⟨hN, h2, h3⟩ | ⟨hN, h2, h3, h4⟩
    · have hck : chk n = 1 := by unfold chk; rw [hN]; rfl
      rw [hck] at HCk
      clear hN hck
      go_wp2_with (first
        | (go_at_call 15; refine HIN.out.mono ?_; rintro e1 w1 ⟨rfl, hw1⟩; have hw1' := hw1.symm; subst hw1')
        | (go_at_call 16; refine (HCk.out _).mono ?_; rintro e2 w2 ⟨rfl, hB2⟩; have HG2 := hide' (grown_below hB2 none); obtain ⟨y0, y1, y2, g0, g1, g2⟩ := bx3C (HF0.out _ HG2.out).1; clear hB2)
        | (go_at_call 17; refine (HIT.out _).mono ?_; rintro e3 w3 ⟨rfl, hw3⟩; have hw3' := hw3.symm; subst hw3'))
      have hb := bx3C_set (HF0.out _ HG2.out).1 (.int .i64 0) (.int .i64 0) (.slice none 0 0)
      have HBf := below3C (HF0.out _ HG2.out).2 (Nat.le_refl _) (.int .i64 0) (.int .i64 0) (.slice none 0 0)
      obtain ⟨r0, r1, r2, -, -, -⟩ := bx3C hb
      refine bodyPost_ret (v := .agg #[.int .i64 0, .int .i64 0, .slice none 0 0]) (by simp [results, go_sem, r0, r1, r2]) rfl ?_
      rw [HQ.out]
      exact ⟨⟨_, rfl, World.ownsRow_nil _ _ _ _⟩, HBf⟩
    · have hck : chk n = 0 := by unfold chk; rw [hN]; rfl
      rw [hck] at HCk
      clear hN hck
      go_wp2_with (first
        | (go_at_call 15; refine HIN.out.mono ?_; rintro e1 w1 ⟨rfl, hw1⟩; have hw1' := hw1.symm; subst hw1')
        | (go_at_call 16; refine (HCk.out _).mono ?_; rintro e2 w2 ⟨rfl, hB2⟩; have HG2 := hide' (grown_below hB2 none); obtain ⟨y0, y1, y2, g0, g1, g2⟩ := bx3C (HF0.out _ HG2.out).1; clear hB2)
        | (go_at_call 17; refine (HIT.out _).mono ?_; rintro e3 w3 ⟨rfl, hw3⟩; have hw3' := hw3.symm; subst hw3'))
      have hb := bx3C_set (HF0.out _ HG2.out).1 (.int .i64 0) (.int .i64 0) (.slice none 0 0)
      have HBf := below3C (HF0.out _ HG2.out).2 (Nat.le_refl _) (.int .i64 0) (.int .i64 0) (.slice none 0 0)
      obtain ⟨r0, r1, r2, -, -, -⟩ := bx3C hb
      refine bodyPost_ret (v := .agg #[.int .i64 0, .int .i64 0, .slice none 0 0]) (by simp [results, go_sem, r0, r1, r2]) rfl ?_
      rw [HQ.out]
      exact ⟨⟨_, rfl, World.ownsRow_nil _ _ _ _⟩, HBf⟩
    · have hck : chk n = 0 := by unfold chk; rw [hN]; rfl
      rw [hck] at HCk
      clear hN hck
      go_wp2_with (first
        | (go_at_call 15; refine HIN.out.mono ?_; rintro e1 w1 ⟨rfl, hw1⟩; have hw1' := hw1.symm; subst hw1')
        | (go_at_call 16; refine (HCk.out _).mono ?_; rintro e2 w2 ⟨rfl, hB2⟩; have HG2 := hide' (grown_below hB2 none); obtain ⟨y0, y1, y2, g0, g1, g2⟩ := bx3C (HF0.out _ HG2.out).1; clear hB2)
        | (go_at_call 17; refine (HIT.out _).mono ?_; rintro e3 w3 ⟨rfl, hw3⟩; have hw3' := hw3.symm; subst hw3'))
      have hb := bx3C_set (HF0.out _ HG2.out).1 (.int .i64 0) (.int .i64 0) (.slice none 0 0)
      have HBf := below3C (HF0.out _ HG2.out).2 (Nat.le_refl _) (.int .i64 0) (.int .i64 0) (.slice none 0 0)
      obtain ⟨r0, r1, r2, -, -, -⟩ := bx3C hb
      refine bodyPost_ret (v := .agg #[.int .i64 0, .int .i64 0, .slice none 0 0]) (by simp [results, go_sem, r0, r1, r2]) rfl ?_
      rw [HQ.out]
      exact ⟨⟨_, rfl, World.ownsRow_nil _ _ _ _⟩, HBf⟩
    · have hck : chk n = 0 := by unfold chk; rw [hN]; rfl
      rw [hck] at HCk
      rw [h4] at HIT
      clear h4
      clear hN hck
      go_wp2_with (first
        | (go_at_call 15; refine HIN.out.mono ?_; rintro e1 w1 ⟨rfl, hw1⟩; have hw1' := hw1.symm; subst hw1')
        | (go_at_call 16; refine (HCk.out _).mono ?_; rintro e2 w2 ⟨rfl, hB2⟩; have HG2 := hide' (grown_below hB2 none); obtain ⟨y0, y1, y2, g0, g1, g2⟩ := bx3C (HF0.out _ HG2.out).1; clear hB2)
        | (go_at_call 17; refine (HIT.out _).mono ?_; rintro e3 w3 ⟨rfl, hw3⟩; have hw3' := hw3.symm; subst hw3'))
      have hb := bx3C_set (HF0.out _ HG2.out).1 (.int .i64 0) (.int .i64 0) (.slice none 0 0)
      have HBf := below3C (HF0.out _ HG2.out).2 (Nat.le_refl _) (.int .i64 0) (.int .i64 0) (.slice none 0 0)
      obtain ⟨r0, r1, r2, -, -, -⟩ := bx3C hb
      refine bodyPost_ret (v := .agg #[.int .i64 0, .int .i64 0, .slice none 0 0]) (by simp [results, go_sem, r0, r1, r2]) rfl ?_
      rw [HQ.out]
      exact ⟨⟨_, rfl, World.ownsRow_nil _ _ _ _⟩, HBf⟩
end Go.Proofs.YtgekfhghambacaaGreat
