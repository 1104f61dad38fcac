import Derived.Test.YtgekfhghambacaaGreatCc5G
import Derived.Test.YtgekfhghambacaaGreatSg3G
/-
  Chapter 12: (*cache.Cache).forget. (The verifier's own text; mkcc7.py writes it.)
-/
namespace Go.Proofs.YtgekfhghambacaaGreat
set_option linter.unusedVariables false
set_option linter.unusedSimpArgs false
open Go.RowKit Go.Shelf Go.Maps Go.Proofs.YtgekfhghambacaaGreat.Nm

theorem grown_drewC {w w' : World} {r : Option Nat} (h : w.grownBy w' r) : w.grownBy w'.drew r := ⟨h.os, h.tape, h.output, h.size, h.block⟩

set_option maxRecDepth 100000 in
set_option maxHeartbeats 4000000 in
/-- (*cache.Cache).forget -/
theorem forget_any {I : World → List Ce → Prop} {r : Option Nat} {x : Ky} {w : World} {L M P base : Nat} {most came : Int} {S : List Ce} {Q : List Qe} (hv : Mv I M r x) (h : Cac w L M P base most came S Q) (hI : I w S) (hx : kyG x) :
    Calls Tryz.prog 26 #[.pointer (some ⟨L, 0, none⟩), kyV x] w fun e w' => e = .returned (.tuple #[]) ∧ ∃ Q', Cac w' L M P base most came (outK Ce.key x S) Q' ∧ I w' (outK Ce.key x S) ∧ Fk (FK M P) base w w' := by
  have HNL : Hid (base ≤ L) := h.bL
  obtain ⟨xk, xn, xt, xa⟩ := x
  obtain ⟨wa, hwa⟩ : ∃ wa, w.alloc (.cells #[.int .i64 xk, .string xn, .int .i64 xt, .string xa] 57) = wa := ⟨_, rfl⟩
  have HK0 : Hid (Bx wa w.heap.size #[.int .i64 xk, .string xn, .int .i64 xt, .string xa] 57) := hwa ▸ World.alloc_heap_new w _
  have HGa : Hid (w.grownBy wa none) := hwa ▸ World.grownBy_alloc w _ none
  have HCa := hide' (h.idle HGa.out)
  have HIa := hide' (hv.kept hI HGa.out (fun k hk => by cases hk))
  have HV := hide' hv
  obtain ⟨gp, hgp⟩ : ∃ gp : Option Addr, peAt (xk, xn, xt, xa) S = .pointer gp := ⟨_, goV_at _ _⟩
  have HGP := hide' hgp
  have HF : Hid (∀ V : World, wa.grownBy V none → V.cell? ⟨L, 2, none⟩ = some (.map (some M)) ∧ V.cell? ⟨L, 3, none⟩ = some (.map (some P)) ∧ V.cell? ⟨w.heap.size, 0, none⟩ = some (.int .i64 xk) ∧ V.cell? ⟨w.heap.size, 1, none⟩ = some (.string xn) ∧ V.cell? ⟨w.heap.size, 2, none⟩ = some (.int .i64 xt) ∧ V.cell? ⟨w.heap.size, 3, none⟩ = some (.string xa) ∧ (Instr.lookup 47 (.map (some M)) (.agg #[.int .i64 xk, .string xn, .int .i64 xt, .string xa]) false).run Tryz.prog V = .ok (.pointer gp) V) := fun V hg => by
    have hb := (HCa.out.idle hg).bx
    have hk := HK0.out.grown hg (by simp)
    exact ⟨hb.cell rfl, hb.cell rfl, hk.cell rfl, hk.cell rfl, hk.cell rfl, hk.cell rfl, hgp ▸ HV.out.look (HV.out.kept HIa.out hg (fun k hk => by cases hk))⟩
  have HX := hide' hx
  have hMm := HV.out.mp HIa.out
  have HF2k : Hid (∀ V : World, wa.grownBy V (some M) → Bx V w.heap.size #[.int .i64 xk, .string xn, .int .i64 xt, .string xa] 57) := fun V hg => HK0.out.grown hg (fun e => by
    injection e with e
    obtain ⟨es, c, hm⟩ := hMm
    have hk := HK0.out
    unfold Bx at hk
    rw [← e, hm] at hk
    cases hk)
  have HF2 : Hid (∀ V : World, wa.grownBy V (some M) → V.cell? ⟨L, 2, none⟩ = some (.map (some M)) ∧ V.cell? ⟨L, 3, none⟩ = some (.map (some P)) ∧ V.cell? ⟨w.heap.size, 0, none⟩ = some (.int .i64 xk) ∧ V.cell? ⟨w.heap.size, 1, none⟩ = some (.string xn) ∧ V.cell? ⟨w.heap.size, 2, none⟩ = some (.int .i64 xt) ∧ V.cell? ⟨w.heap.size, 3, none⟩ = some (.string xa)) := fun V hg => by
    have hb := HCa.out.bx.grown hg (fun e => (HCa.out.neLM hMm).1 (by injection e with e; exact e.symm))
    have hk := HK0.out.grown hg (fun e => by
      injection e with e
      obtain ⟨es, c, hm⟩ := hMm
      have hk := HK0.out
      unfold Bx at hk
      rw [← e, hm] at hk
      cases hk)
    exact ⟨hb.cell rfl, hb.cell rfl, hk.cell rfl, hk.cell rfl, hk.cell rfl, hk.cell rfl⟩
  clear hMm
  unfold kyV
  clear h hI hv hgp hx
  go_enter Tryz.func26, Tryz.ntmps26
  go_wp2_with fail
  try rw [hwa]
  refine wp_region_held_drew (S := fun V => wa.grownBy V none) (by kernel_rfl) ?_ (fun hHeld => ?_)
  · exact ⟨rfl, rfl, rfl, Nat.le_refl _, fun _ _ _ => rfl⟩
  refine takeD 0 (some 6) (.pointer (some ⟨L, 0, none⟩)) rfl rfl (by kernel_rfl) (by kernel_rfl) (by kernel_rfl) (fun _ _ _ h => h) (Or.inl ⟨by rfl, ?_⟩) (by assumption) ?_
  · intro w hSw; (try dsimp only at hSw); obtain ⟨c2, c3, k0, k1, k2, k3, hl⟩ := HF.out w hSw; go_simp <;> (intros; omega)
  simp only [Act.put, List.setIfInBounds_toArray, List.set_cons_zero, List.set_cons_succ]
  refine takeD 1 (some 7) (.pointer (some ⟨L, 0, none⟩)) rfl rfl (by kernel_rfl) (by kernel_rfl) (by kernel_rfl) (fun _ _ _ h => h) (Or.inl ⟨by rfl, ?_⟩) (by assumption) ?_
  · intro w hSw; (try dsimp only at hSw); obtain ⟨c2, c3, k0, k1, k2, k3, hl⟩ := HF.out w hSw; go_simp <;> (intros; omega)
  simp only [Act.put, List.setIfInBounds_toArray, List.set_cons_zero, List.set_cons_succ]
  refine takeD 2 (some 8) (.pointer (some ⟨L, 2, none⟩)) rfl rfl (by kernel_rfl) (by kernel_rfl) (by kernel_rfl) (fun _ _ _ h => h) (Or.inl ⟨by rfl, ?_⟩) (by assumption) ?_
  · intro w hSw; (try dsimp only at hSw); obtain ⟨c2, c3, k0, k1, k2, k3, hl⟩ := HF.out w hSw; go_simp <;> (intros; omega)
  simp only [Act.put, List.setIfInBounds_toArray, List.set_cons_zero, List.set_cons_succ]
  refine takeD 3 (some 9) (.map (some M)) rfl rfl (by kernel_rfl) (by kernel_rfl) (by kernel_rfl) (fun _ _ _ h => h) (Or.inl ⟨by rfl, ?_⟩) (by assumption) ?_
  · intro w hSw; (try dsimp only at hSw); obtain ⟨c2, c3, k0, k1, k2, k3, hl⟩ := HF.out w hSw; go_simp <;> (intros; omega)
  simp only [Act.put, List.setIfInBounds_toArray, List.set_cons_zero, List.set_cons_succ]
  refine takeD 4 (some 10) (.agg #[.int .i64 xk, .string xn, .int .i64 xt, .string xa]) rfl rfl (by kernel_rfl) (by kernel_rfl) (by kernel_rfl) (fun _ _ _ h => h) (Or.inl ⟨by rfl, ?_⟩) (by assumption) ?_
  · intro w hSw; (try dsimp only at hSw); obtain ⟨c2, c3, k0, k1, k2, k3, hl⟩ := HF.out w hSw; go_simp <;> (intros; omega)
  simp only [Act.put, List.setIfInBounds_toArray, List.set_cons_zero, List.set_cons_succ]
  refine takeD 5 (some 11) (.pointer gp) rfl rfl (by kernel_rfl) (by kernel_rfl) (by kernel_rfl) (fun _ _ _ h => h) (Or.inl ⟨by rfl, ?_⟩) (by assumption) ?_
  · intro w hSw; (try dsimp only at hSw); obtain ⟨c2, c3, k0, k1, k2, k3, hl⟩ := HF.out w hSw; go_simp <;> (intros; omega)
  simp only [Act.put, List.setIfInBounds_toArray, List.set_cons_zero, List.set_cons_succ]
  refine wpAnyH_ready (rs := [6]) (by kernel_rfl) (by simp) ?_
  refine AllReadyH.cons rfl (fun K hK => ?_) AllReadyH.nil
  go_simp
  go_wp2_with fail
  obtain ⟨wb, hwb⟩ : ∃ wb, (wa.alloc (.cells #[.pointer none] 54)).drew = wb := ⟨_, rfl⟩
  have HGb : Hid (wa.grownBy wb none) := hwb ▸ grown_drewC (World.grownBy_alloc wa _ none)
  have HN0 : Hid (Bx wb wa.heap.size #[.pointer none] 54) := hwb ▸ (World.alloc_heap_new wa _)
  rw [hwb]
  clear hwb
  refine hK.out _ _ HGb.out (fun hHeld => ?_)
  clear hK K
  try simp only [Act.put, List.setIfInBounds_toArray, List.set_cons_zero, List.set_cons_succ]
  have n0 := HN0.out.cell (j := 0) rfl
  have f0 := HN0.out.free 0
  refine wpAnyH_ready (rs := [7]) (by kernel_rfl) (by simp) ?_
  refine AllReadyH.cons rfl (fun K hK => ?_) AllReadyH.nil
  go_simp
  go_wp2_with fail
  obtain ⟨wc, hwc⟩ : ∃ wc, wb.setCell ⟨wa.heap.size, 0, none⟩ (.pointer gp) = wc := ⟨_, rfl⟩
  have HGc : Hid (wa.grownBy wc none) := hwc ▸ grown_far1 HGb.out (Nat.le_refl _) 0 _
  have HN1 : Hid (Bx wc wa.heap.size #[.pointer gp] 54) := hwc ▸ HN0.out.set 0 _
  rw [hwc]
  clear hwc n0 f0 HN0 HGb
  refine hK.out _ _ HGc.out (fun hHeld => ?_)
  clear hK K
  try simp only [Act.put, List.setIfInBounds_toArray, List.set_cons_zero, List.set_cons_succ]
  refine wpAnyH_done (by kernel_rfl) ?_ _
  clear hHeld
  go_wp2_with fail
  refine wp_region_held_drew (S := fun V => wa.grownBy V (some M)) (by kernel_rfl) ?_ (fun hHeld => ?_)
  · exact grown_drewC (HGc.out.but _)
  refine takeD 0 (some 12) (.pointer (some ⟨L, 0, none⟩)) rfl rfl (by kernel_rfl) (by kernel_rfl) (by kernel_rfl) (fun _ _ _ h => h) (Or.inl ⟨by rfl, ?_⟩) (by assumption) ?_
  · intro w hSw; (try dsimp only at hSw); obtain ⟨c2, c3, k0, k1, k2, k3⟩ := HF2.out w hSw; go_simp <;> (intros; omega)
  simp only [Act.put, List.setIfInBounds_toArray, List.set_cons_zero, List.set_cons_succ]
  refine takeD 1 (some 13) (.pointer (some ⟨L, 0, none⟩)) rfl rfl (by kernel_rfl) (by kernel_rfl) (by kernel_rfl) (fun _ _ _ h => h) (Or.inl ⟨by rfl, ?_⟩) (by assumption) ?_
  · intro w hSw; (try dsimp only at hSw); obtain ⟨c2, c3, k0, k1, k2, k3⟩ := HF2.out w hSw; go_simp <;> (intros; omega)
  simp only [Act.put, List.setIfInBounds_toArray, List.set_cons_zero, List.set_cons_succ]
  refine takeD 2 (some 14) (.pointer (some ⟨L, 2, none⟩)) rfl rfl (by kernel_rfl) (by kernel_rfl) (by kernel_rfl) (fun _ _ _ h => h) (Or.inl ⟨by rfl, ?_⟩) (by assumption) ?_
  · intro w hSw; (try dsimp only at hSw); obtain ⟨c2, c3, k0, k1, k2, k3⟩ := HF2.out w hSw; go_simp <;> (intros; omega)
  simp only [Act.put, List.setIfInBounds_toArray, List.set_cons_zero, List.set_cons_succ]
  refine takeD 3 (some 15) (.map (some M)) rfl rfl (by kernel_rfl) (by kernel_rfl) (by kernel_rfl) (fun _ _ _ h => h) (Or.inl ⟨by rfl, ?_⟩) (by assumption) ?_
  · intro w hSw; (try dsimp only at hSw); obtain ⟨c2, c3, k0, k1, k2, k3⟩ := HF2.out w hSw; go_simp <;> (intros; omega)
  simp only [Act.put, List.setIfInBounds_toArray, List.set_cons_zero, List.set_cons_succ]
  refine takeD 4 (some 16) (.agg #[.int .i64 xk, .string xn, .int .i64 xt, .string xa]) rfl rfl (by kernel_rfl) (by kernel_rfl) (by kernel_rfl) (fun _ _ _ h => h) (Or.inl ⟨by rfl, ?_⟩) (by assumption) ?_
  · intro w hSw; (try dsimp only at hSw); obtain ⟨c2, c3, k0, k1, k2, k3⟩ := HF2.out w hSw; go_simp <;> (intros; omega)
  simp only [Act.put, List.setIfInBounds_toArray, List.set_cons_zero, List.set_cons_succ]
  refine wpAnyH_ready (rs := [5]) (by kernel_rfl) (by simp) ?_
  refine AllReadyH.cons rfl (fun K hK => ?_) AllReadyH.nil
  obtain ⟨wd, hrun, hId, hGd⟩ := HV.out.drop 0 (HV.out.kept HIa.out (grown_drewC HGc.out) (fun k hk => by cases hk))
  simp only [kyV] at hrun
  have HId := hide' hId
  have HGd := hide' hGd
  clear hId hGd
  go_simp
  go_wp2_with fail
  refine hK.out _ _ (grown_trans (grown_drewC (HGc.out.but _)) HGd.out) (fun hHeld2 => ?_)
  clear hK K hrun
  try simp only [Act.put, List.setIfInBounds_toArray, List.set_cons_zero, List.set_cons_succ]
  refine wpAnyH_done (by kernel_rfl) ?_ _
  have HCd : Hid (Cac wd L M P base most came S Q) := ((HCa.out.idle (grown_drewC HGc.out))).mapM (HV.out.mp (HV.out.kept HIa.out (grown_drewC HGc.out) (fun k hk => by cases hk))) HGd.out
  have HFd : Hid (Fk (FK M P) base w wd) := ((Fk.idle HGa.out).trans (Fk.idle (grown_drewC HGc.out))).trans (by obtain ⟨es, cl, hm⟩ := HV.out.mp (HV.out.kept HIa.out (grown_drewC HGc.out) (fun k hk => by cases hk)); exact Fk.one HGd.out hm (.inl rfl) HCa.out.bM)
  have HNd : Hid (Bx wd wa.heap.size #[.pointer gp] 54) := (show Bx wc.drew wa.heap.size #[.pointer gp] 54 from HN1.out).grown HGd.out (fun e => by injection e with e; have := (Array.getElem?_eq_some_iff.1 (HV.out.mp HIa.out).choose_spec.choose_spec).1; omega)
  have HKd : Hid (Bx wd w.heap.size #[.int .i64 xk, .string xn, .int .i64 xt, .string xa] 57) := HF2k.out wd hHeld2
  obtain ⟨c2, c3, k0, k1, k2, k3⟩ := HF2.out wd hHeld2
  clear hHeld hHeld2 HN1
  by_cases h3 : xk = 3
  · subst h3
    have hne : ((3 : Int) == 3) = true := rfl
    have hLM := HCd.out.neLM (HV.out.mp HId.out)
    have HPr : Hid (some P ≠ r) := fun e => by
      obtain ⟨a, b, c, d, hi⟩ := HV.out.it HId.out P e.symm
      obtain ⟨es, cl, hm⟩ := HCd.out.pm.isMap
      rw [hm] at hi; cases hi
    have hkL : Hid (∀ g, (∃ cur, wd.heap[g]? = some (.cells cur 54 (0, 0))) → w.heap.size ≠ g) := fun g hg e => by
      obtain ⟨cur, hg⟩ := hg
      have hk : Bx wd w.heap.size #[.int .i64 3, .string xn, .int .i64 xt, .string xa] 57 := HKd.out
      unfold Bx at hk
      rw [e, hg] at hk
      injection hk with hk
      injection hk with _ hk _
      exact absurd hk (by decide)
    cases hq : atK Qe.a xa Q with
    | none =>
      have hsl : slAt xa Q = .slice none 0 0 := by unfold slAt; rw [hq]; rfl
      have HQ := hide' hq
      have HF4 : Hid (∀ V : World, wd.grownBy V none → V.cell? ⟨L, 2, none⟩ = some (.map (some M)) ∧ V.cell? ⟨L, 3, none⟩ = some (.map (some P)) ∧ V.cell? ⟨w.heap.size, 0, none⟩ = some (.int .i64 3) ∧ V.cell? ⟨w.heap.size, 1, none⟩ = some (.string xn) ∧ V.cell? ⟨w.heap.size, 2, none⟩ = some (.int .i64 xt) ∧ V.cell? ⟨w.heap.size, 3, none⟩ = some (.string xa) ∧ (Instr.lookup 48 (.map (some P)) (.string xa) false).run Tryz.prog V = .ok (.slice none 0 0) V) := fun V hg => by
        have hb := (HCd.out.idle hg).bx
        have hk := HKd.out.grown hg (by simp)
        exact ⟨hb.cell rfl, hb.cell rfl, hk.cell rfl, hk.cell rfl, hk.cell rfl, hk.cell rfl, hsl ▸ (HCd.out.idle hg).pm.look HX.out.2.2.2⟩
      have HF6 : Hid (∀ V : World, wd.grownBy V (some P) → V.cell? ⟨L, 2, none⟩ = some (.map (some M)) ∧ V.cell? ⟨L, 3, none⟩ = some (.map (some P)) ∧ V.cell? ⟨w.heap.size, 0, none⟩ = some (.int .i64 3) ∧ V.cell? ⟨w.heap.size, 1, none⟩ = some (.string xn) ∧ V.cell? ⟨w.heap.size, 2, none⟩ = some (.int .i64 xt) ∧ V.cell? ⟨w.heap.size, 3, none⟩ = some (.string xa)) := fun V hg => by
        have hb := HCd.out.bx.grown hg (fun e => hLM.2.1 (by injection e with e; exact e.symm))
        have hk := HKd.out.grown hg (fun e => by
          injection e with e
          obtain ⟨es, c, hm⟩ := HCd.out.pm.isMap
          have hk := HKd.out
          unfold Bx at hk
          rw [← e, hm] at hk
          cases hk)
        exact ⟨hb.cell rfl, hb.cell rfl, hk.cell rfl, hk.cell rfl, hk.cell rfl, hk.cell rfl⟩
      have HP6 : Hid (Pmap wd.drew.drew P Q) := HCd.out.pm
      clear hsl hq hLM
      go_wp2_with fail
      refine wp_region_held_drew (S := fun V => wd.grownBy V none) (by kernel_rfl) ?_ (fun hHeld => ?_)
      · exact ⟨rfl, rfl, rfl, Nat.le_refl _, fun _ _ _ => rfl⟩
      refine takeD 0 (some 20) (.pointer (some ⟨L, 0, none⟩)) rfl rfl (by kernel_rfl) (by kernel_rfl) (by kernel_rfl) (fun _ _ _ h => h) (Or.inl ⟨by rfl, ?_⟩) (by assumption) ?_
      · intro w hSw; (try dsimp only at hSw); obtain ⟨c2, c3, k0, k1, k2, k3, hl⟩ := HF4.out w hSw; go_simp <;> (intros; omega)
      simp only [Act.put, List.setIfInBounds_toArray, List.set_cons_zero, List.set_cons_succ]
      refine takeD 1 (some 21) (.pointer (some ⟨L, 0, none⟩)) rfl rfl (by kernel_rfl) (by kernel_rfl) (by kernel_rfl) (fun _ _ _ h => h) (Or.inl ⟨by rfl, ?_⟩) (by assumption) ?_
      · intro w hSw; (try dsimp only at hSw); obtain ⟨c2, c3, k0, k1, k2, k3, hl⟩ := HF4.out w hSw; go_simp <;> (intros; omega)
      simp only [Act.put, List.setIfInBounds_toArray, List.set_cons_zero, List.set_cons_succ]
      refine takeD 2 (some 22) (.pointer (some ⟨L, 3, none⟩)) rfl rfl (by kernel_rfl) (by kernel_rfl) (by kernel_rfl) (fun _ _ _ h => h) (Or.inl ⟨by rfl, ?_⟩) (by assumption) ?_
      · intro w hSw; (try dsimp only at hSw); obtain ⟨c2, c3, k0, k1, k2, k3, hl⟩ := HF4.out w hSw; go_simp <;> (intros; omega)
      simp only [Act.put, List.setIfInBounds_toArray, List.set_cons_zero, List.set_cons_succ]
      refine takeD 3 (some 23) (.map (some P)) rfl rfl (by kernel_rfl) (by kernel_rfl) (by kernel_rfl) (fun _ _ _ h => h) (Or.inl ⟨by rfl, ?_⟩) (by assumption) ?_
      · intro w hSw; (try dsimp only at hSw); obtain ⟨c2, c3, k0, k1, k2, k3, hl⟩ := HF4.out w hSw; go_simp <;> (intros; omega)
      simp only [Act.put, List.setIfInBounds_toArray, List.set_cons_zero, List.set_cons_succ]
      refine takeD 4 (some 24) (.pointer (some ⟨w.heap.size, 3, none⟩)) rfl rfl (by kernel_rfl) (by kernel_rfl) (by kernel_rfl) (fun _ _ _ h => h) (Or.inl ⟨by rfl, ?_⟩) (by assumption) ?_
      · intro w hSw; (try dsimp only at hSw); obtain ⟨c2, c3, k0, k1, k2, k3, hl⟩ := HF4.out w hSw; go_simp <;> (intros; omega)
      simp only [Act.put, List.setIfInBounds_toArray, List.set_cons_zero, List.set_cons_succ]
      refine takeD 5 (some 25) (.string xa) rfl rfl (by kernel_rfl) (by kernel_rfl) (by kernel_rfl) (fun _ _ _ h => h) (Or.inl ⟨by rfl, ?_⟩) (by assumption) ?_
      · intro w hSw; (try dsimp only at hSw); obtain ⟨c2, c3, k0, k1, k2, k3, hl⟩ := HF4.out w hSw; go_simp <;> (intros; omega)
      simp only [Act.put, List.setIfInBounds_toArray, List.set_cons_zero, List.set_cons_succ]
      refine takeD 6 (some 26) (.slice none 0 0) rfl rfl (by kernel_rfl) (by kernel_rfl) (by kernel_rfl) (fun _ _ _ h => h) (Or.inl ⟨by rfl, ?_⟩) (by assumption) ?_
      · intro w hSw; (try dsimp only at hSw); obtain ⟨c2, c3, k0, k1, k2, k3, hl⟩ := HF4.out w hSw; go_simp <;> (intros; omega)
      simp only [Act.put, List.setIfInBounds_toArray, List.set_cons_zero, List.set_cons_succ]
      refine takeD 7 (some 27) (.func (Fn.func 44) #[] #[.pointer (some ⟨wa.heap.size, 0, none⟩)]) rfl rfl (by kernel_rfl) (by kernel_rfl) (by kernel_rfl) (fun _ _ _ h => h) (Or.inl ⟨by rfl, ?_⟩) (by assumption) ?_
      · intro w hSw; (try dsimp only at hSw); obtain ⟨c2, c3, k0, k1, k2, k3, hl⟩ := HF4.out w hSw; go_simp <;> (intros; omega)
      simp only [Act.put, List.setIfInBounds_toArray, List.set_cons_zero, List.set_cons_succ]
      refine wpAnyH_ready (rs := [8]) (by kernel_rfl) (by simp) ?_
      refine AllReadyH.cons rfl (fun K hK => ?_) AllReadyH.nil
      go_simp
      go_at_call 43; refine (deleteG_nil _ _).mono ?_; rintro e5 w5 ⟨rfl, rfl⟩
      go_wp2_with fail
      refine hK.out _ _ hHeld (fun hHeld2 => ?_)
      clear hK K
      try simp only [Act.put, List.setIfInBounds_toArray, List.set_cons_zero, List.set_cons_succ]
      refine takeD 9 (some 5) (.slice none 0 0) rfl rfl (by kernel_rfl) (by kernel_rfl) (by kernel_rfl) (fun _ _ _ h => h) (Or.inl ⟨by rfl, ?_⟩) (by assumption) ?_
      · intro w hSw; (try dsimp only at hSw); obtain ⟨c2, c3, k0, k1, k2, k3, hl⟩ := HF4.out w hSw; go_simp <;> (intros; omega)
      simp only [Act.put, List.setIfInBounds_toArray, List.set_cons_zero, List.set_cons_succ]
      refine wpAnyH_done (by kernel_rfl) ?_ _
      go_wp2_with fail
      refine wp_region_held_drew (S := fun V => wd.grownBy V (some P)) (by kernel_rfl) ?_ (fun hHeld => ?_)
      · exact ⟨rfl, rfl, rfl, Nat.le_refl _, fun _ _ _ => rfl⟩
      refine takeD 0 (some 32) (.pointer (some ⟨L, 0, none⟩)) rfl rfl (by kernel_rfl) (by kernel_rfl) (by kernel_rfl) (fun _ _ _ h => h) (Or.inl ⟨by rfl, ?_⟩) (by assumption) ?_
      · intro w hSw; (try dsimp only at hSw); obtain ⟨c2, c3, k0, k1, k2, k3⟩ := HF6.out w hSw; go_simp <;> (intros; omega)
      simp only [Act.put, List.setIfInBounds_toArray, List.set_cons_zero, List.set_cons_succ]
      refine takeD 1 (some 33) (.pointer (some ⟨L, 0, none⟩)) rfl rfl (by kernel_rfl) (by kernel_rfl) (by kernel_rfl) (fun _ _ _ h => h) (Or.inl ⟨by rfl, ?_⟩) (by assumption) ?_
      · intro w hSw; (try dsimp only at hSw); obtain ⟨c2, c3, k0, k1, k2, k3⟩ := HF6.out w hSw; go_simp <;> (intros; omega)
      simp only [Act.put, List.setIfInBounds_toArray, List.set_cons_zero, List.set_cons_succ]
      refine takeD 2 (some 34) (.pointer (some ⟨L, 3, none⟩)) rfl rfl (by kernel_rfl) (by kernel_rfl) (by kernel_rfl) (fun _ _ _ h => h) (Or.inl ⟨by rfl, ?_⟩) (by assumption) ?_
      · intro w hSw; (try dsimp only at hSw); obtain ⟨c2, c3, k0, k1, k2, k3⟩ := HF6.out w hSw; go_simp <;> (intros; omega)
      simp only [Act.put, List.setIfInBounds_toArray, List.set_cons_zero, List.set_cons_succ]
      refine takeD 3 (some 35) (.map (some P)) rfl rfl (by kernel_rfl) (by kernel_rfl) (by kernel_rfl) (fun _ _ _ h => h) (Or.inl ⟨by rfl, ?_⟩) (by assumption) ?_
      · intro w hSw; (try dsimp only at hSw); obtain ⟨c2, c3, k0, k1, k2, k3⟩ := HF6.out w hSw; go_simp <;> (intros; omega)
      simp only [Act.put, List.setIfInBounds_toArray, List.set_cons_zero, List.set_cons_succ]
      refine takeD 4 (some 36) (.pointer (some ⟨w.heap.size, 3, none⟩)) rfl rfl (by kernel_rfl) (by kernel_rfl) (by kernel_rfl) (fun _ _ _ h => h) (Or.inl ⟨by rfl, ?_⟩) (by assumption) ?_
      · intro w hSw; (try dsimp only at hSw); obtain ⟨c2, c3, k0, k1, k2, k3⟩ := HF6.out w hSw; go_simp <;> (intros; omega)
      simp only [Act.put, List.setIfInBounds_toArray, List.set_cons_zero, List.set_cons_succ]
      refine takeD 5 (some 37) (.string xa) rfl rfl (by kernel_rfl) (by kernel_rfl) (by kernel_rfl) (fun _ _ _ h => h) (Or.inl ⟨by rfl, ?_⟩) (by assumption) ?_
      · intro w hSw; (try dsimp only at hSw); obtain ⟨c2, c3, k0, k1, k2, k3⟩ := HF6.out w hSw; go_simp <;> (intros; omega)
      simp only [Act.put, List.setIfInBounds_toArray, List.set_cons_zero, List.set_cons_succ]
      refine wpAnyH_ready (rs := [6]) (by kernel_rfl) (by simp) ?_
      refine AllReadyH.cons rfl (fun K hK => ?_) AllReadyH.nil
      obtain ⟨wz, hrun, hPz, hGz⟩ := HP6.out.drop (x := xa) HX.out.2.2.2 0
      have HPz := hide' hPz
      have HGz : Hid (wd.grownBy wz (some P)) := ⟨hGz.os, hGz.tape, hGz.output, hGz.size, hGz.block⟩
      clear hPz hGz
      go_simp
      go_wp2_with fail
      refine hK.out _ _ HGz.out (fun hHeld2 => ?_)
      clear hK K hrun
      try simp only [Act.put, List.setIfInBounds_toArray, List.set_cons_zero, List.set_cons_succ]
      refine wpAnyH_done (by kernel_rfl) ?_ _
      go_wp2_with fail
      go_end0
      have ho : outK Qe.a xa Q = Q := outK_none (atK_none.1 HQ.out)
      have hpz := HPz.out
      rw [ho] at hpz
      exact ⟨rfl, Q, (HCd.out.drop0 (.inr HQ.out)).mapP HGz.out hpz, HV.out.kept HId.out HGz.out (fun k hk => by injection hk with hk; subst hk; exact ⟨fun e => HCd.out.mp e.symm, HPr.out⟩), HFd.out.trans (by obtain ⟨es, cl, hm⟩ := HCd.out.pm.isMap; exact Fk.one HGz.out hm (.inr rfl) HCd.out.bP)⟩
    | some q =>
      obtain ⟨hqm, hqa⟩ := atK_some hq
      obtain ⟨B, hB⟩ : ∃ B, (prK xa S).map Ce.blk = B := ⟨_, rfl⟩
      obtain ⟨o, ho⟩ : ∃ o, (atK Ce.key (3, xn, xt, xa) S).map Ce.blk = o := ⟨_, rfl⟩
      obtain ⟨hb1, hb2, hb3, hb4⟩ := HCd.out.rows q hqm
      rw [hqa] at hb2 hb4
      have hBl : B.length = q.n := by rw [← hB, List.length_map]; exact hb2.symm
      have hBs : B.length ≤ 100000 := by rw [hBl, hb2]; exact Nat.le_trans (prK_sub.length_le) HCd.out.len
      obtain ⟨rest, hx1, hx2, hx3, -⟩ := row_cur hb4
      have hx1' : Bx wd q.g (B.map peV ++ rest).toArray 54 := by rw [← hB, List.map_map]; exact hx1
      have hkG : kG o B = (prK xa (outK Ce.key (3, xn, xt, xa) S)).map Ce.blk := by rw [← hB, ← ho]; exact kG_prK HCd.out.blk HCd.out.keys
      have hsl : slAt xa Q = .slice (some ⟨q.g, 0, none⟩) B.length q.c := by unfold slAt; rw [hq, hBl]; rfl
      have hgo : goV o = .pointer gp := by rw [← ho, ← goV_at]; exact HGP.out
      have hqb := row_block hb4
      have hqw : q.g < wa.heap.size := by
        obtain ⟨cur, hc⟩ := row_block (HCa.out.rows q hqm).2.2.2
        exact (Array.getElem?_eq_some_iff.1 hc).1
      have HQr : Hid (some q.g ≠ r) := fun e => by
        obtain ⟨a, b, c, d, hi⟩ := HV.out.it HId.out q.g e.symm
        obtain ⟨cur, hc⟩ := hqb
        rw [hc] at hi; cases hi
      have hDel := deleteG_any o wa.heap.size B rest q.g q.c wd.drew hx1' (by omega) (by omega) (hgo ▸ HNd.out.cell (j := 0) rfl) (fun e => by omega) (fun b hb => by
        rw [← hB] at hb
        obtain ⟨e, he, rfl⟩ := List.mem_map.1 hb
        exact HCd.out.isE (mem_prK.1 he).1) (fun c hc => by
        rw [← ho] at hc
        obtain ⟨e, he, rfl⟩ := Option.map_eq_some_iff.1 hc
        exact HCd.out.isE (atK_some he).1)
      obtain ⟨n', hn'⟩ : ∃ n', (kG o B).length = n' := ⟨_, rfl⟩
      rw [hn'] at hDel
      unfold cvG at hDel
      have HDel := hide' hDel
      have HN := hide' (show n' = (prK xa (outK Ce.key (3, xn, xt, xa) S)).length by rw [← hn', hkG, List.length_map])
      have HKG := hide' hkG
      have HQ := hide' hq
      have HQM := hide' hqm
      have HX2 := hide' (show rest.length + B.length = q.c by omega)
      have HQb := hide' hqb
      have hLq := hLM.2.2 q hqm
      have HLq := hide' hLq
      have hkq := hkL.out q.g hqb
      have HF4 : Hid (∀ V : World, wd.grownBy V (some q.g) → V.cell? ⟨L, 2, none⟩ = some (.map (some M)) ∧ V.cell? ⟨L, 3, none⟩ = some (.map (some P)) ∧ V.cell? ⟨w.heap.size, 0, none⟩ = some (.int .i64 3) ∧ V.cell? ⟨w.heap.size, 1, none⟩ = some (.string xn) ∧ V.cell? ⟨w.heap.size, 2, none⟩ = some (.int .i64 xt) ∧ V.cell? ⟨w.heap.size, 3, none⟩ = some (.string xa) ∧ (Instr.lookup 48 (.map (some P)) (.string xa) false).run Tryz.prog V = .ok (.slice (some ⟨q.g, 0, none⟩) B.length q.c) V) := fun V hg => by
        have hb := HCd.out.bx.grown hg (fun e => hLq.1 (by injection e with e; exact e.symm))
        have hk := HKd.out.grown hg (fun e => hkq (by injection e with e; exact e.symm))
        exact ⟨hb.cell rfl, hb.cell rfl, hk.cell rfl, hk.cell rfl, hk.cell rfl, hk.cell rfl, hsl ▸ Pmap.look (Lmap.kept HCd.out.pm hg (fun e => hLq.2.1 (by injection e))) HX.out.2.2.2⟩
      have HkL : Hid (w.heap.size ≠ q.g) := hkq
      clear hqm hqa hb1 hb2 hb3 hb4 hBl hx1 hx2 hx3 hx1' hsl hgo hqw hDel hkG hq hqb hLq hkq hBs hB ho hn'
      go_wp2_with fail
      refine wp_region_held_drew (S := fun V => wd.grownBy V (some q.g)) (by kernel_rfl) ?_ (fun hHeld => ?_)
      · exact ⟨rfl, rfl, rfl, Nat.le_refl _, fun _ _ _ => rfl⟩
      refine takeD 0 (some 20) (.pointer (some ⟨L, 0, none⟩)) rfl rfl (by kernel_rfl) (by kernel_rfl) (by kernel_rfl) (fun _ _ _ h => h) (Or.inl ⟨by rfl, ?_⟩) (by assumption) ?_
      · intro w hSw; (try dsimp only at hSw); obtain ⟨c2, c3, k0, k1, k2, k3, hl⟩ := HF4.out w hSw; go_simp <;> (intros; omega)
      simp only [Act.put, List.setIfInBounds_toArray, List.set_cons_zero, List.set_cons_succ]
      refine takeD 1 (some 21) (.pointer (some ⟨L, 0, none⟩)) rfl rfl (by kernel_rfl) (by kernel_rfl) (by kernel_rfl) (fun _ _ _ h => h) (Or.inl ⟨by rfl, ?_⟩) (by assumption) ?_
      · intro w hSw; (try dsimp only at hSw); obtain ⟨c2, c3, k0, k1, k2, k3, hl⟩ := HF4.out w hSw; go_simp <;> (intros; omega)
      simp only [Act.put, List.setIfInBounds_toArray, List.set_cons_zero, List.set_cons_succ]
      refine takeD 2 (some 22) (.pointer (some ⟨L, 3, none⟩)) rfl rfl (by kernel_rfl) (by kernel_rfl) (by kernel_rfl) (fun _ _ _ h => h) (Or.inl ⟨by rfl, ?_⟩) (by assumption) ?_
      · intro w hSw; (try dsimp only at hSw); obtain ⟨c2, c3, k0, k1, k2, k3, hl⟩ := HF4.out w hSw; go_simp <;> (intros; omega)
      simp only [Act.put, List.setIfInBounds_toArray, List.set_cons_zero, List.set_cons_succ]
      refine takeD 3 (some 23) (.map (some P)) rfl rfl (by kernel_rfl) (by kernel_rfl) (by kernel_rfl) (fun _ _ _ h => h) (Or.inl ⟨by rfl, ?_⟩) (by assumption) ?_
      · intro w hSw; (try dsimp only at hSw); obtain ⟨c2, c3, k0, k1, k2, k3, hl⟩ := HF4.out w hSw; go_simp <;> (intros; omega)
      simp only [Act.put, List.setIfInBounds_toArray, List.set_cons_zero, List.set_cons_succ]
      refine takeD 4 (some 24) (.pointer (some ⟨w.heap.size, 3, none⟩)) rfl rfl (by kernel_rfl) (by kernel_rfl) (by kernel_rfl) (fun _ _ _ h => h) (Or.inl ⟨by rfl, ?_⟩) (by assumption) ?_
      · intro w hSw; (try dsimp only at hSw); obtain ⟨c2, c3, k0, k1, k2, k3, hl⟩ := HF4.out w hSw; go_simp <;> (intros; omega)
      simp only [Act.put, List.setIfInBounds_toArray, List.set_cons_zero, List.set_cons_succ]
      refine takeD 5 (some 25) (.string xa) rfl rfl (by kernel_rfl) (by kernel_rfl) (by kernel_rfl) (fun _ _ _ h => h) (Or.inl ⟨by rfl, ?_⟩) (by assumption) ?_
      · intro w hSw; (try dsimp only at hSw); obtain ⟨c2, c3, k0, k1, k2, k3, hl⟩ := HF4.out w hSw; go_simp <;> (intros; omega)
      simp only [Act.put, List.setIfInBounds_toArray, List.set_cons_zero, List.set_cons_succ]
      refine takeD 6 (some 26) (.slice (some ⟨q.g, 0, none⟩) B.length q.c) rfl rfl (by kernel_rfl) (by kernel_rfl) (by kernel_rfl) (fun _ _ _ h => h) (Or.inl ⟨by rfl, ?_⟩) (by assumption) ?_
      · intro w hSw; (try dsimp only at hSw); obtain ⟨c2, c3, k0, k1, k2, k3, hl⟩ := HF4.out w hSw; go_simp <;> (intros; omega)
      simp only [Act.put, List.setIfInBounds_toArray, List.set_cons_zero, List.set_cons_succ]
      refine takeD 7 (some 27) (.func (Fn.func 44) #[] #[.pointer (some ⟨wa.heap.size, 0, none⟩)]) rfl rfl (by kernel_rfl) (by kernel_rfl) (by kernel_rfl) (fun _ _ _ h => h) (Or.inl ⟨by rfl, ?_⟩) (by assumption) ?_
      · intro w hSw; (try dsimp only at hSw); obtain ⟨c2, c3, k0, k1, k2, k3, hl⟩ := HF4.out w hSw; go_simp <;> (intros; omega)
      simp only [Act.put, List.setIfInBounds_toArray, List.set_cons_zero, List.set_cons_succ]
      refine wpAnyH_ready (rs := [8]) (by kernel_rfl) (by simp) ?_
      refine AllReadyH.cons rfl (fun K hK => ?_) AllReadyH.nil
      go_simp
      go_at_call 43; refine HDel.out.mono ?_; rintro e5 we ⟨rfl, hb5, hg5⟩; obtain ⟨rest', hr5, hb5⟩ := hb5; have HR5 := hide' hr5; have HB5 := hide' hb5; have HG5 : Hid (wd.grownBy we (some q.g)) := ⟨hg5.os, hg5.tape, hg5.output, hg5.size, hg5.block⟩; clear hr5 hb5 hg5
      go_wp2_with fail
      refine hK.out _ _ HG5.out (fun hHeld2 => ?_)
      clear hK K
      try simp only [Act.put, List.setIfInBounds_toArray, List.set_cons_zero, List.set_cons_succ]
      refine takeD 9 (some 5) (.slice (some ⟨q.g, 0, none⟩) n' q.c) rfl rfl (by kernel_rfl) (by kernel_rfl) (by kernel_rfl) (fun _ _ _ h => h) (Or.inl ⟨by rfl, ?_⟩) (by assumption) ?_
      · intro w hSw; (try dsimp only at hSw); obtain ⟨c2, c3, k0, k1, k2, k3, hl⟩ := HF4.out w hSw; go_simp <;> (intros; omega)
      simp only [Act.put, List.setIfInBounds_toArray, List.set_cons_zero, List.set_cons_succ]
      refine wpAnyH_done (by kernel_rfl) ?_ _
      have hLP := hLM.2.1
      have HF6 : Hid (∀ V : World, we.grownBy V (some P) → V.cell? ⟨L, 2, none⟩ = some (.map (some M)) ∧ V.cell? ⟨L, 3, none⟩ = some (.map (some P)) ∧ V.cell? ⟨w.heap.size, 0, none⟩ = some (.int .i64 3) ∧ V.cell? ⟨w.heap.size, 1, none⟩ = some (.string xn) ∧ V.cell? ⟨w.heap.size, 2, none⟩ = some (.int .i64 xt) ∧ V.cell? ⟨w.heap.size, 3, none⟩ = some (.string xa)) := fun V hg => by
        have hb := (HCd.out.bx.grown HG5.out (fun e => HLq.out.1 (by injection e with e; exact e.symm))).grown hg (fun e => hLP (by injection e with e; exact e.symm))
        have hk := (HKd.out.grown HG5.out (fun e => HkL.out (by injection e with e; exact e.symm))).grown hg (fun e => by
          injection e with e
          obtain ⟨es, c, hm⟩ := HCd.out.pm.isMap
          have hk := HKd.out
          unfold Bx at hk
          rw [← e, hm] at hk
          cases hk)
        exact ⟨hb.cell rfl, hb.cell rfl, hk.cell rfl, hk.cell rfl, hk.cell rfl, hk.cell rfl⟩
      have HP6 : Hid (Pmap we.drew P Q) := Lmap.kept HCd.out.pm (grown_drewC HG5.out) (fun e => HLq.out.2.1 (by injection e))
      have HQl : Hid (Q.length < maxLen) := by
        have h1 := HCd.out.lenQ
        have h2 := HCd.out.len
        unfold Hid maxLen
        omega
      have HB6 : Hid (Bx we q.g (peR (prK xa (outK Ce.key (3, xn, xt, xa) S)) ++ rest').toArray 54) := by
        have h := HB5.out
        rw [HKG.out, List.map_map] at h
        exact h
      have HR6 : Hid (rest'.length + (prK xa (outK Ce.key (3, xn, xt, xa) S)).length = q.c) := by
        have h := HR5.out
        rw [← HN.out]
        exact h.trans HX2.out
      have HEnd : Hid (∀ wz Q', we.grownBy wz (some P) → Pmap wz P Q' → ((prK xa (outK Ce.key (3, xn, xt, xa) S) = [] ∧ Q' = outK Qe.a xa Q) ∨ (prK xa (outK Ce.key (3, xn, xt, xa) S) ≠ [] ∧ Q' = outK Qe.a xa Q ++ [⟨xa, q.g, (prK xa (outK Ce.key (3, xn, xt, xa) S)).length, q.c⟩])) → ∃ Q', Cac wz L M P base most came (outK Ce.key (3, xn, xt, xa) S) Q' ∧ I wz (outK Ce.key (3, xn, xt, xa) S) ∧ Fk (FK M P) base w wz) := fun wz Q' hg hp hQ => by
        refine ⟨Q', HCd.out.drop1 (x := (3, xn, xt, xa)) HQ.out HG5.out HB6.out HR6.out HCd.out.pm.isMap hg hp hQ, HV.out.kept (HV.out.kept HId.out HG5.out (fun k hk => by injection hk with hk; subst hk; exact ⟨fun e => HLq.out.2.2 e.symm, HQr.out⟩)) hg (fun k hk => by injection hk with hk; subst hk; exact ⟨fun e => HCd.out.mp e.symm, HPr.out⟩), HFd.out.trans (Fk.trans (b := we) ?_ ?_)⟩
        · obtain ⟨cur, hc⟩ := HQb.out
          exact Fk.one HG5.out hc rfl (HCd.out.rows q HQM.out).1
        · obtain ⟨es, cl, hm⟩ := HP6.out.isMap
          exact Fk.one hg hm (.inr rfl) HCd.out.bP
      clear HKG HQ HQM HX2 HQb HLq HQr HB6 HR6 HB5 HR5 HF4 HDel hLM hLP HFd
      by_cases hn0 : n' = 0
      · have hl0 : ((n' : Int) == 0) = true := by rw [hn0]; rfl
        go_wp2_with fail
        refine wp_region_held_drew (S := fun V => we.grownBy V (some P)) (by kernel_rfl) ?_ (fun hHeld => ?_)
        · exact ⟨rfl, rfl, rfl, Nat.le_refl _, fun _ _ _ => rfl⟩
        refine takeD 0 (some 32) (.pointer (some ⟨L, 0, none⟩)) rfl rfl (by kernel_rfl) (by kernel_rfl) (by kernel_rfl) (fun _ _ _ h => h) (Or.inl ⟨by rfl, ?_⟩) (by assumption) ?_
        · intro w hSw; (try dsimp only at hSw); obtain ⟨c2, c3, k0, k1, k2, k3⟩ := HF6.out w hSw; go_simp <;> (intros; omega)
        simp only [Act.put, List.setIfInBounds_toArray, List.set_cons_zero, List.set_cons_succ]
        refine takeD 1 (some 33) (.pointer (some ⟨L, 0, none⟩)) rfl rfl (by kernel_rfl) (by kernel_rfl) (by kernel_rfl) (fun _ _ _ h => h) (Or.inl ⟨by rfl, ?_⟩) (by assumption) ?_
        · intro w hSw; (try dsimp only at hSw); obtain ⟨c2, c3, k0, k1, k2, k3⟩ := HF6.out w hSw; go_simp <;> (intros; omega)
        simp only [Act.put, List.setIfInBounds_toArray, List.set_cons_zero, List.set_cons_succ]
        refine takeD 2 (some 34) (.pointer (some ⟨L, 3, none⟩)) rfl rfl (by kernel_rfl) (by kernel_rfl) (by kernel_rfl) (fun _ _ _ h => h) (Or.inl ⟨by rfl, ?_⟩) (by assumption) ?_
        · intro w hSw; (try dsimp only at hSw); obtain ⟨c2, c3, k0, k1, k2, k3⟩ := HF6.out w hSw; go_simp <;> (intros; omega)
        simp only [Act.put, List.setIfInBounds_toArray, List.set_cons_zero, List.set_cons_succ]
        refine takeD 3 (some 35) (.map (some P)) rfl rfl (by kernel_rfl) (by kernel_rfl) (by kernel_rfl) (fun _ _ _ h => h) (Or.inl ⟨by rfl, ?_⟩) (by assumption) ?_
        · intro w hSw; (try dsimp only at hSw); obtain ⟨c2, c3, k0, k1, k2, k3⟩ := HF6.out w hSw; go_simp <;> (intros; omega)
        simp only [Act.put, List.setIfInBounds_toArray, List.set_cons_zero, List.set_cons_succ]
        refine takeD 4 (some 36) (.pointer (some ⟨w.heap.size, 3, none⟩)) rfl rfl (by kernel_rfl) (by kernel_rfl) (by kernel_rfl) (fun _ _ _ h => h) (Or.inl ⟨by rfl, ?_⟩) (by assumption) ?_
        · intro w hSw; (try dsimp only at hSw); obtain ⟨c2, c3, k0, k1, k2, k3⟩ := HF6.out w hSw; go_simp <;> (intros; omega)
        simp only [Act.put, List.setIfInBounds_toArray, List.set_cons_zero, List.set_cons_succ]
        refine takeD 5 (some 37) (.string xa) rfl rfl (by kernel_rfl) (by kernel_rfl) (by kernel_rfl) (fun _ _ _ h => h) (Or.inl ⟨by rfl, ?_⟩) (by assumption) ?_
        · intro w hSw; (try dsimp only at hSw); obtain ⟨c2, c3, k0, k1, k2, k3⟩ := HF6.out w hSw; go_simp <;> (intros; omega)
        simp only [Act.put, List.setIfInBounds_toArray, List.set_cons_zero, List.set_cons_succ]
        refine wpAnyH_ready (rs := [6]) (by kernel_rfl) (by simp) ?_
        refine AllReadyH.cons rfl (fun K hK => ?_) AllReadyH.nil
        obtain ⟨wz, hrun, hPz, hGz⟩ := HP6.out.drop (x := xa) HX.out.2.2.2 0
        have HPz := hide' hPz
        have HGz : Hid (we.grownBy wz (some P)) := ⟨hGz.os, hGz.tape, hGz.output, hGz.size, hGz.block⟩
        clear hPz hGz
        go_simp
        go_wp2_with fail
        refine hK.out _ _ HGz.out (fun hHeld2 => ?_)
        clear hK K hrun
        try simp only [Act.put, List.setIfInBounds_toArray, List.set_cons_zero, List.set_cons_succ]
        refine wpAnyH_done (by kernel_rfl) ?_ _
        go_wp2_with fail
        go_end0
        exact ⟨rfl, HEnd.out wz _ HGz.out HPz.out (.inl ⟨List.eq_nil_of_length_eq_zero (by rw [← HN.out]; exact hn0), rfl⟩)⟩
      · have hl0 : ((n' : Int) == 0) = false := by rw [beq_eq_false_iff_ne]; omega
        go_wp2_with fail
        refine wp_region_held_drew (S := fun V => we.grownBy V (some P)) (by kernel_rfl) ?_ (fun hHeld => ?_)
        · exact ⟨rfl, rfl, rfl, Nat.le_refl _, fun _ _ _ => rfl⟩
        refine takeD 0 (some 38) (.pointer (some ⟨L, 0, none⟩)) rfl rfl (by kernel_rfl) (by kernel_rfl) (by kernel_rfl) (fun _ _ _ h => h) (Or.inl ⟨by rfl, ?_⟩) (by assumption) ?_
        · intro w hSw; (try dsimp only at hSw); obtain ⟨c2, c3, k0, k1, k2, k3⟩ := HF6.out w hSw; go_simp <;> (intros; omega)
        simp only [Act.put, List.setIfInBounds_toArray, List.set_cons_zero, List.set_cons_succ]
        refine takeD 1 (some 39) (.pointer (some ⟨L, 0, none⟩)) rfl rfl (by kernel_rfl) (by kernel_rfl) (by kernel_rfl) (fun _ _ _ h => h) (Or.inl ⟨by rfl, ?_⟩) (by assumption) ?_
        · intro w hSw; (try dsimp only at hSw); obtain ⟨c2, c3, k0, k1, k2, k3⟩ := HF6.out w hSw; go_simp <;> (intros; omega)
        simp only [Act.put, List.setIfInBounds_toArray, List.set_cons_zero, List.set_cons_succ]
        refine takeD 2 (some 40) (.pointer (some ⟨L, 3, none⟩)) rfl rfl (by kernel_rfl) (by kernel_rfl) (by kernel_rfl) (fun _ _ _ h => h) (Or.inl ⟨by rfl, ?_⟩) (by assumption) ?_
        · intro w hSw; (try dsimp only at hSw); obtain ⟨c2, c3, k0, k1, k2, k3⟩ := HF6.out w hSw; go_simp <;> (intros; omega)
        simp only [Act.put, List.setIfInBounds_toArray, List.set_cons_zero, List.set_cons_succ]
        refine takeD 3 (some 41) (.map (some P)) rfl rfl (by kernel_rfl) (by kernel_rfl) (by kernel_rfl) (fun _ _ _ h => h) (Or.inl ⟨by rfl, ?_⟩) (by assumption) ?_
        · intro w hSw; (try dsimp only at hSw); obtain ⟨c2, c3, k0, k1, k2, k3⟩ := HF6.out w hSw; go_simp <;> (intros; omega)
        simp only [Act.put, List.setIfInBounds_toArray, List.set_cons_zero, List.set_cons_succ]
        refine takeD 4 (some 42) (.pointer (some ⟨w.heap.size, 3, none⟩)) rfl rfl (by kernel_rfl) (by kernel_rfl) (by kernel_rfl) (fun _ _ _ h => h) (Or.inl ⟨by rfl, ?_⟩) (by assumption) ?_
        · intro w hSw; (try dsimp only at hSw); obtain ⟨c2, c3, k0, k1, k2, k3⟩ := HF6.out w hSw; go_simp <;> (intros; omega)
        simp only [Act.put, List.setIfInBounds_toArray, List.set_cons_zero, List.set_cons_succ]
        refine takeD 5 (some 43) (.string xa) rfl rfl (by kernel_rfl) (by kernel_rfl) (by kernel_rfl) (fun _ _ _ h => h) (Or.inl ⟨by rfl, ?_⟩) (by assumption) ?_
        · intro w hSw; (try dsimp only at hSw); obtain ⟨c2, c3, k0, k1, k2, k3⟩ := HF6.out w hSw; go_simp <;> (intros; omega)
        simp only [Act.put, List.setIfInBounds_toArray, List.set_cons_zero, List.set_cons_succ]
        refine takeD 6 (some 44) (.slice (some ⟨q.g, 0, none⟩) n' q.c) rfl rfl (by kernel_rfl) (by kernel_rfl) (by kernel_rfl) (fun _ _ _ h => h) (Or.inl ⟨by rfl, ?_⟩) (by assumption) ?_
        · intro w hSw; (try dsimp only at hSw); obtain ⟨c2, c3, k0, k1, k2, k3⟩ := HF6.out w hSw; go_simp <;> (intros; omega)
        simp only [Act.put, List.setIfInBounds_toArray, List.set_cons_zero, List.set_cons_succ]
        refine wpAnyH_ready (rs := [7]) (by kernel_rfl) (by simp) ?_
        refine AllReadyH.cons rfl (fun K hK => ?_) AllReadyH.nil
        obtain ⟨wz, hrun, hPz, hGz⟩ := HP6.out.store ⟨xa, q.g, n', q.c⟩ HX.out.2.2.2 HQl.out
        have HPz := hide' hPz
        have HGz : Hid (we.grownBy wz (some P)) := ⟨hGz.os, hGz.tape, hGz.output, hGz.size, hGz.block⟩
        clear hPz hGz
        unfold qeV at hrun
        go_simp
        go_wp2_with fail
        refine hK.out _ _ HGz.out (fun hHeld2 => ?_)
        clear hK K hrun
        try simp only [Act.put, List.setIfInBounds_toArray, List.set_cons_zero, List.set_cons_succ]
        refine wpAnyH_done (by kernel_rfl) ?_ _
        go_wp2_with fail
        go_end0
        exact ⟨rfl, HEnd.out wz _ HGz.out HPz.out (.inr ⟨fun e => hn0 (by rw [HN.out, e]; rfl), by rw [HN.out]⟩)⟩
  · have hne : (xk == 3) = false := by rw [beq_eq_false_iff_ne]; exact h3
    go_wp2_with fail
    refine bodyPost_ret (v := .tuple #[]) (by simp [results, go_sem]) rfl ?_
    exact ⟨rfl, Q, HCd.out.drop0 (.inl h3), HId.out, HFd.out⟩
end Go.Proofs.YtgekfhghambacaaGreat
