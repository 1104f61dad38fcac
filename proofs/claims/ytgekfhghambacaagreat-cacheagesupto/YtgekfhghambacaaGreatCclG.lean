import Derived.Test.YtgekfhghambacaaGreatCck
import Derived.Test.YtgekfhghambacaaGreatSd3G
/-
  Chapter 12: data.AgeOfAbsence, proof.MayUse. (The verifier's own text; mkccl.py writes it.)
-/
namespace Go.Proofs.YtgekfhghambacaaGreat
set_option linter.unusedVariables false
set_option linter.unusedSimpArgs false
open Go.RowKit Go.Shelf Go.Maps Go.Proofs.YtgekfhghambacaaGreat.Nm

theorem soaC_fix {d : ByteArray} {n : Nat} (h : kindSize (.num 4) d = some n) : n = 4 ∧ 4 ≤ d.size := by
  change fixS 4 d = some n at h
  unfold fixS at h
  split at h
  · cases h
  · cases h; exact ⟨rfl, by omega⟩
/-- a SOA's data end with a number of four bytes -/
theorem soaC_size {d : ByteArray} (h : errD 6 d = 0) : 4 ≤ d.size := by
  obtain ⟨ps, hp⟩ := errD_zero h
  unfold partsD at hp
  have hk : kindsOf 6 = some [.dom, .dom, .num 4, .num 4, .num 4, .num 4, .num 4] := rfl
  rw [hk] at hp
  change (if _ then _ else _) = _ at hp
  split at hp
  · cases hp
  rename_i hsz
  obtain ⟨n1, q1, k1, p1, rfl⟩ := zparts_cons hp
  obtain ⟨n2, q2, k2, p2, rfl⟩ := zparts_cons p1
  obtain ⟨n3, q3, k3, p3, rfl⟩ := zparts_cons p2
  obtain ⟨rfl, s3⟩ := soaC_fix k3
  have e1 := kindSize_le k1
  have e2 := kindSize_le k2
  rw [size_extract' _ _ _ (Nat.le_refl _)] at s3 e2
  rw [size_extract' _ _ _ (Nat.le_refl _)] at s3
  omega
/-- how long an absence is remembered -/
def ageA (l : Int) (d : ByteArray) : Int := min l (vN (d.extract (d.size - 4) d.size) (d.extract (d.size - 4) d.size).size : Nat)
set_option maxRecDepth 100000 in
set_option maxHeartbeats 1000000 in
/-- data.AgeOfAbsence -/
theorem ageOfAbsence_any (o d : ByteArray) (t c l : Int) (w : World) (h4 : 4 ≤ d.size) (hd : d.size ≤ 65535) : Calls Tryz.prog 34 #[.agg #[.string o, .int .i64 t, .int .i64 c, .int .i64 l, .string d]] w fun r w' => r = .returned (.int .i64 (ageA l d)) ∧ Below w.heap.size w w' := by
  obtain ⟨a1, h1⟩ : ∃ a, w.alloc (.cells #[.string o, .int .i64 t, .int .i64 c, .int .i64 l, .string d] 36) = a := ⟨_, rfl⟩
  have HB1 : Hid (Below w.heap.size w a1) := h1 ▸ (Below.refl _ w).alloc (Nat.le_refl _) _
  have HX1 : Hid (Bx a1 w.heap.size #[.string o, .int .i64 t, .int .i64 c, .int .i64 l, .string d] 36) := h1 ▸ World.alloc_heap_new w _
  obtain ⟨k, hk⟩ : ∃ k : Nat, d.size - 4 = k := ⟨_, rfl⟩
  obtain ⟨n, hn⟩ : ∃ n : Nat, d.size = n := ⟨_, rfl⟩
  have hkn : (n : Int) - 4 = (k : Int) := by omega
  have hw : IntKind.i64.wrap ((n : Int) - 4) = (k : Int) := by rw [hkn]; exact wrap_nnC _ (by omega) (by omega)
  obtain ⟨x, hx⟩ : ∃ x, d.extract k n = x := ⟨_, rfl⟩
  have hxs : x.size ≤ 4 := by rw [← hx, size_extract' _ _ _ (by omega)]; omega
  have HA : Hid (ageA l d = min l (vN x x.size : Nat)) := by unfold Hid ageA; rw [hk, hn, hx]
  have HV := hide' (fun V => spellValue_any x V (by omega))
  generalize hv : vN x x.size = v at HA HV
  have HXn := hide' hx
  have hk2 : (0 : Int) ≤ (k : Int) ∧ (k : Int) ≤ (n : Int) := by omega
  have hnl : (n : Int) ≤ 65535 := by omega
  have HN := hide' hn
  have HF : Hid (∀ V : World, a1.grownBy V none → V.cell? ⟨w.heap.size, 3, none⟩ = some (.int .i64 l) ∧ V.cell? ⟨w.heap.size, 4, none⟩ = some (.string d)) := fun V hV => ⟨(HX1.out.grown hV (by simp)).cell rfl, (HX1.out.grown hV (by simp)).cell rfl⟩
  have hwk : IntKind.i64.wrap (k : Int) = (k : Int) := wrap_nnC _ (by omega) (by omega)
  have HKn : Hid (k ≤ n) := by unfold Hid; omega
  clear hk hn hx hxs hv h4 hd
  go_enter Tryz.func34, Tryz.ntmps34
  go_wp2_with fail
  refine wp_region_held_drew (S := fun V => a1.grownBy V none) (by kernel_rfl) ?_ (fun hHeld => ?_)
  · exact ⟨rfl, rfl, rfl, Nat.le_refl _, fun _ _ _ => rfl⟩
  refine takeD 0 (some 3) (.pointer (some ⟨w.heap.size, 3, none⟩)) rfl rfl (by kernel_rfl) (by kernel_rfl) (by kernel_rfl) (fun _ _ _ h => h) (Or.inl ⟨by rfl, ?_⟩) (by assumption) ?_
  · intro w hSw; (try dsimp only at hSw); obtain ⟨l3, d4⟩ := HF.out w hSw; have hns : d.size = n := HN.out; have hxe : d.extract k n = x := HXn.out; have hkn' : k ≤ n := HKn.out; go_simp <;> (intros; omega)
  simp only [Act.put, List.setIfInBounds_toArray, List.set_cons_zero, List.set_cons_succ]
  refine takeD 1 (some 4) (.int .i64 l) rfl rfl (by kernel_rfl) (by kernel_rfl) (by kernel_rfl) (fun _ _ _ h => h) (Or.inl ⟨by rfl, ?_⟩) (by assumption) ?_
  · intro w hSw; (try dsimp only at hSw); obtain ⟨l3, d4⟩ := HF.out w hSw; have hns : d.size = n := HN.out; have hxe : d.extract k n = x := HXn.out; have hkn' : k ≤ n := HKn.out; go_simp <;> (intros; omega)
  simp only [Act.put, List.setIfInBounds_toArray, List.set_cons_zero, List.set_cons_succ]
  refine takeD 2 (some 5) (.pointer (some ⟨w.heap.size, 4, none⟩)) rfl rfl (by kernel_rfl) (by kernel_rfl) (by kernel_rfl) (fun _ _ _ h => h) (Or.inl ⟨by rfl, ?_⟩) (by assumption) ?_
  · intro w hSw; (try dsimp only at hSw); obtain ⟨l3, d4⟩ := HF.out w hSw; have hns : d.size = n := HN.out; have hxe : d.extract k n = x := HXn.out; have hkn' : k ≤ n := HKn.out; go_simp <;> (intros; omega)
  simp only [Act.put, List.setIfInBounds_toArray, List.set_cons_zero, List.set_cons_succ]
  refine takeD 3 (some 6) (.string d) rfl rfl (by kernel_rfl) (by kernel_rfl) (by kernel_rfl) (fun _ _ _ h => h) (Or.inl ⟨by rfl, ?_⟩) (by assumption) ?_
  · intro w hSw; (try dsimp only at hSw); obtain ⟨l3, d4⟩ := HF.out w hSw; have hns : d.size = n := HN.out; have hxe : d.extract k n = x := HXn.out; have hkn' : k ≤ n := HKn.out; go_simp <;> (intros; omega)
  simp only [Act.put, List.setIfInBounds_toArray, List.set_cons_zero, List.set_cons_succ]
  refine takeD 4 (some 7) (.pointer (some ⟨w.heap.size, 4, none⟩)) rfl rfl (by kernel_rfl) (by kernel_rfl) (by kernel_rfl) (fun _ _ _ h => h) (Or.inl ⟨by rfl, ?_⟩) (by assumption) ?_
  · intro w hSw; (try dsimp only at hSw); obtain ⟨l3, d4⟩ := HF.out w hSw; have hns : d.size = n := HN.out; have hxe : d.extract k n = x := HXn.out; have hkn' : k ≤ n := HKn.out; go_simp <;> (intros; omega)
  simp only [Act.put, List.setIfInBounds_toArray, List.set_cons_zero, List.set_cons_succ]
  refine takeD 5 (some 8) (.string d) rfl rfl (by kernel_rfl) (by kernel_rfl) (by kernel_rfl) (fun _ _ _ h => h) (Or.inl ⟨by rfl, ?_⟩) (by assumption) ?_
  · intro w hSw; (try dsimp only at hSw); obtain ⟨l3, d4⟩ := HF.out w hSw; have hns : d.size = n := HN.out; have hxe : d.extract k n = x := HXn.out; have hkn' : k ≤ n := HKn.out; go_simp <;> (intros; omega)
  simp only [Act.put, List.setIfInBounds_toArray, List.set_cons_zero, List.set_cons_succ]
  refine takeD 6 (some 9) (.int .i64 (n : Int)) rfl rfl (by kernel_rfl) (by kernel_rfl) (by kernel_rfl) (fun _ _ _ h => h) (Or.inl ⟨by rfl, ?_⟩) (by assumption) ?_
  · intro w hSw; (try dsimp only at hSw); obtain ⟨l3, d4⟩ := HF.out w hSw; have hns : d.size = n := HN.out; have hxe : d.extract k n = x := HXn.out; have hkn' : k ≤ n := HKn.out; go_simp <;> (intros; omega)
  simp only [Act.put, List.setIfInBounds_toArray, List.set_cons_zero, List.set_cons_succ]
  refine takeD 7 (some 10) (.int .i64 (k : Int)) rfl rfl (by kernel_rfl) (by kernel_rfl) (by kernel_rfl) (fun _ _ _ h => h) (Or.inl ⟨by rfl, ?_⟩) (by assumption) ?_
  · intro w hSw; (try dsimp only at hSw); obtain ⟨l3, d4⟩ := HF.out w hSw; have hns : d.size = n := HN.out; have hxe : d.extract k n = x := HXn.out; have hkn' : k ≤ n := HKn.out; go_simp <;> (intros; omega)
  simp only [Act.put, List.setIfInBounds_toArray, List.set_cons_zero, List.set_cons_succ]
  refine takeD 8 (some 11) (.string x) rfl rfl (by kernel_rfl) (by kernel_rfl) (by kernel_rfl) (fun _ _ _ h => h) (Or.inl ⟨by rfl, ?_⟩) (by assumption) ?_
  · intro w hSw; (try dsimp only at hSw); obtain ⟨l3, d4⟩ := HF.out w hSw; have hns : d.size = n := HN.out; have hxe : d.extract k n = x := HXn.out; have hkn' : k ≤ n := HKn.out; go_simp <;> (intros; omega)
  simp only [Act.put, List.setIfInBounds_toArray, List.set_cons_zero, List.set_cons_succ]
  refine wpAnyH_ready (rs := [9]) (by kernel_rfl) (by simp) ?_
  refine AllReadyH.cons rfl (fun K hK => ?_) AllReadyH.nil
  go_simp
  go_at_call 51; refine (HV.out _).mono ?_; rintro e1 w1 ⟨rfl, hw1⟩; have hw1' := hw1.symm; subst hw1'
  go_wp2_with fail
  refine hK.out _ _ (hHeld) (fun hHeld => ?_)
  clear hK K
  try simp only [Act.put, List.setIfInBounds_toArray, List.set_cons_zero, List.set_cons_succ]
  refine takeD 10 (some 13) (.int .i64 (min l (v : Int))) rfl rfl (by kernel_rfl) (by kernel_rfl) (by kernel_rfl) (fun _ _ _ h => h) (Or.inl ⟨by rfl, ?_⟩) (by assumption) ?_
  · intro w hSw; (try dsimp only at hSw); obtain ⟨l3, d4⟩ := HF.out w hSw; have hns : d.size = n := HN.out; have hxe : d.extract k n = x := HXn.out; have hkn' : k ≤ n := HKn.out; go_simp <;> (intros; omega)
  simp only [Act.put, List.setIfInBounds_toArray, List.set_cons_zero, List.set_cons_succ]
  refine takeD 11 (some 2) (.int .i64 (min l (v : Int))) rfl rfl (by kernel_rfl) (by kernel_rfl) (by kernel_rfl) (fun _ _ _ h => h) (Or.inl ⟨by rfl, ?_⟩) (by assumption) ?_
  · intro w hSw; (try dsimp only at hSw); obtain ⟨l3, d4⟩ := HF.out w hSw; have hns : d.size = n := HN.out; have hxe : d.extract k n = x := HXn.out; have hkn' : k ≤ n := HKn.out; go_simp <;> (intros; omega)
  simp only [Act.put, List.setIfInBounds_toArray, List.set_cons_zero, List.set_cons_succ]
  refine wpAnyH_done (by kernel_rfl) ?_ _
  clear hHeld
  go_wp2_with fail
  go_ret
  refine ⟨by rw [HA.out]; rfl, below_drewC HB1.out 1⟩
/-- an NSEC that may be used -/
def mayB (apex : ByteArray) (r : Rn) : Bool := decide (0 < (nqL apex [r] 1).length)
theorem mayB_facts {apex : ByteArray} {r : Rn} (h : mayB apex r = true) : zonR r = true := by
  unfold mayB at h
  have h := of_decide_eq_true h
  simp only [nqL, List.nil_append, List.getElem?_cons_zero] at h
  unfold nqOf at h
  split at h
  · rename_i hc
    have := hc.2.1
    unfold rgB at this
    rw [Bool.and_eq_true] at this
    exact this.2
  · simp at h
set_option maxRecDepth 100000 in
set_option maxHeartbeats 2000000 in
/-- proof.MayUse, of a NSEC -/
theorem mayUse_any (apex o d : ByteArray) (c l : Int) (w : World) (ha : isN apex = true) (ho : o.size ≤ 1048576) (hd : d.size ≤ 9223372036854775807) : Calls Tryz.prog 36 #[.string apex, .agg #[.string o, .int .i64 47, .int .i64 c, .int .i64 l, .string d]] w fun r w' => r = .returned (.bool (mayB apex ⟨o, 47, c, l, d⟩)) ∧ Below w.heap.size w w' := by
  have has : apex.size ≤ 1048576 := by have := ((isN_iff _).1 ha).1; omega
  obtain ⟨a1, h1⟩ : ∃ a, w.alloc (.cells #[.string o, .int .i64 47, .int .i64 c, .int .i64 l, .string d] 36) = a := ⟨_, rfl⟩
  obtain ⟨a2, h2⟩ : ∃ a, a1.alloc (.cells #[.string o, .int .i64 47, .int .i64 c, .int .i64 l, .string d] 36) = a := ⟨_, rfl⟩
  have HB1 : Hid (Below w.heap.size w a1) := h1 ▸ (Below.refl _ w).alloc (Nat.le_refl _) _
  have HX1 : Hid (Bx a1 w.heap.size #[.string o, .int .i64 47, .int .i64 c, .int .i64 l, .string d] 36) := h1 ▸ World.alloc_heap_new w _
  have HB2 : Hid (Below w.heap.size w a2) := h2 ▸ HB1.out.alloc HB1.out.size _
  have HX2 : Hid (Bx a2 a1.heap.size #[.string o, .int .i64 47, .int .i64 c, .int .i64 l, .string d] 36) := h2 ▸ World.alloc_heap_new a1 _
  have HRs : Hid (RsAt a2 (some ⟨a1.heap.size, 0, none⟩) [⟨o, 47, c, l, d⟩]) := rb_rs (rest := []) (by unfold Rb; simpa [rce5, ren5] using HX2.out)
  have x0 : a1.cell? ⟨w.heap.size, 0, none⟩ = some (.string o) := HX1.out.cell rfl
  have x1 : a1.cell? ⟨w.heap.size, 1, none⟩ = some (.int .i64 47) := HX1.out.cell rfl
  have x2 : a1.cell? ⟨w.heap.size, 2, none⟩ = some (.int .i64 c) := HX1.out.cell rfl
  have x3 : a1.cell? ⟨w.heap.size, 3, none⟩ = some (.int .i64 l) := HX1.out.cell rfl
  have x4 : a1.cell? ⟨w.heap.size, 4, none⟩ = some (.string d) := HX1.out.cell rfl
  have hz : ∀ r ∈ ([⟨o, 47, c, l, d⟩] : List Rn), r.o.size ≤ 1048576 ∧ r.d.size ≤ 9223372036854775807 := fun r hr => by
    obtain rfl := List.mem_singleton.1 hr; exact ⟨ho, hd⟩
  have HN := hide' (nsecsOf_any apex [⟨o, 47, c, l, d⟩] (some ⟨a1.heap.size, 0, none⟩) 1 a2 (by simp) has HRs.out hz)
  have HQ : Hid (∀ V, Below a2.heap.size a2 V → Calls Tryz.prog 54 #[.string apex, .slice (some ⟨a1.heap.size, 0, none⟩) 1 1] V fun r w' => (∃ p c, r = .returned (.slice p 0 c)) ∧ Below V.heap.size V w') := fun V hV => by
    refine (nsec3sOf_any apex [⟨o, 47, c, l, d⟩] (some ⟨a1.heap.size, 0, none⟩) 1 V (by simp) ha (rs_bel HRs.out hV) hz).mono ?_
    rintro r w' ⟨⟨v, rfl, ho⟩, hb⟩
    have h0 : hqL apex [⟨o, 47, c, l, d⟩] [(⟨o, 47, c, l, d⟩ : Rn)].length = [] := by
      show hqL apex [⟨o, 47, c, l, d⟩] 1 = []
      simp [hqL, hqOf]
    rw [h0] at ho
    obtain ⟨p, c', rfl, -⟩ := own_shape ho
    exact ⟨⟨p, c', rfl⟩, hb⟩
  unfold mayB
  generalize nqL apex [⟨o, 47, c, l, d⟩] 1 = NL at *
  obtain ⟨n, hn⟩ : ∃ n, NL.length = n := ⟨_, rfl⟩
  have HN2 : Hid (Calls Tryz.prog 53 #[.string apex, .slice (some ⟨a1.heap.size, 0, none⟩) 1 1] a2 fun r w' => (∃ p c, r = .returned (.slice p n c)) ∧ Below a2.heap.size a2 w') := by
    refine HN.out.mono ?_
    rintro r w' ⟨⟨v, rfl, ho⟩, hb⟩
    obtain ⟨p, c', rfl, -⟩ := own_shape ho
    refine ⟨⟨p, c', ?_⟩, hb⟩
    rw [← hn]
  rw [hn]
  clear HN hz has ha ho hd
  by_cases h0 : n = 0
  · subst h0
    go_enter Tryz.func36, Tryz.ntmps36
    go_wp2_with (first
      | (go_at_call 53; refine HN2.out.mono ?_; rintro e1 w1 ⟨hr1, hB1⟩; obtain ⟨p1, c1, rfl⟩ := hr1; have HBq := hide' hB1; clear hB1)
      | (go_at_call 54; refine (HQ.out _ HBq.out).mono ?_; rintro e2 w2 ⟨hr2, hB2⟩; obtain ⟨p2, c2, rfl⟩ := hr2; have HBr := hide' hB2; clear hB2))
    go_ret
    exact ⟨rfl, bstep (bstep HB2.out HBq.out HB2.out.size) HBr.out (Nat.le_trans HB2.out.size HBq.out.size)⟩
  · have hp : 0 < n := by omega
    have hd : decide (0 < n) = true := decide_eq_true hp
    rw [hd]
    clear hd h0 hn
    go_enter Tryz.func36, Tryz.ntmps36
    go_wp2_with (go_at_call 53; refine HN2.out.mono ?_; rintro e1 w1 ⟨hr1, hB1⟩; obtain ⟨p1, c1, rfl⟩ := hr1; have HBq := hide' hB1; clear hB1)
    go_ret
    exact ⟨rfl, bstep HB2.out HBq.out HB2.out.size⟩
end Go.Proofs.YtgekfhghambacaaGreat

/-
  Chapter 12: (*cache.Cache).Deny, cache.New. (The verifier's own text; mkccm.py writes it.)
-/
namespace Go.Proofs.YtgekfhghambacaaGreat
set_option linter.unusedVariables false
set_option linter.unusedSimpArgs false
open Go.RowKit Go.Shelf Go.Maps Go.Proofs.YtgekfhghambacaaGreat.Nm

/-- what Deny answers -/
def denyC (n : ByteArray) (t : Int) (r : Rn) (now : Int) : Int := if ¬ (0 ≤ now ∧ now ≤ 4294967295) then 23 else if isN n = false then 1 else if t < 0 ∨ t > 65535 then 6 else if r.t ≠ 6 ∨ zonR r = false ∨ withinB n r.o = false then 15 else 0
/-- how long -/
def denyA (r : Rn) : Int := min (ageA r.l r.d) 10800
/-- what Deny makes of the entries, ahead of pushing out -/
def denyS (n : ByteArray) (t now came : Int) (r : Rn) (b : Nat) (S : List Ce) : List Ce := if t = 0 then repS (voidK n) now (denyA r) 0 came [] none 0 b (S.filter (fun e => !fbB (foldB n) e)) else repS (lackK n t) now (denyA r) 0 came [] none 0 b (outK Ce.key (setK n t) S)
/-- what Deny does -/
def denyE (w : World) (L M P base : Nat) (most came : Int) (S : List Ce) (n : ByteArray) (t : Int) (x : Rn) (now : Int) (r : Ending) (w' : World) : Prop :=
  r = .returned (.int .i64 (denyC n t x now)) ∧ ∃ S' Q' came', Cac w' L M P base most came' S' Q' ∧ Emap w' M S' ∧ Fk (FC M P) base w w' ∧
    (((denyC n t x now ≠ 0 ∨ denyA x = 0) ∧ S' = S ∧ came' = came) ∨ (denyC n t x now = 0 ∧ denyA x ≠ 0 ∧ came' = came + 1 ∧ ∃ b, pushE most now (denyS n t now came x b S) S'))
theorem rsT_none (w : World) : RsT w none [] := ⟨fun k hk => absurd hk (Nat.not_lt_zero _), fun a ha => by cases ha⟩
theorem bx5C {w : World} {R : Nat} {T : TypeId} {a b c d e : Value} (h : Bx w R #[a, b, c, d, e] T) : w.cell? ⟨R, 0, none⟩ = some a ∧ w.cell? ⟨R, 1, none⟩ = some b ∧ w.cell? ⟨R, 2, none⟩ = some c ∧ w.cell? ⟨R, 3, none⟩ = some d ∧ w.cell? ⟨R, 4, none⟩ = some e := ⟨h.cell rfl, h.cell rfl, h.cell rfl, h.cell rfl, h.cell rfl⟩
theorem ageA_nn {l : Int} {d : ByteArray} (h : 0 ≤ l) : 0 ≤ ageA l d := by unfold ageA; omega
set_option maxRecDepth 100000 in
set_option maxHeartbeats 8000000 in
/-- (*cache.Cache).Deny -/
theorem deny_any {w : World} {L M P base : Nat} {most came : Int} {S : List Ce} {Q : List Qe} (h : Cac w L M P base most came S Q) (hM : Emap w M S) (hm : most ≠ 0) (hm0 : 0 ≤ most) (hS : S.length < 99999) (hc0 : 0 ≤ came) (hc1 : came ≤ 1099511627775) (n o d : ByteArray) (t rt rc rl now : Int) (hn : n.size ≤ maxLen) (ho : o.size ≤ maxLen) (hd : d.size ≤ 9223372036854775807) :
    Calls Tryz.prog 9 #[.pointer (some ⟨L, 0, none⟩), .string n, .int .i64 t, .agg #[.string o, .int .i64 rt, .int .i64 rc, .int .i64 rl, .string d], .int .i64 now] w (denyE w L M P base most came S n t ⟨o, rt, rc, rl, d⟩ now) := by
  obtain ⟨a1, h1⟩ : ∃ a, w.alloc (.cells #[.string o, .int .i64 rt, .int .i64 rc, .int .i64 rl, .string d] 36) = a := ⟨_, rfl⟩
  have HG1 : Hid (w.grownBy a1 none) := h1 ▸ World.grownBy_alloc w _ none
  have HX1 : Hid (Bx a1 w.heap.size #[.string o, .int .i64 rt, .int .i64 rc, .int .i64 rl, .string d] 36) := h1 ▸ World.alloc_heap_new w _
  have HC1 := hide' (h.idle HG1.out)
  have HM1 : Hid (Emap a1 M S) := Lmap.kept hM HG1.out (by simp)
  have HIN := hide' (isNone_any L most a1 (HC1.out.bx.cell (j := 0) rfl) hm)
  have HIT := hide' (fun V => isTime_any now V)
  have HCk := hide' (fun V => check_any n V hn)
  have HIR := hide' (fun V => isRecord_any o d rt rc rl V ho hd)
  have HWi := hide' (fun V => within_any n o V hn ho)
  have HSl := hide' hS
  have HM0 := hide' hm0
  have HCm : Hid (0 ≤ came ∧ came ≤ 1099511627775) := ⟨hc0, hc1⟩
  have HF : Hid (∀ V : World, a1.grownBy V none → Bx V w.heap.size #[.string o, .int .i64 rt, .int .i64 rc, .int .i64 rl, .string d] 36 ∧ Cac V L M P base most came S Q ∧ Emap V M S ∧ Fk (FC M P) base w V) := fun V hV => ⟨HX1.out.grown hV (by simp), HC1.out.idle hV, Lmap.kept HM1.out hV (by simp), (Fk.idle HG1.out).trans (Fk.idle hV)⟩
  obtain ⟨x0, x1, x2, x3, x4⟩ := bx5C HX1.out
  have HNn := hide' hn
  clear h hM hm hS hm0 hc0 hc1 hn ho hd
  by_cases htm : 0 ≤ now ∧ now ≤ 4294967295
  case neg =>
    have HQ : Hid (denyC n t ⟨o, rt, rc, rl, d⟩ now = 23) := by unfold Hid denyC; rw [if_pos htm]
    rw [decide_eq_false htm] at HIT
    clear htm
    go_enter Tryz.func9, Tryz.ntmps9
    go_wp2_with (first
      | (go_at_call 15; refine HIN.out.mono ?_; rintro e1 w1 ⟨rfl, hw1⟩; have hw1' := hw1.symm; subst hw1')
      | (go_at_call 17; refine (HIT.out _).mono ?_; rintro e3 w3 ⟨rfl, hw3⟩; have hw3' := hw3.symm; subst hw3')
      | (go_at_call 16; refine (HCk.out _).mono ?_; rintro e2 w2 ⟨rfl, hB2⟩; have HG2 : Hid (a1.grownBy w2 none) := grown_below hB2 none; clear hB2; obtain ⟨y0, y1, y2, y3, y4⟩ := bx5C (HF.out _ HG2.out).1)
      | (go_at_call 32; refine (HIR.out _).mono ?_; rintro e4 w4 ⟨rfl, hB4⟩; have HG4 : Hid (a1.grownBy w4 none) := (grown_trans HG2.out (grown_below hB4 none)); clear hB4; obtain ⟨z0, z1, z2, z3, z4⟩ := bx5C (HF.out _ HG4.out).1)
      | (go_at_call 33; refine (HWi.out _).mono ?_; rintro e5 w5 ⟨rfl, hB5⟩; have HG5 : Hid (a1.grownBy w5 none) := (grown_trans HG4.out (grown_below hB5 none)); clear hB5; obtain ⟨u0, u1, u2, u3, u4⟩ := bx5C (HF.out _ HG5.out).1))
    go_ret
    obtain ⟨-, hc, hm, hf⟩ := (HF.out a1 ⟨rfl, rfl, rfl, Nat.le_refl _, fun _ _ _ => rfl⟩)
    exact ⟨by rw [HQ.out]; rfl, S, Q, came, hc, hm, hf, .inl ⟨.inl (by rw [HQ.out]; decide), rfl, rfl⟩⟩
  have HTm := hide' htm
  rw [decide_eq_true htm] at HIT
  have hq1 : denyC n t ⟨o, rt, rc, rl, d⟩ now = if isN n = false then 1 else if t < 0 ∨ t > 65535 then 6 else if rt ≠ 6 ∨ zonR ⟨o, rt, rc, rl, d⟩ = false ∨ withinB n o = false then 15 else 0 := by unfold denyC; rw [if_neg (fun h => h htm)]
  clear htm
  cases hN : isN n with
  | false =>
    have HQ : Hid (denyC n t ⟨o, rt, rc, rl, d⟩ now = 1) := by unfold Hid; rw [hq1, if_pos hN]
    have hck : chk n = 1 := by unfold chk; rw [hN]; rfl
    rw [hck] at HCk
    clear hN hck hq1
    go_enter Tryz.func9, Tryz.ntmps9
    go_wp2_with (first
      | (go_at_call 15; refine HIN.out.mono ?_; rintro e1 w1 ⟨rfl, hw1⟩; have hw1' := hw1.symm; subst hw1')
      | (go_at_call 17; refine (HIT.out _).mono ?_; rintro e3 w3 ⟨rfl, hw3⟩; have hw3' := hw3.symm; subst hw3')
      | (go_at_call 16; refine (HCk.out _).mono ?_; rintro e2 w2 ⟨rfl, hB2⟩; have HG2 : Hid (a1.grownBy w2 none) := grown_below hB2 none; clear hB2; obtain ⟨y0, y1, y2, y3, y4⟩ := bx5C (HF.out _ HG2.out).1)
      | (go_at_call 32; refine (HIR.out _).mono ?_; rintro e4 w4 ⟨rfl, hB4⟩; have HG4 : Hid (a1.grownBy w4 none) := (grown_trans HG2.out (grown_below hB4 none)); clear hB4; obtain ⟨z0, z1, z2, z3, z4⟩ := bx5C (HF.out _ HG4.out).1)
      | (go_at_call 33; refine (HWi.out _).mono ?_; rintro e5 w5 ⟨rfl, hB5⟩; have HG5 : Hid (a1.grownBy w5 none) := (grown_trans HG4.out (grown_below hB5 none)); clear hB5; obtain ⟨u0, u1, u2, u3, u4⟩ := bx5C (HF.out _ HG5.out).1))
    go_ret
    obtain ⟨-, hc, hm, hf⟩ := (HF.out _ HG2.out)
    exact ⟨by rw [HQ.out]; rfl, S, Q, came, hc, hm, hf, .inl ⟨.inl (by rw [HQ.out]; decide), rfl, rfl⟩⟩
  | true =>
    have hck : chk n = 0 := by unfold chk; rw [if_pos hN]
    rw [hck] at HCk
    rw [if_neg (by rw [hN]; simp)] at hq1
    have HNm := hide' hN
    have hfs := foldB_size hN
    clear hN hck
    by_cases ht : t < 0 ∨ t > 65535
    · have HQ : Hid (denyC n t ⟨o, rt, rc, rl, d⟩ now = 6) := by unfold Hid; rw [hq1, if_pos ht]
      have hcs : t < 0 ∨ (¬ t < 0 ∧ t > 65535) := by omega
      clear hq1 ht
      rcases hcs with h2 | ⟨h2, h3⟩
      · skip
        go_enter Tryz.func9, Tryz.ntmps9
        go_wp2_with (first
          | (go_at_call 15; refine HIN.out.mono ?_; rintro e1 w1 ⟨rfl, hw1⟩; have hw1' := hw1.symm; subst hw1')
          | (go_at_call 17; refine (HIT.out _).mono ?_; rintro e3 w3 ⟨rfl, hw3⟩; have hw3' := hw3.symm; subst hw3')
          | (go_at_call 16; refine (HCk.out _).mono ?_; rintro e2 w2 ⟨rfl, hB2⟩; have HG2 : Hid (a1.grownBy w2 none) := grown_below hB2 none; clear hB2; obtain ⟨y0, y1, y2, y3, y4⟩ := bx5C (HF.out _ HG2.out).1)
          | (go_at_call 32; refine (HIR.out _).mono ?_; rintro e4 w4 ⟨rfl, hB4⟩; have HG4 : Hid (a1.grownBy w4 none) := (grown_trans HG2.out (grown_below hB4 none)); clear hB4; obtain ⟨z0, z1, z2, z3, z4⟩ := bx5C (HF.out _ HG4.out).1)
          | (go_at_call 33; refine (HWi.out _).mono ?_; rintro e5 w5 ⟨rfl, hB5⟩; have HG5 : Hid (a1.grownBy w5 none) := (grown_trans HG4.out (grown_below hB5 none)); clear hB5; obtain ⟨u0, u1, u2, u3, u4⟩ := bx5C (HF.out _ HG5.out).1))
        go_ret
        obtain ⟨-, hc, hm, hf⟩ := (HF.out _ HG2.out)
        exact ⟨by rw [HQ.out]; rfl, S, Q, came, hc, hm, hf, .inl ⟨.inl (by rw [HQ.out]; decide), rfl, rfl⟩⟩
      · skip
        go_enter Tryz.func9, Tryz.ntmps9
        go_wp2_with (first
          | (go_at_call 15; refine HIN.out.mono ?_; rintro e1 w1 ⟨rfl, hw1⟩; have hw1' := hw1.symm; subst hw1')
          | (go_at_call 17; refine (HIT.out _).mono ?_; rintro e3 w3 ⟨rfl, hw3⟩; have hw3' := hw3.symm; subst hw3')
          | (go_at_call 16; refine (HCk.out _).mono ?_; rintro e2 w2 ⟨rfl, hB2⟩; have HG2 : Hid (a1.grownBy w2 none) := grown_below hB2 none; clear hB2; obtain ⟨y0, y1, y2, y3, y4⟩ := bx5C (HF.out _ HG2.out).1)
          | (go_at_call 32; refine (HIR.out _).mono ?_; rintro e4 w4 ⟨rfl, hB4⟩; have HG4 : Hid (a1.grownBy w4 none) := (grown_trans HG2.out (grown_below hB4 none)); clear hB4; obtain ⟨z0, z1, z2, z3, z4⟩ := bx5C (HF.out _ HG4.out).1)
          | (go_at_call 33; refine (HWi.out _).mono ?_; rintro e5 w5 ⟨rfl, hB5⟩; have HG5 : Hid (a1.grownBy w5 none) := (grown_trans HG4.out (grown_below hB5 none)); clear hB5; obtain ⟨u0, u1, u2, u3, u4⟩ := bx5C (HF.out _ HG5.out).1))
        go_ret
        obtain ⟨-, hc, hm, hf⟩ := (HF.out _ HG2.out)
        exact ⟨by rw [HQ.out]; rfl, S, Q, came, hc, hm, hf, .inl ⟨.inl (by rw [HQ.out]; decide), rfl, rfl⟩⟩
    · rw [if_neg ht] at hq1
      have ht1 : ¬ t < 0 := fun h => ht (.inl h)
      have ht2 : ¬ t > 65535 := fun h => ht (.inr h)
      clear ht
      by_cases hty : rt = 6
      case neg =>
        have HQ : Hid (denyC n t ⟨o, rt, rc, rl, d⟩ now = 15) := by unfold Hid; rw [hq1, if_pos (.inl hty)]
        have hb : (rt != 6) = true := by simp [hty]
        clear hq1
        go_enter Tryz.func9, Tryz.ntmps9
        go_wp2_with (first
          | (go_at_call 15; refine HIN.out.mono ?_; rintro e1 w1 ⟨rfl, hw1⟩; have hw1' := hw1.symm; subst hw1')
          | (go_at_call 17; refine (HIT.out _).mono ?_; rintro e3 w3 ⟨rfl, hw3⟩; have hw3' := hw3.symm; subst hw3')
          | (go_at_call 16; refine (HCk.out _).mono ?_; rintro e2 w2 ⟨rfl, hB2⟩; have HG2 : Hid (a1.grownBy w2 none) := grown_below hB2 none; clear hB2; obtain ⟨y0, y1, y2, y3, y4⟩ := bx5C (HF.out _ HG2.out).1)
          | (go_at_call 32; refine (HIR.out _).mono ?_; rintro e4 w4 ⟨rfl, hB4⟩; have HG4 : Hid (a1.grownBy w4 none) := (grown_trans HG2.out (grown_below hB4 none)); clear hB4; obtain ⟨z0, z1, z2, z3, z4⟩ := bx5C (HF.out _ HG4.out).1)
          | (go_at_call 33; refine (HWi.out _).mono ?_; rintro e5 w5 ⟨rfl, hB5⟩; have HG5 : Hid (a1.grownBy w5 none) := (grown_trans HG4.out (grown_below hB5 none)); clear hB5; obtain ⟨u0, u1, u2, u3, u4⟩ := bx5C (HF.out _ HG5.out).1))
        go_ret
        obtain ⟨-, hc, hm, hf⟩ := (HF.out _ HG2.out)
        exact ⟨by rw [HQ.out]; rfl, S, Q, came, hc, hm, hf, .inl ⟨.inl (by rw [HQ.out]; decide), rfl, rfl⟩⟩
      subst hty
      cases hz : zonR ⟨o, 6, rc, rl, d⟩ with
      | false =>
        have HQ : Hid (denyC n t ⟨o, 6, rc, rl, d⟩ now = 15) := by unfold Hid; rw [hq1, if_pos (.inr (.inl hz))]
        have hz' : zonB o d 6 rc rl = false := hz
        rw [hz'] at HIR
        clear hz hz' hq1
        go_enter Tryz.func9, Tryz.ntmps9
        go_wp2_with (first
          | (go_at_call 15; refine HIN.out.mono ?_; rintro e1 w1 ⟨rfl, hw1⟩; have hw1' := hw1.symm; subst hw1')
          | (go_at_call 17; refine (HIT.out _).mono ?_; rintro e3 w3 ⟨rfl, hw3⟩; have hw3' := hw3.symm; subst hw3')
          | (go_at_call 16; refine (HCk.out _).mono ?_; rintro e2 w2 ⟨rfl, hB2⟩; have HG2 : Hid (a1.grownBy w2 none) := grown_below hB2 none; clear hB2; obtain ⟨y0, y1, y2, y3, y4⟩ := bx5C (HF.out _ HG2.out).1)
          | (go_at_call 32; refine (HIR.out _).mono ?_; rintro e4 w4 ⟨rfl, hB4⟩; have HG4 : Hid (a1.grownBy w4 none) := (grown_trans HG2.out (grown_below hB4 none)); clear hB4; obtain ⟨z0, z1, z2, z3, z4⟩ := bx5C (HF.out _ HG4.out).1)
          | (go_at_call 33; refine (HWi.out _).mono ?_; rintro e5 w5 ⟨rfl, hB5⟩; have HG5 : Hid (a1.grownBy w5 none) := (grown_trans HG4.out (grown_below hB5 none)); clear hB5; obtain ⟨u0, u1, u2, u3, u4⟩ := bx5C (HF.out _ HG5.out).1))
        go_ret
        obtain ⟨-, hc, hm, hf⟩ := (HF.out _ HG4.out)
        exact ⟨by rw [HQ.out]; rfl, S, Q, came, hc, hm, hf, .inl ⟨.inl (by rw [HQ.out]; decide), rfl, rfl⟩⟩
      | true =>
        have hz' : zonB o d 6 rc rl = true := hz
        rw [hz'] at HIR
        obtain ⟨f1, f2, f3, f4, f5, f6, f7, f8, f9, f10, -⟩ := ok_facts hz
        simp only at f3 f4 f5 f8
        have h4 := soaC_size f5
        cases hw : withinB n o with
        | false =>
          have HQ : Hid (denyC n t ⟨o, 6, rc, rl, d⟩ now = 15) := by unfold Hid; rw [hq1, if_pos (.inr (.inr hw))]
          rw [hw] at HWi
          clear hz hz' hq1 hw f1 f2 f3 f4 f5 f6 f7 f8 f9 f10 h4
          go_enter Tryz.func9, Tryz.ntmps9
          go_wp2_with (first
            | (go_at_call 15; refine HIN.out.mono ?_; rintro e1 w1 ⟨rfl, hw1⟩; have hw1' := hw1.symm; subst hw1')
            | (go_at_call 17; refine (HIT.out _).mono ?_; rintro e3 w3 ⟨rfl, hw3⟩; have hw3' := hw3.symm; subst hw3')
            | (go_at_call 16; refine (HCk.out _).mono ?_; rintro e2 w2 ⟨rfl, hB2⟩; have HG2 : Hid (a1.grownBy w2 none) := grown_below hB2 none; clear hB2; obtain ⟨y0, y1, y2, y3, y4⟩ := bx5C (HF.out _ HG2.out).1)
            | (go_at_call 32; refine (HIR.out _).mono ?_; rintro e4 w4 ⟨rfl, hB4⟩; have HG4 : Hid (a1.grownBy w4 none) := (grown_trans HG2.out (grown_below hB4 none)); clear hB4; obtain ⟨z0, z1, z2, z3, z4⟩ := bx5C (HF.out _ HG4.out).1)
            | (go_at_call 33; refine (HWi.out _).mono ?_; rintro e5 w5 ⟨rfl, hB5⟩; have HG5 : Hid (a1.grownBy w5 none) := (grown_trans HG4.out (grown_below hB5 none)); clear hB5; obtain ⟨u0, u1, u2, u3, u4⟩ := bx5C (HF.out _ HG5.out).1))
          go_ret
          obtain ⟨-, hc, hm, hf⟩ := (HF.out _ HG5.out)
          exact ⟨by rw [HQ.out]; rfl, S, Q, came, hc, hm, hf, .inl ⟨.inl (by rw [HQ.out]; decide), rfl, rfl⟩⟩
        | true =>
          have HQ : Hid (denyC n t ⟨o, 6, rc, rl, d⟩ now = 0) := by
            unfold Hid
            rw [hq1, if_neg]
            rintro (h | h | h)
            · exact h rfl
            · rw [hz] at h; cases h
            · rw [hw] at h; cases h
          rw [hw] at HWi
          have HAg := hide' (fun V => ageOfAbsence_any o d 6 rc rl V h4 f8)
          obtain ⟨A, hA⟩ : ∃ A, ageA rl d = A := ⟨_, rfl⟩
          obtain ⟨ag, hag⟩ : ∃ ag, min A 10800 = ag := ⟨_, rfl⟩
          have hA0 : 0 ≤ A := hA ▸ ageA_nn f3
          have HD : Hid (denyA ⟨o, 6, rc, rl, d⟩ = ag) := by unfold Hid denyA; rw [hA, hag]
          rw [hA] at HAg
          have hg0 : 0 ≤ ag := by omega
          have hg1 : ag ≤ 10800 := by omega
          have HA3 : Hid (min A 10800 = ag) := hag
          have HGr : Hid (0 ≤ ag ∧ ag ≤ 10800) := ⟨hg0, hg1⟩
          have HT2 : Hid (0 ≤ t ∧ t ≤ 65535) := ⟨Int.not_lt.1 ht1, Int.not_lt.1 ht2⟩
          have HFs := hide' hfs
          clear hz hz' hq1 hw f1 f2 f3 f4 f5 f6 f7 f8 f9 f10 h4 hA hA0 hg0 hg1 hfs
          by_cases h0 : ag = 0
          · subst h0
            go_enter Tryz.func9, Tryz.ntmps9
            go_wp2_with (first
              | (go_at_call 15; refine HIN.out.mono ?_; rintro e1 w1 ⟨rfl, hw1⟩; have hw1' := hw1.symm; subst hw1')
              | (go_at_call 17; refine (HIT.out _).mono ?_; rintro e3 w3 ⟨rfl, hw3⟩; have hw3' := hw3.symm; subst hw3')
              | (go_at_call 16; refine (HCk.out _).mono ?_; rintro e2 w2 ⟨rfl, hB2⟩; have HG2 : Hid (a1.grownBy w2 none) := grown_below hB2 none; clear hB2; obtain ⟨y0, y1, y2, y3, y4⟩ := bx5C (HF.out _ HG2.out).1)
              | (go_at_call 32; refine (HIR.out _).mono ?_; rintro e4 w4 ⟨rfl, hB4⟩; have HG4 : Hid (a1.grownBy w4 none) := (grown_trans HG2.out (grown_below hB4 none)); clear hB4; obtain ⟨z0, z1, z2, z3, z4⟩ := bx5C (HF.out _ HG4.out).1)
              | (go_at_call 33; refine (HWi.out _).mono ?_; rintro e5 w5 ⟨rfl, hB5⟩; have HG5 : Hid (a1.grownBy w5 none) := (grown_trans HG4.out (grown_below hB5 none)); clear hB5; obtain ⟨u0, u1, u2, u3, u4⟩ := bx5C (HF.out _ HG5.out).1)
              | (go_at_call 34; refine (HAg.out _).mono ?_; rintro e6 w6 ⟨rfl, hB6⟩; have HG6 : Hid (a1.grownBy w6 none) := (grown_trans HG5.out (grown_below hB6 none)); clear hB6))
            go_ret
            obtain ⟨-, hc, hm, hf⟩ := (HF.out _ HG6.out)
            exact ⟨by rw [HQ.out]; rfl, S, Q, came, hc, hm, hf, .inl ⟨.inr HD.out, rfl, rfl⟩⟩
          · have hb0 : (ag == 0) = false := by rw [beq_eq_false_iff_ne]; exact h0
            have H0 := hide' h0
            have HRC : Hid (repC ag came = came + 1) := by unfold Hid repC; rw [if_neg h0]
            clear h0
            by_cases htz : t = 0
            · subst htz
              have HKv : Hid (kyG (voidK n)) := ⟨rfl, by unfold voidK maxLen; have := HFs.out; simp only; omega, rfl, by show (0 : Nat) ≤ maxLen; exact Nat.zero_le _⟩
              have HVk := hide' (fun V => voidKey_any n V HNn.out)
              obtain ⟨S2, hS2⟩ : ∃ S2, S.filter (fun e => !fbB (foldB n) e) = S2 := ⟨_, rfl⟩
              have HFb : Hid (∀ V, a1.grownBy V none → Calls Tryz.prog 35 #[.pointer (some ⟨L, 0, none⟩), .string n] V fun r w' => r = .returned (.tuple #[]) ∧ ∃ Q', Cac w' L M P base most came S2 Q' ∧ Emap w' M S2 ∧ Fk (FK M P) base V w') := fun V hV => hS2 ▸ forgetBelow_any (HF.out V hV).2.1 (HF.out V hV).2.2.1 HNn.out (by unfold maxLen; have := HFs.out; omega)
              have HS2l : Hid (S2.length < 99999) := by unfold Hid; rw [← hS2]; exact Nat.lt_of_le_of_lt (List.length_filter_le _ _) HSl.out
              have HSe := hide' hS2
              unfold kyV at HVk
              obtain ⟨⟨k0, k1, k2, k3⟩, hk⟩ : ∃ K0, voidK n = K0 := ⟨_, rfl⟩
              rw [hk] at HVk HKv
              have HK := hide' hk
              simp only at HVk
              clear hk hS2
              go_enter Tryz.func9, Tryz.ntmps9
              go_wp2_with (first
                | (go_at_call 15; refine HIN.out.mono ?_; rintro e1 w1 ⟨rfl, hw1⟩; have hw1' := hw1.symm; subst hw1')
                | (go_at_call 17; refine (HIT.out _).mono ?_; rintro e3 w3 ⟨rfl, hw3⟩; have hw3' := hw3.symm; subst hw3')
                | (go_at_call 16; refine (HCk.out _).mono ?_; rintro e2 w2 ⟨rfl, hB2⟩; have HG2 : Hid (a1.grownBy w2 none) := grown_below hB2 none; clear hB2; obtain ⟨y0, y1, y2, y3, y4⟩ := bx5C (HF.out _ HG2.out).1)
                | (go_at_call 32; refine (HIR.out _).mono ?_; rintro e4 w4 ⟨rfl, hB4⟩; have HG4 : Hid (a1.grownBy w4 none) := (grown_trans HG2.out (grown_below hB4 none)); clear hB4; obtain ⟨z0, z1, z2, z3, z4⟩ := bx5C (HF.out _ HG4.out).1)
                | (go_at_call 33; refine (HWi.out _).mono ?_; rintro e5 w5 ⟨rfl, hB5⟩; have HG5 : Hid (a1.grownBy w5 none) := (grown_trans HG4.out (grown_below hB5 none)); clear hB5; obtain ⟨u0, u1, u2, u3, u4⟩ := bx5C (HF.out _ HG5.out).1)
                | (go_at_call 34; refine (HAg.out _).mono ?_; rintro e6 w6 ⟨rfl, hB6⟩; have HG6 : Hid (a1.grownBy w6 none) := (grown_trans HG5.out (grown_below hB6 none)); clear hB6)
                | (go_at_call 35; refine (HFb.out _ HG6.out).mono ?_; rintro e7 w7 ⟨rfl, hw7⟩; obtain ⟨Q7, hC7, hM7, hF7⟩ := hw7; have HC7 := hide' hC7; have HM7 := hide' hM7; have HF7 := hide' (hF7.wide (K' := FC M P) fk_fc); clear hC7 hM7 hF7)
                | (go_at_call 29; refine (HVk.out _).mono ?_; rintro e8 w8 ⟨rfl, hB8⟩; have HG8 : Hid (w7.grownBy w8 none) := grown_below hB8 none; clear hB8; have HRp := hide' (replace_any (R := []) (p := none) (c := 0) (rank := 0) (HC7.out.idle HG8.out) (Lmap.kept HM7.out HG8.out (by simp)) HKv.out (rsT_none _) (Nat.le_refl _) (Nat.zero_le _) (fun _ => rfl) (Nat.lt_of_lt_of_le HS2l.out (Nat.le_succ _)) HGr.out.1 (Int.le_trans HGr.out.2 (by decide)) HTm.out.1 HTm.out.2 HCm.out.1 (Int.le_trans HCm.out.2 (by decide))))
                | (go_at_call 23; refine HRp.out.mono ?_; rintro e9 w9 ⟨rfl, hw9⟩; obtain ⟨Q9, hC9, hM9, hF9⟩ := hw9; have HC9 := hide' hC9; have HM9 := hide' hM9; have HF9 := hide' hF9; have HPu := hide' (pushOut_any (now := now) hC9 hM9 HM0.out); clear hC9 hM9 hF9)
                | (go_at_call 30; refine HPu.out.mono ?_; rintro ea wa ⟨rfl, hwa⟩; obtain ⟨S', Q', hpu, hCa, hMa, hFa⟩ := hwa; have HPa := hide' hpu; have HCa := hide' hCa; have HMa := hide' hMa; have HFa := hide' hFa; clear hpu hCa hMa hFa))
              go_ret
              refine ⟨by rw [HQ.out]; rfl, S', Q', came + 1, HRC.out ▸ HCa.out, HMa.out, ((((HF.out _ HG6.out).2.2.2.trans HF7.out).trans (Fk.idle HG8.out)).trans HF9.out).trans HFa.out, .inr ⟨HQ.out, by rw [HD.out]; exact H0.out, rfl, w8.heap.size, ?_⟩⟩
              have hpu := HPa.out
              unfold denyS
              rw [if_pos rfl]
              rw [HD.out, HSe.out, HK.out]
              exact hpu
            · have hbt : (t == 0) = false := by rw [beq_eq_false_iff_ne]; exact htz
              have HTz := hide' htz
              have HKs : Hid (kyG (setK n t)) := ⟨rfl, by unfold setK maxLen; have := HFs.out; simp only; omega, by unfold setK; exact wf64C t (by have := HT2.out; omega) (by have := HT2.out; omega), by show (0 : Nat) ≤ maxLen; exact Nat.zero_le _⟩
              have HKl : Hid (kyG (lackK n t)) := ⟨rfl, by unfold lackK maxLen; have := HFs.out; simp only; omega, by unfold lackK; exact wf64C t (by have := HT2.out; omega) (by have := HT2.out; omega), by show (0 : Nat) ≤ maxLen; exact Nat.zero_le _⟩
              have HSk := hide' (fun V => setKey_any n t V HNn.out)
              have HLk := hide' (fun V => lackKey_any n t V HNn.out)
              obtain ⟨S2, hS2⟩ : ∃ S2, outK Ce.key (setK n t) S = S2 := ⟨_, rfl⟩
              unfold kyV at HSk HLk
              obtain ⟨⟨j0, j1, j2, j3⟩, hj⟩ : ∃ K0, setK n t = K0 := ⟨_, rfl⟩
              have HSe : Hid (outK Ce.key (setK n t) S = S2) := hS2
              rw [hj] at HSk HKs hS2
              obtain ⟨⟨k0, k1, k2, k3⟩, hk⟩ : ∃ K0, lackK n t = K0 := ⟨_, rfl⟩
              rw [hk] at HLk HKl
              have HK := hide' hk
              simp only at HSk HLk
              have HFb : Hid (∀ V, a1.grownBy V none → Calls Tryz.prog 26 #[.pointer (some ⟨L, 0, none⟩), .agg #[.int .i64 j0, .string j1, .int .i64 j2, .string j3]] V fun r w' => r = .returned (.tuple #[]) ∧ ∃ Q', Cac w' L M P base most came S2 Q' ∧ Emap w' M S2 ∧ Fk (FK M P) base V w') := fun V hV => hS2 ▸ forget_any (I := fun w S => Emap w M S) (r := none) (x := (j0, j1, j2, j3)) (mvE M HKs.out) (HF.out V hV).2.1 (HF.out V hV).2.2.1 HKs.out
              have HS2l : Hid (S2.length < 99999) := by unfold Hid; rw [← hS2]; exact Nat.lt_of_le_of_lt (outK_len_le _ _) HSl.out
              clear hk hj hS2 htz
              go_enter Tryz.func9, Tryz.ntmps9
              go_wp2_with (first
                | (go_at_call 15; refine HIN.out.mono ?_; rintro e1 w1 ⟨rfl, hw1⟩; have hw1' := hw1.symm; subst hw1')
                | (go_at_call 17; refine (HIT.out _).mono ?_; rintro e3 w3 ⟨rfl, hw3⟩; have hw3' := hw3.symm; subst hw3')
                | (go_at_call 16; refine (HCk.out _).mono ?_; rintro e2 w2 ⟨rfl, hB2⟩; have HG2 : Hid (a1.grownBy w2 none) := grown_below hB2 none; clear hB2; obtain ⟨y0, y1, y2, y3, y4⟩ := bx5C (HF.out _ HG2.out).1)
                | (go_at_call 32; refine (HIR.out _).mono ?_; rintro e4 w4 ⟨rfl, hB4⟩; have HG4 : Hid (a1.grownBy w4 none) := (grown_trans HG2.out (grown_below hB4 none)); clear hB4; obtain ⟨z0, z1, z2, z3, z4⟩ := bx5C (HF.out _ HG4.out).1)
                | (go_at_call 33; refine (HWi.out _).mono ?_; rintro e5 w5 ⟨rfl, hB5⟩; have HG5 : Hid (a1.grownBy w5 none) := (grown_trans HG4.out (grown_below hB5 none)); clear hB5; obtain ⟨u0, u1, u2, u3, u4⟩ := bx5C (HF.out _ HG5.out).1)
                | (go_at_call 34; refine (HAg.out _).mono ?_; rintro e6 w6 ⟨rfl, hB6⟩; have HG6 : Hid (a1.grownBy w6 none) := (grown_trans HG5.out (grown_below hB6 none)); clear hB6)
                | (go_at_call 18; refine (HSk.out _).mono ?_; rintro eb wb ⟨rfl, hBb⟩; have HGb : Hid (a1.grownBy wb none) := (grown_trans HG6.out (grown_below hBb none)); clear hBb)
                | (go_at_call 26; refine (HFb.out _ HGb.out).mono ?_; rintro e7 w7 ⟨rfl, hw7⟩; obtain ⟨Q7, hC7, hM7, hF7⟩ := hw7; have HC7 := hide' hC7; have HM7 := hide' hM7; have HF7 := hide' (hF7.wide (K' := FC M P) fk_fc); clear hC7 hM7 hF7)
                | (go_at_call 27; refine (HLk.out _).mono ?_; rintro e8 w8 ⟨rfl, hB8⟩; have HG8 : Hid (w7.grownBy w8 none) := grown_below hB8 none; clear hB8; have HRp := hide' (replace_any (R := []) (p := none) (c := 0) (rank := 0) (HC7.out.idle HG8.out) (Lmap.kept HM7.out HG8.out (by simp)) HKl.out (rsT_none _) (Nat.le_refl _) (Nat.zero_le _) (fun _ => rfl) (Nat.lt_of_lt_of_le HS2l.out (Nat.le_succ _)) HGr.out.1 (Int.le_trans HGr.out.2 (by decide)) HTm.out.1 HTm.out.2 HCm.out.1 (Int.le_trans HCm.out.2 (by decide))))
                | (go_at_call 23; refine HRp.out.mono ?_; rintro e9 w9 ⟨rfl, hw9⟩; obtain ⟨Q9, hC9, hM9, hF9⟩ := hw9; have HC9 := hide' hC9; have HM9 := hide' hM9; have HF9 := hide' hF9; have HPu := hide' (pushOut_any (now := now) hC9 hM9 HM0.out); clear hC9 hM9 hF9)
                | (go_at_call 30; refine HPu.out.mono ?_; rintro ea wa ⟨rfl, hwa⟩; obtain ⟨S', Q', hpu, hCa, hMa, hFa⟩ := hwa; have HPa := hide' hpu; have HCa := hide' hCa; have HMa := hide' hMa; have HFa := hide' hFa; clear hpu hCa hMa hFa))
              go_ret
              refine ⟨by rw [HQ.out]; rfl, S', Q', came + 1, HRC.out ▸ HCa.out, HMa.out, ((((HF.out _ HGb.out).2.2.2.trans HF7.out).trans (Fk.idle HG8.out)).trans HF9.out).trans HFa.out, .inr ⟨HQ.out, by rw [HD.out]; exact H0.out, rfl, w8.heap.size, ?_⟩⟩
              have hpu := HPa.out
              unfold denyS
              rw [if_neg HTz.out]
              rw [HD.out, HSe.out, HK.out]
              exact hpu
set_option maxRecDepth 100000 in
set_option maxHeartbeats 1000000 in
/-- cache.New, of a wrong number -/
theorem new_no (most : Int) (w : World) (h : most < 1 ∨ most > 5000) : Calls Tryz.prog 4 #[.int .i64 most] w fun r w' => r = .returned (.tuple #[.pointer none, .int .i64 23]) ∧ w' = w := by
  have hc : most < 1 ∨ (¬ most < 1 ∧ most > 5000) := by omega
  clear h
  rcases hc with h | ⟨h, h2⟩
  · go_enter Tryz.func4, Tryz.ntmps4
    go_wp2_with fail
    go_ret2
    exact ⟨rfl, rfl⟩
  · go_enter Tryz.func4, Tryz.ntmps4
    go_wp2_with fail
    go_ret2
    exact ⟨rfl, rfl⟩
/-- what New hands back -/
def newE (w : World) (most : Int) (r : Ending) (w' : World) : Prop := (∃ L M P, r = .returned (.tuple #[.pointer (some ⟨L, 0, none⟩), .int .i64 0]) ∧ Cac w' L M P w.heap.size most 0 [] [] ∧ Emap w' M []) ∧ Below w.heap.size w w'
set_option maxRecDepth 100000 in
set_option maxHeartbeats 1000000 in
/-- cache.New -/
theorem new_yes (most : Int) (w : World) (h1 : 1 ≤ most) (h2 : most ≤ 5000) : Calls Tryz.prog 4 #[.int .i64 most] w (newE w most) := by
  have h3 : ¬ most < 1 := by omega
  have h4 : ¬ most > 5000 := by omega
  obtain ⟨a1, e1⟩ : ∃ a, w.alloc (.map #[] 0) = a := ⟨_, rfl⟩
  obtain ⟨a2, e2⟩ : ∃ a, a1.alloc (.map #[] 0) = a := ⟨_, rfl⟩
  obtain ⟨a3, e3⟩ : ∃ a, a2.alloc (.cells #[.int .i64 most, .int .i64 0, .map (some w.heap.size), .map (some a1.heap.size)] 50) = a := ⟨_, rfl⟩
  have HG1 : Hid (w.grownBy a1 none) := e1 ▸ World.grownBy_alloc w _ none
  have HG2 : Hid (a1.grownBy a2 none) := e2 ▸ World.grownBy_alloc a1 _ none
  have HG3 : Hid (a2.grownBy a3 none) := e3 ▸ World.grownBy_alloc a2 _ none
  have hs1 : a1.heap.size = w.heap.size + 1 := by rw [← e1]; exact World.size_alloc ..
  have hs2 : a2.heap.size = w.heap.size + 2 := by rw [← e2]; simp [World.size_alloc, hs1]
  have HMm : Hid (Emap a3 w.heap.size []) := Lmap.kept (Lmap.kept (e1 ▸ Lmap.made w) HG2.out (by simp)) HG3.out (by simp)
  have HPm : Hid (Pmap a3 a1.heap.size []) := Lmap.kept (e2 ▸ Lmap.made a1) HG3.out (by simp)
  have HBx : Hid (Bx a3 a2.heap.size #[.int .i64 most, .int .i64 0, .map (some w.heap.size), .map (some a1.heap.size)] 50) := e3 ▸ World.alloc_heap_new a2 _
  have HB : Hid (Below w.heap.size w a3) := below_grownC (grown_trans HG1.out (grown_trans HG2.out HG3.out))
  have hmk : ∀ (T : TypeId) (V : World), T = 47 ∨ T = 48 → (Instr.makeMap T none).run Tryz.prog V = .ok (.map (some V.heap.size)) (V.alloc (.map #[] 0)) := fun T V hT => by
    rcases hT with rfl | rfl
    · simp [Instr.makeMap, run_underlying Tryz.underlying47, newObj]
      rfl
    · simp [Instr.makeMap, run_underlying Tryz.underlying48, newObj]
      rfl
  have m1 := hmk 47 w (.inl rfl)
  have m2 := hmk 48 a1 (.inr rfl)
  rw [e1] at m1
  rw [e2] at m2
  have HCac : Hid (Cac a3 a2.heap.size w.heap.size a1.heap.size w.heap.size most 0 [] []) := ⟨HBx.out, HPm.out, (fun e he => by cases he), (fun q hq => by cases hq), (fun e he => by cases he), List.Pairwise.nil, List.Pairwise.nil, List.Pairwise.nil, (fun e he => by cases he), (by omega), Nat.le_refl _, (by omega), (by omega), (by simp), HB.out.size⟩
  clear hs1 hs2 hmk h1 h2
  go_enter Tryz.func4, Tryz.ntmps4
  go_wp2_with fail
  go_ret2
  exact ⟨⟨_, _, _, rfl, HCac.out, HMm.out⟩, HB.out⟩
end Go.Proofs.YtgekfhghambacaaGreat
