import Derived.Test.YtoabnpdoicbpiaaGreatUpd5G
import Derived.Test.YtoabnpdoicbpiaaGreatZrdG
import Derived.Test.YtoabnpdoicbpiaaGreatSd1G
import Derived.Test.YtoabnpdoicbpiaaGreatZn6G
import Derived.Test.YtoabnpdoicbpiaaGreatUpdnG
namespace Go.Proofs.YtoabnpdoicbpiaaGreat
set_option linter.unusedVariables false
set_option linter.unusedSimpArgs false
open Go.RowKit Go.Shelf Go.Maps Go.Proofs.YtoabnpdoicbpiaaGreat.Nm
def nxU (s : Nat) : Nat := if s = 4294967295 then 1 else s + 1
theorem nxU_le {s : Nat} (h : s ≤ 4294967295) : nxU s ≤ 4294967295 := by unfold nxU; split <;> omega
set_option maxRecDepth 100000 in
set_option maxHeartbeats 1000000 in
theorem nextSerialU_any (s : Nat) (w : World) (hs : s ≤ 4294967295) : Calls Tryz.prog 29 #[.int .i64 (s : Int)] w fun r w' => r = .returned (.int .i64 (nxU s : Int)) ∧ w' = w := by
 by_cases h : s = 4294967295
 ·subst h
  go_enter Tryz.func29, Tryz.ntmps29
  go_wp2_with fail
  go_ret
  exact ⟨rfl, rfl⟩
 ·have e1 : IntKind.i64.wrap ((s : Int) + 1) = (s : Int) + 1 := by rw [IntWalk.i64_in] <;> omega
  have e2 : IntKind.u32.wrap ((s : Int) + 1) = (s : Int) + 1 := by
   unfold IntKind.wrap
   simp [IntKind.bits, IntKind.signed]
   omega
  have hn : nxU s = s + 1 := by unfold nxU; rw [if_neg h]
  have e3 : max (1 : Int) ((s : Int) + 1) = (s : Int) + 1 := by omega
  rw [hn]
  go_enter Tryz.func29, Tryz.ntmps29
  go_wp2_with fail
  go_ret
  exact ⟨by simp, rfl⟩
theorem bx5U_set {w : World} {R : Nat} {T : TypeId} {a b c d e : Value} (h : Bx w R #[a, b, c, d, e] T) (x y z u v : Value) : Bx (((((w.setCell ⟨R, 0, none⟩ x).setCell ⟨R, 1, none⟩ y).setCell ⟨R, 2, none⟩ z).setCell ⟨R, 3, none⟩ u).setCell ⟨R, 4, none⟩ v) R #[x, y, z, u, v] T := ((((h.set 0 x).set 1 y).set 2 z).set 3 u).set 4 v
def wsD (d : ByteArray) (s : Nat) : ByteArray := d.extract 0 (d.size - 20) ++ nB s 4 ++ d.extract (d.size - 16) d.size
set_option maxRecDepth 100000 in
set_option maxHeartbeats 4000000 in
theorem withSerialU_any (o d : ByteArray) (t c l : Int) (s : Nat) (w : World) (h20 : 20 ≤ d.size) (h65 : d.size ≤ 65535) (hs : s ≤ 4294967295) :
  Calls Tryz.prog 28 #[.agg #[.string o, .int .i64 t, .int .i64 c, .int .i64 l, .string d], .int .i64 (s : Int)] w fun r w' => r = .returned (.agg #[.string o, .int .i64 t, .int .i64 c, .int .i64 l, .string (wsD d s)]) ∧ Below w.heap.size w w' := by
 obtain ⟨wb, hwb⟩ : ∃ v, w.alloc (.cells #[.string o, .int .i64 t, .int .i64 c, .int .i64 l, .string d] 29) = v := ⟨_, rfl⟩
 have HB1 : Hid (Below w.heap.size w wb) := hwb ▸ (Below.refl _ w).alloc (Nat.le_refl _) _
 have HX1 : Hid (Bx wb w.heap.size #[.string o, .int .i64 t, .int .i64 c, .int .i64 l, .string d] 29) := hwb ▸ World.alloc_heap_new w _
 obtain ⟨wz, hwz⟩ : ∃ v, wb.alloc (.cells #[.string ⟨#[]⟩, .int .i64 0, .int .i64 0, .int .i64 0, .string ⟨#[]⟩] 29) = v := ⟨_, rfl⟩
 have HGz : Hid (wb.grownBy wz none) := hwz ▸ World.grownBy_alloc wb _ none
 have HZ1 : Hid (Bx wz wb.heap.size #[.string ⟨#[]⟩, .int .i64 0, .int .i64 0, .int .i64 0, .string ⟨#[]⟩] 29) := hwz ▸ World.alloc_heap_new wb _
 obtain ⟨k, hk⟩ : ∃ k : Nat, d.size - 20 = k := ⟨_, rfl⟩
 obtain ⟨n, hn⟩ : ∃ n : Nat, d.size = n := ⟨_, rfl⟩
 have hkn : (n : Int) - 20 = (k : Int) := by omega
 have hw : IntKind.i64.wrap ((n : Int) - 20) = (k : Int) := by rw [hkn]; rw [IntWalk.i64_in] <;> omega
 obtain ⟨q, hq⟩ : ∃ q : Nat, k + 4 = q := ⟨_, rfl⟩
 obtain ⟨P, hP⟩ : ∃ P, d.extract 0 k = P := ⟨_, rfl⟩
 obtain ⟨X, hX⟩ : ∃ X, nB s 4 = X := ⟨_, rfl⟩
 obtain ⟨S, hS⟩ : ∃ S, d.extract q n = S := ⟨_, rfl⟩
 have HE : Hid (wsD d s = P ++ X ++ S) := by
  unfold Hid wsD
  have : d.size - 16 = q := by omega
  rw [hk, this, hn, hP, hX, hS]
 have HBy : Hid (∀ V, Calls Tryz.prog 64 #[.int .i64 (s : Int), .int .i64 4] V fun e w' => e = .returned (.string X) ∧ Below V.heap.size V w') := fun V => hX ▸ spellBytes_any 4 s V (by omega) (by omega)
 have sP : P.size ≤ 65535 := by rw [← hP, size_extract' _ _ _ (by omega)]; omega
 have sX : X.size ≤ 65535 := by rw [← hX, nB_size]; omega
 have sS : S.size ≤ 65535 := by rw [← hS, size_extract' _ _ _ (by omega)]; omega
 have HK : Hid (k + 4 = q ∧ q ≤ n ∧ n ≤ 65535 ∧ d.size = n ∧ d.extract 0 k = P ∧ d.extract q n = S ∧ P.size ≤ 65535 ∧ X.size ≤ 65535 ∧ S.size ≤ 65535) := ⟨hq, by omega, by omega, hn, hP, hS, sP, sX, sS⟩
 have HF : Hid (∀ V : World, wz.grownBy V none → V.cell? ⟨w.heap.size, 4, none⟩ = some (.string d)) := fun V hV => (HX1.out.grown (grown_trans HGz.out hV) (by simp)).cell rfl
 have d4 : wz.cell? ⟨w.heap.size, 4, none⟩ = some (.string d) := HF.out wz (grown_refl _ _)
 have HR : Hid (∀ w1, wz.grownBy w1 none → ∃ w2, w1.setCell ⟨w.heap.size, 4, none⟩ (.string (P ++ X ++ S)) = w2 ∧ Hid (Bx w2 w.heap.size #[.string o, .int .i64 t, .int .i64 c, .int .i64 l, .string (P ++ X ++ S)] 29) ∧ Hid (Bx w2 wb.heap.size #[.string ⟨#[]⟩, .int .i64 0, .int .i64 0, .int .i64 0, .string ⟨#[]⟩] 29) ∧ Hid (Below w.heap.size w w2)) := fun w1 hg => by
  have hne : wb.heap.size ≠ w.heap.size := by have := HX1.out.lt; omega
  exact ⟨_, rfl, (HX1.out.grown (grown_trans HGz.out hg) (by simp)).set 4 _, (HZ1.out.grown hg (by simp)).grown (grown_set _ _ _ _) (fun e => hne (Option.some.inj e).symm), ((HB1.out.grown HGz.out HB1.out.size (fun k e => by cases e)).grown hg (Nat.le_trans HB1.out.size HGz.out.size) (fun k e => by cases e)).setCell (p := ⟨w.heap.size, 4, none⟩) (Nat.le_refl _) _⟩
 have HEb : Hid (∀ V, Below w.heap.size w V → Below w.heap.size w (((((V.setCell ⟨wb.heap.size, 0, none⟩ (.string o)).setCell ⟨wb.heap.size, 1, none⟩ (.int .i64 t)).setCell ⟨wb.heap.size, 2, none⟩ (.int .i64 c)).setCell ⟨wb.heap.size, 3, none⟩ (.int .i64 l)).setCell ⟨wb.heap.size, 4, none⟩ (.string (P ++ X ++ S)))) := fun V hV => by
  have hle := HB1.out.size
  exact ((((hV.setCell (p := ⟨wb.heap.size, 0, none⟩) hle _).setCell (p := ⟨wb.heap.size, 1, none⟩) hle _).setCell (p := ⟨wb.heap.size, 2, none⟩) hle _).setCell (p := ⟨wb.heap.size, 3, none⟩) hle _).setCell (p := ⟨wb.heap.size, 4, none⟩) hle _
 clear hk hkn hq hP hX hS sP sX sS h20 h65 hs
 go_enter Tryz.func28, Tryz.ntmps28
 go_wp2_with fail
 refine wp_region_held_drew (S := fun _ => True) (by kernel_rfl) trivial (fun hHeld => ?_)
 refine takeD 0 (some 10) (.pointer (some ⟨w.heap.size, 4, none⟩)) rfl rfl (by kernel_rfl) (by kernel_rfl) (by kernel_rfl) (fun _ _ _ h => h) (Or.inl ⟨by rfl, ?_⟩) (by assumption) ?_
 ·intro w hSw; (try dsimp only at hSw); go_simp <;> (intros; omega)
 simp only [Act.put, List.setIfInBounds_toArray, List.set_cons_zero, List.set_cons_succ]
 refine takeD 2 (some 12) (.int .i64 (k : Int)) rfl rfl (by kernel_rfl) (by kernel_rfl) (by kernel_rfl) (fun _ _ _ h => h) (Or.inl ⟨by rfl, ?_⟩) (by assumption) ?_
 ·intro w hSw; (try dsimp only at hSw); go_simp <;> (intros; omega)
 simp only [Act.put, List.setIfInBounds_toArray, List.set_cons_zero, List.set_cons_succ]
 refine takeD 4 (some 14) (.int .i64 (s : Int)) rfl rfl (by kernel_rfl) (by kernel_rfl) (by kernel_rfl) (fun _ _ _ h => h) (Or.inl ⟨by rfl, ?_⟩) (by assumption) ?_
 ·intro w hSw; (try dsimp only at hSw); go_simp <;> (intros; omega)
 simp only [Act.put, List.setIfInBounds_toArray, List.set_cons_zero, List.set_cons_succ]
 refine takeD 7 (some 17) (.pointer (some ⟨w.heap.size, 4, none⟩)) rfl rfl (by kernel_rfl) (by kernel_rfl) (by kernel_rfl) (fun _ _ _ h => h) (Or.inl ⟨by rfl, ?_⟩) (by assumption) ?_
 ·intro w hSw; (try dsimp only at hSw); go_simp <;> (intros; omega)
 simp only [Act.put, List.setIfInBounds_toArray, List.set_cons_zero, List.set_cons_succ]
 refine takeD 9 (some 19) (.int .i64 (k : Int)) rfl rfl (by kernel_rfl) (by kernel_rfl) (by kernel_rfl) (fun _ _ _ h => h) (Or.inl ⟨by rfl, ?_⟩) (by assumption) ?_
 ·intro w hSw; (try dsimp only at hSw); go_simp <;> (intros; omega)
 simp only [Act.put, List.setIfInBounds_toArray, List.set_cons_zero, List.set_cons_succ]
 refine takeD 10 (some 20) (.int .i64 (q : Int)) rfl rfl (by kernel_rfl) (by kernel_rfl) (by kernel_rfl) (fun _ _ _ h => h) (Or.inl ⟨by rfl, ?_⟩) (by assumption) ?_
 ·intro w hSw; (try dsimp only at hSw); obtain ⟨hq, hk1, hk2, hk3, hk4, hk5, sP, sX, sS⟩ := HK.out; have hw4 : IntKind.i64.wrap ((k : Int) + 4) = (q : Int) := (by rw [IntWalk.i64_in] <;> omega); have hPX : (P ++ X).size = P.size + X.size := (by rw [ByteArray.size_append]); have hk6 : (0 : Int) ≤ (k : Int) ∧ (k : Int) ≤ (n : Int) ∧ (0 : Int) ≤ (q : Int) ∧ (q : Int) ≤ (n : Int) := (by omega); clear hq; go_simp <;> (intros; omega)
 simp only [Act.put, List.setIfInBounds_toArray, List.set_cons_zero, List.set_cons_succ]
 have d4 : wz.drew.cell? ⟨w.heap.size, 4, none⟩ = some (.string d) := HF.out _ ⟨rfl, rfl, rfl, Nat.le_refl _, fun _ _ _ => rfl⟩
 have HG0 : Hid (wz.grownBy wz.drew none) := ⟨rfl, rfl, rfl, Nat.le_refl _, fun _ _ _ => rfl⟩
 refine wpAnyH_ready (rs := [1, 5, 8]) (by kernel_rfl) (by simp) ?_
 refine AllReadyH.cons rfl (fun K hK => ?_) (AllReadyH.cons rfl (fun K hK => ?_) (AllReadyH.cons rfl (fun K hK => ?_) AllReadyH.nil))
 ·go_simp
  go_wp2_with fail
  refine hK.out _ _ trivial (fun hHeld => ?_)
  clear hK K
  try simp only [Act.put, List.setIfInBounds_toArray, List.set_cons_zero, List.set_cons_succ]
  refine takeD 3 (some 13) (.string P) rfl rfl (by kernel_rfl) (by kernel_rfl) (by kernel_rfl) (fun _ _ _ h => h) (Or.inl ⟨by rfl, ?_⟩) (by assumption) ?_
  ·intro w hSw; (try dsimp only at hSw); obtain ⟨hq, hk1, hk2, hk3, hk4, hk5, sP, sX, sS⟩ := HK.out; have hw4 : IntKind.i64.wrap ((k : Int) + 4) = (q : Int) := (by rw [IntWalk.i64_in] <;> omega); have hPX : (P ++ X).size = P.size + X.size := (by rw [ByteArray.size_append]); have hk6 : (0 : Int) ≤ (k : Int) ∧ (k : Int) ≤ (n : Int) ∧ (0 : Int) ≤ (q : Int) ∧ (q : Int) ≤ (n : Int) := (by omega); clear hq; go_simp <;> (intros; omega)
  simp only [Act.put, List.setIfInBounds_toArray, List.set_cons_zero, List.set_cons_succ]
  refine wpAnyH_ready (rs := [5, 8]) (by kernel_rfl) (by simp) ?_
  refine AllReadyH.cons rfl (fun K hK => ?_) (AllReadyH.cons rfl (fun K hK => ?_) AllReadyH.nil)
  ·go_simp
   go_at_call 64; refine (HBy.out _).mono ?_; rintro e1 w1 ⟨rfl, hB1⟩; have HG1 : Hid (wz.grownBy w1 none) := grown_trans HG0.out (grown_below hB1 none); clear hB1
   have d4 : w1.cell? ⟨w.heap.size, 4, none⟩ = some (.string d) := HF.out _ HG1.out
   go_wp2_with fail
   refine hK.out _ _ trivial (fun hHeld => ?_)
   clear hK K
   try simp only [Act.put, List.setIfInBounds_toArray, List.set_cons_zero, List.set_cons_succ]
   refine takeD 6 (some 16) (.string (P ++ X)) rfl rfl (by kernel_rfl) (by kernel_rfl) (by kernel_rfl) (fun _ _ _ h => h) (Or.inl ⟨by rfl, ?_⟩) (by assumption) ?_
   ·intro w hSw; (try dsimp only at hSw); obtain ⟨hq, hk1, hk2, hk3, hk4, hk5, sP, sX, sS⟩ := HK.out; have hw4 : IntKind.i64.wrap ((k : Int) + 4) = (q : Int) := (by rw [IntWalk.i64_in] <;> omega); have hPX : (P ++ X).size = P.size + X.size := (by rw [ByteArray.size_append]); have hk6 : (0 : Int) ≤ (k : Int) ∧ (k : Int) ≤ (n : Int) ∧ (0 : Int) ≤ (q : Int) ∧ (q : Int) ≤ (n : Int) := (by omega); clear hq; go_simp <;> (intros; omega)
   simp only [Act.put, List.setIfInBounds_toArray, List.set_cons_zero, List.set_cons_succ]
   refine wpAnyH_ready (rs := [8]) (by kernel_rfl) (by simp) ?_
   refine AllReadyH.cons rfl (fun K hK => ?_) AllReadyH.nil
   ·go_simp
    go_wp2_with fail
    refine hK.out _ _ trivial (fun hHeld => ?_)
    clear hK K
    try simp only [Act.put, List.setIfInBounds_toArray, List.set_cons_zero, List.set_cons_succ]
    refine takeD 11 (some 21) (.string S) rfl rfl (by kernel_rfl) (by kernel_rfl) (by kernel_rfl) (fun _ _ _ h => h) (Or.inl ⟨by rfl, ?_⟩) (by assumption) ?_
    ·intro w hSw; (try dsimp only at hSw); obtain ⟨hq, hk1, hk2, hk3, hk4, hk5, sP, sX, sS⟩ := HK.out; have hw4 : IntKind.i64.wrap ((k : Int) + 4) = (q : Int) := (by rw [IntWalk.i64_in] <;> omega); have hPX : (P ++ X).size = P.size + X.size := (by rw [ByteArray.size_append]); have hk6 : (0 : Int) ≤ (k : Int) ∧ (k : Int) ≤ (n : Int) ∧ (0 : Int) ≤ (q : Int) ∧ (q : Int) ≤ (n : Int) := (by omega); clear hq; go_simp <;> (intros; omega)
    simp only [Act.put, List.setIfInBounds_toArray, List.set_cons_zero, List.set_cons_succ]
    refine takeD 12 (some 22) (.string (P ++ X ++ S)) rfl rfl (by kernel_rfl) (by kernel_rfl) (by kernel_rfl) (fun _ _ _ h => h) (Or.inl ⟨by rfl, ?_⟩) (by assumption) ?_
    ·intro w hSw; (try dsimp only at hSw); obtain ⟨hq, hk1, hk2, hk3, hk4, hk5, sP, sX, sS⟩ := HK.out; have hw4 : IntKind.i64.wrap ((k : Int) + 4) = (q : Int) := (by rw [IntWalk.i64_in] <;> omega); have hPX : (P ++ X).size = P.size + X.size := (by rw [ByteArray.size_append]); have hk6 : (0 : Int) ≤ (k : Int) ∧ (k : Int) ≤ (n : Int) ∧ (0 : Int) ≤ (q : Int) ∧ (q : Int) ≤ (n : Int) := (by omega); clear hq; go_simp <;> (intros; omega)
    simp only [Act.put, List.setIfInBounds_toArray, List.set_cons_zero, List.set_cons_succ]
    refine takeD 13 (some 23) (.pointer (some ⟨w.heap.size, 4, none⟩)) rfl rfl (by kernel_rfl) (by kernel_rfl) (by kernel_rfl) (fun _ _ _ h => h) (Or.inl ⟨by rfl, ?_⟩) (by assumption) ?_
    ·intro w hSw; (try dsimp only at hSw); go_simp <;> (intros; omega)
    simp only [Act.put, List.setIfInBounds_toArray, List.set_cons_zero, List.set_cons_succ]
    have d4 : w1.cell? ⟨w.heap.size, 4, none⟩ = some (.string d) := HF.out _ HG1.out
    have f4 : w1.frozen? ⟨w.heap.size, 4, none⟩ = false := (HX1.out.grown (grown_trans HGz.out HG1.out) (by simp)).free 4
    obtain ⟨w2, hw2, HX2, HZ2, HB2⟩ := HR.out w1 HG1.out
    obtain ⟨x0, x1, x2, x3, x4⟩ := bx5U HX2.out
    obtain ⟨z0, z1, z2, z3, z4⟩ := bx5U HZ2.out
    have f0 := HZ2.out.free 0
    have f1 := HZ2.out.free 1
    have f2 := HZ2.out.free 2
    have f3 := HZ2.out.free 3
    have g4 := HZ2.out.free 4
    refine wpAnyH_ready (rs := [14]) (by kernel_rfl) (by simp) ?_
    refine AllReadyH.cons rfl (fun K hK => ?_) AllReadyH.nil
    go_simp
    go_wp2_with fail
    refine hK.out _ _ (trivial) (fun hHeld => ?_)
    clear hK K
    try simp only [Act.put, List.setIfInBounds_toArray, List.set_cons_zero, List.set_cons_succ]
    refine wpAnyH_done (by kernel_rfl) ?_ _
    clear hHeld
    go_wp2_with fail
    obtain ⟨r0, r1, r2, r3, r4⟩ := bx5U (bx5U_set HZ2.out (.string o) (.int .i64 t) (.int .i64 c) (.int .i64 l) (.string (P ++ X ++ S)))
    refine bodyPost_ret (v := .agg #[.string o, .int .i64 t, .int .i64 c, .int .i64 l, .string (P ++ X ++ S)]) (by simp [results, go_sem, r0, r1, r2, r3, r4]) rfl ⟨by rw [HE.out], HEb.out w2 HB2.out⟩
  ·go_simp
   go_wp2_with fail
   refine hK.out _ _ trivial (fun hHeld => ?_)
   clear hK K
   try simp only [Act.put, List.setIfInBounds_toArray, List.set_cons_zero, List.set_cons_succ]
   refine takeD 11 (some 21) (.string S) rfl rfl (by kernel_rfl) (by kernel_rfl) (by kernel_rfl) (fun _ _ _ h => h) (Or.inl ⟨by rfl, ?_⟩) (by assumption) ?_
   ·intro w hSw; (try dsimp only at hSw); obtain ⟨hq, hk1, hk2, hk3, hk4, hk5, sP, sX, sS⟩ := HK.out; have hw4 : IntKind.i64.wrap ((k : Int) + 4) = (q : Int) := (by rw [IntWalk.i64_in] <;> omega); have hPX : (P ++ X).size = P.size + X.size := (by rw [ByteArray.size_append]); have hk6 : (0 : Int) ≤ (k : Int) ∧ (k : Int) ≤ (n : Int) ∧ (0 : Int) ≤ (q : Int) ∧ (q : Int) ≤ (n : Int) := (by omega); clear hq; go_simp <;> (intros; omega)
   simp only [Act.put, List.setIfInBounds_toArray, List.set_cons_zero, List.set_cons_succ]
   refine wpAnyH_ready (rs := [5]) (by kernel_rfl) (by simp) ?_
   refine AllReadyH.cons rfl (fun K hK => ?_) AllReadyH.nil
   ·go_simp
    go_at_call 64; refine (HBy.out _).mono ?_; rintro e1 w1 ⟨rfl, hB1⟩; have HG1 : Hid (wz.grownBy w1 none) := grown_trans HG0.out (grown_below hB1 none); clear hB1
    have d4 : w1.cell? ⟨w.heap.size, 4, none⟩ = some (.string d) := HF.out _ HG1.out
    go_wp2_with fail
    refine hK.out _ _ trivial (fun hHeld => ?_)
    clear hK K
    try simp only [Act.put, List.setIfInBounds_toArray, List.set_cons_zero, List.set_cons_succ]
    refine takeD 6 (some 16) (.string (P ++ X)) rfl rfl (by kernel_rfl) (by kernel_rfl) (by kernel_rfl) (fun _ _ _ h => h) (Or.inl ⟨by rfl, ?_⟩) (by assumption) ?_
    ·intro w hSw; (try dsimp only at hSw); obtain ⟨hq, hk1, hk2, hk3, hk4, hk5, sP, sX, sS⟩ := HK.out; have hw4 : IntKind.i64.wrap ((k : Int) + 4) = (q : Int) := (by rw [IntWalk.i64_in] <;> omega); have hPX : (P ++ X).size = P.size + X.size := (by rw [ByteArray.size_append]); have hk6 : (0 : Int) ≤ (k : Int) ∧ (k : Int) ≤ (n : Int) ∧ (0 : Int) ≤ (q : Int) ∧ (q : Int) ≤ (n : Int) := (by omega); clear hq; go_simp <;> (intros; omega)
    simp only [Act.put, List.setIfInBounds_toArray, List.set_cons_zero, List.set_cons_succ]
    refine takeD 12 (some 22) (.string (P ++ X ++ S)) rfl rfl (by kernel_rfl) (by kernel_rfl) (by kernel_rfl) (fun _ _ _ h => h) (Or.inl ⟨by rfl, ?_⟩) (by assumption) ?_
    ·intro w hSw; (try dsimp only at hSw); obtain ⟨hq, hk1, hk2, hk3, hk4, hk5, sP, sX, sS⟩ := HK.out; have hw4 : IntKind.i64.wrap ((k : Int) + 4) = (q : Int) := (by rw [IntWalk.i64_in] <;> omega); have hPX : (P ++ X).size = P.size + X.size := (by rw [ByteArray.size_append]); have hk6 : (0 : Int) ≤ (k : Int) ∧ (k : Int) ≤ (n : Int) ∧ (0 : Int) ≤ (q : Int) ∧ (q : Int) ≤ (n : Int) := (by omega); clear hq; go_simp <;> (intros; omega)
    simp only [Act.put, List.setIfInBounds_toArray, List.set_cons_zero, List.set_cons_succ]
    refine takeD 13 (some 23) (.pointer (some ⟨w.heap.size, 4, none⟩)) rfl rfl (by kernel_rfl) (by kernel_rfl) (by kernel_rfl) (fun _ _ _ h => h) (Or.inl ⟨by rfl, ?_⟩) (by assumption) ?_
    ·intro w hSw; (try dsimp only at hSw); go_simp <;> (intros; omega)
    simp only [Act.put, List.setIfInBounds_toArray, List.set_cons_zero, List.set_cons_succ]
    have d4 : w1.cell? ⟨w.heap.size, 4, none⟩ = some (.string d) := HF.out _ HG1.out
    have f4 : w1.frozen? ⟨w.heap.size, 4, none⟩ = false := (HX1.out.grown (grown_trans HGz.out HG1.out) (by simp)).free 4
    obtain ⟨w2, hw2, HX2, HZ2, HB2⟩ := HR.out w1 HG1.out
    obtain ⟨x0, x1, x2, x3, x4⟩ := bx5U HX2.out
    obtain ⟨z0, z1, z2, z3, z4⟩ := bx5U HZ2.out
    have f0 := HZ2.out.free 0
    have f1 := HZ2.out.free 1
    have f2 := HZ2.out.free 2
    have f3 := HZ2.out.free 3
    have g4 := HZ2.out.free 4
    refine wpAnyH_ready (rs := [14]) (by kernel_rfl) (by simp) ?_
    refine AllReadyH.cons rfl (fun K hK => ?_) AllReadyH.nil
    go_simp
    go_wp2_with fail
    refine hK.out _ _ (trivial) (fun hHeld => ?_)
    clear hK K
    try simp only [Act.put, List.setIfInBounds_toArray, List.set_cons_zero, List.set_cons_succ]
    refine wpAnyH_done (by kernel_rfl) ?_ _
    clear hHeld
    go_wp2_with fail
    obtain ⟨r0, r1, r2, r3, r4⟩ := bx5U (bx5U_set HZ2.out (.string o) (.int .i64 t) (.int .i64 c) (.int .i64 l) (.string (P ++ X ++ S)))
    refine bodyPost_ret (v := .agg #[.string o, .int .i64 t, .int .i64 c, .int .i64 l, .string (P ++ X ++ S)]) (by simp [results, go_sem, r0, r1, r2, r3, r4]) rfl ⟨by rw [HE.out], HEb.out w2 HB2.out⟩
 ·go_simp
  go_at_call 64; refine (HBy.out _).mono ?_; rintro e1 w1 ⟨rfl, hB1⟩; have HG1 : Hid (wz.grownBy w1 none) := grown_trans HG0.out (grown_below hB1 none); clear hB1
  have d4 : w1.cell? ⟨w.heap.size, 4, none⟩ = some (.string d) := HF.out _ HG1.out
  go_wp2_with fail
  refine hK.out _ _ trivial (fun hHeld => ?_)
  clear hK K
  try simp only [Act.put, List.setIfInBounds_toArray, List.set_cons_zero, List.set_cons_succ]
  refine wpAnyH_ready (rs := [1, 8]) (by kernel_rfl) (by simp) ?_
  refine AllReadyH.cons rfl (fun K hK => ?_) (AllReadyH.cons rfl (fun K hK => ?_) AllReadyH.nil)
  ·go_simp
   go_wp2_with fail
   refine hK.out _ _ trivial (fun hHeld => ?_)
   clear hK K
   try simp only [Act.put, List.setIfInBounds_toArray, List.set_cons_zero, List.set_cons_succ]
   refine takeD 3 (some 13) (.string P) rfl rfl (by kernel_rfl) (by kernel_rfl) (by kernel_rfl) (fun _ _ _ h => h) (Or.inl ⟨by rfl, ?_⟩) (by assumption) ?_
   ·intro w hSw; (try dsimp only at hSw); obtain ⟨hq, hk1, hk2, hk3, hk4, hk5, sP, sX, sS⟩ := HK.out; have hw4 : IntKind.i64.wrap ((k : Int) + 4) = (q : Int) := (by rw [IntWalk.i64_in] <;> omega); have hPX : (P ++ X).size = P.size + X.size := (by rw [ByteArray.size_append]); have hk6 : (0 : Int) ≤ (k : Int) ∧ (k : Int) ≤ (n : Int) ∧ (0 : Int) ≤ (q : Int) ∧ (q : Int) ≤ (n : Int) := (by omega); clear hq; go_simp <;> (intros; omega)
   simp only [Act.put, List.setIfInBounds_toArray, List.set_cons_zero, List.set_cons_succ]
   refine takeD 6 (some 16) (.string (P ++ X)) rfl rfl (by kernel_rfl) (by kernel_rfl) (by kernel_rfl) (fun _ _ _ h => h) (Or.inl ⟨by rfl, ?_⟩) (by assumption) ?_
   ·intro w hSw; (try dsimp only at hSw); obtain ⟨hq, hk1, hk2, hk3, hk4, hk5, sP, sX, sS⟩ := HK.out; have hw4 : IntKind.i64.wrap ((k : Int) + 4) = (q : Int) := (by rw [IntWalk.i64_in] <;> omega); have hPX : (P ++ X).size = P.size + X.size := (by rw [ByteArray.size_append]); have hk6 : (0 : Int) ≤ (k : Int) ∧ (k : Int) ≤ (n : Int) ∧ (0 : Int) ≤ (q : Int) ∧ (q : Int) ≤ (n : Int) := (by omega); clear hq; go_simp <;> (intros; omega)
   simp only [Act.put, List.setIfInBounds_toArray, List.set_cons_zero, List.set_cons_succ]
   refine wpAnyH_ready (rs := [8]) (by kernel_rfl) (by simp) ?_
   refine AllReadyH.cons rfl (fun K hK => ?_) AllReadyH.nil
   ·go_simp
    go_wp2_with fail
    refine hK.out _ _ trivial (fun hHeld => ?_)
    clear hK K
    try simp only [Act.put, List.setIfInBounds_toArray, List.set_cons_zero, List.set_cons_succ]
    refine takeD 11 (some 21) (.string S) rfl rfl (by kernel_rfl) (by kernel_rfl) (by kernel_rfl) (fun _ _ _ h => h) (Or.inl ⟨by rfl, ?_⟩) (by assumption) ?_
    ·intro w hSw; (try dsimp only at hSw); obtain ⟨hq, hk1, hk2, hk3, hk4, hk5, sP, sX, sS⟩ := HK.out; have hw4 : IntKind.i64.wrap ((k : Int) + 4) = (q : Int) := (by rw [IntWalk.i64_in] <;> omega); have hPX : (P ++ X).size = P.size + X.size := (by rw [ByteArray.size_append]); have hk6 : (0 : Int) ≤ (k : Int) ∧ (k : Int) ≤ (n : Int) ∧ (0 : Int) ≤ (q : Int) ∧ (q : Int) ≤ (n : Int) := (by omega); clear hq; go_simp <;> (intros; omega)
    simp only [Act.put, List.setIfInBounds_toArray, List.set_cons_zero, List.set_cons_succ]
    refine takeD 12 (some 22) (.string (P ++ X ++ S)) rfl rfl (by kernel_rfl) (by kernel_rfl) (by kernel_rfl) (fun _ _ _ h => h) (Or.inl ⟨by rfl, ?_⟩) (by assumption) ?_
    ·intro w hSw; (try dsimp only at hSw); obtain ⟨hq, hk1, hk2, hk3, hk4, hk5, sP, sX, sS⟩ := HK.out; have hw4 : IntKind.i64.wrap ((k : Int) + 4) = (q : Int) := (by rw [IntWalk.i64_in] <;> omega); have hPX : (P ++ X).size = P.size + X.size := (by rw [ByteArray.size_append]); have hk6 : (0 : Int) ≤ (k : Int) ∧ (k : Int) ≤ (n : Int) ∧ (0 : Int) ≤ (q : Int) ∧ (q : Int) ≤ (n : Int) := (by omega); clear hq; go_simp <;> (intros; omega)
    simp only [Act.put, List.setIfInBounds_toArray, List.set_cons_zero, List.set_cons_succ]
    refine takeD 13 (some 23) (.pointer (some ⟨w.heap.size, 4, none⟩)) rfl rfl (by kernel_rfl) (by kernel_rfl) (by kernel_rfl) (fun _ _ _ h => h) (Or.inl ⟨by rfl, ?_⟩) (by assumption) ?_
    ·intro w hSw; (try dsimp only at hSw); go_simp <;> (intros; omega)
    simp only [Act.put, List.setIfInBounds_toArray, List.set_cons_zero, List.set_cons_succ]
    have d4 : w1.cell? ⟨w.heap.size, 4, none⟩ = some (.string d) := HF.out _ HG1.out
    have f4 : w1.frozen? ⟨w.heap.size, 4, none⟩ = false := (HX1.out.grown (grown_trans HGz.out HG1.out) (by simp)).free 4
    obtain ⟨w2, hw2, HX2, HZ2, HB2⟩ := HR.out w1 HG1.out
    obtain ⟨x0, x1, x2, x3, x4⟩ := bx5U HX2.out
    obtain ⟨z0, z1, z2, z3, z4⟩ := bx5U HZ2.out
    have f0 := HZ2.out.free 0
    have f1 := HZ2.out.free 1
    have f2 := HZ2.out.free 2
    have f3 := HZ2.out.free 3
    have g4 := HZ2.out.free 4
    refine wpAnyH_ready (rs := [14]) (by kernel_rfl) (by simp) ?_
    refine AllReadyH.cons rfl (fun K hK => ?_) AllReadyH.nil
    go_simp
    go_wp2_with fail
    refine hK.out _ _ (trivial) (fun hHeld => ?_)
    clear hK K
    try simp only [Act.put, List.setIfInBounds_toArray, List.set_cons_zero, List.set_cons_succ]
    refine wpAnyH_done (by kernel_rfl) ?_ _
    clear hHeld
    go_wp2_with fail
    obtain ⟨r0, r1, r2, r3, r4⟩ := bx5U (bx5U_set HZ2.out (.string o) (.int .i64 t) (.int .i64 c) (.int .i64 l) (.string (P ++ X ++ S)))
    refine bodyPost_ret (v := .agg #[.string o, .int .i64 t, .int .i64 c, .int .i64 l, .string (P ++ X ++ S)]) (by simp [results, go_sem, r0, r1, r2, r3, r4]) rfl ⟨by rw [HE.out], HEb.out w2 HB2.out⟩
  ·go_simp
   go_wp2_with fail
   refine hK.out _ _ trivial (fun hHeld => ?_)
   clear hK K
   try simp only [Act.put, List.setIfInBounds_toArray, List.set_cons_zero, List.set_cons_succ]
   refine takeD 11 (some 21) (.string S) rfl rfl (by kernel_rfl) (by kernel_rfl) (by kernel_rfl) (fun _ _ _ h => h) (Or.inl ⟨by rfl, ?_⟩) (by assumption) ?_
   ·intro w hSw; (try dsimp only at hSw); obtain ⟨hq, hk1, hk2, hk3, hk4, hk5, sP, sX, sS⟩ := HK.out; have hw4 : IntKind.i64.wrap ((k : Int) + 4) = (q : Int) := (by rw [IntWalk.i64_in] <;> omega); have hPX : (P ++ X).size = P.size + X.size := (by rw [ByteArray.size_append]); have hk6 : (0 : Int) ≤ (k : Int) ∧ (k : Int) ≤ (n : Int) ∧ (0 : Int) ≤ (q : Int) ∧ (q : Int) ≤ (n : Int) := (by omega); clear hq; go_simp <;> (intros; omega)
   simp only [Act.put, List.setIfInBounds_toArray, List.set_cons_zero, List.set_cons_succ]
   refine wpAnyH_ready (rs := [1]) (by kernel_rfl) (by simp) ?_
   refine AllReadyH.cons rfl (fun K hK => ?_) AllReadyH.nil
   ·go_simp
    go_wp2_with fail
    refine hK.out _ _ trivial (fun hHeld => ?_)
    clear hK K
    try simp only [Act.put, List.setIfInBounds_toArray, List.set_cons_zero, List.set_cons_succ]
    refine takeD 3 (some 13) (.string P) rfl rfl (by kernel_rfl) (by kernel_rfl) (by kernel_rfl) (fun _ _ _ h => h) (Or.inl ⟨by rfl, ?_⟩) (by assumption) ?_
    ·intro w hSw; (try dsimp only at hSw); obtain ⟨hq, hk1, hk2, hk3, hk4, hk5, sP, sX, sS⟩ := HK.out; have hw4 : IntKind.i64.wrap ((k : Int) + 4) = (q : Int) := (by rw [IntWalk.i64_in] <;> omega); have hPX : (P ++ X).size = P.size + X.size := (by rw [ByteArray.size_append]); have hk6 : (0 : Int) ≤ (k : Int) ∧ (k : Int) ≤ (n : Int) ∧ (0 : Int) ≤ (q : Int) ∧ (q : Int) ≤ (n : Int) := (by omega); clear hq; go_simp <;> (intros; omega)
    simp only [Act.put, List.setIfInBounds_toArray, List.set_cons_zero, List.set_cons_succ]
    refine takeD 6 (some 16) (.string (P ++ X)) rfl rfl (by kernel_rfl) (by kernel_rfl) (by kernel_rfl) (fun _ _ _ h => h) (Or.inl ⟨by rfl, ?_⟩) (by assumption) ?_
    ·intro w hSw; (try dsimp only at hSw); obtain ⟨hq, hk1, hk2, hk3, hk4, hk5, sP, sX, sS⟩ := HK.out; have hw4 : IntKind.i64.wrap ((k : Int) + 4) = (q : Int) := (by rw [IntWalk.i64_in] <;> omega); have hPX : (P ++ X).size = P.size + X.size := (by rw [ByteArray.size_append]); have hk6 : (0 : Int) ≤ (k : Int) ∧ (k : Int) ≤ (n : Int) ∧ (0 : Int) ≤ (q : Int) ∧ (q : Int) ≤ (n : Int) := (by omega); clear hq; go_simp <;> (intros; omega)
    simp only [Act.put, List.setIfInBounds_toArray, List.set_cons_zero, List.set_cons_succ]
    refine takeD 12 (some 22) (.string (P ++ X ++ S)) rfl rfl (by kernel_rfl) (by kernel_rfl) (by kernel_rfl) (fun _ _ _ h => h) (Or.inl ⟨by rfl, ?_⟩) (by assumption) ?_
    ·intro w hSw; (try dsimp only at hSw); obtain ⟨hq, hk1, hk2, hk3, hk4, hk5, sP, sX, sS⟩ := HK.out; have hw4 : IntKind.i64.wrap ((k : Int) + 4) = (q : Int) := (by rw [IntWalk.i64_in] <;> omega); have hPX : (P ++ X).size = P.size + X.size := (by rw [ByteArray.size_append]); have hk6 : (0 : Int) ≤ (k : Int) ∧ (k : Int) ≤ (n : Int) ∧ (0 : Int) ≤ (q : Int) ∧ (q : Int) ≤ (n : Int) := (by omega); clear hq; go_simp <;> (intros; omega)
    simp only [Act.put, List.setIfInBounds_toArray, List.set_cons_zero, List.set_cons_succ]
    refine takeD 13 (some 23) (.pointer (some ⟨w.heap.size, 4, none⟩)) rfl rfl (by kernel_rfl) (by kernel_rfl) (by kernel_rfl) (fun _ _ _ h => h) (Or.inl ⟨by rfl, ?_⟩) (by assumption) ?_
    ·intro w hSw; (try dsimp only at hSw); go_simp <;> (intros; omega)
    simp only [Act.put, List.setIfInBounds_toArray, List.set_cons_zero, List.set_cons_succ]
    have d4 : w1.cell? ⟨w.heap.size, 4, none⟩ = some (.string d) := HF.out _ HG1.out
    have f4 : w1.frozen? ⟨w.heap.size, 4, none⟩ = false := (HX1.out.grown (grown_trans HGz.out HG1.out) (by simp)).free 4
    obtain ⟨w2, hw2, HX2, HZ2, HB2⟩ := HR.out w1 HG1.out
    obtain ⟨x0, x1, x2, x3, x4⟩ := bx5U HX2.out
    obtain ⟨z0, z1, z2, z3, z4⟩ := bx5U HZ2.out
    have f0 := HZ2.out.free 0
    have f1 := HZ2.out.free 1
    have f2 := HZ2.out.free 2
    have f3 := HZ2.out.free 3
    have g4 := HZ2.out.free 4
    refine wpAnyH_ready (rs := [14]) (by kernel_rfl) (by simp) ?_
    refine AllReadyH.cons rfl (fun K hK => ?_) AllReadyH.nil
    go_simp
    go_wp2_with fail
    refine hK.out _ _ (trivial) (fun hHeld => ?_)
    clear hK K
    try simp only [Act.put, List.setIfInBounds_toArray, List.set_cons_zero, List.set_cons_succ]
    refine wpAnyH_done (by kernel_rfl) ?_ _
    clear hHeld
    go_wp2_with fail
    obtain ⟨r0, r1, r2, r3, r4⟩ := bx5U (bx5U_set HZ2.out (.string o) (.int .i64 t) (.int .i64 c) (.int .i64 l) (.string (P ++ X ++ S)))
    refine bodyPost_ret (v := .agg #[.string o, .int .i64 t, .int .i64 c, .int .i64 l, .string (P ++ X ++ S)]) (by simp [results, go_sem, r0, r1, r2, r3, r4]) rfl ⟨by rw [HE.out], HEb.out w2 HB2.out⟩
 ·go_simp
  go_wp2_with fail
  refine hK.out _ _ trivial (fun hHeld => ?_)
  clear hK K
  try simp only [Act.put, List.setIfInBounds_toArray, List.set_cons_zero, List.set_cons_succ]
  refine takeD 11 (some 21) (.string S) rfl rfl (by kernel_rfl) (by kernel_rfl) (by kernel_rfl) (fun _ _ _ h => h) (Or.inl ⟨by rfl, ?_⟩) (by assumption) ?_
  ·intro w hSw; (try dsimp only at hSw); obtain ⟨hq, hk1, hk2, hk3, hk4, hk5, sP, sX, sS⟩ := HK.out; have hw4 : IntKind.i64.wrap ((k : Int) + 4) = (q : Int) := (by rw [IntWalk.i64_in] <;> omega); have hPX : (P ++ X).size = P.size + X.size := (by rw [ByteArray.size_append]); have hk6 : (0 : Int) ≤ (k : Int) ∧ (k : Int) ≤ (n : Int) ∧ (0 : Int) ≤ (q : Int) ∧ (q : Int) ≤ (n : Int) := (by omega); clear hq; go_simp <;> (intros; omega)
  simp only [Act.put, List.setIfInBounds_toArray, List.set_cons_zero, List.set_cons_succ]
  refine wpAnyH_ready (rs := [1, 5]) (by kernel_rfl) (by simp) ?_
  refine AllReadyH.cons rfl (fun K hK => ?_) (AllReadyH.cons rfl (fun K hK => ?_) AllReadyH.nil)
  ·go_simp
   go_wp2_with fail
   refine hK.out _ _ trivial (fun hHeld => ?_)
   clear hK K
   try simp only [Act.put, List.setIfInBounds_toArray, List.set_cons_zero, List.set_cons_succ]
   refine takeD 3 (some 13) (.string P) rfl rfl (by kernel_rfl) (by kernel_rfl) (by kernel_rfl) (fun _ _ _ h => h) (Or.inl ⟨by rfl, ?_⟩) (by assumption) ?_
   ·intro w hSw; (try dsimp only at hSw); obtain ⟨hq, hk1, hk2, hk3, hk4, hk5, sP, sX, sS⟩ := HK.out; have hw4 : IntKind.i64.wrap ((k : Int) + 4) = (q : Int) := (by rw [IntWalk.i64_in] <;> omega); have hPX : (P ++ X).size = P.size + X.size := (by rw [ByteArray.size_append]); have hk6 : (0 : Int) ≤ (k : Int) ∧ (k : Int) ≤ (n : Int) ∧ (0 : Int) ≤ (q : Int) ∧ (q : Int) ≤ (n : Int) := (by omega); clear hq; go_simp <;> (intros; omega)
   simp only [Act.put, List.setIfInBounds_toArray, List.set_cons_zero, List.set_cons_succ]
   refine wpAnyH_ready (rs := [5]) (by kernel_rfl) (by simp) ?_
   refine AllReadyH.cons rfl (fun K hK => ?_) AllReadyH.nil
   ·go_simp
    go_at_call 64; refine (HBy.out _).mono ?_; rintro e1 w1 ⟨rfl, hB1⟩; have HG1 : Hid (wz.grownBy w1 none) := grown_trans HG0.out (grown_below hB1 none); clear hB1
    have d4 : w1.cell? ⟨w.heap.size, 4, none⟩ = some (.string d) := HF.out _ HG1.out
    go_wp2_with fail
    refine hK.out _ _ trivial (fun hHeld => ?_)
    clear hK K
    try simp only [Act.put, List.setIfInBounds_toArray, List.set_cons_zero, List.set_cons_succ]
    refine takeD 6 (some 16) (.string (P ++ X)) rfl rfl (by kernel_rfl) (by kernel_rfl) (by kernel_rfl) (fun _ _ _ h => h) (Or.inl ⟨by rfl, ?_⟩) (by assumption) ?_
    ·intro w hSw; (try dsimp only at hSw); obtain ⟨hq, hk1, hk2, hk3, hk4, hk5, sP, sX, sS⟩ := HK.out; have hw4 : IntKind.i64.wrap ((k : Int) + 4) = (q : Int) := (by rw [IntWalk.i64_in] <;> omega); have hPX : (P ++ X).size = P.size + X.size := (by rw [ByteArray.size_append]); have hk6 : (0 : Int) ≤ (k : Int) ∧ (k : Int) ≤ (n : Int) ∧ (0 : Int) ≤ (q : Int) ∧ (q : Int) ≤ (n : Int) := (by omega); clear hq; go_simp <;> (intros; omega)
    simp only [Act.put, List.setIfInBounds_toArray, List.set_cons_zero, List.set_cons_succ]
    refine takeD 12 (some 22) (.string (P ++ X ++ S)) rfl rfl (by kernel_rfl) (by kernel_rfl) (by kernel_rfl) (fun _ _ _ h => h) (Or.inl ⟨by rfl, ?_⟩) (by assumption) ?_
    ·intro w hSw; (try dsimp only at hSw); obtain ⟨hq, hk1, hk2, hk3, hk4, hk5, sP, sX, sS⟩ := HK.out; have hw4 : IntKind.i64.wrap ((k : Int) + 4) = (q : Int) := (by rw [IntWalk.i64_in] <;> omega); have hPX : (P ++ X).size = P.size + X.size := (by rw [ByteArray.size_append]); have hk6 : (0 : Int) ≤ (k : Int) ∧ (k : Int) ≤ (n : Int) ∧ (0 : Int) ≤ (q : Int) ∧ (q : Int) ≤ (n : Int) := (by omega); clear hq; go_simp <;> (intros; omega)
    simp only [Act.put, List.setIfInBounds_toArray, List.set_cons_zero, List.set_cons_succ]
    refine takeD 13 (some 23) (.pointer (some ⟨w.heap.size, 4, none⟩)) rfl rfl (by kernel_rfl) (by kernel_rfl) (by kernel_rfl) (fun _ _ _ h => h) (Or.inl ⟨by rfl, ?_⟩) (by assumption) ?_
    ·intro w hSw; (try dsimp only at hSw); go_simp <;> (intros; omega)
    simp only [Act.put, List.setIfInBounds_toArray, List.set_cons_zero, List.set_cons_succ]
    have d4 : w1.cell? ⟨w.heap.size, 4, none⟩ = some (.string d) := HF.out _ HG1.out
    have f4 : w1.frozen? ⟨w.heap.size, 4, none⟩ = false := (HX1.out.grown (grown_trans HGz.out HG1.out) (by simp)).free 4
    obtain ⟨w2, hw2, HX2, HZ2, HB2⟩ := HR.out w1 HG1.out
    obtain ⟨x0, x1, x2, x3, x4⟩ := bx5U HX2.out
    obtain ⟨z0, z1, z2, z3, z4⟩ := bx5U HZ2.out
    have f0 := HZ2.out.free 0
    have f1 := HZ2.out.free 1
    have f2 := HZ2.out.free 2
    have f3 := HZ2.out.free 3
    have g4 := HZ2.out.free 4
    refine wpAnyH_ready (rs := [14]) (by kernel_rfl) (by simp) ?_
    refine AllReadyH.cons rfl (fun K hK => ?_) AllReadyH.nil
    go_simp
    go_wp2_with fail
    refine hK.out _ _ (trivial) (fun hHeld => ?_)
    clear hK K
    try simp only [Act.put, List.setIfInBounds_toArray, List.set_cons_zero, List.set_cons_succ]
    refine wpAnyH_done (by kernel_rfl) ?_ _
    clear hHeld
    go_wp2_with fail
    obtain ⟨r0, r1, r2, r3, r4⟩ := bx5U (bx5U_set HZ2.out (.string o) (.int .i64 t) (.int .i64 c) (.int .i64 l) (.string (P ++ X ++ S)))
    refine bodyPost_ret (v := .agg #[.string o, .int .i64 t, .int .i64 c, .int .i64 l, .string (P ++ X ++ S)]) (by simp [results, go_sem, r0, r1, r2, r3, r4]) rfl ⟨by rw [HE.out], HEb.out w2 HB2.out⟩
  ·go_simp
   go_at_call 64; refine (HBy.out _).mono ?_; rintro e1 w1 ⟨rfl, hB1⟩; have HG1 : Hid (wz.grownBy w1 none) := grown_trans HG0.out (grown_below hB1 none); clear hB1
   have d4 : w1.cell? ⟨w.heap.size, 4, none⟩ = some (.string d) := HF.out _ HG1.out
   go_wp2_with fail
   refine hK.out _ _ trivial (fun hHeld => ?_)
   clear hK K
   try simp only [Act.put, List.setIfInBounds_toArray, List.set_cons_zero, List.set_cons_succ]
   refine wpAnyH_ready (rs := [1]) (by kernel_rfl) (by simp) ?_
   refine AllReadyH.cons rfl (fun K hK => ?_) AllReadyH.nil
   ·go_simp
    go_wp2_with fail
    refine hK.out _ _ trivial (fun hHeld => ?_)
    clear hK K
    try simp only [Act.put, List.setIfInBounds_toArray, List.set_cons_zero, List.set_cons_succ]
    refine takeD 3 (some 13) (.string P) rfl rfl (by kernel_rfl) (by kernel_rfl) (by kernel_rfl) (fun _ _ _ h => h) (Or.inl ⟨by rfl, ?_⟩) (by assumption) ?_
    ·intro w hSw; (try dsimp only at hSw); obtain ⟨hq, hk1, hk2, hk3, hk4, hk5, sP, sX, sS⟩ := HK.out; have hw4 : IntKind.i64.wrap ((k : Int) + 4) = (q : Int) := (by rw [IntWalk.i64_in] <;> omega); have hPX : (P ++ X).size = P.size + X.size := (by rw [ByteArray.size_append]); have hk6 : (0 : Int) ≤ (k : Int) ∧ (k : Int) ≤ (n : Int) ∧ (0 : Int) ≤ (q : Int) ∧ (q : Int) ≤ (n : Int) := (by omega); clear hq; go_simp <;> (intros; omega)
    simp only [Act.put, List.setIfInBounds_toArray, List.set_cons_zero, List.set_cons_succ]
    refine takeD 6 (some 16) (.string (P ++ X)) rfl rfl (by kernel_rfl) (by kernel_rfl) (by kernel_rfl) (fun _ _ _ h => h) (Or.inl ⟨by rfl, ?_⟩) (by assumption) ?_
    ·intro w hSw; (try dsimp only at hSw); obtain ⟨hq, hk1, hk2, hk3, hk4, hk5, sP, sX, sS⟩ := HK.out; have hw4 : IntKind.i64.wrap ((k : Int) + 4) = (q : Int) := (by rw [IntWalk.i64_in] <;> omega); have hPX : (P ++ X).size = P.size + X.size := (by rw [ByteArray.size_append]); have hk6 : (0 : Int) ≤ (k : Int) ∧ (k : Int) ≤ (n : Int) ∧ (0 : Int) ≤ (q : Int) ∧ (q : Int) ≤ (n : Int) := (by omega); clear hq; go_simp <;> (intros; omega)
    simp only [Act.put, List.setIfInBounds_toArray, List.set_cons_zero, List.set_cons_succ]
    refine takeD 12 (some 22) (.string (P ++ X ++ S)) rfl rfl (by kernel_rfl) (by kernel_rfl) (by kernel_rfl) (fun _ _ _ h => h) (Or.inl ⟨by rfl, ?_⟩) (by assumption) ?_
    ·intro w hSw; (try dsimp only at hSw); obtain ⟨hq, hk1, hk2, hk3, hk4, hk5, sP, sX, sS⟩ := HK.out; have hw4 : IntKind.i64.wrap ((k : Int) + 4) = (q : Int) := (by rw [IntWalk.i64_in] <;> omega); have hPX : (P ++ X).size = P.size + X.size := (by rw [ByteArray.size_append]); have hk6 : (0 : Int) ≤ (k : Int) ∧ (k : Int) ≤ (n : Int) ∧ (0 : Int) ≤ (q : Int) ∧ (q : Int) ≤ (n : Int) := (by omega); clear hq; go_simp <;> (intros; omega)
    simp only [Act.put, List.setIfInBounds_toArray, List.set_cons_zero, List.set_cons_succ]
    refine takeD 13 (some 23) (.pointer (some ⟨w.heap.size, 4, none⟩)) rfl rfl (by kernel_rfl) (by kernel_rfl) (by kernel_rfl) (fun _ _ _ h => h) (Or.inl ⟨by rfl, ?_⟩) (by assumption) ?_
    ·intro w hSw; (try dsimp only at hSw); go_simp <;> (intros; omega)
    simp only [Act.put, List.setIfInBounds_toArray, List.set_cons_zero, List.set_cons_succ]
    have d4 : w1.cell? ⟨w.heap.size, 4, none⟩ = some (.string d) := HF.out _ HG1.out
    have f4 : w1.frozen? ⟨w.heap.size, 4, none⟩ = false := (HX1.out.grown (grown_trans HGz.out HG1.out) (by simp)).free 4
    obtain ⟨w2, hw2, HX2, HZ2, HB2⟩ := HR.out w1 HG1.out
    obtain ⟨x0, x1, x2, x3, x4⟩ := bx5U HX2.out
    obtain ⟨z0, z1, z2, z3, z4⟩ := bx5U HZ2.out
    have f0 := HZ2.out.free 0
    have f1 := HZ2.out.free 1
    have f2 := HZ2.out.free 2
    have f3 := HZ2.out.free 3
    have g4 := HZ2.out.free 4
    refine wpAnyH_ready (rs := [14]) (by kernel_rfl) (by simp) ?_
    refine AllReadyH.cons rfl (fun K hK => ?_) AllReadyH.nil
    go_simp
    go_wp2_with fail
    refine hK.out _ _ (trivial) (fun hHeld => ?_)
    clear hK K
    try simp only [Act.put, List.setIfInBounds_toArray, List.set_cons_zero, List.set_cons_succ]
    refine wpAnyH_done (by kernel_rfl) ?_ _
    clear hHeld
    go_wp2_with fail
    obtain ⟨r0, r1, r2, r3, r4⟩ := bx5U (bx5U_set HZ2.out (.string o) (.int .i64 t) (.int .i64 c) (.int .i64 l) (.string (P ++ X ++ S)))
    refine bodyPost_ret (v := .agg #[.string o, .int .i64 t, .int .i64 c, .int .i64 l, .string (P ++ X ++ S)]) (by simp [results, go_sem, r0, r1, r2, r3, r4]) rfl ⟨by rw [HE.out], HEb.out w2 HB2.out⟩
end Go.Proofs.YtoabnpdoicbpiaaGreat
namespace Go.Proofs.YtoabnpdoicbpiaaGreat
set_option linter.unusedVariables false
set_option linter.unusedSimpArgs false
open Go.RowKit Go.Shelf Go.Maps Go.Proofs.YtoabnpdoicbpiaaGreat.Nm Go.Proofs.YtoabnpdoicbpiaaGreat.Zs Go.Proofs.YtoabnpdoicbpiaaGreat.Ud
theorem foldD_leU (t : Int) (d : ByteArray) : (foldD t d).size ≤ d.size := by
 cases hp : partsD t d with
 | none =>
  unfold foldD
  rw [hp]
  exact Nat.zero_le _
 | some ps =>
  refine zfoldD_le ?_
  unfold errD
  cases hk : kindsOf t with
  | none =>
   unfold partsD at hp
   rw [hk] at hp
   cases hp
  | some ks => simp only [hp]
structure GdU (r : Rn) : Prop where
 o : isN r.o = true
 d : r.d.size ≤ 1048576
 t : 0 ≤ r.t ∧ r.t ≤ 65535
 c : 0 ≤ r.c ∧ r.c ≤ 65535
 l : 0 ≤ r.l ∧ r.l ≤ 4294967295
theorem gd_zon {r : Rn} (h : zonR r = true) : GdU r := by
 obtain ⟨h0, h1, h2, h3, _, h4, h5, h6, h7, _, _⟩ := ok_facts h
 exact ⟨h0, by omega, by omega, by omega, by omega⟩
theorem GdU.keys {r : Rn} (h : GdU r) : r.o.size ≤ maxLen ∧ r.d.size ≤ maxLen ∧ usG (foldB r.o) ∧ usG (foldD r.t r.d) ∧ uiG r.t ∧ ruG (rk r) ∧ rSm r := by
 have h1 := ((isN_iff _).1 h.o).1
 have h2 := zfoldB_size h.o
 have h3 := foldD_leU r.t r.d
 have h4 := h.d
 have h5 := h.t
 have h6 := h.c
 have h7 := h.l
 have hm : (1048576 : Nat) ≤ maxLen := by unfold maxLen; omega
 exact ⟨by omega, by omega, by unfold usG; omega, by unfold usG; omega, WalkArith.wf_i64 (by omega), ⟨by simp only [rk]; omega, WalkArith.wf_i64 (by simp only [rk]; omega), WalkArith.wf_i64 (by simp only [rk]; omega), WalkArith.wf_i64 (by simp only [rk]; omega), by simp only [rk]; omega⟩, ⟨by omega, by omega⟩⟩
theorem gd_put {E : List Rn} {r : Rn} (h : ∀ e ∈ E, GdU e) (hr : GdU r) : ∀ e ∈ putU E r, GdU e := fun e he => by
 unfold putU at he
 rcases List.mem_append.1 he with q | q
 ·exact h e (mem_outK.1 q).1
 ·rw [List.mem_singleton.1 q]
  exact hr
theorem gd_add {E : List Rn} {r : Rn} (h : ∀ e ∈ E, GdU e) (hr : GdU r) : ∀ e ∈ addU E r, GdU e := by
 unfold addU
 split
 ·exact gd_put h hr
 ·exact h
theorem gd_fold : ∀ (A E : List Rn), (∀ e ∈ E, GdU e) → (∀ e ∈ A, GdU e) → ∀ e ∈ A.foldl addU E, GdU e
 | [], E, h, _ => h
 | r :: A, E, h, hA => gd_fold A (addU E r) (gd_add h (hA r List.mem_cons_self)) (fun e he => hA e (List.mem_cons_of_mem _ he))
theorem gd_list {E : List Rn} (h : ∀ e ∈ E, GdU e) : ∀ e ∈ listU E, GdU e := fun e he => by
 obtain ⟨r, hr, rfl⟩ := List.mem_map.1 he
 have g := h r hr
 unfold recU
 split
 ·exact g
 ·refine ⟨g.o, g.d, g.t, g.c, ?_⟩
  unfold ageU
  cases hp : lastP E (plS (senS r)) with
  | none => exact g.l
  | some x => exact (h x (lastP_mem hp).1).l
theorem put_len (E : List Rn) (r : Rn) : (putU E r).length ≤ E.length + 1 := outK_le
theorem fold_len : ∀ (A E : List Rn), (A.foldl addU E).length ≤ E.length + A.length
 | [], E => Nat.le_refl _
 | r :: A, E => by
  have h1 := fold_len A (addU E r)
  have h2 : (addU E r).length ≤ E.length + 1 := by
   unfold addU
   split
   ·exact put_len E r
   ·omega
  rw [List.foldl_cons, List.length_cons]
  omega
theorem ask_facts {top apex : ByteArray} {A : List Rn} (h : ckU top apex A = 0) (hs : ∀ r ∈ A, rSm r) : A.length ≤ 65535 ∧ ∀ r ∈ A, GdU r := by
 unfold ckU at h
 split at h
 ·rename_i hm
  unfold mgB msgOK at hm
  simp only [Bool.and_eq_true, decide_eq_true_eq] at hm
  obtain ⟨⟨⟨_, hl⟩, _⟩, hm⟩ := hm
  refine ⟨hl, fun r hr => ?_⟩
  unfold lstOK at hm
  simp only [Bool.and_eq_true, List.all_eq_true] at hm
  have hr2 := hm.2.1.2 r hr
  unfold rOK recOK headOK fitsN at hr2
  simp only [Bool.and_eq_true, decide_eq_true_eq] at hr2
  obtain ⟨⟨⟨⟨h1, h2⟩, h3⟩, h4⟩, _⟩ := hr2
  have e16 : ((2 ^ 16 : Nat) : Int) = 65536 := by decide
  have e32 : ((2 ^ 32 : Nat) : Int) = 4294967296 := by decide
  rw [e16] at h2 h3
  rw [e32] at h4
  exact ⟨h1, (hs r hr).2, by omega, by omega, by omega⟩
 ·cases h
def soaN (r : Rn) : Rn := { r with d := wsD r.d (nxU (serN r.d)) }
theorem serN_le (d : ByteArray) : serN d ≤ 4294967295 := by
 unfold serN
 have := vN_lt (d.extract (d.size - 20) (d.size - 16)) 4
 omega
end Go.Proofs.YtoabnpdoicbpiaaGreat
