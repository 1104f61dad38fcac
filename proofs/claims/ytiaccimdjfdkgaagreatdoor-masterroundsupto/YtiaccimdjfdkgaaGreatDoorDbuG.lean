import Derived.Test.YtiaccimdjfdkgaaGreatDoorDbpG
/-
  Proofs: does a line begin with the mark of raw bytes; raw bytes read. (The verifier's own text.)
-/
namespace Go.Proofs.YtiaccimdjfdkgaaGreatDoor
set_option linter.unusedVariables false
set_option linter.unusedSimpArgs false
open Go.RowKit Go.Shelf Go.Proofs.YtiaccimdjfdkgaaGreatDoor.Nm

set_option maxRecDepth 100000 in
set_option maxHeartbeats 2000000 in
/-- (*line).beginsRaw -/
theorem braw_any (W0 : World) (L : Nat) (q : Option Addr) (c : Nat) (Z : List Wz) (o : ByteArray) (z : Wz) (w : World) (h : Ln W0 L q c Z o 0 w) (hz : Z[0]? = some z) :
    Calls Tryz.prog 110 #[.pointer (some ⟨L, 0, none⟩)] w fun e w' => e = .returned (.bool (decide (bts z.t = ⟨#[92, 35]⟩) && !z.q)) ∧ ∃ m, w' = w.drewN m := by
  have hlt : 0 < Z.length := (List.getElem?_eq_some_iff.1 hz).1
  have HM : Hid (Calls Tryz.prog 131 #[.pointer (some ⟨L, 0, none⟩)] w fun e w' => e = .returned (.bool true) ∧ ∃ m, w' = w.drewN m) := by
    have := lmore_any W0 L q c Z o 0 w h (by omega)
    rw [decide_eq_true hlt] at this
    exact this
  have hq1 : ((bts z.t).toList == [92, 35]) = decide (bts z.t = ⟨#[92, 35]⟩) := by
    have h1 := toList_bt (bts z.t) ⟨#[92, 35]⟩
    rwa [show (⟨#[92, 35]⟩ : ByteArray).toList = [92, 35] by decide +kernel] at h1
  obtain ⟨bq, hbq⟩ : ∃ bq, decide (bts z.t = ⟨#[92, 35]⟩) = bq := ⟨_, rfl⟩
  rw [hbq] at hq1 ⊢
  clear hbq
  obtain ⟨b, off, rfl, z0, z1, hbl⟩ := h.at hz
  have c0 := h.c0
  have HH := hide' h
  have pz : (0 : Int) < (Z.length : Int) := by omega
  rw [Nat.zero_mul, Nat.add_zero] at z0
  rw [Nat.zero_mul, Nat.add_zero] at z1
  have HZ0 := hide' z0
  have HZ1 := hide' z1
  generalize bts z.t = T at *
  generalize z.q = zq at *
  clear hz h z0 z1 c0
  cases bq <;> cases zq
  all_goals
    go_enter Tryz.func110, Tryz.ntmps110
    go_wp2_with (go_at_call 131; refine HM.out.mono ?_; rintro e0 w5 ⟨rfl, m, hw5⟩; have hw5' := hw5; subst hw5'; have c0 := (HH.out.drewN m).c0; have z0 : (w.drewN m).cell? ⟨b, off, none⟩ = some (.string T) := HZ0.out; have z1 := (show (w.drewN m).cell? ⟨b, off + 1, none⟩ = _ from HZ1.out))
    go_ret
    exact ⟨rfl, m, rfl⟩
theorem unk_words (d : ByteArray) (hd : d.size ≤ 65535) : ∃ Z2 : List Wz, tellK 12 d = ⟨[92, 35], false⟩ :: ⟨dgN d.size, false⟩ :: Z2 ∧ bts (ctW Z2) = toWB 4 d16 d ∧ (∀ z ∈ Z2, z.q = false) ∧ (ctW Z2).length ≤ 1000000 ∧ Z2.length ≤ 1 := by
  have h8 := cW_len8 dg16 d
  by_cases h : d.size = 0
  · refine ⟨[], ?_, ?_, fun z hz => (by cases hz), by simp [ctW], by simp⟩
    · show _ :: _ :: (if d.size = 0 then _ else _) = _
      rw [if_pos h]
    · refine ba_ext (by show 0 = _; omega) fun j hj => absurd hj (by show ¬ j < 0; omega)
  · refine ⟨[⟨lsB (toWB 4 d16 d), false⟩], ?_, by simp only [ctW, List.flatMap_cons, List.flatMap_nil, List.append_nil]; exact bts_ls _, fun z hz => by rw [List.mem_singleton.1 hz], by simp only [ctW, List.flatMap_cons, List.flatMap_nil, List.append_nil]; rw [lsB_len]; omega, by simp⟩
    show _ :: _ :: (if d.size = 0 then _ else _) = _
    rw [if_neg h]
set_option maxRecDepth 100000 in
set_option maxHeartbeats 4000000 in
/-- (*line).raw -/
theorem raw_any (W0 : World) (L : Nat) (q : Option Addr) (c : Nat) (o d : ByteArray) (w : World) (h : Ln W0 L q c (tellK 12 d) o 0 w) (hd : d.size ≤ 65535) (hG : GD W0) :
    Calls Tryz.prog 132 #[.pointer (some ⟨L, 0, none⟩)] w fun e w' => e = .returned (.string d) ∧ Rg w w' L := by
  obtain ⟨Z2, hZ, hct, hq, hcl, hZ2⟩ := unk_words d hd
  rw [hZ] at h
  obtain ⟨Z, hZe⟩ : ∃ Z, (⟨[92, 35], false⟩ :: ⟨dgN d.size, false⟩ :: Z2 : List Wz) = Z := ⟨_, rfl⟩
  have z0 : Z[0]? = some ⟨[92, 35], false⟩ := by rw [← hZe]; rfl
  have z1 : Z[1]? = some ⟨dgN d.size, false⟩ := by rw [← hZe]; rfl
  have zd : Z.drop 2 = Z2 := by rw [← hZe]; rfl
  have zl : Z.length = 2 + Z2.length := by rw [← hZe]; simp; omega
  have zg : ∀ j z, 2 ≤ j → Z[j]? = some z → z ∈ Z2 := fun j z hj hz => by
    rw [← zd]
    have : (Z.drop 2)[j - 2]? = some z := by rw [List.getElem?_drop, show 2 + (j - 2) = j by omega]; exact hz
    exact List.mem_of_getElem? this
  have ztk : ∀ k, (ctW ((Z.take k).drop 2)).length ≤ 16777216 := fun k => by
    by_cases hk : k ≤ 2
    · rw [List.drop_eq_nil_of_le (by rw [List.length_take]; omega)]; simp [ctW]
    · rw [List.take_of_length_le (by omega), zd]; omega
  rw [hZe] at h
  clear hZe hZ
  have HT := hide' (take_any W0 L q c Z o 0 _ w h z0)
  have HP : Hid (∀ V, Ln W0 L q c Z o 1 V → Calls Tryz.prog 147 #[.pointer (some ⟨L, 0, none⟩)] V fun e w' => e = .returned (.string (bts (dgN d.size))) ∧ Ln W0 L q c Z o 2 w' ∧ Rg V w' L) := fun V hV => plain_any W0 L q c Z o 1 _ V hV z1 rfl
  have HG2 : Hid (∀ V, Ln W0 L q c Z o 2 V → Calls Tryz.prog 150 #[.pointer (some ⟨L, 0, none⟩)] V fun e w' => e = .returned (.string (toWB 4 d16 d)) ∧ Ln W0 L q c Z o Z.length w' ∧ Rg V w' L) := fun V hV => by
    have := together_any W0 L q c Z o 2 V hV (by omega) (fun j z hj hz => hq z (zg j z hj hz)) ztk
    rw [zd, hct] at this
    exact this
  have HN : Hid (∀ V, Below W0.heap.size W0 V → Calls Tryz.prog 73 #[.string (bts (dgN d.size)), .int .i64 5, .int .i64 16] V fun e w' => e = .returned (.tuple #[.int .i64 (d.size : Int), .bool true]) ∧ Below V.heap.size V w') := fun V hV => by
    have hl := dgN_len 4 d.size (by omega)
    have h1 := number_at (bts (dgN d.size)) 16 5 V (by omega) (by omega) (by rw [bts_size]; omega) (hG.gw.below hV).errs
    rw [numR_dec (by decide) (by omega) hl] at h1
    exact h1
  have HF := hide' (fun V => from16_of d V hd)
  have HM := hide' (fun v V => must_any v V)
  have hne : ((d.size : Int) != (d.size : Int)) = false := bne_self_eq_false _
  generalize toWB 4 d16 d = X at *
  generalize bts (dgN d.size) = Y at *
  have HH := hide' h
  clear z0 z1 zd zl zg ztk hct hq hcl hZ2 h
  go_enter Tryz.func132, Tryz.ntmps132
  go_wp2_with (first
    | (go_at_call 146; refine HT.out.mono ?_; rintro e2 w2 ⟨rfl, hL2, hR2⟩; have HL2 := hide' hL2; have HR2 := hide' hR2; clear hL2 hR2)
    | (go_at_call 147; refine (HP.out _ HL2.out).mono ?_; rintro e3 w3 ⟨rfl, hL3, hR3⟩; have HL3 := hide' hL3; have HR3 := hide' (HR2.out.trans hR3); clear hL3 hR3)
    | (go_at_call 73; refine (HN.out _ HL3.out.bel).mono ?_; rintro e4 w4 ⟨rfl, hB4⟩; have HL4 := hide' (HL3.out.below hB4); have HR4 := hide' (HR3.out.trans (Rg.of_below hB4 L)); have cx := HL4.out.c2; clear hB4)
    | (go_at_call 148; refine (HM.out _ _).mono ?_; rintro e1 w6 ⟨rfl, hw6⟩; have hw6' := hw6.symm; subst hw6')
    | (go_at_call 150; refine (HG2.out _ HL4.out).mono ?_; rintro e5 w5 ⟨rfl, hL5, hR5⟩; have HR5 := hide' (HR4.out.trans hR5); clear hL5 hR5 cx)
    | (go_at_call 149; refine (HF.out _).mono ?_; rintro e7 w7 ⟨rfl, hB7⟩; have HR7 := hide' (HR5.out.trans (Rg.of_below hB7 L)); clear hB7))
  go_ret
  exact ⟨rfl, HR7.out⟩
set_option maxRecDepth 100000 in
/-- data.readRaw -/
theorem readRaw_any (W0 : World) (L : Nat) (q : Option Addr) (c : Nat) (o d : ByteArray) (t : Int) (w : World) (h : Ln W0 L q c (tellK 12 d) o 0 w) (hd : d.size ≤ 65535) (hG : GD W0) (he : errD t d = 0) :
    Calls Tryz.prog 111 #[.int .i64 t, .pointer (some ⟨L, 0, none⟩)] w fun e w' => e = .returned (.string d) ∧ Rg w w' L := by
  have HR := hide' (raw_any W0 L q c o d w h hd hG)
  have HC := hide' (fun V => dataCheck_any t d V (by omega))
  rw [he] at HC
  clear h he
  go_enter Tryz.func111, Tryz.ntmps111
  go_wp2_with (first
    | (go_at_call 132; refine HR.out.mono ?_; rintro e2 w2 ⟨rfl, hR2⟩; have HR2 := hide' hR2; clear hR2)
    | (go_at_call 35; refine (HC.out _).mono ?_; rintro e3 w3 ⟨rfl, hB3⟩; have HR3 := hide' (HR2.out.trans (Rg.of_below hB3 L)); clear hB3))
  go_ret
  exact ⟨rfl, HR3.out⟩
end Go.Proofs.YtiaccimdjfdkgaaGreatDoor

/-
  Proofs: data.Read's deferred function. (The verifier's own text.)
-/
namespace Go.Proofs.YtiaccimdjfdkgaaGreatDoor
set_option linter.unusedVariables false
set_option linter.unusedSimpArgs false
open Go.RowKit Go.Shelf Go.Proofs.YtiaccimdjfdkgaaGreatDoor.Nm

set_option maxRecDepth 100000 in
set_option maxHeartbeats 2000000 in
/-- data.Read's deferred function, of a frame that returns -/
theorem read1_idle (bp bq B : Nat) (x y : Int) (w : World) (hc : w.cell? ⟨bp, 0, none⟩ = some (.int .i64 x)) (hz : w.frozen? ⟨bp, 0, none⟩ = false) (hc2 : w.cell? ⟨bq, 0, none⟩ = some (.int .i64 y)) (hz2 : w.frozen? ⟨bq, 0, none⟩ = false) (hne : bp ≠ bq) (hBp : B ≤ bp) (hBq : B ≤ bq) :
    CallsD Tryz.prog 109 #[.pointer (some ⟨bp, 0, none⟩), .pointer (some ⟨bq, 0, none⟩)] .returning w fun e u' w' => e = .returned (.tuple #[]) ∧ u' = .returning ∧ w'.cell? ⟨bp, 0, none⟩ = some (.int .i64 0) ∧ w'.cell? ⟨bq, 0, none⟩ = some (.int .i64 0) ∧ Below B w w' := by
  refine callsD_of_wpS Tryz.func109 rfl fun c₀ cs hu => ?_
  apply wpS_seq
  apply wpS_region
  simp [wpOpsS, go_sem, recoverD, hu, Tryz.ntmps109]
  refine (faultOf_none w).mono ?_
  rintro e w2 ⟨rfl, hB2⟩
  obtain ⟨W, hW⟩ : ∃ W, w2.alloc (.cells #[.int .i64 0, .int .i64 0] 90) = W := ⟨_, rfl⟩
  have k0 : W.cell? ⟨w2.heap.size, 0, none⟩ = some (.int .i64 0) := by rw [← hW]; rw [World.cell?_alloc_mark]; rfl
  have k1 : W.cell? ⟨w2.heap.size, 1, none⟩ = some (.int .i64 0) := by rw [← hW]; rw [World.cell?_alloc_mark]; rfl
  have hblk : W.heap[w2.heap.size]? = some (.cells #[.int .i64 0, .int .i64 0] 90 (0, 0)) := by rw [← hW]; exact World.alloc_heap_new w2 _
  have f0 : W.frozen? ⟨w2.heap.size, 0, none⟩ = false := by simp [World.frozen?, hblk]
  have f1 : W.frozen? ⟨w2.heap.size, 1, none⟩ = false := by simp [World.frozen?, hblk]
  simp only [hW]
  simp [go_sem, storeCells, k0, k1, f0, f1, Addr.add, Exit.thenS]
  have hp : bp < w.heap.size := Lib.lt_of_cell hc
  have hq : bq < w.heap.size := Lib.lt_of_cell hc2
  have hs2 := hB2.size
  obtain ⟨V, hV⟩ : ∃ V, (W.setCell ⟨w2.heap.size, 0, none⟩ (.int .i64 0)).setCell ⟨w2.heap.size, 1, none⟩ (.int .i64 0) = V := ⟨_, rfl⟩
  obtain ⟨f, hf⟩ : ∃ f, w2.heap.size = f := ⟨_, rfl⟩
  have hBV : Below f w2 V := by
    rw [← hV, ← hW, ← hf]
    exact (((Below.refl _ w2).alloc (Nat.le_refl _) _).setCell (p := ⟨w2.heap.size, 0, none⟩) (Nat.le_refl _) _).setCell (p := ⟨w2.heap.size, 1, none⟩) (Nat.le_refl _) _
  have v0 : V.cell? ⟨f, 0, none⟩ = some (.int .i64 0) := by
    rw [← hV, ← hf, World.cell?_setCell_other _ _ _ _ (fun e => by injection e with _ e2; cases e2), World.cell?_setCell_same' _ _ _ (by rw [k0]; rfl)]
  have v1 : V.cell? ⟨f, 1, none⟩ = some (.int .i64 0) := by
    rw [← hV, ← hf, World.cell?_setCell_same' _ _ _ (by rw [World.cell?_setCell_other _ _ _ _ (fun e => by injection e with _ e2; cases e2), k1]; rfl)]
  have vp : V.cell? ⟨bp, 0, none⟩ = some (.int .i64 x) := (hBV.cell (p := ⟨bp, 0, none⟩) (by show bp < f; omega)).trans ((hB2.cell (p := ⟨bp, 0, none⟩) hp).trans hc)
  have vq : V.cell? ⟨bq, 0, none⟩ = some (.int .i64 y) := (hBV.cell (p := ⟨bq, 0, none⟩) (by show bq < f; omega)).trans ((hB2.cell (p := ⟨bq, 0, none⟩) hq).trans hc2)
  have zp : V.frozen? ⟨bp, 0, none⟩ = false := (below_frozen hBV (p := ⟨bp, 0, none⟩) (by show bp < f; omega)).trans ((below_frozen hB2 (p := ⟨bp, 0, none⟩) hp).trans hz)
  have zq : V.frozen? ⟨bq, 0, none⟩ = false := (below_frozen hBV (p := ⟨bq, 0, none⟩) (by show bq < f; omega)).trans ((below_frozen hB2 (p := ⟨bq, 0, none⟩) hq).trans hz2)
  have hBw : Below B w V := (hB2.mono (by omega)).trans (hBV.mono (by omega))
  have hpf : bp ≠ f := by omega
  have hqf : bq ≠ f := by omega
  rw [hV, hf]
  apply wpS_of_wp
  show Code.wp Tryz.prog _ _ ⟨#[.pointer (some ⟨bp, 0, none⟩), .pointer (some ⟨bq, 0, none⟩), .pointer (some ⟨f, 0, none⟩), .nilIface, .agg #[.int .i64 0, .int .i64 0], undef, undef, undef, undef], []⟩ V
  have wp1 : V.drew.cell? ⟨bp, 0, none⟩ = some (.int .i64 x) := vp
  have wq1 : V.drew.cell? ⟨bq, 0, none⟩ = some (.int .i64 y) := vq
  have yp1 : V.drew.frozen? ⟨bp, 0, none⟩ = false := zp
  have yq1 : V.drew.frozen? ⟨bq, 0, none⟩ = false := zq
  have HP1 : Hid ((V.setCell ⟨bp, 0, none⟩ (.int .i64 0)).drew.cell? ⟨f, 0, none⟩ = some (.int .i64 0) ∧ (V.setCell ⟨bp, 0, none⟩ (.int .i64 0)).drew.cell? ⟨f, 1, none⟩ = some (.int .i64 0)) := by
    constructor
    · show (V.setCell ⟨bp, 0, none⟩ (.int .i64 0)).cell? ⟨f, 0, none⟩ = _
      rw [World.cell?_setCell_other _ _ _ _ (fun e => hpf (congrArg Addr.block e))]; exact v0
    · show (V.setCell ⟨bp, 0, none⟩ (.int .i64 0)).cell? ⟨f, 1, none⟩ = _
      rw [World.cell?_setCell_other _ _ _ _ (fun e => hpf (congrArg Addr.block e))]; exact v1
  clear hV hW hf k0 k1 f0 f1 hblk hBV
  go_region_held3 (fun U => U.cell? ⟨f, 0, none⟩ = some (.int .i64 0) ∧ U.cell? ⟨f, 1, none⟩ = some (.int .i64 0)) (first | with_reducible exact HP1.out | go_keep) (fail)
  have hE1 : (((V.setCell ⟨bp, 0, none⟩ (.int .i64 0)).setCell ⟨bq, 0, none⟩ (.int .i64 0)).drew).cell? ⟨bp, 0, none⟩ = some (.int .i64 0) := by
    show ((V.setCell ⟨bp, 0, none⟩ (.int .i64 0)).setCell ⟨bq, 0, none⟩ (.int .i64 0)).cell? ⟨bp, 0, none⟩ = _
    rw [World.cell?_setCell_other _ _ _ _ (fun e => hne (congrArg Addr.block e).symm), World.cell?_setCell_same' _ _ _ (by rw [vp]; rfl)]
  have hE2 : (((V.setCell ⟨bp, 0, none⟩ (.int .i64 0)).setCell ⟨bq, 0, none⟩ (.int .i64 0)).drew).cell? ⟨bq, 0, none⟩ = some (.int .i64 0) := by
    show ((V.setCell ⟨bp, 0, none⟩ (.int .i64 0)).setCell ⟨bq, 0, none⟩ (.int .i64 0)).cell? ⟨bq, 0, none⟩ = _
    rw [World.cell?_setCell_same' _ _ _ (by rw [World.cell?_setCell_other _ _ _ _ (fun e => hne (congrArg Addr.block e)), vq]; rfl)]
  have hE3 : Below B w (((V.setCell ⟨bp, 0, none⟩ (.int .i64 0)).setCell ⟨bq, 0, none⟩ (.int .i64 0)).drew) := below_drewN ((hBw.setCell (p := ⟨bp, 0, none⟩) hBp _).setCell (p := ⟨bq, 0, none⟩) hBq _) 1
  generalize ((V.setCell ⟨bp, 0, none⟩ (.int .i64 0)).setCell ⟨bq, 0, none⟩ (.int .i64 0)).drew = E at *
  refine ⟨rfl, .returning, ?_, .tuple #[], ?_, rfl, rfl, hE1, hE2, hE3⟩
  · cases c₀; simp_all
  · simp [results, Tryz.results109, go_sem]
end Go.Proofs.YtiaccimdjfdkgaaGreatDoor

/-
  The first word of data that are known is not the mark of raw bytes, plainly. (The verifier's own text.)
-/
namespace Go.Proofs.YtiaccimdjfdkgaaGreatDoor
set_option linter.unusedVariables false
set_option linter.unusedSimpArgs false
open Go Go.Proofs.YtiaccimdjfdkgaaGreatDoor.Nm

/-- kinds that may stand first -/
def fstK (k : Kind) : Bool := decide ((k : Nat) ≤ 4 ∨ (k : Nat) = 10 ∨ 13 ≤ (k : Nat))
theorem not_mark {t : List Nat} (h1 : ∀ x ∈ t, x < 256) (h2 : t ≠ [92, 35]) (q : Bool) : (decide (bts t = ⟨#[92, 35]⟩) && !q) = false := by
  rw [decide_eq_false, Bool.false_and]
  intro e
  apply h2
  rw [← lsB_bts h1, e]
  decide +kernel
theorem not_mark_q (t : List Nat) : (decide (bts t = ⟨#[92, 35]⟩) && !true) = false := by simp
theorem d16_no92 : ∀ v, v < 16 → bt d16 v ≠ 92 := by decide +kernel
theorem grL_no92 {U : List Nat} {x : Nat} (h : x ∈ grL U) : x ≠ 92 := by
  rcases jnC_mem h with e | ⟨y, hy, e⟩
  · omega
  · obtain ⟨a, _, rfl⟩ := List.mem_map.1 hy
    obtain ⟨v, hv, rfl⟩ := List.mem_map.1 e
    exact d16_no92 v (hxV_lt a a (Nat.le_refl _) v hv)
theorem nameT_no92 {t : Nat} (h1 : 1 ≤ t) (h2 : t ≤ 65535) : lsB (nameT (t : Int)) ≠ [92, 35] := by
  have hty : isTy (t : Int) = true := by unfold isTy; exact decide_eq_true (by omega)
  unfold nameT
  rw [if_pos hty]
  cases hf : twFind (t : Int) with
  | some s =>
    simp only
    unfold twFind at hf
    cases hq : tw.find? (fun r => decide ((r.1 : Int) = t)) with
    | none => rw [hq] at hf; cases hf
    | some r =>
      rw [hq] at hf
      simp only [Option.map_some, Option.some.injEq] at hf
      subst hf
      have hm := List.mem_of_find?_eq_some hq
      have key : ∀ r ∈ tw, lsB r.2 ≠ [92, 35] := by decide +kernel
      exact key r hm
  | none =>
    simp only
    have e : (⟨#[84, 89, 80, 69]⟩ : ByteArray) ++ ⟨(Lib.itoa (t : Int)).toArray⟩ = bts ([84, 89, 80, 69] ++ dgN t) := by
      rw [bts_append, bts_dg]
      congr 1
    rw [e, lsB_bts (fun x hx => by
      rcases List.mem_append.1 hx with h | h
      · have key : ∀ x ∈ [84, 89, 80, 69], x < 256 := by decide
        exact key x h
      · have := dgN_dig t x h
        omega)]
    simp
theorem first_word (k : Kind) (b : ByteArray) (hf : fstK k = true) (hk : kKn k = true) (hs : kindSize k b = some b.size) (hb : b.size ≤ 65535) : ∃ (z : Wz) (R : List Wz), tellK k b = z :: R ∧ (decide (bts z.t = ⟨#[92, 35]⟩) && !z.q) = false := by
  rcases kind_cases k with rfl | rfl | rfl | rfl | rfl | rfl | rfl | rfl | rfl | rfl | rfl | rfl | rfl | ⟨m, rfl⟩
  · refine ⟨_, [], rfl, ?_⟩
    simp only [kindSize, fixS] at hs
    have hok := (ip4_ok b (by split at hs <;> simp at hs; omega)).1
    refine not_mark hok.lt (fun e => ?_) _
    have h92 : 92 ∈ ip4L b := by
      have e' : ip4L b = [92, 35] := e
      rw [e']; simp
    rcases jnC_mem h92 with e2 | ⟨y, hy, e2⟩
    · omega
    · obtain ⟨a, _, rfl⟩ := List.mem_map.1 hy
      have := dgN_dig a 92 e2
      omega
  · refine ⟨_, [], rfl, ?_⟩
    refine not_mark (ip6_ok b).1.lt (fun e => ?_) _
    have h92 : 92 ∈ ip6U (g16 b) := by
      have e' : ip6U (g16 b) = [92, 35] := e
      rw [e']; simp
    unfold ip6U at h92
    split at h92
    · exact grL_no92 h92 rfl
    · rcases List.mem_append.1 h92 with e2 | e2
      · exact grL_no92 e2 rfl
      · rcases List.mem_cons.1 e2 with e3 | e3
        · omega
        · rcases List.mem_cons.1 e3 with e4 | e4
          · omega
          · exact grL_no92 e4 rfl
  · refine ⟨_, [], rfl, ?_⟩
    have hd := (domS_some hs).2.2.2
    rw [ext_full] at hd
    have := dom_ok hd
    refine not_mark this.1.lt (fun e => ?_) _
    have h1 := this.2.2
    simp only at e
    rw [e] at h1
    cases h1
  · exact ⟨_, [], rfl, not_mark_q _⟩
  · obtain ⟨x, X, hX, rfl⟩ := txtS_row hs
    have e : tellK 4 (chunks (x :: X)) = (x :: X).map txW := txtW_chunks (x :: X) _ hX (chunks_len _)
    exact ⟨txW x, X.map txW, by rw [e, List.map_cons], not_mark_q _⟩
  · cases hf
  · cases hf
  · cases hf
  · cases hf
  · cases hf
  · simp only [kindSize] at hs
    unfold oneS at hs
    split at hs
    · cases hs
    · rename_i hno
      simp only [Option.some.injEq] at hs
      have h0 := bt_lt b 0
      have h1 := bt_lt b 1
      have hv : vN b b.size = bt b 0 * 256 + bt b 1 := by
        rw [← hs]
        simp [vN]
      refine ⟨_, [], rfl, not_mark (lsB_lt _) (nameT_no92 (by omega) (by omega)) _⟩
  · cases hf
  · cases hf
  · refine ⟨_, [], rfl, not_mark (fun x hx => by have := dgN_dig _ x hx; omega) (fun e => ?_) _⟩
    have h92 : 92 ∈ dgN (vN b b.size) := by
      have e' : dgN (vN b b.size) = [92, 35] := e
      rw [e']; simp
    have := dgN_dig _ 92 h92
    omega
theorem kinds_first {t : Int} {ks : List Kind} (h : kindsOf t = some ks) : ks = [12] ∨ ∃ k l, ks = k :: l ∧ fstK k = true := by
  unfold kindsOf at h
  by_cases hc : t = 1
  · rw [if_pos hc] at h; cases h; exact .inr ⟨_, _, rfl, by decide⟩
  rw [if_neg hc] at h; clear hc
  by_cases hc : t = 2 ∨ t = 5 ∨ t = 12 ∨ t = 39
  · rw [if_pos hc] at h; cases h; exact .inr ⟨_, _, rfl, by decide⟩
  rw [if_neg hc] at h; clear hc
  by_cases hc : t = 6
  · rw [if_pos hc] at h; cases h; exact .inr ⟨_, _, rfl, by decide⟩
  rw [if_neg hc] at h; clear hc
  by_cases hc : t = 13
  · rw [if_pos hc] at h; cases h; exact .inr ⟨_, _, rfl, by decide⟩
  rw [if_neg hc] at h; clear hc
  by_cases hc : t = 15
  · rw [if_pos hc] at h; cases h; exact .inr ⟨_, _, rfl, by decide⟩
  rw [if_neg hc] at h; clear hc
  by_cases hc : t = 16
  · rw [if_pos hc] at h; cases h; exact .inr ⟨_, _, rfl, by decide⟩
  rw [if_neg hc] at h; clear hc
  by_cases hc : t = 28
  · rw [if_pos hc] at h; cases h; exact .inr ⟨_, _, rfl, by decide⟩
  rw [if_neg hc] at h; clear hc
  by_cases hc : t = 33
  · rw [if_pos hc] at h; cases h; exact .inr ⟨_, _, rfl, by decide⟩
  rw [if_neg hc] at h; clear hc
  by_cases hc : t = 35
  · rw [if_pos hc] at h; cases h; exact .inr ⟨_, _, rfl, by decide⟩
  rw [if_neg hc] at h; clear hc
  by_cases hc : t = 43
  · rw [if_pos hc] at h; cases h; exact .inr ⟨_, _, rfl, by decide⟩
  rw [if_neg hc] at h; clear hc
  by_cases hc : t = 46
  · rw [if_pos hc] at h; cases h; exact .inr ⟨_, _, rfl, by decide⟩
  rw [if_neg hc] at h; clear hc
  by_cases hc : t = 47
  · rw [if_pos hc] at h; cases h; exact .inr ⟨_, _, rfl, by decide⟩
  rw [if_neg hc] at h; clear hc
  by_cases hc : t = 48
  · rw [if_pos hc] at h; cases h; exact .inr ⟨_, _, rfl, by decide⟩
  rw [if_neg hc] at h; clear hc
  by_cases hc : t = 50
  · rw [if_pos hc] at h; cases h; exact .inr ⟨_, _, rfl, by decide⟩
  rw [if_neg hc] at h; clear hc
  by_cases hc : t = 51
  · rw [if_pos hc] at h; cases h; exact .inr ⟨_, _, rfl, by decide⟩
  rw [if_neg hc] at h; clear hc
  by_cases hc : t = 257
  · rw [if_pos hc] at h; cases h; exact .inr ⟨_, _, rfl, by decide⟩
  rw [if_neg hc] at h; clear hc
  by_cases hc : isDT t = true
  · rw [if_pos hc] at h; cases h; exact .inl rfl
  rw [if_neg hc] at h; cases h
end Go.Proofs.YtiaccimdjfdkgaaGreatDoor

/-
  Proofs: data.Read, of the words that tell data. (The verifier's own text.)
-/
namespace Go.Proofs.YtiaccimdjfdkgaaGreatDoor
set_option linter.unusedVariables false
set_option linter.unusedSimpArgs false
open Go.RowKit Go.Shelf Go.Proofs.YtiaccimdjfdkgaaGreatDoor.Nm

theorem rgBox {w w' : World} {B L : Nat} {t : TypeId} {v : Value} (h : Boxed w B t v) (hr : Rg w w' L) (hne : B ≠ L) : Boxed w' B t v := (hr.block B h.lt (fun e => hne (by injection e))).trans h
theorem bxOther {w : World} {B P : Nat} {t : TypeId} {v : Value} (h : Boxed w B t v) (hne : B ≠ P) (u : Value) : Boxed (w.setCell ⟨P, 0, none⟩ u) B t v := (Below.heap_setCell _ _ _ _ hne).trans h
/-- both boxes after their stores -/
theorem two_setD {w4 : World} {P Q : Nat} {t1 t2 : TypeId} {v1 v2 : Value} (hp : Boxed w4 P t1 v1) (hq : Boxed w4 Q t2 v2) (hne : P ≠ Q) (u1 u2 : Value) : Boxed ((w4.setCell ⟨P, 0, none⟩ u1).setCell ⟨Q, 0, none⟩ u2) P t1 u1 ∧ Boxed ((w4.setCell ⟨P, 0, none⟩ u1).setCell ⟨Q, 0, none⟩ u2) Q t2 u2 :=
  ⟨bxOther (hp.set u1) hne u2, (bxOther hq (Ne.symm hne) u1).set u2⟩
set_option maxRecDepth 100000 in
set_option maxHeartbeats 4000000 in
theorem read_core (t : Int) (d o : ByteArray) (ps : List (Kind × ByteArray)) (ks : List Kind) (q : Option Addr) (c : Nat) (w : World) (hkk : kindsOf t = some ks) (rb : Bool)
    (hrow : ∀ j (z : Wz), (tellA ps)[j]? = some z → ∃ b off, q = some ⟨b, off, none⟩ ∧ w.cell? ⟨b, off + j * 2, none⟩ = some (.string (bts z.t)) ∧ w.cell? ⟨b, off + j * 2 + 1, none⟩ = some (.bool z.q))
    (hlen : (tellA ps).length ≤ 16777216) (hcap : (tellA ps).length ≤ c ∧ c ≤ 9223372036854775807) (ho : isN o = true) (hG : GD w)
    (HBR : ∀ W0 L V, Ln W0 L q c (tellA ps) o 0 V → Calls Tryz.prog 110 #[.pointer (some ⟨L, 0, none⟩)] V fun e w' => e = .returned (.bool rb) ∧ ∃ m, w' = V.drewN m)
    (HRR : rb = true → ∀ W0 L V, GD W0 → Ln W0 L q c (tellA ps) o 0 V → Calls Tryz.prog 111 #[.int .i64 t, .pointer (some ⟨L, 0, none⟩)] V fun e w' => e = .returned (.string d) ∧ Rg V w' L)
    (HRF : rb = false → ∀ W0 L g V, GD W0 → Ln W0 L q c (tellA ps) o 0 V → V.heap[g]? = some (.cells (ks.map kindV).toArray 95 (0, 0)) → g ≠ L → Calls Tryz.prog 112 #[.slice (some ⟨g, 0, none⟩) ks.length ks.length, .pointer (some ⟨L, 0, none⟩)] V fun e w' => e = .returned (.string d) ∧ Rg V w' L) :
    Calls Tryz.prog 85 #[.int .i64 t, .slice q (tellA ps).length c, .string o] w fun e w' => e = .returned (.tuple #[.string d, .int .i64 0, .int .i64 0]) ∧ Below w.heap.size w w' := by
  have hmf : ∀ (fn : Fn) (first cap : Array Value) (w : World), (Instr.makeFunc fn first cap).run Tryz.prog w = .ok (.func fn first cap) w := fun _ _ _ _ => rfl
  have HF := hide' (fun V => fieldsOf_any t V)
  rw [hkk] at HF
  have hchk : chk o = 0 := by unfold chk; rw [if_pos ho]
  have hosz : o.size ≤ maxLen := by
    have := ((isN_iff o).1 ho).1
    unfold maxLen; omega
  have HC := hide' (fun V => check_any o V hosz)
  rw [hchk] at HC
  obtain ⟨n, hn⟩ : ∃ n, (tellA ps).length = n := ⟨_, rfl⟩
  have HLn : Hid (∀ V L, Below w.heap.size w V → L = V.heap.size → Ln V L q c (tellA ps) o 0 (V.alloc (.cells #[.slice q n c, .string o, .int .i64 0] 219))) := fun V L hV hL => by
    subst hL
    refine ⟨by rw [World.alloc_heap_new, hn]; rfl, (Below.refl _ V).alloc (Nat.le_refl _) _, Nat.le_refl _, fun j z hz => ?_, hlen, hcap⟩
    obtain ⟨b, off, h1, h2, h3⟩ := hrow j z hz
    have hb : b < w.heap.size := Lib.lt_of_cell h2
    exact ⟨b, off, h1, (hV.cell (p := ⟨b, off + j * 2, none⟩) hb).trans h2, (hV.cell (p := ⟨b, off + j * 2 + 1, none⟩) hb).trans h3⟩
  have HBR := hide' HBR
  have HRR := hide' HRR
  have HRF := hide' HRF
  have HG := hide' hG
  have hb1 : (w.alloc (.cells #[.int .i64 0] 3)).heap.size = w.heap.size + 1 := World.size_alloc _ _
  have bp0 : Boxed ((w.alloc (.cells #[.int .i64 0] 3)).alloc (.cells #[.int .i64 0] 24)) w.heap.size 3 (.int .i64 0) :=
    bxBelow (Boxed.new w 3 (.int .i64 0)) ((Below.refl _ _).alloc (Nat.le_refl _) _) (by rw [hb1]; omega)
  have bq0 : Boxed ((w.alloc (.cells #[.int .i64 0] 3)).alloc (.cells #[.int .i64 0] 24)) (w.heap.size + 1) 24 (.int .i64 0) := by
    have := Boxed.new (w.alloc (.cells #[.int .i64 0] 3)) 24 (.int .i64 0)
    rwa [hb1] at this
  have hBa : Below w.heap.size w ((w.alloc (.cells #[.int .i64 0] 3)).alloc (.cells #[.int .i64 0] 24)) := ((Below.refl _ w).alloc (Nat.le_refl _) _).alloc (by rw [hb1]; omega) _
  rw [hn]
  have hcap' : n ≤ c ∧ c ≤ 9223372036854775807 := by rw [← hn]; exact hcap
  clear hrow hlen hcap ho hG hchk hosz hkk hn
  cases rb
  all_goals
    go_enter_defers Tryz.func85, Tryz.ntmps85
    go_wp2_with (first
      | (go_at_call 65; refine (HF.out _).mono ?_; rintro e1 w1 ⟨⟨g, rfl, hg1, hg2⟩, hB1⟩; have hgl := (Array.getElem?_eq_some_iff.1 hg2).1; have bp1 := bxBelow bp0 hB1 bp0.lt; have bq1 := bxBelow bq0 hB1 bq0.lt; have HB1 := hide' (bstep hBa hB1 hBa.size); clear hB1 hBa)
      | (go_at_call 11; refine (HC.out _).mono ?_; rintro e2 w2 ⟨rfl, hB2⟩; have bp2 := bxBelow bp1 hB2 bp1.lt; have bq2 := bxBelow bq1 hB2 bq1.lt; have HB2 := hide' (bstep HB1.out hB2 HB1.out.size); have hgl2 := hB2.size; have hg3 := (hB2.block _ hgl).trans hg2; have HL2 := hide' (HLn.out w2 _ HB2.out rfl); have HA2 : Hid (Below w2.heap.size w2 (w2.alloc (.cells #[.slice q n c, .string o, .int .i64 0] 219))) := (Below.refl _ w2).alloc (Nat.le_refl _) _; clear hB2 hg2)
      | (go_at_call 110; refine (HBR.out w2 w2.heap.size _ HL2.out).mono ?_; rintro e3 w3 ⟨rfl, m, hw3⟩; have hA3 : Below w2.heap.size w2 w3 := hw3 ▸ below_drewN HA2.out m; have HL3 : Hid (Ln w2 w2.heap.size q c (tellA ps) o 0 w3) := hw3 ▸ HL2.out.drewN m; have bp3 := bxBelow bp2 hA3 bp2.lt; have bq3 := bxBelow bq2 hA3 bq2.lt; have hg4 := (hA3.block _ (Nat.lt_of_lt_of_le hgl hgl2)).trans hg3; have HA3 := hide' hA3; clear hA3 hw3 HA2 HL2 hg3)
      | (go_at_call 111; refine (HRR.out (by simp) w2 w2.heap.size _ (HG.out.below HB2.out) HL3.out).mono ?_; rintro e4 w4 ⟨rfl, hR4⟩; have bp4 := rgBox bp3 hR4 (Nat.ne_of_lt bp2.lt); have bq4 := rgBox bq3 hR4 (Nat.ne_of_lt bq2.lt); have HR4 := hide' hR4; have hc1 := bp4.cell; have hf1 := bp4.frozen; have bs := bxOther bq4 (P := w.heap.size) (by omega) (.int .i64 0); have hc2 := bs.cell; have hf2 := bs.frozen; clear hR4)
      | (go_at_call 112; refine (HRF.out (by simp) w2 w2.heap.size g _ (HG.out.below HB2.out) HL3.out hg4 (by omega)).mono ?_; rintro e4 w4 ⟨rfl, hR4⟩; have bp4 := rgBox bp3 hR4 (Nat.ne_of_lt bp2.lt); have bq4 := rgBox bq3 hR4 (Nat.ne_of_lt bq2.lt); have HR4 := hide' hR4; have hc1 := bp4.cell; have hf1 := bp4.frozen; have bs := bxOther bq4 (P := w.heap.size) (by omega) (.int .i64 0); have hc2 := bs.cell; have hf2 := bs.frozen; clear hR4))
    obtain ⟨bp5, bq5⟩ := two_setD bp4 bq4 (by omega) (.int .i64 0) (.int .i64 0)
    refine leaves_cons (f := 109) (args := #[.pointer (some ⟨w.heap.size, 0, none⟩), .pointer (some ⟨w.heap.size + 1, 0, none⟩)]) (by simp) (by simp [go_sem]) ?_
    refine (read1_idle w.heap.size (w.heap.size + 1) w.heap.size 0 0 _ bp5.cell bp5.frozen bq5.cell bq5.frozen (by omega) (Nat.le_refl _) (by omega)).mono ?_
    rintro e u' w'' ⟨rfl, rfl, hz1, hz2, hB5⟩
    have hR6 : Below w.heap.size w w4 := HR4.out.below (w0 := w) (bstep HB2.out HA3.out HB2.out.size) HB2.out.size
    have hB7 : Below w.heap.size w w'' := ((hR6.setCell (p := ⟨w.heap.size, 0, none⟩) (Nat.le_refl _) _).setCell (p := ⟨w.heap.size + 1, 0, none⟩) (by show w.heap.size ≤ w.heap.size + 1; omega) _).trans hB5
    simp only [Leaves, settle]
    refine ⟨.tuple #[.string d, .int .i64 0, .int .i64 0], ?_, rfl, hB7⟩
    simp [results, Tryz.results85, go_sem, hz1, hz2]
/-- data.Read, of the words that tell data -/
theorem dataRead_any (t : Int) (d o : ByteArray) (ps : List (Kind × ByteArray)) (q : Option Addr) (c : Nat) (w : World) (hp : partsD t d = some ps)
    (hrow : ∀ j (z : Wz), (tellA ps)[j]? = some z → ∃ b off, q = some ⟨b, off, none⟩ ∧ w.cell? ⟨b, off + j * 2, none⟩ = some (.string (bts z.t)) ∧ w.cell? ⟨b, off + j * 2 + 1, none⟩ = some (.bool z.q))
    (hcap : (tellA ps).length ≤ c ∧ c ≤ 9223372036854775807) (ho : isN o = true) (hG : GD w) :
    Calls Tryz.prog 85 #[.int .i64 t, .slice q (tellA ps).length c, .string o] w fun e w' => e = .returned (.tuple #[.string d, .int .i64 0, .int .i64 0]) ∧ Below w.heap.size w w' := by
  obtain ⟨ks, hkk, hks, hok⟩ := ps_ok hp
  have hlen : (tellA ps).length ≤ 16777216 := Nat.le_trans (jnW_len _).2 (Nat.le_trans hok.tell.2 (by omega))
  have he := errD_of_parts hp
  rcases kinds_known hkk with ⟨hkn, hla, hne⟩ | h12
  · rcases kinds_first hkk with h12 | ⟨k, l, hkl, hfk⟩
    · rw [h12] at hkn
      exact absurd (hkn 12 List.mem_cons_self) (by decide)
    · have hkl' := hks.trans hkl
      cases ps with
      | nil => cases hkl'
      | cons p ps' =>
        rw [List.map_cons] at hkl'
        injection hkl' with h1 h2
        obtain ⟨z, R, hz, hzr⟩ := first_word p.1 p.2 (by rw [h1]; exact hfk) (by rw [h1]; exact hkn k (by rw [hkl]; exact List.mem_cons_self)) (hok.sz p List.mem_cons_self) (hok.le p List.mem_cons_self)
        have hz0 : (tellA (p :: ps'))[0]? = some z := by rw [tellA_cons, hz]; rfl
        refine read_core t d o (p :: ps') ks q c w hkk false hrow hlen hcap ho hG (fun W0 L V hV => ?_) (fun h => by cases h) (fun _ W0 L g V hGV hV hg hgL => ?_)
        · have := braw_any W0 L q c _ o z V hV hz0
          rwa [hzr] at this
        · exact readFields_any W0 L q c o (p :: ps') d ks g V hV hok hks hkn hla hg hgL ho hGV
  · rw [h12] at hks
    cases ps with
    | nil => cases hks
    | cons p ps' =>
      rw [List.map_cons] at hks
      injection hks with h1 h2
      have h3 : ps' = [] := List.map_eq_nil_iff.1 h2
      subst h3
      obtain ⟨k, b⟩ := p
      simp only at h1
      subst h1
      have hbd : b = d := by have := hok.cat; rwa [catB_one] at this
      subst hbd
      have htA : tellA [((12 : Kind), b)] = tellK 12 b := by rw [tellA_cons]; exact List.append_nil _
      obtain ⟨Z2, hZ2, -⟩ := unk_words b hok.dl
      refine read_core t b o [(12, b)] ks q c w hkk true hrow hlen hcap ho hG (fun W0 L V hV => ?_) (fun _ W0 L V hGV hV => ?_) (fun h => by cases h)
      · have hz0 : (tellA [((12 : Kind), b)])[0]? = some ⟨[92, 35], false⟩ := by rw [htA, hZ2]; rfl
        have := braw_any W0 L q c _ o _ V hV hz0
        rwa [show (decide (bts [92, 35] = ⟨#[92, 35]⟩) && !false) = true from rfl] at this
      · rw [htA] at hV
        exact readRaw_any W0 L q c o b t V hV hok.dl hGV he
end Go.Proofs.YtiaccimdjfdkgaaGreatDoor
