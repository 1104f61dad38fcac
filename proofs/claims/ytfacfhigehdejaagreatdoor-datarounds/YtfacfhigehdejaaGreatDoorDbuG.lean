import Derived.Test.YtfacfhigehdejaaGreatDoorDbsG
/-
  Proofs: does a line begin with the mark of raw bytes; raw bytes read. (The verifier's own text.)
-/
namespace Go.Proofs.YtfacfhigehdejaaGreatDoor
set_option linter.unusedVariables false
set_option linter.unusedSimpArgs false
open Go.RowKit Go.Shelf Go.Proofs.YtfacfhigehdejaaGreatDoor.Nm

set_option maxRecDepth 100000 in
set_option maxHeartbeats 2000000 in
/-- (*line).beginsRaw -/
theorem braw_any (W0 : World) (L : Nat) (q : Option Addr) (c : Nat) (Z : List Wz) (o : ByteArray) (z : Wz) (w : World) (h : Ln W0 L q c Z o 0 w) (hz : Z[0]? = some z) :
    Calls Tryz.prog 20 #[.pointer (some ⟨L, 0, none⟩)] w fun e w' => e = .returned (.bool (decide (bts z.t = ⟨#[92, 35]⟩) && !z.q)) ∧ ∃ m, w' = w.drewN m := by
  have hlt : 0 < Z.length := (List.getElem?_eq_some_iff.1 hz).1
  have HM : Hid (Calls Tryz.prog 33 #[.pointer (some ⟨L, 0, none⟩)] w fun e w' => e = .returned (.bool true) ∧ ∃ m, w' = w.drewN m) := by
    have := lmore_any W0 L q c Z o 0 w h (by omega)
    rw [decide_eq_true hlt] at this
    exact this
  have hq1 : ((bts z.t).toList == [92, 35]) = decide (bts z.t = ⟨#[92, 35]⟩) := by
    have h1 := toList_bt (bts z.t) ⟨#[92, 35]⟩
    rwa [show (⟨#[92, 35]⟩ : ByteArray).toList = [92, 35] by decide +kernel] at h1
  obtain ⟨bq, hbq⟩ : ∃ bq, decide (bts z.t = ⟨#[92, 35]⟩) = bq := ⟨_, rfl⟩
  rw [hbq] at hq1 ⊢
  clear hbq
  obtain ⟨b, rfl, z0, z1, hbl⟩ := h.at hz
  have c0 := h.c0
  have HH := hide' h
  have pz : (0 : Int) < (Z.length : Int) := by omega
  rw [Nat.zero_mul] at z0
  rw [Nat.zero_mul, Nat.zero_add] at z1
  have HZ0 := hide' z0
  have HZ1 := hide' z1
  generalize bts z.t = T at *
  generalize z.q = zq at *
  clear hz h z0 z1 c0
  cases bq <;> cases zq
  all_goals
    go_enter Tryz.func20, Tryz.ntmps20
    go_wp2_with (go_at_call 33; refine HM.out.mono ?_; rintro e0 w5 ⟨rfl, m, hw5⟩; have hw5' := hw5; subst hw5'; have c0 := (HH.out.drewN m).c0; have z0 : (w.drewN m).cell? ⟨b, 0, none⟩ = some (.string T) := HZ0.out; have z1 := (show (w.drewN m).cell? ⟨b, 1, none⟩ = _ from HZ1.out))
    go_ret
    exact ⟨rfl, m, rfl⟩
theorem unk_words (d : ByteArray) (hd : d.size ≤ 65535) : ∃ Z2 : List Wz, tellK 12 d = ⟨[92, 35], false⟩ :: ⟨dgN d.size, false⟩ :: Z2 ∧ bts (ctW Z2) = toWB 4 d16 d ∧ (∀ z ∈ Z2, z.q = false) ∧ (ctW Z2).length ≤ 1000000 ∧ Z2.length ≤ 1 := by
  have h8 := cW_len8 dg16 d
  by_cases h : d.size = 0
  · refine ⟨[], ?_, ?_, fun z hz => (by cases hz), by simp [ctW], by simp⟩
    · show _ :: _ :: (if d.size = 0 then _ else _) = _
      rw [if_pos h]
    · refine ba_ext (by show 0 = _; omega) fun j hj => absurd hj (by show ¬ j < 0; omega)
  · refine ⟨[⟨lsB (toWB 4 d16 d), false⟩], ?_, by simp only [ctW, List.flatMap_cons, List.flatMap_nil, List.append_nil]; exact bts_ls _, fun z hz => by rw [List.mem_singleton.1 hz], by simp only [ctW, List.flatMap_cons, List.flatMap_nil, List.append_nil]; rw [lsB_len]; omega, by simp⟩
    show _ :: _ :: (if d.size = 0 then _ else _) = _
    rw [if_neg h]
set_option maxRecDepth 100000 in
set_option maxHeartbeats 4000000 in
/-- (*line).raw -/
theorem raw_any (W0 : World) (L : Nat) (q : Option Addr) (c : Nat) (o d : ByteArray) (w : World) (h : Ln W0 L q c (tellK 12 d) o 0 w) (hd : d.size ≤ 65535) (hG : GD W0) :
    Calls Tryz.prog 34 #[.pointer (some ⟨L, 0, none⟩)] w fun e w' => e = .returned (.string d) ∧ Rg w w' L := by
  obtain ⟨Z2, hZ, hct, hq, hcl, hZ2⟩ := unk_words d hd
  rw [hZ] at h
  obtain ⟨Z, hZe⟩ : ∃ Z, (⟨[92, 35], false⟩ :: ⟨dgN d.size, false⟩ :: Z2 : List Wz) = Z := ⟨_, rfl⟩
  have z0 : Z[0]? = some ⟨[92, 35], false⟩ := by rw [← hZe]; rfl
  have z1 : Z[1]? = some ⟨dgN d.size, false⟩ := by rw [← hZe]; rfl
  have zd : Z.drop 2 = Z2 := by rw [← hZe]; rfl
  have zl : Z.length = 2 + Z2.length := by rw [← hZe]; simp; omega
  have zg : ∀ j z, 2 ≤ j → Z[j]? = some z → z ∈ Z2 := fun j z hj hz => by
    rw [← zd]
    have : (Z.drop 2)[j - 2]? = some z := by rw [List.getElem?_drop, show 2 + (j - 2) = j by omega]; exact hz
    exact List.mem_of_getElem? this
  have ztk : ∀ k, (ctW ((Z.take k).drop 2)).length ≤ 16777216 := fun k => by
    by_cases hk : k ≤ 2
    · rw [List.drop_eq_nil_of_le (by rw [List.length_take]; omega)]; simp [ctW]
    · rw [List.take_of_length_le (by omega), zd]; omega
  rw [hZe] at h
  clear hZe hZ
  have HT := hide' (take_any W0 L q c Z o 0 _ w h z0)
  have HP : Hid (∀ V, Ln W0 L q c Z o 1 V → Calls Tryz.prog 42 #[.pointer (some ⟨L, 0, none⟩)] V fun e w' => e = .returned (.string (bts (dgN d.size))) ∧ Ln W0 L q c Z o 2 w' ∧ Rg V w' L) := fun V hV => plain_any W0 L q c Z o 1 _ V hV z1 rfl
  have HG2 : Hid (∀ V, Ln W0 L q c Z o 2 V → Calls Tryz.prog 45 #[.pointer (some ⟨L, 0, none⟩)] V fun e w' => e = .returned (.string (toWB 4 d16 d)) ∧ Ln W0 L q c Z o Z.length w' ∧ Rg V w' L) := fun V hV => by
    have := together_any W0 L q c Z o 2 V hV (by omega) (fun j z hj hz => hq z (zg j z hj hz)) ztk
    rw [zd, hct] at this
    exact this
  have HN : Hid (∀ V, Below W0.heap.size W0 V → Calls Tryz.prog 25 #[.string (bts (dgN d.size)), .int .i64 5, .int .i64 16] V fun e w' => e = .returned (.tuple #[.int .i64 (d.size : Int), .bool true]) ∧ Below V.heap.size V w') := fun V hV => by
    have hl := dgN_len 4 d.size (by omega)
    have h1 := number_at (bts (dgN d.size)) 16 5 V (by omega) (by omega) (by rw [bts_size]; omega) (hG.gw.below hV).errs
    rw [numR_dec (by decide) (by omega) hl] at h1
    exact h1
  have HF := hide' (fun V => from16_of d V hd)
  have HM := hide' (fun v V => must_any v V)
  have hne : ((d.size : Int) != (d.size : Int)) = false := bne_self_eq_false _
  generalize toWB 4 d16 d = X at *
  generalize bts (dgN d.size) = Y at *
  have HH := hide' h
  clear z0 z1 zd zl zg ztk hct hq hcl hZ2 h
  go_enter Tryz.func34, Tryz.ntmps34
  go_wp2_with (first
    | (go_at_call 41; refine HT.out.mono ?_; rintro e2 w2 ⟨rfl, hL2, hR2⟩; have HL2 := hide' hL2; have HR2 := hide' hR2; clear hL2 hR2)
    | (go_at_call 42; refine (HP.out _ HL2.out).mono ?_; rintro e3 w3 ⟨rfl, hL3, hR3⟩; have HL3 := hide' hL3; have HR3 := hide' (HR2.out.trans hR3); clear hL3 hR3)
    | (go_at_call 25; refine (HN.out _ HL3.out.bel).mono ?_; rintro e4 w4 ⟨rfl, hB4⟩; have HL4 := hide' (HL3.out.below hB4); have HR4 := hide' (HR3.out.trans (Rg.of_below hB4 L)); have cx := HL4.out.c2; clear hB4)
    | (go_at_call 43; refine (HM.out _ _).mono ?_; rintro e1 w6 ⟨rfl, hw6⟩; have hw6' := hw6.symm; subst hw6')
    | (go_at_call 45; refine (HG2.out _ HL4.out).mono ?_; rintro e5 w5 ⟨rfl, hL5, hR5⟩; have HR5 := hide' (HR4.out.trans hR5); clear hL5 hR5 cx)
    | (go_at_call 44; refine (HF.out _).mono ?_; rintro e7 w7 ⟨rfl, hB7⟩; have HR7 := hide' (HR5.out.trans (Rg.of_below hB7 L)); clear hB7))
  go_ret
  exact ⟨rfl, HR7.out⟩
set_option maxRecDepth 100000 in
/-- data.readRaw -/
theorem readRaw_any (W0 : World) (L : Nat) (q : Option Addr) (c : Nat) (o d : ByteArray) (t : Int) (w : World) (h : Ln W0 L q c (tellK 12 d) o 0 w) (hd : d.size ≤ 65535) (hG : GD W0) (he : errD t d = 0) :
    Calls Tryz.prog 21 #[.int .i64 t, .pointer (some ⟨L, 0, none⟩)] w fun e w' => e = .returned (.string d) ∧ Rg w w' L := by
  have HR := hide' (raw_any W0 L q c o d w h hd hG)
  have HC := hide' (fun V => dataCheck_any t d V (by omega))
  rw [he] at HC
  clear h he
  go_enter Tryz.func21, Tryz.ntmps21
  go_wp2_with (first
    | (go_at_call 34; refine HR.out.mono ?_; rintro e2 w2 ⟨rfl, hR2⟩; have HR2 := hide' hR2; clear hR2)
    | (go_at_call 6; refine (HC.out _).mono ?_; rintro e3 w3 ⟨rfl, hB3⟩; have HR3 := hide' (HR2.out.trans (Rg.of_below hB3 L)); clear hB3))
  go_ret
  exact ⟨rfl, HR3.out⟩
end Go.Proofs.YtfacfhigehdejaaGreatDoor

/-
  Proofs: data.Read's deferred function. (The verifier's own text.)
-/
namespace Go.Proofs.YtfacfhigehdejaaGreatDoor
set_option linter.unusedVariables false
set_option linter.unusedSimpArgs false
open Go.RowKit Go.Shelf Go.Proofs.YtfacfhigehdejaaGreatDoor.Nm

set_option maxRecDepth 100000 in
set_option maxHeartbeats 2000000 in
/-- data.Read's deferred function, of a frame that returns -/
theorem read1_idle (bp bq B : Nat) (x y : Int) (w : World) (hc : w.cell? ⟨bp, 0, none⟩ = some (.int .i64 x)) (hz : w.frozen? ⟨bp, 0, none⟩ = false) (hc2 : w.cell? ⟨bq, 0, none⟩ = some (.int .i64 y)) (hz2 : w.frozen? ⟨bq, 0, none⟩ = false) (hne : bp ≠ bq) (hBp : B ≤ bp) (hBq : B ≤ bq) :
    CallsD Tryz.prog 17 #[.pointer (some ⟨bp, 0, none⟩), .pointer (some ⟨bq, 0, none⟩)] .returning w fun e u' w' => e = .returned (.tuple #[]) ∧ u' = .returning ∧ w'.cell? ⟨bp, 0, none⟩ = some (.int .i64 0) ∧ w'.cell? ⟨bq, 0, none⟩ = some (.int .i64 0) ∧ Below B w w' := by
  refine callsD_of_wpS Tryz.func17 rfl fun c₀ cs hu => ?_
  apply wpS_seq
  apply wpS_region
  simp [wpOpsS, go_sem, recoverD, hu, Tryz.ntmps17]
  refine (faultOf_none w).mono ?_
  rintro e w2 ⟨rfl, hB2⟩
  obtain ⟨W, hW⟩ : ∃ W, w2.alloc (.cells #[.int .i64 0, .int .i64 0] 35) = W := ⟨_, rfl⟩
  have k0 : W.cell? ⟨w2.heap.size, 0, none⟩ = some (.int .i64 0) := by rw [← hW]; rw [World.cell?_alloc_mark]; rfl
  have k1 : W.cell? ⟨w2.heap.size, 1, none⟩ = some (.int .i64 0) := by rw [← hW]; rw [World.cell?_alloc_mark]; rfl
  have hblk : W.heap[w2.heap.size]? = some (.cells #[.int .i64 0, .int .i64 0] 35 (0, 0)) := by rw [← hW]; exact World.alloc_heap_new w2 _
  have f0 : W.frozen? ⟨w2.heap.size, 0, none⟩ = false := by simp [World.frozen?, hblk]
  have f1 : W.frozen? ⟨w2.heap.size, 1, none⟩ = false := by simp [World.frozen?, hblk]
  simp only [hW]
  simp [go_sem, storeCells, k0, k1, f0, f1, Addr.add, Exit.thenS]
  have hp : bp < w.heap.size := Lib.lt_of_cell hc
  have hq : bq < w.heap.size := Lib.lt_of_cell hc2
  have hs2 := hB2.size
  obtain ⟨V, hV⟩ : ∃ V, (W.setCell ⟨w2.heap.size, 0, none⟩ (.int .i64 0)).setCell ⟨w2.heap.size, 1, none⟩ (.int .i64 0) = V := ⟨_, rfl⟩
  obtain ⟨f, hf⟩ : ∃ f, w2.heap.size = f := ⟨_, rfl⟩
  have hBV : Below f w2 V := by
    rw [← hV, ← hW, ← hf]
    exact (((Below.refl _ w2).alloc (Nat.le_refl _) _).setCell (p := ⟨w2.heap.size, 0, none⟩) (Nat.le_refl _) _).setCell (p := ⟨w2.heap.size, 1, none⟩) (Nat.le_refl _) _
  have v0 : V.cell? ⟨f, 0, none⟩ = some (.int .i64 0) := by
    rw [← hV, ← hf, World.cell?_setCell_other _ _ _ _ (fun e => by injection e with _ e2; cases e2), World.cell?_setCell_same' _ _ _ (by rw [k0]; rfl)]
  have v1 : V.cell? ⟨f, 1, none⟩ = some (.int .i64 0) := by
    rw [← hV, ← hf, World.cell?_setCell_same' _ _ _ (by rw [World.cell?_setCell_other _ _ _ _ (fun e => by injection e with _ e2; cases e2), k1]; rfl)]
  have vp : V.cell? ⟨bp, 0, none⟩ = some (.int .i64 x) := (hBV.cell (p := ⟨bp, 0, none⟩) (by show bp < f; omega)).trans ((hB2.cell (p := ⟨bp, 0, none⟩) hp).trans hc)
  have vq : V.cell? ⟨bq, 0, none⟩ = some (.int .i64 y) := (hBV.cell (p := ⟨bq, 0, none⟩) (by show bq < f; omega)).trans ((hB2.cell (p := ⟨bq, 0, none⟩) hq).trans hc2)
  have zp : V.frozen? ⟨bp, 0, none⟩ = false := (below_frozen hBV (p := ⟨bp, 0, none⟩) (by show bp < f; omega)).trans ((below_frozen hB2 (p := ⟨bp, 0, none⟩) hp).trans hz)
  have zq : V.frozen? ⟨bq, 0, none⟩ = false := (below_frozen hBV (p := ⟨bq, 0, none⟩) (by show bq < f; omega)).trans ((below_frozen hB2 (p := ⟨bq, 0, none⟩) hq).trans hz2)
  have hBw : Below B w V := (hB2.mono (by omega)).trans (hBV.mono (by omega))
  have hpf : bp ≠ f := by omega
  have hqf : bq ≠ f := by omega
  rw [hV, hf]
  apply wpS_of_wp
  show Code.wp Tryz.prog _ _ ⟨#[.pointer (some ⟨bp, 0, none⟩), .pointer (some ⟨bq, 0, none⟩), .pointer (some ⟨f, 0, none⟩), .nilIface, .agg #[.int .i64 0, .int .i64 0], undef, undef, undef, undef], []⟩ V
  have wp1 : V.drew.cell? ⟨bp, 0, none⟩ = some (.int .i64 x) := vp
  have wq1 : V.drew.cell? ⟨bq, 0, none⟩ = some (.int .i64 y) := vq
  have yp1 : V.drew.frozen? ⟨bp, 0, none⟩ = false := zp
  have yq1 : V.drew.frozen? ⟨bq, 0, none⟩ = false := zq
  have HP1 : Hid ((V.setCell ⟨bp, 0, none⟩ (.int .i64 0)).drew.cell? ⟨f, 0, none⟩ = some (.int .i64 0) ∧ (V.setCell ⟨bp, 0, none⟩ (.int .i64 0)).drew.cell? ⟨f, 1, none⟩ = some (.int .i64 0)) := by
    constructor
    · show (V.setCell ⟨bp, 0, none⟩ (.int .i64 0)).cell? ⟨f, 0, none⟩ = _
      rw [World.cell?_setCell_other _ _ _ _ (fun e => hpf (congrArg Addr.block e))]; exact v0
    · show (V.setCell ⟨bp, 0, none⟩ (.int .i64 0)).cell? ⟨f, 1, none⟩ = _
      rw [World.cell?_setCell_other _ _ _ _ (fun e => hpf (congrArg Addr.block e))]; exact v1
  clear hV hW hf k0 k1 f0 f1 hblk hBV
  go_region_held3 (fun U => U.cell? ⟨f, 0, none⟩ = some (.int .i64 0) ∧ U.cell? ⟨f, 1, none⟩ = some (.int .i64 0)) (first | with_reducible exact HP1.out | go_keep) (fail)
  have hE1 : (((V.setCell ⟨bp, 0, none⟩ (.int .i64 0)).setCell ⟨bq, 0, none⟩ (.int .i64 0)).drew).cell? ⟨bp, 0, none⟩ = some (.int .i64 0) := by
    show ((V.setCell ⟨bp, 0, none⟩ (.int .i64 0)).setCell ⟨bq, 0, none⟩ (.int .i64 0)).cell? ⟨bp, 0, none⟩ = _
    rw [World.cell?_setCell_other _ _ _ _ (fun e => hne (congrArg Addr.block e).symm), World.cell?_setCell_same' _ _ _ (by rw [vp]; rfl)]
  have hE2 : (((V.setCell ⟨bp, 0, none⟩ (.int .i64 0)).setCell ⟨bq, 0, none⟩ (.int .i64 0)).drew).cell? ⟨bq, 0, none⟩ = some (.int .i64 0) := by
    show ((V.setCell ⟨bp, 0, none⟩ (.int .i64 0)).setCell ⟨bq, 0, none⟩ (.int .i64 0)).cell? ⟨bq, 0, none⟩ = _
    rw [World.cell?_setCell_same' _ _ _ (by rw [World.cell?_setCell_other _ _ _ _ (fun e => hne (congrArg Addr.block e)), vq]; rfl)]
  have hE3 : Below B w (((V.setCell ⟨bp, 0, none⟩ (.int .i64 0)).setCell ⟨bq, 0, none⟩ (.int .i64 0)).drew) := below_drewN ((hBw.setCell (p := ⟨bp, 0, none⟩) hBp _).setCell (p := ⟨bq, 0, none⟩) hBq _) 1
  generalize ((V.setCell ⟨bp, 0, none⟩ (.int .i64 0)).setCell ⟨bq, 0, none⟩ (.int .i64 0)).drew = E at *
  refine ⟨rfl, .returning, ?_, .tuple #[], ?_, rfl, rfl, hE1, hE2, hE3⟩
  · cases c₀; simp_all
  · simp [results, Tryz.results17, go_sem]
end Go.Proofs.YtfacfhigehdejaaGreatDoor
