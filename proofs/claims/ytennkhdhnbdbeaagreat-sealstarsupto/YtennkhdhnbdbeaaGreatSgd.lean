import Derived.Test.YtennkhdhnbdbeaaGreatSg9
import Derived.Test.YtennkhdhnbdbeaaGreatSf1G
/-
  seal.Sign, where all is right. (The verifier's own text.)
-/
namespace Go.Proofs.YtennkhdhnbdbeaaGreat
set_option linter.unusedVariables false
set_option linter.unusedSimpArgs false
open Go.RowKit Go.Shelf Go.Sort Go.Proofs.YtennkhdhnbdbeaaGreat.Nm

set_option maxRecDepth 100000 in
set_option maxHeartbeats 8000000 in
/-- seal.Sign, where all is right -/
theorem sign_yes (f : Int) (m e s : Nat) (n : ByteArray) (L : List Rn) (p : Option Addr) (cap : Nat) (b u : Nat) (w : World) (xo xd : ByteArray) (xc : Int) (t0 g0 l0 tg : Nat) (F T : ByteArray)
    (hn : n.size ≤ maxLen) (hL : L.length ≤ 1048576) (hat : RsAt w p L) (hz : ∀ r ∈ L, r.o.size ≤ maxLen ∧ r.d.size ≤ 9223372036854775807) (hx : hdR L = ⟨xo, (t0 : Int), xc, (g0 : Int), xd⟩)
    (h1 : rkB f m e s = true) (h2 : isN n = true) (hbu : b ≤ u) (hu : u ≤ 4294967295) (h4 : setOK L = true) (h5 : oneAge L = true) (h6 : withinB xo n = true) (ht1 : t0 < 65536) (hg1 : g0 < 4294967296) (hl : lbI xo = (l0 : Int)) (hl1 : l0 < 256)
    (htg : tagN (pubB f m e s) = tg) (hF : foldB n = F) (hT : (⟨(txL (stB t0 253 l0 g0 u b tg F) (ahB l0 g0 xo t0) (srt (fdL L))).toArray⟩ : ByteArray) = T) (hTz : T.size ≤ 2097152) (hfd : ∀ d ∈ fdL L, d.length ≤ 65535) (hxo : xo.size ≤ 255) (hm2 : m ≤ 2147483647) (hm : 2 ≤ m) (hs : s ≤ 2147483647) :
    Calls Tryz.prog 8 #[.agg #[.int .i64 f, .int .i64 (m : Int), .int .i64 (e : Int), .int .i64 (s : Int)], .string n, .slice p L.length cap, .int .i64 (b : Int), .int .i64 (u : Int)] w fun r w' => r = .returned (.tuple #[.agg #[.string xo, .int .i64 46, .int .i64 xc, .int .i64 (g0 : Int), .string (stB t0 253 l0 g0 u b tg F ++ nB (fgN (digB T) m 10 ^ s % m) 4)], .int .i64 0]) ∧ Below w.heap.size w w' := by
  have hp := setOK_pos h4
  have hFz : F.size ≤ 255 := by rw [← hF]; exact foldB_small _
  have htz : tg < 65536 := by rw [← htg]; exact tagN_lt _
  have HAT := hide' hat
  have ST0 := hide' (Sw.start w f m e s p L hat)
  have HI := hide' (fun w => isRight_any f m e s w)
  have HC := hide' (fun w => check_any n w hn)
  have HS := hide' (fun W (h : RsAt W p L) => isSet_any L p cap W hL h hz)
  have HO := hide' (fun W (h : RsAt W p L) => isOneAge_any L p cap W (by omega) h)
  have HWI := hide' (fun w => within_any xo n w (by unfold maxLen; omega) hn)
  have HLB := hide' (fun w => labelsOf_any xo w (by unfold maxLen; omega))
  have HPU := hide' (fun w => public_any f m e s w)
  have HTG := hide' (fun w => tag_any (pubB f m e s) w (pub_small _ _ _ _))
  have HFO := hide' (fun w => fold_any n w hn)
  have HTX : Hid (∀ W : World, RsAt W p L → Calls Tryz.prog 30 #[.agg #[.int .i64 (t0 : Int), .int .i64 253, .int .i64 (l0 : Int), .int .i64 (g0 : Int), .int .i64 (u : Int), .int .i64 (b : Int), .int .i64 (tg : Int), .string F], .slice p L.length cap] W fun r w' => r = .returned (.string T) ∧ Below W.heap.size W w') := fun W h => by
    have h9 := text_any t0 253 l0 g0 u b tg F L p cap W hp hL h hz hfd (by omega) ht1 (by omega) hl1 hg1 (by omega) (by omega) htz t0 (by rw [hdR_eq hp, hx]) ht1 (by rw [hdR_eq hp, hx]; exact star_small _) (by rw [hdR_eq hp, hx]; exact Nat.le_trans (tailB_size _ _) (by unfold maxLen; omega)) (by rw [hdR_eq hp, hx]; exact ow_small _ _)
    rw [hdR_eq hp, hx] at h9
    simp only at h9
    rw [hT] at h9
    exact h9
  have HNU := hide' (fun w => number_any T m w hTz (by omega) hm2)
  have HPW := hide' (fun w => power_any (fgN (digB T) m 10) s m w hm hm2 (by have := fgN_lt (digB T) m (by omega) 10; omega) hs)
  have HST := hide' (fun w => stamp_any t0 253 l0 g0 u b tg F w (by omega) ht1 (by omega) hl1 hg1 (by omega) (by omega) htz)
  rw [h1] at HI
  rw [chk_y8 h2] at HC
  rw [h4] at HS
  rw [h5] at HO
  rw [h6] at HWI
  rw [hl] at HLB
  rw [htg] at HTG
  rw [hF] at HFO
  have HFI : Hid (∀ V : World, RsAt V p L → ∃ g off, p = some ⟨g, off, none⟩ ∧ V.cell? ⟨g, off, none⟩ = some (.string xo) ∧ V.cell? ⟨g, off + 1, none⟩ = some (.int .i64 (t0 : Int)) ∧ V.cell? ⟨g, off + 2, none⟩ = some (.int .i64 xc) ∧ V.cell? ⟨g, off + 3, none⟩ = some (.int .i64 (g0 : Int)) ∧ V.cell? ⟨g, off + 4, none⟩ = some (.string xd)) := fun V hV => by
    obtain ⟨g, off, hp2, hg, e0, e1, e2, e3, e4⟩ := hV 0 hp
    rw [Nat.zero_mul, Nat.add_zero, hdR_eq hp, hx] at e0 e1 e2 e3 e4
    exact ⟨g, off, hp2, e0, e1, e2, e3, e4⟩
  have hpi : ¬ (L.length : Int) = 0 := by omega
  have hb1 : ¬ (b : Int) < 0 := by omega
  have hb2 : ¬ (u : Int) < (b : Int) := by omega
  have hb3 : ¬ 4294967295 < (u : Int) := by omega
  have hSB : (fgN (digB T) m 10 ^ s % m) < m := Nat.mod_lt _ (by omega)
  obtain ⟨PV, hPV⟩ : ∃ PV, fgN (digB T) m 10 ^ s % m = PV := ⟨_, rfl⟩
  rw [hPV] at HPW hSB ⊢
  have HSB := hide' (fun w => spellBytes_any 4 PV w (by omega) (by omega))
  obtain ⟨NV, hNV⟩ : ∃ NV, fgN (digB T) m 10 = NV := ⟨_, rfl⟩
  rw [hNV] at HNU HPW
  obtain ⟨S0, hS0⟩ : ∃ S0, stB t0 253 l0 g0 u b tg F = S0 := ⟨_, rfl⟩
  have hS0z : S0.size ≤ 300 := by rw [← hS0]; unfold stB; simp only [ByteArray.size_append, nB_size]; omega
  rw [hS0] at HST ⊢
  have hadd : ∀ W : World, (Op.stringOp .add S0 (nB PV 4)).run Tryz.prog W = .ok (.string (S0 ++ nB PV 4)) W := fun W => run_string_add_sum W _ _ (by rw [nB_size]; omega)
  have HAD := hide' hadd
  obtain ⟨k0, k1, k2, k3⟩ := ST0.out.keys
  generalize pubB f m e s = PB at *
  clear hat hz hx h1 h2 h4 h5 h6 hl htg hF hT hfd hPV hNV hS0 hTz hp hFz hS0z hadd hSB ht1 hg1 hl1 htz hm hm2 hs hxo hbu hu
  go_enter Tryz.func8, Tryz.ntmps8
  go_upto_region 12 with (first
    | (go_at_call 20; refine (HI.out _).mono ?_; rintro r w1 ⟨rfl, hB⟩; have ST1 := hide' (ST0.out.step hB); clear hB k0 k1 k2 k3)
    | (go_at_call 21; refine (HC.out _).mono ?_; rintro r w2 ⟨rfl, hB⟩; have ST2 := hide' (ST1.out.step hB); clear hB)
    | (go_at_call 22; refine (HS.out _ ST2.out.2.2.2).mono ?_; rintro r w3 ⟨rfl, hB⟩; have ST3 := hide' (ST2.out.step hB); clear hB)
    | (go_at_call 23; refine (HO.out _ ST3.out.2.2.2).mono ?_; rintro r w4 ⟨rfl, hB⟩; have ST4 := hide' (ST3.out.step hB); clear hB; obtain ⟨g, off, rfl, e0, e1, e2, e3, e4⟩ := HFI.out _ ST4.out.2.2.2)
    | (go_at_call 24; refine (HWI.out _).mono ?_; rintro r w5 ⟨rfl, hB⟩; have ST5 := hide' (ST4.out.step hB); clear hB e0 e1 e2 e3 e4; obtain ⟨g', off', hgo, e0, e1, e2, e3, e4⟩ := HFI.out _ ST5.out.2.2.2; injection hgo with hgo; injection hgo with hgo1 hgo2; subst hgo1; subst hgo2))
  rename_i KK hKK
  have HKK := hide' hKK
  clear hKK
  clear ST0 ST1 ST2 ST3 ST4 HI HC HS HO HWI
  obtain ⟨W6, hW6⟩ : ∃ W6, w5.alloc (.cells #[.string xo, .int .i64 (t0 : Int), .int .i64 xc, .int .i64 (g0 : Int), .string xd] 27) = W6 := ⟨_, rfl⟩
  obtain ⟨R, hR⟩ : ∃ R, w5.heap.size = R := ⟨_, rfl⟩
  have SVA : Hid (Sv w W6 R f m e s (some ⟨g, off, none⟩) L #[.string xo, .int .i64 (t0 : Int), .int .i64 xc, .int .i64 (g0 : Int), .string xd]) := by rw [← hW6, ← hR]; exact Sv.start ST5.out _
  simp only [hW6, hR]
  have QF : Hid (∀ V : World, Sv w V R f m e s (some ⟨g, off, none⟩) L #[.string xo, .int .i64 (t0 : Int), .int .i64 xc, .int .i64 (g0 : Int), .string xd] → V.cell? ⟨R, 0, none⟩ = some (.string xo) ∧ V.cell? ⟨R, 1, none⟩ = some (.int .i64 (t0 : Int)) ∧ V.cell? ⟨R, 3, none⟩ = some (.int .i64 (g0 : Int)) ∧ V.cell? ⟨w.heap.size, 0, none⟩ = some (.int .i64 f) ∧ V.cell? ⟨w.heap.size, 1, none⟩ = some (.int .i64 (m : Int)) ∧ V.cell? ⟨w.heap.size, 2, none⟩ = some (.int .i64 (e : Int)) ∧ V.cell? ⟨w.heap.size, 3, none⟩ = some (.int .i64 (s : Int))) := fun V h => ⟨h.2.1.cell rfl, h.2.1.cell rfl, h.2.1.cell rfl, h.1.1.cell rfl, h.1.1.cell rfl, h.1.1.cell rfl, h.1.1.cell rfl⟩
  obtain ⟨c0, c1, c3, k0, k1, k2, k3⟩ := QF.out _ SVA.out
  clear e0 e1 e2 e3 e4 ST5 hW6 hR w1 w2 w3 w4
  refine wp_region_held_drew (S := fun V => V.cell? ⟨R, 0, none⟩ = some (.string xo) ∧ V.cell? ⟨R, 1, none⟩ = some (.int .i64 (t0 : Int)) ∧ V.cell? ⟨R, 3, none⟩ = some (.int .i64 (g0 : Int)) ∧ V.cell? ⟨w.heap.size, 0, none⟩ = some (.int .i64 f) ∧ V.cell? ⟨w.heap.size, 1, none⟩ = some (.int .i64 (m : Int)) ∧ V.cell? ⟨w.heap.size, 2, none⟩ = some (.int .i64 (e : Int)) ∧ V.cell? ⟨w.heap.size, 3, none⟩ = some (.int .i64 (s : Int))) (by kernel_rfl) ?_ (fun hHeld => ?_)
  · (try dsimp only); go_keep
  refine takeD 0 (some 60) (.pointer (some ⟨R, 1, none⟩)) rfl rfl (by kernel_rfl) (by kernel_rfl) (by kernel_rfl) (fun _ _ _ h => h) (Or.inl ⟨by rfl, ?_⟩) (by assumption) ?_
  · intro w hSw; (try dsimp only at hSw); go_simp <;> (intros; omega)
  simp only [Act.put, List.setIfInBounds_toArray, List.set_cons_zero, List.set_cons_succ]
  refine takeD 1 (some 61) (.int .i64 (t0 : Int)) rfl rfl (by kernel_rfl) (by kernel_rfl) (by kernel_rfl) (fun _ _ _ h => h) (Or.inl ⟨by rfl, ?_⟩) (by assumption) ?_
  · intro w hSw; (try dsimp only at hSw); go_simp <;> (intros; omega)
  simp only [Act.put, List.setIfInBounds_toArray, List.set_cons_zero, List.set_cons_succ]
  refine takeD 2 (some 62) (.pointer (some ⟨R, 0, none⟩)) rfl rfl (by kernel_rfl) (by kernel_rfl) (by kernel_rfl) (fun _ _ _ h => h) (Or.inl ⟨by rfl, ?_⟩) (by assumption) ?_
  · intro w hSw; (try dsimp only at hSw); go_simp <;> (intros; omega)
  simp only [Act.put, List.setIfInBounds_toArray, List.set_cons_zero, List.set_cons_succ]
  refine takeD 3 (some 63) (.string xo) rfl rfl (by kernel_rfl) (by kernel_rfl) (by kernel_rfl) (fun _ _ _ h => h) (Or.inl ⟨by rfl, ?_⟩) (by assumption) ?_
  · intro w hSw; (try dsimp only at hSw); go_simp <;> (intros; omega)
  simp only [Act.put, List.setIfInBounds_toArray, List.set_cons_zero, List.set_cons_succ]
  refine takeD 5 (some 65) (.pointer (some ⟨R, 3, none⟩)) rfl rfl (by kernel_rfl) (by kernel_rfl) (by kernel_rfl) (fun _ _ _ h => h) (Or.inl ⟨by rfl, ?_⟩) (by assumption) ?_
  · intro w hSw; (try dsimp only at hSw); go_simp <;> (intros; omega)
  simp only [Act.put, List.setIfInBounds_toArray, List.set_cons_zero, List.set_cons_succ]
  refine takeD 6 (some 66) (.int .i64 (g0 : Int)) rfl rfl (by kernel_rfl) (by kernel_rfl) (by kernel_rfl) (fun _ _ _ h => h) (Or.inl ⟨by rfl, ?_⟩) (by assumption) ?_
  · intro w hSw; (try dsimp only at hSw); go_simp <;> (intros; omega)
  simp only [Act.put, List.setIfInBounds_toArray, List.set_cons_zero, List.set_cons_succ]
  refine takeD 7 (some 67) (.int .i64 (u : Int)) rfl rfl (by kernel_rfl) (by kernel_rfl) (by kernel_rfl) (fun _ _ _ h => h) (Or.inl ⟨by rfl, ?_⟩) (by assumption) ?_
  · intro w hSw; (try dsimp only at hSw); go_simp <;> (intros; omega)
  simp only [Act.put, List.setIfInBounds_toArray, List.set_cons_zero, List.set_cons_succ]
  refine takeD 8 (some 68) (.int .i64 (b : Int)) rfl rfl (by kernel_rfl) (by kernel_rfl) (by kernel_rfl) (fun _ _ _ h => h) (Or.inl ⟨by rfl, ?_⟩) (by assumption) ?_
  · intro w hSw; (try dsimp only at hSw); go_simp <;> (intros; omega)
  simp only [Act.put, List.setIfInBounds_toArray, List.set_cons_zero, List.set_cons_succ]
  refine takeD 9 (some 69) (.agg #[.int .i64 f, .int .i64 (m : Int), .int .i64 (e : Int), .int .i64 (s : Int)]) rfl rfl (by kernel_rfl) (by kernel_rfl) (by kernel_rfl) (fun _ _ _ h => h) (Or.inl ⟨by rfl, ?_⟩) (by assumption) ?_
  · intro w hSw; (try dsimp only at hSw); go_simp <;> (intros; omega)
  simp only [Act.put, List.setIfInBounds_toArray, List.set_cons_zero, List.set_cons_succ]
  refine takeD 12 (some 72) (.string n) rfl rfl (by kernel_rfl) (by kernel_rfl) (by kernel_rfl) (fun _ _ _ h => h) (Or.inl ⟨by rfl, ?_⟩) (by assumption) ?_
  · intro w hSw; (try dsimp only at hSw); go_simp <;> (intros; omega)
  simp only [Act.put, List.setIfInBounds_toArray, List.set_cons_zero, List.set_cons_succ]
  refine wpAnyH_ready (rs := [4, 15]) (by kernel_rfl) (by simp) ?_
  refine AllReadyH.cons rfl (fun K hK => ?_) (AllReadyH.cons rfl (fun K hK => ?_) AllReadyH.nil)
  · go_simp
    go_at_call 25; refine (HLB.out _).mono ?_; rintro r vB ⟨rfl, hB⟩; have SVB := hide' (show Sv w vB R f m e s (some ⟨g, off, none⟩) L #[.string xo, .int .i64 (t0 : Int), .int .i64 xc, .int .i64 (g0 : Int), .string xd] by first | exact SVA.out.step hB | exact SVA.out.drew.step hB); clear hB
    go_wp2_with fail
    refine hK.out _ _ (QF.out _ SVB.out) (fun hHeld => ?_)
    clear hK K
    try simp only [Act.put, List.setIfInBounds_toArray, List.set_cons_zero, List.set_cons_succ]
    refine wpAnyH_ready (rs := [10, 15]) (by kernel_rfl) (by simp) ?_
    refine AllReadyH.cons rfl (fun K hK => ?_) (AllReadyH.cons rfl (fun K hK => ?_) AllReadyH.nil)
    · go_simp
      go_at_call 15; refine (HPU.out _).mono ?_; rintro r vC ⟨rfl, hB⟩; have SVC := hide' (show Sv w vC R f m e s (some ⟨g, off, none⟩) L #[.string xo, .int .i64 (t0 : Int), .int .i64 xc, .int .i64 (g0 : Int), .string xd] by first | exact SVB.out.step hB | exact SVB.out.drew.step hB); clear hB
      go_wp2_with fail
      refine hK.out _ _ (QF.out _ SVC.out) (fun hHeld => ?_)
      clear hK K
      try simp only [Act.put, List.setIfInBounds_toArray, List.set_cons_zero, List.set_cons_succ]
      refine wpAnyH_ready (rs := [11, 15]) (by kernel_rfl) (by simp) ?_
      refine AllReadyH.cons rfl (fun K hK => ?_) (AllReadyH.cons rfl (fun K hK => ?_) AllReadyH.nil)
      · go_simp
        go_at_call 26; refine (HTG.out _).mono ?_; rintro r vD ⟨rfl, hw9⟩; have SVD := hide' (show Sv w vD R f m e s (some ⟨g, off, none⟩) L #[.string xo, .int .i64 (t0 : Int), .int .i64 xc, .int .i64 (g0 : Int), .string xd] by first | (rw [hw9]; exact SVC.out) | (rw [hw9]; exact SVC.out.drew)); clear hw9
        go_wp2_with fail
        refine hK.out _ _ (QF.out _ SVD.out) (fun hHeld => ?_)
        clear hK K
        try simp only [Act.put, List.setIfInBounds_toArray, List.set_cons_zero, List.set_cons_succ]
        refine wpAnyH_ready (rs := [13, 15]) (by kernel_rfl) (by simp) ?_
        refine AllReadyH.cons rfl (fun K hK => ?_) (AllReadyH.cons rfl (fun K hK => ?_) AllReadyH.nil)
        · go_simp
          go_at_call 27; refine (HFO.out _).mono ?_; rintro r vE ⟨rfl, hB⟩; have SVE := hide' (show Sv w vE R f m e s (some ⟨g, off, none⟩) L #[.string xo, .int .i64 (t0 : Int), .int .i64 xc, .int .i64 (g0 : Int), .string xd] by first | exact SVD.out.step hB | exact SVD.out.drew.step hB); clear hB
          go_wp2_with fail
          refine hK.out _ _ (QF.out _ SVE.out) (fun hHeld => ?_)
          clear hK K
          try simp only [Act.put, List.setIfInBounds_toArray, List.set_cons_zero, List.set_cons_succ]
          refine takeD 14 (some 74) (.agg #[.int .i64 (t0 : Int), .int .i64 253, .int .i64 (l0 : Int), .int .i64 (g0 : Int), .int .i64 (u : Int), .int .i64 (b : Int), .int .i64 (tg : Int), .string F]) rfl rfl (by kernel_rfl) (by kernel_rfl) (by kernel_rfl) (fun _ _ _ h => h) (Or.inl ⟨by rfl, ?_⟩) (by assumption) ?_
          · intro w hSw; (try dsimp only at hSw); go_simp <;> (intros; omega)
          simp only [Act.put, List.setIfInBounds_toArray, List.set_cons_zero, List.set_cons_succ]
          refine wpAnyH_ready (rs := [15]) (by kernel_rfl) (by simp) ?_
          refine AllReadyH.cons rfl (fun K hK => ?_) AllReadyH.nil
          go_simp
          obtain ⟨Wz, hWz⟩ : ∃ Wz, World.alloc vE (.cells #[.int .i64 0, .int .i64 0, .int .i64 0, .int .i64 0, .int .i64 0, .int .i64 0, .int .i64 0, .string ⟨#[]⟩] 53) = Wz := ⟨_, rfl⟩
          obtain ⟨Q, hQ⟩ : ∃ Q, (World.heap vE).size = Q := ⟨_, rfl⟩
          have SUE : Hid (Su w Wz R Q f m e s (some ⟨g, off, none⟩) L #[.string xo, .int .i64 (t0 : Int), .int .i64 xc, .int .i64 (g0 : Int), .string xd] #[.int .i64 0, .int .i64 0, .int .i64 0, .int .i64 0, .int .i64 0, .int .i64 0, .int .i64 0, .string ⟨#[]⟩]) := by rw [← hWz, ← hQ]; exact Su.start SVE.out _
          simp only [hWz, hQ]
          clear hWz hQ
          refine hK.out _ _ (by first | exact QF.out _ SUE.out.1 | exact QF.out _ SUE.out.drew.1) (fun hHeld => ?_)
          clear hK K
          try simp only [Act.put, List.setIfInBounds_toArray, List.set_cons_zero, List.set_cons_succ]
          refine wpAnyH_ready (rs := [16]) (by kernel_rfl) (by simp) ?_
          refine AllReadyH.cons rfl (fun K hK => ?_) AllReadyH.nil
          have b0 := SUE.out.2.1.cell (j := 0) rfl
          have b1 := SUE.out.2.1.cell (j := 1) rfl
          have b2 := SUE.out.2.1.cell (j := 2) rfl
          have b3 := SUE.out.2.1.cell (j := 3) rfl
          have b4 := SUE.out.2.1.cell (j := 4) rfl
          have b5 := SUE.out.2.1.cell (j := 5) rfl
          have b6 := SUE.out.2.1.cell (j := 6) rfl
          have b7 := SUE.out.2.1.cell (j := 7) rfl
          have fr0 := SUE.out.2.1.free 0
          have fr1 := SUE.out.2.1.free 1
          have fr2 := SUE.out.2.1.free 2
          have fr3 := SUE.out.2.1.free 3
          have fr4 := SUE.out.2.1.free 4
          have fr5 := SUE.out.2.1.free 5
          have fr6 := SUE.out.2.1.free 6
          have fr7 := SUE.out.2.1.free 7
          go_simp
          have SUF := hide' ((((((((SUE.out.put HAT.out 0 (.int .i64 (t0 : Int))).put HAT.out 1 (.int .i64 253)).put HAT.out 2 (.int .i64 (l0 : Int))).put HAT.out 3 (.int .i64 (g0 : Int))).put HAT.out 4 (.int .i64 (u : Int))).put HAT.out 5 (.int .i64 (b : Int))).put HAT.out 6 (.int .i64 (tg : Int))).put HAT.out 7 (.string F))
          refine hK.out _ _ (by first | exact QF.out _ SUF.out.1 | exact QF.out _ SUF.out.drew.1) (fun hHeld => ?_)
          clear hK K
          try simp only [Act.put, List.setIfInBounds_toArray, List.set_cons_zero, List.set_cons_succ]
          refine wpAnyH_done (by kernel_rfl) ?_ _
          go_wp2_with fail
          refine HKK.out _ _ ?_
          first | exact sign_tail f m e s n L _ cap b u w _ R Q xo xd xc t0 g0 l0 tg PV NV F T S0 (nB PV 4) HAT SUF HTX HNU HPW HST HSB HAD.out _ _ _ _ _ _ _ _ _ _ _ _ _ _ _ _ _ _ _ _ _ _ _ _ _ _ _ _ _ _ _ _ _ _ _ _ _ _ _ _ _ _ _ _ _ _ _ _ _ _ _ _ _ _ _ _ _ _ _ _ _ _ _ _ _ _ _ _ _ _ _ _ _ _ _ _ _ _ _ _ _ _ _ _ _ _ | exact sign_tail f m e s n L _ cap b u w _ R Q xo xd xc t0 g0 l0 tg PV NV F T S0 (nB PV 4) HAT (hide' SUF.out.drew) HTX HNU HPW HST HSB HAD.out _ _ _ _ _ _ _ _ _ _ _ _ _ _ _ _ _ _ _ _ _ _ _ _ _ _ _ _ _ _ _ _ _ _ _ _ _ _ _ _ _ _ _ _ _ _ _ _ _ _ _ _ _ _ _ _ _ _ _ _ _ _ _ _ _ _ _ _ _ _ _ _ _ _ _ _ _ _ _ _ _ _ _ _ _ _
        · go_simp
          obtain ⟨Wz, hWz⟩ : ∃ Wz, World.alloc vD (.cells #[.int .i64 0, .int .i64 0, .int .i64 0, .int .i64 0, .int .i64 0, .int .i64 0, .int .i64 0, .string ⟨#[]⟩] 53) = Wz := ⟨_, rfl⟩
          obtain ⟨Q, hQ⟩ : ∃ Q, (World.heap vD).size = Q := ⟨_, rfl⟩
          have SUD : Hid (Su w Wz R Q f m e s (some ⟨g, off, none⟩) L #[.string xo, .int .i64 (t0 : Int), .int .i64 xc, .int .i64 (g0 : Int), .string xd] #[.int .i64 0, .int .i64 0, .int .i64 0, .int .i64 0, .int .i64 0, .int .i64 0, .int .i64 0, .string ⟨#[]⟩]) := by rw [← hWz, ← hQ]; exact Su.start SVD.out _
          simp only [hWz, hQ]
          clear hWz hQ
          refine hK.out _ _ (by first | exact QF.out _ SUD.out.1 | exact QF.out _ SUD.out.drew.1) (fun hHeld => ?_)
          clear hK K
          try simp only [Act.put, List.setIfInBounds_toArray, List.set_cons_zero, List.set_cons_succ]
          refine wpAnyH_ready (rs := [13]) (by kernel_rfl) (by simp) ?_
          refine AllReadyH.cons rfl (fun K hK => ?_) AllReadyH.nil
          go_simp
          go_at_call 27; refine (HFO.out _).mono ?_; rintro r vE ⟨rfl, hB⟩; have SUE := hide' (show Su w vE R Q f m e s (some ⟨g, off, none⟩) L #[.string xo, .int .i64 (t0 : Int), .int .i64 xc, .int .i64 (g0 : Int), .string xd] #[.int .i64 0, .int .i64 0, .int .i64 0, .int .i64 0, .int .i64 0, .int .i64 0, .int .i64 0, .string ⟨#[]⟩] by first | exact SUD.out.step hB | exact SUD.out.drew.step hB); clear hB
          go_wp2_with fail
          refine hK.out _ _ (QF.out _ SUE.out.1) (fun hHeld => ?_)
          clear hK K
          try simp only [Act.put, List.setIfInBounds_toArray, List.set_cons_zero, List.set_cons_succ]
          refine takeD 14 (some 74) (.agg #[.int .i64 (t0 : Int), .int .i64 253, .int .i64 (l0 : Int), .int .i64 (g0 : Int), .int .i64 (u : Int), .int .i64 (b : Int), .int .i64 (tg : Int), .string F]) rfl rfl (by kernel_rfl) (by kernel_rfl) (by kernel_rfl) (fun _ _ _ h => h) (Or.inl ⟨by rfl, ?_⟩) (by assumption) ?_
          · intro w hSw; (try dsimp only at hSw); go_simp <;> (intros; omega)
          simp only [Act.put, List.setIfInBounds_toArray, List.set_cons_zero, List.set_cons_succ]
          refine wpAnyH_ready (rs := [16]) (by kernel_rfl) (by simp) ?_
          refine AllReadyH.cons rfl (fun K hK => ?_) AllReadyH.nil
          have b0 := SUE.out.2.1.cell (j := 0) rfl
          have b1 := SUE.out.2.1.cell (j := 1) rfl
          have b2 := SUE.out.2.1.cell (j := 2) rfl
          have b3 := SUE.out.2.1.cell (j := 3) rfl
          have b4 := SUE.out.2.1.cell (j := 4) rfl
          have b5 := SUE.out.2.1.cell (j := 5) rfl
          have b6 := SUE.out.2.1.cell (j := 6) rfl
          have b7 := SUE.out.2.1.cell (j := 7) rfl
          have fr0 := SUE.out.2.1.free 0
          have fr1 := SUE.out.2.1.free 1
          have fr2 := SUE.out.2.1.free 2
          have fr3 := SUE.out.2.1.free 3
          have fr4 := SUE.out.2.1.free 4
          have fr5 := SUE.out.2.1.free 5
          have fr6 := SUE.out.2.1.free 6
          have fr7 := SUE.out.2.1.free 7
          go_simp
          have SUF := hide' ((((((((SUE.out.put HAT.out 0 (.int .i64 (t0 : Int))).put HAT.out 1 (.int .i64 253)).put HAT.out 2 (.int .i64 (l0 : Int))).put HAT.out 3 (.int .i64 (g0 : Int))).put HAT.out 4 (.int .i64 (u : Int))).put HAT.out 5 (.int .i64 (b : Int))).put HAT.out 6 (.int .i64 (tg : Int))).put HAT.out 7 (.string F))
          refine hK.out _ _ (by first | exact QF.out _ SUF.out.1 | exact QF.out _ SUF.out.drew.1) (fun hHeld => ?_)
          clear hK K
          try simp only [Act.put, List.setIfInBounds_toArray, List.set_cons_zero, List.set_cons_succ]
          refine wpAnyH_done (by kernel_rfl) ?_ _
          go_wp2_with fail
          refine HKK.out _ _ ?_
          first | exact sign_tail f m e s n L _ cap b u w _ R Q xo xd xc t0 g0 l0 tg PV NV F T S0 (nB PV 4) HAT SUF HTX HNU HPW HST HSB HAD.out _ _ _ _ _ _ _ _ _ _ _ _ _ _ _ _ _ _ _ _ _ _ _ _ _ _ _ _ _ _ _ _ _ _ _ _ _ _ _ _ _ _ _ _ _ _ _ _ _ _ _ _ _ _ _ _ _ _ _ _ _ _ _ _ _ _ _ _ _ _ _ _ _ _ _ _ _ _ _ _ _ _ _ _ _ _ | exact sign_tail f m e s n L _ cap b u w _ R Q xo xd xc t0 g0 l0 tg PV NV F T S0 (nB PV 4) HAT (hide' SUF.out.drew) HTX HNU HPW HST HSB HAD.out _ _ _ _ _ _ _ _ _ _ _ _ _ _ _ _ _ _ _ _ _ _ _ _ _ _ _ _ _ _ _ _ _ _ _ _ _ _ _ _ _ _ _ _ _ _ _ _ _ _ _ _ _ _ _ _ _ _ _ _ _ _ _ _ _ _ _ _ _ _ _ _ _ _ _ _ _ _ _ _ _ _ _ _ _ _
      · go_simp
        obtain ⟨Wz, hWz⟩ : ∃ Wz, World.alloc vC (.cells #[.int .i64 0, .int .i64 0, .int .i64 0, .int .i64 0, .int .i64 0, .int .i64 0, .int .i64 0, .string ⟨#[]⟩] 53) = Wz := ⟨_, rfl⟩
        obtain ⟨Q, hQ⟩ : ∃ Q, (World.heap vC).size = Q := ⟨_, rfl⟩
        have SUC : Hid (Su w Wz R Q f m e s (some ⟨g, off, none⟩) L #[.string xo, .int .i64 (t0 : Int), .int .i64 xc, .int .i64 (g0 : Int), .string xd] #[.int .i64 0, .int .i64 0, .int .i64 0, .int .i64 0, .int .i64 0, .int .i64 0, .int .i64 0, .string ⟨#[]⟩]) := by rw [← hWz, ← hQ]; exact Su.start SVC.out _
        simp only [hWz, hQ]
        clear hWz hQ
        refine hK.out _ _ (by first | exact QF.out _ SUC.out.1 | exact QF.out _ SUC.out.drew.1) (fun hHeld => ?_)
        clear hK K
        try simp only [Act.put, List.setIfInBounds_toArray, List.set_cons_zero, List.set_cons_succ]
        refine wpAnyH_ready (rs := [11]) (by kernel_rfl) (by simp) ?_
        refine AllReadyH.cons rfl (fun K hK => ?_) AllReadyH.nil
        go_simp
        go_at_call 26; refine (HTG.out _).mono ?_; rintro r vD ⟨rfl, hw9⟩; have SUD := hide' (show Su w vD R Q f m e s (some ⟨g, off, none⟩) L #[.string xo, .int .i64 (t0 : Int), .int .i64 xc, .int .i64 (g0 : Int), .string xd] #[.int .i64 0, .int .i64 0, .int .i64 0, .int .i64 0, .int .i64 0, .int .i64 0, .int .i64 0, .string ⟨#[]⟩] by first | (rw [hw9]; exact SUC.out) | (rw [hw9]; exact SUC.out.drew)); clear hw9
        go_wp2_with fail
        refine hK.out _ _ (QF.out _ SUD.out.1) (fun hHeld => ?_)
        clear hK K
        try simp only [Act.put, List.setIfInBounds_toArray, List.set_cons_zero, List.set_cons_succ]
        refine wpAnyH_ready (rs := [13]) (by kernel_rfl) (by simp) ?_
        refine AllReadyH.cons rfl (fun K hK => ?_) AllReadyH.nil
        go_simp
        go_at_call 27; refine (HFO.out _).mono ?_; rintro r vE ⟨rfl, hB⟩; have SUE := hide' (show Su w vE R Q f m e s (some ⟨g, off, none⟩) L #[.string xo, .int .i64 (t0 : Int), .int .i64 xc, .int .i64 (g0 : Int), .string xd] #[.int .i64 0, .int .i64 0, .int .i64 0, .int .i64 0, .int .i64 0, .int .i64 0, .int .i64 0, .string ⟨#[]⟩] by first | exact SUD.out.step hB | exact SUD.out.drew.step hB); clear hB
        go_wp2_with fail
        refine hK.out _ _ (QF.out _ SUE.out.1) (fun hHeld => ?_)
        clear hK K
        try simp only [Act.put, List.setIfInBounds_toArray, List.set_cons_zero, List.set_cons_succ]
        refine takeD 14 (some 74) (.agg #[.int .i64 (t0 : Int), .int .i64 253, .int .i64 (l0 : Int), .int .i64 (g0 : Int), .int .i64 (u : Int), .int .i64 (b : Int), .int .i64 (tg : Int), .string F]) rfl rfl (by kernel_rfl) (by kernel_rfl) (by kernel_rfl) (fun _ _ _ h => h) (Or.inl ⟨by rfl, ?_⟩) (by assumption) ?_
        · intro w hSw; (try dsimp only at hSw); go_simp <;> (intros; omega)
        simp only [Act.put, List.setIfInBounds_toArray, List.set_cons_zero, List.set_cons_succ]
        refine wpAnyH_ready (rs := [16]) (by kernel_rfl) (by simp) ?_
        refine AllReadyH.cons rfl (fun K hK => ?_) AllReadyH.nil
        have b0 := SUE.out.2.1.cell (j := 0) rfl
        have b1 := SUE.out.2.1.cell (j := 1) rfl
        have b2 := SUE.out.2.1.cell (j := 2) rfl
        have b3 := SUE.out.2.1.cell (j := 3) rfl
        have b4 := SUE.out.2.1.cell (j := 4) rfl
        have b5 := SUE.out.2.1.cell (j := 5) rfl
        have b6 := SUE.out.2.1.cell (j := 6) rfl
        have b7 := SUE.out.2.1.cell (j := 7) rfl
        have fr0 := SUE.out.2.1.free 0
        have fr1 := SUE.out.2.1.free 1
        have fr2 := SUE.out.2.1.free 2
        have fr3 := SUE.out.2.1.free 3
        have fr4 := SUE.out.2.1.free 4
        have fr5 := SUE.out.2.1.free 5
        have fr6 := SUE.out.2.1.free 6
        have fr7 := SUE.out.2.1.free 7
        go_simp
        have SUF := hide' ((((((((SUE.out.put HAT.out 0 (.int .i64 (t0 : Int))).put HAT.out 1 (.int .i64 253)).put HAT.out 2 (.int .i64 (l0 : Int))).put HAT.out 3 (.int .i64 (g0 : Int))).put HAT.out 4 (.int .i64 (u : Int))).put HAT.out 5 (.int .i64 (b : Int))).put HAT.out 6 (.int .i64 (tg : Int))).put HAT.out 7 (.string F))
        refine hK.out _ _ (by first | exact QF.out _ SUF.out.1 | exact QF.out _ SUF.out.drew.1) (fun hHeld => ?_)
        clear hK K
        try simp only [Act.put, List.setIfInBounds_toArray, List.set_cons_zero, List.set_cons_succ]
        refine wpAnyH_done (by kernel_rfl) ?_ _
        go_wp2_with fail
        refine HKK.out _ _ ?_
        first | exact sign_tail f m e s n L _ cap b u w _ R Q xo xd xc t0 g0 l0 tg PV NV F T S0 (nB PV 4) HAT SUF HTX HNU HPW HST HSB HAD.out _ _ _ _ _ _ _ _ _ _ _ _ _ _ _ _ _ _ _ _ _ _ _ _ _ _ _ _ _ _ _ _ _ _ _ _ _ _ _ _ _ _ _ _ _ _ _ _ _ _ _ _ _ _ _ _ _ _ _ _ _ _ _ _ _ _ _ _ _ _ _ _ _ _ _ _ _ _ _ _ _ _ _ _ _ _ | exact sign_tail f m e s n L _ cap b u w _ R Q xo xd xc t0 g0 l0 tg PV NV F T S0 (nB PV 4) HAT (hide' SUF.out.drew) HTX HNU HPW HST HSB HAD.out _ _ _ _ _ _ _ _ _ _ _ _ _ _ _ _ _ _ _ _ _ _ _ _ _ _ _ _ _ _ _ _ _ _ _ _ _ _ _ _ _ _ _ _ _ _ _ _ _ _ _ _ _ _ _ _ _ _ _ _ _ _ _ _ _ _ _ _ _ _ _ _ _ _ _ _ _ _ _ _ _ _ _ _ _ _
    · go_simp
      obtain ⟨Wz, hWz⟩ : ∃ Wz, World.alloc vB (.cells #[.int .i64 0, .int .i64 0, .int .i64 0, .int .i64 0, .int .i64 0, .int .i64 0, .int .i64 0, .string ⟨#[]⟩] 53) = Wz := ⟨_, rfl⟩
      obtain ⟨Q, hQ⟩ : ∃ Q, (World.heap vB).size = Q := ⟨_, rfl⟩
      have SUB : Hid (Su w Wz R Q f m e s (some ⟨g, off, none⟩) L #[.string xo, .int .i64 (t0 : Int), .int .i64 xc, .int .i64 (g0 : Int), .string xd] #[.int .i64 0, .int .i64 0, .int .i64 0, .int .i64 0, .int .i64 0, .int .i64 0, .int .i64 0, .string ⟨#[]⟩]) := by rw [← hWz, ← hQ]; exact Su.start SVB.out _
      simp only [hWz, hQ]
      clear hWz hQ
      refine hK.out _ _ (by first | exact QF.out _ SUB.out.1 | exact QF.out _ SUB.out.drew.1) (fun hHeld => ?_)
      clear hK K
      try simp only [Act.put, List.setIfInBounds_toArray, List.set_cons_zero, List.set_cons_succ]
      refine wpAnyH_ready (rs := [10]) (by kernel_rfl) (by simp) ?_
      refine AllReadyH.cons rfl (fun K hK => ?_) AllReadyH.nil
      go_simp
      go_at_call 15; refine (HPU.out _).mono ?_; rintro r vC ⟨rfl, hB⟩; have SUC := hide' (show Su w vC R Q f m e s (some ⟨g, off, none⟩) L #[.string xo, .int .i64 (t0 : Int), .int .i64 xc, .int .i64 (g0 : Int), .string xd] #[.int .i64 0, .int .i64 0, .int .i64 0, .int .i64 0, .int .i64 0, .int .i64 0, .int .i64 0, .string ⟨#[]⟩] by first | exact SUB.out.step hB | exact SUB.out.drew.step hB); clear hB
      go_wp2_with fail
      refine hK.out _ _ (QF.out _ SUC.out.1) (fun hHeld => ?_)
      clear hK K
      try simp only [Act.put, List.setIfInBounds_toArray, List.set_cons_zero, List.set_cons_succ]
      refine wpAnyH_ready (rs := [11]) (by kernel_rfl) (by simp) ?_
      refine AllReadyH.cons rfl (fun K hK => ?_) AllReadyH.nil
      go_simp
      go_at_call 26; refine (HTG.out _).mono ?_; rintro r vD ⟨rfl, hw9⟩; have SUD := hide' (show Su w vD R Q f m e s (some ⟨g, off, none⟩) L #[.string xo, .int .i64 (t0 : Int), .int .i64 xc, .int .i64 (g0 : Int), .string xd] #[.int .i64 0, .int .i64 0, .int .i64 0, .int .i64 0, .int .i64 0, .int .i64 0, .int .i64 0, .string ⟨#[]⟩] by first | (rw [hw9]; exact SUC.out) | (rw [hw9]; exact SUC.out.drew)); clear hw9
      go_wp2_with fail
      refine hK.out _ _ (QF.out _ SUD.out.1) (fun hHeld => ?_)
      clear hK K
      try simp only [Act.put, List.setIfInBounds_toArray, List.set_cons_zero, List.set_cons_succ]
      refine wpAnyH_ready (rs := [13]) (by kernel_rfl) (by simp) ?_
      refine AllReadyH.cons rfl (fun K hK => ?_) AllReadyH.nil
      go_simp
      go_at_call 27; refine (HFO.out _).mono ?_; rintro r vE ⟨rfl, hB⟩; have SUE := hide' (show Su w vE R Q f m e s (some ⟨g, off, none⟩) L #[.string xo, .int .i64 (t0 : Int), .int .i64 xc, .int .i64 (g0 : Int), .string xd] #[.int .i64 0, .int .i64 0, .int .i64 0, .int .i64 0, .int .i64 0, .int .i64 0, .int .i64 0, .string ⟨#[]⟩] by first | exact SUD.out.step hB | exact SUD.out.drew.step hB); clear hB
      go_wp2_with fail
      refine hK.out _ _ (QF.out _ SUE.out.1) (fun hHeld => ?_)
      clear hK K
      try simp only [Act.put, List.setIfInBounds_toArray, List.set_cons_zero, List.set_cons_succ]
      refine takeD 14 (some 74) (.agg #[.int .i64 (t0 : Int), .int .i64 253, .int .i64 (l0 : Int), .int .i64 (g0 : Int), .int .i64 (u : Int), .int .i64 (b : Int), .int .i64 (tg : Int), .string F]) rfl rfl (by kernel_rfl) (by kernel_rfl) (by kernel_rfl) (fun _ _ _ h => h) (Or.inl ⟨by rfl, ?_⟩) (by assumption) ?_
      · intro w hSw; (try dsimp only at hSw); go_simp <;> (intros; omega)
      simp only [Act.put, List.setIfInBounds_toArray, List.set_cons_zero, List.set_cons_succ]
      refine wpAnyH_ready (rs := [16]) (by kernel_rfl) (by simp) ?_
      refine AllReadyH.cons rfl (fun K hK => ?_) AllReadyH.nil
      have b0 := SUE.out.2.1.cell (j := 0) rfl
      have b1 := SUE.out.2.1.cell (j := 1) rfl
      have b2 := SUE.out.2.1.cell (j := 2) rfl
      have b3 := SUE.out.2.1.cell (j := 3) rfl
      have b4 := SUE.out.2.1.cell (j := 4) rfl
      have b5 := SUE.out.2.1.cell (j := 5) rfl
      have b6 := SUE.out.2.1.cell (j := 6) rfl
      have b7 := SUE.out.2.1.cell (j := 7) rfl
      have fr0 := SUE.out.2.1.free 0
      have fr1 := SUE.out.2.1.free 1
      have fr2 := SUE.out.2.1.free 2
      have fr3 := SUE.out.2.1.free 3
      have fr4 := SUE.out.2.1.free 4
      have fr5 := SUE.out.2.1.free 5
      have fr6 := SUE.out.2.1.free 6
      have fr7 := SUE.out.2.1.free 7
      go_simp
      have SUF := hide' ((((((((SUE.out.put HAT.out 0 (.int .i64 (t0 : Int))).put HAT.out 1 (.int .i64 253)).put HAT.out 2 (.int .i64 (l0 : Int))).put HAT.out 3 (.int .i64 (g0 : Int))).put HAT.out 4 (.int .i64 (u : Int))).put HAT.out 5 (.int .i64 (b : Int))).put HAT.out 6 (.int .i64 (tg : Int))).put HAT.out 7 (.string F))
      refine hK.out _ _ (by first | exact QF.out _ SUF.out.1 | exact QF.out _ SUF.out.drew.1) (fun hHeld => ?_)
      clear hK K
      try simp only [Act.put, List.setIfInBounds_toArray, List.set_cons_zero, List.set_cons_succ]
      refine wpAnyH_done (by kernel_rfl) ?_ _
      go_wp2_with fail
      refine HKK.out _ _ ?_
      first | exact sign_tail f m e s n L _ cap b u w _ R Q xo xd xc t0 g0 l0 tg PV NV F T S0 (nB PV 4) HAT SUF HTX HNU HPW HST HSB HAD.out _ _ _ _ _ _ _ _ _ _ _ _ _ _ _ _ _ _ _ _ _ _ _ _ _ _ _ _ _ _ _ _ _ _ _ _ _ _ _ _ _ _ _ _ _ _ _ _ _ _ _ _ _ _ _ _ _ _ _ _ _ _ _ _ _ _ _ _ _ _ _ _ _ _ _ _ _ _ _ _ _ _ _ _ _ _ | exact sign_tail f m e s n L _ cap b u w _ R Q xo xd xc t0 g0 l0 tg PV NV F T S0 (nB PV 4) HAT (hide' SUF.out.drew) HTX HNU HPW HST HSB HAD.out _ _ _ _ _ _ _ _ _ _ _ _ _ _ _ _ _ _ _ _ _ _ _ _ _ _ _ _ _ _ _ _ _ _ _ _ _ _ _ _ _ _ _ _ _ _ _ _ _ _ _ _ _ _ _ _ _ _ _ _ _ _ _ _ _ _ _ _ _ _ _ _ _ _ _ _ _ _ _ _ _ _ _ _ _ _
  · go_simp
    obtain ⟨Wz, hWz⟩ : ∃ Wz, World.alloc W6 (.cells #[.int .i64 0, .int .i64 0, .int .i64 0, .int .i64 0, .int .i64 0, .int .i64 0, .int .i64 0, .string ⟨#[]⟩] 53) = Wz := ⟨_, rfl⟩
    obtain ⟨Q, hQ⟩ : ∃ Q, (World.heap W6).size = Q := ⟨_, rfl⟩
    have SUA : Hid (Su w Wz R Q f m e s (some ⟨g, off, none⟩) L #[.string xo, .int .i64 (t0 : Int), .int .i64 xc, .int .i64 (g0 : Int), .string xd] #[.int .i64 0, .int .i64 0, .int .i64 0, .int .i64 0, .int .i64 0, .int .i64 0, .int .i64 0, .string ⟨#[]⟩]) := by rw [← hWz, ← hQ]; exact Su.start SVA.out _
    simp only [hWz, hQ]
    clear hWz hQ
    refine hK.out _ _ (by first | exact QF.out _ SUA.out.1 | exact QF.out _ SUA.out.drew.1) (fun hHeld => ?_)
    clear hK K
    try simp only [Act.put, List.setIfInBounds_toArray, List.set_cons_zero, List.set_cons_succ]
    refine wpAnyH_ready (rs := [4]) (by kernel_rfl) (by simp) ?_
    refine AllReadyH.cons rfl (fun K hK => ?_) AllReadyH.nil
    go_simp
    go_at_call 25; refine (HLB.out _).mono ?_; rintro r vB ⟨rfl, hB⟩; have SUB := hide' (show Su w vB R Q f m e s (some ⟨g, off, none⟩) L #[.string xo, .int .i64 (t0 : Int), .int .i64 xc, .int .i64 (g0 : Int), .string xd] #[.int .i64 0, .int .i64 0, .int .i64 0, .int .i64 0, .int .i64 0, .int .i64 0, .int .i64 0, .string ⟨#[]⟩] by first | exact SUA.out.step hB | exact SUA.out.drew.step hB); clear hB
    go_wp2_with fail
    refine hK.out _ _ (QF.out _ SUB.out.1) (fun hHeld => ?_)
    clear hK K
    try simp only [Act.put, List.setIfInBounds_toArray, List.set_cons_zero, List.set_cons_succ]
    refine wpAnyH_ready (rs := [10]) (by kernel_rfl) (by simp) ?_
    refine AllReadyH.cons rfl (fun K hK => ?_) AllReadyH.nil
    go_simp
    go_at_call 15; refine (HPU.out _).mono ?_; rintro r vC ⟨rfl, hB⟩; have SUC := hide' (show Su w vC R Q f m e s (some ⟨g, off, none⟩) L #[.string xo, .int .i64 (t0 : Int), .int .i64 xc, .int .i64 (g0 : Int), .string xd] #[.int .i64 0, .int .i64 0, .int .i64 0, .int .i64 0, .int .i64 0, .int .i64 0, .int .i64 0, .string ⟨#[]⟩] by first | exact SUB.out.step hB | exact SUB.out.drew.step hB); clear hB
    go_wp2_with fail
    refine hK.out _ _ (QF.out _ SUC.out.1) (fun hHeld => ?_)
    clear hK K
    try simp only [Act.put, List.setIfInBounds_toArray, List.set_cons_zero, List.set_cons_succ]
    refine wpAnyH_ready (rs := [11]) (by kernel_rfl) (by simp) ?_
    refine AllReadyH.cons rfl (fun K hK => ?_) AllReadyH.nil
    go_simp
    go_at_call 26; refine (HTG.out _).mono ?_; rintro r vD ⟨rfl, hw9⟩; have SUD := hide' (show Su w vD R Q f m e s (some ⟨g, off, none⟩) L #[.string xo, .int .i64 (t0 : Int), .int .i64 xc, .int .i64 (g0 : Int), .string xd] #[.int .i64 0, .int .i64 0, .int .i64 0, .int .i64 0, .int .i64 0, .int .i64 0, .int .i64 0, .string ⟨#[]⟩] by first | (rw [hw9]; exact SUC.out) | (rw [hw9]; exact SUC.out.drew)); clear hw9
    go_wp2_with fail
    refine hK.out _ _ (QF.out _ SUD.out.1) (fun hHeld => ?_)
    clear hK K
    try simp only [Act.put, List.setIfInBounds_toArray, List.set_cons_zero, List.set_cons_succ]
    refine wpAnyH_ready (rs := [13]) (by kernel_rfl) (by simp) ?_
    refine AllReadyH.cons rfl (fun K hK => ?_) AllReadyH.nil
    go_simp
    go_at_call 27; refine (HFO.out _).mono ?_; rintro r vE ⟨rfl, hB⟩; have SUE := hide' (show Su w vE R Q f m e s (some ⟨g, off, none⟩) L #[.string xo, .int .i64 (t0 : Int), .int .i64 xc, .int .i64 (g0 : Int), .string xd] #[.int .i64 0, .int .i64 0, .int .i64 0, .int .i64 0, .int .i64 0, .int .i64 0, .int .i64 0, .string ⟨#[]⟩] by first | exact SUD.out.step hB | exact SUD.out.drew.step hB); clear hB
    go_wp2_with fail
    refine hK.out _ _ (QF.out _ SUE.out.1) (fun hHeld => ?_)
    clear hK K
    try simp only [Act.put, List.setIfInBounds_toArray, List.set_cons_zero, List.set_cons_succ]
    refine takeD 14 (some 74) (.agg #[.int .i64 (t0 : Int), .int .i64 253, .int .i64 (l0 : Int), .int .i64 (g0 : Int), .int .i64 (u : Int), .int .i64 (b : Int), .int .i64 (tg : Int), .string F]) rfl rfl (by kernel_rfl) (by kernel_rfl) (by kernel_rfl) (fun _ _ _ h => h) (Or.inl ⟨by rfl, ?_⟩) (by assumption) ?_
    · intro w hSw; (try dsimp only at hSw); go_simp <;> (intros; omega)
    simp only [Act.put, List.setIfInBounds_toArray, List.set_cons_zero, List.set_cons_succ]
    refine wpAnyH_ready (rs := [16]) (by kernel_rfl) (by simp) ?_
    refine AllReadyH.cons rfl (fun K hK => ?_) AllReadyH.nil
    have b0 := SUE.out.2.1.cell (j := 0) rfl
    have b1 := SUE.out.2.1.cell (j := 1) rfl
    have b2 := SUE.out.2.1.cell (j := 2) rfl
    have b3 := SUE.out.2.1.cell (j := 3) rfl
    have b4 := SUE.out.2.1.cell (j := 4) rfl
    have b5 := SUE.out.2.1.cell (j := 5) rfl
    have b6 := SUE.out.2.1.cell (j := 6) rfl
    have b7 := SUE.out.2.1.cell (j := 7) rfl
    have fr0 := SUE.out.2.1.free 0
    have fr1 := SUE.out.2.1.free 1
    have fr2 := SUE.out.2.1.free 2
    have fr3 := SUE.out.2.1.free 3
    have fr4 := SUE.out.2.1.free 4
    have fr5 := SUE.out.2.1.free 5
    have fr6 := SUE.out.2.1.free 6
    have fr7 := SUE.out.2.1.free 7
    go_simp
    have SUF := hide' ((((((((SUE.out.put HAT.out 0 (.int .i64 (t0 : Int))).put HAT.out 1 (.int .i64 253)).put HAT.out 2 (.int .i64 (l0 : Int))).put HAT.out 3 (.int .i64 (g0 : Int))).put HAT.out 4 (.int .i64 (u : Int))).put HAT.out 5 (.int .i64 (b : Int))).put HAT.out 6 (.int .i64 (tg : Int))).put HAT.out 7 (.string F))
    refine hK.out _ _ (by first | exact QF.out _ SUF.out.1 | exact QF.out _ SUF.out.drew.1) (fun hHeld => ?_)
    clear hK K
    try simp only [Act.put, List.setIfInBounds_toArray, List.set_cons_zero, List.set_cons_succ]
    refine wpAnyH_done (by kernel_rfl) ?_ _
    go_wp2_with fail
    refine HKK.out _ _ ?_
    first | exact sign_tail f m e s n L _ cap b u w _ R Q xo xd xc t0 g0 l0 tg PV NV F T S0 (nB PV 4) HAT SUF HTX HNU HPW HST HSB HAD.out _ _ _ _ _ _ _ _ _ _ _ _ _ _ _ _ _ _ _ _ _ _ _ _ _ _ _ _ _ _ _ _ _ _ _ _ _ _ _ _ _ _ _ _ _ _ _ _ _ _ _ _ _ _ _ _ _ _ _ _ _ _ _ _ _ _ _ _ _ _ _ _ _ _ _ _ _ _ _ _ _ _ _ _ _ _ | exact sign_tail f m e s n L _ cap b u w _ R Q xo xd xc t0 g0 l0 tg PV NV F T S0 (nB PV 4) HAT (hide' SUF.out.drew) HTX HNU HPW HST HSB HAD.out _ _ _ _ _ _ _ _ _ _ _ _ _ _ _ _ _ _ _ _ _ _ _ _ _ _ _ _ _ _ _ _ _ _ _ _ _ _ _ _ _ _ _ _ _ _ _ _ _ _ _ _ _ _ _ _ _ _ _ _ _ _ _ _ _ _ _ _ _ _ _ _ _ _ _ _ _ _ _ _ _ _ _ _ _ _
end Go.Proofs.YtennkhdhnbdbeaaGreat
