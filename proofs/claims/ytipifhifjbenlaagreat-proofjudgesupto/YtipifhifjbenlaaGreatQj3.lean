import Derived.Test.YtipifhifjbenlaaGreatQj0G
import Derived.Test.YtipifhifjbenlaaGreatQj1
/-
  Proofs: the reference's Judge over NSEC3. (The verifier's own text.)
-/
namespace Go.Proofs.YtipifhifjbenlaaGreat
set_option linter.unusedVariables false
set_option linter.unusedSimpArgs false
open Go.RowKit Go.Shelf Go.Maps Go.Proofs.YtipifhifjbenlaaGreat.Nm

theorem st_none {K : List Hq} {rd : Nat} {sl n : ByteArray} (h : ∀ j (hj : j < K.length), (K[j].ow.toList == (hshB rd sl n).toList) = false) : stF K rd sl n = none := by
  unfold stF
  rw [List.find?_eq_none]
  intro x hx
  obtain ⟨j, hj, rfl⟩ := List.getElem_of_mem hx
  rw [h j hj]
  decide
theorem st_at {K : List Hq} {rd : Nat} {sl n : ByteArray} {j : Nat} (hj : j < K.length) (hy : (K[j].ow.toList == (hshB rd sl n).toList) = true) (h : ∀ i (hi : i < K.length), i < j → (K[i].ow.toList == (hshB rd sl n).toList) = false) : stF K rd sl n = some K[j] := by
  unfold stF
  rw [List.find?_eq_some_iff_getElem]
  exact ⟨hy, j, hj, rfl, fun i hi => by rw [h i (by omega) hi]; rfl⟩
/-- what is said, by the encloser -/
def jhE (K : List Hq) (rd : Nat) (sl q : ByteArray) (t : Int) : Option (ByteArray × Hq) → Int
  | none => 0
  | some (e, x) => if (e.toList == q.toList) = true then jaB (some x) t else if awayT x.ts = true then 0 else match cvF K rd sl (tailB q (cntI e + 1)) with
    | none => 0
    | some _ => match cvF K rd sl (starB e) with
      | some _ => 1
      | none => jaB (stF K rd sl (starB e)) t
theorem jh_eq (K : List Hq) (rd : Nat) (sl q : ByteArray) (ca cq : Nat) (t : Int) : jhB K rd sl q ca cq t = jhE K rd sl q t (enF (stF K rd sl) q ca (cq + 1 - ca)) := by
  unfold jhB
  cases enF (stF K rd sl) q ca (cq + 1 - ca) with
  | none => rfl
  | some ex => obtain ⟨e, x⟩ := ex; rfl
set_option maxRecDepth 100000 in
set_option maxHeartbeats 16000000 in
/-- the reference's Judge, where there are NSEC3 alone -/
theorem rJudge_hash (apex : ByteArray) (L : List Rn) (p : Option Addr) (cap : Nat) (q : ByteArray) (t : Int) (w : World) (ha : apex.size ≤ 1048576) (hq : q.size ≤ 1048576) (hat : RsAt w p L) (hw : withinB q apex = true) (h1 : 1 ≤ t) (h2 : t ≤ 65535) (K : List Hq) (rd : Nat) (sl : ByteArray) (hNe : nqL apex L L.length = []) (hKe : uhL (hqL apex L L.length) = K) (hpos : 0 < K.length) (hKl : K.length ≤ 1048576) (hKW : KW rd sl K) (hKo : ∀ y ∈ K, HOk y ∧ y.nx.size ≤ 1048576)
    (HUS : Hid (∀ W, RsAt W p L → Calls Tryz.prog 14 #[.string apex, .slice p L.length cap] W fun e w' => UsEnd apex L w' e ∧ Below W.heap.size W w')) :
    Calls Tryz.prog 6 #[.string apex, .slice p L.length cap, .string q, .int .i64 t] w fun r w' => r = .returned (.int .i64 (jhB K rd sl q (labs apex).length (labs q).length t)) ∧ Below w.heap.size w w' := by
  have h1' : ¬ t < 1 := by omega
  have h2' : ¬ 65535 < t := by omega
  obtain ⟨hqN, haN, hcl, -⟩ := (withinB_iff q apex).1 hw
  have HW := hide' (fun W => refWithin_any q apex W hq ha)
  rw [hw] at HW
  have HAT := hide' hat
  have HUN : Hid (∀ W, RsAt W p L → Calls Tryz.prog 14 #[.string apex, .slice p L.length cap] W fun e w' => (∃ pm cm M, e = .returned (.slice pm M.length cm) ∧ Gz w' pm M ∧ RelH M K) ∧ Below W.heap.size W w') := fun W h => by
    refine (HUS.out W h).mono ?_
    rintro e w' ⟨⟨pm, cm, M, rfl, g1, g2, g3⟩, hB⟩
    rw [hNe, hKe] at g3
    rcases g3 with ⟨g4, _⟩ | ⟨_, g3⟩
    · simp at g4
    · exact ⟨⟨pm, cm, M, rfl, ⟨g1, g2⟩, g3⟩, hB⟩
  have hql := labs_len_le hqN
  have HCQ := hide' (fun W => refCount_any q W hq)
  have HCA := hide' (fun W => refCount_any apex W ha)
  rw [cntI_yes hqN] at HCQ
  rw [cntI_yes haN] at HCA
  have HTF : Hid (∀ k : Nat, k ≤ (labs q).length → ((tailB q (k : Nat)).toList == q.toList) = decide (k = (labs q).length) ∧ isN (tailB q (k : Nat)) = true ∧ cntI (tailB q (k : Nat)) = (k : Int)) := fun k hk => ⟨tail_is hqN hk, (tailB_yes hqN hk).1, tail_cnt hqN hk⟩
  have HBN : Hid (∀ k : Nat, k < (labs q).length → isN (tailB q ((k : Int) + 1)) = true ∧ isN (starB (tailB q (k : Nat))) = true) := fun k hk => by
    have := below_names hqN hk
    exact ⟨by have h9 := this.1; rw [show (((k + 1 : Nat)) : Int) = (k : Int) + 1 by omega] at h9; exact h9, this.2⟩
  obtain ⟨cq, hcq⟩ : ∃ c, (labs q).length = c := ⟨_, rfl⟩
  obtain ⟨ca, hca⟩ : ∃ c, (labs apex).length = c := ⟨_, rfl⟩
  rw [hcq] at HCQ HTF HBN hql hcl ⊢
  rw [hca] at HCA hcl ⊢
  obtain ⟨EN, hEN⟩ : ∃ E, enF (stF K rd sl) q ca (cq + 1 - ca) = E := ⟨_, rfl⟩
  have HJB : Hid (jhB K rd sl q ca cq t = jhE K rd sl q t EN) := by rw [← hEN]; exact jh_eq K rd sl q ca cq t
  have HEN := hide' hEN
  obtain ⟨JV, hJV⟩ : ∃ J, jhB K rd sl q ca cq t = J := ⟨_, rfl⟩
  rw [hJV] at HJB ⊢
  clear HUS hat hw h1 h2 hNe hKe hcq hca hEN hJV hqN haN
  go_enter Tryz.func6, Tryz.ntmps6
  go_upto_region 4 with (first
    | (go_at_call 13; refine (HW.out _).mono ?_; rintro r w1 ⟨rfl, hB1⟩; have HB1 := hide' hB1; have HA1 := hide' (rsAt_below7 HAT.out hB1); clear hB1)
    | (go_at_call 14; refine (HUN.out _ HA1.out).mono ?_; rintro r w2 ⟨⟨pm, cm, M, rfl, hgz, hrel⟩, hB2⟩; have GJ2 : Hid (Gj w w2 pm M) := ⟨bstep HB1.out hB2 HB1.out.size, hgz⟩; have HREL := hide' hrel; clear hB2 hgz hrel))
  rename_i KK hKK
  have HKK := hide' hKK
  clear hKK HUN HAT HA1 HB1 HW
  have hMN : M.length = K.length := HREL.out.len
  have hMi : ¬ (M.length : Int) = 0 := by omega
  have hMb : ((M.length : Int) == 0) = false := by rw [beq_eq_false_iff_ne]; exact hMi
  have hMp : (0 : Int) < (M.length : Int) := by omega
  have hMl : M.length ≤ 1048576 := by omega
  have HMOK := hide' (relH_ok HREL.out hKo)
  have HSP := hide' (fun (n : ByteArray) (hn : n.size ≤ 1048576) (hN : isN n = true) (W : World) (h : Gz W pm M) => (show Calls Tryz.prog 24 #[.slice pm M.length cm, .string n] W fun r w' => r = .returned (.bool (cvF K rd sl n).isSome) ∧ Below W.heap.size W w' by
    have h9 := spanned_any M pm cm n W hMl HMOK.out hn h
    rw [relH_spanned HREL.out hKW hN] at h9
    exact h9))
  have HMA : Hid (∀ (k : Nat) (h1 : k < M.length) (h2 : k < K.length) (n : ByteArray), isN n = true → gmX n M[k] = (K[k].ow.toList == (hshB rd sl n).toList)) := fun k h1 h2 n hn => by
    have h9 := hKW _ (List.getElem_mem h2)
    exact hk_match (HREL.out.get k h1 h2) h9.1 h9.2.1 hn
  obtain ⟨g0, off0, hpm, E0⟩ := GJ2.out.2.at (k := 0) (by omega)
  have hb0 : M[0].hb = true := (HREL.out.get 0 (by omega) (by omega)).1
  rw [hb0, Nat.zero_mul, Nat.add_zero] at E0
  obtain ⟨-, -, -, -, -, m5, -⟩ := E0
  subst hpm
  have HMN := hide' hMN
  clear hb0 hMN
  go_wp2_with fail
  refine HKK.out _ _ ?_
  clear HKK KK
  go_wp2_with (first
    | (go_at_call 18; (with_reducible refine (HCQ.out _).mono ?_); rintro r w3 ⟨rfl, hB⟩; have GJ3 := hide' (GJ2.out.step hB); clear hB m5))
  go_loopw [15] (fun iv wr => ∃ m : Nat, iv = .int .i64 (((ca + m : Nat) : Int) - 1) ∧ ca + m ≤ cq + 1 ∧ Hid (EN = enF (stF K rd sl) q ca m) ∧ Hid (Gj w wr (some ⟨g0, off0, none⟩) M)) (fun iv _ => (intOf iv + 1).toNat)
  case atStart => exact ⟨cq + 1 - ca, by congr 1; omega, by omega, HEN.out.symm, GJ3.out⟩
  case round =>
    obtain ⟨m, rfl, hm, HE, GJ⟩ := hrel
    clear GJ2 GJ3
    cases m with
    | zero =>
      have hlt : ¬ (((ca + 0 : Nat) : Int) - 1) ≥ (ca : Int) := by omega
      have HJ0 : Hid (JV = 0) := by have e9 : EN = none := HE.out; unfold Hid; rw [HJB.out, e9]; rfl
      clear HE
      go_wp2_with (first
        | (go_at_call 18; (with_reducible refine (HCA.out _).mono ?_); rintro r w4 ⟨rfl, hB⟩; have GJ4 := hide' (GJ.out.step hB); clear hB))
      go_ret
      exact ⟨by rw [HJ0.out]; rfl, GJ4.out.1⟩
    | succ m =>
      obtain ⟨k, hkm⟩ : ∃ k, ca + m = k := ⟨_, rfl⟩
      have hcv : (((ca + (m + 1) : Nat) : Int) - 1) = (k : Int) := by omega
      rw [hcv]
      have hge : (k : Int) ≥ (ca : Int) := by omega
      have hkq : k ≤ cq := by omega
      obtain ⟨tf1, tf2, tf3⟩ := HTF.out k hkq
      have HTL := hide' (fun W => refTail_any q ((k : Nat) : Int) W hq)
      have HE1 : Hid (EN = match stF K rd sl (tailB q ((k : Nat) : Int)) with | some x => some (tailB q ((k : Nat) : Int), x) | none => enF (stF K rd sl) q ca m) := by unfold Hid; rw [HE.out, ← hkm]; rfl
      have hez := tailB_size q ((k : Nat) : Int)
      have HBK : Hid (k < cq → isN (tailB q ((k : Int) + 1)) = true ∧ isN (starB (tailB q (k : Nat))) = true) := HBN.out k
      obtain ⟨e, he⟩ : ∃ e, tailB q ((k : Nat) : Int) = e := ⟨_, rfl⟩
      rw [he] at tf1 tf2 tf3 HTL HE1 hez HBK
      clear he HE hcv
      go_wp2_with (first
        | (go_at_call 18; (with_reducible refine (HCA.out _).mono ?_); rintro r w4 ⟨rfl, hB⟩; have GJ4 := hide' (GJ.out.step hB); clear hB)
        | (go_at_call 20; (with_reducible refine (HTL.out _).mono ?_); rintro r w5 ⟨rfl, hB⟩; have GJ5 := hide' (GJ4.out.step hB); clear hB))
      go_loopw [114] (fun jv wr => ∃ j : Nat, jv = .int .i64 (j : Int) ∧ j ≤ M.length ∧ Hid (∀ i (hi : i < K.length), i < j → (K[i].ow.toList == (hshB rd sl e).toList) = false) ∧ Hid (Gj w wr (some ⟨g0, off0, none⟩) M)) (fun jv _ => M.length - (intOf jv).toNat)
      case atStart => exact ⟨0, rfl, Nat.zero_le _, (fun i _ h => absurd h (Nat.not_lt_zero _)), GJ5.out⟩
      case round =>
        obtain ⟨j, rfl, hj, HNJ, GJ⟩ := hrel
        clear GJ4 GJ5 HCA HTL
        by_cases hjt : j < M.length
        · have hji : (j : Int) < (M.length : Int) := by omega
          have hjK : j < K.length := by rw [← HMN.out]; exact hjt
          obtain ⟨g, off, hgg, e0, e1, e2, e3, e4, e5, e6, e7, e8, e9, e10⟩ := GJ.out.2.at hjt
          injection hgg with hgg
          injection hgg with hgg1 hgg2
          subst hgg1
          subst hgg2
          have hx := HMOK.out _ (List.getElem_mem hjt)
          have HNU : Hid (∀ V p', Gz V p' M → NumsAt V M[j].p M[j].ty) := fun V p' h => h.2 _ (List.getElem_mem hjt)
          have hhg := HREL.out.get j hjt hjK
          have hma := HMA.out j hjt hjK e tf2
          have HNX : Hid ((K[j].ow.toList == (hshB rd sl e).toList) = false → ∀ i (hi : i < K.length), i < j + 1 → (K[i].ow.toList == (hshB rd sl e).toList) = false) := fun h i hi hij => by
            rcases Nat.lt_or_ge i j with h' | h'
            · exact HNJ.out i hi h'
            · obtain rfl : i = j := by omega
              exact h
          have HS1 : Hid ((K[j].ow.toList == (hshB rd sl e).toList) = true → stF K rd sl e = some K[j]) := fun h => st_at hjK h HNJ.out
          obtain ⟨x, hxe⟩ : ∃ x, M[j] = x := ⟨_, rfl⟩
          obtain ⟨y, hye⟩ : ∃ y, K[j] = y := ⟨_, rfl⟩
          rw [hxe] at e0 e1 e2 e3 e4 e5 e6 e7 e8 e9 e10 hx HNU hhg hma
          rw [hye] at hhg HNX HS1 hma
          clear hxe hye HNJ
          have G0 := hide' (Gl.start x GJ.out.1 GJ.out.2)
          obtain ⟨W1, hW1⟩ : ∃ W1, wr.alloc (.cells #[.string x.o, .int .i64 x.t, .int .i64 x.c, .int .i64 x.l, .string x.d, .bool x.hb, .string x.nx, .string x.ow, .string x.sl, .int .i64 (x.rd : Int), .slice x.p x.ty.length x.ca] 43) = W1 := ⟨_, rfl⟩
          rw [hW1] at G0
          obtain ⟨d0, d1, d2, d3, d4, d5, d6, d7, d8, d9, d10⟩ := G0.out.cells
          have HD := hide' (fun (W : World) (h : NumsAt W x.p x.ty) => gMatches x e W hx (by omega) h)
          rw [hma] at HD
          have HL := hide' (fun (W : World) (h : NumsAt W x.p x.ty) => gLacks x t W hx h)
          rw [hg_lack hhg] at HL
          have HA := hide' (fun (W : World) (h : NumsAt W x.p x.ty) => gAway x W hx h)
          rw [hg_away hhg] at HA
          cases hmt : (y.ow.toList == (hshB rd sl e).toList) with
          | false =>
            have HY := hide' (HNX.out hmt)
            rw [hmt] at HD
            clear hmt HNX HS1 hma
            go_wp2_with (first
              | (go_at_call 21; refine (HD.out _ (HNU.out _ _ G0.out.2.2)).mono ?_; rintro r wv ⟨rfl, hB⟩; have GG := hide' (G0.out.step hB); clear hB d0 d1 d2 d3 d4 d5 d6 d7 d8 d9 d10; obtain ⟨d0, d1, d2, d3, d4, d5, d6, d7, d8, d9, d10⟩ := GG.out.cells))
            exact ⟨⟨j + 1, by go_num, by omega, HY.out, GG.out.gj⟩, by simp [intOf]; omega⟩
          | true =>
            have hst := HS1.out hmt
            have HJ1 : JV = if (e.toList == q.toList) = true then jaB (some y) t else if awayT y.ts = true then 0 else match cvF K rd sl (tailB q (cntI e + 1)) with | none => 0 | some _ => match cvF K rd sl (starB e) with | some _ => 1 | none => jaB (stF K rd sl (starB e)) t := by rw [HJB.out, HE1.out, hst]; rfl
            rw [tf1, tf3] at HJ1
            rw [hmt] at HD
            clear hmt HNX HS1 hma hst
            by_cases hkc : k = cq
            · have hkb : ((k : Int) == (cq : Int)) = true := by rw [beq_iff_eq]; omega
              rw [decide_eq_true hkc, if_pos rfl] at HJ1
              have Hkc := hide' hkc
              clear hkc
              cases hdt : denT y.ts t with
              | true =>
                have HJ : Hid (JV = 2) := by unfold Hid; rw [HJ1]; unfold jaB; dsimp only; rw [if_pos hdt]
                rw [hdt] at HL
                clear hdt HJ1
                go_wp2_with (first
                  | (go_at_call 21; refine (HD.out _ (HNU.out _ _ G0.out.2.2)).mono ?_; rintro r wv ⟨rfl, hB⟩; have GG := hide' (G0.out.step hB); clear hB d0 d1 d2 d3 d4 d5 d6 d7 d8 d9 d10; obtain ⟨d0, d1, d2, d3, d4, d5, d6, d7, d8, d9, d10⟩ := GG.out.cells)
                  | (go_at_call 18; (with_reducible refine (HCQ.out _).mono ?_); rintro r wv ⟨rfl, hB⟩; have GG := hide' (GG.out.step hB); clear hB d0 d1 d2 d3 d4 d5 d6 d7 d8 d9 d10; obtain ⟨d0, d1, d2, d3, d4, d5, d6, d7, d8, d9, d10⟩ := GG.out.cells)
                  | (go_at_call 22; refine (HL.out _ (HNU.out _ _ GG.out.2.2)).mono ?_; rintro r wv ⟨rfl, hB⟩; have GG := hide' (GG.out.step hB); clear hB d0 d1 d2 d3 d4 d5 d6 d7 d8 d9 d10))
                go_ret
                exact ⟨by rw [HJ.out]; rfl, GG.out.2.1⟩
              | false =>
                have HJ : Hid (JV = 0) := by unfold Hid; rw [HJ1]; unfold jaB; dsimp only; rw [if_neg (by rw [hdt]; decide)]
                rw [hdt] at HL
                clear hdt HJ1
                go_wp2_with (first
                  | (go_at_call 21; refine (HD.out _ (HNU.out _ _ G0.out.2.2)).mono ?_; rintro r wv ⟨rfl, hB⟩; have GG := hide' (G0.out.step hB); clear hB d0 d1 d2 d3 d4 d5 d6 d7 d8 d9 d10; obtain ⟨d0, d1, d2, d3, d4, d5, d6, d7, d8, d9, d10⟩ := GG.out.cells)
                  | (go_at_call 18; (with_reducible refine (HCQ.out _).mono ?_); rintro r wv ⟨rfl, hB⟩; have GG := hide' (GG.out.step hB); clear hB d0 d1 d2 d3 d4 d5 d6 d7 d8 d9 d10; obtain ⟨d0, d1, d2, d3, d4, d5, d6, d7, d8, d9, d10⟩ := GG.out.cells)
                  | (go_at_call 22; refine (HL.out _ (HNU.out _ _ GG.out.2.2)).mono ?_; rintro r wv ⟨rfl, hB⟩; have GG := hide' (GG.out.step hB); clear hB d0 d1 d2 d3 d4 d5 d6 d7 d8 d9 d10))
                go_ret
                exact ⟨by rw [HJ.out]; rfl, GG.out.2.1⟩
            · have hkb : ((k : Int) == (cq : Int)) = false := by rw [beq_eq_false_iff_ne]; omega
              obtain ⟨bn1, bn2⟩ := HBK.out (by omega)
              rw [decide_eq_false hkc, if_neg (by decide)] at HJ1
              have Hkc := hide' hkc
              clear hkc
              cases haw : awayT y.ts with
              | true =>
                rw [haw, if_pos rfl] at HJ1
                have HJ := hide' HJ1
                rw [haw] at HA
                clear haw HJ1
                go_wp2_with (first
                  | (go_at_call 21; refine (HD.out _ (HNU.out _ _ G0.out.2.2)).mono ?_; rintro r wv ⟨rfl, hB⟩; have GG := hide' (G0.out.step hB); clear hB d0 d1 d2 d3 d4 d5 d6 d7 d8 d9 d10; obtain ⟨d0, d1, d2, d3, d4, d5, d6, d7, d8, d9, d10⟩ := GG.out.cells)
                  | (go_at_call 18; (with_reducible refine (HCQ.out _).mono ?_); rintro r wv ⟨rfl, hB⟩; have GG := hide' (GG.out.step hB); clear hB d0 d1 d2 d3 d4 d5 d6 d7 d8 d9 d10; obtain ⟨d0, d1, d2, d3, d4, d5, d6, d7, d8, d9, d10⟩ := GG.out.cells)
                  | (go_at_call 23; refine (HA.out _ (HNU.out _ _ GG.out.2.2)).mono ?_; rintro r wv ⟨rfl, hB⟩; have GG := hide' (GG.out.step hB); clear hB d0 d1 d2 d3 d4 d5 d6 d7 d8 d9 d10; obtain ⟨d0, d1, d2, d3, d4, d5, d6, d7, d8, d9, d10⟩ := GG.out.cells))
                go_ret
                exact ⟨by rw [HJ.out]; rfl, GG.out.2.1⟩
              | false =>
                rw [haw, if_neg (by decide)] at HJ1
                rw [haw] at HA
                clear haw
                have HT1 := hide' (fun W => refTail_any q ((k : Int) + 1) W hq)
                have hbz := tailB_size q ((k : Int) + 1)
                have HSP1 := hide' (HSP.out (tailB q ((k : Int) + 1)) (by omega) bn1)
                obtain ⟨b1, hb1⟩ : ∃ b, tailB q ((k : Int) + 1) = b := ⟨_, rfl⟩
                rw [hb1] at HT1 HSP1 HJ1
                clear hb1 bn1 hbz
                cases hc1 : cvF K rd sl b1 with
                | none =>
                  rw [hc1] at HJ1 HSP1
                  rw [show (none : Option Hq).isSome = false from rfl] at HSP1
                  have HJ : Hid (JV = 0) := HJ1
                  clear hc1 HJ1
                  go_wp2_with (first
                    | (go_at_call 21; refine (HD.out _ (HNU.out _ _ G0.out.2.2)).mono ?_; rintro r wv ⟨rfl, hB⟩; have GG := hide' (G0.out.step hB); clear hB d0 d1 d2 d3 d4 d5 d6 d7 d8 d9 d10; obtain ⟨d0, d1, d2, d3, d4, d5, d6, d7, d8, d9, d10⟩ := GG.out.cells)
                    | (go_at_call 18; (with_reducible refine (HCQ.out _).mono ?_); rintro r wv ⟨rfl, hB⟩; have GG := hide' (GG.out.step hB); clear hB d0 d1 d2 d3 d4 d5 d6 d7 d8 d9 d10; obtain ⟨d0, d1, d2, d3, d4, d5, d6, d7, d8, d9, d10⟩ := GG.out.cells)
                    | (go_at_call 23; refine (HA.out _ (HNU.out _ _ GG.out.2.2)).mono ?_; rintro r wv ⟨rfl, hB⟩; have GG := hide' (GG.out.step hB); clear hB d0 d1 d2 d3 d4 d5 d6 d7 d8 d9 d10; obtain ⟨d0, d1, d2, d3, d4, d5, d6, d7, d8, d9, d10⟩ := GG.out.cells)
                    | (go_at_call 20; (with_reducible refine (HT1.out _).mono ?_); rintro r wv ⟨rfl, hB⟩; have GG := hide' (GG.out.step hB); clear hB d0 d1 d2 d3 d4 d5 d6 d7 d8 d9 d10; obtain ⟨d0, d1, d2, d3, d4, d5, d6, d7, d8, d9, d10⟩ := GG.out.cells)
                    | (go_at_call 24; have hgz := GG.out.2.2; (with_reducible refine (HSP1.out _ hgz).mono ?_); rintro r wv ⟨rfl, hB⟩; have GG := hide' (GG.out.step hB); clear hB hgz d0 d1 d2 d3 d4 d5 d6 d7 d8 d9 d10; obtain ⟨d0, d1, d2, d3, d4, d5, d6, d7, d8, d9, d10⟩ := GG.out.cells))
                  go_ret
                  exact ⟨by rw [HJ.out]; rfl, GG.out.2.1⟩
                | some y1 =>
                  rw [hc1] at HJ1 HSP1
                  rw [show (some y1 : Option Hq).isSome = true from rfl] at HSP1
                  have HSTR := hide' (fun W => refStar_any e W (by omega))
                  have hstz : (starB e).size ≤ 1048576 := by have := starJ_size e; omega
                  have HSP2 := hide' (HSP.out (starB e) hstz bn2)
                  obtain ⟨st, hst⟩ : ∃ st, starB e = st := ⟨_, rfl⟩
                  rw [hst] at HSTR HSP2 hstz bn2 HJ1
                  clear hst hc1
                  cases hc2 : cvF K rd sl st with
                  | some y2 =>
                    rw [hc2] at HJ1 HSP2
                    rw [show (some y2 : Option Hq).isSome = true from rfl] at HSP2
                    have HJ : Hid (JV = 1) := HJ1
                    clear hc2 HJ1
                    go_wp2_with (first
                      | (go_at_call 21; refine (HD.out _ (HNU.out _ _ G0.out.2.2)).mono ?_; rintro r wv ⟨rfl, hB⟩; have GG := hide' (G0.out.step hB); clear hB d0 d1 d2 d3 d4 d5 d6 d7 d8 d9 d10; obtain ⟨d0, d1, d2, d3, d4, d5, d6, d7, d8, d9, d10⟩ := GG.out.cells)
                      | (go_at_call 18; (with_reducible refine (HCQ.out _).mono ?_); rintro r wv ⟨rfl, hB⟩; have GG := hide' (GG.out.step hB); clear hB d0 d1 d2 d3 d4 d5 d6 d7 d8 d9 d10; obtain ⟨d0, d1, d2, d3, d4, d5, d6, d7, d8, d9, d10⟩ := GG.out.cells)
                      | (go_at_call 23; refine (HA.out _ (HNU.out _ _ GG.out.2.2)).mono ?_; rintro r wv ⟨rfl, hB⟩; have GG := hide' (GG.out.step hB); clear hB d0 d1 d2 d3 d4 d5 d6 d7 d8 d9 d10; obtain ⟨d0, d1, d2, d3, d4, d5, d6, d7, d8, d9, d10⟩ := GG.out.cells)
                      | (go_at_call 20; (with_reducible refine (HT1.out _).mono ?_); rintro r wv ⟨rfl, hB⟩; have GG := hide' (GG.out.step hB); clear hB d0 d1 d2 d3 d4 d5 d6 d7 d8 d9 d10; obtain ⟨d0, d1, d2, d3, d4, d5, d6, d7, d8, d9, d10⟩ := GG.out.cells)
                      | (go_at_call 24; have hgz := GG.out.2.2; (with_reducible refine (HSP1.out _ hgz).mono ?_); rintro r wv ⟨rfl, hB⟩; have GG := hide' (GG.out.step hB); clear hB hgz d0 d1 d2 d3 d4 d5 d6 d7 d8 d9 d10; obtain ⟨d0, d1, d2, d3, d4, d5, d6, d7, d8, d9, d10⟩ := GG.out.cells)
                      | (go_at_call 19; (with_reducible refine (HSTR.out _).mono ?_); rintro r wv ⟨rfl, hB⟩; have GG := hide' (GG.out.step hB); clear hB d0 d1 d2 d3 d4 d5 d6 d7 d8 d9 d10; obtain ⟨d0, d1, d2, d3, d4, d5, d6, d7, d8, d9, d10⟩ := GG.out.cells)
                      | (go_at_call 24; have hgz := GG.out.2.2; (with_reducible refine (HSP2.out _ hgz).mono ?_); rintro r wv ⟨rfl, hB⟩; have GG := hide' (GG.out.step hB); clear hB hgz d0 d1 d2 d3 d4 d5 d6 d7 d8 d9 d10; obtain ⟨d0, d1, d2, d3, d4, d5, d6, d7, d8, d9, d10⟩ := GG.out.cells))
                    go_ret
                    exact ⟨by rw [HJ.out]; rfl, GG.out.2.1⟩
                  | none =>
                    rw [hc2] at HJ1 HSP2
                    rw [show (none : Option Hq).isSome = false from rfl] at HSP2
                    have HJ2 : Hid (JV = jaB (stF K rd sl st) t) := HJ1
                    clear hc2 HJ1
                    go_wp2_with (first
                      | (go_at_call 21; refine (HD.out _ (HNU.out _ _ G0.out.2.2)).mono ?_; rintro r wv ⟨rfl, hB⟩; have GG := hide' (G0.out.step hB); clear hB d0 d1 d2 d3 d4 d5 d6 d7 d8 d9 d10; obtain ⟨d0, d1, d2, d3, d4, d5, d6, d7, d8, d9, d10⟩ := GG.out.cells)
                      | (go_at_call 18; (with_reducible refine (HCQ.out _).mono ?_); rintro r wv ⟨rfl, hB⟩; have GG := hide' (GG.out.step hB); clear hB d0 d1 d2 d3 d4 d5 d6 d7 d8 d9 d10; obtain ⟨d0, d1, d2, d3, d4, d5, d6, d7, d8, d9, d10⟩ := GG.out.cells)
                      | (go_at_call 23; refine (HA.out _ (HNU.out _ _ GG.out.2.2)).mono ?_; rintro r wv ⟨rfl, hB⟩; have GG := hide' (GG.out.step hB); clear hB d0 d1 d2 d3 d4 d5 d6 d7 d8 d9 d10; obtain ⟨d0, d1, d2, d3, d4, d5, d6, d7, d8, d9, d10⟩ := GG.out.cells)
                      | (go_at_call 20; (with_reducible refine (HT1.out _).mono ?_); rintro r wv ⟨rfl, hB⟩; have GG := hide' (GG.out.step hB); clear hB d0 d1 d2 d3 d4 d5 d6 d7 d8 d9 d10; obtain ⟨d0, d1, d2, d3, d4, d5, d6, d7, d8, d9, d10⟩ := GG.out.cells)
                      | (go_at_call 24; have hgz := GG.out.2.2; (with_reducible refine (HSP1.out _ hgz).mono ?_); rintro r wv ⟨rfl, hB⟩; have GG := hide' (GG.out.step hB); clear hB hgz d0 d1 d2 d3 d4 d5 d6 d7 d8 d9 d10; obtain ⟨d0, d1, d2, d3, d4, d5, d6, d7, d8, d9, d10⟩ := GG.out.cells)
                      | (go_at_call 19; (with_reducible refine (HSTR.out _).mono ?_); rintro r wv ⟨rfl, hB⟩; have GG := hide' (GG.out.step hB); clear hB d0 d1 d2 d3 d4 d5 d6 d7 d8 d9 d10; obtain ⟨d0, d1, d2, d3, d4, d5, d6, d7, d8, d9, d10⟩ := GG.out.cells)
                      | (go_at_call 24; have hgz := GG.out.2.2; (with_reducible refine (HSP2.out _ hgz).mono ?_); rintro r wv ⟨rfl, hB⟩; have GG := hide' (GG.out.step hB); clear hB hgz d0 d1 d2 d3 d4 d5 d6 d7 d8 d9 d10; obtain ⟨d0, d1, d2, d3, d4, d5, d6, d7, d8, d9, d10⟩ := GG.out.cells))
                    go_loopw [146] (fun iv wr => ∃ i : Nat, iv = .int .i64 (i : Int) ∧ i ≤ M.length ∧ Hid (∀ r (hr : r < K.length), r < i → (K[r].ow.toList == (hshB rd sl st).toList) = false) ∧ Hid (Gj w wr (some ⟨g0, off0, none⟩) M)) (fun iv _ => M.length - (intOf iv).toNat)
                    case atStart => exact ⟨0, rfl, Nat.zero_le _, (fun i _ h => absurd h (Nat.not_lt_zero _)), GG.out.gj⟩
                    case round =>
                      obtain ⟨i, rfl, hi, HNI, GJI⟩ := hrel
                      clear GG G0 HD HL HA HCQ HT1 HSP1 HSP2
                      by_cases hit : i < M.length
                      · have hii : (i : Int) < (M.length : Int) := by omega
                        have hiK : i < K.length := by rw [← HMN.out]; exact hit
                        obtain ⟨gz, offz, hgg, e0, e1, e2, e3, e4, e5, e6, e7, e8, e9, e10⟩ := GJI.out.2.at hit
                        injection hgg with hgg
                        injection hgg with hgg1 hgg2
                        subst hgg1
                        subst hgg2
                        have hxz := HMOK.out _ (List.getElem_mem hit)
                        have HNZ : Hid (∀ V p', Gz V p' M → NumsAt V M[i].p M[i].ty) := fun V p' h => h.2 _ (List.getElem_mem hit)
                        have hhz := HREL.out.get i hit hiK
                        have hmz := HMA.out i hit hiK st bn2
                        have HNXI : Hid ((K[i].ow.toList == (hshB rd sl st).toList) = false → ∀ r (hr : r < K.length), r < i + 1 → (K[r].ow.toList == (hshB rd sl st).toList) = false) := fun h r hr hri => by
                          rcases Nat.lt_or_ge r i with h' | h'
                          · exact HNI.out r hr h'
                          · obtain rfl : r = i := by omega
                            exact h
                        have HSI : Hid ((K[i].ow.toList == (hshB rd sl st).toList) = true → JV = jaB (some K[i]) t) := fun h => by rw [HJ2.out, st_at hiK h HNI.out]
                        obtain ⟨z, hze⟩ : ∃ z, M[i] = z := ⟨_, rfl⟩
                        obtain ⟨v, hve⟩ : ∃ v, K[i] = v := ⟨_, rfl⟩
                        rw [hze] at e0 e1 e2 e3 e4 e5 e6 e7 e8 e9 e10 hxz HNZ hhz hmz
                        rw [hve] at hhz HNXI HSI hmz
                        clear hze hve HNI
                        have GZ := hide' (Gl.start z GJI.out.1 GJI.out.2)
                        obtain ⟨W3, hW3⟩ : ∃ W3, wr.alloc (.cells #[.string z.o, .int .i64 z.t, .int .i64 z.c, .int .i64 z.l, .string z.d, .bool z.hb, .string z.nx, .string z.ow, .string z.sl, .int .i64 (z.rd : Int), .slice z.p z.ty.length z.ca] 43) = W3 := ⟨_, rfl⟩
                        rw [hW3] at GZ
                        obtain ⟨d0, d1, d2, d3, d4, d5, d6, d7, d8, d9, d10⟩ := GZ.out.cells
                        have HDZ := hide' (fun (W : World) (h : NumsAt W z.p z.ty) => gMatches z st W hxz hstz h)
                        rw [hmz] at HDZ
                        have HLZ := hide' (fun (W : World) (h : NumsAt W z.p z.ty) => gLacks z t W hxz h)
                        rw [hg_lack hhz] at HLZ
                        cases hdz : (v.ow.toList == (hshB rd sl st).toList) with
                        | false =>
                          have HY := hide' (HNXI.out hdz)
                          rw [hdz] at HDZ
                          clear hdz HNXI HSI hmz
                          go_wp2_with fail
                          go_region_held3 (fun V => V.cell? ⟨wr.heap.size, 0, none⟩ = some (.string z.o) ∧ V.cell? ⟨wr.heap.size, 1, none⟩ = some (.int .i64 z.t) ∧ V.cell? ⟨wr.heap.size, 2, none⟩ = some (.int .i64 z.c) ∧ V.cell? ⟨wr.heap.size, 3, none⟩ = some (.int .i64 z.l) ∧ V.cell? ⟨wr.heap.size, 4, none⟩ = some (.string z.d) ∧ V.cell? ⟨wr.heap.size, 5, none⟩ = some (.bool z.hb) ∧ V.cell? ⟨wr.heap.size, 6, none⟩ = some (.string z.nx) ∧ V.cell? ⟨wr.heap.size, 7, none⟩ = some (.string z.ow) ∧ V.cell? ⟨wr.heap.size, 8, none⟩ = some (.string z.sl) ∧ V.cell? ⟨wr.heap.size, 9, none⟩ = some (.int .i64 (z.rd : Int)) ∧ V.cell? ⟨wr.heap.size, 10, none⟩ = some (.slice z.p z.ty.length z.ca)) (first | go_keep | exact GZ2.out.cells | exact GZ1.out.cells) (first
                            | (go_at_call 19; refine (HSTR.out _).mono ?_; rintro r wa ⟨rfl, hB⟩; have GZ1 := hide' (show Gl w wa wr.heap.size z (some ⟨g0, off0, none⟩) M by first | exact GZ.out.step hB | exact GZ.out.drew.step hB); clear hB)
                            | (go_at_call 21; refine (HDZ.out _ (HNZ.out _ _ (by first | exact GZ1.out.2.2 | exact GZ1.out.drew.2.2))).mono ?_; rintro r wb ⟨rfl, hB⟩; have GZ2 := hide' (show Gl w wb wr.heap.size z (some ⟨g0, off0, none⟩) M by first | exact GZ1.out.step hB | exact GZ1.out.drew.step hB); clear hB))
                          clear d0 d1 d2 d3 d4 d5 d6 d7 d8 d9 d10
                          go_wp2_with fail
                          exact ⟨⟨i + 1, by go_num, by omega, HY.out, (by first | exact GZ2.out.gj | exact GZ2.out.drew.gj)⟩, by simp [intOf]; omega⟩
                        | true =>
                          have HY := hide' (HSI.out hdz)
                          rw [hdz] at HDZ
                          clear hdz HNXI HSI hmz
                          cases hlz : denT v.ts t with
                          | true =>
                            have HJ : Hid (JV = 2) := by unfold Hid; rw [HY.out]; unfold jaB; dsimp only; rw [if_pos hlz]
                            rw [hlz] at HLZ
                            clear hlz HY
                            go_wp2_with fail
                            go_region_held3 (fun V => V.cell? ⟨wr.heap.size, 0, none⟩ = some (.string z.o) ∧ V.cell? ⟨wr.heap.size, 1, none⟩ = some (.int .i64 z.t) ∧ V.cell? ⟨wr.heap.size, 2, none⟩ = some (.int .i64 z.c) ∧ V.cell? ⟨wr.heap.size, 3, none⟩ = some (.int .i64 z.l) ∧ V.cell? ⟨wr.heap.size, 4, none⟩ = some (.string z.d) ∧ V.cell? ⟨wr.heap.size, 5, none⟩ = some (.bool z.hb) ∧ V.cell? ⟨wr.heap.size, 6, none⟩ = some (.string z.nx) ∧ V.cell? ⟨wr.heap.size, 7, none⟩ = some (.string z.ow) ∧ V.cell? ⟨wr.heap.size, 8, none⟩ = some (.string z.sl) ∧ V.cell? ⟨wr.heap.size, 9, none⟩ = some (.int .i64 (z.rd : Int)) ∧ V.cell? ⟨wr.heap.size, 10, none⟩ = some (.slice z.p z.ty.length z.ca)) (first | go_keep | exact GZ2.out.cells | exact GZ1.out.cells) (first
                              | (go_at_call 19; refine (HSTR.out _).mono ?_; rintro r wa ⟨rfl, hB⟩; have GZ1 := hide' (show Gl w wa wr.heap.size z (some ⟨g0, off0, none⟩) M by first | exact GZ.out.step hB | exact GZ.out.drew.step hB); clear hB)
                              | (go_at_call 21; refine (HDZ.out _ (HNZ.out _ _ (by first | exact GZ1.out.2.2 | exact GZ1.out.drew.2.2))).mono ?_; rintro r wb ⟨rfl, hB⟩; have GZ2 := hide' (show Gl w wb wr.heap.size z (some ⟨g0, off0, none⟩) M by first | exact GZ1.out.step hB | exact GZ1.out.drew.step hB); clear hB))
                            clear d0 d1 d2 d3 d4 d5 d6 d7 d8 d9 d10
                            obtain ⟨d0, d1, d2, d3, d4, d5, d6, d7, d8, d9, d10⟩ := GZ2.out.cells
                            go_wp2_with (first
                              | (go_at_call 22; refine (HLZ.out _ (HNZ.out _ _ (by first | exact GZ2.out.2.2 | exact GZ2.out.drew.2.2))).mono ?_; rintro r wc ⟨rfl, hB⟩; have GZ3 := hide' (show Gl w wc wr.heap.size z (some ⟨g0, off0, none⟩) M by first | exact GZ2.out.step hB | exact GZ2.out.drew.step hB); clear hB d0 d1 d2 d3 d4 d5 d6 d7 d8 d9 d10))
                            go_ret
                            exact ⟨by rw [HJ.out]; rfl, by first | exact GZ3.out.2.1 | exact GZ3.out.2.1.drew⟩
                          | false =>
                            have HJ : Hid (JV = 0) := by unfold Hid; rw [HY.out]; unfold jaB; dsimp only; rw [if_neg (by rw [hlz]; decide)]
                            rw [hlz] at HLZ
                            clear hlz HY
                            go_wp2_with fail
                            go_region_held3 (fun V => V.cell? ⟨wr.heap.size, 0, none⟩ = some (.string z.o) ∧ V.cell? ⟨wr.heap.size, 1, none⟩ = some (.int .i64 z.t) ∧ V.cell? ⟨wr.heap.size, 2, none⟩ = some (.int .i64 z.c) ∧ V.cell? ⟨wr.heap.size, 3, none⟩ = some (.int .i64 z.l) ∧ V.cell? ⟨wr.heap.size, 4, none⟩ = some (.string z.d) ∧ V.cell? ⟨wr.heap.size, 5, none⟩ = some (.bool z.hb) ∧ V.cell? ⟨wr.heap.size, 6, none⟩ = some (.string z.nx) ∧ V.cell? ⟨wr.heap.size, 7, none⟩ = some (.string z.ow) ∧ V.cell? ⟨wr.heap.size, 8, none⟩ = some (.string z.sl) ∧ V.cell? ⟨wr.heap.size, 9, none⟩ = some (.int .i64 (z.rd : Int)) ∧ V.cell? ⟨wr.heap.size, 10, none⟩ = some (.slice z.p z.ty.length z.ca)) (first | go_keep | exact GZ2.out.cells | exact GZ1.out.cells) (first
                              | (go_at_call 19; refine (HSTR.out _).mono ?_; rintro r wa ⟨rfl, hB⟩; have GZ1 := hide' (show Gl w wa wr.heap.size z (some ⟨g0, off0, none⟩) M by first | exact GZ.out.step hB | exact GZ.out.drew.step hB); clear hB)
                              | (go_at_call 21; refine (HDZ.out _ (HNZ.out _ _ (by first | exact GZ1.out.2.2 | exact GZ1.out.drew.2.2))).mono ?_; rintro r wb ⟨rfl, hB⟩; have GZ2 := hide' (show Gl w wb wr.heap.size z (some ⟨g0, off0, none⟩) M by first | exact GZ1.out.step hB | exact GZ1.out.drew.step hB); clear hB))
                            clear d0 d1 d2 d3 d4 d5 d6 d7 d8 d9 d10
                            obtain ⟨d0, d1, d2, d3, d4, d5, d6, d7, d8, d9, d10⟩ := GZ2.out.cells
                            go_wp2_with (first
                              | (go_at_call 22; refine (HLZ.out _ (HNZ.out _ _ (by first | exact GZ2.out.2.2 | exact GZ2.out.drew.2.2))).mono ?_; rintro r wc ⟨rfl, hB⟩; have GZ3 := hide' (show Gl w wc wr.heap.size z (some ⟨g0, off0, none⟩) M by first | exact GZ2.out.step hB | exact GZ2.out.drew.step hB); clear hB d0 d1 d2 d3 d4 d5 d6 d7 d8 d9 d10))
                            go_ret
                            exact ⟨by rw [HJ.out]; rfl, by first | exact GZ3.out.2.1 | exact GZ3.out.2.1.drew⟩
                      · have hij : i = M.length := by omega
                        have HJ : Hid (JV = 0) := by
                          unfold Hid
                          rw [HJ2.out, st_none (fun r hr => HNI.out r hr (by rw [hij, HMN.out]; exact hr))]
                          rfl
                        subst hij
                        go_wp2_with fail
                        go_ret
                        exact ⟨by rw [HJ.out]; rfl, GJI.out.1⟩
        · have hjj : j = M.length := by omega
          have HY : Hid (EN = enF (stF K rd sl) q ca m) := by
            have h9 : stF K rd sl e = none := st_none (fun i hi => HNJ.out i hi (by rw [hjj, HMN.out]; exact hi))
            unfold Hid
            rw [HE1.out, h9]
          subst hjj
          have hkm2 : (k : Int) - 1 = ((ca + m : Nat) : Int) - 1 := by omega
          go_wp2_with fail
          exact ⟨⟨m, by first | rfl | (congr 1) , by omega, HY.out, GJ.out⟩, by simp [intOf]; omega⟩
end Go.Proofs.YtipifhifjbenlaaGreat
