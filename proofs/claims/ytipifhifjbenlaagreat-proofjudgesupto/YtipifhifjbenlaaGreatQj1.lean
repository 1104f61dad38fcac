import Derived.Test.YtipifhifjbenlaaGreatQj0G
import Derived.Test.YtipifhifjbenlaaGreatPjy
/-
  Proofs: the reference's Judge over NSEC. (The verifier's own text.)
-/
namespace Go.Proofs.YtipifhifjbenlaaGreat
set_option linter.unusedVariables false
set_option linter.unusedSimpArgs false
open Go.RowKit Go.Shelf Go.Maps Go.Proofs.YtipifhifjbenlaaGreat.Nm

theorem ng_ok {x : Gq} {y : Nq} (h : NG x y) (hy : y.ts.size ≤ 65535 ∧ y.o.size ≤ 255 ∧ y.nx.size ≤ 255) : GOk x := by
  refine ⟨by rw [h.2.1]; omega, by rw [h.2.2.1]; omega, typL_len h.2.2.2 hy.1, fun e => (by rw [h.1] at e; cases e), fun e => (by rw [h.1] at e; cases e)⟩
theorem relN_ok {M : List Gq} {N : List Nq} (h : RelN M N) (hN : NOk N) : ∀ x ∈ M, GOk x := fun x hx => by
  obtain ⟨k, hk, rfl⟩ := List.getElem_of_mem hx
  have hk2 : k < N.length := by rw [← h.len]; exact hk
  exact ng_ok (h.get k hk hk2) (hN _ (List.getElem_mem hk2))
/-- a world in which the gaps lie -/
def Gj (w W : World) (p : Option Addr) (M : List Gq) : Prop := Below w.heap.size w W ∧ Gz W p M
theorem Gj.step {w W W' : World} {p : Option Addr} {M : List Gq} (h : Gj w W p M) (hB : Below W.heap.size W W') : Gj w W' p M := ⟨bstep h.1 hB h.1.size, h.2.below hB⟩
theorem Gj.drew {w W : World} {p : Option Addr} {M : List Gq} (h : Gj w W p M) : Gj w W.drew p M := ⟨h.1.drew, h.2⟩
theorem Gl.gj {w W : World} {B : Nat} {x : Gq} {p : Option Addr} {M : List Gq} (h : Gl w W B x p M) : Gj w W p M := ⟨h.2.1, h.2.2⟩
theorem js_shown {N : List Nq} {n : ByteArray} {t : Int} (h : shB N n t = true) : jsB N n t = 2 := by unfold jsB; rw [if_pos h]
theorem js_none {N : List Nq} {n : ByteArray} {t : Int} (h : shB N n t = false) (hn : ∀ j (hj : j < N.length), ndB N[j].ts N[j].o N[j].nx n = false) : jsB N n t = 0 := by
  unfold jsB
  rw [if_neg (by rw [h]; decide)]
  have : N.find? (fun x => ndB x.ts x.o x.nx n) = none := by
    rw [List.find?_eq_none]
    intro x hx
    obtain ⟨j, hj, rfl⟩ := List.getElem_of_mem hx
    rw [hn j hj]
    decide
  rw [this]
theorem js_at {N : List Nq} {n : ByteArray} {t : Int} {j : Nat} (h : shB N n t = false) (hj : j < N.length) (hy : ndB N[j].ts N[j].o N[j].nx n = true) (hn : ∀ i (hi : i < N.length), i < j → ndB N[i].ts N[i].o N[i].nx n = false) : jsB N n t = if withinB N[j].nx n = true then 2 else 1 := by
  unfold jsB
  rw [if_neg (by rw [h]; decide)]
  have : N.find? (fun x => ndB x.ts x.o x.nx n) = some N[j] := by
    rw [List.find?_eq_some_iff_getElem]
    exact ⟨hy, j, hj, rfl, fun i hi => by rw [hn i (by omega) hi]; rfl⟩
  rw [this]
set_option maxRecDepth 100000 in
set_option maxHeartbeats 16000000 in
/-- the reference's Judge, where there are NSEC -/
theorem rJudge_nsec (apex : ByteArray) (L : List Rn) (p : Option Addr) (cap : Nat) (q : ByteArray) (t : Int) (w : World) (ha : apex.size ≤ 1048576) (hq : q.size ≤ 1048576) (hat : RsAt w p L) (hw : withinB q apex = true) (h1 : 1 ≤ t) (h2 : t ≤ 65535) (N : List Nq) (hNe : nqL apex L L.length = N) (hpos : 0 < N.length) (hNl : N.length ≤ 1048576) (hNo : NOk N)
    (HUS : Hid (∀ W, RsAt W p L → Calls Tryz.prog 14 #[.string apex, .slice p L.length cap] W fun e w' => UsEnd apex L w' e ∧ Below W.heap.size W w')) :
    Calls Tryz.prog 6 #[.string apex, .slice p L.length cap, .string q, .int .i64 t] w fun r w' => r = .returned (.int .i64 (jnB N q t)) ∧ Below w.heap.size w w' := by
  have h1' : ¬ t < 1 := by omega
  have h2' : ¬ 65535 < t := by omega
  have hqN : isN q = true := ((withinB_iff q apex).1 hw).1
  have HW := hide' (fun W => refWithin_any q apex W hq ha)
  rw [hw] at HW
  have HAT := hide' hat
  have HUN : Hid (∀ W, RsAt W p L → Calls Tryz.prog 14 #[.string apex, .slice p L.length cap] W fun e w' => (∃ pm cm M, e = .returned (.slice pm M.length cm) ∧ Gz w' pm M ∧ RelN M N) ∧ Below W.heap.size W w') := fun W h => by
    refine (HUS.out W h).mono ?_
    rintro e w' ⟨⟨pm, cm, M, rfl, g1, g2, g3⟩, hB⟩
    rw [hNe] at g3
    rcases g3 with ⟨_, g3⟩ | ⟨g3, _⟩
    · exact ⟨⟨pm, cm, M, rfl, ⟨g1, g2⟩, g3⟩, hB⟩
    · rw [g3] at hpos; simp at hpos
  clear HUS hat hw h1 h2 hNe
  go_enter Tryz.func6, Tryz.ntmps6
  go_upto_region 4 with (first
    | (go_at_call 13; refine (HW.out _).mono ?_; rintro r w1 ⟨rfl, hB1⟩; have HB1 := hide' hB1; have HA1 := hide' (rsAt_below7 HAT.out hB1); clear hB1)
    | (go_at_call 14; refine (HUN.out _ HA1.out).mono ?_; rintro r w2 ⟨⟨pm, cm, M, rfl, hgz, hrel⟩, hB2⟩; have GJ2 : Hid (Gj w w2 pm M) := ⟨bstep HB1.out hB2 HB1.out.size, hgz⟩; have HREL := hide' hrel; clear hB2 hgz hrel))
  rename_i KK hKK
  have HKK := hide' hKK
  clear hKK HUN HAT HA1 HB1 HW
  have hMN : M.length = N.length := HREL.out.len
  have hMi : ¬ (M.length : Int) = 0 := by omega
  have hMb : ((M.length : Int) == 0) = false := by rw [beq_eq_false_iff_ne]; exact hMi
  have hMp : (0 : Int) < (M.length : Int) := by omega
  have HMOK := hide' (relN_ok HREL.out hNo)
  have HSH := hide' (fun (n : ByteArray) (hn : n.size ≤ 1048576) (W : World) (h : Gz W pm M) => shown_any M pm cm n t W (by omega) HMOK.out hn h)
  have HSE : Hid (∀ n, (M.any fun x => gmX n x && glX t x) = shB N n t) := fun n => relN_shown HREL.out n t
  obtain ⟨g0, off0, hpm, E0⟩ := GJ2.out.2.at (k := 0) (by omega)
  have hb0 : M[0].hb = false := (HREL.out.get 0 (by omega) (by omega)).1
  rw [hb0, Nat.zero_mul, Nat.add_zero] at E0
  obtain ⟨-, -, -, -, -, m5, -⟩ := E0
  subst hpm
  have HMN := hide' hMN
  clear hb0 hMN
  go_wp2_with fail
  refine HKK.out _ _ ?_
  clear HKK KK
  cases hs0 : shB N q t with
  | true =>
    have HJ : Hid (jnB N q t = 2) := by unfold Hid jnB; rw [if_pos hs0]
    have HS0 := hide' (HSH.out q hq)
    rw [HSE.out, hs0] at HS0
    clear hs0 HSH HSE
    go_wp2_with (first
      | (go_at_call 15; refine (HS0.out _ GJ2.out.2).mono ?_; rintro r w3 ⟨rfl, hB⟩; have GJ3 := hide' (GJ2.out.step hB); clear hB))
    go_ret
    exact ⟨by rw [HJ.out]; rfl, GJ3.out.1⟩
  | false =>
    have HS0 := hide' (HSH.out q hq)
    rw [HSE.out, hs0] at HS0
    have Hs0 := hide' hs0
    clear hs0
    go_wp2_with (first
      | (go_at_call 15; refine (HS0.out _ GJ2.out.2).mono ?_; rintro r w3 ⟨rfl, hB⟩; have GJ3 := hide' (GJ2.out.step hB); clear hB m5))
    go_loopw [50] (fun iv wr => ∃ k : Nat, iv = .int .i64 (k : Int) ∧ k ≤ M.length ∧ Hid (∀ j (hj : j < N.length), j < k → jdB N N[j] q t = 0) ∧ Hid (Gj w wr (some ⟨g0, off0, none⟩) M)) (fun iv _ => M.length - (intOf iv).toNat)
    case atStart => exact ⟨0, rfl, Nat.zero_le _, (fun j _ h => absurd h (Nat.not_lt_zero _)), GJ3.out⟩
    case round =>
      obtain ⟨k, rfl, hk, HN, GJ⟩ := hrel
      by_cases hlt : k < M.length
      · have hki : (k : Int) < (M.length : Int) := by omega
        have hltN : k < N.length := by rw [← HMN.out]; exact hlt
        obtain ⟨g, off, hgg, e0, e1, e2, e3, e4, e5, e6, e7, e8, e9, e10⟩ := GJ.out.2.at hlt
        injection hgg with hgg
        injection hgg with hgg1 hgg2
        subst hgg1
        subst hgg2
        have hx := HMOK.out _ (List.getElem_mem hlt)
        have HNU : Hid (∀ V p', Gz V p' M → NumsAt V M[k].p M[k].ty) := fun V p' h => h.2 _ (List.getElem_mem hlt)
        have hng := HREL.out.get k hlt hltN
        have HNX : Hid (jdB N N[k] q t = 0 → ∀ j (hj : j < N.length), j < k + 1 → jdB N N[j] q t = 0) := fun h j hj hjk => by
          rcases Nat.lt_or_ge j k with h' | h'
          · exact HN.out j hj h'
          · obtain rfl : j = k := by omega
            exact h
        have HYE : Hid (∀ v, jdB N N[k] q t = v → ¬ v = 0 → jnB N q t = v) := fun v h hv => by
          rw [jn_some Hs0.out hltN (by rw [h]; exact hv) HN.out, h]
        obtain ⟨x, hxe⟩ : ∃ x, M[k] = x := ⟨_, rfl⟩
        obtain ⟨y, hye⟩ : ∃ y, N[k] = y := ⟨_, rfl⟩
        rw [hxe] at e0 e1 e2 e3 e4 e5 e6 e7 e8 e9 e10 hx HNU hng
        rw [hye] at hng HNX HYE
        clear hxe hye HN
        have G0 := hide' (Gl.start x GJ.out.1 GJ.out.2)
        obtain ⟨W1, hW1⟩ : ∃ W1, wr.alloc (.cells #[.string x.o, .int .i64 x.t, .int .i64 x.c, .int .i64 x.l, .string x.d, .bool x.hb, .string x.nx, .string x.ow, .string x.sl, .int .i64 (x.rd : Int), .slice x.p x.ty.length x.ca] 43) = W1 := ⟨_, rfl⟩
        rw [hW1] at G0
        obtain ⟨d0, d1, d2, d3, d4, d5, d6, d7, d8, d9, d10⟩ := G0.out.cells
        have HD := hide' (fun (W : World) (h : NumsAt W x.p x.ty) => gDenies x q W hx hq h)
        rw [ng_deny hng] at HD
        have hjd : jdB N y q t = if ndB y.ts y.o y.nx q = true then (if withinB y.nx q = true then 2 else jsB N (starB (neB y.o y.nx q)) t) else 0 := rfl
        have HWI := hide' (fun (W : World) => refWithin_any x.nx q W hx.2.1 hq)
        rw [show withinB x.nx q = withinB y.nx q by rw [hng.2.2.1]] at HWI
        cases had : ndB y.ts y.o y.nx q with
        | false =>
          rw [had] at hjd HD
          rw [if_neg (by decide)] at hjd
          have HY := hide' (HNX.out hjd)
          clear had hjd HNX HYE
          go_wp2_with (first
            | (go_at_call 16; refine (HD.out _ (HNU.out _ _ G0.out.2.2)).mono ?_; rintro r w4 ⟨rfl, hB⟩; have G1 := hide' (G0.out.step hB); clear hB d0 d1 d2 d3 d4 d5 d6 d7 d8 d9 d10))
          exact ⟨⟨k + 1, by go_num, by omega, HY.out, G1.out.gj⟩, by simp [intOf]; omega⟩
        | true =>
          rw [had] at hjd HD
          rw [if_pos rfl] at hjd
          cases hwi : withinB y.nx q with
          | true =>
            rw [hwi] at hjd HWI
            rw [if_pos rfl] at hjd
            have HY := hide' (HYE.out 2 hjd (by decide))
            clear had hwi hjd HNX HYE
            go_wp2_with (first
              | (go_at_call 16; refine (HD.out _ (HNU.out _ _ G0.out.2.2)).mono ?_; rintro r w4 ⟨rfl, hB⟩; have G1 := hide' (G0.out.step hB); clear hB d0 d1 d2 d3 d4 d5 d6 d7 d8 d9 d10; obtain ⟨d0, d1, d2, d3, d4, d5, d6, d7, d8, d9, d10⟩ := G1.out.cells)
              | (go_at_call 13; refine (HWI.out _).mono ?_; rintro r w5 ⟨rfl, hB⟩; have G2 := hide' (G1.out.step hB); clear hB))
            go_ret
            exact ⟨by rw [HY.out]; rfl, G2.out.2.1⟩
          | false =>
            rw [hwi] at hjd HWI
            rw [if_neg (by decide)] at hjd
            rw [← en_same hqN] at hjd
            have HCO := hide' (fun (W : World) => refCommon_any q x.o W hq hx.1)
            have HCN := hide' (fun (W : World) => refCommon_any q x.nx W hq hx.2.1)
            have z0 := comB_size q x.o
            have z1 := comB_size q x.nx
            have HJD0 : jdB N y q t = jsB N (starB (if cntI (comB q x.o) < cntI (comB q x.nx) then comB q x.nx else comB q x.o)) t := by
              rw [hjd, ← hng.2.1, ← hng.2.2.1]
              rfl
            clear hjd had hwi
            obtain ⟨e0', he0⟩ : ∃ e, comB q x.o = e := ⟨_, rfl⟩
            obtain ⟨e1', he1⟩ : ∃ e, comB q x.nx = e := ⟨_, rfl⟩
            rw [he0] at HCO z0 HJD0
            rw [he1] at HCN z1 HJD0
            clear he0 he1
            have HK0 := hide' (fun (W : World) => refCount_any e0' W (by omega))
            have HK1 := hide' (fun (W : World) => refCount_any e1' W (by omega))
            obtain ⟨c0, hc0⟩ : ∃ c, cntI e0' = c := ⟨_, rfl⟩
            obtain ⟨c1, hc1⟩ : ∃ c, cntI e1' = c := ⟨_, rfl⟩
            rw [hc0] at HK0 HJD0
            rw [hc1] at HK1 HJD0
            clear hc0 hc1
            by_cases hc : c0 < c1
            · rw [if_pos hc] at HJD0
              have HST := hide' (fun (W : World) => refStar_any e1' W (by omega))
              have hstz : (starB e1').size ≤ 1048576 := by have := starJ_size e1'; omega
              have HSS := hide' (HSH.out (starB e1') hstz)
              rw [HSE.out] at HSS
              obtain ⟨st, hst⟩ : ∃ st, starB e1' = st := ⟨_, rfl⟩
              rw [hst] at HST HSS hstz HJD0
              have HJD := hide' HJD0
              clear HJD0 hst
              cases hsf : shB N st t with
              | true =>
                have HY := hide' (HYE.out 2 (HJD.out.trans (js_shown hsf)) (by decide))
                rw [hsf] at HSS
                clear hsf
                go_wp2_with (first
                  | (go_at_call 16; refine (HD.out _ (HNU.out _ _ G0.out.2.2)).mono ?_; rintro r w4 ⟨rfl, hB⟩; have GG := hide' (G0.out.step hB); clear hB d0 d1 d2 d3 d4 d5 d6 d7 d8 d9 d10; obtain ⟨d0, d1, d2, d3, d4, d5, d6, d7, d8, d9, d10⟩ := GG.out.cells)
                  | (go_at_call 13; (with_reducible refine (HWI.out _).mono ?_); rintro r wv ⟨rfl, hB⟩; have GG := hide' (GG.out.step hB); clear hB d0 d1 d2 d3 d4 d5 d6 d7 d8 d9 d10; obtain ⟨d0, d1, d2, d3, d4, d5, d6, d7, d8, d9, d10⟩ := GG.out.cells)
                  | (go_at_call 17; (with_reducible refine (HCO.out _).mono ?_); rintro r wv ⟨rfl, hB⟩; have GG := hide' (GG.out.step hB); clear hB d0 d1 d2 d3 d4 d5 d6 d7 d8 d9 d10; obtain ⟨d0, d1, d2, d3, d4, d5, d6, d7, d8, d9, d10⟩ := GG.out.cells)
                  | (go_at_call 17; (with_reducible refine (HCN.out _).mono ?_); rintro r wv ⟨rfl, hB⟩; have GG := hide' (GG.out.step hB); clear hB d0 d1 d2 d3 d4 d5 d6 d7 d8 d9 d10; obtain ⟨d0, d1, d2, d3, d4, d5, d6, d7, d8, d9, d10⟩ := GG.out.cells)
                  | (go_at_call 18; (with_reducible refine (HK0.out _).mono ?_); rintro r wv ⟨rfl, hB⟩; have GG := hide' (GG.out.step hB); clear hB d0 d1 d2 d3 d4 d5 d6 d7 d8 d9 d10; obtain ⟨d0, d1, d2, d3, d4, d5, d6, d7, d8, d9, d10⟩ := GG.out.cells)
                  | (go_at_call 18; (with_reducible refine (HK1.out _).mono ?_); rintro r wv ⟨rfl, hB⟩; have GG := hide' (GG.out.step hB); clear hB d0 d1 d2 d3 d4 d5 d6 d7 d8 d9 d10; obtain ⟨d0, d1, d2, d3, d4, d5, d6, d7, d8, d9, d10⟩ := GG.out.cells)
                  | (go_at_call 19; (with_reducible refine (HST.out _).mono ?_); rintro r wv ⟨rfl, hB⟩; have GG := hide' (GG.out.step hB); clear hB d0 d1 d2 d3 d4 d5 d6 d7 d8 d9 d10; obtain ⟨d0, d1, d2, d3, d4, d5, d6, d7, d8, d9, d10⟩ := GG.out.cells)
                  | (go_at_call 15; refine (HSS.out _ GG.out.2.2).mono ?_; rintro r wv ⟨rfl, hB⟩; have GG := hide' (GG.out.step hB); clear hB d0 d1 d2 d3 d4 d5 d6 d7 d8 d9 d10))
                go_ret
                exact ⟨by rw [HY.out]; rfl, GG.out.2.1⟩
              | false =>
                have HSF := hide' hsf
                rw [hsf] at HSS
                clear hsf
                go_wp2_with (first
                  | (go_at_call 16; refine (HD.out _ (HNU.out _ _ G0.out.2.2)).mono ?_; rintro r w4 ⟨rfl, hB⟩; have GG := hide' (G0.out.step hB); clear hB d0 d1 d2 d3 d4 d5 d6 d7 d8 d9 d10; obtain ⟨d0, d1, d2, d3, d4, d5, d6, d7, d8, d9, d10⟩ := GG.out.cells)
                  | (go_at_call 13; (with_reducible refine (HWI.out _).mono ?_); rintro r wv ⟨rfl, hB⟩; have GG := hide' (GG.out.step hB); clear hB d0 d1 d2 d3 d4 d5 d6 d7 d8 d9 d10; obtain ⟨d0, d1, d2, d3, d4, d5, d6, d7, d8, d9, d10⟩ := GG.out.cells)
                  | (go_at_call 17; (with_reducible refine (HCO.out _).mono ?_); rintro r wv ⟨rfl, hB⟩; have GG := hide' (GG.out.step hB); clear hB d0 d1 d2 d3 d4 d5 d6 d7 d8 d9 d10; obtain ⟨d0, d1, d2, d3, d4, d5, d6, d7, d8, d9, d10⟩ := GG.out.cells)
                  | (go_at_call 17; (with_reducible refine (HCN.out _).mono ?_); rintro r wv ⟨rfl, hB⟩; have GG := hide' (GG.out.step hB); clear hB d0 d1 d2 d3 d4 d5 d6 d7 d8 d9 d10; obtain ⟨d0, d1, d2, d3, d4, d5, d6, d7, d8, d9, d10⟩ := GG.out.cells)
                  | (go_at_call 18; (with_reducible refine (HK0.out _).mono ?_); rintro r wv ⟨rfl, hB⟩; have GG := hide' (GG.out.step hB); clear hB d0 d1 d2 d3 d4 d5 d6 d7 d8 d9 d10; obtain ⟨d0, d1, d2, d3, d4, d5, d6, d7, d8, d9, d10⟩ := GG.out.cells)
                  | (go_at_call 18; (with_reducible refine (HK1.out _).mono ?_); rintro r wv ⟨rfl, hB⟩; have GG := hide' (GG.out.step hB); clear hB d0 d1 d2 d3 d4 d5 d6 d7 d8 d9 d10; obtain ⟨d0, d1, d2, d3, d4, d5, d6, d7, d8, d9, d10⟩ := GG.out.cells)
                  | (go_at_call 19; (with_reducible refine (HST.out _).mono ?_); rintro r wv ⟨rfl, hB⟩; have GG := hide' (GG.out.step hB); clear hB d0 d1 d2 d3 d4 d5 d6 d7 d8 d9 d10; obtain ⟨d0, d1, d2, d3, d4, d5, d6, d7, d8, d9, d10⟩ := GG.out.cells)
                  | (go_at_call 15; refine (HSS.out _ GG.out.2.2).mono ?_; rintro r wv ⟨rfl, hB⟩; have GG := hide' (GG.out.step hB); clear hB d0 d1 d2 d3 d4 d5 d6 d7 d8 d9 d10))
                go_loopw [86] (fun jv wr => ∃ j : Nat, jv = .int .i64 (j : Int) ∧ j ≤ M.length ∧ Hid (∀ i (hi : i < N.length), i < j → ndB N[i].ts N[i].o N[i].nx st = false) ∧ Hid (Gj w wr (some ⟨g0, off0, none⟩) M)) (fun jv _ => M.length - (intOf jv).toNat)
                case atStart => exact ⟨0, rfl, Nat.zero_le _, (fun i _ h => absurd h (Nat.not_lt_zero _)), GG.out.gj⟩
                case round =>
                  obtain ⟨j, rfl, hj, HNJ, GJ2⟩ := hrel
                  clear GG G0 HD HWI HCO HCN HK0 HK1 HSS
                  by_cases hjt : j < M.length
                  · have hji : (j : Int) < (M.length : Int) := by omega
                    have hjN : j < N.length := by rw [← HMN.out]; exact hjt
                    obtain ⟨gz, offz, hgg, e0, e1, e2, e3, e4, e5, e6, e7, e8, e9, e10⟩ := GJ2.out.2.at hjt
                    injection hgg with hgg
                    injection hgg with hgg1 hgg2
                    subst hgg1
                    subst hgg2
                    have hxz := HMOK.out _ (List.getElem_mem hjt)
                    have HNZ : Hid (∀ V p', Gz V p' M → NumsAt V M[j].p M[j].ty) := fun V p' h => h.2 _ (List.getElem_mem hjt)
                    have hngz := HREL.out.get j hjt hjN
                    have HNXJ : Hid (ndB N[j].ts N[j].o N[j].nx st = false → ∀ i (hi : i < N.length), i < j + 1 → ndB N[i].ts N[i].o N[i].nx st = false) := fun h i hi hij => by
                      rcases Nat.lt_or_ge i j with h' | h'
                      · exact HNJ.out i hi h'
                      · obtain rfl : i = j := by omega
                        exact h
                    have HAT2 : Hid (ndB N[j].ts N[j].o N[j].nx st = true → jnB N q t = if withinB N[j].nx st = true then 2 else 1) := fun h => by
                      have h9 := js_at HSF.out hjN h HNJ.out
                      refine HYE.out _ (HJD.out.trans h9) ?_
                      split <;> decide
                    obtain ⟨z, hze⟩ : ∃ z, M[j] = z := ⟨_, rfl⟩
                    obtain ⟨v, hve⟩ : ∃ v, N[j] = v := ⟨_, rfl⟩
                    rw [hze] at e0 e1 e2 e3 e4 e5 e6 e7 e8 e9 e10 hxz HNZ hngz
                    rw [hve] at hngz HNXJ HAT2
                    clear hze hve HNJ
                    have GZ := hide' (Gl.start z GJ2.out.1 GJ2.out.2)
                    obtain ⟨W3, hW3⟩ : ∃ W3, wr.alloc (.cells #[.string z.o, .int .i64 z.t, .int .i64 z.c, .int .i64 z.l, .string z.d, .bool z.hb, .string z.nx, .string z.ow, .string z.sl, .int .i64 (z.rd : Int), .slice z.p z.ty.length z.ca] 43) = W3 := ⟨_, rfl⟩
                    rw [hW3] at GZ
                    obtain ⟨d0, d1, d2, d3, d4, d5, d6, d7, d8, d9, d10⟩ := GZ.out.cells
                    have HDZ := hide' (fun (W : World) (h : NumsAt W z.p z.ty) => gDenies z st W hxz hstz h)
                    rw [ng_deny hngz] at HDZ
                    have HWZ := hide' (fun (W : World) => refWithin_any z.nx st W hxz.2.1 hstz)
                    rw [show withinB z.nx st = withinB v.nx st by rw [hngz.2.2.1]] at HWZ
                    cases hdz : ndB v.ts v.o v.nx st with
                    | false =>
                      have HY := hide' (HNXJ.out hdz)
                      rw [hdz] at HDZ
                      clear hdz HNXJ HAT2
                      go_wp2_with fail
                      go_region_held3 (fun V => V.cell? ⟨wr.heap.size, 0, none⟩ = some (.string z.o) ∧ V.cell? ⟨wr.heap.size, 1, none⟩ = some (.int .i64 z.t) ∧ V.cell? ⟨wr.heap.size, 2, none⟩ = some (.int .i64 z.c) ∧ V.cell? ⟨wr.heap.size, 3, none⟩ = some (.int .i64 z.l) ∧ V.cell? ⟨wr.heap.size, 4, none⟩ = some (.string z.d) ∧ V.cell? ⟨wr.heap.size, 5, none⟩ = some (.bool z.hb) ∧ V.cell? ⟨wr.heap.size, 6, none⟩ = some (.string z.nx) ∧ V.cell? ⟨wr.heap.size, 7, none⟩ = some (.string z.ow) ∧ V.cell? ⟨wr.heap.size, 8, none⟩ = some (.string z.sl) ∧ V.cell? ⟨wr.heap.size, 9, none⟩ = some (.int .i64 (z.rd : Int)) ∧ V.cell? ⟨wr.heap.size, 10, none⟩ = some (.slice z.p z.ty.length z.ca)) (first | go_keep | exact GZ2.out.cells | exact GZ1.out.cells) (first
                        | (go_at_call 19; refine (HST.out _).mono ?_; rintro r wa ⟨rfl, hB⟩; have GZ1 := hide' (show Gl w wa wr.heap.size z (some ⟨g0, off0, none⟩) M by first | exact GZ.out.step hB | exact GZ.out.drew.step hB); clear hB)
                        | (go_at_call 16; refine (HDZ.out _ (HNZ.out _ _ (by first | exact GZ1.out.2.2 | exact GZ1.out.drew.2.2))).mono ?_; rintro r wb ⟨rfl, hB⟩; have GZ2 := hide' (show Gl w wb wr.heap.size z (some ⟨g0, off0, none⟩) M by first | exact GZ1.out.step hB | exact GZ1.out.drew.step hB); clear hB))
                      clear d0 d1 d2 d3 d4 d5 d6 d7 d8 d9 d10
                      go_wp2_with fail
                      exact ⟨⟨j + 1, by go_num, by omega, HY.out, (by first | exact GZ2.out.gj | exact GZ2.out.drew.gj)⟩, by simp [intOf]; omega⟩
                    | true =>
                      have HY := hide' (HAT2.out hdz)
                      rw [hdz] at HDZ
                      clear hdz HNXJ HAT2
                      cases hwz : withinB v.nx st with
                      | true =>
                        rw [hwz, if_pos rfl] at HY
                        rw [hwz] at HWZ
                        go_wp2_with fail
                        go_region_held3 (fun V => V.cell? ⟨wr.heap.size, 0, none⟩ = some (.string z.o) ∧ V.cell? ⟨wr.heap.size, 1, none⟩ = some (.int .i64 z.t) ∧ V.cell? ⟨wr.heap.size, 2, none⟩ = some (.int .i64 z.c) ∧ V.cell? ⟨wr.heap.size, 3, none⟩ = some (.int .i64 z.l) ∧ V.cell? ⟨wr.heap.size, 4, none⟩ = some (.string z.d) ∧ V.cell? ⟨wr.heap.size, 5, none⟩ = some (.bool z.hb) ∧ V.cell? ⟨wr.heap.size, 6, none⟩ = some (.string z.nx) ∧ V.cell? ⟨wr.heap.size, 7, none⟩ = some (.string z.ow) ∧ V.cell? ⟨wr.heap.size, 8, none⟩ = some (.string z.sl) ∧ V.cell? ⟨wr.heap.size, 9, none⟩ = some (.int .i64 (z.rd : Int)) ∧ V.cell? ⟨wr.heap.size, 10, none⟩ = some (.slice z.p z.ty.length z.ca)) (first | go_keep | exact GZ2.out.cells | exact GZ1.out.cells) (first
                          | (go_at_call 19; refine (HST.out _).mono ?_; rintro r wa ⟨rfl, hB⟩; have GZ1 := hide' (show Gl w wa wr.heap.size z (some ⟨g0, off0, none⟩) M by first | exact GZ.out.step hB | exact GZ.out.drew.step hB); clear hB)
                          | (go_at_call 16; refine (HDZ.out _ (HNZ.out _ _ (by first | exact GZ1.out.2.2 | exact GZ1.out.drew.2.2))).mono ?_; rintro r wb ⟨rfl, hB⟩; have GZ2 := hide' (show Gl w wb wr.heap.size z (some ⟨g0, off0, none⟩) M by first | exact GZ1.out.step hB | exact GZ1.out.drew.step hB); clear hB))
                        clear d0 d1 d2 d3 d4 d5 d6 d7 d8 d9 d10
                        obtain ⟨d0, d1, d2, d3, d4, d5, d6, d7, d8, d9, d10⟩ := GZ2.out.cells
                        go_wp2_with fail
                        go_region_held3 (fun V => V.cell? ⟨wr.heap.size, 6, none⟩ = some (.string z.nx)) (first | go_keep | exact GZ4.out.1.cell rfl | exact GZ3.out.1.cell rfl) (first
                          | (go_at_call 19; refine (HST.out _).mono ?_; rintro r wc ⟨rfl, hB⟩; have GZ3 := hide' (show Gl w wc wr.heap.size z (some ⟨g0, off0, none⟩) M by first | exact GZ2.out.step hB | exact GZ2.out.drew.step hB); clear hB)
                          | (go_at_call 13; refine (HWZ.out _).mono ?_; rintro r wd ⟨rfl, hB⟩; have GZ4 := hide' (show Gl w wd wr.heap.size z (some ⟨g0, off0, none⟩) M by first | exact GZ3.out.step hB | exact GZ3.out.drew.step hB); clear hB))
                        clear d0 d1 d2 d3 d4 d5 d6 d7 d8 d9 d10
                        go_wp2_with fail
                        go_ret
                        exact ⟨by rw [HY.out]; rfl, by first | exact GZ4.out.2.1 | exact GZ4.out.2.1.drew⟩
                      | false =>
                        rw [hwz, if_neg (by decide)] at HY
                        rw [hwz] at HWZ
                        go_wp2_with fail
                        go_region_held3 (fun V => V.cell? ⟨wr.heap.size, 0, none⟩ = some (.string z.o) ∧ V.cell? ⟨wr.heap.size, 1, none⟩ = some (.int .i64 z.t) ∧ V.cell? ⟨wr.heap.size, 2, none⟩ = some (.int .i64 z.c) ∧ V.cell? ⟨wr.heap.size, 3, none⟩ = some (.int .i64 z.l) ∧ V.cell? ⟨wr.heap.size, 4, none⟩ = some (.string z.d) ∧ V.cell? ⟨wr.heap.size, 5, none⟩ = some (.bool z.hb) ∧ V.cell? ⟨wr.heap.size, 6, none⟩ = some (.string z.nx) ∧ V.cell? ⟨wr.heap.size, 7, none⟩ = some (.string z.ow) ∧ V.cell? ⟨wr.heap.size, 8, none⟩ = some (.string z.sl) ∧ V.cell? ⟨wr.heap.size, 9, none⟩ = some (.int .i64 (z.rd : Int)) ∧ V.cell? ⟨wr.heap.size, 10, none⟩ = some (.slice z.p z.ty.length z.ca)) (first | go_keep | exact GZ2.out.cells | exact GZ1.out.cells) (first
                          | (go_at_call 19; refine (HST.out _).mono ?_; rintro r wa ⟨rfl, hB⟩; have GZ1 := hide' (show Gl w wa wr.heap.size z (some ⟨g0, off0, none⟩) M by first | exact GZ.out.step hB | exact GZ.out.drew.step hB); clear hB)
                          | (go_at_call 16; refine (HDZ.out _ (HNZ.out _ _ (by first | exact GZ1.out.2.2 | exact GZ1.out.drew.2.2))).mono ?_; rintro r wb ⟨rfl, hB⟩; have GZ2 := hide' (show Gl w wb wr.heap.size z (some ⟨g0, off0, none⟩) M by first | exact GZ1.out.step hB | exact GZ1.out.drew.step hB); clear hB))
                        clear d0 d1 d2 d3 d4 d5 d6 d7 d8 d9 d10
                        obtain ⟨d0, d1, d2, d3, d4, d5, d6, d7, d8, d9, d10⟩ := GZ2.out.cells
                        go_wp2_with fail
                        go_region_held3 (fun V => V.cell? ⟨wr.heap.size, 6, none⟩ = some (.string z.nx)) (first | go_keep | exact GZ4.out.1.cell rfl | exact GZ3.out.1.cell rfl) (first
                          | (go_at_call 19; refine (HST.out _).mono ?_; rintro r wc ⟨rfl, hB⟩; have GZ3 := hide' (show Gl w wc wr.heap.size z (some ⟨g0, off0, none⟩) M by first | exact GZ2.out.step hB | exact GZ2.out.drew.step hB); clear hB)
                          | (go_at_call 13; refine (HWZ.out _).mono ?_; rintro r wd ⟨rfl, hB⟩; have GZ4 := hide' (show Gl w wd wr.heap.size z (some ⟨g0, off0, none⟩) M by first | exact GZ3.out.step hB | exact GZ3.out.drew.step hB); clear hB))
                        clear d0 d1 d2 d3 d4 d5 d6 d7 d8 d9 d10
                        go_wp2_with fail
                        go_ret
                        exact ⟨by rw [HY.out]; rfl, by first | exact GZ4.out.2.1 | exact GZ4.out.2.1.drew⟩
                  · have hjj : j = M.length := by omega
                    have HY := hide' (HNX.out (HJD.out.trans (js_none HSF.out (fun i hi => HNJ.out i hi (by rw [hjj, HMN.out]; exact hi)))))
                    subst hjj
                    go_wp2_with fail
                    exact ⟨⟨k + 1, by go_num, by omega, HY.out, GJ2.out⟩, by simp [intOf]; omega⟩
            · rw [if_neg hc] at HJD0
              have HST := hide' (fun (W : World) => refStar_any e0' W (by omega))
              have hstz : (starB e0').size ≤ 1048576 := by have := starJ_size e0'; omega
              have HSS := hide' (HSH.out (starB e0') hstz)
              rw [HSE.out] at HSS
              obtain ⟨st, hst⟩ : ∃ st, starB e0' = st := ⟨_, rfl⟩
              rw [hst] at HST HSS hstz HJD0
              have HJD := hide' HJD0
              clear HJD0 hst
              cases hsf : shB N st t with
              | true =>
                have HY := hide' (HYE.out 2 (HJD.out.trans (js_shown hsf)) (by decide))
                rw [hsf] at HSS
                clear hsf
                go_wp2_with (first
                  | (go_at_call 16; refine (HD.out _ (HNU.out _ _ G0.out.2.2)).mono ?_; rintro r w4 ⟨rfl, hB⟩; have GG := hide' (G0.out.step hB); clear hB d0 d1 d2 d3 d4 d5 d6 d7 d8 d9 d10; obtain ⟨d0, d1, d2, d3, d4, d5, d6, d7, d8, d9, d10⟩ := GG.out.cells)
                  | (go_at_call 13; (with_reducible refine (HWI.out _).mono ?_); rintro r wv ⟨rfl, hB⟩; have GG := hide' (GG.out.step hB); clear hB d0 d1 d2 d3 d4 d5 d6 d7 d8 d9 d10; obtain ⟨d0, d1, d2, d3, d4, d5, d6, d7, d8, d9, d10⟩ := GG.out.cells)
                  | (go_at_call 17; (with_reducible refine (HCO.out _).mono ?_); rintro r wv ⟨rfl, hB⟩; have GG := hide' (GG.out.step hB); clear hB d0 d1 d2 d3 d4 d5 d6 d7 d8 d9 d10; obtain ⟨d0, d1, d2, d3, d4, d5, d6, d7, d8, d9, d10⟩ := GG.out.cells)
                  | (go_at_call 17; (with_reducible refine (HCN.out _).mono ?_); rintro r wv ⟨rfl, hB⟩; have GG := hide' (GG.out.step hB); clear hB d0 d1 d2 d3 d4 d5 d6 d7 d8 d9 d10; obtain ⟨d0, d1, d2, d3, d4, d5, d6, d7, d8, d9, d10⟩ := GG.out.cells)
                  | (go_at_call 18; (with_reducible refine (HK0.out _).mono ?_); rintro r wv ⟨rfl, hB⟩; have GG := hide' (GG.out.step hB); clear hB d0 d1 d2 d3 d4 d5 d6 d7 d8 d9 d10; obtain ⟨d0, d1, d2, d3, d4, d5, d6, d7, d8, d9, d10⟩ := GG.out.cells)
                  | (go_at_call 18; (with_reducible refine (HK1.out _).mono ?_); rintro r wv ⟨rfl, hB⟩; have GG := hide' (GG.out.step hB); clear hB d0 d1 d2 d3 d4 d5 d6 d7 d8 d9 d10; obtain ⟨d0, d1, d2, d3, d4, d5, d6, d7, d8, d9, d10⟩ := GG.out.cells)
                  | (go_at_call 19; (with_reducible refine (HST.out _).mono ?_); rintro r wv ⟨rfl, hB⟩; have GG := hide' (GG.out.step hB); clear hB d0 d1 d2 d3 d4 d5 d6 d7 d8 d9 d10; obtain ⟨d0, d1, d2, d3, d4, d5, d6, d7, d8, d9, d10⟩ := GG.out.cells)
                  | (go_at_call 15; refine (HSS.out _ GG.out.2.2).mono ?_; rintro r wv ⟨rfl, hB⟩; have GG := hide' (GG.out.step hB); clear hB d0 d1 d2 d3 d4 d5 d6 d7 d8 d9 d10))
                go_ret
                exact ⟨by rw [HY.out]; rfl, GG.out.2.1⟩
              | false =>
                have HSF := hide' hsf
                rw [hsf] at HSS
                clear hsf
                go_wp2_with (first
                  | (go_at_call 16; refine (HD.out _ (HNU.out _ _ G0.out.2.2)).mono ?_; rintro r w4 ⟨rfl, hB⟩; have GG := hide' (G0.out.step hB); clear hB d0 d1 d2 d3 d4 d5 d6 d7 d8 d9 d10; obtain ⟨d0, d1, d2, d3, d4, d5, d6, d7, d8, d9, d10⟩ := GG.out.cells)
                  | (go_at_call 13; (with_reducible refine (HWI.out _).mono ?_); rintro r wv ⟨rfl, hB⟩; have GG := hide' (GG.out.step hB); clear hB d0 d1 d2 d3 d4 d5 d6 d7 d8 d9 d10; obtain ⟨d0, d1, d2, d3, d4, d5, d6, d7, d8, d9, d10⟩ := GG.out.cells)
                  | (go_at_call 17; (with_reducible refine (HCO.out _).mono ?_); rintro r wv ⟨rfl, hB⟩; have GG := hide' (GG.out.step hB); clear hB d0 d1 d2 d3 d4 d5 d6 d7 d8 d9 d10; obtain ⟨d0, d1, d2, d3, d4, d5, d6, d7, d8, d9, d10⟩ := GG.out.cells)
                  | (go_at_call 17; (with_reducible refine (HCN.out _).mono ?_); rintro r wv ⟨rfl, hB⟩; have GG := hide' (GG.out.step hB); clear hB d0 d1 d2 d3 d4 d5 d6 d7 d8 d9 d10; obtain ⟨d0, d1, d2, d3, d4, d5, d6, d7, d8, d9, d10⟩ := GG.out.cells)
                  | (go_at_call 18; (with_reducible refine (HK0.out _).mono ?_); rintro r wv ⟨rfl, hB⟩; have GG := hide' (GG.out.step hB); clear hB d0 d1 d2 d3 d4 d5 d6 d7 d8 d9 d10; obtain ⟨d0, d1, d2, d3, d4, d5, d6, d7, d8, d9, d10⟩ := GG.out.cells)
                  | (go_at_call 18; (with_reducible refine (HK1.out _).mono ?_); rintro r wv ⟨rfl, hB⟩; have GG := hide' (GG.out.step hB); clear hB d0 d1 d2 d3 d4 d5 d6 d7 d8 d9 d10; obtain ⟨d0, d1, d2, d3, d4, d5, d6, d7, d8, d9, d10⟩ := GG.out.cells)
                  | (go_at_call 19; (with_reducible refine (HST.out _).mono ?_); rintro r wv ⟨rfl, hB⟩; have GG := hide' (GG.out.step hB); clear hB d0 d1 d2 d3 d4 d5 d6 d7 d8 d9 d10; obtain ⟨d0, d1, d2, d3, d4, d5, d6, d7, d8, d9, d10⟩ := GG.out.cells)
                  | (go_at_call 15; refine (HSS.out _ GG.out.2.2).mono ?_; rintro r wv ⟨rfl, hB⟩; have GG := hide' (GG.out.step hB); clear hB d0 d1 d2 d3 d4 d5 d6 d7 d8 d9 d10))
                go_loopw [86] (fun jv wr => ∃ j : Nat, jv = .int .i64 (j : Int) ∧ j ≤ M.length ∧ Hid (∀ i (hi : i < N.length), i < j → ndB N[i].ts N[i].o N[i].nx st = false) ∧ Hid (Gj w wr (some ⟨g0, off0, none⟩) M)) (fun jv _ => M.length - (intOf jv).toNat)
                case atStart => exact ⟨0, rfl, Nat.zero_le _, (fun i _ h => absurd h (Nat.not_lt_zero _)), GG.out.gj⟩
                case round =>
                  obtain ⟨j, rfl, hj, HNJ, GJ2⟩ := hrel
                  clear GG G0 HD HWI HCO HCN HK0 HK1 HSS
                  by_cases hjt : j < M.length
                  · have hji : (j : Int) < (M.length : Int) := by omega
                    have hjN : j < N.length := by rw [← HMN.out]; exact hjt
                    obtain ⟨gz, offz, hgg, e0, e1, e2, e3, e4, e5, e6, e7, e8, e9, e10⟩ := GJ2.out.2.at hjt
                    injection hgg with hgg
                    injection hgg with hgg1 hgg2
                    subst hgg1
                    subst hgg2
                    have hxz := HMOK.out _ (List.getElem_mem hjt)
                    have HNZ : Hid (∀ V p', Gz V p' M → NumsAt V M[j].p M[j].ty) := fun V p' h => h.2 _ (List.getElem_mem hjt)
                    have hngz := HREL.out.get j hjt hjN
                    have HNXJ : Hid (ndB N[j].ts N[j].o N[j].nx st = false → ∀ i (hi : i < N.length), i < j + 1 → ndB N[i].ts N[i].o N[i].nx st = false) := fun h i hi hij => by
                      rcases Nat.lt_or_ge i j with h' | h'
                      · exact HNJ.out i hi h'
                      · obtain rfl : i = j := by omega
                        exact h
                    have HAT2 : Hid (ndB N[j].ts N[j].o N[j].nx st = true → jnB N q t = if withinB N[j].nx st = true then 2 else 1) := fun h => by
                      have h9 := js_at HSF.out hjN h HNJ.out
                      refine HYE.out _ (HJD.out.trans h9) ?_
                      split <;> decide
                    obtain ⟨z, hze⟩ : ∃ z, M[j] = z := ⟨_, rfl⟩
                    obtain ⟨v, hve⟩ : ∃ v, N[j] = v := ⟨_, rfl⟩
                    rw [hze] at e0 e1 e2 e3 e4 e5 e6 e7 e8 e9 e10 hxz HNZ hngz
                    rw [hve] at hngz HNXJ HAT2
                    clear hze hve HNJ
                    have GZ := hide' (Gl.start z GJ2.out.1 GJ2.out.2)
                    obtain ⟨W3, hW3⟩ : ∃ W3, wr.alloc (.cells #[.string z.o, .int .i64 z.t, .int .i64 z.c, .int .i64 z.l, .string z.d, .bool z.hb, .string z.nx, .string z.ow, .string z.sl, .int .i64 (z.rd : Int), .slice z.p z.ty.length z.ca] 43) = W3 := ⟨_, rfl⟩
                    rw [hW3] at GZ
                    obtain ⟨d0, d1, d2, d3, d4, d5, d6, d7, d8, d9, d10⟩ := GZ.out.cells
                    have HDZ := hide' (fun (W : World) (h : NumsAt W z.p z.ty) => gDenies z st W hxz hstz h)
                    rw [ng_deny hngz] at HDZ
                    have HWZ := hide' (fun (W : World) => refWithin_any z.nx st W hxz.2.1 hstz)
                    rw [show withinB z.nx st = withinB v.nx st by rw [hngz.2.2.1]] at HWZ
                    cases hdz : ndB v.ts v.o v.nx st with
                    | false =>
                      have HY := hide' (HNXJ.out hdz)
                      rw [hdz] at HDZ
                      clear hdz HNXJ HAT2
                      go_wp2_with fail
                      go_region_held3 (fun V => V.cell? ⟨wr.heap.size, 0, none⟩ = some (.string z.o) ∧ V.cell? ⟨wr.heap.size, 1, none⟩ = some (.int .i64 z.t) ∧ V.cell? ⟨wr.heap.size, 2, none⟩ = some (.int .i64 z.c) ∧ V.cell? ⟨wr.heap.size, 3, none⟩ = some (.int .i64 z.l) ∧ V.cell? ⟨wr.heap.size, 4, none⟩ = some (.string z.d) ∧ V.cell? ⟨wr.heap.size, 5, none⟩ = some (.bool z.hb) ∧ V.cell? ⟨wr.heap.size, 6, none⟩ = some (.string z.nx) ∧ V.cell? ⟨wr.heap.size, 7, none⟩ = some (.string z.ow) ∧ V.cell? ⟨wr.heap.size, 8, none⟩ = some (.string z.sl) ∧ V.cell? ⟨wr.heap.size, 9, none⟩ = some (.int .i64 (z.rd : Int)) ∧ V.cell? ⟨wr.heap.size, 10, none⟩ = some (.slice z.p z.ty.length z.ca)) (first | go_keep | exact GZ2.out.cells | exact GZ1.out.cells) (first
                        | (go_at_call 19; refine (HST.out _).mono ?_; rintro r wa ⟨rfl, hB⟩; have GZ1 := hide' (show Gl w wa wr.heap.size z (some ⟨g0, off0, none⟩) M by first | exact GZ.out.step hB | exact GZ.out.drew.step hB); clear hB)
                        | (go_at_call 16; refine (HDZ.out _ (HNZ.out _ _ (by first | exact GZ1.out.2.2 | exact GZ1.out.drew.2.2))).mono ?_; rintro r wb ⟨rfl, hB⟩; have GZ2 := hide' (show Gl w wb wr.heap.size z (some ⟨g0, off0, none⟩) M by first | exact GZ1.out.step hB | exact GZ1.out.drew.step hB); clear hB))
                      clear d0 d1 d2 d3 d4 d5 d6 d7 d8 d9 d10
                      go_wp2_with fail
                      exact ⟨⟨j + 1, by go_num, by omega, HY.out, (by first | exact GZ2.out.gj | exact GZ2.out.drew.gj)⟩, by simp [intOf]; omega⟩
                    | true =>
                      have HY := hide' (HAT2.out hdz)
                      rw [hdz] at HDZ
                      clear hdz HNXJ HAT2
                      cases hwz : withinB v.nx st with
                      | true =>
                        rw [hwz, if_pos rfl] at HY
                        rw [hwz] at HWZ
                        go_wp2_with fail
                        go_region_held3 (fun V => V.cell? ⟨wr.heap.size, 0, none⟩ = some (.string z.o) ∧ V.cell? ⟨wr.heap.size, 1, none⟩ = some (.int .i64 z.t) ∧ V.cell? ⟨wr.heap.size, 2, none⟩ = some (.int .i64 z.c) ∧ V.cell? ⟨wr.heap.size, 3, none⟩ = some (.int .i64 z.l) ∧ V.cell? ⟨wr.heap.size, 4, none⟩ = some (.string z.d) ∧ V.cell? ⟨wr.heap.size, 5, none⟩ = some (.bool z.hb) ∧ V.cell? ⟨wr.heap.size, 6, none⟩ = some (.string z.nx) ∧ V.cell? ⟨wr.heap.size, 7, none⟩ = some (.string z.ow) ∧ V.cell? ⟨wr.heap.size, 8, none⟩ = some (.string z.sl) ∧ V.cell? ⟨wr.heap.size, 9, none⟩ = some (.int .i64 (z.rd : Int)) ∧ V.cell? ⟨wr.heap.size, 10, none⟩ = some (.slice z.p z.ty.length z.ca)) (first | go_keep | exact GZ2.out.cells | exact GZ1.out.cells) (first
                          | (go_at_call 19; refine (HST.out _).mono ?_; rintro r wa ⟨rfl, hB⟩; have GZ1 := hide' (show Gl w wa wr.heap.size z (some ⟨g0, off0, none⟩) M by first | exact GZ.out.step hB | exact GZ.out.drew.step hB); clear hB)
                          | (go_at_call 16; refine (HDZ.out _ (HNZ.out _ _ (by first | exact GZ1.out.2.2 | exact GZ1.out.drew.2.2))).mono ?_; rintro r wb ⟨rfl, hB⟩; have GZ2 := hide' (show Gl w wb wr.heap.size z (some ⟨g0, off0, none⟩) M by first | exact GZ1.out.step hB | exact GZ1.out.drew.step hB); clear hB))
                        clear d0 d1 d2 d3 d4 d5 d6 d7 d8 d9 d10
                        obtain ⟨d0, d1, d2, d3, d4, d5, d6, d7, d8, d9, d10⟩ := GZ2.out.cells
                        go_wp2_with fail
                        go_region_held3 (fun V => V.cell? ⟨wr.heap.size, 6, none⟩ = some (.string z.nx)) (first | go_keep | exact GZ4.out.1.cell rfl | exact GZ3.out.1.cell rfl) (first
                          | (go_at_call 19; refine (HST.out _).mono ?_; rintro r wc ⟨rfl, hB⟩; have GZ3 := hide' (show Gl w wc wr.heap.size z (some ⟨g0, off0, none⟩) M by first | exact GZ2.out.step hB | exact GZ2.out.drew.step hB); clear hB)
                          | (go_at_call 13; refine (HWZ.out _).mono ?_; rintro r wd ⟨rfl, hB⟩; have GZ4 := hide' (show Gl w wd wr.heap.size z (some ⟨g0, off0, none⟩) M by first | exact GZ3.out.step hB | exact GZ3.out.drew.step hB); clear hB))
                        clear d0 d1 d2 d3 d4 d5 d6 d7 d8 d9 d10
                        go_wp2_with fail
                        go_ret
                        exact ⟨by rw [HY.out]; rfl, by first | exact GZ4.out.2.1 | exact GZ4.out.2.1.drew⟩
                      | false =>
                        rw [hwz, if_neg (by decide)] at HY
                        rw [hwz] at HWZ
                        go_wp2_with fail
                        go_region_held3 (fun V => V.cell? ⟨wr.heap.size, 0, none⟩ = some (.string z.o) ∧ V.cell? ⟨wr.heap.size, 1, none⟩ = some (.int .i64 z.t) ∧ V.cell? ⟨wr.heap.size, 2, none⟩ = some (.int .i64 z.c) ∧ V.cell? ⟨wr.heap.size, 3, none⟩ = some (.int .i64 z.l) ∧ V.cell? ⟨wr.heap.size, 4, none⟩ = some (.string z.d) ∧ V.cell? ⟨wr.heap.size, 5, none⟩ = some (.bool z.hb) ∧ V.cell? ⟨wr.heap.size, 6, none⟩ = some (.string z.nx) ∧ V.cell? ⟨wr.heap.size, 7, none⟩ = some (.string z.ow) ∧ V.cell? ⟨wr.heap.size, 8, none⟩ = some (.string z.sl) ∧ V.cell? ⟨wr.heap.size, 9, none⟩ = some (.int .i64 (z.rd : Int)) ∧ V.cell? ⟨wr.heap.size, 10, none⟩ = some (.slice z.p z.ty.length z.ca)) (first | go_keep | exact GZ2.out.cells | exact GZ1.out.cells) (first
                          | (go_at_call 19; refine (HST.out _).mono ?_; rintro r wa ⟨rfl, hB⟩; have GZ1 := hide' (show Gl w wa wr.heap.size z (some ⟨g0, off0, none⟩) M by first | exact GZ.out.step hB | exact GZ.out.drew.step hB); clear hB)
                          | (go_at_call 16; refine (HDZ.out _ (HNZ.out _ _ (by first | exact GZ1.out.2.2 | exact GZ1.out.drew.2.2))).mono ?_; rintro r wb ⟨rfl, hB⟩; have GZ2 := hide' (show Gl w wb wr.heap.size z (some ⟨g0, off0, none⟩) M by first | exact GZ1.out.step hB | exact GZ1.out.drew.step hB); clear hB))
                        clear d0 d1 d2 d3 d4 d5 d6 d7 d8 d9 d10
                        obtain ⟨d0, d1, d2, d3, d4, d5, d6, d7, d8, d9, d10⟩ := GZ2.out.cells
                        go_wp2_with fail
                        go_region_held3 (fun V => V.cell? ⟨wr.heap.size, 6, none⟩ = some (.string z.nx)) (first | go_keep | exact GZ4.out.1.cell rfl | exact GZ3.out.1.cell rfl) (first
                          | (go_at_call 19; refine (HST.out _).mono ?_; rintro r wc ⟨rfl, hB⟩; have GZ3 := hide' (show Gl w wc wr.heap.size z (some ⟨g0, off0, none⟩) M by first | exact GZ2.out.step hB | exact GZ2.out.drew.step hB); clear hB)
                          | (go_at_call 13; refine (HWZ.out _).mono ?_; rintro r wd ⟨rfl, hB⟩; have GZ4 := hide' (show Gl w wd wr.heap.size z (some ⟨g0, off0, none⟩) M by first | exact GZ3.out.step hB | exact GZ3.out.drew.step hB); clear hB))
                        clear d0 d1 d2 d3 d4 d5 d6 d7 d8 d9 d10
                        go_wp2_with fail
                        go_ret
                        exact ⟨by rw [HY.out]; rfl, by first | exact GZ4.out.2.1 | exact GZ4.out.2.1.drew⟩
                  · have hjj : j = M.length := by omega
                    have HY := hide' (HNX.out (HJD.out.trans (js_none HSF.out (fun i hi => HNJ.out i hi (by rw [hjj, HMN.out]; exact hi)))))
                    subst hjj
                    go_wp2_with fail
                    exact ⟨⟨k + 1, by go_num, by omega, HY.out, GJ2.out⟩, by simp [intOf]; omega⟩
      · obtain rfl : k = M.length := by omega
        have HJ : Hid (jnB N q t = 0) := jn_none Hs0.out (fun j hj => HN.out j hj (by rw [HMN.out]; exact hj))
        go_wp2_with fail
        go_ret
        exact ⟨by rw [HJ.out]; rfl, GJ.out.1⟩
end Go.Proofs.YtipifhifjbenlaaGreat
