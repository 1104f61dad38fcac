import Derived.Test.YtmbjmokhkonpiaaGreatDoorMx6
import Derived.Test.YtmbjmokhkonpiaaGreatDoorTie
import Derived.Test.YtmbjmokhkonpiaaGreatDoorCards
import Derived.Stop.LaidErr
import Derived.Lib.LaidTab
import Derived.MakeChecks
import Derived.Lay
import Derived.OpenShut
import Derived.ChangeSame
import Derived.Test.YtmbjmokhkonpiaaGreatDoorMzd
import Derived.Test.YtmbjmokhkonpiaaGreatDoorFt1G
/-
  Proofs: master.Print where something isn't right. (The verifier's own text. Written by mkmx7.py out of Mx6.)
-/
namespace Go.Proofs.YtmbjmokhkonpiaaGreatDoor
set_option linter.unusedVariables false
set_option linter.unusedSimpArgs false
open Go.RowKit Go.Shelf Go.Proofs.YtmbjmokhkonpiaaGreatDoor.Nm

set_option maxRecDepth 100000 in
set_option maxHeartbeats 4000000 in
theorem print_bad (G : List Rn) (y : Rn) (Z : List Rn) (o : ByteArray) (p : Option Addr) (n c : Nat) (w : World) (hn1 : n = (G ++ y :: Z).length) (hat0 : RsAt w p (G ++ y :: Z)) (hn : n ≤ 2000) (hc : n ≤ c ∧ c ≤ 9223372036854775807) (ho : isN o = true) (hR : ∀ x ∈ G, RcOk x) (hbad : zonB y.o y.d y.t y.c y.l = false) (hys : y.o.size ≤ maxLen ∧ y.d.size ≤ 9223372036854775807) (hsum : sumD G ≤ 1048576) (hG : GD w) :
    Calls Tryz.prog 5 #[.slice p n c, .string o] w fun e w' => e = .returned (.tuple #[.string ⟨#[]⟩, .int .i64 8]) ∧ Below w.heap.size w w' := by
  have hGn : G.length < n := by rw [hn1, List.length_append, List.length_cons]; omega
  have hat : ∀ i (hi : i < G.length), ∃ g off, p = some ⟨g, off, none⟩ ∧ g < w.heap.size ∧ w.cell? ⟨g, off + i * 5, none⟩ = some (.string G[i].o) ∧ w.cell? ⟨g, off + i * 5 + 1, none⟩ = some (.int .i64 G[i].t) ∧ w.cell? ⟨g, off + i * 5 + 2, none⟩ = some (.int .i64 G[i].c) ∧ w.cell? ⟨g, off + i * 5 + 3, none⟩ = some (.int .i64 G[i].l) ∧ w.cell? ⟨g, off + i * 5 + 4, none⟩ = some (.string G[i].d) := fun i hi => by
    have h := hat0 i (by rw [List.length_append]; omega)
    rw [List.getElem_append_left hi] at h
    exact h
  have haty : ∃ g off, p = some ⟨g, off, none⟩ ∧ g < w.heap.size ∧ w.cell? ⟨g, off + G.length * 5, none⟩ = some (.string y.o) ∧ w.cell? ⟨g, off + G.length * 5 + 1, none⟩ = some (.int .i64 y.t) ∧ w.cell? ⟨g, off + G.length * 5 + 2, none⟩ = some (.int .i64 y.c) ∧ w.cell? ⟨g, off + G.length * 5 + 3, none⟩ = some (.int .i64 y.l) ∧ w.cell? ⟨g, off + G.length * 5 + 4, none⟩ = some (.string y.d) := by
    have h := hat0 G.length (by rw [List.length_append, List.length_cons]; omega)
    have e : (G ++ y :: Z)[G.length]'(by rw [List.length_append, List.length_cons]; omega) = y := by simp
    rw [e] at h
    exact h
  have HYr := hide' (fun V => isRecord_any y.o y.d y.t y.c y.l V hys.1 hys.2)
  rw [hbad] at HYr
  clear hat0 hn1 hbad hys
  have ho255 := ((isN_iff o).1 ho).1
  have hmo : o.size ≤ maxLen := by unfold maxLen; omega
  have hchk : chk o = 0 := by unfold chk; rw [if_pos ho]
  have HC := hide' (fun V => check_any o V hmo)
  rw [hchk] at HC
  have HSo := hide' (fun V => show_any o V hmo)
  have HW : Hid (∀ (B b : Nat) (x s : ByteArray) (V : World), Bd B b x V → x.size + s.size ≤ 1073741824 → Calls Tryz.prog 10 #[.pointer (some ⟨b, 0, none⟩), .string s] V fun e w' => e = .returned (.tuple #[.int .i64 s.size, .nilIface]) ∧ Bd B b (x ++ s) w' ∧ Below B V w' ∧ Lib.OthersKept 5 (some b) V w') := fun B b x s V h hl => bwrite2_any B b x s V h hl
  have HG := hide' hG
  have hsh := (dom_ok ho).2.1
  rw [cst_plain, lsB_len] at hsh
  have HSz : Hid (∀ i, i ≤ G.length → (prT o (G.take i)).length + 104900000 ≤ 1073741824) := fun i hi => by
    have h1 := prT_len ho i G hR hi
    have h2 := sumD_take G i
    omega
  have HN0 : Hid ((⟨#[]⟩ : ByteArray) ++ ((⟨#[36, 79, 82, 73, 71, 73, 78, 32]⟩ : ByteArray) ++ showB o ++ ⟨#[10]⟩) = bts (prT o (G.take 0)) ∧ ((⟨#[36, 79, 82, 73, 71, 73, 78, 32]⟩ : ByteArray) ++ showB o ++ ⟨#[10]⟩).size ≤ 1073741824) := by
    have e : (⟨#[36, 79, 82, 73, 71, 73, 78, 32]⟩ : ByteArray) ++ showB o ++ ⟨#[10]⟩ = bts (prT o (G.take 0)) := by
      rw [List.take_zero, prT_nil, bts_append, bts_append, bts_ls, ByteArray.append_assoc]
      rfl
    have h1 := HSz.out 0 (Nat.zero_le _)
    rw [e]
    refine ⟨?_, by rw [bts_size]; omega⟩
    exact ByteArray.empty_append
  have HShO : Hid (∀ i (hi : i < G.length) V, Calls Tryz.prog 13 #[.string G[i].o, .string o] V fun e w' => e = .returned (.string (bts (ownL G[i].o o))) ∧ Below V.heap.size V w') := fun i hi V => showOwner_any _ o V (hR _ (List.getElem_mem hi)).o ho
  have HRec : Hid (∀ i (hi : i < G.length) V, Calls Tryz.prog 12 #[.agg #[.string G[i].o, .int .i64 G[i].t, .int .i64 G[i].c, .int .i64 G[i].l, .string G[i].d]] V fun r w' => r = .returned (.bool true) ∧ Below V.heap.size V w') := fun i hi V => by
    have hx := hR _ (List.getElem_mem hi)
    have h := isRecord_any G[i].o G[i].d G[i].t G[i].c G[i].l V (by have := ((isN_iff _).1 hx.o).1; unfold maxLen; omega) (by have := (tellD_len hx).2; omega)
    rwa [hx.zon] at h
  have HShD : Hid (∀ i (hi : i < G.length) V, Below w.heap.size w V → Calls Tryz.prog 14 #[.int .i64 G[i].t, .string G[i].d] V fun e w' => e = .returned (.tuple #[.string (bts (jnW (tellD G[i]))), .int .i64 0]) ∧ Below V.heap.size V w') := fun i hi V hV => by
    have hx := hR _ (List.getElem_mem hi)
    obtain ⟨ps, hp⟩ := hx.p
    obtain ⟨ks, _, _, hok⟩ := ps_ok hp
    rw [tellD_eq hp]
    exact show_yes _ _ ps V hp hok (hG.below hV)
  have HIt : Hid (∀ i (hi : i < G.length) V, Below w.heap.size w V → Calls Tryz.prog 15 #[.int .i64 G[i].l] V fun e w' => e = .returned (.string (bts (dgN G[i].l.toNat))) ∧ Below V.heap.size V w') := fun i hi V hV => by
    have hx := hR _ (List.getElem_mem hi)
    have h0 := hx.l0
    have h1 := hx.l1
    have h := itoa_any G[i].l.toNat V (hG.below hV).gw (by omega)
    rwa [show ((G[i].l.toNat : Nat) : Int) = G[i].l by omega] at h
  have HTn : Hid (∀ i (hi : i < G.length) V, Below w.heap.size w V → Calls Tryz.prog 16 #[.int .i64 G[i].t] V fun e w' => e = .returned (.string (nameT G[i].t)) ∧ Below V.heap.size V w') := fun i hi V hV => by
    have hx := hR _ (List.getElem_mem hi)
    have h0 := hx.t0
    have h1 := hx.t1
    exact typeName_any _ V (hG.below hV).gw (by omega)
  have HRk : Hid (∀ i (hi : i < G.length), RcOk G[i]) := fun i hi => hR _ (List.getElem_mem hi)
  have hnI : ¬ (2000 : Int) < (n : Int) := by omega
  have hso : (showB o).size ≤ 2000 := by omega
  clear hsh hchk hmo ho255 hG hsum hR
  go_enter Tryz.func5, Tryz.ntmps5
  go_wp2_with (first
    | (go_at_call 9; refine (HC.out _).mono ?_; rintro e1 w1 ⟨rfl, hB1⟩; have HBd := hide' (Bd.new w1); have HBl : Hid (Below w.heap.size w (w1.alloc (.cells #[.pointer none, .slice none 0 0] 36))) := hB1.alloc hB1.size _; have hw1 := hB1.size; clear hB1)
    | (go_at_call 11; refine (HSo.out _).mono ?_; rintro e2 w2 ⟨rfl, hB2⟩; have HBd := hide' (HBd.out.below hB2); have HBl := hide' (bstep HBl.out hB2 HBl.out.size); clear hB2)
    | (go_at_call 10; refine (HW.out _ _ _ _ _ HBd.out (by show 0 + _ ≤ _; have := HN0.out.2; omega)).mono ?_; rintro e3 w3 ⟨rfl, hb3, hB3, -⟩; rw [HN0.out.1] at hb3; have HBd := hide' hb3; have HBl := hide' (HBl.out.trans (hB3.mono hw1)); clear hB3 hb3))
  skip
  go_loopw [7, 27] (fun lv iv wr => ∃ i : Nat, lv = .string (lastO ⟨#[]⟩ (G.take i)) ∧ iv = .int .i64 (i : Int) ∧ i ≤ G.length ∧ Hid (Bd w1.heap.size w1.heap.size (bts (prT o (G.take i))) wr) ∧ Hid (Below w.heap.size w wr)) (fun _ iv _ => G.length - (intOf iv).toNat)
  case atStart => exact ⟨0, rfl, rfl, Nat.zero_le _, HBd.out, HBl.out⟩
  case round =>
    clear HBd HBl
    obtain ⟨i, rfl, rfl, hi, HBd, HBl⟩ := hrel
    by_cases hlt : i < G.length
    · obtain ⟨g, off, rfl, hg, y0, y1, y2, y3, y4⟩ := hat i hlt
      replace y0 := (HBl.out.cell (p := ⟨g, off + i * 5, none⟩) hg).trans y0
      replace y1 := (HBl.out.cell (p := ⟨g, off + i * 5 + 1, none⟩) hg).trans y1
      replace y2 := (HBl.out.cell (p := ⟨g, off + i * 5 + 2, none⟩) hg).trans y2
      replace y3 := (HBl.out.cell (p := ⟨g, off + i * 5 + 3, none⟩) hg).trans y3
      replace y4 := (HBl.out.cell (p := ⟨g, off + i * 5 + 4, none⟩) hg).trans y4
      have HNx : Hid (prT o (G.take (i + 1)) = prT o (G.take i) ++ liB (lineR o (lastO ⟨#[]⟩ (G.take i)) G[i]) ∧ lastO ⟨#[]⟩ (G.take (i + 1)) = G[i].o) := by
        have e : G.take (i + 1) = G.take i ++ [G[i]] := by rw [List.take_add_one, List.getElem?_eq_getElem hlt, Option.toList_some]
        rw [e, prT_snoc, lastO_snoc]
        exact ⟨rfl, rfl⟩
      have HS1 := hide' (HSz.out i hi)
      have HS2 := hide' (HSz.out (i + 1) hlt)
      have HA1 := hide' (HShO.out i hlt)
      have HA2 := hide' (HRec.out i hlt)
      have HA3 := hide' (HShD.out i hlt)
      have HA4 := hide' (HIt.out i hlt)
      have HA5 := hide' (HTn.out i hlt)
      have HRx := hide' (HRk.out i hlt)
      generalize lastO ⟨#[]⟩ (G.take i) = la at *
      obtain ⟨x, hx⟩ : ∃ x, G[i] = x := ⟨_, rfl⟩
      rw [hx] at y0 y1 y2 y3 y4 HNx HA1 HA2 HA3 HA4 HA5 HRx
      clear hx
      have pk : (i : Int) < (n : Int) := by omega
      have pk0 : (0 : Int) ≤ (i : Int) := by omega
      have e1 := toList_bt x.o la
      obtain ⟨wa, hwa⟩ : ∃ wa, wr.alloc (.cells #[.string x.o, .int .i64 x.t, .int .i64 x.c, .int .i64 x.l, .string x.d] 30) = wa := ⟨_, rfl⟩
      have HXa : Hid (Bx wa wr.heap.size #[.string x.o, .int .i64 x.t, .int .i64 x.c, .int .i64 x.l, .string x.d] 30) := hwa ▸ World.alloc_heap_new wr _
      have HBa : Hid (Below wr.heap.size wr wa) := hwa ▸ (Below.refl _ wr).alloc (Nat.le_refl _) _
      have QF : Hid (∀ V : World, Bx V wr.heap.size #[.string x.o, .int .i64 x.t, .int .i64 x.c, .int .i64 x.l, .string x.d] 30 → V.cell? ⟨wr.heap.size, 0, none⟩ = some (.string x.o) ∧ V.cell? ⟨wr.heap.size, 1, none⟩ = some (.int .i64 x.t) ∧ V.cell? ⟨wr.heap.size, 2, none⟩ = some (.int .i64 x.c) ∧ V.cell? ⟨wr.heap.size, 3, none⟩ = some (.int .i64 x.l) ∧ V.cell? ⟨wr.heap.size, 4, none⟩ = some (.string x.d)) := fun V h => ⟨h.cell rfl, h.cell rfl, h.cell rfl, h.cell rfl, h.cell rfl⟩
      have HBo : Hid ((bts (prT o (G.take i))).size + (bts (ownL x.o o)).size ≤ 1073741824) := by
        have h1 := ownL_len HRx.out.o ho
        have h2 := HS1.out
        unfold Hid
        rw [bts_size, bts_size]
        omega
      obtain ⟨L4, hL4⟩ : ∃ L4, wd4 (bts (dgN x.l.toNat)) (nameT x.t) (bts (jnW (tellD x))) = L4 := ⟨_, rfl⟩
      have HFin : Hid (bts (prT o (G.take i) ++ ownP o la x) ++ wdT L4 ++ ⟨#[10]⟩ = bts (prT o (G.take (i + 1)))) := by
        rw [← hL4]
        exact print_step o la HRx.out HNx.out.1
      have HTot : Hid ((bts (prT o (G.take i) ++ ownP o la x)).size + (wdT L4).size + 1 + 104900000 ≤ 1073741824) := by
        have h1 := congrArg ByteArray.size HFin.out
        have h2 := HS2.out
        rw [ByteArray.size_append, ByteArray.size_append, bts_size (prT o (G.take (i + 1)))] at h1
        have h3 : (⟨#[10]⟩ : ByteArray).size = 1 := rfl
        unfold Hid
        omega
      have HL4 := hide' hL4
      have HJ : Hid (∀ j (hj : j < 4), (h4 : j < L4.length) → wdT (L4.take (j + 1)) = wdT (L4.take j) ++ (⟨#[9]⟩ ++ L4[j]) ∧ (wdT (L4.take (j + 1))).size ≤ (wdT L4).size) := fun j hj h4 => ⟨wdT_take h4, wdT_le _ _⟩
      clear hL4
      have hBs : w1.heap.size < wr.heap.size := HBd.out.blt
      have HBd := hide' (HBd.out.below HBa.out)
      have HBl := hide' (bstep HBl.out HBa.out HBl.out.size)
      obtain ⟨m, hm⟩ : ∃ m, wr.heap.size = m := ⟨_, rfl⟩
      have hm1 : w1.heap.size < m := by rw [← hm]; exact hBs
      rw [hm] at HXa QF
      by_cases hsame : x.o = la
      all_goals
        first
          | rw [decide_eq_true hsame] at e1
          | rw [decide_eq_false hsame] at e1
        have HSm := hide' hsame
        clear HBa hsame
        obtain ⟨a0, a1, a2, a3, a4⟩ := QF.out wa HXa.out
        go_wp2_with (first
          | (go_at_call 12; refine (HA2.out _).mono ?_; rintro r1 v1 ⟨rfl, hB1⟩; have HX1 := hide' (HXa.out.below hB1 HXa.out.lt); obtain ⟨b0, b1, b2, b3, b4⟩ := QF.out v1 HX1.out; have HBd := hide' (HBd.out.below hB1); have HBl := hide' (bstep HBl.out hB1 HBl.out.size); clear hB1)
          | (go_at_call 13; refine (HA1.out _).mono ?_; rintro r2 v2 ⟨rfl, hB2⟩; have HX2 := hide' (HX1.out.below hB2 HX1.out.lt); have HBd := hide' (HBd.out.below hB2); have HBl := hide' (bstep HBl.out hB2 HBl.out.size); clear hB2)
          | (go_at_call 10; refine (HW.out _ _ _ _ _ HBd.out HBo.out).mono ?_; rintro r3 v3 ⟨rfl, hb3, hB3, hK3⟩; have HX3 : Hid (Bx v3 m #[.string x.o, .int .i64 x.t, .int .i64 x.c, .int .i64 x.l, .string x.d] 30) := ok_bx HX2.out hK3 (by omega) (by decide); obtain ⟨d0, d1, d2, d3, d4⟩ := QF.out v3 HX3.out; have HBd := hide' hb3; have HBl := hide' (HBl.out.trans (hB3.mono hw1)); clear hB3 hb3)
          | (go_at_call 14; refine (HA3.out _ HBl.out).mono ?_; rintro r4 v4 ⟨rfl, hB4⟩; have HX4 : Hid (Bx v4 m #[.string x.o, .int .i64 x.t, .int .i64 x.c, .int .i64 x.l, .string x.d] 30) := (by first | exact HX3.out.below hB4 HX3.out.lt | exact HX1.out.below hB4 HX1.out.lt); obtain ⟨f0, f1, f2, f3, f4⟩ := QF.out v4 HX4.out; have HBd := hide' (HBd.out.below hB4); have HBl := hide' (bstep HBl.out hB4 HBl.out.size); clear hB4))
        go_region_law (first
          | (go_simp; go_at_call 15; refine (HA4.out _ (by first | exact HBl.out | exact below_drewN HBl.out 1 | exact below_drewN HBl.out _)).mono ?_; rintro r5 v5 ⟨rfl, hB5⟩; have HX5 : Hid (Bx v5 m #[.string x.o, .int .i64 x.t, .int .i64 x.c, .int .i64 x.l, .string x.d] 30) := (by first | exact HX4.out.below hB5 HX4.out.lt | exact (bx_d8 HX4.out).below hB5 HX4.out.lt); obtain ⟨g0, g1, g2, g3, g4⟩ := QF.out v5 HX5.out; have HBl5 : Hid (Below w.heap.size w v5) := (by first | exact bstep HBl.out hB5 HBl.out.size | exact bstep (below_drewN HBl.out 1) hB5 (below_drewN HBl.out 1).size | exact bstep (below_drewN HBl.out _) hB5 (below_drewN HBl.out _).size); have HBd5 : Hid (Bd w1.heap.size w1.heap.size _ v5) := (by first | exact HBd.out.below hB5 | exact (HBd.out.below (below_drewN (Below.refl _ _) 1)).below hB5 | exact (HBd.out.below (below_drewN (Below.refl _ _) _)).below hB5); clear hB5)
          | (go_simp; go_at_call 16; refine (HA5.out _ (by first | exact HBl5.out | exact below_drewN HBl5.out 1 | exact below_drewN HBl5.out _)).mono ?_; rintro r6 v6 ⟨rfl, hB6⟩; have HBl6 : Hid (Below w.heap.size w v6) := (by first | exact bstep HBl5.out hB6 HBl5.out.size | exact bstep (below_drewN HBl5.out 1) hB6 (below_drewN HBl5.out 1).size | exact bstep (below_drewN HBl5.out _) hB6 (below_drewN HBl5.out _).size); have HBd6 : Hid (Bd w1.heap.size w1.heap.size _ v6) := (by first | exact HBd5.out.below hB6 | exact (HBd5.out.below (below_drewN (Below.refl _ _) 1)).below hB6 | exact (HBd5.out.below (below_drewN (Below.refl _ _) _)).below hB6); clear hB6))
        all_goals go_wp2_with fail
        all_goals
          have HBY : Hid (Bd w1.heap.size w1.heap.size (bts (prT o (G.take i) ++ ownP o la x)) v6) := (by
            first
              | (have h1 : ownP o la x = [] := if_pos HSm.out
                 unfold Hid
                 rw [h1, List.append_nil]
                 exact HBd6.out)
              | (have h1 : ownP o la x = ownL x.o o := if_neg HSm.out
                 unfold Hid
                 rw [h1, bts_append]
                 exact HBd6.out))
          have hv6 : w1.heap.size < v6.heap.size := HBY.out.blt
          have HQ6 := hide' (own_four v6 (.string (bts (dgN x.l.toNat))) (.string ⟨#[73, 78]⟩) (.string (nameT x.t)) (.string (bts (jnW (tellD x)))))
          have HA6 : Hid (Below v6.heap.size v6 (v6.alloc (.cells #[.string (bts (dgN x.l.toNat)), .string ⟨#[73, 78]⟩, .string (nameT x.t), .string (bts (jnW (tellD x)))] 9))) := (Below.refl _ v6).alloc (Nat.le_refl _) _
          have HBY7 := hide' (HBY.out.below HA6.out)
          have HBl7 := hide' (bstep HBl6.out HA6.out HBl6.out.size)
          generalize v6.alloc (.cells #[.string (bts (dgN x.l.toNat)), .string ⟨#[73, 78]⟩, .string (nameT x.t), .string (bts (jnW (tellD x)))] 9) = v7 at *
          obtain ⟨q, hq⟩ : ∃ q, v6.heap.size = q := ⟨_, rfl⟩
          rw [hq] at HQ6 hv6
          go_simp
          try simp only [hq]
          go_loopw [62] (fun iv wr2 => ∃ j : Nat, iv = .int .i64 (j : Int) ∧ j ≤ 4 ∧ Hid (Bd w1.heap.size w1.heap.size (bts (prT o (G.take i) ++ ownP o la x) ++ wdT (L4.take j)) wr2) ∧ Hid (Below w.heap.size w wr2) ∧ Hid (wr2.ownsRow q 9 1 (.slice (some ⟨q, 0, none⟩) 4 4) 4 (L4.map Value.string))) (fun iv _ => 4 - (intOf iv).toNat)
          case atStart =>
            refine ⟨0, rfl, by omega, ?_, HBl7.out, ?_⟩
            · unfold Hid
              rw [List.take_zero, show wdT [] = ⟨#[]⟩ from rfl, show bts (prT o (G.take i) ++ ownP o la x) ++ (⟨#[]⟩ : ByteArray) = bts (prT o (G.take i) ++ ownP o la x) from ByteArray.append_empty]
              exact HBY7.out
            · unfold Hid
              rw [← HL4.out]
              exact HQ6.out
          case round =>
            obtain ⟨j, rfl, hj, HBj, HLj, HQj⟩ := hrel
            have hrL : G.length ≤ 2000 := by omega
            by_cases hj4 : j < 4
            · have hl4 : j < L4.length := by rw [← HL4.out]; exact hj4
              have hcell := HQj.out.cellAt j (by omega)
              have hcl : (L4.map Value.string)[j]? = some (.string L4[j]) := by rw [List.getElem?_map, List.getElem?_eq_getElem hl4]; rfl
              rw [hcl] at hcell
              have HJ1 := hide' (HJ.out j hj4 hl4)
              have HBw : Hid ((bts (prT o (G.take i) ++ ownP o la x) ++ wdT (L4.take j)).size + ((⟨#[9]⟩ : ByteArray) ++ L4[j]).size ≤ 1073741824 ∧ L4[j].size ≤ 1073741824) := by
                have h1 := HTot.out
                have h2 := HJ1.out.2
                rw [HJ1.out.1, ByteArray.size_append, ByteArray.size_append] at h2
                unfold Hid
                rw [ByteArray.size_append, ByteArray.size_append]
                omega
              generalize L4[j] = wd at *
              have hwz := HBw.out.2
              have pj : (j : Int) < 4 := by omega
              have pj0 : (0 : Int) ≤ (j : Int) := by omega
              clear hcl
              go_wp2_with (go_at_call 10; refine (HW.out _ _ _ _ _ HBj.out HBw.out.1).mono ?_; rintro r8 v8 ⟨rfl, hb8, hB8, hK8⟩; have HB8 := hide' hb8; have HL8 := hide' (HLj.out.trans (hB8.mono hw1)); have HQ8 := hide' (ok_row HQj.out hK8 (fun g e => by have e2 : q = g := Option.some.inj e; omega) (by decide)); clear hb8 hB8 hK8)
              refine ⟨⟨j + 1, by go_num, by omega, ?_, HL8.out, HQ8.out⟩, by simp [intOf]; omega⟩
              unfold Hid
              rw [HJ1.out.1, ← ByteArray.append_assoc]
              exact HB8.out
            · obtain rfl : j = 4 := by omega
              have pj : ¬ (4 : Int) < 4 := by omega
              have HBz : Hid (Bd w1.heap.size w1.heap.size (bts (prT o (G.take i) ++ ownP o la x) ++ wdT L4) wr) := by
                have h := HBj.out
                rw [List.take_of_length_le (l := L4) (by rw [← HL4.out]; exact Nat.le_refl _)] at h
                exact h
              have HBw : Hid ((bts (prT o (G.take i) ++ ownP o la x) ++ wdT L4).size + (⟨#[10]⟩ : ByteArray).size ≤ 1073741824) := by
                have h1 := HTot.out
                have h3 : (⟨#[10]⟩ : ByteArray).size = 1 := rfl
                unfold Hid
                rw [ByteArray.size_append]
                omega
              go_wp2_with (go_at_call 10; refine (HW.out _ _ _ _ _ HBz.out HBw.out).mono ?_; rintro r9 v9 ⟨rfl, hb9, hB9, -⟩; rw [HFin.out] at hb9; have HB9 := hide' hb9; have HL9 := hide' (HLj.out.trans (hB9.mono hw1)); clear hb9 hB9)
              refine ⟨⟨i + 1, (by first | (rw [HNx.out.2]; done) | rw [HNx.out.2, HSm.out]), by go_num, by omega, HB9, HL9⟩, by simp [intOf]; omega⟩
    · obtain rfl : i = G.length := by omega
      obtain ⟨g, off, rfl, hg, y0, y1, y2, y3, y4⟩ := haty
      replace y0 := (HBl.out.cell (p := ⟨g, off + G.length * 5, none⟩) hg).trans y0
      replace y1 := (HBl.out.cell (p := ⟨g, off + G.length * 5 + 1, none⟩) hg).trans y1
      replace y2 := (HBl.out.cell (p := ⟨g, off + G.length * 5 + 2, none⟩) hg).trans y2
      replace y3 := (HBl.out.cell (p := ⟨g, off + G.length * 5 + 3, none⟩) hg).trans y3
      replace y4 := (HBl.out.cell (p := ⟨g, off + G.length * 5 + 4, none⟩) hg).trans y4
      have pk : (G.length : Int) < (n : Int) := by omega
      have pk0 : (0 : Int) ≤ (G.length : Int) := by omega
      obtain ⟨wa, hwa⟩ : ∃ wa, wr.alloc (.cells #[.string y.o, .int .i64 y.t, .int .i64 y.c, .int .i64 y.l, .string y.d] 30) = wa := ⟨_, rfl⟩
      have HXa : Hid (Bx wa wr.heap.size #[.string y.o, .int .i64 y.t, .int .i64 y.c, .int .i64 y.l, .string y.d] 30) := hwa ▸ World.alloc_heap_new wr _
      have HBa : Hid (Below wr.heap.size wr wa) := hwa ▸ (Below.refl _ wr).alloc (Nat.le_refl _) _
      have HBl := hide' (bstep HBl.out HBa.out HBl.out.size)
      have a0 : wa.cell? ⟨wr.heap.size, 0, none⟩ = some (.string y.o) := HXa.out.cell rfl
      have a1 : wa.cell? ⟨wr.heap.size, 1, none⟩ = some (.int .i64 y.t) := HXa.out.cell rfl
      have a2 : wa.cell? ⟨wr.heap.size, 2, none⟩ = some (.int .i64 y.c) := HXa.out.cell rfl
      have a3 : wa.cell? ⟨wr.heap.size, 3, none⟩ = some (.int .i64 y.l) := HXa.out.cell rfl
      have a4 : wa.cell? ⟨wr.heap.size, 4, none⟩ = some (.string y.d) := HXa.out.cell rfl
      clear HBa HXa HBd
      go_wp2_with (go_at_call 12; refine (HYr.out _).mono ?_; rintro r1 v1 ⟨rfl, hB1⟩; have HB1 := hide' (bstep HBl.out hB1 HBl.out.size); clear hB1)
      go_ret2
      exact ⟨rfl, HB1.out⟩
end Go.Proofs.YtmbjmokhkonpiaaGreatDoor

/-
  Which records may be printed: all, or a first one may not, plainly. (The verifier's own text.)
-/
namespace Go.Proofs.YtmbjmokhkonpiaaGreatDoor
set_option linter.unusedVariables false
set_option linter.unusedSimpArgs false
open Go Go.Proofs.YtmbjmokhkonpiaaGreatDoor.Nm

theorem kinds_rngX {t : Int} {ks : List Kind} (h : kindsOf t = some ks) : 1 ≤ t ∧ t ≤ 65535 := by
  rcases Classical.em (1 ≤ t ∧ t ≤ 65535) with hc | hc
  · exact hc
  · unfold kindsOf at h
    iterate 16 rw [if_neg (by omega)] at h
    have hd : ¬ isDT t = true := by
      intro hd
      unfold isDT isTy at hd
      simp at hd
      omega
    rw [if_neg hd] at h
    cases h
theorem rcOk_of {x : Rn} (h : zonB x.o x.d x.t x.c x.l = true) : RcOk x := by
  unfold zonB at h
  simp only [Bool.and_eq_true, decide_eq_true_eq] at h
  obtain ⟨⟨⟨⟨h1, h2⟩, h3⟩, h4⟩, h5⟩ := h
  have hk : ∃ ks, kindsOf x.t = some ks := by
    cases hk : kindsOf x.t with
    | none => unfold errD at h5; rw [hk] at h5; cases h5
    | some ks => exact ⟨ks, rfl⟩
  obtain ⟨ks, hk⟩ := hk
  exact ⟨h1, h2, h3, h4, (kinds_rngX hk).1, (kinds_rngX hk).2, errD_zero h5⟩
theorem first_bad : ∀ R : List Rn, (∀ x ∈ R, RcOk x) ∨ ∃ G y Z, R = G ++ y :: Z ∧ (∀ x ∈ G, RcOk x) ∧ zonB y.o y.d y.t y.c y.l = false
  | [] => .inl fun x hx => by cases hx
  | x :: R => by
    cases hz : zonB x.o x.d x.t x.c x.l with
    | false => exact .inr ⟨[], x, R, rfl, (fun y hy => by cases hy), hz⟩
    | true =>
      rcases first_bad R with h | ⟨G, y, Z, h1, h2, h3⟩
      · refine .inl fun y hy => ?_
        rcases List.mem_cons.1 hy with e | hy
        · rw [e]; exact rcOk_of hz
        · exact h y hy
      · refine .inr ⟨x :: G, y, Z, by rw [h1]; rfl, fun z hzm => ?_, h3⟩
        rcases List.mem_cons.1 hzm with e | hm
        · rw [e]; exact rcOk_of hz
        · exact h2 z hm
end Go.Proofs.YtmbjmokhkonpiaaGreatDoor

namespace Go.Proofs.YtmbjmokhkonpiaaGreatDoor
set_option linter.unusedVariables false
open Go.RowKit Go.Shelf Go.ChangeShapes Go.Proofs.YtmbjmokhkonpiaaGreatDoor.Nm

theorem gTW : Tryz.prog.globalNamed "gazetteer/data.typeWords" = some 0 := by kernel_rfl
theorem gTWType : (Tryz.prog.globals[0]?).map (·.type) = some 69 := by kernel_rfl
theorem gPowType : (Tryz.prog.globals[1]?).map (·.type) = some 123 := by kernel_rfl
theorem cellsStr : Tryz.prog.cellsOf 9 = 1 := by kernel_rfl
theorem cellsInt1 : Tryz.prog.cellsOf 3 = 1 := by kernel_rfl
theorem cellsRow : Tryz.prog.cellsOf 68 = 2 := by kernel_rfl
theorem cellsArr : Tryz.prog.cellsOf 69 = 46 := by kernel_rfl
/-- a row of the table, as it reads -/
def rowD (r : Nat × ByteArray) : DataW Unit := .agg [.lit (.int .i64 (r.1 : Int)), .lit (.string r.2.data.toList)]
theorem tw_datum : Rows.laid_gazetteer_data_typeWords (H := Unit) = .agg (tw.map rowD) := rfl
/-- a table that reads so holds just these cells -/
theorem tw_cells {W : World} {fuel : Nat} {cs : List Value} {p : List MemPlace} (h : DataW.trod (fun _ => ()) Tryz.prog W 0 (fun _ => true) false fuel 69 cs = some (.agg (tw.map rowD), p)) : cs = twV := by
  obtain ⟨xs, m, rfl, hx, hl, hxl, hf⟩ := DataW.trod_array Tryz.underlying69 h
  rw [cellsArr] at hl
  rw [cellsRow] at hf
  have hx1 : tw.map rowD = xs.map (·.1) := by
    have := congrArg Prod.fst hx
    simpa using this
  have key : ∀ i, (hi : i < 23) → cs[i * 2]? = some (.int .i64 ((tw[i]'(by rw [tw_len]; exact hi)).1 : Int)) ∧ cs[i * 2 + 1]? = some (.string (tw[i]'(by rw [tw_len]; exact hi)).2) := fun i hi => by
    have hit : i < tw.length := by rw [tw_len]; exact hi
    have h1 := hf i hi
    have hxi : i < xs.length := by omega
    rw [List.getElem?_eq_getElem hxi] at h1
    have h2 : rowD tw[i] = (xs[i]).1 := by
      have := congrArg (·[i]?) hx1
      simpa [hit, hxi] using this
    obtain ⟨y0, y1, n, hy, _, h3, h4⟩ := trod_struct2 Tryz.underlying68 h1
    obtain ⟨z, hz, rfl, _⟩ := DataW.trod_int Tryz.underlying3 h3
    obtain ⟨s, hs, rfl, _⟩ := DataW.trod_string Tryz.underlying9 h4
    rw [hy] at h2
    simp only [rowD, DataW.agg.injEq, List.cons.injEq, DataW.lit.injEq, Lit.int.injEq, Lit.string.injEq, true_and, and_true] at h2
    obtain ⟨h5, h6⟩ := h2
    have h7 : tw[i].2 = s := by apply ByteArray.ext; apply Array.toList_inj.1; exact h6
    constructor
    · have := congrArg (·[0]?) hz
      rw [h5]
      simpa [cellsInt1, List.getElem?_take, List.getElem?_drop] using this
    · have := congrArg (·[0]?) hs
      rw [h7]
      simpa [cellsStr, List.getElem?_take, List.getElem?_drop] using this
  have hlt : twV.length = 46 := rfl
  apply List.ext_getElem?
  intro j
  by_cases hj : j < 46
  · obtain ⟨k1, k2⟩ := key (j / 2) (by omega)
    obtain ⟨g1, g2⟩ := tw_get tw (j / 2) (by rw [tw_len]; omega)
    rcases (show j = j / 2 * 2 ∨ j = j / 2 * 2 + 1 by omega) with e | e
    · rw [e, k1]; exact g1.symm
    · rw [e, k2]; exact g2.symm
  · rw [List.getElem?_eq_none (by omega), List.getElem?_eq_none (by omega)]
theorem tw_of_head {W : World} {rest : List (String × DataW Unit)} (h : laidMet Tryz.prog (("gazetteer/data.typeWords", Rows.laid_gazetteer_data_typeWords) :: rest) W) : TW W := by
  obtain ⟨ps, ⟨g', t', cs, fuel, p, q, hg', ht', hvar, hd, _, _⟩, _⟩ := h
  obtain rfl := Option.some.inj (gTW.symm.trans hg')
  obtain rfl := Option.some.inj (gTWType.symm.trans ht')
  rw [tw_datum] at hd
  have hc := tw_cells hd
  unfold World.var? at hvar
  rw [gTW] at hvar
  simp only [Option.bind_some] at hvar
  split at hvar
  · rename_i cs' ty fr hh
    injection hvar with hvar
    subst hvar
    refine ⟨ty, fr, ?_⟩
    rw [hh, ← hc]
  · cases hvar
def db64 : List Int := [0, 1, 56, 2, 57, 49, 28, 3, 61, 58, 42, 50, 38, 29, 17, 4, 62, 47, 59, 36, 45, 43, 51, 22, 53, 39, 33, 30, 24, 18, 12, 5, 63, 55, 48, 27, 60, 41, 37, 16, 46, 35, 44, 21, 52, 32, 23, 11, 54, 26, 40, 15, 34, 20, 31, 10, 25, 14, 19, 9, 13, 8, 7, 6]
theorem db64_datum : Rows.laid_math_bits_deBruijn64tab (H := Unit) = Lib.tabData .u8 db64 := rfl
theorem gDb : Tryz.prog.globalNamed "math/bits.deBruijn64tab" = some 4 := by kernel_rfl
theorem gDbType : (Tryz.prog.globals[4]?).map (·.type) = some 130 := by kernel_rfl
theorem gd_laid {W : World} (hL : laidMetH Tryz.prog Rows.masterPrintsUptoRow.laid W) (hm : Gm W) : GD W := by
  rw [MakeChecks.laidMetH_plain _ _ _ (by kernel_rfl)] at hL
  have h1 : laidMet Tryz.prog [("math/bits.deBruijn64tab", Rows.laid_math_bits_deBruijn64tab), ("internal/strconv.uint64pow10", Rows.laid_internal_strconv_uint64pow10), ("gazetteer/data.typeWords", Rows.laid_gazetteer_data_typeWords)] W := hL.tail
  have h2 : laidMet Tryz.prog [("internal/strconv.uint64pow10", Rows.laid_internal_strconv_uint64pow10), ("gazetteer/data.typeWords", Rows.laid_gazetteer_data_typeWords)] W := h1.tail
  refine ⟨⟨tw_of_head h2.tail, ?_, trivial⟩, hm, ?_⟩
  · exact Lib.tabIs_of_head (t := 123) gPow gPowType Tryz.underlying123 Tryz.underlying115 (by kernel_rfl) (by kernel_rfl) h2
  · rw [db64_datum] at h1
    have ht := Lib.tabIs_of_head (t := 130) gDb gDbType Tryz.underlying130 Tryz.underlying5 (by kernel_rfl) (by kernel_rfl) h1
    exact ht.cell gDb 15 (by decide)
end Go.Proofs.YtmbjmokhkonpiaaGreatDoor

/-
  MasterPrints. (The verifier's own text.)
-/
namespace Go.Proofs.YtmbjmokhkonpiaaGreatDoor
set_option linter.unusedVariables false
set_option linter.unusedSimpArgs false
open Go.RowKit Go.Shelf Go.Proofs.YtmbjmokhkonpiaaGreatDoor.Nm

set_option maxRecDepth 100000 in
set_option maxHeartbeats 2000000 in
/-- Print, at no origin -/
theorem print_none (o : ByteArray) (p : Option Addr) (n c : Nat) (w : World) (hmo : o.size ≤ maxLen) (ho : isN o = false) :
    Calls Tryz.prog 5 #[.slice p n c, .string o] w fun e w' => e = .returned (.tuple #[.string ⟨#[]⟩, .int .i64 1]) ∧ Below w.heap.size w w' := by
  have HC := hide' (fun V => check_any o V hmo)
  have hchk : chk o = 1 := by unfold chk; rw [ho]; rfl
  rw [hchk] at HC
  clear hchk ho
  go_enter Tryz.func5, Tryz.ntmps5
  go_wp2_with (go_at_call 9; refine (HC.out _).mono ?_; rintro e1 w1 ⟨rfl, hB1⟩; have HB1 := hide' hB1; clear hB1)
  go_ret2
  exact ⟨rfl, HB1.out⟩
set_option maxRecDepth 100000 in
set_option maxHeartbeats 2000000 in
/-- .. of too many records -/
theorem print_many (o : ByteArray) (p : Option Addr) (n c : Nat) (w : World) (hmo : o.size ≤ maxLen) (hc : n ≤ c ∧ c ≤ 9223372036854775807) (ho : isN o = true) (hn : 2000 < n) :
    Calls Tryz.prog 5 #[.slice p n c, .string o] w fun e w' => e = .returned (.tuple #[.string ⟨#[]⟩, .int .i64 20]) ∧ Below w.heap.size w w' := by
  have HC := hide' (fun V => check_any o V hmo)
  have hchk : chk o = 0 := by unfold chk; rw [ho]; rfl
  rw [hchk] at HC
  have hnI : (2000 : Int) < (n : Int) := by omega
  clear hchk ho
  go_enter Tryz.func5, Tryz.ntmps5
  go_wp2_with (go_at_call 9; refine (HC.out _).mono ?_; rintro e1 w1 ⟨rfl, hB1⟩; have HB1 := hide' hB1; clear hB1)
  go_ret2
  exact ⟨rfl, HB1.out⟩
set_option maxRecDepth 100000 in
set_option maxHeartbeats 4000000 in
/-- the law, where both tell the same -/
theorem prints_law (L : List Rn) (p : Option Addr) (cap : Nat) (o S : ByteArray) (E : Int) (w : World) (hL : L.length ≤ 1048576) (hat : RsAt w p L) (hn : p = none → cap = 0)
    (hP : ∀ (g c : Nat) (V : World), Below w.heap.size w V → RsAt V (some ⟨g, 0, none⟩) (L ++ [spR, spR]) → L.length ≤ c ∧ c ≤ 9223372036854775807 → Calls Tryz.prog 5 #[.slice (some ⟨g, 0, none⟩) L.length c, .string o] V fun e w' => e = .returned (.tuple #[.string S, .int .i64 E]) ∧ Below V.heap.size V w')
    (hQ : ∀ V, Below w.heap.size w V → Calls Tryz.prog 6 #[.slice p L.length cap, .string o] V fun e w' => e = .returned (.tuple #[.string S, .int .i64 E]) ∧ Below V.heap.size V w') :
    Calls Tryz.prog 3 #[.slice p L.length cap, .string o] w fun e w' => e = .returned (.bool true) ∧ Below w.heap.size w w' := by
  have HA := hide' hat
  have HT := hide' (twin_any L p cap w hL hat hn)
  have HP := hide' hP
  have HQ := hide' hQ
  clear hP hQ hat
  have FT1 : Hid True := trivial
  go_enter Tryz.func3, Tryz.ntmps3
  go_wp2_with (first
    | (go_at_call 4; have _ := FT1; clear FT1; refine HT.out.mono ?_; rintro e1 w1 ⟨g, c, rfl, ho1, hB1⟩; have hc1 := own_cap ho1; have HC1 : Hid (L.length + 2 ≤ c ∧ L.length ≤ c ∧ c ≤ 9223372036854775807) := (by unfold Hid; unfold maxLen at hc1; omega); have HO1 := hide' (rs_own5 ho1); have HB1 := hide' hB1; clear ho1 hB1 hc1)
    | (go_at_call 5; refine (HP.out g c w1 HB1.out HO1.out HC1.out.2).mono ?_; rintro e2 w2 ⟨rfl, hB2⟩; have HO2 := hide' (rsAt_below7 HO1.out hB2); have HB2 := hide' (bstep HB1.out hB2 HB1.out.size); clear hB2)
    | (go_at_call 6; refine (HQ.out w2 HB2.out).mono ?_; rintro e3 w3 ⟨rfl, hB3⟩; have HO3 := hide' (rsAt_below7 HO2.out hB3); have HB3 := hide' (bstep HB2.out hB3 HB2.out.size); clear hB3)
    | (go_at_call 7; refine (wholeL_any L g c p cap _ hL HO3.out HC1.out.1 (rsAt_below7 HA.out HB3.out)).mono ?_; rintro e4 w4 ⟨rfl, hB4⟩; have HB4 := hide' (bstep HB3.out hB4 HB3.out.size); clear hB4))
  all_goals go_ret
  all_goals exact ⟨rfl, HB4.out⟩
/-- MasterPrints -/
theorem masterPrints_any (R : List Rn) (p : Option Addr) (c : Nat) (o : ByteArray) (w : World) (hG : GD w) (hat : RsAt w p R) (hc : R.length ≤ c ∧ c ≤ 9223372036854775807) (hn : p = none → c = 0)
    (hmo : o.size ≤ 1048576) (hl0 : R.length ≤ 1048576) (hsum : sumD R ≤ 1048576) (hsz : ∀ x ∈ R, x.o.size ≤ 1048576 ∧ x.d.size ≤ 9223372036854775807) :
    Calls Tryz.prog 3 #[.slice p R.length c, .string o] w fun e w' => e = .returned (.bool true) ∧ Below w.heap.size w w' := by
  cases ho : isN o with
  | false =>
    exact prints_law R p c o ⟨#[]⟩ 1 w hl0 hat hn (fun g c V _ _ hc => print_none o _ _ _ V (by unfold maxLen; omega) ho) (fun V _ => refPrint_none o _ _ _ V hmo ho)
  | true =>
    by_cases hl : 2000 < R.length
    · exact prints_law R p c o ⟨#[]⟩ 20 w hl0 hat hn (fun g c V _ _ hc => print_many o _ _ _ V (by unfold maxLen; omega) hc ho hl) (fun V _ => refPrint_many o _ _ _ V hmo ho hl hc)
    · rcases first_bad R with hR | ⟨G, y, Z, e, hGo, hbad⟩
      · refine prints_law R p c o (bts (prT o R)) 0 w hl0 hat hn (fun g c V hV ha hc => print_yes R o _ c V (rs_left ha) (by omega) hc ho hR hsum (hG.below hV)) (fun V hV => ?_)
        refine (refPrint_any R R.length o p c V (rsAt_below7 hat hV) (by omega) hc ho (Nat.le_refl _) (by rw [List.take_length]; exact hR) (fun h => absurd h (Nat.lt_irrefl _)) (by rw [List.take_length]; exact hsum)).mono fun e w' ⟨h1, h2⟩ => ⟨?_, h2⟩
        rwa [if_pos rfl] at h1
      · have hs : sumD G ≤ 1048576 := by
          have : sumD R = sumD G + sumD (y :: Z) := by rw [e]; simp [sumD]
          omega
        have hy := hsz y (by rw [e]; simp)
        have hm : G.length < R.length := by rw [e, List.length_append, List.length_cons]; omega
        have hk : R.take G.length = G := by rw [e, List.take_left]
        have hg : R[G.length] = y := by simp [e]
        refine prints_law R p c o ⟨#[]⟩ 8 w hl0 hat hn (fun g c V hV ha hc => print_bad G y Z o _ R.length c V (by rw [e]) (by rw [← e]; exact rs_left ha) (by omega) hc ho hGo hbad ⟨by have := hy.1; unfold maxLen; omega, hy.2⟩ hs (hG.below hV)) (fun V hV => ?_)
        refine (refPrint_any R G.length o p c V (rsAt_below7 hat hV) (by omega) hc ho (Nat.le_of_lt hm) (by rw [hk]; exact hGo) (fun h => by rw [hg]; exact ⟨hbad, hy.1, hy.2⟩) (by rw [hk]; exact hs)).mono fun e w' ⟨h1, h2⟩ => ⟨?_, h2⟩
        rwa [if_neg (Nat.ne_of_lt hm)] at h1
end Go.Proofs.YtmbjmokhkonpiaaGreatDoor
