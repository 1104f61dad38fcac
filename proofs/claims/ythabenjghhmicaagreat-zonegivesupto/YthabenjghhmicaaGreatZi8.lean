import Derived.Test.YthabenjghhmicaaGreatZi7
import Derived.Test.YthabenjghhmicaaGreatZi2
/-
  Proofs: ZoneGives. (The verifier's own text.)
-/
namespace Go.Proofs.YthabenjghhmicaaGreat
set_option linter.unusedVariables false
set_option linter.unusedSimpArgs false
open Go.RowKit Go.Shelf Go.Maps Go.Proofs.YthabenjghhmicaaGreat.Nm Go.Proofs.YthabenjghhmicaaGreat.Zs

section
variable {n : Nat} {W : World} {apex : ByteArray} {L : List Rn} {ord : List Nat} {Z RW NM C m cnt : Nat} {p : Option Addr} {cp : Nat} {f : ByteArray → Option Nat}
theorem Zon.alone (h : Zon n W apex L ord Z RW NM C m cnt p cp f) : ∀ x ∈ ord.map (rAt L), ∀ y ∈ ord.map (rAt L), x.t = 5 → x ≠ y → eqB y.o x.o = true → othB y = false := by
  intro x hx y hy ht hne he
  have h8 : fstI (brkB apex L 8) L.length = -2 := h.rule (i := 5) (by show 5 < 8; omega)
  obtain ⟨i, hi, rfl⟩ := mem_at (h.laid.perm.mem_iff.1 hx)
  obtain ⟨j, hj, rfl⟩ := mem_at (h.laid.perm.mem_iff.1 hy)
  have hb : brk8 L i (rAt L i) = false := fst_inv h8 i hi
  unfold brk8 at hb
  rw [decide_eq_true ht, Bool.true_and, List.any_eq_false] at hb
  have := hb j (List.mem_range.2 hj)
  have hji : j ≠ i := fun e => hne (by rw [e])
  rw [decide_eq_false hji, he] at this
  simpa using this
/-- what Find says of a record that stands there -/
theorem Zon.gives (h : Zon n W apex L ord Z RW NM C m cnt p cp f) {x : Rn} (hx : x ∈ L) (hc : countB x = true) (h3 : (findB apex (ord.map (rAt L)) x.o x.t).k ≠ 3) (h4 : (findB apex (ord.map (rAt L)) x.o x.t).k ≠ 4) (h2 : ¬ ((findB apex (ord.map (rAt L)) x.o x.t).k = 2 ∧ (x.t = 46 ∨ x.t = 47))) :
    (findB apex (ord.map (rAt L)) x.o x.t).k = 1 ∧ (findB apex (ord.map (rAt L)) x.o x.t).w = false ∧ x ∈ (findB apex (ord.map (rAt L)) x.o x.t).r := by
  rw [find_both h.laid.na h.ownIn h.rthApex] at h2 h3 h4 ⊢
  exact gives_one h.ownIn h.laid.tok h.alone (h.laid.perm.mem_iff.2 hx) hc h3 h4 h2
theorem Zon.stands (h : Zon n W apex L ord Z RW NM C m cnt p cp f) (q : ByteArray) (t : Int) : ∀ y ∈ (findB apex (ord.map (rAt L)) q t).r, thereB L q (findB apex (ord.map (rAt L)) q t).o (findB apex (ord.map (rAt L)) q t).w y := by
  rw [find_both h.laid.na h.ownIn h.rthApex]
  intro y hy
  obtain ⟨x, hx, h1, h2⟩ := gives_two h.laid.na h.ownIn q t y hy
  exact ⟨x, h.laid.perm.mem_iff.1 hx, h1, h2⟩
end
theorem find_osz {n : Nat} {W : World} {apex : ByteArray} {L : List Rn} {ord : List Nat} {Z RW NM C m cnt : Nat} {p : Option Addr} {cp : Nat} {f : ByteArray → Option Nat} (h : Zon n W apex L ord Z RW NM C m cnt p cp f) (q : ByteArray) (t : Int) (hq : q.size ≤ 1048576) : (findB apex (ord.map (rAt L)) q t).o.size ≤ maxLen := by
  rw [find_both h.laid.na h.ownIn h.rthApex]
  by_cases hin : withinB q apex = true ∧ 1 ≤ t ∧ t ≤ 65535
  · rw [rfind_in hin.1 hin.2.1 hin.2.2]
    obtain ⟨ke, e1, e2, e3, e4, e5⟩ := renc_max hin.1 h.rthApex
    obtain ⟨g1, g2, g3, g4⟩ := (withinB_iff q apex).1 hin.1
    have hs := tailB_size q (ke : Int)
    have hst := star_le (m := renc (ord.map (rAt L)) q) (by rw [e3]; exact hs)
    split
    · rename_i hl
      rcases lv_both h.laid.na h.ownIn t hin.1 with ⟨k, hk, hz, r1, r2⟩ | ⟨r1, r2⟩
      · rw [r1]
        have := tailB_size q (k : Int)
        show (tailB q (k : Int)).size ≤ maxLen
        unfold maxLen; omega
      · rw [r1] at hl; simp at hl
    · split
      · show q.size ≤ maxLen
        unfold maxLen; omega
      · split
        · show (starB (renc (ord.map (rAt L)) q)).size ≤ maxLen
          unfold maxLen; omega
        · show q.size ≤ maxLen
          unfold maxLen; omega
  · have e : rfind apex (ord.map (rAt L)) q t = noFd := by unfold rfind; rw [if_neg hin]
    rw [e]
    show (ByteArray.size ⟨#[]⟩) ≤ maxLen
    unfold maxLen; decide

set_option maxRecDepth 100000 in
set_option maxHeartbeats 16000000 in
/-- ZoneGives -/
theorem zoneGives_any (apex : ByteArray) (L : List Rn) (p : Option Addr) (cap : Nat) (q : ByteArray) (t : Int) (w : World) (hap : apex.size ≤ 1048576) (hL : L.length ≤ 1048576) (hat : RsAt w p L) (hs : ∀ j, j < L.length → rSm (rAt L j)) (hq : q.size ≤ 1048576) :
    Calls Tryz.prog 6 #[.string apex, .slice p L.length cap, .string q, .int .i64 t] w fun r w' => r = .returned (.bool true) ∧ Below w.heap.size w w' := by
  have HNw := hide' (new_any apex L p cap w hL hat hs hap)
  have HBg := hide' (fun V => begins_any V)
  by_cases hz : (mkC apex L).2 ≠ 0
  · obtain ⟨a, c0, hac⟩ : ∃ a c, mkC apex L = (a, c) := ⟨_, _, rfl⟩
    rw [hac] at hz
    have hc0 : (c0 != 0) = true := by simpa using hz
    have HN2 : Hid (∀ (V : World) (r : Ending) (w' : World), NwE apex L V r w' → r = .returned (.tuple #[.pointer none, .int .i64 a, .int .i64 c0]) ∧ Below V.heap.size V w') := fun V r w' h => by
      have := h.no (by rw [hac]; exact hz)
      rw [hac] at this
      exact ⟨this, h.bl⟩
    clear hz hac hat hs
    go_enter Tryz.func6, Tryz.ntmps6
    go_wp2_with (first
      | (go_at_call 10; refine HNw.out.mono ?_; intro e w2 hnw; obtain ⟨rfl, hB2⟩ := HN2.out _ _ _ hnw; have HB2 := hide' hB2; clear hnw hB2)
      | (go_at_call 25; refine (HBg.out _).mono ?_; rintro e w3 ⟨rfl, hB3⟩; have HB3 := hide' (bstep HB2.out hB3 HB2.out.size); clear hB3))
    go_ret
    exact ⟨rfl, HB3.out⟩
  · have hz0 : (mkC apex L).2 = 0 := by simpa using hz
    have HN2 : Hid (∀ (V : World) (r : Ending) (w' : World), NwE apex L V r w' → ∃ ord Z RW NM C m cnt p cp f, r = .returned (.tuple #[.pointer (some ⟨Z, 0, none⟩), .int .i64 0, .int .i64 0]) ∧ Zon V.heap.size w' apex L ord Z RW NM C m cnt p cp f ∧ Below V.heap.size V w') := fun V r w' h => by
      obtain ⟨ord, Z, RW, NM, C, m, cnt, p, cp, f, h1, h2⟩ := h.yes hz0
      exact ⟨ord, Z, RW, NM, C, m, cnt, p, cp, f, h1, h2, h.bl⟩
    have HAT := hide' hat
    have HS := hide' hs
    clear hz hz0 hat hs
    go_enter Tryz.func6, Tryz.ntmps6
    go_wp2_with (first
      | (go_at_call 10; refine HNw.out.mono ?_; intro e w2 hnw; obtain ⟨ord, Z, RW, NM, C, m, cnt, pz, cz, f, rfl, hzo, hB2⟩ := HN2.out _ _ _ hnw; have HZ2 := hide' hzo; have HB2 := hide' hB2; clear hnw hB2 hzo)
      | (go_at_call 25; refine (HBg.out _).mono ?_; rintro e w3 ⟨rfl, hB3⟩; have HZ3 := hide' (HZ2.out.step hB3); have HB3 := hide' (bstep HB2.out hB3 HB2.out.size); clear hB3))
    go_loopw [39] (fun kv wv => ∃ k : Nat, kv = .int .i64 (k : Int) ∧ k ≤ L.length ∧ Hid (Below w3.heap.size w3 wv)) (fun kv _ => L.length - (intOf kv).toNat)
    case atStart => exact ⟨0, rfl, Nat.zero_le _, Below.refl _ _⟩
    case round =>
      obtain ⟨k, rfl, hk, HBv⟩ := hrel
      have HBw := hide' (bstep HB3.out HBv.out HB3.out.size)
      have HZv := hide' (HZ3.out.step HBv.out)
      obtain ⟨wo, rfl⟩ : ∃ wo, wo = wr := ⟨_, rfl⟩
      by_cases hlt : k < L.length
      · obtain ⟨g, off, hp⟩ := rs_at HAT.out hlt
        subst hp
        obtain ⟨y0, y1, y2, y3, y4⟩ := rs_cells HAT.out rfl hlt HBw.out
        have hsm := HS.out k hlt
        have hmem := rAt_mem hlt
        have K0 := hide' (Bk.start wo (rAt L k))
        have HC := hide' (fun V => rcounts_any (rAt L k) V hsm.2)
        obtain ⟨F, hF⟩ : ∃ F, findB apex (ord.map (rAt L)) (rAt L k).o (rAt L k).t = F := ⟨_, rfl⟩
        have HFx : Hid (∀ (V : World) n, Zon n V apex L ord Z RW NM C m cnt pz cz f → Calls Tryz.prog 12 #[.pointer (some ⟨Z, 0, none⟩), .string (rAt L k).o, .int .i64 (rAt L k).t] V fun r w' => ∃ fp fc, r = .returned (.agg #[.int .i64 F.k, .string F.o, .string F.e, .bool F.w, .slice fp F.r.length fc]) ∧ RsAt w' fp F.r ∧ Below V.heap.size V w') := fun V n h => by
          have h0 := find_any h (rAt L k).o (rAt L k).t hsm.1
          rw [hF] at h0
          refine h0.mono ?_
          rintro r w' ⟨⟨v, rfl, ho⟩, hb⟩
          obtain ⟨p5, c5, rfl, _, _, _⟩ := own_shape ho
          exact ⟨_, _, rfl, rsAt_ownZ ho rfl, hb⟩
        have HG := hide' (fun a b c d => HZv.out.gives hmem a b c d)
        have HFR : Hid (F.r.length ≤ 2000) := by rw [← hF]; exact Nat.le_trans (find_len _ _ _ _) (by rw [HZv.out.laid.tlen]; exact HZv.out.few)
        rw [hF] at HG
        clear hF
        obtain ⟨fk, fo, fe, fw, fr⟩ := F
        simp only at HFx HG HFR
        obtain ⟨x, hx⟩ : ∃ x, rAt L k = x := ⟨_, rfl⟩
        rw [hx] at y0 y1 y2 y3 y4 K0 HC HFx HG
        obtain ⟨wa, hwa⟩ : ∃ wa, wo.alloc (.cells #[.string x.o, .int .i64 x.t, .int .i64 x.c, .int .i64 x.l, .string x.d] 54) = wa := ⟨_, rfl⟩
        rw [hwa] at K0
        have HZa := hide' (HZv.out.step (hwa ▸ (Below.refl _ wo).alloc (Nat.le_refl _) _))
        obtain ⟨v0, v1, v2, v3, v4⟩ := K0.out.cells
        clear hx hsm hmem
        obtain ⟨xo, xt, xc, xl, xd⟩ := x
        unfold rcV at HC
        simp only at y0 y1 y2 y3 y4 v0 v1 v2 v3 v4 hwa HC HFx HG
        obtain ⟨Cn, hCn⟩ : ∃ Cn, countB ⟨xo, xt, xc, xl, xd⟩ = Cn := ⟨_, rfl⟩
        rw [hCn] at HC HG
        clear hCn
        have HArm : Hid (∀ (w4 : World) fp fc wb, RsAt w4 fp fr → Below wa.heap.size wa w4 → w4.alloc (.cells #[.int .i64 fk, .string fo, .string fe, .bool fw, .slice fp fr.length fc] 34) = wb → ∀ V, Below wb.heap.size wb V → V.cell? ⟨w4.heap.size, 0, none⟩ = some (.int .i64 fk) ∧ V.cell? ⟨w4.heap.size, 3, none⟩ = some (.bool fw) ∧ V.cell? ⟨w4.heap.size, 4, none⟩ = some (.slice fp fr.length fc) ∧ V.cell? ⟨wo.heap.size, 0, none⟩ = some (.string xo) ∧ V.cell? ⟨wo.heap.size, 1, none⟩ = some (.int .i64 xt) ∧ V.cell? ⟨wo.heap.size, 2, none⟩ = some (.int .i64 xc) ∧ V.cell? ⟨wo.heap.size, 3, none⟩ = some (.int .i64 xl) ∧ V.cell? ⟨wo.heap.size, 4, none⟩ = some (.string xd) ∧ RsAt V fp fr ∧ Below w3.heap.size w3 V) := fun w4 fp fc wb hrs hB4 hwb V hV => by
          have hbb : Below w4.heap.size w4 wb := hwb ▸ (Below.refl _ w4).alloc (Nat.le_refl _) _
          have hfb : Bx wb w4.heap.size #[.int .i64 fk, .string fo, .string fe, .bool fw, .slice fp fr.length fc] 34 := hwb ▸ World.alloc_heap_new w4 _
          have hx4 := K0.out.step (bstep hB4 hbb hB4.size)
          have hxV := hx4.step hV
          obtain ⟨b0, b1, b2, b3, b4, _⟩ := bx5_cells (hfb.below hV hfb.lt)
          obtain ⟨d0, d1, d2, d3, d4⟩ := hxV.cells
          exact ⟨b0, b3, b4, d0, d1, d2, d3, d4, rs_stay (rs_stay hrs hbb) hV, bstep HBv.out hxV.bl HBv.out.size⟩
        have pk : (k : Int) < (L.length : Int) := by omega
        by_cases h4 : fk = 4
        · subst h4
          go_wp2_with (go_at_call 12; refine (HFx.out _ _ HZa.out).mono ?_; rintro e w4 ⟨fp, fc, rfl, hrs, hB4⟩; obtain ⟨wb, hwb⟩ : ∃ wb, w4.alloc (.cells #[.int .i64 4, .string fo, .string fe, .bool fw, .slice fp fr.length fc] 34) = wb := ⟨_, rfl⟩; have HA := hide' (HArm.out _ _ _ _ hrs hB4 hwb); have hB := Below.refl wb.heap.size wb; obtain ⟨a0, a3, a4, u0, u1, u2, u3, u4, _, _⟩ := HA.out _ hB; clear hrs hB4)
          exact ⟨⟨k + 1, by go_num, by omega, (HA.out _ hB).2.2.2.2.2.2.2.2.2⟩, by simp [intOf] <;> omega⟩
        by_cases h3 : fk = 3
        · subst h3
          go_wp2_with (go_at_call 12; refine (HFx.out _ _ HZa.out).mono ?_; rintro e w4 ⟨fp, fc, rfl, hrs, hB4⟩; obtain ⟨wb, hwb⟩ : ∃ wb, w4.alloc (.cells #[.int .i64 3, .string fo, .string fe, .bool fw, .slice fp fr.length fc] 34) = wb := ⟨_, rfl⟩; have HA := hide' (HArm.out _ _ _ _ hrs hB4 hwb); have hB := Below.refl wb.heap.size wb; obtain ⟨a0, a3, a4, u0, u1, u2, u3, u4, _, _⟩ := HA.out _ hB; clear hrs hB4)
          exact ⟨⟨k + 1, by go_num, by omega, (HA.out _ hB).2.2.2.2.2.2.2.2.2⟩, by simp [intOf] <;> omega⟩
        have h4b : (fk == 4) = false := by simp [h4]
        have h3b : (fk == 3) = false := by simp [h3]
        cases Cn with
        | false =>
          clear h3 h4
          go_wp2_with (first
            | (go_at_call 12; refine (HFx.out _ _ HZa.out).mono ?_; rintro e w4 ⟨fp, fc, rfl, hrs, hB4⟩; obtain ⟨wb, hwb⟩ : ∃ wb, w4.alloc (.cells #[.int .i64 fk, .string fo, .string fe, .bool fw, .slice fp fr.length fc] 34) = wb := ⟨_, rfl⟩; have HA := hide' (HArm.out _ _ _ _ hrs hB4 hwb); have hB := Below.refl wb.heap.size wb; obtain ⟨a0, a3, a4, u0, u1, u2, u3, u4, _, _⟩ := HA.out _ hB; clear hrs hB4)
            | (go_at_call 26; refine (HC.out _).mono ?_; rintro e w5 ⟨rfl, hB5⟩; have hB := bstep hB hB5 hB.size; obtain ⟨a0, a3, a4, u0, u1, u2, u3, u4, _, _⟩ := HA.out _ hB; clear hB5))
          exact ⟨⟨k + 1, by go_num, by omega, (HA.out _ hB).2.2.2.2.2.2.2.2.2⟩, by simp [intOf] <;> omega⟩
        | true =>
          by_cases h2 : fk = 2 ∧ (xt = 46 ∨ xt = 47)
          · obtain ⟨rfl, h2 | h2⟩ := h2
            · subst h2
              clear h3 h4
              go_wp2_with (first
                | (go_at_call 12; refine (HFx.out _ _ HZa.out).mono ?_; rintro e w4 ⟨fp, fc, rfl, hrs, hB4⟩; obtain ⟨wb, hwb⟩ : ∃ wb, w4.alloc (.cells #[.int .i64 2, .string fo, .string fe, .bool fw, .slice fp fr.length fc] 34) = wb := ⟨_, rfl⟩; have HA := hide' (HArm.out _ _ _ _ hrs hB4 hwb); have hB := Below.refl wb.heap.size wb; obtain ⟨a0, a3, a4, u0, u1, u2, u3, u4, _, _⟩ := HA.out _ hB; clear hrs hB4)
                | (go_at_call 26; refine (HC.out _).mono ?_; rintro e w5 ⟨rfl, hB5⟩; have hB := bstep hB hB5 hB.size; obtain ⟨a0, a3, a4, u0, u1, u2, u3, u4, _, _⟩ := HA.out _ hB; clear hB5))
              exact ⟨⟨k + 1, by go_num, by omega, (HA.out _ hB).2.2.2.2.2.2.2.2.2⟩, by simp [intOf] <;> omega⟩
            · subst h2
              clear h3 h4
              go_wp2_with (first
                | (go_at_call 12; refine (HFx.out _ _ HZa.out).mono ?_; rintro e w4 ⟨fp, fc, rfl, hrs, hB4⟩; obtain ⟨wb, hwb⟩ : ∃ wb, w4.alloc (.cells #[.int .i64 2, .string fo, .string fe, .bool fw, .slice fp fr.length fc] 34) = wb := ⟨_, rfl⟩; have HA := hide' (HArm.out _ _ _ _ hrs hB4 hwb); have hB := Below.refl wb.heap.size wb; obtain ⟨a0, a3, a4, u0, u1, u2, u3, u4, _, _⟩ := HA.out _ hB; clear hrs hB4)
                | (go_at_call 26; refine (HC.out _).mono ?_; rintro e w5 ⟨rfl, hB5⟩; have hB := bstep hB hB5 hB.size; obtain ⟨a0, a3, a4, u0, u1, u2, u3, u4, _, _⟩ := HA.out _ hB; clear hB5))
              exact ⟨⟨k + 1, by go_num, by omega, (HA.out _ hB).2.2.2.2.2.2.2.2.2⟩, by simp [intOf] <;> omega⟩
          · obtain ⟨hf1, hf2, hf3⟩ := HG.out rfl h3 h4 h2
            subst hf1 hf2
            have HAM := hide' (amF_all (P := fun y => recB y ⟨xo, xt, xc, xl, xd⟩) hf3 ((recB_iff _ _).2 rfl))
            clear h2 h3 h4 hf3 HG
            go_wp2_with (first
              | (go_at_call 12; refine (HFx.out _ _ HZa.out).mono ?_; rintro e w4 ⟨fp, fc, rfl, hrs, hB4⟩; obtain ⟨wb, hwb⟩ : ∃ wb, w4.alloc (.cells #[.int .i64 1, .string fo, .string fe, .bool false, .slice fp fr.length fc] 34) = wb := ⟨_, rfl⟩; have HA := hide' (HArm.out _ _ _ _ hrs hB4 hwb); have hB := Below.refl wb.heap.size wb; obtain ⟨a0, a3, a4, u0, u1, u2, u3, u4, _, _⟩ := HA.out _ hB; clear hrs hB4)
              | (go_at_call 26; refine (HC.out _).mono ?_; rintro e w5 ⟨rfl, hB5⟩; have hB := bstep hB hB5 hB.size; obtain ⟨a0, a3, a4, u0, u1, u2, u3, u4, _, _⟩ := HA.out _ hB; clear hB5))
            have HB5 := hide' hB
            clear hB
            go_loopw [15, 78] (fun iv jv wv => ∃ j : Nat, jv = .int .i64 (j : Int) ∧ j ≤ fr.length ∧ (∃ b, iv = .bool b ∧ Hid (b = amF (fun y => recB y ⟨xo, xt, xc, xl, xd⟩) fr j)) ∧ Hid (Below wb.heap.size wb wv)) (fun _ jv _ => fr.length - (intOf jv).toNat)
            case atStart => exact ⟨0, rfl, Nat.zero_le _, ⟨false, rfl, rfl⟩, HB5.out⟩
            case round =>
              obtain ⟨j, rfl, hj, ⟨b, rfl, HB⟩, HBi⟩ := hrel
              obtain ⟨a0, a3, a4, u0, u1, u2, u3, u4, hri, _⟩ := HA.out _ HBi.out
              have hflr := HFR.out
              by_cases hjl : j < fr.length
              · have pj : (j : Int) < (fr.length : Int) := by omega
                obtain ⟨gy, oy, hpy, hgy, n0, n1, n2, n3, n4⟩ := hri j hjl
                subst hpy
                have HSu := hide' (amF_succ (P := fun y => recB y ⟨xo, xt, xc, xl, xd⟩) hjl)
                rw [← HB.out] at HSu
                obtain ⟨y, hy⟩ : ∃ y, fr[j] = y := ⟨_, rfl⟩
                rw [hy] at n0 n1 n2 n3 n4 HSu
                clear hy
                obtain ⟨yo, yt, yc, yl, yd⟩ := y
                simp only at n0 n1 n2 n3 n4
                obtain ⟨wy, hwy⟩ : ∃ wy, wr.alloc (.cells #[.string yo, .int .i64 yt, .int .i64 yc, .int .i64 yl, .string yd] 54) = wy := ⟨_, rfl⟩
                have HBy : Hid (Below wr.heap.size wr wy) := hwy ▸ (Below.refl _ wr).alloc (Nat.le_refl _) _
                have HYy : Hid (Bx wy wr.heap.size #[.string yo, .int .i64 yt, .int .i64 yc, .int .i64 yl, .string yd] 54) := hwy ▸ World.alloc_heap_new wr _
                obtain ⟨m0, m1, m2, m3, m4, _⟩ := bx5_cells HYy.out
                have HEnd : Hid (Below wb.heap.size wb wy) := bstep HBi.out HBy.out HBi.out.size
                obtain ⟨b0, b3, b4, d0, d1, d2, d3, d4, _, _⟩ := HA.out _ HEnd.out
                cases b with
                | true =>
                  go_wp2_with fail
                  exact ⟨⟨j + 1, by go_num, by omega, ⟨true, rfl, (show true = _ by rw [HSu.out]; rfl)⟩, HEnd⟩, by simp [intOf] <;> omega⟩
                | false =>
                  by_cases hh : yo = xo
                  · have HQ0 := hide' hh
                    have hq0 : (yo.toList == xo.toList) = true := by rw [toList_bt]; exact decide_eq_true hh
                    clear hh
                    by_cases hh : yt = xt
                    · have HQ1 := hide' hh
                      have hq1 : (yt == xt) = true := by simp [hh]
                      clear hh
                      by_cases hh : yc = xc
                      · have HQ2 := hide' hh
                        have hq2 : (yc == xc) = true := by simp [hh]
                        clear hh
                        by_cases hh : yl = xl
                        · have HQ3 := hide' hh
                          have hq3 : (yl == xl) = true := by simp [hh]
                          clear hh
                          by_cases hh : yd = xd
                          · have HQ4 := hide' hh
                            have hq4 : (yd.toList == xd.toList) = true := by rw [toList_bt]; exact decide_eq_true hh
                            clear hh
                            go_wp2_with fail
                            exact ⟨⟨j + 1, by go_num, by omega, ⟨true, rfl, (show true = _ by rw [HSu.out]; simp [recB, HQ0.out, HQ1.out, HQ2.out, HQ3.out, HQ4.out])⟩, HEnd⟩, by simp [intOf] <;> omega⟩
                          · have HQ4 := hide' hh
                            have hq4 : (yd.toList == xd.toList) = false := by rw [toList_bt]; exact decide_eq_false hh
                            clear hh
                            go_wp2_with fail
                            exact ⟨⟨j + 1, by go_num, by omega, ⟨false, rfl, (show false = _ by rw [HSu.out]; simp [recB, HQ0.out, HQ1.out, HQ2.out, HQ3.out, HQ4.out])⟩, HEnd⟩, by simp [intOf] <;> omega⟩
                        · have HQ3 := hide' hh
                          have hq3 : (yl == xl) = false := by simp [hh]
                          clear hh
                          go_wp2_with fail
                          exact ⟨⟨j + 1, by go_num, by omega, ⟨false, rfl, (show false = _ by rw [HSu.out]; simp [recB, HQ0.out, HQ1.out, HQ2.out, HQ3.out])⟩, HEnd⟩, by simp [intOf] <;> omega⟩
                      · have HQ2 := hide' hh
                        have hq2 : (yc == xc) = false := by simp [hh]
                        clear hh
                        go_wp2_with fail
                        exact ⟨⟨j + 1, by go_num, by omega, ⟨false, rfl, (show false = _ by rw [HSu.out]; simp [recB, HQ0.out, HQ1.out, HQ2.out])⟩, HEnd⟩, by simp [intOf] <;> omega⟩
                    · have HQ1 := hide' hh
                      have hq1 : (yt == xt) = false := by simp [hh]
                      clear hh
                      go_wp2_with fail
                      exact ⟨⟨j + 1, by go_num, by omega, ⟨false, rfl, (show false = _ by rw [HSu.out]; simp [recB, HQ0.out, HQ1.out])⟩, HEnd⟩, by simp [intOf] <;> omega⟩
                  · have HQ0 := hide' hh
                    have hq0 : (yo.toList == xo.toList) = false := by rw [toList_bt]; exact decide_eq_false hh
                    clear hh
                    go_wp2_with fail
                    exact ⟨⟨j + 1, by go_num, by omega, ⟨false, rfl, (show false = _ by rw [HSu.out]; simp [recB, HQ0.out])⟩, HEnd⟩, by simp [intOf] <;> omega⟩
              · obtain rfl : j = fr.length := by omega
                have hbt : b = true := by rw [HB.out]; exact HAM.out
                subst hbt
                have HEE := hide' (HA.out _ HBi.out).2.2.2.2.2.2.2.2.2
                go_wp2_with fail
                exact ⟨⟨k + 1, by go_num, by omega, HEE.out⟩, by simp [intOf] <;> omega⟩
      · obtain rfl : k = L.length := by omega
        have HFq : Hid (∀ (V : World) n, Zon n V apex L ord Z RW NM C m cnt pz cz f → Calls Tryz.prog 12 #[.pointer (some ⟨Z, 0, none⟩), .string q, .int .i64 t] V fun r w' => ∃ fk fo fe fw fp fr fc, r = .returned (.agg #[.int .i64 fk, .string fo, .string fe, .bool fw, .slice fp fr.length fc]) ∧ RsAt w' fp fr ∧ Below V.heap.size V w' ∧ (∀ y ∈ fr, thereB L q fo fw y) ∧ fr.length ≤ 2000 ∧ fo.size ≤ maxLen) := fun V n h => by
          refine (find_any h q t hq).mono ?_
          rintro r w' ⟨⟨v, rfl, ho⟩, hb⟩
          obtain ⟨p5, c5, rfl, _, _, _⟩ := own_shape ho
          exact ⟨_, _, _, _, _, _, _, rfl, rsAt_ownZ ho rfl, hb, h.stands q t, Nat.le_trans (find_len _ _ _ _) (by rw [h.laid.tlen]; exact h.few), find_osz h q t hq⟩
        go_upto_region 21 with fail
        rename_i K hK
        have HK := hide' hK
        clear hK
        go_wp2_with (go_at_call 12; refine (HFq.out _ _ HZv.out).mono ?_; rintro e w4 ⟨fk, fo, fe, fw, fp, fr, fc, rfl, hrs, hB4, hg, hfr, hfo⟩; obtain ⟨wb, hwb⟩ : ∃ wb, w4.alloc (.cells #[.int .i64 fk, .string fo, .string fe, .bool fw, .slice fp fr.length fc] 34) = wb := ⟨_, rfl⟩; have HRS := hide' hrs; have HB4 := hide' hB4; have HG := hide' hg; have HFR := hide' hfr; have HFO := hide' hfo; clear hrs hB4 hg hfr hfo)
        have HBb : Hid (Below w4.heap.size w4 wb) := hwb ▸ (Below.refl _ w4).alloc (Nat.le_refl _) _
        have HFb : Hid (Bx wb w4.heap.size #[.int .i64 fk, .string fo, .string fe, .bool fw, .slice fp fr.length fc] 34) := hwb ▸ World.alloc_heap_new w4 _
        have HRb := hide' (rs_stay HRS.out HBb.out)
        have HE1 : Hid (Below w.heap.size w wb) := bstep (bstep HBw.out HB4.out HBw.out.size) HBb.out (bstep HBw.out HB4.out HBw.out.size).size
        refine HK.out _ _ ?_
        cases fw with
        | true => exact gives_wild L p cap q w wb _ fo fe fk fp fr fc hL HAT HS hq HE1 HFb HRb HG HFR HFO _ _ _ _ _ _ _ _ _ _ _ _ _ _ _ _ _ _ _ _ _ _ _ _ _ _ _ _ _ _ _ _ _ _ _ _ _ _ _ _ _ _ _ _ _ _ _ _ _ _ _ _ _ _ _ _ _ _ _ _ _ _ _ _ _ _ _ _ _ _ _ _ _ _ _ _ _ _ _ _ _ _ _ _ _ _ _ _ _ _ _ _ _ _ _ _ _ _ _ _ _ _ _ _ _ _ _ _ _ _ _ _ _ _ _ _ _ _ _ _ _ _ _ _ _ _ _ _ _ _ _ _ _ _ _ _ _ _ _ _ _ _ _ _ _ _ _ _ _ _ _ _ _ _ _ _ _ _ _ _ _ _ _ _ _ _ _ _
        | false => exact gives_plain L p cap q w wb _ fo fe fk fp fr fc hL HAT HS hq HE1 HFb HRb HG HFR HFO _ _ _ _ _ _ _ _ _ _ _ _ _ _ _ _ _ _ _ _ _ _ _ _ _ _ _ _ _ _ _ _ _ _ _ _ _ _ _ _ _ _ _ _ _ _ _ _ _ _ _ _ _ _ _ _ _ _ _ _ _ _ _ _ _ _ _ _ _ _ _ _ _ _ _ _ _ _ _ _ _ _ _ _ _ _ _ _ _ _ _ _ _ _ _ _ _ _ _ _ _ _ _ _ _ _ _ _ _ _ _ _ _ _ _ _ _ _ _ _ _ _ _ _ _ _ _ _ _ _ _ _ _ _ _ _ _ _ _ _ _ _ _ _ _ _ _ _ _ _ _ _ _ _ _ _ _ _ _ _ _ _ _ _ _ _ _ _
end Go.Proofs.YthabenjghhmicaaGreat
