import Derived.Test.YthabenjghhmicaaGreatZi1
import Derived.Test.YthabenjghhmicaaGreatZi2
import Derived.Test.YthabenjghhmicaaGreatZgpG
/-
  Proofs: ZoneAbsent. (The verifier's own text.)
-/
namespace Go.Proofs.YthabenjghhmicaaGreat
set_option linter.unusedVariables false
set_option linter.unusedSimpArgs false
open Go.RowKit Go.Shelf Go.Maps Go.Proofs.YthabenjghhmicaaGreat.Nm Go.Proofs.YthabenjghhmicaaGreat.Zs

theorem Zon.absP {n : Nat} {W : World} {apex : ByteArray} {L : List Rn} {ord : List Nat} {Z RW NM C m cnt : Nat} {p : Option Addr} {cp : Nat} {f : ByteArray → Option Nat} (h : Zon n W apex L ord Z RW NM C m cnt p cp f) (q : ByteArray) (t : Int) : AbsP L q t (findB apex (ord.map (rAt L)) q t) := by
  rw [find_both h.laid.na h.ownIn h.rthApex]
  have a := Go.Proofs.YthabenjghhmicaaGreat.absP (apex := apex) h.rthApex q t
  have hm : ∀ x, x ∈ L → x ∈ ord.map (rAt L) := fun x hx => h.laid.perm.mem_iff.2 hx
  exact ⟨fun e => ⟨(a.k6 e).1, fun x hx => (a.k6 e).2 x (hm x hx)⟩, fun e1 e2 x hx => a.k5 e1 e2 x (hm x hx), fun e => ⟨(a.wi e).1, fun x hx => (a.wi e).2 x (hm x hx)⟩, a.sz⟩
theorem cnt_wrap (s : ByteArray) (h : s.size ≤ 255) : IntKind.i64.wrap (cntI s + 1) = cntI s + 1 ∧ -1 ≤ cntI s ∧ cntI s ≤ 255 := by
  have : -1 ≤ cntI s ∧ cntI s ≤ 255 := by
    unfold cntI
    split
    · rename_i hn
      have h1 := labs_len_le hn
      omega
    · omega
  exact ⟨by rw [IntWalk.i64_in]; omega, this⟩

set_option maxRecDepth 100000 in
set_option maxHeartbeats 8000000 in
/-- ZoneAbsent -/
theorem zoneAbsent_any (apex : ByteArray) (L : List Rn) (p : Option Addr) (cap : Nat) (q : ByteArray) (t : Int) (w : World) (hap : apex.size ≤ 1048576) (hL : L.length ≤ 1048576) (hat : RsAt w p L) (hs : ∀ j, j < L.length → rSm (rAt L j)) (hq : q.size ≤ 1048576) :
    Calls Tryz.prog 7 #[.string apex, .slice p L.length cap, .string q, .int .i64 t] w fun r w' => r = .returned (.bool true) ∧ Below w.heap.size w w' := by
  have HNw := hide' (new_any apex L p cap w hL hat hs hap)
  have HBg := hide' (fun V => begins_any V)
  by_cases hz : (mkC apex L).2 ≠ 0
  · obtain ⟨a, c0, hac⟩ : ∃ a c, mkC apex L = (a, c) := ⟨_, _, rfl⟩
    rw [hac] at hz
    have hc0 : (c0 != 0) = true := by simpa using hz
    have HN2 : Hid (∀ (V : World) (r : Ending) (w' : World), NwE apex L V r w' → r = .returned (.tuple #[.pointer none, .int .i64 a, .int .i64 c0]) ∧ Below V.heap.size V w') := fun V r w' h => by
      have := h.no (by rw [hac]; exact hz)
      rw [hac] at this
      exact ⟨this, h.bl⟩
    clear hz hac hat hs
    go_enter Tryz.func7, Tryz.ntmps7
    go_wp2_with (first
      | (go_at_call 10; refine HNw.out.mono ?_; intro e w2 hnw; obtain ⟨rfl, hB2⟩ := HN2.out _ _ _ hnw; have HB2 := hide' hB2; clear hnw hB2)
      | (go_at_call 25; refine (HBg.out _).mono ?_; rintro e w3 ⟨rfl, hB3⟩; have HB3 := hide' (bstep HB2.out hB3 HB2.out.size); clear hB3))
    go_ret
    exact ⟨rfl, HB3.out⟩
  · have hz0 : (mkC apex L).2 = 0 := by simpa using hz
    have HN2 : Hid (∀ (V : World) (r : Ending) (w' : World), NwE apex L V r w' → ∃ ord Z RW NM C m cnt p cp f, r = .returned (.tuple #[.pointer (some ⟨Z, 0, none⟩), .int .i64 0, .int .i64 0]) ∧ Zon V.heap.size w' apex L ord Z RW NM C m cnt p cp f ∧ Below V.heap.size V w') := fun V r w' h => by
      obtain ⟨ord, Z, RW, NM, C, m, cnt, p, cp, f, h1, h2⟩ := h.yes hz0
      exact ⟨ord, Z, RW, NM, C, m, cnt, p, cp, f, h1, h2, h.bl⟩
    have HFd : Hid (∀ (V : World) n ord Z RW NM C m cnt p cp f, Zon n V apex L ord Z RW NM C m cnt p cp f → Calls Tryz.prog 12 #[.pointer (some ⟨Z, 0, none⟩), .string q, .int .i64 t] V fun r w' => ∃ fk fo fe fw fp fn fc, AbsP L q t ⟨fk, fo, fe, fw, []⟩ ∧ r = .returned (.agg #[.int .i64 fk, .string fo, .string fe, .bool fw, .slice fp fn fc]) ∧ Below V.heap.size V w') := fun V n ord Z RW NM C m cnt p cp f h => by
      refine (find_any h q t hq).mono ?_
      rintro r w' ⟨⟨v, rfl, ho⟩, hb⟩
      obtain ⟨p5, c5, rfl, _, _, _⟩ := own_shape ho
      have a := h.absP q t
      exact ⟨_, _, _, _, _, _, _, ⟨a.k6, a.k5, a.wi, a.sz⟩, rfl, hb⟩
    have HAT := hide' hat
    have HS := hide' hs
    clear hz hz0 hat hs
    go_enter Tryz.func7, Tryz.ntmps7
    go_wp2_with (first
      | (go_at_call 10; refine HNw.out.mono ?_; intro e w2 hnw; obtain ⟨ord, Z, RW, NM, C, m, cnt, pz, cz, f, rfl, hzo, hB2⟩ := HN2.out _ _ _ hnw; have HZ2 := hide' hzo; have HB2 := hide' hB2; clear hnw hB2 hzo)
      | (go_at_call 25; refine (HBg.out _).mono ?_; rintro e w3 ⟨rfl, hB3⟩; have HZ3 := hide' (HZ2.out.step hB3); have HB3 := hide' (bstep HB2.out hB3 HB2.out.size); clear hB3)
      | (go_at_call 12; refine (HFd.out _ _ _ _ _ _ _ _ _ _ _ _ HZ3.out).mono ?_; rintro e w4 ⟨fk, fo, fe, fw, fp, fn, fc, hab, rfl, hB4⟩; have HAB := hide' hab; have HB4 := hide' (bstep HB3.out hB4 HB3.out.size); clear hB4 hab))
    obtain ⟨wb, hwb⟩ : ∃ wb, w4.alloc (.cells #[.int .i64 fk, .string fo, .string fe, .bool fw, .slice fp fn fc] 34) = wb := ⟨_, rfl⟩
    have HXb : Hid (Bx wb w4.heap.size #[.int .i64 fk, .string fo, .string fe, .bool fw, .slice fp fn fc] 34) := hwb ▸ World.alloc_heap_new w4 _
    have HBb : Hid (Below w.heap.size w wb) := hwb ▸ HB4.out.alloc HB4.out.size _
    rw [hwb]
    clear hwb
    go_loopw [34] (fun kv wv => ∃ k : Nat, kv = .int .i64 (k : Int) ∧ k ≤ L.length ∧ Hid (Below wb.heap.size wb wv)) (fun kv _ => L.length - (intOf kv).toNat)
    case atStart => exact ⟨0, rfl, Nat.zero_le _, Below.refl _ _⟩
    case round =>
      obtain ⟨k, rfl, hk, HBv⟩ := hrel
      by_cases hlt : k < L.length
      · have HBw := hide' (bstep HBb.out HBv.out HBb.out.size)
        obtain ⟨g, off, hp⟩ := rs_at HAT.out hlt
        subst hp
        obtain ⟨y0, y1, y2, y3, y4⟩ := rs_cells HAT.out rfl hlt HBw.out
        have hsm := HS.out k hlt
        have hmem := rAt_mem hlt
        have K0 := hide' (Bk.start wr (rAt L k))
        have HC := hide' (fun V => rcounts_any (rAt L k) V hsm.2)
        have HXv : Hid (Bx wr w4.heap.size #[.int .i64 fk, .string fo, .string fe, .bool fw, .slice fp fn fc] 34) := HXb.out.below HBv.out HXb.out.lt
        have hxo : (rAt L k).o.size ≤ maxLen := by have := hsm.1; unfold maxLen; omega
        have hqm : q.size ≤ maxLen := by unfold maxLen; omega
        have HW1 := hide' (fun V => within_any (rAt L k).o q V hxo hqm)
        have HW2 := hide' (fun (s : ByteArray) (h : s.size ≤ 257) V => within_any (rAt L k).o s V hxo (by unfold maxLen; omega))
        have HEq := hide' (fun V => equal_any (rAt L k).o q V hxo hqm)
        have HX1 := hide' (fun h1 => (HAB.out.k6 h1).2 _ hmem)
        have HX2 := hide' (fun h1 h2 => HAB.out.k5 h1 h2 _ hmem)
        have HX3 := hide' (fun h1 => (HAB.out.wi h1).2 _ hmem)
        have HSz := hide' HAB.out.sz
        have HK6 := hide' (fun h1 => (HAB.out.k6 h1).1)
        have HKW := hide' (fun h1 => (HAB.out.wi h1).1)
        obtain ⟨x, hx⟩ : ∃ x, rAt L k = x := ⟨_, rfl⟩
        rw [hx] at y0 y1 y2 y3 y4 K0 HC HW1 HW2 HEq HX1 HX2 HX3
        obtain ⟨wa, hwa⟩ : ∃ wa, wr.alloc (.cells #[.string x.o, .int .i64 x.t, .int .i64 x.c, .int .i64 x.l, .string x.d] 54) = wa := ⟨_, rfl⟩
        rw [hwa] at K0
        have HXw : Hid (Bx wa w4.heap.size #[.int .i64 fk, .string fo, .string fe, .bool fw, .slice fp fn fc] 34) := HXv.out.below (hwa ▸ (Below.refl _ wr).alloc (Nat.le_refl _) _) HXv.out.lt
        obtain ⟨v0, v1, v2, v3, v4⟩ := K0.out.cells
        clear hx hsm hmem hxo hqm
        obtain ⟨xo, xt, xc, xl, xd⟩ := x
        unfold rcV at HC
        simp only at y0 y1 y2 y3 y4 v0 v1 v2 v3 v4 hwa HC HW1 HW2 HEq HX1 HX2 HX3 HSz HK6 HKW
        have HQ : Hid (∀ V, Below wa.heap.size wa V → V.cell? ⟨wr.heap.size, 0, none⟩ = some (.string xo) ∧ V.cell? ⟨wr.heap.size, 1, none⟩ = some (.int .i64 xt) ∧ V.cell? ⟨w4.heap.size, 0, none⟩ = some (.int .i64 fk) ∧ V.cell? ⟨w4.heap.size, 2, none⟩ = some (.string fe) ∧ V.cell? ⟨w4.heap.size, 3, none⟩ = some (.bool fw)) := fun V hV => by
          obtain ⟨a0, a1, a2, a3, a4⟩ := (K0.out.step hV).cells
          obtain ⟨b0, b1, b2, b3, b4, _⟩ := bx5_cells (HXw.out.below hV HXw.out.lt)
          exact ⟨a0, a1, b0, b2, b3⟩
        have HE : Hid (∀ V, Below wa.heap.size wa V → Below wb.heap.size wb V) := fun V hV => bstep HBv.out (K0.out.step hV).bl HBv.out.size
        obtain ⟨Cn, hCn⟩ : ∃ Cn, countB ⟨xo, xt, xc, xl, xd⟩ = Cn := ⟨_, rfl⟩
        have HCn := hide' hCn
        rw [hCn] at HC
        clear hCn
        have pk : (k : Int) < (L.length : Int) := by omega
        have hB := Below.refl wa.heap.size wa
        obtain ⟨z0, z1, z2, z3, z4⟩ := HQ.out _ hB
        cases Cn with
        | false =>
          go_wp2_with (go_at_call 26; refine (HC.out _).mono ?_; rintro e w5 ⟨rfl, hB5⟩; have hB := bstep hB hB5 hB.size; clear hB5)
          exact ⟨⟨k + 1, by go_num, by omega, HE.out _ hB⟩, by simp [intOf]; omega⟩
        | true =>
          by_cases h6 : fk = 6
          · subst h6
            have hw := HK6.out rfl
            subst hw
            obtain ⟨hx1, hx2⟩ := HX1.out rfl HCn.out
            have hsz := HSz.out (Or.inl rfl)
            have hst : (starB fe).size ≤ 257 := by have := star_le hsz; omega
            have HSt := hide' (fun V => star_any fe V (by unfold maxLen; omega))
            have HWs := hide' (fun V => HW2.out (starB fe) hst V)
            rw [hx1] at HW1
            rw [hx2] at HWs
            clear hx1 hx2 hsz hst HX1 HX2 HX3 HSz HK6 HKW HEq HW2
            go_wp2_with (go_at_call 26; refine (HC.out _).mono ?_; rintro e w5 ⟨rfl, hB5⟩; have hB := bstep hB hB5 hB.size; obtain ⟨z0, z1, z2, z3, z4⟩ := HQ.out _ hB; clear hB5)
            have hB := hB.drew
            go_region_held3 (fun V => V.cell? ⟨wr.heap.size, 0, none⟩ = some (.string xo) ∧ V.cell? ⟨wr.heap.size, 1, none⟩ = some (.int .i64 xt) ∧ V.cell? ⟨w4.heap.size, 0, none⟩ = some (.int .i64 6) ∧ V.cell? ⟨w4.heap.size, 2, none⟩ = some (.string fe) ∧ V.cell? ⟨w4.heap.size, 3, none⟩ = some (.bool false)) (first | go_keep | (with_reducible exact HQ.out _ hB) | (with_reducible exact HQ.out _ hB.drew) | (obtain ⟨h0, h1, h2, h3, h4⟩ := HQ.out _ hB; first | exact ⟨h0, h1, h2, h3, h4⟩ | assumption) | (obtain ⟨h0, h1, h2, h3, h4⟩ := HQ.out _ hB.drew; first | exact ⟨h0, h1, h2, h3, h4⟩ | assumption))
              (first
                | (go_at_call 28; (with_reducible refine (HW1.out _).mono ?_); rintro e w6 ⟨rfl, hB5⟩; have hB := below_any hB hB5 (by first | exact .inl rfl | exact .inr rfl) hB.size; clear hB5)
                | (go_at_call 29; refine (HSt.out _).mono ?_; rintro e w7 ⟨rfl, hB5⟩; have hB := below_any hB hB5 (by first | exact .inl rfl | exact .inr rfl) hB.size; clear hB5)
                | (go_at_call 28; (with_reducible refine (HWs.out _).mono ?_); rintro e w8 ⟨rfl, hB5⟩; have hB := below_any hB hB5 (by first | exact .inl rfl | exact .inr rfl) hB.size; clear hB5))

            all_goals
              obtain ⟨z0, z1, z2, z3, z4⟩ := HQ.out _ hB
              go_wp2_with fail
              go_region
              have hB := hB.drew
              go_wp2_with fail
              exact ⟨⟨k + 1, by go_num, by omega, HE.out _ hB⟩, by simp [intOf] <;> omega⟩
          · have h6b : (fk == 6) = false := by simp [h6]
            cases fw with
            | true =>
              obtain ⟨hx1, hx2⟩ := HX3.out rfl HCn.out
              have hsz := HSz.out (Or.inr rfl)
              obtain ⟨hwr, hc1, hc2⟩ := cnt_wrap fe hsz
              have HCo := hide' (fun V => count_any fe V (by unfold maxLen; omega))
              have HTl := hide' (fun V => tail_any q (cntI fe + 1) V (by unfold maxLen; omega))
              have HWs := hide' (fun V => HW2.out (tailB q (cntI fe + 1)) (by have := tailB_size q (cntI fe + 1); omega) V)
              rw [hx1] at HW1
              rw [hx2] at HWs
              obtain ⟨ci, hci⟩ : ∃ ci, cntI fe = ci := ⟨_, rfl⟩
              rw [hci] at HCo HTl HWs hwr hc1 hc2
              clear hx1 hx2 hsz HX1 HX2 HX3 HSz HK6 HKW HEq HW2 h6 hci
              by_cases h5 : fk = 5
              · subst h5
                go_wp2_with (go_at_call 26; refine (HC.out _).mono ?_; rintro e w5 ⟨rfl, hB5⟩; have hB := bstep hB hB5 hB.size; obtain ⟨z0, z1, z2, z3, z4⟩ := HQ.out _ hB; clear hB5)
                go_region
                have hB := hB.drew
                obtain ⟨z0, z1, z2, z3, z4⟩ := HQ.out _ hB
                go_wp2_with fail
                have hB := hB.drew
                go_region_held3 (fun V => V.cell? ⟨wr.heap.size, 0, none⟩ = some (.string xo) ∧ V.cell? ⟨wr.heap.size, 1, none⟩ = some (.int .i64 xt) ∧ V.cell? ⟨w4.heap.size, 0, none⟩ = some (.int .i64 5) ∧ V.cell? ⟨w4.heap.size, 2, none⟩ = some (.string fe) ∧ V.cell? ⟨w4.heap.size, 3, none⟩ = some (.bool true)) (first | go_keep | (with_reducible exact HQ.out _ hB) | (with_reducible exact HQ.out _ hB.drew) | (obtain ⟨h0, h1, h2, h3, h4⟩ := HQ.out _ hB; first | exact ⟨h0, h1, h2, h3, h4⟩ | assumption) | (obtain ⟨h0, h1, h2, h3, h4⟩ := HQ.out _ hB.drew; first | exact ⟨h0, h1, h2, h3, h4⟩ | assumption))
                  (first
                    | (go_at_call 28; (with_reducible refine (HW1.out _).mono ?_); rintro e w6 ⟨rfl, hB5⟩; have hB := below_any hB hB5 (by first | exact .inl rfl | exact .inr rfl) hB.size; clear hB5)
                    | (go_at_call 31; refine (HCo.out _).mono ?_; rintro e w7 ⟨rfl, hB5⟩; have hB := below_any hB hB5 (by first | exact .inl rfl | exact .inr rfl) hB.size; clear hB5)
                    | (go_at_call 30; refine (HTl.out _).mono ?_; rintro e w9 ⟨rfl, hB5⟩; have hB := below_any hB hB5 (by first | exact .inl rfl | exact .inr rfl) hB.size; clear hB5)
                    | (go_at_call 28; (with_reducible refine (HWs.out _).mono ?_); rintro e w8 ⟨rfl, hB5⟩; have hB := below_any hB hB5 (by first | exact .inl rfl | exact .inr rfl) hB.size; clear hB5))
                all_goals
                  go_wp2_with fail
                  exact ⟨⟨k + 1, by go_num, by omega, HE.out _ hB⟩, by simp [intOf] <;> omega⟩
              · have h5b : (fk == 5) = false := by simp [h5]
                clear h5
                go_wp2_with (go_at_call 26; refine (HC.out _).mono ?_; rintro e w5 ⟨rfl, hB5⟩; have hB := bstep hB hB5 hB.size; obtain ⟨z0, z1, z2, z3, z4⟩ := HQ.out _ hB; clear hB5)
                go_region
                have hB := hB.drew
                obtain ⟨z0, z1, z2, z3, z4⟩ := HQ.out _ hB
                go_wp2_with fail
                have hB := hB.drew
                go_region_held3 (fun V => V.cell? ⟨wr.heap.size, 0, none⟩ = some (.string xo) ∧ V.cell? ⟨wr.heap.size, 1, none⟩ = some (.int .i64 xt) ∧ V.cell? ⟨w4.heap.size, 0, none⟩ = some (.int .i64 fk) ∧ V.cell? ⟨w4.heap.size, 2, none⟩ = some (.string fe) ∧ V.cell? ⟨w4.heap.size, 3, none⟩ = some (.bool true)) (first | go_keep | (with_reducible exact HQ.out _ hB) | (with_reducible exact HQ.out _ hB.drew) | (obtain ⟨h0, h1, h2, h3, h4⟩ := HQ.out _ hB; first | exact ⟨h0, h1, h2, h3, h4⟩ | assumption) | (obtain ⟨h0, h1, h2, h3, h4⟩ := HQ.out _ hB.drew; first | exact ⟨h0, h1, h2, h3, h4⟩ | assumption))
                  (first
                    | (go_at_call 28; (with_reducible refine (HW1.out _).mono ?_); rintro e w6 ⟨rfl, hB5⟩; have hB := below_any hB hB5 (by first | exact .inl rfl | exact .inr rfl) hB.size; clear hB5)
                    | (go_at_call 31; refine (HCo.out _).mono ?_; rintro e w7 ⟨rfl, hB5⟩; have hB := below_any hB hB5 (by first | exact .inl rfl | exact .inr rfl) hB.size; clear hB5)
                    | (go_at_call 30; refine (HTl.out _).mono ?_; rintro e w9 ⟨rfl, hB5⟩; have hB := below_any hB hB5 (by first | exact .inl rfl | exact .inr rfl) hB.size; clear hB5)
                    | (go_at_call 28; (with_reducible refine (HWs.out _).mono ?_); rintro e w8 ⟨rfl, hB5⟩; have hB := below_any hB hB5 (by first | exact .inl rfl | exact .inr rfl) hB.size; clear hB5))
                all_goals
                  go_wp2_with fail
                  exact ⟨⟨k + 1, by go_num, by omega, HE.out _ hB⟩, by simp [intOf] <;> omega⟩
            | false =>
              by_cases h5 : fk = 5
              · subst h5
                have hx := HX2.out rfl rfl HCn.out
                cases hE : eqB xo q with
                | false =>
                  rw [hE] at HEq
                  clear hx hE HX1 HX2 HX3 HSz HK6 HKW HW2 h6
                  go_wp2_with (go_at_call 26; refine (HC.out _).mono ?_; rintro e w5 ⟨rfl, hB5⟩; have hB := bstep hB hB5 hB.size; obtain ⟨z0, z1, z2, z3, z4⟩ := HQ.out _ hB; clear hB5)
                  go_region
                  have hB := hB.drew
                  obtain ⟨z0, z1, z2, z3, z4⟩ := HQ.out _ hB
                  go_wp2_with (go_at_call 27; refine (HEq.out _).mono ?_; rintro e w6 ⟨rfl, hB5⟩; have hB := bstep hB hB5 hB.size; obtain ⟨z0, z1, z2, z3, z4⟩ := HQ.out _ hB; clear hB5)
                  go_region
                  have hB := hB.drew
                  go_wp2_with fail
                  exact ⟨⟨k + 1, by go_num, by omega, HE.out _ hB⟩, by simp [intOf] <;> omega⟩
                | true =>
                  obtain ⟨hx1, hx2⟩ := hx hE
                  have hx1b : (xt == t) = false := by simp [hx1]
                  have hx2b : (t == 255) = false := by simp [hx2]
                  rw [hE] at HEq
                  clear hx hE HX1 HX2 HX3 HSz HK6 HKW HW2 h6 hx1 hx2
                  go_wp2_with (go_at_call 26; refine (HC.out _).mono ?_; rintro e w5 ⟨rfl, hB5⟩; have hB := bstep hB hB5 hB.size; obtain ⟨z0, z1, z2, z3, z4⟩ := HQ.out _ hB; clear hB5)
                  go_region
                  have hB := hB.drew
                  obtain ⟨z0, z1, z2, z3, z4⟩ := HQ.out _ hB
                  go_wp2_with (go_at_call 27; refine (HEq.out _).mono ?_; rintro e w6 ⟨rfl, hB5⟩; have hB := bstep hB hB5 hB.size; obtain ⟨z0, z1, z2, z3, z4⟩ := HQ.out _ hB; clear hB5)
                  go_region
                  have hB := hB.drew
                  go_wp2_with fail
                  exact ⟨⟨k + 1, by go_num, by omega, HE.out _ hB⟩, by simp [intOf] <;> omega⟩
              · have h5b : (fk == 5) = false := by simp [h5]
                clear HX1 HX2 HX3 HSz HK6 HKW HW2 h6 h5
                go_wp2_with (go_at_call 26; refine (HC.out _).mono ?_; rintro e w5 ⟨rfl, hB5⟩; have hB := bstep hB hB5 hB.size; obtain ⟨z0, z1, z2, z3, z4⟩ := HQ.out _ hB; clear hB5)
                go_region
                have hB := hB.drew
                obtain ⟨z0, z1, z2, z3, z4⟩ := HQ.out _ hB
                go_wp2_with fail
                go_region
                have hB := hB.drew
                go_wp2_with fail
                exact ⟨⟨k + 1, by go_num, by omega, HE.out _ hB⟩, by simp [intOf] <;> omega⟩
      · obtain rfl : k = L.length := by omega
        go_wp2_with fail
        go_ret
        exact ⟨rfl, bstep HBb.out HBv.out HBb.out.size⟩
end Go.Proofs.YthabenjghhmicaaGreat
