import Derived.Test.YtbahjpjncopabaaGreatZraG
import Derived.Test.YtbahjpjncopabaaGreatZq2G
import Derived.Test.YtbahjpjncopabaaGreatZrcG
import Derived.Test.YtbahjpjncopabaaGreatRz1G
import Derived.Test.YtbahjpjncopabaaGreatSd1G
/-
  Proofs: a draft, and what is wrong with it. (The verifier's own text.)
-/
namespace Go.Proofs.YtbahjpjncopabaaGreat
set_option linter.unusedVariables false
set_option linter.unusedSimpArgs false
open Go.RowKit Go.Shelf Go.Maps Go.Proofs.YtbahjpjncopabaaGreat.Nm Go.Proofs.YtbahjpjncopabaaGreat.Zs

theorem seG_sen {r : Rn} (h : zonR r = true) : seG (senS r) := by
  obtain ⟨_, _, _, _, _, h6, h7, h8, h9, h10, h11⟩ := ok_facts h
  exact ⟨by show (foldB r.o).size ≤ maxLen; unfold maxLen; omega, WalkArith.wf_i64 (by show _ ≤ r.t ∧ r.t ≤ _; omega), by show (foldD r.t r.d).size ≤ maxLen; unfold maxLen; omega⟩
theorem plG_any {o : ByteArray} {t : Int} (ho : o.size ≤ 255) (h : 0 ≤ t ∧ t ≤ 65535) : plG (o, t) := ⟨by show o.size ≤ maxLen; unfold maxLen; omega, WalkArith.wf_i64 (by show _ ≤ t ∧ t ≤ _; omega)⟩
theorem fltR_cons (c v : Int) (M : List (Int × Int)) : fltR ((c, v) :: M) = if v = -2 then fltR M else (v, c) := by
  unfold fltR
  by_cases h : v = -2
  · rw [if_pos h, List.find?_cons_of_neg (by simp [h])]
  · rw [if_neg h, List.find?_cons_of_pos (by simp [h])]
theorem flt_zero {apex : ByteArray} {L : List Rn} (h : (fltR (fltM apex L)).2 = 0) : fltR (fltM apex L) = (0, 0) ∧ ∀ x ∈ fltM apex L, x.2 = -2 := by
  cases hf : (fltM apex L).find? (fun x => !decide (x.2 = -2)) with
  | none =>
    refine ⟨by unfold fltR; rw [hf], fun x hx => ?_⟩
    rw [List.find?_eq_none] at hf
    have := hf x hx
    simpa using this
  | some y =>
    exfalso
    have hm := List.mem_of_find?_eq_some hf
    unfold fltR at h
    rw [hf] at h
    simp only at h
    unfold fltM at hm
    simp only [List.mem_cons, List.not_mem_nil, or_false] at hm
    rcases hm with rfl | rfl | rfl | rfl | rfl | rfl | rfl | rfl <;> simp at h

/-- zone.newDraft -/
theorem draft_any (apex : ByteArray) (L : List Rn) (p : Option Addr) (cap : Nat) (w : World) (ha : apex.size ≤ 255) (hL : L.length ≤ 2000) (hat : RsAt w p L) (hok : okL L) :
    Calls Tryz.prog 20 #[.string apex, .slice p L.length cap] w fun r w' => ∃ D Z LK FK RW NM B C P g m sv rv ord, r = .returned (.pointer (some ⟨D, 0, none⟩)) ∧ Ly w w' D Z LK FK RW NM B C P g apex (foldB apex) (.slice p L.length cap) sv rv (L.map senS) (ord.map (rAt L)) ord L.length m (rowsF (ord.map (seAt (L.map senS))) L.length) ∧ ord.Perm (List.range L.length) ∧ So (ltS (L.map senS)) ord 0 L.length := by
  have O : Ord (ltS (L.map senS)) := ord_ltS fun s hs => by
    obtain ⟨r, hr, rfl⟩ := List.mem_map.1 hs
    exact good_sen (hok r hr)
  refine (newDraft_any apex L p cap w (fun w' v => ∃ D Z LK FK RW NM B C P g m sv rv ord, v = .pointer (some ⟨D, 0, none⟩) ∧ Ly w w' D Z LK FK RW NM B C P g apex (foldB apex) (.slice p L.length cap) sv rv (L.map senS) (ord.map (rAt L)) ord L.length m (rowsF (ord.map (seAt (L.map senS))) L.length) ∧ ord.Perm (List.range L.length) ∧ So (ltS (L.map senS)) ord 0 L.length) (by unfold maxLen; omega) (by omega) hat hok (fun W D Z LK FK RW NM B sv hd => ?_)).mono ?_
  · refine (lay_any w W D Z LK FK RW NM B apex (foldB apex) sv L p cap (by omega) hat hok O hd).mono ?_
    rintro r w' ⟨rfl, ord, rv, C, P, g, m, hy, hp, hs⟩
    exact ⟨rfl, D, Z, LK, FK, RW, NM, B, C, P, g, m, sv, rv, ord, rfl, hy, hp, hs⟩
  · rintro r w' ⟨v, rfl, D, Z, LK, FK, RW, NM, B, C, P, g, m, sv, rv, ord, rfl, h⟩
    exact ⟨D, Z, LK, FK, RW, NM, B, C, P, g, m, sv, rv, ord, rfl, h⟩

/-- (*zone.draft).fault, of right records -/
theorem faultZ_any {w W : World} {D Z LK FK RW NM B C P g m cap : Nat} {apex : ByteArray} {p : Option Addr} {sv rv : Value} {L : List Rn} {ord : List Nat} (H : Laid apex L ord) (h : Ly w W D Z LK FK RW NM B C P g apex (foldB apex) (.slice p L.length cap) sv rv (L.map senS) (ord.map (rAt L)) ord L.length m (rowsF (ord.map (seAt (L.map senS))) L.length)) (hat : RsAt w p L) (hL : L.length ≤ 2000) :
    Calls Tryz.prog 21 #[.pointer (some ⟨D, 0, none⟩)] W fun r w' => r = .returned (.tuple #[.int .i64 (fltR (fltM apex L)).1, .int .i64 (fltR (fltM apex L)).2]) ∧ Below W.heap.size W w' := by
  obtain ⟨p', c', rfl, _, _, _⟩ := own_shape h.sown
  have hn : L.length = (L.map senS).length := by simp
  have hUl : (ord.map (seAt (L.map senS))).length = L.length := by rw [List.length_map, H.len]
  have hTl := H.tlen
  have hseG : ∀ k, k < L.length → seG (seAt (L.map senS) k) := fun k hk => by rw [seAt_map hk]; exact seG_sen (H.ok _ (rAt_mem hk))
  have hown : ∀ k, k < L.length → (seAt (L.map senS) k).1.size ≤ 255 := fun k hk => by
    rw [seAt_map hk]
    exact (ok_facts (H.ok _ (rAt_mem hk))).2.2.2.2.2.2.2.2.2.1
  have hrow : ∀ q : Pl, ((rowsF (ord.map (seAt (L.map senS))) L.length q).getD (0, 0)).1 ≤ ((rowsF (ord.map (seAt (L.map senS))) L.length q).getD (0, 0)).2 ∧ ((rowsF (ord.map (seAt (L.map senS))) L.length q).getD (0, 0)).2 ≤ (ord.map (rAt L)).length := fun q => by
    have := row_le H.us q
    rw [hUl] at this
    rw [hTl]
    exact this
  have hgx : ∀ V, Below W.heap.size W V → V.cell? ⟨D, 2, none⟩ = some (.slice p L.length cap) ∧ D < V.heap.size ∧ RsAt V p L := fun V hV =>
    ⟨(h.step hV).dx.cell rfl, (h.step hV).dx.lt, rs_stay hat (h.step hV).bl⟩
  have hfa : (foldB apex).size ≤ 255 := zfoldB_size H.na
  have key := H.fault
  have hTo : ∀ r ∈ ord.map (rAt L), r.o.size ≤ 255 := fun r hr => (ok_facts (H.tok r hr)).2.2.2.2.2.2.2.2.1
  have hff := fault_any D W _ _ _ _ _ _ _ _
    (fun V hV => by
      obtain ⟨a1, a2, a3⟩ := hgx V hV
      exact first_isTwice D L p cap (fun k => twiceB (L.map senS) L.length k) V (by omega) a2 a1 a3 (fun k hk X hX => isTwice_any (h.step (bstep hV hX hV.size)) hn (by omega) k hk (hseG k hk) _))
    (fun V hV => by
      obtain ⟨a1, a2, a3⟩ := hgx V hV
      exact first_isStraySoa D L p cap (fun k => strayB (L.map senS) L.length (foldB apex) (rAt L k) k) V (by omega) a2 a1 a3 (fun k hk X hX => by
        rw [rAt_get hk]
        exact isStray_any (h.step (bstep hV hX hV.size)) hn (by omega) k hk (hseG k hk) _))
    (fun V hV => lack_any (h.step hV) 6 (plG_any hfa (by omega)))
    (fun V hV => lack_any (h.step hV) 2 (plG_any hfa (by omega)))
    (fun V hV => by
      obtain ⟨a1, a2, a3⟩ := hgx V hV
      exact first_isWild D L p cap (fun k => wildB (rAt L k)) V (by omega) a2 a1 a3 (fun k hk X hX => by
        rw [rAt_get hk]
        exact isWild_any D k (rAt L k) X (by have := (ok_facts (H.ok _ (rAt_mem hk))).2.2.2.2.2.2.2.2.1; unfold maxLen; omega)))
    (fun V hV => by
      obtain ⟨a1, a2, a3⟩ := hgx V hV
      exact first_isCrowdedAlias D L p cap (fun k => crowdB (ord.map (rAt L)) (rowsF (ord.map (seAt (L.map senS))) L.length) (L.map senS) (rAt L k) k) V (by omega) a2 a1 a3 (fun k hk X hX => by
        rw [rAt_get hk]
        exact isCrowd_any (h.step (bstep hV hX hV.size)) hn (by omega) (by rw [hTl]; omega) k hk (plG_any (hown k hk) (by omega)) (hrow _) _))
    (fun V hV => by
      obtain ⟨a1, a2, a3⟩ := hgx V hV
      exact first_isWrongGraft D L p cap (fun k => graftB (ord.map (rAt L)) (rowsF (ord.map (seAt (L.map senS))) L.length) (L.map senS) (foldB apex) (rAt L k) k) V (by omega) a2 a1 a3 (fun k hk X hX => by
        rw [rAt_get hk]
        exact isGraft_any (h.step (bstep hV hX hV.size)) hn (by omega) (by rw [hTl]; omega) hTo k hk (plG_any (hown k hk) (by omega)) (plG_any (hown k hk) (by omega)) (hrow _) _))
    (fun V hV => by
      obtain ⟨a1, a2, a3⟩ := hgx V hV
      exact first_isOfOtherAge D L p cap (fun k => ageB (L.map senS) L L.length (rAt L k) k) V (by omega) a2 a1 a3 (fun k hk X hX => by
        rw [rAt_get hk]
        exact isAge_any (h.step (bstep hV hX hV.size)) hat rfl hn (by omega) k hk (hseG k hk) (by obtain ⟨y, e1, e2, _⟩ := H.firstLt hk; rw [e1]; omega) _))
  rw [key] at hff
  exact hff
end Go.Proofs.YtbahjpjncopabaaGreat

/-
  Serial numbers, on both sides. (The verifier's own text.)
-/
namespace Go.Proofs.YtbahjpjncopabaaGreat
set_option linter.unusedVariables false
set_option linter.unusedSimpArgs false
open Go.RowKit Go.Shelf Go.Maps Go.Proofs.YtbahjpjncopabaaGreat.Nm

def soaK : List Kind := [.dom, .dom, .num 4, .num 4, .num 4, .num 4, .num 4]
theorem fix4 {d : ByteArray} {n : Nat} (h : kindSize (.num 4) d = some n) : n = 4 ∧ 4 ≤ d.size := by
  change fixS 4 d = some n at h
  unfold fixS at h
  split at h
  · cases h
  · cases h; exact ⟨rfl, by omega⟩
/-- the parts of a SOA's data -/
theorem soa_parts {d : ByteArray} (h : errD 6 d = 0) : ∃ ps, partsOf soaK d = some ps ∧ ps.length = 7 ∧ 20 ≤ d.size ∧ d.size ≤ 65535 ∧ (∃ h2 : 2 < ps.length, ps[2].2 = d.extract (d.size - 20) (d.size - 16)) := by
  obtain ⟨ps, hp⟩ := errD_zero h
  unfold partsD at hp
  have hk : kindsOf 6 = some soaK := rfl
  rw [hk] at hp
  change (if _ then _ else _) = _ at hp
  split at hp
  · cases hp
  rename_i hsz
  obtain ⟨n1, q1, k1, p1, rfl⟩ := zparts_cons hp
  obtain ⟨n2, q2, k2, p2, rfl⟩ := zparts_cons p1
  obtain ⟨n3, q3, k3, p3, rfl⟩ := zparts_cons p2
  obtain ⟨n4, q4, k4, p4, rfl⟩ := zparts_cons p3
  obtain ⟨n5, q5, k5, p5, rfl⟩ := zparts_cons p4
  obtain ⟨n6, q6, k6, p6, rfl⟩ := zparts_cons p5
  obtain ⟨n7, q7, k7, p7, rfl⟩ := zparts_cons p6
  obtain ⟨rfl, s3⟩ := fix4 k3
  obtain ⟨rfl, s4⟩ := fix4 k4
  obtain ⟨rfl, s5⟩ := fix4 k5
  obtain ⟨rfl, s6⟩ := fix4 k6
  obtain ⟨rfl, s7⟩ := fix4 k7
  have l1 := kindSize_le k1
  have l2 := kindSize_le k2
  rw [partsOf] at p7
  split at p7
  · rename_i h0
    simp at p7
    subst p7
    have z1 := size_extract' d n1 d.size (Nat.le_refl _)
    have z2 := size_extract' (d.extract n1 d.size) n2 (d.extract n1 d.size).size (Nat.le_refl _)
    have z3 := size_extract' ((d.extract n1 d.size).extract n2 (d.extract n1 d.size).size) 4 _ (Nat.le_refl _)
    have z4 := size_extract' (((d.extract n1 d.size).extract n2 (d.extract n1 d.size).size).extract 4 ((d.extract n1 d.size).extract n2 (d.extract n1 d.size).size).size) 4 _ (Nat.le_refl _)
    generalize hD2 : (d.extract n1 d.size).extract n2 (d.extract n1 d.size).size = D2 at *
    generalize hD3 : D2.extract 4 D2.size = D3 at *
    generalize hD4 : D3.extract 4 D3.size = D4 at *
    have z5 := size_extract' D4 4 _ (Nat.le_refl _)
    generalize hD5 : D4.extract 4 D4.size = D5 at *
    have z6 := size_extract' D5 4 _ (Nat.le_refl _)
    generalize hD6 : D5.extract 4 D5.size = D6 at *
    have z7 := size_extract' D6 4 _ (Nat.le_refl _)
    have h20 : D2.size = 20 := by omega
    refine ⟨_, hp, rfl, by omega, by omega, by simp, ?_⟩
    show D2.extract 0 4 = _
    rw [← hD2, z1]
    have f1 : d.size - 20 = n1 + n2 := by omega
    have f2 : d.size - 16 = n1 + n2 + 4 := by omega
    rw [f1, f2]
    apply ba_ext
    · rw [size_extract' _ _ _ (by rw [size_extract' _ _ _ (by omega)]; omega), size_extract' _ _ _ (by omega)]; omega
    · intro j hj
      rw [size_extract' _ _ _ (by rw [size_extract' _ _ _ (by omega)]; omega)] at hj
      rw [bt_extract _ _ _ _ (by omega) (by rw [size_extract' _ _ _ (by omega)]; omega), bt_extract _ _ _ _ (by omega) (by omega), bt_extract _ _ _ _ (by omega) (Nat.le_refl _), bt_extract _ _ _ _ (by omega) (by omega)]
      congr 1; omega
  · cases p7
/-- the serial number in a SOA's data -/
def serN (d : ByteArray) : Nat := vN (d.extract (d.size - 20) (d.size - 16)) 4
theorem ser_size {d : ByteArray} (h : 20 ≤ d.size) : (d.extract (d.size - 20) (d.size - 16)).size = 4 := by rw [size_extract' _ _ _ (by omega)]; omega
/-- that of the first SOA -/
def serL (M : List Rn) : Int := match M.find? (fun r => decide (r.t = 6)) with | some r => (serN r.d : Int) | none => 0

set_option maxRecDepth 100000 in
set_option maxHeartbeats 4000000 in
/-- (*gazetteerref3.Zone).Serial -/
theorem rserial_any (zb : Nat) (apex : ByteArray) (M : List Rn) (p : Option Addr) (c : Nat) (w : World) (hz : Bx w zb #[.string apex, .slice p M.length c] 35) (hat : RsAt w p M) (ok : okL M) (hM : M.length ≤ 2000) :
    Calls Tryz.prog 13 #[.pointer (some ⟨zb, 0, none⟩)] w fun r w' => r = .returned (.int .i64 (serL M)) ∧ Below w.heap.size w w' := by
  have z1 : w.cell? ⟨zb, 1, none⟩ = some (.slice p M.length c) := hz.cell rfl
  have HAT := hide' hat
  have HOK := hide' ok
  have HFm := hide' (fun W => form_any 6 W)
  clear hat ok hz
  go_enter Tryz.func13, Tryz.ntmps13
  go_wp2_with fail
  go_loopw [12] (fun kv wr => ∃ k : Nat, kv = .int .i64 (k : Int) ∧ k ≤ M.length ∧ Hid (∀ j, j < k → decide ((rAt M j).t = 6) = false) ∧ Hid (Below w.heap.size w wr)) (fun kv _ => M.length - (intOf kv).toNat)
  case atStart => exact ⟨0, rfl, Nat.zero_le _, (fun j h => absurd h (Nat.not_lt_zero _)), Below.refl _ _⟩
  case round =>
    obtain ⟨k, rfl, hk, HN, HB⟩ := hrel
    by_cases hlt : k < M.length
    · obtain ⟨g, off, hp⟩ := rs_at HAT.out hlt
      subst hp
      obtain ⟨y0, y1, y2, y3, y4⟩ := rs_cells HAT.out rfl hlt HB.out
      have HOk := hide' (HOK.out _ (rAt_mem hlt))
      have HSer : Hid ((rAt M k).t = 6 → serL M = (serN (rAt M k).d : Int)) := fun h => by
        unfold serL
        have : M.find? (fun r => decide (r.t = 6)) = some (rAt M k) := by
          rw [List.find?_eq_some_iff_getElem]
          refine ⟨by simp [h], k, hlt, by rw [rAt_get hlt], fun j hj => ?_⟩
          have := HN.out j hj
          rw [← rAt_get (by omega)] at this
          rw [this]; rfl
        rw [this]
      have HUp : Hid (decide ((rAt M k).t = 6) = false → ∀ j, j < k + 1 → decide ((rAt M j).t = 6) = false) := fun h => up_to HN.out h
      have K0 := hide' (Bk.start wr (rAt M k))
      obtain ⟨x, hx⟩ : ∃ x, rAt M k = x := ⟨_, rfl⟩
      rw [hx] at y0 y1 y2 y3 y4 HOk HSer K0
      rw [hx] at HUp
      clear hx
      obtain ⟨wa, hwa⟩ : ∃ wa, wr.alloc (.cells #[.string x.o, .int .i64 x.t, .int .i64 x.c, .int .i64 x.l, .string x.d] 40) = wa := ⟨_, rfl⟩
      rw [hwa] at K0
      have HK : Hid (∀ V, Below wa.heap.size wa V → Bk wr V x) := fun V hV => K0.out.step hV
      obtain ⟨v0, v1, v2, v3, v4⟩ := K0.out.cells
      obtain ⟨xo, xt, xc, xl, xd⟩ := x
      simp only at y0 y1 y2 y3 y4 v0 v1 v2 v3 v4 hwa HSer HUp
      have pk : (k : Int) < (M.length : Int) := by omega
      by_cases ht : xt = 6
      · subst ht
        have hs := HSer.out rfl
        have HS := hide' hs
        obtain ⟨ps, hps, hpl, h20, h65, h2, hp2⟩ := soa_parts (ok_facts HOk.out).2.2.2.2.1
        simp only at hps h20 h65 hp2
        have HPa : Hid (∀ V : World, Calls Tryz.prog 31 #[.string (formB 6), .string xd] V fun e w' => (∃ gp c, e = .returned (.tuple #[.slice (some ⟨gp, 0, none⟩) 7 c, .bool true]) ∧ w'.cell? ⟨gp, 2, none⟩ = some (.string (xd.extract (xd.size - 20) (xd.size - 16)))) ∧ Below V.heap.size V w') := fun V => by
          have h := refParts_any soaK xd V h65 (by decide) (by unfold soaK; simp [okK])
          refine h.mono ?_
          rintro e w' ⟨he, hb⟩
          rw [hps] at he
          obtain ⟨pp, cc, rfl, ho⟩ := he
          rw [hpl] at ho
          refine ⟨?_, hb⟩
          have h' := ho
          obtain ⟨hl, (⟨h1, h0⟩ | ⟨g', cap', cur, h1, _⟩)⟩ := ho
          · omega
          · injection h1 with h1 _ h3
            subst h1 h3
            refine ⟨g', cc, by rw [hpl], ?_⟩
            have := h'.cellAt 2 (by omega)
            rw [this]
            unfold byteC
            rw [List.getElem?_map, List.getElem?_eq_getElem h2]
            show some (Value.string ps[2].2) = _
            rw [hp2]
        have HVl := hide' (fun V => refValue4_any (xd.extract (xd.size - 20) (xd.size - 16)) V (by rw [ser_size h20]; omega))
        have HVe : Hid ((vN (xd.extract (xd.size - 20) (xd.size - 16)) (xd.extract (xd.size - 20) (xd.size - 16)).size : Int) = (serN xd : Int)) := by unfold Hid serN; rw [ser_size h20]
        rw [HVe.out] at HVl
        obtain ⟨F, hF⟩ : ∃ F, formB 6 = F := ⟨_, rfl⟩
        rw [hF] at HPa HFm
        obtain ⟨X, hX⟩ : ∃ X, xd.extract (xd.size - 20) (xd.size - 16) = X := ⟨_, rfl⟩
        rw [hX] at HPa HVl
        clear hF hX hps hp2 hs h20 h65 hpl h2
        have HQ : Hid (∀ V, Below wa.heap.size wa V → V.cell? ⟨wr.heap.size, 4, none⟩ = some (.string xd)) := fun V hV => (HK.out V hV).cells.2.2.2.2
        have hB := (Below.refl wa.heap.size wa).drew
        go_wp2_with fail
        go_region_held3 (fun V => V.cell? ⟨wr.heap.size, 4, none⟩ = some (.string xd)) (first | go_keep | (with_reducible exact HQ.out _ hB))
          (first
            | (go_at_call 32; refine (HFm.out _).mono ?_; rintro e w5 ⟨rfl, rfl⟩)
            | (go_at_call 31; refine (HPa.out _).mono ?_; rintro e w6 ⟨⟨gp, cc, rfl, hcell⟩, hB5⟩; have hB := below_any hB hB5 (by first | exact .inl rfl | exact .inr rfl) hB.size; clear hB5))
        all_goals
          go_wp2_with (go_at_call 33; refine (HVl.out _).mono ?_; rintro e w7 ⟨rfl, rfl⟩)
          go_ret
          exact ⟨by rw [HS.out]; rfl, bstep HB.out (HK.out _ hB).bl HB.out.size⟩
      · have htb : (xt == 6) = false := by simp [ht]
        have HUU := hide' (HUp.out (by simp [ht]))
        go_wp2_with fail
        exact ⟨⟨k + 1, by go_num, by omega, HUU, bstep HB.out K0.out.bl HB.out.size⟩, by simp [intOf]; omega⟩
    · obtain rfl : k = M.length := by omega
      have HZ : Hid (serL M = 0) := by
        unfold Hid serL
        have : M.find? (fun r => decide (r.t = 6)) = none := by
          rw [List.find?_eq_none]
          intro x hx
          obtain ⟨i, hi, rfl⟩ := mem_at hx
          rw [HN.out i hi]; simp
        rw [this]
      go_wp2_with fail
      go_ret
      exact ⟨by rw [HZ.out]; rfl, HB.out⟩

set_option maxRecDepth 100000 in
set_option maxHeartbeats 4000000 in
/-- data.Serial -/
theorem dataSerial_any (r : Rn) (w : World) (h20 : 20 ≤ r.d.size) (h65 : r.d.size ≤ 65535) :
    Calls Tryz.prog 28 #[rcV r] w fun e w' => e = .returned (.int .i64 (serN r.d : Int)) ∧ Below w.heap.size w w' := by
  have K0 := hide' (Bk.start w r)
  obtain ⟨wa, hwa⟩ : ∃ wa, w.alloc (.cells #[.string r.o, .int .i64 r.t, .int .i64 r.c, .int .i64 r.l, .string r.d] 40) = wa := ⟨_, rfl⟩
  rw [hwa] at K0
  obtain ⟨v0, v1, v2, v3, v4⟩ := K0.out.cells
  obtain ⟨o, t, c, l, d⟩ := r
  unfold rcV
  simp only at v0 v1 v2 v3 v4 h20 h65 hwa ⊢
  have HVl := hide' (fun V => spellValue_any (d.extract (d.size - 20) (d.size - 16)) V (by rw [ser_size h20]; omega))
  have HVe : Hid ((vN (d.extract (d.size - 20) (d.size - 16)) (d.extract (d.size - 20) (d.size - 16)).size : Int) = (serN d : Int)) := by unfold Hid serN; rw [ser_size h20]
  rw [HVe.out] at HVl
  obtain ⟨m, hm⟩ : ∃ m, d.size - 20 = m := ⟨_, rfl⟩
  have e1 : (d.size : Int) - 20 = (m : Int) := by omega
  have e2 : IntKind.i64.wrap ((d.size : Int) - 20) = (m : Int) := by rw [e1, IntWalk.i64_in]; omega
  have e3 : IntKind.i64.wrap ((m : Int) + 4) = ((m + 4 : Nat) : Int) := by rw [IntWalk.i64_in] <;> omega
  have e4 : (0 : Int) ≤ (m : Int) := by omega
  have e5 : (m : Int) ≤ ((m + 4 : Nat) : Int) := by omega
  have e6 : ((m + 4 : Nat) : Int) ≤ (d.size : Int) := by omega
  have hm4 : d.size - 16 = m + 4 := by omega
  rw [hm, hm4] at HVl
  clear hm hm4
  go_enter Tryz.func28, Tryz.ntmps28
  go_wp2_with (go_at_call 60; refine (HVl.out _).mono ?_; rintro e w5 ⟨rfl, rfl⟩)
  go_ret
  exact ⟨rfl, K0.out.bl⟩
end Go.Proofs.YtbahjpjncopabaaGreat

/-
  Proofs: zone.New; a zone's records, apex and serial number. (The verifier's own text.)
-/
namespace Go.Proofs.YtbahjpjncopabaaGreat
set_option linter.unusedVariables false
set_option linter.unusedSimpArgs false
open Go.RowKit Go.Shelf Go.Maps Go.Proofs.YtbahjpjncopabaaGreat.Nm Go.Proofs.YtbahjpjncopabaaGreat.Zs

/-- a zone in memory -/
structure Zon (n : Nat) (wr : World) (apex : ByteArray) (L : List Rn) (ord : List Nat) (Z RW NM C m cnt : Nat) (p : Option Addr) (cp : Nat) (f : ByteArray → Option Nat) : Prop where
  zx : Bx wr Z #[.string apex, .slice p L.length cp, .map (some RW), .map (some NM)] 62
  own : wr.ownsRow C 40 5 (.slice p L.length cp) L.length (rce5 (ord.map (rAt L)))
  rows : MRow wr RW m (rowsF (ord.map (seAt (L.map senS))) L.length)
  nm : MNm wr NM cnt f
  dm : ∀ x, stG x → ((f x).isSome = true ↔ x ∈ namK apex (ord.map (rAt L)) L.length)
  laid : Laid apex L ord
  few : L.length ≤ 2000
  kept : ∀ x ∈ fltM apex L, x.2 = -2
  ge : n ≤ Z ∧ n ≤ RW ∧ n ≤ NM ∧ n ≤ C
theorem Zon.step {n : Nat} {wr w2 : World} {apex : ByteArray} {L : List Rn} {ord : List Nat} {Z RW NM C m cnt : Nat} {p : Option Addr} {cp : Nat} {f : ByteArray → Option Nat} (h : Zon n wr apex L ord Z RW NM C m cnt p cp f) (hb : Below wr.heap.size wr w2) : Zon n w2 apex L ord Z RW NM C m cnt p cp f :=
  ⟨h.zx.below hb h.zx.lt, own_below h.own hb, h.rows.grown (grown_below hb none) (by simp), h.nm.grown (grown_below hb none) (by simp), h.dm, h.laid, h.few, h.kept, h.ge⟩
/-- what New gives -/
structure NwE (apex : ByteArray) (L : List Rn) (w : World) (r : Ending) (w' : World) : Prop where
  bl : Below w.heap.size w w'
  no : (mkC apex L).2 ≠ 0 → r = .returned (.tuple #[.pointer none, .int .i64 (mkC apex L).1, .int .i64 (mkC apex L).2])
  yes : (mkC apex L).2 = 0 → ∃ ord Z RW NM C m cnt p cp f, r = .returned (.tuple #[.pointer (some ⟨Z, 0, none⟩), .int .i64 0, .int .i64 0]) ∧ Zon w.heap.size w' apex L ord Z RW NM C m cnt p cp f
theorem nwE_no {apex : ByteArray} {L : List Rn} {w w' : World} {a c : Int} {r : Ending} (h : mkC apex L = (a, c)) (hc : c ≠ 0) (hr : r = .returned (.tuple #[.pointer none, .int .i64 a, .int .i64 c])) (hb : Below w.heap.size w w') : NwE apex L w r w' :=
  ⟨hb, fun _ => by rw [h]; exact hr, fun h0 => absurd (by rw [h] at h0; exact h0) hc⟩

theorem fst_nat {P : Nat → Bool} {n : Nat} (h : fstI P n ≠ -2) : ∃ k : Nat, fstI P n = (k : Int) := by
  unfold fstI at h ⊢
  cases hf : (List.range n).find? P with
  | none => rw [hf] at h; exact absurd rfl h
  | some k => exact ⟨k, rfl⟩
section
variable {w w3 W w6 : World} {D Z LK FK RW NM B C P g m cap : Nat} {apex : ByteArray} {p : Option Addr} {sv rv : Value} {L : List Rn} {ord : List Nat}
theorem draft_ne (h : Ly w3 W D Z LK FK RW NM B C P g apex (foldB apex) (.slice p L.length cap) sv rv (L.map senS) (ord.map (rAt L)) ord L.length m (rowsF (ord.map (seAt (L.map senS))) L.length)) : some NM ≠ some D := by
  have := h.nm.ne h.dx
  simp; omega
theorem nameAllL_any (H : Laid apex L ord) (h : Ly w3 W D Z LK FK RW NM B C P g apex (foldB apex) (.slice p L.length cap) sv rv (L.map senS) (ord.map (rAt L)) ord L.length m (rowsF (ord.map (seAt (L.map senS))) L.length)) (hL : L.length ≤ 2000) (na : isN apex = true) :
    Calls Tryz.prog 22 #[.pointer (some ⟨Z, 0, none⟩)] W fun r w' => r = .returned (.tuple #[]) ∧ ∃ f p6 c6, rv = .slice p6 L.length c6 ∧ Na W w' NM (namK apex (ord.map (rAt L)) L.length) f := by
  obtain ⟨p6, c6, rfl, _, _, _⟩ := own_shape h.rown
  have hT := H.tlen
  have hlt := h.lt
  have hz := h.nm.ne h.zx
  refine (nameAll_any Z RW NM C apex p6 c6 (ord.map (rAt L)) W h.zx h.rown h.nm (by omega) (by omega) H.tok na (fun q hq => by have := own_ge h.rown hq; omega)).mono ?_
  rintro r w' ⟨rfl, f, hf⟩
  rw [hT] at hf ⊢
  exact ⟨rfl, f, p6, c6, rfl, hf⟩
theorem zon_of {f : ByteArray → Option Nat} {p6 : Option Addr} {c6 : Nat} (H : Laid apex L ord) (h : Ly w3 W D Z LK FK RW NM B C P g apex (foldB apex) (.slice p L.length cap) sv rv (L.map senS) (ord.map (rAt L)) ord L.length m (rowsF (ord.map (seAt (L.map senS))) L.length)) (hL : L.length ≤ 2000) (hkp : ∀ x ∈ fltM apex L, x.2 = -2) (hrv : rv = .slice p6 L.length c6) (hna : Na W w6 NM (namK apex (ord.map (rAt L)) L.length) f) (hb : Below w.heap.size w w3) : Zon w.heap.size w6 apex L ord Z RW NM C m (namK apex (ord.map (rAt L)) L.length).length p6 c6 f ∧ Below w.heap.size w w6 := by
  subst hrv
  have hT := H.tlen
  obtain ⟨l1, l2, l3, l4, l5, l6, l7, l8, l9⟩ := h.lt
  obtain ⟨g1, g2, g3, g4, g5, g6, g7, g8⟩ := h.ge
  obtain ⟨n1, n2, n3, n4, n5, n6, n7⟩ := h.ne
  have hz := h.nm.ne h.zx
  have hs := hb.size
  have hsz := h.sz
  have hbl := bstep hb h.bl hs
  have hro := h.rown
  rw [hT] at hro
  refine ⟨⟨h.zx.grown hna.gb (by simp; omega), hro.kept hna.gb (Or.inr fun e => by have := own_ge hro e; omega), h.rw'.grown hna.gb (by simp; omega), hna.nm, hna.dm, H, hL, hkp, ⟨by omega, by omega, by omega, by omega⟩⟩, ?_⟩
  exact hbl.grown hna.gb hbl.size (fun q e => by cases e; omega)
end

set_option maxRecDepth 100000 in
set_option maxHeartbeats 8000000 in
/-- zone.New -/
theorem new_any (apex : ByteArray) (L : List Rn) (p : Option Addr) (cap : Nat) (w : World) (hL : L.length ≤ 1048576) (hat : RsAt w p L) (hs : ∀ j, j < L.length → rSm (rAt L j)) (hap : apex.size ≤ 1048576) :
    Calls Tryz.prog 5 #[.string apex, .slice p L.length cap] w (NwE apex L w) := by
  have HCk := hide' (fun V => check_any apex V (by unfold maxLen; omega))
  obtain ⟨wa, hwa⟩ : ∃ wa, w.alloc (.cells #[.string apex] 9) = wa := ⟨_, rfl⟩
  have HXa : Hid (Bx wa w.heap.size #[.string apex] 9) := hwa ▸ World.alloc_heap_new w _
  have HBa : Hid (Below w.heap.size w wa) := hwa ▸ (Below.refl _ w).alloc (Nat.le_refl _) _
  have v0 : wa.cell? ⟨w.heap.size, 0, none⟩ = some (.string apex) := HXa.out.cell rfl
  have HQ : Hid (∀ V, Below wa.heap.size wa V → V.cell? ⟨w.heap.size, 0, none⟩ = some (.string apex)) := fun V hV => (HXa.out.below hV HXa.out.lt).cell rfl
  have hB := Below.refl wa.heap.size wa
  cases hN : isN apex with
  | false =>
    have HC : Hid (mkC apex L = (-1, 1)) := by unfold Hid mkC; rw [hN]; rfl
    have hc : chk apex = 1 := by unfold chk; rw [hN]; rfl
    rw [hc] at HCk
    clear hN hc hat hs
    go_enter Tryz.func5, Tryz.ntmps5
    go_wp2_with (go_at_call 15; refine (HCk.out _).mono ?_; rintro e w1 ⟨rfl, hB1⟩)
    go_ret3
    exact nwE_no HC.out (by decide) rfl (bstep HBa.out hB1 HBa.out.size)
  | true =>
    have hc : chk apex = 0 := by unfold chk; rw [hN]; rfl
    rw [hc] at HCk
    clear hc
    by_cases h2 : 2000 < L.length
    · have i2 : (2000 : Int) < (L.length : Int) := by omega
      have HC : Hid (mkC apex L = (-1, 20)) := by unfold Hid mkC; rw [hN, if_pos rfl, if_pos h2]
      clear hN hat hs
      go_enter Tryz.func5, Tryz.ntmps5
      go_wp2_with (go_at_call 15; refine (HCk.out _).mono ?_; rintro e w1 ⟨rfl, hB1⟩)
      go_ret3
      exact nwE_no HC.out (by decide) rfl (bstep HBa.out hB1 HBa.out.size)
    · have i2 : ¬ (2000 : Int) < (L.length : Int) := by omega
      have HC : Hid (mkC apex L = fltR (mkM apex L)) := by unfold Hid mkC; rw [hN, if_pos rfl, if_neg h2]
      have HI : Hid (∀ V, Below wa.heap.size wa V → Calls Tryz.prog 16 #[.slice p L.length cap, .func (Fn.func 17) #[] #[]] V fun r w' => r = .returned (.int .i64 (idxI (brkB apex L 2) L.length)) ∧ Below V.heap.size V w') := fun V hV =>
        indexWrong_any L p cap (brkB apex L 2) V hL (rs_stay hat (bstep HBa.out hV HBa.out.size)) (fun k hk X hX => zIsWrong_any (rAt L k) X (hs k hk))
      have HJ : Hid (∀ V, Below wa.heap.size wa V → Calls Tryz.prog 16 #[.slice p L.length cap, .func (Fn.func 18) #[] #[.pointer (some ⟨w.heap.size, 0, none⟩)]] V fun r w' => r = .returned (.int .i64 (idxI (brkB apex L 3) L.length)) ∧ Below V.heap.size V w') := fun V hV =>
        indexOutside_any L p cap (.pointer (some ⟨w.heap.size, 0, none⟩)) (brkB apex L 3) V hL (rs_stay hat (bstep HBa.out hV HBa.out.size)) (fun k hk X hX => zOutside_any apex w.heap.size (rAt L k) X (hs k hk) hap (HQ.out _ (bstep hV hX hV.size)) (Nat.lt_of_lt_of_le HXa.out.lt (Nat.le_trans hV.size hX.size)))
      by_cases e1 : fstI (brkB apex L 2) L.length = -2
      · have hi1 : idxI (brkB apex L 2) L.length = -1 := by unfold idxI; rw [if_pos e1]
        rw [hi1] at HI
        by_cases e2 : fstI (brkB apex L 3) L.length = -2
        · have hi2 : idxI (brkB apex L 3) L.length = -1 := by unfold idxI; rw [if_pos e2]
          rw [hi2] at HJ
          have hok : okL L := fun r hr => by
            obtain ⟨i, hi, rfl⟩ := mem_at hr
            have h9 : brk2 (rAt L i) = false := fst_inv e1 i hi
            unfold brk2 at h9
            unfold zonR
            simpa using h9
          have hwi : ∀ r ∈ L, withinB r.o apex = true := fun r hr => by
            obtain ⟨i, hi, rfl⟩ := mem_at hr
            have h9 : brk3 apex (rAt L i) = false := fst_inv e2 i hi
            unfold brk3 at h9
            simpa using h9
          have HCC : Hid (mkC apex L = fltR (fltM apex L)) := by
            unfold Hid
            rw [HC.out]
            show fltR ((8, _) :: (5, _) :: fltM apex L) = _
            rw [fltR_cons, if_pos e1, fltR_cons, if_pos e2]
          have h255 : apex.size ≤ 255 := ((isN_iff _).1 hN).1
          have HD : Hid (∀ V, Below wa.heap.size wa V → Calls Tryz.prog 20 #[.string apex, .slice p L.length cap] V _) := fun V hV => draft_any apex L p cap V h255 (by omega) (rs_stay hat (bstep HBa.out hV HBa.out.size)) hok
          have HMk : Hid (∀ ord, ord.Perm (List.range L.length) → So (ltS (L.map senS)) ord 0 L.length → Laid apex L ord) := fun ord h1 h2 => ⟨hok, hN, hwi, h1, h2⟩
          have HAT := hide' hat
          have h2' : L.length ≤ 2000 := by omega
          have hN' := hN
          clear e1 e2 hi1 hi2 hok hwi hN hat hs HC h2
          by_cases hz : (fltR (fltM apex L)).2 = 0
          · obtain ⟨hf0, hkp⟩ := flt_zero hz
            have HFL : Hid (fltR (fltM apex L) = (0, 0)) := hf0
            have HKp := hide' hkp
            have HNa : Hid (isN apex = true) := hN'
            clear hz hf0 hkp hN'
            have T1 : Hid True := trivial
            go_enter Tryz.func5, Tryz.ntmps5
            go_wp2_with (first
              | (go_at_call 15; refine (HCk.out _).mono ?_; rintro e w1 ⟨rfl, hB1⟩; have hB := bstep hB hB1 hB.size; clear hB1)
              | (go_at_call 16; have _ := T1; clear T1; refine (HI.out _ hB).mono ?_; rintro e w2 ⟨rfl, hB1⟩; have hB := bstep hB hB1 hB.size; clear hB1; have T2 : Hid True := trivial)
              | (go_at_call 16; have _ := T2; clear T2; refine (HJ.out _ hB).mono ?_; rintro e w3 ⟨rfl, hB1⟩; have hB := bstep hB hB1 hB.size; have v0 := HQ.out _ hB; clear hB1)
              | (go_at_call 20; refine (HD.out _ hB).mono ?_; rintro e w4 ⟨D, Z, LK, FK, RW, NM, B, C, P, g, m, sv, rv, ord, rfl, hy, hpm, hso⟩; have HY := hide' hy; have HL := hide' (HMk.out ord hpm hso); have HB3 := hide' hB; have d0 : w4.cell? ⟨D, 0, none⟩ = some (.pointer (some ⟨Z, 0, none⟩)) := hy.dx.cell rfl; clear hy hpm hso hB)
              | (go_at_call 21; refine (faultZ_any HL.out HY.out (rs_stay HAT.out (bstep HBa.out HB3.out HBa.out.size)) h2').mono ?_; rw [HFL.out]; rintro e w5 ⟨rfl, hB5⟩; have HY5 := hide' (HY.out.step hB5); have d0 : w5.cell? ⟨D, 0, none⟩ = some (.pointer (some ⟨Z, 0, none⟩)) := HY5.out.dx.cell rfl; clear hB5)
              | (go_at_call 22; refine (nameAllL_any HL.out HY5.out h2' HNa.out).mono ?_; rintro e w6 ⟨rfl, f, p6, c6, hrv, hna⟩; have HZO := hide' (zon_of HL.out HY5.out h2' HKp.out hrv hna (bstep HBa.out HB3.out HBa.out.size)); have d0 : w6.cell? ⟨D, 0, none⟩ = some (.pointer (some ⟨Z, 0, none⟩)) := (HY5.out.dx.grown hna.gb (draft_ne HY5.out)).cell rfl; clear hna))
            have hbl : Below w.heap.size w w6 := HZO.out.2
            go_ret3
            refine ⟨hbl, fun h => absurd (by rw [HCC.out, HFL.out]) h, fun _ => ⟨ord, Z, RW, NM, C, m, _, _, _, f, rfl, HZO.out.1⟩⟩
          · obtain ⟨a, c, hac⟩ : ∃ a c, fltR (fltM apex L) = (a, c) := ⟨_, _, rfl⟩
            have HFL : Hid (fltR (fltM apex L) = (a, c)) := hac
            have hc0 : c ≠ 0 := by rw [hac] at hz; exact hz
            have hcb : (c != 0) = true := by simp [hc0]
            have HC0 := hide' hc0
            clear hz hac hc0 hN'
            have T1 : Hid True := trivial
            go_enter Tryz.func5, Tryz.ntmps5
            go_wp2_with (first
              | (go_at_call 15; refine (HCk.out _).mono ?_; rintro e w1 ⟨rfl, hB1⟩; have hB := bstep hB hB1 hB.size; clear hB1)
              | (go_at_call 16; have _ := T1; clear T1; refine (HI.out _ hB).mono ?_; rintro e w2 ⟨rfl, hB1⟩; have hB := bstep hB hB1 hB.size; clear hB1; have T2 : Hid True := trivial)
              | (go_at_call 16; have _ := T2; clear T2; refine (HJ.out _ hB).mono ?_; rintro e w3 ⟨rfl, hB1⟩; have hB := bstep hB hB1 hB.size; have v0 := HQ.out _ hB; clear hB1)
              | (go_at_call 20; refine (HD.out _ hB).mono ?_; rintro e w4 ⟨D, Z, LK, FK, RW, NM, B, C, P, g, m, sv, rv, ord, rfl, hy, hpm, hso⟩; have HY := hide' hy; have HL := hide' (HMk.out ord hpm hso); have HB3 := hide' hB; have d0 : w4.cell? ⟨D, 0, none⟩ = some (.pointer (some ⟨Z, 0, none⟩)) := hy.dx.cell rfl; clear hy hpm hso hB)
              | (go_at_call 21; refine (faultZ_any HL.out HY.out (rs_stay HAT.out (bstep HBa.out HB3.out HBa.out.size)) h2').mono ?_; rw [HFL.out]; rintro e w5 ⟨rfl, hB5⟩; have HY5 := hide' (HY.out.step hB5); have d0 : w5.cell? ⟨D, 0, none⟩ = some (.pointer (some ⟨Z, 0, none⟩)) := HY5.out.dx.cell rfl; clear hB5))
            go_ret3
            exact nwE_no (HCC.out.trans HFL.out) HC0.out rfl (bstep (bstep HBa.out HB3.out HBa.out.size) HY5.out.bl (bstep HBa.out HB3.out HBa.out.size).size)
        · have hi2 : idxI (brkB apex L 3) L.length = fstI (brkB apex L 3) L.length := by unfold idxI; rw [if_neg e2]
          obtain ⟨k, hk⟩ := fst_nat e2
          rw [hi2, hk] at HJ
          have HCC : Hid (mkC apex L = ((k : Int), 5)) := by
            unfold Hid
            rw [HC.out]
            show fltR ((8, _) :: (5, _) :: fltM apex L) = _
            rw [fltR_cons, if_pos e1, fltR_cons, if_neg e2, hk]
          clear e1 e2 hi1 hi2 hN hat hs HC h2 hk
          have ik : (0 : Int) ≤ (k : Int) := by omega
          have T1 : Hid True := trivial
          go_enter Tryz.func5, Tryz.ntmps5
          go_wp2_with (first
              | (go_at_call 15; refine (HCk.out _).mono ?_; rintro e w1 ⟨rfl, hB1⟩; have hB := bstep hB hB1 hB.size; clear hB1)
              | (go_at_call 16; have _ := T1; clear T1; refine (HI.out _ hB).mono ?_; rintro e w2 ⟨rfl, hB1⟩; have hB := bstep hB hB1 hB.size; clear hB1; have T2 : Hid True := trivial)
              | (go_at_call 16; have _ := T2; clear T2; refine (HJ.out _ hB).mono ?_; rintro e w3 ⟨rfl, hB1⟩; have hB := bstep hB hB1 hB.size; have v0 := HQ.out _ hB; clear hB1))
          go_ret3
          exact nwE_no HCC.out (by decide) rfl (bstep HBa.out hB HBa.out.size)
      · have hi1 : idxI (brkB apex L 2) L.length = fstI (brkB apex L 2) L.length := by unfold idxI; rw [if_neg e1]
        obtain ⟨k, hk⟩ := fst_nat e1
        rw [hi1, hk] at HI
        have HCC : Hid (mkC apex L = ((k : Int), 8)) := by
          unfold Hid
          rw [HC.out]
          show fltR ((8, _) :: (5, _) :: fltM apex L) = _
          rw [fltR_cons, if_neg e1, hk]
        clear e1 hi1 hN hat hs HC h2 hk
        have ik : (0 : Int) ≤ (k : Int) := by omega
        have T1 : Hid True := trivial
        go_enter Tryz.func5, Tryz.ntmps5
        go_wp2_with (first
              | (go_at_call 15; refine (HCk.out _).mono ?_; rintro e w1 ⟨rfl, hB1⟩; have hB := bstep hB hB1 hB.size; clear hB1)
              | (go_at_call 16; have _ := T1; clear T1; refine (HI.out _ hB).mono ?_; rintro e w2 ⟨rfl, hB1⟩; have hB := bstep hB hB1 hB.size; clear hB1; have T2 : Hid True := trivial)
              | (go_at_call 16; have _ := T2; clear T2; refine (HJ.out _ hB).mono ?_; rintro e w3 ⟨rfl, hB1⟩; have hB := bstep hB hB1 hB.size; have v0 := HQ.out _ hB; clear hB1))
        go_ret3
        exact nwE_no HCC.out (by decide) rfl (bstep HBa.out hB HBa.out.size)
end Go.Proofs.YtbahjpjncopabaaGreat

/-
  Proofs: a zone's records, apex and serial number; gazetteersame.Mark. (The verifier's own text.)
-/
namespace Go.Proofs.YtbahjpjncopabaaGreat
set_option linter.unusedVariables false
set_option linter.unusedSimpArgs false
open Go.RowKit Go.Shelf Go.Maps Go.Proofs.YtbahjpjncopabaaGreat.Nm Go.Proofs.YtbahjpjncopabaaGreat.Zs

theorem grown_setR (w : World) (g o : Nat) (r : Rn) : w.grownBy (setR w g o r) (some g) := by rw [setR_cells]; exact grown_setCells g _ _ _

set_option maxRecDepth 100000 in
set_option maxHeartbeats 4000000 in
/-- gazetteersame.Mark -/
theorem mark2_any (g c n : Nat) (M : List Rn) (rest : List Value) (w : World) (h : Rb w g M rest) (hn : n ≤ M.length) (hM : M.length ≤ 1048580) :
    Calls Tryz.prog 8 #[.slice (some ⟨g, 0, none⟩) n c] w fun r w' => r = .returned (.tuple #[]) ∧ w.grownBy w' (some g) := by
  have HR := hide' h
  clear h
  go_enter Tryz.func8, Tryz.ntmps8
  go_wp2_with fail
  go_loopw [5] (fun kv wr => ∃ k : Nat, kv = .int .i64 (k : Int) ∧ k ≤ n ∧ Hid (∃ M', Rb wr g M' rest ∧ M'.length = M.length) ∧ Hid (w.grownBy wr (some g))) (fun kv _ => n - (intOf kv).toNat)
  case atStart => exact ⟨0, rfl, Nat.zero_le _, ⟨M, HR.out, rfl⟩, grown_refl _ _⟩
  case round =>
    obtain ⟨k, rfl, hk, HX, HG⟩ := hrel
    by_cases hlt : k < n
    · obtain ⟨M', hr, hl⟩ := HX.out
      have hkM : k < M'.length := by omega
      obtain ⟨c0, c1, c2, c3, c4⟩ := hr.cells hkM
      have f0 := Bx.free hr (k * 5)
      have f1 := Bx.free hr (k * 5 + 1)
      have f2 := Bx.free hr (k * 5 + 2)
      have f3 := Bx.free hr (k * 5 + 3)
      have f4 := Bx.free hr (k * 5 + 4)
      have pk : (k : Int) < (n : Int) := by omega
      have pk0 : (0 : Int) ≤ (k : Int) := by omega
      have HP : Hid (∀ r : Rn, Rb (setR wr g (k * 5) r) g (M'.set k r) rest ∧ (M'.set k r).length = M.length ∧ w.grownBy (setR wr g (k * 5) r) (some g)) := fun r => ⟨hr.put hkM r, by rw [List.length_set]; exact hl, grown_trans HG.out (grown_setR _ _ _ _)⟩
      have hng : IntKind.i64.wrap (-(k : Int)) = -(k : Int) := by rw [IntWalk.i64_in]; omega
      have hng2 : IntKind.i64.wrap (-(k : Int) - 1) = -(k : Int) - 1 := by rw [IntWalk.i64_in]; omega
      clear hr
      go_wp2_with fail
      have hP := HP.out ⟨⟨#[109, 97, 114, 107]⟩, -(k : Int) - 1, 0, 0, ⟨#[]⟩⟩
      exact ⟨⟨k + 1, by go_num, by omega, ⟨_, hP.1, hP.2.1⟩, hP.2.2⟩, by simp [intOf]; omega⟩
    · obtain rfl : k = n := by omega
      go_wp2_with fail
      go_end0
      exact ⟨rfl, HG.out⟩

section
variable {n : Nat} {W : World} {apex : ByteArray} {L : List Rn} {ord : List Nat} {Z RW NM C m cnt : Nat} {p : Option Addr} {cp : Nat} {f : ByteArray → Option Nat}
set_option maxRecDepth 100000 in
set_option maxHeartbeats 4000000 in
/-- (*zone.Zone).Records -/
theorem zRecords_any (h : Zon n W apex L ord Z RW NM C m cnt p cp f) :
    Calls Tryz.prog 9 #[.pointer (some ⟨Z, 0, none⟩)] W fun r w' => (∃ v, r = .returned v ∧ w'.ownsRow W.heap.size 40 5 v L.length (rce5 (ord.map (rAt L)))) ∧ Below W.heap.size W w' := by
  have z1 : W.cell? ⟨Z, 1, none⟩ = some (.slice p L.length cp) := h.zx.cell rfl
  have hT := h.laid.tlen
  obtain ⟨p0, c0, he, hc1, hc2, hc3⟩ := own_shape h.own
  injection he with he1 he2 he3
  subst he1 he3
  have hcl := cloneZ_any (ord.map (rAt L)) p cp W (by have := h.few; omega) (rsAt_ownZ h.own hT.symm) hc3
  rw [hT] at hcl
  have HC := hide' hcl
  clear h hcl hc1 hc2 hc3 hT he2
  go_enter Tryz.func9, Tryz.ntmps9
  go_wp2_with (go_at_call 27; refine HC.out.mono ?_; rintro r w2 ⟨⟨v, rfl, ho⟩, hB⟩; have HO := hide' ho; have HB := hide' hB; clear ho hB)
  go_ret
  exact ⟨⟨v, rfl, HO.out⟩, HB.out⟩
set_option maxRecDepth 100000 in
/-- (*zone.Zone).Apex -/
theorem zApex_any (h : Zon n W apex L ord Z RW NM C m cnt p cp f) :
    Calls Tryz.prog 11 #[.pointer (some ⟨Z, 0, none⟩)] W fun r w' => r = .returned (.string apex) ∧ w' = W := by
  have z0 : W.cell? ⟨Z, 0, none⟩ = some (.string apex) := h.zx.cell rfl
  clear h
  go_enter Tryz.func11, Tryz.ntmps11
  go_wp2_with fail
  go_ret
  exact ⟨rfl, rfl⟩
theorem Zon.rule {i : Nat} (h : Zon n W apex L ord Z RW NM C m cnt p cp f) (hi : i < (fltM apex L).length) : (fltM apex L)[i].2 = -2 := h.kept _ (List.getElem_mem hi)
/-- the SOA stands first at its place -/
theorem Zon.soa (h : Zon n W apex L ord Z RW NM C m cnt p cp f) : ∃ r, (rowT (ord.map (rAt L)) ((rowsF (ord.map (seAt (L.map senS))) L.length (foldB apex, 6)).getD (0, 0))).head? = some r ∧ r.t = 6 ∧ zonR r = true ∧ serL (ord.map (rAt L)) = (serN r.d : Int) := by
  have H := h.laid
  have h5 : fstI (brkB apex L 5) L.length = -2 := h.rule (i := 1) (by show 1 < 8; omega)
  have h6 : (if hasB L apex 6 = true then (-2 : Int) else -1) = -2 := h.rule (i := 2) (by show 2 < 8; omega)
  have hh : hasB L apex 6 = true := by
    cases hb : hasB L apex 6 with
    | true => rfl
    | false => rw [hb] at h6; simp at h6
  have hsame : (ord.map (rAt L)).filter (fun r => mtc (foldB apex, 6) (senS r)) = (ord.map (rAt L)).filter (fun r => decide (r.t = 6)) := by
    apply List.filter_congr
    intro r hr
    have hrL := H.perm.mem_iff.1 hr
    obtain ⟨i, hi, rfl⟩ := mem_at hrL
    by_cases ht : (rAt L i).t = 6
    · have hb : brk5 apex L i (rAt L i) = false := fst_inv h5 i hi
      unfold brk5 at hb
      rw [decide_eq_true ht, Bool.true_and, Bool.or_eq_false_iff] at hb
      have he : eqB (rAt L i).o apex = true := by simpa using hb.2
      rw [eq_dec (H.isn hi)] at he
      have he' := of_decide_eq_true he
      simp [mtc, senS, ht, he']
    · simp [mtc, senS, ht]
  have hhead : ((ord.map (rAt L)).filter (fun r => decide (r.t = 6))).head? = (ord.map (rAt L)).find? (fun r => decide (r.t = 6)) := List.head?_filter ..
  obtain ⟨x, hx, hxt⟩ : ∃ x ∈ ord.map (rAt L), x.t = 6 := by
    unfold hasB at hh
    rw [List.any_eq_true] at hh
    obtain ⟨x, hx, hx2⟩ := hh
    rw [Bool.and_eq_true] at hx2
    exact ⟨x, H.perm.mem_iff.2 hx, of_decide_eq_true hx2.1⟩
  cases hf : (ord.map (rAt L)).find? (fun r => decide (r.t = 6)) with
  | none =>
    rw [List.find?_eq_none] at hf
    exact absurd (by simp [hxt]) (hf x hx)
  | some r =>
    refine ⟨r, ?_, ?_, H.tok r (List.mem_of_find?_eq_some hf), ?_⟩
    · rw [H.row, hsame, hhead, hf]
    · have := List.find?_some hf
      simpa using this
    · unfold serL; rw [hf]
set_option maxRecDepth 100000 in
set_option maxHeartbeats 4000000 in
/-- (*zone.Zone).Serial -/
theorem zSerial_any (h : Zon n W apex L ord Z RW NM C m cnt p cp f) :
    Calls Tryz.prog 12 #[.pointer (some ⟨Z, 0, none⟩)] W fun r w' => r = .returned (.int .i64 (serL (ord.map (rAt L)))) ∧ Below W.heap.size W w' := by
  have z0 : W.cell? ⟨Z, 0, none⟩ = some (.string apex) := h.zx.cell rfl
  obtain ⟨r0, hr1, hr2, hr3, hr4⟩ := h.soa
  have hT := h.laid.tlen
  have hna := h.laid.na
  have h255 : apex.size ≤ 255 := ((isN_iff _).1 hna).1
  have HF := hide' (fun V => fold_any apex V (by unfold maxLen; omega))
  have hU := row_le h.laid.us (foldB apex, 6)
  have hUl : (ord.map (seAt (L.map senS))).length = L.length := by rw [List.length_map, h.laid.len]
  rw [hUl] at hU
  have HA : Hid (∀ V, Below W.heap.size W V → Calls Tryz.prog 29 #[.pointer (some ⟨Z, 0, none⟩), .string (foldB apex), .int .i64 6] V fun r w' => (∃ q c, r = .returned (.slice q (rowT (ord.map (rAt L)) ((rowsF (ord.map (seAt (L.map senS))) L.length (foldB apex, 6)).getD (0, 0))).length c) ∧ RsAt w' q (rowT (ord.map (rAt L)) ((rowsF (ord.map (seAt (L.map senS))) L.length (foldB apex, 6)).getD (0, 0)))) ∧ Below V.heap.size V w') := fun V hV => by
    have hs := h.step hV
    have hzx := hs.zx
    have hown := hs.own
    rw [← hT] at hzx hown
    exact at_any Z RW NM m apex p cp C (ord.map (rAt L)) (foldB apex, 6) _ V hzx hs.rows (plG_any (zfoldB_size hna) (by omega)) hown (by have := h.few; omega) (by rw [hT]; exact hU)
  obtain ⟨X, hX⟩ : ∃ X, rowT (ord.map (rAt L)) ((rowsF (ord.map (seAt (L.map senS))) L.length (foldB apex, 6)).getD (0, 0)) = X := ⟨_, rfl⟩
  rw [hX] at hr1 HA
  cases X with
  | nil => cases hr1
  | cons x X =>
    have hx0 : x = r0 := by simpa using hr1
    subst hx0
    obtain ⟨_, _, _, h20, h65, _⟩ := soa_parts (d := x.d) (by have := (ok_facts hr3).2.2.2.2.1; rw [hr2] at this; exact this)
    have HS := hide' (fun V => dataSerial_any x V h20 h65)
    have HE := hide' hr4
    obtain ⟨F, hF⟩ : ∃ F, foldB apex = F := ⟨_, rfl⟩
    rw [hF] at HF HA
    clear hF hX hr1 hr2 hr3 hr4 h20 h65 hU hUl hT hna h255 h
    obtain ⟨xo, xt, xc, xl, xd⟩ := x
    unfold rcV at HS
    simp only at HS HE
    have hB := Below.refl W.heap.size W
    go_enter Tryz.func12, Tryz.ntmps12
    go_wp2_with (first
      | (go_at_call 30; refine (HF.out _).mono ?_; rintro e w1 ⟨rfl, hB1⟩; have hB := bstep hB hB1 hB.size; clear hB1)
      | (go_at_call 29; refine (HA.out _ hB).mono ?_; rintro e w2 ⟨⟨q, c, rfl, hrs⟩, hB1⟩; have hB := bstep hB hB1 hB.size; obtain ⟨gq, oq, hq, hgq, y0, y1, y2, y3, y4⟩ := hrs 0 (by simp); subst hq; simp only [List.getElem_cons_zero, Nat.zero_mul, Nat.add_zero] at y0 y1 y2 y3 y4; clear hB1 hrs)
      | (go_at_call 28; refine (HS.out _).mono ?_; rintro e w3 ⟨rfl, hB1⟩; have hB := bstep hB hB1 hB.size; clear hB1))
    go_ret
    exact ⟨by rw [HE.out]; rfl, hB⟩
end
end Go.Proofs.YtbahjpjncopabaaGreat

/-
  Proofs: ZoneMakes. (The verifier's own text.)
-/
namespace Go.Proofs.YtbahjpjncopabaaGreat
set_option linter.unusedVariables false
set_option linter.unusedSimpArgs false
open Go.RowKit Go.Shelf Go.Maps Go.Proofs.YtbahjpjncopabaaGreat.Nm Go.Proofs.YtbahjpjncopabaaGreat.Zs

/-- a list that rises is told by its members -/
theorem rise_eq : ∀ (A B : List Rn), A.Perm B → A.Pairwise (fun x y => befB x y = true) → B.Pairwise upR2 → A = B
  | [], B, hp, _, _ => by rw [List.nil_perm.1 hp]
  | a :: A, [], hp, _, _ => absurd (List.perm_nil.1 hp) (by simp)
  | a :: A, b :: B, hp, hA, hB => by
    have ha := List.pairwise_cons.1 hA
    have hb := List.pairwise_cons.1 hB
    have e : a = b := by
      rcases List.mem_cons.1 (hp.mem_iff.1 (List.mem_cons_self ..)) with h | h
      · exact h
      · rcases List.mem_cons.1 (hp.mem_iff.2 (List.mem_cons_self ..)) with h' | h'
        · exact h'.symm
        · have l1 : befB a b = false := hb.1 a h
          rw [ha.1 b h'] at l1
          cases l1
    subst e
    rw [rise_eq A B (List.Perm.cons_inv hp) ha.2 hb.2]

/-- both zones in memory: their blocks lie from n up to N -/
structure Zm (n N : Nat) (wr : World) (apex : ByteArray) (L : List Rn) (ord : List Nat) (Z RW NM C m cnt : Nat) (p : Option Addr) (cp : Nat) (f : ByteArray → Option Nat) (zb : Nat) (pm : Option Addr) (cm : Nat) : Prop where
  zon : Zon n wr apex L ord Z RW NM C m cnt p cp f
  yx : Bx wr zb #[.string apex, .slice pm L.length cm] 35
  yo : wr.ownsRow n 40 5 (.slice pm L.length cm) L.length (rce5 (ord.map (rAt L)))
  lt : Z < N ∧ RW < N ∧ NM < N ∧ zb < N ∧ n ≤ zb
  o1 : ∀ g, (Value.slice p L.length cp).ownBlock = some g → g < N
  o2 : ∀ g, (Value.slice pm L.length cm).ownBlock = some g → g < N
  sz : N ≤ wr.heap.size
section
variable {n N : Nat} {wr w2 : World} {apex : ByteArray} {L : List Rn} {ord : List Nat} {Z RW NM C m cnt : Nat} {p : Option Addr} {cp : Nat} {f : ByteArray → Option Nat} {zb : Nat} {pm : Option Addr} {cm : Nat}
theorem Zm.keep (h : Zm n N wr apex L ord Z RW NM C m cnt p cp f zb pm cm) {q : Nat} (hg : wr.grownBy w2 (some q)) (hq : q < n ∨ N ≤ q) : Zm n N w2 apex L ord Z RW NM C m cnt p cp f zb pm cm := by
  obtain ⟨l1, l2, l3, l4, l5⟩ := h.lt
  obtain ⟨g1, g2, g3, g4⟩ := h.zon.ge
  have z := h.zon
  refine ⟨⟨z.zx.grown hg (by simp; omega), z.own.kept hg (Or.inr fun e => ?_), z.rows.grown hg (by simp; omega), z.nm.grown hg (by simp; omega), z.dm, z.laid, z.few, z.kept, z.ge⟩, h.yx.grown hg (by simp; omega), h.yo.kept hg (Or.inr fun e => ?_), h.lt, h.o1, h.o2, Nat.le_trans h.sz hg.size⟩
  · have := own_ge z.own e
    have := h.o1 _ e
    omega
  · have := own_ge h.yo e
    have := h.o2 _ e
    omega
theorem Zm.step (h : Zm n N wr apex L ord Z RW NM C m cnt p cp f zb pm cm) (hb : Below wr.heap.size wr w2) : Zm n N w2 apex L ord Z RW NM C m cnt p cp f zb pm cm :=
  ⟨h.zon.step hb, h.yx.below hb h.yx.lt, own_below h.yo hb, h.lt, h.o1, h.o2, Nat.le_trans h.sz hb.size⟩
theorem Zm.rs (h : Zm n N wr apex L ord Z RW NM C m cnt p cp f zb pm cm) : RsAt wr pm (ord.map (rAt L)) := rsAt_ownZ h.yo h.zon.laid.tlen.symm
theorem Zm.cell (h : Zm n N wr apex L ord Z RW NM C m cnt p cp f zb pm cm) : wr.cell? ⟨zb, 1, none⟩ = some (.slice pm L.length cm) := h.yx.cell rfl
end

theorem below_quietZ {w : World} (m : Nat) : Below w.heap.size w (w.drewN m) := ⟨rfl, rfl, rfl, Nat.le_refl _, fun _ _ => rfl⟩
theorem Zon.pos {n : Nat} {W : World} {apex : ByteArray} {L : List Rn} {ord : List Nat} {Z RW NM C m cnt : Nat} {p : Option Addr} {cp : Nat} {f : ByteArray → Option Nat} (h : Zon n W apex L ord Z RW NM C m cnt p cp f) : 0 < L.length := by
  obtain ⟨r, hr, _⟩ := h.soa
  rcases Nat.eq_zero_or_pos L.length with h0 | h0
  · exfalso
    have hT := h.laid.tlen
    have : ord.map (rAt L) = [] := List.eq_nil_of_length_eq_zero (by omega)
    rw [this] at hr
    simp [rowT] at hr
  · exact h0
theorem own_some {w : World} {b n : Nat} {v : Value} {xs : List Value} (h : w.ownsRow b 40 5 v n xs) (hn : 0 < n) : ∃ g c, v = .slice (some ⟨g, 0, none⟩) n c := by
  obtain ⟨hl, (⟨h1, h0⟩ | ⟨g, cap, cur, h1, _⟩)⟩ := h
  · omega
  · exact ⟨g, cap, h1⟩
/-- what the reference's Make has made -/
structure Mkd (w w' : World) (apex : ByteArray) (L : List Rn) (zb : Nat) (pm : Option Addr) (cm : Nat) (M : List Rn) : Prop where
  ge : w.heap.size ≤ zb
  yx : Bx w' zb #[.string apex, .slice pm L.length cm] 35
  yo : w'.ownsRow w.heap.size 40 5 (.slice pm L.length cm) L.length (rce5 M)
  pm' : M.Perm L
  pw : M.Pairwise upR2
theorem zm_of {n : Nat} {w2 w3 : World} {apex : ByteArray} {L M : List Rn} {ord : List Nat} {Z RW NM C m cnt : Nat} {p : Option Addr} {cp : Nat} {f : ByteArray → Option Nat} {zb : Nat} {pm : Option Addr} {cm : Nat} (h : Zon n w2 apex L ord Z RW NM C m cnt p cp f) (hd : Mkd w2 w3 apex L zb pm cm M) (hn : n ≤ w2.heap.size) (hb : Below w2.heap.size w2 w3) : Zm n w3.heap.size w3 apex L ord Z RW NM C m cnt p cp f zb pm cm := by
  have h3 := h.step hb
  have h4 : fstI (brkB apex L 4) L.length = -2 := h.rule (i := 0) (by show 0 < 8; omega)
  have hT : ord.map (rAt L) = M := rise_eq _ _ (h.laid.perm.trans hd.pm'.symm) (h.laid.rise h4) hd.pw
  have hge := hd.ge
  have ho := hd.yo
  rw [← hT] at ho
  exact ⟨h3, hd.yx, own_baseZ ho hn, ⟨h3.zx.lt, h3.rows.lt, h3.nm.lt, hd.yx.lt, by omega⟩, fun g e => (h3.own.lt g e).2, fun g e => (ho.lt g e).2, Nat.le_refl _⟩
theorem mark_own {w w1 V : World} {g c : Nat} {L : List Rn} (ho : w1.ownsRow w.heap.size 40 5 (.slice (some ⟨g, 0, none⟩) (L.length + 2) c) (L.length + 2) (rce5 (L ++ [spR, spR]))) (hb : Below w1.heap.size w1 V) (hL : L.length ≤ 1048576) :
    Calls Tryz.prog 8 #[.slice (some ⟨g, 0, none⟩) L.length c] V fun r w' => r = .returned (.tuple #[]) ∧ V.grownBy w' (some g) := by
  obtain ⟨rest, hr, _⟩ := rb_ownM (own_below ho hb)
  exact mark2_any g c L.length (L ++ [spR, spR]) rest V hr (by simp) (by simp; omega)
theorem mark_rs {W : World} {b g c n : Nat} {T : List Rn} (ho : W.ownsRow b 40 5 (.slice (some ⟨g, 0, none⟩) n c) n (rce5 T)) (hT : T.length = n) (hL : n ≤ 1048000) :
    Calls Tryz.prog 8 #[.slice (some ⟨g, 0, none⟩) n c] W fun r w' => r = .returned (.tuple #[]) ∧ W.grownBy w' (some g) := by
  obtain ⟨rest, hr, _⟩ := rb_ownM ho
  exact mark2_any g c n T rest W hr (by omega) (by omega)

set_option maxRecDepth 100000 in
set_option maxHeartbeats 8000000 in
/-- ZoneMakes -/
theorem zoneMakes_any (apex : ByteArray) (L : List Rn) (p : Option Addr) (cap : Nat) (w : World) (hL : L.length ≤ 1048576) (hat : RsAt w p L) (hs : ∀ j, j < L.length → rSm (rAt L j)) (hap : apex.size ≤ 1048576) (hcp : L.length ≤ cap) (hcm : cap ≤ maxLen) (hpn : p = none → cap = 0) :
    Calls Tryz.prog 3 #[.string apex, .slice p L.length cap] w fun r w' => r = .returned (.bool true) ∧ Below w.heap.size w w' := by
  have HTw := hide' (twin_any L p cap w hL hat hpn)
  have HNw : Hid (∀ (V : World) (g c : Nat), RsAt V (some ⟨g, 0, none⟩) L → Calls Tryz.prog 5 #[.string apex, .slice (some ⟨g, 0, none⟩) L.length c] V (NwE apex L V)) := fun V g c h => new_any apex L _ c V hL h hs hap
  have HMk : Hid (∀ V : World, Below w.heap.size w V → Calls Tryz.prog 6 #[.string apex, .slice p L.length cap] V (MkE apex L V)) := fun V hV => by
    by_cases hN : isN apex = true
    · by_cases h2 : 2000 < L.length
      · exact make_arg apex L p cap V hL hap (Or.inr h2)
      · exact make_in apex L p cap V (by omega) (rs_stay hat hV) hs hap hN hcp hcm hpn
    · exact make_arg apex L p cap V hL hap (Or.inl (by simpa using hN))
  have HWh : Hid (∀ (V : World) (g c : Nat), RsAt V (some ⟨g, 0, none⟩) (L ++ [spR, spR]) → L.length + 2 ≤ c → Below w.heap.size w V → Calls Tryz.prog 7 #[.slice (some ⟨g, 0, none⟩) L.length c, .slice p L.length cap] V fun e w' => e = .returned (.bool true) ∧ Below V.heap.size V w') := fun V g c h1 h2 h3 => wholeL_any L g c p cap V hL h1 h2 (rs_stay hat h3)
  clear hs hcp hcm hpn hat
  by_cases hz : (mkC apex L).2 ≠ 0
  · obtain ⟨a, c0, hac⟩ : ∃ a c, mkC apex L = (a, c) := ⟨_, _, rfl⟩
    have HN2 : Hid (∀ (V : World) (r : Ending) (w' : World), NwE apex L V r w' → r = .returned (.tuple #[.pointer none, .int .i64 a, .int .i64 c0]) ∧ Below V.heap.size V w') := fun V r w' h => by
      have := h.no hz
      rw [hac] at this
      exact ⟨this, h.bl⟩
    have HM2 : Hid (∀ (V : World) (r : Ending) (w' : World), MkE apex L V r w' → r = .returned (.tuple #[.pointer none, .int .i64 a, .int .i64 c0]) ∧ Below V.heap.size V w') := fun V r w' h => by
      have := h.no hz
      rw [hac] at this
      exact ⟨this, h.bl⟩
    clear hz hac
    go_enter Tryz.func3, Tryz.ntmps3
    go_wp2_with (first
      | (go_at_call 4; refine HTw.out.mono ?_; rintro e w1 ⟨g, c, rfl, ho, hB1⟩; have HO1 := hide' ho; have HB1 := hide' hB1; have HC1 := hide' (own_cap ho).1; clear ho hB1)
      | (go_at_call 5; refine (HNw.out _ g c (rs_left (rs_own5 HO1.out))).mono ?_; intro e w2 hnw; obtain ⟨rfl, hB2⟩ := HN2.out _ _ _ hnw; have HB2 := hide' hB2; have HBw2 := hide' (bstep HB1.out hB2 HB1.out.size); clear hnw hB2)
      | (go_at_call 6; refine (HMk.out _ HBw2.out).mono ?_; intro e w3 hmk; obtain ⟨rfl, hB3⟩ := HM2.out _ _ _ hmk; have HB3 := hide' (bstep HB2.out hB3 HB2.out.size); have HBw3 := hide' (bstep HBw2.out hB3 HBw2.out.size); clear hmk hB3)
      | (go_at_call 7; refine (HWh.out _ g c (rs_stay (rs_own5 HO1.out) HB3.out) HC1.out HBw3.out).mono ?_; rintro e w4 ⟨rfl, hB4⟩; have HBw4 := hide' (bstep HBw3.out hB4 HBw3.out.size); clear hB4))
    go_ret
    exact ⟨rfl, HBw4.out⟩
  · have hz0 : (mkC apex L).2 = 0 := by simpa using hz
    have HN2 : Hid (∀ (V : World) (r : Ending) (w' : World), NwE apex L V r w' → ∃ ord Z RW NM C m cnt p cp f, r = .returned (.tuple #[.pointer (some ⟨Z, 0, none⟩), .int .i64 0, .int .i64 0]) ∧ Zon V.heap.size w' apex L ord Z RW NM C m cnt p cp f ∧ Below V.heap.size V w') := fun V r w' h => by
      obtain ⟨ord, Z, RW, NM, C, m, cnt, p, cp, f, h1, h2⟩ := h.yes hz0
      exact ⟨ord, Z, RW, NM, C, m, cnt, p, cp, f, h1, h2, h.bl⟩
    have HM2 : Hid (∀ (V : World) (r : Ending) (w' : World), MkE apex L V r w' → ∃ zb pm cm M, r = .returned (.tuple #[.pointer (some ⟨zb, 0, none⟩), .int .i64 0, .int .i64 0]) ∧ Mkd V w' apex L zb pm cm M ∧ Below V.heap.size V w') := fun V r w' h => by
      obtain ⟨zb, v, M, h1, h2, h3, h4, h5, h6⟩ := h.yes hz0
      obtain ⟨pm, cm, rfl, _, _, _⟩ := own_shape h4
      exact ⟨zb, pm, cm, M, h1, ⟨h2, h3, h4, h5, h6⟩, h.bl⟩
    clear hz hz0
    go_enter Tryz.func3, Tryz.ntmps3
    have T1 : Hid True := trivial
    go_wp2_with (first
      | (go_at_call 4; refine HTw.out.mono ?_; rintro e w1 ⟨g, c, rfl, ho, hB1⟩; have HO1 := hide' ho; have HB1 := hide' hB1; have HC1 := hide' (own_cap ho).1; clear ho hB1)
      | (go_at_call 5; refine (HNw.out _ g c (rs_left (rs_own5 HO1.out))).mono ?_; intro e w2 hnw; obtain ⟨ord, Z, RW, NM, C, m, cnt, pz, cz, f, rfl, hzo, hB2⟩ := HN2.out _ _ _ hnw; have HZ2 := hide' hzo; have HB2 := hide' hB2; have HBw2 := hide' (bstep HB1.out hB2 HB1.out.size); clear hnw hB2 hzo)
      | (go_at_call 6; refine (HMk.out _ HBw2.out).mono ?_; intro e w3 hmk; obtain ⟨zb, pm, cm, M, rfl, hmd, hB3⟩ := HM2.out _ _ _ hmk; have HZ3 := hide' (zm_of HZ2.out hmd HB2.out.size hB3); have HB3 := hide' (bstep HB2.out hB3 HB2.out.size); have HBw3 := hide' (bstep HBw2.out hB3 HBw2.out.size); clear hmk hB3 hmd)
      | (go_at_call 7; refine (HWh.out _ g c (rs_stay (rs_own5 HO1.out) HB3.out) HC1.out HBw3.out).mono ?_; rintro e w4 ⟨rfl, hB4⟩; have HZ4 := hide' (HZ3.out.step hB4); have HB4 := hide' (bstep HB3.out hB4 HB3.out.size); have HBw4 := hide' (bstep HBw3.out hB4 HBw3.out.size); clear hB4)
      | (go_at_call 8; have _ := T1; clear T1; refine (mark_own HO1.out HB4.out hL).mono ?_; rintro e w5 ⟨rfl, hG5⟩; have HZ5 := hide' (HZ4.out.keep hG5 (Or.inl (HO1.out.lt g rfl).2)); have HBw5 := hide' (HBw4.out.grown hG5 HBw4.out.size (fun q e => by cases e; exact own_ge HO1.out rfl)); clear hG5; have T2 : Hid True := trivial)
      | (go_at_call 9; refine (zRecords_any HZ5.out.zon).mono ?_; rintro e w6 ⟨⟨v6, rfl, ho6⟩, hB6⟩; obtain ⟨g6, c6, rfl⟩ := own_some ho6 HZ5.out.zon.pos; have HO6 := hide' ho6; have HZ6 := hide' (HZ5.out.step hB6); have HBw6 := hide' (bstep HBw5.out hB6 HBw5.out.size); have y1 := HZ6.out.cell; clear ho6 hB6)
      | (go_at_call 10; refine (sameRecords2 (some ⟨g6, 0, none⟩) pm L.length c6 cm (ord.map (rAt L)) w6 (rsAt_ownZ HO6.out HZ6.out.zon.laid.tlen.symm) HZ6.out.rs HZ6.out.zon.laid.tlen.symm (by have := HZ6.out.zon.few; omega)).mono ?_; rintro e w7 ⟨rfl, m7, hw7⟩; have hq7 : Below w6.heap.size w6 w7 := hw7 ▸ below_quietZ m7; have HZ7 := hide' (HZ6.out.step hq7); have HO7 := hide' (own_below HO6.out hq7); have HBw7 := hide' (bstep HBw6.out hq7 HBw6.out.size); clear hw7 hq7 y1)
      | (go_at_call 8; have _ := T2; clear T2; refine (mark_rs HO7.out HZ7.out.zon.laid.tlen (by have := HZ7.out.zon.few; omega)).mono ?_; rintro e w8 ⟨rfl, hG8⟩; have HZ8 := hide' (HZ7.out.keep hG8 (Or.inr (Nat.le_trans HZ5.out.sz (own_ge HO7.out rfl)))); have HBw8 := hide' (HBw7.out.grown hG8 HBw7.out.size (fun q e => by cases e; exact Nat.le_trans HBw5.out.size (own_ge HO7.out rfl))); clear hG8))
    have HAp : Hid (∀ V, Below w8.heap.size w8 V → Calls Tryz.prog 11 #[.pointer (some ⟨Z, 0, none⟩)] V fun r w' => r = .returned (.string apex) ∧ w' = V) := fun V hV => zApex_any (HZ8.out.step hV).zon
    have HSe : Hid (∀ V, Below w8.heap.size w8 V → Calls Tryz.prog 12 #[.pointer (some ⟨Z, 0, none⟩)] V fun r w' => r = .returned (.int .i64 (serL (ord.map (rAt L)))) ∧ Below V.heap.size V w') := fun V hV => zSerial_any (HZ8.out.step hV).zon
    have HYe : Hid (∀ V, Below w8.heap.size w8 V → Calls Tryz.prog 13 #[.pointer (some ⟨zb, 0, none⟩)] V fun r w' => r = .returned (.int .i64 (serL (ord.map (rAt L)))) ∧ Below V.heap.size V w') := fun V hV => by
      have h := HZ8.out.step hV
      have hT := h.zon.laid.tlen
      have hx := h.yx
      rw [← hT] at hx
      exact rserial_any zb apex (ord.map (rAt L)) pm cm V hx h.rs h.zon.laid.tok (by have := h.zon.few; omega)
    have HRe : Hid (∀ V, Below w8.heap.size w8 V → Calls Tryz.prog 9 #[.pointer (some ⟨Z, 0, none⟩)] V fun r w' => (∃ g9 c9, r = .returned (.slice (some ⟨g9, 0, none⟩) L.length c9) ∧ RsAt w' (some ⟨g9, 0, none⟩) (ord.map (rAt L))) ∧ Below V.heap.size V w') := fun V hV => by
      have h := HZ8.out.step hV
      refine (zRecords_any h.zon).mono ?_
      rintro r w' ⟨⟨v, rfl, ho⟩, hb⟩
      obtain ⟨g9, c9, rfl⟩ := own_some ho h.zon.pos
      exact ⟨⟨g9, c9, rfl, rsAt_ownZ ho h.zon.laid.tlen.symm⟩, hb⟩
    have HSm : Hid (∀ V g9 c9, Below w8.heap.size w8 V → RsAt V (some ⟨g9, 0, none⟩) (ord.map (rAt L)) → Calls Tryz.prog 10 #[.slice (some ⟨g9, 0, none⟩) L.length c9, .slice pm L.length cm] V fun e w' => e = .returned (.bool true) ∧ Below V.heap.size V w') := fun V g9 c9 hV hr => by
      have h := HZ8.out.step hV
      refine (sameRecords2 (some ⟨g9, 0, none⟩) pm L.length c9 cm (ord.map (rAt L)) V hr h.rs h.zon.laid.tlen.symm (by have := h.zon.few; omega)).mono ?_
      rintro e w' ⟨rfl, k, rfl⟩
      exact ⟨rfl, below_quietZ k⟩
    have HQ : Hid (∀ V, Below w8.heap.size w8 V → V.cell? ⟨zb, 1, none⟩ = some (.slice pm L.length cm)) := fun V hV => (HZ8.out.step hV).cell
    obtain ⟨SV, hSV⟩ : ∃ SV, serL (ord.map (rAt L)) = SV := ⟨_, rfl⟩
    rw [hSV] at HSe HYe
    clear hSV
    have y1 := HQ.out _ (Below.refl w8.heap.size w8)
    have hB := (Below.refl w8.heap.size w8).drew
    go_region_held3 (fun V => V.cell? ⟨zb, 1, none⟩ = some (.slice pm L.length cm)) (first | go_keep | (with_reducible exact HQ.out _ hB))
      (first
        | (go_at_call 11; refine (HAp.out _ (by first | exact hB | exact hB.drew)).mono ?_; rintro e wA ⟨rfl, rfl⟩)
        | (go_at_call 12; refine (HSe.out _ (by first | exact hB | exact hB.drew)).mono ?_; rintro e wB ⟨rfl, hB5⟩; have hB := below_any hB hB5 (by first | exact .inl rfl | exact .inr rfl) hB.size; clear hB5)
        | (go_at_call 13; refine (HYe.out _ (by first | exact hB | exact hB.drew)).mono ?_; rintro e wC ⟨rfl, hB5⟩; have hB := below_any hB hB5 (by first | exact .inl rfl | exact .inr rfl) hB.size; clear hB5)
        | (go_at_call 9; refine (HRe.out _ (by first | exact hB | exact hB.drew)).mono ?_; rintro e wD ⟨⟨g9, c9, rfl, hr9⟩, hB5⟩; have hB := below_any hB hB5 (by first | exact .inl rfl | exact .inr rfl) hB.size; have HR9 := hide' hr9; clear hB5 hr9)
        | (go_at_call 10; refine (HSm.out _ g9 c9 (by first | exact hB | exact hB.drew) HR9.out).mono ?_; rintro e wE ⟨rfl, hB5⟩; have hB := below_any hB hB5 (by first | exact .inl rfl | exact .inr rfl) hB.size; clear hB5))
    all_goals
      go_wp2_with fail
      go_ret
      exact ⟨by simp, bstep HBw8.out hB HBw8.out.size⟩
end Go.Proofs.YtbahjpjncopabaaGreat
