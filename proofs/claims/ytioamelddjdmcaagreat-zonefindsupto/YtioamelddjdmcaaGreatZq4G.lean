import Derived.Test.YtioamelddjdmcaaGreatZraG
import Derived.Test.YtioamelddjdmcaaGreatZq2G
import Derived.Test.YtioamelddjdmcaaGreatZrcG
namespace Go.Proofs.YtioamelddjdmcaaGreat
set_option linter.unusedVariables false
set_option linter.unusedSimpArgs false
open Go.RowKit Go.Shelf Go.Maps Go.Proofs.YtioamelddjdmcaaGreat.Nm Go.Proofs.YtioamelddjdmcaaGreat.Zs

theorem seG_sen {r : Rn} (h : zonR r = true) : seG (senS r) := by
  obtain ⟨_, _, _, _, _, h6, h7, h8, h9, h10, h11⟩ := ok_facts h
  exact ⟨by show (foldB r.o).size ≤ maxLen; unfold maxLen; omega, WalkArith.wf_i64 (by show _ ≤ r.t ∧ r.t ≤ _; omega), by show (foldD r.t r.d).size ≤ maxLen; unfold maxLen; omega⟩
theorem plG_any {o : ByteArray} {t : Int} (ho : o.size ≤ 255) (h : 0 ≤ t ∧ t ≤ 65535) : plG (o, t) := ⟨by show o.size ≤ maxLen; unfold maxLen; omega, WalkArith.wf_i64 (by show _ ≤ t ∧ t ≤ _; omega)⟩
theorem fltR_cons (c v : Int) (M : List (Int × Int)) : fltR ((c, v) :: M) = if v = -2 then fltR M else (v, c) := by
  unfold fltR
  by_cases h : v = -2
  · rw [if_pos h, List.find?_cons_of_neg (by simp [h])]
  · rw [if_neg h, List.find?_cons_of_pos (by simp [h])]
theorem flt_zero {apex : ByteArray} {L : List Rn} (h : (fltR (fltM apex L)).2 = 0) : fltR (fltM apex L) = (0, 0) ∧ ∀ x ∈ fltM apex L, x.2 = -2 := by
  cases hf : (fltM apex L).find? (fun x => !decide (x.2 = -2)) with
  | none =>
    refine ⟨by unfold fltR; rw [hf], fun x hx => ?_⟩
    rw [List.find?_eq_none] at hf
    have := hf x hx
    simpa using this
  | some y =>
    exfalso
    have hm := List.mem_of_find?_eq_some hf
    unfold fltR at h
    rw [hf] at h
    simp only at h
    unfold fltM at hm
    simp only [List.mem_cons, List.not_mem_nil, or_false] at hm
    rcases hm with rfl | rfl | rfl | rfl | rfl | rfl | rfl | rfl <;> simp at h

theorem draft_any (apex : ByteArray) (L : List Rn) (p : Option Addr) (cap : Nat) (w : World) (ha : apex.size ≤ 255) (hL : L.length ≤ 2000) (hat : RsAt w p L) (hok : okL L) :
    Calls Tryz.prog 37 #[.string apex, .slice p L.length cap] w fun r w' => ∃ D Z LK FK RW NM B C P g m sv rv ord, r = .returned (.pointer (some ⟨D, 0, none⟩)) ∧ Ly w w' D Z LK FK RW NM B C P g apex (foldB apex) (.slice p L.length cap) sv rv (L.map senS) (ord.map (rAt L)) ord L.length m (rowsF (ord.map (seAt (L.map senS))) L.length) ∧ ord.Perm (List.range L.length) ∧ So (ltS (L.map senS)) ord 0 L.length := by
  have O : Ord (ltS (L.map senS)) := ord_ltS fun s hs => by
    obtain ⟨r, hr, rfl⟩ := List.mem_map.1 hs
    exact good_sen (hok r hr)
  refine (newDraft_any apex L p cap w (fun w' v => ∃ D Z LK FK RW NM B C P g m sv rv ord, v = .pointer (some ⟨D, 0, none⟩) ∧ Ly w w' D Z LK FK RW NM B C P g apex (foldB apex) (.slice p L.length cap) sv rv (L.map senS) (ord.map (rAt L)) ord L.length m (rowsF (ord.map (seAt (L.map senS))) L.length) ∧ ord.Perm (List.range L.length) ∧ So (ltS (L.map senS)) ord 0 L.length) (by unfold maxLen; omega) (by omega) hat hok (fun W D Z LK FK RW NM B sv hd => ?_)).mono ?_
  · refine (lay_any w W D Z LK FK RW NM B apex (foldB apex) sv L p cap (by omega) hat hok O hd).mono ?_
    rintro r w' ⟨rfl, ord, rv, C, P, g, m, hy, hp, hs⟩
    exact ⟨rfl, D, Z, LK, FK, RW, NM, B, C, P, g, m, sv, rv, ord, rfl, hy, hp, hs⟩
  · rintro r w' ⟨v, rfl, D, Z, LK, FK, RW, NM, B, C, P, g, m, sv, rv, ord, rfl, h⟩
    exact ⟨D, Z, LK, FK, RW, NM, B, C, P, g, m, sv, rv, ord, rfl, h⟩

theorem faultZ_any {w W : World} {D Z LK FK RW NM B C P g m cap : Nat} {apex : ByteArray} {p : Option Addr} {sv rv : Value} {L : List Rn} {ord : List Nat} (H : Laid apex L ord) (h : Ly w W D Z LK FK RW NM B C P g apex (foldB apex) (.slice p L.length cap) sv rv (L.map senS) (ord.map (rAt L)) ord L.length m (rowsF (ord.map (seAt (L.map senS))) L.length)) (hat : RsAt w p L) (hL : L.length ≤ 2000) :
    Calls Tryz.prog 38 #[.pointer (some ⟨D, 0, none⟩)] W fun r w' => r = .returned (.tuple #[.int .i64 (fltR (fltM apex L)).1, .int .i64 (fltR (fltM apex L)).2]) ∧ Below W.heap.size W w' := by
  obtain ⟨p', c', rfl, _, _, _⟩ := own_shape h.sown
  have hn : L.length = (L.map senS).length := by simp
  have hUl : (ord.map (seAt (L.map senS))).length = L.length := by rw [List.length_map, H.len]
  have hTl := H.tlen
  have hseG : ∀ k, k < L.length → seG (seAt (L.map senS) k) := fun k hk => by rw [seAt_map hk]; exact seG_sen (H.ok _ (rAt_mem hk))
  have hown : ∀ k, k < L.length → (seAt (L.map senS) k).1.size ≤ 255 := fun k hk => by
    rw [seAt_map hk]
    exact (ok_facts (H.ok _ (rAt_mem hk))).2.2.2.2.2.2.2.2.2.1
  have hrow : ∀ q : Pl, ((rowsF (ord.map (seAt (L.map senS))) L.length q).getD (0, 0)).1 ≤ ((rowsF (ord.map (seAt (L.map senS))) L.length q).getD (0, 0)).2 ∧ ((rowsF (ord.map (seAt (L.map senS))) L.length q).getD (0, 0)).2 ≤ (ord.map (rAt L)).length := fun q => by
    have := row_le H.us q
    rw [hUl] at this
    rw [hTl]
    exact this
  have hgx : ∀ V, Below W.heap.size W V → V.cell? ⟨D, 2, none⟩ = some (.slice p L.length cap) ∧ D < V.heap.size ∧ RsAt V p L := fun V hV =>
    ⟨(h.step hV).dx.cell rfl, (h.step hV).dx.lt, rs_stay hat (h.step hV).bl⟩
  have hfa : (foldB apex).size ≤ 255 := zfoldB_size H.na
  have key := H.fault
  have hTo : ∀ r ∈ ord.map (rAt L), r.o.size ≤ 255 := fun r hr => (ok_facts (H.tok r hr)).2.2.2.2.2.2.2.2.1
  have hff := fault_any D W _ _ _ _ _ _ _ _
    (fun V hV => by
      obtain ⟨a1, a2, a3⟩ := hgx V hV
      exact first_isTwice D L p cap (fun k => twiceB (L.map senS) L.length k) V (by omega) a2 a1 a3 (fun k hk X hX => isTwice_any (h.step (bstep hV hX hV.size)) hn (by omega) k hk (hseG k hk) _))
    (fun V hV => by
      obtain ⟨a1, a2, a3⟩ := hgx V hV
      exact first_isStraySoa D L p cap (fun k => strayB (L.map senS) L.length (foldB apex) (rAt L k) k) V (by omega) a2 a1 a3 (fun k hk X hX => by
        rw [rAt_get hk]
        exact isStray_any (h.step (bstep hV hX hV.size)) hn (by omega) k hk (hseG k hk) _))
    (fun V hV => lack_any (h.step hV) 6 (plG_any hfa (by omega)))
    (fun V hV => lack_any (h.step hV) 2 (plG_any hfa (by omega)))
    (fun V hV => by
      obtain ⟨a1, a2, a3⟩ := hgx V hV
      exact first_isWild D L p cap (fun k => wildB (rAt L k)) V (by omega) a2 a1 a3 (fun k hk X hX => by
        rw [rAt_get hk]
        exact isWild_any D k (rAt L k) X (by have := (ok_facts (H.ok _ (rAt_mem hk))).2.2.2.2.2.2.2.2.1; unfold maxLen; omega)))
    (fun V hV => by
      obtain ⟨a1, a2, a3⟩ := hgx V hV
      exact first_isCrowdedAlias D L p cap (fun k => crowdB (ord.map (rAt L)) (rowsF (ord.map (seAt (L.map senS))) L.length) (L.map senS) (rAt L k) k) V (by omega) a2 a1 a3 (fun k hk X hX => by
        rw [rAt_get hk]
        exact isCrowd_any (h.step (bstep hV hX hV.size)) hn (by omega) (by rw [hTl]; omega) k hk (plG_any (hown k hk) (by omega)) (hrow _) _))
    (fun V hV => by
      obtain ⟨a1, a2, a3⟩ := hgx V hV
      exact first_isWrongGraft D L p cap (fun k => graftB (ord.map (rAt L)) (rowsF (ord.map (seAt (L.map senS))) L.length) (L.map senS) (foldB apex) (rAt L k) k) V (by omega) a2 a1 a3 (fun k hk X hX => by
        rw [rAt_get hk]
        exact isGraft_any (h.step (bstep hV hX hV.size)) hn (by omega) (by rw [hTl]; omega) hTo k hk (plG_any (hown k hk) (by omega)) (plG_any (hown k hk) (by omega)) (hrow _) _))
    (fun V hV => by
      obtain ⟨a1, a2, a3⟩ := hgx V hV
      exact first_isOfOtherAge D L p cap (fun k => ageB (L.map senS) L L.length (rAt L k) k) V (by omega) a2 a1 a3 (fun k hk X hX => by
        rw [rAt_get hk]
        exact isAge_any (h.step (bstep hV hX hV.size)) hat rfl hn (by omega) k hk (hseG k hk) (by obtain ⟨y, e1, e2, _⟩ := H.firstLt hk; rw [e1]; omega) _))
  rw [key] at hff
  exact hff
end Go.Proofs.YtioamelddjdmcaaGreat

namespace Go.Proofs.YtioamelddjdmcaaGreat
set_option linter.unusedVariables false
set_option linter.unusedSimpArgs false
open Go.RowKit Go.Shelf Go.Maps Go.Proofs.YtioamelddjdmcaaGreat.Nm Go.Proofs.YtioamelddjdmcaaGreat.Zs

structure Zon (n : Nat) (wr : World) (apex : ByteArray) (L : List Rn) (ord : List Nat) (Z RW NM C m cnt : Nat) (p : Option Addr) (cp : Nat) (f : ByteArray → Option Nat) : Prop where
  zx : Bx wr Z #[.string apex, .slice p L.length cp, .map (some RW), .map (some NM)] 83
  own : wr.ownsRow C 54 5 (.slice p L.length cp) L.length (rce5 (ord.map (rAt L)))
  rows : MRow wr RW m (rowsF (ord.map (seAt (L.map senS))) L.length)
  nm : MNm wr NM cnt f
  dm : ∀ x, stG x → ((f x).isSome = true ↔ x ∈ namK apex (ord.map (rAt L)) L.length)
  laid : Laid apex L ord
  few : L.length ≤ 2000
  kept : ∀ x ∈ fltM apex L, x.2 = -2
  ge : n ≤ Z ∧ n ≤ RW ∧ n ≤ NM ∧ n ≤ C
theorem Zon.step {n : Nat} {wr w2 : World} {apex : ByteArray} {L : List Rn} {ord : List Nat} {Z RW NM C m cnt : Nat} {p : Option Addr} {cp : Nat} {f : ByteArray → Option Nat} (h : Zon n wr apex L ord Z RW NM C m cnt p cp f) (hb : Below wr.heap.size wr w2) : Zon n w2 apex L ord Z RW NM C m cnt p cp f :=
  ⟨h.zx.below hb h.zx.lt, own_below h.own hb, h.rows.grown (grown_below hb none) (by simp), h.nm.grown (grown_below hb none) (by simp), h.dm, h.laid, h.few, h.kept, h.ge⟩
structure NwE (apex : ByteArray) (L : List Rn) (w : World) (r : Ending) (w' : World) : Prop where
  bl : Below w.heap.size w w'
  no : (mkC apex L).2 ≠ 0 → r = .returned (.tuple #[.pointer none, .int .i64 (mkC apex L).1, .int .i64 (mkC apex L).2])
  yes : (mkC apex L).2 = 0 → ∃ ord Z RW NM C m cnt p cp f, r = .returned (.tuple #[.pointer (some ⟨Z, 0, none⟩), .int .i64 0, .int .i64 0]) ∧ Zon w.heap.size w' apex L ord Z RW NM C m cnt p cp f
theorem nwE_no {apex : ByteArray} {L : List Rn} {w w' : World} {a c : Int} {r : Ending} (h : mkC apex L = (a, c)) (hc : c ≠ 0) (hr : r = .returned (.tuple #[.pointer none, .int .i64 a, .int .i64 c])) (hb : Below w.heap.size w w') : NwE apex L w r w' :=
  ⟨hb, fun _ => by rw [h]; exact hr, fun h0 => absurd (by rw [h] at h0; exact h0) hc⟩

theorem fst_nat {P : Nat → Bool} {n : Nat} (h : fstI P n ≠ -2) : ∃ k : Nat, fstI P n = (k : Int) := by
  unfold fstI at h ⊢
  cases hf : (List.range n).find? P with
  | none => rw [hf] at h; exact absurd rfl h
  | some k => exact ⟨k, rfl⟩
section
variable {w w3 W w6 : World} {D Z LK FK RW NM B C P g m cap : Nat} {apex : ByteArray} {p : Option Addr} {sv rv : Value} {L : List Rn} {ord : List Nat}
theorem draft_ne (h : Ly w3 W D Z LK FK RW NM B C P g apex (foldB apex) (.slice p L.length cap) sv rv (L.map senS) (ord.map (rAt L)) ord L.length m (rowsF (ord.map (seAt (L.map senS))) L.length)) : some NM ≠ some D := by
  have := h.nm.ne h.dx
  simp; omega
theorem nameAllL_any (H : Laid apex L ord) (h : Ly w3 W D Z LK FK RW NM B C P g apex (foldB apex) (.slice p L.length cap) sv rv (L.map senS) (ord.map (rAt L)) ord L.length m (rowsF (ord.map (seAt (L.map senS))) L.length)) (hL : L.length ≤ 2000) (na : isN apex = true) :
    Calls Tryz.prog 39 #[.pointer (some ⟨Z, 0, none⟩)] W fun r w' => r = .returned (.tuple #[]) ∧ ∃ f p6 c6, rv = .slice p6 L.length c6 ∧ Na W w' NM (namK apex (ord.map (rAt L)) L.length) f := by
  obtain ⟨p6, c6, rfl, _, _, _⟩ := own_shape h.rown
  have hT := H.tlen
  have hlt := h.lt
  have hz := h.nm.ne h.zx
  refine (nameAll_any Z RW NM C apex p6 c6 (ord.map (rAt L)) W h.zx h.rown h.nm (by omega) (by omega) H.tok na (fun q hq => by have := own_ge h.rown hq; omega)).mono ?_
  rintro r w' ⟨rfl, f, hf⟩
  rw [hT] at hf ⊢
  exact ⟨rfl, f, p6, c6, rfl, hf⟩
theorem zon_of {f : ByteArray → Option Nat} {p6 : Option Addr} {c6 : Nat} (H : Laid apex L ord) (h : Ly w3 W D Z LK FK RW NM B C P g apex (foldB apex) (.slice p L.length cap) sv rv (L.map senS) (ord.map (rAt L)) ord L.length m (rowsF (ord.map (seAt (L.map senS))) L.length)) (hL : L.length ≤ 2000) (hkp : ∀ x ∈ fltM apex L, x.2 = -2) (hrv : rv = .slice p6 L.length c6) (hna : Na W w6 NM (namK apex (ord.map (rAt L)) L.length) f) (hb : Below w.heap.size w w3) : Zon w.heap.size w6 apex L ord Z RW NM C m (namK apex (ord.map (rAt L)) L.length).length p6 c6 f ∧ Below w.heap.size w w6 := by
  subst hrv
  have hT := H.tlen
  obtain ⟨l1, l2, l3, l4, l5, l6, l7, l8, l9⟩ := h.lt
  obtain ⟨g1, g2, g3, g4, g5, g6, g7, g8⟩ := h.ge
  obtain ⟨n1, n2, n3, n4, n5, n6, n7⟩ := h.ne
  have hz := h.nm.ne h.zx
  have hs := hb.size
  have hsz := h.sz
  have hbl := bstep hb h.bl hs
  have hro := h.rown
  rw [hT] at hro
  refine ⟨⟨h.zx.grown hna.gb (by simp; omega), hro.kept hna.gb (Or.inr fun e => by have := own_ge hro e; omega), h.rw'.grown hna.gb (by simp; omega), hna.nm, hna.dm, H, hL, hkp, ⟨by omega, by omega, by omega, by omega⟩⟩, ?_⟩
  exact hbl.grown hna.gb hbl.size (fun q e => by cases e; omega)
end

set_option maxRecDepth 100000 in
set_option maxHeartbeats 8000000 in
theorem new_any (apex : ByteArray) (L : List Rn) (p : Option Addr) (cap : Nat) (w : World) (hL : L.length ≤ 1048576) (hat : RsAt w p L) (hs : ∀ j, j < L.length → rSm (rAt L j)) (hap : apex.size ≤ 1048576) :
    Calls Tryz.prog 10 #[.string apex, .slice p L.length cap] w (NwE apex L w) := by
  have HCk := hide' (fun V => check_any apex V (by unfold maxLen; omega))
  obtain ⟨wa, hwa⟩ : ∃ wa, w.alloc (.cells #[.string apex] 9) = wa := ⟨_, rfl⟩
  have HXa : Hid (Bx wa w.heap.size #[.string apex] 9) := hwa ▸ World.alloc_heap_new w _
  have HBa : Hid (Below w.heap.size w wa) := hwa ▸ (Below.refl _ w).alloc (Nat.le_refl _) _
  have v0 : wa.cell? ⟨w.heap.size, 0, none⟩ = some (.string apex) := HXa.out.cell rfl
  have HQ : Hid (∀ V, Below wa.heap.size wa V → V.cell? ⟨w.heap.size, 0, none⟩ = some (.string apex)) := fun V hV => (HXa.out.below hV HXa.out.lt).cell rfl
  have hB := Below.refl wa.heap.size wa
  cases hN : isN apex with
  | false =>
    have HC : Hid (mkC apex L = (-1, 1)) := by unfold Hid mkC; rw [hN]; rfl
    have hc : chk apex = 1 := by unfold chk; rw [hN]; rfl
    rw [hc] at HCk
    clear hN hc hat hs
    go_enter Tryz.func10, Tryz.ntmps10
    go_wp2_with (go_at_call 33; refine (HCk.out _).mono ?_; rintro e w1 ⟨rfl, hB1⟩)
    go_ret3
    exact nwE_no HC.out (by decide) rfl (bstep HBa.out hB1 HBa.out.size)
  | true =>
    have hc : chk apex = 0 := by unfold chk; rw [hN]; rfl
    rw [hc] at HCk
    clear hc
    by_cases h2 : 2000 < L.length
    · have i2 : (2000 : Int) < (L.length : Int) := by omega
      have HC : Hid (mkC apex L = (-1, 20)) := by unfold Hid mkC; rw [hN, if_pos rfl, if_pos h2]
      clear hN hat hs
      go_enter Tryz.func10, Tryz.ntmps10
      go_wp2_with (go_at_call 33; refine (HCk.out _).mono ?_; rintro e w1 ⟨rfl, hB1⟩)
      go_ret3
      exact nwE_no HC.out (by decide) rfl (bstep HBa.out hB1 HBa.out.size)
    · have i2 : ¬ (2000 : Int) < (L.length : Int) := by omega
      have HC : Hid (mkC apex L = fltR (mkM apex L)) := by unfold Hid mkC; rw [hN, if_pos rfl, if_neg h2]
      have HI : Hid (∀ V, Below wa.heap.size wa V → Calls Tryz.prog 34 #[.slice p L.length cap, .func (Fn.func 35) #[] #[]] V fun r w' => r = .returned (.int .i64 (idxI (brkB apex L 2) L.length)) ∧ Below V.heap.size V w') := fun V hV =>
        indexWrong_any L p cap (brkB apex L 2) V hL (rs_stay hat (bstep HBa.out hV HBa.out.size)) (fun k hk X hX => zIsWrong_any (rAt L k) X (hs k hk))
      have HJ : Hid (∀ V, Below wa.heap.size wa V → Calls Tryz.prog 34 #[.slice p L.length cap, .func (Fn.func 36) #[] #[.pointer (some ⟨w.heap.size, 0, none⟩)]] V fun r w' => r = .returned (.int .i64 (idxI (brkB apex L 3) L.length)) ∧ Below V.heap.size V w') := fun V hV =>
        indexOutside_any L p cap (.pointer (some ⟨w.heap.size, 0, none⟩)) (brkB apex L 3) V hL (rs_stay hat (bstep HBa.out hV HBa.out.size)) (fun k hk X hX => zOutside_any apex w.heap.size (rAt L k) X (hs k hk) hap (HQ.out _ (bstep hV hX hV.size)) (Nat.lt_of_lt_of_le HXa.out.lt (Nat.le_trans hV.size hX.size)))
      by_cases e1 : fstI (brkB apex L 2) L.length = -2
      · have hi1 : idxI (brkB apex L 2) L.length = -1 := by unfold idxI; rw [if_pos e1]
        rw [hi1] at HI
        by_cases e2 : fstI (brkB apex L 3) L.length = -2
        · have hi2 : idxI (brkB apex L 3) L.length = -1 := by unfold idxI; rw [if_pos e2]
          rw [hi2] at HJ
          have hok : okL L := fun r hr => by
            obtain ⟨i, hi, rfl⟩ := mem_at hr
            have h9 : brk2 (rAt L i) = false := fst_inv e1 i hi
            unfold brk2 at h9
            unfold zonR
            simpa using h9
          have hwi : ∀ r ∈ L, withinB r.o apex = true := fun r hr => by
            obtain ⟨i, hi, rfl⟩ := mem_at hr
            have h9 : brk3 apex (rAt L i) = false := fst_inv e2 i hi
            unfold brk3 at h9
            simpa using h9
          have HCC : Hid (mkC apex L = fltR (fltM apex L)) := by
            unfold Hid
            rw [HC.out]
            show fltR ((8, _) :: (5, _) :: fltM apex L) = _
            rw [fltR_cons, if_pos e1, fltR_cons, if_pos e2]
          have h255 : apex.size ≤ 255 := ((isN_iff _).1 hN).1
          have HD : Hid (∀ V, Below wa.heap.size wa V → Calls Tryz.prog 37 #[.string apex, .slice p L.length cap] V _) := fun V hV => draft_any apex L p cap V h255 (by omega) (rs_stay hat (bstep HBa.out hV HBa.out.size)) hok
          have HMk : Hid (∀ ord, ord.Perm (List.range L.length) → So (ltS (L.map senS)) ord 0 L.length → Laid apex L ord) := fun ord h1 h2 => ⟨hok, hN, hwi, h1, h2⟩
          have HAT := hide' hat
          have h2' : L.length ≤ 2000 := by omega
          have hN' := hN
          clear e1 e2 hi1 hi2 hok hwi hN hat hs HC h2
          by_cases hz : (fltR (fltM apex L)).2 = 0
          · obtain ⟨hf0, hkp⟩ := flt_zero hz
            have HFL : Hid (fltR (fltM apex L) = (0, 0)) := hf0
            have HKp := hide' hkp
            have HNa : Hid (isN apex = true) := hN'
            clear hz hf0 hkp hN'
            have T1 : Hid True := trivial
            go_enter Tryz.func10, Tryz.ntmps10
            go_wp2_with (first
              | (go_at_call 33; refine (HCk.out _).mono ?_; rintro e w1 ⟨rfl, hB1⟩; have hB := bstep hB hB1 hB.size; clear hB1)
              | (go_at_call 34; have _ := T1; clear T1; refine (HI.out _ hB).mono ?_; rintro e w2 ⟨rfl, hB1⟩; have hB := bstep hB hB1 hB.size; clear hB1; have T2 : Hid True := trivial)
              | (go_at_call 34; have _ := T2; clear T2; refine (HJ.out _ hB).mono ?_; rintro e w3 ⟨rfl, hB1⟩; have hB := bstep hB hB1 hB.size; have v0 := HQ.out _ hB; clear hB1)
              | (go_at_call 37; refine (HD.out _ hB).mono ?_; rintro e w4 ⟨D, Z, LK, FK, RW, NM, B, C, P, g, m, sv, rv, ord, rfl, hy, hpm, hso⟩; have HY := hide' hy; have HL := hide' (HMk.out ord hpm hso); have HB3 := hide' hB; have d0 : w4.cell? ⟨D, 0, none⟩ = some (.pointer (some ⟨Z, 0, none⟩)) := hy.dx.cell rfl; clear hy hpm hso hB)
              | (go_at_call 38; refine (faultZ_any HL.out HY.out (rs_stay HAT.out (bstep HBa.out HB3.out HBa.out.size)) h2').mono ?_; rw [HFL.out]; rintro e w5 ⟨rfl, hB5⟩; have HY5 := hide' (HY.out.step hB5); have d0 : w5.cell? ⟨D, 0, none⟩ = some (.pointer (some ⟨Z, 0, none⟩)) := HY5.out.dx.cell rfl; clear hB5)
              | (go_at_call 39; refine (nameAllL_any HL.out HY5.out h2' HNa.out).mono ?_; rintro e w6 ⟨rfl, f, p6, c6, hrv, hna⟩; have HZO := hide' (zon_of HL.out HY5.out h2' HKp.out hrv hna (bstep HBa.out HB3.out HBa.out.size)); have d0 : w6.cell? ⟨D, 0, none⟩ = some (.pointer (some ⟨Z, 0, none⟩)) := (HY5.out.dx.grown hna.gb (draft_ne HY5.out)).cell rfl; clear hna))
            have hbl : Below w.heap.size w w6 := HZO.out.2
            go_ret3
            refine ⟨hbl, fun h => absurd (by rw [HCC.out, HFL.out]) h, fun _ => ⟨ord, Z, RW, NM, C, m, _, _, _, f, rfl, HZO.out.1⟩⟩
          · obtain ⟨a, c, hac⟩ : ∃ a c, fltR (fltM apex L) = (a, c) := ⟨_, _, rfl⟩
            have HFL : Hid (fltR (fltM apex L) = (a, c)) := hac
            have hc0 : c ≠ 0 := by rw [hac] at hz; exact hz
            have hcb : (c != 0) = true := by simp [hc0]
            have HC0 := hide' hc0
            clear hz hac hc0 hN'
            have T1 : Hid True := trivial
            go_enter Tryz.func10, Tryz.ntmps10
            go_wp2_with (first
              | (go_at_call 33; refine (HCk.out _).mono ?_; rintro e w1 ⟨rfl, hB1⟩; have hB := bstep hB hB1 hB.size; clear hB1)
              | (go_at_call 34; have _ := T1; clear T1; refine (HI.out _ hB).mono ?_; rintro e w2 ⟨rfl, hB1⟩; have hB := bstep hB hB1 hB.size; clear hB1; have T2 : Hid True := trivial)
              | (go_at_call 34; have _ := T2; clear T2; refine (HJ.out _ hB).mono ?_; rintro e w3 ⟨rfl, hB1⟩; have hB := bstep hB hB1 hB.size; have v0 := HQ.out _ hB; clear hB1)
              | (go_at_call 37; refine (HD.out _ hB).mono ?_; rintro e w4 ⟨D, Z, LK, FK, RW, NM, B, C, P, g, m, sv, rv, ord, rfl, hy, hpm, hso⟩; have HY := hide' hy; have HL := hide' (HMk.out ord hpm hso); have HB3 := hide' hB; have d0 : w4.cell? ⟨D, 0, none⟩ = some (.pointer (some ⟨Z, 0, none⟩)) := hy.dx.cell rfl; clear hy hpm hso hB)
              | (go_at_call 38; refine (faultZ_any HL.out HY.out (rs_stay HAT.out (bstep HBa.out HB3.out HBa.out.size)) h2').mono ?_; rw [HFL.out]; rintro e w5 ⟨rfl, hB5⟩; have HY5 := hide' (HY.out.step hB5); have d0 : w5.cell? ⟨D, 0, none⟩ = some (.pointer (some ⟨Z, 0, none⟩)) := HY5.out.dx.cell rfl; clear hB5))
            go_ret3
            exact nwE_no (HCC.out.trans HFL.out) HC0.out rfl (bstep (bstep HBa.out HB3.out HBa.out.size) HY5.out.bl (bstep HBa.out HB3.out HBa.out.size).size)
        · have hi2 : idxI (brkB apex L 3) L.length = fstI (brkB apex L 3) L.length := by unfold idxI; rw [if_neg e2]
          obtain ⟨k, hk⟩ := fst_nat e2
          rw [hi2, hk] at HJ
          have HCC : Hid (mkC apex L = ((k : Int), 5)) := by
            unfold Hid
            rw [HC.out]
            show fltR ((8, _) :: (5, _) :: fltM apex L) = _
            rw [fltR_cons, if_pos e1, fltR_cons, if_neg e2, hk]
          clear e1 e2 hi1 hi2 hN hat hs HC h2 hk
          have ik : (0 : Int) ≤ (k : Int) := by omega
          have T1 : Hid True := trivial
          go_enter Tryz.func10, Tryz.ntmps10
          go_wp2_with (first
              | (go_at_call 33; refine (HCk.out _).mono ?_; rintro e w1 ⟨rfl, hB1⟩; have hB := bstep hB hB1 hB.size; clear hB1)
              | (go_at_call 34; have _ := T1; clear T1; refine (HI.out _ hB).mono ?_; rintro e w2 ⟨rfl, hB1⟩; have hB := bstep hB hB1 hB.size; clear hB1; have T2 : Hid True := trivial)
              | (go_at_call 34; have _ := T2; clear T2; refine (HJ.out _ hB).mono ?_; rintro e w3 ⟨rfl, hB1⟩; have hB := bstep hB hB1 hB.size; have v0 := HQ.out _ hB; clear hB1))
          go_ret3
          exact nwE_no HCC.out (by decide) rfl (bstep HBa.out hB HBa.out.size)
      · have hi1 : idxI (brkB apex L 2) L.length = fstI (brkB apex L 2) L.length := by unfold idxI; rw [if_neg e1]
        obtain ⟨k, hk⟩ := fst_nat e1
        rw [hi1, hk] at HI
        have HCC : Hid (mkC apex L = ((k : Int), 8)) := by
          unfold Hid
          rw [HC.out]
          show fltR ((8, _) :: (5, _) :: fltM apex L) = _
          rw [fltR_cons, if_neg e1, hk]
        clear e1 hi1 hN hat hs HC h2 hk
        have ik : (0 : Int) ≤ (k : Int) := by omega
        have T1 : Hid True := trivial
        go_enter Tryz.func10, Tryz.ntmps10
        go_wp2_with (first
              | (go_at_call 33; refine (HCk.out _).mono ?_; rintro e w1 ⟨rfl, hB1⟩; have hB := bstep hB hB1 hB.size; clear hB1)
              | (go_at_call 34; have _ := T1; clear T1; refine (HI.out _ hB).mono ?_; rintro e w2 ⟨rfl, hB1⟩; have hB := bstep hB hB1 hB.size; clear hB1; have T2 : Hid True := trivial)
              | (go_at_call 34; have _ := T2; clear T2; refine (HJ.out _ hB).mono ?_; rintro e w3 ⟨rfl, hB1⟩; have hB := bstep hB hB1 hB.size; have v0 := HQ.out _ hB; clear hB1))
        go_ret3
        exact nwE_no HCC.out (by decide) rfl (bstep HBa.out hB HBa.out.size)
end Go.Proofs.YtioamelddjdmcaaGreat

namespace Go.Proofs.YtioamelddjdmcaaGreat
set_option linter.unusedVariables false
set_option linter.unusedSimpArgs false
open Go.RowKit Go.Shelf Go.Maps Go.Proofs.YtioamelddjdmcaaGreat.Nm Go.Proofs.YtioamelddjdmcaaGreat.Zs

theorem grown_setR (w : World) (g o : Nat) (r : Rn) : w.grownBy (setR w g o r) (some g) := by rw [setR_cells]; exact grown_setCells g _ _ _

set_option maxRecDepth 100000 in
set_option maxHeartbeats 4000000 in
theorem mark2_any (g c n : Nat) (M : List Rn) (rest : List Value) (w : World) (h : Rb w g M rest) (hn : n ≤ M.length) (hM : M.length ≤ 1048580) :
    Calls Tryz.prog 15 #[.slice (some ⟨g, 0, none⟩) n c] w fun r w' => r = .returned (.tuple #[]) ∧ w.grownBy w' (some g) := by
  have HR := hide' h
  clear h
  go_enter Tryz.func15, Tryz.ntmps15
  go_wp2_with fail
  go_loopw [5] (fun kv wr => ∃ k : Nat, kv = .int .i64 (k : Int) ∧ k ≤ n ∧ Hid (∃ M', Rb wr g M' rest ∧ M'.length = M.length) ∧ Hid (w.grownBy wr (some g))) (fun kv _ => n - (intOf kv).toNat)
  case atStart => exact ⟨0, rfl, Nat.zero_le _, ⟨M, HR.out, rfl⟩, grown_refl _ _⟩
  case round =>
    obtain ⟨k, rfl, hk, HX, HG⟩ := hrel
    by_cases hlt : k < n
    · obtain ⟨M', hr, hl⟩ := HX.out
      have hkM : k < M'.length := by omega
      obtain ⟨c0, c1, c2, c3, c4⟩ := hr.cells hkM
      have f0 := Bx.free hr (k * 5)
      have f1 := Bx.free hr (k * 5 + 1)
      have f2 := Bx.free hr (k * 5 + 2)
      have f3 := Bx.free hr (k * 5 + 3)
      have f4 := Bx.free hr (k * 5 + 4)
      have pk : (k : Int) < (n : Int) := by omega
      have pk0 : (0 : Int) ≤ (k : Int) := by omega
      have HP : Hid (∀ r : Rn, Rb (setR wr g (k * 5) r) g (M'.set k r) rest ∧ (M'.set k r).length = M.length ∧ w.grownBy (setR wr g (k * 5) r) (some g)) := fun r => ⟨hr.put hkM r, by rw [List.length_set]; exact hl, grown_trans HG.out (grown_setR _ _ _ _)⟩
      have hng : IntKind.i64.wrap (-(k : Int)) = -(k : Int) := by rw [IntWalk.i64_in]; omega
      have hng2 : IntKind.i64.wrap (-(k : Int) - 1) = -(k : Int) - 1 := by rw [IntWalk.i64_in]; omega
      clear hr
      go_wp2_with fail
      have hP := HP.out ⟨⟨#[109, 97, 114, 107]⟩, -(k : Int) - 1, 0, 0, ⟨#[]⟩⟩
      exact ⟨⟨k + 1, by go_num, by omega, ⟨_, hP.1, hP.2.1⟩, hP.2.2⟩, by simp [intOf]; omega⟩
    · obtain rfl : k = n := by omega
      go_wp2_with fail
      go_end0
      exact ⟨rfl, HG.out⟩

section
variable {n : Nat} {W : World} {apex : ByteArray} {L : List Rn} {ord : List Nat} {Z RW NM C m cnt : Nat} {p : Option Addr} {cp : Nat} {f : ByteArray → Option Nat}
set_option maxRecDepth 100000 in
set_option maxHeartbeats 4000000 in
theorem zRecords_any (h : Zon n W apex L ord Z RW NM C m cnt p cp f) :
    Calls Tryz.prog 17 #[.pointer (some ⟨Z, 0, none⟩)] W fun r w' => (∃ v, r = .returned v ∧ w'.ownsRow W.heap.size 54 5 v L.length (rce5 (ord.map (rAt L)))) ∧ Below W.heap.size W w' := by
  have z1 : W.cell? ⟨Z, 1, none⟩ = some (.slice p L.length cp) := h.zx.cell rfl
  have hT := h.laid.tlen
  obtain ⟨p0, c0, he, hc1, hc2, hc3⟩ := own_shape h.own
  injection he with he1 he2 he3
  subst he1 he3
  have hcl := cloneZ_any (ord.map (rAt L)) p cp W (by have := h.few; omega) (rsAt_ownZ h.own hT.symm) hc3
  rw [hT] at hcl
  have HC := hide' hcl
  clear h hcl hc1 hc2 hc3 hT he2
  go_enter Tryz.func17, Tryz.ntmps17
  go_wp2_with (go_at_call 58; refine HC.out.mono ?_; rintro r w2 ⟨⟨v, rfl, ho⟩, hB⟩; have HO := hide' ho; have HB := hide' hB; clear ho hB)
  go_ret
  exact ⟨⟨v, rfl, HO.out⟩, HB.out⟩
theorem Zon.rule {i : Nat} (h : Zon n W apex L ord Z RW NM C m cnt p cp f) (hi : i < (fltM apex L).length) : (fltM apex L)[i].2 = -2 := h.kept _ (List.getElem_mem hi)
end
end Go.Proofs.YtioamelddjdmcaaGreat

namespace Go.Proofs.YtioamelddjdmcaaGreat
set_option linter.unusedVariables false
set_option linter.unusedSimpArgs false
open Go.RowKit Go.Shelf Go.Maps Go.Proofs.YtioamelddjdmcaaGreat.Nm Go.Proofs.YtioamelddjdmcaaGreat.Zs

theorem rise_eq : ∀ (A B : List Rn), A.Perm B → A.Pairwise (fun x y => befB x y = true) → B.Pairwise upR2 → A = B
  | [], B, hp, _, _ => by rw [List.nil_perm.1 hp]
  | a :: A, [], hp, _, _ => absurd (List.perm_nil.1 hp) (by simp)
  | a :: A, b :: B, hp, hA, hB => by
    have ha := List.pairwise_cons.1 hA
    have hb := List.pairwise_cons.1 hB
    have e : a = b := by
      rcases List.mem_cons.1 (hp.mem_iff.1 (List.mem_cons_self ..)) with h | h
      · exact h
      · rcases List.mem_cons.1 (hp.mem_iff.2 (List.mem_cons_self ..)) with h' | h'
        · exact h'.symm
        · have l1 : befB a b = false := hb.1 a h
          rw [ha.1 b h'] at l1
          cases l1
    subst e
    rw [rise_eq A B (List.Perm.cons_inv hp) ha.2 hb.2]

structure Zm (n N : Nat) (wr : World) (apex : ByteArray) (L : List Rn) (ord : List Nat) (Z RW NM C m cnt : Nat) (p : Option Addr) (cp : Nat) (f : ByteArray → Option Nat) (zb : Nat) (pm : Option Addr) (cm : Nat) : Prop where
  zon : Zon n wr apex L ord Z RW NM C m cnt p cp f
  yx : Bx wr zb #[.string apex, .slice pm L.length cm] 41
  yo : wr.ownsRow n 54 5 (.slice pm L.length cm) L.length (rce5 (ord.map (rAt L)))
  lt : Z < N ∧ RW < N ∧ NM < N ∧ zb < N ∧ n ≤ zb
  o1 : ∀ g, (Value.slice p L.length cp).ownBlock = some g → g < N
  o2 : ∀ g, (Value.slice pm L.length cm).ownBlock = some g → g < N
  sz : N ≤ wr.heap.size
section
variable {n N : Nat} {wr w2 : World} {apex : ByteArray} {L : List Rn} {ord : List Nat} {Z RW NM C m cnt : Nat} {p : Option Addr} {cp : Nat} {f : ByteArray → Option Nat} {zb : Nat} {pm : Option Addr} {cm : Nat}
theorem Zm.keep (h : Zm n N wr apex L ord Z RW NM C m cnt p cp f zb pm cm) {q : Nat} (hg : wr.grownBy w2 (some q)) (hq : q < n ∨ N ≤ q) : Zm n N w2 apex L ord Z RW NM C m cnt p cp f zb pm cm := by
  obtain ⟨l1, l2, l3, l4, l5⟩ := h.lt
  obtain ⟨g1, g2, g3, g4⟩ := h.zon.ge
  have z := h.zon
  refine ⟨⟨z.zx.grown hg (by simp; omega), z.own.kept hg (Or.inr fun e => ?_), z.rows.grown hg (by simp; omega), z.nm.grown hg (by simp; omega), z.dm, z.laid, z.few, z.kept, z.ge⟩, h.yx.grown hg (by simp; omega), h.yo.kept hg (Or.inr fun e => ?_), h.lt, h.o1, h.o2, Nat.le_trans h.sz hg.size⟩
  · have := own_ge z.own e
    have := h.o1 _ e
    omega
  · have := own_ge h.yo e
    have := h.o2 _ e
    omega
theorem Zm.step (h : Zm n N wr apex L ord Z RW NM C m cnt p cp f zb pm cm) (hb : Below wr.heap.size wr w2) : Zm n N w2 apex L ord Z RW NM C m cnt p cp f zb pm cm :=
  ⟨h.zon.step hb, h.yx.below hb h.yx.lt, own_below h.yo hb, h.lt, h.o1, h.o2, Nat.le_trans h.sz hb.size⟩
theorem Zm.rs (h : Zm n N wr apex L ord Z RW NM C m cnt p cp f zb pm cm) : RsAt wr pm (ord.map (rAt L)) := rsAt_ownZ h.yo h.zon.laid.tlen.symm
theorem Zm.cell (h : Zm n N wr apex L ord Z RW NM C m cnt p cp f zb pm cm) : wr.cell? ⟨zb, 1, none⟩ = some (.slice pm L.length cm) := h.yx.cell rfl
end

theorem below_quietZ {w : World} (m : Nat) : Below w.heap.size w (w.drewN m) := ⟨rfl, rfl, rfl, Nat.le_refl _, fun _ _ => rfl⟩
theorem Zon.pos {n : Nat} {W : World} {apex : ByteArray} {L : List Rn} {ord : List Nat} {Z RW NM C m cnt : Nat} {p : Option Addr} {cp : Nat} {f : ByteArray → Option Nat} (h : Zon n W apex L ord Z RW NM C m cnt p cp f) : 0 < L.length := by
  have h6 : (if hasB L apex 6 = true then (-2 : Int) else -1) = -2 := h.rule (i := 2) (by show 2 < 8; omega)
  rcases Nat.eq_zero_or_pos L.length with h0 | h0
  · exfalso
    have : L = [] := List.eq_nil_of_length_eq_zero h0
    subst this
    simp [hasB] at h6
  · exact h0
theorem own_some {w : World} {b n : Nat} {v : Value} {xs : List Value} (h : w.ownsRow b 54 5 v n xs) (hn : 0 < n) : ∃ g c, v = .slice (some ⟨g, 0, none⟩) n c := by
  obtain ⟨hl, (⟨h1, h0⟩ | ⟨g, cap, cur, h1, _⟩)⟩ := h
  · omega
  · exact ⟨g, cap, h1⟩
structure Mkd (w w' : World) (apex : ByteArray) (L : List Rn) (zb : Nat) (pm : Option Addr) (cm : Nat) (M : List Rn) : Prop where
  ge : w.heap.size ≤ zb
  yx : Bx w' zb #[.string apex, .slice pm L.length cm] 41
  yo : w'.ownsRow w.heap.size 54 5 (.slice pm L.length cm) L.length (rce5 M)
  pm' : M.Perm L
  pw : M.Pairwise upR2
theorem zm_of {n : Nat} {w2 w3 : World} {apex : ByteArray} {L M : List Rn} {ord : List Nat} {Z RW NM C m cnt : Nat} {p : Option Addr} {cp : Nat} {f : ByteArray → Option Nat} {zb : Nat} {pm : Option Addr} {cm : Nat} (h : Zon n w2 apex L ord Z RW NM C m cnt p cp f) (hd : Mkd w2 w3 apex L zb pm cm M) (hn : n ≤ w2.heap.size) (hb : Below w2.heap.size w2 w3) : Zm n w3.heap.size w3 apex L ord Z RW NM C m cnt p cp f zb pm cm := by
  have h3 := h.step hb
  have h4 : fstI (brkB apex L 4) L.length = -2 := h.rule (i := 0) (by show 0 < 8; omega)
  have hT : ord.map (rAt L) = M := rise_eq _ _ (h.laid.perm.trans hd.pm'.symm) (h.laid.rise h4) hd.pw
  have hge := hd.ge
  have ho := hd.yo
  rw [← hT] at ho
  exact ⟨h3, hd.yx, own_baseZ ho hn, ⟨h3.zx.lt, h3.rows.lt, h3.nm.lt, hd.yx.lt, by omega⟩, fun g e => (h3.own.lt g e).2, fun g e => (ho.lt g e).2, Nat.le_refl _⟩
theorem mark_own {w w1 V : World} {g c : Nat} {L : List Rn} (ho : w1.ownsRow w.heap.size 54 5 (.slice (some ⟨g, 0, none⟩) (L.length + 2) c) (L.length + 2) (rce5 (L ++ [spR, spR]))) (hb : Below w1.heap.size w1 V) (hL : L.length ≤ 1048576) :
    Calls Tryz.prog 15 #[.slice (some ⟨g, 0, none⟩) L.length c] V fun r w' => r = .returned (.tuple #[]) ∧ V.grownBy w' (some g) := by
  obtain ⟨rest, hr, _⟩ := rb_ownM (own_below ho hb)
  exact mark2_any g c L.length (L ++ [spR, spR]) rest V hr (by simp) (by simp; omega)
theorem mark_rs {W : World} {b g c n : Nat} {T : List Rn} (ho : W.ownsRow b 54 5 (.slice (some ⟨g, 0, none⟩) n c) n (rce5 T)) (hT : T.length = n) (hL : n ≤ 1048000) :
    Calls Tryz.prog 15 #[.slice (some ⟨g, 0, none⟩) n c] W fun r w' => r = .returned (.tuple #[]) ∧ W.grownBy w' (some g) := by
  obtain ⟨rest, hr, _⟩ := rb_ownM ho
  exact mark2_any g c n T rest W hr (by omega) (by omega)

end Go.Proofs.YtioamelddjdmcaaGreat
