import Derived.Test.YtoabnpdoicbpiaaGreatZp4G
import Derived.Test.YtoabnpdoicbpiaaGreatZq2G
namespace Go.Proofs.YtoabnpdoicbpiaaGreat
set_option linter.unusedVariables false
set_option linter.unusedSimpArgs false
open Go.RowKit Go.Shelf Go.Maps Go.Proofs.YtoabnpdoicbpiaaGreat.Nm
def idxI (P : Nat → Bool) (n : Nat) : Int := if fstI P n = -2 then -1 else fstI P n
theorem idx_some {P : Nat → Bool} {n k : Nat} (hk : k < n) (hp : P k = true) (hq : ∀ j, j < k → P j = false) : idxI P n = (k : Int) := by
 unfold idxI; rw [fstI_some hk hp hq, if_neg (by omega)]
theorem idx_none {P : Nat → Bool} {n : Nat} (hq : ∀ j, j < n → P j = false) : idxI P n = -1 := by
 unfold idxI; rw [fstI_none hq, if_pos rfl]
set_option maxRecDepth 100000 in
set_option maxHeartbeats 1000000 in
theorem zIsWrong_any (r : Rn) (w : World) (hs : rSm r) :
  Calls Tryz.prog 12 #[rcV r] w fun e w' => e = .returned (.bool (brk2 r)) ∧ Below w.heap.size w w' := by
 obtain ⟨o, t, c, l, d⟩ := r
 have HR := hide' (fun V => isRecord_any o d t c l V (by have := hs.1; unfold maxLen; simp only at this; omega) (by have := hs.2; simp only at this; omega))
 unfold rcV brk2
 simp only
 obtain ⟨z, hz⟩ : ∃ z, zonB o d t c l = z := ⟨_, rfl⟩
 rw [hz] at HR ⊢
 clear hz
 go_enter Tryz.func12, Tryz.ntmps12
 go_wp2_with (go_at_call 33; refine (HR.out _).mono ?_; rintro e w1 ⟨rfl, hB1⟩)
 go_ret
 exact ⟨rfl, bstep ((Below.refl _ w).alloc (Nat.le_refl _) _) hB1 (by simp)⟩
set_option maxRecDepth 100000 in
set_option maxHeartbeats 1000000 in
theorem zOutside_any (apex : ByteArray) (P : Nat) (r : Rn) (w : World) (hs : rSm r) (ha : apex.size ≤ 1048576) (hP : w.cell? ⟨P, 0, none⟩ = some (.string apex)) (hPl : P < w.heap.size) :
  Calls Tryz.prog 13 #[rcV r, .pointer (some ⟨P, 0, none⟩)] w fun e w' => e = .returned (.bool (brk3 apex r)) ∧ Below w.heap.size w w' := by
 have K0 := hide' (Bk.start w r)
 have HW := hide' (fun V => within_any r.o apex V (by have := hs.1; unfold maxLen; omega) (by unfold maxLen; omega))
 obtain ⟨wa, hwa⟩ : ∃ wa, w.alloc (.cells #[.string r.o, .int .i64 r.t, .int .i64 r.c, .int .i64 r.l, .string r.d] 29) = wa := ⟨_, rfl⟩
 rw [hwa] at K0
 obtain ⟨v0, v1, v2, v3, v4⟩ := K0.out.cells
 have hP' : wa.cell? ⟨P, 0, none⟩ = some (.string apex) := (K0.out.bl.cell (p := ⟨P, 0, none⟩) hPl).trans hP
 obtain ⟨o, t, c, l, d⟩ := r
 unfold rcV brk3
 simp only at v0 v1 v2 v3 v4 HW hwa ⊢
 go_enter Tryz.func13, Tryz.ntmps13
 go_wp2_with (go_at_call 14; refine (HW.out _).mono ?_; rintro e w1 ⟨rfl, hB1⟩)
 go_ret
 exact ⟨rfl, bstep K0.out.bl hB1 K0.out.bl.size⟩
set_option maxRecDepth 100000 in
set_option maxHeartbeats 1000000 in
theorem indexWrong_any (L : List Rn) (p : Option Addr) (cap : Nat) (P : Nat → Bool) (w : World) (hL : L.length ≤ 1048576) (hat : RsAt w p L)
  (hf : ∀ (k : Nat), k < L.length → ∀ W, Below w.heap.size w W → Calls Tryz.prog 12 #[rcV (rAt L k)] W fun r w' => r = .returned (.bool (P k)) ∧ Below W.heap.size W w') :
  Calls Tryz.prog 11 #[.slice p L.length cap, .func (Fn.func 12) #[] #[]] w fun r w' => r = .returned (.int .i64 (idxI P L.length)) ∧ Below w.heap.size w w' := by
 have HF := hide' hf
 have HA := hide' hat
 clear hf hat
 go_enter Tryz.func11, Tryz.ntmps11
 go_wp2_with fail
 go_loopw [8] (fun i wr => ∃ k : Nat, i = .int .i64 (k : Int) ∧ k ≤ L.length ∧ Hid (∀ j, j < k → P j = false) ∧ Below w.heap.size w wr) (fun i _ => L.length - (intOf i).toNat)
 case atStart => exact ⟨0, rfl, Nat.zero_le _, (fun j h => absurd h (Nat.not_lt_zero _)), Below.refl _ _⟩
 case round =>
  obtain ⟨k, rfl, hk, HN, hBr⟩ := hrel
  have HBr := hide' hBr
  by_cases hlt : k < L.length
  ·obtain ⟨g, off, hp⟩ := rs_at HA.out hlt
   subst hp
   obtain ⟨e0, e1, e2, e3, e4⟩ := rs_cells HA.out rfl hlt hBr
   have HC := hide' (HF.out k hlt wr hBr)
   obtain ⟨x, hx⟩ : ∃ x, rAt L k = x := ⟨_, rfl⟩
   rw [hx] at HC e0 e1 e2 e3 e4
   clear hx hBr
   unfold rcV at HC
   cases hp : P k with
   | true =>
    rw [hp] at HC
    have HP := hide' (idx_some hlt hp HN.out)
    clear hp
    go_wp2_with (go_at_call 12; refine HC.out.mono ?_; rintro r w2 ⟨rfl, hB2⟩)
    go_ret
    exact ⟨by rw [HP.out]; rfl, bstep HBr.out hB2 HBr.out.size⟩
   | false =>
    rw [hp] at HC
    have HP := hide' (up_to HN.out hp)
    clear hp
    go_wp2_with (go_at_call 12; refine HC.out.mono ?_; rintro r w2 ⟨rfl, hB2⟩)
    exact ⟨⟨k + 1, by go_num, by omega, HP, bstep HBr.out hB2 HBr.out.size⟩, by simp [intOf]; omega⟩
  ·obtain rfl : k = L.length := by omega
   have HP := hide' (idx_none HN.out)
   go_wp2_with fail
   go_ret
   exact ⟨by rw [HP.out]; rfl, HBr.out⟩
set_option maxRecDepth 100000 in
set_option maxHeartbeats 1000000 in
theorem indexOutside_any (L : List Rn) (p : Option Addr) (cap : Nat) (cv : Value) (P : Nat → Bool) (w : World) (hL : L.length ≤ 1048576) (hat : RsAt w p L)
  (hf : ∀ (k : Nat), k < L.length → ∀ W, Below w.heap.size w W → Calls Tryz.prog 13 #[rcV (rAt L k), cv] W fun r w' => r = .returned (.bool (P k)) ∧ Below W.heap.size W w') :
  Calls Tryz.prog 11 #[.slice p L.length cap, .func (Fn.func 13) #[] #[cv]] w fun r w' => r = .returned (.int .i64 (idxI P L.length)) ∧ Below w.heap.size w w' := by
 have HF := hide' hf
 have HA := hide' hat
 clear hf hat
 go_enter Tryz.func11, Tryz.ntmps11
 go_wp2_with fail
 go_loopw [8] (fun i wr => ∃ k : Nat, i = .int .i64 (k : Int) ∧ k ≤ L.length ∧ Hid (∀ j, j < k → P j = false) ∧ Below w.heap.size w wr) (fun i _ => L.length - (intOf i).toNat)
 case atStart => exact ⟨0, rfl, Nat.zero_le _, (fun j h => absurd h (Nat.not_lt_zero _)), Below.refl _ _⟩
 case round =>
  obtain ⟨k, rfl, hk, HN, hBr⟩ := hrel
  have HBr := hide' hBr
  by_cases hlt : k < L.length
  ·obtain ⟨g, off, hp⟩ := rs_at HA.out hlt
   subst hp
   obtain ⟨e0, e1, e2, e3, e4⟩ := rs_cells HA.out rfl hlt hBr
   have HC := hide' (HF.out k hlt wr hBr)
   obtain ⟨x, hx⟩ : ∃ x, rAt L k = x := ⟨_, rfl⟩
   rw [hx] at HC e0 e1 e2 e3 e4
   clear hx hBr
   unfold rcV at HC
   cases hp : P k with
   | true =>
    rw [hp] at HC
    have HP := hide' (idx_some hlt hp HN.out)
    clear hp
    go_wp2_with (go_at_call 13; refine HC.out.mono ?_; rintro r w2 ⟨rfl, hB2⟩)
    go_ret
    exact ⟨by rw [HP.out]; rfl, bstep HBr.out hB2 HBr.out.size⟩
   | false =>
    rw [hp] at HC
    have HP := hide' (up_to HN.out hp)
    clear hp
    go_wp2_with (go_at_call 13; refine HC.out.mono ?_; rintro r w2 ⟨rfl, hB2⟩)
    exact ⟨⟨k + 1, by go_num, by omega, HP, bstep HBr.out hB2 HBr.out.size⟩, by simp [intOf]; omega⟩
  ·obtain rfl : k = L.length := by omega
   have HP := hide' (idx_none HN.out)
   go_wp2_with fail
   go_ret
   exact ⟨by rw [HP.out]; rfl, HBr.out⟩
end Go.Proofs.YtoabnpdoicbpiaaGreat
namespace Go.Proofs.YtoabnpdoicbpiaaGreat
set_option linter.unusedVariables false
set_option linter.unusedSimpArgs false
open Go.RowKit Go.Shelf Go.Maps Go.Proofs.YtoabnpdoicbpiaaGreat.Nm Go.Proofs.YtoabnpdoicbpiaaGreat.Zs
theorem seG_sen {r : Rn} (h : zonR r = true) : seG (senS r) := by
 obtain ⟨_, _, _, _, _, h6, h7, h8, h9, h10, h11⟩ := ok_facts h
 exact ⟨by show (foldB r.o).size ≤ maxLen; unfold maxLen; omega, WalkArith.wf_i64 (by show _ ≤ r.t ∧ r.t ≤ _; omega), by show (foldD r.t r.d).size ≤ maxLen; unfold maxLen; omega⟩
theorem plG_any {o : ByteArray} {t : Int} (ho : o.size ≤ 255) (h : 0 ≤ t ∧ t ≤ 65535) : plG (o, t) := ⟨by show o.size ≤ maxLen; unfold maxLen; omega, WalkArith.wf_i64 (by show _ ≤ t ∧ t ≤ _; omega)⟩
theorem fltR_cons (c v : Int) (M : List (Int × Int)) : fltR ((c, v) :: M) = if v = -2 then fltR M else (v, c) := by
 unfold fltR
 by_cases h : v = -2
 ·rw [if_pos h, List.find?_cons_of_neg (by simp [h])]
 ·rw [if_neg h, List.find?_cons_of_pos (by simp [h])]
theorem flt_zero {apex : ByteArray} {L : List Rn} (h : (fltR (fltM apex L)).2 = 0) : fltR (fltM apex L) = (0, 0) ∧ ∀ x ∈ fltM apex L, x.2 = -2 := by
 cases hf : (fltM apex L).find? (fun x => !decide (x.2 = -2)) with
 | none =>
  refine ⟨by unfold fltR; rw [hf], fun x hx => ?_⟩
  rw [List.find?_eq_none] at hf
  have := hf x hx
  simpa using this
 | some y =>
  exfalso
  have hm := List.mem_of_find?_eq_some hf
  unfold fltR at h
  rw [hf] at h
  simp only at h
  unfold fltM at hm
  simp only [List.mem_cons, List.not_mem_nil, or_false] at hm
  rcases hm with rfl | rfl | rfl | rfl | rfl | rfl | rfl | rfl <;> simp at h
theorem draft_any (apex : ByteArray) (L : List Rn) (p : Option Addr) (cap : Nat) (w : World) (ha : apex.size ≤ 255) (hL : L.length ≤ 2000) (hat : RsAt w p L) (hok : okL L) :
  Calls Tryz.prog 15 #[.string apex, .slice p L.length cap] w fun r w' => ∃ D Z LK FK RW NM B C P g m sv rv ord, r = .returned (.pointer (some ⟨D, 0, none⟩)) ∧ Ly w w' D Z LK FK RW NM B C P g apex (foldB apex) (.slice p L.length cap) sv rv (L.map senS) (ord.map (rAt L)) ord L.length m (rowsF (ord.map (seAt (L.map senS))) L.length) ∧ ord.Perm (List.range L.length) ∧ So (ltS (L.map senS)) ord 0 L.length := by
 have O : Ord (ltS (L.map senS)) := ord_ltS fun s hs => by
  obtain ⟨r, hr, rfl⟩ := List.mem_map.1 hs
  exact good_sen (hok r hr)
 refine (newDraft_any apex L p cap w (fun w' v => ∃ D Z LK FK RW NM B C P g m sv rv ord, v = .pointer (some ⟨D, 0, none⟩) ∧ Ly w w' D Z LK FK RW NM B C P g apex (foldB apex) (.slice p L.length cap) sv rv (L.map senS) (ord.map (rAt L)) ord L.length m (rowsF (ord.map (seAt (L.map senS))) L.length) ∧ ord.Perm (List.range L.length) ∧ So (ltS (L.map senS)) ord 0 L.length) (by unfold maxLen; omega) (by omega) hat hok (fun W D Z LK FK RW NM B sv hd => ?_)).mono ?_
 ·refine (lay_any w W D Z LK FK RW NM B apex (foldB apex) sv L p cap (by omega) hat hok O hd).mono ?_
  rintro r w' ⟨rfl, ord, rv, C, P, g, m, hy, hp, hs⟩
  exact ⟨rfl, D, Z, LK, FK, RW, NM, B, C, P, g, m, sv, rv, ord, rfl, hy, hp, hs⟩
 ·rintro r w' ⟨v, rfl, D, Z, LK, FK, RW, NM, B, C, P, g, m, sv, rv, ord, rfl, h⟩
  exact ⟨D, Z, LK, FK, RW, NM, B, C, P, g, m, sv, rv, ord, rfl, h⟩
theorem faultZ_any {w W : World} {D Z LK FK RW NM B C P g m cap : Nat} {apex : ByteArray} {p : Option Addr} {sv rv : Value} {L : List Rn} {ord : List Nat} (H : Laid apex L ord) (h : Ly w W D Z LK FK RW NM B C P g apex (foldB apex) (.slice p L.length cap) sv rv (L.map senS) (ord.map (rAt L)) ord L.length m (rowsF (ord.map (seAt (L.map senS))) L.length)) (hat : RsAt w p L) (hL : L.length ≤ 2000) :
  Calls Tryz.prog 16 #[.pointer (some ⟨D, 0, none⟩)] W fun r w' => r = .returned (.tuple #[.int .i64 (fltR (fltM apex L)).1, .int .i64 (fltR (fltM apex L)).2]) ∧ Below W.heap.size W w' := by
 obtain ⟨p', c', rfl, _, _, _⟩ := own_shape h.sown
 have hn : L.length = (L.map senS).length := by simp
 have hUl : (ord.map (seAt (L.map senS))).length = L.length := by rw [List.length_map, H.len]
 have hTl := H.tlen
 have hseG : ∀ k, k < L.length → seG (seAt (L.map senS) k) := fun k hk => by rw [seAt_map hk]; exact seG_sen (H.ok _ (rAt_mem hk))
 have hown : ∀ k, k < L.length → (seAt (L.map senS) k).1.size ≤ 255 := fun k hk => by
  rw [seAt_map hk]
  exact (ok_facts (H.ok _ (rAt_mem hk))).2.2.2.2.2.2.2.2.2.1
 have hrow : ∀ q : Pl, ((rowsF (ord.map (seAt (L.map senS))) L.length q).getD (0, 0)).1 ≤ ((rowsF (ord.map (seAt (L.map senS))) L.length q).getD (0, 0)).2 ∧ ((rowsF (ord.map (seAt (L.map senS))) L.length q).getD (0, 0)).2 ≤ (ord.map (rAt L)).length := fun q => by
  have := row_le H.us q
  rw [hUl] at this
  rw [hTl]
  exact this
 have hgx : ∀ V, Below W.heap.size W V → V.cell? ⟨D, 2, none⟩ = some (.slice p L.length cap) ∧ D < V.heap.size ∧ RsAt V p L := fun V hV =>
  ⟨(h.step hV).dx.cell rfl, (h.step hV).dx.lt, rs_stay hat (h.step hV).bl⟩
 have hfa : (foldB apex).size ≤ 255 := zfoldB_size H.na
 have key := H.fault
 have hTo : ∀ r ∈ ord.map (rAt L), r.o.size ≤ 255 := fun r hr => (ok_facts (H.tok r hr)).2.2.2.2.2.2.2.2.1
 have hff := fault_any D W _ _ _ _ _ _ _ _
  (fun V hV => by
         obtain ⟨a1, a2, a3⟩ := hgx V hV
         exact first_isTwice D L p cap (fun k => twiceB (L.map senS) L.length k) V (by omega) a2 a1 a3 (fun k hk X hX => isTwice_any (h.step (bstep hV hX hV.size)) hn (by omega) k hk (hseG k hk) _))
  (fun V hV => by
         obtain ⟨a1, a2, a3⟩ := hgx V hV
         exact first_isStraySoa D L p cap (fun k => strayB (L.map senS) L.length (foldB apex) (rAt L k) k) V (by omega) a2 a1 a3 (fun k hk X hX => by
          rw [rAt_get hk]
          exact isStray_any (h.step (bstep hV hX hV.size)) hn (by omega) k hk (hseG k hk) _))
  (fun V hV => lack_any (h.step hV) 6 (plG_any hfa (by omega)))
  (fun V hV => lack_any (h.step hV) 2 (plG_any hfa (by omega)))
  (fun V hV => by
         obtain ⟨a1, a2, a3⟩ := hgx V hV
         exact first_isWild D L p cap (fun k => wildB (rAt L k)) V (by omega) a2 a1 a3 (fun k hk X hX => by
          rw [rAt_get hk]
          exact isWild_any D k (rAt L k) X (by have := (ok_facts (H.ok _ (rAt_mem hk))).2.2.2.2.2.2.2.2.1; unfold maxLen; omega)))
  (fun V hV => by
         obtain ⟨a1, a2, a3⟩ := hgx V hV
         exact first_isCrowdedAlias D L p cap (fun k => crowdB (ord.map (rAt L)) (rowsF (ord.map (seAt (L.map senS))) L.length) (L.map senS) (rAt L k) k) V (by omega) a2 a1 a3 (fun k hk X hX => by
          rw [rAt_get hk]
          exact isCrowd_any (h.step (bstep hV hX hV.size)) hn (by omega) (by rw [hTl]; omega) k hk (plG_any (hown k hk) (by omega)) (hrow _) _))
  (fun V hV => by
         obtain ⟨a1, a2, a3⟩ := hgx V hV
         exact first_isWrongGraft D L p cap (fun k => graftB (ord.map (rAt L)) (rowsF (ord.map (seAt (L.map senS))) L.length) (L.map senS) (foldB apex) (rAt L k) k) V (by omega) a2 a1 a3 (fun k hk X hX => by
          rw [rAt_get hk]
          exact isGraft_any (h.step (bstep hV hX hV.size)) hn (by omega) (by rw [hTl]; omega) hTo k hk (plG_any (hown k hk) (by omega)) (plG_any (hown k hk) (by omega)) (hrow _) _))
  (fun V hV => by
         obtain ⟨a1, a2, a3⟩ := hgx V hV
         exact first_isOfOtherAge D L p cap (fun k => ageB (L.map senS) L L.length (rAt L k) k) V (by omega) a2 a1 a3 (fun k hk X hX => by
          rw [rAt_get hk]
          exact isAge_any (h.step (bstep hV hX hV.size)) hat rfl hn (by omega) k hk (hseG k hk) (by obtain ⟨y, e1, e2, _⟩ := H.firstLt hk; rw [e1]; omega) _))
 rw [key] at hff
 exact hff
end Go.Proofs.YtoabnpdoicbpiaaGreat
namespace Go.Proofs.YtoabnpdoicbpiaaGreat
set_option linter.unusedVariables false
set_option linter.unusedSimpArgs false
open Go.RowKit Go.Shelf Go.Maps Go.Proofs.YtoabnpdoicbpiaaGreat.Nm Go.Proofs.YtoabnpdoicbpiaaGreat.Zs
structure Zon (n : Nat) (wr : World) (apex : ByteArray) (L : List Rn) (ord : List Nat) (Z RW NM C m cnt : Nat) (p : Option Addr) (cp : Nat) (f : ByteArray → Option Nat) : Prop where
 zx : Bx wr Z #[.string apex, .slice p L.length cp, .map (some RW), .map (some NM)] 61
 own : wr.ownsRow C 29 5 (.slice p L.length cp) L.length (rce5 (ord.map (rAt L)))
 rows : MRow wr RW m (rowsF (ord.map (seAt (L.map senS))) L.length)
 nm : MNm wr NM cnt f
 dm : ∀ x, stG x → ((f x).isSome = true ↔ x ∈ namK apex (ord.map (rAt L)) L.length)
 laid : Laid apex L ord
 few : L.length ≤ 2000
 kept : ∀ x ∈ fltM apex L, x.2 = -2
 ge : n ≤ Z ∧ n ≤ RW ∧ n ≤ NM ∧ n ≤ C
 nq : MNq wr NM (unq (namK apex (ord.map (rAt L)) L.length)) f
 nu : ∀ x, stG x → f x = ixN (unq (namK apex (ord.map (rAt L)) L.length)) x
theorem Zon.step {n : Nat} {wr w2 : World} {apex : ByteArray} {L : List Rn} {ord : List Nat} {Z RW NM C m cnt : Nat} {p : Option Addr} {cp : Nat} {f : ByteArray → Option Nat} (h : Zon n wr apex L ord Z RW NM C m cnt p cp f) (hb : Below wr.heap.size wr w2) : Zon n w2 apex L ord Z RW NM C m cnt p cp f :=
 ⟨h.zx.below hb h.zx.lt, own_below h.own hb, h.rows.grown (grown_below hb none) (by simp), h.nm.grown (grown_below hb none) (by simp), h.dm, h.laid, h.few, h.kept, h.ge, h.nq.grown (grown_below hb none) (by simp), h.nu⟩
structure NwE (apex : ByteArray) (L : List Rn) (w : World) (r : Ending) (w' : World) : Prop where
 bl : Below w.heap.size w w'
 no : (mkC apex L).2 ≠ 0 → r = .returned (.tuple #[.pointer none, .int .i64 (mkC apex L).1, .int .i64 (mkC apex L).2])
 yes : (mkC apex L).2 = 0 → ∃ ord Z RW NM C m cnt p cp f, r = .returned (.tuple #[.pointer (some ⟨Z, 0, none⟩), .int .i64 0, .int .i64 0]) ∧ Zon w.heap.size w' apex L ord Z RW NM C m cnt p cp f
theorem nwE_no {apex : ByteArray} {L : List Rn} {w w' : World} {a c : Int} {r : Ending} (h : mkC apex L = (a, c)) (hc : c ≠ 0) (hr : r = .returned (.tuple #[.pointer none, .int .i64 a, .int .i64 c])) (hb : Below w.heap.size w w') : NwE apex L w r w' :=
 ⟨hb, fun _ => by rw [h]; exact hr, fun h0 => absurd (by rw [h] at h0; exact h0) hc⟩
theorem fst_nat {P : Nat → Bool} {n : Nat} (h : fstI P n ≠ -2) : ∃ k : Nat, fstI P n = (k : Int) := by
 unfold fstI at h ⊢
 cases hf : (List.range n).find? P with
 | none => rw [hf] at h; exact absurd rfl h
 | some k => exact ⟨k, rfl⟩
section
variable {w w3 W w6 : World} {D Z LK FK RW NM B C P g m cap : Nat} {apex : ByteArray} {p : Option Addr} {sv rv : Value} {L : List Rn} {ord : List Nat}
theorem draft_ne (h : Ly w3 W D Z LK FK RW NM B C P g apex (foldB apex) (.slice p L.length cap) sv rv (L.map senS) (ord.map (rAt L)) ord L.length m (rowsF (ord.map (seAt (L.map senS))) L.length)) : some NM ≠ some D := by
 have := h.nm.ne h.dx
 simp; omega
theorem nameAllL_any (H : Laid apex L ord) (h : Ly w3 W D Z LK FK RW NM B C P g apex (foldB apex) (.slice p L.length cap) sv rv (L.map senS) (ord.map (rAt L)) ord L.length m (rowsF (ord.map (seAt (L.map senS))) L.length)) (hL : L.length ≤ 2000) (na : isN apex = true) :
  Calls Tryz.prog 17 #[.pointer (some ⟨Z, 0, none⟩)] W fun r w' => r = .returned (.tuple #[]) ∧ ∃ f p6 c6, rv = .slice p6 L.length c6 ∧ Na W w' NM (namK apex (ord.map (rAt L)) L.length) f := by
 obtain ⟨p6, c6, rfl, _, _, _⟩ := own_shape h.rown
 have hT := H.tlen
 have hlt := h.lt
 have hz := h.nm.ne h.zx
 refine (nameAll_any Z RW NM C apex p6 c6 (ord.map (rAt L)) W h.zx h.rown h.nm (by omega) (by omega) H.tok na (fun q hq => by have := own_ge h.rown hq; omega)).mono ?_
 rintro r w' ⟨rfl, f, hf⟩
 rw [hT] at hf ⊢
 exact ⟨rfl, f, p6, c6, rfl, hf⟩
theorem zon_of {f : ByteArray → Option Nat} {p6 : Option Addr} {c6 : Nat} (H : Laid apex L ord) (h : Ly w3 W D Z LK FK RW NM B C P g apex (foldB apex) (.slice p L.length cap) sv rv (L.map senS) (ord.map (rAt L)) ord L.length m (rowsF (ord.map (seAt (L.map senS))) L.length)) (hL : L.length ≤ 2000) (hkp : ∀ x ∈ fltM apex L, x.2 = -2) (hrv : rv = .slice p6 L.length c6) (hna : Na W w6 NM (namK apex (ord.map (rAt L)) L.length) f) (hb : Below w.heap.size w w3) : Zon w.heap.size w6 apex L ord Z RW NM C m (namK apex (ord.map (rAt L)) L.length).length p6 c6 f ∧ Below w.heap.size w w6 := by
 subst hrv
 have hT := H.tlen
 obtain ⟨l1, l2, l3, l4, l5, l6, l7, l8, l9⟩ := h.lt
 obtain ⟨g1, g2, g3, g4, g5, g6, g7, g8⟩ := h.ge
 obtain ⟨n1, n2, n3, n4, n5, n6, n7⟩ := h.ne
 have hz := h.nm.ne h.zx
 have hs := hb.size
 have hsz := h.sz
 have hbl := bstep hb h.bl hs
 have hro := h.rown
 rw [hT] at hro
 refine ⟨⟨h.zx.grown hna.gb (by simp; omega), hro.kept hna.gb (Or.inr fun e => by have := own_ge hro e; omega), h.rw'.grown hna.gb (by simp; omega), hna.nm, hna.dm, H, hL, hkp, ⟨by omega, by omega, by omega, by omega⟩, hna.sz, hna.nu⟩, ?_⟩
 exact hbl.grown hna.gb hbl.size (fun q e => by cases e; omega)
end
set_option maxRecDepth 100000 in
set_option maxHeartbeats 8000000 in
theorem new_any (apex : ByteArray) (L : List Rn) (p : Option Addr) (cap : Nat) (w : World) (hL : L.length ≤ 1048576) (hat : RsAt w p L) (hs : ∀ j, j < L.length → rSm (rAt L j)) (hap : apex.size ≤ 1048576) :
  Calls Tryz.prog 4 #[.string apex, .slice p L.length cap] w (NwE apex L w) := by
 have HCk := hide' (fun V => check_any apex V (by unfold maxLen; omega))
 obtain ⟨wa, hwa⟩ : ∃ wa, w.alloc (.cells #[.string apex] 9) = wa := ⟨_, rfl⟩
 have HXa : Hid (Bx wa w.heap.size #[.string apex] 9) := hwa ▸ World.alloc_heap_new w _
 have HBa : Hid (Below w.heap.size w wa) := hwa ▸ (Below.refl _ w).alloc (Nat.le_refl _) _
 have v0 : wa.cell? ⟨w.heap.size, 0, none⟩ = some (.string apex) := HXa.out.cell rfl
 have HQ : Hid (∀ V, Below wa.heap.size wa V → V.cell? ⟨w.heap.size, 0, none⟩ = some (.string apex)) := fun V hV => (HXa.out.below hV HXa.out.lt).cell rfl
 have hB := Below.refl wa.heap.size wa
 cases hN : isN apex with
 | false =>
  have HC : Hid (mkC apex L = (-1, 1)) := by unfold Hid mkC; rw [hN]; rfl
  have hc : chk apex = 1 := by unfold chk; rw [hN]; rfl
  rw [hc] at HCk
  clear hN hc hat hs
  go_enter Tryz.func4, Tryz.ntmps4
  go_wp2_with (go_at_call 10; refine (HCk.out _).mono ?_; rintro e w1 ⟨rfl, hB1⟩)
  go_ret3
  exact nwE_no HC.out (by decide) rfl (bstep HBa.out hB1 HBa.out.size)
 | true =>
  have hc : chk apex = 0 := by unfold chk; rw [hN]; rfl
  rw [hc] at HCk
  clear hc
  by_cases h2 : 2000 < L.length
  ·have i2 : (2000 : Int) < (L.length : Int) := by omega
   have HC : Hid (mkC apex L = (-1, 20)) := by unfold Hid mkC; rw [hN, if_pos rfl, if_pos h2]
   clear hN hat hs
   go_enter Tryz.func4, Tryz.ntmps4
   go_wp2_with (go_at_call 10; refine (HCk.out _).mono ?_; rintro e w1 ⟨rfl, hB1⟩)
   go_ret3
   exact nwE_no HC.out (by decide) rfl (bstep HBa.out hB1 HBa.out.size)
  ·have i2 : ¬ (2000 : Int) < (L.length : Int) := by omega
   have HC : Hid (mkC apex L = fltR (mkM apex L)) := by unfold Hid mkC; rw [hN, if_pos rfl, if_neg h2]
   have HI : Hid (∀ V, Below wa.heap.size wa V → Calls Tryz.prog 11 #[.slice p L.length cap, .func (Fn.func 12) #[] #[]] V fun r w' => r = .returned (.int .i64 (idxI (brkB apex L 2) L.length)) ∧ Below V.heap.size V w') := fun V hV =>
    indexWrong_any L p cap (brkB apex L 2) V hL (rs_stay hat (bstep HBa.out hV HBa.out.size)) (fun k hk X hX => zIsWrong_any (rAt L k) X (hs k hk))
   have HJ : Hid (∀ V, Below wa.heap.size wa V → Calls Tryz.prog 11 #[.slice p L.length cap, .func (Fn.func 13) #[] #[.pointer (some ⟨w.heap.size, 0, none⟩)]] V fun r w' => r = .returned (.int .i64 (idxI (brkB apex L 3) L.length)) ∧ Below V.heap.size V w') := fun V hV =>
    indexOutside_any L p cap (.pointer (some ⟨w.heap.size, 0, none⟩)) (brkB apex L 3) V hL (rs_stay hat (bstep HBa.out hV HBa.out.size)) (fun k hk X hX => zOutside_any apex w.heap.size (rAt L k) X (hs k hk) hap (HQ.out _ (bstep hV hX hV.size)) (Nat.lt_of_lt_of_le HXa.out.lt (Nat.le_trans hV.size hX.size)))
   by_cases e1 : fstI (brkB apex L 2) L.length = -2
   ·have hi1 : idxI (brkB apex L 2) L.length = -1 := by unfold idxI; rw [if_pos e1]
    rw [hi1] at HI
    by_cases e2 : fstI (brkB apex L 3) L.length = -2
    ·have hi2 : idxI (brkB apex L 3) L.length = -1 := by unfold idxI; rw [if_pos e2]
     rw [hi2] at HJ
     have hok : okL L := fun r hr => by
      obtain ⟨i, hi, rfl⟩ := mem_at hr
      have h9 : brk2 (rAt L i) = false := fst_inv e1 i hi
      unfold brk2 at h9
      unfold zonR
      simpa using h9
     have hwi : ∀ r ∈ L, withinB r.o apex = true := fun r hr => by
      obtain ⟨i, hi, rfl⟩ := mem_at hr
      have h9 : brk3 apex (rAt L i) = false := fst_inv e2 i hi
      unfold brk3 at h9
      simpa using h9
     have HCC : Hid (mkC apex L = fltR (fltM apex L)) := by
      unfold Hid
      rw [HC.out]
      show fltR ((8, _) :: (5, _) :: fltM apex L) = _
      rw [fltR_cons, if_pos e1, fltR_cons, if_pos e2]
     have h255 : apex.size ≤ 255 := ((isN_iff _).1 hN).1
     have HD : Hid (∀ V, Below wa.heap.size wa V → Calls Tryz.prog 15 #[.string apex, .slice p L.length cap] V _) := fun V hV => draft_any apex L p cap V h255 (by omega) (rs_stay hat (bstep HBa.out hV HBa.out.size)) hok
     have HMk : Hid (∀ ord, ord.Perm (List.range L.length) → So (ltS (L.map senS)) ord 0 L.length → Laid apex L ord) := fun ord h1 h2 => ⟨hok, hN, hwi, h1, h2⟩
     have HAT := hide' hat
     have h2' : L.length ≤ 2000 := by omega
     have hN' := hN
     clear e1 e2 hi1 hi2 hok hwi hN hat hs HC h2
     by_cases hz : (fltR (fltM apex L)).2 = 0
     ·obtain ⟨hf0, hkp⟩ := flt_zero hz
      have HFL : Hid (fltR (fltM apex L) = (0, 0)) := hf0
      have HKp := hide' hkp
      have HNa : Hid (isN apex = true) := hN'
      clear hz hf0 hkp hN'
      have T1 : Hid True := trivial
      go_enter Tryz.func4, Tryz.ntmps4
      go_wp2_with (first
       | (go_at_call 10; refine (HCk.out _).mono ?_; rintro e w1 ⟨rfl, hB1⟩; have hB := bstep hB hB1 hB.size; clear hB1)
       | (go_at_call 11; have _ := T1; clear T1; refine (HI.out _ hB).mono ?_; rintro e w2 ⟨rfl, hB1⟩; have hB := bstep hB hB1 hB.size; clear hB1; have T2 : Hid True := trivial)
       | (go_at_call 11; have _ := T2; clear T2; refine (HJ.out _ hB).mono ?_; rintro e w3 ⟨rfl, hB1⟩; have hB := bstep hB hB1 hB.size; have v0 := HQ.out _ hB; clear hB1)
       | (go_at_call 15; refine (HD.out _ hB).mono ?_; rintro e w4 ⟨D, Z, LK, FK, RW, NM, B, C, P, g, m, sv, rv, ord, rfl, hy, hpm, hso⟩; have HY := hide' hy; have HL := hide' (HMk.out ord hpm hso); have HB3 := hide' hB; have d0 : w4.cell? ⟨D, 0, none⟩ = some (.pointer (some ⟨Z, 0, none⟩)) := hy.dx.cell rfl; clear hy hpm hso hB)
       | (go_at_call 16; refine (faultZ_any HL.out HY.out (rs_stay HAT.out (bstep HBa.out HB3.out HBa.out.size)) h2').mono ?_; rw [HFL.out]; rintro e w5 ⟨rfl, hB5⟩; have HY5 := hide' (HY.out.step hB5); have d0 : w5.cell? ⟨D, 0, none⟩ = some (.pointer (some ⟨Z, 0, none⟩)) := HY5.out.dx.cell rfl; clear hB5)
       | (go_at_call 17; refine (nameAllL_any HL.out HY5.out h2' HNa.out).mono ?_; rintro e w6 ⟨rfl, f, p6, c6, hrv, hna⟩; have HZO := hide' (zon_of HL.out HY5.out h2' HKp.out hrv hna (bstep HBa.out HB3.out HBa.out.size)); have d0 : w6.cell? ⟨D, 0, none⟩ = some (.pointer (some ⟨Z, 0, none⟩)) := (HY5.out.dx.grown hna.gb (draft_ne HY5.out)).cell rfl; clear hna))
      have hbl : Below w.heap.size w w6 := HZO.out.2
      go_ret3
      refine ⟨hbl, fun h => absurd (by rw [HCC.out, HFL.out]) h, fun _ => ⟨ord, Z, RW, NM, C, m, _, _, _, f, rfl, HZO.out.1⟩⟩
     ·obtain ⟨a, c, hac⟩ : ∃ a c, fltR (fltM apex L) = (a, c) := ⟨_, _, rfl⟩
      have HFL : Hid (fltR (fltM apex L) = (a, c)) := hac
      have hc0 : c ≠ 0 := by rw [hac] at hz; exact hz
      have hcb : (c != 0) = true := by simp [hc0]
      have HC0 := hide' hc0
      clear hz hac hc0 hN'
      have T1 : Hid True := trivial
      go_enter Tryz.func4, Tryz.ntmps4
      go_wp2_with (first
       | (go_at_call 10; refine (HCk.out _).mono ?_; rintro e w1 ⟨rfl, hB1⟩; have hB := bstep hB hB1 hB.size; clear hB1)
       | (go_at_call 11; have _ := T1; clear T1; refine (HI.out _ hB).mono ?_; rintro e w2 ⟨rfl, hB1⟩; have hB := bstep hB hB1 hB.size; clear hB1; have T2 : Hid True := trivial)
       | (go_at_call 11; have _ := T2; clear T2; refine (HJ.out _ hB).mono ?_; rintro e w3 ⟨rfl, hB1⟩; have hB := bstep hB hB1 hB.size; have v0 := HQ.out _ hB; clear hB1)
       | (go_at_call 15; refine (HD.out _ hB).mono ?_; rintro e w4 ⟨D, Z, LK, FK, RW, NM, B, C, P, g, m, sv, rv, ord, rfl, hy, hpm, hso⟩; have HY := hide' hy; have HL := hide' (HMk.out ord hpm hso); have HB3 := hide' hB; have d0 : w4.cell? ⟨D, 0, none⟩ = some (.pointer (some ⟨Z, 0, none⟩)) := hy.dx.cell rfl; clear hy hpm hso hB)
       | (go_at_call 16; refine (faultZ_any HL.out HY.out (rs_stay HAT.out (bstep HBa.out HB3.out HBa.out.size)) h2').mono ?_; rw [HFL.out]; rintro e w5 ⟨rfl, hB5⟩; have HY5 := hide' (HY.out.step hB5); have d0 : w5.cell? ⟨D, 0, none⟩ = some (.pointer (some ⟨Z, 0, none⟩)) := HY5.out.dx.cell rfl; clear hB5))
      go_ret3
      exact nwE_no (HCC.out.trans HFL.out) HC0.out rfl (bstep (bstep HBa.out HB3.out HBa.out.size) HY5.out.bl (bstep HBa.out HB3.out HBa.out.size).size)
    ·have hi2 : idxI (brkB apex L 3) L.length = fstI (brkB apex L 3) L.length := by unfold idxI; rw [if_neg e2]
     obtain ⟨k, hk⟩ := fst_nat e2
     rw [hi2, hk] at HJ
     have HCC : Hid (mkC apex L = ((k : Int), 5)) := by
      unfold Hid
      rw [HC.out]
      show fltR ((8, _) :: (5, _) :: fltM apex L) = _
      rw [fltR_cons, if_pos e1, fltR_cons, if_neg e2, hk]
     clear e1 e2 hi1 hi2 hN hat hs HC h2 hk
     have ik : (0 : Int) ≤ (k : Int) := by omega
     have T1 : Hid True := trivial
     go_enter Tryz.func4, Tryz.ntmps4
     go_wp2_with (first
       | (go_at_call 10; refine (HCk.out _).mono ?_; rintro e w1 ⟨rfl, hB1⟩; have hB := bstep hB hB1 hB.size; clear hB1)
       | (go_at_call 11; have _ := T1; clear T1; refine (HI.out _ hB).mono ?_; rintro e w2 ⟨rfl, hB1⟩; have hB := bstep hB hB1 hB.size; clear hB1; have T2 : Hid True := trivial)
       | (go_at_call 11; have _ := T2; clear T2; refine (HJ.out _ hB).mono ?_; rintro e w3 ⟨rfl, hB1⟩; have hB := bstep hB hB1 hB.size; have v0 := HQ.out _ hB; clear hB1))
     go_ret3
     exact nwE_no HCC.out (by decide) rfl (bstep HBa.out hB HBa.out.size)
   ·have hi1 : idxI (brkB apex L 2) L.length = fstI (brkB apex L 2) L.length := by unfold idxI; rw [if_neg e1]
    obtain ⟨k, hk⟩ := fst_nat e1
    rw [hi1, hk] at HI
    have HCC : Hid (mkC apex L = ((k : Int), 8)) := by
     unfold Hid
     rw [HC.out]
     show fltR ((8, _) :: (5, _) :: fltM apex L) = _
     rw [fltR_cons, if_neg e1, hk]
    clear e1 hi1 hN hat hs HC h2 hk
    have ik : (0 : Int) ≤ (k : Int) := by omega
    have T1 : Hid True := trivial
    go_enter Tryz.func4, Tryz.ntmps4
    go_wp2_with (first
       | (go_at_call 10; refine (HCk.out _).mono ?_; rintro e w1 ⟨rfl, hB1⟩; have hB := bstep hB hB1 hB.size; clear hB1)
       | (go_at_call 11; have _ := T1; clear T1; refine (HI.out _ hB).mono ?_; rintro e w2 ⟨rfl, hB1⟩; have hB := bstep hB hB1 hB.size; clear hB1; have T2 : Hid True := trivial)
       | (go_at_call 11; have _ := T2; clear T2; refine (HJ.out _ hB).mono ?_; rintro e w3 ⟨rfl, hB1⟩; have hB := bstep hB hB1 hB.size; have v0 := HQ.out _ hB; clear hB1))
    go_ret3
    exact nwE_no HCC.out (by decide) rfl (bstep HBa.out hB HBa.out.size)
end Go.Proofs.YtoabnpdoicbpiaaGreat
namespace Go.Proofs.YtoabnpdoicbpiaaGreat
set_option linter.unusedVariables false
set_option linter.unusedSimpArgs false
open Go.RowKit Go.Shelf Go.Maps Go.Proofs.YtoabnpdoicbpiaaGreat.Nm Go.Proofs.YtoabnpdoicbpiaaGreat.Zs
section
variable {n : Nat} {W : World} {apex : ByteArray} {L : List Rn} {ord : List Nat} {Z RW NM C m cnt : Nat} {p : Option Addr} {cp : Nat} {f : ByteArray → Option Nat}
set_option maxRecDepth 100000 in
set_option maxHeartbeats 4000000 in
theorem zRecords_any (h : Zon n W apex L ord Z RW NM C m cnt p cp f) :
  Calls Tryz.prog 6 #[.pointer (some ⟨Z, 0, none⟩)] W fun r w' => (∃ v, r = .returned v ∧ w'.ownsRow W.heap.size 29 5 v L.length (rce5 (ord.map (rAt L)))) ∧ Below W.heap.size W w' := by
 have z1 : W.cell? ⟨Z, 1, none⟩ = some (.slice p L.length cp) := h.zx.cell rfl
 have hT := h.laid.tlen
 obtain ⟨p0, c0, he, hc1, hc2, hc3⟩ := own_shape h.own
 injection he with he1 he2 he3
 subst he1 he3
 have hcl := cloneZ_any (ord.map (rAt L)) p cp W (by have := h.few; omega) (rsAt_ownZ h.own hT.symm) hc3
 rw [hT] at hcl
 have HC := hide' hcl
 clear h hcl hc1 hc2 hc3 hT he2
 go_enter Tryz.func6, Tryz.ntmps6
 go_wp2_with (go_at_call 22; refine HC.out.mono ?_; rintro r w2 ⟨⟨v, rfl, ho⟩, hB⟩; have HO := hide' ho; have HB := hide' hB; clear ho hB)
 go_ret
 exact ⟨⟨v, rfl, HO.out⟩, HB.out⟩
set_option maxRecDepth 100000 in
theorem zApex_any (h : Zon n W apex L ord Z RW NM C m cnt p cp f) :
  Calls Tryz.prog 30 #[.pointer (some ⟨Z, 0, none⟩)] W fun r w' => r = .returned (.string apex) ∧ w' = W := by
 have z0 : W.cell? ⟨Z, 0, none⟩ = some (.string apex) := h.zx.cell rfl
 clear h
 go_enter Tryz.func30, Tryz.ntmps30
 go_wp2_with fail
 go_ret
 exact ⟨rfl, rfl⟩
theorem Zon.rule {i : Nat} (h : Zon n W apex L ord Z RW NM C m cnt p cp f) (hi : i < (fltM apex L).length) : (fltM apex L)[i].2 = -2 := h.kept _ (List.getElem_mem hi)
end
end Go.Proofs.YtoabnpdoicbpiaaGreat
