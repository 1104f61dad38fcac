import Derived.Test.YtioamelddjdmcaaGreatZg8G
import Derived.Test.YtioamelddjdmcaaGreatZq4G
namespace Go.Proofs.YtioamelddjdmcaaGreat
set_option linter.unusedVariables false
set_option linter.unusedSimpArgs false
open Go.RowKit Go.Shelf Go.Maps Go.Proofs.YtioamelddjdmcaaGreat.Nm Go.Proofs.YtioamelddjdmcaaGreat.Zs

section
variable {n N : Nat} {wr w2 : World} {apex : ByteArray} {L : List Rn} {ord : List Nat} {Z RW NM C m cnt : Nat} {p : Option Addr} {cp : Nat} {f : ByteArray → Option Nat} {zb : Nat} {pm : Option Addr} {cm : Nat}
theorem Zm.yz (h : Zm n N wr apex L ord Z RW NM C m cnt p cp f zb pm cm) : Yz wr zb apex (ord.map (rAt L)) pm cm := by
  have hT := h.zon.laid.tlen
  have hx := h.yx
  rw [← hT] at hx
  exact ⟨hx, h.rs, h.zon.laid.tok, by rw [hT]; exact h.zon.few⟩
theorem Zon.ownIn (h : Zon n wr apex L ord Z RW NM C m cnt p cp f) : OwnIn apex (ord.map (rAt L)) := fun r hr => h.laid.wi r (h.laid.perm.mem_iff.1 hr)
theorem Zon.rthApex (h : Zon n wr apex L ord Z RW NM C m cnt p cp f) : rth (ord.map (rAt L)) apex = true := by
  have h6 : (if hasB L apex 6 = true then (-2 : Int) else -1) = -2 := h.rule (i := 2) (by show 2 < 8; omega)
  have hh : hasB L apex 6 = true := by
    cases hb : hasB L apex 6 with
    | true => rfl
    | false => rw [hb] at h6; simp at h6
  unfold hasB at hh
  rw [List.any_eq_true] at hh
  obtain ⟨r, hr, hr2⟩ := hh
  rw [Bool.and_eq_true] at hr2
  unfold rth
  rw [List.any_eq_true]
  refine ⟨r, h.laid.perm.mem_iff.2 hr, ?_⟩
  have ht := of_decide_eq_true hr2.1
  rw [h.laid.wi r hr, show countB r = true by simp [countB, ht]]
  rfl
theorem Zm.rfind (h : Zm n N wr apex L ord Z RW NM C m cnt p cp f zb pm cm) (q : ByteArray) (t : Int) (hq : q.size ≤ 1048576) :
    Calls Tryz.prog 14 #[.pointer (some ⟨zb, 0, none⟩), .string q, .int .i64 t] wr (FdE (findB apex (ord.map (rAt L)) q t) wr) := by
  rw [find_both h.zon.laid.na h.zon.ownIn h.zon.rthApex]
  exact rfind_any h.yz q t hq h.zon.laid.na h.zon.rthApex
theorem Zm.find (h : Zm n N wr apex L ord Z RW NM C m cnt p cp f zb pm cm) (q : ByteArray) (t : Int) (hq : q.size ≤ 1048576) :
    Calls Tryz.prog 12 #[.pointer (some ⟨Z, 0, none⟩), .string q, .int .i64 t] wr (FdE (findB apex (ord.map (rAt L)) q t) wr) := find_any h.zon q t hq
end
theorem two_boxes (W : World) (A B : Array Value) (T : TypeId) : Bx ((W.alloc (.cells A T)).alloc (.cells B T)) W.heap.size A T ∧ Bx ((W.alloc (.cells A T)).alloc (.cells B T)) (W.heap.size + 1) B T ∧ Below W.heap.size W ((W.alloc (.cells A T)).alloc (.cells B T)) := by
  have hb : Below W.heap.size W (W.alloc (.cells A T)) := (Below.refl _ W).alloc (Nat.le_refl _) _
  have h1 : Bx (W.alloc (.cells A T)) W.heap.size A T := World.alloc_heap_new W _
  have hs : (W.alloc (.cells A T)).heap.size = W.heap.size + 1 := by simp
  have h2 : Bx ((W.alloc (.cells A T)).alloc (.cells B T)) (W.alloc (.cells A T)).heap.size B T := World.alloc_heap_new _ _
  rw [hs] at h2
  exact ⟨h1.below ((Below.refl _ _).alloc (Nat.le_refl _) _) h1.lt, h2, hb.alloc hb.size _⟩
set_option maxRecDepth 100000 in
set_option maxHeartbeats 4000000 in
theorem sameFound_any (F : Fd) (p1 p2 : Option Addr) (c1 c2 : Nat) (w : World) (h1 : RsAt w p1 F.r) (h2 : RsAt w p2 F.r) (hl : F.r.length ≤ 1048576) :
    Calls Tryz.prog 13 #[.agg #[.int .i64 F.k, .string F.o, .string F.e, .bool F.w, .slice p1 F.r.length c1], .agg #[.int .i64 F.k, .string F.o, .string F.e, .bool F.w, .slice p2 F.r.length c2]] w fun e w' => e = .returned (.bool true) ∧ Below w.heap.size w w' := by
  obtain ⟨k, o, e, b, r⟩ := F
  simp only at h1 h2 hl ⊢
  obtain ⟨x1, x2, hbl⟩ := two_boxes w #[.int .i64 k, .string o, .string e, .bool b, .slice p1 r.length c1] #[.int .i64 k, .string o, .string e, .bool b, .slice p2 r.length c2] 34
  obtain ⟨wb, hwb⟩ : ∃ wb, ((w.alloc (.cells #[.int .i64 k, .string o, .string e, .bool b, .slice p1 r.length c1] 34)).alloc (.cells #[.int .i64 k, .string o, .string e, .bool b, .slice p2 r.length c2] 34)) = wb := ⟨_, rfl⟩
  rw [hwb] at x1 x2 hbl
  obtain ⟨a0, a1, a2, a3, a4, _⟩ := bx5_cells x1
  obtain ⟨b0, b1, b2, b3, b4, _⟩ := bx5_cells x2
  have HS := hide' (sameRecords2 p1 p2 r.length c1 c2 r wb (rs_stay h1 hbl) (rs_stay h2 hbl) rfl (by omega))
  have HB := hide' hbl
  clear h1 h2 x1 x2 hbl
  go_enter Tryz.func13, Tryz.ntmps13
  go_wp2_with (go_at_call 16; refine HS.out.mono ?_; rintro e w7 ⟨rfl, m7, hw7⟩; have hq7 : Below wb.heap.size wb w7 := hw7 ▸ below_quietZ m7; have HB7 := hide' (bstep HB.out hq7 HB.out.size); clear hw7 hq7)
  go_ret
  exact ⟨rfl, HB7.out⟩
end Go.Proofs.YtioamelddjdmcaaGreat

namespace Go.Proofs.YtioamelddjdmcaaGreat
set_option linter.unusedVariables false
set_option linter.unusedSimpArgs false
open Go.RowKit Go.Shelf Go.Maps Go.Proofs.YtioamelddjdmcaaGreat.Nm Go.Proofs.YtioamelddjdmcaaGreat.Zs

theorem qs_stayZ {w w' : World} {p : Option Addr} {l : List Qn} (h : QsAt w p l) (hb : Below w.heap.size w w') : QsAt w' p l := fun k hk => by
  obtain ⟨g, off, h1, h2, h3, h4, h5⟩ := h k hk
  have e := hb.block g h2
  exact ⟨g, off, h1, Nat.lt_of_lt_of_le h2 hb.size, by rw [← h3]; simp [World.cell?, e], by rw [← h4]; simp [World.cell?, e], by rw [← h5]; simp [World.cell?, e]⟩
theorem find_len (apex : ByteArray) (T : List Rn) (q : ByteArray) (t : Int) : (findB apex T q t).r.length ≤ T.length := by
  unfold findB
  split
  · split
    · exact st_len _ _ _
    · split
      · exact say_len _ _ _
      · unfold absB
        split
        · simp only [List.length_map]
          exact say_len _ _ _
        · exact Nat.zero_le _
  · exact Nat.zero_le _
theorem grown_none {w w' : World} (h : w.grownBy w' none) : Below w.heap.size w w' := ⟨h.os, h.tape, h.output, h.size, fun k hk => h.block k hk (by simp)⟩
theorem Zm.keep2 {n N : Nat} {wr w2 : World} {apex : ByteArray} {L : List Rn} {ord : List Nat} {Z RW NM C m cnt : Nat} {p : Option Addr} {cp : Nat} {f : ByteArray → Option Nat} {zb : Nat} {pm : Option Addr} {cm : Nat} (h : Zm n N wr apex L ord Z RW NM C m cnt p cp f zb pm cm) {r : Option Nat} (hg : wr.grownBy w2 r) (hr : ∀ q, r = some q → N ≤ q) : Zm n N w2 apex L ord Z RW NM C m cnt p cp f zb pm cm := by
  cases r with
  | none => exact h.step (grown_none hg)
  | some q => exact h.keep hg (Or.inr (hr q rfl))
set_option maxRecDepth 100000 in
theorem mark_none (p : Option Addr) (c : Nat) (w : World) : Calls Tryz.prog 15 #[.slice p 0 c] w fun r w' => r = .returned (.tuple #[]) ∧ w' = w := by
  go_enter Tryz.func15, Tryz.ntmps15
  go_wp2_with fail
  go_loopw [5] (fun kv wr => kv = .int .i64 0 ∧ wr = w) (fun _ _ => 0)
  case atStart => exact ⟨rfl, rfl⟩
  case round =>
    obtain ⟨rfl, rfl⟩ := hrel
    go_wp2_with fail
    go_end0
    exact ⟨rfl, rfl⟩
theorem mark_own2 {W : World} {b c n : Nat} {p : Option Addr} {T : List Rn} (ho : W.ownsRow b 54 5 (.slice p n c) n (rce5 T)) (hT : T.length = n) (hL : n ≤ 1048000) :
    Calls Tryz.prog 15 #[.slice p n c] W fun r w' => r = .returned (.tuple #[]) ∧ W.grownBy w' (Value.slice p n c).ownBlock := by
  rcases Nat.eq_zero_or_pos n with h0 | h0
  · subst h0
    refine (mark_none p c W).mono ?_
    rintro r w' ⟨hr, rfl⟩
    exact ⟨hr, grown_refl _ _⟩
  · obtain ⟨g, c', hv⟩ := own_some ho h0
    injection hv with h1 h2 h3
    subst h1 h3
    exact mark_rs ho hT hL
end Go.Proofs.YtioamelddjdmcaaGreat

namespace Go.Proofs.YtioamelddjdmcaaGreat
set_option linter.unusedVariables false
set_option linter.unusedSimpArgs false
open Go.RowKit Go.Shelf Go.Maps Go.Proofs.YtioamelddjdmcaaGreat.Nm Go.Proofs.YtioamelddjdmcaaGreat.Zs

set_option maxRecDepth 100000 in
set_option maxHeartbeats 8000000 in
theorem zoneFinds_any (apex : ByteArray) (L : List Rn) (p : Option Addr) (cap : Nat) (Q : List Qn) (pq : Option Addr) (cq : Nat) (w : World) (hL : L.length ≤ 1048576) (hat : RsAt w p L) (hs : ∀ j, j < L.length → rSm (rAt L j)) (hap : apex.size ≤ 1048576) (hcp : L.length ≤ cap) (hcm : cap ≤ maxLen) (hpn : p = none → cap = 0) (hqat : QsAt w pq Q) (hql : Q.length ≤ 1048576) (hqs : ∀ q ∈ Q, q.n.size ≤ 1048576) :
    Calls Tryz.prog 3 #[.string apex, .slice p L.length cap, .slice pq Q.length cq] w fun r w' => r = .returned (.bool true) ∧ Below w.heap.size w w' := by
  have HNw := hide' (new_any apex L p cap w hL hat hs hap)
  have HMk : Hid (∀ V : World, Below w.heap.size w V → Calls Tryz.prog 11 #[.string apex, .slice p L.length cap] V (MkE apex L V)) := fun V hV => by
    by_cases hN : isN apex = true
    · by_cases h2 : 2000 < L.length
      · exact make_arg apex L p cap V hL hap (Or.inr h2)
      · exact make_in apex L p cap V (by omega) (rs_stay hat hV) hs hap hN hcp hcm hpn
    · exact make_arg apex L p cap V hL hap (Or.inl (by simpa using hN))
  clear hs hcp hcm hpn hat
  by_cases hz : (mkC apex L).2 ≠ 0
  · obtain ⟨a, c0, hac⟩ : ∃ a c, mkC apex L = (a, c) := ⟨_, _, rfl⟩
    have HN2 : Hid (∀ (V : World) (r : Ending) (w' : World), NwE apex L V r w' → r = .returned (.tuple #[.pointer none, .int .i64 a, .int .i64 c0]) ∧ Below V.heap.size V w') := fun V r w' h => by
      have := h.no hz
      rw [hac] at this
      exact ⟨this, h.bl⟩
    have HM2 : Hid (∀ (V : World) (r : Ending) (w' : World), MkE apex L V r w' → r = .returned (.tuple #[.pointer none, .int .i64 a, .int .i64 c0]) ∧ Below V.heap.size V w') := fun V r w' h => by
      have := h.no hz
      rw [hac] at this
      exact ⟨this, h.bl⟩
    clear hz hac
    go_enter Tryz.func3, Tryz.ntmps3
    go_wp2_with (first
      | (go_at_call 10; refine HNw.out.mono ?_; intro e w2 hnw; obtain ⟨rfl, hB2⟩ := HN2.out _ _ _ hnw; have HB2 := hide' hB2; clear hnw hB2)
      | (go_at_call 11; refine (HMk.out _ HB2.out).mono ?_; intro e w3 hmk; obtain ⟨rfl, hB3⟩ := HM2.out _ _ _ hmk; have HB3 := hide' (bstep HB2.out hB3 HB2.out.size); clear hmk hB3))
    go_ret
    exact ⟨rfl, HB3.out⟩
  · have hz0 : (mkC apex L).2 = 0 := by simpa using hz
    have HN2 : Hid (∀ (V : World) (r : Ending) (w' : World), NwE apex L V r w' → ∃ ord Z RW NM C m cnt p cp f, r = .returned (.tuple #[.pointer (some ⟨Z, 0, none⟩), .int .i64 0, .int .i64 0]) ∧ Zon V.heap.size w' apex L ord Z RW NM C m cnt p cp f ∧ Below V.heap.size V w') := fun V r w' h => by
      obtain ⟨ord, Z, RW, NM, C, m, cnt, p, cp, f, h1, h2⟩ := h.yes hz0
      exact ⟨ord, Z, RW, NM, C, m, cnt, p, cp, f, h1, h2, h.bl⟩
    have HM2 : Hid (∀ (V : World) (r : Ending) (w' : World), MkE apex L V r w' → ∃ zb pm cm M, r = .returned (.tuple #[.pointer (some ⟨zb, 0, none⟩), .int .i64 0, .int .i64 0]) ∧ Mkd V w' apex L zb pm cm M ∧ Below V.heap.size V w') := fun V r w' h => by
      obtain ⟨zb, v, M, h1, h2, h3, h4, h5, h6⟩ := h.yes hz0
      obtain ⟨pm, cm, rfl, _, _, _⟩ := own_shape h4
      exact ⟨zb, pm, cm, M, h1, ⟨h2, h3, h4, h5, h6⟩, h.bl⟩
    clear hz hz0
    have HQA := hide' hqat
    have HQS := hide' hqs
    clear hqat hqs
    go_enter Tryz.func3, Tryz.ntmps3
    go_wp2_with (first
      | (go_at_call 10; refine HNw.out.mono ?_; intro e w2 hnw; obtain ⟨ord, Z, RW, NM, C, m, cnt, pz, cz, f, rfl, hzo, hB2⟩ := HN2.out _ _ _ hnw; have HZ2 := hide' hzo; have HB2 := hide' hB2; clear hnw hB2 hzo)
      | (go_at_call 11; refine (HMk.out _ HB2.out).mono ?_; intro e w3 hmk; obtain ⟨zb, pm, cm, M, rfl, hmd, hB3⟩ := HM2.out _ _ _ hmk; have HZ3 := hide' (zm_of HZ2.out hmd HB2.out.size hB3); have HB3 := hide' (bstep HB2.out hB3 HB2.out.size); clear hmk hB3 hmd))
    go_loopw [44] (fun kv wv => ∃ k : Nat, kv = .int .i64 (k : Int) ∧ k ≤ Q.length ∧ Hid (Zm w.heap.size w3.heap.size wv apex L ord Z RW NM C m cnt pz cz f zb pm cm) ∧ Hid (Below w.heap.size w wv)) (fun kv _ => Q.length - (intOf kv).toNat)
    case atStart => exact ⟨0, rfl, Nat.zero_le _, HZ3, HB3⟩
    case round =>
      obtain ⟨k, rfl, hk, HZv, HBv⟩ := hrel
      by_cases hlt : k < Q.length
      · obtain ⟨g, off, hpq, hg, y0, y1, y2⟩ := (qs_stayZ HQA.out HBv.out) k hlt
        subst hpq
        have hqz := HQS.out _ (List.getElem_mem hlt)
        obtain ⟨x, hx⟩ : ∃ x, Q[k] = x := ⟨_, rfl⟩
        rw [hx] at y0 y1 y2 hqz
        clear hx
        obtain ⟨qn, qt, qc⟩ := x
        simp only at y0 y1 y2 hqz
        have pk : (k : Int) < (Q.length : Int) := by omega
        obtain ⟨wq, hwq⟩ : ∃ wq, wr.alloc (.cells #[.string qn, .int .i64 qt, .int .i64 qc] 32) = wq := ⟨_, rfl⟩
        have hxq : Bx wq wr.heap.size #[.string qn, .int .i64 qt, .int .i64 qc] 32 := hwq ▸ World.alloc_heap_new wr _
        have hbq : Below wr.heap.size wr wq := hwq ▸ (Below.refl _ wr).alloc (Nat.le_refl _) _
        have HZq := hide' (HZv.out.step hbq)
        have HBq := hide' (bstep HBv.out hbq HBv.out.size)
        have HXq := hide' hxq
        obtain ⟨q0, q1, q2, _⟩ := bx3 hxq
        have HPF : Hid (∀ V, Zm w.heap.size w3.heap.size V apex L ord Z RW NM C m cnt pz cz f zb pm cm → Calls Tryz.prog 12 #[.pointer (some ⟨Z, 0, none⟩), .string qn, .int .i64 qt] V (FdE (findB apex (ord.map (rAt L)) qn qt) V)) := fun V h => h.find qn qt hqz
        have HRF : Hid (∀ V, Zm w.heap.size w3.heap.size V apex L ord Z RW NM C m cnt pz cz f zb pm cm → Calls Tryz.prog 14 #[.pointer (some ⟨zb, 0, none⟩), .string qn, .int .i64 qt] V (FdE (findB apex (ord.map (rAt L)) qn qt) V)) := fun V h => h.rfind qn qt hqz
        have HFL : Hid ((findB apex (ord.map (rAt L)) qn qt).r.length ≤ 2000) := Nat.le_trans (find_len _ _ _ _) (by rw [HZv.out.zon.laid.tlen]; exact HZv.out.zon.few)
        obtain ⟨F, hF⟩ : ∃ F, findB apex (ord.map (rAt L)) qn qt = F := ⟨_, rfl⟩
        rw [hF] at HPF HRF HFL
        obtain ⟨fk, fo, fe, fw, fr⟩ := F
        clear hF hbq hxq
        unfold FdE at HPF HRF
        simp only at HPF HRF
        go_wp2_with (go_at_call 12; refine (HPF.out _ HZq.out).mono ?_; rintro e w4 ⟨⟨v4, rfl, ho4⟩, hB4⟩; obtain ⟨p4, c4, rfl, _, _, _⟩ := own_shape ho4; have HO4 := hide' ho4; have HB4 := hide' hB4; clear ho4 hB4)
        have HFl : Hid (fr.length ≤ 2000) := HFL.out
        obtain ⟨wa, hwa⟩ : ∃ wa, w4.alloc (.cells #[.int .i64 fk, .string fo, .string fe, .bool fw, .slice p4 fr.length c4] 34) = wa := ⟨_, rfl⟩
        have hxa : Bx wa w4.heap.size #[.int .i64 fk, .string fo, .string fe, .bool fw, .slice p4 fr.length c4] 34 := hwa ▸ World.alloc_heap_new w4 _
        have hba : Below w4.heap.size w4 wa := hwa ▸ (Below.refl _ w4).alloc (Nat.le_refl _) _
        have HK : Hid (∀ V, Below wa.heap.size wa V → Bx V w4.heap.size #[.int .i64 fk, .string fo, .string fe, .bool fw, .slice p4 fr.length c4] 34 ∧ Bx V wr.heap.size #[.string qn, .int .i64 qt, .int .i64 qc] 32 ∧ Zm w.heap.size w3.heap.size V apex L ord Z RW NM C m cnt pz cz f zb pm cm ∧ V.ownsRow wq.heap.size 54 5 (.slice p4 fr.length c4) fr.length (rce5 fr) ∧ Below w.heap.size w V) := fun V hV => by
          have hbV : Below w4.heap.size w4 V := bstep hba hV hba.size
          have hbQ : Below wq.heap.size wq V := bstep HB4.out hbV HB4.out.size
          exact ⟨hxa.below hV hxa.lt, HXq.out.below hbQ HXq.out.lt, HZq.out.step hbQ, own_below HO4.out hbV, bstep HBq.out hbQ HBq.out.size⟩
        have HQ : Hid (∀ V, Below wa.heap.size wa V → V.cell? ⟨w4.heap.size, 0, none⟩ = some (.int .i64 fk) ∧ V.cell? ⟨w4.heap.size, 1, none⟩ = some (.string fo) ∧ V.cell? ⟨w4.heap.size, 2, none⟩ = some (.string fe) ∧ V.cell? ⟨w4.heap.size, 3, none⟩ = some (.bool fw) ∧ V.cell? ⟨w4.heap.size, 4, none⟩ = some (.slice p4 fr.length c4) ∧ V.cell? ⟨wr.heap.size, 0, none⟩ = some (.string qn) ∧ V.cell? ⟨wr.heap.size, 1, none⟩ = some (.int .i64 qt)) := fun V hV => by
          obtain ⟨a0, a1, a2, a3, a4, _⟩ := bx5_cells (HK.out V hV).1
          obtain ⟨b0, b1, _⟩ := bx3 (HK.out V hV).2.1
          exact ⟨a0, a1, a2, a3, a4, b0, b1⟩
        have HSF : Hid (∀ V p5 c5, Below wa.heap.size wa V → RsAt V p5 fr → Calls Tryz.prog 13 #[.agg #[.int .i64 fk, .string fo, .string fe, .bool fw, .slice p4 fr.length c4], .agg #[.int .i64 fk, .string fo, .string fe, .bool fw, .slice p5 fr.length c5]] V fun e w' => e = .returned (.bool true) ∧ Below V.heap.size V w') := fun V p5 c5 hV h5 => sameFound_any ⟨fk, fo, fe, fw, fr⟩ p4 p5 c4 c5 V (rsAt_ownZ (HK.out V hV).2.2.2.1 rfl) h5 (by have := HFl.out; show fr.length ≤ _; omega)
        rw [hwa]
        clear hxa hba
        obtain ⟨k0, k1, k2, k3, k4, k5, k6⟩ := HQ.out _ (Below.refl wa.heap.size wa)
        have hB := (Below.refl wa.heap.size wa).drew
        go_region_held3 (fun V => V.cell? ⟨w4.heap.size, 0, none⟩ = some (.int .i64 fk) ∧ V.cell? ⟨w4.heap.size, 1, none⟩ = some (.string fo) ∧ V.cell? ⟨w4.heap.size, 2, none⟩ = some (.string fe) ∧ V.cell? ⟨w4.heap.size, 3, none⟩ = some (.bool fw) ∧ V.cell? ⟨w4.heap.size, 4, none⟩ = some (.slice p4 fr.length c4) ∧ V.cell? ⟨wr.heap.size, 0, none⟩ = some (.string qn) ∧ V.cell? ⟨wr.heap.size, 1, none⟩ = some (.int .i64 qt)) (first | go_keep | (with_reducible exact HQ.out _ hB) | (obtain ⟨h0, h1, h2, h3, h4, h5, h6⟩ := HQ.out _ hB; first | exact ⟨h0, h1, h2, h3, h4, h5, h6⟩ | assumption) | (obtain ⟨h0, h1, h2, h3, h4, h5, h6⟩ := HQ.out _ hB.drew; first | exact ⟨h0, h1, h2, h3, h4, h5, h6⟩ | assumption))
          (first
            | (go_at_call 14; refine (HRF.out _ (HK.out _ (by first | exact hB | exact hB.drew)).2.2.1).mono ?_; rintro e w5 ⟨⟨v5, rfl, ho5⟩, hB5⟩; obtain ⟨p5, c5, rfl, _, _, _⟩ := own_shape ho5; have hB := below_any hB hB5 (by first | exact .inl rfl | exact .inr rfl) hB.size; have HR5 := hide' (rsAt_ownZ ho5 rfl); clear hB5 ho5)
            | (go_at_call 13; refine (HSF.out _ p5 c5 (by first | exact hB | exact hB.drew) HR5.out).mono ?_; rintro e w6 ⟨rfl, hB5⟩; have hB := below_any hB hB5 (by first | exact .inl rfl | exact .inr rfl) hB.size; clear hB5))
        obtain ⟨xa6, xq6, z6, o6, b6⟩ := HK.out _ hB
        have hMk := mark_own2 o6 rfl (by have := HFl.out; omega)
        obtain ⟨m0, m1, m2, m3, m4, _⟩ := bx5_cells xa6
        have HMa := hide' hMk
        have H7 : Hid (∀ V, w6.grownBy V (Value.slice p4 fr.length c4).ownBlock → Bx V w4.heap.size #[.int .i64 fk, .string fo, .string fe, .bool fw, .slice p4 fr.length c4] 34 ∧ Bx V wr.heap.size #[.string qn, .int .i64 qt, .int .i64 qc] 32 ∧ Zm w.heap.size w3.heap.size V apex L ord Z RW NM C m cnt pz cz f zb pm cm ∧ Below w.heap.size w V) := fun V hg => by
          have l1 := HXq.out.lt
          have l2 := HZq.out.sz
          have l3 := HBq.out.size
          exact ⟨xa6.grown hg (fun e => by have := (HO4.out.lt _ e).2; omega), xq6.grown hg (fun e => by have := own_ge o6 e; omega), z6.keep2 hg (fun q e => by have := own_ge o6 e; omega), b6.grown hg b6.size (fun q e => by have := own_ge o6 e; omega)⟩
        have H8 : Hid (∀ V w8 p8 c8, w6.grownBy V (Value.slice p4 fr.length c4).ownBlock → Below V.heap.size V w8 → w8.ownsRow V.heap.size 54 5 (.slice p8 fr.length c8) fr.length (rce5 fr) → Bx (((((w8.setCell ⟨w4.heap.size, 0, none⟩ (.int .i64 fk)).setCell ⟨w4.heap.size, 1, none⟩ (.string fo)).setCell ⟨w4.heap.size, 2, none⟩ (.string fe)).setCell ⟨w4.heap.size, 3, none⟩ (.bool fw)).setCell ⟨w4.heap.size, 4, none⟩ (.slice p8 fr.length c8)) w4.heap.size #[.int .i64 fk, .string fo, .string fe, .bool fw, .slice p8 fr.length c8] 34 ∧ Bx (((((w8.setCell ⟨w4.heap.size, 0, none⟩ (.int .i64 fk)).setCell ⟨w4.heap.size, 1, none⟩ (.string fo)).setCell ⟨w4.heap.size, 2, none⟩ (.string fe)).setCell ⟨w4.heap.size, 3, none⟩ (.bool fw)).setCell ⟨w4.heap.size, 4, none⟩ (.slice p8 fr.length c8)) wr.heap.size #[.string qn, .int .i64 qt, .int .i64 qc] 32 ∧ Zm w.heap.size w3.heap.size (((((w8.setCell ⟨w4.heap.size, 0, none⟩ (.int .i64 fk)).setCell ⟨w4.heap.size, 1, none⟩ (.string fo)).setCell ⟨w4.heap.size, 2, none⟩ (.string fe)).setCell ⟨w4.heap.size, 3, none⟩ (.bool fw)).setCell ⟨w4.heap.size, 4, none⟩ (.slice p8 fr.length c8)) apex L ord Z RW NM C m cnt pz cz f zb pm cm ∧ Below w.heap.size w (((((w8.setCell ⟨w4.heap.size, 0, none⟩ (.int .i64 fk)).setCell ⟨w4.heap.size, 1, none⟩ (.string fo)).setCell ⟨w4.heap.size, 2, none⟩ (.string fe)).setCell ⟨w4.heap.size, 3, none⟩ (.bool fw)).setCell ⟨w4.heap.size, 4, none⟩ (.slice p8 fr.length c8)) ∧ RsAt (((((w8.setCell ⟨w4.heap.size, 0, none⟩ (.int .i64 fk)).setCell ⟨w4.heap.size, 1, none⟩ (.string fo)).setCell ⟨w4.heap.size, 2, none⟩ (.string fe)).setCell ⟨w4.heap.size, 3, none⟩ (.bool fw)).setCell ⟨w4.heap.size, 4, none⟩ (.slice p8 fr.length c8)) p8 fr) := fun V w8 p8 c8 hg hb ho => by
          obtain ⟨ya, yq, yz, yb⟩ := H7.out V hg
          have l1 := HXq.out.lt
          have l2 := HZq.out.sz
          have l3 := HBq.out.size
          have l4 := HB4.out.size
          have l5 := ya.lt
          have hg5 := grown5 w8 w4.heap.size (.int .i64 fk) (.string fo) (.string fe) (.bool fw) (.slice p8 fr.length c8)
          exact ⟨bx5_set (ya.below hb ya.lt) _ _ _ _ _, (yq.below hb yq.lt).grown hg5 (fun e => by injection e with e; omega), (yz.step hb).keep2 hg5 (fun q e => by injection e with e; omega), (bstep yb hb yb.size).grown hg5 (bstep yb hb yb.size).size (fun q e => by injection e with e; omega), rsAt_ownZ (own_far ho hg5 l5) rfl⟩
        clear xa6 xq6 z6 o6 b6 hMk hB
        have T1 : Hid True := trivial
        go_wp2_with (first
          | (go_at_call 15; refine HMa.out.mono ?_; rintro e w7 ⟨rfl, hG7⟩; have HG7 := hide' hG7; obtain ⟨n0, n1, _⟩ := bx3 (H7.out _ hG7).2.1; clear hG7)
          | (go_at_call 12; refine (HPF.out _ (H7.out _ HG7.out).2.2.1).mono ?_; rintro e w8 ⟨⟨v8, rfl, ho8⟩, hB8⟩; obtain ⟨p8, c8, rfl, _, _, _⟩ := own_shape ho8; have HO8 := hide' ho8; have HB8 := hide' hB8; obtain ⟨s0, s1, s2, s3, s4, s5, s6, s7, s8, s9⟩ := bx5_cells ((H7.out _ HG7.out).1.below hB8 (H7.out _ HG7.out).1.lt); clear ho8 hB8))
        obtain ⟨xa9, xq9, z9, b9, r9⟩ := H8.out _ _ _ _ HG7.out HB8.out HO8.out
        generalize (((((w8.setCell ⟨w4.heap.size, 0, none⟩ (.int .i64 fk)).setCell ⟨w4.heap.size, 1, none⟩ (.string fo)).setCell ⟨w4.heap.size, 2, none⟩ (.string fe)).setCell ⟨w4.heap.size, 3, none⟩ (.bool fw)).setCell ⟨w4.heap.size, 4, none⟩ (.slice p8 fr.length c8)) = w9 at xa9 xq9 z9 b9 r9 ⊢
        have HK9 : Hid (∀ V, Below w9.heap.size w9 V → Zm w.heap.size w3.heap.size V apex L ord Z RW NM C m cnt pz cz f zb pm cm ∧ Below w.heap.size w V) := fun V hV => ⟨z9.step hV, bstep b9 hV b9.size⟩
        have HQ9 : Hid (∀ V, Below w9.heap.size w9 V → V.cell? ⟨w4.heap.size, 0, none⟩ = some (.int .i64 fk) ∧ V.cell? ⟨w4.heap.size, 1, none⟩ = some (.string fo) ∧ V.cell? ⟨w4.heap.size, 2, none⟩ = some (.string fe) ∧ V.cell? ⟨w4.heap.size, 3, none⟩ = some (.bool fw) ∧ V.cell? ⟨w4.heap.size, 4, none⟩ = some (.slice p8 fr.length c8) ∧ V.cell? ⟨wr.heap.size, 0, none⟩ = some (.string qn) ∧ V.cell? ⟨wr.heap.size, 1, none⟩ = some (.int .i64 qt)) := fun V hV => by
          obtain ⟨a0, a1, a2, a3, a4, _⟩ := bx5_cells (xa9.below hV xa9.lt)
          obtain ⟨b0, b1, _⟩ := bx3 (xq9.below hV xq9.lt)
          exact ⟨a0, a1, a2, a3, a4, b0, b1⟩
        have HSF9 : Hid (∀ V p5 c5, Below w9.heap.size w9 V → RsAt V p5 fr → Calls Tryz.prog 13 #[.agg #[.int .i64 fk, .string fo, .string fe, .bool fw, .slice p8 fr.length c8], .agg #[.int .i64 fk, .string fo, .string fe, .bool fw, .slice p5 fr.length c5]] V fun e w' => e = .returned (.bool true) ∧ Below V.heap.size V w') := fun V p5 c5 hV h5 => sameFound_any ⟨fk, fo, fe, fw, fr⟩ p8 p5 c8 c5 V (rs_stay r9 hV) h5 (by have := HFl.out; show fr.length ≤ _; omega)
        clear xa9 xq9 z9 b9 r9
        obtain ⟨t0, t1, t2, t3, t4, t5, t6⟩ := HQ9.out _ (Below.refl w9.heap.size w9)
        have hB := (Below.refl w9.heap.size w9).drew
        go_region_held3 (fun V => V.cell? ⟨w4.heap.size, 0, none⟩ = some (.int .i64 fk) ∧ V.cell? ⟨w4.heap.size, 1, none⟩ = some (.string fo) ∧ V.cell? ⟨w4.heap.size, 2, none⟩ = some (.string fe) ∧ V.cell? ⟨w4.heap.size, 3, none⟩ = some (.bool fw) ∧ V.cell? ⟨w4.heap.size, 4, none⟩ = some (.slice p8 fr.length c8) ∧ V.cell? ⟨wr.heap.size, 0, none⟩ = some (.string qn) ∧ V.cell? ⟨wr.heap.size, 1, none⟩ = some (.int .i64 qt)) (first | go_keep | (with_reducible exact HQ9.out _ hB) | (obtain ⟨h0, h1, h2, h3, h4, h5, h6⟩ := HQ9.out _ hB; first | exact ⟨h0, h1, h2, h3, h4, h5, h6⟩ | assumption) | (obtain ⟨h0, h1, h2, h3, h4, h5, h6⟩ := HQ9.out _ hB.drew; first | exact ⟨h0, h1, h2, h3, h4, h5, h6⟩ | assumption))
          (first
            | (go_at_call 14; refine (HRF.out _ (HK9.out _ (by first | exact hB | exact hB.drew)).1).mono ?_; rintro e wA ⟨⟨v5, rfl, ho5⟩, hB5⟩; obtain ⟨pA, cA, rfl, _, _, _⟩ := own_shape ho5; have hB := below_any hB hB5 (by first | exact .inl rfl | exact .inr rfl) hB.size; have HRA := hide' (rsAt_ownZ ho5 rfl); clear hB5 ho5)
            | (go_at_call 13; refine (HSF9.out _ pA cA (by first | exact hB | exact hB.drew) HRA.out).mono ?_; rintro e wB ⟨rfl, hB5⟩; have hB := below_any hB hB5 (by first | exact .inl rfl | exact .inr rfl) hB.size; clear hB5))
        have HKe := hide' (HK9.out _ hB)
        go_wp2_with fail
        exact ⟨⟨k + 1, by go_num, by omega, HKe.out.1, HKe.out.2⟩, by simp [intOf] <;> omega⟩
      · obtain rfl : k = Q.length := by omega
        have y1 := HZv.out.cell
        go_wp2_with fail
        have HRe : Hid (∀ V, Below wr.heap.size wr V → Calls Tryz.prog 17 #[.pointer (some ⟨Z, 0, none⟩)] V fun r w' => (∃ g9 c9, r = .returned (.slice (some ⟨g9, 0, none⟩) L.length c9) ∧ RsAt w' (some ⟨g9, 0, none⟩) (ord.map (rAt L))) ∧ Below V.heap.size V w') := fun V hV => by
          have h := HZv.out.step hV
          refine (zRecords_any h.zon).mono ?_
          rintro r w' ⟨⟨v, rfl, ho⟩, hb⟩
          obtain ⟨g9, c9, rfl⟩ := own_some ho h.zon.pos
          exact ⟨⟨g9, c9, rfl, rsAt_ownZ ho h.zon.laid.tlen.symm⟩, hb⟩
        have HSm : Hid (∀ V g9 c9, Below wr.heap.size wr V → RsAt V (some ⟨g9, 0, none⟩) (ord.map (rAt L)) → Calls Tryz.prog 16 #[.slice (some ⟨g9, 0, none⟩) L.length c9, .slice pm L.length cm] V fun e w' => e = .returned (.bool true) ∧ Below V.heap.size V w') := fun V g9 c9 hV hr => by
          have h := HZv.out.step hV
          refine (sameRecords2 (some ⟨g9, 0, none⟩) pm L.length c9 cm (ord.map (rAt L)) V hr h.rs h.zon.laid.tlen.symm (by have := h.zon.few; omega)).mono ?_
          rintro e w' ⟨rfl, k, rfl⟩
          exact ⟨rfl, below_quietZ k⟩
        have HQ : Hid (∀ V, Below wr.heap.size wr V → V.cell? ⟨zb, 1, none⟩ = some (.slice pm L.length cm)) := fun V hV => (HZv.out.step hV).cell
        have hB := (Below.refl wr.heap.size wr).drew
        go_region_held3 (fun V => V.cell? ⟨zb, 1, none⟩ = some (.slice pm L.length cm)) (first | go_keep | (with_reducible exact HQ.out _ hB))
          (first
            | (go_at_call 17; refine (HRe.out _ (by first | exact hB | exact hB.drew)).mono ?_; rintro e wD ⟨⟨g9, c9, rfl, hr9⟩, hB5⟩; have hB := below_any hB hB5 (by first | exact .inl rfl | exact .inr rfl) hB.size; have HR9 := hide' hr9; clear hB5 hr9)
            | (go_at_call 16; refine (HSm.out _ g9 c9 (by first | exact hB | exact hB.drew) HR9.out).mono ?_; rintro e wE ⟨rfl, hB5⟩; have hB := below_any hB hB5 (by first | exact .inl rfl | exact .inr rfl) hB.size; clear hB5))
        all_goals
          go_wp2_with fail
          go_ret
          exact ⟨by simp, bstep HBv.out hB HBv.out.size⟩
end Go.Proofs.YtioamelddjdmcaaGreat
