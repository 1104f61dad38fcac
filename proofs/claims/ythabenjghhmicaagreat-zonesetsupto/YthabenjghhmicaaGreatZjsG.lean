import Derived.Test.YthabenjghhmicaaGreatZf6G
import Derived.Test.YthabenjghhmicaaGreatZl1G
import Derived.Test.YthabenjghhmicaaGreatZqmG
import Derived.Test.YthabenjghhmicaaGreatZk1G
import Derived.RangeFuncBox
import Derived.Test.YthabenjghhmicaaGreatFr0G
import Derived.ProofKit
import Derived.OpenShut
import Derived.JoinedCond
import Derived.ShutString
import Derived.ChangeOld
import Derived.ChangeSlices
import Derived.Carry
/-
  Proofs: (*zone.Zone).Set. (The verifier's own text.)
-/
namespace Go.Proofs.YthabenjghhmicaaGreat
set_option linter.unusedVariables false
set_option linter.unusedSimpArgs false
open Go.RowKit Go.Shelf Go.Maps Go.Proofs.YthabenjghhmicaaGreat.Nm Go.Proofs.YthabenjghhmicaaGreat.Zs

section
variable {n : Nat} {W : World} {apex : ByteArray} {L : List Rn} {ord : List Nat} {Z RW NM C m cnt : Nat} {p : Option Addr} {cp : Nat} {f : ByteArray → Option Nat}
set_option maxRecDepth 100000 in
set_option maxHeartbeats 2000000 in
/-- (*zone.Zone).Set, of a type -/
theorem setZ_any (h : Zon n W apex L ord Z RW NM C m cnt p cp f) (o : ByteArray) (t : Int) (ho : o.size ≤ 1048576) (ht0 : t ≠ 0) (hw : (Lit.int .i64 t).wf = true) :
    Calls Tryz.prog 21 #[.pointer (some ⟨Z, 0, none⟩), .string o, .int .i64 t] W fun r w' => (∃ v, r = .returned v ∧ w'.ownsRow W.heap.size 54 5 v (stT (ord.map (rAt L)) (foldB o) t).length (rce5 (stT (ord.map (rAt L)) (foldB o) t))) ∧ Below W.heap.size W w' := by
  have hfo : (foldB o).size ≤ maxLen := by
    cases hn : isN o with
    | true => rw [foldB_yes hn, lowB_size]; unfold maxLen; omega
    | false => rw [foldB_no hn]; unfold maxLen; decide
  have HFo := hide' (fun V => fold_any o V (by unfold maxLen; omega))
  have HAt : Hid (∀ V, Below W.heap.size W V → Calls Tryz.prog 47 #[.pointer (some ⟨Z, 0, none⟩), .string (foldB o), .int .i64 t] V fun r w' => (∃ v, r = .returned v ∧ w'.ownsRow V.heap.size 54 5 v (stT (ord.map (rAt L)) (foldB o) t).length (rce5 (stT (ord.map (rAt L)) (foldB o) t))) ∧ Below V.heap.size V w') := fun V hV => atZ_any (h.step hV) (foldB o) t ⟨hfo, hw⟩
  have htb : (t == 0) = false := by simp [ht0]
  obtain ⟨X, hX⟩ : ∃ X, stT (ord.map (rAt L)) (foldB o) t = X := ⟨_, rfl⟩
  rw [hX] at HAt ⊢
  clear hX h hfo ht0 hw
  have hB := Below.refl W.heap.size W
  go_enter Tryz.func21, Tryz.ntmps21
  go_wp2_with (first
    | (go_at_call 44; refine (HFo.out _).mono ?_; rintro e w1 ⟨rfl, hB1⟩; have hB := bstep hB hB1 hB.size; clear hB1)
    | (go_at_call 47; refine (HAt.out _ hB).mono ?_; rintro e w2 ⟨⟨v, rfl, ho2⟩, hB1⟩; have HO2 := hide' (own_baseZ ho2 hB.size); have hB := bstep hB hB1 hB.size; clear hB1 ho2))
  go_ret
  exact ⟨⟨v, rfl, HO2.out⟩, hB⟩

set_option maxRecDepth 100000 in
/-- (*zone.Zone).Set, of no type -/
theorem setZ_none (Z : Nat) (o : ByteArray) (W : World) :
    Calls Tryz.prog 21 #[.pointer (some ⟨Z, 0, none⟩), .string o, .int .i64 0] W fun r w' => r = .returned (.slice none 0 0) ∧ w' = W := by
  go_enter Tryz.func21, Tryz.ntmps21
  go_wp2_with fail
  go_ret
  exact ⟨rfl, rfl⟩
end
end Go.Proofs.YthabenjghhmicaaGreat

/-
  Both zones, told by their records in order: names and sets. (The verifier's own text.)
-/
namespace Go.Proofs.YthabenjghhmicaaGreat
set_option linter.unusedVariables false
set_option linter.unusedSimpArgs false
open Go.RowKit Go.Shelf Go.Maps Go.Proofs.YthabenjghhmicaaGreat.Nm Go.Proofs.YthabenjghhmicaaGreat.Zs

/-- both zones in memory, told by their records in order -/
def ZB (n N : Nat) (V : World) (apex : ByteArray) (Z zb : Nat) (T : List Rn) : Prop := ∃ L ord RW NM C m cnt p cp f pm cm, Zm n N V apex L ord Z RW NM C m cnt p cp f zb pm cm ∧ ord.map (rAt L) = T
section
variable {n N : Nat} {V V' : World} {apex : ByteArray} {Z zb : Nat} {T : List Rn}
theorem ZB.step (h : ZB n N V apex Z zb T) (hb : Below V.heap.size V V') : ZB n N V' apex Z zb T := by
  obtain ⟨L, ord, RW, NM, C, m, cnt, p, cp, f, pm, cm, h1, h2⟩ := h
  exact ⟨L, ord, RW, NM, C, m, cnt, p, cp, f, pm, cm, h1.step hb, h2⟩
theorem ZB.keep (h : ZB n N V apex Z zb T) {r : Option Nat} (hg : V.grownBy V' r) (hr : ∀ q, r = some q → N ≤ q) : ZB n N V' apex Z zb T := by
  obtain ⟨L, ord, RW, NM, C, m, cnt, p, cp, f, pm, cm, h1, h2⟩ := h
  exact ⟨L, ord, RW, NM, C, m, cnt, p, cp, f, pm, cm, h1.keep2 hg hr, h2⟩
theorem ZB.sz (h : ZB n N V apex Z zb T) : N ≤ V.heap.size := by
  obtain ⟨L, ord, RW, NM, C, m, cnt, p, cp, f, pm, cm, h1, h2⟩ := h
  exact h1.sz
theorem ZB.few (h : ZB n N V apex Z zb T) : T.length ≤ 2000 := by
  obtain ⟨L, ord, RW, NM, C, m, cnt, p, cp, f, pm, cm, h1, rfl⟩ := h
  have := h1.zon.laid.tlen
  have := h1.zon.few
  omega
theorem Zm.yzz {wr : World} {L : List Rn} {ord : List Nat} {RW NM C m cnt : Nat} {p : Option Addr} {cp : Nat} {f : ByteArray → Option Nat} {pm : Option Addr} {cm : Nat} (h : Zm n N wr apex L ord Z RW NM C m cnt p cp f zb pm cm) : Yz wr zb apex (ord.map (rAt L)) pm cm := by
  have hT := h.zon.laid.tlen
  have hx := h.yx
  rw [← hT] at hx
  exact ⟨hx, h.rs, h.zon.laid.tok, by rw [hT]; exact h.zon.few⟩
theorem zb_names (h : ZB n N V apex Z zb T) : Calls Tryz.prog 18 #[.pointer (some ⟨Z, 0, none⟩)] V fun r w' => ∃ g c, r = .returned (.slice (some ⟨g, 0, none⟩) (namL apex T).length c) ∧ (w'.ownsRow V.heap.size 9 1 (.slice (some ⟨g, 0, none⟩) (namL apex T).length c) (namL apex T).length ((namL apex T).map Value.string) ∧ (namL apex T).length ≤ 9223372036854775807) ∧ Below V.heap.size V w' := by
  obtain ⟨L, ord, RW, NM, C, m, cnt, p, cp, f, pm, cm, h1, rfl⟩ := h
  refine (names0_any h1.zon).mono ?_
  rintro r w' ⟨⟨v, rfl, ho⟩, hb⟩
  obtain ⟨nl, hnl⟩ := names_first h1.zon.laid.na h1.zon.ownIn h1.zon.rises h1.zon.rthApex
  obtain ⟨g, c, rfl, h3⟩ := own_someS ho (by rw [hnl]; simp)
  exact ⟨g, c, rfl, ⟨ho, h3⟩, hb⟩
theorem zb_rnames (h : ZB n N V apex Z zb T) : Calls Tryz.prog 20 #[.pointer (some ⟨zb, 0, none⟩)] V fun r w' => ∃ q c, r = .returned (.slice q (namL apex T).length c) ∧ StrsAt w' q (namL apex T) ∧ Below V.heap.size V w' := by
  obtain ⟨L, ord, RW, NM, C, m, cnt, p, cp, f, pm, cm, h1, rfl⟩ := h
  refine (rnames_any h1.yzz h1.zon.laid.na h1.zon.ownIn h1.zon.rises).mono ?_
  rintro r w' ⟨⟨v, rfl, ho⟩, hb⟩
  obtain ⟨q, c, rfl, _⟩ := own_shape ho
  exact ⟨q, c, rfl, strsAt_ownR ho, hb⟩
theorem rset_zero {M : List Rn} (ok : okL M) (o : ByteArray) : rset M o 0 = [] := by
  unfold rset
  rw [List.filter_eq_nil_iff]
  intro r hr
  have h := (ok_facts (ok r hr)).2.2.2.2.2.1
  unfold setP
  have : ¬ r.t = 0 := by omega
  simp [this]
theorem zb_set (h : ZB n N V apex Z zb T) (o : ByteArray) (t : Int) (ho : o.size ≤ 1048576) (hw : (Lit.int .i64 t).wf = true) : Calls Tryz.prog 21 #[.pointer (some ⟨Z, 0, none⟩), .string o, .int .i64 t] V fun r w' => ∃ q c, r = .returned (.slice q (rset T o t).length c) ∧ w'.ownsRow V.heap.size 54 5 (.slice q (rset T o t).length c) (rset T o t).length (rce5 (rset T o t)) ∧ Below V.heap.size V w' := by
  obtain ⟨L, ord, RW, NM, C, m, cnt, p, cp, f, pm, cm, h1, rfl⟩ := h
  by_cases ht : t = 0
  · subst ht
    rw [rset_zero h1.zon.laid.tok]
    refine (setZ_none Z o V).mono ?_
    rintro r w' ⟨rfl, rfl⟩
    exact ⟨none, 0, rfl, World.ownsRow_nil _ _ _ _, Below.refl _ _⟩
  · rw [← st_rset h1.zon.ownIn o ht]
    refine (setZ_any h1.zon o t ho ht hw).mono ?_
    rintro r w' ⟨⟨v, rfl, h2⟩, hb⟩
    obtain ⟨q, c, rfl, _⟩ := own_shape h2
    exact ⟨q, c, rfl, h2, hb⟩
theorem zb_rset (h : ZB n N V apex Z zb T) (o : ByteArray) (t : Int) (ho : o.size ≤ 1048576) : Calls Tryz.prog 22 #[.pointer (some ⟨zb, 0, none⟩), .string o, .int .i64 t] V fun r w' => ∃ q c, r = .returned (.slice q (rset T o t).length c) ∧ RsAt w' q (rset T o t) ∧ Below V.heap.size V w' := by
  obtain ⟨L, ord, RW, NM, C, m, cnt, p, cp, f, pm, cm, h1, rfl⟩ := h
  refine (rset_any h1.yzz o t ho).mono ?_
  rintro r w' ⟨⟨v, rfl, h2⟩, hb⟩
  obtain ⟨q, c, rfl, _⟩ := own_shape h2
  exact ⟨q, c, rfl, rsAt_ownZ h2 rfl, hb⟩
end
/-- a block of so many cells at least -/
def Cb (w : World) (g k : Nat) (T : TypeId) : Prop := ∃ cs : Array Value, Bx w g cs T ∧ k ≤ cs.size
theorem Cb.of_own {w : World} {b g c k : Nat} {xs : List Value} (h : w.ownsRow b 9 1 (.slice (some ⟨g, 0, none⟩) k c) k xs) : Cb w g k 9 ∧ b ≤ g := by
  obtain ⟨hl, (⟨h1, h0⟩ | ⟨g', cap', cur, h1, hb, hg, hn, hcm, hcs, htk⟩)⟩ := h
  · cases h1
  · injection h1 with h1 h2 h3
    injection h1 with h1
    injection h1 with h1
    subst h1
    exact ⟨⟨cur, hg, by have : cur.size = cap' * 1 := hcs; omega⟩, hb⟩
theorem Cb.put {w : World} {g k j : Nat} {T : TypeId} (h : Cb w g k T) (hj : j < k) (v : Value) : Cb (w.setCell ⟨g, j, none⟩ v) g k T := by
  obtain ⟨cs, h1, h2⟩ := h
  exact ⟨_, h1.set j v, by simpa using h2⟩
theorem Cb.cell {w : World} {g k j : Nat} {T : TypeId} (h : Cb w g k T) (hj : j < k) : ∃ v, w.cell? ⟨g, j, none⟩ = some v := by
  obtain ⟨cs, h1, h2⟩ := h
  exact ⟨cs[j]'(by omega), h1.cell (by rw [Array.getElem?_eq_getElem (by omega)])⟩
end Go.Proofs.YthabenjghhmicaaGreat

/-
  Proofs: ZoneSets. (The verifier's own text.)
-/
namespace Go.Proofs.YthabenjghhmicaaGreat
set_option linter.unusedVariables false
set_option linter.unusedSimpArgs false
open Go.RowKit Go.Shelf Go.Maps Go.Proofs.YthabenjghhmicaaGreat.Nm Go.Proofs.YthabenjghhmicaaGreat.Zs

theorem rs_anyZ {b b' c : World} {p : Option Addr} {l : List Rn} (h : RsAt b p l) (k : Below b'.heap.size b' c) (e : b' = b ∨ b' = b.drew) : RsAt c p l := by
  rcases e with rfl | rfl
  · exact rs_stay h k
  · exact rs_stay (show RsAt b.drew p l from h) k
set_option maxRecDepth 100000 in
set_option maxHeartbeats 8000000 in
/-- ZoneSets -/
theorem zoneSets_any (apex : ByteArray) (L : List Rn) (p : Option Addr) (cap : Nat) (Q : List Qn) (pq : Option Addr) (cq : Nat) (w : World) (hap : apex.size ≤ 1048576) (hL : L.length ≤ 1048576) (hat : RsAt w p L) (hs : ∀ j, j < L.length → rSm (rAt L j)) (hcp : L.length ≤ cap) (hcm : cap ≤ maxLen) (hpn : p = none → cap = 0) (hqat : QsAt w pq Q) (hql : Q.length ≤ 1048576) (hqs : ∀ q ∈ Q, q.n.size ≤ 1048576) (hqw : ∀ q ∈ Q, (Lit.int .i64 q.t).wf = true) :
    Calls Tryz.prog 4 #[.string apex, .slice p L.length cap, .slice pq Q.length cq] w fun r w' => r = .returned (.bool true) ∧ Below w.heap.size w w' := by
  have HNw := hide' (new_any apex L p cap w hL hat hs hap)
  have HMk : Hid (∀ V : World, Below w.heap.size w V → Calls Tryz.prog 11 #[.string apex, .slice p L.length cap] V (MkE apex L V)) := fun V hV => by
    by_cases hN : isN apex = true
    · by_cases h2 : 2000 < L.length
      · exact make_arg apex L p cap V hL hap (Or.inr h2)
      · exact make_in apex L p cap V (by omega) (rs_stay hat hV) hs hap hN hcp hcm hpn
    · exact make_arg apex L p cap V hL hap (Or.inl (by simpa using hN))
  clear hs hcp hcm hpn hat
  by_cases hz : (mkC apex L).2 ≠ 0
  · obtain ⟨a, c0, hac⟩ : ∃ a c, mkC apex L = (a, c) := ⟨_, _, rfl⟩
    have HN2 : Hid (∀ (V : World) (r : Ending) (w' : World), NwE apex L V r w' → r = .returned (.tuple #[.pointer none, .int .i64 a, .int .i64 c0]) ∧ Below V.heap.size V w') := fun V r w' h => by
      have := h.no hz
      rw [hac] at this
      exact ⟨this, h.bl⟩
    have HM2 : Hid (∀ (V : World) (r : Ending) (w' : World), MkE apex L V r w' → r = .returned (.tuple #[.pointer none, .int .i64 a, .int .i64 c0]) ∧ Below V.heap.size V w') := fun V r w' h => by
      have := h.no hz
      rw [hac] at this
      exact ⟨this, h.bl⟩
    clear hz hac
    go_enter Tryz.func4, Tryz.ntmps4
    go_wp2_with (first
      | (go_at_call 10; refine HNw.out.mono ?_; intro e w2 hnw; obtain ⟨rfl, hB2⟩ := HN2.out _ _ _ hnw; have HB2 := hide' hB2; clear hnw hB2)
      | (go_at_call 11; refine (HMk.out _ HB2.out).mono ?_; intro e w3 hmk; obtain ⟨rfl, hB3⟩ := HM2.out _ _ _ hmk; have HB3 := hide' (bstep HB2.out hB3 HB2.out.size); clear hmk hB3))
    go_ret
    exact ⟨rfl, HB3.out⟩
  · have hz0 : (mkC apex L).2 = 0 := by simpa using hz
    have HN2 : Hid (∀ (V : World) (r : Ending) (w' : World), NwE apex L V r w' → ∃ ord Z RW NM C m cnt p cp f, r = .returned (.tuple #[.pointer (some ⟨Z, 0, none⟩), .int .i64 0, .int .i64 0]) ∧ Zon V.heap.size w' apex L ord Z RW NM C m cnt p cp f ∧ Below V.heap.size V w') := fun V r w' h => by
      obtain ⟨ord, Z, RW, NM, C, m, cnt, p, cp, f, h1, h2⟩ := h.yes hz0
      exact ⟨ord, Z, RW, NM, C, m, cnt, p, cp, f, h1, h2, h.bl⟩
    have HM2 : Hid (∀ (V : World) (r : Ending) (w' : World), MkE apex L V r w' → ∃ zb pm cm M, r = .returned (.tuple #[.pointer (some ⟨zb, 0, none⟩), .int .i64 0, .int .i64 0]) ∧ Mkd V w' apex L zb pm cm M ∧ Below V.heap.size V w') := fun V r w' h => by
      obtain ⟨zb, v, M, h1, h2, h3, h4, h5, h6⟩ := h.yes hz0
      obtain ⟨pm, cm, rfl, _, _, _⟩ := own_shape h4
      exact ⟨zb, pm, cm, M, h1, ⟨h2, h3, h4, h5, h6⟩, h.bl⟩
    clear hz hz0
    have HQA := hide' hqat
    have HQS := hide' hqs
    have HQW := hide' hqw
    clear hqat hqs hqw
    go_enter Tryz.func4, Tryz.ntmps4
    go_upto_region 7 with (first
      | (go_at_call 10; refine HNw.out.mono ?_; intro e w2 hnw; obtain ⟨ord, Z, RW, NM, C, m, cnt, pz, cz, f, rfl, hzo, hB2⟩ := HN2.out _ _ _ hnw; have HZ2 := hide' hzo; have HB2 := hide' hB2; clear hnw hB2 hzo)
      | (go_at_call 11; refine (HMk.out _ HB2.out).mono ?_; intro e w3 hmk; obtain ⟨zb, pm, cm, M, rfl, hmd, hB3⟩ := HM2.out _ _ _ hmk; have HZ3 := hide' (zm_of HZ2.out hmd HB2.out.size hB3); have HB3 := hide' (bstep HB2.out hB3 HB2.out.size); clear hmk hB3 hmd))
    obtain ⟨T, hT⟩ : ∃ T, ord.map (rAt L) = T := ⟨_, rfl⟩
    have HZ : Hid (ZB w.heap.size w3.heap.size w3 apex Z zb T) := ⟨L, ord, RW, NM, C, m, cnt, pz, cz, f, pm, cm, HZ3.out, hT⟩
    clear hT HZ3 HZ2 HN2 HM2 HNw HMk
    have HNa := hide' (fun V (h : ZB w.heap.size w3.heap.size V apex Z zb T) => zb_names h)
    have HRn := hide' (fun V (h : ZB w.heap.size w3.heap.size V apex Z zb T) => zb_rnames h)
    have HSe := hide' (fun V (o : ByteArray) (t : Int) (h : ZB w.heap.size w3.heap.size V apex Z zb T) (h1 : o.size ≤ 1048576) (h2 : (Lit.int .i64 t).wf = true) => zb_set h o t h1 h2)
    have HRs := hide' (fun V (o : ByteArray) (t : Int) (h : ZB w.heap.size w3.heap.size V apex Z zb T) (h1 : o.size ≤ 1048576) => zb_rset h o t h1)
    have HSt := hide' (fun V p1 p2 c1 c2 (h1 : StrsAt V p1 (namL apex T)) (h2 : StrsAt V p2 (namL apex T)) (h3 : (namL apex T).length ≤ 9223372036854775807) => sTexts_same p1 p2 c1 c2 (namL apex T) V h1 h2 h3)
    have hfew := HZ.out.few
    have HRl : Hid (∀ (o : ByteArray) (t : Int), (rset T o t).length ≤ 2000) := fun o t => Nat.le_trans (by unfold rset; exact List.length_filter_le _ _) hfew
    obtain ⟨NL, hN⟩ : ∃ N, namL apex T = N := ⟨_, rfl⟩
    rw [hN] at HNa HRn HSt
    clear hN hfew
    rename_i KK hKK
    have HKK := hide' hKK
    clear hKK
    go_wp2_with (go_at_call 18; refine (HNa.out _ HZ.out).mono ?_; rintro e w4 ⟨g4, c4, rfl, ho4, hB4⟩; have HO4 := hide' ho4; have HZ4 := hide' (HZ.out.step hB4); have HB4 := hide' (bstep HB3.out hB4 HB3.out.size); have HG4 := hide' (own_ge ho4.1 (g := g4) rfl); clear ho4 hB4)
    refine HKK.out _ _ ?_
    clear HKK
    go_wp2_with (first
      | (go_at_call 20; refine (HRn.out _ HZ4.out).mono ?_; rintro e w5 ⟨p5, c5, rfl, hs5, hB5⟩; have HS5 := hide' hs5; have HO5 := hide' (own_below HO4.out.1 hB5); have HZ5 := hide' (HZ4.out.step hB5); have HB5 := hide' (bstep HB4.out hB5 HB4.out.size); clear hs5 hB5)
      | (go_at_call 19; refine (HSt.out _ _ _ _ _ (strsAt_ownR HO5.out) HS5.out HO4.out.2).mono ?_; rintro e w6 ⟨rfl, hB6⟩; have HC6 := hide' (Cb.of_own (own_below HO5.out hB6)); have HZ6 := hide' (HZ5.out.step hB6); have HB6 := hide' (bstep HB5.out hB6 HB5.out.size); clear hB6))
    have hNl := HO4.out.2
    have hg3 : Hid (w3.heap.size ≤ g4) := HG4.out
    clear HO4 HS5 HO5 HZ4 HZ5 HB4 HB5 HG4 HZ
    go_loopw [53] (fun kv wv => ∃ k : Nat, kv = .int .i64 (k : Int) ∧ k ≤ NL.length ∧ Hid (Cb wv g4 NL.length 9) ∧ Hid (ZB w.heap.size w3.heap.size wv apex Z zb T) ∧ Hid (Below w.heap.size w wv)) (fun kv _ => NL.length - (intOf kv).toNat)
    case atStart => exact ⟨0, rfl, Nat.zero_le _, HC6.out.1, HZ6, HB6⟩
    case round =>
      clear HC6 HZ6 HB6
      obtain ⟨k, rfl, hk, HC, HZv, HBv⟩ := hrel
      by_cases hlt : k < NL.length
      · have pk : (k : Int) < (NL.length : Int) := by omega
        obtain ⟨v, hv⟩ := HC.out.cell hlt
        obtain ⟨cs, hbx, -⟩ := HC.out
        have f0 := hbx.free k
        have HP : Hid (∀ u : Value, Cb (wr.setCell ⟨g4, k, none⟩ u) g4 NL.length 9 ∧ ZB w.heap.size w3.heap.size (wr.setCell ⟨g4, k, none⟩ u) apex Z zb T ∧ Below w.heap.size w (wr.setCell ⟨g4, k, none⟩ u)) := fun u => by
          have hgr := grown_set wr g4 k u
          have hb3 := HB3.out.size
          exact ⟨HC.out.put hlt u, HZv.out.keep hgr (fun q e => by injection e with e; have := hg3.out; omega), HBv.out.grown hgr HBv.out.size (fun q e => by injection e with e; have := hg3.out; omega)⟩
        clear hbx
        go_wp2_with fail
        have hP := HP.out (.string ⟨#[109, 97, 114, 107]⟩)
        exact ⟨⟨k + 1, by go_num, by omega, hP.1, hP.2.1, hP.2.2⟩, by simp [intOf]; omega⟩
      · have HZ7 := HZv
        have HB7 := HBv
        clear HZv HBv HC
        obtain ⟨w7, rfl⟩ : ∃ q, q = wr := ⟨_, rfl⟩
        go_wp2_with fail
        go_loopw [62] (fun kv wv => ∃ k : Nat, kv = .int .i64 (k : Int) ∧ k ≤ Q.length ∧ Hid (ZB w.heap.size w3.heap.size wv apex Z zb T) ∧ Hid (Below w.heap.size w wv)) (fun kv _ => Q.length - (intOf kv).toNat)
        case atStart => exact ⟨0, rfl, Nat.zero_le _, HZ7, HB7⟩
        case round =>
          clear HZ7 HB7
          obtain ⟨k, rfl, hk, HZv, HBv⟩ := hrel
          by_cases hlt : k < Q.length
          · obtain ⟨g, off, hpq, hg, y0, y1, y2⟩ := (qs_stayZ HQA.out HBv.out) k hlt
            subst hpq
            have hqz := HQS.out _ (List.getElem_mem hlt)
            have hqw := HQW.out _ (List.getElem_mem hlt)
            obtain ⟨x, hx⟩ : ∃ x, Q[k] = x := ⟨_, rfl⟩
            rw [hx] at y0 y1 y2 hqz hqw
            clear hx
            obtain ⟨qn, qt, qc⟩ := x
            simp only at y0 y1 y2 hqz hqw
            have pk : (k : Int) < (Q.length : Int) := by omega
            have HS1 := hide' (fun V h => HSe.out V qn qt h hqz hqw)
            have HR1 := hide' (fun V h => HRs.out V qn qt h hqz)
            have hrl := HRl.out qn qt
            obtain ⟨R, hR⟩ : ∃ R, rset T qn qt = R := ⟨_, rfl⟩
            rw [hR] at HS1 HR1 hrl
            clear hR hqw hqz
            have HSr : Hid (∀ V p1 p2 c1 c2, RsAt V p1 R → RsAt V p2 R → Calls Tryz.prog 16 #[.slice p1 R.length c1, .slice p2 R.length c2] V fun r w' => r = .returned (.bool true) ∧ Below V.heap.size V w') := fun V p1 p2 c1 c2 h1 h2 => by
              refine (sameRecords2 p1 p2 _ c1 c2 R V h1 h2 rfl (by omega)).mono ?_
              rintro r w' ⟨rfl, m, rfl⟩
              exact ⟨rfl, below_quietZ m⟩
            obtain ⟨wq, hwq⟩ : ∃ wq, wr.alloc (.cells #[.string qn, .int .i64 qt, .int .i64 qc] 32) = wq := ⟨_, rfl⟩
            have hxq : Bx wq wr.heap.size #[.string qn, .int .i64 qt, .int .i64 qc] 32 := hwq ▸ World.alloc_heap_new wr _
            have hbq : Below wr.heap.size wr wq := hwq ▸ (Below.refl _ wr).alloc (Nat.le_refl _) _
            have HZq := hide' (HZv.out.step hbq)
            have HBq := hide' (bstep HBv.out hbq HBv.out.size)
            have HXq := hide' hxq
            obtain ⟨q0, q1, q2, _⟩ := bx3 hxq
            clear hbq hxq
            go_wp2_with (first
              | (go_at_call 21; refine (HS1.out _ HZq.out).mono ?_; rintro e w8 ⟨p8, c8, rfl, ho8, hB8⟩; have HO8 := hide' ho8; have HX8 := hide' (HXq.out.below hB8 HXq.out.lt); have HZ8 := hide' (HZq.out.step hB8); have HB8 := hide' (bstep HBq.out hB8 HBq.out.size); obtain ⟨q0, q1, q2, _⟩ := bx3 HX8.out; clear ho8 hB8)
              | (go_at_call 22; refine (HR1.out _ HZ8.out).mono ?_; rintro e w9 ⟨p9, c9, rfl, hr9, hB9⟩; have HR9 := hide' hr9; have HO9 := hide' (own_below HO8.out hB9); have HX9 := hide' (HX8.out.below hB9 HX8.out.lt); have HZ9 := hide' (HZ8.out.step hB9); have HB9 := hide' (bstep HB8.out hB9 HB8.out.size); clear hr9 hB9)
              | (go_at_call 16; refine (HSr.out _ _ _ _ _ (rsAt_ownZ HO9.out rfl) HR9.out).mono ?_; rintro e wA ⟨rfl, hBA⟩; have HOA := hide' (own_below HO9.out hBA); have HXA := hide' (HX9.out.below hBA HX9.out.lt); have HZA := hide' (HZ9.out.step hBA); have HBA := hide' (bstep HB9.out hBA HB9.out.size); have HMA := hide' (mark_own2 HOA.out rfl (by omega)); clear hBA)
              | (go_at_call 15; refine HMA.out.mono ?_; rintro e wM ⟨rfl, hGM⟩; have HXM : Hid (Bx wM wr.heap.size #[.string qn, .int .i64 qt, .int .i64 qc] 32) := HXA.out.grown hGM (fun e => by have := own_ge HOA.out e; have := HXq.out.lt; omega); have HZM := hide' (HZA.out.keep hGM (fun q e => by have := own_ge HOA.out e; have := HZq.out.sz; omega)); have HBM := hide' (HBA.out.grown hGM HBA.out.size (fun q e => by have := own_ge HOA.out e; have := HBq.out.size; omega)); obtain ⟨q0, q1, q2, _⟩ := bx3 HXM.out; clear hGM))
            clear HXA HZA HBA HOA HMA HX8 HX9 HZ8 HZ9 HB8 HB9 HO8 HO9 HR9
            have HQ : Hid (∀ V, Below wM.heap.size wM V → V.cell? ⟨wr.heap.size, 0, none⟩ = some (.string qn) ∧ V.cell? ⟨wr.heap.size, 1, none⟩ = some (.int .i64 qt)) := fun V hV => by
              obtain ⟨b0, b1, _⟩ := bx3 (HXM.out.below hV HXM.out.lt)
              exact ⟨b0, b1⟩
            have HZK : Hid (∀ V, Below wM.heap.size wM V → ZB w.heap.size w3.heap.size V apex Z zb T ∧ Below w.heap.size w V) := fun V hV => ⟨HZM.out.step hV, bstep HBM.out hV HBM.out.size⟩
            obtain ⟨k0, k1⟩ := HQ.out _ (Below.refl wM.heap.size wM)
            have hB := (Below.refl wM.heap.size wM).drew
            go_region_held3 (fun V => V.cell? ⟨wr.heap.size, 0, none⟩ = some (.string qn) ∧ V.cell? ⟨wr.heap.size, 1, none⟩ = some (.int .i64 qt)) (first | go_keep | (with_reducible exact HQ.out _ hB) | (with_reducible exact HQ.out _ hB.drew) | (obtain ⟨h0, h1⟩ := HQ.out _ hB; first | exact ⟨h0, h1⟩ | assumption) | (obtain ⟨h0, h1⟩ := HQ.out _ hB.drew; first | exact ⟨h0, h1⟩ | assumption))
              (first
                | (go_at_call 21; refine (HS1.out _ (HZK.out _ (by first | exact hB | exact hB.drew)).1).mono ?_; rintro e wB ⟨pB, cB, rfl, hoB, hB5⟩; have hB := below_any hB hB5 (by first | exact .inl rfl | exact .inr rfl) hB.size; have HRB := hide' (rsAt_ownZ hoB rfl); clear hB5 hoB)
                | (go_at_call 22; refine (HR1.out _ (HZK.out _ (by first | exact hB | exact hB.drew)).1).mono ?_; rintro e wC ⟨pC, cC, rfl, hrC, hB5⟩; have HQC := hide' (rs_anyZ HRB.out hB5 (by first | exact .inl rfl | exact .inr rfl)); have hB := below_any hB hB5 (by first | exact .inl rfl | exact .inr rfl) hB.size; have HRC := hide' hrC; clear hB5 hrC)
                | (go_at_call 16; refine (HSr.out _ _ _ _ _ HQC.out HRC.out).mono ?_; rintro e wD ⟨rfl, hB5⟩; have hB := below_any hB hB5 (by first | exact .inl rfl | exact .inr rfl) hB.size; clear hB5))
            have HKe := hide' (HZK.out _ hB)
            go_wp2_with fail
            exact ⟨⟨k + 1, by go_num, by omega, HKe.out.1, HKe.out.2⟩, by simp [intOf] <;> omega⟩
          · go_wp2_with (first
              | (go_at_call 18; refine (HNa.out _ HZv.out).mono ?_; rintro e wE ⟨gE, cE, rfl, hoE, hBE⟩; have HOE := hide' hoE; have HZE := hide' (HZv.out.step hBE); have HBE := hide' (bstep HBv.out hBE HBv.out.size); clear hoE hBE)
              | (go_at_call 20; refine (HRn.out _ HZE.out).mono ?_; rintro e wF ⟨pF, cF, rfl, hsF, hBF⟩; have HSF := hide' hsF; have HOF := hide' (own_below HOE.out.1 hBF); have HBF := hide' (bstep HBE.out hBF HBE.out.size); clear hsF hBF)
              | (go_at_call 19; refine (HSt.out _ _ _ _ _ (strsAt_ownR HOF.out) HSF.out HOE.out.2).mono ?_; rintro e wG ⟨rfl, hBG⟩; have HBG := hide' (bstep HBF.out hBG HBF.out.size); clear hBG))
            go_ret
            exact ⟨rfl, HBG.out⟩
end Go.Proofs.YthabenjghhmicaaGreat

/-
  Questions that come in: their types are numbers of 64 bits. (The verifier's own text.)
-/
namespace Go.Proofs.YthabenjghhmicaaGreat.Frj
set_option linter.unusedVariables false
set_option linter.unusedSimpArgs false
open Go.RowKit Go.Shelf Go.Maps Go.Proofs.YthabenjghhmicaaGreat.Nm
open Go.ChangeShapes Go.WideShapes Go.Deep

section
variable {H : Type} {enc : TypeId × Value → H} {w : World} {base : Nat} {spare : Nat → Bool} {held : Bool}
set_option maxRecDepth 100000 in
theorem qs_wfJ {fuel : Nat} {a : Option Addr} {cap : Nat} {L : List Qn} {x : DataW H × List MemPlace} (h : DataW.trod enc Tryz.prog w base spare held fuel 23 [.slice a L.length cap] = some x) (hq : QsAt w a L) : ∀ q ∈ L, (Lit.int .i64 q.t).wf = true := by
  obtain ⟨fs, hs, hone, hC, h3, hty⟩ := struct_of oneQ
  obtain ⟨a', len, cap', D, he, hn, hlb, hsum, hel⟩ := rows_openS Tryz.underlying23 hs hone hC (by omega) h
  injection he with e1 e2 e3
  subst e1 e2 e3
  intro q hm
  obtain ⟨i, hi, rfl⟩ := List.getElem_of_mem hm
  obtain ⟨b, o, n, xs, ha, hb, hDi, hxs, hf⟩ := hel i hi
  rw [h3] at hf hxs
  obtain ⟨f1, g1, t1⟩ := hty 1 (by omega)
  obtain ⟨V1, y1, c1, r1, k1⟩ := hf 1 f1 g1
  rw [← Option.some.inj t1] at r1
  obtain ⟨n1, e1, hy1, hw⟩ := DataW.trod_int Tryz.underlying3 r1
  obtain rfl : V1 = .int .i64 n1 := by simpa using e1
  obtain ⟨g, off, hp, _, _, q1, _⟩ := hq i hi
  rw [ha] at hp
  injection hp with hp
  injection hp with hp1 hp2
  subst hp1 hp2
  rw [c1] at q1
  injection q1 with q1
  injection q1 with _ q1
  rw [← q1]
  exact hw
end
end Go.Proofs.YthabenjghhmicaaGreat.Frj

namespace Go.Proofs.YthabenjghhmicaaGreat.zoneSetsP
set_option linter.unusedVariables false
open Go.ChangeShapes Go.WideShapes Go.ChangeAt Go.RowKit Go.Deep
open Go.ChangeMaps (open_string shut_string)

theorem own : ownKnob Tryz.prog.godebug = none := by kernel_rfl
theorem laidOut : laidOutB Tryz.prog = true := by kernel_rfl
set_option maxRecDepth 100000 in
theorem contract (H : Type) (enc : TypeId × Value → H) (W : World) (base : Nat) (args : Array Value) (ds gs : List (DataW H)) (before : List MemPlace)
    (hval : ∀ (j : Nat) t v, Tryz.f4.params[j]? = some t → args[j]? = some v → Value.okWide Tryz.prog W .any base t v)
    (hW : DataW.Whole enc Tryz.prog Tryz.f4.params.toList Rows.zoneSetsSpec.vars false W args.toList ds gs before) (hk : Rows.uptoSmall H (ds ++ gs) = true) :
    Calls Tryz.prog 4 args W fun e W' => ∃ v, e = .returned v ∧ Rows.zoneSetsSpec.post enc Tryz.prog Tryz.f4 false true false false W args v W' := by
  have hW' := hW
  obtain ⟨p, q, hA0, hV, rfl, _, _⟩ := hW
  have hA : DataW.TrodAll enc Tryz.prog W 0 (fun _ => true) true Tryz.f4.params.toList args.toList ds p := hA0
  rw [Tryz.params4] at hA hval
  obtain ⟨v0, vs0, d0, ds0, p0, q0, hargs, rfl, rfl, h0, r0⟩ := trodAll_cons hA
  obtain ⟨v1, vs1, d1, ds1, p1, q1, rfl, rfl, rfl, h1, r1⟩ := trodAll_cons r0
  obtain ⟨v2, vs2, d2, ds2, p2, q2, rfl, rfl, rfl, h2, r2⟩ := trodAll_cons r1
  obtain ⟨rfl, rfl, rfl⟩ := trodAll_nil r2
  obtain rfl : args = #[v0, v1, v2] := by cases args; simp_all
  obtain ⟨rfl, rfl⟩ := trodVars_none hV
  obtain ⟨s0, rfl, rfl, rfl, m0⟩ := open_string Tryz.underlying9 (hval 0 9 v0 rfl rfl) h0
  have k1 := h1
  have lt1 : ∀ x ∈ p1, x.block < W.heap.size := by obtain ⟨m, hm⟩ := k1; exact DataW.trod_lt m _ _ _ hm
  obtain ⟨pa1, ca1, L1, rfl, hno1, hat1, hz1, hlb1, hoz1, hca1, hcm1⟩ : ∃ (a : Option Addr) (cap : Nat) (L : List Rn), v1 = .slice a L.length cap ∧ (a = none → cap = 0) ∧ RsAt W a L ∧ (∀ q ∈ L, q.o.size ≤ maxLen ∧ q.d.size ≤ maxLen) ∧ L.length ≤ Rows.uptoBulk d1 ∧ (∀ q ∈ L, q.o.size + q.d.size ≤ Rows.uptoBulk d1) ∧ L.length ≤ cap ∧ cap ≤ maxLen := by
    obtain ⟨fuel, hf⟩ := h1
    obtain ⟨z5, len5, cap5, hv5⟩ := okWide_slice Tryz.underlying22 (hval 1 22 v1 rfl rfl)
    have hc : v1.cells.toList = [v1] := by rw [hv5]; rfl
    rw [hc] at hf
    obtain ⟨a, cap, L, h1, h2, h3, h4, h5, h6⟩ := Frj.rs_openJ hf
    refine ⟨a, cap, L, h1, h2, h3, h4, h5, h6, ?_⟩
    rcases open_slice Tryz.underlying22 hf with ⟨g1, _⟩ | ⟨a', len', cap', m', n', D', Pl', g1, _, hl, hm, _⟩
    · rw [h1] at g1
      injection g1 with g1 _
      injection g1 with g1 g2 g3
      exact ⟨by omega, by unfold maxLen; omega⟩
    · rw [h1] at g1
      injection g1 with g1 _
      injection g1 with g1 g2 g3
      subst g3
      exact ⟨by omega, hm⟩
  have k2 := h2
  have lt2 : ∀ x ∈ p2, x.block < W.heap.size := by obtain ⟨m, hm⟩ := k2; exact DataW.trod_lt m _ _ _ hm
  obtain ⟨pq2, cq2, Q2, rfl, hnq2, hqt2, hqm2, hqb2, hqz2⟩ : ∃ (a : Option Addr) (cap : Nat) (L : List Qn), v2 = .slice a L.length cap ∧ (a = none → cap = 0) ∧ QsAt W a L ∧ (∀ q ∈ L, q.n.size ≤ maxLen) ∧ L.length ≤ Rows.uptoBulk d2 ∧ ∀ q ∈ L, q.n.size ≤ Rows.uptoBulk d2 := by
    obtain ⟨fuel, hf⟩ := h2
    obtain ⟨z5, len5, cap5, hv5⟩ := okWide_slice Tryz.underlying23 (hval 2 23 v2 rfl rfl)
    have hc : v2.cells.toList = [v2] := by rw [hv5]; rfl
    rw [hc] at hf
    exact Frj.qs_openJ hf
  have hqw2 : ∀ q ∈ Q2, (Lit.int .i64 q.t).wf = true := by
    obtain ⟨fuel, hf⟩ := k2
    have hc : (Value.slice pq2 Q2.length cq2).cells.toList = [.slice pq2 Q2.length cq2] := rfl
    rw [hc] at hf
    exact Frj.qs_wfJ hf hqt2
  clear hA0
  have hb : Rows.uptoBulkAll [DataW.lit (H := H) (.string s0.data.toList), d1, d2] ≤ 1048576 := by
    have : Rows.uptoBulkAll ([DataW.lit (H := H) (.string s0.data.toList), d1, d2] ++ []) ≤ 1048576 := of_decide_eq_true hk
    rwa [List.append_nil] at this
  have e0 : s0.data.toList.length = s0.size := by rw [Array.length_toList]; rfl
  have f0 : Rows.uptoBulk (DataW.lit (H := H) (.string s0.data.toList)) = s0.data.toList.length + 1 := rfl
  simp only [Rows.uptoBulkAll] at hb
  rw [f0, e0] at hb
  clear e0 f0
  refine (zoneSets_any s0 L1 pa1 ca1 Q2 pq2 cq2 W (by omega) (by omega) hat1 (fun k hk => by have := hoz1 _ (rAt_mem hk); exact ⟨by omega, by omega⟩) hca1 hcm1 hno1 hqt2 (by omega) (fun r hr => by have := hqz2 r hr; omega) hqw2).mono fun e W' ⟨he, bel⟩ => ?_
  subst he
  exact ⟨_, rfl, _, _, _, [], _, [], hW', trodAll_mk1 (shut_bool Tryz.underlying4 _), (trodAll_cons_mk (shut_string Tryz.underlying9 m0) (trodAll_cons_mk (Below.trod laidOut (by kernel_rfl) (of_decide_eq_true (by kernel_rfl)) k1 bel lt1) (trodAll_cons_mk (Below.trod laidOut (by kernel_rfl) (of_decide_eq_true (by kernel_rfl)) k2 bel lt2) trodAll_mk0))), rfl, bel.frame _, fun h => by cases h⟩

set_option maxRecDepth 100000 in
theorem lifted (os : Os) (started : os.Started) (H : Type) (enc : TypeId × Value → H) (F : Stop.Interp) :
    ReturnsInHanded {} Tryz.checked os 4 .any ((Rows.OpenSpec.upto Rows.zoneSetsSpec).pre6 enc Tryz.prog Tryz.f4 Rows.zoneSetsUptoRow.domain false) (((Rows.OpenSpec.upto Rows.zoneSetsSpec).at F).post enc Tryz.prog Tryz.f4 false true false false) := by
  refine returnsInHanded_of_cond (C := Tryz.checked) (s := Rows.OpenSpec.upto Rows.zoneSetsSpec) (k := Rows.uptoSmall) rfl own started (by kernel_rfl) Tryz.func4
    (OpenSpec.witness (enc := enc) (C := Tryz.checked) (s := Rows.OpenSpec.upto Rows.zoneSetsSpec) (k := Rows.uptoSmall) rfl false ⟨#[], #[.string .empty, .slice none 0 0, .slice none 0 0], []⟩ 8 (by kernel_rfl) (by kernel_rfl) (by kernel_rfl)
      (x := ([.lit (.string []), .nil, .nil], [], [])) (by kernel_rfl) rfl (by kernel_rfl)) ?_
  intro W base args ds gs before hval hW _ hk _
  exact contract H enc W base args ds gs before hval hW hk

theorem proved : Rows.ZoneSetsUptoSaid :=
  OpenClaim.holds_of_cond 4 Tryz.f4 rfl rfl rfl rfl rfl rfl rfl ⟨rfl, rfl, rfl, rfl, rfl⟩ rfl rfl rfl rfl rfl (by kernel_rfl) Tryz.func4 (by kernel_rfl)
    (of_decide_eq_true (by kernel_rfl)) (by unfold Func.isWrapper; first | (rw [if_pos (by decide +kernel)]; kernel_rfl) | (rw [if_neg (by decide +kernel)]; exact ⟨rfl, rfl⟩))
    (fun os started H enc _ F => lifted os started H enc F)
end Go.Proofs.YthabenjghhmicaaGreat.zoneSetsP
namespace Go.Proofs.YthabenjghhmicaaGreat
theorem zoneSets_upto : Rows.ZoneSetsUptoSaid := zoneSetsP.proved
end Go.Proofs.YthabenjghhmicaaGreat
