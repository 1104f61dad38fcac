import Derived.Test.YthabenjghhmicaaGreatZk5G
import Derived.Test.YthabenjghhmicaaGreatZj1G
import Derived.Test.YthabenjghhmicaaGreatVs1G
import Derived.Test.YthabenjghhmicaaGreatZi2
import Derived.RangeFuncBox
import Derived.Test.YthabenjghhmicaaGreatRows
import Derived.ChangeSlices
import Derived.Test.YthabenjghhmicaaGreatFr0G
import Derived.ProofKit
import Derived.OpenShut
import Derived.JoinedCond
import Derived.ShutString
import Derived.ChangeOld
import Derived.Carry
/-
  A zone told by its records in their own order: what it says. (The verifier's own text.)
-/
namespace Go.Proofs.YthabenjghhmicaaGreat
set_option linter.unusedVariables false
set_option linter.unusedSimpArgs false
open Go.RowKit Go.Shelf Go.Maps Go.Proofs.YthabenjghhmicaaGreat.Nm Go.Proofs.YthabenjghhmicaaGreat.Zs

/-- a zone in memory, told by its records in order -/
def ZT (V : World) (apex : ByteArray) (Z : Nat) (T : List Rn) : Prop := ∃ n L ord RW NM C m cnt p cp f, Zon n V apex L ord Z RW NM C m cnt p cp f ∧ ord.map (rAt L) = T
theorem ZT.step {V V' : World} {apex : ByteArray} {Z : Nat} {T : List Rn} (h : ZT V apex Z T) (hb : Below V.heap.size V V') : ZT V' apex Z T := by
  obtain ⟨n, L, ord, RW, NM, C, m, cnt, p, cp, f, h1, h2⟩ := h
  exact ⟨n, L, ord, RW, NM, C, m, cnt, p, cp, f, h1.step hb, h2⟩
theorem ZT.len {V : World} {apex : ByteArray} {Z : Nat} {T : List Rn} (h : ZT V apex Z T) : T.length ≤ 2000 := by
  obtain ⟨n, L, ord, RW, NM, C, m, cnt, p, cp, f, h1, rfl⟩ := h
  have := h1.laid.tlen
  have := h1.few
  omega
theorem zt_records {V : World} {apex : ByteArray} {Z : Nat} {T : List Rn} (h : ZT V apex Z T) : Calls Tryz.prog 17 #[.pointer (some ⟨Z, 0, none⟩)] V fun r w' => ∃ q c, r = .returned (.slice q T.length c) ∧ RsAt w' q T ∧ Below V.heap.size V w' := by
  obtain ⟨n, L, ord, RW, NM, C, m, cnt, p, cp, f, h1, rfl⟩ := h
  refine (zRecords_any h1).mono ?_
  rintro r w' ⟨⟨v, rfl, ho⟩, hb⟩
  obtain ⟨q, c, rfl, _⟩ := own_shape ho
  exact ⟨q, c, by rw [h1.laid.tlen], rsAt_ownZ ho h1.laid.tlen.symm, hb⟩
theorem zt_find {V : World} {apex : ByteArray} {Z : Nat} {T : List Rn} (h : ZT V apex Z T) (q : ByteArray) (t : Int) (hq : q.size ≤ 1048576) : Calls Tryz.prog 12 #[.pointer (some ⟨Z, 0, none⟩), .string q, .int .i64 t] V fun r w' => ∃ p c, r = .returned (.agg #[.int .i64 (findB apex T q t).k, .string (findB apex T q t).o, .string (findB apex T q t).e, .bool (findB apex T q t).w, .slice p (findB apex T q t).r.length c]) ∧ RsAt w' p (findB apex T q t).r ∧ Below V.heap.size V w' := by
  obtain ⟨n, L, ord, RW, NM, C, m, cnt, p, cp, f, h1, rfl⟩ := h
  refine (find_any h1 q t hq).mono ?_
  rintro r w' ⟨⟨v, rfl, ho⟩, hb⟩
  obtain ⟨q', c, rfl, _⟩ := own_shape ho
  exact ⟨q', c, rfl, rsAt_ownZ ho rfl, hb⟩
theorem zt_names {V : World} {apex : ByteArray} {Z : Nat} {T : List Rn} (h : ZT V apex Z T) : Calls Tryz.prog 18 #[.pointer (some ⟨Z, 0, none⟩)] V fun r w' => ∃ q c, r = .returned (.slice q (namL apex T).length c) ∧ (StrsAt w' q (namL apex T) ∧ (namL apex T).length ≤ 9223372036854775807) ∧ Below V.heap.size V w' := by
  obtain ⟨n, L, ord, RW, NM, C, m, cnt, p, cp, f, h1, rfl⟩ := h
  refine (names0_any h1).mono ?_
  rintro r w' ⟨⟨v, rfl, ho⟩, hb⟩
  obtain ⟨q, c, rfl, h2, h3, _⟩ := own_shape ho
  exact ⟨q, c, rfl, ⟨strsAt_ownR ho, by unfold maxLen at h3; omega⟩, hb⟩
theorem zt_lint {V : World} {apex : ByteArray} {Z : Nat} {T : List Rn} (h : ZT V apex Z T) : Calls Tryz.prog 23 #[.pointer (some ⟨Z, 0, none⟩)] V fun r w' => ∃ q c, r = .returned (.slice q (lintB apex T).length c) ∧ Below V.heap.size V w' := by
  obtain ⟨n, L, ord, RW, NM, C, m, cnt, p, cp, f, h1, rfl⟩ := h
  refine (lint_any h1).mono ?_
  rintro r w' ⟨ov, rfl, hg⟩
  obtain ⟨q, c, rfl, _⟩ := own_shape hg.own
  exact ⟨q, c, rfl, hg.bl⟩
/-- a row of one's own, or none -/
def Lr (n : Nat) (wv : World) (p : Option Addr) (M : List Rn) (rest : List Value) : Prop := M = [] ∨ ∃ g, p = some ⟨g, 0, none⟩ ∧ n ≤ g ∧ Rb wv g M rest
theorem Lr.rs {n : Nat} {wv : World} {p : Option Addr} {M : List Rn} {rest : List Value} (h : Lr n wv p M rest) : RsAt wv p M := by
  rcases h with rfl | ⟨g, rfl, _, h⟩
  · intro j hj; cases hj
  · exact rb_rs h
theorem Lr.step {n : Nat} {wv w2 : World} {p : Option Addr} {M : List Rn} {rest : List Value} (h : Lr n wv p M rest) (hb : Below wv.heap.size wv w2) : Lr n w2 p M rest := by
  rcases h with rfl | ⟨g, rfl, h1, h⟩
  · exact .inl rfl
  · exact .inr ⟨g, rfl, h1, Bx.below h hb (Bx.lt h)⟩
theorem Lr.of_own {n nl : Nat} {wv : World} {p : Option Addr} {c : Nat} {M : List Rn} (h : wv.ownsRow n 54 5 (.slice p nl c) nl (rce5 M)) (hl : M.length = nl) : ∃ rest, Lr n wv p M rest := by
  rcases Nat.eq_zero_or_pos nl with h0 | h0
  · exact ⟨[], .inl (List.eq_nil_of_length_eq_zero (by omega))⟩
  · obtain ⟨g, cap, he⟩ := own_someZ h h0
    injection he with e1 e2 e3
    subst e1
    obtain ⟨rest, hr, hg⟩ := rb_ownM h
    exact ⟨rest, .inr ⟨g, rfl, hg, hr⟩⟩
theorem zat_below {w w' : World} {p : Option Addr} {L : List Int} (h : ZAt w w.heap.size p L) (hb : Below w.heap.size w w') : ∀ k (hk : k < L.length), ∃ g off, p = some ⟨g, off, none⟩ ∧ g < w.heap.size ∧ w'.cell? ⟨g, off + k, none⟩ = some (.int .i64 L[k]) := fun k hk => by
  obtain ⟨g, off, h1, h2, h3⟩ := h k hk
  exact ⟨g, off, h1, h2, by rw [hb.cell (p := ⟨g, off + k, none⟩) h2]; exact h3⟩
end Go.Proofs.YthabenjghhmicaaGreat

/-
  Proofs: ZoneTurned. (The verifier's own text.)
-/
namespace Go.Proofs.YthabenjghhmicaaGreat
set_option linter.unusedVariables false
set_option linter.unusedSimpArgs false
open Go.RowKit Go.Shelf Go.Maps Go.Proofs.YthabenjghhmicaaGreat.Nm Go.Proofs.YthabenjghhmicaaGreat.Zs

/-- the turned row so far -/
def Tu (w wv : World) (p : Option Addr) (M : List Rn) (rest : List Value) : Prop := Below w.heap.size w wv ∧ Lr w.heap.size wv p M rest
theorem Tu.drew {w wv : World} {p : Option Addr} {M : List Rn} {rest : List Value} (h : Tu w wv p M rest) : Tu w wv.drew p M rest := by
  refine ⟨h.1.drew, ?_⟩
  rcases h.2 with rfl | ⟨g, rfl, h1, h2⟩
  · exact .inl rfl
  · exact .inr ⟨g, rfl, h1, h2⟩
/-- where there is a row -/
def Tq (w wv : World) (g : Nat) (M : List Rn) (rest : List Value) : Prop := Below w.heap.size w wv ∧ Rb wv g M rest ∧ w.heap.size ≤ g
theorem Tq.putR {w wv : World} {g : Nat} {M : List Rn} {rest : List Value} (h : Tq w wv g M rest) {j : Nat} (hj : j < M.length) (r : Rn) : Tq w (setR wv g (j * 5) r) g (M.set j r) rest := by
  obtain ⟨h1, h2, h3⟩ := h
  exact ⟨h1.grown (grown_setCells g (ren5 r) (j * 5) wv) h1.size (fun q e => by injection e with e; omega), h2.put hj r, h3⟩
theorem Tq.tu {w wv : World} {g : Nat} {M : List Rn} {rest : List Value} (h : Tq w wv g M rest) : Tu w wv (some ⟨g, 0, none⟩) M rest := ⟨h.1, .inr ⟨g, rfl, h.2.2, h.2.1⟩⟩
theorem nwe_shape {apex : ByteArray} {L : List Rn} {w w' : World} {r : Ending} (h : NwE apex L w r w') : ∃ zv av ev, r = .returned (.tuple #[zv, .int .i64 av, .int .i64 ev]) := by
  by_cases hz : (mkC apex L).2 = 0
  · obtain ⟨ord, Z, RW, NM, C, m, cnt, p, cp, f, h1, h2⟩ := h.yes hz
    exact ⟨_, _, _, h1⟩
  · exact ⟨_, _, _, h.no hz⟩
theorem tup3 {a b c a' b' c' : Value} (h : Ending.returned (.tuple #[a, b, c]) = .returned (.tuple #[a', b', c'])) : a = a' ∧ b = b' ∧ c = c' := by
  injection h with h
  injection h with h
  have := congrArg Array.toList h
  simp at this
  exact this
set_option maxRecDepth 100000 in
set_option maxHeartbeats 8000000 in
/-- ZoneTurned -/
theorem zoneTurned_any (apex : ByteArray) (L : List Rn) (p : Option Addr) (cap : Nat) (xs : List Int) (px : Option Addr) (cx : Nat) (q : ByteArray) (t : Int) (w : World) (hap : apex.size ≤ 1048576) (hL : L.length ≤ 1048576) (hat : RsAt w p L) (hs : ∀ j, j < L.length → rSm (rAt L j)) (hca : L.length ≤ cap) (hcm : cap ≤ maxLen) (hno : p = none → cap = 0) (hzx : ZAt w w.heap.size px xs) (hxl : xs.length ≤ 1048576) (hq : q.size ≤ 1048576) :
    Calls Tryz.prog 8 #[.string apex, .slice p L.length cap, .slice px xs.length cx, .string q, .int .i64 t] w fun r w' => r = .returned (.bool true) ∧ Below w.heap.size w w' := by
  have HNw := hide' (new_any apex L p cap w hL hat hs hap)
  have HBg := hide' (fun V => begins_any V)
  have HNO := hide' hno
  have HAT := hide' hat
  have HSm := hide' hs
  have HZX := hide' hzx
  have HAp := hide' hap
  have HQs := hide' hq
  clear hat hs hno hzx hca hcm hap hq
  go_enter Tryz.func8, Tryz.ntmps8
  go_wp2_with (first
      | (go_at_call 10; refine HNw.out.mono ?_; intro e w2 hnw; obtain ⟨zv, av, ev, he⟩ := nwe_shape hnw; subst he; have HN2 := hide' hnw; clear hnw)
      | (go_at_call 25; refine (HBg.out _).mono ?_; rintro e w3 ⟨rfl, hB3⟩; have HB23 := hide' hB3; have HB3 := hide' (bstep HN2.out.bl hB3 HN2.out.bl.size); clear hB3)
      | (at_builtin; refine wpList_append_recsM rfl _ _ rfl w3.heap.size _ 0 [] rfl (World.ownsRow_nil _ _ _ _) p L cap rfl (rsAt_below7 HAT.out HB3.out) HNO.out (by omega) (Nat.le_refl _) ?_; intro v5 w5 hown5 hg5; have hB5 : Below w3.heap.size w3 w5 := (Below.refl _ _).grown hg5 (Nat.le_refl _) (fun k e => ownBlock_le (World.ownsRow_nil w3 w3.heap.size 54 5) e); rw [Nat.zero_add, List.nil_append] at hown5; obtain ⟨p5, c5, hv5, hc1, hc2, hc3⟩ := own_shape hown5; subst hv5; obtain ⟨rest, hlr⟩ := Lr.of_own hown5 rfl; have R0 : Hid (Tu w3 w5 p5 (tusL L (xs.take 0)) rest) := ⟨hB5, by rw [List.take_zero]; exact hlr⟩; clear hown5 hg5 hB5 hlr hc1 hc2 hc3))
  go_loopw [33] (fun kv wv => ∃ k : Nat, kv = .int .i64 (k : Int) ∧ k ≤ xs.length ∧ Hid (Tu w3 wv p5 (tusL L (xs.take k)) rest)) (fun kv _ => xs.length - (intOf kv).toNat)
  case atStart => exact ⟨0, rfl, Nat.zero_le _, R0⟩
  case round =>
    clear R0
    obtain ⟨k, rfl, hk1, RK⟩ := hrel
    by_cases hlt : k < xs.length
    · obtain ⟨gt, ot, hpt, hgt, hct⟩ := zat_below HZX.out (bstep HB3.out RK.out.1 HB3.out.size) k hlt
      subst hpt
      have HTK := hide' (tusL_take L xs k hlt)
      obtain ⟨x, hx⟩ : ∃ x, xs[k] = x := ⟨_, rfl⟩
      rw [hx] at hct HTK
      clear hx
      obtain ⟨M, hM⟩ : ∃ M, tusL L (xs.take k) = M := ⟨_, rfl⟩
      have hML : M.length = L.length := by rw [← hM]; exact tusL_len _ _
      rw [hM] at RK HTK
      have HML := hide' hML
      clear hM hML
      by_cases h1 : 1 ≤ x
      · obtain ⟨jn, rfl⟩ : ∃ jn : Nat, x = (jn : Int) := ⟨x.toNat, by omega⟩
        by_cases h2 : jn < L.length
        · have h2i : (jn : Int) < (L.length : Int) := by omega
          have hjm : jn < M.length := by rw [HML.out]; exact h2
          have h0m : 0 < M.length := by omega
          have h0i : (0 : Int) < (L.length : Int) := by omega
          obtain ⟨g, hp5, hge, hrb⟩ : ∃ g, p5 = some ⟨g, 0, none⟩ ∧ w3.heap.size ≤ g ∧ Rb wr g M rest := by
            rcases RK.out.2 with h | h
            · rw [h] at h0m; cases h0m
            · exact h
          subst hp5
          have TQ : Tq w3 wr g M rest := ⟨RK.out.1, hrb, hge⟩
          clear hge RK
          obtain ⟨a0, a1, a2, a3, a4⟩ := hrb.cells h0m
          obtain ⟨d0, d1, d2, d3, d4⟩ := hrb.cells hjm
          have HSW : Hid (tusL L (xs.take (k + 1)) = (M.set 0 M[jn]).set jn M[0]) := by
            unfold Hid
            rw [HTK.out]
            unfold tuL
            rw [if_pos ⟨h1, by omega⟩, Int.toNat_natCast]
            unfold swL
            rw [← rAt_get hjm, ← rAt_get h0m]
          obtain ⟨xx, hxx⟩ : ∃ xx, M[0] = xx := ⟨_, rfl⟩
          obtain ⟨yy, hyy⟩ : ∃ yy, M[jn] = yy := ⟨_, rfl⟩
          rw [hxx] at a0 a1 a2 a3 a4 HSW
          rw [hyy] at d0 d1 d2 d3 d4 HSW
          obtain ⟨xo, xt, xc, xl, xd⟩ := xx
          obtain ⟨yo, yt, yc, yl, yd⟩ := yy
          simp only [Nat.zero_mul, Nat.zero_add] at a0 a1 a2 a3 a4
          have q1 := TQ.putR h0m ⟨yo, yt, yc, yl, yd⟩
          have hjm2 : jn < (M.set 0 ⟨yo, yt, yc, yl, yd⟩).length := by rw [List.length_set]; exact hjm
          have q2 := q1.putR hjm2 ⟨xo, xt, xc, xl, xd⟩
          simp only [setR, Nat.zero_mul, Nat.zero_add] at q1 q2
          have Q1 := hide' q1
          have Q2 := hide' q2
          have fa := fun i => Bx.free hrb i
          have fb := fun i => Bx.free Q1.out.2.1 i
          obtain ⟨e0, e1, e2, e3, e4⟩ := Q1.out.2.1.cells hjm2
          clear q1 q2 TQ hrb hxx hyy
          go_wp2_with fail
          go_region_with (fail)
          all_goals
            go_wp2_with fail
            refine ⟨⟨k + 1, by go_num, by omega, ?_⟩, by simp [intOf]; omega⟩
            unfold Hid
            rw [HSW.out]
            exact Q2.out.tu.drew
        · have h2i : ¬ (jn : Int) < (L.length : Int) := by omega
          have HSW : Hid (tusL L (xs.take (k + 1)) = M) := by
            unfold Hid
            rw [HTK.out]
            unfold tuL
            rw [if_neg (by rw [HML.out]; omega)]
          go_wp2_with fail
          refine ⟨⟨k + 1, by go_num, by omega, ?_⟩, by simp [intOf]; omega⟩
          unfold Hid
          rw [HSW.out]
          exact RK.out
      · have HSW : Hid (tusL L (xs.take (k + 1)) = M) := by
          unfold Hid
          rw [HTK.out]
          unfold tuL
          rw [if_neg (by omega)]
        go_wp2_with fail
        refine ⟨⟨k + 1, by go_num, by omega, ?_⟩, by simp [intOf]; omega⟩
        unfold Hid
        rw [HSW.out]
        exact RK.out
    · obtain rfl : k = xs.length := by omega
      rw [List.take_length] at RK
      have HPe : Hid ((tusL L xs).Perm L) := tusL_perm xs L
      have HCo := hide' (tusL_code apex L xs)
      have HSl : Hid (∀ j, j < (tusL L xs).length → rSm (rAt (tusL L xs) j)) := tusL_small xs HSm.out
      obtain ⟨M, hM⟩ : ∃ M, tusL L xs = M := ⟨_, rfl⟩
      rw [hM] at RK HPe HCo HSl
      have HML : Hid (M.length = L.length) := HPe.out.length_eq
      have HNy : Hid (∀ V, RsAt V p5 M → Calls Tryz.prog 10 #[.string apex, .slice p5 L.length c5] V (NwE apex M V)) := fun V hV => by
        have := new_any apex M p5 c5 V (by rw [HML.out]; exact hL) hV HSl.out HAp.out
        rw [HML.out] at this
        exact this
      have HBw : Hid (Below w.heap.size w wr) := bstep HB3.out RK.out.1 HB3.out.size
      have HBz : Hid (Below w2.heap.size w2 wr) := bstep HB23.out RK.out.1 HB23.out.size
      have HRs : Hid (RsAt wr p5 M) := RK.out.2.rs
      clear RK hM hlt hk1 HZX HSl HAT HNO HB3 HB23 HNw HSm
      by_cases hz : (mkC apex L).2 ≠ 0
      · obtain ⟨h1, h2, h3⟩ := tup3 (HN2.out.no hz)
        subst h1
        injection h3 with _ h3
        subst h3
        clear h2
        have HE : Hid (∀ (V : World) (r : Ending) (w' : World), NwE apex M V r w' → ∃ a, r = .returned (.tuple #[.pointer none, .int .i64 a, .int .i64 (mkC apex L).2]) ∧ Below V.heap.size V w') := fun V r w' h => by
          have := h.no (by rw [HCo.out]; exact hz)
          rw [HCo.out] at this
          exact ⟨_, this, h.bl⟩
        obtain ⟨c0, hc0⟩ : ∃ c, (mkC apex L).2 = c := ⟨_, rfl⟩
        rw [hc0] at hz HE ⊢
        have hcz : (c0 != 0) = true := by simpa using hz
        clear hc0 hz HN2 HCo HBz HPe
        go_wp2_with (go_at_call 10; refine (HNy.out _ HRs.out).mono ?_; intro e w6 hnw; obtain ⟨ay, rfl, hB6⟩ := HE.out _ _ _ hnw; have HB6 := hide' (bstep HBw.out hB6 HBw.out.size); clear hnw hB6)
        go_ret
        exact ⟨rfl, HB6.out⟩
      · have hz0 : (mkC apex L).2 = 0 := by simpa using hz
        obtain ⟨ord, Z, RW, NM, C, m, cnt, pz, cz, f, h1, hzon⟩ := HN2.out.yes hz0
        obtain ⟨h1, h2, h3⟩ := tup3 h1
        subst h1
        injection h3 with _ h3
        subst h3
        injection h2 with _ h2
        subst h2
        obtain ⟨T, hT⟩ : ∃ T, ord.map (rAt L) = T := ⟨_, rfl⟩
        have HZz : Hid (ZT wr apex Z T) := ⟨_, L, ord, RW, NM, C, m, cnt, pz, cz, f, hzon.step HBz.out, hT⟩
        have HE : Hid (∀ (V : World) (r : Ending) (w' : World), NwE apex M V r w' → ∃ Y, r = .returned (.tuple #[.pointer (some ⟨Y, 0, none⟩), .int .i64 0, .int .i64 0]) ∧ ZT w' apex Y T ∧ Below V.heap.size V w') := fun V r w' h => by
          obtain ⟨ord', Z', RW', NM', C', m', cnt', p', cp', f', h1, h2⟩ := h.yes (by rw [HCo.out]; exact hz0)
          exact ⟨Z', h1, ⟨_, M, ord', RW', NM', C', m', cnt', p', cp', f', h2, by rw [zon_same h2 hzon HPe.out, hT]⟩, h.bl⟩
        clear hT hzon hz hz0 HN2 HCo HPe HBz
        have HRe := hide' (fun V Y (h : ZT V apex Y T) => zt_records h)
        have HFi := hide' (fun V Y (h : ZT V apex Y T) => zt_find h q t HQs.out)
        have HNa := hide' (fun V Y (h : ZT V apex Y T) => zt_names h)
        have HLi := hide' (fun V Y (h : ZT V apex Y T) => zt_lint h)
        have HSr : Hid (∀ V p1 p2 c1 c2, RsAt V p1 T → RsAt V p2 T → Calls Tryz.prog 16 #[.slice p1 T.length c1, .slice p2 T.length c2] V fun r w' => r = .returned (.bool true) ∧ Below V.heap.size V w') := fun V p1 p2 c1 c2 h1 h2 => by
          refine (sameRecords2 p1 p2 _ c1 c2 T V h1 h2 rfl (by have := HZz.out.len; omega)).mono ?_
          rintro r w' ⟨rfl, m, rfl⟩
          exact ⟨rfl, rfl, rfl, rfl, Nat.le_refl _, fun _ _ => rfl⟩
        have HSf := hide' (fun V p1 p2 c1 c2 (h1 : RsAt V p1 (findB apex T q t).r) (h2 : RsAt V p2 (findB apex T q t).r) => sameFound_any (findB apex T q t) p1 p2 c1 c2 V h1 h2 (by have := HZz.out.len; have := find_len apex T q t; omega))
        have HSt := hide' (fun V p1 p2 c1 c2 (h1 : StrsAt V p1 (namL apex T)) (h2 : StrsAt V p2 (namL apex T)) (h3 : (namL apex T).length ≤ 9223372036854775807) => sTexts_same p1 p2 c1 c2 (namL apex T) V h1 h2 h3)
        obtain ⟨F, hF⟩ : ∃ F, findB apex T q t = F := ⟨_, rfl⟩
        obtain ⟨N, hN⟩ : ∃ N, namL apex T = N := ⟨_, rfl⟩
        obtain ⟨l, hl⟩ : ∃ l, (lintB apex T).length = l := ⟨_, rfl⟩
        rw [hF] at HFi HSf
        rw [hN] at HNa HSt
        rw [hl] at HLi
        clear hF hN hl HQs HAp HML
        go_wp2_with (first
          | (go_at_call 10; refine (HNy.out _ HRs.out).mono ?_; intro e w6 hnw; obtain ⟨Y, rfl, hzy, hB6⟩ := HE.out _ _ _ hnw; have HZ6 := hide' (HZz.out.step hB6); have HY6 := hide' hzy; have HB6 := hide' (bstep HBw.out hB6 HBw.out.size); clear hnw hB6 hzy HNy HE)
          | (go_at_call 17; refine (HRe.out _ _ HZ6.out).mono ?_; rintro e w7 ⟨p7, c7, rfl, hr7, hB7⟩; have HR7 := hide' hr7; have HY7 := hide' (HY6.out.step hB7); have HZ7 := hide' (HZ6.out.step hB7); have HB7 := hide' (bstep HB6.out hB7 HB6.out.size); clear hr7 hB7 HY6 HZ6)
          | (go_at_call 17; refine (HRe.out _ _ HY7.out).mono ?_; rintro e w8 ⟨p8, c8, rfl, hr8, hB8⟩; have HR8 := hide' hr8; have HQ8 := hide' (rs_stay HR7.out hB8); have HY8 := hide' (HY7.out.step hB8); have HZ8 := hide' (HZ7.out.step hB8); have HB8 := hide' (bstep HB7.out hB8 HB7.out.size); clear hr8 hB8 HY7 HZ7)
          | (go_at_call 16; refine (HSr.out _ _ _ _ _ HQ8.out HR8.out).mono ?_; rintro e w9 ⟨rfl, hB9⟩; have HY9 := hide' (HY8.out.step hB9); have HZ9 := hide' (HZ8.out.step hB9); have HB9 := hide' (bstep HB8.out hB9 HB8.out.size); clear hB9 HY8 HZ8)
          | (go_at_call 12; refine (HFi.out _ _ HZ9.out).mono ?_; rintro e wA ⟨pA, cA, rfl, hrA, hBA⟩; have HRA := hide' hrA; have HYA := hide' (HY9.out.step hBA); have HZA := hide' (HZ9.out.step hBA); have HBA := hide' (bstep HB9.out hBA HB9.out.size); clear hrA hBA HY9 HZ9)
          | (go_at_call 12; refine (HFi.out _ _ HYA.out).mono ?_; rintro e wB ⟨pB, cB, rfl, hrB, hBB⟩; have HRB := hide' hrB; have HQB := hide' (rs_stay HRA.out hBB); have HYB := hide' (HYA.out.step hBB); have HZB := hide' (HZA.out.step hBB); have HBB := hide' (bstep HBA.out hBB HBA.out.size); clear hrB hBB HYA HZA)
          | (go_at_call 13; refine (HSf.out _ _ _ _ _ HQB.out HRB.out).mono ?_; rintro e wC ⟨rfl, hBC⟩; have HYC := hide' (HYB.out.step hBC); have HZC := hide' (HZB.out.step hBC); have HBC := hide' (bstep HBB.out hBC HBB.out.size); clear hBC HYB HZB)
          | (go_at_call 18; refine (HNa.out _ _ HZC.out).mono ?_; rintro e wD ⟨pD, cD, rfl, hrD, hBD⟩; have HRD := hide' hrD; have HYD := hide' (HYC.out.step hBD); have HZD := hide' (HZC.out.step hBD); have HBD := hide' (bstep HBC.out hBD HBC.out.size); clear hrD hBD HYC HZC)
          | (go_at_call 18; refine (HNa.out _ _ HYD.out).mono ?_; rintro e wE ⟨pE, cE, rfl, hrE, hBE⟩; have HRE := hide' hrE; have HQE := hide' (HRD.out.1.below hBE); have HYE := hide' (HYD.out.step hBE); have HZE := hide' (HZD.out.step hBE); have HBE := hide' (bstep HBD.out hBE HBD.out.size); clear hrE hBE HYD HZD)
          | (go_at_call 19; refine (HSt.out _ _ _ _ _ HQE.out HRE.out.1 HRE.out.2).mono ?_; rintro e wF ⟨rfl, hBF⟩; have HYF := hide' (HYE.out.step hBF); have HZF := hide' (HZE.out.step hBF); have HBF := hide' (bstep HBE.out hBF HBE.out.size); clear hBF HYE HZE)
          | (go_at_call 23; refine (HLi.out _ _ HZF.out).mono ?_; rintro e wG ⟨pG, cG, rfl, hBG⟩; have HYG := hide' (HYF.out.step hBG); have HBG := hide' (bstep HBF.out hBG HBF.out.size); clear hBG HYF HZF)
          | (go_at_call 23; refine (HLi.out _ _ HYG.out).mono ?_; rintro e wH ⟨pH, cH, rfl, hBH⟩; have HBH := hide' (bstep HBG.out hBH HBG.out.size); clear hBH HYG))
        go_ret
        exact ⟨rfl, HBH.out⟩
end Go.Proofs.YthabenjghhmicaaGreat

/-
  Numbers that come in, and how many. (The verifier's own text.)
-/
namespace Go.Proofs.YthabenjghhmicaaGreat.Fri
set_option linter.unusedVariables false
set_option linter.unusedSimpArgs false
open Go.RowKit Go.Shelf Go.Maps Go.Proofs.YthabenjghhmicaaGreat.Nm
open Go.ChangeShapes Go.WideShapes

theorem cellsInt : Tryz.prog.cellsOf 3 = 1 := by kernel_rfl
theorem bulk_lits {H : Type} : ∀ l : List Int, Rows.uptoBulkAll (lits (H := H) .i64 l) = l.length
  | [] => rfl
  | x :: l => by
    have := bulk_lits (H := H) l
    simp only [lits, List.map_cons, Rows.uptoBulkAll, Rows.uptoBulk, List.length_cons] at this ⊢
    omega
theorem spot_none {w : World} {b off : Nat} {s : Option Nat} {v : Value} (h : w.cell? ⟨b, off, s⟩ = some v) : s = none ∧ b < w.heap.size := by
  unfold World.cell? at h
  split at h
  · rename_i c e f hh
    split at h
    · cases h
    · rename_i hs
      exact ⟨by cases s with | none => rfl | some x => exact absurd rfl hs, (Array.getElem?_eq_some_iff.1 hh).1⟩
  · cases h
section
variable {H : Type} {enc : TypeId × Value → H} {w : World} {base : Nat} {spare : Nat → Bool} {held : Bool}
theorem ns_open {fuel : Nat} {v : Value} {x : DataW H × List MemPlace} (h : DataW.trod enc Tryz.prog w base spare held fuel 61 [v] = some x) :
    ∃ (a : Option Addr) (cap : Nat) (xs : List Int), v = .slice a xs.length cap ∧ ZAt w w.heap.size a xs ∧ xs.length ≤ Rows.uptoBulk x.1 ∧ (a = none → cap = 0) ∧ xs.length ≤ cap ∧ cap ≤ maxLen := by
  rcases open_ints Tryz.underlying61 Tryz.underlying3 cellsInt h with ⟨hcs, hx⟩ | ⟨a, len', cap', zs, hcs, _, hl, hm, hz, hx, hcell, hwz⟩
  · obtain rfl : v = .slice none 0 0 := by simpa using hcs
    exact ⟨none, 0, [], rfl, (fun k hk => by cases hk), Nat.zero_le _, fun _ => rfl, Nat.le_refl _, Nat.zero_le _⟩
  · obtain rfl : v = .slice (some a) len' cap' := by simpa using hcs
    have hzl : len' ≤ zs.length := by rw [hz]; split <;> omega
    have hll : (zs.take len').length = len' := by rw [List.length_take]; omega
    refine ⟨some a, cap', zs.take len', by rw [hll], fun k hk => ?_, ?_, (fun e => by cases e), by rw [hll]; exact hl, hm⟩
    · rw [hll] at hk
      obtain ⟨b, off, spot⟩ := a
      have hc0 := hcell 0 (by omega)
      obtain ⟨rfl, hb⟩ := spot_none (by simpa [Addr.add] using hc0)
      refine ⟨b, off, rfl, hb, ?_⟩
      have hck := hcell k (by omega)
      have ea : (⟨b, off, none⟩ : Addr).add k = ⟨b, off + k, none⟩ := by
        unfold Addr.add
        by_cases h : k = 0
        · subst h; rfl
        · rw [if_neg h]
      rw [ea] at hck
      rw [hck, List.getD_eq_getElem?_getD, List.getElem?_eq_getElem (by omega)]
      simp
    · rw [hx]
      simp only [Rows.uptoBulk]
      rw [bulk_lits, bulk_lits]
      omega
end
end Go.Proofs.YthabenjghhmicaaGreat.Fri

namespace Go.Proofs.YthabenjghhmicaaGreat.zoneTurnedP
set_option linter.unusedVariables false
open Go.ChangeShapes Go.WideShapes Go.ChangeAt Go.RowKit Go.Deep
open Go.ChangeMaps (open_string shut_string)

theorem own : ownKnob Tryz.prog.godebug = none := by kernel_rfl
theorem laidOut : laidOutB Tryz.prog = true := by kernel_rfl
set_option maxRecDepth 100000 in
theorem contract (H : Type) (enc : TypeId × Value → H) (W : World) (base : Nat) (args : Array Value) (ds gs : List (DataW H)) (before : List MemPlace)
    (hval : ∀ (j : Nat) t v, Tryz.f8.params[j]? = some t → args[j]? = some v → Value.okWide Tryz.prog W .any base t v)
    (hW : DataW.Whole enc Tryz.prog Tryz.f8.params.toList Rows.zoneTurnedSpec.vars false W args.toList ds gs before) (hk : Rows.uptoSmall H (ds ++ gs) = true) :
    Calls Tryz.prog 8 args W fun e W' => ∃ v, e = .returned v ∧ Rows.zoneTurnedSpec.post enc Tryz.prog Tryz.f8 false true false false W args v W' := by
  have hW' := hW
  obtain ⟨p, q, hA0, hV, rfl, _, _⟩ := hW
  have hA : DataW.TrodAll enc Tryz.prog W 0 (fun _ => true) true Tryz.f8.params.toList args.toList ds p := hA0
  rw [Tryz.params8] at hA hval
  obtain ⟨v0, vs0, d0, ds0, p0, q0, hargs, rfl, rfl, h0, r0⟩ := trodAll_cons hA
  obtain ⟨v1, vs1, d1, ds1, p1, q1, rfl, rfl, rfl, h1, r1⟩ := trodAll_cons r0
  obtain ⟨v2, vs2, d2, ds2, p2, q2, rfl, rfl, rfl, h2, r2⟩ := trodAll_cons r1
  obtain ⟨v3, vs3, d3, ds3, p3, q3, rfl, rfl, rfl, h3, r3⟩ := trodAll_cons r2
  obtain ⟨v4, vs4, d4, ds4, p4, q4, rfl, rfl, rfl, h4, r4⟩ := trodAll_cons r3
  obtain ⟨rfl, rfl, rfl⟩ := trodAll_nil r4
  obtain rfl : args = #[v0, v1, v2, v3, v4] := by cases args; simp_all
  obtain ⟨rfl, rfl⟩ := trodVars_none hV
  obtain ⟨s0, rfl, rfl, rfl, m0⟩ := open_string Tryz.underlying9 (hval 0 9 v0 rfl rfl) h0
  have k1 := h1
  have lt1 : ∀ x ∈ p1, x.block < W.heap.size := by obtain ⟨m, hm⟩ := k1; exact DataW.trod_lt m _ _ _ hm
  obtain ⟨pa1, ca1, L1, rfl, hno1, hat1, hz1, hlb1, hoz1, hca1, hcm1⟩ : ∃ (a : Option Addr) (cap : Nat) (L : List Rn), v1 = .slice a L.length cap ∧ (a = none → cap = 0) ∧ RsAt W a L ∧ (∀ q ∈ L, q.o.size ≤ maxLen ∧ q.d.size ≤ maxLen) ∧ L.length ≤ Rows.uptoBulk d1 ∧ (∀ q ∈ L, q.o.size + q.d.size ≤ Rows.uptoBulk d1) ∧ L.length ≤ cap ∧ cap ≤ maxLen := by
    obtain ⟨fuel, hf⟩ := h1
    obtain ⟨z5, len5, cap5, hv5⟩ := okWide_slice Tryz.underlying22 (hval 1 22 v1 rfl rfl)
    have hc : v1.cells.toList = [v1] := by rw [hv5]; rfl
    rw [hc] at hf
    obtain ⟨a, cap, L, h1, h2, h3, h4, h5, h6⟩ := Frj.rs_openJ hf
    refine ⟨a, cap, L, h1, h2, h3, h4, h5, h6, ?_⟩
    rcases open_slice Tryz.underlying22 hf with ⟨g1, _⟩ | ⟨a', len', cap', m', n', D', Pl', g1, _, hl, hm, _⟩
    · rw [h1] at g1
      injection g1 with g1 _
      injection g1 with g1 g2 g3
      exact ⟨by omega, by unfold maxLen; omega⟩
    · rw [h1] at g1
      injection g1 with g1 _
      injection g1 with g1 g2 g3
      subst g3
      exact ⟨by omega, hm⟩
  have k2 := h2
  have lt2 : ∀ x ∈ p2, x.block < W.heap.size := by obtain ⟨m, hm⟩ := k2; exact DataW.trod_lt m _ _ _ hm
  obtain ⟨pi2, ci2, xs2, rfl, hit2, hib2, hin2, hic2, him2⟩ : ∃ (a : Option Addr) (cap : Nat) (xs : List Int), v2 = .slice a xs.length cap ∧ ZAt W W.heap.size a xs ∧ xs.length ≤ Rows.uptoBulk d2 ∧ (a = none → cap = 0) ∧ xs.length ≤ cap ∧ cap ≤ maxLen := by
    obtain ⟨fuel, hf⟩ := h2
    obtain ⟨z5, len5, cap5, hv5⟩ := okWide_slice Tryz.underlying61 (hval 2 61 v2 rfl rfl)
    have hc : v2.cells.toList = [v2] := by rw [hv5]; rfl
    rw [hc] at hf
    exact Fri.ns_open hf
  obtain ⟨s3, rfl, rfl, rfl, m3⟩ := open_string Tryz.underlying9 (hval 3 9 v3 rfl rfl) h3
  obtain ⟨s4, rfl, rfl, rfl, m4⟩ := open_int Tryz.underlying3 (hval 4 3 v4 rfl rfl) h4
  clear hA0
  have hb : Rows.uptoBulkAll [DataW.lit (H := H) (.string s0.data.toList), d1, d2, DataW.lit (H := H) (.string s3.data.toList), DataW.lit (H := H) (.int .i64 s4)] ≤ 1048576 := by
    have : Rows.uptoBulkAll ([DataW.lit (H := H) (.string s0.data.toList), d1, d2, DataW.lit (H := H) (.string s3.data.toList), DataW.lit (H := H) (.int .i64 s4)] ++ []) ≤ 1048576 := of_decide_eq_true hk
    rwa [List.append_nil] at this
  have e0 : s0.data.toList.length = s0.size := by rw [Array.length_toList]; rfl
  have f0 : Rows.uptoBulk (DataW.lit (H := H) (.string s0.data.toList)) = s0.data.toList.length + 1 := rfl
  have e3 : s3.data.toList.length = s3.size := by rw [Array.length_toList]; rfl
  have f3 : Rows.uptoBulk (DataW.lit (H := H) (.string s3.data.toList)) = s3.data.toList.length + 1 := rfl
  simp only [Rows.uptoBulkAll] at hb
  rw [f0, e0, f3, e3] at hb
  clear e0 f0 e3 f3
  refine (zoneTurned_any s0 L1 pa1 ca1 xs2 pi2 ci2 s3 s4 W (by omega) (by omega) hat1 (fun k hk => by have := hoz1 _ (rAt_mem hk); exact ⟨by omega, by omega⟩) hca1 hcm1 hno1 hit2 (by omega) (by omega)).mono fun e W' ⟨he, bel⟩ => ?_
  subst he
  exact ⟨_, rfl, _, _, _, [], _, [], hW', trodAll_mk1 (shut_bool Tryz.underlying4 _), (trodAll_cons_mk (shut_string Tryz.underlying9 m0) (trodAll_cons_mk (Below.trod laidOut (by kernel_rfl) (of_decide_eq_true (by kernel_rfl)) k1 bel lt1) (trodAll_cons_mk (Below.trod laidOut (by kernel_rfl) (of_decide_eq_true (by kernel_rfl)) k2 bel lt2) (trodAll_cons_mk (shut_string Tryz.underlying9 m3) (trodAll_cons_mk (shut_int Tryz.underlying3 m4) trodAll_mk0))))), rfl, bel.frame _, fun h => by cases h⟩

set_option maxRecDepth 100000 in
theorem lifted (os : Os) (started : os.Started) (H : Type) (enc : TypeId × Value → H) (F : Stop.Interp) :
    ReturnsInHanded {} Tryz.checked os 8 .any ((Rows.OpenSpec.upto Rows.zoneTurnedSpec).pre6 enc Tryz.prog Tryz.f8 Rows.zoneTurnedUptoRow.domain false) (((Rows.OpenSpec.upto Rows.zoneTurnedSpec).at F).post enc Tryz.prog Tryz.f8 false true false false) := by
  refine returnsInHanded_of_cond (C := Tryz.checked) (s := Rows.OpenSpec.upto Rows.zoneTurnedSpec) (k := Rows.uptoSmall) rfl own started (by kernel_rfl) Tryz.func8
    (OpenSpec.witness (enc := enc) (C := Tryz.checked) (s := Rows.OpenSpec.upto Rows.zoneTurnedSpec) (k := Rows.uptoSmall) rfl false ⟨#[], #[.string .empty, .slice none 0 0, .slice none 0 0, .string .empty, .int .i64 0], []⟩ 8 (by kernel_rfl) (by kernel_rfl) (by kernel_rfl)
      (x := ([.lit (.string []), .nil, .nil, .lit (.string []), .lit (.int .i64 0)], [], [])) (by kernel_rfl) rfl (by kernel_rfl)) ?_
  intro W base args ds gs before hval hW _ hk _
  exact contract H enc W base args ds gs before hval hW hk

theorem proved : Rows.ZoneTurnedUptoSaid :=
  OpenClaim.holds_of_cond 8 Tryz.f8 rfl rfl rfl rfl rfl rfl rfl ⟨rfl, rfl, rfl, rfl, rfl⟩ rfl rfl rfl rfl rfl (by kernel_rfl) Tryz.func8 (by kernel_rfl)
    (of_decide_eq_true (by kernel_rfl)) (by unfold Func.isWrapper; first | (rw [if_pos (by decide +kernel)]; kernel_rfl) | (rw [if_neg (by decide +kernel)]; exact ⟨rfl, rfl⟩))
    (fun os started H enc _ F => lifted os started H enc F)
end Go.Proofs.YthabenjghhmicaaGreat.zoneTurnedP
namespace Go.Proofs.YthabenjghhmicaaGreat
theorem zoneTurned_upto : Rows.ZoneTurnedUptoSaid := zoneTurnedP.proved
end Go.Proofs.YthabenjghhmicaaGreat
