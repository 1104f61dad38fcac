import Derived.Test.YthabenjghhmicaaGreatZj5
import Derived.Test.YthabenjghhmicaaGreatZgpG
import Derived.Test.YthabenjghhmicaaGreatZqmG
namespace Go.Proofs.YthabenjghhmicaaGreat
set_option linter.unusedVariables false
set_option linter.unusedSimpArgs false
open Go.RowKit Go.Shelf Go.Maps Go.Proofs.YthabenjghhmicaaGreat.Nm Go.Proofs.YthabenjghhmicaaGreat.Zs
theorem cut_both {apex : ByteArray} {T : List Rn} (na : isN apex = true) (h : OwnIn apex T) {o : ByteArray} (ho : withinB o apex = true) :
  (∃ k : Nat, k ≤ (labs o).length ∧ rcut apex T o = some k ∧ cutB apex T (foldB o) = foldB (tailB o (k : Int)) ∧ isN (tailB o (k : Int)) = true) ∨ (rcut apex T o = none ∧ cutB apex T (foldB o) = ⟨#[]⟩) := by
 obtain ⟨g1, g2, g3, g4⟩ := (withinB_iff o apex).1 ho
 obtain ⟨P, hP⟩ : ∃ P, (pathL apex (foldB o)).drop 1 = P := ⟨_, rfl⟩
 have hP2 : P = (List.range ((labs o).length - (labs apex).length)).map fun i => foldB (tailB o (((labs apex).length + 1 + i : Nat) : Int)) := by
  rw [← hP, path_tails na ho, List.range_succ_eq_map, List.map_cons, List.drop_one, List.tail_cons, List.map_map]
  apply List.map_congr_left
  intro i _
  simp only [Function.comp]
  rw [show (labs apex).length + i.succ = (labs apex).length + 1 + i by omega]
 have hl : P.length = (labs o).length - (labs apex).length := by rw [hP2, List.length_map, List.length_range]
 have hg : ∀ i, (hi : i < P.length) → (stT T P[i] 2).isEmpty = (!hasB T (tailB o (((labs apex).length + 1 + i : Nat) : Int)) 2) ∧ P[i] = foldB (tailB o (((labs apex).length + 1 + i : Nat) : Int)) := by
  intro i hi
  have e : P[i] = foldB (tailB o (((labs apex).length + 1 + i : Nat) : Int)) := by
   simp only [hP2, List.getElem_map, List.getElem_range]
  refine ⟨?_, e⟩
  rw [e]
  exact st_has h _ (by omega)
 rcases Classical.em (∃ i, i < P.length ∧ hasB T (tailB o (((labs apex).length + 1 + i : Nat) : Int)) 2 = true) with hex | hno
 ·obtain ⟨i0, hi0, hz0⟩ := hex
  have hfirst : ∃ i, i < P.length ∧ hasB T (tailB o (((labs apex).length + 1 + i : Nat) : Int)) 2 = true ∧ ∀ j, j < i → hasB T (tailB o (((labs apex).length + 1 + j : Nat) : Int)) 2 = false := by
   induction i0 using Nat.strongRecOn with
   | _ i ih =>
    rcases Classical.em (∃ j, j < i ∧ hasB T (tailB o (((labs apex).length + 1 + j : Nat) : Int)) 2 = true) with ⟨j, hj, hj2⟩ | hn
    ·exact ih j hj (by omega) hj2
    ·exact ⟨i, hi0, hz0, fun j hj => by
      cases hb : hasB T (tailB o (((labs apex).length + 1 + j : Nat) : Int)) 2 with
      | false => rfl
      | true => exact absurd ⟨j, hj, hb⟩ hn⟩
  obtain ⟨i, hi, hz, hb⟩ := hfirst
  left
  have r1 := rcut_at (apex := apex) (M := T) (o := o) (k := (labs apex).length + 1 + i) (by omega) (by omega) hz (fun j h1 h2 => by
   have := hb (j - ((labs apex).length + 1)) (by omega)
   rw [show (labs apex).length + 1 + (j - ((labs apex).length + 1)) = j by omega] at this
   exact this)
  have r2 := cut_some hP hi (by rw [(hg i hi).1, hz]; rfl) (fun j hj hji => by rw [(hg j hj).1, hb j hji]; rfl)
  rw [(hg i hi).2] at r2
  exact ⟨(labs apex).length + 1 + i, by omega, r1, r2, (tailB_yes g1 (by omega)).1⟩
 ·right
  have hz : ∀ i, i < P.length → hasB T (tailB o (((labs apex).length + 1 + i : Nat) : Int)) 2 = false := fun i hi => by
   cases hb : hasB T (tailB o (((labs apex).length + 1 + i : Nat) : Int)) 2 with
   | false => rfl
   | true => exact absurd ⟨i, hi, hb⟩ hno
  exact ⟨rcut_no (fun j h1 h2 => by
   have := hz (j - ((labs apex).length + 1)) (by omega)
   rw [show (labs apex).length + 1 + (j - ((labs apex).length + 1)) = j by omega] at this
   exact this), cut_none hP (fun i hi => by rw [(hg i hi).1, hz i hi]; rfl)⟩
theorem hid_both {apex : ByteArray} {T : List Rn} (na : isN apex = true) (h : OwnIn apex T) {r : Rn} (hr : withinB r.o apex = true) : hidB apex T r = rhidB apex T r := by
 obtain ⟨g1, g2, g3, g4⟩ := (withinB_iff r.o apex).1 hr
 unfold hidB rhidB
 cases hc : countB r with
 | false => simp
 | true =>
  rcases cut_both na h hr with ⟨k, hk, r1, r2, r3⟩ | ⟨r1, r2⟩
  ·have hne : foldB (tailB r.o (k : Int)) ≠ ⟨#[]⟩ := fun e => by
    have := (zisN_fold r3).1
    rw [e] at this
    exact absurd this (by decide)
   have he := fold_tail_eq g1 hk
   rw [r1, r2]
   simp only [hne, false_or, Bool.true_eq_false, if_false, Bool.true_and]
   unfold rhV
   by_cases h1 : r.t = 1 ∨ r.t = 28
   ·rw [if_pos h1, if_pos h1]
   ·rw [if_neg h1, if_neg h1]
    by_cases hkl : k < (labs r.o).length
    ·have hn2 : ¬ foldB (tailB r.o (k : Int)) = foldB r.o := fun e => by have := he.1 e; omega
     simp [hkl, hn2]
    ·have he2 : foldB (tailB r.o (k : Int)) = foldB r.o := he.2 (by omega)
     simp only [he2, ne_eq, not_true_eq_false, decide_false, hkl, Bool.false_or]
     by_cases h2 : r.t = 2
     ·simp [h2]
     ·by_cases h3 : r.t = 43
      ·simp [h3]
      ·by_cases h4 : r.t = 47
       ·simp [h4]
       ·by_cases h5 : r.t = 46
        ·simp [h5]
        ·simp [h2, h3, h4, h5]
  ·rw [r1, r2]
   simp
theorem fnd_both {apex : ByteArray} {T : List Rn} (na : isN apex = true) (h : OwnIn apex T) (hap : rth T apex = true) {r : Rn} (hr : withinB r.o apex = true) : fndB apex T r = rfnd apex T r := by
 unfold fndB rfnd rfnV judB
 rw [hid_both na h hr]
 cases hh : rhidB apex T r with
 | true => simp
 | false =>
  simp only [Bool.false_eq_true, if_false]
  by_cases ht : r.t ≠ 2 ∧ r.t ≠ 15 ∧ r.t ≠ 33
  ·have htg : tgB r = ⟨#[]⟩ := by unfold tgB; rw [if_neg (fun e => by rcases e with e | e | e; exact ht.1 e; exact ht.2.1 e; exact ht.2.2 e)]
   have hw : withinB (tgB r) apex = false := by rw [htg]; exact within_noName (by decide)
   rw [if_pos ht, hw]
   simp
  ·rw [if_neg ht]
   cases hw : withinB (tgB r) apex with
   | false => simp
   | true =>
    have hN := ((withinB_iff (tgB r) apex).1 hw).1
    simp only [Bool.true_eq_false, if_false, false_or]
    unfold jtB
    rw [st_has h _ (by omega), st_has h _ (by omega), find_both na h hap, find_both na h hap]
    cases h1 : hasB T (tgB r) 1 with
    | true => simp
    | false =>
     cases h2 : hasB T (tgB r) 28 with
     | true => simp
     | false =>
      simp only [Bool.not_false, Bool.true_eq_false, Bool.false_eq_true, false_or, or_self, if_false]
      by_cases h3 : (rfind apex T (tgB r) 1).k = 1 ∨ (rfind apex T (tgB r) 28).k = 1
      ·rw [if_pos h3, if_pos h3]; simp
      ·rw [if_neg h3, if_neg h3]
       by_cases h4 : (rfind apex T (tgB r) 1).k = 2
       ·rw [if_pos h4, if_pos h4]; simp
       ·rw [if_neg h4, if_neg h4]
        by_cases h5 : r.t ≠ 2 ∧ ((rfind apex T (tgB r) 1).k = 4 ∨ tgB r = ⟨#[0]⟩)
        ·rw [if_pos h5, if_pos h5]; simp
        ·rw [if_neg h5, if_neg h5]; simp
theorem fm_congr {α β : Type} {f g : α → Option β} : ∀ (l : List α), (∀ x ∈ l, f x = g x) → l.filterMap f = l.filterMap g
 | [], _ => rfl
 | x :: l, h => by
  simp only [List.filterMap_cons]
  rw [h x (by simp), fm_congr l (fun y hy => h y (by simp [hy]))]
theorem lint_both {apex : ByteArray} {T : List Rn} (na : isN apex = true) (h : OwnIn apex T) (hap : rth T apex = true) : lintB apex T = rlintB apex T := by
 unfold lintB rlintB loneB rlone
 rw [st_rset h apex (by omega)]
 congr 1
 exact fm_congr T fun r hr => fnd_both na h hap (h r hr)
end Go.Proofs.YthabenjghhmicaaGreat
namespace Go.Proofs.YthabenjghhmicaaGreat
set_option linter.unusedVariables false
set_option linter.unusedSimpArgs false
open Go.RowKit Go.Shelf Go.Maps Go.Proofs.YthabenjghhmicaaGreat.Nm Go.Proofs.YthabenjghhmicaaGreat.Zs
theorem fn_cells {w : World} {p : Option Addr} {l : List Fn} (h : RowAt 4 fnV w p l) {k : Nat} (hk : k < l.length) : ∃ g off, p = some ⟨g, off, none⟩ ∧ w.cell? ⟨g, off + k * 4, none⟩ = some (.int .i64 l[k].c) ∧ w.cell? ⟨g, off + k * 4 + 1, none⟩ = some (.string l[k].o) ∧ w.cell? ⟨g, off + k * 4 + 2, none⟩ = some (.int .i64 l[k].t) ∧ w.cell? ⟨g, off + k * 4 + 3, none⟩ = some (.string l[k].g) := by
 obtain ⟨g, off, hp, _, e⟩ := h k hk
 exact ⟨g, off, hp, e 0 (by omega), e 1 (by omega), e 2 (by omega), e 3 (by omega)⟩
theorem lint_len (apex : ByteArray) (T : List Rn) : (lintB apex T).length ≤ T.length + 1 := by
 unfold lintB loneB
 have := List.length_filterMap_le (fndB apex T) T
 rw [List.length_append]
 split
 ·simp; omega
 ·simp; omega
set_option maxRecDepth 100000 in
set_option maxHeartbeats 4000000 in
theorem zoneLints_any (apex : ByteArray) (L : List Rn) (p : Option Addr) (cap : Nat) (w : World) (hap : apex.size ≤ 1048576) (hL : L.length ≤ 1048576) (hat : RsAt w p L) (hs : ∀ j, j < L.length → rSm (rAt L j)) (hcp : L.length ≤ cap) (hcm : cap ≤ maxLen) (hpn : p = none → cap = 0) :
  Calls Tryz.prog 5 #[.string apex, .slice p L.length cap] w fun r w' => r = .returned (.bool true) ∧ Below w.heap.size w w' := by
 have HNw := hide' (new_any apex L p cap w hL hat hs hap)
 have HMk : Hid (∀ V : World, Below w.heap.size w V → Calls Tryz.prog 11 #[.string apex, .slice p L.length cap] V (MkE apex L V)) := fun V hV => by
  by_cases hN : isN apex = true
  ·by_cases h2 : 2000 < L.length
   ·exact make_arg apex L p cap V hL hap (Or.inr h2)
   ·exact make_in apex L p cap V (by omega) (rs_stay hat hV) hs hap hN hcp hcm hpn
  ·exact make_arg apex L p cap V hL hap (Or.inl (by simpa using hN))
 clear hs hcp hcm hpn hat
 by_cases hz : (mkC apex L).2 ≠ 0
 ·obtain ⟨a, c0, hac⟩ : ∃ a c, mkC apex L = (a, c) := ⟨_, _, rfl⟩
  have HN2 : Hid (∀ (V : World) (r : Ending) (w' : World), NwE apex L V r w' → r = .returned (.tuple #[.pointer none, .int .i64 a, .int .i64 c0]) ∧ Below V.heap.size V w') := fun V r w' h => by
   have := h.no hz
   rw [hac] at this
   exact ⟨this, h.bl⟩
  have HM2 : Hid (∀ (V : World) (r : Ending) (w' : World), MkE apex L V r w' → r = .returned (.tuple #[.pointer none, .int .i64 a, .int .i64 c0]) ∧ Below V.heap.size V w') := fun V r w' h => by
   have := h.no hz
   rw [hac] at this
   exact ⟨this, h.bl⟩
  clear hz hac
  go_enter Tryz.func5, Tryz.ntmps5
  go_wp2_with (first
   | (go_at_call 10; refine HNw.out.mono ?_; intro e w2 hnw; obtain ⟨rfl, hB2⟩ := HN2.out _ _ _ hnw; have HB2 := hide' hB2; clear hnw hB2)
   | (go_at_call 11; refine (HMk.out _ HB2.out).mono ?_; intro e w3 hmk; obtain ⟨rfl, hB3⟩ := HM2.out _ _ _ hmk; have HB3 := hide' (bstep HB2.out hB3 HB2.out.size); clear hmk hB3))
  go_ret
  exact ⟨rfl, HB3.out⟩
 ·have hz0 : (mkC apex L).2 = 0 := by simpa using hz
  have HN2 : Hid (∀ (V : World) (r : Ending) (w' : World), NwE apex L V r w' → ∃ ord Z RW NM C m cnt p cp f, r = .returned (.tuple #[.pointer (some ⟨Z, 0, none⟩), .int .i64 0, .int .i64 0]) ∧ Zon V.heap.size w' apex L ord Z RW NM C m cnt p cp f ∧ Below V.heap.size V w') := fun V r w' h => by
   obtain ⟨ord, Z, RW, NM, C, m, cnt, p, cp, f, h1, h2⟩ := h.yes hz0
   exact ⟨ord, Z, RW, NM, C, m, cnt, p, cp, f, h1, h2, h.bl⟩
  have HM2 : Hid (∀ (V : World) (r : Ending) (w' : World), MkE apex L V r w' → ∃ zb pm cm M, r = .returned (.tuple #[.pointer (some ⟨zb, 0, none⟩), .int .i64 0, .int .i64 0]) ∧ Mkd V w' apex L zb pm cm M ∧ Below V.heap.size V w') := fun V r w' h => by
   obtain ⟨zb, v, M, h1, h2, h3, h4, h5, h6⟩ := h.yes hz0
   obtain ⟨pm, cm, rfl, _, _, _⟩ := own_shape h4
   exact ⟨zb, pm, cm, M, h1, ⟨h2, h3, h4, h5, h6⟩, h.bl⟩
  clear hz hz0
  have HLi : Hid (∀ (V : World) n N ord Z RW NM C m cnt p cp f zb pm cm, Zm n N V apex L ord Z RW NM C m cnt p cp f zb pm cm → Calls Tryz.prog 23 #[.pointer (some ⟨Z, 0, none⟩)] V fun r w' => ∃ p4 c4, r = .returned (.slice p4 (lintB apex (ord.map (rAt L))).length c4) ∧ RowAt 4 fnV w' p4 (lintB apex (ord.map (rAt L))) ∧ Below V.heap.size V w') := fun V n N ord Z RW NM C m cnt p cp f zb pm cm h => by
   refine (lint_any h.zon).mono ?_
   rintro r w' ⟨ov, rfl, hg⟩
   obtain ⟨p4, c4, rfl, _, _, _⟩ := own_shape hg.own
   exact ⟨p4, c4, rfl, row_own fnV_len hg.own, hg.bl⟩
  have HRi : Hid (∀ (V : World) n N ord Z RW NM C m cnt p cp f zb pm cm, Zm n N V apex L ord Z RW NM C m cnt p cp f zb pm cm → Calls Tryz.prog 24 #[.pointer (some ⟨zb, 0, none⟩)] V fun r w' => ∃ p4 c4, r = .returned (.slice p4 (lintB apex (ord.map (rAt L))).length c4) ∧ RowAt 4 fnV w' p4 (lintB apex (ord.map (rAt L))) ∧ Below V.heap.size V w' ∧ (lintB apex (ord.map (rAt L))).length ≤ 2001) := fun V n N ord Z RW NM C m cnt p cp f zb pm cm h => by
   refine (rlint_any h.yz h.zon.laid.na h.zon.ownIn h.zon.rthApex).mono ?_
   rintro r w' ⟨ov, rfl, hg⟩
   rw [← lint_both h.zon.laid.na h.zon.ownIn h.zon.rthApex] at hg
   obtain ⟨p4, c4, rfl, _, _, _⟩ := own_shape hg.own
   have h1 := lint_len apex (ord.map (rAt L))
   have h2 := h.zon.laid.tlen
   have h3 := h.zon.few
   exact ⟨p4, c4, rfl, row_own fnV_len hg.own, hg.bl, by omega⟩
  go_enter Tryz.func5, Tryz.ntmps5
  go_wp2_with (first
   | (go_at_call 10; refine HNw.out.mono ?_; intro e w2 hnw; obtain ⟨ord, Z, RW, NM, C, m, cnt, pz, cz, f, rfl, hzo, hB2⟩ := HN2.out _ _ _ hnw; have HZ2 := hide' hzo; have HB2 := hide' hB2; clear hnw hB2 hzo)
   | (go_at_call 11; refine (HMk.out _ HB2.out).mono ?_; intro e w3 hmk; obtain ⟨zb, pm, cm, M, rfl, hmd, hB3⟩ := HM2.out _ _ _ hmk; have HZ3 := hide' (zm_of HZ2.out hmd HB2.out.size hB3); have HB3 := hide' (bstep HB2.out hB3 HB2.out.size); clear hmk hB3 hmd)
   | (go_at_call 23; refine (HLi.out _ _ _ _ _ _ _ _ _ _ _ _ _ _ _ _ HZ3.out).mono ?_; rintro e w4 ⟨p4, c4, rfl, hr4, hB4⟩; have HR4 := hide' hr4; have HZ4 := hide' (HZ3.out.step hB4); have HB4 := hide' (bstep HB3.out hB4 HB3.out.size); clear hr4 hB4)
   | (go_at_call 24; refine (HRi.out _ _ _ _ _ _ _ _ _ _ _ _ _ _ _ _ HZ4.out).mono ?_; rintro e w5 ⟨p5, c5, rfl, hr5, hB5, hl5⟩; have HR5 := hide' hr5; have HR4' := hide' (row_below' HR4.out hB5); have HL5 := hide' hl5; have HB5 := hide' (bstep HB4.out hB5 HB4.out.size); clear hr5 hB5 hl5))
  have hl5 := HL5.out
  obtain ⟨l, hl⟩ : ∃ l, lintB apex (ord.map (rAt L)) = l := ⟨_, rfl⟩
  rw [hl] at HR4' HR5 hl5
  try rw [hl]
  clear HL5 HR4 hl
  go_loopw [51] (fun i wr => ∃ k m : Nat, i = .int .i64 k ∧ k ≤ l.length ∧ wr = w5.drewN m) (fun i _ => l.length - (intOf i).toNat)
  case atStart => exact ⟨0, 0, rfl, Nat.zero_le _, rfl⟩
  case round =>
   obtain ⟨k, m, rfl, hk, rfl⟩ := hrel
   by_cases hlt : k < l.length
   ·obtain ⟨g1, o1, rfl, x0, x1, x2, x3⟩ := fn_cells HR4'.out hlt
    obtain ⟨g2, o2, rfl, y0, y1, y2, y3⟩ := fn_cells HR5.out hlt
    obtain ⟨x, hx⟩ : ∃ x, l[k] = x := ⟨_, rfl⟩
    rw [hx] at x0 x1 x2 x3 y0 y1 y2 y3
    clear hx
    obtain ⟨xc, xo, xt, xg⟩ := x
    simp only at x0 x1 x2 x3 y0 y1 y2 y3
    go_wp2
    go_quiet (fail)
    go_wp2
    go_roundw
    case rel => exact ⟨k + 1, m + nq, by go_num, by omega, rfl⟩
    case measure => simp [intOf]; omega
   ·go_wp2
    go_ret
    exact ⟨rfl, bstep HB5.out (below_quietZ m) HB5.out.size⟩
end Go.Proofs.YthabenjghhmicaaGreat
