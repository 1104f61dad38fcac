import Derived.Test.YthabenjghhmicaaGreatZk2
import Derived.Test.YthabenjghhmicaaGreatZk3
import Derived.Test.YthabenjghhmicaaGreatZi2
import Derived.Test.YthabenjghhmicaaGreatOw1G
/-
  Proofs: ZoneRowed. (The verifier's own text.)
-/
namespace Go.Proofs.YthabenjghhmicaaGreat
set_option linter.unusedVariables false
set_option linter.unusedSimpArgs false
open Go.RowKit Go.Shelf Go.Maps Go.Proofs.YthabenjghhmicaaGreat.Nm Go.Proofs.YthabenjghhmicaaGreat.Zs

theorem bef_asym {x y : Rn} (hx : isN x.o = true) (hy : isN y.o = true) (h : befB x y = true) : befB y x = false := by
  have an := (ordered hx hy hy).anti
  unfold befB at h ⊢
  rw [an]
  by_cases e : cmpB x.o y.o ≠ 0
  · rw [if_pos e] at h
    have := of_decide_eq_true h
    rw [if_pos (by omega)]
    exact decide_eq_false (by omega)
  · have e0 : cmpB x.o y.o = 0 := by omega
    rw [if_neg e] at h
    rw [if_neg (by omega)]
    by_cases e2 : x.t ≠ y.t
    · rw [if_pos e2] at h
      have := of_decide_eq_true h
      rw [if_pos (fun e3 => e2 e3.symm)]
      exact decide_eq_false (by omega)
    · rw [if_neg e2] at h
      rw [if_neg (fun e3 => e2 (fun e4 => e3 e4.symm))]
      have := of_decide_eq_true h
      rw [cbl_anti]
      exact decide_eq_false (by omega)
theorem cmpB_rng (a b : ByteArray) : cmpB a b = -1 ∨ cmpB a b = 0 ∨ cmpB a b = 1 := by
  unfold cmpB
  split
  · exact cmpL_range _ _
  · exact .inr (.inl rfl)
theorem strsAt_ownR {w : World} {base c : Nat} {p : Option Addr} {l : List ByteArray} (h : w.ownsRow base 9 1 (.slice p l.length c) l.length (l.map Value.string)) : StrsAt w p l := by
  intro j hj
  have h' := h
  obtain ⟨_, (⟨h1, h2⟩ | ⟨g, cap, cur, h1, hb, hg, hn', hcap, _⟩)⟩ := h'
  · omega
  · injection h1 with h1 h2 h3
    subst h1
    refine ⟨g, 0, rfl, (Array.getElem?_eq_some_iff.1 hg).1, ?_⟩
    rw [Nat.zero_add, h.cellAt j (by omega)]; simp [hj]
theorem own_someS {w : World} {b n : Nat} {v : Value} {xs : List Value} (h : w.ownsRow b 9 1 v n xs) (hn : 0 < n) : ∃ g c, v = .slice (some ⟨g, 0, none⟩) n c ∧ n ≤ 9223372036854775807 := by
  obtain ⟨hl, (⟨h1, h0⟩ | ⟨g, cap, cur, h1, _, _, h2, h3, _⟩)⟩ := h
  · omega
  · exact ⟨g, cap, h1, by unfold maxLen at h3; omega⟩
/-- what rises is told by its members -/
theorem bef_uniq : ∀ (A B : List Rn), A.Perm B → (∀ x ∈ A, isN x.o = true) → A.Pairwise (fun x y => befB x y = true) → B.Pairwise (fun x y => befB x y = true) → A = B
  | [], B, hp, _, _, _ => by rw [List.nil_perm.1 hp]
  | a :: A, [], hp, _, _, _ => absurd (List.perm_nil.1 hp) (by simp)
  | a :: A, b :: B, hp, hn, hA, hB => by
    have ha := List.pairwise_cons.1 hA
    have hb := List.pairwise_cons.1 hB
    have e : a = b := by
      rcases List.mem_cons.1 (hp.mem_iff.1 (List.mem_cons_self ..)) with h | h
      · exact h
      · rcases List.mem_cons.1 (hp.mem_iff.2 (List.mem_cons_self ..)) with h' | h'
        · exact h'.symm
        · have l1 := bef_asym (hn b (List.mem_cons_of_mem _ h')) (hn a (List.mem_cons_self ..)) (hb.1 a h)
          rw [ha.1 b h'] at l1
          cases l1
    subst e
    rw [bef_uniq A B (List.Perm.cons_inv hp) (fun x hx => hn x (List.mem_cons_of_mem _ hx)) ha.2 hb.2]
section
variable {n : Nat} {W : World} {apex : ByteArray} {L : List Rn} {ord : List Nat} {Z RW NM C m cnt : Nat} {p : Option Addr} {cp : Nat} {f : ByteArray → Option Nat}
theorem Zon.rises (h : Zon n W apex L ord Z RW NM C m cnt p cp f) : (ord.map (rAt L)).Pairwise (fun x y => befB x y = true) := h.laid.rise (h.rule (i := 0) (by show 0 < 8; omega))
theorem Zon.isn (h : Zon n W apex L ord Z RW NM C m cnt p cp f) : ∀ x ∈ ord.map (rAt L), isN x.o = true := fun x hx => (ok_facts (h.laid.tok x hx)).1
end
/-- two zones of the same records hold the same list -/
theorem zon_same {n n' : Nat} {W W' : World} {apex apex' : ByteArray} {L L' : List Rn} {ord ord' : List Nat} {Z RW NM C m cnt Z' RW' NM' C' m' cnt' : Nat} {p p' : Option Addr} {cp cp' : Nat} {f f' : ByteArray → Option Nat} (h : Zon n W apex L ord Z RW NM C m cnt p cp f) (h' : Zon n' W' apex' L' ord' Z' RW' NM' C' m' cnt' p' cp' f') (hp : L.Perm L') : ord.map (rAt L) = ord'.map (rAt L') :=
  bef_uniq _ _ (h.laid.perm.trans (hp.trans h'.laid.perm.symm)) h.isn h.rises h'.rises
/-- two records behind one another -/
theorem bef_next {x y : Rn} (h : befB x y = true) : cmpB x.o y.o ≤ 0 ∧ (cmpB x.o y.o = 0 → x.t ≤ y.t) := by
  refine ⟨bef_cmp h, fun e => ?_⟩
  unfold befB at h
  rw [if_neg (by omega)] at h
  by_cases e2 : x.t ≠ y.t
  · rw [if_pos e2] at h
    have := of_decide_eq_true h
    omega
  · omega
theorem rs_two {V : World} {g : Nat} {l : List Rn} (h : RsAt V (some ⟨g, 0, none⟩) l) {j : Nat} (hj : j < l.length) : V.cell? ⟨g, j * 5, none⟩ = some (.string l[j].o) ∧ V.cell? ⟨g, j * 5 + 1, none⟩ = some (.int .i64 l[j].t) := by
  obtain ⟨ga, oa, ea, -, a0, a1, -, -, -⟩ := h j hj
  injection ea with ea
  injection ea with ea1 ea2
  subst ea1 ea2
  rw [Nat.zero_add] at a0 a1
  exact ⟨a0, a1⟩

set_option maxRecDepth 100000 in
set_option maxHeartbeats 8000000 in
/-- ZoneRowed -/
theorem zoneRowed_any (apex : ByteArray) (L : List Rn) (p : Option Addr) (cap : Nat) (w : World) (hap : apex.size ≤ 1048576) (hL : L.length ≤ 1048576) (hat : RsAt w p L) (hs : ∀ j, j < L.length → rSm (rAt L j)) :
    Calls Tryz.prog 9 #[.string apex, .slice p L.length cap] w fun r w' => r = .returned (.bool true) ∧ Below w.heap.size w w' := by
  have HNw := hide' (new_any apex L p cap w hL hat hs hap)
  have HBg := hide' (fun V => begins_any V)
  by_cases hz : (mkC apex L).2 ≠ 0
  · obtain ⟨a, c0, hac⟩ : ∃ a c, mkC apex L = (a, c) := ⟨_, _, rfl⟩
    rw [hac] at hz
    have hc0 : (c0 != 0) = true := by simpa using hz
    have HN2 : Hid (∀ (V : World) (r : Ending) (w' : World), NwE apex L V r w' → r = .returned (.tuple #[.pointer none, .int .i64 a, .int .i64 c0]) ∧ Below V.heap.size V w') := fun V r w' h => by
      have := h.no (by rw [hac]; exact hz)
      rw [hac] at this
      exact ⟨this, h.bl⟩
    clear hz hac hat hs
    go_enter Tryz.func9, Tryz.ntmps9
    go_wp2_with (first
      | (go_at_call 10; refine HNw.out.mono ?_; intro e w2 hnw; obtain ⟨rfl, hB2⟩ := HN2.out _ _ _ hnw; have HB2 := hide' hB2; clear hnw hB2)
      | (go_at_call 25; refine (HBg.out _).mono ?_; rintro e w3 ⟨rfl, hB3⟩; have HB3 := hide' (bstep HB2.out hB3 HB2.out.size); clear hB3))
    go_ret
    exact ⟨rfl, HB3.out⟩
  · have hz0 : (mkC apex L).2 = 0 := by simpa using hz
    have HN2 : Hid (∀ (V : World) (r : Ending) (w' : World), NwE apex L V r w' → ∃ ord Z RW NM C m cnt p cp f, r = .returned (.tuple #[.pointer (some ⟨Z, 0, none⟩), .int .i64 0, .int .i64 0]) ∧ Zon V.heap.size w' apex L ord Z RW NM C m cnt p cp f ∧ Below V.heap.size V w') := fun V r w' h => by
      obtain ⟨ord, Z, RW, NM, C, m, cnt, p, cp, f, h1, h2⟩ := h.yes hz0
      exact ⟨ord, Z, RW, NM, C, m, cnt, p, cp, f, h1, h2, h.bl⟩
    have HRe : Hid (∀ (V : World) n ord Z RW NM C m cnt p cp f, Zon n V apex L ord Z RW NM C m cnt p cp f → Calls Tryz.prog 17 #[.pointer (some ⟨Z, 0, none⟩)] V fun r w' => ∃ g9 c9, r = .returned (.slice (some ⟨g9, 0, none⟩) L.length c9) ∧ RsAt w' (some ⟨g9, 0, none⟩) (ord.map (rAt L)) ∧ Below V.heap.size V w') := fun V n ord Z RW NM C m cnt p cp f h => by
      refine (zRecords_any h).mono ?_
      rintro r w' ⟨⟨v, rfl, ho⟩, hb⟩
      have hpos : 0 < L.length := by
        have hr := h.rthApex
        have hl := h.laid.tlen
        rcases Nat.eq_zero_or_pos L.length with h0 | h0
        · rw [h0] at hl
          rw [List.eq_nil_of_length_eq_zero hl] at hr
          cases hr
        · exact h0
      obtain ⟨g9, c9, rfl⟩ := own_someZ ho hpos
      exact ⟨g9, c9, rfl, rsAt_ownZ ho h.laid.tlen.symm, hb⟩
    have HSm : Hid (∀ x ∈ L, rSm x) := fun x hx => by
      obtain ⟨j, hj, rfl⟩ := List.getElem_of_mem hx
      rw [rAt_get hj]
      exact hs j hj
    have HZc : Hid ((mkC apex L).2 = 0) := hz0
    have HAp : Hid (apex.size ≤ 1048576) := hap
    clear hz hat hs hz0
    go_enter Tryz.func9, Tryz.ntmps9
    go_wp2_with (first
      | (go_at_call 10; refine HNw.out.mono ?_; intro e w2 hnw; obtain ⟨ord, Z, RW, NM, C, m, cnt, pz, cz, f, rfl, hzo, hB2⟩ := HN2.out _ _ _ hnw; have HZ2 := hide' hzo; have HB2 := hide' hB2; clear hnw hB2 hzo)
      | (go_at_call 25; refine (HBg.out _).mono ?_; rintro e w3 ⟨rfl, hB3⟩; have HZ3 := hide' (HZ2.out.step hB3); have HB3 := hide' (bstep HB2.out hB3 HB2.out.size); clear hB3)
      | (go_at_call 17; refine (HRe.out _ _ _ _ _ _ _ _ _ _ _ _ HZ3.out).mono ?_; rintro e w4 ⟨g9, c9, rfl, hr4, hB4⟩; have HR4 := hide' hr4; have HZ4 := hide' (HZ3.out.step hB4); have HB4 := hide' (bstep HB3.out hB4 HB3.out.size); clear hr4 hB4))
    have HTl := hide' HZ4.out.laid.tlen
    have HRi := hide' HZ4.out.rises
    have HOk := hide' HZ4.out.laid.tok
    have HPe := hide' HZ4.out.laid.perm
    have hfew := HZ4.out.few
    obtain ⟨Tl, hTl⟩ : ∃ T, ord.map (rAt L) = T := ⟨_, rfl⟩
    have HEq := hide' hTl
    rw [hTl] at HTl HRi HOk HPe HR4
    clear hTl
    go_loopw [9] (fun kv wv => ∃ k : Nat, kv = .int .i64 (k : Int) ∧ 1 ≤ k ∧ (k ≤ L.length ∨ k = 1) ∧ Hid (Below w4.heap.size w4 wv)) (fun kv _ => L.length + 1 - (intOf kv).toNat)
    case atStart => exact ⟨1, by go_num, Nat.le_refl _, Or.inr rfl, Below.refl _ _⟩
    case round =>
      obtain ⟨k, rfl, hk1, hk2, HBv⟩ := hrel
      have HK2 := hide' hk2
      clear hk2
      by_cases hlt : k < L.length
      · obtain ⟨j, hj⟩ : ∃ j, k = j + 1 := ⟨k - 1, by omega⟩
        have hjT : j < Tl.length := by have := HTl.out; omega
        have hkT : k < Tl.length := by have := HTl.out; omega
        have hbef := bef_next (List.pairwise_iff_getElem.1 HRi.out j k hjT hkT (by omega))
        have hx := ok_facts (HOk.out _ (List.getElem_mem hjT))
        have hy := ok_facts (HOk.out _ (List.getElem_mem hkT))
        have hrg := cmpB_rng Tl[j].o Tl[k].o
        have HCm := hide' (fun V => compare_any Tl[j].o Tl[k].o V (by have := hx.2.2.2.2.2.2.2.2.1; unfold maxLen; omega) (by have := hy.2.2.2.2.2.2.2.2.1; unfold maxLen; omega))
        have HQ : Hid (∀ V, Below wr.heap.size wr V → V.cell? ⟨g9, j * 5, none⟩ = some (.string Tl[j].o) ∧ V.cell? ⟨g9, j * 5 + 1, none⟩ = some (.int .i64 Tl[j].t) ∧ V.cell? ⟨g9, k * 5, none⟩ = some (.string Tl[k].o) ∧ V.cell? ⟨g9, k * 5 + 1, none⟩ = some (.int .i64 Tl[k].t)) := fun V hV => by
          have hr := rs_stay (rs_stay HR4.out HBv.out) hV
          exact ⟨(rs_two hr hjT).1, (rs_two hr hjT).2, (rs_two hr hkT).1, (rs_two hr hkT).2⟩
        obtain ⟨xo, hxo⟩ : ∃ s, Tl[j].o = s := ⟨_, rfl⟩
        obtain ⟨xt, hxt⟩ : ∃ s, Tl[j].t = s := ⟨_, rfl⟩
        obtain ⟨yo, hyo⟩ : ∃ s, Tl[k].o = s := ⟨_, rfl⟩
        obtain ⟨yt, hyt⟩ : ∃ s, Tl[k].t = s := ⟨_, rfl⟩
        rw [hxo] at HQ HCm hbef hrg
        rw [hxt] at HQ hbef
        rw [hyo] at HQ HCm hbef hrg
        rw [hyt] at HQ hbef
        clear hxo hxt hyo hyt hx hy
        have i1 : IntKind.i64.wrap ((k : Int) - 1) = (j : Int) := by rw [IntWalk.i64_in] <;> omega
        have i2 : (0 : Int) ≤ (j : Int) := by omega
        have i3 : (j : Int) < (L.length : Int) := by omega
        have i4 : (k : Int) < (L.length : Int) := by omega
        have i5 : (0 : Int) ≤ (k : Int) := by omega
        have hkL : k ≤ 2000 := by omega
        have HJ : Hid (k = j + 1) := hj
        obtain ⟨c, hc⟩ : ∃ c, cmpB xo yo = c := ⟨_, rfl⟩
        rw [hc] at HCm hbef hrg
        obtain ⟨hb1, hb2⟩ := hbef
        clear hj hc hjT hkT
        obtain ⟨a0, a1, b0, b1⟩ := HQ.out _ (Below.refl wr.heap.size wr)
        have hB := (Below.refl wr.heap.size wr).drew
        by_cases hc0 : c = 0
        · subst hc0
          have ht : ¬ yt < xt := by have := hb2 rfl; omega
          clear hb1 hb2 hrg
          go_wp2_with fail
          go_region_held3 (fun V => V.cell? ⟨g9, j * 5, none⟩ = some (.string xo) ∧ V.cell? ⟨g9, k * 5, none⟩ = some (.string yo)) (first | go_keep | (with_reducible exact ⟨(HQ.out _ hB).1, (HQ.out _ hB).2.2.1⟩) | (with_reducible exact ⟨(HQ.out _ hB.drew).1, (HQ.out _ hB.drew).2.2.1⟩))
            ((go_at_call 32; refine (HCm.out _).mono ?_; rintro e w6 ⟨rfl, hB5⟩; have hB := below_any hB hB5 (by first | exact .inl rfl | exact .inr rfl) hB.size; clear hB5))
          all_goals
            obtain ⟨q0, q1, q2, q3⟩ := HQ.out _ hB
            go_wp2_with fail
            go_region_held3 (fun V => V.cell? ⟨g9, j * 5 + 1, none⟩ = some (.int .i64 xt) ∧ V.cell? ⟨g9, k * 5 + 1, none⟩ = some (.int .i64 yt)) (first | go_keep) (fail)
            have hB := hB.drew
            go_wp2_with fail
            exact ⟨⟨k + 1, by go_num, by omega, Or.inl (by omega), bstep HBv.out hB HBv.out.size⟩, by simp [intOf] <;> omega⟩
        · have hcm : c = -1 := by omega
          clear hb1 hb2 hc0 hrg
          subst hcm
          go_wp2_with fail
          go_region_held3 (fun V => V.cell? ⟨g9, j * 5, none⟩ = some (.string xo) ∧ V.cell? ⟨g9, k * 5, none⟩ = some (.string yo)) (first | go_keep | (with_reducible exact ⟨(HQ.out _ hB).1, (HQ.out _ hB).2.2.1⟩) | (with_reducible exact ⟨(HQ.out _ hB.drew).1, (HQ.out _ hB.drew).2.2.1⟩))
            ((go_at_call 32; refine (HCm.out _).mono ?_; rintro e w6 ⟨rfl, hB5⟩; have hB := below_any hB hB5 (by first | exact .inl rfl | exact .inr rfl) hB.size; clear hB5))
          all_goals
            go_wp2_with fail
            go_region
            have hB := hB.drew
            go_wp2_with fail
            exact ⟨⟨k + 1, by go_num, by omega, Or.inl (by omega), bstep HBv.out hB HBv.out.size⟩, by simp [intOf] <;> omega⟩
      · have HNa0 := hide' HZ4.out.laid.na
        have HN3 : Hid (∀ V, Below w4.heap.size w4 V → Calls Tryz.prog 10 #[.string apex, .slice (some ⟨g9, 0, none⟩) L.length c9] V fun r w' => ∃ ord' Z' RW' NM' C' m' cnt' p' cp' f', r = .returned (.tuple #[.pointer (some ⟨Z', 0, none⟩), .int .i64 0, .int .i64 0]) ∧ (Zon V.heap.size w' apex Tl ord' Z' RW' NM' C' m' cnt' p' cp' f' ∧ ord'.map (rAt Tl) = Tl) ∧ Below V.heap.size V w') := fun V hV => by
          have hq := new_any apex Tl (some ⟨g9, 0, none⟩) c9 V (by have := HTl.out; omega) (rs_stay HR4.out hV) (fun j hj => HSm.out _ (HPe.out.mem_iff.1 (rAt_mem hj))) HAp.out
          rw [HTl.out] at hq
          refine hq.mono ?_
          intro r w' h
          obtain ⟨ord', Z', RW', NM', C', m', cnt', p', cp', f', h1, h2⟩ := h.yes (by rw [mkC_perm HPe.out]; exact HZc.out)
          exact ⟨ord', Z', RW', NM', C', m', cnt', p', cp', f', h1, ⟨h2, by rw [← zon_same HZ4.out h2 HPe.out.symm]; exact HEq.out⟩, h.bl⟩
        have HRe2 : Hid (∀ (V : World) n ord' Z' RW' NM' C' m' cnt' p' cp' f', (Zon n V apex Tl ord' Z' RW' NM' C' m' cnt' p' cp' f' ∧ ord'.map (rAt Tl) = Tl) → Calls Tryz.prog 17 #[.pointer (some ⟨Z', 0, none⟩)] V fun r w' => ∃ g8 c8, r = .returned (.slice (some ⟨g8, 0, none⟩) L.length c8) ∧ RsAt w' (some ⟨g8, 0, none⟩) Tl ∧ Below V.heap.size V w') := fun V n ord' Z' RW' NM' C' m' cnt' p' cp' f' ⟨h, he⟩ => by
          refine (zRecords_any h).mono ?_
          rintro r w' ⟨⟨v, rfl, ho⟩, hb⟩
          rw [he, HTl.out] at ho
          have hpos : 0 < L.length := by
            have hr := HZ4.out.rthApex
            rw [HEq.out] at hr
            rcases Nat.eq_zero_or_pos L.length with h0 | h0
            · have hl := HTl.out
              rw [h0] at hl
              rw [List.eq_nil_of_length_eq_zero hl] at hr
              cases hr
            · exact h0
          obtain ⟨g9, c9, rfl⟩ := own_someZ ho hpos
          exact ⟨g9, c9, rfl, rsAt_ownZ ho HTl.out.symm, hb⟩
        obtain ⟨NL, hNL⟩ : ∃ l, namL apex Tl = l := ⟨_, rfl⟩
        obtain ⟨nl, hnl⟩ := names_first HZ4.out.laid.na HZ4.out.ownIn HZ4.out.rises HZ4.out.rthApex
        have hri := names_rise HZ4.out.laid.na HZ4.out.ownIn HZ4.out.rises
        have hsz := namL_good HZ4.out.laid.na HZ4.out.laid.tok
        have HNm0 := hide' (fun V (h : Below w4.heap.size w4 V) => names0_any (HZ4.out.step h))
        rw [HEq.out, hNL] at hnl hri hsz HNm0
        clear hNL
        obtain ⟨N, hN⟩ : ∃ N, NL.length = N := ⟨_, rfl⟩
        have hN0 : 0 < N := by rw [← hN, hnl]; simp
        have HNm : Hid (∀ V, Below w4.heap.size w4 V → Calls Tryz.prog 18 #[.pointer (some ⟨Z, 0, none⟩)] V fun r w' => ∃ gn cn, r = .returned (.slice (some ⟨gn, 0, none⟩) N cn) ∧ (StrsAt w' (some ⟨gn, 0, none⟩) NL ∧ N ≤ 9223372036854775807) ∧ Below V.heap.size V w') := fun V hV => by
          refine (HNm0.out V hV).mono ?_
          rintro r w' ⟨⟨v, rfl, ho⟩, hb⟩
          obtain ⟨gn, cn, rfl, hNb⟩ := own_someS ho (by rw [hN]; exact hN0)
          exact ⟨gn, cn, by rw [hN], ⟨strsAt_ownR ho, by rw [← hN]; exact hNb⟩, hb⟩
        have HSr : Hid (∀ V g8 c8, RsAt V (some ⟨g8, 0, none⟩) Tl → RsAt V (some ⟨g9, 0, none⟩) Tl → Calls Tryz.prog 16 #[.slice (some ⟨g8, 0, none⟩) L.length c8, .slice (some ⟨g9, 0, none⟩) L.length c9] V fun r w' => r = .returned (.bool true) ∧ Below V.heap.size V w') := fun V g8 c8 h1 h2 => by
          refine (sameRecords2 _ _ _ _ _ Tl V h1 h2 HTl.out.symm (by omega)).mono ?_
          rintro r w' ⟨rfl, m, rfl⟩
          exact ⟨rfl, rfl, rfl, rfl, Nat.le_refl _, fun _ _ => rfl⟩
        clear HNm0 HSm HN2 HRe HPe
        go_wp2_with (first
          | (go_at_call 10; refine (HN3.out _ HBv.out).mono ?_; rintro e w5 ⟨ord', Z', RW', NM', C', m', cnt', p', cp', f', rfl, hzo, hB5⟩; have HY5 := hide' hzo; have HB5 := hide' (bstep HBv.out hB5 HBv.out.size); clear hzo hB5)
          | (go_at_call 17; refine (HRe2.out _ _ _ _ _ _ _ _ _ _ _ _ HY5.out).mono ?_; rintro e w6 ⟨g8, c8, rfl, hr6, hB6⟩; have HR6 := hide' hr6; have HB6 := hide' (bstep HB5.out hB6 HB5.out.size); clear hr6 hB6)
          | (go_at_call 16; refine (HSr.out _ _ _ HR6.out (rs_stay HR4.out HB6.out)).mono ?_; rintro e w7 ⟨rfl, hB7⟩; have HB7 := hide' (bstep HB6.out hB7 HB6.out.size); clear hB7)
          | (go_at_call 18; refine (HNm.out _ HB7.out).mono ?_; rintro e w8 ⟨gn, cn, rfl, ⟨hs8, hNb⟩, hB8⟩; have HS8 := hide' hs8; have HB8 := hide' (bstep HB7.out hB8 HB7.out.size); clear hs8 hB8))
        have HNL := hide' hN
        have HHd := hide' hnl
        have HGn : Hid (gn < w8.heap.size) := by
          obtain ⟨g, o, e1, e2, e3⟩ := HS8.out 0 (by rw [hN]; exact hN0)
          injection e1 with e1
          injection e1 with e1 e7
          subst e1
          exact e2
        have HRr := hide' hri
        have HSz := hide' hsz
        clear hN hnl hri hsz hk1 HBv HK2 hlt HB5 HB6 HB7 HR6 HY5 HN3 HRe2 HNm HSr
        go_loopw [14] (fun kv wv => ∃ k : Nat, kv = .int .i64 (k : Int) ∧ 1 ≤ k ∧ Hid (k ≤ N ∨ k = 1) ∧ Hid (Below w8.heap.size w8 wv)) (fun kv _ => N + 1 - (intOf kv).toNat)
        case atStart => exact ⟨1, by go_num, Nat.le_refl _, Or.inr rfl, Below.refl _ _⟩
        case round =>
          obtain ⟨k, rfl, hk1, HK2, HBv⟩ := hrel
          by_cases hlt : k < N
          · obtain ⟨j, hj⟩ : ∃ j, k = j + 1 := ⟨k - 1, by omega⟩
            have hjT : j < NL.length := by have := HNL.out; omega
            have hkT : k < NL.length := by have := HNL.out; omega
            have hlo := List.pairwise_iff_getElem.1 HRr.out j k hjT hkT (by omega)
            have hrg := cmpB_rng NL[j] NL[k]
            have hcm : cmpB NL[j] NL[k] = -1 := by omega
            have HCm := hide' (fun V => compare_any NL[j] NL[k] V (by have := HSz.out _ (List.getElem_mem hjT); unfold maxLen; omega) (by have := HSz.out _ (List.getElem_mem hkT); unfold maxLen; omega))
            rw [hcm] at HCm
            obtain ⟨a0, a1⟩ : wr.cell? ⟨gn, j, none⟩ = some (.string NL[j]) ∧ wr.cell? ⟨gn, k, none⟩ = some (.string NL[k]) := by
              have hs := HS8.out.below HBv.out
              obtain ⟨g, o, e1, e2, e3⟩ := hs j hjT
              obtain ⟨g', o', e4, e5, e6⟩ := hs k hkT
              injection e1 with e1
              injection e1 with e1 e7
              injection e4 with e4
              injection e4 with e4 e8
              subst e1 e7 e4 e8
              rw [Nat.zero_add] at e3 e6
              exact ⟨e3, e6⟩
            obtain ⟨xo, hxo⟩ : ∃ s, NL[j] = s := ⟨_, rfl⟩
            obtain ⟨yo, hyo⟩ : ∃ s, NL[k] = s := ⟨_, rfl⟩
            rw [hxo] at HCm a0
            rw [hyo] at HCm a1
            clear hxo hyo hlo hrg hcm hjT hkT
            have i1 : IntKind.i64.wrap ((k : Int) - 1) = (j : Int) := by rw [IntWalk.i64_in] <;> omega
            have i2 : (0 : Int) ≤ (j : Int) := by omega
            have i3 : (j : Int) < (N : Int) := by omega
            have i4 : (k : Int) < (N : Int) := by omega
            have i5 : (0 : Int) ≤ (k : Int) := by omega
            have hkL : k ≤ 9223372036854775806 := by omega
            have HJ : Hid (k = j + 1) := hj
            clear hj
            have HQ : Hid (∀ V, Below wr.heap.size wr V → V.cell? ⟨gn, j, none⟩ = some (.string xo) ∧ V.cell? ⟨gn, k, none⟩ = some (.string yo)) := fun V hV => by
              have hg := HGn.out
              have hz := HBv.out.size
              exact ⟨(hV.cell (p := ⟨gn, j, none⟩) (by show gn < _; omega)).trans a0, (hV.cell (p := ⟨gn, k, none⟩) (by show gn < _; omega)).trans a1⟩
            have hB := (Below.refl wr.heap.size wr).drew
            go_wp2_with fail
            go_region_held3 (fun V => V.cell? ⟨gn, j, none⟩ = some (.string xo) ∧ V.cell? ⟨gn, k, none⟩ = some (.string yo)) (first | go_keep | (with_reducible exact HQ.out _ hB) | (with_reducible exact HQ.out _ hB.drew))
              ((go_at_call 32; refine (HCm.out _).mono ?_; rintro e w9 ⟨rfl, hB9⟩; have hB := below_any hB hB9 (by first | exact .inl rfl | exact .inr rfl) hB.size; clear hB9))
            all_goals
              go_wp2_with fail
              exact ⟨⟨k + 1, by go_num, by omega, Or.inl (by omega), bstep HBv.out hB HBv.out.size⟩, by simp [intOf] <;> omega⟩
          · have HEqv := hide' (fun V => equal_any (foldB apex) apex V (by have := HSz.out (foldB apex) (by rw [HHd.out]; simp); unfold maxLen; omega) (by have := HAp.out; unfold maxLen; omega))
            have het : eqB (foldB apex) apex = true := by rw [eq_dec ((zisN_fold HNa0.out).1), foldB_twice HNa0.out]; exact decide_eq_true rfl
            rw [het] at HEqv
            have HQ : Hid (∀ V, Below wr.heap.size wr V → V.cell? ⟨gn, 0, none⟩ = some (.string (foldB apex))) := fun V hV => by
              have hs := (HS8.out.below HBv.out).below hV
              rw [HHd.out] at hs
              obtain ⟨g, o, e1, e2, e3⟩ := hs 0 (by simp)
              injection e1 with e1
              injection e1 with e1 e7
              subst e1 e7
              exact e3
            have a0 := HQ.out _ (Below.refl wr.heap.size wr)
            have i6 : (0 : Int) < (N : Int) := by omega
            clear het
            obtain ⟨fa, hfa⟩ : ∃ s, foldB apex = s := ⟨_, rfl⟩
            rw [hfa] at HEqv HQ a0
            clear hfa HHd HRr HSz hN0 HK2 hk1
            go_wp2_with (go_at_call 27; refine (HEqv.out _).mono ?_; rintro e w9 ⟨rfl, hB9⟩; have HB9 := hide' (bstep HBv.out hB9 HBv.out.size); clear hB9)
            go_ret
            exact ⟨rfl, bstep HB4.out (bstep HB8.out HB9.out HB8.out.size) HB4.out.size⟩
end Go.Proofs.YthabenjghhmicaaGreat
