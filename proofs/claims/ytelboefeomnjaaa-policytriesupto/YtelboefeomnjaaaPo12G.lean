import Derived.Test.YtelboefeomnjaaaPo10G
import Derived.Test.YtelboefeomnjaaaLmaG
/-
  Proofs: PolicyTries: its walk. (The verifier's own text.)
-/
namespace Go.Proofs.Ytelboefeomnjaaa
set_option linter.unusedVariables false
set_option linter.unusedSimpArgs false
open Go.RowKit Go.Shelf Go.Maps Go.Proofs.Ytelboefeomnjaaa.Nm Go.Proofs.Ytelboefeomnjaaa.Zs

/-- are two records one? -/
def eqR (x y : Rn) : Bool := decide (x.o = y.o) && decide (x.t = y.t) && decide (x.c = y.c) && decide (x.l = y.l) && decide (x.d = y.d)
theorem eqR_iff (x y : Rn) : eqR x y = true ↔ x = y := by
  obtain ⟨xo, xt, xc, xl, xd⟩ := x
  obtain ⟨yo, yt, yc, yl, yd⟩ := y
  simp only [eqR, Bool.and_eq_true, decide_eq_true_eq, Rn.mk.injEq, and_assoc]
/-- how often a record stands in a list -/
def cnR (x : Rn) : List Rn → Nat
  | [] => 0
  | y :: l => (if eqR x y = true then 1 else 0) + cnR x l
theorem cnR_app (x : Rn) (l m : List Rn) : cnR x (l ++ m) = cnR x l + cnR x m := by
  induction l with
  | nil => simp [cnR]
  | cons y l ih => simp only [List.cons_append, cnR, ih]; omega
theorem cnR_none (x : Rn) : ∀ l : List Rn, x ∉ l → cnR x l = 0
  | [], _ => rfl
  | y :: l, h => by
    have h1 : eqR x y = false := by
      cases hb : eqR x y with
      | false => rfl
      | true => exact absurd (List.mem_cons.2 (.inl ((eqR_iff x y).1 hb))) h
    simp only [cnR, h1, cnR_none x l (fun h' => h (List.mem_cons_of_mem _ h'))]
    rfl
theorem cnR_one (x : Rn) : ∀ l : List Rn, l.Nodup → x ∈ l → cnR x l = 1
  | [], _, h => by cases h
  | y :: l, hn, h => by
    have hp := List.nodup_cons.1 hn
    by_cases e : x = y
    · subst e
      simp only [cnR, (eqR_iff x x).2 rfl, cnR_none x l hp.1]
      rfl
    · have h1 : eqR x y = false := by
        cases hb : eqR x y with
        | false => rfl
        | true => exact absurd ((eqR_iff x y).1 hb) e
      have hm : x ∈ l := by
        rcases List.mem_cons.1 h with h | h
        · exact absurd h e
        · exact h
      simp only [cnR, h1, cnR_one x l hp.2 hm]
      rfl
theorem cnR_le (x : Rn) : ∀ l : List Rn, cnR x l ≤ l.length
  | [] => Nat.le_refl _
  | y :: l => by have := cnR_le x l; simp only [cnR, List.length_cons]; split <;> omega
theorem cnR_succ {x : Rn} {L : List Rn} {j : Nat} (hj : j < L.length) : cnR x (L.take (j + 1)) = cnR x (L.take j) + (if eqR x L[j] = true then 1 else 0) := by
  rw [List.take_succ_eq_append_getElem hj, cnR_app]
  simp [cnR]
theorem nodup_of_srv {L : List Rn} (h : (L.map senS).Nodup) : L.Nodup := by
  unfold List.Nodup at h ⊢
  rw [List.pairwise_map] at h
  exact h.imp (fun hne e => hne (by rw [e]))
theorem two_list {a : ByteArray} (h : a.size = 2) : a.toList = [a[0], a[1]] := by
  rw [toList_eq]
  have : a.data.toList.length = 2 := by rw [Array.length_toList]; exact h
  match hl : a.data.toList, this with
  | [x, y], _ =>
    have h0 : a.data = #[x, y] := by rw [← hl, Array.toArray_toList]
    obtain ⟨d⟩ := a
    subst h0
    rfl
/-- two bytes in the order of their numbers -/
theorem two_less {a b : ByteArray} (ha : a.size = 2) (hb : b.size = 2) (h : vN a 2 ≤ vN b 2) : Op.bytesLess a.toList b.toList = true ∨ (a.toList == b.toList) = true := by
  rw [two_list ha, two_list hb]
  have e0 := bt_eq (s := a) (i := 0) (by omega)
  have e1 := bt_eq (s := a) (i := 1) (by omega)
  have f0 := bt_eq (s := b) (i := 0) (by omega)
  have f1 := bt_eq (s := b) (i := 1) (by omega)
  simp only [vN] at h
  have g0 := bt_lt a 1
  have g1 := bt_lt b 1
  by_cases h0 : a[0].toNat < b[0].toNat
  · left
    have : a[0] < b[0] := h0
    simp [Op.bytesLess, this]
  · have h00 : a[0] = b[0] := UInt8.toNat_inj.1 (by omega)
    by_cases h1 : a[1].toNat < b[1].toNat
    · left
      have : a[1] < b[1] := h1
      simp [Op.bytesLess, this, h00]
    · right
      have h11 : a[1] = b[1] := UInt8.toNat_inj.1 (by omega)
      rw [h00, h11]
      exact beq_self_eq_true _
/-- what the law asks of what Order gives -/
structure Tried (L O : List Rn) : Prop where
  len : O.length = L.length
  one : ∀ k (hk : k < O.length), cnR O[k] L = 1
  two : ∀ k (hk : k < O.length), 2 ≤ O[k].d.size
  up : ∀ k (hk : k + 1 < O.length), Op.bytesLess (O[k].d.extract 0 2).toList (O[k + 1].d.extract 0 2).toList = true ∨ ((O[k].d.extract 0 2).toList == (O[k + 1].d.extract 0 2).toList) = true
  ne : ∀ k (hk : k + 1 < O.length), O[k].d ≠ O[k + 1].d
theorem srv_owner {L : List Rn} (h : srvB L = true) : ∃ o, ∀ r ∈ L, foldB r.o = o ∧ r.t = 33 := by
  have h2 := (srv_facts h).2.1
  unfold srvB at h
  rw [Bool.and_eq_true, Bool.and_eq_true] at h
  obtain ⟨⟨h1, _⟩, _⟩ := h
  cases L with
  | nil => cases h1
  | cons x l =>
    unfold dsB at h1
    rw [Bool.and_eq_true] at h1
    refine ⟨foldB x.o, fun r hr => ⟨?_, (h2 r hr).2⟩⟩
    have h3 := h1.1
    simp only [Bool.not_eq_true'] at h3
    have h4 := (List.any_eq_false.1 h3) r hr
    unfold strB at h4
    simp only [Bool.not_eq_true, Bool.or_eq_false_iff, Bool.not_eq_false', bne_eq_false_iff_eq] at h4
    exact eqB_fold0 h4.2
theorem tried_of {L O : List Rn} (hs : srvB L = true) (hp : O.Perm L) (hu : O.Pairwise (fun a c => prf a ≤ prf c)) : Tried L O := by
  obtain ⟨h0, hall, hn⟩ := srv_facts hs
  have hnd := nodup_of_srv hn
  have h4 : ∀ r ∈ O, 4 ≤ r.d.size := fun r hr => by
    have hok := hall r (hp.mem_iff.1 hr)
    have := (ok_facts hok.1).2.2.2.2.1
    rw [hok.2] at this
    exact srv_size this
  refine ⟨hp.length_eq, fun k hk => cnR_one _ L hnd (hp.mem_iff.1 (List.getElem_mem hk)), fun k hk => by have := h4 _ (List.getElem_mem hk); omega, fun k hk => ?_, fun k hk => ?_⟩
  · have h1 := List.pairwise_iff_getElem.1 hu k (k + 1) (by omega) hk (by omega)
    have a1 := h4 _ (List.getElem_mem (show k < O.length by omega))
    have a2 := h4 _ (List.getElem_mem hk)
    refine two_less (by rw [ByteArray.size_extract]; omega) (by rw [ByteArray.size_extract]; omega) ?_
    simp only [prf, enO] at h1
    exact Int.ofNat_le.1 h1
  · have hno : (O.map senS).Nodup := ((hp.map senS).nodup_iff).2 hn
    unfold List.Nodup at hno
    rw [List.pairwise_map] at hno
    have h1 := List.pairwise_iff_getElem.1 hno k (k + 1) (by omega) hk (by omega)
    obtain ⟨o, ho⟩ := srv_owner hs
    have a1 := ho _ (hp.mem_iff.1 (List.getElem_mem (show k < O.length by omega)))
    have a2 := ho _ (hp.mem_iff.1 (List.getElem_mem hk))
    intro he
    apply h1
    unfold senS
    rw [a1.1, a2.1, a1.2, a2.2, he]
end Go.Proofs.Ytelboefeomnjaaa

/-
  Proofs: PolicyTries. (The verifier's own text.)
-/
namespace Go.Proofs.Ytelboefeomnjaaa
set_option linter.unusedVariables false
set_option linter.unusedSimpArgs false
open Go.RowKit Go.Shelf Go.Maps Go.Proofs.Ytelboefeomnjaaa.Nm Go.Proofs.Ytelboefeomnjaaa.Zs

theorem tl_inj {a b : ByteArray} (h : a.toList = b.toList) : a = b := by
  rw [toList_eq, toList_eq] at h
  exact ByteArray.ext (Array.toList_inj.1 h)
theorem order_any (L : List Rn) (p : Option Addr) (cap : Nat) (xs : List Int) (px : Option Addr) (cx : Nat) (w : World) (hL : L.length ≤ 1048576) (hat : RsAt w p L) (hz : ∀ r ∈ L, r.o.size ≤ 1048576 ∧ r.d.size ≤ 1048576) (hzx : ZAt w w.heap.size px xs) (hxl0 : xs.length ≤ 1048576) (hxb : ∀ x ∈ xs, -9223372036854775808 ≤ x ∧ x ≤ 9223372036854775807) :
    Calls Try.prog 4 #[.slice p L.length cap, .slice px xs.length cx] w (OrE L w) := by
  cases hs : srvB L with
  | false => exact order_no L p cap xs px cx w hL hat (fun r hr => ⟨by have := (hz r hr).1; unfold maxLen; omega, by have := (hz r hr).2; omega⟩) hs
  | true => exact order_yes L p cap xs px cx w hL hat hz hs hzx hxl0 hxb
set_option maxRecDepth 100000 in
set_option maxHeartbeats 8000000 in
/-- PolicyTries -/
theorem policyTries_any (L : List Rn) (p : Option Addr) (cap : Nat) (xs : List Int) (px : Option Addr) (cx : Nat) (w : World) (hL : L.length ≤ 1048576) (hat : RsAt w p L) (hz : ∀ r ∈ L, r.o.size ≤ 1048576 ∧ r.d.size ≤ 1048576) (hzx : ZAt w w.heap.size px xs) (hxl0 : xs.length ≤ 1048576) (hxb : ∀ x ∈ xs, -9223372036854775808 ≤ x ∧ x ≤ 9223372036854775807) :
    Calls Try.prog 3 #[.slice p L.length cap, .slice px xs.length cx] w fun r w' => r = .returned (.bool true) ∧ Below w.heap.size w w' := by
  have HO := hide' (order_any L p cap xs px cx w hL hat hz hzx hxl0 hxb)
  have HA := hide' (fun V => alive_any V)
  have HAT := hide' hat
  clear hat hz hzx hxb
  go_enter Try.func3, Try.ntmps3
  go_wp2_with fail
  go_at_call 4
  refine HO.out.mono ?_
  rintro e w1 ⟨q, c, O, er, rfl, h1, h2, hrs, hB1⟩
  by_cases he : er = 0
  · subst he
    by_cases hO : O = []
    · subst hO
      have HB1 := hide' hB1
      clear h1 h2 hrs hB1 HO HAT
      go_wp2_with (go_at_call 5; refine (HA.out _).mono ?_; rintro e w2 ⟨rfl, hB2⟩; have HB2 := hide' (bstep HB1.out hB2 HB1.out.size); clear hB2)
      go_ret
      exact ⟨rfl, HB2.out⟩
    · obtain ⟨hs, hp, hu⟩ := h2 hO
      have HT := hide' (tried_of hs hp hu)
      have hOl : 0 < O.length := List.length_pos_iff.2 hO
      have HB1 := hide' hB1
      have HRs := hide' hrs
      have hlen := HT.out.len
      have HLe := hide' hlen
      have hOb : O.length ≤ 1048576 := by omega
      have hpo : (0 : Int) < (O.length : Int) := by omega
      have hle1 : ((O.length : Int) == (L.length : Int)) = true := by rw [beq_iff_eq, hlen]
      have hle3 : ((O.length : Int) != (L.length : Int)) = false := by unfold bne; rw [hle1]; rfl
      have hle2 : ((O.length : Int) == 0) = false := by rw [beq_eq_false_iff_ne]; omega
      clear h1 h2 hrs hB1 HO hs hp hu hO hlen
      go_wp2_with (go_at_call 5; refine (HA.out _).mono ?_; rintro e w2 ⟨rfl, hB2⟩; have HB2 := hide' (bstep HB1.out hB2 HB1.out.size); have HR2 := hide' (rsAt_below7 HRs.out hB2); clear hB2)
      go_loopw [43] (fun kv wr => ∃ k : Nat, kv = .int .i64 (k : Int) ∧ k ≤ O.length ∧ Hid (Below w2.heap.size w2 wr)) (fun kv _ => O.length - (intOf kv).toNat)
      case atStart => exact ⟨0, rfl, Nat.zero_le _, Below.refl _ _⟩
      case round =>
        obtain ⟨k, rfl, hk, HBk⟩ := hrel
        by_cases hlt : k < O.length
        · have pk : (k : Int) < (O.length : Int) := by omega
          have pk0 : (0 : Int) ≤ (k : Int) := by omega
          obtain ⟨g, off, rfl, hg, y0, y1, y2, y3, y4⟩ := (rsAt_below7 HR2.out HBk.out) k hlt
          have HOne := hide' (HT.out.one k hlt)
          have hd2 := HT.out.two k hlt
          obtain ⟨x, hx⟩ : ∃ x, O[k] = x := ⟨_, rfl⟩
          rw [hx] at y0 y1 y2 y3 y4 HOne hd2
          have HXk := hide' hx
          clear hx
          obtain ⟨xo, xt, xc, xl, xd⟩ := x
          simp only at y0 y1 y2 y3 y4 hd2
          obtain ⟨wa, hwa⟩ : ∃ wa, wr.alloc (.cells #[.string xo, .int .i64 xt, .int .i64 xc, .int .i64 xl, .string xd] 29) = wa := ⟨_, rfl⟩
          have HXa : Hid (Bx wa wr.heap.size #[.string xo, .int .i64 xt, .int .i64 xc, .int .i64 xl, .string xd] 29) := hwa ▸ World.alloc_heap_new wr _
          have HBa : Hid (Below w2.heap.size w2 wa) := bstep HBk.out (alloc_belP hwa) HBk.out.size
          obtain ⟨R, hR⟩ : ∃ R, wr.heap.size = R := ⟨_, rfl⟩
          rw [hR] at HXa
          go_wp2_with fail
          try rw [hR]
          clear hR hwa y0 y1 y2 y3 y4
          go_loopw [9, 50] (fun nv jv wv => ∃ j : Nat, jv = .int .i64 (j : Int) ∧ j ≤ L.length ∧ nv = .int .i64 (cnR ⟨xo, xt, xc, xl, xd⟩ (L.take j) : Int) ∧ Hid (Below wa.heap.size wa wv)) (fun _ jv _ => L.length - (intOf jv).toNat)
          case atStart => exact ⟨0, rfl, Nat.zero_le _, rfl, Below.refl _ _⟩
          case round =>
            obtain ⟨j, rfl, hj, rfl, HBj⟩ := hrel
            by_cases hjl : j < L.length
            · have pj : (j : Int) < (L.length : Int) := by omega
              have pj0 : (0 : Int) ≤ (j : Int) := by omega
              obtain ⟨gy, oy, rfl, hgy, z0, z1, z2, z3, z4⟩ := (rsAt_below7 HAT.out (bstep HB2.out (bstep HBa.out HBj.out HBa.out.size) HB2.out.size)) j hjl
              have HSu := hide' (cnR_succ (x := ⟨xo, xt, xc, xl, xd⟩) hjl)
              have hcl := cnR_le ⟨xo, xt, xc, xl, xd⟩ (L.take j)
              rw [List.length_take] at hcl
              obtain ⟨y, hy⟩ : ∃ y, L[j] = y := ⟨_, rfl⟩
              rw [hy] at z0 z1 z2 z3 z4 HSu
              clear hy
              obtain ⟨yo, yt, yc, yl, yd⟩ := y
              simp only at z0 z1 z2 z3 z4
              obtain ⟨n, hn⟩ : ∃ n, cnR ⟨xo, xt, xc, xl, xd⟩ (L.take j) = n := ⟨_, rfl⟩
              rw [hn] at hcl HSu ⊢
              clear hn
              obtain ⟨wb, hwb⟩ : ∃ wb, wr.alloc (.cells #[.string yo, .int .i64 yt, .int .i64 yc, .int .i64 yl, .string yd] 29) = wb := ⟨_, rfl⟩
              have HYb : Hid (Bx wb wr.heap.size #[.string yo, .int .i64 yt, .int .i64 yc, .int .i64 yl, .string yd] 29) := hwb ▸ World.alloc_heap_new wr _
              have HBb : Hid (Below wa.heap.size wa wb) := bstep HBj.out (alloc_belP hwb) HBj.out.size
              have HXb : Hid (Bx wb R #[.string xo, .int .i64 xt, .int .i64 xc, .int .i64 xl, .string xd] 29) := Bx.below HXa.out HBb.out HXa.out.lt
              obtain ⟨b0, b1, b2, b3, b4⟩ := bx5P HXb.out
              obtain ⟨c0, c1, c2, c3, c4⟩ := bx5P HYb.out
              by_cases e0 : xo = yo
              · subst e0
                by_cases e1 : xt = yt
                · subst e1
                  by_cases e2 : xc = yc
                  · subst e2
                    by_cases e3 : xl = yl
                    · subst e3
                      by_cases e4 : xd = yd
                      · subst e4
                        rw [if_pos ((eqR_iff _ _).2 rfl)] at HSu
                        go_wp2_with fail
                        exact ⟨⟨j + 1, by go_num, by omega, by rw [HSu.out]; rfl, HBb.out⟩, by simp [intOf]; omega⟩
                      · rw [if_neg (fun h => e4 (congrArg Rn.d ((eqR_iff _ _).1 h)))] at HSu
                        have q4 : ¬ xd.toList = yd.toList := fun h => e4 (tl_inj h)
                        go_wp2_with fail
                        exact ⟨⟨j + 1, by go_num, by omega, by rw [HSu.out]; rfl, HBb.out⟩, by simp [intOf]; omega⟩
                    · rw [if_neg (fun h => e3 (congrArg Rn.l ((eqR_iff _ _).1 h)))] at HSu
                      go_wp2_with fail
                      exact ⟨⟨j + 1, by go_num, by omega, by rw [HSu.out]; rfl, HBb.out⟩, by simp [intOf]; omega⟩
                  · rw [if_neg (fun h => e2 (congrArg Rn.c ((eqR_iff _ _).1 h)))] at HSu
                    go_wp2_with fail
                    exact ⟨⟨j + 1, by go_num, by omega, by rw [HSu.out]; rfl, HBb.out⟩, by simp [intOf]; omega⟩
                · rw [if_neg (fun h => e1 (congrArg Rn.t ((eqR_iff _ _).1 h)))] at HSu
                  go_wp2_with fail
                  exact ⟨⟨j + 1, by go_num, by omega, by rw [HSu.out]; rfl, HBb.out⟩, by simp [intOf]; omega⟩
              · rw [if_neg (fun h => e0 (congrArg Rn.o ((eqR_iff _ _).1 h)))] at HSu
                have q0 : ¬ xo.toList = yo.toList := fun h => e0 (tl_inj h)
                go_wp2_with fail
                exact ⟨⟨j + 1, by go_num, by omega, by rw [HSu.out]; rfl, HBb.out⟩, by simp [intOf]; omega⟩
            · obtain rfl : j = L.length := by omega
              rw [List.take_length, HOne.out]
              have HBz : Hid (Below w2.heap.size w2 wr) := bstep HBa.out HBj.out HBa.out.size
              have HXz : Hid (Bx wr R #[.string xo, .int .i64 xt, .int .i64 xc, .int .i64 xl, .string xd] 29) := Bx.below HXa.out HBj.out HXa.out.lt
              obtain ⟨b0, b1, b2, b3, b4⟩ := bx5P HXz.out
              rcases Nat.eq_zero_or_pos k with hk0 | hk0
              · subst hk0
                go_wp2_with fail
                go_region
                go_wp2_with fail
                exact ⟨⟨0 + 1, by go_num, by omega, HBz.out.drew⟩, by simp [intOf]; omega⟩
              · obtain ⟨m, hkm⟩ : ∃ m, m + 1 = k := ⟨k - 1, by omega⟩
                have hm : m < O.length := by omega
                have hm1 : m + 1 < O.length := by omega
                obtain ⟨g', off', hp', hg', y0, y1, y2, y3, y4⟩ := (rsAt_below7 HR2.out HBz.out) m hm
                injection hp' with hp'
                injection hp' with p1 p2
                subst p1 p2
                have hup := HT.out.up m hm1
                have hne := HT.out.ne m hm1
                have hm2 := HT.out.two m hm
                have hX' : O[m + 1] = ⟨xo, xt, xc, xl, xd⟩ := by
                  have := HXk.out
                  subst hkm
                  exact this
                rw [hX'] at hup hne
                obtain ⟨x, hx⟩ : ∃ x, O[m] = x := ⟨_, rfl⟩
                rw [hx] at y0 y1 y2 y3 y4 hup hne hm2
                clear hx hX'
                obtain ⟨mo, mt, mc, ml, md⟩ := x
                simp only at y0 y1 y2 y3 y4 hup hne hm2
                have ek : IntKind.i64.wrap ((k : Int) - 1) = (m : Int) := by rw [IntKind.wrap_i64]; omega
                have q0 : (0 : Int) ≤ (m : Int) := by omega
                have q1 : (m : Int) < (O.length : Int) := by omega
                have q2 : (0 : Int) < (k : Int) := by omega
                have r1 : (2 : Int) ≤ (xd.size : Int) := by omega
                have r2 : (2 : Int) ≤ (md.size : Int) := by omega
                have d4 : ¬ md.toList = xd.toList := fun h => hne (tl_inj h)
                clear hne hkm hm hm1
                rcases hup with hup | hup
                · go_wp2_with fail
                  go_region_held3 (fun V => V.cell? ⟨g, off + m * 5, none⟩ = some (.string mo) ∧ V.cell? ⟨g, off + m * 5 + 1, none⟩ = some (.int .i64 mt) ∧ V.cell? ⟨g, off + m * 5 + 2, none⟩ = some (.int .i64 mc) ∧ V.cell? ⟨g, off + m * 5 + 3, none⟩ = some (.int .i64 ml) ∧ V.cell? ⟨g, off + m * 5 + 4, none⟩ = some (.string md) ∧ V.cell? ⟨R, 0, none⟩ = some (.string xo) ∧ V.cell? ⟨R, 1, none⟩ = some (.int .i64 xt) ∧ V.cell? ⟨R, 2, none⟩ = some (.int .i64 xc) ∧ V.cell? ⟨R, 3, none⟩ = some (.int .i64 xl) ∧ V.cell? ⟨R, 4, none⟩ = some (.string xd)) (first | go_keep) (fail)
                  all_goals
                    go_wp2_with fail
                    exact ⟨⟨k + 1, by go_num, by omega, HBz.out.drew⟩, by simp [intOf]; omega⟩
                · go_wp2_with fail
                  go_region_held3 (fun V => V.cell? ⟨g, off + m * 5, none⟩ = some (.string mo) ∧ V.cell? ⟨g, off + m * 5 + 1, none⟩ = some (.int .i64 mt) ∧ V.cell? ⟨g, off + m * 5 + 2, none⟩ = some (.int .i64 mc) ∧ V.cell? ⟨g, off + m * 5 + 3, none⟩ = some (.int .i64 ml) ∧ V.cell? ⟨g, off + m * 5 + 4, none⟩ = some (.string md) ∧ V.cell? ⟨R, 0, none⟩ = some (.string xo) ∧ V.cell? ⟨R, 1, none⟩ = some (.int .i64 xt) ∧ V.cell? ⟨R, 2, none⟩ = some (.int .i64 xc) ∧ V.cell? ⟨R, 3, none⟩ = some (.int .i64 xl) ∧ V.cell? ⟨R, 4, none⟩ = some (.string xd)) (first | go_keep) (fail)
                  all_goals
                    go_wp2_with fail
                    exact ⟨⟨k + 1, by go_num, by omega, HBz.out.drew⟩, by simp [intOf]; omega⟩
        · obtain rfl : k = O.length := by omega
          have HBe : Hid (Below w.heap.size w wr) := bstep HB2.out HBk.out HB2.out.size
          go_wp2_with fail
          go_ret
          exact ⟨rfl, HBe.out⟩
  · have hO := h1 he
    subst hO
    have HB1 := hide' hB1
    have hen : (er == 0) = false := by rw [beq_eq_false_iff_ne]; exact he
    clear h1 h2 hrs hB1 HO HAT
    go_wp2_with (go_at_call 5; refine (HA.out _).mono ?_; rintro e w2 ⟨rfl, hB2⟩; have HB2 := hide' (bstep HB1.out hB2 HB1.out.size); clear hB2)
    go_ret
    exact ⟨rfl, HB2.out⟩
end Go.Proofs.Ytelboefeomnjaaa
