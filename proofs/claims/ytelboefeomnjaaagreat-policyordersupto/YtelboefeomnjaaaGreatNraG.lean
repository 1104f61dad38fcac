import Derived.Test.YtelboefeomnjaaaGreatNr6G
import Derived.Test.YtelboefeomnjaaaGreatQo5G
import Derived.Test.YtelboefeomnjaaaGreatOw0G
import Derived.Test.YtelboefeomnjaaaGreatLmaG
import Derived.Test.YtelboefeomnjaaaGreatMathG
import Derived.Test.YtelboefeomnjaaaGreatChecked
import Derived.Deep.Fields
import Derived.ChangeSlices
import Derived.Test.YtelboefeomnjaaaGreatRn0G
import Derived.Test.YtelboefeomnjaaaGreatCntG
import Derived.Test.YtelboefeomnjaaaGreatRows
import Derived.Test.YtelboefeomnjaaaGreatVs1G
import Derived.ProofKit
import Derived.OpenShut
import Derived.JoinedCond
import Derived.ShutString
import Derived.ChangeOld
import Derived.Carry
/-
  What PolicyOrders's law wants: gazetteersame.Mark, Numbers; a copy of numbers; how long the answers are. (The verifier's own text.)
-/
namespace Go.Proofs.YtelboefeomnjaaaGreat
set_option linter.unusedVariables false
set_option linter.unusedSimpArgs false
open Go.RowKit Go.Shelf Go.Maps Go.Proofs.YtelboefeomnjaaaGreat.Nm Go.Proofs.YtelboefeomnjaaaGreat.Zs

theorem grown_setR (w : World) (g o : Nat) (r : Rn) : w.grownBy (setR w g o r) (some g) := by rw [setR_cells]; exact grown_setCells g _ _ _

set_option maxRecDepth 100000 in
set_option maxHeartbeats 4000000 in
/-- gazetteersame.Mark -/
theorem mark2_any (g c n : Nat) (M : List Rn) (rest : List Value) (w : World) (h : Rb w g M rest) (hn : n ≤ M.length) (hM : M.length ≤ 1048580) :
    Calls Tryz.prog 13 #[.slice (some ⟨g, 0, none⟩) n c] w fun r w' => r = .returned (.tuple #[]) ∧ w.grownBy w' (some g) := by
  have HR := hide' h
  clear h
  go_enter Tryz.func13, Tryz.ntmps13
  go_wp2_with fail
  go_loopw [5] (fun kv wr => ∃ k : Nat, kv = .int .i64 (k : Int) ∧ k ≤ n ∧ Hid (∃ M', Rb wr g M' rest ∧ M'.length = M.length) ∧ Hid (w.grownBy wr (some g))) (fun kv _ => n - (intOf kv).toNat)
  case atStart => exact ⟨0, rfl, Nat.zero_le _, ⟨M, HR.out, rfl⟩, grown_refl _ _⟩
  case round =>
    obtain ⟨k, rfl, hk, HX, HG⟩ := hrel
    by_cases hlt : k < n
    · obtain ⟨M', hr, hl⟩ := HX.out
      have hkM : k < M'.length := by omega
      obtain ⟨c0, c1, c2, c3, c4⟩ := hr.cells hkM
      have f0 := Bx.free hr (k * 5)
      have f1 := Bx.free hr (k * 5 + 1)
      have f2 := Bx.free hr (k * 5 + 2)
      have f3 := Bx.free hr (k * 5 + 3)
      have f4 := Bx.free hr (k * 5 + 4)
      have pk : (k : Int) < (n : Int) := by omega
      have pk0 : (0 : Int) ≤ (k : Int) := by omega
      have HP : Hid (∀ r : Rn, Rb (setR wr g (k * 5) r) g (M'.set k r) rest ∧ (M'.set k r).length = M.length ∧ w.grownBy (setR wr g (k * 5) r) (some g)) := fun r => ⟨hr.put hkM r, by rw [List.length_set]; exact hl, grown_trans HG.out (grown_setR _ _ _ _)⟩
      have hng : IntKind.i64.wrap (-(k : Int)) = -(k : Int) := by rw [IntWalk.i64_in]; omega
      have hng2 : IntKind.i64.wrap (-(k : Int) - 1) = -(k : Int) - 1 := by rw [IntWalk.i64_in]; omega
      clear hr
      go_wp2_with fail
      have hP := HP.out ⟨⟨#[109, 97, 114, 107]⟩, -(k : Int) - 1, 0, 0, ⟨#[]⟩⟩
      exact ⟨⟨k + 1, by go_num, by omega, ⟨_, hP.1, hP.2.1⟩, hP.2.2⟩, by simp [intOf]; omega⟩
    · obtain rfl : k = n := by omega
      go_wp2_with fail
      go_end0
      exact ⟨rfl, HG.out⟩
set_option maxRecDepth 100000 in
theorem mark_none (p : Option Addr) (c : Nat) (w : World) : Calls Tryz.prog 13 #[.slice p 0 c] w fun r w' => r = .returned (.tuple #[]) ∧ w' = w := by
  go_enter Tryz.func13, Tryz.ntmps13
  go_wp2_with fail
  go_loopw [5] (fun kv wr => kv = .int .i64 0 ∧ wr = w) (fun _ _ => 0)
  case atStart => exact ⟨rfl, rfl⟩
  case round =>
    obtain ⟨rfl, rfl⟩ := hrel
    go_wp2_with fail
    go_end0
    exact ⟨rfl, rfl⟩
/-- Mark of an own row, empty or not -/
theorem markQ_any {W : World} {b c n : Nat} {p : Option Addr} {T : List Rn} (ho : W.ownsRow b 42 5 (.slice p n c) n (rce5 T)) (hT : T.length = n) (hL : n ≤ 1048576) :
    Calls Tryz.prog 13 #[.slice p n c] W fun r w' => r = .returned (.tuple #[]) ∧ W.grownBy w' (Value.slice p n c).ownBlock := by
  rcases Nat.eq_zero_or_pos n with h0 | h0
  · subst h0
    refine (mark_none p c W).mono ?_
    rintro r w' ⟨hr, rfl⟩
    exact ⟨hr, grown_refl _ _⟩
  · obtain ⟨g, c', hv⟩ := own_somP ho h0
    injection hv with h1 h2 h3
    subst h1 h3
    obtain ⟨rest, hr, _⟩ := rb_ownM ho
    exact mark2_any g c n T rest W hr (by omega) (by omega)
theorem wpList_append_intsQ {w : World} {ops : Array Oper} {rest : List Oper} {o : Oper} {a : Act} {Q : Exit → Act → World → Prop} (hgd : o.guard = none) (s x : Operand)
    (ho : o.op = .call { callee := .builtin .append, args := #[s, x], argTypes := #[23, 23] })
    (base : Nat) (hs : a.eval s = .slice none 0 0)
    (p : Option Addr) (l : List Int) (c : Nat) (hx : a.eval x = .slice p l.length c) (hat : ZAt w w.heap.size p l) (hnone : p = none → c = 0)
    (hsm : l.length ≤ 4294967296) (hbase : base ≤ w.heap.size)
    (h : ∀ v' w', w'.ownsRow base 3 1 v' l.length (l.map encI) → w.grownBy w' none → wpList Tryz.prog ops Q rest (a.put o.dst v') w') : wpList Tryz.prog ops Q (o :: rest) a w := by
  obtain ⟨i0, hi, hz0, hz1, hz2⟩ := info_parts infoIntQ
  cases p with
  | none =>
    have hl : l = [] := by
      cases l with
      | nil => rfl
      | cons y l => obtain ⟨g, off, hp, _⟩ := hat 0 (by simp); cases hp
    subst hl
    have hc := hnone rfl
    subst hc
    refine wpList_append_own_none hgd s x 23 ho base 3 i0 1 Tryz.underlying23 hi _ 0 [] hs (World.ownsRow_nil _ _ _ _) hx (h _ w ?_ (grown_refl _ _))
    exact World.ownsRow_nil _ _ _ _
  | some ad =>
    refine wpList_append_own w hgd s x 23 ho base 3 i0 (.int .i64 0) 1 8 Tryz.underlying23 hi hz0 hz1 hz2 rfl (by decide) _ 0 [] hs (World.ownsRow_nil _ _ _ _) ad l.length c (l.map encI) hx (by simp) ?_ ?_ (by unfold maxLen; omega) (by omega) hbase (fun v' w' h1 h2 _ => h v' w' (by simpa using h1) h2)
    · intro j u hj
      have hj' : j < l.length := by
        have := (List.getElem?_eq_some_iff.1 hj).1
        simpa using this
      obtain ⟨g, off, hp, _, hc⟩ := hat j hj'
      obtain rfl := Option.some.inj hp
      rw [show (⟨g, off, none⟩ : Addr).add j = ⟨g, off + j, none⟩ by simp [Addr.add], hc]
      simp [hj', encI] at hj
      rw [hj]
    · intro u hu
      obtain ⟨z, _, rfl⟩ := List.mem_map.1 hu
      rfl
set_option maxRecDepth 100000 in
set_option maxHeartbeats 1000000 in
/-- gazetteersame.Numbers, at two lists that are the same -/
theorem numbersS_any (px py : Option Addr) (n cx cy : Nat) (l : List Int) (w : World) (hn : l.length = n) (hx : ZAt w w.heap.size px l) (hy : ZAt w w.heap.size py l) (hll : l.length ≤ 4294967296) :
    Calls Tryz.prog 12 #[.slice px n cx, .slice py n cy] w fun e w' => e = .returned (.bool true) ∧ Below w.heap.size w w' := by
  subst hn
  go_enter Tryz.func12, Tryz.ntmps12
  go_wp2
  go_loopw [13] (fun i wr => ∃ k : Nat, i = .int .i64 k ∧ k ≤ l.length ∧ Below w.heap.size w wr) (fun i _ => l.length - (intOf i).toNat)
  case atStart => exact ⟨0, rfl, Nat.zero_le _, Below.refl _ _⟩
  case round =>
    obtain ⟨k, rfl, hk, hB⟩ := hrel
    by_cases hlt : k < l.length
    · obtain ⟨gx, ox, rfl, hgx, hcx0⟩ := hx k hlt
      obtain ⟨gy, oy, rfl, hgy, hcy0⟩ := hy k hlt
      have hcx := (hB.cell (p := ⟨gx, ox + k, none⟩) hgx).trans hcx0
      have hcy := (hB.cell (p := ⟨gy, oy + k, none⟩) hgy).trans hcy0
      generalize l[k] = X at *
      clear hcx0 hcy0
      go_wp2
      go_quiet (fail)
      go_wp2
      all_goals
        go_roundw
        case rel => exact ⟨k + 1, by go_num, by omega, below_drewN hB _⟩
        case measure => simp [intOf]; omega
    · go_wp2
      go_ret
      exact ⟨rfl, hB⟩

theorem ordM_len (P W Q : Nat → Int) : ∀ (n t : Nat) (M : List Nat), (ordM P W Q n t M).length ≤ n
  | 0, _, _ => Nat.le_refl _
  | n + 1, _, [] => Nat.zero_le _
  | n + 1, t, x :: M => by
    unfold ordM
    rw [List.length_cons]
    exact Nat.succ_le_succ (ordM_len P W Q n _ _)
theorem ordR_len (L : List Rn) (xs : List Int) : (ordR L xs).length ≤ L.length := by
  unfold ordR
  split
  · rw [List.length_map]; exact ordM_len _ _ _ _ _ _
  · exact Nat.zero_le _
theorem rewN_len (B : List Et) : ∀ M : List Nat, (rewN B M).length ≤ M.length
  | [] => Nat.le_refl _
  | x :: M => by
    unfold rewN runM
    exact (List.takeWhile_sublist _).length_le
theorem rewR_len (L : List Rn) (s : ByteArray) : (rewR L s).length ≤ L.length := by
  unfold rewR
  split
  · rw [List.length_map, List.length_map]
    unfold rewT
    have h1 := rewN_len (keptE L (lowB s)) (put (ltF (keptE L (lowB s))) (keptE L (lowB s)).length)
    rw [put_len] at h1
    have h2 : (keptE L (lowB s)).length ≤ L.length := by
      rw [keptE_kq]
      have := List.length_filter_le (kqB (lowB s)) (L.map enO)
      rw [List.length_map] at this
      exact this
    omega
  · exact Nat.zero_le _
theorem zat_ownQ {w : World} {b c n : Nat} {p : Option Addr} {l : List Int} (h : w.ownsRow b 3 1 (.slice p n c) n (l.map encI)) (hn : n = l.length) : ZAt w w.heap.size p l := fun k hk => by
  obtain ⟨g, c', e⟩ := own_somP h (by omega)
  injection e with e1 e2 e3
  subst e1
  refine ⟨g, 0, rfl, (h.lt g rfl).2, ?_⟩
  rw [Nat.zero_add, h.cellAt k (by omega)]
  simp [hk]
end Go.Proofs.YtelboefeomnjaaaGreat

/-
  Proofs: PolicyOrders. (The verifier's own text.)
-/
namespace Go.Proofs.YtelboefeomnjaaaGreat
set_option linter.unusedVariables false
set_option linter.unusedSimpArgs false
open Go.RowKit Go.Shelf Go.Maps Go.Proofs.YtelboefeomnjaaaGreat.Nm Go.Proofs.YtelboefeomnjaaaGreat.Zs

/-- what stands behind the first two copies -/
structure Po (w w2 : World) (L : List Rn) (p : Option Addr) (xs : List Int) (px : Option Addr) (g c : Nat) : Prop where
  tw : RsAt w2 (some ⟨g, 0, none⟩) (L ++ [spR, spR])
  cp : L.length + 2 ≤ c
  st : RsAt w2 p L
  zx : ZAt w2 w2.heap.size px xs
  bl : Below w.heap.size w w2
theorem Po.below {w w2 V : World} {L : List Rn} {p : Option Addr} {xs : List Int} {px : Option Addr} {g c : Nat} (h : Po w w2 L p xs px g c) (hb : Below w2.heap.size w2 V) : Po w V L p xs px g c := ⟨rsAt_below7 h.tw hb, h.cp, rsAt_below7 h.st hb, zat_belQ h.zx hb, bstep h.bl hb h.bl.size⟩
theorem below_none {w w' : World} (h : w.grownBy w' none) : Below w.heap.size w w' := ⟨h.os, h.tape, h.output, h.size, fun k hk => h.block k hk (by simp)⟩
theorem own_two {w4 W W' : World} {b3 b5 na nc : Nat} {va vc : Value} {xa xc : List Value} (hA : w4.ownsRow b3 42 5 va na xa) (h45 : w4.heap.size ≤ b5) (hC : W.ownsRow b5 42 5 vc nc xc) (hg : W.grownBy W' va.ownBlock) : W'.ownsRow b5 42 5 vc nc xc := by
  refine hC.kept hg ?_
  cases hq : vc.ownBlock with
  | none => exact .inl rfl
  | some k =>
    refine .inr (fun e => ?_)
    have h1 := ownBlock_le hC hq
    have h2 := (hA.lt k e.symm).2
    omega
set_option maxRecDepth 100000 in
set_option maxHeartbeats 8000000 in
/-- PolicyOrders -/
theorem policyOrders_any (L : List Rn) (p : Option Addr) (cap : Nat) (xs : List Int) (px : Option Addr) (cx : Nat) (service : ByteArray) (w : World) (hL : L.length ≤ 1048576) (hat : RsAt w p L) (hz : ∀ r ∈ L, r.o.size ≤ 1048576 ∧ r.d.size ≤ 1048576) (hpn : p = none → cap = 0) (hzx : ZAt w w.heap.size px xs) (hxl0 : xs.length ≤ 1048576) (hxc : xs.length ≤ cx) (hxn : px = none → cx = 0) (hxb : ∀ x ∈ xs, -9223372036854775808 ≤ x ∧ x ≤ 9223372036854775807) (hsv : service.size ≤ 1048576) :
    Calls Tryz.prog 3 #[.slice p L.length cap, .slice px xs.length cx, .string service] w fun r w' => r = .returned (.bool true) ∧ Below w.heap.size w w' := by
  have HA := hide' (fun V => alive_any V)
  have HTw : Hid (∀ V, Below w.heap.size w V → Calls Tryz.prog 5 #[.slice p L.length cap] V fun r w' => ∃ g c, r = .returned (.slice (some ⟨g, 0, none⟩) L.length c) ∧ Po w w' L p xs px g c) := fun V hV => by
    refine (twin_any L p cap V hL (rsAt_below7 hat hV) hpn).mono ?_
    rintro r w' ⟨g, c, rfl, ho, hb⟩
    have hc := own_cap ho
    exact ⟨g, c, rfl, rs_ownN ho (by simp), hc.1, rsAt_below7 hat (bstep hV hb hV.size), zat_belQ hzx (bstep hV hb hV.size), bstep hV hb hV.size⟩
  have HO1 : Hid (∀ (V : World) (q : Option Addr) (cq : Nat) (g c : Nat), Po w V L p xs px g c → ZAt V V.heap.size q xs → Calls Tryz.prog 6 #[.slice (some ⟨g, 0, none⟩) L.length c, .slice q xs.length cq] V (OrX L xs V)) := fun V q cq g c h hq => orderX_any L _ c xs q cq V hL (rs_left h.tw) hz hq hxl0 hxb
  have HO2 : Hid (∀ (V : World) (g c : Nat), Po w V L p xs px g c → Calls Tryz.prog 7 #[.slice p L.length cap, .slice px xs.length cx] V (OrX L xs V)) := fun V g c h => rorder_any L p cap xs px cx V hL h.st hpn hz h.zx hxl0 hxc hxb
  have HR1 : Hid (∀ (V : World) (g c : Nat), Po w V L p xs px g c → Calls Tryz.prog 8 #[.slice (some ⟨g, 0, none⟩) L.length c, .string service] V (RwX L service V)) := fun V g c h => rewrites_any L _ c service V hL (rs_left h.tw) hz hsv
  have HR2 : Hid (∀ (V : World) (g c : Nat), Po w V L p xs px g c → Calls Tryz.prog 9 #[.slice p L.length cap, .string service] V (RwX L service V)) := fun V g c h => rrew_any L p cap service V hL h.st hz hsv
  have HWh : Hid (∀ (V : World) (g c : Nat), Po w V L p xs px g c → Calls Tryz.prog 11 #[.slice (some ⟨g, 0, none⟩) L.length c, .slice p L.length cap] V fun e w' => e = .returned (.bool true) ∧ Below V.heap.size V w') := fun V g c h => wholeL_any L g c p cap V hL h.tw h.cp h.st
  have HNu : Hid (∀ (V : World) (q : Option Addr) (cq : Nat), ZAt V V.heap.size q xs → ZAt V V.heap.size px xs → Calls Tryz.prog 12 #[.slice q xs.length cq, .slice px xs.length cx] V fun e w' => e = .returned (.bool true) ∧ Below V.heap.size V w') := fun V q cq h1 h2 => numbersS_any q px xs.length cq cx xs V rfl h1 h2 (by omega)
  have hl1 := ordR_len L xs
  have hl2 := rewR_len L service
  obtain ⟨A, hAe⟩ : ∃ A, ordR L xs = A := ⟨_, rfl⟩
  obtain ⟨C, hCe⟩ : ∃ C, rewR L service = C := ⟨_, rfl⟩
  obtain ⟨ec, hec⟩ : ∃ ec, ordC L = ec := ⟨_, rfl⟩
  obtain ⟨rc, hrc⟩ : ∃ rc, rewC L = rc := ⟨_, rfl⟩
  unfold OrX at HO1 HO2
  unfold RwX at HR1 HR2
  rw [hAe, hec] at HO1 HO2
  rw [hCe, hrc] at HR1 HR2
  rw [hAe] at hl1
  rw [hCe] at hl2
  have HAl : Hid (A.length ≤ 1048576) := by unfold Hid; omega
  have HCl : Hid (C.length ≤ 1048576) := by unfold Hid; omega
  have HSa : Hid (∀ (V : World) (q1 q2 : Option Addr) (c1 c2 : Nat), RsAt V q1 A → RsAt V q2 A → Calls Tryz.prog 10 #[.slice q1 A.length c1, .slice q2 A.length c2] V fun e w' => e = .returned (.bool true) ∧ Below V.heap.size V w') := fun V q1 q2 c1 c2 h1 h2 => (sameRecords2 q1 q2 A.length c1 c2 A V h1 h2 rfl (by have := HAl.out; omega)).mono (fun e w' ⟨h3, m, h4⟩ => ⟨h3, h4 ▸ below_drewN (Below.refl _ V) m⟩)
  have HSc : Hid (∀ (V : World) (q1 q2 : Option Addr) (c1 c2 : Nat), RsAt V q1 C → RsAt V q2 C → Calls Tryz.prog 10 #[.slice q1 C.length c1, .slice q2 C.length c2] V fun e w' => e = .returned (.bool true) ∧ Below V.heap.size V w') := fun V q1 q2 c1 c2 h1 h2 => (sameRecords2 q1 q2 C.length c1 c2 C V h1 h2 rfl (by have := HCl.out; omega)).mono (fun e w' ⟨h3, m, h4⟩ => ⟨h3, h4 ▸ below_drewN (Below.refl _ V) m⟩)
  have HXn := hide' hxn
  clear hat hz hpn hzx hxb hsv hl1 hl2 hAe hCe hec hrc hxn
  go_enter Tryz.func3, Tryz.ntmps3
  go_wp2_with (first
    | (go_at_call 4; (with_reducible refine (HA.out _).mono ?_); rintro e1 w1 ⟨rfl, hB1⟩; have HB1 := hide' hB1; clear hB1)
    | (go_at_call 5; (with_reducible refine (HTw.out _ HB1.out).mono ?_); rintro e2 w2 ⟨g, c, rfl, hP2⟩; have HP2 := hide' hP2; clear hP2 HB1)
    | (at_builtin; refine wpList_append_intsQ rfl _ _ rfl w2.heap.size rfl px xs cx rfl HP2.out.zx HXn.out (by omega) (Nat.le_refl _) ?_; intro v3 w3 ho3 hg3; obtain ⟨q3, c3, hv3, -⟩ := own_shape ho3; subst hv3; have HP3 := hide' (HP2.out.below (below_none hg3)); have HZ3 := hide' (zat_ownQ ho3 rfl); clear ho3 hg3 HP2)
    | (go_at_call 6; (with_reducible refine (HO1.out _ _ _ _ _ HP3.out HZ3.out).mono ?_); rintro e4 w4 ⟨q4, c4, rfl, ho4, hB4⟩; have HP4 := hide' (HP3.out.below hB4); have HZ4 := hide' (zat_belQ HZ3.out hB4); have HB4 := hide' hB4; have HE4 := hide' hB4; have HO4 := hide' ho4; clear ho4 hB4)
    | (go_at_call 7; (with_reducible refine (HO2.out _ _ _ HP4.out).mono ?_); rintro e5 w5 ⟨q5, c5, rfl, ho5, hB5⟩; have HP5 := hide' (HP4.out.below hB5); have HE5 := hide' (bstep HE4.out hB5 HE4.out.size); have HZ5 := hide' (zat_belQ HZ4.out hB5); have HB5 := hide' hB5; have HA5 := hide' (own_below HO4.out hB5); have HO5 := hide' (rs_ownN ho5 rfl); clear ho5 hB5)
    | (go_at_call 8; (with_reducible refine (HR1.out _ _ _ HP5.out).mono ?_); rintro e6 w6 ⟨q6, c6, rfl, ho6, hB6⟩; have HP6 := hide' (HP5.out.below hB6); have HE6 := hide' (bstep HE5.out hB6 HE5.out.size); have HZ6 := hide' (zat_belQ HZ5.out hB6); have HB6 := hide' hB6; have HA6 := hide' (own_below HA5.out hB6); have HO6 := hide' (rsAt_below7 HO5.out hB6); have HC6 := hide' ho6; clear ho6 hB6)
    | (go_at_call 9; (with_reducible refine (HR2.out _ _ _ HP6.out).mono ?_); rintro e7 w7 ⟨q7, c7, rfl, ho7, hB7⟩; have HP7 := hide' (HP6.out.below hB7); have HE7 := hide' (bstep HE6.out hB7 HE6.out.size); have HZ7 := hide' (zat_belQ HZ6.out hB7); have HA7 := hide' (own_below HA6.out hB7); have HO7 := hide' (rsAt_below7 HO6.out hB7); have HC7 := hide' (own_below HC6.out hB7); have HD7 := hide' (rs_ownN ho7 rfl); have HL7 : Hid (w4.heap.size ≤ w5.heap.size) := HB5.out.size; have HL3 : Hid (w3.heap.size ≤ w5.heap.size) := Nat.le_trans HB4.out.size HB5.out.size; clear ho7 hB7)
    | (go_at_call 10; (with_reducible refine (HSa.out _ q4 q5 c4 c5 (rs_ownN HA7.out rfl) HO7.out).mono ?_); rintro e8 w8 ⟨rfl, hB8⟩; have HP8 := hide' (HP7.out.below hB8); have HE8 := hide' (bstep HE7.out hB8 HE7.out.size); have HZ8 := hide' (zat_belQ HZ7.out hB8); have HA8 := hide' (own_below HA7.out hB8); have HC8 := hide' (own_below HC7.out hB8); have HD8 := hide' (rsAt_below7 HD7.out hB8); clear hB8)
    | (go_at_call 10; (with_reducible refine (HSc.out _ q6 q7 c6 c7 (rs_ownN HC8.out rfl) HD8.out).mono ?_); rintro e9 w9 ⟨rfl, hB9⟩; have HP9 := hide' (HP8.out.below hB9); have HE9 := hide' (bstep HE8.out hB9 HE8.out.size); have HZ9 := hide' (zat_belQ HZ8.out hB9); have HA9 := hide' (own_below HA8.out hB9); have HC9 := hide' (own_below HC8.out hB9); clear hB9)
    | (go_at_call 11; (with_reducible refine (HWh.out _ _ _ HP9.out).mono ?_); rintro e10 w10 ⟨rfl, hB10⟩; have HP10 := hide' (HP9.out.below hB10); have HE10 := hide' (bstep HE9.out hB10 HE9.out.size); have HZ10 := hide' (zat_belQ HZ9.out hB10); have HA10 := hide' (own_below HA9.out hB10); have HC10 := hide' (own_below HC9.out hB10); clear hB10 HP9)
    | (go_at_call 12; (with_reducible refine (HNu.out _ _ _ HZ10.out HP10.out.zx).mono ?_); rintro e11 w11 ⟨rfl, hB11⟩; have HP11 := hide' (HP10.out.below hB11); have HE11 := hide' (bstep HE10.out hB11 HE10.out.size); have HA11 := hide' (own_below HA10.out hB11); have HC11 := hide' (own_below HC10.out hB11); have HM11 := hide' (markQ_any HA11.out rfl HAl.out); clear hB11)
    | (go_at_call 13; (with_reducible refine HM11.out.mono ?_); rintro e12 w12 ⟨rfl, hG12⟩; have HE12 : Hid (Below w3.heap.size w3 w12) := HE11.out.grown hG12 HE11.out.size (fun k hk => ownBlock_le HO4.out hk); have HC12 := hide' (own_two HO4.out HL7.out HC11.out hG12); have HM12 := hide' (markQ_any HC12.out rfl HCl.out); clear hG12)
    | (go_at_call 13; (with_reducible refine HM12.out.mono ?_); rintro e13 w13 ⟨rfl, hG13⟩; have HE13 : Hid (Below w3.heap.size w3 w13) := HE12.out.grown hG13 HE12.out.size (fun k hk => by have h1 := ownBlock_le HC12.out hk; have h2 := HL3.out; omega); have HP13 := hide' (HP3.out.below HE13.out); clear hG13)
    | (go_at_call 11; (with_reducible refine (HWh.out _ _ _ HP13.out).mono ?_); rintro e14 w14 ⟨rfl, hB14⟩; have HP14 := hide' (HP13.out.below hB14); clear hB14))
  go_ret
  exact ⟨rfl, HP14.out.bl⟩
/-- .. in the frame's order -/
theorem policyOrders_fr (L : List Rn) (p : Option Addr) (cap : Nat) (xs : List Int) (px : Option Addr) (cx : Nat) (service : ByteArray) (w : World) (hL : L.length ≤ 1048576) (hat : RsAt w p L) (hz : ∀ r ∈ L, r.o.size ≤ 1048576 ∧ r.d.size ≤ 1048576) (_ : L.length ≤ cap) (_ : cap ≤ maxLen) (hpn : p = none → cap = 0) (hzx : ZAt w w.heap.size px xs) (hxl0 : xs.length ≤ 1048576) (hxb : ∀ x ∈ xs, -9223372036854775808 ≤ x ∧ x ≤ 9223372036854775807) (hxn : px = none → cx = 0) (hxc : xs.length ≤ cx) (_ : cx ≤ maxLen) (hsv : service.size ≤ 1048576) :
    Calls Tryz.prog 3 #[.slice p L.length cap, .slice px xs.length cx, .string service] w fun r w' => r = .returned (.bool true) ∧ Below w.heap.size w w' := policyOrders_any L p cap xs px cx service w hL hat hz hpn hzx hxl0 hxc hxn hxb hsv
end Go.Proofs.YtelboefeomnjaaaGreat

namespace Go.Proofs.YtelboefeomnjaaaGreat
set_option linter.unusedVariables false
open Go.ChangeShapes Go.WideShapes Go.Deep

section
variable {H : Type} {enc : TypeId × Value → H} {P : Program} {w : World} {base : Nat} {spare : Nat → Bool} {held : Bool}

end
theorem struct_of {t : TypeId} {k : Nat} {ts : List TypeId} (h : (Tryz.prog.underlying t).bind (fun u => match u with | .struct fs => some (oneCellFields Tryz.prog fs && decide (Tryz.prog.cellsOf t = fs.size) && decide (fs.size = k) && (fs.toList.map (·.type) == ts)) | _ => none) = some true) :
    ∃ fs : Array Field, Tryz.prog.underlying t = some (.struct fs) ∧ oneCellFields Tryz.prog fs = true ∧ Tryz.prog.cellsOf t = fs.size ∧ fs.size = k ∧ ∀ j, j < k → ∃ f, fs[j]? = some f ∧ ts[j]? = some f.type := by
  obtain ⟨u, hu, h⟩ := Option.bind_eq_some_iff.1 h
  split at h
  · rename_i fs
    simp only [Option.some.injEq, Bool.and_eq_true, decide_eq_true_eq, beq_iff_eq] at h
    refine ⟨fs, hu, h.1.1.1, h.1.1.2, h.1.2, fun j hj => ?_⟩
    have hj' : j < fs.size := by omega
    refine ⟨fs[j], by simp [hj'], ?_⟩
    rw [← h.2]
    simp [hj']
  · cases h

end Go.Proofs.YtelboefeomnjaaaGreat

/-
  Records and questions that come in, and how much they hold. (The verifier's own text.)
-/
namespace Go.Proofs.YtelboefeomnjaaaGreat.Frj
set_option linter.unusedVariables false
set_option linter.unusedSimpArgs false
open Go.RowKit Go.Shelf Go.Maps Go.Proofs.YtelboefeomnjaaaGreat.Nm
open Go.ChangeShapes Go.WideShapes Go.Deep

theorem bulk_pos {H : Type} (d : DataW H) : 1 ≤ Rows.uptoBulk d := by
  cases d with
  | lit l => cases l <;> simp [Rows.uptoBulk]
  | _ => simp [Rows.uptoBulk]
theorem bulk_len {H : Type} : ∀ l : List (DataW H), l.length ≤ Rows.uptoBulkAll l
  | [] => by simp [Rows.uptoBulkAll]
  | d :: l => by
    have := bulk_len l
    have := bulk_pos d
    simp only [Rows.uptoBulkAll, List.length_cons]
    omega
theorem oneR : (Tryz.prog.underlying 42).bind (fun t => match t with | .struct fs => some (oneCellFields Tryz.prog fs && decide (Tryz.prog.cellsOf 42 = fs.size) && decide (fs.size = 5) && (fs.toList.map (·.type) == [9, 3, 3, 3, 9])) | _ => none) = some true := by kernel_rfl
section
variable {H : Type} {enc : TypeId × Value → H} {P : Program} {w : World} {base : Nat} {spare : Nat → Bool} {held : Bool}

/-- a slice of such structs -/
theorem rows_openS {t e : TypeId} {fs : Array Field} {fuel : Nat} {v : Value} {x : DataW H × List MemPlace} (ht : P.underlying t = some (.slice e)) (he : P.underlying e = some (.struct fs)) (hone : oneCellFields P fs = true) (hC : P.cellsOf e = fs.size) (hpos : 0 < fs.size)
    (h : DataW.trod enc P w base spare held fuel t [v] = some x) :
    ∃ (a : Option Addr) (len cap : Nat) (D : Nat → DataW H), v = .slice a len cap ∧ (a = none → cap = 0) ∧ len ≤ Rows.uptoBulk x.1 ∧ (0 < len → Rows.uptoBulkAll ((List.range len).map D) + 1 ≤ Rows.uptoBulk x.1) ∧ ∀ i, i < len → ∃ b o n, ∃ xs : List (DataW H × List MemPlace), a = some ⟨b, o, none⟩ ∧ b < w.heap.size ∧ D i = .agg (xs.map (·.1)) ∧ xs.length = fs.size ∧ ∀ (j : Nat) (f : Field), fs[j]? = some f → ∃ V y, w.cell? ⟨b, o + i * fs.size + j, none⟩ = some V ∧ DataW.trod enc P w base spare held n f.type [V] = some y ∧ xs[j]? = some y := by
  rcases open_slice ht h with ⟨hv, _⟩ | ⟨a, len, cap, m, n, D, Pl, hv, hb, hl, hm, hmm, hx, hel⟩
  · obtain rfl : v = .slice none 0 0 := by simpa using hv
    exact ⟨none, 0, 0, fun _ => .nil, rfl, fun _ => rfl, Nat.zero_le _, fun h => absurd h (Nat.lt_irrefl _), fun i hi => absurd hi (Nat.not_lt_zero _)⟩
  · obtain rfl : v = .slice (some a) len cap := by simpa using hv
    have hlb : len ≤ Rows.uptoBulk x.1 := by
      rw [hx]
      have := bulk_len ((List.range len).map D)
      simp only [List.length_map, List.length_range] at this
      simp only [Rows.uptoBulk]
      omega
    have hsum : Rows.uptoBulkAll ((List.range len).map D) + 1 ≤ Rows.uptoBulk x.1 := by
      rw [hx]
      simp only [Rows.uptoBulk]
      omega
    refine ⟨some a, len, cap, D, rfl, (fun e => by cases e), hlb, fun _ => hsum, fun i hi => ?_⟩
    obtain ⟨b, o, spot⟩ := a
    have hspot : spot = none := by
      obtain ⟨cs0, hcs0, _⟩ := hel 0 (by rw [hmm]; split <;> omega)
      rw [hC] at hcs0
      obtain ⟨_, hlen0, hcell0⟩ := World.cells?_some hcs0
      have h0 := hcell0 0 hpos
      rw [List.getElem?_eq_getElem (by omega)] at h0
      have := World.cell?_spot h0
      simpa [Addr.add] using this
    obtain ⟨cs', hcs, htr⟩ := hel i (by rw [hmm]; split <;> omega)
    rw [hC] at hcs
    obtain ⟨_, hlen, hcell⟩ := World.cells?_some hcs
    obtain ⟨xs, k, _, hxe, _, hxl, hf⟩ := DataW.trod_struct he htr
    have h0 := hcell 0 hpos
    rw [List.getElem?_eq_getElem (by omega)] at h0
    subst hspot
    have ha : ∀ j, ((⟨b, o, none⟩ : Addr).add (i * fs.size)).add j = ⟨b, o + i * fs.size + j, none⟩ := fun j => by rw [add_add, addr_add, Nat.add_assoc]
    refine ⟨b, o, k, xs, rfl, ?_, congrArg Prod.fst hxe, hxl, fun j f hj => ?_⟩
    · rw [ha] at h0
      unfold World.cell? at h0
      split at h0
      · rename_i hh
        exact (Array.getElem?_eq_some_iff.1 hh).1
      · cases h0
    · have hlt : j < fs.size := (Array.getElem?_eq_some_iff.1 hj).1
      obtain ⟨ho, hc1⟩ := hone_of hone j f hj
      have g := hf j f hj
      rw [ho, hc1, take1_drop _ j undef (by omega)] at g
      have hc := hcell j hlt
      rw [ha, List.getElem?_eq_getElem (by omega)] at hc
      refine ⟨cs'.getD j undef, xs[j]'(by omega), ?_, by rw [g, List.getElem?_eq_getElem (by omega)], List.getElem?_eq_getElem (by omega)⟩
      rw [hc, List.getD_eq_getElem?_getD, List.getElem?_eq_getElem (by omega)]; rfl
end
theorem bulk_mem {H : Type} : ∀ (l : List (DataW H)) (d : DataW H), d ∈ l → Rows.uptoBulk d ≤ Rows.uptoBulkAll l
  | [], d, h => by cases h
  | e :: l, d, h => by
    simp only [Rows.uptoBulkAll]
    rcases List.mem_cons.1 h with rfl | h
    · omega
    · have := bulk_mem l d h
      omega

section
variable {H : Type} {enc : TypeId × Value → H} {w : World} {base : Nat} {spare : Nat → Bool} {held : Bool}
theorem rs_openJ {fuel : Nat} {v : Value} {x : DataW H × List MemPlace} (h : DataW.trod enc Tryz.prog w base spare held fuel 22 [v] = some x) :
    ∃ (a : Option Addr) (cap : Nat) (L : List Rn), v = .slice a L.length cap ∧ (a = none → cap = 0) ∧ RsAt w a L ∧ (∀ q ∈ L, q.o.size ≤ maxLen ∧ q.d.size ≤ maxLen) ∧ L.length ≤ Rows.uptoBulk x.1 ∧ ∀ q ∈ L, q.o.size + q.d.size ≤ Rows.uptoBulk x.1 := by
  obtain ⟨fs, hs, hone, hC, h3, hty⟩ := struct_of oneR
  obtain ⟨a, len, cap, D, rfl, hn, hlb, hsum, hel⟩ := rows_openS Tryz.underlying22 hs hone hC (by omega) h
  haveI : Inhabited Rn := ⟨⟨.empty, 0, 0, 0, .empty⟩⟩
  obtain ⟨F, hF⟩ := choose_lt (α := Rn) (n := len) (p := fun i q => ∃ b o, a = some ⟨b, o, none⟩ ∧ b < w.heap.size ∧ w.cell? ⟨b, o + i * 5, none⟩ = some (.string q.o) ∧ w.cell? ⟨b, o + i * 5 + 1, none⟩ = some (.int .i64 q.t) ∧ w.cell? ⟨b, o + i * 5 + 2, none⟩ = some (.int .i64 q.c) ∧ w.cell? ⟨b, o + i * 5 + 3, none⟩ = some (.int .i64 q.l) ∧ w.cell? ⟨b, o + i * 5 + 4, none⟩ = some (.string q.d) ∧ q.o.size ≤ maxLen ∧ q.d.size ≤ maxLen ∧ q.o.size + q.d.size + 6 ≤ Rows.uptoBulk (D i)) (fun i hi => by
    obtain ⟨b, o, n, xs, ha, hb, hDi, hxs, hf⟩ := hel i hi
    rw [h3] at hf hxs
    obtain ⟨f0, g0, t0⟩ := hty 0 (by omega)
    obtain ⟨f1, g1, t1⟩ := hty 1 (by omega)
    obtain ⟨f2, g2, t2⟩ := hty 2 (by omega)
    obtain ⟨f3, g3, t3⟩ := hty 3 (by omega)
    obtain ⟨f4, g4, t4⟩ := hty 4 (by omega)
    obtain ⟨V0, y0, c0, r0, k0⟩ := hf 0 f0 g0
    rw [← Option.some.inj t0] at r0
    obtain ⟨V1, y1, c1, r1, k1⟩ := hf 1 f1 g1
    rw [← Option.some.inj t1] at r1
    obtain ⟨V2, y2, c2, r2, k2⟩ := hf 2 f2 g2
    rw [← Option.some.inj t2] at r2
    obtain ⟨V3, y3, c3, r3, k3⟩ := hf 3 f3 g3
    rw [← Option.some.inj t3] at r3
    obtain ⟨V4, y4, c4, r4, k4⟩ := hf 4 f4 g4
    rw [← Option.some.inj t4] at r4
    obtain ⟨s0, e0, hy0, z0⟩ := DataW.trod_string Tryz.underlying9 r0
    obtain rfl : V0 = .string s0 := by simpa using e0
    obtain ⟨n1, e1, hy1, _⟩ := DataW.trod_int Tryz.underlying3 r1
    obtain rfl : V1 = .int .i64 n1 := by simpa using e1
    obtain ⟨n2, e2, hy2, _⟩ := DataW.trod_int Tryz.underlying3 r2
    obtain rfl : V2 = .int .i64 n2 := by simpa using e2
    obtain ⟨n3, e3, hy3, _⟩ := DataW.trod_int Tryz.underlying3 r3
    obtain rfl : V3 = .int .i64 n3 := by simpa using e3
    obtain ⟨s4, e4, hy4, z4⟩ := DataW.trod_string Tryz.underlying9 r4
    obtain rfl : V4 = .string s4 := by simpa using e4
    have kk : s0.size + s4.size + 6 ≤ Rows.uptoBulk (D i) := by
      obtain ⟨l0, l1, l2, l3, l4, rfl⟩ : ∃ l0 l1 l2 l3 l4, xs = [l0, l1, l2, l3, l4] := by
        match xs, hxs with
        | [l0, l1, l2, l3, l4], _ => exact ⟨l0, l1, l2, l3, l4, rfl⟩
      simp only [List.getElem?_cons_zero, List.getElem?_cons_succ, Option.some.injEq] at k0 k1 k2 k3 k4
      subst k0
      subst k1
      subst k2
      subst k3
      subst k4
      rw [hDi, hy0, hy1, hy2, hy3, hy4]
      simp only [List.map_cons, List.map_nil, Rows.uptoBulk, Rows.uptoBulkAll, Array.length_toList]
      have q0 : s0.data.size = s0.size := rfl
      have q4 : s4.data.size = s4.size := rfl
      omega
    exact ⟨⟨s0, n1, n2, n3, s4⟩, b, o, ha, hb, c0, c1, c2, c3, c4, z0, z4, kk⟩)
  refine ⟨a, cap, (List.range len).map F, by simp, hn, fun k hk => ?_, fun q hq => ?_, by simpa using hlb, fun q hq => ?_⟩
  · have hk' : k < len := by simpa using hk
    obtain ⟨b, o, ha, hb, c0, c1, c2, c3, c4, _⟩ := hF k hk'
    exact ⟨b, o, ha, hb, by simpa using c0, by simpa using c1, by simpa using c2, by simpa using c3, by simpa using c4⟩
  · obtain ⟨i, hi, rfl⟩ := List.mem_map.1 hq
    obtain ⟨_, _, _, _, _, _, _, _, _, z0, z4, _⟩ := hF i (List.mem_range.1 hi)
    exact ⟨z0, z4⟩
  · obtain ⟨i, hi, rfl⟩ := List.mem_map.1 hq
    have hi2 := List.mem_range.1 hi
    obtain ⟨_, _, _, _, _, _, _, _, _, _, _, z⟩ := hF i hi2
    have h1 := hsum (by omega)
    have h2 := bulk_mem ((List.range len).map D) (D i) (List.mem_map.2 ⟨i, List.mem_range.2 hi2, rfl⟩)
    omega
end
end Go.Proofs.YtelboefeomnjaaaGreat.Frj

/-
  Numbers that come in, and how many. (The verifier's own text.)
-/
namespace Go.Proofs.YtelboefeomnjaaaGreat.Fri
set_option linter.unusedVariables false
set_option linter.unusedSimpArgs false
open Go.RowKit Go.Shelf Go.Maps Go.Proofs.YtelboefeomnjaaaGreat.Nm
open Go.ChangeShapes Go.WideShapes

theorem cellsInt : Tryz.prog.cellsOf 3 = 1 := by kernel_rfl
theorem bulk_lits {H : Type} : ∀ l : List Int, Rows.uptoBulkAll (lits (H := H) .i64 l) = l.length
  | [] => rfl
  | x :: l => by
    have := bulk_lits (H := H) l
    simp only [lits, List.map_cons, Rows.uptoBulkAll, Rows.uptoBulk, List.length_cons] at this ⊢
    omega
theorem spot_none {w : World} {b off : Nat} {s : Option Nat} {v : Value} (h : w.cell? ⟨b, off, s⟩ = some v) : s = none ∧ b < w.heap.size := by
  unfold World.cell? at h
  split at h
  · rename_i c e f hh
    split at h
    · cases h
    · rename_i hs
      exact ⟨by cases s with | none => rfl | some x => exact absurd rfl hs, (Array.getElem?_eq_some_iff.1 hh).1⟩
  · cases h
section
variable {H : Type} {enc : TypeId × Value → H} {w : World} {base : Nat} {spare : Nat → Bool} {held : Bool}
theorem ns_open {fuel : Nat} {v : Value} {x : DataW H × List MemPlace} (h : DataW.trod enc Tryz.prog w base spare held fuel 23 [v] = some x) :
    ∃ (a : Option Addr) (cap : Nat) (xs : List Int), v = .slice a xs.length cap ∧ ZAt w w.heap.size a xs ∧ xs.length ≤ Rows.uptoBulk x.1 ∧ (a = none → cap = 0) ∧ xs.length ≤ cap ∧ cap ≤ maxLen := by
  rcases open_ints Tryz.underlying23 Tryz.underlying3 cellsInt h with ⟨hcs, hx⟩ | ⟨a, len', cap', zs, hcs, _, hl, hm, hz, hx, hcell, hwz⟩
  · obtain rfl : v = .slice none 0 0 := by simpa using hcs
    exact ⟨none, 0, [], rfl, (fun k hk => by cases hk), Nat.zero_le _, fun _ => rfl, Nat.le_refl _, Nat.zero_le _⟩
  · obtain rfl : v = .slice (some a) len' cap' := by simpa using hcs
    have hzl : len' ≤ zs.length := by rw [hz]; split <;> omega
    have hll : (zs.take len').length = len' := by rw [List.length_take]; omega
    refine ⟨some a, cap', zs.take len', by rw [hll], fun k hk => ?_, ?_, (fun e => by cases e), by rw [hll]; exact hl, hm⟩
    · rw [hll] at hk
      obtain ⟨b, off, spot⟩ := a
      have hc0 := hcell 0 (by omega)
      obtain ⟨rfl, hb⟩ := spot_none (by simpa [Addr.add] using hc0)
      refine ⟨b, off, rfl, hb, ?_⟩
      have hck := hcell k (by omega)
      have ea : (⟨b, off, none⟩ : Addr).add k = ⟨b, off + k, none⟩ := by
        unfold Addr.add
        by_cases h : k = 0
        · subst h; rfl
        · rw [if_neg h]
      rw [ea] at hck
      rw [hck, List.getD_eq_getElem?_getD, List.getElem?_eq_getElem (by omega)]
      simp
    · rw [hx]
      simp only [Rows.uptoBulk]
      rw [bulk_lits, bulk_lits]
      omega
end
end Go.Proofs.YtelboefeomnjaaaGreat.Fri

/-
  Numbers that come in are numbers of 64 bits. (The verifier's own text.)
-/
namespace Go.Proofs.YtelboefeomnjaaaGreat.Fri
set_option linter.unusedVariables false
set_option linter.unusedSimpArgs false
open Go.RowKit Go.Shelf Go.Maps Go.Proofs.YtelboefeomnjaaaGreat.Nm
open Go.ChangeShapes Go.WideShapes

section
variable {H : Type} {enc : TypeId × Value → H} {w : World} {base : Nat} {spare : Nat → Bool} {held : Bool}
theorem ns_wf {fuel : Nat} {a : Option Addr} {cap : Nat} {xs : List Int} {x : DataW H × List MemPlace} (h : DataW.trod enc Tryz.prog w base spare held fuel 23 [.slice a xs.length cap] = some x) (hz : ZAt w w.heap.size a xs) : ∀ z ∈ xs, (Lit.int .i64 z).wf = true := by
  intro z hm
  obtain ⟨k, hk, rfl⟩ := List.getElem_of_mem hm
  rcases open_ints Tryz.underlying23 Tryz.underlying3 cellsInt h with ⟨hcs, _⟩ | ⟨a', len', cap', zs, hcs, _, hl, hm, hzl, hx, hcell, hwz⟩
  · injection hcs with hcs _
    injection hcs with _ hcs _
    omega
  · injection hcs with hcs _
    injection hcs with h1 h2 h3
    subst h1
    have hzl' : len' ≤ zs.length := by rw [hzl]; split <;> omega
    obtain ⟨g, off, e1, e2, e3⟩ := hz k hk
    injection e1 with e1
    subst e1
    have hck := hcell k (by omega)
    have ea : (⟨g, off, none⟩ : Addr).add k = ⟨g, off + k, none⟩ := by
      unfold Addr.add
      by_cases h : k = 0
      · subst h; rfl
      · rw [if_neg h]
    rw [ea, e3] at hck
    injection hck with hck
    injection hck with _ hck
    rw [hck, List.getD_eq_getElem?_getD, List.getElem?_eq_getElem (by omega)]
    exact hwz _ (List.getElem_mem _)
end
theorem wf_i64 {x : Int} (h : (Lit.int .i64 x).wf = true) : -9223372036854775808 ≤ x ∧ x ≤ 9223372036854775807 := by
  unfold Lit.wf at h
  rw [Bool.and_eq_true, decide_eq_true_eq, decide_eq_true_eq] at h
  have e1 : IntKind.i64.min = -9223372036854775808 := by decide
  have e2 : IntKind.i64.max = 9223372036854775807 := by decide
  rw [e1, e2] at h
  exact h
end Go.Proofs.YtelboefeomnjaaaGreat.Fri

namespace Go.Proofs.YtelboefeomnjaaaGreat.policyOrdersP
set_option linter.unusedVariables false
open Go.ChangeShapes Go.WideShapes Go.ChangeAt Go.RowKit Go.Deep
open Go.ChangeMaps (open_string shut_string)

theorem own : ownKnob Tryz.prog.godebug = none := by kernel_rfl
theorem laidOut : laidOutB Tryz.prog = true := by kernel_rfl
set_option maxRecDepth 100000 in
theorem contract (H : Type) (enc : TypeId × Value → H) (W : World) (base : Nat) (args : Array Value) (ds gs : List (DataW H)) (before : List MemPlace)
    (hval : ∀ (j : Nat) t v, Tryz.f3.params[j]? = some t → args[j]? = some v → Value.okWide Tryz.prog W .any base t v)
    (hW : DataW.Whole enc Tryz.prog Tryz.f3.params.toList Rows.policyOrdersSpec.vars false W args.toList ds gs before) (hk : Rows.uptoSmall H (ds ++ gs) = true) :
    Calls Tryz.prog 3 args W fun e W' => ∃ v, e = .returned v ∧ Rows.policyOrdersSpec.post enc Tryz.prog Tryz.f3 false true false false W args v W' := by
  have hW' := hW
  obtain ⟨p, q, hA0, hV, rfl, _, _⟩ := hW
  have hA : DataW.TrodAll enc Tryz.prog W 0 (fun _ => true) true Tryz.f3.params.toList args.toList ds p := hA0
  rw [Tryz.params3] at hA hval
  obtain ⟨v0, vs0, d0, ds0, p0, q0, hargs, rfl, rfl, h0, r0⟩ := trodAll_cons hA
  obtain ⟨v1, vs1, d1, ds1, p1, q1, rfl, rfl, rfl, h1, r1⟩ := trodAll_cons r0
  obtain ⟨v2, vs2, d2, ds2, p2, q2, rfl, rfl, rfl, h2, r2⟩ := trodAll_cons r1
  obtain ⟨rfl, rfl, rfl⟩ := trodAll_nil r2
  obtain rfl : args = #[v0, v1, v2] := by cases args; simp_all
  obtain ⟨rfl, rfl⟩ := trodVars_none hV
  have k0 := h0
  have lt0 : ∀ x ∈ p0, x.block < W.heap.size := by obtain ⟨m, hm⟩ := k0; exact DataW.trod_lt m _ _ _ hm
  obtain ⟨pa0, ca0, L0, rfl, hno0, hat0, hz0, hlb0, hoz0, hca0, hcm0⟩ : ∃ (a : Option Addr) (cap : Nat) (L : List Rn), v0 = .slice a L.length cap ∧ (a = none → cap = 0) ∧ RsAt W a L ∧ (∀ q ∈ L, q.o.size ≤ maxLen ∧ q.d.size ≤ maxLen) ∧ L.length ≤ Rows.uptoBulk d0 ∧ (∀ q ∈ L, q.o.size + q.d.size ≤ Rows.uptoBulk d0) ∧ L.length ≤ cap ∧ cap ≤ maxLen := by
    obtain ⟨fuel, hf⟩ := h0
    obtain ⟨z5, len5, cap5, hv5⟩ := okWide_slice Tryz.underlying22 (hval 0 22 v0 rfl rfl)
    have hc : v0.cells.toList = [v0] := by rw [hv5]; rfl
    rw [hc] at hf
    obtain ⟨a, cap, L, h1, h2, h3, h4, h5, h6⟩ := Frj.rs_openJ hf
    refine ⟨a, cap, L, h1, h2, h3, h4, h5, h6, ?_⟩
    rcases open_slice Tryz.underlying22 hf with ⟨g1, _⟩ | ⟨a', len', cap', m', n', D', Pl', g1, _, hl, hm, _⟩
    · rw [h1] at g1
      injection g1 with g1 _
      injection g1 with g1 g2 g3
      exact ⟨by omega, by unfold maxLen; omega⟩
    · rw [h1] at g1
      injection g1 with g1 _
      injection g1 with g1 g2 g3
      subst g3
      exact ⟨by omega, hm⟩
  have k1 := h1
  have lt1 : ∀ x ∈ p1, x.block < W.heap.size := by obtain ⟨m, hm⟩ := k1; exact DataW.trod_lt m _ _ _ hm
  obtain ⟨pi1, ci1, xs1, rfl, hit1, hib1, hin1, hic1, him1⟩ : ∃ (a : Option Addr) (cap : Nat) (xs : List Int), v1 = .slice a xs.length cap ∧ ZAt W W.heap.size a xs ∧ xs.length ≤ Rows.uptoBulk d1 ∧ (a = none → cap = 0) ∧ xs.length ≤ cap ∧ cap ≤ maxLen := by
    obtain ⟨fuel, hf⟩ := h1
    obtain ⟨z5, len5, cap5, hv5⟩ := okWide_slice Tryz.underlying23 (hval 1 23 v1 rfl rfl)
    have hc : v1.cells.toList = [v1] := by rw [hv5]; rfl
    rw [hc] at hf
    exact Fri.ns_open hf
  have hiw1 : ∀ z ∈ xs1, (Lit.int .i64 z).wf = true := by
    obtain ⟨fuel, hf⟩ := k1
    have hc : (Value.slice pi1 xs1.length ci1).cells.toList = [.slice pi1 xs1.length ci1] := rfl
    rw [hc] at hf
    exact Fri.ns_wf hf hit1
  obtain ⟨s2, rfl, rfl, rfl, m2⟩ := open_string Tryz.underlying9 (hval 2 9 v2 rfl rfl) h2
  clear hA0
  have hb : Rows.uptoBulkAll [d0, d1, DataW.lit (H := H) (.string s2.data.toList)] ≤ 1048576 := by
    have : Rows.uptoBulkAll ([d0, d1, DataW.lit (H := H) (.string s2.data.toList)] ++ []) ≤ 1048576 := of_decide_eq_true hk
    rwa [List.append_nil] at this
  have e2 : s2.data.toList.length = s2.size := by rw [Array.length_toList]; rfl
  have f2 : Rows.uptoBulk (DataW.lit (H := H) (.string s2.data.toList)) = s2.data.toList.length + 1 := rfl
  simp only [Rows.uptoBulkAll] at hb
  rw [f2, e2] at hb
  clear e2 f2
  refine (policyOrders_fr L0 pa0 ca0 xs1 pi1 ci1 s2 W (by omega) hat0 (fun r hr => by have := hoz0 r hr; exact ⟨by omega, by omega⟩) hca0 hcm0 hno0 hit1 (by omega) (fun z hz => Fri.wf_i64 (hiw1 z hz)) hin1 hic1 him1 (by omega)).mono fun e W' ⟨he, bel⟩ => ?_
  subst he
  exact ⟨_, rfl, _, _, _, [], _, [], hW', trodAll_mk1 (shut_bool Tryz.underlying4 _), (trodAll_cons_mk (Below.trod laidOut (by kernel_rfl) (of_decide_eq_true (by kernel_rfl)) k0 bel lt0) (trodAll_cons_mk (Below.trod laidOut (by kernel_rfl) (of_decide_eq_true (by kernel_rfl)) k1 bel lt1) (trodAll_cons_mk (shut_string Tryz.underlying9 m2) trodAll_mk0))), rfl, bel.frame _, fun h => by cases h⟩

set_option maxRecDepth 100000 in
theorem lifted (os : Os) (started : os.Started) (H : Type) (enc : TypeId × Value → H) (F : Stop.Interp) :
    ReturnsInHanded {} Tryz.checked os 3 .any ((Rows.OpenSpec.upto Rows.policyOrdersSpec).pre6 enc Tryz.prog Tryz.f3 Rows.policyOrdersUptoRow.domain false) (((Rows.OpenSpec.upto Rows.policyOrdersSpec).at F).post enc Tryz.prog Tryz.f3 false true false false) := by
  refine returnsInHanded_of_cond (C := Tryz.checked) (s := Rows.OpenSpec.upto Rows.policyOrdersSpec) (k := Rows.uptoSmall) rfl own started (by kernel_rfl) Tryz.func3
    (OpenSpec.witness (enc := enc) (C := Tryz.checked) (s := Rows.OpenSpec.upto Rows.policyOrdersSpec) (k := Rows.uptoSmall) rfl false ⟨#[], #[.slice none 0 0, .slice none 0 0, .string .empty], []⟩ 8 (by kernel_rfl) (by kernel_rfl) (by kernel_rfl)
      (x := ([.nil, .nil, .lit (.string [])], [], [])) (by kernel_rfl) rfl (by kernel_rfl)) ?_
  intro W base args ds gs before hval hW _ hk _
  exact contract H enc W base args ds gs before hval hW hk

theorem proved : Rows.PolicyOrdersUptoSaid :=
  OpenClaim.holds_of_cond 3 Tryz.f3 rfl rfl rfl rfl rfl rfl rfl ⟨rfl, rfl, rfl, rfl, rfl⟩ rfl rfl rfl rfl rfl (by kernel_rfl) Tryz.func3 (by kernel_rfl)
    (of_decide_eq_true (by kernel_rfl)) (by unfold Func.isWrapper; first | (rw [if_pos (by decide +kernel)]; kernel_rfl) | (rw [if_neg (by decide +kernel)]; exact ⟨rfl, rfl⟩))
    (fun os started H enc _ F => lifted os started H enc F)
end Go.Proofs.YtelboefeomnjaaaGreat.policyOrdersP
namespace Go.Proofs.YtelboefeomnjaaaGreat
theorem policyOrders_upto : Rows.PolicyOrdersUptoSaid := policyOrdersP.proved
end Go.Proofs.YtelboefeomnjaaaGreat
