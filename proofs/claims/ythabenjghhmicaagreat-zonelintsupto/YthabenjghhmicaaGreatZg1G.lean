import Derived.Test.YthabenjghhmicaaGreatZgpG
namespace Go.Proofs.YthabenjghhmicaaGreat
set_option linter.unusedVariables false
set_option linter.unusedSimpArgs false
open Go.RowKit Go.Shelf Go.Maps Go.Proofs.YthabenjghhmicaaGreat.Nm Go.Proofs.YthabenjghhmicaaGreat.Zs
structure Yz (w : World) (zb : Nat) (apex : ByteArray) (M : List Rn) (p : Option Addr) (c : Nat) : Prop where
 yx : Bx w zb #[.string apex, .slice p M.length c] 41
 rs : RsAt w p M
 ok : okL M
 few : M.length ≤ 2000
theorem Yz.step {w w' : World} {zb : Nat} {apex : ByteArray} {M : List Rn} {p : Option Addr} {c : Nat} (h : Yz w zb apex M p c) (hb : Below w.heap.size w w') : Yz w' zb apex M p c := ⟨h.yx.below hb h.yx.lt, rs_stay h.rs hb, h.ok, h.few⟩
structure Ga (w wr : World) (P : Rn → Bool) (M : List Rn) (k : Nat) (ov : Value) : Prop where
 own : wr.ownsRow w.heap.size 54 5 ov ((M.take k).filter P).length (rce5 ((M.take k).filter P))
 bl : Below w.heap.size w wr
section
variable {w wr w2 : World} {P : Rn → Bool} {M : List Rn} {k : Nat} {ov : Value}
theorem Ga.skip (h : Ga w wr P M k ov) (hk : k < M.length) (hp : P M[k] = false) (hb : Below wr.heap.size wr w2) : Ga w w2 P M (k + 1) ov := by
 have e : (M.take (k + 1)).filter P = (M.take k).filter P := by rw [List.take_succ_eq_append_getElem hk, List.filter_append]; simp [hp]
 refine ⟨?_, bstep h.bl hb h.bl.size⟩
 rw [e]; exact own_below h.own hb
theorem Ga.take {v9 : Value} {x : Rn} (h : Ga w wr P M k ov) (hk : k < M.length) (hx : M[k] = x) (hp : P x = true) (ho : w2.ownsRow w.heap.size 54 5 v9 (((M.take k).filter P).length + [x].length) (rce5 ((M.take k).filter P) ++ rce5 [x])) (hb : Below w.heap.size w w2) : Ga w w2 P M (k + 1) v9 := by
 have e : (M.take (k + 1)).filter P = (M.take k).filter P ++ [x] := by rw [List.take_succ_eq_append_getElem hk, List.filter_append, hx]; simp [hp]
 refine ⟨?_, hb⟩
 rw [e, rce5_app, List.length_append]; exact ho
theorem Ga.app (h : Ga w wr P M k ov) (V : World) (hV : Below wr.heap.size wr V) (x : Rn) :
  (V.alloc (.cells #[.string x.o, .int .i64 x.t, .int .i64 x.c, .int .i64 x.l, .string x.d] 54)).ownsRow w.heap.size 54 5 ov ((M.take k).filter P).length (rce5 ((M.take k).filter P)) ∧ RsAt (V.alloc (.cells #[.string x.o, .int .i64 x.t, .int .i64 x.c, .int .i64 x.l, .string x.d] 54)) (some ⟨V.heap.size, 0, none⟩) [x] ∧ w.heap.size ≤ (V.alloc (.cells #[.string x.o, .int .i64 x.t, .int .i64 x.c, .int .i64 x.l, .string x.d] 54)).heap.size ∧ Below w.heap.size w (V.alloc (.cells #[.string x.o, .int .i64 x.t, .int .i64 x.c, .int .i64 x.l, .string x.d] 54)) := by
 have hb : Below w.heap.size w V := bstep h.bl hV h.bl.size
 exact ⟨own_below h.own (hV.alloc (hV.size) _), rs_one V x, Nat.le_trans hb.size (by simp), hb.alloc hb.size _⟩
theorem Ga.len (h : Ga w wr P M k ov) : ((M.take k).filter P).length ≤ M.length := by
 have h1 := List.length_filter_le P (M.take k)
 rw [List.length_take] at h1
 omega
end
set_option maxRecDepth 100000 in
set_option maxHeartbeats 4000000 in
theorem rset_any {zb : Nat} {apex : ByteArray} {M : List Rn} {p : Option Addr} {c : Nat} {w : World} (h : Yz w zb apex M p c) (n : ByteArray) (t : Int) (hn : n.size ≤ 1048576) :
  Calls Tryz.prog 22 #[.pointer (some ⟨zb, 0, none⟩), .string n, .int .i64 t] w fun r w' => (∃ v, r = .returned v ∧ w'.ownsRow w.heap.size 54 5 v (rset M n t).length (rce5 (rset M n t))) ∧ Below w.heap.size w w' := by
 have z1 : w.cell? ⟨zb, 1, none⟩ = some (.slice p M.length c) := h.yx.cell rfl
 have HY := hide' h
 have hM := h.few
 clear h
 go_enter Tryz.func22, Tryz.ntmps22
 go_wp2_with fail
 go_loopw [7, 15] (fun ov kv wr => ∃ k : Nat, kv = .int .i64 (k : Int) ∧ k ≤ M.length ∧ Hid (Ga w wr (setP n t) M k ov)) (fun _ kv _ => M.length - (intOf kv).toNat)
 case atStart => exact ⟨0, rfl, Nat.zero_le _, ⟨World.ownsRow_nil _ _ _ _, Below.refl _ _⟩⟩
 case round =>
  obtain ⟨k, rfl, hk, HG⟩ := hrel
  by_cases hlt : k < M.length
  ·obtain ⟨g, off, hp⟩ := rs_at HY.out.rs hlt
   subst hp
   obtain ⟨y0, y1, y2, y3, y4⟩ := rs_cells HY.out.rs rfl hlt HG.out.bl
   have hsm := ok_small (HY.out.ok _ (rAt_mem hlt))
   have HE := hide' (fun V => equalName_any (rAt M k).o n V hsm.1 hn)
   have K0 := hide' (Bk.start wr (rAt M k))
   have HX := hide' (rAt_get hlt)
   obtain ⟨x, hx⟩ : ∃ x, rAt M k = x := ⟨_, rfl⟩
   rw [hx] at y0 y1 y2 y3 y4 HE K0 HX
   obtain ⟨wa, hwa⟩ : ∃ wa, wr.alloc (.cells #[.string x.o, .int .i64 x.t, .int .i64 x.c, .int .i64 x.l, .string x.d] 54) = wa := ⟨_, rfl⟩
   rw [hwa] at K0
   have HK : Hid (∀ V, Below wa.heap.size wa V → Bk wr V x) := fun V hV => K0.out.step hV
   obtain ⟨v0, v1, v2, v3, v4⟩ := K0.out.cells
   have HAP : Hid (∀ V, Below wr.heap.size wr V → _) := fun V hV => HG.out.app V hV x
   have HLn : Hid (((M.take k).filter (setP n t)).length ≤ 2000) := Nat.le_trans HG.out.len hM
   clear hx hsm
   obtain ⟨xo, xt, xc, xl, xd⟩ := x
   simp only at y0 y1 y2 y3 y4 v0 v1 v2 v3 v4 hwa HE HAP
   obtain ⟨E, hE⟩ : ∃ E, eqB xo n = E := ⟨_, rfl⟩
   have HPE : Hid (setP n t ⟨xo, xt, xc, xl, xd⟩ = (decide (xt = t) && E)) := by unfold Hid setP; rw [← hE]
   rw [hE] at HE
   clear hE
   have pk : (k : Int) < (M.length : Int) := by omega
   have hB := Below.refl wa.heap.size wa
   by_cases ht : xt = t
   ·have htb : (xt == t) = true := by simp [ht]
    have HT := hide' ht
    clear ht
    cases E with
    | true =>
     have HP : Hid (setP n t ⟨xo, xt, xc, xl, xd⟩ = true) := by unfold Hid; rw [HPE.out, decide_eq_true HT.out]; rfl
     go_wp2_with (first
      | (go_at_call 60; refine (HE.out _).mono ?_; rintro e w5 ⟨rfl, hB5⟩; have hB := bstep hB hB5 hB.size; obtain ⟨v0, v1, v2, v3, v4⟩ := (HK.out _ hB).cells; clear hB5)
      | (at_builtin; refine wpList_append_recsM rfl _ _ rfl w.heap.size _ _ _ rfl (HAP.out _ (HK.out _ hB).bl).1 (some ⟨_, 0, none⟩) [⟨xo, xt, xc, xl, xd⟩] 1 rfl (HAP.out _ (HK.out _ hB).bl).2.1 (by simp) (by have := HLn.out; simp; omega) (HAP.out _ (HK.out _ hB).bl).2.2.1 ?_; intro v9 w9 ho9 hg9; have HO9 := hide' ho9; have HB9 := hide' ((HAP.out _ (HK.out _ hB).bl).2.2.2.grown hg9 (HAP.out _ (HK.out _ hB).bl).2.2.1 (fun j e => own_ge (HAP.out _ (HK.out _ hB).bl).1 e)); clear ho9 hg9))
     exact ⟨⟨k + 1, by go_num, by omega, hide' (HG.out.take hlt HX.out HP.out HO9.out HB9.out)⟩, by simp [intOf]; omega⟩
    | false =>
     have HP : Hid (setP n t ⟨xo, xt, xc, xl, xd⟩ = false) := by unfold Hid; rw [HPE.out]; simp
     go_wp2_with (go_at_call 60; refine (HE.out _).mono ?_; rintro e w5 ⟨rfl, hB5⟩; have hB := bstep hB hB5 hB.size; clear hB5)
     exact ⟨⟨k + 1, by go_num, by omega, hide' (HG.out.skip hlt (by rw [HX.out]; exact HP.out) (HK.out _ hB).bl)⟩, by simp [intOf]; omega⟩
   ·have htb : (xt == t) = false := by simp [ht]
    have HP : Hid (setP n t ⟨xo, xt, xc, xl, xd⟩ = false) := by unfold Hid; rw [HPE.out, decide_eq_false ht]; rfl
    go_wp2_with fail
    exact ⟨⟨k + 1, by go_num, by omega, hide' (HG.out.skip hlt (by rw [HX.out]; exact HP.out) (HK.out _ hB).bl)⟩, by simp [intOf]; omega⟩
  ·obtain rfl : k = M.length := by omega
   go_wp2_with fail
   go_ret
   refine ⟨⟨_, rfl, ?_⟩, HG.out.bl⟩
   have := HG.out.own
   rw [List.take_length] at this
   exact this
set_option maxRecDepth 100000 in
set_option maxHeartbeats 4000000 in
theorem rthere_any {zb : Nat} {apex : ByteArray} {M : List Rn} {p : Option Addr} {c : Nat} {w : World} (h : Yz w zb apex M p c) (n : ByteArray) (hn : n.size ≤ 1048576) :
  Calls Tryz.prog 55 #[.pointer (some ⟨zb, 0, none⟩), .string n] w fun r w' => r = .returned (.bool (rth M n)) ∧ Below w.heap.size w w' := by
 have z1 : w.cell? ⟨zb, 1, none⟩ = some (.slice p M.length c) := h.yx.cell rfl
 have HY := hide' h
 have hM := h.few
 clear h
 go_enter Tryz.func55, Tryz.ntmps55
 go_wp2_with fail
 go_loopw [12] (fun kv wr => ∃ k : Nat, kv = .int .i64 (k : Int) ∧ k ≤ M.length ∧ Hid (∀ j, j < k → (countB (rAt M j) && withinB (rAt M j).o n) = false) ∧ Hid (Below w.heap.size w wr)) (fun kv _ => M.length - (intOf kv).toNat)
 case atStart => exact ⟨0, rfl, Nat.zero_le _, (fun j h => absurd h (Nat.not_lt_zero _)), Below.refl _ _⟩
 case round =>
  obtain ⟨k, rfl, hk, HN, HBr⟩ := hrel
  by_cases hlt : k < M.length
  ·obtain ⟨g, off, hp⟩ := rs_at HY.out.rs hlt
   subst hp
   obtain ⟨y0, y1, y2, y3, y4⟩ := rs_cells HY.out.rs rfl hlt HBr.out
   have hsm := ok_small (HY.out.ok _ (rAt_mem hlt))
   have HE := hide' (fun V => refWithin_any (rAt M k).o n V hsm.1 hn)
   have HC := hide' (fun V => rcounts_any (rAt M k) V hsm.2)
   have K0 := hide' (Bk.start wr (rAt M k))
   have HH : Hid ((countB (rAt M k) && withinB (rAt M k).o n) = true → rth M n = true) := fun h => by unfold rth; rw [List.any_eq_true]; exact ⟨_, rAt_mem hlt, h⟩
   have HU : Hid ((countB (rAt M k) && withinB (rAt M k).o n) = false → ∀ j, j < k + 1 → (countB (rAt M j) && withinB (rAt M j).o n) = false) := fun h => up_to (P := fun j => countB (rAt M j) && withinB (rAt M j).o n) HN.out h
   obtain ⟨x, hx⟩ : ∃ x, rAt M k = x := ⟨_, rfl⟩
   rw [hx] at y0 y1 y2 y3 y4 HE HC K0 HH
   rw [hx] at HU
   obtain ⟨wa, hwa⟩ : ∃ wa, wr.alloc (.cells #[.string x.o, .int .i64 x.t, .int .i64 x.c, .int .i64 x.l, .string x.d] 54) = wa := ⟨_, rfl⟩
   rw [hwa] at K0
   have HK : Hid (∀ V, Below wa.heap.size wa V → Bk wr V x) := fun V hV => K0.out.step hV
   obtain ⟨v0, v1, v2, v3, v4⟩ := K0.out.cells
   clear hx hsm
   obtain ⟨xo, xt, xc, xl, xd⟩ := x
   unfold rcV at HC
   simp only at y0 y1 y2 y3 y4 v0 v1 v2 v3 v4 hwa HE HC HH HU
   obtain ⟨E, hE⟩ : ∃ E, withinB xo n = E := ⟨_, rfl⟩
   obtain ⟨Cn, hCn⟩ : ∃ Cn, countB ⟨xo, xt, xc, xl, xd⟩ = Cn := ⟨_, rfl⟩
   rw [hE] at HE HH HU
   rw [hCn] at HC HH HU
   clear hE hCn
   have pk : (k : Int) < (M.length : Int) := by omega
   have hB := Below.refl wa.heap.size wa
   cases Cn with
   | true =>
    cases E with
    | true =>
     have HHH := hide' (HH.out rfl)
     go_wp2_with (first
      | (go_at_call 26; refine (HC.out _).mono ?_; rintro e w5 ⟨rfl, hB5⟩; have hB := bstep hB hB5 hB.size; obtain ⟨v0, v1, v2, v3, v4⟩ := (HK.out _ hB).cells; clear hB5)
      | (go_at_call 52; refine (HE.out _).mono ?_; rintro e w6 ⟨rfl, hB5⟩; have hB := bstep hB hB5 hB.size; clear hB5))
     go_ret
     exact ⟨by rw [HHH.out]; rfl, bstep HBr.out (HK.out _ hB).bl HBr.out.size⟩
    | false =>
     have HUU := hide' (HU.out rfl)
     go_wp2_with (first
      | (go_at_call 26; refine (HC.out _).mono ?_; rintro e w5 ⟨rfl, hB5⟩; have hB := bstep hB hB5 hB.size; obtain ⟨v0, v1, v2, v3, v4⟩ := (HK.out _ hB).cells; clear hB5)
      | (go_at_call 52; refine (HE.out _).mono ?_; rintro e w6 ⟨rfl, hB5⟩; have hB := bstep hB hB5 hB.size; clear hB5))
     exact ⟨⟨k + 1, by go_num, by omega, HUU, bstep HBr.out (HK.out _ hB).bl HBr.out.size⟩, by simp [intOf]; omega⟩
   | false =>
    have HUU := hide' (HU.out rfl)
    go_wp2_with (go_at_call 26; refine (HC.out _).mono ?_; rintro e w5 ⟨rfl, hB5⟩; have hB := bstep hB hB5 hB.size; clear hB5)
    exact ⟨⟨k + 1, by go_num, by omega, HUU, bstep HBr.out (HK.out _ hB).bl HBr.out.size⟩, by simp [intOf]; omega⟩
  ·obtain rfl : k = M.length := by omega
   have HZ : Hid (rth M n = false) := by
    unfold Hid rth
    rw [List.any_eq_false]
    intro x hx
    obtain ⟨i, hi, rfl⟩ := mem_at hx
    rw [HN.out i hi]; simp
   go_wp2_with fail
   go_ret
   exact ⟨by rw [HZ.out]; rfl, HBr.out⟩
end Go.Proofs.YthabenjghhmicaaGreat
namespace Go.Proofs.YthabenjghhmicaaGreat
set_option linter.unusedVariables false
set_option linter.unusedSimpArgs false
open Go.RowKit Go.Shelf Go.Maps Go.Proofs.YthabenjghhmicaaGreat.Nm Go.Proofs.YthabenjghhmicaaGreat.Zs
def RstE (M : List Rn) (n : ByteArray) (t : Int) (W : World) (r : Ending) (w' : World) : Prop := (∃ v, r = .returned (.tuple #[.int .i64 (rstand M n t).1, v]) ∧ w'.ownsRow W.heap.size 54 5 v (rstand M n t).2.length (rce5 (rstand M n t).2)) ∧ Below W.heap.size W w'
theorem rst_end {M : List Rn} {n : ByteArray} {t k : Int} {X : List Rn} {W w' : World} {r : Ending} {v : Value} (hs : rstand M n t = (k, X)) (hr : r = .returned (.tuple #[.int .i64 k, v])) (ho : w'.ownsRow W.heap.size 54 5 v X.length (rce5 X)) (hb : Below W.heap.size W w') : RstE M n t W r w' := by
 refine ⟨⟨v, by rw [hs]; exact hr, by rw [hs]; exact ho⟩, hb⟩
set_option maxRecDepth 100000 in
set_option maxHeartbeats 8000000 in
theorem rstands_alias {zb : Nat} {apex : ByteArray} {M : List Rn} {p : Option Addr} {c : Nat} {w : World} (h : Yz w zb apex M p c) (n : ByteArray) (t : Int) (hn : n.size ≤ 1048576) (hal : (rset M n 5).isEmpty = false ∧ t ≠ 5 ∧ t ≠ 255) :
  Calls Tryz.prog 56 #[.pointer (some ⟨zb, 0, none⟩), .string n, .int .i64 t] w (RstE M n t w) := by
 have HSe := hide' (rset_any h n 5 hn)
 have HY := hide' h
 have HV : Hid (rstand M n t = (2, rset M n 5)) := by unfold Hid rstand; rw [if_pos hal]
 have hl := nonempty_len hal.1
 have i1 : (0 : Int) < ((rset M n 5).length : Int) := by omega
 have h5 : (t != 5) = true := by simp [hal.2.1]
 have h255 : (t != 255) = true := by simp [hal.2.2]
 obtain ⟨X, hX⟩ : ∃ X, rset M n 5 = X := ⟨_, rfl⟩
 rw [hX] at HSe HV i1
 clear h hal hl hX
 go_enter Tryz.func56, Tryz.ntmps56
 go_wp2_with (go_at_call 22; refine (HSe.out).mono ?_; rintro e w1 ⟨⟨v1, rfl, ho1⟩, hB1⟩; obtain ⟨p1, c1, rfl, _, _, _⟩ := own_shape ho1; have HO1 := hide' ho1; have HB1 := hide' hB1; have HY1 := hide' (HY.out.step hB1); have z1 : w1.cell? ⟨zb, 1, none⟩ = some (.slice p M.length c) := HY1.out.yx.cell rfl; clear hB1 ho1)
 go_ret2
 exact rst_end HV.out rfl HO1.out HB1.out
set_option maxRecDepth 100000 in
set_option maxHeartbeats 8000000 in
theorem rstands_none {zb : Nat} {apex : ByteArray} {M : List Rn} {p : Option Addr} {c : Nat} {w : World} (h : Yz w zb apex M p c) (n : ByteArray) (t : Int) (hn : n.size ≤ 1048576) (hal : (rset M n 5).isEmpty = true) :
  Calls Tryz.prog 56 #[.pointer (some ⟨zb, 0, none⟩), .string n, .int .i64 t] w (RstE M n t w) := by
 have HSe := hide' (rset_any h n 5 hn)
 have HY := hide' h
 have hM := h.few
 have HRs : Hid (rstand M n t = if (M.filter (stP n t)).isEmpty then (5, []) else (1, M.filter (stP n t))) := by unfold Hid rstand; rw [if_neg (by intro hc; rw [hal] at hc; cases hc.1)]
 have hl : (rset M n 5).length = 0 := by rw [empty_len hal]; rfl
 have i1 : ¬ (0 : Int) < ((rset M n 5).length : Int) := by omega
 rw [hl] at HSe
 clear hal hl i1
 clear h
 go_enter Tryz.func56, Tryz.ntmps56
 go_wp2_with (go_at_call 22; refine (HSe.out).mono ?_; rintro e w1 ⟨⟨v1, rfl, ho1⟩, hB1⟩; obtain ⟨p1, c1, rfl, _, _, _⟩ := own_shape ho1; have HO1 := hide' ho1; have HB1 := hide' hB1; have HY1 := hide' (HY.out.step hB1); have z1 : w1.cell? ⟨zb, 1, none⟩ = some (.slice p M.length c) := HY1.out.yx.cell rfl; clear hB1 ho1)
 clear HO1
 go_loopw [9, 32] (fun ov kv wr => ∃ k : Nat, kv = .int .i64 (k : Int) ∧ k ≤ M.length ∧ Hid (Ga w1 wr (stP n t) M k ov)) (fun _ kv _ => M.length - (intOf kv).toNat)
 case atStart => exact ⟨0, rfl, Nat.zero_le _, ⟨World.ownsRow_nil _ _ _ _, Below.refl _ _⟩⟩
 case round =>
  obtain ⟨k, rfl, hk, HG⟩ := hrel
  by_cases hlt : k < M.length
  ·obtain ⟨g, off, hp⟩ := rs_at HY1.out.rs hlt
   subst hp
   obtain ⟨y0, y1, y2, y3, y4⟩ := rs_cells HY1.out.rs rfl hlt HG.out.bl
   have hsm := ok_small (HY1.out.ok _ (rAt_mem hlt))
   have HE := hide' (fun V => equalName_any (rAt M k).o n V hsm.1 hn)
   have HC := hide' (fun V => rcounts_any (rAt M k) V hsm.2)
   have K0 := hide' (Bk.start wr (rAt M k))
   have HX := hide' (rAt_get hlt)
   obtain ⟨x, hx⟩ : ∃ x, rAt M k = x := ⟨_, rfl⟩
   rw [hx] at y0 y1 y2 y3 y4 HE HC K0 HX
   obtain ⟨wa, hwa⟩ : ∃ wa, wr.alloc (.cells #[.string x.o, .int .i64 x.t, .int .i64 x.c, .int .i64 x.l, .string x.d] 54) = wa := ⟨_, rfl⟩
   rw [hwa] at K0
   have HK : Hid (∀ V, Below wa.heap.size wa V → Bk wr V x) := fun V hV => K0.out.step hV
   obtain ⟨v0, v1, v2, v3, v4⟩ := K0.out.cells
   have HAP : Hid (∀ V, Below wr.heap.size wr V → _) := fun V hV => HG.out.app V hV x
   have HLn : Hid (((M.take k).filter (stP n t)).length ≤ 2000) := Nat.le_trans HG.out.len hM
   clear hx hsm
   obtain ⟨xo, xt, xc, xl, xd⟩ := x
   unfold rcV at HC
   simp only at y0 y1 y2 y3 y4 v0 v1 v2 v3 v4 hwa HE HC HAP
   obtain ⟨E, hE⟩ : ∃ E, eqB xo n = E := ⟨_, rfl⟩
   obtain ⟨Cn, hCn⟩ : ∃ Cn, countB ⟨xo, xt, xc, xl, xd⟩ = Cn := ⟨_, rfl⟩
   have HPE : Hid (stP n t ⟨xo, xt, xc, xl, xd⟩ = (E && (decide (xt = t) || (decide (t = 255) && Cn)))) := by unfold Hid stP; rw [← hE, ← hCn]
   rw [hE] at HE
   rw [hCn] at HC
   clear hE hCn
   have pk : (k : Int) < (M.length : Int) := by omega
   have hB := Below.refl wa.heap.size wa
   cases E with
   | false =>
    have HP : Hid (stP n t ⟨xo, xt, xc, xl, xd⟩ = false) := by unfold Hid; rw [HPE.out]; rfl
    go_wp2_with (first
     | (go_at_call 60; refine (HE.out _).mono ?_; rintro e w5 ⟨rfl, hB5⟩; have hB := bstep hB hB5 hB.size; obtain ⟨v0, v1, v2, v3, v4⟩ := (HK.out _ hB).cells; clear hB5))
    exact ⟨⟨k + 1, by go_num, by omega, hide' (HG.out.skip hlt (by rw [HX.out]; exact HP.out) (HK.out _ hB).bl)⟩, by simp [intOf]; omega⟩
   | true =>
    by_cases ht : xt = t
    ·have htb : (xt == t) = true := by simp [ht]
     have HT := hide' ht
     clear ht
     have HP : Hid (stP n t ⟨xo, xt, xc, xl, xd⟩ = true) := by unfold Hid; rw [HPE.out]; simp [HT.out]
     go_wp2_with (first
      | (go_at_call 60; refine (HE.out _).mono ?_; rintro e w5 ⟨rfl, hB5⟩; have hB := bstep hB hB5 hB.size; obtain ⟨v0, v1, v2, v3, v4⟩ := (HK.out _ hB).cells; clear hB5)
      | (at_builtin; refine wpList_append_recsM rfl _ _ rfl w1.heap.size _ _ _ rfl (HAP.out _ (HK.out _ hB).bl).1 (some ⟨_, 0, none⟩) [⟨xo, xt, xc, xl, xd⟩] 1 rfl (HAP.out _ (HK.out _ hB).bl).2.1 (by simp) (by have := HLn.out; simp; omega) (HAP.out _ (HK.out _ hB).bl).2.2.1 ?_; intro v9 w9 ho9 hg9; have HO9 := hide' ho9; have HB9 := hide' ((HAP.out _ (HK.out _ hB).bl).2.2.2.grown hg9 (HAP.out _ (HK.out _ hB).bl).2.2.1 (fun j e => own_ge (HAP.out _ (HK.out _ hB).bl).1 e)); clear ho9 hg9))
     exact ⟨⟨k + 1, by go_num, by omega, hide' (HG.out.take hlt HX.out HP.out HO9.out HB9.out)⟩, by simp [intOf]; omega⟩
    ·have htb : (xt == t) = false := by simp [ht]
     by_cases h255 : t = 255
     ·have h255b : (t == 255) = true := by simp [h255]
      have H255 := hide' h255
      have HT := hide' ht
      clear h255 ht
      cases Cn with
      | true =>
       have HP : Hid (stP n t ⟨xo, xt, xc, xl, xd⟩ = true) := by unfold Hid; rw [HPE.out]; simp [H255.out]
       go_wp2_with (first
        | (go_at_call 60; refine (HE.out _).mono ?_; rintro e w5 ⟨rfl, hB5⟩; have hB := bstep hB hB5 hB.size; obtain ⟨v0, v1, v2, v3, v4⟩ := (HK.out _ hB).cells; clear hB5)
        | (go_at_call 26; refine (HC.out _).mono ?_; rintro e w6 ⟨rfl, hB5⟩; have hB := bstep hB hB5 hB.size; obtain ⟨v0, v1, v2, v3, v4⟩ := (HK.out _ hB).cells; clear hB5)
        | (at_builtin; refine wpList_append_recsM rfl _ _ rfl w1.heap.size _ _ _ rfl (HAP.out _ (HK.out _ hB).bl).1 (some ⟨_, 0, none⟩) [⟨xo, xt, xc, xl, xd⟩] 1 rfl (HAP.out _ (HK.out _ hB).bl).2.1 (by simp) (by have := HLn.out; simp; omega) (HAP.out _ (HK.out _ hB).bl).2.2.1 ?_; intro v9 w9 ho9 hg9; have HO9 := hide' ho9; have HB9 := hide' ((HAP.out _ (HK.out _ hB).bl).2.2.2.grown hg9 (HAP.out _ (HK.out _ hB).bl).2.2.1 (fun j e => own_ge (HAP.out _ (HK.out _ hB).bl).1 e)); clear ho9 hg9))
       exact ⟨⟨k + 1, by go_num, by omega, hide' (HG.out.take hlt HX.out HP.out HO9.out HB9.out)⟩, by simp [intOf]; omega⟩
      | false =>
       have HP : Hid (stP n t ⟨xo, xt, xc, xl, xd⟩ = false) := by unfold Hid; rw [HPE.out]; simp [HT.out]
       go_wp2_with (first
        | (go_at_call 60; refine (HE.out _).mono ?_; rintro e w5 ⟨rfl, hB5⟩; have hB := bstep hB hB5 hB.size; obtain ⟨v0, v1, v2, v3, v4⟩ := (HK.out _ hB).cells; clear hB5)
        | (go_at_call 26; refine (HC.out _).mono ?_; rintro e w6 ⟨rfl, hB5⟩; have hB := bstep hB hB5 hB.size; obtain ⟨v0, v1, v2, v3, v4⟩ := (HK.out _ hB).cells; clear hB5))
       exact ⟨⟨k + 1, by go_num, by omega, hide' (HG.out.skip hlt (by rw [HX.out]; exact HP.out) (HK.out _ hB).bl)⟩, by simp [intOf]; omega⟩
     ·have h255b : (t == 255) = false := by simp [h255]
      have HP : Hid (stP n t ⟨xo, xt, xc, xl, xd⟩ = false) := by unfold Hid; rw [HPE.out]; simp [ht, h255]
      go_wp2_with (first
       | (go_at_call 60; refine (HE.out _).mono ?_; rintro e w5 ⟨rfl, hB5⟩; have hB := bstep hB hB5 hB.size; obtain ⟨v0, v1, v2, v3, v4⟩ := (HK.out _ hB).cells; clear hB5))
      exact ⟨⟨k + 1, by go_num, by omega, hide' (HG.out.skip hlt (by rw [HX.out]; exact HP.out) (HK.out _ hB).bl)⟩, by simp [intOf]; omega⟩
  ·obtain rfl : k = M.length := by omega
   have hoX := HG.out.own
   rw [List.take_length] at hoX
   cases he : (M.filter (stP n t)).isEmpty with
   | true =>
    have HV : Hid (rstand M n t = (5, [])) := by unfold Hid; rw [HRs.out, he]; rfl
    rw [empty_len he] at hoX
    rw [List.length_nil] at hoX
    obtain ⟨q5, c5, hv5, _, _, _⟩ := own_shape hoX
    subst hv5
    clear hoX he
    go_wp2_with fail
    go_ret2
    exact rst_end HV.out rfl (World.ownsRow_nil _ _ _ _) (bstep HB1.out HG.out.bl HB1.out.size)
   | false =>
    have HV : Hid (rstand M n t = (1, M.filter (stP n t))) := by unfold Hid; rw [HRs.out, he]; rfl
    have hl := nonempty_len he
    obtain ⟨q5, c5, hv5, _, _, _⟩ := own_shape hoX
    subst hv5
    have HOX := hide' hoX
    have hln : ¬ ((M.filter (stP n t)).length : Int) = 0 := by omega
    have hlb : (((M.filter (stP n t)).length : Int) == 0) = false := by rw [beq_eq_false_iff_ne]; omega
    have HBz := hide' (bstep HB1.out HG.out.bl HB1.out.size)
    clear hoX he hl
    go_wp2_with fail
    go_ret2
    exact rst_end HV.out rfl (own_baseZ HOX.out HB1.out.size) HBz.out
set_option maxRecDepth 100000 in
set_option maxHeartbeats 8000000 in
theorem rstands_five {zb : Nat} {apex : ByteArray} {M : List Rn} {p : Option Addr} {c : Nat} {w : World} (h : Yz w zb apex M p c) (n : ByteArray) (t : Int) (hn : n.size ≤ 1048576) (hal : (rset M n 5).isEmpty = false) (h5 : t = 5) :
  Calls Tryz.prog 56 #[.pointer (some ⟨zb, 0, none⟩), .string n, .int .i64 t] w (RstE M n t w) := by
 have HSe := hide' (rset_any h n 5 hn)
 have HY := hide' h
 have hM := h.few
 have HRs : Hid (rstand M n t = if (M.filter (stP n t)).isEmpty then (5, []) else (1, M.filter (stP n t))) := by unfold Hid rstand; rw [if_neg (by intro hc; exact hc.2.1 h5)]
 have hl := nonempty_len hal
 have i1 : (0 : Int) < ((rset M n 5).length : Int) := by omega
 have h5b : (t != 5) = false := by simp [h5]
 obtain ⟨X, hX⟩ : ∃ X, rset M n 5 = X := ⟨_, rfl⟩
 rw [hX] at HSe i1
 clear hal hl h5 hX
 clear h
 go_enter Tryz.func56, Tryz.ntmps56
 go_wp2_with (go_at_call 22; refine (HSe.out).mono ?_; rintro e w1 ⟨⟨v1, rfl, ho1⟩, hB1⟩; obtain ⟨p1, c1, rfl, _, _, _⟩ := own_shape ho1; have HO1 := hide' ho1; have HB1 := hide' hB1; have HY1 := hide' (HY.out.step hB1); have z1 : w1.cell? ⟨zb, 1, none⟩ = some (.slice p M.length c) := HY1.out.yx.cell rfl; clear hB1 ho1)
 clear HO1
 go_loopw [9, 32] (fun ov kv wr => ∃ k : Nat, kv = .int .i64 (k : Int) ∧ k ≤ M.length ∧ Hid (Ga w1 wr (stP n t) M k ov)) (fun _ kv _ => M.length - (intOf kv).toNat)
 case atStart => exact ⟨0, rfl, Nat.zero_le _, ⟨World.ownsRow_nil _ _ _ _, Below.refl _ _⟩⟩
 case round =>
  obtain ⟨k, rfl, hk, HG⟩ := hrel
  by_cases hlt : k < M.length
  ·obtain ⟨g, off, hp⟩ := rs_at HY1.out.rs hlt
   subst hp
   obtain ⟨y0, y1, y2, y3, y4⟩ := rs_cells HY1.out.rs rfl hlt HG.out.bl
   have hsm := ok_small (HY1.out.ok _ (rAt_mem hlt))
   have HE := hide' (fun V => equalName_any (rAt M k).o n V hsm.1 hn)
   have HC := hide' (fun V => rcounts_any (rAt M k) V hsm.2)
   have K0 := hide' (Bk.start wr (rAt M k))
   have HX := hide' (rAt_get hlt)
   obtain ⟨x, hx⟩ : ∃ x, rAt M k = x := ⟨_, rfl⟩
   rw [hx] at y0 y1 y2 y3 y4 HE HC K0 HX
   obtain ⟨wa, hwa⟩ : ∃ wa, wr.alloc (.cells #[.string x.o, .int .i64 x.t, .int .i64 x.c, .int .i64 x.l, .string x.d] 54) = wa := ⟨_, rfl⟩
   rw [hwa] at K0
   have HK : Hid (∀ V, Below wa.heap.size wa V → Bk wr V x) := fun V hV => K0.out.step hV
   obtain ⟨v0, v1, v2, v3, v4⟩ := K0.out.cells
   have HAP : Hid (∀ V, Below wr.heap.size wr V → _) := fun V hV => HG.out.app V hV x
   have HLn : Hid (((M.take k).filter (stP n t)).length ≤ 2000) := Nat.le_trans HG.out.len hM
   clear hx hsm
   obtain ⟨xo, xt, xc, xl, xd⟩ := x
   unfold rcV at HC
   simp only at y0 y1 y2 y3 y4 v0 v1 v2 v3 v4 hwa HE HC HAP
   obtain ⟨E, hE⟩ : ∃ E, eqB xo n = E := ⟨_, rfl⟩
   obtain ⟨Cn, hCn⟩ : ∃ Cn, countB ⟨xo, xt, xc, xl, xd⟩ = Cn := ⟨_, rfl⟩
   have HPE : Hid (stP n t ⟨xo, xt, xc, xl, xd⟩ = (E && (decide (xt = t) || (decide (t = 255) && Cn)))) := by unfold Hid stP; rw [← hE, ← hCn]
   rw [hE] at HE
   rw [hCn] at HC
   clear hE hCn
   have pk : (k : Int) < (M.length : Int) := by omega
   have hB := Below.refl wa.heap.size wa
   cases E with
   | false =>
    have HP : Hid (stP n t ⟨xo, xt, xc, xl, xd⟩ = false) := by unfold Hid; rw [HPE.out]; rfl
    go_wp2_with (first
     | (go_at_call 60; refine (HE.out _).mono ?_; rintro e w5 ⟨rfl, hB5⟩; have hB := bstep hB hB5 hB.size; obtain ⟨v0, v1, v2, v3, v4⟩ := (HK.out _ hB).cells; clear hB5))
    exact ⟨⟨k + 1, by go_num, by omega, hide' (HG.out.skip hlt (by rw [HX.out]; exact HP.out) (HK.out _ hB).bl)⟩, by simp [intOf]; omega⟩
   | true =>
    by_cases ht : xt = t
    ·have htb : (xt == t) = true := by simp [ht]
     have HT := hide' ht
     clear ht
     have HP : Hid (stP n t ⟨xo, xt, xc, xl, xd⟩ = true) := by unfold Hid; rw [HPE.out]; simp [HT.out]
     go_wp2_with (first
      | (go_at_call 60; refine (HE.out _).mono ?_; rintro e w5 ⟨rfl, hB5⟩; have hB := bstep hB hB5 hB.size; obtain ⟨v0, v1, v2, v3, v4⟩ := (HK.out _ hB).cells; clear hB5)
      | (at_builtin; refine wpList_append_recsM rfl _ _ rfl w1.heap.size _ _ _ rfl (HAP.out _ (HK.out _ hB).bl).1 (some ⟨_, 0, none⟩) [⟨xo, xt, xc, xl, xd⟩] 1 rfl (HAP.out _ (HK.out _ hB).bl).2.1 (by simp) (by have := HLn.out; simp; omega) (HAP.out _ (HK.out _ hB).bl).2.2.1 ?_; intro v9 w9 ho9 hg9; have HO9 := hide' ho9; have HB9 := hide' ((HAP.out _ (HK.out _ hB).bl).2.2.2.grown hg9 (HAP.out _ (HK.out _ hB).bl).2.2.1 (fun j e => own_ge (HAP.out _ (HK.out _ hB).bl).1 e)); clear ho9 hg9))
     exact ⟨⟨k + 1, by go_num, by omega, hide' (HG.out.take hlt HX.out HP.out HO9.out HB9.out)⟩, by simp [intOf]; omega⟩
    ·have htb : (xt == t) = false := by simp [ht]
     by_cases h255 : t = 255
     ·have h255b : (t == 255) = true := by simp [h255]
      have H255 := hide' h255
      have HT := hide' ht
      clear h255 ht
      cases Cn with
      | true =>
       have HP : Hid (stP n t ⟨xo, xt, xc, xl, xd⟩ = true) := by unfold Hid; rw [HPE.out]; simp [H255.out]
       go_wp2_with (first
        | (go_at_call 60; refine (HE.out _).mono ?_; rintro e w5 ⟨rfl, hB5⟩; have hB := bstep hB hB5 hB.size; obtain ⟨v0, v1, v2, v3, v4⟩ := (HK.out _ hB).cells; clear hB5)
        | (go_at_call 26; refine (HC.out _).mono ?_; rintro e w6 ⟨rfl, hB5⟩; have hB := bstep hB hB5 hB.size; obtain ⟨v0, v1, v2, v3, v4⟩ := (HK.out _ hB).cells; clear hB5)
        | (at_builtin; refine wpList_append_recsM rfl _ _ rfl w1.heap.size _ _ _ rfl (HAP.out _ (HK.out _ hB).bl).1 (some ⟨_, 0, none⟩) [⟨xo, xt, xc, xl, xd⟩] 1 rfl (HAP.out _ (HK.out _ hB).bl).2.1 (by simp) (by have := HLn.out; simp; omega) (HAP.out _ (HK.out _ hB).bl).2.2.1 ?_; intro v9 w9 ho9 hg9; have HO9 := hide' ho9; have HB9 := hide' ((HAP.out _ (HK.out _ hB).bl).2.2.2.grown hg9 (HAP.out _ (HK.out _ hB).bl).2.2.1 (fun j e => own_ge (HAP.out _ (HK.out _ hB).bl).1 e)); clear ho9 hg9))
       exact ⟨⟨k + 1, by go_num, by omega, hide' (HG.out.take hlt HX.out HP.out HO9.out HB9.out)⟩, by simp [intOf]; omega⟩
      | false =>
       have HP : Hid (stP n t ⟨xo, xt, xc, xl, xd⟩ = false) := by unfold Hid; rw [HPE.out]; simp [HT.out]
       go_wp2_with (first
        | (go_at_call 60; refine (HE.out _).mono ?_; rintro e w5 ⟨rfl, hB5⟩; have hB := bstep hB hB5 hB.size; obtain ⟨v0, v1, v2, v3, v4⟩ := (HK.out _ hB).cells; clear hB5)
        | (go_at_call 26; refine (HC.out _).mono ?_; rintro e w6 ⟨rfl, hB5⟩; have hB := bstep hB hB5 hB.size; obtain ⟨v0, v1, v2, v3, v4⟩ := (HK.out _ hB).cells; clear hB5))
       exact ⟨⟨k + 1, by go_num, by omega, hide' (HG.out.skip hlt (by rw [HX.out]; exact HP.out) (HK.out _ hB).bl)⟩, by simp [intOf]; omega⟩
     ·have h255b : (t == 255) = false := by simp [h255]
      have HP : Hid (stP n t ⟨xo, xt, xc, xl, xd⟩ = false) := by unfold Hid; rw [HPE.out]; simp [ht, h255]
      go_wp2_with (first
       | (go_at_call 60; refine (HE.out _).mono ?_; rintro e w5 ⟨rfl, hB5⟩; have hB := bstep hB hB5 hB.size; obtain ⟨v0, v1, v2, v3, v4⟩ := (HK.out _ hB).cells; clear hB5))
      exact ⟨⟨k + 1, by go_num, by omega, hide' (HG.out.skip hlt (by rw [HX.out]; exact HP.out) (HK.out _ hB).bl)⟩, by simp [intOf]; omega⟩
  ·obtain rfl : k = M.length := by omega
   have hoX := HG.out.own
   rw [List.take_length] at hoX
   cases he : (M.filter (stP n t)).isEmpty with
   | true =>
    have HV : Hid (rstand M n t = (5, [])) := by unfold Hid; rw [HRs.out, he]; rfl
    rw [empty_len he] at hoX
    rw [List.length_nil] at hoX
    obtain ⟨q5, c5, hv5, _, _, _⟩ := own_shape hoX
    subst hv5
    clear hoX he
    go_wp2_with fail
    go_ret2
    exact rst_end HV.out rfl (World.ownsRow_nil _ _ _ _) (bstep HB1.out HG.out.bl HB1.out.size)
   | false =>
    have HV : Hid (rstand M n t = (1, M.filter (stP n t))) := by unfold Hid; rw [HRs.out, he]; rfl
    have hl := nonempty_len he
    obtain ⟨q5, c5, hv5, _, _, _⟩ := own_shape hoX
    subst hv5
    have HOX := hide' hoX
    have hln : ¬ ((M.filter (stP n t)).length : Int) = 0 := by omega
    have hlb : (((M.filter (stP n t)).length : Int) == 0) = false := by rw [beq_eq_false_iff_ne]; omega
    have HBz := hide' (bstep HB1.out HG.out.bl HB1.out.size)
    clear hoX he hl
    go_wp2_with fail
    go_ret2
    exact rst_end HV.out rfl (own_baseZ HOX.out HB1.out.size) HBz.out
set_option maxRecDepth 100000 in
set_option maxHeartbeats 8000000 in
theorem rstands_any {zb : Nat} {apex : ByteArray} {M : List Rn} {p : Option Addr} {c : Nat} {w : World} (h : Yz w zb apex M p c) (n : ByteArray) (t : Int) (hn : n.size ≤ 1048576) (hal : (rset M n 5).isEmpty = false) (h5 : t = 255) :
  Calls Tryz.prog 56 #[.pointer (some ⟨zb, 0, none⟩), .string n, .int .i64 t] w (RstE M n t w) := by
 have HSe := hide' (rset_any h n 5 hn)
 have HY := hide' h
 have hM := h.few
 have HRs : Hid (rstand M n t = if (M.filter (stP n t)).isEmpty then (5, []) else (1, M.filter (stP n t))) := by unfold Hid rstand; rw [if_neg (by intro hc; exact hc.2.2 h5)]
 have hl := nonempty_len hal
 have i1 : (0 : Int) < ((rset M n 5).length : Int) := by omega
 have h5b : (t != 5) = true := by simp [h5]
 have h6b : (t != 255) = false := by simp [h5]
 obtain ⟨X, hX⟩ : ∃ X, rset M n 5 = X := ⟨_, rfl⟩
 rw [hX] at HSe i1
 clear hal hl h5 hX
 clear h
 go_enter Tryz.func56, Tryz.ntmps56
 go_wp2_with (go_at_call 22; refine (HSe.out).mono ?_; rintro e w1 ⟨⟨v1, rfl, ho1⟩, hB1⟩; obtain ⟨p1, c1, rfl, _, _, _⟩ := own_shape ho1; have HO1 := hide' ho1; have HB1 := hide' hB1; have HY1 := hide' (HY.out.step hB1); have z1 : w1.cell? ⟨zb, 1, none⟩ = some (.slice p M.length c) := HY1.out.yx.cell rfl; clear hB1 ho1)
 clear HO1
 go_loopw [9, 32] (fun ov kv wr => ∃ k : Nat, kv = .int .i64 (k : Int) ∧ k ≤ M.length ∧ Hid (Ga w1 wr (stP n t) M k ov)) (fun _ kv _ => M.length - (intOf kv).toNat)
 case atStart => exact ⟨0, rfl, Nat.zero_le _, ⟨World.ownsRow_nil _ _ _ _, Below.refl _ _⟩⟩
 case round =>
  obtain ⟨k, rfl, hk, HG⟩ := hrel
  by_cases hlt : k < M.length
  ·obtain ⟨g, off, hp⟩ := rs_at HY1.out.rs hlt
   subst hp
   obtain ⟨y0, y1, y2, y3, y4⟩ := rs_cells HY1.out.rs rfl hlt HG.out.bl
   have hsm := ok_small (HY1.out.ok _ (rAt_mem hlt))
   have HE := hide' (fun V => equalName_any (rAt M k).o n V hsm.1 hn)
   have HC := hide' (fun V => rcounts_any (rAt M k) V hsm.2)
   have K0 := hide' (Bk.start wr (rAt M k))
   have HX := hide' (rAt_get hlt)
   obtain ⟨x, hx⟩ : ∃ x, rAt M k = x := ⟨_, rfl⟩
   rw [hx] at y0 y1 y2 y3 y4 HE HC K0 HX
   obtain ⟨wa, hwa⟩ : ∃ wa, wr.alloc (.cells #[.string x.o, .int .i64 x.t, .int .i64 x.c, .int .i64 x.l, .string x.d] 54) = wa := ⟨_, rfl⟩
   rw [hwa] at K0
   have HK : Hid (∀ V, Below wa.heap.size wa V → Bk wr V x) := fun V hV => K0.out.step hV
   obtain ⟨v0, v1, v2, v3, v4⟩ := K0.out.cells
   have HAP : Hid (∀ V, Below wr.heap.size wr V → _) := fun V hV => HG.out.app V hV x
   have HLn : Hid (((M.take k).filter (stP n t)).length ≤ 2000) := Nat.le_trans HG.out.len hM
   clear hx hsm
   obtain ⟨xo, xt, xc, xl, xd⟩ := x
   unfold rcV at HC
   simp only at y0 y1 y2 y3 y4 v0 v1 v2 v3 v4 hwa HE HC HAP
   obtain ⟨E, hE⟩ : ∃ E, eqB xo n = E := ⟨_, rfl⟩
   obtain ⟨Cn, hCn⟩ : ∃ Cn, countB ⟨xo, xt, xc, xl, xd⟩ = Cn := ⟨_, rfl⟩
   have HPE : Hid (stP n t ⟨xo, xt, xc, xl, xd⟩ = (E && (decide (xt = t) || (decide (t = 255) && Cn)))) := by unfold Hid stP; rw [← hE, ← hCn]
   rw [hE] at HE
   rw [hCn] at HC
   clear hE hCn
   have pk : (k : Int) < (M.length : Int) := by omega
   have hB := Below.refl wa.heap.size wa
   cases E with
   | false =>
    have HP : Hid (stP n t ⟨xo, xt, xc, xl, xd⟩ = false) := by unfold Hid; rw [HPE.out]; rfl
    go_wp2_with (first
     | (go_at_call 60; refine (HE.out _).mono ?_; rintro e w5 ⟨rfl, hB5⟩; have hB := bstep hB hB5 hB.size; obtain ⟨v0, v1, v2, v3, v4⟩ := (HK.out _ hB).cells; clear hB5))
    exact ⟨⟨k + 1, by go_num, by omega, hide' (HG.out.skip hlt (by rw [HX.out]; exact HP.out) (HK.out _ hB).bl)⟩, by simp [intOf]; omega⟩
   | true =>
    by_cases ht : xt = t
    ·have htb : (xt == t) = true := by simp [ht]
     have HT := hide' ht
     clear ht
     have HP : Hid (stP n t ⟨xo, xt, xc, xl, xd⟩ = true) := by unfold Hid; rw [HPE.out]; simp [HT.out]
     go_wp2_with (first
      | (go_at_call 60; refine (HE.out _).mono ?_; rintro e w5 ⟨rfl, hB5⟩; have hB := bstep hB hB5 hB.size; obtain ⟨v0, v1, v2, v3, v4⟩ := (HK.out _ hB).cells; clear hB5)
      | (at_builtin; refine wpList_append_recsM rfl _ _ rfl w1.heap.size _ _ _ rfl (HAP.out _ (HK.out _ hB).bl).1 (some ⟨_, 0, none⟩) [⟨xo, xt, xc, xl, xd⟩] 1 rfl (HAP.out _ (HK.out _ hB).bl).2.1 (by simp) (by have := HLn.out; simp; omega) (HAP.out _ (HK.out _ hB).bl).2.2.1 ?_; intro v9 w9 ho9 hg9; have HO9 := hide' ho9; have HB9 := hide' ((HAP.out _ (HK.out _ hB).bl).2.2.2.grown hg9 (HAP.out _ (HK.out _ hB).bl).2.2.1 (fun j e => own_ge (HAP.out _ (HK.out _ hB).bl).1 e)); clear ho9 hg9))
     exact ⟨⟨k + 1, by go_num, by omega, hide' (HG.out.take hlt HX.out HP.out HO9.out HB9.out)⟩, by simp [intOf]; omega⟩
    ·have htb : (xt == t) = false := by simp [ht]
     by_cases h255 : t = 255
     ·have h255b : (t == 255) = true := by simp [h255]
      have H255 := hide' h255
      have HT := hide' ht
      clear h255 ht
      cases Cn with
      | true =>
       have HP : Hid (stP n t ⟨xo, xt, xc, xl, xd⟩ = true) := by unfold Hid; rw [HPE.out]; simp [H255.out]
       go_wp2_with (first
        | (go_at_call 60; refine (HE.out _).mono ?_; rintro e w5 ⟨rfl, hB5⟩; have hB := bstep hB hB5 hB.size; obtain ⟨v0, v1, v2, v3, v4⟩ := (HK.out _ hB).cells; clear hB5)
        | (go_at_call 26; refine (HC.out _).mono ?_; rintro e w6 ⟨rfl, hB5⟩; have hB := bstep hB hB5 hB.size; obtain ⟨v0, v1, v2, v3, v4⟩ := (HK.out _ hB).cells; clear hB5)
        | (at_builtin; refine wpList_append_recsM rfl _ _ rfl w1.heap.size _ _ _ rfl (HAP.out _ (HK.out _ hB).bl).1 (some ⟨_, 0, none⟩) [⟨xo, xt, xc, xl, xd⟩] 1 rfl (HAP.out _ (HK.out _ hB).bl).2.1 (by simp) (by have := HLn.out; simp; omega) (HAP.out _ (HK.out _ hB).bl).2.2.1 ?_; intro v9 w9 ho9 hg9; have HO9 := hide' ho9; have HB9 := hide' ((HAP.out _ (HK.out _ hB).bl).2.2.2.grown hg9 (HAP.out _ (HK.out _ hB).bl).2.2.1 (fun j e => own_ge (HAP.out _ (HK.out _ hB).bl).1 e)); clear ho9 hg9))
       exact ⟨⟨k + 1, by go_num, by omega, hide' (HG.out.take hlt HX.out HP.out HO9.out HB9.out)⟩, by simp [intOf]; omega⟩
      | false =>
       have HP : Hid (stP n t ⟨xo, xt, xc, xl, xd⟩ = false) := by unfold Hid; rw [HPE.out]; simp [HT.out]
       go_wp2_with (first
        | (go_at_call 60; refine (HE.out _).mono ?_; rintro e w5 ⟨rfl, hB5⟩; have hB := bstep hB hB5 hB.size; obtain ⟨v0, v1, v2, v3, v4⟩ := (HK.out _ hB).cells; clear hB5)
        | (go_at_call 26; refine (HC.out _).mono ?_; rintro e w6 ⟨rfl, hB5⟩; have hB := bstep hB hB5 hB.size; obtain ⟨v0, v1, v2, v3, v4⟩ := (HK.out _ hB).cells; clear hB5))
       exact ⟨⟨k + 1, by go_num, by omega, hide' (HG.out.skip hlt (by rw [HX.out]; exact HP.out) (HK.out _ hB).bl)⟩, by simp [intOf]; omega⟩
     ·have h255b : (t == 255) = false := by simp [h255]
      have HP : Hid (stP n t ⟨xo, xt, xc, xl, xd⟩ = false) := by unfold Hid; rw [HPE.out]; simp [ht, h255]
      go_wp2_with (first
       | (go_at_call 60; refine (HE.out _).mono ?_; rintro e w5 ⟨rfl, hB5⟩; have hB := bstep hB hB5 hB.size; obtain ⟨v0, v1, v2, v3, v4⟩ := (HK.out _ hB).cells; clear hB5))
      exact ⟨⟨k + 1, by go_num, by omega, hide' (HG.out.skip hlt (by rw [HX.out]; exact HP.out) (HK.out _ hB).bl)⟩, by simp [intOf]; omega⟩
  ·obtain rfl : k = M.length := by omega
   have hoX := HG.out.own
   rw [List.take_length] at hoX
   cases he : (M.filter (stP n t)).isEmpty with
   | true =>
    have HV : Hid (rstand M n t = (5, [])) := by unfold Hid; rw [HRs.out, he]; rfl
    rw [empty_len he] at hoX
    rw [List.length_nil] at hoX
    obtain ⟨q5, c5, hv5, _, _, _⟩ := own_shape hoX
    subst hv5
    clear hoX he
    go_wp2_with fail
    go_ret2
    exact rst_end HV.out rfl (World.ownsRow_nil _ _ _ _) (bstep HB1.out HG.out.bl HB1.out.size)
   | false =>
    have HV : Hid (rstand M n t = (1, M.filter (stP n t))) := by unfold Hid; rw [HRs.out, he]; rfl
    have hl := nonempty_len he
    obtain ⟨q5, c5, hv5, _, _, _⟩ := own_shape hoX
    subst hv5
    have HOX := hide' hoX
    have hln : ¬ ((M.filter (stP n t)).length : Int) = 0 := by omega
    have hlb : (((M.filter (stP n t)).length : Int) == 0) = false := by rw [beq_eq_false_iff_ne]; omega
    have HBz := hide' (bstep HB1.out HG.out.bl HB1.out.size)
    clear hoX he hl
    go_wp2_with fail
    go_ret2
    exact rst_end HV.out rfl (own_baseZ HOX.out HB1.out.size) HBz.out
theorem rstands_all {zb : Nat} {apex : ByteArray} {M : List Rn} {p : Option Addr} {c : Nat} {w : World} (h : Yz w zb apex M p c) (n : ByteArray) (t : Int) (hn : n.size ≤ 1048576) :
  Calls Tryz.prog 56 #[.pointer (some ⟨zb, 0, none⟩), .string n, .int .i64 t] w (RstE M n t w) := by
 cases hal : (rset M n 5).isEmpty with
 | true => exact rstands_none h n t hn hal
 | false =>
  by_cases h5 : t = 5
  ·exact rstands_five h n t hn hal h5
  ·by_cases h6 : t = 255
   ·exact rstands_any h n t hn hal h6
   ·exact rstands_alias h n t hn ⟨hal, h5, h6⟩
end Go.Proofs.YthabenjghhmicaaGreat
