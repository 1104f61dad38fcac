import Derived.Test.YtjnmbgmdkkiidaaGreatFt2G
import Derived.Test.YtjnmbgmdkkiidaaGreatPp9
import Derived.Test.YtjnmbgmdkkiidaaGreatPpaG
import Derived.Test.YtjnmbgmdkkiidaaGreatPp4G
/-
  The reference's Without. (The verifier's own text.)
-/
namespace Go.Proofs.YtjnmbgmdkkiidaaGreat
set_option linter.unusedVariables false
open Go.RowKit Go.Shelf Go.Maps Go.Proofs.YtjnmbgmdkkiidaaGreat.Nm

/-- Without, from a place down -/
def woR (D : List Rn) : Nat → Nat → List Rn → List Rn × Nat
  | 0, n, out => (out, n)
  | k + 1, n, out => match D[k]? with
    | none => (out, n)
    | some x => if 0 < n ∧ plR x = true then woR D k (n - 1) out else woR D k n (x :: out)
theorem woR_zero (D : List Rn) : ∀ (k : Nat) (out : List Rn), k ≤ D.length → woR D k 0 out = (D.take k ++ out, 0)
  | 0, out, _ => by simp [woR]
  | k + 1, out, h => by
    have hk : k < D.length := h
    unfold woR
    rw [List.getElem?_eq_getElem hk]
    simp only [Nat.lt_irrefl, false_and, if_false]
    rw [woR_zero D k _ (by omega), List.take_succ_eq_append_getElem hk, List.append_assoc]
    rfl
theorem woR_some (D : List Rn) (f : Nat) : ∀ (k : Nat) (out : List Rn), f ≤ k → k ≤ D.length → woR D k (cp ((D.take k).drop f)) out = (D.take f ++ kp ((D.take k).drop f) ++ out, 0) := by
  intro k
  induction k with
  | zero =>
    intro out hf hk
    obtain rfl : f = 0 := by omega
    simp [woR, cp, kp]
  | succ k ih =>
    intro out hf hk
    have hlt : k < D.length := hk
    by_cases hfk : f = k + 1
    · subst hfk
      have e : (D.take (k + 1)).drop (k + 1) = [] := List.drop_of_length_le (by rw [List.length_take]; omega)
      rw [e]
      rw [show cp [] = 0 from rfl, woR_zero D (k + 1) out hk]
      simp [kp]
    · have hfk : f ≤ k := by omega
      have e : (D.take (k + 1)).drop f = (D.take k).drop f ++ [D[k]] := by
        rw [List.take_succ_eq_append_getElem hlt, List.drop_append_of_le_length (by rw [List.length_take]; omega)]
      rw [e, cp_app, kp_app]
      unfold woR
      rw [List.getElem?_eq_getElem hlt]
      cases hp : plR D[k] with
      | true =>
        have c1 : cp [D[k]] = 1 := by simp [cp, hp]
        have k1 : kp [D[k]] = [] := by simp [kp, hp]
        rw [c1, k1]
        simp only [Nat.succ_pos, hp, and_self, if_true, List.append_nil, Nat.add_sub_cancel]
        exact ih out hfk (by omega)
      | false =>
        have c1 : cp [D[k]] = 0 := by simp [cp, hp]
        have k1 : kp [D[k]] = [D[k]] := by simp [kp, hp]
        rw [c1, k1]
        simp only [hp, Bool.false_eq_true, and_false, if_false, Nat.add_zero]
        rw [ih _ hfk (by omega)]
        simp
theorem woR_many (D : List Rn) : ∀ (k n : Nat) (out : List Rn), k ≤ D.length → cp (D.take k) < n → (woR D k n out).2 ≠ 0
  | 0, n, out, _, h => by simp [woR]; omega
  | k + 1, n, out, hk, h => by
    have hlt : k < D.length := hk
    rw [List.take_succ_eq_append_getElem hlt, cp_app] at h
    unfold woR
    rw [List.getElem?_eq_getElem hlt]
    cases hp : plR D[k] with
    | true =>
      have c1 : cp [D[k]] = 1 := by simp [cp, hp]
      simp only [hp, and_true, if_pos (show 0 < n by omega)]
      exact woR_many D k (n - 1) out (by omega) (by omega)
    | false =>
      simp only [hp, Bool.false_eq_true, and_false, if_false]
      exact woR_many D k n _ (by omega) (by omega)
theorem woR_drop (D : List Rn) (f : Nat) (hf : f ≤ D.length) : woR D D.length (cp (D.drop f)) [] = (dropF D f, 0) := by
  have := woR_some D f D.length [] hf (Nat.le_refl _)
  rw [List.take_length, List.append_nil] at this
  exact this

theorem rsAt_ownW {w : World} {b n c : Nat} {p : Option Addr} {L : List Rn} (h : w.ownsRow b 59 5 (.slice p n c) n (rce5 L)) (hn : n = L.length) : RsAt w p L := fun k hk => by
  obtain ⟨g, off, h1, h2, _, rest⟩ := rsS_own (S := fun _ => False) h hn (fun _ e => e.elim) k hk
  exact ⟨g, off, h1, h2, rest⟩
theorem one_row (wr : World) (b : Nat) (hb : b ≤ wr.heap.size) (xo xd : ByteArray) (xt xc xl : Int) : (wr.alloc (.cells #[.string xo, .int .i64 xt, .int .i64 xc, .int .i64 xl, .string xd] 59)).ownsRow b 59 5 (.slice (some ⟨wr.heap.size, 0, none⟩) 1 1) 1 (rce5 [⟨xo, xt, xc, xl, xd⟩]) :=
  ⟨rfl, .inr ⟨wr.heap.size, 1, #[.string xo, .int .i64 xt, .int .i64 xc, .int .i64 xl, .string xd], rfl, hb, World.alloc_heap_new wr _, Nat.le_refl _, by decide, rfl, rfl⟩⟩

/-- how Without ends -/
def WoE (r : List Rn × Nat) (w : World) (e : Ending) (w' : World) : Prop := ∃ q c, e = .returned (.tuple #[.slice q r.1.length c, .bool (decide (r.2 = 0))]) ∧ w'.ownsRow w.heap.size 59 5 (.slice q r.1.length c) r.1.length (rce5 r.1) ∧ Below w.heap.size w w'
set_option maxRecDepth 100000 in
set_option maxHeartbeats 4000000 in
/-- gazetteerref2.Without -/
theorem without_any (D : List Rn) (p : Option Addr) (cap n : Nat) (w : World) (hD : D.length ≤ 65535) (hn : n ≤ 65536) (hat : RsAt w p D) :
    Calls Tryz.prog 36 #[.slice p D.length cap, .int .i64 (n : Int)] w (WoE (woR D D.length n []) w) := by
  have HA := hide' hat
  clear hat
  obtain ⟨r, hr⟩ : ∃ r, woR D D.length n [] = r := ⟨_, rfl⟩
  rw [hr]
  have HR := hide' hr
  clear hr
  go_enter Tryz.func36, Tryz.ntmps36
  go_wp2_with fail
  go_loopw [1, 6, 7] (fun vn vo vk wr => ∃ (k m N : Nat) (L : List Rn) (q : Option Addr) (c : Nat), vn = .int .i64 (m : Int) ∧ vo = .slice q N c ∧ vk = .int .i64 ((k : Int) - 1) ∧ k ≤ D.length ∧ m ≤ 65536 ∧ N + k ≤ D.length ∧ Hid (N = L.length) ∧ Hid (woR D k m L = r) ∧ Hid (wr.ownsRow w.heap.size 59 5 (.slice q N c) N (rce5 L)) ∧ Hid (Below w.heap.size w wr)) (fun _ _ vk _ => (intOf vk + 1).toNat)
  case atStart => exact ⟨D.length, n, 0, [], none, 0, rfl, rfl, by first | rfl | go_num, Nat.le_refl _, hn, by omega, rfl, HR, World.ownsRow_nil _ _ _ _, Below.refl _ _⟩
  case round =>
    obtain ⟨k, m, N, L, q, c, rfl, rfl, rfl, hk, hm, hN, HNL, HW, HO, HB⟩ := hrel
    cases k with
    | zero =>
      rw [show (((0 : Nat) : Int) - 1) = -1 by omega]
      have HE : Hid ((L, m) = r) := HW.out
      go_wp2_with fail
      go_ret2
      have hL : r.1 = L := by rw [← HE.out]
      have hm2 : r.2 = m := by rw [← HE.out]
      refine ⟨q, c, ?_, ?_, HB.out⟩
      · rw [hL, hm2, ← HNL.out]
        have hd : ((m : Int) == 0) = decide (m = 0) := by
          by_cases h0 : m = 0
          · subst h0; rfl
          · rw [decide_eq_false h0]
            exact beq_eq_false_iff_ne.2 (by omega)
        rw [← hd]
        first | rfl | simp
      · rw [hL, ← HNL.out]; exact HO.out
    | succ k =>
      rw [show (((k + 1 : Nat) : Int) - 1) = (k : Int) by omega]
      have hlt : k < D.length := by omega
      have hk0 : (0 : Int) ≤ (k : Int) := by omega
      obtain ⟨g, off, rfl, hg, e0, e1, e2, e3, e4⟩ := (rsAt_bel HA.out HB.out) k hlt
      obtain ⟨x, hx⟩ : ∃ x, D[k] = x := ⟨_, rfl⟩
      have HX : Hid (D[k]? = some x) := by unfold Hid; rw [List.getElem?_eq_getElem hlt, hx]
      rw [hx] at e0 e1 e2 e3 e4
      clear hx
      obtain ⟨xo, xt, xc, xl, xd⟩ := x
      simp only at e0 e1 e2 e3 e4
      have hW := HW.out
      unfold woR at hW
      rw [HX.out] at hW
      simp only at hW
      by_cases hc : 0 < m ∧ plR ⟨xo, xt, xc, xl, xd⟩ = true
      · rw [if_pos hc] at hW
        have HW2 := hide' hW
        have hp : (xt != 41) = true := hc.2
        have hp2 : xt ≠ 41 := by simpa using hp
        have hm0 : 0 < m := hc.1
        obtain ⟨m', rfl⟩ : ∃ m', m = m' + 1 := ⟨m - 1, by omega⟩
        have HM1 : Hid (((m' + 1 : Nat) : Int) - 1 = (m' : Int)) := by unfold Hid; omega
        have hmi : decide ((0 : Int) < ((m' + 1 : Nat) : Int)) = true := decide_eq_true (by omega)
        clear hW hc HW
        go_wp2_with fail
        refine ⟨⟨k, m', N, L, q, c, by first | rfl | go_num, rfl, by first | rfl | go_num, by omega, by omega, by omega, HNL, HW2, HO, HB⟩, ?_⟩
        simp [intOf]
      · rw [if_neg hc] at hW
        have HW2 := hide' hW
        obtain ⟨wl, hwl⟩ : ∃ wl, wr.alloc (.cells #[.string xo, .int .i64 xt, .int .i64 xc, .int .i64 xl, .string xd] 59) = wl := ⟨_, rfl⟩
        have HO1 : Hid (wl.ownsRow w.heap.size 59 5 (.slice (some ⟨wr.heap.size, 0, none⟩) 1 1) 1 (rce5 [⟨xo, xt, xc, xl, xd⟩])) := hwl ▸ one_row wr _ HB.out.size xo xd xt xc xl
        have HBl : Hid (Below w.heap.size w wl) := hwl ▸ HB.out.alloc HB.out.size _
        have hgl : Below wr.heap.size wr wl := hwl ▸ (Below.refl _ wr).alloc (Nat.le_refl _) _
        have HRl : Hid (RsAt wl q L) := rsAt_ownW (own_below HO.out hgl) HNL.out
        have HNO : Hid (q = none → c = 0) := by obtain ⟨_, _, e, _, _, h⟩ := own_shape HO.out; injection e with e1 _ e3; subst e1; subst e3; exact h
        have hszl : wr.heap.size < wl.heap.size := by rw [← hwl]; simp
        clear hW HW hgl
        by_cases hm0 : 0 < m
        · have hp : (xt != 41) = false := by
            cases h : (xt != 41) with
            | false => rfl
            | true => exact absurd ⟨hm0, h⟩ hc
          have hp2 : xt = 41 := by simpa using hp
          subst hp2
          have hmi : decide ((0 : Int) < (m : Int)) = true := decide_eq_true (by omega)
          clear hc hp
          go_wp2_with (at_builtin; refine wpList_append_recs rfl _ _ rfl w.heap.size (.slice (some ⟨wr.heap.size, 0, none⟩) 1 1) 1 (rce5 [⟨xo, 41, xc, xl, xd⟩]) rfl HO1.out q L c (by rw [← HNL.out]; rfl) HRl.out HNO.out (by rw [← HNL.out]; omega) HBl.out.size ?_; intro v2 w2 ho2 hg2; rw [← HNL.out] at ho2; obtain ⟨q2, c2, rfl, _⟩ := own_shape ho2; have HN2 : Hid (1 + N = ((⟨xo, 41, xc, xl, xd⟩ : Rn) :: L).length) := (by unfold Hid; rw [HNL.out, List.length_cons, Nat.add_comm]); have HO2 : Hid (w2.ownsRow w.heap.size 59 5 (.slice q2 (1 + N) c2) (1 + N) (rce5 (⟨xo, 41, xc, xl, xd⟩ :: L))) := ho2; have HB2 := hide' (HBl.out.grown hg2 HBl.out.size (fun z e => by simp [Value.ownBlock] at e; subst e; exact HB.out.size)); clear ho2 hg2)
          refine ⟨⟨k, m, 1 + N, ⟨xo, 41, xc, xl, xd⟩ :: L, q2, c2, by first | rfl | go_num, rfl, by first | rfl | go_num, by omega, by omega, by omega, HN2, HW2, HO2, HB2⟩, ?_⟩
          simp [intOf]
        · obtain rfl : m = 0 := by omega
          clear hc
          go_wp2_with (at_builtin; refine wpList_append_recs rfl _ _ rfl w.heap.size (.slice (some ⟨wr.heap.size, 0, none⟩) 1 1) 1 (rce5 [⟨xo, xt, xc, xl, xd⟩]) rfl HO1.out q L c (by rw [← HNL.out]; rfl) HRl.out HNO.out (by rw [← HNL.out]; omega) HBl.out.size ?_; intro v2 w2 ho2 hg2; rw [← HNL.out] at ho2; obtain ⟨q2, c2, rfl, _⟩ := own_shape ho2; have HN2 : Hid (1 + N = ((⟨xo, xt, xc, xl, xd⟩ : Rn) :: L).length) := (by unfold Hid; rw [HNL.out, List.length_cons, Nat.add_comm]); have HO2 : Hid (w2.ownsRow w.heap.size 59 5 (.slice q2 (1 + N) c2) (1 + N) (rce5 (⟨xo, xt, xc, xl, xd⟩ :: L))) := ho2; have HB2 := hide' (HBl.out.grown hg2 HBl.out.size (fun z e => by simp [Value.ownBlock] at e; subst e; exact HB.out.size)); clear ho2 hg2)
          refine ⟨⟨k, 0, 1 + N, ⟨xo, xt, xc, xl, xd⟩ :: L, q2, c2, by first | rfl | go_num, rfl, by first | rfl | go_num, by omega, by omega, by omega, HN2, HW2, HO2, HB2⟩, ?_⟩
          simp [intOf]
end Go.Proofs.YtjnmbgmdkkiidaaGreat

/-
  The reference's FitMessage: some of the additional records are left out. (The verifier's own text.)
-/
namespace Go.Proofs.YtjnmbgmdkkiidaaGreat
set_option linter.unusedVariables false
open Go.RowKit Go.Shelf Go.Maps Go.Proofs.YtjnmbgmdkkiidaaGreat.Nm

theorem msgOK_less2 {i0 i2 i9 : Int} {Q : List Qn} {A U D D2 : List Rn} (h : msgOK i0 i2 i9 Q A U D = true) (hs : ∀ r ∈ D2, r ∈ D) (hl : D2.length ≤ D.length) : msgOK i0 i2 i9 Q A U D2 = true := by
  unfold msgOK lstOK at h ⊢
  simp only [Bool.and_eq_true, decide_eq_true_eq, List.all_eq_true] at h ⊢
  exact ⟨⟨h.1.1, by omega⟩, h.2.1, h.2.2.1, fun r hr => h.2.2.2 r (hs r hr)⟩
theorem bx14_free2 {w : World} {R : Nat} {T : TypeId} {cs : Array Value} (h : Bx w R cs T) : w.frozen? ⟨R, 0, none⟩ = false ∧ w.frozen? ⟨R, 1, none⟩ = false ∧ w.frozen? ⟨R, 2, none⟩ = false ∧ w.frozen? ⟨R, 3, none⟩ = false ∧ w.frozen? ⟨R, 4, none⟩ = false ∧ w.frozen? ⟨R, 5, none⟩ = false ∧ w.frozen? ⟨R, 6, none⟩ = false ∧ w.frozen? ⟨R, 7, none⟩ = false ∧ w.frozen? ⟨R, 8, none⟩ = false ∧ w.frozen? ⟨R, 9, none⟩ = false ∧ w.frozen? ⟨R, 10, none⟩ = false ∧ w.frozen? ⟨R, 11, none⟩ = false ∧ w.frozen? ⟨R, 12, none⟩ = false ∧ w.frozen? ⟨R, 13, none⟩ = false :=
  ⟨h.free 0, h.free 1, h.free 2, h.free 3, h.free 4, h.free 5, h.free 6, h.free 7, h.free 8, h.free 9, h.free 10, h.free 11, h.free 12, h.free 13⟩
theorem grown14b (w : World) (R : Nat) (v0 v1 v2 v3 v4 v5 v6 v7 v8 v9 v10 v11 v12 v13 : Value) : w.grownBy (set14 w R v0 v1 v2 v3 v4 v5 v6 v7 v8 v9 v10 v11 v12 v13) (some R) :=
  grown_trans (grown_trans (grown_trans (grown_trans (grown_trans (grown_trans (grown_trans (grown_trans (grown_trans (grown_trans (grown_trans (grown_trans (grown_trans (grown_set _ R 0 v0) (grown_set _ R 1 v1)) (grown_set _ R 2 v2)) (grown_set _ R 3 v3)) (grown_set _ R 4 v4)) (grown_set _ R 5 v5)) (grown_set _ R 6 v6)) (grown_set _ R 7 v7)) (grown_set _ R 8 v8)) (grown_set _ R 9 v9)) (grown_set _ R 10 v10)) (grown_set _ R 11 v11)) (grown_set _ R 12 v12)) (grown_set _ R 13 v13)
/-- .. of a list that is left out of -/
theorem wo_call {D D' : List Rn} {p : Option Addr} {cap k N : Nat} (hD : D.length ≤ 65535) (hk : k ≤ 65536) (hwo : woR D D.length k [] = (D', 0)) (hN : N = D'.length) (W : World) (h : RsAt W p D) :
    Calls Tryz.prog 36 #[.slice p D.length cap, .int .i64 (k : Int)] W fun e w' => ∃ q c, e = .returned (.tuple #[.slice q N c, .bool true]) ∧ w'.ownsRow W.heap.size 59 5 (.slice q N c) N (rce5 D') ∧ Below W.heap.size W w' := by
  subst hN
  refine (without_any D p cap k W hD hk h).mono ?_
  rintro e w' ⟨q, c, he, ho, hB⟩
  rw [hwo] at he ho
  exact ⟨q, c, he, ho, hB⟩
/-- how FitMessage ends where something has room -/
def FmE (i0 i2 i9 : Nat) (b1 b3 b4 b5 b6 b7 b8 : Bool) (q0 a0 u0 : Option Addr) (qc ac uc : Nat) (Q : List Qn) (A U D' : List Rn) (w : World) (e : Ending) (w' : World) : Prop :=
  ∃ q c, e = .returned (.tuple #[.agg #[.int .i64 (i0 : Int), .bool b1, .int .i64 (i2 : Int), .bool b3, .bool b4, .bool b5, .bool b6, .bool b7, .bool b8, .int .i64 (i9 : Int), .slice q0 Q.length qc, .slice a0 A.length ac, .slice u0 U.length uc, .slice q D'.length c], .int .i64 0]) ∧ w'.ownsRow w.heap.size 59 5 (.slice q D'.length c) D'.length (rce5 D') ∧ Below w.heap.size w w'

theorem lsx {w : World} {q0 a0 u0 d0 q : Option Addr} {Q : List Qn} {A U D D' : List Rn} {b N c : Nat} (h : LsAt w q0 a0 u0 d0 Q A U D) (ho : w.ownsRow b 59 5 (.slice q N c) N (rce5 D')) (hN : N = D'.length) (hmem : ∀ r ∈ D', r ∈ D) : LsAt w q0 a0 u0 q Q A U D' :=
  ⟨h.q, h.a, h.u, rsAt_ownW ho hN, h.zqs, h.zas, h.zus, fun r hr => h.zds r (hmem r hr)⟩
theorem own_lowW {w : World} {n n2 e size k : Nat} {v : Value} {xs : List Value} (h : w.ownsRow n2 e size v k xs) (hn : n ≤ n2) : w.ownsRow n e size v k xs := by
  obtain ⟨hl, (h0 | ⟨g, cap, cur, rfl, hg, rest⟩)⟩ := h
  · exact ⟨hl, .inl h0⟩
  · exact ⟨hl, .inr ⟨g, cap, cur, rfl, Nat.le_trans hn hg, rest⟩⟩
theorem own_keepF {w w' : World} {base e size n : Nat} {v : Value} {xs : List Value} {g : Nat} (h : w.ownsRow base e size v n xs) (hg : w.grownBy w' (some g)) (hne : g < base) : w'.ownsRow base e size v n xs :=
  own_blk h (fun q eq => hg.block q (h.lt q eq).2 (fun e => by have := (h.lt q eq).1; injection e with e; omega))
theorem cp_le (D : List Rn) : cp D ≤ D.length := List.length_filter_le _ _
set_option maxRecDepth 100000 in
set_option maxHeartbeats 16000000 in
theorem fitm_yes (i0 i2 i9 : Nat) (b1 b3 b4 b5 b6 b7 b8 : Bool) (q0 a0 u0 d0 : Option Addr) (qc ac uc dc : Nat) (Q : List Qn) (A U D : List Rn) (limit : Int) (w : World) (hl : LsAt w q0 a0 u0 d0 Q A U D) (hz : ZOk Q A U D) (hn : (a0 = none → ac = 0) ∧ (u0 = none → uc = 0) ∧ (d0 = none → dc = 0)) (hm : msgOK i0 i2 i9 Q A U D = true) (most : Int) (hmo : min limit 65535 = most) (f : Nat) (hf : f ≤ D.length) (hyes : okD most i0 i2 i9 b1 b3 b4 b5 b6 b7 b8 Q A U (dropF D f)) (hnx : ∀ j, j ≤ D.length → cp (D.drop j) < cp (D.drop f) → ¬ okD most i0 i2 i9 b1 b3 b4 b5 b6 b7 b8 Q A U (dropF D j)) :
    Calls Tryz.prog 13 #[.agg #[.int .i64 (i0 : Int), .bool b1, .int .i64 (i2 : Int), .bool b3, .bool b4, .bool b5, .bool b6, .bool b7, .bool b8, .int .i64 (i9 : Int), .slice q0 Q.length qc, .slice a0 A.length ac, .slice u0 U.length uc, .slice d0 D.length dc], .int .i64 limit] w (FmE i0 i2 i9 b1 b3 b4 b5 b6 b7 b8 q0 a0 u0 qc ac uc Q A U (dropF D f) w) := by
  obtain ⟨_, _, _, lq, la, lu, ld, _⟩ := msgOK_parts hm
  have hln : Q.length ≤ maxLen ∧ A.length ≤ maxLen ∧ U.length ≤ maxLen ∧ D.length ≤ maxLen := by unfold maxLen; omega
  obtain ⟨wz, hwz⟩ : ∃ wr, (w.alloc (.cells #[.int .i64 (i0 : Int), .bool b1, .int .i64 (i2 : Int), .bool b3, .bool b4, .bool b5, .bool b6, .bool b7, .bool b8, .int .i64 (i9 : Int), .slice q0 Q.length qc, .slice a0 A.length ac, .slice u0 U.length uc, .slice d0 D.length dc] 25)).alloc (.cells #[.int .i64 0, .bool false, .int .i64 0, .bool false, .bool false, .bool false, .bool false, .bool false, .bool false, .int .i64 0, .slice none 0 0, .slice none 0 0, .slice none 0 0, .slice none 0 0] 25) = wr := ⟨_, rfl⟩
  have HX : Hid (Bx wz w.heap.size #[.int .i64 (i0 : Int), .bool b1, .int .i64 (i2 : Int), .bool b3, .bool b4, .bool b5, .bool b6, .bool b7, .bool b8, .int .i64 (i9 : Int), .slice q0 Q.length qc, .slice a0 A.length ac, .slice u0 U.length uc, .slice d0 D.length dc] 25) := hwz ▸ Bx.grown (World.alloc_heap_new w _) (World.grownBy_alloc _ _ none) (by simp)
  have HR : Hid (Bx wz (w.heap.size + 1) #[.int .i64 0, .bool false, .int .i64 0, .bool false, .bool false, .bool false, .bool false, .bool false, .bool false, .int .i64 0, .slice none 0 0, .slice none 0 0, .slice none 0 0, .slice none 0 0] 25) := by
    have := World.alloc_heap_new (w.alloc (.cells #[.int .i64 (i0 : Int), .bool b1, .int .i64 (i2 : Int), .bool b3, .bool b4, .bool b5, .bool b6, .bool b7, .bool b8, .int .i64 (i9 : Int), .slice q0 Q.length qc, .slice a0 A.length ac, .slice u0 U.length uc, .slice d0 D.length dc] 25)) (.cells #[.int .i64 0, .bool false, .int .i64 0, .bool false, .bool false, .bool false, .bool false, .bool false, .bool false, .int .i64 0, .slice none 0 0, .slice none 0 0, .slice none 0 0, .slice none 0 0] 25)
    rw [World.size_alloc] at this
    rw [← hwz]
    exact this
  have HB : Hid (Below w.heap.size w wz) := by rw [← hwz]; exact ((Below.refl _ w).alloc (Nat.le_refl _) _).alloc (by simp) _
  have HC := hide' (refCheck_any (i0 : Int) (i2 : Int) (i9 : Int) b1 b3 b4 b5 b6 b7 b8 q0 a0 u0 d0 qc ac uc dc Q A U D wz (hl.below HB.out) hz hln)
  rw [hm] at HC
  obtain ⟨y0, y1, y2, y3, y4, y5, y6, y7, y8, y9, y10, y11, y12, y13⟩ := bx14 HX.out
  have HL := hide' hl
  have HZ := hide' hz
  have HN := hide' hn
  have HHM := hide' hm
  have HLN := hide' hln
  have HLD := hide' ld
  clear hl hz hn hm hln ld lq la lu
  go_enter Tryz.func13, Tryz.ntmps13
  go_wp2_with (go_at_call 11; refine HC.out.mono ?_; rintro e w1 ⟨rfl, hB⟩; have HB1 := hide' (bstep HB.out hB HB.out.size); have HX1 : Hid (Bx w1 w.heap.size #[.int .i64 (i0 : Int), .bool b1, .int .i64 (i2 : Int), .bool b3, .bool b4, .bool b5, .bool b6, .bool b7, .bool b8, .int .i64 (i9 : Int), .slice q0 Q.length qc, .slice a0 A.length ac, .slice u0 U.length uc, .slice d0 D.length dc] 25) := HX.out.below hB HX.out.lt; have HR1 : Hid (Bx w1 (w.heap.size + 1) #[.int .i64 0, .bool false, .int .i64 0, .bool false, .bool false, .bool false, .bool false, .bool false, .bool false, .int .i64 0, .slice none 0 0, .slice none 0 0, .slice none 0 0, .slice none 0 0] 25) := HR.out.below hB HR.out.lt; clear hB; unfold chkV; rw [if_pos rfl])
  clear y0 y1 y2 y3 y4 y5 y6 y7 y8 y9 y10 y11 y12 y13 HC HX HR HB hwz
  have HYES := hide' hyes
  have HNX := hide' hnx
  have hmo65 : most ≤ 65535 := by omega
  have hcf : cp (D.drop f) ≤ cp D := by have := cp_anti D 0 f (Nat.zero_le _); simpa using this
  clear hyes hnx
  go_loopw [6] (fun iv wr => ∃ k : Nat, iv = .int .i64 (k : Int) ∧ k ≤ cp (D.drop f) ∧ Hid (Below w.heap.size w wr) ∧ Hid (Bx wr w.heap.size #[.int .i64 (i0 : Int), .bool b1, .int .i64 (i2 : Int), .bool b3, .bool b4, .bool b5, .bool b6, .bool b7, .bool b8, .int .i64 (i9 : Int), .slice q0 Q.length qc, .slice a0 A.length ac, .slice u0 U.length uc, .slice d0 D.length dc] 25) ∧ Hid (Bx wr (w.heap.size + 1) #[.int .i64 0, .bool false, .int .i64 0, .bool false, .bool false, .bool false, .bool false, .bool false, .bool false, .int .i64 0, .slice none 0 0, .slice none 0 0, .slice none 0 0, .slice none 0 0] 25)) (fun iv _ => cp (D.drop f) + 1 - (intOf iv).toNat)
  case atStart => exact ⟨0, rfl, Nat.zero_le _, HB1, HX1, HR1⟩
  case round =>
    clear HB1 HX1 HR1
    obtain ⟨k, rfl, hk, HBr, HXr, HRr⟩ := hrel
    by_cases hlt : k < cp (D.drop f)
    · obtain ⟨j, hj, hjk⟩ := cp_ex D k (by omega)
      have hno := HNX.out j hj (by omega)
      obtain ⟨D', hD'⟩ : ∃ D', dropF D j = D' := ⟨_, rfl⟩
      have hmem : ∀ r ∈ D', r ∈ D := fun r hr => dropF_mem (hD' ▸ hr)
      have hlen : D'.length ≤ D.length := hD' ▸ dropF_le D j
      have hmd : msgOK i0 i2 i9 Q A U D' = true := msgOK_less2 HHM.out hmem hlen
      have HWO : Hid (woR D D.length k [] = (D', 0)) := by unfold Hid; rw [← hD', ← hjk]; exact woR_drop D j hj
      obtain ⟨N, hN⟩ : ∃ N, N = D'.length := ⟨_, rfl⟩
      have HNN := hide' hN
      have HMEM := hide' hmem
      have HMD := hide' hmd
      have HZD : Hid (ZOk Q A U D') := ⟨HZ.out.q, HZ.out.a, HZ.out.u, fun r hr => HZ.out.d r (hmem r hr)⟩
      have HLND : Hid (Q.length ≤ maxLen ∧ A.length ≤ maxLen ∧ U.length ≤ maxLen ∧ D'.length ≤ maxLen) := ⟨HLN.out.1, HLN.out.2.1, HLN.out.2.2.1, Nat.le_trans hlen HLN.out.2.2.2⟩
      obtain ⟨s, hs⟩ : ∃ s, (packS i0 i2 i9 b1 b3 b4 b5 b6 b7 b8 Q A U D').out.size = s := ⟨_, rfl⟩
      have HSZ := hide' hs
      have hk16 : k ≤ 65536 := by have := HLD.out; have := cp_le D; omega
      have y13 : wr.cell? ⟨w.heap.size, 13, none⟩ = some (.slice d0 D.length dc) := HXr.out.cell rfl
      have hok := okD_pack (most := most) (b1 := b1) (b3 := b3) (b4 := b4) (b5 := b5) (b6 := b6) (b7 := b7) (b8 := b8) hmd hmo65
      rw [hs] at hok
      rw [hD'] at hno
      have hns : ¬ ((s : Nat) : Int) ≤ most := fun h => hno (hok.2 h)
      clear hno hok hmem hmd hN hs hlen hD'
      by_cases hbig : 65535 < s
      · have HBG := hide' hbig
        clear hbig hns
        go_wp2_with (first
          | (go_at_call 36; refine (wo_call HLD.out hk16 HWO.out HNN.out _ (HL.out.below HBr.out).d).mono ?_; rintro e w2 ⟨q, c, rfl, ho, hB⟩; have HO2 := hide' ho; have HBB2 := hide' hB; have HB2 := hide' (bstep HBr.out hB HBr.out.size); have HX2 : Hid (Bx w2 w.heap.size #[.int .i64 (i0 : Int), .bool b1, .int .i64 (i2 : Int), .bool b3, .bool b4, .bool b5, .bool b6, .bool b7, .bool b8, .int .i64 (i9 : Int), .slice q0 Q.length qc, .slice a0 A.length ac, .slice u0 U.length uc, .slice d0 D.length dc] 25) := HXr.out.below hB HXr.out.lt; have HR2 : Hid (Bx w2 (w.heap.size + 1) #[.int .i64 0, .bool false, .int .i64 0, .bool false, .bool false, .bool false, .bool false, .bool false, .bool false, .int .i64 0, .slice none 0 0, .slice none 0 0, .slice none 0 0, .slice none 0 0] 25) := HRr.out.below hB HRr.out.lt; obtain ⟨y0, y1, y2, y3, y4, y5, y6, y7, y8, y9, y10, y11, y12, y13⟩ := bx14 HX2.out; obtain ⟨w3, hw3⟩ : ∃ w3, w2.alloc (.cells #[.int .i64 (i0 : Int), .bool b1, .int .i64 (i2 : Int), .bool b3, .bool b4, .bool b5, .bool b6, .bool b7, .bool b8, .int .i64 (i9 : Int), .slice q0 Q.length qc, .slice a0 A.length ac, .slice u0 U.length uc, .slice q N c] 25) = w3 := ⟨_, rfl⟩; have HB3 : Hid (Below w.heap.size w w3) := hw3 ▸ HB2.out.alloc HB2.out.size _; have h23 : Below w2.heap.size w2 w3 := hw3 ▸ (Below.refl _ w2).alloc (Nat.le_refl _) _; have HO3 := hide' (own_below HO2.out h23); have HX3 : Hid (Bx w3 w.heap.size #[.int .i64 (i0 : Int), .bool b1, .int .i64 (i2 : Int), .bool b3, .bool b4, .bool b5, .bool b6, .bool b7, .bool b8, .int .i64 (i9 : Int), .slice q0 Q.length qc, .slice a0 A.length ac, .slice u0 U.length uc, .slice d0 D.length dc] 25) := HX2.out.below h23 HX2.out.lt; have HR3 : Hid (Bx w3 (w.heap.size + 1) #[.int .i64 0, .bool false, .int .i64 0, .bool false, .bool false, .bool false, .bool false, .bool false, .bool false, .int .i64 0, .slice none 0 0, .slice none 0 0, .slice none 0 0, .slice none 0 0] 25) := HR2.out.below h23 HR2.out.lt; have HY3 : Hid (Bx w3 w2.heap.size #[.int .i64 (i0 : Int), .bool b1, .int .i64 (i2 : Int), .bool b3, .bool b4, .bool b5, .bool b6, .bool b7, .bool b8, .int .i64 (i9 : Int), .slice q0 Q.length qc, .slice a0 A.length ac, .slice u0 U.length uc, .slice q N c] 25) := hw3 ▸ World.alloc_heap_new w2 _; obtain ⟨v0, v1, v2, v3, v4, v5, v6, v7, v8, v9, v10, v11, v12, v13⟩ := bx14 HY3.out; have HL3 : Hid (LsAt w3 q0 a0 u0 q Q A U D') := lsx (HL.out.below HB3.out) HO3.out HNN.out HMEM.out; have HN3 : Hid (q = none → c = 0) := (by obtain ⟨_, _, e, _, _, h⟩ := own_shape ho; injection e with e1 _ e3; subst e1; subst e3; exact h); clear ho hB h23)
          | (go_at_call 7; refine Calls.mono (show Calls Tryz.prog 7 _ _ (packE (packS i0 i2 i9 b1 b3 b4 b5 b6 b7 b8 Q A U D') w3) from (by have := refPack_yes i0 i2 i9 b1 b3 b4 b5 b6 b7 b8 q0 a0 u0 q qc ac uc c Q A U D' w3 HL3.out HZD.out ⟨HN.out.1, HN.out.2.1, HN3.out⟩ HLND.out HMD.out; rw [← HNN.out] at this; exact this)) ?_; rintro e w4 ⟨hh, hB⟩; rw [HSZ.out] at hh; rw [if_pos HBG.out] at hh; subst hh; have HB4 := hide' (bstep HB3.out hB HB3.out.size); have HX4 : Hid (Bx w4 w.heap.size #[.int .i64 (i0 : Int), .bool b1, .int .i64 (i2 : Int), .bool b3, .bool b4, .bool b5, .bool b6, .bool b7, .bool b8, .int .i64 (i9 : Int), .slice q0 Q.length qc, .slice a0 A.length ac, .slice u0 U.length uc, .slice d0 D.length dc] 25) := HX3.out.below hB HX3.out.lt; have HR4 : Hid (Bx w4 (w.heap.size + 1) #[.int .i64 0, .bool false, .int .i64 0, .bool false, .bool false, .bool false, .bool false, .bool false, .bool false, .int .i64 0, .slice none 0 0, .slice none 0 0, .slice none 0 0, .slice none 0 0] 25) := HR3.out.below hB HR3.out.lt; have HY4 : Hid (Bx w4 w2.heap.size #[.int .i64 (i0 : Int), .bool b1, .int .i64 (i2 : Int), .bool b3, .bool b4, .bool b5, .bool b6, .bool b7, .bool b8, .int .i64 (i9 : Int), .slice q0 Q.length qc, .slice a0 A.length ac, .slice u0 U.length uc, .slice q N c] 25) := HY3.out.below hB HY3.out.lt; have HO4 := hide' (own_below HO3.out hB); clear hB y0 y1 y2 y3 y4 y5 y6 y7 y8 y9 y10 y11 y12 y13 v0 v1 v2 v3 v4 v5 v6 v7 v8 v9 v10 v11 v12 v13; obtain ⟨v0, v1, v2, v3, v4, v5, v6, v7, v8, v9, v10, v11, v12, v13⟩ := bx14 HY4.out))
        refine ⟨⟨k + 1, by go_num, by omega, HB4, HX4, HR4⟩, ?_⟩
        simp [intOf]; omega
      · have HBG := hide' hbig
        have hlim : decide ((s : Int) ≤ limit) = false := decide_eq_false (by omega)
        clear hbig hns
        go_wp2_with (first
          | (go_at_call 36; refine (wo_call HLD.out hk16 HWO.out HNN.out _ (HL.out.below HBr.out).d).mono ?_; rintro e w2 ⟨q, c, rfl, ho, hB⟩; have HO2 := hide' ho; have HBB2 := hide' hB; have HB2 := hide' (bstep HBr.out hB HBr.out.size); have HX2 : Hid (Bx w2 w.heap.size #[.int .i64 (i0 : Int), .bool b1, .int .i64 (i2 : Int), .bool b3, .bool b4, .bool b5, .bool b6, .bool b7, .bool b8, .int .i64 (i9 : Int), .slice q0 Q.length qc, .slice a0 A.length ac, .slice u0 U.length uc, .slice d0 D.length dc] 25) := HXr.out.below hB HXr.out.lt; have HR2 : Hid (Bx w2 (w.heap.size + 1) #[.int .i64 0, .bool false, .int .i64 0, .bool false, .bool false, .bool false, .bool false, .bool false, .bool false, .int .i64 0, .slice none 0 0, .slice none 0 0, .slice none 0 0, .slice none 0 0] 25) := HRr.out.below hB HRr.out.lt; obtain ⟨y0, y1, y2, y3, y4, y5, y6, y7, y8, y9, y10, y11, y12, y13⟩ := bx14 HX2.out; obtain ⟨w3, hw3⟩ : ∃ w3, w2.alloc (.cells #[.int .i64 (i0 : Int), .bool b1, .int .i64 (i2 : Int), .bool b3, .bool b4, .bool b5, .bool b6, .bool b7, .bool b8, .int .i64 (i9 : Int), .slice q0 Q.length qc, .slice a0 A.length ac, .slice u0 U.length uc, .slice q N c] 25) = w3 := ⟨_, rfl⟩; have HB3 : Hid (Below w.heap.size w w3) := hw3 ▸ HB2.out.alloc HB2.out.size _; have h23 : Below w2.heap.size w2 w3 := hw3 ▸ (Below.refl _ w2).alloc (Nat.le_refl _) _; have HO3 := hide' (own_below HO2.out h23); have HX3 : Hid (Bx w3 w.heap.size #[.int .i64 (i0 : Int), .bool b1, .int .i64 (i2 : Int), .bool b3, .bool b4, .bool b5, .bool b6, .bool b7, .bool b8, .int .i64 (i9 : Int), .slice q0 Q.length qc, .slice a0 A.length ac, .slice u0 U.length uc, .slice d0 D.length dc] 25) := HX2.out.below h23 HX2.out.lt; have HR3 : Hid (Bx w3 (w.heap.size + 1) #[.int .i64 0, .bool false, .int .i64 0, .bool false, .bool false, .bool false, .bool false, .bool false, .bool false, .int .i64 0, .slice none 0 0, .slice none 0 0, .slice none 0 0, .slice none 0 0] 25) := HR2.out.below h23 HR2.out.lt; have HY3 : Hid (Bx w3 w2.heap.size #[.int .i64 (i0 : Int), .bool b1, .int .i64 (i2 : Int), .bool b3, .bool b4, .bool b5, .bool b6, .bool b7, .bool b8, .int .i64 (i9 : Int), .slice q0 Q.length qc, .slice a0 A.length ac, .slice u0 U.length uc, .slice q N c] 25) := hw3 ▸ World.alloc_heap_new w2 _; obtain ⟨v0, v1, v2, v3, v4, v5, v6, v7, v8, v9, v10, v11, v12, v13⟩ := bx14 HY3.out; have HL3 : Hid (LsAt w3 q0 a0 u0 q Q A U D') := lsx (HL.out.below HB3.out) HO3.out HNN.out HMEM.out; have HN3 : Hid (q = none → c = 0) := (by obtain ⟨_, _, e, _, _, h⟩ := own_shape ho; injection e with e1 _ e3; subst e1; subst e3; exact h); clear ho hB h23)
          | (go_at_call 7; refine Calls.mono (show Calls Tryz.prog 7 _ _ (packE (packS i0 i2 i9 b1 b3 b4 b5 b6 b7 b8 Q A U D') w3) from (by have := refPack_yes i0 i2 i9 b1 b3 b4 b5 b6 b7 b8 q0 a0 u0 q qc ac uc c Q A U D' w3 HL3.out HZD.out ⟨HN.out.1, HN.out.2.1, HN3.out⟩ HLND.out HMD.out; rw [← HNN.out] at this; exact this)) ?_; rintro e w4 ⟨hh, hB⟩; rw [HSZ.out] at hh; rw [if_neg HBG.out] at hh; obtain ⟨pb, cb, rfl, _⟩ := hh; have HB4 := hide' (bstep HB3.out hB HB3.out.size); have HX4 : Hid (Bx w4 w.heap.size #[.int .i64 (i0 : Int), .bool b1, .int .i64 (i2 : Int), .bool b3, .bool b4, .bool b5, .bool b6, .bool b7, .bool b8, .int .i64 (i9 : Int), .slice q0 Q.length qc, .slice a0 A.length ac, .slice u0 U.length uc, .slice d0 D.length dc] 25) := HX3.out.below hB HX3.out.lt; have HR4 : Hid (Bx w4 (w.heap.size + 1) #[.int .i64 0, .bool false, .int .i64 0, .bool false, .bool false, .bool false, .bool false, .bool false, .bool false, .int .i64 0, .slice none 0 0, .slice none 0 0, .slice none 0 0, .slice none 0 0] 25) := HR3.out.below hB HR3.out.lt; have HY4 : Hid (Bx w4 w2.heap.size #[.int .i64 (i0 : Int), .bool b1, .int .i64 (i2 : Int), .bool b3, .bool b4, .bool b5, .bool b6, .bool b7, .bool b8, .int .i64 (i9 : Int), .slice q0 Q.length qc, .slice a0 A.length ac, .slice u0 U.length uc, .slice q N c] 25) := HY3.out.below hB HY3.out.lt; have HO4 := hide' (own_below HO3.out hB); clear hB y0 y1 y2 y3 y4 y5 y6 y7 y8 y9 y10 y11 y12 y13 v0 v1 v2 v3 v4 v5 v6 v7 v8 v9 v10 v11 v12 v13; obtain ⟨v0, v1, v2, v3, v4, v5, v6, v7, v8, v9, v10, v11, v12, v13⟩ := bx14 HY4.out))
        refine ⟨⟨k + 1, by go_num, by omega, HB4, HX4, HR4⟩, ?_⟩
        simp [intOf]; omega
    · have hjk : cp (D.drop f) = k := by omega
      have hj := hf
      have hyes := HYES.out
      obtain ⟨D', hD'⟩ : ∃ D', dropF D f = D' := ⟨_, rfl⟩
      have hmem : ∀ r ∈ D', r ∈ D := fun r hr => dropF_mem (hD' ▸ hr)
      have hlen : D'.length ≤ D.length := hD' ▸ dropF_le D f
      have hmd : msgOK i0 i2 i9 Q A U D' = true := msgOK_less2 HHM.out hmem hlen
      have HWO : Hid (woR D D.length k [] = (D', 0)) := by unfold Hid; rw [← hD', ← hjk]; exact woR_drop D f hj
      obtain ⟨N, hN⟩ : ∃ N, N = D'.length := ⟨_, rfl⟩
      have HNN := hide' hN
      have HMEM := hide' hmem
      have HMD := hide' hmd
      have HZD : Hid (ZOk Q A U D') := ⟨HZ.out.q, HZ.out.a, HZ.out.u, fun r hr => HZ.out.d r (hmem r hr)⟩
      have HLND : Hid (Q.length ≤ maxLen ∧ A.length ≤ maxLen ∧ U.length ≤ maxLen ∧ D'.length ≤ maxLen) := ⟨HLN.out.1, HLN.out.2.1, HLN.out.2.2.1, Nat.le_trans hlen HLN.out.2.2.2⟩
      obtain ⟨s, hs⟩ : ∃ s, (packS i0 i2 i9 b1 b3 b4 b5 b6 b7 b8 Q A U D').out.size = s := ⟨_, rfl⟩
      have HSZ := hide' hs
      have hk16 : k ≤ 65536 := by have := HLD.out; have := cp_le D; omega
      have y13 : wr.cell? ⟨w.heap.size, 13, none⟩ = some (.slice d0 D.length dc) := HXr.out.cell rfl
      have hok := okD_pack (most := most) (b1 := b1) (b3 := b3) (b4 := b4) (b5 := b5) (b6 := b6) (b7 := b7) (b8 := b8) hmd hmo65
      rw [hs] at hok
      rw [hD'] at hyes
      have hsm : ((s : Nat) : Int) ≤ most := hok.1 hyes
      have HBG : Hid (¬ 65535 < s) := by unfold Hid; omega
      have hlim : decide ((s : Int) ≤ limit) = true := decide_eq_true (by omega)
      have HDD := hide' hD'
      clear hyes hok hmem hmd hN hs hlen hD' hsm
      go_wp2_with (first
        | (go_at_call 36; refine (wo_call HLD.out hk16 HWO.out HNN.out _ (HL.out.below HBr.out).d).mono ?_; rintro e w2 ⟨q, c, rfl, ho, hB⟩; have HO2 := hide' ho; have HBB2 := hide' hB; have HB2 := hide' (bstep HBr.out hB HBr.out.size); have HX2 : Hid (Bx w2 w.heap.size #[.int .i64 (i0 : Int), .bool b1, .int .i64 (i2 : Int), .bool b3, .bool b4, .bool b5, .bool b6, .bool b7, .bool b8, .int .i64 (i9 : Int), .slice q0 Q.length qc, .slice a0 A.length ac, .slice u0 U.length uc, .slice d0 D.length dc] 25) := HXr.out.below hB HXr.out.lt; have HR2 : Hid (Bx w2 (w.heap.size + 1) #[.int .i64 0, .bool false, .int .i64 0, .bool false, .bool false, .bool false, .bool false, .bool false, .bool false, .int .i64 0, .slice none 0 0, .slice none 0 0, .slice none 0 0, .slice none 0 0] 25) := HRr.out.below hB HRr.out.lt; obtain ⟨y0, y1, y2, y3, y4, y5, y6, y7, y8, y9, y10, y11, y12, y13⟩ := bx14 HX2.out; obtain ⟨w3, hw3⟩ : ∃ w3, w2.alloc (.cells #[.int .i64 (i0 : Int), .bool b1, .int .i64 (i2 : Int), .bool b3, .bool b4, .bool b5, .bool b6, .bool b7, .bool b8, .int .i64 (i9 : Int), .slice q0 Q.length qc, .slice a0 A.length ac, .slice u0 U.length uc, .slice q N c] 25) = w3 := ⟨_, rfl⟩; have HB3 : Hid (Below w.heap.size w w3) := hw3 ▸ HB2.out.alloc HB2.out.size _; have h23 : Below w2.heap.size w2 w3 := hw3 ▸ (Below.refl _ w2).alloc (Nat.le_refl _) _; have HO3 := hide' (own_below HO2.out h23); have HX3 : Hid (Bx w3 w.heap.size #[.int .i64 (i0 : Int), .bool b1, .int .i64 (i2 : Int), .bool b3, .bool b4, .bool b5, .bool b6, .bool b7, .bool b8, .int .i64 (i9 : Int), .slice q0 Q.length qc, .slice a0 A.length ac, .slice u0 U.length uc, .slice d0 D.length dc] 25) := HX2.out.below h23 HX2.out.lt; have HR3 : Hid (Bx w3 (w.heap.size + 1) #[.int .i64 0, .bool false, .int .i64 0, .bool false, .bool false, .bool false, .bool false, .bool false, .bool false, .int .i64 0, .slice none 0 0, .slice none 0 0, .slice none 0 0, .slice none 0 0] 25) := HR2.out.below h23 HR2.out.lt; have HY3 : Hid (Bx w3 w2.heap.size #[.int .i64 (i0 : Int), .bool b1, .int .i64 (i2 : Int), .bool b3, .bool b4, .bool b5, .bool b6, .bool b7, .bool b8, .int .i64 (i9 : Int), .slice q0 Q.length qc, .slice a0 A.length ac, .slice u0 U.length uc, .slice q N c] 25) := hw3 ▸ World.alloc_heap_new w2 _; obtain ⟨v0, v1, v2, v3, v4, v5, v6, v7, v8, v9, v10, v11, v12, v13⟩ := bx14 HY3.out; have HL3 : Hid (LsAt w3 q0 a0 u0 q Q A U D') := lsx (HL.out.below HB3.out) HO3.out HNN.out HMEM.out; have HN3 : Hid (q = none → c = 0) := (by obtain ⟨_, _, e, _, _, h⟩ := own_shape ho; injection e with e1 _ e3; subst e1; subst e3; exact h); clear ho hB h23)
        | (go_at_call 7; refine Calls.mono (show Calls Tryz.prog 7 _ _ (packE (packS i0 i2 i9 b1 b3 b4 b5 b6 b7 b8 Q A U D') w3) from (by have := refPack_yes i0 i2 i9 b1 b3 b4 b5 b6 b7 b8 q0 a0 u0 q qc ac uc c Q A U D' w3 HL3.out HZD.out ⟨HN.out.1, HN.out.2.1, HN3.out⟩ HLND.out HMD.out; rw [← HNN.out] at this; exact this)) ?_; rintro e w4 ⟨hh, hB⟩; rw [HSZ.out] at hh; rw [if_neg HBG.out] at hh; obtain ⟨pb, cb, rfl, _⟩ := hh; have HB4 := hide' (bstep HB3.out hB HB3.out.size); have HX4 : Hid (Bx w4 w.heap.size #[.int .i64 (i0 : Int), .bool b1, .int .i64 (i2 : Int), .bool b3, .bool b4, .bool b5, .bool b6, .bool b7, .bool b8, .int .i64 (i9 : Int), .slice q0 Q.length qc, .slice a0 A.length ac, .slice u0 U.length uc, .slice d0 D.length dc] 25) := HX3.out.below hB HX3.out.lt; have HR4 : Hid (Bx w4 (w.heap.size + 1) #[.int .i64 0, .bool false, .int .i64 0, .bool false, .bool false, .bool false, .bool false, .bool false, .bool false, .int .i64 0, .slice none 0 0, .slice none 0 0, .slice none 0 0, .slice none 0 0] 25) := HR3.out.below hB HR3.out.lt; have HY4 : Hid (Bx w4 w2.heap.size #[.int .i64 (i0 : Int), .bool b1, .int .i64 (i2 : Int), .bool b3, .bool b4, .bool b5, .bool b6, .bool b7, .bool b8, .int .i64 (i9 : Int), .slice q0 Q.length qc, .slice a0 A.length ac, .slice u0 U.length uc, .slice q N c] 25) := HY3.out.below hB HY3.out.lt; have HO4 := hide' (own_below HO3.out hB); clear hB y0 y1 y2 y3 y4 y5 y6 y7 y8 y9 y10 y11 y12 y13 v0 v1 v2 v3 v4 v5 v6 v7 v8 v9 v10 v11 v12 v13; obtain ⟨v0, v1, v2, v3, v4, v5, v6, v7, v8, v9, v10, v11, v12, v13⟩ := bx14 HY4.out; obtain ⟨r0, r1, r2, r3, r4, r5, r6, r7, r8, r9, r10, r11, r12, r13⟩ := bx14 HR4.out; obtain ⟨f0, f1, f2, f3, f4, f5, f6, f7, f8, f9, f10, f11, f12, f13⟩ := bx14_free2 HR4.out))
      have HF : Hid (FmE i0 i2 i9 b1 b3 b4 b5 b6 b7 b8 q0 a0 u0 qc ac uc Q A U (dropF D f) w (.returned (.tuple #[.agg #[.int .i64 (i0 : Int), .bool b1, .int .i64 (i2 : Int), .bool b3, .bool b4, .bool b5, .bool b6, .bool b7, .bool b8, .int .i64 (i9 : Int), .slice q0 Q.length qc, .slice a0 A.length ac, .slice u0 U.length uc, .slice q N c], .int .i64 0])) (set14 w4 (w.heap.size + 1) (.int .i64 (i0 : Int)) (.bool b1) (.int .i64 (i2 : Int)) (.bool b3) (.bool b4) (.bool b5) (.bool b6) (.bool b7) (.bool b8) (.int .i64 (i9 : Int)) (.slice q0 Q.length qc) (.slice a0 A.length ac) (.slice u0 U.length uc) (.slice q N c))) := by
        have hb : w4.ownsRow (w.heap.size + 2) 59 5 (.slice q N c) N (rce5 D') := own_lowW HO4.out (by have := HRr.out.lt; omega)
        have ho := own_keepF hb (grown14b w4 (w.heap.size + 1) (.int .i64 (i0 : Int)) (.bool b1) (.int .i64 (i2 : Int)) (.bool b3) (.bool b4) (.bool b5) (.bool b6) (.bool b7) (.bool b8) (.int .i64 (i9 : Int)) (.slice q0 Q.length qc) (.slice a0 A.length ac) (.slice u0 U.length uc) (.slice q N c)) (by omega)
        rw [HNN.out] at ho ⊢
        rw [HDD.out]
        exact ⟨q, c, rfl, own_lowW ho (by omega), below14 HB4.out (by omega) HB4.out.size _ _ _ _ _ _ _ _ _ _ _ _ _ _⟩
      obtain ⟨t0, t1, t2, t3, t4, t5, t6, t7, t8, t9, t10, t11, t12, t13⟩ := bx14 (bx14_set HR4.out (.int .i64 (i0 : Int)) (.bool b1) (.int .i64 (i2 : Int)) (.bool b3) (.bool b4) (.bool b5) (.bool b6) (.bool b7) (.bool b8) (.int .i64 (i9 : Int)) (.slice q0 Q.length qc) (.slice a0 A.length ac) (.slice u0 U.length uc) (.slice q N c))
      unfold set14 at t0 t1 t2 t3 t4 t5 t6 t7 t8 t9 t10 t11 t12 t13
      exact bodyPost_ret (v := .tuple #[.agg #[.int .i64 (i0 : Int), .bool b1, .int .i64 (i2 : Int), .bool b3, .bool b4, .bool b5, .bool b6, .bool b7, .bool b8, .int .i64 (i9 : Int), .slice q0 Q.length qc, .slice a0 A.length ac, .slice u0 U.length uc, .slice q N c], .int .i64 0]) (by simp [results, go_sem, t0, t1, t2, t3, t4, t5, t6, t7, t8, t9, t10, t11, t12, t13]) rfl HF.out
end Go.Proofs.YtjnmbgmdkkiidaaGreat

/-
  The reference's FitMessage: cut, or nothing. (The verifier's own text.)
-/
namespace Go.Proofs.YtjnmbgmdkkiidaaGreat
set_option linter.unusedVariables false
open Go.RowKit Go.Shelf Go.Maps Go.Proofs.YtjnmbgmdkkiidaaGreat.Nm

theorem wo_none {D : List Rn} {p : Option Addr} {cap k : Nat} (hD : D.length ≤ 65535) (hk : k ≤ 65536) (hc : cp D < k) (W : World) (h : RsAt W p D) :
    Calls Tryz.prog 36 #[.slice p D.length cap, .int .i64 (k : Int)] W fun e w' => ∃ q N c, e = .returned (.tuple #[.slice q N c, .bool false]) ∧ Below W.heap.size W w' := by
  refine (without_any D p cap k W hD hk h).mono ?_
  rintro e w' ⟨q, c, he, ho, hB⟩
  have := woR_many D D.length k [] (Nat.le_refl _) (by rw [List.take_length]; exact hc)
  rw [decide_eq_false this] at he
  exact ⟨q, _, c, he, hB⟩
theorem msgOK_none2 {i0 i2 i9 : Int} {Q : List Qn} {A U D : List Rn} (h : msgOK i0 i2 i9 Q A U D = true) : msgOK i0 i2 i9 Q [] [] D = true := by
  unfold msgOK lstOK at h ⊢
  simp only [Bool.and_eq_true, decide_eq_true_eq, List.all_eq_true] at h ⊢
  exact ⟨⟨⟨⟨h.1.1.1.1, by simp⟩, by simp⟩, h.1.2⟩, h.2.1, ⟨by simp, by simp⟩, h.2.2.2⟩
theorem kp_take {D : List Rn} {k : Nat} (hk : k < D.length) : kp (D.take (k + 1)) = kp (D.take k) ++ kp [D[k]] := by rw [List.take_succ_eq_append_getElem hk, kp_app]
theorem dropF_zero (D : List Rn) : dropF D 0 = kp D := by simp [dropF]

/-- how FitMessage ends where it is cut -/
def FmC (i0 i2 i9 : Nat) (b1 b3 b5 b6 b7 b8 : Bool) (q0 : Option Addr) (qc : Nat) (Q : List Qn) (D' : List Rn) (w : World) (e : Ending) (w' : World) : Prop :=
  ∃ q c, e = .returned (.tuple #[.agg #[.int .i64 (i0 : Int), .bool b1, .int .i64 (i2 : Int), .bool b3, .bool true, .bool b5, .bool b6, .bool b7, .bool b8, .int .i64 (i9 : Int), .slice q0 Q.length qc, .slice none 0 0, .slice none 0 0, .slice q D'.length c], .int .i64 0]) ∧ w'.ownsRow w.heap.size 59 5 (.slice q D'.length c) D'.length (rce5 D') ∧ Below w.heap.size w w'
theorem own_keepB {w w' : World} {base e size n : Nat} {v : Value} {xs : List Value} {g : Nat} (h : w.ownsRow base e size v n xs) (hg : w.grownBy w' (some g)) (hne : g < base) : w'.ownsRow base e size v n xs := own_keepF h hg hne
set_option maxRecDepth 100000 in
set_option maxHeartbeats 16000000 in
theorem fm_tail_cut (i0 i2 i9 : Nat) (b1 b3 b4 b5 b6 b7 b8 : Bool) (q0 a0 u0 d0 : Option Addr) (qc ac uc dc : Nat) (Q : List Qn) (A U D : List Rn) (limit : Int) (w : World) (HL : Hid (LsAt w q0 a0 u0 d0 Q A U D)) (HZ : Hid (ZOk Q A U D)) (HHM : Hid (msgOK i0 i2 i9 Q A U D = true)) (HLN : Hid (Q.length ≤ maxLen ∧ A.length ≤ maxLen ∧ U.length ≤ maxLen ∧ D.length ≤ maxLen)) (HLD : Hid (D.length ≤ 65535)) (X : Nat) (wa : World) (HBa : Hid (Below w.heap.size w wa)) (HXa : Hid (Bx wa w.heap.size #[.int .i64 (i0 : Int), .bool b1, .int .i64 (i2 : Int), .bool b3, .bool b4, .bool b5, .bool b6, .bool b7, .bool b8, .int .i64 (i9 : Int), .slice q0 Q.length qc, .slice a0 A.length ac, .slice u0 U.length uc, .slice d0 D.length dc] 25)) (HRa : Hid (Bx wa (w.heap.size + 1) #[.int .i64 0, .bool false, .int .i64 0, .bool false, .bool false, .bool false, .bool false, .bool false, .bool false, .int .i64 0, .slice none 0 0, .slice none 0 0, .slice none 0 0, .slice none 0 0] 25)) (HYa : Hid (Bx wa X #[.int .i64 (i0 : Int), .bool b1, .int .i64 (i2 : Int), .bool b3, .bool b4, .bool b5, .bool b6, .bool b7, .bool b8, .int .i64 (i9 : Int), .slice q0 Q.length qc, .slice a0 A.length ac, .slice u0 U.length uc, .slice d0 D.length dc] 25)) (HX2 : Hid (w.heap.size + 2 ≤ X)) (most : Int) (hmo : min limit 65535 = most) (hcut : okD most i0 i2 i9 b1 b3 true b5 b6 b7 b8 Q [] [] (dropF D 0)) (x0 x3 x5 x6 x7 x8 x9 x10 x11 x13 x14 x15 x16 x17 x18 x19 x20 x21 x22 x23 x24 x25 x26 x27 x28 x29 x30 x31 x32 x33 x34 x35 x36 x37 x38 x39 x40 x41 x42 x43 x44 x45 x46 x47 x48 x49 x50 x51 x52 x53 x54 x55 x56 x57 x58 x59 x60 x61 x62 x63 x64 x65 x66 x67 x68 x69 x70 x71 x72 x73 x74 x75 x76 x77 x78 x79 x80 x81 x82 x83 x84 x85 : Value) :
    Code.wp Tryz.prog (((Tryz.f13.body.map (tailsN 12)).getD []).getD 0 .skip) (bodyPost Tryz.prog Tryz.f13 (FmC i0 i2 i9 b1 b3 b5 b6 b7 b8 q0 qc Q (dropF D 0) w)) ⟨List.toArray (x0 :: (.int .i64 limit : Value) :: (.pointer (some ⟨w.heap.size, 0, none⟩) : Value) :: x3 :: (.pointer (some ⟨w.heap.size + 1, 0, none⟩) : Value) :: x5 :: x6 :: x7 :: x8 :: x9 :: x10 :: x11 :: (.pointer (some ⟨X, 0, none⟩) : Value) :: x13 :: x14 :: x15 :: x16 :: x17 :: x18 :: x19 :: x20 :: x21 :: x22 :: x23 :: x24 :: x25 :: x26 :: x27 :: x28 :: x29 :: x30 :: x31 :: x32 :: x33 :: x34 :: x35 :: x36 :: x37 :: x38 :: x39 :: x40 :: x41 :: x42 :: x43 :: x44 :: x45 :: x46 :: x47 :: x48 :: x49 :: x50 :: x51 :: x52 :: x53 :: x54 :: x55 :: x56 :: x57 :: x58 :: x59 :: x60 :: x61 :: x62 :: x63 :: x64 :: x65 :: x66 :: x67 :: x68 :: x69 :: x70 :: x71 :: x72 :: x73 :: x74 :: x75 :: x76 :: x77 :: x78 :: x79 :: x80 :: x81 :: x82 :: x83 :: x84 :: x85 :: []), []⟩ wa := by
  obtain ⟨y0, y1, y2, y3, y4, y5, y6, y7, y8, y9, y10, y11, y12, y13⟩ := bx14 HYa.out
  obtain ⟨f0, f1, f2, f3, f4, f5, f6, f7, f8, f9, f10, f11, f12, f13⟩ := bx14_free2 HYa.out
  have z13 : wa.cell? ⟨w.heap.size, 13, none⟩ = some (.slice d0 D.length dc) := HXa.out.cell rfl
  obtain ⟨wb, hwb⟩ : ∃ wb, (((wa.setCell ⟨X, 11, none⟩ (.slice none 0 0)).setCell ⟨X, 12, none⟩ (.slice none 0 0)).setCell ⟨X, 4, none⟩ (.bool true)).setCell ⟨X, 13, none⟩ (.slice none 0 0) = wb := ⟨_, rfl⟩
  have hgb : wa.grownBy wb (some X) := hwb ▸ grown_trans (grown_trans (grown_trans (grown_set _ X 11 _) (grown_set _ X 12 _)) (grown_set _ X 4 _)) (grown_set _ X 13 _)
  have HYb : Hid (Bx wb X #[.int .i64 (i0 : Int), .bool b1, .int .i64 (i2 : Int), .bool b3, .bool true, .bool b5, .bool b6, .bool b7, .bool b8, .int .i64 (i9 : Int), .slice q0 Q.length qc, .slice none 0 0, .slice none 0 0, .slice none 0 0] 25) := hwb ▸ ((((HYa.out.set 11 (.slice none 0 0)).set 12 (.slice none 0 0)).set 4 (.bool true)).set 13 (.slice none 0 0))
  have HXb : Hid (Bx wb w.heap.size #[.int .i64 (i0 : Int), .bool b1, .int .i64 (i2 : Int), .bool b3, .bool b4, .bool b5, .bool b6, .bool b7, .bool b8, .int .i64 (i9 : Int), .slice q0 Q.length qc, .slice a0 A.length ac, .slice u0 U.length uc, .slice d0 D.length dc] 25) := HXa.out.grown hgb (fun e => by injection e with e; have := HX2.out; omega)
  have HRb : Hid (Bx wb (w.heap.size + 1) #[.int .i64 0, .bool false, .int .i64 0, .bool false, .bool false, .bool false, .bool false, .bool false, .bool false, .int .i64 0, .slice none 0 0, .slice none 0 0, .slice none 0 0, .slice none 0 0] 25) := HRa.out.grown hgb (fun e => by injection e with e; have := HX2.out; omega)
  have HBb : Hid (Below w.heap.size w wb) := HBa.out.grown hgb HBa.out.size (fun q e => by injection e with e; have := HX2.out; omega)
  have zb13 : wb.cell? ⟨w.heap.size, 13, none⟩ = some (.slice d0 D.length dc) := HXb.out.cell rfl
  clear hgb
  conv => arg 2; whnf
  go_wp2_with fail
  clear y0 y1 y2 y3 y4 y5 y6 y7 y8 y9 y10 y11 y12 y13 f0 f1 f2 f3 f4 f5 f6 f7 f8 f9 f10 f11 f12 f13 z13 zb13 hwb
  go_loopw [57] (fun iv wr => ∃ (k N : Nat) (q : Option Addr) (c : Nat), iv = .int .i64 (k : Int) ∧ k ≤ D.length ∧ N ≤ k ∧ Hid (N = (kp (D.take k)).length) ∧ Hid (wr.ownsRow (X + 1) 59 5 (.slice q N c) N (rce5 (kp (D.take k)))) ∧ Hid (Bx wr X #[.int .i64 (i0 : Int), .bool b1, .int .i64 (i2 : Int), .bool b3, .bool true, .bool b5, .bool b6, .bool b7, .bool b8, .int .i64 (i9 : Int), .slice q0 Q.length qc, .slice none 0 0, .slice none 0 0, .slice q N c] 25) ∧ Hid (Bx wr w.heap.size #[.int .i64 (i0 : Int), .bool b1, .int .i64 (i2 : Int), .bool b3, .bool b4, .bool b5, .bool b6, .bool b7, .bool b8, .int .i64 (i9 : Int), .slice q0 Q.length qc, .slice a0 A.length ac, .slice u0 U.length uc, .slice d0 D.length dc] 25) ∧ Hid (Bx wr (w.heap.size + 1) #[.int .i64 0, .bool false, .int .i64 0, .bool false, .bool false, .bool false, .bool false, .bool false, .bool false, .int .i64 0, .slice none 0 0, .slice none 0 0, .slice none 0 0, .slice none 0 0] 25) ∧ Hid (Below w.heap.size w wr)) (fun iv _ => D.length - (intOf iv).toNat)
  case atStart => exact ⟨0, 0, none, 0, rfl, Nat.zero_le _, Nat.le_refl _, by simp [Hid, kp], by unfold Hid; simp only [List.take_zero]; exact World.ownsRow_nil _ _ _ _, HYb, HXb, HRb, HBb⟩
  case round =>
    obtain ⟨k, N, q, c, rfl, hk, hNk, HN, HO, HY, HX, HR, HB⟩ := hrel
    by_cases hlt : k < D.length
    · have hat := (HL.out.below HB.out).d k hlt
      obtain ⟨g, off, rfl, hg, e0, e1, e2, e3, e4⟩ := hat
      obtain ⟨x, hx⟩ : ∃ x, D[k] = x := ⟨_, rfl⟩
      have HKT := hide' (kp_take hlt)
      rw [hx] at e0 e1 e2 e3 e4 HKT
      clear hx
      obtain ⟨xo, xt, xc, xl, xd⟩ := x
      simp only at e0 e1 e2 e3 e4
      have hkk := HLD.out
      obtain ⟨wy, hwy⟩ : ∃ wy, wr.alloc (.cells #[.string xo, .int .i64 xt, .int .i64 xc, .int .i64 xl, .string xd] 59) = wy := ⟨_, rfl⟩
      have hry : Below wr.heap.size wr wy := hwy ▸ (Below.refl _ wr).alloc (Nat.le_refl _) _
      have HBy : Bx wy wr.heap.size #[.string xo, .int .i64 xt, .int .i64 xc, .int .i64 xl, .string xd] 59 := hwy ▸ World.alloc_heap_new wr _
      have c0 : wy.cell? ⟨wr.heap.size, 0, none⟩ = some (.string xo) := HBy.cell rfl
      have c1 : wy.cell? ⟨wr.heap.size, 1, none⟩ = some (.int .i64 xt) := HBy.cell rfl
      have c2 : wy.cell? ⟨wr.heap.size, 2, none⟩ = some (.int .i64 xc) := HBy.cell rfl
      have c3 : wy.cell? ⟨wr.heap.size, 3, none⟩ = some (.int .i64 xl) := HBy.cell rfl
      have c4 : wy.cell? ⟨wr.heap.size, 4, none⟩ = some (.string xd) := HBy.cell rfl
      have HOy := hide' (own_below HO.out hry)
      have HYy : Hid (Bx wy X #[.int .i64 (i0 : Int), .bool b1, .int .i64 (i2 : Int), .bool b3, .bool true, .bool b5, .bool b6, .bool b7, .bool b8, .int .i64 (i9 : Int), .slice q0 Q.length qc, .slice none 0 0, .slice none 0 0, .slice q N c] 25) := HY.out.below hry HY.out.lt
      have HXy : Hid (Bx wy w.heap.size #[.int .i64 (i0 : Int), .bool b1, .int .i64 (i2 : Int), .bool b3, .bool b4, .bool b5, .bool b6, .bool b7, .bool b8, .int .i64 (i9 : Int), .slice q0 Q.length qc, .slice a0 A.length ac, .slice u0 U.length uc, .slice (some ⟨g, off, none⟩) D.length dc] 25) := HX.out.below hry HX.out.lt
      have HRy : Hid (Bx wy (w.heap.size + 1) #[.int .i64 0, .bool false, .int .i64 0, .bool false, .bool false, .bool false, .bool false, .bool false, .bool false, .int .i64 0, .slice none 0 0, .slice none 0 0, .slice none 0 0, .slice none 0 0] 25) := HR.out.below hry HR.out.lt
      have HB2 := hide' (bstep HB.out hry HB.out.size)
      have d13 : wy.cell? ⟨X, 13, none⟩ = some (.slice q N c) := HYy.out.cell rfl
      clear HBy
      by_cases hp : xt = 41
      · subst hp
        have k1 : kp [(⟨xo, 41, xc, xl, xd⟩ : Rn)] = [⟨xo, 41, xc, xl, xd⟩] := rfl
        rw [k1] at HKT
        obtain ⟨ws, hws⟩ : ∃ ws, wy.alloc (.cells #[.string xo, .int .i64 41, .int .i64 xc, .int .i64 xl, .string xd] 59) = ws := ⟨_, rfl⟩
        have hys : Below wy.heap.size wy ws := hws ▸ (Below.refl _ wy).alloc (Nat.le_refl _) _
        have HOs := hide' (own_below HOy.out hys)
        have HR1 : Hid (RsAt ws (some ⟨wy.heap.size, 0, none⟩) [⟨xo, 41, xc, xl, xd⟩]) := rsAt_ownW (hws ▸ one_row wy 0 (Nat.zero_le _) xo xd 41 xc xl) rfl
        have HYs : Hid (Bx ws X #[.int .i64 (i0 : Int), .bool b1, .int .i64 (i2 : Int), .bool b3, .bool true, .bool b5, .bool b6, .bool b7, .bool b8, .int .i64 (i9 : Int), .slice q0 Q.length qc, .slice none 0 0, .slice none 0 0, .slice q N c] 25) := HYy.out.below hys HYy.out.lt
        have HXs : Hid (Bx ws w.heap.size #[.int .i64 (i0 : Int), .bool b1, .int .i64 (i2 : Int), .bool b3, .bool b4, .bool b5, .bool b6, .bool b7, .bool b8, .int .i64 (i9 : Int), .slice q0 Q.length qc, .slice a0 A.length ac, .slice u0 U.length uc, .slice (some ⟨g, off, none⟩) D.length dc] 25) := HXy.out.below hys HXy.out.lt
        have HRs : Hid (Bx ws (w.heap.size + 1) #[.int .i64 0, .bool false, .int .i64 0, .bool false, .bool false, .bool false, .bool false, .bool false, .bool false, .int .i64 0, .slice none 0 0, .slice none 0 0, .slice none 0 0, .slice none 0 0] 25) := HRy.out.below hys HRy.out.lt
        have HBs := hide' (bstep HB2.out hys HB2.out.size)
        have HSX : Hid (X + 1 ≤ ws.heap.size) := HYs.out.lt
        clear hys hry
        go_wp2_with (at_builtin; refine wpList_append_recs rfl _ _ rfl (X + 1) (.slice q N c) N (rce5 (kp (D.take k))) rfl HOs.out (some ⟨wy.heap.size, 0, none⟩) [⟨xo, 41, xc, xl, xd⟩] 1 rfl HR1.out (fun e => by cases e) (by have := HLD.out; simp; omega) HSX.out ?_; intro v5 w5 ho5 hg5; rw [← rce5_app, ← HKT.out] at ho5; have HL5 : Hid (X + 1 ≤ ws.heap.size ∧ ∀ z, (Value.slice q N c).ownBlock = some z → X + 1 ≤ z) := ⟨HSX.out, fun z e => (HOs.out.lt z e).1⟩; have HY5 : Hid (Bx w5 X #[.int .i64 (i0 : Int), .bool b1, .int .i64 (i2 : Int), .bool b3, .bool true, .bool b5, .bool b6, .bool b7, .bool b8, .int .i64 (i9 : Int), .slice q0 Q.length qc, .slice none 0 0, .slice none 0 0, .slice q N c] 25) := HYs.out.grown hg5 (fun e => by have := HL5.out.2 X e; omega); have HX5 : Hid (Bx w5 w.heap.size #[.int .i64 (i0 : Int), .bool b1, .int .i64 (i2 : Int), .bool b3, .bool b4, .bool b5, .bool b6, .bool b7, .bool b8, .int .i64 (i9 : Int), .slice q0 Q.length qc, .slice a0 A.length ac, .slice u0 U.length uc, .slice (some ⟨g, off, none⟩) D.length dc] 25) := HXs.out.grown hg5 (fun e => by have := HL5.out.2 _ e; have := HX2.out; omega); have HR5 : Hid (Bx w5 (w.heap.size + 1) #[.int .i64 0, .bool false, .int .i64 0, .bool false, .bool false, .bool false, .bool false, .bool false, .bool false, .int .i64 0, .slice none 0 0, .slice none 0 0, .slice none 0 0, .slice none 0 0] 25) := HRs.out.grown hg5 (fun e => by have := HL5.out.2 _ e; have := HX2.out; omega); have HB5 := hide' (HBs.out.grown hg5 HBs.out.size (fun z e => by have := HL5.out.2 z e; have := HX2.out; omega)); obtain ⟨q5, c5, rfl, _⟩ := own_shape ho5; have HO5 := hide' ho5; have g13 : w5.cell? ⟨X, 13, none⟩ = some (.slice q N c) := HY5.out.cell rfl; have h13 := HY5.out.free 13; clear ho5 hg5)
        have hg6 := grown_set w5 X 13 (.slice q5 (N + 1) c5)
        have HN5 : Hid (N + 1 = (kp (D.take (k + 1))).length) := by unfold Hid; rw [HKT.out, List.length_append, ← HN.out]; rfl
        refine ⟨⟨k + 1, N + 1, q5, c5, by go_num, by omega, by omega, HN5, own_keepB HO5.out hg6 (Nat.lt_succ_self X), HY5.out.set 13 _, HX5.out.grown hg6 (fun e => by injection e with e; have := HX2.out; omega), HR5.out.grown hg6 (fun e => by injection e with e; have := HX2.out; omega), HB5.out.grown hg6 HB5.out.size (fun z e => by injection e with e; have := HX2.out; omega)⟩, ?_⟩
        simp [intOf]; omega
      · have k1 : kp [(⟨xo, xt, xc, xl, xd⟩ : Rn)] = [] := by simp [kp, plR, hp]
        rw [k1, List.append_nil] at HKT
        have hp2 : decide (xt = 41) = false := decide_eq_false hp
        have hp3 : (xt == 41) = false := by simpa using hp
        clear hry
        go_wp2_with fail
        refine ⟨⟨k + 1, N, q, c, by go_num, by omega, by omega, by unfold Hid; rw [HKT.out]; exact HN.out, by unfold Hid; rw [HKT.out]; exact HOy.out, HYy, HXy, HRy, HB2⟩, ?_⟩
        simp [intOf]; omega
    · obtain rfl : k = D.length := by omega
      obtain ⟨D', hD'⟩ : ∃ D', kp D = D' := ⟨_, rfl⟩
      rw [List.take_length, hD'] at HN HO
      have HNN := hide' HN.out
      have hmem : ∀ r ∈ D', r ∈ D := fun r hr => (List.mem_filter.1 (hD' ▸ hr : r ∈ kp D)).1
      have hlen : D'.length ≤ D.length := hD' ▸ kp_le D
      have hmd : msgOK i0 i2 i9 Q [] [] D' = true := msgOK_none2 (msgOK_less2 HHM.out hmem hlen)
      have HMD := hide' hmd
      have HZD : Hid (ZOk Q [] [] D') := ⟨HZ.out.q, (fun r h => by cases h), (fun r h => by cases h), fun r hr => HZ.out.d r (hmem r hr)⟩
      have HLND : Hid (Q.length ≤ maxLen ∧ ([] : List Rn).length ≤ maxLen ∧ ([] : List Rn).length ≤ maxLen ∧ D'.length ≤ maxLen) := ⟨HLN.out.1, Nat.zero_le _, Nat.zero_le _, Nat.le_trans hlen HLN.out.2.2.2⟩
      have HLr : Hid (LsAt wr q0 none none q Q [] [] D') := ⟨(HL.out.below HB.out).q, (fun k hk => absurd hk (Nat.not_lt_zero _)), (fun k hk => absurd hk (Nat.not_lt_zero _)), rsAt_ownW HO.out HNN.out, (HL.out.below HB.out).zqs, (fun r h => by cases h), (fun r h => by cases h), fun r hr => (HL.out.below HB.out).zds r (hmem r hr)⟩
      have HNq : Hid (q = none → c = 0) := by obtain ⟨_, _, e, _, _, h⟩ := own_shape HO.out; injection e with e1 _ e3; subst e1; subst e3; exact h
      have HBr := HB
      have HRr := HR
      have HYr := HY
      have HOr := HO
      obtain ⟨v0, v1, v2, v3, v4, v5, v6, v7, v8, v9, v10, v11, v12, v13⟩ := bx14 HYr.out
      obtain ⟨s, hs⟩ : ∃ s, (packS i0 i2 i9 b1 b3 true b5 b6 b7 b8 Q [] [] D').out.size = s := ⟨_, rfl⟩
      have HSZ := hide' hs
      have hok := okD_pack (most := most) (b1 := b1) (b3 := b3) (b4 := true) (b5 := b5) (b6 := b6) (b7 := b7) (b8 := b8) hmd (by omega : most ≤ 65535)
      rw [hs] at hok
      have hcut2 := hcut
      rw [dropF_zero, hD'] at hcut2
      have HDD : Hid (dropF D 0 = D') := by unfold Hid; rw [dropF_zero]; exact hD'
      clear hmd hmem hlen hD' hs
      have hsm : ((s : Nat) : Int) ≤ most := hok.1 hcut2
      have HBG : Hid (¬ 65535 < s) := by unfold Hid; omega
      have hlim : decide ((s : Int) ≤ limit) = true := decide_eq_true (by omega)
      clear hok hcut2 hsm
      go_wp2_with (go_at_call 7; refine Calls.mono (show Calls Tryz.prog 7 _ _ (packE (packS i0 i2 i9 b1 b3 true b5 b6 b7 b8 Q [] [] D') wr) from (by have := refPack_yes i0 i2 i9 b1 b3 true b5 b6 b7 b8 q0 none none q qc 0 0 c Q [] [] D' wr HLr.out HZD.out ⟨fun _ => rfl, fun _ => rfl, HNq.out⟩ HLND.out HMD.out; rw [← HNN.out] at this; exact this)) ?_; rintro e w4 ⟨hh, hB⟩; rw [HSZ.out] at hh; rw [if_neg HBG.out] at hh; obtain ⟨pb, cb, rfl, _⟩ := hh; have HB4 := hide' (bstep HBr.out hB HBr.out.size); have HR4 : Hid (Bx w4 (w.heap.size + 1) #[.int .i64 0, .bool false, .int .i64 0, .bool false, .bool false, .bool false, .bool false, .bool false, .bool false, .int .i64 0, .slice none 0 0, .slice none 0 0, .slice none 0 0, .slice none 0 0] 25) := HRr.out.below hB HRr.out.lt; have HY4 : Hid (Bx w4 X #[.int .i64 (i0 : Int), .bool b1, .int .i64 (i2 : Int), .bool b3, .bool true, .bool b5, .bool b6, .bool b7, .bool b8, .int .i64 (i9 : Int), .slice q0 Q.length qc, .slice none 0 0, .slice none 0 0, .slice q N c] 25) := HYr.out.below hB HYr.out.lt; have HO4 := hide' (own_below HOr.out hB); clear hB v0 v1 v2 v3 v4 v5 v6 v7 v8 v9 v10 v11 v12 v13; obtain ⟨v0, v1, v2, v3, v4, v5, v6, v7, v8, v9, v10, v11, v12, v13⟩ := bx14 HY4.out; obtain ⟨r0, r1, r2, r3, r4, r5, r6, r7, r8, r9, r10, r11, r12, r13⟩ := bx14 HR4.out; obtain ⟨f0, f1, f2, f3, f4, f5, f6, f7, f8, f9, f10, f11, f12, f13⟩ := bx14_free2 HR4.out)
      have HF : Hid (FmC i0 i2 i9 b1 b3 b5 b6 b7 b8 q0 qc Q (dropF D 0) w (.returned (.tuple #[.agg #[.int .i64 (i0 : Int), .bool b1, .int .i64 (i2 : Int), .bool b3, .bool true, .bool b5, .bool b6, .bool b7, .bool b8, .int .i64 (i9 : Int), .slice q0 Q.length qc, .slice none 0 0, .slice none 0 0, .slice q N c], .int .i64 0])) (set14 w4 (w.heap.size + 1) (.int .i64 (i0 : Int)) (.bool b1) (.int .i64 (i2 : Int)) (.bool b3) (.bool true) (.bool b5) (.bool b6) (.bool b7) (.bool b8) (.int .i64 (i9 : Int)) (.slice q0 Q.length qc) (.slice none 0 0) (.slice none 0 0) (.slice q N c))) := by
        have ho := own_keepB HO4.out (grown14b w4 (w.heap.size + 1) (.int .i64 (i0 : Int)) (.bool b1) (.int .i64 (i2 : Int)) (.bool b3) (.bool true) (.bool b5) (.bool b6) (.bool b7) (.bool b8) (.int .i64 (i9 : Int)) (.slice q0 Q.length qc) (.slice none 0 0) (.slice none 0 0) (.slice q N c)) (by have := HX2.out; omega)
        rw [HNN.out] at ho ⊢
        rw [HDD.out]
        exact ⟨q, c, rfl, own_lowW ho (by have := HX2.out; omega), below14 HB4.out (by omega) HB4.out.size _ _ _ _ _ _ _ _ _ _ _ _ _ _⟩
      obtain ⟨t0, t1, t2, t3, t4, t5, t6, t7, t8, t9, t10, t11, t12, t13⟩ := bx14 (bx14_set HR4.out (.int .i64 (i0 : Int)) (.bool b1) (.int .i64 (i2 : Int)) (.bool b3) (.bool true) (.bool b5) (.bool b6) (.bool b7) (.bool b8) (.int .i64 (i9 : Int)) (.slice q0 Q.length qc) (.slice none 0 0) (.slice none 0 0) (.slice q N c))
      unfold set14 at t0 t1 t2 t3 t4 t5 t6 t7 t8 t9 t10 t11 t12 t13
      exact bodyPost_ret (v := .tuple #[.agg #[.int .i64 (i0 : Int), .bool b1, .int .i64 (i2 : Int), .bool b3, .bool true, .bool b5, .bool b6, .bool b7, .bool b8, .int .i64 (i9 : Int), .slice q0 Q.length qc, .slice none 0 0, .slice none 0 0, .slice q N c], .int .i64 0]) (by simp [results, go_sem, t0, t1, t2, t3, t4, t5, t6, t7, t8, t9, t10, t11, t12, t13]) rfl HF.out
set_option maxRecDepth 100000 in
set_option maxHeartbeats 16000000 in
theorem fm_tail_none (i0 i2 i9 : Nat) (b1 b3 b4 b5 b6 b7 b8 : Bool) (q0 a0 u0 d0 : Option Addr) (qc ac uc dc : Nat) (Q : List Qn) (A U D : List Rn) (limit : Int) (w : World) (HL : Hid (LsAt w q0 a0 u0 d0 Q A U D)) (HZ : Hid (ZOk Q A U D)) (HHM : Hid (msgOK i0 i2 i9 Q A U D = true)) (HLN : Hid (Q.length ≤ maxLen ∧ A.length ≤ maxLen ∧ U.length ≤ maxLen ∧ D.length ≤ maxLen)) (HLD : Hid (D.length ≤ 65535)) (X : Nat) (wa : World) (HBa : Hid (Below w.heap.size w wa)) (HXa : Hid (Bx wa w.heap.size #[.int .i64 (i0 : Int), .bool b1, .int .i64 (i2 : Int), .bool b3, .bool b4, .bool b5, .bool b6, .bool b7, .bool b8, .int .i64 (i9 : Int), .slice q0 Q.length qc, .slice a0 A.length ac, .slice u0 U.length uc, .slice d0 D.length dc] 25)) (HRa : Hid (Bx wa (w.heap.size + 1) #[.int .i64 0, .bool false, .int .i64 0, .bool false, .bool false, .bool false, .bool false, .bool false, .bool false, .int .i64 0, .slice none 0 0, .slice none 0 0, .slice none 0 0, .slice none 0 0] 25)) (HYa : Hid (Bx wa X #[.int .i64 (i0 : Int), .bool b1, .int .i64 (i2 : Int), .bool b3, .bool b4, .bool b5, .bool b6, .bool b7, .bool b8, .int .i64 (i9 : Int), .slice q0 Q.length qc, .slice a0 A.length ac, .slice u0 U.length uc, .slice d0 D.length dc] 25)) (HX2 : Hid (w.heap.size + 2 ≤ X)) (most : Int) (hmo : min limit 65535 = most) (hcut : ¬ okD most i0 i2 i9 b1 b3 true b5 b6 b7 b8 Q [] [] (dropF D 0)) (x0 x3 x5 x6 x7 x8 x9 x10 x11 x13 x14 x15 x16 x17 x18 x19 x20 x21 x22 x23 x24 x25 x26 x27 x28 x29 x30 x31 x32 x33 x34 x35 x36 x37 x38 x39 x40 x41 x42 x43 x44 x45 x46 x47 x48 x49 x50 x51 x52 x53 x54 x55 x56 x57 x58 x59 x60 x61 x62 x63 x64 x65 x66 x67 x68 x69 x70 x71 x72 x73 x74 x75 x76 x77 x78 x79 x80 x81 x82 x83 x84 x85 : Value) :
    Code.wp Tryz.prog (((Tryz.f13.body.map (tailsN 12)).getD []).getD 0 .skip) (bodyPost Tryz.prog Tryz.f13 (fun e w' => e = .returned (.tuple #[.agg #[.int .i64 0, .bool false, .int .i64 0, .bool false, .bool false, .bool false, .bool false, .bool false, .bool false, .int .i64 0, .slice none 0 0, .slice none 0 0, .slice none 0 0, .slice none 0 0], .int .i64 12]) ∧ Below w.heap.size w w')) ⟨List.toArray (x0 :: (.int .i64 limit : Value) :: (.pointer (some ⟨w.heap.size, 0, none⟩) : Value) :: x3 :: (.pointer (some ⟨w.heap.size + 1, 0, none⟩) : Value) :: x5 :: x6 :: x7 :: x8 :: x9 :: x10 :: x11 :: (.pointer (some ⟨X, 0, none⟩) : Value) :: x13 :: x14 :: x15 :: x16 :: x17 :: x18 :: x19 :: x20 :: x21 :: x22 :: x23 :: x24 :: x25 :: x26 :: x27 :: x28 :: x29 :: x30 :: x31 :: x32 :: x33 :: x34 :: x35 :: x36 :: x37 :: x38 :: x39 :: x40 :: x41 :: x42 :: x43 :: x44 :: x45 :: x46 :: x47 :: x48 :: x49 :: x50 :: x51 :: x52 :: x53 :: x54 :: x55 :: x56 :: x57 :: x58 :: x59 :: x60 :: x61 :: x62 :: x63 :: x64 :: x65 :: x66 :: x67 :: x68 :: x69 :: x70 :: x71 :: x72 :: x73 :: x74 :: x75 :: x76 :: x77 :: x78 :: x79 :: x80 :: x81 :: x82 :: x83 :: x84 :: x85 :: []), []⟩ wa := by
  obtain ⟨y0, y1, y2, y3, y4, y5, y6, y7, y8, y9, y10, y11, y12, y13⟩ := bx14 HYa.out
  obtain ⟨f0, f1, f2, f3, f4, f5, f6, f7, f8, f9, f10, f11, f12, f13⟩ := bx14_free2 HYa.out
  have z13 : wa.cell? ⟨w.heap.size, 13, none⟩ = some (.slice d0 D.length dc) := HXa.out.cell rfl
  obtain ⟨wb, hwb⟩ : ∃ wb, (((wa.setCell ⟨X, 11, none⟩ (.slice none 0 0)).setCell ⟨X, 12, none⟩ (.slice none 0 0)).setCell ⟨X, 4, none⟩ (.bool true)).setCell ⟨X, 13, none⟩ (.slice none 0 0) = wb := ⟨_, rfl⟩
  have hgb : wa.grownBy wb (some X) := hwb ▸ grown_trans (grown_trans (grown_trans (grown_set _ X 11 _) (grown_set _ X 12 _)) (grown_set _ X 4 _)) (grown_set _ X 13 _)
  have HYb : Hid (Bx wb X #[.int .i64 (i0 : Int), .bool b1, .int .i64 (i2 : Int), .bool b3, .bool true, .bool b5, .bool b6, .bool b7, .bool b8, .int .i64 (i9 : Int), .slice q0 Q.length qc, .slice none 0 0, .slice none 0 0, .slice none 0 0] 25) := hwb ▸ ((((HYa.out.set 11 (.slice none 0 0)).set 12 (.slice none 0 0)).set 4 (.bool true)).set 13 (.slice none 0 0))
  have HXb : Hid (Bx wb w.heap.size #[.int .i64 (i0 : Int), .bool b1, .int .i64 (i2 : Int), .bool b3, .bool b4, .bool b5, .bool b6, .bool b7, .bool b8, .int .i64 (i9 : Int), .slice q0 Q.length qc, .slice a0 A.length ac, .slice u0 U.length uc, .slice d0 D.length dc] 25) := HXa.out.grown hgb (fun e => by injection e with e; have := HX2.out; omega)
  have HRb : Hid (Bx wb (w.heap.size + 1) #[.int .i64 0, .bool false, .int .i64 0, .bool false, .bool false, .bool false, .bool false, .bool false, .bool false, .int .i64 0, .slice none 0 0, .slice none 0 0, .slice none 0 0, .slice none 0 0] 25) := HRa.out.grown hgb (fun e => by injection e with e; have := HX2.out; omega)
  have HBb : Hid (Below w.heap.size w wb) := HBa.out.grown hgb HBa.out.size (fun q e => by injection e with e; have := HX2.out; omega)
  have zb13 : wb.cell? ⟨w.heap.size, 13, none⟩ = some (.slice d0 D.length dc) := HXb.out.cell rfl
  clear hgb
  conv => arg 2; whnf
  go_wp2_with fail
  clear y0 y1 y2 y3 y4 y5 y6 y7 y8 y9 y10 y11 y12 y13 f0 f1 f2 f3 f4 f5 f6 f7 f8 f9 f10 f11 f12 f13 z13 zb13 hwb
  go_loopw [57] (fun iv wr => ∃ (k N : Nat) (q : Option Addr) (c : Nat), iv = .int .i64 (k : Int) ∧ k ≤ D.length ∧ N ≤ k ∧ Hid (N = (kp (D.take k)).length) ∧ Hid (wr.ownsRow (X + 1) 59 5 (.slice q N c) N (rce5 (kp (D.take k)))) ∧ Hid (Bx wr X #[.int .i64 (i0 : Int), .bool b1, .int .i64 (i2 : Int), .bool b3, .bool true, .bool b5, .bool b6, .bool b7, .bool b8, .int .i64 (i9 : Int), .slice q0 Q.length qc, .slice none 0 0, .slice none 0 0, .slice q N c] 25) ∧ Hid (Bx wr w.heap.size #[.int .i64 (i0 : Int), .bool b1, .int .i64 (i2 : Int), .bool b3, .bool b4, .bool b5, .bool b6, .bool b7, .bool b8, .int .i64 (i9 : Int), .slice q0 Q.length qc, .slice a0 A.length ac, .slice u0 U.length uc, .slice d0 D.length dc] 25) ∧ Hid (Bx wr (w.heap.size + 1) #[.int .i64 0, .bool false, .int .i64 0, .bool false, .bool false, .bool false, .bool false, .bool false, .bool false, .int .i64 0, .slice none 0 0, .slice none 0 0, .slice none 0 0, .slice none 0 0] 25) ∧ Hid (Below w.heap.size w wr)) (fun iv _ => D.length - (intOf iv).toNat)
  case atStart => exact ⟨0, 0, none, 0, rfl, Nat.zero_le _, Nat.le_refl _, by simp [Hid, kp], by unfold Hid; simp only [List.take_zero]; exact World.ownsRow_nil _ _ _ _, HYb, HXb, HRb, HBb⟩
  case round =>
    obtain ⟨k, N, q, c, rfl, hk, hNk, HN, HO, HY, HX, HR, HB⟩ := hrel
    by_cases hlt : k < D.length
    · have hat := (HL.out.below HB.out).d k hlt
      obtain ⟨g, off, rfl, hg, e0, e1, e2, e3, e4⟩ := hat
      obtain ⟨x, hx⟩ : ∃ x, D[k] = x := ⟨_, rfl⟩
      have HKT := hide' (kp_take hlt)
      rw [hx] at e0 e1 e2 e3 e4 HKT
      clear hx
      obtain ⟨xo, xt, xc, xl, xd⟩ := x
      simp only at e0 e1 e2 e3 e4
      have hkk := HLD.out
      obtain ⟨wy, hwy⟩ : ∃ wy, wr.alloc (.cells #[.string xo, .int .i64 xt, .int .i64 xc, .int .i64 xl, .string xd] 59) = wy := ⟨_, rfl⟩
      have hry : Below wr.heap.size wr wy := hwy ▸ (Below.refl _ wr).alloc (Nat.le_refl _) _
      have HBy : Bx wy wr.heap.size #[.string xo, .int .i64 xt, .int .i64 xc, .int .i64 xl, .string xd] 59 := hwy ▸ World.alloc_heap_new wr _
      have c0 : wy.cell? ⟨wr.heap.size, 0, none⟩ = some (.string xo) := HBy.cell rfl
      have c1 : wy.cell? ⟨wr.heap.size, 1, none⟩ = some (.int .i64 xt) := HBy.cell rfl
      have c2 : wy.cell? ⟨wr.heap.size, 2, none⟩ = some (.int .i64 xc) := HBy.cell rfl
      have c3 : wy.cell? ⟨wr.heap.size, 3, none⟩ = some (.int .i64 xl) := HBy.cell rfl
      have c4 : wy.cell? ⟨wr.heap.size, 4, none⟩ = some (.string xd) := HBy.cell rfl
      have HOy := hide' (own_below HO.out hry)
      have HYy : Hid (Bx wy X #[.int .i64 (i0 : Int), .bool b1, .int .i64 (i2 : Int), .bool b3, .bool true, .bool b5, .bool b6, .bool b7, .bool b8, .int .i64 (i9 : Int), .slice q0 Q.length qc, .slice none 0 0, .slice none 0 0, .slice q N c] 25) := HY.out.below hry HY.out.lt
      have HXy : Hid (Bx wy w.heap.size #[.int .i64 (i0 : Int), .bool b1, .int .i64 (i2 : Int), .bool b3, .bool b4, .bool b5, .bool b6, .bool b7, .bool b8, .int .i64 (i9 : Int), .slice q0 Q.length qc, .slice a0 A.length ac, .slice u0 U.length uc, .slice (some ⟨g, off, none⟩) D.length dc] 25) := HX.out.below hry HX.out.lt
      have HRy : Hid (Bx wy (w.heap.size + 1) #[.int .i64 0, .bool false, .int .i64 0, .bool false, .bool false, .bool false, .bool false, .bool false, .bool false, .int .i64 0, .slice none 0 0, .slice none 0 0, .slice none 0 0, .slice none 0 0] 25) := HR.out.below hry HR.out.lt
      have HB2 := hide' (bstep HB.out hry HB.out.size)
      have d13 : wy.cell? ⟨X, 13, none⟩ = some (.slice q N c) := HYy.out.cell rfl
      clear HBy
      by_cases hp : xt = 41
      · subst hp
        have k1 : kp [(⟨xo, 41, xc, xl, xd⟩ : Rn)] = [⟨xo, 41, xc, xl, xd⟩] := rfl
        rw [k1] at HKT
        obtain ⟨ws, hws⟩ : ∃ ws, wy.alloc (.cells #[.string xo, .int .i64 41, .int .i64 xc, .int .i64 xl, .string xd] 59) = ws := ⟨_, rfl⟩
        have hys : Below wy.heap.size wy ws := hws ▸ (Below.refl _ wy).alloc (Nat.le_refl _) _
        have HOs := hide' (own_below HOy.out hys)
        have HR1 : Hid (RsAt ws (some ⟨wy.heap.size, 0, none⟩) [⟨xo, 41, xc, xl, xd⟩]) := rsAt_ownW (hws ▸ one_row wy 0 (Nat.zero_le _) xo xd 41 xc xl) rfl
        have HYs : Hid (Bx ws X #[.int .i64 (i0 : Int), .bool b1, .int .i64 (i2 : Int), .bool b3, .bool true, .bool b5, .bool b6, .bool b7, .bool b8, .int .i64 (i9 : Int), .slice q0 Q.length qc, .slice none 0 0, .slice none 0 0, .slice q N c] 25) := HYy.out.below hys HYy.out.lt
        have HXs : Hid (Bx ws w.heap.size #[.int .i64 (i0 : Int), .bool b1, .int .i64 (i2 : Int), .bool b3, .bool b4, .bool b5, .bool b6, .bool b7, .bool b8, .int .i64 (i9 : Int), .slice q0 Q.length qc, .slice a0 A.length ac, .slice u0 U.length uc, .slice (some ⟨g, off, none⟩) D.length dc] 25) := HXy.out.below hys HXy.out.lt
        have HRs : Hid (Bx ws (w.heap.size + 1) #[.int .i64 0, .bool false, .int .i64 0, .bool false, .bool false, .bool false, .bool false, .bool false, .bool false, .int .i64 0, .slice none 0 0, .slice none 0 0, .slice none 0 0, .slice none 0 0] 25) := HRy.out.below hys HRy.out.lt
        have HBs := hide' (bstep HB2.out hys HB2.out.size)
        have HSX : Hid (X + 1 ≤ ws.heap.size) := HYs.out.lt
        clear hys hry
        go_wp2_with (at_builtin; refine wpList_append_recs rfl _ _ rfl (X + 1) (.slice q N c) N (rce5 (kp (D.take k))) rfl HOs.out (some ⟨wy.heap.size, 0, none⟩) [⟨xo, 41, xc, xl, xd⟩] 1 rfl HR1.out (fun e => by cases e) (by have := HLD.out; simp; omega) HSX.out ?_; intro v5 w5 ho5 hg5; rw [← rce5_app, ← HKT.out] at ho5; have HL5 : Hid (X + 1 ≤ ws.heap.size ∧ ∀ z, (Value.slice q N c).ownBlock = some z → X + 1 ≤ z) := ⟨HSX.out, fun z e => (HOs.out.lt z e).1⟩; have HY5 : Hid (Bx w5 X #[.int .i64 (i0 : Int), .bool b1, .int .i64 (i2 : Int), .bool b3, .bool true, .bool b5, .bool b6, .bool b7, .bool b8, .int .i64 (i9 : Int), .slice q0 Q.length qc, .slice none 0 0, .slice none 0 0, .slice q N c] 25) := HYs.out.grown hg5 (fun e => by have := HL5.out.2 X e; omega); have HX5 : Hid (Bx w5 w.heap.size #[.int .i64 (i0 : Int), .bool b1, .int .i64 (i2 : Int), .bool b3, .bool b4, .bool b5, .bool b6, .bool b7, .bool b8, .int .i64 (i9 : Int), .slice q0 Q.length qc, .slice a0 A.length ac, .slice u0 U.length uc, .slice (some ⟨g, off, none⟩) D.length dc] 25) := HXs.out.grown hg5 (fun e => by have := HL5.out.2 _ e; have := HX2.out; omega); have HR5 : Hid (Bx w5 (w.heap.size + 1) #[.int .i64 0, .bool false, .int .i64 0, .bool false, .bool false, .bool false, .bool false, .bool false, .bool false, .int .i64 0, .slice none 0 0, .slice none 0 0, .slice none 0 0, .slice none 0 0] 25) := HRs.out.grown hg5 (fun e => by have := HL5.out.2 _ e; have := HX2.out; omega); have HB5 := hide' (HBs.out.grown hg5 HBs.out.size (fun z e => by have := HL5.out.2 z e; have := HX2.out; omega)); obtain ⟨q5, c5, rfl, _⟩ := own_shape ho5; have HO5 := hide' ho5; have g13 : w5.cell? ⟨X, 13, none⟩ = some (.slice q N c) := HY5.out.cell rfl; have h13 := HY5.out.free 13; clear ho5 hg5)
        have hg6 := grown_set w5 X 13 (.slice q5 (N + 1) c5)
        have HN5 : Hid (N + 1 = (kp (D.take (k + 1))).length) := by unfold Hid; rw [HKT.out, List.length_append, ← HN.out]; rfl
        refine ⟨⟨k + 1, N + 1, q5, c5, by go_num, by omega, by omega, HN5, own_keepB HO5.out hg6 (Nat.lt_succ_self X), HY5.out.set 13 _, HX5.out.grown hg6 (fun e => by injection e with e; have := HX2.out; omega), HR5.out.grown hg6 (fun e => by injection e with e; have := HX2.out; omega), HB5.out.grown hg6 HB5.out.size (fun z e => by injection e with e; have := HX2.out; omega)⟩, ?_⟩
        simp [intOf]; omega
      · have k1 : kp [(⟨xo, xt, xc, xl, xd⟩ : Rn)] = [] := by simp [kp, plR, hp]
        rw [k1, List.append_nil] at HKT
        have hp2 : decide (xt = 41) = false := decide_eq_false hp
        have hp3 : (xt == 41) = false := by simpa using hp
        clear hry
        go_wp2_with fail
        refine ⟨⟨k + 1, N, q, c, by go_num, by omega, by omega, by unfold Hid; rw [HKT.out]; exact HN.out, by unfold Hid; rw [HKT.out]; exact HOy.out, HYy, HXy, HRy, HB2⟩, ?_⟩
        simp [intOf]; omega
    · obtain rfl : k = D.length := by omega
      obtain ⟨D', hD'⟩ : ∃ D', kp D = D' := ⟨_, rfl⟩
      rw [List.take_length, hD'] at HN HO
      have HNN := hide' HN.out
      have hmem : ∀ r ∈ D', r ∈ D := fun r hr => (List.mem_filter.1 (hD' ▸ hr : r ∈ kp D)).1
      have hlen : D'.length ≤ D.length := hD' ▸ kp_le D
      have hmd : msgOK i0 i2 i9 Q [] [] D' = true := msgOK_none2 (msgOK_less2 HHM.out hmem hlen)
      have HMD := hide' hmd
      have HZD : Hid (ZOk Q [] [] D') := ⟨HZ.out.q, (fun r h => by cases h), (fun r h => by cases h), fun r hr => HZ.out.d r (hmem r hr)⟩
      have HLND : Hid (Q.length ≤ maxLen ∧ ([] : List Rn).length ≤ maxLen ∧ ([] : List Rn).length ≤ maxLen ∧ D'.length ≤ maxLen) := ⟨HLN.out.1, Nat.zero_le _, Nat.zero_le _, Nat.le_trans hlen HLN.out.2.2.2⟩
      have HLr : Hid (LsAt wr q0 none none q Q [] [] D') := ⟨(HL.out.below HB.out).q, (fun k hk => absurd hk (Nat.not_lt_zero _)), (fun k hk => absurd hk (Nat.not_lt_zero _)), rsAt_ownW HO.out HNN.out, (HL.out.below HB.out).zqs, (fun r h => by cases h), (fun r h => by cases h), fun r hr => (HL.out.below HB.out).zds r (hmem r hr)⟩
      have HNq : Hid (q = none → c = 0) := by obtain ⟨_, _, e, _, _, h⟩ := own_shape HO.out; injection e with e1 _ e3; subst e1; subst e3; exact h
      have HBr := HB
      have HRr := HR
      have HYr := HY
      have HOr := HO
      obtain ⟨v0, v1, v2, v3, v4, v5, v6, v7, v8, v9, v10, v11, v12, v13⟩ := bx14 HYr.out
      obtain ⟨s, hs⟩ : ∃ s, (packS i0 i2 i9 b1 b3 true b5 b6 b7 b8 Q [] [] D').out.size = s := ⟨_, rfl⟩
      have HSZ := hide' hs
      have hok := okD_pack (most := most) (b1 := b1) (b3 := b3) (b4 := true) (b5 := b5) (b6 := b6) (b7 := b7) (b8 := b8) hmd (by omega : most ≤ 65535)
      rw [hs] at hok
      have hcut2 := hcut
      rw [dropF_zero, hD'] at hcut2
      have HDD : Hid (dropF D 0 = D') := by unfold Hid; rw [dropF_zero]; exact hD'
      clear hmd hmem hlen hD' hs
      have hns : ¬ ((s : Nat) : Int) ≤ most := fun h => hcut2 (hok.2 h)
      clear hok hcut2
      by_cases hbig : 65535 < s
      · have HBG := hide' hbig
        clear hbig hns
        go_wp2_with (go_at_call 7; refine Calls.mono (show Calls Tryz.prog 7 _ _ (packE (packS i0 i2 i9 b1 b3 true b5 b6 b7 b8 Q [] [] D') wr) from (by have := refPack_yes i0 i2 i9 b1 b3 true b5 b6 b7 b8 q0 none none q qc 0 0 c Q [] [] D' wr HLr.out HZD.out ⟨fun _ => rfl, fun _ => rfl, HNq.out⟩ HLND.out HMD.out; rw [← HNN.out] at this; exact this)) ?_; rintro e w4 ⟨hh, hB⟩; rw [HSZ.out] at hh; rw [if_pos HBG.out] at hh; subst hh; have HB4 := hide' (bstep HBr.out hB HBr.out.size); have HR4 : Hid (Bx w4 (w.heap.size + 1) #[.int .i64 0, .bool false, .int .i64 0, .bool false, .bool false, .bool false, .bool false, .bool false, .bool false, .int .i64 0, .slice none 0 0, .slice none 0 0, .slice none 0 0, .slice none 0 0] 25) := HRr.out.below hB HRr.out.lt; have HY4 : Hid (Bx w4 X #[.int .i64 (i0 : Int), .bool b1, .int .i64 (i2 : Int), .bool b3, .bool true, .bool b5, .bool b6, .bool b7, .bool b8, .int .i64 (i9 : Int), .slice q0 Q.length qc, .slice none 0 0, .slice none 0 0, .slice q N c] 25) := HYr.out.below hB HYr.out.lt; have HO4 := hide' (own_below HOr.out hB); clear hB v0 v1 v2 v3 v4 v5 v6 v7 v8 v9 v10 v11 v12 v13; obtain ⟨v0, v1, v2, v3, v4, v5, v6, v7, v8, v9, v10, v11, v12, v13⟩ := bx14 HY4.out; obtain ⟨r0, r1, r2, r3, r4, r5, r6, r7, r8, r9, r10, r11, r12, r13⟩ := bx14 HR4.out; obtain ⟨f0, f1, f2, f3, f4, f5, f6, f7, f8, f9, f10, f11, f12, f13⟩ := bx14_free2 HR4.out)
        have HF : Hid ((.returned (.tuple #[.agg #[.int .i64 0, .bool false, .int .i64 0, .bool false, .bool false, .bool false, .bool false, .bool false, .bool false, .int .i64 0, .slice none 0 0, .slice none 0 0, .slice none 0 0, .slice none 0 0], .int .i64 12]) : Ending) = .returned (.tuple #[.agg #[.int .i64 0, .bool false, .int .i64 0, .bool false, .bool false, .bool false, .bool false, .bool false, .bool false, .int .i64 0, .slice none 0 0, .slice none 0 0, .slice none 0 0, .slice none 0 0], .int .i64 12]) ∧ Below w.heap.size w (set14 w4 (w.heap.size + 1) (.int .i64 0) (.bool false) (.int .i64 0) (.bool false) (.bool false) (.bool false) (.bool false) (.bool false) (.bool false) (.int .i64 0) (.slice none 0 0) (.slice none 0 0) (.slice none 0 0) (.slice none 0 0))) := ⟨rfl, below14 HB4.out (by omega) HB4.out.size _ _ _ _ _ _ _ _ _ _ _ _ _ _⟩
        obtain ⟨t0, t1, t2, t3, t4, t5, t6, t7, t8, t9, t10, t11, t12, t13⟩ := bx14 (bx14_set HR4.out (.int .i64 0) (.bool false) (.int .i64 0) (.bool false) (.bool false) (.bool false) (.bool false) (.bool false) (.bool false) (.int .i64 0) (.slice none 0 0) (.slice none 0 0) (.slice none 0 0) (.slice none 0 0))
        unfold set14 at t0 t1 t2 t3 t4 t5 t6 t7 t8 t9 t10 t11 t12 t13
        exact bodyPost_ret (v := .tuple #[.agg #[.int .i64 0, .bool false, .int .i64 0, .bool false, .bool false, .bool false, .bool false, .bool false, .bool false, .int .i64 0, .slice none 0 0, .slice none 0 0, .slice none 0 0, .slice none 0 0], .int .i64 12]) (by simp [results, go_sem, t0, t1, t2, t3, t4, t5, t6, t7, t8, t9, t10, t11, t12, t13]) rfl HF.out
      · have HBG := hide' hbig
        have hlim : decide ((s : Int) ≤ limit) = false := decide_eq_false (by omega)
        clear hbig hns
        go_wp2_with (go_at_call 7; refine Calls.mono (show Calls Tryz.prog 7 _ _ (packE (packS i0 i2 i9 b1 b3 true b5 b6 b7 b8 Q [] [] D') wr) from (by have := refPack_yes i0 i2 i9 b1 b3 true b5 b6 b7 b8 q0 none none q qc 0 0 c Q [] [] D' wr HLr.out HZD.out ⟨fun _ => rfl, fun _ => rfl, HNq.out⟩ HLND.out HMD.out; rw [← HNN.out] at this; exact this)) ?_; rintro e w4 ⟨hh, hB⟩; rw [HSZ.out] at hh; rw [if_neg HBG.out] at hh; obtain ⟨pb, cb, rfl, _⟩ := hh; have HB4 := hide' (bstep HBr.out hB HBr.out.size); have HR4 : Hid (Bx w4 (w.heap.size + 1) #[.int .i64 0, .bool false, .int .i64 0, .bool false, .bool false, .bool false, .bool false, .bool false, .bool false, .int .i64 0, .slice none 0 0, .slice none 0 0, .slice none 0 0, .slice none 0 0] 25) := HRr.out.below hB HRr.out.lt; have HY4 : Hid (Bx w4 X #[.int .i64 (i0 : Int), .bool b1, .int .i64 (i2 : Int), .bool b3, .bool true, .bool b5, .bool b6, .bool b7, .bool b8, .int .i64 (i9 : Int), .slice q0 Q.length qc, .slice none 0 0, .slice none 0 0, .slice q N c] 25) := HYr.out.below hB HYr.out.lt; have HO4 := hide' (own_below HOr.out hB); clear hB v0 v1 v2 v3 v4 v5 v6 v7 v8 v9 v10 v11 v12 v13; obtain ⟨v0, v1, v2, v3, v4, v5, v6, v7, v8, v9, v10, v11, v12, v13⟩ := bx14 HY4.out; obtain ⟨r0, r1, r2, r3, r4, r5, r6, r7, r8, r9, r10, r11, r12, r13⟩ := bx14 HR4.out; obtain ⟨f0, f1, f2, f3, f4, f5, f6, f7, f8, f9, f10, f11, f12, f13⟩ := bx14_free2 HR4.out)
        have HF : Hid ((.returned (.tuple #[.agg #[.int .i64 0, .bool false, .int .i64 0, .bool false, .bool false, .bool false, .bool false, .bool false, .bool false, .int .i64 0, .slice none 0 0, .slice none 0 0, .slice none 0 0, .slice none 0 0], .int .i64 12]) : Ending) = .returned (.tuple #[.agg #[.int .i64 0, .bool false, .int .i64 0, .bool false, .bool false, .bool false, .bool false, .bool false, .bool false, .int .i64 0, .slice none 0 0, .slice none 0 0, .slice none 0 0, .slice none 0 0], .int .i64 12]) ∧ Below w.heap.size w (set14 w4 (w.heap.size + 1) (.int .i64 0) (.bool false) (.int .i64 0) (.bool false) (.bool false) (.bool false) (.bool false) (.bool false) (.bool false) (.int .i64 0) (.slice none 0 0) (.slice none 0 0) (.slice none 0 0) (.slice none 0 0))) := ⟨rfl, below14 HB4.out (by omega) HB4.out.size _ _ _ _ _ _ _ _ _ _ _ _ _ _⟩
        obtain ⟨t0, t1, t2, t3, t4, t5, t6, t7, t8, t9, t10, t11, t12, t13⟩ := bx14 (bx14_set HR4.out (.int .i64 0) (.bool false) (.int .i64 0) (.bool false) (.bool false) (.bool false) (.bool false) (.bool false) (.bool false) (.int .i64 0) (.slice none 0 0) (.slice none 0 0) (.slice none 0 0) (.slice none 0 0))
        unfold set14 at t0 t1 t2 t3 t4 t5 t6 t7 t8 t9 t10 t11 t12 t13
        exact bodyPost_ret (v := .tuple #[.agg #[.int .i64 0, .bool false, .int .i64 0, .bool false, .bool false, .bool false, .bool false, .bool false, .bool false, .int .i64 0, .slice none 0 0, .slice none 0 0, .slice none 0 0, .slice none 0 0], .int .i64 12]) (by simp [results, go_sem, t0, t1, t2, t3, t4, t5, t6, t7, t8, t9, t10, t11, t12, t13]) rfl HF.out
set_option maxRecDepth 100000 in
set_option maxHeartbeats 16000000 in
theorem fitm_cut (i0 i2 i9 : Nat) (b1 b3 b4 b5 b6 b7 b8 : Bool) (q0 a0 u0 d0 : Option Addr) (qc ac uc dc : Nat) (Q : List Qn) (A U D : List Rn) (limit : Int) (w : World) (hl : LsAt w q0 a0 u0 d0 Q A U D) (hz : ZOk Q A U D) (hn : (a0 = none → ac = 0) ∧ (u0 = none → uc = 0) ∧ (d0 = none → dc = 0)) (hm : msgOK i0 i2 i9 Q A U D = true) (most : Int) (hmo : min limit 65535 = most) (hcut : okD most i0 i2 i9 b1 b3 true b5 b6 b7 b8 Q [] [] (dropF D 0)) (hall : ∀ j, j ≤ D.length → ¬ okD most i0 i2 i9 b1 b3 b4 b5 b6 b7 b8 Q A U (dropF D j)) :
    Calls Tryz.prog 13 #[.agg #[.int .i64 (i0 : Int), .bool b1, .int .i64 (i2 : Int), .bool b3, .bool b4, .bool b5, .bool b6, .bool b7, .bool b8, .int .i64 (i9 : Int), .slice q0 Q.length qc, .slice a0 A.length ac, .slice u0 U.length uc, .slice d0 D.length dc], .int .i64 limit] w (FmC i0 i2 i9 b1 b3 b5 b6 b7 b8 q0 qc Q (dropF D 0) w) := by
  obtain ⟨_, _, _, lq, la, lu, ld, _⟩ := msgOK_parts hm
  have hln : Q.length ≤ maxLen ∧ A.length ≤ maxLen ∧ U.length ≤ maxLen ∧ D.length ≤ maxLen := by unfold maxLen; omega
  obtain ⟨wz, hwz⟩ : ∃ wr, (w.alloc (.cells #[.int .i64 (i0 : Int), .bool b1, .int .i64 (i2 : Int), .bool b3, .bool b4, .bool b5, .bool b6, .bool b7, .bool b8, .int .i64 (i9 : Int), .slice q0 Q.length qc, .slice a0 A.length ac, .slice u0 U.length uc, .slice d0 D.length dc] 25)).alloc (.cells #[.int .i64 0, .bool false, .int .i64 0, .bool false, .bool false, .bool false, .bool false, .bool false, .bool false, .int .i64 0, .slice none 0 0, .slice none 0 0, .slice none 0 0, .slice none 0 0] 25) = wr := ⟨_, rfl⟩
  have HX : Hid (Bx wz w.heap.size #[.int .i64 (i0 : Int), .bool b1, .int .i64 (i2 : Int), .bool b3, .bool b4, .bool b5, .bool b6, .bool b7, .bool b8, .int .i64 (i9 : Int), .slice q0 Q.length qc, .slice a0 A.length ac, .slice u0 U.length uc, .slice d0 D.length dc] 25) := hwz ▸ Bx.grown (World.alloc_heap_new w _) (World.grownBy_alloc _ _ none) (by simp)
  have HR : Hid (Bx wz (w.heap.size + 1) #[.int .i64 0, .bool false, .int .i64 0, .bool false, .bool false, .bool false, .bool false, .bool false, .bool false, .int .i64 0, .slice none 0 0, .slice none 0 0, .slice none 0 0, .slice none 0 0] 25) := by
    have := World.alloc_heap_new (w.alloc (.cells #[.int .i64 (i0 : Int), .bool b1, .int .i64 (i2 : Int), .bool b3, .bool b4, .bool b5, .bool b6, .bool b7, .bool b8, .int .i64 (i9 : Int), .slice q0 Q.length qc, .slice a0 A.length ac, .slice u0 U.length uc, .slice d0 D.length dc] 25)) (.cells #[.int .i64 0, .bool false, .int .i64 0, .bool false, .bool false, .bool false, .bool false, .bool false, .bool false, .int .i64 0, .slice none 0 0, .slice none 0 0, .slice none 0 0, .slice none 0 0] 25)
    rw [World.size_alloc] at this
    rw [← hwz]
    exact this
  have HB : Hid (Below w.heap.size w wz) := by rw [← hwz]; exact ((Below.refl _ w).alloc (Nat.le_refl _) _).alloc (by simp) _
  have HC := hide' (refCheck_any (i0 : Int) (i2 : Int) (i9 : Int) b1 b3 b4 b5 b6 b7 b8 q0 a0 u0 d0 qc ac uc dc Q A U D wz (hl.below HB.out) hz hln)
  rw [hm] at HC
  obtain ⟨y0, y1, y2, y3, y4, y5, y6, y7, y8, y9, y10, y11, y12, y13⟩ := bx14 HX.out
  have HL := hide' hl
  have HZ := hide' hz
  have HN := hide' hn
  have HHM := hide' hm
  have HLN := hide' hln
  have HLD := hide' ld
  clear hl hz hn hm hln ld lq la lu
  go_enter Tryz.func13, Tryz.ntmps13
  go_wp2_with (go_at_call 11; refine HC.out.mono ?_; rintro e w1 ⟨rfl, hB⟩; have HB1 := hide' (bstep HB.out hB HB.out.size); have HX1 : Hid (Bx w1 w.heap.size #[.int .i64 (i0 : Int), .bool b1, .int .i64 (i2 : Int), .bool b3, .bool b4, .bool b5, .bool b6, .bool b7, .bool b8, .int .i64 (i9 : Int), .slice q0 Q.length qc, .slice a0 A.length ac, .slice u0 U.length uc, .slice d0 D.length dc] 25) := HX.out.below hB HX.out.lt; have HR1 : Hid (Bx w1 (w.heap.size + 1) #[.int .i64 0, .bool false, .int .i64 0, .bool false, .bool false, .bool false, .bool false, .bool false, .bool false, .int .i64 0, .slice none 0 0, .slice none 0 0, .slice none 0 0, .slice none 0 0] 25) := HR.out.below hB HR.out.lt; clear hB; unfold chkV; rw [if_pos rfl])
  clear y0 y1 y2 y3 y4 y5 y6 y7 y8 y9 y10 y11 y12 y13 HC HX HR HB hwz
  have HALL := hide' hall
  have HCUT := hide' hcut
  have hmo65 : most ≤ 65535 := by omega
  clear hall hcut
  go_loopw [6] (fun iv wr => ∃ k : Nat, iv = .int .i64 (k : Int) ∧ k ≤ cp D + 1 ∧ Hid (Below w.heap.size w wr) ∧ Hid (Bx wr w.heap.size #[.int .i64 (i0 : Int), .bool b1, .int .i64 (i2 : Int), .bool b3, .bool b4, .bool b5, .bool b6, .bool b7, .bool b8, .int .i64 (i9 : Int), .slice q0 Q.length qc, .slice a0 A.length ac, .slice u0 U.length uc, .slice d0 D.length dc] 25) ∧ Hid (Bx wr (w.heap.size + 1) #[.int .i64 0, .bool false, .int .i64 0, .bool false, .bool false, .bool false, .bool false, .bool false, .bool false, .int .i64 0, .slice none 0 0, .slice none 0 0, .slice none 0 0, .slice none 0 0] 25)) (fun iv _ => cp D + 2 - (intOf iv).toNat)
  case atStart => exact ⟨0, rfl, Nat.zero_le _, HB1, HX1, HR1⟩
  case round =>
    clear HB1 HX1 HR1
    obtain ⟨k, rfl, hk, HBr, HXr, HRr⟩ := hrel
    by_cases hlt : k ≤ cp D
    · obtain ⟨j, hj, hjk⟩ := cp_ex D k hlt
      have hno := HALL.out j hj
      obtain ⟨D', hD'⟩ : ∃ D', dropF D j = D' := ⟨_, rfl⟩
      have hmem : ∀ r ∈ D', r ∈ D := fun r hr => dropF_mem (hD' ▸ hr)
      have hlen : D'.length ≤ D.length := hD' ▸ dropF_le D j
      have hmd : msgOK i0 i2 i9 Q A U D' = true := msgOK_less2 HHM.out hmem hlen
      have HWO : Hid (woR D D.length k [] = (D', 0)) := by unfold Hid; rw [← hD', ← hjk]; exact woR_drop D j hj
      obtain ⟨N, hN⟩ : ∃ N, N = D'.length := ⟨_, rfl⟩
      have HNN := hide' hN
      have HMEM := hide' hmem
      have HMD := hide' hmd
      have HZD : Hid (ZOk Q A U D') := ⟨HZ.out.q, HZ.out.a, HZ.out.u, fun r hr => HZ.out.d r (hmem r hr)⟩
      have HLND : Hid (Q.length ≤ maxLen ∧ A.length ≤ maxLen ∧ U.length ≤ maxLen ∧ D'.length ≤ maxLen) := ⟨HLN.out.1, HLN.out.2.1, HLN.out.2.2.1, Nat.le_trans hlen HLN.out.2.2.2⟩
      obtain ⟨s, hs⟩ : ∃ s, (packS i0 i2 i9 b1 b3 b4 b5 b6 b7 b8 Q A U D').out.size = s := ⟨_, rfl⟩
      have HSZ := hide' hs
      have hk16 : k ≤ 65536 := by have := HLD.out; have := cp_le D; omega
      have y13 : wr.cell? ⟨w.heap.size, 13, none⟩ = some (.slice d0 D.length dc) := HXr.out.cell rfl
      have hok := okD_pack (most := most) (b1 := b1) (b3 := b3) (b4 := b4) (b5 := b5) (b6 := b6) (b7 := b7) (b8 := b8) hmd hmo65
      rw [hs] at hok
      rw [hD'] at hno
      have hns : ¬ ((s : Nat) : Int) ≤ most := fun h => hno (hok.2 h)
      clear hno hok hmem hmd hN hs hlen hD'
      by_cases hbig : 65535 < s
      · have HBG := hide' hbig
        clear hbig hns
        go_wp2_with (first
          | (go_at_call 36; refine (wo_call HLD.out hk16 HWO.out HNN.out _ (HL.out.below HBr.out).d).mono ?_; rintro e w2 ⟨q, c, rfl, ho, hB⟩; have HO2 := hide' ho; have HBB2 := hide' hB; have HB2 := hide' (bstep HBr.out hB HBr.out.size); have HX2 : Hid (Bx w2 w.heap.size #[.int .i64 (i0 : Int), .bool b1, .int .i64 (i2 : Int), .bool b3, .bool b4, .bool b5, .bool b6, .bool b7, .bool b8, .int .i64 (i9 : Int), .slice q0 Q.length qc, .slice a0 A.length ac, .slice u0 U.length uc, .slice d0 D.length dc] 25) := HXr.out.below hB HXr.out.lt; have HR2 : Hid (Bx w2 (w.heap.size + 1) #[.int .i64 0, .bool false, .int .i64 0, .bool false, .bool false, .bool false, .bool false, .bool false, .bool false, .int .i64 0, .slice none 0 0, .slice none 0 0, .slice none 0 0, .slice none 0 0] 25) := HRr.out.below hB HRr.out.lt; obtain ⟨y0, y1, y2, y3, y4, y5, y6, y7, y8, y9, y10, y11, y12, y13⟩ := bx14 HX2.out; obtain ⟨w3, hw3⟩ : ∃ w3, w2.alloc (.cells #[.int .i64 (i0 : Int), .bool b1, .int .i64 (i2 : Int), .bool b3, .bool b4, .bool b5, .bool b6, .bool b7, .bool b8, .int .i64 (i9 : Int), .slice q0 Q.length qc, .slice a0 A.length ac, .slice u0 U.length uc, .slice q N c] 25) = w3 := ⟨_, rfl⟩; have HB3 : Hid (Below w.heap.size w w3) := hw3 ▸ HB2.out.alloc HB2.out.size _; have h23 : Below w2.heap.size w2 w3 := hw3 ▸ (Below.refl _ w2).alloc (Nat.le_refl _) _; have HO3 := hide' (own_below HO2.out h23); have HX3 : Hid (Bx w3 w.heap.size #[.int .i64 (i0 : Int), .bool b1, .int .i64 (i2 : Int), .bool b3, .bool b4, .bool b5, .bool b6, .bool b7, .bool b8, .int .i64 (i9 : Int), .slice q0 Q.length qc, .slice a0 A.length ac, .slice u0 U.length uc, .slice d0 D.length dc] 25) := HX2.out.below h23 HX2.out.lt; have HR3 : Hid (Bx w3 (w.heap.size + 1) #[.int .i64 0, .bool false, .int .i64 0, .bool false, .bool false, .bool false, .bool false, .bool false, .bool false, .int .i64 0, .slice none 0 0, .slice none 0 0, .slice none 0 0, .slice none 0 0] 25) := HR2.out.below h23 HR2.out.lt; have HY3 : Hid (Bx w3 w2.heap.size #[.int .i64 (i0 : Int), .bool b1, .int .i64 (i2 : Int), .bool b3, .bool b4, .bool b5, .bool b6, .bool b7, .bool b8, .int .i64 (i9 : Int), .slice q0 Q.length qc, .slice a0 A.length ac, .slice u0 U.length uc, .slice q N c] 25) := hw3 ▸ World.alloc_heap_new w2 _; obtain ⟨v0, v1, v2, v3, v4, v5, v6, v7, v8, v9, v10, v11, v12, v13⟩ := bx14 HY3.out; have HL3 : Hid (LsAt w3 q0 a0 u0 q Q A U D') := lsx (HL.out.below HB3.out) HO3.out HNN.out HMEM.out; have HN3 : Hid (q = none → c = 0) := (by obtain ⟨_, _, e, _, _, h⟩ := own_shape ho; injection e with e1 _ e3; subst e1; subst e3; exact h); clear ho hB h23)
          | (go_at_call 7; refine Calls.mono (show Calls Tryz.prog 7 _ _ (packE (packS i0 i2 i9 b1 b3 b4 b5 b6 b7 b8 Q A U D') w3) from (by have := refPack_yes i0 i2 i9 b1 b3 b4 b5 b6 b7 b8 q0 a0 u0 q qc ac uc c Q A U D' w3 HL3.out HZD.out ⟨HN.out.1, HN.out.2.1, HN3.out⟩ HLND.out HMD.out; rw [← HNN.out] at this; exact this)) ?_; rintro e w4 ⟨hh, hB⟩; rw [HSZ.out] at hh; rw [if_pos HBG.out] at hh; subst hh; have HB4 := hide' (bstep HB3.out hB HB3.out.size); have HX4 : Hid (Bx w4 w.heap.size #[.int .i64 (i0 : Int), .bool b1, .int .i64 (i2 : Int), .bool b3, .bool b4, .bool b5, .bool b6, .bool b7, .bool b8, .int .i64 (i9 : Int), .slice q0 Q.length qc, .slice a0 A.length ac, .slice u0 U.length uc, .slice d0 D.length dc] 25) := HX3.out.below hB HX3.out.lt; have HR4 : Hid (Bx w4 (w.heap.size + 1) #[.int .i64 0, .bool false, .int .i64 0, .bool false, .bool false, .bool false, .bool false, .bool false, .bool false, .int .i64 0, .slice none 0 0, .slice none 0 0, .slice none 0 0, .slice none 0 0] 25) := HR3.out.below hB HR3.out.lt; have HY4 : Hid (Bx w4 w2.heap.size #[.int .i64 (i0 : Int), .bool b1, .int .i64 (i2 : Int), .bool b3, .bool b4, .bool b5, .bool b6, .bool b7, .bool b8, .int .i64 (i9 : Int), .slice q0 Q.length qc, .slice a0 A.length ac, .slice u0 U.length uc, .slice q N c] 25) := HY3.out.below hB HY3.out.lt; have HO4 := hide' (own_below HO3.out hB); clear hB y0 y1 y2 y3 y4 y5 y6 y7 y8 y9 y10 y11 y12 y13 v0 v1 v2 v3 v4 v5 v6 v7 v8 v9 v10 v11 v12 v13; obtain ⟨v0, v1, v2, v3, v4, v5, v6, v7, v8, v9, v10, v11, v12, v13⟩ := bx14 HY4.out))
        refine ⟨⟨k + 1, by go_num, by omega, HB4, HX4, HR4⟩, ?_⟩
        simp [intOf]; omega
      · have HBG := hide' hbig
        have hlim : decide ((s : Int) ≤ limit) = false := decide_eq_false (by omega)
        clear hbig hns
        go_wp2_with (first
          | (go_at_call 36; refine (wo_call HLD.out hk16 HWO.out HNN.out _ (HL.out.below HBr.out).d).mono ?_; rintro e w2 ⟨q, c, rfl, ho, hB⟩; have HO2 := hide' ho; have HBB2 := hide' hB; have HB2 := hide' (bstep HBr.out hB HBr.out.size); have HX2 : Hid (Bx w2 w.heap.size #[.int .i64 (i0 : Int), .bool b1, .int .i64 (i2 : Int), .bool b3, .bool b4, .bool b5, .bool b6, .bool b7, .bool b8, .int .i64 (i9 : Int), .slice q0 Q.length qc, .slice a0 A.length ac, .slice u0 U.length uc, .slice d0 D.length dc] 25) := HXr.out.below hB HXr.out.lt; have HR2 : Hid (Bx w2 (w.heap.size + 1) #[.int .i64 0, .bool false, .int .i64 0, .bool false, .bool false, .bool false, .bool false, .bool false, .bool false, .int .i64 0, .slice none 0 0, .slice none 0 0, .slice none 0 0, .slice none 0 0] 25) := HRr.out.below hB HRr.out.lt; obtain ⟨y0, y1, y2, y3, y4, y5, y6, y7, y8, y9, y10, y11, y12, y13⟩ := bx14 HX2.out; obtain ⟨w3, hw3⟩ : ∃ w3, w2.alloc (.cells #[.int .i64 (i0 : Int), .bool b1, .int .i64 (i2 : Int), .bool b3, .bool b4, .bool b5, .bool b6, .bool b7, .bool b8, .int .i64 (i9 : Int), .slice q0 Q.length qc, .slice a0 A.length ac, .slice u0 U.length uc, .slice q N c] 25) = w3 := ⟨_, rfl⟩; have HB3 : Hid (Below w.heap.size w w3) := hw3 ▸ HB2.out.alloc HB2.out.size _; have h23 : Below w2.heap.size w2 w3 := hw3 ▸ (Below.refl _ w2).alloc (Nat.le_refl _) _; have HO3 := hide' (own_below HO2.out h23); have HX3 : Hid (Bx w3 w.heap.size #[.int .i64 (i0 : Int), .bool b1, .int .i64 (i2 : Int), .bool b3, .bool b4, .bool b5, .bool b6, .bool b7, .bool b8, .int .i64 (i9 : Int), .slice q0 Q.length qc, .slice a0 A.length ac, .slice u0 U.length uc, .slice d0 D.length dc] 25) := HX2.out.below h23 HX2.out.lt; have HR3 : Hid (Bx w3 (w.heap.size + 1) #[.int .i64 0, .bool false, .int .i64 0, .bool false, .bool false, .bool false, .bool false, .bool false, .bool false, .int .i64 0, .slice none 0 0, .slice none 0 0, .slice none 0 0, .slice none 0 0] 25) := HR2.out.below h23 HR2.out.lt; have HY3 : Hid (Bx w3 w2.heap.size #[.int .i64 (i0 : Int), .bool b1, .int .i64 (i2 : Int), .bool b3, .bool b4, .bool b5, .bool b6, .bool b7, .bool b8, .int .i64 (i9 : Int), .slice q0 Q.length qc, .slice a0 A.length ac, .slice u0 U.length uc, .slice q N c] 25) := hw3 ▸ World.alloc_heap_new w2 _; obtain ⟨v0, v1, v2, v3, v4, v5, v6, v7, v8, v9, v10, v11, v12, v13⟩ := bx14 HY3.out; have HL3 : Hid (LsAt w3 q0 a0 u0 q Q A U D') := lsx (HL.out.below HB3.out) HO3.out HNN.out HMEM.out; have HN3 : Hid (q = none → c = 0) := (by obtain ⟨_, _, e, _, _, h⟩ := own_shape ho; injection e with e1 _ e3; subst e1; subst e3; exact h); clear ho hB h23)
          | (go_at_call 7; refine Calls.mono (show Calls Tryz.prog 7 _ _ (packE (packS i0 i2 i9 b1 b3 b4 b5 b6 b7 b8 Q A U D') w3) from (by have := refPack_yes i0 i2 i9 b1 b3 b4 b5 b6 b7 b8 q0 a0 u0 q qc ac uc c Q A U D' w3 HL3.out HZD.out ⟨HN.out.1, HN.out.2.1, HN3.out⟩ HLND.out HMD.out; rw [← HNN.out] at this; exact this)) ?_; rintro e w4 ⟨hh, hB⟩; rw [HSZ.out] at hh; rw [if_neg HBG.out] at hh; obtain ⟨pb, cb, rfl, _⟩ := hh; have HB4 := hide' (bstep HB3.out hB HB3.out.size); have HX4 : Hid (Bx w4 w.heap.size #[.int .i64 (i0 : Int), .bool b1, .int .i64 (i2 : Int), .bool b3, .bool b4, .bool b5, .bool b6, .bool b7, .bool b8, .int .i64 (i9 : Int), .slice q0 Q.length qc, .slice a0 A.length ac, .slice u0 U.length uc, .slice d0 D.length dc] 25) := HX3.out.below hB HX3.out.lt; have HR4 : Hid (Bx w4 (w.heap.size + 1) #[.int .i64 0, .bool false, .int .i64 0, .bool false, .bool false, .bool false, .bool false, .bool false, .bool false, .int .i64 0, .slice none 0 0, .slice none 0 0, .slice none 0 0, .slice none 0 0] 25) := HR3.out.below hB HR3.out.lt; have HY4 : Hid (Bx w4 w2.heap.size #[.int .i64 (i0 : Int), .bool b1, .int .i64 (i2 : Int), .bool b3, .bool b4, .bool b5, .bool b6, .bool b7, .bool b8, .int .i64 (i9 : Int), .slice q0 Q.length qc, .slice a0 A.length ac, .slice u0 U.length uc, .slice q N c] 25) := HY3.out.below hB HY3.out.lt; have HO4 := hide' (own_below HO3.out hB); clear hB y0 y1 y2 y3 y4 y5 y6 y7 y8 y9 y10 y11 y12 y13 v0 v1 v2 v3 v4 v5 v6 v7 v8 v9 v10 v11 v12 v13; obtain ⟨v0, v1, v2, v3, v4, v5, v6, v7, v8, v9, v10, v11, v12, v13⟩ := bx14 HY4.out))
        refine ⟨⟨k + 1, by go_num, by omega, HB4, HX4, HR4⟩, ?_⟩
        simp [intOf]; omega
    · have hk16 : k ≤ 65536 := by have := HLD.out; have := cp_le D; omega
      have y13 : wr.cell? ⟨w.heap.size, 13, none⟩ = some (.slice d0 D.length dc) := HXr.out.cell rfl
      have F1 : Hid True := trivial
      have HCK : Hid (cp D < k) := by unfold Hid; omega
      have HK16 := hide' hk16
      clear hlt hk hk16
      go_upto_region 12 with (go_at_call 36; have _ := F1; clear F1; refine (wo_none HLD.out HK16.out HCK.out _ (HL.out.below HBr.out).d).mono ?_; rintro e w2 ⟨q, N, c, rfl, hB⟩; have HB2 := hide' (bstep HBr.out hB HBr.out.size); have HX2 : Hid (Bx w2 w.heap.size #[.int .i64 (i0 : Int), .bool b1, .int .i64 (i2 : Int), .bool b3, .bool b4, .bool b5, .bool b6, .bool b7, .bool b8, .int .i64 (i9 : Int), .slice q0 Q.length qc, .slice a0 A.length ac, .slice u0 U.length uc, .slice d0 D.length dc] 25) := HXr.out.below hB HXr.out.lt; have HR2 : Hid (Bx w2 (w.heap.size + 1) #[.int .i64 0, .bool false, .int .i64 0, .bool false, .bool false, .bool false, .bool false, .bool false, .bool false, .int .i64 0, .slice none 0 0, .slice none 0 0, .slice none 0 0, .slice none 0 0] 25) := HRr.out.below hB HRr.out.lt; clear hB y13; obtain ⟨y0, y1, y2, y3, y4, y5, y6, y7, y8, y9, y10, y11, y12, y13⟩ := bx14 HX2.out; obtain ⟨w3, hw3⟩ : ∃ w3, w2.alloc (.cells #[.int .i64 (i0 : Int), .bool b1, .int .i64 (i2 : Int), .bool b3, .bool b4, .bool b5, .bool b6, .bool b7, .bool b8, .int .i64 (i9 : Int), .slice q0 Q.length qc, .slice a0 A.length ac, .slice u0 U.length uc, .slice d0 D.length dc] 25) = w3 := ⟨_, rfl⟩; have h23 : Below w2.heap.size w2 w3 := hw3 ▸ (Below.refl _ w2).alloc (Nat.le_refl _) _; have HB3 := hide' (bstep HB2.out h23 HB2.out.size); have HX3 : Hid (Bx w3 w.heap.size #[.int .i64 (i0 : Int), .bool b1, .int .i64 (i2 : Int), .bool b3, .bool b4, .bool b5, .bool b6, .bool b7, .bool b8, .int .i64 (i9 : Int), .slice q0 Q.length qc, .slice a0 A.length ac, .slice u0 U.length uc, .slice d0 D.length dc] 25) := HX2.out.below h23 HX2.out.lt; have HR3 : Hid (Bx w3 (w.heap.size + 1) #[.int .i64 0, .bool false, .int .i64 0, .bool false, .bool false, .bool false, .bool false, .bool false, .bool false, .int .i64 0, .slice none 0 0, .slice none 0 0, .slice none 0 0, .slice none 0 0] 25) := HR2.out.below h23 HR2.out.lt; have HY3 : Hid (Bx w3 w2.heap.size #[.int .i64 (i0 : Int), .bool b1, .int .i64 (i2 : Int), .bool b3, .bool b4, .bool b5, .bool b6, .bool b7, .bool b8, .int .i64 (i9 : Int), .slice q0 Q.length qc, .slice a0 A.length ac, .slice u0 U.length uc, .slice d0 D.length dc] 25) := hw3 ▸ World.alloc_heap_new w2 _; have HXX : Hid (w.heap.size + 2 ≤ w2.heap.size) := HR2.out.lt; clear h23)
      rename_i K hK
      have HK := hide' hK
      clear hK
      go_wp2_with fail
      refine HK.out _ _ ?_
      exact fm_tail_cut i0 i2 i9 b1 b3 b4 b5 b6 b7 b8 q0 a0 u0 d0 qc ac uc dc Q A U D limit w HL HZ HHM HLN HLD w2.heap.size w3 HB3 HX3 HR3 HY3 HXX most hmo HCUT.out _ _ _ _ _ _ _ _ _ _ _ _ _ _ _ _ _ _ _ _ _ _ _ _ _ _ _ _ _ _ _ _ _ _ _ _ _ _ _ _ _ _ _ _ _ _ _ _ _ _ _ _ _ _ _ _ _ _ _ _ _ _ _ _ _ _ _ _ _ _ _ _ _ _ _ _ _ _ _ _ _ _
set_option maxRecDepth 100000 in
set_option maxHeartbeats 16000000 in
theorem fitm_none (i0 i2 i9 : Nat) (b1 b3 b4 b5 b6 b7 b8 : Bool) (q0 a0 u0 d0 : Option Addr) (qc ac uc dc : Nat) (Q : List Qn) (A U D : List Rn) (limit : Int) (w : World) (hl : LsAt w q0 a0 u0 d0 Q A U D) (hz : ZOk Q A U D) (hn : (a0 = none → ac = 0) ∧ (u0 = none → uc = 0) ∧ (d0 = none → dc = 0)) (hm : msgOK i0 i2 i9 Q A U D = true) (most : Int) (hmo : min limit 65535 = most) (hcut : ¬ okD most i0 i2 i9 b1 b3 true b5 b6 b7 b8 Q [] [] (dropF D 0)) (hall : ∀ j, j ≤ D.length → ¬ okD most i0 i2 i9 b1 b3 b4 b5 b6 b7 b8 Q A U (dropF D j)) :
    Calls Tryz.prog 13 #[.agg #[.int .i64 (i0 : Int), .bool b1, .int .i64 (i2 : Int), .bool b3, .bool b4, .bool b5, .bool b6, .bool b7, .bool b8, .int .i64 (i9 : Int), .slice q0 Q.length qc, .slice a0 A.length ac, .slice u0 U.length uc, .slice d0 D.length dc], .int .i64 limit] w (fun e w' => e = .returned (.tuple #[.agg #[.int .i64 0, .bool false, .int .i64 0, .bool false, .bool false, .bool false, .bool false, .bool false, .bool false, .int .i64 0, .slice none 0 0, .slice none 0 0, .slice none 0 0, .slice none 0 0], .int .i64 12]) ∧ Below w.heap.size w w') := by
  obtain ⟨_, _, _, lq, la, lu, ld, _⟩ := msgOK_parts hm
  have hln : Q.length ≤ maxLen ∧ A.length ≤ maxLen ∧ U.length ≤ maxLen ∧ D.length ≤ maxLen := by unfold maxLen; omega
  obtain ⟨wz, hwz⟩ : ∃ wr, (w.alloc (.cells #[.int .i64 (i0 : Int), .bool b1, .int .i64 (i2 : Int), .bool b3, .bool b4, .bool b5, .bool b6, .bool b7, .bool b8, .int .i64 (i9 : Int), .slice q0 Q.length qc, .slice a0 A.length ac, .slice u0 U.length uc, .slice d0 D.length dc] 25)).alloc (.cells #[.int .i64 0, .bool false, .int .i64 0, .bool false, .bool false, .bool false, .bool false, .bool false, .bool false, .int .i64 0, .slice none 0 0, .slice none 0 0, .slice none 0 0, .slice none 0 0] 25) = wr := ⟨_, rfl⟩
  have HX : Hid (Bx wz w.heap.size #[.int .i64 (i0 : Int), .bool b1, .int .i64 (i2 : Int), .bool b3, .bool b4, .bool b5, .bool b6, .bool b7, .bool b8, .int .i64 (i9 : Int), .slice q0 Q.length qc, .slice a0 A.length ac, .slice u0 U.length uc, .slice d0 D.length dc] 25) := hwz ▸ Bx.grown (World.alloc_heap_new w _) (World.grownBy_alloc _ _ none) (by simp)
  have HR : Hid (Bx wz (w.heap.size + 1) #[.int .i64 0, .bool false, .int .i64 0, .bool false, .bool false, .bool false, .bool false, .bool false, .bool false, .int .i64 0, .slice none 0 0, .slice none 0 0, .slice none 0 0, .slice none 0 0] 25) := by
    have := World.alloc_heap_new (w.alloc (.cells #[.int .i64 (i0 : Int), .bool b1, .int .i64 (i2 : Int), .bool b3, .bool b4, .bool b5, .bool b6, .bool b7, .bool b8, .int .i64 (i9 : Int), .slice q0 Q.length qc, .slice a0 A.length ac, .slice u0 U.length uc, .slice d0 D.length dc] 25)) (.cells #[.int .i64 0, .bool false, .int .i64 0, .bool false, .bool false, .bool false, .bool false, .bool false, .bool false, .int .i64 0, .slice none 0 0, .slice none 0 0, .slice none 0 0, .slice none 0 0] 25)
    rw [World.size_alloc] at this
    rw [← hwz]
    exact this
  have HB : Hid (Below w.heap.size w wz) := by rw [← hwz]; exact ((Below.refl _ w).alloc (Nat.le_refl _) _).alloc (by simp) _
  have HC := hide' (refCheck_any (i0 : Int) (i2 : Int) (i9 : Int) b1 b3 b4 b5 b6 b7 b8 q0 a0 u0 d0 qc ac uc dc Q A U D wz (hl.below HB.out) hz hln)
  rw [hm] at HC
  obtain ⟨y0, y1, y2, y3, y4, y5, y6, y7, y8, y9, y10, y11, y12, y13⟩ := bx14 HX.out
  have HL := hide' hl
  have HZ := hide' hz
  have HN := hide' hn
  have HHM := hide' hm
  have HLN := hide' hln
  have HLD := hide' ld
  clear hl hz hn hm hln ld lq la lu
  go_enter Tryz.func13, Tryz.ntmps13
  go_wp2_with (go_at_call 11; refine HC.out.mono ?_; rintro e w1 ⟨rfl, hB⟩; have HB1 := hide' (bstep HB.out hB HB.out.size); have HX1 : Hid (Bx w1 w.heap.size #[.int .i64 (i0 : Int), .bool b1, .int .i64 (i2 : Int), .bool b3, .bool b4, .bool b5, .bool b6, .bool b7, .bool b8, .int .i64 (i9 : Int), .slice q0 Q.length qc, .slice a0 A.length ac, .slice u0 U.length uc, .slice d0 D.length dc] 25) := HX.out.below hB HX.out.lt; have HR1 : Hid (Bx w1 (w.heap.size + 1) #[.int .i64 0, .bool false, .int .i64 0, .bool false, .bool false, .bool false, .bool false, .bool false, .bool false, .int .i64 0, .slice none 0 0, .slice none 0 0, .slice none 0 0, .slice none 0 0] 25) := HR.out.below hB HR.out.lt; clear hB; unfold chkV; rw [if_pos rfl])
  clear y0 y1 y2 y3 y4 y5 y6 y7 y8 y9 y10 y11 y12 y13 HC HX HR HB hwz
  have HALL := hide' hall
  have HCUT := hide' hcut
  have hmo65 : most ≤ 65535 := by omega
  clear hall hcut
  go_loopw [6] (fun iv wr => ∃ k : Nat, iv = .int .i64 (k : Int) ∧ k ≤ cp D + 1 ∧ Hid (Below w.heap.size w wr) ∧ Hid (Bx wr w.heap.size #[.int .i64 (i0 : Int), .bool b1, .int .i64 (i2 : Int), .bool b3, .bool b4, .bool b5, .bool b6, .bool b7, .bool b8, .int .i64 (i9 : Int), .slice q0 Q.length qc, .slice a0 A.length ac, .slice u0 U.length uc, .slice d0 D.length dc] 25) ∧ Hid (Bx wr (w.heap.size + 1) #[.int .i64 0, .bool false, .int .i64 0, .bool false, .bool false, .bool false, .bool false, .bool false, .bool false, .int .i64 0, .slice none 0 0, .slice none 0 0, .slice none 0 0, .slice none 0 0] 25)) (fun iv _ => cp D + 2 - (intOf iv).toNat)
  case atStart => exact ⟨0, rfl, Nat.zero_le _, HB1, HX1, HR1⟩
  case round =>
    clear HB1 HX1 HR1
    obtain ⟨k, rfl, hk, HBr, HXr, HRr⟩ := hrel
    by_cases hlt : k ≤ cp D
    · obtain ⟨j, hj, hjk⟩ := cp_ex D k hlt
      have hno := HALL.out j hj
      obtain ⟨D', hD'⟩ : ∃ D', dropF D j = D' := ⟨_, rfl⟩
      have hmem : ∀ r ∈ D', r ∈ D := fun r hr => dropF_mem (hD' ▸ hr)
      have hlen : D'.length ≤ D.length := hD' ▸ dropF_le D j
      have hmd : msgOK i0 i2 i9 Q A U D' = true := msgOK_less2 HHM.out hmem hlen
      have HWO : Hid (woR D D.length k [] = (D', 0)) := by unfold Hid; rw [← hD', ← hjk]; exact woR_drop D j hj
      obtain ⟨N, hN⟩ : ∃ N, N = D'.length := ⟨_, rfl⟩
      have HNN := hide' hN
      have HMEM := hide' hmem
      have HMD := hide' hmd
      have HZD : Hid (ZOk Q A U D') := ⟨HZ.out.q, HZ.out.a, HZ.out.u, fun r hr => HZ.out.d r (hmem r hr)⟩
      have HLND : Hid (Q.length ≤ maxLen ∧ A.length ≤ maxLen ∧ U.length ≤ maxLen ∧ D'.length ≤ maxLen) := ⟨HLN.out.1, HLN.out.2.1, HLN.out.2.2.1, Nat.le_trans hlen HLN.out.2.2.2⟩
      obtain ⟨s, hs⟩ : ∃ s, (packS i0 i2 i9 b1 b3 b4 b5 b6 b7 b8 Q A U D').out.size = s := ⟨_, rfl⟩
      have HSZ := hide' hs
      have hk16 : k ≤ 65536 := by have := HLD.out; have := cp_le D; omega
      have y13 : wr.cell? ⟨w.heap.size, 13, none⟩ = some (.slice d0 D.length dc) := HXr.out.cell rfl
      have hok := okD_pack (most := most) (b1 := b1) (b3 := b3) (b4 := b4) (b5 := b5) (b6 := b6) (b7 := b7) (b8 := b8) hmd hmo65
      rw [hs] at hok
      rw [hD'] at hno
      have hns : ¬ ((s : Nat) : Int) ≤ most := fun h => hno (hok.2 h)
      clear hno hok hmem hmd hN hs hlen hD'
      by_cases hbig : 65535 < s
      · have HBG := hide' hbig
        clear hbig hns
        go_wp2_with (first
          | (go_at_call 36; refine (wo_call HLD.out hk16 HWO.out HNN.out _ (HL.out.below HBr.out).d).mono ?_; rintro e w2 ⟨q, c, rfl, ho, hB⟩; have HO2 := hide' ho; have HBB2 := hide' hB; have HB2 := hide' (bstep HBr.out hB HBr.out.size); have HX2 : Hid (Bx w2 w.heap.size #[.int .i64 (i0 : Int), .bool b1, .int .i64 (i2 : Int), .bool b3, .bool b4, .bool b5, .bool b6, .bool b7, .bool b8, .int .i64 (i9 : Int), .slice q0 Q.length qc, .slice a0 A.length ac, .slice u0 U.length uc, .slice d0 D.length dc] 25) := HXr.out.below hB HXr.out.lt; have HR2 : Hid (Bx w2 (w.heap.size + 1) #[.int .i64 0, .bool false, .int .i64 0, .bool false, .bool false, .bool false, .bool false, .bool false, .bool false, .int .i64 0, .slice none 0 0, .slice none 0 0, .slice none 0 0, .slice none 0 0] 25) := HRr.out.below hB HRr.out.lt; obtain ⟨y0, y1, y2, y3, y4, y5, y6, y7, y8, y9, y10, y11, y12, y13⟩ := bx14 HX2.out; obtain ⟨w3, hw3⟩ : ∃ w3, w2.alloc (.cells #[.int .i64 (i0 : Int), .bool b1, .int .i64 (i2 : Int), .bool b3, .bool b4, .bool b5, .bool b6, .bool b7, .bool b8, .int .i64 (i9 : Int), .slice q0 Q.length qc, .slice a0 A.length ac, .slice u0 U.length uc, .slice q N c] 25) = w3 := ⟨_, rfl⟩; have HB3 : Hid (Below w.heap.size w w3) := hw3 ▸ HB2.out.alloc HB2.out.size _; have h23 : Below w2.heap.size w2 w3 := hw3 ▸ (Below.refl _ w2).alloc (Nat.le_refl _) _; have HO3 := hide' (own_below HO2.out h23); have HX3 : Hid (Bx w3 w.heap.size #[.int .i64 (i0 : Int), .bool b1, .int .i64 (i2 : Int), .bool b3, .bool b4, .bool b5, .bool b6, .bool b7, .bool b8, .int .i64 (i9 : Int), .slice q0 Q.length qc, .slice a0 A.length ac, .slice u0 U.length uc, .slice d0 D.length dc] 25) := HX2.out.below h23 HX2.out.lt; have HR3 : Hid (Bx w3 (w.heap.size + 1) #[.int .i64 0, .bool false, .int .i64 0, .bool false, .bool false, .bool false, .bool false, .bool false, .bool false, .int .i64 0, .slice none 0 0, .slice none 0 0, .slice none 0 0, .slice none 0 0] 25) := HR2.out.below h23 HR2.out.lt; have HY3 : Hid (Bx w3 w2.heap.size #[.int .i64 (i0 : Int), .bool b1, .int .i64 (i2 : Int), .bool b3, .bool b4, .bool b5, .bool b6, .bool b7, .bool b8, .int .i64 (i9 : Int), .slice q0 Q.length qc, .slice a0 A.length ac, .slice u0 U.length uc, .slice q N c] 25) := hw3 ▸ World.alloc_heap_new w2 _; obtain ⟨v0, v1, v2, v3, v4, v5, v6, v7, v8, v9, v10, v11, v12, v13⟩ := bx14 HY3.out; have HL3 : Hid (LsAt w3 q0 a0 u0 q Q A U D') := lsx (HL.out.below HB3.out) HO3.out HNN.out HMEM.out; have HN3 : Hid (q = none → c = 0) := (by obtain ⟨_, _, e, _, _, h⟩ := own_shape ho; injection e with e1 _ e3; subst e1; subst e3; exact h); clear ho hB h23)
          | (go_at_call 7; refine Calls.mono (show Calls Tryz.prog 7 _ _ (packE (packS i0 i2 i9 b1 b3 b4 b5 b6 b7 b8 Q A U D') w3) from (by have := refPack_yes i0 i2 i9 b1 b3 b4 b5 b6 b7 b8 q0 a0 u0 q qc ac uc c Q A U D' w3 HL3.out HZD.out ⟨HN.out.1, HN.out.2.1, HN3.out⟩ HLND.out HMD.out; rw [← HNN.out] at this; exact this)) ?_; rintro e w4 ⟨hh, hB⟩; rw [HSZ.out] at hh; rw [if_pos HBG.out] at hh; subst hh; have HB4 := hide' (bstep HB3.out hB HB3.out.size); have HX4 : Hid (Bx w4 w.heap.size #[.int .i64 (i0 : Int), .bool b1, .int .i64 (i2 : Int), .bool b3, .bool b4, .bool b5, .bool b6, .bool b7, .bool b8, .int .i64 (i9 : Int), .slice q0 Q.length qc, .slice a0 A.length ac, .slice u0 U.length uc, .slice d0 D.length dc] 25) := HX3.out.below hB HX3.out.lt; have HR4 : Hid (Bx w4 (w.heap.size + 1) #[.int .i64 0, .bool false, .int .i64 0, .bool false, .bool false, .bool false, .bool false, .bool false, .bool false, .int .i64 0, .slice none 0 0, .slice none 0 0, .slice none 0 0, .slice none 0 0] 25) := HR3.out.below hB HR3.out.lt; have HY4 : Hid (Bx w4 w2.heap.size #[.int .i64 (i0 : Int), .bool b1, .int .i64 (i2 : Int), .bool b3, .bool b4, .bool b5, .bool b6, .bool b7, .bool b8, .int .i64 (i9 : Int), .slice q0 Q.length qc, .slice a0 A.length ac, .slice u0 U.length uc, .slice q N c] 25) := HY3.out.below hB HY3.out.lt; have HO4 := hide' (own_below HO3.out hB); clear hB y0 y1 y2 y3 y4 y5 y6 y7 y8 y9 y10 y11 y12 y13 v0 v1 v2 v3 v4 v5 v6 v7 v8 v9 v10 v11 v12 v13; obtain ⟨v0, v1, v2, v3, v4, v5, v6, v7, v8, v9, v10, v11, v12, v13⟩ := bx14 HY4.out))
        refine ⟨⟨k + 1, by go_num, by omega, HB4, HX4, HR4⟩, ?_⟩
        simp [intOf]; omega
      · have HBG := hide' hbig
        have hlim : decide ((s : Int) ≤ limit) = false := decide_eq_false (by omega)
        clear hbig hns
        go_wp2_with (first
          | (go_at_call 36; refine (wo_call HLD.out hk16 HWO.out HNN.out _ (HL.out.below HBr.out).d).mono ?_; rintro e w2 ⟨q, c, rfl, ho, hB⟩; have HO2 := hide' ho; have HBB2 := hide' hB; have HB2 := hide' (bstep HBr.out hB HBr.out.size); have HX2 : Hid (Bx w2 w.heap.size #[.int .i64 (i0 : Int), .bool b1, .int .i64 (i2 : Int), .bool b3, .bool b4, .bool b5, .bool b6, .bool b7, .bool b8, .int .i64 (i9 : Int), .slice q0 Q.length qc, .slice a0 A.length ac, .slice u0 U.length uc, .slice d0 D.length dc] 25) := HXr.out.below hB HXr.out.lt; have HR2 : Hid (Bx w2 (w.heap.size + 1) #[.int .i64 0, .bool false, .int .i64 0, .bool false, .bool false, .bool false, .bool false, .bool false, .bool false, .int .i64 0, .slice none 0 0, .slice none 0 0, .slice none 0 0, .slice none 0 0] 25) := HRr.out.below hB HRr.out.lt; obtain ⟨y0, y1, y2, y3, y4, y5, y6, y7, y8, y9, y10, y11, y12, y13⟩ := bx14 HX2.out; obtain ⟨w3, hw3⟩ : ∃ w3, w2.alloc (.cells #[.int .i64 (i0 : Int), .bool b1, .int .i64 (i2 : Int), .bool b3, .bool b4, .bool b5, .bool b6, .bool b7, .bool b8, .int .i64 (i9 : Int), .slice q0 Q.length qc, .slice a0 A.length ac, .slice u0 U.length uc, .slice q N c] 25) = w3 := ⟨_, rfl⟩; have HB3 : Hid (Below w.heap.size w w3) := hw3 ▸ HB2.out.alloc HB2.out.size _; have h23 : Below w2.heap.size w2 w3 := hw3 ▸ (Below.refl _ w2).alloc (Nat.le_refl _) _; have HO3 := hide' (own_below HO2.out h23); have HX3 : Hid (Bx w3 w.heap.size #[.int .i64 (i0 : Int), .bool b1, .int .i64 (i2 : Int), .bool b3, .bool b4, .bool b5, .bool b6, .bool b7, .bool b8, .int .i64 (i9 : Int), .slice q0 Q.length qc, .slice a0 A.length ac, .slice u0 U.length uc, .slice d0 D.length dc] 25) := HX2.out.below h23 HX2.out.lt; have HR3 : Hid (Bx w3 (w.heap.size + 1) #[.int .i64 0, .bool false, .int .i64 0, .bool false, .bool false, .bool false, .bool false, .bool false, .bool false, .int .i64 0, .slice none 0 0, .slice none 0 0, .slice none 0 0, .slice none 0 0] 25) := HR2.out.below h23 HR2.out.lt; have HY3 : Hid (Bx w3 w2.heap.size #[.int .i64 (i0 : Int), .bool b1, .int .i64 (i2 : Int), .bool b3, .bool b4, .bool b5, .bool b6, .bool b7, .bool b8, .int .i64 (i9 : Int), .slice q0 Q.length qc, .slice a0 A.length ac, .slice u0 U.length uc, .slice q N c] 25) := hw3 ▸ World.alloc_heap_new w2 _; obtain ⟨v0, v1, v2, v3, v4, v5, v6, v7, v8, v9, v10, v11, v12, v13⟩ := bx14 HY3.out; have HL3 : Hid (LsAt w3 q0 a0 u0 q Q A U D') := lsx (HL.out.below HB3.out) HO3.out HNN.out HMEM.out; have HN3 : Hid (q = none → c = 0) := (by obtain ⟨_, _, e, _, _, h⟩ := own_shape ho; injection e with e1 _ e3; subst e1; subst e3; exact h); clear ho hB h23)
          | (go_at_call 7; refine Calls.mono (show Calls Tryz.prog 7 _ _ (packE (packS i0 i2 i9 b1 b3 b4 b5 b6 b7 b8 Q A U D') w3) from (by have := refPack_yes i0 i2 i9 b1 b3 b4 b5 b6 b7 b8 q0 a0 u0 q qc ac uc c Q A U D' w3 HL3.out HZD.out ⟨HN.out.1, HN.out.2.1, HN3.out⟩ HLND.out HMD.out; rw [← HNN.out] at this; exact this)) ?_; rintro e w4 ⟨hh, hB⟩; rw [HSZ.out] at hh; rw [if_neg HBG.out] at hh; obtain ⟨pb, cb, rfl, _⟩ := hh; have HB4 := hide' (bstep HB3.out hB HB3.out.size); have HX4 : Hid (Bx w4 w.heap.size #[.int .i64 (i0 : Int), .bool b1, .int .i64 (i2 : Int), .bool b3, .bool b4, .bool b5, .bool b6, .bool b7, .bool b8, .int .i64 (i9 : Int), .slice q0 Q.length qc, .slice a0 A.length ac, .slice u0 U.length uc, .slice d0 D.length dc] 25) := HX3.out.below hB HX3.out.lt; have HR4 : Hid (Bx w4 (w.heap.size + 1) #[.int .i64 0, .bool false, .int .i64 0, .bool false, .bool false, .bool false, .bool false, .bool false, .bool false, .int .i64 0, .slice none 0 0, .slice none 0 0, .slice none 0 0, .slice none 0 0] 25) := HR3.out.below hB HR3.out.lt; have HY4 : Hid (Bx w4 w2.heap.size #[.int .i64 (i0 : Int), .bool b1, .int .i64 (i2 : Int), .bool b3, .bool b4, .bool b5, .bool b6, .bool b7, .bool b8, .int .i64 (i9 : Int), .slice q0 Q.length qc, .slice a0 A.length ac, .slice u0 U.length uc, .slice q N c] 25) := HY3.out.below hB HY3.out.lt; have HO4 := hide' (own_below HO3.out hB); clear hB y0 y1 y2 y3 y4 y5 y6 y7 y8 y9 y10 y11 y12 y13 v0 v1 v2 v3 v4 v5 v6 v7 v8 v9 v10 v11 v12 v13; obtain ⟨v0, v1, v2, v3, v4, v5, v6, v7, v8, v9, v10, v11, v12, v13⟩ := bx14 HY4.out))
        refine ⟨⟨k + 1, by go_num, by omega, HB4, HX4, HR4⟩, ?_⟩
        simp [intOf]; omega
    · have hk16 : k ≤ 65536 := by have := HLD.out; have := cp_le D; omega
      have y13 : wr.cell? ⟨w.heap.size, 13, none⟩ = some (.slice d0 D.length dc) := HXr.out.cell rfl
      have F1 : Hid True := trivial
      have HCK : Hid (cp D < k) := by unfold Hid; omega
      have HK16 := hide' hk16
      clear hlt hk hk16
      go_upto_region 12 with (go_at_call 36; have _ := F1; clear F1; refine (wo_none HLD.out HK16.out HCK.out _ (HL.out.below HBr.out).d).mono ?_; rintro e w2 ⟨q, N, c, rfl, hB⟩; have HB2 := hide' (bstep HBr.out hB HBr.out.size); have HX2 : Hid (Bx w2 w.heap.size #[.int .i64 (i0 : Int), .bool b1, .int .i64 (i2 : Int), .bool b3, .bool b4, .bool b5, .bool b6, .bool b7, .bool b8, .int .i64 (i9 : Int), .slice q0 Q.length qc, .slice a0 A.length ac, .slice u0 U.length uc, .slice d0 D.length dc] 25) := HXr.out.below hB HXr.out.lt; have HR2 : Hid (Bx w2 (w.heap.size + 1) #[.int .i64 0, .bool false, .int .i64 0, .bool false, .bool false, .bool false, .bool false, .bool false, .bool false, .int .i64 0, .slice none 0 0, .slice none 0 0, .slice none 0 0, .slice none 0 0] 25) := HRr.out.below hB HRr.out.lt; clear hB y13; obtain ⟨y0, y1, y2, y3, y4, y5, y6, y7, y8, y9, y10, y11, y12, y13⟩ := bx14 HX2.out; obtain ⟨w3, hw3⟩ : ∃ w3, w2.alloc (.cells #[.int .i64 (i0 : Int), .bool b1, .int .i64 (i2 : Int), .bool b3, .bool b4, .bool b5, .bool b6, .bool b7, .bool b8, .int .i64 (i9 : Int), .slice q0 Q.length qc, .slice a0 A.length ac, .slice u0 U.length uc, .slice d0 D.length dc] 25) = w3 := ⟨_, rfl⟩; have h23 : Below w2.heap.size w2 w3 := hw3 ▸ (Below.refl _ w2).alloc (Nat.le_refl _) _; have HB3 := hide' (bstep HB2.out h23 HB2.out.size); have HX3 : Hid (Bx w3 w.heap.size #[.int .i64 (i0 : Int), .bool b1, .int .i64 (i2 : Int), .bool b3, .bool b4, .bool b5, .bool b6, .bool b7, .bool b8, .int .i64 (i9 : Int), .slice q0 Q.length qc, .slice a0 A.length ac, .slice u0 U.length uc, .slice d0 D.length dc] 25) := HX2.out.below h23 HX2.out.lt; have HR3 : Hid (Bx w3 (w.heap.size + 1) #[.int .i64 0, .bool false, .int .i64 0, .bool false, .bool false, .bool false, .bool false, .bool false, .bool false, .int .i64 0, .slice none 0 0, .slice none 0 0, .slice none 0 0, .slice none 0 0] 25) := HR2.out.below h23 HR2.out.lt; have HY3 : Hid (Bx w3 w2.heap.size #[.int .i64 (i0 : Int), .bool b1, .int .i64 (i2 : Int), .bool b3, .bool b4, .bool b5, .bool b6, .bool b7, .bool b8, .int .i64 (i9 : Int), .slice q0 Q.length qc, .slice a0 A.length ac, .slice u0 U.length uc, .slice d0 D.length dc] 25) := hw3 ▸ World.alloc_heap_new w2 _; have HXX : Hid (w.heap.size + 2 ≤ w2.heap.size) := HR2.out.lt; clear h23)
      rename_i K hK
      have HK := hide' hK
      clear hK
      go_wp2_with fail
      refine HK.out _ _ ?_
      exact fm_tail_none i0 i2 i9 b1 b3 b4 b5 b6 b7 b8 q0 a0 u0 d0 qc ac uc dc Q A U D limit w HL HZ HHM HLN HLD w2.heap.size w3 HB3 HX3 HR3 HY3 HXX most hmo HCUT.out _ _ _ _ _ _ _ _ _ _ _ _ _ _ _ _ _ _ _ _ _ _ _ _ _ _ _ _ _ _ _ _ _ _ _ _ _ _ _ _ _ _ _ _ _ _ _ _ _ _ _ _ _ _ _ _ _ _ _ _ _ _ _ _ _ _ _ _ _ _ _ _ _ _ _ _ _ _ _ _ _ _
end Go.Proofs.YtjnmbgmdkkiidaaGreat
