import Derived.Test.YtligjbcinahgdaaGreatFt1
import Derived.Test.YtligjbcinahgdaaGreatRn0G
import Derived.Laws.AppendOwnNone
import Derived.Test.YtligjbcinahgdaaGreatFpb
import Derived.Test.YtligjbcinahgdaaGreatFp4
import Derived.Test.YtligjbcinahgdaaGreatSm4G
/-
  A row of records of one's own: appended, and its block. (The verifier's own text.)
-/
namespace Go.Proofs.YtligjbcinahgdaaGreat
set_option linter.unusedVariables false
set_option linter.unusedSimpArgs false
open Go.RowKit Go.Shelf Go.Proofs.YtligjbcinahgdaaGreat.Nm

theorem rb_ownM {w : World} {base g cap n : Nat} {L : List Rn} (h : w.ownsRow base 55 5 (.slice (some ⟨g, 0, none⟩) n cap) n (rce5 L)) : ∃ rest, Rb w g L rest ∧ base ≤ g := by
  obtain ⟨hl, (⟨h1, h0⟩ | ⟨g', cap', cur, h1, hb, hg, hn, hcm, hcs, htk⟩)⟩ := h
  · cases h1
  · injection h1 with h1 h2 h3
    injection h1 with h1
    injection h1 with h1
    subst h1
    refine ⟨cur.toList.drop (n * 5), ?_, hb⟩
    unfold Rb Bx
    rw [← htk, List.take_append_drop, Array.toArray_toList]
    exact hg
theorem infoRM : (Tryz.prog.info? 55).map (fun i => (i.zero, i.size, i.bytes)) = some (some (.agg #[.string .empty, .int .i64 0, .int .i64 0, .int .i64 0, .string .empty]), 5, 56) := by kernel_rfl
theorem rs_newsM {w : World} {ad : Addr} {L : List Rn} (h : RsAt w (some ad) L) : ∀ j u, (rce5 L)[j]? = some u → w.cell? (ad.add j) = some u := by
  intro j u hj
  have hlt : j < L.length * 5 := by have := (List.getElem?_eq_some_iff.1 hj).1; rw [rce5_len] at this; exact this
  have hk : j / 5 < L.length := by omega
  obtain ⟨g, off, hp, _, h0, h1, h2, h3, h4⟩ := h (j / 5) hk
  obtain ⟨e0, e1, e2, e3, e4⟩ := get5 L (j / 5) hk
  obtain rfl := Option.some.inj hp
  have ha : (⟨g, off, none⟩ : Addr).add j = ⟨g, off + j, none⟩ := by simp [Addr.add]
  rw [ha]
  have : j % 5 = 0 ∨ j % 5 = 1 ∨ j % 5 = 2 ∨ j % 5 = 3 ∨ j % 5 = 4 := by omega
  rcases this with e | e | e | e | e
  · rw [show j = j / 5 * 5 by omega] at hj ⊢; rw [e0] at hj; rw [h0, hj]
  · rw [show j = j / 5 * 5 + 1 by omega] at hj ⊢; rw [e1] at hj; rw [← Nat.add_assoc, h1, hj]
  · rw [show j = j / 5 * 5 + 2 by omega] at hj ⊢; rw [e2] at hj; rw [← Nat.add_assoc, h2, hj]
  · rw [show j = j / 5 * 5 + 3 by omega] at hj ⊢; rw [e3] at hj; rw [← Nat.add_assoc, h3, hj]
  · rw [show j = j / 5 * 5 + 4 by omega] at hj ⊢; rw [e4] at hj; rw [← Nat.add_assoc, h4, hj]
/-- append of records that lie anywhere -/
theorem wpList_append_recsM {ops : Array Oper} {rest : List Oper} {o : Oper} {a : Act} {w : World} {Q : Exit → Act → World → Prop} (hgd : o.guard = none) (s x : Operand) (ho : o.op = .call { callee := .builtin .append, args := #[s, x], argTypes := #[25, 25] })
    (base : Nat) (v : Value) (n : Nat) (xs : List Value) (hs : a.eval s = v) (hown : w.ownsRow base 55 5 v n xs) (p : Option Addr) (L : List Rn) (cap : Nat) (hx : a.eval x = .slice p L.length cap) (hat : RsAt w p L) (hn : p = none → cap = 0) (h63 : n + L.length ≤ 10000000) (hbase : base ≤ w.heap.size)
    (h : ∀ v' w', w'.ownsRow base 55 5 v' (n + L.length) (xs ++ rce5 L) → w.grownBy w' v.ownBlock → wpList Tryz.prog ops Q rest (a.put o.dst v') w') : wpList Tryz.prog ops Q (o :: rest) a w := by
  obtain ⟨i0, hi, hz0, hz1, hz2⟩ := info_parts infoRM
  cases p with
  | none =>
    obtain rfl : L = [] := by
      cases L with
      | nil => rfl
      | cons y l => obtain ⟨g, off, hp, _⟩ := hat 0 (by simp); cases hp
    obtain rfl := hn rfl
    refine wpList_append_own_none hgd s x 25 ho base 55 i0 5 Tryz.underlying25 hi v n xs hs hown hx ?_
    exact h v w (by simpa [rce5] using hown) ⟨rfl, rfl, rfl, Nat.le_refl _, fun _ _ _ => rfl⟩
  | some ad =>
    refine wpList_append_own _ hgd s x 25 ho base 55 i0 (.agg #[.string .empty, .int .i64 0, .int .i64 0, .int .i64 0, .string .empty]) 5 56 Tryz.underlying25 hi hz0 hz1 hz2 rfl (by decide) v n xs hs hown ad L.length cap (rce5 L) hx (rce5_len L) (fun j u => rs_newsM hat j u) (rce5_one L) (by unfold maxLen; omega) (by omega) hbase ?_
    intro v' w' h1 h2 _
    exact h v' w' h1 h2
theorem rb_rs {w : World} {g : Nat} {L : List Rn} {rest : List Value} (h : Rb w g L rest) : RsAt w (some ⟨g, 0, none⟩) L := fun k hk => by
  obtain ⟨e0, e1, e2, e3, e4⟩ := h.cells hk
  exact ⟨g, 0, rfl, h.lt, by simpa using e0, by simpa using e1, by simpa using e2, by simpa using e3, by simpa using e4⟩
end Go.Proofs.YtligjbcinahgdaaGreat

/-
  What the reference's Filter has in memory. (The verifier's own text.)
-/
namespace Go.Proofs.YtligjbcinahgdaaGreat
set_option linter.unusedVariables false
set_option linter.unusedSimpArgs false
open Go.RowKit Go.Shelf Go.Maps Go.Proofs.YtligjbcinahgdaaGreat.Nm

/-- how the reference's Filter ends: lists wherever they lie -/
def RfE (X : Mx) (w : World) (e : Ending) (w' : World) : Prop := ∃ p1 p2 p3 p4 c1 c2 c3 c4, e = .returned (.tuple #[.agg #[.int .i64 X.i0, .bool X.b1, .int .i64 X.i2, .bool X.b3, .bool X.b4, .bool X.b5, .bool X.b6, .bool X.b7, .bool X.b8, .int .i64 X.i9, .slice p1 X.ls.q.length c1, .slice p2 X.ls.a.length c2, .slice p3 X.ls.u.length c3, .slice p4 X.ls.d.length c4], .bool X.ok]) ∧ Ms4 w' p1 p2 p3 p4 X.ls ∧ Below w.heap.size w w'
theorem rs_ownF {w : World} {b n c : Nat} {p : Option Addr} {L : List Rn} (h : w.ownsRow b 55 5 (.slice p n c) n (rce5 L)) (hn : n = L.length) : RsAt w p L := by
  rcases id h.2 with ⟨h1, h0⟩ | ⟨g, cap, cur, h1, _⟩
  · intro k hk; omega
  · injection h1 with h1 _ _
    subst h1
    obtain ⟨rest, hr, _⟩ := rb_ownM h
    exact rb_rs hr
/-- the answer's box, what is said, the rule, the question -/
structure A5 (w V : World) (n : Nat) (ma zs : Array Value) (ub : Nat) (us : Array Value) (qb : Nat) (qs : Array Value) : Prop where
  a : Bx V (w.heap.size + 1) ma 27
  r : Bx V (w.heap.size + 2) zs 27
  u : Bx V ub us 45
  q : Bx V qb qs 52
  b : Below w.heap.size w V
  n0 : w.heap.size + 2 < n
  nu : ub < n
  nq : qb < n
  nz : n ≤ V.heap.size
  ua : w.heap.size + 2 < ub
  qa : w.heap.size + 2 < qb
section
variable {w V V' : World} {n ub qb j : Nat} {ma zs us qs : Array Value} {v : Value}
theorem A5.grown {r : Option Nat} (h : A5 w V n ma zs ub us qb qs) (hg : V.grownBy V' r) (hr : ∀ q, r = some q → n ≤ q) : A5 w V' n ma zs ub us qb qs := by
  have ne : ∀ R, R < n → r ≠ some R := fun R hR e => by have := hr _ e; omega
  have n0 := h.n0
  exact ⟨h.a.grown hg (ne _ (by omega)), h.r.grown hg (ne _ (by omega)), h.u.grown hg (ne _ h.nu), h.q.grown hg (ne _ h.nq), h.b.grown hg h.b.size (fun q e => by have := hr _ e; omega), n0, h.nu, h.nq, Nat.le_trans h.nz hg.size, h.ua, h.qa⟩
theorem A5.step (h : A5 w V n ma zs ub us qb qs) (hb : Below V.heap.size V V') : A5 w V' n ma zs ub us qb qs := h.grown (grown_below hb none) (fun q e => by cases e)
theorem A5.set (h : A5 w V n ma zs ub us qb qs) (hw : V.setCell ⟨w.heap.size + 1, j, none⟩ v = V') : A5 w V' n (ma.setIfInBounds j v) zs ub us qb qs := by
  have hg := grown_set V (w.heap.size + 1) j v
  rw [hw] at hg
  have ua := h.ua
  have qa := h.qa
  refine ⟨by rw [← hw]; exact h.a.set j v, h.r.grown hg (fun e => by injection e with e; omega), h.u.grown hg (fun e => by injection e with e; omega), h.q.grown hg (fun e => by injection e with e; omega), h.b.grown hg h.b.size (fun q e => by injection e with e; omega), h.n0, h.nu, h.nq, Nat.le_trans h.nz hg.size, ua, qa⟩
theorem A5.row {e s k : Nat} {x : Value} {xs : List Value} (h : A5 w V n ma zs ub us qb qs) (ho : V.ownsRow n e s x k xs) (hw : V.setCell ⟨w.heap.size + 1, j, none⟩ v = V') : V'.ownsRow n e s x k xs := own_setF ho hw (by have := h.n0; omega)
end
theorem kp_succ {D : List Rn} {k : Nat} (hk : k < D.length) : kp (D.take (k + 1)) = kp (D.take k) ++ (if D[k].t = 41 then [D[k]] else []) := by
  rw [List.take_succ_eq_append_getElem hk, kp_app]
  congr 1
  by_cases h : D[k].t = 41
  · simp [kp, plR, h]
  · simp [kp, plR, h]
theorem own_snocF {w : World} {b : Nat} {v : Value} {E : List Rn} {x : Rn} (h : w.ownsRow b 55 5 v (E.length + [x].length) (rce5 E ++ rce5 [x])) : w.ownsRow b 55 5 v (E ++ [x]).length (rce5 (E ++ [x])) := by
  rw [rce5_app, List.length_append]
  exact h
set_option maxRecDepth 100000 in
set_option maxHeartbeats 8000000 in
/-- not one question -/
theorem rfilter_many (R : List Ru) (pr : Option Addr) (cr : Nat) (j0 j2 j9 : Int) (k1 k3 k4 k5 k6 k7 k8 : Bool) (r0 s0 t0 v0 : Option Addr) (rc sc tc vc : Nat) (P : List Qn) (Am Um Dm : List Rn) (i0 i2 i9 : Int) (b1 b3 b4 b5 b6 b7 b8 : Bool) (q0 a0 u0 d0 : Option Addr) (qc ac uc dc : Nat) (Q : List Qn) (A U D : List Rn) (w : World) (hP : QsAt w r0 P) (hl : LsAt w q0 a0 u0 d0 Q A U D) (hln : Q.length ≤ 1048576 ∧ A.length ≤ 1048576 ∧ U.length ≤ 1048576 ∧ D.length ≤ 1048576) (hne : P.length ≠ 1) :
    Calls Tryz.prog 9 #[.slice pr R.length cr, .agg #[.int .i64 j0, .bool k1, .int .i64 j2, .bool k3, .bool k4, .bool k5, .bool k6, .bool k7, .bool k8, .int .i64 j9, .slice r0 P.length rc, .slice s0 Am.length sc, .slice t0 Um.length tc, .slice v0 Dm.length vc], .agg #[.int .i64 i0, .bool b1, .int .i64 i2, .bool b3, .bool b4, .bool b5, .bool b6, .bool b7, .bool b8, .int .i64 i9, .slice q0 Q.length qc, .slice a0 A.length ac, .slice u0 U.length uc, .slice d0 D.length dc]] w (RfE ⟨i0, b1, i2, b3, b4, b5, b6, b7, b8, i9, ⟨Q, A, U, D⟩, true⟩ w) := by
  obtain ⟨wr, hwr⟩ : ∃ wr, ((w.alloc (.cells #[.int .i64 j0, .bool k1, .int .i64 j2, .bool k3, .bool k4, .bool k5, .bool k6, .bool k7, .bool k8, .int .i64 j9, .slice r0 P.length rc, .slice s0 Am.length sc, .slice t0 Um.length tc, .slice v0 Dm.length vc] 27)).alloc (.cells #[.int .i64 i0, .bool b1, .int .i64 i2, .bool b3, .bool b4, .bool b5, .bool b6, .bool b7, .bool b8, .int .i64 i9, .slice q0 Q.length qc, .slice a0 A.length ac, .slice u0 U.length uc, .slice d0 D.length dc] 27)).alloc (.cells #[.int .i64 0, .bool false, .int .i64 0, .bool false, .bool false, .bool false, .bool false, .bool false, .bool false, .int .i64 0, .slice none 0 0, .slice none 0 0, .slice none 0 0, .slice none 0 0] 27) = wr := ⟨_, rfl⟩
  have H0 : Hid (B3 w wr #[.int .i64 j0, .bool k1, .int .i64 j2, .bool k3, .bool k4, .bool k5, .bool k6, .bool k7, .bool k8, .int .i64 j9, .slice r0 P.length rc, .slice s0 Am.length sc, .slice t0 Um.length tc, .slice v0 Dm.length vc] #[.int .i64 i0, .bool b1, .int .i64 i2, .bool b3, .bool b4, .bool b5, .bool b6, .bool b7, .bool b8, .int .i64 i9, .slice q0 Q.length qc, .slice a0 A.length ac, .slice u0 U.length uc, .slice d0 D.length dc] #[.int .i64 0, .bool false, .int .i64 0, .bool false, .bool false, .bool false, .bool false, .bool false, .bool false, .int .i64 0, .slice none 0 0, .slice none 0 0, .slice none 0 0, .slice none 0 0]) := hwr ▸ B3.new w _ _ _
  have m10 : wr.cell? ⟨w.heap.size, 10, none⟩ = some (.slice r0 P.length rc) := H0.out.m.cell rfl
  have hpn : ((P.length : Int) == 1) = false := by rw [beq_eq_false_iff_ne]; omega
  obtain ⟨x0, x1, x2, x3, x4, x5, x6, x7, x8, x9, x10, x11, x12, x13⟩ := bx14 H0.out.a
  obtain ⟨r0, r1, r2, r3, r4, r5, r6, r7, r8, r9, r10, r11, r12, r13⟩ := bx14 H0.out.r
  obtain ⟨f0, f1, f2, f3, f4, f5, f6, f7, f8, f9, f10, f11, f12, f13⟩ := bx14_free H0.out.r
  obtain ⟨WZ, hWZ⟩ : ∃ W, set14 wr (w.heap.size + 2) (.int .i64 i0) (.bool b1) (.int .i64 i2) (.bool b3) (.bool b4) (.bool b5) (.bool b6) (.bool b7) (.bool b8) (.int .i64 i9) (.slice q0 Q.length qc) (.slice a0 A.length ac) (.slice u0 U.length uc) (.slice d0 D.length dc) = W := ⟨_, rfl⟩
  have HYZ : Hid (Bx WZ (w.heap.size + 2) #[.int .i64 i0, .bool b1, .int .i64 i2, .bool b3, .bool b4, .bool b5, .bool b6, .bool b7, .bool b8, .int .i64 i9, .slice q0 Q.length qc, .slice a0 A.length ac, .slice u0 U.length uc, .slice d0 D.length dc] 27) := (hWZ ▸ bx14_set H0.out.r (.int .i64 i0) (.bool b1) (.int .i64 i2) (.bool b3) (.bool b4) (.bool b5) (.bool b6) (.bool b7) (.bool b8) (.int .i64 i9) (.slice q0 Q.length qc) (.slice a0 A.length ac) (.slice u0 U.length uc) (.slice d0 D.length dc))
  have HBZ : Hid (Below w.heap.size w WZ) := (hWZ ▸ below14 H0.out.b (Nat.le_add_right _ _) H0.out.b.size (.int .i64 i0) (.bool b1) (.int .i64 i2) (.bool b3) (.bool b4) (.bool b5) (.bool b6) (.bool b7) (.bool b8) (.int .i64 i9) (.slice q0 Q.length qc) (.slice a0 A.length ac) (.slice u0 U.length uc) (.slice d0 D.length dc))
  have HGZ : Hid (wr.grownBy WZ (some (w.heap.size + 2))) := (hWZ ▸ grown14 wr (w.heap.size + 2) (.int .i64 i0) (.bool b1) (.int .i64 i2) (.bool b3) (.bool b4) (.bool b5) (.bool b6) (.bool b7) (.bool b8) (.int .i64 i9) (.slice q0 Q.length qc) (.slice a0 A.length ac) (.slice u0 U.length uc) (.slice d0 D.length dc))
  unfold set14 at hWZ
  have HLs := hide' hl
  clear hl hln hP hne
  go_enter Tryz.func9, Tryz.ntmps9
  go_wp2_with fail
  obtain ⟨y0, y1, y2, y3, y4, y5, y6, y7, y8, y9, y10, y11, y12, y13⟩ := bx14 HYZ.out
  exact bodyPost_ret (v := .tuple #[.agg #[.int .i64 i0, .bool b1, .int .i64 i2, .bool b3, .bool b4, .bool b5, .bool b6, .bool b7, .bool b8, .int .i64 i9, .slice q0 Q.length qc, .slice a0 A.length ac, .slice u0 U.length uc, .slice d0 D.length dc], .bool true]) (by simp [results, go_sem, y0, y1, y2, y3, y4, y5, y6, y7, y8, y9, y10, y11, y12, y13]) rfl ⟨q0, a0, u0, d0, qc, ac, uc, dc, rfl, ⟨(HLs.out.below HBZ.out).q, (HLs.out.below HBZ.out).a, (HLs.out.below HBZ.out).u, (HLs.out.below HBZ.out).d⟩, HBZ.out⟩
set_option maxRecDepth 100000 in
set_option maxHeartbeats 8000000 in
/-- no rule -/
theorem rfilter_none (R : List Ru) (pr : Option Addr) (cr : Nat) (j0 j2 j9 : Int) (k1 k3 k4 k5 k6 k7 k8 : Bool) (r0 s0 t0 v0 : Option Addr) (rc sc tc vc : Nat) (P : List Qn) (Am Um Dm : List Rn) (i0 i2 i9 : Int) (b1 b3 b4 b5 b6 b7 b8 : Bool) (q0 a0 u0 d0 : Option Addr) (qc ac uc dc : Nat) (Q : List Qn) (A U D : List Rn) (qn : ByteArray) (qt ql : Int) (w : World) (hP : QsAt w r0 P) (hl : LsAt w q0 a0 u0 d0 Q A U D) (hln : Q.length ≤ 1048576 ∧ A.length ≤ 1048576 ∧ U.length ≤ 1048576 ∧ D.length ≤ 1048576) (hA : RuAt w pr R) (hR : R.length ≤ 1048576) (hz : ∀ x ∈ R, x.n.size ≤ 1048576 ∧ x.d.size ≤ 1048576) (hp : P.length = 1) (hq : P[0]'(by omega) = ⟨qn, qt, ql⟩) (hqs : qn.size ≤ 1048576) (hru : ruI R qn < 0) :
    Calls Tryz.prog 9 #[.slice pr R.length cr, .agg #[.int .i64 j0, .bool k1, .int .i64 j2, .bool k3, .bool k4, .bool k5, .bool k6, .bool k7, .bool k8, .int .i64 j9, .slice r0 P.length rc, .slice s0 Am.length sc, .slice t0 Um.length tc, .slice v0 Dm.length vc], .agg #[.int .i64 i0, .bool b1, .int .i64 i2, .bool b3, .bool b4, .bool b5, .bool b6, .bool b7, .bool b8, .int .i64 i9, .slice q0 Q.length qc, .slice a0 A.length ac, .slice u0 U.length uc, .slice d0 D.length dc]] w (RfE ⟨i0, b1, i2, b3, b4, b5, b6, b7, b8, i9, ⟨Q, A, U, D⟩, true⟩ w) := by
  obtain ⟨wr, hwr⟩ : ∃ wr, ((w.alloc (.cells #[.int .i64 j0, .bool k1, .int .i64 j2, .bool k3, .bool k4, .bool k5, .bool k6, .bool k7, .bool k8, .int .i64 j9, .slice r0 P.length rc, .slice s0 Am.length sc, .slice t0 Um.length tc, .slice v0 Dm.length vc] 27)).alloc (.cells #[.int .i64 i0, .bool b1, .int .i64 i2, .bool b3, .bool b4, .bool b5, .bool b6, .bool b7, .bool b8, .int .i64 i9, .slice q0 Q.length qc, .slice a0 A.length ac, .slice u0 U.length uc, .slice d0 D.length dc] 27)).alloc (.cells #[.int .i64 0, .bool false, .int .i64 0, .bool false, .bool false, .bool false, .bool false, .bool false, .bool false, .int .i64 0, .slice none 0 0, .slice none 0 0, .slice none 0 0, .slice none 0 0] 27) = wr := ⟨_, rfl⟩
  have H0 : Hid (B3 w wr #[.int .i64 j0, .bool k1, .int .i64 j2, .bool k3, .bool k4, .bool k5, .bool k6, .bool k7, .bool k8, .int .i64 j9, .slice r0 P.length rc, .slice s0 Am.length sc, .slice t0 Um.length tc, .slice v0 Dm.length vc] #[.int .i64 i0, .bool b1, .int .i64 i2, .bool b3, .bool b4, .bool b5, .bool b6, .bool b7, .bool b8, .int .i64 i9, .slice q0 Q.length qc, .slice a0 A.length ac, .slice u0 U.length uc, .slice d0 D.length dc] #[.int .i64 0, .bool false, .int .i64 0, .bool false, .bool false, .bool false, .bool false, .bool false, .bool false, .int .i64 0, .slice none 0 0, .slice none 0 0, .slice none 0 0, .slice none 0 0]) := hwr ▸ B3.new w _ _ _
  have m10 : wr.cell? ⟨w.heap.size, 10, none⟩ = some (.slice r0 P.length rc) := H0.out.m.cell rfl
  have hp1 : ((P.length : Int) == 1) = true := by rw [beq_iff_eq]; omega
  obtain ⟨gq, oq, hpq, hgq, z0, z1, z2⟩ := hP 0 (by omega)
  subst hpq
  rw [Nat.zero_mul, Nat.add_zero] at z0 z1 z2
  have hpi : (0 : Int) < (P.length : Int) := by omega
  rw [hq] at z0 z1 z2
  simp only at z0 z1 z2
  have zr0 : wr.cell? ⟨gq, oq, none⟩ = some (.string qn) := (H0.out.b.cell (p := ⟨gq, oq, none⟩) hgq).trans z0
  have zr1 : wr.cell? ⟨gq, oq + 1, none⟩ = some (.int .i64 qt) := (H0.out.b.cell (p := ⟨gq, oq + 1, none⟩) hgq).trans z1
  have zr2 : wr.cell? ⟨gq, oq + 2, none⟩ = some (.int .i64 ql) := (H0.out.b.cell (p := ⟨gq, oq + 2, none⟩) hgq).trans z2
  obtain ⟨wq, hwq⟩ : ∃ W, wr.alloc (.cells #[.string qn, .int .i64 qt, .int .i64 ql] 52) = W := ⟨_, rfl⟩
  have HQB : Hid (Bx wq wr.heap.size #[.string qn, .int .i64 qt, .int .i64 ql] 52) := hwq ▸ World.alloc_heap_new wr _
  have H1 := hide' (H0.out.step (alloc_belF hwq))
  have q00 : wq.cell? ⟨wr.heap.size, 0, none⟩ = some (.string qn) := HQB.out.cell rfl
  have HRu : Hid (∀ V, Below w.heap.size w V → Calls Tryz.prog 6 #[.slice pr R.length cr, .string qn] V fun e w' => e = .returned (.int .i64 (ruI R qn)) ∧ Below V.heap.size V w') := fun V hV => refRule_any R pr cr qn V (by
    intro k hk
    obtain ⟨g, off, h1, h2, e0, e1, e2, e3, e4, e5⟩ := hA k hk
    have c := fun (j : Nat) => hV.cell (p := ⟨g, j, none⟩) h2
    exact ⟨g, off, h1, Nat.lt_of_lt_of_le h2 hV.size, (c _).trans e0, (c _).trans e1, (c _).trans e2, (c _).trans e3, (c _).trans e4, (c _).trans e5⟩) hR hz hqs
  obtain ⟨ri, hri⟩ : ∃ z, ruI R qn = z := ⟨_, rfl⟩
  rw [hri] at HRu hru
  have hrd : decide (ri < 0) = true := decide_eq_true hru
  have HLs := hide' hl
  clear hri hl hln hA hz hP z0 z1 z2 hp hq hgq
  go_enter Tryz.func9, Tryz.ntmps9
  go_wp2_with (go_at_call 6; (with_reducible refine (HRu.out _ H1.out.b).mono ?_); rintro e w2 ⟨rfl, hB⟩; have H2 := hide' (H1.out.step hB); obtain ⟨x0, x1, x2, x3, x4, x5, x6, x7, x8, x9, x10, x11, x12, x13⟩ := bx14 H2.out.a; obtain ⟨r0, r1, r2, r3, r4, r5, r6, r7, r8, r9, r10, r11, r12, r13⟩ := bx14 H2.out.r; obtain ⟨f0, f1, f2, f3, f4, f5, f6, f7, f8, f9, f10, f11, f12, f13⟩ := bx14_free H2.out.r; obtain ⟨WZ, hWZ⟩ : ∃ W, set14 w2 (w.heap.size + 2) (.int .i64 i0) (.bool b1) (.int .i64 i2) (.bool b3) (.bool b4) (.bool b5) (.bool b6) (.bool b7) (.bool b8) (.int .i64 i9) (.slice q0 Q.length qc) (.slice a0 A.length ac) (.slice u0 U.length uc) (.slice d0 D.length dc) = W := ⟨_, rfl⟩; have HYZ : Hid (Bx WZ (w.heap.size + 2) #[.int .i64 i0, .bool b1, .int .i64 i2, .bool b3, .bool b4, .bool b5, .bool b6, .bool b7, .bool b8, .int .i64 i9, .slice q0 Q.length qc, .slice a0 A.length ac, .slice u0 U.length uc, .slice d0 D.length dc] 27) := (hWZ ▸ bx14_set H2.out.r (.int .i64 i0) (.bool b1) (.int .i64 i2) (.bool b3) (.bool b4) (.bool b5) (.bool b6) (.bool b7) (.bool b8) (.int .i64 i9) (.slice q0 Q.length qc) (.slice a0 A.length ac) (.slice u0 U.length uc) (.slice d0 D.length dc)); have HBZ : Hid (Below w.heap.size w WZ) := (hWZ ▸ below14 H2.out.b (Nat.le_add_right _ _) H2.out.b.size (.int .i64 i0) (.bool b1) (.int .i64 i2) (.bool b3) (.bool b4) (.bool b5) (.bool b6) (.bool b7) (.bool b8) (.int .i64 i9) (.slice q0 Q.length qc) (.slice a0 A.length ac) (.slice u0 U.length uc) (.slice d0 D.length dc)); have HGZ : Hid (w2.grownBy WZ (some (w.heap.size + 2))) := (hWZ ▸ grown14 w2 (w.heap.size + 2) (.int .i64 i0) (.bool b1) (.int .i64 i2) (.bool b3) (.bool b4) (.bool b5) (.bool b6) (.bool b7) (.bool b8) (.int .i64 i9) (.slice q0 Q.length qc) (.slice a0 A.length ac) (.slice u0 U.length uc) (.slice d0 D.length dc)); unfold set14 at hWZ; clear hB)
  obtain ⟨y0, y1, y2, y3, y4, y5, y6, y7, y8, y9, y10, y11, y12, y13⟩ := bx14 HYZ.out
  exact bodyPost_ret (v := .tuple #[.agg #[.int .i64 i0, .bool b1, .int .i64 i2, .bool b3, .bool b4, .bool b5, .bool b6, .bool b7, .bool b8, .int .i64 i9, .slice q0 Q.length qc, .slice a0 A.length ac, .slice u0 U.length uc, .slice d0 D.length dc], .bool true]) (by simp [results, go_sem, y0, y1, y2, y3, y4, y5, y6, y7, y8, y9, y10, y11, y12, y13]) rfl ⟨q0, a0, u0, d0, qc, ac, uc, dc, rfl, ⟨(HLs.out.below HBZ.out).q, (HLs.out.below HBZ.out).a, (HLs.out.below HBZ.out).u, (HLs.out.below HBZ.out).d⟩, HBZ.out⟩
set_option maxRecDepth 100000 in
set_option maxHeartbeats 8000000 in
/-- a rule that lets it pass -/
theorem rfilter_pass (R : List Ru) (pr : Option Addr) (cr : Nat) (j0 j2 j9 : Int) (k1 k3 k4 k5 k6 k7 k8 : Bool) (r0 s0 t0 v0 : Option Addr) (rc sc tc vc : Nat) (P : List Qn) (Am Um Dm : List Rn) (i0 i2 i9 : Int) (b1 b3 b4 b5 b6 b7 b8 : Bool) (q0 a0 u0 d0 : Option Addr) (qc ac uc dc : Nat) (Q : List Qn) (A U D : List Rn) (qn : ByteArray) (qt ql : Int) (ii : Nat) (xn : ByteArray) (xb : Bool) (xt xl : Int) (xd : ByteArray) (w : World) (hP : QsAt w r0 P) (hl : LsAt w q0 a0 u0 d0 Q A U D) (hln : Q.length ≤ 1048576 ∧ A.length ≤ 1048576 ∧ U.length ≤ 1048576 ∧ D.length ≤ 1048576) (hA : RuAt w pr R) (hR : R.length ≤ 1048576) (hz : ∀ x ∈ R, x.n.size ≤ 1048576 ∧ x.d.size ≤ 1048576) (hp : P.length = 1) (hq : P[0]'(by omega) = ⟨qn, qt, ql⟩) (hqs : qn.size ≤ 1048576) (hii : ii < R.length) (hru : ruI R qn = (ii : Int)) (hx : R[ii]'hii = ⟨xn, xb, 0, xt, xl, xd⟩) :
    Calls Tryz.prog 9 #[.slice pr R.length cr, .agg #[.int .i64 j0, .bool k1, .int .i64 j2, .bool k3, .bool k4, .bool k5, .bool k6, .bool k7, .bool k8, .int .i64 j9, .slice r0 P.length rc, .slice s0 Am.length sc, .slice t0 Um.length tc, .slice v0 Dm.length vc], .agg #[.int .i64 i0, .bool b1, .int .i64 i2, .bool b3, .bool b4, .bool b5, .bool b6, .bool b7, .bool b8, .int .i64 i9, .slice q0 Q.length qc, .slice a0 A.length ac, .slice u0 U.length uc, .slice d0 D.length dc]] w (RfE ⟨i0, b1, i2, b3, b4, b5, b6, b7, b8, i9, ⟨Q, A, U, D⟩, true⟩ w) := by
  obtain ⟨wr, hwr⟩ : ∃ wr, ((w.alloc (.cells #[.int .i64 j0, .bool k1, .int .i64 j2, .bool k3, .bool k4, .bool k5, .bool k6, .bool k7, .bool k8, .int .i64 j9, .slice r0 P.length rc, .slice s0 Am.length sc, .slice t0 Um.length tc, .slice v0 Dm.length vc] 27)).alloc (.cells #[.int .i64 i0, .bool b1, .int .i64 i2, .bool b3, .bool b4, .bool b5, .bool b6, .bool b7, .bool b8, .int .i64 i9, .slice q0 Q.length qc, .slice a0 A.length ac, .slice u0 U.length uc, .slice d0 D.length dc] 27)).alloc (.cells #[.int .i64 0, .bool false, .int .i64 0, .bool false, .bool false, .bool false, .bool false, .bool false, .bool false, .int .i64 0, .slice none 0 0, .slice none 0 0, .slice none 0 0, .slice none 0 0] 27) = wr := ⟨_, rfl⟩
  have H0 : Hid (B3 w wr #[.int .i64 j0, .bool k1, .int .i64 j2, .bool k3, .bool k4, .bool k5, .bool k6, .bool k7, .bool k8, .int .i64 j9, .slice r0 P.length rc, .slice s0 Am.length sc, .slice t0 Um.length tc, .slice v0 Dm.length vc] #[.int .i64 i0, .bool b1, .int .i64 i2, .bool b3, .bool b4, .bool b5, .bool b6, .bool b7, .bool b8, .int .i64 i9, .slice q0 Q.length qc, .slice a0 A.length ac, .slice u0 U.length uc, .slice d0 D.length dc] #[.int .i64 0, .bool false, .int .i64 0, .bool false, .bool false, .bool false, .bool false, .bool false, .bool false, .int .i64 0, .slice none 0 0, .slice none 0 0, .slice none 0 0, .slice none 0 0]) := hwr ▸ B3.new w _ _ _
  have m10 : wr.cell? ⟨w.heap.size, 10, none⟩ = some (.slice r0 P.length rc) := H0.out.m.cell rfl
  have hp1 : ((P.length : Int) == 1) = true := by rw [beq_iff_eq]; omega
  obtain ⟨gq, oq, hpq, hgq, z0, z1, z2⟩ := hP 0 (by omega)
  subst hpq
  rw [Nat.zero_mul, Nat.add_zero] at z0 z1 z2
  have hpi : (0 : Int) < (P.length : Int) := by omega
  rw [hq] at z0 z1 z2
  simp only at z0 z1 z2
  have zr0 : wr.cell? ⟨gq, oq, none⟩ = some (.string qn) := (H0.out.b.cell (p := ⟨gq, oq, none⟩) hgq).trans z0
  have zr1 : wr.cell? ⟨gq, oq + 1, none⟩ = some (.int .i64 qt) := (H0.out.b.cell (p := ⟨gq, oq + 1, none⟩) hgq).trans z1
  have zr2 : wr.cell? ⟨gq, oq + 2, none⟩ = some (.int .i64 ql) := (H0.out.b.cell (p := ⟨gq, oq + 2, none⟩) hgq).trans z2
  obtain ⟨wq, hwq⟩ : ∃ W, wr.alloc (.cells #[.string qn, .int .i64 qt, .int .i64 ql] 52) = W := ⟨_, rfl⟩
  have HQB : Hid (Bx wq wr.heap.size #[.string qn, .int .i64 qt, .int .i64 ql] 52) := hwq ▸ World.alloc_heap_new wr _
  have H1 := hide' (H0.out.step (alloc_belF hwq))
  have q00 : wq.cell? ⟨wr.heap.size, 0, none⟩ = some (.string qn) := HQB.out.cell rfl
  have HRu : Hid (∀ V, Below w.heap.size w V → Calls Tryz.prog 6 #[.slice pr R.length cr, .string qn] V fun e w' => e = .returned (.int .i64 (ruI R qn)) ∧ Below V.heap.size V w') := fun V hV => refRule_any R pr cr qn V (by
    intro k hk
    obtain ⟨g, off, h1, h2, e0, e1, e2, e3, e4, e5⟩ := hA k hk
    have c := fun (j : Nat) => hV.cell (p := ⟨g, j, none⟩) h2
    exact ⟨g, off, h1, Nat.lt_of_lt_of_le h2 hV.size, (c _).trans e0, (c _).trans e1, (c _).trans e2, (c _).trans e3, (c _).trans e4, (c _).trans e5⟩) hR hz hqs
  have HRu2 : Hid (∀ V, Below w.heap.size w V → Calls Tryz.prog 6 #[.slice pr R.length cr, .string qn] V fun e w' => e = .returned (.int .i64 (ii : Int)) ∧ Below V.heap.size V w') := by
    rw [← hru]
    exact HRu
  have HA := hide' hA
  have hii' : (ii : Int) < (R.length : Int) := by omega
  have hi0 : (0 : Int) ≤ (ii : Int) := by omega
  have hnl : ¬ (ii : Int) < 0 := by omega
  obtain ⟨gr, og, hpr, hgr, -⟩ := hA ii hii
  subst hpr
  have HCe : Hid (∀ V, Below w.heap.size w V → V.cell? ⟨gr, og + ii * 6, none⟩ = some (.string xn) ∧ V.cell? ⟨gr, og + ii * 6 + 1, none⟩ = some (.bool xb) ∧ V.cell? ⟨gr, og + ii * 6 + 2, none⟩ = some (.int .i64 0) ∧ V.cell? ⟨gr, og + ii * 6 + 3, none⟩ = some (.int .i64 xt) ∧ V.cell? ⟨gr, og + ii * 6 + 4, none⟩ = some (.int .i64 xl) ∧ V.cell? ⟨gr, og + ii * 6 + 5, none⟩ = some (.string xd)) := fun V hV => by
    obtain ⟨g, off, h1, h2, e0, e1, e2, e3, e4, e5⟩ := HA.out ii hii
    injection h1 with h1
    injection h1 with g1 g2
    subst g1 g2
    rw [hx] at e0 e1 e2 e3 e4 e5
    have c := fun (j : Nat) => hV.cell (p := ⟨gr, j, none⟩) h2
    exact ⟨(c _).trans e0, (c _).trans e1, (c _).trans e2, (c _).trans e3, (c _).trans e4, (c _).trans e5⟩
  clear HRu
  have hnd : decide ((ii : Int) < 0) = false := decide_eq_false hnl
  have HLs := hide' hl
  clear hl hln hA hz hP z0 z1 z2 hp hq hgq hx hru
  go_enter Tryz.func9, Tryz.ntmps9
  go_wp2_with (go_at_call 6; (with_reducible refine (HRu2.out _ H1.out.b).mono ?_); rintro e w2 ⟨rfl, hB⟩; have H2 := hide' (H1.out.step hB); obtain ⟨c0, c1', c2, c3, c4, c5⟩ := HCe.out _ H2.out.b; obtain ⟨x0, x1, x2, x3, x4, x5, x6, x7, x8, x9, x10, x11, x12, x13⟩ := bx14 H2.out.a; obtain ⟨r0, r1, r2, r3, r4, r5, r6, r7, r8, r9, r10, r11, r12, r13⟩ := bx14 H2.out.r; obtain ⟨f0, f1, f2, f3, f4, f5, f6, f7, f8, f9, f10, f11, f12, f13⟩ := bx14_free H2.out.r; obtain ⟨WZ, hWZ⟩ : ∃ W, set14 w2 (w.heap.size + 2) (.int .i64 i0) (.bool b1) (.int .i64 i2) (.bool b3) (.bool b4) (.bool b5) (.bool b6) (.bool b7) (.bool b8) (.int .i64 i9) (.slice q0 Q.length qc) (.slice a0 A.length ac) (.slice u0 U.length uc) (.slice d0 D.length dc) = W := ⟨_, rfl⟩; have HYZ : Hid (Bx WZ (w.heap.size + 2) #[.int .i64 i0, .bool b1, .int .i64 i2, .bool b3, .bool b4, .bool b5, .bool b6, .bool b7, .bool b8, .int .i64 i9, .slice q0 Q.length qc, .slice a0 A.length ac, .slice u0 U.length uc, .slice d0 D.length dc] 27) := (hWZ ▸ bx14_set H2.out.r (.int .i64 i0) (.bool b1) (.int .i64 i2) (.bool b3) (.bool b4) (.bool b5) (.bool b6) (.bool b7) (.bool b8) (.int .i64 i9) (.slice q0 Q.length qc) (.slice a0 A.length ac) (.slice u0 U.length uc) (.slice d0 D.length dc)); have HBZ : Hid (Below w.heap.size w WZ) := (hWZ ▸ below14 H2.out.b (Nat.le_add_right _ _) H2.out.b.size (.int .i64 i0) (.bool b1) (.int .i64 i2) (.bool b3) (.bool b4) (.bool b5) (.bool b6) (.bool b7) (.bool b8) (.int .i64 i9) (.slice q0 Q.length qc) (.slice a0 A.length ac) (.slice u0 U.length uc) (.slice d0 D.length dc)); have HGZ : Hid (w2.grownBy WZ (some (w.heap.size + 2))) := (hWZ ▸ grown14 w2 (w.heap.size + 2) (.int .i64 i0) (.bool b1) (.int .i64 i2) (.bool b3) (.bool b4) (.bool b5) (.bool b6) (.bool b7) (.bool b8) (.int .i64 i9) (.slice q0 Q.length qc) (.slice a0 A.length ac) (.slice u0 U.length uc) (.slice d0 D.length dc)); unfold set14 at hWZ; clear hB)
  obtain ⟨y0, y1, y2, y3, y4, y5, y6, y7, y8, y9, y10, y11, y12, y13⟩ := bx14 HYZ.out
  exact bodyPost_ret (v := .tuple #[.agg #[.int .i64 i0, .bool b1, .int .i64 i2, .bool b3, .bool b4, .bool b5, .bool b6, .bool b7, .bool b8, .int .i64 i9, .slice q0 Q.length qc, .slice a0 A.length ac, .slice u0 U.length uc, .slice d0 D.length dc], .bool true]) (by simp [results, go_sem, y0, y1, y2, y3, y4, y5, y6, y7, y8, y9, y10, y11, y12, y13]) rfl ⟨q0, a0, u0, d0, qc, ac, uc, dc, rfl, ⟨(HLs.out.below HBZ.out).q, (HLs.out.below HBZ.out).a, (HLs.out.below HBZ.out).u, (HLs.out.below HBZ.out).d⟩, HBZ.out⟩
set_option maxRecDepth 100000 in
set_option maxHeartbeats 8000000 in
/-- a rule that drops it -/
theorem rfilter_drop (R : List Ru) (pr : Option Addr) (cr : Nat) (j0 j2 j9 : Int) (k1 k3 k4 k5 k6 k7 k8 : Bool) (r0 s0 t0 v0 : Option Addr) (rc sc tc vc : Nat) (P : List Qn) (Am Um Dm : List Rn) (i0 i2 i9 : Int) (b1 b3 b4 b5 b6 b7 b8 : Bool) (q0 a0 u0 d0 : Option Addr) (qc ac uc dc : Nat) (Q : List Qn) (A U D : List Rn) (qn : ByteArray) (qt ql : Int) (ii : Nat) (xn : ByteArray) (xb : Bool) (xt xl : Int) (xd : ByteArray) (w : World) (hP : QsAt w r0 P) (hl : LsAt w q0 a0 u0 d0 Q A U D) (hln : Q.length ≤ 1048576 ∧ A.length ≤ 1048576 ∧ U.length ≤ 1048576 ∧ D.length ≤ 1048576) (hA : RuAt w pr R) (hR : R.length ≤ 1048576) (hz : ∀ x ∈ R, x.n.size ≤ 1048576 ∧ x.d.size ≤ 1048576) (hp : P.length = 1) (hq : P[0]'(by omega) = ⟨qn, qt, ql⟩) (hqs : qn.size ≤ 1048576) (hii : ii < R.length) (hru : ruI R qn = (ii : Int)) (hx : R[ii]'hii = ⟨xn, xb, 1, xt, xl, xd⟩) :
    Calls Tryz.prog 9 #[.slice pr R.length cr, .agg #[.int .i64 j0, .bool k1, .int .i64 j2, .bool k3, .bool k4, .bool k5, .bool k6, .bool k7, .bool k8, .int .i64 j9, .slice r0 P.length rc, .slice s0 Am.length sc, .slice t0 Um.length tc, .slice v0 Dm.length vc], .agg #[.int .i64 i0, .bool b1, .int .i64 i2, .bool b3, .bool b4, .bool b5, .bool b6, .bool b7, .bool b8, .int .i64 i9, .slice q0 Q.length qc, .slice a0 A.length ac, .slice u0 U.length uc, .slice d0 D.length dc]] w (RfE zeroM w) := by
  obtain ⟨wr, hwr⟩ : ∃ wr, ((w.alloc (.cells #[.int .i64 j0, .bool k1, .int .i64 j2, .bool k3, .bool k4, .bool k5, .bool k6, .bool k7, .bool k8, .int .i64 j9, .slice r0 P.length rc, .slice s0 Am.length sc, .slice t0 Um.length tc, .slice v0 Dm.length vc] 27)).alloc (.cells #[.int .i64 i0, .bool b1, .int .i64 i2, .bool b3, .bool b4, .bool b5, .bool b6, .bool b7, .bool b8, .int .i64 i9, .slice q0 Q.length qc, .slice a0 A.length ac, .slice u0 U.length uc, .slice d0 D.length dc] 27)).alloc (.cells #[.int .i64 0, .bool false, .int .i64 0, .bool false, .bool false, .bool false, .bool false, .bool false, .bool false, .int .i64 0, .slice none 0 0, .slice none 0 0, .slice none 0 0, .slice none 0 0] 27) = wr := ⟨_, rfl⟩
  have H0 : Hid (B3 w wr #[.int .i64 j0, .bool k1, .int .i64 j2, .bool k3, .bool k4, .bool k5, .bool k6, .bool k7, .bool k8, .int .i64 j9, .slice r0 P.length rc, .slice s0 Am.length sc, .slice t0 Um.length tc, .slice v0 Dm.length vc] #[.int .i64 i0, .bool b1, .int .i64 i2, .bool b3, .bool b4, .bool b5, .bool b6, .bool b7, .bool b8, .int .i64 i9, .slice q0 Q.length qc, .slice a0 A.length ac, .slice u0 U.length uc, .slice d0 D.length dc] #[.int .i64 0, .bool false, .int .i64 0, .bool false, .bool false, .bool false, .bool false, .bool false, .bool false, .int .i64 0, .slice none 0 0, .slice none 0 0, .slice none 0 0, .slice none 0 0]) := hwr ▸ B3.new w _ _ _
  have m10 : wr.cell? ⟨w.heap.size, 10, none⟩ = some (.slice r0 P.length rc) := H0.out.m.cell rfl
  have hp1 : ((P.length : Int) == 1) = true := by rw [beq_iff_eq]; omega
  obtain ⟨gq, oq, hpq, hgq, z0, z1, z2⟩ := hP 0 (by omega)
  subst hpq
  rw [Nat.zero_mul, Nat.add_zero] at z0 z1 z2
  have hpi : (0 : Int) < (P.length : Int) := by omega
  rw [hq] at z0 z1 z2
  simp only at z0 z1 z2
  have zr0 : wr.cell? ⟨gq, oq, none⟩ = some (.string qn) := (H0.out.b.cell (p := ⟨gq, oq, none⟩) hgq).trans z0
  have zr1 : wr.cell? ⟨gq, oq + 1, none⟩ = some (.int .i64 qt) := (H0.out.b.cell (p := ⟨gq, oq + 1, none⟩) hgq).trans z1
  have zr2 : wr.cell? ⟨gq, oq + 2, none⟩ = some (.int .i64 ql) := (H0.out.b.cell (p := ⟨gq, oq + 2, none⟩) hgq).trans z2
  obtain ⟨wq, hwq⟩ : ∃ W, wr.alloc (.cells #[.string qn, .int .i64 qt, .int .i64 ql] 52) = W := ⟨_, rfl⟩
  have HQB : Hid (Bx wq wr.heap.size #[.string qn, .int .i64 qt, .int .i64 ql] 52) := hwq ▸ World.alloc_heap_new wr _
  have H1 := hide' (H0.out.step (alloc_belF hwq))
  have q00 : wq.cell? ⟨wr.heap.size, 0, none⟩ = some (.string qn) := HQB.out.cell rfl
  have HRu : Hid (∀ V, Below w.heap.size w V → Calls Tryz.prog 6 #[.slice pr R.length cr, .string qn] V fun e w' => e = .returned (.int .i64 (ruI R qn)) ∧ Below V.heap.size V w') := fun V hV => refRule_any R pr cr qn V (by
    intro k hk
    obtain ⟨g, off, h1, h2, e0, e1, e2, e3, e4, e5⟩ := hA k hk
    have c := fun (j : Nat) => hV.cell (p := ⟨g, j, none⟩) h2
    exact ⟨g, off, h1, Nat.lt_of_lt_of_le h2 hV.size, (c _).trans e0, (c _).trans e1, (c _).trans e2, (c _).trans e3, (c _).trans e4, (c _).trans e5⟩) hR hz hqs
  have HRu2 : Hid (∀ V, Below w.heap.size w V → Calls Tryz.prog 6 #[.slice pr R.length cr, .string qn] V fun e w' => e = .returned (.int .i64 (ii : Int)) ∧ Below V.heap.size V w') := by
    rw [← hru]
    exact HRu
  have HA := hide' hA
  have hii' : (ii : Int) < (R.length : Int) := by omega
  have hi0 : (0 : Int) ≤ (ii : Int) := by omega
  have hnl : ¬ (ii : Int) < 0 := by omega
  obtain ⟨gr, og, hpr, hgr, -⟩ := hA ii hii
  subst hpr
  have HCe : Hid (∀ V, Below w.heap.size w V → V.cell? ⟨gr, og + ii * 6, none⟩ = some (.string xn) ∧ V.cell? ⟨gr, og + ii * 6 + 1, none⟩ = some (.bool xb) ∧ V.cell? ⟨gr, og + ii * 6 + 2, none⟩ = some (.int .i64 1) ∧ V.cell? ⟨gr, og + ii * 6 + 3, none⟩ = some (.int .i64 xt) ∧ V.cell? ⟨gr, og + ii * 6 + 4, none⟩ = some (.int .i64 xl) ∧ V.cell? ⟨gr, og + ii * 6 + 5, none⟩ = some (.string xd)) := fun V hV => by
    obtain ⟨g, off, h1, h2, e0, e1, e2, e3, e4, e5⟩ := HA.out ii hii
    injection h1 with h1
    injection h1 with g1 g2
    subst g1 g2
    rw [hx] at e0 e1 e2 e3 e4 e5
    have c := fun (j : Nat) => hV.cell (p := ⟨gr, j, none⟩) h2
    exact ⟨(c _).trans e0, (c _).trans e1, (c _).trans e2, (c _).trans e3, (c _).trans e4, (c _).trans e5⟩
  clear HRu
  have hnd : decide ((ii : Int) < 0) = false := decide_eq_false hnl
  clear hl hln hA hz hP z0 z1 z2 hp hq hgq hx hru
  go_enter Tryz.func9, Tryz.ntmps9
  go_wp2_with (go_at_call 6; (with_reducible refine (HRu2.out _ H1.out.b).mono ?_); rintro e w2 ⟨rfl, hB⟩; have H2 := hide' (H1.out.step hB); obtain ⟨c0, c1', c2, c3, c4, c5⟩ := HCe.out _ H2.out.b; obtain ⟨wu, hwu⟩ : ∃ W, w2.alloc (.cells #[.string xn, .bool xb, .int .i64 1, .int .i64 xt, .int .i64 xl, .string xd] 45) = W := ⟨_, rfl⟩; have HUB : Hid (Bx wu w2.heap.size #[.string xn, .bool xb, .int .i64 1, .int .i64 xt, .int .i64 xl, .string xd] 45) := (hwu ▸ World.alloc_heap_new w2 _); have HQ2 := hide' ((HQB.out.below hB HQB.out.lt).below (alloc_belF hwu) (HQB.out.below hB HQB.out.lt).lt); have H3 := hide' (H2.out.step (alloc_belF hwu)); have u2 : wu.cell? ⟨w2.heap.size, 2, none⟩ = some (.int .i64 1) := HUB.out.cell rfl; obtain ⟨x0, x1, x2, x3, x4, x5, x6, x7, x8, x9, x10, x11, x12, x13⟩ := bx14 H3.out.a; obtain ⟨r0, r1, r2, r3, r4, r5, r6, r7, r8, r9, r10, r11, r12, r13⟩ := bx14 H3.out.r; obtain ⟨f0, f1, f2, f3, f4, f5, f6, f7, f8, f9, f10, f11, f12, f13⟩ := bx14_free H3.out.r; obtain ⟨WZ, hWZ⟩ : ∃ W, set14 wu (w.heap.size + 2) (.int .i64 0) (.bool false) (.int .i64 0) (.bool false) (.bool false) (.bool false) (.bool false) (.bool false) (.bool false) (.int .i64 0) (.slice none 0 0) (.slice none 0 0) (.slice none 0 0) (.slice none 0 0) = W := ⟨_, rfl⟩; have HYZ : Hid (Bx WZ (w.heap.size + 2) #[.int .i64 0, .bool false, .int .i64 0, .bool false, .bool false, .bool false, .bool false, .bool false, .bool false, .int .i64 0, .slice none 0 0, .slice none 0 0, .slice none 0 0, .slice none 0 0] 27) := (hWZ ▸ bx14_set H3.out.r (.int .i64 0) (.bool false) (.int .i64 0) (.bool false) (.bool false) (.bool false) (.bool false) (.bool false) (.bool false) (.int .i64 0) (.slice none 0 0) (.slice none 0 0) (.slice none 0 0) (.slice none 0 0)); have HBZ : Hid (Below w.heap.size w WZ) := (hWZ ▸ below14 H3.out.b (Nat.le_add_right _ _) H3.out.b.size (.int .i64 0) (.bool false) (.int .i64 0) (.bool false) (.bool false) (.bool false) (.bool false) (.bool false) (.bool false) (.int .i64 0) (.slice none 0 0) (.slice none 0 0) (.slice none 0 0) (.slice none 0 0)); have HGZ : Hid (wu.grownBy WZ (some (w.heap.size + 2))) := (hWZ ▸ grown14 wu (w.heap.size + 2) (.int .i64 0) (.bool false) (.int .i64 0) (.bool false) (.bool false) (.bool false) (.bool false) (.bool false) (.bool false) (.int .i64 0) (.slice none 0 0) (.slice none 0 0) (.slice none 0 0) (.slice none 0 0)); unfold set14 at hWZ; clear hB)
  obtain ⟨y0, y1, y2, y3, y4, y5, y6, y7, y8, y9, y10, y11, y12, y13⟩ := bx14 HYZ.out
  exact bodyPost_ret (v := .tuple #[.agg #[.int .i64 0, .bool false, .int .i64 0, .bool false, .bool false, .bool false, .bool false, .bool false, .bool false, .int .i64 0, .slice none 0 0, .slice none 0 0, .slice none 0 0, .slice none 0 0], .bool false]) (by simp [results, go_sem, y0, y1, y2, y3, y4, y5, y6, y7, y8, y9, y10, y11, y12, y13]) rfl ⟨none, none, none, none, 0, 0, 0, 0, rfl, ⟨fun k hk => (by cases hk), fun k hk => (by cases hk), fun k hk => (by cases hk), fun k hk => (by cases hk)⟩, HBZ.out⟩
end Go.Proofs.YtligjbcinahgdaaGreat
