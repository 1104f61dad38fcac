import Derived.Test.YtinnmfidnecncaaFt1G
import Derived.Test.YtinnmfidnecncaaPk14G
import Derived.Test.YtinnmfidnecncaaWc3G
import Derived.Lib.SliceRun
/-
  wire.fits; slices.Clone of questions and records. (The verifier's own text.)
-/
namespace Go.Proofs.Ytinnmfidnecncaa
set_option linter.unusedVariables false
open Go.RowKit Go.Shelf Go.Maps Go.Proofs.Ytinnmfidnecncaa.Nm

theorem below_q2 {w : World} (m : Nat) : Below w.heap.size w (w.drewN m) := ⟨rfl, rfl, rfl, Nat.le_refl _, fun _ _ => rfl⟩
/-- what fits writes -/
def fitR (most : Int) (i0 i2 i9 : Nat) (b1 b3 b4 b5 b6 b7 b8 : Bool) (Q : List Qn) (A U D : List Rn) : PS × Nat :=
  runR most (A ++ U ++ D) (quesL Q (headP i0 i2 i9 b1 b3 b4 b5 b6 b7 b8 Q.length A.length U.length D.length ⟨.empty, []⟩)) 0
theorem runR_le (most : Int) : ∀ (L : List Rn) (s : PS) (c : Nat), (runR most L s c).2 ≤ c + L.length
  | [], s, c => Nat.le_refl _
  | r :: l, s, c => by
    unfold runR
    by_cases hm : most < (s.out.size : Int)
    · rw [if_pos hm]; simp
    · rw [if_neg hm]
      have := runR_le most l (recR r s) (c + 1)
      simp only [List.length_cons]; omega
theorem runR_big (most : Int) (hm : most ≤ 65535) : ∀ (L : List Rn) (s : PS) (c : Nat), (∀ r ∈ L, rOK r = true) → POk s → s.out.size ≤ 17000000 → (runR most L s c).1.out.size ≤ 17100000
  | [], s, c, _, _, h => by show s.out.size ≤ _; omega
  | r :: l, s, c, hL, hs, h => by
    unfold runR
    by_cases hm2 : most < (s.out.size : Int)
    · rw [if_pos hm2]; show s.out.size ≤ _; omega
    · rw [if_neg hm2]
      obtain ⟨h1, h2, h3⟩ := recR_ok (hL r List.mem_cons_self) hs
      by_cases h5 : (recR r s).out.size ≤ 17000000
      · exact runR_big most hm l (recR r s) (c + 1) (fun x hx => hL x (List.mem_cons_of_mem _ hx)) h1 h5
      · omega

set_option maxRecDepth 100000 in
set_option maxHeartbeats 2000000 in
/-- wire.fits -/
theorem fits_any (M i0 i2 i9 : Nat) (b1 b3 b4 b5 b6 b7 b8 : Bool) (q0 a0 u0 d0 : Option Addr) (qc ac uc dc : Nat) (Q : List Qn) (A U D : List Rn) (most : Int) (w : World) (hM : M < w.heap.size) (hx : Bx w M #[.int .i64 (i0 : Int), .bool b1, .int .i64 (i2 : Int), .bool b3, .bool b4, .bool b5, .bool b6, .bool b7, .bool b8, .int .i64 (i9 : Int), .slice q0 Q.length qc, .slice a0 A.length ac, .slice u0 U.length uc, .slice d0 D.length dc] 25) (hl : LsAt w q0 a0 u0 d0 Q A U D) (hm : msgOK i0 i2 i9 Q A U D = true) (hmost : most ≤ 65535) (hmost0 : -9223372036854775808 ≤ most) :
    Calls Try.prog 23 #[.pointer (some ⟨M, 0, none⟩), .int .i64 most] w fun e w' => (if (((fitR most i0 i2 i9 b1 b3 b4 b5 b6 b7 b8 Q A U D).1.out.size : Nat) : Int) ≤ most then e = .returned (.tuple #[.int .i64 0, .bool true]) else e = .returned (.tuple #[.int .i64 (((fitR most i0 i2 i9 b1 b3 b4 b5 b6 b7 b8 Q A U D).2 - A.length - U.length : Nat) : Int), .bool false])) ∧ Below w.heap.size w w' := by
  obtain ⟨⟨n0, e0, k0⟩, ⟨n2, e2, k2⟩, ⟨n9, e9, k9⟩, lq, la, lu, ld, hlst⟩ := msgOK_parts hm
  have g0 : i0 < 65536 := by omega
  have g2 : i2 < 16 := by omega
  have g9 : i9 < 16 := by omega
  clear e0 k0 e2 k2 e9 k9
  obtain ⟨oq, oa, ou, od⟩ := lstOK_parts hlst
  have hle := runR_le most (A ++ U ++ D) (quesL Q (headP i0 i2 i9 b1 b3 b4 b5 b6 b7 b8 Q.length A.length U.length D.length ⟨.empty, []⟩)) 0
  simp only [List.length_append, Nat.zero_add] at hle
  obtain ⟨r, hr⟩ : ∃ r, fitR most i0 i2 i9 b1 b3 b4 b5 b6 b7 b8 Q A U D = r := ⟨_, rfl⟩
  rw [hr]
  have HR := hide' hr
  unfold fitR at hr
  rw [hr] at hle
  have hx11 : w.cell? ⟨M, 11, none⟩ = some (.slice a0 A.length ac) := hx.cell rfl
  have HX := hide' hx
  have HL := hide' hl
  obtain ⟨sP, cnt⟩ := r
  dsimp only at hle ⊢
  have hRR := hide' hr
  clear hr hx hl hm hlst
  by_cases hfit : (sP.out.size : Int) ≤ most
  · simp only [if_pos hfit]
    go_enter Try.func23, Try.ntmps23
    go_wp2_with (first
      | (go_at_call 13; refine (newPacker_any _).mono ?_; rintro e w2 ⟨P, Mb, rfl, hP, hB2⟩; have HP2 := hide' hP; have HX2 := hide' (HX.out.below hB2 hM); have HB2 := hide' hB2; have HM2 := hide' (msg_of hM HX2.out HL.out hB2 (Nat.le_refl _)); clear hP hB2)
      | (go_at_call 14; refine (pmessage_any P Mb w.heap.size M (.slice none 0 0) ⟨.empty, []⟩ i0 i2 i9 b1 b3 b4 b5 b6 b7 b8 q0 a0 u0 d0 qc ac uc dc Q A U D most _ HP2.out HM2.out g0 g2 g9 (by omega) (by omega) (by omega) (by omega) oq oa ou od hmost hmost0 ⟨fun x hx => (by cases hx), Nat.zero_le _⟩ rfl).mono ?_; rintro e w3 ⟨he3, v3, r1, r2, r3⟩; rw [hRR.out] at he3 r1; subst he3; have R1 := hide' r1; obtain ⟨p3, c3, hp3, _⟩ := own_shape R1.out.own; subst hp3; have x3 := R1.out.c0; have HB3 := hide' (HB2.out.trans ((r2.low HP2.out).mono (by omega))); clear r1 r2 r3))
    go_ret2
    exact ⟨rfl, HB3.out⟩
  · simp only [if_neg hfit]
    have hx12 : w.cell? ⟨M, 12, none⟩ = some (.slice u0 U.length uc) := HX.out.cell rfl
    go_enter Try.func23, Try.ntmps23
    go_wp2_with (first
      | (go_at_call 13; refine (newPacker_any _).mono ?_; rintro e w2 ⟨P, Mb, rfl, hP, hB2⟩; have HP2 := hide' hP; have HX2 := hide' (HX.out.below hB2 hM); have HB2 := hide' hB2; have HM2 := hide' (msg_of hM HX2.out HL.out hB2 (Nat.le_refl _)); clear hP hB2)
      | (go_at_call 14; refine (pmessage_any P Mb w.heap.size M (.slice none 0 0) ⟨.empty, []⟩ i0 i2 i9 b1 b3 b4 b5 b6 b7 b8 q0 a0 u0 d0 qc ac uc dc Q A U D most _ HP2.out HM2.out g0 g2 g9 (by omega) (by omega) (by omega) (by omega) oq oa ou od hmost hmost0 ⟨fun x hx => (by cases hx), Nat.zero_le _⟩ rfl).mono ?_; rintro e w3 ⟨he3, v3, r1, r2, r3⟩; rw [hRR.out] at he3 r1; subst he3; have R1 := hide' r1; obtain ⟨p3, c3, hp3, _⟩ := own_shape R1.out.own; subst hp3; have x3 := R1.out.c0; have HB23 := hide' ((r2.low HP2.out).mono (Nat.le_refl _)); have HX3 := hide' (HX2.out.below HB23.out (by omega)); have y11 : w3.cell? ⟨M, 11, none⟩ = some (.slice a0 A.length ac) := HX3.out.cell rfl; have y12 : w3.cell? ⟨M, 12, none⟩ = some (.slice u0 U.length uc) := HX3.out.cell rfl; have HB3 := hide' (HB2.out.trans HB23.out); clear r1 r2 r3))
    go_quiet (fail)
    go_wp2
    have hmx : max (0 : Int) ((cnt : Int) - (A.length : Int) - (U.length : Int)) = ((cnt - A.length - U.length : Nat) : Int) := by omega
    go_ret2
    refine ⟨?_, bstep HB3.out (below_q2 _) HB3.out.size⟩
    rw [← hmx]; rfl
theorem fitR_le (most : Int) (i0 i2 i9 : Nat) (b1 b3 b4 b5 b6 b7 b8 : Bool) (Q : List Qn) (A U D : List Rn) : (fitR most i0 i2 i9 b1 b3 b4 b5 b6 b7 b8 Q A U D).2 - A.length - U.length ≤ D.length := by
  have := runR_le most (A ++ U ++ D) (quesL Q (headP i0 i2 i9 b1 b3 b4 b5 b6 b7 b8 Q.length A.length U.length D.length ⟨.empty, []⟩)) 0
  simp only [List.length_append, Nat.zero_add] at this
  unfold fitR
  omega

/-- a row of one's own as a block of records -/
theorem rb_own {w : World} {base g cap n : Nat} {L : List Rn} (h : w.ownsRow base 70 5 (.slice (some ⟨g, 0, none⟩) n cap) n (rce5 L)) : ∃ rest, Rb w g L rest ∧ base ≤ g := by
  obtain ⟨hl, (⟨h1, h0⟩ | ⟨g', cap', cur, h1, hb, hg, hn, hcm, hcs, htk⟩)⟩ := h
  · cases h1
  · injection h1 with h1 h2 h3
    injection h1 with h1
    injection h1 with h1
    subst h1
    refine ⟨cur.toList.drop (n * 5), ?_, hb⟩
    unfold Rb Bx
    rw [← htk, List.take_append_drop, Array.toArray_toList]
    exact hg
theorem row_empty2 (w : World) (e size : Nat) : (w.alloc (.cells #[] e)).ownsRow w.heap.size e size (.slice (some ⟨w.heap.size, 0, none⟩) 0 0) 0 [] :=
  ⟨by simp, .inr ⟨w.heap.size, 0, #[], rfl, Nat.le_refl _, World.alloc_heap_new w _, by simp, by simp, by simp, by simp⟩⟩
theorem infoR : (Try.prog.info? 70).map (fun i => (i.zero, i.size, i.bytes)) = some (some (.agg #[.string .empty, .int .i64 0, .int .i64 0, .int .i64 0, .string .empty]), 5, 56) := by kernel_rfl
theorem infoQ : (Try.prog.info? 51).map (fun i => (i.zero, i.size, i.bytes)) = some (some (.agg #[.string .empty, .int .i64 0, .int .i64 0]), 3, 32) := by kernel_rfl
def qen3 (x : Qn) : List Value := [.string x.n, .int .i64 x.t, .int .i64 x.c]
def qce3 (L : List Qn) : List Value := L.flatMap qen3
theorem qce3_len (L : List Qn) : (qce3 L).length = L.length * 3 := by
  induction L with
  | nil => rfl
  | cons x l ih =>
    have e : qce3 (x :: l) = qen3 x ++ qce3 l := by simp [qce3]
    rw [e, List.length_append, ih]
    show 3 + _ = _
    simp only [List.length_cons]; omega
theorem qce3_one (L : List Qn) : ∀ u ∈ qce3 L, u.oneCell' = true := by
  intro u hu
  obtain ⟨x, _, hx⟩ := List.mem_flatMap.1 hu
  simp [qen3] at hx
  rcases hx with rfl | rfl | rfl <;> rfl
theorem get3 (L : List Qn) : ∀ j, (hj : j < L.length) → (qce3 L)[j * 3]? = some (.string L[j].n) ∧ (qce3 L)[j * 3 + 1]? = some (.int .i64 L[j].t) ∧ (qce3 L)[j * 3 + 2]? = some (.int .i64 L[j].c) := by
  induction L with
  | nil => intro j hj; simp at hj
  | cons x L ih =>
    intro j hj
    have e : qce3 (x :: L) = (.string x.n) :: (.int .i64 x.t) :: (.int .i64 x.c) :: qce3 L := by simp [qce3, qen3]
    cases j with
    | zero => simp [e]
    | succ j =>
      have := ih j (by simpa using hj)
      rw [e]
      have e1 : (j + 1) * 3 = j * 3 + 1 + 1 + 1 := by omega
      rw [e1]
      simpa using this
theorem qs_news {w : World} {ad : Addr} {L : List Qn} (h : QsAt w (some ad) L) : ∀ j u, (qce3 L)[j]? = some u → w.cell? (ad.add j) = some u := by
  intro j u hj
  have hlt : j < L.length * 3 := by have := (List.getElem?_eq_some_iff.1 hj).1; rw [qce3_len] at this; exact this
  have hk : j / 3 < L.length := by omega
  obtain ⟨g, off, hp, _, h0, h1, h2⟩ := h (j / 3) hk
  obtain ⟨e0, e1, e2⟩ := get3 L (j / 3) hk
  obtain rfl := Option.some.inj hp
  have ha : (⟨g, off, none⟩ : Addr).add j = ⟨g, off + j, none⟩ := by simp [Addr.add]
  rw [ha]
  have : j % 3 = 0 ∨ j % 3 = 1 ∨ j % 3 = 2 := by omega
  rcases this with e | e | e
  · rw [show j = j / 3 * 3 by omega] at hj ⊢; rw [e0] at hj; rw [h0, hj]
  · rw [show j = j / 3 * 3 + 1 by omega] at hj ⊢; rw [e1] at hj; rw [← Nat.add_assoc, h1, hj]
  · rw [show j = j / 3 * 3 + 2 by omega] at hj ⊢; rw [e2] at hj; rw [← Nat.add_assoc, h2, hj]
theorem rs_news {w : World} {ad : Addr} {L : List Rn} (h : RsAt w (some ad) L) : ∀ j u, (rce5 L)[j]? = some u → w.cell? (ad.add j) = some u := by
  intro j u hj
  have hlt : j < L.length * 5 := by have := (List.getElem?_eq_some_iff.1 hj).1; rw [rce5_len] at this; exact this
  have hk : j / 5 < L.length := by omega
  obtain ⟨g, off, hp, _, h0, h1, h2, h3, h4⟩ := h (j / 5) hk
  obtain ⟨e0, e1, e2, e3, e4⟩ := get5 L (j / 5) hk
  obtain rfl := Option.some.inj hp
  have ha : (⟨g, off, none⟩ : Addr).add j = ⟨g, off + j, none⟩ := by simp [Addr.add]
  rw [ha]
  have : j % 5 = 0 ∨ j % 5 = 1 ∨ j % 5 = 2 ∨ j % 5 = 3 ∨ j % 5 = 4 := by omega
  rcases this with e | e | e | e | e
  · rw [show j = j / 5 * 5 by omega] at hj ⊢; rw [e0] at hj; rw [h0, hj]
  · rw [show j = j / 5 * 5 + 1 by omega] at hj ⊢; rw [e1] at hj; rw [← Nat.add_assoc, h1, hj]
  · rw [show j = j / 5 * 5 + 2 by omega] at hj ⊢; rw [e2] at hj; rw [← Nat.add_assoc, h2, hj]
  · rw [show j = j / 5 * 5 + 3 by omega] at hj ⊢; rw [e3] at hj; rw [← Nat.add_assoc, h3, hj]
  · rw [show j = j / 5 * 5 + 4 by omega] at hj ⊢; rw [e4] at hj; rw [← Nat.add_assoc, h4, hj]
end Go.Proofs.Ytinnmfidnecncaa

/-
  slices.Clone of questions and records. (The verifier's own text.)
-/
namespace Go.Proofs.Ytinnmfidnecncaa
set_option linter.unusedVariables false
open Go.RowKit Go.Shelf Go.Maps Go.Proofs.Ytinnmfidnecncaa.Nm

set_option maxRecDepth 100000 in
set_option maxHeartbeats 1000000 in
/-- slices.Clone of records -/
theorem cloneR_any (L : List Rn) (p : Option Addr) (cap : Nat) (w : World) (hL : L.length ≤ 65535) (hat : RsAt w p L) (hn : p = none → cap = 0) :
    Calls Try.prog 37 #[.slice p L.length cap] w fun r w' => (∃ v, r = .returned v ∧ w'.ownsRow w.heap.size 70 5 v L.length (rce5 L)) ∧ Below w.heap.size w w' := by
  have qT : ∀ (w : World) (a : Option Addr) (n c n' c' : Nat), (binOp .eql 23 (.slice a n c) (.slice none n' c')).run Try.prog w = .ok (.bool a.isNone) w := fun w a n c n' c' => Lib.run_eql_slice_nil w _ _ a n c n' c' Try.underlying23
  cases p with
  | none =>
    obtain rfl : L = [] := by
      cases L with
      | nil => rfl
      | cons y l => obtain ⟨g, off, hp, _⟩ := hat 0 (by simp); cases hp
    go_enter Try.func37, Try.ntmps37
    go_wp2_with fail
    go_ret
    exact ⟨⟨_, rfl, World.ownsRow_nil _ _ _ _⟩, Below.refl _ _⟩
  | some ad =>
    have HA := hide' (fun j u => rs_news (hat : RsAt w (some ad) L) j u)
    have HA2 : Hid (∀ j u, (rce5 L)[j]? = some u → (w.alloc (.cells #[] 70)).cell? (ad.add j) = some u) := fun j u h => by
      have h1 := HA.out j u h
      exact Lib.cell?_alloc_some _ h1
    have HB := hide' ((Below.refl w.heap.size w).alloc (Nat.le_refl _) (.cells #[] 70))
    have HO := hide' (row_empty2 w 70 5)
    clear hat
    obtain ⟨i0, hi, hz0, hz1, hz2⟩ := info_parts infoR
    have HI := hide' (And.intro hi (And.intro hz0 (And.intro hz1 hz2)))
    clear hi hz0 hz1 hz2
    go_enter Try.func37, Try.ntmps37
    go_wp2_with (first
      | (at_builtin; refine wpList_append_own _ rfl _ _ 23 rfl w.heap.size 70 i0 (.agg #[.string .empty, .int .i64 0, .int .i64 0, .int .i64 0, .string .empty]) 5 56 Try.underlying23 HI.out.1 HI.out.2.1 HI.out.2.2.1 HI.out.2.2.2 rfl (by decide) (.slice (some ⟨w.heap.size, 0, none⟩) 0 0) 0 [] rfl HO.out ad L.length cap (rce5 L) rfl (rce5_len L) HA2.out (rce5_one L) (by unfold maxLen; omega) (by omega) (by simp) ?_; intro v1 w1 ho1 hg1 _; rw [Nat.zero_add, List.nil_append] at ho1; have HO1 := hide' ho1; have HB1 := hide' (HB.out.grown hg1 (by simp) (fun k e => by simp [Value.ownBlock] at e; omega)); clear ho1 hg1))
    go_ret
    exact ⟨⟨_, rfl, HO1.out⟩, HB1.out⟩

set_option maxRecDepth 100000 in
set_option maxHeartbeats 1000000 in
/-- slices.Clone of questions -/
theorem cloneQ_any (L : List Qn) (p : Option Addr) (cap : Nat) (w : World) (hL : L.length ≤ 65535) (hat : QsAt w p L) (hn : p = none → cap = 0) :
    Calls Try.prog 36 #[.slice p L.length cap] w fun r w' => (∃ v, r = .returned v ∧ w'.ownsRow w.heap.size 51 3 v L.length (qce3 L)) ∧ Below w.heap.size w w' := by
  have qT : ∀ (w : World) (a : Option Addr) (n c n' c' : Nat), (binOp .eql 22 (.slice a n c) (.slice none n' c')).run Try.prog w = .ok (.bool a.isNone) w := fun w a n c n' c' => Lib.run_eql_slice_nil w _ _ a n c n' c' Try.underlying22
  cases p with
  | none =>
    obtain rfl : L = [] := by
      cases L with
      | nil => rfl
      | cons y l => obtain ⟨g, off, hp, _⟩ := hat 0 (by simp); cases hp
    go_enter Try.func36, Try.ntmps36
    go_wp2_with fail
    go_ret
    exact ⟨⟨_, rfl, World.ownsRow_nil _ _ _ _⟩, Below.refl _ _⟩
  | some ad =>
    have HA := hide' (fun j u => qs_news (hat : QsAt w (some ad) L) j u)
    have HA2 : Hid (∀ j u, (qce3 L)[j]? = some u → (w.alloc (.cells #[] 51)).cell? (ad.add j) = some u) := fun j u h => by
      have h1 := HA.out j u h
      exact Lib.cell?_alloc_some _ h1
    have HB := hide' ((Below.refl w.heap.size w).alloc (Nat.le_refl _) (.cells #[] 51))
    have HO := hide' (row_empty2 w 51 3)
    clear hat
    obtain ⟨i0, hi, hz0, hz1, hz2⟩ := info_parts infoQ
    have HI := hide' (And.intro hi (And.intro hz0 (And.intro hz1 hz2)))
    clear hi hz0 hz1 hz2
    go_enter Try.func36, Try.ntmps36
    go_wp2_with (first
      | (at_builtin; refine wpList_append_own _ rfl _ _ 22 rfl w.heap.size 51 i0 (.agg #[.string .empty, .int .i64 0, .int .i64 0]) 3 32 Try.underlying22 HI.out.1 HI.out.2.1 HI.out.2.2.1 HI.out.2.2.2 rfl (by decide) (.slice (some ⟨w.heap.size, 0, none⟩) 0 0) 0 [] rfl HO.out ad L.length cap (qce3 L) rfl (qce3_len L) HA2.out (qce3_one L) (by unfold maxLen; omega) (by omega) (by simp) ?_; intro v1 w1 ho1 hg1 _; rw [Nat.zero_add, List.nil_append] at ho1; have HO1 := hide' ho1; have HB1 := hide' (HB.out.grown hg1 (by simp) (fun k e => by simp [Value.ownBlock] at e; omega)); clear ho1 hg1))
    go_ret
    exact ⟨⟨_, rfl, HO1.out⟩, HB1.out⟩
end Go.Proofs.Ytinnmfidnecncaa
