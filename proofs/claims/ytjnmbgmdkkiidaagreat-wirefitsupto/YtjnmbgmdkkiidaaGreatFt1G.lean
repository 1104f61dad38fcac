import Derived.Test.YtjnmbgmdkkiidaaGreatWc3G
import Derived.Test.YtjnmbgmdkkiidaaGreatOw1G
import Derived.Laws.IdiomCopy
import Derived.Test.YtjnmbgmdkkiidaaGreatPk14G
/-
  Rows of records that are written in their place. (The verifier's own text.)
-/
namespace Go.Proofs.YtjnmbgmdkkiidaaGreat
set_option linter.unusedVariables false
open Go.RowKit Go.Shelf Go.Maps Go.Proofs.YtjnmbgmdkkiidaaGreat.Nm

/-- a record as cells -/
def ren5 (x : Rn) : List Value := [.string x.o, .int .i64 x.t, .int .i64 x.c, .int .i64 x.l, .string x.d]
def rce5 (L : List Rn) : List Value := L.flatMap ren5
theorem get5 (L : List Rn) : ∀ j, (hj : j < L.length) → (rce5 L)[j * 5]? = some (.string L[j].o) ∧ (rce5 L)[j * 5 + 1]? = some (.int .i64 L[j].t) ∧ (rce5 L)[j * 5 + 2]? = some (.int .i64 L[j].c) ∧ (rce5 L)[j * 5 + 3]? = some (.int .i64 L[j].l) ∧ (rce5 L)[j * 5 + 4]? = some (.string L[j].d) := by
  induction L with
  | nil => intro j hj; simp at hj
  | cons x L ih =>
    intro j hj
    have e : rce5 (x :: L) = (.string x.o) :: (.int .i64 x.t) :: (.int .i64 x.c) :: (.int .i64 x.l) :: (.string x.d) :: rce5 L := by simp [rce5, ren5]
    cases j with
    | zero => simp [e]
    | succ j =>
      have := ih j (by simpa using hj)
      rw [e]
      have e1 : (j + 1) * 5 = j * 5 + 1 + 1 + 1 + 1 + 1 := by omega
      rw [e1]
      simpa using this
/-- a block of records: those of L, then whatever stands behind -/
def Rb (w : World) (g : Nat) (L : List Rn) (rest : List Value) : Prop := Bx w g (rce5 L ++ rest).toArray 59
theorem rce5_len (L : List Rn) : (rce5 L).length = L.length * 5 := by
  induction L with
  | nil => rfl
  | cons x l ih =>
    have e : rce5 (x :: l) = ren5 x ++ rce5 l := by simp [rce5]
    rw [e, List.length_append, ih]
    show 5 + _ = _
    simp only [List.length_cons]; omega
theorem rce5_app (L M : List Rn) : rce5 (L ++ M) = rce5 L ++ rce5 M := by simp [rce5]
theorem rce5_one (L : List Rn) : ∀ u ∈ rce5 L, u.oneCell' = true := by
  intro u hu
  obtain ⟨x, _, hx⟩ := List.mem_flatMap.1 hu
  simp [ren5] at hx
  rcases hx with rfl | rfl | rfl | rfl | rfl <;> rfl
theorem Rb.cells {w : World} {g : Nat} {L : List Rn} {rest : List Value} (h : Rb w g L rest) {j : Nat} (hj : j < L.length) : w.cell? ⟨g, j * 5, none⟩ = some (.string L[j].o) ∧ w.cell? ⟨g, j * 5 + 1, none⟩ = some (.int .i64 L[j].t) ∧ w.cell? ⟨g, j * 5 + 2, none⟩ = some (.int .i64 L[j].c) ∧ w.cell? ⟨g, j * 5 + 3, none⟩ = some (.int .i64 L[j].l) ∧ w.cell? ⟨g, j * 5 + 4, none⟩ = some (.string L[j].d) := by
  obtain ⟨h0, h1, h2, h3, h4⟩ := get5 L j hj
  have hl := rce5_len L
  have hx : ∀ (i : Nat) (v : Value), i < L.length * 5 → (rce5 L)[i]? = some v → (rce5 L ++ rest).toArray[i]? = some v := fun i v hi hv => by
    rw [List.getElem?_toArray, List.getElem?_append_left (by omega), hv]
  exact ⟨h.cell (hx _ _ (by omega) h0), h.cell (hx _ _ (by omega) h1), h.cell (hx _ _ (by omega) h2), h.cell (hx _ _ (by omega) h3), h.cell (hx _ _ (by omega) h4)⟩
/-- five cells of a block are set -/
def setR (w : World) (g o : Nat) (r : Rn) : World := (((((w.setCell ⟨g, o, none⟩ (.string r.o)).setCell ⟨g, o + 1, none⟩ (.int .i64 r.t)).setCell ⟨g, o + 2, none⟩ (.int .i64 r.c)).setCell ⟨g, o + 3, none⟩ (.int .i64 r.l)).setCell ⟨g, o + 4, none⟩ (.string r.d))
theorem set_list {A B C : List Value} {b : Value} (v : Value) : (A ++ b :: C).toArray.setIfInBounds A.length v = (A ++ v :: C).toArray := by
  apply Array.ext'
  simp only [Array.toList_setIfInBounds]
  rw [List.set_append_right _ _ (Nat.le_refl _)]
  simp
theorem bx_setCells {g : Nat} {T : TypeId} : ∀ (vs A B C : List Value), B.length = vs.length → ∀ w : World, Bx w g (A ++ B ++ C).toArray T → Bx (w.setCells g A.length vs) g (A ++ vs ++ C).toArray T
  | [], A, [], C, _, w, h => h
  | v :: vs, A, b :: B, C, hl, w, h => by
    have h1 : Bx (w.setCell ⟨g, A.length, none⟩ v) g (A ++ v :: (B ++ C)).toArray T := by
      have h0 : Bx w g (A ++ b :: (B ++ C)).toArray T := by simpa using h
      have := h0.set A.length v
      rw [set_list (B := B)] at this
      exact this
    have h2 : Bx (w.setCell ⟨g, A.length, none⟩ v) g ((A ++ [v]) ++ B ++ C).toArray T := by simpa using h1
    have h3 := bx_setCells vs (A ++ [v]) B C (by simpa using hl) (w.setCell ⟨g, A.length, none⟩ v) h2
    have e : (A ++ [v]).length = A.length + 1 := by simp
    rw [e] at h3
    show Bx ((w.setCell ⟨g, A.length, none⟩ v).setCells g (A.length + 1) vs) g _ T
    have e2 : (A ++ [v]) ++ vs ++ C = A ++ (v :: vs) ++ C := by simp
    rw [e2] at h3
    exact h3
theorem grown_setCells (g : Nat) : ∀ (vs : List Value) (o : Nat) (w : World), w.grownBy (w.setCells g o vs) (some g)
  | [], o, w => grown_refl _ _
  | v :: vs, o, w => grown_trans (grown_set w g o v) (grown_setCells g vs (o + 1) (w.setCell ⟨g, o, none⟩ v))
theorem setR_cells (w : World) (g o : Nat) (r : Rn) : setR w g o r = w.setCells g o (ren5 r) := rfl
theorem list_split {L : List Rn} {j : Nat} (hj : j < L.length) : L = L.take j ++ L[j] :: L.drop (j + 1) := by
  rw [← List.drop_eq_getElem_cons hj, List.take_append_drop]
theorem Rb.put {w : World} {g : Nat} {L : List Rn} {rest : List Value} (h : Rb w g L rest) {j : Nat} (hj : j < L.length) (r : Rn) : Rb (setR w g (j * 5) r) g (L.set j r) rest := by
  have e1 : rce5 L ++ rest = rce5 (L.take j) ++ ren5 L[j] ++ (rce5 (L.drop (j + 1)) ++ rest) := by
    have e : rce5 L = rce5 (L.take j) ++ (ren5 L[j] ++ rce5 (L.drop (j + 1))) := by
      have e0 : rce5 L = rce5 (L.take j ++ L[j] :: L.drop (j + 1)) := congrArg rce5 (list_split hj)
      rw [e0, rce5_app]
      rfl
    rw [e]; simp
  have e2 : rce5 (L.set j r) ++ rest = rce5 (L.take j) ++ ren5 r ++ (rce5 (L.drop (j + 1)) ++ rest) := by
    have e : L.set j r = L.take j ++ r :: L.drop (j + 1) := by rw [List.set_eq_take_append_cons_drop, if_pos hj]
    rw [e, rce5_app]
    simp [rce5]
  have hl : (rce5 (L.take j)).length = j * 5 := by rw [rce5_len, List.length_take]; omega
  unfold Rb at h ⊢
  rw [e1] at h
  have := bx_setCells (ren5 r) (rce5 (L.take j)) (ren5 L[j]) (rce5 (L.drop (j + 1)) ++ rest) rfl w h
  rw [hl] at this
  rw [e2, setR_cells]
  exact this
/-- a record that is none -/
def zR : Rn := ⟨.empty, 0, 0, 0, .empty⟩
theorem zeroR : (Tryz.prog.info? 59).map (·.zero) = some (some (.agg (ren5 zR).toArray)) := by kernel_rfl
theorem zero_cells (n : Nat) : (Builtin.zeroCells (Value.agg (ren5 zR).toArray).cells n).toList = rce5 (List.replicate n zR) := by
  have hz : (Value.agg (ren5 zR).toArray).cells = (ren5 zR).toArray := rfl
  rw [hz]
  apply List.ext_getElem?
  intro i
  by_cases hi : i < n * 5
  · have hlen : (rce5 (List.replicate n zR)).length = n * 5 := by rw [rce5_len, List.length_replicate]
    have hk : i / 5 < (List.replicate n zR).length := by rw [List.length_replicate]; omega
    obtain ⟨h0, h1, h2, h3, h4⟩ := get5 (List.replicate n zR) (i / 5) hk
    have hg : (List.replicate n zR)[i / 5] = zR := by simp
    rw [hg] at h0 h1 h2 h3 h4
    have hL : (Builtin.zeroCells (ren5 zR).toArray n).toList[i]? = some ((ren5 zR).toArray[i % 5]!) := by
      unfold Builtin.zeroCells
      rw [show (ren5 zR).toArray.size = 5 from rfl]
      simp [hi]
    rw [hL]
    have : i % 5 = 0 ∨ i % 5 = 1 ∨ i % 5 = 2 ∨ i % 5 = 3 ∨ i % 5 = 4 := by omega
    rcases this with e | e | e | e | e
    · rw [e, show i = i / 5 * 5 by omega, h0]; rfl
    · rw [e, show i = i / 5 * 5 + 1 by omega, h1]; rfl
    · rw [e, show i = i / 5 * 5 + 2 by omega, h2]; rfl
    · rw [e, show i = i / 5 * 5 + 3 by omega, h3]; rfl
    · rw [e, show i = i / 5 * 5 + 4 by omega, h4]; rfl
  · have hlen : (rce5 (List.replicate n zR)).length = n * 5 := by rw [rce5_len, List.length_replicate]
    have hl2 : (Builtin.zeroCells (ren5 zR).toArray n).toList.length = n * 5 := by
      unfold Builtin.zeroCells
      rw [show (ren5 zR).toArray.size = 5 from rfl]
      simp
    rw [List.getElem?_eq_none (by omega), List.getElem?_eq_none (by omega)]
/-- 'clear(s)' of records -/
theorem run_clearR (w : World) (hv : ∀ w : World, (zeroValue 59).run Tryz.prog w = .ok (.agg (ren5 zR).toArray) w) (g : Nat) (A B : List Rn) (rest : List Value) (c ty : Nat) (hB : 0 < B.length) (h : Rb w g (A ++ B) rest) :
    ∃ w2, (Builtin.clear_ #[23] ty #[.slice (some ⟨g, A.length * 5, none⟩) B.length c]).run Tryz.prog w = .ok (.tuple #[]) w2 ∧ Rb w2 g (A ++ List.replicate B.length zR) rest ∧ w.grownBy w2 (some g) := by
  refine ⟨w.setCells g (A.length * 5) (rce5 (List.replicate B.length zR)), ?_, ?_, grown_setCells g _ _ w⟩
  · have hlen : (rce5 (List.replicate B.length zR)).length = B.length * 5 := by rw [rce5_len, List.length_replicate]
    have hst := run_storeCells_cells (P := Tryz.prog) g (A.length * 5) (rce5 (List.replicate B.length zR)) 0 w (fun j hj => by
      have hh : (rce5 (A ++ B) ++ rest).toArray[A.length * 5 + 0 + j]? = some ((rce5 (A ++ B) ++ rest)[A.length * 5 + 0 + j]'(by rw [List.length_append, rce5_len, List.length_append]; omega)) := by
        rw [List.getElem?_toArray, List.getElem?_eq_getElem]
      rw [h.cell hh]; rfl) (fun j hj => h.free _) (rce5_one _)
    simp only [Nat.add_zero] at hst
    obtain ⟨m, hm⟩ : ∃ m, B.length = m + 1 := ⟨B.length - 1, by omega⟩
    rw [hm] at hst ⊢
    simp [Builtin.clear_, run_underlying Tryz.underlying23, hv, zero_cells, hst]
  · have hl : (rce5 A).length = A.length * 5 := rce5_len A
    unfold Rb at h ⊢
    rw [rce5_app] at h ⊢
    have := bx_setCells (rce5 (List.replicate B.length zR)) (rce5 A) (rce5 B) rest (by rw [rce5_len, rce5_len, List.length_replicate]) w h
    rw [hl] at this
    exact this
end Go.Proofs.YtjnmbgmdkkiidaaGreat

/-
  wire.fits; slices.Clone of questions and records. (The verifier's own text.)
-/
namespace Go.Proofs.YtjnmbgmdkkiidaaGreat
set_option linter.unusedVariables false
open Go.RowKit Go.Shelf Go.Maps Go.Proofs.YtjnmbgmdkkiidaaGreat.Nm

theorem below_q2 {w : World} (m : Nat) : Below w.heap.size w (w.drewN m) := ⟨rfl, rfl, rfl, Nat.le_refl _, fun _ _ => rfl⟩
/-- what fits writes -/
def fitR (most : Int) (i0 i2 i9 : Nat) (b1 b3 b4 b5 b6 b7 b8 : Bool) (Q : List Qn) (A U D : List Rn) : PS × Nat :=
  runR most (A ++ U ++ D) (quesL Q (headP i0 i2 i9 b1 b3 b4 b5 b6 b7 b8 Q.length A.length U.length D.length ⟨.empty, []⟩)) 0
theorem runR_le (most : Int) : ∀ (L : List Rn) (s : PS) (c : Nat), (runR most L s c).2 ≤ c + L.length
  | [], s, c => Nat.le_refl _
  | r :: l, s, c => by
    unfold runR
    by_cases hm : most < (s.out.size : Int)
    · rw [if_pos hm]; simp
    · rw [if_neg hm]
      have := runR_le most l (recR r s) (c + 1)
      simp only [List.length_cons]; omega
theorem runR_big (most : Int) (hm : most ≤ 65535) : ∀ (L : List Rn) (s : PS) (c : Nat), (∀ r ∈ L, rOK r = true) → POk s → s.out.size ≤ 17000000 → (runR most L s c).1.out.size ≤ 17100000
  | [], s, c, _, _, h => by show s.out.size ≤ _; omega
  | r :: l, s, c, hL, hs, h => by
    unfold runR
    by_cases hm2 : most < (s.out.size : Int)
    · rw [if_pos hm2]; show s.out.size ≤ _; omega
    · rw [if_neg hm2]
      obtain ⟨h1, h2, h3⟩ := recR_ok (hL r List.mem_cons_self) hs
      by_cases h5 : (recR r s).out.size ≤ 17000000
      · exact runR_big most hm l (recR r s) (c + 1) (fun x hx => hL x (List.mem_cons_of_mem _ hx)) h1 h5
      · omega

set_option maxRecDepth 100000 in
set_option maxHeartbeats 2000000 in
/-- wire.fits -/
theorem fits_any (M i0 i2 i9 : Nat) (b1 b3 b4 b5 b6 b7 b8 : Bool) (q0 a0 u0 d0 : Option Addr) (qc ac uc dc : Nat) (Q : List Qn) (A U D : List Rn) (most : Int) (w : World) (hM : M < w.heap.size) (hx : Bx w M #[.int .i64 (i0 : Int), .bool b1, .int .i64 (i2 : Int), .bool b3, .bool b4, .bool b5, .bool b6, .bool b7, .bool b8, .int .i64 (i9 : Int), .slice q0 Q.length qc, .slice a0 A.length ac, .slice u0 U.length uc, .slice d0 D.length dc] 25) (hl : LsAt w q0 a0 u0 d0 Q A U D) (hm : msgOK i0 i2 i9 Q A U D = true) (hmost : most ≤ 65535) (hmost0 : -9223372036854775808 ≤ most) :
    Calls Tryz.prog 33 #[.pointer (some ⟨M, 0, none⟩), .int .i64 most] w fun e w' => (if (((fitR most i0 i2 i9 b1 b3 b4 b5 b6 b7 b8 Q A U D).1.out.size : Nat) : Int) ≤ most then e = .returned (.tuple #[.int .i64 0, .bool true]) else e = .returned (.tuple #[.int .i64 (((fitR most i0 i2 i9 b1 b3 b4 b5 b6 b7 b8 Q A U D).2 - A.length - U.length : Nat) : Int), .bool false])) ∧ Below w.heap.size w w' := by
  obtain ⟨⟨n0, e0, k0⟩, ⟨n2, e2, k2⟩, ⟨n9, e9, k9⟩, lq, la, lu, ld, hlst⟩ := msgOK_parts hm
  have g0 : i0 < 65536 := by omega
  have g2 : i2 < 16 := by omega
  have g9 : i9 < 16 := by omega
  clear e0 k0 e2 k2 e9 k9
  obtain ⟨oq, oa, ou, od⟩ := lstOK_parts hlst
  have hle := runR_le most (A ++ U ++ D) (quesL Q (headP i0 i2 i9 b1 b3 b4 b5 b6 b7 b8 Q.length A.length U.length D.length ⟨.empty, []⟩)) 0
  simp only [List.length_append, Nat.zero_add] at hle
  obtain ⟨r, hr⟩ : ∃ r, fitR most i0 i2 i9 b1 b3 b4 b5 b6 b7 b8 Q A U D = r := ⟨_, rfl⟩
  rw [hr]
  have HR := hide' hr
  unfold fitR at hr
  rw [hr] at hle
  have hx11 : w.cell? ⟨M, 11, none⟩ = some (.slice a0 A.length ac) := hx.cell rfl
  have HX := hide' hx
  have HL := hide' hl
  obtain ⟨sP, cnt⟩ := r
  dsimp only at hle ⊢
  have hRR := hide' hr
  clear hr hx hl hm hlst
  by_cases hfit : (sP.out.size : Int) ≤ most
  · simp only [if_pos hfit]
    go_enter Tryz.func33, Tryz.ntmps33
    go_wp2_with (first
      | (go_at_call 17; refine (newPacker_any _).mono ?_; rintro e w2 ⟨P, Mb, rfl, hP, hB2⟩; have HP2 := hide' hP; have HX2 := hide' (HX.out.below hB2 hM); have HB2 := hide' hB2; have HM2 := hide' (msg_of hM HX2.out HL.out hB2 (Nat.le_refl _)); clear hP hB2)
      | (go_at_call 18; refine (pmessage_any P Mb w.heap.size M (.slice none 0 0) ⟨.empty, []⟩ i0 i2 i9 b1 b3 b4 b5 b6 b7 b8 q0 a0 u0 d0 qc ac uc dc Q A U D most _ HP2.out HM2.out g0 g2 g9 (by omega) (by omega) (by omega) (by omega) oq oa ou od hmost hmost0 ⟨fun x hx => (by cases hx), Nat.zero_le _⟩ rfl).mono ?_; rintro e w3 ⟨he3, v3, r1, r2, r3⟩; rw [hRR.out] at he3 r1; subst he3; have R1 := hide' r1; obtain ⟨p3, c3, hp3, _⟩ := own_shape R1.out.own; subst hp3; have x3 := R1.out.c0; have HB3 := hide' (HB2.out.trans ((r2.low HP2.out).mono (by omega))); clear r1 r2 r3))
    go_ret2
    exact ⟨rfl, HB3.out⟩
  · simp only [if_neg hfit]
    have hx12 : w.cell? ⟨M, 12, none⟩ = some (.slice u0 U.length uc) := HX.out.cell rfl
    go_enter Tryz.func33, Tryz.ntmps33
    go_wp2_with (first
      | (go_at_call 17; refine (newPacker_any _).mono ?_; rintro e w2 ⟨P, Mb, rfl, hP, hB2⟩; have HP2 := hide' hP; have HX2 := hide' (HX.out.below hB2 hM); have HB2 := hide' hB2; have HM2 := hide' (msg_of hM HX2.out HL.out hB2 (Nat.le_refl _)); clear hP hB2)
      | (go_at_call 18; refine (pmessage_any P Mb w.heap.size M (.slice none 0 0) ⟨.empty, []⟩ i0 i2 i9 b1 b3 b4 b5 b6 b7 b8 q0 a0 u0 d0 qc ac uc dc Q A U D most _ HP2.out HM2.out g0 g2 g9 (by omega) (by omega) (by omega) (by omega) oq oa ou od hmost hmost0 ⟨fun x hx => (by cases hx), Nat.zero_le _⟩ rfl).mono ?_; rintro e w3 ⟨he3, v3, r1, r2, r3⟩; rw [hRR.out] at he3 r1; subst he3; have R1 := hide' r1; obtain ⟨p3, c3, hp3, _⟩ := own_shape R1.out.own; subst hp3; have x3 := R1.out.c0; have HB23 := hide' ((r2.low HP2.out).mono (Nat.le_refl _)); have HX3 := hide' (HX2.out.below HB23.out (by omega)); have y11 : w3.cell? ⟨M, 11, none⟩ = some (.slice a0 A.length ac) := HX3.out.cell rfl; have y12 : w3.cell? ⟨M, 12, none⟩ = some (.slice u0 U.length uc) := HX3.out.cell rfl; have HB3 := hide' (HB2.out.trans HB23.out); clear r1 r2 r3))
    go_quiet (fail)
    go_wp2
    have hmx : max (0 : Int) ((cnt : Int) - (A.length : Int) - (U.length : Int)) = ((cnt - A.length - U.length : Nat) : Int) := by omega
    go_ret2
    refine ⟨?_, bstep HB3.out (below_q2 _) HB3.out.size⟩
    rw [← hmx]; rfl
theorem fitR_le (most : Int) (i0 i2 i9 : Nat) (b1 b3 b4 b5 b6 b7 b8 : Bool) (Q : List Qn) (A U D : List Rn) : (fitR most i0 i2 i9 b1 b3 b4 b5 b6 b7 b8 Q A U D).2 - A.length - U.length ≤ D.length := by
  have := runR_le most (A ++ U ++ D) (quesL Q (headP i0 i2 i9 b1 b3 b4 b5 b6 b7 b8 Q.length A.length U.length D.length ⟨.empty, []⟩)) 0
  simp only [List.length_append, Nat.zero_add] at this
  unfold fitR
  omega

/-- a row of one's own as a block of records -/
theorem rb_own {w : World} {base g cap n : Nat} {L : List Rn} (h : w.ownsRow base 59 5 (.slice (some ⟨g, 0, none⟩) n cap) n (rce5 L)) : ∃ rest, Rb w g L rest ∧ base ≤ g := by
  obtain ⟨hl, (⟨h1, h0⟩ | ⟨g', cap', cur, h1, hb, hg, hn, hcm, hcs, htk⟩)⟩ := h
  · cases h1
  · injection h1 with h1 h2 h3
    injection h1 with h1
    injection h1 with h1
    subst h1
    refine ⟨cur.toList.drop (n * 5), ?_, hb⟩
    unfold Rb Bx
    rw [← htk, List.take_append_drop, Array.toArray_toList]
    exact hg
theorem row_empty2 (w : World) (e size : Nat) : (w.alloc (.cells #[] e)).ownsRow w.heap.size e size (.slice (some ⟨w.heap.size, 0, none⟩) 0 0) 0 [] :=
  ⟨by simp, .inr ⟨w.heap.size, 0, #[], rfl, Nat.le_refl _, World.alloc_heap_new w _, by simp, by simp, by simp, by simp⟩⟩
theorem infoR : (Tryz.prog.info? 59).map (fun i => (i.zero, i.size, i.bytes)) = some (some (.agg #[.string .empty, .int .i64 0, .int .i64 0, .int .i64 0, .string .empty]), 5, 56) := by kernel_rfl
theorem infoQ : (Tryz.prog.info? 57).map (fun i => (i.zero, i.size, i.bytes)) = some (some (.agg #[.string .empty, .int .i64 0, .int .i64 0]), 3, 32) := by kernel_rfl
def qen3 (x : Qn) : List Value := [.string x.n, .int .i64 x.t, .int .i64 x.c]
def qce3 (L : List Qn) : List Value := L.flatMap qen3
theorem qce3_len (L : List Qn) : (qce3 L).length = L.length * 3 := by
  induction L with
  | nil => rfl
  | cons x l ih =>
    have e : qce3 (x :: l) = qen3 x ++ qce3 l := by simp [qce3]
    rw [e, List.length_append, ih]
    show 3 + _ = _
    simp only [List.length_cons]; omega
theorem qce3_one (L : List Qn) : ∀ u ∈ qce3 L, u.oneCell' = true := by
  intro u hu
  obtain ⟨x, _, hx⟩ := List.mem_flatMap.1 hu
  simp [qen3] at hx
  rcases hx with rfl | rfl | rfl <;> rfl
theorem get3 (L : List Qn) : ∀ j, (hj : j < L.length) → (qce3 L)[j * 3]? = some (.string L[j].n) ∧ (qce3 L)[j * 3 + 1]? = some (.int .i64 L[j].t) ∧ (qce3 L)[j * 3 + 2]? = some (.int .i64 L[j].c) := by
  induction L with
  | nil => intro j hj; simp at hj
  | cons x L ih =>
    intro j hj
    have e : qce3 (x :: L) = (.string x.n) :: (.int .i64 x.t) :: (.int .i64 x.c) :: qce3 L := by simp [qce3, qen3]
    cases j with
    | zero => simp [e]
    | succ j =>
      have := ih j (by simpa using hj)
      rw [e]
      have e1 : (j + 1) * 3 = j * 3 + 1 + 1 + 1 := by omega
      rw [e1]
      simpa using this
theorem qs_news {w : World} {ad : Addr} {L : List Qn} (h : QsAt w (some ad) L) : ∀ j u, (qce3 L)[j]? = some u → w.cell? (ad.add j) = some u := by
  intro j u hj
  have hlt : j < L.length * 3 := by have := (List.getElem?_eq_some_iff.1 hj).1; rw [qce3_len] at this; exact this
  have hk : j / 3 < L.length := by omega
  obtain ⟨g, off, hp, _, h0, h1, h2⟩ := h (j / 3) hk
  obtain ⟨e0, e1, e2⟩ := get3 L (j / 3) hk
  obtain rfl := Option.some.inj hp
  have ha : (⟨g, off, none⟩ : Addr).add j = ⟨g, off + j, none⟩ := by simp [Addr.add]
  rw [ha]
  have : j % 3 = 0 ∨ j % 3 = 1 ∨ j % 3 = 2 := by omega
  rcases this with e | e | e
  · rw [show j = j / 3 * 3 by omega] at hj ⊢; rw [e0] at hj; rw [h0, hj]
  · rw [show j = j / 3 * 3 + 1 by omega] at hj ⊢; rw [e1] at hj; rw [← Nat.add_assoc, h1, hj]
  · rw [show j = j / 3 * 3 + 2 by omega] at hj ⊢; rw [e2] at hj; rw [← Nat.add_assoc, h2, hj]
theorem rs_news {w : World} {ad : Addr} {L : List Rn} (h : RsAt w (some ad) L) : ∀ j u, (rce5 L)[j]? = some u → w.cell? (ad.add j) = some u := by
  intro j u hj
  have hlt : j < L.length * 5 := by have := (List.getElem?_eq_some_iff.1 hj).1; rw [rce5_len] at this; exact this
  have hk : j / 5 < L.length := by omega
  obtain ⟨g, off, hp, _, h0, h1, h2, h3, h4⟩ := h (j / 5) hk
  obtain ⟨e0, e1, e2, e3, e4⟩ := get5 L (j / 5) hk
  obtain rfl := Option.some.inj hp
  have ha : (⟨g, off, none⟩ : Addr).add j = ⟨g, off + j, none⟩ := by simp [Addr.add]
  rw [ha]
  have : j % 5 = 0 ∨ j % 5 = 1 ∨ j % 5 = 2 ∨ j % 5 = 3 ∨ j % 5 = 4 := by omega
  rcases this with e | e | e | e | e
  · rw [show j = j / 5 * 5 by omega] at hj ⊢; rw [e0] at hj; rw [h0, hj]
  · rw [show j = j / 5 * 5 + 1 by omega] at hj ⊢; rw [e1] at hj; rw [← Nat.add_assoc, h1, hj]
  · rw [show j = j / 5 * 5 + 2 by omega] at hj ⊢; rw [e2] at hj; rw [← Nat.add_assoc, h2, hj]
  · rw [show j = j / 5 * 5 + 3 by omega] at hj ⊢; rw [e3] at hj; rw [← Nat.add_assoc, h3, hj]
  · rw [show j = j / 5 * 5 + 4 by omega] at hj ⊢; rw [e4] at hj; rw [← Nat.add_assoc, h4, hj]
end Go.Proofs.YtjnmbgmdkkiidaaGreat
