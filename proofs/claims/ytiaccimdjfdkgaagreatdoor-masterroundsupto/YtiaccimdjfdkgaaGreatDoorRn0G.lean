import Derived.Test.YtiaccimdjfdkgaaGreatDoorWkG
import Derived.Test.YtiaccimdjfdkgaaGreatDoorGr0G
import Derived.Test.YtiaccimdjfdkgaaGreatDoorBt1G
import Derived.Test.YtiaccimdjfdkgaaGreatDoorKs1G
import Derived.Deep.RegionHeld3
import Derived.Laws.IdiomCopy
import Derived.Laws.AppendOwnNone
/-
  Questions and records in memory. (The verifier's own text; it stood in Wc5.)
-/
namespace Go.Proofs.YtiaccimdjfdkgaaGreatDoor
set_option linter.unusedVariables false
open Go.RowKit Go.Shelf Go.Proofs.YtiaccimdjfdkgaaGreatDoor.Nm

/-- a question: its name, type and class -/
structure Qn where
  n : ByteArray
  t : Int
  c : Int
/-- questions in memory -/
def QsAt (w : World) (p : Option Addr) (l : List Qn) : Prop := ∀ k, (hk : k < l.length) → ∃ g off, p = some ⟨g, off, none⟩ ∧ g < w.heap.size ∧ w.cell? ⟨g, off + k * 3, none⟩ = some (.string l[k].n) ∧ w.cell? ⟨g, off + k * 3 + 1, none⟩ = some (.int .i64 l[k].t) ∧ w.cell? ⟨g, off + k * 3 + 2, none⟩ = some (.int .i64 l[k].c)
/-- a record -/
structure Rn where
  o : ByteArray
  t : Int
  c : Int
  l : Int
  d : ByteArray
/-- records in memory -/
def RsAt (w : World) (p : Option Addr) (l : List Rn) : Prop := ∀ k, (hk : k < l.length) → ∃ g off, p = some ⟨g, off, none⟩ ∧ g < w.heap.size ∧ w.cell? ⟨g, off + k * 5, none⟩ = some (.string l[k].o) ∧ w.cell? ⟨g, off + k * 5 + 1, none⟩ = some (.int .i64 l[k].t) ∧ w.cell? ⟨g, off + k * 5 + 2, none⟩ = some (.int .i64 l[k].c) ∧ w.cell? ⟨g, off + k * 5 + 3, none⟩ = some (.int .i64 l[k].l) ∧ w.cell? ⟨g, off + k * 5 + 4, none⟩ = some (.string l[k].d)
end Go.Proofs.YtiaccimdjfdkgaaGreatDoor

/-
  Boxes in memory, beside names. (The verifier's own text.)
-/

namespace Go.Proofs.YtiaccimdjfdkgaaGreatDoor
set_option linter.unusedVariables false
open Go.RowKit Go.Shelf Go.Proofs.YtiaccimdjfdkgaaGreatDoor.Nm

/-- a record as it is handed over -/
def recA (r : Rn) : Value := .agg #[.string r.o, .int .i64 r.t, .int .i64 r.c, .int .i64 r.l, .string r.d]
theorem rsAt_below7 {w w' : World} {p : Option Addr} {l : List Rn} (h : RsAt w p l) (hb : Below w.heap.size w w') : RsAt w' p l := fun k hk => by
  obtain ⟨g, off, hp, hg, h0, h1, h2, h3, h4⟩ := h k hk
  exact ⟨g, off, hp, Nat.lt_of_lt_of_le hg hb.size, (hb.cell (p := ⟨g, off + k * 5, none⟩) hg).trans h0, (hb.cell (p := ⟨g, off + k * 5 + 1, none⟩) hg).trans h1, (hb.cell (p := ⟨g, off + k * 5 + 2, none⟩) hg).trans h2, (hb.cell (p := ⟨g, off + k * 5 + 3, none⟩) hg).trans h3, (hb.cell (p := ⟨g, off + k * 5 + 4, none⟩) hg).trans h4⟩

/-- is there one age? -/
def oneAge (L : List Rn) : Bool := !(L.any fun r => r.l != ((L.head?.map (·.l)).getD 0))
end Go.Proofs.YtiaccimdjfdkgaaGreatDoor

namespace Go.Proofs.YtiaccimdjfdkgaaGreatDoor
set_option linter.unusedVariables false
open Go.RowKit Go.Shelf Go.Proofs.YtiaccimdjfdkgaaGreatDoor.Nm

theorem bx_d8 {w : World} {R : Nat} {cs : Array Value} {T : TypeId} (h : Bx w R cs T) : Bx w.drew R cs T := h
/-- may it stand in a zone? -/
def zonB (o d : ByteArray) (t c l : Int) : Bool := isN o && decide (c = 1) && decide (0 ≤ l) && decide (l ≤ 2147483647) && decide (errD t d = 0)
theorem chk_n8 {o : ByteArray} (h : isN o = false) : chk o = 1 := by unfold chk; rw [h]; rfl
theorem chk_y8 {o : ByteArray} (h : isN o = true) : chk o = 0 := by unfold chk; rw [h]; rfl

set_option maxRecDepth 100000 in
set_option maxHeartbeats 2000000 in
/-- data.IsRecord -/
theorem isRecord_any (o d : ByteArray) (t c l : Int) (w : World) (ho : o.size ≤ maxLen) (hd : d.size ≤ 9223372036854775807) :
    Calls Tryz.prog 17 #[.agg #[.string o, .int .i64 t, .int .i64 c, .int .i64 l, .string d]] w fun r w' => r = .returned (.bool (zonB o d t c l)) ∧ Below w.heap.size w w' := by
  obtain ⟨W, hW⟩ : ∃ W, w.alloc (.cells #[.string o, .int .i64 t, .int .i64 c, .int .i64 l, .string d] 54) = W := ⟨_, rfl⟩
  have HB : Hid (Below w.heap.size w W) := by rw [← hW]; exact (Below.refl _ _).alloc (Nat.le_refl _) _
  have h0 : Bx (w.alloc (.cells #[.string o, .int .i64 t, .int .i64 c, .int .i64 l, .string d] 54)) w.heap.size #[.string o, .int .i64 t, .int .i64 c, .int .i64 l, .string d] 54 := World.alloc_heap_new w _
  rw [hW] at h0
  have HH := hide' h0
  have QF : Hid (∀ V : World, Bx V w.heap.size #[.string o, .int .i64 t, .int .i64 c, .int .i64 l, .string d] 54 → V.cell? ⟨w.heap.size, 0, none⟩ = some (.string o) ∧ V.cell? ⟨w.heap.size, 1, none⟩ = some (.int .i64 t) ∧ V.cell? ⟨w.heap.size, 2, none⟩ = some (.int .i64 c) ∧ V.cell? ⟨w.heap.size, 3, none⟩ = some (.int .i64 l) ∧ V.cell? ⟨w.heap.size, 4, none⟩ = some (.string d)) := fun V h => ⟨h.cell rfl, h.cell rfl, h.cell rfl, h.cell rfl, h.cell rfl⟩
  obtain ⟨k0, k1, k2, k3, k4⟩ := QF.out W h0
  clear h0
  obtain ⟨ee, hee⟩ : ∃ ee, errD t d = ee := ⟨_, rfl⟩
  have HE := hide' hee
  cases hN : isN o with
  | false =>
    have HV : Hid (zonB o d t c l = false) := by unfold Hid zonB; rw [hN]; rfl
    have HN := hide' (chk_n8 hN)
    rw [HV.out]
    go_enter Tryz.func17, Tryz.ntmps17
    go_wp2_with (first
      | (go_at_call 11; refine (check_any o _ ho).mono ?_; rw [HN.out]; rintro r w1 ⟨rfl, hB1⟩; have HH1 := hide' (HH.out.below hB1 HH.out.lt); have HB1 := hide' (bstep HB.out hB1 HB.out.size); obtain ⟨j0, j1, j2, j3, j4⟩ := QF.out w1 HH1.out; clear hB1)
      | (go_at_call 35; refine (dataCheck_any t d _ hd).mono ?_; rw [HE.out]; rintro r w2 ⟨rfl, hB2⟩; have HB2 := hide' (bstep HB1.out hB2 HB1.out.size); clear hB2))
    go_ret
    exact ⟨rfl, by first | exact HB2.out | exact HB1.out⟩
  | true =>
    have HN := hide' (chk_y8 hN)
    by_cases hc : c = 1
    · by_cases hl0 : 0 ≤ l
      · by_cases hl1 : l ≤ 2147483647
        · by_cases h0 : ee = 0
          · have HV : Hid (zonB o d t c l = true) := by unfold Hid zonB; rw [hN, decide_eq_true hc, decide_eq_true hl0, decide_eq_true hl1, decide_eq_true (hee.trans h0)]; rfl
            subst h0
            subst hc
            clear hN hee
            rw [HV.out]
            go_enter Tryz.func17, Tryz.ntmps17
            go_wp2_with (first
              | (go_at_call 11; refine (check_any o _ ho).mono ?_; rw [HN.out]; rintro r w1 ⟨rfl, hB1⟩; have HH1 := hide' (HH.out.below hB1 HH.out.lt); have HB1 := hide' (bstep HB.out hB1 HB.out.size); obtain ⟨j0, j1, j2, j3, j4⟩ := QF.out w1 HH1.out; clear hB1)
              | (go_at_call 35; refine (dataCheck_any t d _ hd).mono ?_; rw [HE.out]; rintro r w2 ⟨rfl, hB2⟩; have HB2 := hide' (bstep HB1.out hB2 HB1.out.size); clear hB2))
            go_ret
            exact ⟨rfl, by first | exact HB2.out | exact HB1.out⟩
          · have HV : Hid (zonB o d t c l = false) := by unfold Hid zonB; rw [decide_eq_false (fun h => h0 (hee.symm.trans h))]; simp
            have hb : ((ee : Int) == 0) = false := by rw [beq_eq_false_iff_ne]; omega
            have hb2 : ¬ (ee : Int) = 0 := by omega
            subst hc
            clear hN hee h0
            rw [HV.out]
            go_enter Tryz.func17, Tryz.ntmps17
            go_wp2_with (first
              | (go_at_call 11; refine (check_any o _ ho).mono ?_; rw [HN.out]; rintro r w1 ⟨rfl, hB1⟩; have HH1 := hide' (HH.out.below hB1 HH.out.lt); have HB1 := hide' (bstep HB.out hB1 HB.out.size); obtain ⟨j0, j1, j2, j3, j4⟩ := QF.out w1 HH1.out; clear hB1)
              | (go_at_call 35; refine (dataCheck_any t d _ hd).mono ?_; rw [HE.out]; rintro r w2 ⟨rfl, hB2⟩; have HB2 := hide' (bstep HB1.out hB2 HB1.out.size); clear hB2))
            go_ret
            exact ⟨rfl, by first | exact HB2.out | exact HB1.out⟩
        · have HV : Hid (zonB o d t c l = false) := by unfold Hid zonB; rw [decide_eq_false hl1]; simp
          subst hc
          clear hN hee
          rw [HV.out]
          go_enter Tryz.func17, Tryz.ntmps17
          go_wp2_with (first
            | (go_at_call 11; refine (check_any o _ ho).mono ?_; rw [HN.out]; rintro r w1 ⟨rfl, hB1⟩; have HH1 := hide' (HH.out.below hB1 HH.out.lt); have HB1 := hide' (bstep HB.out hB1 HB.out.size); obtain ⟨j0, j1, j2, j3, j4⟩ := QF.out w1 HH1.out; clear hB1)
            | (go_at_call 35; refine (dataCheck_any t d _ hd).mono ?_; rw [HE.out]; rintro r w2 ⟨rfl, hB2⟩; have HB2 := hide' (bstep HB1.out hB2 HB1.out.size); clear hB2))
          go_ret
          exact ⟨rfl, by first | exact HB2.out | exact HB1.out⟩
      · have HV : Hid (zonB o d t c l = false) := by unfold Hid zonB; rw [decide_eq_false hl0]; simp
        subst hc
        clear hN hee
        rw [HV.out]
        go_enter Tryz.func17, Tryz.ntmps17
        go_wp2_with (first
          | (go_at_call 11; refine (check_any o _ ho).mono ?_; rw [HN.out]; rintro r w1 ⟨rfl, hB1⟩; have HH1 := hide' (HH.out.below hB1 HH.out.lt); have HB1 := hide' (bstep HB.out hB1 HB.out.size); obtain ⟨j0, j1, j2, j3, j4⟩ := QF.out w1 HH1.out; clear hB1)
          | (go_at_call 35; refine (dataCheck_any t d _ hd).mono ?_; rw [HE.out]; rintro r w2 ⟨rfl, hB2⟩; have HB2 := hide' (bstep HB1.out hB2 HB1.out.size); clear hB2))
        go_ret
        exact ⟨rfl, by first | exact HB2.out | exact HB1.out⟩
    · have HV : Hid (zonB o d t c l = false) := by unfold Hid zonB; rw [decide_eq_false hc]; simp
      have hb : (c == 1) = false := by rw [beq_eq_false_iff_ne]; exact hc
      clear hN hee
      rw [HV.out]
      go_enter Tryz.func17, Tryz.ntmps17
      go_wp2_with (first
        | (go_at_call 11; refine (check_any o _ ho).mono ?_; rw [HN.out]; rintro r w1 ⟨rfl, hB1⟩; have HH1 := hide' (HH.out.below hB1 HH.out.lt); have HB1 := hide' (bstep HB.out hB1 HB.out.size); obtain ⟨j0, j1, j2, j3, j4⟩ := QF.out w1 HH1.out; clear hB1)
        | (go_at_call 35; refine (dataCheck_any t d _ hd).mono ?_; rw [HE.out]; rintro r w2 ⟨rfl, hB2⟩; have HB2 := hide' (bstep HB1.out hB2 HB1.out.size); clear hB2))
      go_ret
      exact ⟨rfl, by first | exact HB2.out | exact HB1.out⟩
end Go.Proofs.YtiaccimdjfdkgaaGreatDoor

/-
  Rows of records that are written in their place. (The verifier's own text.)
-/
namespace Go.Proofs.YtiaccimdjfdkgaaGreatDoor
set_option linter.unusedVariables false
open Go.RowKit Go.Shelf Go.Maps Go.Proofs.YtiaccimdjfdkgaaGreatDoor.Nm

/-- a record as cells -/
def ren5 (x : Rn) : List Value := [.string x.o, .int .i64 x.t, .int .i64 x.c, .int .i64 x.l, .string x.d]
def rce5 (L : List Rn) : List Value := L.flatMap ren5
theorem get5 (L : List Rn) : ∀ j, (hj : j < L.length) → (rce5 L)[j * 5]? = some (.string L[j].o) ∧ (rce5 L)[j * 5 + 1]? = some (.int .i64 L[j].t) ∧ (rce5 L)[j * 5 + 2]? = some (.int .i64 L[j].c) ∧ (rce5 L)[j * 5 + 3]? = some (.int .i64 L[j].l) ∧ (rce5 L)[j * 5 + 4]? = some (.string L[j].d) := by
  induction L with
  | nil => intro j hj; simp at hj
  | cons x L ih =>
    intro j hj
    have e : rce5 (x :: L) = (.string x.o) :: (.int .i64 x.t) :: (.int .i64 x.c) :: (.int .i64 x.l) :: (.string x.d) :: rce5 L := by simp [rce5, ren5]
    cases j with
    | zero => simp [e]
    | succ j =>
      have := ih j (by simpa using hj)
      rw [e]
      have e1 : (j + 1) * 5 = j * 5 + 1 + 1 + 1 + 1 + 1 := by omega
      rw [e1]
      simpa using this
/-- a block of records: those of L, then whatever stands behind -/
def Rb (w : World) (g : Nat) (L : List Rn) (rest : List Value) : Prop := Bx w g (rce5 L ++ rest).toArray 54
theorem rce5_len (L : List Rn) : (rce5 L).length = L.length * 5 := by
  induction L with
  | nil => rfl
  | cons x l ih =>
    have e : rce5 (x :: l) = ren5 x ++ rce5 l := by simp [rce5]
    rw [e, List.length_append, ih]
    show 5 + _ = _
    simp only [List.length_cons]; omega
theorem rce5_app (L M : List Rn) : rce5 (L ++ M) = rce5 L ++ rce5 M := by simp [rce5]
theorem rce5_one (L : List Rn) : ∀ u ∈ rce5 L, u.oneCell' = true := by
  intro u hu
  obtain ⟨x, _, hx⟩ := List.mem_flatMap.1 hu
  simp [ren5] at hx
  rcases hx with rfl | rfl | rfl | rfl | rfl <;> rfl
theorem Rb.cells {w : World} {g : Nat} {L : List Rn} {rest : List Value} (h : Rb w g L rest) {j : Nat} (hj : j < L.length) : w.cell? ⟨g, j * 5, none⟩ = some (.string L[j].o) ∧ w.cell? ⟨g, j * 5 + 1, none⟩ = some (.int .i64 L[j].t) ∧ w.cell? ⟨g, j * 5 + 2, none⟩ = some (.int .i64 L[j].c) ∧ w.cell? ⟨g, j * 5 + 3, none⟩ = some (.int .i64 L[j].l) ∧ w.cell? ⟨g, j * 5 + 4, none⟩ = some (.string L[j].d) := by
  obtain ⟨h0, h1, h2, h3, h4⟩ := get5 L j hj
  have hl := rce5_len L
  have hx : ∀ (i : Nat) (v : Value), i < L.length * 5 → (rce5 L)[i]? = some v → (rce5 L ++ rest).toArray[i]? = some v := fun i v hi hv => by
    rw [List.getElem?_toArray, List.getElem?_append_left (by omega), hv]
  exact ⟨h.cell (hx _ _ (by omega) h0), h.cell (hx _ _ (by omega) h1), h.cell (hx _ _ (by omega) h2), h.cell (hx _ _ (by omega) h3), h.cell (hx _ _ (by omega) h4)⟩
/-- five cells of a block are set -/
def setR (w : World) (g o : Nat) (r : Rn) : World := (((((w.setCell ⟨g, o, none⟩ (.string r.o)).setCell ⟨g, o + 1, none⟩ (.int .i64 r.t)).setCell ⟨g, o + 2, none⟩ (.int .i64 r.c)).setCell ⟨g, o + 3, none⟩ (.int .i64 r.l)).setCell ⟨g, o + 4, none⟩ (.string r.d))
theorem set_list {A B C : List Value} {b : Value} (v : Value) : (A ++ b :: C).toArray.setIfInBounds A.length v = (A ++ v :: C).toArray := by
  apply Array.ext'
  simp only [Array.toList_setIfInBounds]
  rw [List.set_append_right _ _ (Nat.le_refl _)]
  simp
theorem bx_setCells {g : Nat} {T : TypeId} : ∀ (vs A B C : List Value), B.length = vs.length → ∀ w : World, Bx w g (A ++ B ++ C).toArray T → Bx (w.setCells g A.length vs) g (A ++ vs ++ C).toArray T
  | [], A, [], C, _, w, h => h
  | v :: vs, A, b :: B, C, hl, w, h => by
    have h1 : Bx (w.setCell ⟨g, A.length, none⟩ v) g (A ++ v :: (B ++ C)).toArray T := by
      have h0 : Bx w g (A ++ b :: (B ++ C)).toArray T := by simpa using h
      have := h0.set A.length v
      rw [set_list (B := B)] at this
      exact this
    have h2 : Bx (w.setCell ⟨g, A.length, none⟩ v) g ((A ++ [v]) ++ B ++ C).toArray T := by simpa using h1
    have h3 := bx_setCells vs (A ++ [v]) B C (by simpa using hl) (w.setCell ⟨g, A.length, none⟩ v) h2
    have e : (A ++ [v]).length = A.length + 1 := by simp
    rw [e] at h3
    show Bx ((w.setCell ⟨g, A.length, none⟩ v).setCells g (A.length + 1) vs) g _ T
    have e2 : (A ++ [v]) ++ vs ++ C = A ++ (v :: vs) ++ C := by simp
    rw [e2] at h3
    exact h3
theorem grown_setCells (g : Nat) : ∀ (vs : List Value) (o : Nat) (w : World), w.grownBy (w.setCells g o vs) (some g)
  | [], o, w => grown_refl _ _
  | v :: vs, o, w => grown_trans (grown_set w g o v) (grown_setCells g vs (o + 1) (w.setCell ⟨g, o, none⟩ v))
theorem setR_cells (w : World) (g o : Nat) (r : Rn) : setR w g o r = w.setCells g o (ren5 r) := rfl
theorem list_split {L : List Rn} {j : Nat} (hj : j < L.length) : L = L.take j ++ L[j] :: L.drop (j + 1) := by
  rw [← List.drop_eq_getElem_cons hj, List.take_append_drop]
theorem Rb.put {w : World} {g : Nat} {L : List Rn} {rest : List Value} (h : Rb w g L rest) {j : Nat} (hj : j < L.length) (r : Rn) : Rb (setR w g (j * 5) r) g (L.set j r) rest := by
  have e1 : rce5 L ++ rest = rce5 (L.take j) ++ ren5 L[j] ++ (rce5 (L.drop (j + 1)) ++ rest) := by
    have e : rce5 L = rce5 (L.take j) ++ (ren5 L[j] ++ rce5 (L.drop (j + 1))) := by
      have e0 : rce5 L = rce5 (L.take j ++ L[j] :: L.drop (j + 1)) := congrArg rce5 (list_split hj)
      rw [e0, rce5_app]
      rfl
    rw [e]; simp
  have e2 : rce5 (L.set j r) ++ rest = rce5 (L.take j) ++ ren5 r ++ (rce5 (L.drop (j + 1)) ++ rest) := by
    have e : L.set j r = L.take j ++ r :: L.drop (j + 1) := by rw [List.set_eq_take_append_cons_drop, if_pos hj]
    rw [e, rce5_app]
    simp [rce5]
  have hl : (rce5 (L.take j)).length = j * 5 := by rw [rce5_len, List.length_take]; omega
  unfold Rb at h ⊢
  rw [e1] at h
  have := bx_setCells (ren5 r) (rce5 (L.take j)) (ren5 L[j]) (rce5 (L.drop (j + 1)) ++ rest) rfl w h
  rw [hl] at this
  rw [e2, setR_cells]
  exact this
/-- a record that is none -/
def zR : Rn := ⟨.empty, 0, 0, 0, .empty⟩
theorem zeroR : (Tryz.prog.info? 54).map (·.zero) = some (some (.agg (ren5 zR).toArray)) := by kernel_rfl
theorem zero_cells5 (n : Nat) : (Builtin.zeroCells (Value.agg (ren5 zR).toArray).cells n).toList = rce5 (List.replicate n zR) := by
  have hz : (Value.agg (ren5 zR).toArray).cells = (ren5 zR).toArray := rfl
  rw [hz]
  apply List.ext_getElem?
  intro i
  by_cases hi : i < n * 5
  · have hlen : (rce5 (List.replicate n zR)).length = n * 5 := by rw [rce5_len, List.length_replicate]
    have hk : i / 5 < (List.replicate n zR).length := by rw [List.length_replicate]; omega
    obtain ⟨h0, h1, h2, h3, h4⟩ := get5 (List.replicate n zR) (i / 5) hk
    have hg : (List.replicate n zR)[i / 5] = zR := by simp
    rw [hg] at h0 h1 h2 h3 h4
    have hL : (Builtin.zeroCells (ren5 zR).toArray n).toList[i]? = some ((ren5 zR).toArray[i % 5]!) := by
      unfold Builtin.zeroCells
      rw [show (ren5 zR).toArray.size = 5 from rfl]
      simp [hi]
    rw [hL]
    have : i % 5 = 0 ∨ i % 5 = 1 ∨ i % 5 = 2 ∨ i % 5 = 3 ∨ i % 5 = 4 := by omega
    rcases this with e | e | e | e | e
    · rw [e, show i = i / 5 * 5 by omega, h0]; rfl
    · rw [e, show i = i / 5 * 5 + 1 by omega, h1]; rfl
    · rw [e, show i = i / 5 * 5 + 2 by omega, h2]; rfl
    · rw [e, show i = i / 5 * 5 + 3 by omega, h3]; rfl
    · rw [e, show i = i / 5 * 5 + 4 by omega, h4]; rfl
  · have hlen : (rce5 (List.replicate n zR)).length = n * 5 := by rw [rce5_len, List.length_replicate]
    have hl2 : (Builtin.zeroCells (ren5 zR).toArray n).toList.length = n * 5 := by
      unfold Builtin.zeroCells
      rw [show (ren5 zR).toArray.size = 5 from rfl]
      simp
    rw [List.getElem?_eq_none (by omega), List.getElem?_eq_none (by omega)]
/-- 'clear(s)' of records -/
theorem run_clearR (w : World) (hv : ∀ w : World, (zeroValue 54).run Tryz.prog w = .ok (.agg (ren5 zR).toArray) w) (g : Nat) (A B : List Rn) (rest : List Value) (c ty : Nat) (hB : 0 < B.length) (h : Rb w g (A ++ B) rest) :
    ∃ w2, (Builtin.clear_ #[22] ty #[.slice (some ⟨g, A.length * 5, none⟩) B.length c]).run Tryz.prog w = .ok (.tuple #[]) w2 ∧ Rb w2 g (A ++ List.replicate B.length zR) rest ∧ w.grownBy w2 (some g) := by
  refine ⟨w.setCells g (A.length * 5) (rce5 (List.replicate B.length zR)), ?_, ?_, grown_setCells g _ _ w⟩
  · have hlen : (rce5 (List.replicate B.length zR)).length = B.length * 5 := by rw [rce5_len, List.length_replicate]
    have hst := run_storeCells_cells (P := Tryz.prog) g (A.length * 5) (rce5 (List.replicate B.length zR)) 0 w (fun j hj => by
      have hh : (rce5 (A ++ B) ++ rest).toArray[A.length * 5 + 0 + j]? = some ((rce5 (A ++ B) ++ rest)[A.length * 5 + 0 + j]'(by rw [List.length_append, rce5_len, List.length_append]; omega)) := by
        rw [List.getElem?_toArray, List.getElem?_eq_getElem]
      rw [h.cell hh]; rfl) (fun j hj => h.free _) (rce5_one _)
    simp only [Nat.add_zero] at hst
    obtain ⟨m, hm⟩ : ∃ m, B.length = m + 1 := ⟨B.length - 1, by omega⟩
    rw [hm] at hst ⊢
    simp [Builtin.clear_, run_underlying Tryz.underlying22, hv, zero_cells5, hst]
  · have hl : (rce5 A).length = A.length * 5 := rce5_len A
    unfold Rb at h ⊢
    rw [rce5_app] at h ⊢
    have := bx_setCells (rce5 (List.replicate B.length zR)) (rce5 A) (rce5 B) rest (by rw [rce5_len, rce5_len, List.length_replicate]) w h
    rw [hl] at this
    exact this
end Go.Proofs.YtiaccimdjfdkgaaGreatDoor

/-
  A row of records of one's own: appended, and its block. (The verifier's own text.)
-/
namespace Go.Proofs.YtiaccimdjfdkgaaGreatDoor
set_option linter.unusedVariables false
set_option linter.unusedSimpArgs false
open Go.RowKit Go.Shelf Go.Proofs.YtiaccimdjfdkgaaGreatDoor.Nm

theorem rb_ownM {w : World} {base g cap n : Nat} {L : List Rn} (h : w.ownsRow base 54 5 (.slice (some ⟨g, 0, none⟩) n cap) n (rce5 L)) : ∃ rest, Rb w g L rest ∧ base ≤ g := by
  obtain ⟨hl, (⟨h1, h0⟩ | ⟨g', cap', cur, h1, hb, hg, hn, hcm, hcs, htk⟩)⟩ := h
  · cases h1
  · injection h1 with h1 h2 h3
    injection h1 with h1
    injection h1 with h1
    subst h1
    refine ⟨cur.toList.drop (n * 5), ?_, hb⟩
    unfold Rb Bx
    rw [← htk, List.take_append_drop, Array.toArray_toList]
    exact hg
theorem infoRM : (Tryz.prog.info? 54).map (fun i => (i.zero, i.size, i.bytes)) = some (some (.agg #[.string .empty, .int .i64 0, .int .i64 0, .int .i64 0, .string .empty]), 5, 56) := by kernel_rfl
theorem rs_newsM {w : World} {ad : Addr} {L : List Rn} (h : RsAt w (some ad) L) : ∀ j u, (rce5 L)[j]? = some u → w.cell? (ad.add j) = some u := by
  intro j u hj
  have hlt : j < L.length * 5 := by have := (List.getElem?_eq_some_iff.1 hj).1; rw [rce5_len] at this; exact this
  have hk : j / 5 < L.length := by omega
  obtain ⟨g, off, hp, _, h0, h1, h2, h3, h4⟩ := h (j / 5) hk
  obtain ⟨e0, e1, e2, e3, e4⟩ := get5 L (j / 5) hk
  obtain rfl := Option.some.inj hp
  have ha : (⟨g, off, none⟩ : Addr).add j = ⟨g, off + j, none⟩ := by simp [Addr.add]
  rw [ha]
  have : j % 5 = 0 ∨ j % 5 = 1 ∨ j % 5 = 2 ∨ j % 5 = 3 ∨ j % 5 = 4 := by omega
  rcases this with e | e | e | e | e
  · rw [show j = j / 5 * 5 by omega] at hj ⊢; rw [e0] at hj; rw [h0, hj]
  · rw [show j = j / 5 * 5 + 1 by omega] at hj ⊢; rw [e1] at hj; rw [← Nat.add_assoc, h1, hj]
  · rw [show j = j / 5 * 5 + 2 by omega] at hj ⊢; rw [e2] at hj; rw [← Nat.add_assoc, h2, hj]
  · rw [show j = j / 5 * 5 + 3 by omega] at hj ⊢; rw [e3] at hj; rw [← Nat.add_assoc, h3, hj]
  · rw [show j = j / 5 * 5 + 4 by omega] at hj ⊢; rw [e4] at hj; rw [← Nat.add_assoc, h4, hj]
/-- append of records that lie anywhere -/
theorem wpList_append_recsM {ops : Array Oper} {rest : List Oper} {o : Oper} {a : Act} {w : World} {Q : Exit → Act → World → Prop} (hgd : o.guard = none) (s x : Operand) (ho : o.op = .call { callee := .builtin .append, args := #[s, x], argTypes := #[22, 22] })
    (base : Nat) (v : Value) (n : Nat) (xs : List Value) (hs : a.eval s = v) (hown : w.ownsRow base 54 5 v n xs) (p : Option Addr) (L : List Rn) (cap : Nat) (hx : a.eval x = .slice p L.length cap) (hat : RsAt w p L) (hn : p = none → cap = 0) (h63 : n + L.length ≤ 10000000) (hbase : base ≤ w.heap.size)
    (h : ∀ v' w', w'.ownsRow base 54 5 v' (n + L.length) (xs ++ rce5 L) → w.grownBy w' v.ownBlock → wpList Tryz.prog ops Q rest (a.put o.dst v') w') : wpList Tryz.prog ops Q (o :: rest) a w := by
  obtain ⟨i0, hi, hz0, hz1, hz2⟩ := info_parts infoRM
  cases p with
  | none =>
    obtain rfl : L = [] := by
      cases L with
      | nil => rfl
      | cons y l => obtain ⟨g, off, hp, _⟩ := hat 0 (by simp); cases hp
    obtain rfl := hn rfl
    refine wpList_append_own_none hgd s x 22 ho base 54 i0 5 Tryz.underlying22 hi v n xs hs hown hx ?_
    exact h v w (by simpa [rce5] using hown) ⟨rfl, rfl, rfl, Nat.le_refl _, fun _ _ _ => rfl⟩
  | some ad =>
    refine wpList_append_own _ hgd s x 22 ho base 54 i0 (.agg #[.string .empty, .int .i64 0, .int .i64 0, .int .i64 0, .string .empty]) 5 56 Tryz.underlying22 hi hz0 hz1 hz2 rfl (by decide) v n xs hs hown ad L.length cap (rce5 L) hx (rce5_len L) (fun j u => rs_newsM hat j u) (rce5_one L) (by unfold maxLen; omega) (by omega) hbase ?_
    intro v' w' h1 h2 _
    exact h v' w' h1 h2
theorem rb_rs {w : World} {g : Nat} {L : List Rn} {rest : List Value} (h : Rb w g L rest) : RsAt w (some ⟨g, 0, none⟩) L := fun k hk => by
  obtain ⟨e0, e1, e2, e3, e4⟩ := h.cells hk
  exact ⟨g, 0, rfl, h.lt, by simpa using e0, by simpa using e1, by simpa using e2, by simpa using e3, by simpa using e4⟩
end Go.Proofs.YtiaccimdjfdkgaaGreatDoor

/-
  gazetteersame.Records. (The verifier's own text; as in Ti2.)
-/
namespace Go.Proofs.YtiaccimdjfdkgaaGreatDoor
set_option linter.unusedVariables false
open Go.RowKit Go.Shelf Go.Maps Go.Proofs.YtiaccimdjfdkgaaGreatDoor.Nm

set_option maxRecDepth 100000 in
set_option maxHeartbeats 2000000 in
/-- gazetteersame.Records, at the same list -/
theorem sameRecordsM (p1 p2 : Option Addr) (n c1 c2 : Nat) (L : List Rn) (w : World) (hx : RsAt w p1 L) (hy : RsAt w p2 L) (hn : n = L.length) (hl : n ≤ 4294967296) :
    Calls Tryz.prog 7 #[.slice p1 n c1, .slice p2 n c2] w fun e w' => e = .returned (.bool true) ∧ ∃ m, w' = w.drewN m := by
  have HX := hide' hx
  have HY := hide' hy
  have HN := hide' hn
  clear hx hy hn
  go_enter Tryz.func7, Tryz.ntmps7
  go_wp2
  go_loopw [13] (fun i wr => ∃ k m : Nat, i = .int .i64 k ∧ k ≤ n ∧ wr = w.drewN m) (fun i _ => n - (intOf i).toNat)
  case atStart => exact ⟨0, 0, rfl, Nat.zero_le _, rfl⟩
  case round =>
    obtain ⟨k, m, rfl, hk, rfl⟩ := hrel
    by_cases hlt : k < n
    · obtain ⟨g1, o1, rfl, _, x0, x1, x2, x3, x4⟩ := HX.out k (by rw [← HN.out]; exact hlt)
      obtain ⟨g2, o2, rfl, _, y0, y1, y2, y3, y4⟩ := HY.out k (by rw [← HN.out]; exact hlt)
      generalize L[k].o = qo at *
      generalize L[k].t = qt at *
      generalize L[k].c = qc at *
      generalize L[k].l = ql at *
      generalize L[k].d = qd at *
      go_wp2
      go_quiet (fail)
      go_wp2
      go_roundw
      case rel => exact ⟨k + 1, m + nq, by go_num, by omega, rfl⟩
      case measure => simp [intOf]; omega
    · go_wp2
      go_ret
      exact ⟨rfl, m, rfl⟩
theorem rs_own5M {w : World} {b g c n : Nat} {L : List Rn} (h : w.ownsRow b 54 5 (.slice (some ⟨g, 0, none⟩) n c) n (rce5 L)) : RsAt w (some ⟨g, 0, none⟩) L := fun k hk => by
  obtain ⟨rest, h1, _⟩ := rb_ownM h
  obtain ⟨e0, e1, e2, e3, e4⟩ := h1.cells hk
  exact ⟨g, 0, rfl, h1.lt, by simpa using e0, by simpa using e1, by simpa using e2, by simpa using e3, by simpa using e4⟩
end Go.Proofs.YtiaccimdjfdkgaaGreatDoor
