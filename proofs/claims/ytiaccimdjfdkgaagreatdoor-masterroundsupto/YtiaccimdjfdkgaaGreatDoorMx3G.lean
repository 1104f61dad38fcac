import Derived.Test.YtiaccimdjfdkgaaGreatDoorMx0G
import Derived.Test.YtiaccimdjfdkgaaGreatDoorRn0G
import Derived.Test.YtiaccimdjfdkgaaGreatDoorDbuG
/-
  A file that is printed, plainly: its lines, its entries. (The verifier's own text.)
-/
namespace Go.Proofs.YtiaccimdjfdkgaaGreatDoor
set_option linter.unusedVariables false
set_option linter.unusedSimpArgs false
open Go Go.Proofs.YtiaccimdjfdkgaaGreatDoor.Nm

/-- a record that may be printed -/
structure RcOk (x : Rn) : Prop where
  o : isN x.o = true
  c : x.c = 1
  l0 : 0 ≤ x.l
  l1 : x.l ≤ 2147483647
  t0 : 1 ≤ x.t
  t1 : x.t ≤ 65535
  p : ∃ ps, partsD x.t x.d = some ps
/-- the words that tell its data -/
def tellD (x : Rn) : List Wz := tellA ((partsD x.t x.d).getD [])
theorem tellD_eq {x : Rn} {ps : List (Kind × ByteArray)} (h : partsD x.t x.d = some ps) : tellD x = tellA ps := by unfold tellD; rw [h]; rfl
/-- words behind a tab, blanks between -/
def tabd : List Wz → List (Nat × Wz)
  | [] => []
  | z :: Z => (9, z) :: Z.map fun y => (32, y)
theorem lnB_32 : ∀ Z : List Wz, lnB (Z.map fun y => (32, y)) = sfx true Z
  | [] => rfl
  | z :: Z => by
    rw [List.map_cons, lnB_cons, lnB_32 Z, sfx_true, sfx_false]
theorem lnB_tabd {Z : List Wz} (h : Z ≠ []) : lnB (tabd Z) = 9 :: jnW Z := by
  cases Z with
  | nil => exact absurd rfl h
  | cons z Z =>
    show lnB ((9, z) :: Z.map fun y => (32, y)) = _
    rw [lnB_cons, lnB_32, jnW_cons]
theorem tabd_words (Z : List Wz) : (tabd Z).map (fun p => wdB p.2) = Z.map wdB := by
  cases Z with
  | nil => rfl
  | cons z Z => simp [tabd]
def rowT (x : Rn) : List (Nat × Wz) := (9, ⟨dgN x.l.toNat, false⟩) :: (9, ⟨[73, 78], false⟩) :: (9, ⟨lsB (nameT x.t), false⟩) :: tabd (tellD x)
/-- the lines of records, behind one of the owner last -/
def prL (o : ByteArray) : ByteArray → List Rn → List Li
  | _, [] => []
  | last, x :: R => ⟨if x.o = last then none else some ⟨ownL x.o o, false⟩, rowT x⟩ :: prL o x.o R
def headLi (o : ByteArray) : Li := ⟨some ⟨[36, 79, 82, 73, 71, 73, 78], false⟩, [(32, ⟨lsB (showB o), false⟩)]⟩
def prF (o : ByteArray) (R : List Rn) : List Li := headLi o :: prL o ⟨#[]⟩ R
def prT (o : ByteArray) (R : List Rn) : List Nat := (prF o R).flatMap liB
theorem tellD_ne {x : Rn} (h : RcOk x) : tellD x ≠ [] := by
  obtain ⟨ps, hp⟩ := h.p
  rw [tellD_eq hp]
  obtain ⟨ks, hk, hks, hok⟩ := ps_ok hp
  have key : ∀ k l, ks = k :: l → (fstK k = true ∧ kKn k = true) ∨ k = 12 → tellA ps ≠ [] := fun k l hkl hc => by
    rw [hkl] at hks
    cases ps with
    | nil => cases hks
    | cons p ps =>
      rw [List.map_cons] at hks
      injection hks with h1 h2
      rw [tellA_cons]
      intro e
      have e1 := (List.append_eq_nil_iff.1 e).1
      rcases hc with ⟨h3, h4⟩ | h3
      · obtain ⟨z, Z, hz, _⟩ := first_word p.1 p.2 (by rw [h1]; exact h3) (by rw [h1]; exact h4) (hok.sz p List.mem_cons_self) (hok.le p List.mem_cons_self)
        rw [hz] at e1; cases e1
      · rw [h1, h3] at e1
        cases e1
  rcases kinds_first hk with h12 | ⟨k, l, hkl, hf⟩
  · exact key 12 [] h12 (.inr rfl)
  · rcases kinds_known hk with ⟨hkn, _, _⟩ | h12
    · exact key k l hkl (.inl ⟨hf, hkn k (by rw [hkl]; exact List.mem_cons_self)⟩)
    · exact key 12 [] h12 (.inr rfl)
theorem tellD_ok {x : Rn} (h : RcOk x) : ∀ z ∈ tellD x, OkF z := by
  obtain ⟨ps, hp⟩ := h.p
  rw [tellD_eq hp]
  obtain ⟨ks, hk, hks, hok⟩ := ps_ok hp
  intro z hz
  obtain ⟨p, hpm, hz⟩ := List.mem_flatMap.1 hz
  exact tell_okF p.1 p.2 (hok.ok p hpm) (hok.sz p hpm) (hok.le p hpm) z hz
theorem rowT_ok {x : Rn} (h : RcOk x) : ∀ p ∈ rowT x, isBl p.1 = true ∧ OkF p.2 := by
  have h0 := h.t0
  have h1 := h.t1
  obtain ⟨k, hk⟩ : ∃ k : Nat, x.t = (k : Int) := ⟨x.t.toNat, by omega⟩
  intro p hp
  unfold rowT at hp
  rcases List.mem_cons.1 hp with e | hp
  · rw [e]; exact ⟨rfl, okF_dgN _⟩
  rcases List.mem_cons.1 hp with e | hp
  · rw [e]; exact ⟨rfl, by decide, (fun e => by cases e), fun _ => ⟨by simp, by decide⟩⟩
  rcases List.mem_cons.1 hp with e | hp
  · rw [e]; rw [hk]; exact ⟨rfl, okF_name (t := k) (by omega) (by omega)⟩
  · have hok := tellD_ok h
    cases ht : tellD x with
    | nil => rw [ht] at hp; cases hp
    | cons z Z =>
      rw [ht] at hp hok
      have hp' : p ∈ (9, z) :: Z.map fun y => (32, y) := hp
      rcases List.mem_cons.1 hp' with e | hp'
      · rw [e]; exact ⟨rfl, hok z List.mem_cons_self⟩
      · obtain ⟨y, hy, rfl⟩ := List.mem_map.1 hp'
        exact ⟨rfl, hok y (List.mem_cons_of_mem _ hy)⟩
theorem prL_ok {o : ByteArray} (ho : isN o = true) : ∀ (R : List Rn) (last : ByteArray), (∀ x ∈ R, RcOk x) → ∀ y ∈ prL o last R, LiOk y
  | [], last, _, y, hy => by cases hy
  | x :: R, last, hR, y, hy => by
    have hx := hR x List.mem_cons_self
    rcases List.mem_cons.1 hy with e | hy
    · subst e
      refine ⟨fun z hz => ?_, rowT_ok hx, fun _ => by simp [rowT]⟩
      simp only at hz
      split at hz
      · cases hz
      · injection hz with hz
        rw [← hz]
        exact (own_okF hx.o ho).1
    · exact prL_ok ho R x.o (fun z hz => hR z (List.mem_cons_of_mem _ hz)) y hy
theorem prF_ok {o : ByteArray} (ho : isN o = true) (R : List Rn) (hR : ∀ x ∈ R, RcOk x) : ∀ y ∈ prF o R, LiOk y := fun y hy => by
  rcases List.mem_cons.1 hy with e | hy
  · subst e
    refine ⟨fun z hz => ?_, fun p hp => ?_, fun h => by cases h⟩
    · have hz' : some (⟨[36, 79, 82, 73, 71, 73, 78], false⟩ : Wz) = some z := hz
      injection hz' with hz'
      rw [← hz']
      exact ⟨by decide, (fun e => by cases e), fun _ => ⟨by simp, by decide⟩⟩
    · have hp' : p ∈ [((32 : Nat), (⟨lsB (showB o), false⟩ : Wz))] := hp
      rw [List.mem_singleton.1 hp']
      exact ⟨rfl, dom_okF ho⟩
  · exact prL_ok ho R _ hR y hy
theorem shW_ltF {z : Wz} (h : OkF z) : ∀ x ∈ shW z, x < 256 := fun x hx => by
  unfold shW at hx
  split at hx
  · rcases List.mem_cons.1 hx with e | e
    · omega
    · rcases List.mem_append.1 e with e | e
      · exact h.lt x e
      · have := List.mem_singleton.1 e; omega
  · exact h.lt x hx
theorem liB_lt {x : Li} (h : LiOk x) : ∀ b ∈ liB x, b < 256 := fun b hb => by
  unfold liB at hb
  rcases List.mem_append.1 hb with e | e
  · cases hh : x.h with
    | none => rw [hh] at e; cases e
    | some z => rw [hh] at e; exact shW_ltF (h.h z hh) b e
  · rcases List.mem_append.1 e with e | e
    · obtain ⟨p, hp, hb⟩ := List.mem_flatMap.1 e
      have := h.r p hp
      rcases List.mem_cons.1 hb with e | e
      · have h1 := this.1
        unfold isBl at h1
        simp only [Bool.or_eq_true, beq_iff_eq] at h1
        omega
      · exact shW_ltF this.2 b e
    · have := List.mem_singleton.1 e; omega
theorem lines_lt {X : List Li} (h : ∀ x ∈ X, LiOk x) : ∀ b ∈ X.flatMap liB, b < 256 := fun b hb => by
  obtain ⟨x, hx, hb⟩ := List.mem_flatMap.1 hb
  exact liB_lt (h x hx) b hb
/-- the entries of a file of lines -/
theorem entsB_lines {X : List Li} (h : ∀ x ∈ X, LiOk x) : entsB (bts (X.flatMap liB)) = .inr (linesE 1 X) := by
  have := ents_lines (bts (X.flatMap liB)) X 0 1 [] h (pre_bts (lines_lt h)) (by rw [bts_size]; omega)
  rw [List.nil_append] at this
  exact this
theorem entsB_print {o : ByteArray} (ho : isN o = true) {R : List Rn} (hR : ∀ x ∈ R, RcOk x) : entsB (bts (prT o R)) = .inr (linesE 1 (prF o R)) := entsB_lines (prF_ok ho R hR)
theorem entsB_none : entsB ⟨#[]⟩ = .inr [] := entsB_lines (X := []) (fun x hx => by cases hx)
def smallX : List Li := [⟨some ⟨[64], false⟩, [(32, ⟨[49, 104], false⟩), (32, ⟨[73, 78], false⟩), (32, ⟨[65], false⟩), (32, ⟨[49, 48, 46, 48, 46, 48, 46, 49], false⟩)]⟩]
theorem small_ok : ∀ x ∈ smallX, LiOk x := fun x hx => by
  rw [List.mem_singleton.1 hx]
  have one : ∀ t : List Nat, t ≠ [] → (∀ x ∈ t, x < 256) → okf t = true → OkF ⟨t, false⟩ := fun t h1 h2 h3 => ⟨h2, (fun e => by cases e), fun _ => ⟨h1, h3⟩⟩
  refine ⟨fun z hz => ?_, fun p hp => ?_, fun h => by cases h⟩
  · simp only [Option.some.injEq] at hz
    rw [← hz]; exact one _ (by simp) (by decide) (by decide)
  · rcases List.mem_cons.1 hp with e | hp
    · rw [e]; exact ⟨rfl, one _ (by simp) (by decide) (by decide)⟩
    rcases List.mem_cons.1 hp with e | hp
    · rw [e]; exact ⟨rfl, one _ (by simp) (by decide) (by decide)⟩
    rcases List.mem_cons.1 hp with e | hp
    · rw [e]; exact ⟨rfl, one _ (by simp) (by decide) (by decide)⟩
    · rw [List.mem_singleton.1 hp]; exact ⟨rfl, one _ (by simp) (by decide) (by decide)⟩
end Go.Proofs.YtiaccimdjfdkgaaGreatDoor

/-
  What is printed, record by record, and how long it is, plainly. (The verifier's own text.)
-/
namespace Go.Proofs.YtiaccimdjfdkgaaGreatDoor
set_option linter.unusedVariables false
set_option linter.unusedSimpArgs false
open Go Go.Proofs.YtiaccimdjfdkgaaGreatDoor.Nm

def lineR (o last : ByteArray) (x : Rn) : Li := ⟨if x.o = last then none else some ⟨ownL x.o o, false⟩, rowT x⟩
/-- the last record's owner -/
def lastO : ByteArray → List Rn → ByteArray
  | last, [] => last
  | _, x :: R => lastO x.o R
theorem prL_snoc (o : ByteArray) (x : Rn) : ∀ (R : List Rn) (last : ByteArray), prL o last (R ++ [x]) = prL o last R ++ [lineR o (lastO last R) x]
  | [], last => rfl
  | y :: R, last => by
    show _ :: prL o y.o (R ++ [x]) = _
    rw [prL_snoc o x R y.o]
    rfl
theorem lastO_snoc (x : Rn) : ∀ (R : List Rn) (last : ByteArray), lastO last (R ++ [x]) = x.o
  | [], last => rfl
  | y :: R, last => lastO_snoc x R y.o
theorem prT_snoc (o : ByteArray) (R : List Rn) (x : Rn) : prT o (R ++ [x]) = prT o R ++ liB (lineR o (lastO ⟨#[]⟩ R) x) := by
  unfold prT prF
  rw [prL_snoc, ← List.cons_append, List.flatMap_append]
  simp
theorem prT_nil (o : ByteArray) : prT o [] = [36, 79, 82, 73, 71, 73, 78, 32] ++ (lsB (showB o) ++ [10]) := by
  unfold prT prF headLi prL liB liH lnB shW
  simp
/-- a line, part by part -/
def ownP (o last : ByteArray) (x : Rn) : List Nat := if x.o = last then [] else ownL x.o o
theorem lineR_parts (o last : ByteArray) {x : Rn} (h : RcOk x) : liB (lineR o last x) = ownP o last x ++ (9 :: dgN x.l.toNat ++ (9 :: [73, 78] ++ (9 :: lsB (nameT x.t) ++ (9 :: jnW (tellD x) ++ [10])))) := by
  have e : liH (lineR o last x).h = ownP o last x := by
    unfold lineR ownP
    simp only
    split
    · rfl
    · rfl
  unfold liB
  rw [e]
  show _ ++ (lnB (rowT x) ++ [10]) = _
  unfold rowT
  rw [lnB_cons, lnB_cons, lnB_cons, lnB_tabd (tellD_ne h)]
  simp [shW]
theorem ownL_len {n o : ByteArray} (hn : isN n = true) (ho : isN o = true) : (ownL n o).length ≤ 1100 := by
  have h255 := ((isN_iff n).1 hn).1
  unfold ownL
  split
  · simp
  · rename_i hne
    split
    · rename_i ht
      obtain ⟨A, h1, h2, h3, h4, h5⟩ := tail_form hn ho ht hne
      rw [h4]
      have e1 := shAll_len A
      have e2 := congrArg ByteArray.size h5
      rw [putB_append, ByteArray.size_append] at e2
      rw [(relL_facts h1 h2).2.2.2.2, List.length_append] at e1
      omega
    · have := (dom_ok hn).2.1
      rw [cst_plain] at this
      omega
theorem tellD_len {x : Rn} (h : RcOk x) : (jnW (tellD x)).length ≤ 100 * x.d.size + 900 ∧ x.d.size ≤ 65535 := by
  obtain ⟨ps, hp⟩ := h.p
  rw [tellD_eq hp]
  obtain ⟨ks, hk, hks, hok⟩ := ps_ok hp
  have h1 := (tellA_ok ps hok.ok hok.sz hok.le).2
  have h2 := hok.few
  have h3 := (jnW_len (tellA ps)).1
  rw [hok.cat] at h1
  exact ⟨by omega, hok.dl⟩
theorem lineR_len {o last : ByteArray} (ho : isN o = true) {x : Rn} (h : RcOk x) : (liB (lineR o last x)).length ≤ 100 * x.d.size + 2100 := by
  rw [lineR_parts o last h]
  have h1 : (ownP o last x).length ≤ 1100 := by
    unfold ownP
    split
    · simp
    · exact ownL_len h.o ho
  have h2 : (dgN x.l.toNat).length ≤ 10 := by
    have := dgN_len 9 x.l.toNat (by have := h.l1; omega)
    omega
  have h0 := h.t0
  have ht := h.t1
  obtain ⟨k, hk⟩ : ∃ k : Nat, x.t = (k : Int) := ⟨x.t.toNat, by omega⟩
  have h3 : (lsB (nameT x.t)).length ≤ 10 := by rw [hk]; exact (nameT_ok (t := k) (by omega) (by omega)).2
  have h4 := (tellD_len h).1
  simp only [List.length_append, List.length_cons, List.length_nil]
  omega
/-- how much data records have -/
def sumD (R : List Rn) : Nat := (R.map fun x => x.d.size).sum
theorem sumD_snoc (R : List Rn) (x : Rn) : sumD (R ++ [x]) = sumD R + x.d.size := by simp [sumD]
theorem sumD_take (R : List Rn) (k : Nat) : sumD (R.take k) ≤ sumD R := by
  conv => rhs; rw [← List.take_append_drop k R]
  unfold sumD
  rw [List.map_append, List.sum_append]
  omega
theorem prT_len {o : ByteArray} (ho : isN o = true) : ∀ (k : Nat) (R : List Rn), (∀ x ∈ R, RcOk x) → k ≤ R.length → (prT o (R.take k)).length ≤ 100 * sumD (R.take k) + 2100 * k + 1100
  | 0, R, _, _ => by
    rw [List.take_zero, prT_nil]
    have := (dom_ok ho).2.1
    have h255 := ((isN_iff o).1 ho).1
    rw [cst_plain] at this
    simp only [List.length_append, List.length_cons, List.length_nil]
    omega
  | k + 1, R, hR, hk => by
    have ih := prT_len ho k R hR (by omega)
    have hlt : k < R.length := by omega
    have e : R.take (k + 1) = R.take k ++ [R[k]] := by rw [List.take_add_one, List.getElem?_eq_getElem hlt, Option.toList_some]
    rw [e, prT_snoc, sumD_snoc, List.length_append]
    have := lineR_len (last := lastO ⟨#[]⟩ (R.take k)) ho (hR _ (List.getElem_mem hlt))
    omega
end Go.Proofs.YtiaccimdjfdkgaaGreatDoor
