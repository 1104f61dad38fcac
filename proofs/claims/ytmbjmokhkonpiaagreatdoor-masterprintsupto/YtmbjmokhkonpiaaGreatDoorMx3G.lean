import Derived.Test.YtmbjmokhkonpiaaGreatDoorMx0G
import Derived.Test.YtmbjmokhkonpiaaGreatDoorRn0G
import Derived.Test.YtmbjmokhkonpiaaGreatDoorDbw
/-
  A file that is printed, plainly: its lines, its entries. (The verifier's own text.)
-/
namespace Go.Proofs.YtmbjmokhkonpiaaGreatDoor
set_option linter.unusedVariables false
set_option linter.unusedSimpArgs false
open Go Go.Proofs.YtmbjmokhkonpiaaGreatDoor.Nm

/-- a record that may be printed -/
structure RcOk (x : Rn) : Prop where
  o : isN x.o = true
  c : x.c = 1
  l0 : 0 ≤ x.l
  l1 : x.l ≤ 2147483647
  t0 : 1 ≤ x.t
  t1 : x.t ≤ 65535
  p : ∃ ps, partsD x.t x.d = some ps
/-- the words that tell its data -/
def tellD (x : Rn) : List Wz := tellA ((partsD x.t x.d).getD [])
theorem tellD_eq {x : Rn} {ps : List (Kind × ByteArray)} (h : partsD x.t x.d = some ps) : tellD x = tellA ps := by unfold tellD; rw [h]; rfl
/-- words behind a tab, blanks between -/
def tabd : List Wz → List (Nat × Wz)
  | [] => []
  | z :: Z => (9, z) :: Z.map fun y => (32, y)
theorem lnB_32 : ∀ Z : List Wz, lnB (Z.map fun y => (32, y)) = sfx true Z
  | [] => rfl
  | z :: Z => by
    rw [List.map_cons, lnB_cons, lnB_32 Z, sfx_true, sfx_false]
theorem lnB_tabd {Z : List Wz} (h : Z ≠ []) : lnB (tabd Z) = 9 :: jnW Z := by
  cases Z with
  | nil => exact absurd rfl h
  | cons z Z =>
    show lnB ((9, z) :: Z.map fun y => (32, y)) = _
    rw [lnB_cons, lnB_32, jnW_cons]
def rowT (x : Rn) : List (Nat × Wz) := (9, ⟨dgN x.l.toNat, false⟩) :: (9, ⟨[73, 78], false⟩) :: (9, ⟨lsB (nameT x.t), false⟩) :: tabd (tellD x)
/-- the lines of records, behind one of the owner last -/
def prL (o : ByteArray) : ByteArray → List Rn → List Li
  | _, [] => []
  | last, x :: R => ⟨if x.o = last then none else some ⟨ownL x.o o, false⟩, rowT x⟩ :: prL o x.o R
def headLi (o : ByteArray) : Li := ⟨some ⟨[36, 79, 82, 73, 71, 73, 78], false⟩, [(32, ⟨lsB (showB o), false⟩)]⟩
def prF (o : ByteArray) (R : List Rn) : List Li := headLi o :: prL o ⟨#[]⟩ R
def prT (o : ByteArray) (R : List Rn) : List Nat := (prF o R).flatMap liB
theorem tellD_ne {x : Rn} (h : RcOk x) : tellD x ≠ [] := by
  obtain ⟨ps, hp⟩ := h.p
  rw [tellD_eq hp]
  obtain ⟨ks, hk, hks, hok⟩ := ps_ok hp
  have key : ∀ k l, ks = k :: l → (fstK k = true ∧ kKn k = true) ∨ k = 12 → tellA ps ≠ [] := fun k l hkl hc => by
    rw [hkl] at hks
    cases ps with
    | nil => cases hks
    | cons p ps =>
      rw [List.map_cons] at hks
      injection hks with h1 h2
      rw [tellA_cons]
      intro e
      have e1 := (List.append_eq_nil_iff.1 e).1
      rcases hc with ⟨h3, h4⟩ | h3
      · obtain ⟨z, Z, hz, _⟩ := first_word p.1 p.2 (by rw [h1]; exact h3) (by rw [h1]; exact h4) (hok.sz p List.mem_cons_self) (hok.le p List.mem_cons_self)
        rw [hz] at e1; cases e1
      · rw [h1, h3] at e1
        cases e1
  rcases kinds_first hk with h12 | ⟨k, l, hkl, hf⟩
  · exact key 12 [] h12 (.inr rfl)
  · rcases kinds_known hk with ⟨hkn, _, _⟩ | h12
    · exact key k l hkl (.inl ⟨hf, hkn k (by rw [hkl]; exact List.mem_cons_self)⟩)
    · exact key 12 [] h12 (.inr rfl)
end Go.Proofs.YtmbjmokhkonpiaaGreatDoor

/-
  What is printed, record by record, and how long it is, plainly. (The verifier's own text.)
-/
namespace Go.Proofs.YtmbjmokhkonpiaaGreatDoor
set_option linter.unusedVariables false
set_option linter.unusedSimpArgs false
open Go Go.Proofs.YtmbjmokhkonpiaaGreatDoor.Nm

def lineR (o last : ByteArray) (x : Rn) : Li := ⟨if x.o = last then none else some ⟨ownL x.o o, false⟩, rowT x⟩
/-- the last record's owner -/
def lastO : ByteArray → List Rn → ByteArray
  | last, [] => last
  | _, x :: R => lastO x.o R
theorem prL_snoc (o : ByteArray) (x : Rn) : ∀ (R : List Rn) (last : ByteArray), prL o last (R ++ [x]) = prL o last R ++ [lineR o (lastO last R) x]
  | [], last => rfl
  | y :: R, last => by
    show _ :: prL o y.o (R ++ [x]) = _
    rw [prL_snoc o x R y.o]
    rfl
theorem lastO_snoc (x : Rn) : ∀ (R : List Rn) (last : ByteArray), lastO last (R ++ [x]) = x.o
  | [], last => rfl
  | y :: R, last => lastO_snoc x R y.o
theorem prT_snoc (o : ByteArray) (R : List Rn) (x : Rn) : prT o (R ++ [x]) = prT o R ++ liB (lineR o (lastO ⟨#[]⟩ R) x) := by
  unfold prT prF
  rw [prL_snoc, ← List.cons_append, List.flatMap_append]
  simp
theorem prT_nil (o : ByteArray) : prT o [] = [36, 79, 82, 73, 71, 73, 78, 32] ++ (lsB (showB o) ++ [10]) := by
  unfold prT prF headLi prL liB liH lnB shW
  simp
/-- a line, part by part -/
def ownP (o last : ByteArray) (x : Rn) : List Nat := if x.o = last then [] else ownL x.o o
theorem lineR_parts (o last : ByteArray) {x : Rn} (h : RcOk x) : liB (lineR o last x) = ownP o last x ++ (9 :: dgN x.l.toNat ++ (9 :: [73, 78] ++ (9 :: lsB (nameT x.t) ++ (9 :: jnW (tellD x) ++ [10])))) := by
  have e : liH (lineR o last x).h = ownP o last x := by
    unfold lineR ownP
    simp only
    split
    · rfl
    · rfl
  unfold liB
  rw [e]
  show _ ++ (lnB (rowT x) ++ [10]) = _
  unfold rowT
  rw [lnB_cons, lnB_cons, lnB_cons, lnB_tabd (tellD_ne h)]
  simp [shW]
theorem ownL_len {n o : ByteArray} (hn : isN n = true) (ho : isN o = true) : (ownL n o).length ≤ 1100 := by
  have h255 := ((isN_iff n).1 hn).1
  unfold ownL
  split
  · simp
  · rename_i hne
    split
    · rename_i ht
      obtain ⟨A, h1, h2, h3, h4, h5⟩ := tail_form hn ho ht hne
      rw [h4]
      have e1 := shAll_len A
      have e2 := congrArg ByteArray.size h5
      rw [putB_append, ByteArray.size_append] at e2
      rw [(relL_facts h1 h2).2.2.2.2, List.length_append] at e1
      omega
    · have := (dom_ok hn).2.1
      rw [cst_plain] at this
      omega
theorem tellD_len {x : Rn} (h : RcOk x) : (jnW (tellD x)).length ≤ 100 * x.d.size + 900 ∧ x.d.size ≤ 65535 := by
  obtain ⟨ps, hp⟩ := h.p
  rw [tellD_eq hp]
  obtain ⟨ks, hk, hks, hok⟩ := ps_ok hp
  have h1 := (tellA_ok ps hok.ok hok.sz hok.le).2
  have h2 := hok.few
  have h3 := (jnW_len (tellA ps)).1
  rw [hok.cat] at h1
  exact ⟨by omega, hok.dl⟩
theorem lineR_len {o last : ByteArray} (ho : isN o = true) {x : Rn} (h : RcOk x) : (liB (lineR o last x)).length ≤ 100 * x.d.size + 2100 := by
  rw [lineR_parts o last h]
  have h1 : (ownP o last x).length ≤ 1100 := by
    unfold ownP
    split
    · simp
    · exact ownL_len h.o ho
  have h2 : (dgN x.l.toNat).length ≤ 10 := by
    have := dgN_len 9 x.l.toNat (by have := h.l1; omega)
    omega
  have h0 := h.t0
  have ht := h.t1
  obtain ⟨k, hk⟩ : ∃ k : Nat, x.t = (k : Int) := ⟨x.t.toNat, by omega⟩
  have h3 : (lsB (nameT x.t)).length ≤ 10 := by rw [hk]; exact (nameT_ok (t := k) (by omega) (by omega)).2
  have h4 := (tellD_len h).1
  simp only [List.length_append, List.length_cons, List.length_nil]
  omega
/-- how much data records have -/
def sumD (R : List Rn) : Nat := (R.map fun x => x.d.size).sum
theorem sumD_snoc (R : List Rn) (x : Rn) : sumD (R ++ [x]) = sumD R + x.d.size := by simp [sumD]
theorem sumD_take (R : List Rn) (k : Nat) : sumD (R.take k) ≤ sumD R := by
  conv => rhs; rw [← List.take_append_drop k R]
  unfold sumD
  rw [List.map_append, List.sum_append]
  omega
theorem prT_len {o : ByteArray} (ho : isN o = true) : ∀ (k : Nat) (R : List Rn), (∀ x ∈ R, RcOk x) → k ≤ R.length → (prT o (R.take k)).length ≤ 100 * sumD (R.take k) + 2100 * k + 1100
  | 0, R, _, _ => by
    rw [List.take_zero, prT_nil]
    have := (dom_ok ho).2.1
    have h255 := ((isN_iff o).1 ho).1
    rw [cst_plain] at this
    simp only [List.length_append, List.length_cons, List.length_nil]
    omega
  | k + 1, R, hR, hk => by
    have ih := prT_len ho k R hR (by omega)
    have hlt : k < R.length := by omega
    have e : R.take (k + 1) = R.take k ++ [R[k]] := by rw [List.take_add_one, List.getElem?_eq_getElem hlt, Option.toList_some]
    rw [e, prT_snoc, sumD_snoc, List.length_append]
    have := lineR_len (last := lastO ⟨#[]⟩ (R.take k)) ho (hR _ (List.getElem_mem hlt))
    omega
end Go.Proofs.YtmbjmokhkonpiaaGreatDoor
