import Derived.Test.YtipifhifjbenlaaGreatPjxG
import Derived.Test.YtipifhifjbenlaaGreatPjkG
import Derived.Test.YtipifhifjbenlaaGreatPjy
import Derived.Test.YtipifhifjbenlaaGreatPjvG
/-
  Proofs: both readings of lists of proofs, plainly. (The verifier's own text.)
-/
namespace Go.Proofs.YtipifhifjbenlaaGreat
set_option linter.unusedVariables false
set_option linter.unusedSimpArgs false
open Go.RowKit Go.Shelf Go.Maps Go.Proofs.YtipifhifjbenlaaGreat.Nm

theorem ng_match {x : Gq} {y : Nq} (h : NG x y) (n : ByteArray) : gmX n x = eqB y.o n := by
  unfold gmX gmB
  rw [h.1, if_neg (by decide), h.2.1]
theorem ng_lack {x : Gq} {y : Nq} (h : NG x y) (t : Int) : glX t x = denT y.ts t := lack_same h.2.2.2 t
theorem ng_away {x : Gq} {y : Nq} (h : NG x y) : awayL x.ty = awayT y.ts := away_same h.2.2.2
theorem ng_span {x : Gq} {y : Nq} (h : NG x y) (n : ByteArray) : gsX n x = covB y.o y.nx n := by
  unfold gsX gsB
  rw [h.1, if_neg (by decide), h.2.1, h.2.2.1]
theorem ng_deny {x : Gq} {y : Nq} (h : NG x y) (n : ByteArray) : gdX n x = ndB y.ts y.o y.nx n := by
  unfold gdX ndB
  rw [ng_span h, ng_away h, h.2.1, Bool.and_comm (awayT y.ts)]
theorem ng_show {x : Gq} {y : Nq} (h : NG x y) (n : ByteArray) (t : Int) : (gmX n x && glX t x) = nsB y.ts y.o n t := by
  unfold nsB
  rw [ng_match h, ng_lack h]
theorem hg_match {x : Gq} {y : Hq} (h : HG x y) (n : ByteArray) : gmX n x = (isN n && ((hashB n y.sl y.rd).toList == y.ow.toList)) := by
  unfold gmX gmB
  rw [h.1, if_pos rfl, h.2.2.1, h.2.2.2.1, h.2.2.2.2.1]
theorem hg_span {x : Gq} {y : Hq} (h : HG x y) (n : ByteArray) : gsX n x = (isN n && btL y.ow y.nx (hashB n y.sl y.rd)) := by
  unfold gsX gsB
  rw [h.1, if_pos rfl, h.2.1, h.2.2.1, h.2.2.2.1, h.2.2.2.2.1]
theorem hg_lack {x : Gq} {y : Hq} (h : HG x y) (t : Int) : glX t x = denT y.ts t := lack_same h.2.2.2.2.2.1 t
theorem hg_away {x : Gq} {y : Hq} (h : HG x y) : awayL x.ty = awayT y.ts := away_same h.2.2.2.2.2.1
theorem RelN.any {P : Gq → Bool} {Q : Nq → Bool} (hPQ : ∀ x y, NG x y → P x = Q y) : ∀ {M : List Gq} {N : List Nq}, RelN M N → M.any P = N.any Q
  | [], [], _ => rfl
  | x :: M, y :: N, h => by rw [List.any_cons, List.any_cons, hPQ x y h.1, RelN.any hPQ h.2]
theorem RelN.get : ∀ {M : List Gq} {N : List Nq}, RelN M N → ∀ k (h1 : k < M.length) (h2 : k < N.length), NG M[k] N[k]
  | x :: M, y :: N, h, 0, _, _ => h.1
  | x :: M, y :: N, h, k + 1, h1, h2 => RelN.get h.2 k (by simpa using h1) (by simpa using h2)
theorem RelH.get : ∀ {M : List Gq} {N : List Hq}, RelH M N → ∀ k (h1 : k < M.length) (h2 : k < N.length), HG M[k] N[k]
  | x :: M, y :: N, h, 0, _, _ => h.1
  | x :: M, y :: N, h, k + 1, h1, h2 => RelH.get h.2 k (by simpa using h1) (by simpa using h2)
theorem RelH.any {P : Gq → Bool} {Q : Hq → Bool} : ∀ {M : List Gq} {N : List Hq}, RelH M N → (∀ x, ∀ y ∈ N, HG x y → P x = Q y) → M.any P = N.any Q
  | [], [], _, _ => rfl
  | x :: M, y :: N, h, hPQ => by rw [List.any_cons, List.any_cons, hPQ x y (by simp) h.1, RelH.any h.2 (fun a b hb => hPQ a b (List.mem_cons_of_mem _ hb))]
theorem relN_shown {M : List Gq} {N : List Nq} (h : RelN M N) (n : ByteArray) (t : Int) : (M.any fun x => gmX n x && glX t x) = shB N n t := RelN.any (fun x y hxy => ng_show hxy n t) h
/-- tails of a name, by their labels and by their sizes -/
theorem chunks_pos (l : List ByteArray) (h : l ≠ []) : 0 < (chunks l).size := by
  cases l with
  | nil => exact absurd rfl h
  | cons x l => rw [chunks_cons, ByteArray.size_append, chunk_size]; omega
theorem tail_lt {q : ByteArray} {j k : Nat} (hq : isN q = true) (hjk : j < k) (hk : k ≤ (labs q).length) : (tailB q (j : Nat)).size < (tailB q (k : Nat)).size := by
  obtain ⟨_, _, e1⟩ := tailB_yes hq (show j ≤ (labs q).length by omega)
  obtain ⟨_, _, e2⟩ := tailB_yes hq hk
  rw [e1, e2, putB_size, putB_size]
  have hsp : (labs q).drop ((labs q).length - k) = ((labs q).drop ((labs q).length - k)).take (k - j) ++ (labs q).drop ((labs q).length - j) := by
    have := List.take_append_drop (k - j) ((labs q).drop ((labs q).length - k))
    rw [List.drop_drop, show (labs q).length - k + (k - j) = (labs q).length - j by omega] at this
    exact this.symm
  rw [hsp, chunks_append, ByteArray.size_append]
  have hpos := chunks_pos (((labs q).drop ((labs q).length - k)).take (k - j)) (by
    intro e
    have := congrArg List.length e
    simp only [List.length_take, List.length_drop, List.length_nil] at this
    omega)
  omega
theorem com_cases {q a : ByteArray} (hq : isN q = true) : (comB q a = .empty) ∨ ∃ k : Nat, k ≤ (labs q).length ∧ comB q a = tailB q (k : Nat) := by
  unfold comB
  rcases find_down (fun k => withinB a (tailB q (k : Nat))) (labs q).length with ⟨m, e1, e2, e3, e4⟩ | ⟨e1, e2⟩
  · rw [e1]; exact .inr ⟨m, e3, rfl⟩
  · rw [e1]; exact .inl rfl
/-- the reference's encloser -/
def eB (o nx q : ByteArray) : ByteArray := if cntI (comB q o) < cntI (comB q nx) then comB q nx else comB q o
theorem tail_cnt {q : ByteArray} {k : Nat} (hq : isN q = true) (hk : k ≤ (labs q).length) : cntI (tailB q (k : Nat)) = (k : Int) := by
  obtain ⟨e1, e2, _⟩ := tailB_yes hq hk
  rw [cntI_yes e1, e2, List.length_drop]
  omega
theorem cnt_empty : cntI .empty = -1 := by decide
theorem en_same {q o nx : ByteArray} (hq : isN q = true) : eB o nx q = neB o nx q := by
  unfold eB neB
  have hz : (ByteArray.empty).size = 0 := rfl
  rcases com_cases (a := o) hq with h1 | ⟨k1, l1, h1⟩
  · rcases com_cases (a := nx) hq with h2 | ⟨k2, l2, h2⟩
    · rw [h1, h2]; simp
    · rw [h1, h2, cnt_empty, tail_cnt hq l2, if_pos (by omega), if_neg (by omega)]
  · rcases com_cases (a := nx) hq with h2 | ⟨k2, l2, h2⟩
    · rw [h1, h2, cnt_empty, tail_cnt hq l1, if_neg (by omega), if_pos]
      rw [hz]
      obtain ⟨_, _, e1⟩ := tailB_yes hq l1
      rw [e1, putB_size]
      omega
    · rw [h1, h2, tail_cnt hq l1, tail_cnt hq l2]
      rcases Nat.lt_trichotomy k1 k2 with h | h | h
      · have := tail_lt hq h l2
        rw [if_pos (by omega), if_neg (by omega)]
      · subst h; simp
      · have := tail_lt hq h l1
        rw [if_neg (by omega), if_pos this]
end Go.Proofs.YtipifhifjbenlaaGreat

/-
  Proofs: both readings of NSEC3, plainly. (The verifier's own text.)
-/
namespace Go.Proofs.YtipifhifjbenlaaGreat
set_option linter.unusedVariables false
set_option linter.unusedSimpArgs false
open Go.RowKit Go.Shelf Go.Maps Go.Proofs.YtipifhifjbenlaaGreat.Nm

/-- all hash one way -/
def KW (rd : Nat) (sl : ByteArray) (K : List Hq) : Prop := ∀ y ∈ K, y.rd = rd ∧ y.sl = sl ∧ HOk y
theorem toList_inj {a b : ByteArray} (h : a.toList = b.toList) : a = b := by
  rw [toList_eq, toList_eq] at h
  exact ByteArray.ext (Array.toList_inj.1 h)
theorem kw_of {rd : Nat} {sl : ByteArray} {H : List Hq} (hok : ∀ x ∈ H, HOk x) : KW rd sl (hwL rd sl H) := fun y hy => by
  obtain ⟨h1, h2⟩ := List.mem_filter.1 hy
  have h3 : owB rd sl y = false := by simpa using h2
  unfold owB at h3
  simp only [Bool.not_eq_false', Bool.and_eq_true, beq_iff_eq] at h3
  exact ⟨by have := h3.1; omega, toList_inj h3.2, hok y h1⟩
theorem hk_match {rd : Nat} {sl n : ByteArray} {x : Gq} {y : Hq} (h : HG x y) (h1 : y.rd = rd) (h2 : y.sl = sl) (hn : isN n = true) : gmX n x = (y.ow.toList == (hshB rd sl n).toList) := by
  rw [hg_match h, hn, Bool.true_and, h1, h2]
  unfold hshB
  rw [if_pos hn]
  exact Bool.eq_iff_iff.2 ⟨fun e => by rw [beq_iff_eq] at e ⊢; exact e.symm, fun e => by rw [beq_iff_eq] at e ⊢; exact e.symm⟩
theorem hk_span {rd : Nat} {sl n : ByteArray} {x : Gq} {y : Hq} (h : HG x y) (h1 : y.rd = rd) (h2 : y.sl = sl) (hn : isN n = true) : gsX n x = btL y.ow y.nx (hshB rd sl n) := by
  rw [hg_span h, hn, Bool.true_and, h1, h2]
  unfold hshB
  rw [if_pos hn]
theorem hg_ok {x : Gq} {y : Hq} (h : HG x y) (hy : HOk y) (hnx : y.nx.size ≤ 1048576) : GOk x :=
  ⟨h.2.2.2.2.2.2, by rw [h.2.1]; exact hnx, typL_len h.2.2.2.2.2.1 hy.1, fun _ => by rw [h.2.2.2.1]; exact hy.2.2, fun _ => by rw [h.2.2.2.2.1]; exact hy.2.1⟩
theorem hqOf_nx {apex : ByteArray} {i : Nat} {r : Rn} : ∀ x ∈ hqOf apex i r, x.nx.size ≤ 1048576 := by
  intro x hx
  unfold hqOf at hx
  split at hx
  · rename_i h
    obtain ⟨h1, h2, h3⟩ := h
    unfold rgB at h2
    rw [Bool.and_eq_true] at h2
    obtain ⟨z1, z2⟩ := zon_err h2.2
    rw [h1] at z2
    obtain ⟨m1, m2, m3, m4, -, -⟩ := nsec3_form z2
    rw [List.mem_singleton] at hx
    subst hx
    have := (parts3 m1 m2).2.2.2
    show (nx3 r.d).size ≤ _
    omega
  · cases hx
theorem hqL_nx {apex : ByteArray} {L : List Rn} : ∀ k, ∀ x ∈ hqL apex L k, x.nx.size ≤ 1048576
  | 0 => fun x hx => by cases hx
  | k + 1 => fun x hx => by
    rw [hqL] at hx
    rcases List.mem_append.1 hx with h | h
    · exact hqL_nx k x h
    · cases e : L[k]? with
      | none => rw [e] at h; cases h
      | some r => rw [e] at h; exact hqOf_nx x h
theorem relH_ok {M : List Gq} {K : List Hq} (h : RelH M K) (hK : ∀ y ∈ K, HOk y ∧ y.nx.size ≤ 1048576) : ∀ x ∈ M, GOk x := fun x hx => by
  obtain ⟨k, hk, rfl⟩ := List.getElem_of_mem hx
  have hk2 : k < K.length := by rw [← h.len]; exact hk
  have h9 := hK _ (List.getElem_mem hk2)
  exact hg_ok (h.get k hk hk2) h9.1 h9.2
theorem relH_spanned {rd : Nat} {sl n : ByteArray} {M : List Gq} {K : List Hq} (h : RelH M K) (hk : KW rd sl K) (hn : isN n = true) : (M.any fun x => gsX n x) = (cvF K rd sl n).isSome := by
  rw [RelH.any (Q := fun y => btL y.ow y.nx (hshB rd sl n)) h (fun x y hy hxy => hk_span hxy (hk y hy).1 (hk y hy).2.1 hn)]
  unfold cvF
  rw [Bool.eq_iff_iff, List.any_eq_true, List.find?_isSome]
theorem tail_full {q : ByteArray} (hq : isN q = true) : tailB q (((labs q).length : Nat) : Int) = q := by
  obtain ⟨_, _, e⟩ := tailB_yes hq (Nat.le_refl _)
  rw [e, Nat.sub_self, List.drop_zero, putB_labs hq]
theorem tail_is {q : ByteArray} {k : Nat} (hq : isN q = true) (hk : k ≤ (labs q).length) : ((tailB q (k : Nat)).toList == q.toList) = decide (k = (labs q).length) := by
  by_cases h : k = (labs q).length
  · rw [decide_eq_true h, h, tail_full hq]
    simp
  · rw [decide_eq_false h, beq_eq_false_iff_ne]
    intro e
    have := tail_lt hq (show k < (labs q).length by omega) (Nat.le_refl _)
    rw [tail_full hq, toList_inj e] at this
    omega
theorem chunks_two (l : List ByteArray) (hl : OkL l) (h : l ≠ []) : 2 ≤ (chunks l).size := by
  cases l with
  | nil => exact absurd rfl h
  | cons x l => rw [chunks_cons, ByteArray.size_append, chunk_size]; have := (hl x (by simp)).1; omega
theorem tail_lt2 {q : ByteArray} {k : Nat} (hq : isN q = true) (hk : k < (labs q).length) : (tailB q (k : Nat)).size + 2 ≤ q.size := by
  obtain ⟨_, _, e1⟩ := tailB_yes hq (show k ≤ (labs q).length by omega)
  have e2 : q.size = (putB (labs q)).size := by rw [putB_labs hq]
  rw [e1, e2, putB_size, putB_size]
  have hsp : labs q = (labs q).take ((labs q).length - k) ++ (labs q).drop ((labs q).length - k) := (List.take_append_drop _ _).symm
  have hc : (chunks (labs q)).size = (chunks ((labs q).take ((labs q).length - k))).size + (chunks ((labs q).drop ((labs q).length - k))).size := by
    have := congrArg (fun l => (chunks l).size) hsp
    simp only [chunks_append, ByteArray.size_append] at this
    exact this
  have hpos := chunks_two ((labs q).take ((labs q).length - k)) (fun x hx => okL_labs q x (List.mem_of_mem_take hx)) (by
    intro e
    have := congrArg List.length e
    simp only [List.length_take, List.length_nil] at this
    omega)
  omega
theorem star_isN {s : ByteArray} (h : isN s = true) (hz : s.size ≤ 253) : isN (starB s) = true := by
  rw [starB_yes h hz, ← starB_put h, isN_putB (fun x hx => by
    rcases List.mem_cons.1 hx with rfl | hx
    · exact ⟨by decide, by decide⟩
    · exact okL_labs s x hx), starB_put h, decide_eq_true_eq, ByteArray.size_append]
  show 2 + s.size ≤ 255
  omega
/-- the name right below, and the star, are names -/
theorem below_names {q : ByteArray} {k : Nat} (hq : isN q = true) (hk : k < (labs q).length) : isN (tailB q ((k + 1 : Nat) : Int)) = true ∧ isN (starB (tailB q (k : Nat))) = true := by
  refine ⟨(tailB_yes hq (show k + 1 ≤ (labs q).length by omega)).1, ?_⟩
  have h1 := (tailB_yes hq (show k ≤ (labs q).length by omega)).1
  have h2 := tail_lt2 hq hk
  have h3 := ((isN_iff _).1 hq).1
  exact star_isN h1 (by omega)
end Go.Proofs.YtipifhifjbenlaaGreat
