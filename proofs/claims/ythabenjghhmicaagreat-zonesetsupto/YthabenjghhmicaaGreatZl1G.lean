import Derived.Test.YthabenjghhmicaaGreatZk1G
import Derived.Test.YthabenjghhmicaaGreatZraG
import Derived.Test.YthabenjghhmicaaGreatZgpG
/-
  The names of a zone, as the reference makes them: sorted, and each once. (The verifier's own text.)
-/
namespace Go.Proofs.YthabenjghhmicaaGreat
set_option linter.unusedVariables false
set_option linter.unusedSimpArgs false
open Go.RowKit Go.Shelf Go.Maps Go.Proofs.YthabenjghhmicaaGreat.Nm Go.Proofs.YthabenjghhmicaaGreat.Zs

/-- a record that has a name alone -/
def bareR (o : ByteArray) : Rn := ⟨o, 0, 0, 0, ⟨#[]⟩⟩
theorem cbl_self (l : List UInt8) : ¬ Lib.compareBytes l l < 0 := by
  have h := cbl_anti l l
  omega
theorem bef_bare (a b : ByteArray) : befB (bareR a) (bareR b) = decide (cmpB a b < 0) := by
  unfold befB bareR
  simp only
  by_cases h : cmpB a b ≠ 0
  · rw [if_pos h]
  · rw [if_neg h, if_neg (by simp)]
    rw [decide_eq_false (cbl_self _), decide_eq_false (by omega)]
theorem up_bare {a b : ByteArray} (ha : isN a = true) (hb : isN b = true) : upR2 (bareR a) (bareR b) ↔ cmpB a b ≤ 0 := by
  unfold upR2
  rw [bef_bare]
  have h := (ordered ha hb hb).anti
  constructor
  · intro h1
    have := of_decide_eq_false h1
    omega
  · intro h1
    exact decide_eq_false (by omega)
/-- the order of names is one -/
theorem okU_bare {X : List ByteArray} (hX : ∀ x ∈ X, isN x = true) : okU (X.map bareR) := by
  refine ⟨fun x hx => ?_, fun x hx y hy z hz h1 h2 => ?_, fun x hx y hy h => ?_⟩
  · obtain ⟨a, ha, rfl⟩ := List.mem_map.1 hx
    have h1 := ((isN_iff a).1 (hX a ha)).1
    refine ⟨?_, ?_⟩
    · show a.size ≤ 1048576
      omega
    · show (⟨#[]⟩ : ByteArray).size ≤ 1048576
      decide
  · obtain ⟨a, ha, rfl⟩ := List.mem_map.1 hx
    obtain ⟨b, hb, rfl⟩ := List.mem_map.1 hy
    obtain ⟨c, hc, rfl⟩ := List.mem_map.1 hz
    rw [up_bare (hX a ha) (hX b hb)] at h1
    rw [up_bare (hX b hb) (hX c hc)] at h2
    rw [up_bare (hX a ha) (hX c hc)]
    exact (ordered (hX a ha) (hX b hb) (hX c hc)).t1 h1 h2
  · obtain ⟨a, ha, rfl⟩ := List.mem_map.1 hx
    obtain ⟨b, hb, rfl⟩ := List.mem_map.1 hy
    rw [up_bare (hX b hb) (hX a ha)]
    rw [bef_bare] at h
    have := of_decide_eq_true h
    omega
/-- each once -/
def ddS (out : List ByteArray) (x : ByteArray) : List ByteArray := if out.getLast? = some x then out else out ++ [x]
def ddK (A : List ByteArray) (k : Nat) : List ByteArray := (A.take k).foldl ddS []
theorem ddK_zero (A : List ByteArray) : ddK A 0 = [] := by simp [ddK]
theorem ddK_succ {A : List ByteArray} {k : Nat} (hk : k < A.length) : ddK A (k + 1) = ddS (ddK A k) A[k] := by
  unfold ddK
  rw [List.take_succ_eq_append_getElem hk, List.foldl_append]
  rfl
theorem ddK_len (A : List ByteArray) (k : Nat) (hk : k ≤ A.length) : (ddK A k).length ≤ k := by
  induction k with
  | zero => rw [ddK_zero]; exact Nat.le_refl _
  | succ k ih =>
    rw [ddK_succ (by omega)]
    unfold ddS
    have := ih (by omega)
    split
    · omega
    · rw [List.length_append, List.length_singleton]; omega
theorem dd_good {apex : ByteArray} {A : List ByteArray} (hI : ∀ x ∈ A, InA apex x) (hA : A.Pairwise (fun a b => cmpB a b ≤ 0)) : ∀ k, k ≤ A.length → (ddK A k).Pairwise (fun a b => cmpB a b < 0) ∧ (∀ x, x ∈ ddK A k ↔ x ∈ A.take k) ∧ (ddK A k).getLast? = (A.take k).getLast? := by
  intro k
  induction k with
  | zero => intro _; rw [ddK_zero, List.take_zero]; exact ⟨List.Pairwise.nil, fun x => Iff.rfl, rfl⟩
  | succ k ih =>
    intro hk
    have hlt : k < A.length := by omega
    obtain ⟨h1, h2, h3⟩ := ih (by omega)
    rw [ddK_succ hlt, List.take_succ_eq_append_getElem hlt]
    unfold ddS
    by_cases hl : (ddK A k).getLast? = some A[k]
    · rw [if_pos hl]
      have hm : A[k] ∈ A.take k := by rw [← h2]; exact List.mem_of_getLast? hl
      refine ⟨h1, fun x => ?_, by rw [hl, List.getLast?_concat]⟩
      rw [h2, List.mem_append, List.mem_singleton]
      constructor
      · exact Or.inl
      · rintro (h | rfl)
        · exact h
        · exact hm
    · rw [if_neg hl]
      refine ⟨?_, fun x => by rw [List.mem_append, List.mem_append, h2], by rw [List.getLast?_concat, List.getLast?_concat]⟩
      rw [List.pairwise_append]
      refine ⟨h1, by simp, fun y hy z hz => ?_⟩
      rw [List.mem_singleton] at hz
      subst hz
      rw [h2] at hy
      obtain ⟨i, hi, rfl⟩ := List.getElem_of_mem hy
      have hi' : i < k := by rw [List.length_take] at hi; omega
      rw [List.getElem_take]
      have hik := List.pairwise_iff_getElem.1 hA i k (by omega) hlt hi'
      have iI := hI _ (List.getElem_mem (show i < A.length by omega))
      have kI := hI _ (List.getElem_mem hlt)
      refine cmp_ne iI kI (fun e => ?_) hik
      -- the last one of those ahead
      have hk1 : k - 1 < A.length := by omega
      have hlast : (A.take k).getLast? = some A[k - 1] := by
        rw [List.getLast?_eq_getElem?, List.length_take, Nat.min_eq_left (by omega), List.getElem?_take, if_pos (by omega), List.getElem?_eq_getElem hk1]
      rw [h3, hlast] at hl
      have hne : A[k - 1] ≠ A[k] := fun e2 => hl (by rw [e2])
      have lI := hI _ (List.getElem_mem hk1)
      have hlk := cmp_ne lI kI hne (List.pairwise_iff_getElem.1 hA (k - 1) k hk1 hlt (by omega))
      have han := (ordered lI.nm kI.nm kI.nm).anti
      by_cases hik1 : i = k - 1
      · subst hik1
        exact hne e
      · have := List.pairwise_iff_getElem.1 hA i (k - 1) (by omega) hk1 (by omega)
        rw [e] at this
        omega
/-- what rises is told by its members -/
theorem rise_uniq : ∀ (A B : List ByteArray), (∀ x ∈ A, isN x = true) → (∀ x ∈ B, isN x = true) → A.Pairwise (fun a b => cmpB a b < 0) → B.Pairwise (fun a b => cmpB a b < 0) → (∀ x, x ∈ A ↔ x ∈ B) → A = B
  | [], [], _, _, _, _, _ => rfl
  | [], b :: B, _, _, _, _, h => absurd ((h b).2 (List.mem_cons_self ..)) (by simp)
  | a :: A, [], _, _, _, _, h => absurd ((h a).1 (List.mem_cons_self ..)) (by simp)
  | a :: A, b :: B, nA, nB, hA, hB, h => by
    have ha := List.pairwise_cons.1 hA
    have hb := List.pairwise_cons.1 hB
    have na := nA a (List.mem_cons_self ..)
    have nb := nB b (List.mem_cons_self ..)
    have e : a = b := by
      rcases List.mem_cons.1 ((h a).1 (List.mem_cons_self ..)) with h1 | h1
      · exact h1
      · rcases List.mem_cons.1 ((h b).2 (List.mem_cons_self ..)) with h2 | h2
        · exact h2.symm
        · have l1 := hb.1 a h1
          have l2 := ha.1 b h2
          have := (ordered na nb nb).anti
          omega
    subst e
    have hne : ∀ x, cmpB a x < 0 → x ≠ a := fun x hx e => by
      subst e
      have := (ordered na na na).anti
      omega
    rw [rise_uniq A B (fun x hx => nA x (List.mem_cons_of_mem _ hx)) (fun x hx => nB x (List.mem_cons_of_mem _ hx)) ha.2 hb.2 (fun x => ?_)]
    constructor
    · intro hx
      rcases List.mem_cons.1 ((h x).1 (List.mem_cons_of_mem _ hx)) with e | e
      · exact absurd e (hne x (ha.1 x hx))
      · exact e
    · intro hx
      rcases List.mem_cons.1 ((h x).2 (List.mem_cons_of_mem _ hx)) with e | e
      · exact absurd e (hne x (hb.1 x hx))
      · exact e
/-- sorted, and each once: these are the zone's names -/
theorem names_both {apex : ByteArray} {T : List Rn} (na : isN apex = true) (h : OwnIn apex T) (hT : T.Pairwise (fun x y => befB x y = true)) {M : List Rn} (hp : M.Perm ((namK apex T T.length).map bareR)) (hs : M.Pairwise upR2) : ddK (M.map (·.o)) (M.map (·.o)).length = namL apex T := by
  have hB : (M.map (·.o)).Perm (namK apex T T.length) := by
    have := hp.map (·.o)
    rw [List.map_map] at this
    have e : ((fun x : Rn => x.o) ∘ bareR) = id := by funext x; rfl
    rw [e, List.map_id] at this
    exact this
  have hI : ∀ x ∈ namK apex T T.length, InA apex x := fun x hx => by
    have : x ∈ namL apex T := by unfold namL; rw [mem_unq]; exact hx
    exact ((namL_mem na h x).1 this).1
  have hIB : ∀ x ∈ M.map (·.o), InA apex x := fun x hx => hI x (hB.mem_iff.1 hx)
  have hMb : ∀ r ∈ M, r = bareR r.o := fun r hr => by
    obtain ⟨a, _, rfl⟩ := List.mem_map.1 (hp.mem_iff.1 hr)
    rfl
  have hBp : (M.map (·.o)).Pairwise (fun a b => cmpB a b ≤ 0) := by
    rw [List.pairwise_map]
    refine List.Pairwise.imp_of_mem ?_ hs
    intro x y hx hy hu
    have ix := hIB x.o (List.mem_map_of_mem hx)
    have iy := hIB y.o (List.mem_map_of_mem hy)
    rw [hMb x hx, hMb y hy] at hu
    exact (up_bare ix.nm iy.nm).1 hu
  obtain ⟨g1, g2, -⟩ := dd_good hIB hBp _ (Nat.le_refl _)
  rw [List.take_length] at g2
  refine rise_uniq _ _ (fun x hx => (hIB x ((g2 x).1 hx)).nm) (fun x hx => ((namL_mem na h x).1 hx).1.nm) g1 (names_rise na h hT) (fun x => ?_)
  rw [g2, hB.mem_iff]
  unfold namL
  rw [mem_unq]
/-- the names of one record, as the reference takes them -/
def tlsL (apex o : ByteArray) (j : Nat) : List ByteArray := (List.range j).map fun i => foldB (tailB o (((labs apex).length + i : Nat) : Int))
theorem tls_zero (apex o : ByteArray) : tlsL apex o 0 = [] := rfl
theorem tls_succ (apex o : ByteArray) (j : Nat) : tlsL apex o (j + 1) = tlsL apex o j ++ [foldB (tailB o (((labs apex).length + j : Nat) : Int))] := by
  unfold tlsL
  rw [List.range_succ, List.map_append]
  rfl
theorem tls_len (apex o : ByteArray) (j : Nat) : (tlsL apex o j).length = j := by simp [tlsL]
theorem nam_tls {apex : ByteArray} {T : List Rn} (na : isN apex = true) (h : OwnIn apex T) {k : Nat} (hk : k < T.length) : namK apex T (k + 1) = namK apex T k ++ (if countB T[k] = true then tlsL apex T[k].o ((labs T[k].o).length - (labs apex).length + 1) else []) := by
  rw [namK_succ hk, ← rAt_get hk]
  by_cases hc : countB T[k] = true
  · rw [if_pos hc, if_pos hc, path_tails na (h _ (List.getElem_mem hk))]
    rfl
  · rw [if_neg hc, if_neg hc]
set_option maxRecDepth 100000 in
theorem namK_few {apex : ByteArray} {T : List Rn} (h : okL T) (k : Nat) : (namK apex T k).length ≤ k * 256 := by
  induction k with
  | zero => simp [namK]
  | succ k ih =>
    by_cases hk : k < T.length
    · rw [namK_succ hk, List.length_append]
      have hz := ok_facts (h _ (rAt_mem hk))
      have := pathL_len (apex := apex) (zisN_fold hz.1).1
      have hs : (k + 1) * 256 = k * 256 + 256 := by rw [Nat.add_mul, Nat.one_mul]
      generalize k * 256 = K at ih hs
      rw [hs]
      split
      · exact Nat.add_le_add ih this
      · rw [List.length_nil]; exact Nat.le_trans ih (Nat.le_add_right _ _)
    · have e : namK apex T (k + 1) = namK apex T k := by
        unfold namK
        rw [List.take_of_length_le (by omega), List.take_of_length_le (by omega)]
      rw [e]
      exact Nat.le_trans ih (Nat.mul_le_mul_right _ (Nat.le_succ k))
end Go.Proofs.YthabenjghhmicaaGreat

/-
  Proofs: (*gazetteerref3.Zone).Names. (The verifier's own text.)
-/
namespace Go.Proofs.YthabenjghhmicaaGreat
set_option linter.unusedVariables false
set_option linter.unusedSimpArgs false
open Go.RowKit Go.Shelf Go.Maps Go.Proofs.YthabenjghhmicaaGreat.Nm Go.Proofs.YthabenjghhmicaaGreat.Zs

/-- names that were gathered, as records -/
structure Gn (w wr : World) (X : List ByteArray) (ov : Value) : Prop where
  own : wr.ownsRow w.heap.size 54 5 ov X.length (rce5 (X.map bareR))
  bl : Below w.heap.size w wr
  em : X = [] → ov.ownBlock = none
section
variable {w wr w2 V : World} {X : List ByteArray} {ov : Value}
theorem Gn.step (h : Gn w wr X ov) (hb : Below wr.heap.size wr w2) : Gn w w2 X ov := ⟨own_below h.own hb, bstep h.bl hb h.bl.size, h.em⟩
/-- what an append wants -/
theorem Gn.app (h : Gn w wr X ov) (hV : Below wr.heap.size wr V) (x : ByteArray) :
    (V.alloc (.cells #[.string x, .int .i64 0, .int .i64 0, .int .i64 0, .string ⟨#[]⟩] 54)).ownsRow w.heap.size 54 5 ov X.length (rce5 (X.map bareR)) ∧ RsAt (V.alloc (.cells #[.string x, .int .i64 0, .int .i64 0, .int .i64 0, .string ⟨#[]⟩] 54)) (some ⟨V.heap.size, 0, none⟩) [bareR x] ∧ w.heap.size ≤ (V.alloc (.cells #[.string x, .int .i64 0, .int .i64 0, .int .i64 0, .string ⟨#[]⟩] 54)).heap.size ∧ Below w.heap.size w (V.alloc (.cells #[.string x, .int .i64 0, .int .i64 0, .int .i64 0, .string ⟨#[]⟩] 54)) := by
  have hb : Below w.heap.size w V := bstep h.bl hV h.bl.size
  exact ⟨own_below h.own (hV.alloc hV.size _), rs_one V (bareR x), Nat.le_trans hb.size (by simp), hb.alloc hb.size _⟩
theorem Gn.next {v9 : Value} {w9 : World} {x : ByteArray} (ho : w9.ownsRow w.heap.size 54 5 v9 (X.length + [bareR x].length) (rce5 (X.map bareR) ++ rce5 [bareR x])) (hb : Below w.heap.size w w9) : Gn w w9 (X ++ [x]) v9 := by
  refine ⟨?_, hb, fun e => by simp at e⟩
  rw [List.map_append, rce5_app, List.length_append]
  exact ho
/-- no record of another type lies where they do -/
theorem Gn.apart (h : Gn w wr X ov) {B : Nat} {x : Rn} (hx : Bx wr B #[.string x.o, .int .i64 x.t, .int .i64 x.c, .int .i64 x.l, .string x.d] 54) (ht : x.t ≠ 0) : ov.ownBlock ≠ some B := by
  intro he
  cases X with
  | nil => rw [h.em rfl] at he; cases he
  | cons y X =>
    have ho := h.own
    obtain ⟨g, c, hv⟩ := own_someZ ho (by simp)
    subst hv
    have hg : g = B := by injection he
    subst hg
    obtain ⟨g', off, e1, _, _, e2, _⟩ := rsAt_ownZ ho (by simp) 0 (by simp)
    injection e1 with e1
    injection e1 with e1 e3
    subst e1 e3
    have e4 := hx.cell (j := 1) rfl
    simp only [Nat.zero_mul, Nat.zero_add] at e2
    rw [e4] at e2
    injection e2 with e2
    injection e2 with _ e2
    exact ht e2
end
/-- names that were told once each -/
structure Gd (w wr : World) (D : List ByteArray) (ov : Value) : Prop where
  own : wr.ownsRow w.heap.size 9 1 ov D.length (D.map Value.string)
  bl : Below w.heap.size w wr
section
variable {w wr w2 V : World} {D : List ByteArray} {ov : Value}
theorem Gd.step (h : Gd w wr D ov) (hb : Below wr.heap.size wr w2) : Gd w w2 D ov := ⟨own_below h.own hb, bstep h.bl hb h.bl.size⟩
theorem one_strZ (w : World) (s : ByteArray) : StrsAt (w.alloc (.cells #[.string s] 9)) (some ⟨w.heap.size, 0, none⟩) [s] := fun k hk => by
  have h0 : Bx (w.alloc (.cells #[.string s] 9)) w.heap.size #[.string s] 9 := World.alloc_heap_new w _
  obtain rfl : k = 0 := by simpa using hk
  exact ⟨w.heap.size, 0, rfl, h0.lt, h0.cell rfl⟩
theorem Gd.app (h : Gd w wr D ov) (hV : Below wr.heap.size wr V) (x : ByteArray) :
    (V.alloc (.cells #[.string x] 9)).ownsRow w.heap.size 9 1 ov D.length (D.map Value.string) ∧ StrsAt (V.alloc (.cells #[.string x] 9)) (some ⟨V.heap.size, 0, none⟩) [x] ∧ w.heap.size ≤ (V.alloc (.cells #[.string x] 9)).heap.size ∧ Below w.heap.size w (V.alloc (.cells #[.string x] 9)) := by
  have hb : Below w.heap.size w V := bstep h.bl hV h.bl.size
  exact ⟨own_below h.own (hV.alloc hV.size _), one_strZ V x, Nat.le_trans hb.size (by simp), hb.alloc hb.size _⟩
theorem Gd.next {v9 : Value} {w9 : World} {x : ByteArray} (ho : w9.ownsRow w.heap.size 9 1 v9 (D.length + [x].length) (D.map Value.string ++ [x].map Value.string)) (hb : Below w.heap.size w w9) : Gd w w9 (D ++ [x]) v9 := by
  refine ⟨?_, hb⟩
  rw [List.map_append, List.length_append]
  exact ho
end
end Go.Proofs.YthabenjghhmicaaGreat

/-
  gazetteerref3: Counts, Set, There, stands. (The verifier's own text.)
-/
namespace Go.Proofs.YthabenjghhmicaaGreat
set_option linter.unusedVariables false
set_option linter.unusedSimpArgs false
open Go.RowKit Go.Shelf Go.Maps Go.Proofs.YthabenjghhmicaaGreat.Nm Go.Proofs.YthabenjghhmicaaGreat.Zs

/-- a zone of the reference's, in memory -/
structure Yz (w : World) (zb : Nat) (apex : ByteArray) (M : List Rn) (p : Option Addr) (c : Nat) : Prop where
  yx : Bx w zb #[.string apex, .slice p M.length c] 41
  rs : RsAt w p M
  ok : okL M
  few : M.length ≤ 2000
theorem Yz.step {w w' : World} {zb : Nat} {apex : ByteArray} {M : List Rn} {p : Option Addr} {c : Nat} (h : Yz w zb apex M p c) (hb : Below w.heap.size w w') : Yz w' zb apex M p c := ⟨h.yx.below hb h.yx.lt, rs_stay h.rs hb, h.ok, h.few⟩
/-- a list that is being gathered -/
structure Ga (w wr : World) (P : Rn → Bool) (M : List Rn) (k : Nat) (ov : Value) : Prop where
  own : wr.ownsRow w.heap.size 54 5 ov ((M.take k).filter P).length (rce5 ((M.take k).filter P))
  bl : Below w.heap.size w wr
section
variable {w wr w2 : World} {P : Rn → Bool} {M : List Rn} {k : Nat} {ov : Value}
theorem Ga.skip (h : Ga w wr P M k ov) (hk : k < M.length) (hp : P M[k] = false) (hb : Below wr.heap.size wr w2) : Ga w w2 P M (k + 1) ov := by
  have e : (M.take (k + 1)).filter P = (M.take k).filter P := by rw [List.take_succ_eq_append_getElem hk, List.filter_append]; simp [hp]
  refine ⟨?_, bstep h.bl hb h.bl.size⟩
  rw [e]; exact own_below h.own hb
theorem Ga.take {v9 : Value} {x : Rn} (h : Ga w wr P M k ov) (hk : k < M.length) (hx : M[k] = x) (hp : P x = true) (ho : w2.ownsRow w.heap.size 54 5 v9 (((M.take k).filter P).length + [x].length) (rce5 ((M.take k).filter P) ++ rce5 [x])) (hb : Below w.heap.size w w2) : Ga w w2 P M (k + 1) v9 := by
  have e : (M.take (k + 1)).filter P = (M.take k).filter P ++ [x] := by rw [List.take_succ_eq_append_getElem hk, List.filter_append, hx]; simp [hp]
  refine ⟨?_, hb⟩
  rw [e, rce5_app, List.length_append]; exact ho
/-- what an append wants -/
theorem Ga.app (h : Ga w wr P M k ov) (V : World) (hV : Below wr.heap.size wr V) (x : Rn) :
    (V.alloc (.cells #[.string x.o, .int .i64 x.t, .int .i64 x.c, .int .i64 x.l, .string x.d] 54)).ownsRow w.heap.size 54 5 ov ((M.take k).filter P).length (rce5 ((M.take k).filter P)) ∧ RsAt (V.alloc (.cells #[.string x.o, .int .i64 x.t, .int .i64 x.c, .int .i64 x.l, .string x.d] 54)) (some ⟨V.heap.size, 0, none⟩) [x] ∧ w.heap.size ≤ (V.alloc (.cells #[.string x.o, .int .i64 x.t, .int .i64 x.c, .int .i64 x.l, .string x.d] 54)).heap.size ∧ Below w.heap.size w (V.alloc (.cells #[.string x.o, .int .i64 x.t, .int .i64 x.c, .int .i64 x.l, .string x.d] 54)) := by
  have hb : Below w.heap.size w V := bstep h.bl hV h.bl.size
  exact ⟨own_below h.own (hV.alloc (hV.size) _), rs_one V x, Nat.le_trans hb.size (by simp), hb.alloc hb.size _⟩
theorem Ga.len (h : Ga w wr P M k ov) : ((M.take k).filter P).length ≤ M.length := by
  have h1 := List.length_filter_le P (M.take k)
  rw [List.length_take] at h1
  omega
end
set_option maxRecDepth 100000 in
set_option maxHeartbeats 4000000 in
/-- (*gazetteerref3.Zone).Set -/
theorem rset_any {zb : Nat} {apex : ByteArray} {M : List Rn} {p : Option Addr} {c : Nat} {w : World} (h : Yz w zb apex M p c) (n : ByteArray) (t : Int) (hn : n.size ≤ 1048576) :
    Calls Tryz.prog 22 #[.pointer (some ⟨zb, 0, none⟩), .string n, .int .i64 t] w fun r w' => (∃ v, r = .returned v ∧ w'.ownsRow w.heap.size 54 5 v (rset M n t).length (rce5 (rset M n t))) ∧ Below w.heap.size w w' := by
  have z1 : w.cell? ⟨zb, 1, none⟩ = some (.slice p M.length c) := h.yx.cell rfl
  have HY := hide' h
  have hM := h.few
  clear h
  go_enter Tryz.func22, Tryz.ntmps22
  go_wp2_with fail
  go_loopw [7, 15] (fun ov kv wr => ∃ k : Nat, kv = .int .i64 (k : Int) ∧ k ≤ M.length ∧ Hid (Ga w wr (setP n t) M k ov)) (fun _ kv _ => M.length - (intOf kv).toNat)
  case atStart => exact ⟨0, rfl, Nat.zero_le _, ⟨World.ownsRow_nil _ _ _ _, Below.refl _ _⟩⟩
  case round =>
    obtain ⟨k, rfl, hk, HG⟩ := hrel
    by_cases hlt : k < M.length
    · obtain ⟨g, off, hp⟩ := rs_at HY.out.rs hlt
      subst hp
      obtain ⟨y0, y1, y2, y3, y4⟩ := rs_cells HY.out.rs rfl hlt HG.out.bl
      have hsm := ok_small (HY.out.ok _ (rAt_mem hlt))
      have HE := hide' (fun V => equalName_any (rAt M k).o n V hsm.1 hn)
      have K0 := hide' (Bk.start wr (rAt M k))
      have HX := hide' (rAt_get hlt)
      obtain ⟨x, hx⟩ : ∃ x, rAt M k = x := ⟨_, rfl⟩
      rw [hx] at y0 y1 y2 y3 y4 HE K0 HX
      obtain ⟨wa, hwa⟩ : ∃ wa, wr.alloc (.cells #[.string x.o, .int .i64 x.t, .int .i64 x.c, .int .i64 x.l, .string x.d] 54) = wa := ⟨_, rfl⟩
      rw [hwa] at K0
      have HK : Hid (∀ V, Below wa.heap.size wa V → Bk wr V x) := fun V hV => K0.out.step hV
      obtain ⟨v0, v1, v2, v3, v4⟩ := K0.out.cells
      have HAP : Hid (∀ V, Below wr.heap.size wr V → _) := fun V hV => HG.out.app V hV x
      have HLn : Hid (((M.take k).filter (setP n t)).length ≤ 2000) := Nat.le_trans HG.out.len hM
      clear hx hsm
      obtain ⟨xo, xt, xc, xl, xd⟩ := x
      simp only at y0 y1 y2 y3 y4 v0 v1 v2 v3 v4 hwa HE HAP
      obtain ⟨E, hE⟩ : ∃ E, eqB xo n = E := ⟨_, rfl⟩
      have HPE : Hid (setP n t ⟨xo, xt, xc, xl, xd⟩ = (decide (xt = t) && E)) := by unfold Hid setP; rw [← hE]
      rw [hE] at HE
      clear hE
      have pk : (k : Int) < (M.length : Int) := by omega
      have hB := Below.refl wa.heap.size wa
      by_cases ht : xt = t
      · have htb : (xt == t) = true := by simp [ht]
        have HT := hide' ht
        clear ht
        cases E with
        | true =>
          have HP : Hid (setP n t ⟨xo, xt, xc, xl, xd⟩ = true) := by unfold Hid; rw [HPE.out, decide_eq_true HT.out]; rfl
          go_wp2_with (first
            | (go_at_call 60; refine (HE.out _).mono ?_; rintro e w5 ⟨rfl, hB5⟩; have hB := bstep hB hB5 hB.size; obtain ⟨v0, v1, v2, v3, v4⟩ := (HK.out _ hB).cells; clear hB5)
            | (at_builtin; refine wpList_append_recsM rfl _ _ rfl w.heap.size _ _ _ rfl (HAP.out _ (HK.out _ hB).bl).1 (some ⟨_, 0, none⟩) [⟨xo, xt, xc, xl, xd⟩] 1 rfl (HAP.out _ (HK.out _ hB).bl).2.1 (by simp) (by have := HLn.out; simp; omega) (HAP.out _ (HK.out _ hB).bl).2.2.1 ?_; intro v9 w9 ho9 hg9; have HO9 := hide' ho9; have HB9 := hide' ((HAP.out _ (HK.out _ hB).bl).2.2.2.grown hg9 (HAP.out _ (HK.out _ hB).bl).2.2.1 (fun j e => own_ge (HAP.out _ (HK.out _ hB).bl).1 e)); clear ho9 hg9))
          exact ⟨⟨k + 1, by go_num, by omega, hide' (HG.out.take hlt HX.out HP.out HO9.out HB9.out)⟩, by simp [intOf]; omega⟩
        | false =>
          have HP : Hid (setP n t ⟨xo, xt, xc, xl, xd⟩ = false) := by unfold Hid; rw [HPE.out]; simp
          go_wp2_with (go_at_call 60; refine (HE.out _).mono ?_; rintro e w5 ⟨rfl, hB5⟩; have hB := bstep hB hB5 hB.size; clear hB5)
          exact ⟨⟨k + 1, by go_num, by omega, hide' (HG.out.skip hlt (by rw [HX.out]; exact HP.out) (HK.out _ hB).bl)⟩, by simp [intOf]; omega⟩
      · have htb : (xt == t) = false := by simp [ht]
        have HP : Hid (setP n t ⟨xo, xt, xc, xl, xd⟩ = false) := by unfold Hid; rw [HPE.out, decide_eq_false ht]; rfl
        go_wp2_with fail
        exact ⟨⟨k + 1, by go_num, by omega, hide' (HG.out.skip hlt (by rw [HX.out]; exact HP.out) (HK.out _ hB).bl)⟩, by simp [intOf]; omega⟩
    · obtain rfl : k = M.length := by omega
      go_wp2_with fail
      go_ret
      refine ⟨⟨_, rfl, ?_⟩, HG.out.bl⟩
      have := HG.out.own
      rw [List.take_length] at this
      exact this

set_option maxRecDepth 100000 in
set_option maxHeartbeats 4000000 in
/-- (*gazetteerref3.Zone).There -/
theorem rthere_any {zb : Nat} {apex : ByteArray} {M : List Rn} {p : Option Addr} {c : Nat} {w : World} (h : Yz w zb apex M p c) (n : ByteArray) (hn : n.size ≤ 1048576) :
    Calls Tryz.prog 55 #[.pointer (some ⟨zb, 0, none⟩), .string n] w fun r w' => r = .returned (.bool (rth M n)) ∧ Below w.heap.size w w' := by
  have z1 : w.cell? ⟨zb, 1, none⟩ = some (.slice p M.length c) := h.yx.cell rfl
  have HY := hide' h
  have hM := h.few
  clear h
  go_enter Tryz.func55, Tryz.ntmps55
  go_wp2_with fail
  go_loopw [12] (fun kv wr => ∃ k : Nat, kv = .int .i64 (k : Int) ∧ k ≤ M.length ∧ Hid (∀ j, j < k → (countB (rAt M j) && withinB (rAt M j).o n) = false) ∧ Hid (Below w.heap.size w wr)) (fun kv _ => M.length - (intOf kv).toNat)
  case atStart => exact ⟨0, rfl, Nat.zero_le _, (fun j h => absurd h (Nat.not_lt_zero _)), Below.refl _ _⟩
  case round =>
    obtain ⟨k, rfl, hk, HN, HBr⟩ := hrel
    by_cases hlt : k < M.length
    · obtain ⟨g, off, hp⟩ := rs_at HY.out.rs hlt
      subst hp
      obtain ⟨y0, y1, y2, y3, y4⟩ := rs_cells HY.out.rs rfl hlt HBr.out
      have hsm := ok_small (HY.out.ok _ (rAt_mem hlt))
      have HE := hide' (fun V => refWithin_any (rAt M k).o n V hsm.1 hn)
      have HC := hide' (fun V => rcounts_any (rAt M k) V hsm.2)
      have K0 := hide' (Bk.start wr (rAt M k))
      have HH : Hid ((countB (rAt M k) && withinB (rAt M k).o n) = true → rth M n = true) := fun h => by unfold rth; rw [List.any_eq_true]; exact ⟨_, rAt_mem hlt, h⟩
      have HU : Hid ((countB (rAt M k) && withinB (rAt M k).o n) = false → ∀ j, j < k + 1 → (countB (rAt M j) && withinB (rAt M j).o n) = false) := fun h => up_to (P := fun j => countB (rAt M j) && withinB (rAt M j).o n) HN.out h
      obtain ⟨x, hx⟩ : ∃ x, rAt M k = x := ⟨_, rfl⟩
      rw [hx] at y0 y1 y2 y3 y4 HE HC K0 HH
      rw [hx] at HU
      obtain ⟨wa, hwa⟩ : ∃ wa, wr.alloc (.cells #[.string x.o, .int .i64 x.t, .int .i64 x.c, .int .i64 x.l, .string x.d] 54) = wa := ⟨_, rfl⟩
      rw [hwa] at K0
      have HK : Hid (∀ V, Below wa.heap.size wa V → Bk wr V x) := fun V hV => K0.out.step hV
      obtain ⟨v0, v1, v2, v3, v4⟩ := K0.out.cells
      clear hx hsm
      obtain ⟨xo, xt, xc, xl, xd⟩ := x
      unfold rcV at HC
      simp only at y0 y1 y2 y3 y4 v0 v1 v2 v3 v4 hwa HE HC HH HU
      obtain ⟨E, hE⟩ : ∃ E, withinB xo n = E := ⟨_, rfl⟩
      obtain ⟨Cn, hCn⟩ : ∃ Cn, countB ⟨xo, xt, xc, xl, xd⟩ = Cn := ⟨_, rfl⟩
      rw [hE] at HE HH HU
      rw [hCn] at HC HH HU
      clear hE hCn
      have pk : (k : Int) < (M.length : Int) := by omega
      have hB := Below.refl wa.heap.size wa
      cases Cn with
      | true =>
        cases E with
        | true =>
          have HHH := hide' (HH.out rfl)
          go_wp2_with (first
            | (go_at_call 26; refine (HC.out _).mono ?_; rintro e w5 ⟨rfl, hB5⟩; have hB := bstep hB hB5 hB.size; obtain ⟨v0, v1, v2, v3, v4⟩ := (HK.out _ hB).cells; clear hB5)
            | (go_at_call 52; refine (HE.out _).mono ?_; rintro e w6 ⟨rfl, hB5⟩; have hB := bstep hB hB5 hB.size; clear hB5))
          go_ret
          exact ⟨by rw [HHH.out]; rfl, bstep HBr.out (HK.out _ hB).bl HBr.out.size⟩
        | false =>
          have HUU := hide' (HU.out rfl)
          go_wp2_with (first
            | (go_at_call 26; refine (HC.out _).mono ?_; rintro e w5 ⟨rfl, hB5⟩; have hB := bstep hB hB5 hB.size; obtain ⟨v0, v1, v2, v3, v4⟩ := (HK.out _ hB).cells; clear hB5)
            | (go_at_call 52; refine (HE.out _).mono ?_; rintro e w6 ⟨rfl, hB5⟩; have hB := bstep hB hB5 hB.size; clear hB5))
          exact ⟨⟨k + 1, by go_num, by omega, HUU, bstep HBr.out (HK.out _ hB).bl HBr.out.size⟩, by simp [intOf]; omega⟩
      | false =>
        have HUU := hide' (HU.out rfl)
        go_wp2_with (go_at_call 26; refine (HC.out _).mono ?_; rintro e w5 ⟨rfl, hB5⟩; have hB := bstep hB hB5 hB.size; clear hB5)
        exact ⟨⟨k + 1, by go_num, by omega, HUU, bstep HBr.out (HK.out _ hB).bl HBr.out.size⟩, by simp [intOf]; omega⟩
    · obtain rfl : k = M.length := by omega
      have HZ : Hid (rth M n = false) := by
        unfold Hid rth
        rw [List.any_eq_false]
        intro x hx
        obtain ⟨i, hi, rfl⟩ := mem_at hx
        rw [HN.out i hi]; simp
      go_wp2_with fail
      go_ret
      exact ⟨by rw [HZ.out]; rfl, HBr.out⟩
end Go.Proofs.YthabenjghhmicaaGreat

/-
  Proofs: (*gazetteerref3.Zone).Names: its walk. (The verifier's own text.)
-/
namespace Go.Proofs.YthabenjghhmicaaGreat
set_option linter.unusedVariables false
set_option linter.unusedSimpArgs false
open Go.RowKit Go.Shelf Go.Maps Go.Proofs.YthabenjghhmicaaGreat.Nm Go.Proofs.YthabenjghhmicaaGreat.Zs

theorem own_base {w : World} {b b' e size : Nat} {v : Value} {n : Nat} {xs : List Value} (h : w.ownsRow b e size v n xs) (hb : b' ≤ b) : w.ownsRow b' e size v n xs := by
  obtain ⟨hl, (h0 | ⟨g, cap, cur, h1, h2, h3⟩)⟩ := h
  · exact ⟨hl, .inl h0⟩
  · exact ⟨hl, .inr ⟨g, cap, cur, h1, Nat.le_trans hb h2, h3⟩⟩
set_option maxRecDepth 100000 in
set_option maxHeartbeats 8000000 in
/-- (*gazetteerref3.Zone).Names -/
theorem rnames_any {zb : Nat} {apex : ByteArray} {T : List Rn} {p : Option Addr} {c : Nat} {w : World} (h : Yz w zb apex T p c) (na : isN apex = true) (hIn : OwnIn apex T) (hT : T.Pairwise (fun x y => befB x y = true)) :
    Calls Tryz.prog 20 #[.pointer (some ⟨zb, 0, none⟩)] w fun r w' => (∃ v, r = .returned v ∧ w'.ownsRow w.heap.size 9 1 v (namL apex T).length ((namL apex T).map Value.string)) ∧ Below w.heap.size w w' := by
  have z1 : w.cell? ⟨zb, 1, none⟩ = some (.slice p T.length c) := h.yx.cell rfl
  have HY := hide' h
  have hM := h.few
  have ha255 : apex.size ≤ 255 := ((isN_iff apex).1 na).1
  have HCa := hide' (fun V => refCount_any apex V (by omega))
  rw [cntI_yes na] at HCa
  have HNt := hide' (fun k (hk : k < T.length) => nam_tls na hIn hk)
  have HOk := hide' h.ok
  have HNf := hide' (fun k => namK_few (apex := apex) h.ok k)
  have HNb := hide' (fun (M : List Rn) (h1 : M.Perm ((namK apex T T.length).map bareR)) (h2 : M.Pairwise upR2) => names_both na hIn hT h1 h2)
  have HOn : Hid (∀ k, okU ((namK apex T k).map bareR)) := fun k => okU_bare (fun x hx => by
    have : x ∈ namK apex T T.length := by
      unfold namK at hx ⊢
      rw [List.take_length]
      obtain ⟨r, hr, h2⟩ := List.mem_flatMap.1 hx
      exact List.mem_flatMap.2 ⟨r, List.mem_of_mem_take hr, h2⟩
    have h3 : x ∈ namL apex T := by unfold namL; rw [mem_unq]; exact this
    exact ((namL_mem na hIn x).1 h3).1.nm)
  have HIn := hide' hIn
  have HLa : Hid (∀ o, withinB o apex = true → (labs apex).length ≤ (labs o).length) := fun o ho => within_cnt ho
  clear h na hIn hT ha255
  go_enter Tryz.func20, Tryz.ntmps20
  go_wp2_with fail
  go_loopw [3, 15] (fun ov kv wv => ∃ k : Nat, kv = .int .i64 (k : Int) ∧ k ≤ T.length ∧ Hid (Gn w wv (namK apex T k) ov)) (fun _ kv _ => T.length - (intOf kv).toNat)
  case atStart => exact ⟨0, rfl, Nat.zero_le _, ⟨World.ownsRow_nil _ _ _ _, Below.refl _ _, fun _ => rfl⟩⟩
  case round =>
    obtain ⟨k, rfl, hk, HG⟩ := hrel
    obtain ⟨wq, rfl⟩ : ∃ q, q = wr := ⟨_, rfl⟩
    by_cases hlt : k < T.length
    · obtain ⟨g, off, hp⟩ := rs_at HY.out.rs hlt
      subst hp
      obtain ⟨y0, y1, y2, y3, y4⟩ := rs_cells HY.out.rs rfl hlt HG.out.bl
      have hzo := HOk.out _ (List.getElem_mem hlt)
      have hfa := ok_facts hzo
      have hwi := HIn.out _ (List.getElem_mem hlt)
      have HNx := hide' (HNt.out k hlt)
      have hnf := HNf.out k
      rw [← rAt_get hlt] at y0 y1 y2 y3 y4
      obtain ⟨x, hx⟩ : ∃ x, T[k] = x := ⟨_, rfl⟩
      rw [hx] at y0 y1 y2 y3 y4 HNx hzo hfa hwi
      clear hx
      have htn : x.t ≠ 0 := by
        intro e
        have := hfa.2.2.2.2.2.1
        omega
      have HCo := hide' (fun V => rcounts_any x V (by have := hfa.2.2.2.2.2.2.2.1; omega))
      have HCq := hide' (fun V => refCount_any x.o V (by have := hfa.2.2.2.2.2.2.2.2.1; omega))
      rw [cntI_yes hfa.1] at HCq
      have HTl := hide' (fun V (j : Int) => refTail_any x.o j V (by have := hfa.2.2.2.2.2.2.2.2.1; omega))
      have hle := HLa.out _ hwi
      have hl255 := labs_few hfa.1
      have K0 := hide' (Bk.start wq x)
      obtain ⟨wa, hwa⟩ : ∃ wa, wq.alloc (.cells #[.string x.o, .int .i64 x.t, .int .i64 x.c, .int .i64 x.l, .string x.d] 54) = wa := ⟨_, rfl⟩
      rw [hwa] at K0
      obtain ⟨P, hP⟩ : ∃ P, namK apex T k = P := ⟨_, rfl⟩
      rw [hP] at HG HNx hnf
      clear hP
      have HGa : Hid (Gn w wa P u3) := HG.out.step K0.out.bl
      have HQ : Hid (∀ V, Below w.heap.size w V → V.cell? ⟨zb, 0, none⟩ = some (.string apex)) := fun V hV => (HY.out.step hV).yx.cell rfl
      have pk : (k : Int) < (T.length : Int) := by omega
      have hB := Below.refl wa.heap.size wa
      obtain ⟨v0, v1, v2, v3, v4⟩ := K0.out.cells
      have zc := HQ.out _ HGa.out.bl
      have HKc : Hid (∀ V, Below wa.heap.size wa V → V.cell? ⟨zb, 0, none⟩ = some (.string apex) ∧ V.cell? ⟨wq.heap.size, 0, none⟩ = some (.string x.o)) := fun V hV => ⟨HQ.out _ (HGa.out.step hV).bl, (K0.out.step hV).cells.1⟩
      cases hC : countB x with
      | false =>
        rw [hC] at HCo HNx
        simp only [Bool.false_eq_true, if_false, List.append_nil] at HNx
        clear hC
        obtain ⟨xo, xt, xc, xl, xd⟩ := x
        unfold rcV at HCo
        simp only at y0 y1 y2 y3 y4 v0 v1 v2 v3 v4 hwa HCo
        go_wp2_with (go_at_call 26; refine (HCo.out _).mono ?_; rintro e w1 ⟨rfl, hB1⟩; have hB := bstep hB hB1 hB.size; clear hB1)
        exact ⟨⟨k + 1, by go_num, by omega, by unfold Hid; rw [HNx.out]; exact HGa.out.step hB⟩, by simp [intOf]; omega⟩
      | true =>
        rw [hC] at HCo HNx
        simp only [if_true] at HNx
        clear hC
        obtain ⟨la, hla⟩ : ∃ la, (labs apex).length = la := ⟨_, rfl⟩
        obtain ⟨lq, hlq⟩ : ∃ lq, (labs x.o).length = lq := ⟨_, rfl⟩
        have HTs : Hid (∀ j, tlsL apex x.o (j + 1) = tlsL apex x.o j ++ [foldB (tailB x.o ((la + j : Nat) : Int))]) := fun j => by rw [tls_succ, hla]
        have HTz : Hid (tlsL apex x.o 0 = []) := tls_zero _ _
        have HTn : Hid (∀ j, (tlsL apex x.o j).length = j) := fun j => tls_len _ _ _
        have HFd := hide' (fun V j => foldName_any (tailB x.o j) V (by have := tail_sz x.o j; omega))
        have HTz2 := hide' (fun j => tail_sz x.o j)
        rw [hla] at HCa HNx hle
        rw [hlq] at HCq HNx hle hl255
        clear hla hlq hwi hfa hzo
        have HXt := hide' htn
        obtain ⟨xo, xt, xc, xl, xd⟩ := x
        unfold rcV at HCo
        simp only at y0 y1 y2 y3 y4 v0 v1 v2 v3 v4 hwa HCo HCq HTl HTs HTz HTn HFd HNx HKc
        go_wp2_with (first
          | (go_at_call 26; refine (HCo.out _).mono ?_; rintro e w1 ⟨rfl, hB1⟩; have hB := bstep hB hB1 hB.size; obtain ⟨zc, v0⟩ := HKc.out _ hB; clear hB1)
          | (go_at_call 53; refine (HCa.out _).mono ?_; rintro e w2 ⟨rfl, hB1⟩; have hB := bstep hB hB1 hB.size; obtain ⟨zc, v0⟩ := HKc.out _ hB; clear hB1))
        have HG2 : Hid (Gn w w2 (P ++ tlsL apex xo 0) u3) := by unfold Hid; rw [HTz.out, List.append_nil]; exact HGa.out.step hB
        have HX2 : Hid (Bx w2 wq.heap.size #[.string xo, .int .i64 xt, .int .i64 xc, .int .i64 xl, .string xd] 54) := (K0.out.step hB).x
        clear hB zc v0 v1 v2 v3 v4 y0 y1 y2 y3 y4
        go_loopw [3, 6] (fun ov kv wv => ∃ j : Nat, kv = .int .i64 ((la + j : Nat) : Int) ∧ la + j ≤ lq + 1 ∧ Hid (Gn w wv (P ++ tlsL apex xo j) ov) ∧ Hid (Bx wv wq.heap.size #[.string xo, .int .i64 xt, .int .i64 xc, .int .i64 xl, .string xd] 54)) (fun _ kv _ => lq + 1 - (intOf kv).toNat)
        case atStart => exact ⟨0, rfl, by omega, HG2, HX2⟩
        case round =>
          clear HG2 HX2
          obtain ⟨j, rfl, hj, HGj, HXj⟩ := hrel
          have v0 : wr.cell? ⟨wq.heap.size, 0, none⟩ = some (.string xo) := HXj.out.cell rfl
          have HKd : Hid (∀ V, Below wr.heap.size wr V → V.cell? ⟨wq.heap.size, 0, none⟩ = some (.string xo)) := fun V hV => (HXj.out.below hV HXj.out.lt).cell rfl
          have hB := Below.refl wr.heap.size wr
          by_cases hjl : la + j ≤ lq
          · have hji : ((la + j : Nat) : Int) ≤ (lq : Int) := by omega
            have HTj := hide' (fun V => HTl.out V ((la + j : Nat) : Int))
            have HFj := hide' (fun V => HFd.out V ((la + j : Nat) : Int))
            have HTsj := hide' (HTs.out j)
            have HTnj := hide' (HTn.out j)
            obtain ⟨n1, hn1⟩ : ∃ n, tailB xo ((la + j : Nat) : Int) = n := ⟨_, rfl⟩
            rw [hn1] at HTj HFj HTsj
            clear hn1
            obtain ⟨n2, hn2⟩ : ∃ n, foldB n1 = n := ⟨_, rfl⟩
            rw [hn2] at HFj HTsj
            clear hn2
            have HAp : Hid (∀ V, Below wr.heap.size wr V → _) := fun V hV => HGj.out.app hV n2
            have HLn : Hid ((P ++ tlsL apex xo j).length ≤ 1000000) := by
              have := HTnj.out
              unfold Hid
              rw [List.length_append]
              omega
            go_wp2_with (first
              | (go_at_call 53; refine (HCq.out _).mono ?_; rintro e w3 ⟨rfl, hB1⟩; have hB := bstep hB hB1 hB.size; have v0 := HKd.out _ hB; clear hB1)
              | (go_at_call 54; refine (HTj.out _).mono ?_; rintro e w4 ⟨rfl, hB1⟩; have hB := bstep hB hB1 hB.size; clear hB1)
              | (go_at_call 59; refine (HFj.out _).mono ?_; rintro e w5 ⟨rfl, hB1⟩; have hB := bstep hB hB1 hB.size; clear hB1)
              | (at_builtin; refine wpList_append_recsM rfl _ _ rfl w.heap.size _ _ _ rfl (HAp.out _ hB).1 (some ⟨_, 0, none⟩) [bareR n2] 1 rfl (HAp.out _ hB).2.1 (by simp) (by have := HLn.out; simp only [List.length_cons, List.length_nil]; omega) (HAp.out _ hB).2.2.1 ?_; intro v9 w9 ho9 hg9; have HO9 := hide' ho9; have HB9 := hide' ((HAp.out _ hB).2.2.2.grown hg9 (HAp.out _ hB).2.2.1 (fun q e => own_ge (HAp.out _ hB).1 e)); have HX9 := hide' (((HXj.out.below hB HXj.out.lt).below ((Below.refl _ _).alloc (Nat.le_refl _) _) (Nat.lt_of_lt_of_le HXj.out.lt hB.size)).grown hg9 (HGj.out.apart (x := ⟨xo, xt, xc, xl, xd⟩) HXj.out HXt.out)); clear ho9 hg9))
            exact ⟨⟨j + 1, by go_num, by omega, by unfold Hid; rw [HTsj.out, ← List.append_assoc]; exact Gn.next HO9.out HB9.out, HX9⟩, by simp [intOf]; omega⟩
          · have hji : ¬ ((la + j : Nat) : Int) ≤ (lq : Int) := by omega
            have hjv : j = lq - la + 1 := by omega
            subst hjv
            rw [← HNx.out] at HGj
            go_wp2_with (go_at_call 53; refine (HCq.out _).mono ?_; rintro e w3 ⟨rfl, hB1⟩; have hB := bstep hB hB1 hB.size; clear hB1)
            exact ⟨⟨k + 1, by go_num, by omega, HGj.out.step hB⟩, by simp [intOf]; omega⟩
    · obtain rfl : k = T.length := by omega
      have hnf := HNf.out T.length
      have hok := HOn.out T.length
      obtain ⟨X, hX⟩ : ∃ X, namK apex T T.length = X := ⟨_, rfl⟩
      rw [hX] at HG hnf hok HNb
      have hXl : X.length ≤ 1000000 := by omega
      obtain ⟨pv, cv, hov, c1, c2, c3⟩ := own_shape HG.out.own
      have hrs := rsAt_ownZ (hov ▸ HG.out.own) (by simp)
      subst hov
      have hso := sortedU_any _ (X.map bareR) (Nat.le_refl _) hok pv cv wq hrs (by simpa using c1) c2 c3 (by simpa using hXl)
      rw [List.length_map] at hso
      have HSo := hide' hso
      have HBl := hide' HG.out.bl
      have HSh : Hid (∀ r w', SrtE (X.map bareR) wq r w' → ∃ (M : List Rn) (p5 : Option Addr) (c5 : Nat), r = .returned (.slice p5 M.length c5) ∧ RsAt w' p5 M ∧ M.length ≤ 1000000 ∧ ddK (M.map (·.o)) M.length = namL apex T ∧ Below wq.heap.size wq w') := fun r w' hh => by
        obtain ⟨v, M, rfl, h1, h2, h3, h4⟩ := hh
        obtain ⟨p5, c5, hv, d1, d2, d3⟩ := own_shape h1
        subst hv
        have hl : M.length = (X.map bareR).length := h2.length_eq
        refine ⟨M, p5, c5, by rw [hl], rsAt_ownZ h1 hl.symm, by rw [hl, List.length_map]; exact hXl, ?_, h4⟩
        have := HNb.out M h2 h3
        rw [List.length_map] at this
        exact this
      clear hso hrs hX c1 c2 c3 HNb HOn HNf hnf hok HNt HOk HIn HLa HCa HG hlt hk HY z1
      go_wp2_with (go_at_call 43; refine HSo.out.mono ?_; intro e w5 hse; obtain ⟨M, p5, c5, rfl, hr5, hm5, hd5, hB5⟩ := HSh.out _ _ hse; have HR5 := hide' hr5; have HD5 := hide' hd5; have HB5 := hide' (bstep HBl.out hB5 HBl.out.size); clear hse hr5 hd5 hB5)
      go_loopw [7, 47] (fun ov kv wv => ∃ k : Nat, kv = .int .i64 (k : Int) ∧ k ≤ M.length ∧ Hid (Gd w5 wv (ddK (M.map (·.o)) k) ov)) (fun _ kv _ => M.length - (intOf kv).toNat)
      case atStart => exact ⟨0, rfl, Nat.zero_le _, ⟨World.ownsRow_nil _ _ _ _, Below.refl _ _⟩⟩
      case round =>
        obtain ⟨k, rfl, hk, HG⟩ := hrel
        by_cases hlt : k < M.length
        · have pk : (k : Int) < (M.length : Int) := by omega
          obtain ⟨g, off, hp⟩ := rs_at HR5.out hlt
          subst hp
          obtain ⟨y0, y1, y2, y3, y4⟩ := rs_cells HR5.out rfl hlt HG.out.bl
          rw [← rAt_get hlt] at y0 y1 y2 y3 y4
          have hkm : k < (M.map (·.o)).length := by rw [List.length_map]; exact hlt
          have HDs := hide' (ddK_succ hkm)
          rw [List.getElem_map] at HDs
          have HDl := hide' (ddK_len (M.map (·.o)) k (by rw [List.length_map]; omega))
          obtain ⟨x, hx⟩ : ∃ x, M[k] = x := ⟨_, rfl⟩
          rw [hx] at y0 y1 y2 y3 y4 HDs
          clear hx
          obtain ⟨D, hD⟩ : ∃ D, ddK (M.map (·.o)) k = D := ⟨_, rfl⟩
          rw [hD] at HG HDs HDl
          clear hD hkm
          have K0 := hide' (Bk.start wr x)
          obtain ⟨wa, hwa⟩ : ∃ wa, wr.alloc (.cells #[.string x.o, .int .i64 x.t, .int .i64 x.c, .int .i64 x.l, .string x.d] 54) = wa := ⟨_, rfl⟩
          rw [hwa] at K0
          have hBa := K0.out.bl
          obtain ⟨v0, v1, v2, v3, v4⟩ := K0.out.cells
          obtain ⟨xo, xt, xc, xl, xd⟩ := x
          simp only at y0 y1 y2 y3 y4 v0 v1 v2 v3 v4 hwa HDs
          obtain ⟨po, co, hov, c1, c2, c3⟩ := own_shape HG.out.own
          subst hov
          have HV0 : Hid (∀ V, Below wa.heap.size wa V → V.cell? ⟨wr.heap.size, 0, none⟩ = some (.string xo)) := fun V hV => (K0.out.step hV).cells.1
          have HAp : Hid (∀ V, Below wr.heap.size wr V → _) := fun V hV => HG.out.app hV xo
          have HDn : Hid (D.length ≤ 1000000) := by have := HDl.out; unfold Hid; omega
          have hB := Below.refl wa.heap.size wa
          rcases Nat.eq_zero_or_pos D.length with hDe | hDp
          · obtain rfl : D = [] := List.eq_nil_of_length_eq_zero hDe
            have HDx : Hid (ddK (M.map (·.o)) (k + 1) = [] ++ [xo]) := by unfold Hid; rw [HDs.out]; rfl
            clear hDe
            simp only [List.length_nil] at c1 HDn ⊢
            go_wp2_with fail
            go_region
            have hB := hB.drew
            have v0 := HV0.out _ hB
            go_wp2_with (at_builtin; refine wpList_append_strs rfl _ _ rfl w5.heap.size _ _ _ rfl (HAp.out _ (bstep hBa hB hBa.size)).1 (some ⟨_, 0, none⟩) [xo] 1 rfl (HAp.out _ (bstep hBa hB hBa.size)).2.1 (fun e => by cases e) (by have := HDn.out; simp only [List.length_cons, List.length_nil]; omega) (HAp.out _ (bstep hBa hB hBa.size)).2.2.1 ?_; intro v9 w9 ho9 hg9; have HO9 := hide' ho9; have HB9 := hide' ((HAp.out _ (bstep hBa hB hBa.size)).2.2.2.grown hg9 (HAp.out _ (bstep hBa hB hBa.size)).2.2.1 (fun q e => own_ge (HAp.out _ (bstep hBa hB hBa.size)).1 e)); clear ho9 hg9)
            exact ⟨⟨k + 1, by go_num, by omega, by unfold Hid; rw [HDx.out]; exact Gd.next HO9.out HB9.out⟩, by simp [intOf]; omega⟩
          · obtain ⟨m, hDe⟩ : ∃ m, D.length = m + 1 := ⟨D.length - 1, by omega⟩
            obtain ⟨go, hpo⟩ : ∃ go, po = some ⟨go, 0, none⟩ := by
              obtain ⟨g1, c1', e1, -⟩ := own_someS HG.out.own (by omega)
              injection e1 with e1
              exact ⟨g1, e1⟩
            subst hpo
            have hm : m < D.length := by omega
            have hlast : D.getLast? = some D[m] := by
              rw [List.getLast?_eq_getElem?, hDe, Nat.add_sub_cancel, List.getElem?_eq_getElem hm]
            have HSt := hide' (strsAt_ownR HG.out.own)
            have HOc : Hid (∀ V, Below wa.heap.size wa V → V.cell? ⟨go, m, none⟩ = some (.string D[m])) := fun V hV => by
              obtain ⟨g1, o1, e1, e2, e3⟩ := (HSt.out.below (bstep hBa hV hBa.size)) m hm
              injection e1 with e1
              injection e1 with e1 e4
              subst e1 e4
              rw [Nat.zero_add] at e3
              exact e3
            have HDx : Hid (ddK (M.map (·.o)) (k + 1) = if D[m] = xo then D else D ++ [xo]) := by
              unfold Hid
              rw [HDs.out]
              unfold ddS
              rw [hlast]
              simp
            obtain ⟨y, hy⟩ : ∃ y, D[m] = y := ⟨_, rfl⟩
            rw [hy] at HOc HDx
            clear hlast hy HDs
            have oc := HOc.out _ hB
            have HLe : Hid (D.length = m + 1) := hDe
            have hm63 : m ≤ 1000000 := by have := HDn.out; omega
            have i0 : ((D.length : Int) == 0) = false := by rw [beq_eq_false_iff_ne]; omega
            have i1 : IntKind.i64.wrap ((D.length : Int) - 1) = (m : Int) := by rw [IntWalk.i64_in] <;> omega
            have i2 : (0 : Int) ≤ (m : Int) := by omega
            have i3 : (m : Int) < (D.length : Int) := by omega
            clear hDe hDp c1 c2 c3
            by_cases hyx : y = xo
            · subst hyx
              have HDy : Hid (ddK (M.map (·.o)) (k + 1) = D) := by unfold Hid; rw [HDx.out, if_pos rfl]
              go_wp2_with fail
              go_region_held3 (fun V => V.cell? ⟨go, m, none⟩ = some (.string y) ∧ V.cell? ⟨wr.heap.size, 0, none⟩ = some (.string y)) (first | go_keep) (fail)
              have hB := hB.drew
              go_wp2_with fail
              exact ⟨⟨k + 1, by go_num, by omega, by unfold Hid; rw [HDy.out]; exact HG.out.step (bstep hBa hB hBa.size)⟩, by simp [intOf]; omega⟩
            · have HDy : Hid (ddK (M.map (·.o)) (k + 1) = D ++ [xo]) := by unfold Hid; rw [HDx.out, if_neg hyx]
              have hn1 : (y.toList == xo.toList) = false := by rw [beq_eq_false_iff_ne]; intro e; exact hyx (toList_inj.1 e)
              have hn2 : (y.toList != xo.toList) = true := by unfold bne; rw [hn1]; rfl
              go_wp2_with fail
              go_region_held3 (fun V => V.cell? ⟨go, m, none⟩ = some (.string y) ∧ V.cell? ⟨wr.heap.size, 0, none⟩ = some (.string xo)) (first | go_keep) (fail)
              have hB := hB.drew
              have v0 := HV0.out _ hB
              go_wp2_with (at_builtin; refine wpList_append_strs rfl _ _ rfl w5.heap.size _ _ _ rfl (HAp.out _ (bstep hBa hB hBa.size)).1 (some ⟨_, 0, none⟩) [xo] 1 rfl (HAp.out _ (bstep hBa hB hBa.size)).2.1 (fun e => by cases e) (by have := HDn.out; simp only [List.length_cons, List.length_nil]; omega) (HAp.out _ (bstep hBa hB hBa.size)).2.2.1 ?_; intro v9 w9 ho9 hg9; have HO9 := hide' ho9; have HB9 := hide' ((HAp.out _ (bstep hBa hB hBa.size)).2.2.2.grown hg9 (HAp.out _ (bstep hBa hB hBa.size)).2.2.1 (fun q e => own_ge (HAp.out _ (bstep hBa hB hBa.size)).1 e)); clear ho9 hg9)
              exact ⟨⟨k + 1, by go_num, by omega, by unfold Hid; rw [HDy.out]; exact Gd.next HO9.out HB9.out⟩, by simp [intOf]; omega⟩
        · obtain rfl : k = M.length := by omega
          rw [HD5.out] at HG
          go_wp2_with fail
          go_ret
          exact ⟨⟨_, rfl, own_base HG.out.own HB5.out.size⟩, bstep HB5.out HG.out.bl HB5.out.size⟩
end Go.Proofs.YthabenjghhmicaaGreat
