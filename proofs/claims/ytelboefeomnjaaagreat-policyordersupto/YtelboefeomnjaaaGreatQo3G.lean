import Derived.Test.YtelboefeomnjaaaGreatQo1G
import Derived.Test.YtelboefeomnjaaaGreatAp1G
import Derived.Deep.AppendLies
import Derived.Deep.RegionHeldLaw
/-
  The reference's Order: places in the row that is left, plainly; what lies in memory. (The verifier's own text.)
-/
namespace Go.Proofs.YtelboefeomnjaaaGreat
set_option linter.unusedVariables false
set_option linter.unusedSimpArgs false
open Go.RowKit Go.Shelf Go.Maps Go.Proofs.YtelboefeomnjaaaGreat.Nm Go.Proofs.YtelboefeomnjaaaGreat.Zs

/-- the places of those that a pass takes -/
def psK (P W : Nat → Int) (m : Int) (z : Bool) (K : List Nat) (j : Nat) : List Nat := (List.range j).filter fun i => decide (P (ix K i) = m ∧ decide (W (ix K i) = 0) = z)
theorem psK_zero (P W : Nat → Int) (m : Int) (z : Bool) (K : List Nat) : psK P W m z K 0 = [] := rfl
theorem psK_yes {P W : Nat → Int} {m : Int} {z : Bool} {K : List Nat} {j : Nat} (h : P (ix K j) = m) (h2 : decide (W (ix K j) = 0) = z) : psK P W m z K (j + 1) = psK P W m z K j ++ [j] := by
  unfold psK
  rw [List.range_succ, List.filter_append, List.filter_cons, if_pos (by simpa using ⟨h, h2⟩)]
  rfl
theorem psK_no {P W : Nat → Int} {m : Int} {z : Bool} {K : List Nat} {j : Nat} (h : ¬ (P (ix K j) = m ∧ decide (W (ix K j) = 0) = z)) : psK P W m z K (j + 1) = psK P W m z K j := by
  unfold psK
  rw [List.range_succ, List.filter_append, List.filter_cons, if_neg (by simpa using h), List.filter_nil, List.append_nil]
theorem psK_lt {P W : Nat → Int} {m : Int} {z : Bool} {K : List Nat} {j i : Nat} (h : i ∈ psK P W m z K j) : i < j := List.mem_range.1 (List.mem_filter.1 h).1
theorem map_ix (K : List Nat) : (List.range K.length).map (ix K) = K := by
  apply List.ext_getElem
  · simp
  · intro i h1 h2
    rw [List.getElem_map, List.getElem_range, ix_get h2]
theorem psK_map (P W : Nat → Int) (m : Int) (z : Bool) (K : List Nat) : (psK P W m z K K.length).map (ix K) = K.filter fun k => decide (P k = m ∧ decide (W k = 0) = z) := by
  conv => rhs; rw [← map_ix K]
  rw [List.filter_map]
  rfl
/-- the places of all that may be drawn -/
def rowP (P W : Nat → Int) (m : Int) (K : List Nat) : List Nat := psK P W m true K K.length ++ psK P W m false K K.length
theorem rowP_map (P W : Nat → Int) (m : Int) (K : List Nat) : (rowP P W m K).map (ix K) = rowK P W m K := by
  unfold rowP rowK
  rw [List.map_append, psK_map, psK_map]
  congr 1
  · apply List.filter_congr
    intro k _
    simp
  · apply List.filter_congr
    intro k _
    simp
theorem rowP_lt {P W : Nat → Int} {m : Int} {K : List Nat} {i : Nat} (h : i ∈ rowP P W m K) : i < K.length := by
  rcases List.mem_append.1 h with h | h <;> exact psK_lt h
/-- weights of places -/
def smP (W : Nat → Int) (K l : List Nat) : Int := sumW W (l.map (ix K))
theorem sumW_app (W : Nat → Int) : ∀ a b : List Nat, sumW W (a ++ b) = sumW W a + sumW W b
  | [], b => by simp [sumW]
  | x :: a, b => by rw [List.cons_append]; simp only [sumW]; rw [sumW_app W a b]; omega
theorem smP_snoc (W : Nat → Int) (K l : List Nat) (j : Nat) : smP W K (l ++ [j]) = smP W K l + W (ix K j) := by
  unfold smP
  rw [List.map_append, sumW_app]
  simp [sumW]
theorem smP_nn {W : Nat → Int} (hw : ∀ k, 0 ≤ W k) (K l : List Nat) : 0 ≤ smP W K l := sumW_nn hw _
theorem smP_le {W : Nat → Int} (hw : ∀ k, W k ≤ 65535) (K : List Nat) : ∀ l : List Nat, smP W K l ≤ 65535 * (l.length : Int)
  | [] => by simp [smP, sumW]
  | x :: l => by
    have := smP_le hw K l
    have h2 := hw (ix K x)
    unfold smP at *
    rw [List.map_cons]
    simp only [sumW, List.length_cons]
    omega
/-- the least so far -/
def lsK (P : Nat → Int) (K : List Nat) (j : Nat) : Int := leastK P 65536 (K.take j)
theorem least_snoc (P : Nat → Int) : ∀ (l : List Nat) (m : Int) (x : Nat), leastK P m (l ++ [x]) = if P x < leastK P m l then P x else leastK P m l
  | [], m, x => rfl
  | y :: l, m, x => by rw [List.cons_append]; unfold leastK; exact least_snoc P l _ x
theorem lsK_succ {P : Nat → Int} {K : List Nat} {j : Nat} (h : j < K.length) : lsK P K (j + 1) = if P (ix K j) < lsK P K j then P (ix K j) else lsK P K j := by
  unfold lsK
  rw [List.take_succ_eq_append_getElem h, least_snoc, ix_get h]
theorem lsK_all (P : Nat → Int) (K : List Nat) : lsK P K K.length = leastK P 65536 K := by unfold lsK; rw [List.take_length]
theorem least_mem (P : Nat → Int) : ∀ (K : List Nat) (m : Int), leastK P m K = m ∨ ∃ k ∈ K, P k = leastK P m K
  | [], m => Or.inl rfl
  | x :: K, m => by
    unfold leastK
    rcases least_mem P K (if P x < m then P x else m) with h | ⟨k, hk, h⟩
    · split at h
      · rename_i hx
        right
        exact ⟨x, List.mem_cons_self, by rw [if_pos hx, h]⟩
      · rename_i hx
        left
        rw [if_neg hx, h]
    · right
      exact ⟨k, List.mem_cons_of_mem _ hk, h⟩
theorem least_le (P : Nat → Int) : ∀ (K : List Nat) (m : Int), leastK P m K ≤ m
  | [], m => Int.le_refl _
  | x :: K, m => by
    unfold leastK
    have := least_le P K (if P x < m then P x else m)
    split at this
    · rename_i hx; rw [if_pos hx]; omega
    · rename_i hx; rw [if_neg hx]; omega
theorem least_ub (P : Nat → Int) : ∀ (K : List Nat) (m : Int), ∀ k ∈ K, leastK P m K ≤ P k
  | [], _, _, h => by cases h
  | x :: K, m, k, h => by
    unfold leastK
    rcases List.mem_cons.1 h with e | e
    · subst e
      have := least_le P K (if P k < m then P k else m)
      split at this
      · rename_i hx; rw [if_pos hx]; omega
      · rename_i hx; rw [if_neg hx]; omega
    · exact least_ub P K _ k e
/-- somebody is among them -/
theorem rowP_pos {P W : Nat → Int} {K : List Nat} (h6 : ∀ k, P k < 65536) (h0 : 0 < K.length) : 0 < (rowP P W (leastK P 65536 K) K).length := by
  have h1 : ∃ k ∈ K, P k = leastK P 65536 K := by
    rcases least_mem P K 65536 with h | h
    · have := least_ub P K 65536 _ (List.getElem_mem h0)
      have := h6 K[0]
      omega
    · exact h
  obtain ⟨k, hk, hp⟩ := h1
  have h2 : k ∈ rowK P W (leastK P 65536 K) K := by
    unfold rowK
    by_cases hw : W k = 0
    · exact List.mem_append_left _ (List.mem_filter.2 ⟨hk, by simpa using ⟨hp, hw⟩⟩)
    · exact List.mem_append_right _ (List.mem_filter.2 ⟨hk, by simpa using ⟨hp, hw⟩⟩)
  rw [← rowP_map] at h2
  have := List.length_pos_of_mem h2
  rw [List.length_map] at this
  exact this
/-- who is drawn: at which place -/
theorem drawn_place {P W : Nat → Int} {K : List Nat} (hw : ∀ k, 0 ≤ W k) {m : Int} {z t : Int} {i : Nat} (hi : i < (rowP P W m K).length) (ht : t = z % (smP W K (rowP P W m K) + 1)) (h1 : t ≤ smP W K ((rowP P W m K).take (i + 1))) (h2 : i = 0 ∨ smP W K ((rowP P W m K).take i) < t) : ix K (ix (rowP P W m K) i) = drawn W z (rowK P W m K) := by
  unfold drawn
  rw [← rowP_map]
  have e : sumW W ((rowP P W m K).map (ix K)) = smP W K (rowP P W m K) := rfl
  rw [e, ← ht]
  have hl : i < ((rowP P W m K).map (ix K)).length := by rw [List.length_map]; exact hi
  have := drawI_is hw t ((rowP P W m K).map (ix K)) 0 i hl (by rw [← List.map_take]; unfold smP at h1; omega) (by rw [← List.map_take]; unfold smP at h2; omega)
  rw [this, ← ix_get hl, List.getElem_map, ix_get hi]
/-- one is drawn of those that are left -/
theorem ordK_step {P W : Nat → Int} {Q : Nat → Int} {K : List Nat} {t d : Nat} (h0 : 0 < K.length) (hn : K.Nodup) (hd : d < K.length) (h : ix K d = drawn W (Q t) (rowK P W (leastK P 65536 K) K)) :
    ordK P W Q K.length t K = ix K d :: ordK P W Q (K.eraseIdx d).length (t + 1) (K.eraseIdx d) := by
  have her : K.erase (ix K d) = K.eraseIdx d := by rw [← ix_get hd]; exact erase_ix K d hd hn
  have hl : (K.eraseIdx d).length = K.length - 1 := by rw [List.length_eraseIdx, if_pos hd]
  obtain ⟨n, hn'⟩ : ∃ n, K.length = n + 1 := ⟨K.length - 1, by omega⟩
  rw [hl, hn', Nat.add_sub_cancel, ← her]
  match K, h0 with
  | x :: K, _ =>
    conv => lhs; unfold ordK
    rw [← h]
/-- numbers in a row -/
def inR (l : List Nat) : List Value := l.map fun n : Nat => Value.int .i64 (n : Int)
theorem inR_app (a b : List Nat) : inR (a ++ b) = inR a ++ inR b := List.map_append
theorem infoIntQ : (Tryz.prog.info? 3).map (fun i => (i.zero, i.size, i.bytes)) = some (some (.int .i64 0), 1, 8) := by kernel_rfl
/-- append(row, k) of a number -/
theorem wpList_append_int1 {w : World} {ops : Array Oper} {rest : List Oper} {o : Oper} {a : Act} {Q : Exit → Act → World → Prop} (hgd : o.guard = none) (s x : Operand)
    (ho : o.op = .call { callee := .builtin .append, args := #[s, x], argTypes := #[23, 23] })
    (base : Nat) (v : Value) (l : List Nat) (n : Nat) (hs : a.eval s = v) (hown : w.ownsRow base 3 1 v n (inR l))
    (g k : Nat) (hx : a.eval x = .slice (some ⟨g, 0, none⟩) 1 1) (hc : w.cell? ⟨g, 0, none⟩ = some (.int .i64 (k : Int)))
    (hsm : n ≤ 4194304) (hbase : base ≤ w.heap.size)
    (h : ∀ v' w', w'.ownsRow base 3 1 v' (n + 1) (inR (l ++ [k])) → w.grownBy w' v.ownBlock → wpList Tryz.prog ops Q rest (a.put o.dst v') w') : wpList Tryz.prog ops Q (o :: rest) a w := by
  obtain ⟨i0, hi, hz0, hz1, hz2⟩ := info_parts infoIntQ
  refine wpList_append_own w hgd s x 23 ho base 3 i0 (.int .i64 0) 1 8 Tryz.underlying23 hi hz0 hz1 hz2 rfl (by decide) v n (inR l) hs hown ⟨g, 0, none⟩ 1 1 [.int .i64 (k : Int)] hx rfl ?_ ?_ (by unfold maxLen; omega) (by omega) hbase (fun v' w' h1 h2 _ => h v' w' (by rw [inR_app]; exact h1) h2)
  · intro j u hj
    have hj' : j = 0 := by
      have := (List.getElem?_eq_some_iff.1 hj).1
      simpa using this
    subst hj'
    simp at hj
    rw [← hj]
    simpa [Addr.add] using hc
  · intro u hu
    rw [List.mem_singleton.1 hu]
    rfl
/-- append(v, x) of one record: where it lies -/
theorem wpList_append_recA {ops : Array Oper} {rest : List Oper} {o : Oper} {a : Act} {w : World} {Q : Exit → Act → World → Prop} (hgd : o.guard = none) (s x : Operand) (ho : o.op = .call { callee := .builtin .append, args := #[s, x], argTypes := #[22, 22] })
    (base : Nat) (v : Value) (n : Nat) (xs : List Value) (hs : a.eval s = v) (hown : w.ownsRow base 42 5 v n xs) (ad : Addr) (L : List Rn) (cap : Nat) (hx : a.eval x = .slice (some ad) L.length cap) (hat : RsAt w (some ad) L) (h63 : n + L.length ≤ 10000000) (hbase : base ≤ w.heap.size)
    (h : ∀ v' w', w'.ownsRow base 42 5 v' (n + L.length) (xs ++ rce5 L) → w.grownBy w' v.ownBlock → (v'.ownBlock = v.ownBlock ∨ v'.ownBlock = some w.heap.size) → wpList Tryz.prog ops Q rest (a.put o.dst v') w') : wpList Tryz.prog ops Q (o :: rest) a w := by
  obtain ⟨i0, hi, hz0, hz1, hz2⟩ := info_parts infoRM
  exact wpList_append_apart (P := Tryz.prog) w hgd s x 22 ho base 42 i0 _ 5 56 Tryz.underlying22 hi hz0 hz1 hz2 rfl (by decide) v n xs hs hown ad L.length cap (rce5 L) hx (rce5_len L) (rs_newsM hat) (rce5_one L) (by unfold maxLen; omega) (by omega) hbase h
/-- 'append(v, l...)' of records at a step of a region that draws its order -/
theorem step_append_recsQ {w : World} {ops : Array Oper} {o : Oper} {a : Act} {K : Act → World → Prop} {Q : Exit → Act → World → Prop} {E : Prop} (hgd : o.guard = none) (s x : Operand)
    (ho : o.op = .call { callee := .builtin .append, args := #[s, x], argTypes := #[22, 22] })
    (base : Nat) (v : Value) (n : Nat) (xs : List Value) (hs : a.eval s = v) (hown : w.ownsRow base 42 5 v n xs)
    (ad : Addr) (l : List Rn) (m c : Nat) (hx : a.eval x = .slice (some ad) m c) (hm : m = l.length) (hat : RsAt w (some ad) l)
    (hsm : n + m ≤ 10000000) (hbase : base ≤ w.heap.size)
    (h : ∀ v' w', w'.ownsRow base 42 5 v' (n + m) (xs ++ rce5 l) → w.grownBy w' v.ownBlock → K (a.put o.dst v') w') :
    if Region.wanted o (yielded ops a.tmps) = true then Oper.wp Tryz.prog o a w K Q else E := by
  subst hm
  have hw : Region.wanted o (yielded ops a.tmps) = true := by simp [Region.wanted, hgd]
  rw [if_pos hw]
  obtain ⟨i0, hi, hz0, hz1, hz2⟩ := info_parts infoRM
  obtain ⟨v', w', hr, h2, h3, _, h5⟩ := run_append_own_at (P := Tryz.prog) w base 22 o.type 42 i0 _ 5 56 Tryz.underlying22 hi hz0 hz1 hz2 rfl (by decide) v n xs hown ad l.length c (rce5 l) (rce5_len l) (rs_newsM hat) (rce5_one l) (by unfold maxLen; omega) (by omega) hbase
  unfold Oper.wp execOp
  simp only [ho, resolve, invoke, builtin, Sem.run_bind, Sem.run_pure, Result.andThen_ok, List.map_toArray, List.map_cons, List.map_nil, hs, hx, hr]
  exact h v' w' h2 h3
/-- what is left, and what is drawn, in memory -/
structure Ry (w : World) (b : Nat) (L : List Rn) (xs : List Int) (T : List Nat) (K O : List Nat) (pl : Option Addr) (cl : Nat) (oq : Option Addr) (oc : Nat) (wr : World) : Prop where
  lf : RsAt wr pl (K.map (rK L))
  lg : ∀ a, pl = some a → a.block < wr.heap.size
  lc : K.length ≤ cl ∧ cl ≤ maxLen
  ln : O.length + K.length = L.length
  ap : ∀ a, pl = some a → (Value.slice oq O.length oc).ownBlock ≠ some a.block
  ow : wr.ownsRow b 42 5 (.slice oq O.length oc) O.length (rce5 (O.map (rK L)))
  od : O ++ ordK (pK L) (wK L) (rlN xs) K.length O.length K = T
  up : K.Pairwise (· < ·)
  me : ∀ k ∈ K, k < L.length
  bl : Below w.heap.size w wr
  gb : w.heap.size ≤ b ∧ b ≤ wr.heap.size
section
variable {w wr w2 : World} {b cl oc : Nat} {L : List Rn} {xs : List Int} {T K O : List Nat} {pl oq : Option Addr}
theorem Ry.below (h : Ry w b L xs T K O pl cl oq oc wr) (hb : Below wr.heap.size wr w2) : Ry w b L xs T K O pl cl oq oc w2 :=
  ⟨rsAt_below7 h.lf hb, fun a e => Nat.lt_of_lt_of_le (h.lg a e) hb.size, h.lc, h.ln, h.ap, ownsRow_below h.ow hb, h.od, h.up, h.me, bstep h.bl hb h.bl.size, h.gb.1, Nat.le_trans h.gb.2 hb.size⟩
theorem Ry.nodup (h : Ry w b L xs T K O pl cl oq oc wr) : K.Nodup := h.up.imp fun h => Nat.ne_of_lt h
theorem Ry.at (h : Ry w b L xs T K O pl cl oq oc wr) {j : Nat} (hj : j < K.length) : ∃ g off, pl = some ⟨g, off, none⟩ ∧ ix K j < L.length ∧ ∃ xo xt xc xl xd, rK L (ix K j) = ⟨xo, xt, xc, xl, xd⟩ ∧ wr.cell? ⟨g, off + j * 5, none⟩ = some (.string xo) ∧ wr.cell? ⟨g, off + j * 5 + 1, none⟩ = some (.int .i64 xt) ∧ wr.cell? ⟨g, off + j * 5 + 2, none⟩ = some (.int .i64 xc) ∧ wr.cell? ⟨g, off + j * 5 + 3, none⟩ = some (.int .i64 xl) ∧ wr.cell? ⟨g, off + j * 5 + 4, none⟩ = some (.string xd) := by
  obtain ⟨g, off, hp, _, h0, h1, h2, h3, h4⟩ := h.lf j (by rw [List.length_map]; exact hj)
  rw [List.getElem_map, ix_get hj] at h0 h1 h2 h3 h4
  exact ⟨g, off, hp, h.me _ (ix_mem hj), _, _, _, _, _, rfl, h0, h1, h2, h3, h4⟩
/-- one is drawn: it is behind the others -/
theorem Ry.put (h : Ry w b L xs T K O pl cl oq oc wr) {d : Nat} (hd : d < K.length) {v' : Value} (ho : w2.ownsRow b 42 5 v' (O.length + 1) (rce5 (O.map (rK L)) ++ rce5 [rK L (ix K d)])) (hg : wr.grownBy w2 (Value.slice oq O.length oc).ownBlock) (hpl : v'.ownBlock = (Value.slice oq O.length oc).ownBlock ∨ v'.ownBlock = some wr.heap.size) :
    ∃ q9 c9, v' = .slice q9 (O.length + 1) c9 ∧ RsAt w2 pl (K.map (rK L)) ∧ w2.ownsRow b 42 5 (.slice q9 (O.length + 1) c9) (O.length + 1) (rce5 ((O ++ [ix K d]).map (rK L))) ∧ Below w.heap.size w w2 ∧ wr.heap.size ≤ w2.heap.size ∧ ∀ q, v'.ownBlock = some q → q < w2.heap.size := by
  obtain ⟨q9, c9, hv, _⟩ := own_shape ho
  subst hv
  have hob : ∀ q, (Value.slice oq O.length oc).ownBlock = some q → b ≤ q := fun q hq => ownBlock_le h.ow hq
  refine ⟨q9, c9, rfl, ?_, ?_, h.bl.grown hg h.bl.size (fun k e => by have := hob k e; have := h.gb; omega), hg.size, fun q e => (ho.lt q e).2⟩
  · intro k hk
    obtain ⟨g, off, hp, h1, h2, h3, h4, h5, h6⟩ := h.lf k hk
    have hne : some g ≠ (Value.slice oq O.length oc).ownBlock := fun e => h.ap _ hp e.symm
    have c := fun (j : Nat) => hg.cell_far ⟨g, j, none⟩ h1 hne
    exact ⟨g, off, hp, Nat.lt_of_lt_of_le h1 hg.size, (c _).trans h2, (c _).trans h3, (c _).trans h4, (c _).trans h5, (c _).trans h6⟩
  · rw [List.map_append, rce5_app]
    exact ho
/-- .. and is taken out of those that are left -/
theorem Ry.next (h : Ry w b L xs T K O pl cl oq oc wr) {d : Nat} (hd : d < K.length) (hdr : ix K d = drawn (wK L) (rlN xs O.length) (rowK (pK L) (wK L) (leastK (pK L) 65536 K) K)) {w9 w3 : World} {q9 : Option Addr} {c9 : Nat} (ho : w9.ownsRow b 42 5 (.slice q9 (O.length + 1) c9) (O.length + 1) (rce5 ((O ++ [ix K d]).map (rK L)))) (hbl : Below w.heap.size w w9) (hb9 : b ≤ w9.heap.size) (hq : ∀ q, (Value.slice q9 (O.length + 1) c9).ownBlock = some q → q < w9.heap.size)
    {v8 : Value} (h8 : w3.ownsRow w9.heap.size 42 5 v8 (d + (K.length - (d + 1))) (rce5 ((K.take d).map (rK L)) ++ rce5 ((K.drop (d + 1)).map (rK L)))) (hb3 : Below w9.heap.size w9 w3) :
    ∃ p8 c8, v8 = .slice p8 (K.eraseIdx d).length c8 ∧ (p8 = none → c8 = 0) ∧ Ry w b L xs T (K.eraseIdx d) (O ++ [ix K d]) p8 c8 q9 c9 w3 := by
  have hle : (K.eraseIdx d).length = d + (K.length - (d + 1)) := by rw [List.length_eraseIdx, if_pos hd]; omega
  obtain ⟨p8, c8, hv, hc1, hc2, hc3⟩ := own_shape h8
  subst hv
  have e8 : rce5 ((K.take d).map (rK L)) ++ rce5 ((K.drop (d + 1)).map (rK L)) = rce5 ((K.eraseIdx d).map (rK L)) := by
    rw [← rce5_app, ← List.map_append, List.eraseIdx_eq_take_drop_succ]
  rw [e8, ← hle] at h8
  have hO : (O ++ [ix K d]).length = O.length + 1 := by simp
  have hblk : ∀ a, p8 = some a → w9.heap.size ≤ a.block ∧ a.block < w3.heap.size := fun a e => by
    subst e
    rcases h8.2 with ⟨h1, _⟩ | ⟨g, cap, cur, h1, h2, h3, _⟩
    · cases h1
    · injection h1 with h1
      injection h1 with h1
      subst h1
      have h3' : Bx w3 g cur 42 := h3
      exact ⟨h2, h3'.lt⟩
  refine ⟨p8, c8, by rw [hle], hc3, ?_, fun a e => (hblk a e).2, ⟨by omega, hc2⟩, ?_, fun a e e2 => ?_, ?_, ?_, h.up.sublist (List.eraseIdx_sublist _ _), fun k hk => h.me k (List.mem_of_mem_eraseIdx hk), bstep hbl hb3 hbl.size, h.gb.1, Nat.le_trans hb9 hb3.size⟩
  · cases p8 with
    | none =>
      have hc := hc3 rfl
      intro k hk
      rw [List.length_map] at hk
      omega
    | some a =>
      rcases h8.2 with ⟨h1, _⟩ | ⟨g, cap, cur, h1, _⟩
      · cases h1
      · injection h1 with h1
        injection h1 with h1
        subst h1
        obtain ⟨rest, hr, _⟩ := rb_ownM h8
        exact rb_rs hr
  · have := h.ln
    rw [hO, hle]
    omega
  · rw [hO] at e2
    have := hq _ e2
    have := (hblk a e).1
    omega
  · rw [hO]
    exact ownsRow_below ho hb3
  · rw [← h.od, ordK_step (Nat.lt_of_le_of_lt (Nat.zero_le _) hd) h.nodup hd hdr, hO, List.append_assoc]
    rfl
end
end Go.Proofs.YtelboefeomnjaaaGreat

/-
  Proofs: the reference's Order. (The verifier's own text; mkqo4.py.)
-/
namespace Go.Proofs.YtelboefeomnjaaaGreat
set_option linter.unusedVariables false
set_option linter.unusedSimpArgs false
open Go.RowKit Go.Shelf Go.Maps Go.Proofs.YtelboefeomnjaaaGreat.Nm Go.Proofs.YtelboefeomnjaaaGreat.Zs

theorem setT_srv (L : List Rn) : setT L 33 = srvB L := rfl
/-- both ways -/
theorem ordT_K (L : List Rn) (xs : List Int) : ordT L xs = ordK (pK L) (wK L) (rlN xs) L.length 0 (List.range L.length) :=
  ord_both (svE (L.map enO)) (fun k => (wK_ok L k).1) (fun k => (pK_ok L k).2) (rlN xs) L.length 0 _ _ List.pairwise_lt_range (put_perm _) (put_fi (ordE (L.map enO)) _)
/-- the rows so far -/
def rowA (P W : Nat → Int) (m : Int) (K : List Nat) : Nat → List Nat
  | 0 => []
  | 1 => [] ++ psK P W m true K K.length
  | _ => [] ++ psK P W m true K K.length ++ psK P W m false K K.length
theorem cell_new1 (w : World) (v : Value) (T : TypeId) : (w.alloc (.cells #[v] T)).cell? ⟨w.heap.size, 0, none⟩ = some v := Bx.cell (World.alloc_heap_new w _) rfl
theorem rs_takeQ {w : World} {p : Option Addr} {L : List Rn} {K : List Nat} (h : RsAt w p (K.map (rK L))) (d : Nat) : RsAt w p ((K.take d).map (rK L)) := fun k hk => by
  rw [List.length_map, List.length_take] at hk
  obtain ⟨g, off, hp, h1, h2⟩ := h k (by rw [List.length_map]; omega)
  refine ⟨g, off, hp, h1, ?_⟩
  have e : ((K.take d).map (rK L))[k]'(by rw [List.length_map, List.length_take]; omega) = (K.map (rK L))[k]'(by rw [List.length_map]; omega) := by simp
  rw [e]
  exact h2
theorem run_fromR (g o n cap i : Nat) (hi : i ≤ n) (hc : n ≤ cap) : ∃ Ad : Addr, (i < n → Ad = ⟨g, o + i * 5, none⟩) ∧ ∀ W : World, (Instr.slice 22 (.slice (some ⟨g, o, none⟩) n cap) (some (.int .i64 ((i : Nat) : Int))) none none).run Tryz.prog W = .ok (.slice (some Ad) (n - i) (cap - i)) W := by
  have ht' : Tryz.prog.underlying 22 = some (.slice (Tryz.prog.elem 22)) := by simp [Program.elem, Tryz.underlying22]
  have he' : Tryz.prog.elem 22 = 42 := by simp [Program.elem, Tryz.underlying22]
  refine ⟨if cap = i then ⟨g, o, none⟩ else ⟨g, o + i * 5, none⟩, fun h => if_neg (by omega), fun W => ?_⟩
  rw [run_slice_l W _ _ _ _ ht' .i64 _ (by omega) (by omega), he', Tryz.sizeOf42]
  by_cases e1 : cap = i
  · subst e1
    simp [Result.andThen, sliced, Addr.add]
  · rcases Nat.eq_zero_or_pos i with rfl | hp
    · simp [Result.andThen, sliced, Addr.add]
    · have e2 : ¬ i * 5 = 0 := by omega
      simp [Result.andThen, sliced, Addr.add, e1]
      omega
theorem run_fromI (g o n cap : Nat) (hi : 1 ≤ n) (hc : n ≤ cap) : ∃ Ad : Addr, (1 < n → Ad = ⟨g, o + 1, none⟩) ∧ ∀ W : World, (Instr.slice 23 (.slice (some ⟨g, o, none⟩) n cap) (some (.int .i64 ((1 : Nat) : Int))) none none).run Tryz.prog W = .ok (.slice (some Ad) (n - 1) (cap - 1)) W := by
  have ht' : Tryz.prog.underlying 23 = some (.slice (Tryz.prog.elem 23)) := by simp [Program.elem, Tryz.underlying23]
  have he' : Tryz.prog.elem 23 = 3 := by simp [Program.elem, Tryz.underlying23]
  refine ⟨if cap = 1 then ⟨g, o, none⟩ else ⟨g, o + 1, none⟩, fun h => if_neg (by omega), fun W => ?_⟩
  rw [run_slice_l W _ _ _ _ ht' .i64 _ (by omega) (by omega), he', Tryz.sizeOf3]
  by_cases e1 : cap = 1
  · subst e1
    simp [Result.andThen, sliced, Addr.add]
  · simp [Result.andThen, sliced, Addr.add, e1]
theorem rl_nil {xs : List Int} {n : Nat} (h : [] = xs.drop n) : rlN xs n = 0 ∧ [] = xs.drop (n + 1) := by
  have hl : xs.length ≤ n := List.drop_eq_nil_iff.1 h.symm
  exact ⟨rlN_ge (by omega), (List.drop_eq_nil_iff.2 (by omega)).symm⟩
theorem rl_cons {xs Z : List Int} {z : Int} {n : Nat} (h : z :: Z = xs.drop n) : rlN xs n = (if z < 0 then -(z + 1) else z) ∧ Z = xs.drop (n + 1) ∧ z ∈ xs := by
  have hl : n < xs.length := by
    rcases Nat.lt_or_ge n xs.length with h1 | h1
    · exact h1
    · rw [List.drop_eq_nil_iff.2 h1] at h; cases h
  rw [List.drop_eq_getElem_cons hl] at h
  injection h with h1 h2
  subst h1
  exact ⟨rlN_lt hl, h2, List.getElem_mem hl⟩
theorem zat_tail {w : World} {n : Nat} {g o : Nat} {z : Int} {Z : List Int} (h : ZAt w n (some ⟨g, o, none⟩) (z :: Z)) {Ad : Addr} (hA : 1 < (z :: Z).length → Ad = ⟨g, o + 1, none⟩) : ZAt w n (some Ad) Z := fun k hk => by
  obtain rfl := hA (by simp; omega)
  obtain ⟨g', o', e, h1, h2⟩ := h (k + 1) (by simp; omega)
  injection e with e
  injection e with e1 e2
  subst e1 e2
  refine ⟨g, o + 1, rfl, h1, ?_⟩
  rw [show o + 1 + k = o + (k + 1) by omega]
  simpa using h2
theorem rs_dropQ {w9 w7 : World} {g o : Nat} {L : List Rn} {K : List Nat} (h : RsAt w9 (some ⟨g, o, none⟩) (K.map (rK L))) (hg : w9.grownBy w7 none) {d : Nat} {Ad : Addr} (hA : d + 1 < K.length → Ad = ⟨g, o + (d + 1) * 5, none⟩) : RsAt w7 (some Ad) ((K.drop (d + 1)).map (rK L)) := fun k hk => by
  rw [List.length_map, List.length_drop] at hk
  obtain rfl := hA (by omega)
  obtain ⟨g', off, hp, h1, h2, h3, h4, h5, h6⟩ := h (d + 1 + k) (by rw [List.length_map]; omega)
  injection hp with hp
  injection hp with e1 e2
  subst e1 e2
  have e : ((K.drop (d + 1)).map (rK L))[k]'(by rw [List.length_map, List.length_drop]; omega) = (K.map (rK L))[d + 1 + k]'(by rw [List.length_map]; omega) := by simp
  rw [e]
  have c := fun (j : Nat) => hg.cell_far ⟨g, j, none⟩ h1 (by simp)
  have f : o + (d + 1) * 5 + k * 5 = o + (d + 1 + k) * 5 := by rw [Nat.add_mul (d + 1) k 5]; omega
  refine ⟨g, _, rfl, Nat.lt_of_lt_of_le h1 hg.size, ?_, ?_, ?_, ?_, ?_⟩
  · rw [f]; exact (c _).trans h2
  · rw [f]; exact (c _).trans h3
  · rw [f]; exact (c _).trans h4
  · rw [f]; exact (c _).trans h5
  · rw [f]; exact (c _).trans h6
theorem below_twoQ {w9 w7 w8 : World} {b : Nat} {v7 : Value} {n : Nat} {xs : List Value} (h1 : w9.grownBy w7 none) (h2 : w7.ownsRow w9.heap.size 42 5 v7 n xs) (h3 : w7.grownBy w8 v7.ownBlock) : Below w9.heap.size w9 w8 :=
  ((Below.refl w9.heap.size w9).grown h1 (Nat.le_refl _) (fun q e => by cases e)).grown h3 h1.size (fun q e => ownBlock_le h2 e)
set_option maxRecDepth 100000 in
set_option maxHeartbeats 4000000 in
theorem rorder_no (L : List Rn) (p : Option Addr) (cap : Nat) (xs : List Int) (px : Option Addr) (cx : Nat) (w : World) (hL : L.length ≤ 1048576) (hat : RsAt w p L) (hz : ∀ r ∈ L, r.o.size ≤ 1048576 ∧ r.d.size ≤ 1048576) (hn : srvB L = false) :
    Calls Tryz.prog 7 #[.slice p L.length cap, .slice px xs.length cx] w (OrX L xs w) := by
  have HE := hide' (isSet11_any L p cap 33 w hL hat (fun r hr => ⟨(hz r hr).1, by have := (hz r hr).2; omega⟩))
  rw [setT_srv, hn] at HE
  have HX : Hid (ordR L xs = [] ∧ ordC L = 8) := by
    unfold Hid ordR ordC
    rw [hn]
    exact ⟨rfl, rfl⟩
  clear hat hz hn
  go_enter Tryz.func7, Tryz.ntmps7
  go_wp2_with (go_at_call 26; refine HE.out.mono ?_; rintro e w1 ⟨rfl, hB1⟩; have HB1 := hide' hB1; clear hB1)
  go_ret2
  unfold OrX
  rw [HX.out.1, HX.out.2]
  exact ⟨none, 0, rfl, World.ownsRow_nil _ _ _ _, HB1.out⟩
set_option maxRecDepth 100000 in
set_option maxHeartbeats 4000000 in
theorem rorder_root (L : List Rn) (p : Option Addr) (cap : Nat) (xs : List Int) (px : Option Addr) (cx : Nat) (w : World) (hL : L.length ≤ 1048576) (hat : RsAt w p L) (hz : ∀ r ∈ L, r.o.size ≤ 1048576 ∧ r.d.size ≤ 1048576) (hn : srvB L = true) (hr : rootB L = true) :
    Calls Tryz.prog 7 #[.slice p L.length cap, .slice px xs.length cx] w (OrX L xs w) := by
  have HE := hide' (isSet11_any L p cap 33 w hL hat (fun r hr => ⟨(hz r hr).1, by have := (hz r hr).2; omega⟩))
  rw [setT_srv, hn] at HE
  have HX : Hid (ordR L xs = [] ∧ ordC L = 0) := by
    unfold Hid ordR ordC
    rw [hn, hr]
    exact ⟨rfl, rfl⟩
  obtain ⟨h0, hall, -⟩ := srv_facts hn
  unfold rootB at hr
  rw [Bool.and_eq_true, decide_eq_true_iff, decide_eq_true_iff, rK_get h0] at hr
  obtain ⟨h1, h2⟩ := hr
  have hone : ((L.length : Int) == 1) = true := by rw [beq_iff_eq]; omega
  have hsz : 6 ≤ L[0].d.size := (srv_name (by
      have := (ok_facts (hall _ (List.getElem_mem h0)).1).2.2.2.2.1
      rw [(hall _ (List.getElem_mem h0)).2] at this
      exact this)).2.1
  obtain ⟨g0, off, rfl, hg, f0, f1, f2, f3, f4⟩ := hat 0 h0
  rw [Nat.zero_mul, Nat.add_zero] at f4
  generalize L[0].d = xd at *
  have HF : Hid (∀ V, Below w.heap.size w V → V.cell? ⟨g0, off + 4, none⟩ = some (.string xd)) := fun V hV => (hV.cell (p := ⟨g0, off + 4, none⟩) hg).trans f4
  have hli : (0 : Int) < (L.length : Int) := by omega
  have h6i : (6 : Int) ≤ (xd.size : Int) := by omega
  clear hat hz hn hall f0 f1 f2 f3 f4 h1 h0
  go_enter Tryz.func7, Tryz.ntmps7
  go_wp2_with (go_at_call 26; refine HE.out.mono ?_; rintro e w1 ⟨rfl, hB1⟩; have HB1 := hide' hB1; have f2 := HF.out w1 hB1; clear hB1)
  go_ret2
  unfold OrX
  rw [HX.out.1, HX.out.2]
  exact ⟨none, 0, rfl, World.ownsRow_nil _ _ _ _, HB1.out⟩
def isRegN (n : Nat) : Code → Bool
  | .region k _ _ => k == n
  | _ => false
/-- what stands behind a region -/
def tailsN (n : Nat) : Code → List Code
  | .seq a b => bif isRegN n a then [b] else tailsN n a ++ tailsN n b
  | .block _ c => tailsN n c
  | .scope c => tailsN n c
  | .cond _ a b => tailsN n a ++ tailsN n b
  | .loop c => tailsN n c
  | _ => []
/-- what is known of every record -/
def Dat (L : List Rn) : Prop := ∀ {k : Nat} {xo xd : ByteArray} {xt xc xl : Int}, k < L.length → rK L k = ⟨xo, xt, xc, xl, xd⟩ → 4 ≤ xd.size ∧ pK L k = (vN (xd.extract 0 2) 2 : Nat) ∧ wK L k = (vN (xd.extract 2 4) 2 : Nat)
def Sums (L : List Rn) : Prop := ∀ (K B : List Nat), B.length ≤ 4194304 → 0 ≤ smP (wK L) K B ∧ smP (wK L) K B ≤ 274877906944

end Go.Proofs.YtelboefeomnjaaaGreat
