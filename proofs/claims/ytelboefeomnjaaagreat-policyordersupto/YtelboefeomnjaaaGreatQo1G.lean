import Derived.Test.YtelboefeomnjaaaGreatPo7G
import Derived.Test.YtelboefeomnjaaaGreatPs1G
import Derived.Test.YtelboefeomnjaaaGreatPo3G
import Derived.Test.YtelboefeomnjaaaGreatFt1G
import Derived.Test.YtelboefeomnjaaaGreatQo0G
/-
  The servers that were drawn so far, each told by its number in the set. (The verifier's own text.)
-/
namespace Go.Proofs.YtelboefeomnjaaaGreat
set_option linter.unusedVariables false
set_option linter.unusedSimpArgs false
open Go.RowKit Go.Shelf Go.Maps Go.Proofs.YtelboefeomnjaaaGreat.Nm Go.Proofs.YtelboefeomnjaaaGreat.Zs

/-- of the record of a number: its first number, its second one, itself -/
def pK (L : List Rn) (k : Nat) : Int := (eAt (L.map enO) k).f
def wK (L : List Rn) (k : Nat) : Int := (eAt (L.map enO) k).s
def rK (L : List Rn) (k : Nat) : Rn := (eAt (L.map enO) k).r
theorem rK_get {L : List Rn} {k : Nat} (h : k < L.length) : rK L k = L[k] := by
  unfold rK
  rw [← eAt_get (by rw [List.length_map]; exact h), List.getElem_map]
  rfl
theorem pK_get {L : List Rn} {k : Nat} (h : k < L.length) : pK L k = (vN (L[k].d.extract 0 2) 2 : Nat) := by
  unfold pK
  rw [← eAt_get (by rw [List.length_map]; exact h), List.getElem_map]
  rfl
theorem wK_get {L : List Rn} {k : Nat} (h : k < L.length) : wK L k = (vN (L[k].d.extract 2 4) 2 : Nat) := by
  unfold wK
  rw [← eAt_get (by rw [List.length_map]; exact h), List.getElem_map]
  rfl
theorem vN2_le' (s : ByteArray) : vN s 2 ≤ 65535 := by
  have := vN_lt s 2
  omega
theorem wK_ok (L : List Rn) (k : Nat) : 0 ≤ wK L k ∧ wK L k ≤ 65535 := by
  by_cases h : k < L.length
  · rw [wK_get h]
    have := vN2_le' (L[k].d.extract 2 4)
    omega
  · unfold wK eAt
    rw [List.getD_eq_getElem?_getD, List.getElem?_eq_none (by rw [List.length_map]; omega)]
    decide
theorem pK_ok (L : List Rn) (k : Nat) : 0 ≤ pK L k ∧ pK L k < 65536 := by
  by_cases h : k < L.length
  · rw [pK_get h]
    have := vN2_le' (L[k].d.extract 0 2)
    omega
  · unfold pK eAt
    rw [List.getD_eq_getElem?_getD, List.getElem?_eq_none (by rw [List.length_map]; omega)]
    decide
theorem run_app {P : Nat → Int} {F : Int} : ∀ {X R : List Nat}, (∀ x ∈ X, P x = F) → (∀ x ∈ R.head?, P x ≠ F) → runM P F (X ++ R) = X
  | [], [], _, _ => rfl
  | [], y :: R, _, h => by
    unfold runM
    rw [List.nil_append, List.takeWhile_cons, if_neg (by simpa using h y rfl)]
  | x :: X, R, h, k => by
    unfold runM
    rw [List.cons_append, List.takeWhile_cons, if_pos (by simpa using h x List.mem_cons_self)]
    congr 1
    exact run_app (fun y hy => h y (List.mem_cons_of_mem _ hy)) k
/-- one is drawn -/
theorem ord_step {P W : Nat → Int} {Q : Nat → Int} (hw : ∀ k, 0 ≤ W k) {F : Int} {X R : List Nat} {t : Nat} (h0 : X ≠ []) (hX : ∀ x ∈ X, P x = F) (hR : ∀ x ∈ R.head?, P x ≠ F) :
    ordM P W Q (X ++ R).length t (X ++ R) = drawn W (Q t) X :: ordM P W Q (X.erase (drawn W (Q t) X) ++ R).length (t + 1) (X.erase (drawn W (Q t) X) ++ R) := by
  have hm := drawn_mem hw (Q t) h0
  have hr := run_app hX hR
  match X, h0 with
  | x :: X, _ =>
    have hl : ((x :: X).erase (drawn W (Q t) (x :: X)) ++ R).length = (X ++ R).length := by
      rw [List.length_append, List.length_append, List.length_erase_of_mem hm, List.length_cons]
      omega
    have hx : P x = F := hX x List.mem_cons_self
    rw [hl, List.cons_append, List.length_cons]
    rw [List.cons_append] at hr
    conv => lhs; unfold ordM
    rw [hx, hr, ← List.cons_append, List.erase_append_left _ hm]
theorem erase_ix : ∀ (X : List Nat) (i : Nat) (hi : i < X.length), X.Nodup → X.erase X[i] = X.eraseIdx i
  | [], i, h, _ => by simp at h
  | x :: X, 0, _, _ => by simp
  | x :: X, i + 1, h, hn => by
    rw [List.nodup_cons] at hn
    have hi : i < X.length := by simpa using h
    have hne : ¬ x = X[i] := fun e => hn.1 (by rw [e]; exact List.getElem_mem hi)
    rw [List.getElem_cons_succ, List.erase_cons_tail (by simpa using hne), List.eraseIdx_cons_succ, erase_ix X i hi hn.2]
/-- what is drawn so far -/
structure Ox (w : World) (b g : Nat) (L : List Rn) (xs : List Int) (T : List Nat) (p e : Nat) (X R : List Nat) (O : List Nat) (ov : Value) (wr : World) : Prop where
  eb : ∃ A Y, Eb wr g (A ++ X.map (eAt (L.map enO)) ++ (Y ++ R.map (eAt (L.map enO)))) ∧ A.length = p ∧ p + X.length + Y.length = e
  en : e + R.length = L.length
  ln : O.length + (X ++ R).length = L.length
  ow : wr.ownsRow b 42 5 ov O.length (rce5 (O.map (rK L)))
  od : O ++ ordM (pK L) (wK L) (rlN xs) (X ++ R).length O.length (X ++ R) = T
  fx : ∃ F, (∀ x ∈ X, pK L x = F) ∧ ∀ x ∈ R.head?, pK L x ≠ F
  nd : (X ++ R).Nodup
  bl : Below w.heap.size w wr
  gb : w.heap.size ≤ g ∧ g < b ∧ b ≤ wr.heap.size
section
variable {w wr w2 : World} {b g p e : Nat} {L : List Rn} {xs : List Int} {T X R O : List Nat} {ov : Value}
theorem Ox.below (h : Ox w b g L xs T p e X R O ov wr) (hb : Below wr.heap.size wr w2) : Ox w b g L xs T p e X R O ov w2 := by
  obtain ⟨A, Y, h1, h2, h3⟩ := h.eb
  exact ⟨⟨A, Y, h1.below hb h1.lt, h2, h3⟩, h.en, h.ln, ownsRow_below h.ow hb, h.od, h.fx, h.nd, bstep h.bl hb h.bl.size, ⟨h.gb.1, h.gb.2.1, Nat.le_trans h.gb.2.2 hb.size⟩⟩
theorem Ox.part (h : Ox w b g L xs T p e X R O ov wr) : EsAt wr g (p * 7) (X.map (eAt (L.map enO))) := by
  obtain ⟨A, Y, h1, rfl, h3⟩ := h.eb
  exact h1.part
theorem ent_weights (L : List Rn) (X : List Nat) : ∀ x ∈ X.map (eAt (L.map enO)), 0 ≤ x.s ∧ x.s ≤ 65535 := fun x hx => by
  obtain ⟨k, _, rfl⟩ := List.mem_map.1 hx
  exact wK_ok L k
theorem map_eraseIdx' {α β : Type} (f : α → β) (l : List α) (i : Nat) : (l.eraseIdx i).map f = (l.map f).eraseIdx i := by
  rw [List.eraseIdx_eq_take_drop_succ, List.eraseIdx_eq_take_drop_succ, List.map_append, List.map_take, List.map_drop]
/-- one is drawn: it is behind the others, and is taken away -/
theorem Ox.next (h : Ox w b g L xs T p e X R O ov wr) {i : Nat} (hi : i < X.length) (hd : ix X i = drawn (wK L) (rlN xs O.length) X) {w3 : World} {v' : Value} (ho : w2.ownsRow b 42 5 v' (O.length + 1) (rce5 (O.map (rK L)) ++ rce5 [rK L (ix X i)])) (hb2 : b ≤ w2.heap.size)
    (hbl : Below w.heap.size w w2) (A Y : List Et) (hA : A.length = p) (hY : p + X.length + Y.length = e) (he : Eb w3 g (A ++ ((X.map (eAt (L.map enO))).eraseIdx i ++ [zE]) ++ (Y ++ R.map (eAt (L.map enO))))) (hg : w2.grownBy w3 (some g)) : Ox w b g L xs T p e (X.eraseIdx i) R (O ++ [ix X i]) v' w3 := by
  obtain ⟨F, f1, f2⟩ := h.fx
  have hx0 : X ≠ [] := fun e => by subst e; simp at hi
  have hnX : X.Nodup := h.nd.sublist (List.sublist_append_left X R)
  have her : X.erase (ix X i) = X.eraseIdx i := by rw [← ix_get hi]; exact erase_ix X i hi hnX
  refine ⟨⟨A, zE :: Y, ?_, hA, ?_⟩, h.en, ?_, ?_, ?_, ⟨F, fun x hx => f1 x (List.mem_of_mem_eraseIdx hx), f2⟩, ?_, ?_, h.gb.1, h.gb.2.1, Nat.le_trans hb2 hg.size⟩
  · have e1 : A ++ ((X.map (eAt (L.map enO))).eraseIdx i ++ [zE]) ++ (Y ++ R.map (eAt (L.map enO))) = A ++ (X.eraseIdx i).map (eAt (L.map enO)) ++ (zE :: Y ++ R.map (eAt (L.map enO))) := by rw [map_eraseIdx']; simp
    rw [← e1]
    exact he
  · rw [List.length_eraseIdx, if_pos hi, List.length_cons]; omega
  · have := h.ln
    rw [List.length_append] at this ⊢
    rw [List.length_append, List.length_eraseIdx, if_pos hi, List.length_singleton]
    omega
  · have := ho.kept hg (by
      cases hq : v'.ownBlock with
      | none => exact .inl rfl
      | some q => exact .inr (fun e => by injection e with e; have := ownBlock_le ho hq; have := h.gb.2.1; omega))
    rw [List.length_append, List.map_append, rce5_app]
    exact this
  · rw [← h.od, ord_step (fun k => (wK_ok L k).1) hx0 f1 f2, ← hd, her, show (O ++ [ix X i]).length = O.length + 1 by simp, List.append_assoc]
    rfl
  · exact h.nd.sublist (List.Sublist.append (List.eraseIdx_sublist _ _) (List.Sublist.refl _))
  · exact hbl.grown hg hbl.size (fun q hq => by injection hq with hq; have := h.gb.1; omega)
/-- those of the next priority -/
theorem Ox.outer (h : Ox w b g L xs T p p [] R O ov wr) {m : Nat} (hm : RunE (R.map (eAt (L.map enO))) m) : Ox w b g L xs T p (p + m) (R.take m) (R.drop m) O ov wr := by
  have hl : (R.map (eAt (L.map enO))).length = R.length := List.length_map _
  have hle : m ≤ R.length := by have := hm.le; omega
  refine ⟨?_, ?_, ?_, h.ow, ?_, ?_, ?_, h.bl, h.gb⟩
  · obtain ⟨A, Y, h1, h2, h3⟩ := h.eb
    obtain rfl : Y = [] := List.eq_nil_of_length_eq_zero (by have := List.length_nil (α := Nat); omega)
    refine ⟨A, [], ?_, h2, by rw [List.length_take]; simp; omega⟩
    have e1 : A ++ (R.take m).map (eAt (L.map enO)) ++ ([] ++ (R.drop m).map (eAt (L.map enO))) = A ++ [].map (eAt (L.map enO)) ++ ([] ++ R.map (eAt (L.map enO))) := by
      rw [List.map_nil, List.append_nil, List.nil_append, List.nil_append, List.append_assoc, ← List.map_append, List.take_append_drop]
    rw [e1]
    exact h1
  · have := h.en
    rw [List.length_drop]; omega
  · rw [List.take_append_drop]; exact h.ln
  · rw [List.take_append_drop]; exact h.od
  · rcases Nat.eq_zero_or_pos R.length with h0 | h0
    · obtain rfl := List.eq_nil_of_length_eq_zero h0
      exact ⟨0, fun x hx => by simp at hx, fun x hx => by simp at hx⟩
    · refine ⟨pK L (R[0]'h0), fun x hx => ?_, fun x hx => ?_⟩
      · obtain ⟨k, hk, rfl⟩ := List.getElem_of_mem hx
        rw [List.length_take] at hk
        have := hm.all k (by omega) (by omega)
        rw [List.getElem_map, List.getElem_map] at this
        rw [List.getElem_take]
        exact this
      · rw [List.head?_drop, Option.mem_def] at hx
        obtain ⟨hlt, rfl⟩ := List.getElem?_eq_some_iff.1 hx
        have := hm.last (by omega)
        rw [List.getElem_map, List.getElem_map] at this
        exact this
  · rw [List.take_append_drop]; exact h.nd
theorem Ox.close (h : Ox w b g L xs T p e [] R O ov wr) : Ox w b g L xs T e e [] R O ov wr := by
  obtain ⟨A, Y, h1, h2, h3⟩ := h.eb
  refine ⟨⟨A ++ Y, [], ?_, ?_, ?_⟩, h.en, h.ln, h.ow, h.od, h.fx, h.nd, h.bl, h.gb⟩
  · have e1 : A ++ Y ++ [].map (eAt (L.map enO)) ++ ([] ++ R.map (eAt (L.map enO))) = A ++ [].map (eAt (L.map enO)) ++ (Y ++ R.map (eAt (L.map enO))) := by simp
    rw [e1]; exact h1
  · rw [List.length_append]; simp at h3; omega
  · simp
theorem Ox.rest (h : Ox w b g L xs T p p [] R O ov wr) : EsAt wr g (p * 7) (R.map (eAt (L.map enO))) := by
  obtain ⟨A, Y, h1, h2, h3⟩ := h.eb
  obtain rfl : Y = [] := List.eq_nil_of_length_eq_zero (by have := List.length_nil (α := Nat); omega)
  rw [← h2]
  refine Eb.part (Z := []) ?_
  have e1 : A ++ R.map (eAt (L.map enO)) ++ [] = A ++ [].map (eAt (L.map enO)) ++ ([] ++ R.map (eAt (L.map enO))) := by simp
  rw [e1]; exact h1
theorem Ox.done (h : Ox w b g L xs T p p [] [] O ov wr) : O = T := by
  have := h.od
  simpa [ordM] using this
end
end Go.Proofs.YtelboefeomnjaaaGreat

/-
  Rewritings that count: what the program and the reference do, plainly. (The verifier's own text.)
-/
namespace Go.Proofs.YtelboefeomnjaaaGreat
set_option linter.unusedVariables false
set_option linter.unusedSimpArgs false
open Go.RowKit Go.Shelf Go.Maps Go.Proofs.YtelboefeomnjaaaGreat.Nm Go.Proofs.YtelboefeomnjaaaGreat.Zs

/-- those that Rewrites looks at -/
def keptE (L : List Rn) (sv : ByteArray) : List Et := if sv.size = 0 then L.map enO else kpE sv (L.map enO)
/-- where a new one goes: from the end, ahead of all that are greater -/
def backK (s : Int) (o : List Et) : Nat → Nat
  | 0 => 0
  | k + 1 => if s < (eAt o k).s then backK s o k else k + 1
theorem backK_le (s : Int) (o : List Et) : ∀ k, backK s o k ≤ k
  | 0 => Nat.le_refl _
  | k + 1 => by
    unfold backK
    split
    · exact Nat.le_succ_of_le (backK_le s o k)
    · exact Nat.le_refl _
def insE (e : Et) (o : List Et) : List Et := o.take (backK e.s o o.length) ++ e :: o.drop (backK e.s o o.length)
theorem insE_len (e : Et) (o : List Et) : (insE e o).length = o.length + 1 := by
  unfold insE
  have := backK_le e.s o o.length
  rw [List.length_append, List.length_cons, List.length_take, List.length_drop]
  omega
theorem insE_nil (e : Et) : insE e [] = [e] := rfl
/-- one by one: those of the least order so far -/
def rwE : Int → List Et → List Et → List Et
  | _, o, [] => o
  | m, o, x :: K => if x.f < m then rwE x.f (insE x []) K else if m < x.f then rwE m o K else rwE m (insE x o) K
theorem eAt_app {A C : List Et} {k : Nat} (h : k < A.length) : eAt (A ++ C) k = A[k] := by
  rw [← eAt_get (by rw [List.length_append]; omega), List.getElem_append_left h]
theorem eAt_app2 {A C : List Et} {k : Nat} (h : k < C.length) : eAt (A ++ C) (A.length + k) = C[k] := by
  rw [← eAt_get (by rw [List.length_append]; omega), List.getElem_append_right (by omega)]
  simp
theorem back_app {s : Int} {A C : List Et} (hA : ∀ a ∈ A, a.s ≤ s) (hC : ∀ c ∈ C, s < c.s) : ∀ j, j ≤ C.length → backK s (A ++ C) (A.length + j) = A.length
  | 0, _ => by
    rw [Nat.add_zero]
    rcases hn : A.length with _ | n
    · rfl
    · unfold backK
      rw [eAt_app (by omega), if_neg (by have := hA _ (List.getElem_mem (by omega : n < A.length)); omega)]
  | j + 1, h => by
    rw [← Nat.add_assoc]
    unfold backK
    rw [eAt_app2 (by omega), if_pos (hC _ (List.getElem_mem _))]
    exact back_app hA hC j (by omega)
theorem insE_app {e : Et} {A C : List Et} (hA : ∀ a ∈ A, a.s ≤ e.s) (hC : ∀ c ∈ C, e.s < c.s) : insE e (A ++ C) = A ++ e :: C := by
  unfold insE
  rw [List.length_append, back_app hA hC C.length (Nat.le_refl _), List.take_left' rfl, List.drop_left' rfl]
theorem put1_app {lt : Nat → Nat → Bool} {x : Nat} {C : List Nat} (hC : ∀ c ∈ C, lt x c = true) : ∀ {A : List Nat}, (∀ a ∈ A, lt x a = false) → put1 lt x (A ++ C) = A ++ x :: C
  | [], _ => by
    cases C with
    | nil => rfl
    | cons c C => rw [List.nil_append, List.nil_append]; unfold put1; rw [if_pos (hC c List.mem_cons_self)]
  | a :: A, h => by
    rw [List.cons_append, List.cons_append]
    unfold put1
    rw [if_neg (by rw [h a List.mem_cons_self]; decide), put1_app hC (fun b hb => h b (List.mem_cons_of_mem _ hb))]
/-- what holds of those so far -/
structure RwS (B : List Et) (m : Int) (o : List Nat) : Prop where
  f : ∀ y ∈ o, (eAt B y).f = m
  s : o.Pairwise fun x y => (eAt B x).s ≤ (eAt B y).s
theorem RwS.split {B : List Et} {m : Int} : ∀ {o : List Nat}, RwS B m o → ∀ s : Int, ∃ A C, o = A ++ C ∧ (∀ a ∈ A, (eAt B a).s ≤ s) ∧ ∀ c ∈ C, s < (eAt B c).s
  | [], _, s => ⟨[], [], rfl, (fun a h => by cases h), (fun a h => by cases h)⟩
  | x :: o, h, s => by
    have hs := List.pairwise_cons.1 h.s
    by_cases hx : (eAt B x).s ≤ s
    · obtain ⟨A, C, h1, h2, h3⟩ := RwS.split (o := o) ⟨fun y hy => h.f y (List.mem_cons_of_mem _ hy), hs.2⟩ s
      subst h1
      refine ⟨x :: A, C, rfl, fun a ha => ?_, h3⟩
      rcases List.mem_cons.1 ha with e | e
      · rw [e]; exact hx
      · exact h2 a e
    · refine ⟨[], x :: o, rfl, (fun a h => by cases h), fun c hc => ?_⟩
      rcases List.mem_cons.1 hc with e | e
      · rw [e]; omega
      · have := hs.1 c e; omega
theorem RwS.ins {B : List Et} {m : Int} {o : List Nat} (h : RwS B m o) {x : Nat} (hx : (eAt B x).f = m) : insE (eAt B x) (o.map (eAt B)) = (put1 (ltF B) x o).map (eAt B) ∧ RwS B m (put1 (ltF B) x o) := by
  obtain ⟨A, C, h1, h2, h3⟩ := h.split (eAt B x).s
  subst h1
  have S := srF B
  have e1 : put1 (ltF B) x (A ++ C) = A ++ x :: C := put1_app (fun c hc => (S x c).2 (Or.inr ⟨hx.trans (h.f c (List.mem_append_right _ hc)).symm, h3 c hc⟩)) (fun a ha => S.no.2 (Or.inr ⟨hx.trans (h.f a (List.mem_append_left _ ha)).symm, h2 a ha⟩))
  rw [e1]
  refine ⟨?_, fun y hy => ?_, ?_⟩
  · rw [List.map_append, insE_app, List.map_append, List.map_cons]
    · intro a ha; obtain ⟨k, hk, rfl⟩ := List.mem_map.1 ha; exact h2 k hk
    · intro a ha; obtain ⟨k, hk, rfl⟩ := List.mem_map.1 ha; exact h3 k hk
  · rcases List.mem_append.1 hy with e | e
    · exact h.f y (List.mem_append_left _ e)
    · rcases List.mem_cons.1 e with e | e
      · rw [e]; exact hx
      · exact h.f y (List.mem_append_right _ e)
  · have hp := List.pairwise_append.1 h.s
    rw [List.pairwise_append, List.pairwise_cons]
    refine ⟨hp.1, ⟨fun c hc => by have := h3 c hc; omega, hp.2.1⟩, fun a ha c hc => ?_⟩
    rcases List.mem_cons.1 hc with e | e
    · rw [e]; exact h2 a ha
    · exact hp.2.2 a ha c e
theorem rwE_K (B : List Et) : ∀ (K : List Nat) (m : Int) (o : List Nat), RwS B m o → rwE m (o.map (eAt B)) (K.map (eAt B)) = (rwK (ltF B) (fun k => (eAt B k).f) m o K).map (eAt B)
  | [], m, o, _ => rfl
  | x :: K, m, o, h => by
    rw [List.map_cons]
    unfold rwE rwK
    by_cases e1 : (eAt B x).f < m
    · rw [if_pos e1, if_pos e1]
      exact rwE_K B K _ [x] ⟨fun y hy => by rw [List.mem_singleton.1 hy], List.pairwise_singleton _ _⟩
    · rw [if_neg e1, if_neg e1]
      by_cases e2 : m < (eAt B x).f
      · rw [if_pos e2, if_pos e2]
        exact rwE_K B K m o h
      · rw [if_neg e2, if_neg e2]
        obtain ⟨h1, h2⟩ := h.ins (x := x) (by omega)
        rw [h1]
        exact rwE_K B K m _ h2
/-- those at the beginning of the sorted row, by number -/
def rewN (B : List Et) : List Nat → List Nat
  | [] => []
  | x :: M => runM (fun k => (eAt B k).f) ((fun k => (eAt B k).f) x) (x :: M)
def rewT (B : List Et) : List Nat := rewN B (put (ltF B) B.length)
theorem rw_same (B : List Et) (hf : ∀ k, (eAt B k).f < 65536) : rwE 65536 [] B = (rewT B).map (eAt B) := by
  have h1 := rwE_K B (List.range B.length) 65536 [] ⟨(fun y hy => by cases hy), List.Pairwise.nil⟩
  rw [range_eAt, List.map_nil] at h1
  rw [h1]
  congr 1
  unfold rewT
  have hp := put_perm (lt := ltF B) B.length
  have hs := put_fi (srF B).ord B.length
  cases hM : put (ltF B) B.length with
  | nil =>
    rw [hM] at hp
    rw [← hp.nil_eq]
    rfl
  | cons x M =>
    rw [hM] at hp hs
    exact (rw_both (srF B) hf List.pairwise_lt_range hp hs).symm
/-- what run gives of the sorted row -/
theorem run_rew {B : List Et} {M : List Nat} {e : Nat} (h : RunE (M.map (eAt B)) e) : (M.map (eAt B)).take e = (rewN B M).map (eAt B) ∧ (rewN B M).length = e := by
  have hle : e ≤ M.length := by have := h.le; rw [List.length_map] at this; exact this
  have hr : rewN B M = M.take e := by
    cases M with
    | nil => simp [rewN]
    | cons x M =>
      have h0 : 0 < ((x :: M).map (eAt B)).length := by simp
      have := h.pos h0
      show runM (fun k => (eAt B k).f) ((eAt B x).f) (x :: M) = _
      conv => lhs; arg 3; rw [← List.take_append_drop e (x :: M)]
      refine run_app (fun y hy => ?_) (fun y hy => ?_)
      · obtain ⟨k, hk, rfl⟩ := List.getElem_of_mem hy
        rw [List.length_take] at hk
        have := h.all k (by rw [List.length_map]; omega) (by omega)
        rw [List.getElem_map, List.getElem_map] at this
        rw [List.getElem_take]
        exact this
      · rw [List.head?_drop, Option.mem_def] at hy
        obtain ⟨hlt, rfl⟩ := List.getElem?_eq_some_iff.1 hy
        have := h.last (by rw [List.length_map]; exact hlt)
        rw [List.getElem_map, List.getElem_map] at this
        exact this
  rw [hr, List.map_take]
  exact ⟨rfl, by rw [List.length_take]; omega⟩
/-- what Rewrites answers -/
def rewR (L : List Rn) (service : ByteArray) : List Rn := if napB L then ((rewT (keptE L (lowB service))).map (eAt (keptE L (lowB service)))).map (·.r) else []
def rewC (L : List Rn) : Int := if napB L then 0 else 8
/-- how Rewrites ends -/
def RwX (L : List Rn) (service : ByteArray) (w : World) (r : Ending) (w' : World) : Prop := ∃ (q : Option Addr) (c : Nat), r = .returned (.tuple #[.slice q (rewR L service).length c, .int .i64 (rewC L)]) ∧ w'.ownsRow w.heap.size 42 5 (.slice q (rewR L service).length c) (rewR L service).length (rce5 (rewR L service)) ∧ Below w.heap.size w w'
end Go.Proofs.YtelboefeomnjaaaGreat

/-
  Proofs: policy.Order, told to the letter. (The verifier's own text; mkqo2.py.)
-/
namespace Go.Proofs.YtelboefeomnjaaaGreat
set_option linter.unusedVariables false
set_option linter.unusedSimpArgs false
open Go.RowKit Go.Shelf Go.Maps Go.Proofs.YtelboefeomnjaaaGreat.Nm Go.Proofs.YtelboefeomnjaaaGreat.Zs

/-- one server alone that is none -/
def rootB (L : List Rn) : Bool := decide (L.length = 1) && decide ((rK L 0).d.extract 6 (rK L 0).d.size = ⟨#[0]⟩)
/-- who is tried, by number -/
def ordT (L : List Rn) (xs : List Int) : List Nat := ordM (pK L) (wK L) (rlN xs) L.length 0 (put (ltE (L.map enO)) L.length)
def ordR (L : List Rn) (xs : List Int) : List Rn := if srvB L && !rootB L then (ordT L xs).map (rK L) else []
def ordC (L : List Rn) : Int := if srvB L then 0 else 8
/-- how Order ends -/
def OrX (L : List Rn) (xs : List Int) (w : World) (r : Ending) (w' : World) : Prop := ∃ (q : Option Addr) (c : Nat), r = .returned (.tuple #[.slice q (ordR L xs).length c, .int .i64 (ordC L)]) ∧ w'.ownsRow w.heap.size 42 5 (.slice q (ordR L xs).length c) (ordR L xs).length (rce5 (ordR L xs)) ∧ Below w.heap.size w w'
def lnQ : Value → Nat
  | .slice _ n _ => n
  | _ => 0
theorem own_baseQ {w : World} {b b' e sz n : Nat} {v : Value} {xs : List Value} (h : w.ownsRow b e sz v n xs) (hb : b' ≤ b) : w.ownsRow b' e sz v n xs := by
  obtain ⟨hl, (⟨h1, h0⟩ | ⟨g, cap, cur, h1, h2, h3⟩)⟩ := h
  · exact ⟨hl, Or.inl ⟨h1, h0⟩⟩
  · exact ⟨hl, Or.inr ⟨g, cap, cur, h1, Nat.le_trans hb h2, h3⟩⟩
theorem zat_belQ {w w' : World} {p : Option Addr} {L : List Int} (h : ZAt w w.heap.size p L) (hb : Below w.heap.size w w') : ZAt w' w'.heap.size p L := fun k hk => by
  obtain ⟨g, off, h1, h2, h3⟩ := h k hk
  exact ⟨g, off, h1, Nat.lt_of_lt_of_le h2 hb.size, by rw [hb.cell (p := ⟨g, off + k, none⟩) h2]; exact h3⟩
theorem wrap_succQ {i : Nat} (h : i ≤ 1048576) : IntKind.i64.wrap ((i : Int) + 1) = (i : Int) + 1 := by rw [IntKind.wrap_i64]; omega
theorem alloc_belQ {w wb : World} {o : Obj} (h : w.alloc o = wb) : Below w.heap.size w wb := by rw [← h]; exact (Below.refl _ w).alloc (Nat.le_refl _) _
theorem rs_newQ {w wb : World} {xo xd : ByteArray} {xt xc xl : Int} (h : w.alloc (.cells #[.string xo, .int .i64 xt, .int .i64 xc, .int .i64 xl, .string xd] 42) = wb) : RsAt wb (some ⟨w.heap.size, 0, none⟩) [⟨xo, xt, xc, xl, xd⟩] := by
  subst h
  have hx : Bx (w.alloc (.cells #[.string xo, .int .i64 xt, .int .i64 xc, .int .i64 xl, .string xd] 42)) w.heap.size #[.string xo, .int .i64 xt, .int .i64 xc, .int .i64 xl, .string xd] 42 := World.alloc_heap_new w _
  intro k hk
  obtain rfl : k = 0 := by simp at hk; exact hk
  exact ⟨_, 0, rfl, hx.lt, hx.cell rfl, hx.cell rfl, hx.cell rfl, hx.cell rfl, hx.cell rfl⟩
theorem put_len (lt : Nat → Nat → Bool) (n : Nat) : (put lt n).length = n := by rw [(put_perm n).length_eq, List.length_range]
section
variable {w wr : World} {b g p e : Nat} {L : List Rn} {xs : List Int} {T X R O : List Nat} {ov : Value}
theorem Ox.rec5 (h : Ox w b g L xs T p e X R O ov wr) {i : Nat} (hi : i < X.length) : ∃ xo xt xc xl xd, rK L (ix X i) = ⟨xo, xt, xc, xl, xd⟩ ∧ wr.cell? ⟨g, p * 7 + i * 7 + 2, none⟩ = some (.string xo) ∧ wr.cell? ⟨g, p * 7 + i * 7 + 3, none⟩ = some (.int .i64 xt) ∧ wr.cell? ⟨g, p * 7 + i * 7 + 4, none⟩ = some (.int .i64 xc) ∧ wr.cell? ⟨g, p * 7 + i * 7 + 5, none⟩ = some (.int .i64 xl) ∧ wr.cell? ⟨g, p * 7 + i * 7 + 6, none⟩ = some (.string xd) := by
  have := h.part.2 i (by rw [List.length_map]; exact hi)
  rw [List.getElem_map, ix_get hi] at this
  exact ⟨_, _, _, _, _, rfl, this.2.2.1, this.2.2.2.1, this.2.2.2.2.1, this.2.2.2.2.2.1, this.2.2.2.2.2.2⟩
theorem Ox.draw (h : Ox w b g L xs T p e X R O ov wr) (hxs : ∀ x ∈ xs, -9223372036854775808 ≤ x ∧ x ≤ 9223372036854775807) (h0 : 0 < X.length) (hX : X.length ≤ 1048576) {c : Nat} :
    Calls Tryz.prog 23 #[.slice (some ⟨g, p * 7, none⟩) X.length c, .int .i64 (rlN xs O.length)] wr fun r w' => (∃ i : Nat, r = .returned (.int .i64 (i : Int)) ∧ i < X.length ∧ ix X i = drawn (wK L) (rlN xs O.length) X) ∧ Below wr.heap.size wr w' := by
  have := draw_at g (p * 7) c (X.map (eAt (L.map enO))) (rlN xs O.length) wr h.part (by rw [List.length_map]; exact h0) (by rw [List.length_map]; exact hX) (ent_weights L X) (rlN_ok hxs _)
  rw [List.length_map] at this
  refine this.mono ?_
  rintro r w' ⟨⟨i, rfl, hi, hd⟩, hb⟩
  refine ⟨⟨i, rfl, hi, ?_⟩, hb⟩
  exact Dr.is (E := L.map enO) (fun k => (wK_ok L k).1) hi (by rw [List.length_map]; exact hd)
/-- what is behind the append, and behind what is deleted then -/
theorem Ox.append9 {wb w9 : World} {Y P : List Nat} {pq : Option Addr} {pc : Nat} {v9 : Value} (h : Ox w b g L xs T p e Y R P (.slice pq P.length pc) wb) {i : Nat} (hi : i < Y.length) {x : Rn} (hx : rK L (ix Y i) = x) (hd : ix Y i = drawn (wK L) (rlN xs P.length) Y) (ho : w9.ownsRow b 42 5 v9 (P.length + [x].length) (rce5 (P.map (rK L)) ++ rce5 [x])) (hg : wb.grownBy w9 (Value.slice pq P.length pc).ownBlock) :
    ∃ q9 c9, v9 = .slice q9 (P.length + 1) c9 ∧ ∃ A Z, A.length = p ∧ Eb w9 g (A ++ Y.map (eAt (L.map enO)) ++ (Z ++ R.map (eAt (L.map enO)))) ∧ ∀ w10, Eb w10 g (A ++ ((Y.map (eAt (L.map enO))).eraseIdx i ++ [zE]) ++ (Z ++ R.map (eAt (L.map enO)))) → w9.grownBy w10 (some g) → (Y.eraseIdx i).length = Y.length - 1 ∧ Ox w b g L xs T p e (Y.eraseIdx i) R (P ++ [ix Y i]) (.slice q9 (P ++ [ix Y i]).length c9) w10 := by
  subst hx
  have ho' : w9.ownsRow b 42 5 v9 (P.length + 1) (rce5 (P.map (rK L)) ++ rce5 [rK L (ix Y i)]) := ho
  obtain ⟨q9, c9, hv, _⟩ := own_shape ho'
  subst hv
  obtain ⟨A, Z, h1, h2, h3⟩ := h.eb
  have hob : ∀ q, (Value.slice pq P.length pc).ownBlock = some q → b ≤ q := fun q hq => ownBlock_le h.ow hq
  refine ⟨q9, c9, rfl, A, Z, h2, Bx.grown h1 hg (fun q => by have := hob _ q; have := h.gb.2.1; omega), fun w10 h4 h5 => ⟨by rw [List.length_eraseIdx, if_pos hi], ?_⟩⟩
  have := h.next hi hd ho' (Nat.le_trans h.gb.2.2 hg.size) (h.bl.grown hg h.bl.size (fun k e => by have := hob k e; have := h.gb; omega)) A Z h2 h3 h4 h5
  rw [List.length_append]
  exact this
end
set_option maxRecDepth 100000 in
set_option maxHeartbeats 4000000 in
theorem orderX_no (L : List Rn) (p : Option Addr) (cap : Nat) (xs : List Int) (px : Option Addr) (cx : Nat) (w : World) (hL : L.length ≤ 1048576) (hat : RsAt w p L) (hz : ∀ r ∈ L, r.o.size ≤ maxLen ∧ r.d.size ≤ 9223372036854775807) (hn : srvB L = false) :
    Calls Tryz.prog 6 #[.slice p L.length cap, .slice px xs.length cx] w (OrX L xs w) := by
  have HE := hide' (entriesOf_no L p cap w hL hat hz hn)
  have HX : Hid (ordR L xs = [] ∧ ordC L = 8) := by
    unfold Hid ordR ordC
    rw [hn]
    exact ⟨rfl, rfl⟩
  clear hat hz hn
  go_enter Tryz.func6, Tryz.ntmps6
  go_wp2_with (go_at_call 18; refine HE.out.mono ?_; rintro e w1 ⟨rfl, hB1⟩; have HB1 := hide' hB1; clear hB1)
  go_ret2
  unfold OrX
  rw [HX.out.1, HX.out.2]
  exact ⟨none, 0, rfl, World.ownsRow_nil _ _ _ _, HB1.out⟩
set_option maxRecDepth 100000 in
set_option maxHeartbeats 8000000 in
theorem orderX_yes (L : List Rn) (p : Option Addr) (cap : Nat) (xs : List Int) (px : Option Addr) (cx : Nat) (w : World) (hL : L.length ≤ 1048576) (hat : RsAt w p L) (hz : ∀ r ∈ L, r.o.size ≤ 1048576 ∧ r.d.size ≤ 1048576) (hs : srvB L = true) (hzx : ZAt w w.heap.size px xs) (hxl0 : xs.length ≤ 1048576) (hxb : ∀ x ∈ xs, -9223372036854775808 ≤ x ∧ x ≤ 9223372036854775807) :
    Calls Tryz.prog 6 #[.slice p L.length cap, .slice px xs.length cx] w (OrX L xs w) := by
  have HE := hide' (entriesOf_yes L p cap w hL hat (fun r hr => ⟨by have := (hz r hr).1; unfold maxLen; omega, by have := (hz r hr).2; omega⟩) hs)
  have HSo : Hid (∀ (g : Nat) (V : World), Eb V g (L.map enO) → Calls Tryz.prog 20 #[.slice (some ⟨g, 0, none⟩) L.length L.length, cmf] V fun r w' => r = .returned (.tuple #[]) ∧ Eb w' g ((put (ltE (L.map enO)) L.length).map (eAt (L.map enO))) ∧ V.grownBy w' (some g)) := fun g V h => by
    have := sortS_any (L.map enO) g L.length V h (by rw [List.length_map]; exact hL)
    rw [List.length_map] at this
    exact this
  have HZX := hide' hzx
  have HXB := hide' hxb
  have HPL := hide' (put_len (ltE (L.map enO)) L.length)
  obtain ⟨h0, hall, -⟩ := srv_facts hs
  have hOE : ordC L = 0 := by unfold ordC; rw [hs]; rfl
  have HRo0 : Hid (rootB L = true → ordR L xs = []) := fun h => by unfold ordR; rw [h]; simp
  have HRo1 : Hid (rootB L = false → ordR L xs = (ordT L xs).map (rK L)) := fun h => by unfold ordR; rw [h, hs]; rfl
  have HEn : Hid (rootB L = false → ∀ (b g : Nat) (p : Nat) (oq : Option Addr) (oc : Nat) (wr : World), Ox w b g L xs (ordT L xs) p p [] [] (ordT L xs) (.slice oq (ordT L xs).length oc) wr → OrX L xs w (.returned (.tuple #[.slice oq (ordT L xs).length oc, .int .i64 0])) wr) := fun hr b g p oq oc wr h => by
    have ho := own_baseQ h.ow (show w.heap.size ≤ b by have := h.gb; omega)
    unfold OrX
    rw [HRo1.out hr, List.length_map, hOE]
    exact ⟨oq, oc, rfl, ho, h.bl⟩
  have HO : Hid (∀ (g : Nat) (w2 w3 : World), Ek w w2 g (L.map enO) → Eb w3 g ((put (ltE (L.map enO)) L.length).map (eAt (L.map enO))) → w2.grownBy w3 (some g) → Ox w w3.heap.size g L xs (ordT L xs) 0 0 [] (put (ltE (L.map enO)) L.length) [] (.slice none 0 0) w3) := fun g w2 w3 h1 h2 h5 => ⟨⟨[], [], by simpa using h2, rfl, rfl⟩, by rw [put_len]; omega, by rw [List.nil_append, put_len]; simp, World.ownsRow_nil _ _ _ _, by rw [List.nil_append, List.nil_append, put_len]; rfl, ⟨-1, (fun x hx => by cases hx), (fun x hx => by have := (pK_ok L x).1; omega)⟩, by rw [List.nil_append]; exact (put_perm _).nodup_iff.2 List.nodup_range, h1.2.1.grown h5 h1.2.1.size (fun q hq => by injection hq with hq; have := h1.2.2; omega), h1.2.2, h2.lt, Nat.le_refl _⟩
  by_cases h1 : L.length = 1
  · have hone : ((L.length : Int) == 1) = true := by rw [beq_iff_eq]; omega
    have ht0 : L[0].t = 33 := (hall _ (List.getElem_mem h0)).2
    have he0 : errD 33 L[0].d = 0 := by
      have := (ok_facts (hall _ (List.getElem_mem h0)).1).2.2.2.2.1
      rw [ht0] at this
      exact this
    have HT := hide' (fun V => target33_at L[0].o L[0].d L[0].c L[0].l V he0)
    have hrt : rootB L = decide (L[0].d.extract 6 L[0].d.size = ⟨#[0]⟩) := by
      unfold rootB
      rw [rK_get h0, decide_eq_true h1, Bool.true_and]
    generalize L[0].d.extract 6 L[0].d.size = tg at *
    obtain ⟨g0, off, rfl, hg, f0, f1, f2, f3, f4⟩ := hat 0 h0
    rw [Nat.zero_mul, Nat.add_zero, ht0] at f1
    rw [Nat.zero_mul, Nat.add_zero] at f0 f2 f3 f4
    generalize L[0].o = xo at *
    generalize L[0].c = xc at *
    generalize L[0].l = xl at *
    generalize L[0].d = xd at *
    have HF : Hid (∀ V, Below w.heap.size w V → V.cell? ⟨g0, off, none⟩ = some (.string xo) ∧ V.cell? ⟨g0, off + 1, none⟩ = some (.int .i64 33) ∧ V.cell? ⟨g0, off + 2, none⟩ = some (.int .i64 xc) ∧ V.cell? ⟨g0, off + 3, none⟩ = some (.int .i64 xl) ∧ V.cell? ⟨g0, off + 4, none⟩ = some (.string xd)) := fun V hV => ⟨(hV.cell (p := ⟨g0, off, none⟩) hg).trans f0, (hV.cell (p := ⟨g0, off + 1, none⟩) hg).trans f1, (hV.cell (p := ⟨g0, off + 2, none⟩) hg).trans f2, (hV.cell (p := ⟨g0, off + 3, none⟩) hg).trans f3, (hV.cell (p := ⟨g0, off + 4, none⟩) hg).trans f4⟩
    have hli : (0 : Int) < (L.length : Int) := by omega
    have HRt := hide' hrt
    have HOE := hide' hOE
    clear hat hz hs hzx hxb hall ht0 he0 f0 f1 f2 f3 f4 h1 hrt hOE
    by_cases hq : tg = ⟨#[0]⟩
    · have HR0 := hide' (HRo0.out (by rw [HRt.out]; exact decide_eq_true hq))
      subst hq
      go_enter Tryz.func6, Tryz.ntmps6
      go_wp2_with (first
        | (go_at_call 18; refine HE.out.mono ?_; rintro e w1 ⟨g, rfl, hE1⟩; have HE1 := hide' hE1; obtain ⟨c0, c1, c2, c3, c4⟩ := HF.out w1 hE1.2.1; clear hE1)
        | (go_at_call 19; refine (HT.out _).mono ?_; rintro e w2 ⟨rfl, hB2⟩; have HE2 := hide' (HE1.out.below hB2); clear hB2 c0 c1 c2 c3 c4 HE1))
      go_ret2
      unfold OrX
      rw [HR0.out, HOE.out]
      exact ⟨none, 0, rfl, World.ownsRow_nil _ _ _ _, HE2.out.2.1⟩
    · have HEnd : Hid (∀ (oq : Option Addr) (oc : Nat) (wr : World) {b g p : Nat}, Ox w b g L xs (ordT L xs) p p [] [] (ordT L xs) (.slice oq (ordT L xs).length oc) wr → OrX L xs w (.returned (.tuple #[.slice oq (ordT L xs).length oc, .int .i64 0])) wr) := fun oq oc wr b g p h => HEn.out (by rw [HRt.out]; exact decide_eq_false hq) b g p oq oc wr h
      have hqb : (tg.toList == [0]) = false := by
        rw [beq_eq_false_iff_ne]
        exact fun e => hq (toList_inj.1 (e.trans (by rw [Go.Proofs.YtelboefeomnjaaaGreat.Nm.toList_eq])))
      clear HEn
      go_enter Tryz.func6, Tryz.ntmps6
      go_wp2_with (first
        | (go_at_call 18; refine HE.out.mono ?_; rintro e w1 ⟨g, rfl, hE1⟩; have HE1 := hide' hE1; obtain ⟨c0, c1, c2, c3, c4⟩ := HF.out w1 hE1.2.1; clear hE1)
        | (go_at_call 19; refine (HT.out _).mono ?_; rintro e w2 ⟨rfl, hB2⟩; have HE2 := hide' (HE1.out.below hB2); clear hB2 c0 c1 c2 c3 c4 HE1)
        | (go_at_call 20; refine (HSo.out g _ HE2.out.1).mono ?_; rintro e w3 ⟨rfl, hb3, hg3⟩; have HO0 := hide' (HO.out g _ w3 HE2.out hb3 hg3); clear hb3 hg3 HE2))
      clear HT HF HE HSo HO
      go_loopw [6, 8] (fun lv ov wr => ∃ (p : Nat) (q : Addr) (R O : List Nat) (oq : Option Addr) (oc : Nat), lv = .slice (some q) R.length R.length ∧ ov = .slice oq O.length oc ∧ R.length ≤ L.length ∧ Hid (0 < R.length → q = ⟨g, p * 7, none⟩) ∧ Hid (Ox w w3.heap.size g L xs (ordT L xs) p p [] R O ov wr)) (fun lv _ _ => lnQ lv)
      case atStart => exact ⟨0, ⟨g, 0, none⟩, put (ltE (L.map enO)) L.length, [], none, 0, by rw [HPL.out], rfl, by rw [HPL.out]; exact Nat.le_refl _, (fun _ => by rw [Nat.zero_mul]), HO0⟩
      case round =>
        clear HO0
        obtain ⟨p, q, R, O, oq, oc, rfl, rfl, hm, HQ, HD⟩ := hrel
        rcases Nat.eq_zero_or_pos R.length with h0 | h0
        · have hR0 : R = [] := List.eq_nil_of_length_eq_zero h0
          subst hR0
          obtain rfl : O = ordT L xs := HD.out.done
          have HE2 := hide' (HEnd.out oq oc wr HD.out)
          go_wp2_with fail
          go_ret2
          exact HE2.out
        · obtain rfl := HQ.out h0
          have HRun : Hid (Calls Tryz.prog 22 #[.slice (some ⟨g, p * 7, none⟩) R.length R.length] wr fun r w' => (∃ e, r = .returned (.slice (some ⟨g, p * 7, none⟩) e e) ∧ RunE (R.map (eAt (L.map enO))) e) ∧ Below wr.heap.size wr w') := by
            have := run_at g (p * 7) R.length (R.map (eAt (L.map enO))) wr HD.out.rest (by rw [List.length_map]; omega) (by rw [List.length_map]; exact Nat.le_refl _) (by unfold maxLen; omega)
            rw [List.length_map] at this
            exact this
          have HOut : Hid (∀ (W : World) e, Below wr.heap.size wr W → RunE (R.map (eAt (L.map enO))) e → Ox w w3.heap.size g L xs (ordT L xs) p (p + e) (R.take e) (R.drop e) O (.slice oq O.length oc) W ∧ 0 < e ∧ e ≤ R.length ∧ (R.take e).length = e ∧ (R.drop e).length = R.length - e) := fun W e hW he => by
            have h1 := he.le
            have h2 := he.pos
            rw [List.length_map] at h1 h2
            exact ⟨(HD.out.below hW).outer he, h2 h0, h1, by rw [List.length_take]; omega, List.length_drop⟩
          have pm0 : (0 : Int) < (R.length : Int) := by omega
          clear HD HQ
          have HAd : Hid (∀ e, ∃ Ad : Addr, (if R.length = e then some (⟨g, p * 7, none⟩ : Addr) else some ⟨g, p * 7 + e * 7, none⟩) = some Ad ∧ Hid (0 < R.length - e → Ad = ⟨g, (p + e) * 7, none⟩)) := fun e => by
            by_cases he : R.length = e
            · exact ⟨_, if_pos he, fun h => by omega⟩
            · exact ⟨_, if_neg he, fun _ => by rw [Nat.add_mul]⟩
          go_wp2_with (go_at_call 22; refine HRun.out.mono ?_; rintro r5 w5 ⟨⟨e, rfl, hre⟩, hB5⟩; obtain ⟨hX5, he0, hem, hx5, hr5⟩ := HOut.out w5 e hB5 hre; have HX := hide' hX5; obtain ⟨Ad, hAd, HAq⟩ := HAd.out e; have HL5 := hide' hx5; have HR5 := hide' hr5; clear hre hB5 hX5 hx5 hr5)
          have hxl : e ≤ 1048576 := by omega
          obtain ⟨X', hXe⟩ : ∃ X', R.take e = X' := ⟨_, rfl⟩
          obtain ⟨R', hRe⟩ : ∃ R', R.drop e = R' := ⟨_, rfl⟩
          rw [hXe] at HX HL5
          rw [hRe] at HX HR5
          clear hXe hRe HRun HOut
          go_loopw [9, 8] (fun xv ov wv => ∃ (Y P : List Nat) (oq : Option Addr) (oc : Nat), xv = .slice (some ⟨g, p * 7, none⟩) Y.length e ∧ ov = .slice oq P.length oc ∧ Y.length ≤ e ∧ Hid (Ox w w3.heap.size g L xs (ordT L xs) p (p + e) Y R' P (.slice oq P.length oc) wv)) (fun xv _ _ => lnQ xv)
          case atStart => exact ⟨X', O, oq, oc, by rw [HL5.out], rfl, by rw [HL5.out]; exact Nat.le_refl _, HX⟩
          case round =>
            clear HX
            obtain ⟨Y, P, pq, pc, rfl, rfl, hYe, HI⟩ := hrel
            rcases Nat.eq_zero_or_pos Y.length with h1 | h1
            · have hY : Y = [] := List.eq_nil_of_length_eq_zero h1
              subst hY
              have HC := hide' HI.out.close
              clear HI h1
              go_wp2_with fail
              exact ⟨⟨p + e, Ad, R', P, pq, pc, by rw [HR5.out], rfl, by rw [HR5.out]; omega, by rw [HR5.out]; exact HAq, HC⟩, by simp only [lnQ]; omega⟩
            · have HRo : Hid (Calls Tryz.prog 24 #[.slice px xs.length cx, .int .i64 (P.length : Int)] wr _) := rollAt_at xs px cx P.length wr (zat_belQ HZX.out HI.out.bl) hxl0 HXB.out
              have HDr : Hid (Calls Tryz.prog 23 #[.slice (some ⟨g, p * 7, none⟩) Y.length e, .int .i64 (rlN xs P.length)] wr _) := HI.out.draw HXB.out h1 (by omega)
              have hrl := rlN_ok HXB.out P.length
              obtain ⟨z, hz⟩ : ∃ z, rlN xs P.length = z := ⟨_, rfl⟩
              rw [hz] at HRo HDr hrl
              have HZ := hide' hz
              clear hz
              have HDe : Hid (∀ (A Z : List Et) (i : Nat) (W : World), A.length = p → Eb W g (A ++ Y.map (eAt (L.map enO)) ++ (Z ++ R'.map (eAt (L.map enO)))) → i < Y.length → Calls Tryz.prog 25 #[.slice (some ⟨g, p * 7, none⟩) Y.length e, .int .i64 (i : Int), .int .i64 ((i : Int) + 1)] W fun r w' => r = .returned (.slice (some ⟨g, p * 7, none⟩) (Y.length - 1) e) ∧ Eb w' g (A ++ ((Y.map (eAt (L.map enO))).eraseIdx i ++ [zE]) ++ (Z ++ R'.map (eAt (L.map enO)))) ∧ W.grownBy w' (some g)) := fun A Z i W hAl hW hi => by
                have := delete_any g e i A (Y.map (eAt (L.map enO))) (Z ++ R'.map (eAt (L.map enO))) W hW (by rw [List.length_map]; exact hi) (by rw [List.length_map]; exact hYe) (by unfold maxLen; omega) (by rw [List.length_map]; omega)
                rw [hAl, List.length_map, show ((i + 1 : Nat) : Int) = (i : Int) + 1 by omega] at this
                exact this
              have y0 : (0 : Int) < (Y.length : Int) := by omega
              have hY2 : Y.length ≤ 1048576 := by omega
              have HP1 : Hid (P.length + 1 ≤ 10000000) := by
                unfold Hid
                have := HI.out.ln
                rw [List.length_append] at this
                omega
              go_wp2_with (first
                | (go_at_call 24; (with_reducible refine HRo.out.mono ?_); rintro r7 w7 ⟨rfl, hw7⟩; have hw7' := hw7.symm; subst hw7')
                | (go_at_call 23; (with_reducible refine HDr.out.mono ?_); rintro r8 w8 ⟨⟨i, rfl, hi, hdr⟩, hB8⟩; have HI8 := hide' (HI.out.below hB8); have HDd := hide' hdr; obtain ⟨xo, xt, xc, xl, xd, hx, c2, c3, c4, c5, c6⟩ := HI8.out.rec5 hi; have HHi := hide' hi; have hii : (i : Int) < (Y.length : Int) := Int.ofNat_lt.2 hi; have HXi := hide' hx; clear hx hB8 hdr; have ei := wrap_succQ (Nat.le_trans (Nat.le_of_lt HHi.out) hY2); obtain ⟨wb, hwb⟩ : ∃ wb, w8.alloc (.cells #[.string xo, .int .i64 xt, .int .i64 xc, .int .i64 xl, .string xd] 42) = wb := ⟨_, rfl⟩; have HOb := hide' (HI8.out.below (alloc_belQ hwb)); have HRb := hide' (rs_newQ hwb))
                | (at_builtin; refine wpList_append_recsM rfl _ _ rfl w3.heap.size _ P.length (rce5 (P.map (rK L))) rfl HOb.out.ow (some ⟨w8.heap.size, 0, none⟩) [⟨xo, xt, xc, xl, xd⟩] 1 rfl HRb.out (fun h => absurd h (Option.some_ne_none _)) HP1.out HOb.out.gb.2.2 ?_; intro v9 w9 ho9 hg9; obtain ⟨q9, c9, hv9, HN9⟩ := HOb.out.append9 HHi.out HXi.out (by rw [HZ.out]; exact HDd.out) ho9 hg9; subst hv9; obtain ⟨A, Z, hAl, hE9, hN9⟩ := HN9; have HD9 := hide' (HDe.out A Z i w9 hAl hE9 HHi.out); have HNx := hide' hN9; clear ho9 hg9 hE9 hN9 hAl c2 c3 c4 c5 c6 hwb)
                | (go_at_call 25; (with_reducible refine HD9.out.mono ?_); rintro r10 w10 ⟨rfl, hE10, hG10⟩; have HI10 := hide' (HNx.out w10 hE10 hG10); clear hE10 hG10))
              have hel := HI10.out.1
              exact ⟨⟨Y.eraseIdx i, P ++ [ix Y i], q9, c9, by rw [hel], by rw [List.length_append]; rfl, by rw [hel]; omega, hide' HI10.out.2⟩, by simp only [lnQ]; have := HHi.out; omega⟩
  · have hone : ((L.length : Int) == 1) = false := by rw [beq_eq_false_iff_ne]; omega
    have HEnd : Hid (∀ (oq : Option Addr) (oc : Nat) (wr : World) {b g p : Nat}, Ox w b g L xs (ordT L xs) p p [] [] (ordT L xs) (.slice oq (ordT L xs).length oc) wr → OrX L xs w (.returned (.tuple #[.slice oq (ordT L xs).length oc, .int .i64 0])) wr) := fun oq oc wr b g p h => HEn.out (by unfold rootB; rw [decide_eq_false h1, Bool.false_and]) b g p oq oc wr h
    have H1 := hide' h1
    clear hat hz hs hzx hxb hall h1 HEn hOE
    go_enter Tryz.func6, Tryz.ntmps6
    go_wp2_with (first
      | (go_at_call 18; refine HE.out.mono ?_; rintro e w1 ⟨g, rfl, hE1⟩; have HE2 := hide' hE1; clear hE1)
      | (go_at_call 20; refine (HSo.out g _ HE2.out.1).mono ?_; rintro e w3 ⟨rfl, hb3, hg3⟩; have HO0 := hide' (HO.out g _ w3 HE2.out hb3 hg3); clear hb3 hg3 HE2))
    · clear HE HSo HO
      go_loopw [6, 8] (fun lv ov wr => ∃ (p : Nat) (q : Addr) (R O : List Nat) (oq : Option Addr) (oc : Nat), lv = .slice (some q) R.length R.length ∧ ov = .slice oq O.length oc ∧ R.length ≤ L.length ∧ Hid (0 < R.length → q = ⟨g, p * 7, none⟩) ∧ Hid (Ox w w3.heap.size g L xs (ordT L xs) p p [] R O ov wr)) (fun lv _ _ => lnQ lv)
      case atStart => exact ⟨0, ⟨g, 0, none⟩, put (ltE (L.map enO)) L.length, [], none, 0, by rw [HPL.out], rfl, by rw [HPL.out]; exact Nat.le_refl _, (fun _ => by rw [Nat.zero_mul]), HO0⟩
      case round =>
        clear HO0
        obtain ⟨p, q, R, O, oq, oc, rfl, rfl, hm, HQ, HD⟩ := hrel
        rcases Nat.eq_zero_or_pos R.length with h0 | h0
        · have hR0 : R = [] := List.eq_nil_of_length_eq_zero h0
          subst hR0
          obtain rfl : O = ordT L xs := HD.out.done
          have HE2 := hide' (HEnd.out oq oc wr HD.out)
          go_wp2_with fail
          go_ret2
          exact HE2.out
        · obtain rfl := HQ.out h0
          have HRun : Hid (Calls Tryz.prog 22 #[.slice (some ⟨g, p * 7, none⟩) R.length R.length] wr fun r w' => (∃ e, r = .returned (.slice (some ⟨g, p * 7, none⟩) e e) ∧ RunE (R.map (eAt (L.map enO))) e) ∧ Below wr.heap.size wr w') := by
            have := run_at g (p * 7) R.length (R.map (eAt (L.map enO))) wr HD.out.rest (by rw [List.length_map]; omega) (by rw [List.length_map]; exact Nat.le_refl _) (by unfold maxLen; omega)
            rw [List.length_map] at this
            exact this
          have HOut : Hid (∀ (W : World) e, Below wr.heap.size wr W → RunE (R.map (eAt (L.map enO))) e → Ox w w3.heap.size g L xs (ordT L xs) p (p + e) (R.take e) (R.drop e) O (.slice oq O.length oc) W ∧ 0 < e ∧ e ≤ R.length ∧ (R.take e).length = e ∧ (R.drop e).length = R.length - e) := fun W e hW he => by
            have h1 := he.le
            have h2 := he.pos
            rw [List.length_map] at h1 h2
            exact ⟨(HD.out.below hW).outer he, h2 h0, h1, by rw [List.length_take]; omega, List.length_drop⟩
          have pm0 : (0 : Int) < (R.length : Int) := by omega
          clear HD HQ
          have HAd : Hid (∀ e, ∃ Ad : Addr, (if R.length = e then some (⟨g, p * 7, none⟩ : Addr) else some ⟨g, p * 7 + e * 7, none⟩) = some Ad ∧ Hid (0 < R.length - e → Ad = ⟨g, (p + e) * 7, none⟩)) := fun e => by
            by_cases he : R.length = e
            · exact ⟨_, if_pos he, fun h => by omega⟩
            · exact ⟨_, if_neg he, fun _ => by rw [Nat.add_mul]⟩
          go_wp2_with (go_at_call 22; refine HRun.out.mono ?_; rintro r5 w5 ⟨⟨e, rfl, hre⟩, hB5⟩; obtain ⟨hX5, he0, hem, hx5, hr5⟩ := HOut.out w5 e hB5 hre; have HX := hide' hX5; obtain ⟨Ad, hAd, HAq⟩ := HAd.out e; have HL5 := hide' hx5; have HR5 := hide' hr5; clear hre hB5 hX5 hx5 hr5)
          have hxl : e ≤ 1048576 := by omega
          obtain ⟨X', hXe⟩ : ∃ X', R.take e = X' := ⟨_, rfl⟩
          obtain ⟨R', hRe⟩ : ∃ R', R.drop e = R' := ⟨_, rfl⟩
          rw [hXe] at HX HL5
          rw [hRe] at HX HR5
          clear hXe hRe HRun HOut
          go_loopw [9, 8] (fun xv ov wv => ∃ (Y P : List Nat) (oq : Option Addr) (oc : Nat), xv = .slice (some ⟨g, p * 7, none⟩) Y.length e ∧ ov = .slice oq P.length oc ∧ Y.length ≤ e ∧ Hid (Ox w w3.heap.size g L xs (ordT L xs) p (p + e) Y R' P (.slice oq P.length oc) wv)) (fun xv _ _ => lnQ xv)
          case atStart => exact ⟨X', O, oq, oc, by rw [HL5.out], rfl, by rw [HL5.out]; exact Nat.le_refl _, HX⟩
          case round =>
            clear HX
            obtain ⟨Y, P, pq, pc, rfl, rfl, hYe, HI⟩ := hrel
            rcases Nat.eq_zero_or_pos Y.length with h1 | h1
            · have hY : Y = [] := List.eq_nil_of_length_eq_zero h1
              subst hY
              have HC := hide' HI.out.close
              clear HI h1
              go_wp2_with fail
              exact ⟨⟨p + e, Ad, R', P, pq, pc, by rw [HR5.out], rfl, by rw [HR5.out]; omega, by rw [HR5.out]; exact HAq, HC⟩, by simp only [lnQ]; omega⟩
            · have HRo : Hid (Calls Tryz.prog 24 #[.slice px xs.length cx, .int .i64 (P.length : Int)] wr _) := rollAt_at xs px cx P.length wr (zat_belQ HZX.out HI.out.bl) hxl0 HXB.out
              have HDr : Hid (Calls Tryz.prog 23 #[.slice (some ⟨g, p * 7, none⟩) Y.length e, .int .i64 (rlN xs P.length)] wr _) := HI.out.draw HXB.out h1 (by omega)
              have hrl := rlN_ok HXB.out P.length
              obtain ⟨z, hz⟩ : ∃ z, rlN xs P.length = z := ⟨_, rfl⟩
              rw [hz] at HRo HDr hrl
              have HZ := hide' hz
              clear hz
              have HDe : Hid (∀ (A Z : List Et) (i : Nat) (W : World), A.length = p → Eb W g (A ++ Y.map (eAt (L.map enO)) ++ (Z ++ R'.map (eAt (L.map enO)))) → i < Y.length → Calls Tryz.prog 25 #[.slice (some ⟨g, p * 7, none⟩) Y.length e, .int .i64 (i : Int), .int .i64 ((i : Int) + 1)] W fun r w' => r = .returned (.slice (some ⟨g, p * 7, none⟩) (Y.length - 1) e) ∧ Eb w' g (A ++ ((Y.map (eAt (L.map enO))).eraseIdx i ++ [zE]) ++ (Z ++ R'.map (eAt (L.map enO)))) ∧ W.grownBy w' (some g)) := fun A Z i W hAl hW hi => by
                have := delete_any g e i A (Y.map (eAt (L.map enO))) (Z ++ R'.map (eAt (L.map enO))) W hW (by rw [List.length_map]; exact hi) (by rw [List.length_map]; exact hYe) (by unfold maxLen; omega) (by rw [List.length_map]; omega)
                rw [hAl, List.length_map, show ((i + 1 : Nat) : Int) = (i : Int) + 1 by omega] at this
                exact this
              have y0 : (0 : Int) < (Y.length : Int) := by omega
              have hY2 : Y.length ≤ 1048576 := by omega
              have HP1 : Hid (P.length + 1 ≤ 10000000) := by
                unfold Hid
                have := HI.out.ln
                rw [List.length_append] at this
                omega
              go_wp2_with (first
                | (go_at_call 24; (with_reducible refine HRo.out.mono ?_); rintro r7 w7 ⟨rfl, hw7⟩; have hw7' := hw7.symm; subst hw7')
                | (go_at_call 23; (with_reducible refine HDr.out.mono ?_); rintro r8 w8 ⟨⟨i, rfl, hi, hdr⟩, hB8⟩; have HI8 := hide' (HI.out.below hB8); have HDd := hide' hdr; obtain ⟨xo, xt, xc, xl, xd, hx, c2, c3, c4, c5, c6⟩ := HI8.out.rec5 hi; have HHi := hide' hi; have hii : (i : Int) < (Y.length : Int) := Int.ofNat_lt.2 hi; have HXi := hide' hx; clear hx hB8 hdr; have ei := wrap_succQ (Nat.le_trans (Nat.le_of_lt HHi.out) hY2); obtain ⟨wb, hwb⟩ : ∃ wb, w8.alloc (.cells #[.string xo, .int .i64 xt, .int .i64 xc, .int .i64 xl, .string xd] 42) = wb := ⟨_, rfl⟩; have HOb := hide' (HI8.out.below (alloc_belQ hwb)); have HRb := hide' (rs_newQ hwb))
                | (at_builtin; refine wpList_append_recsM rfl _ _ rfl w3.heap.size _ P.length (rce5 (P.map (rK L))) rfl HOb.out.ow (some ⟨w8.heap.size, 0, none⟩) [⟨xo, xt, xc, xl, xd⟩] 1 rfl HRb.out (fun h => absurd h (Option.some_ne_none _)) HP1.out HOb.out.gb.2.2 ?_; intro v9 w9 ho9 hg9; obtain ⟨q9, c9, hv9, HN9⟩ := HOb.out.append9 HHi.out HXi.out (by rw [HZ.out]; exact HDd.out) ho9 hg9; subst hv9; obtain ⟨A, Z, hAl, hE9, hN9⟩ := HN9; have HD9 := hide' (HDe.out A Z i w9 hAl hE9 HHi.out); have HNx := hide' hN9; clear ho9 hg9 hE9 hN9 hAl c2 c3 c4 c5 c6 hwb)
                | (go_at_call 25; (with_reducible refine HD9.out.mono ?_); rintro r10 w10 ⟨rfl, hE10, hG10⟩; have HI10 := hide' (HNx.out w10 hE10 hG10); clear hE10 hG10))
              have hel := HI10.out.1
              exact ⟨⟨Y.eraseIdx i, P ++ [ix Y i], q9, c9, by rw [hel], by rw [List.length_append]; rfl, by rw [hel]; omega, hide' HI10.out.2⟩, by simp only [lnQ]; have := HHi.out; omega⟩
/-- policy.Order -/
theorem orderX_any (L : List Rn) (p : Option Addr) (cap : Nat) (xs : List Int) (px : Option Addr) (cx : Nat) (w : World) (hL : L.length ≤ 1048576) (hat : RsAt w p L) (hz : ∀ r ∈ L, r.o.size ≤ 1048576 ∧ r.d.size ≤ 1048576) (hzx : ZAt w w.heap.size px xs) (hxl0 : xs.length ≤ 1048576) (hxb : ∀ x ∈ xs, -9223372036854775808 ≤ x ∧ x ≤ 9223372036854775807) :
    Calls Tryz.prog 6 #[.slice p L.length cap, .slice px xs.length cx] w (OrX L xs w) := by
  cases h : srvB L with
  | false => exact orderX_no L p cap xs px cx w hL hat (fun r hr => ⟨by have := (hz r hr).1; unfold maxLen; omega, by have := (hz r hr).2; omega⟩) h
  | true => exact orderX_yes L p cap xs px cx w hL hat hz h hzx hxl0 hxb
end Go.Proofs.YtelboefeomnjaaaGreat
