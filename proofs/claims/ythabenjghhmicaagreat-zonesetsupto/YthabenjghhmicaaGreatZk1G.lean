import Derived.Test.YthabenjghhmicaaGreatZq1G
import Derived.Test.YthabenjghhmicaaGreatRw0
import Derived.Maps.RangeWalk
import Derived.Laws.MakeOwn
import Derived.Test.YthabenjghhmicaaGreatZgpG
/-
  Proofs: (*zone.Zone).Names: a range over a map. (The verifier's own text.)
-/
namespace Go.Proofs.YthabenjghhmicaaGreat
set_option linter.unusedVariables false
set_option linter.unusedSimpArgs false
open Go.RowKit Go.Shelf Go.Maps Go.Proofs.YthabenjghhmicaaGreat.Nm Go.Proofs.YthabenjghhmicaaGreat.Zs

/-! ### the names, plainly -/
theorem unq_pw (l : List ByteArray) : ∀ a : List ByteArray, a.Pairwise (· ≠ ·) → (l.foldl (fun a x => if memB a x = true then a else a ++ [x]) a).Pairwise (· ≠ ·) := by
  induction l with
  | nil => intro a h; exact h
  | cons x l ih =>
    intro a h
    rw [List.foldl_cons]
    by_cases hx : memB a x = true
    · rw [if_pos hx]; exact ih a h
    · rw [if_neg hx]
      refine ih _ ?_
      rw [List.pairwise_append]
      refine ⟨h, by simp, fun y hy z hz => ?_⟩
      have hz' : z = x := by simpa using hz
      subst hz'
      intro e
      subst e
      exact hx ((memB_iff a y).2 hy)
theorem unq_nodup (l : List ByteArray) : (unq l).Pairwise (· ≠ ·) := unq_pw l [] List.Pairwise.nil
theorem ix_get : ∀ (l : List ByteArray), l.Pairwise (· ≠ ·) → ∀ j (hj : j < l.length), ixN l l[j] = some j
  | [], _, j, hj => absurd hj (Nat.not_lt_zero _)
  | y :: l, h, 0, _ => by simp [ixN]
  | y :: l, h, j + 1, hj => by
    have hp := List.pairwise_cons.1 h
    have hj' : j < l.length := by simpa using hj
    have hne : ¬ l[j] = y := fun e => hp.1 _ (List.getElem_mem hj') e.symm
    simp only [List.getElem_cons_succ]
    unfold ixN
    rw [if_neg hne, ix_get l hp.2 j hj']
    rfl
theorem ix_at : ∀ (l : List ByteArray) (x : ByteArray) (i : Nat), ixN l x = some i → ∃ h : i < l.length, l[i] = x
  | [], x, i, h => by simp [ixN] at h
  | y :: l, x, i, h => by
    unfold ixN at h
    by_cases e : x = y
    · rw [if_pos e] at h
      injection h with h
      subst h
      exact ⟨by simp, by simp [e]⟩
    · rw [if_neg e] at h
      cases hc : ixN l x with
      | none => rw [hc] at h; cases h
      | some k =>
        rw [hc] at h
        injection h with h
        subst h
        obtain ⟨h1, h2⟩ := ix_at l x k hc
        exact ⟨by simpa using h1, by simpa using h2⟩
/-- the list as far as it is filled -/
def filled (left : Lit → Bool) (l : List ByteArray) : List Value := l.map fun x => if left (stL x) = true then .string ⟨#[]⟩ else .string x
theorem filled_len (left : Lit → Bool) (l : List ByteArray) : (filled left l).length = l.length := by simp [filled]
theorem filled_end {left : Lit → Bool} (h : ∀ z, left z = false) (l : List ByteArray) : filled left l = l.map Value.string := by
  unfold filled
  apply List.map_congr_left
  intro x _
  rw [h]; simp
theorem st_same {x y : ByteArray} (hx : stG x) (hy : stG y) : (stL x).sameKey (stL y) = decide (x = y) := by
  by_cases e : x = y
  · subst e
    rw [decide_eq_true rfl]
    unfold stL
    simp [Lit.sameKey]
  · rw [decide_eq_false e]
    exact sameKey_ne (fun h => e (stL_inj hx hy h))
theorem filled_get (left : Lit → Bool) (l : List ByteArray) (j : Nat) (hj : j < l.length) : (filled left l)[j]'(by rw [filled_len]; exact hj) = if left (stL l[j]) = true then .string ⟨#[]⟩ else .string l[j] := by simp [filled]
theorem filled_set {left : Lit → Bool} {l : List ByteArray} (hg : ∀ x ∈ l, stG x) (hp : l.Pairwise (· ≠ ·)) {i : Nat} (hi : i < l.length) : (filled left l).set i (.string l[i]) = filled (fun z => left z && !z.sameKey (stL l[i])) l := by
  apply List.ext_getElem
  · simp [filled]
  · intro j h1 h2
    have hj : j < l.length := by simpa [filled] using h2
    rw [List.getElem_set, filled_get _ _ _ hj, filled_get _ _ _ hj, st_same (hg _ (List.getElem_mem hj)) (hg _ (List.getElem_mem hi))]
    by_cases e : i = j
    · subst e
      simp
    · have hne : ¬ l[j] = l[i] := fun e2 => by
        have a1 := ix_get l hp j hj
        have a2 := ix_get l hp i hi
        rw [e2] at a1
        rw [a1] at a2
        injection a2 with a2
        exact e a2.symm
      rw [if_neg e, decide_eq_false hne]
      simp
theorem filled_made {left : Lit → Bool} {l : List ByteArray} (h : ∀ x ∈ l, left (stL x) = true) : madeCells #[.string ⟨#[]⟩] l.length = (filled left l).toArray := by
  apply Array.ext
  · simp [madeCells, filled]
  · intro i h1 h2
    have hi : i < l.length := by simpa [filled] using h2
    have e : (filled left l).toArray[i] = .string ⟨#[]⟩ := by
      rw [List.getElem_toArray, filled_get _ _ _ hi, if_pos (h _ (List.getElem_mem hi))]
    rw [e]
    simp [madeCells, Nat.mod_one]
set_option maxRecDepth 100000 in
theorem st_key_inv {v : Value} {kl : Lit} (h : keyOf Tryz.prog 9 v = some kl) : ∃ x, v = .string x ∧ stG x ∧ kl = stL x := by
  unfold keyOf mapKey at h
  rw [Tryz.underlying9] at h
  cases v with
  | string s =>
    by_cases hs : s.size ≤ maxLen
    · have h2 := stKey (x := s) hs
      unfold keyOf mapKey at h2
      rw [Tryz.underlying9] at h2
      rw [h2] at h
      injection h with h
      exact ⟨s, rfl, hs, h.symm⟩
    · simp [hs] at h
  | _ => simp at h
section
variable {n : Nat} {W : World} {apex : ByteArray} {L : List Rn} {ord : List Nat} {Z RW NM C m cnt : Nat} {p : Option Addr} {cp : Nat} {f : ByteArray → Option Nat}
/-- the names of a zone -/
def namL (apex : ByteArray) (T : List Rn) : List ByteArray := unq (namK apex T T.length)
theorem namL_good {apex : ByteArray} {T : List Rn} (na : isN apex = true) (ok : okL T) : ∀ x ∈ namL apex T, x.size ≤ 255 := by
  intro x hx
  unfold namL at hx
  rw [mem_unq] at hx
  unfold namK at hx
  obtain ⟨r, hr, h2⟩ := List.mem_flatMap.1 hx
  cases hc : countB r with
  | false => rw [hc] at h2; simp at h2
  | true =>
    rw [hc] at h2
    simp only [if_true] at h2
    have hz := ok_facts (ok r (List.mem_of_mem_take hr))
    exact ((isN_iff _).1 (ups_names (isN_pos na) _ _ (zisN_fold hz.1).1 x (by unfold pathL at h2; simpa using h2))).1
set_option maxRecDepth 100000 in
set_option maxHeartbeats 4000000 in
/-- (*zone.Zone).Names -/
theorem names0_any (h : Zon n W apex L ord Z RW NM C m cnt p cp f) :
    Calls Tryz.prog 18 #[.pointer (some ⟨Z, 0, none⟩)] W fun r w' => (∃ v, r = .returned v ∧ w'.ownsRow W.heap.size 9 1 v (namL apex (ord.map (rAt L))).length ((namL apex (ord.map (rAt L))).map Value.string)) ∧ Below W.heap.size W w' := by
  have hT := h.laid.tlen
  have hok := h.laid.tok
  have hna := h.laid.na
  have e0 : namK apex (ord.map (rAt L)) L.length = namK apex (ord.map (rAt L)) (ord.map (rAt L)).length := by rw [hT]
  have hnq := h.nq
  have hnu := h.nu
  rw [e0] at hnq hnu
  have hgood := namL_good hna hok
  have hnd := unq_nodup (namK apex (ord.map (rAt L)) (ord.map (rAt L)).length)
  change MNq W NM (namL apex (ord.map (rAt L))) f at hnq
  change ∀ x, stG x → f x = ixN (namL apex (ord.map (rAt L))) x at hnu
  change (namL apex (ord.map (rAt L))).Pairwise (· ≠ ·) at hnd
  have hlen : (namL apex (ord.map (rAt L))).length ≤ 512000 := by
    have h1 := unq_len (namK apex (ord.map (rAt L)) (ord.map (rAt L)).length)
    have h2 := namK_len (apex := apex) hok (ord.map (rAt L)).length (Nat.le_refl _)
    have h3 := h.few
    unfold namL
    rw [hT] at *
    omega
  obtain ⟨l, hl⟩ : ∃ l, namL apex (ord.map (rAt L)) = l := ⟨_, rfl⟩
  rw [hl] at hnq hnu hgood hnd hlen ⊢
  obtain ⟨D, hown, hfD, hsz⟩ := hnq
  have hZx := h.zx
  have z3 : W.cell? ⟨Z, 3, none⟩ = some (.map (some NM)) := h.zx.cell rfl
  have hln := hown.len (t := 81) (e := 3) Tryz.underlying81 3
  rw [hsz] at hln
  have HG : Hid (∀ x ∈ l, stG x) := fun x hx => by have := hgood x hx; unfold stG maxLen; omega
  have HP := hide' hnd
  have HU := hide' hnu
  have HF := hide' hfD
  clear hl e0 hT hok hna hgood hnd hnu hfD h
  obtain ⟨i0, hi, hz0, hz1, hz2⟩ := info_parts Tryz.infoStr
  have hmk : ∀ u : World, (Instr.makeSlice 43 (.int .i64 (l.length : Int)) (.int .i64 (l.length : Int))).run Tryz.prog u = .ok (.slice (some ⟨u.heap.size, 0, none⟩) l.length l.length) (u.alloc (.cells (madeCells #[.string ⟨#[]⟩] l.length) 9)) := fun u => by
    have h := run_make (P := Tryz.prog) u 43 9 i0 (.string ⟨#[]⟩) Tryz.underlying43 hi hz0 .i64 .i64 (l.length : Int) (l.length : Int) (by omega) (by omega) (by rw [hz2]; omega) (by omega)
    simpa [hz1, Value.cells] using h
  have hall : ∀ x ∈ l, Maps.has D (stL x) = true := fun x hx => by
    rw [(HF.out x (HG.out x hx)).1, HU.out x (HG.out x hx)]
    exact (ix_mem l x).2 hx
  obtain ⟨wa, hwa⟩ : ∃ wa, W.alloc (.cells (madeCells #[.string ⟨#[]⟩] l.length) 9) = wa := ⟨_, rfl⟩
  have HBa : Hid (Below W.heap.size W wa) := hwa ▸ (Below.refl _ W).alloc (Nat.le_refl _) _
  have HXa : Hid (Bx wa W.heap.size (filled (Maps.has D) l).toArray 9) := by
    unfold Hid
    rw [← filled_made hall, ← hwa]
    exact World.alloc_heap_new W _
  have hsa : wa.heap.size = W.heap.size + 1 := by rw [← hwa]; simp
  have hownA := hown.kept (grown_below HBa.out none) (by simp)
  have z3a : wa.cell? ⟨Z, 3, none⟩ = some (.map (some NM)) := (hZx.below HBa.out hZx.lt).cell rfl
  have hNM := hown.lt
  have HSA := hide' hsa
  clear hall hown hsz hsa
  go_enter Tryz.func18, Tryz.ntmps18
  go_wp2_with (first
    | (at_range; refine wpList_range_own _ rfl _ 81 rfl 9 3 stKeyed Tryz.underlying81 _ NM l.length _ rfl hownA ?_; intro w0 hrg0 hg0 hs0)
    | fail)
  go_frame
  go_loopw [4] (fun _ wr => ∃ (left : Lit → Bool) (cnt : Nat), wr.ranges Tryz.prog 9 (plainElem (H := Unit) Tryz.prog 3) NM wa.heap.size l.length D left cnt ∧ Hid (∀ z, left z = true → Maps.has D z = true) ∧ Hid (Bx wr W.heap.size (filled left l).toArray 9) ∧ Hid (Below W.heap.size W wr)) (fun _ wr => wr.rangeLeft NM wa.heap.size)
  case atStart => exact ⟨_, _, hrg0, (fun z h => h), HXa.out.grown hg0 (by simp), (HBa.out.grown hg0 HBa.out.size (fun k e => by cases e))⟩
  case round =>
    obtain ⟨left, cnt, hrg, HL, HX, HB⟩ := hrel
    go_wp2_with (first
      | (at_next; refine wpList_next_ranges _ rfl _ rfl 9 stKeyed (plainElem (H := Unit) Tryz.prog 3) Value.string (Value.int .i64) (fun key kl hk => by obtain ⟨x, rfl, _⟩ := st_key_inv hk; exact ⟨x, rfl⟩) (fun v y hv => by obtain ⟨c, rfl, _⟩ := plainElem_int_inv Tryz.underlying3 hv; exact ⟨c, rfl⟩) NM wa.heap.size l.length _ _ _ rfl hrg ?_ ?_)
      | fail)
    · intro hc0 hl0
      have HEnd : Hid (wr.ownsRow W.heap.size 9 1 (.slice (some ⟨W.heap.size, 0, none⟩) l.length l.length) l.length (l.map Value.string)) := by
        have hx := HX.out
        rw [filled_end hl0] at hx
        refine ⟨by simp, .inr ⟨W.heap.size, l.length, _, rfl, Nat.le_refl _, hx, Nat.le_refl _, by unfold maxLen; omega, by simp, ?_⟩⟩
        simp only [Nat.mul_one]
        exact List.take_of_length_le (by simp)
      go_wp2_with fail
      go_ret
      exact ⟨⟨_, rfl, HEnd.out⟩, HB.out⟩
    · have hsa := HSA.out
      intro x c kl y yp w1 cnt1 hkey hlk hv hat hrg1 hlt hg1 hs1 hen
      obtain ⟨x', ex, hgx, rfl⟩ := st_key_inv hkey
      injection ex with ex
      subst ex
      have hhas := HL.out _ hlk
      obtain ⟨hf1, hf2⟩ := HF.out x hgx
      rw [hhas] at hf1
      obtain ⟨i, hfi⟩ : ∃ i, f x = some i := by
        cases hc : f x with
        | none => rw [hc] at hf1; cases hf1
        | some i => exact ⟨i, rfl⟩
      have hci : c = (i : Int) := by
        have h1 := hf2 i hfi (nuD 0)
        rw [hat] at h1
        have h2 := nu_inv (x := i) (ps := yp) (v := .int .i64 c) (by rw [hv, ← h1])
        injection h2
      subst hci
      rw [HU.out x hgx] at hfi
      obtain ⟨hil, hix⟩ := ix_at l x i hfi
      have hx1 := HX.out.grown hg1 (fun e => by injection e with e; omega)
      have pi0 : (0 : Int) ≤ (i : Int) := by omega
      have pi1 : (i : Int) < (l.length : Int) := by omega
      have hc1 : ∃ v, w1.cell? ⟨W.heap.size, i, none⟩ = some v := by
        have hl2 : i < (filled left l).length := by rw [filled_len]; exact hil
        exact ⟨_, hx1.cell (j := i) (v := (filled left l)[i]) (by simp [hl2])⟩
      obtain ⟨v0, hv0⟩ := hc1
      have hfz : w1.frozen? ⟨W.heap.size, i, none⟩ = false := hx1.free i
      have hx2 := hx1.set i (.string x)
      have hg2 : w1.grownBy (w1.setCell ⟨W.heap.size, i, none⟩ (.string x)) (some W.heap.size) := grown_set _ _ _ _
      have hrg2 := hrg1.kept hg2 (fun e => by have := Option.some.inj e; omega) (fun e => by have := Option.some.inj e; omega)
      have e9 : (filled left l).toArray.setIfInBounds i (.string x) = (filled (fun z => left z && !z.sameKey (stL x)) l).toArray := by
        rw [← hix, ← filled_set HG.out HP.out hil]
        simp
      rw [e9] at hx2
      have HX2 := hide' hx2
      have HB2 := hide' ((HB.out.grown hg1 HB.out.size (fun k e => by cases e; omega)).grown hg2 (by have := HB.out.size; omega) (fun k e => by cases e; exact Nat.le_refl _))
      have HL2 : Hid (∀ z, (left z && !z.sameKey (stL x)) = true → Maps.has D z = true) := fun z hz => HL.out z (by rw [Bool.and_eq_true] at hz; exact hz.1)
      clear e9 hx1 hx2 hf1 hf2 hhas hfi hix hat hv hkey hlk hsa
      go_wp2_with fail
      go_roundw
      case rel => exact ⟨_, cnt1, hrg2, HL2, HX2, HB2⟩
      case measure =>
        have e1 := hrg2.left_eq
        have e2 := hrg.left_eq
        rw [e1, e2]; exact hlt
end
end Go.Proofs.YthabenjghhmicaaGreat

/-
  A zone's names rise, plainly. (The verifier's own text.)
-/
namespace Go.Proofs.YthabenjghhmicaaGreat
set_option linter.unusedVariables false
set_option linter.unusedSimpArgs false
open Go.RowKit Go.Shelf Go.Maps Go.Proofs.YthabenjghhmicaaGreat.Nm Go.Proofs.YthabenjghhmicaaGreat.Zs

theorem unq_good : ∀ (n : Nat) (X : List ByteArray), X.length = n → (∀ A y B, X = A ++ y :: B → y ∉ A → ∀ z ∈ A, cmpB z y < 0) → (unq X).Pairwise (fun a b => cmpB a b < 0)
  | 0, X, hn, _ => by
    obtain rfl : X = [] := List.eq_nil_of_length_eq_zero hn
    exact List.Pairwise.nil
  | n + 1, X, hn, h => by
    have hne : X ≠ [] := fun e => by rw [e] at hn; simp at hn
    obtain ⟨A, y, rfl⟩ : ∃ A y, X = A ++ [y] := ⟨X.dropLast, X.getLast hne, (List.dropLast_concat_getLast hne).symm⟩
    have ih := unq_good n A (by simpa using hn) (fun A' y' B e hy z hz => h A' y' (B ++ [y]) (by rw [e]; simp) hy z hz)
    rw [unq_snoc]
    split
    · exact ih
    · rename_i hm
      have hy : y ∉ A := fun hc => hm ((memB_iff _ _).2 ((mem_unq A y).2 hc))
      rw [List.pairwise_append]
      refine ⟨ih, by simp, fun z hz w hw => ?_⟩
      have hw' : w = y := by simpa using hw
      subst hw'
      exact h A w [] (by simp) hy z ((mem_unq A z).1 hz)
theorem flat_split {α β : Type} (g : α → List β) : ∀ (T : List α) (A : List β) (y : β) (B : List β), T.flatMap g = A ++ y :: B → ∃ T1 r T2 P1 P2, T = T1 ++ r :: T2 ∧ g r = P1 ++ y :: P2 ∧ A = T1.flatMap g ++ P1
  | [], A, y, B, h => by simp at h
  | r :: T, A, y, B, h => by
    rw [List.flatMap_cons] at h
    rcases List.append_eq_append_iff.1 h with ⟨a', h1, h2⟩ | ⟨c', h1, h2⟩
    · obtain ⟨T1, r', T2, P1, P2, e1, e2, e3⟩ := flat_split g T a' y B h2
      exact ⟨r :: T1, r', T2, P1, P2, by rw [e1]; rfl, e2, by rw [h1, e3, List.flatMap_cons, List.append_assoc]⟩
    · cases c' with
      | nil =>
        rw [List.nil_append] at h2
        obtain ⟨T1, r', T2, P1, P2, e1, e2, e3⟩ := flat_split g T [] y B h2.symm
        refine ⟨r :: T1, r', T2, P1, P2, by rw [e1]; rfl, e2, ?_⟩
        rw [List.flatMap_cons, List.append_assoc, ← e3, List.append_nil, h1, List.append_nil]
      | cons x c' =>
        rw [List.cons_append] at h2
        injection h2 with h2 h3
        subst h2
        exact ⟨[], r, T, A, c', rfl, h1, by simp⟩
/-- which names are on the way down to a record's -/
theorem path_iff {apex : ByteArray} (na : isN apex = true) {o : ByteArray} (ho : withinB o apex = true) {n : ByteArray} (hn : withinB n apex = true) : foldB n ∈ pathL apex (foldB o) ↔ withinB o n = true := by
  obtain ⟨n1, n2, n3, n4⟩ := (withinB_iff n apex).1 hn
  obtain ⟨g1, g2, g3, g4⟩ := (withinB_iff o apex).1 ho
  rw [path_tails na ho, List.mem_map]
  constructor
  · rintro ⟨i, hi, he⟩
    rw [List.mem_range] at hi
    have t1 := (tailB_yes g1 (k := (labs apex).length + i) (by omega)).1
    exact within_some (k := (((labs apex).length + i : Nat) : Int)) (by rw [eq_dec t1]; exact decide_eq_true he)
  · intro hw
    obtain ⟨_, _, w3, w4⟩ := (withinB_iff o n).1 hw
    refine ⟨(labs n).length - (labs apex).length, by rw [List.mem_range]; omega, ?_⟩
    rw [show (labs apex).length + ((labs n).length - (labs apex).length) = (labs n).length by omega, fold_tail g1 w3, ← List.map_drop, w4, fold_put n1]
theorem path_in {apex : ByteArray} (na : isN apex = true) {o : ByteArray} (ho : withinB o apex = true) {y : ByteArray} (hy : y ∈ pathL apex (foldB o)) : InA apex y := by
  unfold pathL at hy
  rw [List.mem_reverse] at hy
  exact (ups_in na _ _ (inA_fold na ho) (Nat.le_refl _)).1 _ hy
theorem cmp_ne {a b : ByteArray} {apex : ByteArray} (ha : InA apex a) (hb : InA apex b) (hne : a ≠ b) (h : cmpB a b ≤ 0) : cmpB a b < 0 := by
  have o := ordered ha.nm hb.nm hb.nm
  have he := o.eq
  have h0 : cmpB a b ≠ 0 := fun e => by
    rw [decide_eq_true e] at he
    rw [eq_dec ha.nm, ha.fo, hb.fo] at he
    exact hne (of_decide_eq_true he)
  omega
theorem bef_cmp {x y : Rn} (h : befB x y = true) : cmpB x.o y.o ≤ 0 := by
  unfold befB at h
  by_cases e : cmpB x.o y.o ≠ 0
  · rw [if_pos e] at h
    have := of_decide_eq_true h
    omega
  · omega
/-- of two names on one way the upper one stands ahead -/
theorem path_pw {apex : ByteArray} (na : isN apex = true) {o : ByteArray} (ho : withinB o apex = true) {P1 P2 : List ByteArray} {y : ByteArray} (h : pathL apex (foldB o) = P1 ++ y :: P2) : ∀ z ∈ P1, withinB y z = true := by
  obtain ⟨g1, g2, g3, g4⟩ := (withinB_iff o apex).1 ho
  intro z hz
  obtain ⟨i, hi, rfl⟩ := List.getElem_of_mem hz
  have hp := path_tails na ho
  rw [h] at hp
  have hlen := congrArg List.length hp
  simp at hlen
  have e1 : P1[i] = foldB (tailB o (((labs apex).length + i : Nat) : Int)) := by
    have : (P1 ++ y :: P2)[i]? = some P1[i] := by rw [List.getElem?_append_left hi]; simp
    rw [hp, List.getElem?_map, List.getElem?_range (by omega)] at this
    simpa using this.symm
  have e2 : y = foldB (tailB o (((labs apex).length + P1.length : Nat) : Int)) := by
    have : (P1 ++ y :: P2)[P1.length]? = some y := by simp
    rw [hp, List.getElem?_map, List.getElem?_range (by omega)] at this
    simpa using this.symm
  obtain ⟨a1, a2, _⟩ := tailB_yes g1 (k := (labs apex).length + i) (by omega)
  obtain ⟨b1, b2, _⟩ := tailB_yes g1 (k := (labs apex).length + P1.length) (by omega)
  rw [e1, e2, withinB_iff]
  obtain ⟨x1, x2⟩ := zisN_fold a1
  obtain ⟨y1, y2⟩ := zisN_fold b1
  refine ⟨y1, x1, by rw [x2, y2, List.length_map, List.length_map, a2, b2, List.length_drop, List.length_drop]; omega, ?_⟩
  rw [x2, y2, a2, b2]
  simp only [List.length_map, List.length_drop]
  rw [← List.map_drop, List.drop_drop]
  congr 3
  omega
theorem namK_all (apex : ByteArray) (T : List Rn) : namK apex T T.length = T.flatMap fun r => if countB r = true then pathL apex (foldB r.o) else [] := by
  unfold namK
  rw [List.take_length]
/-- the names rise -/
theorem names_rise {apex : ByteArray} {T : List Rn} (na : isN apex = true) (h : OwnIn apex T) (hT : T.Pairwise (fun x y => befB x y = true)) : (namL apex T).Pairwise (fun a b => cmpB a b < 0) := by
  unfold namL
  rw [namK_all]
  refine unq_good _ _ rfl ?_
  intro A y B hX hy z hz
  obtain ⟨T1, r, T2, P1, P2, e1, e2, e3⟩ := flat_split _ T A y B hX
  have hr : r ∈ T := by rw [e1]; simp
  have hc : countB r = true := by
    cases hc : countB r with
    | true => rfl
    | false => rw [hc] at e2; simp at e2
  rw [hc] at e2
  simp only [if_true] at e2
  have hyp : y ∈ pathL apex (foldB r.o) := by rw [e2]; simp
  have yI := path_in na (h r hr) hyp
  have yw : withinB r.o y = true := (path_iff na (h r hr) yI.wi).1 (by rw [yI.fo]; exact hyp)
  rw [e3] at hz
  rcases List.mem_append.1 hz with hz | hz
  · obtain ⟨r', hr', hz2⟩ := List.mem_flatMap.1 hz
    have hc' : countB r' = true := by
      cases hc : countB r' with
      | true => rfl
      | false => rw [hc] at hz2; simp at hz2
    rw [hc'] at hz2
    simp only [if_true] at hz2
    have hrT : r' ∈ T := by rw [e1]; exact List.mem_append.2 (Or.inl hr')
    have zI := path_in na (h r' hrT) hz2
    have zw : withinB r'.o z = true := (path_iff na (h r' hrT) zI.wi).1 (by rw [zI.fo]; exact hz2)
    have hny : ¬ withinB r'.o y = true := fun hc2 => hy (by
      have := (path_iff na (h r' hrT) yI.wi).2 hc2
      rw [yI.fo] at this
      rw [e3]
      exact List.mem_append.2 (Or.inl (List.mem_flatMap.2 ⟨r', hr', by rw [if_pos hc']; exact this⟩)))
    have hle : cmpB r'.o r.o ≤ 0 := by
      rw [e1] at hT
      exact bef_cmp ((List.pairwise_append.1 hT).2.2 r' hr' r (by simp))
    have n1 := h.nm hrT
    have n2 := h.nm hr
    have o1 := ordered yI.nm n1 n2
    have o2 := ordered zI.nm n1 yI.nm
    have h3 : ¬ cmpB y r'.o ≤ 0 := fun hc3 => hny (o1.w2 hc3 hle yw)
    have h4 := o1.anti
    exact o2.t2 (o2.w1 zw) (by omega)
  · have hyz := path_pw na (h r hr) e2 z hz
    have zI := path_in na (h r hr) (by rw [e2]; exact List.mem_append.2 (Or.inl hz))
    refine cmp_ne zI yI (fun e => hy ?_) ((ordered zI.nm yI.nm yI.nm).w1 hyz)
    rw [e3, ← e]
    exact List.mem_append.2 (Or.inr hz)
theorem namL_mem {apex : ByteArray} {T : List Rn} (na : isN apex = true) (h : OwnIn apex T) (y : ByteArray) : y ∈ namL apex T ↔ InA apex y ∧ rth T y = true := by
  unfold namL
  rw [mem_unq, namK_all, List.mem_flatMap]
  constructor
  · rintro ⟨r, hr, h2⟩
    cases hc : countB r with
    | false => rw [hc] at h2; simp at h2
    | true =>
      rw [hc] at h2
      simp only [if_true] at h2
      have yI := path_in na (h r hr) h2
      refine ⟨yI, ?_⟩
      unfold rth
      rw [List.any_eq_true]
      exact ⟨r, hr, by rw [hc, (path_iff na (h r hr) yI.wi).1 (by rw [yI.fo]; exact h2)]; rfl⟩
  · rintro ⟨yI, h2⟩
    unfold rth at h2
    rw [List.any_eq_true] at h2
    obtain ⟨r, hr, h3⟩ := h2
    rw [Bool.and_eq_true] at h3
    refine ⟨r, hr, ?_⟩
    rw [if_pos h3.1]
    have := (path_iff na (h r hr) yI.wi).2 h3.2
    rw [yI.fo] at this
    exact this
/-- the apex is the first -/
theorem names_first {apex : ByteArray} {T : List Rn} (na : isN apex = true) (h : OwnIn apex T) (hT : T.Pairwise (fun x y => befB x y = true)) (hap : rth T apex = true) : ∃ l, namL apex T = foldB apex :: l := by
  have hw : withinB apex apex = true := by
    rw [withinB_iff]
    exact ⟨na, na, Nat.le_refl _, by rw [Nat.sub_self, List.drop_zero]⟩
  have aI := inA_fold na hw
  have hra : rth T (foldB apex) = true := by
    unfold rth at hap ⊢
    rw [List.any_eq_true] at hap ⊢
    obtain ⟨r, hr, h3⟩ := hap
    rw [Bool.and_eq_true] at h3
    exact ⟨r, hr, by rw [h3.1, zwithin_fold (h.nm hr) na, h3.2]; rfl⟩
  have hm := (namL_mem na h (foldB apex)).2 ⟨aI, hra⟩
  have hp := names_rise na h hT
  cases hl : namL apex T with
  | nil => rw [hl] at hm; cases hm
  | cons x l =>
    rw [hl] at hm hp
    rcases List.mem_cons.1 hm with e | e
    · exact ⟨l, by rw [e]⟩
    · exfalso
      have h1 := (List.pairwise_cons.1 hp).1 _ e
      have xI := ((namL_mem na h x).1 (by rw [hl]; simp)).1
      have o := ordered aI.nm xI.nm xI.nm
      have hwx : withinB x (foldB apex) = true := by rw [zwithin_fold xI.nm na]; exact xI.wi
      have h2 := o.w1 hwx
      have h3 := o.anti
      omega
theorem strsAt_ownR {w : World} {base c : Nat} {p : Option Addr} {l : List ByteArray} (h : w.ownsRow base 9 1 (.slice p l.length c) l.length (l.map Value.string)) : StrsAt w p l := by
  intro j hj
  have h' := h
  obtain ⟨_, (⟨h1, h2⟩ | ⟨g, cap, cur, h1, hb, hg, hn', hcap, _⟩)⟩ := h'
  · omega
  · injection h1 with h1 h2 h3
    subst h1
    refine ⟨g, 0, rfl, (Array.getElem?_eq_some_iff.1 hg).1, ?_⟩
    rw [Nat.zero_add, h.cellAt j (by omega)]; simp [hj]
theorem own_someS {w : World} {b n : Nat} {v : Value} {xs : List Value} (h : w.ownsRow b 9 1 v n xs) (hn : 0 < n) : ∃ g c, v = .slice (some ⟨g, 0, none⟩) n c ∧ n ≤ 9223372036854775807 := by
  obtain ⟨hl, (⟨h1, h0⟩ | ⟨g, cap, cur, h1, _, _, h2, h3, _⟩)⟩ := h
  · omega
  · exact ⟨g, cap, h1, by unfold maxLen at h3; omega⟩
section
variable {n : Nat} {W : World} {apex : ByteArray} {L : List Rn} {ord : List Nat} {Z RW NM C m cnt : Nat} {p : Option Addr} {cp : Nat} {f : ByteArray → Option Nat}
theorem Zon.rises (h : Zon n W apex L ord Z RW NM C m cnt p cp f) : (ord.map (rAt L)).Pairwise (fun x y => befB x y = true) := h.laid.rise (h.rule (i := 0) (by show 0 < 8; omega))
theorem Zon.isn (h : Zon n W apex L ord Z RW NM C m cnt p cp f) : ∀ x ∈ ord.map (rAt L), isN x.o = true := fun x hx => (ok_facts (h.laid.tok x hx)).1
end
end Go.Proofs.YthabenjghhmicaaGreat

/-
  gazetteersame.Texts at two lists that are the same. (The verifier's own text.)
-/
namespace Go.Proofs.YthabenjghhmicaaGreat
set_option linter.unusedVariables false
set_option linter.unusedSimpArgs false
open Go.RowKit Go.Shelf Go.Maps Go.Proofs.YthabenjghhmicaaGreat.Nm Go.Proofs.YthabenjghhmicaaGreat.Zs

set_option maxRecDepth 100000 in
set_option maxHeartbeats 1000000 in
theorem sTexts_same (px py : Option Addr) (cx cy : Nat) (l : List ByteArray) (w : World) (hx : StrsAt w px l) (hy : StrsAt w py l) (hll : l.length ≤ 9223372036854775807) :
    Calls Tryz.prog 19 #[.slice px l.length cx, .slice py l.length cy] w fun e w' => e = .returned (.bool true) ∧ Below w.heap.size w w' := by
  go_enter Tryz.func19, Tryz.ntmps19
  go_wp2
  go_loopw [13] (fun i wr => ∃ k : Nat, i = .int .i64 k ∧ k ≤ l.length ∧ Below w.heap.size w wr) (fun i _ => l.length - (intOf i).toNat)
  case atStart => exact ⟨0, rfl, Nat.zero_le _, Below.refl _ _⟩
  case round =>
    obtain ⟨k, rfl, hk, hB⟩ := hrel
    by_cases hlt : k < l.length
    · obtain ⟨gx, ox, rfl, hgx, hcx0⟩ := hx k hlt
      obtain ⟨gy, oy, rfl, hgy, hcy0⟩ := hy k hlt
      have hcx := (hB.cell (p := ⟨gx, ox + k, none⟩) hgx).trans hcx0
      have hcy := (hB.cell (p := ⟨gy, oy + k, none⟩) hgy).trans hcy0
      generalize l[k] = X at *
      clear hcx0 hcy0
      go_wp2
      go_quiet (fail)
      go_wp2
      all_goals
        go_roundw
        case rel => exact ⟨k + 1, by go_num, by omega, below_drewN hB _⟩
        case measure => simp [intOf]; omega
    · go_wp2
      go_ret
      exact ⟨rfl, hB⟩
end Go.Proofs.YthabenjghhmicaaGreat
