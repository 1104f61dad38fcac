import Derived.Test.YthabenjghhmicaaGreatZq1G
import Derived.Test.YthabenjghhmicaaGreatRw0
import Derived.Maps.RangeWalk
import Derived.Laws.MakeOwn
/-
  Proofs: (*zone.Zone).Names: a range over a map. (The verifier's own text.)
-/
namespace Go.Proofs.YthabenjghhmicaaGreat
set_option linter.unusedVariables false
set_option linter.unusedSimpArgs false
open Go.RowKit Go.Shelf Go.Maps Go.Proofs.YthabenjghhmicaaGreat.Nm Go.Proofs.YthabenjghhmicaaGreat.Zs

/-! ### the names, plainly -/
theorem unq_pw (l : List ByteArray) : ∀ a : List ByteArray, a.Pairwise (· ≠ ·) → (l.foldl (fun a x => if memB a x = true then a else a ++ [x]) a).Pairwise (· ≠ ·) := by
  induction l with
  | nil => intro a h; exact h
  | cons x l ih =>
    intro a h
    rw [List.foldl_cons]
    by_cases hx : memB a x = true
    · rw [if_pos hx]; exact ih a h
    · rw [if_neg hx]
      refine ih _ ?_
      rw [List.pairwise_append]
      refine ⟨h, by simp, fun y hy z hz => ?_⟩
      have hz' : z = x := by simpa using hz
      subst hz'
      intro e
      subst e
      exact hx ((memB_iff a y).2 hy)
theorem unq_nodup (l : List ByteArray) : (unq l).Pairwise (· ≠ ·) := unq_pw l [] List.Pairwise.nil
theorem ix_get : ∀ (l : List ByteArray), l.Pairwise (· ≠ ·) → ∀ j (hj : j < l.length), ixN l l[j] = some j
  | [], _, j, hj => absurd hj (Nat.not_lt_zero _)
  | y :: l, h, 0, _ => by simp [ixN]
  | y :: l, h, j + 1, hj => by
    have hp := List.pairwise_cons.1 h
    have hj' : j < l.length := by simpa using hj
    have hne : ¬ l[j] = y := fun e => hp.1 _ (List.getElem_mem hj') e.symm
    simp only [List.getElem_cons_succ]
    unfold ixN
    rw [if_neg hne, ix_get l hp.2 j hj']
    rfl
theorem ix_at : ∀ (l : List ByteArray) (x : ByteArray) (i : Nat), ixN l x = some i → ∃ h : i < l.length, l[i] = x
  | [], x, i, h => by simp [ixN] at h
  | y :: l, x, i, h => by
    unfold ixN at h
    by_cases e : x = y
    · rw [if_pos e] at h
      injection h with h
      subst h
      exact ⟨by simp, by simp [e]⟩
    · rw [if_neg e] at h
      cases hc : ixN l x with
      | none => rw [hc] at h; cases h
      | some k =>
        rw [hc] at h
        injection h with h
        subst h
        obtain ⟨h1, h2⟩ := ix_at l x k hc
        exact ⟨by simpa using h1, by simpa using h2⟩
/-- the list as far as it is filled -/
def filled (left : Lit → Bool) (l : List ByteArray) : List Value := l.map fun x => if left (stL x) = true then .string ⟨#[]⟩ else .string x
theorem filled_len (left : Lit → Bool) (l : List ByteArray) : (filled left l).length = l.length := by simp [filled]
theorem filled_end {left : Lit → Bool} (h : ∀ z, left z = false) (l : List ByteArray) : filled left l = l.map Value.string := by
  unfold filled
  apply List.map_congr_left
  intro x _
  rw [h]; simp
theorem st_same {x y : ByteArray} (hx : stG x) (hy : stG y) : (stL x).sameKey (stL y) = decide (x = y) := by
  by_cases e : x = y
  · subst e
    rw [decide_eq_true rfl]
    unfold stL
    simp [Lit.sameKey]
  · rw [decide_eq_false e]
    exact sameKey_ne (fun h => e (stL_inj hx hy h))
theorem filled_get (left : Lit → Bool) (l : List ByteArray) (j : Nat) (hj : j < l.length) : (filled left l)[j]'(by rw [filled_len]; exact hj) = if left (stL l[j]) = true then .string ⟨#[]⟩ else .string l[j] := by simp [filled]
theorem filled_set {left : Lit → Bool} {l : List ByteArray} (hg : ∀ x ∈ l, stG x) (hp : l.Pairwise (· ≠ ·)) {i : Nat} (hi : i < l.length) : (filled left l).set i (.string l[i]) = filled (fun z => left z && !z.sameKey (stL l[i])) l := by
  apply List.ext_getElem
  · simp [filled]
  · intro j h1 h2
    have hj : j < l.length := by simpa [filled] using h2
    rw [List.getElem_set, filled_get _ _ _ hj, filled_get _ _ _ hj, st_same (hg _ (List.getElem_mem hj)) (hg _ (List.getElem_mem hi))]
    by_cases e : i = j
    · subst e
      simp
    · have hne : ¬ l[j] = l[i] := fun e2 => by
        have a1 := ix_get l hp j hj
        have a2 := ix_get l hp i hi
        rw [e2] at a1
        rw [a1] at a2
        injection a2 with a2
        exact e a2.symm
      rw [if_neg e, decide_eq_false hne]
      simp
theorem filled_made {left : Lit → Bool} {l : List ByteArray} (h : ∀ x ∈ l, left (stL x) = true) : madeCells #[.string ⟨#[]⟩] l.length = (filled left l).toArray := by
  apply Array.ext
  · simp [madeCells, filled]
  · intro i h1 h2
    have hi : i < l.length := by simpa [filled] using h2
    have e : (filled left l).toArray[i] = .string ⟨#[]⟩ := by
      rw [List.getElem_toArray, filled_get _ _ _ hi, if_pos (h _ (List.getElem_mem hi))]
    rw [e]
    simp [madeCells, Nat.mod_one]
set_option maxRecDepth 100000 in
theorem st_key_inv {v : Value} {kl : Lit} (h : keyOf Tryz.prog 9 v = some kl) : ∃ x, v = .string x ∧ stG x ∧ kl = stL x := by
  unfold keyOf mapKey at h
  rw [Tryz.underlying9] at h
  cases v with
  | string s =>
    by_cases hs : s.size ≤ maxLen
    · have h2 := stKey (x := s) hs
      unfold keyOf mapKey at h2
      rw [Tryz.underlying9] at h2
      rw [h2] at h
      injection h with h
      exact ⟨s, rfl, hs, h.symm⟩
    · simp [hs] at h
  | _ => simp at h
section
variable {n : Nat} {W : World} {apex : ByteArray} {L : List Rn} {ord : List Nat} {Z RW NM C m cnt : Nat} {p : Option Addr} {cp : Nat} {f : ByteArray → Option Nat}
/-- the names of a zone -/
def namL (apex : ByteArray) (T : List Rn) : List ByteArray := unq (namK apex T T.length)
theorem namL_good {apex : ByteArray} {T : List Rn} (na : isN apex = true) (ok : okL T) : ∀ x ∈ namL apex T, x.size ≤ 255 := by
  intro x hx
  unfold namL at hx
  rw [mem_unq] at hx
  unfold namK at hx
  obtain ⟨r, hr, h2⟩ := List.mem_flatMap.1 hx
  cases hc : countB r with
  | false => rw [hc] at h2; simp at h2
  | true =>
    rw [hc] at h2
    simp only [if_true] at h2
    have hz := ok_facts (ok r (List.mem_of_mem_take hr))
    exact ((isN_iff _).1 (ups_names (isN_pos na) _ _ (zisN_fold hz.1).1 x (by unfold pathL at h2; simpa using h2))).1
set_option maxRecDepth 100000 in
set_option maxHeartbeats 4000000 in
/-- (*zone.Zone).Names -/
theorem names0_any (h : Zon n W apex L ord Z RW NM C m cnt p cp f) :
    Calls Tryz.prog 18 #[.pointer (some ⟨Z, 0, none⟩)] W fun r w' => (∃ v, r = .returned v ∧ w'.ownsRow W.heap.size 9 1 v (namL apex (ord.map (rAt L))).length ((namL apex (ord.map (rAt L))).map Value.string)) ∧ Below W.heap.size W w' := by
  have hT := h.laid.tlen
  have hok := h.laid.tok
  have hna := h.laid.na
  have e0 : namK apex (ord.map (rAt L)) L.length = namK apex (ord.map (rAt L)) (ord.map (rAt L)).length := by rw [hT]
  have hnq := h.nq
  have hnu := h.nu
  rw [e0] at hnq hnu
  have hgood := namL_good hna hok
  have hnd := unq_nodup (namK apex (ord.map (rAt L)) (ord.map (rAt L)).length)
  change MNq W NM (namL apex (ord.map (rAt L))) f at hnq
  change ∀ x, stG x → f x = ixN (namL apex (ord.map (rAt L))) x at hnu
  change (namL apex (ord.map (rAt L))).Pairwise (· ≠ ·) at hnd
  have hlen : (namL apex (ord.map (rAt L))).length ≤ 512000 := by
    have h1 := unq_len (namK apex (ord.map (rAt L)) (ord.map (rAt L)).length)
    have h2 := namK_len (apex := apex) hok (ord.map (rAt L)).length (Nat.le_refl _)
    have h3 := h.few
    unfold namL
    rw [hT] at *
    omega
  obtain ⟨l, hl⟩ : ∃ l, namL apex (ord.map (rAt L)) = l := ⟨_, rfl⟩
  rw [hl] at hnq hnu hgood hnd hlen ⊢
  obtain ⟨D, hown, hfD, hsz⟩ := hnq
  have hZx := h.zx
  have z3 : W.cell? ⟨Z, 3, none⟩ = some (.map (some NM)) := h.zx.cell rfl
  have hln := hown.len (t := 81) (e := 3) Tryz.underlying81 3
  rw [hsz] at hln
  have HG : Hid (∀ x ∈ l, stG x) := fun x hx => by have := hgood x hx; unfold stG maxLen; omega
  have HP := hide' hnd
  have HU := hide' hnu
  have HF := hide' hfD
  clear hl e0 hT hok hna hgood hnd hnu hfD h
  obtain ⟨i0, hi, hz0, hz1, hz2⟩ := info_parts Tryz.infoStr
  have hmk : ∀ u : World, (Instr.makeSlice 43 (.int .i64 (l.length : Int)) (.int .i64 (l.length : Int))).run Tryz.prog u = .ok (.slice (some ⟨u.heap.size, 0, none⟩) l.length l.length) (u.alloc (.cells (madeCells #[.string ⟨#[]⟩] l.length) 9)) := fun u => by
    have h := run_make (P := Tryz.prog) u 43 9 i0 (.string ⟨#[]⟩) Tryz.underlying43 hi hz0 .i64 .i64 (l.length : Int) (l.length : Int) (by omega) (by omega) (by rw [hz2]; omega) (by omega)
    simpa [hz1, Value.cells] using h
  have hall : ∀ x ∈ l, Maps.has D (stL x) = true := fun x hx => by
    rw [(HF.out x (HG.out x hx)).1, HU.out x (HG.out x hx)]
    exact (ix_mem l x).2 hx
  obtain ⟨wa, hwa⟩ : ∃ wa, W.alloc (.cells (madeCells #[.string ⟨#[]⟩] l.length) 9) = wa := ⟨_, rfl⟩
  have HBa : Hid (Below W.heap.size W wa) := hwa ▸ (Below.refl _ W).alloc (Nat.le_refl _) _
  have HXa : Hid (Bx wa W.heap.size (filled (Maps.has D) l).toArray 9) := by
    unfold Hid
    rw [← filled_made hall, ← hwa]
    exact World.alloc_heap_new W _
  have hsa : wa.heap.size = W.heap.size + 1 := by rw [← hwa]; simp
  have hownA := hown.kept (grown_below HBa.out none) (by simp)
  have z3a : wa.cell? ⟨Z, 3, none⟩ = some (.map (some NM)) := (hZx.below HBa.out hZx.lt).cell rfl
  have hNM := hown.lt
  have HSA := hide' hsa
  clear hall hown hsz hsa
  go_enter Tryz.func18, Tryz.ntmps18
  go_wp2_with (first
    | (at_range; refine wpList_range_own _ rfl _ 81 rfl 9 3 stKeyed Tryz.underlying81 _ NM l.length _ rfl hownA ?_; intro w0 hrg0 hg0 hs0)
    | fail)
  go_frame
  go_loopw [4] (fun _ wr => ∃ (left : Lit → Bool) (cnt : Nat), wr.ranges Tryz.prog 9 (plainElem (H := Unit) Tryz.prog 3) NM wa.heap.size l.length D left cnt ∧ Hid (∀ z, left z = true → Maps.has D z = true) ∧ Hid (Bx wr W.heap.size (filled left l).toArray 9) ∧ Hid (Below W.heap.size W wr)) (fun _ wr => wr.rangeLeft NM wa.heap.size)
  case atStart => exact ⟨_, _, hrg0, (fun z h => h), HXa.out.grown hg0 (by simp), (HBa.out.grown hg0 HBa.out.size (fun k e => by cases e))⟩
  case round =>
    obtain ⟨left, cnt, hrg, HL, HX, HB⟩ := hrel
    go_wp2_with (first
      | (at_next; refine wpList_next_ranges _ rfl _ rfl 9 stKeyed (plainElem (H := Unit) Tryz.prog 3) Value.string (Value.int .i64) (fun key kl hk => by obtain ⟨x, rfl, _⟩ := st_key_inv hk; exact ⟨x, rfl⟩) (fun v y hv => by obtain ⟨c, rfl, _⟩ := plainElem_int_inv Tryz.underlying3 hv; exact ⟨c, rfl⟩) NM wa.heap.size l.length _ _ _ rfl hrg ?_ ?_)
      | fail)
    · intro hc0 hl0
      have HEnd : Hid (wr.ownsRow W.heap.size 9 1 (.slice (some ⟨W.heap.size, 0, none⟩) l.length l.length) l.length (l.map Value.string)) := by
        have hx := HX.out
        rw [filled_end hl0] at hx
        refine ⟨by simp, .inr ⟨W.heap.size, l.length, _, rfl, Nat.le_refl _, hx, Nat.le_refl _, by unfold maxLen; omega, by simp, ?_⟩⟩
        simp only [Nat.mul_one]
        exact List.take_of_length_le (by simp)
      go_wp2_with fail
      go_ret
      exact ⟨⟨_, rfl, HEnd.out⟩, HB.out⟩
    · have hsa := HSA.out
      intro x c kl y yp w1 cnt1 hkey hlk hv hat hrg1 hlt hg1 hs1 hen
      obtain ⟨x', ex, hgx, rfl⟩ := st_key_inv hkey
      injection ex with ex
      subst ex
      have hhas := HL.out _ hlk
      obtain ⟨hf1, hf2⟩ := HF.out x hgx
      rw [hhas] at hf1
      obtain ⟨i, hfi⟩ : ∃ i, f x = some i := by
        cases hc : f x with
        | none => rw [hc] at hf1; cases hf1
        | some i => exact ⟨i, rfl⟩
      have hci : c = (i : Int) := by
        have h1 := hf2 i hfi (nuD 0)
        rw [hat] at h1
        have h2 := nu_inv (x := i) (ps := yp) (v := .int .i64 c) (by rw [hv, ← h1])
        injection h2
      subst hci
      rw [HU.out x hgx] at hfi
      obtain ⟨hil, hix⟩ := ix_at l x i hfi
      have hx1 := HX.out.grown hg1 (fun e => by injection e with e; omega)
      have pi0 : (0 : Int) ≤ (i : Int) := by omega
      have pi1 : (i : Int) < (l.length : Int) := by omega
      have hc1 : ∃ v, w1.cell? ⟨W.heap.size, i, none⟩ = some v := by
        have hl2 : i < (filled left l).length := by rw [filled_len]; exact hil
        exact ⟨_, hx1.cell (j := i) (v := (filled left l)[i]) (by simp [hl2])⟩
      obtain ⟨v0, hv0⟩ := hc1
      have hfz : w1.frozen? ⟨W.heap.size, i, none⟩ = false := hx1.free i
      have hx2 := hx1.set i (.string x)
      have hg2 : w1.grownBy (w1.setCell ⟨W.heap.size, i, none⟩ (.string x)) (some W.heap.size) := grown_set _ _ _ _
      have hrg2 := hrg1.kept hg2 (fun e => by have := Option.some.inj e; omega) (fun e => by have := Option.some.inj e; omega)
      have e9 : (filled left l).toArray.setIfInBounds i (.string x) = (filled (fun z => left z && !z.sameKey (stL x)) l).toArray := by
        rw [← hix, ← filled_set HG.out HP.out hil]
        simp
      rw [e9] at hx2
      have HX2 := hide' hx2
      have HB2 := hide' ((HB.out.grown hg1 HB.out.size (fun k e => by cases e; omega)).grown hg2 (by have := HB.out.size; omega) (fun k e => by cases e; exact Nat.le_refl _))
      have HL2 : Hid (∀ z, (left z && !z.sameKey (stL x)) = true → Maps.has D z = true) := fun z hz => HL.out z (by rw [Bool.and_eq_true] at hz; exact hz.1)
      clear e9 hx1 hx2 hf1 hf2 hhas hfi hix hat hv hkey hlk hsa
      go_wp2_with fail
      go_roundw
      case rel => exact ⟨_, cnt1, hrg2, HL2, HX2, HB2⟩
      case measure =>
        have e1 := hrg2.left_eq
        have e2 := hrg.left_eq
        rw [e1, e2]; exact hlt
end
end Go.Proofs.YthabenjghhmicaaGreat
