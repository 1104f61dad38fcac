import Derived.Test.YtfonnepnaeehhaaMath5
namespace Go.Proofs.Ytfonnepnaeehhaa.Nm
set_option linter.unusedVariables false

/-- labels as they must be -/
def OkL (l : List ByteArray) : Prop := ∀ x ∈ l, 0 < x.size ∧ x.size ≤ 63
theorem okL_labs (s : ByteArray) : OkL (labs s) := fun _ hx => labs_mem hx
theorem OkL.drop {l : List ByteArray} (h : OkL l) (k : Nat) : OkL (l.drop k) := fun x hx => h x (List.mem_of_mem_drop hx)
theorem OkL.take {l : List ByteArray} (h : OkL l) (k : Nat) : OkL (l.take k) := fun x hx => h x (List.mem_of_mem_take hx)
theorem OkL.append {l m : List ByteArray} (h : OkL l) (k : OkL m) : OkL (l ++ m) := fun x hx => (List.mem_append.1 hx).elim (h x) (k x)
theorem OkL.low {l : List ByteArray} (h : OkL l) : OkL (l.map lowB) := by
  intro x hx
  obtain ⟨y, hy, rfl⟩ := List.mem_map.1 hx
  rw [lowB_size]; exact h y hy

theorem putB_cons (x : ByteArray) (l : List ByteArray) : putB (x :: l) = chunk x ++ putB l := by
  unfold putB; rw [chunks_cons, ByteArray.append_assoc]
theorem putB_append (l m : List ByteArray) : putB (l ++ m) = chunks l ++ putB m := by
  unfold putB; rw [chunks_append, ByteArray.append_assoc]
theorem bt_chunk (x : ByteArray) (h : x.size < 256) : bt (chunk x) 0 = x.size := by
  unfold chunk
  rw [bt_append_left _ _ _ Nat.zero_lt_one, bt_one _ h]
theorem extract_mid (p x q : ByteArray) : (p ++ (x ++ q)).extract p.size (p.size + x.size) = x := by
  apply ba_ext
  · rw [size_extract' _ _ _ (by simp only [ByteArray.size_append]; omega)]; omega
  · intro j hj
    rw [size_extract' _ _ _ (by simp only [ByteArray.size_append]; omega)] at hj
    rw [bt_extract _ _ _ _ (by omega) (by simp only [ByteArray.size_append]; omega), bt_append_right _ _ _ (by omega), show p.size + j - p.size = j by omega, bt_append_left _ _ _ (by omega)]

/-- what labels were put is read again -/
theorem parse_put : ∀ (l : List ByteArray) (p : ByteArray), OkL l → labsFrom (p ++ putB l) p.size = l ∧ fin (p ++ putB l) p.size = p.size + (chunks l).size
  | [], p, _ => by
    have hz : (p ++ putB []).size = p.size + 1 := by rw [ByteArray.size_append, labs_nil_putB]; rfl
    have h0 : bt (p ++ putB []) p.size = 0 := by rw [bt_append_right _ _ _ (Nat.le_refl _), labs_nil_putB, Nat.sub_self]; rfl
    have hb : ¬ GoodL (p ++ putB []) p.size := fun g => by have := g.pos; omega
    rw [labsFrom_bad hb, fin_bad hb]
    exact ⟨rfl, rfl⟩
  | x :: l, p, h => by
    obtain ⟨hx1, hx2⟩ := h x (by simp)
    have ih := parse_put l (p ++ chunk x) (fun y hy => h y (by simp [hy]))
    have hz1 : (p ++ chunk x).size = p.size + 1 + x.size := by rw [ByteArray.size_append, chunk_size]; omega
    have e : p ++ chunk x ++ putB l = p ++ putB (x :: l) := by rw [putB_cons, ByteArray.append_assoc]
    have hz : (p ++ putB (x :: l)).size = p.size + 1 + x.size + (putB l).size := by rw [← e, ByteArray.size_append, hz1]
    rw [e, hz1] at ih
    have hbt : bt (p ++ putB (x :: l)) p.size = x.size := by
      rw [bt_append_right _ _ _ (Nat.le_refl _), Nat.sub_self, putB_cons, bt_append_left _ _ _ (by rw [chunk_size]; omega), bt_chunk _ (by omega)]
    have hg : GoodL (p ++ putB (x :: l)) p.size := ⟨by omega, by omega, by omega, by omega⟩
    rw [labsFrom_good hg, fin_good hg, hbt, ih.1, ih.2]
    refine ⟨?_, ?_⟩
    · congr 1
      have e2 : p ++ putB (x :: l) = (p ++ ⟨#[UInt8.ofNat x.size]⟩) ++ (x ++ putB l) := by
        rw [putB_cons]; unfold chunk; simp only [ByteArray.append_assoc]
      have hz3 : (p ++ ⟨#[UInt8.ofNat x.size]⟩ : ByteArray).size = p.size + 1 := by rw [ByteArray.size_append]; rfl
      rw [e2]
      have := extract_mid (p ++ ⟨#[UInt8.ofNat x.size]⟩) x (putB l)
      rw [hz3] at this
      exact this
    · rw [chunks_cons, ByteArray.size_append, chunk_size]; omega

theorem labs_putB {l : List ByteArray} (h : OkL l) : labs (putB l) = l := by
  have := (parse_put l ByteArray.empty h).1
  rw [ByteArray.empty_append] at this
  exact this
theorem fin_putB {l : List ByteArray} (h : OkL l) : fin (putB l) 0 = (chunks l).size := by
  have := (parse_put l ByteArray.empty h).2
  rw [ByteArray.empty_append] at this
  rw [show (ByteArray.empty).size = 0 from rfl] at this
  omega
theorem isN_putB {l : List ByteArray} (h : OkL l) : isN (putB l) = decide ((putB l).size ≤ 255) := by
  have hf := fin_putB h
  have hz := putB_size l
  have h0 : bt (putB l) (chunks l).size = 0 := by
    unfold putB; rw [bt_append_right _ _ _ (Nat.le_refl _), Nat.sub_self]; rfl
  unfold isN
  rw [hf, h0, hz, Bool.eq_iff_iff]
  simp
theorem putB_inj {l m : List ByteArray} (hl : OkL l) (hm : OkL m) (h : putB l = putB m) : l = m := by
  rw [← labs_putB hl, h, labs_putB hm]

theorem isN_low {s : ByteArray} (h : isN s = true) : isN (lowB s) = true ∧ labs (lowB s) = (labs s).map lowB := by
  rw [← putB_low_labs h]
  refine ⟨?_, labs_putB (okL_labs s).low⟩
  rw [isN_putB (okL_labs s).low, putB_low_labs h, lowB_size]
  simp [((isN_iff s).1 h).1]
theorem isN_pos {s : ByteArray} (h : isN s = true) : 0 < s.size := by have := (isN_iff s).1 h; omega
theorem isN_empty : isN ByteArray.empty = false := by decide

/-- the same name -/
def eqB (a b : ByteArray) : Bool := isN a && ((foldB a).toList == (foldB b).toList)
theorem toList_inj {a b : ByteArray} : a.toList = b.toList ↔ a = b := by
  rw [toList_eq, toList_eq]
  constructor
  · intro h; apply ByteArray.ext; exact Array.toList_inj.1 h
  · intro h; rw [h]
theorem eqB_iff (a b : ByteArray) : eqB a b = true ↔ isN a = true ∧ isN b = true ∧ (labs a).map lowB = (labs b).map lowB := by
  unfold eqB
  rw [Bool.and_eq_true, beq_iff_eq, toList_inj]
  constructor
  · rintro ⟨ha, h⟩
    have hb : isN b = true := by
      cases hb : isN b with
      | true => rfl
      | false =>
        rw [foldB_yes ha, foldB_no hb] at h
        have := congrArg ByteArray.size h
        rw [lowB_size] at this
        have := isN_pos ha
        have : (ByteArray.empty).size = 0 := rfl
        omega
    refine ⟨ha, hb, ?_⟩
    rw [foldB_yes ha, foldB_yes hb] at h
    rw [← (isN_low ha).2, h, (isN_low hb).2]
  · rintro ⟨ha, hb, h⟩
    refine ⟨ha, ?_⟩
    rw [foldB_yes ha, foldB_yes hb, ← putB_low_labs ha, h, putB_low_labs hb]
theorem eqB_ref (a b : ByteArray) : (isN a && isN b && ((foldB a).toList == (foldB b).toList)) = eqB a b := by
  rw [Bool.eq_iff_iff]
  constructor
  · intro h; simp only [Bool.and_eq_true] at h; unfold eqB; simp [h.1.1, h.2]
  · intro h
    have h2 := (eqB_iff a b).1 h
    unfold eqB at h
    simp only [Bool.and_eq_true] at h
    simp [h.1, h2.2.1, h.2]

theorem tailB_yes {s : ByteArray} {k : Nat} (h : isN s = true) (hk : k ≤ (labs s).length) : isN (tailB s k) = true ∧ labs (tailB s k) = (labs s).drop ((labs s).length - k) ∧ tailB s k = putB ((labs s).drop ((labs s).length - k)) := by
  have e : tailB s k = putB ((labs s).drop ((labs s).length - k)) := by
    unfold tailB; rw [if_pos ⟨h, by omega, by omega⟩, Int.toNat_natCast]
  have ho := (okL_labs s).drop ((labs s).length - k)
  rw [e]
  refine ⟨?_, labs_putB ho, rfl⟩
  rw [isN_putB ho, decide_eq_true_iff]
  have h1 := ((isN_iff s).1 h).1
  have h2 := putB_labs h
  have h3 : (putB (labs s)).size = s.size := by rw [h2]
  have h4 : labs s = (labs s).take ((labs s).length - k) ++ (labs s).drop ((labs s).length - k) := (List.take_append_drop _ _).symm
  rw [h4, putB_append, ByteArray.size_append] at h3
  omega
theorem tailB_no {s : ByteArray} {k : Int} (h : ¬ (isN s = true ∧ 0 ≤ k ∧ k ≤ (labs s).length)) : tailB s k = ByteArray.empty := by unfold tailB; rw [if_neg h]
theorem tailB_size (s : ByteArray) (k : Int) : (tailB s k).size ≤ 255 := by
  by_cases h : isN s = true ∧ 0 ≤ k ∧ k ≤ (labs s).length
  · obtain ⟨h1, h2, h3⟩ := h
    obtain ⟨q, rfl⟩ := Int.eq_ofNat_of_zero_le h2
    exact ((isN_iff _).1 (tailB_yes (k := q) h1 (by omega)).1).1
  · rw [tailB_no h]; exact Nat.zero_le _

/-- within -/
def withinB (n z : ByteArray) : Bool := eqB (tailB n (cntI z)) z
theorem eqB_tail {n z : ByteArray} {k : Int} (h : eqB (tailB n k) z = true) : isN n = true ∧ 0 ≤ k ∧ k ≤ (labs n).length ∧ isN z = true ∧ k = (labs z).length ∧ ((labs n).drop ((labs n).length - (labs z).length)).map lowB = (labs z).map lowB := by
  obtain ⟨h1, h2, h3⟩ := (eqB_iff _ _).1 h
  by_cases hc : isN n = true ∧ 0 ≤ k ∧ k ≤ (labs n).length
  · obtain ⟨c1, c2, c3⟩ := hc
    obtain ⟨q, rfl⟩ := Int.eq_ofNat_of_zero_le c2
    have hq : q ≤ (labs n).length := by omega
    obtain ⟨t1, t2, t3⟩ := tailB_yes c1 hq
    have hl := congrArg List.length h3
    rw [t2] at hl h3
    simp at hl
    have : q = (labs z).length := by omega
    refine ⟨c1, c2, c3, h2, by omega, ?_⟩
    rw [← this]; exact h3
  · rw [tailB_no hc, isN_empty] at h1; cases h1
theorem withinB_iff (n z : ByteArray) : withinB n z = true ↔ isN n = true ∧ isN z = true ∧ (labs z).length ≤ (labs n).length ∧ ((labs n).drop ((labs n).length - (labs z).length)).map lowB = (labs z).map lowB := by
  constructor
  · intro h
    obtain ⟨h1, h2, h3, h4, h5, h6⟩ := eqB_tail h
    rw [cntI_yes h4] at h3
    exact ⟨h1, h4, by omega, h6⟩
  · rintro ⟨h1, h2, h3, h4⟩
    unfold withinB
    rw [cntI_yes h2, eqB_iff]
    obtain ⟨t1, t2, t3⟩ := tailB_yes h1 h3
    exact ⟨t1, h2, by rw [t2]; exact h4⟩
/-- the reference's way: some tail is the zone's name -/
theorem within_some {n z : ByteArray} {k : Int} (h : eqB (tailB n k) z = true) : withinB n z = true := by
  obtain ⟨h1, h2, h3, h4, h5, h6⟩ := eqB_tail h
  exact (withinB_iff n z).2 ⟨h1, h4, by omega, h6⟩
theorem within_none {n z : ByteArray} (h : ∀ k : Nat, k ≤ (labs n).length → eqB (tailB n k) z = false) : withinB n z = false := by
  cases hw : withinB n z with
  | false => rfl
  | true =>
    obtain ⟨h1, h2, h3, h4⟩ := (withinB_iff n z).1 hw
    have := h _ h3
    unfold withinB at hw
    rw [cntI_yes h2, this] at hw; cases hw
theorem within_noName {n z : ByteArray} (h : isN n = false) : withinB n z = false := by
  cases hw : withinB n z with
  | false => rfl
  | true => have := ((withinB_iff n z).1 hw).1; rw [h] at this; cases this
end Go.Proofs.Ytfonnepnaeehhaa.Nm
