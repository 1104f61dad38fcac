import Derived.Test.YtennkhdhnbdbeaaGreatLowG
import Derived.Test.YtennkhdhnbdbeaaGreatSf1G
import Derived.Test.YtennkhdhnbdbeaaGreatSgcG
/-
  A name in large letters; the law's upper. (The verifier's own text.)
-/
namespace Go.Proofs.YtennkhdhnbdbeaaGreat.Nm
set_option linter.unusedVariables false
set_option linter.unusedSimpArgs false
/-- large letters -/
def upN (x : Nat) : Nat := if 97 ≤ x ∧ x ≤ 122 then x - 32 else x
def upU (b : UInt8) : UInt8 := if 97 ≤ b.toNat ∧ b.toNat ≤ 122 then b - 32 else b
def upB (s : ByteArray) : ByteArray := ⟨s.data.map upU⟩
theorem upU_toNat (b : UInt8) : (upU b).toNat = upN b.toNat := by
  unfold upU upN
  split
  · rename_i h; rw [UInt8.toNat_sub_of_le _ _ (by rw [UInt8.le_iff_toNat_le]; show 32 ≤ _; omega)]; rfl
  · rfl
theorem upB_size (s : ByteArray) : (upB s).size = s.size := Array.size_map
theorem upB_bt (s : ByteArray) (j : Nat) : bt (upB s) j = upN (bt s j) := by
  have hz := upB_size s
  unfold bt
  by_cases h : j < s.size
  · rw [dif_pos (by omega), dif_pos h]
    have : (upB s)[j]'(by omega) = upU (s[j]) := by
      show (s.data.map upU)[j]'_ = upU (s.data[j]'_)
      exact Array.getElem_map ..
    rw [this, upU_toNat]
  · rw [dif_neg (by omega), dif_neg h]; rfl
theorem upN_lt {x : Nat} (h : x < 256) : upN x < 256 := by unfold upN; split <;> omega
theorem upB_append (a b : ByteArray) : upB (a ++ b) = upB a ++ upB b := by
  have h1 := upB_size a
  have h2 := upB_size b
  apply ba_ext
  · rw [upB_size, ByteArray.size_append, ByteArray.size_append, h1, h2]
  · intro j _
    rw [upB_bt]
    by_cases h : j < a.size
    · rw [bt_append_left _ _ _ h, bt_append_left _ _ _ (by omega), upB_bt]
    · rw [bt_append_right _ _ _ (by omega), bt_append_right _ _ _ (by omega), upB_bt, h1]
theorem upB_chunk {x : ByteArray} (h : x.size ≤ 63) : chunk (upB x) = upB (chunk x) := by
  unfold chunk
  rw [upB_append, upB_size]
  congr 1
  apply ba_ext
  · rw [upB_size]
  · intro j hj
    have : j = 0 := by have : j < 1 := hj; omega
    subst this
    rw [upB_bt, bt_one _ (by omega), upN, if_neg (by omega)]
theorem upB_empty : upB ByteArray.empty = ByteArray.empty := by
  apply ba_ext
  · rw [upB_size]
  · intro j hj; rw [upB_size] at hj; exact absurd hj (Nat.not_lt_zero _)
theorem upB_zero : upB ⟨#[0]⟩ = ⟨#[0]⟩ := by
  apply ba_ext
  · rw [upB_size]
  · intro j hj
    rw [upB_size] at hj
    have : j = 0 := by have : j < 1 := hj; omega
    subst this
    rw [upB_bt]; rfl
theorem chunks_up (l : List ByteArray) (h : ∀ x ∈ l, x.size ≤ 63) : chunks (l.map upB) = upB (chunks l) := by
  induction l with
  | nil => exact upB_empty.symm
  | cons x l ih =>
    rw [List.map_cons, chunks_cons, chunks_cons, upB_append, upB_chunk (h x (by simp)), ih (fun y hy => h y (by simp [hy]))]
theorem putB_up (l : List ByteArray) (h : ∀ x ∈ l, x.size ≤ 63) : putB (l.map upB) = upB (putB l) := by
  unfold putB; rw [chunks_up l h, upB_append, upB_zero]
theorem putB_up_labs {s : ByteArray} (h : isN s = true) : putB ((labs s).map upB) = upB s := by
  rw [putB_up _ (fun x hx => (labs_mem hx).2), putB_labs h]
theorem OkL.up {l : List ByteArray} (h : OkL l) : OkL (l.map upB) := by
  intro x hx
  obtain ⟨y, hy, rfl⟩ := List.mem_map.1 hx
  rw [upB_size]; exact h y hy
theorem isN_up {s : ByteArray} (h : isN s = true) : isN (upB s) = true ∧ labs (upB s) = (labs s).map upB := by
  rw [← putB_up_labs h]
  refine ⟨?_, labs_putB (okL_labs s).up⟩
  rw [isN_putB (okL_labs s).up, putB_up_labs h, upB_size]
  simp [((isN_iff s).1 h).1]
theorem low_up (s : ByteArray) : lowB (upB s) = lowB s := by
  refine ba_ext (by rw [lowB_size, lowB_size, upB_size]) fun j _ => ?_
  rw [lowB_bt, lowB_bt, upB_bt]
  unfold lowN upN
  by_cases h : 97 ≤ bt s j ∧ bt s j ≤ 122
  · rw [if_pos h, if_pos (by omega), if_neg (by omega)]; omega
  · rw [if_neg h]
theorem fold_upper {s : ByteArray} (h : isN s = true) : foldB (upB s) = foldB s := by rw [foldB_yes (isN_up h).1, foldB_yes h, low_up]
theorem eq_upper {s : ByteArray} (h : isN s = true) : eqB (upB s) s = true := by unfold eqB; rw [(isN_up h).1, fold_upper h]; simp
end Go.Proofs.YtennkhdhnbdbeaaGreat.Nm
namespace Go.Proofs.YtennkhdhnbdbeaaGreat
set_option linter.unusedVariables false
open Go.RowKit Go.Shelf Go.Proofs.YtennkhdhnbdbeaaGreat.Nm

set_option maxRecDepth 100000 in
set_option maxHeartbeats 1000000 in
/-- gazetteerlaw4.upper -/
theorem upper_any (s : ByteArray) (w : World) (hs : s.size ≤ 1048576) :
    Calls Tryz.prog 14 #[.string s] w fun e w' => e = .returned (.string (upB s)) ∧ Below w.heap.size w w' := by
  have hcv := fun w' => run_bytes_of_string (P := Tryz.prog) w' 9 73 5 s Tryz.underlying9 Tryz.underlying73 Tryz.underlying5
  go_enter Tryz.func14, Tryz.ntmps14
  go_wp2
  go_loopw [9] (fun i wr => ∃ k : Nat, i = .int .i64 k ∧ k ≤ s.size ∧ HoldsB wr w.heap.size s.size (fun j => if j < k then upN (bt s j) else bt s j) ∧ Below w.heap.size w wr)
    (fun i _ => s.size - (intOf i).toNat)
  case atStart => exact ⟨0, rfl, Nat.zero_le _, ((holdsB_new _ _ _ _).drew).congr (by simp), ((Below.refl _ _).alloc (Nat.le_refl _) _).drew⟩
  case round =>
    obtain ⟨k, rfl, hk, hH, hB⟩ := hrel
    by_cases hlt : k < s.size
    · have hc := hH.cell k hlt
      have hfr := hH.free k hlt
      simp only [Nat.lt_irrefl, if_false] at hc
      obtain ⟨x, hx, hx256⟩ : ∃ x, bt s k = x ∧ x < 256 := ⟨_, rfl, bt_lt _ _⟩
      rw [hx] at hc
      have HX : Hid (bt s k = x) := hx
      clear hx
      have hnext : ∀ (W : World) (y : Nat), y = upN x → HoldsB W w.heap.size s.size (fun j => if j = k then y else if j < k then upN (bt s j) else bt s j) → HoldsB W w.heap.size s.size (fun j => if j < k + 1 then upN (bt s j) else bt s j) := by
        intro W y hy h
        refine h.congr fun j _ => ?_
        by_cases e : j = k
        · subst e; rw [if_pos rfl, if_pos (by omega), hy, HX.out]
        · rw [if_neg e]
          by_cases e2 : j < k
          · rw [if_pos e2, if_pos (by omega)]
          · rw [if_neg e2, if_neg (by omega)]
      have hstay : ∀ (W : World), upN x = x → HoldsB W w.heap.size s.size (fun j => if j < k then upN (bt s j) else bt s j) → HoldsB W w.heap.size s.size (fun j => if j < k + 1 then upN (bt s j) else bt s j) := by
        intro W hy h
        refine h.congr fun j _ => ?_
        by_cases e : j = k
        · subst e; rw [if_neg (by omega), if_pos (by omega), HX.out, hy]
        · by_cases e2 : j < k
          · rw [if_pos e2, if_pos (by omega)]
          · rw [if_neg e2, if_neg (by omega)]
      by_cases h65 : 97 ≤ x
      · by_cases h90 : x ≤ 122
        · go_wp2
          go_roundw
          case rel => exact ⟨k + 1, by go_num, hlt, hnext _ (x - 32) (by unfold upN; rw [if_pos ⟨h65, h90⟩]) (by have h := hH.set k (x - 32) hlt; rw [show ((x - 32 : Nat) : Int) = (x : Int) - 32 by omega] at h; exact h), hB.setCell (p := ⟨w.heap.size, k, none⟩) (Nat.le_refl _) _⟩
          case measure => simp [intOf]; omega
        · have h90' : 122 < x := by omega
          go_wp2
          go_roundw
          case rel => exact ⟨k + 1, by go_num, hlt, hstay _ (by unfold upN; rw [if_neg (by omega)]) hH, hB⟩
          case measure => simp [intOf]; omega
      · have h65' : x < 97 := by omega
        go_wp2
        go_roundw
        case rel => exact ⟨k + 1, by go_num, hlt, hstay _ (by unfold upN; rw [if_neg (by omega)]) hH, hB⟩
        case measure => simp [intOf]; omega
    · have hst : ∀ cap, (convert 73 9 (.slice (some ⟨w.heap.size, 0, none⟩) s.size cap)).run Tryz.prog wr = .ok (.string (upB s)) wr := fun cap => by
        have hz := upB_size s
        rw [← hz] at hH ⊢
        exact hH.str (fun j hj => by rw [if_pos (by omega), upB_bt]) cap
      go_wp2
      go_ret
      exact ⟨rfl, hB⟩
end Go.Proofs.YtennkhdhnbdbeaaGreat

/-
  SealRounds: in every order, whatever the ages and letters, plainly. (The verifier's own text.)
-/
namespace Go.Proofs.YtennkhdhnbdbeaaGreat.Nm
set_option linter.unusedVariables false
set_option linter.unusedSimpArgs false
theorem same_low {a b : ByteArray} (ha : isN a = true) (hb : isN b = true) (h : lowB a = lowB b) : isStarB a = isStarB b ∧ (labs a).length = (labs b).length ∧ lbI a = lbI b ∧ foldB a = foldB b := by
  have h1 : (labs a).map lowB = (labs b).map lowB := by rw [← (isN_low ha).2, ← (isN_low hb).2, h]
  have h2 : (labs a).length = (labs b).length := by have := congrArg List.length h1; simpa using this
  have hbt : ∀ j, lowN (bt a j) = lowN (bt b j) := fun j => by rw [← lowB_bt, ← lowB_bt, h]
  have hk : ∀ (j v : Nat), (v = 1 ∨ v = 42) → (bt a j = v ↔ bt b j = v) := fun j v hv => by
    have := hbt j
    unfold lowN at this
    split at this <;> split at this <;> omega
  have h3 : isStarB a = isStarB b := by
    unfold isStarB
    rw [ha, hb, Bool.true_and, Bool.true_and, Bool.eq_iff_iff, decide_eq_true_eq, decide_eq_true_eq, hk 0 1 (.inl rfl), hk 1 42 (.inr rfl)]
  refine ⟨h3, h2, ?_, ?_⟩
  · unfold lbI
    rw [h3, cntI_yes ha, cntI_yes hb, h2]
  · rw [foldB_yes ha, foldB_yes hb, h]
theorem eq_low {a b : ByteArray} (h : eqB a b = true) : isN a = true ∧ isN b = true ∧ lowB a = lowB b := by
  obtain ⟨h1, h2, h3⟩ := (eqB_iff a b).1 h
  refine ⟨h1, h2, ?_⟩
  rw [← putB_low_labs h1, ← putB_low_labs h2, h3]
theorem eq_of_low {a b : ByteArray} (ha : isN a = true) (hb : isN b = true) (h : lowB a = lowB b) : eqB a b = true := by
  refine (eqB_iff a b).2 ⟨ha, hb, ?_⟩
  rw [← (isN_low ha).2, ← (isN_low hb).2, h]
theorem within_low {a b z : ByteArray} (ha : isN a = true) (hb : isN b = true) (h : lowB a = lowB b) (hw : withinB b z = true) : withinB a z = true := by
  obtain ⟨h1, h2, h3, h4⟩ := (withinB_iff b z).1 hw
  have e1 : (labs a).map lowB = (labs b).map lowB := by rw [← (isN_low ha).2, ← (isN_low hb).2, h]
  have e2 := (same_low ha hb h).2.1
  refine (withinB_iff a z).2 ⟨ha, h2, by omega, ?_⟩
  rw [List.map_drop, e1, e2, ← List.map_drop]
  exact h4
theorem ow_low {a b : ByteArray} (ha : isN a = true) (hb : isN b = true) (h : lowB a = lowB b) : owB (lbI b) a = owB (lbI b) b := by
  obtain ⟨-, -, h3, h4⟩ := same_low ha hb h
  unfold owB
  rw [h3, if_neg (by omega), if_neg (by omega), h4]
end Go.Proofs.YtennkhdhnbdbeaaGreat.Nm
namespace Go.Proofs.YtennkhdhnbdbeaaGreat
set_option linter.unusedVariables false
set_option linter.unusedSimpArgs false
open Go.RowKit Go.Shelf Go.Sort Go.Proofs.YtennkhdhnbdbeaaGreat.Nm

theorem list_splitR {L : List Rn} {j : Nat} (hj : j < L.length) : L = L.take j ++ L[j] :: L.drop (j + 1) := by
  rw [← List.drop_eq_getElem_cons hj, List.take_append_drop]
/-- the first and another change places -/
def swR (L : List Rn) (j : Nat) : List Rn := if h : 1 ≤ j ∧ j < L.length then (L.set 0 L[j]).set j (L[0]'(by omega)) else L
theorem swR_perm (L : List Rn) (j : Nat) : (swR L j).Perm L := by
  unfold swR
  split
  · rename_i h
    cases L with
    | nil => simp at h
    | cons a l =>
      obtain ⟨k, rfl⟩ : ∃ k, j = k + 1 := ⟨j - 1, by omega⟩
      have hk : k < l.length := by have := h.2; simp only [List.length_cons] at this; omega
      show ((l[k] :: l).set (k + 1) a).Perm (a :: l)
      rw [List.set_cons_succ, List.set_eq_take_append_cons_drop, if_pos hk]
      have e : a :: l = a :: (l.take k ++ l[k] :: l.drop (k + 1)) := by rw [← list_splitR hk]
      rw [e]
      exact ((List.perm_middle.cons l[k]).trans (List.Perm.swap _ _ _)).trans (List.perm_middle.symm.cons a)
  · exact List.Perm.refl _
theorem swR_len (L : List Rn) (j : Nat) : (swR L j).length = L.length := (swR_perm L j).length_eq
def turnL (L : List Rn) (js : List Int) : List Rn := js.foldl (fun L j => if 1 ≤ j then swR L j.toNat else L) L
theorem turnL_snoc (L : List Rn) (js : List Int) (j : Int) : turnL L (js ++ [j]) = if 1 ≤ j then swR (turnL L js) j.toNat else turnL L js := by
  unfold turnL
  rw [List.foldl_append]
  rfl
theorem turnL_perm (L : List Rn) (js : List Int) : (turnL L js).Perm L := by
  unfold turnL
  induction js generalizing L with
  | nil => exact List.Perm.refl _
  | cons j js ih =>
    show (js.foldl _ (if 1 ≤ j then swR L j.toNat else L)).Perm L
    refine (ih _).trans ?_
    split
    · exact swR_perm _ _
    · exact List.Perm.refl _
/-- a record in large letters, of another age -/
def upR (age : Int) (r : Rn) : Rn := ⟨upB r.o, r.t, r.c, if 0 ≤ age ∧ age ≤ 2147483647 then age else r.l, r.d⟩
theorem srt_perm {l m : List (List UInt8)} (h : l.Perm m) : srt l = srt m := by
  unfold srt
  have tr : ∀ a b c : List UInt8, decide (a ≤ b) = true → decide (b ≤ c) = true → decide (a ≤ c) = true := fun a b c h1 h2 => decide_eq_true (List.le_trans (of_decide_eq_true h1) (of_decide_eq_true h2))
  have to : ∀ a b : List UInt8, (decide (a ≤ b) || decide (b ≤ a)) = true := fun a b => by
    rcases List.le_total a b with h | h
    · rw [decide_eq_true h]; rfl
    · rw [decide_eq_true h, Bool.or_true]
  have p1 := List.pairwise_mergeSort tr to l
  have p2 := List.pairwise_mergeSort tr to m
  refine List.Perm.eq_of_pairwise (le := fun a b => decide (a ≤ b) = true) ?_ p1 p2 ((List.mergeSort_perm _ _).trans (h.trans (List.mergeSort_perm _ _).symm))
  intro a b _ _ h1 h2
  exact List.le_antisymm (of_decide_eq_true h1) (of_decide_eq_true h2)
theorem fdL_up (age : Int) (L : List Rn) : fdL (L.map (upR age)) = fdL L := by
  unfold fdL
  rw [List.map_map]
  rfl
theorem set_facts {L : List Rn} (h : setOK L = true) : (hdR L).t ≠ 46 ∧ hdR L ∈ L ∧ (∀ r ∈ L, zonB r.o r.d r.t r.c r.l = true ∧ r.t = (hdR L).t ∧ eqB r.o (hdR L).o = true) ∧ (Lib.compact (srt (fdL L))).length = L.length := by
  have hp := setOK_pos h
  rw [setOK_eq hp, hdR_eq hp] at h
  simp only [Bool.and_eq_true, Bool.not_eq_true', beq_iff_eq, List.any_eq_false, beq_eq_false_iff_ne] at h
  obtain ⟨⟨h1, h2⟩, h3⟩ := h
  refine ⟨h1, by rw [← hdR_eq hp]; exact List.getElem_mem hp, fun r hr => ?_, h3⟩
  have h4 := h2 r hr
  unfold strB at h4
  simp only [Bool.or_eq_true, Bool.not_eq_true', bne_iff_ne, ne_eq, not_or, Bool.not_eq_false, Decidable.not_not] at h4
  exact ⟨h4.1.1, h4.1.2, h4.2⟩
theorem set_of {L : List Rn} (hp : 0 < L.length) (h1 : (hdR L).t ≠ 46) (h2 : ∀ r ∈ L, zonB r.o r.d r.t r.c r.l = true ∧ r.t = (hdR L).t ∧ eqB r.o (hdR L).o = true) (h3 : (Lib.compact (srt (fdL L))).length = L.length) : setOK L = true := by
  rw [setOK_eq hp, hdR_eq hp]
  simp only [Bool.and_eq_true, Bool.not_eq_true', beq_iff_eq, List.any_eq_false, beq_eq_false_iff_ne]
  refine ⟨⟨h1, fun r hr => ?_⟩, h3⟩
  obtain ⟨a, b, c⟩ := h2 r hr
  unfold strB
  rw [a, c]
  simp [b]
/-- the set behind the turns -/
theorem turned {L : List Rn} (h : setOK L = true) (js : List Int) (age : Int) :
    setOK ((turnL L js).map (upR age)) = true ∧ ((turnL L js).map (upR age)).length = L.length ∧ srt (fdL ((turnL L js).map (upR age))) = srt (fdL L) ∧
    isN (hdR ((turnL L js).map (upR age))).o = true ∧ lowB (hdR ((turnL L js).map (upR age))).o = lowB (hdR L).o ∧ (hdR ((turnL L js).map (upR age))).t = (hdR L).t ∧ isN (hdR L).o = true := by
  obtain ⟨h1, h2, h3, h4⟩ := set_facts h
  have hpm := turnL_perm L js
  have hl : ((turnL L js).map (upR age)).length = L.length := by rw [List.length_map, hpm.length_eq]
  have hs : srt (fdL ((turnL L js).map (upR age))) = srt (fdL L) := by
    rw [fdL_up]
    apply srt_perm
    unfold fdL
    exact hpm.map _
  have hp : 0 < ((turnL L js).map (upR age)).length := by rw [hl]; exact setOK_pos h
  have hm : ∀ r ∈ (turnL L js).map (upR age), ∃ x ∈ L, r = upR age x := fun r hr => by
    obtain ⟨x, hx, rfl⟩ := List.mem_map.1 hr
    exact ⟨x, hpm.mem_iff.1 hx, rfl⟩
  obtain ⟨x0, hx0, e0⟩ := hm (hdR _) (by rw [← hdR_eq hp]; exact List.getElem_mem hp)
  obtain ⟨z0, t0, q0⟩ := h3 x0 hx0
  obtain ⟨n0, n1, n2⟩ := eq_low q0
  have hno : isN (upB x0.o) = true := (isN_up n0).1
  rw [e0]
  refine ⟨?_, hl, hs, hno, by show lowB (upB x0.o) = _; rw [low_up, n2], t0, n1⟩
  refine set_of hp ?_ ?_ (by rw [hs, h4, hl])
  · rw [e0]; show x0.t ≠ 46; rw [t0]; exact h1
  · intro r hr
    obtain ⟨x, hx, rfl⟩ := hm r hr
    obtain ⟨z, t, q⟩ := h3 x hx
    obtain ⟨m0, m1, m2⟩ := eq_low q
    rw [e0]
    refine ⟨?_, ?_, ?_⟩
    · unfold zonB at z ⊢
      simp only [Bool.and_eq_true, decide_eq_true_eq] at z ⊢
      obtain ⟨⟨⟨⟨z1, z2⟩, z3⟩, z4⟩, z5⟩ := z
      refine ⟨⟨⟨⟨(isN_up m0).1, z2⟩, ?_⟩, ?_⟩, z5⟩
      · show 0 ≤ (if 0 ≤ age ∧ age ≤ 2147483647 then age else x.l); split
        · rename_i h; exact h.1
        · exact z3
      · show (if 0 ≤ age ∧ age ≤ 2147483647 then age else x.l) ≤ (2147483647 : Int); split
        · rename_i h; exact h.2
        · exact z4
    · show x.t = x0.t; rw [t, t0]
    · show eqB (upB x.o) (upB x0.o) = true
      exact eq_of_low (isN_up m0).1 hno (by rw [low_up, low_up, m2, n2])
end Go.Proofs.YtennkhdhnbdbeaaGreat
