import Derived.Test.YtiaccimdjfdkgaaGreatDoorMath15G
import Derived.Test.YtiaccimdjfdkgaaGreatDoorMath13G
import Derived.Test.YtiaccimdjfdkgaaGreatDoorMath8G
import Derived.Test.YtiaccimdjfdkgaaGreatDoorRdbG
namespace Go.Proofs.YtiaccimdjfdkgaaGreatDoor.Nm
set_option linter.unusedVariables false

/-- rows of bytes, each with its length ahead -/
def wireL (l : List (List Nat)) : List Nat := l.flatMap (fun now => now.length :: now)
theorem wireL_snoc (l : List (List Nat)) (now : List Nat) : wireL (l ++ [now]) = wireL l ++ now.length :: now := by simp [wireL]
theorem bts_wireL : ∀ l : List (List Nat), bts (wireL l) = chunks (l.map bts)
  | [] => rfl
  | now :: l => by
    have e : wireL (now :: l) = [now.length] ++ (now ++ wireL l) := by simp [wireL]
    rw [e, bts_append, bts_append, bts_wireL l, List.map_cons, chunks_cons, chunk, bts_size, ← ByteArray.append_assoc]
    rfl
theorem wireL_lt {l : List (List Nat)} (h : ∀ now ∈ l, now.length ≤ 63 ∧ ∀ x ∈ now, x < 256) : ∀ x ∈ wireL l, x < 256 := by
  intro x hx
  obtain ⟨now, h1, h2⟩ := List.mem_flatMap.1 hx
  have := h now h1
  rcases List.mem_cons.1 h2 with rfl | h3
  · omega
  · exact this.2 x h3
theorem wireL_len (l : List (List Nat)) : (wireL l).length = (chunks (l.map bts)).size := by rw [← bts_wireL, bts_size]

/-- where all is well the place is none, and the labels are no longer than the text bears -/
theorem scan_ok (t : ByteArray) : ∀ (f k first : Nat) (now : List Nat) (l : List ByteArray) (S : Scan), scan t f k first now l = S → S.code = 0 → now.length ≤ 63 → k ≤ t.size →
    S.place = 0 ∧ (chunks S.labels).size ≤ (chunks l).size + 64 * (t.size - k) + 64
  | 0, k, first, now, l, S, h, hc, hn, hk => by
    subst h
    refine ⟨rfl, ?_⟩
    show (chunks (if now = [] then l else l ++ [bts now])).size ≤ _
    split
    · omega
    · rw [chunks_snoc, ByteArray.size_append, chunk_size, bts_size]; omega
  | f + 1, k, first, now, l, S, h, hc, hn, hk => by
    unfold scan at h
    split at h
    · subst h
      refine ⟨rfl, ?_⟩
      show (chunks (if now = [] then l else l ++ [bts now])).size ≤ _
      split
      · omega
      · rw [chunks_snoc, ByteArray.size_append, chunk_size, bts_size]; omega
    · next h1 =>
      split at h
      · split at h
        · subst h; simp at hc
        · have := scan_ok t f _ _ _ _ S h hc (by simp) (by omega)
          refine ⟨this.1, Nat.le_trans this.2 ?_⟩
          rw [chunks_snoc, ByteArray.size_append, chunk_size, bts_size]; omega
      · split at h
        · subst h; simp at hc
        · next hp =>
          split at h
          · subst h; simp at hc
          · have hq := (pc_le (t.extract k t.size) (by rw [size_extract' _ _ _ (Nat.le_refl _)]; omega)).1
            rw [size_extract' _ _ _ (Nat.le_refl _)] at hq
            have := scan_ok t f _ _ _ _ S h hc (by simp; omega) (by omega)
            refine ⟨this.1, Nat.le_trans this.2 ?_⟩
            omega
theorem scan_zero (t : ByteArray) (first k : Nat) (l m : List ByteArray) (b : Bool) (hs : scanT t 0 first [] m = ⟨0, k, l, b⟩) : k = 0 :=
  (scan_ok t _ 0 first [] m _ hs rfl (by simp) (Nat.zero_le _)).1
theorem scan_size (t : ByteArray) {l : List ByteArray} {b : Bool} (hs : scanT t 0 0 [] [] = ⟨0, 0, l, b⟩) (ht : t.size ≤ 1048576) : (chunks l).size ≤ 67108928 := by
  have := (scan_ok t _ 0 0 [] [] _ hs rfl (by simp) (Nat.zero_le _)).2
  have e : (chunks []).size = 0 := rfl
  simp only at this
  omega

/-- what is read of a text that tells labels -/
theorem putB_whole (l : List ByteArray) : putB (l ++ []) = chunks l ++ bts [0] := by rw [List.append_nil]; rfl
theorem putB_rest {o : ByteArray} (h : isN o = true) (l : List ByteArray) : putB (l ++ labs o) = chunks l ++ o := by
  conv => rhs; rw [← putB_labs h]
  unfold putB
  rw [chunks_append, ByteArray.append_assoc]
theorem readB_err {t o : ByteArray} (h : isN o = true) (h0 : t.size ≠ 0) (h64 : t ≠ bts [64]) (h46 : t ≠ bts [46]) {c k : Nat} {l : List ByteArray} {b : Bool} (hs : scanT t 0 0 [] [] = ⟨c, k, l, b⟩) (hc : c ≠ 0) : readB t o = (ByteArray.empty, k, c) := by
  unfold readB; rw [if_neg (by rw [h]; decide), if_neg h0, if_neg h64, if_neg h46, hs, if_pos hc]
theorem readB_fin {t o : ByteArray} (h : isN o = true) (h0 : t.size ≠ 0) (h64 : t ≠ bts [64]) (h46 : t ≠ bts [46]) {l : List ByteArray} {b : Bool} (hs : scanT t 0 0 [] [] = ⟨0, 0, l, b⟩) :
    (255 < (putB (l ++ (if b = true then [] else labs o))).size → readB t o = (ByteArray.empty, 0, 4)) ∧ ((putB (l ++ (if b = true then [] else labs o))).size ≤ 255 → readB t o = (putB (l ++ (if b = true then [] else labs o)), 0, 0)) := by
  refine ⟨fun hl => ?_, fun hl => ?_⟩
  · unfold readB; rw [if_neg (by rw [h]; decide), if_neg h0, if_neg h64, if_neg h46, hs, if_neg (by simp), if_pos hl]
  · unfold readB; rw [if_neg (by rw [h]; decide), if_neg h0, if_neg h64, if_neg h46, hs, if_neg (by simp), if_neg (Nat.not_lt.2 hl)]
theorem pc_some {t : ByteArray} {k : Nat} (h : k < t.size) : (pc (t.extract k t.size)).2 ≤ t.size - k ∧ (pc (t.extract k t.size)).1 < 256 := by
  have hz : (t.extract k t.size).size = t.size - k := size_extract' _ _ _ (Nat.le_refl _)
  have := pc_le (t.extract k t.size) (by omega)
  rw [hz] at this; exact this
end Go.Proofs.YtiaccimdjfdkgaaGreatDoor.Nm

namespace Go.Proofs.YtiaccimdjfdkgaaGreatDoor.Nm
set_option linter.unusedVariables false

theorem marks_dig {b : Nat} (h : amB marks b = true) : isD b = false ∧ b ≠ 0 := by
  unfold amB at h
  rw [List.any_eq_true] at h
  obtain ⟨j, hj, he⟩ := h
  have hj' : j < 8 := List.mem_range.1 hj
  have hb := eq_of_beq he
  have : ∀ i, i < 8 → isD (bt marks i) = false ∧ bt marks i ≠ 0 := by decide +kernel
  have := this j hj'
  rw [hb] at this; exact this
theorem am92 : amB marks 92 = true := by decide +kernel
theorem am46 : amB marks 46 = true := by decide +kernel

/-- what stands first in a written byte, whatever follows, is that byte -/
theorem pc_shL {b : Nat} (hb : b < 256) (rst : List Nat) (hr : ∀ x ∈ rst, x < 256) : pc (bts (shL b ++ rst)) = (b, (shL b).length) ∧ bt (bts (shL b ++ rst)) 0 ≠ 46 := by
  have hlt : ∀ x ∈ shL b ++ rst, x < 256 := by
    intro x hx
    rcases List.mem_append.1 hx with h | h
    · exact shL_lt hb x h
    · exact hr x h
  have hz := bts_size (shL b ++ rst)
  have hbt := bts_bt (shL b ++ rst) hlt
  by_cases hm : amB marks b = true
  · rw [shL_marked hm] at hz hbt ⊢
    have e0 := hbt 0 (by simp)
    have e1 := hbt 1 (by simp)
    simp at e0 e1 hz
    have hd := (marks_dig hm).1
    refine ⟨?_, by simp [e0]⟩
    unfold pc
    simp only [List.cons_append, List.nil_append] at *
    rw [e0, if_neg (by omega), if_neg (by omega), e1, if_pos hd]
    rfl
  · have hm' : amB marks b = false := by simpa using hm
    by_cases he : b < 33 ∨ 126 < b
    · rw [shL_esc he] at hz hbt ⊢
      obtain ⟨R, hR⟩ : ∃ R, bts (escL b ++ rst) = R := ⟨_, rfl⟩
      rw [hR] at hz ⊢
      simp only [hR] at hbt
      have e0 := hbt 0 (by simp [escL])
      have e1 := hbt 1 (by simp [escL])
      have e2 := hbt 2 (by simp [escL])
      have e3 := hbt 3 (by simp [escL])
      simp [escL] at e0 e1 e2 e3 hz
      refine ⟨?_, by rw [e0]; decide⟩
      unfold pc
      have hd1 : isD (48 + b / 100) = true := by unfold isD; exact decide_eq_true (by omega)
      have hd2 : isD (48 + b / 10 % 10) = true := by unfold isD; exact decide_eq_true (by omega)
      have hd3 : isD (48 + b % 10) = true := by unfold isD; exact decide_eq_true (by omega)
      have hdv : dv R 3 = b := by
        simp only [dv]; rw [e1, e2, e3]; omega
      rw [e0, if_neg (by omega), if_neg (by omega), e1, e2, e3, hd1, hd2, hd3, if_neg (by decide), if_neg (by simp; omega), hdv, if_neg (by omega)]
      rfl
    · rw [shL_plain hm' (by omega) (by omega)] at hz hbt ⊢
      have e0 := hbt 0 (by simp)
      simp at e0 hz
      have h92 : b ≠ 92 := fun e => by subst e; rw [am92] at hm'; cases hm'
      have h46 : b ≠ 46 := fun e => by subst e; rw [am46] at hm'; cases hm'
      refine ⟨?_, by simp [e0]; exact h46⟩
      unfold pc
      simp only [List.cons_append, List.nil_append] at *
      rw [e0, if_pos h92]
      rfl

theorem shTo_split (x : ByteArray) (j : Nat) : ∀ n, j < n → ∃ tl, shTo x n = shTo x j ++ shL (bt x j) ++ tl
  | 0, h => by omega
  | n + 1, h => by
    by_cases e : j = n
    · subst e; exact ⟨[], by simp [shTo]⟩
    · obtain ⟨tl, ht⟩ := shTo_split x j n (by omega)
      exact ⟨tl ++ shL (bt x n), by simp [shTo, ht]⟩
theorem shTo_ge (x : ByteArray) : ∀ n, n ≤ (shTo x n).length
  | 0 => Nat.zero_le _
  | n + 1 => by
    have h1 := shTo_ge x n
    have h2 := (shL_len (bt x n)).1
    simp only [shTo, List.length_append]; omega

theorem bts_drop (l : List Nat) (k : Nat) (hk : k ≤ l.length) : (bts l).extract k (bts l).size = bts (l.drop k) := by
  conv => lhs; rw [← List.take_append_drop k l, bts_append]
  have hz : (bts (l.take k)).size = k := by rw [bts_size, List.length_take]; omega
  refine ba_ext ?_ fun j hj => ?_
  · rw [size_extract' _ _ _ (Nat.le_refl _), ByteArray.size_append, hz]; omega
  · rw [size_extract' _ _ _ (Nat.le_refl _), ByteArray.size_append, hz] at hj
    rw [bt_extract _ _ _ _ (by rw [ByteArray.size_append, hz]; omega) (Nat.le_refl _), bt_append_right _ _ _ (by omega), hz]
    congr 1; omega
/-- the written labels, label by label -/
theorem scan_label (pre : List Nat) (x : ByteArray) (post : List Nat) (hp : ∀ y ∈ pre, y < 256) (hq : ∀ y ∈ post, y < 256) (hx : x.size ≤ 63) (L : List ByteArray) : ∀ j, j ≤ x.size →
    scanT (bts (pre ++ (shTo x x.size ++ (46 :: post)))) pre.length pre.length [] L = scanT (bts (pre ++ (shTo x x.size ++ (46 :: post)))) (pre.length + (shTo x j).length) pre.length (lst x j) L
  | 0, _ => by simp [shTo, lst]
  | j + 1, h => by
    have ih := scan_label pre x post hp hq hx L j (by omega)
    rw [ih]
    obtain ⟨tl, htl⟩ := shTo_split x j x.size (by omega)
    have hlt : ∀ y ∈ tl ++ 46 :: post, y < 256 := by
      intro y hy
      rcases List.mem_append.1 hy with h | h
      · exact shTo_lt x x.size y (by rw [htl]; exact List.mem_append_right _ h)
      · rcases List.mem_cons.1 h with rfl | h
        · omega
        · exact hq y h
    have hT : pre ++ (shTo x x.size ++ (46 :: post)) = (pre ++ shTo x j) ++ (shL (bt x j) ++ (tl ++ 46 :: post)) := by
      rw [htl]; simp
    have hk : pre.length + (shTo x j).length = (pre ++ shTo x j).length := by simp
    have hdr : (bts (pre ++ (shTo x x.size ++ (46 :: post)))).extract (pre.length + (shTo x j).length) (bts (pre ++ (shTo x x.size ++ (46 :: post)))).size = bts (shL (bt x j) ++ (tl ++ 46 :: post)) := by
      rw [hT, hk, bts_drop _ _ (by simp only [List.length_append]; omega), List.drop_left]
    obtain ⟨hpc, h46⟩ := pc_shL (bt_lt x j) (tl ++ 46 :: post) hlt
    have hpos := (shL_len (bt x j)).1
    have hsz : pre.length + (shTo x j).length < (bts (pre ++ (shTo x x.size ++ (46 :: post)))).size := by
      rw [bts_size, hT]; simp only [List.length_append]; omega
    have hne : bt (bts (pre ++ (shTo x x.size ++ (46 :: post)))) (pre.length + (shTo x j).length) ≠ 46 := by
      have e := bt_extract (bts (pre ++ (shTo x x.size ++ (46 :: post)))) (pre.length + (shTo x j).length) (bts (pre ++ (shTo x x.size ++ (46 :: post)))).size 0 (by omega) (Nat.le_refl _)
      rw [hdr, Nat.add_zero] at e
      rw [← e]; exact h46
    rw [scanT_byte hsz hne (by rw [hdr, hpc]; show (shL (bt x j)).length ≠ 0; omega) (by rw [lst_len]; omega), hdr, hpc, lst_succ]
    congr 1
    simp [shTo]; omega
theorem scan_labels (all : List ByteArray) (hall : OkL all) : ∀ (l pre : List ByteArray), all = pre ++ l →
    scanT (bts (shAll all)) 0 0 [] [] = scanT (bts (shAll all)) (shAll pre).length (shAll pre).length [] pre → scanT (bts (shAll all)) 0 0 [] [] = ⟨0, 0, all, true⟩
  | [], pre, h, hs => by
    rw [List.append_nil] at h
    subst h
    rw [hs, scanT_end (by rw [bts_size]; exact Nat.le_refl _)]
    simp
  | x :: l, pre, h, hs => by
    have hx := hall x (by rw [h]; simp)
    have hlt : ∀ (m : List ByteArray), ∀ y ∈ shAll m, y < 256 := by
      intro m y hy
      obtain ⟨z, _, hz⟩ := List.mem_flatMap.1 hy
      rcases List.mem_append.1 hz with h | h
      · exact shTo_lt z _ y h
      · simp at h; omega
    have hT : shAll all = shAll pre ++ (shTo x x.size ++ (46 :: shAll l)) := by rw [h]; simp [shAll, shLab]
    refine scan_labels all hall l (pre ++ [x]) (by rw [h]; simp) ?_
    have h1 := scan_label (shAll pre) x (shAll l) (hlt pre) (hlt l) hx.2 pre x.size (Nat.le_refl _)
    rw [← hT] at h1
    rw [hs, h1]
    have hk : (shAll pre).length + (shTo x x.size).length < (bts (shAll all)).size := by rw [bts_size, hT]; simp
    have h46 : bt (bts (shAll all)) ((shAll pre).length + (shTo x x.size).length) = 46 := by
      rw [bts_bt _ (hlt all) _ (by rw [bts_size] at hk; exact hk)]
      have e : shAll all = (shAll pre ++ shTo x x.size) ++ (46 :: shAll l) := by rw [hT]; simp
      simp only [e]
      rw [List.getElem_append_right (by simp)]
      simp
    have hne : lst x x.size ≠ [] := by
      intro e; have := lst_len x x.size; rw [e] at this; simp at this; omega
    rw [scanT_dot hk h46 hne, bts_lst, shAll_snoc]
    simp [shLab, Nat.add_assoc]

/-- what is told of a name is read as that name -/
theorem read_show {n o : ByteArray} (hn : isN n = true) (ho : isN o = true) : readB (showB n) o = (n, 0, 0) := by
  by_cases hl : (labs n).length = 0
  · rw [showB_root hn hl, readB_dot ho rfl]
    have h1 : labs n = [] := List.length_eq_zero_iff.1 hl
    have h2 := putB_labs hn
    rw [h1, labs_nil_putB] at h2
    rw [← h2]; rfl
  · have hall := okL_labs n
    have hs := scan_labels (labs n) hall (labs n) [] (by simp) (by simp [shAll])
    rw [showB_yes hn (by omega)]
    obtain ⟨x, l, hxl⟩ : ∃ x l, labs n = x :: l := by
      cases h : labs n with
      | nil => rw [h] at hl; simp at hl
      | cons x l => exact ⟨x, l, rfl⟩
    have hx := hall x (by rw [hxl]; simp)
    have hsz : 2 ≤ (bts (shAll (labs n))).size := by
      rw [bts_size, hxl]
      have e : (shAll (x :: l)).length = (shTo x x.size).length + 1 + (shAll l).length := by simp [shAll, shLab]; omega
      have : x.size ≤ (shTo x x.size).length := shTo_ge x x.size
      omega
    have hf := readB_fin ho (by omega) (fun e => by rw [e, bts_size] at hsz; simp at hsz) (fun e => by rw [e, bts_size] at hsz; simp at hsz) hs
    rw [if_pos rfl, List.append_nil, putB_labs hn] at hf
    exact hf.2 ((isN_iff n).1 hn).1
theorem showB_size {n : ByteArray} (hn : isN n = true) : (showB n).size ≤ 1048576 := by
  have h255 := ((isN_iff n).1 hn).1
  by_cases hl : (labs n).length = 0
  · rw [showB_root hn hl, bts_size]; simp
  · rw [showB_yes hn (by omega), bts_size]
    have h1 := shAll_len (labs n)
    have h2 := putB_size (labs n)
    rw [putB_labs hn] at h2
    omega
end Go.Proofs.YtiaccimdjfdkgaaGreatDoor.Nm
