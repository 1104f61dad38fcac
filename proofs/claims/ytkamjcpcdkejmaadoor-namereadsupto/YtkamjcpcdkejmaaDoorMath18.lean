import Derived.Test.YtkamjcpcdkejmaaDoorMath17
namespace Go.Proofs.YtkamjcpcdkejmaaDoor.Nm
set_option linter.unusedVariables false

/-- rows of bytes, each with its length ahead -/
def wireL (l : List (List Nat)) : List Nat := l.flatMap (fun now => now.length :: now)
theorem wireL_snoc (l : List (List Nat)) (now : List Nat) : wireL (l ++ [now]) = wireL l ++ now.length :: now := by simp [wireL]
theorem bts_wireL : ∀ l : List (List Nat), bts (wireL l) = chunks (l.map bts)
  | [] => rfl
  | now :: l => by
    have e : wireL (now :: l) = [now.length] ++ (now ++ wireL l) := by simp [wireL]
    rw [e, bts_append, bts_append, bts_wireL l, List.map_cons, chunks_cons, chunk, bts_size, ← ByteArray.append_assoc]
    rfl
theorem wireL_lt {l : List (List Nat)} (h : ∀ now ∈ l, now.length ≤ 63 ∧ ∀ x ∈ now, x < 256) : ∀ x ∈ wireL l, x < 256 := by
  intro x hx
  obtain ⟨now, h1, h2⟩ := List.mem_flatMap.1 hx
  have := h now h1
  rcases List.mem_cons.1 h2 with rfl | h3
  · omega
  · exact this.2 x h3
theorem wireL_len (l : List (List Nat)) : (wireL l).length = (chunks (l.map bts)).size := by rw [← bts_wireL, bts_size]

/-- where all is well the place is none, and the labels are no longer than the text bears -/
theorem scan_ok (t : ByteArray) : ∀ (f k first : Nat) (now : List Nat) (l : List ByteArray) (S : Scan), scan t f k first now l = S → S.code = 0 → now.length ≤ 63 → k ≤ t.size →
    S.place = 0 ∧ (chunks S.labels).size ≤ (chunks l).size + 64 * (t.size - k) + 64
  | 0, k, first, now, l, S, h, hc, hn, hk => by
    subst h
    refine ⟨rfl, ?_⟩
    show (chunks (if now = [] then l else l ++ [bts now])).size ≤ _
    split
    · omega
    · rw [chunks_snoc, ByteArray.size_append, chunk_size, bts_size]; omega
  | f + 1, k, first, now, l, S, h, hc, hn, hk => by
    unfold scan at h
    split at h
    · subst h
      refine ⟨rfl, ?_⟩
      show (chunks (if now = [] then l else l ++ [bts now])).size ≤ _
      split
      · omega
      · rw [chunks_snoc, ByteArray.size_append, chunk_size, bts_size]; omega
    · next h1 =>
      split at h
      · split at h
        · subst h; simp at hc
        · have := scan_ok t f _ _ _ _ S h hc (by simp) (by omega)
          refine ⟨this.1, Nat.le_trans this.2 ?_⟩
          rw [chunks_snoc, ByteArray.size_append, chunk_size, bts_size]; omega
      · split at h
        · subst h; simp at hc
        · next hp =>
          split at h
          · subst h; simp at hc
          · have hq := (pc_le (t.extract k t.size) (by rw [size_extract' _ _ _ (Nat.le_refl _)]; omega)).1
            rw [size_extract' _ _ _ (Nat.le_refl _)] at hq
            have := scan_ok t f _ _ _ _ S h hc (by simp; omega) (by omega)
            refine ⟨this.1, Nat.le_trans this.2 ?_⟩
            omega
theorem scan_zero (t : ByteArray) (first k : Nat) (l m : List ByteArray) (b : Bool) (hs : scanT t 0 first [] m = ⟨0, k, l, b⟩) : k = 0 :=
  (scan_ok t _ 0 first [] m _ hs rfl (by simp) (Nat.zero_le _)).1
theorem scan_size (t : ByteArray) {l : List ByteArray} {b : Bool} (hs : scanT t 0 0 [] [] = ⟨0, 0, l, b⟩) (ht : t.size ≤ 1048576) : (chunks l).size ≤ 67108928 := by
  have := (scan_ok t _ 0 0 [] [] _ hs rfl (by simp) (Nat.zero_le _)).2
  have e : (chunks []).size = 0 := rfl
  simp only at this
  omega

/-- what is read of a text that tells labels -/
theorem putB_whole (l : List ByteArray) : putB (l ++ []) = chunks l ++ bts [0] := by rw [List.append_nil]; rfl
theorem putB_rest {o : ByteArray} (h : isN o = true) (l : List ByteArray) : putB (l ++ labs o) = chunks l ++ o := by
  conv => rhs; rw [← putB_labs h]
  unfold putB
  rw [chunks_append, ByteArray.append_assoc]
theorem readB_err {t o : ByteArray} (h : isN o = true) (h0 : t.size ≠ 0) (h64 : t ≠ bts [64]) (h46 : t ≠ bts [46]) {c k : Nat} {l : List ByteArray} {b : Bool} (hs : scanT t 0 0 [] [] = ⟨c, k, l, b⟩) (hc : c ≠ 0) : readB t o = (ByteArray.empty, k, c) := by
  unfold readB; rw [if_neg (by rw [h]; decide), if_neg h0, if_neg h64, if_neg h46, hs, if_pos hc]
theorem readB_fin {t o : ByteArray} (h : isN o = true) (h0 : t.size ≠ 0) (h64 : t ≠ bts [64]) (h46 : t ≠ bts [46]) {l : List ByteArray} {b : Bool} (hs : scanT t 0 0 [] [] = ⟨0, 0, l, b⟩) :
    (255 < (putB (l ++ (if b = true then [] else labs o))).size → readB t o = (ByteArray.empty, 0, 4)) ∧ ((putB (l ++ (if b = true then [] else labs o))).size ≤ 255 → readB t o = (putB (l ++ (if b = true then [] else labs o)), 0, 0)) := by
  refine ⟨fun hl => ?_, fun hl => ?_⟩
  · unfold readB; rw [if_neg (by rw [h]; decide), if_neg h0, if_neg h64, if_neg h46, hs, if_neg (by simp), if_pos hl]
  · unfold readB; rw [if_neg (by rw [h]; decide), if_neg h0, if_neg h64, if_neg h46, hs, if_neg (by simp), if_neg (Nat.not_lt.2 hl)]
theorem pc_some {t : ByteArray} {k : Nat} (h : k < t.size) : (pc (t.extract k t.size)).2 ≤ t.size - k ∧ (pc (t.extract k t.size)).1 < 256 := by
  have hz : (t.extract k t.size).size = t.size - k := size_extract' _ _ _ (Nat.le_refl _)
  have := pc_le (t.extract k t.size) (by omega)
  rw [hz] at this; exact this
end Go.Proofs.YtkamjcpcdkejmaaDoor.Nm
