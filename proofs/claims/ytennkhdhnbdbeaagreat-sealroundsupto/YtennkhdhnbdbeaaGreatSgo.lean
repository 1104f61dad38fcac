import Derived.Test.YtennkhdhnbdbeaaGreatFt1G
import Derived.Test.YtennkhdhnbdbeaaGreatSglG
/-
  Records of one's own whose owner or age is written. (The verifier's own text.)
-/
namespace Go.Proofs.YtennkhdhnbdbeaaGreat
set_option linter.unusedVariables false
set_option linter.unusedSimpArgs false
open Go.RowKit Go.Shelf Go.Proofs.YtennkhdhnbdbeaaGreat.Nm

theorem rce5_at {L : List Rn} {j : Nat} (hj : j < L.length) (rest : List Value) : rce5 L ++ rest = rce5 (L.take j) ++ (ren5 L[j] ++ (rce5 (L.drop (j + 1)) ++ rest)) := by
  have e : rce5 L = rce5 (L.take j ++ L[j] :: L.drop (j + 1)) := by rw [← list_split hj]
  rw [e, rce5_app]
  show rce5 (L.take j) ++ (ren5 L[j] ++ rce5 (L.drop (j + 1))) ++ rest = _
  simp only [List.append_assoc]
theorem rce5_put {L : List Rn} {j : Nat} (hj : j < L.length) (r : Rn) (rest : List Value) : rce5 (L.set j r) ++ rest = rce5 (L.take j) ++ (ren5 r ++ (rce5 (L.drop (j + 1)) ++ rest)) := by
  rw [List.set_eq_take_append_cons_drop, if_pos hj, rce5_app]
  show rce5 (L.take j) ++ (ren5 r ++ rce5 (L.drop (j + 1))) ++ rest = _
  simp only [List.append_assoc]
theorem Rb.owner {w : World} {g : Nat} {L : List Rn} {rest : List Value} (h : Rb w g L rest) {j : Nat} (hj : j < L.length) (o : ByteArray) : Rb (w.setCell ⟨g, j * 5, none⟩ (.string o)) g (L.set j ⟨o, L[j].t, L[j].c, L[j].l, L[j].d⟩) rest := by
  unfold Rb at h ⊢
  have hl : (rce5 (L.take j)).length = j * 5 := by rw [rce5_len, List.length_take]; congr 1; omega
  rw [rce5_at hj] at h
  rw [rce5_put hj]
  have h2 := Bx.set h (j * 5) (.string o)
  have e : (rce5 (L.take j) ++ (ren5 L[j] ++ (rce5 (L.drop (j + 1)) ++ rest))).toArray.setIfInBounds (j * 5) (.string o) = (rce5 (L.take j) ++ (ren5 ⟨o, L[j].t, L[j].c, L[j].l, L[j].d⟩ ++ (rce5 (L.drop (j + 1)) ++ rest))).toArray := by
    rw [← hl]
    exact set_list (B := []) _
  rw [e] at h2
  exact h2
theorem Rb.age {w : World} {g : Nat} {L : List Rn} {rest : List Value} (h : Rb w g L rest) {j : Nat} (hj : j < L.length) (l : Int) : Rb (w.setCell ⟨g, j * 5 + 3, none⟩ (.int .i64 l)) g (L.set j ⟨L[j].o, L[j].t, L[j].c, l, L[j].d⟩) rest := by
  unfold Rb at h ⊢
  have hl : (rce5 (L.take j) ++ [Value.string L[j].o, .int .i64 L[j].t, .int .i64 L[j].c]).length = j * 5 + 3 := by rw [List.length_append, rce5_len, List.length_take]; simp; omega
  rw [rce5_at hj] at h
  rw [rce5_put hj]
  have h2 := Bx.set h (j * 5 + 3) (.int .i64 l)
  have e1 : rce5 (L.take j) ++ (ren5 L[j] ++ (rce5 (L.drop (j + 1)) ++ rest)) = (rce5 (L.take j) ++ [Value.string L[j].o, .int .i64 L[j].t, .int .i64 L[j].c]) ++ Value.int .i64 L[j].l :: (.string L[j].d :: (rce5 (L.drop (j + 1)) ++ rest)) := by simp [ren5]
  have e2 : rce5 (L.take j) ++ (ren5 ⟨L[j].o, L[j].t, L[j].c, l, L[j].d⟩ ++ (rce5 (L.drop (j + 1)) ++ rest)) = (rce5 (L.take j) ++ [Value.string L[j].o, .int .i64 L[j].t, .int .i64 L[j].c]) ++ Value.int .i64 l :: (.string L[j].d :: (rce5 (L.drop (j + 1)) ++ rest)) := by simp [ren5]
  have e : (rce5 (L.take j) ++ (ren5 L[j] ++ (rce5 (L.drop (j + 1)) ++ rest))).toArray.setIfInBounds (j * 5 + 3) (.int .i64 l) = (rce5 (L.take j) ++ (ren5 ⟨L[j].o, L[j].t, L[j].c, l, L[j].d⟩ ++ (rce5 (L.drop (j + 1)) ++ rest))).toArray := by
    rw [e1, e2, ← hl]
    exact set_list (B := []) _
  rw [e] at h2
  exact h2
/-- the first k are done -/
def doneL (age : Int) (M : List Rn) (k : Nat) : List Rn := (M.take k).map (upR age) ++ M.drop k
theorem doneL_len (age : Int) (M : List Rn) (k : Nat) : (doneL age M k).length = M.length := by
  unfold doneL
  rw [List.length_append, List.length_map, List.length_take, List.length_drop]
  omega
theorem doneL_at {age : Int} {M : List Rn} {k : Nat} (h : k < M.length) : (doneL age M k)[k]'(by rw [doneL_len]; exact h) = M[k] := by
  unfold doneL
  rw [List.getElem_append_right (by rw [List.length_map, List.length_take]; omega)]
  simp only [List.length_map, List.length_take, List.getElem_drop]
  congr 1
  omega
theorem doneL_succ {age : Int} {M : List Rn} {k : Nat} (h : k < M.length) (r : Rn) (hr : r = upR age M[k]) : (doneL age M k).set k r = doneL age M (k + 1) := by
  subst hr
  unfold doneL
  have hl : ((M.take k).map (upR age)).length = k := by rw [List.length_map, List.length_take]; omega
  rw [List.set_append_right _ _ (by omega), hl, Nat.sub_self, List.drop_eq_getElem_cons h, List.set_cons_zero, List.take_succ_eq_append_getElem h, List.map_append, List.append_assoc]
  rfl
theorem doneL_all (age : Int) (M : List Rn) : doneL age M M.length = M.map (upR age) := by
  unfold doneL
  rw [List.take_length, List.drop_length, List.append_nil]
theorem doneL_none (age : Int) (M : List Rn) : doneL age M 0 = M := by simp [doneL]
end Go.Proofs.YtennkhdhnbdbeaaGreat
