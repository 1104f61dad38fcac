import Derived.Test.YtfonnepnaeehhaaMath6
namespace Go.Proofs.Ytfonnepnaeehhaa.Nm
set_option linter.unusedVariables false

/-- graft: the name, and why not -/
def graftB (n f t : ByteArray) : ByteArray × Int :=
  if isN n = true ∧ isN f = true ∧ isN t = true then
    if withinB n f = true then
      if (putB ((labs n).take ((labs n).length - (labs f).length) ++ labs t)).size ≤ 255 then (putB ((labs n).take ((labs n).length - (labs f).length) ++ labs t), 0) else (ByteArray.empty, 4)
    else (ByteArray.empty, 5)
  else (ByteArray.empty, 1)
theorem within_size {n f : ByteArray} (h : withinB n f = true) : f.size ≤ n.size := by
  obtain ⟨h1, h2, h3, h4⟩ := (withinB_iff n f).1 h
  have e1 : (putB ((labs n).drop ((labs n).length - (labs f).length))).size = f.size := by
    rw [← lowB_size, ← putB_low _ (fun x hx => ((okL_labs n).drop _ x hx).2), h4, putB_low_labs h2, lowB_size]
  have e2 : (putB (labs n)).size = n.size := by rw [putB_labs h1]
  rw [← List.take_append_drop ((labs n).length - (labs f).length) (labs n), putB_append, ByteArray.size_append] at e2
  omega
/-- what stands ahead of the zone -/
theorem ahead_eq {n f : ByteArray} (h : withinB n f = true) : n.extract 0 (n.size - f.size) = chunks ((labs n).take ((labs n).length - (labs f).length)) := by
  obtain ⟨h1, h2, h3, h4⟩ := (withinB_iff n f).1 h
  have e1 : (putB ((labs n).drop ((labs n).length - (labs f).length))).size = f.size := by
    rw [← lowB_size, ← putB_low _ (fun x hx => ((okL_labs n).drop _ x hx).2), h4, putB_low_labs h2, lowB_size]
  have e2 : n = chunks ((labs n).take ((labs n).length - (labs f).length)) ++ putB ((labs n).drop ((labs n).length - (labs f).length)) := by
    rw [← putB_append, List.take_append_drop, putB_labs h1]
  have e3 : n.size = (chunks ((labs n).take ((labs n).length - (labs f).length))).size + f.size := by
    conv => lhs; rw [e2]
    rw [ByteArray.size_append, e1]
  rw [show n.size - f.size = (chunks ((labs n).take ((labs n).length - (labs f).length))).size by omega]
  generalize chunks ((labs n).take ((labs n).length - (labs f).length)) = a at *
  generalize putB ((labs n).drop ((labs n).length - (labs f).length)) = b at *
  rw [e2]
  apply ba_ext
  · rw [size_extract' _ _ _ (by rw [ByteArray.size_append]; omega)]; omega
  · intro j hj
    rw [size_extract' _ _ _ (by rw [ByteArray.size_append]; omega)] at hj
    rw [bt_extract _ _ _ _ hj (by rw [ByteArray.size_append]; omega), Nat.zero_add, bt_append_left _ _ _ (by omega)]
theorem graft_put {n f t : ByteArray} (h : withinB n f = true) (ht : isN t = true) : putB ((labs n).take ((labs n).length - (labs f).length) ++ labs t) = n.extract 0 (n.size - f.size) ++ t := by
  rw [putB_append, putB_labs ht, ahead_eq h]
theorem graft_put_size {n f t : ByteArray} (h : withinB n f = true) (ht : isN t = true) : (putB ((labs n).take ((labs n).length - (labs f).length) ++ labs t)).size = n.size - f.size + t.size := by
  rw [graft_put h ht, ByteArray.size_append, size_extract' _ _ _ (by omega)]; omega
theorem graftB_no {n f t : ByteArray} (h : ¬ (isN n = true ∧ isN f = true ∧ isN t = true)) : graftB n f t = (ByteArray.empty, 1) := by unfold graftB; rw [if_neg h]
theorem graftB_out {n f t : ByteArray} (h : isN n = true ∧ isN f = true ∧ isN t = true) (hw : withinB n f = false) : graftB n f t = (ByteArray.empty, 5) := by
  unfold graftB; rw [if_pos h, if_neg (by rw [hw]; decide)]
theorem graftB_ok {n f t : ByteArray} (h : isN n = true ∧ isN f = true ∧ isN t = true) (hw : withinB n f = true) (hl : n.size - f.size + t.size ≤ 255) : graftB n f t = (n.extract 0 (n.size - f.size) ++ t, 0) := by
  unfold graftB; rw [if_pos h, if_pos hw, graft_put_size hw h.2.2, if_pos hl, graft_put hw h.2.2]
theorem graftB_ok' {n f t : ByteArray} (h : isN n = true ∧ isN f = true ∧ isN t = true) (hw : withinB n f = true) (hl : n.size - f.size + t.size ≤ 255) : graftB n f t = (putB ((labs n).take ((labs n).length - (labs f).length) ++ labs t), 0) := by
  rw [graftB_ok h hw hl, graft_put hw h.2.2]
theorem graftB_long {n f t : ByteArray} (h : isN n = true ∧ isN f = true ∧ isN t = true) (hw : withinB n f = true) (hl : 255 < n.size - f.size + t.size) : graftB n f t = (ByteArray.empty, 4) := by
  unfold graftB; rw [if_pos h, if_pos hw, graft_put_size hw h.2.2, if_neg (by omega)]
end Go.Proofs.Ytfonnepnaeehhaa.Nm
