import Derived.Test.YtelboefeomnjaaaSd3
namespace Go.Proofs.Ytelboefeomnjaaa
set_option linter.unusedVariables false
open Go.RowKit Go.Shelf Go.Proofs.Ytelboefeomnjaaa.Nm

theorem foldB_size {n : ByteArray} (h : isN n = true) : (foldB n).size ≤ 255 := by
  rw [foldB_yes h, lowB_size]; exact ((isN_iff n).1 h).1

/-- what Hash answers -/
def hashR (n salt : ByteArray) (r : Int) : Value :=
  if isN n = true then (if salt.size ≤ 255 ∧ 0 ≤ r ∧ r ≤ 50 then .tuple #[.string (hashB n salt r.toNat), .int .i64 0] else .tuple #[.string ⟨#[]⟩, .int .i64 23]) else .tuple #[.string ⟨#[]⟩, .int .i64 1]
theorem hashR_name {n salt : ByteArray} {r : Int} (h : isN n = false) : hashR n salt r = .tuple #[.string ⟨#[]⟩, .int .i64 1] := by unfold hashR; rw [if_neg (by rw [h]; simp)]
theorem hashR_arg {n salt : ByteArray} {r : Int} (h : isN n = true) (h2 : ¬ (salt.size ≤ 255 ∧ 0 ≤ r ∧ r ≤ 50)) : hashR n salt r = .tuple #[.string ⟨#[]⟩, .int .i64 23] := by unfold hashR; rw [if_pos h, if_neg h2]
theorem hashR_ok {n salt : ByteArray} {r : Nat} (h : isN n = true) (h2 : salt.size ≤ 255) (h3 : r ≤ 50) : hashR n salt (r : Int) = .tuple #[.string (hashB n salt r), .int .i64 0] := by unfold hashR; rw [if_pos h, if_pos ⟨h2, by omega, by omega⟩]; simp
theorem chk_no {n : ByteArray} (h : isN n = false) : chk n = 1 := by unfold chk; rw [h]; rfl
theorem chk_yes {n : ByteArray} (h : isN n = true) : chk n = 0 := by unfold chk; rw [h]; rfl

end Go.Proofs.Ytelboefeomnjaaa
