import Derived.Test.YtelboefeomnjaaaGreatLowG
import Derived.Test.YtelboefeomnjaaaGreatMathG
import Derived.RangeFuncBox
import Derived.Laws.AppendOwnNone
namespace Go.Proofs.YtelboefeomnjaaaGreat
set_option linter.unusedVariables false
open Go.RowKit Go.Shelf Go.Proofs.YtelboefeomnjaaaGreat.Nm
end Go.Proofs.YtelboefeomnjaaaGreat

namespace Go.Proofs.YtelboefeomnjaaaGreat
set_option linter.unusedVariables false
open Go.RowKit Go.Shelf Go.Proofs.YtelboefeomnjaaaGreat.Nm

theorem ext_t {a b c : World} (h : Below a.heap.size a b) (k : Below b.heap.size b c) : Below a.heap.size a c := h.trans (k.mono h.size)
theorem addr_add (g off d : Nat) : Addr.add ⟨g, off, none⟩ d = ⟨g, off + d, none⟩ := by unfold Addr.add; split <;> simp_all
/-- name.Equal -/
theorem equal_any (a b : ByteArray) (w : World) (ha : a.size ≤ maxLen) (hb : b.size ≤ maxLen) :
    Calls Tryz.prog 63 #[.string a, .string b] w fun e w' => e = .returned (.bool (eqB a b)) ∧ Below w.heap.size w w' := by
  cases hN : isN a with
  | false =>
    have HE : Hid (eqB a b = false) := by unfold Hid eqB; rw [hN]; rfl
    go_enter Tryz.func63, Tryz.ntmps63
    go_wp2_with (go_at_call 75; refine (isName_any _ _ ha).mono ?_; rintro e w1 ⟨rfl, hB1⟩)
    go_ret
    exact ⟨by rw [HE.out]; rfl, hB1⟩
  | true =>
    have HE : Hid (eqB a b = ((foldB a).toList == (foldB b).toList)) := by unfold Hid eqB; rw [hN]; rfl
    go_enter Tryz.func63, Tryz.ntmps63
    go_wp2_with (first
      | (go_at_call 75; refine (isName_any _ _ ha).mono ?_; rintro e w1 ⟨rfl, hB1⟩)
      | (go_at_call 76; refine (fold_any _ _ (by assumption)).mono ?_; rintro e w2 ⟨rfl, hB2⟩; have hB1 := ext_t hB1 hB2; clear hB2))
    go_ret
    refine ⟨by rw [HE.out]; rfl, ?_⟩
    assumption

/-- gazetteerref1.EqualName -/
theorem equalName_any (a b : ByteArray) (w : World) (ha : a.size ≤ 1048576) (hb : b.size ≤ 1048576) :
    Calls Tryz.prog 58 #[.string a, .string b] w fun e w' => e = .returned (.bool (eqB a b)) ∧ Below w.heap.size w w' := by
  have HE : Hid ((isN a && isN b && ((foldB a).toList == (foldB b).toList)) = eqB a b) := eqB_ref a b
  have hB0 := Below.refl w.heap.size w
  cases hN : isN a with
  | false =>
    rw [hN] at HE
    go_enter Tryz.func58, Tryz.ntmps58
    go_wp2_with (go_at_call 60; refine (refIsName_any _ _ (by assumption)).mono ?_; rintro e w1 ⟨rfl, hB1⟩; have hB0 := ext_t hB0 hB1; clear hB1)
    go_ret
    refine ⟨by rw [← HE.out]; rfl, ?_⟩
    assumption
  | true =>
    cases hM : isN b with
    | false =>
      rw [hN, hM] at HE
      go_enter Tryz.func58, Tryz.ntmps58
      go_wp2_with (go_at_call 60; refine (refIsName_any _ _ (by assumption)).mono ?_; rintro e w1 ⟨rfl, hB1⟩; have hB0 := ext_t hB0 hB1; clear hB1)
      go_ret
      refine ⟨by rw [← HE.out]; rfl, ?_⟩
      assumption
    | true =>
      rw [hN, hM] at HE
      go_enter Tryz.func58, Tryz.ntmps58
      go_wp2_with (first
        | (go_at_call 60; refine (refIsName_any _ _ (by assumption)).mono ?_; rintro e w1 ⟨rfl, hB1⟩; have hB0 := ext_t hB0 hB1; clear hB1)
        | (go_at_call 71; refine (foldName_any _ _ (by assumption)).mono ?_; rintro e w1 ⟨rfl, hB1⟩; have hB0 := ext_t hB0 hB1; clear hB1))
      go_ret
      refine ⟨by rw [← HE.out]; rfl, ?_⟩
      assumption

end Go.Proofs.YtelboefeomnjaaaGreat

namespace Go.Proofs.YtelboefeomnjaaaGreat
set_option linter.unusedVariables false
open Go.RowKit Go.Shelf Go.Proofs.YtelboefeomnjaaaGreat.Nm
end Go.Proofs.YtelboefeomnjaaaGreat

namespace Go.Proofs.YtelboefeomnjaaaGreat
set_option linter.unusedVariables false
open Go.RowKit Go.Shelf Go.Proofs.YtelboefeomnjaaaGreat.Nm

theorem StrsAt.take {w : World} {p : Option Addr} {l : List ByteArray} (h : StrsAt w p l) (d : Nat) : StrsAt w p (l.take d) := by
  intro j hj
  rw [List.length_take] at hj
  obtain ⟨g, off, hp, hg, hc⟩ := h j (by omega)
  exact ⟨g, off, hp, hg, by rw [List.getElem_take]; exact hc⟩

end Go.Proofs.YtelboefeomnjaaaGreat
