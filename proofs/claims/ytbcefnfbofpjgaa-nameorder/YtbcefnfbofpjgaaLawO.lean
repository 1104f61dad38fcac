import Derived.Test.YtbcefnfbofpjgaaCmp2
import Derived.Test.YtbcefnfbofpjgaaMath10
namespace Go.Proofs.Ytbcefnfbofpjgaa
set_option linter.unusedVariables false
open Go.RowKit Go.Shelf Nm

theorem const1 : cmpB ⟨#[1, 66, 1, 97, 0]⟩ ⟨#[1, 97, 0]⟩ = 1 := by decide +kernel
theorem const2 : cmpB ⟨#[1, 97, 0]⟩ ⟨#[1, 66, 0]⟩ = -1 := by decide +kernel
theorem chk_yes {s : ByteArray} (h : isN s = true) : chk s = 0 := by simp [chk, h]
theorem chk_no {s : ByteArray} (h : isN s = false) : chk s = 1 := by simp [chk, h]

theorem max5 : (⟨#[1, 66, 1, 97, 0]⟩ : ByteArray).size ≤ maxLen := small_max (by decide)
theorem max3 : (⟨#[1, 97, 0]⟩ : ByteArray).size ≤ maxLen := small_max (by decide)
theorem max3' : (⟨#[1, 66, 0]⟩ : ByteArray).size ≤ maxLen := small_max (by decide)

set_option maxRecDepth 100000 in
set_option maxHeartbeats 1000000 in
theorem order_no (a b c : ByteArray) (w : World) (ha : a.size ≤ maxLen) (hb : b.size ≤ maxLen) (hc : c.size ≤ maxLen) (hall : ¬ (isN a = true ∧ isN b = true ∧ isN c = true)) :
    Calls Try.prog 7 #[.string a, .string b, .string c] w fun e w' => e = .returned (.bool true) ∧ Below w.heap.size w w' := by
  have hB0 := Below.refl w.heap.size w
  have k1 := const1
  have k2 := const2
  have hcase : chk a = 1 ∨ (chk a = 0 ∧ chk b = 1) ∨ (chk a = 0 ∧ chk b = 0 ∧ chk c = 1) := by
    cases h1 : isN a with
    | false => exact .inl (chk_no h1)
    | true =>
      cases h2 : isN b with
      | false => exact .inr (.inl ⟨chk_yes h1, chk_no h2⟩)
      | true =>
        cases h3 : isN c with
        | false => exact .inr (.inr ⟨chk_yes h1, chk_yes h2, chk_no h3⟩)
        | true => exact absurd ⟨h1, h2, h3⟩ hall
  clear hall
  rcases hcase with h1 | ⟨h1, h2⟩ | ⟨h1, h2, h3⟩
  all_goals
    go_enter Try.func7, Try.ntmps7
    go_wp2_with (first
      | (go_at_call 16; refine (compare_any _ _ _ (by first | exact max5 | exact max3 | exact max3') (by first | exact max5 | exact max3 | exact max3')).mono ?_; rintro e w1 ⟨rfl, hB1⟩; have hB0 := ext_t hB0 hB1; clear hB1)
      | (go_at_call 8; refine (check_any _ _ (by assumption)).mono ?_; rintro e w1 ⟨rfl, hB1⟩; have hB0 := ext_t hB0 hB1; clear hB1))
    go_ret
    refine ⟨rfl, ?_⟩
    assumption

end Go.Proofs.Ytbcefnfbofpjgaa
