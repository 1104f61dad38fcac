import Derived.Test.YtbcefnfbofpjgaaLawO
namespace Go.Proofs.Ytbcefnfbofpjgaa
set_option linter.unusedVariables false
open Go.RowKit Go.Shelf Nm

set_option maxRecDepth 100000 in
set_option maxHeartbeats 4000000 in
theorem order_a (a b c : ByteArray) (w : World) (ha : a.size ≤ maxLen) (hb : b.size ≤ maxLen) (hc : c.size ≤ maxLen) (c1 : chk a = 0) (c2 : chk b = 0) (c3 : chk c = 0) (z : Int) (wb wc : Bool)
    (hx : cmpB a b = -1) (hy : cmpB b c = 1) (hz : cmpB a c = z) (hx' : cmpB b a = 1) (he : eqB a b = false) (hwb : withinB b a = wb) (hwc : withinB c a = wc) (q4 : True) :
    Calls Try.prog 7 #[.string a, .string b, .string c] w fun e w' => e = .returned (.bool true) ∧ Below w.heap.size w w' := by
  have hB0 := Below.refl w.heap.size w
  have k1 := const1
  have k2 := const2
  have hcase : wb = true ∨ wb = false := by
    revert q4; cases wb <;> cases wc <;> simp
  clear q4
  rcases hcase with rfl | rfl
  all_goals
    go_enter Try.func7, Try.ntmps7
    go_wp2_with (first
      | (go_at_call 16; refine (compare_any _ _ _ (by first | assumption | exact max5 | exact max3 | exact max3') (by first | assumption | exact max5 | exact max3 | exact max3')).mono ?_; rintro e w1 ⟨rfl, hB1⟩; have hB0 := ext_t hB0 hB1; clear hB1)
      | (go_at_call 8; refine (check_any _ _ (by assumption)).mono ?_; rintro e w1 ⟨rfl, hB1⟩; have hB0 := ext_t hB0 hB1; clear hB1)
      | (go_at_call 14; refine (equal_any _ _ _ (by assumption) (by assumption)).mono ?_; rintro e w1 ⟨rfl, hB1⟩; have hB0 := ext_t hB0 hB1; clear hB1)
      | (go_at_call 18; refine (within_any _ _ _ (by assumption) (by assumption)).mono ?_; rintro e w1 ⟨rfl, hB1⟩; have hB0 := ext_t hB0 hB1; clear hB1))
    go_ret
    refine ⟨rfl, ?_⟩
    assumption

set_option maxRecDepth 100000 in
set_option maxHeartbeats 4000000 in
theorem order_b (a b c : ByteArray) (w : World) (ha : a.size ≤ maxLen) (hb : b.size ≤ maxLen) (hc : c.size ≤ maxLen) (c1 : chk a = 0) (c2 : chk b = 0) (c3 : chk c = 0) (z : Int) (wb wc : Bool)
    (hx : cmpB a b = 0) (hy : cmpB b c = 1) (hz : cmpB a c = z) (hx' : cmpB b a = 0) (he : eqB a b = true) (hwb : withinB b a = wb) (hwc : withinB c a = wc) (q4 : True) :
    Calls Try.prog 7 #[.string a, .string b, .string c] w fun e w' => e = .returned (.bool true) ∧ Below w.heap.size w w' := by
  have hB0 := Below.refl w.heap.size w
  have k1 := const1
  have k2 := const2
  have hcase : wb = true ∨ wb = false := by
    revert q4; cases wb <;> cases wc <;> simp
  clear q4
  rcases hcase with rfl | rfl
  all_goals
    go_enter Try.func7, Try.ntmps7
    go_wp2_with (first
      | (go_at_call 16; refine (compare_any _ _ _ (by first | assumption | exact max5 | exact max3 | exact max3') (by first | assumption | exact max5 | exact max3 | exact max3')).mono ?_; rintro e w1 ⟨rfl, hB1⟩; have hB0 := ext_t hB0 hB1; clear hB1)
      | (go_at_call 8; refine (check_any _ _ (by assumption)).mono ?_; rintro e w1 ⟨rfl, hB1⟩; have hB0 := ext_t hB0 hB1; clear hB1)
      | (go_at_call 14; refine (equal_any _ _ _ (by assumption) (by assumption)).mono ?_; rintro e w1 ⟨rfl, hB1⟩; have hB0 := ext_t hB0 hB1; clear hB1)
      | (go_at_call 18; refine (within_any _ _ _ (by assumption) (by assumption)).mono ?_; rintro e w1 ⟨rfl, hB1⟩; have hB0 := ext_t hB0 hB1; clear hB1))
    go_ret
    refine ⟨rfl, ?_⟩
    assumption

set_option maxRecDepth 100000 in
set_option maxHeartbeats 4000000 in
theorem order_c (a b c : ByteArray) (w : World) (ha : a.size ≤ maxLen) (hb : b.size ≤ maxLen) (hc : c.size ≤ maxLen) (c1 : chk a = 0) (c2 : chk b = 0) (c3 : chk c = 0) (z : Int) (wb wc : Bool)
    (hx : cmpB a b = -1) (hy : cmpB b c = -1) (hz : cmpB a c = z) (hx' : cmpB b a = 1) (he : eqB a b = false) (hwb : withinB b a = wb) (hwc : withinB c a = wc) (q3 : z < 0) (q4 : wc = true → wb = true) :
    Calls Try.prog 7 #[.string a, .string b, .string c] w fun e w' => e = .returned (.bool true) ∧ Below w.heap.size w w' := by
  have hB0 := Below.refl w.heap.size w
  have k1 := const1
  have k2 := const2
  have hcase : (wb = true ∧ wc = true) ∨ (wb = true ∧ wc = false) ∨ (wb = false ∧ wc = false) := by
    revert q4; cases wb <;> cases wc <;> simp
  clear q4
  rcases hcase with ⟨rfl, rfl⟩ | ⟨rfl, rfl⟩ | ⟨rfl, rfl⟩
  all_goals
    go_enter Try.func7, Try.ntmps7
    go_wp2_with (first
      | (go_at_call 16; refine (compare_any _ _ _ (by first | assumption | exact max5 | exact max3 | exact max3') (by first | assumption | exact max5 | exact max3 | exact max3')).mono ?_; rintro e w1 ⟨rfl, hB1⟩; have hB0 := ext_t hB0 hB1; clear hB1)
      | (go_at_call 8; refine (check_any _ _ (by assumption)).mono ?_; rintro e w1 ⟨rfl, hB1⟩; have hB0 := ext_t hB0 hB1; clear hB1)
      | (go_at_call 14; refine (equal_any _ _ _ (by assumption) (by assumption)).mono ?_; rintro e w1 ⟨rfl, hB1⟩; have hB0 := ext_t hB0 hB1; clear hB1)
      | (go_at_call 18; refine (within_any _ _ _ (by assumption) (by assumption)).mono ?_; rintro e w1 ⟨rfl, hB1⟩; have hB0 := ext_t hB0 hB1; clear hB1))
    go_ret
    refine ⟨rfl, ?_⟩
    assumption

set_option maxRecDepth 100000 in
set_option maxHeartbeats 4000000 in
theorem order_d (a b c : ByteArray) (w : World) (ha : a.size ≤ maxLen) (hb : b.size ≤ maxLen) (hc : c.size ≤ maxLen) (c1 : chk a = 0) (c2 : chk b = 0) (c3 : chk c = 0) (z : Int) (wb wc : Bool)
    (hx : cmpB a b = 0) (hy : cmpB b c = -1) (hz : cmpB a c = z) (hx' : cmpB b a = 0) (he : eqB a b = true) (hwb : withinB b a = wb) (hwc : withinB c a = wc) (q3 : z < 0) (q4 : wc = true → wb = true) :
    Calls Try.prog 7 #[.string a, .string b, .string c] w fun e w' => e = .returned (.bool true) ∧ Below w.heap.size w w' := by
  have hB0 := Below.refl w.heap.size w
  have k1 := const1
  have k2 := const2
  have hcase : (wb = true ∧ wc = true) ∨ (wb = true ∧ wc = false) ∨ (wb = false ∧ wc = false) := by
    revert q4; cases wb <;> cases wc <;> simp
  clear q4
  rcases hcase with ⟨rfl, rfl⟩ | ⟨rfl, rfl⟩ | ⟨rfl, rfl⟩
  all_goals
    go_enter Try.func7, Try.ntmps7
    go_wp2_with (first
      | (go_at_call 16; refine (compare_any _ _ _ (by first | assumption | exact max5 | exact max3 | exact max3') (by first | assumption | exact max5 | exact max3 | exact max3')).mono ?_; rintro e w1 ⟨rfl, hB1⟩; have hB0 := ext_t hB0 hB1; clear hB1)
      | (go_at_call 8; refine (check_any _ _ (by assumption)).mono ?_; rintro e w1 ⟨rfl, hB1⟩; have hB0 := ext_t hB0 hB1; clear hB1)
      | (go_at_call 14; refine (equal_any _ _ _ (by assumption) (by assumption)).mono ?_; rintro e w1 ⟨rfl, hB1⟩; have hB0 := ext_t hB0 hB1; clear hB1)
      | (go_at_call 18; refine (within_any _ _ _ (by assumption) (by assumption)).mono ?_; rintro e w1 ⟨rfl, hB1⟩; have hB0 := ext_t hB0 hB1; clear hB1))
    go_ret
    refine ⟨rfl, ?_⟩
    assumption

set_option maxRecDepth 100000 in
set_option maxHeartbeats 4000000 in
theorem order_e (a b c : ByteArray) (w : World) (ha : a.size ≤ maxLen) (hb : b.size ≤ maxLen) (hc : c.size ≤ maxLen) (c1 : chk a = 0) (c2 : chk b = 0) (c3 : chk c = 0) (z : Int) (wb wc : Bool)
    (hx : cmpB a b = -1) (hy : cmpB b c = 0) (hz : cmpB a c = z) (hx' : cmpB b a = 1) (he : eqB a b = false) (hwb : withinB b a = wb) (hwc : withinB c a = wc) (q3 : z < 0) (q4 : wc = true → wb = true) :
    Calls Try.prog 7 #[.string a, .string b, .string c] w fun e w' => e = .returned (.bool true) ∧ Below w.heap.size w w' := by
  have hB0 := Below.refl w.heap.size w
  have k1 := const1
  have k2 := const2
  have hcase : (wb = true ∧ wc = true) ∨ (wb = true ∧ wc = false) ∨ (wb = false ∧ wc = false) := by
    revert q4; cases wb <;> cases wc <;> simp
  clear q4
  rcases hcase with ⟨rfl, rfl⟩ | ⟨rfl, rfl⟩ | ⟨rfl, rfl⟩
  all_goals
    go_enter Try.func7, Try.ntmps7
    go_wp2_with (first
      | (go_at_call 16; refine (compare_any _ _ _ (by first | assumption | exact max5 | exact max3 | exact max3') (by first | assumption | exact max5 | exact max3 | exact max3')).mono ?_; rintro e w1 ⟨rfl, hB1⟩; have hB0 := ext_t hB0 hB1; clear hB1)
      | (go_at_call 8; refine (check_any _ _ (by assumption)).mono ?_; rintro e w1 ⟨rfl, hB1⟩; have hB0 := ext_t hB0 hB1; clear hB1)
      | (go_at_call 14; refine (equal_any _ _ _ (by assumption) (by assumption)).mono ?_; rintro e w1 ⟨rfl, hB1⟩; have hB0 := ext_t hB0 hB1; clear hB1)
      | (go_at_call 18; refine (within_any _ _ _ (by assumption) (by assumption)).mono ?_; rintro e w1 ⟨rfl, hB1⟩; have hB0 := ext_t hB0 hB1; clear hB1))
    go_ret
    refine ⟨rfl, ?_⟩
    assumption

set_option maxRecDepth 100000 in
set_option maxHeartbeats 4000000 in
theorem order_f (a b c : ByteArray) (w : World) (ha : a.size ≤ maxLen) (hb : b.size ≤ maxLen) (hc : c.size ≤ maxLen) (c1 : chk a = 0) (c2 : chk b = 0) (c3 : chk c = 0) (z : Int) (wb wc : Bool)
    (hx : cmpB a b = 0) (hy : cmpB b c = 0) (hz : cmpB a c = z) (hx' : cmpB b a = 0) (he : eqB a b = true) (hwb : withinB b a = wb) (hwc : withinB c a = wc) (q3 : z ≤ 0) (q4 : wc = true → wb = true) :
    Calls Try.prog 7 #[.string a, .string b, .string c] w fun e w' => e = .returned (.bool true) ∧ Below w.heap.size w w' := by
  have hB0 := Below.refl w.heap.size w
  have k1 := const1
  have k2 := const2
  have hcase : (wb = true ∧ wc = true) ∨ (wb = true ∧ wc = false) ∨ (wb = false ∧ wc = false) := by
    revert q4; cases wb <;> cases wc <;> simp
  clear q4
  rcases hcase with ⟨rfl, rfl⟩ | ⟨rfl, rfl⟩ | ⟨rfl, rfl⟩
  all_goals
    go_enter Try.func7, Try.ntmps7
    go_wp2_with (first
      | (go_at_call 16; refine (compare_any _ _ _ (by first | assumption | exact max5 | exact max3 | exact max3') (by first | assumption | exact max5 | exact max3 | exact max3')).mono ?_; rintro e w1 ⟨rfl, hB1⟩; have hB0 := ext_t hB0 hB1; clear hB1)
      | (go_at_call 8; refine (check_any _ _ (by assumption)).mono ?_; rintro e w1 ⟨rfl, hB1⟩; have hB0 := ext_t hB0 hB1; clear hB1)
      | (go_at_call 14; refine (equal_any _ _ _ (by assumption) (by assumption)).mono ?_; rintro e w1 ⟨rfl, hB1⟩; have hB0 := ext_t hB0 hB1; clear hB1)
      | (go_at_call 18; refine (within_any _ _ _ (by assumption) (by assumption)).mono ?_; rintro e w1 ⟨rfl, hB1⟩; have hB0 := ext_t hB0 hB1; clear hB1))
    go_ret
    refine ⟨rfl, ?_⟩
    assumption

set_option maxRecDepth 100000 in
set_option maxHeartbeats 4000000 in
theorem order_yes (a b c : ByteArray) (w : World) (ha : a.size ≤ maxLen) (hb : b.size ≤ maxLen) (hc : c.size ≤ maxLen) (h1 : isN a = true) (h2 : isN b = true) (h3 : isN c = true) :
    Calls Try.prog 7 #[.string a, .string b, .string c] w fun e w' => e = .returned (.bool true) ∧ Below w.heap.size w w' := by
  have hB0 := Below.refl w.heap.size w
  have k1 := const1
  have k2 := const2
  have c1 := chk_yes h1
  have c2 := chk_yes h2
  have c3 := chk_yes h3
  obtain ⟨o1, o2, o3, o4, o5, o6, o7, o8, o9⟩ := ordered h1 h2 h3
  clear h1 h2 h3
  obtain ⟨x, hx⟩ : ∃ x, cmpB a b = x := ⟨_, rfl⟩
  obtain ⟨y, hy⟩ : ∃ y, cmpB b c = y := ⟨_, rfl⟩
  obtain ⟨z, hz⟩ : ∃ z, cmpB a c = z := ⟨_, rfl⟩
  obtain ⟨x', hx'⟩ : ∃ x', cmpB b a = x' := ⟨_, rfl⟩
  obtain ⟨wb, hwb⟩ : ∃ wb, withinB b a = wb := ⟨_, rfl⟩
  obtain ⟨wc, hwc⟩ : ∃ wc, withinB c a = wc := ⟨_, rfl⟩
  rw [hx, hx'] at o1
  rw [hx] at o2 o3
  rw [hy] at o4
  rw [hx, hy, hz] at o5 o6 o7
  rw [hx, hwb] at o8
  rw [hx, hy, hwb, hwc] at o9
  have hcase : (0 < x ∧ wb = false) ∨ (x ≤ 0 ∧ 0 < y) ∨ (x ≤ 0 ∧ y < 0 ∧ z < 0 ∧ (wc = true → wb = true)) ∨ (x < 0 ∧ y = 0 ∧ z < 0 ∧ (wc = true → wb = true)) ∨ (x = 0 ∧ y = 0 ∧ z ≤ 0 ∧ (wc = true → wb = true)) := by
    by_cases hx0 : 0 < x
    · left
      refine ⟨hx0, ?_⟩
      cases wb with
      | false => rfl
      | true => have := o8 rfl; omega
    · by_cases hy0 : 0 < y
      · exact .inr (.inl ⟨by omega, hy0⟩)
      · by_cases hy1 : y < 0
        · exact .inr (.inr (.inl ⟨by omega, hy1, o6 (by omega) hy1, o9 (by omega) (by omega)⟩))
        · by_cases hx1 : x < 0
          · exact .inr (.inr (.inr (.inl ⟨hx1, by omega, o7 hx1 (by omega), o9 (by omega) (by omega)⟩)))
          · exact .inr (.inr (.inr (.inr ⟨by omega, by omega, o5 (by omega) (by omega), o9 (by omega) (by omega)⟩)))
  clear o5 o6 o7 o8 o9
  rcases hcase with ⟨q1, rfl⟩ | ⟨q1, q2⟩ | ⟨q1, q2, q3, q4⟩ | ⟨q1, rfl, q3, q4⟩ | ⟨rfl, rfl, q3, q4⟩
  · obtain rfl : x = 1 := by omega
    obtain rfl : x' = -1 := by omega
    have he : eqB a b = false := by rw [o3]; rfl
    clear o1 o2 o3 o4 q1
    go_enter Try.func7, Try.ntmps7
    go_wp2_with (first
      | (go_at_call 16; refine (compare_any _ _ _ (by first | assumption | exact max5 | exact max3 | exact max3') (by first | assumption | exact max5 | exact max3 | exact max3')).mono ?_; rintro e w1 ⟨rfl, hB1⟩; have hB0 := ext_t hB0 hB1; clear hB1)
      | (go_at_call 8; refine (check_any _ _ (by assumption)).mono ?_; rintro e w1 ⟨rfl, hB1⟩; have hB0 := ext_t hB0 hB1; clear hB1)
      | (go_at_call 14; refine (equal_any _ _ _ (by assumption) (by assumption)).mono ?_; rintro e w1 ⟨rfl, hB1⟩; have hB0 := ext_t hB0 hB1; clear hB1)
      | (go_at_call 18; refine (within_any _ _ _ (by assumption) (by assumption)).mono ?_; rintro e w1 ⟨rfl, hB1⟩; have hB0 := ext_t hB0 hB1; clear hB1))
    go_ret
    refine ⟨rfl, ?_⟩
    assumption
  · obtain rfl : y = 1 := by omega
    have : x = -1 ∨ x = 0 := by omega
    rcases this with rfl | rfl
    · exact order_a a b c w ha hb hc c1 c2 c3 z wb wc hx hy hz (by omega) (by rw [o3]; rfl) hwb hwc trivial
    · exact order_b a b c w ha hb hc c1 c2 c3 z wb wc hx hy hz (by omega) (by rw [o3]; rfl) hwb hwc trivial
  · obtain rfl : y = -1 := by omega
    have : x = -1 ∨ x = 0 := by omega
    rcases this with rfl | rfl
    · exact order_c a b c w ha hb hc c1 c2 c3 z wb wc hx hy hz (by omega) (by rw [o3]; rfl) hwb hwc q3 q4
    · exact order_d a b c w ha hb hc c1 c2 c3 z wb wc hx hy hz (by omega) (by rw [o3]; rfl) hwb hwc q3 q4
  · obtain rfl : x = -1 := by omega
    exact order_e a b c w ha hb hc c1 c2 c3 z wb wc hx hy hz (by omega) (by rw [o3]; rfl) hwb hwc q3 q4
  · exact order_f a b c w ha hb hc c1 c2 c3 z wb wc hx hy hz (by omega) (by rw [o3]; rfl) hwb hwc q3 q4

theorem order_walk (a b c : ByteArray) (w : World) (ha : a.size ≤ maxLen) (hb : b.size ≤ maxLen) (hc : c.size ≤ maxLen) :
    Calls Try.prog 7 #[.string a, .string b, .string c] w fun e w' => e = .returned (.bool true) ∧ Below w.heap.size w w' := by
  by_cases h : isN a = true ∧ isN b = true ∧ isN c = true
  · exact order_yes a b c w ha hb hc h.1 h.2.1 h.2.2
  · exact order_no a b c w ha hb hc h
end Go.Proofs.Ytbcefnfbofpjgaa
