import Derived.Test.YtkeibncmgplgkaaDoorPz8
import Derived.Test.YtkeibncmgplgkaaDoorMath4
namespace Go.Proofs.YtkeibncmgplgkaaDoor
set_option linter.unusedVariables false
open Go.RowKit Go.Shelf Go.Proofs.YtkeibncmgplgkaaDoor.Nm

theorem dig_unit {y : Nat} (h : 48 ≤ y ∧ y ≤ 57) : unitV y = 0 := by
  unfold unitV
  rw [if_neg (by omega), if_neg (by omega), if_neg (by omega), if_neg (by omega), if_neg (by omega)]
/-- digits alone tell no time -/
theorem secF_dig {s : ByteArray} (h : 0 < s.size) (hd : ∀ i, i < s.size → 48 ≤ bt s i ∧ bt s i ≤ 57) (tot : Nat) : secF s tot = none := by
  rcases any_cases s with ⟨_, hi⟩ | ⟨j, hj, hu, _, _⟩
  · exact secF_none h hi tot
  · exact absurd (dig_unit (hd j hj)) hu
theorem bt_ext {s : ByteArray} {j i : Nat} (hj : j ≤ s.size) (hi : i < j) : bt (s.extract 0 j) i = bt s i := by
  rw [bt_extract s 0 j i (by omega) hj, Nat.zero_add]
/-- what is no unit's letter behind digits tells none -/
theorem secF_bad {s : ByteArray} {k : Nat} (hk : k < s.size) (hd : ∀ i, i < k → 48 ≤ bt s i ∧ bt s i ≤ 57) (hn : ¬ (48 ≤ bt s k ∧ bt s k ≤ 57)) (hu : unitV (bt s k) = 0) (tot : Nat) : secF s tot = none := by
  rcases any_cases s with ⟨_, hi⟩ | ⟨j, hj, hju, _, hi⟩
  · exact secF_none (by omega) hi tot
  · have hkj : k < j := by
      rcases Nat.lt_trichotomy k j with h | h | h
      · exact h
      · rw [← h] at hju; exact absurd hu hju
      · exact absurd (dig_unit (hd j h)) hju
    rw [secF_at hj hi]
    cases h : numR 64 10 (s.extract 0 j) with
    | none => rfl
    | some c =>
      have := (numR_dig h).2.2 k (by rw [ByteArray.size_extract]; omega)
      rw [bt_ext (by omega) hkj] at this
      exact absurd this hn
theorem secF_unit {s : ByteArray} {k : Nat} (hk : k < s.size) (hd : ∀ i, i < k → 48 ≤ bt s i ∧ bt s i ≤ 57) (hu : unitV (bt s k) ≠ 0) : Lib.indexAny s.data.toList uB = (k : Int) := by
  rcases any_cases s with ⟨h0, _⟩ | ⟨j, hj, hju, hbef, hi⟩
  · exact absurd (h0 k hk) hu
  · have : j = k := by
      rcases Nat.lt_trichotomy j k with h | h | h
      · exact absurd (dig_unit (hd j h)) hju
      · exact h
      · exact absurd (hbef k h) hu
    rw [← this]; exact hi
/-- how far the reference has come -/
def sumI (T : Option Nat) (s : ByteArray) (sum : Nat) : Prop := (sum ≤ 2147483647 ∧ T = secF s sum) ∨ (sum = 2147483648 ∧ T = none)
theorem sumI.none {T : Option Nat} {s : ByteArray} {sum : Nat} (h : sumI T s sum) (hn : ∀ tot, secF s tot = Option.none) : T = Option.none := by
  rcases h with ⟨_, h⟩ | ⟨_, h⟩
  · rw [h, hn]
  · exact h
theorem no_letter {y : Nat} (hu : unitV y = 0) : ((y : Int) == 119) = false ∧ ((y : Int) == 100) = false ∧ ((y : Int) == 104) = false ∧ ((y : Int) == 109) = false ∧ ((y : Int) == 115) = false := by
  have key : ∀ c : Nat, unitV c ≠ 0 → ((y : Int) == (c : Int)) = false := fun c hc => by
    rw [beq_eq_false_iff_ne]
    intro e
    have : y = c := by omega
    rw [this] at hu; exact hc hu
  exact ⟨key 119 (by decide), key 100 (by decide), key 104 (by decide), key 109 (by decide), key 115 (by decide)⟩
theorem letters {y : Nat} (h : unitV y ≠ 0) : y = 119 ∨ y = 100 ∨ y = 104 ∨ y = 109 ∨ y = 115 := by
  unfold unitV at h
  by_cases a1 : y = 119
  · exact .inl a1
  · by_cases a2 : y = 100
    · exact .inr (.inl a2)
    · by_cases a3 : y = 104
      · exact .inr (.inr (.inl a3))
      · by_cases a4 : y = 109
        · exact .inr (.inr (.inr (.inl a4)))
        · by_cases a5 : y = 115
          · exact .inr (.inr (.inr (.inr a5)))
          · simp [a1, a2, a3, a4, a5] at h

set_option maxHeartbeats 8000000 in
set_option maxRecDepth 100000 in
/-- gazetteerref2.Seconds -/
theorem refSeconds_any (t : ByteArray) (w : World) (ht : t.size ≤ 1048576) :
    Calls Tryd.prog 5 #[.string t] w fun e w' => e = .returned (.tuple #[.int .i64 ((secB t).getD 0 : Nat), .bool (secB t).isSome]) ∧ Below w.heap.size w w' := by
  have HN := hide3 (fun w => refNum t 31 2147483647 2147483647 (by decide) (fun v hv => by omega) (by omega) (by omega) (by omega) w ht)
  have HS := hide3 (fun w => low_any t w ht)
  have hls : (lowB t).size ≤ 1048576 := by rw [lowB_size]; exact ht
  cases hn : numR 31 10 t with
  | some v =>
    rw [hn] at HN
    have HE : Hid (secB t = some v) := by unfold Hid secB; rw [hn]
    have hv0 : (0 : Int) ≤ (v : Int) := by omega
    have HN2 : Hid (∀ w, Calls Tryd.prog 10 #[.string t, .int .i64 10, .int .i64 2147483647] w fun e w' => e = .returned (.int .i64 (v : Int)) ∧ w' = w) := HN
    clear hn HN
    go_enter Tryd.func5, Tryd.ntmps5
    go_wp2_with (go_at_call 10; refine (HN2.out _).mono ?_; rintro e w1 ⟨rfl, rfl⟩)
    go_ret2
    exact ⟨by rw [HE.out]; rfl, Below.refl _ _⟩
  | none =>
    rw [hn] at HN
    have HN2 : Hid (∀ w, Calls Tryd.prog 10 #[.string t, .int .i64 10, .int .i64 2147483647] w fun e w' => e = .returned (.int .i64 (-1)) ∧ w' = w) := HN
    clear HN
    by_cases h0 : t.size = 0
    · have he : (lowB t).toList.isEmpty = true := isEmpty_true (by rw [lowB_size]; exact h0)
      have HE : Hid (secB t = none) := by unfold Hid secB; rw [hn, if_pos h0]
      clear hn h0
      generalize lowB t = s0 at *
      go_enter Tryd.func5, Tryd.ntmps5
      go_wp2_with (first | (go_at_call 10; refine (HN2.out _).mono ?_; rintro e w ⟨rfl, rfl⟩) | (go_at_call 11; refine (HS.out _).mono ?_; rintro e w2 ⟨rfl, hB2⟩))
      go_ret2
      exact ⟨by rw [HE.out]; rfl, hB2⟩
    · have he : (lowB t).toList.isEmpty = false := isEmpty_false (by rw [lowB_size]; omega)
      have HE : Hid (secB t = secF (lowB t) 0) := by unfold Hid secB; rw [hn, if_neg h0]
      clear hn h0
      generalize lowB t = s0 at *
      go_enter Tryd.func5, Tryd.ntmps5
      go_wp2_with (first | (go_at_call 10; refine (HN2.out _).mono ?_; rintro e w ⟨rfl, rfl⟩) | (go_at_call 11; refine (HS.out _).mono ?_; rintro e w2 ⟨rfl, hB2⟩))
      go_loopw [5, 6] (fun tv rv wr => ∃ (s : ByteArray) (sum : Nat), rv = .string s ∧ tv = .int .i64 (sum : Int) ∧ s.size ≤ 1048576 ∧ sum ≤ 2147483648 ∧ Hid (sumI (secB t) s sum) ∧ Below w.heap.size w wr) (fun _ rv _ => match rv with | .string s => s.size | _ => 0)
      case atStart => exact ⟨s0, 0, rfl, rfl, hls, by omega, .inl ⟨by omega, HE.out⟩, hB2⟩
      case round =>
        clear hB2 hls HE he
        obtain ⟨s, sum, rfl, rfl, hs, hsum, HR, hB⟩ := hrel
        by_cases hz : s.size = 0
        · have he := isEmpty_true hz
          by_cases hle : sum ≤ 2147483647
          · have HQ : Hid (secB t = some sum) := by
              rcases HR.out with ⟨_, h⟩ | ⟨h, _⟩
              · exact h.trans (secF_nil hz sum)
              · omega
            have hle2 : ¬ (2147483647 : Int) < (sum : Int) := by omega
            have HLE := hide3 hle
            clear HR hz hle hsum
            go_wp2_with fail
            go_ret2
            exact ⟨by rw [HQ.out]; rfl, hB⟩
          · have HQ : Hid (secB t = none) := by
              rcases HR.out with ⟨h, _⟩ | ⟨_, h⟩
              · omega
              · exact h
            have hle2 : (2147483647 : Int) < (sum : Int) := by omega
            clear HR hz hle hsum
            go_wp2_with fail
            go_ret2
            exact ⟨by rw [HQ.out]; rfl, hB⟩
        · have he := isEmpty_false (r := s) (by omega)
          go_wp2_with fail
          go_loopw [7] (fun kv wr2 => ∃ k : Nat, kv = .int .i64 (k : Int) ∧ k ≤ s.size ∧ Hid (∀ i, i < k → 48 ≤ bt s i ∧ bt s i ≤ 57) ∧ wr2 = wr) (fun kv _ => s.size - (intOf kv).toNat)
          case atStart => exact ⟨0, rfl, Nat.zero_le _, (fun i hi => by omega), rfl⟩
          case round =>
            obtain ⟨k, rfl, hk, HD, hwr⟩ := hrel
            subst hwr
            by_cases hlt : k < s.size
            · obtain ⟨y, hy, HY, hyl⟩ := bt_wrap hlt
              by_cases hdg : 48 ≤ y ∧ y ≤ 57
              · obtain ⟨d0, d1⟩ := hdg
                have HD2 : Hid (∀ i, i < k + 1 → 48 ≤ bt s i ∧ bt s i ≤ 57) := fun i hi => by
                  by_cases e : i = k
                  · rw [e, HY]; exact ⟨d0, d1⟩
                  · exact HD.out i (by omega)
                clear HY HD
                go_wp2_with fail
                go_roundw
                case rel => first | exact ⟨k + 1, by go_num, by omega, HD2, by first | rfl | trivial⟩ | ((repeat apply Exists.intro); exact ⟨⟨k + 1, by go_num, by omega, HD2, by first | rfl | trivial⟩, rfl⟩)
                case measure => simp [intOf]; omega
              · have hxs : (s.extract 0 k).size ≤ 1048576 := by rw [ByteArray.size_extract]; omega
                have HNm := hide3 (fun w => refNum (s.extract 0 k) 64 18446744073709551615 9999999999 (by decide) (fun v hv => by omega) (by omega) (by omega) (by omega) w hxs)
                have hnk : ((k : Int) == (s.size : Int)) = false := by rw [beq_eq_false_iff_ne]; omega
                have hnd : y < 48 ∨ (48 ≤ y ∧ 57 < y) := by omega
                cases hnm : numR 64 10 (s.extract 0 k) with
                | none =>
                  rw [hnm] at HNm
                  have HNm2 : Hid (∀ w, Calls Tryd.prog 10 #[.string (s.extract 0 k), .int .i64 10, .int .i64 9999999999] w fun e w' => e = .returned (.int .i64 (-1)) ∧ w' = w) := HNm
                  have HQ : Hid (secB t = none) := by
                    refine HR.out.none (fun tot => ?_)
                    by_cases hu : unitV (bt s k) = 0
                    · exact secF_bad hlt HD.out (by rw [HY]; omega) hu tot
                    · rw [secF_at hlt (secF_unit hlt HD.out hu), hnm]
                  clear HR HD HNm hnm HY
                  rcases hnd with h | ⟨h, h'⟩
                  · go_wp2_with (go_at_call 10; refine (HNm2.out _).mono ?_; rintro e w5 ⟨rfl, hw5⟩; subst hw5)
                    go_ret2
                    exact ⟨by rw [HQ.out]; rfl, hB⟩
                  · go_wp2_with (go_at_call 10; refine (HNm2.out _).mono ?_; rintro e w5 ⟨rfl, hw5⟩; subst hw5)
                    go_ret2
                    exact ⟨by rw [HQ.out]; rfl, hB⟩
                | some c =>
                  rw [hnm] at HNm
                  have hc := numR_lt hnm
                  have hc0 : ¬ (c : Int) < 0 := by omega
                  have HNm2 : Hid (∀ w, Calls Tryd.prog 10 #[.string (s.extract 0 k), .int .i64 10, .int .i64 9999999999] w fun e w' => e = .returned (.int .i64 (c : Int)) ∧ w' = w) := HNm
                  clear HNm
                  by_cases hu : unitV y = 0
                  · have HQ : Hid (secB t = none) := HR.out.none (fun tot => secF_bad hlt HD.out (by rw [HY]; omega) (by rw [HY]; exact hu) tot)
                    obtain ⟨n1, n2, n3, n4, n5⟩ := no_letter hu
                    clear HR HD hnm HY hu hdg
                    rcases hnd with h | ⟨h, h'⟩
                    · go_wp2_with (go_at_call 10; refine (HNm2.out _).mono ?_; rintro e w5 ⟨rfl, hw5⟩; subst hw5)
                      go_ret2
                      exact ⟨by rw [HQ.out]; rfl, hB⟩
                    · go_wp2_with (go_at_call 10; refine (HNm2.out _).mono ?_; rintro e w5 ⟨rfl, hw5⟩; subst hw5)
                      go_ret2
                      exact ⟨by rw [HQ.out]; rfl, hB⟩
                  · have HF := hide3 (fun tot => secF_at hlt (secF_unit hlt HD.out (by rw [HY]; exact hu)) tot)
                    rw [hnm, HY] at HF
                    clear HD HY hnm
                    rcases letters hu with rfl | rfl | rfl | rfl | rfl
                    · obtain ⟨m, hm⟩ : ∃ m, c * 604800 = m := ⟨_, rfl⟩
                      have hml : m ≤ 6048000000000000 := by omega
                      have hmi : (c : Int) * 604800 = (m : Int) := by omega
                      have hun : unitV 119 = 604800 := rfl
                      simp only [hun, hm] at HF
                      clear hu hun hm hdg hnd
                      by_cases hov : 2147483647 < sum + m
                      · have HQ : Hid (sumI (secB t) (s.extract (k + 1) s.size) 2147483648) := by
                          refine .inr ⟨rfl, ?_⟩
                          rcases HR.out with ⟨h1, h2⟩ | ⟨_, h2⟩
                          · rw [h2, HF.out, if_pos hov]
                          · exact h2
                        have hov2 : (2147483647 : Int) < (sum : Int) + (m : Int) := by omega
                        clear HR HF hov
                        go_wp2_with (go_at_call 10; refine (HNm2.out _).mono ?_; rintro e w5 ⟨rfl, hw5⟩; subst hw5)
                        go_roundw
                        case rel => first | exact ⟨s.extract (k + 1) s.size, 2147483648, by first | rfl | go_num, by first | rfl | go_num, by rw [ByteArray.size_extract]; omega, by omega, HQ, hB⟩ | ((repeat apply Exists.intro); exact ⟨⟨s.extract (k + 1) s.size, 2147483648, by first | rfl | go_num, by first | rfl | go_num, by rw [ByteArray.size_extract]; omega, by omega, HQ, hB⟩, rfl⟩)
                        case measure => simp [ByteArray.size_extract]; omega
                      · have HQ : Hid (sumI (secB t) (s.extract (k + 1) s.size) (sum + m)) := by
                          rcases HR.out with ⟨h1, h2⟩ | ⟨h1, h2⟩
                          · exact .inl ⟨by omega, by rw [h2, HF.out, if_neg hov]⟩
                          · omega
                        have hov2 : ¬ (2147483647 : Int) < (sum : Int) + (m : Int) := by omega
                        have HOV := hide3 hov
                        clear HR HF hov
                        go_wp2_with (go_at_call 10; refine (HNm2.out _).mono ?_; rintro e w5 ⟨rfl, hw5⟩; subst hw5)
                        go_roundw
                        case rel => first | exact ⟨s.extract (k + 1) s.size, sum + m, by first | rfl | go_num, by go_num, by rw [ByteArray.size_extract]; omega, by have := HOV.out; omega, HQ, hB⟩ | ((repeat apply Exists.intro); exact ⟨⟨s.extract (k + 1) s.size, sum + m, by first | rfl | go_num, by go_num, by rw [ByteArray.size_extract]; omega, by have := HOV.out; omega, HQ, hB⟩, rfl⟩)
                        case measure => simp [ByteArray.size_extract]; omega
                    · obtain ⟨m, hm⟩ : ∃ m, c * 86400 = m := ⟨_, rfl⟩
                      have hml : m ≤ 6048000000000000 := by omega
                      have hmi : (c : Int) * 86400 = (m : Int) := by omega
                      have hun : unitV 100 = 86400 := rfl
                      simp only [hun, hm] at HF
                      clear hu hun hm hdg hnd
                      by_cases hov : 2147483647 < sum + m
                      · have HQ : Hid (sumI (secB t) (s.extract (k + 1) s.size) 2147483648) := by
                          refine .inr ⟨rfl, ?_⟩
                          rcases HR.out with ⟨h1, h2⟩ | ⟨_, h2⟩
                          · rw [h2, HF.out, if_pos hov]
                          · exact h2
                        have hov2 : (2147483647 : Int) < (sum : Int) + (m : Int) := by omega
                        clear HR HF hov
                        go_wp2_with (go_at_call 10; refine (HNm2.out _).mono ?_; rintro e w5 ⟨rfl, hw5⟩; subst hw5)
                        go_roundw
                        case rel => first | exact ⟨s.extract (k + 1) s.size, 2147483648, by first | rfl | go_num, by first | rfl | go_num, by rw [ByteArray.size_extract]; omega, by omega, HQ, hB⟩ | ((repeat apply Exists.intro); exact ⟨⟨s.extract (k + 1) s.size, 2147483648, by first | rfl | go_num, by first | rfl | go_num, by rw [ByteArray.size_extract]; omega, by omega, HQ, hB⟩, rfl⟩)
                        case measure => simp [ByteArray.size_extract]; omega
                      · have HQ : Hid (sumI (secB t) (s.extract (k + 1) s.size) (sum + m)) := by
                          rcases HR.out with ⟨h1, h2⟩ | ⟨h1, h2⟩
                          · exact .inl ⟨by omega, by rw [h2, HF.out, if_neg hov]⟩
                          · omega
                        have hov2 : ¬ (2147483647 : Int) < (sum : Int) + (m : Int) := by omega
                        have HOV := hide3 hov
                        clear HR HF hov
                        go_wp2_with (go_at_call 10; refine (HNm2.out _).mono ?_; rintro e w5 ⟨rfl, hw5⟩; subst hw5)
                        go_roundw
                        case rel => first | exact ⟨s.extract (k + 1) s.size, sum + m, by first | rfl | go_num, by go_num, by rw [ByteArray.size_extract]; omega, by have := HOV.out; omega, HQ, hB⟩ | ((repeat apply Exists.intro); exact ⟨⟨s.extract (k + 1) s.size, sum + m, by first | rfl | go_num, by go_num, by rw [ByteArray.size_extract]; omega, by have := HOV.out; omega, HQ, hB⟩, rfl⟩)
                        case measure => simp [ByteArray.size_extract]; omega
                    · obtain ⟨m, hm⟩ : ∃ m, c * 3600 = m := ⟨_, rfl⟩
                      have hml : m ≤ 6048000000000000 := by omega
                      have hmi : (c : Int) * 3600 = (m : Int) := by omega
                      have hun : unitV 104 = 3600 := rfl
                      simp only [hun, hm] at HF
                      clear hu hun hm hdg hnd
                      by_cases hov : 2147483647 < sum + m
                      · have HQ : Hid (sumI (secB t) (s.extract (k + 1) s.size) 2147483648) := by
                          refine .inr ⟨rfl, ?_⟩
                          rcases HR.out with ⟨h1, h2⟩ | ⟨_, h2⟩
                          · rw [h2, HF.out, if_pos hov]
                          · exact h2
                        have hov2 : (2147483647 : Int) < (sum : Int) + (m : Int) := by omega
                        clear HR HF hov
                        go_wp2_with (go_at_call 10; refine (HNm2.out _).mono ?_; rintro e w5 ⟨rfl, hw5⟩; subst hw5)
                        go_roundw
                        case rel => first | exact ⟨s.extract (k + 1) s.size, 2147483648, by first | rfl | go_num, by first | rfl | go_num, by rw [ByteArray.size_extract]; omega, by omega, HQ, hB⟩ | ((repeat apply Exists.intro); exact ⟨⟨s.extract (k + 1) s.size, 2147483648, by first | rfl | go_num, by first | rfl | go_num, by rw [ByteArray.size_extract]; omega, by omega, HQ, hB⟩, rfl⟩)
                        case measure => simp [ByteArray.size_extract]; omega
                      · have HQ : Hid (sumI (secB t) (s.extract (k + 1) s.size) (sum + m)) := by
                          rcases HR.out with ⟨h1, h2⟩ | ⟨h1, h2⟩
                          · exact .inl ⟨by omega, by rw [h2, HF.out, if_neg hov]⟩
                          · omega
                        have hov2 : ¬ (2147483647 : Int) < (sum : Int) + (m : Int) := by omega
                        have HOV := hide3 hov
                        clear HR HF hov
                        go_wp2_with (go_at_call 10; refine (HNm2.out _).mono ?_; rintro e w5 ⟨rfl, hw5⟩; subst hw5)
                        go_roundw
                        case rel => first | exact ⟨s.extract (k + 1) s.size, sum + m, by first | rfl | go_num, by go_num, by rw [ByteArray.size_extract]; omega, by have := HOV.out; omega, HQ, hB⟩ | ((repeat apply Exists.intro); exact ⟨⟨s.extract (k + 1) s.size, sum + m, by first | rfl | go_num, by go_num, by rw [ByteArray.size_extract]; omega, by have := HOV.out; omega, HQ, hB⟩, rfl⟩)
                        case measure => simp [ByteArray.size_extract]; omega
                    · obtain ⟨m, hm⟩ : ∃ m, c * 60 = m := ⟨_, rfl⟩
                      have hml : m ≤ 6048000000000000 := by omega
                      have hmi : (c : Int) * 60 = (m : Int) := by omega
                      have hun : unitV 109 = 60 := rfl
                      simp only [hun, hm] at HF
                      clear hu hun hm hdg hnd
                      by_cases hov : 2147483647 < sum + m
                      · have HQ : Hid (sumI (secB t) (s.extract (k + 1) s.size) 2147483648) := by
                          refine .inr ⟨rfl, ?_⟩
                          rcases HR.out with ⟨h1, h2⟩ | ⟨_, h2⟩
                          · rw [h2, HF.out, if_pos hov]
                          · exact h2
                        have hov2 : (2147483647 : Int) < (sum : Int) + (m : Int) := by omega
                        clear HR HF hov
                        go_wp2_with (go_at_call 10; refine (HNm2.out _).mono ?_; rintro e w5 ⟨rfl, hw5⟩; subst hw5)
                        go_roundw
                        case rel => first | exact ⟨s.extract (k + 1) s.size, 2147483648, by first | rfl | go_num, by first | rfl | go_num, by rw [ByteArray.size_extract]; omega, by omega, HQ, hB⟩ | ((repeat apply Exists.intro); exact ⟨⟨s.extract (k + 1) s.size, 2147483648, by first | rfl | go_num, by first | rfl | go_num, by rw [ByteArray.size_extract]; omega, by omega, HQ, hB⟩, rfl⟩)
                        case measure => simp [ByteArray.size_extract]; omega
                      · have HQ : Hid (sumI (secB t) (s.extract (k + 1) s.size) (sum + m)) := by
                          rcases HR.out with ⟨h1, h2⟩ | ⟨h1, h2⟩
                          · exact .inl ⟨by omega, by rw [h2, HF.out, if_neg hov]⟩
                          · omega
                        have hov2 : ¬ (2147483647 : Int) < (sum : Int) + (m : Int) := by omega
                        have HOV := hide3 hov
                        clear HR HF hov
                        go_wp2_with (go_at_call 10; refine (HNm2.out _).mono ?_; rintro e w5 ⟨rfl, hw5⟩; subst hw5)
                        go_roundw
                        case rel => first | exact ⟨s.extract (k + 1) s.size, sum + m, by first | rfl | go_num, by go_num, by rw [ByteArray.size_extract]; omega, by have := HOV.out; omega, HQ, hB⟩ | ((repeat apply Exists.intro); exact ⟨⟨s.extract (k + 1) s.size, sum + m, by first | rfl | go_num, by go_num, by rw [ByteArray.size_extract]; omega, by have := HOV.out; omega, HQ, hB⟩, rfl⟩)
                        case measure => simp [ByteArray.size_extract]; omega
                    · obtain ⟨m, hm⟩ : ∃ m, c * 1 = m := ⟨_, rfl⟩
                      have hml : m ≤ 6048000000000000 := by omega
                      have hmi : (c : Int) * 1 = (m : Int) := by omega
                      have hun : unitV 115 = 1 := rfl
                      simp only [hun, hm] at HF
                      clear hu hun hm hdg hnd
                      by_cases hov : 2147483647 < sum + m
                      · have HQ : Hid (sumI (secB t) (s.extract (k + 1) s.size) 2147483648) := by
                          refine .inr ⟨rfl, ?_⟩
                          rcases HR.out with ⟨h1, h2⟩ | ⟨_, h2⟩
                          · rw [h2, HF.out, if_pos hov]
                          · exact h2
                        have hov2 : (2147483647 : Int) < (sum : Int) + (m : Int) := by omega
                        clear HR HF hov
                        go_wp2_with (go_at_call 10; refine (HNm2.out _).mono ?_; rintro e w5 ⟨rfl, hw5⟩; subst hw5)
                        go_roundw
                        case rel => first | exact ⟨s.extract (k + 1) s.size, 2147483648, by first | rfl | go_num, by first | rfl | go_num, by rw [ByteArray.size_extract]; omega, by omega, HQ, hB⟩ | ((repeat apply Exists.intro); exact ⟨⟨s.extract (k + 1) s.size, 2147483648, by first | rfl | go_num, by first | rfl | go_num, by rw [ByteArray.size_extract]; omega, by omega, HQ, hB⟩, rfl⟩)
                        case measure => simp [ByteArray.size_extract]; omega
                      · have HQ : Hid (sumI (secB t) (s.extract (k + 1) s.size) (sum + m)) := by
                          rcases HR.out with ⟨h1, h2⟩ | ⟨h1, h2⟩
                          · exact .inl ⟨by omega, by rw [h2, HF.out, if_neg hov]⟩
                          · omega
                        have hov2 : ¬ (2147483647 : Int) < (sum : Int) + (m : Int) := by omega
                        have HOV := hide3 hov
                        clear HR HF hov
                        go_wp2_with (go_at_call 10; refine (HNm2.out _).mono ?_; rintro e w5 ⟨rfl, hw5⟩; subst hw5)
                        go_roundw
                        case rel => first | exact ⟨s.extract (k + 1) s.size, sum + m, by first | rfl | go_num, by go_num, by rw [ByteArray.size_extract]; omega, by have := HOV.out; omega, HQ, hB⟩ | ((repeat apply Exists.intro); exact ⟨⟨s.extract (k + 1) s.size, sum + m, by first | rfl | go_num, by go_num, by rw [ByteArray.size_extract]; omega, by have := HOV.out; omega, HQ, hB⟩, rfl⟩)
                        case measure => simp [ByteArray.size_extract]; omega
            · have hkk : k = s.size := by omega
              have hke : ((k : Int) == (s.size : Int)) = true := by rw [beq_iff_eq]; omega
              have hxs : (s.extract 0 k).size ≤ 1048576 := by rw [ByteArray.size_extract]; omega
              have HNm := hide3 (fun w => refNum (s.extract 0 k) 64 18446744073709551615 9999999999 (by decide) (fun v hv => by omega) (by omega) (by omega) (by omega) w hxs)
              have HQ : Hid (secB t = none) := HR.out.none (fun tot => secF_dig (by omega) (fun i hi => HD.out i (by omega)) tot)
              clear HR HD hkk
              cases hnm : numR 64 10 (s.extract 0 k) with
              | none =>
                rw [hnm] at HNm
                have HNm2 : Hid (∀ w, Calls Tryd.prog 10 #[.string (s.extract 0 k), .int .i64 10, .int .i64 9999999999] w fun e w' => e = .returned (.int .i64 (-1)) ∧ w' = w) := HNm
                clear HNm hnm
                go_wp2_with (go_at_call 10; refine (HNm2.out _).mono ?_; rintro e w5 ⟨rfl, hw5⟩; subst hw5)
                go_ret2
                exact ⟨by rw [HQ.out]; rfl, hB⟩
              | some c =>
                rw [hnm] at HNm
                have hc := numR_lt hnm
                have hc0 : ¬ (c : Int) < 0 := by omega
                have HNm2 : Hid (∀ w, Calls Tryd.prog 10 #[.string (s.extract 0 k), .int .i64 10, .int .i64 9999999999] w fun e w' => e = .returned (.int .i64 (c : Int)) ∧ w' = w) := HNm
                clear HNm hnm
                go_wp2_with (go_at_call 10; refine (HNm2.out _).mono ?_; rintro e w5 ⟨rfl, hw5⟩; subst hw5)
                go_ret2
                exact ⟨by rw [HQ.out]; rfl, hB⟩
end Go.Proofs.YtkeibncmgplgkaaDoor
