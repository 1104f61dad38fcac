import Derived.Test.YtennkhdhnbdbeaaGreatSf1G
import Derived.Test.YtennkhdhnbdbeaaGreatBt1
import Derived.Test.YtennkhdhnbdbeaaGreatSd1G
import Derived.Test.YtennkhdhnbdbeaaGreatSd3G
namespace Go.Proofs.YtennkhdhnbdbeaaGreat.Nm
set_option linter.unusedVariables false
theorem pow_sq (b k : Nat) : (b * b) ^ k = b ^ (2 * k) := by rw [Nat.pow_mul, Nat.pow_two]
theorem pow_step_odd {P B e m : Nat} (h : e % 2 = 1) : (P * B % m) * (B * B % m) ^ (e / 2) % m = P * B ^ e % m := by
  have e1 : B ^ e = B * (B * B) ^ (e / 2) := by
    rw [pow_sq, Nat.mul_comm B, ← Nat.pow_succ]
    congr 1; omega
  rw [Nat.mul_mod, Nat.mod_mod, ← Nat.pow_mod, ← Nat.mul_mod, e1, Nat.mul_assoc]
theorem pow_step_even {P B e m : Nat} (h : e % 2 = 0) : P * (B * B % m) ^ (e / 2) % m = P * B ^ e % m := by
  have e1 : B ^ e = (B * B) ^ (e / 2) := by
    rw [pow_sq]; congr 1; omega
  rw [Nat.mul_mod, ← Nat.pow_mod, ← Nat.mul_mod, e1]
theorem pow_half {x e m : Nat} (h : e % 2 = 0) : (x ^ (e / 2) % m) * (x ^ (e / 2) % m) % m = x ^ e % m := by
  rw [← Nat.mul_mod, ← Nat.pow_add]; congr 2; omega
theorem pow_half1 {x e m : Nat} (h : e % 2 = 1) : ((x ^ (e / 2) % m) * (x ^ (e / 2) % m) % m) * (x % m) % m = x ^ e % m := by
  rw [← Nat.mul_mod (x ^ (e / 2)), ← Nat.mul_mod, ← Nat.pow_add, ← Nat.pow_succ]; congr 2; omega
/-- a text's number, behind k bytes of its digest -/
def fgN (s : ByteArray) (m : Nat) : Nat → Nat
  | 0 => 0
  | k + 1 => (fgN s m k * 256 + bt s k) % m
theorem fgN_lt (s : ByteArray) (m : Nat) (hm : 1 ≤ m) : ∀ k, fgN s m k < m
  | 0 => hm
  | k + 1 => Nat.mod_lt _ hm
end Go.Proofs.YtennkhdhnbdbeaaGreat.Nm
namespace Go.Proofs.YtennkhdhnbdbeaaGreat
set_option linter.unusedVariables false
open Go.RowKit Go.Shelf Go.Proofs.YtennkhdhnbdbeaaGreat.Nm

theorem i64_or_big (a b : Nat) (ha : a < 4611686018427387904) (hb : b < 4611686018427387904) : bits .or .i64 (a : Int) (b : Int) = ((a ||| b : Nat) : Int) := by
  have hx : a ||| b < 2 ^ 62 := Nat.or_lt_two_pow (by omega) (by omega)
  show IntKind.i64.wrap ((BitVec.ofInt 64 (a : Int) ||| BitVec.ofInt 64 (b : Int)).toNat : Int) = _
  rw [BitVec.toNat_or, ofInt_u64 a (by omega), ofInt_u64 b (by omega)]
  simp [IntKind.wrap, IntKind.bits, IntKind.signed]
  omega
theorem or_byte (x y : Nat) (hx : x < 2147483648) (hy : y < 256) : bits .or .i64 ((x : Int) * 256) (y : Int) = ((x * 256 + y : Nat) : Int) := by
  have h := i64_or_big (x * 2 ^ 8) y (by omega) (by omega)
  rw [nat_join 8 _ _ (by simp) (by omega)] at h
  simpa using h

set_option maxRecDepth 100000 in
set_option maxHeartbeats 1000000 in
/-- seal.power -/
theorem power_any (x e m : Nat) (w : World) (hm : 2 ≤ m) (hm2 : m ≤ 2147483647) (hx : x ≤ 4611686018427387903) (he : e ≤ 2147483647) :
    Calls Tryz.prog 28 #[.int .i64 (x : Int), .int .i64 (e : Int), .int .i64 (m : Int)] w fun r w' => r = .returned (.int .i64 ((x ^ e % m : Nat) : Int)) ∧ w' = w := by
  have hm0 : ¬ (m : Int) = 0 := by omega
  have hxm : (x : Int).tmod (m : Int) = ((x % m : Nat) : Int) := rfl
  go_enter Tryz.func28, Tryz.ntmps28
  go_wp2_with fail
  clear hxm
  go_loop [0, 1, 7] (fun vb ve vp => ∃ B E P : Nat, vb = .int .i64 (B : Int) ∧ ve = .int .i64 (E : Int) ∧ vp = .int .i64 (P : Int) ∧ B < m ∧ E ≤ 2147483647 ∧ P < m ∧ Hid (P * B ^ E % m = x ^ e % m)) (fun _ ve _ => (intOf ve).toNat)
  case atStart => exact ⟨x % m, e, 1, rfl, rfl, rfl, Nat.mod_lt _ (by omega), he, by omega, by unfold Hid; rw [Nat.one_mul, ← Nat.pow_mod]⟩
  case round =>
    obtain ⟨B, E, P, rfl, rfl, rfl, hB, hE, hP, HI⟩ := hrel
    by_cases h0 : E = 0
    · subst h0
      have HR : Hid (x ^ e % m = P) := by unfold Hid; rw [← HI.out, Nat.pow_zero, Nat.mul_one, Nat.mod_eq_of_lt hP]
      go_wp2_with fail
      go_ret
      refine ⟨?_, rfl⟩
      show Ending.returned (.int .i64 (P : Int)) = _
      rw [show ((x : Int) ^ e % (m : Int)) = ((x ^ e % m : Nat) : Int) by simp, HR.out]
    · have hE0 : 0 < E := by omega
      obtain ⟨z, hz⟩ : ∃ z : Nat, B * B = z := ⟨_, rfl⟩
      have hzi : (B : Int) * (B : Int) = (z : Int) := by rw [← hz]; simp
      have hzl : z ≤ 4611686014132420609 := by rw [← hz]; exact Nat.mul_le_mul (show B ≤ 2147483647 by omega) (show B ≤ 2147483647 by omega)
      have hzm : (z : Int).tmod (m : Int) = ((z % m : Nat) : Int) := rfl
      have hgl : z % m < m := Nat.mod_lt _ (by omega)
      have hsh : (E : Int) / 2 ^ 1 = ((E / 2 : Nat) : Int) := by simp
      have hand : bits .and .i64 (E : Int) 1 = ((E % 2 : Nat) : Int) := by
        have := and_mask 1 E (by omega) (by omega)
        simpa using this
      rcases Nat.mod_two_eq_zero_or_one E with h2 | h2
      · have HS : Hid (P * (z % m) ^ (E / 2) % m = x ^ e % m) := by unfold Hid; rw [← hz, pow_step_even h2, HI.out]
        rw [h2] at hand
        clear HI hz
        go_wp2_with fail
        exact ⟨⟨z % m, E / 2, P, by simp, by simp, rfl, hgl, by omega, hP, HS⟩, by simp [intOf]; omega⟩
      · obtain ⟨t, ht⟩ : ∃ t : Nat, P * B = t := ⟨_, rfl⟩
        have hti : (P : Int) * (B : Int) = (t : Int) := by rw [← ht]; simp
        have htl : t ≤ 4611686014132420609 := by rw [← ht]; exact Nat.mul_le_mul (show P ≤ 2147483647 by omega) (show B ≤ 2147483647 by omega)
        have htm : (t : Int).tmod (m : Int) = ((t % m : Nat) : Int) := rfl
        have HS : Hid ((t % m) * (z % m) ^ (E / 2) % m = x ^ e % m) := by unfold Hid; rw [← hz, ← ht, pow_step_odd h2, HI.out]
        have htg : t % m < m := Nat.mod_lt _ (by omega)
        rw [h2] at hand
        clear HI hz ht
        go_wp2_with fail
        exact ⟨⟨z % m, E / 2, t % m, by simp, by simp, by simp, hgl, by omega, htg, HS⟩, by simp [intOf]; omega⟩

set_option maxRecDepth 100000 in
set_option maxHeartbeats 1000000 in
/-- gazetteerref4.Power -/
theorem refPower_any (x m : Nat) (hm : 2 ≤ m) (hm2 : m ≤ 2147483647) (hx : x ≤ 4611686018427387903) : ∀ (e : Nat) (w : World), e ≤ 2147483647 →
    Calls Tryz.prog 42 #[.int .i64 (x : Int), .int .i64 (e : Int), .int .i64 (m : Int)] w fun r w' => r = .returned (.int .i64 ((x ^ e % m : Nat) : Int)) ∧ w' = w := by
  intro e
  induction e using Nat.strongRecOn with
  | _ e ih =>
    intro w he
    have hm0 : ¬ (m : Int) = 0 := by omega
    by_cases h0 : e = 0
    · subst h0
      have h1 : (1 : Int).tmod (m : Int) = 1 := by rw [Int.tmod_eq_emod_of_nonneg (by omega), Int.emod_eq_of_lt (by omega) (by omega)]
      have HV : Hid (x ^ 0 % m = 1) := by unfold Hid; rw [Nat.pow_zero, Nat.mod_eq_of_lt (by omega)]
      go_enter Tryz.func42, Tryz.ntmps42
      go_wp2
      go_ret
      exact ⟨by rw [HV.out]; rfl, rfl⟩
    · have HIH := hide' (fun w => ih (e / 2) (by omega) w (by omega))
      have hb0 : ((e : Int) == 0) = false := by rw [beq_eq_false_iff_ne]; omega
      have hxl : x % m < m := Nat.mod_lt _ (by omega)
      have hxm : (x : Int).tmod (m : Int) = ((x % m : Nat) : Int) := rfl
      have hhl : x ^ (e / 2) % m < m := Nat.mod_lt _ (by omega)
      have HEV := hide' (fun h => pow_half (x := x) (e := e) (m := m) h)
      have HOD := hide' (fun h => pow_half1 (x := x) (e := e) (m := m) h)
      generalize x ^ e % m = R at *
      generalize x ^ (e / 2) % m = hh at *
      generalize x % m = y at *
      obtain ⟨z, hz⟩ : ∃ z : Nat, hh * hh = z := ⟨_, rfl⟩
      have hzi : (hh : Int) * (hh : Int) = (z : Int) := by rw [← hz]; simp
      have hzl : z ≤ 4611686014132420609 := by rw [← hz]; exact Nat.mul_le_mul (show hh ≤ 2147483647 by omega) (show hh ≤ 2147483647 by omega)
      have hzm : (z : Int).tmod (m : Int) = ((z % m : Nat) : Int) := rfl
      have hgl : z % m < m := Nat.mod_lt _ (by omega)
      rw [hz] at HEV HOD
      clear hz ih
      generalize z % m = g at *
      rcases Nat.mod_two_eq_zero_or_one e with h2 | h2
      · have hr := HEV.out h2
        have ht : (e : Int).tmod 2 = 0 := by rw [Int.tmod_eq_emod_of_nonneg (by omega)]; omega
        clear HEV HOD
        go_enter Tryz.func42, Tryz.ntmps42
        go_wp2_with (go_at_call 42; refine (HIH.out _).mono ?_; rintro r w1 ⟨rfl, rfl⟩)
        go_ret
        exact ⟨by rw [← hr]; rfl, rfl⟩
      · obtain ⟨t, htt⟩ : ∃ t : Nat, g * y = t := ⟨_, rfl⟩
        have hti : (g : Int) * (y : Int) = (t : Int) := by rw [← htt]; simp
        have htl : t ≤ 4611686014132420609 := by rw [← htt]; exact Nat.mul_le_mul (show g ≤ 2147483647 by omega) (show y ≤ 2147483647 by omega)
        have htm : (t : Int).tmod (m : Int) = ((t % m : Nat) : Int) := rfl
        have hr := hide' (HOD.out h2)
        rw [htt] at hr
        have ht : (e : Int).tmod 2 = 1 := by rw [Int.tmod_eq_emod_of_nonneg (by omega)]; omega
        clear HEV HOD htt
        go_enter Tryz.func42, Tryz.ntmps42
        go_wp2_with (go_at_call 42; refine (HIH.out _).mono ?_; rintro r w1 ⟨rfl, rfl⟩)
        go_ret
        exact ⟨by rw [← hr.out]; rfl, rfl⟩
end Go.Proofs.YtennkhdhnbdbeaaGreat

namespace Go.Proofs.YtennkhdhnbdbeaaGreat
set_option linter.unusedVariables false
open Go.RowKit Go.Shelf Go.Proofs.YtennkhdhnbdbeaaGreat.Nm

set_option maxRecDepth 100000 in
set_option maxHeartbeats 1000000 in
/-- seal.number -/
theorem number_any (s : ByteArray) (m : Nat) (w : World) (hs : s.size ≤ 2097152) (hm : 1 ≤ m) (hm2 : m ≤ 2147483647) :
    Calls Tryz.prog 29 #[.string s, .int .i64 (m : Int)] w fun r w' => r = .returned (.int .i64 (fgN (digB s) m 10 : Int)) ∧ Below w.heap.size w w' := by
  have hm0 : ¬ (m : Int) = 0 := by omega
  have HD := hide' (fun w => digest_any s w hs)
  have zD := digB_size s
  generalize digB s = D at *
  go_enter Tryz.func29, Tryz.ntmps29
  go_wp2_with (go_at_call 70; refine (HD.out _).mono ?_; rintro r w1 ⟨rfl, hB1⟩)
  have HB1 := hide' hB1
  clear hB1
  go_loop [6, 12] (fun a i => ∃ j : Nat, i = .int .i64 (j : Int) ∧ a = .int .i64 (fgN D m j : Int) ∧ j ≤ 10) (fun _ i => 10 - (intOf i).toNat)
  case atStart => exact ⟨0, rfl, rfl, Nat.zero_le _⟩
  case round =>
    obtain ⟨j, rfl, rfl, hj⟩ := hrel
    by_cases hlt : j < 10
    · have hltD : j < D.size := by omega
      obtain ⟨y, hy, hy256⟩ : ∃ y, bt D j = y ∧ y < 256 := ⟨_, rfl, bt_lt _ _⟩
      have hby : (D[j]'hltD).toNat = y := (bt_eq hltD).trans hy
      have hxl := fgN_lt D m hm j
      have HE : Hid (fgN D m (j + 1) = (fgN D m j * 256 + y) % m) := by unfold Hid; rw [fgN, hy]
      generalize fgN D m j = x at *
      have hor := or_byte x y (by omega) hy256
      obtain ⟨z, hz⟩ : ∃ z : Nat, x * 256 + y = z := ⟨_, rfl⟩
      have hzl : z ≤ 549755814143 := by omega
      rw [hz] at hor HE
      have hzi : (x : Int) * 256 + (y : Int) = (z : Int) := by omega
      have hzm : (z : Int).tmod (m : Int) = ((z % m : Nat) : Int) := rfl
      clear hz
      go_wp2_with fail
      exact ⟨⟨j + 1, by go_num, by rw [HE.out]; simp, by omega⟩, by simp [intOf]; omega⟩
    · obtain rfl : j = 10 := by omega
      go_wp2_with fail
      go_ret
      exact ⟨rfl, HB1.out⟩

set_option maxRecDepth 100000 in
set_option maxHeartbeats 1000000 in
/-- gazetteerref4.Figure -/
theorem figure_any (s : ByteArray) (m : Nat) (w : World) (hs : s.size ≤ 1048576) (hm : 1 ≤ m) (hm2 : m ≤ 2147483647) :
    Calls Tryz.prog 43 #[.string s, .int .i64 (m : Int)] w fun r w' => r = .returned (.int .i64 (fgN (digB s) m 10 : Int)) ∧ Below w.heap.size w w' := by
  have hm0 : ¬ (m : Int) = 0 := by omega
  have HD := hide' (fun w => refDigest_any s w hs)
  have zD := digB_size s
  generalize digB s = D at *
  go_enter Tryz.func43, Tryz.ntmps43
  go_wp2_with (go_at_call 83; refine (HD.out _).mono ?_; rintro r w1 ⟨rfl, hB1⟩)
  have HB1 := hide' hB1
  clear hB1
  go_loop [5, 7] (fun a i => ∃ j : Nat, i = .int .i64 (j : Int) ∧ a = .int .i64 (fgN D m j : Int) ∧ j ≤ 10) (fun _ i => 10 - (intOf i).toNat)
  case atStart => exact ⟨0, rfl, rfl, Nat.zero_le _⟩
  case round =>
    obtain ⟨j, rfl, rfl, hj⟩ := hrel
    by_cases hlt : j < 10
    · have hltD : j < D.size := by omega
      obtain ⟨y, hy, hy256⟩ : ∃ y, bt D j = y ∧ y < 256 := ⟨_, rfl, bt_lt _ _⟩
      have hby : (D[j]'hltD).toNat = y := (bt_eq hltD).trans hy
      have hxl := fgN_lt D m hm j
      have HE : Hid (fgN D m (j + 1) = (fgN D m j * 256 + y) % m) := by unfold Hid; rw [fgN, hy]
      generalize fgN D m j = x at *
      have hor := or_byte x y (by omega) hy256
      obtain ⟨z, hz⟩ : ∃ z : Nat, x * 256 + y = z := ⟨_, rfl⟩
      have hzl : z ≤ 549755814143 := by omega
      rw [hz] at hor HE
      have hzi : (x : Int) * 256 + (y : Int) = (z : Int) := by omega
      have hzm : (z : Int).tmod (m : Int) = ((z % m : Nat) : Int) := rfl
      clear hz
      go_wp2_with fail
      exact ⟨⟨j + 1, by go_num, by rw [HE.out]; simp, by omega⟩, by simp [intOf]; omega⟩
    · obtain rfl : j = 10 := by omega
      go_wp2_with fail
      go_ret
      exact ⟨rfl, HB1.out⟩
end Go.Proofs.YtennkhdhnbdbeaaGreat
