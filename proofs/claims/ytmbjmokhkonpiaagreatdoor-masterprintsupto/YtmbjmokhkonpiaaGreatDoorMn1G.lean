import Derived.Test.YtmbjmokhkonpiaaGreatDoorTn1G
import Derived.Test.YtmbjmokhkonpiaaGreatDoorVs1G
import Derived.Test.YtmbjmokhkonpiaaGreatDoorSu1G
namespace Go.Proofs.YtmbjmokhkonpiaaGreatDoor
set_option linter.unusedVariables false
open Go.RowKit Go.Shelf Go.Proofs.YtmbjmokhkonpiaaGreatDoor.Nm

/-- a type's word, or nothing -/
def mnB (t : Int) : ByteArray := (twFind t).getD ⟨#[]⟩
set_option maxRecDepth 100000 in
set_option maxHeartbeats 4000000 in
/-- gazetteerref1.mnemonic -/
theorem mnemonic_any (t : Int) (w : World) :
    Calls Tryz.prog 49 #[.int .i64 t] w fun e w' => e = .returned (.string (mnB t)) ∧ w' = w := by
  by_cases h1 : t = 1
  · subst h1
    have HE : Hid (mnB 1 = ⟨#[65]⟩) := rfl
    go_enter Tryz.func49, Tryz.ntmps49
    go_wp2
    go_ret
    exact ⟨by rw [HE.out]; rfl, rfl⟩
  by_cases h2 : t = 2
  · subst h2
    have HE : Hid (mnB 2 = ⟨#[78, 83]⟩) := rfl
    go_enter Tryz.func49, Tryz.ntmps49
    go_wp2
    go_ret
    exact ⟨by rw [HE.out]; rfl, rfl⟩
  by_cases h5 : t = 5
  · subst h5
    have HE : Hid (mnB 5 = ⟨#[67, 78, 65, 77, 69]⟩) := rfl
    go_enter Tryz.func49, Tryz.ntmps49
    go_wp2
    go_ret
    exact ⟨by rw [HE.out]; rfl, rfl⟩
  by_cases h6 : t = 6
  · subst h6
    have HE : Hid (mnB 6 = ⟨#[83, 79, 65]⟩) := rfl
    go_enter Tryz.func49, Tryz.ntmps49
    go_wp2
    go_ret
    exact ⟨by rw [HE.out]; rfl, rfl⟩
  by_cases h12 : t = 12
  · subst h12
    have HE : Hid (mnB 12 = ⟨#[80, 84, 82]⟩) := rfl
    go_enter Tryz.func49, Tryz.ntmps49
    go_wp2
    go_ret
    exact ⟨by rw [HE.out]; rfl, rfl⟩
  by_cases h13 : t = 13
  · subst h13
    have HE : Hid (mnB 13 = ⟨#[72, 73, 78, 70, 79]⟩) := rfl
    go_enter Tryz.func49, Tryz.ntmps49
    go_wp2
    go_ret
    exact ⟨by rw [HE.out]; rfl, rfl⟩
  by_cases h15 : t = 15
  · subst h15
    have HE : Hid (mnB 15 = ⟨#[77, 88]⟩) := rfl
    go_enter Tryz.func49, Tryz.ntmps49
    go_wp2
    go_ret
    exact ⟨by rw [HE.out]; rfl, rfl⟩
  by_cases h16 : t = 16
  · subst h16
    have HE : Hid (mnB 16 = ⟨#[84, 88, 84]⟩) := rfl
    go_enter Tryz.func49, Tryz.ntmps49
    go_wp2
    go_ret
    exact ⟨by rw [HE.out]; rfl, rfl⟩
  by_cases h28 : t = 28
  · subst h28
    have HE : Hid (mnB 28 = ⟨#[65, 65, 65, 65]⟩) := rfl
    go_enter Tryz.func49, Tryz.ntmps49
    go_wp2
    go_ret
    exact ⟨by rw [HE.out]; rfl, rfl⟩
  by_cases h33 : t = 33
  · subst h33
    have HE : Hid (mnB 33 = ⟨#[83, 82, 86]⟩) := rfl
    go_enter Tryz.func49, Tryz.ntmps49
    go_wp2
    go_ret
    exact ⟨by rw [HE.out]; rfl, rfl⟩
  by_cases h35 : t = 35
  · subst h35
    have HE : Hid (mnB 35 = ⟨#[78, 65, 80, 84, 82]⟩) := rfl
    go_enter Tryz.func49, Tryz.ntmps49
    go_wp2
    go_ret
    exact ⟨by rw [HE.out]; rfl, rfl⟩
  by_cases h39 : t = 39
  · subst h39
    have HE : Hid (mnB 39 = ⟨#[68, 78, 65, 77, 69]⟩) := rfl
    go_enter Tryz.func49, Tryz.ntmps49
    go_wp2
    go_ret
    exact ⟨by rw [HE.out]; rfl, rfl⟩
  by_cases h41 : t = 41
  · subst h41
    have HE : Hid (mnB 41 = ⟨#[79, 80, 84]⟩) := rfl
    go_enter Tryz.func49, Tryz.ntmps49
    go_wp2
    go_ret
    exact ⟨by rw [HE.out]; rfl, rfl⟩
  by_cases h43 : t = 43
  · subst h43
    have HE : Hid (mnB 43 = ⟨#[68, 83]⟩) := rfl
    go_enter Tryz.func49, Tryz.ntmps49
    go_wp2
    go_ret
    exact ⟨by rw [HE.out]; rfl, rfl⟩
  by_cases h46 : t = 46
  · subst h46
    have HE : Hid (mnB 46 = ⟨#[82, 82, 83, 73, 71]⟩) := rfl
    go_enter Tryz.func49, Tryz.ntmps49
    go_wp2
    go_ret
    exact ⟨by rw [HE.out]; rfl, rfl⟩
  by_cases h47 : t = 47
  · subst h47
    have HE : Hid (mnB 47 = ⟨#[78, 83, 69, 67]⟩) := rfl
    go_enter Tryz.func49, Tryz.ntmps49
    go_wp2
    go_ret
    exact ⟨by rw [HE.out]; rfl, rfl⟩
  by_cases h48 : t = 48
  · subst h48
    have HE : Hid (mnB 48 = ⟨#[68, 78, 83, 75, 69, 89]⟩) := rfl
    go_enter Tryz.func49, Tryz.ntmps49
    go_wp2
    go_ret
    exact ⟨by rw [HE.out]; rfl, rfl⟩
  by_cases h50 : t = 50
  · subst h50
    have HE : Hid (mnB 50 = ⟨#[78, 83, 69, 67, 51]⟩) := rfl
    go_enter Tryz.func49, Tryz.ntmps49
    go_wp2
    go_ret
    exact ⟨by rw [HE.out]; rfl, rfl⟩
  by_cases h51 : t = 51
  · subst h51
    have HE : Hid (mnB 51 = ⟨#[78, 83, 69, 67, 51, 80, 65, 82, 65, 77]⟩) := rfl
    go_enter Tryz.func49, Tryz.ntmps49
    go_wp2
    go_ret
    exact ⟨by rw [HE.out]; rfl, rfl⟩
  by_cases h251 : t = 251
  · subst h251
    have HE : Hid (mnB 251 = ⟨#[73, 88, 70, 82]⟩) := rfl
    go_enter Tryz.func49, Tryz.ntmps49
    go_wp2
    go_ret
    exact ⟨by rw [HE.out]; rfl, rfl⟩
  by_cases h252 : t = 252
  · subst h252
    have HE : Hid (mnB 252 = ⟨#[65, 88, 70, 82]⟩) := rfl
    go_enter Tryz.func49, Tryz.ntmps49
    go_wp2
    go_ret
    exact ⟨by rw [HE.out]; rfl, rfl⟩
  by_cases h255 : t = 255
  · subst h255
    have HE : Hid (mnB 255 = ⟨#[65, 78, 89]⟩) := rfl
    go_enter Tryz.func49, Tryz.ntmps49
    go_wp2
    go_ret
    exact ⟨by rw [HE.out]; rfl, rfl⟩
  by_cases h257 : t = 257
  · subst h257
    have HE : Hid (mnB 257 = ⟨#[67, 65, 65]⟩) := rfl
    go_enter Tryz.func49, Tryz.ntmps49
    go_wp2
    go_ret
    exact ⟨by rw [HE.out]; rfl, rfl⟩
  have HE : Hid (mnB t = ⟨#[]⟩) := by
    unfold Hid mnB twFind
    rw [twFind_none (l := tw)]
    · rfl
    · intro r hr
      simp only [tw, List.mem_cons, List.not_mem_nil, or_false] at hr
      rcases hr with rfl | rfl | rfl | rfl | rfl | rfl | rfl | rfl | rfl | rfl | rfl | rfl | rfl | rfl | rfl | rfl | rfl | rfl | rfl | rfl | rfl | rfl | rfl <;> simp only [] <;> omega
  go_enter Tryz.func49, Tryz.ntmps49
  go_wp2
  go_ret
  exact ⟨by rw [HE.out]; rfl, rfl⟩
end Go.Proofs.YtmbjmokhkonpiaaGreatDoor

namespace Go.Proofs.YtmbjmokhkonpiaaGreatDoor
set_option linter.unusedVariables false
open Go.RowKit Go.Shelf Go.Proofs.YtmbjmokhkonpiaaGreatDoor.Nm

theorem decDigits_more {u : Nat} (h : ¬ u < 10) : Lib.decDigits u = Lib.decDigits (u / 10) ++ [UInt8.ofNat (48 + u % 10)] := by rw [Lib.decDigits, dif_neg h]
theorem one_digit (W : World) (n : Nat) (hn : n < 256) : (convert 34 9 (.slice (some ⟨W.heap.size, 0, none⟩) 1 1)).run Tryz.prog (W.alloc (.cells #[.int .u8 (n : Int)] 5)) = .ok (.string ⟨#[UInt8.ofNat n]⟩) (W.alloc (.cells #[.int .u8 (n : Int)] 5)) := by
  have h := str_owns (W := W.alloc (.cells #[.int .u8 (n : Int)] 5)) (b := W.heap.size) (c := 1) (p := some ⟨W.heap.size, 0, none⟩) (xs := [n])
    (World.ownsRow_lit W #[.int .u8 (n : Int)] 1 (Nat.le_refl _) (by unfold maxLen; omega) rfl) (fun x hx => by simp at hx; omega)
  exact h
theorem one_digit_below (W W' : World) (n : Nat) (hn : n < 256) (hb : Below (W.alloc (.cells #[.int .u8 (n : Int)] 5)).heap.size (W.alloc (.cells #[.int .u8 (n : Int)] 5)) W') : (convert 34 9 (.slice (some ⟨W.heap.size, 0, none⟩) 1 1)).run Tryz.prog W' = .ok (.string ⟨#[UInt8.ofNat n]⟩) W' := by
  have h := str_owns (W := W') (b := W.heap.size) (c := 1) (p := some ⟨W.heap.size, 0, none⟩) (xs := [n])
    (ownsRow_below (World.ownsRow_lit W #[.int .u8 (n : Int)] 1 (Nat.le_refl _) (by unfold maxLen; omega) rfl) hb) (fun x hx => by simp at hx; omega)
  exact h
set_option maxRecDepth 100000 in
set_option maxHeartbeats 1000000 in
/-- gazetteerref1.Decimal -/
theorem decimal_any : ∀ (k n : Nat) (w : World), n ≤ 4294967295 → n < 10 ^ (k + 1) →
    Calls Tryz.prog 23 #[.int .i64 (n : Int)] w fun e w' => e = .returned (.string ⟨(Lib.decDigits n).toArray⟩) ∧ Below w.heap.size w w' := by
  intro k
  induction k with
  | zero =>
    intro n w hn hk
    have h10 : n < 10 := by simpa using hk
    have HE : Hid (Lib.decDigits n = [UInt8.ofNat (48 + n)]) := Lib.decDigits_one h10
    have hcv := one_digit w (48 + n) (by omega)
    have e48 : ((48 + n : Nat) : Int) = 48 + (n : Int) := by omega
    rw [e48] at hcv
    obtain ⟨c, hc⟩ : ∃ c, UInt8.ofNat (48 + n) = c := ⟨_, rfl⟩
    rw [hc] at hcv HE
    clear hk e48 hc
    go_enter Tryz.func23, Tryz.ntmps23
    go_wp2
    go_ret
    exact ⟨by rw [HE.out]; rfl, (Below.refl _ _).alloc (Nat.le_refl _) _⟩
  | succ k ih =>
    intro n w hn hk
    by_cases h10 : n < 10
    · exact ih n w hn (Nat.lt_of_lt_of_le h10 (by have := Nat.pow_le_pow_right (n := 10) (by omega) (show 1 ≤ k + 1 by omega); simpa using this))
    · have hk2 : n / 10 < 10 ^ (k + 1) := by rw [Nat.pow_succ] at hk; omega
      have HE : Hid (Lib.decDigits n = Lib.decDigits (n / 10) ++ [UInt8.ofNat (48 + n % 10)]) := decDigits_more h10
      have HIH := hide' (fun w => ih (n / 10) w (by omega) hk2)
      have hcv := fun W : World => one_digit W (48 + n % 10) (by omega)
      have hcw := fun (W W' : World) (hb : Below (W.alloc (.cells #[.int .u8 ((48 + n % 10 : Nat) : Int)] 5)).heap.size (W.alloc (.cells #[.int .u8 ((48 + n % 10 : Nat) : Int)] 5)) W') => one_digit_below W W' (48 + n % 10) (by omega) hb
      have hq : IntKind.i64.wrap ((n : Int) / 10) = ((n / 10 : Nat) : Int) := by rw [IntWalk.i64_in] <;> omega
      have hm : (n : Int).tmod 10 = ((n % 10 : Nat) : Int) := by rw [Int.tmod_eq_emod_of_nonneg (by omega)]; omega
      have hw : IntKind.i64.wrap (48 + ((n % 10 : Nat) : Int)) = ((48 + n % 10 : Nat) : Int) := by rw [IntWalk.i64_in] <;> omega
      have hu : IntKind.u8.wrap ((48 + n % 10 : Nat) : Int) = ((48 + n % 10 : Nat) : Int) := by rw [IntWalk.u8_in] <;> omega
      have hdl : (Lib.decDigits (n / 10)).length ≤ 21 := by
        have h := Lib.itoa_length_le ((n / 10 : Nat) : Int) (by omega) (by omega)
        rwa [Lib.itoa, if_neg (by omega), Int.toNat_natCast] at h
      obtain ⟨d, hd⟩ : ∃ d, 48 + n % 10 = d := ⟨_, rfl⟩
      obtain ⟨c, hc⟩ : ∃ c, UInt8.ofNat d = c := ⟨_, rfl⟩
      rw [hd, hc] at HE
      simp only [hd] at hw hu hcv hcw
      simp only [hc] at hcv hcw
      have hd58 : d < 58 := by omega
      generalize n % 10 = m at *
      generalize n / 10 = q at *
      have had : ∀ W : World, (Op.stringOp .add ⟨(Lib.decDigits q).toArray⟩ ⟨#[c]⟩).run Tryz.prog W = .ok (.string ⟨(Lib.decDigits n).toArray⟩) W := fun W => by
        have e : (⟨(Lib.decDigits n).toArray⟩ : ByteArray) = ⟨(Lib.decDigits q).toArray⟩ ++ ⟨#[c]⟩ := by rw [HE.out]; apply ByteArray.ext; simp
        rw [e]; exact run_string_add_sum W _ _ (by simp [ByteArray.size]; omega)
      have HCW := hide' hcw
      have hcd : ∀ W : World, (convert 34 9 (.slice (some ⟨W.heap.size, 0, none⟩) 1 1)).run Tryz.prog (W.alloc (.cells #[.int .u8 (d : Int)] 5)).drew = .ok (.string ⟨#[c]⟩) (W.alloc (.cells #[.int .u8 (d : Int)] 5)).drew := fun W => hcv W.drew
      obtain ⟨D, hD⟩ : ∃ D : ByteArray, ⟨(Lib.decDigits q).toArray⟩ = D := ⟨_, rfl⟩
      obtain ⟨R, hR⟩ : ∃ R : ByteArray, ⟨(Lib.decDigits n).toArray⟩ = R := ⟨_, rfl⟩
      rw [hD] at HIH
      simp only [hD, hR] at had ⊢
      clear hk hk2 ih hc hd HE hdl hD hR hcw
      go_enter Tryz.func23, Tryz.ntmps23
      go_wp2_with fail
      go_region_with (go_at_call 23; refine (HIH.out _).mono ?_; rintro e w5 ⟨rfl, hB5⟩; try (have hx5 : (convert 34 9 (.slice (some ⟨w.heap.size, 0, none⟩) 1 1)).run Tryz.prog w5 = .ok (.string ⟨#[c]⟩) w5 := HCW.out w.drew w5 hB5))
      · go_wp2
        go_ret
        exact ⟨rfl, (bstep (below_drewN (Below.refl _ w) 1) hB5 (Nat.le_refl _)).alloc (Nat.le_trans (Nat.le_refl _) hB5.size) _⟩
      · go_wp2
        go_ret
        exact ⟨rfl, bstep (below_drewN ((Below.refl _ w).alloc (Nat.le_refl _) _) 1) hB5 (by have := World.size_alloc w (.cells #[.int .u8 (d : Int)] 5); show w.heap.size ≤ (w.alloc _).heap.size; omega)⟩
      · go_wp2
        go_ret
        exact ⟨rfl, bstep (below_drewN ((Below.refl _ w).alloc (Nat.le_refl _) _) 1) hB5 (by have := World.size_alloc w (.cells #[.int .u8 (d : Int)] 5); show w.heap.size ≤ (w.alloc _).heap.size; omega)⟩
end Go.Proofs.YtmbjmokhkonpiaaGreatDoor

namespace Go.Proofs.YtmbjmokhkonpiaaGreatDoor
set_option linter.unusedVariables false
open Go.RowKit Go.Shelf Go.Proofs.YtmbjmokhkonpiaaGreatDoor.Nm

theorem tw_full : ∀ r ∈ tw, 1 ≤ r.2.size := by decide
theorem twFind_some {t : Int} {s : ByteArray} (h : twFind t = some s) : ∃ r ∈ tw, (r.1 : Int) = t ∧ r.2 = s := by
  unfold twFind at h
  obtain ⟨r, hr, rfl⟩ := Option.map_eq_some_iff.1 h
  exact ⟨r, List.mem_of_find?_eq_some hr, by simpa using List.find?_some hr, rfl⟩

set_option maxRecDepth 100000 in
set_option maxHeartbeats 1000000 in
/-- gazetteerref1.TypeName -/
theorem refTypeName_any (t : Int) (w : World) :
    Calls Tryz.prog 24 #[.int .i64 t] w fun e w' => e = .returned (.string (nameT t)) ∧ Below w.heap.size w w' := by
  have HM := hide' (fun w => mnemonic_any t w)
  cases hf : twFind t with
  | some s =>
    obtain ⟨r, hr, h1, h2⟩ := twFind_some hf
    have h3 := tw_small r hr
    have h4 := tw_full r hr
    rw [h2] at h4
    have hty : isTy t = true := decide_eq_true (by omega)
    have HE : Hid (nameT t = s) := by unfold Hid nameT; rw [if_pos hty, hf]
    have hm : mnB t = s := by unfold mnB; rw [hf]; rfl
    have he := isEmpty_false (r := s) (by omega)
    rw [hm] at HM
    clear hf hr h1 h2 h3 h4 hty hm
    go_enter Tryz.func24, Tryz.ntmps24
    go_wp2_with (go_at_call 49; refine (HM.out _).mono ?_; rintro e w2 ⟨rfl, rfl⟩)
    go_ret
    exact ⟨by rw [HE.out]; rfl, Below.refl _ _⟩
  | none =>
    have hm : mnB t = ⟨#[]⟩ := by unfold mnB; rw [hf]; rfl
    rw [hm] at HM
    clear hm
    rcases (show t < 1 ∨ (1 ≤ t ∧ 65535 < t) ∨ (1 ≤ t ∧ t ≤ 65535) by omega) with h | ⟨h, h'⟩ | ⟨h, h'⟩
    · have HE : Hid (nameT t = ⟨#[]⟩) := by unfold Hid nameT; rw [if_neg]; unfold isTy; simp; omega
      clear hf
      go_enter Tryz.func24, Tryz.ntmps24
      go_wp2_with (go_at_call 49; refine (HM.out _).mono ?_; rintro e w2 ⟨rfl, rfl⟩)
      go_ret
      exact ⟨by rw [HE.out]; rfl, Below.refl _ _⟩
    · have HE : Hid (nameT t = ⟨#[]⟩) := by unfold Hid nameT; rw [if_neg]; unfold isTy; simp; omega
      clear hf
      go_enter Tryz.func24, Tryz.ntmps24
      go_wp2_with (go_at_call 49; refine (HM.out _).mono ?_; rintro e w2 ⟨rfl, rfl⟩)
      go_ret
      exact ⟨by rw [HE.out]; rfl, Below.refl _ _⟩
    · obtain ⟨n, rfl⟩ : ∃ n : Nat, t = n := ⟨t.toNat, by omega⟩
      have hty : isTy (n : Int) = true := decide_eq_true (by omega)
      have HE : Hid (nameT n = ⟨#[84, 89, 80, 69]⟩ ++ ⟨(Lib.decDigits n).toArray⟩) := by
        unfold Hid nameT; rw [if_pos hty, hf]; simp only [Lib.itoa, if_neg (show ¬ (n : Int) < 0 by omega), Int.toNat_natCast]
      have HD := hide' (fun w => decimal_any 5 n w (by omega) (by omega))
      have hil : (Lib.decDigits n).length ≤ 21 := by
        have h := Lib.itoa_length_le (n : Int) (by omega) (by omega)
        rwa [Lib.itoa, if_neg (by omega), Int.toNat_natCast] at h
      have had : ∀ W : World, (Op.stringOp .add ⟨#[84, 89, 80, 69]⟩ ⟨(Lib.decDigits n).toArray⟩).run Tryz.prog W = .ok (.string (⟨#[84, 89, 80, 69]⟩ ++ ⟨(Lib.decDigits n).toArray⟩)) W := fun W => run_string_add_sum W _ _ (by simp [ByteArray.size]; omega)
      clear hf hty hil
      go_enter Tryz.func24, Tryz.ntmps24
      go_wp2_with (first
        | (go_at_call 49; refine (HM.out _).mono ?_; rintro e w2 ⟨rfl, rfl⟩)
        | (go_at_call 23; refine (HD.out _).mono ?_; rintro e w3 ⟨rfl, hB3⟩))
      go_ret
      exact ⟨by rw [HE.out]; rfl, hB3⟩
end Go.Proofs.YtmbjmokhkonpiaaGreatDoor

namespace Go.Proofs.YtmbjmokhkonpiaaGreatDoor
set_option linter.unusedVariables false
open Go.RowKit Go.Shelf Go.Proofs.YtmbjmokhkonpiaaGreatDoor.Nm

/-- what the reference says of a set -/
def rtEnd (w : World) (r : Option (List Nat)) (e : Ending) (w' : World) : Prop := match r with
  | some l => ∃ v, e = .returned (.tuple #[v, .int .i64 0]) ∧ w'.ownsRow w.heap.size 3 1 v l.length (nums l)
  | none => e = .returned (.tuple #[.slice none 0 0, .int .i64 7])

set_option maxRecDepth 100000 in
set_option maxHeartbeats 2000000 in
/-- gazetteerref1.Types -/
theorem refTypes_any (s : ByteArray) (w : World) (hs : s.size ≤ 1048576) :
    Calls Tryz.prog 66 #[.string s] w fun e w' => rtEnd w (typB s) e w' ∧ Below w.heap.size w w' := by
  obtain ⟨i0, hi, hz0, hz1, hz2⟩ := info_parts Tryz.infoInt
  go_enter Tryz.func66, Tryz.ntmps66
  go_wp2_with fail
  go_loopw [0, 4, 5] (fun sv lv av wr => ∃ (r : ByteArray) (L : List Nat) (last : Int), sv = .string r ∧ av = .int .i64 last ∧ -1 ≤ last ∧ last ≤ 255 ∧ r.size ≤ s.size ∧ L.length + 8 * r.size ≤ 8 * s.size ∧ Hid (∀ x ∈ L, x ≤ 65535) ∧ Hid (typS (-1) s = (typS last r).map (L ++ ·)) ∧ wr.ownsRow w.heap.size 3 1 lv L.length (nums L) ∧ Below w.heap.size w wr) (fun sv _ _ _ => ssz sv)
  case atStart => exact ⟨s, [], -1, rfl, rfl, by omega, by omega, Nat.le_refl _, by simp, (fun x hx => by cases hx), by simp [Hid], World.ownsRow_nil _ _ _ _, Below.refl _ _⟩
  case round =>
    obtain ⟨r, L, last, rfl, rfl, hl1, hl2, hrs, hLn, HX, HT, hown, hBr⟩ := hrel
    by_cases h0 : r.size = 0
    · have he := isEmpty_true h0
      have HT2 : Hid (typS (-1) s = some L) := by unfold Hid; rw [HT.out, typS_nil h0]; simp
      obtain ⟨p, c, rfl, hpc, hc9, hsh⟩ := owns_shape hown
      clear HT h0
      go_wp2_with fail
      go_loop [78] (fun iv => ∃ i : Nat, iv = .int .i64 i ∧ i ≤ L.length ∧ Hid (∀ j, (hj : j < L.length) → j < i → L[j] ≠ 0)) (fun iv => L.length - (intOf iv).toNat)
      case atStart => exact ⟨0, rfl, Nat.zero_le _, fun j hj h => absurd h (Nat.not_lt_zero _)⟩
      case round =>
        obtain ⟨i, rfl, hi2, HZ⟩ := hrel
        by_cases hlt : i < L.length
        · obtain ⟨g, rfl, hg1, hg2⟩ : ∃ g, p = some ⟨g, 0, none⟩ ∧ w.heap.size ≤ g ∧ g < wr.heap.size := by
            rcases hsh with ⟨_, h⟩ | h
            · omega
            · exact h
          have hcell : wr.cell? ⟨g, i, none⟩ = some (.int .i64 ((L[i] : Nat) : Int)) := by
            rw [hown.cellAt i (by omega)]; simp [nums, hlt]
          have hx := HX.out L[i] (List.getElem_mem hlt)
          by_cases hx0 : L[i] = 0
          · have HB : Hid (typB s = none) := typB_zero HT2.out (zero_head HT2.out (by rw [← hx0]; exact List.getElem_mem hlt))
            rw [hx0] at hcell
            clear hx hx0 hsh
            go_wp2
            go_ret2
            exact ⟨by rw [HB.out]; rfl, hBr⟩
          · have HZ2 : Hid (∀ j, (hj : j < L.length) → j < i + 1 → L[j] ≠ 0) := by
              intro j hj h
              by_cases e : j = i
              · subst e; exact hx0
              · exact HZ.out j hj (by omega)
            clear hsh
            generalize L[i] = x at *
            go_wp2
            go_round
            case rel => exact ⟨i + 1, by go_num, hlt, HZ2⟩
            case measure => simp [intOf]; omega
        · have HB : Hid (typB s = some L) := typB_some HT2.out (fun h => by
            have h0 := head_zero h
            obtain ⟨j, hj, e⟩ := List.mem_iff_getElem.1 h0
            exact HZ.out j hj (by omega) e)
          clear hsh HZ
          go_wp2
          go_ret2
          exact ⟨by rw [HB.out]; exact ⟨_, rfl, hown⟩, hBr⟩
    · have he := isEmpty_false (r := r) (by omega)
      have HS := typS_step (last := last) h0
      have HNO : Hid (typS last r = none → typB s = none) := fun h => typB_none (by rw [HT.out, h]; rfl)
      have hr1 : r.size ≤ 1048576 := by omega
      clear h0
      by_cases h2 : r.size < 2
      · have HB : Hid (typB s = none) := HNO.out (by rw [HS, if_pos h2])
        clear HS HT
        go_wp2
        go_ret2
        exact ⟨by rw [HB.out]; rfl, hBr⟩
      · rw [if_neg h2] at HS
        have hr2 : 2 ≤ r.size := by omega
        obtain ⟨b, hyb, HYb, hbl⟩ := bt_wrap (s := r) (i := 0) (by omega)
        obtain ⟨n, hyn, HYn, hnl⟩ := bt_wrap (s := r) (i := 1) (by omega)
        rw [HYb, HYn] at HS
        go_wp2_with fail
        go_quiet (fail)
        obtain ⟨wq, hwq⟩ : ∃ wq, wr.drewN nq = wq := ⟨_, rfl⟩
        have hownq : wq.ownsRow w.heap.size 3 1 u4 L.length (nums L) := hwq ▸ hown
        have hBq : Below w.heap.size w wq := hwq ▸ below_drewN hBr nq
        rw [hwq]
        clear hwq hown hBr hyb hyn
        by_cases hc1 : (b : Int) ≤ last ∨ n < 1 ∨ 32 < n
        · have HB : Hid (typB s = none) := HNO.out (by rw [HS, if_pos hc1])
          clear HS HT
          rcases (show (b : Int) ≤ last ∨ (last < (b : Int) ∧ n < 1) ∨ (last < (b : Int) ∧ 1 ≤ n ∧ 32 < n) by omega) with h | ⟨h, h'⟩ | ⟨h, h', h''⟩
          all_goals
            go_wp2
            go_ret2
            exact ⟨by rw [HB.out]; rfl, hBq⟩
        · rw [if_neg hc1] at HS
          have hc1a : last < (b : Int) := by omega
          have hc1b : 1 ≤ n := by omega
          have hc1c : n ≤ 32 := by omega
          clear hc1
          by_cases hc2 : r.size < 2 + n
          · have HB : Hid (typB s = none) := HNO.out (by rw [HS, if_pos hc2])
            clear HS HT
            go_wp2
            go_ret2
            exact ⟨by rw [HB.out]; rfl, hBq⟩
          · rw [if_neg hc2] at HS
            have hc2' : 2 + n ≤ r.size := by omega
            have hq : 1 + n < r.size := by omega
            obtain ⟨y, hy, HY, hyl⟩ := bt_wrap hq
            rw [HY] at HS
            by_cases hc3 : y = 0
            · subst hc3
              have HB : Hid (typB s = none) := HNO.out (by rw [HS, if_pos rfl])
              clear HS HT HY
              go_wp2
              go_ret2
              exact ⟨by rw [HB.out]; rfl, hBq⟩
            · rw [if_neg hc3] at HS
              have hy0 : ((y : Int) == 0) = false := by rw [beq_eq_false_iff_ne]; omega
              have hxz : (r.extract 2 (2 + n)).size = n := by rw [size_extract' _ _ _ hc2']; omega
              have hrz : (r.extract (2 + n) r.size).size = r.size - (2 + n) := size_extract' _ _ _ (Nat.le_refl _)
              have HBT := hide' (fun w => bits_any (r.extract 2 (2 + n)) w (by rw [hxz]; omega))
              rw [hxz] at HBT
              obtain ⟨bl, hbl2⟩ : ∃ bl, bitsL 8 (lst (r.extract 2 (2 + n)) n) = bl := ⟨_, rfl⟩
              have HBL : Hid (bl.length = 8 * n) := by unfold Hid; rw [← hbl2, bitsL_len, lst_len]
              have HBG : Hid (∀ k, k < 8 * n → bl[k]? = some (bitAt (r.extract 2 (2 + n)) k)) := fun k hk => by rw [← hbl2]; exact bitsL_bit _ n k hk
              rw [hbl2] at HBT
              have HXB : Hid (∀ x ∈ L ++ blkT b (r.extract 2 (2 + n)) (8 * n), x ≤ 65535) := fun x hx => by
                rcases List.mem_append.1 hx with h | h
                · exact HX.out x h
                · exact blkT_le (by omega) (by omega) x h
              have HT2 : Hid (typS (-1) s = (typS (b : Int) (r.extract (2 + n) r.size)).map ((L ++ blkT b (r.extract 2 (2 + n)) (8 * n)) ++ ·)) := by
                unfold Hid; rw [HT.out, HS, Option.map_map]; congr 1; funext q; simp
              clear HS HT HY hbl2 hc3 HX HNO
              go_wp2_with (first
                | (go_at_call 60; refine (HBT.out _).mono ?_; rintro e w2 ⟨v2, rfl, hownb, hB2⟩; rw [HBL.out] at hownb; obtain ⟨pA, cA, rfl, hbc, hbc9, hbsh⟩ := owns_shape hownb; obtain ⟨gb, rfl, hgb1, hgb2⟩ : ∃ g, pA = some ⟨g, 0, none⟩ ∧ wq.heap.size ≤ g ∧ g < w2.heap.size := hbsh.resolve_left (fun h => absurd h.2 (by omega)))
                | fail)
              clear hbsh
              have hne : u4.ownBlock ≠ some gb := fun e => by have := (hownq.lt gb e).2; omega
              have hown2 := ownsRow_below hownq hB2
              have hBw2 : Below w.heap.size w w2 := bstep hBq hB2 hBq.size
              obtain ⟨wo, rfl⟩ : ∃ wo, wo = wr := ⟨_, rfl⟩
              clear hownq hBq
              go_loopw [4, 55] (fun ov kv wr => ∃ k : Nat, kv = .int .i64 k ∧ k ≤ 8 * n ∧ wr.ownsRow w.heap.size 3 1 ov (L ++ blkT b (r.extract 2 (2 + n)) k).length (nums (L ++ blkT b (r.extract 2 (2 + n)) k)) ∧ wr.ownsRow wq.heap.size 3 1 (.slice (some ⟨gb, 0, none⟩) (8 * n) cA) (8 * n) (nums bl) ∧ ov.ownBlock ≠ some gb ∧ gb < wr.heap.size ∧ Below w.heap.size w wr) (fun _ kv _ => 8 * n - (intOf kv).toNat)
              case atStart => exact ⟨0, rfl, Nat.zero_le _, by simpa [blkT] using hown2, hownb, hne, hgb2, hBw2⟩
              case round =>
                clear hown2 hownb hne hgb2 hBw2
                obtain ⟨k, rfl, hk8, hown2, hownb, hne, hgb2, hBw2⟩ := hrel
                by_cases hlt : k < 8 * n
                · obtain ⟨hkl, hkb⟩ := List.getElem?_eq_some_iff.1 (HBG.out k hlt)
                  have hcell : wr.cell? ⟨gb, k, none⟩ = some (.int .i64 ((bitAt (r.extract 2 (2 + n)) k : Nat) : Int)) := by
                    rw [hownb.cellAt k (by omega)]; simp [nums, hkl, hkb]
                  have hll : (L ++ blkT b (r.extract 2 (2 + n)) k).length ≤ 8 * s.size + k := by
                    have := blkT_len b (r.extract 2 (2 + n)) k
                    rw [List.length_append]; omega
                  have hb2 : bitAt (r.extract 2 (2 + n)) k = 0 ∨ bitAt (r.extract 2 (2 + n)) k = 1 := by unfold bitAt; omega
                  rcases hb2 with hb0 | hb1
                  · have HE : Hid (blkT b (r.extract 2 (2 + n)) (k + 1) = blkT b (r.extract 2 (2 + n)) k) := by
                      unfold Hid; conv => lhs; unfold blkT
                      rw [if_neg (by omega)]
                    rw [hb0] at hcell
                    clear hb0 hkb hll
                    go_wp2
                    refine ⟨⟨k + 1, by go_num, hlt, ?_, hownb, hne, hgb2, hBw2⟩, by simp [intOf]; omega⟩
                    rw [HE.out]; exact hown2
                  · have HE : Hid (nums (L ++ blkT b (r.extract 2 (2 + n)) (k + 1)) = nums (L ++ blkT b (r.extract 2 (2 + n)) k) ++ [.int .i64 ((b : Int) * 256 + k)] ∧ (L ++ blkT b (r.extract 2 (2 + n)) (k + 1)).length = (L ++ blkT b (r.extract 2 (2 + n)) k).length + 1) := by
                      unfold Hid
                      have e : blkT b (r.extract 2 (2 + n)) (k + 1) = blkT b (r.extract 2 (2 + n)) k ++ [b * 256 + k] := by
                        conv => lhs; unfold blkT
                        rw [if_pos hb1]
                      rw [e]; simp [nums]; omega
                    rw [hb1] at hcell
                    clear hb1 hkb
                    obtain ⟨M, hM⟩ : ∃ M, L ++ blkT b (r.extract 2 (2 + n)) k = M := ⟨_, rfl⟩
                    rw [hM] at hown2 hll HE
                    clear hM
                    go_wp2_with (at_builtin; refine wpList_append_apart _ rfl _ _ 88 rfl w.heap.size 3 i0 (.int .i64 0) 1 8 Tryz.underlying88 hi hz0 hz1 hz2 rfl (by decide) _ _ _ rfl (hown2.alloc _) ⟨wr.heap.size, 0, none⟩ 1 1 [.int .i64 _] rfl rfl (cell_one_new _ _ _) (by simp [Value.oneCell']) (by unfold maxLen; omega) (by omega) (by have := hBw2.size; simp; omega) ?_; intro v4 w4 hown4 hgrow4 hpl4)
                    refine ⟨⟨k + 1, by go_num, hlt, ?_, (hownb.alloc _).kept hgrow4 (.inr (fun e => hne e.symm)), ?_, ?_, below_app hBw2 (Nat.le_refl _) hown2 hgrow4⟩, by simp [intOf]; omega⟩
                    · rw [HE.out.1, HE.out.2]; exact hown4
                    · rcases hpl4 with e | e
                      · rw [e]; exact hne
                      · rw [e]; simp; omega
                    · have := hgrow4.size; simp at this; omega
                · obtain rfl : k = 8 * n := by omega
                  clear HBG HBL hownb
                  obtain ⟨M, hM⟩ : ∃ M, L ++ blkT b (r.extract 2 (2 + n)) (8 * n) = M := ⟨_, rfl⟩
                  have hMl : M.length ≤ L.length + 8 * n := by rw [← hM, List.length_append]; have := blkT_len b (r.extract 2 (2 + n)) (8 * n); omega
                  rw [hM] at hown2 HXB HT2
                  clear hM
                  go_wp2
                  refine ⟨⟨r.extract (2 + n) r.size, M, b, rfl, rfl, by omega, by omega, by omega, by omega, HXB, HT2, hown2, hBw2⟩, ?_⟩
                  show (r.extract (2 + n) r.size).size < r.size
                  omega
end Go.Proofs.YtmbjmokhkonpiaaGreatDoor
