import Derived.Test.YtfofdcacikbflaaDoorTn1G
namespace Go.Proofs.YtfofdcacikbflaaDoor
set_option linter.unusedVariables false
open Go.RowKit Go.Shelf Go.Proofs.YtfofdcacikbflaaDoor.Nm

/-- a type's word, or nothing -/
def mnB (t : Int) : ByteArray := (twFind t).getD ⟨#[]⟩
set_option maxRecDepth 100000 in
set_option maxHeartbeats 4000000 in
/-- gazetteerref1.mnemonic -/
theorem mnemonic_any (t : Int) (w : World) :
    Calls Tryd.prog 15 #[.int .i64 t] w fun e w' => e = .returned (.string (mnB t)) ∧ w' = w := by
  by_cases h1 : t = 1
  · subst h1
    have HE : Hid (mnB 1 = ⟨#[65]⟩) := rfl
    go_enter Tryd.func15, Tryd.ntmps15
    go_wp2
    go_ret
    exact ⟨by rw [HE.out]; rfl, rfl⟩
  by_cases h2 : t = 2
  · subst h2
    have HE : Hid (mnB 2 = ⟨#[78, 83]⟩) := rfl
    go_enter Tryd.func15, Tryd.ntmps15
    go_wp2
    go_ret
    exact ⟨by rw [HE.out]; rfl, rfl⟩
  by_cases h5 : t = 5
  · subst h5
    have HE : Hid (mnB 5 = ⟨#[67, 78, 65, 77, 69]⟩) := rfl
    go_enter Tryd.func15, Tryd.ntmps15
    go_wp2
    go_ret
    exact ⟨by rw [HE.out]; rfl, rfl⟩
  by_cases h6 : t = 6
  · subst h6
    have HE : Hid (mnB 6 = ⟨#[83, 79, 65]⟩) := rfl
    go_enter Tryd.func15, Tryd.ntmps15
    go_wp2
    go_ret
    exact ⟨by rw [HE.out]; rfl, rfl⟩
  by_cases h12 : t = 12
  · subst h12
    have HE : Hid (mnB 12 = ⟨#[80, 84, 82]⟩) := rfl
    go_enter Tryd.func15, Tryd.ntmps15
    go_wp2
    go_ret
    exact ⟨by rw [HE.out]; rfl, rfl⟩
  by_cases h13 : t = 13
  · subst h13
    have HE : Hid (mnB 13 = ⟨#[72, 73, 78, 70, 79]⟩) := rfl
    go_enter Tryd.func15, Tryd.ntmps15
    go_wp2
    go_ret
    exact ⟨by rw [HE.out]; rfl, rfl⟩
  by_cases h15 : t = 15
  · subst h15
    have HE : Hid (mnB 15 = ⟨#[77, 88]⟩) := rfl
    go_enter Tryd.func15, Tryd.ntmps15
    go_wp2
    go_ret
    exact ⟨by rw [HE.out]; rfl, rfl⟩
  by_cases h16 : t = 16
  · subst h16
    have HE : Hid (mnB 16 = ⟨#[84, 88, 84]⟩) := rfl
    go_enter Tryd.func15, Tryd.ntmps15
    go_wp2
    go_ret
    exact ⟨by rw [HE.out]; rfl, rfl⟩
  by_cases h28 : t = 28
  · subst h28
    have HE : Hid (mnB 28 = ⟨#[65, 65, 65, 65]⟩) := rfl
    go_enter Tryd.func15, Tryd.ntmps15
    go_wp2
    go_ret
    exact ⟨by rw [HE.out]; rfl, rfl⟩
  by_cases h33 : t = 33
  · subst h33
    have HE : Hid (mnB 33 = ⟨#[83, 82, 86]⟩) := rfl
    go_enter Tryd.func15, Tryd.ntmps15
    go_wp2
    go_ret
    exact ⟨by rw [HE.out]; rfl, rfl⟩
  by_cases h35 : t = 35
  · subst h35
    have HE : Hid (mnB 35 = ⟨#[78, 65, 80, 84, 82]⟩) := rfl
    go_enter Tryd.func15, Tryd.ntmps15
    go_wp2
    go_ret
    exact ⟨by rw [HE.out]; rfl, rfl⟩
  by_cases h39 : t = 39
  · subst h39
    have HE : Hid (mnB 39 = ⟨#[68, 78, 65, 77, 69]⟩) := rfl
    go_enter Tryd.func15, Tryd.ntmps15
    go_wp2
    go_ret
    exact ⟨by rw [HE.out]; rfl, rfl⟩
  by_cases h41 : t = 41
  · subst h41
    have HE : Hid (mnB 41 = ⟨#[79, 80, 84]⟩) := rfl
    go_enter Tryd.func15, Tryd.ntmps15
    go_wp2
    go_ret
    exact ⟨by rw [HE.out]; rfl, rfl⟩
  by_cases h43 : t = 43
  · subst h43
    have HE : Hid (mnB 43 = ⟨#[68, 83]⟩) := rfl
    go_enter Tryd.func15, Tryd.ntmps15
    go_wp2
    go_ret
    exact ⟨by rw [HE.out]; rfl, rfl⟩
  by_cases h46 : t = 46
  · subst h46
    have HE : Hid (mnB 46 = ⟨#[82, 82, 83, 73, 71]⟩) := rfl
    go_enter Tryd.func15, Tryd.ntmps15
    go_wp2
    go_ret
    exact ⟨by rw [HE.out]; rfl, rfl⟩
  by_cases h47 : t = 47
  · subst h47
    have HE : Hid (mnB 47 = ⟨#[78, 83, 69, 67]⟩) := rfl
    go_enter Tryd.func15, Tryd.ntmps15
    go_wp2
    go_ret
    exact ⟨by rw [HE.out]; rfl, rfl⟩
  by_cases h48 : t = 48
  · subst h48
    have HE : Hid (mnB 48 = ⟨#[68, 78, 83, 75, 69, 89]⟩) := rfl
    go_enter Tryd.func15, Tryd.ntmps15
    go_wp2
    go_ret
    exact ⟨by rw [HE.out]; rfl, rfl⟩
  by_cases h50 : t = 50
  · subst h50
    have HE : Hid (mnB 50 = ⟨#[78, 83, 69, 67, 51]⟩) := rfl
    go_enter Tryd.func15, Tryd.ntmps15
    go_wp2
    go_ret
    exact ⟨by rw [HE.out]; rfl, rfl⟩
  by_cases h51 : t = 51
  · subst h51
    have HE : Hid (mnB 51 = ⟨#[78, 83, 69, 67, 51, 80, 65, 82, 65, 77]⟩) := rfl
    go_enter Tryd.func15, Tryd.ntmps15
    go_wp2
    go_ret
    exact ⟨by rw [HE.out]; rfl, rfl⟩
  by_cases h251 : t = 251
  · subst h251
    have HE : Hid (mnB 251 = ⟨#[73, 88, 70, 82]⟩) := rfl
    go_enter Tryd.func15, Tryd.ntmps15
    go_wp2
    go_ret
    exact ⟨by rw [HE.out]; rfl, rfl⟩
  by_cases h252 : t = 252
  · subst h252
    have HE : Hid (mnB 252 = ⟨#[65, 88, 70, 82]⟩) := rfl
    go_enter Tryd.func15, Tryd.ntmps15
    go_wp2
    go_ret
    exact ⟨by rw [HE.out]; rfl, rfl⟩
  by_cases h255 : t = 255
  · subst h255
    have HE : Hid (mnB 255 = ⟨#[65, 78, 89]⟩) := rfl
    go_enter Tryd.func15, Tryd.ntmps15
    go_wp2
    go_ret
    exact ⟨by rw [HE.out]; rfl, rfl⟩
  by_cases h257 : t = 257
  · subst h257
    have HE : Hid (mnB 257 = ⟨#[67, 65, 65]⟩) := rfl
    go_enter Tryd.func15, Tryd.ntmps15
    go_wp2
    go_ret
    exact ⟨by rw [HE.out]; rfl, rfl⟩
  have HE : Hid (mnB t = ⟨#[]⟩) := by
    unfold Hid mnB twFind
    rw [twFind_none (l := tw)]
    · rfl
    · intro r hr
      simp only [tw, List.mem_cons, List.not_mem_nil, or_false] at hr
      rcases hr with rfl | rfl | rfl | rfl | rfl | rfl | rfl | rfl | rfl | rfl | rfl | rfl | rfl | rfl | rfl | rfl | rfl | rfl | rfl | rfl | rfl | rfl | rfl <;> simp only [] <;> omega
  go_enter Tryd.func15, Tryd.ntmps15
  go_wp2
  go_ret
  exact ⟨by rw [HE.out]; rfl, rfl⟩
end Go.Proofs.YtfofdcacikbflaaDoor

namespace Go.Proofs.YtfofdcacikbflaaDoor
set_option linter.unusedVariables false
open Go.RowKit Go.Shelf Go.Proofs.YtfofdcacikbflaaDoor.Nm

theorem decDigits_more {u : Nat} (h : ¬ u < 10) : Lib.decDigits u = Lib.decDigits (u / 10) ++ [UInt8.ofNat (48 + u % 10)] := by rw [Lib.decDigits, dif_neg h]
theorem one_digit (W : World) (n : Nat) (hn : n < 256) : (convert 44 9 (.slice (some ⟨W.heap.size, 0, none⟩) 1 1)).run Tryd.prog (W.alloc (.cells #[.int .u8 (n : Int)] 5)) = .ok (.string ⟨#[UInt8.ofNat n]⟩) (W.alloc (.cells #[.int .u8 (n : Int)] 5)) := by
  have h := str_owns (W := W.alloc (.cells #[.int .u8 (n : Int)] 5)) (b := W.heap.size) (c := 1) (p := some ⟨W.heap.size, 0, none⟩) (xs := [n])
    (World.ownsRow_lit W #[.int .u8 (n : Int)] 1 (Nat.le_refl _) (by unfold maxLen; omega) rfl) (fun x hx => by simp at hx; omega)
  exact h
theorem one_digit_below (W W' : World) (n : Nat) (hn : n < 256) (hb : Below (W.alloc (.cells #[.int .u8 (n : Int)] 5)).heap.size (W.alloc (.cells #[.int .u8 (n : Int)] 5)) W') : (convert 44 9 (.slice (some ⟨W.heap.size, 0, none⟩) 1 1)).run Tryd.prog W' = .ok (.string ⟨#[UInt8.ofNat n]⟩) W' := by
  have h := str_owns (W := W') (b := W.heap.size) (c := 1) (p := some ⟨W.heap.size, 0, none⟩) (xs := [n])
    (ownsRow_below (World.ownsRow_lit W #[.int .u8 (n : Int)] 1 (Nat.le_refl _) (by unfold maxLen; omega) rfl) hb) (fun x hx => by simp at hx; omega)
  exact h
set_option maxRecDepth 100000 in
set_option maxHeartbeats 1000000 in
/-- gazetteerref1.Decimal -/
theorem decimal_any : ∀ (k n : Nat) (w : World), n ≤ 65535 → n < 10 ^ (k + 1) →
    Calls Tryd.prog 16 #[.int .i64 (n : Int)] w fun e w' => e = .returned (.string ⟨(Lib.decDigits n).toArray⟩) ∧ Below w.heap.size w w' := by
  intro k
  induction k with
  | zero =>
    intro n w hn hk
    have h10 : n < 10 := by simpa using hk
    have HE : Hid (Lib.decDigits n = [UInt8.ofNat (48 + n)]) := Lib.decDigits_one h10
    have hcv := one_digit w (48 + n) (by omega)
    have e48 : ((48 + n : Nat) : Int) = 48 + (n : Int) := by omega
    rw [e48] at hcv
    obtain ⟨c, hc⟩ : ∃ c, UInt8.ofNat (48 + n) = c := ⟨_, rfl⟩
    rw [hc] at hcv HE
    clear hk e48 hc
    go_enter Tryd.func16, Tryd.ntmps16
    go_wp2
    go_ret
    exact ⟨by rw [HE.out]; rfl, (Below.refl _ _).alloc (Nat.le_refl _) _⟩
  | succ k ih =>
    intro n w hn hk
    by_cases h10 : n < 10
    · exact ih n w hn (Nat.lt_of_lt_of_le h10 (by have := Nat.pow_le_pow_right (n := 10) (by omega) (show 1 ≤ k + 1 by omega); simpa using this))
    · have hk2 : n / 10 < 10 ^ (k + 1) := by rw [Nat.pow_succ] at hk; omega
      have HE : Hid (Lib.decDigits n = Lib.decDigits (n / 10) ++ [UInt8.ofNat (48 + n % 10)]) := decDigits_more h10
      have HIH := hide' (fun w => ih (n / 10) w (by omega) hk2)
      have hcv := fun W : World => one_digit W (48 + n % 10) (by omega)
      have hcw := fun (W W' : World) (hb : Below (W.alloc (.cells #[.int .u8 ((48 + n % 10 : Nat) : Int)] 5)).heap.size (W.alloc (.cells #[.int .u8 ((48 + n % 10 : Nat) : Int)] 5)) W') => one_digit_below W W' (48 + n % 10) (by omega) hb
      have hq : IntKind.i64.wrap ((n : Int) / 10) = ((n / 10 : Nat) : Int) := by rw [IntWalk.i64_in] <;> omega
      have hm : (n : Int).tmod 10 = ((n % 10 : Nat) : Int) := by rw [Int.tmod_eq_emod_of_nonneg (by omega)]; omega
      have hw : IntKind.i64.wrap (48 + ((n % 10 : Nat) : Int)) = ((48 + n % 10 : Nat) : Int) := by rw [IntWalk.i64_in] <;> omega
      have hu : IntKind.u8.wrap ((48 + n % 10 : Nat) : Int) = ((48 + n % 10 : Nat) : Int) := by rw [IntWalk.u8_in] <;> omega
      have hdl : (Lib.decDigits (n / 10)).length ≤ 21 := by
        have h := Lib.itoa_length_le ((n / 10 : Nat) : Int) (by omega) (by omega)
        rwa [Lib.itoa, if_neg (by omega), Int.toNat_natCast] at h
      obtain ⟨d, hd⟩ : ∃ d, 48 + n % 10 = d := ⟨_, rfl⟩
      obtain ⟨c, hc⟩ : ∃ c, UInt8.ofNat d = c := ⟨_, rfl⟩
      rw [hd, hc] at HE
      simp only [hd] at hw hu hcv hcw
      simp only [hc] at hcv hcw
      have hd58 : d < 58 := by omega
      generalize n % 10 = m at *
      generalize n / 10 = q at *
      have had : ∀ W : World, (Op.stringOp .add ⟨(Lib.decDigits q).toArray⟩ ⟨#[c]⟩).run Tryd.prog W = .ok (.string ⟨(Lib.decDigits n).toArray⟩) W := fun W => by
        have e : (⟨(Lib.decDigits n).toArray⟩ : ByteArray) = ⟨(Lib.decDigits q).toArray⟩ ++ ⟨#[c]⟩ := by rw [HE.out]; apply ByteArray.ext; simp
        rw [e]; exact run_string_add_sum W _ _ (by simp [ByteArray.size]; omega)
      have HCW := hide' hcw
      have hcd : ∀ W : World, (convert 44 9 (.slice (some ⟨W.heap.size, 0, none⟩) 1 1)).run Tryd.prog (W.alloc (.cells #[.int .u8 (d : Int)] 5)).drew = .ok (.string ⟨#[c]⟩) (W.alloc (.cells #[.int .u8 (d : Int)] 5)).drew := fun W => hcv W.drew
      obtain ⟨D, hD⟩ : ∃ D : ByteArray, ⟨(Lib.decDigits q).toArray⟩ = D := ⟨_, rfl⟩
      obtain ⟨R, hR⟩ : ∃ R : ByteArray, ⟨(Lib.decDigits n).toArray⟩ = R := ⟨_, rfl⟩
      rw [hD] at HIH
      simp only [hD, hR] at had ⊢
      clear hk hk2 ih hc hd HE hdl hD hR hcw
      go_enter Tryd.func16, Tryd.ntmps16
      go_wp2_with fail
      go_region_with (go_at_call 16; refine (HIH.out _).mono ?_; rintro e w5 ⟨rfl, hB5⟩; try (have hx5 : (convert 44 9 (.slice (some ⟨w.heap.size, 0, none⟩) 1 1)).run Tryd.prog w5 = .ok (.string ⟨#[c]⟩) w5 := HCW.out w.drew w5 hB5))
      · go_wp2
        go_ret
        exact ⟨rfl, (bstep (below_drewN (Below.refl _ w) 1) hB5 (Nat.le_refl _)).alloc (Nat.le_trans (Nat.le_refl _) hB5.size) _⟩
      · go_wp2
        go_ret
        exact ⟨rfl, bstep (below_drewN ((Below.refl _ w).alloc (Nat.le_refl _) _) 1) hB5 (by have := World.size_alloc w (.cells #[.int .u8 (d : Int)] 5); show w.heap.size ≤ (w.alloc _).heap.size; omega)⟩
      · go_wp2
        go_ret
        exact ⟨rfl, bstep (below_drewN ((Below.refl _ w).alloc (Nat.le_refl _) _) 1) hB5 (by have := World.size_alloc w (.cells #[.int .u8 (d : Int)] 5); show w.heap.size ≤ (w.alloc _).heap.size; omega)⟩
end Go.Proofs.YtfofdcacikbflaaDoor

namespace Go.Proofs.YtfofdcacikbflaaDoor
set_option linter.unusedVariables false
open Go.RowKit Go.Shelf Go.Proofs.YtfofdcacikbflaaDoor.Nm

theorem tw_full : ∀ r ∈ tw, 1 ≤ r.2.size := by decide
theorem twFind_some {t : Int} {s : ByteArray} (h : twFind t = some s) : ∃ r ∈ tw, (r.1 : Int) = t ∧ r.2 = s := by
  unfold twFind at h
  obtain ⟨r, hr, rfl⟩ := Option.map_eq_some_iff.1 h
  exact ⟨r, List.mem_of_find?_eq_some hr, by simpa using List.find?_some hr, rfl⟩

set_option maxRecDepth 100000 in
set_option maxHeartbeats 1000000 in
/-- gazetteerref1.TypeName -/
theorem refTypeName_any (t : Int) (w : World) :
    Calls Tryd.prog 5 #[.int .i64 t] w fun e w' => e = .returned (.string (nameT t)) ∧ Below w.heap.size w w' := by
  have HM := hide' (fun w => mnemonic_any t w)
  cases hf : twFind t with
  | some s =>
    obtain ⟨r, hr, h1, h2⟩ := twFind_some hf
    have h3 := tw_small r hr
    have h4 := tw_full r hr
    rw [h2] at h4
    have hty : isTy t = true := decide_eq_true (by omega)
    have HE : Hid (nameT t = s) := by unfold Hid nameT; rw [if_pos hty, hf]
    have hm : mnB t = s := by unfold mnB; rw [hf]; rfl
    have he := isEmpty_false (r := s) (by omega)
    rw [hm] at HM
    clear hf hr h1 h2 h3 h4 hty hm
    go_enter Tryd.func5, Tryd.ntmps5
    go_wp2_with (go_at_call 15; refine (HM.out _).mono ?_; rintro e w2 ⟨rfl, rfl⟩)
    go_ret
    exact ⟨by rw [HE.out]; rfl, Below.refl _ _⟩
  | none =>
    have hm : mnB t = ⟨#[]⟩ := by unfold mnB; rw [hf]; rfl
    rw [hm] at HM
    clear hm
    rcases (show t < 1 ∨ (1 ≤ t ∧ 65535 < t) ∨ (1 ≤ t ∧ t ≤ 65535) by omega) with h | ⟨h, h'⟩ | ⟨h, h'⟩
    · have HE : Hid (nameT t = ⟨#[]⟩) := by unfold Hid nameT; rw [if_neg]; unfold isTy; simp; omega
      clear hf
      go_enter Tryd.func5, Tryd.ntmps5
      go_wp2_with (go_at_call 15; refine (HM.out _).mono ?_; rintro e w2 ⟨rfl, rfl⟩)
      go_ret
      exact ⟨by rw [HE.out]; rfl, Below.refl _ _⟩
    · have HE : Hid (nameT t = ⟨#[]⟩) := by unfold Hid nameT; rw [if_neg]; unfold isTy; simp; omega
      clear hf
      go_enter Tryd.func5, Tryd.ntmps5
      go_wp2_with (go_at_call 15; refine (HM.out _).mono ?_; rintro e w2 ⟨rfl, rfl⟩)
      go_ret
      exact ⟨by rw [HE.out]; rfl, Below.refl _ _⟩
    · obtain ⟨n, rfl⟩ : ∃ n : Nat, t = n := ⟨t.toNat, by omega⟩
      have hty : isTy (n : Int) = true := decide_eq_true (by omega)
      have HE : Hid (nameT n = ⟨#[84, 89, 80, 69]⟩ ++ ⟨(Lib.decDigits n).toArray⟩) := by
        unfold Hid nameT; rw [if_pos hty, hf]; simp only [Lib.itoa, if_neg (show ¬ (n : Int) < 0 by omega), Int.toNat_natCast]
      have HD := hide' (fun w => decimal_any 5 n w (by omega) (by omega))
      have hil : (Lib.decDigits n).length ≤ 21 := by
        have h := Lib.itoa_length_le (n : Int) (by omega) (by omega)
        rwa [Lib.itoa, if_neg (by omega), Int.toNat_natCast] at h
      have had : ∀ W : World, (Op.stringOp .add ⟨#[84, 89, 80, 69]⟩ ⟨(Lib.decDigits n).toArray⟩).run Tryd.prog W = .ok (.string (⟨#[84, 89, 80, 69]⟩ ++ ⟨(Lib.decDigits n).toArray⟩)) W := fun W => run_string_add_sum W _ _ (by simp [ByteArray.size]; omega)
      clear hf hty hil
      go_enter Tryd.func5, Tryd.ntmps5
      go_wp2_with (first
        | (go_at_call 15; refine (HM.out _).mono ?_; rintro e w2 ⟨rfl, rfl⟩)
        | (go_at_call 16; refine (HD.out _).mono ?_; rintro e w3 ⟨rfl, hB3⟩))
      go_ret
      exact ⟨by rw [HE.out]; rfl, hB3⟩
end Go.Proofs.YtfofdcacikbflaaDoor

namespace Go.Proofs.YtfofdcacikbflaaDoor
set_option linter.unusedVariables false
open Go.RowKit Go.Shelf Go.Proofs.YtfofdcacikbflaaDoor.Nm

/-- the number that the first k digits tell -/
def vN (t : ByteArray) : Nat → Nat
  | 0 => 0
  | k + 1 => vN t k * 10 + (bt t k - 48)
/-- digits from k on -/
def allF (t : ByteArray) : Nat → Nat → Bool
  | _, 0 => true
  | k, r + 1 => isD (bt t k) && allF t (k + 1) r
theorem vN_le (t : ByteArray) : ∀ k, vN t k + 29 ≤ 29 * 10 ^ k
  | 0 => by simp [vN]
  | k + 1 => by
    have := vN_le t k
    have := bt_lt t k
    unfold vN; rw [Nat.pow_succ]; omega
theorem vN_mono (t : ByteArray) (k : Nat) : ∀ r, vN t k ≤ vN t (k + r)
  | 0 => Nat.le_refl _
  | r + 1 => by
    have := vN_mono t k r
    show _ ≤ vN t (k + r) * 10 + (bt t (k + r) - 48)
    omega
def okU : Lib.NumEnd Nat → Option Nat
  | .ok u => some u
  | _ => none
theorem parse_from (t : ByteArray) (M : Nat) (hM : M ≤ 1000000000) : ∀ (r k : Nat), k + r = t.size → vN t k ≤ M →
    okU (Lib.parseUintM M (vN t k) (t.data.toList.drop k)) = if allF t k r = true ∧ vN t (k + r) ≤ M then some (vN t (k + r)) else none
  | 0, k, hk, hv => by
    rw [List.drop_eq_nil_of_le (by have : t.data.toList.length = t.size := by simp
                                   omega)]
    unfold Lib.parseUintM
    rw [if_pos ⟨rfl, hv⟩]; rfl
  | r + 1, k, hk, hv => by
    have hlen : t.data.toList.length = t.size := by simp
    have hkl : k < t.data.toList.length := by omega
    have hb := bt_list t k (by omega)
    rw [List.drop_eq_getElem_cons hkl]
    unfold Lib.parseUintM
    rw [hb]
    by_cases hd : 48 ≤ bt t k ∧ bt t k ≤ 57
    · have hD : isD (bt t k) = true := by unfold isD; exact decide_eq_true hd
      have hF : allF t k (r + 1) = allF t (k + 1) r := by show (isD (bt t k) && allF t (k + 1) r) = _; rw [hD]; rfl
      have hs : vN t k * 10 + (bt t k - 48) = vN t (k + 1) := rfl
      rw [if_pos hd, if_neg (by omega), hF, hs, show k + (r + 1) = (k + 1) + r by omega]
      by_cases hr : M < vN t (k + 1)
      · rw [if_pos hr, if_neg]
        · rfl
        · intro h
          have := vN_mono t (k + 1) r
          omega
      · rw [if_neg hr]
        exact parse_from t M hM r (k + 1) (by omega) (by omega)
    · have hD : isD (bt t k) = false := by unfold isD; exact decide_eq_false hd
      have hF : allF t k (r + 1) = false := by show (isD (bt t k) && allF t (k + 1) r) = _; rw [hD]; rfl
      rw [if_neg hd, if_neg (by rw [hF]; simp)]; rfl
theorem numR_is {t : ByteArray} : numR 16 5 t = if 1 ≤ t.size ∧ t.size ≤ 5 ∧ allF t 0 t.size = true ∧ vN t t.size ≤ 65535 then some (vN t t.size) else none := by
  unfold numR
  by_cases h5 : 5 < t.size
  · rw [if_pos h5, if_neg (by omega)]
  · rw [if_neg h5]
    have hlen : t.data.toList.length = t.size := by simp
    by_cases h0 : t.size = 0
    · have : t.data.toList = [] := List.length_eq_zero_iff.1 (by omega)
      rw [this, if_neg (by omega)]; rfl
    · have hne : t.data.toList ≠ [] := fun e => by rw [e] at hlen; simp at hlen; omega
      have := parse_from t 65535 (by omega) t.size 0 (by omega) (by show (0 : Nat) ≤ _; omega)
      rw [List.drop_zero, Nat.zero_add] at this
      have e : okU (Lib.parseUintB 16 t.data.toList) = okU (Lib.parseUintM 65535 (vN t 0) t.data.toList) := by
        unfold Lib.parseUintB
        rw [if_neg hne]
        rfl
      have e2 : (match Lib.parseUintB 16 t.data.toList with | .ok u => some u | _ => none) = okU (Lib.parseUintB 16 t.data.toList) := by cases Lib.parseUintB 16 t.data.toList <;> rfl
      refine Eq.trans ?_ (e.trans this |>.trans ?_)
      · cases Lib.parseUintB 16 t.data.toList <;> rfl
      by_cases hc : allF t 0 t.size = true ∧ vN t t.size ≤ 65535
      · rw [if_pos hc, if_pos ⟨by omega, by omega, hc.1, hc.2⟩]
      · rw [if_neg hc, if_neg (fun h => hc ⟨h.2.2.1, h.2.2.2⟩)]
/-- as the reference tells it -/
def numI : Option Nat → Int
  | some n => n
  | none => -1

set_option maxRecDepth 100000 in
set_option maxHeartbeats 1000000 in
/-- gazetteerref1.Number, of a type's digits -/
theorem refNumber_any (t : ByteArray) (w : World) (ht : t.size ≤ 1048576) :
    Calls Tryd.prog 21 #[.string t, .int .i64 5, .int .i64 65535] w fun e w' => e = .returned (.int .i64 (numI (numR 16 5 t))) ∧ w' = w := by
  have HN := hide' (numR_is (t := t))
  by_cases h0 : t.size = 0
  · have he := isEmpty_true h0
    have HE : Hid (numR 16 5 t = none) := by unfold Hid; rw [HN.out, if_neg (by omega)]
    clear h0 HN
    go_enter Tryd.func21, Tryd.ntmps21
    go_wp2
    go_ret
    exact ⟨by rw [HE.out]; rfl, rfl⟩
  · have he := isEmpty_false (r := t) (by omega)
    by_cases h5 : 5 < t.size
    · have HE : Hid (numR 16 5 t = none) := by unfold Hid; rw [HN.out, if_neg (by omega)]
      clear h0 HN
      go_enter Tryd.func21, Tryd.ntmps21
      go_wp2
      go_ret
      exact ⟨by rw [HE.out]; rfl, rfl⟩
    · have h51 : t.size ≤ 5 := by omega
      have h1 : 1 ≤ t.size := by omega
      clear h0 h5
      go_enter Tryd.func21, Tryd.ntmps21
      go_wp2_with fail
      go_loop [7, 8] (fun vv kv => ∃ k : Nat, kv = .int .i64 k ∧ k ≤ t.size ∧ vv = .int .i64 (vN t k : Nat) ∧ Hid (allF t 0 t.size = allF t k (t.size - k))) (fun _ kv => t.size - (intOf kv).toNat)
      case atStart => exact ⟨0, rfl, Nat.zero_le _, rfl, rfl⟩
      case round =>
        obtain ⟨k, rfl, hk, rfl, HF⟩ := hrel
        have hvl := vN_le t k
        have hp : 10 ^ k ≤ 10 ^ 5 := Nat.pow_le_pow_right (by omega) (by omega)
        have hv : vN t k ≤ 2900000 := by omega
        clear hvl hp
        by_cases hlt : k < t.size
        · obtain ⟨y, hy, HY, hyl⟩ := bt_wrap hlt
          have hF : allF t k (t.size - k) = (isD (bt t k) && allF t (k + 1) (t.size - (k + 1))) := by
            rw [show t.size - k = (t.size - (k + 1)) + 1 by omega]; rfl
          rw [HY] at hF
          have HV : Hid (vN t (k + 1) = vN t k * 10 + (y - 48)) := by unfold Hid; rw [← HY]; rfl
          rcases (show y < 48 ∨ (48 ≤ y ∧ 57 < y) ∨ (48 ≤ y ∧ y ≤ 57) by omega) with h | ⟨h, h'⟩ | ⟨h, h'⟩
          · have HE : Hid (numR 16 5 t = none) := by
              unfold Hid; rw [HN.out, if_neg]
              rw [HF.out, hF]; unfold isD; rw [decide_eq_false (by omega)]; simp
            clear HN HF hF HY HV
            generalize vN t k = V at *
            go_wp2
            go_ret
            exact ⟨by rw [HE.out]; rfl, rfl⟩
          · have HE : Hid (numR 16 5 t = none) := by
              unfold Hid; rw [HN.out, if_neg]
              rw [HF.out, hF]; unfold isD; rw [decide_eq_false (by omega)]; simp
            clear HN HF hF HY HV
            generalize vN t k = V at *
            go_wp2
            go_ret
            exact ⟨by rw [HE.out]; rfl, rfl⟩
          · have HF2 : Hid (allF t 0 t.size = allF t (k + 1) (t.size - (k + 1))) := by
              unfold Hid; rw [HF.out, hF]; unfold isD; rw [decide_eq_true (by omega)]; simp
            clear HN HF hF HY
            generalize vN t k = V at *
            go_wp2
            go_round
            case rel => exact ⟨k + 1, by go_num, hlt, by rw [HV.out]; congr 1; omega, HF2⟩
            case measure => simp [intOf]; omega
        · obtain rfl : k = t.size := by omega
          have hA : allF t 0 t.size = true := by rw [HF.out, Nat.sub_self]; rfl
          by_cases hM : vN t t.size ≤ 65535
          · have HE : Hid (numR 16 5 t = some (vN t t.size)) := by unfold Hid; rw [HN.out, if_pos ⟨h1, h51, hA, hM⟩]
            clear HN HF hA
            generalize vN t t.size = V at *
            go_wp2
            go_ret
            exact ⟨by rw [HE.out]; rfl, rfl⟩
          · have HE : Hid (numR 16 5 t = none) := by unfold Hid; rw [HN.out, if_neg (fun h => hM h.2.2.2)]
            clear HN HF hA
            generalize vN t t.size = V at *
            go_wp2
            go_ret
            exact ⟨by rw [HE.out]; rfl, rfl⟩
end Go.Proofs.YtfofdcacikbflaaDoor
