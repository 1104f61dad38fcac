import Derived.Test.YtndkjnehkfleaaaFo1G
namespace Go.Proofs.Ytndkjnehkfleaaa
set_option linter.unusedVariables false
open Go.RowKit Go.Shelf Go.Proofs.Ytndkjnehkfleaaa.Nm

/-- a kind's letter in the reference's form -/
def letter : Kind → UInt8
  | 0 => 97 | 1 => 54 | 2 => 110 | n + 13 => (if n = 1 then 49 else if n = 2 then 50 else 52) | 3 => 116 | 4 => 84 | 5 => 104
  | 6 => 98 | 7 => 115 | 8 => 72 | 9 => 75 | 10 => 107 | 11 => 114 | 12 => 45
/-- a type's form -/
def formB (t : Int) : ByteArray := match kindsOf t with | none => ⟨#[]⟩ | some ks => ⟨(ks.map letter).toArray⟩

set_option maxRecDepth 100000 in
set_option maxHeartbeats 4000000 in
/-- gazetteerref1.Form -/
theorem form_any (t : Int) (w : World) :
    Calls Try.prog 13 #[.int .i64 t] w fun e w' => e = .returned (.string (formB t)) ∧ w' = w := by
  by_cases h1 : t = 1
  · subst h1
    have HE : Hid (formB 1 = ⟨#[97]⟩) := rfl
    go_enter Try.func13, Try.ntmps13
    go_wp2
    go_ret
    exact ⟨by rw [HE.out]; rfl, rfl⟩
  by_cases h2 : t = 2
  · subst h2
    have HE : Hid (formB 2 = ⟨#[110]⟩) := rfl
    go_enter Try.func13, Try.ntmps13
    go_wp2
    go_ret
    exact ⟨by rw [HE.out]; rfl, rfl⟩
  by_cases h5 : t = 5
  · subst h5
    have HE : Hid (formB 5 = ⟨#[110]⟩) := rfl
    go_enter Try.func13, Try.ntmps13
    go_wp2
    go_ret
    exact ⟨by rw [HE.out]; rfl, rfl⟩
  by_cases h12 : t = 12
  · subst h12
    have HE : Hid (formB 12 = ⟨#[110]⟩) := rfl
    go_enter Try.func13, Try.ntmps13
    go_wp2
    go_ret
    exact ⟨by rw [HE.out]; rfl, rfl⟩
  by_cases h39 : t = 39
  · subst h39
    have HE : Hid (formB 39 = ⟨#[110]⟩) := rfl
    go_enter Try.func13, Try.ntmps13
    go_wp2
    go_ret
    exact ⟨by rw [HE.out]; rfl, rfl⟩
  by_cases h6 : t = 6
  · subst h6
    have HE : Hid (formB 6 = ⟨#[110, 110, 52, 52, 52, 52, 52]⟩) := rfl
    go_enter Try.func13, Try.ntmps13
    go_wp2
    go_ret
    exact ⟨by rw [HE.out]; rfl, rfl⟩
  by_cases h13 : t = 13
  · subst h13
    have HE : Hid (formB 13 = ⟨#[116, 116]⟩) := rfl
    go_enter Try.func13, Try.ntmps13
    go_wp2
    go_ret
    exact ⟨by rw [HE.out]; rfl, rfl⟩
  by_cases h15 : t = 15
  · subst h15
    have HE : Hid (formB 15 = ⟨#[50, 110]⟩) := rfl
    go_enter Try.func13, Try.ntmps13
    go_wp2
    go_ret
    exact ⟨by rw [HE.out]; rfl, rfl⟩
  by_cases h16 : t = 16
  · subst h16
    have HE : Hid (formB 16 = ⟨#[84]⟩) := rfl
    go_enter Try.func13, Try.ntmps13
    go_wp2
    go_ret
    exact ⟨by rw [HE.out]; rfl, rfl⟩
  by_cases h28 : t = 28
  · subst h28
    have HE : Hid (formB 28 = ⟨#[54]⟩) := rfl
    go_enter Try.func13, Try.ntmps13
    go_wp2
    go_ret
    exact ⟨by rw [HE.out]; rfl, rfl⟩
  by_cases h33 : t = 33
  · subst h33
    have HE : Hid (formB 33 = ⟨#[50, 50, 50, 110]⟩) := rfl
    go_enter Try.func13, Try.ntmps13
    go_wp2
    go_ret
    exact ⟨by rw [HE.out]; rfl, rfl⟩
  by_cases h35 : t = 35
  · subst h35
    have HE : Hid (formB 35 = ⟨#[50, 50, 116, 116, 116, 110]⟩) := rfl
    go_enter Try.func13, Try.ntmps13
    go_wp2
    go_ret
    exact ⟨by rw [HE.out]; rfl, rfl⟩
  by_cases h43 : t = 43
  · subst h43
    have HE : Hid (formB 43 = ⟨#[50, 49, 49, 104]⟩) := rfl
    go_enter Try.func13, Try.ntmps13
    go_wp2
    go_ret
    exact ⟨by rw [HE.out]; rfl, rfl⟩
  by_cases h46 : t = 46
  · subst h46
    have HE : Hid (formB 46 = ⟨#[107, 49, 49, 52, 52, 52, 50, 110, 98]⟩) := rfl
    go_enter Try.func13, Try.ntmps13
    go_wp2
    go_ret
    exact ⟨by rw [HE.out]; rfl, rfl⟩
  by_cases h47 : t = 47
  · subst h47
    have HE : Hid (formB 47 = ⟨#[110, 75]⟩) := rfl
    go_enter Try.func13, Try.ntmps13
    go_wp2
    go_ret
    exact ⟨by rw [HE.out]; rfl, rfl⟩
  by_cases h48 : t = 48
  · subst h48
    have HE : Hid (formB 48 = ⟨#[50, 49, 49, 98]⟩) := rfl
    go_enter Try.func13, Try.ntmps13
    go_wp2
    go_ret
    exact ⟨by rw [HE.out]; rfl, rfl⟩
  by_cases h50 : t = 50
  · subst h50
    have HE : Hid (formB 50 = ⟨#[49, 49, 50, 115, 72, 75]⟩) := rfl
    go_enter Try.func13, Try.ntmps13
    go_wp2
    go_ret
    exact ⟨by rw [HE.out]; rfl, rfl⟩
  by_cases h51 : t = 51
  · subst h51
    have HE : Hid (formB 51 = ⟨#[49, 49, 50, 115]⟩) := rfl
    go_enter Try.func13, Try.ntmps13
    go_wp2
    go_ret
    exact ⟨by rw [HE.out]; rfl, rfl⟩
  by_cases h257 : t = 257
  · subst h257
    have HE : Hid (formB 257 = ⟨#[49, 116, 114]⟩) := rfl
    go_enter Try.func13, Try.ntmps13
    go_wp2
    go_ret
    exact ⟨by rw [HE.out]; rfl, rfl⟩
  have HK : Hid (formB t = if isDT t = true then ⟨#[45]⟩ else ⟨#[]⟩) := by
    unfold Hid formB kindsOf
    simp only [h1, h2, h5, h12, h39, h6, h13, h15, h16, h28, h33, h35, h43, h46, h47, h48, h50, h51, h257, or_self, if_false]
    cases isDT t <;> rfl
  rcases (show (t < 1) ∨ (1 ≤ t ∧ 65535 < t) ∨ (t = 41) ∨ (1 ≤ t ∧ t ≤ 65535 ∧ t ≠ 41 ∧ t < 128) ∨ (1 ≤ t ∧ t ≤ 65535 ∧ t ≠ 41 ∧ 128 ≤ t ∧ t ≤ 255) ∨ (1 ≤ t ∧ t ≤ 65535 ∧ t ≠ 41 ∧ 128 ≤ t ∧ 255 < t) by omega) with h | ⟨h, h'⟩ | h | ⟨h, h', h'', h3⟩ | ⟨h, h', h'', h3, h4⟩ | ⟨h, h', h'', h3, h4⟩
  · have HE : Hid (formB t = ⟨#[]⟩) := by unfold Hid; rw [HK.out, if_neg]; unfold isDT isTy; simp; omega
    clear HK
    go_enter Try.func13, Try.ntmps13
    go_wp2
    go_ret
    exact ⟨by rw [HE.out]; rfl, rfl⟩
  · have HE : Hid (formB t = ⟨#[]⟩) := by unfold Hid; rw [HK.out, if_neg]; unfold isDT isTy; simp; omega
    clear HK
    go_enter Try.func13, Try.ntmps13
    go_wp2
    go_ret
    exact ⟨by rw [HE.out]; rfl, rfl⟩
  · subst h
    have HE : Hid (formB 41 = ⟨#[]⟩) := rfl
    clear HK
    go_enter Try.func13, Try.ntmps13
    go_wp2
    go_ret
    exact ⟨by rw [HE.out]; rfl, rfl⟩
  · have HE : Hid (formB t = ⟨#[45]⟩) := by unfold Hid; rw [HK.out, if_pos]; unfold isDT isTy; simp; omega
    have h41 : (t == 41) = false := by rw [beq_eq_false_iff_ne]; omega
    clear HK
    go_enter Try.func13, Try.ntmps13
    go_wp2
    go_ret
    exact ⟨by rw [HE.out]; rfl, rfl⟩
  · have HE : Hid (formB t = ⟨#[]⟩) := by unfold Hid; rw [HK.out, if_neg]; unfold isDT isTy; simp; omega
    have h41 : (t == 41) = false := by rw [beq_eq_false_iff_ne]; omega
    clear HK
    go_enter Try.func13, Try.ntmps13
    go_wp2
    go_ret
    exact ⟨by rw [HE.out]; rfl, rfl⟩
  · have HE : Hid (formB t = ⟨#[45]⟩) := by unfold Hid; rw [HK.out, if_pos]; unfold isDT isTy; simp; omega
    have h41 : (t == 41) = false := by rw [beq_eq_false_iff_ne]; omega
    clear HK
    go_enter Try.func13, Try.ntmps13
    go_wp2
    go_ret
    exact ⟨by rw [HE.out]; rfl, rfl⟩
end Go.Proofs.Ytndkjnehkfleaaa
