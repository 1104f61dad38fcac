import Derived.Test.YtjnmbgmdkkiidaaGreatRc1G
namespace Go.Proofs.YtjnmbgmdkkiidaaGreat
set_option linter.unusedVariables false
open Go.RowKit Go.Shelf Go.Proofs.YtjnmbgmdkkiidaaGreat.Nm

/-- a number of so many bits -/
def fitsN (n : Int) (b : Nat) : Bool := decide (0 ≤ n ∧ n < (2 ^ b : Nat))
set_option maxRecDepth 100000 in
/-- wire.hasRoom -/
theorem hasRoom_any (n : Int) (b : Nat) (w : World) (hb : b = 4 ∨ b = 16 ∨ b = 32) :
    Calls Tryz.prog 27 #[.int .i64 n, .int .i64 (b : Int)] w fun e w' => e = .returned (.bool (fitsN n b)) ∧ w' = w := by
  rcases hb with rfl | rfl | rfl
  all_goals
    go_enter Tryz.func27, Tryz.ntmps27
    go_wp2
    go_ret
    refine ⟨?_, rfl⟩
    show Ending.returned (Value.bool _) = Ending.returned (Value.bool (fitsN n _))
    congr 2
    unfold fitsN
    rw [Bool.eq_iff_iff, beq_iff_eq, decide_eq_true_iff]
    omega

/-- a question, or a record's beginning -/
def headOK (n : ByteArray) (t c : Int) : Bool := isN n && fitsN t 16 && fitsN c 16
set_option maxRecDepth 100000 in
set_option maxHeartbeats 1000000 in
/-- wire.rightHead -/
theorem rightHead_any (n : ByteArray) (t c : Int) (w : World) (hn : n.size ≤ maxLen) :
    Calls Tryz.prog 46 #[.agg #[.string n, .int .i64 t, .int .i64 c]] w fun e w' => e = .returned (.bool (headOK n t c)) ∧ Below w.heap.size w w' := by
  have HK := hide' (fun w => check_any n w hn)
  have HR := hide' (fun x w => hasRoom_any x 16 w (by omega))
  cases hN : isN n with
  | false =>
    have hck : chk n = 1 := by unfold chk; rw [if_neg (by rw [hN]; decide)]
    have HE : Hid (headOK n t c = false) := by unfold Hid headOK; rw [hN]; rfl
    rw [hck] at HK
    clear hck hN
    go_enter Tryz.func46, Tryz.ntmps46
    go_wp2_with (go_at_call 60; refine (HK.out _).mono ?_; rintro e w1 ⟨rfl, hB1⟩)
    go_ret
    exact ⟨by rw [HE.out]; rfl, bstep ((Below.refl _ w).alloc (Nat.le_refl _) _) hB1 (by simp)⟩
  | true =>
    have hck : chk n = 0 := by unfold chk; rw [if_pos hN]
    have HE : Hid (headOK n t c = (fitsN t 16 && fitsN c 16)) := by unfold Hid headOK; rw [hN]; rfl
    rw [hck] at HK
    clear hck hN
    cases ht : fitsN t 16 with
    | false =>
      have HE2 : Hid (headOK n t c = false) := by unfold Hid; rw [HE.out, ht]; rfl
      have HT : Hid (fitsN t 16 = false) := ht
      clear ht HE
      go_enter Tryz.func46, Tryz.ntmps46
      go_wp2_with (first
        | (go_at_call 60; refine (HK.out _).mono ?_; rintro e w1 ⟨rfl, hB1⟩; have hc1 : w1.cell? ⟨w.heap.size, 1, none⟩ = some (.int .i64 t) := (hB1.cell (by simp)).trans (by simp); have hc2 : w1.cell? ⟨w.heap.size, 2, none⟩ = some (.int .i64 c) := (hB1.cell (by simp)).trans (by simp))
        | (go_at_call 27; refine (HR.out t _).mono ?_; rintro e w2 ⟨rfl, rfl⟩; rw [HT.out]))
      go_ret
      exact ⟨by rw [HE2.out]; rfl, bstep ((Below.refl _ w).alloc (Nat.le_refl _) _) hB1 (by simp)⟩
    | true =>
      have HE2 : Hid (headOK n t c = fitsN c 16) := by unfold Hid; rw [HE.out, ht]; rfl
      have HT : Hid (fitsN t 16 = true) := ht
      clear ht HE
      go_enter Tryz.func46, Tryz.ntmps46
      go_wp2_with (first
        | (go_at_call 60; refine (HK.out _).mono ?_; rintro e w1 ⟨rfl, hB1⟩; have hc1 : w1.cell? ⟨w.heap.size, 1, none⟩ = some (.int .i64 t) := (hB1.cell (by simp)).trans (by simp); have hc2 : w1.cell? ⟨w.heap.size, 2, none⟩ = some (.int .i64 c) := (hB1.cell (by simp)).trans (by simp))
        | (go_at_call 27; refine (HR.out t _).mono ?_; rintro e w2 ⟨rfl, rfl⟩; rw [HT.out])
        | (go_at_call 27; refine (HR.out c _).mono ?_; rintro e w3 ⟨rfl, rfl⟩))
      go_ret
      exact ⟨by rw [HE2.out]; rfl, bstep ((Below.refl _ w).alloc (Nat.le_refl _) _) hB1 (by simp)⟩
/-- a record's data -/
def dataOK (t c : Int) (d : ByteArray) : Bool := if t = 41 then decide (d.size ≤ 65535) else if d.size = 0 ∧ (c = 254 ∨ c = 255) then true else decide (errD t d = 0)
end Go.Proofs.YtjnmbgmdkkiidaaGreat

namespace Go.Proofs.YtjnmbgmdkkiidaaGreat
set_option linter.unusedVariables false
open Go.RowKit Go.Shelf Go.Proofs.YtjnmbgmdkkiidaaGreat.Nm

set_option maxRecDepth 100000 in
set_option maxHeartbeats 1000000 in
/-- wire.rightData -/
theorem rightData_any (o : ByteArray) (t c ttl : Int) (d : ByteArray) (w : World) (hd : d.size ≤ 9223372036854775807) :
    Calls Tryz.prog 47 #[.agg #[.string o, .int .i64 t, .int .i64 c, .int .i64 ttl, .string d]] w fun e w' => e = .returned (.bool (dataOK t c d)) ∧ Below w.heap.size w w' := by
  have hB0 : ∀ o : Obj, Below w.heap.size w (w.alloc o) := fun o => (Below.refl _ w).alloc (Nat.le_refl _) o
  by_cases h41 : t = 41
  · subst h41
    by_cases hl : d.size ≤ 65535
    · have HE : Hid (dataOK 41 c d = true) := by unfold Hid dataOK; rw [if_pos rfl]; exact decide_eq_true hl
      go_enter Tryz.func47, Tryz.ntmps47
      go_wp2
      go_ret
      exact ⟨by rw [HE.out]; simp; omega, hB0 _⟩
    · have HE : Hid (dataOK 41 c d = false) := by unfold Hid dataOK; rw [if_pos rfl]; exact decide_eq_false hl
      go_enter Tryz.func47, Tryz.ntmps47
      go_wp2
      go_ret
      exact ⟨by rw [HE.out]; simp; omega, hB0 _⟩
  · have h41b : (t == 41) = false := by rw [beq_eq_false_iff_ne]; exact h41
    have HC := hide' (fun w => dataCheck_any t d w hd)
    have HD : Hid (dataOK t c d = if d.size = 0 ∧ (c = 254 ∨ c = 255) then true else decide (errD t d = 0)) := by unfold Hid dataOK; rw [if_neg h41]
    have hres : ((errD t d : Int) == 0) = decide (errD t d = 0) := by rw [Bool.eq_iff_iff, beq_iff_eq, decide_eq_true_iff]; omega
    generalize decide (errD t d = 0) = OK at *
    generalize errD t d = ER at *
    by_cases h0 : d.size = 0
    · have he := isEmpty_true h0
      by_cases hc : c = 254
      · have HE : Hid (dataOK t c d = true) := by unfold Hid; rw [HD.out, if_pos ⟨h0, .inl hc⟩]
        subst hc
        clear h0 HD
        go_enter Tryz.func47, Tryz.ntmps47
        go_wp2
        go_ret
        exact ⟨by rw [HE.out]; rfl, hB0 _⟩
      · by_cases hc2 : c = 255
        · have HE : Hid (dataOK t c d = true) := by unfold Hid; rw [HD.out, if_pos ⟨h0, .inr hc2⟩]
          subst hc2
          clear h0 HD hc
          go_enter Tryz.func47, Tryz.ntmps47
          go_wp2
          go_ret
          exact ⟨by rw [HE.out]; rfl, hB0 _⟩
        · have HE : Hid (dataOK t c d = OK) := by unfold Hid; rw [HD.out, if_neg (fun h => h.2.elim hc hc2)]
          have hcb : (c == 254) = false := by rw [beq_eq_false_iff_ne]; exact hc
          have hcb2 : (c == 255) = false := by rw [beq_eq_false_iff_ne]; exact hc2
          clear h0 HD hc hc2
          go_enter Tryz.func47, Tryz.ntmps47
          go_wp2_with (go_at_call 61; refine (HC.out _).mono ?_; rintro e w1 ⟨rfl, hB1⟩)
          go_ret
          exact ⟨by rw [HE.out, ← hres]; rfl, bstep (hB0 _) hB1 (by simp)⟩
    · have he := isEmpty_false (r := d) (by omega)
      have HE : Hid (dataOK t c d = OK) := by unfold Hid; rw [HD.out, if_neg (fun h => h0 h.1)]
      clear h0 HD
      go_enter Tryz.func47, Tryz.ntmps47
      go_wp2_with (go_at_call 61; refine (HC.out _).mono ?_; rintro e w1 ⟨rfl, hB1⟩)
      go_ret
      exact ⟨by rw [HE.out, ← hres]; rfl, bstep (hB0 _) hB1 (by simp)⟩
end Go.Proofs.YtjnmbgmdkkiidaaGreat
