import Derived.Test.YtnnmgcdhidmmeaaWc1G
import Derived.Test.YtnnmgcdhidmmeaaRz1G
import Derived.RegionTactic
import Derived.ChangeAlike
import Derived.Test.YtnnmgcdhidmmeaaRn0
namespace Go.Proofs.Ytnnmgcdhidmmeaa
set_option linter.unusedVariables false
open Go.RowKit Go.Shelf Go.Proofs.Ytnnmgcdhidmmeaa.Nm

/-- data that are none -/
def noneOK (c : Int) (d : ByteArray) : Bool := decide (d.size = 0 ∧ (c = 254 ∨ c = 255))
set_option maxRecDepth 100000 in
set_option maxHeartbeats 1000000 in
/-- the reference's empty -/
theorem refEmpty_any (o : ByteArray) (t c ttl : Int) (d : ByteArray) (w : World) (hd : d.size ≤ 9223372036854775807) :
    Calls Try.prog 31 #[.agg #[.string o, .int .i64 t, .int .i64 c, .int .i64 ttl, .string d]] w fun e w' => e = .returned (.bool (noneOK c d)) ∧ Below w.heap.size w w' := by
  have hB0 : ∀ o : Obj, Below w.heap.size w (w.alloc o) := fun o => (Below.refl _ w).alloc (Nat.le_refl _) o
  by_cases h0 : d.size = 0
  · have he := isEmpty_true h0
    by_cases hc : c = 254
    · have HE : Hid (noneOK c d = true) := decide_eq_true ⟨h0, .inl hc⟩
      subst hc
      clear h0
      go_enter Try.func31, Try.ntmps31
      go_wp2
      go_ret
      exact ⟨by rw [HE.out]; rfl, hB0 _⟩
    · by_cases hc2 : c = 255
      · have HE : Hid (noneOK c d = true) := decide_eq_true ⟨h0, .inr hc2⟩
        subst hc2
        clear h0
        go_enter Try.func31, Try.ntmps31
        go_wp2
        go_ret
        exact ⟨by rw [HE.out]; rfl, hB0 _⟩
      · have HE : Hid (noneOK c d = false) := decide_eq_false (fun h => h.2.elim hc hc2)
        have hcb : (c == 254) = false := by rw [beq_eq_false_iff_ne]; exact hc
        have hcb2 : (c == 255) = false := by rw [beq_eq_false_iff_ne]; exact hc2
        clear h0 hc hc2
        go_enter Try.func31, Try.ntmps31
        go_wp2
        go_ret
        exact ⟨by rw [HE.out, ← hcb2]; rfl, hB0 _⟩
  · have he := isEmpty_false (r := d) (by omega)
    have HE : Hid (noneOK c d = false) := decide_eq_false (fun h => h0 h.1)
    clear h0
    go_enter Try.func31, Try.ntmps31
    go_wp2
    go_ret
    exact ⟨by rw [HE.out]; rfl, hB0 _⟩

/-- a record of a message -/
def recOK (o : ByteArray) (t c ttl : Int) (d : ByteArray) : Bool := headOK o t c && fitsN ttl 32 && dataOK t c d
set_option maxRecDepth 100000 in
set_option maxHeartbeats 1000000 in
/-- the reference's Right -/
theorem refRight_any (o : ByteArray) (t c ttl : Int) (d : ByteArray) (w : World) (ho : o.size ≤ 1048576) (hd : d.size ≤ 9223372036854775807) :
    Calls Try.prog 25 #[.agg #[.string o, .int .i64 t, .int .i64 c, .int .i64 ttl, .string d]] w fun e w' => e = .returned (.bool (recOK o t c ttl d)) ∧ Below w.heap.size w w' := by
  have hB0 : ∀ o : Obj, Below w.heap.size w (w.alloc o) := fun o => (Below.refl _ w).alloc (Nat.le_refl _) o
  have hz : ∀ {o : Obj} {w1 : World}, Below (w.alloc o).heap.size (w.alloc o) w1 → w.heap.size ≤ w1.heap.size := fun h => Nat.le_trans (hB0 _).size h.size
  have HK := hide' (fun w => refIsName_any o w ho)
  cases hN : isN o with
  | false =>
    have HE : Hid (recOK o t c ttl d = false) := by unfold Hid recOK headOK; rw [hN]; rfl
    rw [hN] at HK
    clear hN
    go_enter Try.func25, Try.ntmps25
    go_wp2_with (go_at_call 30; refine (HK.out _).mono ?_; rintro e w1 ⟨rfl, hB1⟩)
    go_ret
    exact ⟨by rw [HE.out]; rfl, bstep (hB0 _) hB1 (by simp)⟩
  | true =>
    have HR : Hid (recOK o t c ttl d = (fitsN t 16 && fitsN c 16 && fitsN ttl 32 && dataOK t c d)) := by unfold Hid recOK headOK; rw [hN]; rfl
    rw [hN] at HK
    clear hN
    by_cases h1 : t < 0
    · have HE : Hid (recOK o t c ttl d = false) := by unfold Hid; rw [HR.out, show fitsN t 16 = false from decide_eq_false (by omega)]; simp
      clear HR
      go_enter Try.func25, Try.ntmps25
      go_wp2_with (go_at_call 30; refine (HK.out _).mono ?_; rintro e w1 ⟨rfl, hB1⟩; have hc1 : w1.cell? ⟨w.heap.size, 1, none⟩ = some (.int .i64 t) := (hB1.cell (by simp)).trans (by simp))
      go_ret
      exact ⟨by rw [HE.out]; rfl, bstep (hB0 _) hB1 (by simp)⟩
    by_cases h2 : t > 65535
    · have HE : Hid (recOK o t c ttl d = false) := by unfold Hid; rw [HR.out, show fitsN t 16 = false from decide_eq_false (by omega)]; simp
      clear HR
      go_enter Try.func25, Try.ntmps25
      go_wp2_with (go_at_call 30; refine (HK.out _).mono ?_; rintro e w1 ⟨rfl, hB1⟩; have hc1 : w1.cell? ⟨w.heap.size, 1, none⟩ = some (.int .i64 t) := (hB1.cell (by simp)).trans (by simp))
      go_ret
      exact ⟨by rw [HE.out]; rfl, bstep (hB0 _) hB1 (by simp)⟩
    by_cases h3 : c < 0
    · have HE : Hid (recOK o t c ttl d = false) := by unfold Hid; rw [HR.out, show fitsN c 16 = false from decide_eq_false (by omega)]; simp
      clear HR
      go_enter Try.func25, Try.ntmps25
      go_wp2_with (go_at_call 30; refine (HK.out _).mono ?_; rintro e w1 ⟨rfl, hB1⟩; have hc1 : w1.cell? ⟨w.heap.size, 1, none⟩ = some (.int .i64 t) := (hB1.cell (by simp)).trans (by simp); have hc2 : w1.cell? ⟨w.heap.size, 2, none⟩ = some (.int .i64 c) := (hB1.cell (by simp)).trans (by simp))
      go_ret
      exact ⟨by rw [HE.out]; rfl, bstep (hB0 _) hB1 (by simp)⟩
    by_cases h4 : c > 65535
    · have HE : Hid (recOK o t c ttl d = false) := by unfold Hid; rw [HR.out, show fitsN c 16 = false from decide_eq_false (by omega)]; simp
      clear HR
      go_enter Try.func25, Try.ntmps25
      go_wp2_with (go_at_call 30; refine (HK.out _).mono ?_; rintro e w1 ⟨rfl, hB1⟩; have hc1 : w1.cell? ⟨w.heap.size, 1, none⟩ = some (.int .i64 t) := (hB1.cell (by simp)).trans (by simp); have hc2 : w1.cell? ⟨w.heap.size, 2, none⟩ = some (.int .i64 c) := (hB1.cell (by simp)).trans (by simp))
      go_ret
      exact ⟨by rw [HE.out]; rfl, bstep (hB0 _) hB1 (by simp)⟩
    by_cases h5 : ttl < 0
    · have HE : Hid (recOK o t c ttl d = false) := by unfold Hid; rw [HR.out, show fitsN ttl 32 = false from decide_eq_false (by omega)]; simp
      clear HR
      go_enter Try.func25, Try.ntmps25
      go_wp2_with (go_at_call 30; refine (HK.out _).mono ?_; rintro e w1 ⟨rfl, hB1⟩; have hc1 : w1.cell? ⟨w.heap.size, 1, none⟩ = some (.int .i64 t) := (hB1.cell (by simp)).trans (by simp); have hc2 : w1.cell? ⟨w.heap.size, 2, none⟩ = some (.int .i64 c) := (hB1.cell (by simp)).trans (by simp); have hc3 : w1.cell? ⟨w.heap.size, 3, none⟩ = some (.int .i64 ttl) := (hB1.cell (by simp)).trans (by simp))
      go_ret
      exact ⟨by rw [HE.out]; rfl, bstep (hB0 _) hB1 (by simp)⟩
    by_cases h6 : ttl > 4294967295
    · have HE : Hid (recOK o t c ttl d = false) := by unfold Hid; rw [HR.out, show fitsN ttl 32 = false from decide_eq_false (by omega)]; simp
      clear HR
      go_enter Try.func25, Try.ntmps25
      go_wp2_with (go_at_call 30; refine (HK.out _).mono ?_; rintro e w1 ⟨rfl, hB1⟩; have hc1 : w1.cell? ⟨w.heap.size, 1, none⟩ = some (.int .i64 t) := (hB1.cell (by simp)).trans (by simp); have hc2 : w1.cell? ⟨w.heap.size, 2, none⟩ = some (.int .i64 c) := (hB1.cell (by simp)).trans (by simp); have hc3 : w1.cell? ⟨w.heap.size, 3, none⟩ = some (.int .i64 ttl) := (hB1.cell (by simp)).trans (by simp))
      go_ret
      exact ⟨by rw [HE.out]; rfl, bstep (hB0 _) hB1 (by simp)⟩
    have HE : Hid (recOK o t c ttl d = dataOK t c d) := by unfold Hid; rw [HR.out, show fitsN t 16 = true from decide_eq_true (by omega), show fitsN c 16 = true from decide_eq_true (by omega), show fitsN ttl 32 = true from decide_eq_true (by omega)]; rfl
    clear HR
    have HM := hide' (fun w => refEmpty_any o t c ttl d w hd)
    have HC := hide' (fun w => refCheckData_any t d w hd)
    by_cases h41 : t = 41
    · subst h41
      have HE2 : Hid (recOK o 41 c ttl d = decide (d.size ≤ 65535)) := by unfold Hid; rw [HE.out]; unfold dataOK; rw [if_pos rfl]
      clear HE
      go_enter Try.func25, Try.ntmps25
      go_wp2_with (go_at_call 30; refine (HK.out _).mono ?_; rintro e w1 ⟨rfl, hB1⟩; have hc1 : w1.cell? ⟨w.heap.size, 1, none⟩ = some (.int .i64 41) := (hB1.cell (by simp)).trans (by simp); have hc2 : w1.cell? ⟨w.heap.size, 2, none⟩ = some (.int .i64 c) := (hB1.cell (by simp)).trans (by simp); have hc3 : w1.cell? ⟨w.heap.size, 3, none⟩ = some (.int .i64 ttl) := (hB1.cell (by simp)).trans (by simp); have hc4 : w1.cell? ⟨w.heap.size, 4, none⟩ = some (.string d) := (hB1.cell (by simp)).trans (by simp))
      go_ret
      exact ⟨by rw [HE2.out]; show Ending.returned (Value.bool _) = Ending.returned (Value.bool _); congr 2; rw [Bool.eq_iff_iff, decide_eq_true_iff, decide_eq_true_iff]; omega, bstep (hB0 _) hB1 (by simp)⟩
    · have h41b : (t == 41) = false := by rw [beq_eq_false_iff_ne]; exact h41
      have HE2 : Hid (recOK o t c ttl d = (noneOK c d || decide (errD t d = 0))) := by
        unfold Hid; rw [HE.out]; unfold dataOK noneOK; rw [if_neg h41]
        by_cases h : d.size = 0 ∧ (c = 254 ∨ c = 255)
        · rw [if_pos h, decide_eq_true h]; rfl
        · rw [if_neg h, decide_eq_false h]; rfl
      have hres : ((errD t d : Int) == 0) = decide (errD t d = 0) := by rw [Bool.eq_iff_iff, beq_iff_eq, decide_eq_true_iff]; omega
      clear HE h41
      generalize decide (errD t d = 0) = OK at *
      generalize errD t d = ER at *
      cases hM : noneOK c d with
      | true =>
        rw [hM] at HM HE2
        clear hM
        go_enter Try.func25, Try.ntmps25
        go_wp2_with (first
          | (go_at_call 30; refine (HK.out _).mono ?_; rintro e w1 ⟨rfl, hB1⟩; have hc0 : w1.cell? ⟨w.heap.size, 0, none⟩ = some (.string o) := (hB1.cell (by simp)).trans (by simp); have hc1 : w1.cell? ⟨w.heap.size, 1, none⟩ = some (.int .i64 t) := (hB1.cell (by simp)).trans (by simp); have hc2 : w1.cell? ⟨w.heap.size, 2, none⟩ = some (.int .i64 c) := (hB1.cell (by simp)).trans (by simp); have hc3 : w1.cell? ⟨w.heap.size, 3, none⟩ = some (.int .i64 ttl) := (hB1.cell (by simp)).trans (by simp); have hc4 : w1.cell? ⟨w.heap.size, 4, none⟩ = some (.string d) := (hB1.cell (by simp)).trans (by simp))
          | (go_at_call 31; refine (HM.out _).mono ?_; rintro e w2 ⟨rfl, hB2⟩))
        go_ret
        exact ⟨by rw [HE2.out]; rfl, bstep (bstep (hB0 _) hB1 (by simp)) hB2 (hz hB1)⟩
      | false =>
        rw [hM] at HM HE2
        clear hM
        go_enter Try.func25, Try.ntmps25
        go_wp2_with (first
          | (go_at_call 30; refine (HK.out _).mono ?_; rintro e w1 ⟨rfl, hB1⟩; have hc0 : w1.cell? ⟨w.heap.size, 0, none⟩ = some (.string o) := (hB1.cell (by simp)).trans (by simp); have hc1 : w1.cell? ⟨w.heap.size, 1, none⟩ = some (.int .i64 t) := (hB1.cell (by simp)).trans (by simp); have hc2 : w1.cell? ⟨w.heap.size, 2, none⟩ = some (.int .i64 c) := (hB1.cell (by simp)).trans (by simp); have hc3 : w1.cell? ⟨w.heap.size, 3, none⟩ = some (.int .i64 ttl) := (hB1.cell (by simp)).trans (by simp); have hc4 : w1.cell? ⟨w.heap.size, 4, none⟩ = some (.string d) := (hB1.cell (by simp)).trans (by simp))
          | (go_at_call 31; refine (HM.out _).mono ?_; rintro e w2 ⟨rfl, hB2⟩; have hd1 : w2.cell? ⟨w.heap.size, 1, none⟩ = some (.int .i64 t) := (hB2.cell (by have h7 := hB1.size; rw [World.size_alloc] at h7; exact Nat.lt_of_lt_of_le (Nat.lt_succ_self _) h7)).trans hc1; have hd4 : w2.cell? ⟨w.heap.size, 4, none⟩ = some (.string d) := (hB2.cell (by have h7 := hB1.size; rw [World.size_alloc] at h7; exact Nat.lt_of_lt_of_le (Nat.lt_succ_self _) h7)).trans hc4)
          | (go_at_call 32; refine (HC.out _).mono ?_; rintro e w3 ⟨rfl, hB3⟩))
        go_ret
        exact ⟨by rw [HE2.out, ← hres]; rfl, bstep (bstep (bstep (hB0 _) hB1 (by simp)) hB2 (hz hB1)) hB3 (Nat.le_trans (hz hB1) hB2.size)⟩
end Go.Proofs.Ytnnmgcdhidmmeaa

namespace Go.Proofs.Ytnnmgcdhidmmeaa
set_option linter.unusedVariables false
open Go.RowKit Go.Shelf Go.Proofs.Ytnnmgcdhidmmeaa.Nm

set_option maxRecDepth 100000 in
set_option maxHeartbeats 1000000 in
/-- wire.sectionsOf -/
theorem sectionsOf_any (g o : Nat) (w : World) :
    Calls Try.prog 21 #[.pointer (some ⟨g, o, none⟩)] w fun e w' => e = .returned (.agg #[.pointer (some ⟨g, o + 11, none⟩), .pointer (some ⟨g, o + 12, none⟩), .pointer (some ⟨g, o + 13, none⟩)]) ∧ Below w.heap.size w w' := by
  go_enter Try.func21, Try.ntmps21
  go_wp2
  go_region
  go_wp2
  refine bodyPost_ret (v := .agg #[.pointer (some ⟨g, o + 11, none⟩), .pointer (some ⟨g, o + 12, none⟩), .pointer (some ⟨g, o + 13, none⟩)]) (by simp [results, go_sem]) rfl ⟨rfl, ?_⟩
  exact ((Below.refl _ w).alloc (Nat.le_refl _) _).drew
end Go.Proofs.Ytnnmgcdhidmmeaa

namespace Go.Proofs.Ytnnmgcdhidmmeaa
set_option linter.unusedVariables false
open Go.RowKit Go.Shelf Go.Proofs.Ytnnmgcdhidmmeaa.Nm

def qOK (q : Qn) : Bool := headOK q.n q.t q.c

end Go.Proofs.Ytnnmgcdhidmmeaa
