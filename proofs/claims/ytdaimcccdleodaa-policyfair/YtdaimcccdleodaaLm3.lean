import Derived.Test.YtdaimcccdleodaaLm2
/-
  Chapter 15: (*policy.Limiter).refill. (The verifier's own text.)
-/
namespace Go.Proofs.Ytdaimcccdleodaa
set_option linter.unusedVariables false
set_option linter.unusedSimpArgs false
open Go.RowKit Go.Shelf Go.Maps

/-- what one has behind the time that has gone by -/
def reL (rate burst left last now : Int) : Int := if now ≤ last then left else min (left + rate * min (now - last) burst) burst
def reT (last now : Int) : Int := if now ≤ last then last else now
theorem u64_sub {a b : Int} (ha : (Lit.int .i64 a).wf = true) (hb : (Lit.int .i64 b).wf = true) (h : b < a) : IntKind.u64.wrap (IntKind.u64.wrap a - IntKind.u64.wrap b) = a - b := by
  simp [Lit.wf, IntKind.min, IntKind.max, IntKind.bits, IntKind.signed] at ha hb
  simp [IntKind.wrap, IntKind.bits, IntKind.signed]
  omega

set_option maxRecDepth 100000 in
set_option maxHeartbeats 1000000 in
theorem refill_no (L A : Nat) (rate burst left last now : Int) (lv : Value) (w : World) (hA : Bx w A #[.int .i64 left, .int .i64 last] 67) (h : now ≤ last) :
    Calls Try.prog 22 #[.pointer (some ⟨L, 0, none⟩), .pointer (some ⟨A, 0, none⟩), .int .i64 now] w fun e w' => e = .returned (.tuple #[]) ∧ Bx w' A #[.int .i64 left, .int .i64 last] 67 ∧ w.grownBy w' (some A) := by
  have a1 : w.cell? ⟨A, 1, none⟩ = some (.int .i64 last) := hA.cell rfl
  have HA := hidep hA
  clear hA
  go_enter Try.func22, Try.ntmps22
  go_wp2_with fail
  exact bodyPost_ret (v := .tuple #[]) (by simp [results, Try.results22, go_sem]) rfl ⟨rfl, HA.out, grown_refl _ _⟩
set_option maxRecDepth 100000 in
set_option maxHeartbeats 1000000 in
theorem refill_yes (L A : Nat) (rate burst left last now : Int) (x2 x3 : Value) (w : World) (hL : Bx w L #[.int .i64 rate, .int .i64 burst, x2, x3] 56) (hA : Bx w A #[.int .i64 left, .int .i64 last] 67) (hne : L ≠ A) (h : last < now)
    (hr0 : 0 ≤ rate) (hr1 : rate ≤ 1000) (hb0 : 1 ≤ burst) (hb1 : burst ≤ 1000) (hl0 : 0 ≤ left) (hl1 : left ≤ burst) (hn : (Lit.int .i64 now).wf = true) (hl : (Lit.int .i64 last).wf = true) :
    Calls Try.prog 22 #[.pointer (some ⟨L, 0, none⟩), .pointer (some ⟨A, 0, none⟩), .int .i64 now] w fun e w' => e = .returned (.tuple #[]) ∧ Bx w' A #[.int .i64 (min (left + rate * min (now - last) burst) burst), .int .i64 now] 67 ∧ w.grownBy w' (some A) := by
  have a0 : w.cell? ⟨A, 0, none⟩ = some (.int .i64 left) := hA.cell rfl
  have a1 : w.cell? ⟨A, 1, none⟩ = some (.int .i64 last) := hA.cell rfl
  have l0 : w.cell? ⟨L, 0, none⟩ = some (.int .i64 rate) := hL.cell rfl
  have l1 : w.cell? ⟨L, 1, none⟩ = some (.int .i64 burst) := hL.cell rfl
  have hu := u64_sub hn hl h
  have hub : IntKind.u64.wrap burst = burst := by simp [IntKind.wrap, IntKind.bits, IntKind.signed]; omega
  have HA := hidep hA
  have hle : decide (now ≤ last) = false := by simp; omega
  obtain ⟨m, hm⟩ : ∃ m, min (now - last) burst = m := ⟨_, rfl⟩
  have hm0 : 0 ≤ m := by omega
  have hm1 : m ≤ 1000 := by omega
  have hwm : IntKind.i64.wrap m = m := by rw [IntKind.wrap_i64]; omega
  obtain ⟨q, hq⟩ : ∃ q, rate * m = q := ⟨_, rfl⟩
  have hq0 : 0 ≤ q := hq ▸ Int.mul_nonneg hr0 hm0
  have hq1 : q ≤ 1000000 := hq ▸ Int.le_trans (Int.mul_le_mul hr1 hm1 hm0 (by omega)) (by decide)
  have hwq : IntKind.i64.wrap q = q := by rw [IntKind.wrap_i64]; omega
  obtain ⟨s, hs⟩ : ∃ s, IntKind.i64.wrap (left + q) = s := ⟨_, rfl⟩
  have HS : Hid (s = left + q) := by rw [← hs, IntKind.wrap_i64]; unfold Hid; omega
  obtain ⟨r, hr⟩ : ∃ r, min s burst = r := ⟨_, rfl⟩
  have HR : Hid (min (left + q) burst = r) := by have := HS.out; subst this; exact hr
  have l0d : L < w.heap.size := hL.lt
  have f0 := hA.free 0
  have f1 := hA.free 1
  rw [hm, hq, HR.out]
  have k1 : Bx (w.setCell ⟨A, 0, none⟩ (.int .i64 r)) A #[.int .i64 r, .int .i64 last] 67 := hA.set 0 _
  have k2 : Bx ((w.setCell ⟨A, 0, none⟩ (.int .i64 r)).setCell ⟨A, 1, none⟩ (.int .i64 now)) A #[.int .i64 r, .int .i64 now] 67 := k1.set 1 _
  have HK := hidep k2
  have HG : Hid (w.grownBy ((w.setCell ⟨A, 0, none⟩ (.int .i64 r)).setCell ⟨A, 1, none⟩ (.int .i64 now)) (some A)) := grown_trans (grown_set _ _ _ _) (grown_set _ _ _ _)
  clear hA hL k1 k2 hr0 hr1 hb0 hb1 hl0 hl1 hm0 hm1 hq0 hq1 hn hl
  go_enter Try.func22, Try.ntmps22
  go_wp2_with fail
  go_region_held3 (fun V => V.cell? ⟨A, 0, none⟩ = some (.int .i64 left) ∧ V.cell? ⟨A, 1, none⟩ = some (.int .i64 last) ∧ V.cell? ⟨L, 0, none⟩ = some (.int .i64 rate) ∧ V.cell? ⟨L, 1, none⟩ = some (.int .i64 burst)) (first | go_keep) (fail)
  go_wp2_with fail
  go_region_with fail
  all_goals
    go_wp2_with fail
    go_end0
    exact ⟨rfl, HK.out, grown_trans HG.out (grown_drewN _ 2 _)⟩
/-- (*policy.Limiter).refill -/
theorem refill_any (L A : Nat) (rate burst left last now : Int) (x2 x3 : Value) (w : World) (hL : Bx w L #[.int .i64 rate, .int .i64 burst, x2, x3] 56) (hA : Bx w A #[.int .i64 left, .int .i64 last] 67) (hne : L ≠ A)
    (hr0 : 0 ≤ rate) (hr1 : rate ≤ 1000) (hb0 : 1 ≤ burst) (hb1 : burst ≤ 1000) (hl0 : 0 ≤ left) (hl1 : left ≤ burst) (hn : (Lit.int .i64 now).wf = true) (hl : (Lit.int .i64 last).wf = true) :
    Calls Try.prog 22 #[.pointer (some ⟨L, 0, none⟩), .pointer (some ⟨A, 0, none⟩), .int .i64 now] w fun e w' => e = .returned (.tuple #[]) ∧ Bx w' A #[.int .i64 (reL rate burst left last now), .int .i64 (reT last now)] 67 ∧ w.grownBy w' (some A) := by
  by_cases h : now ≤ last
  · have e1 : reL rate burst left last now = left := if_pos h
    have e2 : reT last now = last := if_pos h
    rw [e1, e2]
    exact refill_no L A rate burst left last now x2 w hA h
  · have e1 : reL rate burst left last now = min (left + rate * min (now - last) burst) burst := if_neg h
    have e2 : reT last now = now := if_neg h
    rw [e1, e2]
    exact refill_yes L A rate burst left last now x2 x3 w hL hA hne (by omega) hr0 hr1 hb0 hb1 hl0 hl1 hn hl
end Go.Proofs.Ytdaimcccdleodaa
