import Derived.Test.YtdaimcccdleodaaLv2
import Derived.Test.YtdaimcccdleodaaLmb
/-
  Chapter 15: PolicyViews. (The verifier's own text.)
-/
namespace Go.Proofs.Ytdaimcccdleodaa
set_option linter.unusedVariables false
set_option linter.unusedSimpArgs false
open Go.RowKit Go.Shelf

def ssV (s : ByteArray) : List Value := [.string s]
abbrev SsAt (w : World) (p : Option Addr) (l : List ByteArray) : Prop := RowAt 1 ssV w p l
theorem below_or {B : Nat} {a b c : World} (h : Below B a b) (k : Below b.heap.size b c ∨ Below b.drew.heap.size b.drew c) (hB : B ≤ b.heap.size) : Below B a c := by
  rcases k with k | k
  · exact bstep0 h k hB
  · exact bstep0 h.drew k hB
set_option maxRecDepth 100000 in
set_option maxHeartbeats 4000000 in
theorem policyViews_any (A : ByteArray) (b : Int) (L : List Vw) (p : Option Addr) (cap : Nat) (F : List ByteArray) (fp : Option Addr) (fcap : Nat) (w : World) (hL : L.length ≤ 9223372036854775807) (hat : VwAt w p L) (hin : ∀ v ∈ L, v.nets.length ≤ 9223372036854775807 ∧ PfAt w v.p v.nets) (hF : F.length ≤ 9223372036854775807) (hfa : SsAt w fp F) :
    Calls Try.prog 3 #[.agg #[.string A, .int .i64 b], .slice p L.length cap, .slice fp F.length fcap] w fun e w' => e = .returned (.bool true) ∧ Below w.heap.size w w' := by
  obtain ⟨wa, hwa⟩ : ∃ wa, w.alloc (.cells #[.string A, .int .i64 b] 23) = wa := ⟨_, rfl⟩
  have HBa : Hid (Below w.heap.size w wa) := hwa ▸ (Below.refl _ _).alloc (Nat.le_refl _) _
  have hXa : Bx wa w.heap.size #[.string A, .int .i64 b] 23 := hwa ▸ World.alloc_heap_new w _
  have HXa := hidq hXa
  have HAL := hidq (alive_any wa)
  have HFA := hidq hfa
  have HC1 : Hid (∀ (s : ByteArray) (W : World), Below w.heap.size w W → Calls Try.prog 9 #[.slice p L.length cap, .string s] W fun r w' => r = .returned (.int .i64 (fiZ (forB s) L)) ∧ Below W.heap.size W w') := fun s W hB => choose_any L p cap s W hL (row_below' hat hB) (fun v hv => ⟨(hin v hv).1, row_below' (hin v hv).2 hB⟩)
  have HC2 : Hid (∀ (s : ByteArray) (W : World), Below w.heap.size w W → Calls Try.prog 10 #[.slice p L.length cap, .string s] W fun r w' => r = .returned (.int .i64 (fiZ (forB s) L)) ∧ Below W.heap.size W w') := fun s W hB => rchoose_any L p cap s W hL (row_below' hat hB) (fun v hv => ⟨(hin v hv).1, row_below' (hin v hv).2 hB⟩)
  clear hat hin hfa hXa
  go_enter Try.func3, Try.ntmps3
  go_wp2_with (go_at_call 6; (with_reducible refine HAL.out.mono ?_); rintro e w2 ⟨rfl, hB2⟩; have HB2 := hidq hB2; clear hB2)
  go_loopw [13] (fun i wr => ∃ k : Nat, i = .int .i64 (k : Int) ∧ k ≤ F.length ∧ Below wa.heap.size wa wr) (fun i _ => F.length - (intOf i).toNat)
  case atStart => exact ⟨0, rfl, Nat.zero_le _, HB2.out⟩
  case round =>
    obtain ⟨k, rfl, hk, hBr⟩ := hrel
    have HBr := hidq hBr
    have HBw := hidq (bstep0 HBa.out hBr HBa.out.size)
    by_cases hlt : k < F.length
    · obtain ⟨g, off, rfl, hg, ec⟩ := row_below' HFA.out HBw.out k hlt
      have e0 := ec 0 (by omega)
      simp only [ssV, Nat.add_zero, Nat.mul_one, List.getElem?_cons_zero] at e0
      generalize F[k] = s at *
      have hXr := HXa.out.below hBr HXa.out.lt
      have HS : Hid (∀ V, Below wr.heap.size wr V → V.cell? ⟨w.heap.size, 0, none⟩ = some (.string A) ∧ V.cell? ⟨w.heap.size, 1, none⟩ = some (.int .i64 b)) := fun V hV => ⟨(hXr.below hV hXr.lt).cell rfl, (hXr.below hV hXr.lt).cell rfl⟩
      obtain ⟨x0, x1⟩ := HS.out wr (Below.refl _ _)
      have HI1 := hidq (fun W => inside_any A s b W)
      have HI2 := hidq (fun W => rinside_any A s b W)
      have HD1 := hidq (HC1.out s)
      have HD2 := hidq (HC2.out s)
      generalize fiZ (forB s) L = R at *
      generalize insB A b s = B1 at *
      have hRR : (R != R) = false := by simp
      have hB : Below wr.heap.size wr wr := Below.refl _ _
      clear hBr hXr ec
      have HT1 : Hid True := trivial
      cases B1 with
      | true =>
        go_wp2_with fail
        go_region_held3 (fun V => V.cell? ⟨w.heap.size, 0, none⟩ = some (.string A) ∧ V.cell? ⟨w.heap.size, 1, none⟩ = some (.int .i64 b)) (first | go_keep | exact HS.out _ hB) (first
          | (go_at_call 7; (with_reducible refine (HI1.out _).mono ?_); rintro e w5 ⟨rfl, hB5⟩; have hB := below_or hB (by first | exact .inl hB5 | exact .inr hB5) hB.size; clear hB5)
          | (go_at_call 8; (with_reducible refine (HI2.out _).mono ?_); rintro e w6 ⟨rfl, hB5⟩; have hB := below_or hB (by first | exact .inl hB5 | exact .inr hB5) hB.size; clear hB5)
          | (go_at_call 9; refine (HD1.out _ (bstep0 HBw.out hB HBw.out.size)).mono ?_; rintro e w7 ⟨rfl, hB5⟩; have hB := below_or hB (by first | exact .inl hB5 | exact .inr hB5) hB.size; clear hB5)
          | (go_at_call 10; refine (HD2.out _ (bstep0 HBw.out hB HBw.out.size)).mono ?_; rintro e w8 ⟨rfl, hB5⟩; have hB := below_or hB (by first | exact .inl hB5 | exact .inr hB5) hB.size; clear hB5))
        go_wp2_with fail
        exact ⟨⟨k + 1, by go_num, by omega, bstep0 HBr.out (by first | exact hB | exact hB.drew) HBr.out.size⟩, by simp [intOf]; omega⟩
      | false =>
        go_wp2_with fail
        go_region_held3 (fun V => V.cell? ⟨w.heap.size, 0, none⟩ = some (.string A) ∧ V.cell? ⟨w.heap.size, 1, none⟩ = some (.int .i64 b)) (first | go_keep | exact HS.out _ hB) (first
          | (go_at_call 7; (with_reducible refine (HI1.out _).mono ?_); rintro e w5 ⟨rfl, hB5⟩; have hB := below_or hB (by first | exact .inl hB5 | exact .inr hB5) hB.size; clear hB5)
          | (go_at_call 8; (with_reducible refine (HI2.out _).mono ?_); rintro e w6 ⟨rfl, hB5⟩; have hB := below_or hB (by first | exact .inl hB5 | exact .inr hB5) hB.size; clear hB5)
          | (go_at_call 9; refine (HD1.out _ (bstep0 HBw.out hB HBw.out.size)).mono ?_; rintro e w7 ⟨rfl, hB5⟩; have hB := below_or hB (by first | exact .inl hB5 | exact .inr hB5) hB.size; clear hB5)
          | (go_at_call 10; refine (HD2.out _ (bstep0 HBw.out hB HBw.out.size)).mono ?_; rintro e w8 ⟨rfl, hB5⟩; have hB := below_or hB (by first | exact .inl hB5 | exact .inr hB5) hB.size; clear hB5))
        go_wp2_with fail
        exact ⟨⟨k + 1, by go_num, by omega, bstep0 HBr.out (by first | exact hB | exact hB.drew) HBr.out.size⟩, by simp [intOf]; omega⟩
    · obtain rfl : k = F.length := by omega
      go_wp2_with fail
      go_ret
      exact ⟨rfl, HBw.out⟩
end Go.Proofs.Ytdaimcccdleodaa
