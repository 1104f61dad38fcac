import Derived.Test.YtjnhkiibnmbmfaaSs2
/-
  Chapter 7: right lines. (The verifier's own text.)
-/
namespace Go.Proofs.Ytjnhkiibnmbmfaa
set_option linter.unusedVariables false
set_option linter.unusedSimpArgs false
open Go.RowKit Go.Shelf Go.Sort Go.Proofs.Ytjnhkiibnmbmfaa.Nm

/-- right times -/
def timesB (k : Tk) : Bool := decide (0 ≤ k.p) && decide (k.p ≤ k.a) && decide (k.a ≤ k.r) && decide (k.r ≤ k.x) && decide (k.x ≤ 4294967296)
/-- a right key with right times -/
def rightT (k : Tk) : Bool := rkB k.f k.m k.e k.s && timesB k
theorem down6 (k : Tk) : Lib.downOK (fun x y => decide (x < y)) #[0, k.p, k.a, k.r, k.x, 4294967296] 5 = timesB k := by
  unfold timesB
  by_cases h1 : 0 ≤ k.p <;> by_cases h2 : k.p ≤ k.a <;> by_cases h3 : k.a ≤ k.r <;> by_cases h4 : k.r ≤ k.x <;> by_cases h5 : k.x ≤ 4294967296 <;> simp [Lib.downOK, h1, h2, h3, h4, h5] <;> omega
set_option maxRecDepth 100000 in
set_option maxHeartbeats 1000000 in
/-- slices.IsSorted of six numbers in a block of their own -/
theorem sorted6_any (k : Tk) (B : Nat) (w : World) (hb : Bx w B #[.int .i64 0, .int .i64 k.p, .int .i64 k.a, .int .i64 k.r, .int .i64 k.x, .int .i64 4294967296] 3) :
    Calls Try.prog 30 #[.slice (some ⟨B, 0, none⟩) 6 6] w fun r w' => r = .returned (.bool (timesB k)) ∧ ∃ q, w' = w.drewN q := by
  have h := AnyO.slices_IsSorted_int Try.isSortedI B 0 6 #[0, k.p, k.a, k.r, k.x, 4294967296] w (by
    intro i hi
    have hi' : i < 6 := hi
    rcases (show i = 0 ∨ i = 1 ∨ i = 2 ∨ i = 3 ∨ i = 4 ∨ i = 5 by omega) with rfl | rfl | rfl | rfl | rfl | rfl <;> exact hb.cell rfl) (show 6 < 4611686018427387904 by decide)
  rw [← down6 k]
  exact h
set_option maxRecDepth 100000 in
set_option maxHeartbeats 1000000 in
/-- isLine's function -/
theorem wrong_any (k : Tk) (w : World) :
    Calls Try.prog 29 #[tkA k] w fun r w' => r = .returned (.bool (!rightT k)) ∧ Below w.heap.size w w' := by
  have HR := hide' (sIsRight_any k.f k.m k.e k.s)
  have HS := hide' (sorted6_any k)
  have HT : Hid (rightT k = (rkB k.f k.m k.e k.s && timesB k)) := rfl
  obtain ⟨b1, hb1⟩ : ∃ b1, rkB k.f k.m k.e k.s = b1 := ⟨_, rfl⟩
  obtain ⟨b2, hb2⟩ : ∃ b2, timesB k = b2 := ⟨_, rfl⟩
  rw [hb1, hb2] at HT
  rw [hb1] at HR
  rw [hb2] at HS
  clear hb1 hb2
  generalize rightT k = R at *
  obtain ⟨f, m, e, s, p, a, r, x⟩ := k
  dsimp only [tkA] at *
  have HB : Hid (Below w.heap.size w ((w.alloc (.cells #[.int .i64 f, .int .i64 m, .int .i64 e, .int .i64 s, .int .i64 p, .int .i64 a, .int .i64 r, .int .i64 x] 29)).alloc (.cells #[.int .i64 0, .int .i64 p, .int .i64 a, .int .i64 r, .int .i64 x, .int .i64 4294967296] 3))) := ((Below.refl _ _).alloc (Nat.le_refl _) _).alloc (by simp) _
  have HX : Hid (Bx ((w.alloc (.cells #[.int .i64 f, .int .i64 m, .int .i64 e, .int .i64 s, .int .i64 p, .int .i64 a, .int .i64 r, .int .i64 x] 29)).alloc (.cells #[.int .i64 0, .int .i64 p, .int .i64 a, .int .i64 r, .int .i64 x, .int .i64 4294967296] 3)) (w.heap.size + 1) #[.int .i64 0, .int .i64 p, .int .i64 a, .int .i64 r, .int .i64 x, .int .i64 4294967296] 3) := bxAt _ _ _ _ (by simp)
  cases b1 with
  | true =>
    go_enter Try.func29, Try.ntmps29
    go_wp2_with (first
      | (go_at_call 16; refine (HR.out _).mono ?_; rintro r1 w1 ⟨rfl, hB1⟩)
      | (go_at_call 30; refine (HS.out _ _ (HX.out.below hB1 HX.out.lt)).mono ?_; rintro r2 w2 ⟨rfl, q, rfl⟩))
    go_ret
    exact ⟨by rw [HT.out]; rfl, below_drewN (bstep HB.out hB1 HB.out.size) q⟩
  | false =>
    go_enter Try.func29, Try.ntmps29
    go_wp2_with (first
      | (go_at_call 16; refine (HR.out _).mono ?_; rintro r1 w1 ⟨rfl, hB1⟩))
    go_ret
    exact ⟨by rw [HT.out]; rfl, bstep HB.out hB1 HB.out.size⟩
theorem TsAt.below {w w' : World} {p : Option Addr} {L : List Tk} (h : TsAt w p L) (hb : Below w.heap.size w w') : TsAt w' p L := row_below' h hb
set_option maxRecDepth 100000 in
set_option maxHeartbeats 1000000 in
/-- slices.IndexFunc, with signer.isLine$1 -/
theorem index_wrong (L : List Tk) (p : Option Addr) (cap : Nat) (P : Tk → Bool) (w : World) (hL : L.length ≤ 4294967296) (hat : TsAt w p L)
    (hf : ∀ (k : Nat) (hk : k < L.length) (W : World), Below w.heap.size w W → Calls Try.prog 29 #[tkA L[k]] W fun r w' => r = .returned (.bool (P L[k])) ∧ Below W.heap.size W w') :
    Calls Try.prog 43 #[.slice p L.length cap, .func (Fn.func 29) #[] #[]] w fun r w' => (∃ i : Int, r = .returned (.int .i64 i) ∧ (decide (0 ≤ i)) = L.any P) ∧ Below w.heap.size w w' := by
  have HF := hide' hf
  have HA := hide' hat
  clear hf hat
  go_enter Try.func43, Try.ntmps43
  go_wp2_with fail
  go_loopw [8] (fun i wr => ∃ k : Nat, i = .int .i64 (k : Int) ∧ k ≤ L.length ∧ Hid (∀ j (hj : j < L.length), j < k → P L[j] = false) ∧ Below w.heap.size w wr) (fun i _ => L.length - (intOf i).toNat)
  case atStart => exact ⟨0, rfl, Nat.zero_le _, (fun j _ h => absurd h (Nat.not_lt_zero _)), Below.refl _ _⟩
  case round =>
    obtain ⟨k, rfl, hk, HN, hBr⟩ := hrel
    have HBr := hide' hBr
    by_cases hlt : k < L.length
    · obtain ⟨g, off, rfl, hg, e0, e1, e2, e3, e4, e5, e6, e7⟩ := TsAt.cells (TsAt.below HA.out hBr) k hlt
      have HC := hide' (HF.out k hlt wr hBr)
      obtain ⟨x, hx⟩ : ∃ x, L[k] = x := ⟨_, rfl⟩
      have HX := hide' hx
      rw [hx] at HC e0 e1 e2 e3 e4 e5 e6 e7
      clear hx hBr
      cases hp : P x with
      | true =>
        rw [hp] at HC
        have HP := hide' hp
        clear hp
        go_wp2_with (go_at_call 29; refine HC.out.mono ?_; rintro r w2 ⟨rfl, hB2⟩)
        go_ret
        refine ⟨⟨(k : Int), rfl, ?_⟩, bstep HBr.out hB2 HBr.out.size⟩
        rw [decide_eq_true (by omega), eq_comm, List.any_eq_true]
        exact ⟨x, HX.out ▸ List.getElem_mem hlt, HP.out⟩
      | false =>
        rw [hp] at HC
        have HP := hide' hp
        clear hp
        go_wp2_with (go_at_call 29; refine HC.out.mono ?_; rintro r w2 ⟨rfl, hB2⟩)
        refine ⟨⟨k + 1, by go_num, by omega, ?_, bstep HBr.out hB2 HBr.out.size⟩, by simp [intOf]; omega⟩
        intro j hj hjk
        rcases Nat.lt_or_ge j k with h | h
        · exact HN.out j hj h
        · obtain rfl : j = k := by omega
          rw [HX.out]; exact HP.out
    · obtain rfl : k = L.length := by omega
      go_wp2_with fail
      go_ret
      refine ⟨⟨-1, rfl, ?_⟩, HBr.out⟩
      rw [decide_eq_false (by omega), eq_comm, List.any_eq_false]
      intro x hx
      obtain ⟨j, hj, rfl⟩ := List.getElem_of_mem hx
      rw [HN.out j hj hj]; simp
set_option maxRecDepth 100000 in
set_option maxHeartbeats 1000000 in
/-- slices.ContainsFunc, with signer.isLine$1 -/
theorem contains_wrong (L : List Tk) (p : Option Addr) (cap : Nat) (P : Tk → Bool) (w : World) (hL : L.length ≤ 4294967296) (hat : TsAt w p L)
    (hf : ∀ (k : Nat) (hk : k < L.length) (W : World), Below w.heap.size w W → Calls Try.prog 29 #[tkA L[k]] W fun r w' => r = .returned (.bool (P L[k])) ∧ Below W.heap.size W w') :
    Calls Try.prog 31 #[.slice p L.length cap, .func (Fn.func 29) #[] #[]] w fun r w' => r = .returned (.bool (L.any P)) ∧ Below w.heap.size w w' := by
  have HI := hide' (index_wrong L p cap P w hL hat hf)
  clear hf hat
  go_enter Try.func31, Try.ntmps31
  go_wp2_with (go_at_call 43; refine HI.out.mono ?_; rintro r w1 ⟨⟨i, rfl, hi⟩, hB1⟩; have HI2 := hide' hi; clear hi)
  go_ret
  exact ⟨by rw [← HI2.out]; rfl, hB1⟩
end Go.Proofs.Ytjnhkiibnmbmfaa
