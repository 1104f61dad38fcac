import Derived.Test.YtjnhkiibnmbmfaaSs3
/-
  Chapter 7: right lines of both, which times are served. (The verifier's own text.)
-/
namespace Go.Proofs.Ytjnhkiibnmbmfaa
set_option linter.unusedVariables false
set_option linter.unusedSimpArgs false
open Go.RowKit Go.Shelf Go.Sort Go.Proofs.Ytjnhkiibnmbmfaa.Nm

/-- a right line -/
def lineB (L : List Tk) : Bool := decide (L.length ≤ 50) && L.all rightT
theorem any_wrong (L : List Tk) : L.any (fun k => !rightT k) = !L.all rightT := by
  induction L with
  | nil => rfl
  | cons x l ih => simp only [List.any_cons, List.all_cons, ih, Bool.not_and]
set_option maxRecDepth 100000 in
set_option maxHeartbeats 1000000 in
/-- signer.isLine -/
theorem isLine_any (L : List Tk) (p : Option Addr) (cap : Nat) (w : World) (hL : L.length ≤ 4294967296) (hat : TsAt w p L) :
    Calls Try.prog 15 #[.slice p L.length cap] w fun r w' => r = .returned (.bool (lineB L)) ∧ Below w.heap.size w w' := by
  have HC := hide' (contains_wrong L p cap (fun k => !rightT k) w hL hat (fun k hk W _ => wrong_any L[k] W))
  rw [any_wrong] at HC
  have HL : Hid (lineB L = (decide (L.length ≤ 50) && L.all rightT)) := rfl
  generalize L.all rightT = A at *
  generalize lineB L = R at *
  clear hat
  by_cases h : L.length ≤ 50
  · rw [decide_eq_true h] at HL
    go_enter Try.func15, Try.ntmps15
    go_wp2_with (go_at_call 31; refine HC.out.mono ?_; rintro r w1 ⟨rfl, hB1⟩)
    go_ret
    exact ⟨by rw [HL.out]; simp, hB1⟩
  · rw [decide_eq_false h] at HL
    go_enter Try.func15, Try.ntmps15
    go_wp2_with fail
    go_ret
    exact ⟨by rw [HL.out]; rfl, Below.refl _ _⟩
/-- are the times a and b served? -/
def servedB (L : List Tk) (a b : Int) : Bool := L.any fun k => told k a && signs k b
set_option maxRecDepth 100000 in
set_option maxHeartbeats 1000000 in
/-- canVerify's function -/
theorem verifies_any (k : Tk) (a b : Int) (A B : Nat) (w : World) (ha : w.cell? ⟨A, 0, none⟩ = some (.int .i64 a)) (hb : w.cell? ⟨B, 0, none⟩ = some (.int .i64 b)) (hA : A < w.heap.size) (hB : B < w.heap.size) :
    Calls Try.prog 39 #[tkA k, .pointer (some ⟨A, 0, none⟩), .pointer (some ⟨B, 0, none⟩)] w fun r w' => r = .returned (.bool (told k a && signs k b)) ∧ Below w.heap.size w w' := by
  have HT := hide' (isTold_any k a)
  have HS := hide' (doesSign_any k b)
  obtain ⟨b1, hb1⟩ : ∃ b1, told k a = b1 := ⟨_, rfl⟩
  obtain ⟨b2, hb2⟩ : ∃ b2, signs k b = b2 := ⟨_, rfl⟩
  rw [hb1] at HT
  rw [hb2] at HS
  rw [hb1, hb2]
  clear hb1 hb2
  obtain ⟨f, m, e, s, p, ac, r, x⟩ := k
  dsimp only [tkA] at *
  have HX : Hid (Bx (w.alloc (.cells #[.int .i64 f, .int .i64 m, .int .i64 e, .int .i64 s, .int .i64 p, .int .i64 ac, .int .i64 r, .int .i64 x] 29)) w.heap.size #[.int .i64 f, .int .i64 m, .int .i64 e, .int .i64 s, .int .i64 p, .int .i64 ac, .int .i64 r, .int .i64 x] 29) := bxNew _ _ _
  have HB0 : Hid (Below w.heap.size w (w.alloc (.cells #[.int .i64 f, .int .i64 m, .int .i64 e, .int .i64 s, .int .i64 p, .int .i64 ac, .int .i64 r, .int .i64 x] 29))) := (Below.refl _ _).alloc (Nat.le_refl _) _
  have HBC : Hid ((w.alloc (.cells #[.int .i64 f, .int .i64 m, .int .i64 e, .int .i64 s, .int .i64 p, .int .i64 ac, .int .i64 r, .int .i64 x] 29)).cell? ⟨B, 0, none⟩ = some (.int .i64 b)) := (HB0.out.cell (p := ⟨B, 0, none⟩) hB).trans hb
  cases b1 with
  | true =>
    go_enter Try.func39, Try.ntmps39
    go_wp2_with (first
      | (go_at_call 40; refine (HT.out _).mono ?_; rintro r1 w1 ⟨rfl, hB1⟩; obtain ⟨q0, q1, q2, q3, q4, q5, q6, q7⟩ := bx8 (HX.out.below hB1 HX.out.lt); have qb : w1.cell? ⟨B, 0, none⟩ = some (.int .i64 b) := (hB1.cell (p := ⟨B, 0, none⟩) (by rw [World.size_alloc]; show B < _; omega)).trans HBC.out)
      | (go_at_call 41; refine (HS.out _).mono ?_; rintro r2 w2 ⟨rfl, hB2⟩))
    go_ret
    exact ⟨by simp, bstep (bstep HB0.out hB1 HB0.out.size) hB2 (Nat.le_trans HB0.out.size hB1.size)⟩
  | false =>
    go_enter Try.func39, Try.ntmps39
    go_wp2_with (go_at_call 40; refine (HT.out _).mono ?_; rintro r1 w1 ⟨rfl, hB1⟩)
    go_ret
    exact ⟨by simp, bstep HB0.out hB1 HB0.out.size⟩
set_option maxRecDepth 100000 in
set_option maxHeartbeats 1000000 in
/-- slices.IndexFunc, with signer.canVerify$1 -/
theorem index_verifies (L : List Tk) (p : Option Addr) (cap : Nat) (cv cv2 : Value) (P : Tk → Bool) (w : World) (hL : L.length ≤ 4294967296) (hat : TsAt w p L)
    (hf : ∀ (k : Nat) (hk : k < L.length) (W : World), Below w.heap.size w W → Calls Try.prog 39 #[tkA L[k], cv, cv2] W fun r w' => r = .returned (.bool (P L[k])) ∧ Below W.heap.size W w') :
    Calls Try.prog 43 #[.slice p L.length cap, .func (Fn.func 39) #[] #[cv, cv2]] w fun r w' => (∃ i : Int, r = .returned (.int .i64 i) ∧ (decide (0 ≤ i)) = L.any P) ∧ Below w.heap.size w w' := by
  have HF := hide' hf
  have HA := hide' hat
  clear hf hat
  go_enter Try.func43, Try.ntmps43
  go_wp2_with fail
  go_loopw [8] (fun i wr => ∃ k : Nat, i = .int .i64 (k : Int) ∧ k ≤ L.length ∧ Hid (∀ j (hj : j < L.length), j < k → P L[j] = false) ∧ Below w.heap.size w wr) (fun i _ => L.length - (intOf i).toNat)
  case atStart => exact ⟨0, rfl, Nat.zero_le _, (fun j _ h => absurd h (Nat.not_lt_zero _)), Below.refl _ _⟩
  case round =>
    obtain ⟨k, rfl, hk, HN, hBr⟩ := hrel
    have HBr := hide' hBr
    by_cases hlt : k < L.length
    · obtain ⟨g, off, rfl, hg, e0, e1, e2, e3, e4, e5, e6, e7⟩ := TsAt.cells (TsAt.below HA.out hBr) k hlt
      have HC := hide' (HF.out k hlt wr hBr)
      obtain ⟨x, hx⟩ : ∃ x, L[k] = x := ⟨_, rfl⟩
      have HX := hide' hx
      rw [hx] at HC e0 e1 e2 e3 e4 e5 e6 e7
      clear hx hBr
      cases hp : P x with
      | true =>
        rw [hp] at HC
        have HP := hide' hp
        clear hp
        go_wp2_with (go_at_call 39; refine HC.out.mono ?_; rintro r w2 ⟨rfl, hB2⟩)
        go_ret
        refine ⟨⟨(k : Int), rfl, ?_⟩, bstep HBr.out hB2 HBr.out.size⟩
        rw [decide_eq_true (by omega), eq_comm, List.any_eq_true]
        exact ⟨x, HX.out ▸ List.getElem_mem hlt, HP.out⟩
      | false =>
        rw [hp] at HC
        have HP := hide' hp
        clear hp
        go_wp2_with (go_at_call 39; refine HC.out.mono ?_; rintro r w2 ⟨rfl, hB2⟩)
        refine ⟨⟨k + 1, by go_num, by omega, ?_, bstep HBr.out hB2 HBr.out.size⟩, by simp [intOf]; omega⟩
        intro j hj hjk
        rcases Nat.lt_or_ge j k with h | h
        · exact HN.out j hj h
        · obtain rfl : j = k := by omega
          rw [HX.out]; exact HP.out
    · obtain rfl : k = L.length := by omega
      go_wp2_with fail
      go_ret
      refine ⟨⟨-1, rfl, ?_⟩, HBr.out⟩
      rw [decide_eq_false (by omega), eq_comm, List.any_eq_false]
      intro x hx
      obtain ⟨j, hj, rfl⟩ := List.getElem_of_mem hx
      rw [HN.out j hj hj]; simp
set_option maxRecDepth 100000 in
set_option maxHeartbeats 1000000 in
/-- slices.ContainsFunc, with signer.canVerify$1 -/
theorem contains_verifies (L : List Tk) (p : Option Addr) (cap : Nat) (cv cv2 : Value) (P : Tk → Bool) (w : World) (hL : L.length ≤ 4294967296) (hat : TsAt w p L)
    (hf : ∀ (k : Nat) (hk : k < L.length) (W : World), Below w.heap.size w W → Calls Try.prog 39 #[tkA L[k], cv, cv2] W fun r w' => r = .returned (.bool (P L[k])) ∧ Below W.heap.size W w') :
    Calls Try.prog 31 #[.slice p L.length cap, .func (Fn.func 39) #[] #[cv, cv2]] w fun r w' => r = .returned (.bool (L.any P)) ∧ Below w.heap.size w w' := by
  have HI := hide' (index_verifies L p cap cv cv2 P w hL hat hf)
  clear hf hat
  go_enter Try.func31, Try.ntmps31
  go_wp2_with (go_at_call 43; refine HI.out.mono ?_; rintro r w1 ⟨⟨i, rfl, hi⟩, hB1⟩; have HI2 := hide' hi; clear hi)
  go_ret
  exact ⟨by rw [← HI2.out]; rfl, hB1⟩
set_option maxRecDepth 100000 in
set_option maxHeartbeats 1000000 in
/-- signer.canVerify -/
theorem canVerify_any (L : List Tk) (p : Option Addr) (cap : Nat) (a b : Int) (w : World) (hL : L.length ≤ 4294967296) (hat : TsAt w p L) :
    Calls Try.prog 26 #[.slice p L.length cap, .int .i64 a, .int .i64 b] w fun r w' => r = .returned (.bool (servedB L a b)) ∧ Below w.heap.size w w' := by
  have HB : Hid (Below w.heap.size w ((w.alloc (.cells #[.int .i64 a] 3)).alloc (.cells #[.int .i64 b] 3))) := ((Below.refl _ _).alloc (Nat.le_refl _) _).alloc (by simp) _
  have hXa : Bx ((w.alloc (.cells #[.int .i64 a] 3)).alloc (.cells #[.int .i64 b] 3)) w.heap.size #[.int .i64 a] 3 := (bxNew _ _ _).al _
  have hXb : Bx ((w.alloc (.cells #[.int .i64 a] 3)).alloc (.cells #[.int .i64 b] 3)) (w.heap.size + 1) #[.int .i64 b] 3 := bxAt _ _ _ _ (by simp)
  have HC := hide' (contains_verifies L p cap (.pointer (some ⟨w.heap.size, 0, none⟩)) (.pointer (some ⟨w.heap.size + 1, 0, none⟩)) (fun k => told k a && signs k b) _ hL (TsAt.below hat HB.out) (fun k hk W hb => verifies_any L[k] a b w.heap.size (w.heap.size + 1) W ((hXa.below hb hXa.lt).cell rfl) ((hXb.below hb hXb.lt).cell rfl) (Nat.lt_of_lt_of_le hXa.lt hb.size) (Nat.lt_of_lt_of_le hXb.lt hb.size)))
  have HS : Hid (servedB L a b = L.any fun k => told k a && signs k b) := rfl
  generalize (L.any fun k => told k a && signs k b) = R at *
  rw [HS.out]
  clear hat hXa hXb HS
  go_enter Try.func26, Try.ntmps26
  go_wp2_with (go_at_call 31; refine HC.out.mono ?_; rintro r w1 ⟨rfl, hB1⟩)
  go_ret
  exact ⟨rfl, bstep HB.out hB1 HB.out.size⟩
end Go.Proofs.Ytjnhkiibnmbmfaa
