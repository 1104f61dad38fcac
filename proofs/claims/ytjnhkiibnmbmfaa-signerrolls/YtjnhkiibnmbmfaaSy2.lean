import Derived.Test.YtjnhkiibnmbmfaaSy1
/-
  Chapter 7: the key that signs without an end, whether a line has a public key. (The verifier's own text.)
-/
namespace Go.Proofs.Ytjnhkiibnmbmfaa
set_option linter.unusedVariables false
set_option linter.unusedSimpArgs false
open Go.RowKit Go.Shelf Go.Sort Go.Proofs.Ytjnhkiibnmbmfaa.Nm

set_option maxRecDepth 100000 in
set_option maxHeartbeats 1000000 in
/-- signer.endless, where the last key alone has no end -/
theorem endless_any (I : List Tk) (l : Tk) (p : Option Addr) (cap n : Nat) (w : World) (hn : (I ++ [l]).length = n) (hL : n ≤ 4294967296) (hat : TsAt w p (I ++ [l])) (hl : l.r = 4294967296) (hI : ∀ k ∈ I, k.r ≠ 4294967296) :
    Calls Try.prog 14 #[.slice p n cap] w fun r w' => r = .returned (.tuple #[.int .i64 I.length, .bool true]) ∧ Below w.heap.size w w' := by
  subst hn
  have hlen : (I ++ [l]).length = I.length + 1 := by simp
  have HA := hide' hat
  have HE : Hid (∀ j (hj : j < (I ++ [l]).length), ((I ++ [l])[j].r = 4294967296 ↔ j = I.length)) := by
    intro j hj
    rw [hlen] at hj
    rcases Nat.lt_or_ge j I.length with h | h
    · rw [List.getElem_append_left h]
      exact ⟨fun e => absurd e (hI _ (List.getElem_mem h)), fun e => by omega⟩
    · obtain rfl : j = I.length := by omega
      rw [List.getElem_append_right (Nat.le_refl _)]
      simp [hl]
  clear hat hl hI
  rw [hlen] at hL
  generalize I ++ [l] = L at *
  generalize I.length = n at *
  rw [hlen]
  go_enter Try.func14, Try.ntmps14
  go_wp2_with fail
  go_loopw [4, 5, 10] (fun at_ ct i wr => ∃ k : Nat, i = .int .i64 (k : Int) ∧ k ≤ n + 1 ∧ Below w.heap.size w wr ∧ ((k ≤ n ∧ ct = .int .i64 0 ∧ ∃ z : Int, at_ = .int .i64 z) ∨ (k = n + 1 ∧ ct = .int .i64 1 ∧ at_ = .int .i64 (n : Int)))) (fun _ _ i _ => n + 1 - (intOf i).toNat)
  case atStart => exact ⟨0, rfl, Nat.zero_le _, Below.refl _ _, .inl ⟨Nat.zero_le _, rfl, 0, rfl⟩⟩
  case round =>
    obtain ⟨k, rfl, hk, hBr, hor⟩ := hrel
    have HBr := hide' hBr
    rcases hor with ⟨hkn, rfl, z, rfl⟩ | ⟨rfl, rfl, rfl⟩
    · obtain ⟨g, off, rfl, hg, e0, e1, e2, e3, e4, e5, e6, e7⟩ := TsAt.cells (TsAt.below HA.out hBr) k (by omega)
      have HEk := hide' (HE.out k (by omega))
      generalize L[k] = x at *
      obtain ⟨f, m, e, s, pp, ac, rr, xx⟩ := x
      dsimp only at e0 e1 e2 e3 e4 e5 e6 e7
      have HB2 : Hid (Below w.heap.size w (wr.alloc (.cells #[.int .i64 f, .int .i64 m, .int .i64 e, .int .i64 s, .int .i64 pp, .int .i64 ac, .int .i64 rr, .int .i64 xx] 29))) := HBr.out.alloc HBr.out.size _
      clear hBr
      by_cases hr : rr = 4294967296
      · have hkn' : k = n := HEk.out.1 hr
        subst hkn' hr
        go_wp2_with fail
        exact ⟨⟨k + 1, by go_num, by omega, HB2.out, .inr ⟨rfl, rfl, rfl⟩⟩, by simp [intOf]⟩
      · have hkn' : k ≠ n := fun e => hr (HEk.out.2 e)
        go_wp2_with fail
        exact ⟨⟨k + 1, by go_num, by omega, HB2.out, .inl ⟨by omega, rfl, z, rfl⟩⟩, by simp [intOf]; omega⟩
    · go_wp2_with fail
      go_ret2
      exact ⟨rfl, HBr.out⟩
theorem eqS (b s : ByteArray) : (b.toList == s.toList) = decide (b = s) := by
  by_cases h : b = s
  · rw [decide_eq_true h, h]; exact beq_self_eq_true _
  · rw [decide_eq_false h, beq_eq_false_iff_ne]; intro e; exact h (toList_inj.1 e)
set_option maxRecDepth 100000 in
set_option maxHeartbeats 1000000 in
/-- hasPublic's function -/
theorem hasPub1_any (k : Tk) (s : ByteArray) (A : Nat) (w : World) (hA : w.cell? ⟨A, 0, none⟩ = some (.string s)) (hlt : A < w.heap.size) :
    Calls Try.prog 32 #[tkA k, .pointer (some ⟨A, 0, none⟩)] w fun r w' => r = .returned (.bool (decide (pubB k.f k.m k.e k.s = s))) ∧ Below w.heap.size w w' := by
  have HP := hide' (public_any k.f k.m k.e k.s)
  generalize pubB k.f k.m k.e k.s = b at *
  obtain ⟨f, m, e, sx, p, ac, r, x⟩ := k
  dsimp only [tkA] at *
  have HX : Hid (Bx (w.alloc (.cells #[.int .i64 f, .int .i64 m, .int .i64 e, .int .i64 sx, .int .i64 p, .int .i64 ac, .int .i64 r, .int .i64 x] 29)) w.heap.size #[.int .i64 f, .int .i64 m, .int .i64 e, .int .i64 sx, .int .i64 p, .int .i64 ac, .int .i64 r, .int .i64 x] 29) := bxNew _ _ _
  have HB0 : Hid (Below w.heap.size w (w.alloc (.cells #[.int .i64 f, .int .i64 m, .int .i64 e, .int .i64 sx, .int .i64 p, .int .i64 ac, .int .i64 r, .int .i64 x] 29))) := (Below.refl _ _).alloc (Nat.le_refl _) _
  have q0 : (w.alloc (.cells #[.int .i64 f, .int .i64 m, .int .i64 e, .int .i64 sx, .int .i64 p, .int .i64 ac, .int .i64 r, .int .i64 x] 29)).drew.cell? ⟨A, 0, none⟩ = some (.string s) := (HB0.out.cell (p := ⟨A, 0, none⟩) hlt).trans hA
  have Q0 := hide' q0
  go_enter Try.func32, Try.ntmps32
  go_wp2_with fail
  go_region_with (go_at_call 18; refine (HP.out _).mono ?_; rintro r1 w1 ⟨rfl, hB1⟩; have qa : w1.cell? ⟨A, 0, none⟩ = some (.string s) := (hB1.cell (p := ⟨A, 0, none⟩) (by simp; omega)).trans Q0.out)
  all_goals
    go_wp2_with fail
    go_ret
    refine ⟨?_, bstep HB0.out.drew hB1 HB0.out.drew.size⟩
    exact congrArg (fun x => Ending.returned (Value.bool x)) (eqS b s)
set_option maxRecDepth 100000 in
set_option maxHeartbeats 1000000 in
/-- slices.IndexFunc, with signer.hasPublic$1 -/
theorem index_pub (L : List Tk) (p : Option Addr) (cap : Nat) (cv : Value) (P : Tk → Bool) (w : World) (hL : L.length ≤ 4294967296) (hat : TsAt w p L)
    (hf : ∀ (k : Nat) (hk : k < L.length) (W : World), Below w.heap.size w W → Calls Try.prog 32 #[tkA L[k], cv] W fun r w' => r = .returned (.bool (P L[k])) ∧ Below W.heap.size W w') :
    Calls Try.prog 43 #[.slice p L.length cap, .func (Fn.func 32) #[] #[cv]] w fun r w' => (∃ i : Int, r = .returned (.int .i64 i) ∧ (decide (0 ≤ i)) = L.any P) ∧ Below w.heap.size w w' := by
  have HF := hide' hf
  have HA := hide' hat
  clear hf hat
  go_enter Try.func43, Try.ntmps43
  go_wp2_with fail
  go_loopw [8] (fun i wr => ∃ k : Nat, i = .int .i64 (k : Int) ∧ k ≤ L.length ∧ Hid (∀ j (hj : j < L.length), j < k → P L[j] = false) ∧ Below w.heap.size w wr) (fun i _ => L.length - (intOf i).toNat)
  case atStart => exact ⟨0, rfl, Nat.zero_le _, (fun j _ h => absurd h (Nat.not_lt_zero _)), Below.refl _ _⟩
  case round =>
    obtain ⟨k, rfl, hk, HN, hBr⟩ := hrel
    have HBr := hide' hBr
    by_cases hlt : k < L.length
    · obtain ⟨g, off, rfl, hg, e0, e1, e2, e3, e4, e5, e6, e7⟩ := TsAt.cells (TsAt.below HA.out hBr) k hlt
      have HC := hide' (HF.out k hlt wr hBr)
      obtain ⟨x, hx⟩ : ∃ x, L[k] = x := ⟨_, rfl⟩
      have HX := hide' hx
      rw [hx] at HC e0 e1 e2 e3 e4 e5 e6 e7
      clear hx hBr
      cases hp : P x with
      | true =>
        rw [hp] at HC
        have HP := hide' hp
        clear hp
        go_wp2_with (go_at_call 32; refine HC.out.mono ?_; rintro r w2 ⟨rfl, hB2⟩)
        go_ret
        refine ⟨⟨(k : Int), rfl, ?_⟩, bstep HBr.out hB2 HBr.out.size⟩
        rw [decide_eq_true (by omega), eq_comm, List.any_eq_true]
        exact ⟨x, HX.out ▸ List.getElem_mem hlt, HP.out⟩
      | false =>
        rw [hp] at HC
        have HP := hide' hp
        clear hp
        go_wp2_with (go_at_call 32; refine HC.out.mono ?_; rintro r w2 ⟨rfl, hB2⟩)
        refine ⟨⟨k + 1, by go_num, by omega, ?_, bstep HBr.out hB2 HBr.out.size⟩, by simp [intOf]; omega⟩
        intro j hj hjk
        rcases Nat.lt_or_ge j k with h | h
        · exact HN.out j hj h
        · obtain rfl : j = k := by omega
          rw [HX.out]; exact HP.out
    · obtain rfl : k = L.length := by omega
      go_wp2_with fail
      go_ret
      refine ⟨⟨-1, rfl, ?_⟩, HBr.out⟩
      rw [decide_eq_false (by omega), eq_comm, List.any_eq_false]
      intro x hx
      obtain ⟨j, hj, rfl⟩ := List.getElem_of_mem hx
      rw [HN.out j hj hj]; simp
set_option maxRecDepth 100000 in
set_option maxHeartbeats 1000000 in
/-- slices.ContainsFunc, with signer.hasPublic$1 -/
theorem contains_pub (L : List Tk) (p : Option Addr) (cap : Nat) (cv : Value) (P : Tk → Bool) (w : World) (hL : L.length ≤ 4294967296) (hat : TsAt w p L)
    (hf : ∀ (k : Nat) (hk : k < L.length) (W : World), Below w.heap.size w W → Calls Try.prog 32 #[tkA L[k], cv] W fun r w' => r = .returned (.bool (P L[k])) ∧ Below W.heap.size W w') :
    Calls Try.prog 31 #[.slice p L.length cap, .func (Fn.func 32) #[] #[cv]] w fun r w' => r = .returned (.bool (L.any P)) ∧ Below w.heap.size w w' := by
  have HI := hide' (index_pub L p cap cv P w hL hat hf)
  clear hf hat
  go_enter Try.func31, Try.ntmps31
  go_wp2_with (go_at_call 43; refine HI.out.mono ?_; rintro r w1 ⟨⟨i, rfl, hi⟩, hB1⟩; have HI2 := hide' hi; clear hi)
  go_ret
  exact ⟨by rw [← HI2.out]; rfl, hB1⟩
set_option maxRecDepth 100000 in
set_option maxHeartbeats 1000000 in
/-- signer.hasPublic -/
theorem hasPublic_any (L : List Tk) (p : Option Addr) (cap : Nat) (s : ByteArray) (w : World) (hL : L.length ≤ 4294967296) (hat : TsAt w p L) :
    Calls Try.prog 17 #[.slice p L.length cap, .string s] w fun r w' => r = .returned (.bool (L.any fun k => decide (pubB k.f k.m k.e k.s = s))) ∧ Below w.heap.size w w' := by
  have HB : Hid (Below w.heap.size w (w.alloc (.cells #[.string s] 9))) := (Below.refl _ _).alloc (Nat.le_refl _) _
  have hXa : Bx (w.alloc (.cells #[.string s] 9)) w.heap.size #[.string s] 9 := bxNew _ _ _
  have HC := hide' (contains_pub L p cap (.pointer (some ⟨w.heap.size, 0, none⟩)) (fun k => decide (pubB k.f k.m k.e k.s = s)) _ hL (TsAt.below hat HB.out) (fun k hk W hb => hasPub1_any L[k] s w.heap.size W ((hXa.below hb hXa.lt).cell rfl) (Nat.lt_of_lt_of_le hXa.lt hb.size)))
  generalize (L.any fun k => decide (pubB k.f k.m k.e k.s = s)) = R at *
  clear hat hXa
  go_enter Try.func17, Try.ntmps17
  go_wp2_with (go_at_call 31; refine HC.out.mono ?_; rintro r w1 ⟨rfl, hB1⟩)
  go_ret
  exact ⟨rfl, bstep HB.out hB1 HB.out.size⟩
end Go.Proofs.Ytjnhkiibnmbmfaa
