import Derived.Test.YtjnhkiibnmbmfaaSs7
/-
  Chapter 7: Safe, at a right line: the loops. (The verifier's own text.)
-/
namespace Go.Proofs.Ytjnhkiibnmbmfaa
set_option linter.unusedVariables false
set_option linter.unusedSimpArgs false
open Go.RowKit Go.Shelf Go.Sort Go.Proofs.Ytjnhkiibnmbmfaa.Nm

def isRegN (n : Nat) : Code → Bool
  | .region k _ _ => k == n
  | _ => false
/-- what stands behind a region -/
def tailsN (n : Nat) : Code → List Code
  | .seq a b => bif isRegN n a then [b] else tailsN n a ++ tailsN n b
  | .block _ c => tailsN n c
  | .scope c => tailsN n c
  | .cond _ a b => tailsN n a ++ tailsN n b
  | .loop c => tailsN n c
  | _ => []
theorem right_bound {L : List Tk} (h : lineB L = true) : ∀ k ∈ L, 0 ≤ k.p ∧ k.p ≤ k.a ∧ k.a ≤ k.r ∧ k.r ≤ k.x ∧ k.x ≤ 4294967296 := by
  intro k hk
  unfold lineB at h
  have h2 := List.all_eq_true.1 (Bool.and_eq_true_iff.1 h).2 k hk
  have h3 := (Bool.and_eq_true_iff.1 h2).2
  simp only [timesB, Bool.and_eq_true, decide_eq_true_eq] at h3
  omega
theorem raw_bound {L : List Tk} {fr : Int} {F : Tk → Int × Int} (hf : fr ≤ 4294967296) (h : ∀ k ∈ L, (F k).1 ≤ 4294967296 ∧ (F k).2 ≤ 4294967296) : ∀ x ∈ rawT fr F L, fr ≤ x ∧ x ≤ 4294967296 := by
  intro x hx
  rcases List.mem_cons.1 hx with rfl | hx
  · omega
  · obtain ⟨k, hk, hx⟩ := List.mem_flatMap.1 hx
    have := h k hk
    simp only [List.mem_cons, List.not_mem_nil, or_false] at hx
    rcases hx with rfl | rfl <;> omega
set_option maxRecDepth 100000 in
set_option maxHeartbeats 4000000 in
theorem safe_tail (L : List Tk) (p : Option Addr) (cap : Nat) (ka sa fr to : Int) (w w3 : World) (hL : L.length ≤ 1048576) (HAT : Hid (TsAt w p L)) (HB3 : Hid (Below w.heap.size w w3)) (hk1 : 0 ≤ ka ∧ ka ≤ 2147483647) (hk2 : 0 ≤ sa ∧ sa ≤ 2147483647) (h3 : 0 ≤ fr) (h4 : fr ≤ to) (h5 : to ≤ 4294967295) (HARG : Hid (argsB ka sa fr to = true)) (HLB : Hid (lineB L = true))
    (g4 c4 g5 c5 : Nat) (M4 M5 : List Int) (HN4 : Hid (NsAt w3 g4 M4)) (HN5 : Hid (NsAt w3 g5 M5)) (HG : Hid (g4 < w3.heap.size ∧ g5 < w3.heap.size)) (HM4 : Hid (∀ x, x ∈ M4 ↔ x ∈ rawT fr (fun k => (k.p, k.x)) L)) (HM5 : Hid (∀ x, x ∈ M5 ↔ x ∈ rawT fr (fun k => (k.a, k.r)) L)) (hl4 : M4.length ≤ 2097153) (hl5 : M5.length ≤ 2097153)
    (x5 x6 x7 x8 x9 x15 x16 x17 x18 x19 x20 x21 x22 x23 x24 x25 x26 x27 x28 x29 x30 x31 x32 x33 x34 x35 x36 x37 x38 x39 x40 x41 x42 x43 x44 x45 x46 x47 x48 x49 x50 x51 x52 x53 x54 x55 x56 x57 x58 x59 x60 x61 x62 x63 x64 x65 x66 x67 x68 x69 x70 x71 x72 x73 x74 x75 x76 x77 x78 x79 x80 x81 x82 x83 x84 x85 x86 x87 x88 x89 x90 x91 : Value) :
    Code.wp Try.prog (((Try.f8.body.map (tailsN 6)).getD []).getD 0 .skip) (bodyPost Try.prog Try.f8 fun r w' => safeEnd L ka sa fr to r ∧ Below w.heap.size w w') ⟨List.toArray ((.slice p L.length cap : Value) :: (.int .i64 ka : Value) :: (.int .i64 sa : Value) :: (.int .i64 fr : Value) :: (.int .i64 to : Value) :: x5 :: x6 :: x7 :: x8 :: x9 :: (.int .i64 0 : Value) :: (.int .i64 0 : Value) :: (.int .i64 0 : Value) :: (.slice (some ⟨g4, 0, none⟩) M4.length c4 : Value) :: (.slice (some ⟨g5, 0, none⟩) M5.length c5 : Value) :: x15 :: x16 :: x17 :: x18 :: x19 :: x20 :: x21 :: x22 :: x23 :: x24 :: x25 :: x26 :: x27 :: x28 :: x29 :: x30 :: x31 :: x32 :: x33 :: x34 :: x35 :: x36 :: x37 :: x38 :: x39 :: x40 :: x41 :: x42 :: x43 :: x44 :: x45 :: x46 :: x47 :: x48 :: x49 :: x50 :: x51 :: x52 :: x53 :: x54 :: x55 :: x56 :: x57 :: x58 :: x59 :: x60 :: x61 :: x62 :: x63 :: x64 :: x65 :: x66 :: x67 :: x68 :: x69 :: x70 :: x71 :: x72 :: x73 :: x74 :: x75 :: x76 :: x77 :: x78 :: x79 :: x80 :: x81 :: x82 :: x83 :: x84 :: x85 :: x86 :: x87 :: x88 :: x89 :: x90 :: x91 :: []), []⟩ w3 := by
  have HD4 : Hid (∀ x ∈ M4, fr ≤ x ∧ x ≤ 4294967296) := fun x hx => raw_bound (by omega) (fun k hk => by have := right_bound HLB.out k hk; constructor <;> simp only <;> omega) x ((HM4.out x).1 hx)
  have HD5 : Hid (∀ x ∈ M5, fr ≤ x ∧ x ≤ 4294967296) := fun x hx => raw_bound (by omega) (fun k hk => by have := right_bound HLB.out k hk; constructor <;> simp only <;> omega) x ((HM5.out x).1 hx)
  conv => arg 2; whnf
  go_wp2_with fail
  go_loopw [53] (fun i wr => ∃ n : Nat, i = .int .i64 (n : Int) ∧ n ≤ M4.length ∧ Hid (∀ j (hj : j < M4.length), j < n → ∀ s ∈ M5, max M4[j] (s - ka) ≤ to → max s (M4[j] - sa) ≤ to → servedB L (max M4[j] (s - ka)) (max s (M4[j] - sa)) = true) ∧ Below w3.heap.size w3 wr) (fun i _ => M4.length - (intOf i).toNat)
  case atStart => exact ⟨0, rfl, Nat.zero_le _, (fun j _ h => absurd h (Nat.not_lt_zero _)), Below.refl _ _⟩
  case round =>
    obtain ⟨n, rfl, hn, HJ, hBr⟩ := hrel
    have HBr := hide' hBr
    by_cases hlt : n < M4.length
    · have e0 : wr.cell? ⟨g4, n, none⟩ = some (.int .i64 M4[n]) := (hBr.cell (p := ⟨g4, n, none⟩) HG.out.1).trans (HN4.out n hlt)
      have HJ2 : Hid ((∀ s ∈ M5, max M4[n] (s - ka) ≤ to → max s (M4[n] - sa) ≤ to → servedB L (max M4[n] (s - ka)) (max s (M4[n] - sa)) = true) → ∀ j (hj : j < M4.length), j < n + 1 → ∀ s ∈ M5, max M4[j] (s - ka) ≤ to → max s (M4[j] - sa) ≤ to → servedB L (max M4[j] (s - ka)) (max s (M4[j] - sa)) = true) := by
        intro h j hj hjn
        rcases Nat.lt_or_ge j n with h' | h'
        · exact HJ.out j hj h'
        · obtain rfl : j = n := by omega
          exact h
      obtain ⟨hG1, hG2⟩ := HD4.out M4[n] (List.getElem_mem hlt)
      generalize M4[n] = G at *
      clear hBr
      go_wp2_with fail
      go_loopw [59] (fun i wq => ∃ m : Nat, i = .int .i64 (m : Int) ∧ m ≤ M5.length ∧ Hid (∀ j (hj : j < M5.length), j < m → max G (M5[j] - ka) ≤ to → max M5[j] (G - sa) ≤ to → servedB L (max G (M5[j] - ka)) (max M5[j] (G - sa)) = true) ∧ Below w3.heap.size w3 wq) (fun i _ => M5.length - (intOf i).toNat)
      case atStart => exact ⟨0, rfl, Nat.zero_le _, (fun j _ h => absurd h (Nat.not_lt_zero _)), HBr.out⟩
      case round =>
        obtain ⟨m, rfl, hm, HI, hBq⟩ := hrel
        have HBq := hide' hBq
        by_cases hlm : m < M5.length
        · have e1 := (hBq.cell (p := ⟨g5, m, none⟩) HG.out.2).trans (HN5.out m hlm)
          have HI2 : Hid ((max G (M5[m] - ka) ≤ to → max M5[m] (G - sa) ≤ to → servedB L (max G (M5[m] - ka)) (max M5[m] (G - sa)) = true) → ∀ j (hj : j < M5.length), j < m + 1 → max G (M5[j] - ka) ≤ to → max M5[j] (G - sa) ≤ to → servedB L (max G (M5[j] - ka)) (max M5[j] (G - sa)) = true) := by
            intro h j hj hjn
            rcases Nat.lt_or_ge j m with h' | h'
            · exact HI.out j hj h'
            · obtain rfl : j = m := by omega
              exact h
          obtain ⟨hS1, hS2⟩ := HD5.out M5[m] (List.getElem_mem hlm)
          have HCV := hide' (fun W hb => canVerify_any L p cap (max G (M5[m] - ka)) (max M5[m] (G - sa)) W (by omega) (TsAt.below HAT.out hb))
          generalize M5[m] = S at *
          clear hBq
          have HBW := hide' (bstep HB3.out HBq.out HB3.out.size)
          by_cases ha : max G (S - ka) ≤ to
          · by_cases hb : max S (G - sa) ≤ to
            · obtain ⟨v, hv⟩ : ∃ v, servedB L (max G (S - ka)) (max S (G - sa)) = v := ⟨_, rfl⟩
              have HV := hide' hv
              rw [hv] at HCV HI2
              clear hv
              cases v with
              | true =>
                go_wp2_with (go_at_call 26; refine (HCV.out _ HBW.out).mono ?_; rintro r1 w1 ⟨rfl, hB1⟩)
                exact ⟨⟨m + 1, by go_num, by omega, HI2.out (fun _ _ => trivial), bstep HBq.out hB1 HBq.out.size⟩, by simp [intOf]; omega⟩
              | false =>
                go_wp2_with (go_at_call 26; refine (HCV.out _ HBW.out).mono ?_; rintro r1 w1 ⟨rfl, hB1⟩)
                refine bodyPost_ret (v := .tuple #[.int .i64 (max G (S - ka)), .int .i64 (max S (G - sa)), .int .i64 25]) (by simp [results, go_sem]) rfl ?_
                exact ⟨.inr (.inr (.inl ⟨HARG.out, HLB.out, _, _, rfl, by omega, by omega, by omega, by omega, by omega, by omega, HV.out⟩)), bstep HBW.out hB1 HBW.out.size⟩
            · go_wp2_with fail
              exact ⟨⟨m + 1, by go_num, by omega, HI2.out (fun _ h => absurd h hb), HBq.out⟩, by simp [intOf]; omega⟩
          · go_wp2_with fail
            exact ⟨⟨m + 1, by go_num, by omega, HI2.out (fun h _ => absurd h ha), HBq.out⟩, by simp [intOf]; omega⟩
        · obtain rfl : m = M5.length := by omega
          have HI3 := hide' (HJ2.out (fun s hs h1 h2 => by
            obtain ⟨j, hj, rfl⟩ := List.getElem_of_mem hs
            exact HI.out j hj hj h1 h2))
          go_wp2_with fail
          exact ⟨⟨n + 1, by go_num, by omega, HI3.out, HBq.out⟩, by simp [intOf]; omega⟩
    · obtain rfl : n = M4.length := by omega
      go_wp2_with fail
      refine bodyPost_ret (v := .tuple #[.int .i64 0, .int .i64 0, .int .i64 0]) (by simp [results, go_sem]) rfl ?_
      exact ⟨.inr (.inr (.inr ⟨HARG.out, HLB.out, rfl, safe_enough L ka sa fr to M4 M5 HM4.out HM5.out (fun g hg s hs h1 h2 => by
        obtain ⟨j, hj, rfl⟩ := List.getElem_of_mem hg
        exact HJ.out j hj hj s hs h1 h2)⟩)), bstep HB3.out HBr.out HB3.out.size⟩
end Go.Proofs.Ytjnhkiibnmbmfaa
