import Derived.Test.YtfofdcacikbflaaRf3
namespace Go.Proofs.Ytfofdcacikbflaa
set_option linter.unusedVariables false
open Go.RowKit Go.Shelf Go.Proofs.Ytfofdcacikbflaa.Nm

set_option maxRecDepth 100000 in
/-- gazetteerref1.To32 -/
theorem refTo32_any (b : ByteArray) (w : World) (hb : b.size ≤ 1048576) :
    Calls Try.prog 17 #[.string b] w fun e w' => e = .returned (.string (to32B b)) ∧ Below w.heap.size w w' := by
  have H1 := hide' (fun w => bits_any b w hb)
  have hlen : (bitsL 8 (lst b b.size)).length = 8 * b.size := by rw [bitsL_len, lst_len]
  have H2 := hide' (fun p cap w hat hlc hc => coded5 p cap (bitsL 8 (lst b b.size)) d32 w hat (by omega) hlc hc (bitsL_bin 8 _) d32_size)
  clear hlen
  go_enter Try.func17, Try.ntmps17
  go_wp2_with (first
    | (go_at_call 38; refine (H1.out _).mono ?_; rintro e w1 ⟨v, rfl, hown, hB1⟩; obtain ⟨p, c, rfl, hat, h1, h2⟩ := NumsAt.of_owns hown rfl)
    | (go_at_call 37; refine (H2.out p c _ hat h1 h2).mono ?_; rintro e w2 ⟨rfl, hB2⟩))
  go_ret
  exact ⟨rfl, bstep hB1 hB2 hB1.size⟩

set_option maxRecDepth 100000 in
/-- gazetteerref1.From32 -/
theorem refFrom32_any (s : ByteArray) (w : World) (hs : s.size ≤ 1048576) :
    Calls Try.prog 15 #[.string s] w fun e w' => e = fromEnd (fromB 5 d32 (lowB s)) ∧ Below w.heap.size w w' := by
  have HL := hide' (fun w => low_any s w hs)
  have hz : (lowB s).size ≤ 4194304 := by rw [lowB_size]; omega
  have H1 := hide' (fun w => spread5 (lowB s) d32 w hz d32_size)
  generalize hT : lowB s = T at *
  have hTn : (bitsL 5 ((lst T T.size).map (ixv d32))).length = 5 * T.size := by rw [bitsL_len, List.length_map, lst_len]
  have H2 := hide' (fun p c w hat hlc hc => whole_any p c 5 (bitsL 5 ((lst T T.size).map (ixv d32))) w hat (by omega) hlc hc (bitsL_bin 5 _) (by omega))
  rw [hTn] at H2
  clear hT hTn
  go_enter Try.func15, Try.ntmps15
  go_wp2_with (go_at_call 34; refine (HL.out _).mono ?_; rintro e w1 ⟨rfl, hB1⟩)
  refine (H1.out _).mono ?_
  rintro e w2 ⟨(⟨⟨j, hj, hn⟩, rfl⟩ | ⟨hg, p, c, rfl, hat, h1, h2⟩), hB2⟩
  · have HF : Hid (fromB 5 d32 T = none) := fromB_bad hj hn
    clear hn
    go_wp2
    go_ret2
    exact ⟨by rw [HF.out]; rfl, bstep hB1 hB2 hB1.size⟩
  · have HG := hide' hg
    clear hg
    go_wp2_with fail
    refine (H2.out p c _ hat h1 h2).mono ?_
    rintro e w3 ⟨⟨P, rem, m, hA, hP, hr, rfl⟩, hB3⟩
    have HFE := fromB_end (W := 5) HG.out hA hP hr
    clear hA hP H2 H1 hat
    by_cases hv : val rem = 0 ∧ rem.length < 5
    · have HF : Hid (fromB 5 d32 T = some (codeP 8 P)) := by unfold Hid; rw [HFE, if_pos ⟨hv.2, hv.1⟩]
      rw [decide_eq_true hv, if_pos hv.1]
      clear HFE hv
      go_wp2
      go_ret2
      exact ⟨by rw [HF.out]; rfl, bstep (bstep hB1 hB2 hB1.size) hB3 (Nat.le_trans hB1.size hB2.size)⟩
    · have HF : Hid (fromB 5 d32 T = none) := by unfold Hid; rw [HFE, if_neg (fun h => hv ⟨h.2, h.1⟩)]
      rw [decide_eq_false hv]
      generalize (if val rem = 0 then bts (codeP 8 P) else ByteArray.empty) = Z
      clear HFE hv
      go_wp2
      go_ret2
      exact ⟨by rw [HF.out]; rfl, bstep (bstep hB1 hB2 hB1.size) hB3 (Nat.le_trans hB1.size hB2.size)⟩

set_option maxRecDepth 100000 in
theorem base32_walk (d t : ByteArray) (w : World) (hd : d.size ≤ 1048576) (ht : t.size ≤ 1048576) :
    Calls Try.prog 4 #[.string d, .string t] w fun e w' => e = .returned (.bool true) ∧ Below w.heap.size w w' := by
  have H1 := hide' (fun w => from32_any t w (by omega))
  have H2 := hide' (fun w => refFrom32_any t w ht)
  cases hf : fromB 5 d32 (lowB t) with
  | none =>
    rw [hf] at H1 H2
    go_enter Try.func4, Try.ntmps4
    go_wp2_with (first
      | (go_at_call 14; refine (H1.out _).mono ?_; rintro e w1 ⟨rfl, hB1⟩; simp only [fromEnd])
      | (go_at_call 15; refine (H2.out _).mono ?_; rintro e w2 ⟨rfl, hB2⟩; simp only [fromEnd])
      | (go_at_call 16; refine (to32_any d _ hd).mono ?_; rintro e w3 ⟨rfl, hB3⟩)
      | (go_at_call 17; refine (refTo32_any d _ hd).mono ?_; rintro e w4 ⟨rfl, hB4⟩))
    go_ret
    refine ⟨by first | rfl | simp, ?_⟩
    exact bstep (bstep (bstep hB1 hB2 hB1.size) hB3 (Nat.le_trans hB1.size hB2.size)) hB4 (Nat.le_trans (Nat.le_trans hB1.size hB2.size) hB3.size)
  | some l =>
    rw [hf] at H1 H2
    go_enter Try.func4, Try.ntmps4
    go_wp2_with (first
      | (go_at_call 14; refine (H1.out _).mono ?_; rintro e w1 ⟨rfl, hB1⟩; simp only [fromEnd])
      | (go_at_call 15; refine (H2.out _).mono ?_; rintro e w2 ⟨rfl, hB2⟩; simp only [fromEnd])
      | (go_at_call 16; refine (to32_any d _ hd).mono ?_; rintro e w3 ⟨rfl, hB3⟩)
      | (go_at_call 17; refine (refTo32_any d _ hd).mono ?_; rintro e w4 ⟨rfl, hB4⟩))
    go_ret
    refine ⟨by first | rfl | simp, ?_⟩
    exact bstep (bstep (bstep hB1 hB2 hB1.size) hB3 (Nat.le_trans hB1.size hB2.size)) hB4 (Nat.le_trans (Nat.le_trans hB1.size hB2.size) hB3.size)
end Go.Proofs.Ytfofdcacikbflaa
