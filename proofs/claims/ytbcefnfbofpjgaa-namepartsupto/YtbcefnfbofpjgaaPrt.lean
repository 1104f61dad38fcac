import Derived.Test.YtbcefnfbofpjgaaRCm
import Derived.Test.YtbcefnfbofpjgaaMath12
namespace Go.Proofs.Ytbcefnfbofpjgaa
set_option linter.unusedVariables false
open Go.RowKit Go.Shelf Nm

theorem owns_one (w : World) (t : TypeId) (u : Value) : (w.alloc (.cells #[u] t)).ownsRow w.heap.size t 1 (.slice (some ⟨w.heap.size, 0, none⟩) 1 1) 1 [u] :=
  ⟨rfl, .inr ⟨w.heap.size, 1, #[u], rfl, Nat.le_refl _, World.alloc_heap_new w _, Nat.le_refl _, by unfold maxLen; omega, rfl, rfl⟩⟩

/-- name.Parent -/
theorem parent_any (s : ByteArray) (w : World) (hm : s.size ≤ maxLen) :
    Calls Try.prog 30 #[.string s] w fun e w' => e = .returned (.string (parB s)) ∧ Below w.heap.size w w' := by
  have HP : Hid (parB s = tailB s (cntI s - 1)) := rfl
  obtain ⟨c, hc, h1, h2⟩ : ∃ c : Int, cntI s = c ∧ -1 ≤ c ∧ c ≤ 254 := ⟨_, rfl, by
    cases hN : isN s with
    | false => rw [cntI_no hN]; omega
    | true => rw [cntI_yes hN]; have := labs_len_le hN; omega⟩
  have HC : Hid (cntI s = c) := hc
  clear hc
  have HP2 : Hid (parB s = tailB s (c - 1)) := by unfold Hid; rw [HP.out, HC.out]
  go_enter Try.func30, Try.ntmps30
  go_wp2_with (first
    | (go_at_call 28; refine (count_any _ _ hm).mono ?_; rintro e w1 ⟨rfl, hB1⟩; rw [HC.out])
    | (go_at_call 32; refine (tail_any _ _ _ hm).mono ?_; rintro e w2 ⟨rfl, hB2⟩))
  go_ret
  exact ⟨by rw [HP2.out]; rfl, ext_t hB1 hB2⟩

/-- gazetteerref1.Parent -/
theorem refParent_any (s : ByteArray) (w : World) (hs : s.size ≤ 1048576) :
    Calls Try.prog 31 #[.string s] w fun e w' => e = .returned (.string (parB s)) ∧ Below w.heap.size w w' := by
  cases hN : isN s with
  | false =>
    have HT : Hid (parB s = ByteArray.empty) := parB_no hN
    go_enter Try.func31, Try.ntmps31
    go_wp2_with (go_at_call 23; refine (split_no s _ hs hN).mono ?_; rintro e w1 ⟨v, rfl, hB1⟩)
    go_ret
    exact ⟨by rw [HT.out]; rfl, hB1⟩
  | true =>
    have hl := labs_len_le hN
    by_cases h0 : (labs s).length = 0
    · have HT : Hid (parB s = ByteArray.empty) := parB_root hN h0
      have h0' : (((labs s).length : Int) == 0) = true := by rw [beq_iff_eq]; omega
      clear h0
      go_enter Try.func31, Try.ntmps31
      go_wp2_with (go_at_call 23; refine (split_yes s _ hs hN).mono ?_; rintro e w1 ⟨p, cap, rfl, _, hB1⟩)
      go_ret
      exact ⟨by rw [HT.out]; rfl, hB1⟩
    · have HT : Hid (parB s = putB ((labs s).drop 1)) := parB_yes hN (by omega)
      have h0' : (((labs s).length : Int) == 0) = false := by rw [beq_eq_false_iff_ne]; omega
      have h1 : 1 ≤ (labs s).length := by omega
      have HZ : Hid ((putB ((labs s).drop 1)).size ≤ 4294967296) := by
        unfold Hid; rw [← HT.out]; unfold parB; have := tailB_size s (cntI s - 1); omega
      have HO : Hid (∀ x ∈ (labs s).drop 1, x.size ≤ 255) := fun x hx => by have := (okL_labs s).drop _ x hx; omega
      go_enter Try.func31, Try.ntmps31
      go_wp2_with (first
        | (go_at_call 23; refine (split_yes s _ hs hN).mono ?_; rintro e w1 ⟨p, cap, rfl, ⟨hc, hcap, hcap2, _⟩, hB1⟩)
        | (go_at_call 47; refine (put_any _ ((labs s).drop 1) _ (by first | exact strs_drop1 hc 1 _ | exact strs_drop0 (by omega) _) HO.out HZ.out).mono ?_; rintro e w2 ⟨rfl, hB2⟩))
      all_goals
        go_ret
        exact ⟨by rw [HT.out, List.drop_one]; rfl, ext_t hB1 hB2⟩

/-- name.Star -/
theorem star_any (s : ByteArray) (w : World) (hm : s.size ≤ maxLen) :
    Calls Try.prog 34 #[.string s] w fun e w' => e = .returned (.string (starB s)) ∧ Below w.heap.size w w' := by
  cases hN : isN s with
  | false =>
    have HT : Hid (starB s = ByteArray.empty) := starB_no (fun e => by rw [hN] at e; cases e.1)
    go_enter Try.func34, Try.ntmps34
    go_wp2_with (go_at_call 41; refine (isName_any _ _ hm).mono ?_; rintro e w1 ⟨rfl, hB1⟩)
    go_ret
    exact ⟨by rw [HT.out]; rfl, hB1⟩
  | true =>
    have hz := ((isN_iff s).1 hN).1
    by_cases h253 : s.size ≤ 253
    · have HT : Hid (starB s = ⟨#[1, 42]⟩ ++ s) := starB_yes hN h253
      go_enter Try.func34, Try.ntmps34
      go_wp2_with (go_at_call 41; refine (isName_any _ _ hm).mono ?_; rintro e w1 ⟨rfl, hB1⟩)
      go_ret
      exact ⟨by rw [HT.out]; rfl, hB1⟩
    · have HT : Hid (starB s = ByteArray.empty) := starB_no (fun e => h253 e.2)
      have h253' : 253 < s.size := by omega
      go_enter Try.func34, Try.ntmps34
      go_wp2_with (go_at_call 41; refine (isName_any _ _ hm).mono ?_; rintro e w1 ⟨rfl, hB1⟩)
      go_ret
      exact ⟨by rw [HT.out]; rfl, hB1⟩

/-- strings.HasPrefix, at the star -/
theorem hasStar_any (s : ByteArray) (w : World) (hm : s.size ≤ 255) :
    Calls Try.prog 56 #[.string s, .string ⟨#[1, 42]⟩] w fun e w' => e = .returned (.bool (decide (2 ≤ s.size) && ((s.extract 0 2).toList == [1, 42]))) ∧ w' = w := by
  by_cases h : 2 ≤ s.size
  · have HD : Hid (decide (2 ≤ s.size) = true) := decide_eq_true h
    go_enter Try.func56, Try.ntmps56
    go_wp2
    go_ret
    exact ⟨by first | rfl | (rw [HD.out]; rfl), rfl⟩
  · have HD : Hid (decide (2 ≤ s.size) = false) := decide_eq_false h
    have h' : s.size < 2 := by omega
    go_enter Try.func56, Try.ntmps56
    go_wp2
    go_ret
    exact ⟨by first | rfl | (rw [HD.out]; rfl), rfl⟩
theorem hasPrefix_any (s : ByteArray) (w : World) (hm : s.size ≤ 255) :
    Calls Try.prog 51 #[.string s, .string ⟨#[1, 42]⟩] w fun e w' => e = .returned (.bool (decide (2 ≤ s.size) && ((s.extract 0 2).toList == [1, 42]))) ∧ w' = w := by
  go_enter Try.func51, Try.ntmps51
  go_wp2_with (go_at_call 56; refine (hasStar_any _ _ hm).mono ?_; rintro e w1 ⟨rfl, rfl⟩)
  go_ret
  exact ⟨rfl, rfl⟩

/-- name.IsStar -/
theorem isStar_any (s : ByteArray) (w : World) (hm : s.size ≤ maxLen) :
    Calls Try.prog 36 #[.string s] w fun e w' => e = .returned (.bool (isStarB s)) ∧ Below w.heap.size w w' := by
  cases hN : isN s with
  | false =>
    have HT : Hid (isStarB s = false) := by unfold Hid isStarB; rw [hN]; rfl
    go_enter Try.func36, Try.ntmps36
    go_wp2_with (go_at_call 41; refine (isName_any _ _ hm).mono ?_; rintro e w1 ⟨rfl, hB1⟩)
    go_ret
    exact ⟨by rw [HT.out]; rfl, hB1⟩
  | true =>
    have hz := ((isN_iff s).1 hN).1
    have HT : Hid (isStarB s = (decide (2 ≤ s.size) && ((s.extract 0 2).toList == [1, 42]))) := by
      unfold Hid isStarB
      rw [hN, Bool.true_and]
      by_cases h2 : 2 ≤ s.size
      · rw [prefix_star h2, decide_eq_true h2]; rfl
      · rw [decide_eq_false h2, Bool.false_and, decide_eq_false_iff_not]
        rintro ⟨h0, _⟩
        have hl : (labs s).length = 0 := by
          by_cases e : (labs s).length = 0
          · exact e
          · have := isStar_long hN (by omega); omega
        have := isStar_short hN hl
        omega
    go_enter Try.func36, Try.ntmps36
    go_wp2_with (first
      | (go_at_call 41; refine (isName_any _ _ hm).mono ?_; rintro e w1 ⟨rfl, hB1⟩)
      | (go_at_call 51; refine (hasPrefix_any _ _ hz).mono ?_; rintro e w2 ⟨rfl, rfl⟩))
    go_ret
    exact ⟨by rw [HT.out]; rfl, hB1⟩

/-- gazetteerref1.IsStar -/
theorem refIsStar_any (s : ByteArray) (w : World) (hs : s.size ≤ 1048576) :
    Calls Try.prog 37 #[.string s] w fun e w' => e = .returned (.bool (isStarB s)) ∧ Below w.heap.size w w' := by
  cases hN : isN s with
  | false =>
    have HT : Hid (isStarB s = false) := by unfold Hid isStarB; rw [hN]; rfl
    go_enter Try.func37, Try.ntmps37
    go_wp2_with (go_at_call 23; refine (split_no s _ hs hN).mono ?_; rintro e w1 ⟨v, rfl, hB1⟩)
    go_ret
    exact ⟨by rw [HT.out]; rfl, hB1⟩
  | true =>
    by_cases h0 : 0 < (labs s).length
    · have HT : Hid (isStarB s = ((labs s)[0].toList == [42])) := by
        unfold Hid isStarB; rw [hN, isStar_first hN h0]; rfl
      generalize hX : (labs s)[0] = X at *
      have HX : Hid ((labs s)[0] = X) := hX
      clear hX
      go_enter Try.func37, Try.ntmps37
      go_wp2_with (go_at_call 23; refine (split_yes s _ hs hN).mono ?_; rintro e w1 ⟨p, cap, rfl, ⟨hc, hcap, hcap2, _⟩, hB1⟩; obtain ⟨g, off, rfl, hg, hcell⟩ := hc 0 h0; rw [HX.out, Nat.add_zero] at hcell)
      go_ret
      exact ⟨by rw [HT.out]; rfl, hB1⟩
    · have HT : Hid (isStarB s = false) := by
        have := isStar_short hN (by omega)
        unfold Hid isStarB; rw [hN, this.1]; rfl
      have h0' : ¬ (0 : Int) < ((labs s).length : Int) := by omega
      go_enter Try.func37, Try.ntmps37
      go_wp2_with (go_at_call 23; refine (split_yes s _ hs hN).mono ?_; rintro e w1 ⟨p, cap, rfl, ⟨hc, hcap, hcap2, _⟩, hB1⟩)
      go_ret
      exact ⟨by rw [HT.out]; rfl, hB1⟩

set_option maxRecDepth 100000 in
set_option maxHeartbeats 1000000 in
/-- gazetteerref1.Star -/
theorem refStar_any (s : ByteArray) (w : World) (hs : s.size ≤ 1048576) :
    Calls Try.prog 35 #[.string s] w fun e w' => e = .returned (.string (starB s)) ∧ Below w.heap.size w w' := by
  cases hN : isN s with
  | false =>
    have HT : Hid (starB s = ByteArray.empty) := starB_no (fun e => by rw [hN] at e; cases e.1)
    go_enter Try.func35, Try.ntmps35
    go_wp2_with (go_at_call 23; refine (split_no s _ hs hN).mono ?_; rintro e w1 ⟨v, rfl, hB1⟩)
    go_ret
    exact ⟨by rw [HT.out]; rfl, hB1⟩
  | true =>
    have hz := ((isN_iff s).1 hN).1
    by_cases h253 : s.size ≤ 253
    · have HT : Hid (starB s = putB (⟨#[42]⟩ :: labs s)) := by unfold Hid; rw [starB_yes hN h253, starB_put hN]
      have hl := labs_len_le hN
      have HZ : Hid ((putB (⟨#[42]⟩ :: labs s)).size ≤ 4294967296) := by
        unfold Hid; rw [starB_put hN, ByteArray.size_append, show (⟨#[1, 42]⟩ : ByteArray).size = 2 from rfl]; omega
      have HO : Hid (∀ x ∈ ⟨#[42]⟩ :: labs s, x.size ≤ 255) := fun x hx => by
        rcases List.mem_cons.1 hx with rfl | h
        · decide
        · have := (labs_mem h).2; omega
      go_enter Try.func35, Try.ntmps35
      go_wp2_with (first
        | (go_at_call 23; refine (split_yes s _ hs hN).mono ?_; rintro e w1 ⟨p, cap, rfl, ⟨hc, hcap, hcap2, hnone⟩, hB1⟩; have HN : Hid (p = none → cap = 0) := hnone; clear hnone)
        | (at_builtin; refine wpList_append_strs rfl _ _ rfl w1.heap.size _ 1 [.string ⟨#[42]⟩] rfl (owns_one w1 9 (.string ⟨#[42]⟩)) p (labs s) cap rfl (hc.below ((Below.refl _ _).alloc (Nat.le_refl _) _)) HN.out (by omega) (by simp) ?_; intro v5 w5 hown5 hg5; have hB5 : Below w1.heap.size w1 w5 := ((Below.refl _ _).alloc (Nat.le_refl _) _).grown hg5 (by simp) (fun k e => ownBlock_le (owns_one w1 9 (.string ⟨#[42]⟩)) e); have hst : Strs w5 v5 (⟨#[42]⟩ :: labs s) := Strs.of_owns (base := w1.heap.size) (by rw [List.length_cons, Nat.add_comm]; exact hown5))
        | (go_at_call 47; refine (put_any _ (⟨#[42]⟩ :: labs s) _ hst HO.out HZ.out).mono ?_; rintro e w6 ⟨rfl, hB6⟩))
      go_ret
      exact ⟨by rw [HT.out]; rfl, ext_t (ext_t hB1 hB5) hB6⟩
    · have HT : Hid (starB s = ByteArray.empty) := starB_no (fun e => h253 e.2)
      have h253' : 253 < s.size := by omega
      go_enter Try.func35, Try.ntmps35
      go_wp2_with (go_at_call 23; refine (split_yes s _ hs hN).mono ?_; rintro e w1 ⟨p, cap, rfl, _, hB1⟩)
      go_ret
      exact ⟨by rw [HT.out]; rfl, hB1⟩

set_option maxRecDepth 100000 in
set_option maxHeartbeats 1000000 in
/-- sameTexts, at two lists that are the same -/
theorem sameTexts_same (px py : Option Addr) (cx cy : Nat) (l : List ByteArray) (w : World) (hx : StrsAt w px l) (hy : StrsAt w py l) (hll : l.length ≤ 4294967296) :
    Calls Try.prog 25 #[.slice px l.length cx, .slice py l.length cy] w fun e w' => e = .returned (.bool true) ∧ Below w.heap.size w w' := by
  go_enter Try.func25, Try.ntmps25
  go_wp2
  go_loopw [13] (fun i wr => ∃ k : Nat, i = .int .i64 k ∧ k ≤ l.length ∧ Below w.heap.size w wr) (fun i _ => l.length - (intOf i).toNat)
  case atStart => exact ⟨0, rfl, Nat.zero_le _, Below.refl _ _⟩
  case round =>
    obtain ⟨k, rfl, hk, hB⟩ := hrel
    by_cases hlt : k < l.length
    · obtain ⟨gx, ox, rfl, hgx, hcx0⟩ := hx k hlt
      obtain ⟨gy, oy, rfl, hgy, hcy0⟩ := hy k hlt
      have hcx := (hB.cell (p := ⟨gx, ox + k, none⟩) hgx).trans hcx0
      have hcy := (hB.cell (p := ⟨gy, oy + k, none⟩) hgy).trans hcy0
      generalize l[k] = X at *
      clear hcx0 hcy0
      go_wp2
      go_quiet (fail)
      go_wp2
      all_goals
        go_roundw
        case rel => exact ⟨k + 1, by go_num, by omega, below_drewN hB _⟩
        case measure => simp [intOf]; omega
    · go_wp2
      go_ret
      exact ⟨rfl, hB⟩
end Go.Proofs.Ytbcefnfbofpjgaa
