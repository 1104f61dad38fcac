import Derived.Test.YtbcefnfbofpjgaaCnt
import Derived.Test.YtbcefnfbofpjgaaMath6
namespace Go.Proofs.Ytbcefnfbofpjgaa
set_option linter.unusedVariables false
open Go.RowKit Go.Shelf Nm

theorem ext_t {a b c : World} (h : Below a.heap.size a b) (k : Below b.heap.size b c) : Below a.heap.size a c := h.trans (k.mono h.size)
theorem small_max {n : Nat} (h : n ≤ 1048576) : n ≤ maxLen := by unfold maxLen; omega
theorem tail_max (s : ByteArray) (k : Int) : (tailB s k).size ≤ maxLen := small_max (by have := tailB_size s k; omega)
theorem tail_small (s : ByteArray) (k : Int) : (tailB s k).size ≤ 1048576 := by have := tailB_size s k; omega

theorem addr_add (g off d : Nat) : Addr.add ⟨g, off, none⟩ d = ⟨g, off + d, none⟩ := by unfold Addr.add; split <;> simp_all
theorem strs_drop1 {w : World} {p : Option Addr} {l : List ByteArray} (h : StrsAt w p l) (d cap : Nat) : Strs w (.slice (Option.map (fun x => x.add d) p) (l.length - d) cap) (l.drop d) := by
  refine ⟨_, cap, by rw [List.length_drop], fun j hj => ?_⟩
  rw [List.length_drop] at hj
  obtain ⟨g, off, rfl, hg, hc⟩ := h (d + j) (by omega)
  refine ⟨g, off + d, by simp [addr_add], hg, ?_⟩
  rw [List.getElem_drop, Nat.add_assoc]; exact hc
theorem strs_drop0 {w : World} {p : Option Addr} {l : List ByteArray} {d : Nat} (h : l.length ≤ d) (cap : Nat) : Strs w (.slice p (l.length - d) cap) (l.drop d) :=
  ⟨p, cap, by rw [List.length_drop], fun j hj => by rw [List.length_drop] at hj; omega⟩

/-- name.Equal -/
theorem equal_any (a b : ByteArray) (w : World) (ha : a.size ≤ maxLen) (hb : b.size ≤ maxLen) :
    Calls Try.prog 14 #[.string a, .string b] w fun e w' => e = .returned (.bool (eqB a b)) ∧ Below w.heap.size w w' := by
  cases hN : isN a with
  | false =>
    have HE : Hid (eqB a b = false) := by unfold Hid eqB; rw [hN]; rfl
    go_enter Try.func14, Try.ntmps14
    go_wp2_with (go_at_call 41; refine (isName_any _ _ ha).mono ?_; rintro e w1 ⟨rfl, hB1⟩)
    go_ret
    exact ⟨by rw [HE.out]; rfl, hB1⟩
  | true =>
    have HE : Hid (eqB a b = ((foldB a).toList == (foldB b).toList)) := by unfold Hid eqB; rw [hN]; rfl
    go_enter Try.func14, Try.ntmps14
    go_wp2_with (first
      | (go_at_call 41; refine (isName_any _ _ ha).mono ?_; rintro e w1 ⟨rfl, hB1⟩)
      | (go_at_call 12; refine (fold_any _ _ (by assumption)).mono ?_; rintro e w2 ⟨rfl, hB2⟩; have hB1 := ext_t hB1 hB2; clear hB2))
    go_ret
    refine ⟨by rw [HE.out]; rfl, ?_⟩
    assumption

/-- gazetteerref1.EqualName -/
theorem equalName_any (a b : ByteArray) (w : World) (ha : a.size ≤ 1048576) (hb : b.size ≤ 1048576) :
    Calls Try.prog 15 #[.string a, .string b] w fun e w' => e = .returned (.bool (eqB a b)) ∧ Below w.heap.size w w' := by
  have HE : Hid ((isN a && isN b && ((foldB a).toList == (foldB b).toList)) = eqB a b) := eqB_ref a b
  have hB0 := Below.refl w.heap.size w
  cases hN : isN a with
  | false =>
    rw [hN] at HE
    go_enter Try.func15, Try.ntmps15
    go_wp2_with (go_at_call 24; refine (refIsName_any _ _ (by assumption)).mono ?_; rintro e w1 ⟨rfl, hB1⟩; have hB0 := ext_t hB0 hB1; clear hB1)
    go_ret
    refine ⟨by rw [← HE.out]; rfl, ?_⟩
    assumption
  | true =>
    cases hM : isN b with
    | false =>
      rw [hN, hM] at HE
      go_enter Try.func15, Try.ntmps15
      go_wp2_with (go_at_call 24; refine (refIsName_any _ _ (by assumption)).mono ?_; rintro e w1 ⟨rfl, hB1⟩; have hB0 := ext_t hB0 hB1; clear hB1)
      go_ret
      refine ⟨by rw [← HE.out]; rfl, ?_⟩
      assumption
    | true =>
      rw [hN, hM] at HE
      go_enter Try.func15, Try.ntmps15
      go_wp2_with (first
        | (go_at_call 24; refine (refIsName_any _ _ (by assumption)).mono ?_; rintro e w1 ⟨rfl, hB1⟩; have hB0 := ext_t hB0 hB1; clear hB1)
        | (go_at_call 13; refine (foldName_any _ _ (by assumption)).mono ?_; rintro e w1 ⟨rfl, hB1⟩; have hB0 := ext_t hB0 hB1; clear hB1))
      go_ret
      refine ⟨by rw [← HE.out]; rfl, ?_⟩
      assumption

/-- name.Within -/
theorem within_any (n z : ByteArray) (w : World) (hn : n.size ≤ maxLen) (hz : z.size ≤ maxLen) :
    Calls Try.prog 18 #[.string n, .string z] w fun e w' => e = .returned (.bool (withinB n z)) ∧ Below w.heap.size w w' := by
  have hB0 := Below.refl w.heap.size w
  go_enter Try.func18, Try.ntmps18
  go_wp2_with (first
    | (go_at_call 28; refine (count_any _ _ hz).mono ?_; rintro e w1 ⟨rfl, hB1⟩; have hB0 := ext_t hB0 hB1; clear hB1)
    | (go_at_call 32; refine (tail_any _ _ _ hn).mono ?_; rintro e w1 ⟨rfl, hB1⟩; have hB0 := ext_t hB0 hB1; clear hB1)
    | (go_at_call 14; refine (equal_any _ _ _ (tail_max _ _) hz).mono ?_; rintro e w1 ⟨rfl, hB1⟩; have hB0 := ext_t hB0 hB1; clear hB1))
  go_ret
  refine ⟨rfl, ?_⟩
  assumption

/-- gazetteerref1.Count -/
theorem refCount_any (s : ByteArray) (w : World) (hs : s.size ≤ 1048576) :
    Calls Try.prog 29 #[.string s] w fun e w' => e = .returned (.int .i64 (cntI s)) ∧ Below w.heap.size w w' := by
  cases hN : isN s with
  | false =>
    have HC : Hid (cntI s = -1) := cntI_no hN
    go_enter Try.func29, Try.ntmps29
    go_wp2_with (go_at_call 23; refine (split_no s _ hs hN).mono ?_; rintro e w1 ⟨v, rfl, hB1⟩)
    go_ret
    exact ⟨by rw [HC.out]; rfl, hB1⟩
  | true =>
    have HC : Hid (cntI s = ((labs s).length : Nat)) := cntI_yes hN
    go_enter Try.func29, Try.ntmps29
    go_wp2_with (go_at_call 23; refine (split_yes s _ hs hN).mono ?_; rintro e w1 ⟨p, cap, rfl, ⟨hc, hcap, hcap2, _⟩, hB1⟩)
    go_ret
    exact ⟨by rw [HC.out]; rfl, hB1⟩

set_option maxRecDepth 100000 in
set_option maxHeartbeats 1000000 in
/-- gazetteerref1.Tail -/
theorem refTail_any (s : ByteArray) (k : Int) (w : World) (hs : s.size ≤ 1048576) :
    Calls Try.prog 33 #[.string s, .int .i64 k] w fun e w' => e = .returned (.string (tailB s k)) ∧ Below w.heap.size w w' := by
  cases hN : isN s with
  | false =>
    have HT : Hid (tailB s k = ByteArray.empty) := tailB_no (fun h => by rw [hN] at h; cases h.1)
    go_enter Try.func33, Try.ntmps33
    go_wp2_with (go_at_call 23; refine (split_no s _ hs hN).mono ?_; rintro e w1 ⟨v, rfl, hB1⟩)
    go_ret
    exact ⟨by rw [HT.out]; rfl, hB1⟩
  | true =>
    by_cases hk0 : k < 0
    · have HT : Hid (tailB s k = ByteArray.empty) := tailB_no (fun h => by omega)
      go_enter Try.func33, Try.ntmps33
      go_wp2_with (go_at_call 23; refine (split_yes s _ hs hN).mono ?_; rintro e w1 ⟨p, cap, rfl, ⟨hc, hcap, hcap2, _⟩, hB1⟩)
      go_ret
      exact ⟨by rw [HT.out]; rfl, hB1⟩
    · by_cases hkl : ((labs s).length : Int) < k
      · have HT : Hid (tailB s k = ByteArray.empty) := tailB_no (fun h => by omega)
        have hk0' : 0 ≤ k := by omega
        go_enter Try.func33, Try.ntmps33
        go_wp2_with (go_at_call 23; refine (split_yes s _ hs hN).mono ?_; rintro e w1 ⟨p, cap, rfl, ⟨hc, hcap, hcap2, _⟩, hB1⟩)
        go_ret
        exact ⟨by rw [HT.out]; rfl, hB1⟩
      · obtain ⟨q, rfl⟩ := Int.eq_ofNat_of_zero_le (show 0 ≤ k by omega)
        have hq : q ≤ (labs s).length := by omega
        have hl := labs_len_le hN
        obtain ⟨t1, t2, t3⟩ := tailB_yes hN hq
        have HT : Hid (tailB s q = putB ((labs s).drop ((labs s).length - q))) := t3
        have HZ : Hid ((putB ((labs s).drop ((labs s).length - q))).size ≤ 4294967296) := by
          unfold Hid; rw [← t3]; have := tailB_size s q; omega
        have HO : Hid (∀ x ∈ (labs s).drop ((labs s).length - q), x.size ≤ 255) := fun x hx => by have := (okL_labs s).drop _ x hx; omega
        clear t1 t2 t3 hk0 hkl
        obtain ⟨d, hd, HD, hd2⟩ : ∃ d : Nat, ((labs s).length : Int) - (q : Int) = (d : Int) ∧ Hid ((labs s).length - q = d) ∧ d ≤ (labs s).length := ⟨(labs s).length - q, by omega, rfl, by omega⟩
        go_enter Try.func33, Try.ntmps33
        rw [HD.out] at HZ HO HT
        go_wp2_with (first
          | (go_at_call 23; refine (split_yes s _ hs hN).mono ?_; rintro e w1 ⟨p, cap, rfl, ⟨hc, hcap, hcap2, _⟩, hB1⟩)
          | (go_at_call 47; refine (put_any _ ((labs s).drop d) _ (by first | exact strs_drop1 hc d _ | exact strs_drop0 (by omega) _) HO.out HZ.out).mono ?_; rintro e w2 ⟨rfl, hB2⟩))
        all_goals
          go_ret
          exact ⟨by rw [HT.out]; rfl, ext_t hB1 hB2⟩
end Go.Proofs.Ytbcefnfbofpjgaa
