import Derived.Test.YtipifhifjbenlaaGreatCmpG
import Derived.Test.YtipifhifjbenlaaGreatLowG
/-
  Chapter 8: Covers of both. (The verifier's own text.)
-/
namespace Go.Proofs.YtipifhifjbenlaaGreat
set_option linter.unusedVariables false
set_option linter.unusedSimpArgs false
open Go.RowKit Go.Shelf Go.Proofs.YtipifhifjbenlaaGreat.Nm

/-- does n come between? -/
def btwB (o x n : ByteArray) : Bool := bif decide (cmpB o x < 0) then (decide (cmpB o n < 0) && decide (cmpB n x < 0)) else (decide (cmpB o n < 0) || decide (cmpB n x < 0))
def covB (o x n : ByteArray) : Bool := isN o && (isN x && (isN n && btwB o x n))
theorem strs3 (o x n : ByteArray) (w : World) (T : TypeId) : StrsAt (w.alloc (.cells #[.string o, .string x, .string n] T)) (some ⟨w.heap.size, 0, none⟩) [o, x, n] := by
  intro j hj
  refine ⟨w.heap.size, 0, rfl, by simp, ?_⟩
  unfold World.cell?
  rw [World.alloc_heap_new]
  match j, hj with
  | 0, _ => rfl
  | 1, _ => rfl
  | 2, _ => rfl
set_option maxRecDepth 100000 in
set_option maxHeartbeats 1000000 in
/-- proof.between, with name.Compare -/
theorem between_any (o x n : ByteArray) (w : World) (ho : o.size ≤ maxLen) (hx : x.size ≤ maxLen) (hn : n.size ≤ maxLen) :
    Calls Tryz.prog 140 #[.string o, .string x, .string n, .func (Fn.func 141) #[] #[]] w fun e w' => e = .returned (.bool (btwB o x n)) ∧ Below w.heap.size w w' := by
  have H1 := hide' (fun W => compare_any o n W ho hn)
  have H2 := hide' (fun W => compare_any n x W hn hx)
  have H3 := hide' (fun W => compare_any o x W ho hx)
  unfold btwB
  generalize cmpB o n = A at *
  generalize cmpB n x = B at *
  generalize cmpB o x = C at *
  go_enter Tryz.func140, Tryz.ntmps140
  by_cases c3 : C < 0
  all_goals by_cases c1 : A < 0
  all_goals by_cases c2 : B < 0
  all_goals
    go_wp2_with (first
      | (go_at_call 141; with_reducible refine (H1.out _).mono ?_; rintro r1 w1 ⟨rfl, hB1⟩)
      | (go_at_call 141; with_reducible refine (H2.out _).mono ?_; rintro r2 w2 ⟨rfl, hB2⟩)
      | (go_at_call 141; with_reducible refine (H3.out _).mono ?_; rintro r3 w3 ⟨rfl, hB3⟩))
    go_ret
    exact ⟨by first | (have q : decide (C < 0) = true := decide_eq_true (by omega); simp [q] <;> omega) | (have q : decide (C < 0) = false := decide_eq_false (by omega); simp [q] <;> omega), bstep (bstep hB1 hB2 hB1.size) hB3 (Nat.le_trans hB1.size hB2.size)⟩
set_option maxRecDepth 100000 in
set_option maxHeartbeats 1000000 in
/-- proof.Covers -/
theorem covers_any (o x n : ByteArray) (w : World) (ho : o.size ≤ 1048576) (hx : x.size ≤ 1048576) (hn : n.size ≤ 1048576) :
    Calls Tryz.prog 135 #[.string o, .string x, .string n] w fun e w' => e = .returned (.bool (covB o x n)) ∧ Below w.heap.size w w' := by
  have HT := hide' (fun W => between_any o x n W (small_max ho) (small_max hx) (small_max hn))
  have HL := hide' (strs3 o x n w 9)
  have HB := hide' ((Below.refl w.heap.size w).alloc (Nat.le_refl _) (.cells #[.string o, .string x, .string n] 9))
  have HNO : Hid (∀ j (hj : j < [o, x, n].length), isN [o, x, n][j] = false → covB o x n = false) := by
    intro j hj h
    match j, hj with
    | 0, _ => have h : isN o = false := h; unfold covB; rw [h]; rfl
    | 1, _ => have h : isN x = false := h; unfold covB; rw [h]; cases isN o <;> rfl
    | 2, _ => have h : isN n = false := h; unfold covB; rw [h]; cases isN o <;> cases isN x <;> rfl
  have HYES : Hid ((∀ j (hj : j < [o, x, n].length), isN [o, x, n][j] = true) → covB o x n = btwB o x n) := by
    intro h
    have h0 : isN o = true := h 0 (by simp)
    have h1 : isN x = true := h 1 (by simp)
    have h2 : isN n = true := h 2 (by simp)
    unfold covB
    rw [h0, h1, h2]
    rfl
  have HC : Hid (∀ j (hj : j < [o, x, n].length) (W : World), Calls Tryz.prog 61 #[.string [o, x, n][j]] W fun e W' => e = .returned (.int .i64 (chk [o, x, n][j])) ∧ Below W.heap.size W W') := fun j hj W => check_any _ W (by
    match j, hj with
    | 0, _ => exact small_max ho
    | 1, _ => exact small_max hx
    | 2, _ => exact small_max hn)
  have hlen : [o, x, n].length = 3 := rfl
  generalize [o, x, n] = L at *
  generalize covB o x n = R at *
  generalize btwB o x n = T at *
  go_enter Tryz.func135, Tryz.ntmps135
  go_wp2_with fail
  go_loopw [14] (fun i wr => ∃ k : Nat, i = .int .i64 (k : Int) ∧ k ≤ 3 ∧ Hid (∀ j (hj : j < L.length), j < k → isN L[j] = true) ∧ Below (w.heap.size + 1) (w.alloc (.cells #[.string o, .string x, .string n] 9)) wr) (fun i _ => 3 - (intOf i).toNat)
  case atStart => exact ⟨0, rfl, Nat.zero_le _, (fun j _ h => absurd h (Nat.not_lt_zero _)), Below.refl _ _⟩
  case round =>
    obtain ⟨k, rfl, hk, HN, hBr⟩ := hrel
    have HBr := hide' hBr
    have HBw : Hid (Below w.heap.size w wr) := bstep HB.out (by rw [World.size_alloc]; exact hBr) HB.out.size
    have hsz : w.heap.size + 1 ≤ wr.heap.size := by have := hBr.size; rw [World.size_alloc] at this; exact this
    by_cases hlt : k < 3
    · have hk' : k < L.length := by omega
      obtain ⟨g, off, hp, hg, hcell⟩ := HL.out.below (by rw [World.size_alloc]; exact hBr) k hk'
      obtain ⟨rfl, rfl⟩ : w.heap.size = g ∧ 0 = off := by simpa using hp
      rw [Nat.zero_add] at hcell
      have HCk := hide' (HC.out k hk')
      have HNOk := hide' (HNO.out k hk')
      have HNX : Hid (isN L[k] = true → ∀ j (hj : j < L.length), j < k + 1 → isN L[j] = true) := by
        intro h j hj hjk
        rcases Nat.lt_or_ge j k with h' | h'
        · exact HN.out j hj h'
        · obtain rfl : j = k := by omega
          exact h
      generalize L[k] = s at *
      clear hBr hp
      cases hs : isN s with
      | true =>
        have HX := hide' (HNX.out hs)
        have hc : chk s = 0 := by unfold chk; rw [if_pos hs]
        rw [hc] at HCk
        clear hc hs
        go_wp2_with (go_at_call 61; refine (HCk.out _).mono ?_; rintro r1 w1 ⟨rfl, hB1⟩)
        refine ⟨⟨k + 1, by go_num, by omega, HX.out, ?_⟩, by simp [intOf]; omega⟩
        exact bstep HBr.out hB1 (by omega)
      | false =>
        have HX : Hid (R = false) := HNOk.out hs
        have hc : chk s = 1 := by unfold chk; rw [if_neg (by rw [hs]; decide)]
        rw [hc] at HCk
        clear hc hs
        go_wp2_with (go_at_call 61; refine (HCk.out _).mono ?_; rintro r1 w1 ⟨rfl, hB1⟩)
        go_ret
        exact ⟨by rw [HX.out]; rfl, bstep HBw.out hB1 HBw.out.size⟩
    · obtain rfl : k = 3 := by omega
      have HX : Hid (R = T) := HYES.out (fun j hj => HN.out j hj (by omega))
      clear hBr
      go_wp2_with (go_at_call 140; refine (HT.out _).mono ?_; rintro r1 w1 ⟨rfl, hB1⟩)
      go_ret
      exact ⟨by rw [HX.out]; rfl, bstep HBw.out hB1 HBw.out.size⟩
set_option maxRecDepth 100000 in
set_option maxHeartbeats 1000000 in
/-- the reference's Covers -/
theorem refCovers_any (o x n : ByteArray) (w : World) (ho : o.size ≤ 1048576) (hx : x.size ≤ 1048576) (hn : n.size ≤ 1048576) :
    Calls Tryz.prog 40 #[.string o, .string x, .string n] w fun e w' => e = .returned (.bool (covB o x n)) ∧ Below w.heap.size w w' := by
  have H1 := hide' (fun W => refCompare_any o n W ho hn)
  have H2 := hide' (fun W => refCompare_any n x W hn hx)
  have H3 := hide' (fun W => refCompare_any o x W ho hx)
  have N1 := hide' (fun W => refIsName_any o W ho)
  have N2 := hide' (fun W => refIsName_any x W hx)
  have N3 := hide' (fun W => refIsName_any n W hn)
  unfold covB btwB
  generalize cmpB o n = A at *
  generalize cmpB n x = B at *
  generalize cmpB o x = C at *
  generalize isN o = b1 at *
  generalize isN x = b2 at *
  generalize isN n = b3 at *
  have hB0 := Below.refl w.heap.size w
  go_enter Tryz.func40, Tryz.ntmps40
  cases b1 with
  | false =>
    go_wp2_with (go_at_call 50; with_reducible refine (N1.out _).mono ?_; rintro r1 w1 ⟨rfl, hB1⟩; have hB0 := ext_t hB0 hB1; clear hB1)
    go_ret
    exact ⟨rfl, hB0⟩
  | true =>
    cases b2 with
    | false =>
      go_wp2_with (first
        | (go_at_call 50; with_reducible refine (N1.out _).mono ?_; rintro r1 w1 ⟨rfl, hB1⟩; have hB0 := ext_t hB0 hB1; clear hB1)
        | (go_at_call 50; with_reducible refine (N2.out _).mono ?_; rintro r1 w1 ⟨rfl, hB1⟩; have hB0 := ext_t hB0 hB1; clear hB1))
      go_ret
      exact ⟨rfl, by assumption⟩
    | true =>
      cases b3 with
      | false =>
        go_wp2_with (first
          | (go_at_call 50; with_reducible refine (N1.out _).mono ?_; rintro r1 w1 ⟨rfl, hB1⟩; have hB0 := ext_t hB0 hB1; clear hB1)
          | (go_at_call 50; with_reducible refine (N2.out _).mono ?_; rintro r1 w1 ⟨rfl, hB1⟩; have hB0 := ext_t hB0 hB1; clear hB1)
          | (go_at_call 50; with_reducible refine (N3.out _).mono ?_; rintro r1 w1 ⟨rfl, hB1⟩; have hB0 := ext_t hB0 hB1; clear hB1))
        go_ret
        exact ⟨rfl, by assumption⟩
      | true =>
        by_cases c3 : C < 0
        all_goals by_cases c1 : A < 0
        all_goals by_cases c2 : B < 0
        all_goals
          go_wp2_with (first
            | (go_at_call 50; with_reducible refine (N1.out _).mono ?_; rintro r1 w1 ⟨rfl, hB1⟩; have hB0 := ext_t hB0 hB1; clear hB1)
            | (go_at_call 50; with_reducible refine (N2.out _).mono ?_; rintro r1 w1 ⟨rfl, hB1⟩; have hB0 := ext_t hB0 hB1; clear hB1)
            | (go_at_call 50; with_reducible refine (N3.out _).mono ?_; rintro r1 w1 ⟨rfl, hB1⟩; have hB0 := ext_t hB0 hB1; clear hB1)
            | (go_at_call 60; with_reducible refine (H1.out _).mono ?_; rintro r1 w1 ⟨rfl, hB1⟩; have hB0 := ext_t hB0 hB1; clear hB1)
            | (go_at_call 60; with_reducible refine (H2.out _).mono ?_; rintro r2 w2 ⟨rfl, hB2⟩; have hB0 := ext_t hB0 hB2; clear hB2)
            | (go_at_call 60; with_reducible refine (H3.out _).mono ?_; rintro r3 w3 ⟨rfl, hB3⟩; have hB0 := ext_t hB0 hB3; clear hB3))
          go_ret
          exact ⟨by first | (have q : decide (C < 0) = true := decide_eq_true (by omega); simp [q] <;> omega) | (have q : decide (C < 0) = false := decide_eq_false (by omega); simp [q] <;> omega), by assumption⟩
end Go.Proofs.YtipifhifjbenlaaGreat
