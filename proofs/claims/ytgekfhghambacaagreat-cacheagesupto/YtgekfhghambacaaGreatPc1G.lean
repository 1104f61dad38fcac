import Derived.Test.YtgekfhghambacaaGreatCmpG
import Derived.Test.YtgekfhghambacaaGreatWkG
import Derived.Test.YtgekfhghambacaaGreatRc1G
import Derived.Test.YtgekfhghambacaaGreatAp1G
import Derived.Test.YtgekfhghambacaaGreatGr0G
import Derived.Deep.RegionHeld3
/-
  Chapter 8: Covers of both. (The verifier's own text.)
-/
namespace Go.Proofs.YtgekfhghambacaaGreat
set_option linter.unusedVariables false
set_option linter.unusedSimpArgs false
open Go.RowKit Go.Shelf Go.Proofs.YtgekfhghambacaaGreat.Nm

/-- does n come between? -/
def btwB (o x n : ByteArray) : Bool := bif decide (cmpB o x < 0) then (decide (cmpB o n < 0) && decide (cmpB n x < 0)) else (decide (cmpB o n < 0) || decide (cmpB n x < 0))
def covB (o x n : ByteArray) : Bool := isN o && (isN x && (isN n && btwB o x n))
theorem strs3 (o x n : ByteArray) (w : World) (T : TypeId) : StrsAt (w.alloc (.cells #[.string o, .string x, .string n] T)) (some ⟨w.heap.size, 0, none⟩) [o, x, n] := by
  intro j hj
  refine ⟨w.heap.size, 0, rfl, by simp, ?_⟩
  unfold World.cell?
  rw [World.alloc_heap_new]
  match j, hj with
  | 0, _ => rfl
  | 1, _ => rfl
  | 2, _ => rfl
set_option maxRecDepth 100000 in
set_option maxHeartbeats 1000000 in
/-- proof.between, with name.Compare -/
theorem between_any (o x n : ByteArray) (w : World) (ho : o.size ≤ maxLen) (hx : x.size ≤ maxLen) (hn : n.size ≤ maxLen) :
    Calls Tryz.prog 139 #[.string o, .string x, .string n, .func (Fn.func 140) #[] #[]] w fun e w' => e = .returned (.bool (btwB o x n)) ∧ Below w.heap.size w w' := by
  have H1 := hide' (fun W => compare_any o n W ho hn)
  have H2 := hide' (fun W => compare_any n x W hn hx)
  have H3 := hide' (fun W => compare_any o x W ho hx)
  unfold btwB
  generalize cmpB o n = A at *
  generalize cmpB n x = B at *
  generalize cmpB o x = C at *
  go_enter Tryz.func139, Tryz.ntmps139
  by_cases c3 : C < 0
  all_goals by_cases c1 : A < 0
  all_goals by_cases c2 : B < 0
  all_goals
    go_wp2_with (first
      | (go_at_call 140; with_reducible refine (H1.out _).mono ?_; rintro r1 w1 ⟨rfl, hB1⟩)
      | (go_at_call 140; with_reducible refine (H2.out _).mono ?_; rintro r2 w2 ⟨rfl, hB2⟩)
      | (go_at_call 140; with_reducible refine (H3.out _).mono ?_; rintro r3 w3 ⟨rfl, hB3⟩))
    go_ret
    exact ⟨by first | (have q : decide (C < 0) = true := decide_eq_true (by omega); simp [q] <;> omega) | (have q : decide (C < 0) = false := decide_eq_false (by omega); simp [q] <;> omega), bstep (bstep hB1 hB2 hB1.size) hB3 (Nat.le_trans hB1.size hB2.size)⟩
set_option maxRecDepth 100000 in
set_option maxHeartbeats 1000000 in
/-- proof.Covers -/
theorem covers_any (o x n : ByteArray) (w : World) (ho : o.size ≤ 1048576) (hx : x.size ≤ 1048576) (hn : n.size ≤ 1048576) :
    Calls Tryz.prog 134 #[.string o, .string x, .string n] w fun e w' => e = .returned (.bool (covB o x n)) ∧ Below w.heap.size w w' := by
  have HT := hide' (fun W => between_any o x n W (small_max ho) (small_max hx) (small_max hn))
  have HL := hide' (strs3 o x n w 9)
  have HB := hide' ((Below.refl w.heap.size w).alloc (Nat.le_refl _) (.cells #[.string o, .string x, .string n] 9))
  have HNO : Hid (∀ j (hj : j < [o, x, n].length), isN [o, x, n][j] = false → covB o x n = false) := by
    intro j hj h
    match j, hj with
    | 0, _ => have h : isN o = false := h; unfold covB; rw [h]; rfl
    | 1, _ => have h : isN x = false := h; unfold covB; rw [h]; cases isN o <;> rfl
    | 2, _ => have h : isN n = false := h; unfold covB; rw [h]; cases isN o <;> cases isN x <;> rfl
  have HYES : Hid ((∀ j (hj : j < [o, x, n].length), isN [o, x, n][j] = true) → covB o x n = btwB o x n) := by
    intro h
    have h0 : isN o = true := h 0 (by simp)
    have h1 : isN x = true := h 1 (by simp)
    have h2 : isN n = true := h 2 (by simp)
    unfold covB
    rw [h0, h1, h2]
    rfl
  have HC : Hid (∀ j (hj : j < [o, x, n].length) (W : World), Calls Tryz.prog 16 #[.string [o, x, n][j]] W fun e W' => e = .returned (.int .i64 (chk [o, x, n][j])) ∧ Below W.heap.size W W') := fun j hj W => check_any _ W (by
    match j, hj with
    | 0, _ => exact small_max ho
    | 1, _ => exact small_max hx
    | 2, _ => exact small_max hn)
  have hlen : [o, x, n].length = 3 := rfl
  generalize [o, x, n] = L at *
  generalize covB o x n = R at *
  generalize btwB o x n = T at *
  go_enter Tryz.func134, Tryz.ntmps134
  go_wp2_with fail
  go_loopw [14] (fun i wr => ∃ k : Nat, i = .int .i64 (k : Int) ∧ k ≤ 3 ∧ Hid (∀ j (hj : j < L.length), j < k → isN L[j] = true) ∧ Below (w.heap.size + 1) (w.alloc (.cells #[.string o, .string x, .string n] 9)) wr) (fun i _ => 3 - (intOf i).toNat)
  case atStart => exact ⟨0, rfl, Nat.zero_le _, (fun j _ h => absurd h (Nat.not_lt_zero _)), Below.refl _ _⟩
  case round =>
    obtain ⟨k, rfl, hk, HN, hBr⟩ := hrel
    have HBr := hide' hBr
    have HBw : Hid (Below w.heap.size w wr) := bstep HB.out (by rw [World.size_alloc]; exact hBr) HB.out.size
    have hsz : w.heap.size + 1 ≤ wr.heap.size := by have := hBr.size; rw [World.size_alloc] at this; exact this
    by_cases hlt : k < 3
    · have hk' : k < L.length := by omega
      obtain ⟨g, off, hp, hg, hcell⟩ := HL.out.below (by rw [World.size_alloc]; exact hBr) k hk'
      obtain ⟨rfl, rfl⟩ : w.heap.size = g ∧ 0 = off := by simpa using hp
      rw [Nat.zero_add] at hcell
      have HCk := hide' (HC.out k hk')
      have HNOk := hide' (HNO.out k hk')
      have HNX : Hid (isN L[k] = true → ∀ j (hj : j < L.length), j < k + 1 → isN L[j] = true) := by
        intro h j hj hjk
        rcases Nat.lt_or_ge j k with h' | h'
        · exact HN.out j hj h'
        · obtain rfl : j = k := by omega
          exact h
      generalize L[k] = s at *
      clear hBr hp
      cases hs : isN s with
      | true =>
        have HX := hide' (HNX.out hs)
        have hc : chk s = 0 := by unfold chk; rw [if_pos hs]
        rw [hc] at HCk
        clear hc hs
        go_wp2_with (go_at_call 16; refine (HCk.out _).mono ?_; rintro r1 w1 ⟨rfl, hB1⟩)
        refine ⟨⟨k + 1, by go_num, by omega, HX.out, ?_⟩, by simp [intOf]; omega⟩
        exact bstep HBr.out hB1 (by omega)
      | false =>
        have HX : Hid (R = false) := HNOk.out hs
        have hc : chk s = 1 := by unfold chk; rw [if_neg (by rw [hs]; decide)]
        rw [hc] at HCk
        clear hc hs
        go_wp2_with (go_at_call 16; refine (HCk.out _).mono ?_; rintro r1 w1 ⟨rfl, hB1⟩)
        go_ret
        exact ⟨by rw [HX.out]; rfl, bstep HBw.out hB1 HBw.out.size⟩
    · obtain rfl : k = 3 := by omega
      have HX : Hid (R = T) := HYES.out (fun j hj => HN.out j hj (by omega))
      clear hBr
      go_wp2_with (go_at_call 139; refine (HT.out _).mono ?_; rintro r1 w1 ⟨rfl, hB1⟩)
      go_ret
      exact ⟨by rw [HX.out]; rfl, bstep HBw.out hB1 HBw.out.size⟩
end Go.Proofs.YtgekfhghambacaaGreat

namespace Go.Proofs.YtgekfhghambacaaGreat
set_option linter.unusedVariables false
open Go.RowKit Go.Shelf Go.Proofs.YtgekfhghambacaaGreat.Nm

set_option maxRecDepth 100000 in
set_option maxHeartbeats 1000000 in
/-- data.Types, of what is no set -/
theorem types_no (s : ByteArray) (w : World) (hs : s.size ≤ 1048576) (hl : typB s = none) :
    Calls Tryz.prog 141 #[.string s] w fun e w' => e = .returned (.tuple #[.slice none 0 0, .int .i64 7]) ∧ Below w.heap.size w w' := by
  have hmf : ∀ (fn : Fn) (first cap : Array Value) (w : World), (Instr.makeFunc fn first cap).run Tryz.prog w = .ok (.func fn first cap) w := fun _ _ _ _ => rfl
  have HT := hide' (fun w => typesOf_any s w hs)
  rw [hl] at HT
  have bx := Boxed.new w 24 (.int .i64 0)
  go_enter_defers Tryz.func141, Tryz.ntmps141
  go_wp2_with (go_at_call 146; refine (HT.out _).mono ?_; rintro e w1 ⟨rfl, hB1⟩; have bx1 := bxBelow bx hB1 (by simp); have hc1 := bx1.cell; have hf1 := bx1.frozen)
  simp only [bodyPostD, flt]
  refine leaves_cons (f := 145) (args := #[.pointer (some ⟨w.heap.size, 0, none⟩)]) (by simp) (by simp [go_sem]) ?_
  refine (types1_panicking ⟨w.heap.size, 0, none⟩ 0 7 0 [] _ bx1.cell bx1.frozen bx1.lt).mono ?_
  rintro e u' w'' ⟨rfl, rfl, w2, hB2, rfl⟩
  have bx3 := (bxBelow bx1 hB2 bx1.lt).set (.int .i64 ((7 : Nat) : Int))
  have hc3 : (w2.setCell ⟨w.heap.size, 0, none⟩ (.int .i64 7)).cell? ⟨w.heap.size, 0, none⟩ = some (.int .i64 7) := bx3.cell
  rw [World.size_alloc] at hB1
  have hBa : Below w.heap.size w w1 := ((Below.refl _ w).alloc (Nat.le_refl _) _).trans (hB1.mono (by omega))
  have hBb : Below w.heap.size w (w2.setCell ⟨w.heap.size, 0, none⟩ (.int .i64 ((7 : Nat) : Int))) := (hBa.trans (hB2.mono hBa.size)).setCell (p := ⟨w.heap.size, 0, none⟩) (Nat.le_refl _) _
  simp only [settle]
  refine ⟨.tuple #[.slice none 0 0, .int .i64 ((7 : Nat) : Int)], ?_, rfl, hBb⟩
  simp [results, Tryz.results141, go_sem, hc3]
/-- data.Types -/
theorem types_any (s : ByteArray) (w : World) (hs : s.size ≤ 1048576) :
    Calls Tryz.prog 141 #[.string s] w fun e w' => rtEnd w (typB s) e w' ∧ Below w.heap.size w w' := by
  cases h : typB s with
  | some l => exact (types_yes s l w hs h).mono (by rintro e w' ⟨v, rfl, h1, h2⟩; exact ⟨⟨v, rfl, h1⟩, h2⟩)
  | none => exact (types_no s w hs h).mono (by rintro e w' ⟨rfl, h2⟩; exact ⟨rfl, h2⟩)
end Go.Proofs.YtgekfhghambacaaGreat

/-
  Proofs: what stands in a set of types. (The verifier's own text.)
-/
namespace Go.Proofs.YtgekfhghambacaaGreat.Nm
set_option linter.unusedVariables false
/-- the types of a set -/
def tyL (s : ByteArray) : List Nat := (typB s).getD []
/-- is a type among them? -/
def hasT (s : ByteArray) (t : Int) : Bool := (tyL s).any fun k => t == (k : Int)
def cutT (s : ByteArray) : Bool := hasT s 2 && !hasT s 6
def awayT (s : ByteArray) : Bool := cutT s || hasT s 39
def lackT (s : ByteArray) (t : Int) : Bool := if t = 255 then s.size == 0 else !hasT s t && !hasT s 5
def denT (s : ByteArray) (t : Int) : Bool := lackT s t && (decide (t = 43) || !cutT s)
end Go.Proofs.YtgekfhghambacaaGreat.Nm
namespace Go.Proofs.YtgekfhghambacaaGreat
set_option linter.unusedVariables false
set_option linter.unusedSimpArgs false
open Go.RowKit Go.Shelf Go.Proofs.YtgekfhghambacaaGreat.Nm

/-- numbers in memory, as a row that is read -/
def IsAtJ (w : World) (p : Option Addr) (l : List Nat) : Prop := ∀ k (h : k < l.length), ∃ g off, p = some ⟨g, off, none⟩ ∧ w.cell? ⟨g, off + k, none⟩ = some (.int .i64 (l[k] : Int))
theorem isAt_own {w : World} {base : Nat} {v : Value} {l : List Nat} (h : w.ownsRow base 3 1 v l.length (nums l)) : ∃ p c, v = .slice p l.length c ∧ IsAtJ w p l := by
  rcases id h.2 with ⟨h1, h0⟩ | ⟨g, cap, cur, h1, _⟩
  · exact ⟨none, 0, by rw [h1, h0], fun k hk => absurd hk (by omega)⟩
  · subst h1
    refine ⟨_, _, rfl, fun k hk => ⟨g, 0, rfl, ?_⟩⟩
    rw [Nat.zero_add, h.cellAt k (by omega)]
    simp [nums, hk]
set_option maxRecDepth 100000 in
set_option maxHeartbeats 1000000 in
/-- slices.Index of numbers: found or not -/
theorem indexI_any (l : List Nat) (p : Option Addr) (cap : Nat) (t : Int) (w : World) (hl : l.length ≤ 1048576) (hat : IsAtJ w p l) :
    Calls Tryz.prog 147 #[.slice p l.length cap, .int .i64 t] w fun r w' => (∃ i : Int, r = .returned (.int .i64 i) ∧ decide (0 ≤ i) = l.any fun k => t == (k : Int)) ∧ w' = w := by
  have HA := hide' hat
  clear hat
  go_enter Tryz.func147, Tryz.ntmps147
  go_wp2_with fail
  go_loop [8] (fun i => ∃ k : Nat, i = .int .i64 (k : Int) ∧ k ≤ l.length ∧ Hid (∀ j (hj : j < l.length), j < k → ¬ t = (l[j] : Int))) (fun i => l.length - (intOf i).toNat)
  case atStart => exact ⟨0, rfl, Nat.zero_le _, fun j _ h => absurd h (Nat.not_lt_zero _)⟩
  case round =>
    obtain ⟨k, rfl, hk, HN⟩ := hrel
    by_cases hlt : k < l.length
    · obtain ⟨g, off, rfl, e0⟩ := HA.out k hlt
      obtain ⟨x, hx⟩ : ∃ x, l[k] = x := ⟨_, rfl⟩
      have HX := hide' hx
      rw [hx] at e0
      clear hx
      by_cases ht : t = (x : Int)
      · have HE : Hid ((l.any fun k => t == (k : Int)) = true) := List.any_eq_true.2 ⟨x, HX.out ▸ List.getElem_mem hlt, beq_iff_eq.2 ht⟩
        go_wp2_with fail
        go_ret
        exact ⟨⟨(k : Int), rfl, by rw [← ht, HE.out]; exact decide_eq_true (by omega)⟩, rfl⟩
      · go_wp2_with fail
        exact ⟨⟨k + 1, by go_num, by omega, fun j hj h => by
          rcases Nat.lt_succ_iff_lt_or_eq.1 h with h | rfl
          · exact HN.out j hj h
          · rw [HX.out]; exact ht⟩, by simp [intOf]; omega⟩
    · obtain rfl : k = l.length := by omega
      have HE : Hid ((l.any fun k => t == (k : Int)) = false) := by
        refine List.any_eq_false.2 (fun x hx => ?_)
        obtain ⟨j, hj, rfl⟩ := List.getElem_of_mem hx
        simpa using HN.out j hj hj
      go_wp2_with fail
      go_ret
      exact ⟨⟨-1, rfl, by rw [HE.out]; decide⟩, rfl⟩
set_option maxRecDepth 100000 in
set_option maxHeartbeats 1000000 in
/-- slices.Contains of numbers -/
theorem containsI_any (l : List Nat) (p : Option Addr) (cap : Nat) (t : Int) (w : World) (hl : l.length ≤ 1048576) (hat : IsAtJ w p l) :
    Calls Tryz.prog 142 #[.slice p l.length cap, .int .i64 t] w fun r w' => r = .returned (.bool (l.any fun k => t == (k : Int))) ∧ w' = w := by
  have HI := hide' (indexI_any l p cap t w hl hat)
  clear hat
  go_enter Tryz.func142, Tryz.ntmps142
  go_wp2_with (go_at_call 147; refine HI.out.mono ?_; rintro r w1 ⟨⟨i, rfl, hi⟩, rfl⟩)
  go_ret
  exact ⟨by rw [← hi]; rfl, rfl⟩
theorem typF_len : ∀ (f : Nat) (last : Int) (s : ByteArray) (l : List Nat), typF f last s = some l → l.length ≤ 8 * s.size
  | 0, last, s, l, h => by
    unfold typF at h; split at h
    · simp at h; subst h; exact Nat.zero_le _
    · cases h
  | f + 1, last, s, l, h => by
    unfold typF at h
    split at h
    · simp at h; subst h; exact Nat.zero_le _
    split at h
    · cases h
    split at h
    · cases h
    split at h
    · cases h
    split at h
    · cases h
    cases e : typF f (bt s 0) (s.extract (2 + bt s 1) s.size) with
    | none => rw [e] at h; cases h
    | some q =>
      rw [e] at h
      simp at h
      subst h
      have h5 := typF_len f _ _ q e
      rw [size_extract' _ _ _ (Nat.le_refl _)] at h5
      have h6 := blkT_len (bt s 0) (s.extract 2 (2 + bt s 1)) (8 * bt s 1)
      rw [List.length_append]
      omega
theorem typL_len {s : ByteArray} {l : List Nat} (h : typB s = some l) (hs : s.size ≤ 65535) : l.length ≤ 1048576 := by
  unfold typB at h
  cases e : typS (-1) s with
  | none => rw [e] at h; cases h
  | some q =>
    rw [e] at h
    simp only at h
    split at h
    · cases h
    · cases h
      have := typF_len _ _ _ _ e
      omega
set_option maxRecDepth 100000 in
set_option maxHeartbeats 1000000 in
/-- link.has -/
theorem has_any (pl : Int) (s : ByteArray) (t : Int) (w : World) (hs : s.size ≤ 65535) :
    Calls Tryz.prog 136 #[.agg #[.int .i64 pl, .string s], .int .i64 t] w fun r w' => r = .returned (.bool (hasT s t)) ∧ Below w.heap.size w w' := by
  have hx0 : Bx (w.alloc (.cells #[.int .i64 pl, .string s] 116)) w.heap.size #[.int .i64 pl, .string s] 116 := World.alloc_heap_new w _
  obtain ⟨W, hW⟩ : ∃ W, w.alloc (.cells #[.int .i64 pl, .string s] 116) = W := ⟨_, rfl⟩
  have HB : Hid (Below w.heap.size w W) := by rw [← hW]; exact (Below.refl _ _).alloc (Nat.le_refl _) _
  rw [hW] at hx0
  have k1 : W.cell? ⟨w.heap.size, 1, none⟩ = some (.string s) := hx0.cell rfl
  have HT := hide' (fun W => types_any s W (by omega))
  clear hx0
  cases hl : typB s with
  | none =>
    have HC := hide' (fun W => containsI_any [] none 0 t W (by decide) (fun k hk => absurd hk (Nat.not_lt_zero _)))
    have HE : Hid (hasT s t = false) := by unfold Hid hasT tyL; rw [hl]; rfl
    rw [HE.out]
    rw [hl] at HT
    go_enter Tryz.func136, Tryz.ntmps136
    go_wp2_with (first
      | (go_at_call 141; refine (HT.out _).mono ?_; rintro r w1 ⟨rfl, hB⟩; have HB1 := hide' (bstep HB.out hB HB.out.size); clear hB)
      | (go_at_call 142; refine (HC.out _).mono ?_; rintro r w2 ⟨rfl, rfl⟩))
    go_ret
    exact ⟨rfl, HB1.out⟩
  | some l =>
    have hln := typL_len hl hs
    have HC := hide' (fun p c W (h : IsAtJ W p l) => containsI_any l p c t W hln h)
    have HE : Hid (hasT s t = (l.any fun k => t == (k : Int))) := by unfold Hid hasT tyL; rw [hl]; rfl
    rw [HE.out]
    rw [hl] at HT
    go_enter Tryz.func136, Tryz.ntmps136
    go_wp2_with (first
      | (go_at_call 141; refine (HT.out _).mono ?_; rintro r w1 ⟨⟨v, rfl, ho⟩, hB⟩; have HB1 := hide' (bstep HB.out hB HB.out.size); obtain ⟨p, c, rfl, hI⟩ := isAt_own ho; have HI := hide' hI; clear hB ho hI)
      | (go_at_call 142; refine (HC.out _ _ _ HI.out).mono ?_; rintro r w2 ⟨rfl, rfl⟩))
    go_ret
    exact ⟨rfl, HB1.out⟩
end Go.Proofs.YtgekfhghambacaaGreat

/-
  Proofs: a link's words. (The verifier's own text.)
-/
namespace Go.Proofs.YtgekfhghambacaaGreat
set_option linter.unusedVariables false
set_option linter.unusedSimpArgs false
open Go.RowKit Go.Shelf Go.Proofs.YtgekfhghambacaaGreat.Nm

/-- what lies in memory along a link's method -/
def Lk (w wc : World) (pl : Int) (s : ByteArray) : Prop := Bx wc w.heap.size #[.int .i64 pl, .string s] 116 ∧ Below w.heap.size w wc
theorem Lk.step {w wc wd : World} {pl : Int} {s : ByteArray} (h : Lk w wc pl s) (hB : Below wc.heap.size wc wd) : Lk w wd pl s := ⟨h.1.below hB h.1.lt, bstep h.2 hB h.2.size⟩
theorem Lk.start (w : World) (pl : Int) (s : ByteArray) : Lk w (w.alloc (.cells #[.int .i64 pl, .string s] 116)) pl s := ⟨World.alloc_heap_new w _, (Below.refl _ _).alloc (Nat.le_refl _) _⟩
theorem Lk.cells {w wc : World} {pl : Int} {s : ByteArray} (h : Lk w wc pl s) : wc.cell? ⟨w.heap.size, 0, none⟩ = some (.int .i64 pl) ∧ wc.cell? ⟨w.heap.size, 1, none⟩ = some (.string s) := ⟨h.1.cell rfl, h.1.cell rfl⟩
set_option maxRecDepth 100000 in
set_option maxHeartbeats 1000000 in
/-- link.isCut -/
theorem isCut_any (pl : Int) (s : ByteArray) (w : World) (hs : s.size ≤ 65535) :
    Calls Tryz.prog 135 #[.agg #[.int .i64 pl, .string s]] w fun r w' => r = .returned (.bool (cutT s)) ∧ Below w.heap.size w w' := by
  have L0 := hide' (Lk.start w pl s)
  have H2 := hide' (fun W => has_any pl s 2 W hs)
  have H6 := hide' (fun W => has_any pl s 6 W hs)
  have HE : Hid (cutT s = (hasT s 2 && !hasT s 6)) := rfl
  rw [HE.out]
  obtain ⟨k0, k1⟩ := L0.out.cells
  generalize hasT s 2 = a at *
  generalize hasT s 6 = b at *
  clear HE
  cases a <;> cases b
  all_goals (
    go_enter Tryz.func135, Tryz.ntmps135
    go_wp2_with (first
      | (go_at_call 136; with_reducible refine (H2.out _).mono ?_; rintro r w1 ⟨rfl, hB⟩; have L1 := hide' (L0.out.step hB); clear hB k0 k1; obtain ⟨k0, k1⟩ := L1.out.cells)
      | (go_at_call 136; with_reducible refine (H6.out _).mono ?_; rintro r w2 ⟨rfl, hB⟩; have L2 := hide' (L1.out.step hB); clear hB))
    go_ret
    exact ⟨rfl, by first | exact L2.out.2 | exact L1.out.2⟩)
set_option maxRecDepth 100000 in
set_option maxHeartbeats 1000000 in
/-- link.leadsAway -/
theorem leadsAway_any (pl : Int) (s : ByteArray) (w : World) (hs : s.size ≤ 65535) :
    Calls Tryz.prog 128 #[.agg #[.int .i64 pl, .string s]] w fun r w' => r = .returned (.bool (awayT s)) ∧ Below w.heap.size w w' := by
  have L0 := hide' (Lk.start w pl s)
  have H2 := hide' (fun W => isCut_any pl s W hs)
  have H6 := hide' (fun W => has_any pl s 39 W hs)
  have HE : Hid (awayT s = (cutT s || hasT s 39)) := rfl
  rw [HE.out]
  obtain ⟨k0, k1⟩ := L0.out.cells
  generalize cutT s = a at *
  generalize hasT s 39 = b at *
  clear HE
  cases a <;> cases b
  all_goals (
    go_enter Tryz.func128, Tryz.ntmps128
    go_wp2_with (first
      | (go_at_call 135; refine (H2.out _).mono ?_; rintro r w1 ⟨rfl, hB⟩; have L1 := hide' (L0.out.step hB); clear hB k0 k1; obtain ⟨k0, k1⟩ := L1.out.cells)
      | (go_at_call 136; refine (H6.out _).mono ?_; rintro r w2 ⟨rfl, hB⟩; have L2 := hide' (L1.out.step hB); clear hB))
    go_ret
    exact ⟨rfl, by first | exact L2.out.2 | exact L1.out.2⟩)
set_option maxRecDepth 100000 in
set_option maxHeartbeats 1000000 in
/-- link.lacks -/
theorem lacks_any (pl : Int) (s : ByteArray) (t : Int) (w : World) (hs : s.size ≤ 65535) :
    Calls Tryz.prog 138 #[.agg #[.int .i64 pl, .string s], .int .i64 t] w fun r w' => r = .returned (.bool (lackT s t)) ∧ Below w.heap.size w w' := by
  have L0 := hide' (Lk.start w pl s)
  obtain ⟨k0, k1⟩ := L0.out.cells
  by_cases ht : t = 255
  · subst ht
    have HE : Hid (lackT s 255 = (s.toList == [])) := by
      unfold Hid lackT
      rw [if_pos rfl]
      cases h : (s.size == 0) with
      | true => have h2 : s = ⟨#[]⟩ := ByteArray.ext (Array.eq_empty_of_size_eq_zero (by simpa using h)); subst h2; rw [toList_eq]; rfl
      | false =>
        symm
        rw [beq_eq_false_iff_ne]
        intro h2
        rw [toList_eq] at h2
        have h3 : s.data.size = 0 := by rw [← Array.length_toList, h2]; rfl
        have h4 : s.size = 0 := h3
        rw [h4] at h; simp at h
    rw [HE.out]
    go_enter Tryz.func138, Tryz.ntmps138
    go_wp2_with fail
    go_ret
    exact ⟨by simp, L0.out.2⟩
  have H2 := hide' (fun W => has_any pl s t W hs)
  have H6 := hide' (fun W => has_any pl s 5 W hs)
  have HE : Hid (lackT s t = (!hasT s t && !hasT s 5)) := by unfold Hid lackT; rw [if_neg ht]
  rw [HE.out]
  generalize hasT s t = a at *
  generalize hasT s 5 = b at *
  clear HE
  have M1 : Hid True := trivial
  cases a <;> cases b
  all_goals (
    go_enter Tryz.func138, Tryz.ntmps138
    go_wp2_with (first
      | (go_at_call 136; have _ := M1; clear M1; refine (H2.out _).mono ?_; rintro r w1 ⟨rfl, hB⟩; have L1 := hide' (L0.out.step hB); clear hB k0 k1; obtain ⟨k0, k1⟩ := L1.out.cells)
      | (go_at_call 136; refine (H6.out _).mono ?_; rintro r w2 ⟨rfl, hB⟩; have L2 := hide' (L1.out.step hB); clear hB))
    go_ret
    exact ⟨rfl, by first | exact L2.out.2 | exact L1.out.2⟩)
set_option maxRecDepth 100000 in
set_option maxHeartbeats 1000000 in
/-- link.deniesType -/
theorem deniesType_any (pl : Int) (s : ByteArray) (t : Int) (w : World) (hs : s.size ≤ 65535) :
    Calls Tryz.prog 133 #[.agg #[.int .i64 pl, .string s], .int .i64 t] w fun r w' => r = .returned (.bool (denT s t)) ∧ Below w.heap.size w w' := by
  have L0 := hide' (Lk.start w pl s)
  obtain ⟨k0, k1⟩ := L0.out.cells
  have H2 := hide' (fun W => lacks_any pl s t W hs)
  have H6 := hide' (fun W => isCut_any pl s W hs)
  by_cases ht : t = 43
  · subst ht
    have HE : Hid (denT s 43 = lackT s 43) := by unfold Hid denT; simp
    rw [HE.out]
    generalize lackT s 43 = a at *
    clear HE H6
    cases a
    all_goals (
      go_enter Tryz.func133, Tryz.ntmps133
      go_wp2_with (first
        | (go_at_call 138; refine (H2.out _).mono ?_; rintro r w1 ⟨rfl, hB⟩; have L1 := hide' (L0.out.step hB); clear hB k0 k1; obtain ⟨k0, k1⟩ := L1.out.cells)
        | fail)
      go_ret
      exact ⟨rfl, L1.out.2⟩)
  · have HE : Hid (denT s t = (lackT s t && !cutT s)) := by unfold Hid denT; simp [ht]
    have hbe : (t == 43) = false := beq_eq_false_iff_ne.2 ht
    rw [HE.out]
    generalize lackT s t = a at *
    generalize cutT s = b at *
    clear HE
    cases a <;> cases b
    all_goals (
      go_enter Tryz.func133, Tryz.ntmps133
      go_wp2_with (first
      | (go_at_call 138; refine (H2.out _).mono ?_; rintro r w1 ⟨rfl, hB⟩; have L1 := hide' (L0.out.step hB); clear hB k0 k1; obtain ⟨k0, k1⟩ := L1.out.cells)
      | (go_at_call 135; refine (H6.out _).mono ?_; rintro r w2 ⟨rfl, hB⟩; have L2 := hide' (L1.out.step hB); clear hB))
      go_ret
      exact ⟨by first | rfl | (show Ending.returned (Value.bool (t == 43)) = _; rw [hbe]; rfl), by first | exact L2.out.2 | exact L1.out.2⟩)
end Go.Proofs.YtgekfhghambacaaGreat

/-
  Proofs: what one NSEC says. (The verifier's own text.)
-/
namespace Go.Proofs.YtgekfhghambacaaGreat.Nm
set_option linter.unusedVariables false
theorem comB_size (a b : ByteArray) : (comB a b).size ≤ 255 := by
  unfold comB
  split
  · exact tailB_size _ _
  · simp
/-- what an NSEC denies -/
def ndB (ts o nx n : ByteArray) : Bool := covB o nx n && !(withinB n o && awayT ts)
def nsB (ts o n : ByteArray) (t : Int) : Bool := eqB o n && denT ts t
def neB (o nx q : ByteArray) : ByteArray := if (comB q nx).size < (comB q o).size then comB q o else comB q nx
end Go.Proofs.YtgekfhghambacaaGreat.Nm
namespace Go.Proofs.YtgekfhghambacaaGreat
set_option linter.unusedVariables false
set_option linter.unusedSimpArgs false
open Go.RowKit Go.Shelf Go.Proofs.YtgekfhghambacaaGreat.Nm

/-- what lies in memory along an NSEC's method -/
def Nk (w wc : World) (pl : Int) (ts o nx : ByteArray) : Prop := Bx wc w.heap.size #[.int .i64 pl, .string ts, .string o, .string nx] 118 ∧ Below w.heap.size w wc
theorem Nk.step {w wc wd : World} {pl : Int} {ts o nx : ByteArray} (h : Nk w wc pl ts o nx) (hB : Below wc.heap.size wc wd) : Nk w wd pl ts o nx := ⟨h.1.below hB h.1.lt, bstep h.2 hB h.2.size⟩
theorem Nk.drew {w wc : World} {pl : Int} {ts o nx : ByteArray} (h : Nk w wc pl ts o nx) : Nk w wc.drew pl ts o nx := ⟨h.1, h.2.drew⟩
theorem Nk.start (w : World) (pl : Int) (ts o nx : ByteArray) : Nk w (w.alloc (.cells #[.int .i64 pl, .string ts, .string o, .string nx] 118)) pl ts o nx := ⟨World.alloc_heap_new w _, (Below.refl _ _).alloc (Nat.le_refl _) _⟩
theorem Nk.cells {w wc : World} {pl : Int} {ts o nx : ByteArray} (h : Nk w wc pl ts o nx) : wc.cell? ⟨w.heap.size, 0, none⟩ = some (.int .i64 pl) ∧ wc.cell? ⟨w.heap.size, 1, none⟩ = some (.string ts) ∧ wc.cell? ⟨w.heap.size, 2, none⟩ = some (.string o) ∧ wc.cell? ⟨w.heap.size, 3, none⟩ = some (.string nx) := ⟨h.1.cell rfl, h.1.cell rfl, h.1.cell rfl, h.1.cell rfl⟩
set_option maxRecDepth 100000 in
set_option maxHeartbeats 1000000 in
/-- nsec.covers -/
theorem ncovers_any (pl : Int) (ts o nx n : ByteArray) (w : World) (ho : o.size ≤ 1048576) (hx : nx.size ≤ 1048576) (hn : n.size ≤ 1048576) :
    Calls Tryz.prog 127 #[.agg #[.int .i64 pl, .string ts, .string o, .string nx], .string n] w fun r w' => r = .returned (.bool (covB o nx n)) ∧ Below w.heap.size w w' := by
  have L0 := hide' (Nk.start w pl ts o nx)
  obtain ⟨k0, k1, k2, k3⟩ := L0.out.cells
  have HC := hide' (fun W => covers_any o nx n W ho hx hn)
  go_enter Tryz.func127, Tryz.ntmps127
  go_wp2_with (go_at_call 134; refine (HC.out _).mono ?_; rintro r w1 ⟨rfl, hB⟩; have L1 := hide' (L0.out.step hB); clear hB)
  go_ret
  exact ⟨rfl, L1.out.2⟩
set_option maxRecDepth 100000 in
set_option maxHeartbeats 1000000 in
/-- nsec.hasBelow -/
theorem nhasBelow_any (pl : Int) (ts o nx n : ByteArray) (w : World) (hx : nx.size ≤ 1048576) (hn : n.size ≤ 1048576) :
    Calls Tryz.prog 119 #[.agg #[.int .i64 pl, .string ts, .string o, .string nx], .string n] w fun r w' => r = .returned (.bool (withinB nx n)) ∧ Below w.heap.size w w' := by
  have L0 := hide' (Nk.start w pl ts o nx)
  obtain ⟨k0, k1, k2, k3⟩ := L0.out.cells
  have HC := hide' (fun W => within_any nx n W (small_max hx) (small_max hn))
  go_enter Tryz.func119, Tryz.ntmps119
  go_wp2_with (go_at_call 33; refine (HC.out _).mono ?_; rintro r w1 ⟨rfl, hB⟩; have L1 := hide' (L0.out.step hB); clear hB)
  go_ret
  exact ⟨rfl, L1.out.2⟩
set_option maxRecDepth 100000 in
set_option maxHeartbeats 2000000 in
/-- nsec.denies -/
theorem ndenies_any (pl : Int) (ts o nx n : ByteArray) (w : World) (hs : ts.size ≤ 65535) (ho : o.size ≤ 1048576) (hx : nx.size ≤ 1048576) (hn : n.size ≤ 1048576) :
    Calls Tryz.prog 118 #[.agg #[.int .i64 pl, .string ts, .string o, .string nx], .string n] w fun r w' => r = .returned (.bool (ndB ts o nx n)) ∧ Below w.heap.size w w' := by
  have L0 := hide' (Nk.start w pl ts o nx)
  obtain ⟨k0, k1, k2, k3⟩ := L0.out.cells
  have HC := hide' (fun W => ncovers_any pl ts o nx n W ho hx hn)
  have HW := hide' (fun W => within_any n o W (small_max hn) (small_max ho))
  have HA := hide' (fun W => leadsAway_any pl ts W hs)
  have HE : Hid (ndB ts o nx n = (covB o nx n && !(withinB n o && awayT ts))) := rfl
  rw [HE.out]
  generalize covB o nx n = a at *
  generalize withinB n o = b at *
  generalize awayT ts = c at *
  clear HE hs ho hx hn
  cases a
  · go_enter Tryz.func118, Tryz.ntmps118
    go_wp2_with (go_at_call 127; refine (HC.out _).mono ?_; rintro r w1 ⟨rfl, hB⟩; have L1 := hide' (L0.out.step hB); clear hB k0 k1 k2 k3; obtain ⟨k0, k1, k2, k3⟩ := L1.out.cells)
    go_ret
    exact ⟨rfl, L1.out.2⟩
  cases b
  · go_enter Tryz.func118, Tryz.ntmps118
    go_wp2_with (first
      | (go_at_call 127; refine (HC.out _).mono ?_; rintro r w1 ⟨rfl, hB⟩; have L1 := hide' (L0.out.step hB); clear hB k0 k1 k2 k3; obtain ⟨k0, k1, k2, k3⟩ := L1.out.cells)
      | (go_at_call 33; refine (HW.out _).mono ?_; rintro r w2 ⟨rfl, hB⟩; have L2 := hide' (L1.out.step hB); clear hB k0 k1 k2 k3; obtain ⟨k0, k1, k2, k3⟩ := L2.out.cells))
    go_ret
    exact ⟨rfl, L2.out.2⟩
  cases c
  all_goals (
    go_enter Tryz.func118, Tryz.ntmps118
    go_wp2_with (first
      | (go_at_call 127; refine (HC.out _).mono ?_; rintro r w1 ⟨rfl, hB⟩; have L1 := hide' (L0.out.step hB); clear hB k0 k1 k2 k3; obtain ⟨k0, k1, k2, k3⟩ := L1.out.cells)
      | (go_at_call 33; refine (HW.out _).mono ?_; rintro r w2 ⟨rfl, hB⟩; have L2 := hide' (L1.out.step hB); clear hB k0 k1 k2 k3; obtain ⟨k0, k1, k2, k3⟩ := L2.out.cells)
      | (go_at_call 128; refine (HA.out _).mono ?_; rintro r w3 ⟨rfl, hB⟩; have L3 := hide' (L2.out.step hB); clear hB))
    go_ret
    exact ⟨rfl, L3.out.2⟩)
set_option maxRecDepth 100000 in
set_option maxHeartbeats 1000000 in
/-- nsec.shows -/
theorem nshows_any (pl : Int) (ts o nx n : ByteArray) (t : Int) (w : World) (hs : ts.size ≤ 65535) (ho : o.size ≤ 1048576) (hn : n.size ≤ 1048576) :
    Calls Tryz.prog 126 #[.agg #[.int .i64 pl, .string ts, .string o, .string nx], .string n, .int .i64 t] w fun r w' => r = .returned (.bool (nsB ts o n t)) ∧ Below w.heap.size w w' := by
  have L0 := hide' (Nk.start w pl ts o nx)
  obtain ⟨k0, k1, k2, k3⟩ := L0.out.cells
  have HC := hide' (fun W => equal_any o n W (small_max ho) (small_max hn))
  have HA := hide' (fun W => deniesType_any pl ts t W hs)
  have HE : Hid (nsB ts o n t = (eqB o n && denT ts t)) := rfl
  rw [HE.out]
  generalize eqB o n = a at *
  generalize denT ts t = c at *
  clear HE hs ho hn
  cases a <;> cases c
  all_goals (
    go_enter Tryz.func126, Tryz.ntmps126
    go_wp2_with (first
      | (go_at_call 41; refine (HC.out _).mono ?_; rintro r w1 ⟨rfl, hB⟩; have L1 := hide' (L0.out.step hB); clear hB k0 k1 k2 k3; obtain ⟨k0, k1, k2, k3⟩ := L1.out.cells)
      | (go_at_call 133; refine (HA.out _).mono ?_; rintro r w2 ⟨rfl, hB⟩; have L2 := hide' (L1.out.step hB); clear hB))
    go_ret
    exact ⟨rfl, by first | exact L2.out.2 | exact L1.out.2⟩)
set_option maxRecDepth 100000 in
set_option maxHeartbeats 2000000 in
/-- nsec.encloser -/
theorem nencloser_any (pl : Int) (ts o nx q : ByteArray) (w : World) (ho : o.size ≤ 1048576) (hx : nx.size ≤ 1048576) (hq : q.size ≤ 1048576) :
    Calls Tryz.prog 121 #[.agg #[.int .i64 pl, .string ts, .string o, .string nx], .string q] w fun r w' => r = .returned (.string (neB o nx q)) ∧ Below w.heap.size w w' := by
  have L0 := hide' (Nk.start w pl ts o nx)
  obtain ⟨k0, k1, k2, k3⟩ := L0.out.cells
  have H1 := hide' (fun W => common_any q o W (small_max hq) (small_max ho))
  have H2 := hide' (fun W => common_any q nx W (small_max hq) (small_max hx))
  have HE : Hid (neB o nx q = if (comB q nx).size < (comB q o).size then comB q o else comB q nx) := rfl
  have z1 : (comB q o).size ≤ 255 := comB_size q o
  have z2 : (comB q nx).size ≤ 255 := comB_size q nx
  rw [HE.out]
  generalize comB q o = a at *
  generalize comB q nx = b at *
  clear HE ho hx hq
  have T5 : Hid True := trivial
  obtain ⟨W0, hW0⟩ : ∃ W0, w.alloc (.cells #[.int .i64 pl, .string ts, .string o, .string nx] 118) = W0 := ⟨_, rfl⟩
  rw [hW0] at L0 k0 k1 k2 k3
  by_cases hab : b.size < a.size
  all_goals (
    first | rw [if_pos hab] | rw [if_neg hab]
    go_enter Tryz.func121, Tryz.ntmps121
    go_wp2_with fail
    try rw [hW0]
    go_region_held3 (fun V => V.cell? ⟨w.heap.size, 2, none⟩ = some (.string o) ∧ V.cell? ⟨w.heap.size, 3, none⟩ = some (.string nx)) (first | go_keep | exact ⟨L2.out.1.cell rfl, L2.out.1.cell rfl⟩ | exact ⟨L1.out.1.cell rfl, L1.out.1.cell rfl⟩) (first
      | (go_at_call 129; have _ := T5; clear T5; refine (H1.out _).mono ?_; rintro r w1 ⟨rfl, hB⟩; have L1 := hide' (show Nk w w1 pl ts o nx by first | exact L0.out.step hB | exact L0.out.drew.step hB); clear hB)
      | (go_at_call 129; refine (H2.out _).mono ?_; rintro r w2 ⟨rfl, hB⟩; have L2 := hide' (show Nk w w2 pl ts o nx by first | exact L1.out.step hB | exact L1.out.drew.step hB); clear hB)))
  all_goals (go_wp2_with fail)
  all_goals go_ret
  all_goals (exact ⟨rfl, by first | exact L2.out.2 | exact L2.out.2.drew⟩)
end Go.Proofs.YtgekfhghambacaaGreat
