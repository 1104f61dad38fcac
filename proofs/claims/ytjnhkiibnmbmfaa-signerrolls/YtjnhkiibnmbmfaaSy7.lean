import Derived.Test.YtjnhkiibnmbmfaaSy6
import Derived.Test.YtjnhkiibnmbmfaaSk5
/-
  SignerRolls: what holds along the turns. (The verifier's own text.)
-/
namespace Go.Proofs.Ytjnhkiibnmbmfaa
set_option linter.unusedVariables false
set_option linter.unusedSimpArgs false
open Go.RowKit Go.Shelf Go.Sort Go.Proofs.Ytjnhkiibnmbmfaa.Nm

/-- a turn -/
structure Tn where
  p : Int
  q : Int
  e : Int
  n : Int
def tnV (t : Tn) : List Value := [.int .i64 t.p, .int .i64 t.q, .int .i64 t.e, .int .i64 t.n]
theorem tnV_len (t : Tn) : (tnV t).length = 4 := rfl
abbrev NtAt (w : World) (p : Option Addr) (l : List Tn) : Prop := RowAt 4 tnV w p l
theorem NtAt.cells {w : World} {p : Option Addr} {l : List Tn} (h : NtAt w p l) (k : Nat) (hk : k < l.length) : ∃ g off, p = some ⟨g, off, none⟩ ∧ g < w.heap.size ∧ w.cell? ⟨g, off + k * 4, none⟩ = some (.int .i64 l[k].p) ∧ w.cell? ⟨g, off + k * 4 + 1, none⟩ = some (.int .i64 l[k].q) ∧ w.cell? ⟨g, off + k * 4 + 2, none⟩ = some (.int .i64 l[k].e) ∧ w.cell? ⟨g, off + k * 4 + 3, none⟩ = some (.int .i64 l[k].n) := by
  obtain ⟨g, off, hp, hg, e⟩ := h k hk
  exact ⟨g, off, hp, hg, e 0 (by decide), e 1 (by decide), e 2 (by decide), e 3 (by decide)⟩
/-- a line along the turns -/
def LOk (ka sa b0 : Int) (I : List Tk) (l : Tk) : Prop := Ch ka sa b0 b0 I l ∧ lineB (I ++ [l]) = true ∧ (∀ k ∈ I, k.r ≠ 4294967296) ∧ l.r = 4294967296 ∧ 0 ≤ l.a
theorem LOk.roll {ka sa b0 : Int} {I : List Tk} {l : Tk} {f m e s now : Int} (h : LOk ka sa b0 I l) (hc : rollC I l f m e s now ka sa = 0) : LOk ka sa b0 (I ++ [oldT l now ka sa]) (newT f m e s now ka) := by
  obtain ⟨h1, h2, h3, h4, h5⟩ := h
  obtain ⟨⟨a1, a2⟩, ⟨a3, a4⟩, a5, a6, a7, a8⟩ := rollC_ok hc
  refine ⟨h1.roll a1 a7 a6, line_roll h2 hc, ?_, rfl, ?_⟩
  · intro k hk
    rcases List.mem_append.1 hk with hk | hk
    · exact h3 k hk
    · obtain rfl : k = oldT l now ka sa := by simpa using hk
      show now + ka ≠ 4294967296
      omega
  · show 0 ≤ now + ka
    omega
theorem LOk.first {ka sa b0 d : Int} (hb : 0 ≤ b0) (hb2 : b0 ≤ 4294967295) (hr : rkB 256 66013 3 d = true) : LOk ka sa b0 [] ⟨256, 66013, 3, d, b0, b0, 4294967296, 4294967296⟩ := by
  refine ⟨⟨rfl, rfl, rfl, rfl⟩, ?_, fun k hk => (by cases hk), rfl, hb⟩
  simp only [lineB, List.nil_append, List.all_cons, List.all_nil, Bool.and_true, rightT, timesB, hr, Bool.true_and, List.length_cons, List.length_nil]
  simp only [Bool.and_eq_true, decide_eq_true_eq]
  omega
theorem LOk.len {ka sa b0 : Int} {I : List Tk} {l : Tk} (h : LOk ka sa b0 I l) : (I ++ [l]).length ≤ 50 := by
  have := h.2.1
  unfold lineB at this
  simp only [Bool.and_eq_true, decide_eq_true_eq] at this
  exact this.1
/-- such a line is safe -/
theorem LOk.safe {ka sa b0 to : Int} {I : List Tk} {l : Tk} {r : Ending} (h : LOk ka sa b0 I l) (ha : argsB ka sa b0 to = true) (hs : safeEnd (I ++ [l]) ka sa b0 to r) : r = errR 0 := by
  have hto : to ≤ 4294967295 := by
    simp only [argsB, Bool.and_eq_true, decide_eq_true_eq] at ha
    exact ha.2.2.2.2
  rcases hs with ⟨h1, _⟩ | ⟨_, h2, _⟩ | ⟨_, _, x, y, _, hx1, hx2, hy1, hy2, hm1, hm2, hv⟩ | ⟨_, _, hr, _⟩
  · rw [ha] at h1; cases h1
  · rw [h.2.1] at h2; cases h2
  · rw [h.1.served (by omega) (by omega) hm1 hm2 hy1 hx1] at hv; cases hv
  · exact hr
/-- a key out of any numbers -/
theorem key_some (p q e f : Int) : ∃ a b c d z : Int, keyR p q e f = .tuple #[.agg #[.int .i64 a, .int .i64 b, .int .i64 c, .int .i64 d], .int .i64 z] := by
  unfold keyR
  cases keyOKB p q e f with
  | true => exact ⟨_, _, _, _, _, rfl⟩
  | false => exact ⟨_, _, _, _, _, rfl⟩
theorem own_some' {w : World} {base e size n : Nat} {v : Value} {xs : List Value} (h : w.ownsRow base e size v n xs) (hn : n ≠ 0) : ∃ g c, v = .slice (some ⟨g, 0, none⟩) n c ∧ base ≤ g ∧ g < w.heap.size := by
  rcases id h.2 with ⟨_, h0⟩ | ⟨g, c, cur, rfl, hg, _⟩
  · omega
  · exact ⟨g, c, rfl, (h.lt g rfl).1, (h.lt g rfl).2⟩
/-- what stands in memory behind a turn's key -/
theorem turn_mem {w wr w2 : World} {P Q E N f m e s : Int} {p : Option Addr} {L : List Tk} (hB : Below w.heap.size w wr) (hat : TsAt wr p L) (hB2 : Below (wr.alloc (.cells #[.int .i64 P, .int .i64 Q, .int .i64 E, .int .i64 N] 32)).heap.size (wr.alloc (.cells #[.int .i64 P, .int .i64 Q, .int .i64 E, .int .i64 N] 32)) w2) :
    ∀ W, Below (w2.alloc (.cells #[.int .i64 f, .int .i64 m, .int .i64 e, .int .i64 s] 24)).heap.size (w2.alloc (.cells #[.int .i64 f, .int .i64 m, .int .i64 e, .int .i64 s] 24)) W → (W.cell? ⟨wr.heap.size, 3, none⟩ = some (.int .i64 N) ∧ W.cell? ⟨w2.heap.size, 0, none⟩ = some (.int .i64 f) ∧ W.cell? ⟨w2.heap.size, 1, none⟩ = some (.int .i64 m) ∧ W.cell? ⟨w2.heap.size, 2, none⟩ = some (.int .i64 e) ∧ W.cell? ⟨w2.heap.size, 3, none⟩ = some (.int .i64 s)) ∧ TsAt W p L ∧ Below w.heap.size w W := by
  intro W hW
  have b1 := hB.alloc hB.size (.cells #[.int .i64 P, .int .i64 Q, .int .i64 E, .int .i64 N] 32)
  have b2 := bstep b1 hB2 b1.size
  have b3 := b2.alloc b2.size (.cells #[.int .i64 f, .int .i64 m, .int .i64 e, .int .i64 s] 24)
  have b4 := bstep b3 hW b3.size
  have c1 := (Below.refl wr.heap.size wr).alloc (Nat.le_refl _) (.cells #[.int .i64 P, .int .i64 Q, .int .i64 E, .int .i64 N] 32)
  have c2 := bstep c1 hB2 c1.size
  have c3 := c2.alloc c2.size (.cells #[.int .i64 f, .int .i64 m, .int .i64 e, .int .i64 s] 24)
  have c4 := bstep c3 hW c3.size
  have t1 := (bxNew wr #[.int .i64 P, .int .i64 Q, .int .i64 E, .int .i64 N] 32).below hB2 (bxNew wr _ _).lt
  have t2 := (t1.al (.cells #[.int .i64 f, .int .i64 m, .int .i64 e, .int .i64 s] 24))
  have t3 := t2.below hW t2.lt
  have k1 := bxNew w2 #[.int .i64 f, .int .i64 m, .int .i64 e, .int .i64 s] 24
  have k2 := bx4 (k1.below hW k1.lt)
  exact ⟨⟨t3.cell rfl, k2.1, k2.2.1, k2.2.2.1, k2.2.2.2⟩, TsAt.below hat c4, b4⟩
end Go.Proofs.Ytjnhkiibnmbmfaa
