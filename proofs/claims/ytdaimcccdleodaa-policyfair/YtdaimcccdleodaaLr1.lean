import Derived.Test.YtdaimcccdleodaaLmb
/-
  Chapter 15: the reference's limiter in memory. (The verifier's own text.)
-/
namespace Go.Proofs.Ytdaimcccdleodaa
set_option linter.unusedVariables false
set_option linter.unusedSimpArgs false
open Go.RowKit Go.Shelf Go.Maps

/-- a cell of such a row is written -/
theorem Orow.put {w : World} {base e size n g o cap j : Nat} {xs : List Value} (h : Orow w base e size (.slice (some ⟨g, o * size, none⟩) n cap) n xs) (u : Value) (hj : j < n * size) : Orow (w.setCell ⟨g, o * size + j, none⟩ u) base e size (.slice (some ⟨g, o * size, none⟩) n cap) n (xs.set j u) := by
  refine ⟨by rw [List.length_set]; exact h.1, ?_⟩
  rcases h.2 with ⟨h, _⟩ | ⟨g', o', cap', cur, hv, hb, hgg, h1, h2, h3, h4⟩
  · cases h
  · injection hv with hv hn hc
    injection hv with hv
    injection hv with hg ho _
    subst hg hc
    refine .inr ⟨g, o', cap, cur.setIfInBounds (o * size + j) u, by rw [ho], hb, ?_, h1, h2, by simpa using h3, ?_⟩
    · simp [World.setCell, Array.getElem?_modify, hgg]
    · rw [Array.toList_setIfInBounds, ← ho, ← h4, ← ho]
      rw [List.drop_set]
      rw [if_neg (by omega)]
      rw [List.take_set]
      congr 1
      omega
/-- one of the reference's -/
def trV (y : Tr) : List Value := [.string y.1, .int .i64 y.2.1, .int .i64 y.2.2]
theorem trV_len (y : Tr) : (trV y).length = 3 := rfl
theorem trV_one (y : Tr) : ∀ u ∈ trV y, u.oneCell' = true := by
  intro u h
  simp only [trV, List.mem_cons, List.not_mem_nil, or_false] at h
  rcases h with rfl | rfl | rfl <;> rfl
def RK (o : Obj) : Prop := match o with
  | .cells _ T _ => T = 38 ∨ T = 69
  | _ => False
structure Ref (w : World) (R base : Nat) (qv : Value) (rate burst : Int) (T : List Tr) : Prop where
  bx : Bx w R #[.int .i64 rate, .int .i64 burst, qv] 38
  q : Orow w base 69 3 qv T.length (rowV trV T)
  good : ∀ y ∈ T, 0 ≤ y.2.1 ∧ y.2.1 ≤ burst ∧ (Lit.int .i64 y.2.2).wf = true
  len : T.length ≤ 1000
  bR : base ≤ R
  bW : base ≤ w.heap.size
section
variable {w w' : World} {R base : Nat} {qv : Value} {rate burst : Int} {T : List Tr}
theorem Ref.grown (h : Ref w R base qv rate burst T) (hg : w.grownBy w' none) : Ref w' R base qv rate burst T :=
  ⟨h.bx.grown hg (by simp), h.q.kept hg (fun _ _ => by simp), h.good, h.len, h.bR, Nat.le_trans h.bW hg.size⟩
theorem Ref.ft {K : Obj → Prop} {b : Nat} (h : Ref w R base qv rate burst T) (hf : Ft K b w w') (h2 : ∀ cs, ¬ K (.cells cs 38 (0, 0))) (h3 : ∀ cs, ¬ K (.cells cs 69 (0, 0))) : Ref w' R base qv rate burst T :=
  ⟨h.bx.ft hf (h2 _), h.q.ft hf h3, h.good, h.len, h.bR, Nat.le_trans h.bW hf.size⟩
end
/-- a number in a cell -/
def cellI (w : World) (a : Addr) : Int := match w.cell? a with
  | some (.int _ z) => z
  | _ => 0
/-- what is left comes out the same -/
theorem mul_mono {r a b : Int} (hr : 0 ≤ r) (h : a ≤ b) : r * a ≤ r * b := Int.mul_le_mul_of_nonneg_left h hr
theorem re_end {rate burst l t now l' t' : Int} (hr : 0 ≤ rate) (hb : 1 ≤ burst) (h0 : 0 ≤ l) (h1 : l ≤ burst) (ht : t ≤ t') (htn : t' ≤ t ∨ t' ≤ now) (hl : l' = l + rate * (t' - t)) (hx : ¬ (t' < now ∧ l' < burst ∧ 0 < rate)) :
    (if l' > burst then burst else l') = reL rate burst l t now ∧ (if t' < now then now else t') = reT t now := by
  have hd : 0 ≤ rate * (t' - t) := Int.mul_nonneg hr (by omega)
  refine ⟨?_, ?_⟩
  · unfold reL
    by_cases hn : now ≤ t
    · rw [if_pos hn]
      have e : t' = t := by omega
      subst e
      have : l' = l := by rw [hl]; simp
      subst this
      rw [if_neg (by omega)]
    · rw [if_neg hn]
      by_cases hr0 : rate = 0
      · subst hr0
        have e : l' = l := by rw [hl]; simp
        subst e
        simp
        omega
      · have hr1 : 1 ≤ rate := by omega
        have hrb : burst ≤ rate * burst := by
          have := Int.mul_le_mul_of_nonneg_right hr1 (show 0 ≤ burst by omega)
          omega
        by_cases hq : now - t ≤ burst
        · rw [show min (now - t) burst = now - t by omega]
          by_cases he : t' = now
          · subst he
            rw [← hl]
            split <;> omega
          · have hlb : burst ≤ l' := by omega
            have hm := mul_mono hr (show t' - t ≤ now - t by omega)
            split <;> omega
        · rw [show min (now - t) burst = burst by omega]
          by_cases hlb : burst ≤ l'
          · split <;> omega
          · exfalso
            have he : t' = now := by omega
            subst he
            have hm := mul_mono hr (show burst ≤ t' - t by omega)
            omega
  · unfold reT
    by_cases hn : now ≤ t
    · rw [if_pos hn, if_neg (by omega)]
      omega
    · rw [if_neg hn]
      split <;> omega
end Go.Proofs.Ytdaimcccdleodaa
