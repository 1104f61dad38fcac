import Derived.Test.YtdaimcccdleodaaLm4
/-
  Chapter 15: one comes to a limiter, one goes. (The verifier's own text.)
-/
namespace Go.Proofs.Ytdaimcccdleodaa
set_option linter.unusedVariables false
set_option linter.unusedSimpArgs false
open Go.RowKit Go.Shelf Go.Maps

theorem lk_lim (cs : Array Value) : LK (.cells cs 56 (0, 0)) := .inl rfl
theorem lk_par (cs : Array Value) : LK (.cells cs 59 (0, 0)) := .inr (.inl rfl)
theorem lk_acc (cs : Array Value) : LK (.cells cs 67 (0, 0)) := .inr (.inr rfl)
theorem lk_map (es : Array MapEntry) (c : Nat) : LK (.map es c) := trivial
theorem row_ft {w w' : World} {b e size n base : Nat} {v : Value} {xs : List Value} {K : Obj → Prop} (ho : Orow w b e size v n xs) (hg : w.grownBy w' v.ownBlock) (hK : ∀ cs, K (.cells cs e (0, 0))) (hb : base ≤ b) : Ft K base w w' := by
  rcases ho.2 with ⟨rfl, _⟩ | ⟨g, o, cap, cur, rfl, hbg, hgg, _⟩
  · exact Ft.idle hg
  · exact Ft.one hg hgg (hK _) (Nat.le_trans hb hbg)
theorem map_ft {w w' : World} {M n base : Nat} {f : ByteArray → Option Nat} (h : MPa w M n f) (hg : w.grownBy w' (some M)) (hb : base ≤ M) : Ft LK base w w' := by
  obtain ⟨D, ⟨es, clock, hM, _⟩, _⟩ := h
  exact Ft.one hg hM (lk_map _ _) hb

/-- one more -/
theorem Lim.push {w wb w5 W w7 : World} {L M base n A g f cap : Nat} {qv : Value} {rate burst now : Int} {S : List En} {x : ByteArray} (h : Lim w L M base qv n rate burst S)
    (hx : paG x) (hnew : ∀ e ∈ S, e.who ≠ x) (hlen : S.length < 1000) (hb0 : 0 ≤ burst) (hnow : (Lit.int .i64 now).wf = true)
    (gb : w.grownBy wb none) (hA : Bx wb A #[.int .i64 burst, .int .i64 now] 67) (hAn : w.heap.size ≤ A)
    (m5 : MPa w5 M (n + 1) (blkF (S ++ [⟨x, A, burst, now⟩]))) (g5 : wb.grownBy w5 (some M)) (gW : w5.grownBy W none)
    (o7 : Orow w7 base 59 8 (.slice (some ⟨g, f * 8, none⟩) (S.length + 1) cap) (S.length + 1) (rowV paC (S.map (·.who)) ++ paC x)) (g7 : W.grownBy w7 qv.ownBlock) (hg : qv.ownBlock = some g ∨ g = W.heap.size) :
    Lim (w7.setCell ⟨L, 3, none⟩ (.slice (some ⟨g, f * 8, none⟩) (S.length + 1) cap)) L M base (.slice (some ⟨g, f * 8, none⟩) (S.length + 1) cap) (n + 1) rate burst (S ++ [⟨x, A, burst, now⟩]) ∧ Ft LK base w (w7.setCell ⟨L, 3, none⟩ (.slice (some ⟨g, f * 8, none⟩) (S.length + 1) cap)) := by
  have hb := h.grown gb
  have nLM : L ≠ M := bx_map hb.bx hb.mp
  have nAM : A ≠ M := bx_map hA hb.mp
  have x5 := hb.bx.grown g5 (by simp; omega)
  have q5 := hb.q.kept g5 (fun k e e' => by cases e'; exact map_row hb.mp hb.q e rfl)
  have a5 : ∀ e ∈ S, Bx w5 e.blk #[.int .i64 e.left, .int .i64 e.last] 67 := fun e he => (hb.ac e he).1.grown g5 (by have := bx_map (hb.ac e he).1 hb.mp; simp; omega)
  have A5 := hA.grown g5 (by simp; omega)
  have xW := x5.grown gW (by simp)
  have qW := q5.kept gW (fun _ _ => by simp)
  have AW := A5.grown gW (by simp)
  have mW := m5.grown gW (by simp)
  have x7 := xW.grown g7 (fun e => bx_row xW qW e (by decide) rfl)
  have A7 := AW.grown g7 (fun e => bx_row AW qW e (by decide) rfl)
  have a7 : ∀ e ∈ S, Bx w7 e.blk #[.int .i64 e.left, .int .i64 e.last] 67 := fun e he => ((a5 e he).grown gW (by simp)).grown g7 (fun e' => bx_row ((a5 e he).grown gW (by simp)) qW e' (by decide) rfl)
  have m7 := mW.grown g7 (fun e => map_row mW qW e.symm rfl)
  have g8 := grown_set w7 L 3 (.slice (some ⟨g, f * 8, none⟩) (S.length + 1) cap)
  have x8 : Bx (w7.setCell ⟨L, 3, none⟩ (.slice (some ⟨g, f * 8, none⟩) (S.length + 1) cap)) L #[.int .i64 rate, .int .i64 burst, .map (some M), .slice (some ⟨g, f * 8, none⟩) (S.length + 1) cap] 56 := x7.set 3 _
  have hlt : ∀ e ∈ S, e.blk < w.heap.size := fun e he => (h.ac e he).1.lt
  refine ⟨⟨x8, m7.grown g8 (by simp; omega), ?_, ?_, ?_, ?_, ?_, by simp; omega, h.bL, h.bM, Nat.le_trans h.bW (Nat.le_trans gb.size (Nat.le_trans g5.size (Nat.le_trans gW.size (Nat.le_trans g7.size g8.size))))⟩, ?_⟩
  · have := o7.kept g8 (fun k e e' => bx_row x7 o7 e (by decide) (Option.some.inj e'))
    rw [List.length_append, List.map_append, rowV_app]
    simpa [rowV] using this
  · intro e he
    rcases List.mem_append.1 he with he | he
    · exact ⟨(a7 e he).grown g8 (by have := bx_kind x7 (a7 e he) (by decide); simp; omega), (h.ac e he).2⟩
    · obtain rfl := List.mem_singleton.1 he
      exact ⟨A7.grown g8 (by have := bx_kind x7 A7 (by decide); simp; omega), Nat.le_trans h.bW hAn⟩
  · intro e he
    rcases List.mem_append.1 he with he | he
    · exact h.good e he
    · obtain rfl := List.mem_singleton.1 he
      exact ⟨hx, hb0, Int.le_refl _, hnow⟩
  · rw [List.map_append]
    refine List.nodup_append.2 ⟨h.who, by simp, fun a ha b hb e => ?_⟩
    obtain ⟨y, hy, rfl⟩ := List.mem_map.1 ha
    have hbx : b = x := by simpa using hb
    exact hnew y hy (e.trans hbx)
  · rw [List.map_append]
    refine List.nodup_append.2 ⟨h.blk, by simp, fun a ha b hb e => ?_⟩
    obtain ⟨y, hy, rfl⟩ := List.mem_map.1 ha
    have hbx : b = A := by simpa using hb
    have := hlt y hy
    omega
  · exact (Ft.idle gb).trans ((map_ft hb.mp g5 h.bM).trans ((Ft.idle gW).trans ((row_ft qW g7 lk_par (Nat.le_refl _)).trans (Ft.one g8 x7 (lk_lim _) h.bL))))

theorem Lim.push0 {w wb w5 W w7 : World} {L M base n : Nat} {qv : Value} {rate burst : Int} {S : List En} (h : Lim w L M base qv n rate burst S)
    (gb : w.grownBy wb none) (g5 : wb.grownBy w5 (some M)) (gW : w5.grownBy W none) (g7 : W.grownBy w7 qv.ownBlock) : w7.cell? ⟨L, 3, none⟩ = some qv ∧ w7.frozen? ⟨L, 3, none⟩ = false := by
  have hb := h.grown gb
  have nLM : L ≠ M := bx_map hb.bx hb.mp
  have x5 := hb.bx.grown g5 (by simp; omega)
  have q5 := hb.q.kept g5 (fun k e e' => by cases e'; exact map_row hb.mp hb.q e rfl)
  have xW := x5.grown gW (by simp)
  have qW := q5.kept gW (fun _ _ => by simp)
  have x7 := xW.grown g7 (fun e => bx_row xW qW e (by decide) rfl)
  exact ⟨x7.cell rfl, x7.free 3⟩
/-- the first one goes -/
theorem Lim.pop {w w2 : World} {L M base n g o cap : Nat} {qv : Value} {rate burst : Int} {e0 : En} {T : List En} (h : Lim w L M base qv n rate burst (e0 :: T))
    (m2 : MPa w2 M n (blkF T)) (g2 : w.grownBy w2 (some M)) (hq : Orow w base 59 8 (.slice (some ⟨g, o * 8 + 8, none⟩) T.length (cap - 1)) T.length (rowV paC (T.map (·.who)))) :
    Lim (w2.setCell ⟨L, 3, none⟩ (.slice (some ⟨g, o * 8 + 8, none⟩) T.length (cap - 1))) L M base (.slice (some ⟨g, o * 8 + 8, none⟩) T.length (cap - 1)) n rate burst T ∧ Ft LK base w (w2.setCell ⟨L, 3, none⟩ (.slice (some ⟨g, o * 8 + 8, none⟩) T.length (cap - 1))) := by
  have nLM : L ≠ M := bx_map h.bx h.mp
  have x2 := h.bx.grown g2 (by simp; omega)
  have q2 := hq.kept g2 (fun k e e' => by cases e'; exact map_row h.mp hq e rfl)
  have a2 : ∀ e ∈ e0 :: T, Bx w2 e.blk #[.int .i64 e.left, .int .i64 e.last] 67 := fun e he => (h.ac e he).1.grown g2 (by have := bx_map (h.ac e he).1 h.mp; simp; omega)
  have g3 := grown_set w2 L 3 (.slice (some ⟨g, o * 8 + 8, none⟩) T.length (cap - 1))
  refine ⟨⟨x2.set 3 _, m2.grown g3 (by simp; omega), q2.kept g3 (fun k e e' => bx_row x2 q2 e (by decide) (Option.some.inj e')), fun e he => ⟨(a2 e (by simp [he])).grown g3 (by have := bx_kind x2 (a2 e (by simp [he])) (by decide); simp; omega), (h.ac e (by simp [he])).2⟩, fun e he => h.good e (by simp [he]), ?_, ?_, ?_, h.bL, h.bM, Nat.le_trans h.bW (Nat.le_trans g2.size g3.size)⟩, ?_⟩
  · have := h.who; simp only [List.map_cons, List.nodup_cons] at this; exact this.2
  · have := h.blk; simp only [List.map_cons, List.nodup_cons] at this; exact this.2
  · have := h.len; simp at this; omega
  · exact (map_ft h.mp g2 h.bM).trans (Ft.one g3 x2 (lk_lim _) h.bL)
end Go.Proofs.Ytdaimcccdleodaa
