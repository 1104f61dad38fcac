import Derived.Test.YtdaimcccdleodaaLr1
import Derived.Test.YtdaimcccdleodaaLr2
/-
  Chapter 15: the reference's limiter: one comes, one goes; plainly. (The verifier's own text.)
-/
namespace Go.Proofs.Ytdaimcccdleodaa
set_option linter.unusedVariables false
set_option linter.unusedSimpArgs false
open Go.RowKit Go.Shelf Go.Maps

theorem rk_lim (cs : Array Value) : RK (.cells cs 38 (0, 0)) := .inl rfl
theorem rk_one (cs : Array Value) : RK (.cells cs 69 (0, 0)) := .inr rfl
theorem infoOne : (Try.prog.info? 69).map (fun i => (i.zero, i.size, i.bytes)) = some (some (.agg #[.string ⟨#[]⟩, .int .i64 0, .int .i64 0]), 3, 32) := by kernel_rfl
section
variable {w W w7 : World} {R base g f cap : Nat} {qv : Value} {rate burst now : Int} {T : List Tr} {x : ByteArray}
theorem Ref.push0 (h : Ref w R base qv rate burst T) (gW : w.grownBy W none) (g7 : W.grownBy w7 qv.ownBlock) : w7.cell? ⟨R, 2, none⟩ = some qv ∧ w7.frozen? ⟨R, 2, none⟩ = false := by
  have hW := h.grown gW
  have x7 := hW.bx.grown g7 (fun e => bx_row hW.bx hW.q e (by decide) rfl)
  exact ⟨x7.cell rfl, x7.free 2⟩
theorem Ref.push (h : Ref w R base qv rate burst T) (gW : w.grownBy W none) (g7 : W.grownBy w7 qv.ownBlock)
    (o7 : Orow w7 base 69 3 (.slice (some ⟨g, f * 3, none⟩) (T.length + 1) cap) (T.length + 1) (rowV trV T ++ trV (x, burst, now))) :
    Bx (w7.setCell ⟨R, 2, none⟩ (.slice (some ⟨g, f * 3, none⟩) (T.length + 1) cap)) R #[.int .i64 rate, .int .i64 burst, .slice (some ⟨g, f * 3, none⟩) (T.length + 1) cap] 38
    ∧ Orow (w7.setCell ⟨R, 2, none⟩ (.slice (some ⟨g, f * 3, none⟩) (T.length + 1) cap)) base 69 3 (.slice (some ⟨g, f * 3, none⟩) (T.length + 1) cap) (T.length + 1) (rowV trV (T ++ [(x, burst, now)]))
    ∧ Ft RK base w (w7.setCell ⟨R, 2, none⟩ (.slice (some ⟨g, f * 3, none⟩) (T.length + 1) cap)) := by
  have hW := h.grown gW
  have x7 := hW.bx.grown g7 (fun e => bx_row hW.bx hW.q e (by decide) rfl)
  have g8 := grown_set w7 R 2 (.slice (some ⟨g, f * 3, none⟩) (T.length + 1) cap)
  refine ⟨x7.set 2 _, ?_, (Ft.idle gW).trans ((row_ft hW.q g7 rk_one (Nat.le_refl _)).trans (Ft.one g8 x7 (rk_lim _) h.bR))⟩
  rw [rowV_snoc]
  exact o7.kept g8 (fun k e e' => bx_row x7 o7 e (by decide) (Option.some.inj e'))
/-- the first one goes -/
theorem Ref.pop {y : Tr} {T2 : List Tr} {n : Nat} (hb : Bx w R #[.int .i64 rate, .int .i64 burst, .slice (some ⟨g, f * 3, none⟩) (n + 1) cap] 38) (hq : Orow w base 69 3 (.slice (some ⟨g, f * 3, none⟩) (n + 1) cap) (n + 1) (rowV trV (y :: T2))) (hR : base ≤ R) :
    Bx (w.setCell ⟨R, 2, none⟩ (.slice (some ⟨g, f * 3 + 3, none⟩) n (cap - 1))) R #[.int .i64 rate, .int .i64 burst, .slice (some ⟨g, f * 3 + 3, none⟩) n (cap - 1)] 38
    ∧ Orow (w.setCell ⟨R, 2, none⟩ (.slice (some ⟨g, f * 3 + 3, none⟩) n (cap - 1))) base 69 3 (.slice (some ⟨g, f * 3 + 3, none⟩) n (cap - 1)) n (rowV trV T2)
    ∧ Ft RK base w (w.setCell ⟨R, 2, none⟩ (.slice (some ⟨g, f * 3 + 3, none⟩) n (cap - 1))) ∧ n + 1 ≤ cap ∧ cap ≤ maxLen := by
  obtain ⟨g', o', cap', hv, h1, h2, ht⟩ := hq.tail (xs' := rowV trV T2) (by rw [rowV, List.drop_append_of_le_length (by rw [trV_len]; exact Nat.le_refl _), List.drop_of_length_le (by rw [trV_len]; exact Nat.le_refl _)]; rfl)
  injection hv with hv _ hc
  injection hv with hv
  injection hv with hg ho _
  subst hg hc
  rw [← ho] at ht
  have g8 := grown_set w R 2 (.slice (some ⟨g, f * 3 + 3, none⟩) n (cap - 1))
  exact ⟨hb.set 2 _, ht.kept g8 (fun k e e' => bx_row hb ht e (by decide) (Option.some.inj e')), Ft.one g8 hb (rk_lim _) hR, h1, h2⟩
end
section
variable {w4 w' : World} {R base g o cap f k : Nat} {rate burst : Int} {T : List Tr} {x : ByteArray} {l t l0 t0 : Int}
/-- behind the last word -/
theorem RSt.ref (h : RSt w4 w' R base g o cap f rate burst T k x l t) (h0 : RSt w4 w4 R base g o cap f rate burst T k x l0 t0) (hg : ∀ y ∈ T, 0 ≤ y.2.1 ∧ y.2.1 ≤ burst ∧ (Lit.int .i64 y.2.2).wf = true) (hl : T.length ≤ 1000) (h1 : 0 ≤ l) (h2 : l ≤ burst) (h3 : (Lit.int .i64 t).wf = true) (hR : base ≤ R) (hW : base ≤ w4.heap.size) :
    Ref w' R base (.slice (some ⟨g, o * 3, none⟩) T.length cap) rate burst (T.set k (x, l, t)) ∧ Ft RK base w4 w' := by
  refine ⟨⟨h.bx, by rw [List.length_set]; exact h.q, fun y hy => ?_, by rw [List.length_set]; exact hl, hR, Nat.le_trans hW h.gr.size⟩, row_ft h0.q h.gr rk_one (Nat.le_refl _)⟩
  rcases List.mem_or_eq_of_mem_set hy with hy | rfl
  · exact hg y hy
  · exact ⟨h1, h2, h3⟩
end
theorem putT_set : ∀ {T : List Tr} {k : Nat} {x : ByteArray} {l t l0 t0 : Int}, (T.map (·.1)).Nodup → T[k]? = some (x, l0, t0) → putT T x l t = T.set k (x, l, t)
  | y :: T, 0, x, l, t, l0, t0, hn, h => by
    simp only [List.getElem?_cons_zero, Option.some.injEq] at h
    subst h
    simp only [List.map_cons, List.nodup_cons] at hn
    unfold putT
    rw [List.map_cons, List.set_cons_zero]
    have e : T.map (fun y : Tr => if y.1 = x then (y.1, l, t) else y) = T := by
      conv => rhs; rw [← List.map_id T]
      apply List.map_congr_left
      intro z hz
      have hzx : ¬ z.1 = x := fun e => hn.1 (by rw [← e]; exact List.mem_map_of_mem hz)
      rw [if_neg hzx]
      rfl
    simp [e]
  | y :: T, k + 1, x, l, t, l0, t0, hn, h => by
    simp only [List.map_cons, List.nodup_cons] at hn
    have hT : T[k]? = some (x, l0, t0) := by simpa using h
    have ih := putT_set (l := l) (t := t) hn.2 hT
    unfold putT at *
    rw [List.map_cons, List.set_cons_succ, ih]
    have : y.1 ≠ x := fun e => hn.1 (by
      have := List.mem_map_of_mem (f := (·.1)) (List.mem_of_getElem? hT)
      rw [e]; exact this)
    rw [if_neg this]
theorem find_first {T : List Tr} {k : Nat} {x : ByteArray} {l t : Int} (hk : k < T.length) (h : T[k] = (x, l, t)) (hb : ∀ j (hj : j < T.length), j < k → ¬ T[j].1 = x) : T.find? (fun y => decide (y.1 = x)) = some (x, l, t) := by
  rw [List.find?_eq_some_iff_getElem]
  exact ⟨by simp, k, hk, h, fun j hj => by simpa using hb j (by omega) hj⟩
/-- one that is known -/
theorem alw_known {T : List Tr} {k : Nat} {x : ByteArray} {l t rate burst now : Int} (hn : (T.map (·.1)).Nodup) (hk : k < T.length) (h : T[k] = (x, l, t)) (hb : ∀ j (hj : j < T.length), j < k → ¬ T[j].1 = x) :
    alwB rate burst T x now = tkB (reL rate burst l t now) ∧ alwT rate burst T x now = T.set k (x, tkL (reL rate burst l t now), reT t now) := by
  have ha : addT burst T x now = T := by
    unfold addT
    rw [if_pos]
    exact List.any_eq_true.2 ⟨T[k], List.getElem_mem hk, by rw [h]; simp⟩
  have hg : getT T x = (l, t) := by
    unfold getT
    rw [find_first hk h hb]
    rfl
  unfold alwB alwT
  simp only [ha, hg]
  exact ⟨trivial, putT_set (l0 := l) (t0 := t) hn (by rw [List.getElem?_eq_getElem hk, h])⟩
/-- one that isn't -/
theorem alw_new {T : List Tr} {x : ByteArray} {rate burst now : Int} (hn : (T.map (·.1)).Nodup) (h : ∀ j (hj : j < T.length), ¬ T[j].1 = x) :
    alwB rate burst T x now = tkB (reL rate burst burst now now) ∧ alwT rate burst T x now = (goL T ++ [(x, burst, now)]).set (goL T).length (x, tkL (reL rate burst burst now now), reT now now) := by
  have hne : ∀ y ∈ T, ¬ y.1 = x := fun y hy => by
    obtain ⟨j, hj, rfl⟩ := List.getElem_of_mem hy
    exact h j hj
  have ha : addT burst T x now = goL T ++ [(x, burst, now)] := by
    unfold addT
    rw [if_neg]
    intro hh
    obtain ⟨y, hy, h1⟩ := List.any_eq_true.1 hh
    exact hne y hy (of_decide_eq_true h1)
  have hnd : ((goL T ++ [(x, burst, now)]).map (·.1)).Nodup := by
    rw [List.map_append, goL_map]
    refine List.nodup_append.2 ⟨?_, by simp, fun a ha' b hb' e => ?_⟩
    · unfold goL
      split
      · exact hn.sublist (List.tail_sublist _)
      · exact hn
    · rw [← goL_map] at ha'
      obtain ⟨y, hy, rfl⟩ := List.mem_map.1 ha'
      have hbx : b = x := by simpa using hb'
      exact hne y (goL_mem hy) (e.trans hbx)
  have hk : (goL T).length < (goL T ++ [(x, burst, now)]).length := by simp
  have hget : (goL T ++ [(x, burst, now)])[(goL T).length] = (x, burst, now) := by simp
  have hb : ∀ j (hj : j < (goL T ++ [(x, burst, now)]).length), j < (goL T).length → ¬ (goL T ++ [(x, burst, now)])[j].1 = x := fun j hj hjl => by
    rw [List.getElem_append_left hjl]
    exact hne _ (goL_mem (List.getElem_mem hjl))
  have hg : getT (goL T ++ [(x, burst, now)]) x = (burst, now) := by
    unfold getT
    rw [find_first hk hget hb]
    rfl
  unfold alwB alwT
  simp only [ha, hg]
  exact ⟨trivial, putT_set (l0 := burst) (t0 := now) hnd (by rw [List.getElem?_eq_getElem hk, hget])⟩
theorem ba_beq (a b : ByteArray) : (a.toList == b.toList) = decide (a = b) := by
  rw [ByteArray.toList_eq, ByteArray.toList_eq]
  by_cases h : a = b
  · subst h; simp
  · have : ¬ a.data.toList = b.data.toList := fun e => h (by
      obtain ⟨⟨l⟩⟩ := a
      obtain ⟨⟨k⟩⟩ := b
      simp only at e
      rw [e])
    rw [decide_eq_false h]
    exact beq_false_of_ne this
end Go.Proofs.Ytdaimcccdleodaa
