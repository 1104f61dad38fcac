import Derived.Test.YtdaimcccdleodaaLr3
/-
  Chapter 15: in any time one is allowed no more than the burst, and the rate for each second: plainly. (The verifier's own text.)
-/
namespace Go.Proofs.Ytdaimcccdleodaa
set_option linter.unusedVariables false
set_option linter.unusedSimpArgs false
open Go.RowKit Go.Shelf Go.Maps

/-- what holds along the asks of one -/
structure Fai (rate burst : Int) (x : ByteArray) (T : List Tr) (ts : List Int) (now : Int) (l : Int) : Prop where
  st : T = [(x, l, now)]
  l0 : 0 ≤ l
  l1 : l ≤ burst
  fair : ∀ j (hj : j < ts.length), ((ts.length : Int) - (j : Int)) + l ≤ burst + rate * (now - ts[j])
  low : ∀ j (hj : j < ts.length), 0 ≤ ts[j] ∧ ts[j] ≤ now
/-- the first ask -/
theorem fair_first {rate burst now : Int} {s x : ByteArray} (hs : whoB s = some x) (hb : 1 ≤ burst) (hn : 0 ≤ now) : aB rate burst [] s now = true ∧ Fai rate burst x (aT rate burst [] s now) [now] now (burst - 1) := by
  obtain ⟨h1, h2⟩ := alw_new (T := []) (x := x) (rate := rate) (burst := burst) (now := now) (by simp) (fun j hj => absurd hj (Nat.not_lt_zero _))
  have e1 : reL rate burst burst now now = burst := if_pos (Int.le_refl _)
  have e2 : reT now now = now := if_pos (Int.le_refl _)
  rw [e1] at h1 h2
  rw [e2] at h2
  have hz : ¬ burst = 0 := by omega
  rw [(tk_one hz).1] at h1
  rw [(tk_one hz).2] at h2
  have e3 : aB rate burst [] s now = alwB rate burst [] x now := by unfold aB; rw [hs]
  have e4 : aT rate burst [] s now = alwT rate burst [] x now := by unfold aT; rw [hs]
  refine ⟨e3.trans h1, ⟨e4.trans h2, by omega, by omega, fun j hj => ?_, fun j hj => ?_⟩⟩
  · obtain rfl : j = 0 := by simpa using hj
    simp
    omega
  · obtain rfl : j = 0 := by simpa using hj
    simp
    omega
theorem reL_le {rate burst l t now : Int} (hr : 0 ≤ rate) (h : t ≤ now) (hl : l ≤ burst) : reL rate burst l t now ≤ l + rate * (now - t) := by
  unfold reL
  split
  · have : now = t := by omega
    subst this
    simp
  · have := mul_mono hr (show min (now - t) burst ≤ now - t by omega)
    omega
/-- each ask behind it -/
theorem fair_next {rate burst t now l : Int} {s x : ByteArray} {T : List Tr} {ts : List Int} (hs : whoB s = some x) (hr : 0 ≤ rate) (hb : 1 ≤ burst) (ht : t ≤ now) (h0 : 0 ≤ t) (h : Fai rate burst x T ts t l) :
    (aB rate burst T s now = true → ∃ l', Fai rate burst x (aT rate burst T s now) (ts ++ [now]) now l') ∧ (aB rate burst T s now = false → ∃ l', Fai rate burst x (aT rate burst T s now) ts now l') := by
  have hT := h.st
  subst hT
  obtain ⟨h1, h2⟩ := alw_known (T := [(x, l, t)]) (k := 0) (x := x) (l := l) (t := t) (rate := rate) (burst := burst) (now := now) (by simp) (by simp) rfl (fun j hj hj0 => absurd hj0 (Nat.not_lt_zero _))
  have e2 : reT t now = now := by unfold reT; split <;> omega
  rw [e2] at h2
  have e3 : aB rate burst [(x, l, t)] s now = alwB rate burst [(x, l, t)] x now := by unfold aB; rw [hs]
  have e4 : aT rate burst [(x, l, t)] s now = alwT rate burst [(x, l, t)] x now := by unfold aT; rw [hs]
  rw [e3, e4, h1, h2]
  have hrl := reL_range (rate := rate) (burst := burst) (left := l) (last := t) (now := now) hr (by omega) h.l0 h.l1
  have hle := reL_le (burst := burst) hr ht h.l1
  generalize reL rate burst l t now = rl at *
  have hmul : ∀ z, rate * (now - z) = rate * (t - z) + rate * (now - t) := fun z => by rw [← Int.mul_add]; congr 1; omega
  refine ⟨fun hbt => ?_, fun hbf => ?_⟩
  · have hz : ¬ rl = 0 := fun e => by rw [(tk_zero e).1] at hbt; cases hbt
    rw [(tk_one hz).2]
    refine ⟨rl - 1, ⟨rfl, by omega, by omega, fun j hj => ?_, fun j hj => ?_⟩⟩
    · rw [List.length_append]
      by_cases hj2 : j < ts.length
      · rw [List.getElem_append_left hj2, hmul]
        have := h.fair j hj2
        simp
        omega
      · have hj3 : j = ts.length := by simp at hj; omega
        subst hj3
        simp
        omega
    · by_cases hj2 : j < ts.length
      · rw [List.getElem_append_left hj2]
        have := h.low j hj2
        omega
      · have hj3 : j = ts.length := by simp at hj; omega
        subst hj3
        simp
        omega
  · have hz : rl = 0 := by
      by_cases e : rl = 0
      · exact e
      · rw [(tk_one e).1] at hbf; cases hbf
    rw [(tk_zero hz).2]
    refine ⟨0, ⟨rfl, by omega, by omega, fun j hj => ?_, fun j hj => ?_⟩⟩
    · rw [hmul]
      have := h.fair j hj
      omega
    · have := h.low j hj
      omega
theorem ownsRow_ft {K : Obj → Prop} {base b e size n : Nat} {w w' : World} {v : Value} {xs : List Value} (h : w.ownsRow b e size v n xs) (hf : Ft K base w w') (hk : ∀ cs, ¬ K (.cells cs e (0, 0))) : w'.ownsRow b e size v n xs := by
  refine ⟨h.1, ?_⟩
  rcases h.2 with hn | ⟨g, cap, cur, rfl, hb, hgg, rest⟩
  · exact .inl hn
  · exact .inr ⟨g, cap, cur, rfl, hb, hf.far g _ hgg (hk cur), rest⟩
/-- what turns while times are noted -/
def IK (o : Obj) : Prop := match o with
  | .cells _ T _ => T = 3
  | _ => False
theorem ik_row {w w' : World} {b n base : Nat} {v : Value} {xs : List Value} (ho : w.ownsRow b 3 1 v n xs) (hg : w.grownBy w' v.ownBlock) (hb : base ≤ b) : Ft IK base w w' := by
  rcases ho.2 with ⟨rfl, _⟩ | ⟨g, cap, cur, rfl, hbg, hgg, _⟩
  · exact Ft.idle hg
  · exact Ft.one hg hgg rfl (Nat.le_trans hb hbg)
end Go.Proofs.Ytdaimcccdleodaa
