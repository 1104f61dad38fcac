import Derived.Test.YtmbjmokhkonpiaaGreatDoorDbdG
/-
  The first word of data that are known is not the mark of raw bytes, plainly. (The verifier's own text.)
-/
namespace Go.Proofs.YtmbjmokhkonpiaaGreatDoor
set_option linter.unusedVariables false
set_option linter.unusedSimpArgs false
open Go Go.Proofs.YtmbjmokhkonpiaaGreatDoor.Nm

/-- kinds that may stand first -/
def fstK (k : Kind) : Bool := decide ((k : Nat) ≤ 4 ∨ (k : Nat) = 10 ∨ 13 ≤ (k : Nat))
theorem not_mark {t : List Nat} (h1 : ∀ x ∈ t, x < 256) (h2 : t ≠ [92, 35]) (q : Bool) : (decide (bts t = ⟨#[92, 35]⟩) && !q) = false := by
  rw [decide_eq_false, Bool.false_and]
  intro e
  apply h2
  rw [← lsB_bts h1, e]
  decide +kernel
theorem not_mark_q (t : List Nat) : (decide (bts t = ⟨#[92, 35]⟩) && !true) = false := by simp
theorem d16_no92 : ∀ v, v < 16 → bt d16 v ≠ 92 := by decide +kernel
theorem grL_no92 {U : List Nat} {x : Nat} (h : x ∈ grL U) : x ≠ 92 := by
  rcases jnC_mem h with e | ⟨y, hy, e⟩
  · omega
  · obtain ⟨a, _, rfl⟩ := List.mem_map.1 hy
    obtain ⟨v, hv, rfl⟩ := List.mem_map.1 e
    exact d16_no92 v (hxV_lt a a (Nat.le_refl _) v hv)
theorem nameT_no92 {t : Nat} (h1 : 1 ≤ t) (h2 : t ≤ 65535) : lsB (nameT (t : Int)) ≠ [92, 35] := by
  have hty : isTy (t : Int) = true := by unfold isTy; exact decide_eq_true (by omega)
  unfold nameT
  rw [if_pos hty]
  cases hf : twFind (t : Int) with
  | some s =>
    simp only
    unfold twFind at hf
    cases hq : tw.find? (fun r => decide ((r.1 : Int) = t)) with
    | none => rw [hq] at hf; cases hf
    | some r =>
      rw [hq] at hf
      simp only [Option.map_some, Option.some.injEq] at hf
      subst hf
      have hm := List.mem_of_find?_eq_some hq
      have key : ∀ r ∈ tw, lsB r.2 ≠ [92, 35] := by decide +kernel
      exact key r hm
  | none =>
    simp only
    have e : (⟨#[84, 89, 80, 69]⟩ : ByteArray) ++ ⟨(Lib.itoa (t : Int)).toArray⟩ = bts ([84, 89, 80, 69] ++ dgN t) := by
      rw [bts_append, bts_dg]
      congr 1
    rw [e, lsB_bts (fun x hx => by
      rcases List.mem_append.1 hx with h | h
      · have key : ∀ x ∈ [84, 89, 80, 69], x < 256 := by decide
        exact key x h
      · have := dgN_dig t x h
        omega)]
    simp
theorem first_word (k : Kind) (b : ByteArray) (hf : fstK k = true) (hk : kKn k = true) (hs : kindSize k b = some b.size) (hb : b.size ≤ 65535) : ∃ (z : Wz) (R : List Wz), tellK k b = z :: R ∧ (decide (bts z.t = ⟨#[92, 35]⟩) && !z.q) = false := by
  rcases kind_cases k with rfl | rfl | rfl | rfl | rfl | rfl | rfl | rfl | rfl | rfl | rfl | rfl | rfl | ⟨m, rfl⟩
  · refine ⟨_, [], rfl, ?_⟩
    simp only [kindSize, fixS] at hs
    have hok := (ip4_ok b (by split at hs <;> simp at hs; omega)).1
    refine not_mark hok.lt (fun e => ?_) _
    have h92 : 92 ∈ ip4L b := by
      have e' : ip4L b = [92, 35] := e
      rw [e']; simp
    rcases jnC_mem h92 with e2 | ⟨y, hy, e2⟩
    · omega
    · obtain ⟨a, _, rfl⟩ := List.mem_map.1 hy
      have := dgN_dig a 92 e2
      omega
  · refine ⟨_, [], rfl, ?_⟩
    refine not_mark (ip6_ok b).1.lt (fun e => ?_) _
    have h92 : 92 ∈ ip6U (g16 b) := by
      have e' : ip6U (g16 b) = [92, 35] := e
      rw [e']; simp
    unfold ip6U at h92
    split at h92
    · exact grL_no92 h92 rfl
    · rcases List.mem_append.1 h92 with e2 | e2
      · exact grL_no92 e2 rfl
      · rcases List.mem_cons.1 e2 with e3 | e3
        · omega
        · rcases List.mem_cons.1 e3 with e4 | e4
          · omega
          · exact grL_no92 e4 rfl
  · refine ⟨_, [], rfl, ?_⟩
    have hd := (domS_some hs).2.2.2
    rw [ext_full] at hd
    have := dom_ok hd
    refine not_mark this.1.lt (fun e => ?_) _
    have h1 := this.2.2
    simp only at e
    rw [e] at h1
    cases h1
  · exact ⟨_, [], rfl, not_mark_q _⟩
  · obtain ⟨x, X, hX, rfl⟩ := txtS_row hs
    have e : tellK 4 (chunks (x :: X)) = (x :: X).map txW := txtW_chunks (x :: X) _ hX (chunks_len _)
    exact ⟨txW x, X.map txW, by rw [e, List.map_cons], not_mark_q _⟩
  · cases hf
  · cases hf
  · cases hf
  · cases hf
  · cases hf
  · simp only [kindSize] at hs
    unfold oneS at hs
    split at hs
    · cases hs
    · rename_i hno
      simp only [Option.some.injEq] at hs
      have h0 := bt_lt b 0
      have h1 := bt_lt b 1
      have hv : vN b b.size = bt b 0 * 256 + bt b 1 := by
        rw [← hs]
        simp [vN]
      refine ⟨_, [], rfl, not_mark (lsB_lt _) (nameT_no92 (by omega) (by omega)) _⟩
  · cases hf
  · cases hf
  · refine ⟨_, [], rfl, not_mark (fun x hx => by have := dgN_dig _ x hx; omega) (fun e => ?_) _⟩
    have h92 : 92 ∈ dgN (vN b b.size) := by
      have e' : dgN (vN b b.size) = [92, 35] := e
      rw [e']; simp
    have := dgN_dig _ 92 h92
    omega
theorem kinds_first {t : Int} {ks : List Kind} (h : kindsOf t = some ks) : ks = [12] ∨ ∃ k l, ks = k :: l ∧ fstK k = true := by
  unfold kindsOf at h
  by_cases hc : t = 1
  · rw [if_pos hc] at h; cases h; exact .inr ⟨_, _, rfl, by decide⟩
  rw [if_neg hc] at h; clear hc
  by_cases hc : t = 2 ∨ t = 5 ∨ t = 12 ∨ t = 39
  · rw [if_pos hc] at h; cases h; exact .inr ⟨_, _, rfl, by decide⟩
  rw [if_neg hc] at h; clear hc
  by_cases hc : t = 6
  · rw [if_pos hc] at h; cases h; exact .inr ⟨_, _, rfl, by decide⟩
  rw [if_neg hc] at h; clear hc
  by_cases hc : t = 13
  · rw [if_pos hc] at h; cases h; exact .inr ⟨_, _, rfl, by decide⟩
  rw [if_neg hc] at h; clear hc
  by_cases hc : t = 15
  · rw [if_pos hc] at h; cases h; exact .inr ⟨_, _, rfl, by decide⟩
  rw [if_neg hc] at h; clear hc
  by_cases hc : t = 16
  · rw [if_pos hc] at h; cases h; exact .inr ⟨_, _, rfl, by decide⟩
  rw [if_neg hc] at h; clear hc
  by_cases hc : t = 28
  · rw [if_pos hc] at h; cases h; exact .inr ⟨_, _, rfl, by decide⟩
  rw [if_neg hc] at h; clear hc
  by_cases hc : t = 33
  · rw [if_pos hc] at h; cases h; exact .inr ⟨_, _, rfl, by decide⟩
  rw [if_neg hc] at h; clear hc
  by_cases hc : t = 35
  · rw [if_pos hc] at h; cases h; exact .inr ⟨_, _, rfl, by decide⟩
  rw [if_neg hc] at h; clear hc
  by_cases hc : t = 43
  · rw [if_pos hc] at h; cases h; exact .inr ⟨_, _, rfl, by decide⟩
  rw [if_neg hc] at h; clear hc
  by_cases hc : t = 46
  · rw [if_pos hc] at h; cases h; exact .inr ⟨_, _, rfl, by decide⟩
  rw [if_neg hc] at h; clear hc
  by_cases hc : t = 47
  · rw [if_pos hc] at h; cases h; exact .inr ⟨_, _, rfl, by decide⟩
  rw [if_neg hc] at h; clear hc
  by_cases hc : t = 48
  · rw [if_pos hc] at h; cases h; exact .inr ⟨_, _, rfl, by decide⟩
  rw [if_neg hc] at h; clear hc
  by_cases hc : t = 50
  · rw [if_pos hc] at h; cases h; exact .inr ⟨_, _, rfl, by decide⟩
  rw [if_neg hc] at h; clear hc
  by_cases hc : t = 51
  · rw [if_pos hc] at h; cases h; exact .inr ⟨_, _, rfl, by decide⟩
  rw [if_neg hc] at h; clear hc
  by_cases hc : t = 257
  · rw [if_pos hc] at h; cases h; exact .inr ⟨_, _, rfl, by decide⟩
  rw [if_neg hc] at h; clear hc
  by_cases hc : isDT t = true
  · rw [if_pos hc] at h; cases h; exact .inl rfl
  rw [if_neg hc] at h; cases h
end Go.Proofs.YtmbjmokhkonpiaaGreatDoor
