import Derived.Test.YtfofdcacikbflaaSt2
namespace Go.Proofs.Ytfofdcacikbflaa
set_option linter.unusedVariables false
open Go.Proofs.Ytfofdcacikbflaa.Nm

/-- the blocks that are done, and the bytes of the one under way: what they tell -/
structure Pre (P : List Int) (D mk : List Nat) (b : Nat) (last : Int) (UD : List Nat) : Prop where
  low : -1 ≤ last
  lt : last < (b : Int)
  dlen : D.length ≤ 34 * b
  dlt : ∀ x ∈ D, x < 256
  mlt : ∀ x ∈ mk, x < 256
  parse : ∀ tail : List Nat, (∀ x ∈ tail, x < 256) → typS (-1) (bts (D ++ tail)) = (typS last (bts tail)).map (UD ++ ·)
  rise : UD.Pairwise (· < ·)
  below : ∀ x ∈ UD, x < b * 256
  mem : ∀ n : Nat, (n ∈ UD ∨ (n / 256 = b ∧ bitL mk (n % 256) = 1)) ↔ ((n : Int) ∈ P ∧ isTy n = true)
/-- what holds of a set under way -/
def Inv (P : List Int) (s : SetS) : Prop :=
  (s = SetS.init ∧ ∀ t ∈ P, isTy t = false) ∨
  ∃ (D mk : List Nat) (b : Nat) (last : Int) (UD : List Nat) (top : Nat), s = ⟨D, b, mk⟩ ∧ Pre P D mk b last UD ∧ b = top / 256 ∧ mk.length = top % 256 / 8 + 1 ∧ top ≤ 65535 ∧ mk.getD (mk.length - 1) 0 ≠ 0 ∧ (top : Int) ∈ P

theorem pre_mark {P : List Int} {D mk : List Nat} {last : Int} {UD : List Nat} {n : Nat} (h : Pre P D mk (n / 256) last UD) (hn1 : 1 ≤ n) (hn : n ≤ 65535) (hl : mk.length ≤ n % 256 / 8 + 1) :
    Inv (P ++ [(n : Int)]) ((SetS.fill ⟨D, (n / 256 : Nat), mk⟩ (n % 256 / 8)).mark (2 ^ (7 - n % 8))) := by
  right
  have hty : isTy (n : Int) = true := by unfold isTy; exact decide_eq_true (by omega)
  have hp : 2 ^ (7 - n % 8) ≤ 2 ^ 7 := Nat.pow_le_pow_right (by omega) (by omega)
  obtain ⟨mk1, hmk1⟩ : ∃ mk1, mk ++ List.replicate (n % 256 / 8 + 1 - mk.length) 0 = mk1 := ⟨_, rfl⟩
  have hl1 : mk1.length = n % 256 / 8 + 1 := by rw [← hmk1, List.length_append, List.length_replicate]; omega
  have hm1 : ∀ x ∈ mk1, x < 256 := fun x hx => by
    rw [← hmk1] at hx
    rcases List.mem_append.1 hx with h' | h'
    · exact h.mlt x h'
    · have := (List.mem_replicate.1 h').2; omega
  have hv : mk1.getD (mk1.length - 1) 0 ||| 2 ^ (7 - n % 8) < 256 := Nat.or_lt_two_pow (n := 8) (getD_lt hm1 _) (by omega)
  have hb := bit_mark mk n
  simp only [hmk1] at hb
  refine ⟨D, mk1.set (mk1.length - 1) (mk1.getD (mk1.length - 1) 0 ||| 2 ^ (7 - n % 8)), n / 256, last, UD, n, ?_, ⟨h.low, h.lt, h.dlen, h.dlt, ?_, h.parse, h.rise, h.below, ?_⟩, rfl, ?_, hn, ?_, by simp⟩
  · unfold SetS.fill SetS.mark; simp only [hmk1]
  · intro x hx
    rcases List.mem_or_eq_of_mem_set hx with h' | h'
    · exact hm1 x h'
    · omega
  · intro x
    rw [hb (x % 256) hl (by omega)]
    have := h.mem x
    constructor
    · rintro (h' | ⟨h1, h2 | h2⟩)
      · obtain ⟨a, c⟩ := this.1 (.inl h'); exact ⟨List.mem_append_left _ a, c⟩
      · obtain ⟨a, c⟩ := this.1 (.inr ⟨h1, h2⟩); exact ⟨List.mem_append_left _ a, c⟩
      · have : x = n := by omega
        subst this
        exact ⟨by simp, hty⟩
    · rintro ⟨a, c⟩
      rcases List.mem_append.1 a with a | a
      · rcases this.2 ⟨a, c⟩ with h' | ⟨h1, h2⟩
        · exact .inl h'
        · exact .inr ⟨h1, .inl h2⟩
      · have : x = n := by rw [List.mem_singleton] at a; omega
        subst this
        exact .inr ⟨rfl, .inr rfl⟩
  · rw [List.length_set]; exact hl1
  · rw [List.length_set, List.getD_eq_getElem?_getD, List.getElem?_set_self (by omega)]
    show mk1.getD (mk1.length - 1) 0 ||| 2 ^ (7 - n % 8) ≠ 0
    intro e
    have h0 : 0 < 2 ^ (7 - n % 8) := Nat.two_pow_pos _
    have : 2 ^ (7 - n % 8) ≤ mk1.getD (mk1.length - 1) 0 ||| 2 ^ (7 - n % 8) := Nat.right_le_or
    omega

theorem inv_step {P : List Int} {s : SetS} {t : Int} (h : Inv P s) (ht : ∀ x ∈ P, x ≤ t) : Inv (P ++ [t]) (s.step t) := by
  by_cases hty : isTy t = true
  · have h1 : 1 ≤ t ∧ t ≤ 65535 := of_decide_eq_true hty
    obtain ⟨n, hn⟩ : ∃ n : Nat, t = (n : Int) := ⟨t.toNat, by omega⟩
    subst hn
    have e : s.step (n : Int) = ((s.next (n / 256)).fill (n % 256 / 8)).mark (2 ^ (7 - n % 8)) := by unfold SetS.step; rw [if_pos hty]; simp only [Int.toNat_natCast]
    rw [e]
    rcases h with ⟨rfl, hP⟩ | ⟨D, mk, b, last, UD, top, rfl, hpre, hb, hml, ht5, hz, hmem⟩
    · have e2 : SetS.init.next (n / 256) = ⟨[], (n / 256 : Nat), []⟩ := by
        unfold SetS.next; rw [if_neg (by show ¬ (((n / 256 : Nat) : Int) = -1); omega)]; rfl
      rw [e2]
      refine pre_mark (last := -1) (UD := []) ⟨by omega, by omega, by simp, (fun x hx => by cases hx), (fun x hx => by cases hx), (fun tail _ => by simp), List.Pairwise.nil, (fun x hx => by cases hx), ?_⟩ (by omega) (by omega) (by simp)
      intro x
      constructor
      · rintro (h | ⟨_, h⟩)
        · cases h
        · unfold bitL at h; simp at h
      · rintro ⟨a, c⟩
        rw [hP _ a] at c; cases c
    · have htop : (top : Int) ≤ n := ht _ hmem
      by_cases hbk : n / 256 = b
      · subst hbk
        have e2 : SetS.next ⟨D, (n / 256 : Nat), mk⟩ (n / 256) = ⟨D, (n / 256 : Nat), mk⟩ := by unfold SetS.next; rw [if_pos rfl]
        rw [e2]
        exact pre_mark hpre (by omega) (by omega) (by omega)
      · have e2 : SetS.next ⟨D, (b : Nat), mk⟩ (n / 256) = ⟨D ++ b :: mk.length :: mk, (n / 256 : Nat), []⟩ := by
          unfold SetS.next; rw [if_neg (by show ¬ (((n / 256 : Nat) : Int) = (b : Int)); omega), bytes_pos]
        rw [e2]
        have h32 : mk.length ≤ 32 := by omega
        have hnb : b < n / 256 := by omega
        refine pre_mark (last := b) (UD := UD ++ blkT b (bts mk) (8 * mk.length)) ⟨by omega, by omega, by have := hpre.dlen; simp; omega, ?_, (fun x hx => by cases hx), ?_, ?_, ?_, ?_⟩ (by omega) (by omega) (by simp)
        · intro x hx
          rcases List.mem_append.1 hx with h | h
          · exact hpre.dlt x h
          · rcases List.mem_cons.1 h with h | h
            · omega
            · rcases List.mem_cons.1 h with h | h
              · omega
              · exact hpre.mlt x h
        · intro tail htl
          rw [List.append_assoc, hpre.parse _ ?_]
          · rw [blk_parse last b mk tail hpre.lt (by omega) h32 hz (by omega) hpre.mlt htl, Option.map_map]
            congr 1; funext q; simp
          · intro x hx
            simp only [List.cons_append, List.mem_cons, List.mem_append] at hx
            rcases hx with h | h | h | h
            · omega
            · omega
            · exact hpre.mlt x h
            · exact htl x h
        · rw [List.pairwise_append]
          refine ⟨hpre.rise, rise_blkT, fun x hx y hy => ?_⟩
          have := hpre.below x hx
          obtain ⟨i, _, h2, _⟩ := mem_blkT.1 hy
          omega
        · intro x hx
          rcases List.mem_append.1 hx with h | h
          · exact Nat.lt_of_lt_of_le (hpre.below x h) (Nat.mul_le_mul_right _ (Nat.le_of_lt hnb))
          · have := (mem_block hpre.mlt h32).1 h
            have : (b + 1) * 256 ≤ n / 256 * 256 := Nat.mul_le_mul_right _ hnb
            omega
        · intro x
          rw [← hpre.mem x, List.mem_append, mem_block hpre.mlt h32]
          constructor
          · rintro (h | ⟨_, h⟩)
            · exact h
            · unfold bitL at h; simp at h
          · intro h; exact .inl h
  · have e : s.step t = s := by unfold SetS.step; rw [if_neg hty]
    rw [e]
    rcases h with ⟨rfl, hP⟩ | ⟨D, mk, b, last, UD, top, rfl, hpre, hb, hml, ht5, hz, hmem⟩
    · refine .inl ⟨rfl, fun x hx => ?_⟩
      rcases List.mem_append.1 hx with h | h
      · exact hP x h
      · rw [List.mem_singleton] at h; subst h; simpa using hty
    · refine .inr ⟨D, mk, b, last, UD, top, rfl, ⟨hpre.low, hpre.lt, hpre.dlen, hpre.dlt, hpre.mlt, hpre.parse, hpre.rise, hpre.below, fun n => ?_⟩, hb, hml, ht5, hz, List.mem_append_left _ hmem⟩
      rw [hpre.mem n]
      constructor
      · rintro ⟨a, c⟩; exact ⟨List.mem_append_left _ a, c⟩
      · rintro ⟨a, c⟩
        rcases List.mem_append.1 a with a | a
        · exact ⟨a, c⟩
        · rw [List.mem_singleton] at a; rw [a] at c; exact absurd c hty

theorem inv_all : ∀ (M P : List Int) (s : SetS), Inv P s → (P ++ M).Pairwise (· ≤ ·) → Inv (P ++ M) (M.foldl SetS.step s)
  | [], P, s, h, _ => by simpa using h
  | t :: M, P, s, h, hs => by
    have h1 : ∀ x ∈ P, x ≤ t := fun x hx => (List.pairwise_append.1 hs).2.2 x hx t (List.mem_cons_self ..)
    have := inv_all M (P ++ [t]) (s.step t) (inv_step h h1) (by simpa using hs)
    simpa using this
/-- the types of what Set makes -/
theorem set_types (M : List Int) (hs : M.Pairwise (· ≤ ·)) : ∃ U : List Nat, typB (bts (setB M)) = some U ∧ U.Pairwise (· < ·) ∧ (∀ n : Nat, n ∈ U ↔ ((n : Int) ∈ M ∧ isTy n = true)) ∧ (setB M).length ≤ 8704 := by
  have h := inv_all M [] SetS.init (.inl ⟨rfl, fun x hx => by cases hx⟩) (by simpa using hs)
  rw [List.nil_append] at h
  rcases h with ⟨e, hP⟩ | ⟨D, mk, b, last, UD, top, e, hpre, hb, hml, ht5, hz, hmem⟩
  · refine ⟨[], ?_, List.Pairwise.nil, fun n => ⟨fun h => (by cases h), fun ⟨a, c⟩ => ?_⟩, by unfold setB; rw [e]; decide⟩
    · unfold setB; rw [e]; exact typB_some (typS_nil rfl) (by simp)
    · rw [hP _ a] at c; cases c
  · have h32 : mk.length ≤ 32 := by omega
    have hmm : ∀ n : Nat, n ∈ UD ++ blkT b (bts mk) (8 * mk.length) ↔ ((n : Int) ∈ M ∧ isTy n = true) := fun n => by
      rw [← hpre.mem n, List.mem_append, mem_block hpre.mlt h32]
    have hp : typS (-1) (bts (setB M)) = some (UD ++ blkT b (bts mk) (8 * mk.length)) := by
      unfold setB; rw [e, bytes_pos, hpre.parse _ ?_]
      · have := blk_parse last b mk [] hpre.lt (by omega) h32 hz (by omega) hpre.mlt (fun x hx => by cases hx)
        rw [List.append_nil] at this
        rw [this, typS_nil rfl]; simp
      · intro x hx
        rcases List.mem_cons.1 hx with h | h
        · omega
        · rcases List.mem_cons.1 h with h | h
          · omega
          · exact hpre.mlt x h
    refine ⟨_, typB_some hp ?_, ?_, hmm, by unfold setB; rw [e, bytes_pos]; have := hpre.dlen; simp; omega⟩
    · intro h0
      have := (hmm 0).1 (List.mem_of_mem_head? h0)
      have h2 := this.2
      revert h2; decide
    · rw [List.pairwise_append]
      refine ⟨hpre.rise, rise_blkT, fun x hx y hy => ?_⟩
      have := hpre.below x hx
      obtain ⟨i, _, h2, _⟩ := mem_blkT.1 hy
      omega

/-- two rising lists with the same members are one -/
theorem rise_eq : ∀ (A B : List Nat), A.Pairwise (· < ·) → B.Pairwise (· < ·) → (∀ n, n ∈ A ↔ n ∈ B) → A = B
  | [], [], _, _, _ => rfl
  | [], b :: B, _, _, h => by have := (h b).2 (List.mem_cons_self ..); cases this
  | a :: A, [], _, _, h => by have := (h a).1 (List.mem_cons_self ..); cases this
  | a :: A, b :: B, hA, hB, h => by
    rw [List.pairwise_cons] at hA hB
    have hab : a = b := by
      rcases List.mem_cons.1 ((h a).1 (List.mem_cons_self ..)) with h1 | h1
      · exact h1
      · rcases List.mem_cons.1 ((h b).2 (List.mem_cons_self ..)) with h2 | h2
        · exact h2.symm
        · have := hB.1 a h1; have := hA.1 b h2; omega
    subst hab
    rw [rise_eq A B hA.2 hB.2 fun n => ?_]
    constructor
    · intro hn
      rcases List.mem_cons.1 ((h n).1 (List.mem_cons_of_mem _ hn)) with h1 | h1
      · have := hA.1 n hn; omega
      · exact h1
    · intro hn
      rcases List.mem_cons.1 ((h n).2 (List.mem_cons_of_mem _ hn)) with h1 | h1
      · have := hB.1 n hn; omega
      · exact h1
theorem rise_len : ∀ (A : List Nat) (lo hi : Nat), A.Pairwise (· < ·) → (∀ x ∈ A, lo ≤ x ∧ x < hi) → lo ≤ hi → A.length + lo ≤ hi
  | [], lo, hi, _, _, h => by simpa using h
  | a :: A, lo, hi, hp, hx, _ => by
    rw [List.pairwise_cons] at hp
    have ha := hx a (List.mem_cons_self ..)
    have := rise_len A (a + 1) hi hp.2 (fun x h => ⟨hp.1 x h, (hx x (List.mem_cons_of_mem _ h)).2⟩) ha.2
    rw [List.length_cons]; omega
theorem step_twice (s : SetS) (t : Int) : (s.step t).step t = s.step t := by
  by_cases hty : isTy t = true
  · have e : ∀ s : SetS, s.step t = ((s.next (t.toNat / 256)).fill (t.toNat % 256 / 8)).mark (2 ^ (7 - t.toNat % 8)) := fun s => by unfold SetS.step; rw [if_pos hty]
    have hbk : (s.next (t.toNat / 256)).blk = ((t.toNat / 256 : Nat) : Int) := by
      unfold SetS.next
      by_cases h : ((t.toNat / 256 : Nat) : Int) = s.blk
      · rw [if_pos h]; exact h.symm
      · rw [if_neg h]
    rw [e s]
    generalize s.next (t.toNat / 256) = s1 at hbk ⊢
    obtain ⟨D, b, mk⟩ := s1
    obtain rfl : b = ((t.toNat / 256 : Nat) : Int) := hbk
    rw [e]
    unfold SetS.fill SetS.mark
    simp only
    obtain ⟨mk1, hmk1⟩ : ∃ mk1, mk ++ List.replicate (t.toNat % 256 / 8 + 1 - mk.length) 0 = mk1 := ⟨_, rfl⟩
    have hl1 : t.toNat % 256 / 8 + 1 ≤ mk1.length := by rw [← hmk1, List.length_append, List.length_replicate]; omega
    rw [hmk1]
    have e2 : ∀ mk2 : List Nat, SetS.next ⟨D, ((t.toNat / 256 : Nat) : Int), mk2⟩ (t.toNat / 256) = ⟨D, ((t.toNat / 256 : Nat) : Int), mk2⟩ := fun mk2 => by unfold SetS.next; rw [if_pos rfl]
    rw [e2]
    simp only [List.length_set]
    rw [show t.toNat % 256 / 8 + 1 - mk1.length = 0 by omega]
    simp only [List.replicate_zero, List.append_nil, List.length_set, List.set_set]
    congr 2
    rw [List.getD_eq_getElem?_getD, List.getElem?_set_self (by omega)]
    show mk1.getD (mk1.length - 1) 0 ||| 2 ^ (7 - t.toNat % 8) ||| 2 ^ (7 - t.toNat % 8) = _
    rw [Nat.or_assoc, Nat.or_self]
  · have e : ∀ s : SetS, s.step t = s := fun s => by unfold SetS.step; rw [if_neg hty]
    rw [e, e]
/-- a rising list does what the list does -/
theorem thin : ∀ M : List Int, M.Pairwise (· ≤ ·) → ∃ V : List Nat, V.Pairwise (· < ·) ∧ (∀ n : Nat, n ∈ V ↔ ((n : Int) ∈ M ∧ isTy n = true)) ∧ ∀ s, (V.map (fun n : Nat => (n : Int))).foldl SetS.step s = M.foldl SetS.step s
  | [], _ => ⟨[], List.Pairwise.nil, fun n => ⟨fun h => (by cases h), fun ⟨h, _⟩ => by cases h⟩, fun s => rfl⟩
  | t :: M, hs => by
    rw [List.pairwise_cons] at hs
    obtain ⟨V, h1, h2, h3⟩ := thin M hs.2
    by_cases hty : isTy t = true
    · have hb : 1 ≤ t ∧ t ≤ 65535 := of_decide_eq_true hty
      obtain ⟨n, hn⟩ : ∃ n : Nat, t = (n : Int) := ⟨t.toNat, by omega⟩
      subst hn
      by_cases hin : n ∈ V
      · refine ⟨V, h1, fun x => ?_, fun s => ?_⟩
        · rw [h2 x, List.mem_cons]
          constructor
          · rintro ⟨a, c⟩; exact ⟨.inr a, c⟩
          · rintro ⟨a | a, c⟩
            · have : x = n := by omega
              subst this; exact ⟨((h2 x).1 hin).1, c⟩
            · exact ⟨a, c⟩
        · cases V with
          | nil => cases hin
          | cons v V =>
            have hv : v = n := by
              have hv1 := ((h2 v).1 (List.mem_cons_self ..)).1
              have := hs.1 _ hv1
              rcases List.mem_cons.1 hin with h | h
              · exact h.symm
              · have := (List.pairwise_cons.1 h1).1 n h; omega
            subst hv
            have := h3 (s.step (v : Int))
            simp only [List.map_cons, List.foldl_cons] at this ⊢
            rw [step_twice] at this
            exact this
      · refine ⟨n :: V, ?_, fun x => ?_, fun s => ?_⟩
        · rw [List.pairwise_cons]
          refine ⟨fun v hv => ?_, h1⟩
          have := hs.1 _ ((h2 v).1 hv).1
          have : v ≠ n := fun e => hin (e ▸ hv)
          omega
        · rw [List.mem_cons, List.mem_cons, h2 x]
          constructor
          · rintro (h | ⟨a, c⟩)
            · subst h; exact ⟨.inl rfl, hty⟩
            · exact ⟨.inr a, c⟩
          · rintro ⟨a | a, c⟩
            · exact .inl (by omega)
            · exact .inr ⟨a, c⟩
        · simp only [List.map_cons, List.foldl_cons]; exact h3 _
    · refine ⟨V, h1, fun x => ?_, fun s => ?_⟩
      · rw [h2 x, List.mem_cons]
        constructor
        · rintro ⟨a, c⟩; exact ⟨.inr a, c⟩
        · rintro ⟨a | a, c⟩
          · rw [a] at c; exact absurd c hty
          · exact ⟨a, c⟩
      · rw [h3 s, List.foldl_cons]
        congr 1
        unfold SetS.step; rw [if_neg hty]
/-- Set of the types of a set -/
theorem set_again {M : List Int} (hs : M.Pairwise (· ≤ ·)) {U : List Nat} (hU : U.Pairwise (· < ·)) (hm : ∀ n : Nat, n ∈ U ↔ ((n : Int) ∈ M ∧ isTy n = true)) : setB (U.map (fun n : Nat => (n : Int))) = setB M := by
  obtain ⟨V, h1, h2, h3⟩ := thin M hs
  have : U = V := rise_eq U V hU h1 fun n => (hm n).trans (h2 n).symm
  subst this
  unfold setB; rw [h3]
theorem sort_rising {U : List Nat} (hU : U.Pairwise (· < ·)) : (U.map (fun n : Nat => (n : Int))).mergeSort (fun x y => decide (x ≤ y)) = U.map (fun n : Nat => (n : Int)) := by
  apply List.mergeSort_of_pairwise
  rw [List.pairwise_map]
  exact hU.imp (fun h => by simp; omega)
theorem sort_sorted (L : List Int) : (L.mergeSort (fun x y => decide (x ≤ y))).Pairwise (· ≤ ·) := by
  have := List.pairwise_mergeSort (le := fun (x y : Int) => decide (x ≤ y)) (fun a b c h1 h2 => by simp at *; omega) (fun a b => by simp; omega) L
  exact this.imp (fun h => by simpa using h)
/-- what the law asks of a list's set -/
theorem set_law (L : List Int) : ∃ U : List Nat, typB (bts (setB (L.mergeSort (fun x y => decide (x ≤ y))))) = some U ∧ U.Pairwise (· < ·) ∧ (∀ n : Nat, n ∈ U ↔ ((n : Int) ∈ L ∧ isTy n = true)) ∧ setB ((U.map (fun n : Nat => (n : Int))).mergeSort (fun x y => decide (x ≤ y))) = setB (L.mergeSort (fun x y => decide (x ≤ y))) ∧ (setB (L.mergeSort (fun x y => decide (x ≤ y)))).length ≤ 8704 ∧ U.length ≤ 65536 := by
  obtain ⟨U, h1, h2, h3, h4⟩ := set_types _ (sort_sorted L)
  refine ⟨U, h1, h2, fun n => ?_, ?_, h4, ?_⟩
  · rw [h3 n, List.mem_mergeSort]
  · rw [sort_rising h2]; exact set_again (sort_sorted L) h2 h3
  · have := rise_len U 0 65536 h2 (fun x hx => ⟨Nat.zero_le _, by have := of_decide_eq_true ((h3 x).1 hx).2; omega⟩) (by omega)
    omega
theorem set_first : ∃ U, (setB (([46, 1, 15, 1] : List Int).mergeSort (fun x y => decide (x ≤ y)))).length ≤ 8704 ∧ typB (bts (setB (([46, 1, 15, 1] : List Int).mergeSort (fun x y => decide (x ≤ y))))) = some U ∧ U = [1, 15, 46] := by
  obtain ⟨U, h1, h2, h3, _, h4, _⟩ := set_law [46, 1, 15, 1]
  refine ⟨U, h4, h1, rise_eq _ _ h2 (by simp) fun n => ?_⟩
  rw [h3 n]
  unfold isTy
  simp
  omega
end Go.Proofs.Ytfofdcacikbflaa
