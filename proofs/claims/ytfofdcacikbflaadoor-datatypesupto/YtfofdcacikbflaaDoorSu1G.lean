import Derived.Test.YtfofdcacikbflaaDoorSt3
import Derived.Test.YtfofdcacikbflaaDoorTy3
namespace Go.Proofs.YtfofdcacikbflaaDoor
set_option linter.unusedVariables false
open Go.Proofs.YtfofdcacikbflaaDoor.Nm

/-- a block that was read -/
structure Blk (last : Int) (s : ByteArray) (U : List Nat) (q : List Nat) : Prop where
  two : 2 ≤ s.size
  up : last < (bt s 0 : Int)
  n1 : 1 ≤ bt s 1
  n32 : bt s 1 ≤ 32
  room : 2 + bt s 1 ≤ s.size
  end0 : bt s (1 + bt s 1) ≠ 0
  eq : U = blkT (bt s 0) (s.extract 2 (2 + bt s 1)) (8 * bt s 1) ++ q
  far : ∀ x ∈ q, (bt s 0 + 1) * 256 ≤ x
theorem typF_blk {f : Nat} {last : Int} {s : ByteArray} {U : List Nat} (h : typF (f + 1) last s = some U) (h0 : s.size ≠ 0) :
    ∃ q, Blk last s U q ∧ typF f (bt s 0) (s.extract (2 + bt s 1) s.size) = some q := by
  unfold typF at h
  rw [if_neg h0] at h
  split at h
  · cases h
  split at h
  · cases h
  split at h
  · cases h
  split at h
  · cases h
  rename_i h2 h3 h4 h5
  cases e : typF f (bt s 0) (s.extract (2 + bt s 1) s.size) with
  | none => rw [e] at h; cases h
  | some q =>
    rw [e] at h
    simp at h
    refine ⟨q, ⟨by omega, by omega, by omega, by omega, by omega, h5, h.symm, fun x hx => ?_⟩, rfl⟩
    have := (typF_rise f _ _ q (by omega) e).2 x hx
    omega
theorem bit_top {y : Nat} (h : y ≠ 0) (hy : y < 256) : ∃ p, p < 8 ∧ y / 2 ^ (7 - p) % 2 = 1 := by
  by_cases h7 : y / 128 % 2 = 1
  · exact ⟨0, by omega, h7⟩
  by_cases h6 : y / 64 % 2 = 1
  · exact ⟨1, by omega, h6⟩
  by_cases h5 : y / 32 % 2 = 1
  · exact ⟨2, by omega, h5⟩
  by_cases h4 : y / 16 % 2 = 1
  · exact ⟨3, by omega, h4⟩
  by_cases h3 : y / 8 % 2 = 1
  · exact ⟨4, by omega, h3⟩
  by_cases h2 : y / 4 % 2 = 1
  · exact ⟨5, by omega, h2⟩
  by_cases h1 : y / 2 % 2 = 1
  · exact ⟨6, by omega, h1⟩
  · exact ⟨7, by omega, by simp; omega⟩
theorem byte_bits {y z : Nat} (hy : y < 256) (hz : z < 256) (h : ∀ p, p < 8 → (y / 2 ^ (7 - p) % 2 = 1 ↔ z / 2 ^ (7 - p) % 2 = 1)) : y = z := by
  have tb : ∀ x q : Nat, (x / 2 ^ q % 2 = 1) ↔ x.testBit q = true := fun x q => by rw [Nat.testBit_eq_decide_div_mod_eq]; simp
  apply Nat.eq_of_testBit_eq
  intro i
  by_cases hi : i < 8
  · have h1 := h (7 - i) (by omega)
    rw [show 7 - (7 - i) = i by omega, tb, tb] at h1
    exact Bool.eq_iff_iff.2 h1
  · have h2 : 2 ^ 8 ≤ 2 ^ i := Nat.pow_le_pow_right (by omega) (by omega)
    rw [Nat.testBit_lt_two_pow (by omega), Nat.testBit_lt_two_pow (by omega)]
/-- the last byte of a block tells a type -/
theorem Blk.top {last : Int} {s : ByteArray} {U q : List Nat} (h : Blk last s U q) : ∃ i, 8 * (bt s 1 - 1) ≤ i ∧ i < 8 * bt s 1 ∧ bitAt (s.extract 2 (2 + bt s 1)) i = 1 := by
  have h1 := h.n1
  have hr := h.room
  obtain ⟨p, hp, hb⟩ := bit_top h.end0 (bt_lt _ _)
  refine ⟨8 * (bt s 1 - 1) + p, by omega, by omega, ?_⟩
  unfold bitAt
  rw [show (8 * (bt s 1 - 1) + p) / 8 = bt s 1 - 1 by omega, show (8 * (bt s 1 - 1) + p) % 8 = p by omega, bt_extract _ _ _ _ (by omega) hr, show 2 + (bt s 1 - 1) = 1 + bt s 1 by omega]
  exact hb
theorem Blk.mem {last : Int} {s : ByteArray} {U q : List Nat} (h : Blk last s U q) (i : Nat) (hi : i < 256) : bt s 0 * 256 + i ∈ U ↔ i < 8 * bt s 1 ∧ bitAt (s.extract 2 (2 + bt s 1)) i = 1 := by
  rw [h.eq, List.mem_append, mem_blkT]
  constructor
  · rintro (⟨j, h1, h2, h3⟩ | h1)
    · obtain rfl : i = j := by omega
      exact ⟨h1, h3⟩
    · have := h.far _ h1; omega
  · rintro ⟨h1, h2⟩
    exact .inl ⟨i, h1, rfl, h2⟩
theorem Blk.low {last : Int} {s : ByteArray} {U q : List Nat} (h : Blk last s U q) : ∀ x ∈ U, bt s 0 * 256 ≤ x := fun x hx => by
  rw [h.eq, List.mem_append, mem_blkT] at hx
  rcases hx with ⟨j, _, h2, _⟩ | h1
  · rw [h2]; exact Nat.le_add_right _ _
  · exact Nat.le_trans (Nat.mul_le_mul_right _ (Nat.le_succ _)) (h.far _ h1)
theorem Blk.block {last : Int} {s t : ByteArray} {U q r : List Nat} (h : Blk last s U q) (k : Blk last t U r) : bt s 0 ≤ bt t 0 := by
  obtain ⟨i, h1, h2, h3⟩ := k.top
  have := k.n32
  have := h.low _ ((k.mem i (by omega)).2 ⟨h2, h3⟩)
  omega
theorem Blk.count {last : Int} {s t : ByteArray} {U q r : List Nat} (h : Blk last s U q) (k : Blk last t U r) (e : bt s 0 = bt t 0) : bt s 1 ≤ bt t 1 := by
  obtain ⟨i, h1, h2, h3⟩ := h.top
  have hn := h.n32
  have h4 := (h.mem i (by omega)).2 ⟨h2, h3⟩
  rw [e] at h4
  have h5 := ((k.mem i (by omega)).1 h4).1
  omega
/-- a set's bytes are told by its types -/
theorem typF_uniq : ∀ (f g : Nat) (last : Int) (s t : ByteArray) (U : List Nat), typF f last s = some U → typF g last t = some U → s = t
  | 0, g, last, s, t, U, hs, ht => by
    unfold typF at hs
    split at hs
    · rename_i h0
      simp at hs; subst hs
      cases g with
      | zero =>
        unfold typF at ht; split at ht
        · exact ba_ext (by omega) (fun j hj => by omega)
        · cases ht
      | succ g =>
        by_cases h1 : t.size = 0
        · exact ba_ext (by omega) (fun j hj => by omega)
        · obtain ⟨q, hb, _⟩ := typF_blk ht h1
          obtain ⟨i, h2, h3, h4⟩ := hb.top
          have := hb.n32
          exact absurd ((hb.mem i (by omega)).2 ⟨h3, h4⟩) (by simp)
    · cases hs
  | f + 1, g, last, s, t, U, hs, ht => by
    by_cases h0 : s.size = 0
    · have hU : U = [] := by unfold typF at hs; rw [if_pos h0] at hs; simpa using hs.symm
      subst hU
      cases g with
      | zero =>
        unfold typF at ht; split at ht
        · exact ba_ext (by omega) (fun j hj => by omega)
        · cases ht
      | succ g =>
        by_cases h1 : t.size = 0
        · exact ba_ext (by omega) (fun j hj => by omega)
        · obtain ⟨q, hb, _⟩ := typF_blk ht h1
          obtain ⟨i, h2, h3, h4⟩ := hb.top
          have := hb.n32
          exact absurd ((hb.mem i (by omega)).2 ⟨h3, h4⟩) (by simp)
    · obtain ⟨q, hb, hq⟩ := typF_blk hs h0
      have hne : U ≠ [] := fun e => by
        obtain ⟨i, h2, h3, h4⟩ := hb.top
        have := hb.n32
        have := (hb.mem i (by omega)).2 ⟨h3, h4⟩
        rw [e] at this; simp at this
      cases g with
      | zero =>
        unfold typF at ht; split at ht
        · simp at ht; exact absurd ht hne
        · cases ht
      | succ g =>
        by_cases h1 : t.size = 0
        · unfold typF at ht; rw [if_pos h1] at ht; simp at ht; exact absurd ht hne
        · obtain ⟨r, kb, hr⟩ := typF_blk ht h1
          have e0 : bt s 0 = bt t 0 := Nat.le_antisymm (hb.block kb) (kb.block hb)
          have e1 : bt s 1 = bt t 1 := Nat.le_antisymm (hb.count kb e0) (kb.count hb e0.symm)
          have hn := hb.n32
          have hs2 := hb.room
          have ht2 := kb.room
          have hx : ∀ j, j < bt s 1 → bt s (2 + j) = bt t (2 + j) := fun j hj => by
            refine byte_bits (bt_lt _ _) (bt_lt _ _) fun p hp => ?_
            have m1 := hb.mem (8 * j + p) (by omega)
            have m2 := kb.mem (8 * j + p) (by omega)
            rw [← e0] at m2
            rw [m1] at m2
            have d1 : (8 * j + p) / 8 = j := by omega
            have d2 : (8 * j + p) % 8 = p := by omega
            unfold bitAt at m2
            rw [d1, d2, bt_extract _ _ _ _ (by omega) hs2, bt_extract _ _ _ _ (by omega) ht2] at m2
            constructor
            · intro hh; exact (m2.1 ⟨by omega, hh⟩).2
            · intro hh; exact (m2.2 ⟨by omega, hh⟩).2
          have eb : s.extract 2 (2 + bt s 1) = t.extract 2 (2 + bt t 1) := by
            apply ba_ext
            · rw [size_extract' _ _ _ hs2, size_extract' _ _ _ ht2, e1]
            · intro j hj
              rw [size_extract' _ _ _ hs2] at hj
              rw [bt_extract _ _ _ _ (by omega) hs2, bt_extract _ _ _ _ (by omega) ht2]
              exact hx j (by omega)
          have eq : q = r := by
            have h1 := hb.eq
            rw [kb.eq, eb, e0, e1] at h1
            exact (List.append_cancel_left h1).symm
          subst eq
          rw [e0] at hq
          have er := typF_uniq f g _ _ _ q hq hr
          have ez := congrArg ByteArray.size er
          rw [size_extract' _ _ _ (Nat.le_refl _), size_extract' _ _ _ (Nat.le_refl _)] at ez
          apply ba_ext
          · omega
          · intro j hj
            rcases (show j = 0 ∨ j = 1 ∨ (2 ≤ j ∧ j < 2 + bt s 1) ∨ 2 + bt s 1 ≤ j by omega) with rfl | rfl | ⟨h2, h3⟩ | h2
            · exact e0
            · exact e1
            · have := hx (j - 2) (by omega)
              rwa [show 2 + (j - 2) = j by omega] at this
            · have h3 := congrArg (fun z => bt z (j - (2 + bt s 1))) er
              rw [bt_extract _ _ _ _ (by omega) (Nat.le_refl _), bt_extract _ _ _ _ (by omega) (Nat.le_refl _)] at h3
              rwa [show 2 + bt s 1 + (j - (2 + bt s 1)) = j by omega, show 2 + bt t 1 + (j - (2 + bt s 1)) = j by omega] at h3
theorem typB_uniq {s t : ByteArray} {U : List Nat} (hs : typB s = some U) (ht : typB t = some U) : s = t := by
  have key : ∀ {s : ByteArray}, typB s = some U → typS (-1) s = some U := fun {s} h => by
    unfold typB at h
    cases e : typS (-1) s with
    | none => rw [e] at h; cases h
    | some l => rw [e] at h; simp only at h; split at h <;> simp at h; rw [h]
  exact typF_uniq _ _ _ _ _ _ (key hs) (key ht)
end Go.Proofs.YtfofdcacikbflaaDoor

namespace Go.Proofs.YtfofdcacikbflaaDoor
set_option linter.unusedVariables false
open Go.Proofs.YtfofdcacikbflaaDoor.Nm

/-- the reference's set: of which types there are, block by block -/
def topB (M : Nat → Bool) (b : Nat) : Nat → Nat
  | 0 => 0
  | k + 1 => if M (256 * b + k) = true then k / 8 + 1 else topB M b k
def bitV (M : Nat → Bool) (base : Nat) : Nat → Nat
  | 0 => 0
  | k + 1 => 2 * bitV M base k + (if M (base + k) = true then 1 else 0)
def marks (M : Nat → Bool) (b : Nat) (n : Nat) : List Nat := (List.range n).map fun j => bitV M (256 * b + 8 * j) 8
def blkB (M : Nat → Bool) (b : Nat) : List Nat := if topB M b 256 = 0 then [] else b :: topB M b 256 :: marks M b (topB M b 256)
def refS (M : Nat → Bool) : Nat → List Nat
  | 0 => []
  | k + 1 => refS M k ++ blkB M k

theorem topB_le (M : Nat → Bool) (b : Nat) : ∀ k, topB M b k ≤ (k + 7) / 8
  | 0 => by simp [topB]
  | k + 1 => by
    have := topB_le M b k
    unfold topB; split <;> omega
theorem topB_has {M : Nat → Bool} {b n : Nat} : ∀ {k : Nat}, topB M b k = n + 1 → ∃ i, i < k ∧ M (256 * b + i) = true ∧ i / 8 = n
  | 0, h => by simp [topB] at h
  | k + 1, h => by
    unfold topB at h
    split at h
    · rename_i hm; exact ⟨k, by omega, hm, by omega⟩
    · obtain ⟨i, h1, h2, h3⟩ := topB_has h; exact ⟨i, by omega, h2, h3⟩
theorem topB_all {M : Nat → Bool} {b i : Nat} (hm : M (256 * b + i) = true) : ∀ {k : Nat}, i < k → i / 8 + 1 ≤ topB M b k
  | 0, h => by omega
  | k + 1, h => by
    unfold topB
    split
    · omega
    · rename_i hn
      by_cases e : i = k
      · subst e; exact absurd hm hn
      · exact topB_all hm (by omega)
theorem bitV_lt (M : Nat → Bool) (base : Nat) : ∀ k, bitV M base k < 2 ^ k
  | 0 => by simp [bitV]
  | k + 1 => by
    have := bitV_lt M base k
    unfold bitV
    rw [Nat.pow_succ]
    split <;> omega
theorem bitV_bit (M : Nat → Bool) (base : Nat) : ∀ (k i : Nat), i < k → (bitV M base k / 2 ^ (k - 1 - i) % 2 = 1 ↔ M (base + i) = true)
  | 0, i, h => by omega
  | k + 1, i, h => by
    unfold bitV
    by_cases e : i = k
    · subst e
      rw [show i + 1 - 1 - i = 0 by omega, Nat.pow_zero, Nat.div_one]
      split
      · rename_i hm; simp only [hm, iff_true]; omega
      · rename_i hm; simp [hm]
    · have ih := bitV_bit M base k i (by omega)
      rw [show k + 1 - 1 - i = (k - 1 - i) + 1 by omega, Nat.pow_succ, Nat.mul_comm (2 ^ (k - 1 - i)) 2, ← Nat.div_div_eq_div_mul]
      have : (2 * bitV M base k + (if M (base + k) = true then 1 else 0)) / 2 = bitV M base k := by split <;> omega
      rw [this]; exact ih
theorem marks_len (M : Nat → Bool) (b n : Nat) : (marks M b n).length = n := by simp [marks]
theorem marks_lt (M : Nat → Bool) (b n : Nat) : ∀ x ∈ marks M b n, x < 256 := fun x hx => by
  obtain ⟨j, _, rfl⟩ := List.mem_map.1 hx
  exact bitV_lt M _ 8
theorem marks_get (M : Nat → Bool) (b n j : Nat) (h : j < n) : (marks M b n).getD j 0 = bitV M (256 * b + 8 * j) 8 := by
  rw [List.getD_eq_getElem?_getD]; simp [marks, h]
theorem marks_bit (M : Nat → Bool) (b i : Nat) (hi : i < 256) : bitL (marks M b (topB M b 256)) i = 1 ↔ M (256 * b + i) = true := by
  by_cases h : i / 8 < topB M b 256
  · unfold bitL
    rw [marks_get M b _ _ h]
    have := bitV_bit M (256 * b + 8 * (i / 8)) 8 (i % 8) (by omega)
    rw [show 8 - 1 - i % 8 = 7 - i % 8 by omega, show 256 * b + 8 * (i / 8) + i % 8 = 256 * b + i by omega] at this
    exact this
  · rw [bitL_out (by rw [marks_len]; omega)]
    constructor
    · intro h'; omega
    · intro hm; have := topB_all hm hi; omega
theorem marks_end (M : Nat → Bool) (b : Nat) (h : topB M b 256 ≠ 0) : (marks M b (topB M b 256)).getD ((marks M b (topB M b 256)).length - 1) 0 ≠ 0 := by
  obtain ⟨n, hn⟩ : ∃ n, topB M b 256 = n + 1 := ⟨topB M b 256 - 1, by omega⟩
  obtain ⟨i, h1, h2, h3⟩ := topB_has hn
  have := (marks_bit M b i h1).2 h2
  unfold bitL at this
  rw [h3] at this
  rw [marks_len, hn, show n + 1 - 1 = n by omega]
  rw [hn] at this
  intro e
  rw [e] at this; simp at this
theorem blkB_lt (M : Nat → Bool) (b : Nat) (hb : b < 256) : ∀ x ∈ blkB M b, x < 256 := fun x hx => by
  have ht := topB_le M b 256
  unfold blkB at hx
  split at hx
  · cases hx
  · rcases List.mem_cons.1 hx with rfl | hx
    · exact hb
    · rcases List.mem_cons.1 hx with rfl | hx
      · omega
      · exact marks_lt M b _ x hx
theorem refS_lt (M : Nat → Bool) : ∀ k, k ≤ 256 → ∀ x ∈ refS M k, x < 256
  | 0, _, x, hx => by cases hx
  | k + 1, hk, x, hx => by
    unfold refS at hx
    rcases List.mem_append.1 hx with h | h
    · exact refS_lt M k (by omega) x h
    · exact blkB_lt M k (by omega) x h
theorem blkB_len (M : Nat → Bool) (b : Nat) : (blkB M b).length ≤ 34 := by
  have ht := topB_le M b 256
  unfold blkB
  split
  · simp
  · simp [marks_len]; omega
theorem refS_len (M : Nat → Bool) : ∀ k, (refS M k).length ≤ 34 * k
  | 0 => by simp [refS]
  | k + 1 => by
    have := refS_len M k
    have := blkB_len M k
    unfold refS; rw [List.length_append]; omega
theorem ref_parse (M : Nat → Bool) : ∀ k : Nat, k ≤ 256 → ∃ (last : Int) (U : List Nat), -1 ≤ last ∧ last < (k : Int) ∧
    (∀ tail : List Nat, (∀ x ∈ tail, x < 256) → typS (-1) (bts (refS M k ++ tail)) = (typS last (bts tail)).map (U ++ ·)) ∧ U.Pairwise (· < ·) ∧ ∀ x, x ∈ U ↔ (x < 256 * k ∧ M x = true)
  | 0, _ => ⟨-1, [], by omega, by omega, fun tail _ => by simp [refS], List.Pairwise.nil, fun x => by simp⟩
  | k + 1, hk => by
    obtain ⟨last, U, h1, h2, h3, h4, h5⟩ := ref_parse M k (by omega)
    by_cases h0 : topB M k 256 = 0
    · have hb : blkB M k = [] := by unfold blkB; rw [if_pos h0]
      refine ⟨last, U, h1, by omega, fun tail ht => ?_, h4, fun x => ?_⟩
      · unfold refS; rw [hb, List.append_nil]; exact h3 tail ht
      · rw [h5]
        constructor
        · rintro ⟨ha, hm⟩; exact ⟨by omega, hm⟩
        · rintro ⟨ha, hm⟩
          refine ⟨?_, hm⟩
          rcases Nat.lt_or_ge x (256 * k) with h | h
          · exact h
          · have e : x = 256 * k + (x - 256 * k) := by omega
            rw [e] at hm
            have := topB_all hm (k := 256) (by omega)
            omega
    · have ht32 := topB_le M k 256
      obtain ⟨mk, hmk⟩ : ∃ mk, marks M k (topB M k 256) = mk := ⟨_, rfl⟩
      have hml : mk.length = topB M k 256 := by rw [← hmk, marks_len]
      have hmlt : ∀ x ∈ mk, x < 256 := by rw [← hmk]; exact marks_lt M k _
      have hme : mk.getD (mk.length - 1) 0 ≠ 0 := by rw [← hmk]; exact marks_end M k h0
      have hmb : ∀ i, i < 256 → (bitL mk i = 1 ↔ M (256 * k + i) = true) := fun i hi => by rw [← hmk]; exact marks_bit M k i hi
      have hb : blkB M k = k :: mk.length :: mk := by unfold blkB; rw [if_neg h0, hmk, hml]
      refine ⟨k, U ++ blkT k (bts mk) (8 * mk.length), by omega, by omega, fun tail ht => ?_, ?_, fun x => ?_⟩
      · unfold refS
        rw [hb, List.append_assoc, h3 _ (fun x hx => ?_), blk_parse last k mk tail h2 (by omega) (by omega) hme (by omega) hmlt ht, Option.map_map]
        · congr 1; funext q; simp
        · rcases List.mem_append.1 hx with h | h
          · rw [← hb] at h; exact blkB_lt M k (by omega) x h
          · exact ht x h
      · rw [List.pairwise_append]
        refine ⟨h4, rise_blkT, fun a ha b hb' => ?_⟩
        have h6 := ((h5 a).1 ha).1
        obtain ⟨i, _, h7, _⟩ := mem_blkT.1 hb'
        omega
      · rw [List.mem_append, h5, mem_block hmlt (by omega)]
        constructor
        · rintro (⟨ha, hm⟩ | ⟨ha, hm⟩)
          · exact ⟨by omega, hm⟩
          · have := (hmb (x % 256) (by omega)).1 hm
            rw [show 256 * k + x % 256 = x by omega] at this
            exact ⟨by omega, this⟩
        · rintro ⟨ha, hm⟩
          by_cases hx : x < 256 * k
          · exact .inl ⟨hx, hm⟩
          · refine .inr ⟨by omega, (hmb (x % 256) (by omega)).2 ?_⟩
            rw [show 256 * k + x % 256 = x by omega]; exact hm
/-- both sets are the same bytes -/
theorem ref_set (L : List Int) (M : Nat → Bool) (hM : ∀ n : Nat, M n = true ↔ ((n : Int) ∈ L ∧ isTy n = true)) :
    bts (refS M 256) = bts (setB (L.mergeSort (fun x y => decide (x ≤ y)))) := by
  obtain ⟨U, h1, h2, h3, _⟩ := set_law L
  obtain ⟨last, V, k1, k2, k3, k4, k5⟩ := ref_parse M 256 (Nat.le_refl _)
  obtain ⟨R, hR⟩ : ∃ R, refS M 256 = R := ⟨_, rfl⟩
  rw [hR] at k3 ⊢
  have hV : typS (-1) (bts R) = some V := by
    have := k3 [] (fun x hx => by cases hx)
    rw [List.append_nil, typS_nil (last := last) (s := bts []) (by rw [bts_size]; rfl)] at this
    rw [this]; simp
  have hUV : V = U := rise_eq V U k4 h2 (fun n => by
    rw [k5, h3, hM]
    constructor
    · exact fun h => h.2
    · intro h
      have := of_decide_eq_true h.2
      exact ⟨by omega, h⟩)
  subst hUV
  refine typB_uniq (U := V) (typB_some hV (fun h => ?_)) h1
  have h0 := (h3 0).1 (head_zero h)
  have := of_decide_eq_true h0.2
  omega
end Go.Proofs.YtfofdcacikbflaaDoor
