import Derived.Test.YtiaccimdjfdkgaaGreatDoorVs1G
import Derived.Test.YtiaccimdjfdkgaaGreatDoorThG
import Derived.Lib.SlFresh
import Derived.Test.YtiaccimdjfdkgaaGreatDoorWkG
import Derived.Test.YtiaccimdjfdkgaaGreatDoorMath15G
import Derived.Shelf.Pu.ParseUintPublic10
import Derived.Shelf.Lay
import Derived.Ground.MpProg
import Derived.Lib.AtoiErrMem
import Derived.BigCall
namespace Go.Proofs.YtiaccimdjfdkgaaGreatDoor
set_option linter.unusedVariables false
open Go.Proofs.YtiaccimdjfdkgaaGreatDoor.Nm

/-- a block that was read -/
structure Blk (last : Int) (s : ByteArray) (U : List Nat) (q : List Nat) : Prop where
  two : 2 ≤ s.size
  up : last < (bt s 0 : Int)
  n1 : 1 ≤ bt s 1
  n32 : bt s 1 ≤ 32
  room : 2 + bt s 1 ≤ s.size
  end0 : bt s (1 + bt s 1) ≠ 0
  eq : U = blkT (bt s 0) (s.extract 2 (2 + bt s 1)) (8 * bt s 1) ++ q
  far : ∀ x ∈ q, (bt s 0 + 1) * 256 ≤ x
theorem typF_blk {f : Nat} {last : Int} {s : ByteArray} {U : List Nat} (h : typF (f + 1) last s = some U) (h0 : s.size ≠ 0) :
    ∃ q, Blk last s U q ∧ typF f (bt s 0) (s.extract (2 + bt s 1) s.size) = some q := by
  unfold typF at h
  rw [if_neg h0] at h
  split at h
  · cases h
  split at h
  · cases h
  split at h
  · cases h
  split at h
  · cases h
  rename_i h2 h3 h4 h5
  cases e : typF f (bt s 0) (s.extract (2 + bt s 1) s.size) with
  | none => rw [e] at h; cases h
  | some q =>
    rw [e] at h
    simp at h
    refine ⟨q, ⟨by omega, by omega, by omega, by omega, by omega, h5, h.symm, fun x hx => ?_⟩, rfl⟩
    have := (typF_rise f _ _ q (by omega) e).2 x hx
    omega
theorem bit_top {y : Nat} (h : y ≠ 0) (hy : y < 256) : ∃ p, p < 8 ∧ y / 2 ^ (7 - p) % 2 = 1 := by
  by_cases h7 : y / 128 % 2 = 1
  · exact ⟨0, by omega, h7⟩
  by_cases h6 : y / 64 % 2 = 1
  · exact ⟨1, by omega, h6⟩
  by_cases h5 : y / 32 % 2 = 1
  · exact ⟨2, by omega, h5⟩
  by_cases h4 : y / 16 % 2 = 1
  · exact ⟨3, by omega, h4⟩
  by_cases h3 : y / 8 % 2 = 1
  · exact ⟨4, by omega, h3⟩
  by_cases h2 : y / 4 % 2 = 1
  · exact ⟨5, by omega, h2⟩
  by_cases h1 : y / 2 % 2 = 1
  · exact ⟨6, by omega, h1⟩
  · exact ⟨7, by omega, by simp; omega⟩
theorem byte_bits {y z : Nat} (hy : y < 256) (hz : z < 256) (h : ∀ p, p < 8 → (y / 2 ^ (7 - p) % 2 = 1 ↔ z / 2 ^ (7 - p) % 2 = 1)) : y = z := by
  have tb : ∀ x q : Nat, (x / 2 ^ q % 2 = 1) ↔ x.testBit q = true := fun x q => by rw [Nat.testBit_eq_decide_div_mod_eq]; simp
  apply Nat.eq_of_testBit_eq
  intro i
  by_cases hi : i < 8
  · have h1 := h (7 - i) (by omega)
    rw [show 7 - (7 - i) = i by omega, tb, tb] at h1
    exact Bool.eq_iff_iff.2 h1
  · have h2 : 2 ^ 8 ≤ 2 ^ i := Nat.pow_le_pow_right (by omega) (by omega)
    rw [Nat.testBit_lt_two_pow (by omega), Nat.testBit_lt_two_pow (by omega)]
/-- the last byte of a block tells a type -/
theorem Blk.top {last : Int} {s : ByteArray} {U q : List Nat} (h : Blk last s U q) : ∃ i, 8 * (bt s 1 - 1) ≤ i ∧ i < 8 * bt s 1 ∧ bitAt (s.extract 2 (2 + bt s 1)) i = 1 := by
  have h1 := h.n1
  have hr := h.room
  obtain ⟨p, hp, hb⟩ := bit_top h.end0 (bt_lt _ _)
  refine ⟨8 * (bt s 1 - 1) + p, by omega, by omega, ?_⟩
  unfold bitAt
  rw [show (8 * (bt s 1 - 1) + p) / 8 = bt s 1 - 1 by omega, show (8 * (bt s 1 - 1) + p) % 8 = p by omega, bt_extract _ _ _ _ (by omega) hr, show 2 + (bt s 1 - 1) = 1 + bt s 1 by omega]
  exact hb
theorem Blk.mem {last : Int} {s : ByteArray} {U q : List Nat} (h : Blk last s U q) (i : Nat) (hi : i < 256) : bt s 0 * 256 + i ∈ U ↔ i < 8 * bt s 1 ∧ bitAt (s.extract 2 (2 + bt s 1)) i = 1 := by
  rw [h.eq, List.mem_append, mem_blkT]
  constructor
  · rintro (⟨j, h1, h2, h3⟩ | h1)
    · obtain rfl : i = j := by omega
      exact ⟨h1, h3⟩
    · have := h.far _ h1; omega
  · rintro ⟨h1, h2⟩
    exact .inl ⟨i, h1, rfl, h2⟩
theorem Blk.low {last : Int} {s : ByteArray} {U q : List Nat} (h : Blk last s U q) : ∀ x ∈ U, bt s 0 * 256 ≤ x := fun x hx => by
  rw [h.eq, List.mem_append, mem_blkT] at hx
  rcases hx with ⟨j, _, h2, _⟩ | h1
  · rw [h2]; exact Nat.le_add_right _ _
  · exact Nat.le_trans (Nat.mul_le_mul_right _ (Nat.le_succ _)) (h.far _ h1)
theorem Blk.block {last : Int} {s t : ByteArray} {U q r : List Nat} (h : Blk last s U q) (k : Blk last t U r) : bt s 0 ≤ bt t 0 := by
  obtain ⟨i, h1, h2, h3⟩ := k.top
  have := k.n32
  have := h.low _ ((k.mem i (by omega)).2 ⟨h2, h3⟩)
  omega
theorem Blk.count {last : Int} {s t : ByteArray} {U q r : List Nat} (h : Blk last s U q) (k : Blk last t U r) (e : bt s 0 = bt t 0) : bt s 1 ≤ bt t 1 := by
  obtain ⟨i, h1, h2, h3⟩ := h.top
  have hn := h.n32
  have h4 := (h.mem i (by omega)).2 ⟨h2, h3⟩
  rw [e] at h4
  have h5 := ((k.mem i (by omega)).1 h4).1
  omega
/-- a set's bytes are told by its types -/
theorem typF_uniq : ∀ (f g : Nat) (last : Int) (s t : ByteArray) (U : List Nat), typF f last s = some U → typF g last t = some U → s = t
  | 0, g, last, s, t, U, hs, ht => by
    unfold typF at hs
    split at hs
    · rename_i h0
      simp at hs; subst hs
      cases g with
      | zero =>
        unfold typF at ht; split at ht
        · exact ba_ext (by omega) (fun j hj => by omega)
        · cases ht
      | succ g =>
        by_cases h1 : t.size = 0
        · exact ba_ext (by omega) (fun j hj => by omega)
        · obtain ⟨q, hb, _⟩ := typF_blk ht h1
          obtain ⟨i, h2, h3, h4⟩ := hb.top
          have := hb.n32
          exact absurd ((hb.mem i (by omega)).2 ⟨h3, h4⟩) (by simp)
    · cases hs
  | f + 1, g, last, s, t, U, hs, ht => by
    by_cases h0 : s.size = 0
    · have hU : U = [] := by unfold typF at hs; rw [if_pos h0] at hs; simpa using hs.symm
      subst hU
      cases g with
      | zero =>
        unfold typF at ht; split at ht
        · exact ba_ext (by omega) (fun j hj => by omega)
        · cases ht
      | succ g =>
        by_cases h1 : t.size = 0
        · exact ba_ext (by omega) (fun j hj => by omega)
        · obtain ⟨q, hb, _⟩ := typF_blk ht h1
          obtain ⟨i, h2, h3, h4⟩ := hb.top
          have := hb.n32
          exact absurd ((hb.mem i (by omega)).2 ⟨h3, h4⟩) (by simp)
    · obtain ⟨q, hb, hq⟩ := typF_blk hs h0
      have hne : U ≠ [] := fun e => by
        obtain ⟨i, h2, h3, h4⟩ := hb.top
        have := hb.n32
        have := (hb.mem i (by omega)).2 ⟨h3, h4⟩
        rw [e] at this; simp at this
      cases g with
      | zero =>
        unfold typF at ht; split at ht
        · simp at ht; exact absurd ht hne
        · cases ht
      | succ g =>
        by_cases h1 : t.size = 0
        · unfold typF at ht; rw [if_pos h1] at ht; simp at ht; exact absurd ht hne
        · obtain ⟨r, kb, hr⟩ := typF_blk ht h1
          have e0 : bt s 0 = bt t 0 := Nat.le_antisymm (hb.block kb) (kb.block hb)
          have e1 : bt s 1 = bt t 1 := Nat.le_antisymm (hb.count kb e0) (kb.count hb e0.symm)
          have hn := hb.n32
          have hs2 := hb.room
          have ht2 := kb.room
          have hx : ∀ j, j < bt s 1 → bt s (2 + j) = bt t (2 + j) := fun j hj => by
            refine byte_bits (bt_lt _ _) (bt_lt _ _) fun p hp => ?_
            have m1 := hb.mem (8 * j + p) (by omega)
            have m2 := kb.mem (8 * j + p) (by omega)
            rw [← e0] at m2
            rw [m1] at m2
            have d1 : (8 * j + p) / 8 = j := by omega
            have d2 : (8 * j + p) % 8 = p := by omega
            unfold bitAt at m2
            rw [d1, d2, bt_extract _ _ _ _ (by omega) hs2, bt_extract _ _ _ _ (by omega) ht2] at m2
            constructor
            · intro hh; exact (m2.1 ⟨by omega, hh⟩).2
            · intro hh; exact (m2.2 ⟨by omega, hh⟩).2
          have eb : s.extract 2 (2 + bt s 1) = t.extract 2 (2 + bt t 1) := by
            apply ba_ext
            · rw [size_extract' _ _ _ hs2, size_extract' _ _ _ ht2, e1]
            · intro j hj
              rw [size_extract' _ _ _ hs2] at hj
              rw [bt_extract _ _ _ _ (by omega) hs2, bt_extract _ _ _ _ (by omega) ht2]
              exact hx j (by omega)
          have eq : q = r := by
            have h1 := hb.eq
            rw [kb.eq, eb, e0, e1] at h1
            exact (List.append_cancel_left h1).symm
          subst eq
          rw [e0] at hq
          have er := typF_uniq f g _ _ _ q hq hr
          have ez := congrArg ByteArray.size er
          rw [size_extract' _ _ _ (Nat.le_refl _), size_extract' _ _ _ (Nat.le_refl _)] at ez
          apply ba_ext
          · omega
          · intro j hj
            rcases (show j = 0 ∨ j = 1 ∨ (2 ≤ j ∧ j < 2 + bt s 1) ∨ 2 + bt s 1 ≤ j by omega) with rfl | rfl | ⟨h2, h3⟩ | h2
            · exact e0
            · exact e1
            · have := hx (j - 2) (by omega)
              rwa [show 2 + (j - 2) = j by omega] at this
            · have h3 := congrArg (fun z => bt z (j - (2 + bt s 1))) er
              rw [bt_extract _ _ _ _ (by omega) (Nat.le_refl _), bt_extract _ _ _ _ (by omega) (Nat.le_refl _)] at h3
              rwa [show 2 + bt s 1 + (j - (2 + bt s 1)) = j by omega, show 2 + bt t 1 + (j - (2 + bt s 1)) = j by omega] at h3
theorem typB_uniq {s t : ByteArray} {U : List Nat} (hs : typB s = some U) (ht : typB t = some U) : s = t := by
  have key : ∀ {s : ByteArray}, typB s = some U → typS (-1) s = some U := fun {s} h => by
    unfold typB at h
    cases e : typS (-1) s with
    | none => rw [e] at h; cases h
    | some l => rw [e] at h; simp only at h; split at h <;> simp at h; rw [h]
  exact typF_uniq _ _ _ _ _ _ (key hs) (key ht)
end Go.Proofs.YtiaccimdjfdkgaaGreatDoor

namespace Go.Proofs.YtiaccimdjfdkgaaGreatDoor
set_option linter.unusedVariables false
open Go.Proofs.YtiaccimdjfdkgaaGreatDoor.Nm

/-- the reference's set: of which types there are, block by block -/
def topB (M : Nat → Bool) (b : Nat) : Nat → Nat
  | 0 => 0
  | k + 1 => if M (256 * b + k) = true then k / 8 + 1 else topB M b k
def bitV (M : Nat → Bool) (base : Nat) : Nat → Nat
  | 0 => 0
  | k + 1 => 2 * bitV M base k + (if M (base + k) = true then 1 else 0)
def marks (M : Nat → Bool) (b : Nat) (n : Nat) : List Nat := (List.range n).map fun j => bitV M (256 * b + 8 * j) 8
def blkB (M : Nat → Bool) (b : Nat) : List Nat := if topB M b 256 = 0 then [] else b :: topB M b 256 :: marks M b (topB M b 256)
def refS (M : Nat → Bool) : Nat → List Nat
  | 0 => []
  | k + 1 => refS M k ++ blkB M k

theorem topB_le (M : Nat → Bool) (b : Nat) : ∀ k, topB M b k ≤ (k + 7) / 8
  | 0 => by simp [topB]
  | k + 1 => by
    have := topB_le M b k
    unfold topB; split <;> omega
theorem topB_has {M : Nat → Bool} {b n : Nat} : ∀ {k : Nat}, topB M b k = n + 1 → ∃ i, i < k ∧ M (256 * b + i) = true ∧ i / 8 = n
  | 0, h => by simp [topB] at h
  | k + 1, h => by
    unfold topB at h
    split at h
    · rename_i hm; exact ⟨k, by omega, hm, by omega⟩
    · obtain ⟨i, h1, h2, h3⟩ := topB_has h; exact ⟨i, by omega, h2, h3⟩
theorem topB_all {M : Nat → Bool} {b i : Nat} (hm : M (256 * b + i) = true) : ∀ {k : Nat}, i < k → i / 8 + 1 ≤ topB M b k
  | 0, h => by omega
  | k + 1, h => by
    unfold topB
    split
    · omega
    · rename_i hn
      by_cases e : i = k
      · subst e; exact absurd hm hn
      · exact topB_all hm (by omega)
theorem bitV_lt (M : Nat → Bool) (base : Nat) : ∀ k, bitV M base k < 2 ^ k
  | 0 => by simp [bitV]
  | k + 1 => by
    have := bitV_lt M base k
    unfold bitV
    rw [Nat.pow_succ]
    split <;> omega
theorem bitV_bit (M : Nat → Bool) (base : Nat) : ∀ (k i : Nat), i < k → (bitV M base k / 2 ^ (k - 1 - i) % 2 = 1 ↔ M (base + i) = true)
  | 0, i, h => by omega
  | k + 1, i, h => by
    unfold bitV
    by_cases e : i = k
    · subst e
      rw [show i + 1 - 1 - i = 0 by omega, Nat.pow_zero, Nat.div_one]
      split
      · rename_i hm; simp only [hm, iff_true]; omega
      · rename_i hm; simp [hm]
    · have ih := bitV_bit M base k i (by omega)
      rw [show k + 1 - 1 - i = (k - 1 - i) + 1 by omega, Nat.pow_succ, Nat.mul_comm (2 ^ (k - 1 - i)) 2, ← Nat.div_div_eq_div_mul]
      have : (2 * bitV M base k + (if M (base + k) = true then 1 else 0)) / 2 = bitV M base k := by split <;> omega
      rw [this]; exact ih
theorem marks_len (M : Nat → Bool) (b n : Nat) : (marks M b n).length = n := by simp [marks]
theorem marks_lt (M : Nat → Bool) (b n : Nat) : ∀ x ∈ marks M b n, x < 256 := fun x hx => by
  obtain ⟨j, _, rfl⟩ := List.mem_map.1 hx
  exact bitV_lt M _ 8
theorem marks_get (M : Nat → Bool) (b n j : Nat) (h : j < n) : (marks M b n).getD j 0 = bitV M (256 * b + 8 * j) 8 := by
  rw [List.getD_eq_getElem?_getD]; simp [marks, h]
theorem marks_bit (M : Nat → Bool) (b i : Nat) (hi : i < 256) : bitL (marks M b (topB M b 256)) i = 1 ↔ M (256 * b + i) = true := by
  by_cases h : i / 8 < topB M b 256
  · unfold bitL
    rw [marks_get M b _ _ h]
    have := bitV_bit M (256 * b + 8 * (i / 8)) 8 (i % 8) (by omega)
    rw [show 8 - 1 - i % 8 = 7 - i % 8 by omega, show 256 * b + 8 * (i / 8) + i % 8 = 256 * b + i by omega] at this
    exact this
  · rw [bitL_out (by rw [marks_len]; omega)]
    constructor
    · intro h'; omega
    · intro hm; have := topB_all hm hi; omega
theorem marks_end (M : Nat → Bool) (b : Nat) (h : topB M b 256 ≠ 0) : (marks M b (topB M b 256)).getD ((marks M b (topB M b 256)).length - 1) 0 ≠ 0 := by
  obtain ⟨n, hn⟩ : ∃ n, topB M b 256 = n + 1 := ⟨topB M b 256 - 1, by omega⟩
  obtain ⟨i, h1, h2, h3⟩ := topB_has hn
  have := (marks_bit M b i h1).2 h2
  unfold bitL at this
  rw [h3] at this
  rw [marks_len, hn, show n + 1 - 1 = n by omega]
  rw [hn] at this
  intro e
  rw [e] at this; simp at this
theorem blkB_lt (M : Nat → Bool) (b : Nat) (hb : b < 256) : ∀ x ∈ blkB M b, x < 256 := fun x hx => by
  have ht := topB_le M b 256
  unfold blkB at hx
  split at hx
  · cases hx
  · rcases List.mem_cons.1 hx with rfl | hx
    · exact hb
    · rcases List.mem_cons.1 hx with rfl | hx
      · omega
      · exact marks_lt M b _ x hx
theorem refS_lt (M : Nat → Bool) : ∀ k, k ≤ 256 → ∀ x ∈ refS M k, x < 256
  | 0, _, x, hx => by cases hx
  | k + 1, hk, x, hx => by
    unfold refS at hx
    rcases List.mem_append.1 hx with h | h
    · exact refS_lt M k (by omega) x h
    · exact blkB_lt M k (by omega) x h
theorem blkB_len (M : Nat → Bool) (b : Nat) : (blkB M b).length ≤ 34 := by
  have ht := topB_le M b 256
  unfold blkB
  split
  · simp
  · simp [marks_len]; omega
theorem refS_len (M : Nat → Bool) : ∀ k, (refS M k).length ≤ 34 * k
  | 0 => by simp [refS]
  | k + 1 => by
    have := refS_len M k
    have := blkB_len M k
    unfold refS; rw [List.length_append]; omega
theorem ref_parse (M : Nat → Bool) : ∀ k : Nat, k ≤ 256 → ∃ (last : Int) (U : List Nat), -1 ≤ last ∧ last < (k : Int) ∧
    (∀ tail : List Nat, (∀ x ∈ tail, x < 256) → typS (-1) (bts (refS M k ++ tail)) = (typS last (bts tail)).map (U ++ ·)) ∧ U.Pairwise (· < ·) ∧ ∀ x, x ∈ U ↔ (x < 256 * k ∧ M x = true)
  | 0, _ => ⟨-1, [], by omega, by omega, fun tail _ => by simp [refS], List.Pairwise.nil, fun x => by simp⟩
  | k + 1, hk => by
    obtain ⟨last, U, h1, h2, h3, h4, h5⟩ := ref_parse M k (by omega)
    by_cases h0 : topB M k 256 = 0
    · have hb : blkB M k = [] := by unfold blkB; rw [if_pos h0]
      refine ⟨last, U, h1, by omega, fun tail ht => ?_, h4, fun x => ?_⟩
      · unfold refS; rw [hb, List.append_nil]; exact h3 tail ht
      · rw [h5]
        constructor
        · rintro ⟨ha, hm⟩; exact ⟨by omega, hm⟩
        · rintro ⟨ha, hm⟩
          refine ⟨?_, hm⟩
          rcases Nat.lt_or_ge x (256 * k) with h | h
          · exact h
          · have e : x = 256 * k + (x - 256 * k) := by omega
            rw [e] at hm
            have := topB_all hm (k := 256) (by omega)
            omega
    · have ht32 := topB_le M k 256
      obtain ⟨mk, hmk⟩ : ∃ mk, marks M k (topB M k 256) = mk := ⟨_, rfl⟩
      have hml : mk.length = topB M k 256 := by rw [← hmk, marks_len]
      have hmlt : ∀ x ∈ mk, x < 256 := by rw [← hmk]; exact marks_lt M k _
      have hme : mk.getD (mk.length - 1) 0 ≠ 0 := by rw [← hmk]; exact marks_end M k h0
      have hmb : ∀ i, i < 256 → (bitL mk i = 1 ↔ M (256 * k + i) = true) := fun i hi => by rw [← hmk]; exact marks_bit M k i hi
      have hb : blkB M k = k :: mk.length :: mk := by unfold blkB; rw [if_neg h0, hmk, hml]
      refine ⟨k, U ++ blkT k (bts mk) (8 * mk.length), by omega, by omega, fun tail ht => ?_, ?_, fun x => ?_⟩
      · unfold refS
        rw [hb, List.append_assoc, h3 _ (fun x hx => ?_), blk_parse last k mk tail h2 (by omega) (by omega) hme (by omega) hmlt ht, Option.map_map]
        · congr 1; funext q; simp
        · rcases List.mem_append.1 hx with h | h
          · rw [← hb] at h; exact blkB_lt M k (by omega) x h
          · exact ht x h
      · rw [List.pairwise_append]
        refine ⟨h4, rise_blkT, fun a ha b hb' => ?_⟩
        have h6 := ((h5 a).1 ha).1
        obtain ⟨i, _, h7, _⟩ := mem_blkT.1 hb'
        omega
      · rw [List.mem_append, h5, mem_block hmlt (by omega)]
        constructor
        · rintro (⟨ha, hm⟩ | ⟨ha, hm⟩)
          · exact ⟨by omega, hm⟩
          · have := (hmb (x % 256) (by omega)).1 hm
            rw [show 256 * k + x % 256 = x by omega] at this
            exact ⟨by omega, this⟩
        · rintro ⟨ha, hm⟩
          by_cases hx : x < 256 * k
          · exact .inl ⟨hx, hm⟩
          · refine .inr ⟨by omega, (hmb (x % 256) (by omega)).2 ?_⟩
            rw [show 256 * k + x % 256 = x by omega]; exact hm
/-- both sets are the same bytes -/
theorem ref_set (L : List Int) (M : Nat → Bool) (hM : ∀ n : Nat, M n = true ↔ ((n : Int) ∈ L ∧ isTy n = true)) :
    bts (refS M 256) = bts (setB (L.mergeSort (fun x y => decide (x ≤ y)))) := by
  obtain ⟨U, h1, h2, h3, _⟩ := set_law L
  obtain ⟨last, V, k1, k2, k3, k4, k5⟩ := ref_parse M 256 (Nat.le_refl _)
  obtain ⟨R, hR⟩ : ∃ R, refS M 256 = R := ⟨_, rfl⟩
  rw [hR] at k3 ⊢
  have hV : typS (-1) (bts R) = some V := by
    have := k3 [] (fun x hx => by cases hx)
    rw [List.append_nil, typS_nil (last := last) (s := bts []) (by rw [bts_size]; rfl)] at this
    rw [this]; simp
  have hUV : V = U := rise_eq V U k4 h2 (fun n => by
    rw [k5, h3, hM]
    constructor
    · exact fun h => h.2
    · intro h
      have := of_decide_eq_true h.2
      exact ⟨by omega, h⟩)
  subst hUV
  refine typB_uniq (U := V) (typB_some hV (fun h => ?_)) h1
  have h0 := (h3 0).1 (head_zero h)
  have := of_decide_eq_true h0.2
  omega
end Go.Proofs.YtiaccimdjfdkgaaGreatDoor

namespace Go.Proofs.YtiaccimdjfdkgaaGreatDoor
set_option linter.unusedVariables false
open Go.RowKit Go.Shelf Go.Proofs.YtiaccimdjfdkgaaGreatDoor.Nm

/-- where a row lies behind an append: where it lay, or at a new place -/
theorem run_append_place {P : Program} (w : World) (base : Nat) (t ty e : TypeId) (i : TypeInfo) (z : Value) (size bytes : Nat) (ht : P.underlying t = some (.slice e)) (hi : P.info? e = some i) (hz : i.zero = some z)
    (hsize : i.size = size) (hby : i.bytes = bytes) (hzs : z.cells.size = size) (hsz : 0 < size)
    (v : Value) (n : Nat) (xs : List Value) (hown : w.ownsRow base e size v n xs)
    (a : Addr) (m c : Nat) (news : List Value) (hl : news.length = m * size) (hnews : ∀ j u, news[j]? = some u → w.cell? (a.add j) = some u) (h1 : ∀ u ∈ news, u.oneCell' = true)
    (h63 : n + m ≤ maxLen) (hbytes : (n + m) * bytes ≤ 140737488355328) (hbase : base ≤ w.heap.size) :
    ∃ v' w', (Builtin.append_ #[t, t] ty #[v, .slice (some a) m c]).run P w = .ok v' w' ∧ w'.ownsRow base e size v' (n + m) (xs ++ news) ∧ w.grownBy w' v.ownBlock ∧
      (v'.ownBlock = v.ownBlock ∨ v'.ownBlock = some w.heap.size) := by
  obtain ⟨v', w', hr, h2, h3, h4⟩ := run_append_own (P := P) w base t ty e i z size bytes ht hi hz hsize hby hzs hsz v n xs hown a m c news hl hnews h1 h63 hbytes hbase
  refine ⟨v', w', hr, h2, h3, ?_⟩
  subst hsize
  subst hby
  have hsmall : n + m ≤ 9223372036854775807 := by simp only [maxLen] at h63; omega
  rcases hown.2 with ⟨rfl, rfl⟩ | ⟨g, cap, cur, rfl, hbg, hg, hnc, hcm, hcs, htake⟩
  · by_cases hm : m = 0
    · rw [h4.2 ⟨rfl, hm⟩]; exact .inl rfl
    · rw [run_append_nil (P := P) w t ty e i z ht hi hz a m c news hl hnews (by omega) (by omega) (by have hb := hbytes; simp only [Nat.zero_add] at hb; omega)] at hr
      injection hr with hr1 hr2
      rw [← hr1]; exact .inr rfl
  · by_cases hroom : n + m ≤ cap
    · rw [run_append_room (P := P) w t ty e i ht hi g n cap cur hg a m c news hl hnews h1 hroom (by rw [hl, hcs, ← Nat.add_mul]; exact Nat.mul_le_mul_right _ hroom)] at hr
      injection hr with hr1 hr2
      rw [← hr1]; exact .inl rfl
    · rw [run_append_grow (P := P) w t ty e i z ht hi hz ⟨g, 0, none⟩ n cap xs hown.1 (hown.cells (g := g) rfl) a m c news hl hnews (by omega) (by omega) (growslice_fits (by omega) hbytes)] at hr
      injection hr with hr1 hr2
      rw [← hr1]; exact .inr rfl
/-- .. for the walk -/
theorem wpList_append_apart {P : Program} (w : World) {ops : Array Oper} {rest : List Oper} {o : Oper} {a : Act} {Q : Exit → Act → World → Prop} (hgd : o.guard = none) (s x : Operand) (t : TypeId)
    (ho : o.op = .call { callee := .builtin .append, args := #[s, x], argTypes := #[t, t] })
    (base : Nat) (e : TypeId) (i : TypeInfo) (z : Value) (size bytes : Nat) (ht : P.underlying t = some (.slice e)) (hi : P.info? e = some i) (hz : i.zero = some z)
    (hsize : i.size = size) (hby : i.bytes = bytes) (hzs : z.cells.size = size) (hsz : 0 < size)
    (v : Value) (n : Nat) (xs : List Value) (hs : a.eval s = v) (hown : w.ownsRow base e size v n xs)
    (ad : Addr) (m c : Nat) (news : List Value) (hx : a.eval x = .slice (some ad) m c) (hl : news.length = m * size) (hnews : ∀ j u, news[j]? = some u → w.cell? (ad.add j) = some u) (h1 : ∀ u ∈ news, u.oneCell' = true)
    (h63 : n + m ≤ maxLen) (hbytes : (n + m) * bytes ≤ 140737488355328) (hbase : base ≤ w.heap.size)
    (h : ∀ v' w', w'.ownsRow base e size v' (n + m) (xs ++ news) → w.grownBy w' v.ownBlock → (v'.ownBlock = v.ownBlock ∨ v'.ownBlock = some w.heap.size) → wpList P ops Q rest (a.put o.dst v') w') : wpList P ops Q (o :: rest) a w := by
  obtain ⟨v', w', hr, h2, h3, h4⟩ := run_append_place (P := P) w base t o.type e i z size bytes ht hi hz hsize hby hzs hsz v n xs hown ad m c news hl hnews h1 h63 hbytes hbase
  exact Go.Lib.wpList_append_run_sl w hgd s x t ho v _ hs hx hr (h v' w' h2 h3 h4)
end Go.Proofs.YtiaccimdjfdkgaaGreatDoor

namespace Go.Proofs.YtiaccimdjfdkgaaGreatDoor
set_option linter.unusedVariables false
open Go.RowKit Go.Shelf Go.Proofs.YtiaccimdjfdkgaaGreatDoor.Nm

theorem Tryz.infoBool : (Tryz.prog.info? 4).map (fun i => (i.zero, i.size, i.bytes)) = some (some (.bool false), 1, 1) := by kernel_rfl
/-- which types there are, as cells -/
def thC (M : Nat → Bool) : List Value := (List.range 65536).map fun k => Value.bool (M k)
theorem thC_get (M : Nat → Bool) (k : Nat) (h : k < 65536) : (thC M)[k]? = some (.bool (M k)) := by
  unfold thC; rw [List.getElem?_map, List.getElem?_range h]; rfl
theorem thC_set (M : Nat → Bool) (n : Nat) : (thC M).set n (.bool true) = thC (fun k => M k || decide (k = n)) := by
  unfold thC
  apply List.ext_getElem?
  intro k
  rw [List.getElem?_set]
  by_cases h : k < 65536
  · rw [List.getElem?_map, List.getElem?_map, List.getElem?_range h]
    by_cases e : n = k
    · subst e; simp only [List.length_map, List.length_range, h, if_true]; simp
    · rw [if_neg e]; simp [Ne.symm e]
  · rw [List.getElem?_map, List.getElem?_map, List.getElem?_eq_none (by rw [List.length_range]; omega)]
    split
    · rename_i e; rw [List.length_map, List.length_range, if_neg (by omega)]; rfl
    · rfl
theorem thC_new : (madeCells (Value.bool false).cells (65536 * 1)).toList = thC (fun _ => false) := by
  show (madeCells #[Value.bool false] (65536 * 1)).toList = _
  rw [toList_madeCells_one, Nat.mul_one]
  unfold thC
  rw [List.map_const', List.length_range]
theorem two_new (w : World) (a b : Value) (T : TypeId) : ∀ j u, ([a, b] : List Value)[j]? = some u → (w.alloc (.cells #[a, b] T)).cell? ((⟨w.heap.size, 0, none⟩ : Addr).add j) = some u
  | 0, u, h => by simp at h; subst h; simp [Addr.add]
  | 1, u, h => by simp at h; subst h; simp [Addr.add]
  | j + 2, u, h => by simp at h
theorem bitV_yes {M : Nat → Bool} {base k : Nat} (h : M (base + k) = true) : bitV M base (k + 1) = 2 * bitV M base k + 1 := by
  show 2 * bitV M base k + (if M (base + k) = true then 1 else 0) = _
  rw [if_pos h]
theorem bitV_no {M : Nat → Bool} {base k : Nat} (h : M (base + k) = false) : bitV M base (k + 1) = 2 * bitV M base k := by
  show 2 * bitV M base k + (if M (base + k) = true then 1 else 0) = _
  rw [if_neg (by rw [h]; decide)]; rfl
theorem topB_yes {M : Nat → Bool} {b k : Nat} (h : M (256 * b + k) = true) : topB M b (k + 1) = k / 8 + 1 := by
  show (if M (256 * b + k) = true then k / 8 + 1 else topB M b k) = _
  rw [if_pos h]
theorem topB_no {M : Nat → Bool} {b k : Nat} (h : M (256 * b + k) = false) : topB M b (k + 1) = topB M b k := by
  show (if M (256 * b + k) = true then k / 8 + 1 else topB M b k) = _
  rw [if_neg (by rw [h]; decide)]
theorem marks_snoc (M : Nat → Bool) (b n : Nat) : marks M b (n + 1) = marks M b n ++ [bitV M (256 * b + 8 * n) 8] := by simp [marks, List.range_succ]

end Go.Proofs.YtiaccimdjfdkgaaGreatDoor

namespace Go.Proofs.YtiaccimdjfdkgaaGreatDoor
set_option linter.unusedVariables false
open Go.RowKit Go.Shelf Go.Proofs.YtiaccimdjfdkgaaGreatDoor.Nm

def Tryz.laysPu14_ren : Go.Shelf.Ren := ⟨fun | 14 => 97 | 16 => 122 | 17 => 123 | 19 => 137 | 20 => 138 | 21 => 139 | 22 => 140 | 23 => 141 | 24 => 142 | 25 => 151 | 27 => 20 | 26 => 152 | 28 => 43 | 29 => 68 | 30 => 92 | 31 => 93 | 32 => 94 | 33 => 95 | 35 => 116 | 34 => 115 | 36 => 117 | 37 => 118 | 38 => 119 | 39 => 134 | 40 => 135 | n => n, fun | 9 => 9 | 3 => 3 | 22 => 200 | 24 => 51 | 25 => 207 | 4 => 4 | 34 => 239 | 5 => 5 | 36 => 227 | 37 => 56 | 0 => 0 | 39 => 241 | 21 => 21 | 44 => 253 | 47 => 103 | 50 => 262 | 48 => 260 | 2 => 2 | 52 => 199 | 55 => 203 | 59 => 224 | 60 => 225 | 20 => 20 | 61 => 226 | 65 => 250 | 66 => 251 | 67 => 66 | n => n, fun | 0 => 7 | 1 => 8 | 2 => 3 | 3 => 5 | 4 => 6 | n => n⟩
theorem Tryz.laysPu14 : Go.Proofs.LaysPu.n14 Tryz.prog Tryz.laysPu14_ren := {
  mixed := by kernel_rfl
  f14 := Tryz.func97.trans (congrArg some (by kernel_rfl))
  f16 := Tryz.func122.trans (congrArg some (by kernel_rfl))
  f17 := Tryz.func123.trans (congrArg some (by kernel_rfl))
  f19 := Tryz.func137.trans (congrArg some (by kernel_rfl))
  f20 := Tryz.func138.trans (congrArg some (by kernel_rfl))
  f21 := Tryz.func139.trans (congrArg some (by kernel_rfl))
  f22 := Tryz.func140.trans (congrArg some (by kernel_rfl))
  f23 := Tryz.func141.trans (congrArg some (by kernel_rfl))
  f24 := Tryz.func142.trans (congrArg some (by kernel_rfl))
  f25 := Tryz.func151.trans (congrArg some (by kernel_rfl))
  f26 := Tryz.func152.trans (congrArg some (by kernel_rfl))
  f27 := Tryz.func20.trans (congrArg some (by kernel_rfl))
  f28 := Tryz.func43.trans (congrArg some (by kernel_rfl))
  f29 := Tryz.func68.trans (congrArg some (by kernel_rfl))
  f30 := Tryz.func92.trans (congrArg some (by kernel_rfl))
  f31 := Tryz.func93.trans (congrArg some (by kernel_rfl))
  f32 := Tryz.func94.trans (congrArg some (by kernel_rfl))
  f33 := Tryz.func95.trans (congrArg some (by kernel_rfl))
  f34 := Tryz.func115.trans (congrArg some (by kernel_rfl))
  f35 := Tryz.func116.trans (congrArg some (by kernel_rfl))
  f36 := Tryz.func117.trans (congrArg some (by kernel_rfl))
  f37 := Tryz.func118.trans (congrArg some (by kernel_rfl))
  f38 := Tryz.func119.trans (congrArg some (by kernel_rfl))
  f39 := Tryz.func134.trans (congrArg some (by kernel_rfl))
  f40 := Tryz.func135.trans (congrArg some (by kernel_rfl))
  t0 := Tryz.underlying0
  a0 := Tryz.isAgg0
  z0 := Tryz.sizeOf0
  v0 := Tryz.zeroValue0
  i0 := by kernel_rfl
  t2 := Tryz.underlying2
  a2 := Tryz.isAgg2
  z2 := Tryz.sizeOf2
  v2 := Tryz.zeroValue2
  i2 := by kernel_rfl
  t3 := Tryz.underlying3
  a3 := Tryz.isAgg3
  z3 := Tryz.sizeOf3
  v3 := Tryz.zeroValue3
  i3 := by kernel_rfl
  t4 := Tryz.underlying4
  a4 := Tryz.isAgg4
  z4 := Tryz.sizeOf4
  v4 := Tryz.zeroValue4
  i4 := by kernel_rfl
  t5 := Tryz.underlying5
  a5 := Tryz.isAgg5
  z5 := Tryz.sizeOf5
  v5 := Tryz.zeroValue5
  i5 := by kernel_rfl
  t9 := Tryz.underlying9
  a9 := Tryz.isAgg9
  z9 := Tryz.sizeOf9
  v9 := Tryz.zeroValue9
  i9 := by kernel_rfl
  t20 := Tryz.underlying20
  a20 := Tryz.isAgg20
  z20 := Tryz.sizeOf20
  v20 := Tryz.zeroValue20
  i20 := by kernel_rfl
  t21 := Tryz.underlying21
  a21 := Tryz.isAgg21
  z21 := Tryz.sizeOf21
  v21 := Tryz.zeroValue21
  i21 := by kernel_rfl
  t22 := Tryz.underlying200
  a22 := Tryz.isAgg200
  z22 := Tryz.sizeOf200
  v22 := Tryz.zeroValue200
  i22 := by kernel_rfl
  t24 := Tryz.underlying51
  a24 := Tryz.isAgg51
  z24 := Tryz.sizeOf51
  v24 := Tryz.zeroValue51
  i24 := by kernel_rfl
  t25 := Tryz.underlying207
  a25 := Tryz.isAgg207
  z25 := Tryz.sizeOf207
  v25 := Tryz.zeroValue207
  i25 := by kernel_rfl
  t34 := Tryz.underlying239
  a34 := Tryz.isAgg239
  z34 := Tryz.sizeOf239
  v34 := Tryz.zeroValue239
  i34 := by kernel_rfl
  c34 := by kernel_rfl
  t36 := Tryz.underlying227
  a36 := Tryz.isAgg227
  z36 := Tryz.sizeOf227
  v36 := Tryz.zeroValue227
  i36 := by kernel_rfl
  t37 := Tryz.underlying56
  a37 := Tryz.isAgg56
  z37 := Tryz.sizeOf56
  v37 := Tryz.zeroValue56
  i37 := by kernel_rfl
  t39 := Tryz.underlying241
  a39 := Tryz.isAgg241
  z39 := Tryz.sizeOf241
  v39 := Tryz.zeroValue241
  i39 := by kernel_rfl
  t44 := Tryz.underlying253
  a44 := Tryz.isAgg253
  z44 := Tryz.sizeOf253
  v44 := Tryz.zeroValue253
  i44 := by kernel_rfl
  t47 := Tryz.underlying103
  a47 := Tryz.isAgg103
  z47 := Tryz.sizeOf103
  v47 := Tryz.zeroValue103
  i47 := by kernel_rfl
  t48 := Tryz.underlying260
  a48 := Tryz.isAgg260
  z48 := Tryz.sizeOf260
  v48 := Tryz.zeroValue260
  i48 := by kernel_rfl
  t50 := Tryz.underlying262
  a50 := Tryz.isAgg262
  z50 := Tryz.sizeOf262
  v50 := Tryz.zeroValue262
  i50 := by kernel_rfl
  t52 := Tryz.underlying199
  a52 := Tryz.isAgg199
  z52 := Tryz.sizeOf199
  v52 := Tryz.zeroValue199
  i52 := by kernel_rfl
  t55 := Tryz.underlying203
  a55 := Tryz.isAgg203
  z55 := Tryz.sizeOf203
  v55 := Tryz.zeroValue203
  i55 := by kernel_rfl
  t59 := Tryz.underlying224
  a59 := Tryz.isAgg224
  z59 := Tryz.sizeOf224
  v59 := Tryz.zeroValue224
  i59 := by kernel_rfl
  t60 := Tryz.underlying225
  a60 := Tryz.isAgg225
  z60 := Tryz.sizeOf225
  v60 := Tryz.zeroValue225
  i60 := by kernel_rfl
  t61 := Tryz.underlying226
  a61 := Tryz.isAgg226
  z61 := Tryz.sizeOf226
  t65 := Tryz.underlying250
  a65 := Tryz.isAgg250
  z65 := Tryz.sizeOf250
  v65 := Tryz.zeroValue250
  i65 := by kernel_rfl
  t66 := Tryz.underlying251
  a66 := Tryz.isAgg251
  z66 := Tryz.sizeOf251
  v66 := Tryz.zeroValue251
  i66 := by kernel_rfl
  t67 := Tryz.underlying66
  a67 := Tryz.isAgg66
  z67 := Tryz.sizeOf66
  v67 := Tryz.zeroValue66
  i67 := by kernel_rfl
  g0 := by kernel_rfl
  m0 := by kernel_rfl
  g1 := by kernel_rfl
  m1 := by kernel_rfl
  g2 := by kernel_rfl
  m2 := by kernel_rfl
  g3 := by kernel_rfl
  m3 := by kernel_rfl
  g4 := by kernel_rfl
  m4 := by kernel_rfl }

/-- strconv's two errors lie where they must -/
def Gl (w : World) : Prop := ∃ e0 e1, w.cell? ⟨7, 0, none⟩ = some e0 ∧ (e0 = .nilIface ∨ ∃ te pe, e0 = .iface te pe) ∧ w.cell? ⟨8, 0, none⟩ = some e1 ∧ (e1 = .nilIface ∨ ∃ te pe, e1 = .iface te pe)

theorem number_at (t : ByteArray) (B most : Nat) (w : World) (hB : B = 8 ∨ B = 16 ∨ B = 32) (hm : most ≤ 1000) (ht : t.size ≤ 1048576) (hG : Gl w) :
    Calls Tryz.prog 73 #[.string t, .int .i64 (most : Int), .int .i64 (B : Int)] w fun e w' => e = .returned (.tuple #[.int .i64 (((numR B most t).getD 0 : Nat) : Int), .bool (numR B most t).isSome]) ∧ Below w.heap.size w w' := by
  obtain ⟨e0, e1, hv0, he0, hv1, he1⟩ := hG
  have HB : Hid (numR B most t = numR B most t) := rfl
  by_cases hlong : most < t.size
  · have HR : Hid (numR B most t = none) := numR_long hlong
    clear HB
    go_enter Tryz.func73, Tryz.ntmps73
    go_wp2
    go_ret2
    exact ⟨by rw [HR.out]; rfl, Below.refl _ _⟩
  · cases h : Lib.parseUintB B t.data.toList with
    | ok u =>
      have HR : Hid (numR B most t = some u) := numR_ok hlong h
      have hu : u ≤ 4294967295 := by
        have := Lib.parseUintB_le h
        rcases hB with rfl | rfl | rfl <;> omega
      clear HB
      rcases hB with rfl | rfl | rfl
      · go_enter Tryz.func73, Tryz.ntmps73
        go_wp2_with (go_at_call 97; refine (Any.strconv_ParseUint_10_at8_ok Tryz.laysPu14 t (by omega) u h _).mono ?_; rintro e w' ⟨rfl, hw⟩)
        go_ret2
        refine ⟨by rw [HR.out]; first | rfl | (congr 2; omega), ?_⟩
        rcases hw with rfl | rfl
        · exact Below.refl _ _
        · exact Lib.bytesWorld_below _ _ _
      · go_enter Tryz.func73, Tryz.ntmps73
        go_wp2_with (go_at_call 97; refine (Any.strconv_ParseUint_10_at16_ok Tryz.laysPu14 t (by omega) u h _).mono ?_; rintro e w' ⟨rfl, hw⟩)
        go_ret2
        refine ⟨by rw [HR.out]; first | rfl | (congr 2; omega), ?_⟩
        rcases hw with rfl | rfl
        · exact Below.refl _ _
        · exact Lib.bytesWorld_below _ _ _
      · go_enter Tryz.func73, Tryz.ntmps73
        go_wp2_with (go_at_call 97; refine (Any.strconv_ParseUint_10_at32_ok Tryz.laysPu14 t (by omega) u h _).mono ?_; rintro e w' ⟨rfl, hw⟩)
        go_ret2
        refine ⟨by rw [HR.out]; first | rfl | (congr 2; omega), ?_⟩
        rcases hw with rfl | rfl
        · exact Below.refl _ _
        · exact Lib.bytesWorld_below _ _ _
    | «syntax» =>
      have HR : Hid (numR B most t = none) := numR_syn hlong h
      clear HB
      rcases hB with rfl | rfl | rfl
      · go_enter Tryz.func73, Tryz.ntmps73
        go_wp2_with (go_at_call 97; refine (Any.strconv_ParseUint_10_at8_syntax Tryz.laysPu14 t (by omega) h e0 _ hv0 he0).mono ?_; rintro e w' ⟨N, rfl, -, -, hb⟩)
        go_ret2
        exact ⟨by rw [HR.out]; rfl, hb⟩
      · go_enter Tryz.func73, Tryz.ntmps73
        go_wp2_with (go_at_call 97; refine (Any.strconv_ParseUint_10_at16_syntax Tryz.laysPu14 t (by omega) h e0 _ hv0 he0).mono ?_; rintro e w' ⟨N, rfl, -, -, hb⟩)
        go_ret2
        exact ⟨by rw [HR.out]; rfl, hb⟩
      · go_enter Tryz.func73, Tryz.ntmps73
        go_wp2_with (go_at_call 97; refine (Any.strconv_ParseUint_10_at32_syntax Tryz.laysPu14 t (by omega) h e0 _ hv0 he0).mono ?_; rintro e w' ⟨N, rfl, -, -, hb⟩)
        go_ret2
        exact ⟨by rw [HR.out]; rfl, hb⟩
    | range =>
      have HR : Hid (numR B most t = none) := numR_rng hlong h
      clear HB
      rcases hB with rfl | rfl | rfl
      · go_enter Tryz.func73, Tryz.ntmps73
        go_wp2_with (go_at_call 97; refine (Any.strconv_ParseUint_10_at8_range Tryz.laysPu14 t (by omega) h e1 _ hv1 he1).mono ?_; rintro e w' ⟨N, rfl, -, -, hb⟩)
        go_ret2
        exact ⟨by rw [HR.out]; rfl, hb⟩
      · go_enter Tryz.func73, Tryz.ntmps73
        go_wp2_with (go_at_call 97; refine (Any.strconv_ParseUint_10_at16_range Tryz.laysPu14 t (by omega) h e1 _ hv1 he1).mono ?_; rintro e w' ⟨N, rfl, -, -, hb⟩)
        go_ret2
        exact ⟨by rw [HR.out]; rfl, hb⟩
      · go_enter Tryz.func73, Tryz.ntmps73
        go_wp2_with (go_at_call 97; refine (Any.strconv_ParseUint_10_at32_range Tryz.laysPu14 t (by omega) h e1 _ hv1 he1).mono ?_; rintro e w' ⟨N, rfl, -, -, hb⟩)
        go_ret2
        exact ⟨by rw [HR.out]; rfl, hb⟩
end Go.Proofs.YtiaccimdjfdkgaaGreatDoor
