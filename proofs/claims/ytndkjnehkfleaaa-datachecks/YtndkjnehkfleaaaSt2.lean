import Derived.Test.YtndkjnehkfleaaaSt1
namespace Go.Proofs.Ytndkjnehkfleaaa
set_option linter.unusedVariables false
open Go.Proofs.Ytndkjnehkfleaaa.Nm

theorem bts_tail (l : List Nat) (k : Nat) (hk : k ≤ l.length) : (bts l).extract k (bts l).size = bts (l.drop k) := by
  conv => lhs; rw [← List.take_append_drop k l, bts_append]
  have : (bts (l.take k)).size = k := by rw [bts_size, List.length_take]; omega
  rw [ByteArray.extract_append_eq_right (by omega) (by rw [ByteArray.size_append])]
theorem bts_mid (A B C : List Nat) : (bts (A ++ B ++ C)).extract A.length (A.length + B.length) = bts B := by
  have hA : (bts A).size = A.length := bts_size _
  have hB : (bts B).size = B.length := bts_size _
  rw [bts_append, bts_append]
  rw [ByteArray.append_assoc, ByteArray.extract_append, hA, show A.length - A.length = 0 by omega, show A.length + B.length - A.length = B.length by omega]
  have e1 : (bts A).extract A.length (A.length + B.length) = .empty := by
    apply ByteArray.ext; simp [← hA]
  rw [e1, ByteArray.empty_append]
  rw [ByteArray.extract_append, hB, show 0 - B.length = 0 by omega, show B.length - B.length = 0 by omega]
  have e2 : (bts C).extract 0 0 = .empty := by apply ByteArray.ext; simp
  rw [e2, ByteArray.append_empty, ← hB, ByteArray.extract_zero_size]

/-- a block is read, whatever follows -/
theorem blk_parse (last : Int) (b : Nat) (mk tail : List Nat) (hl : last < (b : Int)) (h1 : 1 ≤ mk.length) (h32 : mk.length ≤ 32) (hz : mk.getD (mk.length - 1) 0 ≠ 0) (hb : b < 256) (hm : ∀ x ∈ mk, x < 256) (ht : ∀ x ∈ tail, x < 256) :
    typS last (bts (b :: mk.length :: mk ++ tail)) = (typS (b : Int) (bts tail)).map (blkT b (bts mk) (8 * mk.length) ++ ·) := by
  have hall : ∀ x ∈ b :: mk.length :: mk ++ tail, x < 256 := by
    intro x hx
    simp only [List.cons_append, List.mem_cons, List.mem_append] at hx
    rcases hx with h | h | h | h
    · omega
    · omega
    · exact hm x h
    · exact ht x h
  have hlen : (b :: mk.length :: mk ++ tail).length = 2 + mk.length + tail.length := by simp; omega
  have ez : (bts (b :: mk.length :: mk ++ tail)).size = 2 + mk.length + tail.length := by rw [bts_size, hlen]
  have e0 : bt (bts (b :: mk.length :: mk ++ tail)) 0 = b := by rw [bts_bt _ hall 0 (by omega)]; rfl
  have e1 : bt (bts (b :: mk.length :: mk ++ tail)) 1 = mk.length := by rw [bts_bt _ hall 1 (by omega)]; rfl
  have e2 : bt (bts (b :: mk.length :: mk ++ tail)) (1 + mk.length) = mk.getD (mk.length - 1) 0 := by
    rw [bts_bt _ hall _ (by omega)]
    have : (b :: mk.length :: mk ++ tail)[1 + mk.length]? = some (mk.getD (mk.length - 1) 0) := by
      rw [show 1 + mk.length = (mk.length - 1) + 2 by omega]
      simp only [List.cons_append, List.getElem?_cons_succ]
      rw [List.getElem?_append_left (by omega), List.getD_eq_getElem?_getD, List.getElem?_eq_getElem (by omega)]; rfl
    rw [List.getElem?_eq_getElem (by omega)] at this
    simpa using this
  have x1 : (bts (b :: mk.length :: mk ++ tail)).extract 2 (2 + mk.length) = bts mk := bts_mid [b, mk.length] mk tail
  have x2 : (bts (b :: mk.length :: mk ++ tail)).extract (2 + mk.length) (bts (b :: mk.length :: mk ++ tail)).size = bts tail := by
    rw [bts_tail _ _ (by omega)]
    congr 1
    rw [show 2 + mk.length = mk.length + 2 by omega]
    simp
  rw [typS_step (by omega), e0, e1, e2, x1, x2, if_neg (by omega), if_neg (by omega), if_neg (by omega), if_neg hz]

/-- bit i of a block's bytes -/
def bitL (mk : List Nat) (i : Nat) : Nat := mk.getD (i / 8) 0 / 2 ^ (7 - i % 8) % 2
theorem mem_blkT {b : Nat} {s : ByteArray} {x : Nat} : ∀ {k : Nat}, x ∈ blkT b s k ↔ ∃ i, i < k ∧ x = b * 256 + i ∧ bitAt s i = 1
  | 0 => ⟨fun h => (by cases h), fun ⟨i, h, _⟩ => by omega⟩
  | k + 1 => by
    simp only [blkT]
    split
    · rename_i hb
      rw [List.mem_append, mem_blkT (k := k), List.mem_singleton]
      constructor
      · rintro (⟨i, h1, h2, h3⟩ | h)
        · exact ⟨i, by omega, h2, h3⟩
        · exact ⟨k, by omega, h, hb⟩
      · rintro ⟨i, h1, h2, h3⟩
        by_cases h : i = k
        · subst h; exact .inr h2
        · exact .inl ⟨i, by omega, h2, h3⟩
    · rename_i hb
      rw [mem_blkT (k := k)]
      constructor
      · rintro ⟨i, h1, h2, h3⟩; exact ⟨i, by omega, h2, h3⟩
      · rintro ⟨i, h1, h2, h3⟩
        by_cases h : i = k
        · subst h; exact absurd h3 hb
        · exact ⟨i, by omega, h2, h3⟩
theorem rise_blkT {b : Nat} {s : ByteArray} : ∀ {k : Nat}, (blkT b s k).Pairwise (· < ·)
  | 0 => List.Pairwise.nil
  | k + 1 => by
    simp only [blkT]
    split
    · rw [List.pairwise_append]
      refine ⟨rise_blkT, List.pairwise_singleton _ _, fun x hx y hy => ?_⟩
      obtain ⟨i, h1, h2, _⟩ := mem_blkT.1 hx
      rw [List.mem_singleton] at hy
      omega
    · exact rise_blkT
theorem bitAt_bts {mk : List Nat} (hm : ∀ x ∈ mk, x < 256) {i : Nat} (hi : i < 8 * mk.length) : bitAt (bts mk) i = bitL mk i := by
  unfold bitAt bitL
  rw [bts_bt _ hm _ (by omega), List.getD_eq_getElem?_getD, List.getElem?_eq_getElem (by omega)]; rfl
theorem bitL_out {mk : List Nat} {i : Nat} (hi : 8 * mk.length ≤ i) : bitL mk i = 0 := by
  unfold bitL
  rw [List.getD_eq_getElem?_getD, List.getElem?_eq_none (by omega)]; simp
theorem mem_block {b : Nat} {mk : List Nat} (hm : ∀ x ∈ mk, x < 256) (h32 : mk.length ≤ 32) {x : Nat} : x ∈ blkT b (bts mk) (8 * mk.length) ↔ x / 256 = b ∧ bitL mk (x % 256) = 1 := by
  rw [mem_blkT]
  constructor
  · rintro ⟨i, h1, h2, h3⟩
    rw [bitAt_bts hm h1] at h3
    rw [show x % 256 = i by omega]
    exact ⟨by omega, h3⟩
  · rintro ⟨h1, h2⟩
    have hi : x % 256 < 8 * mk.length := by
      rcases Nat.lt_or_ge (x % 256) (8 * mk.length) with h | h
      · exact h
      · rw [bitL_out h] at h2; omega
    exact ⟨x % 256, hi, by omega, by rw [bitAt_bts hm hi]; exact h2⟩

theorem or_bit (a p q : Nat) : (a ||| 2 ^ p) / 2 ^ q % 2 = 1 ↔ a / 2 ^ q % 2 = 1 ∨ p = q := by
  have h1 : ∀ x : Nat, (x / 2 ^ q % 2 = 1) ↔ x.testBit q = true := fun x => by rw [Nat.testBit_eq_decide_div_mod_eq]; simp
  rw [h1, h1, Nat.testBit_or, Nat.testBit_two_pow]
  simp
/-- a bit is set behind the bytes so far -/
theorem bit_mark (mk : List Nat) (n i : Nat) (hl : mk.length ≤ n % 256 / 8 + 1) (hi : i < 256) :
    let mk1 := mk ++ List.replicate (n % 256 / 8 + 1 - mk.length) 0
    bitL (mk1.set (mk1.length - 1) (mk1.getD (mk1.length - 1) 0 ||| 2 ^ (7 - n % 8))) i = 1 ↔ bitL mk i = 1 ∨ i = n % 256 := by
  intro mk1
  have hl1 : mk1.length = n % 256 / 8 + 1 := by simp only [mk1, List.length_append, List.length_replicate]; omega
  have hg : ∀ j, mk1.getD j 0 = mk.getD j 0 := fun j => by
    simp only [mk1, List.getD_eq_getElem?_getD]
    by_cases h : j < mk.length
    · rw [List.getElem?_append_left h]
    · rw [List.getElem?_append_right (by omega), List.getElem?_eq_none (l := mk) (by omega), List.getElem?_replicate]
      split <;> rfl
  unfold bitL
  by_cases h : i / 8 = n % 256 / 8
  · have e : (mk1.set (mk1.length - 1) (mk1.getD (mk1.length - 1) 0 ||| 2 ^ (7 - n % 8))).getD (i / 8) 0 = mk.getD (i / 8) 0 ||| 2 ^ (7 - n % 8) := by
      rw [List.getD_eq_getElem?_getD, show i / 8 = mk1.length - 1 by omega, List.getElem?_set_self (by omega), hg]; rfl
    rw [e, or_bit]
    constructor
    · rintro (h' | h')
      · exact .inl h'
      · exact .inr (by omega)
    · rintro (h' | h')
      · exact .inl h'
      · exact .inr (by omega)
  · have e : (mk1.set (mk1.length - 1) (mk1.getD (mk1.length - 1) 0 ||| 2 ^ (7 - n % 8))).getD (i / 8) 0 = mk.getD (i / 8) 0 := by
      rw [List.getD_eq_getElem?_getD, List.getElem?_set_ne (by omega), ← List.getD_eq_getElem?_getD, hg]
    rw [e]
    constructor
    · exact .inl
    · rintro (h' | h')
      · exact h'
      · omega
end Go.Proofs.Ytndkjnehkfleaaa
