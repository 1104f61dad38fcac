import Derived.Test.YtmbjmokhkonpiaaGreatDoorMath15G
import Derived.Lib.ItoaNum
import Derived.Test.YtmbjmokhkonpiaaGreatDoorBt1G
import Derived.Lib.Join
import Derived.Lib.SplitLaws
import Derived.Lib.CutLaws
import Derived.Lib.TrimByte
import Derived.Lib.Split
import Derived.Test.YtmbjmokhkonpiaaGreatDoorKs1G
/-
  Words as they are told: texts in quotes, rows of words with blanks between, plainly. (The verifier's own text.)
-/
namespace Go.Proofs.YtmbjmokhkonpiaaGreatDoor.Nm
set_option linter.unusedVariables false
set_option linter.unusedSimpArgs false

/-- what is marked in a text in quotes -/
def mk2 : ByteArray := ⟨#[34, 92]⟩
def shQ (b : Nat) : List Nat := shG 32 mk2 b
theorem am2 (b : Nat) : amB mk2 b = (b == 34 || b == 92) := by
  unfold amB
  rw [show mk2.size = 2 from rfl, show List.range 2 = [0, 1] from rfl]
  simp only [List.any_cons, List.any_nil, Bool.or_false, show bt mk2 0 = 34 from rfl, show bt mk2 1 = 92 from rfl]
  rw [Bool.eq_iff_iff]
  simp only [Bool.or_eq_true, beq_iff_eq]
  omega
theorem shQ_cases {b : Nat} : (shQ b = escL b ∧ (b < 32 ∨ 126 < b)) ∨ (shQ b = [92, b] ∧ (b = 34 ∨ b = 92)) ∨ (shQ b = [b] ∧ b ≠ 34 ∧ b ≠ 92 ∧ 32 ≤ b ∧ b ≤ 126) := by
  unfold shQ shG
  rw [am2]
  by_cases h : b < 32 ∨ 126 < b
  · left; rw [if_pos h]; exact ⟨rfl, h⟩
  · rw [if_neg h]
    by_cases h2 : (b == 34 || b == 92) = true
    · right; left; rw [if_pos h2]; exact ⟨rfl, by simpa using h2⟩
    · right; right; rw [if_neg h2]; simp at h2; exact ⟨rfl, h2.1, h2.2, by omega, by omega⟩
theorem shQ_lt {b : Nat} (hb : b < 256) : ∀ x ∈ shQ b, x < 256 := shG_lt hb
theorem shQ_len (b : Nat) : 0 < (shQ b).length ∧ (shQ b).length ≤ 4 := shG_len _ _ _
/-- bytes told -/
def qtL (l : List Nat) : List Nat := l.flatMap shQ
theorem qtL_cons (b : Nat) (l : List Nat) : qtL (b :: l) = shQ b ++ qtL l := rfl
theorem qtL_snoc (l : List Nat) (b : Nat) : qtL (l ++ [b]) = qtL l ++ shQ b := by simp [qtL]
theorem qtL_lt : ∀ {l : List Nat}, (∀ x ∈ l, x < 256) → ∀ x ∈ qtL l, x < 256
  | [], _, x, hx => by cases hx
  | b :: l, h, x, hx => by
    rw [qtL_cons] at hx
    rcases List.mem_append.1 hx with e | e
    · exact shQ_lt (h b List.mem_cons_self) x e
    · exact qtL_lt (fun y hy => h y (List.mem_cons_of_mem _ hy)) x e
theorem qtL_len : ∀ l : List Nat, l.length ≤ (qtL l).length ∧ (qtL l).length ≤ 4 * l.length
  | [] => ⟨Nat.le_refl _, Nat.le_refl _⟩
  | b :: l => by
    have h1 := qtL_len l
    have h2 := shQ_len b
    rw [qtL_cons, List.length_append, List.length_cons]
    omega
/-- what a text in quotes may hold: no end, but behind a mark -/
def okq : List Nat → Bool
  | [] => true
  | x :: l => if x = 34 then false else if x = 92 then (match l with | [] => false | _ :: m => okq m) else okq l
theorem okq_plain {x : Nat} {l : List Nat} (h1 : x ≠ 34) (h2 : x ≠ 92) : okq (x :: l) = okq l := by
  conv => lhs; unfold okq
  rw [if_neg h1, if_neg h2]
theorem okq_mark (y : Nat) (l : List Nat) : okq (92 :: y :: l) = okq l := by
  conv => lhs; unfold okq
  rw [if_neg (by omega), if_pos rfl]
theorem okq_shQ (b : Nat) (l : List Nat) : okq (shQ b ++ l) = okq l := by
  rcases shQ_cases (b := b) with ⟨e, he⟩ | ⟨e, he⟩ | ⟨e, h34, h92, h1, h2⟩
  · rw [e]
    unfold escL
    simp only [List.cons_append, List.nil_append]
    rw [okq_mark, okq_plain (by omega) (by omega), okq_plain (by omega) (by omega)]
  · rw [e]
    exact okq_mark b l
  · rw [e]
    exact okq_plain h34 h92
theorem okq_qt : ∀ l : List Nat, okq (qtL l) = true
  | [] => rfl
  | b :: l => by rw [qtL_cons, okq_shQ]; exact okq_qt l
/-- a word that is told: its text, and whether it stands in quotes -/
structure Wz where
  t : List Nat
  q : Bool
def shW (z : Wz) : List Nat := if z.q then 34 :: (z.t ++ [34]) else z.t
structure OkW (z : Wz) : Prop where
  lt : ∀ x ∈ z.t, x < 256
  qu : z.q = true → okq z.t = true
  pl : z.q = false → z.t ≠ [] ∧ (∀ x ∈ z.t, x ≠ 32) ∧ z.t.head? ≠ some 34
/-- words with blanks between -/
def jnW : List Wz → List Nat
  | [] => []
  | z :: l => shW z ++ (match l with | [] => [] | _ :: _ => 32 :: jnW l)
/-- what is left of a row of words: with the blank ahead, or without -/
def sfx (b : Bool) (l : List Wz) : List Nat := match l with
  | [] => []
  | _ :: _ => (if b then [32] else []) ++ jnW l
theorem jnW_cons (z : Wz) (l : List Wz) : jnW (z :: l) = shW z ++ sfx true l := by
  cases l <;> rfl
theorem sfx_nil (b : Bool) : sfx b [] = [] := rfl
theorem sfx_true (z : Wz) (l : List Wz) : sfx true (z :: l) = 32 :: sfx false (z :: l) := rfl
theorem sfx_false (z : Wz) (l : List Wz) : sfx false (z :: l) = shW z ++ sfx true l := by
  show [] ++ jnW (z :: l) = _
  rw [List.nil_append, jnW_cons]
theorem jnW_sfx (l : List Wz) : jnW l = sfx false l := by cases l <;> rfl
end Go.Proofs.YtmbjmokhkonpiaaGreatDoor.Nm

/-
  Numbers told by decimal digits, and read again, plainly. (The verifier's own text.)
-/
namespace Go.Proofs.YtmbjmokhkonpiaaGreatDoor.Nm
set_option linter.unusedVariables false
set_option linter.unusedSimpArgs false
open Go

/-- the digits of a number -/
def dgN (u : Nat) : List Nat := (Lib.decDigits u).map (·.toNat)
theorem bts_nat (l : List UInt8) : bts (l.map (·.toNat)) = ⟨l.toArray⟩ := by
  unfold bts
  congr 2
  rw [List.map_map]
  exact (List.map_congr_left (g := id) fun x _ => by simp).trans (List.map_id _)
theorem bts_dg (u : Nat) : bts (dgN u) = ⟨(Lib.decDigits u).toArray⟩ := bts_nat _
theorem dig_nat {d : Nat} (h : d < 10) : (UInt8.ofNat (48 + d)).toNat = 48 + d := by
  rw [UInt8.toNat_ofNat']
  omega
theorem dgN_small {u : Nat} (h : u < 10) : dgN u = [48 + u] := by
  unfold dgN
  rw [Lib.decDigits, dif_pos h, List.map_cons, List.map_nil, dig_nat h]
theorem dgN_step {u : Nat} (h : ¬ u < 10) : dgN u = dgN (u / 10) ++ [48 + u % 10] := by
  unfold dgN
  rw [Lib.decDigits, dif_neg h, List.map_append, List.map_cons, List.map_nil, dig_nat (by omega)]
theorem dgN_dig (u : Nat) : ∀ x ∈ dgN u, 48 ≤ x ∧ x ≤ 57 := by
  induction u using Nat.strongRecOn with
  | ind u ih =>
    intro x hx
    by_cases h : u < 10
    · rw [dgN_small h] at hx
      have := List.mem_singleton.1 hx
      omega
    · rw [dgN_step h] at hx
      rcases List.mem_append.1 hx with e | e
      · exact ih (u / 10) (by omega) x e
      · have := List.mem_singleton.1 e
        omega
theorem dgN_pos (u : Nat) : 0 < (dgN u).length := by
  by_cases h : u < 10
  · rw [dgN_small h]; simp
  · rw [dgN_step h]; simp
theorem dgN_len : ∀ (k u : Nat), u < 10 ^ (k + 1) → (dgN u).length ≤ k + 1
  | 0, u, h => by rw [dgN_small (by omega)]; simp
  | k + 1, u, h => by
    by_cases h1 : u < 10
    · rw [dgN_small h1]; simp
    · rw [dgN_step h1, List.length_append, List.length_singleton]
      have := dgN_len k (u / 10) (by rw [Nat.pow_succ] at h; omega)
      omega
/-- a number is a word -/
theorem okW_dec (u : Nat) : OkW ⟨dgN u, false⟩ := by
  refine ⟨fun x hx => by have := dgN_dig u x hx; omega, (fun h => by cases h), fun _ => ⟨fun e => by have := dgN_pos u; simp only at e; rw [e] at this; simp at this, fun x hx => by have := dgN_dig u x hx; omega, ?_⟩⟩
  intro e
  simp only at e
  have := dgN_dig u 34 (List.mem_of_mem_head? e)
  omega
end Go.Proofs.YtmbjmokhkonpiaaGreatDoor.Nm

/-
  Bytes by digits of 4, 5 or 6 bits, and back, plainly. (The verifier's own text.)
-/
namespace Go.Proofs.YtmbjmokhkonpiaaGreatDoor.Nm
set_option linter.unusedVariables false

/-- digits of so many bits -/
structure DgW (W : Nat) (d : ByteArray) : Prop where
  pos : 0 < W
  le : W ≤ 7
  ix : ∀ v, v < 2 ^ W → ixN d (bt d v) = some v
def cW (W : Nat) (b : ByteArray) : List Nat := codeP W (bitsL 8 (lst b b.size))
def toWB (W : Nat) (d b : ByteArray) : ByteArray := bts ((cW W b).map (bt d))
section
variable {W : Nat} {d : ByteArray}
theorem cW_lt (h : DgW W d) (b : ByteArray) : ∀ v ∈ cW W b, v < 2 ^ W := codeP_lt h.pos _ _ (Nat.le_refl _) (bitsL_bin 8 _)
theorem cW_len (h : DgW W d) (b : ByteArray) : (cW W b).length ≤ 8 * b.size := by
  have := codeP_len (w := W) h.pos _ (bitsL 8 (lst b b.size)) (Nat.le_refl _)
  rw [bitsL_len, lst_len] at this; exact this
theorem toWB_size (W : Nat) (d b : ByteArray) : (toWB W d b).size = (cW W b).length := by unfold toWB; rw [bts_size, List.length_map]
theorem toWB_bt (W : Nat) (d b : ByteArray) {j : Nat} (hj : j < (cW W b).length) : bt (toWB W d b) j = bt d (cW W b)[j] := by
  unfold toWB
  rw [bts_bt _ (fun x hx => by obtain ⟨i, _, rfl⟩ := List.mem_map.1 hx; exact bt_lt _ _) j (by rw [List.length_map]; exact hj)]
  simp
theorem cW_pos (h : DgW W d) {b : ByteArray} (hb : 0 < b.size) : 0 < (cW W b).length := by
  rcases Nat.eq_zero_or_pos (cW W b).length with h0 | h0
  · obtain ⟨p, hp1, hp2⟩ := bits_code (w := W) h.pos _ (bitsL 8 (lst b b.size)) (Nat.le_refl _) (bitsL_bin 8 _)
    have h1 := congrArg List.length hp2
    have h2 : codeP W (bitsL 8 (lst b b.size)) = [] := List.length_eq_zero_iff.1 h0
    rw [h2, List.length_append, bitsL_len, bitsL_len, lst_len, List.length_nil, List.length_replicate] at h1
    omega
  · exact h0
/-- what each digit is -/
theorem toWB_all (h : DgW W d) (b : ByteArray) {P : Nat → Prop} (hP : ∀ v, v < 2 ^ W → P (bt d v)) : ∀ j, j < (toWB W d b).size → P (bt (toWB W d b) j) := fun j hj => by
  rw [toWB_size] at hj
  rw [toWB_bt W d b hj]
  exact hP _ (cW_lt h b _ (List.getElem_mem hj))
end
def d16 : ByteArray := ⟨#[48, 49, 50, 51, 52, 53, 54, 55, 56, 57, 97, 98, 99, 100, 101, 102]⟩
def d64 : ByteArray := ⟨#[65, 66, 67, 68, 69, 70, 71, 72, 73, 74, 75, 76, 77, 78, 79, 80, 81, 82, 83, 84, 85, 86, 87, 88, 89, 90, 97, 98, 99, 100, 101, 102, 103, 104, 105, 106, 107, 108, 109, 110, 111, 112, 113, 114, 115, 116, 117, 118, 119, 120, 121, 122, 48, 49, 50, 51, 52, 53, 54, 55, 56, 57, 43, 47]⟩
theorem d16_size : d16.size = 16 := rfl
theorem d64_size : d64.size = 64 := rfl
theorem dg16 : DgW 4 d16 := ⟨by omega, by omega, by decide +kernel⟩
theorem dg32 : DgW 5 d32 := ⟨by omega, by omega, by decide +kernel⟩
theorem dg64 : DgW 6 d64 := ⟨by omega, by omega, by decide +kernel⟩
/-- a digit is none of the signs that part words -/
def sgnD (c : Nat) : Prop := c ≠ 32 ∧ c ≠ 34 ∧ c ≠ 61 ∧ c ≠ 45
theorem d16_sgn : ∀ v, v < 2 ^ 4 → sgnD (bt d16 v) := by unfold sgnD; decide +kernel
theorem d32_sgn : ∀ v, v < 2 ^ 5 → sgnD (bt d32 v) := by unfold sgnD; decide +kernel
theorem d64_sgn : ∀ v, v < 2 ^ 6 → sgnD (bt d64 v) := by unfold sgnD; decide +kernel
end Go.Proofs.YtmbjmokhkonpiaaGreatDoor.Nm

/-
  Rows of texts with a sign between, joined, parted and cut again, plainly. (The verifier's own text.)
-/
namespace Go.Proofs.YtmbjmokhkonpiaaGreatDoor.Nm
set_option linter.unusedVariables false
set_option linter.unusedSimpArgs false
open Go

/-- the bytes of a text -/
def lsB (x : ByteArray) : List Nat := lst x x.size
theorem bts_ls (x : ByteArray) : bts (lsB x) = x := bts_lst x
theorem lsB_lt (x : ByteArray) : ∀ y ∈ lsB x, y < 256 := lst_lt x _
theorem lsB_len (x : ByteArray) : (lsB x).length = x.size := lst_len x _
def u8 (l : List Nat) : List UInt8 := l.map UInt8.ofNat
theorem u8_len (l : List Nat) : (u8 l).length = l.length := by simp [u8]
theorem u8_app (a b : List Nat) : u8 (a ++ b) = u8 a ++ u8 b := by simp [u8]
theorem bts_u8 (l : List Nat) : (bts l).data.toList = u8 l := by simp [bts, u8]
theorem u8_bts (l : List Nat) : (⟨(u8 l).toArray⟩ : ByteArray) = bts l := rfl
/-- texts with a sign between -/
def jnC (c : Nat) : List (List Nat) → List Nat
  | [] => []
  | x :: l => x ++ (match l with | [] => [] | _ :: _ => c :: jnC c l)
theorem jnC_one (c : Nat) (x : List Nat) : jnC c [x] = x := by simp [jnC]
theorem jnC_cons (c : Nat) (x y : List Nat) (l : List (List Nat)) : jnC c (x :: y :: l) = x ++ c :: jnC c (y :: l) := rfl
theorem jn_tail (c : Nat) : ∀ (y : List Nat) (l : List (List Nat)), Lib.joinTail [UInt8.ofNat c] ((y :: l).map u8) = u8 (c :: jnC c (y :: l))
  | y, [] => by simp [Lib.joinTail, jnC, u8]
  | y, z :: l => by
    have ih := jn_tail c z l
    unfold Lib.joinTail at ih ⊢
    rw [List.map_cons, List.map_cons, List.flatten_cons, ih, jnC_cons]
    simp [u8]
theorem jnC_join (c : Nat) : ∀ L : List (List Nat), Lib.join (L.map u8) [UInt8.ofNat c] = u8 (jnC c L)
  | [] => rfl
  | [x] => by rw [List.map_cons, List.map_nil, Lib.join_one, jnC_one]
  | x :: y :: l => by
    rw [List.map_cons, Lib.join_cons, jn_tail, jnC_cons, ← u8_app]
theorem jnC_bts (c : Nat) (L : List (List Nat)) : (⟨(Lib.join ((L.map bts).map (·.data.toList)) [UInt8.ofNat c]).toArray⟩ : ByteArray) = bts (jnC c L) := by
  rw [List.map_map, show L.map ((·.data.toList) ∘ bts) = L.map u8 from List.map_congr_left fun x _ => bts_u8 x, jnC_join, u8_bts]
theorem jnW_jnC : ∀ Z : List Wz, jnC 32 (Z.map shW) = jnW Z
  | [] => rfl
  | [z] => by rw [List.map_cons, List.map_nil, jnC_one, jnW_cons]; simp [sfx]
  | z :: y :: l => by rw [List.map_cons, List.map_cons, jnC_cons, ← List.map_cons, jnW_jnC (y :: l), jnW_cons]; rfl
theorem jnC_mem {c : Nat} : ∀ {L : List (List Nat)} {y : Nat}, y ∈ jnC c L → y = c ∨ ∃ x ∈ L, y ∈ x
  | [], y, hy => by cases hy
  | [x], y, hy => by rw [jnC_one] at hy; exact .inr ⟨x, List.mem_cons_self, hy⟩
  | x :: z :: l, y, hy => by
    rw [jnC_cons] at hy
    rcases List.mem_append.1 hy with e | e
    · exact .inr ⟨x, List.mem_cons_self, e⟩
    · rcases List.mem_cons.1 e with e | e
      · exact .inl e
      · rcases jnC_mem e with e | ⟨w, hw, e⟩
        · exact .inl e
        · exact .inr ⟨w, List.mem_cons_of_mem _ hw, e⟩
end Go.Proofs.YtmbjmokhkonpiaaGreatDoor.Nm

/-
  Groups by hexadecimal digits, the longest row of noughts, addresses as they are told, plainly. (The verifier's own text.)
-/
namespace Go.Proofs.YtmbjmokhkonpiaaGreatDoor.Nm
set_option linter.unusedVariables false
set_option linter.unusedSimpArgs false
open Go

/-- a number's digits, the highest first -/
def hxV (u : Nat) : List Nat := if h : u < 16 then [u] else hxV (u / 16) ++ [u % 16]
theorem hxV_small {u : Nat} (h : u < 16) : hxV u = [u] := by rw [hxV, dif_pos h]
theorem hxV_step {u : Nat} (h : ¬ u < 16) : hxV u = hxV (u / 16) ++ [u % 16] := by rw [hxV, dif_neg h]
theorem hxV_lt : ∀ (n u : Nat), u ≤ n → ∀ x ∈ hxV u, x < 16
  | n, u, hn, x, hx => by
    by_cases h : u < 16
    · rw [hxV_small h] at hx; have := List.mem_singleton.1 hx; omega
    · cases n with
      | zero => omega
      | succ n =>
        rw [hxV_step h] at hx
        rcases List.mem_append.1 hx with e | e
        · exact hxV_lt n (u / 16) (by omega) x e
        · have := List.mem_singleton.1 e; omega
theorem hxV_pos (u : Nat) : 0 < (hxV u).length := by
  by_cases h : u < 16
  · rw [hxV_small h]; simp
  · rw [hxV_step h]; simp
theorem hxV_len : ∀ (k u : Nat), u < 16 ^ (k + 1) → (hxV u).length ≤ k + 1
  | 0, u, h => by rw [hxV_small (by omega)]; simp
  | k + 1, u, h => by
    by_cases h1 : u < 16
    · rw [hxV_small h1]; simp
    · rw [hxV_step h1, List.length_append, List.length_singleton]
      have := hxV_len k (u / 16) (by rw [Nat.pow_succ] at h; omega)
      omega
/-- as they are told -/
def hxL (u : Nat) : List Nat := (hxV u).map (bt d16)
theorem hxL_len (u : Nat) : (hxL u).length = (hxV u).length := by simp [hxL]
theorem d16_ok : ∀ v, v < 16 → bt d16 v < 256 ∧ bt d16 v ≠ 58 ∧ bt d16 v ≠ 32 ∧ bt d16 v ≠ 34 ∧ (bt d16 v = 48 → v = 0) := by decide +kernel
theorem hxL_ok (u : Nat) : ∀ y ∈ hxL u, y < 256 ∧ y ≠ 58 ∧ y ≠ 32 ∧ y ≠ 34 := fun y hy => by
  obtain ⟨v, hv, rfl⟩ := List.mem_map.1 hy
  have := d16_ok v (hxV_lt u u (Nat.le_refl _) v hv)
  exact ⟨this.1, this.2.1, this.2.2.1, this.2.2.2.1⟩
theorem hxL_ne (u : Nat) : hxL u ≠ [] := fun e => by
  have := hxV_pos u
  rw [← hxL_len, e] at this
  exact absurd this (by decide)
/-- nought alone is told so -/
theorem hxL_zero (u : Nat) : hxL u = [48] ↔ u = 0 := by
  constructor
  · intro h
    by_cases h1 : u < 16
    · unfold hxL at h
      rw [hxV_small h1, List.map_singleton, List.cons.injEq] at h
      exact (d16_ok u h1).2.2.2.2 h.1
    · have h2 := congrArg List.length h
      rw [hxL_len, hxV_step h1, List.length_append] at h2
      have := hxV_pos (u / 16)
      rw [List.length_singleton, List.length_singleton] at h2
      omega
  · rintro rfl
    decide +kernel
/-- how far the search for the longest row of noughts has come: it begins, it ends, the row at hand begins -/
def gpS : List Nat → Nat → Nat × Nat × Nat → Nat × Nat × Nat
  | [], _, s => s
  | u :: l, i, s => gpS l (i + 1) (if u ≠ 0 then (s.1, s.2.1, i + 1) else if s.2.1 - s.1 < i + 1 - s.2.2 then (s.2.2, i + 1, s.2.2) else s)
def gapF (U : List Nat) : Nat × Nat := ((gpS U 0 (0, 0, 0)).1, (gpS U 0 (0, 0, 0)).2.1)
/-- what it says -/
structure GpI (U : List Nat) (i : Nat) (s : Nat × Nat × Nat) : Prop where
  le : s.1 ≤ s.2.1
  to : s.2.1 ≤ i
  be : s.2.2 ≤ i
  z : ∀ j, s.1 ≤ j → j < s.2.1 → U[j]? = some 0
  b : ∀ j, s.2.2 ≤ j → j < i → U[j]? = some 0
def gpN (u i : Nat) (s : Nat × Nat × Nat) : Nat × Nat × Nat := if u ≠ 0 then (s.1, s.2.1, i + 1) else if s.2.1 - s.1 < i + 1 - s.2.2 then (s.2.2, i + 1, s.2.2) else s
theorem GpI.next {U : List Nat} {i u : Nat} {s : Nat × Nat × Nat} (h : GpI U i s) (hu : U[i]? = some u) : GpI U (i + 1) (gpN u i s) := by
  have h1 := h.le; have h2 := h.to; have h3 := h.be
  unfold gpN
  split
  · exact ⟨h1, by simp only; omega, by simp only; omega, h.z, fun j a b => by simp only at a; omega⟩
  · rename_i hz
    have hz' : u = 0 := by omega
    subst hz'
    have hb : ∀ j, s.2.2 ≤ j → j < i + 1 → U[j]? = some 0 := fun j a b => by
      by_cases e : j = i
      · subst e; exact hu
      · exact h.b j a (by omega)
    split
    · exact ⟨by simp only; omega, by simp only; omega, by simp only; omega, hb, hb⟩
    · exact ⟨h1, by omega, by omega, h.z, hb⟩
theorem gpS_step (u : Nat) (l : List Nat) (i : Nat) (s : Nat × Nat × Nat) : gpS (u :: l) i s = gpS l (i + 1) (gpN u i s) := rfl
theorem gpS_all (U : List Nat) : ∀ (n i : Nat) (s : Nat × Nat × Nat), U.length = i + n → GpI U i s → GpI U U.length (gpS (U.drop i) i s)
  | 0, i, s, hn, h => by
    rw [List.drop_eq_nil_of_le (by omega)]
    have : U.length = i := by omega
    rw [this]; exact h
  | n + 1, i, s, hn, h => by
    have hi : i < U.length := by omega
    rw [List.drop_eq_getElem_cons hi, gpS_step]
    exact gpS_all U n (i + 1) _ (by omega) (h.next (List.getElem?_eq_getElem hi))
theorem gap_ok (U : List Nat) : (gapF U).1 ≤ (gapF U).2 ∧ (gapF U).2 ≤ U.length ∧ ∀ j, (gapF U).1 ≤ j → j < (gapF U).2 → U[j]? = some 0 := by
  have h := gpS_all U U.length 0 (0, 0, 0) (by omega) ⟨Nat.le_refl _, Nat.le_refl _, Nat.le_refl _, fun j a b => absurd b (Nat.not_lt_zero _), fun j a b => absurd b (Nat.not_lt_zero _)⟩
  rw [List.drop_zero] at h
  exact ⟨h.le, h.to, h.z⟩
/-- groups as they are told -/
def grL (U : List Nat) : List Nat := jnC 58 (U.map hxL)
def ip6U (U : List Nat) : List Nat := if (gapF U).2 - (gapF U).1 < 2 then grL U else grL (U.take (gapF U).1) ++ 58 :: 58 :: grL (U.drop (gapF U).2)
theorem grL_nil {U : List Nat} : grL U = [] ↔ U = [] := by
  constructor
  · intro h
    cases U with
    | nil => rfl
    | cons u U =>
      have h2 := hxL_ne u
      cases U with
      | nil => unfold grL at h; rw [List.map_cons, List.map_nil, jnC_one] at h; exact absurd h h2
      | cons v U => unfold grL at h; rw [List.map_cons, List.map_cons, jnC_cons] at h; simp at h
  · rintro rfl; rfl
/-- the groups of sixteen bytes -/
def g16 (b : ByteArray) : List Nat := (List.range 8).map fun i => bt b (2 * i) * 256 + bt b (2 * i + 1)
theorem g16_len (b : ByteArray) : (g16 b).length = 8 := by simp [g16]
theorem g16_at (b : ByteArray) {i : Nat} (h : i < 8) : (g16 b)[i]? = some (bt b (2 * i) * 256 + bt b (2 * i + 1)) := by simp [g16, h]
theorem g16_lt (b : ByteArray) : ∀ u ∈ g16 b, u < 65536 := fun u hu => by
  obtain ⟨i, _, rfl⟩ := List.mem_map.1 hu
  have h1 := bt_lt b (2 * i)
  have h2 := bt_lt b (2 * i + 1)
  omega
/-- an address of four bytes as it is told -/
def ip4L (b : ByteArray) : List Nat := jnC 46 ((lsB b).map dgN)
end Go.Proofs.YtmbjmokhkonpiaaGreatDoor.Nm

/-
  Data's fields, one by one, plainly: a field by itself is a field; texts as a row of texts. (The verifier's own text.)
-/
namespace Go.Proofs.YtmbjmokhkonpiaaGreatDoor
set_option linter.unusedVariables false
set_option linter.unusedSimpArgs false
open Go Go.Proofs.YtmbjmokhkonpiaaGreatDoor.Nm

theorem ext_full (b : ByteArray) : b.extract 0 b.size = b := by
  refine ba_ext (by rw [size_extract' _ _ _ (Nat.le_refl _)]; omega) fun j hj => ?_
  rw [size_extract' _ _ _ (Nat.le_refl _)] at hj
  rw [bt_extract _ _ _ _ (by omega) (Nat.le_refl _), Nat.zero_add]
theorem bt_pre {b : ByteArray} {n j : Nat} (hn : n ≤ b.size) (hj : j < n) : bt (b.extract 0 n) j = bt b j := by
  rw [bt_extract _ _ _ _ (by omega) hn, Nat.zero_add]
theorem size_pre {b : ByteArray} {n : Nat} (hn : n ≤ b.size) : (b.extract 0 n).size = n := by rw [size_extract' _ _ _ hn]; omega
theorem cntS_cut {d : ByteArray} {n : Nat} (h : cntS d = some n) : cntS (d.extract 0 n) = some n := by
  have h1 := cntS_some h
  unfold cntS at h ⊢
  rw [size_pre h1.2, bt_pre h1.2 (by omega)]
  split at h
  · cases h
  · simp only [Option.some.injEq] at h
    rw [if_neg (by omega), h]
theorem txtP_end : ∀ (f : Nat) (d : ByteArray) (a n : Nat), a ≤ d.size → txtP f d a = some n → n = d.size
  | 0, d, a, n, _, h => by cases h
  | f + 1, d, a, n, ha, h => by
    unfold txtP at h
    split at h
    · simp at h; omega
    · cases hc : cntS (d.extract a d.size) with
      | none => rw [hc] at h; cases h
      | some m =>
        rw [hc] at h
        have := cntS_some hc
        rw [size_extract' _ _ _ (Nat.le_refl _)] at this
        exact txtP_end f d (a + m) n (by omega) h
/-- kinds whose field goes on to the end -/
def endK : Kind → Bool
  | 4 | 5 | 6 | 9 | 11 | 12 => true
  | _ => false
theorem kindSize_end {k : Kind} {d : ByteArray} {n : Nat} (he : endK k = true) (h : kindSize k d = some n) : n = d.size := by
  rcases kind_cases k with rfl | rfl | rfl | rfl | rfl | rfl | rfl | rfl | rfl | rfl | rfl | rfl | rfl | ⟨n, rfl⟩
  · cases he
  · cases he
  · cases he
  · cases he
  · simp only [kindSize, txtS] at h
    cases hc : cntS d with
    | none => rw [hc] at h; cases h
    | some m => rw [hc] at h; exact txtP_end _ _ _ _ (cntS_some hc).2 h
  · simp only [kindSize, endS] at h; split at h <;> simp at h; omega
  · simp only [kindSize, endS] at h; split at h <;> simp at h; omega
  · cases he
  · cases he
  · simp only [kindSize, setS] at h; split at h <;> simp at h; omega
  · cases he
  · simp only [kindSize] at h; simp at h; omega
  · simp only [kindSize] at h; simp at h; omega
  · cases he
/-- a field by itself is a field -/
theorem kindSize_cut {k : Kind} {d : ByteArray} {n : Nat} (h : kindSize k d = some n) : kindSize k (d.extract 0 n) = some n := by
  have hle := kindSize_le h
  have hz := size_pre hle
  by_cases he : endK k = true
  · have := kindSize_end he h
    subst this
    rw [ext_full]; exact h
  · rcases kind_cases k with rfl | rfl | rfl | rfl | rfl | rfl | rfl | rfl | rfl | rfl | rfl | rfl | rfl | ⟨m, rfl⟩
    · simp only [kindSize, fixS] at h ⊢
      split at h
      · cases h
      · simp only [Option.some.injEq] at h; subst h; rw [hz, if_neg (by omega)]
    · simp only [kindSize, fixS] at h ⊢
      split at h
      · cases h
      · simp only [Option.some.injEq] at h; subst h; rw [hz, if_neg (by omega)]
    · have h1 := domS_some h
      exact dom_of_name (by rw [hz]; exact Nat.le_refl _) (by
        have e := ext_full (d.extract 0 n)
        rw [hz] at e
        rw [e]; exact h1.2.2.2)
    · exact cntS_cut h
    · exact absurd rfl he
    · exact absurd rfl he
    · exact absurd rfl he
    · exact cntS_cut h
    · simp only [kindSize] at h ⊢
      unfold hashS at h ⊢
      split at h
      · cases h
      · rename_i hno
        have h1 := cntS_some h
        rw [cntS_cut h, bt_pre hle (by omega), if_neg]
        rintro (e | e)
        · cases e
        · exact hno (.inr e)
    · exact absurd rfl he
    · simp only [kindSize] at h ⊢
      unfold oneS at h ⊢
      split at h
      · cases h
      · rename_i hno
        simp only [Option.some.injEq] at h
        subst h
        rw [hz, bt_pre hle (by omega), bt_pre hle (by omega), if_neg]
        rintro (e | e)
        · omega
        · exact hno (.inr e)
    · exact absurd rfl he
    · exact absurd rfl he
    · simp only [kindSize, fixS] at h ⊢
      split at h
      · cases h
      · simp only [Option.some.injEq] at h; subst h; rw [hz, if_neg (by omega)]
/-- the fields put together -/
def catB : List (Kind × ByteArray) → ByteArray
  | [] => ByteArray.empty
  | p :: l => p.2 ++ catB l
theorem ext_parts (d : ByteArray) {n : Nat} (hn : n ≤ d.size) : d.extract 0 n ++ d.extract n d.size = d := by
  refine ba_ext (by rw [ByteArray.size_append, size_pre hn, size_extract' _ _ _ (Nat.le_refl _)]; omega) fun j hj => ?_
  rw [ByteArray.size_append, size_pre hn, size_extract' _ _ _ (Nat.le_refl _)] at hj
  by_cases h : j < n
  · rw [bt_append_left _ _ _ (by rw [size_pre hn]; exact h), bt_pre hn h]
  · rw [bt_append_right _ _ _ (by rw [size_pre hn]; omega), size_pre hn, bt_extract _ _ _ _ (by omega) (Nat.le_refl _)]
    congr 1
    omega
theorem partsOf_facts : ∀ (ks : List Kind) (d : ByteArray) (ps : List (Kind × ByteArray)), partsOf ks d = some ps →
    ps.map (·.1) = ks ∧ (∀ p ∈ ps, kindSize p.1 p.2 = some p.2.size) ∧ catB ps = d
  | [], d, ps, h => by
    unfold partsOf at h
    split at h
    · simp only [Option.some.injEq] at h
      subst h
      exact ⟨rfl, fun p hp => absurd hp List.not_mem_nil, (ba_ext (by rename_i h0; rw [h0]; rfl) (fun j hj => absurd hj (by show ¬ j < 0; omega)))⟩
    · cases h
  | k :: ks, d, ps, h => by
    unfold partsOf at h
    cases hk : kindSize k d with
    | none => rw [hk] at h; cases h
    | some n =>
      rw [hk] at h
      simp only at h
      cases hp : partsOf ks (d.extract n d.size) with
      | none => rw [hp] at h; cases h
      | some qs =>
        rw [hp] at h
        simp only [Option.map_some, Option.some.injEq] at h
        subst h
        obtain ⟨h1, h2, h3⟩ := partsOf_facts ks _ qs hp
        have hle := kindSize_le hk
        refine ⟨by rw [List.map_cons, h1], fun p hp => ?_, by rw [catB, h3]; exact ext_parts d hle⟩
        rcases List.mem_cons.1 hp with e | e
        · subst e; simp only; rw [size_pre hle]; exact kindSize_cut hk
        · exact h2 p e
/-- a text behind its length -/
theorem chunk_cut {x r : ByteArray} (hx : x.size ≤ 255) : cntS (chunk x ++ r) = some (1 + x.size) ∧ (chunk x ++ r).extract (1 + x.size) (chunk x ++ r).size = r ∧ (chunk x ++ r).extract 0 (1 + x.size) = chunk x := by
  have hz : (chunk x ++ r).size = 1 + x.size + r.size := by rw [ByteArray.size_append, chunk_size]
  have hb : bt (chunk x ++ r) 0 = x.size := by
    rw [bt_append_left _ _ _ (by rw [chunk_size]; omega), bt_chunk x (by omega)]
  refine ⟨by unfold cntS; rw [hb, hz, if_neg (by omega)], ?_, ?_⟩
  · refine ba_ext (by rw [size_extract' _ _ _ (Nat.le_refl _), hz]; omega) fun j hj => ?_
    rw [size_extract' _ _ _ (Nat.le_refl _), hz] at hj
    rw [bt_extract _ _ _ _ (by omega) (Nat.le_refl _), bt_append_right _ _ _ (by rw [chunk_size]; omega), chunk_size]
    congr 1
    omega
  · refine ba_ext (by rw [size_pre (by omega), chunk_size]) fun j hj => ?_
    rw [size_pre (by omega)] at hj
    rw [bt_pre (by omega) hj, bt_append_left _ _ _ (by rw [chunk_size]; omega)]
theorem chunk_tail {x : ByteArray} : (chunk x).extract 1 (chunk x).size = x := by
  refine ba_ext (by rw [size_extract' _ _ _ (Nat.le_refl _), chunk_size]; omega) fun j hj => ?_
  rw [size_extract' _ _ _ (Nat.le_refl _), chunk_size] at hj
  have hz := chunk_size x
  rw [bt_extract _ _ _ _ (by omega) (Nat.le_refl _)]
  unfold chunk
  rw [bt_append_right _ _ _ (by show 1 ≤ 1 + j; omega)]
  congr 1
  show 1 + j - 1 = j
  omega
theorem cntS_chunk {d : ByteArray} {n : Nat} (h : cntS d = some n) : ∃ x : ByteArray, x.size ≤ 255 ∧ n = 1 + x.size ∧ d.extract 0 n = chunk x := by
  have h1 := cntS_some h
  refine ⟨d.extract 1 n, ?_, ?_, ?_⟩
  · unfold cntS at h
    split at h
    · cases h
    · simp only [Option.some.injEq] at h
      have := bt_lt d 0
      rw [size_extract' _ _ _ h1.2]; omega
  · rw [size_extract' _ _ _ h1.2]; omega
  · have hn : n = 1 + bt d 0 := by
      unfold cntS at h
      split at h
      · cases h
      · simp only [Option.some.injEq] at h; omega
    refine ba_ext (by rw [size_pre h1.2, chunk_size, size_extract' _ _ _ h1.2]; omega) fun j hj => ?_
    rw [size_pre h1.2] at hj
    rw [bt_pre h1.2 hj]
    by_cases e : j = 0
    · subst e
      rw [bt_chunk _ (by rw [size_extract' _ _ _ h1.2]; have := bt_lt d 0; omega), size_extract' _ _ _ h1.2]
      omega
    · unfold chunk
      rw [bt_append_right _ _ _ (by show 1 ≤ j; omega), bt_extract _ _ _ _ (by show j - 1 < _; omega) h1.2]
      congr 1
      show j = 1 + (j - 1)
      omega
/-- texts are a row of texts -/
theorem txtP_row : ∀ (f : Nat) (d : ByteArray) (a n : Nat), a ≤ d.size → txtP f d a = some n → ∃ L : List ByteArray, (∀ x ∈ L, x.size ≤ 255) ∧ d.extract a d.size = chunks L
  | 0, d, a, n, _, h => by cases h
  | f + 1, d, a, n, ha, h => by
    unfold txtP at h
    split at h
    · exact ⟨[], fun x hx => absurd hx List.not_mem_nil, ba_ext (by rw [size_extract' _ _ _ (Nat.le_refl _)]; show _ = 0; omega) (fun j hj => by rw [size_extract' _ _ _ (Nat.le_refl _)] at hj; omega)⟩
    · cases hc : cntS (d.extract a d.size) with
      | none => rw [hc] at h; cases h
      | some m =>
        rw [hc] at h
        have h1 := cntS_some hc
        rw [size_extract' _ _ _ (Nat.le_refl _)] at h1
        obtain ⟨L, hL, he⟩ := txtP_row f d (a + m) n (by omega) h
        obtain ⟨x, hx, hm, hxe⟩ := cntS_chunk hc
        refine ⟨x :: L, fun y hy => (List.mem_cons.1 hy).elim (fun e => e ▸ hx) (hL y), ?_⟩
        rw [chunks_cons, ← hxe, ← he]
        have e1 : (d.extract a d.size).extract m (d.extract a d.size).size = d.extract (a + m) d.size := by
          refine ba_ext (by simp only [ByteArray.size_extract]; omega) fun j hj => ?_
          simp only [ByteArray.size_extract] at hj
          rw [bt_extract _ _ _ _ (by simp only [ByteArray.size_extract]; omega) (Nat.le_refl _), bt_extract _ _ _ _ (by omega) (Nat.le_refl _), bt_extract _ _ _ _ (by omega) (Nat.le_refl _)]
          congr 1
          omega
        rw [← e1]
        exact (ext_parts _ (by rw [size_extract' _ _ _ (Nat.le_refl _)]; omega)).symm
theorem txtS_row {d : ByteArray} {n : Nat} (h : txtS d = some n) : ∃ (x : ByteArray) (L : List ByteArray), (∀ y ∈ x :: L, y.size ≤ 255) ∧ d = chunks (x :: L) := by
  unfold txtS at h
  cases hc : cntS d with
  | none => rw [hc] at h; cases h
  | some m =>
    rw [hc] at h
    have h1 := cntS_some hc
    obtain ⟨L, hL, he⟩ := txtP_row _ d m n h1.2 h
    obtain ⟨x, hx, hm, hxe⟩ := cntS_chunk hc
    refine ⟨x, L, fun y hy => (List.mem_cons.1 hy).elim (fun e => e ▸ hx) (hL y), ?_⟩
    rw [chunks_cons, ← hxe, ← he]
    exact (ext_parts d h1.2).symm
end Go.Proofs.YtmbjmokhkonpiaaGreatDoor
