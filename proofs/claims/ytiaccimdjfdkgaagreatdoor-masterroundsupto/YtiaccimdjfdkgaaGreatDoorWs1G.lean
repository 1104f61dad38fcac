import Derived.Test.YtiaccimdjfdkgaaGreatDoorMath15G
import Derived.Lib.ItoaNum
import Derived.Test.YtiaccimdjfdkgaaGreatDoorBt1G
import Derived.Lib.Join
import Derived.Lib.SplitLaws
import Derived.Lib.CutLaws
import Derived.Lib.TrimByte
import Derived.Lib.Split
import Derived.Test.YtiaccimdjfdkgaaGreatDoorKs1G
/-
  Words as they are told: texts in quotes, rows of words with blanks between, plainly. (The verifier's own text.)
-/
namespace Go.Proofs.YtiaccimdjfdkgaaGreatDoor.Nm
set_option linter.unusedVariables false
set_option linter.unusedSimpArgs false

/-- what is marked in a text in quotes -/
def mk2 : ByteArray := ⟨#[34, 92]⟩
def shQ (b : Nat) : List Nat := shG 32 mk2 b
theorem am2 (b : Nat) : amB mk2 b = (b == 34 || b == 92) := by
  unfold amB
  rw [show mk2.size = 2 from rfl, show List.range 2 = [0, 1] from rfl]
  simp only [List.any_cons, List.any_nil, Bool.or_false, show bt mk2 0 = 34 from rfl, show bt mk2 1 = 92 from rfl]
  rw [Bool.eq_iff_iff]
  simp only [Bool.or_eq_true, beq_iff_eq]
  omega
theorem shQ_cases {b : Nat} : (shQ b = escL b ∧ (b < 32 ∨ 126 < b)) ∨ (shQ b = [92, b] ∧ (b = 34 ∨ b = 92)) ∨ (shQ b = [b] ∧ b ≠ 34 ∧ b ≠ 92 ∧ 32 ≤ b ∧ b ≤ 126) := by
  unfold shQ shG
  rw [am2]
  by_cases h : b < 32 ∨ 126 < b
  · left; rw [if_pos h]; exact ⟨rfl, h⟩
  · rw [if_neg h]
    by_cases h2 : (b == 34 || b == 92) = true
    · right; left; rw [if_pos h2]; exact ⟨rfl, by simpa using h2⟩
    · right; right; rw [if_neg h2]; simp at h2; exact ⟨rfl, h2.1, h2.2, by omega, by omega⟩
theorem shQ_lt {b : Nat} (hb : b < 256) : ∀ x ∈ shQ b, x < 256 := shG_lt hb
theorem shQ_len (b : Nat) : 0 < (shQ b).length ∧ (shQ b).length ≤ 4 := shG_len _ _ _
/-- what stands first in a told byte, whatever follows, is that byte -/
theorem pc_shQ {b : Nat} (hb : b < 256) (rst : List Nat) (hr : ∀ x ∈ rst, x < 256) : pc (bts (shQ b ++ rst)) = (b, (shQ b).length) := by
  have hlt : ∀ x ∈ shQ b ++ rst, x < 256 := by
    intro x hx
    rcases List.mem_append.1 hx with h | h
    · exact shQ_lt hb x h
    · exact hr x h
  have hz := bts_size (shQ b ++ rst)
  have hbt := bts_bt (shQ b ++ rst) hlt
  rcases shQ_cases (b := b) with ⟨e, he⟩ | ⟨e, he⟩ | ⟨e, h34, h92, h1, h2⟩
  · rw [e] at hz hbt ⊢
    obtain ⟨R, hR⟩ : ∃ R, bts (escL b ++ rst) = R := ⟨_, rfl⟩
    rw [hR] at hz ⊢
    simp only [hR] at hbt
    have e0 := hbt 0 (by simp [escL])
    have e1 := hbt 1 (by simp [escL])
    have e2 := hbt 2 (by simp [escL])
    have e3 := hbt 3 (by simp [escL])
    simp [escL] at e0 e1 e2 e3 hz
    unfold pc
    have hd1 : isD (48 + b / 100) = true := by unfold isD; exact decide_eq_true (by omega)
    have hd2 : isD (48 + b / 10 % 10) = true := by unfold isD; exact decide_eq_true (by omega)
    have hd3 : isD (48 + b % 10) = true := by unfold isD; exact decide_eq_true (by omega)
    have hdv : dv R 3 = b := by
      simp only [dv]; rw [e1, e2, e3]; omega
    rw [e0, if_neg (by omega), if_neg (by omega), e1, e2, e3, hd1, hd2, hd3, if_neg (by decide), if_neg (by simp; omega), hdv, if_neg (by omega)]
    rfl
  · rw [e] at hz hbt ⊢
    have e0 := hbt 0 (by simp)
    have e1 := hbt 1 (by simp)
    simp at e0 e1 hz
    have hd : isD b = false := by unfold isD; exact decide_eq_false (by omega)
    unfold pc
    simp only [List.cons_append, List.nil_append] at *
    rw [e0, if_neg (by omega), if_neg (by omega), e1, if_pos hd]
    rfl
  · rw [e] at hz hbt ⊢
    have e0 := hbt 0 (by simp)
    simp at e0 hz
    unfold pc
    simp only [List.cons_append, List.nil_append] at *
    rw [e0, if_pos h92]
    rfl
/-- bytes told -/
def qtL (l : List Nat) : List Nat := l.flatMap shQ
theorem qtL_nil : qtL [] = [] := rfl
theorem qtL_cons (b : Nat) (l : List Nat) : qtL (b :: l) = shQ b ++ qtL l := rfl
theorem qtL_snoc (l : List Nat) (b : Nat) : qtL (l ++ [b]) = qtL l ++ shQ b := by simp [qtL]
theorem qtL_lt : ∀ {l : List Nat}, (∀ x ∈ l, x < 256) → ∀ x ∈ qtL l, x < 256
  | [], _, x, hx => by cases hx
  | b :: l, h, x, hx => by
    rw [qtL_cons] at hx
    rcases List.mem_append.1 hx with e | e
    · exact shQ_lt (h b List.mem_cons_self) x e
    · exact qtL_lt (fun y hy => h y (List.mem_cons_of_mem _ hy)) x e
theorem qtL_len : ∀ l : List Nat, l.length ≤ (qtL l).length ∧ (qtL l).length ≤ 4 * l.length
  | [] => ⟨Nat.le_refl _, Nat.le_refl _⟩
  | b :: l => by
    have h1 := qtL_len l
    have h2 := shQ_len b
    rw [qtL_cons, List.length_append, List.length_cons]
    omega
/-- what a text in quotes may hold: no end, but behind a mark -/
def okq : List Nat → Bool
  | [] => true
  | x :: l => if x = 34 then false else if x = 92 then (match l with | [] => false | _ :: m => okq m) else okq l
theorem okq_plain {x : Nat} {l : List Nat} (h1 : x ≠ 34) (h2 : x ≠ 92) : okq (x :: l) = okq l := by
  conv => lhs; unfold okq
  rw [if_neg h1, if_neg h2]
theorem okq_mark (y : Nat) (l : List Nat) : okq (92 :: y :: l) = okq l := by
  conv => lhs; unfold okq
  rw [if_neg (by omega), if_pos rfl]
theorem okq_shQ (b : Nat) (l : List Nat) : okq (shQ b ++ l) = okq l := by
  rcases shQ_cases (b := b) with ⟨e, he⟩ | ⟨e, he⟩ | ⟨e, h34, h92, h1, h2⟩
  · rw [e]
    unfold escL
    simp only [List.cons_append, List.nil_append]
    rw [okq_mark, okq_plain (by omega) (by omega), okq_plain (by omega) (by omega)]
  · rw [e]
    exact okq_mark b l
  · rw [e]
    exact okq_plain h34 h92
theorem okq_qt : ∀ l : List Nat, okq (qtL l) = true
  | [] => rfl
  | b :: l => by rw [qtL_cons, okq_shQ]; exact okq_qt l
/-- a word that is told: its text, and whether it stands in quotes -/
structure Wz where
  t : List Nat
  q : Bool
def shW (z : Wz) : List Nat := if z.q then 34 :: (z.t ++ [34]) else z.t
structure OkW (z : Wz) : Prop where
  lt : ∀ x ∈ z.t, x < 256
  qu : z.q = true → okq z.t = true
  pl : z.q = false → z.t ≠ [] ∧ (∀ x ∈ z.t, x ≠ 32) ∧ z.t.head? ≠ some 34
/-- words with blanks between -/
def jnW : List Wz → List Nat
  | [] => []
  | z :: l => shW z ++ (match l with | [] => [] | _ :: _ => 32 :: jnW l)
/-- what is left of a row of words: with the blank ahead, or without -/
def sfx (b : Bool) (l : List Wz) : List Nat := match l with
  | [] => []
  | _ :: _ => (if b then [32] else []) ++ jnW l
theorem jnW_cons (z : Wz) (l : List Wz) : jnW (z :: l) = shW z ++ sfx true l := by
  cases l <;> rfl
theorem sfx_nil (b : Bool) : sfx b [] = [] := rfl
theorem sfx_true (z : Wz) (l : List Wz) : sfx true (z :: l) = 32 :: sfx false (z :: l) := rfl
theorem sfx_false (z : Wz) (l : List Wz) : sfx false (z :: l) = shW z ++ sfx true l := by
  show [] ++ jnW (z :: l) = _
  rw [List.nil_append, jnW_cons]
theorem jnW_sfx (l : List Wz) : jnW l = sfx false l := by cases l <;> rfl
theorem shW_lt {z : Wz} (h : OkW z) : ∀ x ∈ shW z, x < 256 := fun x hx => by
  unfold shW at hx
  split at hx
  · rcases List.mem_cons.1 hx with e | e
    · omega
    · rcases List.mem_append.1 e with e | e
      · exact h.lt x e
      · have := List.mem_singleton.1 e; omega
  · exact h.lt x hx
theorem jnW_lt : ∀ {l : List Wz}, (∀ z ∈ l, OkW z) → ∀ x ∈ jnW l, x < 256
  | [], _, x, hx => by cases hx
  | z :: l, h, x, hx => by
    rw [jnW_cons] at hx
    rcases List.mem_append.1 hx with e | e
    · exact shW_lt (h z List.mem_cons_self) x e
    · cases l with
      | nil => cases e
      | cons y l =>
        rw [sfx_true] at e
        rcases List.mem_cons.1 e with e | e
        · omega
        · rw [← jnW_sfx] at e
          exact jnW_lt (fun w hw => h w (List.mem_cons_of_mem _ hw)) x e
end Go.Proofs.YtiaccimdjfdkgaaGreatDoor.Nm

/-
  Numbers told by decimal digits, and read again, plainly. (The verifier's own text.)
-/
namespace Go.Proofs.YtiaccimdjfdkgaaGreatDoor.Nm
set_option linter.unusedVariables false
set_option linter.unusedSimpArgs false
open Go

/-- the digits of a number -/
def dgN (u : Nat) : List Nat := (Lib.decDigits u).map (·.toNat)
theorem bts_nat (l : List UInt8) : bts (l.map (·.toNat)) = ⟨l.toArray⟩ := by
  unfold bts
  congr 2
  rw [List.map_map]
  exact (List.map_congr_left (g := id) fun x _ => by simp).trans (List.map_id _)
theorem bts_dg (u : Nat) : bts (dgN u) = ⟨(Lib.decDigits u).toArray⟩ := bts_nat _
theorem dig_nat {d : Nat} (h : d < 10) : (UInt8.ofNat (48 + d)).toNat = 48 + d := by
  rw [UInt8.toNat_ofNat']
  omega
theorem dgN_small {u : Nat} (h : u < 10) : dgN u = [48 + u] := by
  unfold dgN
  rw [Lib.decDigits, dif_pos h, List.map_cons, List.map_nil, dig_nat h]
theorem dgN_step {u : Nat} (h : ¬ u < 10) : dgN u = dgN (u / 10) ++ [48 + u % 10] := by
  unfold dgN
  rw [Lib.decDigits, dif_neg h, List.map_append, List.map_cons, List.map_nil, dig_nat (by omega)]
theorem dgN_dig (u : Nat) : ∀ x ∈ dgN u, 48 ≤ x ∧ x ≤ 57 := by
  induction u using Nat.strongRecOn with
  | ind u ih =>
    intro x hx
    by_cases h : u < 10
    · rw [dgN_small h] at hx
      have := List.mem_singleton.1 hx
      omega
    · rw [dgN_step h] at hx
      rcases List.mem_append.1 hx with e | e
      · exact ih (u / 10) (by omega) x e
      · have := List.mem_singleton.1 e
        omega
theorem dgN_pos (u : Nat) : 0 < (dgN u).length := by
  by_cases h : u < 10
  · rw [dgN_small h]; simp
  · rw [dgN_step h]; simp
theorem dgN_len : ∀ (k u : Nat), u < 10 ^ (k + 1) → (dgN u).length ≤ k + 1
  | 0, u, h => by rw [dgN_small (by omega)]; simp
  | k + 1, u, h => by
    by_cases h1 : u < 10
    · rw [dgN_small h1]; simp
    · rw [dgN_step h1, List.length_append, List.length_singleton]
      have := dgN_len k (u / 10) (by rw [Nat.pow_succ] at h; omega)
      omega
/-- no nought stands ahead -/
theorem dgN_head (u : Nat) (h : 0 < u) : (dgN u).head? ≠ some 48 := by
  induction u using Nat.strongRecOn with
  | ind u ih =>
    by_cases h1 : u < 10
    · rw [dgN_small h1]
      simp
      omega
    · have h2 := ih (u / 10) (by omega) (by omega)
      have h3 := dgN_pos (u / 10)
      rw [dgN_step h1]
      cases hd : dgN (u / 10) with
      | nil => rw [hd] at h3; simp at h3
      | cons a l => rw [hd] at h2; exact h2
theorem parse_dec {M : Nat} (hM : M ≤ 4294967295) (r : List UInt8) : ∀ u, u ≤ M → Lib.parseUintM M 0 (Lib.decDigits u ++ r) = Lib.parseUintM M u r := by
  intro u
  induction u using Nat.strongRecOn generalizing r with
  | ind u ih =>
    intro hu
    by_cases h : u < 10
    · rw [Lib.decDigits, dif_pos h, List.cons_append, List.nil_append]
      conv => lhs; unfold Lib.parseUintM
      rw [dig_nat h, if_pos (by omega), if_neg (by omega), if_neg (by omega)]
      congr 1
      omega
    · rw [Lib.decDigits, dif_neg h, List.append_assoc, ih (u / 10) (by omega) _ (by omega), List.cons_append, List.nil_append]
      conv => lhs; unfold Lib.parseUintM
      rw [dig_nat (by omega), if_pos (by omega), if_neg (by omega), if_neg (by omega)]
      congr 1
      omega
/-- what is told is read -/
theorem numR_dec {B most u : Nat} (hB : 2 ^ B ≤ 4294967296) (hu : u < 2 ^ B) (hl : (dgN u).length ≤ most) : numR B most (bts (dgN u)) = some u := by
  refine numR_ok (by rw [bts_size]; omega) ?_
  rw [bts_dg]
  unfold Lib.parseUintB
  have hne : ¬ (Lib.decDigits u) = [] := fun e => by
    have := dgN_pos u
    unfold dgN at this
    rw [e] at this
    simp at this
  have := parse_dec (M := 2 ^ B - 1) (by omega) [] u (by omega)
  rw [List.append_nil] at this
  rw [if_neg (by simpa using hne)]
  simp only
  rw [this]
  rfl
/-- a number is a word -/
theorem okW_dec (u : Nat) : OkW ⟨dgN u, false⟩ := by
  refine ⟨fun x hx => by have := dgN_dig u x hx; omega, (fun h => by cases h), fun _ => ⟨fun e => by have := dgN_pos u; simp only at e; rw [e] at this; simp at this, fun x hx => by have := dgN_dig u x hx; omega, ?_⟩⟩
  intro e
  simp only at e
  have := dgN_dig u 34 (List.mem_of_mem_head? e)
  omega
end Go.Proofs.YtiaccimdjfdkgaaGreatDoor.Nm

/-
  Bytes by digits of 4, 5 or 6 bits, and back, plainly. (The verifier's own text.)
-/
namespace Go.Proofs.YtiaccimdjfdkgaaGreatDoor.Nm
set_option linter.unusedVariables false

/-- digits of so many bits -/
structure DgW (W : Nat) (d : ByteArray) : Prop where
  pos : 0 < W
  le : W ≤ 7
  ix : ∀ v, v < 2 ^ W → ixN d (bt d v) = some v
def cW (W : Nat) (b : ByteArray) : List Nat := codeP W (bitsL 8 (lst b b.size))
def toWB (W : Nat) (d b : ByteArray) : ByteArray := bts ((cW W b).map (bt d))
section
variable {W : Nat} {d : ByteArray}
theorem cW_lt (h : DgW W d) (b : ByteArray) : ∀ v ∈ cW W b, v < 2 ^ W := codeP_lt h.pos _ _ (Nat.le_refl _) (bitsL_bin 8 _)
theorem cW_len (h : DgW W d) (b : ByteArray) : (cW W b).length ≤ 8 * b.size := by
  have := codeP_len (w := W) h.pos _ (bitsL 8 (lst b b.size)) (Nat.le_refl _)
  rw [bitsL_len, lst_len] at this; exact this
theorem toWB_size (W : Nat) (d b : ByteArray) : (toWB W d b).size = (cW W b).length := by unfold toWB; rw [bts_size, List.length_map]
theorem toWB_bt (W : Nat) (d b : ByteArray) {j : Nat} (hj : j < (cW W b).length) : bt (toWB W d b) j = bt d (cW W b)[j] := by
  unfold toWB
  rw [bts_bt _ (fun x hx => by obtain ⟨i, _, rfl⟩ := List.mem_map.1 hx; exact bt_lt _ _) j (by rw [List.length_map]; exact hj)]
  simp
theorem toWB_lst (W : Nat) (d b : ByteArray) : lst (toWB W d b) (toWB W d b).size = (cW W b).map (bt d) := by
  refine List.ext_getElem (by rw [lst_len, List.length_map, toWB_size]) fun j h1 h2 => ?_
  rw [lst_len, toWB_size] at h1
  have := toWB_bt W d b h1
  simp [lst, this]
theorem toWB_vals (h : DgW W d) (b : ByteArray) : (lst (toWB W d b) (toWB W d b).size).map (ixv d) = cW W b := by
  rw [toWB_lst, List.map_map]
  refine (List.map_congr_left (g := id) fun v hv => ?_).trans (List.map_id _)
  have := h.ix v (cW_lt h b v hv)
  simp [ixv, this]
/-- back -/
theorem fromW_to (h : DgW W d) (b : ByteArray) : fromB W d (toWB W d b) = some (lst b b.size) := by
  obtain ⟨p, hp1, hp2⟩ := bits_code (w := W) h.pos _ (bitsL 8 (lst b b.size)) (Nat.le_refl _) (bitsL_bin 8 _)
  have hW := h.le
  have h1 := fromB_end (W := W) (d := d) (t := toWB W d b) (P := bitsL 8 (lst b b.size)) (rem := List.replicate p 0) (m := b.size) (fun j hj => by
      rw [toWB_size] at hj
      rw [toWB_bt W d b hj, h.ix _ (cW_lt h b _ (List.getElem_mem hj))]; simp) (by rw [toWB_vals h]; exact hp2) (by rw [bitsL_len, lst_len]) (by rw [List.length_replicate]; omega)
  have hz := val_zeros [] p
  rw [List.nil_append] at hz
  rw [h1, if_pos ⟨by rw [List.length_replicate]; exact hp1, by rw [hz]; simp [val]⟩, code_bits (by omega) _ (lst_lt b _)]
theorem cW_pos (h : DgW W d) {b : ByteArray} (hb : 0 < b.size) : 0 < (cW W b).length := by
  rcases Nat.eq_zero_or_pos (cW W b).length with h0 | h0
  · obtain ⟨p, hp1, hp2⟩ := bits_code (w := W) h.pos _ (bitsL 8 (lst b b.size)) (Nat.le_refl _) (bitsL_bin 8 _)
    have h1 := congrArg List.length hp2
    have h2 : codeP W (bitsL 8 (lst b b.size)) = [] := List.length_eq_zero_iff.1 h0
    rw [h2, List.length_append, bitsL_len, bitsL_len, lst_len, List.length_nil, List.length_replicate] at h1
    omega
  · exact h0
/-- what each digit is -/
theorem toWB_all (h : DgW W d) (b : ByteArray) {P : Nat → Prop} (hP : ∀ v, v < 2 ^ W → P (bt d v)) : ∀ j, j < (toWB W d b).size → P (bt (toWB W d b) j) := fun j hj => by
  rw [toWB_size] at hj
  rw [toWB_bt W d b hj]
  exact hP _ (cW_lt h b _ (List.getElem_mem hj))
end
def d16 : ByteArray := ⟨#[48, 49, 50, 51, 52, 53, 54, 55, 56, 57, 97, 98, 99, 100, 101, 102]⟩
def d64 : ByteArray := ⟨#[65, 66, 67, 68, 69, 70, 71, 72, 73, 74, 75, 76, 77, 78, 79, 80, 81, 82, 83, 84, 85, 86, 87, 88, 89, 90, 97, 98, 99, 100, 101, 102, 103, 104, 105, 106, 107, 108, 109, 110, 111, 112, 113, 114, 115, 116, 117, 118, 119, 120, 121, 122, 48, 49, 50, 51, 52, 53, 54, 55, 56, 57, 43, 47]⟩
theorem d16_size : d16.size = 16 := rfl
theorem d64_size : d64.size = 64 := rfl
theorem dg16 : DgW 4 d16 := ⟨by omega, by omega, by decide +kernel⟩
theorem dg32 : DgW 5 d32 := ⟨by omega, by omega, by decide +kernel⟩
theorem dg64 : DgW 6 d64 := ⟨by omega, by omega, by decide +kernel⟩
theorem d16_low : ∀ v, v < 2 ^ 4 → lowN (bt d16 v) = bt d16 v := by decide +kernel
/-- a digit is none of the signs that part words -/
def sgnD (c : Nat) : Prop := c ≠ 32 ∧ c ≠ 34 ∧ c ≠ 61 ∧ c ≠ 45
theorem d16_sgn : ∀ v, v < 2 ^ 4 → sgnD (bt d16 v) := by unfold sgnD; decide +kernel
theorem d32_sgn : ∀ v, v < 2 ^ 5 → sgnD (bt d32 v) := by unfold sgnD; decide +kernel
theorem d64_sgn : ∀ v, v < 2 ^ 6 → sgnD (bt d64 v) := by unfold sgnD; decide +kernel
theorem low16 (b : ByteArray) : lowB (toWB 4 d16 b) = toWB 4 d16 b := by
  refine ba_ext (lowB_size _) fun j hj => ?_
  rw [lowB_size, toWB_size] at hj
  rw [lowB_bt, toWB_bt 4 d16 b hj, d16_low _ (cW_lt dg16 b _ (List.getElem_mem hj))]
theorem bts_size_lst (b : ByteArray) : bts (lst b b.size) = b := bts_lst b
end Go.Proofs.YtiaccimdjfdkgaaGreatDoor.Nm

/-
  Rows of texts with a sign between, joined, parted and cut again, plainly. (The verifier's own text.)
-/
namespace Go.Proofs.YtiaccimdjfdkgaaGreatDoor.Nm
set_option linter.unusedVariables false
set_option linter.unusedSimpArgs false
open Go

/-- the bytes of a text -/
def lsB (x : ByteArray) : List Nat := lst x x.size
theorem bts_ls (x : ByteArray) : bts (lsB x) = x := bts_lst x
theorem lsB_lt (x : ByteArray) : ∀ y ∈ lsB x, y < 256 := lst_lt x _
theorem lsB_len (x : ByteArray) : (lsB x).length = x.size := lst_len x _
def u8 (l : List Nat) : List UInt8 := l.map UInt8.ofNat
theorem u8_len (l : List Nat) : (u8 l).length = l.length := by simp [u8]
theorem u8_app (a b : List Nat) : u8 (a ++ b) = u8 a ++ u8 b := by simp [u8]
theorem u8_cons (a : Nat) (b : List Nat) : u8 (a :: b) = UInt8.ofNat a :: u8 b := rfl
theorem bts_u8 (l : List Nat) : (bts l).data.toList = u8 l := by simp [bts, u8]
theorem u8_bts (l : List Nat) : (⟨(u8 l).toArray⟩ : ByteArray) = bts l := rfl
theorem u8_ne {a c : Nat} (ha : a < 256) (hc : c < 256) (h : a ≠ c) : UInt8.ofNat a ≠ UInt8.ofNat c := fun e => by
  have := congrArg UInt8.toNat e
  rw [UInt8.toNat_ofNat', UInt8.toNat_ofNat'] at this
  omega
/-- texts with a sign between -/
def jnC (c : Nat) : List (List Nat) → List Nat
  | [] => []
  | x :: l => x ++ (match l with | [] => [] | _ :: _ => c :: jnC c l)
theorem jnC_one (c : Nat) (x : List Nat) : jnC c [x] = x := by simp [jnC]
theorem jnC_cons (c : Nat) (x y : List Nat) (l : List (List Nat)) : jnC c (x :: y :: l) = x ++ c :: jnC c (y :: l) := rfl
theorem jn_tail (c : Nat) : ∀ (y : List Nat) (l : List (List Nat)), Lib.joinTail [UInt8.ofNat c] ((y :: l).map u8) = u8 (c :: jnC c (y :: l))
  | y, [] => by simp [Lib.joinTail, jnC, u8]
  | y, z :: l => by
    have ih := jn_tail c z l
    unfold Lib.joinTail at ih ⊢
    rw [List.map_cons, List.map_cons, List.flatten_cons, ih, jnC_cons]
    simp [u8]
theorem jnC_join (c : Nat) : ∀ L : List (List Nat), Lib.join (L.map u8) [UInt8.ofNat c] = u8 (jnC c L)
  | [] => rfl
  | [x] => by rw [List.map_cons, List.map_nil, Lib.join_one, jnC_one]
  | x :: y :: l => by
    rw [List.map_cons, Lib.join_cons, jn_tail, jnC_cons, ← u8_app]
theorem jnC_bts (c : Nat) (L : List (List Nat)) : (⟨(Lib.join ((L.map bts).map (·.data.toList)) [UInt8.ofNat c]).toArray⟩ : ByteArray) = bts (jnC c L) := by
  rw [List.map_map, show L.map ((·.data.toList) ∘ bts) = L.map u8 from List.map_congr_left fun x _ => bts_u8 x, jnC_join, u8_bts]
theorem jnW_jnC : ∀ Z : List Wz, jnC 32 (Z.map shW) = jnW Z
  | [] => rfl
  | [z] => by rw [List.map_cons, List.map_nil, jnC_one, jnW_cons]; simp [sfx]
  | z :: y :: l => by rw [List.map_cons, List.map_cons, jnC_cons, ← List.map_cons, jnW_jnC (y :: l), jnW_cons]; rfl
theorem jnC_lt {c : Nat} (hc : c < 256) : ∀ {L : List (List Nat)}, (∀ x ∈ L, ∀ y ∈ x, y < 256) → ∀ y ∈ jnC c L, y < 256
  | [], _, y, hy => by cases hy
  | [x], h, y, hy => by rw [jnC_one] at hy; exact h x List.mem_cons_self y hy
  | x :: z :: l, h, y, hy => by
    rw [jnC_cons] at hy
    rcases List.mem_append.1 hy with e | e
    · exact h x List.mem_cons_self y e
    · rcases List.mem_cons.1 e with e | e
      · omega
      · exact jnC_lt hc (fun w hw => h w (List.mem_cons_of_mem _ hw)) y e
theorem jnC_mem {c : Nat} : ∀ {L : List (List Nat)} {y : Nat}, y ∈ jnC c L → y = c ∨ ∃ x ∈ L, y ∈ x
  | [], y, hy => by cases hy
  | [x], y, hy => by rw [jnC_one] at hy; exact .inr ⟨x, List.mem_cons_self, hy⟩
  | x :: z :: l, y, hy => by
    rw [jnC_cons] at hy
    rcases List.mem_append.1 hy with e | e
    · exact .inr ⟨x, List.mem_cons_self, e⟩
    · rcases List.mem_cons.1 e with e | e
      · exact .inl e
      · rcases jnC_mem e with e | ⟨w, hw, e⟩
        · exact .inl e
        · exact .inr ⟨w, List.mem_cons_of_mem _ hw, e⟩
/-- the first place of one sign -/
theorem idx1_none {c : Nat} (hc : c < 256) : ∀ x : List Nat, (∀ y ∈ x, y < 256 ∧ y ≠ c) → Lib.index (u8 x) [UInt8.ofNat c] = -1
  | [], _ => rfl
  | a :: x, h => by
    have ha := h a List.mem_cons_self
    have ih := idx1_none hc x (fun y hy => h y (List.mem_cons_of_mem _ hy))
    rw [u8_cons, Lib.index, ih]
    have : (UInt8.ofNat c == UInt8.ofNat a) = false := beq_eq_false_iff_ne.2 (fun e => u8_ne ha.1 hc ha.2 e.symm)
    simp [List.isPrefixOf, this]
theorem idx1_at {c : Nat} (hc : c < 256) (r : List UInt8) : ∀ x : List Nat, (∀ y ∈ x, y < 256 ∧ y ≠ c) → Lib.index (u8 x ++ UInt8.ofNat c :: r) [UInt8.ofNat c] = x.length
  | [], _ => by rw [show u8 [] = [] from rfl, List.nil_append, Lib.index]; simp [List.isPrefixOf]
  | a :: x, h => by
    have ha := h a List.mem_cons_self
    have ih := idx1_at hc r x (fun y hy => h y (List.mem_cons_of_mem _ hy))
    rw [u8_cons, List.cons_append, Lib.index, ih]
    have : (UInt8.ofNat c == UInt8.ofNat a) = false := beq_eq_false_iff_ne.2 (fun e => u8_ne ha.1 hc ha.2 e.symm)
    have h2 : ((x.length : Int) == -1) = false := by rw [beq_eq_false_iff_ne]; omega
    simp [List.isPrefixOf, this, h2]
/-- what is joined is parted again -/
theorem split_jn {c : Nat} (hc : c < 256) : ∀ (x : List Nat) (L : List (List Nat)), (∀ z ∈ x :: L, ∀ y ∈ z, y < 256 ∧ y ≠ c) →
    Lib.countB (bts (jnC c (x :: L))) (bts [c]) = L.length ∧ Lib.splitB (bts [c]) 0 L.length (bts (jnC c (x :: L))) = (x :: L).map bts
  | x, [], h => by
    rw [jnC_one]
    have hi : Lib.indexB (bts x) (bts [c]) = -1 := by
      unfold Lib.indexB
      rw [bts_u8, bts_u8]
      exact idx1_none hc x (h x List.mem_cons_self)
    exact ⟨Lib.countB_miss _ _ hi, Lib.splitB_miss _ _ _ _ hi⟩
  | x, y :: L, h => by
    obtain ⟨h1, h2⟩ := split_jn hc y L (fun z hz => h z (List.mem_cons_of_mem _ hz))
    rw [jnC_cons]
    have hi : Lib.indexB (bts (x ++ c :: jnC c (y :: L))) (bts [c]) = (x.length : Int) := by
      unfold Lib.indexB
      rw [bts_u8, bts_u8, u8_app, u8_cons]
      exact idx1_at hc _ x (h x List.mem_cons_self)
    have hz1 : (bts [c]).size = 1 := rfl
    have hd : (bts (x ++ c :: jnC c (y :: L))).extract (x.length + 1) (bts (x ++ c :: jnC c (y :: L))).size = bts (jnC c (y :: L)) := by
      rw [Lib.extract_from, bts_u8]
      rw [show u8 (x ++ c :: jnC c (y :: L)) = u8 (x ++ [c]) ++ u8 (jnC c (y :: L)) by rw [← u8_app]; simp]
      rw [List.drop_left' (by rw [u8_len]; simp), u8_bts]
    have ht : (bts (x ++ c :: jnC c (y :: L))).extract 0 x.length = bts x := by
      rw [Lib.extract_upto, bts_u8, u8_app, List.take_left' (u8_len x), u8_bts]
    constructor
    · rw [Lib.countB_hit _ _ _ (by rw [hz1]; exact Nat.le_refl _) hi, hz1, hd, h1, List.length_cons, Nat.add_comm]
    · rw [List.length_cons, Lib.splitB_hit _ _ _ _ _ hi, hz1, hd, h2, Nat.add_zero, ht]
      rfl
/-- no two signs stand together, and none at the end -/
def nCC (c : Nat) : List Nat → Prop
  | [] => True
  | x :: l => x < 256 ∧ (x = c → ∃ y t, l = y :: t ∧ y ≠ c) ∧ nCC c l
theorem nCC_app {c : Nat} {l : List Nat} (hl : nCC c l) : ∀ x : List Nat, (∀ y ∈ x, y < 256 ∧ y ≠ c) → nCC c (x ++ l)
  | [], _ => hl
  | a :: x, h => ⟨(h a List.mem_cons_self).1, fun e => absurd e (h a List.mem_cons_self).2, nCC_app hl x (fun y hy => h y (List.mem_cons_of_mem _ hy))⟩
theorem nCC_jn {c : Nat} (hc : c < 256) : ∀ L : List (List Nat), (∀ z ∈ L, z ≠ [] ∧ ∀ y ∈ z, y < 256 ∧ y ≠ c) → nCC c (jnC c L)
  | [], _ => trivial
  | [x], h => by rw [jnC_one]; have := nCC_app (c := c) (l := []) trivial x (h x List.mem_cons_self).2; rwa [List.append_nil] at this
  | x :: y :: L, h => by
    rw [jnC_cons]
    refine nCC_app ?_ x (h x List.mem_cons_self).2
    have ih := nCC_jn hc (y :: L) (fun z hz => h z (List.mem_cons_of_mem _ hz))
    refine ⟨hc, fun _ => ?_, ih⟩
    obtain ⟨hy0, hy1⟩ := h y (List.mem_cons_of_mem _ List.mem_cons_self)
    cases y with
    | nil => exact absurd rfl hy0
    | cons a y =>
      cases L with
      | nil => exact ⟨a, y, by rw [jnC_one], (hy1 a List.mem_cons_self).2⟩
      | cons z L => exact ⟨a, y ++ c :: jnC c (z :: L), by rw [jnC_cons]; rfl, (hy1 a List.mem_cons_self).2⟩
theorem idx2_none {c : Nat} (hc : c < 256) : ∀ x : List Nat, nCC c x → Lib.index (u8 x) [UInt8.ofNat c, UInt8.ofNat c] = -1
  | [], _ => rfl
  | a :: x, h => by
    have ih := idx2_none hc x h.2.2
    rw [u8_cons, Lib.index, ih]
    by_cases e : a = c
    · obtain ⟨y, t, rfl, hy⟩ := h.2.1 e
      have hy2 := h.2.2.1
      have : (UInt8.ofNat c == UInt8.ofNat y) = false := beq_eq_false_iff_ne.2 (fun e => u8_ne hy2 hc hy e.symm)
      simp [List.isPrefixOf, u8, this]
    · have : (UInt8.ofNat c == UInt8.ofNat a) = false := beq_eq_false_iff_ne.2 (fun e2 => u8_ne h.1 hc e e2.symm)
      simp [List.isPrefixOf, this]
theorem idx2_at {c : Nat} (hc : c < 256) (r : List UInt8) : ∀ x : List Nat, nCC c x → Lib.index (u8 x ++ UInt8.ofNat c :: UInt8.ofNat c :: r) [UInt8.ofNat c, UInt8.ofNat c] = x.length
  | [], _ => by rw [show u8 [] = [] from rfl, List.nil_append, Lib.index]; simp [List.isPrefixOf]
  | a :: x, h => by
    have ih := idx2_at hc r x h.2.2
    rw [u8_cons, List.cons_append, Lib.index, ih]
    have h2 : ((x.length : Int) == -1) = false := by rw [beq_eq_false_iff_ne]; omega
    by_cases e : a = c
    · obtain ⟨y, t, rfl, hy⟩ := h.2.1 e
      have hy2 := h.2.2.1
      have : (UInt8.ofNat c == UInt8.ofNat y) = false := beq_eq_false_iff_ne.2 (fun e => u8_ne hy2 hc hy e.symm)
      have h3 : (((y :: t).length : Int) == -1) = false := by rw [beq_eq_false_iff_ne]; omega
      rw [h3]
      simp [List.isPrefixOf, u8, this]
    · have : (UInt8.ofNat c == UInt8.ofNat a) = false := beq_eq_false_iff_ne.2 (fun e2 => u8_ne h.1 hc e e2.symm)
      simp [List.isPrefixOf, this, h2]
/-- what is cut at two signs -/
theorem cut_no {c : Nat} (hc : c < 256) {x : List Nat} (h : nCC c x) : Lib.cut (bts x).data.toList (bts [c, c]).data.toList = (u8 x, [], false) := by
  rw [bts_u8, bts_u8]
  unfold Lib.cut
  rw [show u8 [c, c] = [UInt8.ofNat c, UInt8.ofNat c] from rfl, idx2_none hc x h, if_neg (by omega)]
theorem cut_yes {c : Nat} (hc : c < 256) {x r : List Nat} (h : nCC c x) : Lib.cut (bts (x ++ c :: c :: r)).data.toList (bts [c, c]).data.toList = (u8 x, u8 r, true) := by
  rw [bts_u8, bts_u8, u8_app, u8_cons, u8_cons]
  unfold Lib.cut
  rw [show u8 [c, c] = [UInt8.ofNat c, UInt8.ofNat c] from rfl, idx2_at hc _ x h, if_pos (by omega)]
  simp only [Int.toNat_natCast, List.length_cons, List.length_nil]
  rw [List.take_left' (u8_len x)]
  rw [show u8 x ++ UInt8.ofNat c :: UInt8.ofNat c :: u8 r = u8 (x ++ [c, c]) ++ u8 r by simp [u8], List.drop_left' (by rw [u8_len]; simp)]
end Go.Proofs.YtiaccimdjfdkgaaGreatDoor.Nm

/-
  Groups by hexadecimal digits, the longest row of noughts, addresses as they are told, plainly. (The verifier's own text.)
-/
namespace Go.Proofs.YtiaccimdjfdkgaaGreatDoor.Nm
set_option linter.unusedVariables false
set_option linter.unusedSimpArgs false
open Go

/-- a number's digits, the highest first -/
def hxV (u : Nat) : List Nat := if h : u < 16 then [u] else hxV (u / 16) ++ [u % 16]
theorem hxV_small {u : Nat} (h : u < 16) : hxV u = [u] := by rw [hxV, dif_pos h]
theorem hxV_step {u : Nat} (h : ¬ u < 16) : hxV u = hxV (u / 16) ++ [u % 16] := by rw [hxV, dif_neg h]
theorem hxV_lt : ∀ (n u : Nat), u ≤ n → ∀ x ∈ hxV u, x < 16
  | n, u, hn, x, hx => by
    by_cases h : u < 16
    · rw [hxV_small h] at hx; have := List.mem_singleton.1 hx; omega
    · cases n with
      | zero => omega
      | succ n =>
        rw [hxV_step h] at hx
        rcases List.mem_append.1 hx with e | e
        · exact hxV_lt n (u / 16) (by omega) x e
        · have := List.mem_singleton.1 e; omega
theorem hxV_pos (u : Nat) : 0 < (hxV u).length := by
  by_cases h : u < 16
  · rw [hxV_small h]; simp
  · rw [hxV_step h]; simp
theorem hxV_len : ∀ (k u : Nat), u < 16 ^ (k + 1) → (hxV u).length ≤ k + 1
  | 0, u, h => by rw [hxV_small (by omega)]; simp
  | k + 1, u, h => by
    by_cases h1 : u < 16
    · rw [hxV_small h1]; simp
    · rw [hxV_step h1, List.length_append, List.length_singleton]
      have := hxV_len k (u / 16) (by rw [Nat.pow_succ] at h; omega)
      omega
/-- digits as a number -/
def vH (l : List Nat) : Nat := l.foldl (fun a x => a * 16 + x) 0
theorem vH_snoc (l : List Nat) (x : Nat) : vH (l ++ [x]) = vH l * 16 + x := by simp [vH]
theorem vH_hx : ∀ (n u : Nat), u ≤ n → vH (hxV u) = u
  | n, u, hn => by
    by_cases h : u < 16
    · rw [hxV_small h]; simp [vH]
    · cases n with
      | zero => omega
      | succ n =>
        rw [hxV_step h, vH_snoc, vH_hx n (u / 16) (by omega)]
        omega
theorem vH_acc : ∀ (l : List Nat) (a : Nat), (∀ x ∈ l, x < 16) → l.foldl (fun a x => a * 16 + x) a + 1 ≤ (a + 1) * 16 ^ l.length
  | [], a, _ => by simp
  | y :: l, a, h => by
    have ih := vH_acc l (a * 16 + y) (fun x hx => h x (List.mem_cons_of_mem _ hx))
    have hy := h y List.mem_cons_self
    rw [List.foldl_cons, List.length_cons, Nat.pow_succ]
    refine Nat.le_trans ih ?_
    rw [Nat.mul_comm (16 ^ l.length) 16, ← Nat.mul_assoc]
    exact Nat.mul_le_mul_right _ (by omega)
theorem vH_lt (l : List Nat) (h : ∀ x ∈ l, x < 16) : vH l < 16 ^ l.length := by
  have := vH_acc l 0 h
  unfold vH
  omega
/-- as they are told -/
def hxL (u : Nat) : List Nat := (hxV u).map (bt d16)
theorem hxL_len (u : Nat) : (hxL u).length = (hxV u).length := by simp [hxL]
theorem d16_ok : ∀ v, v < 16 → bt d16 v < 256 ∧ bt d16 v ≠ 58 ∧ bt d16 v ≠ 32 ∧ bt d16 v ≠ 34 ∧ (bt d16 v = 48 → v = 0) := by decide +kernel
theorem hxL_ok (u : Nat) : ∀ y ∈ hxL u, y < 256 ∧ y ≠ 58 ∧ y ≠ 32 ∧ y ≠ 34 := fun y hy => by
  obtain ⟨v, hv, rfl⟩ := List.mem_map.1 hy
  have := d16_ok v (hxV_lt u u (Nat.le_refl _) v hv)
  exact ⟨this.1, this.2.1, this.2.2.1, this.2.2.2.1⟩
theorem hxL_ne (u : Nat) : hxL u ≠ [] := fun e => by
  have := hxV_pos u
  rw [← hxL_len, e] at this
  exact absurd this (by decide)
/-- nought alone is told so -/
theorem hxL_zero (u : Nat) : hxL u = [48] ↔ u = 0 := by
  constructor
  · intro h
    by_cases h1 : u < 16
    · unfold hxL at h
      rw [hxV_small h1, List.map_singleton, List.cons.injEq] at h
      exact (d16_ok u h1).2.2.2.2 h.1
    · have h2 := congrArg List.length h
      rw [hxL_len, hxV_step h1, List.length_append] at h2
      have := hxV_pos (u / 16)
      rw [List.length_singleton, List.length_singleton] at h2
      omega
  · rintro rfl
    decide +kernel
/-- how far the search for the longest row of noughts has come: it begins, it ends, the row at hand begins -/
def gpS : List Nat → Nat → Nat × Nat × Nat → Nat × Nat × Nat
  | [], _, s => s
  | u :: l, i, s => gpS l (i + 1) (if u ≠ 0 then (s.1, s.2.1, i + 1) else if s.2.1 - s.1 < i + 1 - s.2.2 then (s.2.2, i + 1, s.2.2) else s)
def gapF (U : List Nat) : Nat × Nat := ((gpS U 0 (0, 0, 0)).1, (gpS U 0 (0, 0, 0)).2.1)
/-- what it says -/
structure GpI (U : List Nat) (i : Nat) (s : Nat × Nat × Nat) : Prop where
  le : s.1 ≤ s.2.1
  to : s.2.1 ≤ i
  be : s.2.2 ≤ i
  z : ∀ j, s.1 ≤ j → j < s.2.1 → U[j]? = some 0
  b : ∀ j, s.2.2 ≤ j → j < i → U[j]? = some 0
def gpN (u i : Nat) (s : Nat × Nat × Nat) : Nat × Nat × Nat := if u ≠ 0 then (s.1, s.2.1, i + 1) else if s.2.1 - s.1 < i + 1 - s.2.2 then (s.2.2, i + 1, s.2.2) else s
theorem GpI.next {U : List Nat} {i u : Nat} {s : Nat × Nat × Nat} (h : GpI U i s) (hu : U[i]? = some u) : GpI U (i + 1) (gpN u i s) := by
  have h1 := h.le; have h2 := h.to; have h3 := h.be
  unfold gpN
  split
  · exact ⟨h1, by simp only; omega, by simp only; omega, h.z, fun j a b => by simp only at a; omega⟩
  · rename_i hz
    have hz' : u = 0 := by omega
    subst hz'
    have hb : ∀ j, s.2.2 ≤ j → j < i + 1 → U[j]? = some 0 := fun j a b => by
      by_cases e : j = i
      · subst e; exact hu
      · exact h.b j a (by omega)
    split
    · exact ⟨by simp only; omega, by simp only; omega, by simp only; omega, hb, hb⟩
    · exact ⟨h1, by omega, by omega, h.z, hb⟩
theorem gpS_step (u : Nat) (l : List Nat) (i : Nat) (s : Nat × Nat × Nat) : gpS (u :: l) i s = gpS l (i + 1) (gpN u i s) := rfl
theorem gpS_all (U : List Nat) : ∀ (n i : Nat) (s : Nat × Nat × Nat), U.length = i + n → GpI U i s → GpI U U.length (gpS (U.drop i) i s)
  | 0, i, s, hn, h => by
    rw [List.drop_eq_nil_of_le (by omega)]
    have : U.length = i := by omega
    rw [this]; exact h
  | n + 1, i, s, hn, h => by
    have hi : i < U.length := by omega
    rw [List.drop_eq_getElem_cons hi, gpS_step]
    exact gpS_all U n (i + 1) _ (by omega) (h.next (List.getElem?_eq_getElem hi))
theorem gap_ok (U : List Nat) : (gapF U).1 ≤ (gapF U).2 ∧ (gapF U).2 ≤ U.length ∧ ∀ j, (gapF U).1 ≤ j → j < (gapF U).2 → U[j]? = some 0 := by
  have h := gpS_all U U.length 0 (0, 0, 0) (by omega) ⟨Nat.le_refl _, Nat.le_refl _, Nat.le_refl _, fun j a b => absurd b (Nat.not_lt_zero _), fun j a b => absurd b (Nat.not_lt_zero _)⟩
  rw [List.drop_zero] at h
  exact ⟨h.le, h.to, h.z⟩
/-- groups as they are told -/
def grL (U : List Nat) : List Nat := jnC 58 (U.map hxL)
def ip6U (U : List Nat) : List Nat := if (gapF U).2 - (gapF U).1 < 2 then grL U else grL (U.take (gapF U).1) ++ 58 :: 58 :: grL (U.drop (gapF U).2)
theorem grL_ok (U : List Nat) : ∀ z ∈ U.map hxL, z ≠ [] ∧ ∀ y ∈ z, y < 256 ∧ y ≠ 58 := fun z hz => by
  obtain ⟨u, _, rfl⟩ := List.mem_map.1 hz
  exact ⟨hxL_ne u, fun y hy => ⟨(hxL_ok u y hy).1, (hxL_ok u y hy).2.1⟩⟩
theorem grL_cc (U : List Nat) : nCC 58 (grL U) := nCC_jn (by omega) _ (grL_ok U)
theorem grL_nil {U : List Nat} : grL U = [] ↔ U = [] := by
  constructor
  · intro h
    cases U with
    | nil => rfl
    | cons u U =>
      have h2 := hxL_ne u
      cases U with
      | nil => unfold grL at h; rw [List.map_cons, List.map_nil, jnC_one] at h; exact absurd h h2
      | cons v U => unfold grL at h; rw [List.map_cons, List.map_cons, jnC_cons] at h; simp at h
  · rintro rfl; rfl
/-- groups as bytes -/
def grB (U : List Nat) : List Nat := U.flatMap fun u => [u / 256, u % 256]
theorem grB_len (U : List Nat) : (grB U).length = 2 * U.length := by
  induction U with
  | nil => rfl
  | cons u U ih => simp [grB] at ih ⊢; omega
theorem grB_app (A B : List Nat) : grB (A ++ B) = grB A ++ grB B := by simp [grB]
theorem grB_zeros (n : Nat) : grB (List.replicate n 0) = List.replicate (2 * n) 0 := by
  induction n with
  | zero => rfl
  | succ n ih =>
    rw [List.replicate_succ, show grB (0 :: List.replicate n 0) = 0 :: 0 :: grB (List.replicate n 0) from rfl, ih, show 2 * (n + 1) = 2 * n + 1 + 1 by omega, List.replicate_succ, List.replicate_succ]
/-- what is left out are noughts -/
theorem gap_bytes (U : List Nat) : grB U = grB (U.take (gapF U).1) ++ List.replicate (2 * ((gapF U).2 - (gapF U).1)) 0 ++ grB (U.drop (gapF U).2) := by
  obtain ⟨h1, h2, h3⟩ := gap_ok U
  generalize (gapF U).1 = a at *
  generalize (gapF U).2 = b at *
  have hm : (U.drop a).take (b - a) = List.replicate (b - a) 0 := by
    refine List.ext_getElem? fun j => ?_
    rw [List.getElem?_take, List.getElem?_replicate]
    by_cases hj : j < b - a
    · rw [if_pos hj, if_pos hj, List.getElem?_drop]; exact h3 _ (by omega) (by omega)
    · rw [if_neg hj, if_neg hj]
  rw [← grB_zeros, ← hm, ← grB_app, ← grB_app]
  congr 1
  rw [List.append_assoc, show U.drop b = (U.drop a).drop (b - a) by rw [List.drop_drop]; congr 1; omega, List.take_append_drop, List.take_append_drop]
/-- the groups of sixteen bytes -/
def g16 (b : ByteArray) : List Nat := (List.range 8).map fun i => bt b (2 * i) * 256 + bt b (2 * i + 1)
theorem g16_len (b : ByteArray) : (g16 b).length = 8 := by simp [g16]
theorem g16_at (b : ByteArray) {i : Nat} (h : i < 8) : (g16 b)[i]? = some (bt b (2 * i) * 256 + bt b (2 * i + 1)) := by simp [g16, h]
theorem g16_lt (b : ByteArray) : ∀ u ∈ g16 b, u < 65536 := fun u hu => by
  obtain ⟨i, _, rfl⟩ := List.mem_map.1 hu
  have h1 := bt_lt b (2 * i)
  have h2 := bt_lt b (2 * i + 1)
  omega
theorem g16_bytes {b : ByteArray} (h : b.size = 16) : bts (grB (g16 b)) = b := by
  have e : grB (g16 b) = lst b 16 := by
    have hb := bt_lt b
    have key : ∀ x y : Nat, y < 256 → (x * 256 + y) / 256 = x ∧ (x * 256 + y) % 256 = y := fun x y hy => ⟨by omega, by omega⟩
    show (g16 b).flatMap (fun u => [u / 256, u % 256]) = _
    unfold g16
    rw [show List.range 8 = [0, 1, 2, 3, 4, 5, 6, 7] from rfl]
    simp only [List.map_cons, List.map_nil, List.flatMap_cons, List.flatMap_nil, (key _ _ (hb _)).1, (key _ _ (hb _)).2, List.append_nil, List.cons_append, List.nil_append]
    unfold lst
    rw [show List.range 16 = [0, 1, 2, 3, 4, 5, 6, 7, 8, 9, 10, 11, 12, 13, 14, 15] from rfl]
    rfl
  rw [e, ← h, bts_lst]
/-- an address of four bytes as it is told -/
def ip4L (b : ByteArray) : List Nat := jnC 46 ((lsB b).map dgN)
end Go.Proofs.YtiaccimdjfdkgaaGreatDoor.Nm

/-
  Data's fields, one by one, plainly: a field by itself is a field; texts as a row of texts. (The verifier's own text.)
-/
namespace Go.Proofs.YtiaccimdjfdkgaaGreatDoor
set_option linter.unusedVariables false
set_option linter.unusedSimpArgs false
open Go Go.Proofs.YtiaccimdjfdkgaaGreatDoor.Nm

theorem ext_full (b : ByteArray) : b.extract 0 b.size = b := by
  refine ba_ext (by rw [size_extract' _ _ _ (Nat.le_refl _)]; omega) fun j hj => ?_
  rw [size_extract' _ _ _ (Nat.le_refl _)] at hj
  rw [bt_extract _ _ _ _ (by omega) (Nat.le_refl _), Nat.zero_add]
theorem bt_pre {b : ByteArray} {n j : Nat} (hn : n ≤ b.size) (hj : j < n) : bt (b.extract 0 n) j = bt b j := by
  rw [bt_extract _ _ _ _ (by omega) hn, Nat.zero_add]
theorem size_pre {b : ByteArray} {n : Nat} (hn : n ≤ b.size) : (b.extract 0 n).size = n := by rw [size_extract' _ _ _ hn]; omega
theorem cntS_cut {d : ByteArray} {n : Nat} (h : cntS d = some n) : cntS (d.extract 0 n) = some n := by
  have h1 := cntS_some h
  unfold cntS at h ⊢
  rw [size_pre h1.2, bt_pre h1.2 (by omega)]
  split at h
  · cases h
  · simp only [Option.some.injEq] at h
    rw [if_neg (by omega), h]
theorem txtP_end : ∀ (f : Nat) (d : ByteArray) (a n : Nat), a ≤ d.size → txtP f d a = some n → n = d.size
  | 0, d, a, n, _, h => by cases h
  | f + 1, d, a, n, ha, h => by
    unfold txtP at h
    split at h
    · simp at h; omega
    · cases hc : cntS (d.extract a d.size) with
      | none => rw [hc] at h; cases h
      | some m =>
        rw [hc] at h
        have := cntS_some hc
        rw [size_extract' _ _ _ (Nat.le_refl _)] at this
        exact txtP_end f d (a + m) n (by omega) h
/-- kinds whose field goes on to the end -/
def endK : Kind → Bool
  | 4 | 5 | 6 | 9 | 11 | 12 => true
  | _ => false
theorem kindSize_end {k : Kind} {d : ByteArray} {n : Nat} (he : endK k = true) (h : kindSize k d = some n) : n = d.size := by
  rcases kind_cases k with rfl | rfl | rfl | rfl | rfl | rfl | rfl | rfl | rfl | rfl | rfl | rfl | rfl | ⟨n, rfl⟩
  · cases he
  · cases he
  · cases he
  · cases he
  · simp only [kindSize, txtS] at h
    cases hc : cntS d with
    | none => rw [hc] at h; cases h
    | some m => rw [hc] at h; exact txtP_end _ _ _ _ (cntS_some hc).2 h
  · simp only [kindSize, endS] at h; split at h <;> simp at h; omega
  · simp only [kindSize, endS] at h; split at h <;> simp at h; omega
  · cases he
  · cases he
  · simp only [kindSize, setS] at h; split at h <;> simp at h; omega
  · cases he
  · simp only [kindSize] at h; simp at h; omega
  · simp only [kindSize] at h; simp at h; omega
  · cases he
/-- a field by itself is a field -/
theorem kindSize_cut {k : Kind} {d : ByteArray} {n : Nat} (h : kindSize k d = some n) : kindSize k (d.extract 0 n) = some n := by
  have hle := kindSize_le h
  have hz := size_pre hle
  by_cases he : endK k = true
  · have := kindSize_end he h
    subst this
    rw [ext_full]; exact h
  · rcases kind_cases k with rfl | rfl | rfl | rfl | rfl | rfl | rfl | rfl | rfl | rfl | rfl | rfl | rfl | ⟨m, rfl⟩
    · simp only [kindSize, fixS] at h ⊢
      split at h
      · cases h
      · simp only [Option.some.injEq] at h; subst h; rw [hz, if_neg (by omega)]
    · simp only [kindSize, fixS] at h ⊢
      split at h
      · cases h
      · simp only [Option.some.injEq] at h; subst h; rw [hz, if_neg (by omega)]
    · have h1 := domS_some h
      exact dom_of_name (by rw [hz]; exact Nat.le_refl _) (by
        have e := ext_full (d.extract 0 n)
        rw [hz] at e
        rw [e]; exact h1.2.2.2)
    · exact cntS_cut h
    · exact absurd rfl he
    · exact absurd rfl he
    · exact absurd rfl he
    · exact cntS_cut h
    · simp only [kindSize] at h ⊢
      unfold hashS at h ⊢
      split at h
      · cases h
      · rename_i hno
        have h1 := cntS_some h
        rw [cntS_cut h, bt_pre hle (by omega), if_neg]
        rintro (e | e)
        · cases e
        · exact hno (.inr e)
    · exact absurd rfl he
    · simp only [kindSize] at h ⊢
      unfold oneS at h ⊢
      split at h
      · cases h
      · rename_i hno
        simp only [Option.some.injEq] at h
        subst h
        rw [hz, bt_pre hle (by omega), bt_pre hle (by omega), if_neg]
        rintro (e | e)
        · omega
        · exact hno (.inr e)
    · exact absurd rfl he
    · exact absurd rfl he
    · simp only [kindSize, fixS] at h ⊢
      split at h
      · cases h
      · simp only [Option.some.injEq] at h; subst h; rw [hz, if_neg (by omega)]
/-- the fields put together -/
def catB : List (Kind × ByteArray) → ByteArray
  | [] => ByteArray.empty
  | p :: l => p.2 ++ catB l
theorem catB_app : ∀ a b : List (Kind × ByteArray), catB (a ++ b) = catB a ++ catB b
  | [], b => by simp [catB]
  | p :: a, b => by rw [List.cons_append, catB, catB, catB_app a b, ByteArray.append_assoc]
theorem catB_one (p : Kind × ByteArray) : catB [p] = p.2 := by simp [catB]
theorem ext_parts (d : ByteArray) {n : Nat} (hn : n ≤ d.size) : d.extract 0 n ++ d.extract n d.size = d := by
  refine ba_ext (by rw [ByteArray.size_append, size_pre hn, size_extract' _ _ _ (Nat.le_refl _)]; omega) fun j hj => ?_
  rw [ByteArray.size_append, size_pre hn, size_extract' _ _ _ (Nat.le_refl _)] at hj
  by_cases h : j < n
  · rw [bt_append_left _ _ _ (by rw [size_pre hn]; exact h), bt_pre hn h]
  · rw [bt_append_right _ _ _ (by rw [size_pre hn]; omega), size_pre hn, bt_extract _ _ _ _ (by omega) (Nat.le_refl _)]
    congr 1
    omega
theorem partsOf_facts : ∀ (ks : List Kind) (d : ByteArray) (ps : List (Kind × ByteArray)), partsOf ks d = some ps →
    ps.map (·.1) = ks ∧ (∀ p ∈ ps, kindSize p.1 p.2 = some p.2.size) ∧ catB ps = d
  | [], d, ps, h => by
    unfold partsOf at h
    split at h
    · simp only [Option.some.injEq] at h
      subst h
      exact ⟨rfl, fun p hp => absurd hp List.not_mem_nil, (ba_ext (by rename_i h0; rw [h0]; rfl) (fun j hj => absurd hj (by show ¬ j < 0; omega)))⟩
    · cases h
  | k :: ks, d, ps, h => by
    unfold partsOf at h
    cases hk : kindSize k d with
    | none => rw [hk] at h; cases h
    | some n =>
      rw [hk] at h
      simp only at h
      cases hp : partsOf ks (d.extract n d.size) with
      | none => rw [hp] at h; cases h
      | some qs =>
        rw [hp] at h
        simp only [Option.map_some, Option.some.injEq] at h
        subst h
        obtain ⟨h1, h2, h3⟩ := partsOf_facts ks _ qs hp
        have hle := kindSize_le hk
        refine ⟨by rw [List.map_cons, h1], fun p hp => ?_, by rw [catB, h3]; exact ext_parts d hle⟩
        rcases List.mem_cons.1 hp with e | e
        · subst e; simp only; rw [size_pre hle]; exact kindSize_cut hk
        · exact h2 p e
/-- a text behind its length -/
theorem chunk_cut {x r : ByteArray} (hx : x.size ≤ 255) : cntS (chunk x ++ r) = some (1 + x.size) ∧ (chunk x ++ r).extract (1 + x.size) (chunk x ++ r).size = r ∧ (chunk x ++ r).extract 0 (1 + x.size) = chunk x := by
  have hz : (chunk x ++ r).size = 1 + x.size + r.size := by rw [ByteArray.size_append, chunk_size]
  have hb : bt (chunk x ++ r) 0 = x.size := by
    rw [bt_append_left _ _ _ (by rw [chunk_size]; omega), bt_chunk x (by omega)]
  refine ⟨by unfold cntS; rw [hb, hz, if_neg (by omega)], ?_, ?_⟩
  · refine ba_ext (by rw [size_extract' _ _ _ (Nat.le_refl _), hz]; omega) fun j hj => ?_
    rw [size_extract' _ _ _ (Nat.le_refl _), hz] at hj
    rw [bt_extract _ _ _ _ (by omega) (Nat.le_refl _), bt_append_right _ _ _ (by rw [chunk_size]; omega), chunk_size]
    congr 1
    omega
  · refine ba_ext (by rw [size_pre (by omega), chunk_size]) fun j hj => ?_
    rw [size_pre (by omega)] at hj
    rw [bt_pre (by omega) hj, bt_append_left _ _ _ (by rw [chunk_size]; omega)]
theorem chunk_tail {x : ByteArray} : (chunk x).extract 1 (chunk x).size = x := by
  refine ba_ext (by rw [size_extract' _ _ _ (Nat.le_refl _), chunk_size]; omega) fun j hj => ?_
  rw [size_extract' _ _ _ (Nat.le_refl _), chunk_size] at hj
  have hz := chunk_size x
  rw [bt_extract _ _ _ _ (by omega) (Nat.le_refl _)]
  unfold chunk
  rw [bt_append_right _ _ _ (by show 1 ≤ 1 + j; omega)]
  congr 1
  show 1 + j - 1 = j
  omega
theorem cntS_chunk {d : ByteArray} {n : Nat} (h : cntS d = some n) : ∃ x : ByteArray, x.size ≤ 255 ∧ n = 1 + x.size ∧ d.extract 0 n = chunk x := by
  have h1 := cntS_some h
  refine ⟨d.extract 1 n, ?_, ?_, ?_⟩
  · unfold cntS at h
    split at h
    · cases h
    · simp only [Option.some.injEq] at h
      have := bt_lt d 0
      rw [size_extract' _ _ _ h1.2]; omega
  · rw [size_extract' _ _ _ h1.2]; omega
  · have hn : n = 1 + bt d 0 := by
      unfold cntS at h
      split at h
      · cases h
      · simp only [Option.some.injEq] at h; omega
    refine ba_ext (by rw [size_pre h1.2, chunk_size, size_extract' _ _ _ h1.2]; omega) fun j hj => ?_
    rw [size_pre h1.2] at hj
    rw [bt_pre h1.2 hj]
    by_cases e : j = 0
    · subst e
      rw [bt_chunk _ (by rw [size_extract' _ _ _ h1.2]; have := bt_lt d 0; omega), size_extract' _ _ _ h1.2]
      omega
    · unfold chunk
      rw [bt_append_right _ _ _ (by show 1 ≤ j; omega), bt_extract _ _ _ _ (by show j - 1 < _; omega) h1.2]
      congr 1
      show j = 1 + (j - 1)
      omega
/-- texts are a row of texts -/
theorem txtP_row : ∀ (f : Nat) (d : ByteArray) (a n : Nat), a ≤ d.size → txtP f d a = some n → ∃ L : List ByteArray, (∀ x ∈ L, x.size ≤ 255) ∧ d.extract a d.size = chunks L
  | 0, d, a, n, _, h => by cases h
  | f + 1, d, a, n, ha, h => by
    unfold txtP at h
    split at h
    · exact ⟨[], fun x hx => absurd hx List.not_mem_nil, ba_ext (by rw [size_extract' _ _ _ (Nat.le_refl _)]; show _ = 0; omega) (fun j hj => by rw [size_extract' _ _ _ (Nat.le_refl _)] at hj; omega)⟩
    · cases hc : cntS (d.extract a d.size) with
      | none => rw [hc] at h; cases h
      | some m =>
        rw [hc] at h
        have h1 := cntS_some hc
        rw [size_extract' _ _ _ (Nat.le_refl _)] at h1
        obtain ⟨L, hL, he⟩ := txtP_row f d (a + m) n (by omega) h
        obtain ⟨x, hx, hm, hxe⟩ := cntS_chunk hc
        refine ⟨x :: L, fun y hy => (List.mem_cons.1 hy).elim (fun e => e ▸ hx) (hL y), ?_⟩
        rw [chunks_cons, ← hxe, ← he]
        have e1 : (d.extract a d.size).extract m (d.extract a d.size).size = d.extract (a + m) d.size := by
          refine ba_ext (by simp only [ByteArray.size_extract]; omega) fun j hj => ?_
          simp only [ByteArray.size_extract] at hj
          rw [bt_extract _ _ _ _ (by simp only [ByteArray.size_extract]; omega) (Nat.le_refl _), bt_extract _ _ _ _ (by omega) (Nat.le_refl _), bt_extract _ _ _ _ (by omega) (Nat.le_refl _)]
          congr 1
          omega
        rw [← e1]
        exact (ext_parts _ (by rw [size_extract' _ _ _ (Nat.le_refl _)]; omega)).symm
theorem txtS_row {d : ByteArray} {n : Nat} (h : txtS d = some n) : ∃ (x : ByteArray) (L : List ByteArray), (∀ y ∈ x :: L, y.size ≤ 255) ∧ d = chunks (x :: L) := by
  unfold txtS at h
  cases hc : cntS d with
  | none => rw [hc] at h; cases h
  | some m =>
    rw [hc] at h
    have h1 := cntS_some hc
    obtain ⟨L, hL, he⟩ := txtP_row _ d m n h1.2 h
    obtain ⟨x, hx, hm, hxe⟩ := cntS_chunk hc
    refine ⟨x, L, fun y hy => (List.mem_cons.1 hy).elim (fun e => e ▸ hx) (hL y), ?_⟩
    rw [chunks_cons, ← hxe, ← he]
    exact (ext_parts d h1.2).symm
end Go.Proofs.YtiaccimdjfdkgaaGreatDoor
