import Derived.Test.YtfacfhigehdejaaGreatDoorMath15G
import Derived.Lib.ItoaNum
/-
  Words as they are told: texts in quotes, rows of words with blanks between, plainly. (The verifier's own text.)
-/
namespace Go.Proofs.YtfacfhigehdejaaGreatDoor.Nm
set_option linter.unusedVariables false
set_option linter.unusedSimpArgs false

/-- what is marked in a text in quotes -/
def mk2 : ByteArray := ⟨#[34, 92]⟩
def shQ (b : Nat) : List Nat := shG 32 mk2 b
theorem am2 (b : Nat) : amB mk2 b = (b == 34 || b == 92) := by
  unfold amB
  rw [show mk2.size = 2 from rfl, show List.range 2 = [0, 1] from rfl]
  simp only [List.any_cons, List.any_nil, Bool.or_false, show bt mk2 0 = 34 from rfl, show bt mk2 1 = 92 from rfl]
  rw [Bool.eq_iff_iff]
  simp only [Bool.or_eq_true, beq_iff_eq]
  omega
theorem shQ_cases {b : Nat} : (shQ b = escL b ∧ (b < 32 ∨ 126 < b)) ∨ (shQ b = [92, b] ∧ (b = 34 ∨ b = 92)) ∨ (shQ b = [b] ∧ b ≠ 34 ∧ b ≠ 92 ∧ 32 ≤ b ∧ b ≤ 126) := by
  unfold shQ shG
  rw [am2]
  by_cases h : b < 32 ∨ 126 < b
  · left; rw [if_pos h]; exact ⟨rfl, h⟩
  · rw [if_neg h]
    by_cases h2 : (b == 34 || b == 92) = true
    · right; left; rw [if_pos h2]; exact ⟨rfl, by simpa using h2⟩
    · right; right; rw [if_neg h2]; simp at h2; exact ⟨rfl, h2.1, h2.2, by omega, by omega⟩
theorem shQ_lt {b : Nat} (hb : b < 256) : ∀ x ∈ shQ b, x < 256 := shG_lt hb
theorem shQ_len (b : Nat) : 0 < (shQ b).length ∧ (shQ b).length ≤ 4 := shG_len _ _ _
/-- what stands first in a told byte, whatever follows, is that byte -/
theorem pc_shQ {b : Nat} (hb : b < 256) (rst : List Nat) (hr : ∀ x ∈ rst, x < 256) : pc (bts (shQ b ++ rst)) = (b, (shQ b).length) := by
  have hlt : ∀ x ∈ shQ b ++ rst, x < 256 := by
    intro x hx
    rcases List.mem_append.1 hx with h | h
    · exact shQ_lt hb x h
    · exact hr x h
  have hz := bts_size (shQ b ++ rst)
  have hbt := bts_bt (shQ b ++ rst) hlt
  rcases shQ_cases (b := b) with ⟨e, he⟩ | ⟨e, he⟩ | ⟨e, h34, h92, h1, h2⟩
  · rw [e] at hz hbt ⊢
    obtain ⟨R, hR⟩ : ∃ R, bts (escL b ++ rst) = R := ⟨_, rfl⟩
    rw [hR] at hz ⊢
    simp only [hR] at hbt
    have e0 := hbt 0 (by simp [escL])
    have e1 := hbt 1 (by simp [escL])
    have e2 := hbt 2 (by simp [escL])
    have e3 := hbt 3 (by simp [escL])
    simp [escL] at e0 e1 e2 e3 hz
    unfold pc
    have hd1 : isD (48 + b / 100) = true := by unfold isD; exact decide_eq_true (by omega)
    have hd2 : isD (48 + b / 10 % 10) = true := by unfold isD; exact decide_eq_true (by omega)
    have hd3 : isD (48 + b % 10) = true := by unfold isD; exact decide_eq_true (by omega)
    have hdv : dv R 3 = b := by
      simp only [dv]; rw [e1, e2, e3]; omega
    rw [e0, if_neg (by omega), if_neg (by omega), e1, e2, e3, hd1, hd2, hd3, if_neg (by decide), if_neg (by simp; omega), hdv, if_neg (by omega)]
    rfl
  · rw [e] at hz hbt ⊢
    have e0 := hbt 0 (by simp)
    have e1 := hbt 1 (by simp)
    simp at e0 e1 hz
    have hd : isD b = false := by unfold isD; exact decide_eq_false (by omega)
    unfold pc
    simp only [List.cons_append, List.nil_append] at *
    rw [e0, if_neg (by omega), if_neg (by omega), e1, if_pos hd]
    rfl
  · rw [e] at hz hbt ⊢
    have e0 := hbt 0 (by simp)
    simp at e0 hz
    unfold pc
    simp only [List.cons_append, List.nil_append] at *
    rw [e0, if_pos h92]
    rfl
/-- bytes told -/
def qtL (l : List Nat) : List Nat := l.flatMap shQ
theorem qtL_nil : qtL [] = [] := rfl
theorem qtL_cons (b : Nat) (l : List Nat) : qtL (b :: l) = shQ b ++ qtL l := rfl
theorem qtL_snoc (l : List Nat) (b : Nat) : qtL (l ++ [b]) = qtL l ++ shQ b := by simp [qtL]
theorem qtL_lt : ∀ {l : List Nat}, (∀ x ∈ l, x < 256) → ∀ x ∈ qtL l, x < 256
  | [], _, x, hx => by cases hx
  | b :: l, h, x, hx => by
    rw [qtL_cons] at hx
    rcases List.mem_append.1 hx with e | e
    · exact shQ_lt (h b List.mem_cons_self) x e
    · exact qtL_lt (fun y hy => h y (List.mem_cons_of_mem _ hy)) x e
theorem qtL_len : ∀ l : List Nat, l.length ≤ (qtL l).length ∧ (qtL l).length ≤ 4 * l.length
  | [] => ⟨Nat.le_refl _, Nat.le_refl _⟩
  | b :: l => by
    have h1 := qtL_len l
    have h2 := shQ_len b
    rw [qtL_cons, List.length_append, List.length_cons]
    omega
/-- what a text in quotes may hold: no end, but behind a mark -/
def okq : List Nat → Bool
  | [] => true
  | x :: l => if x = 34 then false else if x = 92 then (match l with | [] => false | _ :: m => okq m) else okq l
theorem okq_plain {x : Nat} {l : List Nat} (h1 : x ≠ 34) (h2 : x ≠ 92) : okq (x :: l) = okq l := by
  conv => lhs; unfold okq
  rw [if_neg h1, if_neg h2]
theorem okq_mark (y : Nat) (l : List Nat) : okq (92 :: y :: l) = okq l := by
  conv => lhs; unfold okq
  rw [if_neg (by omega), if_pos rfl]
theorem okq_shQ (b : Nat) (l : List Nat) : okq (shQ b ++ l) = okq l := by
  rcases shQ_cases (b := b) with ⟨e, he⟩ | ⟨e, he⟩ | ⟨e, h34, h92, h1, h2⟩
  · rw [e]
    unfold escL
    simp only [List.cons_append, List.nil_append]
    rw [okq_mark, okq_plain (by omega) (by omega), okq_plain (by omega) (by omega)]
  · rw [e]
    exact okq_mark b l
  · rw [e]
    exact okq_plain h34 h92
theorem okq_qt : ∀ l : List Nat, okq (qtL l) = true
  | [] => rfl
  | b :: l => by rw [qtL_cons, okq_shQ]; exact okq_qt l
/-- a word that is told: its text, and whether it stands in quotes -/
structure Wz where
  t : List Nat
  q : Bool
def shW (z : Wz) : List Nat := if z.q then 34 :: (z.t ++ [34]) else z.t
structure OkW (z : Wz) : Prop where
  lt : ∀ x ∈ z.t, x < 256
  qu : z.q = true → okq z.t = true
  pl : z.q = false → z.t ≠ [] ∧ (∀ x ∈ z.t, x ≠ 32) ∧ z.t.head? ≠ some 34
/-- words with blanks between -/
def jnW : List Wz → List Nat
  | [] => []
  | z :: l => shW z ++ (match l with | [] => [] | _ :: _ => 32 :: jnW l)
/-- what is left of a row of words: with the blank ahead, or without -/
def sfx (b : Bool) (l : List Wz) : List Nat := match l with
  | [] => []
  | _ :: _ => (if b then [32] else []) ++ jnW l
theorem jnW_cons (z : Wz) (l : List Wz) : jnW (z :: l) = shW z ++ sfx true l := by
  cases l <;> rfl
theorem sfx_nil (b : Bool) : sfx b [] = [] := rfl
theorem sfx_true (z : Wz) (l : List Wz) : sfx true (z :: l) = 32 :: sfx false (z :: l) := rfl
theorem sfx_false (z : Wz) (l : List Wz) : sfx false (z :: l) = shW z ++ sfx true l := by
  show [] ++ jnW (z :: l) = _
  rw [List.nil_append, jnW_cons]
theorem jnW_sfx (l : List Wz) : jnW l = sfx false l := by cases l <;> rfl
theorem shW_lt {z : Wz} (h : OkW z) : ∀ x ∈ shW z, x < 256 := fun x hx => by
  unfold shW at hx
  split at hx
  · rcases List.mem_cons.1 hx with e | e
    · omega
    · rcases List.mem_append.1 e with e | e
      · exact h.lt x e
      · have := List.mem_singleton.1 e; omega
  · exact h.lt x hx
theorem jnW_lt : ∀ {l : List Wz}, (∀ z ∈ l, OkW z) → ∀ x ∈ jnW l, x < 256
  | [], _, x, hx => by cases hx
  | z :: l, h, x, hx => by
    rw [jnW_cons] at hx
    rcases List.mem_append.1 hx with e | e
    · exact shW_lt (h z List.mem_cons_self) x e
    · cases l with
      | nil => cases e
      | cons y l =>
        rw [sfx_true] at e
        rcases List.mem_cons.1 e with e | e
        · omega
        · rw [← jnW_sfx] at e
          exact jnW_lt (fun w hw => h w (List.mem_cons_of_mem _ hw)) x e
end Go.Proofs.YtfacfhigehdejaaGreatDoor.Nm

/-
  Numbers told by decimal digits, and read again, plainly. (The verifier's own text.)
-/
namespace Go.Proofs.YtfacfhigehdejaaGreatDoor.Nm
set_option linter.unusedVariables false
set_option linter.unusedSimpArgs false
open Go

/-- the digits of a number -/
def dgN (u : Nat) : List Nat := (Lib.decDigits u).map (·.toNat)
theorem bts_nat (l : List UInt8) : bts (l.map (·.toNat)) = ⟨l.toArray⟩ := by
  unfold bts
  congr 2
  rw [List.map_map]
  exact (List.map_congr_left (g := id) fun x _ => by simp).trans (List.map_id _)
theorem bts_dg (u : Nat) : bts (dgN u) = ⟨(Lib.decDigits u).toArray⟩ := bts_nat _
theorem dig_nat {d : Nat} (h : d < 10) : (UInt8.ofNat (48 + d)).toNat = 48 + d := by
  rw [UInt8.toNat_ofNat']
  omega
theorem dgN_small {u : Nat} (h : u < 10) : dgN u = [48 + u] := by
  unfold dgN
  rw [Lib.decDigits, dif_pos h, List.map_cons, List.map_nil, dig_nat h]
theorem dgN_step {u : Nat} (h : ¬ u < 10) : dgN u = dgN (u / 10) ++ [48 + u % 10] := by
  unfold dgN
  rw [Lib.decDigits, dif_neg h, List.map_append, List.map_cons, List.map_nil, dig_nat (by omega)]
theorem dgN_dig (u : Nat) : ∀ x ∈ dgN u, 48 ≤ x ∧ x ≤ 57 := by
  induction u using Nat.strongRecOn with
  | ind u ih =>
    intro x hx
    by_cases h : u < 10
    · rw [dgN_small h] at hx
      have := List.mem_singleton.1 hx
      omega
    · rw [dgN_step h] at hx
      rcases List.mem_append.1 hx with e | e
      · exact ih (u / 10) (by omega) x e
      · have := List.mem_singleton.1 e
        omega
theorem dgN_pos (u : Nat) : 0 < (dgN u).length := by
  by_cases h : u < 10
  · rw [dgN_small h]; simp
  · rw [dgN_step h]; simp
theorem dgN_len : ∀ (k u : Nat), u < 10 ^ (k + 1) → (dgN u).length ≤ k + 1
  | 0, u, h => by rw [dgN_small (by omega)]; simp
  | k + 1, u, h => by
    by_cases h1 : u < 10
    · rw [dgN_small h1]; simp
    · rw [dgN_step h1, List.length_append, List.length_singleton]
      have := dgN_len k (u / 10) (by rw [Nat.pow_succ] at h; omega)
      omega
/-- no nought stands ahead -/
theorem dgN_head (u : Nat) (h : 0 < u) : (dgN u).head? ≠ some 48 := by
  induction u using Nat.strongRecOn with
  | ind u ih =>
    by_cases h1 : u < 10
    · rw [dgN_small h1]
      simp
      omega
    · have h2 := ih (u / 10) (by omega) (by omega)
      have h3 := dgN_pos (u / 10)
      rw [dgN_step h1]
      cases hd : dgN (u / 10) with
      | nil => rw [hd] at h3; simp at h3
      | cons a l => rw [hd] at h2; exact h2
theorem parse_dec {M : Nat} (hM : M ≤ 4294967295) (r : List UInt8) : ∀ u, u ≤ M → Lib.parseUintM M 0 (Lib.decDigits u ++ r) = Lib.parseUintM M u r := by
  intro u
  induction u using Nat.strongRecOn generalizing r with
  | ind u ih =>
    intro hu
    by_cases h : u < 10
    · rw [Lib.decDigits, dif_pos h, List.cons_append, List.nil_append]
      conv => lhs; unfold Lib.parseUintM
      rw [dig_nat h, if_pos (by omega), if_neg (by omega), if_neg (by omega)]
      congr 1
      omega
    · rw [Lib.decDigits, dif_neg h, List.append_assoc, ih (u / 10) (by omega) _ (by omega), List.cons_append, List.nil_append]
      conv => lhs; unfold Lib.parseUintM
      rw [dig_nat (by omega), if_pos (by omega), if_neg (by omega), if_neg (by omega)]
      congr 1
      omega
/-- what is told is read -/
theorem numR_dec {B most u : Nat} (hB : 2 ^ B ≤ 4294967296) (hu : u < 2 ^ B) (hl : (dgN u).length ≤ most) : numR B most (bts (dgN u)) = some u := by
  refine numR_ok (by rw [bts_size]; omega) ?_
  rw [bts_dg]
  unfold Lib.parseUintB
  have hne : ¬ (Lib.decDigits u) = [] := fun e => by
    have := dgN_pos u
    unfold dgN at this
    rw [e] at this
    simp at this
  have := parse_dec (M := 2 ^ B - 1) (by omega) [] u (by omega)
  rw [List.append_nil] at this
  rw [if_neg (by simpa using hne)]
  simp only
  rw [this]
  rfl
/-- a number is a word -/
theorem okW_dec (u : Nat) : OkW ⟨dgN u, false⟩ := by
  refine ⟨fun x hx => by have := dgN_dig u x hx; omega, (fun h => by cases h), fun _ => ⟨fun e => by have := dgN_pos u; simp only at e; rw [e] at this; simp at this, fun x hx => by have := dgN_dig u x hx; omega, ?_⟩⟩
  intro e
  simp only at e
  have := dgN_dig u 34 (List.mem_of_mem_head? e)
  omega
end Go.Proofs.YtfacfhigehdejaaGreatDoor.Nm
