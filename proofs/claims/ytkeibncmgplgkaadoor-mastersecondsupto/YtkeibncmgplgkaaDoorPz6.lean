import Derived.Test.YtkeibncmgplgkaaDoorPz2
import Derived.Test.YtkeibncmgplgkaaDoorPz5
namespace Go.Proofs.YtkeibncmgplgkaaDoor
set_option linter.unusedVariables false
open Go.RowKit Go.Shelf Go.Proofs.YtkeibncmgplgkaaDoor.Nm

theorem parseM_dig (M : Nat) : ∀ (l : List UInt8) (acc u : Nat), Lib.parseUintM M acc l = .ok u → ∀ c ∈ l, 48 ≤ c.toNat ∧ c.toNat ≤ 57
  | [], acc, u, h, c, hc => by cases hc
  | x :: r, acc, u, h, c, hc => by
    unfold Lib.parseUintM at h
    split at h
    · rename_i hx
      split at h
      · cases h
      · split at h
        · cases h
        · rcases List.mem_cons.1 hc with rfl | hc
          · exact hx
          · exact parseM_dig M r _ u h c hc
    · cases h
/-- a number has digits alone -/
theorem numR_dig {B most n : Nat} {t : ByteArray} (h : numR B most t = some n) : 0 < t.size ∧ t.size ≤ most ∧ ∀ i, i < t.size → 48 ≤ bt t i ∧ bt t i ≤ 57 := by
  unfold numR at h
  split at h
  · cases h
  · rename_i hl
    cases hp : Lib.parseUintB B t.data.toList with
    | ok u =>
      unfold Lib.parseUintB at hp
      split at hp
      · cases hp
      · rename_i hne
        have hlen : t.data.toList.length = t.size := by simp
        refine ⟨?_, by omega, fun i hi => ?_⟩
        · rcases Nat.eq_zero_or_pos t.size with h0 | h0
          · exact absurd (List.length_eq_zero_iff.1 (by omega)) hne
          · exact h0
        · have := parseM_dig _ _ _ _ hp (t.data.toList[i]'(by omega)) (List.getElem_mem _)
          rw [bt_list t i hi] at this
          exact this
    | «syntax» => rw [hp] at h; cases h
    | range => rw [hp] at h; cases h
theorem numR_lt {B n : Nat} {t : ByteArray} (h : numR B 10 t = some n) : n < 10000000000 := by
  have hd := numR_dig h
  unfold numR at h
  rw [if_neg (by omega)] at h
  cases hp : Lib.parseUintB B t.data.toList with
  | ok u => rw [hp] at h; injection h with h; subst h; exact parseB_lt hd.2.1 hp
  | «syntax» => rw [hp] at h; cases h
  | range => rw [hp] at h; cases h

def unitV (b : Nat) : Nat := if b = 119 then 604800 else if b = 100 then 86400 else if b = 104 then 3600 else if b = 109 then 60 else if b = 115 then 1 else 0
theorem unit_has (x : UInt8) : uB.contains x = decide (unitV x.toNat ≠ 0) := by
  rw [Bool.eq_iff_iff]
  constructor
  · intro h
    simp [uB] at h
    rcases h with rfl | rfl | rfl | rfl | rfl <;> decide
  · intro h
    have h1 : unitV x.toNat ≠ 0 := of_decide_eq_true h
    have h2 : x.toNat = 119 ∨ x.toNat = 100 ∨ x.toNat = 104 ∨ x.toNat = 109 ∨ x.toNat = 115 := by
      unfold unitV at h1
      by_cases a1 : x.toNat = 119
      · exact .inl a1
      · by_cases a2 : x.toNat = 100
        · exact .inr (.inl a2)
        · by_cases a3 : x.toNat = 104
          · exact .inr (.inr (.inl a3))
          · by_cases a4 : x.toNat = 109
            · exact .inr (.inr (.inr (.inl a4)))
            · by_cases a5 : x.toNat = 115
              · exact .inr (.inr (.inr (.inr a5)))
              · simp [a1, a2, a3, a4, a5] at h1
    have key : ∀ c : UInt8, x.toNat = c.toNat → x = c := fun c e => UInt8.toNat_inj.1 e
    rcases h2 with h | h | h | h | h
    · rw [key 119 h]; decide
    · rw [key 100 h]; decide
    · rw [key 104 h]; decide
    · rw [key 109 h]; decide
    · rw [key 115 h]; decide
/-- the first letter of a unit, or none -/
theorem any_cases (s : ByteArray) : ((∀ j, j < s.size → unitV (bt s j) = 0) ∧ Lib.indexAny s.data.toList uB = -1) ∨ ∃ j, j < s.size ∧ unitV (bt s j) ≠ 0 ∧ (∀ i, i < j → unitV (bt s i) = 0) ∧ Lib.indexAny s.data.toList uB = (j : Int) := by
  have hlen : s.data.toList.length = s.size := by simp
  have hno : ∀ k, k ≤ s.size → (∀ i, i < k → unitV (bt s i) = 0) → Lib.NoAny s.data.toList uB k := by
    intro k hk h j b hj hb
    obtain ⟨hjs, he⟩ := list_bt s j b hb
    rw [unit_has, he, h j hj]; rfl
  have key : ∀ k, k ≤ s.size → (∀ i, i < k → unitV (bt s i) = 0) ∨ ∃ j, j < k ∧ unitV (bt s j) ≠ 0 ∧ (∀ i, i < j → unitV (bt s i) = 0) := by
    intro k
    induction k with
    | zero => exact fun _ => .inl (fun i hi => by omega)
    | succ k ih =>
      intro hk
      rcases ih (by omega) with h | ⟨j, h1, h2, h3⟩
      · by_cases hu : unitV (bt s k) = 0
        · exact .inl (fun i hi => by by_cases e : i = k; rw [e]; exact hu; exact h i (by omega))
        · exact .inr ⟨k, by omega, hu, h⟩
      · exact .inr ⟨j, by omega, h2, h3⟩
  rcases key s.size (Nat.le_refl _) with h | ⟨j, h1, h2, h3⟩
  · exact .inl ⟨h, Lib.indexAny_none (by rw [hlen]; exact hno _ (Nat.le_refl _) h)⟩
  · refine .inr ⟨j, h1, h2, h3, ?_⟩
    have hx : s.data.toList[j]? = some (s.data.toList[j]'(by omega)) := List.getElem?_eq_getElem _
    refine Lib.indexAny_hit (hno j (by omega) h3) hx ?_
    rw [unit_has, bt_list s j h1]
    exact decide_eq_true h2

/-- the seconds that the groups of s tell, behind tot, n groups at the most -/
def secG : Nat → ByteArray → Nat → Option Nat
  | 0, s, tot => if s.size = 0 then some tot else none
  | n + 1, s, tot =>
    if s.size = 0 then some tot
    else if 0 ≤ Lib.indexAny s.data.toList uB ∧ (Lib.indexAny s.data.toList uB).toNat < s.size then
      match numR 64 10 (s.extract 0 (Lib.indexAny s.data.toList uB).toNat) with
      | none => none
      | some c => if 2147483647 < tot + c * unitV (bt s (Lib.indexAny s.data.toList uB).toNat) then none else secG n (s.extract ((Lib.indexAny s.data.toList uB).toNat + 1) s.size) (tot + c * unitV (bt s (Lib.indexAny s.data.toList uB).toNat))
    else none
theorem secG_fuel : ∀ (n m : Nat) (s : ByteArray) (tot : Nat), s.size ≤ n → s.size ≤ m → secG n s tot = secG m s tot
  | 0, 0, s, tot, _, _ => rfl
  | 0, m + 1, s, tot, h, _ => by
    have h0 : s.size = 0 := by omega
    rw [secG, secG, if_pos h0, if_pos h0]
  | n + 1, 0, s, tot, _, h => by
    have h0 : s.size = 0 := by omega
    rw [secG, secG, if_pos h0, if_pos h0]
  | n + 1, m + 1, s, tot, hn, hm => by
    rw [secG, secG]
    by_cases h0 : s.size = 0
    · rw [if_pos h0, if_pos h0]
    · rw [if_neg h0, if_neg h0]
      have ih : ∀ (k tot : Nat), secG n (s.extract (k + 1) s.size) tot = secG m (s.extract (k + 1) s.size) tot := fun k tot => secG_fuel n m _ tot (by simp [ByteArray.size_extract]; omega) (by simp [ByteArray.size_extract]; omega)
      simp only [ih]
/-- the seconds that the groups of s tell, behind tot -/
def secF (s : ByteArray) (tot : Nat) : Option Nat := secG s.size s tot
theorem secF_nil {s : ByteArray} (h : s.size = 0) (tot : Nat) : secF s tot = some tot := by
  unfold secF
  rw [h, secG, if_pos h]
theorem secF_none {s : ByteArray} (h : 0 < s.size) (hi : Lib.indexAny s.data.toList uB = -1) (tot : Nat) : secF s tot = none := by
  obtain ⟨n, hn⟩ : ∃ n, s.size = n + 1 := ⟨s.size - 1, by omega⟩
  unfold secF
  rw [hn, secG, if_neg (by omega), if_neg (by rw [hi]; omega)]
theorem secF_at {s : ByteArray} {j : Nat} (h : j < s.size) (hi : Lib.indexAny s.data.toList uB = (j : Int)) (tot : Nat) :
    secF s tot = match numR 64 10 (s.extract 0 j) with | none => none | some c => if 2147483647 < tot + c * unitV (bt s j) then none else secF (s.extract (j + 1) s.size) (tot + c * unitV (bt s j)) := by
  obtain ⟨n, hn⟩ : ∃ n, s.size = n + 1 := ⟨s.size - 1, by omega⟩
  have hf : ∀ tot, secF (s.extract (j + 1) s.size) tot = secG n (s.extract (j + 1) s.size) tot := fun tot => secG_fuel _ _ _ _ (Nat.le_refl _) (by simp [ByteArray.size_extract]; omega)
  simp only [hf]
  have hs : secF s tot = secG (n + 1) s tot := by unfold secF; rw [hn]
  rw [hs, secG, if_neg (by omega), if_pos (by rw [hi]; omega)]
  simp only [hi, Int.toNat_natCast]
def secB (t : ByteArray) : Option Nat := match numR 31 10 t with | some v => some v | none => if t.size = 0 then none else secF (lowB t) 0
end Go.Proofs.YtkeibncmgplgkaaDoor
