import Derived.Test.YtfacfhigehdejaaGreatDoorMath13G
import Derived.Lib.Bytealg
import Derived.Lib.IndexLaws
namespace Go.Proofs.YtfacfhigehdejaaGreatDoor.Nm
set_option linter.unusedVariables false
open Go

/-- where a byte stands among digits -/
def ixI (d : ByteArray) (c : Nat) : Int := Lib.indexByte d.data.toList (c : Int).toNat.toUInt8
def ixN (d : ByteArray) (c : Nat) : Option Nat := if 0 ≤ ixI d c then some (ixI d c).toNat else none
def ixv (d : ByteArray) (c : Nat) : Nat := (ixN d c).getD 0
theorem ix_cases (d : ByteArray) {c : Nat} (hc : c < 256) : (∃ v : Nat, ixN d c = some v ∧ ixv d c = v ∧ ixI d c = v ∧ v < d.size ∧ bt d v = c) ∨ (ixN d c = none ∧ ixI d c < 0) := by
  by_cases h : 0 ≤ ixI d c
  · left
    obtain ⟨v, hv⟩ := Int.eq_ofNat_of_zero_le h
    have hN : ixN d c = some v := by unfold ixN; rw [if_pos h, hv]; rfl
    have h2 := (Lib.indexByte_some (l := d.data.toList) (c := (c : Int).toNat.toUInt8) (o := v) hv).1
    obtain ⟨hlt, he⟩ := List.getElem?_eq_some_iff.1 h2
    have hlt' : v < d.size := by simpa using hlt
    refine ⟨v, hN, by unfold ixv; rw [hN]; rfl, hv, hlt', ?_⟩
    have := bt_list d v hlt'
    rw [he] at this
    rw [← this]
    show (UInt8.ofNat c).toNat = c
    rw [UInt8.toNat_ofNat']; omega
  · right
    exact ⟨by unfold ixN; rw [if_neg h], by omega⟩
theorem ixv_lt {d : ByteArray} {W c : Nat} (hd : d.size = 2 ^ W) (hc : c < 256) : ixv d c < 2 ^ W := by
  rcases ix_cases d hc with ⟨v, h1, h2, _, h3, _⟩ | ⟨h, _⟩
  · rw [h2]; omega
  · unfold ixv; rw [h]; exact Nat.two_pow_pos _

theorem codeP_mul {w : Nat} (hw : 0 < w) : ∀ (m : Nat) (P b : List Nat), P.length = w * m → codeP w (P ++ b) = codeP w P ++ codeP w b
  | 0, P, b, h => by
    have : P = [] := List.length_eq_zero_iff.1 (by simpa using h)
    subst this; rfl
  | m + 1, P, b, h => by
    rw [Nat.mul_succ] at h
    have e := List.take_append_drop w P
    have hl : (P.take w).length = w := by rw [List.length_take]; omega
    have hr : (P.drop w).length = w * m := by rw [List.length_drop]; omega
    rw [← e, List.append_assoc, codeP_full hw _ _ hl, codeP_full hw _ _ hl, codeP_mul hw m _ b hr]; rfl

/-- what a text of digits tells: none, if one is no digit, if a digit wasn't needed, or if what is left over isn't nought -/
def fromB (W : Nat) (d t : ByteArray) : Option (List Nat) :=
  if (lst t t.size).any (fun c => (ixN d c).isNone) = true then none
  else
    if ((bitsL W ((lst t t.size).map (ixv d))).drop (8 * ((bitsL W ((lst t t.size).map (ixv d))).length / 8))).length < W ∧ val ((bitsL W ((lst t t.size).map (ixv d))).drop (8 * ((bitsL W ((lst t t.size).map (ixv d))).length / 8))) = 0
    then some (codeP 8 ((bitsL W ((lst t t.size).map (ixv d))).take (8 * ((bitsL W ((lst t t.size).map (ixv d))).length / 8)))) else none
theorem fromB_bad {W : Nat} {d t : ByteArray} {j : Nat} (hj : j < t.size) (h : ixN d (bt t j) = none) : fromB W d t = none := by
  unfold fromB
  rw [if_pos]
  rw [List.any_eq_true]
  refine ⟨bt t j, ?_, by rw [h]; rfl⟩
  exact List.mem_map.2 ⟨j, List.mem_range.2 hj, rfl⟩
theorem fromB_end {W : Nat} {d t : ByteArray} {P rem : List Nat} {m : Nat} (hg : ∀ j, j < t.size → ixN d (bt t j) ≠ none) (hA : bitsL W ((lst t t.size).map (ixv d)) = P ++ rem) (hP : P.length = 8 * m) (hr : rem.length < 8) :
    fromB W d t = if rem.length < W ∧ val rem = 0 then some (codeP 8 P) else none := by
  unfold fromB
  have hL : (P ++ rem).length / 8 = m := by rw [List.length_append, hP]; omega
  rw [if_neg, hA, hL, ← hP, List.drop_left, List.take_left]
  rw [Bool.not_eq_true, List.any_eq_false]
  intro c hc
  obtain ⟨j, hj, rfl⟩ := List.mem_map.1 hc
  have := hg j (List.mem_range.1 hj)
  cases h : ixN d (bt t j) with
  | none => exact absurd h this
  | some v => simp
theorem lst_take_map (d t : ByteArray) (k : Nat) : bitsL 5 ((lst t (k + 1)).map (ixv d)) = bitsL 5 ((lst t k).map (ixv d)) ++ bitsW 5 (ixv d (bt t k)) := by
  rw [lst_succ, List.map_append, List.map_singleton, bitsL_snoc]
end Go.Proofs.YtfacfhigehdejaaGreatDoor.Nm

namespace Go.Proofs.YtfacfhigehdejaaGreatDoor.Nm
set_option linter.unusedVariables false

theorem bitsL_cons (w x : Nat) (l : List Nat) : bitsL w (x :: l) = bitsW w x ++ bitsL w l := by simp [bitsL]
/-- bytes, by so many bits, and back -/
theorem code_bits {w : Nat} (hw : 0 < w) : ∀ l : List Nat, (∀ x ∈ l, x < 2 ^ w) → codeP w (bitsL w l) = l
  | [], _ => rfl
  | x :: l, h => by
    rw [bitsL_cons, codeP_full hw _ _ (bitsW_len w x), val_bitsW w x (h x (List.mem_cons_self ..)), code_bits hw l (fun y hy => h y (List.mem_cons_of_mem _ hy))]
theorem bin_zeros (k : Nat) : Bin (List.replicate k 0) := fun x hx => by have := List.eq_of_mem_replicate hx; omega
theorem bits_code {w : Nat} (hw : 0 < w) : ∀ (n : Nat) (bs : List Nat), bs.length ≤ n → Bin bs → ∃ p, p < w ∧ bitsL w (codeP w bs) = bs ++ List.replicate p 0
  | 0, bs, hn, _ => by
    have : bs = [] := List.length_eq_zero_iff.1 (by omega)
    subst this
    exact ⟨0, hw, rfl⟩
  | n + 1, bs, hn, hb => by
    by_cases h : bs = []
    · subst h; exact ⟨0, hw, rfl⟩
    · have hp : 0 < bs.length := List.length_pos_iff.2 h
      by_cases hl : w ≤ bs.length
      · have e := List.take_append_drop w bs
        have hl1 : (bs.take w).length = w := by rw [List.length_take]; omega
        obtain ⟨p, hp1, hp2⟩ := bits_code hw n (bs.drop w) (by rw [List.length_drop]; omega) (hb.drop w)
        refine ⟨p, hp1, ?_⟩
        conv => lhs; rw [← e]
        rw [codeP_full hw _ _ hl1, bitsL_cons, hp2]
        have e2 := bitsW_val (hb.take w)
        rw [hl1] at e2
        rw [e2, ← List.append_assoc, e]
      · refine ⟨w - bs.length, by omega, ?_⟩
        have hB : Bin (bs ++ List.replicate (w - bs.length) 0) := hb.append (bin_zeros _)
        have hL : (bs ++ List.replicate (w - bs.length) 0).length = w := by rw [List.length_append, List.length_replicate]; omega
        have e2 := bitsW_val hB
        rw [hL, val_zeros] at e2
        rw [codeP_last h (by omega), bitsL_cons, e2]
        simp [bitsL]

/-- order: digit by digit, or by the whole number -/
theorem digits_order (w : Nat) : ∀ {l m : List Nat}, (∀ x ∈ l, x < 2 ^ w) → (∀ x ∈ m, x < 2 ^ w) → l.length = m.length → (val (bitsL w l) < val (bitsL w m) ↔ l < m)
  | [], [], _, _, _ => by simp [bitsL, val]
  | [], y :: m, _, _, h => by simp at h
  | x :: l, [], _, _, h => by simp at h
  | x :: l, y :: m, hl, hm, h => by
    have hln : l.length = m.length := by simpa using h
    have ih := digits_order w (l := l) (m := m) (fun z hz => hl z (List.mem_cons_of_mem _ hz)) (fun z hz => hm z (List.mem_cons_of_mem _ hz)) hln
    have b1 := val_lt (bitsL_bin w l)
    have b2 := val_lt (bitsL_bin w m)
    have hlen : (bitsL w l).length = (bitsL w m).length := by rw [bitsL_len, bitsL_len, hln]
    rw [bitsL_cons, bitsL_cons, val_append, val_append, hlen, val_bitsW w x (hl x (List.mem_cons_self ..)), val_bitsW w y (hm y (List.mem_cons_self ..)), List.cons_lt_cons_iff, ← ih]
    rw [hlen] at b1
    generalize val (bitsL w l) = A at *
    generalize val (bitsL w m) = B at *
    generalize 2 ^ (bitsL w m).length = N at *
    constructor
    · intro hh
      rcases Nat.lt_trichotomy x y with h1 | h1 | h1
      · exact .inl h1
      · subst h1; exact .inr ⟨rfl, by omega⟩
      · exfalso
        have : (y + 1) * N ≤ x * N := Nat.mul_le_mul_right _ h1
        rw [Nat.add_mul] at this
        omega
    · rintro (h1 | ⟨rfl, h1⟩)
      · have : (x + 1) * N ≤ y * N := Nat.mul_le_mul_right _ h1
        rw [Nat.add_mul] at this
        omega
      · omega
theorem map_order {f : Nat → Nat} {N : Nat} (hf : ∀ x y, x < N → y < N → (f x < f y ↔ x < y)) (hi : ∀ x y, x < N → y < N → f x = f y → x = y) : ∀ {l m : List Nat}, (∀ x ∈ l, x < N) → (∀ x ∈ m, x < N) → (l.map f < m.map f ↔ l < m)
  | [], [], _, _ => by simp
  | [], y :: m, _, _ => by simp
  | x :: l, [], _, _ => by simp
  | x :: l, y :: m, hl, hm => by
    have ih := map_order hf hi (l := l) (m := m) (fun z hz => hl z (List.mem_cons_of_mem _ hz)) (fun z hz => hm z (List.mem_cons_of_mem _ hz))
    have hx := hl x (List.mem_cons_self ..)
    have hy := hm y (List.mem_cons_self ..)
    rw [List.map_cons, List.map_cons, List.cons_lt_cons_iff, List.cons_lt_cons_iff, ih, hf x y hx hy]
    constructor
    · rintro (h | ⟨h1, h2⟩)
      · exact .inl h
      · exact .inr ⟨hi x y hx hy h1, h2⟩
    · rintro (h | ⟨h1, h2⟩)
      · exact .inl h
      · exact .inr ⟨by rw [h1], h2⟩

def d32 : ByteArray := ⟨#[48, 49, 50, 51, 52, 53, 54, 55, 56, 57, 97, 98, 99, 100, 101, 102, 103, 104, 105, 106, 107, 108, 109, 110, 111, 112, 113, 114, 115, 116, 117, 118]⟩
theorem d32_size : d32.size = 32 := rfl
theorem d32_low : ∀ v, v < 32 → lowN (bt d32 v) = bt d32 v := by decide +kernel
theorem d32_ix : ∀ v, v < 32 → ixN d32 (bt d32 v) = some v := by decide +kernel
theorem d32_lt : ∀ x, x < 32 → ∀ y, y < 32 → (bt d32 x < bt d32 y ↔ x < y) := by decide +kernel
theorem d32_inj : ∀ x y, x < 32 → y < 32 → bt d32 x = bt d32 y → x = y := fun x y hx hy h => by
  have h1 := d32_ix x hx
  rw [h, d32_ix y hy] at h1
  exact (Option.some.inj h1).symm

/-- bytes in base 32 -/
def c32 (b : ByteArray) : List Nat := codeP 5 (bitsL 8 (lst b b.size))
def to32B (b : ByteArray) : ByteArray := bts ((c32 b).map (bt d32))
theorem c32_lt (b : ByteArray) : ∀ v ∈ c32 b, v < 32 := codeP_lt (by omega) _ _ (Nat.le_refl _) (bitsL_bin 8 _)
theorem c32_len (b : ByteArray) : (c32 b).length ≤ 8 * b.size := by
  have := codeP_len (w := 5) (by omega) _ (bitsL 8 (lst b b.size)) (Nat.le_refl _)
  rw [bitsL_len, lst_len] at this; exact this
theorem to32B_size (b : ByteArray) : (to32B b).size = (c32 b).length := by unfold to32B; rw [bts_size, List.length_map]
theorem to32B_bt (b : ByteArray) {j : Nat} (hj : j < (c32 b).length) : bt (to32B b) j = bt d32 (c32 b)[j] := by
  unfold to32B
  rw [bts_bt _ (fun x hx => by obtain ⟨i, _, rfl⟩ := List.mem_map.1 hx; exact bt_lt _ _) j (by rw [List.length_map]; exact hj)]
  simp
theorem to32B_low (b : ByteArray) : lowB (to32B b) = to32B b := by
  refine ba_ext (lowB_size _) fun j hj => ?_
  rw [lowB_size, to32B_size] at hj
  rw [lowB_bt, to32B_bt b hj, d32_low _ (c32_lt b _ (List.getElem_mem hj))]
theorem to32B_lst (b : ByteArray) : lst (to32B b) (to32B b).size = (c32 b).map (bt d32) := by
  refine List.ext_getElem (by rw [lst_len, List.length_map, to32B_size]) fun j h1 h2 => ?_
  rw [lst_len, to32B_size] at h1
  have := to32B_bt b h1
  simp [lst, this]
theorem to32B_vals (b : ByteArray) : (lst (to32B b) (to32B b).size).map (ixv d32) = c32 b := by
  rw [to32B_lst, List.map_map]
  refine (List.map_congr_left (g := id) fun v hv => ?_).trans (List.map_id _)
  have := d32_ix v (c32_lt b v hv)
  simp [ixv, this]
theorem from_to (b : ByteArray) : fromB 5 d32 (lowB (to32B b)) = some (lst b b.size) := by
  rw [to32B_low]
  obtain ⟨p, hp1, hp2⟩ := bits_code (w := 5) (by omega) _ (bitsL 8 (lst b b.size)) (Nat.le_refl _) (bitsL_bin 8 _)
  have h := fromB_end (W := 5) (d := d32) (t := to32B b) (P := bitsL 8 (lst b b.size)) (rem := List.replicate p 0) (m := b.size) (fun j hj => by
      rw [to32B_size] at hj
      rw [to32B_bt b hj, d32_ix _ (c32_lt b _ (List.getElem_mem hj))]; simp) (by rw [to32B_vals]; exact hp2) (by rw [bitsL_len, lst_len]) (by rw [List.length_replicate]; omega)
  have hz := val_zeros [] p
  rw [List.nil_append] at hz
  rw [h, if_pos ⟨by rw [List.length_replicate]; exact hp1, by rw [hz]; simp [val]⟩, code_bits (by omega) _ (lst_lt b _)]
theorem to32_inj {a b : ByteArray} (h : to32B a = to32B b) : a = b := by
  have h1 := from_to a
  rw [h, from_to b] at h1
  have h2 := Option.some.inj h1
  rw [← bts_lst a, ← bts_lst b, h2]
theorem to32_order {a b : ByteArray} (h : a.size = b.size) : (lst (to32B a) (to32B a).size < lst (to32B b) (to32B b).size ↔ lst a a.size < lst b b.size) := by
  obtain ⟨p, hp1, hp2⟩ := bits_code (w := 5) (by omega) _ (bitsL 8 (lst a a.size)) (Nat.le_refl _) (bitsL_bin 8 _)
  obtain ⟨q, hq1, hq2⟩ := bits_code (w := 5) (by omega) _ (bitsL 8 (lst b b.size)) (Nat.le_refl _) (bitsL_bin 8 _)
  have l1 := congrArg List.length hp2
  have l2 := congrArg List.length hq2
  rw [bitsL_len, List.length_append, bitsL_len, lst_len, List.length_replicate] at l1 l2
  have hpq : p = q := by omega
  have hlen : (c32 a).length = (c32 b).length := by unfold c32; omega
  rw [to32B_lst, to32B_lst, map_order (fun x y hx hy => d32_lt x hx y hy) d32_inj (c32_lt a) (c32_lt b), ← digits_order 5 (c32_lt a) (c32_lt b) hlen]
  unfold c32
  rw [hp2, hq2, hpq, val_zeros, val_zeros, ← digits_order 8 (lst_lt a _) (lst_lt b _) (by rw [lst_len, lst_len, h])]
  exact Nat.mul_lt_mul_right (Nat.two_pow_pos q)
end Go.Proofs.YtfacfhigehdejaaGreatDoor.Nm
