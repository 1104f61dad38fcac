import Derived.Test.YtiaccimdjfdkgaaGreatDoorMath13G
import Derived.WalkKit
import Derived.Laws.BitsAll
import Derived.Lib.Bytealg
import Derived.Lib.IndexLaws
import Derived.Test.YtiaccimdjfdkgaaGreatDoorWkG
import Derived.Test.YtiaccimdjfdkgaaGreatDoorShwG
import Derived.Shelf.Small.Bits
import Derived.Shelf.Lay
import Derived.Ground.NamesProg
namespace Go.Proofs.YtiaccimdjfdkgaaGreatDoor
set_option linter.unusedVariables false
open Go.Proofs.YtiaccimdjfdkgaaGreatDoor.Nm

theorem i64_or_nat (a b : Nat) (ha : a < 4294967296) (hb : b < 4294967296) : bits .or .i64 (a : Int) (b : Int) = ((a ||| b : Nat) : Int) := by
  have hx : a ||| b < 2 ^ 32 := Nat.or_lt_two_pow (by omega) (by omega)
  show IntKind.i64.wrap ((BitVec.ofInt 64 (a : Int) ||| BitVec.ofInt 64 (b : Int)).toNat : Int) = _
  rw [BitVec.toNat_or, ofInt_u64 a (by omega), ofInt_u64 b (by omega)]
  simp [IntKind.wrap, IntKind.bits, IntKind.signed]
  omega
theorem i64_and_nat (a b : Nat) (ha : a < 4294967296) (hb : b < 4294967296) : bits .and .i64 (a : Int) (b : Int) = ((a &&& b : Nat) : Int) := by
  have hx : a &&& b < 2 ^ 32 := Nat.and_lt_two_pow _ (by omega)
  show IntKind.i64.wrap ((BitVec.ofInt 64 (a : Int) &&& BitVec.ofInt 64 (b : Int)).toNat : Int) = _
  rw [BitVec.toNat_and, ofInt_u64 a (by omega), ofInt_u64 b (by omega)]
  simp [IntKind.wrap, IntKind.bits, IntKind.signed]
  omega
/-- 'x << i | y' -/
theorem or_shl (i x y : Nat) (hx : x * 2 ^ i < 4294967296) (hy : y < 2 ^ i) (h : y < 4294967296) : bits .or .i64 ((x * 2 ^ i : Nat) : Int) (y : Int) = ((x * 2 ^ i + y : Nat) : Int) := by
  rw [i64_or_nat _ _ hx h, nat_join i _ _ (by simp) hy]
/-- 'x & (1 << i - 1)' -/
theorem and_mask (i x : Nat) (hx : x < 4294967296) (hi : 2 ^ i ≤ 4294967296) : bits .and .i64 (x : Int) ((2 ^ i - 1 : Nat) : Int) = ((x % 2 ^ i : Nat) : Int) := by
  have : 0 < 2 ^ i := Nat.two_pow_pos i
  rw [i64_and_nat _ _ hx (by omega), Nat.and_two_pow_sub_one_eq_mod]
theorem shr_split (H L n : Nat) (h : L < 2 ^ n) : ((H * 2 ^ n + L : Nat) : Int) / 2 ^ n = ((H : Nat) : Int) := by
  have h1 : ((H * 2 ^ n + L : Nat) : Int) / ((2 ^ n : Nat) : Int) = (((H * 2 ^ n + L) / 2 ^ n : Nat) : Int) := by simp
  have h2 : (H * 2 ^ n + L) / 2 ^ n = H := by
    rw [Nat.mul_comm, Nat.mul_add_div (Nat.two_pow_pos n), Nat.div_eq_of_lt h]; omega
  rw [h2] at h1
  rw [← h1]; simp
theorem and_split (H L n : Nat) (h : L < 2 ^ n) (hn : 2 ^ n ≤ 4096) (hv : H < 4096) : bits .and .i64 ((H * 2 ^ n + L : Nat) : Int) ((2 : Int) ^ n - 1) = ((L : Nat) : Int) := by
  have hb : H * 2 ^ n ≤ 4096 * 4096 := Nat.mul_le_mul (by omega) hn
  have := and_mask n (H * 2 ^ n + L) (by omega) (by omega)
  have e : ((2 ^ n - 1 : Nat) : Int) = (2 : Int) ^ n - 1 := by
    have hp : 0 < 2 ^ n := Nat.two_pow_pos n
    rw [Int.ofNat_sub (by omega)]; simp
  rw [e] at this
  rw [this]
  congr 1
  rw [Nat.mul_comm, Nat.mul_add_mod, Nat.mod_eq_of_lt h]
theorem split_lt {H L n : Nat} (h1 : H < 2 ^ 5) (h2 : L < 2 ^ n) (h3 : 2 ^ n ≤ 2 ^ 7) : H * 2 ^ n + L < 4096 := by
  have : H * 2 ^ n ≤ 31 * 2 ^ n := Nat.mul_le_mul_right _ (by omega)
  omega
end Go.Proofs.YtiaccimdjfdkgaaGreatDoor

namespace Go.Proofs.YtiaccimdjfdkgaaGreatDoor.Nm
set_option linter.unusedVariables false
open Go

/-- where a byte stands among digits -/
def ixI (d : ByteArray) (c : Nat) : Int := Lib.indexByte d.data.toList (c : Int).toNat.toUInt8
def ixN (d : ByteArray) (c : Nat) : Option Nat := if 0 ≤ ixI d c then some (ixI d c).toNat else none
def ixv (d : ByteArray) (c : Nat) : Nat := (ixN d c).getD 0
theorem ix_cases (d : ByteArray) {c : Nat} (hc : c < 256) : (∃ v : Nat, ixN d c = some v ∧ ixv d c = v ∧ ixI d c = v ∧ v < d.size ∧ bt d v = c) ∨ (ixN d c = none ∧ ixI d c < 0) := by
  by_cases h : 0 ≤ ixI d c
  · left
    obtain ⟨v, hv⟩ := Int.eq_ofNat_of_zero_le h
    have hN : ixN d c = some v := by unfold ixN; rw [if_pos h, hv]; rfl
    have h2 := (Lib.indexByte_some (l := d.data.toList) (c := (c : Int).toNat.toUInt8) (o := v) hv).1
    obtain ⟨hlt, he⟩ := List.getElem?_eq_some_iff.1 h2
    have hlt' : v < d.size := by simpa using hlt
    refine ⟨v, hN, by unfold ixv; rw [hN]; rfl, hv, hlt', ?_⟩
    have := bt_list d v hlt'
    rw [he] at this
    rw [← this]
    show (UInt8.ofNat c).toNat = c
    rw [UInt8.toNat_ofNat']; omega
  · right
    exact ⟨by unfold ixN; rw [if_neg h], by omega⟩
theorem ixv_lt {d : ByteArray} {W c : Nat} (hd : d.size = 2 ^ W) (hc : c < 256) : ixv d c < 2 ^ W := by
  rcases ix_cases d hc with ⟨v, h1, h2, _, h3, _⟩ | ⟨h, _⟩
  · rw [h2]; omega
  · unfold ixv; rw [h]; exact Nat.two_pow_pos _

theorem codeP_mul {w : Nat} (hw : 0 < w) : ∀ (m : Nat) (P b : List Nat), P.length = w * m → codeP w (P ++ b) = codeP w P ++ codeP w b
  | 0, P, b, h => by
    have : P = [] := List.length_eq_zero_iff.1 (by simpa using h)
    subst this; rfl
  | m + 1, P, b, h => by
    rw [Nat.mul_succ] at h
    have e := List.take_append_drop w P
    have hl : (P.take w).length = w := by rw [List.length_take]; omega
    have hr : (P.drop w).length = w * m := by rw [List.length_drop]; omega
    rw [← e, List.append_assoc, codeP_full hw _ _ hl, codeP_full hw _ _ hl, codeP_mul hw m _ b hr]; rfl

/-- what a text of digits tells: none, if one is no digit, if a digit wasn't needed, or if what is left over isn't nought -/
def fromB (W : Nat) (d t : ByteArray) : Option (List Nat) :=
  if (lst t t.size).any (fun c => (ixN d c).isNone) = true then none
  else
    if ((bitsL W ((lst t t.size).map (ixv d))).drop (8 * ((bitsL W ((lst t t.size).map (ixv d))).length / 8))).length < W ∧ val ((bitsL W ((lst t t.size).map (ixv d))).drop (8 * ((bitsL W ((lst t t.size).map (ixv d))).length / 8))) = 0
    then some (codeP 8 ((bitsL W ((lst t t.size).map (ixv d))).take (8 * ((bitsL W ((lst t t.size).map (ixv d))).length / 8)))) else none
theorem fromB_bad {W : Nat} {d t : ByteArray} {j : Nat} (hj : j < t.size) (h : ixN d (bt t j) = none) : fromB W d t = none := by
  unfold fromB
  rw [if_pos]
  rw [List.any_eq_true]
  refine ⟨bt t j, ?_, by rw [h]; rfl⟩
  exact List.mem_map.2 ⟨j, List.mem_range.2 hj, rfl⟩
theorem fromB_end {W : Nat} {d t : ByteArray} {P rem : List Nat} {m : Nat} (hg : ∀ j, j < t.size → ixN d (bt t j) ≠ none) (hA : bitsL W ((lst t t.size).map (ixv d)) = P ++ rem) (hP : P.length = 8 * m) (hr : rem.length < 8) :
    fromB W d t = if rem.length < W ∧ val rem = 0 then some (codeP 8 P) else none := by
  unfold fromB
  have hL : (P ++ rem).length / 8 = m := by rw [List.length_append, hP]; omega
  rw [if_neg, hA, hL, ← hP, List.drop_left, List.take_left]
  rw [Bool.not_eq_true, List.any_eq_false]
  intro c hc
  obtain ⟨j, hj, rfl⟩ := List.mem_map.1 hc
  have := hg j (List.mem_range.1 hj)
  cases h : ixN d (bt t j) with
  | none => exact absurd h this
  | some v => simp
theorem lst_take_map (d t : ByteArray) (k : Nat) : bitsL 5 ((lst t (k + 1)).map (ixv d)) = bitsL 5 ((lst t k).map (ixv d)) ++ bitsW 5 (ixv d (bt t k)) := by
  rw [lst_succ, List.map_append, List.map_singleton, bitsL_snoc]
end Go.Proofs.YtiaccimdjfdkgaaGreatDoor.Nm

namespace Go.Proofs.YtiaccimdjfdkgaaGreatDoor.Nm
set_option linter.unusedVariables false

theorem bitsL_cons (w x : Nat) (l : List Nat) : bitsL w (x :: l) = bitsW w x ++ bitsL w l := by simp [bitsL]
/-- bytes, by so many bits, and back -/
theorem code_bits {w : Nat} (hw : 0 < w) : ∀ l : List Nat, (∀ x ∈ l, x < 2 ^ w) → codeP w (bitsL w l) = l
  | [], _ => rfl
  | x :: l, h => by
    rw [bitsL_cons, codeP_full hw _ _ (bitsW_len w x), val_bitsW w x (h x (List.mem_cons_self ..)), code_bits hw l (fun y hy => h y (List.mem_cons_of_mem _ hy))]
theorem bin_zeros (k : Nat) : Bin (List.replicate k 0) := fun x hx => by have := List.eq_of_mem_replicate hx; omega
theorem bits_code {w : Nat} (hw : 0 < w) : ∀ (n : Nat) (bs : List Nat), bs.length ≤ n → Bin bs → ∃ p, p < w ∧ bitsL w (codeP w bs) = bs ++ List.replicate p 0
  | 0, bs, hn, _ => by
    have : bs = [] := List.length_eq_zero_iff.1 (by omega)
    subst this
    exact ⟨0, hw, rfl⟩
  | n + 1, bs, hn, hb => by
    by_cases h : bs = []
    · subst h; exact ⟨0, hw, rfl⟩
    · have hp : 0 < bs.length := List.length_pos_iff.2 h
      by_cases hl : w ≤ bs.length
      · have e := List.take_append_drop w bs
        have hl1 : (bs.take w).length = w := by rw [List.length_take]; omega
        obtain ⟨p, hp1, hp2⟩ := bits_code hw n (bs.drop w) (by rw [List.length_drop]; omega) (hb.drop w)
        refine ⟨p, hp1, ?_⟩
        conv => lhs; rw [← e]
        rw [codeP_full hw _ _ hl1, bitsL_cons, hp2]
        have e2 := bitsW_val (hb.take w)
        rw [hl1] at e2
        rw [e2, ← List.append_assoc, e]
      · refine ⟨w - bs.length, by omega, ?_⟩
        have hB : Bin (bs ++ List.replicate (w - bs.length) 0) := hb.append (bin_zeros _)
        have hL : (bs ++ List.replicate (w - bs.length) 0).length = w := by rw [List.length_append, List.length_replicate]; omega
        have e2 := bitsW_val hB
        rw [hL, val_zeros] at e2
        rw [codeP_last h (by omega), bitsL_cons, e2]
        simp [bitsL]

/-- order: digit by digit, or by the whole number -/
theorem digits_order (w : Nat) : ∀ {l m : List Nat}, (∀ x ∈ l, x < 2 ^ w) → (∀ x ∈ m, x < 2 ^ w) → l.length = m.length → (val (bitsL w l) < val (bitsL w m) ↔ l < m)
  | [], [], _, _, _ => by simp [bitsL, val]
  | [], y :: m, _, _, h => by simp at h
  | x :: l, [], _, _, h => by simp at h
  | x :: l, y :: m, hl, hm, h => by
    have hln : l.length = m.length := by simpa using h
    have ih := digits_order w (l := l) (m := m) (fun z hz => hl z (List.mem_cons_of_mem _ hz)) (fun z hz => hm z (List.mem_cons_of_mem _ hz)) hln
    have b1 := val_lt (bitsL_bin w l)
    have b2 := val_lt (bitsL_bin w m)
    have hlen : (bitsL w l).length = (bitsL w m).length := by rw [bitsL_len, bitsL_len, hln]
    rw [bitsL_cons, bitsL_cons, val_append, val_append, hlen, val_bitsW w x (hl x (List.mem_cons_self ..)), val_bitsW w y (hm y (List.mem_cons_self ..)), List.cons_lt_cons_iff, ← ih]
    rw [hlen] at b1
    generalize val (bitsL w l) = A at *
    generalize val (bitsL w m) = B at *
    generalize 2 ^ (bitsL w m).length = N at *
    constructor
    · intro hh
      rcases Nat.lt_trichotomy x y with h1 | h1 | h1
      · exact .inl h1
      · subst h1; exact .inr ⟨rfl, by omega⟩
      · exfalso
        have : (y + 1) * N ≤ x * N := Nat.mul_le_mul_right _ h1
        rw [Nat.add_mul] at this
        omega
    · rintro (h1 | ⟨rfl, h1⟩)
      · have : (x + 1) * N ≤ y * N := Nat.mul_le_mul_right _ h1
        rw [Nat.add_mul] at this
        omega
      · omega
theorem map_order {f : Nat → Nat} {N : Nat} (hf : ∀ x y, x < N → y < N → (f x < f y ↔ x < y)) (hi : ∀ x y, x < N → y < N → f x = f y → x = y) : ∀ {l m : List Nat}, (∀ x ∈ l, x < N) → (∀ x ∈ m, x < N) → (l.map f < m.map f ↔ l < m)
  | [], [], _, _ => by simp
  | [], y :: m, _, _ => by simp
  | x :: l, [], _, _ => by simp
  | x :: l, y :: m, hl, hm => by
    have ih := map_order hf hi (l := l) (m := m) (fun z hz => hl z (List.mem_cons_of_mem _ hz)) (fun z hz => hm z (List.mem_cons_of_mem _ hz))
    have hx := hl x (List.mem_cons_self ..)
    have hy := hm y (List.mem_cons_self ..)
    rw [List.map_cons, List.map_cons, List.cons_lt_cons_iff, List.cons_lt_cons_iff, ih, hf x y hx hy]
    constructor
    · rintro (h | ⟨h1, h2⟩)
      · exact .inl h
      · exact .inr ⟨hi x y hx hy h1, h2⟩
    · rintro (h | ⟨h1, h2⟩)
      · exact .inl h
      · exact .inr ⟨by rw [h1], h2⟩

def d32 : ByteArray := ⟨#[48, 49, 50, 51, 52, 53, 54, 55, 56, 57, 97, 98, 99, 100, 101, 102, 103, 104, 105, 106, 107, 108, 109, 110, 111, 112, 113, 114, 115, 116, 117, 118]⟩
theorem d32_size : d32.size = 32 := rfl
theorem d32_low : ∀ v, v < 32 → lowN (bt d32 v) = bt d32 v := by decide +kernel
theorem d32_ix : ∀ v, v < 32 → ixN d32 (bt d32 v) = some v := by decide +kernel
theorem d32_lt : ∀ x, x < 32 → ∀ y, y < 32 → (bt d32 x < bt d32 y ↔ x < y) := by decide +kernel
theorem d32_inj : ∀ x y, x < 32 → y < 32 → bt d32 x = bt d32 y → x = y := fun x y hx hy h => by
  have h1 := d32_ix x hx
  rw [h, d32_ix y hy] at h1
  exact (Option.some.inj h1).symm

/-- bytes in base 32 -/
def c32 (b : ByteArray) : List Nat := codeP 5 (bitsL 8 (lst b b.size))
def to32B (b : ByteArray) : ByteArray := bts ((c32 b).map (bt d32))
theorem c32_lt (b : ByteArray) : ∀ v ∈ c32 b, v < 32 := codeP_lt (by omega) _ _ (Nat.le_refl _) (bitsL_bin 8 _)
theorem c32_len (b : ByteArray) : (c32 b).length ≤ 8 * b.size := by
  have := codeP_len (w := 5) (by omega) _ (bitsL 8 (lst b b.size)) (Nat.le_refl _)
  rw [bitsL_len, lst_len] at this; exact this
theorem to32B_size (b : ByteArray) : (to32B b).size = (c32 b).length := by unfold to32B; rw [bts_size, List.length_map]
theorem to32B_bt (b : ByteArray) {j : Nat} (hj : j < (c32 b).length) : bt (to32B b) j = bt d32 (c32 b)[j] := by
  unfold to32B
  rw [bts_bt _ (fun x hx => by obtain ⟨i, _, rfl⟩ := List.mem_map.1 hx; exact bt_lt _ _) j (by rw [List.length_map]; exact hj)]
  simp
theorem to32B_low (b : ByteArray) : lowB (to32B b) = to32B b := by
  refine ba_ext (lowB_size _) fun j hj => ?_
  rw [lowB_size, to32B_size] at hj
  rw [lowB_bt, to32B_bt b hj, d32_low _ (c32_lt b _ (List.getElem_mem hj))]
theorem to32B_lst (b : ByteArray) : lst (to32B b) (to32B b).size = (c32 b).map (bt d32) := by
  refine List.ext_getElem (by rw [lst_len, List.length_map, to32B_size]) fun j h1 h2 => ?_
  rw [lst_len, to32B_size] at h1
  have := to32B_bt b h1
  simp [lst, this]
theorem to32B_vals (b : ByteArray) : (lst (to32B b) (to32B b).size).map (ixv d32) = c32 b := by
  rw [to32B_lst, List.map_map]
  refine (List.map_congr_left (g := id) fun v hv => ?_).trans (List.map_id _)
  have := d32_ix v (c32_lt b v hv)
  simp [ixv, this]
theorem from_to (b : ByteArray) : fromB 5 d32 (lowB (to32B b)) = some (lst b b.size) := by
  rw [to32B_low]
  obtain ⟨p, hp1, hp2⟩ := bits_code (w := 5) (by omega) _ (bitsL 8 (lst b b.size)) (Nat.le_refl _) (bitsL_bin 8 _)
  have h := fromB_end (W := 5) (d := d32) (t := to32B b) (P := bitsL 8 (lst b b.size)) (rem := List.replicate p 0) (m := b.size) (fun j hj => by
      rw [to32B_size] at hj
      rw [to32B_bt b hj, d32_ix _ (c32_lt b _ (List.getElem_mem hj))]; simp) (by rw [to32B_vals]; exact hp2) (by rw [bitsL_len, lst_len]) (by rw [List.length_replicate]; omega)
  have hz := val_zeros [] p
  rw [List.nil_append] at hz
  rw [h, if_pos ⟨by rw [List.length_replicate]; exact hp1, by rw [hz]; simp [val]⟩, code_bits (by omega) _ (lst_lt b _)]
theorem to32_inj {a b : ByteArray} (h : to32B a = to32B b) : a = b := by
  have h1 := from_to a
  rw [h, from_to b] at h1
  have h2 := Option.some.inj h1
  rw [← bts_lst a, ← bts_lst b, h2]
theorem to32_order {a b : ByteArray} (h : a.size = b.size) : (lst (to32B a) (to32B a).size < lst (to32B b) (to32B b).size ↔ lst a a.size < lst b b.size) := by
  obtain ⟨p, hp1, hp2⟩ := bits_code (w := 5) (by omega) _ (bitsL 8 (lst a a.size)) (Nat.le_refl _) (bitsL_bin 8 _)
  obtain ⟨q, hq1, hq2⟩ := bits_code (w := 5) (by omega) _ (bitsL 8 (lst b b.size)) (Nat.le_refl _) (bitsL_bin 8 _)
  have l1 := congrArg List.length hp2
  have l2 := congrArg List.length hq2
  rw [bitsL_len, List.length_append, bitsL_len, lst_len, List.length_replicate] at l1 l2
  have hpq : p = q := by omega
  have hlen : (c32 a).length = (c32 b).length := by unfold c32; omega
  rw [to32B_lst, to32B_lst, map_order (fun x y hx hy => d32_lt x hx y hy) d32_inj (c32_lt a) (c32_lt b), ← digits_order 5 (c32_lt a) (c32_lt b) hlen]
  unfold c32
  rw [hp2, hq2, hpq, val_zeros, val_zeros, ← digits_order 8 (lst_lt a _) (lst_lt b _) (by rw [lst_len, lst_len, h])]
  exact Nat.mul_lt_mul_right (Nat.two_pow_pos q)
end Go.Proofs.YtiaccimdjfdkgaaGreatDoor.Nm

namespace Go.Proofs.YtiaccimdjfdkgaaGreatDoor
set_option linter.unusedVariables false
open Go.RowKit Go.Shelf Go.Proofs.YtiaccimdjfdkgaaGreatDoor.Nm

set_option maxRecDepth 100000 in
set_option maxHeartbeats 1000000 in
/-- spell.Small, of longer texts -/
theorem small_big (s : ByteArray) (w : World) (hs : s.size ≤ 4194304) :
    Calls Tryz.prog 60 #[.string s] w fun e w' => e = .returned (.string (lowB s)) ∧ Below w.heap.size w w' := by
  have hcv := fun w' => run_bytes_of_string (P := Tryz.prog) w' 9 56 5 s Tryz.underlying9 Tryz.underlying56 Tryz.underlying5
  go_enter Tryz.func60, Tryz.ntmps60
  go_wp2
  go_loopw [10] (fun i wr => ∃ k : Nat, i = .int .i64 k ∧ k ≤ s.size ∧ HoldsB wr w.heap.size s.size (fun j => if j < k then lowN (bt s j) else bt s j) ∧ Below w.heap.size w wr)
    (fun i _ => s.size - (intOf i).toNat)
  case atStart => exact ⟨0, rfl, Nat.zero_le _, ((holdsB_new _ _ _ _).drew).congr (by simp), ((Below.refl _ _).alloc (Nat.le_refl _) _).drew⟩
  case round =>
    obtain ⟨k, rfl, hk, hH, hBr⟩ := hrel
    by_cases hlt : k < s.size
    · have hc := hH.cell k hlt
      have hfr := hH.free k hlt
      simp only [Nat.lt_irrefl, if_false] at hc
      obtain ⟨x, hx, hx256⟩ : ∃ x, bt s k = x ∧ x < 256 := ⟨_, rfl, bt_lt _ _⟩
      rw [hx] at hc
      have HX : Hid (bt s k = x) := hx
      clear hx
      have hnext : ∀ (W : World) (y : Nat), y = lowN x → HoldsB W w.heap.size s.size (fun j => if j = k then y else if j < k then lowN (bt s j) else bt s j) → HoldsB W w.heap.size s.size (fun j => if j < k + 1 then lowN (bt s j) else bt s j) := by
        intro W y hy h
        refine h.congr fun j _ => ?_
        by_cases e : j = k
        · subst e; rw [if_pos rfl, if_pos (by omega), hy, HX.out]
        · rw [if_neg e]
          by_cases e2 : j < k
          · rw [if_pos e2, if_pos (by omega)]
          · rw [if_neg e2, if_neg (by omega)]
      have hstay : ∀ (W : World), lowN x = x → HoldsB W w.heap.size s.size (fun j => if j < k then lowN (bt s j) else bt s j) → HoldsB W w.heap.size s.size (fun j => if j < k + 1 then lowN (bt s j) else bt s j) := by
        intro W hy h
        refine h.congr fun j _ => ?_
        by_cases e : j = k
        · subst e; rw [if_neg (by omega), if_pos (by omega), HX.out, hy]
        · by_cases e2 : j < k
          · rw [if_pos e2, if_pos (by omega)]
          · rw [if_neg e2, if_neg (by omega)]
      have HNX := hide' hnext
      have HST := hide' hstay
      clear hnext hstay
      by_cases h65 : 65 ≤ x
      · by_cases h90 : x ≤ 90
        · go_wp2
          go_roundw
          case rel => exact ⟨k + 1, by go_num, hlt, HNX.out _ (x + 32) (by unfold lowN; rw [if_pos ⟨h65, h90⟩]) (hH.set k (x + 32) hlt), hBr.setCell (p := ⟨w.heap.size, k, none⟩) (Nat.le_refl _) _⟩
          case measure => simp [intOf]; omega
        · have h90' : 90 < x := by omega
          go_wp2
          go_roundw
          case rel => exact ⟨k + 1, by go_num, hlt, HST.out _ (by unfold lowN; rw [if_neg (by omega)]) hH, hBr⟩
          case measure => simp [intOf]; omega
      · have h65' : x < 65 := by omega
        go_wp2
        go_roundw
        case rel => exact ⟨k + 1, by go_num, hlt, HST.out _ (by unfold lowN; rw [if_neg (by omega)]) hH, hBr⟩
        case measure => simp [intOf]; omega
    · have hst : ∀ cap, (convert 56 9 (.slice (some ⟨w.heap.size, 0, none⟩) s.size cap)).run Tryz.prog wr = .ok (.string (lowB s)) wr := fun cap => by
        have hz := lowB_size s
        rw [← hz] at hH ⊢
        exact hH.str (fun j hj => by rw [if_pos (by omega), lowB_bt]) cap
      go_wp2
      go_ret
      exact ⟨rfl, hBr⟩
end Go.Proofs.YtiaccimdjfdkgaaGreatDoor

namespace Go.Proofs.YtiaccimdjfdkgaaGreatDoor
set_option linter.unusedVariables false
open Go.RowKit Go.Shelf Go.Proofs.YtiaccimdjfdkgaaGreatDoor.Nm

def Tryz.lays125_ren : Go.Shelf.Ren := ⟨fun | 125 => 158 | 128 => 159 | 129 => 116 | n => n, fun | 46 => 227 | 3 => 3 | 51 => 225 | 53 => 200 | 4 => 4 | 5 => 5 | 9 => 9 | n => n, fun | n => n⟩
theorem Tryz.lays125 : Go.Proofs.Lays.n125 Tryz.prog Tryz.lays125_ren := {
  mixed := by kernel_rfl
  f125 := Tryz.func158.trans (congrArg some (by kernel_rfl))
  f128 := Tryz.func159.trans (congrArg some (by kernel_rfl))
  f129 := Tryz.func116.trans (congrArg some (by kernel_rfl))
  t3 := Tryz.underlying3
  a3 := Tryz.isAgg3
  z3 := Tryz.sizeOf3
  v3 := Tryz.zeroValue3
  t4 := Tryz.underlying4
  a4 := Tryz.isAgg4
  z4 := Tryz.sizeOf4
  v4 := Tryz.zeroValue4
  t5 := Tryz.underlying5
  a5 := Tryz.isAgg5
  z5 := Tryz.sizeOf5
  v5 := Tryz.zeroValue5
  t9 := Tryz.underlying9
  a9 := Tryz.isAgg9
  z9 := Tryz.sizeOf9
  v9 := Tryz.zeroValue9
  t46 := Tryz.underlying227
  a46 := Tryz.isAgg227
  z46 := Tryz.sizeOf227
  v46 := Tryz.zeroValue227
  t51 := Tryz.underlying225
  a51 := Tryz.isAgg225
  z51 := Tryz.sizeOf225
  v51 := Tryz.zeroValue225
  t53 := Tryz.underlying200
  a53 := Tryz.isAgg200
  z53 := Tryz.sizeOf200
  v53 := Tryz.zeroValue200 }

/-- so many digits, each of which tells W bits -/
def DigOk (d : ByteArray) (W : Nat) : Prop := d.size = 2 ^ W ∧ (W = 4 ∨ W = 5 ∨ W = 6)

theorem bitsOf_any (d : ByteArray) (W : Nat) (w : World) (h : DigOk d W) :
    Calls Tryz.prog 157 #[.string d] w fun e w' => e = .returned (.int .i64 (W : Int)) ∧ w' = w := by
  obtain ⟨h1, h2⟩ := h
  have hz : d.size = 16 ∧ W = 4 ∨ d.size = 32 ∧ W = 5 ∨ d.size = 64 ∧ W = 6 := by
    rcases h2 with rfl | rfl | rfl
    · left; exact ⟨h1, rfl⟩
    · right; left; exact ⟨h1, rfl⟩
    · right; right; exact ⟨h1, rfl⟩
  clear h1 h2
  rcases hz with ⟨hz, rfl⟩ | ⟨hz, rfl⟩ | ⟨hz, rfl⟩
  all_goals
    go_enter Tryz.func157, Tryz.ntmps157
    go_wp2_with (go_at_call 158; refine (Any.bits_Len Tryz.lays125 _ _ (by omega) (by omega)).mono ?_; rintro e w' ⟨rfl, rfl⟩)
    go_ret
    refine ⟨?_, rfl⟩
    simp
    decide

set_option maxRecDepth 100000 in
set_option maxHeartbeats 1000000 in
/-- data.toDigits, base 32 -/
theorem toDigits5 (b d : ByteArray) (w : World) (hb : b.size ≤ 1048576) (hd : d.size = 32) :
    Calls Tryz.prog 236 #[.string b, .string d] w fun e w' => e = .returned (.string (bts ((codeP 5 (bitsL 8 (lst b b.size))).map (bt d)))) ∧ Below w.heap.size w w' := by
  obtain ⟨i0, hi, hz0, hz1, hz2⟩ := info_parts Tryz.infoByte
  have HD : Hid (DigOk d 5) := ⟨hd, .inr (.inl rfl)⟩
  go_enter Tryz.func236, Tryz.ntmps236
  go_wp2_with (first
    | (go_at_call 157; refine (bitsOf_any d 5 _ HD.out).mono ?_; rintro e w1 ⟨rfl, rfl⟩)
    | (at_make; refine wpList_make_own _ rfl _ _ 56 rfl w1.heap.size 5 i0 (.int .u8 0) 1 Tryz.underlying56 hi hz0 hz1 .i64 .i64 _ (b.size * 8 / 5 + 1) rfl rfl (by omega) (by rw [hz2]; omega) (by unfold maxLen; omega) (Nat.le_refl _) ?_; intro w0 hown0 hgrow0))
  have hB0 : Below w1.heap.size w1 w0 := (Below.refl _ _).grown hgrow0 (Nat.le_refl _) (fun q hq => by cases hq)
  go_loopw [6, 7, 8, 21] (fun tv rv hv iv wr => ∃ (k : Nat) (acc rem : List Nat), iv = .int .i64 k ∧ rv = .int .i64 (val rem : Nat) ∧ hv = .int .i64 (rem.length : Nat) ∧ k ≤ b.size ∧ rem.length < 5 ∧ Hid (Bin rem) ∧ acc.length * 5 + rem.length = 8 * k ∧ Hid (∀ v ∈ acc, v < 32) ∧
      Hid (codeP 5 (bitsL 8 (lst b b.size)) = acc ++ codeP 5 (rem ++ bitsL 8 ((lst b b.size).drop k))) ∧ wr.ownsRow w1.heap.size 5 1 tv acc.length (byts (acc.map (bt d))) ∧ (∃ g c, tv = .slice (some ⟨g, 0, none⟩) acc.length c) ∧ Below w1.heap.size w1 wr)
    (fun _ _ _ iv _ => b.size - (intOf iv).toNat)
  case atStart => exact ⟨0, [], [], rfl, rfl, rfl, Nat.zero_le _, by simp, (fun x hx => by cases hx), by simp, (fun x hx => by cases hx), by simp [Hid], by simpa [byts] using hown0, ⟨_, _, rfl⟩, hB0⟩
  case round =>
    obtain ⟨k, acc, rem, rfl, rfl, rfl, hk, hrl, HBin, hal, HA32, HC, hown, ⟨gs, cs, rfl⟩, hBr⟩ := hrel
    have hvl : val rem < 32 := by
      have h1 := val_lt HBin.out
      have h2 : 2 ^ rem.length ≤ 2 ^ 5 := Nat.pow_le_pow_right (by omega) (by omega)
      omega
    by_cases hlt : k < b.size
    · obtain ⟨y, hy, HY, hyl⟩ := bt_wrap hlt
      have hor : bits .or .i64 ((val rem : Int) * 256) (y : Int) = ((val (rem ++ bitsW 8 y) : Nat) : Int) := by
        have := or_shl 8 (val rem) y (by omega) (by omega) (by omega)
        rw [val_append, bitsW_len, val_bitsW 8 y (by omega)]
        simpa using this
      have HC2 : Hid (codeP 5 (bitsL 8 (lst b b.size)) = acc ++ codeP 5 ((rem ++ bitsW 8 y) ++ bitsL 8 ((lst b b.size).drop (k + 1)))) := by
        have := HC.out
        rw [lst_drop hlt, HY] at this
        unfold Hid; rw [this, List.append_assoc]; rfl
      have HB2 : Hid (Bin (rem ++ bitsW 8 y)) := HBin.out.append (bitsW_bin 8 y)
      have hrl2 : (rem ++ bitsW 8 y).length = rem.length + 8 := by rw [List.length_append, bitsW_len]
      clear HY
      go_wp2_with fail
      rw [show ((rem.length : Int) + 8) = (((rem ++ bitsW 8 y).length : Nat) : Int) by rw [hrl2]; simp]
      have hR1 : (rem ++ bitsW 8 y).length ≤ 12 := by omega
      have hE1 : acc.length * 5 + (rem ++ bitsW 8 y).length = 8 * (k + 1) := by omega
      generalize rem ++ bitsW 8 y = rem1 at *
      obtain ⟨wo, rfl⟩ : ∃ wo, wo = wr := ⟨_, rfl⟩
      clear hor hrl hrl2 hvl HC HBin hal
      go_loopw [6, 7, 8] (fun tv rv hv wr => ∃ (acc rem : List Nat), rv = .int .i64 (val rem : Nat) ∧ hv = .int .i64 (rem.length : Nat) ∧ rem.length ≤ 12 ∧ Hid (Bin rem) ∧ acc.length * 5 + rem.length = 8 * (k + 1) ∧ Hid (∀ v ∈ acc, v < 32) ∧
          Hid (codeP 5 (bitsL 8 (lst b b.size)) = acc ++ codeP 5 (rem ++ bitsL 8 ((lst b b.size).drop (k + 1)))) ∧ wr.ownsRow w1.heap.size 5 1 tv acc.length (byts (acc.map (bt d))) ∧ (∃ g c, tv = .slice (some ⟨g, 0, none⟩) acc.length c) ∧ Below w1.heap.size w1 wr)
        (fun _ _ hv _ => (intOf hv).toNat)
      case atStart => exact ⟨acc, rem1, rfl, rfl, hR1, HB2, hE1, HA32, HC2, hown, ⟨_, _, rfl⟩, hBr⟩
      case round =>
        clear hown HC2 HA32 hE1 HB2 hR1
        obtain ⟨acc, rem, rfl, rfl, hrl, HBin, hal, HA32, HC, hown, ⟨gq, cq, rfl⟩, hBq⟩ := hrel
        by_cases h5 : 5 ≤ rem.length
        · have hspl := List.take_append_drop 5 rem
          have hl5 : (rem.take 5).length = 5 := by rw [List.length_take]; omega
          obtain ⟨hh, hhd⟩ : ∃ hh, rem.take 5 = hh := ⟨_, rfl⟩
          obtain ⟨tl, htl⟩ : ∃ tl, rem.drop 5 = tl := ⟨_, rfl⟩
          rw [hhd, htl] at hspl
          rw [hhd] at hl5
          subst hspl
          clear hhd htl
          have hlen : (hh ++ tl).length = 5 + tl.length := by rw [List.length_append, hl5]
          have hlenI : (((hh ++ tl).length : Nat) : Int) = (tl.length : Int) + 5 := by rw [hlen]; omega
          have hb1 := val_lt (HBin.out).left
          have hb2 := val_lt (HBin.out).right
          rw [hl5] at hb1
          have hp1 : 0 < 2 ^ tl.length := Nat.two_pow_pos _
          have hp2 : 2 ^ tl.length ≤ 2 ^ 7 := Nat.pow_le_pow_right (by omega) (by omega)
          have hvd : val hh < d.size := by omega
          obtain ⟨y2, hy2, HY2, hy2l⟩ := bt_wrap hvd
          have hshr : ((val (hh ++ tl) : Nat) : Int) / 2 ^ tl.length = ((val hh : Nat) : Int) := by
            rw [val_append]; exact shr_split _ _ _ hb2
          have hand : bits .and .i64 ((val (hh ++ tl) : Nat) : Int) ((2 : Int) ^ tl.length - 1) = ((val tl : Nat) : Int) := by
            rw [val_append]; exact and_split _ _ _ hb2 (by omega) (by omega)
          have hq1 : (1 : Int) ≤ 2 ^ tl.length := by have : ((2 ^ tl.length : Nat) : Int) = (2 : Int) ^ tl.length := by simp
                                                     omega
          have hq2 : (2 : Int) ^ tl.length ≤ 128 := by have : ((2 ^ tl.length : Nat) : Int) = (2 : Int) ^ tl.length := by simp
                                                       omega
          rw [hlenI]
          have HC3 : Hid (codeP 5 (bitsL 8 (lst b b.size)) = (acc ++ [val hh]) ++ codeP 5 (tl ++ bitsL 8 ((lst b b.size).drop (k + 1)))) := by
            unfold Hid; rw [HC.out, List.append_assoc, List.append_assoc, codeP_full (by omega) hh _ hl5]; rfl
          have HA3 : Hid (∀ v ∈ acc ++ [val hh], v < 32) := fun v hv => by
            rcases List.mem_append.1 hv with h | h
            · exact HA32.out v h
            · simp at h; omega
          have HB3 : Hid (Bin tl) := (HBin.out).right
          have hvv : val (hh ++ tl) < 4096 := by rw [val_append]; exact split_lt hb1 hb2 hp2
          have ht7 : tl.length ≤ 7 := by omega
          have hal2 : (acc ++ [val hh]).length * 5 + tl.length = 8 * (k + 1) := by rw [hlen] at hal; simp; omega
          clear h5 hrl hlenI hb1 hb2 hp1 hp2 hlen hl5 HC HA32 HBin
          generalize val (hh ++ tl) = V at *
          go_wp2_with (at_builtin; refine wpList_append_own _ rfl _ _ 56 rfl w1.heap.size 5 i0 (.int .u8 0) 1 1 Tryz.underlying56 hi hz0 hz1 hz2 rfl (by decide) _ _ _ rfl (hown.alloc _) ⟨wr.heap.size, 0, none⟩ 1 1 [.int .u8 (y2 : Int)] rfl rfl (cell_one_new _ _ _) (by simp [Value.oneCell']) (by unfold maxLen; omega) (by omega) (by have := hBq.size; simp; omega) ?_; intro v4 w4 hown4 hgrow4 _; obtain ⟨g4, c4, rfl⟩ := owns_some hown4 (by omega))
          refine ⟨⟨acc ++ [val hh], tl, rfl, rfl, by omega, HB3, hal2, HA3, HC3, ?_, ⟨g4, c4, by rw [List.length_append]; rfl⟩, below_app hBq (Nat.le_refl _) hown hgrow4⟩, ?_⟩
          · have e : byts ((acc ++ [val hh]).map (bt d)) = byts (acc.map (bt d)) ++ [.int .u8 (y2 : Int)] := by simp [byts, HY2]
            rw [e, List.length_append]; exact hown4
          · simp [intOf]; omega
        · have hlt5 : rem.length < 5 := by omega
          go_wp2
          refine ⟨⟨k + 1, acc, rem, by go_num, rfl, rfl, hlt, hlt5, HBin, hal, HA32, HC, hown, ⟨_, _, rfl⟩, hBq⟩, ?_⟩
          simp [intOf]; omega
    · have hkb : k = b.size := by omega
      subst hkb
      have HC2 : Hid (codeP 5 (bitsL 8 (lst b b.size)) = acc ++ codeP 5 rem) := by
        have := HC.out
        rw [List.drop_of_length_le (by rw [lst_len]; exact Nat.le_refl _)] at this
        unfold Hid; rw [this]; simp [bitsL]
      have hcvt : ∀ (xs : List Nat) (g c : Nat) (W : World), W.ownsRow w1.heap.size 5 1 (.slice (some ⟨g, 0, none⟩) xs.length c) xs.length (byts (xs.map (bt d))) → (convert 56 9 (.slice (some ⟨g, 0, none⟩) xs.length c)).run Tryz.prog W = .ok (.string (bts (xs.map (bt d)))) W := by
        intro xs g c W hW
        have hz : (bts (xs.map (bt d))).size = xs.length := by rw [bts_size, List.length_map]
        have h := owns_str (t := bts (xs.map (bt d))) (w := W) (base := w1.heap.size) (g := g) (cap := c) (by rw [hz, bts_cells _ (fun x hx => by obtain ⟨i, _, rfl⟩ := List.mem_map.1 hx; exact bt_lt _ _)]; exact hW)
        rw [hz] at h; exact h
      have HCV := hide' hcvt
      clear hcvt
      by_cases hr0 : rem.length = 0
      · have hnil : rem = [] := List.length_eq_zero_iff.1 hr0
        subst hnil
        have HE : Hid (bts ((codeP 5 (bitsL 8 (lst b b.size))).map (bt d)) = bts (acc.map (bt d))) := by unfold Hid; rw [HC2.out, codeP_nil, List.append_nil]
        have hcv := HCV.out acc gs cs _ hown
        clear HC hr0 hvl hrl hal
        go_wp2
        go_ret
        exact ⟨by rw [HE.out]; rfl, hBr⟩
      · have hne : rem ≠ [] := fun e => hr0 (by rw [e]; rfl)
        have hcl := codeP_last (w := 5) hne (by omega)
        obtain ⟨V, hV⟩ : ∃ V, val rem * 2 ^ (5 - rem.length) = V := ⟨_, rfl⟩
        have hV32 : V < 32 := by
          rw [← hV]
          have h1 := val_lt HBin.out
          have h2 : 2 ^ rem.length * 2 ^ (5 - rem.length) = 2 ^ 5 := by rw [← Nat.pow_add]; congr 1; omega
          have h3 : val rem * 2 ^ (5 - rem.length) < 2 ^ rem.length * 2 ^ (5 - rem.length) := Nat.mul_lt_mul_of_pos_right h1 (Nat.two_pow_pos _)
          omega
        have hvd : V < d.size := by omega
        obtain ⟨y2, hy2, HY2, hy2l⟩ := bt_wrap hvd
        rw [hV] at hcl
        have HE : Hid (bts ((codeP 5 (bitsL 8 (lst b b.size))).map (bt d)) = bts ((acc ++ [V]).map (bt d))) := by unfold Hid; rw [HC2.out, hcl]
        have hVI : ((val rem : Nat) : Int) * 2 ^ (5 - rem.length) = ((V : Nat) : Int) := by rw [← hV]; simp
        have hcase : rem.length = 1 ∨ rem.length = 2 ∨ rem.length = 3 ∨ rem.length = 4 := by omega
        have hal' : acc.length ≤ 2 * b.size := by omega
        clear HC hr0 hne hcl hV hal
        rcases hcase with h | h | h | h
        all_goals
          rw [h] at hVI
          rw [h]
          simp at hVI
          clear h hrl HC2 HBin
          generalize val rem = R at *
          go_wp2_with (at_builtin; refine wpList_append_own _ rfl _ _ 56 rfl w1.heap.size 5 i0 (.int .u8 0) 1 1 Tryz.underlying56 hi hz0 hz1 hz2 rfl (by decide) _ _ _ rfl (hown.alloc _) ⟨wr.heap.size, 0, none⟩ 1 1 [.int .u8 (y2 : Int)] rfl rfl (cell_one_new _ _ _) (by simp [Value.oneCell']) (by unfold maxLen; omega) (by omega) (by have := hBr.size; simp; omega) ?_; intro v4 w4 hown4 hgrow4 _; obtain ⟨g4, c4, rfl⟩ := owns_some hown4 (by omega); have hown5 : w4.ownsRow w1.heap.size 5 1 (.slice (some ⟨g4, 0, none⟩) (acc ++ [V]).length c4) (acc ++ [V]).length (byts ((acc ++ [V]).map (bt d))) := (by simpa [byts, HY2] using hown4); have hcv := HCV.out (acc ++ [V]) g4 c4 _ hown5; rw [List.length_append, List.length_singleton] at hcv)
          go_ret
          exact ⟨by rw [HE.out, List.map_append, List.map_singleton, HY2]; rfl, below_app hBr (Nat.le_refl _) hown hgrow4⟩
end Go.Proofs.YtiaccimdjfdkgaaGreatDoor

namespace Go.Proofs.YtiaccimdjfdkgaaGreatDoor
set_option linter.unusedVariables false
open Go.RowKit Go.Shelf Go.Proofs.YtiaccimdjfdkgaaGreatDoor.Nm

set_option maxRecDepth 100000 in
/-- strings.IndexByte, its answer -/
theorem indexByteX (s : ByteArray) (b : Nat) (w : World) :
    Calls Tryz.prog 62 #[.string s, .int .u8 (b : Int)] w fun e w' => e = .returned (.int .i64 (ixI s b)) ∧ w' = w := by
  have HI : Hid (Lib.indexByte s.data.toList (b : Int).toNat.toUInt8 = ixI s b) := rfl
  go_enter Tryz.func62, Tryz.ntmps62
  go_wp2_with (go_at_call 88; refine (slIndex_any _ _ _).mono ?_; rintro e w1 ⟨rfl, rfl⟩; rw [HI.out])
  go_ret
  exact ⟨rfl, rfl⟩

/-- what fromDigits hands back -/
def fromEnd (r : Option (List Nat)) : Ending := match r with | some l => .returned (.tuple #[.string (bts l), .bool true]) | none => .returned (.tuple #[.string ByteArray.empty, .bool false])

set_option maxRecDepth 100000 in
set_option maxHeartbeats 1000000 in
/-- data.fromDigits, base 32 -/
theorem fromDigits5 (t d : ByteArray) (w : World) (ht : t.size ≤ 4194304) (hd : d.size = 32) :
    Calls Tryz.prog 156 #[.string t, .string d] w fun e w' => e = fromEnd (fromB 5 d t) ∧ Below w.heap.size w w' := by
  obtain ⟨i0, hi, hz0, hz1, hz2⟩ := info_parts Tryz.infoByte
  have HD : Hid (DigOk d 5) := ⟨hd, .inr (.inl rfl)⟩
  go_enter Tryz.func156, Tryz.ntmps156
  go_wp2_with (first
    | (go_at_call 157; refine (bitsOf_any d 5 _ HD.out).mono ?_; rintro e w1 ⟨rfl, rfl⟩)
    | (at_make; refine wpList_make_own _ rfl _ _ 56 rfl w1.heap.size 5 i0 (.int .u8 0) 1 Tryz.underlying56 hi hz0 hz1 .i64 .i64 _ (t.size * 5 / 8) rfl rfl (by omega) (by rw [hz2]; omega) (by unfold maxLen; omega) (Nat.le_refl _) ?_; intro w0 hown0 hgrow0))
  have hB0 : Below w1.heap.size w1 w0 := (Below.refl _ _).grown hgrow0 (Nat.le_refl _) (fun q hq => by cases hq)
  go_loopw [7, 8, 9, 22] (fun tv rv hv iv wr => ∃ (k : Nat) (acc P rem : List Nat), iv = .int .i64 k ∧ rv = .int .i64 (val rem : Nat) ∧ hv = .int .i64 (rem.length : Nat) ∧ k ≤ t.size ∧ rem.length < 8 ∧ Hid (Bin rem) ∧ acc.length * 8 + rem.length = 5 * k ∧ Hid (P.length = 8 * acc.length) ∧ Hid (acc = codeP 8 P) ∧ Hid (∀ v ∈ acc, v < 256) ∧
      Hid (bitsL 5 ((lst t k).map (ixv d)) = P ++ rem) ∧ Hid (∀ j, j < k → ixN d (bt t j) ≠ none) ∧ wr.ownsRow w1.heap.size 5 1 tv acc.length (byts acc) ∧ (∃ g c, tv = .slice (some ⟨g, 0, none⟩) acc.length c) ∧ Below w1.heap.size w1 wr)
    (fun _ _ _ iv _ => t.size - (intOf iv).toNat)
  case atStart => exact ⟨0, [], [], [], rfl, rfl, rfl, Nat.zero_le _, by simp, (fun x hx => by cases hx), by simp, rfl, rfl, (fun x hx => by cases hx), rfl, (fun j hj => absurd hj (Nat.not_lt_zero _)), by simpa [byts] using hown0, ⟨_, _, rfl⟩, hB0⟩
  case round =>
    obtain ⟨k, acc, P, rem, rfl, rfl, rfl, hk, hrl, HBin, hal, HPL, HAC, HA256, HBL, HG, hown, ⟨gs, cs, rfl⟩, hBr⟩ := hrel
    have hvl : val rem < 128 := by
      have h1 := val_lt HBin.out
      have h2 : 2 ^ rem.length ≤ 2 ^ 7 := Nat.pow_le_pow_right (by omega) (by omega)
      omega
    by_cases hlt : k < t.size
    · obtain ⟨y, hy, HY, hyl⟩ := bt_wrap hlt
      rcases ix_cases d hyl with ⟨v, h1, h2, h3, h4, _⟩ | ⟨h1, h2⟩
      · have hor : bits .or .i64 ((val rem : Int) * 32) (v : Int) = ((val (rem ++ bitsW 5 v) : Nat) : Int) := by
          have := or_shl 5 (val rem) v (by omega) (by omega) (by omega)
          rw [val_append, bitsW_len, val_bitsW 5 v (by omega)]
          simpa using this
        have HBL2 : Hid (bitsL 5 ((lst t (k + 1)).map (ixv d)) = P ++ (rem ++ bitsW 5 v)) := by
          unfold Hid; rw [lst_take_map, HBL.out, HY, h2, List.append_assoc]
        have HG2 : Hid (∀ j, j < k + 1 → ixN d (bt t j) ≠ none) := by
          intro j hj
          by_cases e : j = k
          · subst e; rw [HY, h1]; simp
          · exact HG.out j (by omega)
        have HIX : Hid (ixI d y = (v : Int)) := h3
        have HB2 : Hid (Bin (rem ++ bitsW 5 v)) := HBin.out.append (bitsW_bin 5 v)
        have hrl2 : (rem ++ bitsW 5 v).length = rem.length + 5 := by rw [List.length_append, bitsW_len]
        have hacl : acc.length ≤ 4194304 := by omega
        by_cases h8 : 3 ≤ rem.length
        · have hspl := List.take_append_drop 8 (rem ++ bitsW 5 v)
          have hl8 : ((rem ++ bitsW 5 v).take 8).length = 8 := by rw [List.length_take]; omega
          obtain ⟨hh, hhd⟩ : ∃ hh, (rem ++ bitsW 5 v).take 8 = hh := ⟨_, rfl⟩
          obtain ⟨tl, htl⟩ : ∃ tl, (rem ++ bitsW 5 v).drop 8 = tl := ⟨_, rfl⟩
          have htn : tl.length + 3 = rem.length := by rw [← htl, List.length_drop]; omega
          rw [hhd, htl] at hspl
          rw [hhd] at hl8
          rw [← hspl] at hor HBL2 HB2
          have hlenI : ((rem.length : Nat) : Int) = (tl.length : Int) + 3 := by omega
          have hb1 := val_lt (HB2.out).left
          have hb2 := val_lt (HB2.out).right
          rw [hl8] at hb1
          have hp1 : 0 < 2 ^ tl.length := Nat.two_pow_pos _
          have hp2 : 2 ^ tl.length ≤ 2 ^ 7 := Nat.pow_le_pow_right (by omega) (by omega)
          have hshr : ((val (hh ++ tl) : Nat) : Int) / 2 ^ tl.length = ((val hh : Nat) : Int) := by
            rw [val_append]; exact shr_split _ _ _ hb2
          have hand : bits .and .i64 ((val (hh ++ tl) : Nat) : Int) ((2 : Int) ^ tl.length - 1) = ((val tl : Nat) : Int) := by
            rw [val_append]; exact and_split _ _ _ hb2 (by omega) (by omega)
          have hq1 : (1 : Int) ≤ 2 ^ tl.length := by have : ((2 ^ tl.length : Nat) : Int) = (2 : Int) ^ tl.length := by simp
                                                     omega
          have hq2 : (2 : Int) ^ tl.length ≤ 128 := by have : ((2 ^ tl.length : Nat) : Int) = (2 : Int) ^ tl.length := by simp
                                                       omega
          have HC3 : Hid (acc ++ [val hh] = codeP 8 (P ++ hh)) := by
            unfold Hid
            rw [codeP_mul (by omega) acc.length P hh HPL.out, ← HAC.out]
            congr 1
            have := codeP_full (w := 8) (by omega) hh [] hl8
            rw [List.append_nil, codeP_nil] at this; exact this.symm
          have HP3 : Hid ((P ++ hh).length = 8 * (acc ++ [val hh]).length) := by
            unfold Hid; have := HPL.out; simp only [List.length_append, List.length_singleton]; omega
          have HBL3 : Hid (bitsL 5 ((lst t (k + 1)).map (ixv d)) = (P ++ hh) ++ tl) := by unfold Hid; rw [HBL2.out, List.append_assoc]
          have HA3 : Hid (∀ v ∈ acc ++ [val hh], v < 256) := fun v hv => by
            rcases List.mem_append.1 hv with h | h
            · exact HA256.out v h
            · simp at h; omega
          have HB3 : Hid (Bin tl) := (HB2.out).right
          have hal2 : (acc ++ [val hh]).length * 8 + tl.length = 5 * (k + 1) := by simp; omega
          have hh256 : val hh < 256 := by omega
          have ht4 : tl.length < 8 := by omega
          rw [hlenI]
          clear hhd htl hspl hb1 hb2 hp1 hp2 hl8 h8 hrl hrl2 htn hlenI HBL2 HB2 HBL HG HBin HPL HAC HA256 h1 h2 h3 HY hal
          generalize val (hh ++ tl) = V at *
          generalize val rem = R at *
          go_wp2_with (first
            | (go_at_call 62; refine (indexByteX d y _).mono ?_; rintro e w2 ⟨rfl, rfl⟩; rw [HIX.out])
            | (at_builtin; refine wpList_append_own _ rfl _ _ 56 rfl w1.heap.size 5 i0 (.int .u8 0) 1 1 Tryz.underlying56 hi hz0 hz1 hz2 rfl (by decide) _ _ _ rfl (hown.alloc _) ⟨_, 0, none⟩ 1 1 [.int .u8 ((val hh : Nat) : Int)] rfl rfl (cell_one_new _ _ _) (by simp [Value.oneCell']) (by unfold maxLen; omega) (by omega) (by have := hBr.size; simp; omega) ?_; intro v4 w4 hown4 hgrow4 _; obtain ⟨g4, c4, rfl⟩ := owns_some hown4 (by omega)))
          have hw : wrap64 (wrap64 ((2 : Int) ^ tl.length) - 1) = (2 : Int) ^ tl.length - 1 := by
            rw [show wrap64 ((2 : Int) ^ tl.length) = (2 : Int) ^ tl.length from Go.IntWalk.wrap64_in _ (by omega)]
            exact Go.IntWalk.wrap64_in _ (by omega)
          refine ⟨⟨k + 1, acc ++ [val hh], P ++ hh, tl, by go_num, by rw [hw, hand], by congr 1; omega, hlt, ht4, HB3, hal2, HP3, HC3, HA3, HBL3, HG2, ?_, ⟨g4, c4, by rw [List.length_append]; rfl⟩, below_app hBr (Nat.le_refl _) hown hgrow4⟩, ?_⟩
          · have e : byts (acc ++ [val hh]) = byts acc ++ [.int .u8 ((val hh : Nat) : Int)] := by simp [byts]
            rw [e, List.length_append]; exact hown4
          · simp [intOf]; omega
        · have hlt8 : rem.length < 3 := by omega
          have hal2 : acc.length * 8 + (rem ++ bitsW 5 v).length = 5 * (k + 1) := by omega
          have hlenI : (((rem ++ bitsW 5 v).length : Nat) : Int) = (rem.length : Int) + 5 := by omega
          have hr8 : (rem ++ bitsW 5 v).length < 8 := by omega
          clear h8 hrl hrl2 HBL HG HBin h1 h2 h3 HY hal
          generalize hX : rem ++ bitsW 5 v = X at *
          clear hX
          go_wp2_with (go_at_call 62; refine (indexByteX d y _).mono ?_; rintro e w2 ⟨rfl, rfl⟩; rw [HIX.out])
          refine ⟨⟨k + 1, acc, P, X, by go_num, by first | rfl | rw [hor], by rw [hlenI], hlt, hr8, HB2, hal2, HPL, HAC, HA256, HBL2, HG2, hown, ⟨_, _, rfl⟩, hBr⟩, ?_⟩
          simp [intOf]; omega
      · have HF : Hid (fromB 5 d t = none) := fromB_bad hlt (by rw [HY]; exact h1)
        obtain ⟨z, hz⟩ : ∃ z, ixI d y = z := ⟨_, rfl⟩
        have HIX : Hid (ixI d y = z) := hz
        rw [hz] at h2
        clear h1 HY hz HBL HG HPL HAC HA256
        go_wp2_with (go_at_call 62; refine (indexByteX d y _).mono ?_; rintro e w2 ⟨rfl, rfl⟩; rw [HIX.out])
        go_ret2
        exact ⟨by rw [HF.out]; rfl, hBr⟩
    · have hkb : k = t.size := by omega
      subst hkb
      have HFE := fromB_end (W := 5) HG.out HBL.out HPL.out hrl
      by_cases h5 : 5 ≤ rem.length
      · have HF : Hid (fromB 5 d t = none) := by unfold Hid; rw [HFE, if_neg (by omega)]
        clear HFE HBL HG HPL HAC HA256 HBin
        go_wp2
        go_ret2
        exact ⟨by rw [HF.out]; rfl, hBr⟩
      · have h5' : rem.length < 5 := by omega
        by_cases hv0 : val rem = 0
        · have HF : Hid (fromB 5 d t = some acc) := by unfold Hid; rw [HFE, if_pos ⟨h5', hv0⟩, ← HAC.out]
          have hz := bts_size acc
          have hcv : (convert 56 9 (.slice (some ⟨gs, 0, none⟩) acc.length cs)).run Tryz.prog wr = .ok (.string (bts acc)) wr := by
            have h := owns_str (t := bts acc) (w := wr) (base := w1.heap.size) (g := gs) (cap := cs) (by rw [hz, bts_cells _ HA256.out]; exact hown)
            rw [hz] at h; exact h
          rw [hv0]
          clear HFE HBL HG HPL HAC HA256 HBin hz h5 hvl hv0
          go_wp2
          go_ret2
          exact ⟨by rw [HF.out]; rfl, hBr⟩
        · have HF : Hid (fromB 5 d t = none) := by unfold Hid; rw [HFE, if_neg (by omega)]
          have hv1 : (((val rem : Nat) : Int) != 0) = true := by rw [bne_iff_ne]; omega
          have hv2 : (((val rem : Nat) : Int) == 0) = false := by rw [beq_eq_false_iff_ne]; omega
          clear HFE HBL HG HPL HAC HA256 HBin h5
          go_wp2
          go_ret2
          exact ⟨by rw [HF.out]; rfl, hBr⟩
end Go.Proofs.YtiaccimdjfdkgaaGreatDoor

namespace Go.Proofs.YtiaccimdjfdkgaaGreatDoor
set_option linter.unusedVariables false
open Go.RowKit Go.Shelf Go.Proofs.YtiaccimdjfdkgaaGreatDoor.Nm

/-- data.To32 -/
theorem to32_any (b : ByteArray) (w : World) (hb : b.size ≤ 1048576) :
    Calls Tryz.prog 287 #[.string b] w fun e w' => e = .returned (.string (to32B b)) ∧ Below w.heap.size w w' := by
  have H := hide' (fun w => toDigits5 b d32 w hb d32_size)
  go_enter Tryz.func287, Tryz.ntmps287
  go_wp2_with (go_at_call 236; refine (H.out _).mono ?_; rintro e w1 ⟨rfl, hB1⟩)
  go_ret
  exact ⟨rfl, hB1⟩

/-- data.From32 -/
theorem from32_any (s : ByteArray) (w : World) (hs : s.size ≤ 4194304) :
    Calls Tryz.prog 286 #[.string s] w fun e w' => e = fromEnd (fromB 5 d32 (lowB s)) ∧ Below w.heap.size w w' := by
  have H := hide' (fun w => fromDigits5 (lowB s) d32 w (by rw [lowB_size]; omega) d32_size)
  have HS := hide' (fun w => small_big s w hs)
  cases hf : fromB 5 d32 (lowB s) with
  | none =>
    rw [hf] at H
    go_enter Tryz.func286, Tryz.ntmps286
    go_wp2_with (first
      | (go_at_call 60; refine (HS.out _).mono ?_; rintro e w1 ⟨rfl, hB1⟩)
      | (go_at_call 156; refine (H.out _).mono ?_; rintro e w2 ⟨rfl, hB2⟩; simp only [fromEnd]))
    go_ret2
    exact ⟨rfl, bstep hB1 hB2 hB1.size⟩
  | some l =>
    rw [hf] at H
    go_enter Tryz.func286, Tryz.ntmps286
    go_wp2_with (first
      | (go_at_call 60; refine (HS.out _).mono ?_; rintro e w1 ⟨rfl, hB1⟩)
      | (go_at_call 156; refine (H.out _).mono ?_; rintro e w2 ⟨rfl, hB2⟩; simp only [fromEnd]))
    go_ret2
    exact ⟨rfl, bstep hB1 hB2 hB1.size⟩
end Go.Proofs.YtiaccimdjfdkgaaGreatDoor
