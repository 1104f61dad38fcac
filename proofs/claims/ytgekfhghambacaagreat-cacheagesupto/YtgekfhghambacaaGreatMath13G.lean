import Derived.Test.YtgekfhghambacaaGreatMath8G
import Derived.Lib.AppendStr
import Derived.Lib.Bytealg
import Derived.Lib.IndexLaws
namespace Go.Proofs.YtgekfhghambacaaGreat.Nm
set_option linter.unusedVariables false

end Go.Proofs.YtgekfhghambacaaGreat.Nm

namespace Go.Proofs.YtgekfhghambacaaGreat.Nm
set_option linter.unusedVariables false

/-- bytes as a text -/
def bts (l : List Nat) : ByteArray := ⟨(l.map UInt8.ofNat).toArray⟩
theorem bts_size (l : List Nat) : (bts l).size = l.length := by
  show (l.map UInt8.ofNat).toArray.size = _
  simp
theorem bts_bt (l : List Nat) (h : ∀ x ∈ l, x < 256) (j : Nat) (hj : j < l.length) : bt (bts l) j = l[j] := by
  have hz := bts_size l
  rw [← bt_eq (s := bts l) (by omega)]
  have e : (bts l)[j]'(by omega) = UInt8.ofNat l[j] := by
    have h2 : (l.map UInt8.ofNat).toArray[j]'(by simpa using hj) = UInt8.ofNat l[j] := by simp
    exact h2
  rw [e, UInt8.toNat_ofNat', Nat.mod_eq_of_lt (h _ (List.getElem_mem hj))]
def marks : ByteArray := ⟨#[46, 92, 34, 40, 41, 59, 64, 36]⟩
theorem bts_cells (l : List Nat) (h : ∀ x ∈ l, x < 256) : Go.Lib.strCells (bts l) = l.map (fun x : Nat => Go.Value.int .u8 (x : Int)) := by
  unfold Go.Lib.strCells bts
  simp only [List.map_map]
  apply List.map_congr_left
  intro x hx
  simp only [Function.comp]
  rw [UInt8.toNat_ofNat', Nat.mod_eq_of_lt (h x hx)]

end Go.Proofs.YtgekfhghambacaaGreat.Nm

namespace Go.Proofs.YtgekfhghambacaaGreat.Nm
set_option linter.unusedVariables false

/-- noughts and ones as a number, the highest first -/
def val (l : List Nat) : Nat := l.foldl (fun v b => 2 * v + b) 0
theorem foldl_val (l : List Nat) : ∀ a : Nat, l.foldl (fun v b => 2 * v + b) a = a * 2 ^ l.length + val l := by
  induction l with
  | nil => intro a; simp [val]
  | cons x l ih =>
    intro a
    have h1 := ih (2 * a + x)
    have h2 := ih (2 * 0 + x)
    unfold val
    simp only [List.foldl_cons, List.length_cons]
    rw [h1, h2, Nat.pow_succ]
    simp only [Nat.add_mul, Nat.mul_zero, Nat.zero_add]
    rw [show 2 * a * 2 ^ l.length = a * (2 ^ l.length * 2) by rw [Nat.mul_comm 2 a, Nat.mul_assoc, Nat.mul_comm 2 (2 ^ l.length)]]
    omega
theorem val_append (a b : List Nat) : val (a ++ b) = val a * 2 ^ b.length + val b := by
  unfold val; rw [List.foldl_append]; exact foldl_val b _
theorem val_snoc (a : List Nat) (x : Nat) : val (a ++ [x]) = 2 * val a + x := by rw [val_append]; simp [val]; omega
def Bin (l : List Nat) : Prop := ∀ x ∈ l, x < 2
theorem Bin.left {a b : List Nat} (h : Bin (a ++ b)) : Bin a := fun x hx => h x (List.mem_append_left _ hx)
theorem Bin.right {a b : List Nat} (h : Bin (a ++ b)) : Bin b := fun x hx => h x (List.mem_append_right _ hx)
theorem Bin.append {a b : List Nat} (h : Bin a) (k : Bin b) : Bin (a ++ b) := fun x hx => (List.mem_append.1 hx).elim (h x) (k x)
theorem Bin.take {a : List Nat} (h : Bin a) (k : Nat) : Bin (a.take k) := fun x hx => h x (List.mem_of_mem_take hx)
theorem Bin.drop {a : List Nat} (h : Bin a) (k : Nat) : Bin (a.drop k) := fun x hx => h x (List.mem_of_mem_drop hx)
theorem val_cons (x : Nat) (l : List Nat) : val (x :: l) = x * 2 ^ l.length + val l := by
  rw [show x :: l = [x] ++ l from rfl, val_append]
  congr 2
  simp [val]
theorem val_lt : ∀ {l : List Nat}, Bin l → val l < 2 ^ l.length
  | [], _ => by decide
  | x :: l, h => by
    have h1 := val_lt (l := l) (fun y hy => h y (List.mem_cons_of_mem _ hy))
    have h2 := h x (List.mem_cons_self ..)
    rw [val_cons, List.length_cons, Nat.pow_succ]
    have : x = 0 ∨ x = 1 := by omega
    rcases this with rfl | rfl <;> omega
/-- a number by w noughts and ones -/
def bitsW : Nat → Nat → List Nat
  | 0, _ => []
  | w + 1, v => bitsW w (v / 2) ++ [v % 2]
theorem bitsW_len : ∀ w v, (bitsW w v).length = w
  | 0, _ => rfl
  | w + 1, v => by simp [bitsW, bitsW_len w]
theorem bitsW_bin : ∀ w v, Bin (bitsW w v)
  | 0, _ => fun x hx => by cases hx
  | w + 1, v => (bitsW_bin w _).append (fun x hx => by simp at hx; omega)
theorem val_bitsW : ∀ w v, v < 2 ^ w → val (bitsW w v) = v
  | 0, v, h => by simp at h; subst h; rfl
  | w + 1, v, h => by
    rw [Nat.pow_succ] at h
    simp only [bitsW]
    rw [val_snoc, val_bitsW w (v / 2) (by omega)]
    omega
def bitsL (w : Nat) (l : List Nat) : List Nat := l.flatMap (bitsW w)
theorem bitsL_snoc (w : Nat) (l : List Nat) (x : Nat) : bitsL w (l ++ [x]) = bitsL w l ++ bitsW w x := by simp [bitsL]
/-- noughts and ones by so many to a number; the last one is filled with noughts -/
def codeF (w : Nat) : Nat → List Nat → List Nat
  | 0, _ => []
  | f + 1, bs => if bs = [] then [] else val (bs.take w ++ List.replicate (w - bs.length) 0) :: codeF w f (bs.drop w)
theorem codeF_fuel {w : Nat} (hw : 0 < w) : ∀ (f g : Nat) (bs : List Nat), bs.length ≤ f → bs.length ≤ g → codeF w f bs = codeF w g bs
  | 0, 0, bs, _, _ => rfl
  | 0, g + 1, bs, hf, _ => by
    have : bs = [] := List.length_eq_zero_iff.1 (by omega)
    simp [codeF, this]
  | f + 1, 0, bs, _, hg => by
    have : bs = [] := List.length_eq_zero_iff.1 (by omega)
    simp [codeF, this]
  | f + 1, g + 1, bs, hf, hg => by
    simp only [codeF]
    by_cases h : bs = []
    · rw [if_pos h, if_pos h]
    · have hp : 0 < bs.length := List.length_pos_iff.2 h
      rw [if_neg h, if_neg h, codeF_fuel hw f g _ (by rw [List.length_drop]; omega) (by rw [List.length_drop]; omega)]
def codeP (w : Nat) (bs : List Nat) : List Nat := codeF w bs.length bs
theorem codeP_nil (w : Nat) : codeP w [] = [] := rfl
theorem codeP_step {w : Nat} (hw : 0 < w) {bs : List Nat} (h : bs ≠ []) : codeP w bs = val (bs.take w ++ List.replicate (w - bs.length) 0) :: codeP w (bs.drop w) := by
  have hp : 0 < bs.length := List.length_pos_iff.2 h
  unfold codeP
  obtain ⟨n, hn⟩ : ∃ n, bs.length = n + 1 := ⟨bs.length - 1, by omega⟩
  rw [hn]
  simp only [codeF]
  rw [if_neg h, hn, codeF_fuel hw n (bs.drop w).length _ (by rw [List.length_drop]; omega) (Nat.le_refl _)]
theorem codeP_full {w : Nat} (hw : 0 < w) (a b : List Nat) (ha : a.length = w) : codeP w (a ++ b) = val a :: codeP w b := by
  have hne : a ++ b ≠ [] := fun e => by
    have h := congrArg List.length e
    rw [List.length_append, List.length_nil] at h
    omega
  rw [codeP_step hw hne, List.length_append, show w - (a.length + b.length) = 0 by omega]
  have e1 : (a ++ b).take w = a := by rw [← ha, List.take_left]
  have e2 : (a ++ b).drop w = b := by rw [← ha, List.drop_left]
  rw [e1, e2]; simp
/-- a text's bytes as a list -/
def lst (x : ByteArray) (k : Nat) : List Nat := (List.range k).map (bt x)
theorem lst_succ (x : ByteArray) (k : Nat) : lst x (k + 1) = lst x k ++ [bt x k] := by simp [lst, List.range_succ]
end Go.Proofs.YtgekfhghambacaaGreat.Nm

namespace Go.Proofs.YtgekfhghambacaaGreat.Nm
set_option linter.unusedVariables false
open Go

/-- where a byte stands among digits -/
def ixI (d : ByteArray) (c : Nat) : Int := Lib.indexByte d.data.toList (c : Int).toNat.toUInt8
def ixN (d : ByteArray) (c : Nat) : Option Nat := if 0 ≤ ixI d c then some (ixI d c).toNat else none
def ixv (d : ByteArray) (c : Nat) : Nat := (ixN d c).getD 0
theorem ix_cases (d : ByteArray) {c : Nat} (hc : c < 256) : (∃ v : Nat, ixN d c = some v ∧ ixv d c = v ∧ ixI d c = v ∧ v < d.size ∧ bt d v = c) ∨ (ixN d c = none ∧ ixI d c < 0) := by
  by_cases h : 0 ≤ ixI d c
  · left
    obtain ⟨v, hv⟩ := Int.eq_ofNat_of_zero_le h
    have hN : ixN d c = some v := by unfold ixN; rw [if_pos h, hv]; rfl
    have h2 := (Lib.indexByte_some (l := d.data.toList) (c := (c : Int).toNat.toUInt8) (o := v) hv).1
    obtain ⟨hlt, he⟩ := List.getElem?_eq_some_iff.1 h2
    have hlt' : v < d.size := by simpa using hlt
    refine ⟨v, hN, by unfold ixv; rw [hN]; rfl, hv, hlt', ?_⟩
    have := bt_list d v hlt'
    rw [he] at this
    rw [← this]
    show (UInt8.ofNat c).toNat = c
    rw [UInt8.toNat_ofNat']; omega
  · right
    exact ⟨by unfold ixN; rw [if_neg h], by omega⟩
theorem codeP_mul {w : Nat} (hw : 0 < w) : ∀ (m : Nat) (P b : List Nat), P.length = w * m → codeP w (P ++ b) = codeP w P ++ codeP w b
  | 0, P, b, h => by
    have : P = [] := List.length_eq_zero_iff.1 (by simpa using h)
    subst this; rfl
  | m + 1, P, b, h => by
    rw [Nat.mul_succ] at h
    have e := List.take_append_drop w P
    have hl : (P.take w).length = w := by rw [List.length_take]; omega
    have hr : (P.drop w).length = w * m := by rw [List.length_drop]; omega
    rw [← e, List.append_assoc, codeP_full hw _ _ hl, codeP_full hw _ _ hl, codeP_mul hw m _ b hr]; rfl

/-- what a text of digits tells: none, if one is no digit, if a digit wasn't needed, or if what is left over isn't nought -/
def fromB (W : Nat) (d t : ByteArray) : Option (List Nat) :=
  if (lst t t.size).any (fun c => (ixN d c).isNone) = true then none
  else
    if ((bitsL W ((lst t t.size).map (ixv d))).drop (8 * ((bitsL W ((lst t t.size).map (ixv d))).length / 8))).length < W ∧ val ((bitsL W ((lst t t.size).map (ixv d))).drop (8 * ((bitsL W ((lst t t.size).map (ixv d))).length / 8))) = 0
    then some (codeP 8 ((bitsL W ((lst t t.size).map (ixv d))).take (8 * ((bitsL W ((lst t t.size).map (ixv d))).length / 8)))) else none
theorem fromB_bad {W : Nat} {d t : ByteArray} {j : Nat} (hj : j < t.size) (h : ixN d (bt t j) = none) : fromB W d t = none := by
  unfold fromB
  rw [if_pos]
  rw [List.any_eq_true]
  refine ⟨bt t j, ?_, by rw [h]; rfl⟩
  exact List.mem_map.2 ⟨j, List.mem_range.2 hj, rfl⟩
theorem fromB_end {W : Nat} {d t : ByteArray} {P rem : List Nat} {m : Nat} (hg : ∀ j, j < t.size → ixN d (bt t j) ≠ none) (hA : bitsL W ((lst t t.size).map (ixv d)) = P ++ rem) (hP : P.length = 8 * m) (hr : rem.length < 8) :
    fromB W d t = if rem.length < W ∧ val rem = 0 then some (codeP 8 P) else none := by
  unfold fromB
  have hL : (P ++ rem).length / 8 = m := by rw [List.length_append, hP]; omega
  rw [if_neg, hA, hL, ← hP, List.drop_left, List.take_left]
  rw [Bool.not_eq_true, List.any_eq_false]
  intro c hc
  obtain ⟨j, hj, rfl⟩ := List.mem_map.1 hc
  have := hg j (List.mem_range.1 hj)
  cases h : ixN d (bt t j) with
  | none => exact absurd h this
  | some v => simp
theorem lst_take_map (d t : ByteArray) (k : Nat) : bitsL 5 ((lst t (k + 1)).map (ixv d)) = bitsL 5 ((lst t k).map (ixv d)) ++ bitsW 5 (ixv d (bt t k)) := by
  rw [lst_succ, List.map_append, List.map_singleton, bitsL_snoc]
end Go.Proofs.YtgekfhghambacaaGreat.Nm

namespace Go.Proofs.YtgekfhghambacaaGreat.Nm
set_option linter.unusedVariables false

def d32 : ByteArray := ⟨#[48, 49, 50, 51, 52, 53, 54, 55, 56, 57, 97, 98, 99, 100, 101, 102, 103, 104, 105, 106, 107, 108, 109, 110, 111, 112, 113, 114, 115, 116, 117, 118]⟩
theorem d32_size : d32.size = 32 := rfl
end Go.Proofs.YtgekfhghambacaaGreat.Nm
