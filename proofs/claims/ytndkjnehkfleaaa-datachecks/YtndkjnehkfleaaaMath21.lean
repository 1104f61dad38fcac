import Derived.Test.YtndkjnehkfleaaaMath20
import Derived.Lib.Bytealg
import Derived.Lib.IndexLaws
namespace Go.Proofs.Ytndkjnehkfleaaa.Nm
set_option linter.unusedVariables false
open Go

/-- where a byte stands among digits -/
def ixI (d : ByteArray) (c : Nat) : Int := Lib.indexByte d.data.toList (c : Int).toNat.toUInt8
def ixN (d : ByteArray) (c : Nat) : Option Nat := if 0 ≤ ixI d c then some (ixI d c).toNat else none
def ixv (d : ByteArray) (c : Nat) : Nat := (ixN d c).getD 0
theorem ix_cases (d : ByteArray) {c : Nat} (hc : c < 256) : (∃ v : Nat, ixN d c = some v ∧ ixv d c = v ∧ ixI d c = v ∧ v < d.size ∧ bt d v = c) ∨ (ixN d c = none ∧ ixI d c < 0) := by
  by_cases h : 0 ≤ ixI d c
  · left
    obtain ⟨v, hv⟩ := Int.eq_ofNat_of_zero_le h
    have hN : ixN d c = some v := by unfold ixN; rw [if_pos h, hv]; rfl
    have h2 := (Lib.indexByte_some (l := d.data.toList) (c := (c : Int).toNat.toUInt8) (o := v) hv).1
    obtain ⟨hlt, he⟩ := List.getElem?_eq_some_iff.1 h2
    have hlt' : v < d.size := by simpa using hlt
    refine ⟨v, hN, by unfold ixv; rw [hN]; rfl, hv, hlt', ?_⟩
    have := bt_list d v hlt'
    rw [he] at this
    rw [← this]
    show (UInt8.ofNat c).toNat = c
    rw [UInt8.toNat_ofNat']; omega
  · right
    exact ⟨by unfold ixN; rw [if_neg h], by omega⟩
theorem ixv_lt {d : ByteArray} {W c : Nat} (hd : d.size = 2 ^ W) (hc : c < 256) : ixv d c < 2 ^ W := by
  rcases ix_cases d hc with ⟨v, h1, h2, _, h3, _⟩ | ⟨h, _⟩
  · rw [h2]; omega
  · unfold ixv; rw [h]; exact Nat.two_pow_pos _

theorem codeP_mul {w : Nat} (hw : 0 < w) : ∀ (m : Nat) (P b : List Nat), P.length = w * m → codeP w (P ++ b) = codeP w P ++ codeP w b
  | 0, P, b, h => by
    have : P = [] := List.length_eq_zero_iff.1 (by simpa using h)
    subst this; rfl
  | m + 1, P, b, h => by
    rw [Nat.mul_succ] at h
    have e := List.take_append_drop w P
    have hl : (P.take w).length = w := by rw [List.length_take]; omega
    have hr : (P.drop w).length = w * m := by rw [List.length_drop]; omega
    rw [← e, List.append_assoc, codeP_full hw _ _ hl, codeP_full hw _ _ hl, codeP_mul hw m _ b hr]; rfl

/-- what a text of digits tells: none, if one is no digit, if a digit wasn't needed, or if what is left over isn't nought -/
def fromB (W : Nat) (d t : ByteArray) : Option (List Nat) :=
  if (lst t t.size).any (fun c => (ixN d c).isNone) = true then none
  else
    if ((bitsL W ((lst t t.size).map (ixv d))).drop (8 * ((bitsL W ((lst t t.size).map (ixv d))).length / 8))).length < W ∧ val ((bitsL W ((lst t t.size).map (ixv d))).drop (8 * ((bitsL W ((lst t t.size).map (ixv d))).length / 8))) = 0
    then some (codeP 8 ((bitsL W ((lst t t.size).map (ixv d))).take (8 * ((bitsL W ((lst t t.size).map (ixv d))).length / 8)))) else none
theorem fromB_bad {W : Nat} {d t : ByteArray} {j : Nat} (hj : j < t.size) (h : ixN d (bt t j) = none) : fromB W d t = none := by
  unfold fromB
  rw [if_pos]
  rw [List.any_eq_true]
  refine ⟨bt t j, ?_, by rw [h]; rfl⟩
  exact List.mem_map.2 ⟨j, List.mem_range.2 hj, rfl⟩
theorem fromB_end {W : Nat} {d t : ByteArray} {P rem : List Nat} {m : Nat} (hg : ∀ j, j < t.size → ixN d (bt t j) ≠ none) (hA : bitsL W ((lst t t.size).map (ixv d)) = P ++ rem) (hP : P.length = 8 * m) (hr : rem.length < 8) :
    fromB W d t = if rem.length < W ∧ val rem = 0 then some (codeP 8 P) else none := by
  unfold fromB
  have hL : (P ++ rem).length / 8 = m := by rw [List.length_append, hP]; omega
  rw [if_neg, hA, hL, ← hP, List.drop_left, List.take_left]
  rw [Bool.not_eq_true, List.any_eq_false]
  intro c hc
  obtain ⟨j, hj, rfl⟩ := List.mem_map.1 hc
  have := hg j (List.mem_range.1 hj)
  cases h : ixN d (bt t j) with
  | none => exact absurd h this
  | some v => simp
theorem lst_take_map (d t : ByteArray) (k : Nat) : bitsL 5 ((lst t (k + 1)).map (ixv d)) = bitsL 5 ((lst t k).map (ixv d)) ++ bitsW 5 (ixv d (bt t k)) := by
  rw [lst_succ, List.map_append, List.map_singleton, bitsL_snoc]
end Go.Proofs.Ytndkjnehkfleaaa.Nm
