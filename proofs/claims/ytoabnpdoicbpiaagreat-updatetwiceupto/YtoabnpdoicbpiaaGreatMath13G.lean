import Derived.Test.YtoabnpdoicbpiaaGreatMath8G
import Derived.Lib.AppendStr
import Derived.Lib.Bytealg
import Derived.Lib.IndexLaws
namespace Go.Proofs.YtoabnpdoicbpiaaGreat.Nm
set_option linter.unusedVariables false
end Go.Proofs.YtoabnpdoicbpiaaGreat.Nm
namespace Go.Proofs.YtoabnpdoicbpiaaGreat.Nm
set_option linter.unusedVariables false
def bts (l : List Nat) : ByteArray := ⟨(l.map UInt8.ofNat).toArray⟩
theorem bts_size (l : List Nat) : (bts l).size = l.length := by
 show (l.map UInt8.ofNat).toArray.size = _
 simp
theorem bts_bt (l : List Nat) (h : ∀ x ∈ l, x < 256) (j : Nat) (hj : j < l.length) : bt (bts l) j = l[j] := by
 have hz := bts_size l
 rw [← bt_eq (s := bts l) (by omega)]
 have e : (bts l)[j]'(by omega) = UInt8.ofNat l[j] := by
  have h2 : (l.map UInt8.ofNat).toArray[j]'(by simpa using hj) = UInt8.ofNat l[j] := by simp
  exact h2
 rw [e, UInt8.toNat_ofNat', Nat.mod_eq_of_lt (h _ (List.getElem_mem hj))]
def marks : ByteArray := ⟨#[46, 92, 34, 40, 41, 59, 64, 36]⟩
end Go.Proofs.YtoabnpdoicbpiaaGreat.Nm
namespace Go.Proofs.YtoabnpdoicbpiaaGreat.Nm
set_option linter.unusedVariables false
def val (l : List Nat) : Nat := l.foldl (fun v b => 2 * v + b) 0
def Bin (l : List Nat) : Prop := ∀ x ∈ l, x < 2
theorem Bin.left {a b : List Nat} (h : Bin (a ++ b)) : Bin a := fun x hx => h x (List.mem_append_left _ hx)
theorem Bin.right {a b : List Nat} (h : Bin (a ++ b)) : Bin b := fun x hx => h x (List.mem_append_right _ hx)
theorem Bin.append {a b : List Nat} (h : Bin a) (k : Bin b) : Bin (a ++ b) := fun x hx => (List.mem_append.1 hx).elim (h x) (k x)
theorem Bin.take {a : List Nat} (h : Bin a) (k : Nat) : Bin (a.take k) := fun x hx => h x (List.mem_of_mem_take hx)
theorem Bin.drop {a : List Nat} (h : Bin a) (k : Nat) : Bin (a.drop k) := fun x hx => h x (List.mem_of_mem_drop hx)
def bitsW : Nat → Nat → List Nat
 | 0, _ => []
 | w + 1, v => bitsW w (v / 2) ++ [v % 2]
theorem bitsW_len : ∀ w v, (bitsW w v).length = w
 | 0, _ => rfl
 | w + 1, v => by simp [bitsW, bitsW_len w]
theorem bitsW_get : ∀ (w v i : Nat), i < w → (bitsW w v)[i]? = some (v / 2 ^ (w - 1 - i) % 2)
 | 0, _, _, h => by omega
 | w + 1, v, i, h => by
  simp only [bitsW]
  by_cases e : i < w
  ·rw [List.getElem?_append_left (by rw [bitsW_len]; exact e), bitsW_get w (v / 2) i e, Nat.div_div_eq_div_mul]
   congr 3
   rw [show w + 1 - 1 - i = (w - 1 - i) + 1 by omega, Nat.pow_succ, Nat.mul_comm]
  ·have : i = w := by omega
   subst this
   rw [List.getElem?_append_right (by rw [bitsW_len]; exact Nat.le_refl _), bitsW_len]
   simp
def bitsL (w : Nat) (l : List Nat) : List Nat := l.flatMap (bitsW w)
theorem bitsL_snoc (w : Nat) (l : List Nat) (x : Nat) : bitsL w (l ++ [x]) = bitsL w l ++ bitsW w x := by simp [bitsL]
theorem bitsL_len (w : Nat) : ∀ l : List Nat, (bitsL w l).length = w * l.length
 | [] => by simp [bitsL]
 | x :: l => by
  have := bitsL_len w l
  have e : bitsL w (x :: l) = bitsW w x ++ bitsL w l := by simp [bitsL]
  rw [e, List.length_append, bitsW_len, this, List.length_cons, Nat.mul_succ]; omega
def lst (x : ByteArray) (k : Nat) : List Nat := (List.range k).map (bt x)
theorem lst_succ (x : ByteArray) (k : Nat) : lst x (k + 1) = lst x k ++ [bt x k] := by simp [lst, List.range_succ]
theorem lst_len (x : ByteArray) (k : Nat) : (lst x k).length = k := by simp [lst]
end Go.Proofs.YtoabnpdoicbpiaaGreat.Nm
namespace Go.Proofs.YtoabnpdoicbpiaaGreat.Nm
set_option linter.unusedVariables false
open Go
def ixI (d : ByteArray) (c : Nat) : Int := Lib.indexByte d.data.toList (c : Int).toNat.toUInt8
def ixN (d : ByteArray) (c : Nat) : Option Nat := if 0 ≤ ixI d c then some (ixI d c).toNat else none
end Go.Proofs.YtoabnpdoicbpiaaGreat.Nm
namespace Go.Proofs.YtoabnpdoicbpiaaGreat.Nm
set_option linter.unusedVariables false
end Go.Proofs.YtoabnpdoicbpiaaGreat.Nm
