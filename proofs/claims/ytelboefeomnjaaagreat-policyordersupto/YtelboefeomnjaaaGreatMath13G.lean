import Derived.Test.YtelboefeomnjaaaGreatMath8G
import Derived.Lib.AppendStr
namespace Go.Proofs.YtelboefeomnjaaaGreat.Nm
set_option linter.unusedVariables false

end Go.Proofs.YtelboefeomnjaaaGreat.Nm

namespace Go.Proofs.YtelboefeomnjaaaGreat.Nm
set_option linter.unusedVariables false

def marks : ByteArray := ⟨#[46, 92, 34, 40, 41, 59, 64, 36]⟩
end Go.Proofs.YtelboefeomnjaaaGreat.Nm

namespace Go.Proofs.YtelboefeomnjaaaGreat.Nm
set_option linter.unusedVariables false

/-- noughts and ones as a number, the highest first -/
def val (l : List Nat) : Nat := l.foldl (fun v b => 2 * v + b) 0
def Bin (l : List Nat) : Prop := ∀ x ∈ l, x < 2
theorem Bin.left {a b : List Nat} (h : Bin (a ++ b)) : Bin a := fun x hx => h x (List.mem_append_left _ hx)
theorem Bin.right {a b : List Nat} (h : Bin (a ++ b)) : Bin b := fun x hx => h x (List.mem_append_right _ hx)
theorem Bin.append {a b : List Nat} (h : Bin a) (k : Bin b) : Bin (a ++ b) := fun x hx => (List.mem_append.1 hx).elim (h x) (k x)
theorem Bin.take {a : List Nat} (h : Bin a) (k : Nat) : Bin (a.take k) := fun x hx => h x (List.mem_of_mem_take hx)
theorem Bin.drop {a : List Nat} (h : Bin a) (k : Nat) : Bin (a.drop k) := fun x hx => h x (List.mem_of_mem_drop hx)
/-- a number by w noughts and ones -/
def bitsW : Nat → Nat → List Nat
  | 0, _ => []
  | w + 1, v => bitsW w (v / 2) ++ [v % 2]
theorem bitsW_len : ∀ w v, (bitsW w v).length = w
  | 0, _ => rfl
  | w + 1, v => by simp [bitsW, bitsW_len w]
theorem bitsW_get : ∀ (w v i : Nat), i < w → (bitsW w v)[i]? = some (v / 2 ^ (w - 1 - i) % 2)
  | 0, _, _, h => by omega
  | w + 1, v, i, h => by
    simp only [bitsW]
    by_cases e : i < w
    · rw [List.getElem?_append_left (by rw [bitsW_len]; exact e), bitsW_get w (v / 2) i e, Nat.div_div_eq_div_mul]
      congr 3
      rw [show w + 1 - 1 - i = (w - 1 - i) + 1 by omega, Nat.pow_succ, Nat.mul_comm]
    · have : i = w := by omega
      subst this
      rw [List.getElem?_append_right (by rw [bitsW_len]; exact Nat.le_refl _), bitsW_len]
      simp
def bitsL (w : Nat) (l : List Nat) : List Nat := l.flatMap (bitsW w)
theorem bitsL_snoc (w : Nat) (l : List Nat) (x : Nat) : bitsL w (l ++ [x]) = bitsL w l ++ bitsW w x := by simp [bitsL]
theorem bitsL_len (w : Nat) : ∀ l : List Nat, (bitsL w l).length = w * l.length
  | [] => by simp [bitsL]
  | x :: l => by
    have := bitsL_len w l
    have e : bitsL w (x :: l) = bitsW w x ++ bitsL w l := by simp [bitsL]
    rw [e, List.length_append, bitsW_len, this, List.length_cons, Nat.mul_succ]; omega
/-- noughts and ones by so many to a number; the last one is filled with noughts -/
def codeF (w : Nat) : Nat → List Nat → List Nat
  | 0, _ => []
  | f + 1, bs => if bs = [] then [] else val (bs.take w ++ List.replicate (w - bs.length) 0) :: codeF w f (bs.drop w)
def codeP (w : Nat) (bs : List Nat) : List Nat := codeF w bs.length bs
/-- a text's bytes as a list -/
def lst (x : ByteArray) (k : Nat) : List Nat := (List.range k).map (bt x)
theorem lst_succ (x : ByteArray) (k : Nat) : lst x (k + 1) = lst x k ++ [bt x k] := by simp [lst, List.range_succ]
theorem lst_len (x : ByteArray) (k : Nat) : (lst x k).length = k := by simp [lst]
end Go.Proofs.YtelboefeomnjaaaGreat.Nm
