import Derived.Test.YtmbjmokhkonpiaaGreatDoorKs1G
import Derived.Test.YtmbjmokhkonpiaaGreatDoorWkG
import Derived.Shelf.SlIterI.Sorted
import Derived.Shelf.SortM.Plain
import Derived.Shelf.SortM.SortNone
import Derived.Ground.SlgmProg
import Derived.Shelf.RegionOpenPlain
import Derived.Lib.BufferRead
import Derived.Test.YtmbjmokhkonpiaaGreatDoorThG
namespace Go.Proofs.YtmbjmokhkonpiaaGreatDoor
set_option linter.unusedVariables false
open Go.RowKit Go.Shelf Go.Proofs.YtmbjmokhkonpiaaGreatDoor.Nm
end Go.Proofs.YtmbjmokhkonpiaaGreatDoor

namespace Go.Proofs.YtmbjmokhkonpiaaGreatDoor
set_option linter.unusedVariables false
open Go.RowKit Go.Shelf Go.Sort Go.Proofs.YtmbjmokhkonpiaaGreatDoor.Nm

end Go.Proofs.YtmbjmokhkonpiaaGreatDoor

namespace Go.Proofs.YtmbjmokhkonpiaaGreatDoor
set_option linter.unusedVariables false
open Go.RowKit Go.Shelf Go.Proofs.YtmbjmokhkonpiaaGreatDoor.Nm

/-- a set under way: the blocks that are done, the block, its bytes -/
structure SetS where
  done : List Nat
  blk : Int
  marks : List Nat
def SetS.bytes (s : SetS) : List Nat := if s.blk < 0 then s.done else s.done ++ s.blk.toNat :: s.marks.length :: s.marks
def SetS.next (s : SetS) (b : Nat) : SetS := if (b : Int) = s.blk then s else ⟨s.bytes, b, []⟩
def SetS.mark (s : SetS) (m : Nat) : SetS := { s with marks := s.marks.set (s.marks.length - 1) (s.marks.getD (s.marks.length - 1) 0 ||| m) }
/-- a row of bytes as a text -/
theorem str_owns {W : World} {b c : Nat} {p : Option Addr} {xs : List Nat} (h : W.ownsRow b 5 1 (.slice p xs.length c) xs.length (byts xs)) (hx : ∀ x ∈ xs, x < 256) : (convert 34 9 (.slice p xs.length c)).run Tryz.prog W = .ok (.string (bts xs)) W := by
  have hz : (bts xs).size = xs.length := bts_size _
  rcases h.2 with ⟨h1, h0⟩ | ⟨g, cap, cur, h1, _⟩
  · simp at h1
    obtain ⟨rfl, _, rfl⟩ := h1
    have : xs = [] := List.eq_nil_of_length_eq_zero h0
    subst this
    exact Go.Lib.run_convert_nil_bytes W 34 9 5 0 Tryz.underlying34 Tryz.underlying5 Tryz.underlying9
  · simp at h1
    obtain ⟨rfl, rfl⟩ := h1
    have h' := owns_str (t := bts xs) (w := W) (base := b) (g := g) (cap := c) (by rw [hz, bts_cells _ hx]; exact h)
    rw [hz] at h'; exact h'

end Go.Proofs.YtmbjmokhkonpiaaGreatDoor

namespace Go.Proofs.YtmbjmokhkonpiaaGreatDoor
set_option linter.unusedVariables false
open Go.Proofs.YtmbjmokhkonpiaaGreatDoor.Nm

theorem mem_blkT {b : Nat} {s : ByteArray} {x : Nat} : ∀ {k : Nat}, x ∈ blkT b s k ↔ ∃ i, i < k ∧ x = b * 256 + i ∧ bitAt s i = 1
  | 0 => ⟨fun h => (by cases h), fun ⟨i, h, _⟩ => by omega⟩
  | k + 1 => by
    simp only [blkT]
    split
    · rename_i hb
      rw [List.mem_append, mem_blkT (k := k), List.mem_singleton]
      constructor
      · rintro (⟨i, h1, h2, h3⟩ | h)
        · exact ⟨i, by omega, h2, h3⟩
        · exact ⟨k, by omega, h, hb⟩
      · rintro ⟨i, h1, h2, h3⟩
        by_cases h : i = k
        · subst h; exact .inr h2
        · exact .inl ⟨i, by omega, h2, h3⟩
    · rename_i hb
      rw [mem_blkT (k := k)]
      constructor
      · rintro ⟨i, h1, h2, h3⟩; exact ⟨i, by omega, h2, h3⟩
      · rintro ⟨i, h1, h2, h3⟩
        by_cases h : i = k
        · subst h; exact absurd h3 hb
        · exact ⟨i, by omega, h2, h3⟩
theorem rise_blkT {b : Nat} {s : ByteArray} : ∀ {k : Nat}, (blkT b s k).Pairwise (· < ·)
  | 0 => List.Pairwise.nil
  | k + 1 => by
    simp only [blkT]
    split
    · rw [List.pairwise_append]
      refine ⟨rise_blkT, List.pairwise_singleton _ _, fun x hx y hy => ?_⟩
      obtain ⟨i, h1, h2, _⟩ := mem_blkT.1 hx
      rw [List.mem_singleton] at hy
      omega
    · exact rise_blkT
end Go.Proofs.YtmbjmokhkonpiaaGreatDoor

namespace Go.Proofs.YtmbjmokhkonpiaaGreatDoor
set_option linter.unusedVariables false
open Go.Proofs.YtmbjmokhkonpiaaGreatDoor.Nm

end Go.Proofs.YtmbjmokhkonpiaaGreatDoor

namespace Go.Proofs.YtmbjmokhkonpiaaGreatDoor
set_option linter.unusedVariables false
open Go.RowKit Go.Shelf Go.Proofs.YtmbjmokhkonpiaaGreatDoor.Nm

/-- a set's types rise -/
theorem typF_rise : ∀ (f : Nat) (last : Int) (s : ByteArray) (l : List Nat), -1 ≤ last → typF f last s = some l → l.Pairwise (· < ·) ∧ ∀ x ∈ l, (last + 1) * 256 ≤ (x : Int)
  | 0, last, s, l, _, h => by
    unfold typF at h; split at h
    · simp at h; subst h; exact ⟨.nil, fun x hx => by cases hx⟩
    · cases h
  | f + 1, last, s, l, hl, h => by
    unfold typF at h
    split at h
    · simp at h; subst h; exact ⟨.nil, fun x hx => by cases hx⟩
    split at h
    · cases h
    split at h
    · cases h
    rename_i h3
    split at h
    · cases h
    split at h
    · cases h
    cases e : typF f (bt s 0) (s.extract (2 + bt s 1) s.size) with
    | none => rw [e] at h; cases h
    | some q =>
      rw [e] at h
      simp at h
      subst h
      obtain ⟨h5, h6⟩ := typF_rise f _ _ q (by omega) e
      have hb : ∀ x ∈ blkT (bt s 0) (s.extract 2 (2 + bt s 1)) (8 * bt s 1), bt s 0 * 256 ≤ x ∧ x < bt s 0 * 256 + 256 := fun x hx => by
        obtain ⟨i, hi, rfl, _⟩ := mem_blkT.1 hx
        omega
      refine ⟨List.pairwise_append.2 ⟨rise_blkT, h5, fun a ha b hb' => ?_⟩, fun x hx => ?_⟩
      · have h7 := hb a ha
        have h8 := h6 b hb'
        omega
      · rcases List.mem_append.1 hx with h7 | h7
        · have h8 := hb x h7; omega
        · have h8 := h6 x h7; omega
theorem zero_head {s : ByteArray} {l : List Nat} (h : typS (-1) s = some l) (h0 : 0 ∈ l) : l.head? = some 0 := by
  have h1 := (typF_rise _ _ _ _ (by omega) h).1
  cases l with
  | nil => cases h0
  | cons x l =>
    rcases List.mem_cons.1 h0 with rfl | h2
    · rfl
    · exact absurd ((List.pairwise_cons.1 h1).1 0 h2) (by omega)
theorem head_zero {l : List Nat} (h : l.head? = some 0) : 0 ∈ l := by
  cases l with
  | nil => cases h
  | cons x l => simp at h; subst h; exact List.mem_cons_self ..
theorem bitsL_bit (d : ByteArray) : ∀ (n k : Nat), k < 8 * n → (bitsL 8 (lst d n))[k]? = some (bitAt d k)
  | 0, k, h => by omega
  | n + 1, k, h => by
    have hl : (bitsL 8 (lst d n)).length = 8 * n := by rw [bitsL_len, lst_len]
    rw [lst_succ, bitsL_snoc]
    by_cases hk : k < 8 * n
    · rw [List.getElem?_append_left (by omega)]; exact bitsL_bit d n k hk
    · rw [List.getElem?_append_right (by omega), hl, bitsW_get 8 _ _ (by omega)]
      unfold bitAt
      rw [show k / 8 = n by omega, show 8 - 1 - (k - 8 * n) = 7 - k % 8 by omega]
end Go.Proofs.YtmbjmokhkonpiaaGreatDoor
