import Derived.Test.YtiaccimdjfdkgaaGreatDoorBt1G
import Derived.Test.YtiaccimdjfdkgaaGreatDoorPrW
import Derived.Laws.BytesString
namespace Go.Proofs.YtiaccimdjfdkgaaGreatDoor
set_option linter.unusedVariables false
open Go.RowKit Go.Shelf Go.Proofs.YtiaccimdjfdkgaaGreatDoor.Nm

theorem Tryz.infoInt : (Tryz.prog.info? 3).map (fun i => (i.zero, i.size, i.bytes)) = some (some (.int .i64 0), 1, 8) := by kernel_rfl

/-- numbers in memory -/
def NumsAt (w : World) (p : Option Addr) (l : List Nat) : Prop := ∀ k (h : k < l.length), ∃ g off, p = some ⟨g, off, none⟩ ∧ g < w.heap.size ∧ w.cell? ⟨g, off + k, none⟩ = some (.int .i64 (l[k] : Nat))
theorem NumsAt.below {w w' : World} {p : Option Addr} {l : List Nat} (h : NumsAt w p l) (hb : Below w.heap.size w w') : NumsAt w' p l := fun k hk => by
  obtain ⟨g, off, h1, h2, h3⟩ := h k hk
  exact ⟨g, off, h1, Nat.lt_of_lt_of_le h2 hb.size, (hb.cell (p := ⟨g, off + k, none⟩) h2).trans h3⟩
abbrev nums (l : List Nat) : List Value := l.map (fun x : Nat => Value.int .i64 (x : Int))
theorem NumsAt.of_owns {w : World} {base n : Nat} {v : Value} {l : List Nat} (h : w.ownsRow base 3 1 v n (nums l)) (hn : n = l.length) : ∃ p c, v = .slice p n c ∧ NumsAt w p l ∧ n ≤ c ∧ c ≤ 9223372036854775807 := by
  obtain ⟨hl, (⟨rfl, rfl⟩ | ⟨g, cap, cur, rfl, hb, hg, hnc, hcap, hsz, ht⟩)⟩ := h
  · exact ⟨none, 0, rfl, fun k hk => by omega, Nat.le_refl _, by omega⟩
  · refine ⟨_, cap, rfl, fun k hk => ⟨g, 0, rfl, (Array.getElem?_eq_some_iff.1 hg).1, ?_⟩, hnc, by unfold maxLen at hcap; omega⟩
    have := World.ownsRow.cellAt (w := w) (base := base) (e := 3) (size := 1) (g := g) (n := n) (cap := cap) (xs := nums l) ⟨hl, .inr ⟨g, cap, cur, rfl, hb, hg, hnc, hcap, hsz, ht⟩⟩ k (by omega)
    rw [Nat.zero_add, this, List.getElem?_map, List.getElem?_eq_getElem hk]
    rfl

end Go.Proofs.YtiaccimdjfdkgaaGreatDoor

namespace Go.Proofs.YtiaccimdjfdkgaaGreatDoor
set_option linter.unusedVariables false
open Go.RowKit Go.Shelf Go.Proofs.YtiaccimdjfdkgaaGreatDoor.Nm

def slen : Value → Nat
  | .slice _ n _ => n
  | _ => 0
/-- the first k, filled with noughts -/
def pd (l : List Nat) (k : Nat) : List Nat := l.take k ++ List.replicate (k - l.length) 0
theorem pd_in {l : List Nat} {k : Nat} (h : k < l.length) : pd l (k + 1) = pd l k ++ [l[k]] := by
  unfold pd
  rw [List.take_succ_eq_append_getElem h, show k + 1 - l.length = 0 by omega, show k - l.length = 0 by omega]; simp
theorem pd_out {l : List Nat} {k : Nat} (h : l.length ≤ k) : pd l (k + 1) = pd l k ++ [0] := by
  unfold pd
  rw [List.take_of_length_le (by omega), List.take_of_length_le h, show k + 1 - l.length = (k - l.length) + 1 by omega, List.replicate_succ', List.append_assoc]
theorem pd_bin {l : List Nat} (h : Bin l) (k : Nat) : Bin (pd l k) := (h.take k).append (bin_zeros _)
theorem pd_len (l : List Nat) (k : Nat) : (pd l k).length = k := by unfold pd; rw [List.length_append, List.length_take, List.length_replicate]; omega
theorem NumsAt.drop {w : World} {g off : Nat} {l : List Nat} (h : NumsAt w (some ⟨g, off, none⟩) l) (n : Nat) : NumsAt w (some ⟨g, off + n, none⟩) (l.drop n) := fun k hk => by
  obtain ⟨g', o', h1, h2, h3⟩ := h (n + k) (by rw [List.length_drop] at hk; omega)
  simp at h1
  obtain ⟨rfl, rfl⟩ := h1
  refine ⟨g, off + n, rfl, h2, ?_⟩
  rw [show off + n + k = off + (n + k) by omega, h3]; simp

/-- 'string(b)' of none -/
theorem nil_str (w : World) (c : Nat) : (convert 56 9 (.slice none 0 c)).run Tryz.prog w = .ok (.string ByteArray.empty) w := by
  rw [run_convert_bytes_string w 56 9 5 none 0 c Tryz.underlying56 Tryz.underlying5 Tryz.underlying9]
  rfl

end Go.Proofs.YtiaccimdjfdkgaaGreatDoor

namespace Go.Proofs.YtiaccimdjfdkgaaGreatDoor
set_option linter.unusedVariables false
open Go.RowKit Go.Shelf Go.Proofs.YtiaccimdjfdkgaaGreatDoor.Nm

theorem val_zero : ∀ {l : List Nat}, (∀ x ∈ l, x = 0) → val l = 0
  | [], _ => rfl
  | x :: l, h => by rw [val_cons, h x (List.mem_cons_self ..), val_zero (l := l) (fun y hy => h y (List.mem_cons_of_mem _ hy))]; simp
theorem val_pos : ∀ {l : List Nat} {x : Nat}, x ∈ l → x ≠ 0 → val l ≠ 0
  | y :: l, x, hx, h0 => by
    rw [val_cons]
    have hp : 0 < 2 ^ l.length := Nat.two_pow_pos _
    rcases List.mem_cons.1 hx with rfl | hx
    · have : 0 < x * 2 ^ l.length := Nat.mul_pos (by omega) hp
      omega
    · have := val_pos hx h0
      omega

/-- what whole hands back -/
def wholeRes (l : List Nat) (most : Nat) (e : Ending) : Prop :=
  ∃ P rem m, l = P ++ rem ∧ P.length = 8 * m ∧ rem.length < 8 ∧ e = .returned (.tuple #[.string (if val rem = 0 then bts (codeP 8 P) else ByteArray.empty), .bool (decide (val rem = 0 ∧ rem.length < most))])

end Go.Proofs.YtiaccimdjfdkgaaGreatDoor
