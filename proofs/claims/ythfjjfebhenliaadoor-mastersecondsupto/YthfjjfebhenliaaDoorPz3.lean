import Derived.Test.YthfjjfebhenliaaDoorPz1
import Derived.Shelf.Strings.IndexAnyAll
import Derived.Shelf.Strings.Runes
import Derived.Laws.RangeAny
import Derived.Laws.Runes
import Derived.Lib.DecodeN
import Derived.Lib.TrimU
import Derived.Ground.NamesProg
import Derived.Deep.QuietTactic
import Derived.BigQuiet
namespace Go.Proofs.YthfjjfebhenliaaDoor
set_option linter.unusedVariables false
open Go.RowKit Go.Shelf Go.Proofs.YthfjjfebhenliaaDoor.Nm

shelf_lay Lays.n153 Nm 153 at Tryd as Tryd.lays153 -- function 12

theorem get_bt (s : ByteArray) (i : Nat) (h : i < s.size) : (s.get! i).toNat = bt s i := by
  rw [← bt_eq h]
  show (s.data[i]!).toNat = _
  rw [getElem!_pos s.data i h]; rfl
/-- what a step over a text's runes leaves out are bytes from 128 on -/
theorem decode_skip (s : ByteArray) (k : Nat) (h : k < s.size) : k + (Utf8.decode s k).2 ≤ s.size ∧ ∀ j, 0 < j → j < (Utf8.decode s k).2 → 128 ≤ bt s (k + j) := by
  have g : ∀ j, 1 < s.size - k ∨ True → j < s.size - k → (s.get! (k + j)).toNat = bt s (k + j) := fun j _ hj => get_bt s _ (by omega)
  rw [Lib.decode_at]
  have hn : 0 < s.size - k := by omega
  have g1 := g 1 (.inr trivial)
  have g2 := g 2 (.inr trivial)
  have g3 := g 3 (.inr trivial)
  clear g
  unfold Lib.decodeN
  generalize (s.get! k).toNat = b0
  generalize (s.get! (k + 1)).toNat = b1 at *
  generalize (s.get! (k + 2)).toNat = b2 at *
  generalize (s.get! (k + 3)).toNat = b3 at *
  repeat' split
  all_goals (refine ⟨?_, fun j h0 h1 => ?_⟩)
  all_goals (try simp only at h1)
  all_goals (try simp only)
  all_goals first
    | omega
    | (have h4 : j = 1 ∨ j = 2 ∨ j = 3 := by omega
       rcases h4 with rfl | rfl | rfl
       · have := g1 (by omega); omega
       · first | omega | (have := g2 (by omega); omega)
       · first | omega | (have := g3 (by omega); omega))

set_option maxRecDepth 100000 in
theorem slIndex_any (s : ByteArray) (c : Int) (w : World) :
    Calls Tryd.prog 26 #[.string s, .int .u8 c] w fun e w' => e = .returned (.int .i64 (Lib.indexByte s.data.toList c.toNat.toUInt8)) ∧ w' = w := by
  go_enter Tryd.func26, Tryd.ntmps26
  go_wp2
  rw [run_callFunc_extern Tryd.func35 (by kernel_rfl) (by kernel_rfl) (by kernel_rfl) (e := Extern.BytealgIndexByte.indexByte) (by kernel_rfl), Lib.run_indexByteString]
  simp only [Result.andThen]
  rw [Oper.upon_value]
  go_wp2
  go_ret
  exact ⟨rfl, rfl⟩
set_option maxRecDepth 100000 in
/-- strings.IndexByte -/
theorem ib_any (s : ByteArray) (c : Int) (w : World) :
    Calls Tryd.prog 13 #[.string s, .int .u8 c] w fun e w' => e = .returned (.int .i64 (Lib.indexByte s.data.toList c.toNat.toUInt8)) ∧ w' = w := by
  go_enter Tryd.func13, Tryd.ntmps13
  go_wp2_with (go_at_call 26; refine (slIndex_any _ _ _).mono ?_; rintro e w1 ⟨rfl, rfl⟩)
  go_ret
  exact ⟨rfl, rfl⟩
theorem ib_none (l : List UInt8) (c : UInt8) (h : ∀ x ∈ l, x.toNat < 128) (hc : 128 ≤ c.toNat) : Lib.indexByte l c = -1 := by
  induction l with
  | nil => rfl
  | cons x l ih =>
    have hx := h x (by simp)
    have hne : (x == c) = false := by
      rw [beq_eq_false_iff_ne]; intro e; rw [e] at hx; omega
    have := ih (fun y hy => h y (by simp [hy]))
    simp [Lib.indexByte, hne, this]
set_option maxRecDepth 1000000 in
/-- unicode/utf8.ValidRune -/
theorem validRune_any (r : Nat) (w : World) (h2 : r ≤ 1114111) :
    Calls Tryd.prog 32 #[.int .i32 (r : Int)] w fun e w' => e = .returned (.bool (decide (r < 55296) || decide (57343 < r))) ∧ w' = w := by
  have h3 : (r : Int) ≤ 1114111 := by omega
  have HH := hide3 h2
  clear h2
  go_enter Tryd.func32, Tryd.ntmps32
  go_wp2
  all_goals
    go_ret
    have h2 := HH.out
    refine ⟨?_, rfl⟩
    show Ending.returned (Value.bool _) = Ending.returned (Value.bool _)
    congr 2; first | (rw [Bool.eq_iff_iff]; simp; omega) | (symm; simp; omega)

set_option maxHeartbeats 8000000 in
set_option maxRecDepth 100000 in
/-- strings.IndexRune, of the rune that stands for a wrong byte, among the letters of units -/
theorem indexRune_bad (w : World) :
    Calls Tryd.prog 22 #[.string ⟨#[119, 100, 104, 109, 115]⟩, .int .i32 65533] w fun e w' => e = .returned (.int .i64 (-1)) ∧ Below w.heap.size w w' := by
  have x0 : ∀ ty, (Instr.next (.pointer (some ⟨w.heap.size, 0, none⟩)) true ty).run Tryd.prog (w.iter ⟨#[119, 100, 104, 109, 115]⟩ 0) = .ok (.tuple #[.bool true, .int .i64 0, .int .i32 119]) (w.iter ⟨#[119, 100, 104, 109, 115]⟩ 1) := fun ty => run_next_ascii (P := Tryd.prog) w ⟨#[119, 100, 104, 109, 115]⟩ 0 ty (by decide) (by decide)
  have x1 : ∀ ty, (Instr.next (.pointer (some ⟨w.heap.size, 0, none⟩)) true ty).run Tryd.prog (w.iter ⟨#[119, 100, 104, 109, 115]⟩ 1) = .ok (.tuple #[.bool true, .int .i64 1, .int .i32 100]) (w.iter ⟨#[119, 100, 104, 109, 115]⟩ 2) := fun ty => run_next_ascii (P := Tryd.prog) w ⟨#[119, 100, 104, 109, 115]⟩ 1 ty (by decide) (by decide)
  have x2 : ∀ ty, (Instr.next (.pointer (some ⟨w.heap.size, 0, none⟩)) true ty).run Tryd.prog (w.iter ⟨#[119, 100, 104, 109, 115]⟩ 2) = .ok (.tuple #[.bool true, .int .i64 2, .int .i32 104]) (w.iter ⟨#[119, 100, 104, 109, 115]⟩ 3) := fun ty => run_next_ascii (P := Tryd.prog) w ⟨#[119, 100, 104, 109, 115]⟩ 2 ty (by decide) (by decide)
  have x3 : ∀ ty, (Instr.next (.pointer (some ⟨w.heap.size, 0, none⟩)) true ty).run Tryd.prog (w.iter ⟨#[119, 100, 104, 109, 115]⟩ 3) = .ok (.tuple #[.bool true, .int .i64 3, .int .i32 109]) (w.iter ⟨#[119, 100, 104, 109, 115]⟩ 4) := fun ty => run_next_ascii (P := Tryd.prog) w ⟨#[119, 100, 104, 109, 115]⟩ 3 ty (by decide) (by decide)
  have x4 : ∀ ty, (Instr.next (.pointer (some ⟨w.heap.size, 0, none⟩)) true ty).run Tryd.prog (w.iter ⟨#[119, 100, 104, 109, 115]⟩ 4) = .ok (.tuple #[.bool true, .int .i64 4, .int .i32 115]) (w.iter ⟨#[119, 100, 104, 109, 115]⟩ 5) := fun ty => run_next_ascii (P := Tryd.prog) w ⟨#[119, 100, 104, 109, 115]⟩ 4 ty (by decide) (by decide)
  have x5 : ∀ ty, (Instr.next (.pointer (some ⟨w.heap.size, 0, none⟩)) true ty).run Tryd.prog (w.iter ⟨#[119, 100, 104, 109, 115]⟩ 5) = .ok (.tuple #[.bool false]) (w.iter ⟨#[119, 100, 104, 109, 115]⟩ 5) := fun ty => run_next_end (P := Tryd.prog) w ⟨#[119, 100, 104, 109, 115]⟩ 5 ty (by decide)
  go_enter Tryd.func22, Tryd.ntmps22
  go_wp2
  refine wp_loop_rounds 6 ?_
  rw [rounds_succ]
  go_wp2
  rw [rounds_succ]
  go_wp2
  rw [rounds_succ]
  go_wp2
  rw [rounds_succ]
  go_wp2
  rw [rounds_succ]
  go_wp2
  rw [rounds_succ]
  go_wp2
  go_ret
  exact ⟨rfl, (Below.refl _ w).alloc (Nat.le_refl _) _⟩
end Go.Proofs.YthfjjfebhenliaaDoor
