import Derived.Test.YtkeibncmgplgkaaDoorPz1
import Derived.Shelf.Strings.IndexAnyAll
import Derived.Shelf.Strings.Runes
import Derived.Laws.RangeAny
import Derived.Laws.Runes
import Derived.Lib.DecodeN
import Derived.Lib.TrimU
import Derived.Ground.NamesProg
import Derived.Deep.QuietTactic
import Derived.BigQuiet
namespace Go.Proofs.YtkeibncmgplgkaaDoor
set_option linter.unusedVariables false
open Go.RowKit Go.Shelf Go.Proofs.YtkeibncmgplgkaaDoor.Nm

def Tryd.lays153_ren : Go.Shelf.Ren := ⟨fun | 153 => 8 | 152 => 13 | 226 => 14 | 227 => 15 | 228 => 16 | 137 => 9 | 119 => 20 | 224 => 21 | 225 => 22 | 217 => 17 | 266 => 23 | n => n, fun | 9 => 9 | 3 => 3 | 4 => 4 | 5 => 5 | 21 => 21 | 117 => 41 | 116 => 40 | 0 => 0 | 46 => 47 | 124 => 48 | n => n, fun | n => n⟩
theorem Tryd.lays153 : Go.Proofs.Lays.n153 Tryd.prog Tryd.lays153_ren := {
  mixed := by kernel_rfl
  f119 := Tryd.func20.trans (congrArg some (by kernel_rfl))
  f137 := Tryd.func9.trans (congrArg some (by kernel_rfl))
  f152 := Tryd.func13.trans (congrArg some (by kernel_rfl))
  f153 := Tryd.func8.trans (congrArg some (by kernel_rfl))
  f217 := Tryd.func17.trans (congrArg some (by kernel_rfl))
  f224 := Tryd.func21.trans (congrArg some (by kernel_rfl))
  f225 := Tryd.func22.trans (congrArg some (by kernel_rfl))
  f226 := Tryd.func14.trans (congrArg some (by kernel_rfl))
  f227 := Tryd.func15.trans (congrArg some (by kernel_rfl))
  f228 := Tryd.func16.trans (congrArg some (by kernel_rfl))
  f266 := Tryd.func23.trans (congrArg some (by kernel_rfl))
  t0 := Tryd.underlying0
  a0 := Tryd.isAgg0
  z0 := Tryd.sizeOf0
  v0 := Tryd.zeroValue0
  t3 := Tryd.underlying3
  a3 := Tryd.isAgg3
  z3 := Tryd.sizeOf3
  v3 := Tryd.zeroValue3
  t4 := Tryd.underlying4
  a4 := Tryd.isAgg4
  z4 := Tryd.sizeOf4
  v4 := Tryd.zeroValue4
  t5 := Tryd.underlying5
  a5 := Tryd.isAgg5
  z5 := Tryd.sizeOf5
  v5 := Tryd.zeroValue5
  t9 := Tryd.underlying9
  a9 := Tryd.isAgg9
  z9 := Tryd.sizeOf9
  v9 := Tryd.zeroValue9
  t21 := Tryd.underlying21
  a21 := Tryd.isAgg21
  z21 := Tryd.sizeOf21
  v21 := Tryd.zeroValue21
  t46 := Tryd.underlying47
  a46 := Tryd.isAgg47
  z46 := Tryd.sizeOf47
  v46 := Tryd.zeroValue47
  t116 := Tryd.underlying40
  a116 := Tryd.isAgg40
  z116 := Tryd.sizeOf40
  t117 := Tryd.underlying41
  a117 := Tryd.isAgg41
  z117 := Tryd.sizeOf41
  v117 := Tryd.zeroValue41
  t124 := Tryd.underlying48
  a124 := Tryd.isAgg48
  z124 := Tryd.sizeOf48
  v124 := Tryd.zeroValue48 }

theorem get_bt (s : ByteArray) (i : Nat) (h : i < s.size) : (s.get! i).toNat = bt s i := by
  rw [← bt_eq h]
  show (s.data[i]!).toNat = _
  rw [getElem!_pos s.data i h]; rfl
/-- what a step over a text's runes leaves out are bytes from 128 on -/
theorem decode_skip (s : ByteArray) (k : Nat) (h : k < s.size) : k + (Utf8.decode s k).2 ≤ s.size ∧ ∀ j, 0 < j → j < (Utf8.decode s k).2 → 128 ≤ bt s (k + j) := by
  have g : ∀ j, 1 < s.size - k ∨ True → j < s.size - k → (s.get! (k + j)).toNat = bt s (k + j) := fun j _ hj => get_bt s _ (by omega)
  rw [Lib.decode_at]
  have hn : 0 < s.size - k := by omega
  have g1 := g 1 (.inr trivial)
  have g2 := g 2 (.inr trivial)
  have g3 := g 3 (.inr trivial)
  clear g
  unfold Lib.decodeN
  generalize (s.get! k).toNat = b0
  generalize (s.get! (k + 1)).toNat = b1 at *
  generalize (s.get! (k + 2)).toNat = b2 at *
  generalize (s.get! (k + 3)).toNat = b3 at *
  repeat' split
  all_goals (refine ⟨?_, fun j h0 h1 => ?_⟩)
  all_goals (try simp only at h1)
  all_goals (try simp only)
  all_goals first
    | omega
    | (have h4 : j = 1 ∨ j = 2 ∨ j = 3 := by omega
       rcases h4 with rfl | rfl | rfl
       · have := g1 (by omega); omega
       · first | omega | (have := g2 (by omega); omega)
       · first | omega | (have := g3 (by omega); omega))

set_option maxRecDepth 100000 in
theorem slIndex_any (s : ByteArray) (c : Int) (w : World) :
    Calls Tryd.prog 17 #[.string s, .int .u8 c] w fun e w' => e = .returned (.int .i64 (Lib.indexByte s.data.toList c.toNat.toUInt8)) ∧ w' = w := by
  go_enter Tryd.func17, Tryd.ntmps17
  go_wp2
  rw [run_callFunc_extern Tryd.func23 (by kernel_rfl) (by kernel_rfl) (by kernel_rfl) (e := Extern.BytealgIndexByte.indexByte) (by kernel_rfl), Lib.run_indexByteString]
  simp only [Result.andThen]
  rw [Oper.upon_value]
  go_wp2
  go_ret
  exact ⟨rfl, rfl⟩
set_option maxRecDepth 100000 in
/-- strings.IndexByte -/
theorem ib_any (s : ByteArray) (c : Int) (w : World) :
    Calls Tryd.prog 9 #[.string s, .int .u8 c] w fun e w' => e = .returned (.int .i64 (Lib.indexByte s.data.toList c.toNat.toUInt8)) ∧ w' = w := by
  go_enter Tryd.func9, Tryd.ntmps9
  go_wp2_with (go_at_call 17; refine (slIndex_any _ _ _).mono ?_; rintro e w1 ⟨rfl, rfl⟩)
  go_ret
  exact ⟨rfl, rfl⟩
theorem ib_none (l : List UInt8) (c : UInt8) (h : ∀ x ∈ l, x.toNat < 128) (hc : 128 ≤ c.toNat) : Lib.indexByte l c = -1 := by
  induction l with
  | nil => rfl
  | cons x l ih =>
    have hx := h x (by simp)
    have hne : (x == c) = false := by
      rw [beq_eq_false_iff_ne]; intro e; rw [e] at hx; omega
    have := ih (fun y hy => h y (by simp [hy]))
    simp [Lib.indexByte, hne, this]
set_option maxRecDepth 1000000 in
/-- unicode/utf8.ValidRune -/
theorem validRune_any (r : Nat) (w : World) (h2 : r ≤ 1114111) :
    Calls Tryd.prog 20 #[.int .i32 (r : Int)] w fun e w' => e = .returned (.bool (decide (r < 55296) || decide (57343 < r))) ∧ w' = w := by
  have h3 : (r : Int) ≤ 1114111 := by omega
  have HH := hide3 h2
  clear h2
  go_enter Tryd.func20, Tryd.ntmps20
  go_wp2
  all_goals
    go_ret
    have h2 := HH.out
    refine ⟨?_, rfl⟩
    show Ending.returned (Value.bool _) = Ending.returned (Value.bool _)
    congr 2; first | (rw [Bool.eq_iff_iff]; simp; omega) | (symm; simp; omega)

set_option maxHeartbeats 8000000 in
set_option maxRecDepth 100000 in
/-- strings.IndexRune, of the rune that stands for a wrong byte, among the letters of units -/
theorem indexRune_bad (w : World) :
    Calls Tryd.prog 13 #[.string ⟨#[119, 100, 104, 109, 115]⟩, .int .i32 65533] w fun e w' => e = .returned (.int .i64 (-1)) ∧ Below w.heap.size w w' := by
  have x0 : ∀ ty, (Instr.next (.pointer (some ⟨w.heap.size, 0, none⟩)) true ty).run Tryd.prog (w.iter ⟨#[119, 100, 104, 109, 115]⟩ 0) = .ok (.tuple #[.bool true, .int .i64 0, .int .i32 119]) (w.iter ⟨#[119, 100, 104, 109, 115]⟩ 1) := fun ty => run_next_ascii (P := Tryd.prog) w ⟨#[119, 100, 104, 109, 115]⟩ 0 ty (by decide) (by decide)
  have x1 : ∀ ty, (Instr.next (.pointer (some ⟨w.heap.size, 0, none⟩)) true ty).run Tryd.prog (w.iter ⟨#[119, 100, 104, 109, 115]⟩ 1) = .ok (.tuple #[.bool true, .int .i64 1, .int .i32 100]) (w.iter ⟨#[119, 100, 104, 109, 115]⟩ 2) := fun ty => run_next_ascii (P := Tryd.prog) w ⟨#[119, 100, 104, 109, 115]⟩ 1 ty (by decide) (by decide)
  have x2 : ∀ ty, (Instr.next (.pointer (some ⟨w.heap.size, 0, none⟩)) true ty).run Tryd.prog (w.iter ⟨#[119, 100, 104, 109, 115]⟩ 2) = .ok (.tuple #[.bool true, .int .i64 2, .int .i32 104]) (w.iter ⟨#[119, 100, 104, 109, 115]⟩ 3) := fun ty => run_next_ascii (P := Tryd.prog) w ⟨#[119, 100, 104, 109, 115]⟩ 2 ty (by decide) (by decide)
  have x3 : ∀ ty, (Instr.next (.pointer (some ⟨w.heap.size, 0, none⟩)) true ty).run Tryd.prog (w.iter ⟨#[119, 100, 104, 109, 115]⟩ 3) = .ok (.tuple #[.bool true, .int .i64 3, .int .i32 109]) (w.iter ⟨#[119, 100, 104, 109, 115]⟩ 4) := fun ty => run_next_ascii (P := Tryd.prog) w ⟨#[119, 100, 104, 109, 115]⟩ 3 ty (by decide) (by decide)
  have x4 : ∀ ty, (Instr.next (.pointer (some ⟨w.heap.size, 0, none⟩)) true ty).run Tryd.prog (w.iter ⟨#[119, 100, 104, 109, 115]⟩ 4) = .ok (.tuple #[.bool true, .int .i64 4, .int .i32 115]) (w.iter ⟨#[119, 100, 104, 109, 115]⟩ 5) := fun ty => run_next_ascii (P := Tryd.prog) w ⟨#[119, 100, 104, 109, 115]⟩ 4 ty (by decide) (by decide)
  have x5 : ∀ ty, (Instr.next (.pointer (some ⟨w.heap.size, 0, none⟩)) true ty).run Tryd.prog (w.iter ⟨#[119, 100, 104, 109, 115]⟩ 5) = .ok (.tuple #[.bool false]) (w.iter ⟨#[119, 100, 104, 109, 115]⟩ 5) := fun ty => run_next_end (P := Tryd.prog) w ⟨#[119, 100, 104, 109, 115]⟩ 5 ty (by decide)
  go_enter Tryd.func13, Tryd.ntmps13
  go_wp2
  refine wp_loop_rounds 6 ?_
  rw [rounds_succ]
  go_wp2
  rw [rounds_succ]
  go_wp2
  rw [rounds_succ]
  go_wp2
  rw [rounds_succ]
  go_wp2
  rw [rounds_succ]
  go_wp2
  rw [rounds_succ]
  go_wp2
  go_ret
  exact ⟨rfl, (Below.refl _ w).alloc (Nat.le_refl _) _⟩
end Go.Proofs.YtkeibncmgplgkaaDoor
