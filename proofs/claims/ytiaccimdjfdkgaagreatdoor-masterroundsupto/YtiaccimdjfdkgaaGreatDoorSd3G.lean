import Derived.Test.YtiaccimdjfdkgaaGreatDoorSd1G
namespace Go.Proofs.YtiaccimdjfdkgaaGreatDoor
set_option linter.unusedVariables false
open Go.RowKit Go.Shelf Go.Proofs.YtiaccimdjfdkgaaGreatDoor.Nm

/-- a sum in memory -/
structure SumAt (w : World) (B h M P : Nat) : Prop where
  lt : B < w.heap.size
  c0 : w.cell? ⟨B, 0, none⟩ = some (.int .u64 (h : Int))
  c1 : w.cell? ⟨B, 1, none⟩ = some (.int .u64 (M : Int))
  c2 : w.cell? ⟨B, 2, none⟩ = some (.int .u64 (P : Int))
  f0 : w.frozen? ⟨B, 0, none⟩ = false

theorem SumAt.set {w : World} {B h M P : Nat} (hS : SumAt w B h M P) (h' : Nat) : SumAt (w.setCell ⟨B, 0, none⟩ (.int .u64 (h' : Int))).drew B h' M P := by
  refine ⟨by simpa [World.setCell] using hS.lt, ?_, ?_, ?_, ?_⟩
  · exact World.cell?_setCell_same' _ _ _ (by rw [hS.c0]; rfl)
  · exact (World.cell?_setCell_other _ _ _ _ (fun e => by simp at e)).trans hS.c1
  · exact (World.cell?_setCell_other _ _ _ _ (fun e => by simp at e)).trans hS.c2
  · exact (World.frozen?_setCell _ _ _ _).trans hS.f0
theorem SumAt.other {w : World} {B C h M P : Nat} (hS : SumAt w B h M P) (hne : C ≠ B) (v : Value) : SumAt (w.setCell ⟨C, 0, none⟩ v).drew B h M P := by
  refine ⟨by simpa [World.setCell] using hS.lt, ?_, ?_, ?_, ?_⟩
  · exact (cell_far w _ _ _ hne).trans hS.c0
  · exact (cell_far w _ _ _ hne).trans hS.c1
  · exact (cell_far w _ _ _ hne).trans hS.c2
  · exact (World.frozen?_setCell _ _ _ _).trans hS.f0
theorem SumAt.below {w w' : World} {B h M P : Nat} (hS : SumAt w B h M P) (hb : Below w.heap.size w w') : SumAt w' B h M P :=
  ⟨Nat.lt_of_lt_of_le hS.lt hb.size, (hb.cell (p := ⟨B, 0, none⟩) hS.lt).trans hS.c0, (hb.cell (p := ⟨B, 1, none⟩) hS.lt).trans hS.c1, (hb.cell (p := ⟨B, 2, none⟩) hS.lt).trans hS.c2, (hb.frozen (p := ⟨B, 0, none⟩) hS.lt).trans hS.f0⟩

theorem cells3 (w : World) (a b c : Value) (t : TypeId) : (w.alloc (.cells #[a, b, c] t)).cell? ⟨w.heap.size, 0, none⟩ = some a ∧ (w.alloc (.cells #[a, b, c] t)).cell? ⟨w.heap.size, 1, none⟩ = some b ∧ (w.alloc (.cells #[a, b, c] t)).cell? ⟨w.heap.size, 2, none⟩ = some c ∧ (w.alloc (.cells #[a, b, c] t)).frozen? ⟨w.heap.size, 0, none⟩ = false := by
  have : (w.alloc (.cells #[a, b, c] t)).heap[w.heap.size]? = some (.cells #[a, b, c] t) := by
    show (w.heap.push _)[w.heap.size]? = _
    simp
  refine ⟨?_, ?_, ?_, ?_⟩
  · rw [World.cell?_alloc_mark]; rfl
  · rw [World.cell?_alloc_mark]; rfl
  · rw [World.cell?_alloc_mark]; rfl
  · simp only [World.frozen?, this]; simp
theorem sum_new (w : World) (h M P : Nat) (t : TypeId) : SumAt (w.alloc (.cells #[.int .u64 (h : Int), .int .u64 (M : Int), .int .u64 (P : Int)] t)) w.heap.size h M P := by
  obtain ⟨h0, h1, h2, h3⟩ := cells3 w (.int .u64 (h : Int)) (.int .u64 (M : Int)) (.int .u64 (P : Int)) t
  exact ⟨by simp, h0, h1, h2, h3⟩
theorem SumAt.alloc {w : World} {B h M P : Nat} (hS : SumAt w B h M P) (o : Obj) : SumAt (w.alloc o) B h M P := hS.below ((Below.refl _ _).alloc (Nat.le_refl _) _)

/-- the world in which feed is called -/
theorem feed_start (W : World) (f g : Value) (a b c d : Nat) (t1 t2 t3 : TypeId) (W3 : World) (h3 : W3 = ((W.alloc (.cells #[.int .u64 1, .int .u64 (a : Int), .int .u64 (b : Int)] t1)).alloc (.cells #[.int .u64 1, .int .u64 (c : Int), .int .u64 (d : Int)] t2)).alloc (.cells #[f, g] t3)) :
    SumAt W3 W.heap.size 1 a b ∧ SumAt W3 (W.heap.size + 1) 1 c d ∧ W3.cell? ⟨W.heap.size + 1 + 1, 0, none⟩ = some f ∧ W3.cell? ⟨W.heap.size + 1 + 1, 1, none⟩ = some g ∧ Below W.heap.size W W3 := by
  subst h3
  have hz : ((W.alloc (.cells #[.int .u64 1, .int .u64 (a : Int), .int .u64 (b : Int)] t1)).alloc (.cells #[.int .u64 1, .int .u64 (c : Int), .int .u64 (d : Int)] t2)).heap.size = W.heap.size + 1 + 1 := by rw [World.size_alloc, World.size_alloc]
  refine ⟨((sum_new W 1 a b t1).alloc _).alloc _, ?_, ?_, ?_, ?_⟩
  · have := sum_new (W.alloc (.cells #[.int .u64 1, .int .u64 (a : Int), .int .u64 (b : Int)] t1)) 1 c d t2
    rw [World.size_alloc] at this
    exact this.alloc _
  · rw [← hz, World.cell?_alloc_mark]; rfl
  · rw [← hz, World.cell?_alloc_mark]; rfl
  · exact (((Below.refl _ _).alloc (Nat.le_refl _) _).alloc (by rw [World.size_alloc]; omega) _).alloc (by rw [hz]; omega) _

end Go.Proofs.YtiaccimdjfdkgaaGreatDoor

namespace Go.Proofs.YtiaccimdjfdkgaaGreatDoor
set_option linter.unusedVariables false
open Go.RowKit Go.Shelf Go.Proofs.YtiaccimdjfdkgaaGreatDoor.Nm

theorem foldB_size {n : ByteArray} (h : isN n = true) : (foldB n).size ≤ 255 := by
  rw [foldB_yes h, lowB_size]; exact ((isN_iff n).1 h).1

/-- what Hash answers -/
def hashR (n salt : ByteArray) (r : Int) : Value :=
  if isN n = true then (if salt.size ≤ 255 ∧ 0 ≤ r ∧ r ≤ 50 then .tuple #[.string (hashB n salt r.toNat), .int .i64 0] else .tuple #[.string ⟨#[]⟩, .int .i64 23]) else .tuple #[.string ⟨#[]⟩, .int .i64 1]
theorem hashR_name {n salt : ByteArray} {r : Int} (h : isN n = false) : hashR n salt r = .tuple #[.string ⟨#[]⟩, .int .i64 1] := by unfold hashR; rw [if_neg (by rw [h]; simp)]
theorem hashR_arg {n salt : ByteArray} {r : Int} (h : isN n = true) (h2 : ¬ (salt.size ≤ 255 ∧ 0 ≤ r ∧ r ≤ 50)) : hashR n salt r = .tuple #[.string ⟨#[]⟩, .int .i64 23] := by unfold hashR; rw [if_pos h, if_neg h2]
theorem hashR_ok {n salt : ByteArray} {r : Nat} (h : isN n = true) (h2 : salt.size ≤ 255) (h3 : r ≤ 50) : hashR n salt (r : Int) = .tuple #[.string (hashB n salt r), .int .i64 0] := by unfold hashR; rw [if_pos h, if_pos ⟨h2, by omega, by omega⟩]; simp
theorem chk_no {n : ByteArray} (h : isN n = false) : chk n = 1 := by unfold chk; rw [h]; rfl
theorem chk_yes {n : ByteArray} (h : isN n = true) : chk n = 0 := by unfold chk; rw [h]; rfl

end Go.Proofs.YtiaccimdjfdkgaaGreatDoor
