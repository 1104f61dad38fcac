import Derived.Test.YtiaccimdjfdkgaaGreatDoorWkG
import Derived.Deep.QuietTactic
import Derived.BigQuiet
import Derived.Deep.RegionWith
import Derived.Lib.Bytealg
import Derived.WalkSmall
import Derived.Test.YtiaccimdjfdkgaaGreatDoorMath8G
import Derived.Deep.RegionHeld3
import Derived.Test.YtiaccimdjfdkgaaGreatDoorMath13G
namespace Go.Proofs.YtiaccimdjfdkgaaGreatDoor
set_option linter.unusedVariables false
open Go.RowKit Go.Shelf Go.Proofs.YtiaccimdjfdkgaaGreatDoor.Nm

theorem isNaN_any (a : Int) (w : World) : Calls Tryz.prog 279 #[.int .i64 a] w fun e w' => e = .returned (.bool false) ∧ w' = w := by
  go_enter Tryz.func279, Tryz.ntmps279
  go_wp2
  go_ret
  exact ⟨by simp, rfl⟩


end Go.Proofs.YtiaccimdjfdkgaaGreatDoor

namespace Go.Proofs.YtiaccimdjfdkgaaGreatDoor
set_option linter.unusedVariables false
open Go.RowKit Go.Shelf Go.Proofs.YtiaccimdjfdkgaaGreatDoor.Nm

end Go.Proofs.YtiaccimdjfdkgaaGreatDoor

namespace Go.Proofs.YtiaccimdjfdkgaaGreatDoor
set_option linter.unusedVariables false
open Go.RowKit Go.Shelf Go.Proofs.YtiaccimdjfdkgaaGreatDoor.Nm

end Go.Proofs.YtiaccimdjfdkgaaGreatDoor

namespace Go.Proofs.YtiaccimdjfdkgaaGreatDoor
set_option linter.unusedVariables false
open Go.RowKit Go.Shelf Go.Proofs.YtiaccimdjfdkgaaGreatDoor.Nm

theorem wrap_nat (d : Nat) (h : d ≤ 4294967296) : IntKind.i64.wrap (d : Int) = (d : Int) := by
  have e := Go.IntWalk.wrap64_in (d : Int) ⟨by omega, by omega⟩
  rw [Go.IntWalk.i64_left, e]
theorem below_any {B : Nat} {a b b' c : World} (h : Below B a b) (k : Below b'.heap.size b' c) (e : b' = b ∨ b' = b.drew) (hB : B ≤ b.heap.size) : Below B a c := by
  rcases e with rfl | rfl
  · exact bstep h k hB
  · exact bstep h.drew k hB
def lenOf : Value → Nat | .slice _ n _ => n | _ => 0

end Go.Proofs.YtiaccimdjfdkgaaGreatDoor

namespace Go.Proofs.YtiaccimdjfdkgaaGreatDoor
set_option linter.unusedVariables false
open Go.RowKit Go.Shelf Go.Proofs.YtiaccimdjfdkgaaGreatDoor.Nm

theorem owns_one (w : World) (t : TypeId) (u : Value) : (w.alloc (.cells #[u] t)).ownsRow w.heap.size t 1 (.slice (some ⟨w.heap.size, 0, none⟩) 1 1) 1 [u] :=
  ⟨rfl, .inr ⟨w.heap.size, 1, #[u], rfl, Nat.le_refl _, World.alloc_heap_new w _, Nat.le_refl _, by unfold maxLen; omega, rfl, rfl⟩⟩

/-- strings.HasPrefix, at the star -/
theorem hasStar_any (s : ByteArray) (w : World) (hm : s.size ≤ 255) :
    Calls Tryz.prog 87 #[.string s, .string ⟨#[1, 42]⟩] w fun e w' => e = .returned (.bool (decide (2 ≤ s.size) && ((s.extract 0 2).toList == [1, 42]))) ∧ w' = w := by
  by_cases h : 2 ≤ s.size
  · have HD : Hid (decide (2 ≤ s.size) = true) := decide_eq_true h
    go_enter Tryz.func87, Tryz.ntmps87
    go_wp2
    go_ret
    exact ⟨by first | rfl | (rw [HD.out]; rfl), rfl⟩
  · have HD : Hid (decide (2 ≤ s.size) = false) := decide_eq_false h
    have h' : s.size < 2 := by omega
    go_enter Tryz.func87, Tryz.ntmps87
    go_wp2
    go_ret
    exact ⟨by first | rfl | (rw [HD.out]; rfl), rfl⟩
theorem hasPrefix_any (s : ByteArray) (w : World) (hm : s.size ≤ 255) :
    Calls Tryz.prog 59 #[.string s, .string ⟨#[1, 42]⟩] w fun e w' => e = .returned (.bool (decide (2 ≤ s.size) && ((s.extract 0 2).toList == [1, 42]))) ∧ w' = w := by
  go_enter Tryz.func59, Tryz.ntmps59
  go_wp2_with (go_at_call 87; refine (hasStar_any _ _ hm).mono ?_; rintro e w1 ⟨rfl, rfl⟩)
  go_ret
  exact ⟨rfl, rfl⟩

end Go.Proofs.YtiaccimdjfdkgaaGreatDoor

namespace Go.Proofs.YtiaccimdjfdkgaaGreatDoor
set_option linter.unusedVariables false
open Go.RowKit Go.Shelf Go.Proofs.YtiaccimdjfdkgaaGreatDoor.Nm

theorem Tryz.infoByte : (Tryz.prog.info? 5).map (fun i => (i.zero, i.size, i.bytes)) = some (some (.int .u8 0), 1, 1) := by kernel_rfl

/-- the bytes of an owned row, as a text -/
theorem owns_str {w : World} {base g cap : Nat} {t : ByteArray} (h : w.ownsRow base 5 1 (.slice (some ⟨g, 0, none⟩) t.size cap) t.size (Go.Lib.strCells t)) :
    (convert 56 9 (.slice (some ⟨g, 0, none⟩) t.size cap)).run Tryz.prog w = .ok (.string t) w := by
  obtain ⟨hl, (⟨h1, _⟩ | ⟨g', cap', cur, h1, hb, hg, hn, hcap, hsz, ht⟩)⟩ := h
  · cases h1
  · simp at h1
    obtain ⟨rfl, rfl⟩ := h1
    have hlen : t.data.toList.length = t.size := by simp
    have := run_convert_bytes_back (P := Tryz.prog) w 56 9 5 ⟨g, 0, none⟩ cap t.data.toList Tryz.underlying56 Tryz.underlying5 Tryz.underlying9 (fun j hj => by
      have hj' : j < t.size := by omega
      have hcur : cur[j]? = some (.int .u8 (t.data.toList[j].toNat : Int)) := by
        have := congrArg (fun l => l[j]?) ht
        simp only [Nat.mul_one] at this
        rw [List.getElem?_take, if_pos hj'] at this
        rw [← Array.getElem?_toList, this]
        unfold Go.Lib.strCells
        rw [List.getElem?_map, List.getElem?_eq_getElem hj]; rfl
      rw [addr_add, Nat.zero_add]
      simp [World.cell?, hg, hcur])
    rw [hlen] at this
    simpa using this
end Go.Proofs.YtiaccimdjfdkgaaGreatDoor

namespace Go.Proofs.YtiaccimdjfdkgaaGreatDoor
set_option linter.unusedVariables false
open Go.RowKit Go.Shelf Go.Proofs.YtiaccimdjfdkgaaGreatDoor.Nm

theorem owns_some {w : World} {base e size : Nat} {v : Value} {n : Nat} {xs : List Value} (h : w.ownsRow base e size v n xs) (hn : 0 < n) : ∃ g cap, v = .slice (some ⟨g, 0, none⟩) n cap := by
  obtain ⟨_, (⟨_, h0⟩ | ⟨g, cap, cur, rfl, _⟩)⟩ := h
  · omega
  · exact ⟨g, cap, rfl⟩

end Go.Proofs.YtiaccimdjfdkgaaGreatDoor
