import Derived.Test.YtfacfhigehdejaaGreatDoorCmpG
import Derived.Test.YtfacfhigehdejaaGreatDoorMath8G
import Derived.Test.YtfacfhigehdejaaGreatDoorMath13G
namespace Go.Proofs.YtfacfhigehdejaaGreatDoor
set_option linter.unusedVariables false
open Go.RowKit Go.Shelf Go.Proofs.YtfacfhigehdejaaGreatDoor.Nm

theorem owns_one (w : World) (t : TypeId) (u : Value) : (w.alloc (.cells #[u] t)).ownsRow w.heap.size t 1 (.slice (some ⟨w.heap.size, 0, none⟩) 1 1) 1 [u] :=
  ⟨rfl, .inr ⟨w.heap.size, 1, #[u], rfl, Nat.le_refl _, World.alloc_heap_new w _, Nat.le_refl _, by unfold maxLen; omega, rfl, rfl⟩⟩

/-- strings.HasPrefix, at the star -/
theorem hasStar_any (s : ByteArray) (w : World) (hm : s.size ≤ 255) :
    Calls Tryz.prog 46 #[.string s, .string ⟨#[1, 42]⟩] w fun e w' => e = .returned (.bool (decide (2 ≤ s.size) && ((s.extract 0 2).toList == [1, 42]))) ∧ w' = w := by
  by_cases h : 2 ≤ s.size
  · have HD : Hid (decide (2 ≤ s.size) = true) := decide_eq_true h
    go_enter Tryz.func46, Tryz.ntmps46
    go_wp2
    go_ret
    exact ⟨by first | rfl | (rw [HD.out]; rfl), rfl⟩
  · have HD : Hid (decide (2 ≤ s.size) = false) := decide_eq_false h
    have h' : s.size < 2 := by omega
    go_enter Tryz.func46, Tryz.ntmps46
    go_wp2
    go_ret
    exact ⟨by first | rfl | (rw [HD.out]; rfl), rfl⟩
theorem hasPrefix_any (s : ByteArray) (w : World) (hm : s.size ≤ 255) :
    Calls Tryz.prog 161 #[.string s, .string ⟨#[1, 42]⟩] w fun e w' => e = .returned (.bool (decide (2 ≤ s.size) && ((s.extract 0 2).toList == [1, 42]))) ∧ w' = w := by
  go_enter Tryz.func161, Tryz.ntmps161
  go_wp2_with (go_at_call 46; refine (hasStar_any _ _ hm).mono ?_; rintro e w1 ⟨rfl, rfl⟩)
  go_ret
  exact ⟨rfl, rfl⟩

end Go.Proofs.YtfacfhigehdejaaGreatDoor

namespace Go.Proofs.YtfacfhigehdejaaGreatDoor
set_option linter.unusedVariables false
open Go.RowKit Go.Shelf Go.Proofs.YtfacfhigehdejaaGreatDoor.Nm

theorem Tryz.infoByte : (Tryz.prog.info? 5).map (fun i => (i.zero, i.size, i.bytes)) = some (some (.int .u8 0), 1, 1) := by kernel_rfl

/-- the bytes of an owned row, as a text -/
theorem owns_str {w : World} {base g cap : Nat} {t : ByteArray} (h : w.ownsRow base 5 1 (.slice (some ⟨g, 0, none⟩) t.size cap) t.size (Go.Lib.strCells t)) :
    (convert 69 9 (.slice (some ⟨g, 0, none⟩) t.size cap)).run Tryz.prog w = .ok (.string t) w := by
  obtain ⟨hl, (⟨h1, _⟩ | ⟨g', cap', cur, h1, hb, hg, hn, hcap, hsz, ht⟩)⟩ := h
  · cases h1
  · simp at h1
    obtain ⟨rfl, rfl⟩ := h1
    have hlen : t.data.toList.length = t.size := by simp
    have := run_convert_bytes_back (P := Tryz.prog) w 69 9 5 ⟨g, 0, none⟩ cap t.data.toList Tryz.underlying69 Tryz.underlying5 Tryz.underlying9 (fun j hj => by
      have hj' : j < t.size := by omega
      have hcur : cur[j]? = some (.int .u8 (t.data.toList[j].toNat : Int)) := by
        have := congrArg (fun l => l[j]?) ht
        simp only [Nat.mul_one] at this
        rw [List.getElem?_take, if_pos hj'] at this
        rw [← Array.getElem?_toList, this]
        unfold Go.Lib.strCells
        rw [List.getElem?_map, List.getElem?_eq_getElem hj]; rfl
      rw [addr_add, Nat.zero_add]
      simp [World.cell?, hg, hcur])
    rw [hlen] at this
    simpa using this
end Go.Proofs.YtfacfhigehdejaaGreatDoor

namespace Go.Proofs.YtfacfhigehdejaaGreatDoor
set_option linter.unusedVariables false
open Go.RowKit Go.Shelf Go.Proofs.YtfacfhigehdejaaGreatDoor.Nm

theorem owns_some {w : World} {base e size : Nat} {v : Value} {n : Nat} {xs : List Value} (h : w.ownsRow base e size v n xs) (hn : 0 < n) : ∃ g cap, v = .slice (some ⟨g, 0, none⟩) n cap := by
  obtain ⟨_, (⟨_, h0⟩ | ⟨g, cap, cur, rfl, _⟩)⟩ := h
  · omega
  · exact ⟨g, cap, rfl⟩

end Go.Proofs.YtfacfhigehdejaaGreatDoor
