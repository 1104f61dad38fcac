import Derived.Test.YtfacfhigehdejaaGreatDoorTn1G
namespace Go.Proofs.YtfacfhigehdejaaGreatDoor
set_option linter.unusedVariables false
open Go.RowKit Go.Shelf Go.Proofs.YtfacfhigehdejaaGreatDoor.Nm

/-- a type's word, or nothing -/
def mnB (t : Int) : ByteArray := (twFind t).getD ⟨#[]⟩
end Go.Proofs.YtfacfhigehdejaaGreatDoor

namespace Go.Proofs.YtfacfhigehdejaaGreatDoor
set_option linter.unusedVariables false
open Go.RowKit Go.Shelf Go.Proofs.YtfacfhigehdejaaGreatDoor.Nm

theorem decDigits_more {u : Nat} (h : ¬ u < 10) : Lib.decDigits u = Lib.decDigits (u / 10) ++ [UInt8.ofNat (48 + u % 10)] := by rw [Lib.decDigits, dif_neg h]
theorem one_digit (W : World) (n : Nat) (hn : n < 256) : (convert 69 9 (.slice (some ⟨W.heap.size, 0, none⟩) 1 1)).run Tryz.prog (W.alloc (.cells #[.int .u8 (n : Int)] 5)) = .ok (.string ⟨#[UInt8.ofNat n]⟩) (W.alloc (.cells #[.int .u8 (n : Int)] 5)) := by
  have h := str_owns (W := W.alloc (.cells #[.int .u8 (n : Int)] 5)) (b := W.heap.size) (c := 1) (p := some ⟨W.heap.size, 0, none⟩) (xs := [n])
    (World.ownsRow_lit W #[.int .u8 (n : Int)] 1 (Nat.le_refl _) (by unfold maxLen; omega) rfl) (fun x hx => by simp at hx; omega)
  exact h
theorem one_digit_below (W W' : World) (n : Nat) (hn : n < 256) (hb : Below (W.alloc (.cells #[.int .u8 (n : Int)] 5)).heap.size (W.alloc (.cells #[.int .u8 (n : Int)] 5)) W') : (convert 69 9 (.slice (some ⟨W.heap.size, 0, none⟩) 1 1)).run Tryz.prog W' = .ok (.string ⟨#[UInt8.ofNat n]⟩) W' := by
  have h := str_owns (W := W') (b := W.heap.size) (c := 1) (p := some ⟨W.heap.size, 0, none⟩) (xs := [n])
    (ownsRow_below (World.ownsRow_lit W #[.int .u8 (n : Int)] 1 (Nat.le_refl _) (by unfold maxLen; omega) rfl) hb) (fun x hx => by simp at hx; omega)
  exact h
end Go.Proofs.YtfacfhigehdejaaGreatDoor

namespace Go.Proofs.YtfacfhigehdejaaGreatDoor
set_option linter.unusedVariables false
open Go.RowKit Go.Shelf Go.Proofs.YtfacfhigehdejaaGreatDoor.Nm

theorem tw_full : ∀ r ∈ tw, 1 ≤ r.2.size := by decide
theorem twFind_some {t : Int} {s : ByteArray} (h : twFind t = some s) : ∃ r ∈ tw, (r.1 : Int) = t ∧ r.2 = s := by
  unfold twFind at h
  obtain ⟨r, hr, rfl⟩ := Option.map_eq_some_iff.1 h
  exact ⟨r, List.mem_of_find?_eq_some hr, by simpa using List.find?_some hr, rfl⟩

end Go.Proofs.YtfacfhigehdejaaGreatDoor
