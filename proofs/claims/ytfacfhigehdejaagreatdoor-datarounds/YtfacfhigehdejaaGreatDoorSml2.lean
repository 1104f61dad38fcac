import Derived.Test.YtfacfhigehdejaaGreatDoorLowG
namespace Go.Proofs.YtfacfhigehdejaaGreatDoor
set_option linter.unusedVariables false
open Go.RowKit Go.Shelf Go.Proofs.YtfacfhigehdejaaGreatDoor.Nm

set_option maxRecDepth 100000 in
set_option maxHeartbeats 1000000 in
/-- spell.Small, of longer texts -/
theorem small_big (s : ByteArray) (w : World) (hs : s.size ≤ 4194304) :
    Calls Tryz.prog 23 #[.string s] w fun e w' => e = .returned (.string (lowB s)) ∧ Below w.heap.size w w' := by
  have hcv := fun w' => run_bytes_of_string (P := Tryz.prog) w' 9 69 5 s Tryz.underlying9 Tryz.underlying69 Tryz.underlying5
  go_enter Tryz.func23, Tryz.ntmps23
  go_wp2
  go_loopw [10] (fun i wr => ∃ k : Nat, i = .int .i64 k ∧ k ≤ s.size ∧ HoldsB wr w.heap.size s.size (fun j => if j < k then lowN (bt s j) else bt s j) ∧ Below w.heap.size w wr)
    (fun i _ => s.size - (intOf i).toNat)
  case atStart => exact ⟨0, rfl, Nat.zero_le _, ((holdsB_new _ _ _ _).drew).congr (by simp), ((Below.refl _ _).alloc (Nat.le_refl _) _).drew⟩
  case round =>
    obtain ⟨k, rfl, hk, hH, hBr⟩ := hrel
    by_cases hlt : k < s.size
    · have hc := hH.cell k hlt
      have hfr := hH.free k hlt
      simp only [Nat.lt_irrefl, if_false] at hc
      obtain ⟨x, hx, hx256⟩ : ∃ x, bt s k = x ∧ x < 256 := ⟨_, rfl, bt_lt _ _⟩
      rw [hx] at hc
      have HX : Hid (bt s k = x) := hx
      clear hx
      have hnext : ∀ (W : World) (y : Nat), y = lowN x → HoldsB W w.heap.size s.size (fun j => if j = k then y else if j < k then lowN (bt s j) else bt s j) → HoldsB W w.heap.size s.size (fun j => if j < k + 1 then lowN (bt s j) else bt s j) := by
        intro W y hy h
        refine h.congr fun j _ => ?_
        by_cases e : j = k
        · subst e; rw [if_pos rfl, if_pos (by omega), hy, HX.out]
        · rw [if_neg e]
          by_cases e2 : j < k
          · rw [if_pos e2, if_pos (by omega)]
          · rw [if_neg e2, if_neg (by omega)]
      have hstay : ∀ (W : World), lowN x = x → HoldsB W w.heap.size s.size (fun j => if j < k then lowN (bt s j) else bt s j) → HoldsB W w.heap.size s.size (fun j => if j < k + 1 then lowN (bt s j) else bt s j) := by
        intro W hy h
        refine h.congr fun j _ => ?_
        by_cases e : j = k
        · subst e; rw [if_neg (by omega), if_pos (by omega), HX.out, hy]
        · by_cases e2 : j < k
          · rw [if_pos e2, if_pos (by omega)]
          · rw [if_neg e2, if_neg (by omega)]
      have HNX := hide' hnext
      have HST := hide' hstay
      clear hnext hstay
      by_cases h65 : 65 ≤ x
      · by_cases h90 : x ≤ 90
        · go_wp2
          go_roundw
          case rel => exact ⟨k + 1, by go_num, hlt, HNX.out _ (x + 32) (by unfold lowN; rw [if_pos ⟨h65, h90⟩]) (hH.set k (x + 32) hlt), hBr.setCell (p := ⟨w.heap.size, k, none⟩) (Nat.le_refl _) _⟩
          case measure => simp [intOf]; omega
        · have h90' : 90 < x := by omega
          go_wp2
          go_roundw
          case rel => exact ⟨k + 1, by go_num, hlt, HST.out _ (by unfold lowN; rw [if_neg (by omega)]) hH, hBr⟩
          case measure => simp [intOf]; omega
      · have h65' : x < 65 := by omega
        go_wp2
        go_roundw
        case rel => exact ⟨k + 1, by go_num, hlt, HST.out _ (by unfold lowN; rw [if_neg (by omega)]) hH, hBr⟩
        case measure => simp [intOf]; omega
    · have hst : ∀ cap, (convert 69 9 (.slice (some ⟨w.heap.size, 0, none⟩) s.size cap)).run Tryz.prog wr = .ok (.string (lowB s)) wr := fun cap => by
        have hz := lowB_size s
        rw [← hz] at hH ⊢
        exact hH.str (fun j hj => by rw [if_pos (by omega), lowB_bt]) cap
      go_wp2
      go_ret
      exact ⟨rfl, hBr⟩
end Go.Proofs.YtfacfhigehdejaaGreatDoor
