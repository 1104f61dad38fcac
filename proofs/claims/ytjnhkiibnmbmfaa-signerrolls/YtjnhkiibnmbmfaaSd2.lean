import Derived.Test.YtjnhkiibnmbmfaaSd1
import Derived.Deep.RegionWith
namespace Go.Proofs.Ytjnhkiibnmbmfaa
set_option linter.unusedVariables false
open Go.RowKit Go.Shelf Go.Proofs.Ytjnhkiibnmbmfaa.Nm

theorem Try.infoByte : (Try.prog.info? 5).map (fun i => (i.zero, i.size, i.bytes)) = some (some (.int .u8 0), 1, 1) := by kernel_rfl

theorem holdsB_made (w : World) (n : Nat) (t : TypeId) : HoldsB (w.alloc (.cells (madeCells #[.int .u8 0] n) t)) w.heap.size n (fun _ => 0) := by
  refine ⟨by simp, fun j hj => ?_, fun j hj => ?_⟩
  · rw [World.cell?_alloc_mark]
    simp [madeCells, hj, Nat.mod_one]
  · have : (w.alloc (.cells (madeCells #[.int .u8 0] n) t)).heap[w.heap.size]? = some (.cells (madeCells #[.int .u8 0] n) t) := by
      show (w.heap.push _)[w.heap.size]? = _
      simp
    simp only [World.frozen?, this]
    simp

theorem byte_shift (v m : Nat) : (v : Int) / 2 ^ (8 * m) % 256 = ((v / 256 ^ m % 256 : Nat) : Int) := by
  rw [show (256 : Nat) ^ m = 2 ^ (8 * m) by rw [Nat.pow_mul]]
  generalize 8 * m = e
  simp

set_option maxRecDepth 100000 in
set_option maxHeartbeats 1000000 in
/-- spell.Bytes -/
theorem spellBytes_any (n v : Nat) (w : World) (hn : n ≤ 8) (hv : v ≤ 9007199254740992) :
    Calls Try.prog 34 #[.int .i64 (v : Int), .int .i64 (n : Int)] w fun e w' => e = .returned (.string (nB v n)) ∧ Below w.heap.size w w' := by
  obtain ⟨i0, hi, hz0, hz1, hz2⟩ := info_parts Try.infoByte
  have hmk : ∀ u : World, (Instr.makeSlice 62 (.int .i64 (n : Int)) (.int .i64 (n : Int))).run Try.prog u = .ok (.slice (some ⟨u.heap.size, 0, none⟩) n n) (u.alloc (.cells (madeCells #[.int .u8 0] n) 5)) := fun u => by
    have h := run_make (P := Try.prog) u 62 5 i0 (.int .u8 0) Try.underlying62 hi hz0 .i64 .i64 (n : Int) (n : Int) (by omega) (by omega) (by rw [hz2]; omega) (by omega)
    simpa [hz1, Value.cells] using h
  go_enter Try.func34, Try.ntmps34
  go_wp2
  clear hmk
  go_loopw [11] (fun i wr => ∃ k : Nat, i = .int .i64 k ∧ k ≤ n ∧ HoldsB wr w.heap.size n (fun j => if j < k then v / 256 ^ (n - 1 - j) % 256 else 0) ∧ Below w.heap.size w wr)
    (fun i _ => n - (intOf i).toNat)
  case atStart => exact ⟨0, rfl, Nat.zero_le _, (holdsB_made _ _ _).congr (by simp), (Below.refl _ _).alloc (Nat.le_refl _) _⟩
  case round =>
    obtain ⟨k, rfl, hk, hH, hBr⟩ := hrel
    by_cases hlt : k < n
    · have hc := hH.cell k hlt
      have hfr := hH.free k hlt
      simp only [Nat.lt_irrefl, if_false] at hc
      go_wp2_with fail
      rw [byte_shift v (n - 1 - k)]
      refine ⟨⟨k + 1, by go_num, by omega, (hH.set k (v / 256 ^ (n - 1 - k) % 256) hlt).congr fun j hj => ?_, hBr.setCell (p := ⟨w.heap.size, k, none⟩) (Nat.le_refl _) _⟩, by simp [intOf]; omega⟩
      by_cases e : j = k
      · subst e; rw [if_pos rfl, if_pos (by omega)]
      · rw [if_neg e]
        by_cases e2 : j < k
        · rw [if_pos e2, if_pos (by omega)]
        · rw [if_neg e2, if_neg (by omega)]
    · obtain rfl : k = n := by omega
      have hst : ∀ cap, (convert 62 9 (.slice (some ⟨w.heap.size, 0, none⟩) k cap)).run Try.prog wr = .ok (.string (nB v k)) wr := fun cap => by
        have hz := nB_size v k
        have hH' : HoldsB wr w.heap.size (nB v k).size (fun j => if j < k then v / 256 ^ (k - 1 - j) % 256 else 0) := by rw [hz]; exact hH
        have h := hH'.str (fun j hj => by rw [hz] at hj; rw [if_pos hj, nB_bt _ _ _ hj]) cap
        rwa [hz] at h
      go_wp2
      go_ret
      exact ⟨rfl, hBr⟩

theorem one_b (W W' : World) (n : Nat) (hn : n < 256) (hb : Below (W.alloc (.cells #[.int .u8 (n : Int)] 5)).heap.size (W.alloc (.cells #[.int .u8 (n : Int)] 5)) W') : (convert 62 9 (.slice (some ⟨W.heap.size, 0, none⟩) 1 1)).run Try.prog W' = .ok (.string (bts [n])) W' := by
  have hlt : W.heap.size < (W.alloc (.cells #[.int .u8 (n : Int)] 5)).heap.size := by simp
  have hz : (bts [n]).size = 1 := rfl
  have hH : HoldsB W' W.heap.size (bts [n]).size (fun _ => n) := by
    refine ⟨Nat.lt_of_lt_of_le hlt hb.size, fun j hj => ?_, fun j hj => ?_⟩
    · obtain rfl : j = 0 := by omega
      rw [hb.cell (p := ⟨W.heap.size, 0, none⟩) hlt]
      exact (cell_new_l W _ _).1
    · obtain rfl : j = 0 := by omega
      rw [hb.frozen (p := ⟨W.heap.size, 0, none⟩) hlt]
      exact (cell_new_l W _ _).2
  exact hH.str (fun j hj => by obtain rfl : j = 0 := by omega
                               rw [bts_bt _ (by simpa using hn) 0 (by simp)]; rfl) 1

set_option maxRecDepth 100000 in
set_option maxHeartbeats 1000000 in
/-- gazetteerref1.Bytes -/
theorem refBytes_any : ∀ (n v : Nat) (w : World), n ≤ 8 → v ≤ 9007199254740992 →
    Calls Try.prog 36 #[.int .i64 (v : Int), .int .i64 (n : Int)] w fun e w' => e = .returned (.string (nB v n)) ∧ Below w.heap.size w w'
  | 0, v, w, hn, hv => by
    go_enter Try.func36, Try.ntmps36
    go_wp2
    go_ret
    exact ⟨rfl, Below.refl _ _⟩
  | n + 1, v, w, hn, hv => by
    have HIH := hide' (fun w => refBytes_any n (v / 256) w (by omega) (by omega))
    have hd : v % 256 < 256 := Nat.mod_lt _ (by omega)
    have hq : IntKind.i64.wrap ((v : Int) / 256) = ((v / 256 : Nat) : Int) := by rw [IntWalk.i64_in] <;> omega
    have hm : (v : Int).tmod 256 = ((v % 256 : Nat) : Int) := rfl
    have had : ∀ W : World, (Op.stringOp .add (nB (v / 256) n) (bts [v % 256])).run Try.prog W = .ok (.string (nB v (n + 1))) W := fun W => by
      rw [nB_succ]; exact run_string_add_sum W _ _ (by rw [nB_size, bts_size]; simp; omega)
    have hcw := fun (W W' : World) (hb : Below (W.alloc (.cells #[.int .u8 ((v % 256 : Nat) : Int)] 5)).heap.size (W.alloc (.cells #[.int .u8 ((v % 256 : Nat) : Int)] 5)) W') => one_b W W' (v % 256) hd hb
    have hcv : ∀ W : World, (convert 62 9 (.slice (some ⟨W.heap.size, 0, none⟩) 1 1)).run Try.prog (W.alloc (.cells #[.int .u8 ((v % 256 : Nat) : Int)] 5)) = .ok (.string (bts [v % 256])) (W.alloc (.cells #[.int .u8 ((v % 256 : Nat) : Int)] 5)) := fun W => hcw W _ (Below.refl _ _)
    have hu : IntKind.u8.wrap ((v % 256 : Nat) : Int) = ((v % 256 : Nat) : Int) := by rw [IntWalk.u8_in] <;> omega
    obtain ⟨R, hR⟩ : ∃ R : ByteArray, nB v (n + 1) = R := ⟨_, rfl⟩
    obtain ⟨D, hD⟩ : ∃ D : ByteArray, nB (v / 256) n = D := ⟨_, rfl⟩
    obtain ⟨C, hC⟩ : ∃ C : ByteArray, bts [v % 256] = C := ⟨_, rfl⟩
    rw [hD] at HIH
    simp only [hD, hR, hC] at had hcv hcw ⊢
    generalize v % 256 = d at *
    generalize v / 256 = q at *
    have hcd : ∀ W : World, (convert 62 9 (.slice (some ⟨W.heap.size, 0, none⟩) 1 1)).run Try.prog (W.alloc (.cells #[.int .u8 (d : Int)] 5)).drew = .ok (.string C) (W.alloc (.cells #[.int .u8 (d : Int)] 5)).drew := fun W => hcv W.drew
    have HCW := hide' hcw
    clear hcw hR hD hC
    obtain ⟨N, hN⟩ : ∃ N : Nat, n + 1 = N := ⟨_, rfl⟩
    rw [show (n : Int) = (N : Int) - 1 by omega] at HIH
    have hsb : IntKind.i64.wrap ((N : Int) - 1) = (N : Int) - 1 := by rw [IntWalk.i64_in] <;> omega
    have hne : ((N : Int) == 0) = false := by rw [beq_eq_false_iff_ne]; omega
    rw [hN] at hn ⊢
    clear hv hN
    go_enter Try.func36, Try.ntmps36
    go_wp2_with fail
    go_region_with (go_at_call 36; refine (HIH.out _).mono ?_; rintro e w5 ⟨rfl, hB5⟩; try (have hx5 : (convert 62 9 (.slice (some ⟨w.heap.size, 0, none⟩) 1 1)).run Try.prog w5 = .ok (.string C) w5 := HCW.out w.drew w5 hB5))
    · go_wp2
      go_ret
      exact ⟨rfl, (bstep ((Below.refl _ w).drew) hB5 (Nat.le_refl _)).alloc (Nat.le_trans (Nat.le_refl _) hB5.size) _⟩
    · go_wp2
      go_ret
      exact ⟨rfl, bstep (((Below.refl _ w).alloc (Nat.le_refl _) _).drew) hB5 (by have := World.size_alloc w (.cells #[.int .u8 (d : Int)] 5); show w.heap.size ≤ (w.alloc _).heap.size; omega)⟩
    · go_wp2
      go_ret
      exact ⟨rfl, bstep (((Below.refl _ w).alloc (Nat.le_refl _) _).drew) hB5 (by have := World.size_alloc w (.cells #[.int .u8 (d : Int)] 5); show w.heap.size ≤ (w.alloc _).heap.size; omega)⟩
end Go.Proofs.Ytjnhkiibnmbmfaa
