import Derived.Test.YtennkhdhnbdbeaaGreatLowG
import Derived.Test.YtennkhdhnbdbeaaGreatMath13G
import Derived.Deep.RegionWith
namespace Go.Proofs.YtennkhdhnbdbeaaGreat.Nm
set_option linter.unusedVariables false

/-- one number of a digest behind k bytes -/
def hN (M P : Nat) (s : ByteArray) : Nat → Nat
  | 0 => 1
  | k + 1 => (hN M P s k * M + bt s k + 1) % P
theorem hN_lt (M P : Nat) (s : ByteArray) (hP : 1 < P) : ∀ k, hN M P s k < P
  | 0 => hP
  | k + 1 => Nat.mod_lt _ (by omega)

/-- a number as so many bytes, the highest first -/
def nB (v n : Nat) : ByteArray := bts ((List.range n).map fun i => v / 256 ^ (n - 1 - i) % 256)
theorem nB_size (v n : Nat) : (nB v n).size = n := by unfold nB; rw [bts_size]; simp
theorem nB_bt (v n i : Nat) (h : i < n) : bt (nB v n) i = v / 256 ^ (n - 1 - i) % 256 := by
  unfold nB
  rw [bts_bt _ (fun x hx => by obtain ⟨j, _, rfl⟩ := List.mem_map.1 hx; exact Nat.mod_lt _ (by omega)) i (by simpa using h)]
  simp
theorem nB_zero (v : Nat) : nB v 0 = ByteArray.empty := rfl
theorem nB_succ (v n : Nat) : nB v (n + 1) = nB (v / 256) n ++ bts [v % 256] := by
  unfold nB
  rw [List.range_succ, List.map_append, bts_append]
  congr 1
  · congr 1
    refine List.map_congr_left fun i hi => ?_
    have hi' : i < n := List.mem_range.1 hi
    rw [Nat.div_div_eq_div_mul, show n + 1 - 1 - i = (n - 1 - i) + 1 by omega, Nat.pow_succ, Nat.mul_comm (256 ^ (n - 1 - i)) 256]
  · simp

/-- a digest -/
def digB (s : ByteArray) : ByteArray := nB (hN 1000003 1099511627689 s s.size) 5 ++ nB (hN 999983 1099511627563 s s.size) 5
theorem digB_size (s : ByteArray) : (digB s).size = 10 := by unfold digB; rw [ByteArray.size_append, nB_size, nB_size]

/-- a name's hash -/
def hashB (n salt : ByteArray) : Nat → ByteArray
  | 0 => digB (foldB n ++ salt)
  | k + 1 => digB (hashB n salt k ++ salt)
theorem hashB_size (n salt : ByteArray) : ∀ k, (hashB n salt k).size = 10
  | 0 => digB_size _
  | k + 1 => digB_size _
end Go.Proofs.YtennkhdhnbdbeaaGreat.Nm
namespace Go.Proofs.YtennkhdhnbdbeaaGreat
open Go.RowKit Go.Shelf Go.Proofs.YtennkhdhnbdbeaaGreat.Nm

theorem wrap_three (z y : Nat) (hz : z ≤ 1152921504606846976) (hy : y < 256) : wrap64 (wrap64 ((z : Int) + (y : Int)) + 1) = ((z + y + 1 : Nat) : Int) := by
  have h1 : wrap64 ((z : Int) + (y : Int)) = (z : Int) + (y : Int) := Go.IntWalk.wrap64_in _ (by omega)
  have h2 : wrap64 ((z : Int) + (y : Int) + 1) = (z : Int) + (y : Int) + 1 := Go.IntWalk.wrap64_in _ (by omega)
  rw [h1, h2]
  omega
set_option maxRecDepth 100000 in
set_option maxHeartbeats 1000000 in
/-- gazetteerref4.half -/
theorem half_any (s : ByteArray) (M P : Nat) (w : World) (hs : s.size ≤ 1048576) (hM : M ≤ 1048576) (hP : 1 < P) (hP2 : P ≤ 1099511627776) :
    Calls Tryz.prog 102 #[.string s, .int .i64 (M : Int), .int .i64 (P : Int)] w fun e w' => e = .returned (.int .i64 (hN M P s s.size : Int)) ∧ w' = w := by
  go_enter Tryz.func102, Tryz.ntmps102
  go_wp2
  go_loop [7, 8] (fun a i => ∃ j : Nat, i = .int .i64 (j : Int) ∧ a = .int .i64 (hN M P s j : Int) ∧ j ≤ s.size) (fun _ i => s.size - (intOf i).toNat)
  case atStart => exact ⟨0, rfl, rfl, Nat.zero_le _⟩
  case round =>
    obtain ⟨j, rfl, rfl, hj⟩ := hrel
    by_cases hlt : j < s.size
    · obtain ⟨y, hy, hy256⟩ : ∃ y, bt s j = y ∧ y < 256 := ⟨_, rfl, bt_lt _ _⟩
      have hx := hN_lt M P s hP j
      have HE : Hid (hN M P s (j + 1) = (hN M P s j * M + y + 1) % P) := by unfold Hid; rw [hN, hy]
      generalize hN M P s j = x at *
      obtain ⟨z, hz⟩ : ∃ z : Nat, x * M = z := ⟨_, rfl⟩
      have hzl : z ≤ 1152921504606846976 := by rw [← hz]; exact Nat.le_trans (Nat.mul_le_mul (Nat.le_of_lt (Nat.lt_of_lt_of_le hx hP2)) hM) (by decide)
      have hzi : (x : Int) * (M : Int) = (z : Int) := by rw [← hz]; simp
      rw [hz] at HE
      have hP0 : ¬ (P : Int) = 0 := by omega
      go_wp2
      refine ⟨⟨j + 1, by go_num, ?_, by omega⟩, by simp [intOf]; omega⟩
      have e1 : wrap64 ((s[j].toNat : Nat) : Int) = (y : Int) := by rw [bt_eq hlt, hy]; exact Go.IntWalk.wrap64_in _ (by omega)
      have e2 := wrap_three z y hzl hy256
      have e3 : ((z + y + 1 : Nat) : Int).tmod (P : Int) = (((z + y + 1) % P : Nat) : Int) := rfl
      rw [e1, e2, e3, HE.out]
    · obtain rfl : j = s.size := by omega
      go_wp2
      go_ret
      exact ⟨rfl, rfl⟩
end Go.Proofs.YtennkhdhnbdbeaaGreat

namespace Go.Proofs.YtennkhdhnbdbeaaGreat
set_option linter.unusedVariables false
open Go.RowKit Go.Shelf Go.Proofs.YtennkhdhnbdbeaaGreat.Nm

theorem Tryz.infoByte : (Tryz.prog.info? 5).map (fun i => (i.zero, i.size, i.bytes)) = some (some (.int .u8 0), 1, 1) := by kernel_rfl

theorem holdsB_made (w : World) (n : Nat) (t : TypeId) : HoldsB (w.alloc (.cells (madeCells #[.int .u8 0] n) t)) w.heap.size n (fun _ => 0) := by
  refine ⟨by simp, fun j hj => ?_, fun j hj => ?_⟩
  · rw [World.cell?_alloc_mark]
    simp [madeCells, hj, Nat.mod_one]
  · have : (w.alloc (.cells (madeCells #[.int .u8 0] n) t)).heap[w.heap.size]? = some (.cells (madeCells #[.int .u8 0] n) t) := by
      show (w.heap.push _)[w.heap.size]? = _
      simp
    simp only [World.frozen?, this]
    simp

theorem byte_shift (v m : Nat) : (v : Int) / 2 ^ (8 * m) % 256 = ((v / 256 ^ m % 256 : Nat) : Int) := by
  rw [show (256 : Nat) ^ m = 2 ^ (8 * m) by rw [Nat.pow_mul]]
  generalize 8 * m = e
  simp

set_option maxRecDepth 100000 in
set_option maxHeartbeats 1000000 in
/-- spell.Bytes -/
theorem spellBytes_any (n v : Nat) (w : World) (hn : n ≤ 8) (hv : v ≤ 9007199254740992) :
    Calls Tryz.prog 32 #[.int .i64 (v : Int), .int .i64 (n : Int)] w fun e w' => e = .returned (.string (nB v n)) ∧ Below w.heap.size w w' := by
  obtain ⟨i0, hi, hz0, hz1, hz2⟩ := info_parts Tryz.infoByte
  have hmk : ∀ u : World, (Instr.makeSlice 73 (.int .i64 (n : Int)) (.int .i64 (n : Int))).run Tryz.prog u = .ok (.slice (some ⟨u.heap.size, 0, none⟩) n n) (u.alloc (.cells (madeCells #[.int .u8 0] n) 5)) := fun u => by
    have h := run_make (P := Tryz.prog) u 73 5 i0 (.int .u8 0) Tryz.underlying73 hi hz0 .i64 .i64 (n : Int) (n : Int) (by omega) (by omega) (by rw [hz2]; omega) (by omega)
    simpa [hz1, Value.cells] using h
  go_enter Tryz.func32, Tryz.ntmps32
  go_wp2
  clear hmk
  go_loopw [11] (fun i wr => ∃ k : Nat, i = .int .i64 k ∧ k ≤ n ∧ HoldsB wr w.heap.size n (fun j => if j < k then v / 256 ^ (n - 1 - j) % 256 else 0) ∧ Below w.heap.size w wr)
    (fun i _ => n - (intOf i).toNat)
  case atStart => exact ⟨0, rfl, Nat.zero_le _, (holdsB_made _ _ _).congr (by simp), (Below.refl _ _).alloc (Nat.le_refl _) _⟩
  case round =>
    obtain ⟨k, rfl, hk, hH, hBr⟩ := hrel
    by_cases hlt : k < n
    · have hc := hH.cell k hlt
      have hfr := hH.free k hlt
      simp only [Nat.lt_irrefl, if_false] at hc
      go_wp2_with fail
      rw [byte_shift v (n - 1 - k)]
      refine ⟨⟨k + 1, by go_num, by omega, (hH.set k (v / 256 ^ (n - 1 - k) % 256) hlt).congr fun j hj => ?_, hBr.setCell (p := ⟨w.heap.size, k, none⟩) (Nat.le_refl _) _⟩, by simp [intOf]; omega⟩
      by_cases e : j = k
      · subst e; rw [if_pos rfl, if_pos (by omega)]
      · rw [if_neg e]
        by_cases e2 : j < k
        · rw [if_pos e2, if_pos (by omega)]
        · rw [if_neg e2, if_neg (by omega)]
    · obtain rfl : k = n := by omega
      have hst : ∀ cap, (convert 73 9 (.slice (some ⟨w.heap.size, 0, none⟩) k cap)).run Tryz.prog wr = .ok (.string (nB v k)) wr := fun cap => by
        have hz := nB_size v k
        have hH' : HoldsB wr w.heap.size (nB v k).size (fun j => if j < k then v / 256 ^ (k - 1 - j) % 256 else 0) := by rw [hz]; exact hH
        have h := hH'.str (fun j hj => by rw [hz] at hj; rw [if_pos hj, nB_bt _ _ _ hj]) cap
        rwa [hz] at h
      go_wp2
      go_ret
      exact ⟨rfl, hBr⟩

theorem one_b (W W' : World) (n : Nat) (hn : n < 256) (hb : Below (W.alloc (.cells #[.int .u8 (n : Int)] 5)).heap.size (W.alloc (.cells #[.int .u8 (n : Int)] 5)) W') : (convert 73 9 (.slice (some ⟨W.heap.size, 0, none⟩) 1 1)).run Tryz.prog W' = .ok (.string (bts [n])) W' := by
  have hlt : W.heap.size < (W.alloc (.cells #[.int .u8 (n : Int)] 5)).heap.size := by simp
  have hz : (bts [n]).size = 1 := rfl
  have hH : HoldsB W' W.heap.size (bts [n]).size (fun _ => n) := by
    refine ⟨Nat.lt_of_lt_of_le hlt hb.size, fun j hj => ?_, fun j hj => ?_⟩
    · obtain rfl : j = 0 := by omega
      rw [hb.cell (p := ⟨W.heap.size, 0, none⟩) hlt]
      exact (cell_new_l W _ _).1
    · obtain rfl : j = 0 := by omega
      rw [hb.frozen (p := ⟨W.heap.size, 0, none⟩) hlt]
      exact (cell_new_l W _ _).2
  exact hH.str (fun j hj => by obtain rfl : j = 0 := by omega
                               rw [bts_bt _ (by simpa using hn) 0 (by simp)]; rfl) 1

set_option maxRecDepth 100000 in
set_option maxHeartbeats 1000000 in
/-- gazetteerref1.Bytes -/
theorem refBytes_any : ∀ (n v : Nat) (w : World), n ≤ 8 → v ≤ 9007199254740992 →
    Calls Tryz.prog 37 #[.int .i64 (v : Int), .int .i64 (n : Int)] w fun e w' => e = .returned (.string (nB v n)) ∧ Below w.heap.size w w'
  | 0, v, w, hn, hv => by
    go_enter Tryz.func37, Tryz.ntmps37
    go_wp2
    go_ret
    exact ⟨rfl, Below.refl _ _⟩
  | n + 1, v, w, hn, hv => by
    have HIH := hide' (fun w => refBytes_any n (v / 256) w (by omega) (by omega))
    have hd : v % 256 < 256 := Nat.mod_lt _ (by omega)
    have hq : IntKind.i64.wrap ((v : Int) / 256) = ((v / 256 : Nat) : Int) := by rw [IntWalk.i64_in] <;> omega
    have hm : (v : Int).tmod 256 = ((v % 256 : Nat) : Int) := rfl
    have had : ∀ W : World, (Op.stringOp .add (nB (v / 256) n) (bts [v % 256])).run Tryz.prog W = .ok (.string (nB v (n + 1))) W := fun W => by
      rw [nB_succ]; exact run_string_add_sum W _ _ (by rw [nB_size, bts_size]; simp; omega)
    have hcw := fun (W W' : World) (hb : Below (W.alloc (.cells #[.int .u8 ((v % 256 : Nat) : Int)] 5)).heap.size (W.alloc (.cells #[.int .u8 ((v % 256 : Nat) : Int)] 5)) W') => one_b W W' (v % 256) hd hb
    have hcv : ∀ W : World, (convert 73 9 (.slice (some ⟨W.heap.size, 0, none⟩) 1 1)).run Tryz.prog (W.alloc (.cells #[.int .u8 ((v % 256 : Nat) : Int)] 5)) = .ok (.string (bts [v % 256])) (W.alloc (.cells #[.int .u8 ((v % 256 : Nat) : Int)] 5)) := fun W => hcw W _ (Below.refl _ _)
    have hu : IntKind.u8.wrap ((v % 256 : Nat) : Int) = ((v % 256 : Nat) : Int) := by rw [IntWalk.u8_in] <;> omega
    obtain ⟨R, hR⟩ : ∃ R : ByteArray, nB v (n + 1) = R := ⟨_, rfl⟩
    obtain ⟨D, hD⟩ : ∃ D : ByteArray, nB (v / 256) n = D := ⟨_, rfl⟩
    obtain ⟨C, hC⟩ : ∃ C : ByteArray, bts [v % 256] = C := ⟨_, rfl⟩
    rw [hD] at HIH
    simp only [hD, hR, hC] at had hcv hcw ⊢
    generalize v % 256 = d at *
    generalize v / 256 = q at *
    have hcd : ∀ W : World, (convert 73 9 (.slice (some ⟨W.heap.size, 0, none⟩) 1 1)).run Tryz.prog (W.alloc (.cells #[.int .u8 (d : Int)] 5)).drew = .ok (.string C) (W.alloc (.cells #[.int .u8 (d : Int)] 5)).drew := fun W => hcv W.drew
    have HCW := hide' hcw
    clear hcw hR hD hC
    obtain ⟨N, hN⟩ : ∃ N : Nat, n + 1 = N := ⟨_, rfl⟩
    rw [show (n : Int) = (N : Int) - 1 by omega] at HIH
    have hsb : IntKind.i64.wrap ((N : Int) - 1) = (N : Int) - 1 := by rw [IntWalk.i64_in] <;> omega
    have hne : ((N : Int) == 0) = false := by rw [beq_eq_false_iff_ne]; omega
    rw [hN] at hn ⊢
    clear hv hN
    go_enter Tryz.func37, Tryz.ntmps37
    go_wp2_with fail
    go_region_with (go_at_call 37; refine (HIH.out _).mono ?_; rintro e w5 ⟨rfl, hB5⟩; try (have hx5 : (convert 73 9 (.slice (some ⟨w.heap.size, 0, none⟩) 1 1)).run Tryz.prog w5 = .ok (.string C) w5 := HCW.out w.drew w5 hB5))
    · go_wp2
      go_ret
      exact ⟨rfl, (bstep ((Below.refl _ w).drew) hB5 (Nat.le_refl _)).alloc (Nat.le_trans (Nat.le_refl _) hB5.size) _⟩
    · go_wp2
      go_ret
      exact ⟨rfl, bstep (((Below.refl _ w).alloc (Nat.le_refl _) _).drew) hB5 (by have := World.size_alloc w (.cells #[.int .u8 (d : Int)] 5); show w.heap.size ≤ (w.alloc _).heap.size; omega)⟩
    · go_wp2
      go_ret
      exact ⟨rfl, bstep (((Below.refl _ w).alloc (Nat.le_refl _) _).drew) hB5 (by have := World.size_alloc w (.cells #[.int .u8 (d : Int)] 5); show w.heap.size ≤ (w.alloc _).heap.size; omega)⟩
end Go.Proofs.YtennkhdhnbdbeaaGreat
