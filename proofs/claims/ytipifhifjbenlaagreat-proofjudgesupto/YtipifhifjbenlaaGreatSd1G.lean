import Derived.Test.YtipifhifjbenlaaGreatLowG
import Derived.Test.YtipifhifjbenlaaGreatMath13G
import Derived.Deep.RegionWith
namespace Go.Proofs.YtipifhifjbenlaaGreat.Nm
set_option linter.unusedVariables false

/-- one number of a digest behind k bytes -/
def hN (M P : Nat) (s : ByteArray) : Nat → Nat
  | 0 => 1
  | k + 1 => (hN M P s k * M + bt s k + 1) % P
theorem hN_lt (M P : Nat) (s : ByteArray) (hP : 1 < P) : ∀ k, hN M P s k < P
  | 0 => hP
  | k + 1 => Nat.mod_lt _ (by omega)

/-- a number as so many bytes, the highest first -/
def nB (v n : Nat) : ByteArray := bts ((List.range n).map fun i => v / 256 ^ (n - 1 - i) % 256)
theorem nB_size (v n : Nat) : (nB v n).size = n := by unfold nB; rw [bts_size]; simp
theorem nB_bt (v n i : Nat) (h : i < n) : bt (nB v n) i = v / 256 ^ (n - 1 - i) % 256 := by
  unfold nB
  rw [bts_bt _ (fun x hx => by obtain ⟨j, _, rfl⟩ := List.mem_map.1 hx; exact Nat.mod_lt _ (by omega)) i (by simpa using h)]
  simp
theorem nB_zero (v : Nat) : nB v 0 = ByteArray.empty := rfl
theorem nB_succ (v n : Nat) : nB v (n + 1) = nB (v / 256) n ++ bts [v % 256] := by
  unfold nB
  rw [List.range_succ, List.map_append, bts_append]
  congr 1
  · congr 1
    refine List.map_congr_left fun i hi => ?_
    have hi' : i < n := List.mem_range.1 hi
    rw [Nat.div_div_eq_div_mul, show n + 1 - 1 - i = (n - 1 - i) + 1 by omega, Nat.pow_succ, Nat.mul_comm (256 ^ (n - 1 - i)) 256]
  · simp

/-- a digest -/
def digB (s : ByteArray) : ByteArray := nB (hN 1000003 1099511627689 s s.size) 5 ++ nB (hN 999983 1099511627563 s s.size) 5
theorem digB_size (s : ByteArray) : (digB s).size = 10 := by unfold digB; rw [ByteArray.size_append, nB_size, nB_size]

/-- a name's hash -/
def hashB (n salt : ByteArray) : Nat → ByteArray
  | 0 => digB (foldB n ++ salt)
  | k + 1 => digB (hashB n salt k ++ salt)
theorem hashB_size (n salt : ByteArray) : ∀ k, (hashB n salt k).size = 10
  | 0 => digB_size _
  | k + 1 => digB_size _
end Go.Proofs.YtipifhifjbenlaaGreat.Nm
namespace Go.Proofs.YtipifhifjbenlaaGreat
open Go.RowKit Go.Shelf Go.Proofs.YtipifhifjbenlaaGreat.Nm

theorem wrap_three (z y : Nat) (hz : z ≤ 1152921504606846976) (hy : y < 256) : wrap64 (wrap64 ((z : Int) + (y : Int)) + 1) = ((z + y + 1 : Nat) : Int) := by
  have h1 : wrap64 ((z : Int) + (y : Int)) = (z : Int) + (y : Int) := Go.IntWalk.wrap64_in _ (by omega)
  have h2 : wrap64 ((z : Int) + (y : Int) + 1) = (z : Int) + (y : Int) + 1 := Go.IntWalk.wrap64_in _ (by omega)
  rw [h1, h2]
  omega
set_option maxRecDepth 100000 in
set_option maxHeartbeats 1000000 in
/-- gazetteerref4.half -/
theorem half_any (s : ByteArray) (M P : Nat) (w : World) (hs : s.size ≤ 1048576) (hM : M ≤ 1048576) (hP : 1 < P) (hP2 : P ≤ 1099511627776) :
    Calls Tryz.prog 79 #[.string s, .int .i64 (M : Int), .int .i64 (P : Int)] w fun e w' => e = .returned (.int .i64 (hN M P s s.size : Int)) ∧ w' = w := by
  go_enter Tryz.func79, Tryz.ntmps79
  go_wp2
  go_loop [7, 8] (fun a i => ∃ j : Nat, i = .int .i64 (j : Int) ∧ a = .int .i64 (hN M P s j : Int) ∧ j ≤ s.size) (fun _ i => s.size - (intOf i).toNat)
  case atStart => exact ⟨0, rfl, rfl, Nat.zero_le _⟩
  case round =>
    obtain ⟨j, rfl, rfl, hj⟩ := hrel
    by_cases hlt : j < s.size
    · obtain ⟨y, hy, hy256⟩ : ∃ y, bt s j = y ∧ y < 256 := ⟨_, rfl, bt_lt _ _⟩
      have hx := hN_lt M P s hP j
      have HE : Hid (hN M P s (j + 1) = (hN M P s j * M + y + 1) % P) := by unfold Hid; rw [hN, hy]
      generalize hN M P s j = x at *
      obtain ⟨z, hz⟩ : ∃ z : Nat, x * M = z := ⟨_, rfl⟩
      have hzl : z ≤ 1152921504606846976 := by rw [← hz]; exact Nat.le_trans (Nat.mul_le_mul (Nat.le_of_lt (Nat.lt_of_lt_of_le hx hP2)) hM) (by decide)
      have hzi : (x : Int) * (M : Int) = (z : Int) := by rw [← hz]; simp
      rw [hz] at HE
      have hP0 : ¬ (P : Int) = 0 := by omega
      go_wp2
      refine ⟨⟨j + 1, by go_num, ?_, by omega⟩, by simp [intOf]; omega⟩
      have e1 : wrap64 ((s[j].toNat : Nat) : Int) = (y : Int) := by rw [bt_eq hlt, hy]; exact Go.IntWalk.wrap64_in _ (by omega)
      have e2 := wrap_three z y hzl hy256
      have e3 : ((z + y + 1 : Nat) : Int).tmod (P : Int) = (((z + y + 1) % P : Nat) : Int) := rfl
      rw [e1, e2, e3, HE.out]
    · obtain rfl : j = s.size := by omega
      go_wp2
      go_ret
      exact ⟨rfl, rfl⟩
end Go.Proofs.YtipifhifjbenlaaGreat

namespace Go.Proofs.YtipifhifjbenlaaGreat
set_option linter.unusedVariables false
open Go.RowKit Go.Shelf Go.Proofs.YtipifhifjbenlaaGreat.Nm

theorem Tryz.infoByte : (Tryz.prog.info? 5).map (fun i => (i.zero, i.size, i.bytes)) = some (some (.int .u8 0), 1, 1) := by kernel_rfl

theorem holdsB_made (w : World) (n : Nat) (t : TypeId) : HoldsB (w.alloc (.cells (madeCells #[.int .u8 0] n) t)) w.heap.size n (fun _ => 0) := by
  refine ⟨by simp, fun j hj => ?_, fun j hj => ?_⟩
  · rw [World.cell?_alloc_mark]
    simp [madeCells, hj, Nat.mod_one]
  · have : (w.alloc (.cells (madeCells #[.int .u8 0] n) t)).heap[w.heap.size]? = some (.cells (madeCells #[.int .u8 0] n) t) := by
      show (w.heap.push _)[w.heap.size]? = _
      simp
    simp only [World.frozen?, this]
    simp

theorem byte_shift (v m : Nat) : (v : Int) / 2 ^ (8 * m) % 256 = ((v / 256 ^ m % 256 : Nat) : Int) := by
  rw [show (256 : Nat) ^ m = 2 ^ (8 * m) by rw [Nat.pow_mul]]
  generalize 8 * m = e
  simp

set_option maxRecDepth 100000 in
set_option maxHeartbeats 1000000 in
/-- spell.Bytes -/
theorem spellBytes_any (n v : Nat) (w : World) (hn : n ≤ 8) (hv : v ≤ 9007199254740992) :
    Calls Tryz.prog 174 #[.int .i64 (v : Int), .int .i64 (n : Int)] w fun e w' => e = .returned (.string (nB v n)) ∧ Below w.heap.size w w' := by
  obtain ⟨i0, hi, hz0, hz1, hz2⟩ := info_parts Tryz.infoByte
  have hmk : ∀ u : World, (Instr.makeSlice 96 (.int .i64 (n : Int)) (.int .i64 (n : Int))).run Tryz.prog u = .ok (.slice (some ⟨u.heap.size, 0, none⟩) n n) (u.alloc (.cells (madeCells #[.int .u8 0] n) 5)) := fun u => by
    have h := run_make (P := Tryz.prog) u 96 5 i0 (.int .u8 0) Tryz.underlying96 hi hz0 .i64 .i64 (n : Int) (n : Int) (by omega) (by omega) (by rw [hz2]; omega) (by omega)
    simpa [hz1, Value.cells] using h
  go_enter Tryz.func174, Tryz.ntmps174
  go_wp2
  clear hmk
  go_loopw [11] (fun i wr => ∃ k : Nat, i = .int .i64 k ∧ k ≤ n ∧ HoldsB wr w.heap.size n (fun j => if j < k then v / 256 ^ (n - 1 - j) % 256 else 0) ∧ Below w.heap.size w wr)
    (fun i _ => n - (intOf i).toNat)
  case atStart => exact ⟨0, rfl, Nat.zero_le _, (holdsB_made _ _ _).congr (by simp), (Below.refl _ _).alloc (Nat.le_refl _) _⟩
  case round =>
    obtain ⟨k, rfl, hk, hH, hBr⟩ := hrel
    by_cases hlt : k < n
    · have hc := hH.cell k hlt
      have hfr := hH.free k hlt
      simp only [Nat.lt_irrefl, if_false] at hc
      go_wp2_with fail
      rw [byte_shift v (n - 1 - k)]
      refine ⟨⟨k + 1, by go_num, by omega, (hH.set k (v / 256 ^ (n - 1 - k) % 256) hlt).congr fun j hj => ?_, hBr.setCell (p := ⟨w.heap.size, k, none⟩) (Nat.le_refl _) _⟩, by simp [intOf]; omega⟩
      by_cases e : j = k
      · subst e; rw [if_pos rfl, if_pos (by omega)]
      · rw [if_neg e]
        by_cases e2 : j < k
        · rw [if_pos e2, if_pos (by omega)]
        · rw [if_neg e2, if_neg (by omega)]
    · obtain rfl : k = n := by omega
      have hst : ∀ cap, (convert 96 9 (.slice (some ⟨w.heap.size, 0, none⟩) k cap)).run Tryz.prog wr = .ok (.string (nB v k)) wr := fun cap => by
        have hz := nB_size v k
        have hH' : HoldsB wr w.heap.size (nB v k).size (fun j => if j < k then v / 256 ^ (k - 1 - j) % 256 else 0) := by rw [hz]; exact hH
        have h := hH'.str (fun j hj => by rw [hz] at hj; rw [if_pos hj, nB_bt _ _ _ hj]) cap
        rwa [hz] at h
      go_wp2
      go_ret
      exact ⟨rfl, hBr⟩

theorem one_b (W W' : World) (n : Nat) (hn : n < 256) (hb : Below (W.alloc (.cells #[.int .u8 (n : Int)] 5)).heap.size (W.alloc (.cells #[.int .u8 (n : Int)] 5)) W') : (convert 96 9 (.slice (some ⟨W.heap.size, 0, none⟩) 1 1)).run Tryz.prog W' = .ok (.string (bts [n])) W' := by
  have hlt : W.heap.size < (W.alloc (.cells #[.int .u8 (n : Int)] 5)).heap.size := by simp
  have hz : (bts [n]).size = 1 := rfl
  have hH : HoldsB W' W.heap.size (bts [n]).size (fun _ => n) := by
    refine ⟨Nat.lt_of_lt_of_le hlt hb.size, fun j hj => ?_, fun j hj => ?_⟩
    · obtain rfl : j = 0 := by omega
      rw [hb.cell (p := ⟨W.heap.size, 0, none⟩) hlt]
      exact (cell_new_l W _ _).1
    · obtain rfl : j = 0 := by omega
      rw [hb.frozen (p := ⟨W.heap.size, 0, none⟩) hlt]
      exact (cell_new_l W _ _).2
  exact hH.str (fun j hj => by obtain rfl : j = 0 := by omega
                               rw [bts_bt _ (by simpa using hn) 0 (by simp)]; rfl) 1

set_option maxRecDepth 100000 in
set_option maxHeartbeats 1000000 in
/-- gazetteerref1.Bytes -/
theorem refBytes_any : ∀ (n v : Nat) (w : World), n ≤ 8 → v ≤ 9007199254740992 →
    Calls Tryz.prog 78 #[.int .i64 (v : Int), .int .i64 (n : Int)] w fun e w' => e = .returned (.string (nB v n)) ∧ Below w.heap.size w w'
  | 0, v, w, hn, hv => by
    go_enter Tryz.func78, Tryz.ntmps78
    go_wp2
    go_ret
    exact ⟨rfl, Below.refl _ _⟩
  | n + 1, v, w, hn, hv => by
    have HIH := hide' (fun w => refBytes_any n (v / 256) w (by omega) (by omega))
    have hd : v % 256 < 256 := Nat.mod_lt _ (by omega)
    have hq : IntKind.i64.wrap ((v : Int) / 256) = ((v / 256 : Nat) : Int) := by rw [IntWalk.i64_in] <;> omega
    have hm : (v : Int).tmod 256 = ((v % 256 : Nat) : Int) := rfl
    have had : ∀ W : World, (Op.stringOp .add (nB (v / 256) n) (bts [v % 256])).run Tryz.prog W = .ok (.string (nB v (n + 1))) W := fun W => by
      rw [nB_succ]; exact run_string_add_sum W _ _ (by rw [nB_size, bts_size]; simp; omega)
    have hcw := fun (W W' : World) (hb : Below (W.alloc (.cells #[.int .u8 ((v % 256 : Nat) : Int)] 5)).heap.size (W.alloc (.cells #[.int .u8 ((v % 256 : Nat) : Int)] 5)) W') => one_b W W' (v % 256) hd hb
    have hcv : ∀ W : World, (convert 96 9 (.slice (some ⟨W.heap.size, 0, none⟩) 1 1)).run Tryz.prog (W.alloc (.cells #[.int .u8 ((v % 256 : Nat) : Int)] 5)) = .ok (.string (bts [v % 256])) (W.alloc (.cells #[.int .u8 ((v % 256 : Nat) : Int)] 5)) := fun W => hcw W _ (Below.refl _ _)
    have hu : IntKind.u8.wrap ((v % 256 : Nat) : Int) = ((v % 256 : Nat) : Int) := by rw [IntWalk.u8_in] <;> omega
    obtain ⟨R, hR⟩ : ∃ R : ByteArray, nB v (n + 1) = R := ⟨_, rfl⟩
    obtain ⟨D, hD⟩ : ∃ D : ByteArray, nB (v / 256) n = D := ⟨_, rfl⟩
    obtain ⟨C, hC⟩ : ∃ C : ByteArray, bts [v % 256] = C := ⟨_, rfl⟩
    rw [hD] at HIH
    simp only [hD, hR, hC] at had hcv hcw ⊢
    generalize v % 256 = d at *
    generalize v / 256 = q at *
    have hcd : ∀ W : World, (convert 96 9 (.slice (some ⟨W.heap.size, 0, none⟩) 1 1)).run Tryz.prog (W.alloc (.cells #[.int .u8 (d : Int)] 5)).drew = .ok (.string C) (W.alloc (.cells #[.int .u8 (d : Int)] 5)).drew := fun W => hcv W.drew
    have HCW := hide' hcw
    clear hcw hR hD hC
    obtain ⟨N, hN⟩ : ∃ N : Nat, n + 1 = N := ⟨_, rfl⟩
    rw [show (n : Int) = (N : Int) - 1 by omega] at HIH
    have hsb : IntKind.i64.wrap ((N : Int) - 1) = (N : Int) - 1 := by rw [IntWalk.i64_in] <;> omega
    have hne : ((N : Int) == 0) = false := by rw [beq_eq_false_iff_ne]; omega
    rw [hN] at hn ⊢
    clear hv hN
    go_enter Tryz.func78, Tryz.ntmps78
    go_wp2_with fail
    go_region_with (go_at_call 78; refine (HIH.out _).mono ?_; rintro e w5 ⟨rfl, hB5⟩; try (have hx5 : (convert 96 9 (.slice (some ⟨w.heap.size, 0, none⟩) 1 1)).run Tryz.prog w5 = .ok (.string C) w5 := HCW.out w.drew w5 hB5))
    · go_wp2
      go_ret
      exact ⟨rfl, (bstep ((Below.refl _ w).drew) hB5 (Nat.le_refl _)).alloc (Nat.le_trans (Nat.le_refl _) hB5.size) _⟩
    · go_wp2
      go_ret
      exact ⟨rfl, bstep (((Below.refl _ w).alloc (Nat.le_refl _) _).drew) hB5 (by have := World.size_alloc w (.cells #[.int .u8 (d : Int)] 5); show w.heap.size ≤ (w.alloc _).heap.size; omega)⟩
    · go_wp2
      go_ret
      exact ⟨rfl, bstep (((Below.refl _ w).alloc (Nat.le_refl _) _).drew) hB5 (by have := World.size_alloc w (.cells #[.int .u8 (d : Int)] 5); show w.heap.size ≤ (w.alloc _).heap.size; omega)⟩
end Go.Proofs.YtipifhifjbenlaaGreat

namespace Go.Proofs.YtipifhifjbenlaaGreat
set_option linter.unusedVariables false
open Go.RowKit Go.Shelf Go.Proofs.YtipifhifjbenlaaGreat.Nm

/-- a sum in memory -/
structure SumAt (w : World) (B h M P : Nat) : Prop where
  lt : B < w.heap.size
  c0 : w.cell? ⟨B, 0, none⟩ = some (.int .u64 (h : Int))
  c1 : w.cell? ⟨B, 1, none⟩ = some (.int .u64 (M : Int))
  c2 : w.cell? ⟨B, 2, none⟩ = some (.int .u64 (P : Int))
  f0 : w.frozen? ⟨B, 0, none⟩ = false

theorem SumAt.set {w : World} {B h M P : Nat} (hS : SumAt w B h M P) (h' : Nat) : SumAt (w.setCell ⟨B, 0, none⟩ (.int .u64 (h' : Int))).drew B h' M P := by
  refine ⟨by simpa [World.setCell] using hS.lt, ?_, ?_, ?_, ?_⟩
  · exact World.cell?_setCell_same' _ _ _ (by rw [hS.c0]; rfl)
  · exact (World.cell?_setCell_other _ _ _ _ (fun e => by simp at e)).trans hS.c1
  · exact (World.cell?_setCell_other _ _ _ _ (fun e => by simp at e)).trans hS.c2
  · exact (World.frozen?_setCell _ _ _ _).trans hS.f0
theorem SumAt.other {w : World} {B C h M P : Nat} (hS : SumAt w B h M P) (hne : C ≠ B) (v : Value) : SumAt (w.setCell ⟨C, 0, none⟩ v).drew B h M P := by
  refine ⟨by simpa [World.setCell] using hS.lt, ?_, ?_, ?_, ?_⟩
  · exact (cell_far w _ _ _ hne).trans hS.c0
  · exact (cell_far w _ _ _ hne).trans hS.c1
  · exact (cell_far w _ _ _ hne).trans hS.c2
  · exact (World.frozen?_setCell _ _ _ _).trans hS.f0
theorem SumAt.below {w w' : World} {B h M P : Nat} (hS : SumAt w B h M P) (hb : Below w.heap.size w w') : SumAt w' B h M P :=
  ⟨Nat.lt_of_lt_of_le hS.lt hb.size, (hb.cell (p := ⟨B, 0, none⟩) hS.lt).trans hS.c0, (hb.cell (p := ⟨B, 1, none⟩) hS.lt).trans hS.c1, (hb.cell (p := ⟨B, 2, none⟩) hS.lt).trans hS.c2, (hb.frozen (p := ⟨B, 0, none⟩) hS.lt).trans hS.f0⟩

set_option maxRecDepth 100000 in
set_option maxHeartbeats 1000000 in
/-- (*sum).add -/
theorem add_any (B h M P b : Nat) (w : World) (hS : SumAt w B h M P) (hb : b < 256) (hh : h < P) (hM : M ≤ 1048576) (hP : 1 < P) (hP2 : P ≤ 1099511627776) :
    Calls Tryz.prog 172 #[.pointer (some ⟨B, 0, none⟩), .int .u8 (b : Int)] w fun e w' => e = .returned (.tuple #[]) ∧ Hid (w' = (w.setCell ⟨B, 0, none⟩ (.int .u64 (((h * M + b + 1) % P : Nat) : Int))).drew) := by
  obtain ⟨z, hz⟩ : ∃ z : Nat, h * M = z := ⟨_, rfl⟩
  have hzl : z ≤ 1152921504606846976 := by rw [← hz]; exact Nat.le_trans (Nat.mul_le_mul (Nat.le_of_lt (Nat.lt_of_lt_of_le hh hP2)) hM) (by decide)
  have hzi : (h : Int) * (M : Int) = (z : Int) := by rw [← hz]; simp
  have hP0 : ¬ (P : Int) = 0 := by omega
  have c0 := hS.c0
  have c1 := hS.c1
  have c2 := hS.c2
  have f0 := hS.f0
  rw [hz]
  go_enter Tryz.func172, Tryz.ntmps172
  go_wp2_with fail
  go_region
  go_end0
  refine ⟨rfl, ?_⟩
  unfold Hid
  rw [show (((z + b + 1) % P : Nat) : Int) = ((z : Int) + (b : Int) + 1) % (P : Int) by simp]

set_option maxRecDepth 100000 in
set_option maxHeartbeats 1000000 in
/-- (*sum).bytes -/
theorem sumBytes_any (B h M P : Nat) (w : World) (hS : SumAt w B h M P) (hh : h ≤ 1099511627776) :
    Calls Tryz.prog 173 #[.pointer (some ⟨B, 0, none⟩)] w fun e w' => e = .returned (.string (nB h 5)) ∧ Below w.heap.size w w' := by
  have c0 := hS.c0
  go_enter Tryz.func173, Tryz.ntmps173
  go_wp2_with (go_at_call 174; refine (spellBytes_any 5 h _ (by omega) (by omega)).mono ?_; rintro e w1 ⟨rfl, hB1⟩)
  go_ret
  exact ⟨rfl, hB1⟩

set_option maxRecDepth 100000 in
set_option maxHeartbeats 2000000 in
/-- seal.feed -/
theorem feed_any (s : ByteArray) (M P N R : Nat) (hM : M ≤ 1048576) (hP : 1 < P) (hP2 : P ≤ 1099511627776) (hN1 : N ≤ 1048576) (hR : 1 < R) (hR2 : R ≤ 1099511627776) (B C D : Nat) (w : World) (hs : s.size ≤ 2097152) (h1 : SumAt w B 1 M P) (h2 : SumAt w C 1 N R) (hBC : B ≠ C) (hBD : B ≠ D) (hCD : C ≠ D)
    (d0 : w.cell? ⟨D, 0, none⟩ = some (.func (Fn.func 172) #[.pointer (some ⟨B, 0, none⟩)] #[])) (d1 : w.cell? ⟨D, 1, none⟩ = some (.func (Fn.func 172) #[.pointer (some ⟨C, 0, none⟩)] #[])) (base : Nat) (hB : base ≤ B) (hC : base ≤ C) :
    Calls Tryz.prog 171 #[.string s, .slice (some ⟨D, 0, none⟩) 2 2] w fun e w' => e = .returned (.tuple #[]) ∧ SumAt w' B (hN M P s s.size) M P ∧ SumAt w' C (hN N R s s.size) N R ∧ Below base w w' := by
  have H1 := hide' h1
  have H2 := hide' h2
  have D0 := hide' d0
  have D1 := hide' d1
  have HN := hide' (And.intro hBC (And.intro hBD hCD))
  clear h1 h2 d0 d1 hBC hBD hCD
  go_enter Tryz.func171, Tryz.ntmps171
  go_wp2_with fail
  go_loopw [9] (fun i wr => ∃ k : Nat, i = .int .i64 k ∧ k ≤ s.size ∧ Hid (SumAt wr B (hN M P s k) M P ∧ SumAt wr C (hN N R s k) N R ∧ wr.cell? ⟨D, 0, none⟩ = w.cell? ⟨D, 0, none⟩ ∧ wr.cell? ⟨D, 1, none⟩ = w.cell? ⟨D, 1, none⟩ ∧ Below base w wr))
    (fun i _ => s.size - (intOf i).toNat)
  case atStart => exact ⟨0, rfl, Nat.zero_le _, H1.out, H2.out, rfl, rfl, Below.refl _ _⟩
  case round =>
    obtain ⟨k, rfl, hk, HR⟩ := hrel
    by_cases hlt : k < s.size
    · obtain ⟨y, hy, hy256⟩ : ∃ y, bt s k = y ∧ y < 256 := ⟨_, rfl, bt_lt _ _⟩
      have hby : (s[k]'hlt).toNat = y := (bt_eq hlt).trans hy
      have HE1 : Hid (hN M P s (k + 1) = (hN M P s k * M + y + 1) % P) := by unfold Hid; rw [hN, hy]
      have HE2 : Hid (hN N R s (k + 1) = (hN N R s k * N + y + 1) % R) := by unfold Hid; rw [hN, hy]
      have hl1 := hide' (hN_lt M P s hP k)
      have hl2 := hide' (hN_lt N R s hR k)
      have e0 : wr.cell? ⟨D, 0, none⟩ = _ := HR.out.2.2.1.trans D0.out
      generalize hN M P s k = x1 at *
      generalize hN N R s k = x2 at *
      go_wp2_with fail
      refine wp_loop_rounds 3 ?_
      rw [rounds_succ]
      go_wp2_with (go_at_call 172; refine (add_any B x1 _ _ y _ HR.out.1 hy256 hl1.out hM hP hP2).mono ?_; rintro e w1 ⟨rfl, HW⟩)
      have e1 : w1.cell? ⟨D, 1, none⟩ = some (.func (Fn.func 172) #[.pointer (some ⟨C, 0, none⟩)] #[]) := by rw [HW.out]; exact (cell_far wr _ _ _ HN.out.2.1).trans (HR.out.2.2.2.1.trans D1.out)
      rw [rounds_succ]
      go_wp2_with (go_at_call 172; refine (add_any C x2 _ _ y _ (by rw [HW.out]; exact HR.out.2.1.other HN.out.1 _) hy256 hl2.out hN1 hR hR2).mono ?_; rintro e w2 ⟨rfl, HW2⟩)
      rw [rounds_succ]
      go_wp2_with fail
      refine ⟨⟨k + 1, by go_num, by omega, ?_⟩, by simp [intOf]; omega⟩
      have h1 := HR.out.1
      have h2 := HR.out.2.1
      show SumAt _ _ _ _ _ ∧ _
      rw [HW2.out, HW.out, HE1.out, HE2.out]
      refine ⟨(h1.set _).other HN.out.1.symm _, (h2.other HN.out.1 _).set _, ?_, ?_, ?_⟩
      · exact (cell_far _ _ _ _ HN.out.2.2).trans ((cell_far wr _ _ _ HN.out.2.1).trans HR.out.2.2.1)
      · exact (cell_far _ _ _ _ HN.out.2.2).trans ((cell_far wr _ _ _ HN.out.2.1).trans HR.out.2.2.2.1)
      · exact (((HR.out.2.2.2.2.setCell (p := ⟨B, 0, none⟩) hB _).drew).setCell (p := ⟨C, 0, none⟩) hC _).drew
    · obtain rfl : k = s.size := by omega
      go_wp2
      go_end0
      exact ⟨rfl, HR.out.1, HR.out.2.1, HR.out.2.2.2.2⟩

theorem cells3 (w : World) (a b c : Value) (t : TypeId) : (w.alloc (.cells #[a, b, c] t)).cell? ⟨w.heap.size, 0, none⟩ = some a ∧ (w.alloc (.cells #[a, b, c] t)).cell? ⟨w.heap.size, 1, none⟩ = some b ∧ (w.alloc (.cells #[a, b, c] t)).cell? ⟨w.heap.size, 2, none⟩ = some c ∧ (w.alloc (.cells #[a, b, c] t)).frozen? ⟨w.heap.size, 0, none⟩ = false := by
  have : (w.alloc (.cells #[a, b, c] t)).heap[w.heap.size]? = some (.cells #[a, b, c] t) := by
    show (w.heap.push _)[w.heap.size]? = _
    simp
  refine ⟨?_, ?_, ?_, ?_⟩
  · rw [World.cell?_alloc_mark]; rfl
  · rw [World.cell?_alloc_mark]; rfl
  · rw [World.cell?_alloc_mark]; rfl
  · simp only [World.frozen?, this]; simp
theorem sum_new (w : World) (h M P : Nat) (t : TypeId) : SumAt (w.alloc (.cells #[.int .u64 (h : Int), .int .u64 (M : Int), .int .u64 (P : Int)] t)) w.heap.size h M P := by
  obtain ⟨h0, h1, h2, h3⟩ := cells3 w (.int .u64 (h : Int)) (.int .u64 (M : Int)) (.int .u64 (P : Int)) t
  exact ⟨by simp, h0, h1, h2, h3⟩
theorem SumAt.alloc {w : World} {B h M P : Nat} (hS : SumAt w B h M P) (o : Obj) : SumAt (w.alloc o) B h M P := hS.below ((Below.refl _ _).alloc (Nat.le_refl _) _)

/-- the world in which feed is called -/
theorem feed_start (W : World) (f g : Value) (a b c d : Nat) (t1 t2 t3 : TypeId) (W3 : World) (h3 : W3 = ((W.alloc (.cells #[.int .u64 1, .int .u64 (a : Int), .int .u64 (b : Int)] t1)).alloc (.cells #[.int .u64 1, .int .u64 (c : Int), .int .u64 (d : Int)] t2)).alloc (.cells #[f, g] t3)) :
    SumAt W3 W.heap.size 1 a b ∧ SumAt W3 (W.heap.size + 1) 1 c d ∧ W3.cell? ⟨W.heap.size + 1 + 1, 0, none⟩ = some f ∧ W3.cell? ⟨W.heap.size + 1 + 1, 1, none⟩ = some g ∧ Below W.heap.size W W3 := by
  subst h3
  have hz : ((W.alloc (.cells #[.int .u64 1, .int .u64 (a : Int), .int .u64 (b : Int)] t1)).alloc (.cells #[.int .u64 1, .int .u64 (c : Int), .int .u64 (d : Int)] t2)).heap.size = W.heap.size + 1 + 1 := by rw [World.size_alloc, World.size_alloc]
  refine ⟨((sum_new W 1 a b t1).alloc _).alloc _, ?_, ?_, ?_, ?_⟩
  · have := sum_new (W.alloc (.cells #[.int .u64 1, .int .u64 (a : Int), .int .u64 (b : Int)] t1)) 1 c d t2
    rw [World.size_alloc] at this
    exact this.alloc _
  · rw [← hz, World.cell?_alloc_mark]; rfl
  · rw [← hz, World.cell?_alloc_mark]; rfl
  · exact (((Below.refl _ _).alloc (Nat.le_refl _) _).alloc (by rw [World.size_alloc]; omega) _).alloc (by rw [hz]; omega) _

set_option maxRecDepth 100000 in
set_option maxHeartbeats 2000000 in
/-- seal.Digest -/
theorem digest_any (s : ByteArray) (w : World) (hs : s.size ≤ 2097152) :
    Calls Tryz.prog 170 #[.string s] w fun e w' => e = .returned (.string (digB s)) ∧ Below w.heap.size w w' := by
  have HF := hide' (feed_any s 1000003 1099511627689 999983 1099511627563 (by decide) (by decide) (by decide) (by decide) (by decide) (by decide))
  have l1 := hN_lt 1000003 1099511627689 s (by decide) s.size
  have l2 := hN_lt 999983 1099511627563 s (by decide) s.size
  have hd : digB s = nB (hN 1000003 1099511627689 s s.size) 5 ++ nB (hN 999983 1099511627563 s s.size) 5 := rfl
  rw [hd]
  clear hd
  generalize hN 1000003 1099511627689 s s.size = x1 at *
  generalize hN 999983 1099511627563 s s.size = x2 at *
  have had : ∀ W : World, (Op.stringOp .add (nB x1 5) (nB x2 5)).run Tryz.prog W = .ok (.string (nB x1 5 ++ nB x2 5)) W := fun W => run_string_add_sum W _ _ (by rw [nB_size, nB_size]; omega)
  have L1 := hide' l1
  have L2 := hide' l2
  clear l1 l2
  go_enter Tryz.func170, Tryz.ntmps170
  go_wp2_with fail
  obtain ⟨g1, g2, g3, g4, g5⟩ := feed_start w _ _ 1000003 1099511627689 999983 1099511627563 _ _ _ _ rfl
  refine (HF.out w.heap.size (w.heap.size + 1) (w.heap.size + 1 + 1) _ hs g1 g2 (by omega) (by omega) (by omega) g3 g4 w.heap.size (Nat.le_refl _) (by omega)).mono ?_
  rintro e w1 ⟨rfl, hs1, hs2, hB1⟩
  have HB := hide' (g5.trans hB1)
  clear g1 g2 g3 g4 g5 hB1
  go_wp2_with (go_at_call 173; refine (sumBytes_any _ _ _ _ _ hs1 (by have := L1.out; omega)).mono ?_; rintro e w2 ⟨rfl, hB2⟩)
  have hs2' := hs2.below hB2
  go_wp2_with (go_at_call 173; refine (sumBytes_any _ _ _ _ _ hs2' (by have := L2.out; omega)).mono ?_; rintro e w3 ⟨rfl, hB3⟩)
  go_ret
  exact ⟨rfl, bstep (bstep HB.out hB2 HB.out.size) hB3 (Nat.le_trans HB.out.size hB2.size)⟩
end Go.Proofs.YtipifhifjbenlaaGreat

namespace Go.Proofs.YtipifhifjbenlaaGreat
set_option linter.unusedVariables false
open Go.RowKit Go.Shelf Go.Proofs.YtipifhifjbenlaaGreat.Nm

set_option maxRecDepth 100000 in
set_option maxHeartbeats 2000000 in
/-- gazetteerref4.Digest -/
theorem refDigest_any (s : ByteArray) (w : World) (hs : s.size ≤ 1048576) :
    Calls Tryz.prog 59 #[.string s] w fun e w' => e = .returned (.string (digB s)) ∧ Below w.heap.size w w' := by
  have HH1 : Hid (∀ w : World, Calls Tryz.prog 79 #[.string s, .int .i64 1000003, .int .i64 1099511627689] w fun e w' => e = .returned (.int .i64 (hN 1000003 1099511627689 s s.size : Int)) ∧ w' = w) := fun w => half_any s 1000003 1099511627689 w hs (by decide) (by decide) (by decide)
  have HH2 : Hid (∀ w : World, Calls Tryz.prog 79 #[.string s, .int .i64 999983, .int .i64 1099511627563] w fun e w' => e = .returned (.int .i64 (hN 999983 1099511627563 s s.size : Int)) ∧ w' = w) := fun w => half_any s 999983 1099511627563 w hs (by decide) (by decide) (by decide)
  have l1 := hN_lt 1000003 1099511627689 s (by decide) s.size
  have l2 := hN_lt 999983 1099511627563 s (by decide) s.size
  have hd : digB s = nB (hN 1000003 1099511627689 s s.size) 5 ++ nB (hN 999983 1099511627563 s s.size) 5 := rfl
  rw [hd]
  clear hd
  generalize hN 1000003 1099511627689 s s.size = x1 at *
  generalize hN 999983 1099511627563 s s.size = x2 at *
  have had : ∀ W : World, (Op.stringOp .add (nB x1 5) (nB x2 5)).run Tryz.prog W = .ok (.string (nB x1 5 ++ nB x2 5)) W := fun W => run_string_add_sum W _ _ (by rw [nB_size, nB_size]; omega)
  have L1 := hide' l1
  have L2 := hide' l2
  clear l1 l2
  go_enter Tryz.func59, Tryz.ntmps59
  go_wp2_with (go_at_call 79; refine (HH1.out _).mono ?_; rintro e w1 ⟨rfl, rfl⟩)
  go_wp2_with (go_at_call 78; refine (refBytes_any 5 x1 _ (by omega) (by have := L1.out; omega)).mono ?_; rintro e w2 ⟨rfl, hB2⟩)
  go_wp2_with (go_at_call 79; refine (HH2.out _).mono ?_; rintro e w1 ⟨rfl, rfl⟩)
  go_wp2_with (go_at_call 78; refine (refBytes_any 5 x2 _ (by omega) (by have := L2.out; omega)).mono ?_; rintro e w3 ⟨rfl, hB3⟩)
  go_ret
  exact ⟨rfl, bstep hB2 hB3 hB2.size⟩

theorem foldB_size {n : ByteArray} (h : isN n = true) : (foldB n).size ≤ 255 := by
  rw [foldB_yes h, lowB_size]; exact ((isN_iff n).1 h).1

/-- what Hash answers -/
def hashR (n salt : ByteArray) (r : Int) : Value :=
  if isN n = true then (if salt.size ≤ 255 ∧ 0 ≤ r ∧ r ≤ 50 then .tuple #[.string (hashB n salt r.toNat), .int .i64 0] else .tuple #[.string ⟨#[]⟩, .int .i64 23]) else .tuple #[.string ⟨#[]⟩, .int .i64 1]
theorem hashR_name {n salt : ByteArray} {r : Int} (h : isN n = false) : hashR n salt r = .tuple #[.string ⟨#[]⟩, .int .i64 1] := by unfold hashR; rw [if_neg (by rw [h]; simp)]
theorem hashR_arg {n salt : ByteArray} {r : Int} (h : isN n = true) (h2 : ¬ (salt.size ≤ 255 ∧ 0 ≤ r ∧ r ≤ 50)) : hashR n salt r = .tuple #[.string ⟨#[]⟩, .int .i64 23] := by unfold hashR; rw [if_pos h, if_neg h2]
theorem hashR_ok {n salt : ByteArray} {r : Nat} (h : isN n = true) (h2 : salt.size ≤ 255) (h3 : r ≤ 50) : hashR n salt (r : Int) = .tuple #[.string (hashB n salt r), .int .i64 0] := by unfold hashR; rw [if_pos h, if_pos ⟨h2, by omega, by omega⟩]; simp
theorem chk_no {n : ByteArray} (h : isN n = false) : chk n = 1 := by unfold chk; rw [h]; rfl
theorem chk_yes {n : ByteArray} (h : isN n = true) : chk n = 0 := by unfold chk; rw [h]; rfl

set_option maxRecDepth 100000 in
set_option maxHeartbeats 2000000 in
/-- seal.Hash -/
theorem hash_any (n salt : ByteArray) (r : Int) (w : World) (hn : n.size ≤ 1048576) (hs : salt.size ≤ 1048576) :
    Calls Tryz.prog 165 #[.string n, .string salt, .int .i64 r] w fun e w' => e = .returned (hashR n salt r) ∧ Below w.heap.size w w' := by
  have hnm : n.size ≤ maxLen := by unfold maxLen; omega
  cases hN : isN n with
  | false =>
    have HC := hide' (chk_no hN)
    rw [hashR_name hN]
    clear hN
    go_enter Tryz.func165, Tryz.ntmps165
    go_wp2_with (go_at_call 61; refine (check_any n _ hnm).mono ?_; rw [HC.out]; rintro e w1 ⟨rfl, hB1⟩)
    go_ret2
    exact ⟨rfl, hB1⟩
  | true =>
    have HC := hide' (chk_yes hN)
    by_cases hok : salt.size ≤ 255 ∧ 0 ≤ r ∧ r ≤ 50
    · obtain ⟨h255, hr0, hr50⟩ := hok
      obtain ⟨k, rfl⟩ : ∃ k : Nat, r = (k : Int) := ⟨r.toNat, by omega⟩
      have hk : k ≤ 50 := by omega
      rw [hashR_ok hN h255 hk]
      have hf := foldB_size hN
      have had0 : ∀ W : World, (Op.stringOp .add (foldB n) salt).run Tryz.prog W = .ok (.string (foldB n ++ salt)) W := fun W => run_string_add_sum W _ _ (by omega)
      have hz0 : (foldB n ++ salt).size ≤ 2097152 := by rw [ByteArray.size_append]; omega
      have hadk : ∀ (j : Nat) (W : World), (Op.stringOp .add (hashB n salt j) salt).run Tryz.prog W = .ok (.string (hashB n salt j ++ salt)) W := fun j W => run_string_add_sum W _ _ (by rw [hashB_size]; omega)
      have hzk : ∀ j, (hashB n salt j ++ salt).size ≤ 2097152 := fun j => by rw [ByteArray.size_append, hashB_size]; omega
      have HZ0 := hide' hz0
      have HZK := hide' hzk
      have HE0 : Hid (hashB n salt 0 = digB (foldB n ++ salt)) := rfl
      clear hN hf hz0 hzk hr0 hr50
      go_enter Tryz.func165, Tryz.ntmps165
      go_wp2_with (first
        | (go_at_call 61; refine (check_any n _ hnm).mono ?_; rw [HC.out]; rintro e w1 ⟨rfl, hB1⟩)
        | (go_at_call 42; refine (fold_any n _ hnm).mono ?_; rintro e w2 ⟨rfl, hB2⟩)
        | (go_at_call 170; refine (digest_any _ _ HZ0.out).mono ?_; rintro e w3 ⟨rfl, hB3⟩))
      have hBw := bstep (bstep hB1 hB2 hB1.size) hB3 (Nat.le_trans hB1.size hB2.size)
      rw [← HE0.out]
      go_loopw [8, 29] (fun h i wr => ∃ j : Nat, i = .int .i64 (j : Int) ∧ j ≤ k ∧ h = .string (hashB n salt j) ∧ Below w.heap.size w wr)
        (fun _ i _ => k - (intOf i).toNat)
      case atStart => exact ⟨0, rfl, Nat.zero_le _, rfl, hBw⟩
      case round =>
        obtain ⟨j, rfl, hj, rfl, hBr⟩ := hrel
        by_cases hlt : j < k
        · have hadj := hadk j
          have HEJ : Hid (hashB n salt (j + 1) = digB (hashB n salt j ++ salt)) := rfl
          go_wp2_with (go_at_call 170; refine (digest_any _ _ (HZK.out j)).mono ?_; rintro e w5 ⟨rfl, hB5⟩)
          exact ⟨⟨j + 1, by go_num, by omega, by rw [HEJ.out], bstep hBr hB5 hBr.size⟩, by simp [intOf]; omega⟩
        · obtain rfl : j = k := by omega
          go_wp2
          go_ret2
          exact ⟨rfl, hBr⟩
    · rw [hashR_arg hN hok]
      clear hN
      have hok' : 255 < salt.size ∨ (salt.size ≤ 255 ∧ r < 0) ∨ (salt.size ≤ 255 ∧ 0 ≤ r ∧ 50 < r) := by omega
      clear hok
      rcases hok' with h1 | ⟨h1, h2⟩ | ⟨h1, h2, h3⟩
      all_goals
        go_enter Tryz.func165, Tryz.ntmps165
        go_wp2_with (go_at_call 61; refine (check_any n _ hnm).mono ?_; rw [HC.out]; rintro e w1 ⟨rfl, hB1⟩)
        go_ret2
        exact ⟨rfl, hB1⟩

set_option maxRecDepth 100000 in
set_option maxHeartbeats 2000000 in
/-- gazetteerref4.Hash, where nothing is wrong -/
theorem refHash_yes (n salt : ByteArray) (hn : n.size ≤ 1048576) (hN : isN n = true) (h255 : salt.size ≤ 255) : ∀ (r : Nat) (w : World), r ≤ 50 →
    Calls Tryz.prog 37 #[.string n, .string salt, .int .i64 (r : Int)] w fun e w' => e = .returned (.tuple #[.string (hashB n salt r), .int .i64 0]) ∧ Below w.heap.size w w'
  | 0, w, hr => by
    have hf := foldB_size hN
    have had0 : ∀ W : World, (Op.stringOp .add (foldB n) salt).run Tryz.prog W = .ok (.string (foldB n ++ salt)) W := fun W => run_string_add_sum W _ _ (by omega)
    have HZ0 : Hid ((foldB n ++ salt).size ≤ 1048576) := by unfold Hid; rw [ByteArray.size_append]; omega
    clear hf
    go_enter Tryz.func37, Tryz.ntmps37
    go_wp2_with (first
      | (go_at_call 50; refine (refIsName_any n _ hn).mono ?_; rw [hN]; rintro e w1 ⟨rfl, hB1⟩)
      | (go_at_call 51; refine (foldName_any n _ hn).mono ?_; rintro e w2 ⟨rfl, hB2⟩)
      | (go_at_call 59; refine (refDigest_any _ _ HZ0.out).mono ?_; rintro e w3 ⟨rfl, hB3⟩))
    go_ret2
    exact ⟨rfl, bstep (bstep hB1 hB2 hB1.size) hB3 (Nat.le_trans hB1.size hB2.size)⟩
  | r + 1, w, hr => by
    have HIH := hide' (fun w => refHash_yes n salt hn hN h255 r w (by omega))
    have hadk : ∀ W : World, (Op.stringOp .add (hashB n salt r) salt).run Tryz.prog W = .ok (.string (hashB n salt r ++ salt)) W := fun W => run_string_add_sum W _ _ (by rw [hashB_size]; omega)
    have HZK : Hid ((hashB n salt r ++ salt).size ≤ 1048576) := by unfold Hid; rw [ByteArray.size_append, hashB_size]; omega
    have HEK : Hid (hashB n salt (r + 1) = digB (hashB n salt r ++ salt)) := rfl
    obtain ⟨k, hk⟩ : ∃ k : Nat, r + 1 = k := ⟨_, rfl⟩
    rw [show (r : Int) = (k : Int) - 1 by omega] at HIH
    have hsb : IntKind.i64.wrap ((k : Int) - 1) = (k : Int) - 1 := by rw [IntWalk.i64_in] <;> omega
    have hne : ((k : Int) == 0) = false := by rw [beq_eq_false_iff_ne]; omega
    rw [hk] at hr HEK ⊢
    have hk1 : 1 ≤ k := by omega
    generalize hashB n salt r = hh at *
    clear hk
    go_enter Tryz.func37, Tryz.ntmps37
    go_wp2_with (first
      | (go_at_call 50; refine (refIsName_any n _ hn).mono ?_; rw [hN]; rintro e w1 ⟨rfl, hB1⟩)
      | (go_at_call 37; refine (HIH.out _).mono ?_; rintro e w2 ⟨rfl, hB2⟩)
      | (go_at_call 59; refine (refDigest_any _ _ HZK.out).mono ?_; rintro e w3 ⟨rfl, hB3⟩))
    go_ret2
    exact ⟨by rw [HEK.out]; rfl, bstep (bstep hB1 hB2 hB1.size) hB3 (Nat.le_trans hB1.size hB2.size)⟩

set_option maxRecDepth 100000 in
set_option maxHeartbeats 2000000 in
/-- gazetteerref4.Hash -/
theorem refHash_any (n salt : ByteArray) (r : Int) (w : World) (hn : n.size ≤ 1048576) (hs : salt.size ≤ 1048576) :
    Calls Tryz.prog 37 #[.string n, .string salt, .int .i64 r] w fun e w' => e = .returned (hashR n salt r) ∧ Below w.heap.size w w' := by
  cases hN : isN n with
  | false =>
    rw [hashR_name hN]
    go_enter Tryz.func37, Tryz.ntmps37
    go_wp2_with (go_at_call 50; refine (refIsName_any n _ hn).mono ?_; rw [hN]; rintro e w1 ⟨rfl, hB1⟩)
    go_ret2
    exact ⟨rfl, hB1⟩
  | true =>
    by_cases hok : salt.size ≤ 255 ∧ 0 ≤ r ∧ r ≤ 50
    · obtain ⟨h255, hr0, hr50⟩ := hok
      obtain ⟨k, rfl⟩ : ∃ k : Nat, r = (k : Int) := ⟨r.toNat, by omega⟩
      rw [hashR_ok hN h255 (by omega)]
      exact refHash_yes n salt hn hN h255 k w (by omega)
    · rw [hashR_arg hN hok]
      have hok' : 255 < salt.size ∨ (salt.size ≤ 255 ∧ r < 0) ∨ (salt.size ≤ 255 ∧ 0 ≤ r ∧ 50 < r) := by omega
      clear hok
      rcases hok' with h1 | ⟨h1, h2⟩ | ⟨h1, h2, h3⟩
      all_goals
        go_enter Tryz.func37, Tryz.ntmps37
        go_wp2_with (go_at_call 50; refine (refIsName_any n _ hn).mono ?_; rw [hN]; rintro e w1 ⟨rfl, hB1⟩)
        go_ret2
        exact ⟨rfl, hB1⟩
end Go.Proofs.YtipifhifjbenlaaGreat
