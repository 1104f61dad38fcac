import Derived.Test.YtjnmbgmdkkiidaaGreatWc3G
import Derived.Test.YtjnmbgmdkkiidaaGreatOw1G
import Derived.Test.YtjnmbgmdkkiidaaGreatSh1G
namespace Go.Proofs.YtjnmbgmdkkiidaaGreat
set_option linter.unusedVariables false
open Go.RowKit Go.Shelf Go.Proofs.YtjnmbgmdkkiidaaGreat.Nm

set_option maxRecDepth 100000 in
set_option maxHeartbeats 4000000 in
/-- wire.marksOf -/
theorem marksOf_any (g : Nat) (w : World) :
    Calls Tryz.prog 56 #[.pointer (some ⟨g, 0, none⟩)] w fun e w' => e = .returned (.agg #[.pointer (some ⟨g, 1, none⟩), .int .i64 15, .pointer (some ⟨g, 3, none⟩), .int .i64 10, .pointer (some ⟨g, 4, none⟩), .int .i64 9, .pointer (some ⟨g, 5, none⟩), .int .i64 8, .pointer (some ⟨g, 6, none⟩), .int .i64 7, .pointer (some ⟨g, 7, none⟩), .int .i64 5, .pointer (some ⟨g, 8, none⟩), .int .i64 4]) ∧ Below w.heap.size w w' := by
  go_enter Tryz.func56, Tryz.ntmps56
  go_wp2
  go_region
  go_wp2
  refine bodyPost_ret (v := .agg #[.pointer (some ⟨g, 1, none⟩), .int .i64 15, .pointer (some ⟨g, 3, none⟩), .int .i64 10, .pointer (some ⟨g, 4, none⟩), .int .i64 9, .pointer (some ⟨g, 5, none⟩), .int .i64 8, .pointer (some ⟨g, 6, none⟩), .int .i64 7, .pointer (some ⟨g, 7, none⟩), .int .i64 5, .pointer (some ⟨g, 8, none⟩), .int .i64 4]) (by simp [results, go_sem]) rfl ⟨rfl, ?_⟩
  exact ((Below.refl _ w).alloc (Nat.le_refl _) _).drew
end Go.Proofs.YtjnmbgmdkkiidaaGreat

namespace Go.Proofs.YtjnmbgmdkkiidaaGreat
set_option linter.unusedVariables false
open Go.RowKit Go.Shelf Go.Maps Go.Proofs.YtjnmbgmdkkiidaaGreat.Nm

/-- what lies below the packer stays -/
theorem Fz.low {w w1 : World} {P Mb base : Nat} {v : Value} {s : PS} (hf : Fz w w1 P Mb v) (h : Pk w P Mb base v s) : Below base w w1 :=
  ⟨hf.os, hf.tape, hf.output, hf.size, fun k hk => hf.block k (by have := h.lt; omega) (by have := h.bP; omega) (by have := h.bM; omega) (fun e => by have := (h.own.lt _ e).1; omega)⟩
/-- 'x | 1 << b' where that bit is nought -/
theorem or_bitN (x b : Nat) (hx : x < 65536) (hb : b < 16) (h : x / 2 ^ b % 2 = 0) : bits .or .i64 (x : Int) ((2 ^ b : Nat) : Int) = ((x + 2 ^ b : Nat) : Int) := by
  have hp : 2 ^ b ≤ 2 ^ 15 := Nat.pow_le_pow_right (by omega) (by omega)
  rw [i64_or_nat _ _ (by omega) (by omega)]
  congr 1
  have hpos : 0 < 2 ^ b := Nat.two_pow_pos b
  have h1 : x = x / 2 ^ (b + 1) * 2 ^ (b + 1) + x % 2 ^ b := by
    have e1 := Nat.div_add_mod x (2 ^ b)
    have e2 := Nat.div_add_mod (x / 2 ^ b) 2
    have e3 : x / 2 ^ (b + 1) = x / 2 ^ b / 2 := by rw [Nat.pow_succ, Nat.div_div_eq_div_mul]
    have e4 : x / 2 ^ b = 2 * (x / 2 ^ b / 2) := by omega
    rw [e3, Nat.pow_succ]
    have e5 : x / 2 ^ b / 2 * (2 ^ b * 2) = 2 ^ b * (2 * (x / 2 ^ b / 2)) := by rw [Nat.mul_comm (2 ^ b) 2, ← Nat.mul_assoc, Nat.mul_comm _ (2 ^ b), Nat.mul_comm _ 2]
    rw [e5, ← e4]
    exact e1.symm
  have hl : x % 2 ^ b < 2 ^ b := Nat.mod_lt _ hpos
  generalize x / 2 ^ (b + 1) = H at h1
  generalize x % 2 ^ b = L at h1 hl
  subst h1
  have a1 : H * 2 ^ (b + 1) + L = H * 2 ^ (b + 1) ||| L := (nat_join (b + 1) _ _ (by simp) (by rw [Nat.pow_succ]; omega)).symm
  have a2 : L ||| 2 ^ b = 2 ^ b + L := by rw [Nat.or_comm]; exact nat_join b _ _ (by simp) hl
  have a3 : H * 2 ^ (b + 1) ||| (2 ^ b + L) = H * 2 ^ (b + 1) + (2 ^ b + L) := nat_join (b + 1) _ _ (by simp) (by rw [Nat.pow_succ]; omega)
  rw [a1, Nat.or_assoc, a2, a3, ← a1]
  omega
/-- the signs, the first i of the seven marks looked at -/
def sgS (i2 i9 : Nat) (b1 b3 b4 b5 b6 b7 b8 : Bool) (i : Nat) : Nat :=
  i2 * 2048 + i9 + (if 0 < i then b1.toNat * 32768 else 0) + (if 1 < i then b3.toNat * 1024 else 0) + (if 2 < i then b4.toNat * 512 else 0) + (if 3 < i then b5.toNat * 256 else 0) + (if 4 < i then b6.toNat * 128 else 0) + (if 5 < i then b7.toNat * 32 else 0) + (if 6 < i then b8.toNat * 16 else 0)
theorem sgS_bit0 (i2 i9 : Nat) (b1 b3 b4 b5 b6 b7 b8 : Bool) (h2 : i2 < 16) (h9 : i9 < 16) : sgS i2 i9 b1 b3 b4 b5 b6 b7 b8 0 < 65536 ∧ sgS i2 i9 b1 b3 b4 b5 b6 b7 b8 0 / 2 ^ 15 % 2 = 0 := by
  have e1 := Bool.toNat_le b1
  have e3 := Bool.toNat_le b3
  have e4 := Bool.toNat_le b4
  have e5 := Bool.toNat_le b5
  have e6 := Bool.toNat_le b6
  have e7 := Bool.toNat_le b7
  have e8 := Bool.toNat_le b8
  simp [sgS]
  omega
theorem sgS_bit1 (i2 i9 : Nat) (b1 b3 b4 b5 b6 b7 b8 : Bool) (h2 : i2 < 16) (h9 : i9 < 16) : sgS i2 i9 b1 b3 b4 b5 b6 b7 b8 1 < 65536 ∧ sgS i2 i9 b1 b3 b4 b5 b6 b7 b8 1 / 2 ^ 10 % 2 = 0 := by
  have e1 := Bool.toNat_le b1
  have e3 := Bool.toNat_le b3
  have e4 := Bool.toNat_le b4
  have e5 := Bool.toNat_le b5
  have e6 := Bool.toNat_le b6
  have e7 := Bool.toNat_le b7
  have e8 := Bool.toNat_le b8
  simp [sgS]
  omega
theorem sgS_bit2 (i2 i9 : Nat) (b1 b3 b4 b5 b6 b7 b8 : Bool) (h2 : i2 < 16) (h9 : i9 < 16) : sgS i2 i9 b1 b3 b4 b5 b6 b7 b8 2 < 65536 ∧ sgS i2 i9 b1 b3 b4 b5 b6 b7 b8 2 / 2 ^ 9 % 2 = 0 := by
  have e1 := Bool.toNat_le b1
  have e3 := Bool.toNat_le b3
  have e4 := Bool.toNat_le b4
  have e5 := Bool.toNat_le b5
  have e6 := Bool.toNat_le b6
  have e7 := Bool.toNat_le b7
  have e8 := Bool.toNat_le b8
  simp [sgS]
  omega
theorem sgS_bit3 (i2 i9 : Nat) (b1 b3 b4 b5 b6 b7 b8 : Bool) (h2 : i2 < 16) (h9 : i9 < 16) : sgS i2 i9 b1 b3 b4 b5 b6 b7 b8 3 < 65536 ∧ sgS i2 i9 b1 b3 b4 b5 b6 b7 b8 3 / 2 ^ 8 % 2 = 0 := by
  have e1 := Bool.toNat_le b1
  have e3 := Bool.toNat_le b3
  have e4 := Bool.toNat_le b4
  have e5 := Bool.toNat_le b5
  have e6 := Bool.toNat_le b6
  have e7 := Bool.toNat_le b7
  have e8 := Bool.toNat_le b8
  simp [sgS]
  omega
theorem sgS_bit4 (i2 i9 : Nat) (b1 b3 b4 b5 b6 b7 b8 : Bool) (h2 : i2 < 16) (h9 : i9 < 16) : sgS i2 i9 b1 b3 b4 b5 b6 b7 b8 4 < 65536 ∧ sgS i2 i9 b1 b3 b4 b5 b6 b7 b8 4 / 2 ^ 7 % 2 = 0 := by
  have e1 := Bool.toNat_le b1
  have e3 := Bool.toNat_le b3
  have e4 := Bool.toNat_le b4
  have e5 := Bool.toNat_le b5
  have e6 := Bool.toNat_le b6
  have e7 := Bool.toNat_le b7
  have e8 := Bool.toNat_le b8
  simp [sgS]
  omega
theorem sgS_bit5 (i2 i9 : Nat) (b1 b3 b4 b5 b6 b7 b8 : Bool) (h2 : i2 < 16) (h9 : i9 < 16) : sgS i2 i9 b1 b3 b4 b5 b6 b7 b8 5 < 65536 ∧ sgS i2 i9 b1 b3 b4 b5 b6 b7 b8 5 / 2 ^ 5 % 2 = 0 := by
  have e1 := Bool.toNat_le b1
  have e3 := Bool.toNat_le b3
  have e4 := Bool.toNat_le b4
  have e5 := Bool.toNat_le b5
  have e6 := Bool.toNat_le b6
  have e7 := Bool.toNat_le b7
  have e8 := Bool.toNat_le b8
  simp [sgS]
  omega
theorem sgS_bit6 (i2 i9 : Nat) (b1 b3 b4 b5 b6 b7 b8 : Bool) (h2 : i2 < 16) (h9 : i9 < 16) : sgS i2 i9 b1 b3 b4 b5 b6 b7 b8 6 < 65536 ∧ sgS i2 i9 b1 b3 b4 b5 b6 b7 b8 6 / 2 ^ 4 % 2 = 0 := by
  have e1 := Bool.toNat_le b1
  have e3 := Bool.toNat_le b3
  have e4 := Bool.toNat_le b4
  have e5 := Bool.toNat_le b5
  have e6 := Bool.toNat_le b6
  have e7 := Bool.toNat_le b7
  have e8 := Bool.toNat_le b8
  simp [sgS]
  omega
theorem sgS_lt (i2 i9 : Nat) (b1 b3 b4 b5 b6 b7 b8 : Bool) (h2 : i2 < 16) (h9 : i9 < 16) : sgS i2 i9 b1 b3 b4 b5 b6 b7 b8 7 < 65536 := by
  have e1 := Bool.toNat_le b1
  have e3 := Bool.toNat_le b3
  have e4 := Bool.toNat_le b4
  have e5 := Bool.toNat_le b5
  have e6 := Bool.toNat_le b6
  have e7 := Bool.toNat_le b7
  have e8 := Bool.toNat_le b8
  simp [sgS]
  omega
/-- (*packer).head -/
def headP (i0 i2 i9 : Nat) (b1 b3 b4 b5 b6 b7 b8 : Bool) (qn an un dn : Nat) (s : PS) : PS :=
  ⟨s.out ++ numB i0 2 ++ numB (sgS i2 i9 b1 b3 b4 b5 b6 b7 b8 7) 2 ++ numB qn 2 ++ numB an 2 ++ numB un 2 ++ numB dn 2, s.tab⟩

set_option maxRecDepth 100000 in
set_option maxHeartbeats 1000000 in
/-- (*packer).head -/
theorem phead_any (P Mb base M : Nat) (v : Value) (s : PS) (i0 i2 i9 : Nat) (b1 b3 b4 b5 b6 b7 b8 : Bool) (q0 a0 u0 d0 : Option Addr) (qn an un dn qc ac uc dc : Nat) (w : World) (h : Pk w P Mb base v s) (hM : M < base) (hbx : Bx w M #[.int .i64 (i0 : Int), .bool b1, .int .i64 (i2 : Int), .bool b3, .bool b4, .bool b5, .bool b6, .bool b7, .bool b8, .int .i64 (i9 : Int), .slice q0 qn qc, .slice a0 an ac, .slice u0 un uc, .slice d0 dn dc] 25) (h0 : i0 < 65536) (h2 : i2 < 16) (h9 : i9 < 16) (hq : qn < 65536) (ha : an < 65536) (hu : un < 65536) (hd : dn < 65536) (hz : s.out.size ≤ 1099510000000) :
    Calls Tryz.prog 39 #[.pointer (some ⟨P, 0, none⟩), .pointer (some ⟨M, 0, none⟩)] w (PkE P Mb base v (headP i0 i2 i9 b1 b3 b4 b5 b6 b7 b8 qn an un dn s) w) := by
  have HP := hide' h
  have HX := hide' hbx
  have x0 : w.cell? ⟨M, 0, none⟩ = some (.int .i64 (i0 : Int)) := hbx.cell rfl
  clear h hbx
  go_enter Tryz.func39, Tryz.ntmps39
  have hor : bits .or .i64 ((i2 : Int) * 2048) (i9 : Int) = ((sgS i2 i9 b1 b3 b4 b5 b6 b7 b8 0 : Nat) : Int) := by
    have := or_shl 11 i2 i9 (by omega) (by omega) (by omega)
    simpa [sgS] using this
  go_wp2_with fail
  go_region_with (go_at_call 55; refine (wnum2_any P Mb base v s i0 _ HP.out.drew (by omega) h0).mono ?_; rintro e w1 ⟨rfl, v1, r1, r2, r3⟩; have R1 := hide' r1; have HX1 : Hid (Bx w1 M #[.int .i64 (i0 : Int), .bool b1, .int .i64 (i2 : Int), .bool b3, .bool b4, .bool b5, .bool b6, .bool b7, .bool b8, .int .i64 (i9 : Int), .slice q0 qn qc, .slice a0 an ac, .slice u0 un uc, .slice d0 dn dc] 25) := HX.out.below (r2.ofDrew.low HP.out) hM; have x2 : w1.cell? ⟨M, 2, none⟩ = some (.int .i64 (i2 : Int)) := HX1.out.cell rfl; have x9 : w1.cell? ⟨M, 9, none⟩ = some (.int .i64 (i9 : Int)) := HX1.out.cell rfl; have HF1 := hide' r2.ofDrew; have HL1 := hide' r3.ofDrew; clear r1 r2 r3)
  go_wp2
  go_region
  go_wp2_with (go_at_call 56; refine (marksOf_any M _).mono ?_; rintro e w2 ⟨rfl, hB⟩; have S1 := hide' (R1.out.drew.below hB); have HX2 : Hid (Bx w2 M #[.int .i64 (i0 : Int), .bool b1, .int .i64 (i2 : Int), .bool b3, .bool b4, .bool b5, .bool b6, .bool b7, .bool b8, .int .i64 (i9 : Int), .slice q0 qn qc, .slice a0 an ac, .slice u0 un uc, .slice d0 dn dc] 25) := Bx.below (w := w1.drew) HX1.out hB HX1.out.lt; have HF2 := hide' (HF1.out.trans (Fz.below P Mb v1 hB).ofDrew HL1.out); have HL2 := HL1; clear hB)
  obtain ⟨s1, hs1⟩ : ∃ s1 : PS, ⟨s.out ++ numB i0 2, s.tab⟩ = s1 := ⟨_, rfl⟩
  rw [hs1] at S1
  have HS1 := hide' hs1
  clear hs1 R1 HX HP hor x0 x2 x9 HX1 HF1 HL1
  go_loopw [4, 29] (fun sv iv wr => ∃ i : Nat, iv = .int .i64 (i : Int) ∧ sv = .int .i64 ((sgS i2 i9 b1 b3 b4 b5 b6 b7 b8 i : Nat) : Int) ∧ i ≤ 7 ∧ Hid (Pk wr P Mb base v1 s1) ∧ Hid (Bx wr M #[.int .i64 (i0 : Int), .bool b1, .int .i64 (i2 : Int), .bool b3, .bool b4, .bool b5, .bool b6, .bool b7, .bool b8, .int .i64 (i9 : Int), .slice q0 qn qc, .slice a0 an ac, .slice u0 un uc, .slice d0 dn dc] 25) ∧ Hid (Fz w wr P Mb v)) (fun _ iv _ => 7 - (intOf iv).toNat)
  case atStart => exact ⟨0, rfl, rfl, Nat.zero_le _, S1, HX2, HF2⟩
  case round =>
    clear S1 HX2 HF2
    obtain ⟨i, rfl, rfl, hi, H, HX, HF⟩ := hrel
    by_cases hlt : i < 7
    · have hi7 : i = 0 ∨ i = 1 ∨ i = 2 ∨ i = 3 ∨ i = 4 ∨ i = 5 ∨ i = 6 := by omega
      rcases hi7 with rfl | rfl | rfl | rfl | rfl | rfl | rfl
      · have hx : ∀ W : World, Sem.run Tryz.prog (Instr.index 93 (.agg #[.pointer (some ⟨M, 1, none⟩), .int .i64 15, .pointer (some ⟨M, 3, none⟩), .int .i64 10, .pointer (some ⟨M, 4, none⟩), .int .i64 9, .pointer (some ⟨M, 5, none⟩), .int .i64 8, .pointer (some ⟨M, 6, none⟩), .int .i64 7, .pointer (some ⟨M, 7, none⟩), .int .i64 5, .pointer (some ⟨M, 8, none⟩), .int .i64 4]) (.int .i64 0)) W = .ok (.agg #[.pointer (some ⟨M, 1, none⟩), .int .i64 15]) W := fun W => by first | rfl | simp [go_sem, Instr.index]
        have HA := hide' (H.out.alloc (.cells #[.pointer (some ⟨M, 1, none⟩), .int .i64 15] 92))
        have HG := hide' (HF.out.step (World.grownBy_alloc wr (.cells #[.pointer (some ⟨M, 1, none⟩), .int .i64 15] 92) none) (fun q e => by cases e))
        cases b1 with
        | true =>
          have hm1 : ∀ o, (wr.alloc o).cell? ⟨M, 1, none⟩ = some (.bool true) := fun o => (HX.out.grown (World.grownBy_alloc wr o none) (by simp)).cell rfl
          have HY := hide' (HX.out.grown (World.grownBy_alloc wr (.cells #[.pointer (some ⟨M, 1, none⟩), .int .i64 15] 92) none) (by simp))
          have hor : bits .or .i64 ((sgS i2 i9 true b3 b4 b5 b6 b7 b8 0 : Nat) : Int) 32768 = ((sgS i2 i9 true b3 b4 b5 b6 b7 b8 1 : Nat) : Int) := by
            have h1 := sgS_bit0 i2 i9 true b3 b4 b5 b6 b7 b8 h2 h9
            have h3 := or_bitN (sgS i2 i9 true b3 b4 b5 b6 b7 b8 0) 15 h1.1 (by decide) h1.2
            rw [show sgS i2 i9 true b3 b4 b5 b6 b7 b8 0 + 2 ^ 15 = sgS i2 i9 true b3 b4 b5 b6 b7 b8 1 by simp [sgS] <;> omega] at h3
            simpa using h3
          go_wp2_with fail
          go_roundw
          case rel => exact ⟨1, by go_num, rfl, by omega, HA, HY, HG⟩
          case measure => simp [intOf]
        | false =>
          have hm1 : ∀ o, (wr.alloc o).cell? ⟨M, 1, none⟩ = some (.bool false) := fun o => (HX.out.grown (World.grownBy_alloc wr o none) (by simp)).cell rfl
          have HY := hide' (HX.out.grown (World.grownBy_alloc wr (.cells #[.pointer (some ⟨M, 1, none⟩), .int .i64 15] 92) none) (by simp))
          have hsg : sgS i2 i9 false b3 b4 b5 b6 b7 b8 0 = sgS i2 i9 false b3 b4 b5 b6 b7 b8 1 := by simp [sgS]
          go_wp2_with fail
          go_roundw
          case rel => exact ⟨1, by go_num, by rw [hsg], by omega, HA, HY, HG⟩
          case measure => simp [intOf]
      · have hx : ∀ W : World, Sem.run Tryz.prog (Instr.index 93 (.agg #[.pointer (some ⟨M, 1, none⟩), .int .i64 15, .pointer (some ⟨M, 3, none⟩), .int .i64 10, .pointer (some ⟨M, 4, none⟩), .int .i64 9, .pointer (some ⟨M, 5, none⟩), .int .i64 8, .pointer (some ⟨M, 6, none⟩), .int .i64 7, .pointer (some ⟨M, 7, none⟩), .int .i64 5, .pointer (some ⟨M, 8, none⟩), .int .i64 4]) (.int .i64 1)) W = .ok (.agg #[.pointer (some ⟨M, 3, none⟩), .int .i64 10]) W := fun W => by first | rfl | simp [go_sem, Instr.index]
        have HA := hide' (H.out.alloc (.cells #[.pointer (some ⟨M, 3, none⟩), .int .i64 10] 92))
        have HG := hide' (HF.out.step (World.grownBy_alloc wr (.cells #[.pointer (some ⟨M, 3, none⟩), .int .i64 10] 92) none) (fun q e => by cases e))
        cases b3 with
        | true =>
          have hm1 : ∀ o, (wr.alloc o).cell? ⟨M, 3, none⟩ = some (.bool true) := fun o => (HX.out.grown (World.grownBy_alloc wr o none) (by simp)).cell rfl
          have HY := hide' (HX.out.grown (World.grownBy_alloc wr (.cells #[.pointer (some ⟨M, 3, none⟩), .int .i64 10] 92) none) (by simp))
          have hor : bits .or .i64 ((sgS i2 i9 b1 true b4 b5 b6 b7 b8 1 : Nat) : Int) 1024 = ((sgS i2 i9 b1 true b4 b5 b6 b7 b8 2 : Nat) : Int) := by
            have h1 := sgS_bit1 i2 i9 b1 true b4 b5 b6 b7 b8 h2 h9
            have h3 := or_bitN (sgS i2 i9 b1 true b4 b5 b6 b7 b8 1) 10 h1.1 (by decide) h1.2
            rw [show sgS i2 i9 b1 true b4 b5 b6 b7 b8 1 + 2 ^ 10 = sgS i2 i9 b1 true b4 b5 b6 b7 b8 2 by simp [sgS] <;> omega] at h3
            simpa using h3
          go_wp2_with fail
          go_roundw
          case rel => exact ⟨2, by go_num, rfl, by omega, HA, HY, HG⟩
          case measure => simp [intOf]
        | false =>
          have hm1 : ∀ o, (wr.alloc o).cell? ⟨M, 3, none⟩ = some (.bool false) := fun o => (HX.out.grown (World.grownBy_alloc wr o none) (by simp)).cell rfl
          have HY := hide' (HX.out.grown (World.grownBy_alloc wr (.cells #[.pointer (some ⟨M, 3, none⟩), .int .i64 10] 92) none) (by simp))
          have hsg : sgS i2 i9 b1 false b4 b5 b6 b7 b8 1 = sgS i2 i9 b1 false b4 b5 b6 b7 b8 2 := by simp [sgS]
          go_wp2_with fail
          go_roundw
          case rel => exact ⟨2, by go_num, by rw [hsg], by omega, HA, HY, HG⟩
          case measure => simp [intOf]
      · have hx : ∀ W : World, Sem.run Tryz.prog (Instr.index 93 (.agg #[.pointer (some ⟨M, 1, none⟩), .int .i64 15, .pointer (some ⟨M, 3, none⟩), .int .i64 10, .pointer (some ⟨M, 4, none⟩), .int .i64 9, .pointer (some ⟨M, 5, none⟩), .int .i64 8, .pointer (some ⟨M, 6, none⟩), .int .i64 7, .pointer (some ⟨M, 7, none⟩), .int .i64 5, .pointer (some ⟨M, 8, none⟩), .int .i64 4]) (.int .i64 2)) W = .ok (.agg #[.pointer (some ⟨M, 4, none⟩), .int .i64 9]) W := fun W => by first | rfl | simp [go_sem, Instr.index]
        have HA := hide' (H.out.alloc (.cells #[.pointer (some ⟨M, 4, none⟩), .int .i64 9] 92))
        have HG := hide' (HF.out.step (World.grownBy_alloc wr (.cells #[.pointer (some ⟨M, 4, none⟩), .int .i64 9] 92) none) (fun q e => by cases e))
        cases b4 with
        | true =>
          have hm1 : ∀ o, (wr.alloc o).cell? ⟨M, 4, none⟩ = some (.bool true) := fun o => (HX.out.grown (World.grownBy_alloc wr o none) (by simp)).cell rfl
          have HY := hide' (HX.out.grown (World.grownBy_alloc wr (.cells #[.pointer (some ⟨M, 4, none⟩), .int .i64 9] 92) none) (by simp))
          have hor : bits .or .i64 ((sgS i2 i9 b1 b3 true b5 b6 b7 b8 2 : Nat) : Int) 512 = ((sgS i2 i9 b1 b3 true b5 b6 b7 b8 3 : Nat) : Int) := by
            have h1 := sgS_bit2 i2 i9 b1 b3 true b5 b6 b7 b8 h2 h9
            have h3 := or_bitN (sgS i2 i9 b1 b3 true b5 b6 b7 b8 2) 9 h1.1 (by decide) h1.2
            rw [show sgS i2 i9 b1 b3 true b5 b6 b7 b8 2 + 2 ^ 9 = sgS i2 i9 b1 b3 true b5 b6 b7 b8 3 by simp [sgS] <;> omega] at h3
            simpa using h3
          go_wp2_with fail
          go_roundw
          case rel => exact ⟨3, by go_num, rfl, by omega, HA, HY, HG⟩
          case measure => simp [intOf]
        | false =>
          have hm1 : ∀ o, (wr.alloc o).cell? ⟨M, 4, none⟩ = some (.bool false) := fun o => (HX.out.grown (World.grownBy_alloc wr o none) (by simp)).cell rfl
          have HY := hide' (HX.out.grown (World.grownBy_alloc wr (.cells #[.pointer (some ⟨M, 4, none⟩), .int .i64 9] 92) none) (by simp))
          have hsg : sgS i2 i9 b1 b3 false b5 b6 b7 b8 2 = sgS i2 i9 b1 b3 false b5 b6 b7 b8 3 := by simp [sgS]
          go_wp2_with fail
          go_roundw
          case rel => exact ⟨3, by go_num, by rw [hsg], by omega, HA, HY, HG⟩
          case measure => simp [intOf]
      · have hx : ∀ W : World, Sem.run Tryz.prog (Instr.index 93 (.agg #[.pointer (some ⟨M, 1, none⟩), .int .i64 15, .pointer (some ⟨M, 3, none⟩), .int .i64 10, .pointer (some ⟨M, 4, none⟩), .int .i64 9, .pointer (some ⟨M, 5, none⟩), .int .i64 8, .pointer (some ⟨M, 6, none⟩), .int .i64 7, .pointer (some ⟨M, 7, none⟩), .int .i64 5, .pointer (some ⟨M, 8, none⟩), .int .i64 4]) (.int .i64 3)) W = .ok (.agg #[.pointer (some ⟨M, 5, none⟩), .int .i64 8]) W := fun W => by first | rfl | simp [go_sem, Instr.index]
        have HA := hide' (H.out.alloc (.cells #[.pointer (some ⟨M, 5, none⟩), .int .i64 8] 92))
        have HG := hide' (HF.out.step (World.grownBy_alloc wr (.cells #[.pointer (some ⟨M, 5, none⟩), .int .i64 8] 92) none) (fun q e => by cases e))
        cases b5 with
        | true =>
          have hm1 : ∀ o, (wr.alloc o).cell? ⟨M, 5, none⟩ = some (.bool true) := fun o => (HX.out.grown (World.grownBy_alloc wr o none) (by simp)).cell rfl
          have HY := hide' (HX.out.grown (World.grownBy_alloc wr (.cells #[.pointer (some ⟨M, 5, none⟩), .int .i64 8] 92) none) (by simp))
          have hor : bits .or .i64 ((sgS i2 i9 b1 b3 b4 true b6 b7 b8 3 : Nat) : Int) 256 = ((sgS i2 i9 b1 b3 b4 true b6 b7 b8 4 : Nat) : Int) := by
            have h1 := sgS_bit3 i2 i9 b1 b3 b4 true b6 b7 b8 h2 h9
            have h3 := or_bitN (sgS i2 i9 b1 b3 b4 true b6 b7 b8 3) 8 h1.1 (by decide) h1.2
            rw [show sgS i2 i9 b1 b3 b4 true b6 b7 b8 3 + 2 ^ 8 = sgS i2 i9 b1 b3 b4 true b6 b7 b8 4 by simp [sgS] <;> omega] at h3
            simpa using h3
          go_wp2_with fail
          go_roundw
          case rel => exact ⟨4, by go_num, rfl, by omega, HA, HY, HG⟩
          case measure => simp [intOf]
        | false =>
          have hm1 : ∀ o, (wr.alloc o).cell? ⟨M, 5, none⟩ = some (.bool false) := fun o => (HX.out.grown (World.grownBy_alloc wr o none) (by simp)).cell rfl
          have HY := hide' (HX.out.grown (World.grownBy_alloc wr (.cells #[.pointer (some ⟨M, 5, none⟩), .int .i64 8] 92) none) (by simp))
          have hsg : sgS i2 i9 b1 b3 b4 false b6 b7 b8 3 = sgS i2 i9 b1 b3 b4 false b6 b7 b8 4 := by simp [sgS]
          go_wp2_with fail
          go_roundw
          case rel => exact ⟨4, by go_num, by rw [hsg], by omega, HA, HY, HG⟩
          case measure => simp [intOf]
      · have hx : ∀ W : World, Sem.run Tryz.prog (Instr.index 93 (.agg #[.pointer (some ⟨M, 1, none⟩), .int .i64 15, .pointer (some ⟨M, 3, none⟩), .int .i64 10, .pointer (some ⟨M, 4, none⟩), .int .i64 9, .pointer (some ⟨M, 5, none⟩), .int .i64 8, .pointer (some ⟨M, 6, none⟩), .int .i64 7, .pointer (some ⟨M, 7, none⟩), .int .i64 5, .pointer (some ⟨M, 8, none⟩), .int .i64 4]) (.int .i64 4)) W = .ok (.agg #[.pointer (some ⟨M, 6, none⟩), .int .i64 7]) W := fun W => by first | rfl | simp [go_sem, Instr.index]
        have HA := hide' (H.out.alloc (.cells #[.pointer (some ⟨M, 6, none⟩), .int .i64 7] 92))
        have HG := hide' (HF.out.step (World.grownBy_alloc wr (.cells #[.pointer (some ⟨M, 6, none⟩), .int .i64 7] 92) none) (fun q e => by cases e))
        cases b6 with
        | true =>
          have hm1 : ∀ o, (wr.alloc o).cell? ⟨M, 6, none⟩ = some (.bool true) := fun o => (HX.out.grown (World.grownBy_alloc wr o none) (by simp)).cell rfl
          have HY := hide' (HX.out.grown (World.grownBy_alloc wr (.cells #[.pointer (some ⟨M, 6, none⟩), .int .i64 7] 92) none) (by simp))
          have hor : bits .or .i64 ((sgS i2 i9 b1 b3 b4 b5 true b7 b8 4 : Nat) : Int) 128 = ((sgS i2 i9 b1 b3 b4 b5 true b7 b8 5 : Nat) : Int) := by
            have h1 := sgS_bit4 i2 i9 b1 b3 b4 b5 true b7 b8 h2 h9
            have h3 := or_bitN (sgS i2 i9 b1 b3 b4 b5 true b7 b8 4) 7 h1.1 (by decide) h1.2
            rw [show sgS i2 i9 b1 b3 b4 b5 true b7 b8 4 + 2 ^ 7 = sgS i2 i9 b1 b3 b4 b5 true b7 b8 5 by simp [sgS] <;> omega] at h3
            simpa using h3
          go_wp2_with fail
          go_roundw
          case rel => exact ⟨5, by go_num, rfl, by omega, HA, HY, HG⟩
          case measure => simp [intOf]
        | false =>
          have hm1 : ∀ o, (wr.alloc o).cell? ⟨M, 6, none⟩ = some (.bool false) := fun o => (HX.out.grown (World.grownBy_alloc wr o none) (by simp)).cell rfl
          have HY := hide' (HX.out.grown (World.grownBy_alloc wr (.cells #[.pointer (some ⟨M, 6, none⟩), .int .i64 7] 92) none) (by simp))
          have hsg : sgS i2 i9 b1 b3 b4 b5 false b7 b8 4 = sgS i2 i9 b1 b3 b4 b5 false b7 b8 5 := by simp [sgS]
          go_wp2_with fail
          go_roundw
          case rel => exact ⟨5, by go_num, by rw [hsg], by omega, HA, HY, HG⟩
          case measure => simp [intOf]
      · have hx : ∀ W : World, Sem.run Tryz.prog (Instr.index 93 (.agg #[.pointer (some ⟨M, 1, none⟩), .int .i64 15, .pointer (some ⟨M, 3, none⟩), .int .i64 10, .pointer (some ⟨M, 4, none⟩), .int .i64 9, .pointer (some ⟨M, 5, none⟩), .int .i64 8, .pointer (some ⟨M, 6, none⟩), .int .i64 7, .pointer (some ⟨M, 7, none⟩), .int .i64 5, .pointer (some ⟨M, 8, none⟩), .int .i64 4]) (.int .i64 5)) W = .ok (.agg #[.pointer (some ⟨M, 7, none⟩), .int .i64 5]) W := fun W => by first | rfl | simp [go_sem, Instr.index]
        have HA := hide' (H.out.alloc (.cells #[.pointer (some ⟨M, 7, none⟩), .int .i64 5] 92))
        have HG := hide' (HF.out.step (World.grownBy_alloc wr (.cells #[.pointer (some ⟨M, 7, none⟩), .int .i64 5] 92) none) (fun q e => by cases e))
        cases b7 with
        | true =>
          have hm1 : ∀ o, (wr.alloc o).cell? ⟨M, 7, none⟩ = some (.bool true) := fun o => (HX.out.grown (World.grownBy_alloc wr o none) (by simp)).cell rfl
          have HY := hide' (HX.out.grown (World.grownBy_alloc wr (.cells #[.pointer (some ⟨M, 7, none⟩), .int .i64 5] 92) none) (by simp))
          have hor : bits .or .i64 ((sgS i2 i9 b1 b3 b4 b5 b6 true b8 5 : Nat) : Int) 32 = ((sgS i2 i9 b1 b3 b4 b5 b6 true b8 6 : Nat) : Int) := by
            have h1 := sgS_bit5 i2 i9 b1 b3 b4 b5 b6 true b8 h2 h9
            have h3 := or_bitN (sgS i2 i9 b1 b3 b4 b5 b6 true b8 5) 5 h1.1 (by decide) h1.2
            rw [show sgS i2 i9 b1 b3 b4 b5 b6 true b8 5 + 2 ^ 5 = sgS i2 i9 b1 b3 b4 b5 b6 true b8 6 by simp [sgS] <;> omega] at h3
            simpa using h3
          go_wp2_with fail
          go_roundw
          case rel => exact ⟨6, by go_num, rfl, by omega, HA, HY, HG⟩
          case measure => simp [intOf]
        | false =>
          have hm1 : ∀ o, (wr.alloc o).cell? ⟨M, 7, none⟩ = some (.bool false) := fun o => (HX.out.grown (World.grownBy_alloc wr o none) (by simp)).cell rfl
          have HY := hide' (HX.out.grown (World.grownBy_alloc wr (.cells #[.pointer (some ⟨M, 7, none⟩), .int .i64 5] 92) none) (by simp))
          have hsg : sgS i2 i9 b1 b3 b4 b5 b6 false b8 5 = sgS i2 i9 b1 b3 b4 b5 b6 false b8 6 := by simp [sgS]
          go_wp2_with fail
          go_roundw
          case rel => exact ⟨6, by go_num, by rw [hsg], by omega, HA, HY, HG⟩
          case measure => simp [intOf]
      · have hx : ∀ W : World, Sem.run Tryz.prog (Instr.index 93 (.agg #[.pointer (some ⟨M, 1, none⟩), .int .i64 15, .pointer (some ⟨M, 3, none⟩), .int .i64 10, .pointer (some ⟨M, 4, none⟩), .int .i64 9, .pointer (some ⟨M, 5, none⟩), .int .i64 8, .pointer (some ⟨M, 6, none⟩), .int .i64 7, .pointer (some ⟨M, 7, none⟩), .int .i64 5, .pointer (some ⟨M, 8, none⟩), .int .i64 4]) (.int .i64 6)) W = .ok (.agg #[.pointer (some ⟨M, 8, none⟩), .int .i64 4]) W := fun W => by first | rfl | simp [go_sem, Instr.index]
        have HA := hide' (H.out.alloc (.cells #[.pointer (some ⟨M, 8, none⟩), .int .i64 4] 92))
        have HG := hide' (HF.out.step (World.grownBy_alloc wr (.cells #[.pointer (some ⟨M, 8, none⟩), .int .i64 4] 92) none) (fun q e => by cases e))
        cases b8 with
        | true =>
          have hm1 : ∀ o, (wr.alloc o).cell? ⟨M, 8, none⟩ = some (.bool true) := fun o => (HX.out.grown (World.grownBy_alloc wr o none) (by simp)).cell rfl
          have HY := hide' (HX.out.grown (World.grownBy_alloc wr (.cells #[.pointer (some ⟨M, 8, none⟩), .int .i64 4] 92) none) (by simp))
          have hor : bits .or .i64 ((sgS i2 i9 b1 b3 b4 b5 b6 b7 true 6 : Nat) : Int) 16 = ((sgS i2 i9 b1 b3 b4 b5 b6 b7 true 7 : Nat) : Int) := by
            have h1 := sgS_bit6 i2 i9 b1 b3 b4 b5 b6 b7 true h2 h9
            have h3 := or_bitN (sgS i2 i9 b1 b3 b4 b5 b6 b7 true 6) 4 h1.1 (by decide) h1.2
            rw [show sgS i2 i9 b1 b3 b4 b5 b6 b7 true 6 + 2 ^ 4 = sgS i2 i9 b1 b3 b4 b5 b6 b7 true 7 by simp [sgS] <;> omega] at h3
            simpa using h3
          go_wp2_with fail
          go_roundw
          case rel => exact ⟨7, by go_num, rfl, by omega, HA, HY, HG⟩
          case measure => simp [intOf]
        | false =>
          have hm1 : ∀ o, (wr.alloc o).cell? ⟨M, 8, none⟩ = some (.bool false) := fun o => (HX.out.grown (World.grownBy_alloc wr o none) (by simp)).cell rfl
          have HY := hide' (HX.out.grown (World.grownBy_alloc wr (.cells #[.pointer (some ⟨M, 8, none⟩), .int .i64 4] 92) none) (by simp))
          have hsg : sgS i2 i9 b1 b3 b4 b5 b6 b7 false 6 = sgS i2 i9 b1 b3 b4 b5 b6 b7 false 7 := by simp [sgS]
          go_wp2_with fail
          go_roundw
          case rel => exact ⟨7, by go_num, by rw [hsg], by omega, HA, HY, HG⟩
          case measure => simp [intOf]
    · obtain rfl : i = 7 := by omega
      have hlt7 := sgS_lt i2 i9 b1 b3 b4 b5 b6 b7 b8 h2 h9
      have hz1 : s1.out.size ≤ 1099510000002 := by rw [← HS1.out]; show (s.out ++ numB i0 2).size ≤ _; rw [ByteArray.size_append, numB_size]; omega
      go_wp2_with (go_at_call 55; refine (wnum2_any P Mb base v1 s1 _ _ H.out (by omega) hlt7).mono ?_; rintro e w3 ⟨rfl, v3, r1, r2, r3⟩; have T1 := hide' r1; have HX3 : Hid (Bx w3 M #[.int .i64 (i0 : Int), .bool b1, .int .i64 (i2 : Int), .bool b3, .bool b4, .bool b5, .bool b6, .bool b7, .bool b8, .int .i64 (i9 : Int), .slice q0 qn qc, .slice a0 an ac, .slice u0 un uc, .slice d0 dn dc] 25) := HX.out.below (r2.low H.out) hM; have x10 : w3.cell? ⟨M, 10, none⟩ = some (.slice q0 qn qc) := HX3.out.cell rfl; have HF3 := hide' (HF.out.trans r2 HL2.out); have HL3 := hide' (HL2.out.trans HF.out r3); clear r1 r2 r3)
      have hsz : ∀ (a : ByteArray) (n m : Nat), a.size ≤ m → (a ++ numB n 2).size ≤ m + 2 := fun a n m h => by rw [ByteArray.size_append, numB_size]; omega
      have hx0 : ∀ W : World, Sem.run Tryz.prog (Instr.index 65 (.agg #[.pointer (some ⟨M, 11, none⟩), .pointer (some ⟨M, 12, none⟩), .pointer (some ⟨M, 13, none⟩)]) (.int .i64 0)) W = .ok (.pointer (some ⟨M, 11, none⟩)) W := fun W => by first | rfl | simp [go_sem, Instr.index]
      have hx1 : ∀ W : World, Sem.run Tryz.prog (Instr.index 65 (.agg #[.pointer (some ⟨M, 11, none⟩), .pointer (some ⟨M, 12, none⟩), .pointer (some ⟨M, 13, none⟩)]) (.int .i64 1)) W = .ok (.pointer (some ⟨M, 12, none⟩)) W := fun W => by first | rfl | simp [go_sem, Instr.index]
      have hx2 : ∀ W : World, Sem.run Tryz.prog (Instr.index 65 (.agg #[.pointer (some ⟨M, 11, none⟩), .pointer (some ⟨M, 12, none⟩), .pointer (some ⟨M, 13, none⟩)]) (.int .i64 2)) W = .ok (.pointer (some ⟨M, 13, none⟩)) W := fun W => by first | rfl | simp [go_sem, Instr.index]
      go_region_with (go_at_call 55; refine (wnum2_any P Mb base v3 _ qn _ T1.out.drew (Nat.le_trans (hsz _ _ _ hz1) (by omega)) hq).mono ?_; rintro e w4 ⟨rfl, v4, r1, r2, r3⟩; have U1 := hide' r1; have HX4 : Hid (Bx w4 M #[.int .i64 (i0 : Int), .bool b1, .int .i64 (i2 : Int), .bool b3, .bool b4, .bool b5, .bool b6, .bool b7, .bool b8, .int .i64 (i9 : Int), .slice q0 qn qc, .slice a0 an ac, .slice u0 un uc, .slice d0 dn dc] 25) := HX3.out.below (r2.ofDrew.low T1.out) hM; have HF4 := hide' (HF3.out.trans r2.ofDrew HL3.out); have HL4 := hide' (HL3.out.trans HF3.out r3.ofDrew); clear r1 r2 r3)
      go_wp2_with (go_at_call 28; refine (sectionsOf_any M 0 _).mono ?_; rintro e w5 ⟨rfl, hB⟩; have V1 := hide' (U1.out.below hB); have HX5 : Hid (Bx w5 M #[.int .i64 (i0 : Int), .bool b1, .int .i64 (i2 : Int), .bool b3, .bool b4, .bool b5, .bool b6, .bool b7, .bool b8, .int .i64 (i9 : Int), .slice q0 qn qc, .slice a0 an ac, .slice u0 un uc, .slice d0 dn dc] 25) := HX4.out.below hB HX4.out.lt; have x11 : w5.cell? ⟨M, 11, none⟩ = some (.slice a0 an ac) := HX5.out.cell rfl; have HF5 := hide' (HF4.out.trans (Fz.below P Mb v4 hB) HL4.out); have HL5 := HL4; clear hB)
      refine wp_loop_rounds 4 ?_
      rw [rounds_succ]
      go_wp2_with fail
      go_region_with (go_at_call 55; refine (wnum2_any P Mb base v4 _ an _ V1.out.drew (Nat.le_trans (hsz _ _ _ (hsz _ _ _ hz1)) (by omega)) ha).mono ?_; rintro e w6 ⟨rfl, v6, r1, r2, r3⟩; have N1 := hide' r1; have HX6 : Hid (Bx w6 M #[.int .i64 (i0 : Int), .bool b1, .int .i64 (i2 : Int), .bool b3, .bool b4, .bool b5, .bool b6, .bool b7, .bool b8, .int .i64 (i9 : Int), .slice q0 qn qc, .slice a0 an ac, .slice u0 un uc, .slice d0 dn dc] 25) := HX5.out.below (r2.ofDrew.low V1.out) hM; have x12 : w6.cell? ⟨M, 12, none⟩ = some (.slice u0 un uc) := HX6.out.cell rfl; have HF6 := hide' (HF5.out.trans r2.ofDrew HL5.out); have HL6 := hide' (HL5.out.trans HF5.out r3.ofDrew); clear r1 r2 r3)
      go_wp2_with fail
      rw [rounds_succ]
      go_wp2_with fail
      go_region_with (go_at_call 55; refine (wnum2_any P Mb base v6 _ un _ N1.out.drew (Nat.le_trans (hsz _ _ _ (hsz _ _ _ (hsz _ _ _ hz1))) (by omega)) hu).mono ?_; rintro e w7 ⟨rfl, v7, r1, r2, r3⟩; have N2 := hide' r1; have HX7 : Hid (Bx w7 M #[.int .i64 (i0 : Int), .bool b1, .int .i64 (i2 : Int), .bool b3, .bool b4, .bool b5, .bool b6, .bool b7, .bool b8, .int .i64 (i9 : Int), .slice q0 qn qc, .slice a0 an ac, .slice u0 un uc, .slice d0 dn dc] 25) := HX6.out.below (r2.ofDrew.low N1.out) hM; have x13 : w7.cell? ⟨M, 13, none⟩ = some (.slice d0 dn dc) := HX7.out.cell rfl; have HF7 := hide' (HF6.out.trans r2.ofDrew HL6.out); have HL7 := hide' (HL6.out.trans HF6.out r3.ofDrew); clear r1 r2 r3)
      go_wp2_with fail
      rw [rounds_succ]
      go_wp2_with fail
      go_region_with (go_at_call 55; refine (wnum2_any P Mb base v7 _ dn _ N2.out.drew (Nat.le_trans (hsz _ _ _ (hsz _ _ _ (hsz _ _ _ (hsz _ _ _ hz1)))) (by omega)) hd).mono ?_; rintro e w8 ⟨rfl, v8, r1, r2, r3⟩; have N3 := hide' r1; have HX8 : Hid (Bx w8 M #[.int .i64 (i0 : Int), .bool b1, .int .i64 (i2 : Int), .bool b3, .bool b4, .bool b5, .bool b6, .bool b7, .bool b8, .int .i64 (i9 : Int), .slice q0 qn qc, .slice a0 an ac, .slice u0 un uc, .slice d0 dn dc] 25) := HX7.out.below (r2.ofDrew.low N2.out) hM; have HF8 := hide' (HF7.out.trans r2.ofDrew HL7.out); have HL8 := hide' (HL7.out.trans HF7.out r3.ofDrew); clear r1 r2 r3)
      go_wp2_with fail
      rw [rounds_succ]
      go_wp2_with fail
      go_end0
      have hs1 := HS1.out
      subst hs1
      exact ⟨rfl, v8, N3.out, HF8.out, HL8.out⟩
end Go.Proofs.YtjnmbgmdkkiidaaGreat
