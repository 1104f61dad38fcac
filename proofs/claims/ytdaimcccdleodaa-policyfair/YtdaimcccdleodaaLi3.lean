import Derived.Test.YtdaimcccdleodaaLi2
/-
  Chapter 15: policy.Inside. (The verifier's own text.)
-/
namespace Go.Proofs.Ytdaimcccdleodaa
set_option linter.unusedVariables false
set_option linter.unusedSimpArgs false
open Go.RowKit Go.Shelf

theorem ofInt_u8 (x : Nat) (hx : x < 256) : (BitVec.ofInt 8 (x : Int)).toNat = x := by
  rw [BitVec.toNat_ofInt]
  simp
  omega
theorem u8_xor (x y : Nat) (hx : x < 256) (hy : y < 256) : bits .xor .u8 (x : Int) (y : Int) = ((x ^^^ y : Nat) : Int) := by
  have h : x ^^^ y < 2 ^ 8 := Nat.xor_lt_two_pow (by omega) (by omega)
  show IntKind.u8.wrap ((BitVec.ofInt 8 (x : Int) ^^^ BitVec.ofInt 8 (y : Int)).toNat : Int) = _
  rw [BitVec.toNat_xor, ofInt_u8 x hx, ofInt_u8 y hy]
  simp [IntKind.wrap, IntKind.bits, IntKind.signed]
  omega
set_option maxRecDepth 100000 in
set_option maxHeartbeats 1000000 in
theorem inside_dif (A a : ByteArray) (b : Int) (q r : Nat) (w : World) (h : rtB A b a = true) (hq : b.tdiv 8 = (q : Int)) (hr : b.tmod 8 = (r : Int)) (hqn : q ≤ A.size) (hr8 : r < 8) (hb : b = 8 * (q : Int) + (r : Int)) (hd : ((a.extract 0 q).toList == (A.extract 0 q).toList) = false) : Calls Try.prog 7 #[.agg #[.string A, .int .i64 b], .string a] w fun e w' => e = .returned (.bool false) ∧ Below w.heap.size w w' := by
  obtain ⟨hA, ha, hs, h0, h1, hz⟩ := rt_good h
  clear h
  have H := hidq (isAddress_any A)
  rw [hA] at H
  obtain ⟨n, hn⟩ : ∃ n, A.size = n := ⟨_, rfl⟩
  have hm : IntKind.i64.wrap (8 * (n : Int)) = 8 * (n : Int) := by rw [IntKind.wrap_i64]; omega
  rw [hn] at hs h1 hz hqn
  have hne : ((n : Int) != (n : Int)) = false := by simp
  have e1 : decide (b < 0) = false := by simp; omega
  have e2 : decide (8 * (n : Int) < b) = false := by simp; omega
  have hwq : IntKind.i64.wrap (q : Int) = q := by rw [IntKind.wrap_i64]; omega
  have hwr : IntKind.i64.wrap (r : Int) = r := by rw [IntKind.wrap_i64]; omega
  obtain ⟨wb, hwb⟩ : ∃ wb, w.alloc (.cells #[.string A, .int .i64 b] 23) = wb := ⟨_, rfl⟩
  have HB : Hid (Below w.heap.size w wb) := hwb ▸ (Below.refl w.heap.size w).alloc (Nat.le_refl _) _
  have HX : Hid (Bx wb w.heap.size #[.string A, .int .i64 b] 23) := hwb ▸ World.alloc_heap_new w _
  have c0 : wb.cell? ⟨w.heap.size, 0, none⟩ = some (.string A) := HX.out.cell rfl
  have c1 : wb.cell? ⟨w.heap.size, 1, none⟩ = some (.int .i64 b) := HX.out.cell rfl
  have hqs : q ≤ n := by omega
  clear hA ha h1 hb h0
  go_enter Try.func7, Try.ntmps7
  go_wp2_with (first
    | (go_at_call 14; (with_reducible refine (H.out _).mono ?_); rintro e w1 ⟨rfl, h1⟩; have h1 := h1.symm; subst h1))
  go_region_held3 (fun V => V.cell? ⟨w.heap.size, 0, none⟩ = some (.string A) ∧ V.cell? ⟨w.heap.size, 1, none⟩ = some (.int .i64 b)) (first | go_keep) (fail)
  go_wp2_with fail
  go_region_held3 (fun V => V.cell? ⟨w.heap.size, 0, none⟩ = some (.string A) ∧ V.cell? ⟨w.heap.size, 1, none⟩ = some (.int .i64 b)) (first | go_keep) (fail)
  go_wp2_with fail
  go_ret
  exact ⟨rfl, HB.out.drew.drew⟩
set_option maxRecDepth 100000 in
set_option maxHeartbeats 1000000 in
theorem inside_0 (A a : ByteArray) (b : Int) (q : Nat) (w : World) (h : rtB A b a = true) (hq : b.tdiv 8 = (q : Int)) (hr : b.tmod 8 = 0) (hqn : q ≤ A.size) (hb : b = 8 * (q : Int) + 0) (hd : ((a.extract 0 q).toList == (A.extract 0 q).toList) = true) : Calls Try.prog 7 #[.agg #[.string A, .int .i64 b], .string a] w fun e w' => e = .returned (.bool true) ∧ Below w.heap.size w w' := by
  obtain ⟨hA, ha, hs, h0, h1, hz⟩ := rt_good h
  clear h
  have H := hidq (isAddress_any A)
  rw [hA] at H
  obtain ⟨n, hn⟩ : ∃ n, A.size = n := ⟨_, rfl⟩
  have hm : IntKind.i64.wrap (8 * (n : Int)) = 8 * (n : Int) := by rw [IntKind.wrap_i64]; omega
  rw [hn] at hs h1 hz hqn
  have hne : ((n : Int) != (n : Int)) = false := by simp
  have e1 : decide (b < 0) = false := by simp; omega
  have e2 : decide (8 * (n : Int) < b) = false := by simp; omega
  have hwq : IntKind.i64.wrap (q : Int) = q := by rw [IntKind.wrap_i64]; omega
  obtain ⟨wb, hwb⟩ : ∃ wb, w.alloc (.cells #[.string A, .int .i64 b] 23) = wb := ⟨_, rfl⟩
  have HB : Hid (Below w.heap.size w wb) := hwb ▸ (Below.refl w.heap.size w).alloc (Nat.le_refl _) _
  have HX : Hid (Bx wb w.heap.size #[.string A, .int .i64 b] 23) := hwb ▸ World.alloc_heap_new w _
  have c0 : wb.cell? ⟨w.heap.size, 0, none⟩ = some (.string A) := HX.out.cell rfl
  have c1 : wb.cell? ⟨w.heap.size, 1, none⟩ = some (.int .i64 b) := HX.out.cell rfl
  have hqs : q ≤ n := by omega
  clear hA ha h1 hb h0
  go_enter Try.func7, Try.ntmps7
  go_wp2_with (first
    | (go_at_call 14; (with_reducible refine (H.out _).mono ?_); rintro e w1 ⟨rfl, h1⟩; have h1 := h1.symm; subst h1))
  go_region_held3 (fun V => V.cell? ⟨w.heap.size, 0, none⟩ = some (.string A) ∧ V.cell? ⟨w.heap.size, 1, none⟩ = some (.int .i64 b)) (first | go_keep) (fail)
  go_wp2_with fail
  go_region_held3 (fun V => V.cell? ⟨w.heap.size, 0, none⟩ = some (.string A) ∧ V.cell? ⟨w.heap.size, 1, none⟩ = some (.int .i64 b)) (first | go_keep) (fail)
  go_wp2_with fail
  go_region
  go_wp2_with fail
  go_ret
  exact ⟨rfl, HB.out.drew.drew.drew⟩
set_option maxRecDepth 100000 in
set_option maxHeartbeats 1000000 in
theorem inside_1 (A a : ByteArray) (b : Int) (q : Nat) (w : World) (h : rtB A b a = true) (hq : b.tdiv 8 = (q : Int)) (hr : b.tmod 8 = 1) (hqn : q ≤ A.size) (hb : b = 8 * (q : Int) + 1) (hd : ((a.extract 0 q).toList == (A.extract 0 q).toList) = true) : Calls Try.prog 7 #[.agg #[.string A, .int .i64 b], .string a] w fun e w' => e = .returned (.bool (((bv a q ^^^ bv A q : Nat) : Int) / 128 == 0)) ∧ Below w.heap.size w w' := by
  obtain ⟨hA, ha, hs, h0, h1, hz⟩ := rt_good h
  clear h
  have H := hidq (isAddress_any A)
  rw [hA] at H
  have hqa : q < a.size := by omega
  have hqA : q < A.size := by omega
  have hxa := bv_at a q hqa
  have hxA := bv_at A q hqA
  have hzx := u8_xor (bv a q) (bv A q) (bv_lt _ _) (bv_lt _ _)
  generalize bv a q = x at *
  generalize bv A q = y at *
  generalize x ^^^ y = z at *
  have hw : IntKind.i64.wrap 7 = 7 := by decide
  have hsh : Op.shift .shr .u8 (z : Int) .i64 7 = pure (.int .u8 ((z : Int) / 128)) := shift_shr_u8 .i64 _ 7 (by decide) (by decide)
  obtain ⟨n, hn⟩ : ∃ n, A.size = n := ⟨_, rfl⟩
  have hm : IntKind.i64.wrap (8 * (n : Int)) = 8 * (n : Int) := by rw [IntKind.wrap_i64]; omega
  rw [hn] at hs h1 hz hqn
  have hne : ((n : Int) != (n : Int)) = false := by simp
  have e1 : decide (b < 0) = false := by simp; omega
  have e2 : decide (8 * (n : Int) < b) = false := by simp; omega
  have hwq : IntKind.i64.wrap (q : Int) = q := by rw [IntKind.wrap_i64]; omega
  obtain ⟨wb, hwb⟩ : ∃ wb, w.alloc (.cells #[.string A, .int .i64 b] 23) = wb := ⟨_, rfl⟩
  have HB : Hid (Below w.heap.size w wb) := hwb ▸ (Below.refl w.heap.size w).alloc (Nat.le_refl _) _
  have HX : Hid (Bx wb w.heap.size #[.string A, .int .i64 b] 23) := hwb ▸ World.alloc_heap_new w _
  have c0 : wb.cell? ⟨w.heap.size, 0, none⟩ = some (.string A) := HX.out.cell rfl
  have c1 : wb.cell? ⟨w.heap.size, 1, none⟩ = some (.int .i64 b) := HX.out.cell rfl
  have hqs : q < n := by omega
  clear hA ha h1 hb h0
  go_enter Try.func7, Try.ntmps7
  go_wp2_with (first
    | (go_at_call 14; (with_reducible refine (H.out _).mono ?_); rintro e w1 ⟨rfl, h1⟩; have h1 := h1.symm; subst h1))
  go_region_held3 (fun V => V.cell? ⟨w.heap.size, 0, none⟩ = some (.string A) ∧ V.cell? ⟨w.heap.size, 1, none⟩ = some (.int .i64 b)) (first | go_keep) (fail)
  go_wp2_with fail
  go_region_held3 (fun V => V.cell? ⟨w.heap.size, 0, none⟩ = some (.string A) ∧ V.cell? ⟨w.heap.size, 1, none⟩ = some (.int .i64 b)) (first | go_keep) (fail)
  go_wp2_with fail
  go_region_held3 (fun V => V.cell? ⟨w.heap.size, 0, none⟩ = some (.string A) ∧ V.cell? ⟨w.heap.size, 1, none⟩ = some (.int .i64 b)) (first | go_keep) (fail)
  all_goals
    go_wp2_with fail
    go_ret
    exact ⟨rfl, HB.out.drew.drew.drew⟩
set_option maxRecDepth 100000 in
set_option maxHeartbeats 1000000 in
theorem inside_2 (A a : ByteArray) (b : Int) (q : Nat) (w : World) (h : rtB A b a = true) (hq : b.tdiv 8 = (q : Int)) (hr : b.tmod 8 = 2) (hqn : q ≤ A.size) (hb : b = 8 * (q : Int) + 2) (hd : ((a.extract 0 q).toList == (A.extract 0 q).toList) = true) : Calls Try.prog 7 #[.agg #[.string A, .int .i64 b], .string a] w fun e w' => e = .returned (.bool (((bv a q ^^^ bv A q : Nat) : Int) / 64 == 0)) ∧ Below w.heap.size w w' := by
  obtain ⟨hA, ha, hs, h0, h1, hz⟩ := rt_good h
  clear h
  have H := hidq (isAddress_any A)
  rw [hA] at H
  have hqa : q < a.size := by omega
  have hqA : q < A.size := by omega
  have hxa := bv_at a q hqa
  have hxA := bv_at A q hqA
  have hzx := u8_xor (bv a q) (bv A q) (bv_lt _ _) (bv_lt _ _)
  generalize bv a q = x at *
  generalize bv A q = y at *
  generalize x ^^^ y = z at *
  have hw : IntKind.i64.wrap 6 = 6 := by decide
  have hsh : Op.shift .shr .u8 (z : Int) .i64 6 = pure (.int .u8 ((z : Int) / 64)) := shift_shr_u8 .i64 _ 6 (by decide) (by decide)
  obtain ⟨n, hn⟩ : ∃ n, A.size = n := ⟨_, rfl⟩
  have hm : IntKind.i64.wrap (8 * (n : Int)) = 8 * (n : Int) := by rw [IntKind.wrap_i64]; omega
  rw [hn] at hs h1 hz hqn
  have hne : ((n : Int) != (n : Int)) = false := by simp
  have e1 : decide (b < 0) = false := by simp; omega
  have e2 : decide (8 * (n : Int) < b) = false := by simp; omega
  have hwq : IntKind.i64.wrap (q : Int) = q := by rw [IntKind.wrap_i64]; omega
  obtain ⟨wb, hwb⟩ : ∃ wb, w.alloc (.cells #[.string A, .int .i64 b] 23) = wb := ⟨_, rfl⟩
  have HB : Hid (Below w.heap.size w wb) := hwb ▸ (Below.refl w.heap.size w).alloc (Nat.le_refl _) _
  have HX : Hid (Bx wb w.heap.size #[.string A, .int .i64 b] 23) := hwb ▸ World.alloc_heap_new w _
  have c0 : wb.cell? ⟨w.heap.size, 0, none⟩ = some (.string A) := HX.out.cell rfl
  have c1 : wb.cell? ⟨w.heap.size, 1, none⟩ = some (.int .i64 b) := HX.out.cell rfl
  have hqs : q < n := by omega
  clear hA ha h1 hb h0
  go_enter Try.func7, Try.ntmps7
  go_wp2_with (first
    | (go_at_call 14; (with_reducible refine (H.out _).mono ?_); rintro e w1 ⟨rfl, h1⟩; have h1 := h1.symm; subst h1))
  go_region_held3 (fun V => V.cell? ⟨w.heap.size, 0, none⟩ = some (.string A) ∧ V.cell? ⟨w.heap.size, 1, none⟩ = some (.int .i64 b)) (first | go_keep) (fail)
  go_wp2_with fail
  go_region_held3 (fun V => V.cell? ⟨w.heap.size, 0, none⟩ = some (.string A) ∧ V.cell? ⟨w.heap.size, 1, none⟩ = some (.int .i64 b)) (first | go_keep) (fail)
  go_wp2_with fail
  go_region_held3 (fun V => V.cell? ⟨w.heap.size, 0, none⟩ = some (.string A) ∧ V.cell? ⟨w.heap.size, 1, none⟩ = some (.int .i64 b)) (first | go_keep) (fail)
  all_goals
    go_wp2_with fail
    go_ret
    exact ⟨rfl, HB.out.drew.drew.drew⟩
set_option maxRecDepth 100000 in
set_option maxHeartbeats 1000000 in
theorem inside_3 (A a : ByteArray) (b : Int) (q : Nat) (w : World) (h : rtB A b a = true) (hq : b.tdiv 8 = (q : Int)) (hr : b.tmod 8 = 3) (hqn : q ≤ A.size) (hb : b = 8 * (q : Int) + 3) (hd : ((a.extract 0 q).toList == (A.extract 0 q).toList) = true) : Calls Try.prog 7 #[.agg #[.string A, .int .i64 b], .string a] w fun e w' => e = .returned (.bool (((bv a q ^^^ bv A q : Nat) : Int) / 32 == 0)) ∧ Below w.heap.size w w' := by
  obtain ⟨hA, ha, hs, h0, h1, hz⟩ := rt_good h
  clear h
  have H := hidq (isAddress_any A)
  rw [hA] at H
  have hqa : q < a.size := by omega
  have hqA : q < A.size := by omega
  have hxa := bv_at a q hqa
  have hxA := bv_at A q hqA
  have hzx := u8_xor (bv a q) (bv A q) (bv_lt _ _) (bv_lt _ _)
  generalize bv a q = x at *
  generalize bv A q = y at *
  generalize x ^^^ y = z at *
  have hw : IntKind.i64.wrap 5 = 5 := by decide
  have hsh : Op.shift .shr .u8 (z : Int) .i64 5 = pure (.int .u8 ((z : Int) / 32)) := shift_shr_u8 .i64 _ 5 (by decide) (by decide)
  obtain ⟨n, hn⟩ : ∃ n, A.size = n := ⟨_, rfl⟩
  have hm : IntKind.i64.wrap (8 * (n : Int)) = 8 * (n : Int) := by rw [IntKind.wrap_i64]; omega
  rw [hn] at hs h1 hz hqn
  have hne : ((n : Int) != (n : Int)) = false := by simp
  have e1 : decide (b < 0) = false := by simp; omega
  have e2 : decide (8 * (n : Int) < b) = false := by simp; omega
  have hwq : IntKind.i64.wrap (q : Int) = q := by rw [IntKind.wrap_i64]; omega
  obtain ⟨wb, hwb⟩ : ∃ wb, w.alloc (.cells #[.string A, .int .i64 b] 23) = wb := ⟨_, rfl⟩
  have HB : Hid (Below w.heap.size w wb) := hwb ▸ (Below.refl w.heap.size w).alloc (Nat.le_refl _) _
  have HX : Hid (Bx wb w.heap.size #[.string A, .int .i64 b] 23) := hwb ▸ World.alloc_heap_new w _
  have c0 : wb.cell? ⟨w.heap.size, 0, none⟩ = some (.string A) := HX.out.cell rfl
  have c1 : wb.cell? ⟨w.heap.size, 1, none⟩ = some (.int .i64 b) := HX.out.cell rfl
  have hqs : q < n := by omega
  clear hA ha h1 hb h0
  go_enter Try.func7, Try.ntmps7
  go_wp2_with (first
    | (go_at_call 14; (with_reducible refine (H.out _).mono ?_); rintro e w1 ⟨rfl, h1⟩; have h1 := h1.symm; subst h1))
  go_region_held3 (fun V => V.cell? ⟨w.heap.size, 0, none⟩ = some (.string A) ∧ V.cell? ⟨w.heap.size, 1, none⟩ = some (.int .i64 b)) (first | go_keep) (fail)
  go_wp2_with fail
  go_region_held3 (fun V => V.cell? ⟨w.heap.size, 0, none⟩ = some (.string A) ∧ V.cell? ⟨w.heap.size, 1, none⟩ = some (.int .i64 b)) (first | go_keep) (fail)
  go_wp2_with fail
  go_region_held3 (fun V => V.cell? ⟨w.heap.size, 0, none⟩ = some (.string A) ∧ V.cell? ⟨w.heap.size, 1, none⟩ = some (.int .i64 b)) (first | go_keep) (fail)
  all_goals
    go_wp2_with fail
    go_ret
    exact ⟨rfl, HB.out.drew.drew.drew⟩
set_option maxRecDepth 100000 in
set_option maxHeartbeats 1000000 in
theorem inside_4 (A a : ByteArray) (b : Int) (q : Nat) (w : World) (h : rtB A b a = true) (hq : b.tdiv 8 = (q : Int)) (hr : b.tmod 8 = 4) (hqn : q ≤ A.size) (hb : b = 8 * (q : Int) + 4) (hd : ((a.extract 0 q).toList == (A.extract 0 q).toList) = true) : Calls Try.prog 7 #[.agg #[.string A, .int .i64 b], .string a] w fun e w' => e = .returned (.bool (((bv a q ^^^ bv A q : Nat) : Int) / 16 == 0)) ∧ Below w.heap.size w w' := by
  obtain ⟨hA, ha, hs, h0, h1, hz⟩ := rt_good h
  clear h
  have H := hidq (isAddress_any A)
  rw [hA] at H
  have hqa : q < a.size := by omega
  have hqA : q < A.size := by omega
  have hxa := bv_at a q hqa
  have hxA := bv_at A q hqA
  have hzx := u8_xor (bv a q) (bv A q) (bv_lt _ _) (bv_lt _ _)
  generalize bv a q = x at *
  generalize bv A q = y at *
  generalize x ^^^ y = z at *
  have hw : IntKind.i64.wrap 4 = 4 := by decide
  have hsh : Op.shift .shr .u8 (z : Int) .i64 4 = pure (.int .u8 ((z : Int) / 16)) := shift_shr_u8 .i64 _ 4 (by decide) (by decide)
  obtain ⟨n, hn⟩ : ∃ n, A.size = n := ⟨_, rfl⟩
  have hm : IntKind.i64.wrap (8 * (n : Int)) = 8 * (n : Int) := by rw [IntKind.wrap_i64]; omega
  rw [hn] at hs h1 hz hqn
  have hne : ((n : Int) != (n : Int)) = false := by simp
  have e1 : decide (b < 0) = false := by simp; omega
  have e2 : decide (8 * (n : Int) < b) = false := by simp; omega
  have hwq : IntKind.i64.wrap (q : Int) = q := by rw [IntKind.wrap_i64]; omega
  obtain ⟨wb, hwb⟩ : ∃ wb, w.alloc (.cells #[.string A, .int .i64 b] 23) = wb := ⟨_, rfl⟩
  have HB : Hid (Below w.heap.size w wb) := hwb ▸ (Below.refl w.heap.size w).alloc (Nat.le_refl _) _
  have HX : Hid (Bx wb w.heap.size #[.string A, .int .i64 b] 23) := hwb ▸ World.alloc_heap_new w _
  have c0 : wb.cell? ⟨w.heap.size, 0, none⟩ = some (.string A) := HX.out.cell rfl
  have c1 : wb.cell? ⟨w.heap.size, 1, none⟩ = some (.int .i64 b) := HX.out.cell rfl
  have hqs : q < n := by omega
  clear hA ha h1 hb h0
  go_enter Try.func7, Try.ntmps7
  go_wp2_with (first
    | (go_at_call 14; (with_reducible refine (H.out _).mono ?_); rintro e w1 ⟨rfl, h1⟩; have h1 := h1.symm; subst h1))
  go_region_held3 (fun V => V.cell? ⟨w.heap.size, 0, none⟩ = some (.string A) ∧ V.cell? ⟨w.heap.size, 1, none⟩ = some (.int .i64 b)) (first | go_keep) (fail)
  go_wp2_with fail
  go_region_held3 (fun V => V.cell? ⟨w.heap.size, 0, none⟩ = some (.string A) ∧ V.cell? ⟨w.heap.size, 1, none⟩ = some (.int .i64 b)) (first | go_keep) (fail)
  go_wp2_with fail
  go_region_held3 (fun V => V.cell? ⟨w.heap.size, 0, none⟩ = some (.string A) ∧ V.cell? ⟨w.heap.size, 1, none⟩ = some (.int .i64 b)) (first | go_keep) (fail)
  all_goals
    go_wp2_with fail
    go_ret
    exact ⟨rfl, HB.out.drew.drew.drew⟩
set_option maxRecDepth 100000 in
set_option maxHeartbeats 1000000 in
theorem inside_5 (A a : ByteArray) (b : Int) (q : Nat) (w : World) (h : rtB A b a = true) (hq : b.tdiv 8 = (q : Int)) (hr : b.tmod 8 = 5) (hqn : q ≤ A.size) (hb : b = 8 * (q : Int) + 5) (hd : ((a.extract 0 q).toList == (A.extract 0 q).toList) = true) : Calls Try.prog 7 #[.agg #[.string A, .int .i64 b], .string a] w fun e w' => e = .returned (.bool (((bv a q ^^^ bv A q : Nat) : Int) / 8 == 0)) ∧ Below w.heap.size w w' := by
  obtain ⟨hA, ha, hs, h0, h1, hz⟩ := rt_good h
  clear h
  have H := hidq (isAddress_any A)
  rw [hA] at H
  have hqa : q < a.size := by omega
  have hqA : q < A.size := by omega
  have hxa := bv_at a q hqa
  have hxA := bv_at A q hqA
  have hzx := u8_xor (bv a q) (bv A q) (bv_lt _ _) (bv_lt _ _)
  generalize bv a q = x at *
  generalize bv A q = y at *
  generalize x ^^^ y = z at *
  have hw : IntKind.i64.wrap 3 = 3 := by decide
  have hsh : Op.shift .shr .u8 (z : Int) .i64 3 = pure (.int .u8 ((z : Int) / 8)) := shift_shr_u8 .i64 _ 3 (by decide) (by decide)
  obtain ⟨n, hn⟩ : ∃ n, A.size = n := ⟨_, rfl⟩
  have hm : IntKind.i64.wrap (8 * (n : Int)) = 8 * (n : Int) := by rw [IntKind.wrap_i64]; omega
  rw [hn] at hs h1 hz hqn
  have hne : ((n : Int) != (n : Int)) = false := by simp
  have e1 : decide (b < 0) = false := by simp; omega
  have e2 : decide (8 * (n : Int) < b) = false := by simp; omega
  have hwq : IntKind.i64.wrap (q : Int) = q := by rw [IntKind.wrap_i64]; omega
  obtain ⟨wb, hwb⟩ : ∃ wb, w.alloc (.cells #[.string A, .int .i64 b] 23) = wb := ⟨_, rfl⟩
  have HB : Hid (Below w.heap.size w wb) := hwb ▸ (Below.refl w.heap.size w).alloc (Nat.le_refl _) _
  have HX : Hid (Bx wb w.heap.size #[.string A, .int .i64 b] 23) := hwb ▸ World.alloc_heap_new w _
  have c0 : wb.cell? ⟨w.heap.size, 0, none⟩ = some (.string A) := HX.out.cell rfl
  have c1 : wb.cell? ⟨w.heap.size, 1, none⟩ = some (.int .i64 b) := HX.out.cell rfl
  have hqs : q < n := by omega
  clear hA ha h1 hb h0
  go_enter Try.func7, Try.ntmps7
  go_wp2_with (first
    | (go_at_call 14; (with_reducible refine (H.out _).mono ?_); rintro e w1 ⟨rfl, h1⟩; have h1 := h1.symm; subst h1))
  go_region_held3 (fun V => V.cell? ⟨w.heap.size, 0, none⟩ = some (.string A) ∧ V.cell? ⟨w.heap.size, 1, none⟩ = some (.int .i64 b)) (first | go_keep) (fail)
  go_wp2_with fail
  go_region_held3 (fun V => V.cell? ⟨w.heap.size, 0, none⟩ = some (.string A) ∧ V.cell? ⟨w.heap.size, 1, none⟩ = some (.int .i64 b)) (first | go_keep) (fail)
  go_wp2_with fail
  go_region_held3 (fun V => V.cell? ⟨w.heap.size, 0, none⟩ = some (.string A) ∧ V.cell? ⟨w.heap.size, 1, none⟩ = some (.int .i64 b)) (first | go_keep) (fail)
  all_goals
    go_wp2_with fail
    go_ret
    exact ⟨rfl, HB.out.drew.drew.drew⟩
set_option maxRecDepth 100000 in
set_option maxHeartbeats 1000000 in
theorem inside_6 (A a : ByteArray) (b : Int) (q : Nat) (w : World) (h : rtB A b a = true) (hq : b.tdiv 8 = (q : Int)) (hr : b.tmod 8 = 6) (hqn : q ≤ A.size) (hb : b = 8 * (q : Int) + 6) (hd : ((a.extract 0 q).toList == (A.extract 0 q).toList) = true) : Calls Try.prog 7 #[.agg #[.string A, .int .i64 b], .string a] w fun e w' => e = .returned (.bool (((bv a q ^^^ bv A q : Nat) : Int) / 4 == 0)) ∧ Below w.heap.size w w' := by
  obtain ⟨hA, ha, hs, h0, h1, hz⟩ := rt_good h
  clear h
  have H := hidq (isAddress_any A)
  rw [hA] at H
  have hqa : q < a.size := by omega
  have hqA : q < A.size := by omega
  have hxa := bv_at a q hqa
  have hxA := bv_at A q hqA
  have hzx := u8_xor (bv a q) (bv A q) (bv_lt _ _) (bv_lt _ _)
  generalize bv a q = x at *
  generalize bv A q = y at *
  generalize x ^^^ y = z at *
  have hw : IntKind.i64.wrap 2 = 2 := by decide
  have hsh : Op.shift .shr .u8 (z : Int) .i64 2 = pure (.int .u8 ((z : Int) / 4)) := shift_shr_u8 .i64 _ 2 (by decide) (by decide)
  obtain ⟨n, hn⟩ : ∃ n, A.size = n := ⟨_, rfl⟩
  have hm : IntKind.i64.wrap (8 * (n : Int)) = 8 * (n : Int) := by rw [IntKind.wrap_i64]; omega
  rw [hn] at hs h1 hz hqn
  have hne : ((n : Int) != (n : Int)) = false := by simp
  have e1 : decide (b < 0) = false := by simp; omega
  have e2 : decide (8 * (n : Int) < b) = false := by simp; omega
  have hwq : IntKind.i64.wrap (q : Int) = q := by rw [IntKind.wrap_i64]; omega
  obtain ⟨wb, hwb⟩ : ∃ wb, w.alloc (.cells #[.string A, .int .i64 b] 23) = wb := ⟨_, rfl⟩
  have HB : Hid (Below w.heap.size w wb) := hwb ▸ (Below.refl w.heap.size w).alloc (Nat.le_refl _) _
  have HX : Hid (Bx wb w.heap.size #[.string A, .int .i64 b] 23) := hwb ▸ World.alloc_heap_new w _
  have c0 : wb.cell? ⟨w.heap.size, 0, none⟩ = some (.string A) := HX.out.cell rfl
  have c1 : wb.cell? ⟨w.heap.size, 1, none⟩ = some (.int .i64 b) := HX.out.cell rfl
  have hqs : q < n := by omega
  clear hA ha h1 hb h0
  go_enter Try.func7, Try.ntmps7
  go_wp2_with (first
    | (go_at_call 14; (with_reducible refine (H.out _).mono ?_); rintro e w1 ⟨rfl, h1⟩; have h1 := h1.symm; subst h1))
  go_region_held3 (fun V => V.cell? ⟨w.heap.size, 0, none⟩ = some (.string A) ∧ V.cell? ⟨w.heap.size, 1, none⟩ = some (.int .i64 b)) (first | go_keep) (fail)
  go_wp2_with fail
  go_region_held3 (fun V => V.cell? ⟨w.heap.size, 0, none⟩ = some (.string A) ∧ V.cell? ⟨w.heap.size, 1, none⟩ = some (.int .i64 b)) (first | go_keep) (fail)
  go_wp2_with fail
  go_region_held3 (fun V => V.cell? ⟨w.heap.size, 0, none⟩ = some (.string A) ∧ V.cell? ⟨w.heap.size, 1, none⟩ = some (.int .i64 b)) (first | go_keep) (fail)
  all_goals
    go_wp2_with fail
    go_ret
    exact ⟨rfl, HB.out.drew.drew.drew⟩
set_option maxRecDepth 100000 in
set_option maxHeartbeats 1000000 in
theorem inside_7 (A a : ByteArray) (b : Int) (q : Nat) (w : World) (h : rtB A b a = true) (hq : b.tdiv 8 = (q : Int)) (hr : b.tmod 8 = 7) (hqn : q ≤ A.size) (hb : b = 8 * (q : Int) + 7) (hd : ((a.extract 0 q).toList == (A.extract 0 q).toList) = true) : Calls Try.prog 7 #[.agg #[.string A, .int .i64 b], .string a] w fun e w' => e = .returned (.bool (((bv a q ^^^ bv A q : Nat) : Int) / 2 == 0)) ∧ Below w.heap.size w w' := by
  obtain ⟨hA, ha, hs, h0, h1, hz⟩ := rt_good h
  clear h
  have H := hidq (isAddress_any A)
  rw [hA] at H
  have hqa : q < a.size := by omega
  have hqA : q < A.size := by omega
  have hxa := bv_at a q hqa
  have hxA := bv_at A q hqA
  have hzx := u8_xor (bv a q) (bv A q) (bv_lt _ _) (bv_lt _ _)
  generalize bv a q = x at *
  generalize bv A q = y at *
  generalize x ^^^ y = z at *
  have hw : IntKind.i64.wrap 1 = 1 := by decide
  have hsh : Op.shift .shr .u8 (z : Int) .i64 1 = pure (.int .u8 ((z : Int) / 2)) := shift_shr_u8 .i64 _ 1 (by decide) (by decide)
  obtain ⟨n, hn⟩ : ∃ n, A.size = n := ⟨_, rfl⟩
  have hm : IntKind.i64.wrap (8 * (n : Int)) = 8 * (n : Int) := by rw [IntKind.wrap_i64]; omega
  rw [hn] at hs h1 hz hqn
  have hne : ((n : Int) != (n : Int)) = false := by simp
  have e1 : decide (b < 0) = false := by simp; omega
  have e2 : decide (8 * (n : Int) < b) = false := by simp; omega
  have hwq : IntKind.i64.wrap (q : Int) = q := by rw [IntKind.wrap_i64]; omega
  obtain ⟨wb, hwb⟩ : ∃ wb, w.alloc (.cells #[.string A, .int .i64 b] 23) = wb := ⟨_, rfl⟩
  have HB : Hid (Below w.heap.size w wb) := hwb ▸ (Below.refl w.heap.size w).alloc (Nat.le_refl _) _
  have HX : Hid (Bx wb w.heap.size #[.string A, .int .i64 b] 23) := hwb ▸ World.alloc_heap_new w _
  have c0 : wb.cell? ⟨w.heap.size, 0, none⟩ = some (.string A) := HX.out.cell rfl
  have c1 : wb.cell? ⟨w.heap.size, 1, none⟩ = some (.int .i64 b) := HX.out.cell rfl
  have hqs : q < n := by omega
  clear hA ha h1 hb h0
  go_enter Try.func7, Try.ntmps7
  go_wp2_with (first
    | (go_at_call 14; (with_reducible refine (H.out _).mono ?_); rintro e w1 ⟨rfl, h1⟩; have h1 := h1.symm; subst h1))
  go_region_held3 (fun V => V.cell? ⟨w.heap.size, 0, none⟩ = some (.string A) ∧ V.cell? ⟨w.heap.size, 1, none⟩ = some (.int .i64 b)) (first | go_keep) (fail)
  go_wp2_with fail
  go_region_held3 (fun V => V.cell? ⟨w.heap.size, 0, none⟩ = some (.string A) ∧ V.cell? ⟨w.heap.size, 1, none⟩ = some (.int .i64 b)) (first | go_keep) (fail)
  go_wp2_with fail
  go_region_held3 (fun V => V.cell? ⟨w.heap.size, 0, none⟩ = some (.string A) ∧ V.cell? ⟨w.heap.size, 1, none⟩ = some (.int .i64 b)) (first | go_keep) (fail)
  all_goals
    go_wp2_with fail
    go_ret
    exact ⟨rfl, HB.out.drew.drew.drew⟩
end Go.Proofs.Ytdaimcccdleodaa
