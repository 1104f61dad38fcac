import Derived.Test.YtelboefeomnjaaaGreatGr0G
import Derived.Deep.RegionHeld3
import Derived.Deep.RegionLaw
import Derived.Laws.BitsAll
/-
  Chapter 15: nets. (The verifier's own text.)
-/
namespace Go.Proofs.YtelboefeomnjaaaGreat
set_option linter.unusedVariables false
set_option linter.unusedSimpArgs false
open Go.RowKit Go.Shelf

theorem hidq {p : Prop} (h : p) : Hid p := h
/-- is it an address? -/
def adB (s : ByteArray) : Bool := (s.size : Int) == 4 || (s.size : Int) == 16
theorem isAddress_any (s : ByteArray) (w : World) : Calls Tryz.prog 36 #[.string s] w fun e w' => e = .returned (.bool (adB s)) ∧ w' = w := by
  unfold adB
  go_enter Tryz.func36, Tryz.ntmps36
  go_wp2_with fail
  all_goals
    go_ret
    simp_all
/-- is the net right, and the address of its kind? -/
def rtB (A : ByteArray) (b : Int) (a : ByteArray) : Bool := adB A && ((a.size : Int) == (A.size : Int)) && decide (0 ≤ b) && decide (b ≤ 8 * (A.size : Int))
set_option maxRecDepth 100000 in
theorem inside_bad1 (A a : ByteArray) (b : Int) (w : World) (hA : adB A = false) : Calls Tryz.prog 15 #[.agg #[.string A, .int .i64 b], .string a] w fun e w' => e = .returned (.bool false) ∧ Below w.heap.size w w' := by
  have H := hidq (isAddress_any A)
  have HB := hidq ((Below.refl w.heap.size w).alloc (Nat.le_refl _) (.cells #[.string A, .int .i64 b] 39))
  rw [hA] at H
  clear hA
  go_enter Tryz.func15, Tryz.ntmps15
  go_wp2_with (first
    | (go_at_call 36; (with_reducible refine (H.out _).mono ?_); rintro e w1 ⟨rfl, rfl⟩))
  all_goals
    go_ret
    exact ⟨rfl, HB.out⟩
set_option maxRecDepth 100000 in
theorem inside_bad2 (A a : ByteArray) (b : Int) (w : World) (hA : adB A = true) (hs : ((a.size : Int) != (A.size : Int)) = true) : Calls Tryz.prog 15 #[.agg #[.string A, .int .i64 b], .string a] w fun e w' => e = .returned (.bool false) ∧ Below w.heap.size w w' := by
  have H := hidq (isAddress_any A)
  have HB := hidq ((Below.refl w.heap.size w).alloc (Nat.le_refl _) (.cells #[.string A, .int .i64 b] 39))
  rw [hA] at H
  clear hA
  go_enter Tryz.func15, Tryz.ntmps15
  go_wp2_with (first
    | (go_at_call 36; (with_reducible refine (H.out _).mono ?_); rintro e w1 ⟨rfl, rfl⟩))
  all_goals
    go_ret
    exact ⟨rfl, HB.out⟩
set_option maxRecDepth 100000 in
theorem inside_bad3 (A a : ByteArray) (b : Int) (w : World) (hA : adB A = true) (hs : a.size = A.size) (hb : b < 0) : Calls Tryz.prog 15 #[.agg #[.string A, .int .i64 b], .string a] w fun e w' => e = .returned (.bool false) ∧ Below w.heap.size w w' := by
  have H := hidq (isAddress_any A)
  have HB := hidq ((Below.refl w.heap.size w).alloc (Nat.le_refl _) (.cells #[.string A, .int .i64 b] 39))
  rw [hA] at H
  obtain ⟨n, hn⟩ : ∃ n, A.size = n := ⟨_, rfl⟩
  rw [hn] at hs
  have hne : ((n : Int) != (n : Int)) = false := by simp
  have e1 : decide (b < 0) = true := by simp; omega
  clear hA hb
  go_enter Tryz.func15, Tryz.ntmps15
  go_wp2_with (first
    | (go_at_call 36; (with_reducible refine (H.out _).mono ?_); rintro e w1 ⟨rfl, rfl⟩))
  all_goals
    go_ret
    exact ⟨rfl, HB.out⟩
set_option maxRecDepth 100000 in
theorem inside_bad4 (A a : ByteArray) (b : Int) (w : World) (hA : adB A = true) (hs : a.size = A.size) (h0 : 0 ≤ b) (h1 : 8 * (A.size : Int) < b) : Calls Tryz.prog 15 #[.agg #[.string A, .int .i64 b], .string a] w fun e w' => e = .returned (.bool false) ∧ Below w.heap.size w w' := by
  have H := hidq (isAddress_any A)
  have HB := hidq ((Below.refl w.heap.size w).alloc (Nat.le_refl _) (.cells #[.string A, .int .i64 b] 39))
  rw [hA] at H
  have hz : A.size ≤ 16 := by unfold adB at hA; simp at hA; omega
  obtain ⟨n, hn⟩ : ∃ n, A.size = n := ⟨_, rfl⟩
  rw [hn] at hs h1 hz
  have hm : IntKind.i64.wrap (8 * (n : Int)) = 8 * (n : Int) := by rw [IntKind.wrap_i64]; omega
  have hne : ((n : Int) != (n : Int)) = false := by simp
  have e1 : decide (b < 0) = false := by simp; omega
  have e2 : decide (8 * (n : Int) < b) = true := by simp; omega
  clear hA h0 h1
  go_enter Tryz.func15, Tryz.ntmps15
  go_wp2_with (first
    | (go_at_call 36; (with_reducible refine (H.out _).mono ?_); rintro e w1 ⟨rfl, rfl⟩))
  all_goals
    go_ret
    exact ⟨rfl, HB.out⟩
theorem rt_cases (A : ByteArray) (b : Int) (a : ByteArray) (h : rtB A b a = false) : adB A = false ∨ (adB A = true ∧ ((a.size : Int) != (A.size : Int)) = true) ∨ (adB A = true ∧ a.size = A.size ∧ b < 0) ∨ (adB A = true ∧ a.size = A.size ∧ 0 ≤ b ∧ 8 * (A.size : Int) < b) := by
  cases hA : adB A with
  | false => exact .inl rfl
  | true =>
    right
    by_cases hs : a.size = A.size
    · right
      by_cases h0 : b < 0
      · exact .inl ⟨rfl, hs, h0⟩
      · by_cases h1 : 8 * (A.size : Int) < b
        · exact .inr ⟨rfl, hs, by omega, h1⟩
        · exfalso
          unfold rtB at h
          simp [hA, hs] at h
          omega
    · left
      refine ⟨rfl, ?_⟩
      simp
      omega
theorem inside_bad (A a : ByteArray) (b : Int) (w : World) (h : rtB A b a = false) : Calls Tryz.prog 15 #[.agg #[.string A, .int .i64 b], .string a] w fun e w' => e = .returned (.bool false) ∧ Below w.heap.size w w' := by
  rcases rt_cases A b a h with h | ⟨h, h2⟩ | ⟨h, h2, h3⟩ | ⟨h, h2, h3, h4⟩
  · exact inside_bad1 A a b w h
  · exact inside_bad2 A a b w h h2
  · exact inside_bad3 A a b w h h2 h3
  · exact inside_bad4 A a b w h h2 h3 h4
theorem rt_good {A : ByteArray} {b : Int} {a : ByteArray} (h : rtB A b a = true) : adB A = true ∧ adB a = true ∧ a.size = A.size ∧ 0 ≤ b ∧ b ≤ 8 * (A.size : Int) ∧ A.size ≤ 16 := by
  unfold rtB at h
  simp at h
  obtain ⟨⟨⟨h1, h2⟩, h3⟩, h4⟩ := h
  have h2' : a.size = A.size := by omega
  refine ⟨h1, ?_, h2', h3, h4, ?_⟩
  · unfold adB at h1 ⊢
    rw [h2']
    exact h1
  · unfold adB at h1
    simp at h1
    omega
end Go.Proofs.YtelboefeomnjaaaGreat

/-
  Chapter 15: bits of addresses; the reference's nets. (The verifier's own text.)
-/
namespace Go.Proofs.YtelboefeomnjaaaGreat
set_option linter.unusedVariables false
set_option linter.unusedSimpArgs false
open Go.RowKit Go.Shelf

/-- a byte -/
def bv (s : ByteArray) (i : Nat) : Nat := (s.data.toList.getD i 0).toNat
theorem bv_at (s : ByteArray) (i : Nat) (h : i < s.size) : s[i].toNat = bv s i := by
  have h' : i < s.data.toList.length := h
  unfold bv
  rw [List.getD_eq_getElem?_getD, List.getElem?_eq_getElem h']
  rfl
theorem bv_lt (s : ByteArray) (i : Nat) : bv s i < 256 := (s.data.toList.getD i 0).toNat_lt
/-- a bit -/
def bitN (s : ByteArray) (k : Nat) : Nat := bv s (k / 8) / 2 ^ (7 - k % 8) % 2
/-- do the first bits agree? -/
def agB (A a : ByteArray) (n : Nat) : Bool := (List.range n).all fun k => bitN A k == bitN a k
theorem ag_yes {A a : ByteArray} {n : Nat} (h : ∀ k, k < n → bitN A k = bitN a k) : agB A a n = true := by
  unfold agB
  rw [List.all_eq_true]
  intro k hk
  have := h k (List.mem_range.1 hk)
  simp [this]
theorem ag_iff {A a : ByteArray} {n : Nat} : agB A a n = true ↔ ∀ k, k < n → bitN A k = bitN a k := by
  constructor
  · intro h k hk
    unfold agB at h
    rw [List.all_eq_true] at h
    have := h k (List.mem_range.2 hk)
    simpa using this
  · exact ag_yes
/-- what Inside says -/
def insB (A : ByteArray) (b : Int) (a : ByteArray) : Bool := rtB A b a && agB A a b.toNat
end Go.Proofs.YtelboefeomnjaaaGreat

/-
  Chapter 15: policy.Inside. (The verifier's own text.)
-/
namespace Go.Proofs.YtelboefeomnjaaaGreat
set_option linter.unusedVariables false
set_option linter.unusedSimpArgs false
open Go.RowKit Go.Shelf

theorem ofInt_u8 (x : Nat) (hx : x < 256) : (BitVec.ofInt 8 (x : Int)).toNat = x := by
  rw [BitVec.toNat_ofInt]
  simp
  omega
theorem u8_xor (x y : Nat) (hx : x < 256) (hy : y < 256) : bits .xor .u8 (x : Int) (y : Int) = ((x ^^^ y : Nat) : Int) := by
  have h : x ^^^ y < 2 ^ 8 := Nat.xor_lt_two_pow (by omega) (by omega)
  show IntKind.u8.wrap ((BitVec.ofInt 8 (x : Int) ^^^ BitVec.ofInt 8 (y : Int)).toNat : Int) = _
  rw [BitVec.toNat_xor, ofInt_u8 x hx, ofInt_u8 y hy]
  simp [IntKind.wrap, IntKind.bits, IntKind.signed]
  omega
set_option maxRecDepth 100000 in
set_option maxHeartbeats 1000000 in
theorem inside_dif (A a : ByteArray) (b : Int) (q r : Nat) (w : World) (h : rtB A b a = true) (hq : b.tdiv 8 = (q : Int)) (hr : b.tmod 8 = (r : Int)) (hqn : q ≤ A.size) (hr8 : r < 8) (hb : b = 8 * (q : Int) + (r : Int)) (hd : ((a.extract 0 q).toList == (A.extract 0 q).toList) = false) : Calls Tryz.prog 15 #[.agg #[.string A, .int .i64 b], .string a] w fun e w' => e = .returned (.bool false) ∧ Below w.heap.size w w' := by
  obtain ⟨hA, ha, hs, h0, h1, hz⟩ := rt_good h
  clear h
  have H := hidq (isAddress_any A)
  rw [hA] at H
  obtain ⟨n, hn⟩ : ∃ n, A.size = n := ⟨_, rfl⟩
  have hm : IntKind.i64.wrap (8 * (n : Int)) = 8 * (n : Int) := by rw [IntKind.wrap_i64]; omega
  rw [hn] at hs h1 hz hqn
  have hne : ((n : Int) != (n : Int)) = false := by simp
  have e1 : decide (b < 0) = false := by simp; omega
  have e2 : decide (8 * (n : Int) < b) = false := by simp; omega
  have hwq : IntKind.i64.wrap (q : Int) = q := by rw [IntKind.wrap_i64]; omega
  have hwr : IntKind.i64.wrap (r : Int) = r := by rw [IntKind.wrap_i64]; omega
  obtain ⟨wb, hwb⟩ : ∃ wb, w.alloc (.cells #[.string A, .int .i64 b] 39) = wb := ⟨_, rfl⟩
  have HB : Hid (Below w.heap.size w wb) := hwb ▸ (Below.refl w.heap.size w).alloc (Nat.le_refl _) _
  have HX : Hid (Bx wb w.heap.size #[.string A, .int .i64 b] 39) := hwb ▸ World.alloc_heap_new w _
  have c0 : wb.cell? ⟨w.heap.size, 0, none⟩ = some (.string A) := HX.out.cell rfl
  have c1 : wb.cell? ⟨w.heap.size, 1, none⟩ = some (.int .i64 b) := HX.out.cell rfl
  have hqs : q ≤ n := by omega
  clear hA ha h1 hb h0
  go_enter Tryz.func15, Tryz.ntmps15
  go_wp2_with (first
    | (go_at_call 36; (with_reducible refine (H.out _).mono ?_); rintro e w1 ⟨rfl, h1⟩; have h1 := h1.symm; subst h1))
  go_region_held3 (fun V => V.cell? ⟨w.heap.size, 0, none⟩ = some (.string A) ∧ V.cell? ⟨w.heap.size, 1, none⟩ = some (.int .i64 b)) (first | go_keep) (fail)
  go_wp2_with fail
  go_region_held3 (fun V => V.cell? ⟨w.heap.size, 0, none⟩ = some (.string A) ∧ V.cell? ⟨w.heap.size, 1, none⟩ = some (.int .i64 b)) (first | go_keep) (fail)
  go_wp2_with fail
  go_ret
  exact ⟨rfl, HB.out.drew.drew⟩
set_option maxRecDepth 100000 in
set_option maxHeartbeats 1000000 in
theorem inside_0 (A a : ByteArray) (b : Int) (q : Nat) (w : World) (h : rtB A b a = true) (hq : b.tdiv 8 = (q : Int)) (hr : b.tmod 8 = 0) (hqn : q ≤ A.size) (hb : b = 8 * (q : Int) + 0) (hd : ((a.extract 0 q).toList == (A.extract 0 q).toList) = true) : Calls Tryz.prog 15 #[.agg #[.string A, .int .i64 b], .string a] w fun e w' => e = .returned (.bool true) ∧ Below w.heap.size w w' := by
  obtain ⟨hA, ha, hs, h0, h1, hz⟩ := rt_good h
  clear h
  have H := hidq (isAddress_any A)
  rw [hA] at H
  obtain ⟨n, hn⟩ : ∃ n, A.size = n := ⟨_, rfl⟩
  have hm : IntKind.i64.wrap (8 * (n : Int)) = 8 * (n : Int) := by rw [IntKind.wrap_i64]; omega
  rw [hn] at hs h1 hz hqn
  have hne : ((n : Int) != (n : Int)) = false := by simp
  have e1 : decide (b < 0) = false := by simp; omega
  have e2 : decide (8 * (n : Int) < b) = false := by simp; omega
  have hwq : IntKind.i64.wrap (q : Int) = q := by rw [IntKind.wrap_i64]; omega
  obtain ⟨wb, hwb⟩ : ∃ wb, w.alloc (.cells #[.string A, .int .i64 b] 39) = wb := ⟨_, rfl⟩
  have HB : Hid (Below w.heap.size w wb) := hwb ▸ (Below.refl w.heap.size w).alloc (Nat.le_refl _) _
  have HX : Hid (Bx wb w.heap.size #[.string A, .int .i64 b] 39) := hwb ▸ World.alloc_heap_new w _
  have c0 : wb.cell? ⟨w.heap.size, 0, none⟩ = some (.string A) := HX.out.cell rfl
  have c1 : wb.cell? ⟨w.heap.size, 1, none⟩ = some (.int .i64 b) := HX.out.cell rfl
  have hqs : q ≤ n := by omega
  clear hA ha h1 hb h0
  go_enter Tryz.func15, Tryz.ntmps15
  go_wp2_with (first
    | (go_at_call 36; (with_reducible refine (H.out _).mono ?_); rintro e w1 ⟨rfl, h1⟩; have h1 := h1.symm; subst h1))
  go_region_held3 (fun V => V.cell? ⟨w.heap.size, 0, none⟩ = some (.string A) ∧ V.cell? ⟨w.heap.size, 1, none⟩ = some (.int .i64 b)) (first | go_keep) (fail)
  go_wp2_with fail
  go_region_held3 (fun V => V.cell? ⟨w.heap.size, 0, none⟩ = some (.string A) ∧ V.cell? ⟨w.heap.size, 1, none⟩ = some (.int .i64 b)) (first | go_keep) (fail)
  go_wp2_with fail
  go_region
  go_wp2_with fail
  go_ret
  exact ⟨rfl, HB.out.drew.drew.drew⟩
set_option maxRecDepth 100000 in
set_option maxHeartbeats 1000000 in
theorem inside_1 (A a : ByteArray) (b : Int) (q : Nat) (w : World) (h : rtB A b a = true) (hq : b.tdiv 8 = (q : Int)) (hr : b.tmod 8 = 1) (hqn : q ≤ A.size) (hb : b = 8 * (q : Int) + 1) (hd : ((a.extract 0 q).toList == (A.extract 0 q).toList) = true) : Calls Tryz.prog 15 #[.agg #[.string A, .int .i64 b], .string a] w fun e w' => e = .returned (.bool (((bv a q ^^^ bv A q : Nat) : Int) / 128 == 0)) ∧ Below w.heap.size w w' := by
  obtain ⟨hA, ha, hs, h0, h1, hz⟩ := rt_good h
  clear h
  have H := hidq (isAddress_any A)
  rw [hA] at H
  have hqa : q < a.size := by omega
  have hqA : q < A.size := by omega
  have hxa := bv_at a q hqa
  have hxA := bv_at A q hqA
  have hzx := u8_xor (bv a q) (bv A q) (bv_lt _ _) (bv_lt _ _)
  generalize bv a q = x at *
  generalize bv A q = y at *
  generalize x ^^^ y = z at *
  have hw : IntKind.i64.wrap 7 = 7 := by decide
  have hsh : Op.shift .shr .u8 (z : Int) .i64 7 = pure (.int .u8 ((z : Int) / 128)) := shift_shr_u8 .i64 _ 7 (by decide) (by decide)
  obtain ⟨n, hn⟩ : ∃ n, A.size = n := ⟨_, rfl⟩
  have hm : IntKind.i64.wrap (8 * (n : Int)) = 8 * (n : Int) := by rw [IntKind.wrap_i64]; omega
  rw [hn] at hs h1 hz hqn
  have hne : ((n : Int) != (n : Int)) = false := by simp
  have e1 : decide (b < 0) = false := by simp; omega
  have e2 : decide (8 * (n : Int) < b) = false := by simp; omega
  have hwq : IntKind.i64.wrap (q : Int) = q := by rw [IntKind.wrap_i64]; omega
  obtain ⟨wb, hwb⟩ : ∃ wb, w.alloc (.cells #[.string A, .int .i64 b] 39) = wb := ⟨_, rfl⟩
  have HB : Hid (Below w.heap.size w wb) := hwb ▸ (Below.refl w.heap.size w).alloc (Nat.le_refl _) _
  have HX : Hid (Bx wb w.heap.size #[.string A, .int .i64 b] 39) := hwb ▸ World.alloc_heap_new w _
  have c0 : wb.cell? ⟨w.heap.size, 0, none⟩ = some (.string A) := HX.out.cell rfl
  have c1 : wb.cell? ⟨w.heap.size, 1, none⟩ = some (.int .i64 b) := HX.out.cell rfl
  have hqs : q < n := by omega
  clear hA ha h1 hb h0
  go_enter Tryz.func15, Tryz.ntmps15
  go_wp2_with (first
    | (go_at_call 36; (with_reducible refine (H.out _).mono ?_); rintro e w1 ⟨rfl, h1⟩; have h1 := h1.symm; subst h1))
  go_region_held3 (fun V => V.cell? ⟨w.heap.size, 0, none⟩ = some (.string A) ∧ V.cell? ⟨w.heap.size, 1, none⟩ = some (.int .i64 b)) (first | go_keep) (fail)
  go_wp2_with fail
  go_region_held3 (fun V => V.cell? ⟨w.heap.size, 0, none⟩ = some (.string A) ∧ V.cell? ⟨w.heap.size, 1, none⟩ = some (.int .i64 b)) (first | go_keep) (fail)
  go_wp2_with fail
  go_region_held3 (fun V => V.cell? ⟨w.heap.size, 0, none⟩ = some (.string A) ∧ V.cell? ⟨w.heap.size, 1, none⟩ = some (.int .i64 b)) (first | go_keep) (fail)
  all_goals
    go_wp2_with fail
    go_ret
    exact ⟨rfl, HB.out.drew.drew.drew⟩
set_option maxRecDepth 100000 in
set_option maxHeartbeats 1000000 in
theorem inside_2 (A a : ByteArray) (b : Int) (q : Nat) (w : World) (h : rtB A b a = true) (hq : b.tdiv 8 = (q : Int)) (hr : b.tmod 8 = 2) (hqn : q ≤ A.size) (hb : b = 8 * (q : Int) + 2) (hd : ((a.extract 0 q).toList == (A.extract 0 q).toList) = true) : Calls Tryz.prog 15 #[.agg #[.string A, .int .i64 b], .string a] w fun e w' => e = .returned (.bool (((bv a q ^^^ bv A q : Nat) : Int) / 64 == 0)) ∧ Below w.heap.size w w' := by
  obtain ⟨hA, ha, hs, h0, h1, hz⟩ := rt_good h
  clear h
  have H := hidq (isAddress_any A)
  rw [hA] at H
  have hqa : q < a.size := by omega
  have hqA : q < A.size := by omega
  have hxa := bv_at a q hqa
  have hxA := bv_at A q hqA
  have hzx := u8_xor (bv a q) (bv A q) (bv_lt _ _) (bv_lt _ _)
  generalize bv a q = x at *
  generalize bv A q = y at *
  generalize x ^^^ y = z at *
  have hw : IntKind.i64.wrap 6 = 6 := by decide
  have hsh : Op.shift .shr .u8 (z : Int) .i64 6 = pure (.int .u8 ((z : Int) / 64)) := shift_shr_u8 .i64 _ 6 (by decide) (by decide)
  obtain ⟨n, hn⟩ : ∃ n, A.size = n := ⟨_, rfl⟩
  have hm : IntKind.i64.wrap (8 * (n : Int)) = 8 * (n : Int) := by rw [IntKind.wrap_i64]; omega
  rw [hn] at hs h1 hz hqn
  have hne : ((n : Int) != (n : Int)) = false := by simp
  have e1 : decide (b < 0) = false := by simp; omega
  have e2 : decide (8 * (n : Int) < b) = false := by simp; omega
  have hwq : IntKind.i64.wrap (q : Int) = q := by rw [IntKind.wrap_i64]; omega
  obtain ⟨wb, hwb⟩ : ∃ wb, w.alloc (.cells #[.string A, .int .i64 b] 39) = wb := ⟨_, rfl⟩
  have HB : Hid (Below w.heap.size w wb) := hwb ▸ (Below.refl w.heap.size w).alloc (Nat.le_refl _) _
  have HX : Hid (Bx wb w.heap.size #[.string A, .int .i64 b] 39) := hwb ▸ World.alloc_heap_new w _
  have c0 : wb.cell? ⟨w.heap.size, 0, none⟩ = some (.string A) := HX.out.cell rfl
  have c1 : wb.cell? ⟨w.heap.size, 1, none⟩ = some (.int .i64 b) := HX.out.cell rfl
  have hqs : q < n := by omega
  clear hA ha h1 hb h0
  go_enter Tryz.func15, Tryz.ntmps15
  go_wp2_with (first
    | (go_at_call 36; (with_reducible refine (H.out _).mono ?_); rintro e w1 ⟨rfl, h1⟩; have h1 := h1.symm; subst h1))
  go_region_held3 (fun V => V.cell? ⟨w.heap.size, 0, none⟩ = some (.string A) ∧ V.cell? ⟨w.heap.size, 1, none⟩ = some (.int .i64 b)) (first | go_keep) (fail)
  go_wp2_with fail
  go_region_held3 (fun V => V.cell? ⟨w.heap.size, 0, none⟩ = some (.string A) ∧ V.cell? ⟨w.heap.size, 1, none⟩ = some (.int .i64 b)) (first | go_keep) (fail)
  go_wp2_with fail
  go_region_held3 (fun V => V.cell? ⟨w.heap.size, 0, none⟩ = some (.string A) ∧ V.cell? ⟨w.heap.size, 1, none⟩ = some (.int .i64 b)) (first | go_keep) (fail)
  all_goals
    go_wp2_with fail
    go_ret
    exact ⟨rfl, HB.out.drew.drew.drew⟩
set_option maxRecDepth 100000 in
set_option maxHeartbeats 1000000 in
theorem inside_3 (A a : ByteArray) (b : Int) (q : Nat) (w : World) (h : rtB A b a = true) (hq : b.tdiv 8 = (q : Int)) (hr : b.tmod 8 = 3) (hqn : q ≤ A.size) (hb : b = 8 * (q : Int) + 3) (hd : ((a.extract 0 q).toList == (A.extract 0 q).toList) = true) : Calls Tryz.prog 15 #[.agg #[.string A, .int .i64 b], .string a] w fun e w' => e = .returned (.bool (((bv a q ^^^ bv A q : Nat) : Int) / 32 == 0)) ∧ Below w.heap.size w w' := by
  obtain ⟨hA, ha, hs, h0, h1, hz⟩ := rt_good h
  clear h
  have H := hidq (isAddress_any A)
  rw [hA] at H
  have hqa : q < a.size := by omega
  have hqA : q < A.size := by omega
  have hxa := bv_at a q hqa
  have hxA := bv_at A q hqA
  have hzx := u8_xor (bv a q) (bv A q) (bv_lt _ _) (bv_lt _ _)
  generalize bv a q = x at *
  generalize bv A q = y at *
  generalize x ^^^ y = z at *
  have hw : IntKind.i64.wrap 5 = 5 := by decide
  have hsh : Op.shift .shr .u8 (z : Int) .i64 5 = pure (.int .u8 ((z : Int) / 32)) := shift_shr_u8 .i64 _ 5 (by decide) (by decide)
  obtain ⟨n, hn⟩ : ∃ n, A.size = n := ⟨_, rfl⟩
  have hm : IntKind.i64.wrap (8 * (n : Int)) = 8 * (n : Int) := by rw [IntKind.wrap_i64]; omega
  rw [hn] at hs h1 hz hqn
  have hne : ((n : Int) != (n : Int)) = false := by simp
  have e1 : decide (b < 0) = false := by simp; omega
  have e2 : decide (8 * (n : Int) < b) = false := by simp; omega
  have hwq : IntKind.i64.wrap (q : Int) = q := by rw [IntKind.wrap_i64]; omega
  obtain ⟨wb, hwb⟩ : ∃ wb, w.alloc (.cells #[.string A, .int .i64 b] 39) = wb := ⟨_, rfl⟩
  have HB : Hid (Below w.heap.size w wb) := hwb ▸ (Below.refl w.heap.size w).alloc (Nat.le_refl _) _
  have HX : Hid (Bx wb w.heap.size #[.string A, .int .i64 b] 39) := hwb ▸ World.alloc_heap_new w _
  have c0 : wb.cell? ⟨w.heap.size, 0, none⟩ = some (.string A) := HX.out.cell rfl
  have c1 : wb.cell? ⟨w.heap.size, 1, none⟩ = some (.int .i64 b) := HX.out.cell rfl
  have hqs : q < n := by omega
  clear hA ha h1 hb h0
  go_enter Tryz.func15, Tryz.ntmps15
  go_wp2_with (first
    | (go_at_call 36; (with_reducible refine (H.out _).mono ?_); rintro e w1 ⟨rfl, h1⟩; have h1 := h1.symm; subst h1))
  go_region_held3 (fun V => V.cell? ⟨w.heap.size, 0, none⟩ = some (.string A) ∧ V.cell? ⟨w.heap.size, 1, none⟩ = some (.int .i64 b)) (first | go_keep) (fail)
  go_wp2_with fail
  go_region_held3 (fun V => V.cell? ⟨w.heap.size, 0, none⟩ = some (.string A) ∧ V.cell? ⟨w.heap.size, 1, none⟩ = some (.int .i64 b)) (first | go_keep) (fail)
  go_wp2_with fail
  go_region_held3 (fun V => V.cell? ⟨w.heap.size, 0, none⟩ = some (.string A) ∧ V.cell? ⟨w.heap.size, 1, none⟩ = some (.int .i64 b)) (first | go_keep) (fail)
  all_goals
    go_wp2_with fail
    go_ret
    exact ⟨rfl, HB.out.drew.drew.drew⟩
set_option maxRecDepth 100000 in
set_option maxHeartbeats 1000000 in
theorem inside_4 (A a : ByteArray) (b : Int) (q : Nat) (w : World) (h : rtB A b a = true) (hq : b.tdiv 8 = (q : Int)) (hr : b.tmod 8 = 4) (hqn : q ≤ A.size) (hb : b = 8 * (q : Int) + 4) (hd : ((a.extract 0 q).toList == (A.extract 0 q).toList) = true) : Calls Tryz.prog 15 #[.agg #[.string A, .int .i64 b], .string a] w fun e w' => e = .returned (.bool (((bv a q ^^^ bv A q : Nat) : Int) / 16 == 0)) ∧ Below w.heap.size w w' := by
  obtain ⟨hA, ha, hs, h0, h1, hz⟩ := rt_good h
  clear h
  have H := hidq (isAddress_any A)
  rw [hA] at H
  have hqa : q < a.size := by omega
  have hqA : q < A.size := by omega
  have hxa := bv_at a q hqa
  have hxA := bv_at A q hqA
  have hzx := u8_xor (bv a q) (bv A q) (bv_lt _ _) (bv_lt _ _)
  generalize bv a q = x at *
  generalize bv A q = y at *
  generalize x ^^^ y = z at *
  have hw : IntKind.i64.wrap 4 = 4 := by decide
  have hsh : Op.shift .shr .u8 (z : Int) .i64 4 = pure (.int .u8 ((z : Int) / 16)) := shift_shr_u8 .i64 _ 4 (by decide) (by decide)
  obtain ⟨n, hn⟩ : ∃ n, A.size = n := ⟨_, rfl⟩
  have hm : IntKind.i64.wrap (8 * (n : Int)) = 8 * (n : Int) := by rw [IntKind.wrap_i64]; omega
  rw [hn] at hs h1 hz hqn
  have hne : ((n : Int) != (n : Int)) = false := by simp
  have e1 : decide (b < 0) = false := by simp; omega
  have e2 : decide (8 * (n : Int) < b) = false := by simp; omega
  have hwq : IntKind.i64.wrap (q : Int) = q := by rw [IntKind.wrap_i64]; omega
  obtain ⟨wb, hwb⟩ : ∃ wb, w.alloc (.cells #[.string A, .int .i64 b] 39) = wb := ⟨_, rfl⟩
  have HB : Hid (Below w.heap.size w wb) := hwb ▸ (Below.refl w.heap.size w).alloc (Nat.le_refl _) _
  have HX : Hid (Bx wb w.heap.size #[.string A, .int .i64 b] 39) := hwb ▸ World.alloc_heap_new w _
  have c0 : wb.cell? ⟨w.heap.size, 0, none⟩ = some (.string A) := HX.out.cell rfl
  have c1 : wb.cell? ⟨w.heap.size, 1, none⟩ = some (.int .i64 b) := HX.out.cell rfl
  have hqs : q < n := by omega
  clear hA ha h1 hb h0
  go_enter Tryz.func15, Tryz.ntmps15
  go_wp2_with (first
    | (go_at_call 36; (with_reducible refine (H.out _).mono ?_); rintro e w1 ⟨rfl, h1⟩; have h1 := h1.symm; subst h1))
  go_region_held3 (fun V => V.cell? ⟨w.heap.size, 0, none⟩ = some (.string A) ∧ V.cell? ⟨w.heap.size, 1, none⟩ = some (.int .i64 b)) (first | go_keep) (fail)
  go_wp2_with fail
  go_region_held3 (fun V => V.cell? ⟨w.heap.size, 0, none⟩ = some (.string A) ∧ V.cell? ⟨w.heap.size, 1, none⟩ = some (.int .i64 b)) (first | go_keep) (fail)
  go_wp2_with fail
  go_region_held3 (fun V => V.cell? ⟨w.heap.size, 0, none⟩ = some (.string A) ∧ V.cell? ⟨w.heap.size, 1, none⟩ = some (.int .i64 b)) (first | go_keep) (fail)
  all_goals
    go_wp2_with fail
    go_ret
    exact ⟨rfl, HB.out.drew.drew.drew⟩
set_option maxRecDepth 100000 in
set_option maxHeartbeats 1000000 in
theorem inside_5 (A a : ByteArray) (b : Int) (q : Nat) (w : World) (h : rtB A b a = true) (hq : b.tdiv 8 = (q : Int)) (hr : b.tmod 8 = 5) (hqn : q ≤ A.size) (hb : b = 8 * (q : Int) + 5) (hd : ((a.extract 0 q).toList == (A.extract 0 q).toList) = true) : Calls Tryz.prog 15 #[.agg #[.string A, .int .i64 b], .string a] w fun e w' => e = .returned (.bool (((bv a q ^^^ bv A q : Nat) : Int) / 8 == 0)) ∧ Below w.heap.size w w' := by
  obtain ⟨hA, ha, hs, h0, h1, hz⟩ := rt_good h
  clear h
  have H := hidq (isAddress_any A)
  rw [hA] at H
  have hqa : q < a.size := by omega
  have hqA : q < A.size := by omega
  have hxa := bv_at a q hqa
  have hxA := bv_at A q hqA
  have hzx := u8_xor (bv a q) (bv A q) (bv_lt _ _) (bv_lt _ _)
  generalize bv a q = x at *
  generalize bv A q = y at *
  generalize x ^^^ y = z at *
  have hw : IntKind.i64.wrap 3 = 3 := by decide
  have hsh : Op.shift .shr .u8 (z : Int) .i64 3 = pure (.int .u8 ((z : Int) / 8)) := shift_shr_u8 .i64 _ 3 (by decide) (by decide)
  obtain ⟨n, hn⟩ : ∃ n, A.size = n := ⟨_, rfl⟩
  have hm : IntKind.i64.wrap (8 * (n : Int)) = 8 * (n : Int) := by rw [IntKind.wrap_i64]; omega
  rw [hn] at hs h1 hz hqn
  have hne : ((n : Int) != (n : Int)) = false := by simp
  have e1 : decide (b < 0) = false := by simp; omega
  have e2 : decide (8 * (n : Int) < b) = false := by simp; omega
  have hwq : IntKind.i64.wrap (q : Int) = q := by rw [IntKind.wrap_i64]; omega
  obtain ⟨wb, hwb⟩ : ∃ wb, w.alloc (.cells #[.string A, .int .i64 b] 39) = wb := ⟨_, rfl⟩
  have HB : Hid (Below w.heap.size w wb) := hwb ▸ (Below.refl w.heap.size w).alloc (Nat.le_refl _) _
  have HX : Hid (Bx wb w.heap.size #[.string A, .int .i64 b] 39) := hwb ▸ World.alloc_heap_new w _
  have c0 : wb.cell? ⟨w.heap.size, 0, none⟩ = some (.string A) := HX.out.cell rfl
  have c1 : wb.cell? ⟨w.heap.size, 1, none⟩ = some (.int .i64 b) := HX.out.cell rfl
  have hqs : q < n := by omega
  clear hA ha h1 hb h0
  go_enter Tryz.func15, Tryz.ntmps15
  go_wp2_with (first
    | (go_at_call 36; (with_reducible refine (H.out _).mono ?_); rintro e w1 ⟨rfl, h1⟩; have h1 := h1.symm; subst h1))
  go_region_held3 (fun V => V.cell? ⟨w.heap.size, 0, none⟩ = some (.string A) ∧ V.cell? ⟨w.heap.size, 1, none⟩ = some (.int .i64 b)) (first | go_keep) (fail)
  go_wp2_with fail
  go_region_held3 (fun V => V.cell? ⟨w.heap.size, 0, none⟩ = some (.string A) ∧ V.cell? ⟨w.heap.size, 1, none⟩ = some (.int .i64 b)) (first | go_keep) (fail)
  go_wp2_with fail
  go_region_held3 (fun V => V.cell? ⟨w.heap.size, 0, none⟩ = some (.string A) ∧ V.cell? ⟨w.heap.size, 1, none⟩ = some (.int .i64 b)) (first | go_keep) (fail)
  all_goals
    go_wp2_with fail
    go_ret
    exact ⟨rfl, HB.out.drew.drew.drew⟩
set_option maxRecDepth 100000 in
set_option maxHeartbeats 1000000 in
theorem inside_6 (A a : ByteArray) (b : Int) (q : Nat) (w : World) (h : rtB A b a = true) (hq : b.tdiv 8 = (q : Int)) (hr : b.tmod 8 = 6) (hqn : q ≤ A.size) (hb : b = 8 * (q : Int) + 6) (hd : ((a.extract 0 q).toList == (A.extract 0 q).toList) = true) : Calls Tryz.prog 15 #[.agg #[.string A, .int .i64 b], .string a] w fun e w' => e = .returned (.bool (((bv a q ^^^ bv A q : Nat) : Int) / 4 == 0)) ∧ Below w.heap.size w w' := by
  obtain ⟨hA, ha, hs, h0, h1, hz⟩ := rt_good h
  clear h
  have H := hidq (isAddress_any A)
  rw [hA] at H
  have hqa : q < a.size := by omega
  have hqA : q < A.size := by omega
  have hxa := bv_at a q hqa
  have hxA := bv_at A q hqA
  have hzx := u8_xor (bv a q) (bv A q) (bv_lt _ _) (bv_lt _ _)
  generalize bv a q = x at *
  generalize bv A q = y at *
  generalize x ^^^ y = z at *
  have hw : IntKind.i64.wrap 2 = 2 := by decide
  have hsh : Op.shift .shr .u8 (z : Int) .i64 2 = pure (.int .u8 ((z : Int) / 4)) := shift_shr_u8 .i64 _ 2 (by decide) (by decide)
  obtain ⟨n, hn⟩ : ∃ n, A.size = n := ⟨_, rfl⟩
  have hm : IntKind.i64.wrap (8 * (n : Int)) = 8 * (n : Int) := by rw [IntKind.wrap_i64]; omega
  rw [hn] at hs h1 hz hqn
  have hne : ((n : Int) != (n : Int)) = false := by simp
  have e1 : decide (b < 0) = false := by simp; omega
  have e2 : decide (8 * (n : Int) < b) = false := by simp; omega
  have hwq : IntKind.i64.wrap (q : Int) = q := by rw [IntKind.wrap_i64]; omega
  obtain ⟨wb, hwb⟩ : ∃ wb, w.alloc (.cells #[.string A, .int .i64 b] 39) = wb := ⟨_, rfl⟩
  have HB : Hid (Below w.heap.size w wb) := hwb ▸ (Below.refl w.heap.size w).alloc (Nat.le_refl _) _
  have HX : Hid (Bx wb w.heap.size #[.string A, .int .i64 b] 39) := hwb ▸ World.alloc_heap_new w _
  have c0 : wb.cell? ⟨w.heap.size, 0, none⟩ = some (.string A) := HX.out.cell rfl
  have c1 : wb.cell? ⟨w.heap.size, 1, none⟩ = some (.int .i64 b) := HX.out.cell rfl
  have hqs : q < n := by omega
  clear hA ha h1 hb h0
  go_enter Tryz.func15, Tryz.ntmps15
  go_wp2_with (first
    | (go_at_call 36; (with_reducible refine (H.out _).mono ?_); rintro e w1 ⟨rfl, h1⟩; have h1 := h1.symm; subst h1))
  go_region_held3 (fun V => V.cell? ⟨w.heap.size, 0, none⟩ = some (.string A) ∧ V.cell? ⟨w.heap.size, 1, none⟩ = some (.int .i64 b)) (first | go_keep) (fail)
  go_wp2_with fail
  go_region_held3 (fun V => V.cell? ⟨w.heap.size, 0, none⟩ = some (.string A) ∧ V.cell? ⟨w.heap.size, 1, none⟩ = some (.int .i64 b)) (first | go_keep) (fail)
  go_wp2_with fail
  go_region_held3 (fun V => V.cell? ⟨w.heap.size, 0, none⟩ = some (.string A) ∧ V.cell? ⟨w.heap.size, 1, none⟩ = some (.int .i64 b)) (first | go_keep) (fail)
  all_goals
    go_wp2_with fail
    go_ret
    exact ⟨rfl, HB.out.drew.drew.drew⟩
set_option maxRecDepth 100000 in
set_option maxHeartbeats 1000000 in
theorem inside_7 (A a : ByteArray) (b : Int) (q : Nat) (w : World) (h : rtB A b a = true) (hq : b.tdiv 8 = (q : Int)) (hr : b.tmod 8 = 7) (hqn : q ≤ A.size) (hb : b = 8 * (q : Int) + 7) (hd : ((a.extract 0 q).toList == (A.extract 0 q).toList) = true) : Calls Tryz.prog 15 #[.agg #[.string A, .int .i64 b], .string a] w fun e w' => e = .returned (.bool (((bv a q ^^^ bv A q : Nat) : Int) / 2 == 0)) ∧ Below w.heap.size w w' := by
  obtain ⟨hA, ha, hs, h0, h1, hz⟩ := rt_good h
  clear h
  have H := hidq (isAddress_any A)
  rw [hA] at H
  have hqa : q < a.size := by omega
  have hqA : q < A.size := by omega
  have hxa := bv_at a q hqa
  have hxA := bv_at A q hqA
  have hzx := u8_xor (bv a q) (bv A q) (bv_lt _ _) (bv_lt _ _)
  generalize bv a q = x at *
  generalize bv A q = y at *
  generalize x ^^^ y = z at *
  have hw : IntKind.i64.wrap 1 = 1 := by decide
  have hsh : Op.shift .shr .u8 (z : Int) .i64 1 = pure (.int .u8 ((z : Int) / 2)) := shift_shr_u8 .i64 _ 1 (by decide) (by decide)
  obtain ⟨n, hn⟩ : ∃ n, A.size = n := ⟨_, rfl⟩
  have hm : IntKind.i64.wrap (8 * (n : Int)) = 8 * (n : Int) := by rw [IntKind.wrap_i64]; omega
  rw [hn] at hs h1 hz hqn
  have hne : ((n : Int) != (n : Int)) = false := by simp
  have e1 : decide (b < 0) = false := by simp; omega
  have e2 : decide (8 * (n : Int) < b) = false := by simp; omega
  have hwq : IntKind.i64.wrap (q : Int) = q := by rw [IntKind.wrap_i64]; omega
  obtain ⟨wb, hwb⟩ : ∃ wb, w.alloc (.cells #[.string A, .int .i64 b] 39) = wb := ⟨_, rfl⟩
  have HB : Hid (Below w.heap.size w wb) := hwb ▸ (Below.refl w.heap.size w).alloc (Nat.le_refl _) _
  have HX : Hid (Bx wb w.heap.size #[.string A, .int .i64 b] 39) := hwb ▸ World.alloc_heap_new w _
  have c0 : wb.cell? ⟨w.heap.size, 0, none⟩ = some (.string A) := HX.out.cell rfl
  have c1 : wb.cell? ⟨w.heap.size, 1, none⟩ = some (.int .i64 b) := HX.out.cell rfl
  have hqs : q < n := by omega
  clear hA ha h1 hb h0
  go_enter Tryz.func15, Tryz.ntmps15
  go_wp2_with (first
    | (go_at_call 36; (with_reducible refine (H.out _).mono ?_); rintro e w1 ⟨rfl, h1⟩; have h1 := h1.symm; subst h1))
  go_region_held3 (fun V => V.cell? ⟨w.heap.size, 0, none⟩ = some (.string A) ∧ V.cell? ⟨w.heap.size, 1, none⟩ = some (.int .i64 b)) (first | go_keep) (fail)
  go_wp2_with fail
  go_region_held3 (fun V => V.cell? ⟨w.heap.size, 0, none⟩ = some (.string A) ∧ V.cell? ⟨w.heap.size, 1, none⟩ = some (.int .i64 b)) (first | go_keep) (fail)
  go_wp2_with fail
  go_region_held3 (fun V => V.cell? ⟨w.heap.size, 0, none⟩ = some (.string A) ∧ V.cell? ⟨w.heap.size, 1, none⟩ = some (.int .i64 b)) (first | go_keep) (fail)
  all_goals
    go_wp2_with fail
    go_ret
    exact ⟨rfl, HB.out.drew.drew.drew⟩
end Go.Proofs.YtelboefeomnjaaaGreat

/-
  Chapter 15: both nets are one. (The verifier's own text.)
-/
namespace Go.Proofs.YtelboefeomnjaaaGreat
set_option linter.unusedVariables false
set_option linter.unusedSimpArgs false
open Go.RowKit Go.Shelf

theorem mod2_testBit (x i : Nat) : x / 2 ^ i % 2 = (x.testBit i).toNat := by
  rw [Nat.testBit_eq_decide_div_mod_eq]
  have : x / 2 ^ i % 2 < 2 := Nat.mod_lt _ (by omega)
  by_cases h : x / 2 ^ i % 2 = 1
  · simp [h]
  · have h0 : x / 2 ^ i % 2 = 0 := by omega
    simp [h0]
theorem toNat_inj' {a b : Bool} (h : a.toNat = b.toNat) : a = b := by cases a <;> cases b <;> simp_all
theorem xor_top {x y m : Nat} (hx : x < 256) (hy : y < 256) (hm : m ≤ 8) : (x ^^^ y) / 2 ^ (8 - m) = 0 ↔ ∀ j, j < m → x / 2 ^ (7 - j) % 2 = y / 2 ^ (7 - j) % 2 := by
  rw [Nat.div_eq_zero_iff]
  have hp : 0 < 2 ^ (8 - m) := Nat.pow_pos (by omega)
  constructor
  · intro h j hj
    rw [mod2_testBit, mod2_testBit]
    have hlt : x ^^^ y < 2 ^ (8 - m) := by omega
    have hb : (x ^^^ y).testBit (7 - j) = false := Nat.testBit_lt_two_pow (Nat.lt_of_lt_of_le hlt (Nat.pow_le_pow_right (by omega) (by omega)))
    rw [Nat.testBit_xor] at hb
    cases h1 : x.testBit (7 - j) <;> cases h2 : y.testBit (7 - j) <;> simp_all
  · intro h
    right
    apply Nat.lt_pow_two_of_testBit
    intro i hi
    rw [Nat.testBit_xor]
    by_cases h8 : i < 8
    · have := h (7 - i) (by omega)
      rw [show 7 - (7 - i) = i by omega, mod2_testBit, mod2_testBit] at this
      rw [toNat_inj' this]
      simp
    · have e1 : x.testBit i = false := Nat.testBit_lt_two_pow (Nat.lt_of_lt_of_le hx (Nat.pow_le_pow_right (n := 2) (by omega) (show 8 ≤ i by omega)))
      have e2 : y.testBit i = false := Nat.testBit_lt_two_pow (Nat.lt_of_lt_of_le hy (Nat.pow_le_pow_right (n := 2) (by omega) (show 8 ≤ i by omega)))
      rw [e1, e2]
      rfl
theorem xor_all {x y : Nat} (hx : x < 256) (hy : y < 256) : x = y ↔ ∀ j, j < 8 → x / 2 ^ (7 - j) % 2 = y / 2 ^ (7 - j) % 2 := by
  rw [← xor_top hx hy (Nat.le_refl 8)]
  simp only [Nat.sub_self, Nat.pow_zero, Nat.div_one]
  constructor
  · rintro rfl
    exact Nat.xor_self x
  · intro h
    apply Nat.eq_of_testBit_eq
    intro i
    have hb : (x ^^^ y).testBit i = false := by rw [h]; simp
    rw [Nat.testBit_xor] at hb
    cases h1 : x.testBit i <;> cases h2 : y.testBit i <;> simp_all
theorem ba_extract (s : ByteArray) (q : Nat) : (s.extract 0 q).toList = s.data.toList.take q := by
  simp [ByteArray.toList_eq, ByteArray.data_extract, List.extract_eq_drop_take']
theorem bv_ext {A a : ByteArray} {q : Nat} (hs : a.size = A.size) (hq : q ≤ A.size) : ((a.extract 0 q).toList == (A.extract 0 q).toList) = true ↔ ∀ i, i < q → bv a i = bv A i := by
  rw [ba_extract, ba_extract, beq_iff_eq]
  have la : a.data.toList.length = a.size := rfl
  have lA : A.data.toList.length = A.size := rfl
  constructor
  · intro h i hi
    have := congrArg (fun l => l.getD i 0) h
    simp only [List.getD_eq_getElem?_getD, List.getElem?_take, hi, if_true] at this
    unfold bv
    rw [List.getD_eq_getElem?_getD, List.getD_eq_getElem?_getD, this]
  · intro h
    apply List.ext_getElem
    · simp only [List.length_take]; omega
    · intro i h1 h2
      have hi : i < q := by rw [List.length_take] at h1; omega
      have := h i hi
      unfold bv at this
      have := UInt8.toNat_inj.1 this
      rw [List.getElem_take, List.getElem_take]
      rw [List.getD_eq_getElem?_getD, List.getD_eq_getElem?_getD, List.getElem?_eq_getElem (by omega), List.getElem?_eq_getElem (by omega)] at this
      exact this
theorem ag_bytes {A a : ByteArray} {q r : Nat} (hr : r < 8) : (∀ k, k < 8 * q + r → bitN A k = bitN a k) ↔ (∀ i, i < q → bv a i = bv A i) ∧ (∀ j, j < r → bv a q / 2 ^ (7 - j) % 2 = bv A q / 2 ^ (7 - j) % 2) := by
  constructor
  · intro h
    refine ⟨fun i hi => ?_, fun j hj => ?_⟩
    · rw [xor_all (bv_lt _ _) (bv_lt _ _)]
      intro j hj
      have := h (8 * i + j) (by omega)
      unfold bitN at this
      rw [show (8 * i + j) / 8 = i by omega, show (8 * i + j) % 8 = j by omega] at this
      exact this.symm
    · have := h (8 * q + j) (by omega)
      unfold bitN at this
      rw [show (8 * q + j) / 8 = q by omega, show (8 * q + j) % 8 = j by omega] at this
      exact this.symm
  · rintro ⟨h1, h2⟩ k hk
    unfold bitN
    by_cases hq : k / 8 < q
    · rw [h1 (k / 8) hq]
    · have e : k / 8 = q := by omega
      rw [e]
      exact (h2 (k % 8) (by omega)).symm
end Go.Proofs.YtelboefeomnjaaaGreat

/-
  Chapter 15: policy.Inside, whole. (The verifier's own text.)
-/
namespace Go.Proofs.YtelboefeomnjaaaGreat
set_option linter.unusedVariables false
set_option linter.unusedSimpArgs false
open Go.RowKit Go.Shelf

theorem div_zero_b {z d : Nat} : (((z : Int) / (d : Int)) == 0) = decide (z / d = 0) := by
  have e : (z : Int) / (d : Int) = ((z / d : Nat) : Int) := by simp
  rw [e]
  by_cases h : z / d = 0
  · simp [h]
  · have : ¬ ((z / d : Nat) : Int) = 0 := by omega
    rw [decide_eq_false h]
    exact beq_false_of_ne this
theorem ag_cases {A a : ByteArray} {b : Int} {q r : Nat} (hs : a.size = A.size) (hq : q ≤ A.size) (hr : r < 8) (hb : b = 8 * (q : Int) + (r : Int)) :
    agB A a b.toNat = (((a.extract 0 q).toList == (A.extract 0 q).toList) && decide ((bv a q ^^^ bv A q) / 2 ^ (8 - r) = 0)) := by
  have hn : b.toNat = 8 * q + r := by omega
  rw [hn]
  apply Bool.eq_iff_iff.2
  rw [ag_iff, ag_bytes hr, Bool.and_eq_true, bv_ext hs hq, decide_eq_true_iff, xor_top (bv_lt _ _) (bv_lt _ _) (by omega)]
/-- policy.Inside -/
theorem inside_any (A a : ByteArray) (b : Int) (w : World) : Calls Tryz.prog 15 #[.agg #[.string A, .int .i64 b], .string a] w fun e w' => e = .returned (.bool (insB A b a)) ∧ Below w.heap.size w w' := by
  unfold insB
  cases h : rtB A b a with
  | false => exact inside_bad A a b w h
  | true =>
    rw [Bool.true_and]
    obtain ⟨hA, ha, hs, h0, h1, hz⟩ := rt_good h
    obtain ⟨q, hqe⟩ : ∃ q : Nat, (q : Int) = b / 8 := ⟨(b / 8).toNat, by omega⟩
    obtain ⟨r, hre⟩ : ∃ r : Nat, (r : Int) = b % 8 := ⟨(b % 8).toNat, by omega⟩
    have hq : b.tdiv 8 = (q : Int) := by rw [Int.tdiv_eq_ediv_of_nonneg h0, hqe]
    have hr : b.tmod 8 = (r : Int) := by rw [Int.tmod_eq_emod_of_nonneg h0, hre]
    have hqn : q ≤ A.size := by omega
    have hr8 : r < 8 := by omega
    have hb : b = 8 * (q : Int) + (r : Int) := by omega
    rw [ag_cases hs hqn hr8 hb]
    cases hd : ((a.extract 0 q).toList == (A.extract 0 q).toList) with
    | false => exact inside_dif A a b q r w h hq hr hqn hr8 hb hd
    | true =>
      rw [Bool.true_and]
      have hx : bv a q ^^^ bv A q < 2 ^ 8 := Nat.xor_lt_two_pow (bv_lt _ _) (bv_lt _ _)
      match r, hr8 with
      | 0, _ =>
        rw [decide_eq_true (show (bv a q ^^^ bv A q) / 2 ^ (8 - 0) = 0 from Nat.div_eq_of_lt hx)]
        exact inside_0 A a b q w h hq hr hqn hb hd
      | 1, _ =>
        have := inside_1 A a b q w h hq hr hqn hb hd
        rw [show (128 : Int) = ((128 : Nat) : Int) from rfl, div_zero_b] at this
        exact this
      | 2, _ =>
        have := inside_2 A a b q w h hq hr hqn hb hd
        rw [show (64 : Int) = ((64 : Nat) : Int) from rfl, div_zero_b] at this
        exact this
      | 3, _ =>
        have := inside_3 A a b q w h hq hr hqn hb hd
        rw [show (32 : Int) = ((32 : Nat) : Int) from rfl, div_zero_b] at this
        exact this
      | 4, _ =>
        have := inside_4 A a b q w h hq hr hqn hb hd
        rw [show (16 : Int) = ((16 : Nat) : Int) from rfl, div_zero_b] at this
        exact this
      | 5, _ =>
        have := inside_5 A a b q w h hq hr hqn hb hd
        rw [show (8 : Int) = ((8 : Nat) : Int) from rfl, div_zero_b] at this
        exact this
      | 6, _ =>
        have := inside_6 A a b q w h hq hr hqn hb hd
        rw [show (4 : Int) = ((4 : Nat) : Int) from rfl, div_zero_b] at this
        exact this
      | 7, _ =>
        have := inside_7 A a b q w h hq hr hqn hb hd
        rw [show (2 : Int) = ((2 : Nat) : Int) from rfl, div_zero_b] at this
        exact this
end Go.Proofs.YtelboefeomnjaaaGreat
