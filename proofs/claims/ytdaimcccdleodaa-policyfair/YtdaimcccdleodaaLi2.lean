import Derived.Test.YtdaimcccdleodaaLi1
/-
  Chapter 15: bits of addresses; the reference's nets. (The verifier's own text.)
-/
namespace Go.Proofs.Ytdaimcccdleodaa
set_option linter.unusedVariables false
set_option linter.unusedSimpArgs false
open Go.RowKit Go.Shelf

/-- a byte -/
def bv (s : ByteArray) (i : Nat) : Nat := (s.data.toList.getD i 0).toNat
theorem bv_at (s : ByteArray) (i : Nat) (h : i < s.size) : s[i].toNat = bv s i := by
  have h' : i < s.data.toList.length := h
  unfold bv
  rw [List.getD_eq_getElem?_getD, List.getElem?_eq_getElem h']
  rfl
theorem bv_lt (s : ByteArray) (i : Nat) : bv s i < 256 := (s.data.toList.getD i 0).toNat_lt
/-- a bit -/
def bitN (s : ByteArray) (k : Nat) : Nat := bv s (k / 8) / 2 ^ (7 - k % 8) % 2
set_option maxRecDepth 100000 in
set_option maxHeartbeats 1000000 in
theorem rbit_any (s : ByteArray) (k : Nat) (w : World) (hk : k < 8 * s.size) (hs : s.size ≤ 16) : Calls Try.prog 16 #[.string s, .int .i64 (k : Int)] w fun e w' => e = .returned (.int .i64 (bitN s k : Int)) ∧ w' = w := by
  obtain ⟨q, hq⟩ : ∃ q : Nat, (k : Int).tdiv 8 = (q : Int) := ⟨k / 8, by rw [Int.tdiv_eq_ediv_of_nonneg (by omega)]; omega⟩
  obtain ⟨r, hr⟩ : ∃ r : Nat, (k : Int).tmod 8 = (r : Int) := ⟨k % 8, by rw [Int.tmod_eq_emod_of_nonneg (by omega)]; omega⟩
  have hqq : q = k / 8 := by rw [Int.tdiv_eq_ediv_of_nonneg (by omega)] at hq; omega
  have hrr : r = k % 8 := by rw [Int.tmod_eq_emod_of_nonneg (by omega)] at hr; omega
  have hqn : q < s.size := by omega
  have hr8 : r < 8 := by omega
  have hwq : IntKind.i64.wrap (q : Int) = q := by rw [IntKind.wrap_i64]; omega
  have HR : Hid (bitN s k = bv s q / 2 ^ (7 - r) % 2) := by unfold Hid bitN; rw [hqq, hrr]
  have hx := bv_at s q hqn
  have hxl := bv_lt s q
  generalize bv s q = x at *
  generalize bitN s k = R at *
  have hxw : IntKind.i64.wrap (x : Int) = x := by rw [IntKind.wrap_i64]; omega
  clear hqq hrr hk hs
  go_enter Try.func16, Try.ntmps16
  go_wp2_with fail
  go_loopw [5, 6] (fun v j wr => ∃ (m u : Nat), v = .int .i64 (u : Int) ∧ j = .int .i64 (m : Int) ∧ r ≤ m ∧ m ≤ 7 ∧ Hid (u = x / 2 ^ (m - r)) ∧ u ≤ 255 ∧ wr = w) (fun _ j _ => 7 - (intOf j).toNat)
  case atStart => exact ⟨r, x, rfl, rfl, Nat.le_refl _, by omega, (by unfold Hid; simp), by omega, rfl⟩
  case round =>
    obtain ⟨m, u, rfl, rfl, h1, h2, HU, h3, hwr⟩ := hrel
    subst hwr
    by_cases hlt : m < 7
    · have hd : (u : Int).tdiv 2 = ((u / 2 : Nat) : Int) := by rw [Int.tdiv_eq_ediv_of_nonneg (by omega)]; omega
      have HU2 : Hid (u / 2 = x / 2 ^ (m + 1 - r)) := by
        unfold Hid
        rw [HU.out, Nat.div_div_eq_div_mul, ← Nat.pow_succ]
        congr 2
        omega
      have h4 : u / 2 ≤ 255 := by omega
      generalize u / 2 = u2 at *
      have hw2 : IntKind.i64.wrap (u2 : Int) = u2 := by rw [IntKind.wrap_i64]; omega
      clear h3 HU
      go_wp2_with fail
      exact ⟨⟨m + 1, u2, rfl, by go_num, by omega, by omega, HU2.out, h4, trivial⟩, by simp [intOf]; omega⟩
    · obtain rfl : m = 7 := by omega
      have hd : (u : Int).tmod 2 = ((u % 2 : Nat) : Int) := by rw [Int.tmod_eq_emod_of_nonneg (by omega)]; omega
      have HV : Hid (R = u % 2) := by unfold Hid; rw [HR.out, HU.out]
      generalize u % 2 = z at *
      clear HU HR
      go_wp2_with fail
      go_ret
      exact ⟨by rw [HV.out]; rfl, rfl⟩
/-- do the first bits agree? -/
def agB (A a : ByteArray) (n : Nat) : Bool := (List.range n).all fun k => bitN A k == bitN a k
theorem ag_yes {A a : ByteArray} {n : Nat} (h : ∀ k, k < n → bitN A k = bitN a k) : agB A a n = true := by
  unfold agB
  rw [List.all_eq_true]
  intro k hk
  have := h k (List.mem_range.1 hk)
  simp [this]
theorem ag_no {A a : ByteArray} {n k : Nat} (hk : k < n) (h : ¬ bitN A k = bitN a k) : agB A a n = false := by
  unfold agB
  rw [List.all_eq_false]
  exact ⟨k, List.mem_range.2 hk, by simpa using h⟩
theorem ag_iff {A a : ByteArray} {n : Nat} : agB A a n = true ↔ ∀ k, k < n → bitN A k = bitN a k := by
  constructor
  · intro h k hk
    unfold agB at h
    rw [List.all_eq_true] at h
    have := h k (List.mem_range.2 hk)
    simpa using this
  · exact ag_yes
/-- what Inside says -/
def insB (A : ByteArray) (b : Int) (a : ByteArray) : Bool := rtB A b a && agB A a b.toNat
set_option maxRecDepth 100000 in
set_option maxHeartbeats 1000000 in
theorem rinside_good (A a : ByteArray) (b : Int) (w : World) (h : rtB A b a = true) : Calls Try.prog 8 #[.agg #[.string A, .int .i64 b], .string a] w fun e w' => e = .returned (.bool (agB A a b.toNat)) ∧ Below w.heap.size w w' := by
  obtain ⟨hA, ha, hs, h0, h1, hz⟩ := rt_good h
  clear h
  have H := hidq (address_any A)
  rw [hA] at H
  have H2 := hidq (address_any a)
  rw [ha] at H2
  have HBT := hidq (fun (k : Nat) (W : World) (hk : (k : Int) < b) => rbit_any A k W (by omega) hz)
  have HBT2 := hidq (fun (k : Nat) (W : World) (hk : (k : Int) < b) => rbit_any a k W (by omega) (by omega))
  have HY := hidq (ag_yes (A := A) (a := a) (n := b.toNat))
  have HN := hidq (fun (k : Nat) (hk : (k : Int) < b) => ag_no (A := A) (a := a) (n := b.toNat) (k := k) (by omega))
  generalize agB A a b.toNat = R at *
  obtain ⟨n, hn⟩ : ∃ n, A.size = n := ⟨_, rfl⟩
  have hm : IntKind.i64.wrap (8 * (n : Int)) = 8 * (n : Int) := by rw [IntKind.wrap_i64]; omega
  rw [hn] at hs h1 hz
  have hne : ((n : Int) != (n : Int)) = false := by simp
  have e1 : decide (b < 0) = false := by simp; omega
  have e2 : decide (8 * (n : Int) < b) = false := by simp; omega
  obtain ⟨wb, hwb⟩ : ∃ wb, w.alloc (.cells #[.string A, .int .i64 b] 23) = wb := ⟨_, rfl⟩
  have HB : Hid (Below w.heap.size w wb) := hwb ▸ (Below.refl w.heap.size w).alloc (Nat.le_refl _) _
  have HX : Hid (Bx wb w.heap.size #[.string A, .int .i64 b] 23) := hwb ▸ World.alloc_heap_new w _
  have c0 : wb.cell? ⟨w.heap.size, 0, none⟩ = some (.string A) := HX.out.cell rfl
  have c1 : wb.cell? ⟨w.heap.size, 1, none⟩ = some (.int .i64 b) := HX.out.cell rfl
  have hbb : b ≤ 128 := by omega
  clear hA ha h1 hz
  go_enter Try.func8, Try.ntmps8
  go_wp2_with (first
    | (go_at_call 15; (with_reducible refine (H.out _).mono ?_); rintro e w1 ⟨rfl, h1⟩; have h1 := h1.symm; subst h1)
    | (go_at_call 15; (with_reducible refine (H2.out _).mono ?_); rintro e w1 ⟨rfl, h1⟩; have h1 := h1.symm; subst h1))
  go_loopw [5] (fun i wr => ∃ k : Nat, i = .int .i64 (k : Int) ∧ (k : Int) ≤ b ∧ Hid (∀ j, j < k → bitN A j = bitN a j) ∧ wr = wb) (fun i _ => (b - intOf i).toNat)
  case atStart => exact ⟨0, rfl, h0, (fun j h => absurd h (Nat.not_lt_zero _)), rfl⟩
  case round =>
    obtain ⟨k, rfl, hk, HJ, hwr⟩ := hrel
    have hwr := hwr.symm
    subst hwr
    by_cases hlt : (k : Int) < b
    · have hlt' : decide ((k : Int) < b) = true := by simp; omega
      by_cases he : bitN A k = bitN a k
      · have hq : ((bitN A k : Int) != (bitN a k : Int)) = false := by simp [he]
        have HE := hidq he
        clear he
        go_wp2_with (first
          | (go_at_call 16; (with_reducible refine (HBT.out k _ hlt).mono ?_); rintro e w1 ⟨rfl, h1⟩; have h1 := h1.symm; subst h1)
          | (go_at_call 16; (with_reducible refine (HBT2.out k _ hlt).mono ?_); rintro e w1 ⟨rfl, h1⟩; have h1 := h1.symm; subst h1))
        refine ⟨⟨k + 1, by go_num, by omega, (fun j hj => ?_), by first | rfl | trivial⟩, by simp [intOf]; omega⟩
        rcases Nat.lt_or_ge j k with h' | h'
        · exact HJ.out j h'
        · obtain rfl : j = k := by omega
          exact HE.out
      · have hq : ((bitN A k : Int) != (bitN a k : Int)) = true := by simp; omega
        have HE := hidq (HN.out k hlt he)
        clear he
        go_wp2_with (first
          | (go_at_call 16; (with_reducible refine (HBT.out k _ hlt).mono ?_); rintro e w1 ⟨rfl, h1⟩; have h1 := h1.symm; subst h1)
          | (go_at_call 16; (with_reducible refine (HBT2.out k _ hlt).mono ?_); rintro e w1 ⟨rfl, h1⟩; have h1 := h1.symm; subst h1))
        go_ret
        exact ⟨by rw [HE.out]; rfl, HB.out⟩
    · have hlt' : decide ((k : Int) < b) = false := by simp; omega
      have HV : Hid (R = true) := HY.out (fun j hj => HJ.out j (by omega))
      go_wp2_with fail
      go_ret
      exact ⟨by rw [HV.out]; rfl, HB.out⟩
/-- the reference's Inside -/
theorem rinside_any (A a : ByteArray) (b : Int) (w : World) : Calls Try.prog 8 #[.agg #[.string A, .int .i64 b], .string a] w fun e w' => e = .returned (.bool (insB A b a)) ∧ Below w.heap.size w w' := by
  unfold insB
  cases h : rtB A b a with
  | false => exact rinside_bad A a b w h
  | true => exact rinside_good A a b w h
end Go.Proofs.Ytdaimcccdleodaa
