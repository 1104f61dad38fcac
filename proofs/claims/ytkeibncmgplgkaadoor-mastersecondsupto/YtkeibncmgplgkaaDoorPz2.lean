import Derived.Test.YtkeibncmgplgkaaDoorPz1
import Derived.Shelf.Pu.ParseUintEmpty
namespace Go.Proofs.YtkeibncmgplgkaaDoor
set_option linter.unusedVariables false
open Go.RowKit Go.Shelf Go.Proofs.YtkeibncmgplgkaaDoor.Nm

def fnPU : ByteArray := ⟨#[80, 97, 114, 115, 101, 85, 105, 110, 116]⟩
theorem parseB31 {t : ByteArray} (h0 : 0 < t.size) : Lib.parseUintB 31 t.data.toList = Lib.parseUintM 2147483647 0 t.data.toList := by
  unfold Lib.parseUintB
  rw [if_neg]
  intro e
  have : t.data.toList.length = t.size := by simp
  rw [e] at this; simp at this; omega

theorem parseM_lt (M : Nat) : ∀ (l : List UInt8) (acc u : Nat), Lib.parseUintM M acc l = .ok u → u + 1 ≤ (acc + 1) * 10 ^ l.length
  | [], acc, u, h => by unfold Lib.parseUintM at h; injection h with h; simp; omega
  | c :: r, acc, u, h => by
    unfold Lib.parseUintM at h
    split at h
    · rename_i hc
      split at h
      · cases h
      · split at h
        · cases h
        · have := parseM_lt M r _ u h
          rw [List.length_cons, Nat.pow_succ]
          refine Nat.le_trans this ?_
          rw [Nat.mul_comm (10 ^ r.length) 10, ← Nat.mul_assoc]
          exact Nat.mul_le_mul_right _ (by omega)
    · cases h
theorem parseB_lt {B u : Nat} {t : ByteArray} (ht : t.size ≤ 10) (h : Lib.parseUintB B t.data.toList = .ok u) : u < 10000000000 := by
  unfold Lib.parseUintB at h
  split at h
  · cases h
  · have h1 := parseM_lt _ _ _ _ h
    have hl : t.data.toList.length = t.size := by simp
    rw [hl] at h1
    have h2 : 10 ^ t.size ≤ 10 ^ 10 := Nat.pow_le_pow_right (by omega) ht
    omega

/-- what strconv.ParseUint answers: the number, or some error -/
def puEnd (r : Lib.NumEnd Nat) (w : World) (e : Ending) (w' : World) : Prop :=
  (∃ u, r = .ok u ∧ e = .returned (.tuple #[.int .u64 (u : Int), .nilIface]) ∧ Below w.heap.size w w') ∨
  ((∀ u, r ≠ .ok u) ∧ ∃ (x : Int) (N : Nat), e = .returned (.tuple #[.int .u64 x, .iface 51 (.pointer (some ⟨N, 0, none⟩))]) ∧ Below w.heap.size w w')

set_option maxHeartbeats 4000000 in
set_option maxRecDepth 100000 in
/-- strconv.ParseUint in base 10 and 31 bits -/
theorem spu31 (t : ByteArray) (w : World) (ht : t.size ≤ 1048576) (hG : Gl w) :
    Calls Tryd.prog 12 #[.string t, .int .i64 10, .int .i64 31] w (puEnd (Lib.parseUintB 31 t.data.toList) w) := by
  obtain ⟨e0, e1, hv0, he0, hv1, he1⟩ := hG
  have g0 : 2 < w.heap.size := Lib.lt_of_cell hv0
  have g1 : 3 < w.heap.size := Lib.lt_of_cell hv1
  have HSy : Hid (∀ (W : World) (hc : W.cell? ⟨2, 0, none⟩ = some e0), Calls Tryd.prog 19 #[.string ⟨#[80, 97, 114, 115, 101, 85, 105, 110, 116]⟩, .string t, .int .i64 10, .int .i64 31, .iface 49 (.int .i64 2)] W fun e w' => ∃ N, e = .returned (.iface 51 (.pointer (some ⟨N, 0, none⟩))) ∧ Below W.heap.size W w') := fun W hc => (AnyPu.strconv_toError_syntax { Tryd.laysPu14 with } ⟨#[80, 97, 114, 115, 101, 85, 105, 110, 116]⟩ t 10 31 e0 W (by omega) hc he0).mono (fun e w' ⟨N, h1, _, _, h4⟩ => ⟨N, h1, h4⟩)
  have HRg : Hid (∀ (W : World) (hc : W.cell? ⟨3, 0, none⟩ = some e1), Calls Tryd.prog 19 #[.string ⟨#[80, 97, 114, 115, 101, 85, 105, 110, 116]⟩, .string t, .int .i64 10, .int .i64 31, .iface 49 (.int .i64 1)] W fun e w' => ∃ N, e = .returned (.iface 51 (.pointer (some ⟨N, 0, none⟩))) ∧ Below W.heap.size W w') := fun W hc => (AnyPu.strconv_toError_range { Tryd.laysPu14 with } ⟨#[80, 97, 114, 115, 101, 85, 105, 110, 116]⟩ t 10 31 e1 W (by omega) hc he1).mono (fun e w' ⟨N, h1, _, _, h4⟩ => ⟨N, h1, h4⟩)
  have HI : Hid (Calls Tryd.prog 18 #[.string t, .int .i64 10, .int .i64 31] w fun e w' => e = .returned (Lib.uintTupleM 49 2147483647 (Lib.parseUintB 31 t.data.toList)) ∧ Below w.heap.size w w') := by
    by_cases h0 : t.size = 0
    · have hr : Lib.parseUintB 31 t.data.toList = .syntax := by
        unfold Lib.parseUintB
        rw [if_pos (List.length_eq_zero_iff.1 (by simpa using h0))]
      rw [hr]
      have he := isEmpty_true h0
      go_enter Tryd.func18, Tryd.ntmps18
      go_wp2
      go_ret2
      exact ⟨rfl, Below.refl _ _⟩
    · rw [parseB31 (by omega)]
      exact (parse31 t (by omega) ht w).mono (fun e w' ⟨h1, h2⟩ => ⟨h1, h2 ▸ Lib.bytesWorld_below _ _ _⟩)
  cases h : Lib.parseUintB 31 t.data.toList with
  | ok u =>
    rw [h] at HI
    go_enter Tryd.func12, Tryd.ntmps12
    go_wp2_with (go_at_call 18; refine HI.out.mono ?_; rintro e w1 ⟨he, hB⟩; have he' : e = .returned (.tuple #[.int .u64 (u : Int), .nilIface]) := he; subst he'; clear he)
    go_ret2
    exact .inl ⟨u, rfl, rfl, hB⟩
  | «syntax» =>
    rw [h] at HI
    go_enter Tryd.func12, Tryd.ntmps12
    go_wp2_with (first | (go_at_call 18; refine HI.out.mono ?_; rintro e w1 ⟨he, hB⟩; have he' : e = .returned (.tuple #[.int .u64 0, .iface 49 (.int .i64 2)]) := he; subst he'; clear he; have hv0' := (hB.cell (p := ⟨2, 0, none⟩) g0).trans hv0) | (go_at_call 19; refine (HSy.out _ hv0').mono ?_; rintro e w2 ⟨N, rfl, hB2⟩))
    go_ret2
    exact .inr ⟨(fun u e => by cases e), 0, N, rfl, hB.trans (hB2.mono hB.size)⟩
  | range =>
    rw [h] at HI
    go_enter Tryd.func12, Tryd.ntmps12
    go_wp2_with (first | (go_at_call 18; refine HI.out.mono ?_; rintro e w1 ⟨he, hB⟩; have he' : e = .returned (.tuple #[.int .u64 2147483647, .iface 49 (.int .i64 1)]) := he; subst he'; clear he; have hv1' := (hB.cell (p := ⟨3, 0, none⟩) g1).trans hv1) | (go_at_call 19; refine (HRg.out _ hv1').mono ?_; rintro e w2 ⟨N, rfl, hB2⟩))
    go_ret2
    exact .inr ⟨(fun u e => by cases e), 2147483647, N, rfl, hB.trans (hB2.mono hB.size)⟩

/-- .. and 64 bits -/
theorem spu64 (t : ByteArray) (w : World) (ht : t.size ≤ 1048576) (hG : Gl w) :
    Calls Tryd.prog 12 #[.string t, .int .i64 10, .int .i64 64] w (puEnd (Lib.parseUintB 64 t.data.toList) w) := by
  obtain ⟨e0, e1, hv0, he0, hv1, he1⟩ := hG
  cases h : Lib.parseUintB 64 t.data.toList with
  | ok u =>
    refine (Any.strconv_ParseUint_10_at64_ok Tryd.laysPu14 t (by omega) u h w).mono ?_
    rintro e w' ⟨rfl, hw⟩
    refine .inl ⟨u, rfl, rfl, ?_⟩
    rcases hw with rfl | rfl
    · exact Below.refl _ _
    · exact Lib.bytesWorld_below _ _ _
  | «syntax» =>
    refine (Any.strconv_ParseUint_10_at64_syntax Tryd.laysPu14 t (by omega) h e0 w hv0 he0).mono ?_
    rintro e w' ⟨N, rfl, -, -, hb⟩
    exact .inr ⟨(fun u e => by cases e), 0, N, rfl, hb⟩
  | range =>
    refine (Any.strconv_ParseUint_10_at64_range Tryd.laysPu14 t (by omega) h e1 w hv1 he1).mono ?_
    rintro e w' ⟨N, rfl, -, -, hb⟩
    exact .inr ⟨(fun u e => by cases e), _, N, rfl, hb⟩

set_option maxHeartbeats 4000000 in
/-- spell.Number in ten digits, and 31 or 64 bits -/
theorem number10 (t : ByteArray) (B : Nat) (w : World) (hB : B = 31 ∨ B = 64) (ht : t.size ≤ 1048576) (hG : Gl w) :
    Calls Tryd.prog 6 #[.string t, .int .i64 10, .int .i64 (B : Int)] w fun e w' => e = .returned (.tuple #[.int .i64 (((numR B 10 t).getD 0 : Nat) : Int), .bool (numR B 10 t).isSome]) ∧ Below w.heap.size w w' := by
  by_cases hlong : 10 < t.size
  · have HR : Hid (numR B 10 t = none) := numR_long hlong
    go_enter Tryd.func6, Tryd.ntmps6
    go_wp2
    go_ret2
    exact ⟨by rw [HR.out]; rfl, Below.refl _ _⟩
  · have HP : Hid (Calls Tryd.prog 12 #[.string t, .int .i64 10, .int .i64 (B : Int)] w (puEnd (Lib.parseUintB B t.data.toList) w)) := by
      rcases hB with rfl | rfl
      · exact spu31 t w ht hG
      · exact spu64 t w ht hG
    cases h : Lib.parseUintB B t.data.toList with
    | ok u =>
      have HR : Hid (numR B 10 t = some u) := numR_ok hlong h
      have hu := parseB_lt (by omega) h
      have HP2 : Hid (Calls Tryd.prog 12 #[.string t, .int .i64 10, .int .i64 (B : Int)] w fun e w' => e = .returned (.tuple #[.int .u64 (u : Int), .nilIface]) ∧ Below w.heap.size w w') := by
        refine HP.out.mono (fun e w' hp => ?_)
        rw [h] at hp
        rcases hp with ⟨u', hu', he, hb⟩ | ⟨hno, _⟩
        · injection hu' with hu'; subst hu'; exact ⟨he, hb⟩
        · exact absurd rfl (hno u)
      clear HP h
      go_enter Tryd.func6, Tryd.ntmps6
      go_wp2_with (go_at_call 12; refine HP2.out.mono ?_; rintro e w1 ⟨rfl, hB1⟩)
      go_ret2
      exact ⟨by rw [HR.out]; first | rfl | (congr 2; omega), hB1⟩
    | «syntax» =>
      have HR : Hid (numR B 10 t = none) := numR_syn hlong h
      have HP2 : Hid (Calls Tryd.prog 12 #[.string t, .int .i64 10, .int .i64 (B : Int)] w fun e w' => ∃ (x : Int) (N : Nat), e = .returned (.tuple #[.int .u64 x, .iface 51 (.pointer (some ⟨N, 0, none⟩))]) ∧ Below w.heap.size w w') := by
        refine HP.out.mono (fun e w' hp => ?_)
        rw [h] at hp
        rcases hp with ⟨u', hu', he, hb⟩ | ⟨hno, h2⟩
        · cases hu'
        · exact h2
      clear HP h
      go_enter Tryd.func6, Tryd.ntmps6
      go_wp2_with (go_at_call 12; refine HP2.out.mono ?_; rintro e w1 ⟨x, N, rfl, hB1⟩)
      go_ret2
      exact ⟨by rw [HR.out]; rfl, hB1⟩
    | range =>
      have HR : Hid (numR B 10 t = none) := numR_rng hlong h
      have HP2 : Hid (Calls Tryd.prog 12 #[.string t, .int .i64 10, .int .i64 (B : Int)] w fun e w' => ∃ (x : Int) (N : Nat), e = .returned (.tuple #[.int .u64 x, .iface 51 (.pointer (some ⟨N, 0, none⟩))]) ∧ Below w.heap.size w w') := by
        refine HP.out.mono (fun e w' hp => ?_)
        rw [h] at hp
        rcases hp with ⟨u', hu', he, hb⟩ | ⟨hno, h2⟩
        · cases hu'
        · exact h2
      clear HP h
      go_enter Tryd.func6, Tryd.ntmps6
      go_wp2_with (go_at_call 12; refine HP2.out.mono ?_; rintro e w1 ⟨x, N, rfl, hB1⟩)
      go_ret2
      exact ⟨by rw [HR.out]; rfl, hB1⟩
end Go.Proofs.YtkeibncmgplgkaaDoor
