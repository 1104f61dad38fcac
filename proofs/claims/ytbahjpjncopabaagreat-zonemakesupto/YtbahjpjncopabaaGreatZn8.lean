import Derived.Test.YtbahjpjncopabaaGreatZn6G
/-
  Proofs: (*zone.draft).first, with each rule. (The verifier's own text.)
-/
namespace Go.Proofs.YtbahjpjncopabaaGreat
set_option linter.unusedVariables false
set_option linter.unusedSimpArgs false
open Go.RowKit Go.Shelf Go.Maps Go.Proofs.YtbahjpjncopabaaGreat.Nm

/-- a record as a value -/
def rcV (r : Rn) : Value := .agg #[.string r.o, .int .i64 r.t, .int .i64 r.c, .int .i64 r.l, .string r.d]
/-- the first number that breaks a rule -/
def fstI (P : Nat → Bool) (n : Nat) : Int := match (List.range n).find? P with | some k => (k : Int) | none => -2
theorem fstI_some {P : Nat → Bool} {n k : Nat} (hk : k < n) (hp : P k = true) (hq : ∀ j, j < k → P j = false) : fstI P n = (k : Int) := by
  unfold fstI
  have : (List.range n).find? P = some k := by
    rw [List.find?_range_eq_some]
    exact ⟨hp, by simpa using hk, fun j hj => by rw [hq j hj]; rfl⟩
  rw [this]
theorem fstI_none {P : Nat → Bool} {n : Nat} (hq : ∀ j, j < n → P j = false) : fstI P n = -2 := by
  unfold fstI
  have : (List.range n).find? P = none := by
    rw [List.find?_eq_none]
    intro x hx
    rw [hq x (List.mem_range.1 hx)]
    simp
  rw [this]

set_option maxRecDepth 100000 in
set_option maxHeartbeats 1000000 in
/-- (*zone.draft).first, with (*zone.draft).isTwice -/
theorem first_isTwice (D : Nat) (L : List Rn) (p : Option Addr) (cap : Nat) (P : Nat → Bool) (w : World) (hL : L.length ≤ 1048576) (hDl : D < w.heap.size) (hd : w.cell? ⟨D, 2, none⟩ = some (.slice p L.length cap)) (hat : RsAt w p L)
    (hf : ∀ (k : Nat) (hk : k < L.length) (W : World), Below w.heap.size w W → Calls Tryz.prog 43 #[.pointer (some ⟨D, 0, none⟩), .int .i64 (k : Int), rcV L[k]] W fun r w' => r = .returned (.bool (P k)) ∧ Below W.heap.size W w') :
    Calls Tryz.prog 42 #[.pointer (some ⟨D, 0, none⟩), .func (Fn.func 43) #[.pointer (some ⟨D, 0, none⟩)] #[]] w fun r w' => r = .returned (.int .i64 (fstI P L.length)) ∧ Below w.heap.size w w' := by
  have HF := hide' hf
  have HAT := hide' hat
  clear hf hat
  go_enter Tryz.func42, Tryz.ntmps42
  go_wp2_with fail
  go_loopw [12] (fun kv wr => ∃ k : Nat, kv = .int .i64 (k : Int) ∧ k ≤ L.length ∧ Hid (∀ j, j < k → P j = false) ∧ Hid (Below w.heap.size w wr)) (fun kv _ => L.length - (intOf kv).toNat)
  case atStart => exact ⟨0, rfl, Nat.zero_le _, (fun j h => absurd h (Nat.not_lt_zero _)), Below.refl _ _⟩
  case round =>
    obtain ⟨k, rfl, hk, HN, HB⟩ := hrel
    by_cases hlt : k < L.length
    · obtain ⟨g, off, rfl, hg, r0, r1, r2, r3, r4⟩ := HAT.out k hlt
      have hbl := HB.out
      have q0 := (hbl.cell (p := ⟨g, off + k * 5, none⟩) hg).trans r0
      have q1 := (hbl.cell (p := ⟨g, off + k * 5 + 1, none⟩) hg).trans r1
      have q2 := (hbl.cell (p := ⟨g, off + k * 5 + 2, none⟩) hg).trans r2
      have q3 := (hbl.cell (p := ⟨g, off + k * 5 + 3, none⟩) hg).trans r3
      have q4 := (hbl.cell (p := ⟨g, off + k * 5 + 4, none⟩) hg).trans r4
      clear r0 r1 r2 r3 r4 hbl
      have HC : Hid (∀ W, Below w.heap.size w W → Calls Tryz.prog 43 #[.pointer (some ⟨D, 0, none⟩), .int .i64 (k : Int), rcV L[k]] W fun r w' => r = .returned (.bool (P k)) ∧ Below W.heap.size W w') := fun W hW => HF.out k hlt W hW
      obtain ⟨rr, hrr⟩ : ∃ rr, L[k] = rr := ⟨_, rfl⟩
      rw [hrr] at q0 q1 q2 q3 q4 HC
      clear hrr
      obtain ⟨o, t, c, l, d⟩ := rr
      unfold rcV at HC
      simp only at q0 q1 q2 q3 q4 HC
      obtain ⟨wb, hwb⟩ : ∃ wb, wr.alloc (.cells #[.string o, .int .i64 t, .int .i64 c, .int .i64 l, .string d] 40) = wb := ⟨_, rfl⟩
      have HXb : Hid (Bx wb wr.heap.size #[.string o, .int .i64 t, .int .i64 c, .int .i64 l, .string d] 40) := hwb ▸ World.alloc_heap_new wr _
      have HBb : Hid (Below w.heap.size w wb) := hwb ▸ HB.out.alloc HB.out.size _
      have v0 : wb.cell? ⟨wr.heap.size, 0, none⟩ = some (.string o) := HXb.out.cell rfl
      have v1 : wb.cell? ⟨wr.heap.size, 1, none⟩ = some (.int .i64 t) := HXb.out.cell rfl
      have v2 : wb.cell? ⟨wr.heap.size, 2, none⟩ = some (.int .i64 c) := HXb.out.cell rfl
      have v3 : wb.cell? ⟨wr.heap.size, 3, none⟩ = some (.int .i64 l) := HXb.out.cell rfl
      have v4 : wb.cell? ⟨wr.heap.size, 4, none⟩ = some (.string d) := HXb.out.cell rfl
      have HC2 := hide' (HC.out wb HBb.out)
      clear HC
      cases hp : P k with
      | true =>
        rw [hp] at HC2
        have HP := hide' hp
        clear hp
        go_wp2_with (go_at_call 43; refine HC2.out.mono ?_; rintro r w2 ⟨rfl, hB2⟩)
        go_ret
        exact ⟨by rw [fstI_some hlt HP.out HN.out]; rfl, bstep HBb.out hB2 HBb.out.size⟩
      | false =>
        rw [hp] at HC2
        have HP := hide' hp
        clear hp
        go_wp2_with (go_at_call 43; refine HC2.out.mono ?_; rintro r w2 ⟨rfl, hB2⟩)
        refine ⟨⟨k + 1, by go_num, by omega, ?_, bstep HBb.out hB2 HBb.out.size⟩, by simp [intOf]; omega⟩
        intro j hj
        rcases Nat.lt_or_ge j k with h | h
        · exact HN.out j h
        · obtain rfl : j = k := by omega
          exact HP.out
    · obtain rfl : k = L.length := by omega
      go_wp2_with fail
      go_ret
      exact ⟨by rw [fstI_none HN.out]; rfl, HB.out⟩

set_option maxRecDepth 100000 in
set_option maxHeartbeats 1000000 in
/-- (*zone.draft).first, with (*zone.draft).isStraySoa -/
theorem first_isStraySoa (D : Nat) (L : List Rn) (p : Option Addr) (cap : Nat) (P : Nat → Bool) (w : World) (hL : L.length ≤ 1048576) (hDl : D < w.heap.size) (hd : w.cell? ⟨D, 2, none⟩ = some (.slice p L.length cap)) (hat : RsAt w p L)
    (hf : ∀ (k : Nat) (hk : k < L.length) (W : World), Below w.heap.size w W → Calls Tryz.prog 44 #[.pointer (some ⟨D, 0, none⟩), .int .i64 (k : Int), rcV L[k]] W fun r w' => r = .returned (.bool (P k)) ∧ Below W.heap.size W w') :
    Calls Tryz.prog 42 #[.pointer (some ⟨D, 0, none⟩), .func (Fn.func 44) #[.pointer (some ⟨D, 0, none⟩)] #[]] w fun r w' => r = .returned (.int .i64 (fstI P L.length)) ∧ Below w.heap.size w w' := by
  have HF := hide' hf
  have HAT := hide' hat
  clear hf hat
  go_enter Tryz.func42, Tryz.ntmps42
  go_wp2_with fail
  go_loopw [12] (fun kv wr => ∃ k : Nat, kv = .int .i64 (k : Int) ∧ k ≤ L.length ∧ Hid (∀ j, j < k → P j = false) ∧ Hid (Below w.heap.size w wr)) (fun kv _ => L.length - (intOf kv).toNat)
  case atStart => exact ⟨0, rfl, Nat.zero_le _, (fun j h => absurd h (Nat.not_lt_zero _)), Below.refl _ _⟩
  case round =>
    obtain ⟨k, rfl, hk, HN, HB⟩ := hrel
    by_cases hlt : k < L.length
    · obtain ⟨g, off, rfl, hg, r0, r1, r2, r3, r4⟩ := HAT.out k hlt
      have hbl := HB.out
      have q0 := (hbl.cell (p := ⟨g, off + k * 5, none⟩) hg).trans r0
      have q1 := (hbl.cell (p := ⟨g, off + k * 5 + 1, none⟩) hg).trans r1
      have q2 := (hbl.cell (p := ⟨g, off + k * 5 + 2, none⟩) hg).trans r2
      have q3 := (hbl.cell (p := ⟨g, off + k * 5 + 3, none⟩) hg).trans r3
      have q4 := (hbl.cell (p := ⟨g, off + k * 5 + 4, none⟩) hg).trans r4
      clear r0 r1 r2 r3 r4 hbl
      have HC : Hid (∀ W, Below w.heap.size w W → Calls Tryz.prog 44 #[.pointer (some ⟨D, 0, none⟩), .int .i64 (k : Int), rcV L[k]] W fun r w' => r = .returned (.bool (P k)) ∧ Below W.heap.size W w') := fun W hW => HF.out k hlt W hW
      obtain ⟨rr, hrr⟩ : ∃ rr, L[k] = rr := ⟨_, rfl⟩
      rw [hrr] at q0 q1 q2 q3 q4 HC
      clear hrr
      obtain ⟨o, t, c, l, d⟩ := rr
      unfold rcV at HC
      simp only at q0 q1 q2 q3 q4 HC
      obtain ⟨wb, hwb⟩ : ∃ wb, wr.alloc (.cells #[.string o, .int .i64 t, .int .i64 c, .int .i64 l, .string d] 40) = wb := ⟨_, rfl⟩
      have HXb : Hid (Bx wb wr.heap.size #[.string o, .int .i64 t, .int .i64 c, .int .i64 l, .string d] 40) := hwb ▸ World.alloc_heap_new wr _
      have HBb : Hid (Below w.heap.size w wb) := hwb ▸ HB.out.alloc HB.out.size _
      have v0 : wb.cell? ⟨wr.heap.size, 0, none⟩ = some (.string o) := HXb.out.cell rfl
      have v1 : wb.cell? ⟨wr.heap.size, 1, none⟩ = some (.int .i64 t) := HXb.out.cell rfl
      have v2 : wb.cell? ⟨wr.heap.size, 2, none⟩ = some (.int .i64 c) := HXb.out.cell rfl
      have v3 : wb.cell? ⟨wr.heap.size, 3, none⟩ = some (.int .i64 l) := HXb.out.cell rfl
      have v4 : wb.cell? ⟨wr.heap.size, 4, none⟩ = some (.string d) := HXb.out.cell rfl
      have HC2 := hide' (HC.out wb HBb.out)
      clear HC
      cases hp : P k with
      | true =>
        rw [hp] at HC2
        have HP := hide' hp
        clear hp
        go_wp2_with (go_at_call 44; refine HC2.out.mono ?_; rintro r w2 ⟨rfl, hB2⟩)
        go_ret
        exact ⟨by rw [fstI_some hlt HP.out HN.out]; rfl, bstep HBb.out hB2 HBb.out.size⟩
      | false =>
        rw [hp] at HC2
        have HP := hide' hp
        clear hp
        go_wp2_with (go_at_call 44; refine HC2.out.mono ?_; rintro r w2 ⟨rfl, hB2⟩)
        refine ⟨⟨k + 1, by go_num, by omega, ?_, bstep HBb.out hB2 HBb.out.size⟩, by simp [intOf]; omega⟩
        intro j hj
        rcases Nat.lt_or_ge j k with h | h
        · exact HN.out j h
        · obtain rfl : j = k := by omega
          exact HP.out
    · obtain rfl : k = L.length := by omega
      go_wp2_with fail
      go_ret
      exact ⟨by rw [fstI_none HN.out]; rfl, HB.out⟩

set_option maxRecDepth 100000 in
set_option maxHeartbeats 1000000 in
/-- (*zone.draft).first, with (*zone.draft).isWild -/
theorem first_isWild (D : Nat) (L : List Rn) (p : Option Addr) (cap : Nat) (P : Nat → Bool) (w : World) (hL : L.length ≤ 1048576) (hDl : D < w.heap.size) (hd : w.cell? ⟨D, 2, none⟩ = some (.slice p L.length cap)) (hat : RsAt w p L)
    (hf : ∀ (k : Nat) (hk : k < L.length) (W : World), Below w.heap.size w W → Calls Tryz.prog 46 #[.pointer (some ⟨D, 0, none⟩), .int .i64 (k : Int), rcV L[k]] W fun r w' => r = .returned (.bool (P k)) ∧ Below W.heap.size W w') :
    Calls Tryz.prog 42 #[.pointer (some ⟨D, 0, none⟩), .func (Fn.func 46) #[.pointer (some ⟨D, 0, none⟩)] #[]] w fun r w' => r = .returned (.int .i64 (fstI P L.length)) ∧ Below w.heap.size w w' := by
  have HF := hide' hf
  have HAT := hide' hat
  clear hf hat
  go_enter Tryz.func42, Tryz.ntmps42
  go_wp2_with fail
  go_loopw [12] (fun kv wr => ∃ k : Nat, kv = .int .i64 (k : Int) ∧ k ≤ L.length ∧ Hid (∀ j, j < k → P j = false) ∧ Hid (Below w.heap.size w wr)) (fun kv _ => L.length - (intOf kv).toNat)
  case atStart => exact ⟨0, rfl, Nat.zero_le _, (fun j h => absurd h (Nat.not_lt_zero _)), Below.refl _ _⟩
  case round =>
    obtain ⟨k, rfl, hk, HN, HB⟩ := hrel
    by_cases hlt : k < L.length
    · obtain ⟨g, off, rfl, hg, r0, r1, r2, r3, r4⟩ := HAT.out k hlt
      have hbl := HB.out
      have q0 := (hbl.cell (p := ⟨g, off + k * 5, none⟩) hg).trans r0
      have q1 := (hbl.cell (p := ⟨g, off + k * 5 + 1, none⟩) hg).trans r1
      have q2 := (hbl.cell (p := ⟨g, off + k * 5 + 2, none⟩) hg).trans r2
      have q3 := (hbl.cell (p := ⟨g, off + k * 5 + 3, none⟩) hg).trans r3
      have q4 := (hbl.cell (p := ⟨g, off + k * 5 + 4, none⟩) hg).trans r4
      clear r0 r1 r2 r3 r4 hbl
      have HC : Hid (∀ W, Below w.heap.size w W → Calls Tryz.prog 46 #[.pointer (some ⟨D, 0, none⟩), .int .i64 (k : Int), rcV L[k]] W fun r w' => r = .returned (.bool (P k)) ∧ Below W.heap.size W w') := fun W hW => HF.out k hlt W hW
      obtain ⟨rr, hrr⟩ : ∃ rr, L[k] = rr := ⟨_, rfl⟩
      rw [hrr] at q0 q1 q2 q3 q4 HC
      clear hrr
      obtain ⟨o, t, c, l, d⟩ := rr
      unfold rcV at HC
      simp only at q0 q1 q2 q3 q4 HC
      obtain ⟨wb, hwb⟩ : ∃ wb, wr.alloc (.cells #[.string o, .int .i64 t, .int .i64 c, .int .i64 l, .string d] 40) = wb := ⟨_, rfl⟩
      have HXb : Hid (Bx wb wr.heap.size #[.string o, .int .i64 t, .int .i64 c, .int .i64 l, .string d] 40) := hwb ▸ World.alloc_heap_new wr _
      have HBb : Hid (Below w.heap.size w wb) := hwb ▸ HB.out.alloc HB.out.size _
      have v0 : wb.cell? ⟨wr.heap.size, 0, none⟩ = some (.string o) := HXb.out.cell rfl
      have v1 : wb.cell? ⟨wr.heap.size, 1, none⟩ = some (.int .i64 t) := HXb.out.cell rfl
      have v2 : wb.cell? ⟨wr.heap.size, 2, none⟩ = some (.int .i64 c) := HXb.out.cell rfl
      have v3 : wb.cell? ⟨wr.heap.size, 3, none⟩ = some (.int .i64 l) := HXb.out.cell rfl
      have v4 : wb.cell? ⟨wr.heap.size, 4, none⟩ = some (.string d) := HXb.out.cell rfl
      have HC2 := hide' (HC.out wb HBb.out)
      clear HC
      cases hp : P k with
      | true =>
        rw [hp] at HC2
        have HP := hide' hp
        clear hp
        go_wp2_with (go_at_call 46; refine HC2.out.mono ?_; rintro r w2 ⟨rfl, hB2⟩)
        go_ret
        exact ⟨by rw [fstI_some hlt HP.out HN.out]; rfl, bstep HBb.out hB2 HBb.out.size⟩
      | false =>
        rw [hp] at HC2
        have HP := hide' hp
        clear hp
        go_wp2_with (go_at_call 46; refine HC2.out.mono ?_; rintro r w2 ⟨rfl, hB2⟩)
        refine ⟨⟨k + 1, by go_num, by omega, ?_, bstep HBb.out hB2 HBb.out.size⟩, by simp [intOf]; omega⟩
        intro j hj
        rcases Nat.lt_or_ge j k with h | h
        · exact HN.out j h
        · obtain rfl : j = k := by omega
          exact HP.out
    · obtain rfl : k = L.length := by omega
      go_wp2_with fail
      go_ret
      exact ⟨by rw [fstI_none HN.out]; rfl, HB.out⟩

set_option maxRecDepth 100000 in
set_option maxHeartbeats 1000000 in
/-- (*zone.draft).first, with (*zone.draft).isCrowdedAlias -/
theorem first_isCrowdedAlias (D : Nat) (L : List Rn) (p : Option Addr) (cap : Nat) (P : Nat → Bool) (w : World) (hL : L.length ≤ 1048576) (hDl : D < w.heap.size) (hd : w.cell? ⟨D, 2, none⟩ = some (.slice p L.length cap)) (hat : RsAt w p L)
    (hf : ∀ (k : Nat) (hk : k < L.length) (W : World), Below w.heap.size w W → Calls Tryz.prog 47 #[.pointer (some ⟨D, 0, none⟩), .int .i64 (k : Int), rcV L[k]] W fun r w' => r = .returned (.bool (P k)) ∧ Below W.heap.size W w') :
    Calls Tryz.prog 42 #[.pointer (some ⟨D, 0, none⟩), .func (Fn.func 47) #[.pointer (some ⟨D, 0, none⟩)] #[]] w fun r w' => r = .returned (.int .i64 (fstI P L.length)) ∧ Below w.heap.size w w' := by
  have HF := hide' hf
  have HAT := hide' hat
  clear hf hat
  go_enter Tryz.func42, Tryz.ntmps42
  go_wp2_with fail
  go_loopw [12] (fun kv wr => ∃ k : Nat, kv = .int .i64 (k : Int) ∧ k ≤ L.length ∧ Hid (∀ j, j < k → P j = false) ∧ Hid (Below w.heap.size w wr)) (fun kv _ => L.length - (intOf kv).toNat)
  case atStart => exact ⟨0, rfl, Nat.zero_le _, (fun j h => absurd h (Nat.not_lt_zero _)), Below.refl _ _⟩
  case round =>
    obtain ⟨k, rfl, hk, HN, HB⟩ := hrel
    by_cases hlt : k < L.length
    · obtain ⟨g, off, rfl, hg, r0, r1, r2, r3, r4⟩ := HAT.out k hlt
      have hbl := HB.out
      have q0 := (hbl.cell (p := ⟨g, off + k * 5, none⟩) hg).trans r0
      have q1 := (hbl.cell (p := ⟨g, off + k * 5 + 1, none⟩) hg).trans r1
      have q2 := (hbl.cell (p := ⟨g, off + k * 5 + 2, none⟩) hg).trans r2
      have q3 := (hbl.cell (p := ⟨g, off + k * 5 + 3, none⟩) hg).trans r3
      have q4 := (hbl.cell (p := ⟨g, off + k * 5 + 4, none⟩) hg).trans r4
      clear r0 r1 r2 r3 r4 hbl
      have HC : Hid (∀ W, Below w.heap.size w W → Calls Tryz.prog 47 #[.pointer (some ⟨D, 0, none⟩), .int .i64 (k : Int), rcV L[k]] W fun r w' => r = .returned (.bool (P k)) ∧ Below W.heap.size W w') := fun W hW => HF.out k hlt W hW
      obtain ⟨rr, hrr⟩ : ∃ rr, L[k] = rr := ⟨_, rfl⟩
      rw [hrr] at q0 q1 q2 q3 q4 HC
      clear hrr
      obtain ⟨o, t, c, l, d⟩ := rr
      unfold rcV at HC
      simp only at q0 q1 q2 q3 q4 HC
      obtain ⟨wb, hwb⟩ : ∃ wb, wr.alloc (.cells #[.string o, .int .i64 t, .int .i64 c, .int .i64 l, .string d] 40) = wb := ⟨_, rfl⟩
      have HXb : Hid (Bx wb wr.heap.size #[.string o, .int .i64 t, .int .i64 c, .int .i64 l, .string d] 40) := hwb ▸ World.alloc_heap_new wr _
      have HBb : Hid (Below w.heap.size w wb) := hwb ▸ HB.out.alloc HB.out.size _
      have v0 : wb.cell? ⟨wr.heap.size, 0, none⟩ = some (.string o) := HXb.out.cell rfl
      have v1 : wb.cell? ⟨wr.heap.size, 1, none⟩ = some (.int .i64 t) := HXb.out.cell rfl
      have v2 : wb.cell? ⟨wr.heap.size, 2, none⟩ = some (.int .i64 c) := HXb.out.cell rfl
      have v3 : wb.cell? ⟨wr.heap.size, 3, none⟩ = some (.int .i64 l) := HXb.out.cell rfl
      have v4 : wb.cell? ⟨wr.heap.size, 4, none⟩ = some (.string d) := HXb.out.cell rfl
      have HC2 := hide' (HC.out wb HBb.out)
      clear HC
      cases hp : P k with
      | true =>
        rw [hp] at HC2
        have HP := hide' hp
        clear hp
        go_wp2_with (go_at_call 47; refine HC2.out.mono ?_; rintro r w2 ⟨rfl, hB2⟩)
        go_ret
        exact ⟨by rw [fstI_some hlt HP.out HN.out]; rfl, bstep HBb.out hB2 HBb.out.size⟩
      | false =>
        rw [hp] at HC2
        have HP := hide' hp
        clear hp
        go_wp2_with (go_at_call 47; refine HC2.out.mono ?_; rintro r w2 ⟨rfl, hB2⟩)
        refine ⟨⟨k + 1, by go_num, by omega, ?_, bstep HBb.out hB2 HBb.out.size⟩, by simp [intOf]; omega⟩
        intro j hj
        rcases Nat.lt_or_ge j k with h | h
        · exact HN.out j h
        · obtain rfl : j = k := by omega
          exact HP.out
    · obtain rfl : k = L.length := by omega
      go_wp2_with fail
      go_ret
      exact ⟨by rw [fstI_none HN.out]; rfl, HB.out⟩

set_option maxRecDepth 100000 in
set_option maxHeartbeats 1000000 in
/-- (*zone.draft).first, with (*zone.draft).isWrongGraft -/
theorem first_isWrongGraft (D : Nat) (L : List Rn) (p : Option Addr) (cap : Nat) (P : Nat → Bool) (w : World) (hL : L.length ≤ 1048576) (hDl : D < w.heap.size) (hd : w.cell? ⟨D, 2, none⟩ = some (.slice p L.length cap)) (hat : RsAt w p L)
    (hf : ∀ (k : Nat) (hk : k < L.length) (W : World), Below w.heap.size w W → Calls Tryz.prog 48 #[.pointer (some ⟨D, 0, none⟩), .int .i64 (k : Int), rcV L[k]] W fun r w' => r = .returned (.bool (P k)) ∧ Below W.heap.size W w') :
    Calls Tryz.prog 42 #[.pointer (some ⟨D, 0, none⟩), .func (Fn.func 48) #[.pointer (some ⟨D, 0, none⟩)] #[]] w fun r w' => r = .returned (.int .i64 (fstI P L.length)) ∧ Below w.heap.size w w' := by
  have HF := hide' hf
  have HAT := hide' hat
  clear hf hat
  go_enter Tryz.func42, Tryz.ntmps42
  go_wp2_with fail
  go_loopw [12] (fun kv wr => ∃ k : Nat, kv = .int .i64 (k : Int) ∧ k ≤ L.length ∧ Hid (∀ j, j < k → P j = false) ∧ Hid (Below w.heap.size w wr)) (fun kv _ => L.length - (intOf kv).toNat)
  case atStart => exact ⟨0, rfl, Nat.zero_le _, (fun j h => absurd h (Nat.not_lt_zero _)), Below.refl _ _⟩
  case round =>
    obtain ⟨k, rfl, hk, HN, HB⟩ := hrel
    by_cases hlt : k < L.length
    · obtain ⟨g, off, rfl, hg, r0, r1, r2, r3, r4⟩ := HAT.out k hlt
      have hbl := HB.out
      have q0 := (hbl.cell (p := ⟨g, off + k * 5, none⟩) hg).trans r0
      have q1 := (hbl.cell (p := ⟨g, off + k * 5 + 1, none⟩) hg).trans r1
      have q2 := (hbl.cell (p := ⟨g, off + k * 5 + 2, none⟩) hg).trans r2
      have q3 := (hbl.cell (p := ⟨g, off + k * 5 + 3, none⟩) hg).trans r3
      have q4 := (hbl.cell (p := ⟨g, off + k * 5 + 4, none⟩) hg).trans r4
      clear r0 r1 r2 r3 r4 hbl
      have HC : Hid (∀ W, Below w.heap.size w W → Calls Tryz.prog 48 #[.pointer (some ⟨D, 0, none⟩), .int .i64 (k : Int), rcV L[k]] W fun r w' => r = .returned (.bool (P k)) ∧ Below W.heap.size W w') := fun W hW => HF.out k hlt W hW
      obtain ⟨rr, hrr⟩ : ∃ rr, L[k] = rr := ⟨_, rfl⟩
      rw [hrr] at q0 q1 q2 q3 q4 HC
      clear hrr
      obtain ⟨o, t, c, l, d⟩ := rr
      unfold rcV at HC
      simp only at q0 q1 q2 q3 q4 HC
      obtain ⟨wb, hwb⟩ : ∃ wb, wr.alloc (.cells #[.string o, .int .i64 t, .int .i64 c, .int .i64 l, .string d] 40) = wb := ⟨_, rfl⟩
      have HXb : Hid (Bx wb wr.heap.size #[.string o, .int .i64 t, .int .i64 c, .int .i64 l, .string d] 40) := hwb ▸ World.alloc_heap_new wr _
      have HBb : Hid (Below w.heap.size w wb) := hwb ▸ HB.out.alloc HB.out.size _
      have v0 : wb.cell? ⟨wr.heap.size, 0, none⟩ = some (.string o) := HXb.out.cell rfl
      have v1 : wb.cell? ⟨wr.heap.size, 1, none⟩ = some (.int .i64 t) := HXb.out.cell rfl
      have v2 : wb.cell? ⟨wr.heap.size, 2, none⟩ = some (.int .i64 c) := HXb.out.cell rfl
      have v3 : wb.cell? ⟨wr.heap.size, 3, none⟩ = some (.int .i64 l) := HXb.out.cell rfl
      have v4 : wb.cell? ⟨wr.heap.size, 4, none⟩ = some (.string d) := HXb.out.cell rfl
      have HC2 := hide' (HC.out wb HBb.out)
      clear HC
      cases hp : P k with
      | true =>
        rw [hp] at HC2
        have HP := hide' hp
        clear hp
        go_wp2_with (go_at_call 48; refine HC2.out.mono ?_; rintro r w2 ⟨rfl, hB2⟩)
        go_ret
        exact ⟨by rw [fstI_some hlt HP.out HN.out]; rfl, bstep HBb.out hB2 HBb.out.size⟩
      | false =>
        rw [hp] at HC2
        have HP := hide' hp
        clear hp
        go_wp2_with (go_at_call 48; refine HC2.out.mono ?_; rintro r w2 ⟨rfl, hB2⟩)
        refine ⟨⟨k + 1, by go_num, by omega, ?_, bstep HBb.out hB2 HBb.out.size⟩, by simp [intOf]; omega⟩
        intro j hj
        rcases Nat.lt_or_ge j k with h | h
        · exact HN.out j h
        · obtain rfl : j = k := by omega
          exact HP.out
    · obtain rfl : k = L.length := by omega
      go_wp2_with fail
      go_ret
      exact ⟨by rw [fstI_none HN.out]; rfl, HB.out⟩

set_option maxRecDepth 100000 in
set_option maxHeartbeats 1000000 in
/-- (*zone.draft).first, with (*zone.draft).isOfOtherAge -/
theorem first_isOfOtherAge (D : Nat) (L : List Rn) (p : Option Addr) (cap : Nat) (P : Nat → Bool) (w : World) (hL : L.length ≤ 1048576) (hDl : D < w.heap.size) (hd : w.cell? ⟨D, 2, none⟩ = some (.slice p L.length cap)) (hat : RsAt w p L)
    (hf : ∀ (k : Nat) (hk : k < L.length) (W : World), Below w.heap.size w W → Calls Tryz.prog 49 #[.pointer (some ⟨D, 0, none⟩), .int .i64 (k : Int), rcV L[k]] W fun r w' => r = .returned (.bool (P k)) ∧ Below W.heap.size W w') :
    Calls Tryz.prog 42 #[.pointer (some ⟨D, 0, none⟩), .func (Fn.func 49) #[.pointer (some ⟨D, 0, none⟩)] #[]] w fun r w' => r = .returned (.int .i64 (fstI P L.length)) ∧ Below w.heap.size w w' := by
  have HF := hide' hf
  have HAT := hide' hat
  clear hf hat
  go_enter Tryz.func42, Tryz.ntmps42
  go_wp2_with fail
  go_loopw [12] (fun kv wr => ∃ k : Nat, kv = .int .i64 (k : Int) ∧ k ≤ L.length ∧ Hid (∀ j, j < k → P j = false) ∧ Hid (Below w.heap.size w wr)) (fun kv _ => L.length - (intOf kv).toNat)
  case atStart => exact ⟨0, rfl, Nat.zero_le _, (fun j h => absurd h (Nat.not_lt_zero _)), Below.refl _ _⟩
  case round =>
    obtain ⟨k, rfl, hk, HN, HB⟩ := hrel
    by_cases hlt : k < L.length
    · obtain ⟨g, off, rfl, hg, r0, r1, r2, r3, r4⟩ := HAT.out k hlt
      have hbl := HB.out
      have q0 := (hbl.cell (p := ⟨g, off + k * 5, none⟩) hg).trans r0
      have q1 := (hbl.cell (p := ⟨g, off + k * 5 + 1, none⟩) hg).trans r1
      have q2 := (hbl.cell (p := ⟨g, off + k * 5 + 2, none⟩) hg).trans r2
      have q3 := (hbl.cell (p := ⟨g, off + k * 5 + 3, none⟩) hg).trans r3
      have q4 := (hbl.cell (p := ⟨g, off + k * 5 + 4, none⟩) hg).trans r4
      clear r0 r1 r2 r3 r4 hbl
      have HC : Hid (∀ W, Below w.heap.size w W → Calls Tryz.prog 49 #[.pointer (some ⟨D, 0, none⟩), .int .i64 (k : Int), rcV L[k]] W fun r w' => r = .returned (.bool (P k)) ∧ Below W.heap.size W w') := fun W hW => HF.out k hlt W hW
      obtain ⟨rr, hrr⟩ : ∃ rr, L[k] = rr := ⟨_, rfl⟩
      rw [hrr] at q0 q1 q2 q3 q4 HC
      clear hrr
      obtain ⟨o, t, c, l, d⟩ := rr
      unfold rcV at HC
      simp only at q0 q1 q2 q3 q4 HC
      obtain ⟨wb, hwb⟩ : ∃ wb, wr.alloc (.cells #[.string o, .int .i64 t, .int .i64 c, .int .i64 l, .string d] 40) = wb := ⟨_, rfl⟩
      have HXb : Hid (Bx wb wr.heap.size #[.string o, .int .i64 t, .int .i64 c, .int .i64 l, .string d] 40) := hwb ▸ World.alloc_heap_new wr _
      have HBb : Hid (Below w.heap.size w wb) := hwb ▸ HB.out.alloc HB.out.size _
      have v0 : wb.cell? ⟨wr.heap.size, 0, none⟩ = some (.string o) := HXb.out.cell rfl
      have v1 : wb.cell? ⟨wr.heap.size, 1, none⟩ = some (.int .i64 t) := HXb.out.cell rfl
      have v2 : wb.cell? ⟨wr.heap.size, 2, none⟩ = some (.int .i64 c) := HXb.out.cell rfl
      have v3 : wb.cell? ⟨wr.heap.size, 3, none⟩ = some (.int .i64 l) := HXb.out.cell rfl
      have v4 : wb.cell? ⟨wr.heap.size, 4, none⟩ = some (.string d) := HXb.out.cell rfl
      have HC2 := hide' (HC.out wb HBb.out)
      clear HC
      cases hp : P k with
      | true =>
        rw [hp] at HC2
        have HP := hide' hp
        clear hp
        go_wp2_with (go_at_call 49; refine HC2.out.mono ?_; rintro r w2 ⟨rfl, hB2⟩)
        go_ret
        exact ⟨by rw [fstI_some hlt HP.out HN.out]; rfl, bstep HBb.out hB2 HBb.out.size⟩
      | false =>
        rw [hp] at HC2
        have HP := hide' hp
        clear hp
        go_wp2_with (go_at_call 49; refine HC2.out.mono ?_; rintro r w2 ⟨rfl, hB2⟩)
        refine ⟨⟨k + 1, by go_num, by omega, ?_, bstep HBb.out hB2 HBb.out.size⟩, by simp [intOf]; omega⟩
        intro j hj
        rcases Nat.lt_or_ge j k with h | h
        · exact HN.out j h
        · obtain rfl : j = k := by omega
          exact HP.out
    · obtain rfl : k = L.length := by omega
      go_wp2_with fail
      go_ret
      exact ⟨by rw [fstI_none HN.out]; rfl, HB.out⟩
end Go.Proofs.YtbahjpjncopabaaGreat
