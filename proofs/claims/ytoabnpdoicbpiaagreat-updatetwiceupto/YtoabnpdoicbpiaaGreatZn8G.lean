import Derived.Test.YtoabnpdoicbpiaaGreatZn6G
import Derived.Test.YtoabnpdoicbpiaaGreatCmpG
namespace Go.Proofs.YtoabnpdoicbpiaaGreat
set_option linter.unusedVariables false
set_option linter.unusedSimpArgs false
open Go.RowKit Go.Shelf Go.Maps Go.Proofs.YtoabnpdoicbpiaaGreat.Nm
def rcV (r : Rn) : Value := .agg #[.string r.o, .int .i64 r.t, .int .i64 r.c, .int .i64 r.l, .string r.d]
def fstI (P : Nat → Bool) (n : Nat) : Int := match (List.range n).find? P with | some k => (k : Int) | none => -2
theorem fstI_some {P : Nat → Bool} {n k : Nat} (hk : k < n) (hp : P k = true) (hq : ∀ j, j < k → P j = false) : fstI P n = (k : Int) := by
 unfold fstI
 have : (List.range n).find? P = some k := by
  rw [List.find?_range_eq_some]
  exact ⟨hp, by simpa using hk, fun j hj => by rw [hq j hj]; rfl⟩
 rw [this]
theorem fstI_none {P : Nat → Bool} {n : Nat} (hq : ∀ j, j < n → P j = false) : fstI P n = -2 := by
 unfold fstI
 have : (List.range n).find? P = none := by
  rw [List.find?_eq_none]
  intro x hx
  rw [hq x (List.mem_range.1 hx)]
  simp
 rw [this]
set_option maxRecDepth 100000 in
set_option maxHeartbeats 1000000 in
theorem first_isTwice (D : Nat) (L : List Rn) (p : Option Addr) (cap : Nat) (P : Nat → Bool) (w : World) (hL : L.length ≤ 1048576) (hDl : D < w.heap.size) (hd : w.cell? ⟨D, 2, none⟩ = some (.slice p L.length cap)) (hat : RsAt w p L)
  (hf : ∀ (k : Nat) (hk : k < L.length) (W : World), Below w.heap.size w W → Calls Tryz.prog 42 #[.pointer (some ⟨D, 0, none⟩), .int .i64 (k : Int), rcV L[k]] W fun r w' => r = .returned (.bool (P k)) ∧ Below W.heap.size W w') :
  Calls Tryz.prog 41 #[.pointer (some ⟨D, 0, none⟩), .func (Fn.func 42) #[.pointer (some ⟨D, 0, none⟩)] #[]] w fun r w' => r = .returned (.int .i64 (fstI P L.length)) ∧ Below w.heap.size w w' := by
 have HF := hide' hf
 have HAT := hide' hat
 clear hf hat
 go_enter Tryz.func41, Tryz.ntmps41
 go_wp2_with fail
 go_loopw [12] (fun kv wr => ∃ k : Nat, kv = .int .i64 (k : Int) ∧ k ≤ L.length ∧ Hid (∀ j, j < k → P j = false) ∧ Hid (Below w.heap.size w wr)) (fun kv _ => L.length - (intOf kv).toNat)
 case atStart => exact ⟨0, rfl, Nat.zero_le _, (fun j h => absurd h (Nat.not_lt_zero _)), Below.refl _ _⟩
 case round =>
  obtain ⟨k, rfl, hk, HN, HB⟩ := hrel
  by_cases hlt : k < L.length
  ·obtain ⟨g, off, rfl, hg, r0, r1, r2, r3, r4⟩ := HAT.out k hlt
   have hbl := HB.out
   have q0 := (hbl.cell (p := ⟨g, off + k * 5, none⟩) hg).trans r0
   have q1 := (hbl.cell (p := ⟨g, off + k * 5 + 1, none⟩) hg).trans r1
   have q2 := (hbl.cell (p := ⟨g, off + k * 5 + 2, none⟩) hg).trans r2
   have q3 := (hbl.cell (p := ⟨g, off + k * 5 + 3, none⟩) hg).trans r3
   have q4 := (hbl.cell (p := ⟨g, off + k * 5 + 4, none⟩) hg).trans r4
   clear r0 r1 r2 r3 r4 hbl
   have HC : Hid (∀ W, Below w.heap.size w W → Calls Tryz.prog 42 #[.pointer (some ⟨D, 0, none⟩), .int .i64 (k : Int), rcV L[k]] W fun r w' => r = .returned (.bool (P k)) ∧ Below W.heap.size W w') := fun W hW => HF.out k hlt W hW
   obtain ⟨rr, hrr⟩ : ∃ rr, L[k] = rr := ⟨_, rfl⟩
   rw [hrr] at q0 q1 q2 q3 q4 HC
   clear hrr
   obtain ⟨o, t, c, l, d⟩ := rr
   unfold rcV at HC
   simp only at q0 q1 q2 q3 q4 HC
   obtain ⟨wb, hwb⟩ : ∃ wb, wr.alloc (.cells #[.string o, .int .i64 t, .int .i64 c, .int .i64 l, .string d] 29) = wb := ⟨_, rfl⟩
   have HXb : Hid (Bx wb wr.heap.size #[.string o, .int .i64 t, .int .i64 c, .int .i64 l, .string d] 29) := hwb ▸ World.alloc_heap_new wr _
   have HBb : Hid (Below w.heap.size w wb) := hwb ▸ HB.out.alloc HB.out.size _
   have v0 : wb.cell? ⟨wr.heap.size, 0, none⟩ = some (.string o) := HXb.out.cell rfl
   have v1 : wb.cell? ⟨wr.heap.size, 1, none⟩ = some (.int .i64 t) := HXb.out.cell rfl
   have v2 : wb.cell? ⟨wr.heap.size, 2, none⟩ = some (.int .i64 c) := HXb.out.cell rfl
   have v3 : wb.cell? ⟨wr.heap.size, 3, none⟩ = some (.int .i64 l) := HXb.out.cell rfl
   have v4 : wb.cell? ⟨wr.heap.size, 4, none⟩ = some (.string d) := HXb.out.cell rfl
   have HC2 := hide' (HC.out wb HBb.out)
   clear HC
   cases hp : P k with
   | true =>
    rw [hp] at HC2
    have HP := hide' hp
    clear hp
    go_wp2_with (go_at_call 42; refine HC2.out.mono ?_; rintro r w2 ⟨rfl, hB2⟩)
    go_ret
    exact ⟨by rw [fstI_some hlt HP.out HN.out]; rfl, bstep HBb.out hB2 HBb.out.size⟩
   | false =>
    rw [hp] at HC2
    have HP := hide' hp
    clear hp
    go_wp2_with (go_at_call 42; refine HC2.out.mono ?_; rintro r w2 ⟨rfl, hB2⟩)
    refine ⟨⟨k + 1, by go_num, by omega, ?_, bstep HBb.out hB2 HBb.out.size⟩, by simp [intOf]; omega⟩
    intro j hj
    rcases Nat.lt_or_ge j k with h | h
    ·exact HN.out j h
    ·obtain rfl : j = k := by omega
     exact HP.out
  ·obtain rfl : k = L.length := by omega
   go_wp2_with fail
   go_ret
   exact ⟨by rw [fstI_none HN.out]; rfl, HB.out⟩
set_option maxRecDepth 100000 in
set_option maxHeartbeats 1000000 in
theorem first_isStraySoa (D : Nat) (L : List Rn) (p : Option Addr) (cap : Nat) (P : Nat → Bool) (w : World) (hL : L.length ≤ 1048576) (hDl : D < w.heap.size) (hd : w.cell? ⟨D, 2, none⟩ = some (.slice p L.length cap)) (hat : RsAt w p L)
  (hf : ∀ (k : Nat) (hk : k < L.length) (W : World), Below w.heap.size w W → Calls Tryz.prog 43 #[.pointer (some ⟨D, 0, none⟩), .int .i64 (k : Int), rcV L[k]] W fun r w' => r = .returned (.bool (P k)) ∧ Below W.heap.size W w') :
  Calls Tryz.prog 41 #[.pointer (some ⟨D, 0, none⟩), .func (Fn.func 43) #[.pointer (some ⟨D, 0, none⟩)] #[]] w fun r w' => r = .returned (.int .i64 (fstI P L.length)) ∧ Below w.heap.size w w' := by
 have HF := hide' hf
 have HAT := hide' hat
 clear hf hat
 go_enter Tryz.func41, Tryz.ntmps41
 go_wp2_with fail
 go_loopw [12] (fun kv wr => ∃ k : Nat, kv = .int .i64 (k : Int) ∧ k ≤ L.length ∧ Hid (∀ j, j < k → P j = false) ∧ Hid (Below w.heap.size w wr)) (fun kv _ => L.length - (intOf kv).toNat)
 case atStart => exact ⟨0, rfl, Nat.zero_le _, (fun j h => absurd h (Nat.not_lt_zero _)), Below.refl _ _⟩
 case round =>
  obtain ⟨k, rfl, hk, HN, HB⟩ := hrel
  by_cases hlt : k < L.length
  ·obtain ⟨g, off, rfl, hg, r0, r1, r2, r3, r4⟩ := HAT.out k hlt
   have hbl := HB.out
   have q0 := (hbl.cell (p := ⟨g, off + k * 5, none⟩) hg).trans r0
   have q1 := (hbl.cell (p := ⟨g, off + k * 5 + 1, none⟩) hg).trans r1
   have q2 := (hbl.cell (p := ⟨g, off + k * 5 + 2, none⟩) hg).trans r2
   have q3 := (hbl.cell (p := ⟨g, off + k * 5 + 3, none⟩) hg).trans r3
   have q4 := (hbl.cell (p := ⟨g, off + k * 5 + 4, none⟩) hg).trans r4
   clear r0 r1 r2 r3 r4 hbl
   have HC : Hid (∀ W, Below w.heap.size w W → Calls Tryz.prog 43 #[.pointer (some ⟨D, 0, none⟩), .int .i64 (k : Int), rcV L[k]] W fun r w' => r = .returned (.bool (P k)) ∧ Below W.heap.size W w') := fun W hW => HF.out k hlt W hW
   obtain ⟨rr, hrr⟩ : ∃ rr, L[k] = rr := ⟨_, rfl⟩
   rw [hrr] at q0 q1 q2 q3 q4 HC
   clear hrr
   obtain ⟨o, t, c, l, d⟩ := rr
   unfold rcV at HC
   simp only at q0 q1 q2 q3 q4 HC
   obtain ⟨wb, hwb⟩ : ∃ wb, wr.alloc (.cells #[.string o, .int .i64 t, .int .i64 c, .int .i64 l, .string d] 29) = wb := ⟨_, rfl⟩
   have HXb : Hid (Bx wb wr.heap.size #[.string o, .int .i64 t, .int .i64 c, .int .i64 l, .string d] 29) := hwb ▸ World.alloc_heap_new wr _
   have HBb : Hid (Below w.heap.size w wb) := hwb ▸ HB.out.alloc HB.out.size _
   have v0 : wb.cell? ⟨wr.heap.size, 0, none⟩ = some (.string o) := HXb.out.cell rfl
   have v1 : wb.cell? ⟨wr.heap.size, 1, none⟩ = some (.int .i64 t) := HXb.out.cell rfl
   have v2 : wb.cell? ⟨wr.heap.size, 2, none⟩ = some (.int .i64 c) := HXb.out.cell rfl
   have v3 : wb.cell? ⟨wr.heap.size, 3, none⟩ = some (.int .i64 l) := HXb.out.cell rfl
   have v4 : wb.cell? ⟨wr.heap.size, 4, none⟩ = some (.string d) := HXb.out.cell rfl
   have HC2 := hide' (HC.out wb HBb.out)
   clear HC
   cases hp : P k with
   | true =>
    rw [hp] at HC2
    have HP := hide' hp
    clear hp
    go_wp2_with (go_at_call 43; refine HC2.out.mono ?_; rintro r w2 ⟨rfl, hB2⟩)
    go_ret
    exact ⟨by rw [fstI_some hlt HP.out HN.out]; rfl, bstep HBb.out hB2 HBb.out.size⟩
   | false =>
    rw [hp] at HC2
    have HP := hide' hp
    clear hp
    go_wp2_with (go_at_call 43; refine HC2.out.mono ?_; rintro r w2 ⟨rfl, hB2⟩)
    refine ⟨⟨k + 1, by go_num, by omega, ?_, bstep HBb.out hB2 HBb.out.size⟩, by simp [intOf]; omega⟩
    intro j hj
    rcases Nat.lt_or_ge j k with h | h
    ·exact HN.out j h
    ·obtain rfl : j = k := by omega
     exact HP.out
  ·obtain rfl : k = L.length := by omega
   go_wp2_with fail
   go_ret
   exact ⟨by rw [fstI_none HN.out]; rfl, HB.out⟩
set_option maxRecDepth 100000 in
set_option maxHeartbeats 1000000 in
theorem first_isWild (D : Nat) (L : List Rn) (p : Option Addr) (cap : Nat) (P : Nat → Bool) (w : World) (hL : L.length ≤ 1048576) (hDl : D < w.heap.size) (hd : w.cell? ⟨D, 2, none⟩ = some (.slice p L.length cap)) (hat : RsAt w p L)
  (hf : ∀ (k : Nat) (hk : k < L.length) (W : World), Below w.heap.size w W → Calls Tryz.prog 45 #[.pointer (some ⟨D, 0, none⟩), .int .i64 (k : Int), rcV L[k]] W fun r w' => r = .returned (.bool (P k)) ∧ Below W.heap.size W w') :
  Calls Tryz.prog 41 #[.pointer (some ⟨D, 0, none⟩), .func (Fn.func 45) #[.pointer (some ⟨D, 0, none⟩)] #[]] w fun r w' => r = .returned (.int .i64 (fstI P L.length)) ∧ Below w.heap.size w w' := by
 have HF := hide' hf
 have HAT := hide' hat
 clear hf hat
 go_enter Tryz.func41, Tryz.ntmps41
 go_wp2_with fail
 go_loopw [12] (fun kv wr => ∃ k : Nat, kv = .int .i64 (k : Int) ∧ k ≤ L.length ∧ Hid (∀ j, j < k → P j = false) ∧ Hid (Below w.heap.size w wr)) (fun kv _ => L.length - (intOf kv).toNat)
 case atStart => exact ⟨0, rfl, Nat.zero_le _, (fun j h => absurd h (Nat.not_lt_zero _)), Below.refl _ _⟩
 case round =>
  obtain ⟨k, rfl, hk, HN, HB⟩ := hrel
  by_cases hlt : k < L.length
  ·obtain ⟨g, off, rfl, hg, r0, r1, r2, r3, r4⟩ := HAT.out k hlt
   have hbl := HB.out
   have q0 := (hbl.cell (p := ⟨g, off + k * 5, none⟩) hg).trans r0
   have q1 := (hbl.cell (p := ⟨g, off + k * 5 + 1, none⟩) hg).trans r1
   have q2 := (hbl.cell (p := ⟨g, off + k * 5 + 2, none⟩) hg).trans r2
   have q3 := (hbl.cell (p := ⟨g, off + k * 5 + 3, none⟩) hg).trans r3
   have q4 := (hbl.cell (p := ⟨g, off + k * 5 + 4, none⟩) hg).trans r4
   clear r0 r1 r2 r3 r4 hbl
   have HC : Hid (∀ W, Below w.heap.size w W → Calls Tryz.prog 45 #[.pointer (some ⟨D, 0, none⟩), .int .i64 (k : Int), rcV L[k]] W fun r w' => r = .returned (.bool (P k)) ∧ Below W.heap.size W w') := fun W hW => HF.out k hlt W hW
   obtain ⟨rr, hrr⟩ : ∃ rr, L[k] = rr := ⟨_, rfl⟩
   rw [hrr] at q0 q1 q2 q3 q4 HC
   clear hrr
   obtain ⟨o, t, c, l, d⟩ := rr
   unfold rcV at HC
   simp only at q0 q1 q2 q3 q4 HC
   obtain ⟨wb, hwb⟩ : ∃ wb, wr.alloc (.cells #[.string o, .int .i64 t, .int .i64 c, .int .i64 l, .string d] 29) = wb := ⟨_, rfl⟩
   have HXb : Hid (Bx wb wr.heap.size #[.string o, .int .i64 t, .int .i64 c, .int .i64 l, .string d] 29) := hwb ▸ World.alloc_heap_new wr _
   have HBb : Hid (Below w.heap.size w wb) := hwb ▸ HB.out.alloc HB.out.size _
   have v0 : wb.cell? ⟨wr.heap.size, 0, none⟩ = some (.string o) := HXb.out.cell rfl
   have v1 : wb.cell? ⟨wr.heap.size, 1, none⟩ = some (.int .i64 t) := HXb.out.cell rfl
   have v2 : wb.cell? ⟨wr.heap.size, 2, none⟩ = some (.int .i64 c) := HXb.out.cell rfl
   have v3 : wb.cell? ⟨wr.heap.size, 3, none⟩ = some (.int .i64 l) := HXb.out.cell rfl
   have v4 : wb.cell? ⟨wr.heap.size, 4, none⟩ = some (.string d) := HXb.out.cell rfl
   have HC2 := hide' (HC.out wb HBb.out)
   clear HC
   cases hp : P k with
   | true =>
    rw [hp] at HC2
    have HP := hide' hp
    clear hp
    go_wp2_with (go_at_call 45; refine HC2.out.mono ?_; rintro r w2 ⟨rfl, hB2⟩)
    go_ret
    exact ⟨by rw [fstI_some hlt HP.out HN.out]; rfl, bstep HBb.out hB2 HBb.out.size⟩
   | false =>
    rw [hp] at HC2
    have HP := hide' hp
    clear hp
    go_wp2_with (go_at_call 45; refine HC2.out.mono ?_; rintro r w2 ⟨rfl, hB2⟩)
    refine ⟨⟨k + 1, by go_num, by omega, ?_, bstep HBb.out hB2 HBb.out.size⟩, by simp [intOf]; omega⟩
    intro j hj
    rcases Nat.lt_or_ge j k with h | h
    ·exact HN.out j h
    ·obtain rfl : j = k := by omega
     exact HP.out
  ·obtain rfl : k = L.length := by omega
   go_wp2_with fail
   go_ret
   exact ⟨by rw [fstI_none HN.out]; rfl, HB.out⟩
set_option maxRecDepth 100000 in
set_option maxHeartbeats 1000000 in
theorem first_isCrowdedAlias (D : Nat) (L : List Rn) (p : Option Addr) (cap : Nat) (P : Nat → Bool) (w : World) (hL : L.length ≤ 1048576) (hDl : D < w.heap.size) (hd : w.cell? ⟨D, 2, none⟩ = some (.slice p L.length cap)) (hat : RsAt w p L)
  (hf : ∀ (k : Nat) (hk : k < L.length) (W : World), Below w.heap.size w W → Calls Tryz.prog 46 #[.pointer (some ⟨D, 0, none⟩), .int .i64 (k : Int), rcV L[k]] W fun r w' => r = .returned (.bool (P k)) ∧ Below W.heap.size W w') :
  Calls Tryz.prog 41 #[.pointer (some ⟨D, 0, none⟩), .func (Fn.func 46) #[.pointer (some ⟨D, 0, none⟩)] #[]] w fun r w' => r = .returned (.int .i64 (fstI P L.length)) ∧ Below w.heap.size w w' := by
 have HF := hide' hf
 have HAT := hide' hat
 clear hf hat
 go_enter Tryz.func41, Tryz.ntmps41
 go_wp2_with fail
 go_loopw [12] (fun kv wr => ∃ k : Nat, kv = .int .i64 (k : Int) ∧ k ≤ L.length ∧ Hid (∀ j, j < k → P j = false) ∧ Hid (Below w.heap.size w wr)) (fun kv _ => L.length - (intOf kv).toNat)
 case atStart => exact ⟨0, rfl, Nat.zero_le _, (fun j h => absurd h (Nat.not_lt_zero _)), Below.refl _ _⟩
 case round =>
  obtain ⟨k, rfl, hk, HN, HB⟩ := hrel
  by_cases hlt : k < L.length
  ·obtain ⟨g, off, rfl, hg, r0, r1, r2, r3, r4⟩ := HAT.out k hlt
   have hbl := HB.out
   have q0 := (hbl.cell (p := ⟨g, off + k * 5, none⟩) hg).trans r0
   have q1 := (hbl.cell (p := ⟨g, off + k * 5 + 1, none⟩) hg).trans r1
   have q2 := (hbl.cell (p := ⟨g, off + k * 5 + 2, none⟩) hg).trans r2
   have q3 := (hbl.cell (p := ⟨g, off + k * 5 + 3, none⟩) hg).trans r3
   have q4 := (hbl.cell (p := ⟨g, off + k * 5 + 4, none⟩) hg).trans r4
   clear r0 r1 r2 r3 r4 hbl
   have HC : Hid (∀ W, Below w.heap.size w W → Calls Tryz.prog 46 #[.pointer (some ⟨D, 0, none⟩), .int .i64 (k : Int), rcV L[k]] W fun r w' => r = .returned (.bool (P k)) ∧ Below W.heap.size W w') := fun W hW => HF.out k hlt W hW
   obtain ⟨rr, hrr⟩ : ∃ rr, L[k] = rr := ⟨_, rfl⟩
   rw [hrr] at q0 q1 q2 q3 q4 HC
   clear hrr
   obtain ⟨o, t, c, l, d⟩ := rr
   unfold rcV at HC
   simp only at q0 q1 q2 q3 q4 HC
   obtain ⟨wb, hwb⟩ : ∃ wb, wr.alloc (.cells #[.string o, .int .i64 t, .int .i64 c, .int .i64 l, .string d] 29) = wb := ⟨_, rfl⟩
   have HXb : Hid (Bx wb wr.heap.size #[.string o, .int .i64 t, .int .i64 c, .int .i64 l, .string d] 29) := hwb ▸ World.alloc_heap_new wr _
   have HBb : Hid (Below w.heap.size w wb) := hwb ▸ HB.out.alloc HB.out.size _
   have v0 : wb.cell? ⟨wr.heap.size, 0, none⟩ = some (.string o) := HXb.out.cell rfl
   have v1 : wb.cell? ⟨wr.heap.size, 1, none⟩ = some (.int .i64 t) := HXb.out.cell rfl
   have v2 : wb.cell? ⟨wr.heap.size, 2, none⟩ = some (.int .i64 c) := HXb.out.cell rfl
   have v3 : wb.cell? ⟨wr.heap.size, 3, none⟩ = some (.int .i64 l) := HXb.out.cell rfl
   have v4 : wb.cell? ⟨wr.heap.size, 4, none⟩ = some (.string d) := HXb.out.cell rfl
   have HC2 := hide' (HC.out wb HBb.out)
   clear HC
   cases hp : P k with
   | true =>
    rw [hp] at HC2
    have HP := hide' hp
    clear hp
    go_wp2_with (go_at_call 46; refine HC2.out.mono ?_; rintro r w2 ⟨rfl, hB2⟩)
    go_ret
    exact ⟨by rw [fstI_some hlt HP.out HN.out]; rfl, bstep HBb.out hB2 HBb.out.size⟩
   | false =>
    rw [hp] at HC2
    have HP := hide' hp
    clear hp
    go_wp2_with (go_at_call 46; refine HC2.out.mono ?_; rintro r w2 ⟨rfl, hB2⟩)
    refine ⟨⟨k + 1, by go_num, by omega, ?_, bstep HBb.out hB2 HBb.out.size⟩, by simp [intOf]; omega⟩
    intro j hj
    rcases Nat.lt_or_ge j k with h | h
    ·exact HN.out j h
    ·obtain rfl : j = k := by omega
     exact HP.out
  ·obtain rfl : k = L.length := by omega
   go_wp2_with fail
   go_ret
   exact ⟨by rw [fstI_none HN.out]; rfl, HB.out⟩
set_option maxRecDepth 100000 in
set_option maxHeartbeats 1000000 in
theorem first_isWrongGraft (D : Nat) (L : List Rn) (p : Option Addr) (cap : Nat) (P : Nat → Bool) (w : World) (hL : L.length ≤ 1048576) (hDl : D < w.heap.size) (hd : w.cell? ⟨D, 2, none⟩ = some (.slice p L.length cap)) (hat : RsAt w p L)
  (hf : ∀ (k : Nat) (hk : k < L.length) (W : World), Below w.heap.size w W → Calls Tryz.prog 47 #[.pointer (some ⟨D, 0, none⟩), .int .i64 (k : Int), rcV L[k]] W fun r w' => r = .returned (.bool (P k)) ∧ Below W.heap.size W w') :
  Calls Tryz.prog 41 #[.pointer (some ⟨D, 0, none⟩), .func (Fn.func 47) #[.pointer (some ⟨D, 0, none⟩)] #[]] w fun r w' => r = .returned (.int .i64 (fstI P L.length)) ∧ Below w.heap.size w w' := by
 have HF := hide' hf
 have HAT := hide' hat
 clear hf hat
 go_enter Tryz.func41, Tryz.ntmps41
 go_wp2_with fail
 go_loopw [12] (fun kv wr => ∃ k : Nat, kv = .int .i64 (k : Int) ∧ k ≤ L.length ∧ Hid (∀ j, j < k → P j = false) ∧ Hid (Below w.heap.size w wr)) (fun kv _ => L.length - (intOf kv).toNat)
 case atStart => exact ⟨0, rfl, Nat.zero_le _, (fun j h => absurd h (Nat.not_lt_zero _)), Below.refl _ _⟩
 case round =>
  obtain ⟨k, rfl, hk, HN, HB⟩ := hrel
  by_cases hlt : k < L.length
  ·obtain ⟨g, off, rfl, hg, r0, r1, r2, r3, r4⟩ := HAT.out k hlt
   have hbl := HB.out
   have q0 := (hbl.cell (p := ⟨g, off + k * 5, none⟩) hg).trans r0
   have q1 := (hbl.cell (p := ⟨g, off + k * 5 + 1, none⟩) hg).trans r1
   have q2 := (hbl.cell (p := ⟨g, off + k * 5 + 2, none⟩) hg).trans r2
   have q3 := (hbl.cell (p := ⟨g, off + k * 5 + 3, none⟩) hg).trans r3
   have q4 := (hbl.cell (p := ⟨g, off + k * 5 + 4, none⟩) hg).trans r4
   clear r0 r1 r2 r3 r4 hbl
   have HC : Hid (∀ W, Below w.heap.size w W → Calls Tryz.prog 47 #[.pointer (some ⟨D, 0, none⟩), .int .i64 (k : Int), rcV L[k]] W fun r w' => r = .returned (.bool (P k)) ∧ Below W.heap.size W w') := fun W hW => HF.out k hlt W hW
   obtain ⟨rr, hrr⟩ : ∃ rr, L[k] = rr := ⟨_, rfl⟩
   rw [hrr] at q0 q1 q2 q3 q4 HC
   clear hrr
   obtain ⟨o, t, c, l, d⟩ := rr
   unfold rcV at HC
   simp only at q0 q1 q2 q3 q4 HC
   obtain ⟨wb, hwb⟩ : ∃ wb, wr.alloc (.cells #[.string o, .int .i64 t, .int .i64 c, .int .i64 l, .string d] 29) = wb := ⟨_, rfl⟩
   have HXb : Hid (Bx wb wr.heap.size #[.string o, .int .i64 t, .int .i64 c, .int .i64 l, .string d] 29) := hwb ▸ World.alloc_heap_new wr _
   have HBb : Hid (Below w.heap.size w wb) := hwb ▸ HB.out.alloc HB.out.size _
   have v0 : wb.cell? ⟨wr.heap.size, 0, none⟩ = some (.string o) := HXb.out.cell rfl
   have v1 : wb.cell? ⟨wr.heap.size, 1, none⟩ = some (.int .i64 t) := HXb.out.cell rfl
   have v2 : wb.cell? ⟨wr.heap.size, 2, none⟩ = some (.int .i64 c) := HXb.out.cell rfl
   have v3 : wb.cell? ⟨wr.heap.size, 3, none⟩ = some (.int .i64 l) := HXb.out.cell rfl
   have v4 : wb.cell? ⟨wr.heap.size, 4, none⟩ = some (.string d) := HXb.out.cell rfl
   have HC2 := hide' (HC.out wb HBb.out)
   clear HC
   cases hp : P k with
   | true =>
    rw [hp] at HC2
    have HP := hide' hp
    clear hp
    go_wp2_with (go_at_call 47; refine HC2.out.mono ?_; rintro r w2 ⟨rfl, hB2⟩)
    go_ret
    exact ⟨by rw [fstI_some hlt HP.out HN.out]; rfl, bstep HBb.out hB2 HBb.out.size⟩
   | false =>
    rw [hp] at HC2
    have HP := hide' hp
    clear hp
    go_wp2_with (go_at_call 47; refine HC2.out.mono ?_; rintro r w2 ⟨rfl, hB2⟩)
    refine ⟨⟨k + 1, by go_num, by omega, ?_, bstep HBb.out hB2 HBb.out.size⟩, by simp [intOf]; omega⟩
    intro j hj
    rcases Nat.lt_or_ge j k with h | h
    ·exact HN.out j h
    ·obtain rfl : j = k := by omega
     exact HP.out
  ·obtain rfl : k = L.length := by omega
   go_wp2_with fail
   go_ret
   exact ⟨by rw [fstI_none HN.out]; rfl, HB.out⟩
set_option maxRecDepth 100000 in
set_option maxHeartbeats 1000000 in
theorem first_isOfOtherAge (D : Nat) (L : List Rn) (p : Option Addr) (cap : Nat) (P : Nat → Bool) (w : World) (hL : L.length ≤ 1048576) (hDl : D < w.heap.size) (hd : w.cell? ⟨D, 2, none⟩ = some (.slice p L.length cap)) (hat : RsAt w p L)
  (hf : ∀ (k : Nat) (hk : k < L.length) (W : World), Below w.heap.size w W → Calls Tryz.prog 48 #[.pointer (some ⟨D, 0, none⟩), .int .i64 (k : Int), rcV L[k]] W fun r w' => r = .returned (.bool (P k)) ∧ Below W.heap.size W w') :
  Calls Tryz.prog 41 #[.pointer (some ⟨D, 0, none⟩), .func (Fn.func 48) #[.pointer (some ⟨D, 0, none⟩)] #[]] w fun r w' => r = .returned (.int .i64 (fstI P L.length)) ∧ Below w.heap.size w w' := by
 have HF := hide' hf
 have HAT := hide' hat
 clear hf hat
 go_enter Tryz.func41, Tryz.ntmps41
 go_wp2_with fail
 go_loopw [12] (fun kv wr => ∃ k : Nat, kv = .int .i64 (k : Int) ∧ k ≤ L.length ∧ Hid (∀ j, j < k → P j = false) ∧ Hid (Below w.heap.size w wr)) (fun kv _ => L.length - (intOf kv).toNat)
 case atStart => exact ⟨0, rfl, Nat.zero_le _, (fun j h => absurd h (Nat.not_lt_zero _)), Below.refl _ _⟩
 case round =>
  obtain ⟨k, rfl, hk, HN, HB⟩ := hrel
  by_cases hlt : k < L.length
  ·obtain ⟨g, off, rfl, hg, r0, r1, r2, r3, r4⟩ := HAT.out k hlt
   have hbl := HB.out
   have q0 := (hbl.cell (p := ⟨g, off + k * 5, none⟩) hg).trans r0
   have q1 := (hbl.cell (p := ⟨g, off + k * 5 + 1, none⟩) hg).trans r1
   have q2 := (hbl.cell (p := ⟨g, off + k * 5 + 2, none⟩) hg).trans r2
   have q3 := (hbl.cell (p := ⟨g, off + k * 5 + 3, none⟩) hg).trans r3
   have q4 := (hbl.cell (p := ⟨g, off + k * 5 + 4, none⟩) hg).trans r4
   clear r0 r1 r2 r3 r4 hbl
   have HC : Hid (∀ W, Below w.heap.size w W → Calls Tryz.prog 48 #[.pointer (some ⟨D, 0, none⟩), .int .i64 (k : Int), rcV L[k]] W fun r w' => r = .returned (.bool (P k)) ∧ Below W.heap.size W w') := fun W hW => HF.out k hlt W hW
   obtain ⟨rr, hrr⟩ : ∃ rr, L[k] = rr := ⟨_, rfl⟩
   rw [hrr] at q0 q1 q2 q3 q4 HC
   clear hrr
   obtain ⟨o, t, c, l, d⟩ := rr
   unfold rcV at HC
   simp only at q0 q1 q2 q3 q4 HC
   obtain ⟨wb, hwb⟩ : ∃ wb, wr.alloc (.cells #[.string o, .int .i64 t, .int .i64 c, .int .i64 l, .string d] 29) = wb := ⟨_, rfl⟩
   have HXb : Hid (Bx wb wr.heap.size #[.string o, .int .i64 t, .int .i64 c, .int .i64 l, .string d] 29) := hwb ▸ World.alloc_heap_new wr _
   have HBb : Hid (Below w.heap.size w wb) := hwb ▸ HB.out.alloc HB.out.size _
   have v0 : wb.cell? ⟨wr.heap.size, 0, none⟩ = some (.string o) := HXb.out.cell rfl
   have v1 : wb.cell? ⟨wr.heap.size, 1, none⟩ = some (.int .i64 t) := HXb.out.cell rfl
   have v2 : wb.cell? ⟨wr.heap.size, 2, none⟩ = some (.int .i64 c) := HXb.out.cell rfl
   have v3 : wb.cell? ⟨wr.heap.size, 3, none⟩ = some (.int .i64 l) := HXb.out.cell rfl
   have v4 : wb.cell? ⟨wr.heap.size, 4, none⟩ = some (.string d) := HXb.out.cell rfl
   have HC2 := hide' (HC.out wb HBb.out)
   clear HC
   cases hp : P k with
   | true =>
    rw [hp] at HC2
    have HP := hide' hp
    clear hp
    go_wp2_with (go_at_call 48; refine HC2.out.mono ?_; rintro r w2 ⟨rfl, hB2⟩)
    go_ret
    exact ⟨by rw [fstI_some hlt HP.out HN.out]; rfl, bstep HBb.out hB2 HBb.out.size⟩
   | false =>
    rw [hp] at HC2
    have HP := hide' hp
    clear hp
    go_wp2_with (go_at_call 48; refine HC2.out.mono ?_; rintro r w2 ⟨rfl, hB2⟩)
    refine ⟨⟨k + 1, by go_num, by omega, ?_, bstep HBb.out hB2 HBb.out.size⟩, by simp [intOf]; omega⟩
    intro j hj
    rcases Nat.lt_or_ge j k with h | h
    ·exact HN.out j h
    ·obtain rfl : j = k := by omega
     exact HP.out
  ·obtain rfl : k = L.length := by omega
   go_wp2_with fail
   go_ret
   exact ⟨by rw [fstI_none HN.out]; rfl, HB.out⟩
end Go.Proofs.YtoabnpdoicbpiaaGreat
namespace Go.Proofs.YtoabnpdoicbpiaaGreat
set_option linter.unusedVariables false
set_option linter.unusedSimpArgs false
open Go.RowKit Go.Shelf Go.Maps Go.Proofs.YtoabnpdoicbpiaaGreat.Nm
def twiceB (S : List Se) (n k : Nat) : Bool := decide (¬ ((likesF S n (seAt S k)).getD 0 = k))
def wildB (r : Rn) : Bool := (decide (r.t = 2) || decide (r.t = 39)) && isStarB r.o
set_option maxRecDepth 100000 in
set_option maxHeartbeats 1000000 in
theorem isTwice_any {w W : World} {D Z LK FK RW NM B C P g : Nat} {apex fa : ByteArray} {gv rv : Value} {p' : Option Addr} {c' : Nat} {S : List Se} {T : List Rn} {ord : List Nat} {n m : Nat} {rf : Pl → Option (Nat × Nat)} (h : Ly w W D Z LK FK RW NM B C P g apex fa gv (.slice p' n c') rv S T ord n m rf)
  (hn : n = S.length) (hn2 : n ≤ 1048576) (k : Nat) (hk : k < n) (hG : seG (seAt S k)) (r : Rn) :
  Calls Tryz.prog 42 #[.pointer (some ⟨D, 0, none⟩), .int .i64 (k : Int), rcV r] W fun e w' => e = .returned (.bool (twiceB S n k)) ∧ Below W.heap.size W w' := by
 obtain ⟨o, t, c, l, d⟩ := r
 unfold rcV twiceB
 simp only
 obtain ⟨wa, hwa⟩ : ∃ wa, W.alloc (.cells #[.string o, .int .i64 t, .int .i64 c, .int .i64 l, .string d] 29) = wa := ⟨_, rfl⟩
 have hBa : Below W.heap.size W wa := hwa ▸ (Below.refl _ W).alloc (Nat.le_refl _) _
 have HBa := hide' hBa
 have ha := h.step hBa
 obtain ⟨gs, os, hps, hgs, s0, s1, s2⟩ := (ss_own ha.sown) k (by omega)
 rw [seAt_get (by omega)] at s0 s1 s2
 subst hps
 have d3 : wa.cell? ⟨D, 3, none⟩ = some (.slice (some ⟨gs, os, none⟩) n c') := ha.dx.cell rfl
 have d4 : wa.cell? ⟨D, 4, none⟩ = some (.map (some LK)) := ha.dx.cell rfl
 have hl := (ha.step (Below.refl _ wa).drew).lk.look1 hG
 obtain ⟨y, hy⟩ : ∃ y, (likesF S n (seAt S k)).getD 0 = y := ⟨_, rfl⟩
 rw [hy] at hl ⊢
 clear hy
 obtain ⟨s, hs⟩ : ∃ s, seAt S k = s := ⟨_, rfl⟩
 rw [hs] at s0 s1 s2 hl
 clear hs
 obtain ⟨so, st, sd⟩ := s
 unfold seV at hl
 simp only at s0 s1 s2 hl
 have p1 : (0 : Int) ≤ (k : Int) := by omega
 have p2 : (k : Int) < (n : Int) := by omega
 have HEq : Hid ((y : Int) = (k : Int) ↔ y = k) := ⟨fun h => by omega, fun h => by omega⟩
 clear h ha hBa hG hn
 go_enter Tryz.func42, Tryz.ntmps42
 go_wp2_with fail
 go_region_held3 (fun V => V.cell? ⟨D, 3, none⟩ = some (.slice (some ⟨gs, os, none⟩) n c') ∧ V.cell? ⟨D, 4, none⟩ = some (.map (some LK)) ∧ V.cell? ⟨gs, os + k * 3, none⟩ = some (.string so) ∧ V.cell? ⟨gs, os + k * 3 + 1, none⟩ = some (.int .i64 st) ∧ V.cell? ⟨gs, os + k * 3 + 2, none⟩ = some (.string sd)) (first | go_keep) (fail)
 all_goals
  go_wp2_with fail
  go_ret
  refine ⟨?_, HBa.out.drew⟩
  by_cases e : y = k
  ·subst e; simp
  ·have h1 : ¬ (y : Int) = (k : Int) := by omega
   have h2 : ((y : Int) == (k : Int)) = false := by simp [h1]
   simp [e, h2]
   omega
set_option maxRecDepth 100000 in
set_option maxHeartbeats 1000000 in
theorem isWild_any (D k : Nat) (r : Rn) (W : World) (ho : r.o.size ≤ maxLen) :
  Calls Tryz.prog 45 #[.pointer (some ⟨D, 0, none⟩), .int .i64 (k : Int), rcV r] W fun e w' => e = .returned (.bool (wildB r)) ∧ Below W.heap.size W w' := by
 obtain ⟨o, t, c, l, d⟩ := r
 unfold rcV wildB
 simp only at ho ⊢
 obtain ⟨wa, hwa⟩ : ∃ wa, W.alloc (.cells #[.string o, .int .i64 t, .int .i64 c, .int .i64 l, .string d] 29) = wa := ⟨_, rfl⟩
 have HBa : Hid (Below W.heap.size W wa) := hwa ▸ (Below.refl _ W).alloc (Nat.le_refl _) _
 have HXa : Hid (Bx wa W.heap.size #[.string o, .int .i64 t, .int .i64 c, .int .i64 l, .string d] 29) := hwa ▸ World.alloc_heap_new W _
 have v0 : wa.cell? ⟨W.heap.size, 0, none⟩ = some (.string o) := HXa.out.cell rfl
 have v1 : wa.cell? ⟨W.heap.size, 1, none⟩ = some (.int .i64 t) := HXa.out.cell rfl
 have HS := hide' (fun V => isStar_any o V ho)
 obtain ⟨z, hz⟩ : ∃ z, isStarB o = z := ⟨_, rfl⟩
 rw [hz] at HS ⊢
 clear hz
 by_cases h2 : t = 2
 ·subst h2
  go_enter Tryz.func45, Tryz.ntmps45
  go_wp2_with (go_at_call 75; refine (HS.out _).mono ?_; rintro r w2 ⟨rfl, hB2⟩)
  go_ret
  exact ⟨by simp, bstep HBa.out hB2 HBa.out.size⟩
 ·by_cases h3 : t = 39
  ·subst h3
   go_enter Tryz.func45, Tryz.ntmps45
   go_wp2_with (go_at_call 75; refine (HS.out _).mono ?_; rintro r w2 ⟨rfl, hB2⟩)
   go_ret
   exact ⟨by simp, bstep HBa.out hB2 HBa.out.size⟩
  ·go_enter Tryz.func45, Tryz.ntmps45
   go_wp2_with (go_at_call 75; refine (HS.out _).mono ?_; rintro r w2 ⟨rfl, hB2⟩)
   go_ret
   exact ⟨by simp [h2, h3], HBa.out⟩
set_option maxRecDepth 100000 in
set_option maxHeartbeats 1000000 in
theorem has_any (Z RW NM n : Nat) (apex : ByteArray) (rv : Value) (x : Pl) (f : Pl → Option (Nat × Nat)) (w : World) (hZ : Bx w Z #[.string apex, rv, .map (some RW), .map (some NM)] 61) (hR : MRow w RW n f) (hx : plG x) :
  Calls Tryz.prog 74 #[.pointer (some ⟨Z, 0, none⟩), .string x.1, .int .i64 x.2] w fun r w' => r = .returned (.bool (f x).isSome) ∧ Below w.heap.size w w' := by
 obtain ⟨o, t⟩ := x
 have z2 : w.cell? ⟨Z, 2, none⟩ = some (.map (some RW)) := hZ.cell rfl
 have hl := hR.look hx
 unfold plV rwV at hl
 simp only at hl ⊢
 obtain ⟨a, ha⟩ : ∃ a, ((f (o, t)).getD (0, 0)).1 = a := ⟨_, rfl⟩
 obtain ⟨b, hb⟩ : ∃ b, ((f (o, t)).getD (0, 0)).2 = b := ⟨_, rfl⟩
 obtain ⟨q, hq⟩ : ∃ q, (f (o, t)).isSome = q := ⟨_, rfl⟩
 rw [ha, hb, hq] at hl
 rw [hq]
 clear ha hb hq hZ hR
 go_enter Tryz.func74, Tryz.ntmps74
 go_wp2_with fail
 go_ret
 exact ⟨rfl, (Below.refl _ w).alloc (Nat.le_refl _) _⟩
set_option maxRecDepth 100000 in
set_option maxHeartbeats 1000000 in
theorem lack_any {w W : World} {D Z LK FK RW NM B C P g : Nat} {apex fa : ByteArray} {gv sv rv : Value} {S : List Se} {T : List Rn} {ord : List Nat} {n m : Nat} {rf : Pl → Option (Nat × Nat)} (h : Ly w W D Z LK FK RW NM B C P g apex fa gv sv rv S T ord n m rf)
  (t : Int) (hG : plG (fa, t)) :
  Calls Tryz.prog 44 #[.pointer (some ⟨D, 0, none⟩), .int .i64 t] W fun e w' => e = .returned (.int .i64 (if (rf (fa, t)).isSome = true then -2 else -1)) ∧ Below W.heap.size W w' := by
 have HH := hide' (fun V (hV : Below W.heap.size W V) => has_any Z RW NM m apex rv (fa, t) rf V (h.step hV).zx (h.step hV).rw' hG)
 have d0 : W.cell? ⟨D, 0, none⟩ = some (.pointer (some ⟨Z, 0, none⟩)) := h.dx.cell rfl
 have d1 : W.cell? ⟨D, 1, none⟩ = some (.string fa) := h.dx.cell rfl
 have HQ : Hid (∀ V, Below W.heap.size W V → V.cell? ⟨D, 0, none⟩ = some (.pointer (some ⟨Z, 0, none⟩)) ∧ V.cell? ⟨D, 1, none⟩ = some (.string fa)) := fun V hV => ⟨(h.step hV).dx.cell rfl, (h.step hV).dx.cell rfl⟩
 simp only at HH
 have hB := (Below.refl W.heap.size W).drew
 clear h
 cases hq : (rf (fa, t)).isSome with
 | true =>
  rw [hq] at HH
  clear hq
  go_enter Tryz.func44, Tryz.ntmps44
  go_wp2_with fail
  go_region_held3 (fun V => V.cell? ⟨D, 0, none⟩ = some (.pointer (some ⟨Z, 0, none⟩)) ∧ V.cell? ⟨D, 1, none⟩ = some (.string fa)) (first | go_keep | (with_reducible exact HQ.out _ hB)) ((go_at_call 74; refine (HH.out _ hB).mono ?_; rintro r w2 ⟨rfl, hB2⟩; have hB := bstep hB hB2 hB.size; clear hB2))
  all_goals
   go_wp2_with fail
   go_ret
   exact ⟨rfl, hB⟩
 | false =>
  rw [hq] at HH
  clear hq
  go_enter Tryz.func44, Tryz.ntmps44
  go_wp2_with fail
  go_region_held3 (fun V => V.cell? ⟨D, 0, none⟩ = some (.pointer (some ⟨Z, 0, none⟩)) ∧ V.cell? ⟨D, 1, none⟩ = some (.string fa)) (first | go_keep | (with_reducible exact HQ.out _ hB)) ((go_at_call 74; refine (HH.out _ hB).mono ?_; rintro r w2 ⟨rfl, hB2⟩; have hB := bstep hB hB2 hB.size; clear hB2))
  all_goals
   go_wp2_with fail
   go_ret
   exact ⟨rfl, hB⟩
end Go.Proofs.YtoabnpdoicbpiaaGreat
namespace Go.Proofs.YtoabnpdoicbpiaaGreat
set_option linter.unusedVariables false
set_option linter.unusedSimpArgs false
open Go.RowKit Go.Shelf Go.Maps Go.Proofs.YtoabnpdoicbpiaaGreat.Nm
def strayB (S : List Se) (n : Nat) (fa : ByteArray) (r : Rn) (k : Nat) : Bool := decide (r.t = 6) && (decide (¬ (seAt S k).1 = fa) || decide (¬ ((firstF S n (plOf (seAt S k))).getD 0 = k)))
set_option maxRecDepth 100000 in
set_option maxHeartbeats 1000000 in
theorem isStray_any {w W : World} {D Z LK FK RW NM B C P g : Nat} {apex fa : ByteArray} {gv rv : Value} {p' : Option Addr} {c' : Nat} {S : List Se} {T : List Rn} {ord : List Nat} {n m : Nat} {rf : Pl → Option (Nat × Nat)} (h : Ly w W D Z LK FK RW NM B C P g apex fa gv (.slice p' n c') rv S T ord n m rf)
  (hn : n = S.length) (hn2 : n ≤ 1048576) (k : Nat) (hk : k < n) (hG : seG (seAt S k)) (r : Rn) :
  Calls Tryz.prog 43 #[.pointer (some ⟨D, 0, none⟩), .int .i64 (k : Int), rcV r] W fun e w' => e = .returned (.bool (strayB S n fa r k)) ∧ Below W.heap.size W w' := by
 obtain ⟨o, t, c, l, d⟩ := r
 unfold rcV strayB
 simp only
 obtain ⟨wa, hwa⟩ : ∃ wa, W.alloc (.cells #[.string o, .int .i64 t, .int .i64 c, .int .i64 l, .string d] 29) = wa := ⟨_, rfl⟩
 have hBa : Below W.heap.size W wa := hwa ▸ (Below.refl _ W).alloc (Nat.le_refl _) _
 have HBa := hide' hBa
 have HXa : Hid (Bx wa W.heap.size #[.string o, .int .i64 t, .int .i64 c, .int .i64 l, .string d] 29) := hwa ▸ World.alloc_heap_new W _
 have v1 : wa.cell? ⟨W.heap.size, 1, none⟩ = some (.int .i64 t) := HXa.out.cell rfl
 have ha := h.step hBa
 obtain ⟨gs, os, hps, hgs, s0, s1, s2⟩ := (ss_own ha.sown) k (by omega)
 rw [seAt_get (by omega)] at s0 s1 s2
 subst hps
 have d1 : wa.cell? ⟨D, 1, none⟩ = some (.string fa) := ha.dx.cell rfl
 have d3 : wa.cell? ⟨D, 3, none⟩ = some (.slice (some ⟨gs, os, none⟩) n c') := ha.dx.cell rfl
 have d5 : wa.cell? ⟨D, 5, none⟩ = some (.map (some FK)) := ha.dx.cell rfl
 have HLF : Hid (∀ V, Below wa.heap.size wa V → (Instr.lookup 49 (.map (some FK)) (plV (plOf (seAt S k))) false).run Tryz.prog V = .ok (.int .i64 (((firstF S n (plOf (seAt S k))).getD 0 : Nat) : Int)) V) := fun V hV => (ha.step hV).fi.look1 (plG_of hG)
 have HQ : Hid (∀ V, Below wa.heap.size wa V → V.cell? ⟨W.heap.size, 1, none⟩ = some (.int .i64 t) ∧ V.cell? ⟨D, 1, none⟩ = some (.string fa) ∧ V.cell? ⟨D, 3, none⟩ = some (.slice (some ⟨gs, os, none⟩) n c') ∧ V.cell? ⟨D, 5, none⟩ = some (.map (some FK)) ∧ V.cell? ⟨gs, os + k * 3, none⟩ = some (.string (seAt S k).1) ∧ V.cell? ⟨gs, os + k * 3 + 1, none⟩ = some (.int .i64 (seAt S k).2.1) ∧ V.cell? ⟨gs, os + k * 3 + 2, none⟩ = some (.string (seAt S k).2.2)) := fun V hV =>
  ⟨(HXa.out.below hV HXa.out.lt).cell rfl, (ha.step hV).dx.cell rfl, (ha.step hV).dx.cell rfl, (ha.step hV).dx.cell rfl, (hV.cell (p := ⟨gs, os + k * 3, none⟩) hgs).trans s0, (hV.cell (p := ⟨gs, os + k * 3 + 1, none⟩) hgs).trans s1, (hV.cell (p := ⟨gs, os + k * 3 + 2, none⟩) hgs).trans s2⟩
 obtain ⟨y, hy⟩ : ∃ y, (firstF S n (plOf (seAt S k))).getD 0 = y := ⟨_, rfl⟩
 rw [hy] at HLF ⊢
 clear hy
 have HPl := hide' (fun V => placeOf_any (seAt S k) V)
 obtain ⟨s, hs⟩ : ∃ s, seAt S k = s := ⟨_, rfl⟩
 rw [hs] at s0 s1 s2 HLF HQ HPl ⊢
 clear hs
 obtain ⟨so, st, sd⟩ := s
 simp only [seV, plV, plOf] at s0 s1 s2 HLF HQ HPl ⊢
 have p1 : (0 : Int) ≤ (k : Int) := by omega
 have p2 : (k : Int) < (n : Int) := by omega
 have hB := (Below.refl wa.heap.size wa).drew
 clear h ha hBa hG hn
 by_cases h6 : t = 6
 ·subst h6
  by_cases ho : so = fa
  ·subst ho
   have hoe : (so.toList == so.toList) = true := by simp
   go_enter Tryz.func43, Tryz.ntmps43
   go_wp2_with fail
   go_region_held3 (fun V => V.cell? ⟨W.heap.size, 1, none⟩ = some (.int .i64 6) ∧ V.cell? ⟨D, 1, none⟩ = some (.string so) ∧ V.cell? ⟨D, 3, none⟩ = some (.slice (some ⟨gs, os, none⟩) n c') ∧ V.cell? ⟨D, 5, none⟩ = some (.map (some FK)) ∧ V.cell? ⟨gs, os + k * 3, none⟩ = some (.string so) ∧ V.cell? ⟨gs, os + k * 3 + 1, none⟩ = some (.int .i64 st) ∧ V.cell? ⟨gs, os + k * 3 + 2, none⟩ = some (.string sd)) (first | go_keep | (with_reducible exact HQ.out _ hB)) ((go_at_call 39; refine (HPl.out _).mono ?_; rintro r w2 ⟨rfl, hB2⟩; have hB := below_any hB hB2 (by first | exact .inl rfl | exact .inr rfl) hB.size; have hlf := HLF.out _ hB; clear hB2))
   all_goals
    go_wp2_with fail
    go_ret
    refine ⟨?_, bstep HBa.out hB HBa.out.size⟩
    by_cases e : y = k
    ·subst e; simp
    ·have h1 : ¬ (y : Int) = (k : Int) := by omega
     simp [e, h1]
     try omega
  ·have hoe : (so.toList == fa.toList) = false := by rw [toList_bt]; exact decide_eq_false ho
   go_enter Tryz.func43, Tryz.ntmps43
   go_wp2_with fail
   go_region
   all_goals
    go_wp2_with fail
    go_ret
    exact ⟨by simp [ho], HBa.out.drew⟩
 ·have h6b : (t == 6) = false := by simp [h6]
  have h6d : decide (t = 6) = false := decide_eq_false h6
  go_enter Tryz.func43, Tryz.ntmps43
  go_wp2_with fail
  go_region
  all_goals
   go_wp2_with fail
   go_ret
   exact ⟨by simp [h6], HBa.out.drew⟩
end Go.Proofs.YtoabnpdoicbpiaaGreat
namespace Go.Proofs.YtoabnpdoicbpiaaGreat
set_option linter.unusedVariables false
set_option linter.unusedSimpArgs false
open Go.RowKit Go.Shelf Go.Maps Go.Proofs.YtoabnpdoicbpiaaGreat.Nm
def ageB (S : List Se) (L : List Rn) (n : Nat) (r : Rn) (k : Nat) : Bool := decide (¬ r.t = 46) && decide (¬ r.l = (rAt L ((firstF S n (plOf (seAt S k))).getD 0)).l)
set_option maxRecDepth 100000 in
set_option maxHeartbeats 1000000 in
theorem isAge_any {w W : World} {D Z LK FK RW NM B C P g : Nat} {apex fa : ByteArray} {rv : Value} {p p' : Option Addr} {cap c' : Nat} {S : List Se} {L T : List Rn} {ord : List Nat} {n m : Nat} {rf : Pl → Option (Nat × Nat)} (h : Ly w W D Z LK FK RW NM B C P g apex fa (.slice p n cap) (.slice p' n c') rv S T ord n m rf)
  (hat : RsAt w p L) (hnL : n = L.length) (hn : n = S.length) (hn2 : n ≤ 1048576) (k : Nat) (hk : k < n) (hG : seG (seAt S k)) (hy0 : (firstF S n (plOf (seAt S k))).getD 0 < n) (r : Rn) :
  Calls Tryz.prog 48 #[.pointer (some ⟨D, 0, none⟩), .int .i64 (k : Int), rcV r] W fun e w' => e = .returned (.bool (ageB S L n r k)) ∧ Below W.heap.size W w' := by
 obtain ⟨o, t, c, l, d⟩ := r
 unfold rcV ageB
 simp only
 obtain ⟨wa, hwa⟩ : ∃ wa, W.alloc (.cells #[.string o, .int .i64 t, .int .i64 c, .int .i64 l, .string d] 29) = wa := ⟨_, rfl⟩
 have hBa : Below W.heap.size W wa := hwa ▸ (Below.refl _ W).alloc (Nat.le_refl _) _
 have HBa := hide' hBa
 have HXa : Hid (Bx wa W.heap.size #[.string o, .int .i64 t, .int .i64 c, .int .i64 l, .string d] 29) := hwa ▸ World.alloc_heap_new W _
 have v1 : wa.cell? ⟨W.heap.size, 1, none⟩ = some (.int .i64 t) := HXa.out.cell rfl
 have v3 : wa.cell? ⟨W.heap.size, 3, none⟩ = some (.int .i64 l) := HXa.out.cell rfl
 have ha := h.step hBa
 obtain ⟨gs, os, hps, hgs, s0, s1, s2⟩ := (ss_own ha.sown) k (by omega)
 rw [seAt_get (by omega)] at s0 s1 s2
 subst hps
 obtain ⟨y, hy⟩ : ∃ y, (firstF S n (plOf (seAt S k))).getD 0 = y := ⟨_, rfl⟩
 rw [hy] at hy0
 obtain ⟨gr, or', hpr, hgr, r0, r1, r2, r3, r4⟩ := hat y (by omega)
 clear r0 r1 r2 r4
 rw [rAt_get (by omega)] at r3
 subst hpr
 have hbl := ha.bl
 have q3 := (hbl.cell (p := ⟨gr, or' + y * 5 + 3, none⟩) hgr).trans r3
 have hgra : gr < wa.heap.size := Nat.lt_of_lt_of_le hgr hbl.size
 have d2 : wa.cell? ⟨D, 2, none⟩ = some (.slice (some ⟨gr, or', none⟩) n cap) := ha.dx.cell rfl
 have d3 : wa.cell? ⟨D, 3, none⟩ = some (.slice (some ⟨gs, os, none⟩) n c') := ha.dx.cell rfl
 have d5 : wa.cell? ⟨D, 5, none⟩ = some (.map (some FK)) := ha.dx.cell rfl
 have HLF : Hid (∀ V, Below wa.heap.size wa V → (Instr.lookup 49 (.map (some FK)) (plV (plOf (seAt S k))) false).run Tryz.prog V = .ok (.int .i64 (y : Int)) V) := fun V hV => by
  have := (ha.step hV).fi.look1 (plG_of hG)
  rw [hy] at this
  exact this
 have HQ : Hid (∀ V, Below wa.heap.size wa V → V.cell? ⟨W.heap.size, 1, none⟩ = some (.int .i64 t) ∧ V.cell? ⟨W.heap.size, 3, none⟩ = some (.int .i64 l) ∧ V.cell? ⟨D, 2, none⟩ = some (.slice (some ⟨gr, or', none⟩) n cap) ∧ V.cell? ⟨D, 3, none⟩ = some (.slice (some ⟨gs, os, none⟩) n c') ∧ V.cell? ⟨D, 5, none⟩ = some (.map (some FK)) ∧ V.cell? ⟨gs, os + k * 3, none⟩ = some (.string (seAt S k).1) ∧ V.cell? ⟨gs, os + k * 3 + 1, none⟩ = some (.int .i64 (seAt S k).2.1) ∧ V.cell? ⟨gs, os + k * 3 + 2, none⟩ = some (.string (seAt S k).2.2) ∧ V.cell? ⟨gr, or' + y * 5 + 3, none⟩ = some (.int .i64 (rAt L y).l)) := fun V hV =>
  ⟨(HXa.out.below hV HXa.out.lt).cell rfl, (HXa.out.below hV HXa.out.lt).cell rfl, (ha.step hV).dx.cell rfl, (ha.step hV).dx.cell rfl, (ha.step hV).dx.cell rfl, (hV.cell (p := ⟨gs, os + k * 3, none⟩) hgs).trans s0, (hV.cell (p := ⟨gs, os + k * 3 + 1, none⟩) hgs).trans s1, (hV.cell (p := ⟨gs, os + k * 3 + 2, none⟩) hgs).trans s2, (hV.cell (p := ⟨gr, or' + y * 5 + 3, none⟩) hgra).trans q3⟩
 rw [hy]
 clear hy
 have HPl := hide' (fun V => placeOf_any (seAt S k) V)
 obtain ⟨s, hs⟩ : ∃ s, seAt S k = s := ⟨_, rfl⟩
 obtain ⟨z, hz⟩ : ∃ z, (rAt L y).l = z := ⟨_, rfl⟩
 rw [hz] at q3 HQ ⊢
 rw [hs] at s0 s1 s2 HLF HQ HPl
 clear hs hz
 obtain ⟨so, st, sd⟩ := s
 simp only [seV, plV, plOf] at s0 s1 s2 HLF HQ HPl ⊢
 have p1 : (0 : Int) ≤ (k : Int) := by omega
 have p2 : (k : Int) < (n : Int) := by omega
 have p3 : (0 : Int) ≤ (y : Int) := by omega
 have p4 : (y : Int) < (n : Int) := by omega
 have hB := (Below.refl wa.heap.size wa).drew
 clear h ha hBa hG hn hat hnL r3 hbl
 by_cases h6 : t = 46
 ·have h6b : (t == 46) = true := by simp [h6]
  subst h6
  have h6n : ((46 : Int) != 46) = false := rfl
  clear h6b
  go_enter Tryz.func48, Tryz.ntmps48
  go_wp2_with fail
  go_region
  all_goals
   go_wp2_with fail
   go_ret
   exact ⟨by simp, HBa.out.drew⟩
 ·have h6b : (t == 46) = false := by simp [h6]
  have h6n : (t != 46) = true := by simp [h6]
  go_enter Tryz.func48, Tryz.ntmps48
  go_wp2_with fail
  go_region_held3 (fun V => V.cell? ⟨W.heap.size, 1, none⟩ = some (.int .i64 t) ∧ V.cell? ⟨W.heap.size, 3, none⟩ = some (.int .i64 l) ∧ V.cell? ⟨D, 2, none⟩ = some (.slice (some ⟨gr, or', none⟩) n cap) ∧ V.cell? ⟨D, 3, none⟩ = some (.slice (some ⟨gs, os, none⟩) n c') ∧ V.cell? ⟨D, 5, none⟩ = some (.map (some FK)) ∧ V.cell? ⟨gs, os + k * 3, none⟩ = some (.string so) ∧ V.cell? ⟨gs, os + k * 3 + 1, none⟩ = some (.int .i64 st) ∧ V.cell? ⟨gs, os + k * 3 + 2, none⟩ = some (.string sd) ∧ V.cell? ⟨gr, or' + y * 5 + 3, none⟩ = some (.int .i64 z)) (first | go_keep | (with_reducible exact HQ.out _ hB)) ((go_at_call 39; refine (HPl.out _).mono ?_; rintro r w2 ⟨rfl, hB2⟩; have hB := below_any hB hB2 (by first | exact .inl rfl | exact .inr rfl) hB.size; have hlf := HLF.out _ hB; clear hB2))
  all_goals
   go_wp2_with fail
   go_ret
   refine ⟨?_, bstep HBa.out hB HBa.out.size⟩
   by_cases e : l = z
   ·subst e; simp
   ·simp [e, h6]
end Go.Proofs.YtoabnpdoicbpiaaGreat
