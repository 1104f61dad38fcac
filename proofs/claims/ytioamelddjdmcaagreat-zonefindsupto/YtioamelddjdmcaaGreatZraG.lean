import Derived.Test.YtioamelddjdmcaaGreatZr3G
import Derived.Test.YtioamelddjdmcaaGreatZr8G
import Derived.Test.YtioamelddjdmcaaGreatZp4G
namespace Go.Proofs.YtioamelddjdmcaaGreat
set_option linter.unusedVariables false
set_option linter.unusedSimpArgs false
open Go.RowKit Go.Shelf Go.Maps Go.Proofs.YtioamelddjdmcaaGreat.Nm

theorem breaks_any (apex : ByteArray) (L : List Rn) (p : Option Addr) (cap k rule : Nat) (w : World) (hL : L.length ≤ 1048576) (hat : RsAt w p L) (hs : ∀ j, j < L.length → rSm (rAt L j)) (hap : apex.size ≤ 1048576) (hk : k < L.length) (h2 : 2 ≤ rule) (h10 : rule ≤ 10) :
    Calls Tryz.prog 41 #[.int .i64 (rule : Int), .string apex, .slice p L.length cap, .int .i64 (k : Int)] w fun r w' => r = .returned (.bool (brkB apex L rule k)) ∧ Below w.heap.size w w' := by
  have hc : rule = 2 ∨ rule = 3 ∨ rule = 4 ∨ rule = 5 ∨ rule = 6 ∨ rule = 7 ∨ rule = 8 ∨ rule = 9 ∨ rule = 10 := by omega
  rcases hc with rfl | rfl | rfl | rfl | rfl | rfl | rfl | rfl | rfl
  · exact brk2_any apex L p cap k w hL hat hs hap hk
  · exact brk3_any apex L p cap k w hL hat hs hap hk
  · exact brk4_any apex L p cap k w hL hat hs hap hk
  · exact brk5_any apex L p cap k w hL hat hs hap hk
  · exact brk6_any apex L p cap k w hL hat hs hap hk
  · exact brk7_any apex L p cap k w hL hat hs hap hk
  · exact brk8_any apex L p cap k w hL hat hs hap hk
  · exact brk9_any apex L p cap k w hL hat hs hap hk
  · exact brk10_any apex L p cap k w hL hat hs hap hk

def mkM (apex : ByteArray) (L : List Rn) : List (Int × Int) :=
  (8, fstI (brkB apex L 2) L.length) :: (5, fstI (brkB apex L 3) L.length) :: fltM apex L
def posR (rule : Nat) : Nat := if rule ≤ 5 then rule - 2 else rule - 1
def preR (apex : ByteArray) (L : List Rn) (rule : Nat) : Prop := ∀ i, (hi : i < (mkM apex L).length) → i < posR rule → (mkM apex L)[i].2 = -2
theorem mkM_len (apex : ByteArray) (L : List Rn) : (mkM apex L).length = 10 := rfl
def codR (rule : Nat) : Int := if rule = 2 then 8 else if rule = 3 then 5 else if rule = 4 then 19 else if rule = 5 then 15 else if rule = 7 then 22 else if rule = 8 then 17 else if rule = 9 then 18 else if rule = 10 then 21 else 0
theorem fst_kept {P : Nat → Bool} {n : Nat} (h : ∀ j, j < n → P j = false) : fstI P n = -2 := fstI_none h
theorem fst_not {k : Nat} : ¬ ((k : Int) = -2) := by omega
theorem pre_hit {apex : ByteArray} {L : List Rn} {rule k : Nat} (h2 : 2 ≤ rule) (h10 : rule ≤ 10) (hp : preR apex L rule) (hk : k < L.length) (hb : brkB apex L rule k = true) (hn : ∀ j, j < k → brkB apex L rule j = false) : fltR (mkM apex L) = ((k : Int), codR rule) := by
  have hf : fstI (brkB apex L rule) L.length = (k : Int) := fstI_some hk hb hn
  have hc : rule = 2 ∨ rule = 3 ∨ rule = 4 ∨ rule = 5 ∨ rule = 6 ∨ rule = 7 ∨ rule = 8 ∨ rule = 9 ∨ rule = 10 := by omega
  have go : ∀ (i : Nat) (hi : i < (mkM apex L).length), i = posR rule → (mkM apex L)[i] = (codR rule, (k : Int)) → fltR (mkM apex L) = ((k : Int), codR rule) := fun i hi he hv => by
    have := flt_some (M := mkM apex L) hi (by rw [hv]; exact fst_not) (fun j hj hji => hp j hj (by omega))
    rw [hv] at this
    exact this
  rcases hc with rfl | rfl | rfl | rfl | rfl | rfl | rfl | rfl | rfl
  · exact go 0 (by rw [mkM_len]; omega) rfl (by show (8, fstI (brkB apex L 2) L.length) = _; rw [hf]; rfl)
  · exact go 1 (by rw [mkM_len]; omega) rfl (by show (5, fstI (brkB apex L 3) L.length) = _; rw [hf]; rfl)
  · exact go 2 (by rw [mkM_len]; omega) rfl (by show (19, fstI (brkB apex L 4) L.length) = _; rw [hf]; rfl)
  · exact go 3 (by rw [mkM_len]; omega) rfl (by show (15, fstI (brkB apex L 5) L.length) = _; rw [hf]; rfl)
  · exact absurd hb (by simp [brkB])
  · exact go 6 (by rw [mkM_len]; omega) rfl (by show (22, fstI (brkB apex L 7) L.length) = _; rw [hf]; rfl)
  · exact go 7 (by rw [mkM_len]; omega) rfl (by show (17, fstI (brkB apex L 8) L.length) = _; rw [hf]; rfl)
  · exact go 8 (by rw [mkM_len]; omega) rfl (by show (18, fstI (brkB apex L 9) L.length) = _; rw [hf]; rfl)
  · exact go 9 (by rw [mkM_len]; omega) rfl (by show (21, fstI (brkB apex L 10) L.length) = _; rw [hf]; rfl)
theorem pre_step {apex : ByteArray} {L : List Rn} {rule : Nat} {v : Int × Int} (hp : preR apex L rule) (h : ∀ (hi : posR rule < (mkM apex L).length), (mkM apex L)[posR rule].2 = -2) : ∀ i, (hi : i < (mkM apex L).length) → i < posR rule + 1 → (mkM apex L)[i].2 = -2 := fun i hi hl => by
  rcases Nat.lt_or_ge i (posR rule) with h' | h'
  · exact hp i hi h'
  · obtain rfl : i = posR rule := by omega
    exact h hi
theorem pre_next {apex : ByteArray} {L : List Rn} {rule : Nat} (h2 : 2 ≤ rule) (h10 : rule ≤ 10) (h5 : rule ≠ 5) (h6 : rule ≠ 6) (hp : preR apex L rule) (hn : ∀ j, j < L.length → brkB apex L rule j = false) : preR apex L (rule + 1) := by
  have hf := fst_kept hn
  have hc : rule = 2 ∨ rule = 3 ∨ rule = 4 ∨ rule = 7 ∨ rule = 8 ∨ rule = 9 ∨ rule = 10 := by omega
  have key : ∀ (i : Nat), i = posR rule → posR (rule + 1) = i + 1 → (∀ (hi : i < (mkM apex L).length), (mkM apex L)[i].2 = -2) → preR apex L (rule + 1) := fun i he hs h => by
    intro j hj hjl
    rw [hs] at hjl
    rcases Nat.lt_or_ge j i with h' | h'
    · exact hp j hj (by omega)
    · obtain rfl : j = i := by omega
      exact h hj
  rcases hc with rfl | rfl | rfl | rfl | rfl | rfl | rfl
  · exact key 0 rfl rfl fun _ => hf
  · exact key 1 rfl rfl fun _ => hf
  · exact key 2 rfl rfl fun _ => hf
  · exact key 6 rfl rfl fun _ => hf
  · exact key 7 rfl rfl fun _ => hf
  · exact key 8 rfl rfl fun _ => hf
  · exact key 9 rfl rfl fun _ => hf
theorem pre_five {apex : ByteArray} {L : List Rn} (hp : preR apex L 5) (hn : ∀ j, j < L.length → brkB apex L 5 j = false) (hh : hasB L apex 6 = true) : preR apex L 6 := by
  have hf := fst_kept hn
  intro j hj hjl
  rcases Nat.lt_or_ge j 3 with h' | h'
  · exact hp j hj h'
  · have hc : j = 3 ∨ j = 4 := by
      have : posR 6 = 5 := rfl
      omega
    rcases hc with rfl | rfl
    · exact hf
    · show (if hasB L apex 6 = true then (-2 : Int) else -1) = -2
      rw [if_pos hh]
theorem pre_five_no {apex : ByteArray} {L : List Rn} (hp : preR apex L 5) (hn : ∀ j, j < L.length → brkB apex L 5 j = false) (hh : hasB L apex 6 = false) : fltR (mkM apex L) = (-1, 15) := by
  have hf := fst_kept hn
  have hv : (mkM apex L)[4]'(by rw [mkM_len]; omega) = ((15 : Int), (-1 : Int)) := by
    show ((15 : Int), if hasB L apex 6 = true then (-2 : Int) else -1) = _
    rw [if_neg (by simp [hh])]
  have := flt_some (M := mkM apex L) (j := 4) (by rw [mkM_len]; omega) (by rw [hv]; decide) (fun j hj hj4 => by
    rcases Nat.lt_or_ge j 3 with h' | h'
    · exact hp j hj h'
    · obtain rfl : j = 3 := by omega
      exact hf)
  rw [hv] at this
  exact this
theorem pre_six {apex : ByteArray} {L : List Rn} (hp : preR apex L 6) (hh : hasB L apex 2 = true) : preR apex L 7 := by
  intro j hj hjl
  rcases Nat.lt_or_ge j 5 with h' | h'
  · exact hp j hj h'
  · obtain rfl : j = 5 := by
      have : posR 7 = 6 := rfl
      omega
    show (if hasB L apex 2 = true then (-2 : Int) else -1) = -2
    rw [if_pos hh]
theorem pre_six_no {apex : ByteArray} {L : List Rn} (hp : preR apex L 6) (hh : hasB L apex 2 = false) : fltR (mkM apex L) = (-1, 16) := by
  have hv : (mkM apex L)[5]'(by rw [mkM_len]; omega) = ((16 : Int), (-1 : Int)) := by
    show ((16 : Int), if hasB L apex 2 = true then (-2 : Int) else -1) = _
    rw [if_neg (by simp [hh])]
  have := flt_some (M := mkM apex L) (j := 5) (by rw [mkM_len]; omega) (by rw [hv]; decide) (fun j hj hj4 => hp j hj hj4)
  rw [hv] at this
  exact this
theorem pre_all {apex : ByteArray} {L : List Rn} (hp : preR apex L 11) : fltR (mkM apex L) = (0, 0) := flt_none fun i hi => hp i hi (by rw [mkM_len] at hi; exact hi)
theorem pre_two (apex : ByteArray) (L : List Rn) : preR apex L 2 := fun i _ h => absurd (show i < 0 from h) (by omega)
end Go.Proofs.YtioamelddjdmcaaGreat

namespace Go.Proofs.YtioamelddjdmcaaGreat
set_option linter.unusedVariables false
set_option linter.unusedSimpArgs false
open Go.RowKit Go.Shelf Go.Maps Go.Proofs.YtioamelddjdmcaaGreat.Nm

def idxI (P : Nat → Bool) (n : Nat) : Int := if fstI P n = -2 then -1 else fstI P n
theorem idx_some {P : Nat → Bool} {n k : Nat} (hk : k < n) (hp : P k = true) (hq : ∀ j, j < k → P j = false) : idxI P n = (k : Int) := by
  unfold idxI; rw [fstI_some hk hp hq, if_neg (by omega)]
theorem idx_none {P : Nat → Bool} {n : Nat} (hq : ∀ j, j < n → P j = false) : idxI P n = -1 := by
  unfold idxI; rw [fstI_none hq, if_pos rfl]

set_option maxRecDepth 100000 in
set_option maxHeartbeats 1000000 in
theorem zIsWrong_any (r : Rn) (w : World) (hs : rSm r) :
    Calls Tryz.prog 35 #[rcV r] w fun e w' => e = .returned (.bool (brk2 r)) ∧ Below w.heap.size w w' := by
  obtain ⟨o, t, c, l, d⟩ := r
  have HR := hide' (fun V => isRecord_any o d t c l V (by have := hs.1; unfold maxLen; simp only at this; omega) (by have := hs.2; simp only at this; omega))
  unfold rcV brk2
  simp only
  obtain ⟨z, hz⟩ : ∃ z, zonB o d t c l = z := ⟨_, rfl⟩
  rw [hz] at HR ⊢
  clear hz
  go_enter Tryz.func35, Tryz.ntmps35
  go_wp2_with (go_at_call 72; refine (HR.out _).mono ?_; rintro e w1 ⟨rfl, hB1⟩)
  go_ret
  exact ⟨rfl, bstep ((Below.refl _ w).alloc (Nat.le_refl _) _) hB1 (by simp)⟩

set_option maxRecDepth 100000 in
set_option maxHeartbeats 1000000 in
theorem zOutside_any (apex : ByteArray) (P : Nat) (r : Rn) (w : World) (hs : rSm r) (ha : apex.size ≤ 1048576) (hP : w.cell? ⟨P, 0, none⟩ = some (.string apex)) (hPl : P < w.heap.size) :
    Calls Tryz.prog 36 #[rcV r, .pointer (some ⟨P, 0, none⟩)] w fun e w' => e = .returned (.bool (brk3 apex r)) ∧ Below w.heap.size w w' := by
  have K0 := hide' (Bk.start w r)
  have HW := hide' (fun V => within_any r.o apex V (by have := hs.1; unfold maxLen; omega) (by unfold maxLen; omega))
  obtain ⟨wa, hwa⟩ : ∃ wa, w.alloc (.cells #[.string r.o, .int .i64 r.t, .int .i64 r.c, .int .i64 r.l, .string r.d] 54) = wa := ⟨_, rfl⟩
  rw [hwa] at K0
  obtain ⟨v0, v1, v2, v3, v4⟩ := K0.out.cells
  have hP' : wa.cell? ⟨P, 0, none⟩ = some (.string apex) := (K0.out.bl.cell (p := ⟨P, 0, none⟩) hPl).trans hP
  obtain ⟨o, t, c, l, d⟩ := r
  unfold rcV brk3
  simp only at v0 v1 v2 v3 v4 HW hwa ⊢
  go_enter Tryz.func36, Tryz.ntmps36
  go_wp2_with (go_at_call 28; refine (HW.out _).mono ?_; rintro e w1 ⟨rfl, hB1⟩)
  go_ret
  exact ⟨rfl, bstep K0.out.bl hB1 K0.out.bl.size⟩

set_option maxRecDepth 100000 in
set_option maxHeartbeats 1000000 in
theorem indexWrong_any (L : List Rn) (p : Option Addr) (cap : Nat) (P : Nat → Bool) (w : World) (hL : L.length ≤ 1048576) (hat : RsAt w p L)
    (hf : ∀ (k : Nat), k < L.length → ∀ W, Below w.heap.size w W → Calls Tryz.prog 35 #[rcV (rAt L k)] W fun r w' => r = .returned (.bool (P k)) ∧ Below W.heap.size W w') :
    Calls Tryz.prog 34 #[.slice p L.length cap, .func (Fn.func 35) #[] #[]] w fun r w' => r = .returned (.int .i64 (idxI P L.length)) ∧ Below w.heap.size w w' := by
  have HF := hide' hf
  have HA := hide' hat
  clear hf hat
  go_enter Tryz.func34, Tryz.ntmps34
  go_wp2_with fail
  go_loopw [8] (fun i wr => ∃ k : Nat, i = .int .i64 (k : Int) ∧ k ≤ L.length ∧ Hid (∀ j, j < k → P j = false) ∧ Below w.heap.size w wr) (fun i _ => L.length - (intOf i).toNat)
  case atStart => exact ⟨0, rfl, Nat.zero_le _, (fun j h => absurd h (Nat.not_lt_zero _)), Below.refl _ _⟩
  case round =>
    obtain ⟨k, rfl, hk, HN, hBr⟩ := hrel
    have HBr := hide' hBr
    by_cases hlt : k < L.length
    · obtain ⟨g, off, hp⟩ := rs_at HA.out hlt
      subst hp
      obtain ⟨e0, e1, e2, e3, e4⟩ := rs_cells HA.out rfl hlt hBr
      have HC := hide' (HF.out k hlt wr hBr)
      obtain ⟨x, hx⟩ : ∃ x, rAt L k = x := ⟨_, rfl⟩
      rw [hx] at HC e0 e1 e2 e3 e4
      clear hx hBr
      unfold rcV at HC
      cases hp : P k with
      | true =>
        rw [hp] at HC
        have HP := hide' (idx_some hlt hp HN.out)
        clear hp
        go_wp2_with (go_at_call 35; refine HC.out.mono ?_; rintro r w2 ⟨rfl, hB2⟩)
        go_ret
        exact ⟨by rw [HP.out]; rfl, bstep HBr.out hB2 HBr.out.size⟩
      | false =>
        rw [hp] at HC
        have HP := hide' (up_to HN.out hp)
        clear hp
        go_wp2_with (go_at_call 35; refine HC.out.mono ?_; rintro r w2 ⟨rfl, hB2⟩)
        exact ⟨⟨k + 1, by go_num, by omega, HP, bstep HBr.out hB2 HBr.out.size⟩, by simp [intOf]; omega⟩
    · obtain rfl : k = L.length := by omega
      have HP := hide' (idx_none HN.out)
      go_wp2_with fail
      go_ret
      exact ⟨by rw [HP.out]; rfl, HBr.out⟩

set_option maxRecDepth 100000 in
set_option maxHeartbeats 1000000 in
theorem indexOutside_any (L : List Rn) (p : Option Addr) (cap : Nat) (cv : Value) (P : Nat → Bool) (w : World) (hL : L.length ≤ 1048576) (hat : RsAt w p L)
    (hf : ∀ (k : Nat), k < L.length → ∀ W, Below w.heap.size w W → Calls Tryz.prog 36 #[rcV (rAt L k), cv] W fun r w' => r = .returned (.bool (P k)) ∧ Below W.heap.size W w') :
    Calls Tryz.prog 34 #[.slice p L.length cap, .func (Fn.func 36) #[] #[cv]] w fun r w' => r = .returned (.int .i64 (idxI P L.length)) ∧ Below w.heap.size w w' := by
  have HF := hide' hf
  have HA := hide' hat
  clear hf hat
  go_enter Tryz.func34, Tryz.ntmps34
  go_wp2_with fail
  go_loopw [8] (fun i wr => ∃ k : Nat, i = .int .i64 (k : Int) ∧ k ≤ L.length ∧ Hid (∀ j, j < k → P j = false) ∧ Below w.heap.size w wr) (fun i _ => L.length - (intOf i).toNat)
  case atStart => exact ⟨0, rfl, Nat.zero_le _, (fun j h => absurd h (Nat.not_lt_zero _)), Below.refl _ _⟩
  case round =>
    obtain ⟨k, rfl, hk, HN, hBr⟩ := hrel
    have HBr := hide' hBr
    by_cases hlt : k < L.length
    · obtain ⟨g, off, hp⟩ := rs_at HA.out hlt
      subst hp
      obtain ⟨e0, e1, e2, e3, e4⟩ := rs_cells HA.out rfl hlt hBr
      have HC := hide' (HF.out k hlt wr hBr)
      obtain ⟨x, hx⟩ : ∃ x, rAt L k = x := ⟨_, rfl⟩
      rw [hx] at HC e0 e1 e2 e3 e4
      clear hx hBr
      unfold rcV at HC
      cases hp : P k with
      | true =>
        rw [hp] at HC
        have HP := hide' (idx_some hlt hp HN.out)
        clear hp
        go_wp2_with (go_at_call 36; refine HC.out.mono ?_; rintro r w2 ⟨rfl, hB2⟩)
        go_ret
        exact ⟨by rw [HP.out]; rfl, bstep HBr.out hB2 HBr.out.size⟩
      | false =>
        rw [hp] at HC
        have HP := hide' (up_to HN.out hp)
        clear hp
        go_wp2_with (go_at_call 36; refine HC.out.mono ?_; rintro r w2 ⟨rfl, hB2⟩)
        exact ⟨⟨k + 1, by go_num, by omega, HP, bstep HBr.out hB2 HBr.out.size⟩, by simp [intOf]; omega⟩
    · obtain rfl : k = L.length := by omega
      have HP := hide' (idx_none HN.out)
      go_wp2_with fail
      go_ret
      exact ⟨by rw [HP.out]; rfl, HBr.out⟩

end Go.Proofs.YtioamelddjdmcaaGreat
