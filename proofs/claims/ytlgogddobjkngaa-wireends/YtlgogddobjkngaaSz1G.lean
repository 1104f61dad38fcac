import Derived.Test.YtlgogddobjkngaaThG
namespace Go.Proofs.Ytlgogddobjkngaa
set_option linter.unusedVariables false
open Go.RowKit Go.Shelf Go.Proofs.Ytlgogddobjkngaa.Nm

/-- a set of types, to the end -/
def setS (d : ByteArray) : Option Nat := match typB d with | some _ => some d.size | none => none
set_option maxRecDepth 100000 in
/-- (data.typeSet).size -/
theorem typeSetSize_any (d : ByteArray) (w : World) (hd : d.size ≤ 1048576) :
    Calls Try.prog 98 #[.agg #[], .string d] w fun e w' => e = szEnd (setS d) ∧ Below w.heap.size w w' := by
  have HT := hide' (fun w => typesOf_any d w hd)
  cases h : typB d with
  | some l =>
    rw [h] at HT
    have HE : Hid (setS d = some d.size) := by unfold Hid setS; rw [h]
    clear h
    go_enter Try.func98, Try.ntmps98
    go_wp2_with (go_at_call 99; refine (HT.out _).mono ?_; rintro e w1 ⟨⟨v, rfl, hown⟩, hB1⟩)
    go_ret
    exact ⟨by rw [HE.out]; rfl, ((Below.refl _ w).alloc (Nat.le_refl _) _).trans (hB1.mono (by simp))⟩
  | none =>
    rw [h] at HT
    have HE : Hid (setS d = none) := by unfold Hid setS; rw [h]
    clear h
    go_enter Try.func98, Try.ntmps98
    go_wp2_with (go_at_call 99; refine (HT.out _).mono ?_; rintro e w1 ⟨rfl, hB1⟩)
    exact ⟨rfl, by rw [HE.out]; rfl, ((Below.refl _ w).alloc (Nat.le_refl _) _).trans (hB1.mono (by simp))⟩

/-- texts, one behind the other, from the place a on -/
def txtP : Nat → ByteArray → Nat → Option Nat
  | 0, _, _ => none
  | f + 1, d, a => if d.size ≤ a then some a else match cntS (d.extract a d.size) with
    | none => none
    | some n => txtP f d (a + n)
def txtS (d : ByteArray) : Option Nat := match cntS d with
  | none => none
  | some n => txtP (d.size + 1) d n
theorem cntS_some {d : ByteArray} {n : Nat} (h : cntS d = some n) : 1 ≤ n ∧ n ≤ d.size := by
  unfold cntS at h
  split at h
  · cases h
  · simp at h; omega
theorem fieldText (w : World) : (Instr.field 130 (.agg #[]) 0).run Try.prog w = .ok (.agg #[]) w := by
  simp [Instr.field, run_underlying Try.underlying130, go_sem, asAgg]
  try rfl
set_option maxRecDepth 100000 in
set_option maxHeartbeats 1000000 in
/-- (data.texts).size -/
theorem textsSize_any (d : ByteArray) (w : World) (hd : d.size ≤ 1048576) :
    Calls Try.prog 84 #[.agg #[], .string d] w fun e w' => e = szEnd (txtS d) ∧ Below w.heap.size w w' := by
  have hfl := fieldText
  have HC := hide' (fun w => countedSize_any d w hd)
  have hB0 : Below w.heap.size w (w.alloc (.cells #[] 131)) := (Below.refl _ _).alloc (Nat.le_refl _) _
  cases hc : cntS d with
  | none =>
    have e : txtS d = none := by unfold txtS; rw [hc]
    rw [e]
    rw [hc] at HC
    go_enter Try.func84, Try.ntmps84
    go_wp2_with (go_at_call 79; refine (HC.out _).mono ?_; rintro e w1 ⟨rfl, hB1⟩; simp only [szEnd])
    exact ⟨rfl, rfl, bstep hB0 hB1 hB0.size⟩
  | some n =>
    have HE : Hid (txtS d = txtP (d.size + 1) d n) := by unfold Hid txtS; rw [hc]
    obtain ⟨hn1, hn2⟩ := cntS_some hc
    rw [hc] at HC
    clear hc
    go_enter Try.func84, Try.ntmps84
    go_wp2_with (go_at_call 79; refine (HC.out _).mono ?_; rintro e w1 ⟨rfl, hB1⟩; simp only [szEnd])
    have hBw1 : Below w.heap.size w w1 := bstep hB0 hB1 hB0.size
    clear hB1 hB0 HC
    go_loopw [5] (fun av wr => ∃ a f : Nat, av = .int .i64 a ∧ a ≤ d.size ∧ Hid (d.size < f + a ∧ txtS d = txtP f d a) ∧ Below w1.heap.size w1 wr) (fun av _ => d.size - (intOf av).toNat)
    case atStart => exact ⟨n, d.size + 1, rfl, hn2, ⟨by omega, HE.out⟩, Below.refl _ _⟩
    case round =>
      obtain ⟨a, f, rfl, ha, HF, hBr⟩ := hrel
      by_cases hlt : a < d.size
      · cases f with
        | zero => exact absurd HF.out.1 (by omega)
        | succ f =>
          have hz : (d.extract a d.size).size = d.size - a := size_extract' _ _ _ (Nat.le_refl _)
          have HC := hide' (fun w => countedSize_any (d.extract a d.size) w (by omega))
          have hF := HF.out.2
          have hf1 := HF.out.1
          unfold txtP at hF
          rw [if_neg (by omega)] at hF
          cases hc : cntS (d.extract a d.size) with
          | none =>
            rw [hc] at hF HC
            have HE2 : Hid (txtS d = none) := hF
            clear hF hc HF hz HE
            go_wp2_with (go_at_call 79; refine (HC.out _).mono ?_; rintro e w2 ⟨rfl, hB2⟩; simp only [szEnd])
            exact ⟨rfl, by rw [HE2.out]; rfl, bstep hBw1 (bstep hBr hB2 hBr.size) hBw1.size⟩
          | some m =>
            rw [hc] at hF HC
            obtain ⟨hm1, hm2⟩ := cntS_some hc
            have HE2 : Hid (d.size < f + (a + m) ∧ txtS d = txtP f d (a + m)) := ⟨by omega, hF⟩
            have hm3 : a + m ≤ d.size := by omega
            clear hF hc HF hz HE hm2
            go_wp2_with (go_at_call 79; refine (HC.out _).mono ?_; rintro e w2 ⟨rfl, hB2⟩; simp only [szEnd])
            exact ⟨⟨a + m, f, by simp, hm3, HE2, bstep hBr hB2 hBr.size⟩, by show d.size - ((a : Int) + m).toNat < d.size - (a : Int).toNat; omega⟩
      · have hae : a = d.size := by omega
        have HE2 : Hid (txtS d = some a) := by
          have h1 := HF.out.1
          have h2 := HF.out.2
          cases f with
          | zero => omega
          | succ f => unfold txtP at h2; rw [if_pos (by omega)] at h2; exact h2
        clear HF HE
        subst hae
        go_wp2
        go_ret
        exact ⟨by rw [HE2.out]; rfl, bstep hBw1 hBr hBw1.size⟩
end Go.Proofs.Ytlgogddobjkngaa

namespace Go.Proofs.Ytlgogddobjkngaa
set_option linter.unusedVariables false
open Go.RowKit Go.Shelf Go.Proofs.Ytlgogddobjkngaa.Nm

/-- a name's end, from the place e on: the byte ahead of it is a length -/
def domP : Nat → ByteArray → Nat → Option Nat
  | 0, _, _ => none
  | f + 1, d, e => if bt d (e - 1) = 0 then some e else if d.size < e + bt d (e - 1) + 1 then none else domP f d (e + bt d (e - 1) + 1)
/-- how many bytes a name at the beginning has -/
def domS (d : ByteArray) : Option Nat := if d.size < 1 then none else match domP (d.size + 1) d 1 with
  | none => none
  | some e => if isN (d.extract 0 e) = true then some e else none

set_option maxRecDepth 100000 in
set_option maxHeartbeats 1000000 in
/-- (data.domain).size -/
theorem domainSize_any (d : ByteArray) (w : World) (hd : d.size ≤ 1048576) :
    Calls Try.prog 71 #[.agg #[], .string d] w fun e w' => e = szEnd (domS d) ∧ Below w.heap.size w w' := by
  have hB0 : Below w.heap.size w (w.alloc (.cells #[] 123)) := (Below.refl _ _).alloc (Nat.le_refl _) _
  by_cases h1 : d.size < 1
  · have HE : Hid (domS d = none) := by unfold Hid domS; rw [if_pos h1]
    go_enter Try.func71, Try.ntmps71
    go_wp2_with (go_at_call 72; refine (need_out d _ _ hd (by omega) (by omega)).mono ?_; rintro e w' ⟨rfl, rfl⟩)
    exact ⟨rfl, by rw [HE.out]; rfl, hB0⟩
  · have HS : Hid (domS d = match domP (d.size + 1) d 1 with | none => none | some e => if isN (d.extract 0 e) = true then some e else none) := by unfold Hid domS; rw [if_neg h1]
    go_enter Try.func71, Try.ntmps71
    go_wp2_with (go_at_call 72; refine (need_in d _ _ hd (by omega) (by omega)).mono ?_; rintro e w' ⟨rfl, rfl⟩)
    obtain ⟨w0, hw0⟩ : ∃ w0, w.alloc (.cells #[] 123) = w0 := ⟨_, rfl⟩
    rw [hw0] at hB0
    simp only [hw0]
    clear hw0
    go_loopw [5] (fun av wr => ∃ a f : Nat, av = .int .i64 ((a : Int) + 1) ∧ a + 1 ≤ d.size ∧ Hid (d.size < f + (a + 1) ∧ domP (d.size + 1) d 1 = domP f d (a + 1)) ∧ wr = w0) (fun av _ => d.size + 1 - (intOf av).toNat)
    case atStart => exact ⟨0, d.size + 1, rfl, by omega, ⟨by omega, rfl⟩, rfl⟩
    case round =>
      obtain ⟨a, f, rfl, ha, HF, rfl⟩ := hrel
      obtain ⟨y, hy, HY, hyl⟩ := bt_wrap (s := d) (i := a) (by omega)
      cases f with
      | zero => exact absurd HF.out.1 (by omega)
      | succ f =>
        have hF := HF.out.2
        have hf1 := HF.out.1
        conv at hF => rhs; unfold domP
        rw [show a + 1 - 1 = a by omega, HY] at hF
        by_cases hy0 : y = 0
        · rw [if_pos hy0] at hF
          subst hy0
          have hz : (d.extract 0 (a + 1)).size = a + 1 := by rw [size_extract' _ _ _ ha]; omega
          have HK := hide' (fun w => check_any (d.extract 0 (a + 1)) w (by rw [hz]; unfold maxLen; omega))
          clear hz
          by_cases hN : isN (d.extract 0 (a + 1)) = true
          · have HE : Hid (domS d = some (a + 1)) := by unfold Hid; rw [HS.out, hF]; show (if _ then _ else _) = _; rw [if_pos hN]
            have hck : chk (d.extract 0 (a + 1)) = 0 := by unfold chk; rw [if_pos hN]
            rw [hck] at HK
            clear hck hN hF HF HS HY
            go_wp2_with (go_at_call 38; refine (HK.out _).mono ?_; rintro e w2 ⟨rfl, hB2⟩)
            go_ret
            exact ⟨by rw [HE.out]; simp [szEnd], bstep hB0 hB2 hB0.size⟩
          · have HE : Hid (domS d = none) := by unfold Hid; rw [HS.out, hF]; show (if _ then _ else _) = _; rw [if_neg hN]
            have hck : chk (d.extract 0 (a + 1)) = 1 := by unfold chk; rw [if_neg hN]
            rw [hck] at HK
            clear hck hN hF HF HS HY
            go_wp2_with (first
              | (go_at_call 38; refine (HK.out _).mono ?_; rintro e w2 ⟨rfl, hB2⟩)
              | (go_at_call 51; refine (throw_any 7 0 _).mono ?_; rintro e w' ⟨rfl, rfl⟩))
            exact ⟨rfl, by rw [HE.out]; rfl, bstep hB0 hB2 hB0.size⟩
        · rw [if_neg hy0] at hF
          have hy0' : ((y : Int) != 0) = true := by rw [bne_iff_ne]; omega
          by_cases hl : d.size < a + 1 + y + 1
          · rw [if_pos hl] at hF
            have HE : Hid (domS d = none) := by unfold Hid; rw [HS.out, hF]
            clear hF HF HS HY
            go_wp2_with (go_at_call 72; refine (need_out d _ _ hd (by omega) (by omega)).mono ?_; rintro e w' ⟨rfl, rfl⟩)
            exact ⟨rfl, by rw [HE.out]; rfl, hB0⟩
          · rw [if_neg hl] at hF
            have HF2 : Hid (d.size < f + (a + 1 + y + 1) ∧ domP (d.size + 1) d 1 = domP f d (a + 1 + y + 1)) := ⟨by omega, hF⟩
            clear hF HF HS HY
            go_wp2_with (go_at_call 72; refine (need_in d _ _ hd (by omega) (by omega)).mono ?_; rintro e w' ⟨rfl, rfl⟩)
            exact ⟨⟨a + 1 + y, f, by simp, by omega, HF2, by first | rfl | trivial⟩, by show d.size + 1 - ((a : Int) + 1 + y + 1).toNat < d.size + 1 - ((a : Int) + 1).toNat; omega⟩
end Go.Proofs.Ytlgogddobjkngaa

namespace Go.Proofs.Ytlgogddobjkngaa
set_option linter.unusedVariables false
open Go.RowKit Go.Shelf Go.Proofs.Ytlgogddobjkngaa.Nm

/-- is it a type that data may have? -/
def isDT (t : Int) : Bool := isTy t && !decide (t = 41) && !decide (128 ≤ t ∧ t ≤ 255)
set_option maxRecDepth 100000 in
theorem isDataType_any (t : Int) (w : World) :
    Calls Try.prog 52 #[.int .i64 t] w fun e w' => e = .returned (.bool (isDT t)) ∧ w' = w := by
  cases h : isTy t with
  | false =>
    have HI : Hid (isTy t = false) := h
    have HE : Hid (isDT t = false) := by unfold Hid isDT; rw [h]; rfl
    clear h
    go_enter Try.func52, Try.ntmps52
    go_wp2_with (go_at_call 53; refine (isType_any _ _).mono ?_; rintro e w2 ⟨rfl, rfl⟩; rw [HI.out])
    go_ret
    exact ⟨by rw [HE.out]; rfl, rfl⟩
  | true =>
    have HI : Hid (isTy t = true) := h
    by_cases h1 : t = 41
    · have HE : Hid (isDT t = false) := by unfold Hid isDT; simp [h1]
      clear h
      subst h1
      go_enter Try.func52, Try.ntmps52
      go_wp2_with (go_at_call 53; refine (isType_any _ _).mono ?_; rintro e w2 ⟨rfl, rfl⟩; rw [HI.out])
      go_ret
      exact ⟨by rw [HE.out]; rfl, rfl⟩
    · by_cases h2 : 128 ≤ t
      · by_cases h3 : t ≤ 255
        · have HE : Hid (isDT t = false) := by unfold Hid isDT; simp [h2, h3]
          clear h
          go_enter Try.func52, Try.ntmps52
          go_wp2_with (go_at_call 53; refine (isType_any _ _).mono ?_; rintro e w2 ⟨rfl, rfl⟩; rw [HI.out])
          go_ret
          exact ⟨by rw [HE.out]; show Ending.returned (Value.bool _) = Ending.returned (Value.bool _); congr 2; simp; omega, rfl⟩
        · have HE : Hid (isDT t = true) := by unfold Hid isDT; rw [h]; simp [h1, h3]
          clear h
          go_enter Try.func52, Try.ntmps52
          go_wp2_with (go_at_call 53; refine (isType_any _ _).mono ?_; rintro e w2 ⟨rfl, rfl⟩; rw [HI.out])
          go_ret
          exact ⟨by rw [HE.out]; show Ending.returned (Value.bool _) = Ending.returned (Value.bool _); congr 2; simp; omega, rfl⟩
      · have HE : Hid (isDT t = true) := by unfold Hid isDT; rw [h]; simp [h1]; omega
        clear h
        go_enter Try.func52, Try.ntmps52
        go_wp2_with (go_at_call 53; refine (isType_any _ _).mono ?_; rintro e w2 ⟨rfl, rfl⟩; rw [HI.out])
        go_ret
        exact ⟨by rw [HE.out]; show Ending.returned (Value.bool _) = Ending.returned (Value.bool _); congr 2; simp; omega, rfl⟩
end Go.Proofs.Ytlgogddobjkngaa
