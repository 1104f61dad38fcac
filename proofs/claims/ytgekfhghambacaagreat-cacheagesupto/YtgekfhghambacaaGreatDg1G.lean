import Derived.Test.YtgekfhghambacaaGreatPrWG
import Derived.Test.YtgekfhghambacaaGreatGr0G
import Derived.Shelf.Small.Bits
import Derived.Shelf.Lay
import Derived.Ground.NamesProg
import Derived.Test.YtgekfhghambacaaGreatMath13G
import Derived.Test.YtgekfhghambacaaGreatWkG
namespace Go.Proofs.YtgekfhghambacaaGreat
set_option linter.unusedVariables false
open Go.RowKit Go.Shelf Go.Proofs.YtgekfhghambacaaGreat.Nm

def Tryz.lays125_ren : Go.Shelf.Ren := ⟨fun | 125 => 95 | 128 => 97 | 129 => 98 | n => n, fun | 46 => 112 | 3 => 3 | 51 => 185 | 53 => 187 | 4 => 4 | 5 => 5 | 9 => 9 | n => n, fun | n => n⟩
theorem Tryz.lays125 : Go.Proofs.Lays.n125 Tryz.prog Tryz.lays125_ren := {
  mixed := by kernel_rfl
  f125 := Tryz.func95.trans (congrArg some (by kernel_rfl))
  f128 := Tryz.func97.trans (congrArg some (by kernel_rfl))
  f129 := Tryz.func98.trans (congrArg some (by kernel_rfl))
  t3 := Tryz.underlying3
  a3 := Tryz.isAgg3
  z3 := Tryz.sizeOf3
  v3 := Tryz.zeroValue3
  t4 := Tryz.underlying4
  a4 := Tryz.isAgg4
  z4 := Tryz.sizeOf4
  v4 := Tryz.zeroValue4
  t5 := Tryz.underlying5
  a5 := Tryz.isAgg5
  z5 := Tryz.sizeOf5
  v5 := Tryz.zeroValue5
  t9 := Tryz.underlying9
  a9 := Tryz.isAgg9
  z9 := Tryz.sizeOf9
  v9 := Tryz.zeroValue9
  t46 := Tryz.underlying112
  a46 := Tryz.isAgg112
  z46 := Tryz.sizeOf112
  v46 := Tryz.zeroValue112
  t51 := Tryz.underlying185
  a51 := Tryz.isAgg185
  z51 := Tryz.sizeOf185
  v51 := Tryz.zeroValue185
  t53 := Tryz.underlying187
  a53 := Tryz.isAgg187
  z53 := Tryz.sizeOf187
  v53 := Tryz.zeroValue187 }

/-- so many digits, each of which tells W bits -/
def DigOk (d : ByteArray) (W : Nat) : Prop := d.size = 2 ^ W ∧ (W = 4 ∨ W = 5 ∨ W = 6)

theorem bitsOf_any (d : ByteArray) (W : Nat) (w : World) (h : DigOk d W) :
    Calls Tryz.prog 93 #[.string d] w fun e w' => e = .returned (.int .i64 (W : Int)) ∧ w' = w := by
  obtain ⟨h1, h2⟩ := h
  have hz : d.size = 16 ∧ W = 4 ∨ d.size = 32 ∧ W = 5 ∨ d.size = 64 ∧ W = 6 := by
    rcases h2 with rfl | rfl | rfl
    · left; exact ⟨h1, rfl⟩
    · right; left; exact ⟨h1, rfl⟩
    · right; right; exact ⟨h1, rfl⟩
  clear h1 h2
  rcases hz with ⟨hz, rfl⟩ | ⟨hz, rfl⟩ | ⟨hz, rfl⟩
  all_goals
    go_enter Tryz.func93, Tryz.ntmps93
    go_wp2_with (go_at_call 95; refine (Any.bits_Len Tryz.lays125 _ _ (by omega) (by omega)).mono ?_; rintro e w' ⟨rfl, rfl⟩)
    go_ret
    refine ⟨?_, rfl⟩
    simp
    decide

end Go.Proofs.YtgekfhghambacaaGreat

namespace Go.Proofs.YtgekfhghambacaaGreat
set_option linter.unusedVariables false
open Go.RowKit Go.Shelf Go.Proofs.YtgekfhghambacaaGreat.Nm

set_option maxRecDepth 100000 in
/-- strings.IndexByte, its answer -/
theorem indexByteX (s : ByteArray) (b : Nat) (w : World) :
    Calls Tryz.prog 94 #[.string s, .int .u8 (b : Int)] w fun e w' => e = .returned (.int .i64 (ixI s b)) ∧ w' = w := by
  have HI : Hid (Lib.indexByte s.data.toList (b : Int).toNat.toUInt8 = ixI s b) := rfl
  go_enter Tryz.func94, Tryz.ntmps94
  go_wp2_with (go_at_call 96; refine (slIndex_any _ _ _).mono ?_; rintro e w1 ⟨rfl, rfl⟩; rw [HI.out])
  go_ret
  exact ⟨rfl, rfl⟩

/-- what fromDigits hands back -/
def fromEnd (r : Option (List Nat)) : Ending := match r with | some l => .returned (.tuple #[.string (bts l), .bool true]) | none => .returned (.tuple #[.string ByteArray.empty, .bool false])

set_option maxRecDepth 100000 in
set_option maxHeartbeats 1000000 in
/-- data.fromDigits, base 32 -/
theorem fromDigits5 (t d : ByteArray) (w : World) (ht : t.size ≤ 4194304) (hd : d.size = 32) :
    Calls Tryz.prog 91 #[.string t, .string d] w fun e w' => e = fromEnd (fromB 5 d t) ∧ Below w.heap.size w w' := by
  obtain ⟨i0, hi, hz0, hz1, hz2⟩ := info_parts Tryz.infoByte
  have HD : Hid (DigOk d 5) := ⟨hd, .inr (.inl rfl)⟩
  go_enter Tryz.func91, Tryz.ntmps91
  go_wp2_with (first
    | (go_at_call 93; refine (bitsOf_any d 5 _ HD.out).mono ?_; rintro e w1 ⟨rfl, rfl⟩)
    | (at_make; refine wpList_make_own _ rfl _ _ 125 rfl w1.heap.size 5 i0 (.int .u8 0) 1 Tryz.underlying125 hi hz0 hz1 .i64 .i64 _ (t.size * 5 / 8) rfl rfl (by omega) (by rw [hz2]; omega) (by unfold maxLen; omega) (Nat.le_refl _) ?_; intro w0 hown0 hgrow0))
  have hB0 : Below w1.heap.size w1 w0 := (Below.refl _ _).grown hgrow0 (Nat.le_refl _) (fun q hq => by cases hq)
  go_loopw [7, 8, 9, 22] (fun tv rv hv iv wr => ∃ (k : Nat) (acc P rem : List Nat), iv = .int .i64 k ∧ rv = .int .i64 (val rem : Nat) ∧ hv = .int .i64 (rem.length : Nat) ∧ k ≤ t.size ∧ rem.length < 8 ∧ Hid (Bin rem) ∧ acc.length * 8 + rem.length = 5 * k ∧ Hid (P.length = 8 * acc.length) ∧ Hid (acc = codeP 8 P) ∧ Hid (∀ v ∈ acc, v < 256) ∧
      Hid (bitsL 5 ((lst t k).map (ixv d)) = P ++ rem) ∧ Hid (∀ j, j < k → ixN d (bt t j) ≠ none) ∧ wr.ownsRow w1.heap.size 5 1 tv acc.length (byts acc) ∧ (∃ g c, tv = .slice (some ⟨g, 0, none⟩) acc.length c) ∧ Below w1.heap.size w1 wr)
    (fun _ _ _ iv _ => t.size - (intOf iv).toNat)
  case atStart => exact ⟨0, [], [], [], rfl, rfl, rfl, Nat.zero_le _, by simp, (fun x hx => by cases hx), by simp, rfl, rfl, (fun x hx => by cases hx), rfl, (fun j hj => absurd hj (Nat.not_lt_zero _)), by simpa [byts] using hown0, ⟨_, _, rfl⟩, hB0⟩
  case round =>
    obtain ⟨k, acc, P, rem, rfl, rfl, rfl, hk, hrl, HBin, hal, HPL, HAC, HA256, HBL, HG, hown, ⟨gs, cs, rfl⟩, hBr⟩ := hrel
    have hvl : val rem < 128 := by
      have h1 := val_lt HBin.out
      have h2 : 2 ^ rem.length ≤ 2 ^ 7 := Nat.pow_le_pow_right (by omega) (by omega)
      omega
    by_cases hlt : k < t.size
    · obtain ⟨y, hy, HY, hyl⟩ := bt_wrap hlt
      rcases ix_cases d hyl with ⟨v, h1, h2, h3, h4, _⟩ | ⟨h1, h2⟩
      · have hor : bits .or .i64 ((val rem : Int) * 32) (v : Int) = ((val (rem ++ bitsW 5 v) : Nat) : Int) := by
          have := or_shl 5 (val rem) v (by omega) (by omega) (by omega)
          rw [val_append, bitsW_len, val_bitsW 5 v (by omega)]
          simpa using this
        have HBL2 : Hid (bitsL 5 ((lst t (k + 1)).map (ixv d)) = P ++ (rem ++ bitsW 5 v)) := by
          unfold Hid; rw [lst_take_map, HBL.out, HY, h2, List.append_assoc]
        have HG2 : Hid (∀ j, j < k + 1 → ixN d (bt t j) ≠ none) := by
          intro j hj
          by_cases e : j = k
          · subst e; rw [HY, h1]; simp
          · exact HG.out j (by omega)
        have HIX : Hid (ixI d y = (v : Int)) := h3
        have HB2 : Hid (Bin (rem ++ bitsW 5 v)) := HBin.out.append (bitsW_bin 5 v)
        have hrl2 : (rem ++ bitsW 5 v).length = rem.length + 5 := by rw [List.length_append, bitsW_len]
        have hacl : acc.length ≤ 4194304 := by omega
        by_cases h8 : 3 ≤ rem.length
        · have hspl := List.take_append_drop 8 (rem ++ bitsW 5 v)
          have hl8 : ((rem ++ bitsW 5 v).take 8).length = 8 := by rw [List.length_take]; omega
          obtain ⟨hh, hhd⟩ : ∃ hh, (rem ++ bitsW 5 v).take 8 = hh := ⟨_, rfl⟩
          obtain ⟨tl, htl⟩ : ∃ tl, (rem ++ bitsW 5 v).drop 8 = tl := ⟨_, rfl⟩
          have htn : tl.length + 3 = rem.length := by rw [← htl, List.length_drop]; omega
          rw [hhd, htl] at hspl
          rw [hhd] at hl8
          rw [← hspl] at hor HBL2 HB2
          have hlenI : ((rem.length : Nat) : Int) = (tl.length : Int) + 3 := by omega
          have hb1 := val_lt (HB2.out).left
          have hb2 := val_lt (HB2.out).right
          rw [hl8] at hb1
          have hp1 : 0 < 2 ^ tl.length := Nat.two_pow_pos _
          have hp2 : 2 ^ tl.length ≤ 2 ^ 7 := Nat.pow_le_pow_right (by omega) (by omega)
          have hshr : ((val (hh ++ tl) : Nat) : Int) / 2 ^ tl.length = ((val hh : Nat) : Int) := by
            rw [val_append]; exact shr_split _ _ _ hb2
          have hand : bits .and .i64 ((val (hh ++ tl) : Nat) : Int) ((2 : Int) ^ tl.length - 1) = ((val tl : Nat) : Int) := by
            rw [val_append]; exact and_split _ _ _ hb2 (by omega) (by omega)
          have hq1 : (1 : Int) ≤ 2 ^ tl.length := by have : ((2 ^ tl.length : Nat) : Int) = (2 : Int) ^ tl.length := by simp
                                                     omega
          have hq2 : (2 : Int) ^ tl.length ≤ 128 := by have : ((2 ^ tl.length : Nat) : Int) = (2 : Int) ^ tl.length := by simp
                                                       omega
          have HC3 : Hid (acc ++ [val hh] = codeP 8 (P ++ hh)) := by
            unfold Hid
            rw [codeP_mul (by omega) acc.length P hh HPL.out, ← HAC.out]
            congr 1
            have := codeP_full (w := 8) (by omega) hh [] hl8
            rw [List.append_nil, codeP_nil] at this; exact this.symm
          have HP3 : Hid ((P ++ hh).length = 8 * (acc ++ [val hh]).length) := by
            unfold Hid; have := HPL.out; simp only [List.length_append, List.length_singleton]; omega
          have HBL3 : Hid (bitsL 5 ((lst t (k + 1)).map (ixv d)) = (P ++ hh) ++ tl) := by unfold Hid; rw [HBL2.out, List.append_assoc]
          have HA3 : Hid (∀ v ∈ acc ++ [val hh], v < 256) := fun v hv => by
            rcases List.mem_append.1 hv with h | h
            · exact HA256.out v h
            · simp at h; omega
          have HB3 : Hid (Bin tl) := (HB2.out).right
          have hal2 : (acc ++ [val hh]).length * 8 + tl.length = 5 * (k + 1) := by simp; omega
          have hh256 : val hh < 256 := by omega
          have ht4 : tl.length < 8 := by omega
          rw [hlenI]
          clear hhd htl hspl hb1 hb2 hp1 hp2 hl8 h8 hrl hrl2 htn hlenI HBL2 HB2 HBL HG HBin HPL HAC HA256 h1 h2 h3 HY hal
          generalize val (hh ++ tl) = V at *
          generalize val rem = R at *
          go_wp2_with (first
            | (go_at_call 94; refine (indexByteX d y _).mono ?_; rintro e w2 ⟨rfl, rfl⟩; rw [HIX.out])
            | (at_builtin; refine wpList_append_own _ rfl _ _ 125 rfl w1.heap.size 5 i0 (.int .u8 0) 1 1 Tryz.underlying125 hi hz0 hz1 hz2 rfl (by decide) _ _ _ rfl (hown.alloc _) ⟨_, 0, none⟩ 1 1 [.int .u8 ((val hh : Nat) : Int)] rfl rfl (cell_one_new _ _ _) (by simp [Value.oneCell']) (by unfold maxLen; omega) (by omega) (by have := hBr.size; simp; omega) ?_; intro v4 w4 hown4 hgrow4 _; obtain ⟨g4, c4, rfl⟩ := owns_some hown4 (by omega)))
          have hw : wrap64 (wrap64 ((2 : Int) ^ tl.length) - 1) = (2 : Int) ^ tl.length - 1 := by
            rw [show wrap64 ((2 : Int) ^ tl.length) = (2 : Int) ^ tl.length from Go.IntWalk.wrap64_in _ (by omega)]
            exact Go.IntWalk.wrap64_in _ (by omega)
          refine ⟨⟨k + 1, acc ++ [val hh], P ++ hh, tl, by go_num, by rw [hw, hand], by congr 1; omega, hlt, ht4, HB3, hal2, HP3, HC3, HA3, HBL3, HG2, ?_, ⟨g4, c4, by rw [List.length_append]; rfl⟩, below_app hBr (Nat.le_refl _) hown hgrow4⟩, ?_⟩
          · have e : byts (acc ++ [val hh]) = byts acc ++ [.int .u8 ((val hh : Nat) : Int)] := by simp [byts]
            rw [e, List.length_append]; exact hown4
          · simp [intOf]; omega
        · have hlt8 : rem.length < 3 := by omega
          have hal2 : acc.length * 8 + (rem ++ bitsW 5 v).length = 5 * (k + 1) := by omega
          have hlenI : (((rem ++ bitsW 5 v).length : Nat) : Int) = (rem.length : Int) + 5 := by omega
          have hr8 : (rem ++ bitsW 5 v).length < 8 := by omega
          clear h8 hrl hrl2 HBL HG HBin h1 h2 h3 HY hal
          generalize hX : rem ++ bitsW 5 v = X at *
          clear hX
          go_wp2_with (go_at_call 94; refine (indexByteX d y _).mono ?_; rintro e w2 ⟨rfl, rfl⟩; rw [HIX.out])
          refine ⟨⟨k + 1, acc, P, X, by go_num, by first | rfl | rw [hor], by rw [hlenI], hlt, hr8, HB2, hal2, HPL, HAC, HA256, HBL2, HG2, hown, ⟨_, _, rfl⟩, hBr⟩, ?_⟩
          simp [intOf]; omega
      · have HF : Hid (fromB 5 d t = none) := fromB_bad hlt (by rw [HY]; exact h1)
        obtain ⟨z, hz⟩ : ∃ z, ixI d y = z := ⟨_, rfl⟩
        have HIX : Hid (ixI d y = z) := hz
        rw [hz] at h2
        clear h1 HY hz HBL HG HPL HAC HA256
        go_wp2_with (go_at_call 94; refine (indexByteX d y _).mono ?_; rintro e w2 ⟨rfl, rfl⟩; rw [HIX.out])
        go_ret2
        exact ⟨by rw [HF.out]; rfl, hBr⟩
    · have hkb : k = t.size := by omega
      subst hkb
      have HFE := fromB_end (W := 5) HG.out HBL.out HPL.out hrl
      by_cases h5 : 5 ≤ rem.length
      · have HF : Hid (fromB 5 d t = none) := by unfold Hid; rw [HFE, if_neg (by omega)]
        clear HFE HBL HG HPL HAC HA256 HBin
        go_wp2
        go_ret2
        exact ⟨by rw [HF.out]; rfl, hBr⟩
      · have h5' : rem.length < 5 := by omega
        by_cases hv0 : val rem = 0
        · have HF : Hid (fromB 5 d t = some acc) := by unfold Hid; rw [HFE, if_pos ⟨h5', hv0⟩, ← HAC.out]
          have hz := bts_size acc
          have hcv : (convert 125 9 (.slice (some ⟨gs, 0, none⟩) acc.length cs)).run Tryz.prog wr = .ok (.string (bts acc)) wr := by
            have h := owns_str (t := bts acc) (w := wr) (base := w1.heap.size) (g := gs) (cap := cs) (by rw [hz, bts_cells _ HA256.out]; exact hown)
            rw [hz] at h; exact h
          rw [hv0]
          clear HFE HBL HG HPL HAC HA256 HBin hz h5 hvl hv0
          go_wp2
          go_ret2
          exact ⟨by rw [HF.out]; rfl, hBr⟩
        · have HF : Hid (fromB 5 d t = none) := by unfold Hid; rw [HFE, if_neg (by omega)]
          have hv1 : (((val rem : Nat) : Int) != 0) = true := by rw [bne_iff_ne]; omega
          have hv2 : (((val rem : Nat) : Int) == 0) = false := by rw [beq_eq_false_iff_ne]; omega
          clear HFE HBL HG HPL HAC HA256 HBin h5
          go_wp2
          go_ret2
          exact ⟨by rw [HF.out]; rfl, hBr⟩
end Go.Proofs.YtgekfhghambacaaGreat

namespace Go.Proofs.YtgekfhghambacaaGreat
set_option linter.unusedVariables false
open Go.RowKit Go.Shelf Go.Proofs.YtgekfhghambacaaGreat.Nm

/-- data.From32 -/
theorem from32_any (s : ByteArray) (w : World) (hs : s.size ≤ 4194304) :
    Calls Tryz.prog 84 #[.string s] w fun e w' => e = fromEnd (fromB 5 d32 (lowB s)) ∧ Below w.heap.size w w' := by
  have H := hide' (fun w => fromDigits5 (lowB s) d32 w (by rw [lowB_size]; omega) d32_size)
  have HS := hide' (fun w => small_big s w hs)
  cases hf : fromB 5 d32 (lowB s) with
  | none =>
    rw [hf] at H
    go_enter Tryz.func84, Tryz.ntmps84
    go_wp2_with (first
      | (go_at_call 57; refine (HS.out _).mono ?_; rintro e w1 ⟨rfl, hB1⟩)
      | (go_at_call 91; refine (H.out _).mono ?_; rintro e w2 ⟨rfl, hB2⟩; simp only [fromEnd]))
    go_ret2
    exact ⟨rfl, bstep hB1 hB2 hB1.size⟩
  | some l =>
    rw [hf] at H
    go_enter Tryz.func84, Tryz.ntmps84
    go_wp2_with (first
      | (go_at_call 57; refine (HS.out _).mono ?_; rintro e w1 ⟨rfl, hB1⟩)
      | (go_at_call 91; refine (H.out _).mono ?_; rintro e w2 ⟨rfl, hB2⟩; simp only [fromEnd]))
    go_ret2
    exact ⟨rfl, bstep hB1 hB2 hB1.size⟩
end Go.Proofs.YtgekfhghambacaaGreat
