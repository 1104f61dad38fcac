import Derived.Test.YtoabnpdoicbpiaaGreatRc1G
import Derived.Test.YtoabnpdoicbpiaaGreatVs1G
import Derived.Test.YtoabnpdoicbpiaaGreatBw1G
namespace Go.Proofs.YtoabnpdoicbpiaaGreat
set_option linter.unusedVariables false
open Go.RowKit Go.Shelf Go.Proofs.YtoabnpdoicbpiaaGreat.Nm
def szI : Option Nat → Int
 | some n => n
 | none => -1
def okK : Kind → Prop
 | n + 13 => n = 1 ∨ n = 2 ∨ n = 4
 | 12 => False
 | 0 | 1 | 2 | 3 | 4 | 5 | 6 | 7 | 8 | 9 | 10 | 11 => True
set_option maxRecDepth 100000 in
set_option maxHeartbeats 1000000 in
theorem refSizeFix (f n : Nat) (d : ByteArray) (w : World) (hd : d.size ≤ 1048576) (h : f = 49 ∧ n = 1 ∨ f = 50 ∧ n = 2 ∨ f = 52 ∧ n = 4 ∨ f = 97 ∧ n = 4 ∨ f = 54 ∧ n = 16) :
    Calls Tryz.prog 141 #[.int .u8 (f : Int), .string d] w fun e w' => e = .returned (.int .i64 (szI (fixS n d))) ∧ w' = w := by
  rcases h with ⟨rfl, rfl⟩ | ⟨rfl, rfl⟩ | ⟨rfl, rfl⟩ | ⟨rfl, rfl⟩ | ⟨rfl, rfl⟩
  all_goals
    first
    | (by_cases h : 1 ≤ d.size
       · have HE : Hid (fixS 1 d = some 1) := fixS_yes h
         go_enter Tryz.func141, Tryz.ntmps141
         go_wp2
         go_ret
         exact ⟨by rw [HE.out]; rfl, rfl⟩
       · have HE : Hid (fixS 1 d = none) := fixS_no (by omega)
         go_enter Tryz.func141, Tryz.ntmps141
         go_wp2
         go_ret
         exact ⟨by rw [HE.out]; rfl, rfl⟩)
    | (by_cases h : 2 ≤ d.size
       · have HE : Hid (fixS 2 d = some 2) := fixS_yes h
         go_enter Tryz.func141, Tryz.ntmps141
         go_wp2
         go_ret
         exact ⟨by rw [HE.out]; rfl, rfl⟩
       · have HE : Hid (fixS 2 d = none) := fixS_no (by omega)
         go_enter Tryz.func141, Tryz.ntmps141
         go_wp2
         go_ret
         exact ⟨by rw [HE.out]; rfl, rfl⟩)
    | (by_cases h : 4 ≤ d.size
       · have HE : Hid (fixS 4 d = some 4) := fixS_yes h
         go_enter Tryz.func141, Tryz.ntmps141
         go_wp2
         go_ret
         exact ⟨by rw [HE.out]; rfl, rfl⟩
       · have HE : Hid (fixS 4 d = none) := fixS_no (by omega)
         go_enter Tryz.func141, Tryz.ntmps141
         go_wp2
         go_ret
         exact ⟨by rw [HE.out]; rfl, rfl⟩)
    | (by_cases h : 16 ≤ d.size
       · have HE : Hid (fixS 16 d = some 16) := fixS_yes h
         go_enter Tryz.func141, Tryz.ntmps141
         go_wp2
         go_ret
         exact ⟨by rw [HE.out]; rfl, rfl⟩
       · have HE : Hid (fixS 16 d = none) := fixS_no (by omega)
         go_enter Tryz.func141, Tryz.ntmps141
         go_wp2
         go_ret
         exact ⟨by rw [HE.out]; rfl, rfl⟩)
set_option maxRecDepth 100000 in
set_option maxHeartbeats 1000000 in
theorem refSizeCnt (f : Nat) (d : ByteArray) (w : World) (hd : d.size ≤ 1048576) (h : f = 116 ∨ f = 115) :
  Calls Tryz.prog 141 #[.int .u8 (f : Int), .string d] w fun e w' => e = .returned (.int .i64 (szI (cntS d))) ∧ w' = w := by
 by_cases h1 : 1 ≤ d.size
 ·obtain ⟨y, hy, HY, hyl⟩ := bt_wrap (s := d) (i := 0) (by omega)
  have hb0 : ((d.size : Int) == 0) = false := by rw [beq_eq_false_iff_ne]; omega
  by_cases h2 : 1 + y ≤ d.size
  ·have HE : Hid (cntS d = some (1 + y)) := by unfold Hid cntS; rw [HY, if_neg (by omega)]
   clear HY
   rcases h with rfl | rfl
   ·go_enter Tryz.func141, Tryz.ntmps141
    go_wp2
    go_ret
    exact ⟨by rw [HE.out]; simp [szI], rfl⟩
   ·go_enter Tryz.func141, Tryz.ntmps141
    go_wp2
    go_ret
    exact ⟨by rw [HE.out]; simp [szI], rfl⟩
  ·have HE : Hid (cntS d = none) := by unfold Hid cntS; rw [HY, if_pos (by omega)]
   clear HY
   rcases h with rfl | rfl
   ·go_enter Tryz.func141, Tryz.ntmps141
    go_wp2
    go_ret
    exact ⟨by rw [HE.out]; rfl, rfl⟩
   ·go_enter Tryz.func141, Tryz.ntmps141
    go_wp2
    go_ret
    exact ⟨by rw [HE.out]; rfl, rfl⟩
 ·have HE : Hid (cntS d = none) := by unfold Hid cntS; rw [if_pos (by omega)]
  have h0 : d.size = 0 := by omega
  rcases h with rfl | rfl
  ·go_enter Tryz.func141, Tryz.ntmps141
   go_wp2
   go_ret
   exact ⟨by rw [HE.out]; rfl, rfl⟩
  ·go_enter Tryz.func141, Tryz.ntmps141
   go_wp2
   go_ret
   exact ⟨by rw [HE.out]; rfl, rfl⟩
set_option maxRecDepth 100000 in
set_option maxHeartbeats 1000000 in
theorem refSizeHash (d : ByteArray) (w : World) (hd : d.size ≤ 1048576) :
  Calls Tryz.prog 141 #[.int .u8 72, .string d] w fun e w' => e = .returned (.int .i64 (szI (hashS d))) ∧ w' = w := by
 by_cases h1 : 1 ≤ d.size
 ·obtain ⟨y, hy, HY, hyl⟩ := bt_wrap (s := d) (i := 0) (by omega)
  have hb0 : ((d.size : Int) == 0) = false := by rw [beq_eq_false_iff_ne]; omega
  by_cases h2 : 1 + y ≤ d.size
  ·have hc : cntS d = some (1 + y) := by unfold cntS; rw [HY, if_neg (by omega)]
   by_cases h3 : y = 0
   ·have HE : Hid (hashS d = none) := by unfold Hid hashS; rw [if_pos (.inr (by rw [HY]; exact h3))]
    clear hc HY
    subst h3
    go_enter Tryz.func141, Tryz.ntmps141
    go_wp2
    go_ret
    exact ⟨by rw [HE.out]; rfl, rfl⟩
   ·have HE : Hid (hashS d = some (1 + y)) := by unfold Hid hashS; rw [if_neg (by rw [hc, HY]; simp; exact h3), hc]
    have hy0 : ((y : Int) == 0) = false := by rw [beq_eq_false_iff_ne]; omega
    clear hc HY
    go_enter Tryz.func141, Tryz.ntmps141
    go_wp2
    go_ret
    exact ⟨by rw [HE.out]; simp [szI], rfl⟩
  ·have hc : cntS d = none := by unfold cntS; rw [HY, if_pos (by omega)]
   have HE : Hid (hashS d = none) := by unfold Hid hashS; rw [if_pos (.inl hc)]
   clear hc HY
   go_enter Tryz.func141, Tryz.ntmps141
   go_wp2
   go_ret
   exact ⟨by rw [HE.out]; rfl, rfl⟩
 ·have hc : cntS d = none := by unfold cntS; rw [if_pos (by omega)]
  have HE : Hid (hashS d = none) := by unfold Hid hashS; rw [if_pos (.inl hc)]
  have h0 : d.size = 0 := by omega
  clear hc
  go_enter Tryz.func141, Tryz.ntmps141
  go_wp2
  go_ret
  exact ⟨by rw [HE.out]; rfl, rfl⟩
set_option maxRecDepth 100000 in
set_option maxHeartbeats 1000000 in
theorem refSizeEnd (f : Nat) (d : ByteArray) (w : World) (hd : d.size ≤ 1048576) (h : f = 104 ∨ f = 98) :
  Calls Tryz.prog 141 #[.int .u8 (f : Int), .string d] w fun e w' => e = .returned (.int .i64 (szI (endS d))) ∧ w' = w := by
 by_cases h1 : d.size = 0
 ·have he := isEmpty_true h1
  have HE : Hid (endS d = none) := by unfold Hid endS; rw [if_pos h1]
  clear h1
  rcases h with rfl | rfl
  ·go_enter Tryz.func141, Tryz.ntmps141
   go_wp2
   go_ret
   exact ⟨by rw [HE.out]; rfl, rfl⟩
  ·go_enter Tryz.func141, Tryz.ntmps141
   go_wp2
   go_ret
   exact ⟨by rw [HE.out]; rfl, rfl⟩
 ·have he := isEmpty_false (r := d) (by omega)
  have HE : Hid (endS d = some d.size) := by unfold Hid endS; rw [if_neg h1]
  clear h1
  rcases h with rfl | rfl
  ·go_enter Tryz.func141, Tryz.ntmps141
   go_wp2
   go_ret
   exact ⟨by rw [HE.out]; rfl, rfl⟩
  ·go_enter Tryz.func141, Tryz.ntmps141
   go_wp2
   go_ret
   exact ⟨by rw [HE.out]; rfl, rfl⟩
set_option maxRecDepth 100000 in
theorem refSizeTail (d : ByteArray) (w : World) (hd : d.size ≤ 1048576) :
  Calls Tryz.prog 141 #[.int .u8 114, .string d] w fun e w' => e = .returned (.int .i64 (szI (some d.size))) ∧ w' = w := by
 go_enter Tryz.func141, Tryz.ntmps141
 go_wp2
 go_ret
 exact ⟨rfl, rfl⟩
set_option maxRecDepth 100000 in
set_option maxHeartbeats 1000000 in
theorem refSizeOne (d : ByteArray) (w : World) (hd : d.size ≤ 1048576) :
  Calls Tryz.prog 141 #[.int .u8 107, .string d] w fun e w' => e = .returned (.int .i64 (szI (oneS d))) ∧ w' = w := by
 by_cases h : 2 ≤ d.size
 ·have hz := prefix_zero h
  by_cases h0 : bt d 0 = 0 ∧ bt d 1 = 0
  ·have HE : Hid (oneS d = none) := by unfold Hid oneS; rw [if_pos (.inr h0)]
   rw [decide_eq_true h0] at hz
   clear h0
   go_enter Tryz.func141, Tryz.ntmps141
   go_wp2
   go_ret
   exact ⟨by rw [HE.out]; rfl, rfl⟩
  ·have HE : Hid (oneS d = some 2) := by unfold Hid oneS; rw [if_neg (by omega)]
   rw [decide_eq_false h0] at hz
   clear h0
   go_enter Tryz.func141, Tryz.ntmps141
   go_wp2
   go_ret
   exact ⟨by rw [HE.out]; rfl, rfl⟩
 ·have HE : Hid (oneS d = none) := by unfold Hid oneS; rw [if_pos (by omega)]
  go_enter Tryz.func141, Tryz.ntmps141
  go_wp2
  go_ret
  exact ⟨by rw [HE.out]; rfl, rfl⟩
end Go.Proofs.YtoabnpdoicbpiaaGreat
namespace Go.Proofs.YtoabnpdoicbpiaaGreat
set_option linter.unusedVariables false
open Go.RowKit Go.Shelf Go.Proofs.YtoabnpdoicbpiaaGreat.Nm
set_option maxRecDepth 100000 in
set_option maxHeartbeats 1000000 in
theorem refSizeSet (d : ByteArray) (w : World) (hd : d.size ≤ 1048576) :
  Calls Tryz.prog 141 #[.int .u8 75, .string d] w fun e w' => e = .returned (.int .i64 (szI (setS d))) ∧ Below w.heap.size w w' := by
 have HT := hide' (fun w => refTypes_any d w hd)
 cases h : typB d with
 | some l =>
  rw [h] at HT
  have HE : Hid (setS d = some d.size) := by unfold Hid setS; rw [h]
  clear h
  go_enter Tryz.func141, Tryz.ntmps141
  go_wp2_with (go_at_call 146; refine (HT.out _).mono ?_; rintro e w1 ⟨⟨v, rfl, hown⟩, hB1⟩)
  go_ret
  exact ⟨by rw [HE.out]; rfl, hB1⟩
 | none =>
  rw [h] at HT
  have HE : Hid (setS d = none) := by unfold Hid setS; rw [h]
  clear h
  go_enter Tryz.func141, Tryz.ntmps141
  go_wp2_with (go_at_call 146; refine (HT.out _).mono ?_; rintro e w1 ⟨rfl, hB1⟩)
  go_ret
  exact ⟨by rw [HE.out]; rfl, hB1⟩
set_option maxRecDepth 100000 in
set_option maxHeartbeats 1000000 in
theorem refSizeDom (d : ByteArray) (w : World) (hd : d.size ≤ 1048576) :
  Calls Tryz.prog 141 #[.int .u8 110, .string d] w fun e w' => e = .returned (.int .i64 (szI (domS d))) ∧ Below w.heap.size w w' := by
 go_enter Tryz.func141, Tryz.ntmps141
 go_wp2_with fail
 go_loopw [5] (fun kv wr => ∃ k : Nat, kv = .int .i64 k ∧ 1 ≤ k ∧ k ≤ 256 ∧ Hid (∀ j, 1 ≤ j → j < k → isN (d.extract 0 j) = false) ∧ Below w.heap.size w wr) (fun kv _ => 257 - (intOf kv).toNat)
 case atStart => exact ⟨1, rfl, by omega, by omega, fun j h1 h2 => by omega, Below.refl _ _⟩
 case round =>
  obtain ⟨k, rfl, hk1, hk2, HJ, hBr⟩ := hrel
  by_cases hin : k ≤ d.size ∧ k ≤ 255
  ·obtain ⟨hin1, hin2⟩ := hin
   have hz : (d.extract 0 k).size = k := by rw [size_extract' _ _ _ hin1]; omega
   have HI := hide' (fun w => refIsName_any (d.extract 0 k) w (by omega))
   clear hz
   cases hN : isN (d.extract 0 k) with
   | true =>
    have HE : Hid (domS d = some k) := dom_of_name hin1 hN
    rw [hN] at HI
    clear hN
    go_wp2_with (go_at_call 80; refine (HI.out _).mono ?_; rintro e w1 ⟨rfl, hB1⟩)
    go_ret
    exact ⟨by rw [HE.out]; rfl, bstep hBr hB1 hBr.size⟩
   | false =>
    have HJ2 : Hid (∀ j, 1 ≤ j → j < k + 1 → isN (d.extract 0 j) = false) := fun j h1 h2 => by
     by_cases e : j = k
     ·subst e; exact hN
     ·exact HJ.out j h1 (by omega)
    rw [hN] at HI
    clear hN HJ
    go_wp2_with (go_at_call 80; refine (HI.out _).mono ?_; rintro e w1 ⟨rfl, hB1⟩)
    exact ⟨⟨k + 1, by go_num, by omega, by omega, HJ2, bstep hBr hB1 hBr.size⟩, by simp [intOf]; omega⟩
  ·have HE : Hid (domS d = none) := by
    unfold Hid
    cases h : domS d with
    | none => rfl
    | some e =>
     obtain ⟨h1, h2, h3, h4⟩ := domS_some h
     rw [HJ.out e h3 (by omega)] at h4; cases h4
   rcases (show d.size < k ∨ (k ≤ d.size ∧ 255 < k) by omega) with h | ⟨h, h'⟩
   ·clear HJ hin
    go_wp2
    go_ret
    exact ⟨by rw [HE.out]; rfl, hBr⟩
   ·clear HJ hin
    go_wp2
    go_ret
    exact ⟨by rw [HE.out]; rfl, hBr⟩
theorem extract_self (d : ByteArray) : d.extract 0 d.size = d := by
 apply ba_ext
 ·rw [size_extract' _ _ _ (Nat.le_refl _)]; omega
 ·intro j hj
  rw [size_extract' _ _ _ (Nat.le_refl _)] at hj
  rw [bt_extract _ _ _ _ hj (Nat.le_refl _)]; simp
set_option maxRecDepth 100000 in
set_option maxHeartbeats 1000000 in
theorem refSizeTexts (d : ByteArray) (w : World) (hd : d.size ≤ 1048576) :
  Calls Tryz.prog 141 #[.int .u8 84, .string d] w fun e w' => e = .returned (.int .i64 (szI (txtS d))) ∧ Below w.heap.size w w' := by
 by_cases h0 : d.size = 0
 ·have HE : Hid (txtS d = none) := by
   unfold Hid txtS
   have : cntS d = none := by unfold cntS; rw [if_pos (.inl h0)]
   rw [this]
  go_enter Tryz.func141, Tryz.ntmps141
  go_wp2_with fail
  refine wp_loop_rounds 1 ?_
  rw [rounds_succ]
  go_wp2
  go_ret
  exact ⟨by rw [HE.out]; rfl, Below.refl _ _⟩
 ·have HS : Hid (txtS d = txtP (d.size + 2) d 0) := by
   unfold Hid txtS
   conv => rhs; unfold txtP
   rw [if_neg (by omega), extract_self]
   cases cntS d with
   | none => rfl
   | some n => simp
  have hd1 : 1 ≤ d.size := by omega
  clear h0
  go_enter Tryz.func141, Tryz.ntmps141
  go_wp2_with fail
  go_loopw [6] (fun kv wr => ∃ k f : Nat, kv = .int .i64 k ∧ k ≤ d.size ∧ Hid (d.size < f + k ∧ txtS d = txtP f d k) ∧ Below w.heap.size w wr) (fun kv _ => d.size - (intOf kv).toNat)
  case atStart => exact ⟨0, d.size + 2, rfl, by omega, ⟨by omega, HS.out⟩, Below.refl _ _⟩
  case round =>
   obtain ⟨k, f, rfl, hk, HF, hBr⟩ := hrel
   by_cases hlt : k < d.size
   ·cases f with
    | zero => exact absurd HF.out.1 (by omega)
    | succ f =>
     have hz : (d.extract k d.size).size = d.size - k := size_extract' _ _ _ (Nat.le_refl _)
     have HC := hide' (fun w => refSizeCnt 116 (d.extract k d.size) w (by omega) (.inl rfl))
     have hF := HF.out.2
     have hf1 := HF.out.1
     unfold txtP at hF
     rw [if_neg (by omega)] at hF
     cases hc : cntS (d.extract k d.size) with
     | none =>
      rw [hc] at hF HC
      have HE2 : Hid (txtS d = none) := hF
      clear hF hc HF hz HS
      go_wp2_with (go_at_call 141; refine (HC.out _).mono ?_; rintro e w2 ⟨rfl, rfl⟩; simp only [szI])
      go_ret
      exact ⟨by rw [HE2.out]; rfl, hBr⟩
     | some m =>
      rw [hc] at hF HC
      obtain ⟨hm1, hm2⟩ := cntS_some hc
      have HE2 : Hid (d.size < f + (k + m) ∧ txtS d = txtP f d (k + m)) := ⟨by omega, hF⟩
      have hm3 : k + m ≤ d.size := by omega
      clear hF hc HF hz HS hm2
      go_wp2_with (go_at_call 141; refine (HC.out _).mono ?_; rintro e w2 ⟨rfl, rfl⟩; simp only [szI])
      exact ⟨⟨k + m, f, by simp, hm3, HE2, hBr⟩, by show d.size - ((k : Int) + m).toNat < d.size - (k : Int).toNat; omega⟩
   ·have hae : k = d.size := by omega
    have HE2 : Hid (txtS d = some k) := by
     have h1 := HF.out.1
     have h2 := HF.out.2
     cases f with
     | zero => omega
     | succ f => unfold txtP at h2; rw [if_pos (by omega)] at h2; exact h2
    clear HF HS
    have hb0 : ((k : Int) == 0) = false := by rw [beq_eq_false_iff_ne]; omega
    go_wp2
    go_ret
    exact ⟨by rw [HE2.out]; rfl, hBr⟩
theorem refSize_any (k : Kind) (d : ByteArray) (w : World) (hd : d.size ≤ 1048576) (hk : okK k) :
  Calls Tryz.prog 141 #[.int .u8 ((letter k).toNat : Int), .string d] w fun e w' => e = .returned (.int .i64 (szI (kindSize k d))) ∧ Below w.heap.size w w' := by
 have same : ∀ {f : Int} {z : Option Nat}, (Calls Tryz.prog 141 #[.int .u8 f, .string d] w fun e w' => e = .returned (.int .i64 (szI z)) ∧ w' = w) → Calls Tryz.prog 141 #[.int .u8 f, .string d] w fun e w' => e = .returned (.int .i64 (szI z)) ∧ Below w.heap.size w w' := fun h => h.mono (by rintro e w' ⟨rfl, rfl⟩; exact ⟨rfl, Below.refl _ _⟩)
 rcases kind_cases k with rfl | rfl | rfl | rfl | rfl | rfl | rfl | rfl | rfl | rfl | rfl | rfl | rfl | ⟨n, rfl⟩
 ·exact same (refSizeFix 97 4 d w hd (by simp))
 ·exact same (refSizeFix 54 16 d w hd (by simp))
 ·exact refSizeDom d w hd
 ·exact same (refSizeCnt 116 d w hd (.inl rfl))
 ·exact refSizeTexts d w hd
 ·exact same (refSizeEnd 104 d w hd (.inl rfl))
 ·exact same (refSizeEnd 98 d w hd (.inr rfl))
 ·exact same (refSizeCnt 115 d w hd (.inr rfl))
 ·exact same (refSizeHash d w hd)
 ·exact refSizeSet d w hd
 ·exact same (refSizeOne d w hd)
 ·exact same (refSizeTail d w hd)
 ·exact hk.elim
 ·rcases hk with rfl | rfl | rfl
  ·exact same (refSizeFix 49 1 d w hd (by simp))
  ·exact same (refSizeFix 50 2 d w hd (by simp))
  ·exact same (refSizeFix 52 4 d w hd (by simp))
end Go.Proofs.YtoabnpdoicbpiaaGreat
namespace Go.Proofs.YtoabnpdoicbpiaaGreat
set_option linter.unusedVariables false
open Go.RowKit Go.Shelf Go.Proofs.YtoabnpdoicbpiaaGreat.Nm
def formK (ks : List Kind) : ByteArray := ⟨(ks.map letter).toArray⟩
theorem formK_size (ks : List Kind) : (formK ks).size = ks.length := by simp [formK, ByteArray.size]
theorem formK_at (ks : List Kind) (i : Nat) (h : i < ks.length) : bt (formK ks) i = (letter ks[i]).toNat := by
 have h2 : i < (formK ks).size := by rw [formK_size]; exact h
 rw [← bt_eq h2]
 simp [formK, ByteArray.getElem_eq_getElem_data]
def byteC (ps : List (Kind × ByteArray)) : List Value := ps.map fun q => .string q.2
def rpEnd (w : World) (r : Option (List (Kind × ByteArray))) (e : Ending) (w' : World) : Prop := match r with
 | some ps => ∃ p c, e = .returned (.tuple #[.slice p ps.length c, .bool true]) ∧ w'.ownsRow w.heap.size 9 1 (.slice p ps.length c) ps.length (byteC ps)
 | none => ∃ p n c, e = .returned (.tuple #[.slice p n c, .bool false])
set_option maxRecDepth 100000 in
set_option maxHeartbeats 1000000 in
theorem refParts_any (ks : List Kind) (d : ByteArray) (w : World) (hd : d.size ≤ 65535) (hkl : ks.length ≤ 9) (hok : ∀ k ∈ ks, okK k) :
  Calls Tryz.prog 129 #[.string (formK ks), .string d] w fun e w' => rpEnd w (partsOf ks d) e w' ∧ Below w.heap.size w w' := by
 obtain ⟨i0, hi0, hz0, hz1, hz2⟩ := info_parts Tryz.infoStr
 have HOK := hide' hok
 have hfs := formK_size ks
 have HFA := hide' (formK_at ks)
 obtain ⟨F, hF⟩ : ∃ F, formK ks = F := ⟨_, rfl⟩
 rw [hF] at hfs HFA ⊢
 clear hF hok
 go_enter Tryz.func129, Tryz.ntmps129
 go_wp2_with fail
 go_loopw [1, 6, 7] (fun dv ov kv wr => ∃ (r : ByteArray) (ps : List (Kind × ByteArray)) (i : Nat), dv = .string r ∧ kv = .int .i64 i ∧ i ≤ ks.length ∧ Hid (ps.length = i) ∧ r.size ≤ d.size ∧ Hid (partsOf ks d = (partsOf (ks.drop i) r).map (ps ++ ·)) ∧ wr.ownsRow w.heap.size 9 1 ov i (byteC ps) ∧ Below w.heap.size w wr) (fun _ _ kv _ => ks.length - (intOf kv).toNat)
 case atStart => exact ⟨d, [], 0, rfl, rfl, Nat.zero_le _, rfl, Nat.le_refl _, by simp [Hid], World.ownsRow_nil _ _ _ _, Below.refl _ _⟩
 case round =>
  obtain ⟨r, ps, i, rfl, rfl, hi, HPI, hrd, HP, hown, hBr⟩ := hrel
  by_cases hlt : i < ks.length
  ·obtain ⟨k, hk2⟩ : ∃ k, ks[i] = k := ⟨_, rfl⟩
   obtain ⟨y, hy, HY, hyl⟩ := bt_wrap (s := F) (i := i) (by omega)
   have hyk : y = (letter k).toNat := by rw [← HY, HFA.out i hlt, hk2]
   have HC := hide' (fun w => refSize_any k r w (by omega) (HOK.out k (by rw [← hk2]; exact List.getElem_mem hlt)))
   rw [← hyk] at HC
   have hP : partsOf ks d = (match kindSize k r with | none => none | some n => (partsOf (ks.drop (i + 1)) (r.extract n r.size)).map ((k, r.extract 0 n) :: ·)).map (ps ++ ·) := by
    rw [HP.out, List.drop_eq_getElem_cons hlt, hk2]; rfl
   have hlt2 : i < F.size := by omega
   clear HP HY hyk
   cases hsz : kindSize k r with
   | none =>
    rw [hsz] at HC hP
    have HE : Hid (partsOf ks d = none) := hP
    clear hP hsz hk2
    go_wp2_with (go_at_call 141; refine (HC.out _).mono ?_; rintro e w2 ⟨rfl, hB2⟩; simp only [szI])
    go_ret2
    exact ⟨by rw [HE.out]; exact ⟨none, 0, 0, rfl⟩, bstep hBr hB2 hBr.size⟩
   | some n =>
    rw [hsz] at HC hP
    have hn := kindSize_le hsz
    have HE : Hid (partsOf ks d = (partsOf (ks.drop (i + 1)) (r.extract n r.size)).map ((ps ++ [(k, r.extract 0 n)]) ++ ·)) := by
     unfold Hid; rw [hP]; simp only [Option.map_map]; congr 1; funext q; simp
    have HBC : Hid (byteC (ps ++ [(k, r.extract 0 n)]) = byteC ps ++ [.string (r.extract 0 n)]) := by simp [Hid, byteC]
    have hrz : (r.extract n r.size).size = r.size - n := size_extract' _ _ _ (Nat.le_refl _)
    clear hP hsz hk2
    go_wp2_with (first
     | (go_at_call 141; refine (HC.out _).mono ?_; rintro e w2 ⟨rfl, hB2⟩; simp only [szI]; have hown2 := ownsRow_below hown hB2; have hBw2 : Below w.heap.size w w2 := bstep hBr hB2 hBr.size)
     | (at_builtin; refine wpList_append_own _ rfl _ _ 93 rfl w.heap.size 9 i0 (.string .empty) 1 16 Tryz.underlying93 hi0 hz0 hz1 hz2 rfl (by decide) _ _ _ rfl (hown2.alloc _) ⟨w2.heap.size, 0, none⟩ 1 1 [.string (r.extract 0 n)] rfl rfl (cell_one_new _ _ _) (by simp [Value.oneCell']) (by unfold maxLen; omega) (by omega) (by have := hBw2.size; simp; omega) ?_; intro v4 w4 hown4 hgrow4 _))
    refine ⟨⟨r.extract n r.size, ps ++ [(k, r.extract 0 n)], i + 1, rfl, by go_num, hlt, by unfold Hid; rw [List.length_append, HPI.out]; rfl, by omega, HE, ?_, below_app hBw2 (Nat.le_refl _) hown2 hgrow4⟩, by simp [intOf]; omega⟩
    rw [HBC.out]; exact hown4
  ·obtain rfl : i = ks.length := by omega
   have hP := HP.out
   rw [List.drop_length] at hP
   clear HP
   obtain ⟨p, c, rfl, hpc, hc9, _⟩ := owns_shape hown
   by_cases h0 : r.size = 0
   ·have he := isEmpty_true h0
    have HE : Hid (partsOf ks d = some ps) := by unfold Hid; rw [hP]; unfold partsOf; rw [if_pos h0]; simp
    clear hP h0
    go_wp2
    go_ret2
    refine ⟨?_, hBr⟩
    rw [HE.out]
    have hl := HPI.out
    exact ⟨p, c, by rw [hl]; rfl, by rw [hl]; exact hown⟩
   ·have he := isEmpty_false (r := r) (by omega)
    have HE : Hid (partsOf ks d = none) := by unfold Hid; rw [hP]; unfold partsOf; rw [if_neg h0]; rfl
    clear hP h0
    go_wp2
    go_ret2
    exact ⟨by rw [HE.out]; exact ⟨_, _, _, rfl⟩, hBr⟩
end Go.Proofs.YtoabnpdoicbpiaaGreat
namespace Go.Proofs.YtoabnpdoicbpiaaGreat
set_option linter.unusedVariables false
open Go.RowKit Go.Shelf Go.Proofs.YtoabnpdoicbpiaaGreat.Nm
theorem kinds_ok {t : Int} {ks : List Kind} (h : kindsOf t = some ks) : ks = [.unknown] ∨ ((∀ k ∈ ks, okK k) ∧ 1 ≤ ks.length) := by
 unfold kindsOf at h
 by_cases hc : t = 1
 ·rw [if_pos hc] at h; cases h; right; simp [okK]
 rw [if_neg hc] at h; clear hc
 by_cases hc : t = 2 ∨ t = 5 ∨ t = 12 ∨ t = 39
 ·rw [if_pos hc] at h; cases h; right; simp [okK]
 rw [if_neg hc] at h; clear hc
 by_cases hc : t = 6
 ·rw [if_pos hc] at h; cases h; right; simp [okK]
 rw [if_neg hc] at h; clear hc
 by_cases hc : t = 13
 ·rw [if_pos hc] at h; cases h; right; simp [okK]
 rw [if_neg hc] at h; clear hc
 by_cases hc : t = 15
 ·rw [if_pos hc] at h; cases h; right; simp [okK]
 rw [if_neg hc] at h; clear hc
 by_cases hc : t = 16
 ·rw [if_pos hc] at h; cases h; right; simp [okK]
 rw [if_neg hc] at h; clear hc
 by_cases hc : t = 28
 ·rw [if_pos hc] at h; cases h; right; simp [okK]
 rw [if_neg hc] at h; clear hc
 by_cases hc : t = 33
 ·rw [if_pos hc] at h; cases h; right; simp [okK]
 rw [if_neg hc] at h; clear hc
 by_cases hc : t = 35
 ·rw [if_pos hc] at h; cases h; right; simp [okK]
 rw [if_neg hc] at h; clear hc
 by_cases hc : t = 43
 ·rw [if_pos hc] at h; cases h; right; simp [okK]
 rw [if_neg hc] at h; clear hc
 by_cases hc : t = 46
 ·rw [if_pos hc] at h; cases h; right; simp [okK]
 rw [if_neg hc] at h; clear hc
 by_cases hc : t = 47
 ·rw [if_pos hc] at h; cases h; right; simp [okK]
 rw [if_neg hc] at h; clear hc
 by_cases hc : t = 48
 ·rw [if_pos hc] at h; cases h; right; simp [okK]
 rw [if_neg hc] at h; clear hc
 by_cases hc : t = 50
 ·rw [if_pos hc] at h; cases h; right; simp [okK]
 rw [if_neg hc] at h; clear hc
 by_cases hc : t = 51
 ·rw [if_pos hc] at h; cases h; right; simp [okK]
 rw [if_neg hc] at h; clear hc
 by_cases hc : t = 257
 ·rw [if_pos hc] at h; cases h; right; simp [okK]
 rw [if_neg hc] at h; clear hc
 by_cases hc : isDT t = true
 ·rw [if_pos hc] at h; cases h; left; rfl
 rw [if_neg hc] at h; clear hc
 cases h
theorem formB_kinds {t : Int} {ks : List Kind} (h : kindsOf t = some ks) : formB t = formK ks := by unfold formB; rw [h]; rfl
theorem form_dash {ks : List Kind} (h : ∀ k ∈ ks, okK k) (hl : 1 ≤ ks.length) : ((formK ks).toList == [45]) = false := by
 rw [beq_eq_false_iff_ne]
 intro e
 have e2 : (formK ks).toList = ks.map letter := by rw [toList_eq]; simp [formK]
 rw [e2] at e
 cases ks with
 | nil => cases e
 | cons k ks =>
  simp at e
  have h1 := h k (List.mem_cons_self ..)
  have h2 := e.1
  rcases kind_cases k with rfl | rfl | rfl | rfl | rfl | rfl | rfl | rfl | rfl | rfl | rfl | rfl | rfl | ⟨n, rfl⟩ <;> first | (exact h1.elim; done) | (simp [letter] at h2; done) | skip
  rcases h1 with rfl | rfl | rfl <;> simp [letter] at h2
theorem parts_kinds : ∀ (ks : List Kind) (d : ByteArray) (ps : List (Kind × ByteArray)), partsOf ks d = some ps → ps.map (·.1) = ks
 | [], d, ps, h => by unfold partsOf at h; split at h <;> simp at h; subst h; rfl
 | k :: ks, d, ps, h => by
  unfold partsOf at h
  cases hs : kindSize k d with
  | none => rw [hs] at h; cases h
  | some n =>
   rw [hs] at h
   simp only [Option.map_eq_some_iff] at h
   obtain ⟨r, hr, rfl⟩ := h
   simp [parts_kinds ks _ r hr]
theorem parts_unknown (d : ByteArray) : partsOf [.unknown] d = some [(.unknown, d)] := by
 unfold partsOf
 show ((partsOf [] (d.extract d.size d.size)).map ((Kind.unknown, d.extract 0 d.size) :: ·)) = _
 unfold partsOf
 rw [if_pos (by rw [size_extract' _ _ _ (Nat.le_refl _)]; omega), extract_self]
 rfl
set_option maxRecDepth 100000 in
set_option maxHeartbeats 1000000 in
theorem refCheckData_any (t : Int) (d : ByteArray) (w : World) (hd : d.size ≤ 9223372036854775807) :
  Calls Tryz.prog 110 #[.int .i64 t, .string d] w fun e w' => e = .returned (.int .i64 (errD t d : Int)) ∧ Below w.heap.size w w' := by
 have HF := hide' (fun w => form_any t w)
 cases hk : kindsOf t with
 | none =>
  have hf : formB t = ⟨#[]⟩ := by unfold formB; rw [hk]
  have HE : Hid (errD t d = 6) := by unfold Hid errD; rw [hk]
  rw [hf] at HF
  clear hf hk
  go_enter Tryz.func110, Tryz.ntmps110
  go_wp2_with (go_at_call 128; refine (HF.out _).mono ?_; rintro e w1 ⟨rfl, rfl⟩)
  go_ret
  exact ⟨by rw [HE.out]; rfl, Below.refl _ _⟩
 | some ks =>
  have hf := formB_kinds hk
  rw [hf] at HF
  have hkl := kinds_few hk
  have hfs := formK_size ks
  have hl1 : 1 ≤ ks.length := by
   rcases kinds_ok hk with rfl | h
   ·decide
   ·exact h.2
  have he := isEmpty_false (r := formK ks) (by omega)
  by_cases hl : 65535 < d.size
  ·have hp : partsD t d = none := by unfold partsD; rw [hk]; show (if _ then _ else _) = _; rw [if_pos hl]
   have HE : Hid (errD t d = 7) := by unfold Hid errD; rw [hk, hp]
   obtain ⟨F, hF⟩ : ∃ F, formK ks = F := ⟨_, rfl⟩
   rw [hF] at HF he
   clear hf hk hp hkl hfs hl1
   go_enter Tryz.func110, Tryz.ntmps110
   go_wp2_with (go_at_call 128; refine (HF.out _).mono ?_; rintro e w1 ⟨rfl, rfl⟩)
   go_ret
   exact ⟨by rw [HE.out]; rfl, Below.refl _ _⟩
  ·have hp : partsD t d = partsOf ks d := by unfold partsD; rw [hk]; show (if _ then _ else _) = _; rw [if_neg hl]
   have hds : d.size ≤ 65535 := by omega
   rcases kinds_ok hk with rfl | ⟨hok, _⟩
   ·have HE : Hid (errD t d = 0) := by unfold Hid errD; rw [hk, hp, parts_unknown]
    have hf2 : formK [.unknown] = ⟨#[45]⟩ := rfl
    rw [hf2] at HF
    clear hf hk hp hkl hfs hl1 he hf2
    go_enter Tryz.func110, Tryz.ntmps110
    go_wp2_with (go_at_call 128; refine (HF.out _).mono ?_; rintro e w1 ⟨rfl, rfl⟩)
    go_ret
    exact ⟨by rw [HE.out]; rfl, Below.refl _ _⟩
   ·have hdash := form_dash hok hl1
    have HP := hide' (fun w => refParts_any ks d w hds hkl hok)
    have HE : Hid (errD t d = match partsOf ks d with | none => 7 | some _ => 0) := by unfold Hid errD; rw [hk, hp]; cases partsOf ks d <;> rfl
    obtain ⟨F, hF⟩ : ∃ F, formK ks = F := ⟨_, rfl⟩
    rw [hF] at HF he hdash HP
    clear hf hk hp hkl hfs hl1 hok
    cases hq : partsOf ks d with
    | none =>
     rw [hq] at HP
     have HE2 : Hid (errD t d = 7) := by unfold Hid; rw [HE.out, hq]
     clear hq HE
     go_enter Tryz.func110, Tryz.ntmps110
     go_wp2_with (first
      | (go_at_call 128; refine (HF.out _).mono ?_; rintro e w1 ⟨rfl, rfl⟩)
      | (go_at_call 129; refine (HP.out _).mono ?_; rintro e w2 ⟨⟨p, n, c, rfl⟩, hB2⟩))
     go_ret
     exact ⟨by rw [HE2.out]; rfl, hB2⟩
    | some ps =>
     rw [hq] at HP
     have HE2 : Hid (errD t d = 0) := by unfold Hid; rw [HE.out, hq]
     clear hq HE
     go_enter Tryz.func110, Tryz.ntmps110
     go_wp2_with (first
      | (go_at_call 128; refine (HF.out _).mono ?_; rintro e w1 ⟨rfl, rfl⟩)
      | (go_at_call 129; refine (HP.out _).mono ?_; rintro e w2 ⟨⟨p, c, rfl, hown⟩, hB2⟩))
     go_ret
     exact ⟨by rw [HE2.out]; rfl, hB2⟩
end Go.Proofs.YtoabnpdoicbpiaaGreat
namespace Go.Proofs.YtoabnpdoicbpiaaGreat
set_option linter.unusedVariables false
open Go.RowKit Go.Shelf Go.Proofs.YtoabnpdoicbpiaaGreat.Nm
theorem partsD_kinds {t : Int} {d : ByteArray} {ps : List (Kind × ByteArray)} (h : partsD t d = some ps) : ∃ ks, kindsOf t = some ks ∧ partsOf ks d = some ps ∧ d.size ≤ 65535 := by
 have hd := (parts_few h).2
 unfold partsD at h
 cases hk : kindsOf t with
 | none => rw [hk] at h; cases h
 | some ks =>
  rw [hk] at h
  change (if _ then _ else _) = _ at h
  split at h
  ·cases h
  ·exact ⟨ks, rfl, h, hd⟩
theorem letter_dom (k : Kind) (h : okK k) : (letter k).toNat = 110 ↔ k = .dom := by
 rcases kind_cases k with rfl | rfl | rfl | rfl | rfl | rfl | rfl | rfl | rfl | rfl | rfl | rfl | rfl | ⟨n, rfl⟩ <;> first | (exact h.elim; done) | decide | (rcases h with rfl | rfl | rfl <;> decide)
theorem byteC_get (ps : List (Kind × ByteArray)) (i : Nat) (h : i < ps.length) : (byteC ps)[i]? = some (.string ps[i].2) := by simp [byteC, h]
end Go.Proofs.YtoabnpdoicbpiaaGreat
namespace Go.Proofs.YtoabnpdoicbpiaaGreat
set_option linter.unusedVariables false
open Go.RowKit Go.Shelf Go.Proofs.YtoabnpdoicbpiaaGreat.Nm
theorem ba_cat (l : List UInt8) (F : ByteArray) : (⟨l.toArray⟩ : ByteArray) ++ F = ⟨(l ++ F.data.toList).toArray⟩ := by apply ByteArray.ext; simp
theorem foldL_len : ∀ (ps : List (Kind × ByteArray)), (∀ q ∈ ps, q.2.size ≤ 65535) → (foldL ps).length ≤ ps.length * 65535
 | [], _ => by simp [foldL]
 | q :: ps, h => by
  have h1 := foldL_len ps (fun x hx => h x (List.mem_cons_of_mem _ hx))
  have h2 := h q (List.mem_cons_self ..)
  have h3 := foldP_size q
  have e : (foldL (q :: ps)).length = (foldP q).size + (foldL ps).length := by simp [foldL]
  rw [e, List.length_cons]; omega
set_option maxRecDepth 100000 in
set_option maxHeartbeats 1000000 in
theorem refFoldData_any (t : Int) (d : ByteArray) (w : World) (hd : d.size ≤ 9223372036854775807) :
  Calls Tryz.prog 132 #[.int .i64 t, .string d] w fun e w' => e = .returned (.string (foldD t d)) ∧ Below w.heap.size w w' := by
 have HC := hide' (fun w => refCheckData_any t d w hd)
 have HF := hide' (fun w => form_any t w)
 cases hp : partsD t d with
 | none =>
  have HN : Hid (foldD t d = ⟨#[]⟩) := by unfold Hid foldD; rw [hp]
  have he := errD_of_none hp
  clear hp
  rcases he with he | he
  all_goals
   rw [he] at HC
   clear he
   go_enter Tryz.func132, Tryz.ntmps132
   go_wp2_with (first
    | (go_at_call 110; refine (HC.out w).mono ?_; rintro e w1 ⟨rfl, hB1⟩)
    | (go_at_call 110; refine (HC.out _).mono ?_; rintro e w2 ⟨rfl, hB2⟩))
   go_ret
   exact ⟨by rw [HN.out]; rfl, bstep hB1 hB2 hB1.size⟩
 | some ps =>
  have HN : Hid (foldD t d = ⟨(foldL ps).toArray⟩) := by unfold Hid foldD; rw [hp]
  obtain ⟨hps, hds⟩ := parts_few hp
  have HS := hide' (partsD_small hp)
  obtain ⟨ks, hk, hq, _⟩ := partsD_kinds hp
  rw [errD_of_parts hp] at HC
  have hf := formB_kinds hk
  rw [hf] at HF
  rcases kinds_ok hk with rfl | ⟨hok, hl1⟩
  ·have hq2 := parts_unknown d
   rw [hq] at hq2
   injection hq2 with hq2
   have HN2 : Hid (foldD t d = d) := by unfold Hid; rw [HN.out, hq2]; apply ByteArray.ext; simp [foldL, foldP]; rw [if_neg (by decide)]
   have hf2 : formK [.unknown] = ⟨#[45]⟩ := rfl
   rw [hf2] at HF
   clear hf hk hp hq hq2 HN hf2
   go_enter Tryz.func132, Tryz.ntmps132
   go_wp2_with (first
    | (go_at_call 110; refine (HC.out w).mono ?_; rintro e w1 ⟨rfl, hB1⟩)
    | (go_at_call 110; refine (HC.out _).mono ?_; rintro e w2 ⟨rfl, hB2⟩)
    | (go_at_call 128; refine (HF.out _).mono ?_; rintro e wf ⟨rfl, rfl⟩))
   go_ret
   exact ⟨by rw [HN2.out]; rfl, bstep hB1 hB2 hB1.size⟩
  ·have hdash := form_dash hok hl1
   have HP := hide' (fun w => refParts_any ks d w hds (kinds_few hk) hok)
   have hfs := formK_size ks
   have hkp := parts_kinds ks d ps hq
   have hkl : ks.length = ps.length := by rw [← hkp, List.length_map]
   have HFA : Hid (∀ i, (h : i < ps.length) → (bt (formK ks) i = 110 ↔ ps[i].1 = .dom)) := fun i h => by
    have h2 : i < ks.length := by omega
    have e : ks[i] = ps[i].1 := by simp only [← hkp, List.getElem_map]
    rw [formK_at ks i h2, letter_dom _ (hok _ (List.getElem_mem h2)), e]
   rw [hkl] at hfs
   rw [hq] at HP
   obtain ⟨F, hF⟩ : ∃ F, formK ks = F := ⟨_, rfl⟩
   rw [hF] at HF hdash HP hfs HFA
   clear hf hk hp hq hok hl1 hkp hkl hF
   go_enter Tryz.func132, Tryz.ntmps132
   go_wp2_with (first
    | (go_at_call 110; refine (HC.out w).mono ?_; rintro e w1 ⟨rfl, hB1⟩)
    | (go_at_call 128; refine (HF.out _).mono ?_; rintro e wf ⟨rfl, rfl⟩)
    | (go_at_call 129; refine (HP.out _).mono ?_; rintro e w2 ⟨⟨p, c, rfl, hown⟩, hB2⟩))
   have hBw2 : Below w.heap.size w w2 := bstep hB1 hB2 hB1.size
   go_loopw [8, 34] (fun sv iv wr => ∃ i : Nat, iv = .int .i64 i ∧ i ≤ ps.length ∧ sv = .string ⟨(foldL (ps.take i)).toArray⟩ ∧ Below w2.heap.size w2 wr) (fun _ iv _ => ps.length - (intOf iv).toNat)
   case atStart => exact ⟨0, rfl, Nat.zero_le _, rfl, Below.refl _ _⟩
   case round =>
    obtain ⟨i, rfl, hi2, rfl, hBr⟩ := hrel
    by_cases hlt : i < ps.length
    ·obtain ⟨g, rfl, hg2⟩ : ∃ g, p = some ⟨g, 0, none⟩ ∧ g < w2.heap.size := by
      obtain ⟨_, (⟨h1, h2⟩ | ⟨g, cap, cur, h1, hb, hg, hn, hcap, _⟩)⟩ := hown
      ·omega
      ·injection h1 with h1; exact ⟨g, h1, (Array.getElem?_eq_some_iff.1 hg).1⟩
     have hc1 : wr.cell? ⟨g, i, none⟩ = some (.string ps[i].2) := by
      rw [hBr.cell hg2, hown.cellAt i (by omega)]; exact byteC_get ps i hlt
     have hfl := foldL_len (ps.take i) (fun q hq => HS.out q (List.mem_of_mem_take hq))
     rw [List.length_take] at hfl
     have HTK : Hid (foldL (ps.take (i + 1)) = foldL (ps.take i) ++ (foldP ps[i]).data.toList) := by
      unfold Hid; rw [List.take_succ_eq_append_getElem hlt, foldL_snoc]
     have hqs := HS.out ps[i] (List.getElem_mem hlt)
     have hqf := foldP_size ps[i]
     have hfa := HFA.out i hlt
     generalize ps[i] = q at *
     obtain ⟨k, b⟩ := q
     simp only at hc1 HTK hfa hqs hqf
     obtain ⟨y, hy, HY, hyl⟩ := bt_wrap (s := F) (i := i) (by omega)
     rw [HY] at hfa
     have hlt2 : i < F.size := by omega
     obtain ⟨L, hL⟩ : ∃ L, foldL (ps.take i) = L := ⟨_, rfl⟩
     obtain ⟨G, hG⟩ : ∃ G, foldP (k, b) = G := ⟨_, rfl⟩
     have hLs : (⟨L.toArray⟩ : ByteArray).size = L.length := by simp [ByteArray.size]
     rw [hL] at hfl HTK ⊢
     rw [hG] at HTK hqf
     have hss : (⟨L.toArray⟩ : ByteArray).size + G.size ≤ 4294967296 := by
      have : L.length ≤ 9 * 65535 := Nat.le_trans hfl (Nat.mul_le_mul_right _ (by omega))
      omega
     have had : ∀ W : World, (Op.stringOp .add ⟨L.toArray⟩ G).run Tryz.prog W = .ok (.string ⟨(foldL (ps.take (i + 1))).toArray⟩) W := fun W => by
      rw [HTK.out, ← ba_cat]; exact run_string_add_sum W _ _ (by omega)
     clear hL HY hfl hLs hss hqf HTK
     by_cases hkd : k = .dom
     ·obtain rfl := hfa.2 hkd
      have HG : Hid (foldB b = G) := by unfold Hid; rw [← hG]; unfold foldP; rw [if_pos hkd]
      have HFO := hide' (fun w => foldName_any b w (by omega))
      rw [HG.out] at HFO
      clear hkd hfa hG HG
      go_wp2_with (go_at_call 133; refine (HFO.out _).mono ?_; rintro e w3 ⟨rfl, hB3⟩)
      exact ⟨⟨i + 1, by go_num, hlt, rfl, bstep hBr hB3 hBr.size⟩, by simp [intOf]; omega⟩
     ·have hGb : b = G := by rw [← hG]; unfold foldP; rw [if_neg hkd]
      subst hGb
      have hy0 : ((y : Int) == 110) = false := by
       rw [beq_eq_false_iff_ne]; intro e; exact hkd (hfa.1 (by omega))
      clear hkd hfa hG
      go_wp2
      exact ⟨⟨i + 1, by go_num, hlt, rfl, hBr⟩, by simp [intOf]; omega⟩
    ·obtain rfl : i = ps.length := by omega
     rw [List.take_length]
     go_wp2
     go_ret
     exact ⟨by rw [HN.out]; rfl, bstep hBw2 hBr hBw2.size⟩
end Go.Proofs.YtoabnpdoicbpiaaGreat
