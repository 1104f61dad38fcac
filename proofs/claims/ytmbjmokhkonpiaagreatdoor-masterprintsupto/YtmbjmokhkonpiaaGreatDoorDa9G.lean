import Derived.Test.YtmbjmokhkonpiaaGreatDoorWs1G
import Derived.Test.YtmbjmokhkonpiaaGreatDoorSd1G
import Derived.Lib.AtoiErrMem
import Derived.Lib.SlBytesRow
import Derived.Test.YtmbjmokhkonpiaaGreatDoorDa6G
import Derived.Deep.RegionLaw
/-
  Proofs: strconv.FormatInt in base 16. (The verifier's own text.)
-/
namespace Go.Proofs.YtmbjmokhkonpiaaGreatDoor
set_option linter.unusedVariables false
set_option linter.unusedSimpArgs false
open Go.RowKit Go.Shelf Go.Proofs.YtmbjmokhkonpiaaGreatDoor.Nm

/-- the place of the one bit of 16 lies where it must -/
def Gb (w : World) : Prop := w.cell? ⟨4, 15, none⟩ = some (.int .u8 4)
theorem Gb.below {w w' : World} (h : Gb w) (hb : Below w.heap.size w w') : Gb w' := (hb.cell (Lib.lt_of_cell h)).trans h
theorem tz64_any (w : World) (hG : Gb w) : Calls Tryz.prog 85 #[.int .u64 16] w fun e w' => e = .returned (.int .i64 4) ∧ w' = w := by
  have hc := hG
  unfold Gb at hc
  have hx : IntKind.u64.wrap (bits .and .u64 16 (IntKind.u64.wrap (-16)) * 285870213051353865) / 288230376151711744 = 15 := by decide +kernel
  go_enter Tryz.func85, Tryz.ntmps85
  go_wp2
  go_ret
  exact ⟨rfl, rfl⟩
theorem tz_any (w : World) (hG : Gb w) : Calls Tryz.prog 83 #[.int .u64 16] w fun e w' => e = .returned (.int .i64 4) ∧ w' = w := by
  go_enter Tryz.func83, Tryz.ntmps83
  go_wp2_with (go_at_call 85; refine (tz64_any _ hG).mono ?_; rintro e w2 ⟨rfl, rfl⟩)
  go_ret
  exact ⟨rfl, rfl⟩
theorem pow2_any (w : World) : Calls Tryz.prog 82 #[.int .i64 16] w fun e w' => e = .returned (.bool true) ∧ w' = w := by
  have hx : (bits .and .i64 16 15 == 0) = true := by decide +kernel
  go_enter Tryz.func82, Tryz.ntmps82
  go_wp2
  go_ret
  exact ⟨rfl, rfl⟩
theorem zero65 (w : World) : (zeroValue 125).run Tryz.prog w = .ok (.agg (Array.replicate 65 (.int .u8 0))) w := by kernel_rfl
theorem size65 : (Tryz.prog.info? 125).map (·.size) = some 65 := by kernel_rfl
theorem holdsB_65 (w : World) (t : TypeId) : HoldsB (w.alloc (.cells (Array.replicate 65 (.int .u8 0)) t)) w.heap.size 65 (fun _ => 0) := by
  refine ⟨by simp, fun j hj => ?_, fun j hj => ?_⟩
  · rw [World.cell?_alloc_mark]
    simp [hj]
  · have : (w.alloc (.cells (Array.replicate 65 (.int .u8 0)) t)).heap[w.heap.size]? = some (.cells (Array.replicate 65 (.int .u8 0)) t) := by
      show (w.heap.push _)[w.heap.size]? = _
      simp
    simp only [World.frozen?, this]
    simp
/-- the digits that stand at the end of 65 places -/
def lst65 (D : List Nat) (pos : Nat) : Nat := if 65 - D.length ≤ pos then bt d16 (D.getD (pos - (65 - D.length)) 0) else 0
theorem lst65_cons (D : List Nat) (x : Nat) (hD : D.length ≤ 4) (pos : Nat) (hp : pos < 65) : (if pos = 65 - D.length - 1 then bt d16 x else lst65 D pos) = lst65 (x :: D) pos := by
  unfold lst65
  rw [List.length_cons]
  by_cases e : pos = 65 - D.length - 1
  · rw [if_pos e, if_pos (by omega), show pos - (65 - (D.length + 1)) = 0 by omega]
    rfl
  · rw [if_neg e]
    by_cases h : 65 - D.length ≤ pos
    · rw [if_pos h, if_pos (by omega), show pos - (65 - (D.length + 1)) = (pos - (65 - D.length)) + 1 by omega, List.getD_cons_succ]
    · rw [if_neg h, if_neg (by omega)]
set_option maxRecDepth 100000 in
set_option maxHeartbeats 8000000 in
/-- internal/strconv.formatBits in base 16 -/
theorem formatBits_any (U : Nat) (w : World) (hU : U ≤ 65535) (hG : Gb w) :
    Calls Tryz.prog 75 #[.slice none 0 0, .int .u64 (U : Int), .int .i64 16, .bool false, .bool false] w fun e w' => e = .returned (.tuple #[.slice none 0 0, .string (bts (hxL U))]) ∧ Below w.heap.size w w' := by
  have hz := zero65
  have hs := size65
  obtain ⟨wa, hwa⟩ : ∃ wa, w.alloc (.cells (Array.replicate 65 (.int .u8 0)) 125) = wa := ⟨_, rfl⟩
  have HBa : Hid (Below w.heap.size w wa) := hwa ▸ (Below.refl _ w).alloc (Nat.le_refl _) _
  have HHa : Hid (HoldsB wa w.heap.size 65 (lst65 [])) := hwa ▸ (holdsB_65 w 125).congr (fun j hj => by unfold lst65; rw [if_neg (by simp; omega)])
  have HP := hide' (fun V => pow2_any V)
  have HTz : Hid (∀ V, Below w.heap.size w V → Calls Tryz.prog 83 #[.int .u64 16] V fun e w' => e = .returned (.int .i64 4) ∧ w' = V) := fun V h => tz_any V (hG.below h)
  go_enter Tryz.func75, Tryz.ntmps75
  go_wp2_with (first
    | (go_at_call 82; refine (HP.out _).mono ?_; rintro e0 w2 ⟨rfl, hw0⟩; have hw0' := hw0.symm; subst hw0')
    | (go_at_call 83; refine (HTz.out _ HBa.out).mono ?_; rintro e0 w2 ⟨rfl, hw0⟩; have hw0' := hw0.symm; subst hw0'))
  go_loopw [1, 13] (fun uv iv wr => ∃ (u i : Nat) (D : List Nat), uv = .int .u64 (u : Int) ∧ iv = .int .i64 (i : Int) ∧ u ≤ 65535 ∧ 62 ≤ i ∧ i ≤ 65 ∧ Hid (i = 65 - D.length) ∧ Hid (hxV U = hxV u ++ D) ∧ Hid (HoldsB wr w.heap.size 65 (lst65 D)) ∧ Hid (Below w.heap.size w wr)) (fun uv _ _ => (intOf uv).toNat)
  case atStart => exact ⟨U, 65, [], rfl, rfl, hU, by omega, by omega, rfl, (by unfold Hid; rw [List.append_nil]), HHa.out, HBa.out⟩
  case round =>
    clear HBa HHa hwa
    obtain ⟨u, i, D, rfl, rfl, hu, hi0, hi1, HI, HX, HH, HB⟩ := hrel
    have HD : Hid (D.length ≤ 3) := by
      unfold Hid
      have h1 := hxV_len 3 U (by omega)
      have h2 := hxV_pos u
      rw [HX.out, List.length_append] at h1
      omega
    obtain ⟨p, hp⟩ : ∃ p : Nat, i = p + 1 := ⟨i - 1, by omega⟩
    have hpi : (i : Int) - 1 = (p : Int) := by omega
    have hpl : p < 65 := by omega
    have HP2 := hide' hp
    obtain ⟨v, hv⟩ : ∃ v, u % 16 = v := ⟨_, rfl⟩
    have hvl : v < 16 := by omega
    have hC36 : ∀ x, x < 16 → bt ⟨#[48, 49, 50, 51, 52, 53, 54, 55, 56, 57, 97, 98, 99, 100, 101, 102, 103, 104, 105, 106, 107, 108, 109, 110, 111, 112, 113, 114, 115, 116, 117, 118, 119, 120, 121, 122]⟩ x = bt d16 x := by decide +kernel
    have hv36 : v < (⟨#[48, 49, 50, 51, 52, 53, 54, 55, 56, 57, 97, 98, 99, 100, 101, 102, 103, 104, 105, 106, 107, 108, 109, 110, 111, 112, 113, 114, 115, 116, 117, 118, 119, 120, 121, 122]⟩ : ByteArray).size := Nat.lt_of_lt_of_le hvl (by decide)
    obtain ⟨y, hy, HY, hyl⟩ := bt_wrap (s := ⟨#[48, 49, 50, 51, 52, 53, 54, 55, 56, 57, 97, 98, 99, 100, 101, 102, 103, 104, 105, 106, 107, 108, 109, 110, 111, 112, 113, 114, 115, 116, 117, 118, 119, 120, 121, 122]⟩) (i := v) hv36
    have HYd : Hid (bt d16 v = y) := by unfold Hid; rw [← hC36 v hvl, HY]
    have HH' : Hid (HoldsB wr w.heap.size 65 (lst65 D)) := HH
    have hcell := HH.out.cell p hpl
    have hfree := HH.out.free p hpl
    have HS : ∀ V : World, HoldsB V w.heap.size 65 (lst65 D) → HoldsB (V.setCell ⟨w.heap.size, p, none⟩ (.int .u8 (y : Int))) w.heap.size 65 (lst65 (v :: D)) := fun V h => (h.set p y hpl).congr (fun j hj => by
      have := lst65_cons D v (by have := HD.out; omega) j hj
      rw [← this, HYd.out, show 65 - D.length - 1 = p by have := HI.out; have := HP2.out; omega])
    have HS := hide' HS
    clear hC36 HY hp
    by_cases hlt : 16 ≤ u
    · have hlI : (16 : Int) ≤ (u : Int) := by omega
      have hand : bits .and .u64 (u : Int) 15 = (v : Int) := by
        show IntKind.u64.wrap ((BitVec.ofInt 64 (u : Int) &&& BitVec.ofInt 64 15).toNat : Int) = _
        have e3 : (BitVec.ofInt 64 15).toNat = 2 ^ 4 - 1 := by decide
        rw [BitVec.toNat_and, e3, Nat.and_two_pow_sub_one_eq_mod, BitVec.toNat_ofInt]
        simp [IntKind.wrap, IntKind.bits, IntKind.signed]
        omega
      have HX2 : Hid (hxV U = hxV (u / 16) ++ (v :: D)) := by unfold Hid; rw [HX.out, hxV_step (by omega), hv]; simp
      clear hv
      have HDl : Hid (D.length ≤ 2) := by
        unfold Hid
        have h1 := hxV_len 3 U (by omega)
        have h2 := hxV_pos (u / 16)
        rw [HX2.out, List.length_append, List.length_cons] at h1
        omega
      go_wp2_with fail
      refine ⟨⟨u / 16, p, v :: D, by go_num, rfl, by omega, ?_, by omega, ?_, HX2, HS.out _ HH.out, HB.out.setCell (p := ⟨w.heap.size, p, none⟩) (Nat.le_refl _) _⟩, by simp [intOf]; omega⟩
      · have := HI.out; have := HP2.out; have := HDl.out; omega
      · unfold Hid; rw [List.length_cons]; have := HI.out; have := HP2.out; omega
    · have hlI : ¬ (16 : Int) ≤ (u : Int) := by omega
      have huv : u = v := by omega
      subst huv
      clear hv
      have HX3 : Hid (hxV U = u :: D) := by unfold Hid; rw [HX.out, hxV_small hvl]; rfl
      have HL : Hid ((bts (hxL U)).size = 65 - p) := by
        unfold Hid
        rw [bts_size, hxL_len, HX3.out, List.length_cons]
        have := HI.out; have := HP2.out
        omega
      have hsl : ∀ W : World, (Instr.sliceAt 125 (.pointer (some ⟨w.heap.size, 0, none⟩)) (some (.int .i64 (p : Int))) none none).run Tryz.prog W = .ok (.slice (some ⟨w.heap.size, p, none⟩) (65 - p) (65 - p)) W := fun W => by
        have hlen : Tryz.prog.arrayLen 125 = 65 := by kernel_rfl
        have hel : Tryz.prog.elem 125 = 5 := by kernel_rfl
        rw [run_sliceAt_array_l (P := Tryz.prog) W 125 ⟨w.heap.size, 0, none⟩ (by kernel_rfl) .i64 (p : Int) (by omega) (by rw [hlen]; omega), hlen, hel, Tryz.sizeOf5]
        simp only [Result.andThen, slicedAt, Int.toNat_natCast, Nat.mul_one]
        rw [if_neg (by omega)]
        unfold Addr.add
        rw [if_neg (by omega)]
        simp
      have hcv : (convert 34 9 (.slice (some ⟨w.heap.size, p, none⟩) (65 - p) (65 - p))).run Tryz.prog (wr.setCell ⟨w.heap.size, p, none⟩ (.int .u8 (y : Int))) = .ok (.string (bts (hxL U))) (wr.setCell ⟨w.heap.size, p, none⟩ (.int .u8 (y : Int))) := by
        have h := Lib.run_convert_whole (P := Tryz.prog) (wr.setCell ⟨w.heap.size, p, none⟩ (.int .u8 (y : Int))) 34 5 9 Tryz.underlying34 Tryz.underlying5 Tryz.underlying9 w.heap.size p (bts (hxL U)) (fun j hj => by
          have hj2 : j < 65 - p := by have := HL.out; omega
          rw [(HS.out _ HH.out).cell (p + j) (by omega)]
          have e1 : bt (bts (hxL U)) j = lst65 (u :: D) (p + j) := by
            have hjl : j < (hxL U).length := by rw [bts_size] at hj; exact hj
            rw [bts_bt (hxL U) (fun x hx => (hxL_ok U x hx).1) j hjl]
            have hdl : (u :: D).length = 65 - p := by have := HI.out; have := HP2.out; rw [List.length_cons]; omega
            unfold lst65
            rw [hdl, if_pos (by omega), show p + j - (65 - (65 - p)) = j by omega]
            have hjd : j < (u :: D).length := by omega
            unfold hxL
            simp only [HX3.out]
            rw [List.getElem_map, List.getD_eq_getElem?_getD, List.getElem?_eq_getElem hjd, Option.getD_some]
          rw [← e1, bt_eq hj]) (65 - p)
        rw [HL.out] at h
        exact h
      obtain ⟨T, hT⟩ : ∃ T, bts (hxL U) = T := ⟨_, rfl⟩
      rw [hT] at hcv
      have HT := hide' hT
      clear hT
      go_wp2_with fail
      go_ret2
      exact ⟨by rw [HT.out]; rfl, HB.out.setCell (p := ⟨w.heap.size, p, none⟩) (Nat.le_refl _) _⟩
set_option maxRecDepth 100000 in
set_option maxHeartbeats 2000000 in
/-- internal/strconv.FormatInt in base 16 -/
theorem formatInt0_any (U : Nat) (w : World) (hU : U ≤ 65535) (hG : Gb w) :
    Calls Tryz.prog 58 #[.int .i64 (U : Int), .int .i64 16] w fun e w' => e = .returned (.string (bts (hxL U))) ∧ Below w.heap.size w w' := by
  have HF := hide' (fun V (h : Gb V) => formatBits_any U V hU h)
  go_enter Tryz.func58, Tryz.ntmps58
  go_wp2_with (go_at_call 75; refine (HF.out _ hG).mono ?_; rintro e0 w2 ⟨rfl, hB⟩)
  go_ret
  exact ⟨rfl, hB⟩
set_option maxRecDepth 100000 in
/-- strconv.FormatInt in base 16 -/
theorem formatInt_any (U : Nat) (w : World) (hU : U ≤ 65535) (hG : Gb w) :
    Calls Tryz.prog 124 #[.int .i64 (U : Int), .int .i64 16] w fun e w' => e = .returned (.string (bts (hxL U))) ∧ Below w.heap.size w w' := by
  have HF := hide' (fun V (h : Gb V) => formatInt0_any U V hU h)
  go_enter Tryz.func124, Tryz.ntmps124
  go_wp2_with (go_at_call 58; refine (HF.out _ hG).mono ?_; rintro e0 w2 ⟨rfl, hB⟩)
  go_ret
  exact ⟨rfl, hB⟩
end Go.Proofs.YtmbjmokhkonpiaaGreatDoor

/-
  Proofs: the longest row of noughts among the groups. (The verifier's own text.)
-/
namespace Go.Proofs.YtmbjmokhkonpiaaGreatDoor
set_option linter.unusedVariables false
set_option linter.unusedSimpArgs false
open Go.RowKit Go.Shelf Go.Proofs.YtmbjmokhkonpiaaGreatDoor.Nm

/-- groups' words -/
def gsV (U : List Nat) : List Value := U.map fun u => Value.string (bts (hxL u))
theorem hx_zero (u : Nat) : bts (hxL u) = ⟨#[48]⟩ ↔ u = 0 := by
  constructor
  · intro h
    have h1 : (hxL u).length = 1 := by have := congrArg ByteArray.size h; rw [bts_size] at this; exact this
    have h2 : bt (bts (hxL u)) 0 = 48 := by rw [h]; rfl
    rw [bts_bt (hxL u) (fun x hx => (hxL_ok u x hx).1) 0 (by omega)] at h2
    refine (hxL_zero u).1 ?_
    refine List.ext_getElem (by rw [h1]; rfl) fun j h3 h4 => ?_
    obtain rfl : j = 0 := by omega
    exact h2
  · rintro rfl
    rw [(hxL_zero 0).2 rfl]
    rfl
set_option maxRecDepth 100000 in
set_option maxHeartbeats 4000000 in
/-- data.longestGap -/
theorem gap_any (U : List Nat) (g c : Nat) (w : World) (hU : U.length ≤ 8) (hc : U.length ≤ c) (hc2 : c ≤ 9223372036854775807) (hrow : ∀ j u, U[j]? = some u → w.cell? ⟨g, j, none⟩ = some (.string (bts (hxL u)))) :
    Calls Tryz.prog 125 #[.slice (some ⟨g, 0, none⟩) U.length c] w fun e w' => e = .returned (.tuple #[.int .i64 ((gapF U).1 : Int), .int .i64 ((gapF U).2 : Int)]) ∧ w' = w := by
  have HR := hide' hrow
  clear hrow
  go_enter Tryz.func125, Tryz.ntmps125
  go_wp2_with fail
  go_loopw [4, 5, 6, 11] (fun av bv dv iv wr => ∃ (i a b d : Nat), av = .int .i64 (a : Int) ∧ bv = .int .i64 (b : Int) ∧ dv = .int .i64 (d : Int) ∧ iv = .int .i64 (i : Int) ∧ i ≤ U.length ∧ a ≤ b ∧ b ≤ i ∧ d ≤ i ∧ Hid (gpS U 0 (0, 0, 0) = gpS (U.drop i) i (a, b, d)) ∧ Hid (wr = w)) (fun _ _ _ iv _ => U.length - (intOf iv).toNat)
  case atStart => exact ⟨0, 0, 0, 0, rfl, rfl, rfl, rfl, Nat.zero_le _, Nat.le_refl _, Nat.le_refl _, Nat.le_refl _, by unfold Hid; rw [List.drop_zero], rfl⟩
  case round =>
    obtain ⟨i, a, b, d, rfl, rfl, rfl, rfl, hi, hab, hb, hd, HG, HW⟩ := hrel
    have hw : wr = w := HW.out
    subst hw
    by_cases hlt : i < U.length
    · have hcell := HR.out i _ (List.getElem?_eq_getElem hlt)
      have HS : Hid (gpS (U.drop i) i (a, b, d) = gpS (U.drop (i + 1)) (i + 1) (gpN U[i] i (a, b, d))) := by
        unfold Hid
        rw [List.drop_eq_getElem_cons hlt, gpS_step]
      generalize U[i] = u at *
      have hq : ((bts (hxL u)).toList == [48]) = decide (bts (hxL u) = ⟨#[48]⟩) := by
        have h := toList_bt (bts (hxL u)) ⟨#[48]⟩
        rwa [show (⟨#[48]⟩ : ByteArray).toList = [48] by decide +kernel] at h
      have pk : (i : Int) < (U.length : Int) := by omega
      by_cases h0 : u = 0
      · rw [decide_eq_true ((hx_zero u).2 h0)] at hq
        by_cases hgt : b - a < i + 1 - d
        · have HN : Hid (gpN u i (a, b, d) = (d, i + 1, d)) := by unfold Hid gpN; rw [if_neg (by omega)]; simp only; rw [if_pos hgt]
          have pg : (b : Int) - (a : Int) < (i : Int) + 1 - (d : Int) := by omega
          clear h0
          generalize bts (hxL u) = x at *
          go_wp2
          exact ⟨⟨i + 1, d, i + 1, d, rfl, by go_num, rfl, by go_num, by omega, by omega, by omega, by omega, by unfold Hid; rw [HG.out, HS.out, HN.out], (by first | exact rfl | exact hide' trivial)⟩, by simp [intOf]; omega⟩
        · have HN : Hid (gpN u i (a, b, d) = (a, b, d)) := by unfold Hid gpN; rw [if_neg (by omega)]; simp only; rw [if_neg hgt]
          have pg : ¬ (b : Int) - (a : Int) < (i : Int) + 1 - (d : Int) := by omega
          clear h0
          generalize bts (hxL u) = x at *
          go_wp2
          exact ⟨⟨i + 1, a, b, d, rfl, rfl, rfl, by go_num, by omega, by omega, by omega, by omega, by unfold Hid; rw [HG.out, HS.out, HN.out], (by first | exact rfl | exact hide' trivial)⟩, by simp [intOf]; omega⟩
      · rw [decide_eq_false (fun h => h0 ((hx_zero u).1 h))] at hq
        have HN : Hid (gpN u i (a, b, d) = (a, b, i + 1)) := by unfold Hid gpN; rw [if_pos h0]
        clear h0
        generalize bts (hxL u) = x at *
        go_wp2
        exact ⟨⟨i + 1, a, b, i + 1, rfl, rfl, by go_num, by go_num, by omega, by omega, by omega, by omega, by unfold Hid; rw [HG.out, HS.out, HN.out], (by first | exact rfl | exact hide' trivial)⟩, by simp [intOf]; omega⟩
    · obtain rfl : i = U.length := by omega
      have HE : Hid (gapF U = (a, b)) := by
        unfold Hid gapF
        rw [HG.out, List.drop_length]
        rfl
      have pk : ¬ (U.length : Int) < (U.length : Int) := by omega
      clear HG
      go_wp2
      go_ret2
      exact ⟨by rw [HE.out]; rfl, rfl⟩
end Go.Proofs.YtmbjmokhkonpiaaGreatDoor

/-
  Proofs: what is told of an address of sixteen bytes. (The verifier's own text.)
-/
namespace Go.Proofs.YtmbjmokhkonpiaaGreatDoor
set_option linter.unusedVariables false
set_option linter.unusedSimpArgs false
open Go.RowKit Go.Shelf Go.Proofs.YtmbjmokhkonpiaaGreatDoor.Nm

theorem step_append_one {w w0 : World} {ops : Array Oper} {o : Oper} {a : Act} {K : Act → World → Prop} {Q : Exit → Act → World → Prop} {E : Prop} (hgd : o.guard = none) (s x : Operand)
    (ho : o.op = .call { callee := .builtin .append, args := #[s, x], argTypes := #[46, 46] })
    (T : ByteArray) (p : Option Addr) (n cp : Nat) (xs : List Value) (g : Nat) (hs : a.eval s = .slice p n cp) (hx : a.eval x = .slice (some ⟨g, 0, none⟩) 1 1) (hc : w.cell? ⟨g, 0, none⟩ = some (.string T))
    (hown : w.ownsRow w0.heap.size 9 1 (.slice p n cp) n xs) (hB : Below w0.heap.size w0 w) (hsm : n ≤ 4294967296)
    (h : ∀ p' c' w', w'.ownsRow w0.heap.size 9 1 (.slice p' (n + 1) c') (n + 1) (xs ++ [.string T]) → Below w0.heap.size w0 w' → K (a.put o.dst (.slice p' (n + 1) c')) w') :
    if Region.wanted o (yielded ops a.tmps) = true then Oper.wp Tryz.prog o a w K Q else E := by
  have hw : Region.wanted o (yielded ops a.tmps) = true := by simp [Region.wanted, hgd]
  rw [if_pos hw]
  obtain ⟨i0, hi, hz0, hz1, hz2⟩ := info_parts Tryz.infoStr
  obtain ⟨v', w', hr, h1, h2, -⟩ := run_append_own (P := Tryz.prog) w w0.heap.size 46 o.type 9 i0 (.string .empty) 1 16 Tryz.underlying46 hi hz0 hz1 hz2 rfl (by decide) (.slice p n cp) n xs hown ⟨g, 0, none⟩ 1 1 [.string T] rfl (fun j u hj => by
    match j, hj with
    | 0, hj => simp at hj; subst hj; simpa [Addr.add] using hc
    | j + 1, hj => simp at hj) (by simp [Value.oneCell']) (by unfold maxLen; omega) (by omega) hB.size
  unfold Oper.wp execOp
  simp only [ho, resolve, invoke, builtin, Sem.run_bind, Sem.run_pure, Result.andThen_ok, List.map_toArray, List.map_cons, List.map_nil, hs, hx, hr]
  obtain ⟨p', c', rfl, _⟩ := own_shape h1
  exact h p' c' w' h1 (hB.grown h2 hB.size (fun q e => ownBlock_le hown e))
/-- strings.Join of a window of texts -/
theorem join_at (c : Nat) (L : List (List Nat)) (g o cap : Nat) (w : World) (hc : ∀ j l, L[j]? = some l → w.cell? ⟨g, o + j, none⟩ = some (.string (bts l))) (hg : g < w.heap.size) (hcap : L.length ≤ cap) (hl : (jnC c L).length ≤ 1073741824) (hn : L.length ≤ 1073741824) :
    Calls Tryz.prog 37 #[.slice (some ⟨g, o, none⟩) L.length cap, .string (bts [c])] w fun e w' => e = .returned (.string (bts (jnC c L))) ∧ Below w.heap.size w w' := by
  have h := Any.strings_Join Tryz.lays156 Tryz.extra156 g o cap (L.map bts) (bts [c]) w (fun j x hx => ?_) hg (by rw [List.length_map]; omega) (by rw [List.length_map]; omega) ?_
  · rw [List.length_map] at h
    have e : (bts [c]).data.toList = [UInt8.ofNat c] := rfl
    rw [e, jnC_bts] at h
    exact h
  · rw [List.getElem?_map] at hx
    cases hq : L[j]? with
    | none => rw [hq] at hx; cases hx
    | some l =>
      rw [hq] at hx
      simp only [Option.map_some, Option.some.injEq] at hx
      subst hx
      exact hc j l hq
  · have e : (bts [c]).data.toList = [UInt8.ofNat c] := rfl
    rw [e, List.map_map, show L.map ((·.data.toList) ∘ bts) = L.map u8 from List.map_congr_left fun x _ => bts_u8 x, jnC_join, u8_len]
    omega
/-- a window of texts: the first, and those behind -/
theorem str_upto (g len cap h : Nat) (hh : h ≤ cap) (W : World) : (Instr.slice 46 (.slice (some ⟨g, 0, none⟩) len cap) none (some (.int .i64 (h : Int))) none).run Tryz.prog W = .ok (.slice (some ⟨g, 0, none⟩) h cap) W := by
  have ht' : Tryz.prog.underlying 46 = some (.slice (Tryz.prog.elem 46)) := by simp [Program.elem, Tryz.underlying46]
  have he' : Tryz.prog.elem 46 = 9 := by simp [Program.elem, Tryz.underlying46]
  rw [run_slice_h W _ _ _ _ ht' .i64 _ (by omega) (by omega), he', Tryz.sizeOf9]
  simp [Result.andThen, sliced, Addr.add]
theorem str_from (g len cap l : Nat) (hl : l ≤ len) (hh : len ≤ cap) : ∃ x, (∀ W : World, (Instr.slice 46 (.slice (some ⟨g, 0, none⟩) len cap) (some (.int .i64 (l : Int))) none none).run Tryz.prog W = .ok (.slice (some ⟨g, x, none⟩) (len - l) (cap - l)) W) ∧ (l < len → x = l) := by
  have ht' : Tryz.prog.underlying 46 = some (.slice (Tryz.prog.elem 46)) := by simp [Program.elem, Tryz.underlying46]
  have he' : Tryz.prog.elem 46 = 9 := by simp [Program.elem, Tryz.underlying46]
  by_cases he : cap = l
  · refine ⟨0, fun W => ?_, fun h2 => by omega⟩
    rw [run_slice_l W _ _ _ _ ht' .i64 _ (by omega) (by omega), he', Tryz.sizeOf9]
    simp [Result.andThen, sliced, he]
  · refine ⟨l, fun W => ?_, fun _ => rfl⟩
    rw [run_slice_l W _ _ _ _ ht' .i64 _ (by omega) (by omega), he', Tryz.sizeOf9]
    simp [Result.andThen, sliced, Addr.add, he]
    try omega
theorem grL_sz {U : List Nat} (h : ∀ u ∈ U, u < 65536) (a n : Nat) (hU : U.length = 8) : (bts (grL ((U.drop a).take n))).size ≤ 1000 := by
  have hz := jnC_len 58 4 (((U.drop a).take n).map hxL) (fun y hy => by
    obtain ⟨a, ha, rfl⟩ := List.mem_map.1 hy
    rw [hxL_len]
    exact hxV_len 3 a (by have := h a (List.mem_of_mem_drop (List.mem_of_mem_take ha)); omega))
  rw [List.length_map, List.length_take, List.length_drop] at hz
  rw [bts_size]
  unfold grL
  omega
theorem wrap_nn (z : Int) (h0 : 0 ≤ z) (h : z ≤ 4611686018427387904) : IntKind.i64.wrap z = z := by
  simp [IntKind.wrap, IntKind.bits, IntKind.signed]
  omega
theorem or_bytes (x y : Nat) (hx : x < 256) (hy : y < 256) : bits .or .i64 ((x : Int) * 256) (y : Int) = ((x * 256 + y : Nat) : Int) := by
  have := or_shl 8 x y (by omega) (by omega) (by omega)
  rw [← this]
  congr 1
set_option maxRecDepth 100000 in
set_option maxHeartbeats 4000000 in
/-- an address of sixteen bytes -/
theorem showIp6_any (b : ByteArray) (w : World) (hb : b.size = 16) (hG : GW w) (hGb : Gb w) :
    Calls Tryz.prog 122 #[.agg #[], .string b] w (ShE w (tellK 1 b)) := by
  obtain ⟨wa, hwa⟩ : ∃ wa, w.alloc (.cells #[] 103) = wa := ⟨_, rfl⟩
  have HBa : Hid (Below w.heap.size w wa) := hwa ▸ (Below.refl _ w).alloc (Nat.le_refl _) _
  have HF : Hid (∀ V, Below w.heap.size w V → ∀ x : Nat, x ≤ 65535 → Calls Tryz.prog 124 #[.int .i64 (x : Int), .int .i64 16] V fun e w' => e = .returned (.string (bts (hxL x))) ∧ Below V.heap.size V w') := fun V hV x hx => formatInt_any x V hx (hGb.below hV)
  have HGet : Hid (∀ k, k < 8 → (g16 b)[k]? = some (bt b (2 * k) * 256 + bt b (2 * k + 1))) := fun k hk => g16_at b hk
  have HLn : Hid ((g16 b).length = 8) := g16_len b
  have HSuc : Hid (∀ k, k < 8 → gsV ((g16 b).take (k + 1)) = gsV ((g16 b).take k) ++ [.string (bts (hxL (bt b (2 * k) * 256 + bt b (2 * k + 1))))]) := fun k hk => by
    unfold gsV
    rw [List.take_add_one, g16_at b hk, Option.toList_some, List.map_append, List.map_cons, List.map_nil]
  have HUl : Hid (∀ u ∈ g16 b, u < 65536) := g16_lt b
  have HTell : Hid (tellK 1 b = [⟨ip6U (g16 b), false⟩]) := rfl
  generalize g16 b = U at *
  go_enter Tryz.func122, Tryz.ntmps122
  go_wp2_with fail
  go_loopw [5, 6] (fun nv iv wr => ∃ (k : Nat) (p : Option Addr) (c : Nat), iv = .int .i64 ((2 * k : Nat) : Int) ∧ nv = .slice p k c ∧ k ≤ 8 ∧ Hid (wr.ownsRow w.heap.size 9 1 (.slice p k c) k (gsV (U.take k))) ∧ Hid (Below w.heap.size w wr)) (fun _ iv _ => 16 - (intOf iv).toNat)
  case atStart => exact ⟨0, none, 0, rfl, rfl, Nat.zero_le _, World.ownsRow_nil _ _ _ _, HBa.out⟩
  case round =>
    clear HBa hwa
    obtain ⟨k, p, c, rfl, rfl, hk, HO, HB⟩ := hrel
    by_cases hlt : k < 8
    · obtain ⟨m, hm⟩ : ∃ m, 2 * k = m := ⟨_, rfl⟩
      have HE := hide' (HSuc.out k hlt)
      rw [hm] at HE ⊢
      have h1 : m < b.size := by omega
      have h2 : m + 1 < b.size := by omega
      obtain ⟨x, hx, HX, hxl⟩ := bt_wrap h1
      obtain ⟨y, hy, HY, hyl⟩ := bt_wrap h2
      rw [HX, HY] at HE
      have hor := or_bytes x y hxl hyl
      have HM := hide' hm
      clear HX HY hm
      obtain ⟨T, hT⟩ : ∃ T, bts (hxL (x * 256 + y)) = T := ⟨_, rfl⟩
      have HF2 : Hid (∀ V, Below w.heap.size w V → Calls Tryz.prog 124 #[.int .i64 ((x * 256 + y : Nat) : Int), .int .i64 16] V fun e w' => e = .returned (.string T) ∧ Below V.heap.size V w') := fun V hV => hT ▸ HF.out V hV (x * 256 + y) (by omega)
      rw [hT] at HE
      clear hT
      have pm0 : 0 ≤ (m : Int) + 1 := by omega
      have pm1 : (m : Int) + 1 < 16 := by omega
      have v1 := wrap_nn (x : Int) (by omega) (by omega)
      have v2 := wrap_nn ((x : Int) * 256) (by omega) (by omega)
      have v3 : IntKind.i64.wrap ((m : Int) + 1) = ((m + 1 : Nat) : Int) := by rw [wrap_nn _ (by omega) (by omega)]; rfl
      have v4 := wrap_nn (y : Int) (by omega) (by omega)
      go_wp2_with fail
      go_region_law (first
        | (go_simp; go_at_call 124; refine (HF2.out _ (by first | exact HB.out | exact below_drewN HB.out _)).mono ?_; rintro e1 w3 ⟨rfl, hB1⟩; have HB1 : Hid (Below w.heap.size w w3) := (by first | exact bstep HB.out hB1 HB.out.size | exact bstep (below_drewN HB.out _) hB1 (below_drewN HB.out _).size); have HO1 : Hid (w3.ownsRow w.heap.size 9 1 (.slice p k c) k (gsV (U.take k))) := ownsRow_below (by first | exact HO.out | exact HO.out) hB1; clear hB1; have HC1 : Hid ((w3.alloc (.cells #[.string T] 9)).cell? ⟨w3.heap.size, 0, none⟩ = some (.string T)) := (cell_new_l w3 _ _).1; have HO2 := hide' (HO1.out.alloc (.cells #[.string T] 9)); have HB2 := hide' (HB1.out.alloc HB1.out.size (.cells #[.string T] 9)))
        | (refine step_append_one (w0 := w) rfl _ _ rfl T p k c (gsV (U.take k)) w3.heap.size ?_ ?_ HC1.out HO2.out HB2.out (by omega) ?_; rfl; rfl; intro p4 c4 w4 ho4 hB4; have HO4 := hide' ho4; have HB4 := hide' hB4; clear ho4 hB4))
      all_goals go_wp2_with fail
      all_goals (refine ⟨⟨k + 1, p4, c4, ?_, rfl, by omega, ?_, HB4⟩, ?_⟩)
      all_goals first
        | (rw [HE.out]; exact HO4.out)
        | (have := HM.out; simp [intOf]; omega)
        | (have := HM.out; congr 1; omega)
    · obtain rfl : k = 8 := by omega
      have HO8 : Hid (wr.ownsRow w.heap.size 9 1 (.slice p 8 c) 8 (gsV U)) := by
        have := HO.out
        rw [List.take_of_length_le (by have := HLn.out; omega)] at this
        exact this
      obtain ⟨g, c2, hpe⟩ := owns_some HO8.out (by omega)
      simp only [Value.slice.injEq] at hpe
      obtain ⟨rfl, -, rfl⟩ := hpe
      obtain ⟨_, _, hsh, hc8, hcm, -⟩ := own_shape HO8.out
      have hcc : 8 ≤ c := by simp only [Value.slice.injEq] at hsh; omega
      have hcx : c ≤ 9223372036854775807 := by simp only [Value.slice.injEq] at hsh; unfold maxLen at hcm; omega
      have hgl : g < wr.heap.size := by
        have h0 := HO8.out.cellAt 0 (by omega)
        obtain ⟨u0, hu0⟩ : ∃ u0, U[0]? = some u0 := ⟨_, List.getElem?_eq_getElem (by have := HLn.out; omega)⟩
        rw [show (gsV U)[0]? = some (.string (bts (hxL u0))) by unfold gsV; rw [List.getElem?_map, hu0]; rfl] at h0
        exact Lib.lt_of_cell h0
      have HCl : Hid (∀ V, Below wr.heap.size wr V → ∀ j u, U[j]? = some u → V.cell? ⟨g, j, none⟩ = some (.string (bts (hxL u)))) := fun V hV j u hu => by
        have hj : j < 8 := by
          have := HLn.out
          rcases Nat.lt_or_ge j U.length with h | h
          · omega
          · rw [List.getElem?_eq_none h] at hu; cases hu
        have h := (ownsRow_below HO8.out hV).cellAt j (by omega)
        rw [h]
        unfold gsV
        rw [List.getElem?_map, hu]
        rfl
      have HGp : Hid (Calls Tryz.prog 125 #[.slice (some ⟨g, 0, none⟩) 8 c] wr fun e w' => e = .returned (.tuple #[.int .i64 ((gapF U).1 : Int), .int .i64 ((gapF U).2 : Int)]) ∧ w' = wr) := by
        have := gap_any U g c wr (by have := HLn.out; omega) (by have := HLn.out; omega) hcx (HCl.out wr (Below.refl _ _))
        rw [HLn.out] at this
        exact this
      obtain ⟨ga, gb, gz⟩ := gap_ok U
      rw [HLn.out] at gb
      have HJ : Hid (∀ (V : World) (lo n o cp : Nat), Below wr.heap.size wr V → lo + n ≤ 8 → (o = lo ∨ n = 0) → n ≤ cp → Calls Tryz.prog 37 #[.slice (some ⟨g, o, none⟩) n cp, .string ⟨#[58]⟩] V fun e w' => e = .returned (.string (bts (grL ((U.drop lo).take n)))) ∧ Below V.heap.size V w') := fun V lo n o cp hV hln ho hcp => by
        have hlen : (((U.drop lo).take n).map hxL).length = n := by rw [List.length_map, List.length_take, List.length_drop, HLn.out]; omega
        have hz := jnC_len 58 4 (((U.drop lo).take n).map hxL) (fun y hy => by
          obtain ⟨a, ha, rfl⟩ := List.mem_map.1 hy
          rw [hxL_len]
          exact hxV_len 3 a (by have := HUl.out a (List.mem_of_mem_drop (List.mem_of_mem_take ha)); omega))
        have := join_at 58 (((U.drop lo).take n).map hxL) g o cp V (fun j l hl => by
          rw [List.getElem?_map] at hl
          cases hq : ((U.drop lo).take n)[j]? with
          | none => rw [hq] at hl; cases hl
          | some u =>
            rw [hq] at hl
            simp only [Option.map_some, Option.some.injEq] at hl
            subst hl
            have hj : j < n := by
              rcases Nat.lt_or_ge j n with h | h
              · exact h
              · rw [List.getElem?_eq_none (by rw [List.length_take]; omega)] at hq; cases hq
            rw [List.getElem?_take_of_lt hj, List.getElem?_drop] at hq
            have ho' : o = lo := by omega
            subst ho'
            exact HCl.out V hV _ u hq) (Nat.lt_of_lt_of_le hgl hV.size) (by omega) (by omega) (by omega)
        rw [hlen] at this
        exact this
      have HT6 : Hid (ip6U U = if (gapF U).2 - (gapF U).1 < 2 then grL U else grL (U.take (gapF U).1) ++ 58 :: 58 :: grL (U.drop (gapF U).2)) := rfl
      generalize (gapF U).1 = ga1 at *
      generalize (gapF U).2 = gb1 at *
      clear HO8 HO hsh hc8 hcm gz HCl
      by_cases hg2 : gb1 - ga1 < 2
      · have HTx : Hid (bts (grL ((U.drop 0).take 8)) = bts (ip6U U)) := by unfold Hid; rw [HT6.out, if_pos hg2, List.drop_zero, List.take_of_length_le (by have := HLn.out; omega)]
        have pg : (gb1 : Int) - (ga1 : Int) < 2 := by omega
        have HJ1 := hide' (HJ.out wr 0 8 0 c (Below.refl _ _) (by omega) (.inl rfl) hcc)
        rw [HTx.out] at HJ1
        clear hg2 HJ
        go_wp2_with (first
          | (go_at_call 125; refine HGp.out.mono ?_; rintro e0 w2 ⟨rfl, hw0⟩; have hw0' := hw0.symm; subst hw0')
          | (go_at_call 37; refine HJ1.out.mono ?_; rintro e1 w3 ⟨rfl, hB1⟩; have HB1 := hide' (bstep HB.out hB1 HB.out.size); clear hB1))
        go_ret
        rw [HTell.out]
        exact she_one HB1.out rfl
      · have HTx : Hid (bts (ip6U U) = bts (grL ((U.drop 0).take ga1)) ++ ⟨#[58, 58]⟩ ++ bts (grL ((U.drop gb1).take (8 - gb1)))) := by
          unfold Hid
          rw [HT6.out, if_neg hg2, List.drop_zero, List.take_of_length_le (l := U.drop gb1) (by rw [List.length_drop]; have := HLn.out; omega), show (⟨#[58, 58]⟩ : ByteArray) = bts [58, 58] from rfl, ← bts_append, ← bts_append]
          simp
        have pg : ¬ (gb1 : Int) - (ga1 : Int) < 2 := by omega
        have HJ1 := hide' (fun V h => HJ.out V 0 ga1 0 c h (by omega) (.inl rfl) (by omega))
        have HJ2 := hide' (fun V o h ho => HJ.out V gb1 (8 - gb1) o (c - gb1) h (by omega) ho (by omega))
        have hz1 : (bts (grL ((U.drop 0).take ga1))).size ≤ 1000 := grL_sz HUl.out _ _ HLn.out
        have hz2 : (bts (grL ((U.drop gb1).take (8 - gb1)))).size ≤ 1000 := grL_sz HUl.out _ _ HLn.out
        generalize bts (grL ((U.drop 0).take ga1)) = TA at *
        generalize bts (grL ((U.drop gb1).take (8 - gb1))) = TB at *
        have hs1 := str_upto g 8 c ga1 (by omega)
        obtain ⟨o2, hs2, ho2⟩ := str_from g 8 c gb1 gb hcc
        have HJ3 := hide' (fun V h => HJ2.out V o2 h (by omega))
        clear hg2 HJ HT6 HJ2 ho2
        go_wp2_with (go_at_call 125; refine HGp.out.mono ?_; rintro e0 w2 ⟨rfl, hw0⟩; have hw0' := hw0.symm; subst hw0')
        go_region_with (first
          | (go_at_call 37; refine (HJ1.out _ (by first | exact Below.refl _ _ | exact below_drewN (Below.refl _ _) _)).mono ?_; rintro e1 w3 ⟨rfl, hB1⟩; have HB1 : Hid (Below wr.heap.size wr w3) := (by first | exact hB1 | exact bstep (below_drewN (Below.refl _ _) 1) hB1 (Nat.le_refl _)); clear HJ1 hB1)
          | (go_at_call 37; refine (HJ3.out _ HB1.out).mono ?_; rintro e2 w4 ⟨rfl, hB2⟩; have HB2 := hide' (bstep HB1.out hB2 HB1.out.size); clear hB2))
        all_goals go_wp2_with fail
        all_goals go_ret
        all_goals (rw [HTell.out]; exact she_one (bstep HB.out HB2.out HB.out.size) HTx.out)
end Go.Proofs.YtmbjmokhkonpiaaGreatDoor
