import Derived.Test.YtbcefnfbofpjgaaLawP
namespace Go.Proofs.Ytbcefnfbofpjgaa
set_option linter.unusedVariables false
open Go.RowKit Go.Shelf Nm

set_option maxRecDepth 100000 in
set_option maxHeartbeats 4000000 in
theorem parts_no (n : ByteArray) (p : Option Addr) (cap : Nat) (l : List ByteArray) (k : Int) (w : World) (hn : n.size ≤ 1048576) (hcl0 : StrsAt w p l) (hnone : p = none → cap = 0) (hll : l.length ≤ 1048576) (hxl : ∀ x ∈ l, x.size ≤ 1048576) (hN : isN n = false) :
    Calls Try.prog 5 #[.string n, .slice p l.length cap, .int .i64 k] w fun e w' => e = .returned (.bool true) ∧ Below w.heap.size w w' := by
  have hn' := small_max hn
  have HNONE : Hid (p = none → cap = 0) := hnone
  have HXL := hide' hxl
  have HL : Hid (labsOr n = []) := labsOr_no hN
  have hnil : ∀ (W : World) (q : Option Addr), StrsAt W q [] := fun W q j hj => absurd hj (Nat.not_lt_zero _)
  have HNIL := hide' hnil
  clear hnone hxl hnil
  obtain ⟨i0, hi, hz0, hz1, hz2⟩ := info_parts Try.infoStr
  go_enter Try.func5, Try.ntmps5
  go_wp2_with fail
  refine (labels_own n _ hn').mono ?_
  rintro e w1 ⟨p1, c1, rfl, _, hB1⟩
  rw [HL.out]
  go_wp2_with fail
  refine (split_no n _ hn hN).mono ?_
  rintro e w2 ⟨v2, rfl, hB2⟩
  go_wp2_with fail
  refine (refIsName_any n _ hn).mono ?_
  rintro e w3 ⟨rfl, hB3⟩
  rw [hN]
  go_wp2_with fail
  refine (sameTexts_same p1 none c1 0 [] _ (HNIL.out _ _) (HNIL.out _ _) (by simp)).mono ?_
  rintro e w4 ⟨rfl, hB4⟩
  have hBx := ext_t (ext_t (ext_t hB1 hB2) hB3) hB4
  clear hB1 hB2 hB3 hB4
  go_wp2
  go_loopw [33] (fun i wr => i = .int .i64 0 ∧ Below w.heap.size w wr) (fun i _ => 0)
  case atStart => exact ⟨rfl, hBx⟩
  case round =>
      obtain ⟨rfl, hBr⟩ := hrel
      obtain ⟨wo, rfl⟩ : ∃ wo, wo = wr := ⟨_, rfl⟩
      go_wp2_with fail
      refine (labels_own n _ hn').mono ?_
      rintro e w5 ⟨p5, c5, rfl, _, hB5⟩
      rw [HL.out]
      go_wp2_with fail
      refine (sameTexts_same p5 none c5 0 [] _ (HNIL.out _ _) (HNIL.out _ _) (by simp)).mono ?_
      rintro e wB ⟨rfl, hB6⟩
      have hBB := bstep (bstep hBr hB5 hBr.size) hB6 (Nat.le_trans hBr.size hB5.size)
      have hcl := hcl0.below hBB
      clear hB5 hB6 hBr
      go_wp2_with (first
        | (at_builtin; refine wpList_append_strs rfl _ _ rfl wB.heap.size _ 0 [] rfl (World.ownsRow_nil _ _ _ _) p l cap rfl hcl HNONE.out (by omega) (Nat.le_refl _) ?_; intro v11 w11 hown11 hg11; have hB11 : Below wB.heap.size wB w11 := (Below.refl _ _).grown hg11 (Nat.le_refl _) (fun k e => ownBlock_le (World.ownsRow_nil wB wB.heap.size 9 1) e); have hcl2 := hcl.below hB11; clear hcl; rw [Nat.zero_add, List.nil_append] at hown11; obtain ⟨p11, c11, rfl, _, _, _⟩ := owns_shape hown11)
        | (at_builtin; refine wpList_append_strs rfl _ _ rfl w11.heap.size _ 0 [] rfl (World.ownsRow_nil _ _ _ _) p l cap rfl hcl2 HNONE.out (by omega) (Nat.le_refl _) ?_; intro v12 w12 hown12 hg12; have hB12 : Below w11.heap.size w11 w12 := (Below.refl _ _).grown hg12 (Nat.le_refl _) (fun k e => ownBlock_le (World.ownsRow_nil w11 w11.heap.size 9 1) e); clear hcl2; rw [Nat.zero_add, List.nil_append] at hown12)
        | (at_builtin; refine wpList_append_own _ rfl _ _ 29 rfl w11.heap.size 9 i0 (.string .empty) 1 16 Try.underlying29 hi hz0 hz1 hz2 rfl (by decide) _ _ _ rfl (hown12.alloc _) ⟨w12.heap.size, 0, none⟩ 2 2 [.string ⟨#[42]⟩, .string ⟨#[43]⟩] rfl rfl (cell_two_new _ _ _ _) (by simp [Value.oneCell']) (by unfold maxLen; omega) (by omega) (by have := hB12.size; simp; omega) ?_; intro v13 w13 hown13 hg13 _; have hB13 : Below w11.heap.size w11 w13 := below_app hB12 (Nat.le_refl _) hown12 hg13; obtain ⟨g13, c13, rfl⟩ := owns_some hown13 (by omega); obtain ⟨hc13a, hc13b, _⟩ := owns_cap hown13; have hc13c : c13 ≤ 9223372036854775807 := by unfold maxLen at hc13b; omega))
      clear hc13b
      have hf13 : StrsAt w13 (some ⟨g13, 0, none⟩) (l ++ [⟨#[42]⟩, ⟨#[43]⟩]) := by
        obtain ⟨p', c', e', hc'⟩ := Strs.of_owns (l := l ++ [⟨#[42]⟩, ⟨#[43]⟩]) (base := w11.heap.size) (w := w13) (v := .slice (some ⟨g13, 0, none⟩) (l.length + 2) c13) (by rw [List.length_append, List.map_append]; exact hown13)
        simp at e'
        obtain ⟨rfl, rfl⟩ := e'
        exact hc'
      have hown11' : StrsAt w13 p11 l := by
        obtain ⟨p', c', e', hc'⟩ := Strs.of_owns hown11
        simp at e'
        obtain ⟨rfl, rfl⟩ := e'
        exact StrsAt.below hc' hB13
      have hfl : StrsAt w13 (some ⟨g13, 0, none⟩) l := by
        have := hf13.take l.length
        rwa [List.take_left] at this
      have hstar : w13.cell? ⟨g13, l.length, none⟩ = some (.string ⟨#[42]⟩) := by
        obtain ⟨g, o, e, _, h⟩ := hf13 l.length (by simp)
        cases e
        simpa using h
      have hplus : w13.cell? ⟨g13, l.length + 1, none⟩ = some (.string ⟨#[43]⟩) := by
        obtain ⟨g, o, e, _, h⟩ := hf13 (l.length + 1) (by simp)
        cases e
        simpa using h
      have hg13l : g13 < w13.heap.size := by
        obtain ⟨g, o, e, h, _⟩ := hf13 l.length (by simp)
        cases e; exact h
      have hBC := hBB.trans ((hB11.mono hBB.size).trans (hB13.mono (Nat.le_trans hBB.size hB11.size)))
      clear hf13 hown11 hown12 hown13 hg11 hg12 hg13 hB11 hB12 hB13 hBB
      refine (join_any (some ⟨g13, 0, none⟩) c13 l _ hfl hll HXL.out).mono ?_
      rintro e w14 ⟨rfl, hB14⟩
      have hfl := hfl.below hB14
      have hown11' := hown11'.below hB14
      have hstar := (hB14.cell (p := ⟨g13, l.length, none⟩) hg13l).trans hstar
      have hplus := (hB14.cell (p := ⟨g13, l.length + 1, none⟩) hg13l).trans hplus
      have hg13l := Nat.lt_of_lt_of_le hg13l hB14.size
      have hBC := bstep hBC hB14 hBC.size
      go_wp2_with fail
      refine (refJoin_any p11 c11 l _ hown11' hll HXL.out).mono ?_
      rintro e w15 ⟨rfl, hB15⟩
      have hfl := hfl.below hB15
      have hown11' := hown11'.below hB15
      have hstar := (hB15.cell (p := ⟨g13, l.length, none⟩) hg13l).trans hstar
      have hplus := (hB15.cell (p := ⟨g13, l.length + 1, none⟩) hg13l).trans hplus
      have hg13l := Nat.lt_of_lt_of_le hg13l hB15.size
      have hBC := bstep hBC hB15 hBC.size
      go_wp2_with fail
      refine (sameTexts_same (some ⟨g13, 0, none⟩) p11 c13 c11 l _ hfl hown11' (by omega)).mono ?_
      rintro e w16 ⟨rfl, hB16⟩
      have hstar := (hB16.cell (p := ⟨g13, l.length, none⟩) hg13l).trans hstar
      have hplus := (hB16.cell (p := ⟨g13, l.length + 1, none⟩) hg13l).trans hplus
      have hB0 := bstep hBC hB16 hBC.size
      clear hfl hown11' hBC hB14 hB15 hB16 hcl0
      go_wp2_with (first
        | (go_at_call 28; refine (count_any _ _ hn').mono ?_; rintro e w1 ⟨rfl, hB1⟩; have hB0 := ext_t hB0 hB1; clear hB1)
        | (go_at_call 29; refine (refCount_any _ _ hn).mono ?_; rintro e w1 ⟨rfl, hB1⟩; have hB0 := ext_t hB0 hB1; clear hB1)
        | (go_at_call 30; refine (parent_any _ _ hn').mono ?_; rintro e w1 ⟨rfl, hB1⟩; have hB0 := ext_t hB0 hB1; clear hB1)
        | (go_at_call 31; refine (refParent_any _ _ hn).mono ?_; rintro e w1 ⟨rfl, hB1⟩; have hB0 := ext_t hB0 hB1; clear hB1)
        | (go_at_call 32; refine (tail_any _ _ _ hn').mono ?_; rintro e w1 ⟨rfl, hB1⟩; have hB0 := ext_t hB0 hB1; clear hB1)
        | (go_at_call 33; refine (refTail_any _ _ _ hn).mono ?_; rintro e w1 ⟨rfl, hB1⟩; have hB0 := ext_t hB0 hB1; clear hB1)
        | (go_at_call 34; refine (star_any _ _ hn').mono ?_; rintro e w1 ⟨rfl, hB1⟩; have hB0 := ext_t hB0 hB1; clear hB1)
        | (go_at_call 35; refine (refStar_any _ _ hn).mono ?_; rintro e w1 ⟨rfl, hB1⟩; have hB0 := ext_t hB0 hB1; clear hB1)
        | (go_at_call 36; refine (isStar_any _ _ hn').mono ?_; rintro e w1 ⟨rfl, hB1⟩; have hB0 := ext_t hB0 hB1; clear hB1)
        | (go_at_call 37; refine (refIsStar_any _ _ hn).mono ?_; rintro e w1 ⟨rfl, hB1⟩; have hB0 := ext_t hB0 hB1; clear hB1))
      go_ret
      refine ⟨by simp, ?_⟩
      assumption

theorem parts_walk (n : ByteArray) (p : Option Addr) (cap : Nat) (l : List ByteArray) (k : Int) (w : World) (hn : n.size ≤ 1048576) (hcl0 : StrsAt w p l) (hnone : p = none → cap = 0) (hll : l.length ≤ 1048576) (hxl : ∀ x ∈ l, x.size ≤ 1048576) :
    Calls Try.prog 5 #[.string n, .slice p l.length cap, .int .i64 k] w fun e w' => e = .returned (.bool true) ∧ Below w.heap.size w w' := by
  cases hN : isN n with
  | true => exact parts_yes n p cap l k w hn hcl0 hnone hll hxl hN
  | false => exact parts_no n p cap l k w hn hcl0 hnone hll hxl hN
end Go.Proofs.Ytbcefnfbofpjgaa
