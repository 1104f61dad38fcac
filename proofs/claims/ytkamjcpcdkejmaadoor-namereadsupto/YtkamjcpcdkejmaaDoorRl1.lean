import Derived.Test.YtkamjcpcdkejmaaDoorRlS
import Derived.Test.YtkamjcpcdkejmaaDoorMath18
namespace Go.Proofs.YtkamjcpcdkejmaaDoor
set_option linter.unusedVariables false
open Go.RowKit Go.Shelf Nm

set_option maxRecDepth 100000 in
set_option maxHeartbeats 4000000 in
/-- name.readLabels's inner function -/
theorem readLabel_any (B k : Nat) (t : ByteArray) (pre : List Nat) (w : World) (hS : RL B t k pre w) (hk : k < t.size) (ht : t.size ≤ 1048576) (hpl : pre.length ≤ 1073741824) (hG : Gl w) (hB : Lo B) :
    Calls Tryd.prog 25 #[.pointer (some ⟨B + 2, 0, none⟩), .pointer (some ⟨B + 1, 0, none⟩), .pointer (some ⟨B, 0, none⟩)] w fun e w' =>
      (∃ place code : Nat, e = .returned (.tuple #[.int .i64 (place : Int), .int .i64 (code : Int)]) ∧ code ≠ 0 ∧ (∀ L, scanT t k k [] L = ⟨code, place, [], false⟩) ∧ Below B w w') ∨
      (∃ (k' : Nat) (now : List Nat), e = .returned (.tuple #[.int .i64 0, .int .i64 0]) ∧ now ≠ [] ∧ now.length ≤ 63 ∧ (∀ x ∈ now, x < 256) ∧ k < k' ∧ k' ≤ t.size ∧ (k' = t.size ∨ bt t k' = 46) ∧ (∀ L, scanT t k k [] L = scanT t k' k now L) ∧ RL B t k' (pre ++ now.length :: now) w' ∧ Below B w w') := by
  obtain ⟨i0, hi, hz0, hz1, hz2⟩ := info_parts Tryd.infoByte
  obtain ⟨v, hv, hown⟩ := hS.wr
  obtain ⟨p, c, rfl, hnc, hc9, _⟩ := owns_shape hown
  have cT := hS.tx.cell
  have cA := hS.pl.cell
  have cW := hv.cell
  have fW := hv.frozen
  go_enter Tryd.func25, Tryd.ntmps25
  go_wp2_with fail
  go_quiet (fail)
  obtain ⟨w0, hw0⟩ : ∃ w0, w.drewN nq = w0 := ⟨_, rfl⟩
  have hS0 : RL B t k pre w0 := hw0 ▸ hS.drewN nq
  have hB0 : Below B w w0 := hw0 ▸ below_drewN (Below.refl _ _) nq
  have hv0 : Boxed w0 (B + 1) 39 (.slice p pre.length c) := hw0 ▸ hv
  have hown0 : w0.ownsRow (B + 3) 5 1 (.slice p pre.length c) pre.length (byts pre) := hw0 ▸ hown
  rw [hw0]
  have HW0 := hide' hB0
  have cW0 := hv0.cell
  have fW0 := hv0.frozen
  clear hw0 hB0 hS hv hown cT cA cW fW
  go_wp2_with (at_builtin; refine wpList_append_own _ rfl _ _ 39 rfl (B + 3) 5 i0 (.int .u8 0) 1 1 Tryd.underlying39 hi hz0 hz1 hz2 rfl (by decide) _ _ _ rfl (hown0.alloc _) ⟨w0.heap.size, 0, none⟩ 1 1 [.int .u8 0] rfl rfl (cell_one_new _ _ _) (by simp [Value.oneCell']) (by unfold maxLen; omega) (by omega) (by have := hS0.sz; simp; omega) ?_; intro v1 w1 hown1 hgrow1 _; obtain ⟨hS1, hv1, hB1⟩ := RL.push (x := 0) hS0 hv0 rfl hown0 hown1 hgrow1; obtain ⟨g1, c1, rfl⟩ := owns_some hown1 (by omega); have cW1 := hv1.cell; have fW1 := hv1.frozen)
  go_loopw [8] (fun _ wr => ∃ (k' : Nat) (now : List Nat), ((now = [] ∧ k' = k) ∨ (now ≠ [] ∧ k < k')) ∧ k' ≤ t.size ∧ now.length ≤ 63 ∧ Hid (∀ x ∈ now, x < 256) ∧ Hid (∀ L, scanT t k k [] L = scanT t k' k now L) ∧ RL B t k' (pre ++ now.length :: now) wr ∧ Below B w wr)
    (fun _ wr => t.size - plOf B wr)
  case atStart => exact ⟨k, [], .inl ⟨rfl, rfl⟩, Nat.le_of_lt hk, by simp, (fun x hx => by cases hx), (fun _ => rfl), hS1, HW0.out.trans hB1⟩
  case round =>
    obtain ⟨k', now, hcase, hk', hnl, H256, HSC, hSr, hBr⟩ := hrel
    obtain ⟨v, hv, hown⟩ := hSr.wr
    have hxl : (pre ++ now.length :: now).length = pre.length + 1 + now.length := by simp; omega
    rw [hxl] at hown
    obtain ⟨g, cp, rfl⟩ := owns_some hown (by omega)
    have cT := hSr.tx.cell
    have cA := hSr.pl.cell
    have fA := hSr.pl.frozen
    have cW := hv.cell
    have fW := hv.frozen
    have hpl' := plOf_eq hSr.pl
    have HM := hide' hpl'
    clear hpl'
    by_cases hlt : k' < t.size
    · obtain ⟨y, hy, HY, hyl⟩ := bt_wrap hlt
      by_cases h46 : y = 46
      · subst h46
        rcases hcase with ⟨rfl, rfl⟩ | ⟨hne, hkk⟩
        · have HR : Hid (∀ L, scanT t k' k' [] L = ⟨2, k', [], false⟩) := fun L => scanT_dot0 hlt HY
          clear HY
          go_wp2
          go_ret2
          exact .inl ⟨k', 2, rfl, by decide, HR.out, hBr⟩
        · have HB46 : Hid (bt t k' = 46) := HY
          have hkk' : ((k' : Int) == (k : Int)) = false := by rw [beq_eq_false_iff_ne]; omega
          clear HY
          go_wp2
          go_ret2
          exact .inr ⟨k', now, rfl, hne, hnl, H256.out, hkk, hk', .inr HB46.out, HSC.out, hSr, hBr⟩
      · have hy46 : ((y : Int) == 46) = false := by rw [beq_eq_false_iff_ne]; omega
        have hy46' : ((y : Int) != 46) = true := by rw [bne_iff_ne]; omega
        have hyne : bt t k' ≠ 46 := by rw [HY]; exact h46
        have hpz : 0 < (t.extract k' t.size).size := by rw [size_extract' _ _ _ (Nat.le_refl _)]; omega
        have hps : (t.extract k' t.size).size ≤ 1048576 := by rw [size_extract' _ _ _ (Nat.le_refl _)]; omega
        have hGr : Gl wr := hG.below hBr hB
        have hbyte := byte_any (t.extract k' t.size) wr hpz hps hGr
        obtain ⟨hp1, hp2⟩ := pc_some hlt
        obtain ⟨b, hb⟩ : ∃ b, (pc (t.extract k' t.size)).1 = b := ⟨_, rfl⟩
        obtain ⟨wd, hwd⟩ : ∃ wd, (pc (t.extract k' t.size)).2 = wd := ⟨_, rfl⟩
        rw [hb, hwd] at hbyte
        rw [hwd] at hp1
        rw [hb] at hp2
        have HBY := hide' hbyte
        have HPB : Hid ((pc (t.extract k' t.size)).1 = b) := hb
        have HPW : Hid ((pc (t.extract k' t.size)).2 = wd) := hwd
        have HNE := hide' hyne
        clear hb hwd hpz hps hyne HY h46 hbyte hGr
        by_cases hw0 : wd = 0
        · subst hw0
          have HR : Hid (∀ L, scanT t k k [] L = ⟨2, k', [], false⟩) := fun L => (HSC.out L).trans (scanT_bad hlt HNE.out HPW.out)
          go_wp2_with (go_at_call 26; refine (HBY.out).mono ?_; rintro e w2 ⟨rfl, hB2⟩; have hS2 := hSr.below hB2; have cA2 := hS2.pl.cell)
          go_ret2
          exact .inl ⟨k', 2, rfl, by decide, HR.out, hBr.trans (hB2.mono (by have := hSr.sz; omega))⟩
        · have hw0' : ((wd : Int) == 0) = false := by rw [beq_eq_false_iff_ne]; omega
          have hcell0 : wr.cell? ⟨g, pre.length, none⟩ = some (.int .u8 (now.length : Int)) := by
            rw [hown.cellAt pre.length (by omega)]; simp [byts]
          by_cases h63 : now.length = 63
          · have HR : Hid (∀ L, scanT t k k [] L = ⟨3, k, [], false⟩) := fun L => (HSC.out L).trans (scanT_full hlt HNE.out (by rw [HPW.out]; exact hw0) h63)
            have h63' : ((now.length : Int) == 63) = true := by rw [beq_iff_eq]; omega
            clear h63 hw0
            go_wp2_with (go_at_call 26; refine (HBY.out).mono ?_; rintro e w2 ⟨rfl, hB2⟩; have hS2 := hSr.below hB2; have cA2 := hS2.pl.cell; have cW2 := (bx_below hv hB2 (hv.lt)).cell; have cR2 := (hB2.cell (p := ⟨g, pre.length, none⟩) (row_lt hown)).trans hcell0)
            go_ret2
            exact .inl ⟨k, 3, rfl, by decide, HR.out, hBr.trans (hB2.mono (by have := hSr.sz; omega))⟩
          · have h63' : ((now.length : Int) == 63) = false := by rw [beq_eq_false_iff_ne]; omega
            have HS2 : Hid (∀ L, scanT t k k [] L = scanT t (k' + wd) k (now ++ [b]) L) := by
              intro L
              have := (HSC.out L).trans (scanT_byte hlt HNE.out (by rw [HPW.out]; exact hw0) h63)
              rw [HPW.out, HPB.out] at this; exact this
            have H2562 : Hid (∀ x ∈ now ++ [b], x < 256) := fun x hx => by
              rcases List.mem_append.1 hx with h | h
              · exact H256.out x h
              · simp at h; omega
            have hwd1 : 1 ≤ wd := by omega
            have hn62 : now.length < 63 := by omega
            clear h63 hw0
            go_wp2_with (first
              | (go_at_call 26; refine (HBY.out).mono ?_; rintro e w2 ⟨rfl, hB2⟩; have hS2 := hSr.below hB2; have hv2 := bx_below hv hB2 (hv.lt); have hown2 := ownsRow_below hown hB2; have cA2 := hS2.pl.cell; have cW2 := hv2.cell; have fW2 := hv2.frozen; have cR2 := (hB2.cell (p := ⟨g, pre.length, none⟩) (row_lt hown)).trans hcell0)
              | (at_builtin; refine wpList_append_own _ rfl _ _ 39 rfl (B + 3) 5 i0 (.int .u8 0) 1 1 Tryd.underlying39 hi hz0 hz1 hz2 rfl (by decide) _ _ _ rfl (hown2.alloc _) ⟨w2.heap.size, 0, none⟩ 1 1 [.int .u8 (b : Int)] rfl rfl (cell_one_new _ _ _) (by simp [Value.oneCell']) (by unfold maxLen; omega) (by omega) (by have := hS2.sz; simp; omega) ?_; intro v3 w3 hown3 hgrow3 _; obtain ⟨hS3, hv3, hB3⟩ := RL.push (x := b) hS2 hv2 hxl.symm hown2 hown3 hgrow3; obtain ⟨g3, c3, rfl⟩ := owns_some hown3 (by omega); have cW3 := hv3.cell; have fW3 := hv3.frozen; have hb3 := hv3.set (.slice (some ⟨g3, 0, none⟩) (pre.length + 1 + now.length + 1) c3); have cB3 := hb3.cell; obtain ⟨s1, s2, s3, s4, s5, s6⟩ := RL.step hS3 hb3 rfl))
            have hS5 := RL.go (k' := k' + wd) (y := (k' : Int) + (wd : Int)) s5 (by simp)
            refine ⟨⟨k' + wd, now ++ [b], .inr ⟨by simp, by omega⟩, by omega, by simp; omega, H2562, HS2, hS5, ?_⟩, ?_⟩
            · exact hBr.trans ((hB2.mono (by have := hSr.sz; omega)).trans (hB3.trans (s6.setCell (p := ⟨B + 2, 0, none⟩) (by show B ≤ B + 2; omega) _)))
            · rw [plOf_eq hS5.pl, HM.out]; omega
    · obtain rfl : k' = t.size := by omega
      rcases hcase with ⟨rfl, rfl⟩ | ⟨hne, hkk⟩
      · omega
      · have hkk' : ((t.size : Int) == (k : Int)) = false := by rw [beq_eq_false_iff_ne]; omega
        go_wp2
        go_ret2
        exact .inr ⟨t.size, now, rfl, hne, hnl, H256.out, hkk, Nat.le_refl _, .inl rfl, HSC.out, hSr, hBr⟩
end Go.Proofs.YtkamjcpcdkejmaaDoor
