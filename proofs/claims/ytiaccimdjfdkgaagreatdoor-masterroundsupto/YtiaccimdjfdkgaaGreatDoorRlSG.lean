import Derived.Test.YtiaccimdjfdkgaaGreatDoorRdbG
import Derived.Test.YtiaccimdjfdkgaaGreatDoorPrW
import Derived.RangeFuncBox
import Derived.Test.YtiaccimdjfdkgaaGreatDoorMath18G
namespace Go.Proofs.YtiaccimdjfdkgaaGreatDoor
set_option linter.unusedVariables false
open Go.RowKit Go.Shelf Go.Proofs.YtiaccimdjfdkgaaGreatDoor.Nm

/-- strconv's errors lie below -/
def Lo (B : Nat) : Prop := 7 < B ∧ 8 < B
theorem Lo.le {B C : Nat} (h : Lo B) (hc : B ≤ C) : Lo C := ⟨Nat.lt_of_lt_of_le h.1 hc, Nat.lt_of_lt_of_le h.2 hc⟩
theorem lt_of_cell {w : World} {b o : Nat} {v : Value} (h : w.cell? ⟨b, o, none⟩ = some v) : b < w.heap.size := by
  unfold World.cell? at h
  rcases Nat.lt_or_ge b w.heap.size with hlt | hge
  · exact hlt
  · rw [Array.getElem?_eq_none hge] at h; simp at h
theorem Gl.lo {w : World} (h : Gl w) : Lo w.heap.size := by
  obtain ⟨e0, e1, h0, g0, h1, g1⟩ := h
  exact ⟨lt_of_cell h0, lt_of_cell h1⟩
theorem Gl.below {w w' : World} {B : Nat} (h : Gl w) (hb : Below B w w') (hB : Lo B) : Gl w' := by
  obtain ⟨e0, e1, h0, g0, h1, g1⟩ := h
  exact ⟨e0, e1, (hb.cell (p := ⟨7, 0, none⟩) hB.1).trans h0, g0, (hb.cell (p := ⟨8, 0, none⟩) hB.2).trans h1, g1⟩
theorem Gl.grow {w w' : World} (h : Gl w) (hb : Below w.heap.size w w') : Gl w' := h.below hb h.lo

/-- what readLabels and its inner function share: the text's, the wire form's and the place's variables -/
structure RL (B : Nat) (t : ByteArray) (k : Nat) (xs : List Nat) (w : World) : Prop where
  tx : Boxed w B 9 (.string t)
  wr : ∃ v, Boxed w (B + 1) 56 v ∧ w.ownsRow (B + 3) 5 1 v xs.length (byts xs)
  pl : Boxed w (B + 2) 3 (.int .i64 (k : Int))
  sz : B + 3 ≤ w.heap.size

theorem bx_below {w w' : World} {n B : Nat} {t : TypeId} {v : Value} (h : Boxed w B t v) (hb : Below n w w') (hn : B < n) : Boxed w' B t v := (hb.block B hn).trans h
theorem bx_other {w : World} {B C : Nat} {t : TypeId} {v u : Value} (h : Boxed w B t v) (hne : B ≠ C) : Boxed (w.setCell ⟨C, 0, none⟩ u) B t v := h.kept (grownBy_setCell' w C u) (by simp; exact hne)
theorem bx_row {w : World} {B g j : Nat} {t : TypeId} {v u : Value} (h : Boxed w B t v) (hne : B ≠ g) : Boxed (w.setCell ⟨g, j, none⟩ u) B t v :=
  (Below.heap_setCell _ _ _ B (by show B ≠ g; exact hne)).trans h

/-- behind a callee that leaves what was there -/
theorem RL.below {B k : Nat} {t : ByteArray} {xs : List Nat} {w w' : World} (h : RL B t k xs w) (hb : Below w.heap.size w w') : RL B t k xs w' := by
  obtain ⟨h1, ⟨v, h2, h3⟩, h4, h5⟩ := h
  have := hb.size
  exact ⟨(bx_below h1 hb (by omega)), ⟨v, (bx_below h2 hb (by omega)), ownsRow_below h3 hb⟩, (bx_below h4 hb (by omega)), by omega⟩
theorem RL.drew {B k : Nat} {t : ByteArray} {xs : List Nat} {w : World} (h : RL B t k xs w) : RL B t k xs w.drew := by
  obtain ⟨h1, ⟨v, h2, h3⟩, h4, h5⟩ := h
  exact ⟨h1, ⟨v, h2, h3.drew⟩, h4, h5⟩
/-- the place goes on -/
theorem RL.drewN {B k : Nat} {t : ByteArray} {xs : List Nat} {w : World} (h : RL B t k xs w) (n : Nat) : RL B t k xs (w.drewN n) := by
  obtain ⟨h1, ⟨v, h2, h3⟩, h4, h5⟩ := h
  exact ⟨h1, ⟨v, h2, h3⟩, h4, h5⟩
theorem RL.go {B k k' : Nat} {y : Int} {t : ByteArray} {xs : List Nat} {w : World} (h : RL B t k xs w) (hy : y = (k' : Int)) : RL B t k' xs (w.setCell ⟨B + 2, 0, none⟩ (.int .i64 y)) := by
  subst hy
  obtain ⟨h1, ⟨v, h2, h3⟩, h4, h5⟩ := h
  exact ⟨(bx_other h1 (by omega)), ⟨v, (bx_other h2 (by omega)), ownsRow_setCell_below h3 (by show B + 2 < B + 3; omega) _⟩, h4.set _, by simpa [World.setCell] using h5⟩
/-- a byte more -/
theorem RL.push {B k x n : Nat} {t : ByteArray} {xs : List Nat} {w w1 : World} {v v' : Value} {tmp : Obj} (h : RL B t k xs w) (hv : Boxed w (B + 1) 56 v) (hn : n = xs.length) (hown : w.ownsRow (B + 3) 5 1 v n (byts xs))
    (hown' : w1.ownsRow (B + 3) 5 1 v' (n + 1) (byts xs ++ [.int .u8 (x : Int)])) (hg : (w.alloc tmp).grownBy w1 v.ownBlock) :
    RL B t k (xs ++ [x]) (w1.setCell ⟨B + 1, 0, none⟩ v') ∧ Boxed w1 (B + 1) 56 v ∧ Below B w (w1.setCell ⟨B + 1, 0, none⟩ v') := by
  subst hn
  obtain ⟨h1, _, h4, h5⟩ := h
  have hle : ∀ q, v.ownBlock = some q → B + 3 ≤ q := fun q hq => ownBlock_le hown hq
  have hB3 : Below (B + 3) w w1 := ((Below.refl _ w).alloc h5 tmp).grown hg (by simp; omega) (fun q hq => hle q hq)
  have e1 := (bx_below h1 hB3 (by omega))
  have e2 := (bx_below hv hB3 (by omega))
  have e4 := (bx_below h4 hB3 (by omega))
  have := hB3.size
  refine ⟨⟨(bx_other e1 (by omega)), ⟨v', e2.set v', ?_⟩, (bx_other e4 (by omega)), by simp [World.setCell]; omega⟩, e2, (hB3.mono (by omega)).setCell (p := ⟨B + 1, 0, none⟩) (by show B ≤ B + 1; omega) _⟩
  have := ownsRow_setCell_below hown' (a := ⟨B + 1, 0, none⟩) (by show B + 1 < B + 3; omega) v'
  simpa [byts] using this
/-- a byte of the row is written anew -/
theorem RL.put {B k x j g cap n : Nat} {y : Int} {t : ByteArray} {xs : List Nat} {w : World} (h : RL B t k xs w) (hv : Boxed w (B + 1) 56 (.slice (some ⟨g, 0, none⟩) n cap)) (hn : n = xs.length) (hy : y = (x : Int)) (hown : w.ownsRow (B + 3) 5 1 (.slice (some ⟨g, 0, none⟩) n cap) n (byts xs)) :
    RL B t k (xs.set j x) (w.setCell ⟨g, j, none⟩ (.int .u8 y)) ∧ Below B w (w.setCell ⟨g, j, none⟩ (.int .u8 y)) := by
  subst hn
  subst hy
  obtain ⟨h1, _, h4, h5⟩ := h
  have hg : B + 3 ≤ g := ownBlock_le hown (q := g) rfl
  obtain ⟨s1, s2⟩ := hown.stored j (.int .u8 (x : Int))
  refine ⟨⟨(bx_row h1 (by omega)), ⟨_, (bx_row hv (by omega)), ?_⟩, (bx_row h4 (by omega)), by simpa [World.setCell] using h5⟩, (Below.refl _ _).setCell (p := ⟨g, j, none⟩) (by show B ≤ g; omega) _⟩
  have e : byts (xs.set j x) = (byts xs).set j (.int .u8 (x : Int)) := by simp [byts, List.map_set]
  rw [e, List.length_set]; exact s1
theorem row_lt {w : World} {base e size g n c : Nat} {xs : List Value} (h : w.ownsRow base e size (.slice (some ⟨g, 0, none⟩) n c) n xs) : g < w.heap.size := by
  obtain ⟨_, (⟨h1, _⟩ | ⟨g', cap, cur, h1, _, hg, _⟩)⟩ := h
  · cases h1
  · simp at h1; obtain ⟨rfl, _⟩ := h1; exact (Array.getElem?_eq_some_iff.1 hg).1
/-- the place, out of its variable -/
def plOf (B : Nat) (w : World) : Nat := match w.cell? ⟨B + 2, 0, none⟩ with | some (.int _ n) => n.toNat | _ => 0
theorem plOf_eq {B k : Nat} {w : World} (h : Boxed w (B + 2) 3 (.int .i64 (k : Int))) : plOf B w = k := by
  unfold plOf; rw [h.cell]; simp
theorem set_len (pre now : List Nat) (b : Nat) : (pre ++ now.length :: now ++ [b]).set pre.length (now.length + 1) = pre ++ (now ++ [b]).length :: (now ++ [b]) := by
  rw [List.append_assoc, List.set_append_right _ _ (Nat.le_refl _)]
  simp
/-- the length goes up by one -/
theorem RL.step {B k b g c n : Nat} {t : ByteArray} {pre now : List Nat} {W : World} (h : RL B t k (pre ++ now.length :: now ++ [b]) W) (hb : Boxed W (B + 1) 56 (.slice (some ⟨g, 0, none⟩) n c)) (hn : n = pre.length + 1 + now.length + 1) :
    W.cell? ⟨g, pre.length, none⟩ = some (.int .u8 (now.length : Int)) ∧ W.frozen? ⟨g, pre.length, none⟩ = false ∧
    (W.setCell ⟨g, pre.length, none⟩ (.int .u8 ((now.length : Int) + 1))).cell? ⟨B + 2, 0, none⟩ = some (.int .i64 (k : Int)) ∧ (W.setCell ⟨g, pre.length, none⟩ (.int .u8 ((now.length : Int) + 1))).frozen? ⟨B + 2, 0, none⟩ = false ∧
    RL B t k (pre ++ (now ++ [b]).length :: (now ++ [b])) (W.setCell ⟨g, pre.length, none⟩ (.int .u8 ((now.length : Int) + 1))) ∧ Below B W (W.setCell ⟨g, pre.length, none⟩ (.int .u8 ((now.length : Int) + 1))) := by
  obtain ⟨v, hv, hown⟩ := h.wr
  have hxl : (pre ++ now.length :: now ++ [b]).length = n := by rw [hn]; simp; omega
  obtain rfl : v = .slice (some ⟨g, 0, none⟩) n c := by
    have := (show W.heap[B + 1]? = _ from hv).symm.trans hb
    simpa using this
  rw [hxl] at hown
  have hc : W.cell? ⟨g, pre.length, none⟩ = some (.int .u8 (now.length : Int)) := by
    rw [hown.cellAt pre.length (by omega)]; simp [byts]
  obtain ⟨r1, r2⟩ := RL.put (x := now.length + 1) (j := pre.length) (y := (now.length : Int) + 1) h hb hxl.symm (by simp) hown
  rw [set_len] at r1
  exact ⟨hc, hown.frozenAt _, r1.pl.cell, r1.pl.frozen, r1, r2⟩
end Go.Proofs.YtiaccimdjfdkgaaGreatDoor

namespace Go.Proofs.YtiaccimdjfdkgaaGreatDoor
set_option linter.unusedVariables false
open Go.RowKit Go.Shelf Go.Proofs.YtiaccimdjfdkgaaGreatDoor.Nm

set_option maxRecDepth 100000 in
set_option maxHeartbeats 4000000 in
/-- name.readLabels's inner function -/
theorem readLabel_any (B k : Nat) (t : ByteArray) (pre : List Nat) (w : World) (hS : RL B t k pre w) (hk : k < t.size) (ht : t.size ≤ 1048576) (hpl : pre.length ≤ 1073741824) (hG : Gl w) (hB : Lo B) :
    Calls Tryz.prog 120 #[.pointer (some ⟨B + 2, 0, none⟩), .pointer (some ⟨B + 1, 0, none⟩), .pointer (some ⟨B, 0, none⟩)] w fun e w' =>
      (∃ place code : Nat, e = .returned (.tuple #[.int .i64 (place : Int), .int .i64 (code : Int)]) ∧ code ≠ 0 ∧ (∀ L, scanT t k k [] L = ⟨code, place, [], false⟩) ∧ Below B w w') ∨
      (∃ (k' : Nat) (now : List Nat), e = .returned (.tuple #[.int .i64 0, .int .i64 0]) ∧ now ≠ [] ∧ now.length ≤ 63 ∧ (∀ x ∈ now, x < 256) ∧ k < k' ∧ k' ≤ t.size ∧ (k' = t.size ∨ bt t k' = 46) ∧ (∀ L, scanT t k k [] L = scanT t k' k now L) ∧ RL B t k' (pre ++ now.length :: now) w' ∧ Below B w w') := by
  obtain ⟨i0, hi, hz0, hz1, hz2⟩ := info_parts Tryz.infoByte
  obtain ⟨v, hv, hown⟩ := hS.wr
  obtain ⟨p, c, rfl, hnc, hc9, _⟩ := owns_shape hown
  have cT := hS.tx.cell
  have cA := hS.pl.cell
  have cW := hv.cell
  have fW := hv.frozen
  go_enter Tryz.func120, Tryz.ntmps120
  go_wp2_with fail
  go_quiet (fail)
  obtain ⟨w0, hw0⟩ : ∃ w0, w.drewN nq = w0 := ⟨_, rfl⟩
  have hS0 : RL B t k pre w0 := hw0 ▸ hS.drewN nq
  have hB0 : Below B w w0 := hw0 ▸ below_drewN (Below.refl _ _) nq
  have hv0 : Boxed w0 (B + 1) 56 (.slice p pre.length c) := hw0 ▸ hv
  have hown0 : w0.ownsRow (B + 3) 5 1 (.slice p pre.length c) pre.length (byts pre) := hw0 ▸ hown
  rw [hw0]
  have HW0 := hide' hB0
  have cW0 := hv0.cell
  have fW0 := hv0.frozen
  clear hw0 hB0 hS hv hown cT cA cW fW
  go_wp2_with (at_builtin; refine wpList_append_own _ rfl _ _ 56 rfl (B + 3) 5 i0 (.int .u8 0) 1 1 Tryz.underlying56 hi hz0 hz1 hz2 rfl (by decide) _ _ _ rfl (hown0.alloc _) ⟨w0.heap.size, 0, none⟩ 1 1 [.int .u8 0] rfl rfl (cell_one_new _ _ _) (by simp [Value.oneCell']) (by unfold maxLen; omega) (by omega) (by have := hS0.sz; simp; omega) ?_; intro v1 w1 hown1 hgrow1 _; obtain ⟨hS1, hv1, hB1⟩ := RL.push (x := 0) hS0 hv0 rfl hown0 hown1 hgrow1; obtain ⟨g1, c1, rfl⟩ := owns_some hown1 (by omega); have cW1 := hv1.cell; have fW1 := hv1.frozen)
  go_loopw [8] (fun _ wr => ∃ (k' : Nat) (now : List Nat), ((now = [] ∧ k' = k) ∨ (now ≠ [] ∧ k < k')) ∧ k' ≤ t.size ∧ now.length ≤ 63 ∧ Hid (∀ x ∈ now, x < 256) ∧ Hid (∀ L, scanT t k k [] L = scanT t k' k now L) ∧ RL B t k' (pre ++ now.length :: now) wr ∧ Below B w wr)
    (fun _ wr => t.size - plOf B wr)
  case atStart => exact ⟨k, [], .inl ⟨rfl, rfl⟩, Nat.le_of_lt hk, by simp, (fun x hx => by cases hx), (fun _ => rfl), hS1, HW0.out.trans hB1⟩
  case round =>
    obtain ⟨k', now, hcase, hk', hnl, H256, HSC, hSr, hBr⟩ := hrel
    obtain ⟨v, hv, hown⟩ := hSr.wr
    have hxl : (pre ++ now.length :: now).length = pre.length + 1 + now.length := by simp; omega
    rw [hxl] at hown
    obtain ⟨g, cp, rfl⟩ := owns_some hown (by omega)
    have cT := hSr.tx.cell
    have cA := hSr.pl.cell
    have fA := hSr.pl.frozen
    have cW := hv.cell
    have fW := hv.frozen
    have hpl' := plOf_eq hSr.pl
    have HM := hide' hpl'
    clear hpl'
    by_cases hlt : k' < t.size
    · obtain ⟨y, hy, HY, hyl⟩ := bt_wrap hlt
      by_cases h46 : y = 46
      · subst h46
        rcases hcase with ⟨rfl, rfl⟩ | ⟨hne, hkk⟩
        · have HR : Hid (∀ L, scanT t k' k' [] L = ⟨2, k', [], false⟩) := fun L => scanT_dot0 hlt HY
          clear HY
          go_wp2
          go_ret2
          exact .inl ⟨k', 2, rfl, by decide, HR.out, hBr⟩
        · have HB46 : Hid (bt t k' = 46) := HY
          have hkk' : ((k' : Int) == (k : Int)) = false := by rw [beq_eq_false_iff_ne]; omega
          clear HY
          go_wp2
          go_ret2
          exact .inr ⟨k', now, rfl, hne, hnl, H256.out, hkk, hk', .inr HB46.out, HSC.out, hSr, hBr⟩
      · have hy46 : ((y : Int) == 46) = false := by rw [beq_eq_false_iff_ne]; omega
        have hy46' : ((y : Int) != 46) = true := by rw [bne_iff_ne]; omega
        have hyne : bt t k' ≠ 46 := by rw [HY]; exact h46
        have hpz : 0 < (t.extract k' t.size).size := by rw [size_extract' _ _ _ (Nat.le_refl _)]; omega
        have hps : (t.extract k' t.size).size ≤ 1048576 := by rw [size_extract' _ _ _ (Nat.le_refl _)]; omega
        have hGr : Gl wr := hG.below hBr hB
        have hbyte := byte_any (t.extract k' t.size) wr hpz hps hGr
        obtain ⟨hp1, hp2⟩ := pc_some hlt
        obtain ⟨b, hb⟩ : ∃ b, (pc (t.extract k' t.size)).1 = b := ⟨_, rfl⟩
        obtain ⟨wd, hwd⟩ : ∃ wd, (pc (t.extract k' t.size)).2 = wd := ⟨_, rfl⟩
        rw [hb, hwd] at hbyte
        rw [hwd] at hp1
        rw [hb] at hp2
        have HBY := hide' hbyte
        have HPB : Hid ((pc (t.extract k' t.size)).1 = b) := hb
        have HPW : Hid ((pc (t.extract k' t.size)).2 = wd) := hwd
        have HNE := hide' hyne
        clear hb hwd hpz hps hyne HY h46 hbyte hGr
        by_cases hw0 : wd = 0
        · subst hw0
          have HR : Hid (∀ L, scanT t k k [] L = ⟨2, k', [], false⟩) := fun L => (HSC.out L).trans (scanT_bad hlt HNE.out HPW.out)
          go_wp2_with (go_at_call 121; refine (HBY.out).mono ?_; rintro e w2 ⟨rfl, hB2⟩; have hS2 := hSr.below hB2; have cA2 := hS2.pl.cell)
          go_ret2
          exact .inl ⟨k', 2, rfl, by decide, HR.out, hBr.trans (hB2.mono (by have := hSr.sz; omega))⟩
        · have hw0' : ((wd : Int) == 0) = false := by rw [beq_eq_false_iff_ne]; omega
          have hcell0 : wr.cell? ⟨g, pre.length, none⟩ = some (.int .u8 (now.length : Int)) := by
            rw [hown.cellAt pre.length (by omega)]; simp [byts]
          by_cases h63 : now.length = 63
          · have HR : Hid (∀ L, scanT t k k [] L = ⟨3, k, [], false⟩) := fun L => (HSC.out L).trans (scanT_full hlt HNE.out (by rw [HPW.out]; exact hw0) h63)
            have h63' : ((now.length : Int) == 63) = true := by rw [beq_iff_eq]; omega
            clear h63 hw0
            go_wp2_with (go_at_call 121; refine (HBY.out).mono ?_; rintro e w2 ⟨rfl, hB2⟩; have hS2 := hSr.below hB2; have cA2 := hS2.pl.cell; have cW2 := (bx_below hv hB2 (hv.lt)).cell; have cR2 := (hB2.cell (p := ⟨g, pre.length, none⟩) (row_lt hown)).trans hcell0)
            go_ret2
            exact .inl ⟨k, 3, rfl, by decide, HR.out, hBr.trans (hB2.mono (by have := hSr.sz; omega))⟩
          · have h63' : ((now.length : Int) == 63) = false := by rw [beq_eq_false_iff_ne]; omega
            have HS2 : Hid (∀ L, scanT t k k [] L = scanT t (k' + wd) k (now ++ [b]) L) := by
              intro L
              have := (HSC.out L).trans (scanT_byte hlt HNE.out (by rw [HPW.out]; exact hw0) h63)
              rw [HPW.out, HPB.out] at this; exact this
            have H2562 : Hid (∀ x ∈ now ++ [b], x < 256) := fun x hx => by
              rcases List.mem_append.1 hx with h | h
              · exact H256.out x h
              · simp at h; omega
            have hwd1 : 1 ≤ wd := by omega
            have hn62 : now.length < 63 := by omega
            clear h63 hw0
            go_wp2_with (first
              | (go_at_call 121; refine (HBY.out).mono ?_; rintro e w2 ⟨rfl, hB2⟩; have hS2 := hSr.below hB2; have hv2 := bx_below hv hB2 (hv.lt); have hown2 := ownsRow_below hown hB2; have cA2 := hS2.pl.cell; have cW2 := hv2.cell; have fW2 := hv2.frozen; have cR2 := (hB2.cell (p := ⟨g, pre.length, none⟩) (row_lt hown)).trans hcell0)
              | (at_builtin; refine wpList_append_own _ rfl _ _ 56 rfl (B + 3) 5 i0 (.int .u8 0) 1 1 Tryz.underlying56 hi hz0 hz1 hz2 rfl (by decide) _ _ _ rfl (hown2.alloc _) ⟨w2.heap.size, 0, none⟩ 1 1 [.int .u8 (b : Int)] rfl rfl (cell_one_new _ _ _) (by simp [Value.oneCell']) (by unfold maxLen; omega) (by omega) (by have := hS2.sz; simp; omega) ?_; intro v3 w3 hown3 hgrow3 _; obtain ⟨hS3, hv3, hB3⟩ := RL.push (x := b) hS2 hv2 hxl.symm hown2 hown3 hgrow3; obtain ⟨g3, c3, rfl⟩ := owns_some hown3 (by omega); have cW3 := hv3.cell; have fW3 := hv3.frozen; have hb3 := hv3.set (.slice (some ⟨g3, 0, none⟩) (pre.length + 1 + now.length + 1) c3); have cB3 := hb3.cell; obtain ⟨s1, s2, s3, s4, s5, s6⟩ := RL.step hS3 hb3 rfl))
            have hS5 := RL.go (k' := k' + wd) (y := (k' : Int) + (wd : Int)) s5 (by simp)
            refine ⟨⟨k' + wd, now ++ [b], .inr ⟨by simp, by omega⟩, by omega, by simp; omega, H2562, HS2, hS5, ?_⟩, ?_⟩
            · exact hBr.trans ((hB2.mono (by have := hSr.sz; omega)).trans (hB3.trans (s6.setCell (p := ⟨B + 2, 0, none⟩) (by show B ≤ B + 2; omega) _)))
            · rw [plOf_eq hS5.pl, HM.out]; omega
    · obtain rfl : k' = t.size := by omega
      rcases hcase with ⟨rfl, rfl⟩ | ⟨hne, hkk⟩
      · omega
      · have hkk' : ((t.size : Int) == (k : Int)) = false := by rw [beq_eq_false_iff_ne]; omega
        go_wp2
        go_ret2
        exact .inr ⟨t.size, now, rfl, hne, hnl, H256.out, hkk, Nat.le_refl _, .inl rfl, HSC.out, hSr, hBr⟩
end Go.Proofs.YtiaccimdjfdkgaaGreatDoor

namespace Go.Proofs.YtiaccimdjfdkgaaGreatDoor
set_option linter.unusedVariables false
open Go.RowKit Go.Shelf Go.Proofs.YtiaccimdjfdkgaaGreatDoor.Nm

/-- what readLabels hands back -/
def rlEnd (S : Scan) : Ending := if S.code ≠ 0 then .returned (.tuple #[.string ByteArray.empty, .bool false, .int .i64 (S.place : Int), .int .i64 (S.code : Int)]) else .returned (.tuple #[.string (chunks S.labels), .bool S.whole, .int .i64 0, .int .i64 0])

theorem wireL_lb : ∀ {l : List (List Nat)}, (∀ now ∈ l, now ≠ []) → 2 * l.length ≤ (wireL l).length
  | [], _ => by simp
  | now :: l, h => by
    have h1 := wireL_lb (l := l) (fun x hx => h x (List.mem_cons_of_mem _ hx))
    have h2 : 0 < now.length := List.length_pos_iff.2 (h now (List.mem_cons_self ..))
    have e : (wireL (now :: l)).length = 1 + now.length + (wireL l).length := by simp [wireL]; omega
    rw [e, List.length_cons]; omega

theorem results_tmp4 {fn : Func} {t u v x : Tmp} (h : fn.results = #[.tmp t, .tmp u, .tmp v, .tmp x]) (tmps : Array Value) (P : Program) (w : World) :
    (results fn tmps).run P w = .ok (.tuple #[tmps.getD t undef, tmps.getD u undef, tmps.getD v undef, tmps.getD x undef]) w := by
  simp [results, h]

set_option maxRecDepth 100000 in
set_option maxHeartbeats 4000000 in
/-- name.readLabels -/
theorem readLabels_any (t : ByteArray) (w : World) (h0 : 0 < t.size) (ht : t.size ≤ 1048576) (hG : Gl w) :
    Calls Tryz.prog 96 #[.string t] w fun e w' => e = rlEnd (scanT t 0 0 [] []) ∧ Below w.heap.size w w' := by
  have hw := hG.lo
  have b1 := Boxed.new w 9 (.string t)
  have b2 := Boxed.new (w.alloc (.cells #[.string t] 9)) 56 (.slice none 0 0)
  have b3 := Boxed.new ((w.alloc (.cells #[.string t] 9)).alloc (.cells #[.slice none 0 0] 56)) 3 (.int .i64 0)
  rw [World.size_alloc] at b2
  rw [World.size_alloc, World.size_alloc] at b3
  have hmf : ∀ (fn : Fn) (first cap : Array Value) (w : World), (Instr.makeFunc fn first cap).run Tryz.prog w = .ok (.func fn first cap) w := fun _ _ _ _ => rfl
  go_enter Tryz.func96, Tryz.ntmps96
  go_wp2_with fail
  have hS0 : RL w.heap.size t 0 (wireL []) (((w.alloc (.cells #[.string t] 9)).alloc (.cells #[.slice none 0 0] 56)).alloc (.cells #[.int .i64 0] 3)) :=
    ⟨(b1.alloc _).alloc _, ⟨_, b2.alloc _, World.ownsRow_nil _ _ _ _⟩, b3, by simp⟩
  have hB0 : Below w.heap.size w (((w.alloc (.cells #[.string t] 9)).alloc (.cells #[.slice none 0 0] 56)).alloc (.cells #[.int .i64 0] 3)) := (((Below.refl _ w).alloc (Nat.le_refl _) _).alloc (by simp) _).alloc (by simp; omega) _
  clear b1 b2 b3
  go_loopw [9] (fun wv wr => ∃ (k : Nat) (LL : List (List Nat)) (wh : Bool), wv = .bool wh ∧ k ≤ t.size ∧ (k = 0 ∨ LL ≠ []) ∧ (wireL LL).length ≤ 64 * k ∧ Hid (∀ now ∈ LL, now.length ≤ 63 ∧ ∀ x ∈ now, x < 256) ∧
      Hid ((k < t.size ∧ scanT t 0 0 [] [] = scanT t k k [] (LL.map bts)) ∨ (k = t.size ∧ scanT t 0 0 [] [] = ⟨0, 0, LL.map bts, wh⟩)) ∧ RL w.heap.size t k (wireL LL) wr ∧ Below w.heap.size w wr)
    (fun _ wr => t.size - plOf w.heap.size wr)
  case atStart => exact ⟨0, [], false, rfl, Nat.zero_le _, .inl rfl, by simp [wireL], (fun x hx => by cases hx), .inl ⟨h0, rfl⟩, hS0, hB0⟩
  case round =>
    obtain ⟨k, LL, wh, rfl, hk, hLL, hwl, HL, HSC, hSr, hBr⟩ := hrel
    have cT := hSr.tx.cell
    have cA : wr.cell? ⟨w.heap.size + 1 + 1, 0, none⟩ = some (.int .i64 (k : Int)) := hSr.pl.cell
    have HM := hide' (plOf_eq hSr.pl)
    by_cases hlt : k < t.size
    · have HSC2 : Hid (scanT t 0 0 [] [] = scanT t k k [] (LL.map bts)) := by
        rcases HSC.out with h | h
        · exact h.2
        · omega
      clear HSC
      have hGr : Gl wr := hG.below hBr hw
      have HRL := hide' (readLabel_any w.heap.size k t (wireL LL) wr hSr hlt ht (by omega) hGr hw)
      clear hGr
      go_wp2_with fail
      refine (HRL.out).mono ?_
      rintro e w2 (⟨place, code, rfl, hc, hsc, hb2⟩ | ⟨k', now, rfl, hne, hnl, h256, hkk, hk', hend, hsc, hS2, hb2⟩)
      · have HE : Hid (rlEnd (scanT t 0 0 [] []) = .returned (.tuple #[.string ByteArray.empty, .bool false, .int .i64 (place : Int), .int .i64 (code : Int)])) := by
          unfold Hid rlEnd; rw [HSC2.out, hsc, if_pos hc]
        have hc' : ((code : Int) != 0) = true := by rw [bne_iff_ne]; omega
        have hc'' : ((code : Int) == 0) = false := by rw [beq_eq_false_iff_ne]; omega
        clear hc hsc
        go_wp2
        (try simp only [Exit.inBlock, Exit.then])
        refine bodyPost_ret (results_tmp4 rfl _ _ _) rfl ?_
        exact ⟨by rw [HE.out]; rfl, hBr.trans hb2⟩
      · have HL2 : Hid (∀ x ∈ LL ++ [now], x.length ≤ 63 ∧ ∀ y ∈ x, y < 256) := by
          intro x hx
          rcases List.mem_append.1 hx with h | h
          · exact HL.out x h
          · simp at h; rw [h]; exact ⟨hnl, h256⟩
        have HSC3 : Hid (scanT t 0 0 [] [] = scanT t k' k now (LL.map bts)) := HSC2.out.trans (hsc _)
        have hwl2 : (wireL (LL ++ [now])).length ≤ 64 * k' := by rw [wireL_snoc]; simp; omega
        rw [← wireL_snoc] at hS2
        have cT2 := hS2.tx.cell
        have cA2 : w2.cell? ⟨w.heap.size + 1 + 1, 0, none⟩ = some (.int .i64 (k' : Int)) := hS2.pl.cell
        have fA2 : w2.frozen? ⟨w.heap.size + 1 + 1, 0, none⟩ = false := hS2.pl.frozen
        have HNE := hide' hne
        have HEN := hide' hend
        clear hsc h256 hne hend HSC2
        by_cases hlt2 : k' < t.size
        · have h46 : bt t k' = 46 := by
            rcases HEN.out with h | h
            · omega
            · exact h
          have HSC4 : Hid (scanT t 0 0 [] [] = scanT t (k' + 1) (k' + 1) [] ((LL ++ [now]).map bts)) := by
            unfold Hid; rw [HSC3.out, scanT_dot hlt2 h46 HNE.out, List.map_append]; rfl
          clear h46 HSC3
          go_wp2
          have hS3 := RL.go (k' := k' + 1) (y := (k' : Int) + 1) hS2 (by simp)
          refine ⟨⟨k' + 1, LL ++ [now], true, rfl, hlt2, .inr (by simp), by omega, HL2, ?_, hS3, hBr.trans (hb2.setCell (p := ⟨w.heap.size + 2, 0, none⟩) (by show w.heap.size ≤ w.heap.size + 2; omega) _)⟩, ?_⟩
          · by_cases hq : k' + 1 < t.size
            · exact .inl ⟨hq, HSC4.out⟩
            · exact .inr ⟨by omega, by rw [HSC4.out, scanT_end (by omega)]; simp⟩
          · have := plOf_eq hS3.pl
            rw [HM.out]
            show t.size - plOf w.heap.size (w2.setCell ⟨w.heap.size + 2, 0, none⟩ (.int .i64 ((k' : Int) + 1))) < _
            rw [this]; omega
        · go_wp2
          refine ⟨⟨k', LL ++ [now], false, rfl, hk', .inr (by simp), hwl2, HL2, .inr ⟨by omega, ?_⟩, hS2, hBr.trans hb2⟩, ?_⟩
          · rw [HSC3.out, scanT_end (by omega), if_neg HNE.out]
            simp [HNE.out]
          · rw [HM.out, plOf_eq hS2.pl]; omega
    · have HSC2 : Hid (scanT t 0 0 [] [] = ⟨0, 0, LL.map bts, wh⟩) := by
        rcases HSC.out with h | h
        · omega
        · exact h.2
      have HE : Hid (rlEnd (scanT t 0 0 [] []) = .returned (.tuple #[.string (chunks (LL.map bts)), .bool wh, .int .i64 0, .int .i64 0])) := by
        unfold Hid rlEnd; rw [HSC2.out, if_neg (by simp)]
      obtain ⟨v, hv, hown⟩ := hSr.wr
      have hLne : LL ≠ [] := by
        rcases hLL with h | h
        · omega
        · exact h
      have hpos : 0 < (wireL LL).length := by
        cases LL with
        | nil => exact absurd rfl hLne
        | cons x l => simp [wireL]
      obtain ⟨g, cp, rfl⟩ := owns_some hown hpos
      have hz := bts_size (wireL LL)
      have hcv : (convert 56 9 (.slice (some ⟨g, 0, none⟩) (wireL LL).length cp)).run Tryz.prog wr = .ok (.string (chunks (LL.map bts))) wr := by
        have h := owns_str (t := bts (wireL LL)) (w := wr) (base := w.heap.size + 3) (g := g) (cap := cp) (by rw [hz, bts_cells _ (wireL_lt HL.out)]; exact hown)
        rw [hz, bts_wireL] at h; exact h
      have cW := hv.cell
      have hkt : k = t.size := by omega
      subst hkt
      clear hz hpos HSC hLne hLL
      go_wp2
      (try simp only [Exit.inBlock, Exit.then])
      refine bodyPost_ret (results_tmp4 rfl _ _ _) rfl ?_
      exact ⟨by rw [HE.out]; rfl, hBr⟩
end Go.Proofs.YtiaccimdjfdkgaaGreatDoor

namespace Go.Proofs.YtiaccimdjfdkgaaGreatDoor
set_option linter.unusedVariables false
open Go.RowKit Go.Shelf Go.Proofs.YtiaccimdjfdkgaaGreatDoor.Nm

set_option maxRecDepth 100000 in
set_option maxHeartbeats 2000000 in
/-- name.Read -/
theorem read_any (t o : ByteArray) (w : World) (ht : t.size ≤ 1048576) (ho : o.size ≤ maxLen) (hG : Gl w) :
    Calls Tryz.prog 72 #[.string t, .string o] w fun e w' => e = .returned (.tuple #[.string (readB t o).1, .int .i64 ((readB t o).2.1 : Int), .int .i64 ((readB t o).2.2 : Int)]) ∧ Below w.heap.size w w' := by
  cases hN : isN o with
  | false =>
    have HR : Hid (readB t o = (ByteArray.empty, 0, 1)) := readB_noName hN
    go_enter Tryz.func72, Tryz.ntmps72
    go_wp2_with (go_at_call 33; refine (isName_any o _ ho).mono ?_; rintro e w1 ⟨rfl, hB1⟩; rw [hN])
    go_ret3
    exact ⟨by rw [HR.out]; rfl, hB1⟩
  | true =>
    have ho255 : o.size ≤ 255 := ((isN_iff o).1 hN).1
    by_cases h0 : t.size = 0
    · have HR : Hid (readB t o = (ByteArray.empty, 0, 2)) := readB_empty hN h0
      have he := isEmpty_true h0
      clear h0
      go_enter Tryz.func72, Tryz.ntmps72
      go_wp2_with (go_at_call 33; refine (isName_any o _ ho).mono ?_; rintro e w1 ⟨rfl, hB1⟩; rw [hN])
      go_ret3
      exact ⟨by rw [HR.out]; rfl, hB1⟩
    · have he := isEmpty_false (r := t) (by omega)
      by_cases h64 : t = bts [64]
      · have HR : Hid (readB t o = (o, 0, 0)) := readB_at hN h64
        have h64' : (t.toList == [64]) = true := by rw [show ([64] : List UInt8) = [UInt8.ofNat 64] from rfl, toList_lit]; exact decide_eq_true h64
        clear h64 h0
        go_enter Tryz.func72, Tryz.ntmps72
        go_wp2_with (go_at_call 33; refine (isName_any o _ ho).mono ?_; rintro e w1 ⟨rfl, hB1⟩; rw [hN])
        go_ret3
        exact ⟨by rw [HR.out]; rfl, hB1⟩
      · have h64' : (t.toList == [64]) = false := by rw [show ([64] : List UInt8) = [UInt8.ofNat 64] from rfl, toList_lit]; exact decide_eq_false h64
        by_cases h46 : t = bts [46]
        · have HR : Hid (readB t o = (bts [0], 0, 0)) := readB_dot hN h46
          have h46' : (t.toList == [46]) = true := by rw [show ([46] : List UInt8) = [UInt8.ofNat 46] from rfl, toList_lit]; exact decide_eq_true h46
          clear h64 h0 h46
          go_enter Tryz.func72, Tryz.ntmps72
          go_wp2_with (go_at_call 33; refine (isName_any o _ ho).mono ?_; rintro e w1 ⟨rfl, hB1⟩; rw [hN])
          go_ret3
          exact ⟨by rw [HR.out]; rfl, hB1⟩
        · have h46' : (t.toList == [46]) = false := by rw [show ([46] : List UInt8) = [UInt8.ofNat 46] from rfl, toList_lit]; exact decide_eq_false h46
          obtain ⟨c, k, l, b, hs⟩ : ∃ c k l b, scanT t 0 0 [] [] = ⟨c, k, l, b⟩ := ⟨_, _, _, _, rfl⟩
          have hrl := fun w hG => readLabels_any t w (by omega) ht hG
          by_cases hc : c = 0
          · subst hc
            have hk0 : k = 0 := scan_zero t _ _ _ _ _ hs
            subst hk0
            have HF := readB_fin hN h0 h64 h46 hs
            have HE : rlEnd (scanT t 0 0 [] []) = .returned (.tuple #[.string (chunks l), .bool b, .int .i64 0, .int .i64 0]) := by unfold rlEnd; rw [hs, if_neg (by simp)]
            rw [HE] at hrl
            have HRL := hide' hrl
            have hlz : (chunks l).size ≤ 67108928 := scan_size t hs ht
            cases b with
            | true =>
              rw [if_pos rfl, putB_whole] at HF
              have hz : (chunks l ++ bts [0]).size = (chunks l).size + 1 := by rw [ByteArray.size_append, bts_size]; rfl
              rw [hz] at HF
              have HFF := hide' HF
              have had : ∀ W : World, (Op.stringOp .add (chunks l) ⟨#[0]⟩).run Tryz.prog W = .ok (.string (chunks l ++ bts [0])) W := fun W => run_string_add_sum W _ _ (by rw [show (⟨#[0]⟩ : ByteArray).size = 1 from rfl]; omega)
              by_cases h255 : (chunks l).size + 1 ≤ 255
              · have HR := HFF.out.2 h255
                have HR' := hide' HR
                clear HR HF HE hs hrl h0 h64 h46 hz
                generalize chunks l = C at *
                go_enter Tryz.func72, Tryz.ntmps72
                go_wp2_with (first
                  | (go_at_call 33; refine (isName_any o _ ho).mono ?_; rintro e w1 ⟨rfl, hB1⟩; rw [hN])
                  | (go_at_call 96; refine (HRL.out _ (hG.grow hB1)).mono ?_; rintro e w2 ⟨rfl, hB2⟩))
                go_ret3
                exact ⟨by rw [HR'.out]; rfl, bstep hB1 hB2 hB1.size⟩
              · have HR := HFF.out.1 (by omega)
                have HR' := hide' HR
                have h255' : 255 < (chunks l).size + 1 := by omega
                clear HR HF HE hs hrl h0 h64 h46 hz h255
                generalize chunks l = C at *
                go_enter Tryz.func72, Tryz.ntmps72
                go_wp2_with (first
                  | (go_at_call 33; refine (isName_any o _ ho).mono ?_; rintro e w1 ⟨rfl, hB1⟩; rw [hN])
                  | (go_at_call 96; refine (HRL.out _ (hG.grow hB1)).mono ?_; rintro e w2 ⟨rfl, hB2⟩))
                go_ret3
                exact ⟨by rw [HR'.out]; rfl, bstep hB1 hB2 hB1.size⟩
            | false =>
              rw [if_neg (by decide), putB_rest hN] at HF
              have hz : (chunks l ++ o).size = (chunks l).size + o.size := by rw [ByteArray.size_append]
              rw [hz] at HF
              have HFF := hide' HF
              have had : ∀ W : World, (Op.stringOp .add (chunks l) o).run Tryz.prog W = .ok (.string (chunks l ++ o)) W := fun W => run_string_add_sum W _ _ (by omega)
              by_cases h255 : (chunks l).size + o.size ≤ 255
              · have HR := HFF.out.2 h255
                have HR' := hide' HR
                clear HR HF HE hs hrl h0 h64 h46 hz
                generalize chunks l = C at *
                go_enter Tryz.func72, Tryz.ntmps72
                go_wp2_with (first
                  | (go_at_call 33; refine (isName_any o _ ho).mono ?_; rintro e w1 ⟨rfl, hB1⟩; rw [hN])
                  | (go_at_call 96; refine (HRL.out _ (hG.grow hB1)).mono ?_; rintro e w2 ⟨rfl, hB2⟩))
                go_ret3
                exact ⟨by rw [HR'.out]; rfl, bstep hB1 hB2 hB1.size⟩
              · have HR := HFF.out.1 (by omega)
                have HR' := hide' HR
                have h255' : 255 < (chunks l).size + o.size := by omega
                clear HR HF HE hs hrl h0 h64 h46 hz h255
                generalize chunks l = C at *
                go_enter Tryz.func72, Tryz.ntmps72
                go_wp2_with (first
                  | (go_at_call 33; refine (isName_any o _ ho).mono ?_; rintro e w1 ⟨rfl, hB1⟩; rw [hN])
                  | (go_at_call 96; refine (HRL.out _ (hG.grow hB1)).mono ?_; rintro e w2 ⟨rfl, hB2⟩))
                go_ret3
                exact ⟨by rw [HR'.out]; rfl, bstep hB1 hB2 hB1.size⟩
          · have HR : Hid (readB t o = (ByteArray.empty, k, c)) := readB_err hN h0 h64 h46 hs hc
            have HE : rlEnd (scanT t 0 0 [] []) = .returned (.tuple #[.string ByteArray.empty, .bool false, .int .i64 (k : Int), .int .i64 (c : Int)]) := by unfold rlEnd; rw [hs, if_pos hc]
            rw [HE] at hrl
            have HRL := hide' hrl
            have hc' : ((c : Int) != 0) = true := by rw [bne_iff_ne]; omega
            have hc'' : ((c : Int) == 0) = false := by rw [beq_eq_false_iff_ne]; omega
            clear HE hs hrl h0 h64 h46 hc
            go_enter Tryz.func72, Tryz.ntmps72
            go_wp2_with (first
              | (go_at_call 33; refine (isName_any o _ ho).mono ?_; rintro e w1 ⟨rfl, hB1⟩; rw [hN])
              | (go_at_call 96; refine (HRL.out _ (hG.grow hB1)).mono ?_; rintro e w2 ⟨rfl, hB2⟩))
            go_ret3
            exact ⟨by rw [HR.out]; rfl, bstep hB1 hB2 hB1.size⟩
end Go.Proofs.YtiaccimdjfdkgaaGreatDoor
