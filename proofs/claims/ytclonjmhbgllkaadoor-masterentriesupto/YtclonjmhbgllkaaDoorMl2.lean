import Derived.Test.YtclonjmhbgllkaaDoorMl1
import Derived.Test.YtclonjmhbgllkaaDoorMr3
namespace Go.Proofs.YtclonjmhbgllkaaDoor
set_option linter.unusedVariables false
open Go.RowKit Go.Shelf Go.Proofs.YtclonjmhbgllkaaDoor.Nm

theorem EZ.len {w : World} {base : Nat} {p : Option Addr} {n c : Nat} {Z : List Ez} (h : EZ w base (.slice p n c) Z) : Z.length = n := by
  obtain ⟨p', c', e, _⟩ := owns_shape2 h.own
  injection e with _ e; exact e.symm
theorem EZ.cells {w : World} {base : Nat} {p : Option Addr} {n c : Nat} {Z : List Ez} (h : EZ w base (.slice p n c) Z) : ∀ q, p = some q → q.block < w.heap.size ∧ base ≤ q.block := fun q hq => by
  subst hq
  have := h.own.lt q.block rfl
  exact ⟨this.2, this.1⟩
theorem sameOut (px py : Option Addr) (cx cy bx by_ : Nat) (t : ByteArray) (w : World) (ht : t.size ≤ 1048576) (hx : EL w bx (.slice px (outL (entsB t)).length cx) (outL (entsB t))) (hy : EL w by_ (.slice py (outL (entsB t)).length cy) (outL (entsB t))) :
    Calls Tryd.prog 6 #[.slice px (outL (entsB t)).length cx, .slice py (outL (entsB t)).length cy] w fun e w' => e = .returned (.bool true) ∧ ∃ m, w' = w.drewN m := by
  obtain ⟨X, hX1, hX2⟩ := hx
  obtain ⟨Y, hY1, hY2⟩ := hy
  have hb := outL_len t
  refine sameEntries px py _ cx cy bx by_ X Y w hX2 hY2 (hX1.trans hY1.symm) (by rw [← hX1]; simp) (by omega) (fun z hz => ?_)
  have := hb.2 z.1 (by rw [← hX1]; exact List.mem_map_of_mem hz)
  omega

theorem MK.cell {wr : World} {B g cap j : Nat} {Z : List Ez} (h : MK wr B g cap Z j) (hj : j < Z.length) : wr.cell? ⟨g, j * 3 + 2, none⟩ = some (.slice (some ⟨Z[j].2.1, 0, none⟩) Z[j].1.ws.length Z[j].2.2) ∧ wr.frozen? ⟨g, j * 3 + 2, none⟩ = false := by
  obtain ⟨⟨xs, h1, h2⟩, _⟩ := h
  exact ⟨(World.ownsRow.cellAt h1 _ (by omega)).trans (h2 j (Nat.le_refl _) hj), World.ownsRow.frozenAt h1 _⟩
theorem MK.word {wr : World} {B g cap j : Nat} {Z : List Ez} (h : MK wr B g cap Z j) (hj : j < Z.length) (i : Nat) (hi : i < Z[j].1.ws.length * 2) : (∃ u, wr.cell? ⟨Z[j].2.1, i, none⟩ = some u) ∧ wr.frozen? ⟨Z[j].2.1, i, none⟩ = false := by
  obtain ⟨xs, h1⟩ := h.rows j (Nat.le_refl _) hj
  have hl : xs.length = Z[j].1.ws.length * 2 := h1.1
  exact ⟨⟨_, (World.ownsRow.cellAt h1 i hi).trans (List.getElem?_eq_getElem (by omega))⟩, World.ownsRow.frozenAt h1 _⟩
theorem cell_lt {w : World} {b j : Nat} {v : Value} (h : w.cell? ⟨b, j, none⟩ = some v) : b < w.heap.size := by
  rcases Nat.lt_or_ge b w.heap.size with h1 | h1
  · exact h1
  · simp [World.cell?, Array.getElem?_eq_none h1] at h
/-- between two marks -/
structure AM (w wr : World) (B2 : Nat) (pa pb : Option Addr) (n ca cb : Nat) (Z ZB : List Ez) (j : Nat) : Prop where
  ez : EZ wr B2 (.slice pb n cb) ZB
  b : Below w.heap.size w wr
  mm : 0 < n → ∃ g, pa = some ⟨g, 0, none⟩ ∧ g < B2 ∧ w.heap.size ≤ g ∧ (∀ z ∈ Z, z.2.1 ≠ g) ∧ MK wr w.heap.size g ca Z j
theorem AM.mark {w wr : World} {B2 : Nat} {pa pb : Option Addr} {n ca cb j : Nat} {Z ZB : List Ez} (h : AM w wr B2 pa pb n ca cb Z ZB j) (hasc : Z.Pairwise (fun a b => a.2.1 < b.2.1)) (hz : ∀ z ∈ Z, w.heap.size ≤ z.2.1 ∧ z.2.1 < B2) (hj : j < Z.length) (i : Nat) (hi : i < Z[j].1.ws.length * 2) (u : Value) :
    AM w (wr.setCell ⟨Z[j].2.1, i, none⟩ u) B2 pa pb n ca cb Z ZB j := by
  have hzj := hz _ (List.getElem_mem hj)
  refine ⟨h.ez.far hzj.2 _ _, below_far h.b hzj.1 _ _, fun hp => ?_⟩
  obtain ⟨g, h1, h2, h3, h4, h5⟩ := h.mm hp
  exact ⟨g, h1, h2, h3, h4, h5.mark hasc h4 hj i hi u⟩

set_option maxRecDepth 100000 in
set_option maxHeartbeats 8000000 in
/-- the law -/
theorem law_any (t : ByteArray) (w : World) (ht : t.size ≤ 1048576) (hG : GE w) :
    Calls Tryd.prog 3 #[.string t] w fun e w' => e = .returned (.bool true) ∧ Below w.heap.size w w' := by
  obtain ⟨i0, hi, hz0, hz1, hz2⟩ := info_parts Tryd.infoWord
  have HE := hide2 (fun (w : World) (h : GE w) => (entries_any t w ht h).mono (fun e w' h => both_of h))
  have HF := hide2 (fun (w : World) => (refEntries_any t w ht).mono (fun e w' h => both_of h))
  have hb := outL_len t
  have HSm := hide2 (fun px py cx cy bx by_ w hx hy => sameOut px py cx cy bx by_ t w ht hx hy)
  generalize hr : entsB t = r at *
  obtain ⟨n, hn⟩ : ∃ n, (outL r).length = n := ⟨_, rfl⟩
  obtain ⟨fc, hfc⟩ : ∃ fc, outC r = fc := ⟨_, rfl⟩
  obtain ⟨ff, hff⟩ : ∃ ff, outF r = ff := ⟨_, rfl⟩
  have hnl : n ≤ 4294967296 := by omega
  unfold bothEnd at HE HF
  rw [hn] at HE HF HSm
  rw [hfc, hff] at HE HF
  go_enter Tryd.func3, Tryd.ntmps3
  go_upto_region 2 with (go_at_call 4; refine (HE.out _ hG).mono ?_; rintro e w1 ⟨pa, ca, rfl, hLa, hB1⟩; obtain ⟨wA, hwA⟩ : ∃ wA, w1.alloc (.cells #[.int .i64 (fc : Int), .string ⟨#[]⟩, .int .i64 (ff : Int)] 25) = wA := ⟨_, rfl⟩)
  have BA : Below w1.heap.size w1 wA := hwA ▸ (Below.refl _ w1).alloc (Nat.le_refl _) _
  have zA : wA.heap.size = w1.heap.size + 1 := by rw [← hwA]; simp
  have a0 : wA.cell? ⟨w1.heap.size, 0, none⟩ = some (.int .i64 (fc : Int)) := hwA ▸ new_cell rfl _ _ _
  have a1 : wA.cell? ⟨w1.heap.size, 1, none⟩ = some (.string ⟨#[]⟩) := hwA ▸ new_cell rfl _ _ _
  have a2 : wA.cell? ⟨w1.heap.size, 2, none⟩ = some (.int .i64 (ff : Int)) := hwA ▸ new_cell rfl _ _ _
  have hB1A := hide2 (hB1.trans (BA.mono hB1.size))
  obtain ⟨Z, hZ1, hZ2⟩ := hLa
  have HZl : Hid (∀ z ∈ Z, w.heap.size ≤ z.2.1 ∧ z.2.1 < wA.heap.size) := fun z hz => by have := (hZ2.rows z hz).lt; omega
  have HPa : Hid (∀ g, pa = some ⟨g, 0, none⟩ → g < wA.heap.size ∧ w.heap.size ≤ g ∧ ∀ z ∈ Z, z.2.1 ≠ g) := fun g hg => by
    subst hg
    have := hZ2.own.lt g rfl
    exact ⟨by omega, this.1, fun z hz e => hZ2.apart z hz (by rw [e]; rfl)⟩
  have hLA := hide2 (hZ2.below BA)
  have hs1 := hB1.size
  clear hwA hB1 BA hZ2
  go_upto_region 3 with (go_at_call 5; refine (HF.out _).mono ?_; rintro e w2 ⟨pb, cb, rfl, hLb, hB2⟩; obtain ⟨wB, hwB⟩ : ∃ wB, w2.alloc (.cells #[.int .i64 (fc : Int), .string ⟨#[]⟩, .int .i64 (ff : Int)] 25) = wB := ⟨_, rfl⟩)
  have BB : Below w2.heap.size w2 wB := hwB ▸ (Below.refl _ w2).alloc (Nat.le_refl _) _
  have hs2 := hB2.size
  have BAB : Below wA.heap.size wA wB := hB2.trans (BB.mono hs2)
  have b0 : wB.cell? ⟨w2.heap.size, 0, none⟩ = some (.int .i64 (fc : Int)) := hwB ▸ new_cell rfl _ _ _
  have b1 : wB.cell? ⟨w2.heap.size, 1, none⟩ = some (.string ⟨#[]⟩) := hwB ▸ new_cell rfl _ _ _
  have b2 : wB.cell? ⟨w2.heap.size, 2, none⟩ = some (.int .i64 (ff : Int)) := hwB ▸ new_cell rfl _ _ _
  have d0 := (BAB.cell (p := ⟨w1.heap.size, 0, none⟩) (by show w1.heap.size < _; omega)).trans a0
  have d1 := (BAB.cell (p := ⟨w1.heap.size, 1, none⟩) (by show w1.heap.size < _; omega)).trans a1
  have d2 := (BAB.cell (p := ⟨w1.heap.size, 2, none⟩) (by show w1.heap.size < _; omega)).trans a2
  have HLa := hide2 (hLA.out.below BAB)
  have HLb := hide2 (hLb.below BB)
  have HBw := hide2 (hB1A.out.trans (BAB.mono (by omega)))
  clear hwB BB BAB hLb hB2 hLA hB1A a0 a1 a2
  go_wp2_with (go_at_call 6; refine (HSm.out pa pb ca cb _ _ _ ⟨Z, hZ1, HLa.out⟩ HLb.out).mono ?_; rintro e w3 ⟨rfl, m, hm⟩; have f0 : w3.cell? ⟨w1.heap.size, 0, none⟩ = some (.int .i64 (fc : Int)) := hm ▸ d0; have f1 : w3.cell? ⟨w1.heap.size, 1, none⟩ = some (.string ⟨#[]⟩) := hm ▸ d1; have f2 : w3.cell? ⟨w1.heap.size, 2, none⟩ = some (.int .i64 (ff : Int)) := hm ▸ d2; have g0 : w3.cell? ⟨w2.heap.size, 0, none⟩ = some (.int .i64 (fc : Int)) := hm ▸ b0; have g1 : w3.cell? ⟨w2.heap.size, 1, none⟩ = some (.string ⟨#[]⟩) := hm ▸ b1; have g2 : w3.cell? ⟨w2.heap.size, 2, none⟩ = some (.int .i64 (ff : Int)) := hm ▸ b2; have HLa3 : Hid (EZ w3 w.heap.size (.slice pa n ca) Z) := hm ▸ HLa.out.below (quiet_below m); have HLb3 : Hid (EL w3 wA.heap.size (.slice pb n cb) (outL r)) := hm ▸ HLb.out.below (quiet_below m); have HB3 : Hid (Below w.heap.size w w3) := hm ▸ below_drewN HBw.out m; clear hm)
  have hZ2 := HLa3.out
  obtain ⟨ZB, hZB1, hZB2⟩ := HLb3.out
  have hZn : Z.length = n := hZ2.len
  have hasc := hide2 hZ2.asc
  have HA0 : Hid (AM w w3 wA.heap.size pa pb n ca cb Z ZB 0) := by
    refine ⟨hZB2, HB3.out, fun hp => ?_⟩
    obtain ⟨g, hg, _⟩ := hZ2.read 0 (by omega)
    subst hg
    obtain ⟨q1, q2, q3⟩ := HPa.out g rfl
    exact ⟨g, rfl, q1, q2, q3, MK.start hZ2⟩
  have hwl : ∀ z ∈ Z, z.1.ws.length ≤ 1048577 := fun z hz => by have := hb.2 z.1 (by rw [← hZ1]; exact List.mem_map_of_mem hz); omega
  have HWl := hide2 hwl
  clear HLa HLb HLa3 HLb3 HBw HB3 hZ2 hZB2 hwl f0 f1 f2 g0 g1 g2 d0 d1 d2 b0 b1 b2
  go_loopw [30] (fun iv wr => ∃ j : Nat, iv = .int .i64 (j : Int) ∧ j ≤ n ∧ AM w wr wA.heap.size pa pb n ca cb Z ZB j) (fun iv _ => n - (intOf iv).toNat)
  case atStart => exact ⟨0, rfl, Nat.zero_le _, HA0.out⟩
  case round =>
    obtain ⟨j, rfl, hj, hA⟩ := hrel
    by_cases hlt : j < n
    · have hjZ : j < Z.length := by omega
      obtain ⟨g, hpa, hgB, hgw, hgz, hM⟩ := hA.mm (by omega)
      obtain ⟨c0, cf0⟩ := hM.cell hjZ
      have hzj := HZl.out _ (List.getElem_mem hjZ)
      have hwj := HWl.out _ (List.getElem_mem hjZ)
      have HMark := hide2 (fun (wr : World) (h : AM w wr wA.heap.size pa pb n ca cb Z ZB j) (i : Nat) (hi : i < Z[j].1.ws.length * 2) (u : Value) => h.mark hasc.out HZl.out hjZ i hi u)
      have HCell : Hid (∀ wr : World, AM w wr wA.heap.size pa pb n ca cb Z ZB j → (wr.cell? ⟨g, j * 3 + 2, none⟩ = some (.slice (some ⟨Z[j].2.1, 0, none⟩) Z[j].1.ws.length Z[j].2.2) ∧ wr.frozen? ⟨g, j * 3 + 2, none⟩ = false) ∧ (∀ i, i < Z[j].1.ws.length * 2 → (∃ u, wr.cell? ⟨Z[j].2.1, i, none⟩ = some u) ∧ wr.frozen? ⟨Z[j].2.1, i, none⟩ = false) ∧ (∃ xs, wr.ownsRow w.heap.size 33 2 (.slice (some ⟨Z[j].2.1, 0, none⟩) Z[j].1.ws.length Z[j].2.2) Z[j].1.ws.length xs)) := by
        intro wr h
        obtain ⟨g', e', _, _, _, hM'⟩ := h.mm (by omega)
        rw [hpa] at e'
        injection e' with e'
        injection e' with e'
        subst e'
        exact ⟨hM'.cell hjZ, fun i hi => hM'.word hjZ i hi, hM'.rows j (Nat.le_refl _) hjZ⟩
      have HNext : Hid (∀ (wr w6 : World) (o : Obj) (v' : Value), AM w wr wA.heap.size pa pb n ca cb Z ZB j → (wr.alloc o).grownBy w6 (some Z[j].2.1) → AM w (w6.setCell ⟨g, j * 3 + 2, none⟩ v') wA.heap.size pa pb n ca cb Z ZB (j + 1)) := by
        intro wr w6 o v' h hg6
        obtain ⟨g', e', q1, q2, q3, hM'⟩ := h.mm (by omega)
        rw [hpa] at e'
        injection e' with e'
        injection e' with e'
        subst e'
        refine ⟨((h.ez.below ((Below.refl _ wr).alloc (Nat.le_refl _) o)).grown hg6 hzj.2).far hgB _ _, below_far ((h.b.alloc h.b.size o).grown hg6 (by have := h.b.size; simp; omega) (fun q hq => by injection hq with hq; omega)) hgw _ _, fun _ => ⟨g, hpa, q1, q2, q3, hM'.next hasc.out hgz hjZ hg6⟩⟩
      have hgb : g ≠ Z[j].2.1 := fun e => hgz _ (List.getElem_mem hjZ) e.symm
      subst hpa
      clear hM hgz hzj
      obtain ⟨bj, hbj⟩ : ∃ bj, Z[j].2.1 = bj := ⟨_, rfl⟩
      obtain ⟨nw, hnw⟩ : ∃ nw, Z[j].1.ws.length = nw := ⟨_, rfl⟩
      obtain ⟨cw, hcw⟩ : ∃ cw, Z[j].2.2 = cw := ⟨_, rfl⟩
      rw [hbj, hnw, hcw] at HCell c0
      rw [hbj, hnw] at HMark
      rw [hbj] at HNext hgb
      rw [hnw] at hwj
      clear hbj hnw hcw
      go_wp2_with fail
      go_loopw [39] (fun iv wr => ∃ k : Nat, iv = .int .i64 (k : Int) ∧ k ≤ nw ∧ AM w wr wA.heap.size (some ⟨g, 0, none⟩) pb n ca cb Z ZB j) (fun iv _ => nw - (intOf iv).toNat)
      case atStart => exact ⟨0, rfl, Nat.zero_le _, hA⟩
      case round =>
        clear hA c0 cf0
        obtain ⟨k, rfl, hk, hA⟩ := hrel
        obtain ⟨⟨c0, cf0⟩, hcells, ⟨xs, hown⟩⟩ := HCell.out _ hA
        by_cases hlt2 : k < nw
        · obtain ⟨⟨u0, x0⟩, y0⟩ := hcells (k * 2) (by omega)
          obtain ⟨⟨u1, x1⟩, y1⟩ := hcells (k * 2 + 1) (by omega)
          have hA2 := HMark.out _ (HMark.out _ hA (k * 2) (by omega) (.string ⟨#[109, 97, 114, 107]⟩)) (k * 2 + 1) (by omega) (.bool false)
          clear hcells hown
          go_wp2_with fail
          go_roundw
          case rel => exact ⟨k + 1, by go_num, by omega, hA2⟩
          case measure => simp [intOf]; omega
        · have hkn : k = nw := by omega
          have HO := hide2 hown
          have hsz := hA.b.size
          have HA := hide2 hA
          clear hcells hown hA
          go_wp2_with (at_builtin; refine wpList_append_lies _ rfl _ _ 29 rfl w.heap.size 33 i0 (.agg #[.string ⟨#[]⟩, .bool false]) 2 24 Tryd.underlying29 hi hz0 hz1 hz2 rfl (by decide) (.slice (some ⟨bj, 0, none⟩) nw cw) nw xs rfl (HO.out.alloc _) ⟨_, 0, none⟩ 2 2 [.string ⟨#[103, 114, 111, 119, 110]⟩, .bool false, .string ⟨#[109, 111, 114, 101]⟩, .bool false] rfl rfl (cells_new rfl #[.string ⟨#[103, 114, 111, 119, 110]⟩, .bool false, .string ⟨#[109, 111, 114, 101]⟩, .bool false] 33) (by simp [Value.oneCell']) (by decide) (by unfold maxLen; omega) (by omega) (by simp; omega) _ rfl ?_; intro g6 cap6 w6 hown6 hgrow6 hpl6 hlt6; have HG6 := hide2 (show (World.alloc _ _).grownBy w6 (some bj) from hgrow6); have k0 := far_cell HG6.out hgb (cell_alloc_l _ c0); have k1 := far_free HG6.out hgb (by have := cell_lt c0; simp; omega) (frozen_alloc_l _ c0 cf0); clear hown6 hgrow6 hpl6 hlt6)
          have hA6 := HNext.out _ w6 _ (.slice (some ⟨g6, 0, none⟩) (nw + 2) cap6) HA.out HG6.out
          go_roundw
          case rel => first | exact ⟨j + 1, by go_num, by omega, hA6⟩ | ((repeat apply Exists.intro); exact ⟨⟨j + 1, by go_num, by omega, hA6⟩, rfl⟩)
          case measure => simp [intOf]; omega
    · have HEz := hide2 hA.ez
      have HB := hide2 hA.b
      have hGr := hG.below HB.out
      clear hA
      go_wp2_with (first | (go_at_call 4; refine (HE.out _ hGr).mono ?_; rintro e w7 ⟨pc, cc, rfl, hLc, hB7⟩; have HLc := hide2 hLc; have HB7 := hide2 hB7; clear hLc hB7) | (go_at_call 6; refine (HSm.out pc pb cc cb _ _ _ HLc.out ⟨ZB, hZB1, HEz.out.below HB7.out⟩).mono ?_; rintro e w8 ⟨rfl, m8, hm8⟩))
      go_ret
      exact ⟨rfl, below_drewN (HB.out.trans (HB7.out.mono HB.out.size)) _⟩
end Go.Proofs.YtclonjmhbgllkaaDoor
