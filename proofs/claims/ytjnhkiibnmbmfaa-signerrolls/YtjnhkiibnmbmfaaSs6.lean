import Derived.Test.YtjnhkiibnmbmfaaSs5
import Derived.Shelf.SlIterI.Sorted
import Derived.Deep.AppendLies
/-
  Chapter 7: the turns of a line. (The verifier's own text.)
-/
namespace Go.Proofs.Ytjnhkiibnmbmfaa
set_option linter.unusedVariables false
set_option linter.unusedSimpArgs false
open Go.RowKit Go.Shelf Go.Sort Go.Proofs.Ytjnhkiibnmbmfaa.Nm

def rawT (from0 : Int) (F : Tk → Int × Int) (L : List Tk) : List Int := from0 :: L.flatMap fun k => [max from0 (F k).1, max from0 (F k).2]
theorem rawT_snoc (from0 : Int) (F : Tk → Int × Int) (L : List Tk) (k : Tk) : rawT from0 F (L ++ [k]) = rawT from0 F L ++ [max from0 (F k).1, max from0 (F k).2] := by simp [rawT]
theorem rawT_len (from0 : Int) (F : Tk → Int × Int) (L : List Tk) : (rawT from0 F L).length = 2 * L.length + 1 := by
  unfold rawT
  induction L with
  | nil => rfl
  | cons x l ih => simp only [List.flatMap_cons, List.length_cons, List.length_append, List.length_nil] at ih ⊢; omega
theorem mem_compactZ (zs : List Int) (x : Int) : x ∈ Lib.compact zs ↔ x ∈ zs := by
  unfold Lib.compact Lib.compactUpTo
  constructor
  · intro h
    obtain ⟨j, hj, rfl⟩ := List.mem_map.1 h
    have hl : j < zs.length := List.mem_range.1 (List.mem_filter.1 hj).1
    simp [hl]
  · intro h
    obtain ⟨j, hj, rfl⟩ := List.getElem_of_mem h
    have key : ∀ j, (hj : j < zs.length) → zs[j] ∈ ((List.range zs.length).filter (Lib.keeps zs.toArray)).map (zs.toArray[·]!) := by
      intro j
      induction j with
      | zero =>
        intro hj
        refine List.mem_map.2 ⟨0, List.mem_filter.2 ⟨List.mem_range.2 hj, by simp [Lib.keeps]⟩, by simp [hj]⟩
      | succ j ih =>
        intro hj
        by_cases e : zs[j + 1] = zs[j]
        · rw [e]; exact ih (by omega)
        · refine List.mem_map.2 ⟨j + 1, List.mem_filter.2 ⟨List.mem_range.2 hj, ?_⟩, by simp [hj]⟩
          have hj' : j < zs.length := by omega
          simp [Lib.keeps, hj, hj', e]
    exact key j hj
theorem compactZ_len (zs : List Int) : (Lib.compact zs).length ≤ zs.length := by
  unfold Lib.compact Lib.compactUpTo
  rw [List.length_map]
  exact Nat.le_trans (List.length_filter_le _ _) (by simp)
/-- numbers in memory, from a block's beginning -/
def NsAt (w : World) (g : Nat) (M : List Int) : Prop := ∀ j, (h : j < M.length) → w.cell? ⟨g, j, none⟩ = some (.int .i64 M[j])
theorem NsAt.below {w w' : World} {g : Nat} {M : List Int} (h : NsAt w g M) (hb : Below w.heap.size w w') (hg : g < w.heap.size) : NsAt w' g M := fun j hj => (hb.cell (p := ⟨g, j, none⟩) hg).trans (h j hj)
/-- what turns gives -/
def turnsEnd (from0 : Int) (F : Tk → Int × Int) (L : List Tk) (w : World) (r : Ending) (w' : World) : Prop :=
  ∃ (g c : Nat) (M : List Int), r = .returned (.slice (some ⟨g, 0, none⟩) M.length c) ∧ w.heap.size ≤ g ∧ g < w'.heap.size ∧ NsAt w' g M ∧ (∀ x, x ∈ M ↔ x ∈ rawT from0 F L) ∧ M.length ≤ 2 * L.length + 1 ∧ Below w.heap.size w w'
/-- slices.Compact of numbers of one's own -/
theorem compactI_any (ZS : List Int) (gb cv base : Nat) (w1 : World) (ho1 : w1.ownsRow base 3 1 (.slice (some ⟨gb, 0, none⟩) ZS.length cv) ZS.length (ZS.map (Value.int .i64))) (hl : ZS.length ≤ 4294967296) :
    Calls Try.prog 38 #[.slice (some ⟨gb, 0, none⟩) ZS.length cv] w1 fun r w2 => r = .returned (.slice (some ⟨gb, 0, none⟩) (Lib.compact ZS).length cv) ∧ NsAt w2 gb (Lib.compact ZS) ∧ w1.grownBy w2 (some gb) ∧ gb < w2.heap.size := by
  obtain ⟨_, (⟨hn0, _⟩ | ⟨gb', cap', cur', hv', hbase', hgb', s1, s2, s3, s4⟩)⟩ := ho1
  · cases hn0
  injection hv' with hv1' hv2' hv3'
  injection hv1' with hv1'
  injection hv1' with hv1'
  subst hv1'
  subst hv3'
  have hH1 : Holds (Value.int .i64) w1 gb 0 ZS.toArray := holds_of_block_i hgb' (by simpa using s4)
  have cC := Any.slices_Compact_int Try.compactI gb 0 cv ZS w1 hH1 (by omega) (by omega)
  change Calls Try.prog 38 _ _ _ at cC
  refine cC.mono ?_
  rintro e2 w2 ⟨rfl, q, hw2⟩
  have hcl : (Lib.compact ZS).length ≤ ZS.length := compactZ_len ZS
  have ho2 : w2.ownsRow base 3 1 (.slice (some ⟨gb, 0, none⟩) ZS.length cv) ZS.length ((Lib.compact ZS ++ List.replicate (ZS.length - (Lib.compact ZS).length) 0).map (Value.int .i64)) := by
    have h := ownsRow_sorted_i (w := w1) (n := q) (os := #[]) (ss := ZS) (ts := Lib.compact ZS ++ List.replicate (ZS.length - (Lib.compact ZS).length) 0) (by simp; omega) hbase' hgb' (by omega) s2 s3
    rw [grow_empty] at h
    rw [hw2]; exact h
  refine ⟨rfl, fun j hj => ?_, ?_, (ho2.lt gb rfl).2⟩
  · rw [ho2.cellAt j (by omega), List.map_append, List.getElem?_append_left (by simpa using hj)]
    simp [hj]
  · have hgr := grownBy_sorted_i (w := w1) (g := gb) (n := q) (os := #[]) (Lib.compact ZS ++ List.replicate (ZS.length - (Lib.compact ZS).length) 0).toArray
    rw [grow_empty] at hgr
    rw [hw2]; exact hgr
theorem infoI : (Try.prog.info? 3).map (fun i => (i.zero, i.size, i.bytes)) = some (some (.int .i64 0), 1, 8) := by kernel_rfl
set_option maxRecDepth 100000 in
set_option maxHeartbeats 1000000 in
theorem safe1_any (k : Tk) (w : World) : Calls Try.prog 24 #[tkA k] w fun r w' => r = .returned (.tuple #[.int .i64 k.p, .int .i64 k.x]) ∧ Below w.heap.size w w' := by
  obtain ⟨f, m, e, s, pp, ac, rr, xx⟩ := k
  dsimp only [tkA]
  go_enter Try.func24, Try.ntmps24
  go_wp2
  try go_region
  try go_wp2
  refine bodyPost_ret (v := .tuple #[.int .i64 pp, .int .i64 xx]) (by simp [results, go_sem]) rfl ?_
  exact ⟨rfl, by first | exact (Below.refl _ _).alloc (Nat.le_refl _) _ | exact ((Below.refl _ _).alloc (Nat.le_refl _) _).drew⟩
set_option maxRecDepth 100000 in
set_option maxHeartbeats 1000000 in
theorem safe2_any (k : Tk) (w : World) : Calls Try.prog 25 #[tkA k] w fun r w' => r = .returned (.tuple #[.int .i64 k.a, .int .i64 k.r]) ∧ Below w.heap.size w w' := by
  obtain ⟨f, m, e, s, pp, ac, rr, xx⟩ := k
  dsimp only [tkA]
  go_enter Try.func25, Try.ntmps25
  go_wp2
  try go_region
  try go_wp2
  refine bodyPost_ret (v := .tuple #[.int .i64 ac, .int .i64 rr]) (by simp [results, go_sem]) rfl ?_
  exact ⟨rfl, by first | exact (Below.refl _ _).alloc (Nat.le_refl _) _ | exact ((Below.refl _ _).alloc (Nat.le_refl _) _).drew⟩
set_option maxRecDepth 100000 in
set_option maxHeartbeats 1000000 in
theorem turns1_any (L : List Tk) (p : Option Addr) (cap : Nat) (from0 : Int) (w : World) (hL : L.length ≤ 1048576) (hat : TsAt w p L) :
    Calls Try.prog 23 #[.slice p L.length cap, .int .i64 from0, .func (Fn.func 24) #[] #[]] w (turnsEnd from0 (fun k => (k.p, k.x)) L w) := by
  have HA := hide' hat
  clear hat
  obtain ⟨i0, hi, hz0, hz1, hz2⟩ := info_parts infoI
  go_enter Try.func23, Try.ntmps23
  go_wp2_with fail
  go_loopw [7, 16] (fun lv i wr => ∃ (n : Nat), i = .int .i64 (n : Int) ∧ n ≤ L.length ∧ wr.ownsRow w.heap.size 3 1 lv (rawT from0 (fun k => (k.p, k.x)) (L.take n)).length ((rawT from0 (fun k => (k.p, k.x)) (L.take n)).map (Value.int .i64)) ∧ Below w.heap.size w wr) (fun _ i _ => L.length - (intOf i).toNat)
  case atStart => exact ⟨0, rfl, Nat.zero_le _, ⟨by simp [rawT], .inr ⟨w.heap.size, 1, #[.int .i64 from0], by simp [rawT], Nat.le_refl _, World.alloc_heap_new w _, by simp [rawT], by decide, rfl, by simp [rawT]⟩⟩, (Below.refl _ _).alloc (Nat.le_refl _) _⟩
  case round =>
    obtain ⟨n, rfl, hn, hown, hBr⟩ := hrel
    have HBr := hide' hBr
    obtain ⟨pv, cv, rfl, _, _, _⟩ := own_shape hown
    have HO := hide' hown
    by_cases hlt : n < L.length
    · obtain ⟨g, off, rfl, hg, e0, e1, e2, e3, e4, e5, e6, e7⟩ := TsAt.cells (TsAt.below HA.out hBr) n hlt
      have HX := hide' (show L.take (n + 1) = L.take n ++ [L[n]] by rw [List.take_add_one, List.getElem?_eq_getElem hlt]; rfl)
      have HLN : Hid ((rawT from0 (fun k => (k.p, k.x)) (L.take n)).length ≤ 2 * n + 1) := by unfold Hid; rw [rawT_len, List.length_take]; omega
      have HR := hide' (rawT_snoc from0 (fun k => (k.p, k.x)) (L.take n) L[n])
      rw [← HX.out] at HR
      have HC := hide' (safe1_any L[n])
      generalize rawT from0 (fun k => (k.p, k.x)) (L.take n) = M at *
      generalize L[n] = x at *
      obtain ⟨f, m, e, s, pp, ac, rr, xx⟩ := x
      dsimp only [tkA] at e0 e1 e2 e3 e4 e5 e6 e7 HR HC
      clear hBr hown HX
      have HO2 : Hid (∀ u u' o, Below u.heap.size u u' → u = (wr.alloc (.cells #[.int .i64 f, .int .i64 m, .int .i64 e, .int .i64 s, .int .i64 pp, .int .i64 ac, .int .i64 rr, .int .i64 xx] 29)) → (u'.alloc o).ownsRow w.heap.size 3 1 (.slice pv M.length cv) M.length (M.map (Value.int .i64)) ∧ Below w.heap.size w (u'.alloc o)) := by
        rintro u u' o hb rfl
        have hB : Below w.heap.size w u' := bstep (HBr.out.alloc HBr.out.size _) hb (HBr.out.alloc HBr.out.size _).size
        exact ⟨row_bel (row_bel (row_bel HO.out ((Below.refl _ _).alloc (Nat.le_refl _) _) (Nat.le_refl _)) hb (Nat.le_refl _)) ((Below.refl _ _).alloc (Nat.le_refl _) _) (Nat.le_refl _), hB.alloc hB.size _⟩
      go_wp2_with (first
        | (go_at_call 24; refine (HC.out _).mono ?_; rintro r1 w1 ⟨rfl, hB1⟩; have HB1 := hide' hB1; clear hB1)
        | (at_builtin
           refine wpList_append_lies _ rfl _ _ 50 rfl w.heap.size 3 i0 (.int .i64 0) 1 8 Try.underlying50 hi hz0 hz1 hz2 rfl (by decide) (.slice pv M.length cv) M.length (M.map (Value.int .i64)) rfl (HO2.out _ _ _ HB1.out rfl).1 ⟨w1.heap.size, 0, none⟩ 2 2 [.int .i64 (max from0 pp), .int .i64 (max from0 xx)] rfl rfl (World.news_of_block (bxNew _ #[.int .i64 (max from0 pp), .int .i64 (max from0 xx)] 3)) (by simp [Value.oneCell']) (by decide) (by have := HLN.out; unfold maxLen; omega) (by have := HLN.out; omega) (HO2.out _ _ _ HB1.out rfl).2.size _ rfl ?_
           intro g6 cap6 w6 hown6 hgrow6 hpl6 hlt6
           have HO6 := hide' hown6
           have HG6 := hide' ((HO2.out _ _ _ HB1.out rfl).2.grown hgrow6 (HO2.out _ _ _ HB1.out rfl).2.size (fun k e => (HO.out.lt k e).1))
           clear hown6 hgrow6 hpl6 hlt6))
      refine ⟨⟨n + 1, by go_num, by omega, ?_, HG6.out⟩, by simp [intOf]; omega⟩
      rw [HR.out, List.length_append, List.map_append]
      exact HO6.out
    · obtain rfl : n = L.length := by omega
      rw [List.take_length] at HO
      have HLN := hide' (rawT_len from0 (fun k => (k.p, k.x)) L)
      clear hown
      obtain ⟨Z, hZ⟩ : ∃ Z, rawT from0 (fun k => (k.p, k.x)) L = Z := ⟨_, rfl⟩
      have HZ := hide' hZ
      rw [hZ] at HO HLN
      simp only [List.take_length, hZ]
      clear hZ
      obtain ⟨_, (⟨_, h0⟩ | ⟨gb, cap2, cur, hv, hbase, hgb, r1, r2, r3, r4⟩)⟩ := HO.out
      · have := HLN.out; omega
      injection hv with hv1 hv2 hv3
      subst hv1
      subst hv3
      have hH : Holds (Value.int .i64) wr gb 0 Z.toArray := holds_of_block_i hgb (by simpa using r4)
      have hgl : gb < wr.heap.size := (Array.getElem?_eq_some_iff.1 hgb).1
      have cS := AnyM.slices_Sort_int Try.sortI gb 0 cv Z wr hH hgl (by have := HLN.out; omega)
      change Calls Try.prog 37 _ _ _ at cS
      have CS := hide' cS
      have HGB := hide' hgb
      clear cS hH
      go_wp2_with (first
        | (go_at_call 37
           refine (CS.out).mono ?_
           rintro e1 w1 ⟨rfl, nn, os, hw1⟩
           have HW1 := hide' hw1
           clear hw1)
        | (go_at_call 38
           obtain ⟨ZS, hZS⟩ : ∃ ZS, Z.mergeSort (fun x y => decide (x ≤ y)) = ZS := ⟨_, rfl⟩
           have hlen : ZS.length = Z.length := by rw [← hZS]; simp
           have hperm : ∀ x, x ∈ ZS ↔ x ∈ Z := fun x => by rw [← hZS]; exact (List.mergeSort_perm Z _).mem_iff
           have ho1 : w1.ownsRow w.heap.size 3 1 (.slice (some ⟨gb, 0, none⟩) Z.length cv) Z.length (ZS.map (Value.int .i64)) := by rw [HW1.out, ← hZS]; exact ownsRow_sorted_i (by simp) hbase HGB.out r1 r2 r3
           have hb1 : Below w.heap.size w w1 := by rw [HW1.out]; exact HBr.out.grown (grownBy_sorted_i _) HBr.out.size (fun j hj => by cases hj; exact hbase)
           rw [← hlen] at ho1
           have cC := compactI_any ZS gb cv w.heap.size w1 ho1 (by have := HLN.out; omega)
           rw [hlen] at cC
           refine cC.mono ?_
           rintro e2 w2 ⟨rfl, hns, hgr, hgl2⟩
           have HW2 : Hid (NsAt w2 gb (Lib.compact ZS) ∧ Below w.heap.size w w2 ∧ gb < w2.heap.size) := ⟨hns, hb1.grown hgr hb1.size (fun j hj => by cases hj; exact hbase), hgl2⟩
           have HM : Hid (∀ x, x ∈ Lib.compact ZS ↔ x ∈ Z) := fun x => (mem_compactZ ZS x).trans (hperm x)
           have HML : Hid ((Lib.compact ZS).length ≤ Z.length) := by unfold Hid; rw [← hlen]; exact compactZ_len ZS
           clear cC hb1 hperm hZS ho1 hns hgr hgl2))
      go_ret
      exact ⟨gb, cv, Lib.compact ZS, rfl, hbase, HW2.out.2.2, HW2.out.1, (fun x => by rw [HZ.out]; exact HM.out x), (by have := HLN.out; have := HML.out; omega), HW2.out.2.1⟩
end Go.Proofs.Ytjnhkiibnmbmfaa
