import Derived.Test.YthabenjghhmicaaGreatZg1G
namespace Go.Proofs.YthabenjghhmicaaGreat
set_option linter.unusedVariables false
set_option linter.unusedSimpArgs false
open Go.RowKit Go.Shelf Go.Maps Go.Proofs.YthabenjghhmicaaGreat.Nm Go.Proofs.YthabenjghhmicaaGreat.Zs
structure R2 (W V : World) : Prop where
 rx : Bx V W.heap.size #[.int .i64 0, .string ⟨#[]⟩, .string ⟨#[]⟩, .bool false, .slice none 0 0] 34
 fx : Bx V (W.heap.size + 1) #[.int .i64 0, .string ⟨#[]⟩, .string ⟨#[]⟩, .bool false, .slice none 0 0] 34
 bl : Below W.heap.size W V
theorem R2.lt {W V : World} (h : R2 W V) : W.heap.size + 1 < V.heap.size := h.fx.lt
theorem R2.step {W V V' : World} (h : R2 W V) (hb : Below V.heap.size V V') : R2 W V' := ⟨h.rx.below hb h.rx.lt, h.fx.below hb h.fx.lt, bstep h.bl hb h.bl.size⟩
theorem R2.start (W : World) : R2 W ((W.alloc (.cells #[.int .i64 0, .string ⟨#[]⟩, .string ⟨#[]⟩, .bool false, .slice none 0 0] 34)).alloc (.cells #[.int .i64 0, .string ⟨#[]⟩, .string ⟨#[]⟩, .bool false, .slice none 0 0] 34)) := by
 have hb : Below W.heap.size W (W.alloc (.cells #[.int .i64 0, .string ⟨#[]⟩, .string ⟨#[]⟩, .bool false, .slice none 0 0] 34)) := (Below.refl _ W).alloc (Nat.le_refl _) _
 have h1 : Bx (W.alloc (.cells #[.int .i64 0, .string ⟨#[]⟩, .string ⟨#[]⟩, .bool false, .slice none 0 0] 34)) W.heap.size #[.int .i64 0, .string ⟨#[]⟩, .string ⟨#[]⟩, .bool false, .slice none 0 0] 34 := World.alloc_heap_new W _
 have hs : (W.alloc (.cells #[.int .i64 0, .string ⟨#[]⟩, .string ⟨#[]⟩, .bool false, .slice none 0 0] 34)).heap.size = W.heap.size + 1 := by simp
 have h2 : Bx ((W.alloc (.cells #[.int .i64 0, .string ⟨#[]⟩, .string ⟨#[]⟩, .bool false, .slice none 0 0] 34)).alloc (.cells #[.int .i64 0, .string ⟨#[]⟩, .string ⟨#[]⟩, .bool false, .slice none 0 0] 34)) (W.alloc (.cells #[.int .i64 0, .string ⟨#[]⟩, .string ⟨#[]⟩, .bool false, .slice none 0 0] 34)).heap.size #[.int .i64 0, .string ⟨#[]⟩, .string ⟨#[]⟩, .bool false, .slice none 0 0] 34 := World.alloc_heap_new _ _
 rw [hs] at h2
 exact ⟨h1.below ((Below.refl _ _).alloc (Nat.le_refl _) _) h1.lt, h2, hb.alloc hb.size _⟩
structure R3 (W V : World) (fv : Array Value) : Prop where
 rx : Bx V W.heap.size #[.int .i64 0, .string ⟨#[]⟩, .string ⟨#[]⟩, .bool false, .slice none 0 0] 34
 fx : Bx V (W.heap.size + 1) fv 34
 bl : Below W.heap.size W V
theorem R2.r3 {W V : World} (h : R2 W V) : R3 W V #[.int .i64 0, .string ⟨#[]⟩, .string ⟨#[]⟩, .bool false, .slice none 0 0] := ⟨h.rx, h.fx, h.bl⟩
theorem R3.lt {W V : World} {fv : Array Value} (h : R3 W V fv) : W.heap.size + 1 < V.heap.size := h.fx.lt
theorem R3.step {W V V' : World} {fv : Array Value} (h : R3 W V fv) (hb : Below V.heap.size V V') : R3 W V' fv := ⟨h.rx.below hb h.rx.lt, h.fx.below hb h.fx.lt, bstep h.bl hb h.bl.size⟩
theorem R3.put {W V : World} {fv : Array Value} (h : R3 W V fv) (j : Nat) (u : Value) : R3 W (V.setCell ⟨W.heap.size + 1, j, none⟩ u) (fv.setIfInBounds j u) :=
     ⟨h.rx.grown (grown_set V (W.heap.size + 1) j u) (fun e => by injection e with e; omega), h.fx.set j u, h.bl.grown (grown_set V (W.heap.size + 1) j u) h.bl.size (fun k e => by cases e; omega)⟩
theorem R3.grown {W V V' : World} {fv : Array Value} {r : Option Nat} (h : R3 W V fv) (hg : V.grownBy V' r) (hr : ∀ k, r = some k → W.heap.size + 1 < k) : R3 W V' fv :=
     ⟨h.rx.grown hg (fun e => by have := hr _ e; omega), h.fx.grown hg (fun e => by have := hr _ e; omega), h.bl.grown hg h.bl.size (fun k e => by have := hr k e; omega)⟩
section
variable {W V : World} {a b c d e : Value}
theorem R3.put0 (h : R3 W V #[a, b, c, d, e]) (u : Value) : R3 W (V.setCell ⟨W.heap.size + 1, 0, none⟩ u) #[u, b, c, d, e] := by have := h.put 0 u; simpa using this
theorem R3.put1 (h : R3 W V #[a, b, c, d, e]) (u : Value) : R3 W (V.setCell ⟨W.heap.size + 1, 1, none⟩ u) #[a, u, c, d, e] := by have := h.put 1 u; simpa using this
theorem R3.put2 (h : R3 W V #[a, b, c, d, e]) (u : Value) : R3 W (V.setCell ⟨W.heap.size + 1, 2, none⟩ u) #[a, b, u, d, e] := by have := h.put 2 u; simpa using this
theorem R3.put3 (h : R3 W V #[a, b, c, d, e]) (u : Value) : R3 W (V.setCell ⟨W.heap.size + 1, 3, none⟩ u) #[a, b, c, u, e] := by have := h.put 3 u; simpa using this
theorem R3.put4 (h : R3 W V #[a, b, c, d, e]) (u : Value) : R3 W (V.setCell ⟨W.heap.size + 1, 4, none⟩ u) #[a, b, c, d, u] := by have := h.put 4 u; simpa using this
end
theorem own_far {V V' : World} {b g n : Nat} {v : Value} {xs : List Value} (ho : V.ownsRow b 54 5 v n xs) (hg : V.grownBy V' (some g)) (hb : g < b) : V'.ownsRow b 54 5 v n xs := ho.kept hg (Or.inr fun e => by have := own_ge ho e; omega)
theorem grow_no {P : Nat → Prop} {a k : Nat} (h : ∀ i, a ≤ i → i < k → P i) (hk : P k) : ∀ i, a ≤ i → i < k + 1 → P i := fun i h1 h2 => by
 rcases Nat.lt_or_ge i k with h3 | h3
 ·exact h i h1 h3
 ·obtain rfl : i = k := by omega
  exact hk
set_option maxRecDepth 100000 in
set_option maxHeartbeats 8000000 in
theorem rfind_out {zb : Nat} {apex : ByteArray} {M : List Rn} {p : Option Addr} {c : Nat} {W : World} (h : Yz W zb apex M p c) (q : ByteArray) (t : Int) (hq : q.size ≤ 1048576) (na : isN apex = true) (hin : ¬ (withinB q apex = true ∧ 1 ≤ t ∧ t ≤ 65535)) :
  Calls Tryz.prog 14 #[.pointer (some ⟨zb, 0, none⟩), .string q, .int .i64 t] W (FdE (rfind apex M q t) W) := by
 have ha255 : apex.size ≤ 255 := ((isN_iff apex).1 na).1
 have HW := hide' (fun V => refWithin_any q apex V hq (by omega))
 have HR0 := hide' (R2.start W)
 obtain ⟨wb, hwb⟩ : ∃ wb, (W.alloc (.cells #[.int .i64 0, .string ⟨#[]⟩, .string ⟨#[]⟩, .bool false, .slice none 0 0] 34)).alloc (.cells #[.int .i64 0, .string ⟨#[]⟩, .string ⟨#[]⟩, .bool false, .slice none 0 0] 34) = wb := ⟨_, rfl⟩
 rw [hwb] at HR0
 have HR : Hid (∀ V, Below wb.heap.size wb V → R2 W V) := fun V hV => HR0.out.step hV
 have HY := hide' (fun V (hV : Below W.heap.size W V) => h.step hV)
 have HZ : Hid (∀ V, Below wb.heap.size wb V → V.cell? ⟨zb, 0, none⟩ = some (.string apex) ∧ V.cell? ⟨zb, 1, none⟩ = some (.slice p M.length c)) := fun V hV => ⟨(HY.out V (HR.out V hV).bl).yx.cell rfl, (HY.out V (HR.out V hV).bl).yx.cell rfl⟩
 have hB := Below.refl wb.heap.size wb
 obtain ⟨z0, z1⟩ := HZ.out _ hB
 have HFd : Hid (rfind apex M q t = noFd) := by unfold Hid rfind; rw [if_neg hin]
 clear h na
 cases hwi : withinB q apex with
 | false =>
  rw [hwi] at HW
  clear hin hwi
  go_enter Tryz.func14, Tryz.ntmps14
  go_wp2_with (go_at_call 52; refine (HW.out _).mono ?_; rintro e w5 ⟨rfl, hB1⟩; have hB := bstep hB hB1 hB.size; obtain ⟨c0, c1, c2, c3, c4, f0, f1, f2, f3, f4⟩ := bx5_cells (HR.out _ hB).rx; obtain ⟨d0, d1, d2, d3, d4, g0, g1, g2, g3, g4⟩ := bx5_cells (HR.out _ hB).fx; clear hB1)
  obtain ⟨hrx, hfx, hbw⟩ := HR.out _ hB
  have hb5 := bx5_set hrx (.int .i64 0) (.string ⟨#[]⟩) (.string ⟨#[]⟩) (.bool false) (.slice none 0 0)
  have hg5 := grown5 w5 W.heap.size (.int .i64 0) (.string ⟨#[]⟩) (.string ⟨#[]⟩) (.bool false) (.slice none 0 0)
  have hbf := hbw.grown hg5 hbw.size (fun k e => by cases e; exact Nat.le_refl _)
  generalize ((((((w5.setCell ⟨W.heap.size, 0, none⟩ (.int .i64 0)).setCell ⟨W.heap.size, 1, none⟩ (.string ⟨#[]⟩)).setCell ⟨W.heap.size, 2, none⟩ (.string ⟨#[]⟩)).setCell ⟨W.heap.size, 3, none⟩ (.bool false)).setCell ⟨W.heap.size, 4, none⟩ (.slice none 0 0))) = wz at hb5 hbf ⊢
  obtain ⟨r0, r1, r2, r3, r4, _⟩ := bx5_cells hb5
  refine bodyPost_ret (v := .agg #[.int .i64 0, .string ⟨#[]⟩, .string ⟨#[]⟩, .bool false, .slice none 0 0]) (by simp [results, go_sem, r0, r1, r2, r3, r4]) rfl ?_
  rw [HFd.out]
  exact ⟨⟨_, rfl, World.ownsRow_nil _ _ _ _⟩, hbf⟩
 | true =>
  rw [hwi] at HW
  by_cases i1 : t < 1
  ·clear hin hwi
   go_enter Tryz.func14, Tryz.ntmps14
   go_wp2_with (go_at_call 52; refine (HW.out _).mono ?_; rintro e w5 ⟨rfl, hB1⟩; have hB := bstep hB hB1 hB.size; obtain ⟨c0, c1, c2, c3, c4, f0, f1, f2, f3, f4⟩ := bx5_cells (HR.out _ hB).rx; obtain ⟨d0, d1, d2, d3, d4, g0, g1, g2, g3, g4⟩ := bx5_cells (HR.out _ hB).fx; clear hB1)
   obtain ⟨hrx, hfx, hbw⟩ := HR.out _ hB
   have hb5 := bx5_set hrx (.int .i64 0) (.string ⟨#[]⟩) (.string ⟨#[]⟩) (.bool false) (.slice none 0 0)
   have hg5 := grown5 w5 W.heap.size (.int .i64 0) (.string ⟨#[]⟩) (.string ⟨#[]⟩) (.bool false) (.slice none 0 0)
   have hbf := hbw.grown hg5 hbw.size (fun k e => by cases e; exact Nat.le_refl _)
   generalize ((((((w5.setCell ⟨W.heap.size, 0, none⟩ (.int .i64 0)).setCell ⟨W.heap.size, 1, none⟩ (.string ⟨#[]⟩)).setCell ⟨W.heap.size, 2, none⟩ (.string ⟨#[]⟩)).setCell ⟨W.heap.size, 3, none⟩ (.bool false)).setCell ⟨W.heap.size, 4, none⟩ (.slice none 0 0))) = wz at hb5 hbf ⊢
   obtain ⟨r0, r1, r2, r3, r4, _⟩ := bx5_cells hb5
   refine bodyPost_ret (v := .agg #[.int .i64 0, .string ⟨#[]⟩, .string ⟨#[]⟩, .bool false, .slice none 0 0]) (by simp [results, go_sem, r0, r1, r2, r3, r4]) rfl ?_
   rw [HFd.out]
   exact ⟨⟨_, rfl, World.ownsRow_nil _ _ _ _⟩, hbf⟩
  ·have i2 : 65535 < t := by
    rcases Classical.em (t ≤ 65535) with h9 | h9
    ·exact absurd ⟨hwi, by omega, h9⟩ hin
    ·omega
   clear hin hwi
   go_enter Tryz.func14, Tryz.ntmps14
   go_wp2_with (go_at_call 52; refine (HW.out _).mono ?_; rintro e w5 ⟨rfl, hB1⟩; have hB := bstep hB hB1 hB.size; obtain ⟨c0, c1, c2, c3, c4, f0, f1, f2, f3, f4⟩ := bx5_cells (HR.out _ hB).rx; obtain ⟨d0, d1, d2, d3, d4, g0, g1, g2, g3, g4⟩ := bx5_cells (HR.out _ hB).fx; clear hB1)
   obtain ⟨hrx, hfx, hbw⟩ := HR.out _ hB
   have hb5 := bx5_set hrx (.int .i64 0) (.string ⟨#[]⟩) (.string ⟨#[]⟩) (.bool false) (.slice none 0 0)
   have hg5 := grown5 w5 W.heap.size (.int .i64 0) (.string ⟨#[]⟩) (.string ⟨#[]⟩) (.bool false) (.slice none 0 0)
   have hbf := hbw.grown hg5 hbw.size (fun k e => by cases e; exact Nat.le_refl _)
   generalize ((((((w5.setCell ⟨W.heap.size, 0, none⟩ (.int .i64 0)).setCell ⟨W.heap.size, 1, none⟩ (.string ⟨#[]⟩)).setCell ⟨W.heap.size, 2, none⟩ (.string ⟨#[]⟩)).setCell ⟨W.heap.size, 3, none⟩ (.bool false)).setCell ⟨W.heap.size, 4, none⟩ (.slice none 0 0))) = wz at hb5 hbf ⊢
   obtain ⟨r0, r1, r2, r3, r4, _⟩ := bx5_cells hb5
   refine bodyPost_ret (v := .agg #[.int .i64 0, .string ⟨#[]⟩, .string ⟨#[]⟩, .bool false, .slice none 0 0]) (by simp [results, go_sem, r0, r1, r2, r3, r4]) rfl ?_
   rw [HFd.out]
   exact ⟨⟨_, rfl, World.ownsRow_nil _ _ _ _⟩, hbf⟩
set_option maxRecDepth 100000 in
set_option maxHeartbeats 8000000 in
theorem rfind_left {zb : Nat} {apex : ByteArray} {M : List Rn} {p : Option Addr} {c : Nat} {W : World} (h : Yz W zb apex M p c) (q : ByteArray) (t : Int) (hq : q.size ≤ 1048576) (na : isN apex = true) (hin : withinB q apex = true ∧ 1 ≤ t ∧ t ≤ 65535) (hlv : (rlvB apex M q t).1 ≠ 0) :
  Calls Tryz.prog 14 #[.pointer (some ⟨zb, 0, none⟩), .string q, .int .i64 t] W (FdE (rfind apex M q t) W) := by
 have ha255 : apex.size ≤ 255 := ((isN_iff apex).1 na).1
 have HW := hide' (fun V => refWithin_any q apex V hq (by omega))
 have HR0 := hide' (R2.start W)
 obtain ⟨wb, hwb⟩ : ∃ wb, (W.alloc (.cells #[.int .i64 0, .string ⟨#[]⟩, .string ⟨#[]⟩, .bool false, .slice none 0 0] 34)).alloc (.cells #[.int .i64 0, .string ⟨#[]⟩, .string ⟨#[]⟩, .bool false, .slice none 0 0] 34) = wb := ⟨_, rfl⟩
 rw [hwb] at HR0
 have HR : Hid (∀ V, Below wb.heap.size wb V → R2 W V) := fun V hV => HR0.out.step hV
 have HY := hide' (fun V (hV : Below W.heap.size W V) => h.step hV)
 have HZ : Hid (∀ V, Below wb.heap.size wb V → V.cell? ⟨zb, 0, none⟩ = some (.string apex) ∧ V.cell? ⟨zb, 1, none⟩ = some (.slice p M.length c)) := fun V hV => ⟨(HY.out V (HR.out V hV).bl).yx.cell rfl, (HY.out V (HR.out V hV).bl).yx.cell rfl⟩
 have hB := Below.refl wb.heap.size wb
 obtain ⟨z0, z1⟩ := HZ.out _ hB
 obtain ⟨hwi, ht1, ht2⟩ := hin
 have hqN : isN q = true := ((withinB_iff q apex).1 hwi).1
 have HCa := hide' (fun V => refCount_any apex V (by omega))
 have HCq := hide' (fun V => refCount_any q V hq)
 rw [cntI_yes na] at HCa
 rw [cntI_yes hqN] at HCq
 have hle : (labs apex).length ≤ (labs q).length := within_cnt hwi
 have hl255 := labs_few hqN
 have HTl := hide' (fun V (k : Int) => refTail_any q k V hq)
 have HH : Hid (∀ V (n : ByteArray) (t : Int), n.size ≤ 1048576 → Below W.heap.size W V → Calls Tryz.prog 42 #[.slice p M.length c, .string n, .int .i64 t] V fun r w' => r = .returned (.bool (hasB M n t)) ∧ Below V.heap.size V w') := fun V n t hn hV => rhas_any M p c n t V (by have := h.few; omega) (HY.out V hV).rs (fun r hr => ok_small (h.ok r hr)) hn
 have HSe : Hid (∀ V (n : ByteArray) (t : Int), n.size ≤ 1048576 → Below W.heap.size W V → Calls Tryz.prog 22 #[.pointer (some ⟨zb, 0, none⟩), .string n, .int .i64 t] V fun r w' => (∃ v, r = .returned v ∧ w'.ownsRow V.heap.size 54 5 v (rset M n t).length (rce5 (rset M n t))) ∧ Below V.heap.size V w') := fun V n t hn hV => rset_any (HY.out V hV) n t hn
 have i1 : ¬ t < 1 := by omega
 have i2 : ¬ 65535 < t := by omega
 have HRf := hide' (rfind_in (M := M) hwi ht1 ht2)
 have HLs := hide' (fun i h1 h2 h3 => rlv_at (apex := apex) (M := M) (q := q) (t := t) (i := i) h1 h2 h3)
 have HLn := hide' (rlv_no (apex := apex) (M := M) (q := q) (t := t))
 have HKk := hide' (fun k => rlvK_is M q t k)
 obtain ⟨la, hla⟩ : ∃ la, (labs apex).length = la := ⟨_, rfl⟩
 obtain ⟨lq, hlq⟩ : ∃ lq, (labs q).length = lq := ⟨_, rfl⟩
 rw [hla] at HCa hle HLs HLn
 rw [hlq] at HCq hle HLs HLn HKk hl255
 rw [hwi] at HW
 clear h na hla hlq hwi hqN
 go_enter Tryz.func14, Tryz.ntmps14
 go_wp2_with (first
  | (go_at_call 52; refine (HW.out _).mono ?_; rintro e w1 ⟨rfl, hB1⟩; have hB := bstep hB hB1 hB.size; obtain ⟨z0, z1⟩ := HZ.out _ hB; clear hB1)
  | (go_at_call 53; refine (HCa.out _).mono ?_; rintro e w2 ⟨rfl, hB1⟩; have hB := bstep hB hB1 hB.size; obtain ⟨z0, z1⟩ := HZ.out _ hB; clear hB1))
 have HBh := hide' hB
 clear hB z0 z1
 go_loopw [8] (fun kv wr => ∃ k : Nat, kv = .int .i64 (k : Int) ∧ la + 1 ≤ k ∧ k ≤ lq + 1 ∧ Hid (∀ i, la + 1 ≤ i → i < k → rlvK M q t i = 0) ∧ Hid (Below wb.heap.size wb wr)) (fun kv _ => lq + 1 - (intOf kv).toNat)
 case atStart => exact ⟨la + 1, by go_num, Nat.le_refl _, by omega, (fun i h1 h2 => by omega), HBh.out⟩
 case round =>
  obtain ⟨k, rfl, hk1, hk2, HN, HBr⟩ := hrel
  have hB := HBr.out
  obtain ⟨z0, z1⟩ := HZ.out _ hB
  by_cases hlt : k ≤ lq
  ·have HT := hide' (fun V => HTl.out V (k : Int))
   have hn := tail_sz q (k : Int)
   have HK := hide' (HKk.out k)
   obtain ⟨n, hnn⟩ : ∃ n, tailB q (k : Int) = n := ⟨_, rfl⟩
   have HNn : Hid (tailB q (k : Int) = n) := hnn
   rw [hnn] at HT hn HK
   clear hnn
   have HH2 := hide' (fun V hV => HH.out V n 2 hn hV)
   have HH9 := hide' (fun V hV => HH.out V n 39 hn hV)
   have HS2 := hide' (fun V hV => HSe.out V n 2 hn hV)
   have HS9 := hide' (fun V hV => HSe.out V n 39 hn hV)
   obtain ⟨b2, hb2⟩ : ∃ b, hasB M n 2 = b := ⟨_, rfl⟩
   obtain ⟨b9, hb9⟩ : ∃ b, hasB M n 39 = b := ⟨_, rfl⟩
   rw [hb2] at HH2 HK
   rw [hb9] at HH9 HK
   clear hb2 hb9
   have pk : (k : Int) ≤ (lq : Int) := by omega
   by_cases he : k = lq
   ·subst he
    by_cases h43 : t = 43
    ·have h43b : (t == 43) = true := by simp [h43]
     have HK0 : Hid (rlvK M q t k = 0) := by unfold Hid; rw [HK.out]; simp [h43]
     clear h43
     have i3 : ¬ (k : Int) < (k : Int) := by omega
     cases b2 <;> cases b9
     ·have HN2 : Hid (∀ i, la + 1 ≤ i → i < k + 1 → rlvK M q t i = 0) := grow_no HN.out HK0.out
      clear HN HK HK0
      go_wp2_with (first
       | (go_at_call 53; refine (HCq.out _).mono ?_; rintro e w1 ⟨rfl, hB1⟩; have hB := bstep hB hB1 hB.size; obtain ⟨z0, z1⟩ := HZ.out _ hB; clear hB1)
       | (go_at_call 54; refine (HT.out _).mono ?_; rintro e w2 ⟨rfl, hB1⟩; have hB := bstep hB hB1 hB.size; obtain ⟨z0, z1⟩ := HZ.out _ hB; clear hB1)
       | (go_at_call 42; (with_reducible refine (HH2.out _ (HR.out _ hB).bl).mono ?_); rintro e w3 ⟨rfl, hB1⟩; have hB := bstep hB hB1 hB.size; obtain ⟨z0, z1⟩ := HZ.out _ hB; clear hB1)
       | (go_at_call 42; (with_reducible refine (HH9.out _ (HR.out _ hB).bl).mono ?_); rintro e w4 ⟨rfl, hB1⟩; have hB := bstep hB hB1 hB.size; obtain ⟨z0, z1⟩ := HZ.out _ hB; clear hB1))
      exact ⟨⟨k + 1, by go_num, by omega, by omega, HN2, hB⟩, by simp [intOf] <;> omega⟩
     ·have HN2 : Hid (∀ i, la + 1 ≤ i → i < k + 1 → rlvK M q t i = 0) := grow_no HN.out HK0.out
      clear HN HK HK0
      go_wp2_with (first
       | (go_at_call 53; refine (HCq.out _).mono ?_; rintro e w1 ⟨rfl, hB1⟩; have hB := bstep hB hB1 hB.size; obtain ⟨z0, z1⟩ := HZ.out _ hB; clear hB1)
       | (go_at_call 54; refine (HT.out _).mono ?_; rintro e w2 ⟨rfl, hB1⟩; have hB := bstep hB hB1 hB.size; obtain ⟨z0, z1⟩ := HZ.out _ hB; clear hB1)
       | (go_at_call 42; (with_reducible refine (HH2.out _ (HR.out _ hB).bl).mono ?_); rintro e w3 ⟨rfl, hB1⟩; have hB := bstep hB hB1 hB.size; obtain ⟨z0, z1⟩ := HZ.out _ hB; clear hB1)
       | (go_at_call 42; (with_reducible refine (HH9.out _ (HR.out _ hB).bl).mono ?_); rintro e w4 ⟨rfl, hB1⟩; have hB := bstep hB hB1 hB.size; obtain ⟨z0, z1⟩ := HZ.out _ hB; clear hB1))
      exact ⟨⟨k + 1, by go_num, by omega, by omega, HN2, hB⟩, by simp [intOf] <;> omega⟩
     ·have HN2 : Hid (∀ i, la + 1 ≤ i → i < k + 1 → rlvK M q t i = 0) := grow_no HN.out HK0.out
      clear HN HK HK0
      go_wp2_with (first
       | (go_at_call 53; refine (HCq.out _).mono ?_; rintro e w1 ⟨rfl, hB1⟩; have hB := bstep hB hB1 hB.size; obtain ⟨z0, z1⟩ := HZ.out _ hB; clear hB1)
       | (go_at_call 54; refine (HT.out _).mono ?_; rintro e w2 ⟨rfl, hB1⟩; have hB := bstep hB hB1 hB.size; obtain ⟨z0, z1⟩ := HZ.out _ hB; clear hB1)
       | (go_at_call 42; (with_reducible refine (HH2.out _ (HR.out _ hB).bl).mono ?_); rintro e w3 ⟨rfl, hB1⟩; have hB := bstep hB hB1 hB.size; obtain ⟨z0, z1⟩ := HZ.out _ hB; clear hB1)
       | (go_at_call 42; (with_reducible refine (HH9.out _ (HR.out _ hB).bl).mono ?_); rintro e w4 ⟨rfl, hB1⟩; have hB := bstep hB hB1 hB.size; obtain ⟨z0, z1⟩ := HZ.out _ hB; clear hB1))
      exact ⟨⟨k + 1, by go_num, by omega, by omega, HN2, hB⟩, by simp [intOf] <;> omega⟩
     ·have HN2 : Hid (∀ i, la + 1 ≤ i → i < k + 1 → rlvK M q t i = 0) := grow_no HN.out HK0.out
      clear HN HK HK0
      go_wp2_with (first
       | (go_at_call 53; refine (HCq.out _).mono ?_; rintro e w1 ⟨rfl, hB1⟩; have hB := bstep hB hB1 hB.size; obtain ⟨z0, z1⟩ := HZ.out _ hB; clear hB1)
       | (go_at_call 54; refine (HT.out _).mono ?_; rintro e w2 ⟨rfl, hB1⟩; have hB := bstep hB hB1 hB.size; obtain ⟨z0, z1⟩ := HZ.out _ hB; clear hB1)
       | (go_at_call 42; (with_reducible refine (HH2.out _ (HR.out _ hB).bl).mono ?_); rintro e w3 ⟨rfl, hB1⟩; have hB := bstep hB hB1 hB.size; obtain ⟨z0, z1⟩ := HZ.out _ hB; clear hB1)
       | (go_at_call 42; (with_reducible refine (HH9.out _ (HR.out _ hB).bl).mono ?_); rintro e w4 ⟨rfl, hB1⟩; have hB := bstep hB hB1 hB.size; obtain ⟨z0, z1⟩ := HZ.out _ hB; clear hB1))
      exact ⟨⟨k + 1, by go_num, by omega, by omega, HN2, hB⟩, by simp [intOf] <;> omega⟩
    ·have h43b : (t == 43) = false := by simp [h43]
     have i3 : ¬ (k : Int) < (k : Int) := by omega
     cases b2 with
     | true =>
      have HK0 : Hid (rlvK M q t k = 4) := by unfold Hid; rw [HK.out]; simp [h43]
      have hRL := HLs.out k hk1 hlt (by rw [HK0.out]; decide) HN.out
      rw [HK0.out, HNn.out] at hRL
      have HFd : Hid (rfind apex M q t = ⟨4, n, ⟨#[]⟩, false, rset M n 2⟩) := by unfold Hid; rw [HRf.out, hRL]; simp
      clear HN HK HK0 hRL hlv
      go_wp2_with (first
       | (go_at_call 53; refine (HCq.out _).mono ?_; rintro e w1 ⟨rfl, hB1⟩; have hB := bstep hB hB1 hB.size; obtain ⟨z0, z1⟩ := HZ.out _ hB; clear hB1)
       | (go_at_call 54; refine (HT.out _).mono ?_; rintro e w2 ⟨rfl, hB1⟩; have hB := bstep hB hB1 hB.size; obtain ⟨z0, z1⟩ := HZ.out _ hB; clear hB1)
       | (go_at_call 42; (with_reducible refine (HH2.out _ (HR.out _ hB).bl).mono ?_); rintro e w3 ⟨rfl, hB1⟩; have hB := bstep hB hB1 hB.size; obtain ⟨z0, z1⟩ := HZ.out _ hB; clear hB1)
       | (go_at_call 22; refine (HS2.out _ (HR.out _ hB).bl).mono ?_; rintro e w5 ⟨⟨v5, rfl, ho5⟩, hB1⟩; obtain ⟨p5, c5, rfl, _, _, _⟩ := own_shape ho5; have HO5 := hide' ho5; have HLT := hide' (HR.out _ hB).lt; have hB := bstep hB hB1 hB.size; obtain ⟨c0, c1, c2, c3, c4, f0, f1, f2, f3, f4⟩ := bx5_cells (HR.out _ hB).rx; clear hB1 ho5))
      obtain ⟨hrx, hfx, hbw⟩ := HR.out _ hB
      have hb5 := bx5_set hrx (.int .i64 4) (.string n) (.string ⟨#[]⟩) (.bool false) (.slice p5 (rset M n 2).length c5)
      have hg5 := grown5 w5 W.heap.size (.int .i64 4) (.string n) (.string ⟨#[]⟩) (.bool false) (.slice p5 (rset M n 2).length c5)
      have hbf := hbw.grown hg5 hbw.size (fun k e => by cases e; exact Nat.le_refl _)
      have hof := fd_own (F := ⟨4, n, ⟨#[]⟩, false, rset M n 2⟩) (Nat.lt_of_succ_lt HLT.out) (own_below HO5.out (Below.refl _ _)) hg5
      generalize ((((((w5.setCell ⟨W.heap.size, 0, none⟩ (.int .i64 4)).setCell ⟨W.heap.size, 1, none⟩ (.string n)).setCell ⟨W.heap.size, 2, none⟩ (.string ⟨#[]⟩)).setCell ⟨W.heap.size, 3, none⟩ (.bool false)).setCell ⟨W.heap.size, 4, none⟩ (.slice p5 (rset M n 2).length c5))) = wz at hb5 hbf hof ⊢
      obtain ⟨r0, r1, r2, r3, r4, _⟩ := bx5_cells hb5
      refine bodyPost_ret (v := .agg #[.int .i64 4, .string n, .string ⟨#[]⟩, .bool false, .slice p5 (rset M n 2).length c5]) (by simp [results, go_sem, r0, r1, r2, r3, r4]) rfl ?_
      rw [HFd.out]
      exact ⟨⟨_, rfl, hof⟩, hbf⟩
     | false =>
      have HK0 : Hid (rlvK M q t k = 0) := by unfold Hid; rw [HK.out]; simp
      cases b9
      ·have HN2 : Hid (∀ i, la + 1 ≤ i → i < k + 1 → rlvK M q t i = 0) := grow_no HN.out HK0.out
       clear HN HK HK0
       go_wp2_with (first
        | (go_at_call 53; refine (HCq.out _).mono ?_; rintro e w1 ⟨rfl, hB1⟩; have hB := bstep hB hB1 hB.size; obtain ⟨z0, z1⟩ := HZ.out _ hB; clear hB1)
        | (go_at_call 54; refine (HT.out _).mono ?_; rintro e w2 ⟨rfl, hB1⟩; have hB := bstep hB hB1 hB.size; obtain ⟨z0, z1⟩ := HZ.out _ hB; clear hB1)
        | (go_at_call 42; (with_reducible refine (HH2.out _ (HR.out _ hB).bl).mono ?_); rintro e w3 ⟨rfl, hB1⟩; have hB := bstep hB hB1 hB.size; obtain ⟨z0, z1⟩ := HZ.out _ hB; clear hB1)
        | (go_at_call 42; (with_reducible refine (HH9.out _ (HR.out _ hB).bl).mono ?_); rintro e w4 ⟨rfl, hB1⟩; have hB := bstep hB hB1 hB.size; obtain ⟨z0, z1⟩ := HZ.out _ hB; clear hB1))
       exact ⟨⟨k + 1, by go_num, by omega, by omega, HN2, hB⟩, by simp [intOf] <;> omega⟩
      ·have HN2 : Hid (∀ i, la + 1 ≤ i → i < k + 1 → rlvK M q t i = 0) := grow_no HN.out HK0.out
       clear HN HK HK0
       go_wp2_with (first
        | (go_at_call 53; refine (HCq.out _).mono ?_; rintro e w1 ⟨rfl, hB1⟩; have hB := bstep hB hB1 hB.size; obtain ⟨z0, z1⟩ := HZ.out _ hB; clear hB1)
        | (go_at_call 54; refine (HT.out _).mono ?_; rintro e w2 ⟨rfl, hB1⟩; have hB := bstep hB hB1 hB.size; obtain ⟨z0, z1⟩ := HZ.out _ hB; clear hB1)
        | (go_at_call 42; (with_reducible refine (HH2.out _ (HR.out _ hB).bl).mono ?_); rintro e w3 ⟨rfl, hB1⟩; have hB := bstep hB hB1 hB.size; obtain ⟨z0, z1⟩ := HZ.out _ hB; clear hB1)
        | (go_at_call 42; (with_reducible refine (HH9.out _ (HR.out _ hB).bl).mono ?_); rintro e w4 ⟨rfl, hB1⟩; have hB := bstep hB hB1 hB.size; obtain ⟨z0, z1⟩ := HZ.out _ hB; clear hB1))
       exact ⟨⟨k + 1, by go_num, by omega, by omega, HN2, hB⟩, by simp [intOf] <;> omega⟩
   ·have i3 : (k : Int) < (lq : Int) := by omega
    have i4 : ((k : Int) == (lq : Int)) = false := by rw [beq_eq_false_iff_ne]; omega
    cases b2 with
    | true =>
     have HK0 : Hid (rlvK M q t k = 4) := by unfold Hid; rw [HK.out]; simp [he]
     clear he
     have hRL := HLs.out k hk1 hlt (by rw [HK0.out]; decide) HN.out
     rw [HK0.out, HNn.out] at hRL
     have HFd : Hid (rfind apex M q t = ⟨4, n, ⟨#[]⟩, false, rset M n 2⟩) := by unfold Hid; rw [HRf.out, hRL]; simp
     clear HN HK HK0 hRL hlv
     go_wp2_with (first
      | (go_at_call 53; refine (HCq.out _).mono ?_; rintro e w1 ⟨rfl, hB1⟩; have hB := bstep hB hB1 hB.size; obtain ⟨z0, z1⟩ := HZ.out _ hB; clear hB1)
      | (go_at_call 54; refine (HT.out _).mono ?_; rintro e w2 ⟨rfl, hB1⟩; have hB := bstep hB hB1 hB.size; obtain ⟨z0, z1⟩ := HZ.out _ hB; clear hB1)
      | (go_at_call 42; (with_reducible refine (HH2.out _ (HR.out _ hB).bl).mono ?_); rintro e w3 ⟨rfl, hB1⟩; have hB := bstep hB hB1 hB.size; obtain ⟨z0, z1⟩ := HZ.out _ hB; clear hB1)
      | (go_at_call 22; refine (HS2.out _ (HR.out _ hB).bl).mono ?_; rintro e w5 ⟨⟨v5, rfl, ho5⟩, hB1⟩; obtain ⟨p5, c5, rfl, _, _, _⟩ := own_shape ho5; have HO5 := hide' ho5; have HLT := hide' (HR.out _ hB).lt; have hB := bstep hB hB1 hB.size; obtain ⟨c0, c1, c2, c3, c4, f0, f1, f2, f3, f4⟩ := bx5_cells (HR.out _ hB).rx; clear hB1 ho5))
     obtain ⟨hrx, hfx, hbw⟩ := HR.out _ hB
     have hb5 := bx5_set hrx (.int .i64 4) (.string n) (.string ⟨#[]⟩) (.bool false) (.slice p5 (rset M n 2).length c5)
     have hg5 := grown5 w5 W.heap.size (.int .i64 4) (.string n) (.string ⟨#[]⟩) (.bool false) (.slice p5 (rset M n 2).length c5)
     have hbf := hbw.grown hg5 hbw.size (fun k e => by cases e; exact Nat.le_refl _)
     have hof := fd_own (F := ⟨4, n, ⟨#[]⟩, false, rset M n 2⟩) (Nat.lt_of_succ_lt HLT.out) (own_below HO5.out (Below.refl _ _)) hg5
     generalize ((((((w5.setCell ⟨W.heap.size, 0, none⟩ (.int .i64 4)).setCell ⟨W.heap.size, 1, none⟩ (.string n)).setCell ⟨W.heap.size, 2, none⟩ (.string ⟨#[]⟩)).setCell ⟨W.heap.size, 3, none⟩ (.bool false)).setCell ⟨W.heap.size, 4, none⟩ (.slice p5 (rset M n 2).length c5))) = wz at hb5 hbf hof ⊢
     obtain ⟨r0, r1, r2, r3, r4, _⟩ := bx5_cells hb5
     refine bodyPost_ret (v := .agg #[.int .i64 4, .string n, .string ⟨#[]⟩, .bool false, .slice p5 (rset M n 2).length c5]) (by simp [results, go_sem, r0, r1, r2, r3, r4]) rfl ?_
     rw [HFd.out]
     exact ⟨⟨_, rfl, hof⟩, hbf⟩
    | false =>
     cases b9 with
     | true =>
      have HK0 : Hid (rlvK M q t k = 3) := by unfold Hid; rw [HK.out]; simp; omega
      clear he
      have hRL := HLs.out k hk1 hlt (by rw [HK0.out]; decide) HN.out
      rw [HK0.out, HNn.out] at hRL
      have HFd : Hid (rfind apex M q t = ⟨3, n, ⟨#[]⟩, false, rset M n 39⟩) := by unfold Hid; rw [HRf.out, hRL]; simp
      clear HN HK HK0 hRL hlv
      go_wp2_with (first
       | (go_at_call 53; refine (HCq.out _).mono ?_; rintro e w1 ⟨rfl, hB1⟩; have hB := bstep hB hB1 hB.size; obtain ⟨z0, z1⟩ := HZ.out _ hB; clear hB1)
       | (go_at_call 54; refine (HT.out _).mono ?_; rintro e w2 ⟨rfl, hB1⟩; have hB := bstep hB hB1 hB.size; obtain ⟨z0, z1⟩ := HZ.out _ hB; clear hB1)
       | (go_at_call 42; (with_reducible refine (HH2.out _ (HR.out _ hB).bl).mono ?_); rintro e w3 ⟨rfl, hB1⟩; have hB := bstep hB hB1 hB.size; obtain ⟨z0, z1⟩ := HZ.out _ hB; clear hB1)
       | (go_at_call 42; (with_reducible refine (HH9.out _ (HR.out _ hB).bl).mono ?_); rintro e w4 ⟨rfl, hB1⟩; have hB := bstep hB hB1 hB.size; obtain ⟨z0, z1⟩ := HZ.out _ hB; clear hB1)
       | (go_at_call 22; refine (HS9.out _ (HR.out _ hB).bl).mono ?_; rintro e w5 ⟨⟨v5, rfl, ho5⟩, hB1⟩; obtain ⟨p5, c5, rfl, _, _, _⟩ := own_shape ho5; have HO5 := hide' ho5; have HLT := hide' (HR.out _ hB).lt; have hB := bstep hB hB1 hB.size; obtain ⟨c0, c1, c2, c3, c4, f0, f1, f2, f3, f4⟩ := bx5_cells (HR.out _ hB).rx; clear hB1 ho5))
      obtain ⟨hrx, hfx, hbw⟩ := HR.out _ hB
      have hb5 := bx5_set hrx (.int .i64 3) (.string n) (.string ⟨#[]⟩) (.bool false) (.slice p5 (rset M n 39).length c5)
      have hg5 := grown5 w5 W.heap.size (.int .i64 3) (.string n) (.string ⟨#[]⟩) (.bool false) (.slice p5 (rset M n 39).length c5)
      have hbf := hbw.grown hg5 hbw.size (fun k e => by cases e; exact Nat.le_refl _)
      have hof := fd_own (F := ⟨3, n, ⟨#[]⟩, false, rset M n 39⟩) (Nat.lt_of_succ_lt HLT.out) (own_below HO5.out (Below.refl _ _)) hg5
      generalize ((((((w5.setCell ⟨W.heap.size, 0, none⟩ (.int .i64 3)).setCell ⟨W.heap.size, 1, none⟩ (.string n)).setCell ⟨W.heap.size, 2, none⟩ (.string ⟨#[]⟩)).setCell ⟨W.heap.size, 3, none⟩ (.bool false)).setCell ⟨W.heap.size, 4, none⟩ (.slice p5 (rset M n 39).length c5))) = wz at hb5 hbf hof ⊢
      obtain ⟨r0, r1, r2, r3, r4, _⟩ := bx5_cells hb5
      refine bodyPost_ret (v := .agg #[.int .i64 3, .string n, .string ⟨#[]⟩, .bool false, .slice p5 (rset M n 39).length c5]) (by simp [results, go_sem, r0, r1, r2, r3, r4]) rfl ?_
      rw [HFd.out]
      exact ⟨⟨_, rfl, hof⟩, hbf⟩
     | false =>
      have HK0 : Hid (rlvK M q t k = 0) := by unfold Hid; rw [HK.out]; simp
      clear he
      have HN2 : Hid (∀ i, la + 1 ≤ i → i < k + 1 → rlvK M q t i = 0) := grow_no HN.out HK0.out
      clear HN HK HK0
      go_wp2_with (first
       | (go_at_call 53; refine (HCq.out _).mono ?_; rintro e w1 ⟨rfl, hB1⟩; have hB := bstep hB hB1 hB.size; obtain ⟨z0, z1⟩ := HZ.out _ hB; clear hB1)
       | (go_at_call 54; refine (HT.out _).mono ?_; rintro e w2 ⟨rfl, hB1⟩; have hB := bstep hB hB1 hB.size; obtain ⟨z0, z1⟩ := HZ.out _ hB; clear hB1)
       | (go_at_call 42; (with_reducible refine (HH2.out _ (HR.out _ hB).bl).mono ?_); rintro e w3 ⟨rfl, hB1⟩; have hB := bstep hB hB1 hB.size; obtain ⟨z0, z1⟩ := HZ.out _ hB; clear hB1)
       | (go_at_call 42; (with_reducible refine (HH9.out _ (HR.out _ hB).bl).mono ?_); rintro e w4 ⟨rfl, hB1⟩; have hB := bstep hB hB1 hB.size; obtain ⟨z0, z1⟩ := HZ.out _ hB; clear hB1))
      exact ⟨⟨k + 1, by go_num, by omega, by omega, HN2, hB⟩, by simp [intOf] <;> omega⟩
  ·obtain rfl : k = lq + 1 := by omega
   rw [HLn.out HN.out] at hlv
   exact absurd rfl hlv
end Go.Proofs.YthabenjghhmicaaGreat
namespace Go.Proofs.YthabenjghhmicaaGreat
set_option linter.unusedVariables false
set_option linter.unusedSimpArgs false
open Go.RowKit Go.Shelf Go.Maps Go.Proofs.YthabenjghhmicaaGreat.Nm Go.Proofs.YthabenjghhmicaaGreat.Zs
set_option maxRecDepth 100000 in
set_option maxHeartbeats 8000000 in
theorem rfind_there {zb : Nat} {apex : ByteArray} {M : List Rn} {p : Option Addr} {c : Nat} {W : World} (h : Yz W zb apex M p c) (q : ByteArray) (t : Int) (hq : q.size ≤ 1048576) (na : isN apex = true) (hin : withinB q apex = true ∧ 1 ≤ t ∧ t ≤ 65535) (hlv : (rlvB apex M q t).1 = 0) (hth : rth M q = true) :
  Calls Tryz.prog 14 #[.pointer (some ⟨zb, 0, none⟩), .string q, .int .i64 t] W (FdE (rfind apex M q t) W) := by
 have ha255 : apex.size ≤ 255 := ((isN_iff apex).1 na).1
 have HW := hide' (fun V => refWithin_any q apex V hq (by omega))
 have HR0 := hide' (R2.start W)
 obtain ⟨wb, hwb⟩ : ∃ wb, (W.alloc (.cells #[.int .i64 0, .string ⟨#[]⟩, .string ⟨#[]⟩, .bool false, .slice none 0 0] 34)).alloc (.cells #[.int .i64 0, .string ⟨#[]⟩, .string ⟨#[]⟩, .bool false, .slice none 0 0] 34) = wb := ⟨_, rfl⟩
 rw [hwb] at HR0
 have HR : Hid (∀ V, Below wb.heap.size wb V → R2 W V) := fun V hV => HR0.out.step hV
 have HY := hide' (fun V (hV : Below W.heap.size W V) => h.step hV)
 have HZ : Hid (∀ V, Below wb.heap.size wb V → V.cell? ⟨zb, 0, none⟩ = some (.string apex) ∧ V.cell? ⟨zb, 1, none⟩ = some (.slice p M.length c)) := fun V hV => ⟨(HY.out V (HR.out V hV).bl).yx.cell rfl, (HY.out V (HR.out V hV).bl).yx.cell rfl⟩
 have hB := Below.refl wb.heap.size wb
 obtain ⟨z0, z1⟩ := HZ.out _ hB
 have HTr : Hid (∀ V (n : ByteArray), n.size ≤ 1048576 → Below W.heap.size W V → Calls Tryz.prog 55 #[.pointer (some ⟨zb, 0, none⟩), .string n] V fun r w' => r = .returned (.bool (rth M n)) ∧ Below V.heap.size V w') := fun V n hn hV => rthere_any (HY.out V hV) n hn
 have HSt : Hid (∀ V (n : ByteArray), n.size ≤ 1048576 → Below W.heap.size W V → Calls Tryz.prog 56 #[.pointer (some ⟨zb, 0, none⟩), .string n, .int .i64 t] V (RstE M n t V)) := fun V n hn hV => rstands_all (HY.out V hV) n t hn
 obtain ⟨hwi, ht1, ht2⟩ := hin
 have hqN : isN q = true := ((withinB_iff q apex).1 hwi).1
 have HCa := hide' (fun V => refCount_any apex V (by omega))
 have HCq := hide' (fun V => refCount_any q V hq)
 rw [cntI_yes na] at HCa
 rw [cntI_yes hqN] at HCq
 have hle : (labs apex).length ≤ (labs q).length := within_cnt hwi
 have hl255 := labs_few hqN
 have HTl := hide' (fun V (k : Int) => refTail_any q k V hq)
 have HH : Hid (∀ V (n : ByteArray) (t : Int), n.size ≤ 1048576 → Below W.heap.size W V → Calls Tryz.prog 42 #[.slice p M.length c, .string n, .int .i64 t] V fun r w' => r = .returned (.bool (hasB M n t)) ∧ Below V.heap.size V w') := fun V n t hn hV => rhas_any M p c n t V (by have := h.few; omega) (HY.out V hV).rs (fun r hr => ok_small (h.ok r hr)) hn
 have HSe : Hid (∀ V (n : ByteArray) (t : Int), n.size ≤ 1048576 → Below W.heap.size W V → Calls Tryz.prog 22 #[.pointer (some ⟨zb, 0, none⟩), .string n, .int .i64 t] V fun r w' => (∃ v, r = .returned v ∧ w'.ownsRow V.heap.size 54 5 v (rset M n t).length (rce5 (rset M n t))) ∧ Below V.heap.size V w') := fun V n t hn hV => rset_any (HY.out V hV) n t hn
 have i1 : ¬ t < 1 := by omega
 have i2 : ¬ 65535 < t := by omega
 have HRf := hide' (rfind_in (M := M) hwi ht1 ht2)
 have HLs := hide' (fun i h1 h2 h3 => rlv_at (apex := apex) (M := M) (q := q) (t := t) (i := i) h1 h2 h3)
 have HLn := hide' (rlv_no (apex := apex) (M := M) (q := q) (t := t))
 have HKk := hide' (fun k => rlvK_is M q t k)
 obtain ⟨la, hla⟩ : ∃ la, (labs apex).length = la := ⟨_, rfl⟩
 obtain ⟨lq, hlq⟩ : ∃ lq, (labs q).length = lq := ⟨_, rfl⟩
 rw [hla] at HCa hle HLs HLn
 rw [hlq] at HCq hle HLs HLn HKk hl255
 rw [hwi] at HW
 clear h na hla hlq hwi hqN
 obtain ⟨kk, X, hsy⟩ : ∃ kk X, rstand M q t = (kk, X) := ⟨_, _, rfl⟩
 have hXl : X.length ≤ M.length := by
  have := rst_len M q t
  rw [hsy] at this
  exact this
 have HS3 : Hid (∀ V, Below W.heap.size W V → Calls Tryz.prog 56 #[.pointer (some ⟨zb, 0, none⟩), .string q, .int .i64 t] V fun r w' => (∃ v, r = .returned (.tuple #[.int .i64 kk, v]) ∧ w'.ownsRow V.heap.size 54 5 v X.length (rce5 X)) ∧ Below V.heap.size V w') := fun V hV => by
  have := HSt.out V q hq hV
  unfold RstE at this
  rw [hsy] at this
  exact this
 have HFd : Hid (rfind apex M q t = ⟨kk, q, q, false, X⟩) := by unfold Hid; rw [HRf.out, if_neg (by rw [hlv]; simp), if_pos hth, hsy]
 have HT1 := hide' (fun V hV => HTr.out V q hq hV)
 rw [hth] at HT1
 clear hth hsy hXl
 go_enter Tryz.func14, Tryz.ntmps14
 go_wp2_with (first
  | (go_at_call 52; refine (HW.out _).mono ?_; rintro e w1 ⟨rfl, hB1⟩; have hB := bstep hB hB1 hB.size; obtain ⟨z0, z1⟩ := HZ.out _ hB; clear hB1)
  | (go_at_call 53; refine (HCa.out _).mono ?_; rintro e w2 ⟨rfl, hB1⟩; have hB := bstep hB hB1 hB.size; obtain ⟨z0, z1⟩ := HZ.out _ hB; clear hB1))
 have HBh := hide' hB
 clear hB z0 z1
 go_loopw [8] (fun kv wr => ∃ k : Nat, kv = .int .i64 (k : Int) ∧ la + 1 ≤ k ∧ k ≤ lq + 1 ∧ Hid (∀ i, la + 1 ≤ i → i < k → rlvK M q t i = 0) ∧ Hid (Below wb.heap.size wb wr)) (fun kv _ => lq + 1 - (intOf kv).toNat)
 case atStart => exact ⟨la + 1, by go_num, Nat.le_refl _, by omega, (fun i h1 h2 => by omega), HBh.out⟩
 case round =>
  obtain ⟨k, rfl, hk1, hk2, HN, HBr⟩ := hrel
  have hB := HBr.out
  obtain ⟨z0, z1⟩ := HZ.out _ hB
  by_cases hlt : k ≤ lq
  ·have HT := hide' (fun V => HTl.out V (k : Int))
   have hn := tail_sz q (k : Int)
   have HK := hide' (HKk.out k)
   obtain ⟨n, hnn⟩ : ∃ n, tailB q (k : Int) = n := ⟨_, rfl⟩
   have HNn : Hid (tailB q (k : Int) = n) := hnn
   rw [hnn] at HT hn HK
   clear hnn
   have HH2 := hide' (fun V hV => HH.out V n 2 hn hV)
   have HH9 := hide' (fun V hV => HH.out V n 39 hn hV)
   have HS2 := hide' (fun V hV => HSe.out V n 2 hn hV)
   have HS9 := hide' (fun V hV => HSe.out V n 39 hn hV)
   obtain ⟨b2, hb2⟩ : ∃ b, hasB M n 2 = b := ⟨_, rfl⟩
   obtain ⟨b9, hb9⟩ : ∃ b, hasB M n 39 = b := ⟨_, rfl⟩
   rw [hb2] at HH2 HK
   rw [hb9] at HH9 HK
   clear hb2 hb9
   have pk : (k : Int) ≤ (lq : Int) := by omega
   by_cases he : k = lq
   ·subst he
    by_cases h43 : t = 43
    ·have h43b : (t == 43) = true := by simp [h43]
     have HK0 : Hid (rlvK M q t k = 0) := by unfold Hid; rw [HK.out]; simp [h43]
     clear h43
     have i3 : ¬ (k : Int) < (k : Int) := by omega
     cases b2 <;> cases b9
     ·have HN2 : Hid (∀ i, la + 1 ≤ i → i < k + 1 → rlvK M q t i = 0) := grow_no HN.out HK0.out
      clear HN HK HK0
      go_wp2_with (first
       | (go_at_call 53; refine (HCq.out _).mono ?_; rintro e w1 ⟨rfl, hB1⟩; have hB := bstep hB hB1 hB.size; obtain ⟨z0, z1⟩ := HZ.out _ hB; clear hB1)
       | (go_at_call 54; refine (HT.out _).mono ?_; rintro e w2 ⟨rfl, hB1⟩; have hB := bstep hB hB1 hB.size; obtain ⟨z0, z1⟩ := HZ.out _ hB; clear hB1)
       | (go_at_call 42; (with_reducible refine (HH2.out _ (HR.out _ hB).bl).mono ?_); rintro e w3 ⟨rfl, hB1⟩; have hB := bstep hB hB1 hB.size; obtain ⟨z0, z1⟩ := HZ.out _ hB; clear hB1)
       | (go_at_call 42; (with_reducible refine (HH9.out _ (HR.out _ hB).bl).mono ?_); rintro e w4 ⟨rfl, hB1⟩; have hB := bstep hB hB1 hB.size; obtain ⟨z0, z1⟩ := HZ.out _ hB; clear hB1))
      exact ⟨⟨k + 1, by go_num, by omega, by omega, HN2, hB⟩, by simp [intOf] <;> omega⟩
     ·have HN2 : Hid (∀ i, la + 1 ≤ i → i < k + 1 → rlvK M q t i = 0) := grow_no HN.out HK0.out
      clear HN HK HK0
      go_wp2_with (first
       | (go_at_call 53; refine (HCq.out _).mono ?_; rintro e w1 ⟨rfl, hB1⟩; have hB := bstep hB hB1 hB.size; obtain ⟨z0, z1⟩ := HZ.out _ hB; clear hB1)
       | (go_at_call 54; refine (HT.out _).mono ?_; rintro e w2 ⟨rfl, hB1⟩; have hB := bstep hB hB1 hB.size; obtain ⟨z0, z1⟩ := HZ.out _ hB; clear hB1)
       | (go_at_call 42; (with_reducible refine (HH2.out _ (HR.out _ hB).bl).mono ?_); rintro e w3 ⟨rfl, hB1⟩; have hB := bstep hB hB1 hB.size; obtain ⟨z0, z1⟩ := HZ.out _ hB; clear hB1)
       | (go_at_call 42; (with_reducible refine (HH9.out _ (HR.out _ hB).bl).mono ?_); rintro e w4 ⟨rfl, hB1⟩; have hB := bstep hB hB1 hB.size; obtain ⟨z0, z1⟩ := HZ.out _ hB; clear hB1))
      exact ⟨⟨k + 1, by go_num, by omega, by omega, HN2, hB⟩, by simp [intOf] <;> omega⟩
     ·have HN2 : Hid (∀ i, la + 1 ≤ i → i < k + 1 → rlvK M q t i = 0) := grow_no HN.out HK0.out
      clear HN HK HK0
      go_wp2_with (first
       | (go_at_call 53; refine (HCq.out _).mono ?_; rintro e w1 ⟨rfl, hB1⟩; have hB := bstep hB hB1 hB.size; obtain ⟨z0, z1⟩ := HZ.out _ hB; clear hB1)
       | (go_at_call 54; refine (HT.out _).mono ?_; rintro e w2 ⟨rfl, hB1⟩; have hB := bstep hB hB1 hB.size; obtain ⟨z0, z1⟩ := HZ.out _ hB; clear hB1)
       | (go_at_call 42; (with_reducible refine (HH2.out _ (HR.out _ hB).bl).mono ?_); rintro e w3 ⟨rfl, hB1⟩; have hB := bstep hB hB1 hB.size; obtain ⟨z0, z1⟩ := HZ.out _ hB; clear hB1)
       | (go_at_call 42; (with_reducible refine (HH9.out _ (HR.out _ hB).bl).mono ?_); rintro e w4 ⟨rfl, hB1⟩; have hB := bstep hB hB1 hB.size; obtain ⟨z0, z1⟩ := HZ.out _ hB; clear hB1))
      exact ⟨⟨k + 1, by go_num, by omega, by omega, HN2, hB⟩, by simp [intOf] <;> omega⟩
     ·have HN2 : Hid (∀ i, la + 1 ≤ i → i < k + 1 → rlvK M q t i = 0) := grow_no HN.out HK0.out
      clear HN HK HK0
      go_wp2_with (first
       | (go_at_call 53; refine (HCq.out _).mono ?_; rintro e w1 ⟨rfl, hB1⟩; have hB := bstep hB hB1 hB.size; obtain ⟨z0, z1⟩ := HZ.out _ hB; clear hB1)
       | (go_at_call 54; refine (HT.out _).mono ?_; rintro e w2 ⟨rfl, hB1⟩; have hB := bstep hB hB1 hB.size; obtain ⟨z0, z1⟩ := HZ.out _ hB; clear hB1)
       | (go_at_call 42; (with_reducible refine (HH2.out _ (HR.out _ hB).bl).mono ?_); rintro e w3 ⟨rfl, hB1⟩; have hB := bstep hB hB1 hB.size; obtain ⟨z0, z1⟩ := HZ.out _ hB; clear hB1)
       | (go_at_call 42; (with_reducible refine (HH9.out _ (HR.out _ hB).bl).mono ?_); rintro e w4 ⟨rfl, hB1⟩; have hB := bstep hB hB1 hB.size; obtain ⟨z0, z1⟩ := HZ.out _ hB; clear hB1))
      exact ⟨⟨k + 1, by go_num, by omega, by omega, HN2, hB⟩, by simp [intOf] <;> omega⟩
    ·have h43b : (t == 43) = false := by simp [h43]
     have i3 : ¬ (k : Int) < (k : Int) := by omega
     cases b2 with
     | true =>
      have HK0 : Hid (rlvK M q t k = 4) := by unfold Hid; rw [HK.out]; simp [h43]
      have hRL := HLs.out k hk1 hlt (by rw [HK0.out]; decide) HN.out
      rw [hRL, HK0.out] at hlv; exact absurd hlv (by simp)
     | false =>
      have HK0 : Hid (rlvK M q t k = 0) := by unfold Hid; rw [HK.out]; simp
      cases b9
      ·have HN2 : Hid (∀ i, la + 1 ≤ i → i < k + 1 → rlvK M q t i = 0) := grow_no HN.out HK0.out
       clear HN HK HK0
       go_wp2_with (first
        | (go_at_call 53; refine (HCq.out _).mono ?_; rintro e w1 ⟨rfl, hB1⟩; have hB := bstep hB hB1 hB.size; obtain ⟨z0, z1⟩ := HZ.out _ hB; clear hB1)
        | (go_at_call 54; refine (HT.out _).mono ?_; rintro e w2 ⟨rfl, hB1⟩; have hB := bstep hB hB1 hB.size; obtain ⟨z0, z1⟩ := HZ.out _ hB; clear hB1)
        | (go_at_call 42; (with_reducible refine (HH2.out _ (HR.out _ hB).bl).mono ?_); rintro e w3 ⟨rfl, hB1⟩; have hB := bstep hB hB1 hB.size; obtain ⟨z0, z1⟩ := HZ.out _ hB; clear hB1)
        | (go_at_call 42; (with_reducible refine (HH9.out _ (HR.out _ hB).bl).mono ?_); rintro e w4 ⟨rfl, hB1⟩; have hB := bstep hB hB1 hB.size; obtain ⟨z0, z1⟩ := HZ.out _ hB; clear hB1))
       exact ⟨⟨k + 1, by go_num, by omega, by omega, HN2, hB⟩, by simp [intOf] <;> omega⟩
      ·have HN2 : Hid (∀ i, la + 1 ≤ i → i < k + 1 → rlvK M q t i = 0) := grow_no HN.out HK0.out
       clear HN HK HK0
       go_wp2_with (first
        | (go_at_call 53; refine (HCq.out _).mono ?_; rintro e w1 ⟨rfl, hB1⟩; have hB := bstep hB hB1 hB.size; obtain ⟨z0, z1⟩ := HZ.out _ hB; clear hB1)
        | (go_at_call 54; refine (HT.out _).mono ?_; rintro e w2 ⟨rfl, hB1⟩; have hB := bstep hB hB1 hB.size; obtain ⟨z0, z1⟩ := HZ.out _ hB; clear hB1)
        | (go_at_call 42; (with_reducible refine (HH2.out _ (HR.out _ hB).bl).mono ?_); rintro e w3 ⟨rfl, hB1⟩; have hB := bstep hB hB1 hB.size; obtain ⟨z0, z1⟩ := HZ.out _ hB; clear hB1)
        | (go_at_call 42; (with_reducible refine (HH9.out _ (HR.out _ hB).bl).mono ?_); rintro e w4 ⟨rfl, hB1⟩; have hB := bstep hB hB1 hB.size; obtain ⟨z0, z1⟩ := HZ.out _ hB; clear hB1))
       exact ⟨⟨k + 1, by go_num, by omega, by omega, HN2, hB⟩, by simp [intOf] <;> omega⟩
   ·have i3 : (k : Int) < (lq : Int) := by omega
    have i4 : ((k : Int) == (lq : Int)) = false := by rw [beq_eq_false_iff_ne]; omega
    cases b2 with
    | true =>
     have HK0 : Hid (rlvK M q t k = 4) := by unfold Hid; rw [HK.out]; simp [he]
     have hRL := HLs.out k hk1 hlt (by rw [HK0.out]; decide) HN.out
     rw [hRL, HK0.out] at hlv; exact absurd hlv (by simp)
    | false =>
     cases b9 with
     | true =>
      have HK0 : Hid (rlvK M q t k = 3) := by unfold Hid; rw [HK.out]; simp; omega
      have hRL := HLs.out k hk1 hlt (by rw [HK0.out]; decide) HN.out
      rw [hRL, HK0.out] at hlv; exact absurd hlv (by simp)
     | false =>
      have HK0 : Hid (rlvK M q t k = 0) := by unfold Hid; rw [HK.out]; simp
      clear he
      have HN2 : Hid (∀ i, la + 1 ≤ i → i < k + 1 → rlvK M q t i = 0) := grow_no HN.out HK0.out
      clear HN HK HK0
      go_wp2_with (first
       | (go_at_call 53; refine (HCq.out _).mono ?_; rintro e w1 ⟨rfl, hB1⟩; have hB := bstep hB hB1 hB.size; obtain ⟨z0, z1⟩ := HZ.out _ hB; clear hB1)
       | (go_at_call 54; refine (HT.out _).mono ?_; rintro e w2 ⟨rfl, hB1⟩; have hB := bstep hB hB1 hB.size; obtain ⟨z0, z1⟩ := HZ.out _ hB; clear hB1)
       | (go_at_call 42; (with_reducible refine (HH2.out _ (HR.out _ hB).bl).mono ?_); rintro e w3 ⟨rfl, hB1⟩; have hB := bstep hB hB1 hB.size; obtain ⟨z0, z1⟩ := HZ.out _ hB; clear hB1)
       | (go_at_call 42; (with_reducible refine (HH9.out _ (HR.out _ hB).bl).mono ?_); rintro e w4 ⟨rfl, hB1⟩; have hB := bstep hB hB1 hB.size; obtain ⟨z0, z1⟩ := HZ.out _ hB; clear hB1))
      exact ⟨⟨k + 1, by go_num, by omega, by omega, HN2, hB⟩, by simp [intOf] <;> omega⟩
  ·obtain rfl : k = lq + 1 := by omega
   have pk : ¬ ((lq + 1 : Nat) : Int) ≤ (lq : Int) := by omega
   clear HN hlv HH HSe HKk HLs HLn HRf
   go_wp2_with (first
    | (go_at_call 53; refine (HCq.out _).mono ?_; rintro e w1 ⟨rfl, hB1⟩; have hB := bstep hB hB1 hB.size; clear hB1)
    | (go_at_call 55; refine (HT1.out _ (HR.out _ hB).bl).mono ?_; rintro e w6 ⟨rfl, hB1⟩; have hB := bstep hB hB1 hB.size; obtain ⟨d0, d1, d2, d3, d4, d5, d6, d7, d8, d9⟩ := bx5_cells (HR.out _ hB).fx; have H6 := hide' (((HR.out _ hB).r3.put1 (.string q)).put2 (.string q)); clear hB1)
    | (go_at_call 56; refine (HS3.out _ H6.out.bl).mono ?_; rintro e w7 ⟨⟨v7, rfl, ho7⟩, hB1⟩; obtain ⟨p5, c5, rfl, _, _, _⟩ := own_shape ho7; have HO7 := hide' ho7; have HLT := hide' H6.out.lt; have H7 := hide' (H6.out.step hB1); obtain ⟨g0, g1, g2, g3, g4, g5, g6, g7, g8, g9⟩ := bx5_cells H7.out.fx; have H8 := hide' ((H7.out.put0 (.int .i64 kk)).put4 (.slice p5 X.length c5)); obtain ⟨e0, e1, e2, e3, e4, e5, e6, e7, e8, e9⟩ := bx5_cells H8.out.fx; obtain ⟨cc0, cc1, cc2, cc3, cc4, cc5, cc6, cc7, cc8, cc9⟩ := bx5_cells H8.out.rx; clear hB1 ho7))
   have hrx := H8.out.rx
   have hbw := H8.out.bl
   have ho8 := own_far (own_far HO7.out (grown_set w7 (W.heap.size + 1) 0 (.int .i64 kk)) HLT.out) (grown_set _ (W.heap.size + 1) 4 (.slice p5 X.length c5)) HLT.out
   have hb5 := bx5_set hrx (.int .i64 kk) (.string q) (.string q) (.bool false) (.slice p5 X.length c5)
   have hg5 := grown5 ((w7.setCell ⟨W.heap.size + 1, 0, none⟩ (.int .i64 kk)).setCell ⟨W.heap.size + 1, 4, none⟩ (.slice p5 X.length c5)) W.heap.size (.int .i64 kk) (.string q) (.string q) (.bool false) (.slice p5 X.length c5)
   have hbf := hbw.grown hg5 hbw.size (fun k e => by cases e; exact Nat.le_refl _)
   have hof := fd_own (F := ⟨kk, q, q, false, X⟩) (Nat.lt_of_succ_lt HLT.out) ho8 hg5
   generalize ((((((((w7.setCell ⟨W.heap.size + 1, 0, none⟩ (.int .i64 kk)).setCell ⟨W.heap.size + 1, 4, none⟩ (.slice p5 X.length c5)).setCell ⟨W.heap.size, 0, none⟩ (.int .i64 kk)).setCell ⟨W.heap.size, 1, none⟩ (.string q)).setCell ⟨W.heap.size, 2, none⟩ (.string q)).setCell ⟨W.heap.size, 3, none⟩ (.bool false)).setCell ⟨W.heap.size, 4, none⟩ (.slice p5 X.length c5))) = wz at hb5 hbf hof ⊢
   obtain ⟨r0, r1, r2, r3, r4, _⟩ := bx5_cells hb5
   refine bodyPost_ret (v := .agg #[.int .i64 kk, .string q, .string q, .bool false, .slice p5 X.length c5]) (by simp [results, go_sem, r0, r1, r2, r3, r4]) rfl ?_
   rw [HFd.out]
   exact ⟨⟨_, rfl, hof⟩, hbf⟩
end Go.Proofs.YthabenjghhmicaaGreat
