import Derived.Test.YtinnmfidnecncaaWu10G
import Derived.Laws.Cover3
namespace Go.Proofs.Ytinnmfidnecncaa
set_option linter.unusedVariables false
open Go.RowKit Go.Shelf Go.Proofs.Ytinnmfidnecncaa.Nm

theorem mg14 {w : World} {m : Nat} {vq va vu vd : Value} {ls : Ls} (h : Mg4 w m vq va vu vd ls) {R : Nat} (hR : R < m) (a0 a1 a2 a3 a4 a5 a6 a7 a8 a9 a10 a11 a12 a13 : Value) : Mg4 (set14 w R a0 a1 a2 a3 a4 a5 a6 a7 a8 a9 a10 a11 a12 a13) m vq va vu vd ls :=
  ((((((((((((((h.keep (grown_set _ R 0 a0) (fun q e => by injection e; omega)).keep (grown_set _ R 1 a1) (fun q e => by injection e; omega)).keep (grown_set _ R 2 a2) (fun q e => by injection e; omega)).keep (grown_set _ R 3 a3) (fun q e => by injection e; omega)).keep (grown_set _ R 4 a4) (fun q e => by injection e; omega)).keep (grown_set _ R 5 a5) (fun q e => by injection e; omega)).keep (grown_set _ R 6 a6) (fun q e => by injection e; omega)).keep (grown_set _ R 7 a7) (fun q e => by injection e; omega)).keep (grown_set _ R 8 a8) (fun q e => by injection e; omega)).keep (grown_set _ R 9 a9) (fun q e => by injection e; omega)).keep (grown_set _ R 10 a10) (fun q e => by injection e; omega)).keep (grown_set _ R 11 a11) (fun q e => by injection e; omega)).keep (grown_set _ R 12 a12) (fun q e => by injection e; omega)).keep (grown_set _ R 13 a13) (fun q e => by injection e; omega))
theorem Mg4.low {w : World} {m m2 : Nat} {vq va vu vd : Value} {ls : Ls} (h : Mg4 w m vq va vu vd ls) (hm : m2 ≤ m) : Mg4 w m2 vq va vu vd ls := ⟨own_low h.q hm, own_low h.a hm, own_low h.u hm, own_low h.d hm, h.qa, h.qu, h.qd, h.au, h.ad, h.ud⟩
theorem rr_at {w : World} {g : Nat} {v : Value} {k en sh : Nat} (h : Rr w g v k en sh) (j : Nat) (u : Value) {R : Nat} (hR : g ≠ R) : (w.setCell ⟨R, j, none⟩ u).cell? ⟨g, 1, none⟩ = some (.int .i64 (k : Int)) := (h.far hR j u).c1

theorem parts4_err {B : ByteArray} {x : Nat × Nat} (h : parts4 B = .error x) : x.1 ≠ 0 := by
  have hq : ∀ c k L x, qs B c k L = .error x → x.1 ≠ 0 := fun c => by
    induction c with
    | zero => intro k L x h; cases h
    | succ c ih =>
      intro k L x h
      unfold qs at h
      split at h
      · rename_i e he; cases h; exact qr_err he
      · exact ih _ _ _ h
  have hs : ∀ c k L x, rs B c k L = .error x → x.1 ≠ 0 := fun c => by
    induction c with
    | zero => intro k L x h; cases h
    | succ c ih =>
      intro k L x h
      unfold rs at h
      split at h
      · rename_i e he; cases h; exact rr_err he
      · exact ih _ _ _ h
  unfold parts4 at h
  split at h
  · rename_i e he; cases h; exact hq _ _ _ _ he
  · split at h
    · rename_i e he; cases h; exact hs _ _ _ _ he
    · split at h
      · rename_i e he; cases h; exact hs _ _ _ _ he
      · split at h
        · rename_i e he; cases h; exact hs _ _ _ _ he
        · split at h
          · cases h; show (11 : Nat) ≠ 0; omega
          · cases h

set_option maxRecDepth 100000 in
set_option maxHeartbeats 8000000 in
/-- wire.Unpack, with a head -/
theorem unpack_head (b o cap : Nat) (B : ByteArray) (w : World) (hB : Lib.Bytes w b o B) (hb : b < w.heap.size) (hb12 : 12 ≤ B.size) (hS : B.size ≤ 65535) (hc : B.size ≤ cap) (hs : sg (be B 2 2) 6 = false) :
    Calls Try.prog 7 #[.slice (some ⟨b, o, none⟩) B.size cap] w (upEnd B w) := by
  have hB0 : ∀ o : Obj, Below w.heap.size w (w.alloc o) := fun o => (Below.refl _ w).alloc (Nat.le_refl _) o
  have HX : Hid (upk B = parts4 B) := by unfold Hid upk; rw [if_neg (by omega), if_neg (by omega), if_neg (by rw [hs]; decide)]
  obtain ⟨v, hv⟩ : ∃ v, be B 2 2 = v := ⟨_, rfl⟩
  have hvl : v < 65536 := hv ▸ be2_lt _ _
  have HN := hide' (fun (W : World) (c : Nat) (hW : Lib.Bytes W b o B) => wnumber_any b o 2 2 c B W hW (by omega) (by omega))
  have hbit : (bits .and .i64 ((v : Int) / 64) 1 != 0) = false := by have := and1 v 6 hvl; rw [← hv, hs] at this; rw [← hv]; simpa using this
  rw [hv] at HN
  have HV := hide' hv
  clear hv hs
  obtain ⟨wa, hwa⟩ : ∃ wa, w.alloc (.cells mz 25) = wa := ⟨_, rfl⟩
  unfold mz at hwa
  have HBa : Hid (Lib.Bytes wa b o B) := hB.blk (hwa ▸ (World.grownBy_alloc w _ none).block b hb (fun e => by cases e))
  have HM : Hid (Bx wa w.heap.size #[.int .i64 0, .bool false, .int .i64 0, .bool false, .bool false, .bool false, .bool false, .bool false, .bool false, .int .i64 0, .slice none 0 0, .slice none 0 0, .slice none 0 0, .slice none 0 0] 25) := hwa ▸ World.alloc_heap_new w _
  have HBl : Hid (Below w.heap.size w wa) := hwa ▸ hB0 _
  have d0 := HBa.out.at_ (k := 0) (by omega)
  have d1 := HBa.out.at_ (k := 1) (by omega)
  have d2 := HBa.out.at_ (k := 2) (by omega)
  have d3 := HBa.out.at_ (k := 3) (by omega)
  have d4 := HBa.out.at_ (k := 4) (by omega)
  have d5 := HBa.out.at_ (k := 5) (by omega)
  have d6 := HBa.out.at_ (k := 6) (by omega)
  have d7 := HBa.out.at_ (k := 7) (by omega)
  have d8 := HBa.out.at_ (k := 8) (by omega)
  have d9 := HBa.out.at_ (k := 9) (by omega)
  have d10 := HBa.out.at_ (k := 10) (by omega)
  have d11 := HBa.out.at_ (k := 11) (by omega)
  rw [Nat.add_zero] at d0
  have hat : ∀ W : World, Sem.run Try.prog (Instr.arrayAt 54 (.slice (some ⟨b, o, none⟩) B.size cap)) W = .ok (.pointer (some ⟨b, o, none⟩)) W := fun W => run_arrayAt W 54 5 12 _ _ _ Try.underlying54 hb12
  obtain ⟨id, hid⟩ : ∃ v, be B 0 2 = v := ⟨_, rfl⟩
  have HID := hide' hid
  obtain ⟨op, hop⟩ : ∃ x, v / 2048 % 16 = x := ⟨_, rfl⟩
  have HOP := hide' hop
  obtain ⟨rc, hrc⟩ : ∃ x, v % 16 = x := ⟨_, rfl⟩
  have HRC := hide' hrc
  have HSi := hide' (fun (W : World) => signsOf_any B W hb12)
  rw [HV.out, hid, hop, hrc] at HSi
  clear hid hop hrc
  obtain ⟨wh, hwh⟩ : ∃ wh, wa.alloc (.cells #[.int .u8 (bt B 0 : Nat), .int .u8 (bt B 1 : Nat), .int .u8 (bt B 2 : Nat), .int .u8 (bt B 3 : Nat), .int .u8 (bt B 4 : Nat), .int .u8 (bt B 5 : Nat), .int .u8 (bt B 6 : Nat), .int .u8 (bt B 7 : Nat), .int .u8 (bt B 8 : Nat), .int .u8 (bt B 9 : Nat), .int .u8 (bt B 10 : Nat), .int .u8 (bt B 11 : Nat)] 54) = wh := ⟨_, rfl⟩
  have HHw : Hid (Bx wh wa.heap.size (h12 B) 54) := hwh ▸ World.alloc_heap_new wa _
  have HMw : Hid (Bx wh w.heap.size #[.int .i64 0, .bool false, .int .i64 0, .bool false, .bool false, .bool false, .bool false, .bool false, .bool false, .int .i64 0, .slice none 0 0, .slice none 0 0, .slice none 0 0, .slice none 0 0] 25) := hwh ▸ HM.out.grown (World.grownBy_alloc wa _ none) (by simp)
  have HBw : Hid (Lib.Bytes wh b o B) := HBa.out.blk (hwh ▸ (World.grownBy_alloc wa _ none).block b (Nat.lt_of_lt_of_le hb HBl.out.size) (fun e => by cases e))
  have HLw : Hid (Below w.heap.size w wh) := hwh ▸ HBl.out.alloc HBl.out.size _
  have HP : Hid (∀ w5 : World, Below wh.heap.size wh w5 → Calls Try.prog 17 #[.pointer (some ⟨w5.heap.size + 1, 0, none⟩), .agg #[.int .u8 (bt B 0 : Nat), .int .u8 (bt B 1 : Nat), .int .u8 (bt B 2 : Nat), .int .u8 (bt B 3 : Nat), .int .u8 (bt B 4 : Nat), .int .u8 (bt B 5 : Nat), .int .u8 (bt B 6 : Nat), .int .u8 (bt B 7 : Nat), .int .u8 (bt B 8 : Nat), .int .u8 (bt B 9 : Nat), .int .u8 (bt B 10 : Nat), .int .u8 (bt B 11 : Nat)], .pointer (some ⟨w5.heap.size, 0, none⟩)] ((w5.alloc (.cells #[.int .i64 (id : Int), .bool (sg v 15), .int .i64 (op : Int), .bool (sg v 10), .bool (sg v 9), .bool (sg v 8), .bool (sg v 7), .bool (sg v 5), .bool (sg v 4), .int .i64 (rc : Int), .slice none 0 0, .slice none 0 0, .slice none 0 0, .slice none 0 0] 25)).alloc (.cells #[.slice (some ⟨b, o, none⟩) B.size cap, .int .i64 12, .int .i64 (B.size : Int), .int .i64 10] 57)) (ptEnd (parts4 B) (w5.heap.size + 1) w5.heap.size b o cap B id op rc v ((w5.alloc (.cells #[.int .i64 (id : Int), .bool (sg v 15), .int .i64 (op : Int), .bool (sg v 10), .bool (sg v 9), .bool (sg v 8), .bool (sg v 7), .bool (sg v 5), .bool (sg v 4), .int .i64 (rc : Int), .slice none 0 0, .slice none 0 0, .slice none 0 0, .slice none 0 0] 25)).alloc (.cells #[.slice (some ⟨b, o, none⟩) B.size cap, .int .i64 12, .int .i64 (B.size : Int), .int .i64 10] 57)))) := by
    intro w5 hB5
    have h5 := hB5.size
    have hl := HLw.out.size
    have hbw : b < wh.heap.size := by omega
    refine rparts_any (w5.heap.size + 1) w5.heap.size b o cap B id op rc v _ ?_ ?_ ?_ ?_ (by omega) (by omega) (by omega) hb12 hS hc
    · have := World.alloc_heap_new (w5.alloc (.cells #[.int .i64 (id : Int), .bool (sg v 15), .int .i64 (op : Int), .bool (sg v 10), .bool (sg v 9), .bool (sg v 8), .bool (sg v 7), .bool (sg v 5), .bool (sg v 4), .int .i64 (rc : Int), .slice none 0 0, .slice none 0 0, .slice none 0 0, .slice none 0 0] 25)) (.cells #[.slice (some ⟨b, o, none⟩) B.size cap, .int .i64 12, .int .i64 (B.size : Int), .int .i64 10] 57)
      rw [World.size_alloc] at this
      exact this
    · exact Bx.grown (World.alloc_heap_new w5 (.cells (mcs id op rc v (.slice none 0 0) (.slice none 0 0) (.slice none 0 0) (.slice none 0 0)) 25)) (World.grownBy_alloc _ _ none) (by simp)
    · exact HBw.out.blk (((World.grownBy_alloc _ _ none).block b (by simp; omega) (fun e => by cases e)).trans (((World.grownBy_alloc w5 _ none).block b (by omega) (fun e => by cases e)).trans (hB5.block b hbw)))
    · simp; omega
  have HGr : Hid (∀ (w5 w7 : World) (o1 o2 : Obj), Below wh.heap.size wh w5 → Gr2 ((w5.alloc o1).alloc o2) w7 (w5.heap.size + 1) w5.heap.size → Below w.heap.size w w7 ∧ Bx w7 w.heap.size #[.int .i64 0, .bool false, .int .i64 0, .bool false, .bool false, .bool false, .bool false, .bool false, .bool false, .int .i64 0, .slice none 0 0, .slice none 0 0, .slice none 0 0, .slice none 0 0] 25 ∧ w.heap.size < w5.heap.size) := by
    intro w5 w7 o1 o2 hB5 hg
    have h5 := hB5.size
    have hl := HLw.out.size
    have hml := HMw.out.lt
    have h1 : Below w.heap.size w w5 := bstep HLw.out hB5 hl
    have h2 := (h1.alloc h1.size o1).alloc (Nat.le_trans h1.size (by simp)) o2
    have h3 : Below w.heap.size ((w5.alloc o1).alloc o2) w7 := hg.below (by omega) (by omega) (by simp; omega)
    refine ⟨⟨h3.os.trans h2.os, h3.tape.trans h2.tape, h3.output.trans h2.output, Nat.le_trans h2.size h3.size, fun k hk => (h3.block k hk).trans (h2.block k hk)⟩, ?_, by omega⟩
    exact (hg.block w.heap.size (by simp; omega) (by omega) (by omega)).trans (((HMw.out.below hB5 HMw.out.lt).grown (World.grownBy_alloc w5 o1 none) (by simp)).grown (World.grownBy_alloc _ o2 none) (by simp))
  have y0 := HHw.out.cell (h12_get B 0 (by omega))
  have y1 := HHw.out.cell (h12_get B 1 (by omega))
  have y2 := HHw.out.cell (h12_get B 2 (by omega))
  have y3 := HHw.out.cell (h12_get B 3 (by omega))
  have y4 := HHw.out.cell (h12_get B 4 (by omega))
  have y5 := HHw.out.cell (h12_get B 5 (by omega))
  have y6 := HHw.out.cell (h12_get B 6 (by omega))
  have y7 := HHw.out.cell (h12_get B 7 (by omega))
  have y8 := HHw.out.cell (h12_get B 8 (by omega))
  have y9 := HHw.out.cell (h12_get B 9 (by omega))
  have y10 := HHw.out.cell (h12_get B 10 (by omega))
  have y11 := HHw.out.cell (h12_get B 11 (by omega))
  cases hr : parts4 B with
  | error x =>
    have hx : ((x.1 : Int) != 0) = true := by
      have := parts4_err hr
      simp [bne_iff_ne]; omega
    rw [hr] at HP HX
    go_enter Try.func7, Try.ntmps7
    go_wp2_with (first
      | (go_at_call 15; refine Calls.mono (HN.out _ _ HBa.out) ?_; rintro e w1 ⟨rfl, h1⟩; have h1' := h1.symm; subst h1')
      | (go_at_call 16; refine Calls.mono (HSi.out _) ?_; rintro e w5 ⟨rfl, hB5⟩; have HB5 := hide' hB5; have HH5 : Hid (∀ o1 o2 : Obj, Bx ((w5.alloc o1).alloc o2) wa.heap.size (h12 B) 54) := fun o1 o2 => ((HHw.out.below hB5 HHw.out.lt).grown (World.grownBy_alloc w5 o1 none) (by simp)).grown (World.grownBy_alloc _ o2 none) (by simp); clear hB5; have g0 := fun (o1 o2 : Obj) => (HH5.out o1 o2).cell (h12_get B 0 (by omega)); have g1 := fun (o1 o2 : Obj) => (HH5.out o1 o2).cell (h12_get B 1 (by omega)); have g2 := fun (o1 o2 : Obj) => (HH5.out o1 o2).cell (h12_get B 2 (by omega)); have g3 := fun (o1 o2 : Obj) => (HH5.out o1 o2).cell (h12_get B 3 (by omega)); have g4 := fun (o1 o2 : Obj) => (HH5.out o1 o2).cell (h12_get B 4 (by omega)); have g5 := fun (o1 o2 : Obj) => (HH5.out o1 o2).cell (h12_get B 5 (by omega)); have g6 := fun (o1 o2 : Obj) => (HH5.out o1 o2).cell (h12_get B 6 (by omega)); have g7 := fun (o1 o2 : Obj) => (HH5.out o1 o2).cell (h12_get B 7 (by omega)); have g8 := fun (o1 o2 : Obj) => (HH5.out o1 o2).cell (h12_get B 8 (by omega)); have g9 := fun (o1 o2 : Obj) => (HH5.out o1 o2).cell (h12_get B 9 (by omega)); have g10 := fun (o1 o2 : Obj) => (HH5.out o1 o2).cell (h12_get B 10 (by omega)); have g11 := fun (o1 o2 : Obj) => (HH5.out o1 o2).cell (h12_get B 11 (by omega)))
      | (go_at_call 17; refine Calls.mono (HP.out w5 HB5.out) ?_; rintro e w7 ⟨vq, va, vu, vd, ls, rfl, hP7⟩; have HP7 := hide' hP7; have H7 := hide' (HGr.out _ _ _ _ HB5.out hP7.gr); obtain ⟨r0, r1, r2, r3, r4, r5, r6, r7, r8, r9, r10, r11, r12, r13⟩ := bx14 H7.out.2.1; obtain ⟨f0, f1, f2, f3, f4, f5, f6, f7, f8, f9, f10, f11, f12, f13⟩ := bx14_free H7.out.2.1; have k7 := hP7.rd.c1; have hz7 : w.heap.size < w5.heap.size := H7.out.2.2; clear hP7))
    have hne5 : w.heap.size ≠ w5.heap.size + 1 := by omega
    go_region
    go_wp2_with fail
    obtain ⟨q0, q1, q2, q3, q4, q5, q6, q7, q8, q9, q10, q11, q12, q13⟩ := bx14 (bx14_set H7.out.2.1 (.int .i64 0) (.bool false) (.int .i64 0) (.bool false) (.bool false) (.bool false) (.bool false) (.bool false) (.bool false) (.int .i64 0) (.slice none 0 0) (.slice none 0 0) (.slice none 0 0) (.slice none 0 0))
    unfold set14 at q0 q1 q2 q3 q4 q5 q6 q7 q8 q9 q10 q11 q12 q13
    refine bodyPost_ret (v := .tuple #[.agg mz, .int .i64 (x.2 : Int), .int .i64 (x.1 : Int)]) (by simp [results, go_sem, mz, q0, q1, q2, q3, q4, q5, q6, q7, q8, q9, q10, q11, q12, q13]) rfl ?_
    unfold upEnd
    rw [HX.out]
    exact ⟨rfl, (below14 H7.out.1 (Nat.le_refl _) H7.out.1.size (.int .i64 0) (.bool false) (.int .i64 0) (.bool false) (.bool false) (.bool false) (.bool false) (.bool false) (.bool false) (.int .i64 0) (.slice none 0 0) (.slice none 0 0) (.slice none 0 0) (.slice none 0 0)).drew⟩
  | ok ls =>
    rw [hr] at HP HX
    go_enter Try.func7, Try.ntmps7
    go_wp2_with (first
      | (go_at_call 15; refine Calls.mono (HN.out _ _ HBa.out) ?_; rintro e w1 ⟨rfl, h1⟩; have h1' := h1.symm; subst h1')
      | (go_at_call 16; refine Calls.mono (HSi.out _) ?_; rintro e w5 ⟨rfl, hB5⟩; have HB5 := hide' hB5; have HH5 : Hid (∀ o1 o2 : Obj, Bx ((w5.alloc o1).alloc o2) wa.heap.size (h12 B) 54) := fun o1 o2 => ((HHw.out.below hB5 HHw.out.lt).grown (World.grownBy_alloc w5 o1 none) (by simp)).grown (World.grownBy_alloc _ o2 none) (by simp); clear hB5; have g0 := fun (o1 o2 : Obj) => (HH5.out o1 o2).cell (h12_get B 0 (by omega)); have g1 := fun (o1 o2 : Obj) => (HH5.out o1 o2).cell (h12_get B 1 (by omega)); have g2 := fun (o1 o2 : Obj) => (HH5.out o1 o2).cell (h12_get B 2 (by omega)); have g3 := fun (o1 o2 : Obj) => (HH5.out o1 o2).cell (h12_get B 3 (by omega)); have g4 := fun (o1 o2 : Obj) => (HH5.out o1 o2).cell (h12_get B 4 (by omega)); have g5 := fun (o1 o2 : Obj) => (HH5.out o1 o2).cell (h12_get B 5 (by omega)); have g6 := fun (o1 o2 : Obj) => (HH5.out o1 o2).cell (h12_get B 6 (by omega)); have g7 := fun (o1 o2 : Obj) => (HH5.out o1 o2).cell (h12_get B 7 (by omega)); have g8 := fun (o1 o2 : Obj) => (HH5.out o1 o2).cell (h12_get B 8 (by omega)); have g9 := fun (o1 o2 : Obj) => (HH5.out o1 o2).cell (h12_get B 9 (by omega)); have g10 := fun (o1 o2 : Obj) => (HH5.out o1 o2).cell (h12_get B 10 (by omega)); have g11 := fun (o1 o2 : Obj) => (HH5.out o1 o2).cell (h12_get B 11 (by omega)))
      | (go_at_call 17; refine Calls.mono (HP.out w5 HB5.out) ?_; rintro e w7 ⟨vq, va, vu, vd, k, rfl, hP7⟩; obtain ⟨p1, n1, rfl, _⟩ := own_shape hP7.rows.q; obtain ⟨p2, n2, rfl, _⟩ := own_shape hP7.rows.a; obtain ⟨p3, n3, rfl, _⟩ := own_shape hP7.rows.u; obtain ⟨p4, n4, rfl, _⟩ := own_shape hP7.rows.d; have HP7 := hide' hP7; have H7 := hide' (HGr.out _ _ _ _ HB5.out hP7.gr); obtain ⟨r0, r1, r2, r3, r4, r5, r6, r7, r8, r9, r10, r11, r12, r13⟩ := bx14 H7.out.2.1; obtain ⟨f0, f1, f2, f3, f4, f5, f6, f7, f8, f9, f10, f11, f12, f13⟩ := bx14_free H7.out.2.1; obtain ⟨e0, e1, e2, e3, e4, e5, e6, e7, e8, e9, e10, e11, e12, e13⟩ := bx14 (hP7.bx : Bx w7 w5.heap.size #[(.int .i64 (id : Int)), (.bool (sg v 15)), (.int .i64 (op : Int)), (.bool (sg v 10)), (.bool (sg v 9)), (.bool (sg v 8)), (.bool (sg v 7)), (.bool (sg v 5)), (.bool (sg v 4)), (.int .i64 (rc : Int)), (.slice p1 ls.q.length n1), (.slice p2 ls.a.length n2), (.slice p3 ls.u.length n3), (.slice p4 ls.d.length n4)] 25); have hz7 : w.heap.size < w5.heap.size := H7.out.2.2; clear hP7))
    obtain ⟨q0, q1, q2, q3, q4, q5, q6, q7, q8, q9, q10, q11, q12, q13⟩ := bx14 (bx14_set H7.out.2.1 (.int .i64 (id : Int)) (.bool (sg v 15)) (.int .i64 (op : Int)) (.bool (sg v 10)) (.bool (sg v 9)) (.bool (sg v 8)) (.bool (sg v 7)) (.bool (sg v 5)) (.bool (sg v 4)) (.int .i64 (rc : Int)) (.slice p1 ls.q.length n1) (.slice p2 ls.a.length n2) (.slice p3 ls.u.length n3) (.slice p4 ls.d.length n4))
    unfold set14 at q0 q1 q2 q3 q4 q5 q6 q7 q8 q9 q10 q11 q12 q13
    refine bodyPost_ret (v := .tuple #[.agg (mcs id op rc v (.slice p1 ls.q.length n1) (.slice p2 ls.a.length n2) (.slice p3 ls.u.length n3) (.slice p4 ls.d.length n4)), .int .i64 0, .int .i64 0]) (by simp [results, go_sem, mcs, q0, q1, q2, q3, q4, q5, q6, q7, q8, q9, q10, q11, q12, q13]) rfl ?_
    unfold upEnd
    rw [HX.out, HV.out, HID.out, HOP.out, HRC.out]
    refine ⟨(.slice p1 ls.q.length n1), (.slice p2 ls.a.length n2), (.slice p3 ls.u.length n3), (.slice p4 ls.d.length n4), rfl, (mg14 HP7.out.rows ?_ (.int .i64 (id : Int)) (.bool (sg v 15)) (.int .i64 (op : Int)) (.bool (sg v 10)) (.bool (sg v 9)) (.bool (sg v 8)) (.bool (sg v 7)) (.bool (sg v 5)) (.bool (sg v 4)) (.int .i64 (rc : Int)) (.slice p1 ls.q.length n1) (.slice p2 ls.a.length n2) (.slice p3 ls.u.length n3) (.slice p4 ls.d.length n4)).low ?_, below14 H7.out.1 (Nat.le_refl _) H7.out.1.size (.int .i64 (id : Int)) (.bool (sg v 15)) (.int .i64 (op : Int)) (.bool (sg v 10)) (.bool (sg v 9)) (.bool (sg v 8)) (.bool (sg v 7)) (.bool (sg v 5)) (.bool (sg v 4)) (.int .i64 (rc : Int)) (.slice p1 ls.q.length n1) (.slice p2 ls.a.length n2) (.slice p3 ls.u.length n3) (.slice p4 ls.d.length n4)⟩
    · simp; omega
    · simp; omega
/-- wire.Unpack -/
theorem unpack_any (p : Option Addr) (cap : Nat) (B : ByteArray) (w : World) (hS : B.size ≤ 4294967296) (hc : B.size ≤ cap) (hp : 12 ≤ B.size → ∃ b o, p = some ⟨b, o, none⟩ ∧ b < w.heap.size ∧ Lib.Bytes w b o B) :
    Calls Try.prog 7 #[.slice p B.size cap] w (upEnd B w) := by
  by_cases h1 : 65535 < B.size ∨ B.size < 12
  · exact unpack_short p cap B w hS h1
  · obtain ⟨b, o, rfl, hb, hB⟩ := hp (by omega)
    cases hs : sg (be B 2 2) 6 with
    | true => exact unpack_form b o cap B w hB hb (by omega) (by omega) hc hs
    | false => exact unpack_head b o cap B w hB hb (by omega) (by omega) hc hs
end Go.Proofs.Ytinnmfidnecncaa
