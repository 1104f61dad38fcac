import Derived.Test.YtinnmfidnecncaaWu2G
import Derived.Test.YtinnmfidnecncaaWu1G
import Derived.Deep.RegionWith
import Derived.Test.YtinnmfidnecncaaSh1G
namespace Go.Proofs.Ytinnmfidnecncaa
set_option linter.unusedVariables false
open Go.RowKit Go.Shelf Go.Proofs.Ytinnmfidnecncaa.Nm

theorem Rr.far {w : World} {g : Nat} {v : Value} {k en sh : Nat} (h : Rr w g v k en sh) {R : Nat} (hR : g ≠ R) (j : Nat) (u : Value) : Rr (w.setCell ⟨R, j, none⟩ u) g v k en sh := (Below.heap_setCell _ _ _ g hR).trans h

/-- wire.number, wherever the bytes stand -/
theorem wnumber_at (b o x n c : Nat) (B : ByteArray) (w : World) (h : Lib.Bytes w b o B) (hx : o ≤ x) (hk : x - o + n ≤ B.size) (hn : n ≤ 4) :
    Calls Try.prog 15 #[.slice (some ⟨b, x, none⟩) n c] w fun e w' => e = .returned (.int .i64 (be B (x - o) n : Int)) ∧ w' = w := by
  have := wnumber_any b o (x - o) n c B w h hk hn
  rw [show o + (x - o) = x by omega] at this
  exact this
def qEnd (r : Except Nat (Qn × Nat)) (g : Nat) (V : Value) (en sh : Nat) (w : World) (e : Ending) (w' : World) : Prop := match r with
  | .ok r => e = .returned (.tuple #[.agg #[.string r.1.n, .int .i64 r.1.t, .int .i64 r.1.c], .int .i64 0]) ∧ Rr w' g V r.2 en sh ∧ w.grownBy w' (some g)
  | .error x => e = .returned (.tuple #[.agg #[.string ⟨#[]⟩, .int .i64 0, .int .i64 0], .int .i64 (x : Int)]) ∧ w.grownBy w' (some g) ∧ ∃ kx, kx ≤ en ∧ Rr w' g V kx en sh

set_option maxRecDepth 100000 in
set_option maxHeartbeats 4000000 in
/-- (*reader).question -/
theorem rquestion_any (g b o cap k : Nat) (B : ByteArray) (w : World) (h : Rr w g (.slice (some ⟨b, o, none⟩) B.size cap) k B.size 10) (hB : Lib.Bytes w b o B) (hb : b < w.heap.size) (hgb : b ≠ g) (hk : k ≤ B.size) (hS : B.size ≤ 65535) (hc : B.size ≤ cap) :
    Calls Try.prog 31 #[.pointer (some ⟨g, 0, none⟩)] w (qEnd (qr B k) g (.slice (some ⟨b, o, none⟩) B.size cap) B.size 10 w) := by
  have hg := h.lt
  obtain ⟨wa, hwa⟩ : ∃ wa, w.alloc (.cells #[.string ⟨#[]⟩, .int .i64 0, .int .i64 0] 51) = wa := ⟨_, rfl⟩
  have hga : w.grownBy wa (some g) := hwa ▸ World.grownBy_alloc _ _ _
  have hza : wa.heap.size = w.heap.size + 1 := by rw [← hwa]; simp
  have hra : Rr wa g (.slice (some ⟨b, o, none⟩) B.size cap) k B.size 10 := (hwa ▸ ((Below.refl w.heap.size w).alloc (Nat.le_refl _) _).block g hg : wa.heap[g]? = w.heap[g]?).trans h
  have hBa : Lib.Bytes wa b o B := hB.blk (hga.block b hb (fun e => hgb (Option.some.inj e)))
  have hqa : Bx wa w.heap.size #[.string ⟨#[]⟩, .int .i64 0, .int .i64 0] 51 := hwa ▸ World.alloc_heap_new w _
  have HNm := hide' (rname_any g b o cap k B.size 10 B wa hra hBa (by omega) hgb hk (Nat.le_refl _) hS hc (.inr rfl))
  have HQA := hide' hqa
  have hne : (some g : Option Nat) ≠ some w.heap.size := fun e => by injection e; omega
  cases hr : rn B k k B.size 10 0 with
  | error x =>
    have HQ : Hid (qr B k = .error x) := by unfold Hid qr; rw [hr]
    have hx : ((x : Int) != 0) = true := by
      have := rn_err _ _ _ _ _ _ hr
      simp [bne_iff_ne]; omega
    rw [hr] at HNm
    go_enter Try.func31, Try.ntmps31
    go_wp2_with (go_at_call 44; refine HNm.out.mono ?_; rintro e w1 ⟨rfl, hg1, kx, hkx, hrx⟩; have HRX := hide' hrx; clear hrx; have HG1 := hide' hg1; have HX1 := hide' (HQA.out.grown hg1 hne); obtain ⟨r0, r1, r2, f0, f1, f2⟩ := bx3 HX1.out; clear hg1)
    obtain ⟨q0, q1, q2, _⟩ := bx3 (bx3_set HX1.out (.string ⟨#[]⟩) (.int .i64 0) (.int .i64 0))
    refine bodyPost_ret (v := .tuple #[.agg #[.string ⟨#[]⟩, .int .i64 0, .int .i64 0], .int .i64 (x : Int)]) (by simp [results, go_sem, q0, q1, q2]) rfl ?_
    rw [HQ.out]
    have hne2 : g ≠ w.heap.size := by omega
    exact ⟨rfl, grown_far1 (grown_far1 (grown_far1 (grown_trans hga HG1.out) (Nat.le_refl _) _ _) (Nat.le_refl _) _ _) (Nat.le_refl _) _ _, kx, hkx, ((HRX.out.far hne2 _ _).far hne2 _ _).far hne2 _ _⟩
  | ok r =>
    obtain ⟨s, k1⟩ := r
    obtain ⟨n1, n2, n3, n4, n5⟩ := rn_name (Nat.le_refl _) hr
    rw [hr] at HNm
    by_cases h4 : B.size < k1 + 4
    · have HQ : Hid (qr B k = .error 10) := by unfold Hid qr; rw [hr]; simp only; rw [if_pos h4]
      go_enter Try.func31, Try.ntmps31
      go_wp2_with (first
        | (go_at_call 44; refine HNm.out.mono ?_; rintro e w1 ⟨rfl, hr1, hg1⟩; have HG1 := hide' hg1; have HR1 := hide' hr1; have HX1 := hide' (HQA.out.grown hg1 hne); clear hg1 hr1)
        | (go_at_call 45; refine (take_no g _ k1 B.size 10 4 _ HR1.out n5 (by omega) (by omega) h4).mono ?_; rintro e w2 ⟨rfl, m, hm⟩; have HG2 := hide' (hm ▸ grown_trans HG1.out (grown_drewN _ m _)); have HR2 := hide' (hm ▸ HR1.out.drewN m); have HX2 : Hid (Bx w2 w.heap.size #[.string ⟨#[]⟩, .int .i64 0, .int .i64 0] 51) := hm ▸ HX1.out; obtain ⟨r0, r1, r2, f0, f1, f2⟩ := bx3 HX2.out; clear hm))
      obtain ⟨q0, q1, q2, _⟩ := bx3 (bx3_set HX2.out (.string ⟨#[]⟩) (.int .i64 0) (.int .i64 0))
      refine bodyPost_ret (v := .tuple #[.agg #[.string ⟨#[]⟩, .int .i64 0, .int .i64 0], .int .i64 10]) (by simp [results, go_sem, q0, q1, q2]) rfl ?_
      rw [HQ.out]
      have hne2 : g ≠ w.heap.size := by omega
      exact ⟨rfl, grown_far1 (grown_far1 (grown_far1 (grown_trans hga HG2.out) (Nat.le_refl _) _ _) (Nat.le_refl _) _ _) (Nat.le_refl _) _ _, k1, n5, ((HR2.out.far hne2 _ _).far hne2 _ _).far hne2 _ _⟩
    · have HQ : Hid (qr B k = .ok (⟨s, (be B k1 2 : Nat), (be B (k1 + 2) 2 : Nat)⟩, k1 + 4)) := by unfold Hid qr; rw [hr]; simp only; rw [if_neg h4]
      have HN := hide' (fun (W : World) (x c : Nat) (hW : Lib.Bytes W b o B) => wnumber_at b o x 2 c B W hW)
      go_enter Try.func31, Try.ntmps31
      go_wp2_with (first
        | (go_at_call 44; refine HNm.out.mono ?_; rintro e w1 ⟨rfl, hr1, hg1⟩; have HG1 := hide' hg1; have HR1 := hide' hr1; have HX1 := hide' (HQA.out.grown hg1 hne); clear hg1 hr1)
        | (go_at_call 45; refine (take_yes g b o B.size cap k1 B.size 10 4 _ HR1.out (by omega) (Nat.le_refl _) hc (by omega) (by omega) (by omega)).mono ?_; rintro e w2 ⟨rfl, hr2, hg2⟩; have HR2 := hide' hr2; have HG2 := hide' (grown_trans HG1.out hg2); have HX2 := hide' (HX1.out.grown hg2 hne); clear hr2 hg2))
      obtain ⟨r0, r1, r2, f0, f1, f2⟩ := bx3 HX2.out
      have hB2 := hide' (hBa.blk (HG2.out.block b (by omega) (fun e => hgb (Option.some.inj e))))
      clear hwa hqa hra hBa
      go_region_with (go_at_call 15; refine Calls.mono (HN.out _ _ _ hB2.out (by omega) (by omega) (by omega)) ?_; rintro e w3 ⟨rfl, rfl⟩)
      rw [show o + k1 + 2 - o = k1 + 2 by omega]
      go_wp2
      obtain ⟨q0, q1, q2, _⟩ := bx3 (bx3_set HX2.out (.string s) (.int .i64 (be B k1 2 : Nat)) (.int .i64 (be B (k1 + 2) 2 : Nat)))
      refine bodyPost_ret (v := .tuple #[.agg #[.string s, .int .i64 (be B k1 2 : Nat), .int .i64 (be B (k1 + 2) 2 : Nat)], .int .i64 0]) (by simp [results, go_sem, q0, q1, q2]) rfl ?_
      rw [HQ.out]
      have hne2 : g ≠ w.heap.size := by omega
      exact ⟨rfl, ((HR2.out.far hne2 _ _).far hne2 _ _).far hne2 _ _, grown_trans (grown_far1 (grown_far1 (grown_far1 (grown_trans hga HG2.out) (Nat.le_refl _) _ _) (Nat.le_refl _) _ _) (Nat.le_refl _) _ _) (grown_drewN _ 1 _)⟩
end Go.Proofs.Ytinnmfidnecncaa

namespace Go.Proofs.Ytinnmfidnecncaa
set_option linter.unusedVariables false
open Go.RowKit Go.Shelf Go.Proofs.Ytinnmfidnecncaa.Nm

/-- a window of bytes, an empty one too -/
theorem run_win (b o len cap l h : Nat) (hl : l ≤ h) (hh : h ≤ cap) : ∃ x, (∀ W : World, (Instr.slice 26 (.slice (some ⟨b, o, none⟩) len cap) (some (.int .i64 (l : Int))) (some (.int .i64 (h : Int))) none).run Try.prog W = .ok (.slice (some ⟨b, x, none⟩) (h - l) (cap - l)) W) ∧ (l < h → x = o + l) := by
  by_cases he : cap = l
  · refine ⟨o, fun W => ?_, fun h2 => by omega⟩
    have ht' : Try.prog.underlying 26 = some (.slice (Try.prog.elem 26)) := by simp [Program.elem, Try.underlying26]
    have he' : Try.prog.elem 26 = 5 := by simp [Program.elem, Try.underlying26]
    rw [run_slice_lh W _ _ _ _ ht' .i64 .i64 _ _ (by omega) (by omega) (by omega), he', Try.sizeOf5]
    simp [Result.andThen, sliced, he]
  · refine ⟨o + l, fun W => ?_, fun _ => rfl⟩
    have ht' : Try.prog.underlying 26 = some (.slice (Try.prog.elem 26)) := by simp [Program.elem, Try.underlying26]
    have he' : Try.prog.elem 26 = 5 := by simp [Program.elem, Try.underlying26]
    rw [run_slice_lh W _ _ _ _ ht' .i64 .i64 _ _ (by omega) (by omega) (by omega), he', Try.sizeOf5]
    simp [Result.andThen, sliced, Addr.add, he]
theorem conv_win {W : World} {b o x l n c : Nat} {B : ByteArray} (h : Lib.Bytes W b o B) (hx : 0 < n → x = o + l) (hn : l + n ≤ B.size) :
    (convert 26 9 (.slice (some ⟨b, x, none⟩) n c)).run Try.prog W = .ok (.string (B.extract l (l + n))) W := by
  have hz : (B.extract l (l + n)).size = n := by simp [ByteArray.size_extract]; omega
  have hlen : (B.extract l (l + n)).data.toList.length = n := by rw [Array.length_toList]; exact hz
  have := run_convert_bytes_back (P := Try.prog) W 26 9 5 ⟨b, x, none⟩ c (B.extract l (l + n)).data.toList Try.underlying26 Try.underlying5 Try.underlying9 (fun j hj => by
    have hj' : j < n := by omega
    have hw := Bytes_win h hn j (.int .u8 (((B.extract l (l + n)).data.toList[j].toNat : Nat) : Int)) (by unfold Go.Lib.strCells; rw [List.getElem?_map, List.getElem?_eq_getElem hj]; rfl)
    rw [hx (by omega)]
    exact hw)
  rw [hlen, Array.toArray_toList] at this
  exact this

set_option maxRecDepth 100000 in
set_option maxHeartbeats 1000000 in
/-- take, nothing -/
theorem take_none (g b o len cap : Nat) (k en sh : Nat) (w : World) (h : Rr w g (.slice (some ⟨b, o, none⟩) len cap) k en sh) (hE : en ≤ 1048576) (hk : k ≤ en) (hL : en ≤ len) (hc : len ≤ cap) :
    Calls Try.prog 45 #[.pointer (some ⟨g, 0, none⟩), .int .i64 ((0 : Nat) : Int)] w fun e w' => ∃ x, e = .returned (.tuple #[.slice (some ⟨b, x, none⟩) 0 (cap - k), .int .i64 0]) ∧ Rr w' g (.slice (some ⟨b, o, none⟩) len cap) k en sh ∧ w.grownBy w' (some g) := by
  have c1 := h.c1
  have c2 := h.c2
  have c3 := h.c3
  obtain ⟨x, hsl, _⟩ := run_win b o len cap k k (Nat.le_refl _) (by omega)
  rw [Nat.sub_self] at hsl
  go_enter Try.func45, Try.ntmps45
  go_wp2_with fail
  go_quiet (fail)
  have hq : Rr (w.drewN nq) g _ k en sh := h.drewN nq
  have gq := hide' (grown_drewN w nq (some g))
  generalize w.drewN nq = wq at *
  clear c1 c2 c3
  have c1 := hq.c1
  have f1 := hq.free 1
  go_wp2_with fail
  have hs := hq.set1 k
  have gs := hide' (grown_trans gq.out (grown_set wq g 1 (.int .i64 (k : Int))))
  generalize wq.setCell ⟨g, 1, none⟩ (.int .i64 (k : Int)) = ws at *
  clear c1 f1
  have c0 := hs.c0
  have c1 := hs.c1
  go_quiet (fail)
  go_wp2
  go_ret2
  exact ⟨x, rfl, hs, grown_trans gs.out (grown_drewN _ _ _)⟩
end Go.Proofs.Ytinnmfidnecncaa

namespace Go.Proofs.Ytinnmfidnecncaa
set_option linter.unusedVariables false
open Go.RowKit Go.Shelf Go.Proofs.Ytinnmfidnecncaa.Nm

/-- take, where there is enough, nothing too -/
theorem take_any (g b o len cap : Nat) (k en sh n : Nat) (w : World) (h : Rr w g (.slice (some ⟨b, o, none⟩) len cap) k en sh) (hE : en ≤ 1048576) (hL : en ≤ len) (hc : len ≤ cap) (hn : n ≤ 65535) (hno : k + n ≤ en) :
    Calls Try.prog 45 #[.pointer (some ⟨g, 0, none⟩), .int .i64 (n : Int)] w fun e w' => ∃ x, e = .returned (.tuple #[.slice (some ⟨b, x, none⟩) n (cap - k), .int .i64 0]) ∧ (0 < n → x = o + k) ∧ Rr w' g (.slice (some ⟨b, o, none⟩) len cap) (k + n) en sh ∧ w.grownBy w' (some g) := by
  by_cases h0 : n = 0
  · subst h0
    refine (take_none g b o len cap k en sh w h hE hno hL hc).mono ?_
    rintro e w' ⟨x, rfl, h1, h2⟩
    exact ⟨x, rfl, fun h => by omega, h1, h2⟩
  · refine (take_yes g b o len cap k en sh n w h hE hL hc hn hno (by omega)).mono ?_
    rintro e w' ⟨rfl, h1, h2⟩
    exact ⟨_, rfl, fun _ => rfl, h1, h2⟩
def dEnd (r : Except Nat ByteArray) (g : Nat) (w : World) (e : Ending) (w' : World) : Prop := match r with
  | .ok d => e = .returned (.tuple #[.string d, .int .i64 0]) ∧ w.grownBy w' (some g)
  | .error x => e = .returned (.tuple #[.string ⟨#[]⟩, .int .i64 (x : Int)]) ∧ w.grownBy w' (some g)
theorem shp_le (t : Int) : (shp t).1 ≤ 2 ∧ (shp t).2 ≤ 2 := by
  unfold shp; split
  · simp
  · split
    · simp
    · split <;> simp

set_option maxRecDepth 100000 in
set_option maxHeartbeats 4000000 in
/-- (*reader).data -/
theorem rdata_any (g b o cap k en : Nat) (t : Int) (B : ByteArray) (w : World) (h : Rr w g (.slice (some ⟨b, o, none⟩) B.size cap) k en 7) (hB : Lib.Bytes w b o B) (hb : b < w.heap.size) (hgb : b ≠ g) (hk : k ≤ en) (hE : en ≤ B.size) (hS : B.size ≤ 65535) (hc : B.size ≤ cap) :
    Calls Try.prog 46 #[.pointer (some ⟨g, 0, none⟩), .int .i64 t] w (dEnd (dr B k en t) g w) := by
  have hg := h.lt
  have c1 := h.c1
  have c2 := h.c2
  by_cases he : k = en
  · have hkb : ((k : Int) == (en : Int)) = true := by rw [beq_iff_eq]; omega
    have HQ : Hid (dr B k en t = .ok ⟨#[]⟩) := by unfold Hid dr; rw [if_pos he]; rfl
    go_enter Try.func46, Try.ntmps46
    go_wp2_with fail
    go_quiet (fail)
    go_wp2
    go_ret2
    rw [HQ.out]
    exact ⟨rfl, grown_drewN _ _ _⟩
  · have hkb : ((k : Int) == (en : Int)) = false := by rw [beq_eq_false_iff_ne]; omega
    obtain ⟨hA2, hN2⟩ := shp_le t
    have HSh := hide' (fun w => shapeOf_any t w)
    have HD : Hid (dr B k en t = if en < k + (shp t).1 then .error 7 else nmR B en (shp t).2 (k + (shp t).1) (B.extract k (k + (shp t).1))) := by unfold Hid dr; rw [if_neg he]
    generalize (shp t).1 = A at *
    generalize (shp t).2 = N at *
    by_cases hlo : en < k + A
    · have HQ : Hid (dr B k en t = .error 7) := by unfold Hid; rw [HD.out, if_pos hlo]
      go_enter Try.func46, Try.ntmps46
      go_wp2_with fail
      go_quiet (fail)
      have hq : Rr (w.drewN nq) g _ k en 7 := h.drewN nq
      have HGq := hide' (grown_drewN w nq (some g))
      generalize w.drewN nq = wq at *
      go_wp2_with (first
        | (go_at_call 51; refine (HSh.out _).mono ?_; rintro e w1 ⟨rfl, hB1⟩; have HR1 := hide' (hq.below hB1); have HG1 := hide' (grown_trans HGq.out (grown_below hB1 _)); clear hB1)
        | (go_at_call 45; refine (take_no g _ k en 7 A _ (Rr.grown (b := g + 1) HR1.out (World.grownBy_alloc _ _ _) (by omega)) hk (by omega) (by omega) hlo).mono ?_; rintro e w2 ⟨rfl, m, hm⟩; have HG2 := hide' (hm ▸ grown_trans (grown_trans HG1.out (World.grownBy_alloc _ _ _)) (grown_drewN _ m _)); clear hm))
      go_ret2
      rw [HQ.out]
      exact ⟨rfl, HG2.out⟩
    · have HQ : Hid (dr B k en t = nmR B en N (k + A) (B.extract k (k + A))) := by unfold Hid; rw [HD.out, if_neg hlo]
      go_enter Try.func46, Try.ntmps46
      go_wp2_with fail
      go_quiet (fail)
      have hq : Rr (w.drewN nq) g _ k en 7 := h.drewN nq
      have HGq := hide' (grown_drewN w nq (some g))
      generalize w.drewN nq = wq at *
      go_wp2_with (first
        | (go_at_call 51; refine (HSh.out _).mono ?_; rintro e w1 ⟨rfl, hB1⟩; have HR1 := hide' (hq.below hB1); have HG1 := hide' (grown_trans HGq.out (grown_below hB1 _)); clear hB1)
        | (go_at_call 45; refine (take_any g b o B.size cap k en 7 A _ (Rr.grown (b := g + 1) HR1.out (World.grownBy_alloc _ _ _) (by omega)) (by omega) hE hc (by omega) (by omega)).mono ?_; rintro e w2 ⟨x, rfl, hx2, hr2, hg2⟩; have HR2 := hide' hr2; have HG2 := hide' (grown_trans (grown_trans HG1.out (World.grownBy_alloc _ _ _)) hg2); have hcv := conv_win (c := cap - k) (hB.blk (HG2.out.block b hb (fun e => hgb (Option.some.inj e)))) hx2 (show k + A ≤ B.size by omega); have hs1 : w2.cell? ⟨w1.heap.size, 1, none⟩ = some (.int .i64 (N : Int)) := Bx.cell (Bx.grown (cs := #[.int .i64 (A : Int), .int .i64 (N : Int)]) (World.alloc_heap_new w1 _) hg2 (fun e => by have := HR1.out.lt; injection e; omega)) rfl; clear hr2 hg2))
      clear hcv hs1 hq c1 c2 HSh HD
      go_loopw [9, 37] (fun sv iv wr => ∃ (j k' : Nat) (acc : ByteArray), iv = .int .i64 (j : Int) ∧ sv = .string acc ∧ j ≤ N ∧ Rr wr g (.slice (some ⟨b, o, none⟩) B.size cap) k' en 7 ∧ k' ≤ en ∧ w.grownBy wr (some g) ∧ acc.size ≤ 2 + 255 * j ∧ Hid (dr B k en t = nmR B en (N - j) k' acc)) (fun _ iv _ => N - (intOf iv).toNat)
      case atStart => exact ⟨0, k + A, _, rfl, rfl, Nat.zero_le _, HR2.out, by omega, HG2.out, by simp [ByteArray.size_extract]; omega, HQ⟩
      case round =>
        obtain ⟨j, k', acc, rfl, rfl, hj, hr, hk', hgr, hac, HR⟩ := hrel
        have hBr := hide' (hB.blk (hgr.block b hb (fun e => hgb (Option.some.inj e))))
        by_cases hlt : j < N
        · have HNm := hide' (rname_any g b o cap k' en 7 B wr hr hBr.out (by have := hgr.size; omega) hgb hk' hE hS hc (.inl rfl))
          obtain ⟨m, hm⟩ : ∃ m, N - j = m + 1 := ⟨N - j - 1, by omega⟩
          cases hn : rn B k' k' en 7 0 with
          | error x =>
            have HX : Hid (dr B k en t = .error x) := by unfold Hid; rw [HR.out, hm, nmR, hn]
            have hx : ((x : Int) != 0) = true := by
              have := rn_err _ _ _ _ _ _ hn
              simp [bne_iff_ne]; omega
            rw [hn] at HNm
            go_wp2_with (go_at_call 44; refine HNm.out.mono ?_; rintro e w3 ⟨rfl, hg3, _⟩)
            go_ret2
            rw [HX.out]
            exact ⟨rfl, grown_trans hgr hg3⟩
          | ok r =>
            obtain ⟨s, k2⟩ := r
            obtain ⟨n1, n2, n3, n4, n5⟩ := rn_name hE hn
            have HX : Hid (dr B k en t = nmR B en (N - (j + 1)) k2 (acc ++ s)) := by unfold Hid; rw [HR.out, hm, nmR, hn, show N - (j + 1) = m by omega]
            have hadd : ∀ W : World, (Op.stringOp .add acc s).run Try.prog W = .ok (.string (acc ++ s)) W := fun W => run_string_add_sum W _ _ (by omega)
            rw [hn] at HNm
            go_wp2_with (go_at_call 44; refine HNm.out.mono ?_; rintro e w3 ⟨rfl, hr3, hg3⟩)
            go_roundw
            case rel => exact ⟨j + 1, k2, acc ++ s, by go_num, rfl, by omega, hr3, n5, grown_trans hgr hg3, by rw [ByteArray.size_append]; omega, HX⟩
            case measure => simp [intOf]; omega
        · have HX : Hid (dr B k en t = .ok (acc ++ B.extract k' en)) := by unfold Hid; rw [HR.out, show N - j = 0 by omega, nmR]
          have c0 := hr.c0
          have c1 := hr.c1
          have c2 := hr.c2
          obtain ⟨x, hsl, hx⟩ := run_win b o B.size cap k' en hk' (by omega)
          have hcv : ∀ m, (convert 26 9 (.slice (some ⟨b, x, none⟩) (en - k') (cap - k'))).run Try.prog (wr.drewN m) = .ok (.string (B.extract k' en)) (wr.drewN m) := fun m => by
            have := conv_win (W := wr.drewN m) (c := cap - k') (n := en - k') (l := k') (hBr.out.drw m) (fun h => hx (by omega)) (by omega)
            rw [show k' + (en - k') = en by omega] at this
            exact this
          have hez : (B.extract k' en).size ≤ B.size := by simp [ByteArray.size_extract]; omega
          have hadd : ∀ W : World, (Op.stringOp .add acc (B.extract k' en)).run Try.prog W = .ok (.string (acc ++ B.extract k' en)) W := fun W => run_string_add_sum W _ _ (by omega)
          clear hez
          go_wp2_with fail
          go_quiet (fail)
          go_wp2
          go_ret2
          rw [HX.out]
          exact ⟨rfl, grown_trans hgr (grown_drewN _ _ _)⟩
end Go.Proofs.Ytinnmfidnecncaa
