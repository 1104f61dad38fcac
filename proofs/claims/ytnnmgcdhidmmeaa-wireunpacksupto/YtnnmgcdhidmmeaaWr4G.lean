import Derived.Test.YtnnmgcdhidmmeaaWr1
import Derived.Test.YtnnmgcdhidmmeaaWu17
import Derived.Deep.RegionHeldLaw
import Derived.Deep.AppendLies
import Derived.Deep.RegionLaw
namespace Go.Proofs.Ytnnmgcdhidmmeaa
set_option linter.unusedVariables false
open Go.RowKit Go.Shelf Go.Proofs.Ytnnmgcdhidmmeaa.Nm

/-- the result's box and the empty one's -/
structure Um (w wx : World) (M N : Nat) : Prop where
  r : Bx wx w.heap.size #[.int .i64 0, .bool false, .int .i64 0, .bool false, .bool false, .bool false, .bool false, .bool false, .bool false, .int .i64 0, .slice none 0 0, .slice none 0 0, .slice none 0 0, .slice none 0 0] 26
  n : Bx wx N #[.int .i64 0, .bool false, .int .i64 0, .bool false, .bool false, .bool false, .bool false, .bool false, .bool false, .int .i64 0, .slice none 0 0, .slice none 0 0, .slice none 0 0, .slice none 0 0] 26
  bl : Below w.heap.size w wx
  hM : w.heap.size < M
  hN : M < N
theorem Um.apart {w wx w2 : World} {M N : Nat} (h : Um w wx M N) {r : Option Nat} (hg : wx.grownBy w2 r) (hr : ∀ q, r = some q → q = M ∨ N < q) : Um w w2 M N := by
  have h1 := h.hM
  have h2 := h.hN
  exact ⟨h.r.grown hg (fun e => by have := hr _ e; omega), h.n.grown hg (fun e => by have := hr _ e; omega), h.bl.grown hg h.bl.size (fun q e => by have := hr _ e; omega), h1, h2⟩

set_option maxRecDepth 100000 in
set_option maxHeartbeats 8000000 in
/-- gazetteerref2.UnpackMessage, where there is no head -/
theorem refUnpack_short (p : Option Addr) (cap : Nat) (B : ByteArray) (w : World) (hS : B.size ≤ 4294967296) (hno : 65535 < B.size ∨ B.size < 12) :
    Calls Try.prog 5 #[.slice p B.size cap] w (upEnd B w) := by
  obtain ⟨wa, hwa⟩ : ∃ wa, w.alloc (.cells #[.int .i64 0, .bool false, .int .i64 0, .bool false, .bool false, .bool false, .bool false, .bool false, .bool false, .int .i64 0, .slice none 0 0, .slice none 0 0, .slice none 0 0, .slice none 0 0] 26) = wa := ⟨_, rfl⟩
  obtain ⟨wb, hwb⟩ : ∃ wb, wa.alloc (.cells #[.int .i64 0, .bool false, .int .i64 0, .bool false, .bool false, .bool false, .bool false, .bool false, .bool false, .int .i64 0, .slice none 0 0, .slice none 0 0, .slice none 0 0, .slice none 0 0] 26) = wb := ⟨_, rfl⟩
  obtain ⟨wc, hwc⟩ : ∃ wc, wb.alloc (.cells #[.int .i64 0, .bool false, .int .i64 0, .bool false, .bool false, .bool false, .bool false, .bool false, .bool false, .int .i64 0, .slice none 0 0, .slice none 0 0, .slice none 0 0, .slice none 0 0] 26) = wc := ⟨_, rfl⟩
  have H0 : Hid (Um w wc wa.heap.size wb.heap.size) := by
    have hza : wa.heap.size = w.heap.size + 1 := by rw [← hwa]; simp
    have hzb : wb.heap.size = w.heap.size + 2 := by rw [← hwb]; simp [hza]
    have h1 : Bx wa w.heap.size #[.int .i64 0, .bool false, .int .i64 0, .bool false, .bool false, .bool false, .bool false, .bool false, .bool false, .int .i64 0, .slice none 0 0, .slice none 0 0, .slice none 0 0, .slice none 0 0] 26 := hwa ▸ World.alloc_heap_new w _
    have h2 : Bx wb wa.heap.size #[.int .i64 0, .bool false, .int .i64 0, .bool false, .bool false, .bool false, .bool false, .bool false, .bool false, .int .i64 0, .slice none 0 0, .slice none 0 0, .slice none 0 0, .slice none 0 0] 26 := hwb ▸ World.alloc_heap_new wa _
    have h3 : Bx wc wb.heap.size #[.int .i64 0, .bool false, .int .i64 0, .bool false, .bool false, .bool false, .bool false, .bool false, .bool false, .int .i64 0, .slice none 0 0, .slice none 0 0, .slice none 0 0, .slice none 0 0] 26 := hwc ▸ World.alloc_heap_new wb _
    have g2 : wa.grownBy wb none := hwb ▸ World.grownBy_alloc _ _ _
    have g3 : wb.grownBy wc none := hwc ▸ World.grownBy_alloc _ _ _
    refine ⟨(h1.grown g2 (by simp)).grown g3 (by simp), h3, ?_, by omega, by omega⟩
    rw [← hwc, ← hwb, ← hwa]; exact (((Below.refl _ w).alloc (Nat.le_refl _) _).alloc (by simp) _).alloc (by simp; omega) _
  obtain ⟨r0, r1, r2, r3, r4, r5, r6, r7, r8, r9, r10, r11, r12, r13⟩ := bx14 H0.out.r; obtain ⟨f0, f1, f2, f3, f4, f5, f6, f7, f8, f9, f10, f11, f12, f13⟩ := bx14_free H0.out.r; obtain ⟨m0, m1, m2, m3, m4, m5, m6, m7, m8, m9, m10, m11, m12, m13⟩ := bx14 H0.out.n
  by_cases h1 : 65535 < B.size
  · have HX : Hid (upk B = .error (12, 0)) := by unfold Hid upk; rw [if_pos h1]
    go_enter Try.func5, Try.ntmps5
    go_wp2_with fail
    obtain ⟨q0, q1, q2, q3, q4, q5, q6, q7, q8, q9, q10, q11, q12, q13⟩ := bx14 (bx14_set H0.out.r (.int .i64 0) (.bool false) (.int .i64 0) (.bool false) (.bool false) (.bool false) (.bool false) (.bool false) (.bool false) (.int .i64 0) (.slice none 0 0) (.slice none 0 0) (.slice none 0 0) (.slice none 0 0))
    unfold set14 at q0 q1 q2 q3 q4 q5 q6 q7 q8 q9 q10 q11 q12 q13
    refine bodyPost_ret (v := .tuple #[.agg mz, .int .i64 0, .int .i64 12]) (by simp [results, go_sem, mz, q0, q1, q2, q3, q4, q5, q6, q7, q8, q9, q10, q11, q12, q13]) rfl ?_
    unfold upEnd
    rw [HX.out]
    exact ⟨rfl, below14 H0.out.bl (Nat.le_refl _) H0.out.bl.size (.int .i64 0) (.bool false) (.int .i64 0) (.bool false) (.bool false) (.bool false) (.bool false) (.bool false) (.bool false) (.int .i64 0) (.slice none 0 0) (.slice none 0 0) (.slice none 0 0) (.slice none 0 0)⟩
  · have h2 : B.size < 12 := by omega
    have HX : Hid (upk B = .error (10, B.size)) := by unfold Hid upk; rw [if_neg h1, if_pos h2]
    go_enter Try.func5, Try.ntmps5
    go_wp2_with fail
    obtain ⟨q0, q1, q2, q3, q4, q5, q6, q7, q8, q9, q10, q11, q12, q13⟩ := bx14 (bx14_set H0.out.r (.int .i64 0) (.bool false) (.int .i64 0) (.bool false) (.bool false) (.bool false) (.bool false) (.bool false) (.bool false) (.int .i64 0) (.slice none 0 0) (.slice none 0 0) (.slice none 0 0) (.slice none 0 0))
    unfold set14 at q0 q1 q2 q3 q4 q5 q6 q7 q8 q9 q10 q11 q12 q13
    refine bodyPost_ret (v := .tuple #[.agg mz, .int .i64 (B.size : Int), .int .i64 10]) (by simp [results, go_sem, mz, q0, q1, q2, q3, q4, q5, q6, q7, q8, q9, q10, q11, q12, q13]) rfl ?_
    unfold upEnd
    rw [HX.out]
    exact ⟨rfl, below14 H0.out.bl (Nat.le_refl _) H0.out.bl.size (.int .i64 0) (.bool false) (.int .i64 0) (.bool false) (.bool false) (.bool false) (.bool false) (.bool false) (.bool false) (.int .i64 0) (.slice none 0 0) (.slice none 0 0) (.slice none 0 0) (.slice none 0 0)⟩

set_option maxRecDepth 100000 in
set_option maxHeartbeats 8000000 in
/-- gazetteerref2.UnpackMessage, where the signs aren't right -/
theorem refUnpack_form (b o cap : Nat) (B : ByteArray) (w : World) (hB : Lib.Bytes w b o B) (hb : b < w.heap.size) (h12 : 12 ≤ B.size) (hS : B.size ≤ 65535) (hc : B.size ≤ cap) (hs : sg (be B 2 2) 6 = true) :
    Calls Try.prog 5 #[.slice (some ⟨b, o, none⟩) B.size cap] w (upEnd B w) := by
  obtain ⟨wa, hwa⟩ : ∃ wa, w.alloc (.cells #[.int .i64 0, .bool false, .int .i64 0, .bool false, .bool false, .bool false, .bool false, .bool false, .bool false, .int .i64 0, .slice none 0 0, .slice none 0 0, .slice none 0 0, .slice none 0 0] 26) = wa := ⟨_, rfl⟩
  obtain ⟨wb, hwb⟩ : ∃ wb, wa.alloc (.cells #[.int .i64 0, .bool false, .int .i64 0, .bool false, .bool false, .bool false, .bool false, .bool false, .bool false, .int .i64 0, .slice none 0 0, .slice none 0 0, .slice none 0 0, .slice none 0 0] 26) = wb := ⟨_, rfl⟩
  obtain ⟨wc, hwc⟩ : ∃ wc, wb.alloc (.cells #[.int .i64 0, .bool false, .int .i64 0, .bool false, .bool false, .bool false, .bool false, .bool false, .bool false, .int .i64 0, .slice none 0 0, .slice none 0 0, .slice none 0 0, .slice none 0 0] 26) = wc := ⟨_, rfl⟩
  have H0 : Hid (Um w wc wa.heap.size wb.heap.size) := by
    have hza : wa.heap.size = w.heap.size + 1 := by rw [← hwa]; simp
    have hzb : wb.heap.size = w.heap.size + 2 := by rw [← hwb]; simp [hza]
    have h1 : Bx wa w.heap.size #[.int .i64 0, .bool false, .int .i64 0, .bool false, .bool false, .bool false, .bool false, .bool false, .bool false, .int .i64 0, .slice none 0 0, .slice none 0 0, .slice none 0 0, .slice none 0 0] 26 := hwa ▸ World.alloc_heap_new w _
    have h2 : Bx wb wa.heap.size #[.int .i64 0, .bool false, .int .i64 0, .bool false, .bool false, .bool false, .bool false, .bool false, .bool false, .int .i64 0, .slice none 0 0, .slice none 0 0, .slice none 0 0, .slice none 0 0] 26 := hwb ▸ World.alloc_heap_new wa _
    have h3 : Bx wc wb.heap.size #[.int .i64 0, .bool false, .int .i64 0, .bool false, .bool false, .bool false, .bool false, .bool false, .bool false, .int .i64 0, .slice none 0 0, .slice none 0 0, .slice none 0 0, .slice none 0 0] 26 := hwc ▸ World.alloc_heap_new wb _
    have g2 : wa.grownBy wb none := hwb ▸ World.grownBy_alloc _ _ _
    have g3 : wb.grownBy wc none := hwc ▸ World.grownBy_alloc _ _ _
    refine ⟨(h1.grown g2 (by simp)).grown g3 (by simp), h3, ?_, by omega, by omega⟩
    rw [← hwc, ← hwb, ← hwa]; exact (((Below.refl _ w).alloc (Nat.le_refl _) _).alloc (by simp) _).alloc (by simp; omega) _
  obtain ⟨r0, r1, r2, r3, r4, r5, r6, r7, r8, r9, r10, r11, r12, r13⟩ := bx14 H0.out.r; obtain ⟨f0, f1, f2, f3, f4, f5, f6, f7, f8, f9, f10, f11, f12, f13⟩ := bx14_free H0.out.r; obtain ⟨m0, m1, m2, m3, m4, m5, m6, m7, m8, m9, m10, m11, m12, m13⟩ := bx14 H0.out.n
  have HX : Hid (upk B = .error (8, 2)) := by unfold Hid upk; rw [if_neg (by omega), if_neg (by omega), if_pos hs]
  obtain ⟨v, hv⟩ : ∃ v, be B 2 2 = v := ⟨_, rfl⟩
  have hvl : v < 65536 := hv ▸ be2_lt _ _
  have hbit : (((v : Int) / 64 % 2) == 1) = true := by rw [hv] at hs; have := of_decide_eq_true hs; rw [beq_iff_eq]; simp at this; omega
  have HN := hide' (fun (W : World) => refValue_win B 2 2 W (by omega) (by omega))
  rw [hv] at HN
  have hby : Lib.Bytes wc b o B := hB.blk (H0.out.bl.block b hb)
  have hcv := conv_win (W := wc) (c := cap - 2) (n := 2) (l := 2) (x := o + 2) hby (fun _ => rfl) (by omega)
  clear hv hs
  go_enter Try.func5, Try.ntmps5
  go_wp2_with (go_at_call 12; refine (HN.out _).mono ?_; rintro e w1 ⟨rfl, h1⟩; have h1' := h1.symm; subst h1')
  obtain ⟨q0, q1, q2, q3, q4, q5, q6, q7, q8, q9, q10, q11, q12, q13⟩ := bx14 (bx14_set H0.out.r (.int .i64 0) (.bool false) (.int .i64 0) (.bool false) (.bool false) (.bool false) (.bool false) (.bool false) (.bool false) (.int .i64 0) (.slice none 0 0) (.slice none 0 0) (.slice none 0 0) (.slice none 0 0))
  unfold set14 at q0 q1 q2 q3 q4 q5 q6 q7 q8 q9 q10 q11 q12 q13
  refine bodyPost_ret (v := .tuple #[.agg mz, .int .i64 2, .int .i64 8]) (by simp [results, go_sem, mz, q0, q1, q2, q3, q4, q5, q6, q7, q8, q9, q10, q11, q12, q13]) rfl ?_
  unfold upEnd
  rw [HX.out]
  exact ⟨rfl, below14 H0.out.bl (Nat.le_refl _) H0.out.bl.size (.int .i64 0) (.bool false) (.int .i64 0) (.bool false) (.bool false) (.bool false) (.bool false) (.bool false) (.bool false) (.int .i64 0) (.slice none 0 0) (.slice none 0 0) (.slice none 0 0) (.slice none 0 0)⟩

end Go.Proofs.Ytnnmgcdhidmmeaa

namespace Go.Proofs.Ytnnmgcdhidmmeaa
set_option linter.unusedVariables false
open Go.RowKit Go.Shelf Go.Proofs.Ytnnmgcdhidmmeaa.Nm

/-- the head's ten numbers and signs are set -/
def set10 (w : World) (M id op rc v : Nat) : World := ((((((((((w.setCell ⟨M, 0, none⟩ (.int .i64 (id : Int))).setCell ⟨M, 1, none⟩ (.bool (sg v 15))).setCell ⟨M, 2, none⟩ (.int .i64 (op : Int))).setCell ⟨M, 3, none⟩ (.bool (sg v 10))).setCell ⟨M, 4, none⟩ (.bool (sg v 9))).setCell ⟨M, 5, none⟩ (.bool (sg v 8))).setCell ⟨M, 6, none⟩ (.bool (sg v 7))).setCell ⟨M, 7, none⟩ (.bool (sg v 5))).setCell ⟨M, 8, none⟩ (.bool (sg v 4))).setCell ⟨M, 9, none⟩ (.int .i64 (rc : Int)))
theorem bx10_set {w : World} {M : Nat} (id op rc v : Nat) (h : Bx w M #[.int .i64 0, .bool false, .int .i64 0, .bool false, .bool false, .bool false, .bool false, .bool false, .bool false, .int .i64 0, .slice none 0 0, .slice none 0 0, .slice none 0 0, .slice none 0 0] 26) : Bx (set10 w M id op rc v) M (mcs id op rc v (.slice none 0 0) (.slice none 0 0) (.slice none 0 0) (.slice none 0 0)) 26 := by
  have h0 : Bx (w.setCell ⟨M, 0, none⟩ (.int .i64 (id : Int))) M #[.int .i64 (id : Int), .bool false, .int .i64 0, .bool false, .bool false, .bool false, .bool false, .bool false, .bool false, .int .i64 0, .slice none 0 0, .slice none 0 0, .slice none 0 0, .slice none 0 0] 26 := h.set 0 (.int .i64 (id : Int))
  have h1 : Bx ((w.setCell ⟨M, 0, none⟩ (.int .i64 (id : Int))).setCell ⟨M, 1, none⟩ (.bool (sg v 15))) M #[.int .i64 (id : Int), .bool (sg v 15), .int .i64 0, .bool false, .bool false, .bool false, .bool false, .bool false, .bool false, .int .i64 0, .slice none 0 0, .slice none 0 0, .slice none 0 0, .slice none 0 0] 26 := h0.set 1 (.bool (sg v 15))
  have h2 : Bx (((w.setCell ⟨M, 0, none⟩ (.int .i64 (id : Int))).setCell ⟨M, 1, none⟩ (.bool (sg v 15))).setCell ⟨M, 2, none⟩ (.int .i64 (op : Int))) M #[.int .i64 (id : Int), .bool (sg v 15), .int .i64 (op : Int), .bool false, .bool false, .bool false, .bool false, .bool false, .bool false, .int .i64 0, .slice none 0 0, .slice none 0 0, .slice none 0 0, .slice none 0 0] 26 := h1.set 2 (.int .i64 (op : Int))
  have h3 : Bx ((((w.setCell ⟨M, 0, none⟩ (.int .i64 (id : Int))).setCell ⟨M, 1, none⟩ (.bool (sg v 15))).setCell ⟨M, 2, none⟩ (.int .i64 (op : Int))).setCell ⟨M, 3, none⟩ (.bool (sg v 10))) M #[.int .i64 (id : Int), .bool (sg v 15), .int .i64 (op : Int), .bool (sg v 10), .bool false, .bool false, .bool false, .bool false, .bool false, .int .i64 0, .slice none 0 0, .slice none 0 0, .slice none 0 0, .slice none 0 0] 26 := h2.set 3 (.bool (sg v 10))
  have h4 : Bx (((((w.setCell ⟨M, 0, none⟩ (.int .i64 (id : Int))).setCell ⟨M, 1, none⟩ (.bool (sg v 15))).setCell ⟨M, 2, none⟩ (.int .i64 (op : Int))).setCell ⟨M, 3, none⟩ (.bool (sg v 10))).setCell ⟨M, 4, none⟩ (.bool (sg v 9))) M #[.int .i64 (id : Int), .bool (sg v 15), .int .i64 (op : Int), .bool (sg v 10), .bool (sg v 9), .bool false, .bool false, .bool false, .bool false, .int .i64 0, .slice none 0 0, .slice none 0 0, .slice none 0 0, .slice none 0 0] 26 := h3.set 4 (.bool (sg v 9))
  have h5 : Bx ((((((w.setCell ⟨M, 0, none⟩ (.int .i64 (id : Int))).setCell ⟨M, 1, none⟩ (.bool (sg v 15))).setCell ⟨M, 2, none⟩ (.int .i64 (op : Int))).setCell ⟨M, 3, none⟩ (.bool (sg v 10))).setCell ⟨M, 4, none⟩ (.bool (sg v 9))).setCell ⟨M, 5, none⟩ (.bool (sg v 8))) M #[.int .i64 (id : Int), .bool (sg v 15), .int .i64 (op : Int), .bool (sg v 10), .bool (sg v 9), .bool (sg v 8), .bool false, .bool false, .bool false, .int .i64 0, .slice none 0 0, .slice none 0 0, .slice none 0 0, .slice none 0 0] 26 := h4.set 5 (.bool (sg v 8))
  have h6 : Bx (((((((w.setCell ⟨M, 0, none⟩ (.int .i64 (id : Int))).setCell ⟨M, 1, none⟩ (.bool (sg v 15))).setCell ⟨M, 2, none⟩ (.int .i64 (op : Int))).setCell ⟨M, 3, none⟩ (.bool (sg v 10))).setCell ⟨M, 4, none⟩ (.bool (sg v 9))).setCell ⟨M, 5, none⟩ (.bool (sg v 8))).setCell ⟨M, 6, none⟩ (.bool (sg v 7))) M #[.int .i64 (id : Int), .bool (sg v 15), .int .i64 (op : Int), .bool (sg v 10), .bool (sg v 9), .bool (sg v 8), .bool (sg v 7), .bool false, .bool false, .int .i64 0, .slice none 0 0, .slice none 0 0, .slice none 0 0, .slice none 0 0] 26 := h5.set 6 (.bool (sg v 7))
  have h7 : Bx ((((((((w.setCell ⟨M, 0, none⟩ (.int .i64 (id : Int))).setCell ⟨M, 1, none⟩ (.bool (sg v 15))).setCell ⟨M, 2, none⟩ (.int .i64 (op : Int))).setCell ⟨M, 3, none⟩ (.bool (sg v 10))).setCell ⟨M, 4, none⟩ (.bool (sg v 9))).setCell ⟨M, 5, none⟩ (.bool (sg v 8))).setCell ⟨M, 6, none⟩ (.bool (sg v 7))).setCell ⟨M, 7, none⟩ (.bool (sg v 5))) M #[.int .i64 (id : Int), .bool (sg v 15), .int .i64 (op : Int), .bool (sg v 10), .bool (sg v 9), .bool (sg v 8), .bool (sg v 7), .bool (sg v 5), .bool false, .int .i64 0, .slice none 0 0, .slice none 0 0, .slice none 0 0, .slice none 0 0] 26 := h6.set 7 (.bool (sg v 5))
  have h8 : Bx (((((((((w.setCell ⟨M, 0, none⟩ (.int .i64 (id : Int))).setCell ⟨M, 1, none⟩ (.bool (sg v 15))).setCell ⟨M, 2, none⟩ (.int .i64 (op : Int))).setCell ⟨M, 3, none⟩ (.bool (sg v 10))).setCell ⟨M, 4, none⟩ (.bool (sg v 9))).setCell ⟨M, 5, none⟩ (.bool (sg v 8))).setCell ⟨M, 6, none⟩ (.bool (sg v 7))).setCell ⟨M, 7, none⟩ (.bool (sg v 5))).setCell ⟨M, 8, none⟩ (.bool (sg v 4))) M #[.int .i64 (id : Int), .bool (sg v 15), .int .i64 (op : Int), .bool (sg v 10), .bool (sg v 9), .bool (sg v 8), .bool (sg v 7), .bool (sg v 5), .bool (sg v 4), .int .i64 0, .slice none 0 0, .slice none 0 0, .slice none 0 0, .slice none 0 0] 26 := h7.set 8 (.bool (sg v 4))
  have h9 : Bx ((((((((((w.setCell ⟨M, 0, none⟩ (.int .i64 (id : Int))).setCell ⟨M, 1, none⟩ (.bool (sg v 15))).setCell ⟨M, 2, none⟩ (.int .i64 (op : Int))).setCell ⟨M, 3, none⟩ (.bool (sg v 10))).setCell ⟨M, 4, none⟩ (.bool (sg v 9))).setCell ⟨M, 5, none⟩ (.bool (sg v 8))).setCell ⟨M, 6, none⟩ (.bool (sg v 7))).setCell ⟨M, 7, none⟩ (.bool (sg v 5))).setCell ⟨M, 8, none⟩ (.bool (sg v 4))).setCell ⟨M, 9, none⟩ (.int .i64 (rc : Int))) M #[.int .i64 (id : Int), .bool (sg v 15), .int .i64 (op : Int), .bool (sg v 10), .bool (sg v 9), .bool (sg v 8), .bool (sg v 7), .bool (sg v 5), .bool (sg v 4), .int .i64 (rc : Int), .slice none 0 0, .slice none 0 0, .slice none 0 0, .slice none 0 0] 26 := h8.set 9 (.int .i64 (rc : Int))
  exact h9
theorem um10 {w0 w : World} {M N : Nat} (id op rc v : Nat) (h : Um w0 w M N) : Um w0 (set10 w M id op rc v) M N :=
  ((((((((((h.apart (grown_set _ M 0 (.int .i64 (id : Int))) (fun q e => .inl (by injection e; omega))).apart (grown_set _ M 1 (.bool (sg v 15))) (fun q e => .inl (by injection e; omega))).apart (grown_set _ M 2 (.int .i64 (op : Int))) (fun q e => .inl (by injection e; omega))).apart (grown_set _ M 3 (.bool (sg v 10))) (fun q e => .inl (by injection e; omega))).apart (grown_set _ M 4 (.bool (sg v 9))) (fun q e => .inl (by injection e; omega))).apart (grown_set _ M 5 (.bool (sg v 8))) (fun q e => .inl (by injection e; omega))).apart (grown_set _ M 6 (.bool (sg v 7))) (fun q e => .inl (by injection e; omega))).apart (grown_set _ M 7 (.bool (sg v 5))) (fun q e => .inl (by injection e; omega))).apart (grown_set _ M 8 (.bool (sg v 4))) (fun q e => .inl (by injection e; omega))).apart (grown_set _ M 9 (.int .i64 (rc : Int))) (fun q e => .inl (by injection e; omega)))
theorem size10 (w : World) (M id op rc v : Nat) : (set10 w M id op rc v).heap.size = w.heap.size := by unfold set10; simp only [set_size]
theorem block10 (w : World) (M id op rc v b : Nat) (hne : b ≠ M) : (set10 w M id op rc v).heap[b]? = w.heap[b]? := by
  unfold set10
  rw [Below.heap_setCell _ _ _ b hne]; rw [Below.heap_setCell _ _ _ b hne]; rw [Below.heap_setCell _ _ _ b hne]; rw [Below.heap_setCell _ _ _ b hne]; rw [Below.heap_setCell _ _ _ b hne]; rw [Below.heap_setCell _ _ _ b hne]; rw [Below.heap_setCell _ _ _ b hne]; rw [Below.heap_setCell _ _ _ b hne]; rw [Below.heap_setCell _ _ _ b hne]; rw [Below.heap_setCell _ _ _ b hne]
/-- a message under way -/
structure Us (w wr : World) (M N n b o : Nat) (B : ByteArray) (id op rc v : Nat) (vq va vu vd : Value) (ls : Ls) : Prop where
  um : Um w wr M N
  mb : Bx wr M (mcs id op rc v vq va vu vd) 26
  rows : Mg4 wr n vq va vu vd ls
  by_ : Lib.Bytes wr b o B
  hn : N < n
  sz : n ≤ wr.heap.size
  bb : b < w.heap.size
section
variable {w wr w2 : World} {M N n b o : Nat} {B : ByteArray} {id op rc v : Nat} {vq va vu vd : Value} {ls : Ls}
theorem Us.below (h : Us w wr M N n b o B id op rc v vq va vu vd ls) (hb : Below wr.heap.size wr w2) : Us w w2 M N n b o B id op rc v vq va vu vd ls := by
  have h1 := h.um.hM
  have h2 := h.um.hN
  have h3 := h.um.bl.size
  have h4 := h.bb
  exact ⟨h.um.apart (grown_below hb none) (fun q e => by cases e), h.mb.below hb h.mb.lt, h.rows.keep (grown_below hb none) (fun q e => by cases e), h.by_.blk (hb.block b (by omega)), h.hn, Nat.le_trans h.sz hb.size, h4⟩
theorem Us.alloc (h : Us w wr M N n b o B id op rc v vq va vu vd ls) (ob : Obj) : Us w (wr.alloc ob) M N n b o B id op rc v vq va vu vd ls := h.below ((Below.refl _ wr).alloc (Nat.le_refl _) ob)
theorem Us.drewN (h : Us w wr M N n b o B id op rc v vq va vu vd ls) (m : Nat) : Us w (wr.drewN m) M N n b o B id op rc v vq va vu vd ls := h.below (below_quiet m)
/-- a row grows: vo is the row as it was, and the new lists lie as told -/
theorem Us.push (h : Us w wr M N n b o B id op rc v vq va vu vd ls) {vo : Value} (hvo : ∀ q, vo.ownBlock = some q → n ≤ q) (hg : wr.grownBy w2 vo.ownBlock) (j : Nat) (u : Value) {vq2 va2 vu2 vd2 : Value} {ls2 : Ls} (hb : (mcs id op rc v vq va vu vd).setIfInBounds j u = mcs id op rc v vq2 va2 vu2 vd2) (hm : Mg4 w2 n vq2 va2 vu2 vd2 ls2) : Us w (w2.setCell ⟨M, j, none⟩ u) M N n b o B id op rc v vq2 va2 vu2 vd2 ls2 := by
  have h1 := h.um.hM
  have h2 := h.um.hN
  have h3 := h.um.bl.size
  have h4 := h.bb
  have h5 := h.hn
  have h6 := h.sz
  have hg2 := grown_set w2 M j u
  refine ⟨(h.um.apart hg (fun q e => .inr (by have := hvo q e; omega))).apart hg2 (fun q e => .inl (by injection e; omega)), hb ▸ (h.mb.grown hg (fun e => by have := hvo _ e; omega)).set j u, hm.keep hg2 (fun q e => by injection e; omega), (h.by_.blk (hg.block b (by omega) (fun e => by have := hvo _ e.symm; omega))).blk (hg2.block b (by have := hg.size; omega) (fun e => by injection e; omega)), h5, by rw [set_size]; exact Nat.le_trans h6 hg.size, h4⟩
end
/-- where the loop over the sections stands -/
def PU (w wr : World) (M N n b o : Nat) (B : ByteArray) (id op rc v : Nat) (Q : List Qn) (k s : Nat) : Prop := match s with
  | 0 => ∃ vq, Us w wr M N n b o B id op rc v vq (.slice none 0 0) (.slice none 0 0) (.slice none 0 0) ⟨Q, [], [], []⟩ ∧ parts4 B = pa4 B Q k
  | 1 => ∃ vq va A, Us w wr M N n b o B id op rc v vq va (.slice none 0 0) (.slice none 0 0) ⟨Q, A, [], []⟩ ∧ parts4 B = pu4 B Q A k
  | 2 => ∃ vq va vu A U, Us w wr M N n b o B id op rc v vq va vu (.slice none 0 0) ⟨Q, A, U, []⟩ ∧ parts4 B = pd4 B Q A U k
  | _ => ∃ vq va vu vd A U D, Us w wr M N n b o B id op rc v vq va vu vd ⟨Q, A, U, D⟩ ∧ parts4 B = pe4 B Q A U D k
theorem US6 {w w4 w6 : World} {M N n b o : Nat} {B : ByteArray} {id op rc v : Nat} {vq va vu vd : Value} {ls : Ls} (h : Us w w4 M N n b o B id op rc v vq va vu vd ls) {o1 o2 : Obj} {c : Value} (hg : ((w4.alloc o1).alloc o2).grownBy w6 c.ownBlock) (j : Nat) {y : Value} (hc : ∀ q, c.ownBlock = some q → n ≤ q) (hj : (mcs id op rc v vq va vu vd)[j]? = some y) : w6.cell? ⟨M, j, none⟩ = some y ∧ w6.frozen? ⟨M, j, none⟩ = false := by
  have h2 := (((h.alloc o1).alloc o2).mb).grown hg (fun e => by have := hc _ e; have := h.hn; have := h.um.hN; omega)
  exact ⟨h2.cell hj, h2.free j⟩
theorem apart_place {w : World} {n e size k : Nat} {a c d : Value} {xs : List Value} (h : w.ownsRow n e size a k xs) (hap : Apart a c) (hpl : d.ownBlock = c.ownBlock ∨ d.ownBlock = some w.heap.size) : Apart a d := fun x hx hy => by
  rcases hpl with h1 | h1
  · rw [h1] at hy; exact hap _ hx hy
  · rw [h1] at hy; injection hy with hy; have := h.lt _ hx; omega
/-- a row is kept while another one grows -/
theorem own_apart {w w2 : World} {n e size k : Nat} {a c : Value} {xs : List Value} (h : w.ownsRow n e size a k xs) (hg : w.grownBy w2 c.ownBlock) (hap : Apart a c) : w2.ownsRow n e size a k xs := by
  refine h.kept hg ?_
  by_cases hv : a.ownBlock = none
  · exact .inl hv
  · right
    intro he
    cases hx : a.ownBlock with
    | none => exact hv hx
    | some x => rw [hx] at he; exact hap x hx he.symm
theorem Apart.symm {a c : Value} (h : Apart a c) : Apart c a := fun x hc ha => h x ha hc
/-- the grown row lies where it lay, or in a new block -/
theorem apart_grown {w : World} {n e size k H g cap m : Nat} {a c : Value} {xs : List Value} (h : w.ownsRow n e size a k xs) (hap : Apart a c) (hpl : c.ownBlock = some g ∨ g = H) (hH : w.heap.size ≤ H) : Apart a (.slice (some ⟨g, 0, none⟩) m cap) := fun x hx hy => by
  have he : g = x := by simpa [Value.ownBlock] using hy
  subst he
  rcases hpl with h1 | h1
  · exact hap _ hx h1
  · have := h.lt _ hx; omega
end Go.Proofs.Ytnnmgcdhidmmeaa
