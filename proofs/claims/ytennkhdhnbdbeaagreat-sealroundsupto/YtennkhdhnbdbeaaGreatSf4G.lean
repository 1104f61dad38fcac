import Derived.Test.YtennkhdhnbdbeaaGreatPrtG
import Derived.Test.YtennkhdhnbdbeaaGreatCntG
import Derived.Test.YtennkhdhnbdbeaaGreatGr0G
import Derived.Deep.RegionHeld3
namespace Go.Proofs.YtennkhdhnbdbeaaGreat.Nm
set_option linter.unusedVariables false
/-- labels without a star in front -/
def lbI (n : ByteArray) : Int := bif isStarB n then cntI n - 1 else cntI n
end Go.Proofs.YtennkhdhnbdbeaaGreat.Nm
namespace Go.Proofs.YtennkhdhnbdbeaaGreat
set_option linter.unusedVariables false
open Go.RowKit Go.Shelf Go.Proofs.YtennkhdhnbdbeaaGreat.Nm
theorem lbI_star {n : ByteArray} (h : isStarB n = true) : lbI n = cntI n - 1 := by unfold lbI; rw [h]; rfl
theorem star_cnt {n : ByteArray} (h : isStarB n = true) : 0 ≤ cntI n ∧ cntI n ≤ 254 := by
  have hN : isN n = true := ((Bool.and_eq_true _ _).mp h).1
  have := labs_len_le hN
  rw [cntI_yes hN]
  omega
theorem lbI_none {n : ByteArray} (h : isStarB n = false) : lbI n = cntI n := by unfold lbI; rw [h]; rfl

set_option maxRecDepth 100000 in
set_option maxHeartbeats 1000000 in
/-- seal.labelsOf -/
theorem labelsOf_any (n : ByteArray) (w : World) (hm : n.size ≤ maxLen) :
    Calls Tryz.prog 25 #[.string n] w fun r w' => r = .returned (.int .i64 (lbI n)) ∧ Below w.heap.size w w' := by
  cases h : isStarB n with
  | false =>
    have HS := hide' h
    rw [lbI_none h]
    go_enter Tryz.func25, Tryz.ntmps25
    go_wp2_with (first
      | (go_at_call 68; refine (isStar_any n _ hm).mono ?_; rw [HS.out]; rintro r w1 ⟨rfl, hB1⟩)
      | (go_at_call 67; refine (count_any n _ hm).mono ?_; rintro r w2 ⟨rfl, hB2⟩))
    go_ret
    exact ⟨rfl, bstep hB1 hB2 hB1.size⟩
  | true =>
    have HS := hide' h
    have hc := star_cnt h
    rw [lbI_star h]
    go_enter Tryz.func25, Tryz.ntmps25
    go_wp2_with (first
      | (go_at_call 68; refine (isStar_any n _ hm).mono ?_; rw [HS.out]; rintro r w1 ⟨rfl, hB1⟩)
      | (go_at_call 67; refine (count_any n _ hm).mono ?_; rintro r w2 ⟨rfl, hB2⟩))
    go_ret
    exact ⟨rfl, bstep hB1 hB2 hB1.size⟩

set_option maxRecDepth 100000 in
set_option maxHeartbeats 1000000 in
/-- gazetteerref4.Starless -/
theorem starless_any (n : ByteArray) (w : World) (hs : n.size ≤ 1048576) :
    Calls Tryz.prog 38 #[.string n] w fun r w' => r = .returned (.int .i64 (lbI n)) ∧ Below w.heap.size w w' := by
  cases h : isStarB n with
  | false =>
    have HS := hide' h
    rw [lbI_none h]
    go_enter Tryz.func38, Tryz.ntmps38
    go_wp2_with (first
      | (go_at_call 80; refine (refIsStar_any n _ hs).mono ?_; rw [HS.out]; rintro r w1 ⟨rfl, hB1⟩)
      | (go_at_call 78; refine (refCount_any n _ hs).mono ?_; rintro r w2 ⟨rfl, hB2⟩))
    go_ret
    exact ⟨rfl, bstep hB1 hB2 hB1.size⟩
  | true =>
    have HS := hide' h
    have hc := star_cnt h
    rw [lbI_star h]
    go_enter Tryz.func38, Tryz.ntmps38
    go_wp2_with (first
      | (go_at_call 80; refine (refIsStar_any n _ hs).mono ?_; rw [HS.out]; rintro r w1 ⟨rfl, hB1⟩)
      | (go_at_call 78; refine (refCount_any n _ hs).mono ?_; rintro r w2 ⟨rfl, hB2⟩))
    go_ret
    exact ⟨rfl, bstep hB1 hB2 hB1.size⟩
end Go.Proofs.YtennkhdhnbdbeaaGreat

namespace Go.Proofs.YtennkhdhnbdbeaaGreat.Nm
/-- the owner as it is signed -/
def owB (l : Int) (n : ByteArray) : ByteArray := foldB (if l < lbI n then starB (tailB n l) else n)
end Go.Proofs.YtennkhdhnbdbeaaGreat.Nm
namespace Go.Proofs.YtennkhdhnbdbeaaGreat
set_option linter.unusedVariables false
open Go.RowKit Go.Shelf Go.Proofs.YtennkhdhnbdbeaaGreat.Nm

theorem bx_dr {w : World} {R : Nat} {cs : Array Value} {T : TypeId} (h : Bx w R cs T) : Bx w.drew R cs T := h

set_option maxRecDepth 100000 in
set_option maxHeartbeats 1000000 in
/-- (stamp).owner -/
theorem owner_any (c a l g u f t : Int) (sg n : ByteArray) (w : World) (hn : n.size ≤ maxLen) (hst : (starB (tailB n l)).size ≤ maxLen) (htl : (tailB n l).size ≤ maxLen) :
    Calls Tryz.prog 71 #[.agg #[.int .i64 c, .int .i64 a, .int .i64 l, .int .i64 g, .int .i64 u, .int .i64 f, .int .i64 t, .string sg], .string n] w fun r w' => r = .returned (.string (owB l n)) ∧ Below w.heap.size w w' := by
  have h0 : Bx (w.alloc (.cells #[.int .i64 c, .int .i64 a, .int .i64 l, .int .i64 g, .int .i64 u, .int .i64 f, .int .i64 t, .string sg] 53)) w.heap.size #[.int .i64 c, .int .i64 a, .int .i64 l, .int .i64 g, .int .i64 u, .int .i64 f, .int .i64 t, .string sg] 53 := World.alloc_heap_new w _
  have HH := hide' h0
  have k2 : (w.alloc (.cells #[.int .i64 c, .int .i64 a, .int .i64 l, .int .i64 g, .int .i64 u, .int .i64 f, .int .i64 t, .string sg] 53)).cell? ⟨w.heap.size, 2, none⟩ = some (.int .i64 l) := h0.cell rfl
  clear h0
  have HB0 : Hid (Below w.heap.size w (w.alloc (.cells #[.int .i64 c, .int .i64 a, .int .i64 l, .int .i64 g, .int .i64 u, .int .i64 f, .int .i64 t, .string sg] 53))) := (Below.refl _ _).alloc (Nat.le_refl _) _
  by_cases hlt : l < lbI n
  · have HO : Hid (owB l n = foldB (starB (tailB n l))) := by unfold Hid owB; rw [if_pos hlt]
    rw [HO.out]
    go_enter Tryz.func71, Tryz.ntmps71
    go_wp2_with fail
    go_region_held3 (fun w' => w'.cell? ⟨w.heap.size, 2, none⟩ = some (.int .i64 l)) (first | go_keep | exact HH1.out.cell rfl) ((go_at_call 25; refine (labelsOf_any n _ hn).mono ?_; rintro r w1 ⟨rfl, hB1⟩; have HH1 := hide' (show Bx w1 w.heap.size #[.int .i64 c, .int .i64 a, .int .i64 l, .int .i64 g, .int .i64 u, .int .i64 f, .int .i64 t, .string sg] 53 by first | exact HH.out.below hB1 HH.out.lt | exact (bx_dr HH.out).below hB1 HH.out.lt); have HB1 := hide' (show Below w.heap.size w w1 by first | exact bstep HB0.out hB1 HB0.out.size | exact bstep HB0.out.drew hB1 HB0.out.size); have k21 : w1.cell? ⟨w.heap.size, 2, none⟩ = some (.int .i64 l) := HH1.out.cell rfl; clear hB1))
    go_wp2_with (first
      | (go_at_call 66; refine (tail_any n l _ hn).mono ?_; rintro r w2 ⟨rfl, hB2⟩)
      | (go_at_call 16; refine (star_any _ _ htl).mono ?_; rintro r w3 ⟨rfl, hB3⟩)
      | (go_at_call 27; refine (fold_any _ _ hst).mono ?_; rintro r w4 ⟨rfl, hB4⟩))
    go_ret
    have b2 : Below w.heap.size w w2 := by first | exact bstep HB1.out hB2 HB1.out.size | exact bstep HB1.out.drew hB2 HB1.out.size
    have b3 := bstep b2 hB3 b2.size
    exact ⟨rfl, bstep b3 hB4 b3.size⟩
  · have HO : Hid (owB l n = foldB n) := by unfold Hid owB; rw [if_neg hlt]
    rw [HO.out]
    go_enter Tryz.func71, Tryz.ntmps71
    go_wp2_with fail
    go_region_held3 (fun w' => w'.cell? ⟨w.heap.size, 2, none⟩ = some (.int .i64 l)) (first | go_keep | exact HH1.out.cell rfl) ((go_at_call 25; refine (labelsOf_any n _ hn).mono ?_; rintro r w1 ⟨rfl, hB1⟩; have HH1 := hide' (show Bx w1 w.heap.size #[.int .i64 c, .int .i64 a, .int .i64 l, .int .i64 g, .int .i64 u, .int .i64 f, .int .i64 t, .string sg] 53 by first | exact HH.out.below hB1 HH.out.lt | exact (bx_dr HH.out).below hB1 HH.out.lt); have HB1 := hide' (show Below w.heap.size w w1 by first | exact bstep HB0.out hB1 HB0.out.size | exact bstep HB0.out.drew hB1 HB0.out.size); have k21 : w1.cell? ⟨w.heap.size, 2, none⟩ = some (.int .i64 l) := HH1.out.cell rfl; clear hB1))
    go_wp2_with (go_at_call 27; refine (fold_any _ _ hn).mono ?_; rintro r w4 ⟨rfl, hB4⟩)
    go_ret
    exact ⟨rfl, bstep HB1.out hB4 HB1.out.size⟩
end Go.Proofs.YtennkhdhnbdbeaaGreat
