import Derived.Test.YtgbbcalkiekfeaaSk12
import Derived.Deep.RegionHeld3
namespace Go.Proofs.Ytgbbcalkiekfeaa
set_option linter.unusedVariables false
open Go.RowKit Go.Shelf Go.Proofs.Ytgbbcalkiekfeaa.Nm

theorem three_below {W W' : World} {a b c : Nat} {A B : Array Value} {t : TypeId} (h : Bx W a A t ∧ Bx W b B t ∧ Bx W c B t) (hb : Below W.heap.size W W') : Bx W' a A t ∧ Bx W' b B t ∧ Bx W' c B t := ⟨h.1.below hb h.1.lt, h.2.1.below hb h.2.1.lt, h.2.2.below hb h.2.2.lt⟩
theorem three_drew {W : World} {a b c : Nat} {A B : Array Value} {t : TypeId} (h : Bx W a A t ∧ Bx W b B t ∧ Bx W c B t) : Bx W.drew a A t ∧ Bx W.drew b B t ∧ Bx W.drew c B t := h
theorem keyR_form (p q e f : Int) : ∃ a b c d x : Int, keyR p q e f = .tuple #[.agg #[.int .i64 a, .int .i64 b, .int .i64 c, .int .i64 d], .int .i64 x] := by
  rcases Classical.em (KeyOK p q e f) with h | h
  · unfold keyR; rw [(keyOKB_iff _ _ _ _).2 h]; exact ⟨_, _, _, _, _, rfl⟩
  · rw [keyR_no h]; exact ⟨_, _, _, _, _, rfl⟩

set_option maxRecDepth 100000 in
set_option maxHeartbeats 2000000 in
/-- SealKeys -/
theorem sealKeys_any (p q e f k0 k1 k2 k3 : Int) (o d : ByteArray) (w : World) (ho : o.size ≤ 1048576) (hd : d.size ≤ 1048576) :
    Calls Try.prog 3 #[.int .i64 p, .int .i64 q, .int .i64 e, .int .i64 f, .agg #[.int .i64 k0, .int .i64 k1, .int .i64 k2, .int .i64 k3], .string o, .string d] w fun r w' => r = .returned (.bool true) ∧ Below w.heap.size w w' := by
  obtain ⟨n0, n1, n2, n3, x, hk⟩ := keyR_form p q e f
  have HA := hide' (fun w => newKey_any p q e f w)
  have HB := hide' (fun w => refKey_any p q e f w)
  rw [hk] at HA HB
  have HP := hide' (fun w => public_any k0 k1 k2 k3 w)
  have HQ := hide' (fun w => refPublic_any k0 k1 k2 k3 w)
  have HT := hide' (fun w => tag_any d w hd)
  have HU := hide' (fun w => refTag_any d w hd)
  have HD := hide' (fun w => ds_any o d w ho hd)
  have HE := hide' (fun w => refDs_any o d w ho hd)
  generalize pubB k0 k1 k2 k3 = P at *
  generalize tagN d = t at *
  obtain ⟨⟨S, u⟩, hS⟩ : ∃ y, dsR o d = y := ⟨_, rfl⟩
  rw [hS] at HD HE
  clear hk hS
  go_enter Try.func3, Try.ntmps3
  go_wp2_with (first
    | (go_at_call 4; refine (HA.out _).mono ?_; rintro r w1 ⟨rfl, hB1⟩)
    | (go_at_call 5; refine (HB.out _).mono ?_; rintro r w2 ⟨rfl, hB2⟩))
  obtain ⟨W3, hW3⟩ : ∃ W3, w2.alloc (.cells #[.int .i64 n0, .int .i64 n1, .int .i64 n2, .int .i64 n3] 23) = W3 := ⟨_, rfl⟩
  have h0 : Bx (w.alloc (.cells #[.int .i64 k0, .int .i64 k1, .int .i64 k2, .int .i64 k3] 23)) w.heap.size #[.int .i64 k0, .int .i64 k1, .int .i64 k2, .int .i64 k3] 23 := World.alloc_heap_new w _
  have h1 := h0.below hB1 h0.lt
  have h2 : Bx (w1.alloc (.cells #[.int .i64 n0, .int .i64 n1, .int .i64 n2, .int .i64 n3] 23)) w.heap.size #[.int .i64 k0, .int .i64 k1, .int .i64 k2, .int .i64 k3] 23 := h1.grown (World.grownBy_alloc _ _ none) (by simp)
  have h3 : Bx (w1.alloc (.cells #[.int .i64 n0, .int .i64 n1, .int .i64 n2, .int .i64 n3] 23)) w1.heap.size #[.int .i64 n0, .int .i64 n1, .int .i64 n2, .int .i64 n3] 23 := World.alloc_heap_new w1 _
  have h4 := h2.below hB2 h2.lt
  have h5 := h3.below hB2 h3.lt
  have HW : Hid (Bx W3 w.heap.size #[.int .i64 k0, .int .i64 k1, .int .i64 k2, .int .i64 k3] 23 ∧ Bx W3 w1.heap.size #[.int .i64 n0, .int .i64 n1, .int .i64 n2, .int .i64 n3] 23 ∧ Bx W3 w2.heap.size #[.int .i64 n0, .int .i64 n1, .int .i64 n2, .int .i64 n3] 23) := by
    rw [← hW3]
    exact ⟨h4.grown (World.grownBy_alloc _ _ none) (by simp), h5.grown (World.grownBy_alloc _ _ none) (by simp), World.alloc_heap_new w2 _⟩
  have hw1 : w.heap.size ≤ w1.heap.size := by have := hB1.size; rw [World.size_alloc] at this; omega
  have hw2 : w1.heap.size ≤ w2.heap.size := by have := hB2.size; rw [World.size_alloc] at this; omega
  have b1 : Below w.heap.size w w1 := bstep (below_one w _) hB1 (by rw [World.size_alloc]; omega)
  have b2 : Below w.heap.size w w2 := bstep (b1.alloc hw1 _) hB2 (by rw [World.size_alloc]; omega)
  have HB3 : Hid (Below w.heap.size w W3) := by rw [← hW3]; exact b2.alloc (Nat.le_trans hw1 hw2) _
  have HS : Hid (∀ W : World, (Bx W w.heap.size #[.int .i64 k0, .int .i64 k1, .int .i64 k2, .int .i64 k3] 23 ∧ Bx W w1.heap.size #[.int .i64 n0, .int .i64 n1, .int .i64 n2, .int .i64 n3] 23 ∧ Bx W w2.heap.size #[.int .i64 n0, .int .i64 n1, .int .i64 n2, .int .i64 n3] 23) → W.cell? ⟨w.heap.size, 0, none⟩ = some (.int .i64 k0) ∧ W.cell? ⟨w.heap.size, 1, none⟩ = some (.int .i64 k1) ∧ W.cell? ⟨w.heap.size, 2, none⟩ = some (.int .i64 k2) ∧ W.cell? ⟨w.heap.size, 3, none⟩ = some (.int .i64 k3) ∧ W.cell? ⟨w1.heap.size, 0, none⟩ = some (.int .i64 n0) ∧ W.cell? ⟨w1.heap.size, 1, none⟩ = some (.int .i64 n1) ∧ W.cell? ⟨w1.heap.size, 2, none⟩ = some (.int .i64 n2) ∧ W.cell? ⟨w1.heap.size, 3, none⟩ = some (.int .i64 n3) ∧ W.cell? ⟨w2.heap.size, 0, none⟩ = some (.int .i64 n0) ∧ W.cell? ⟨w2.heap.size, 1, none⟩ = some (.int .i64 n1) ∧ W.cell? ⟨w2.heap.size, 2, none⟩ = some (.int .i64 n2) ∧ W.cell? ⟨w2.heap.size, 3, none⟩ = some (.int .i64 n3)) := fun W h => ⟨h.1.cell rfl, h.1.cell rfl, h.1.cell rfl, h.1.cell rfl, h.2.1.cell rfl, h.2.1.cell rfl, h.2.1.cell rfl, h.2.1.cell rfl, h.2.2.cell rfl, h.2.2.cell rfl, h.2.2.cell rfl, h.2.2.cell rfl⟩
  obtain ⟨c0, c1, c2, c3, d0, d1, d2, d3, e0, e1, e2, e3⟩ := HS.out W3 HW.out
  rw [hW3]
  clear h0 h1 h2 h3 h4 h5 hW3 b1 b2 hB1 hB2
  go_region_held3 (fun w' => w'.cell? ⟨w.heap.size, 0, none⟩ = some (.int .i64 k0) ∧ w'.cell? ⟨w.heap.size, 1, none⟩ = some (.int .i64 k1) ∧ w'.cell? ⟨w.heap.size, 2, none⟩ = some (.int .i64 k2) ∧ w'.cell? ⟨w.heap.size, 3, none⟩ = some (.int .i64 k3) ∧ w'.cell? ⟨w1.heap.size, 0, none⟩ = some (.int .i64 n0) ∧ w'.cell? ⟨w1.heap.size, 1, none⟩ = some (.int .i64 n1) ∧ w'.cell? ⟨w1.heap.size, 2, none⟩ = some (.int .i64 n2) ∧ w'.cell? ⟨w1.heap.size, 3, none⟩ = some (.int .i64 n3) ∧ w'.cell? ⟨w2.heap.size, 0, none⟩ = some (.int .i64 n0) ∧ w'.cell? ⟨w2.heap.size, 1, none⟩ = some (.int .i64 n1) ∧ w'.cell? ⟨w2.heap.size, 2, none⟩ = some (.int .i64 n2) ∧ w'.cell? ⟨w2.heap.size, 3, none⟩ = some (.int .i64 n3)) (first | go_keep | exact HS.out _ HW6.out | exact HS.out _ HW5.out) (first
    | (go_at_call 6; refine (HP.out _).mono ?_; rintro r w5 ⟨rfl, hB5⟩; have HW5 := hide' (show Bx w5 w.heap.size #[.int .i64 k0, .int .i64 k1, .int .i64 k2, .int .i64 k3] 23 ∧ Bx w5 w1.heap.size #[.int .i64 n0, .int .i64 n1, .int .i64 n2, .int .i64 n3] 23 ∧ Bx w5 w2.heap.size #[.int .i64 n0, .int .i64 n1, .int .i64 n2, .int .i64 n3] 23 by first | exact three_below HW.out hB5 | exact three_below (three_drew HW.out) hB5); have HB5 := hide' (show Below w.heap.size w w5 by first | exact bstep HB3.out hB5 HB3.out.size | exact bstep HB3.out.drew hB5 HB3.out.size); clear hB5)
    | (go_at_call 7; refine (HQ.out _).mono ?_; rintro r w6 ⟨rfl, hB6⟩; have HW6 := hide' (show Bx w6 w.heap.size #[.int .i64 k0, .int .i64 k1, .int .i64 k2, .int .i64 k3] 23 ∧ Bx w6 w1.heap.size #[.int .i64 n0, .int .i64 n1, .int .i64 n2, .int .i64 n3] 23 ∧ Bx w6 w2.heap.size #[.int .i64 n0, .int .i64 n1, .int .i64 n2, .int .i64 n3] 23 by first | exact three_below HW5.out hB6 | exact three_below (three_drew HW5.out) hB6); have HB6 := hide' (show Below w.heap.size w w6 by first | exact bstep HB5.out hB6 HB5.out.size | exact bstep HB5.out.drew hB6 HB5.out.size); clear hB6)
    | (go_at_call 8; refine (HT.out _).mono ?_; rintro r w7 ⟨rfl, rfl⟩)
    | (go_at_call 9; refine (HU.out _).mono ?_; rintro r w8 ⟨rfl, rfl⟩))
  go_wp2_with (first
    | (go_at_call 10; refine (HD.out _).mono ?_; rintro r w9 ⟨rfl, hB9⟩)
    | (go_at_call 11; refine (HE.out _).mono ?_; rintro r w10 ⟨rfl, hB10⟩))
  go_ret
  refine ⟨by simp, ?_⟩
  have b9 : Below w.heap.size w w9 := by first | exact bstep HB6.out hB9 HB6.out.size | exact bstep HB6.out.drew hB9 HB6.out.size
  exact bstep b9 hB10 b9.size
end Go.Proofs.Ytgbbcalkiekfeaa
