import Derived.Test.YtennkhdhnbdbeaaGreatSg8
import Derived.Test.YtennkhdhnbdbeaaGreatSg4
import Derived.Test.YtennkhdhnbdbeaaGreatSf2G
import Derived.Test.YtennkhdhnbdbeaaGreatSk8
/-
  seal.Sign, where all is right: what stands behind the stamp. (The verifier's own text.)
-/
namespace Go.Proofs.YtennkhdhnbdbeaaGreat
set_option linter.unusedVariables false
set_option linter.unusedSimpArgs false
open Go.RowKit Go.Shelf Go.Sort Go.Proofs.YtennkhdhnbdbeaaGreat.Nm

/-- what lies in memory along Sign, with the record to be -/
def Sv (w wc : World) (R : Nat) (f m e s : Int) (p : Option Addr) (L : List Rn) (rc : Array Value) : Prop := Sw w wc f m e s p L ∧ Bx wc R rc 27 ∧ w.heap.size + 1 < R
theorem Sw.drew {w wc : World} {f m e s : Int} {p : Option Addr} {L : List Rn} (h : Sw w wc f m e s p L) : Sw w wc.drew f m e s p L := ⟨h.1, h.2.1, h.2.2.1.drew, h.2.2.2⟩
theorem Sv.drew {w wc : World} {R : Nat} {f m e s : Int} {p : Option Addr} {L : List Rn} {rc : Array Value} (h : Sv w wc R f m e s p L rc) : Sv w wc.drew R f m e s p L rc := ⟨h.1.drew, h.2.1, h.2.2⟩
theorem Sv.step {w wc wd : World} {R : Nat} {f m e s : Int} {p : Option Addr} {L : List Rn} {rc : Array Value} (h : Sv w wc R f m e s p L rc) (hB : Below wc.heap.size wc wd) : Sv w wd R f m e s p L rc := ⟨h.1.step hB, h.2.1.below hB h.2.1.lt, h.2.2⟩
theorem Sv.start {w wc : World} {f m e s : Int} {p : Option Addr} {L : List Rn} (h : Sw w wc f m e s p L) (rc : Array Value) : Sv w (wc.alloc (.cells rc 27)) wc.heap.size f m e s p L rc :=
  ⟨h.step ((Below.refl _ _).alloc (Nat.le_refl _) _), World.alloc_heap_new wc _, h.2.1.lt⟩
/-- the same with the stamp -/
def Su (w wc : World) (R Q : Nat) (f m e s : Int) (p : Option Addr) (L : List Rn) (rc sc : Array Value) : Prop := Sv w wc R f m e s p L rc ∧ Bx wc Q sc 53 ∧ R < Q
theorem Su.drew {w wc : World} {R Q : Nat} {f m e s : Int} {p : Option Addr} {L : List Rn} {rc sc : Array Value} (h : Su w wc R Q f m e s p L rc sc) : Su w wc.drew R Q f m e s p L rc sc := ⟨h.1.drew, h.2.1, h.2.2⟩
theorem Su.step {w wc wd : World} {R Q : Nat} {f m e s : Int} {p : Option Addr} {L : List Rn} {rc sc : Array Value} (h : Su w wc R Q f m e s p L rc sc) (hB : Below wc.heap.size wc wd) : Su w wd R Q f m e s p L rc sc := ⟨h.1.step hB, h.2.1.below hB h.2.1.lt, h.2.2⟩
theorem Su.start {w wc : World} {R : Nat} {f m e s : Int} {p : Option Addr} {L : List Rn} {rc : Array Value} (h : Sv w wc R f m e s p L rc) (sc : Array Value) : Su w (wc.alloc (.cells sc 53)) R wc.heap.size f m e s p L rc sc :=
  ⟨h.step ((Below.refl _ _).alloc (Nat.le_refl _) _), World.alloc_heap_new wc _, h.2.1.lt⟩
theorem Sw.put {w wc : World} {f m e s : Int} {p : Option Addr} {L : List Rn} (h : Sw w wc f m e s p L) (hat : RsAt w p L) (Q j : Nat) (v : Value) (hQ : w.heap.size + 1 < Q) : Sw w (wc.setCell ⟨Q, j, none⟩ v) f m e s p L := by
  have hb : Below w.heap.size w (wc.setCell ⟨Q, j, none⟩ v) := h.2.2.1.setCell (p := ⟨Q, j, none⟩) (by show w.heap.size ≤ Q; omega) v
  exact ⟨h.1.grown (grown_set wc Q j v) (by intro e; injection e with e; omega), h.2.1.grown (grown_set wc Q j v) (by intro e; injection e with e; omega), hb, rsAt_below7 hat hb⟩
theorem Su.put {w wc : World} {R Q : Nat} {f m e s : Int} {p : Option Addr} {L : List Rn} {rc sc : Array Value} (h : Su w wc R Q f m e s p L rc sc) (hat : RsAt w p L) (j : Nat) (v : Value) : Su w (wc.setCell ⟨Q, j, none⟩ v) R Q f m e s p L rc (sc.setIfInBounds j v) :=
  ⟨⟨h.1.1.put hat Q j v (by have := h.1.2.2; have := h.2.2; omega), h.1.2.1.grown (grown_set wc Q j v) (by intro e; injection e with e; have := h.2.2; omega), h.1.2.2⟩, h.2.1.set j v, h.2.2⟩
set_option maxRecDepth 100000 in
set_option maxHeartbeats 8000000 in
theorem sign_tail (f : Int) (m e s : Nat) (n : ByteArray) (L : List Rn) (p : Option Addr) (cap : Nat) (b u : Nat) (w V0 : World) (R Q : Nat) (xo xd : ByteArray) (xc : Int) (t0 g0 l0 tg PV NV : Nat) (F T S0 B4 : ByteArray) (HAT : Hid (RsAt w p L)) (SU0 : Hid (Su w V0 R Q f m e s p L #[.string xo, .int .i64 (t0 : Int), .int .i64 xc, .int .i64 (g0 : Int), .string xd] #[.int .i64 (t0 : Int), .int .i64 253, .int .i64 (l0 : Int), .int .i64 (g0 : Int), .int .i64 (u : Int), .int .i64 (b : Int), .int .i64 (tg : Int), .string F]))
    (HTX : Hid (∀ W : World, RsAt W p L → Calls Tryz.prog 30 #[.agg #[.int .i64 (t0 : Int), .int .i64 253, .int .i64 (l0 : Int), .int .i64 (g0 : Int), .int .i64 (u : Int), .int .i64 (b : Int), .int .i64 (tg : Int), .string F], .slice p L.length cap] W fun r w' => r = .returned (.string T) ∧ Below W.heap.size W w'))
    (HNU : Hid (∀ W : World, Calls Tryz.prog 29 #[.string T, .int .i64 (m : Int)] W fun r w' => r = .returned (.int .i64 (NV : Int)) ∧ Below W.heap.size W w'))
    (HPW : Hid (∀ W : World, Calls Tryz.prog 28 #[.int .i64 (NV : Int), .int .i64 (s : Int), .int .i64 (m : Int)] W fun r w' => r = .returned (.int .i64 (PV : Int)) ∧ w' = W))
    (HST : Hid (∀ W : World, Calls Tryz.prog 31 #[.agg #[.int .i64 (t0 : Int), .int .i64 253, .int .i64 (l0 : Int), .int .i64 (g0 : Int), .int .i64 (u : Int), .int .i64 (b : Int), .int .i64 (tg : Int), .string F]] W fun r w' => r = .returned (.string S0) ∧ Below W.heap.size W w'))
    (HSB : Hid (∀ W : World, Calls Tryz.prog 32 #[.int .i64 (PV : Int), .int .i64 4] W fun r w' => r = .returned (.string B4) ∧ Below W.heap.size W w'))
    (hadd : ∀ W : World, (Op.stringOp .add S0 B4).run Tryz.prog W = .ok (.string (S0 ++ B4)) W) (x0 x6 x7 x8 x9 x11 x14 x15 x16 x17 x18 x19 x20 x21 x22 x23 x24 x25 x26 x27 x28 x29 x30 x31 x32 x33 x34 x35 x36 x37 x38 x39 x40 x41 x42 x43 x44 x45 x46 x47 x48 x49 x50 x51 x52 x53 x54 x55 x56 x57 x58 x59 x60 x61 x62 x63 x64 x65 x66 x67 x68 x69 x70 x71 x72 x73 x74 x75 x76 x77 x78 x79 x80 x81 x82 x83 x84 x85 x86 x87 x88 x89 x90 x91 x92 x93 : Value) :
    Code.wp Tryz.prog (((Tryz.f8.body.map (tailsS 12)).getD []).getD 0 .skip) (bodyPost Tryz.prog Tryz.f8 fun r w' => r = .returned (.tuple #[.agg #[.string xo, .int .i64 46, .int .i64 xc, .int .i64 (g0 : Int), .string (S0 ++ B4)], .int .i64 0]) ∧ Below w.heap.size w w') ⟨List.toArray (x0 :: (.string n : Value) :: (.slice p L.length cap : Value) :: (.int .i64 (b : Int) : Value) :: (.int .i64 (u : Int) : Value) :: (.pointer (some ⟨w.heap.size, 0, none⟩) : Value) :: x6 :: x7 :: x8 :: x9 :: (.pointer (some ⟨w.heap.size + 1, 0, none⟩) : Value) :: x11 :: (.pointer (some ⟨R, 0, none⟩) : Value) :: (.pointer (some ⟨Q, 0, none⟩) : Value) :: x14 :: x15 :: x16 :: x17 :: x18 :: x19 :: x20 :: x21 :: x22 :: x23 :: x24 :: x25 :: x26 :: x27 :: x28 :: x29 :: x30 :: x31 :: x32 :: x33 :: x34 :: x35 :: x36 :: x37 :: x38 :: x39 :: x40 :: x41 :: x42 :: x43 :: x44 :: x45 :: x46 :: x47 :: x48 :: x49 :: x50 :: x51 :: x52 :: x53 :: x54 :: x55 :: x56 :: x57 :: x58 :: x59 :: x60 :: x61 :: x62 :: x63 :: x64 :: x65 :: x66 :: x67 :: x68 :: x69 :: x70 :: x71 :: x72 :: x73 :: x74 :: x75 :: x76 :: x77 :: x78 :: x79 :: x80 :: x81 :: x82 :: x83 :: x84 :: x85 :: x86 :: x87 :: x88 :: x89 :: x90 :: x91 :: x92 :: x93 :: []), []⟩ V0 := by
  have QF : Hid (∀ V : World, Su w V R Q f m e s p L #[.string xo, .int .i64 (t0 : Int), .int .i64 xc, .int .i64 (g0 : Int), .string xd] #[.int .i64 (t0 : Int), .int .i64 253, .int .i64 (l0 : Int), .int .i64 (g0 : Int), .int .i64 (u : Int), .int .i64 (b : Int), .int .i64 (tg : Int), .string F] → V.cell? ⟨Q, 0, none⟩ = some (.int .i64 (t0 : Int)) ∧ V.cell? ⟨Q, 1, none⟩ = some (.int .i64 253) ∧ V.cell? ⟨Q, 2, none⟩ = some (.int .i64 (l0 : Int)) ∧ V.cell? ⟨Q, 3, none⟩ = some (.int .i64 (g0 : Int)) ∧ V.cell? ⟨Q, 4, none⟩ = some (.int .i64 (u : Int)) ∧ V.cell? ⟨Q, 5, none⟩ = some (.int .i64 (b : Int)) ∧ V.cell? ⟨Q, 6, none⟩ = some (.int .i64 (tg : Int)) ∧ V.cell? ⟨Q, 7, none⟩ = some (.string F) ∧ V.cell? ⟨w.heap.size, 1, none⟩ = some (.int .i64 (m : Int)) ∧ V.cell? ⟨w.heap.size, 3, none⟩ = some (.int .i64 (s : Int))) := fun V h => ⟨h.2.1.cell rfl, h.2.1.cell rfl, h.2.1.cell rfl, h.2.1.cell rfl, h.2.1.cell rfl, h.2.1.cell rfl, h.2.1.cell rfl, h.2.1.cell rfl, h.1.1.1.cell rfl, h.1.1.1.cell rfl⟩
  obtain ⟨k0, k1, k2, k3, k4, k5, k6, k7, m1, m3⟩ := QF.out _ SU0.out
  conv => arg 2; whnf
  go_wp2_with fail
  refine wp_region_held_drew (S := fun V => V.cell? ⟨Q, 0, none⟩ = some (.int .i64 (t0 : Int)) ∧ V.cell? ⟨Q, 1, none⟩ = some (.int .i64 253) ∧ V.cell? ⟨Q, 2, none⟩ = some (.int .i64 (l0 : Int)) ∧ V.cell? ⟨Q, 3, none⟩ = some (.int .i64 (g0 : Int)) ∧ V.cell? ⟨Q, 4, none⟩ = some (.int .i64 (u : Int)) ∧ V.cell? ⟨Q, 5, none⟩ = some (.int .i64 (b : Int)) ∧ V.cell? ⟨Q, 6, none⟩ = some (.int .i64 (tg : Int)) ∧ V.cell? ⟨Q, 7, none⟩ = some (.string F) ∧ V.cell? ⟨w.heap.size, 1, none⟩ = some (.int .i64 (m : Int)) ∧ V.cell? ⟨w.heap.size, 3, none⟩ = some (.int .i64 (s : Int))) (by kernel_rfl) ?_ (fun hHeld => ?_)
  · (try dsimp only); go_keep
  refine takeD 0 (some 75) (.agg #[.int .i64 (t0 : Int), .int .i64 253, .int .i64 (l0 : Int), .int .i64 (g0 : Int), .int .i64 (u : Int), .int .i64 (b : Int), .int .i64 (tg : Int), .string F]) rfl rfl (by kernel_rfl) (by kernel_rfl) (by kernel_rfl) (fun _ _ _ h => h) (Or.inl ⟨by rfl, ?_⟩) (by assumption) ?_
  · intro w hSw; (try dsimp only at hSw); go_simp <;> (intros; omega)
  simp only [Act.put, List.setIfInBounds_toArray, List.set_cons_zero, List.set_cons_succ]
  refine takeD 1 (some 76) (.slice p L.length cap) rfl rfl (by kernel_rfl) (by kernel_rfl) (by kernel_rfl) (fun _ _ _ h => h) (Or.inl ⟨by rfl, ?_⟩) (by assumption) ?_
  · intro w hSw; (try dsimp only at hSw); go_simp <;> (intros; omega)
  simp only [Act.put, List.setIfInBounds_toArray, List.set_cons_zero, List.set_cons_succ]
  refine takeD 3 (some 78) (.pointer (some ⟨w.heap.size, 1, none⟩)) rfl rfl (by kernel_rfl) (by kernel_rfl) (by kernel_rfl) (fun _ _ _ h => h) (Or.inl ⟨by rfl, ?_⟩) (by assumption) ?_
  · intro w hSw; (try dsimp only at hSw); go_simp <;> (intros; omega)
  simp only [Act.put, List.setIfInBounds_toArray, List.set_cons_zero, List.set_cons_succ]
  refine takeD 4 (some 79) (.int .i64 (m : Int)) rfl rfl (by kernel_rfl) (by kernel_rfl) (by kernel_rfl) (fun _ _ _ h => h) (Or.inl ⟨by rfl, ?_⟩) (by assumption) ?_
  · intro w hSw; (try dsimp only at hSw); go_simp <;> (intros; omega)
  simp only [Act.put, List.setIfInBounds_toArray, List.set_cons_zero, List.set_cons_succ]
  refine takeD 6 (some 81) (.pointer (some ⟨w.heap.size, 3, none⟩)) rfl rfl (by kernel_rfl) (by kernel_rfl) (by kernel_rfl) (fun _ _ _ h => h) (Or.inl ⟨by rfl, ?_⟩) (by assumption) ?_
  · intro w hSw; (try dsimp only at hSw); go_simp <;> (intros; omega)
  simp only [Act.put, List.setIfInBounds_toArray, List.set_cons_zero, List.set_cons_succ]
  refine takeD 7 (some 82) (.int .i64 (s : Int)) rfl rfl (by kernel_rfl) (by kernel_rfl) (by kernel_rfl) (fun _ _ _ h => h) (Or.inl ⟨by rfl, ?_⟩) (by assumption) ?_
  · intro w hSw; (try dsimp only at hSw); go_simp <;> (intros; omega)
  simp only [Act.put, List.setIfInBounds_toArray, List.set_cons_zero, List.set_cons_succ]
  refine takeD 8 (some 83) (.pointer (some ⟨w.heap.size, 1, none⟩)) rfl rfl (by kernel_rfl) (by kernel_rfl) (by kernel_rfl) (fun _ _ _ h => h) (Or.inl ⟨by rfl, ?_⟩) (by assumption) ?_
  · intro w hSw; (try dsimp only at hSw); go_simp <;> (intros; omega)
  simp only [Act.put, List.setIfInBounds_toArray, List.set_cons_zero, List.set_cons_succ]
  refine takeD 9 (some 84) (.int .i64 (m : Int)) rfl rfl (by kernel_rfl) (by kernel_rfl) (by kernel_rfl) (fun _ _ _ h => h) (Or.inl ⟨by rfl, ?_⟩) (by assumption) ?_
  · intro w hSw; (try dsimp only at hSw); go_simp <;> (intros; omega)
  simp only [Act.put, List.setIfInBounds_toArray, List.set_cons_zero, List.set_cons_succ]
  refine wpAnyH_ready (rs := [2]) (by kernel_rfl) (by simp) ?_
  refine AllReadyH.cons rfl (fun K hK => ?_) AllReadyH.nil
  go_simp
  go_at_call 30; refine (HTX.out _ (show RsAt _ p L by first | exact SU0.out.1.1.2.2.2 | exact SU0.out.drew.1.1.2.2.2)).mono ?_; rintro r w1 ⟨rfl, hB⟩; have SU1 := hide' (show Su w w1 R Q f m e s p L #[.string xo, .int .i64 (t0 : Int), .int .i64 xc, .int .i64 (g0 : Int), .string xd] #[.int .i64 (t0 : Int), .int .i64 253, .int .i64 (l0 : Int), .int .i64 (g0 : Int), .int .i64 (u : Int), .int .i64 (b : Int), .int .i64 (tg : Int), .string F] by first | exact SU0.out.step hB | exact SU0.out.drew.step hB); clear hB
  go_wp2_with fail
  refine hK.out _ _ (QF.out _ SU1.out) (fun hHeld => ?_)
  clear hK K
  try simp only [Act.put, List.setIfInBounds_toArray, List.set_cons_zero, List.set_cons_succ]
  refine wpAnyH_ready (rs := [5]) (by kernel_rfl) (by simp) ?_
  refine AllReadyH.cons rfl (fun K hK => ?_) AllReadyH.nil
  go_simp
  go_at_call 29; refine (HNU.out _).mono ?_; rintro r w2 ⟨rfl, hB⟩; have SU2 := hide' (show Su w w2 R Q f m e s p L #[.string xo, .int .i64 (t0 : Int), .int .i64 xc, .int .i64 (g0 : Int), .string xd] #[.int .i64 (t0 : Int), .int .i64 253, .int .i64 (l0 : Int), .int .i64 (g0 : Int), .int .i64 (u : Int), .int .i64 (b : Int), .int .i64 (tg : Int), .string F] by first | exact SU1.out.step hB | exact SU1.out.drew.step hB); clear hB
  go_wp2_with fail
  refine hK.out _ _ (QF.out _ SU2.out) (fun hHeld => ?_)
  clear hK K
  try simp only [Act.put, List.setIfInBounds_toArray, List.set_cons_zero, List.set_cons_succ]
  refine wpAnyH_ready (rs := [10]) (by kernel_rfl) (by simp) ?_
  refine AllReadyH.cons rfl (fun K hK => ?_) AllReadyH.nil
  go_simp
  go_at_call 28; refine (HPW.out _).mono ?_; rintro r w3 ⟨rfl, hw3⟩; have SU3 := hide' (show Su w w3 R Q f m e s p L #[.string xo, .int .i64 (t0 : Int), .int .i64 xc, .int .i64 (g0 : Int), .string xd] #[.int .i64 (t0 : Int), .int .i64 253, .int .i64 (l0 : Int), .int .i64 (g0 : Int), .int .i64 (u : Int), .int .i64 (b : Int), .int .i64 (tg : Int), .string F] by first | (rw [hw3]; exact SU2.out) | (rw [hw3]; exact SU2.out.drew)); clear hw3
  go_wp2_with fail
  refine hK.out _ _ (QF.out _ SU3.out) (fun hHeld => ?_)
  clear hK K
  try simp only [Act.put, List.setIfInBounds_toArray, List.set_cons_zero, List.set_cons_succ]
  refine takeD 11 (some 14) (.int .i64 (PV : Int)) rfl rfl (by kernel_rfl) (by kernel_rfl) (by kernel_rfl) (fun _ _ _ h => h) (Or.inl ⟨by rfl, ?_⟩) (by assumption) ?_
  · intro w hSw; (try dsimp only at hSw); go_simp <;> (intros; omega)
  simp only [Act.put, List.setIfInBounds_toArray, List.set_cons_zero, List.set_cons_succ]
  refine wpAnyH_done (by kernel_rfl) ?_ _
  clear k0 k1 k2 k3 k4 k5 k6 k7 m1 m3
  obtain ⟨k0, k1, k2, k3, k4, k5, k6, k7, m1, m3⟩ := QF.out _ SU3.out
  go_upto_region 15 with (first
    | (go_at_call 31; refine (HST.out _).mono ?_; rintro r w4 ⟨rfl, hB⟩; have SU4 := hide' (show Su w w4 R Q f m e s p L #[.string xo, .int .i64 (t0 : Int), .int .i64 xc, .int .i64 (g0 : Int), .string xd] #[.int .i64 (t0 : Int), .int .i64 253, .int .i64 (l0 : Int), .int .i64 (g0 : Int), .int .i64 (u : Int), .int .i64 (b : Int), .int .i64 (tg : Int), .string F] by first | exact SU3.out.step hB | exact SU3.out.drew.step hB); clear hB)
    | (go_at_call 32; refine (HSB.out _).mono ?_; rintro r w5 ⟨rfl, hB⟩; have SU5 := hide' (show Su w w5 R Q f m e s p L #[.string xo, .int .i64 (t0 : Int), .int .i64 xc, .int .i64 (g0 : Int), .string xd] #[.int .i64 (t0 : Int), .int .i64 253, .int .i64 (l0 : Int), .int .i64 (g0 : Int), .int .i64 (u : Int), .int .i64 (b : Int), .int .i64 (tg : Int), .string F] by first | exact SU4.out.step hB | exact SU4.out.drew.step hB); clear hB; have r1 := SU5.out.1.2.1.cell (j := 1) rfl; have r4 := SU5.out.1.2.1.cell (j := 4) rfl; have f1 := SU5.out.1.2.1.free 1; have f4 := SU5.out.1.2.1.free 4))
  rename_i KK hKK
  have HKK := hide' hKK
  clear hKK
  have E := (SU5.out.1.2.1.set 1 (.int .i64 46)).set 4 (.string (S0 ++ B4))
  have Z := (SU5.out.1.1.2.1.grown (grown_set w5 R 1 (.int .i64 46)) (by intro e; injection e with e; have := SU5.out.1.2.2; omega)).grown (grown_set _ R 4 (.string (S0 ++ B4))) (by intro e; injection e with e; have := SU5.out.1.2.2; omega)
  have hBB : Below w.heap.size w ((w5.setCell ⟨R, 1, none⟩ (.int .i64 46)).setCell ⟨R, 4, none⟩ (.string (S0 ++ B4))) := (SU5.out.1.1.2.2.1.setCell (p := ⟨R, 1, none⟩) (by have := SU5.out.1.2.2; show w.heap.size ≤ R; omega) (.int .i64 46)).setCell (p := ⟨R, 4, none⟩) (by have := SU5.out.1.2.2; show w.heap.size ≤ R; omega) (.string (S0 ++ B4))
  obtain ⟨W7, hW7⟩ : ∃ W7, (w5.setCell ⟨R, 1, none⟩ (.int .i64 46)).setCell ⟨R, 4, none⟩ (.string (S0 ++ B4)) = W7 := ⟨_, rfl⟩
  rw [hW7] at E Z hBB ⊢
  have a0 := E.cell (j := 0) (v := .string xo) (by simp)
  have a1 := E.cell (j := 1) (v := .int .i64 46) (by simp)
  have a2 := E.cell (j := 2) (v := .int .i64 xc) (by simp)
  have a3 := E.cell (j := 3) (v := .int .i64 (g0 : Int)) (by simp)
  have a4 := E.cell (j := 4) (v := .string (S0 ++ B4)) (by simp)
  have z0 := Z.cell (j := 0) rfl
  have z1 := Z.cell (j := 1) rfl
  have z2 := Z.cell (j := 2) rfl
  have z3 := Z.cell (j := 3) rfl
  have z4 := Z.cell (j := 4) rfl
  have f0 := Z.free 0
  have f1 := Z.free 1
  have f2 := Z.free 2
  have f3 := Z.free 3
  have f4 := Z.free 4
  have HBB := hide' hBB
  have HZ := hide' Z
  clear hW7 E Z hBB r1 r4 SU0 SU1 SU2 SU3 SU4 SU5 k0 k1 k2 k3 k4 k5 k6 k7 m1 m3
  go_wp2_with fail
  refine HKK.out _ _ ?_
  have E2 := ((((HZ.out.set 0 (.string xo)).set 1 (.int .i64 46)).set 2 (.int .i64 xc)).set 3 (.int .i64 (g0 : Int))).set 4 (.string (S0 ++ B4))
  have q0 := E2.cell (j := 0) (v := .string xo) (by simp)
  have q1 := E2.cell (j := 1) (v := .int .i64 46) (by simp)
  have q2 := E2.cell (j := 2) (v := .int .i64 xc) (by simp)
  have q3 := E2.cell (j := 3) (v := .int .i64 (g0 : Int)) (by simp)
  have q4 := E2.cell (j := 4) (v := .string (S0 ++ B4)) (by simp)
  have BE := hide' (((((HBB.out.setCell (p := ⟨w.heap.size + 1, 0, none⟩) (Nat.le_succ _) (.string xo)).setCell (p := ⟨w.heap.size + 1, 1, none⟩) (Nat.le_succ _) (.int .i64 46)).setCell (p := ⟨w.heap.size + 1, 2, none⟩) (Nat.le_succ _) (.int .i64 xc)).setCell (p := ⟨w.heap.size + 1, 3, none⟩) (Nat.le_succ _) (.int .i64 (g0 : Int))).setCell (p := ⟨w.heap.size + 1, 4, none⟩) (Nat.le_succ _) (.string (S0 ++ B4)))
  go_wp2_with fail
  refine bodyPost_ret (v := .tuple #[.agg #[.string xo, .int .i64 46, .int .i64 xc, .int .i64 (g0 : Int), .string (S0 ++ B4)], .int .i64 0]) (by simp [results, go_sem, q0, q1, q2, q3, q4]) rfl ⟨rfl, BE.out⟩
end Go.Proofs.YtennkhdhnbdbeaaGreat
