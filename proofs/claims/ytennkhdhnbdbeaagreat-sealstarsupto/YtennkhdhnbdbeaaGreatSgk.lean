import Derived.Test.YtennkhdhnbdbeaaGreatSghG
/-
  SealStars: its walk. (The verifier's own text.)
-/
namespace Go.Proofs.YtennkhdhnbdbeaaGreat
set_option linter.unusedVariables false
set_option linter.unusedSimpArgs false
open Go.RowKit Go.Shelf Go.Sort Go.Proofs.YtennkhdhnbdbeaaGreat.Nm

theorem keyR_cases (p q e : Int) : (∃ m c s : Nat, keyR p q e 256 = .tuple #[.agg #[.int .i64 256, .int .i64 (m : Int), .int .i64 (c : Int), .int .i64 (s : Int)], .int .i64 0] ∧ KY m c s) ∨ keyR p q e 256 = .tuple #[.agg #[.int .i64 0, .int .i64 0, .int .i64 0, .int .i64 0], .int .i64 24] := by
  by_cases h : KeyOK p q e 256
  · exact .inl (ky_of h)
  · exact .inr (keyR_no h)
set_option maxRecDepth 100000 in
theorem key_first : KeyOK 251 263 3 256 := (keyOKB_iff _ _ _ _).1 (by kernel_rfl)
set_option maxRecDepth 100000 in
set_option maxHeartbeats 8000000 in
theorem stars_any (p q e t : Int) (n d : ByteArray) (pa : Option Addr) (ca : Nat) (ah : List ByteArray) (w : World) (hn : n.size ≤ 1048576) (hd : d.size ≤ 1048576) (hst : StrsAt w pa ah) (hno : pa = none → ca = 0) (hal : ah.length + n.size ≤ 1048576) (haz : ∀ x ∈ ah, x.size ≤ 1048576) :
    Calls Tryz.prog 6 #[.int .i64 p, .int .i64 q, .int .i64 e, .string n, .slice pa ah.length ca, .int .i64 t, .string d] w fun r w' => r = .returned (.bool true) ∧ Below w.heap.size w w' := by
  obtain ⟨m0, c0, s0, hk0, hK0⟩ := ky_of key_first
  have HN0 := hide' (fun w => newKey_any 251 263 3 256 w)
  rw [hk0] at HN0
  have HN1 := hide' (fun w => newKey_any p q e 256 w)
  have HSTA := hide' (fun w => star_any n w (by unfold maxLen; omega))
  have HK0 := hide' hK0
  have HALL := hide' (fun (m c s R G : Nat) (V : World) (hK : KY m c s) (HP : Hid (Sp w V R G #[.int .i64 256, .int .i64 (m : Int), .int .i64 (c : Int), .int .i64 (s : Int)] #[.string (starB n), .int .i64 t, .int .i64 1, .int .i64 60, .string d])) => stars_all n d t pa ca ah m c s R G w V hK hn hd hst hno hal haz HP)
  generalize starB n = sn at *
  clear hK0 hk0 hn hd hst hno hal haz
  have T1 : Hid True := trivial
  rcases keyR_cases p q e with ⟨m, c, s, hk, hK⟩ | hk
  · rw [hk] at HN1
    have HK := hide' hK
    clear hK hk
    go_enter Tryz.func6, Tryz.ntmps6
    go_upto_region 7 with (first
      | (go_at_call 13; have _ := T1; clear T1; refine (HN0.out _).mono ?_; rintro r w1 ⟨rfl, hB1⟩; have X1 : Hid (Bx (w1.alloc (.cells #[.int .i64 256, .int .i64 (m0 : Int), .int .i64 (c0 : Int), .int .i64 (s0 : Int)] 23)) w1.heap.size #[.int .i64 256, .int .i64 (m0 : Int), .int .i64 (c0 : Int), .int .i64 (s0 : Int)] 23) := World.alloc_heap_new w1 _; have B1 : Hid (Below w.heap.size w (w1.alloc (.cells #[.int .i64 256, .int .i64 (m0 : Int), .int .i64 (c0 : Int), .int .i64 (s0 : Int)] 23))) := hB1.alloc hB1.size _; have S1 := hide' hB1.size; clear hB1)
      | (go_at_call 13; refine (HN1.out _).mono ?_; rintro r w2 ⟨rfl, hB2⟩; have X2 := hide' ((X1.out.below hB2 X1.out.lt).grown (World.grownBy_alloc w2 (.cells #[.int .i64 256, .int .i64 (m : Int), .int .i64 (c : Int), .int .i64 (s : Int)] 23) none) (by simp)); have B2 := hide' (Below.alloc (bstep B1.out hB2 B1.out.size) (bstep B1.out hB2 B1.out.size).size (.cells #[.int .i64 256, .int .i64 (m : Int), .int .i64 (c : Int), .int .i64 (s : Int)] 23)); have x0 := X2.out.cell (j := 0) rfl; have x1 := X2.out.cell (j := 1) rfl; have x2 := X2.out.cell (j := 2) rfl; have x3 := X2.out.cell (j := 3) rfl; have f0 := X2.out.free 0; have f1 := X2.out.free 1; have f2 := X2.out.free 2; have f3 := X2.out.free 3; clear hB2))
    rename_i KK hKK
    have HKK := hide' hKK
    clear hKK
    obtain ⟨R, hR⟩ : ∃ R, w1.heap.size = R := ⟨_, rfl⟩
    have X4 := (((X2.out.set 0 (.int .i64 256)).set 1 (.int .i64 (m : Int))).set 2 (.int .i64 (c : Int))).set 3 (.int .i64 (s : Int))
    have B4 := (((B2.out.setCell (p := ⟨w1.heap.size, 0, none⟩) S1.out (.int .i64 256)).setCell (p := ⟨w1.heap.size, 1, none⟩) S1.out (.int .i64 (m : Int))).setCell (p := ⟨w1.heap.size, 2, none⟩) S1.out (.int .i64 (c : Int))).setCell (p := ⟨w1.heap.size, 3, none⟩) S1.out (.int .i64 (s : Int))
    obtain ⟨W4, hW4⟩ : ∃ W4, ((((w2.alloc (.cells #[.int .i64 256, .int .i64 (m : Int), .int .i64 (c : Int), .int .i64 (s : Int)] 23)).setCell ⟨w1.heap.size, 0, none⟩ (.int .i64 256)).setCell ⟨w1.heap.size, 1, none⟩ (.int .i64 (m : Int))).setCell ⟨w1.heap.size, 2, none⟩ (.int .i64 (c : Int))).setCell ⟨w1.heap.size, 3, none⟩ (.int .i64 (s : Int)) = W4 := ⟨_, rfl⟩
    rw [hW4] at X4 B4
    have HX4 : Hid (Bx W4 R #[.int .i64 256, .int .i64 (m : Int), .int .i64 (c : Int), .int .i64 (s : Int)] 23) := by unfold Hid; rw [← hR]; simpa using X4
    have HB4 := hide' B4
    have HR : Hid (w.heap.size ≤ R) := by rw [← hR]; exact S1.out
    simp only [hW4]
    simp only [hR]
    clear hW4 hR X4 B4 X1 X2 x0 x1 x2 x3 f0 f1 f2 f3 B1 B2 S1
    go_wp2_with (go_at_call 16; refine (HSTA.out _).mono ?_; rintro r w5 ⟨rfl, hB5⟩; have HX5 := hide' (HX4.out.below hB5 HX4.out.lt); have HB5 := hide' (bstep HB4.out hB5 HB4.out.size); clear hB5)
    refine HKK.out _ _ ?_
    exact HALL.out m c s R w5.heap.size _ HK.out (show Hid (Sp w _ R _ _ _) from ⟨HX5.out.grown (World.grownBy_alloc _ _ none) (by simp), World.alloc_heap_new w5 _, HB5.out.alloc HB5.out.size _, HR.out, HX5.out.lt⟩) _ _ _ _ _ _ _ _ _ _ _ _ _ _ _ _ _ _ _ _ _ _ _ _ _ _ _ _ _ _ _ _ _ _ _ _ _ _ _ _ _ _ _ _ _ _ _ _ _ _ _ _ _ _ _ _ _ _ _ _ _ _ _ _ _ _ _ _ _ _ _ _ _ _ _ _ _ _ _ _ _ _ _ _ _ _ _ _ _ _ _ _ _ _ _ _ _ _ _ _ _ _ _ _
  · rw [hk] at HN1
    clear hk
    go_enter Tryz.func6, Tryz.ntmps6
    go_upto_region 7 with (first
      | (go_at_call 13; have _ := T1; clear T1; refine (HN0.out _).mono ?_; rintro r w1 ⟨rfl, hB1⟩; have X1 : Hid (Bx (w1.alloc (.cells #[.int .i64 256, .int .i64 (m0 : Int), .int .i64 (c0 : Int), .int .i64 (s0 : Int)] 23)) w1.heap.size #[.int .i64 256, .int .i64 (m0 : Int), .int .i64 (c0 : Int), .int .i64 (s0 : Int)] 23) := World.alloc_heap_new w1 _; have B1 : Hid (Below w.heap.size w (w1.alloc (.cells #[.int .i64 256, .int .i64 (m0 : Int), .int .i64 (c0 : Int), .int .i64 (s0 : Int)] 23))) := hB1.alloc hB1.size _; have S1 := hide' hB1.size; clear hB1)
      | (go_at_call 13; refine (HN1.out _).mono ?_; rintro r w2 ⟨rfl, hB2⟩; have X2 := hide' ((X1.out.below hB2 X1.out.lt).grown (World.grownBy_alloc w2 (.cells #[.int .i64 0, .int .i64 0, .int .i64 0, .int .i64 0] 23) none) (by simp)); have B2 := hide' (Below.alloc (bstep B1.out hB2 B1.out.size) (bstep B1.out hB2 B1.out.size).size (.cells #[.int .i64 0, .int .i64 0, .int .i64 0, .int .i64 0] 23)); have x0 := X2.out.cell (j := 0) rfl; have x1 := X2.out.cell (j := 1) rfl; have x2 := X2.out.cell (j := 2) rfl; have x3 := X2.out.cell (j := 3) rfl; have f0 := X2.out.free 0; have f1 := X2.out.free 1; have f2 := X2.out.free 2; have f3 := X2.out.free 3; clear hB2))
    rename_i KK hKK
    have HKK := hide' hKK
    clear hKK
    obtain ⟨R, hR⟩ : ∃ R, w1.heap.size = R := ⟨_, rfl⟩
    obtain ⟨W4, hW4⟩ : ∃ W4, w2.alloc (.cells #[.int .i64 0, .int .i64 0, .int .i64 0, .int .i64 0] 23) = W4 := ⟨_, rfl⟩
    have HX4 : Hid (Bx W4 R #[.int .i64 256, .int .i64 (m0 : Int), .int .i64 (c0 : Int), .int .i64 (s0 : Int)] 23) := by rw [← hR, ← hW4]; exact X2.out
    have HB4 : Hid (Below w.heap.size w W4) := by rw [← hW4]; exact B2.out
    have HR : Hid (w.heap.size ≤ R) := by rw [← hR]; exact S1.out
    simp only [hW4]
    simp only [hR]
    clear hW4 hR X1 X2 x0 x1 x2 x3 f0 f1 f2 f3 B1 B2 S1
    go_wp2_with (go_at_call 16; refine (HSTA.out _).mono ?_; rintro r w5 ⟨rfl, hB5⟩; have HX5 := hide' (HX4.out.below hB5 HX4.out.lt); have HB5 := hide' (bstep HB4.out hB5 HB4.out.size); clear hB5)
    refine HKK.out _ _ ?_
    exact HALL.out m0 c0 s0 R w5.heap.size _ HK0.out (show Hid (Sp w _ R _ _ _) from ⟨HX5.out.grown (World.grownBy_alloc _ _ none) (by simp), World.alloc_heap_new w5 _, HB5.out.alloc HB5.out.size _, HR.out, HX5.out.lt⟩) _ _ _ _ _ _ _ _ _ _ _ _ _ _ _ _ _ _ _ _ _ _ _ _ _ _ _ _ _ _ _ _ _ _ _ _ _ _ _ _ _ _ _ _ _ _ _ _ _ _ _ _ _ _ _ _ _ _ _ _ _ _ _ _ _ _ _ _ _ _ _ _ _ _ _ _ _ _ _ _ _ _ _ _ _ _ _ _ _ _ _ _ _ _ _ _ _ _ _ _ _ _ _ _
end Go.Proofs.YtennkhdhnbdbeaaGreat
