import Derived.Test.YtgekfhghambacaaGreatPjbG
/-
  Proofs: an NSEC3 that is read. (The verifier's own text.)
-/
namespace Go.Proofs.YtgekfhghambacaaGreat
set_option linter.unusedVariables false
set_option linter.unusedSimpArgs false
open Go.RowKit Go.Shelf Go.Proofs.YtgekfhghambacaaGreat.Nm

theorem takeJ {P : Program} {ops : Array Oper} {Q : Exit → Act → World → Prop} {md : Region.Mode} {S : World → Prop} (i : Nat) (d : Option Tmp) (v : Value) {oi : Oper} {fuel : Nat} {listed : Array Bool} {a : Act} {w : World} (hi : ops[i]? = some oi) (hd : oi.dst = d)
    (hs : Region.noSelect ops = true) (hf : Region.free md ops listed i = true) (hr : (Region.ready md ops listed).contains i = true)
    (hQ : ∀ c a w, Q (.panic c) (a.put d v) w → Q (.panic c) a w) (hy : YieldsIf P ops S oi v a) (hS : S w)
    (h : wpAnyH P md ops Q S fuel (listed.setIfInBounds i true) (a.put d v) w) : wpAnyH P md ops Q S (fuel + 1) listed a w := by
  subst hd
  exact wpAnyH_take hi hs hf hr hQ hy hS h
/-- an NSEC3's rounds, salt, what is behind them, next hash, types -/
def rd3 (d : ByteArray) : Nat := vN (d.extract 2 4) 2
def sl3 (d : ByteArray) : ByteArray := d.extract 5 (5 + slZ d)
def rs3 (d : ByteArray) : ByteArray := d.extract (5 + slZ d) d.size
def nx3 (d : ByteArray) : ByteArray := (rs3 d).extract 1 (1 + hsZ d)
def ts3 (d : ByteArray) : ByteArray := (rs3 d).extract (1 + hsZ d) (rs3 d).size
def ok3 (apex o d : ByteArray) : Bool := ((d.extract 0 2).toList == [1, 0]) && (decide (rd3 d ≤ 50) && (decide ((ohB apex o).size = 10) && decide (hsZ d = 10)))
/-- what lies along: the record, the result, the way -/
def Rv (w V : World) (B : Nat) (rc wc : Array Value) : Prop := Bx V w.heap.size rc 36 ∧ Bx V (w.heap.size + 1) #[.int .i64 0, .string ⟨#[]⟩, .int .i64 0, .string ⟨#[]⟩, .string ⟨#[]⟩, .string ⟨#[]⟩] 122 ∧ Bx V B wc 120 ∧ w.heap.size + 1 < B ∧ Below w.heap.size w V
theorem Rv.step {w V V' : World} {B : Nat} {rc wc : Array Value} (h : Rv w V B rc wc) (hB : Below V.heap.size V V') : Rv w V' B rc wc := ⟨h.1.below hB h.1.lt, h.2.1.below hB h.2.1.lt, h.2.2.1.below hB h.2.2.1.lt, h.2.2.2.1, bstep h.2.2.2.2 hB h.2.2.2.2.size⟩
theorem Rv.drew {w V : World} {B : Nat} {rc wc : Array Value} (h : Rv w V B rc wc) : Rv w V.drew B rc wc := ⟨h.1, h.2.1, h.2.2.1, h.2.2.2.1, h.2.2.2.2.drew⟩
def Rw (w V : World) (B Q : Nat) (rc wc pc : Array Value) : Prop := Rv w V B rc wc ∧ Bx V Q pc 122 ∧ B < Q
theorem Rw.start {w V : World} {B : Nat} {rc wc : Array Value} (h : Rv w V B rc wc) (pc : Array Value) : Rw w (V.alloc (.cells pc 122)) B V.heap.size rc wc pc := ⟨h.step ((Below.refl _ _).alloc (Nat.le_refl _) _), World.alloc_heap_new V _, h.2.2.1.lt⟩
theorem Rw.step {w V V' : World} {B Q : Nat} {rc wc pc : Array Value} (h : Rw w V B Q rc wc pc) (hB : Below V.heap.size V V') : Rw w V' B Q rc wc pc := ⟨h.1.step hB, h.2.1.below hB h.2.1.lt, h.2.2⟩
theorem Rw.drew {w V : World} {B Q : Nat} {rc wc pc : Array Value} (h : Rw w V B Q rc wc pc) : Rw w V.drew B Q rc wc pc := ⟨h.1.drew, h.2.1, h.2.2⟩
theorem Rw.put {w V : World} {B Q : Nat} {rc wc pc : Array Value} (h : Rw w V B Q rc wc pc) (j : Nat) (v : Value) : Rw w (V.setCell ⟨Q, j, none⟩ v) B Q rc wc (pc.setIfInBounds j v) :=
  ⟨⟨h.1.1.grown (grown_set V Q j v) (by intro e; injection e with e; have := h.1.2.2.2.1; have := h.2.2; omega), h.1.2.1.grown (grown_set V Q j v) (by intro e; injection e with e; have := h.1.2.2.2.1; have := h.2.2; omega), h.1.2.2.1.grown (grown_set V Q j v) (by intro e; injection e with e; have := h.2.2; omega), h.1.2.2.2.1, h.1.2.2.2.2.setCell (p := ⟨Q, j, none⟩) (by show w.heap.size ≤ Q; have := h.1.2.2.2.1; have := h.2.2; omega) v⟩, h.2.1.set j v, h.2.2⟩
set_option maxRecDepth 100000 in
set_option maxHeartbeats 4000000 in
/-- proof.readNsec3 -/
theorem readNsec3_any (apex o d : ByteArray) (t c l : Int) (w : World) (ha : isN apex = true) (ho : isN o = true) (h5 : 5 + slZ d < d.size) (h6 : 6 + slZ d + hsZ d ≤ d.size) (hd : d.size ≤ 65535) :
    Calls Tryz.prog 70 #[.string apex, .agg #[.string o, .int .i64 t, .int .i64 c, .int .i64 l, .string d]] w fun r w' => r = .returned (.tuple #[.agg #[.int .i64 0, .string (ts3 d), .int .i64 (rd3 d : Int), .string (sl3 d), .string (ohB apex o), .string (nx3 d)], .bool (ok3 apex o d)]) ∧ Below w.heap.size w w' := by
  have HRW := hide' (fun W => readWay_any d W (by omega) hd)
  have HOH := hide' (fun W => ownHash_any apex o W ha ho)
  have HHP := hide' (fun W => hasPlain_any d W hd (by omega))
  have hrz : (rs3 d).size = d.size - (5 + slZ d) := size_extract' _ _ _ (Nat.le_refl _)
  have hb0 : bt (rs3 d) 0 = hsZ d := bt_at d (5 + slZ d) (by omega)
  have HOK : Hid (ok3 apex o d = (((d.extract 0 2).toList == [1, 0]) && (decide (rd3 d ≤ 50) && (decide ((ohB apex o).size = 10) && decide (hsZ d = 10))))) := rfl
  have HTS : Hid (ts3 d = (rs3 d).extract (1 + hsZ d) (rs3 d).size) := rfl
  have HNX : Hid (nx3 d = (rs3 d).extract 1 (1 + hsZ d)) := rfl
  rw [HOK.out, HTS.out, HNX.out]
  change Hid (∀ W : World, Calls Tryz.prog 77 #[.string d] W fun r w' => r = .returned (.tuple #[.agg #[.int .i64 (rd3 d : Int), .string (sl3 d)], .string (rs3 d)]) ∧ Below W.heap.size W w') at HRW
  generalize ohB apex o = OH at *
  generalize rd3 d = rd at *
  generalize sl3 d = sl at *
  obtain ⟨RS, hRS⟩ : ∃ RS, rs3 d = RS := ⟨_, rfl⟩
  rw [hRS] at hrz hb0 HRW ⊢
  clear hRS
  have hpos : 0 < RS.size := by omega
  obtain ⟨y, hy, HY, hyl⟩ := bt_wrap (s := RS) (i := 0) hpos
  have hyz : hsZ d = y := by rw [← HY]; exact hb0.symm
  rw [hyz] at h6 ⊢
  have b0 : (1 : Int) + (y : Int) ≤ (RS.size : Int) := by omega
  have b1 : (0 : Int) ≤ 1 + (y : Int) := by omega
  have b2 : (1 : Int) ≤ 1 + (y : Int) := by omega
  have b3 : ((1 : Int) + (y : Int)).toNat = 1 + y := by omega
  have b4 : (0 : Int) < (RS.size : Int) := by omega
  have hwr : IntKind.i64.wrap (1 + (y : Int)) = 1 + (y : Int) := by unfold IntKind.wrap; simp [IntKind.bits, IntKind.signed]; omega
  generalize ((d.extract 0 2).toList == [1, 0]) = hp at *
  have x0 : Bx (w.alloc (.cells #[.string o, .int .i64 t, .int .i64 c, .int .i64 l, .string d] 36)) w.heap.size #[.string o, .int .i64 t, .int .i64 c, .int .i64 l, .string d] 36 := World.alloc_heap_new w _
  have x1 : Bx ((w.alloc (.cells #[.string o, .int .i64 t, .int .i64 c, .int .i64 l, .string d] 36)).alloc (.cells #[.int .i64 0, .string ⟨#[]⟩, .int .i64 0, .string ⟨#[]⟩, .string ⟨#[]⟩, .string ⟨#[]⟩] 122)) (w.heap.size + 1) #[.int .i64 0, .string ⟨#[]⟩, .int .i64 0, .string ⟨#[]⟩, .string ⟨#[]⟩, .string ⟨#[]⟩] 122 := by
    have h := World.alloc_heap_new (w.alloc (.cells #[.string o, .int .i64 t, .int .i64 c, .int .i64 l, .string d] 36)) (.cells #[.int .i64 0, .string ⟨#[]⟩, .int .i64 0, .string ⟨#[]⟩, .string ⟨#[]⟩, .string ⟨#[]⟩] 122)
    rw [World.size_alloc] at h
    exact h
  have x2 : Bx ((w.alloc (.cells #[.string o, .int .i64 t, .int .i64 c, .int .i64 l, .string d] 36)).alloc (.cells #[.int .i64 0, .string ⟨#[]⟩, .int .i64 0, .string ⟨#[]⟩, .string ⟨#[]⟩, .string ⟨#[]⟩] 122)) w.heap.size #[.string o, .int .i64 t, .int .i64 c, .int .i64 l, .string d] 36 := x0.below ((Below.refl _ _).alloc (Nat.le_refl _) _) (by simp)
  have HB : Hid (Below w.heap.size w ((w.alloc (.cells #[.string o, .int .i64 t, .int .i64 c, .int .i64 l, .string d] 36)).alloc (.cells #[.int .i64 0, .string ⟨#[]⟩, .int .i64 0, .string ⟨#[]⟩, .string ⟨#[]⟩, .string ⟨#[]⟩] 122))) := ((Below.refl _ _).alloc (Nat.le_refl _) _).alloc (by simp) _
  have k4 := x2.cell (j := 4) (v := .string d) rfl
  have k0 := x2.cell (j := 0) (v := .string o) rfl
  have HX1 := hide' x1
  have HX2 := hide' x2
  clear x0 x1 x2 HOK HTS HNX HY hyz hb0 ha ho hrz h5 h6 hd
  go_enter Tryz.func70, Tryz.ntmps70
  go_upto_region 3 with (go_at_call 77; refine (HRW.out _).mono ?_; rintro r w1 ⟨rfl, hB⟩; have HX3 := hide' (HX1.out.below hB HX1.out.lt); have HX4 := hide' (HX2.out.below hB HX2.out.lt); have HB1 := hide' (bstep HB.out hB HB.out.size); have HLT := hide' (show w.heap.size + 1 < w1.heap.size from HX3.out.lt); clear hB k0 k4)
  rename_i KK hKK
  have HKK := hide' hKK
  clear hKK
  obtain ⟨W2, hW2⟩ : ∃ W2, w1.alloc (.cells #[.int .i64 (rd : Int), .string sl] 120) = W2 := ⟨_, rfl⟩
  obtain ⟨B, hBB⟩ : ∃ B, w1.heap.size = B := ⟨_, rfl⟩
  have RVA : Hid (Rv w W2 B #[.string o, .int .i64 t, .int .i64 c, .int .i64 l, .string d] #[.int .i64 (rd : Int), .string sl]) := by
    rw [← hW2, ← hBB]
    have h1 : Below w1.heap.size w1 (w1.alloc (.cells #[.int .i64 (rd : Int), .string sl] 120)) := (Below.refl _ _).alloc (Nat.le_refl _) _
    exact ⟨HX4.out.below h1 HX4.out.lt, HX3.out.below h1 HX3.out.lt, World.alloc_heap_new w1 _, HLT.out, bstep HB1.out h1 HB1.out.size⟩
  simp only [hW2, hBB]
  clear hW2 hBB HX1 HX2 HX3 HX4 HB HB1 HLT HRW
  have QF : Hid (∀ V : World, Rv w V B #[.string o, .int .i64 t, .int .i64 c, .int .i64 l, .string d] #[.int .i64 (rd : Int), .string sl] → V.cell? ⟨w.heap.size, 0, none⟩ = some (.string o) ∧ V.cell? ⟨w.heap.size, 4, none⟩ = some (.string d) ∧ V.cell? ⟨B, 0, none⟩ = some (.int .i64 (rd : Int)) ∧ V.cell? ⟨B, 1, none⟩ = some (.string sl)) := fun V h => ⟨h.1.cell rfl, h.1.cell rfl, h.2.2.1.cell rfl, h.2.2.1.cell rfl⟩
  obtain ⟨k0, k4, k5, k6⟩ := QF.out _ RVA.out
  refine wp_region_held_drew (S := fun V => V.cell? ⟨w.heap.size, 0, none⟩ = some (.string o) ∧ V.cell? ⟨w.heap.size, 4, none⟩ = some (.string d) ∧ V.cell? ⟨B, 0, none⟩ = some (.int .i64 (rd : Int)) ∧ V.cell? ⟨B, 1, none⟩ = some (.string sl)) (by kernel_rfl) ?_ (fun hHeld => ?_)
  · (try dsimp only); go_keep
  refine takeJ 0 (some 20) (.agg #[.int .i64 (rd : Int), .string sl]) rfl rfl (by kernel_rfl) (by kernel_rfl) (by kernel_rfl) (fun _ _ _ h => h) (Or.inl ⟨by rfl, ?_⟩) (by assumption) ?_
  · intro w hSw; (try dsimp only at hSw); go_simp <;> (intros; omega)
  simp only [Act.put, List.setIfInBounds_toArray, List.set_cons_zero, List.set_cons_succ]
  refine takeJ 1 (some 21) (.string apex) rfl rfl (by kernel_rfl) (by kernel_rfl) (by kernel_rfl) (fun _ _ _ h => h) (Or.inl ⟨by rfl, ?_⟩) (by assumption) ?_
  · intro w hSw; (try dsimp only at hSw); go_simp <;> (intros; omega)
  simp only [Act.put, List.setIfInBounds_toArray, List.set_cons_zero, List.set_cons_succ]
  refine takeJ 2 (some 22) (.pointer (some ⟨w.heap.size, 0, none⟩)) rfl rfl (by kernel_rfl) (by kernel_rfl) (by kernel_rfl) (fun _ _ _ h => h) (Or.inl ⟨by rfl, ?_⟩) (by assumption) ?_
  · intro w hSw; (try dsimp only at hSw); go_simp <;> (intros; omega)
  simp only [Act.put, List.setIfInBounds_toArray, List.set_cons_zero, List.set_cons_succ]
  refine takeJ 3 (some 23) (.string o) rfl rfl (by kernel_rfl) (by kernel_rfl) (by kernel_rfl) (fun _ _ _ h => h) (Or.inl ⟨by rfl, ?_⟩) (by assumption) ?_
  · intro w hSw; (try dsimp only at hSw); go_simp <;> (intros; omega)
  simp only [Act.put, List.setIfInBounds_toArray, List.set_cons_zero, List.set_cons_succ]
  refine takeJ 5 (some 25) (.string RS) rfl rfl (by kernel_rfl) (by kernel_rfl) (by kernel_rfl) (fun _ _ _ h => h) (Or.inl ⟨by rfl, ?_⟩) (by assumption) ?_
  · intro w hSw; (try dsimp only at hSw); go_simp <;> (intros; omega)
  simp only [Act.put, List.setIfInBounds_toArray, List.set_cons_zero, List.set_cons_succ]
  refine takeJ 6 (some 26) (.int .i64 (y : Int)) rfl rfl (by kernel_rfl) (by kernel_rfl) (by kernel_rfl) (fun _ _ _ h => h) (Or.inl ⟨by rfl, ?_⟩) (by assumption) ?_
  · intro w hSw; (try dsimp only at hSw); go_simp <;> (intros; omega)
  simp only [Act.put, List.setIfInBounds_toArray, List.set_cons_zero, List.set_cons_succ]
  refine takeJ 7 (some 27) (.int .i64 (1 + (y : Int))) rfl rfl (by kernel_rfl) (by kernel_rfl) (by kernel_rfl) (fun _ _ _ h => h) (Or.inl ⟨by rfl, ?_⟩) (by assumption) ?_
  · intro w hSw; (try dsimp only at hSw); go_simp <;> (intros; omega)
  simp only [Act.put, List.setIfInBounds_toArray, List.set_cons_zero, List.set_cons_succ]
  refine takeJ 8 (some 28) (.string (RS.extract 1 (1 + y))) rfl rfl (by kernel_rfl) (by kernel_rfl) (by kernel_rfl) (fun _ _ _ h => h) (Or.inl ⟨by rfl, ?_⟩) (by assumption) ?_
  · intro w hSw; (try dsimp only at hSw); go_simp <;> (intros; omega)
  simp only [Act.put, List.setIfInBounds_toArray, List.set_cons_zero, List.set_cons_succ]
  refine wpAnyH_ready (rs := [4, 10]) (by kernel_rfl) (by simp) ?_
  refine AllReadyH.cons rfl (fun K hK => ?_) (AllReadyH.cons rfl (fun K hK => ?_) AllReadyH.nil)
  · go_simp
    go_at_call 78; refine (HOH.out _).mono ?_; rintro r vB ⟨rfl, hB⟩; have RVB := hide' (show Rv w vB B #[.string o, .int .i64 t, .int .i64 c, .int .i64 l, .string d] #[.int .i64 (rd : Int), .string sl] by first | exact RVA.out.step hB | exact RVA.out.drew.step hB); clear hB
    go_wp2_with fail
    refine hK.out _ _ (QF.out _ RVB.out) (fun hHeld => ?_)
    clear hK K
    try simp only [Act.put, List.setIfInBounds_toArray, List.set_cons_zero, List.set_cons_succ]
    refine takeJ 9 (some 29) (.agg #[.int .i64 0, .string ⟨#[]⟩, .int .i64 (rd : Int), .string sl, .string OH, .string (RS.extract 1 (1 + y))]) rfl rfl (by kernel_rfl) (by kernel_rfl) (by kernel_rfl) (fun _ _ _ h => h) (Or.inl ⟨by rfl, ?_⟩) (by assumption) ?_
    · intro w hSw; (try dsimp only at hSw); go_simp <;> (intros; omega)
    simp only [Act.put, List.setIfInBounds_toArray, List.set_cons_zero, List.set_cons_succ]
    refine wpAnyH_ready (rs := [10]) (by kernel_rfl) (by simp) ?_
    refine AllReadyH.cons rfl (fun K hK => ?_) AllReadyH.nil
    go_simp
    obtain ⟨Wz, hWz⟩ : ∃ Wz, World.alloc vB (.cells #[.int .i64 0, .string ⟨#[]⟩, .int .i64 0, .string ⟨#[]⟩, .string ⟨#[]⟩, .string ⟨#[]⟩] 122) = Wz := ⟨_, rfl⟩
    obtain ⟨Q, hQ⟩ : ∃ Q, (World.heap vB).size = Q := ⟨_, rfl⟩
    have RWB : Hid (Rw w Wz B Q #[.string o, .int .i64 t, .int .i64 c, .int .i64 l, .string d] #[.int .i64 (rd : Int), .string sl] #[.int .i64 0, .string ⟨#[]⟩, .int .i64 0, .string ⟨#[]⟩, .string ⟨#[]⟩, .string ⟨#[]⟩]) := by rw [← hWz, ← hQ]; exact Rw.start RVB.out _
    simp only [hWz, hQ]
    clear hWz hQ
    refine hK.out _ _ (by first | exact QF.out _ RWB.out.1 | exact QF.out _ RWB.out.drew.1) (fun hHeld => ?_)
    clear hK K
    try simp only [Act.put, List.setIfInBounds_toArray, List.set_cons_zero, List.set_cons_succ]
    refine wpAnyH_ready (rs := [11]) (by kernel_rfl) (by simp) ?_
    refine AllReadyH.cons rfl (fun K hK => ?_) AllReadyH.nil
    have e0 := RWB.out.2.1.cell (j := 0) rfl
    have e1 := RWB.out.2.1.cell (j := 1) rfl
    have e2 := RWB.out.2.1.cell (j := 2) rfl
    have e3 := RWB.out.2.1.cell (j := 3) rfl
    have e4 := RWB.out.2.1.cell (j := 4) rfl
    have e5 := RWB.out.2.1.cell (j := 5) rfl
    have fr0 := RWB.out.2.1.free 0
    have fr1 := RWB.out.2.1.free 1
    have fr2 := RWB.out.2.1.free 2
    have fr3 := RWB.out.2.1.free 3
    have fr4 := RWB.out.2.1.free 4
    have fr5 := RWB.out.2.1.free 5
    go_simp
    have RWF : Hid (Rw w _ B Q #[.string o, .int .i64 t, .int .i64 c, .int .i64 l, .string d] #[.int .i64 (rd : Int), .string sl] #[.int .i64 0, .string ⟨#[]⟩, .int .i64 (rd : Int), .string sl, .string OH, .string (RS.extract 1 (1 + y))]) := ((((((RWB.out.put 0 (.int .i64 0)).put 1 (.string ⟨#[]⟩)).put 2 (.int .i64 (rd : Int))).put 3 (.string sl)).put 4 (.string OH)).put 5 (.string (RS.extract 1 (1 + y))))
    refine hK.out _ _ (by first | exact QF.out _ RWF.out.1 | exact QF.out _ RWF.out.drew.1) (fun hHeld => ?_)
    clear hK K
    try simp only [Act.put, List.setIfInBounds_toArray, List.set_cons_zero, List.set_cons_succ]
    refine wpAnyH_done (by kernel_rfl) ?_ _
    clear e0 e1 e2 e3 e4 e5 fr0 fr1 fr2 fr3 fr4 fr5 k0 k4 k5 k6
    go_wp2_with fail
    refine HKK.out _ _ ?_
    obtain ⟨V3, hV3⟩ : ∃ V3, (World.setCell (World.setCell (World.setCell (World.setCell (World.setCell (World.setCell Wz ⟨Q, 0, none⟩ (.int .i64 0)) ⟨Q, 1, none⟩ (.string ⟨#[]⟩)) ⟨Q, 2, none⟩ (.int .i64 (rd : Int))) ⟨Q, 3, none⟩ (.string sl)) ⟨Q, 4, none⟩ (.string OH)) ⟨Q, 5, none⟩ (.string (RS.extract 1 (1 + y)))) = V3 := ⟨_, rfl⟩
    rw [hV3] at RWF
    simp only [hV3]
    clear hV3
    have e1 := RWF.out.2.1.cell (j := 1) rfl
    have fr1 := RWF.out.2.1.free 1
    obtain ⟨V4, hV4⟩ : ∃ V4, V3.setCell ⟨Q, 1, none⟩ (.string (RS.extract (1 + y) RS.size)) = V4 := ⟨_, rfl⟩
    have RW4 : Hid (Rw w V4 B Q #[.string o, .int .i64 t, .int .i64 c, .int .i64 l, .string d] #[.int .i64 (rd : Int), .string sl] #[.int .i64 0, .string (RS.extract (1 + y) RS.size), .int .i64 (rd : Int), .string sl, .string OH, .string (RS.extract 1 (1 + y))]) := by rw [← hV4]; exact RWF.out.put 1 _
    obtain ⟨k0, k4, k5, k6⟩ := QF.out _ RW4.out.1
    have q0 := RW4.out.2.1.cell (j := 0) rfl
    have q1 := RW4.out.2.1.cell (j := 1) rfl
    have q2 := RW4.out.2.1.cell (j := 2) rfl
    have q3 := RW4.out.2.1.cell (j := 3) rfl
    have q4 := RW4.out.2.1.cell (j := 4) rfl
    have q5 := RW4.out.2.1.cell (j := 5) rfl
    have z0 := RW4.out.1.2.1.cell (j := 0) rfl
    have z1 := RW4.out.1.2.1.cell (j := 1) rfl
    have z2 := RW4.out.1.2.1.cell (j := 2) rfl
    have z3 := RW4.out.1.2.1.cell (j := 3) rfl
    have z4 := RW4.out.1.2.1.cell (j := 4) rfl
    have z5 := RW4.out.1.2.1.cell (j := 5) rfl
    have y0 := RW4.out.1.2.1.free 0
    have y1 := RW4.out.1.2.1.free 1
    have y2 := RW4.out.1.2.1.free 2
    have y3 := RW4.out.1.2.1.free 3
    have y4 := RW4.out.1.2.1.free 4
    have y5 := RW4.out.1.2.1.free 5
    obtain ⟨V5, hV5⟩ : ∃ V5, (World.setCell (World.setCell (World.setCell (World.setCell (World.setCell (World.setCell V4 ⟨w.heap.size + 1, 0, none⟩ (.int .i64 0)) ⟨w.heap.size + 1, 1, none⟩ (.string (RS.extract (1 + y) RS.size))) ⟨w.heap.size + 1, 2, none⟩ (.int .i64 (rd : Int))) ⟨w.heap.size + 1, 3, none⟩ (.string sl)) ⟨w.heap.size + 1, 4, none⟩ (.string OH)) ⟨w.heap.size + 1, 5, none⟩ (.string (RS.extract 1 (1 + y)))) = V5 := ⟨_, rfl⟩
    have E5 : Bx V5 (w.heap.size + 1) #[.int .i64 0, .string (RS.extract (1 + y) RS.size), .int .i64 (rd : Int), .string sl, .string OH, .string (RS.extract 1 (1 + y))] 122 := by rw [← hV5]; exact (((((RW4.out.1.2.1.set 0 _).set 1 _).set 2 _).set 3 _).set 4 _).set 5 _
    have B5 : Below w.heap.size w V5 := by rw [← hV5]; exact (((((RW4.out.1.2.2.2.2.setCell (p := ⟨w.heap.size + 1, 0, none⟩) (Nat.le_succ _) _).setCell (p := ⟨w.heap.size + 1, 1, none⟩) (Nat.le_succ _) _).setCell (p := ⟨w.heap.size + 1, 2, none⟩) (Nat.le_succ _) _).setCell (p := ⟨w.heap.size + 1, 3, none⟩) (Nat.le_succ _) _).setCell (p := ⟨w.heap.size + 1, 4, none⟩) (Nat.le_succ _) _).setCell (p := ⟨w.heap.size + 1, 5, none⟩) (Nat.le_succ _) _
    have t0 := E5.cell (j := 0) rfl
    have t1 := E5.cell (j := 1) rfl
    have t2 := E5.cell (j := 2) rfl
    have t3 := E5.cell (j := 3) rfl
    have t4 := E5.cell (j := 4) rfl
    have t5 := E5.cell (j := 5) rfl
    have HB5 := hide' B5
    clear RWF RW4 E5 B5 RVA HOH
    cases hp
    · (have hI1 : ((rd : Int) ≤ 50) ↔ rd ≤ 50 := by omega); (have hI2 : ((OH.size : Int) = 10) ↔ OH.size = 10 := by omega); (have hI3 : ((y : Int) = 10) ↔ y = 10 := by omega); go_wp2_with (go_at_call 79; refine (HHP.out _).mono ?_; rintro r w5 ⟨rfl, rfl⟩); change bodyPost _ _ _ _ _ _; refine bodyPost_ret (v := .tuple #[.agg #[.int .i64 0, .string (RS.extract (1 + y) RS.size), .int .i64 (rd : Int), .string sl, .string OH, .string (RS.extract 1 (1 + y))], .bool false]) (by simp [results, go_sem, t0, t1, t2, t3, t4, t5]) rfl ⟨rfl, HB5.out⟩
    by_cases h1 : rd ≤ 50
    rotate_left
    · (have hI1 : ((rd : Int) ≤ 50) ↔ rd ≤ 50 := by omega); (have hI2 : ((OH.size : Int) = 10) ↔ OH.size = 10 := by omega); (have hI3 : ((y : Int) = 10) ↔ y = 10 := by omega); go_wp2_with (go_at_call 79; refine (HHP.out _).mono ?_; rintro r w5 ⟨rfl, rfl⟩); change bodyPost _ _ _ _ _ _; refine bodyPost_ret (v := .tuple #[.agg #[.int .i64 0, .string (RS.extract (1 + y) RS.size), .int .i64 (rd : Int), .string sl, .string OH, .string (RS.extract 1 (1 + y))], .bool false]) (by simp [results, go_sem, t0, t1, t2, t3, t4, t5]) rfl ⟨by simp [h1], HB5.out⟩
    by_cases h2 : OH.size = 10
    rotate_left
    · (have hI1 : ((rd : Int) ≤ 50) ↔ rd ≤ 50 := by omega); (have hI2 : ((OH.size : Int) = 10) ↔ OH.size = 10 := by omega); (have hI3 : ((y : Int) = 10) ↔ y = 10 := by omega); go_wp2_with (go_at_call 79; refine (HHP.out _).mono ?_; rintro r w5 ⟨rfl, rfl⟩); change bodyPost _ _ _ _ _ _; refine bodyPost_ret (v := .tuple #[.agg #[.int .i64 0, .string (RS.extract (1 + y) RS.size), .int .i64 (rd : Int), .string sl, .string OH, .string (RS.extract 1 (1 + y))], .bool false]) (by simp [results, go_sem, t0, t1, t2, t3, t4, t5]) rfl ⟨by simp [h2], HB5.out⟩
    by_cases h3 : y = 10
    · (have g3 : ((y : Int) == 10) = true := by simp [h3]); (have H3 := hide' h3); clear h3; (have hI1 : ((rd : Int) ≤ 50) ↔ rd ≤ 50 := by omega); (have hI2 : ((OH.size : Int) = 10) ↔ OH.size = 10 := by omega); go_wp2_with (go_at_call 79; refine (HHP.out _).mono ?_; rintro r w5 ⟨rfl, rfl⟩); change bodyPost _ _ _ _ _ _; refine bodyPost_ret (v := .tuple #[.agg #[.int .i64 0, .string (RS.extract (1 + y) RS.size), .int .i64 (rd : Int), .string sl, .string OH, .string (RS.extract 1 (1 + y))], .bool true]) (by simp [results, go_sem, t0, t1, t2, t3, t4, t5]) rfl ⟨by simp [h1, h2, H3.out], HB5.out⟩
    · (have g3 : ((y : Int) == 10) = false := by simp; omega); (have H3 := hide' h3); clear h3; (have hI1 : ((rd : Int) ≤ 50) ↔ rd ≤ 50 := by omega); (have hI2 : ((OH.size : Int) = 10) ↔ OH.size = 10 := by omega); go_wp2_with (go_at_call 79; refine (HHP.out _).mono ?_; rintro r w5 ⟨rfl, rfl⟩); change bodyPost _ _ _ _ _ _; refine bodyPost_ret (v := .tuple #[.agg #[.int .i64 0, .string (RS.extract (1 + y) RS.size), .int .i64 (rd : Int), .string sl, .string OH, .string (RS.extract 1 (1 + y))], .bool false]) (by simp [results, go_sem, t0, t1, t2, t3, t4, t5]) rfl ⟨by simp [H3.out], HB5.out⟩
  · go_simp
    obtain ⟨Wz, hWz⟩ : ∃ Wz, World.alloc W2 (.cells #[.int .i64 0, .string ⟨#[]⟩, .int .i64 0, .string ⟨#[]⟩, .string ⟨#[]⟩, .string ⟨#[]⟩] 122) = Wz := ⟨_, rfl⟩
    obtain ⟨Q, hQ⟩ : ∃ Q, (World.heap W2).size = Q := ⟨_, rfl⟩
    have RWA : Hid (Rw w Wz B Q #[.string o, .int .i64 t, .int .i64 c, .int .i64 l, .string d] #[.int .i64 (rd : Int), .string sl] #[.int .i64 0, .string ⟨#[]⟩, .int .i64 0, .string ⟨#[]⟩, .string ⟨#[]⟩, .string ⟨#[]⟩]) := by rw [← hWz, ← hQ]; exact Rw.start RVA.out _
    simp only [hWz, hQ]
    clear hWz hQ
    refine hK.out _ _ (by first | exact QF.out _ RWA.out.1 | exact QF.out _ RWA.out.drew.1) (fun hHeld => ?_)
    clear hK K
    try simp only [Act.put, List.setIfInBounds_toArray, List.set_cons_zero, List.set_cons_succ]
    refine wpAnyH_ready (rs := [4]) (by kernel_rfl) (by simp) ?_
    refine AllReadyH.cons rfl (fun K hK => ?_) AllReadyH.nil
    go_simp
    go_at_call 78; refine (HOH.out _).mono ?_; rintro r vB ⟨rfl, hB⟩; have RWB := hide' (show Rw w vB B Q #[.string o, .int .i64 t, .int .i64 c, .int .i64 l, .string d] #[.int .i64 (rd : Int), .string sl] #[.int .i64 0, .string ⟨#[]⟩, .int .i64 0, .string ⟨#[]⟩, .string ⟨#[]⟩, .string ⟨#[]⟩] by first | exact RWA.out.step hB | exact RWA.out.drew.step hB); clear hB
    go_wp2_with fail
    refine hK.out _ _ (QF.out _ RWB.out.1) (fun hHeld => ?_)
    clear hK K
    try simp only [Act.put, List.setIfInBounds_toArray, List.set_cons_zero, List.set_cons_succ]
    refine takeJ 9 (some 29) (.agg #[.int .i64 0, .string ⟨#[]⟩, .int .i64 (rd : Int), .string sl, .string OH, .string (RS.extract 1 (1 + y))]) rfl rfl (by kernel_rfl) (by kernel_rfl) (by kernel_rfl) (fun _ _ _ h => h) (Or.inl ⟨by rfl, ?_⟩) (by assumption) ?_
    · intro w hSw; (try dsimp only at hSw); go_simp <;> (intros; omega)
    simp only [Act.put, List.setIfInBounds_toArray, List.set_cons_zero, List.set_cons_succ]
    refine wpAnyH_ready (rs := [11]) (by kernel_rfl) (by simp) ?_
    refine AllReadyH.cons rfl (fun K hK => ?_) AllReadyH.nil
    have e0 := RWB.out.2.1.cell (j := 0) rfl
    have e1 := RWB.out.2.1.cell (j := 1) rfl
    have e2 := RWB.out.2.1.cell (j := 2) rfl
    have e3 := RWB.out.2.1.cell (j := 3) rfl
    have e4 := RWB.out.2.1.cell (j := 4) rfl
    have e5 := RWB.out.2.1.cell (j := 5) rfl
    have fr0 := RWB.out.2.1.free 0
    have fr1 := RWB.out.2.1.free 1
    have fr2 := RWB.out.2.1.free 2
    have fr3 := RWB.out.2.1.free 3
    have fr4 := RWB.out.2.1.free 4
    have fr5 := RWB.out.2.1.free 5
    go_simp
    have RWF : Hid (Rw w _ B Q #[.string o, .int .i64 t, .int .i64 c, .int .i64 l, .string d] #[.int .i64 (rd : Int), .string sl] #[.int .i64 0, .string ⟨#[]⟩, .int .i64 (rd : Int), .string sl, .string OH, .string (RS.extract 1 (1 + y))]) := ((((((RWB.out.put 0 (.int .i64 0)).put 1 (.string ⟨#[]⟩)).put 2 (.int .i64 (rd : Int))).put 3 (.string sl)).put 4 (.string OH)).put 5 (.string (RS.extract 1 (1 + y))))
    refine hK.out _ _ (by first | exact QF.out _ RWF.out.1 | exact QF.out _ RWF.out.drew.1) (fun hHeld => ?_)
    clear hK K
    try simp only [Act.put, List.setIfInBounds_toArray, List.set_cons_zero, List.set_cons_succ]
    refine wpAnyH_done (by kernel_rfl) ?_ _
    clear e0 e1 e2 e3 e4 e5 fr0 fr1 fr2 fr3 fr4 fr5 k0 k4 k5 k6
    go_wp2_with fail
    refine HKK.out _ _ ?_
    obtain ⟨V3, hV3⟩ : ∃ V3, (World.setCell (World.setCell (World.setCell (World.setCell (World.setCell (World.setCell vB ⟨Q, 0, none⟩ (.int .i64 0)) ⟨Q, 1, none⟩ (.string ⟨#[]⟩)) ⟨Q, 2, none⟩ (.int .i64 (rd : Int))) ⟨Q, 3, none⟩ (.string sl)) ⟨Q, 4, none⟩ (.string OH)) ⟨Q, 5, none⟩ (.string (RS.extract 1 (1 + y)))) = V3 := ⟨_, rfl⟩
    rw [hV3] at RWF
    simp only [hV3]
    clear hV3
    have e1 := RWF.out.2.1.cell (j := 1) rfl
    have fr1 := RWF.out.2.1.free 1
    obtain ⟨V4, hV4⟩ : ∃ V4, V3.setCell ⟨Q, 1, none⟩ (.string (RS.extract (1 + y) RS.size)) = V4 := ⟨_, rfl⟩
    have RW4 : Hid (Rw w V4 B Q #[.string o, .int .i64 t, .int .i64 c, .int .i64 l, .string d] #[.int .i64 (rd : Int), .string sl] #[.int .i64 0, .string (RS.extract (1 + y) RS.size), .int .i64 (rd : Int), .string sl, .string OH, .string (RS.extract 1 (1 + y))]) := by rw [← hV4]; exact RWF.out.put 1 _
    obtain ⟨k0, k4, k5, k6⟩ := QF.out _ RW4.out.1
    have q0 := RW4.out.2.1.cell (j := 0) rfl
    have q1 := RW4.out.2.1.cell (j := 1) rfl
    have q2 := RW4.out.2.1.cell (j := 2) rfl
    have q3 := RW4.out.2.1.cell (j := 3) rfl
    have q4 := RW4.out.2.1.cell (j := 4) rfl
    have q5 := RW4.out.2.1.cell (j := 5) rfl
    have z0 := RW4.out.1.2.1.cell (j := 0) rfl
    have z1 := RW4.out.1.2.1.cell (j := 1) rfl
    have z2 := RW4.out.1.2.1.cell (j := 2) rfl
    have z3 := RW4.out.1.2.1.cell (j := 3) rfl
    have z4 := RW4.out.1.2.1.cell (j := 4) rfl
    have z5 := RW4.out.1.2.1.cell (j := 5) rfl
    have y0 := RW4.out.1.2.1.free 0
    have y1 := RW4.out.1.2.1.free 1
    have y2 := RW4.out.1.2.1.free 2
    have y3 := RW4.out.1.2.1.free 3
    have y4 := RW4.out.1.2.1.free 4
    have y5 := RW4.out.1.2.1.free 5
    obtain ⟨V5, hV5⟩ : ∃ V5, (World.setCell (World.setCell (World.setCell (World.setCell (World.setCell (World.setCell V4 ⟨w.heap.size + 1, 0, none⟩ (.int .i64 0)) ⟨w.heap.size + 1, 1, none⟩ (.string (RS.extract (1 + y) RS.size))) ⟨w.heap.size + 1, 2, none⟩ (.int .i64 (rd : Int))) ⟨w.heap.size + 1, 3, none⟩ (.string sl)) ⟨w.heap.size + 1, 4, none⟩ (.string OH)) ⟨w.heap.size + 1, 5, none⟩ (.string (RS.extract 1 (1 + y)))) = V5 := ⟨_, rfl⟩
    have E5 : Bx V5 (w.heap.size + 1) #[.int .i64 0, .string (RS.extract (1 + y) RS.size), .int .i64 (rd : Int), .string sl, .string OH, .string (RS.extract 1 (1 + y))] 122 := by rw [← hV5]; exact (((((RW4.out.1.2.1.set 0 _).set 1 _).set 2 _).set 3 _).set 4 _).set 5 _
    have B5 : Below w.heap.size w V5 := by rw [← hV5]; exact (((((RW4.out.1.2.2.2.2.setCell (p := ⟨w.heap.size + 1, 0, none⟩) (Nat.le_succ _) _).setCell (p := ⟨w.heap.size + 1, 1, none⟩) (Nat.le_succ _) _).setCell (p := ⟨w.heap.size + 1, 2, none⟩) (Nat.le_succ _) _).setCell (p := ⟨w.heap.size + 1, 3, none⟩) (Nat.le_succ _) _).setCell (p := ⟨w.heap.size + 1, 4, none⟩) (Nat.le_succ _) _).setCell (p := ⟨w.heap.size + 1, 5, none⟩) (Nat.le_succ _) _
    have t0 := E5.cell (j := 0) rfl
    have t1 := E5.cell (j := 1) rfl
    have t2 := E5.cell (j := 2) rfl
    have t3 := E5.cell (j := 3) rfl
    have t4 := E5.cell (j := 4) rfl
    have t5 := E5.cell (j := 5) rfl
    have HB5 := hide' B5
    clear RWF RW4 E5 B5 RVA HOH
    cases hp
    · (have hI1 : ((rd : Int) ≤ 50) ↔ rd ≤ 50 := by omega); (have hI2 : ((OH.size : Int) = 10) ↔ OH.size = 10 := by omega); (have hI3 : ((y : Int) = 10) ↔ y = 10 := by omega); go_wp2_with (go_at_call 79; refine (HHP.out _).mono ?_; rintro r w5 ⟨rfl, rfl⟩); change bodyPost _ _ _ _ _ _; refine bodyPost_ret (v := .tuple #[.agg #[.int .i64 0, .string (RS.extract (1 + y) RS.size), .int .i64 (rd : Int), .string sl, .string OH, .string (RS.extract 1 (1 + y))], .bool false]) (by simp [results, go_sem, t0, t1, t2, t3, t4, t5]) rfl ⟨rfl, HB5.out⟩
    by_cases h1 : rd ≤ 50
    rotate_left
    · (have hI1 : ((rd : Int) ≤ 50) ↔ rd ≤ 50 := by omega); (have hI2 : ((OH.size : Int) = 10) ↔ OH.size = 10 := by omega); (have hI3 : ((y : Int) = 10) ↔ y = 10 := by omega); go_wp2_with (go_at_call 79; refine (HHP.out _).mono ?_; rintro r w5 ⟨rfl, rfl⟩); change bodyPost _ _ _ _ _ _; refine bodyPost_ret (v := .tuple #[.agg #[.int .i64 0, .string (RS.extract (1 + y) RS.size), .int .i64 (rd : Int), .string sl, .string OH, .string (RS.extract 1 (1 + y))], .bool false]) (by simp [results, go_sem, t0, t1, t2, t3, t4, t5]) rfl ⟨by simp [h1], HB5.out⟩
    by_cases h2 : OH.size = 10
    rotate_left
    · (have hI1 : ((rd : Int) ≤ 50) ↔ rd ≤ 50 := by omega); (have hI2 : ((OH.size : Int) = 10) ↔ OH.size = 10 := by omega); (have hI3 : ((y : Int) = 10) ↔ y = 10 := by omega); go_wp2_with (go_at_call 79; refine (HHP.out _).mono ?_; rintro r w5 ⟨rfl, rfl⟩); change bodyPost _ _ _ _ _ _; refine bodyPost_ret (v := .tuple #[.agg #[.int .i64 0, .string (RS.extract (1 + y) RS.size), .int .i64 (rd : Int), .string sl, .string OH, .string (RS.extract 1 (1 + y))], .bool false]) (by simp [results, go_sem, t0, t1, t2, t3, t4, t5]) rfl ⟨by simp [h2], HB5.out⟩
    by_cases h3 : y = 10
    · (have g3 : ((y : Int) == 10) = true := by simp [h3]); (have H3 := hide' h3); clear h3; (have hI1 : ((rd : Int) ≤ 50) ↔ rd ≤ 50 := by omega); (have hI2 : ((OH.size : Int) = 10) ↔ OH.size = 10 := by omega); go_wp2_with (go_at_call 79; refine (HHP.out _).mono ?_; rintro r w5 ⟨rfl, rfl⟩); change bodyPost _ _ _ _ _ _; refine bodyPost_ret (v := .tuple #[.agg #[.int .i64 0, .string (RS.extract (1 + y) RS.size), .int .i64 (rd : Int), .string sl, .string OH, .string (RS.extract 1 (1 + y))], .bool true]) (by simp [results, go_sem, t0, t1, t2, t3, t4, t5]) rfl ⟨by simp [h1, h2, H3.out], HB5.out⟩
    · (have g3 : ((y : Int) == 10) = false := by simp; omega); (have H3 := hide' h3); clear h3; (have hI1 : ((rd : Int) ≤ 50) ↔ rd ≤ 50 := by omega); (have hI2 : ((OH.size : Int) = 10) ↔ OH.size = 10 := by omega); go_wp2_with (go_at_call 79; refine (HHP.out _).mono ?_; rintro r w5 ⟨rfl, rfl⟩); change bodyPost _ _ _ _ _ _; refine bodyPost_ret (v := .tuple #[.agg #[.int .i64 0, .string (RS.extract (1 + y) RS.size), .int .i64 (rd : Int), .string sl, .string OH, .string (RS.extract 1 (1 + y))], .bool false]) (by simp [results, go_sem, t0, t1, t2, t3, t4, t5]) rfl ⟨by simp [H3.out], HB5.out⟩
end Go.Proofs.YtgekfhghambacaaGreat
