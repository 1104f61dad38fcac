import Derived.Test.YtipifhifjbenlaaGreatPjt
/-
  Proofs: the reference's Use, at an NSEC3. (The verifier's own text.)
-/
namespace Go.Proofs.YtipifhifjbenlaaGreat
set_option linter.unusedVariables false
set_option linter.unusedSimpArgs false
open Go.RowKit Go.Shelf Go.Maps Go.Proofs.YtipifhifjbenlaaGreat.Nm

set_option maxRecDepth 100000 in
set_option maxHeartbeats 16000000 in
/-- Use, at an NSEC3: use3_yes -/
theorem use3_yes (apex : ByteArray) (o d : ByteArray) (c l : Int) (w : World) (a0 a1 a2 a3 a4 a5 FK sv nv : ByteArray) (ll : List Nat) (rv : Nat) (Lo : List ByteArray) (bq : Bool) (par : ByteArray) (fo : Option (List Nat))
    (HZ : Hid (∀ W, Calls Tryz.prog 52 #[.agg #[.string o, .int .i64 50, .int .i64 c, .int .i64 l, .string d]] W fun r w' => r = .returned (.bool true) ∧ Below W.heap.size W w'))
    (HW : Hid (∀ W, Calls Tryz.prog 13 #[.string o, .string apex] W fun r w' => r = .returned (.bool true) ∧ Below W.heap.size W w'))
    (HF : Hid (∀ W, Calls Tryz.prog 54 #[.int .i64 50] W fun r w' => r = .returned (.string FK) ∧ w' = W))
    (HP : Hid (∀ W, Calls Tryz.prog 53 #[.string FK, .string d] W fun r w' => (∃ g cp, r = .returned (.tuple #[.slice (some ⟨g, 0, none⟩) 6 cp, .bool true]) ∧ w'.ownsRow W.heap.size 9 1 (.slice (some ⟨g, 0, none⟩) 6 cp) 6 ([a0, a1, a2, a3, a4, a5].map Value.string)) ∧ Below W.heap.size W w'))
    (HV : Hid (∀ W, Calls Tryz.prog 56 #[.string a2] W fun r w' => r = .returned (.int .i64 (rv : Int)) ∧ w' = W))
    (HT : Hid (∀ W, Calls Tryz.prog 55 #[.string a5] W fun r w' => (∃ v, r = .returned (.tuple #[v, .int .i64 0]) ∧ w'.ownsRow W.heap.size 3 1 v ll.length (nums ll)) ∧ Below W.heap.size W w'))
    (HS : Hid (∀ W, Calls Tryz.prog 35 #[.string o] W fun r w' => (∃ p cs, r = .returned (.tuple #[.slice p Lo.length cs, .bool true]) ∧ StrsAt w' p Lo) ∧ Below W.heap.size W w'))
    (HPA : Hid (∀ W, Calls Tryz.prog 57 #[.string o] W fun r w' => r = .returned (.string par) ∧ Below W.heap.size W w'))
    (HEQ : Hid (∀ W, Calls Tryz.prog 33 #[.string par, .string apex] W fun r w' => r = .returned (.bool bq) ∧ Below W.heap.size W w'))
    (HFR : Hid (∀ W x, Lo.head? = some x → Calls Tryz.prog 58 #[.string x] W fun r w' => r = fromEnd fo ∧ Below W.heap.size W w'))
    (h3 : 1 ≤ a3.size) (h4 : 1 ≤ a4.size) (hsv : a3.extract 1 a3.size = sv) (hnv : a4.extract 1 a4.size = nv) (hrv : rv ≤ 65535) (hnz : nv.size ≤ 65535) (hLo : Lo.length ≤ 1048576) (c0 : a0.toList = [1]) (c1 : a1.toList = [0]) (c2 : rv ≤ 50) (c3 : nv.size = 10) (c4 : 0 < Lo.length) (c5 : bq = true) (yy : List Nat) (hyl : yy.length ≤ 1048576) (c6 : fo = some yy) (c7 : (bts yy).size = 10) :
    Calls Tryz.prog 34 #[.string apex, .agg #[.string o, .int .i64 50, .int .i64 c, .int .i64 l, .string d]] w fun e w' => (∃ x, e = .returned (.tuple #[gA x, .bool true]) ∧ NumsAt w' x.p x.ty ∧ (∀ g off, x.p = some ⟨g, off, none⟩ → w.heap.size ≤ g) ∧ x.hb = true ∧ x.nx = nv ∧ x.sl = sv ∧ x.rd = rv ∧ x.ty = ll ∧ x.o = o ∧ (∃ y, fo = some y ∧ bts y = x.ow)) ∧ Below w.heap.size w w' := by
  obtain ⟨W0, hW0⟩ : ∃ W0, ((w.alloc (.cells #[.string o, .int .i64 50, .int .i64 c, .int .i64 l, .string d] 32)).alloc (.cells #[.string ⟨#[]⟩, .int .i64 0, .int .i64 0, .int .i64 0, .string ⟨#[]⟩, .bool false, .string ⟨#[]⟩, .string ⟨#[]⟩, .string ⟨#[]⟩, .int .i64 0, .slice none 0 0] 43)).alloc (.cells #[.string o, .int .i64 50, .int .i64 c, .int .i64 l, .string d, .bool false, .string ⟨#[]⟩, .string ⟨#[]⟩, .string ⟨#[]⟩, .int .i64 0, .slice none 0 0] 43) = W0 := ⟨_, rfl⟩
  have S0 : Hid (Us w W0 #[.string o, .int .i64 50, .int .i64 c, .int .i64 l, .string d] #[.string o, .int .i64 50, .int .i64 c, .int .i64 l, .string d, .bool false, .string ⟨#[]⟩, .string ⟨#[]⟩, .string ⟨#[]⟩, .int .i64 0, .slice none 0 0] 0 [] none []) := by rw [← hW0]; exact Us.start w _ _
  have HW0 := hide' hW0
  clear hW0
  have h3i : (1 : Int) ≤ (a3.size : Int) := by omega
  have h4i : (1 : Int) ≤ (a4.size : Int) := by omega
  go_enter Tryz.func34, Tryz.ntmps34
  go_wp2_with (first
    | (go_at_call 52; refine (HZ.out _).mono ?_; rintro r w1 ⟨rfl, hB⟩; rw [HW0.out] at hB; have S1 := hide' (S0.out.step hB); clear hB; have r0 := S1.out.r.cell (j := 0) rfl; have r1 := S1.out.r.cell (j := 1) rfl; have r2 := S1.out.r.cell (j := 2) rfl; have r3 := S1.out.r.cell (j := 3) rfl; have r4 := S1.out.r.cell (j := 4) rfl; have g0 := S1.out.g.cell (j := 0) rfl; have g1 := S1.out.g.cell (j := 1) rfl; have g2 := S1.out.g.cell (j := 2) rfl; have g3 := S1.out.g.cell (j := 3) rfl; have g4 := S1.out.g.cell (j := 4) rfl; have g5 := S1.out.g.cell (j := 5) rfl; have g6 := S1.out.g.cell (j := 6) rfl; have g7 := S1.out.g.cell (j := 7) rfl; have g8 := S1.out.g.cell (j := 8) rfl; have g9 := S1.out.g.cell (j := 9) rfl; have g10 := S1.out.g.cell (j := 10) rfl; have f0 := S1.out.g.free 0; have f1 := S1.out.g.free 1; have f2 := S1.out.g.free 2; have f3 := S1.out.g.free 3; have f4 := S1.out.g.free 4; have f5 := S1.out.g.free 5; have f6 := S1.out.g.free 6; have f7 := S1.out.g.free 7; have f8 := S1.out.g.free 8; have f9 := S1.out.g.free 9; have f10 := S1.out.g.free 10)
    | (go_at_call 13; (with_reducible refine (HW.out _).mono ?_); rintro r w2 ⟨rfl, hB⟩; have S2 := hide' (S1.out.step hB); clear hB; clear r0 r1 r2 r3 r4 g0 g1 g2 g3 g4 g5 g6 g7 g8 g9 g10 f0 f1 f2 f3 f4 f5 f6 f7 f8 f9 f10; have r0 := S2.out.r.cell (j := 0) rfl; have r1 := S2.out.r.cell (j := 1) rfl; have r2 := S2.out.r.cell (j := 2) rfl; have r3 := S2.out.r.cell (j := 3) rfl; have r4 := S2.out.r.cell (j := 4) rfl; have g0 := S2.out.g.cell (j := 0) rfl; have g1 := S2.out.g.cell (j := 1) rfl; have g2 := S2.out.g.cell (j := 2) rfl; have g3 := S2.out.g.cell (j := 3) rfl; have g4 := S2.out.g.cell (j := 4) rfl; have g5 := S2.out.g.cell (j := 5) rfl; have g6 := S2.out.g.cell (j := 6) rfl; have g7 := S2.out.g.cell (j := 7) rfl; have g8 := S2.out.g.cell (j := 8) rfl; have g9 := S2.out.g.cell (j := 9) rfl; have g10 := S2.out.g.cell (j := 10) rfl; have f0 := S2.out.g.free 0; have f1 := S2.out.g.free 1; have f2 := S2.out.g.free 2; have f3 := S2.out.g.free 3; have f4 := S2.out.g.free 4; have f5 := S2.out.g.free 5; have f6 := S2.out.g.free 6; have f7 := S2.out.g.free 7; have f8 := S2.out.g.free 8; have f9 := S2.out.g.free 9; have f10 := S2.out.g.free 10))
  clear r0 r1 r2 r3 r4 g0 g1 g2 g3 g4 g5 g6 g7 g8 g9 g10 f0 f1 f2 f3 f4 f5 f6 f7 f8 f9 f10
  have r1 := S2.out.r.cell (j := 1) (v := .int .i64 50) rfl
  have r4 := S2.out.r.cell (j := 4) (v := .string d) rfl
  go_region_held3 (fun V => V.cell? ⟨w.heap.size, 1, none⟩ = some (.int .i64 50) ∧ V.cell? ⟨w.heap.size, 4, none⟩ = some (.string d)) (first | go_keep | exact ⟨S3.out.r.cell rfl, S3.out.r.cell rfl⟩ | exact ⟨S2.out.r.cell rfl, S2.out.r.cell rfl⟩) (first
    | (go_at_call 54; refine (HF.out _).mono ?_; rintro r wf ⟨rfl, hwf⟩; subst hwf)
    | (go_at_call 53; refine (HP.out _).mono ?_; rintro r w3 ⟨⟨qg, qc, rfl, hop⟩, hB⟩; have S3 : Hid (Us w w3 #[.string o, .int .i64 50, .int .i64 c, .int .i64 l, .string d] #[.string o, .int .i64 50, .int .i64 c, .int .i64 l, .string d, .bool false, .string ⟨#[]⟩, .string ⟨#[]⟩, .string ⟨#[]⟩, .int .i64 0, .slice none 0 0] qg [a0, a1, a2, a3, a4, a5] none []) := (by first | exact S2.out.parts (P := [a0, a1, a2, a3, a4, a5]) hB hop | exact S2.out.drew.parts (P := [a0, a1, a2, a3, a4, a5]) hB hop); clear hB hop))
  clear r1 r4
  have r0 := S3.out.r.cell (j := 0) rfl
  have r1 := S3.out.r.cell (j := 1) rfl
  have r2 := S3.out.r.cell (j := 2) rfl
  have r3 := S3.out.r.cell (j := 3) rfl
  have r4 := S3.out.r.cell (j := 4) rfl
  have g0 := S3.out.g.cell (j := 0) rfl
  have g1 := S3.out.g.cell (j := 1) rfl
  have g2 := S3.out.g.cell (j := 2) rfl
  have g3 := S3.out.g.cell (j := 3) rfl
  have g4 := S3.out.g.cell (j := 4) rfl
  have g5 := S3.out.g.cell (j := 5) rfl
  have g6 := S3.out.g.cell (j := 6) rfl
  have g7 := S3.out.g.cell (j := 7) rfl
  have g8 := S3.out.g.cell (j := 8) rfl
  have g9 := S3.out.g.cell (j := 9) rfl
  have g10 := S3.out.g.cell (j := 10) rfl
  have f0 := S3.out.g.free 0
  have f1 := S3.out.g.free 1
  have f2 := S3.out.g.free 2
  have f3 := S3.out.g.free 3
  have f4 := S3.out.g.free 4
  have f5 := S3.out.g.free 5
  have f6 := S3.out.g.free 6
  have f7 := S3.out.g.free 7
  have f8 := S3.out.g.free 8
  have f9 := S3.out.g.free 9
  have f10 := S3.out.g.free 10
  have p0 : World.cell? w3 ⟨qg, 0, none⟩ = some (.string a0) := S3.out.ps 0 (by simp)
  have p1 : World.cell? w3 ⟨qg, 1, none⟩ = some (.string a1) := S3.out.ps 1 (by simp)
  have p2 : World.cell? w3 ⟨qg, 2, none⟩ = some (.string a2) := S3.out.ps 2 (by simp)
  have p3 : World.cell? w3 ⟨qg, 3, none⟩ = some (.string a3) := S3.out.ps 3 (by simp)
  have p4 : World.cell? w3 ⟨qg, 4, none⟩ = some (.string a4) := S3.out.ps 4 (by simp)
  have p5 : World.cell? w3 ⟨qg, 5, none⟩ = some (.string a5) := S3.out.ps 5 (by simp)
  obtain ⟨W4, hW4⟩ : ∃ W4, World.setCell w3 ⟨w.heap.size + 1 + 1, 5, none⟩ (.bool true) = W4 := ⟨_, rfl⟩
  have S4 : Hid (Us w W4 #[.string o, .int .i64 50, .int .i64 c, .int .i64 l, .string d] #[.string o, .int .i64 50, .int .i64 c, .int .i64 l, .string d, .bool true, .string ⟨#[]⟩, .string ⟨#[]⟩, .string ⟨#[]⟩, .int .i64 0, .slice none 0 0] qg [a0, a1, a2, a3, a4, a5] none []) := by rw [← hW4]; exact S3.out.put 5 _
  go_upto_region 10 with fail
  rename_i KK hKK
  have HKK := hide' hKK
  clear hKK r0 r1 r2 r3 r4 g0 g1 g2 g3 g4 g5 g6 g7 g8 g9 g10 f0 f1 f2 f3 f4 f5 f6 f7 f8 f9 f10 p0 p1 p2 p3 p4 p5
  try simp only [hW4]
  have QP : Hid (∀ (V : World), (∀ k (h : k < [a0, a1, a2, a3, a4, a5].length), V.cell? ⟨qg, k, none⟩ = some (.string [a0, a1, a2, a3, a4, a5][k])) → V.cell? ⟨qg, 2, none⟩ = some (.string a2) ∧ V.cell? ⟨qg, 3, none⟩ = some (.string a3) ∧ V.cell? ⟨qg, 4, none⟩ = some (.string a4)) := fun V h => ⟨h 2 (by simp), h 3 (by simp), h 4 (by simp)⟩
  have hk0 := QP.out _ S4.out.ps
  refine wp_region_held_drew (S := fun V => V.cell? ⟨qg, 2, none⟩ = some (.string a2) ∧ V.cell? ⟨qg, 3, none⟩ = some (.string a3) ∧ V.cell? ⟨qg, 4, none⟩ = some (.string a4)) (by kernel_rfl) ?_ (fun hHeld => ?_)
  · (try dsimp only); exact hk0
  refine takeJ 0 (some 66) (.slice (some ⟨qg, 0, none⟩) 6 qc) rfl rfl (by kernel_rfl) (by kernel_rfl) (by kernel_rfl) (fun _ _ _ h => h) (Or.inl ⟨by rfl, ?_⟩) (by assumption) ?_
  · intro w hSw; (try dsimp only at hSw); go_simp <;> (intros; omega)
  simp only [Act.put, List.setIfInBounds_toArray, List.set_cons_zero, List.set_cons_succ]
  refine takeJ 1 (some 67) (.pointer (some ⟨qg, 2, none⟩)) rfl rfl (by kernel_rfl) (by kernel_rfl) (by kernel_rfl) (fun _ _ _ h => h) (Or.inl ⟨by rfl, ?_⟩) (by assumption) ?_
  · intro w hSw; (try dsimp only at hSw); go_simp <;> (intros; omega)
  simp only [Act.put, List.setIfInBounds_toArray, List.set_cons_zero, List.set_cons_succ]
  refine takeJ 2 (some 68) (.string a2) rfl rfl (by kernel_rfl) (by kernel_rfl) (by kernel_rfl) (fun _ _ _ h => h) (Or.inl ⟨by rfl, ?_⟩) (by assumption) ?_
  · intro w hSw; (try dsimp only at hSw); go_simp <;> (intros; omega)
  simp only [Act.put, List.setIfInBounds_toArray, List.set_cons_zero, List.set_cons_succ]
  refine takeJ 4 (some 70) (.slice (some ⟨qg, 0, none⟩) 6 qc) rfl rfl (by kernel_rfl) (by kernel_rfl) (by kernel_rfl) (fun _ _ _ h => h) (Or.inl ⟨by rfl, ?_⟩) (by assumption) ?_
  · intro w hSw; (try dsimp only at hSw); go_simp <;> (intros; omega)
  simp only [Act.put, List.setIfInBounds_toArray, List.set_cons_zero, List.set_cons_succ]
  refine takeJ 5 (some 71) (.pointer (some ⟨qg, 3, none⟩)) rfl rfl (by kernel_rfl) (by kernel_rfl) (by kernel_rfl) (fun _ _ _ h => h) (Or.inl ⟨by rfl, ?_⟩) (by assumption) ?_
  · intro w hSw; (try dsimp only at hSw); go_simp <;> (intros; omega)
  simp only [Act.put, List.setIfInBounds_toArray, List.set_cons_zero, List.set_cons_succ]
  refine takeJ 6 (some 72) (.string a3) rfl rfl (by kernel_rfl) (by kernel_rfl) (by kernel_rfl) (fun _ _ _ h => h) (Or.inl ⟨by rfl, ?_⟩) (by assumption) ?_
  · intro w hSw; (try dsimp only at hSw); go_simp <;> (intros; omega)
  simp only [Act.put, List.setIfInBounds_toArray, List.set_cons_zero, List.set_cons_succ]
  refine takeJ 8 (some 74) (.slice (some ⟨qg, 0, none⟩) 6 qc) rfl rfl (by kernel_rfl) (by kernel_rfl) (by kernel_rfl) (fun _ _ _ h => h) (Or.inl ⟨by rfl, ?_⟩) (by assumption) ?_
  · intro w hSw; (try dsimp only at hSw); go_simp <;> (intros; omega)
  simp only [Act.put, List.setIfInBounds_toArray, List.set_cons_zero, List.set_cons_succ]
  refine takeJ 9 (some 75) (.pointer (some ⟨qg, 4, none⟩)) rfl rfl (by kernel_rfl) (by kernel_rfl) (by kernel_rfl) (fun _ _ _ h => h) (Or.inl ⟨by rfl, ?_⟩) (by assumption) ?_
  · intro w hSw; (try dsimp only at hSw); go_simp <;> (intros; omega)
  simp only [Act.put, List.setIfInBounds_toArray, List.set_cons_zero, List.set_cons_succ]
  refine takeJ 10 (some 76) (.string a4) rfl rfl (by kernel_rfl) (by kernel_rfl) (by kernel_rfl) (fun _ _ _ h => h) (Or.inl ⟨by rfl, ?_⟩) (by assumption) ?_
  · intro w hSw; (try dsimp only at hSw); go_simp <;> (intros; omega)
  simp only [Act.put, List.setIfInBounds_toArray, List.set_cons_zero, List.set_cons_succ]
  refine takeJ 7 (some 73) (.string sv) rfl rfl (by kernel_rfl) (by kernel_rfl) (by kernel_rfl) (fun _ _ _ h => h) (Or.inl ⟨by rfl, ?_⟩) (by assumption) ?_
  · intro w hSw; (try dsimp only at hSw); (try rw [← hsv]); go_simp <;> (intros; omega)
  simp only [Act.put, List.setIfInBounds_toArray, List.set_cons_zero, List.set_cons_succ]
  refine takeJ 11 (some 77) (.string nv) rfl rfl (by kernel_rfl) (by kernel_rfl) (by kernel_rfl) (fun _ _ _ h => h) (Or.inl ⟨by rfl, ?_⟩) (by assumption) ?_
  · intro w hSw; (try dsimp only at hSw); (try rw [← hnv]); go_simp <;> (intros; omega)
  simp only [Act.put, List.setIfInBounds_toArray, List.set_cons_zero, List.set_cons_succ]
  refine wpAnyH_ready (rs := [3]) (by kernel_rfl) (by simp) ?_
  refine AllReadyH.cons rfl (fun K hK => ?_) AllReadyH.nil
  go_simp
  go_at_call 56; refine (HV.out _).mono ?_; rintro r wv ⟨rfl, hwv⟩; subst hwv
  go_wp2_with fail
  refine hK.out _ _ (by first | exact QP.out _ S4.out.ps | exact QP.out _ S4.out.drew.ps) (fun hHeld => ?_)
  clear hK K
  try simp only [Act.put, List.setIfInBounds_toArray, List.set_cons_zero, List.set_cons_succ]
  obtain ⟨W5, hW5⟩ : ∃ W5, World.drew W4 = W5 := ⟨_, rfl⟩
  have S5 : Hid (Us w W5 #[.string o, .int .i64 50, .int .i64 c, .int .i64 l, .string d] #[.string o, .int .i64 50, .int .i64 c, .int .i64 l, .string d, .bool true, .string ⟨#[]⟩, .string ⟨#[]⟩, .string ⟨#[]⟩, .int .i64 0, .slice none 0 0] qg [a0, a1, a2, a3, a4, a5] none []) := by rw [← hW5]; exact S4.out.drew
  try simp only [hW5]
  have hk5 := QP.out _ S5.out.ps
  refine takeJ 12 (some 78) (.pointer (some ⟨w.heap.size + 1 + 1, 9, none⟩)) rfl rfl (by kernel_rfl) (by kernel_rfl) (by kernel_rfl) (fun _ _ _ h => h) (Or.inl ⟨by rfl, ?_⟩) (by assumption) ?_
  · intro w hSw; (try dsimp only at hSw); go_simp <;> (intros; omega)
  simp only [Act.put, List.setIfInBounds_toArray, List.set_cons_zero, List.set_cons_succ]
  refine wpAnyH_ready (rs := [13]) (by kernel_rfl) (by simp) ?_
  refine AllReadyH.cons rfl (fun K hK => ?_) AllReadyH.nil
  have gx := S5.out.g.cell (j := 9) rfl
  have fx := S5.out.g.free 9
  obtain ⟨W6, hW6⟩ : ∃ W6, World.setCell W5 ⟨w.heap.size + 1 + 1, 9, none⟩ (.int .i64 (rv : Int)) = W6 := ⟨_, rfl⟩
  have S6 : Hid (Us w W6 #[.string o, .int .i64 50, .int .i64 c, .int .i64 l, .string d] #[.string o, .int .i64 50, .int .i64 c, .int .i64 l, .string d, .bool true, .string ⟨#[]⟩, .string ⟨#[]⟩, .string ⟨#[]⟩, .int .i64 (rv : Int), .slice none 0 0] qg [a0, a1, a2, a3, a4, a5] none []) := by rw [← hW6]; exact S5.out.put 9 _
  go_simp
  refine hK.out _ _ (QP.out _ S6.out.ps) (fun hHeld => ?_)
  clear hK K gx fx hW6
  try simp only [Act.put, List.setIfInBounds_toArray, List.set_cons_zero, List.set_cons_succ]
  refine takeJ 14 (some 79) (.pointer (some ⟨w.heap.size + 1 + 1, 8, none⟩)) rfl rfl (by kernel_rfl) (by kernel_rfl) (by kernel_rfl) (fun _ _ _ h => h) (Or.inl ⟨by rfl, ?_⟩) (by assumption) ?_
  · intro w hSw; (try dsimp only at hSw); go_simp <;> (intros; omega)
  simp only [Act.put, List.setIfInBounds_toArray, List.set_cons_zero, List.set_cons_succ]
  refine wpAnyH_ready (rs := [15]) (by kernel_rfl) (by simp) ?_
  refine AllReadyH.cons rfl (fun K hK => ?_) AllReadyH.nil
  have gx := S6.out.g.cell (j := 8) rfl
  have fx := S6.out.g.free 8
  obtain ⟨W7, hW7⟩ : ∃ W7, World.setCell W6 ⟨w.heap.size + 1 + 1, 8, none⟩ (.string sv) = W7 := ⟨_, rfl⟩
  have S7 : Hid (Us w W7 #[.string o, .int .i64 50, .int .i64 c, .int .i64 l, .string d] #[.string o, .int .i64 50, .int .i64 c, .int .i64 l, .string d, .bool true, .string ⟨#[]⟩, .string ⟨#[]⟩, .string sv, .int .i64 (rv : Int), .slice none 0 0] qg [a0, a1, a2, a3, a4, a5] none []) := by rw [← hW7]; exact S6.out.put 8 _
  go_simp
  refine hK.out _ _ (QP.out _ S7.out.ps) (fun hHeld => ?_)
  clear hK K gx fx hW7
  try simp only [Act.put, List.setIfInBounds_toArray, List.set_cons_zero, List.set_cons_succ]
  refine takeJ 16 (some 80) (.pointer (some ⟨w.heap.size + 1 + 1, 6, none⟩)) rfl rfl (by kernel_rfl) (by kernel_rfl) (by kernel_rfl) (fun _ _ _ h => h) (Or.inl ⟨by rfl, ?_⟩) (by assumption) ?_
  · intro w hSw; (try dsimp only at hSw); go_simp <;> (intros; omega)
  simp only [Act.put, List.setIfInBounds_toArray, List.set_cons_zero, List.set_cons_succ]
  refine wpAnyH_ready (rs := [17]) (by kernel_rfl) (by simp) ?_
  refine AllReadyH.cons rfl (fun K hK => ?_) AllReadyH.nil
  have gx := S7.out.g.cell (j := 6) rfl
  have fx := S7.out.g.free 6
  obtain ⟨W8, hW8⟩ : ∃ W8, World.setCell W7 ⟨w.heap.size + 1 + 1, 6, none⟩ (.string nv) = W8 := ⟨_, rfl⟩
  have S8 : Hid (Us w W8 #[.string o, .int .i64 50, .int .i64 c, .int .i64 l, .string d] #[.string o, .int .i64 50, .int .i64 c, .int .i64 l, .string d, .bool true, .string nv, .string ⟨#[]⟩, .string sv, .int .i64 (rv : Int), .slice none 0 0] qg [a0, a1, a2, a3, a4, a5] none []) := by rw [← hW8]; exact S7.out.put 6 _
  go_simp
  refine hK.out _ _ (QP.out _ S8.out.ps) (fun hHeld => ?_)
  clear hK K gx fx hW8
  try simp only [Act.put, List.setIfInBounds_toArray, List.set_cons_zero, List.set_cons_succ]
  refine wpAnyH_done (by kernel_rfl) ?_ _
  go_wp2_with fail
  refine HKK.out _ _ ?_
  clear HKK KK S0 S1 S2 S3 S4 S5 S6 S7 HZ HW HF HP HV
  have r0 := S8.out.r.cell (j := 0) rfl
  have r1 := S8.out.r.cell (j := 1) rfl
  have r2 := S8.out.r.cell (j := 2) rfl
  have r3 := S8.out.r.cell (j := 3) rfl
  have r4 := S8.out.r.cell (j := 4) rfl
  have g0 := S8.out.g.cell (j := 0) rfl
  have g1 := S8.out.g.cell (j := 1) rfl
  have g2 := S8.out.g.cell (j := 2) rfl
  have g3 := S8.out.g.cell (j := 3) rfl
  have g4 := S8.out.g.cell (j := 4) rfl
  have g5 := S8.out.g.cell (j := 5) rfl
  have g6 := S8.out.g.cell (j := 6) rfl
  have g7 := S8.out.g.cell (j := 7) rfl
  have g8 := S8.out.g.cell (j := 8) rfl
  have g9 := S8.out.g.cell (j := 9) rfl
  have g10 := S8.out.g.cell (j := 10) rfl
  have f0 := S8.out.g.free 0
  have f1 := S8.out.g.free 1
  have f2 := S8.out.g.free 2
  have f3 := S8.out.g.free 3
  have f4 := S8.out.g.free 4
  have f5 := S8.out.g.free 5
  have f6 := S8.out.g.free 6
  have f7 := S8.out.g.free 7
  have f8 := S8.out.g.free 8
  have f9 := S8.out.g.free 9
  have f10 := S8.out.g.free 10
  have p0 : World.cell? W8 ⟨qg, 0, none⟩ = some (.string a0) := S8.out.ps 0 (by simp)
  have p1 : World.cell? W8 ⟨qg, 1, none⟩ = some (.string a1) := S8.out.ps 1 (by simp)
  have p2 : World.cell? W8 ⟨qg, 2, none⟩ = some (.string a2) := S8.out.ps 2 (by simp)
  have p3 : World.cell? W8 ⟨qg, 3, none⟩ = some (.string a3) := S8.out.ps 3 (by simp)
  have p4 : World.cell? W8 ⟨qg, 4, none⟩ = some (.string a4) := S8.out.ps 4 (by simp)
  have p5 : World.cell? W8 ⟨qg, 5, none⟩ = some (.string a5) := S8.out.ps 5 (by simp)
  go_upto_region 13 with (first
    | (go_at_call 55; refine (HT.out _).mono ?_; rintro r w9 ⟨⟨vv, rfl, hot⟩, hB⟩; obtain ⟨p8, ca8, rfl, h9⟩ := S8.out.types hB hot; have S9 := hide' h9; clear hB hot h9 r0 r1 r2 r3 r4 g0 g1 g2 g3 g4 g5 g6 g7 g8 g9 g10 f0 f1 f2 f3 f4 f5 f6 f7 f8 f9 f10 p0 p1 p2 p3 p4 p5; have r0 := S9.out.r.cell (j := 0) rfl; have r1 := S9.out.r.cell (j := 1) rfl; have r2 := S9.out.r.cell (j := 2) rfl; have r3 := S9.out.r.cell (j := 3) rfl; have r4 := S9.out.r.cell (j := 4) rfl; have g0 := S9.out.g.cell (j := 0) rfl; have g1 := S9.out.g.cell (j := 1) rfl; have g2 := S9.out.g.cell (j := 2) rfl; have g3 := S9.out.g.cell (j := 3) rfl; have g4 := S9.out.g.cell (j := 4) rfl; have g5 := S9.out.g.cell (j := 5) rfl; have g6 := S9.out.g.cell (j := 6) rfl; have g7 := S9.out.g.cell (j := 7) rfl; have g8 := S9.out.g.cell (j := 8) rfl; have g9 := S9.out.g.cell (j := 9) rfl; have g10 := S9.out.g.cell (j := 10) rfl; have f0 := S9.out.g.free 0; have f1 := S9.out.g.free 1; have f2 := S9.out.g.free 2; have f3 := S9.out.g.free 3; have f4 := S9.out.g.free 4; have f5 := S9.out.g.free 5; have f6 := S9.out.g.free 6; have f7 := S9.out.g.free 7; have f8 := S9.out.g.free 8; have f9 := S9.out.g.free 9; have f10 := S9.out.g.free 10; obtain ⟨Wa, hWa⟩ : ∃ Wa, World.setCell w9 ⟨w.heap.size + 1 + 1, 10, none⟩ (.slice p8 ll.length ca8) = Wa := ⟨_, rfl⟩; have Sa : Hid (Us w Wa #[.string o, .int .i64 50, .int .i64 c, .int .i64 l, .string d] #[.string o, .int .i64 50, .int .i64 c, .int .i64 l, .string d, .bool true, .string nv, .string ⟨#[]⟩, .string sv, .int .i64 (rv : Int), .slice p8 ll.length ca8] qg [a0, a1, a2, a3, a4, a5] p8 ll) := (by rw [← hWa]; exact S9.out.put 10 _); have ra := Sa.out.r.cell (j := 0) (v := .string o) rfl)
    | (go_at_call 35; refine (HS.out _).mono ?_; rintro r wb ⟨⟨pl, cl, rfl, hsl⟩, hB⟩; have Sb := hide' (Sa.out.step hB); have HSL := hide' hsl; clear hB hsl hWa ra r0 r1 r2 r3 r4 g0 g1 g2 g3 g4 g5 g6 g7 g8 g9 g10 f0 f1 f2 f3 f4 f5 f6 f7 f8 f9 f10))
  rename_i KK hKK
  have HKK := hide' hKK
  clear hKK S8 S9 Sa HT HS
  have r0 := Sb.out.r.cell (j := 0) rfl
  have r1 := Sb.out.r.cell (j := 1) rfl
  have r2 := Sb.out.r.cell (j := 2) rfl
  have r3 := Sb.out.r.cell (j := 3) rfl
  have r4 := Sb.out.r.cell (j := 4) rfl
  have g0 := Sb.out.g.cell (j := 0) rfl
  have g1 := Sb.out.g.cell (j := 1) rfl
  have g2 := Sb.out.g.cell (j := 2) rfl
  have g3 := Sb.out.g.cell (j := 3) rfl
  have g4 := Sb.out.g.cell (j := 4) rfl
  have g5 := Sb.out.g.cell (j := 5) rfl
  have g6 := Sb.out.g.cell (j := 6) rfl
  have g7 := Sb.out.g.cell (j := 7) rfl
  have g8 := Sb.out.g.cell (j := 8) rfl
  have g9 := Sb.out.g.cell (j := 9) rfl
  have g10 := Sb.out.g.cell (j := 10) rfl
  have f0 := Sb.out.g.free 0
  have f1 := Sb.out.g.free 1
  have f2 := Sb.out.g.free 2
  have f3 := Sb.out.g.free 3
  have f4 := Sb.out.g.free 4
  have f5 := Sb.out.g.free 5
  have f6 := Sb.out.g.free 6
  have f7 := Sb.out.g.free 7
  have f8 := Sb.out.g.free 8
  have f9 := Sb.out.g.free 9
  have f10 := Sb.out.g.free 10
  have p0 : World.cell? wb ⟨qg, 0, none⟩ = some (.string a0) := Sb.out.ps 0 (by simp)
  have p1 : World.cell? wb ⟨qg, 1, none⟩ = some (.string a1) := Sb.out.ps 1 (by simp)
  have p2 : World.cell? wb ⟨qg, 2, none⟩ = some (.string a2) := Sb.out.ps 2 (by simp)
  have p3 : World.cell? wb ⟨qg, 3, none⟩ = some (.string a3) := Sb.out.ps 3 (by simp)
  have p4 : World.cell? wb ⟨qg, 4, none⟩ = some (.string a4) := Sb.out.ps 4 (by simp)
  have p5 : World.cell? wb ⟨qg, 5, none⟩ = some (.string a5) := Sb.out.ps 5 (by simp)
  subst c5 c6
  have m0 : (a0.toList == [1]) = true := by rw [c0]; rfl
  have o0 : (a0.toList != [1]) = false := by rw [c0]; rfl
  have Hc0 := hide' c0
  clear c0
  have m1 : (a1.toList == [0]) = true := by rw [c1]; rfl
  have o1 : (a1.toList != [0]) = false := by rw [c1]; rfl
  have Hc1 := hide' c1
  clear c1
  have n2 : ¬ (50 : Int) < (rv : Int) := by omega
  have n3 : ((nv.size : Int) != 10) = false := by simp; omega
  have n3b : ((nv.size : Int) == 10) = true := by simp; omega
  have Hc3 := hide' c3
  clear c3
  have n4 : ((Lo.length : Int) == 0) = false := by rw [beq_eq_false_iff_ne]; omega
  have n4b : (0 : Int) < (Lo.length : Int) := by omega
  have hyz := hyl
  obtain ⟨ov, hov⟩ : ∃ ov : ByteArray, bts yy = ov := ⟨_, rfl⟩
  rw [hov] at c7
  have HFX : Hid (∀ W : World, Calls Tryz.prog 58 #[.string Lo[0]] W fun r w' => r = .returned (.tuple #[.string ov, .bool true]) ∧ Below W.heap.size W w') := fun W => by rw [← hov]; exact HFR.out W Lo[0] (by rw [List.head?_eq_getElem?, List.getElem?_eq_getElem c4])
  clear HFR
  have n6 : ((ov.size : Int) == 10) = true := by simp; omega
  have Hc7 := hide' c7
  clear c7
  go_wp2_with (first
    | (go_at_call 57; refine (HPA.out _).mono ?_; rintro r wc ⟨rfl, hB⟩; have Sc := hide' (Sb.out.step hB); have HSc := hide' (HSL.out.below hB); clear hB r0 r1 r2 r3 r4 g0 g1 g2 g3 g4 g5 g6 g7 g8 g9 g10 f0 f1 f2 f3 f4 f5 f6 f7 f8 f9 f10 p0 p1 p2 p3 p4 p5)
    | (go_at_call 33; refine (HEQ.out _).mono ?_; rintro r wd ⟨rfl, hB⟩; have Sd := hide' (Sc.out.step hB); have HSd := hide' (HSc.out.below hB); clear hB; have r0 := Sd.out.r.cell (j := 0) rfl; have r1 := Sd.out.r.cell (j := 1) rfl; have r2 := Sd.out.r.cell (j := 2) rfl; have r3 := Sd.out.r.cell (j := 3) rfl; have r4 := Sd.out.r.cell (j := 4) rfl; have g0 := Sd.out.g.cell (j := 0) rfl; have g1 := Sd.out.g.cell (j := 1) rfl; have g2 := Sd.out.g.cell (j := 2) rfl; have g3 := Sd.out.g.cell (j := 3) rfl; have g4 := Sd.out.g.cell (j := 4) rfl; have g5 := Sd.out.g.cell (j := 5) rfl; have g6 := Sd.out.g.cell (j := 6) rfl; have g7 := Sd.out.g.cell (j := 7) rfl; have g8 := Sd.out.g.cell (j := 8) rfl; have g9 := Sd.out.g.cell (j := 9) rfl; have g10 := Sd.out.g.cell (j := 10) rfl; have f0 := Sd.out.g.free 0; have f1 := Sd.out.g.free 1; have f2 := Sd.out.g.free 2; have f3 := Sd.out.g.free 3; have f4 := Sd.out.g.free 4; have f5 := Sd.out.g.free 5; have f6 := Sd.out.g.free 6; have f7 := Sd.out.g.free 7; have f8 := Sd.out.g.free 8; have f9 := Sd.out.g.free 9; have f10 := Sd.out.g.free 10; obtain ⟨gl, ol, hpl, hgl, l0⟩ := HSd.out 0 c4; subst hpl; simp only [Nat.add_zero] at l0))
  refine HKK.out _ _ ?_
  go_wp2_with (first
    | (go_at_call 58; refine (HFX.out _).mono ?_; rintro r we ⟨hre, hB⟩; obtain rfl : r = .returned (.tuple #[.string ov, .bool true]) := hre; have Se := hide' (Sd.out.step hB); clear hB r0 r1 r2 r3 r4 g0 g1 g2 g3 g4 g5 g6 g7 g8 g9 g10 f0 f1 f2 f3 f4 f5 f6 f7 f8 f9 f10; have g0 := Se.out.g.cell (j := 0) rfl; have g1 := Se.out.g.cell (j := 1) rfl; have g2 := Se.out.g.cell (j := 2) rfl; have g3 := Se.out.g.cell (j := 3) rfl; have g4 := Se.out.g.cell (j := 4) rfl; have g5 := Se.out.g.cell (j := 5) rfl; have g6 := Se.out.g.cell (j := 6) rfl; have g7 := Se.out.g.cell (j := 7) rfl; have g8 := Se.out.g.cell (j := 8) rfl; have g9 := Se.out.g.cell (j := 9) rfl; have g10 := Se.out.g.cell (j := 10) rfl; have f0 := Se.out.g.free 0; have f1 := Se.out.g.free 1; have f2 := Se.out.g.free 2; have f3 := Se.out.g.free 3; have f4 := Se.out.g.free 4; have f5 := Se.out.g.free 5; have f6 := Se.out.g.free 6; have f7 := Se.out.g.free 7; have f8 := Se.out.g.free 8; have f9 := Se.out.g.free 9; have f10 := Se.out.g.free 10; obtain ⟨Wf, hWf⟩ : ∃ Wf, World.setCell we ⟨w.heap.size + 1 + 1, 7, none⟩ (.string ov) = Wf := ⟨_, rfl⟩; have Sf : Hid (Us w Wf #[.string o, .int .i64 50, .int .i64 c, .int .i64 l, .string d] #[.string o, .int .i64 50, .int .i64 c, .int .i64 l, .string d, .bool true, .string nv, .string ov, .string sv, .int .i64 (rv : Int), .slice p8 ll.length ca8] qg [a0, a1, a2, a3, a4, a5] p8 ll) := (by rw [← hWf]; exact Se.out.put 7 _); have gg0 := Sf.out.g.cell (j := 0) rfl; have gg1 := Sf.out.g.cell (j := 1) rfl; have gg2 := Sf.out.g.cell (j := 2) rfl; have gg3 := Sf.out.g.cell (j := 3) rfl; have gg4 := Sf.out.g.cell (j := 4) rfl; have gg5 := Sf.out.g.cell (j := 5) rfl; have gg6 := Sf.out.g.cell (j := 6) rfl; have gg7 := Sf.out.g.cell (j := 7) rfl; have gg8 := Sf.out.g.cell (j := 8) rfl; have gg9 := Sf.out.g.cell (j := 9) rfl; have gg10 := Sf.out.g.cell (j := 10) rfl; have z0 := Sf.out.z.cell (j := 0) rfl; have z1 := Sf.out.z.cell (j := 1) rfl; have z2 := Sf.out.z.cell (j := 2) rfl; have z3 := Sf.out.z.cell (j := 3) rfl; have z4 := Sf.out.z.cell (j := 4) rfl; have z5 := Sf.out.z.cell (j := 5) rfl; have z6 := Sf.out.z.cell (j := 6) rfl; have z7 := Sf.out.z.cell (j := 7) rfl; have z8 := Sf.out.z.cell (j := 8) rfl; have z9 := Sf.out.z.cell (j := 9) rfl; have z10 := Sf.out.z.cell (j := 10) rfl; have y0 := Sf.out.z.free 0; have y1 := Sf.out.z.free 1; have y2 := Sf.out.z.free 2; have y3 := Sf.out.z.free 3; have y4 := Sf.out.z.free 4; have y5 := Sf.out.z.free 5; have y6 := Sf.out.z.free 6; have y7 := Sf.out.z.free 7; have y8 := Sf.out.z.free 8; have y9 := Sf.out.z.free 9; have y10 := Sf.out.z.free 10; obtain ⟨V9, hV9⟩ : ∃ V9, (World.setCell (World.setCell (World.setCell (World.setCell (World.setCell (World.setCell (World.setCell (World.setCell (World.setCell (World.setCell (World.setCell Wf ⟨w.heap.size + 1, 0, none⟩ (.string o)) ⟨w.heap.size + 1, 1, none⟩ (.int .i64 50)) ⟨w.heap.size + 1, 2, none⟩ (.int .i64 c)) ⟨w.heap.size + 1, 3, none⟩ (.int .i64 l)) ⟨w.heap.size + 1, 4, none⟩ (.string d)) ⟨w.heap.size + 1, 5, none⟩ (.bool true)) ⟨w.heap.size + 1, 6, none⟩ (.string nv)) ⟨w.heap.size + 1, 7, none⟩ (.string ov)) ⟨w.heap.size + 1, 8, none⟩ (.string sv)) ⟨w.heap.size + 1, 9, none⟩ (.int .i64 (rv : Int))) ⟨w.heap.size + 1, 10, none⟩ (.slice p8 ll.length ca8)) = V9 := ⟨_, rfl⟩; have W9 : Bx V9 (w.heap.size + 1) #[.string o, .int .i64 50, .int .i64 c, .int .i64 l, .string d, .bool true, .string nv, .string ov, .string sv, .int .i64 (rv : Int), .slice p8 ll.length ca8] 43 ∧ Below w.heap.size w V9 ∧ NumsAt V9 p8 ll := (by rw [← hV9]; exact Sf.out.wrote [.string o, .int .i64 50, .int .i64 c, .int .i64 l, .string d, .bool true, .string nv, .string ov, .string sv, .int .i64 (rv : Int), .slice p8 ll.length ca8] rfl); have q0 := W9.1.cell (j := 0) rfl; have q1 := W9.1.cell (j := 1) rfl; have q2 := W9.1.cell (j := 2) rfl; have q3 := W9.1.cell (j := 3) rfl; have q4 := W9.1.cell (j := 4) rfl; have q5 := W9.1.cell (j := 5) rfl; have q6 := W9.1.cell (j := 6) rfl; have q7 := W9.1.cell (j := 7) rfl; have q8 := W9.1.cell (j := 8) rfl; have q9 := W9.1.cell (j := 9) rfl; have q10 := W9.1.cell (j := 10) rfl; have HW9 := hide' W9; clear W9))
  change bodyPost _ _ _ _ _ _
  refine bodyPost_ret (v := .tuple #[.agg #[.string o, .int .i64 50, .int .i64 c, .int .i64 l, .string d, .bool true, .string nv, .string ov, .string sv, .int .i64 (rv : Int), .slice p8 ll.length ca8], .bool true]) (by simp [results, go_sem, q0, q1, q2, q3, q4, q5, q6, q7, q8, q9, q10]) rfl ?_
  exact ⟨⟨⟨o, 50, c, l, d, true, nv, ov, sv, rv, ll, p8, ca8⟩, rfl, HW9.out.2.2, fun g off hp => Nat.le_trans (by omega) (Nat.le_of_lt (Sf.out.pg g off hp)), rfl, rfl, rfl, rfl, rfl, rfl, yy, rfl, hov⟩, HW9.out.2.1⟩
end Go.Proofs.YtipifhifjbenlaaGreat
