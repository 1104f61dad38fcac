import Derived.Test.YtipifhifjbenlaaGreatPjpG
/-
  Proofs: the reference's Use, at an NSEC. (The verifier's own text.)
-/
namespace Go.Proofs.YtipifhifjbenlaaGreat
set_option linter.unusedVariables false
set_option linter.unusedSimpArgs false
open Go.RowKit Go.Shelf Go.Maps Go.Proofs.YtipifhifjbenlaaGreat.Nm

theorem parts_of {t : Int} {ks : List Kind} {d : ByteArray} {ps : List (Kind × ByteArray)} (hk : kindsOf t = some ks) (h : partsD t d = some ps) : partsOf ks d = some ps := by
  unfold partsD at h
  rw [hk] at h
  change (if _ then _ else _) = _ at h
  split at h
  · cases h
  · exact h
set_option maxRecDepth 100000 in
set_option maxHeartbeats 8000000 in
/-- Use, at an NSEC -/
theorem use_nsec (apex : ByteArray) (i : Nat) (o d : ByteArray) (c l : Int) (w : World) (ha : apex.size ≤ 1048576) (ho : o.size ≤ 1048576) (hd : d.size ≤ 9223372036854775807) (h : rgB apex ⟨o, 47, c, l, d⟩ = true) :
    Calls Tryz.prog 34 #[.string apex, .agg #[.string o, .int .i64 47, .int .i64 c, .int .i64 l, .string d]] w fun e w' => UseEnd apex i ⟨o, 47, c, l, d⟩ w w' e ∧ Below w.heap.size w w' := by
  have hr := h
  unfold rgB at hr
  rw [Bool.and_eq_true] at hr
  obtain ⟨n, ll, m1, m2, m3, m4, m5, m6, m7⟩ := nsec_form (zon_err hr.2).2
  have HZ := hide' (fun W => zonal_any o d 47 c l W ho hd)
  have HW := hide' (fun W => refWithin_any o apex W ho ha)
  dsimp only at m1 m2 m3 m4 m5 m6 m7
  rw [show zonB o d 47 c l = true from hr.2] at HZ
  rw [show withinB o apex = true from hr.1] at HW
  have hNz : (d.extract 0 n).size = n := by rw [size_extract' _ _ _ m1]; omega
  have hTz : (d.extract n d.size).size ≤ 1048576 := by rw [size_extract' _ _ _ (Nat.le_refl _)]; omega
  have HH : Hid (hqOf apex i ⟨o, 47, c, l, d⟩ = []) := by unfold Hid hqOf; rw [if_neg (fun e => by cases e.1)]
  have HNY : Hid (withinB (d.extract 0 n) apex = true → nqOf apex i ⟨o, 47, c, l, d⟩ = [⟨(i : Int), d.extract n d.size, o, d.extract 0 n⟩]) := fun hw => by
    unfold nqOf
    dsimp only
    rw [m4]
    rw [if_pos ⟨rfl, h, hw⟩]
    show [(⟨(i : Int), d.extract (d.extract 0 n).size d.size, o, d.extract 0 n⟩ : Nq)] = _
    rw [hNz]
  have HNN : Hid (withinB (d.extract 0 n) apex = false → nqOf apex i ⟨o, 47, c, l, d⟩ = []) := fun hw => by
    unfold nqOf
    dsimp only
    rw [m4]
    rw [if_neg (fun e => by have e2 := e.2.2; simp only [List.headD_cons] at e2; rw [hw] at e2; cases e2)]
  have HF := hide' (fun W => form_any 47 W)
  rw [formB_kinds kinds47] at HF
  have HP := hide' (fun W => refParts_any [.dom, .set] d W m6 (by decide) ((kinds_ok kinds47).resolve_left (by decide)).1)
  rw [parts_of kinds47 m7] at HP
  have HT := hide' (fun W => refTypes_any (d.extract n d.size) W hTz)
  have HM5 := hide' m5
  rw [m5] at HT
  have HW2 := hide' (fun W => refWithin_any (d.extract 0 n) apex W (by omega) ha)
  obtain ⟨W0, hW0⟩ : ∃ W0, ((w.alloc (.cells #[.string o, .int .i64 47, .int .i64 c, .int .i64 l, .string d] 32)).alloc (.cells #[.string ⟨#[]⟩, .int .i64 0, .int .i64 0, .int .i64 0, .string ⟨#[]⟩, .bool false, .string ⟨#[]⟩, .string ⟨#[]⟩, .string ⟨#[]⟩, .int .i64 0, .slice none 0 0] 43)).alloc (.cells #[.string o, .int .i64 47, .int .i64 c, .int .i64 l, .string d, .bool false, .string ⟨#[]⟩, .string ⟨#[]⟩, .string ⟨#[]⟩, .int .i64 0, .slice none 0 0] 43) = W0 := ⟨_, rfl⟩
  have S0 : Hid (Us w W0 #[.string o, .int .i64 47, .int .i64 c, .int .i64 l, .string d] #[.string o, .int .i64 47, .int .i64 c, .int .i64 l, .string d, .bool false, .string ⟨#[]⟩, .string ⟨#[]⟩, .string ⟨#[]⟩, .int .i64 0, .slice none 0 0] 0 [] none []) := by rw [← hW0]; exact Us.start w _ _
  have HW0 := hide' hW0
  clear hW0
  generalize formK [.dom, .set] = FK at *
  obtain ⟨N, hN⟩ : ∃ N, d.extract 0 n = N := ⟨_, rfl⟩
  obtain ⟨T, hT⟩ : ∃ T, d.extract n d.size = T := ⟨_, rfl⟩
  rw [hN] at HNY HNN HW2
  rw [hT] at HNY HM5 HT
  simp only [hN, hT] at HP
  clear h hr m1 m2 m3 m4 m5 m6 m7 hNz hTz ha ho hd hN hT
  go_enter Tryz.func34, Tryz.ntmps34
  go_wp2_with (first
    | (go_at_call 52; refine (HZ.out _).mono ?_; rintro r w1 ⟨rfl, hB⟩; rw [HW0.out] at hB; have S1 := hide' (S0.out.step hB); clear hB; have r0 := S1.out.r.cell (j := 0) rfl; have r1 := S1.out.r.cell (j := 1) rfl; have r2 := S1.out.r.cell (j := 2) rfl; have r3 := S1.out.r.cell (j := 3) rfl; have r4 := S1.out.r.cell (j := 4) rfl; have g0 := S1.out.g.cell (j := 0) rfl; have g1 := S1.out.g.cell (j := 1) rfl; have g2 := S1.out.g.cell (j := 2) rfl; have g3 := S1.out.g.cell (j := 3) rfl; have g4 := S1.out.g.cell (j := 4) rfl; have g5 := S1.out.g.cell (j := 5) rfl; have g6 := S1.out.g.cell (j := 6) rfl; have g7 := S1.out.g.cell (j := 7) rfl; have g8 := S1.out.g.cell (j := 8) rfl; have g9 := S1.out.g.cell (j := 9) rfl; have g10 := S1.out.g.cell (j := 10) rfl; have f0 := S1.out.g.free 0; have f1 := S1.out.g.free 1; have f2 := S1.out.g.free 2; have f3 := S1.out.g.free 3; have f4 := S1.out.g.free 4; have f5 := S1.out.g.free 5; have f6 := S1.out.g.free 6; have f7 := S1.out.g.free 7; have f8 := S1.out.g.free 8; have f9 := S1.out.g.free 9; have f10 := S1.out.g.free 10)
    | (go_at_call 13; (with_reducible refine (HW.out _).mono ?_); rintro r w2 ⟨rfl, hB⟩; have S2 := hide' (S1.out.step hB); clear hB; clear r0 r1 r2 r3 r4 g0 g1 g2 g3 g4 g5 g6 g7 g8 g9 g10 f0 f1 f2 f3 f4 f5 f6 f7 f8 f9 f10; have r0 := S2.out.r.cell (j := 0) rfl; have r1 := S2.out.r.cell (j := 1) rfl; have r2 := S2.out.r.cell (j := 2) rfl; have r3 := S2.out.r.cell (j := 3) rfl; have r4 := S2.out.r.cell (j := 4) rfl; have g0 := S2.out.g.cell (j := 0) rfl; have g1 := S2.out.g.cell (j := 1) rfl; have g2 := S2.out.g.cell (j := 2) rfl; have g3 := S2.out.g.cell (j := 3) rfl; have g4 := S2.out.g.cell (j := 4) rfl; have g5 := S2.out.g.cell (j := 5) rfl; have g6 := S2.out.g.cell (j := 6) rfl; have g7 := S2.out.g.cell (j := 7) rfl; have g8 := S2.out.g.cell (j := 8) rfl; have g9 := S2.out.g.cell (j := 9) rfl; have g10 := S2.out.g.cell (j := 10) rfl; have f0 := S2.out.g.free 0; have f1 := S2.out.g.free 1; have f2 := S2.out.g.free 2; have f3 := S2.out.g.free 3; have f4 := S2.out.g.free 4; have f5 := S2.out.g.free 5; have f6 := S2.out.g.free 6; have f7 := S2.out.g.free 7; have f8 := S2.out.g.free 8; have f9 := S2.out.g.free 9; have f10 := S2.out.g.free 10))
  clear r0 r1 r2 r3 r4 g0 g1 g2 g3 g4 g5 g6 g7 g8 g9 g10 f0 f1 f2 f3 f4 f5 f6 f7 f8 f9 f10
  have r1 := S2.out.r.cell (j := 1) (v := .int .i64 47) rfl
  have r4 := S2.out.r.cell (j := 4) (v := .string d) rfl
  go_region_held3 (fun V => V.cell? ⟨w.heap.size, 1, none⟩ = some (.int .i64 47) ∧ V.cell? ⟨w.heap.size, 4, none⟩ = some (.string d)) (first | go_keep | exact ⟨S3.out.r.cell rfl, S3.out.r.cell rfl⟩ | exact ⟨S2.out.r.cell rfl, S2.out.r.cell rfl⟩) (first
    | (go_at_call 54; refine (HF.out _).mono ?_; rintro r wf ⟨rfl, hwf⟩; subst hwf)
    | (go_at_call 53; refine (HP.out _).mono ?_; rintro r w3 ⟨⟨pp, cp, rfl, hop⟩, hB⟩; have hop2 := hop; obtain ⟨qg, qc, hqq⟩ := owns_some hop2 (by simp); injection hqq with hqq1 hqq2 hqq3; subst hqq1; have S3 : Hid (Us w w3 #[.string o, .int .i64 47, .int .i64 c, .int .i64 l, .string d] #[.string o, .int .i64 47, .int .i64 c, .int .i64 l, .string d, .bool false, .string ⟨#[]⟩, .string ⟨#[]⟩, .string ⟨#[]⟩, .int .i64 0, .slice none 0 0] qg [N, T] none []) := (by first | exact S2.out.parts hB hop | exact S2.out.drew.parts hB hop); clear hB hop hop2))
  clear r1 r4
  have r0 := S3.out.r.cell (j := 0) rfl
  have r1 := S3.out.r.cell (j := 1) rfl
  have r2 := S3.out.r.cell (j := 2) rfl
  have r3 := S3.out.r.cell (j := 3) rfl
  have r4 := S3.out.r.cell (j := 4) rfl
  have g0 := S3.out.g.cell (j := 0) rfl
  have g1 := S3.out.g.cell (j := 1) rfl
  have g2 := S3.out.g.cell (j := 2) rfl
  have g3 := S3.out.g.cell (j := 3) rfl
  have g4 := S3.out.g.cell (j := 4) rfl
  have g5 := S3.out.g.cell (j := 5) rfl
  have g6 := S3.out.g.cell (j := 6) rfl
  have g7 := S3.out.g.cell (j := 7) rfl
  have g8 := S3.out.g.cell (j := 8) rfl
  have g9 := S3.out.g.cell (j := 9) rfl
  have g10 := S3.out.g.cell (j := 10) rfl
  have f0 := S3.out.g.free 0
  have f1 := S3.out.g.free 1
  have f2 := S3.out.g.free 2
  have f3 := S3.out.g.free 3
  have f4 := S3.out.g.free 4
  have f5 := S3.out.g.free 5
  have f6 := S3.out.g.free 6
  have f7 := S3.out.g.free 7
  have f8 := S3.out.g.free 8
  have f9 := S3.out.g.free 9
  have f10 := S3.out.g.free 10
  have p0 : World.cell? w3 ⟨qg, 0, none⟩ = some (.string N) := S3.out.ps 0 (by simp)
  have p1 : World.cell? w3 ⟨qg, 1, none⟩ = some (.string T) := S3.out.ps 1 (by simp)
  obtain ⟨W4, hW4⟩ : ∃ W4, World.setCell w3 ⟨w.heap.size + 1 + 1, 6, none⟩ (.string N) = W4 := ⟨_, rfl⟩
  have S4 : Hid (Us w W4 #[.string o, .int .i64 47, .int .i64 c, .int .i64 l, .string d] #[.string o, .int .i64 47, .int .i64 c, .int .i64 l, .string d, .bool false, .string N, .string ⟨#[]⟩, .string ⟨#[]⟩, .int .i64 0, .slice none 0 0] qg [N, T] none []) := by rw [← hW4]; exact S3.out.put 6 _
  have pp1 : World.cell? W4 ⟨qg, 1, none⟩ = some (.string T) := S4.out.ps 1 (by simp)
  go_wp2_with (first
    | (go_at_call 55; refine (HT.out _).mono ?_; rintro r w5 ⟨⟨vv, rfl, hot⟩, hB⟩; obtain ⟨p5, ca5, rfl, h5⟩ := S4.out.types hB hot; have S5 := hide' h5; clear hB hot h5 r0 r1 r2 r3 r4 g0 g1 g2 g3 g4 g5 g6 g7 g8 g9 g10 f0 f1 f2 f3 f4 f5 f6 f7 f8 f9 f10 p0 p1 pp1; have r0 := S5.out.r.cell (j := 0) rfl; have r1 := S5.out.r.cell (j := 1) rfl; have r2 := S5.out.r.cell (j := 2) rfl; have r3 := S5.out.r.cell (j := 3) rfl; have r4 := S5.out.r.cell (j := 4) rfl; have g0 := S5.out.g.cell (j := 0) rfl; have g1 := S5.out.g.cell (j := 1) rfl; have g2 := S5.out.g.cell (j := 2) rfl; have g3 := S5.out.g.cell (j := 3) rfl; have g4 := S5.out.g.cell (j := 4) rfl; have g5 := S5.out.g.cell (j := 5) rfl; have g6 := S5.out.g.cell (j := 6) rfl; have g7 := S5.out.g.cell (j := 7) rfl; have g8 := S5.out.g.cell (j := 8) rfl; have g9 := S5.out.g.cell (j := 9) rfl; have g10 := S5.out.g.cell (j := 10) rfl; have f0 := S5.out.g.free 0; have f1 := S5.out.g.free 1; have f2 := S5.out.g.free 2; have f3 := S5.out.g.free 3; have f4 := S5.out.g.free 4; have f5 := S5.out.g.free 5; have f6 := S5.out.g.free 6; have f7 := S5.out.g.free 7; have f8 := S5.out.g.free 8; have f9 := S5.out.g.free 9; have f10 := S5.out.g.free 10; obtain ⟨W6, hW6⟩ : ∃ W6, World.setCell w5 ⟨w.heap.size + 1 + 1, 10, none⟩ (.slice p5 ll.length ca5) = W6 := ⟨_, rfl⟩; have S6 : Hid (Us w W6 #[.string o, .int .i64 47, .int .i64 c, .int .i64 l, .string d] #[.string o, .int .i64 47, .int .i64 c, .int .i64 l, .string d, .bool false, .string N, .string ⟨#[]⟩, .string ⟨#[]⟩, .int .i64 0, .slice p5 ll.length ca5] qg [N, T] p5 ll) := (by rw [← hW6]; exact S5.out.put 10 _)))
  clear r0 r1 r2 r3 r4 g0 g1 g2 g3 g4 g5 g6 g7 g8 g9 g10 f0 f1 f2 f3 f4 f5 f6 f7 f8 f9 f10
  obtain ⟨bw, hbw⟩ : ∃ bw, withinB N apex = bw := ⟨_, rfl⟩
  rw [hbw] at HNY HNN HW2
  have QF : Hid (∀ V : World, Bx V (w.heap.size + 1 + 1) #[.string o, .int .i64 47, .int .i64 c, .int .i64 l, .string d, .bool false, .string N, .string ⟨#[]⟩, .string ⟨#[]⟩, .int .i64 0, .slice p5 ll.length ca5] 43 → V.cell? ⟨w.heap.size + 1 + 1, 0, none⟩ = some (.string o) ∧ V.cell? ⟨w.heap.size + 1 + 1, 1, none⟩ = some (.int .i64 47) ∧ V.cell? ⟨w.heap.size + 1 + 1, 2, none⟩ = some (.int .i64 c) ∧ V.cell? ⟨w.heap.size + 1 + 1, 3, none⟩ = some (.int .i64 l) ∧ V.cell? ⟨w.heap.size + 1 + 1, 4, none⟩ = some (.string d) ∧ V.cell? ⟨w.heap.size + 1 + 1, 5, none⟩ = some (.bool false) ∧ V.cell? ⟨w.heap.size + 1 + 1, 6, none⟩ = some (.string N) ∧ V.cell? ⟨w.heap.size + 1 + 1, 7, none⟩ = some (.string ⟨#[]⟩) ∧ V.cell? ⟨w.heap.size + 1 + 1, 8, none⟩ = some (.string ⟨#[]⟩) ∧ V.cell? ⟨w.heap.size + 1 + 1, 9, none⟩ = some (.int .i64 0) ∧ V.cell? ⟨w.heap.size + 1 + 1, 10, none⟩ = some (.slice p5 ll.length ca5)) := fun V h => ⟨h.cell rfl, h.cell rfl, h.cell rfl, h.cell rfl, h.cell rfl, h.cell rfl, h.cell rfl, h.cell rfl, h.cell rfl, h.cell rfl, h.cell rfl⟩
  have hk0 := QF.out _ S6.out.g
  refine wp_region_held_drew (S := fun V => V.cell? ⟨w.heap.size + 1 + 1, 0, none⟩ = some (.string o) ∧ V.cell? ⟨w.heap.size + 1 + 1, 1, none⟩ = some (.int .i64 47) ∧ V.cell? ⟨w.heap.size + 1 + 1, 2, none⟩ = some (.int .i64 c) ∧ V.cell? ⟨w.heap.size + 1 + 1, 3, none⟩ = some (.int .i64 l) ∧ V.cell? ⟨w.heap.size + 1 + 1, 4, none⟩ = some (.string d) ∧ V.cell? ⟨w.heap.size + 1 + 1, 5, none⟩ = some (.bool false) ∧ V.cell? ⟨w.heap.size + 1 + 1, 6, none⟩ = some (.string N) ∧ V.cell? ⟨w.heap.size + 1 + 1, 7, none⟩ = some (.string ⟨#[]⟩) ∧ V.cell? ⟨w.heap.size + 1 + 1, 8, none⟩ = some (.string ⟨#[]⟩) ∧ V.cell? ⟨w.heap.size + 1 + 1, 9, none⟩ = some (.int .i64 0) ∧ V.cell? ⟨w.heap.size + 1 + 1, 10, none⟩ = some (.slice p5 ll.length ca5)) (by kernel_rfl) ?_ (fun hHeld => ?_)
  · (try dsimp only); exact hk0
  refine takeJ 0 (some 60) (.agg #[.string o, .int .i64 47, .int .i64 c, .int .i64 l, .string d, .bool false, .string N, .string ⟨#[]⟩, .string ⟨#[]⟩, .int .i64 0, .slice p5 ll.length ca5]) rfl rfl (by kernel_rfl) (by kernel_rfl) (by kernel_rfl) (fun _ _ _ h => h) (Or.inl ⟨by rfl, ?_⟩) (by assumption) ?_
  · intro w hSw; (try dsimp only at hSw); go_simp <;> (intros; omega)
  simp only [Act.put, List.setIfInBounds_toArray, List.set_cons_zero, List.set_cons_succ]
  refine takeJ 1 (some 61) (.pointer (some ⟨w.heap.size + 1 + 1, 6, none⟩)) rfl rfl (by kernel_rfl) (by kernel_rfl) (by kernel_rfl) (fun _ _ _ h => h) (Or.inl ⟨by rfl, ?_⟩) (by assumption) ?_
  · intro w hSw; (try dsimp only at hSw); go_simp <;> (intros; omega)
  simp only [Act.put, List.setIfInBounds_toArray, List.set_cons_zero, List.set_cons_succ]
  refine takeJ 2 (some 62) (.string N) rfl rfl (by kernel_rfl) (by kernel_rfl) (by kernel_rfl) (fun _ _ _ h => h) (Or.inl ⟨by rfl, ?_⟩) (by assumption) ?_
  · intro w hSw; (try dsimp only at hSw); go_simp <;> (intros; omega)
  simp only [Act.put, List.setIfInBounds_toArray, List.set_cons_zero, List.set_cons_succ]
  refine takeJ 3 (some 63) (.string apex) rfl rfl (by kernel_rfl) (by kernel_rfl) (by kernel_rfl) (fun _ _ _ h => h) (Or.inl ⟨by rfl, ?_⟩) (by assumption) ?_
  · intro w hSw; (try dsimp only at hSw); go_simp <;> (intros; omega)
  simp only [Act.put, List.setIfInBounds_toArray, List.set_cons_zero, List.set_cons_succ]
  refine wpAnyH_ready (rs := [4]) (by kernel_rfl) (by simp) ?_
  refine AllReadyH.cons rfl (fun K hK => ?_) AllReadyH.nil
  go_simp
  go_at_call 13; refine (HW2.out _).mono ?_; rintro r w7 ⟨rfl, hB⟩; have S7 : Hid (Us w w7 #[.string o, .int .i64 47, .int .i64 c, .int .i64 l, .string d] #[.string o, .int .i64 47, .int .i64 c, .int .i64 l, .string d, .bool false, .string N, .string ⟨#[]⟩, .string ⟨#[]⟩, .int .i64 0, .slice p5 ll.length ca5] qg [N, T] p5 ll) := (by first | exact S6.out.step hB | exact S6.out.drew.step hB); clear hB
  go_wp2_with fail
  refine hK.out _ _ (QF.out _ S7.out.g) (fun hHeld => ?_)
  clear hK K
  try simp only [Act.put, List.setIfInBounds_toArray, List.set_cons_zero, List.set_cons_succ]
  refine wpAnyH_ready (rs := [5]) (by kernel_rfl) (by simp) ?_
  refine AllReadyH.cons rfl (fun K hK => ?_) AllReadyH.nil
  have z0 := S7.out.z.cell (j := 0) rfl
  have z1 := S7.out.z.cell (j := 1) rfl
  have z2 := S7.out.z.cell (j := 2) rfl
  have z3 := S7.out.z.cell (j := 3) rfl
  have z4 := S7.out.z.cell (j := 4) rfl
  have z5 := S7.out.z.cell (j := 5) rfl
  have z6 := S7.out.z.cell (j := 6) rfl
  have z7 := S7.out.z.cell (j := 7) rfl
  have z8 := S7.out.z.cell (j := 8) rfl
  have z9 := S7.out.z.cell (j := 9) rfl
  have z10 := S7.out.z.cell (j := 10) rfl
  have y0 := S7.out.z.free 0
  have y1 := S7.out.z.free 1
  have y2 := S7.out.z.free 2
  have y3 := S7.out.z.free 3
  have y4 := S7.out.z.free 4
  have y5 := S7.out.z.free 5
  have y6 := S7.out.z.free 6
  have y7 := S7.out.z.free 7
  have y8 := S7.out.z.free 8
  have y9 := S7.out.z.free 9
  have y10 := S7.out.z.free 10
  obtain ⟨V9, hV9⟩ : ∃ V9, (World.setCell (World.setCell (World.setCell (World.setCell (World.setCell (World.setCell (World.setCell (World.setCell (World.setCell (World.setCell (World.setCell w7 ⟨w.heap.size + 1, 0, none⟩ (.string o)) ⟨w.heap.size + 1, 1, none⟩ (.int .i64 47)) ⟨w.heap.size + 1, 2, none⟩ (.int .i64 c)) ⟨w.heap.size + 1, 3, none⟩ (.int .i64 l)) ⟨w.heap.size + 1, 4, none⟩ (.string d)) ⟨w.heap.size + 1, 5, none⟩ (.bool false)) ⟨w.heap.size + 1, 6, none⟩ (.string N)) ⟨w.heap.size + 1, 7, none⟩ (.string ⟨#[]⟩)) ⟨w.heap.size + 1, 8, none⟩ (.string ⟨#[]⟩)) ⟨w.heap.size + 1, 9, none⟩ (.int .i64 0)) ⟨w.heap.size + 1, 10, none⟩ (.slice p5 ll.length ca5)) = V9 := ⟨_, rfl⟩
  have W9 : Bx V9 (w.heap.size + 1) #[.string o, .int .i64 47, .int .i64 c, .int .i64 l, .string d, .bool false, .string N, .string ⟨#[]⟩, .string ⟨#[]⟩, .int .i64 0, .slice p5 ll.length ca5] 43 ∧ Below w.heap.size w V9 ∧ NumsAt V9 p5 ll := (by rw [← hV9]; exact S7.out.wrote [.string o, .int .i64 47, .int .i64 c, .int .i64 l, .string d, .bool false, .string N, .string ⟨#[]⟩, .string ⟨#[]⟩, .int .i64 0, .slice p5 ll.length ca5] rfl)
  have q0 := W9.1.cell (j := 0) rfl
  have q1 := W9.1.cell (j := 1) rfl
  have q2 := W9.1.cell (j := 2) rfl
  have q3 := W9.1.cell (j := 3) rfl
  have q4 := W9.1.cell (j := 4) rfl
  have q5 := W9.1.cell (j := 5) rfl
  have q6 := W9.1.cell (j := 6) rfl
  have q7 := W9.1.cell (j := 7) rfl
  have q8 := W9.1.cell (j := 8) rfl
  have q9 := W9.1.cell (j := 9) rfl
  have q10 := W9.1.cell (j := 10) rfl
  have HW9 := hide' W9
  clear W9
  have BG : Bx V9 (w.heap.size + 1 + 1) #[.string o, .int .i64 47, .int .i64 c, .int .i64 l, .string d, .bool false, .string N, .string ⟨#[]⟩, .string ⟨#[]⟩, .int .i64 0, .slice p5 ll.length ca5] 43 := by rw [← hV9]; exact S7.out.g.grown (grown_setCells (w.heap.size + 1) [.string o, .int .i64 47, .int .i64 c, .int .i64 l, .string d, .bool false, .string N, .string ⟨#[]⟩, .string ⟨#[]⟩, .int .i64 0, .slice p5 ll.length ca5] 0 w7) (by intro e; injection e with e; omega)
  go_simp
  refine hK.out _ _ (QF.out _ BG) (fun hHeld => ?_)
  clear hK K
  try simp only [Act.put, List.setIfInBounds_toArray, List.set_cons_zero, List.set_cons_succ]
  refine takeJ 6 (some 5) (.bool bw) rfl rfl (by kernel_rfl) (by kernel_rfl) (by kernel_rfl) (fun _ _ _ h => h) (Or.inl ⟨by rfl, ?_⟩) (by assumption) ?_
  · intro w hSw; (try dsimp only at hSw); go_simp <;> (intros; omega)
  simp only [Act.put, List.setIfInBounds_toArray, List.set_cons_zero, List.set_cons_succ]
  refine wpAnyH_done (by kernel_rfl) ?_ _
  go_wp2_with fail
  change bodyPost _ _ _ _ _ _
  refine bodyPost_ret (v := .tuple #[.agg #[.string o, .int .i64 47, .int .i64 c, .int .i64 l, .string d, .bool false, .string N, .string ⟨#[]⟩, .string ⟨#[]⟩, .int .i64 0, .slice p5 ll.length ca5], .bool bw]) (by simp [results, go_sem, q0, q1, q2, q3, q4, q5, q6, q7, q8, q9, q10]) rfl ?_
  refine ⟨⟨⟨o, 47, c, l, d, false, N, ⟨#[]⟩, ⟨#[]⟩, 0, ll, p5, ca5⟩, bw, rfl, fun h => ⟨HNN.out h, HH.out⟩, fun h => ⟨HW9.out.2.2, fun g off hp => Nat.le_trans (by omega) (Nat.le_of_lt (S7.out.pg g off hp)), .inl ⟨_, HNY.out h, HH.out, ⟨rfl, rfl, rfl, HM5.out⟩⟩⟩⟩, HW9.out.2.1⟩
end Go.Proofs.YtipifhifjbenlaaGreat
