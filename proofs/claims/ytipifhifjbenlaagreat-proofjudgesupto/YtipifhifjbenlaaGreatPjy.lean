import Derived.Test.YtipifhifjbenlaaGreatPjxG
/-
  Proofs: the reference's Usable. (The verifier's own text.)
-/
namespace Go.Proofs.YtipifhifjbenlaaGreat
set_option linter.unusedVariables false
set_option linter.unusedSimpArgs false
open Go.RowKit Go.Shelf Go.Maps Go.Proofs.YtipifhifjbenlaaGreat.Nm

theorem nqOf_one (apex : ByteArray) (i : Nat) (r : Rn) : nqOf apex i r = [] ∨ ∃ y, nqOf apex i r = [y] ∧ hqOf apex i r = [] := by
  by_cases h : r.t = 47 ∧ rgB apex r = true ∧ withinB ((namesD r.t r.d).headD .empty) apex = true
  · right
    unfold nqOf hqOf
    rw [if_pos h, if_neg (fun e => by have := h.1; rw [e.1] at this; cases this)]
    exact ⟨_, rfl, rfl⟩
  · left
    unfold nqOf
    rw [if_neg h]
theorem hqOf_one (apex : ByteArray) (i : Nat) (r : Rn) : hqOf apex i r = [] ∨ ∃ y, hqOf apex i r = [y] := by
  unfold hqOf
  split
  · exact .inr ⟨_, rfl⟩
  · exact .inl rfl
/-- what is found in a list -/
def UsEnd (apex : ByteArray) (L : List Rn) (w' : World) (e : Ending) : Prop := ∃ p ca M, e = .returned (.slice p M.length ca) ∧ GsAt w' p M ∧ (∀ x ∈ M, NumsAt w' x.p x.ty) ∧ ((0 < (nqL apex L L.length).length ∧ RelN M (nqL apex L L.length)) ∨ ((nqL apex L L.length) = [] ∧ RelH M (uhL (hqL apex L L.length))))
set_option maxRecDepth 100000 in
set_option maxHeartbeats 16000000 in
/-- Usable -/
theorem usable_any (apex : ByteArray) (L : List Rn) (p : Option Addr) (cap : Nat) (w : World) (hL : L.length ≤ 1048576) (hat : RsAt w p L)
    (HU : Hid (∀ (i : Nat) (r : Rn), r ∈ L → ∀ W, Calls Tryz.prog 34 #[.string apex, .agg #[.string r.o, .int .i64 r.t, .int .i64 r.c, .int .i64 r.l, .string r.d]] W fun e w' => UseEnd apex i r W w' e ∧ Below W.heap.size W w')) :
    Calls Tryz.prog 14 #[.string apex, .slice p L.length cap] w fun e w' => UsEnd apex L w' e ∧ Below w.heap.size w w' := by
  obtain ⟨i0, hi0, hz0, hz1, hz2⟩ := info_parts infoG
  have HI := hide' (And.intro hi0 (And.intro hz0 (And.intro hz1 hz2)))
  clear hi0 hz0 hz1 hz2
  have HAT := hide' hat
  clear hat
  go_enter Tryz.func14, Tryz.ntmps14
  go_wp2_with fail
  go_loopw [5, 6, 13] (fun vn vh iv wr => ∃ (k : Nat) (M1 M2 : List Gq), iv = .int .i64 (k : Int) ∧ k ≤ L.length ∧ Hid (Uz w wr vn vh M1 M2) ∧ Hid (RelN M1 (nqL apex L k)) ∧ Hid (RelH M2 (uhL (hqL apex L k)))) (fun _ _ iv _ => L.length - (intOf iv).toNat)
  case atStart => exact ⟨0, [], [], rfl, Nat.zero_le _, Uz.start w, trivial, trivial⟩
  case round =>
    obtain ⟨k, M1, M2, rfl, hk, HUZ, HR1, HR2⟩ := hrel
    by_cases hlt : k < L.length
    · have hki : (k : Int) < (L.length : Int) := by omega
      obtain ⟨g, off, hpp, hg, e0, e1, e2, e3, e4⟩ := (rsAt_below7 HAT.out HUZ.out.b) k hlt
      have hm1 : M1.length ≤ k := by rw [HR1.out.len]; exact nqL_len _ _ _
      have hm2 : M2.length ≤ k := by
        rw [HR2.out.len]
        refine Nat.le_trans ?_ (hqL_len apex L k)
        cases hqL apex L k with
        | nil => exact Nat.le_refl _
        | cons x H => exact hwL_len2 x.rd x.sl (x :: H)
      have HSN := hide' (nqL_succ (apex := apex) hlt)
      have HSH := hide' (hqL_succ (apex := apex) hlt)
      have HUK := hide' (HU.out k L[k] (List.getElem_mem hlt))
      obtain ⟨x, hx⟩ : ∃ x, L[k] = x := ⟨_, rfl⟩
      rw [hx] at e0 e1 e2 e3 e4 HSN HSH HUK
      clear hx
      have hone := nqOf_one apex k x
      have hone2 := hqOf_one apex k x
      obtain ⟨pn, cn, rfl, -⟩ := own_shape HUZ.out.o1
      obtain ⟨ph, ch, rfl, -⟩ := own_shape HUZ.out.o2
      obtain ⟨o, t, c, l, d⟩ := x
      dsimp only at e0 e1 e2 e3 e4 HUK
      subst hpp
      have hB1 : Below wr.heap.size wr (wr.alloc (.cells #[.string o, .int .i64 t, .int .i64 c, .int .i64 l, .string d] 32)) := (Below.refl _ _).alloc (Nat.le_refl _) _
      have x1 : Bx (wr.alloc (.cells #[.string o, .int .i64 t, .int .i64 c, .int .i64 l, .string d] 32)) wr.heap.size #[.string o, .int .i64 t, .int .i64 c, .int .i64 l, .string d] 32 := World.alloc_heap_new wr _
      obtain ⟨W1, hW1⟩ : ∃ W1, wr.alloc (.cells #[.string o, .int .i64 t, .int .i64 c, .int .i64 l, .string d] 32) = W1 := ⟨_, rfl⟩
      rw [hW1] at hB1 x1
      have U1 := hide' (HUZ.out.step hB1)
      have c0 := x1.cell (j := 0) (v := .string o) rfl
      have c1 := x1.cell (j := 1) (v := .int .i64 t) rfl
      have c2 := x1.cell (j := 2) (v := .int .i64 c) rfl
      have c3 := x1.cell (j := 3) (v := .int .i64 l) rfl
      have c4 := x1.cell (j := 4) (v := .string d) rfl
      clear hB1 x1
      have hn1 : M1.length + 1 ≤ maxLen := by unfold maxLen; omega
      have hb1 : (M1.length + 1) * 144 ≤ 140737488355328 := by omega
      have hn2 : M2.length + 1 ≤ maxLen := by unfold maxLen; omega
      have hb2 : (M2.length + 1) * 144 ≤ 140737488355328 := by omega
      rcases hone with hq | ⟨y, hq, hh⟩
      · rcases hone2 with hh | ⟨y, hh⟩
        · -- not used
          have HN : Hid (nqL apex L (k + 1) = nqL apex L k) := by unfold Hid; rw [HSN.out, hq, List.append_nil]
          have HH : Hid (hqL apex L (k + 1) = hqL apex L k) := by unfold Hid; rw [HSH.out, hh, List.append_nil]
          have HU0 : Hid (∀ W, Calls Tryz.prog 34 #[.string apex, .agg #[.string o, .int .i64 t, .int .i64 c, .int .i64 l, .string d]] W fun e w' => (∃ (xo : ByteArray) (xt xc xl : Int) (xd : ByteArray) (xhb : Bool) (xnx xow xsl : ByteArray) (xrd : Nat) (xty : List Nat) (xp : Option Addr) (xca : Nat), e = .returned (.tuple #[.agg #[.string xo, .int .i64 xt, .int .i64 xc, .int .i64 xl, .string xd, .bool xhb, .string xnx, .string xow, .string xsl, .int .i64 (xrd : Int), .slice xp xty.length xca], .bool false])) ∧ Below W.heap.size W w') := fun W => by
            refine (HUK.out W).mono ?_
            rintro e w' ⟨⟨x, ok, rfl, h1, h2⟩, hB⟩
            cases ok with
            | false => exact ⟨⟨x.o, x.t, x.c, x.l, x.d, x.hb, x.nx, x.ow, x.sl, x.rd, x.ty, x.p, x.ca, rfl⟩, hB⟩
            | true =>
              rcases (h2 rfl).2.2 with ⟨y, hy, _⟩ | ⟨y, hy, _⟩
              · rw [hq] at hy; cases hy
              · rw [hh] at hy; cases hy
          clear HUK hq hh HSN HSH
          go_wp2_with (go_at_call 34; refine (HU0.out _).mono ?_; rintro r w2 ⟨⟨xo, xt, xc, xl, xd, xhb, xnx, xow, xsl, xrd, xty, xp, xca, rfl⟩, hB⟩; have U2 := hide' (U1.out.step hB); have hB3 : Below w2.heap.size w2 (w2.alloc (.cells #[.string xo, .int .i64 xt, .int .i64 xc, .int .i64 xl, .string xd, .bool xhb, .string xnx, .string xow, .string xsl, .int .i64 (xrd : Int), .slice xp xty.length xca] 43)) := (Below.refl _ _).alloc (Nat.le_refl _) _; have x3 : Bx (w2.alloc (.cells #[.string xo, .int .i64 xt, .int .i64 xc, .int .i64 xl, .string xd, .bool xhb, .string xnx, .string xow, .string xsl, .int .i64 (xrd : Int), .slice xp xty.length xca] 43)) w2.heap.size #[.string xo, .int .i64 xt, .int .i64 xc, .int .i64 xl, .string xd, .bool xhb, .string xnx, .string xow, .string xsl, .int .i64 (xrd : Int), .slice xp xty.length xca] 43 := World.alloc_heap_new w2 _; obtain ⟨W3, hW3⟩ : ∃ W3, w2.alloc (.cells #[.string xo, .int .i64 xt, .int .i64 xc, .int .i64 xl, .string xd, .bool xhb, .string xnx, .string xow, .string xsl, .int .i64 (xrd : Int), .slice xp xty.length xca] 43) = W3 := ⟨_, rfl⟩; rw [hW3] at hB3 x3; have U3 := hide' (U2.out.step hB3); have HB3 := hide' hB3; have X3 := hide' x3; clear hB hB3 c0 c1 c2 c3 c4; have d0 := x3.cell (j := 0) (v := .string xo) rfl; have d1 := x3.cell (j := 1) (v := .int .i64 xt) rfl; have d2 := x3.cell (j := 2) (v := .int .i64 xc) rfl; have d3 := x3.cell (j := 3) (v := .int .i64 xl) rfl; have d4 := x3.cell (j := 4) (v := .string xd) rfl; have d5 := x3.cell (j := 5) (v := .bool xhb) rfl; have d6 := x3.cell (j := 6) (v := .string xnx) rfl; have d7 := x3.cell (j := 7) (v := .string xow) rfl; have d8 := x3.cell (j := 8) (v := .string xsl) rfl; have d9 := x3.cell (j := 9) (v := .int .i64 (xrd : Int)) rfl; have d10 := x3.cell (j := 10) (v := .slice xp xty.length xca) rfl; clear x3)
          have hk8 := And.intro d5 (And.intro d8 d9)
          clear d0 d1 d2 d3 d4 d5 d6 d7 d8 d9 d10
          refine wp_region_held_drew (S := fun V => V.cell? ⟨w2.heap.size, 5, none⟩ = some (.bool xhb) ∧ V.cell? ⟨w2.heap.size, 8, none⟩ = some (.string xsl) ∧ V.cell? ⟨w2.heap.size, 9, none⟩ = some (.int .i64 (xrd : Int))) (by kernel_rfl) ?_ (fun hHeld => ?_)
          · (try dsimp only); exact hk8
          refine takeJ 0 (some 33) (.bool false) rfl rfl (by kernel_rfl) (by kernel_rfl) (by kernel_rfl) (fun _ _ _ h => h) (Or.inl ⟨by rfl, ?_⟩) (by assumption) ?_
          · intro w hSw; (try dsimp only at hSw); go_simp <;> (intros; omega)
          simp only [Act.put, List.setIfInBounds_toArray, List.set_cons_zero, List.set_cons_succ]
          refine takeJ 1 (some 34) (.bool false) rfl rfl (by kernel_rfl) (by kernel_rfl) (by kernel_rfl) (fun _ _ _ h => h) (Or.inl ⟨by rfl, ?_⟩) (by assumption) ?_
          · intro w hSw; (try dsimp only at hSw); go_simp <;> (intros; omega)
          simp only [Act.put, List.setIfInBounds_toArray, List.set_cons_zero, List.set_cons_succ]
          refine takeJ 2 (some 35) undef rfl rfl (by kernel_rfl) (by kernel_rfl) (by kernel_rfl) (fun _ _ _ h => h) (Or.inr ⟨by rfl, rfl⟩) (by assumption) ?_
          simp only [Act.put, List.setIfInBounds_toArray, List.set_cons_zero, List.set_cons_succ]
          refine takeJ 3 (some 36) undef rfl rfl (by kernel_rfl) (by kernel_rfl) (by kernel_rfl) (fun _ _ _ h => h) (Or.inr ⟨by rfl, rfl⟩) (by assumption) ?_
          simp only [Act.put, List.setIfInBounds_toArray, List.set_cons_zero, List.set_cons_succ]
          refine takeJ 4 (some 37) (.bool false) rfl rfl (by kernel_rfl) (by kernel_rfl) (by kernel_rfl) (fun _ _ _ h => h) (Or.inl ⟨by rfl, ?_⟩) (by assumption) ?_
          · intro w hSw; (try dsimp only at hSw); go_simp <;> (intros; omega)
          simp only [Act.put, List.setIfInBounds_toArray, List.set_cons_zero, List.set_cons_succ]
          refine takeJ 5 (some 38) (.bool false) rfl rfl (by kernel_rfl) (by kernel_rfl) (by kernel_rfl) (fun _ _ _ h => h) (Or.inl ⟨by rfl, ?_⟩) (by assumption) ?_
          · intro w hSw; (try dsimp only at hSw); go_simp <;> (intros; omega)
          simp only [Act.put, List.setIfInBounds_toArray, List.set_cons_zero, List.set_cons_succ]
          refine takeJ 6 (some 39) undef rfl rfl (by kernel_rfl) (by kernel_rfl) (by kernel_rfl) (fun _ _ _ h => h) (Or.inr ⟨by rfl, rfl⟩) (by assumption) ?_
          simp only [Act.put, List.setIfInBounds_toArray, List.set_cons_zero, List.set_cons_succ]
          refine takeJ 7 (some 40) undef rfl rfl (by kernel_rfl) (by kernel_rfl) (by kernel_rfl) (fun _ _ _ h => h) (Or.inr ⟨by rfl, rfl⟩) (by assumption) ?_
          simp only [Act.put, List.setIfInBounds_toArray, List.set_cons_zero, List.set_cons_succ]
          refine takeJ 8 (some 41) undef rfl rfl (by kernel_rfl) (by kernel_rfl) (by kernel_rfl) (fun _ _ _ h => h) (Or.inr ⟨by rfl, rfl⟩) (by assumption) ?_
          simp only [Act.put, List.setIfInBounds_toArray, List.set_cons_zero, List.set_cons_succ]
          refine takeJ 9 (some 42) undef rfl rfl (by kernel_rfl) (by kernel_rfl) (by kernel_rfl) (fun _ _ _ h => h) (Or.inr ⟨by rfl, rfl⟩) (by assumption) ?_
          simp only [Act.put, List.setIfInBounds_toArray, List.set_cons_zero, List.set_cons_succ]
          refine takeJ 10 (some 43) undef rfl rfl (by kernel_rfl) (by kernel_rfl) (by kernel_rfl) (fun _ _ _ h => h) (Or.inr ⟨by rfl, rfl⟩) (by assumption) ?_
          simp only [Act.put, List.setIfInBounds_toArray, List.set_cons_zero, List.set_cons_succ]
          refine takeJ 11 (some 44) undef rfl rfl (by kernel_rfl) (by kernel_rfl) (by kernel_rfl) (fun _ _ _ h => h) (Or.inr ⟨by rfl, rfl⟩) (by assumption) ?_
          simp only [Act.put, List.setIfInBounds_toArray, List.set_cons_zero, List.set_cons_succ]
          refine takeJ 12 (some 45) undef rfl rfl (by kernel_rfl) (by kernel_rfl) (by kernel_rfl) (fun _ _ _ h => h) (Or.inr ⟨by rfl, rfl⟩) (by assumption) ?_
          simp only [Act.put, List.setIfInBounds_toArray, List.set_cons_zero, List.set_cons_succ]
          refine takeJ 13 (some 46) undef rfl rfl (by kernel_rfl) (by kernel_rfl) (by kernel_rfl) (fun _ _ _ h => h) (Or.inr ⟨by rfl, rfl⟩) (by assumption) ?_
          simp only [Act.put, List.setIfInBounds_toArray, List.set_cons_zero, List.set_cons_succ]
          refine takeJ 14 (some 47) undef rfl rfl (by kernel_rfl) (by kernel_rfl) (by kernel_rfl) (fun _ _ _ h => h) (Or.inr ⟨by rfl, rfl⟩) (by assumption) ?_
          simp only [Act.put, List.setIfInBounds_toArray, List.set_cons_zero, List.set_cons_succ]
          refine takeJ 15 (some 48) undef rfl rfl (by kernel_rfl) (by kernel_rfl) (by kernel_rfl) (fun _ _ _ h => h) (Or.inr ⟨by rfl, rfl⟩) (by assumption) ?_
          simp only [Act.put, List.setIfInBounds_toArray, List.set_cons_zero, List.set_cons_succ]
          refine takeJ 16 (some 49) undef rfl rfl (by kernel_rfl) (by kernel_rfl) (by kernel_rfl) (fun _ _ _ h => h) (Or.inr ⟨by rfl, rfl⟩) (by assumption) ?_
          simp only [Act.put, List.setIfInBounds_toArray, List.set_cons_zero, List.set_cons_succ]
          refine takeJ 17 (some 50) undef rfl rfl (by kernel_rfl) (by kernel_rfl) (by kernel_rfl) (fun _ _ _ h => h) (Or.inr ⟨by rfl, rfl⟩) (by assumption) ?_
          simp only [Act.put, List.setIfInBounds_toArray, List.set_cons_zero, List.set_cons_succ]
          refine takeJ 18 (some 51) undef rfl rfl (by kernel_rfl) (by kernel_rfl) (by kernel_rfl) (fun _ _ _ h => h) (Or.inr ⟨by rfl, rfl⟩) (by assumption) ?_
          simp only [Act.put, List.setIfInBounds_toArray, List.set_cons_zero, List.set_cons_succ]
          refine takeJ 19 (some 52) undef rfl rfl (by kernel_rfl) (by kernel_rfl) (by kernel_rfl) (fun _ _ _ h => h) (Or.inr ⟨by rfl, rfl⟩) (by assumption) ?_
          simp only [Act.put, List.setIfInBounds_toArray, List.set_cons_zero, List.set_cons_succ]
          refine takeJ 20 (some 53) undef rfl rfl (by kernel_rfl) (by kernel_rfl) (by kernel_rfl) (fun _ _ _ h => h) (Or.inr ⟨by rfl, rfl⟩) (by assumption) ?_
          simp only [Act.put, List.setIfInBounds_toArray, List.set_cons_zero, List.set_cons_succ]
          refine takeJ 21 (some 54) undef rfl rfl (by kernel_rfl) (by kernel_rfl) (by kernel_rfl) (fun _ _ _ h => h) (Or.inr ⟨by rfl, rfl⟩) (by assumption) ?_
          simp only [Act.put, List.setIfInBounds_toArray, List.set_cons_zero, List.set_cons_succ]
          refine takeJ 22 (some 55) undef rfl rfl (by kernel_rfl) (by kernel_rfl) (by kernel_rfl) (fun _ _ _ h => h) (Or.inr ⟨by rfl, rfl⟩) (by assumption) ?_
          simp only [Act.put, List.setIfInBounds_toArray, List.set_cons_zero, List.set_cons_succ]
          refine takeJ 23 (some 56) undef rfl rfl (by kernel_rfl) (by kernel_rfl) (by kernel_rfl) (fun _ _ _ h => h) (Or.inr ⟨by rfl, rfl⟩) (by assumption) ?_
          simp only [Act.put, List.setIfInBounds_toArray, List.set_cons_zero, List.set_cons_succ]
          refine takeJ 24 (some 57) undef rfl rfl (by kernel_rfl) (by kernel_rfl) (by kernel_rfl) (fun _ _ _ h => h) (Or.inr ⟨by rfl, rfl⟩) (by assumption) ?_
          simp only [Act.put, List.setIfInBounds_toArray, List.set_cons_zero, List.set_cons_succ]
          refine takeJ 25 (some 58) undef rfl rfl (by kernel_rfl) (by kernel_rfl) (by kernel_rfl) (fun _ _ _ h => h) (Or.inr ⟨by rfl, rfl⟩) (by assumption) ?_
          simp only [Act.put, List.setIfInBounds_toArray, List.set_cons_zero, List.set_cons_succ]
          refine takeJ 26 (some 59) undef rfl rfl (by kernel_rfl) (by kernel_rfl) (by kernel_rfl) (fun _ _ _ h => h) (Or.inr ⟨by rfl, rfl⟩) (by assumption) ?_
          simp only [Act.put, List.setIfInBounds_toArray, List.set_cons_zero, List.set_cons_succ]
          refine takeJ 27 (some 60) (.bool false) rfl rfl (by kernel_rfl) (by kernel_rfl) (by kernel_rfl) (fun _ _ _ h => h) (Or.inl ⟨by rfl, ?_⟩) (by assumption) ?_
          · intro w hSw; (try dsimp only at hSw); go_simp <;> (intros; omega)
          simp only [Act.put, List.setIfInBounds_toArray, List.set_cons_zero, List.set_cons_succ]
          refine wpAnyH_done (by kernel_rfl) ?_ _
          go_wp2_with fail
          refine ⟨⟨k + 1, M1, M2, by go_num, by omega, (by first | exact U3.out | exact U3.out.drew), (by rw [HN.out]; exact HR1.out), (by rw [HH.out]; exact HR2.out)⟩, by simp [intOf]; omega⟩
        · -- an NSEC3
          have HN : Hid (nqL apex L (k + 1) = nqL apex L k) := by unfold Hid; rw [HSN.out, hq, List.append_nil]
          have HH : Hid (hqL apex L (k + 1) = hqL apex L k ++ [y]) := by unfold Hid; rw [HSH.out, hh]
          have HU0 : Hid (∀ W, Calls Tryz.prog 34 #[.string apex, .agg #[.string o, .int .i64 t, .int .i64 c, .int .i64 l, .string d]] W fun e w' => (∃ (xo : ByteArray) (xt xc xl : Int) (xd : ByteArray) (xhb : Bool) (xnx xow xsl : ByteArray) (xrd : Nat) (xty : List Nat) (xp : Option Addr) (xca : Nat), e = .returned (.tuple #[.agg #[.string xo, .int .i64 xt, .int .i64 xc, .int .i64 xl, .string xd, .bool xhb, .string xnx, .string xow, .string xsl, .int .i64 (xrd : Int), .slice xp xty.length xca], .bool true]) ∧ HG ⟨xo, xt, xc, xl, xd, xhb, xnx, xow, xsl, xrd, xty, xp, xca⟩ y ∧ NumsAt w' xp xty ∧ (∀ g off, xp = some ⟨g, off, none⟩ → W.heap.size ≤ g)) ∧ Below W.heap.size W w') := fun W => by
            refine (HUK.out W).mono ?_
            rintro e w' ⟨⟨x, ok, rfl, h1, h2⟩, hB⟩
            cases ok with
            | false => rw [hh] at h1; exact absurd (h1 rfl).2 (by simp)
            | true =>
              rcases (h2 rfl).2.2 with ⟨y2, hy, _⟩ | ⟨y2, hy, _, hG⟩
              · rw [hq] at hy; cases hy
              · rw [hh] at hy
                obtain rfl : y = y2 := by simpa using hy
                exact ⟨⟨x.o, x.t, x.c, x.l, x.d, x.hb, x.nx, x.ow, x.sl, x.rd, x.ty, x.p, x.ca, rfl, hG, (h2 rfl).1, (h2 rfl).2.1⟩, hB⟩
          clear HUK hq hh HSN HSH
          cases hH : hqL apex L k with
          | nil =>
            have HHE := hide' hH
            have hM2 : M2.length = 0 := by rw [HR2.out.len, hH]; rfl
            have he : ((M2.length : Int) == 0) = true := by rw [beq_iff_eq]; omega
            have HM2 : Hid (M2 = []) := List.eq_nil_of_length_eq_zero hM2
            clear hH hM2
            go_wp2_with (go_at_call 34; refine (HU0.out _).mono ?_; rintro r w2 ⟨⟨xo, xt, xc, xl, xd, xhb, xnx, xow, xsl, xrd, xty, xp, xca, rfl, hng, hnum, hfr⟩, hB⟩; obtain rfl : xhb = true := hng.1; have U2 := hide' (U1.out.step hB); have hB3 : Below w2.heap.size w2 (w2.alloc (.cells #[.string xo, .int .i64 xt, .int .i64 xc, .int .i64 xl, .string xd, .bool true, .string xnx, .string xow, .string xsl, .int .i64 (xrd : Int), .slice xp xty.length xca] 43)) := (Below.refl _ _).alloc (Nat.le_refl _) _; have x3 : Bx (w2.alloc (.cells #[.string xo, .int .i64 xt, .int .i64 xc, .int .i64 xl, .string xd, .bool true, .string xnx, .string xow, .string xsl, .int .i64 (xrd : Int), .slice xp xty.length xca] 43)) w2.heap.size #[.string xo, .int .i64 xt, .int .i64 xc, .int .i64 xl, .string xd, .bool true, .string xnx, .string xow, .string xsl, .int .i64 (xrd : Int), .slice xp xty.length xca] 43 := World.alloc_heap_new w2 _; obtain ⟨W3, hW3⟩ : ∃ W3, w2.alloc (.cells #[.string xo, .int .i64 xt, .int .i64 xc, .int .i64 xl, .string xd, .bool true, .string xnx, .string xow, .string xsl, .int .i64 (xrd : Int), .slice xp xty.length xca] 43) = W3 := ⟨_, rfl⟩; rw [hW3] at hB3 x3; have U3 := hide' (U2.out.step hB3); have HTZ : Hid (Tz W3 (.slice pn M1.length cn) (.slice ph M2.length ch) ⟨xo, xt, xc, xl, xd, true, xnx, xow, xsl, xrd, xty, xp, xca⟩) := (Tz.of (x := ⟨xo, xt, xc, xl, xd, true, xnx, xow, xsl, xrd, xty, xp, xca⟩) (W := W1) hnum hfr (fun g e => (ownBlk_lt U1.out.o1 e).1) (fun g e => (ownBlk_lt U1.out.o2 e).1)).step hB3; have HNG := hide' hng; clear hnum hfr hng; have HBS := hide' ((Below.refl _ W3).alloc (Nat.le_refl _) (.cells #[.string xo, .int .i64 xt, .int .i64 xc, .int .i64 xl, .string xd, .bool true, .string xnx, .string xow, .string xsl, .int .i64 (xrd : Int), .slice xp xty.length xca] 43)); have HB3 := hide' hB3; have X3 := hide' x3; clear hB hB3 c0 c1 c2 c3 c4; have d0 := x3.cell (j := 0) (v := .string xo) rfl; have d1 := x3.cell (j := 1) (v := .int .i64 xt) rfl; have d2 := x3.cell (j := 2) (v := .int .i64 xc) rfl; have d3 := x3.cell (j := 3) (v := .int .i64 xl) rfl; have d4 := x3.cell (j := 4) (v := .string xd) rfl; have d5 := x3.cell (j := 5) (v := .bool true) rfl; have d6 := x3.cell (j := 6) (v := .string xnx) rfl; have d7 := x3.cell (j := 7) (v := .string xow) rfl; have d8 := x3.cell (j := 8) (v := .string xsl) rfl; have d9 := x3.cell (j := 9) (v := .int .i64 (xrd : Int)) rfl; have d10 := x3.cell (j := 10) (v := .slice xp xty.length xca) rfl; clear x3)
            have hk8 := And.intro d5 (And.intro d8 d9)
            clear d0 d1 d2 d3 d4 d5 d6 d7 d8 d9 d10
            refine wp_region_held_drew (S := fun V => V.cell? ⟨w2.heap.size, 5, none⟩ = some (.bool true) ∧ V.cell? ⟨w2.heap.size, 8, none⟩ = some (.string xsl) ∧ V.cell? ⟨w2.heap.size, 9, none⟩ = some (.int .i64 (xrd : Int))) (by kernel_rfl) ?_ (fun hHeld => ?_)
            · (try dsimp only); exact hk8
            refine takeJ 0 (some 33) (.bool true) rfl rfl (by kernel_rfl) (by kernel_rfl) (by kernel_rfl) (fun _ _ _ h => h) (Or.inl ⟨by rfl, ?_⟩) (by assumption) ?_
            · intro w hSw; (try dsimp only at hSw); go_simp <;> (intros; omega)
            simp only [Act.put, List.setIfInBounds_toArray, List.set_cons_zero, List.set_cons_succ]
            refine takeJ 1 (some 34) (.bool true) rfl rfl (by kernel_rfl) (by kernel_rfl) (by kernel_rfl) (fun _ _ _ h => h) (Or.inl ⟨by rfl, ?_⟩) (by assumption) ?_
            · intro w hSw; (try dsimp only at hSw); go_simp <;> (intros; omega)
            simp only [Act.put, List.setIfInBounds_toArray, List.set_cons_zero, List.set_cons_succ]
            refine takeJ 2 (some 35) (.pointer (some ⟨w2.heap.size, 5, none⟩)) rfl rfl (by kernel_rfl) (by kernel_rfl) (by kernel_rfl) (fun _ _ _ h => h) (Or.inl ⟨by rfl, ?_⟩) (by assumption) ?_
            · intro w hSw; (try dsimp only at hSw); go_simp <;> (intros; omega)
            simp only [Act.put, List.setIfInBounds_toArray, List.set_cons_zero, List.set_cons_succ]
            refine takeJ 3 (some 36) (.bool true) rfl rfl (by kernel_rfl) (by kernel_rfl) (by kernel_rfl) (fun _ _ _ h => h) (Or.inl ⟨by rfl, ?_⟩) (by assumption) ?_
            · intro w hSw; (try dsimp only at hSw); go_simp <;> (intros; omega)
            simp only [Act.put, List.setIfInBounds_toArray, List.set_cons_zero, List.set_cons_succ]
            refine takeJ 4 (some 37) (.bool true) rfl rfl (by kernel_rfl) (by kernel_rfl) (by kernel_rfl) (fun _ _ _ h => h) (Or.inl ⟨by rfl, ?_⟩) (by assumption) ?_
            · intro w hSw; (try dsimp only at hSw); go_simp <;> (intros; omega)
            simp only [Act.put, List.setIfInBounds_toArray, List.set_cons_zero, List.set_cons_succ]
            refine takeJ 5 (some 38) (.bool true) rfl rfl (by kernel_rfl) (by kernel_rfl) (by kernel_rfl) (fun _ _ _ h => h) (Or.inl ⟨by rfl, ?_⟩) (by assumption) ?_
            · intro w hSw; (try dsimp only at hSw); go_simp <;> (intros; omega)
            simp only [Act.put, List.setIfInBounds_toArray, List.set_cons_zero, List.set_cons_succ]
            refine takeJ 6 (some 39) (.slice ph M2.length ch) rfl rfl (by kernel_rfl) (by kernel_rfl) (by kernel_rfl) (fun _ _ _ h => h) (Or.inl ⟨by rfl, ?_⟩) (by assumption) ?_
            · intro w hSw; (try dsimp only at hSw); go_simp <;> (intros; omega)
            simp only [Act.put, List.setIfInBounds_toArray, List.set_cons_zero, List.set_cons_succ]
            refine takeJ 7 (some 40) (.int .i64 (M2.length : Int)) rfl rfl (by kernel_rfl) (by kernel_rfl) (by kernel_rfl) (fun _ _ _ h => h) (Or.inl ⟨by rfl, ?_⟩) (by assumption) ?_
            · intro w hSw; (try dsimp only at hSw); go_simp <;> (intros; omega)
            simp only [Act.put, List.setIfInBounds_toArray, List.set_cons_zero, List.set_cons_succ]
            refine takeJ 8 (some 41) (.bool true) rfl rfl (by kernel_rfl) (by kernel_rfl) (by kernel_rfl) (fun _ _ _ h => h) (Or.inl ⟨by rfl, ?_⟩) (by assumption) ?_
            · intro w hSw; (try dsimp only at hSw); go_simp <;> (intros; omega)
            simp only [Act.put, List.setIfInBounds_toArray, List.set_cons_zero, List.set_cons_succ]
            refine takeJ 9 (some 42) (.bool true) rfl rfl (by kernel_rfl) (by kernel_rfl) (by kernel_rfl) (fun _ _ _ h => h) (Or.inl ⟨by rfl, ?_⟩) (by assumption) ?_
            · intro w hSw; (try dsimp only at hSw); go_simp <;> (intros; omega)
            simp only [Act.put, List.setIfInBounds_toArray, List.set_cons_zero, List.set_cons_succ]
            refine takeJ 10 (some 43) undef rfl rfl (by kernel_rfl) (by kernel_rfl) (by kernel_rfl) (fun _ _ _ h => h) (Or.inr ⟨by rfl, rfl⟩) (by assumption) ?_
            simp only [Act.put, List.setIfInBounds_toArray, List.set_cons_zero, List.set_cons_succ]
            refine takeJ 11 (some 44) undef rfl rfl (by kernel_rfl) (by kernel_rfl) (by kernel_rfl) (fun _ _ _ h => h) (Or.inr ⟨by rfl, rfl⟩) (by assumption) ?_
            simp only [Act.put, List.setIfInBounds_toArray, List.set_cons_zero, List.set_cons_succ]
            refine takeJ 12 (some 45) undef rfl rfl (by kernel_rfl) (by kernel_rfl) (by kernel_rfl) (fun _ _ _ h => h) (Or.inr ⟨by rfl, rfl⟩) (by assumption) ?_
            simp only [Act.put, List.setIfInBounds_toArray, List.set_cons_zero, List.set_cons_succ]
            refine takeJ 13 (some 46) undef rfl rfl (by kernel_rfl) (by kernel_rfl) (by kernel_rfl) (fun _ _ _ h => h) (Or.inr ⟨by rfl, rfl⟩) (by assumption) ?_
            simp only [Act.put, List.setIfInBounds_toArray, List.set_cons_zero, List.set_cons_succ]
            refine takeJ 14 (some 47) undef rfl rfl (by kernel_rfl) (by kernel_rfl) (by kernel_rfl) (fun _ _ _ h => h) (Or.inr ⟨by rfl, rfl⟩) (by assumption) ?_
            simp only [Act.put, List.setIfInBounds_toArray, List.set_cons_zero, List.set_cons_succ]
            refine takeJ 15 (some 48) undef rfl rfl (by kernel_rfl) (by kernel_rfl) (by kernel_rfl) (fun _ _ _ h => h) (Or.inr ⟨by rfl, rfl⟩) (by assumption) ?_
            simp only [Act.put, List.setIfInBounds_toArray, List.set_cons_zero, List.set_cons_succ]
            refine takeJ 16 (some 49) undef rfl rfl (by kernel_rfl) (by kernel_rfl) (by kernel_rfl) (fun _ _ _ h => h) (Or.inr ⟨by rfl, rfl⟩) (by assumption) ?_
            simp only [Act.put, List.setIfInBounds_toArray, List.set_cons_zero, List.set_cons_succ]
            refine takeJ 17 (some 50) undef rfl rfl (by kernel_rfl) (by kernel_rfl) (by kernel_rfl) (fun _ _ _ h => h) (Or.inr ⟨by rfl, rfl⟩) (by assumption) ?_
            simp only [Act.put, List.setIfInBounds_toArray, List.set_cons_zero, List.set_cons_succ]
            refine takeJ 18 (some 51) undef rfl rfl (by kernel_rfl) (by kernel_rfl) (by kernel_rfl) (fun _ _ _ h => h) (Or.inr ⟨by rfl, rfl⟩) (by assumption) ?_
            simp only [Act.put, List.setIfInBounds_toArray, List.set_cons_zero, List.set_cons_succ]
            refine takeJ 19 (some 52) undef rfl rfl (by kernel_rfl) (by kernel_rfl) (by kernel_rfl) (fun _ _ _ h => h) (Or.inr ⟨by rfl, rfl⟩) (by assumption) ?_
            simp only [Act.put, List.setIfInBounds_toArray, List.set_cons_zero, List.set_cons_succ]
            refine takeJ 20 (some 53) undef rfl rfl (by kernel_rfl) (by kernel_rfl) (by kernel_rfl) (fun _ _ _ h => h) (Or.inr ⟨by rfl, rfl⟩) (by assumption) ?_
            simp only [Act.put, List.setIfInBounds_toArray, List.set_cons_zero, List.set_cons_succ]
            refine takeJ 21 (some 54) undef rfl rfl (by kernel_rfl) (by kernel_rfl) (by kernel_rfl) (fun _ _ _ h => h) (Or.inr ⟨by rfl, rfl⟩) (by assumption) ?_
            simp only [Act.put, List.setIfInBounds_toArray, List.set_cons_zero, List.set_cons_succ]
            refine takeJ 22 (some 55) undef rfl rfl (by kernel_rfl) (by kernel_rfl) (by kernel_rfl) (fun _ _ _ h => h) (Or.inr ⟨by rfl, rfl⟩) (by assumption) ?_
            simp only [Act.put, List.setIfInBounds_toArray, List.set_cons_zero, List.set_cons_succ]
            refine takeJ 23 (some 56) undef rfl rfl (by kernel_rfl) (by kernel_rfl) (by kernel_rfl) (fun _ _ _ h => h) (Or.inr ⟨by rfl, rfl⟩) (by assumption) ?_
            simp only [Act.put, List.setIfInBounds_toArray, List.set_cons_zero, List.set_cons_succ]
            refine takeJ 24 (some 57) undef rfl rfl (by kernel_rfl) (by kernel_rfl) (by kernel_rfl) (fun _ _ _ h => h) (Or.inr ⟨by rfl, rfl⟩) (by assumption) ?_
            simp only [Act.put, List.setIfInBounds_toArray, List.set_cons_zero, List.set_cons_succ]
            refine takeJ 25 (some 58) undef rfl rfl (by kernel_rfl) (by kernel_rfl) (by kernel_rfl) (fun _ _ _ h => h) (Or.inr ⟨by rfl, rfl⟩) (by assumption) ?_
            simp only [Act.put, List.setIfInBounds_toArray, List.set_cons_zero, List.set_cons_succ]
            refine takeJ 26 (some 59) (.bool true) rfl rfl (by kernel_rfl) (by kernel_rfl) (by kernel_rfl) (fun _ _ _ h => h) (Or.inl ⟨by rfl, ?_⟩) (by assumption) ?_
            · intro w hSw; (try dsimp only at hSw); go_simp <;> (intros; omega)
            simp only [Act.put, List.setIfInBounds_toArray, List.set_cons_zero, List.set_cons_succ]
            refine takeJ 27 (some 60) (.bool true) rfl rfl (by kernel_rfl) (by kernel_rfl) (by kernel_rfl) (fun _ _ _ h => h) (Or.inl ⟨by rfl, ?_⟩) (by assumption) ?_
            · intro w hSw; (try dsimp only at hSw); go_simp <;> (intros; omega)
            simp only [Act.put, List.setIfInBounds_toArray, List.set_cons_zero, List.set_cons_succ]
            refine wpAnyH_done (by kernel_rfl) ?_ _
            obtain ⟨W4, hW4⟩ : ∃ W4, World.drew W3 = W4 := ⟨_, rfl⟩
            have U4 : Hid (Uz w W4 (.slice pn M1.length cn) (.slice ph M2.length ch) M1 M2) := by rw [← hW4]; exact U3.out.drew
            have X4 : Hid (Bx W4 w2.heap.size #[.string xo, .int .i64 xt, .int .i64 xc, .int .i64 xl, .string xd, .bool true, .string xnx, .string xow, .string xsl, .int .i64 (xrd : Int), .slice xp xty.length xca] 43) := by rw [← hW4]; exact X3.out
            have HT4 : Hid (Tz W4 (.slice pn M1.length cn) (.slice ph M2.length ch) ⟨xo, xt, xc, xl, xd, true, xnx, xow, xsl, xrd, xty, xp, xca⟩) := by rw [← hW4]; exact HTZ.out
            try simp only [hW4]
            clear hW4 HBS
            have HBS := hide' ((Below.refl _ W4).alloc (Nat.le_refl _) (.cells #[.string xo, .int .i64 xt, .int .i64 xc, .int .i64 xl, .string xd, .bool true, .string xnx, .string xow, .string xsl, .int .i64 (xrd : Int), .slice xp xty.length xca] 43))
            have d0 := X4.out.cell (j := 0) (v := .string xo) rfl
            have d1 := X4.out.cell (j := 1) (v := .int .i64 xt) rfl
            have d2 := X4.out.cell (j := 2) (v := .int .i64 xc) rfl
            have d3 := X4.out.cell (j := 3) (v := .int .i64 xl) rfl
            have d4 := X4.out.cell (j := 4) (v := .string xd) rfl
            have d5 := X4.out.cell (j := 5) (v := .bool true) rfl
            have d6 := X4.out.cell (j := 6) (v := .string xnx) rfl
            have d7 := X4.out.cell (j := 7) (v := .string xow) rfl
            have d8 := X4.out.cell (j := 8) (v := .string xsl) rfl
            have d9 := X4.out.cell (j := 9) (v := .int .i64 (xrd : Int)) rfl
            have d10 := X4.out.cell (j := 10) (v := .slice xp xty.length xca) rfl
            go_wp2_with (first
              | (at_builtin; refine wpList_append_apart _ rfl _ _ 39 rfl w.heap.size 43 i0 (.agg #[.string .empty, .int .i64 0, .int .i64 0, .int .i64 0, .string .empty, .bool false, .string .empty, .string .empty, .string .empty, .int .i64 0, .slice none 0 0]) 11 144 Tryz.underlying39 HI.out.1 HI.out.2.1 HI.out.2.2.1 HI.out.2.2.2 rfl (by decide) _ _ _ rfl (ownsRow_below U4.out.o2 HBS.out) ⟨W4.heap.size, 0, none⟩ 1 1 [.string xo, .int .i64 xt, .int .i64 xc, .int .i64 xl, .string xd, .bool true, .string xnx, .string xow, .string xsl, .int .i64 (xrd : Int), .slice xp xty.length xca] rfl rfl (World.news_of_block (cs := #[.string xo, .int .i64 xt, .int .i64 xc, .int .i64 xl, .string xd, .bool true, .string xnx, .string xow, .string xsl, .int .i64 (xrd : Int), .slice xp xty.length xca]) (t := 43) (fr := (0, 0)) (heap_alloc_new W4 _)) (by simp [Value.oneCell']) hn2 hb2 (by have := U4.out.b.size; simp; omega) ?_; intro v5 w5 hown5 hgrow5 hplc5; have U5 := hide' ((Uz.app (x := ⟨xo, xt, xc, xl, xd, true, xnx, xow, xsl, xrd, xty, xp, xca⟩) (U4.out.step HBS.out).flip (HT4.out.step HBS.out).flip hown5 hgrow5 hplc5).flip); clear hown5 hgrow5 hplc5))
            refine ⟨⟨k + 1, M1, M2 ++ [⟨xo, xt, xc, xl, xd, true, xnx, xow, xsl, xrd, xty, xp, xca⟩], by go_num, by omega, (by first | exact U5.out | exact U5.out.drew), (by rw [HN.out]; exact HR1.out), (by rw [HH.out, HHE.out, HM2.out]; show RelH [⟨xo, xt, xc, xl, xd, true, xnx, xow, xsl, xrd, xty, xp, xca⟩] (uhL [y]); rw [uhL_cons]; exact ⟨HNG.out, trivial⟩)⟩, by simp [intOf]; omega⟩
          | cons x0 H0 =>
            have HHE := hide' hH
            rw [hH] at HR2
            have HR20 := HR2.out
            rw [uhL_cons] at HR20
            obtain ⟨z, M2', rfl⟩ : ∃ z M2', M2 = z :: M2' := by
              cases M2 with
              | nil => exact absurd HR20 (by simp [RelH])
              | cons z M2' => exact ⟨z, M2', rfl⟩
            have hz : HG z x0 := HR20.1
            clear HR20 hH
            have hpos : 0 < (z :: M2').length := by simp
            have hposi : (0 : Int) < ((z :: M2').length : Int) := by omega
            have he : (((z :: M2').length : Int) == 0) = false := by rw [beq_eq_false_iff_ne]; omega
            obtain ⟨gh, ch', hphh⟩ := owns_some HUZ.out.o2 hpos
            injection hphh with hph1 hph2 hph3
            subst hph1
            subst hph3
            have hz8 : (gce (z :: M2'))[8]? = some (.string z.sl) := rfl
            have hz9 : (gce (z :: M2'))[9]? = some (.int .i64 (z.rd : Int)) := rfl
            have QH : Hid (∀ V vn, Uz w V vn (.slice (some ⟨gh, 0, none⟩) (z :: M2').length ch) M1 (z :: M2') → V.cell? ⟨gh, 8, none⟩ = some (.string z.sl) ∧ V.cell? ⟨gh, 9, none⟩ = some (.int .i64 (z.rd : Int))) := fun V vn h => by
              refine ⟨?_, ?_⟩
              · rw [h.o2.cellAt 8 (by simp; omega)]; exact hz8
              · rw [h.o2.cellAt 9 (by simp; omega)]; exact hz9
            obtain ⟨sl0, hsl0⟩ : ∃ sl0, z.sl = sl0 := ⟨_, rfl⟩
            obtain ⟨rd0, hrd0⟩ : ∃ rd0, z.rd = rd0 := ⟨_, rfl⟩
            rw [hsl0, hrd0] at QH
            have hs0 : x0.sl = sl0 := by rw [← hsl0]; exact hz.2.2.2.1.symm
            have hr0 : x0.rd = rd0 := by rw [← hrd0]; exact hz.2.2.2.2.1.symm
            clear hz8 hz9 hsl0 hrd0 hz
            have HYW : Hid (∀ es er, (y.sl.toList == sl0.toList) = es → ((y.rd : Int) == (rd0 : Int)) = er → uhL (hqL apex L (k + 1)) = uhL (hqL apex L k) ++ (if (!(er && es)) = true then [] else [y])) := fun es er h1 h2 => by
              rw [HH.out, HHE.out, uhL_snoc]
              congr 2
              unfold owB
              rw [hs0, hr0, h1, h2]
            generalize hM2 : z :: M2' = M2 at *
            cases hes : (y.sl.toList == sl0.toList) with
            | false =>
              go_wp2_with (go_at_call 34; refine (HU0.out _).mono ?_; rintro r w2 ⟨⟨xo, xt, xc, xl, xd, xhb, xnx, xow, xsl, xrd, xty, xp, xca, rfl, hng, hnum, hfr⟩, hB⟩; obtain rfl : xhb = true := hng.1; have U2 := hide' (U1.out.step hB); have hB3 : Below w2.heap.size w2 (w2.alloc (.cells #[.string xo, .int .i64 xt, .int .i64 xc, .int .i64 xl, .string xd, .bool true, .string xnx, .string xow, .string xsl, .int .i64 (xrd : Int), .slice xp xty.length xca] 43)) := (Below.refl _ _).alloc (Nat.le_refl _) _; have x3 : Bx (w2.alloc (.cells #[.string xo, .int .i64 xt, .int .i64 xc, .int .i64 xl, .string xd, .bool true, .string xnx, .string xow, .string xsl, .int .i64 (xrd : Int), .slice xp xty.length xca] 43)) w2.heap.size #[.string xo, .int .i64 xt, .int .i64 xc, .int .i64 xl, .string xd, .bool true, .string xnx, .string xow, .string xsl, .int .i64 (xrd : Int), .slice xp xty.length xca] 43 := World.alloc_heap_new w2 _; obtain ⟨W3, hW3⟩ : ∃ W3, w2.alloc (.cells #[.string xo, .int .i64 xt, .int .i64 xc, .int .i64 xl, .string xd, .bool true, .string xnx, .string xow, .string xsl, .int .i64 (xrd : Int), .slice xp xty.length xca] 43) = W3 := ⟨_, rfl⟩; rw [hW3] at hB3 x3; have U3 := hide' (U2.out.step hB3); have HTZ : Hid (Tz W3 (.slice pn M1.length cn) (.slice (some ⟨gh, 0, none⟩) M2.length ch) ⟨xo, xt, xc, xl, xd, true, xnx, xow, xsl, xrd, xty, xp, xca⟩) := (Tz.of (x := ⟨xo, xt, xc, xl, xd, true, xnx, xow, xsl, xrd, xty, xp, xca⟩) (W := W1) hnum hfr (fun g e => (ownBlk_lt U1.out.o1 e).1) (fun g e => (ownBlk_lt U1.out.o2 e).1)).step hB3; have HNG := hide' hng; clear hnum hfr hng; have HBS := hide' ((Below.refl _ W3).alloc (Nat.le_refl _) (.cells #[.string xo, .int .i64 xt, .int .i64 xc, .int .i64 xl, .string xd, .bool true, .string xnx, .string xow, .string xsl, .int .i64 (xrd : Int), .slice xp xty.length xca] 43)); have HB3 := hide' hB3; have X3 := hide' x3; clear hB hB3 c0 c1 c2 c3 c4; have d0 := x3.cell (j := 0) (v := .string xo) rfl; have d1 := x3.cell (j := 1) (v := .int .i64 xt) rfl; have d2 := x3.cell (j := 2) (v := .int .i64 xc) rfl; have d3 := x3.cell (j := 3) (v := .int .i64 xl) rfl; have d4 := x3.cell (j := 4) (v := .string xd) rfl; have d5 := x3.cell (j := 5) (v := .bool true) rfl; have d6 := x3.cell (j := 6) (v := .string xnx) rfl; have d7 := x3.cell (j := 7) (v := .string xow) rfl; have d8 := x3.cell (j := 8) (v := .string xsl) rfl; have d9 := x3.cell (j := 9) (v := .int .i64 (xrd : Int)) rfl; have d10 := x3.cell (j := 10) (v := .slice xp xty.length xca) rfl; clear x3)
              obtain ⟨g8, g9⟩ := QH.out _ _ U3.out
              have hk8 := And.intro d5 (And.intro d8 (And.intro d9 (And.intro g8 g9)))
              have hys : y.sl = xsl := HNG.out.2.2.2.1.symm
              have hyr : y.rd = xrd := HNG.out.2.2.2.2.1.symm
              rw [hys] at hes
              clear d0 d1 d2 d3 d4 d5 d6 d7 d8 d9 d10
              refine wp_region_held_drew (S := fun V => V.cell? ⟨w2.heap.size, 5, none⟩ = some (.bool true) ∧ V.cell? ⟨w2.heap.size, 8, none⟩ = some (.string xsl) ∧ V.cell? ⟨w2.heap.size, 9, none⟩ = some (.int .i64 (xrd : Int)) ∧ V.cell? ⟨gh, 8, none⟩ = some (.string sl0) ∧ V.cell? ⟨gh, 9, none⟩ = some (.int .i64 (rd0 : Int))) (by kernel_rfl) ?_ (fun hHeld => ?_)
              · (try dsimp only); exact hk8
              refine takeJ 0 (some 33) (.bool true) rfl rfl (by kernel_rfl) (by kernel_rfl) (by kernel_rfl) (fun _ _ _ h => h) (Or.inl ⟨by rfl, ?_⟩) (by assumption) ?_
              · intro w hSw; (try dsimp only at hSw); go_simp <;> (intros; omega)
              simp only [Act.put, List.setIfInBounds_toArray, List.set_cons_zero, List.set_cons_succ]
              refine takeJ 1 (some 34) (.bool true) rfl rfl (by kernel_rfl) (by kernel_rfl) (by kernel_rfl) (fun _ _ _ h => h) (Or.inl ⟨by rfl, ?_⟩) (by assumption) ?_
              · intro w hSw; (try dsimp only at hSw); go_simp <;> (intros; omega)
              simp only [Act.put, List.setIfInBounds_toArray, List.set_cons_zero, List.set_cons_succ]
              refine takeJ 2 (some 35) (.pointer (some ⟨w2.heap.size, 5, none⟩)) rfl rfl (by kernel_rfl) (by kernel_rfl) (by kernel_rfl) (fun _ _ _ h => h) (Or.inl ⟨by rfl, ?_⟩) (by assumption) ?_
              · intro w hSw; (try dsimp only at hSw); go_simp <;> (intros; omega)
              simp only [Act.put, List.setIfInBounds_toArray, List.set_cons_zero, List.set_cons_succ]
              refine takeJ 3 (some 36) (.bool true) rfl rfl (by kernel_rfl) (by kernel_rfl) (by kernel_rfl) (fun _ _ _ h => h) (Or.inl ⟨by rfl, ?_⟩) (by assumption) ?_
              · intro w hSw; (try dsimp only at hSw); go_simp <;> (intros; omega)
              simp only [Act.put, List.setIfInBounds_toArray, List.set_cons_zero, List.set_cons_succ]
              refine takeJ 4 (some 37) (.bool true) rfl rfl (by kernel_rfl) (by kernel_rfl) (by kernel_rfl) (fun _ _ _ h => h) (Or.inl ⟨by rfl, ?_⟩) (by assumption) ?_
              · intro w hSw; (try dsimp only at hSw); go_simp <;> (intros; omega)
              simp only [Act.put, List.setIfInBounds_toArray, List.set_cons_zero, List.set_cons_succ]
              refine takeJ 5 (some 38) (.bool true) rfl rfl (by kernel_rfl) (by kernel_rfl) (by kernel_rfl) (fun _ _ _ h => h) (Or.inl ⟨by rfl, ?_⟩) (by assumption) ?_
              · intro w hSw; (try dsimp only at hSw); go_simp <;> (intros; omega)
              simp only [Act.put, List.setIfInBounds_toArray, List.set_cons_zero, List.set_cons_succ]
              refine takeJ 6 (some 39) (.slice (some ⟨gh, 0, none⟩) M2.length ch) rfl rfl (by kernel_rfl) (by kernel_rfl) (by kernel_rfl) (fun _ _ _ h => h) (Or.inl ⟨by rfl, ?_⟩) (by assumption) ?_
              · intro w hSw; (try dsimp only at hSw); go_simp <;> (intros; omega)
              simp only [Act.put, List.setIfInBounds_toArray, List.set_cons_zero, List.set_cons_succ]
              refine takeJ 7 (some 40) (.int .i64 (M2.length : Int)) rfl rfl (by kernel_rfl) (by kernel_rfl) (by kernel_rfl) (fun _ _ _ h => h) (Or.inl ⟨by rfl, ?_⟩) (by assumption) ?_
              · intro w hSw; (try dsimp only at hSw); go_simp <;> (intros; omega)
              simp only [Act.put, List.setIfInBounds_toArray, List.set_cons_zero, List.set_cons_succ]
              refine takeJ 8 (some 41) (.bool false) rfl rfl (by kernel_rfl) (by kernel_rfl) (by kernel_rfl) (fun _ _ _ h => h) (Or.inl ⟨by rfl, ?_⟩) (by assumption) ?_
              · intro w hSw; (try dsimp only at hSw); go_simp <;> (intros; omega)
              simp only [Act.put, List.setIfInBounds_toArray, List.set_cons_zero, List.set_cons_succ]
              refine takeJ 9 (some 42) (.bool false) rfl rfl (by kernel_rfl) (by kernel_rfl) (by kernel_rfl) (fun _ _ _ h => h) (Or.inl ⟨by rfl, ?_⟩) (by assumption) ?_
              · intro w hSw; (try dsimp only at hSw); go_simp <;> (intros; omega)
              simp only [Act.put, List.setIfInBounds_toArray, List.set_cons_zero, List.set_cons_succ]
              refine takeJ 10 (some 43) (.pointer (some ⟨w2.heap.size, 8, none⟩)) rfl rfl (by kernel_rfl) (by kernel_rfl) (by kernel_rfl) (fun _ _ _ h => h) (Or.inl ⟨by rfl, ?_⟩) (by assumption) ?_
              · intro w hSw; (try dsimp only at hSw); go_simp <;> (intros; omega)
              simp only [Act.put, List.setIfInBounds_toArray, List.set_cons_zero, List.set_cons_succ]
              refine takeJ 11 (some 44) (.string xsl) rfl rfl (by kernel_rfl) (by kernel_rfl) (by kernel_rfl) (fun _ _ _ h => h) (Or.inl ⟨by rfl, ?_⟩) (by assumption) ?_
              · intro w hSw; (try dsimp only at hSw); go_simp <;> (intros; omega)
              simp only [Act.put, List.setIfInBounds_toArray, List.set_cons_zero, List.set_cons_succ]
              refine takeJ 12 (some 45) (.slice (some ⟨gh, 0, none⟩) M2.length ch) rfl rfl (by kernel_rfl) (by kernel_rfl) (by kernel_rfl) (fun _ _ _ h => h) (Or.inl ⟨by rfl, ?_⟩) (by assumption) ?_
              · intro w hSw; (try dsimp only at hSw); go_simp <;> (intros; omega)
              simp only [Act.put, List.setIfInBounds_toArray, List.set_cons_zero, List.set_cons_succ]
              refine takeJ 13 (some 46) (.pointer (some ⟨gh, 0, none⟩)) rfl rfl (by kernel_rfl) (by kernel_rfl) (by kernel_rfl) (fun _ _ _ h => h) (Or.inl ⟨by rfl, ?_⟩) (by assumption) ?_
              · intro w hSw; (try dsimp only at hSw); go_simp <;> (intros; omega)
              simp only [Act.put, List.setIfInBounds_toArray, List.set_cons_zero, List.set_cons_succ]
              refine takeJ 14 (some 47) (.pointer (some ⟨gh, 8, none⟩)) rfl rfl (by kernel_rfl) (by kernel_rfl) (by kernel_rfl) (fun _ _ _ h => h) (Or.inl ⟨by rfl, ?_⟩) (by assumption) ?_
              · intro w hSw; (try dsimp only at hSw); go_simp <;> (intros; omega)
              simp only [Act.put, List.setIfInBounds_toArray, List.set_cons_zero, List.set_cons_succ]
              refine takeJ 15 (some 48) (.string sl0) rfl rfl (by kernel_rfl) (by kernel_rfl) (by kernel_rfl) (fun _ _ _ h => h) (Or.inl ⟨by rfl, ?_⟩) (by assumption) ?_
              · intro w hSw; (try dsimp only at hSw); go_simp <;> (intros; omega)
              simp only [Act.put, List.setIfInBounds_toArray, List.set_cons_zero, List.set_cons_succ]
              refine takeJ 16 (some 49) (.bool false) rfl rfl (by kernel_rfl) (by kernel_rfl) (by kernel_rfl) (fun _ _ _ h => h) (Or.inl ⟨by rfl, ?_⟩) (by assumption) ?_
              · intro w hSw; (try dsimp only at hSw); go_simp <;> (intros; omega)
              simp only [Act.put, List.setIfInBounds_toArray, List.set_cons_zero, List.set_cons_succ]
              refine takeJ 17 (some 50) (.bool false) rfl rfl (by kernel_rfl) (by kernel_rfl) (by kernel_rfl) (fun _ _ _ h => h) (Or.inl ⟨by rfl, ?_⟩) (by assumption) ?_
              · intro w hSw; (try dsimp only at hSw); go_simp <;> (intros; omega)
              simp only [Act.put, List.setIfInBounds_toArray, List.set_cons_zero, List.set_cons_succ]
              refine takeJ 18 (some 51) undef rfl rfl (by kernel_rfl) (by kernel_rfl) (by kernel_rfl) (fun _ _ _ h => h) (Or.inr ⟨by rfl, rfl⟩) (by assumption) ?_
              simp only [Act.put, List.setIfInBounds_toArray, List.set_cons_zero, List.set_cons_succ]
              refine takeJ 19 (some 52) undef rfl rfl (by kernel_rfl) (by kernel_rfl) (by kernel_rfl) (fun _ _ _ h => h) (Or.inr ⟨by rfl, rfl⟩) (by assumption) ?_
              simp only [Act.put, List.setIfInBounds_toArray, List.set_cons_zero, List.set_cons_succ]
              refine takeJ 20 (some 53) undef rfl rfl (by kernel_rfl) (by kernel_rfl) (by kernel_rfl) (fun _ _ _ h => h) (Or.inr ⟨by rfl, rfl⟩) (by assumption) ?_
              simp only [Act.put, List.setIfInBounds_toArray, List.set_cons_zero, List.set_cons_succ]
              refine takeJ 21 (some 54) undef rfl rfl (by kernel_rfl) (by kernel_rfl) (by kernel_rfl) (fun _ _ _ h => h) (Or.inr ⟨by rfl, rfl⟩) (by assumption) ?_
              simp only [Act.put, List.setIfInBounds_toArray, List.set_cons_zero, List.set_cons_succ]
              refine takeJ 22 (some 55) undef rfl rfl (by kernel_rfl) (by kernel_rfl) (by kernel_rfl) (fun _ _ _ h => h) (Or.inr ⟨by rfl, rfl⟩) (by assumption) ?_
              simp only [Act.put, List.setIfInBounds_toArray, List.set_cons_zero, List.set_cons_succ]
              refine takeJ 23 (some 56) undef rfl rfl (by kernel_rfl) (by kernel_rfl) (by kernel_rfl) (fun _ _ _ h => h) (Or.inr ⟨by rfl, rfl⟩) (by assumption) ?_
              simp only [Act.put, List.setIfInBounds_toArray, List.set_cons_zero, List.set_cons_succ]
              refine takeJ 24 (some 57) undef rfl rfl (by kernel_rfl) (by kernel_rfl) (by kernel_rfl) (fun _ _ _ h => h) (Or.inr ⟨by rfl, rfl⟩) (by assumption) ?_
              simp only [Act.put, List.setIfInBounds_toArray, List.set_cons_zero, List.set_cons_succ]
              refine takeJ 25 (some 58) (.bool false) rfl rfl (by kernel_rfl) (by kernel_rfl) (by kernel_rfl) (fun _ _ _ h => h) (Or.inl ⟨by rfl, ?_⟩) (by assumption) ?_
              · intro w hSw; (try dsimp only at hSw); go_simp <;> (intros; omega)
              simp only [Act.put, List.setIfInBounds_toArray, List.set_cons_zero, List.set_cons_succ]
              refine takeJ 26 (some 59) (.bool false) rfl rfl (by kernel_rfl) (by kernel_rfl) (by kernel_rfl) (fun _ _ _ h => h) (Or.inl ⟨by rfl, ?_⟩) (by assumption) ?_
              · intro w hSw; (try dsimp only at hSw); go_simp <;> (intros; omega)
              simp only [Act.put, List.setIfInBounds_toArray, List.set_cons_zero, List.set_cons_succ]
              refine takeJ 27 (some 60) (.bool false) rfl rfl (by kernel_rfl) (by kernel_rfl) (by kernel_rfl) (fun _ _ _ h => h) (Or.inl ⟨by rfl, ?_⟩) (by assumption) ?_
              · intro w hSw; (try dsimp only at hSw); go_simp <;> (intros; omega)
              simp only [Act.put, List.setIfInBounds_toArray, List.set_cons_zero, List.set_cons_succ]
              refine wpAnyH_done (by kernel_rfl) ?_ _
              go_wp2_with fail
              refine ⟨⟨k + 1, M1, M2, by go_num, by omega, (by first | exact U3.out | exact U3.out.drew), (by rw [HN.out]; exact HR1.out), (by have := HYW.out false _ (by rw [hys]; exact hes) rfl; rw [this]; simp only [Bool.and_false, Bool.not_false, if_true, List.append_nil]; rw [HHE.out]; exact HR2.out)⟩, by simp [intOf]; omega⟩
            | true =>
              cases her : ((y.rd : Int) == (rd0 : Int)) with
              | false =>
                go_wp2_with (go_at_call 34; refine (HU0.out _).mono ?_; rintro r w2 ⟨⟨xo, xt, xc, xl, xd, xhb, xnx, xow, xsl, xrd, xty, xp, xca, rfl, hng, hnum, hfr⟩, hB⟩; obtain rfl : xhb = true := hng.1; have U2 := hide' (U1.out.step hB); have hB3 : Below w2.heap.size w2 (w2.alloc (.cells #[.string xo, .int .i64 xt, .int .i64 xc, .int .i64 xl, .string xd, .bool true, .string xnx, .string xow, .string xsl, .int .i64 (xrd : Int), .slice xp xty.length xca] 43)) := (Below.refl _ _).alloc (Nat.le_refl _) _; have x3 : Bx (w2.alloc (.cells #[.string xo, .int .i64 xt, .int .i64 xc, .int .i64 xl, .string xd, .bool true, .string xnx, .string xow, .string xsl, .int .i64 (xrd : Int), .slice xp xty.length xca] 43)) w2.heap.size #[.string xo, .int .i64 xt, .int .i64 xc, .int .i64 xl, .string xd, .bool true, .string xnx, .string xow, .string xsl, .int .i64 (xrd : Int), .slice xp xty.length xca] 43 := World.alloc_heap_new w2 _; obtain ⟨W3, hW3⟩ : ∃ W3, w2.alloc (.cells #[.string xo, .int .i64 xt, .int .i64 xc, .int .i64 xl, .string xd, .bool true, .string xnx, .string xow, .string xsl, .int .i64 (xrd : Int), .slice xp xty.length xca] 43) = W3 := ⟨_, rfl⟩; rw [hW3] at hB3 x3; have U3 := hide' (U2.out.step hB3); have HTZ : Hid (Tz W3 (.slice pn M1.length cn) (.slice (some ⟨gh, 0, none⟩) M2.length ch) ⟨xo, xt, xc, xl, xd, true, xnx, xow, xsl, xrd, xty, xp, xca⟩) := (Tz.of (x := ⟨xo, xt, xc, xl, xd, true, xnx, xow, xsl, xrd, xty, xp, xca⟩) (W := W1) hnum hfr (fun g e => (ownBlk_lt U1.out.o1 e).1) (fun g e => (ownBlk_lt U1.out.o2 e).1)).step hB3; have HNG := hide' hng; clear hnum hfr hng; have HBS := hide' ((Below.refl _ W3).alloc (Nat.le_refl _) (.cells #[.string xo, .int .i64 xt, .int .i64 xc, .int .i64 xl, .string xd, .bool true, .string xnx, .string xow, .string xsl, .int .i64 (xrd : Int), .slice xp xty.length xca] 43)); have HB3 := hide' hB3; have X3 := hide' x3; clear hB hB3 c0 c1 c2 c3 c4; have d0 := x3.cell (j := 0) (v := .string xo) rfl; have d1 := x3.cell (j := 1) (v := .int .i64 xt) rfl; have d2 := x3.cell (j := 2) (v := .int .i64 xc) rfl; have d3 := x3.cell (j := 3) (v := .int .i64 xl) rfl; have d4 := x3.cell (j := 4) (v := .string xd) rfl; have d5 := x3.cell (j := 5) (v := .bool true) rfl; have d6 := x3.cell (j := 6) (v := .string xnx) rfl; have d7 := x3.cell (j := 7) (v := .string xow) rfl; have d8 := x3.cell (j := 8) (v := .string xsl) rfl; have d9 := x3.cell (j := 9) (v := .int .i64 (xrd : Int)) rfl; have d10 := x3.cell (j := 10) (v := .slice xp xty.length xca) rfl; clear x3)
                obtain ⟨g8, g9⟩ := QH.out _ _ U3.out
                have hk8 := And.intro d5 (And.intro d8 (And.intro d9 (And.intro g8 g9)))
                have hys : y.sl = xsl := HNG.out.2.2.2.1.symm
                have hyr : y.rd = xrd := HNG.out.2.2.2.2.1.symm
                rw [hys] at hes
                rw [hyr] at her
                clear d0 d1 d2 d3 d4 d5 d6 d7 d8 d9 d10
                refine wp_region_held_drew (S := fun V => V.cell? ⟨w2.heap.size, 5, none⟩ = some (.bool true) ∧ V.cell? ⟨w2.heap.size, 8, none⟩ = some (.string xsl) ∧ V.cell? ⟨w2.heap.size, 9, none⟩ = some (.int .i64 (xrd : Int)) ∧ V.cell? ⟨gh, 8, none⟩ = some (.string sl0) ∧ V.cell? ⟨gh, 9, none⟩ = some (.int .i64 (rd0 : Int))) (by kernel_rfl) ?_ (fun hHeld => ?_)
                · (try dsimp only); exact hk8
                refine takeJ 0 (some 33) (.bool true) rfl rfl (by kernel_rfl) (by kernel_rfl) (by kernel_rfl) (fun _ _ _ h => h) (Or.inl ⟨by rfl, ?_⟩) (by assumption) ?_
                · intro w hSw; (try dsimp only at hSw); go_simp <;> (intros; omega)
                simp only [Act.put, List.setIfInBounds_toArray, List.set_cons_zero, List.set_cons_succ]
                refine takeJ 1 (some 34) (.bool true) rfl rfl (by kernel_rfl) (by kernel_rfl) (by kernel_rfl) (fun _ _ _ h => h) (Or.inl ⟨by rfl, ?_⟩) (by assumption) ?_
                · intro w hSw; (try dsimp only at hSw); go_simp <;> (intros; omega)
                simp only [Act.put, List.setIfInBounds_toArray, List.set_cons_zero, List.set_cons_succ]
                refine takeJ 2 (some 35) (.pointer (some ⟨w2.heap.size, 5, none⟩)) rfl rfl (by kernel_rfl) (by kernel_rfl) (by kernel_rfl) (fun _ _ _ h => h) (Or.inl ⟨by rfl, ?_⟩) (by assumption) ?_
                · intro w hSw; (try dsimp only at hSw); go_simp <;> (intros; omega)
                simp only [Act.put, List.setIfInBounds_toArray, List.set_cons_zero, List.set_cons_succ]
                refine takeJ 3 (some 36) (.bool true) rfl rfl (by kernel_rfl) (by kernel_rfl) (by kernel_rfl) (fun _ _ _ h => h) (Or.inl ⟨by rfl, ?_⟩) (by assumption) ?_
                · intro w hSw; (try dsimp only at hSw); go_simp <;> (intros; omega)
                simp only [Act.put, List.setIfInBounds_toArray, List.set_cons_zero, List.set_cons_succ]
                refine takeJ 4 (some 37) (.bool true) rfl rfl (by kernel_rfl) (by kernel_rfl) (by kernel_rfl) (fun _ _ _ h => h) (Or.inl ⟨by rfl, ?_⟩) (by assumption) ?_
                · intro w hSw; (try dsimp only at hSw); go_simp <;> (intros; omega)
                simp only [Act.put, List.setIfInBounds_toArray, List.set_cons_zero, List.set_cons_succ]
                refine takeJ 5 (some 38) (.bool true) rfl rfl (by kernel_rfl) (by kernel_rfl) (by kernel_rfl) (fun _ _ _ h => h) (Or.inl ⟨by rfl, ?_⟩) (by assumption) ?_
                · intro w hSw; (try dsimp only at hSw); go_simp <;> (intros; omega)
                simp only [Act.put, List.setIfInBounds_toArray, List.set_cons_zero, List.set_cons_succ]
                refine takeJ 6 (some 39) (.slice (some ⟨gh, 0, none⟩) M2.length ch) rfl rfl (by kernel_rfl) (by kernel_rfl) (by kernel_rfl) (fun _ _ _ h => h) (Or.inl ⟨by rfl, ?_⟩) (by assumption) ?_
                · intro w hSw; (try dsimp only at hSw); go_simp <;> (intros; omega)
                simp only [Act.put, List.setIfInBounds_toArray, List.set_cons_zero, List.set_cons_succ]
                refine takeJ 7 (some 40) (.int .i64 (M2.length : Int)) rfl rfl (by kernel_rfl) (by kernel_rfl) (by kernel_rfl) (fun _ _ _ h => h) (Or.inl ⟨by rfl, ?_⟩) (by assumption) ?_
                · intro w hSw; (try dsimp only at hSw); go_simp <;> (intros; omega)
                simp only [Act.put, List.setIfInBounds_toArray, List.set_cons_zero, List.set_cons_succ]
                refine takeJ 8 (some 41) (.bool false) rfl rfl (by kernel_rfl) (by kernel_rfl) (by kernel_rfl) (fun _ _ _ h => h) (Or.inl ⟨by rfl, ?_⟩) (by assumption) ?_
                · intro w hSw; (try dsimp only at hSw); go_simp <;> (intros; omega)
                simp only [Act.put, List.setIfInBounds_toArray, List.set_cons_zero, List.set_cons_succ]
                refine takeJ 9 (some 42) (.bool false) rfl rfl (by kernel_rfl) (by kernel_rfl) (by kernel_rfl) (fun _ _ _ h => h) (Or.inl ⟨by rfl, ?_⟩) (by assumption) ?_
                · intro w hSw; (try dsimp only at hSw); go_simp <;> (intros; omega)
                simp only [Act.put, List.setIfInBounds_toArray, List.set_cons_zero, List.set_cons_succ]
                refine takeJ 10 (some 43) (.pointer (some ⟨w2.heap.size, 8, none⟩)) rfl rfl (by kernel_rfl) (by kernel_rfl) (by kernel_rfl) (fun _ _ _ h => h) (Or.inl ⟨by rfl, ?_⟩) (by assumption) ?_
                · intro w hSw; (try dsimp only at hSw); go_simp <;> (intros; omega)
                simp only [Act.put, List.setIfInBounds_toArray, List.set_cons_zero, List.set_cons_succ]
                refine takeJ 11 (some 44) (.string xsl) rfl rfl (by kernel_rfl) (by kernel_rfl) (by kernel_rfl) (fun _ _ _ h => h) (Or.inl ⟨by rfl, ?_⟩) (by assumption) ?_
                · intro w hSw; (try dsimp only at hSw); go_simp <;> (intros; omega)
                simp only [Act.put, List.setIfInBounds_toArray, List.set_cons_zero, List.set_cons_succ]
                refine takeJ 12 (some 45) (.slice (some ⟨gh, 0, none⟩) M2.length ch) rfl rfl (by kernel_rfl) (by kernel_rfl) (by kernel_rfl) (fun _ _ _ h => h) (Or.inl ⟨by rfl, ?_⟩) (by assumption) ?_
                · intro w hSw; (try dsimp only at hSw); go_simp <;> (intros; omega)
                simp only [Act.put, List.setIfInBounds_toArray, List.set_cons_zero, List.set_cons_succ]
                refine takeJ 13 (some 46) (.pointer (some ⟨gh, 0, none⟩)) rfl rfl (by kernel_rfl) (by kernel_rfl) (by kernel_rfl) (fun _ _ _ h => h) (Or.inl ⟨by rfl, ?_⟩) (by assumption) ?_
                · intro w hSw; (try dsimp only at hSw); go_simp <;> (intros; omega)
                simp only [Act.put, List.setIfInBounds_toArray, List.set_cons_zero, List.set_cons_succ]
                refine takeJ 14 (some 47) (.pointer (some ⟨gh, 8, none⟩)) rfl rfl (by kernel_rfl) (by kernel_rfl) (by kernel_rfl) (fun _ _ _ h => h) (Or.inl ⟨by rfl, ?_⟩) (by assumption) ?_
                · intro w hSw; (try dsimp only at hSw); go_simp <;> (intros; omega)
                simp only [Act.put, List.setIfInBounds_toArray, List.set_cons_zero, List.set_cons_succ]
                refine takeJ 15 (some 48) (.string sl0) rfl rfl (by kernel_rfl) (by kernel_rfl) (by kernel_rfl) (fun _ _ _ h => h) (Or.inl ⟨by rfl, ?_⟩) (by assumption) ?_
                · intro w hSw; (try dsimp only at hSw); go_simp <;> (intros; omega)
                simp only [Act.put, List.setIfInBounds_toArray, List.set_cons_zero, List.set_cons_succ]
                refine takeJ 16 (some 49) (.bool true) rfl rfl (by kernel_rfl) (by kernel_rfl) (by kernel_rfl) (fun _ _ _ h => h) (Or.inl ⟨by rfl, ?_⟩) (by assumption) ?_
                · intro w hSw; (try dsimp only at hSw); go_simp <;> (intros; omega)
                simp only [Act.put, List.setIfInBounds_toArray, List.set_cons_zero, List.set_cons_succ]
                refine takeJ 17 (some 50) (.bool true) rfl rfl (by kernel_rfl) (by kernel_rfl) (by kernel_rfl) (fun _ _ _ h => h) (Or.inl ⟨by rfl, ?_⟩) (by assumption) ?_
                · intro w hSw; (try dsimp only at hSw); go_simp <;> (intros; omega)
                simp only [Act.put, List.setIfInBounds_toArray, List.set_cons_zero, List.set_cons_succ]
                refine takeJ 18 (some 51) (.pointer (some ⟨w2.heap.size, 9, none⟩)) rfl rfl (by kernel_rfl) (by kernel_rfl) (by kernel_rfl) (fun _ _ _ h => h) (Or.inl ⟨by rfl, ?_⟩) (by assumption) ?_
                · intro w hSw; (try dsimp only at hSw); go_simp <;> (intros; omega)
                simp only [Act.put, List.setIfInBounds_toArray, List.set_cons_zero, List.set_cons_succ]
                refine takeJ 19 (some 52) (.int .i64 (xrd : Int)) rfl rfl (by kernel_rfl) (by kernel_rfl) (by kernel_rfl) (fun _ _ _ h => h) (Or.inl ⟨by rfl, ?_⟩) (by assumption) ?_
                · intro w hSw; (try dsimp only at hSw); go_simp <;> (intros; omega)
                simp only [Act.put, List.setIfInBounds_toArray, List.set_cons_zero, List.set_cons_succ]
                refine takeJ 20 (some 53) (.slice (some ⟨gh, 0, none⟩) M2.length ch) rfl rfl (by kernel_rfl) (by kernel_rfl) (by kernel_rfl) (fun _ _ _ h => h) (Or.inl ⟨by rfl, ?_⟩) (by assumption) ?_
                · intro w hSw; (try dsimp only at hSw); go_simp <;> (intros; omega)
                simp only [Act.put, List.setIfInBounds_toArray, List.set_cons_zero, List.set_cons_succ]
                refine takeJ 21 (some 54) (.pointer (some ⟨gh, 0, none⟩)) rfl rfl (by kernel_rfl) (by kernel_rfl) (by kernel_rfl) (fun _ _ _ h => h) (Or.inl ⟨by rfl, ?_⟩) (by assumption) ?_
                · intro w hSw; (try dsimp only at hSw); go_simp <;> (intros; omega)
                simp only [Act.put, List.setIfInBounds_toArray, List.set_cons_zero, List.set_cons_succ]
                refine takeJ 22 (some 55) (.pointer (some ⟨gh, 9, none⟩)) rfl rfl (by kernel_rfl) (by kernel_rfl) (by kernel_rfl) (fun _ _ _ h => h) (Or.inl ⟨by rfl, ?_⟩) (by assumption) ?_
                · intro w hSw; (try dsimp only at hSw); go_simp <;> (intros; omega)
                simp only [Act.put, List.setIfInBounds_toArray, List.set_cons_zero, List.set_cons_succ]
                refine takeJ 23 (some 56) (.int .i64 (rd0 : Int)) rfl rfl (by kernel_rfl) (by kernel_rfl) (by kernel_rfl) (fun _ _ _ h => h) (Or.inl ⟨by rfl, ?_⟩) (by assumption) ?_
                · intro w hSw; (try dsimp only at hSw); go_simp <;> (intros; omega)
                simp only [Act.put, List.setIfInBounds_toArray, List.set_cons_zero, List.set_cons_succ]
                refine takeJ 24 (some 57) (.bool false) rfl rfl (by kernel_rfl) (by kernel_rfl) (by kernel_rfl) (fun _ _ _ h => h) (Or.inl ⟨by rfl, ?_⟩) (by assumption) ?_
                · intro w hSw; (try dsimp only at hSw); go_simp <;> (intros; omega)
                simp only [Act.put, List.setIfInBounds_toArray, List.set_cons_zero, List.set_cons_succ]
                refine takeJ 25 (some 58) (.bool false) rfl rfl (by kernel_rfl) (by kernel_rfl) (by kernel_rfl) (fun _ _ _ h => h) (Or.inl ⟨by rfl, ?_⟩) (by assumption) ?_
                · intro w hSw; (try dsimp only at hSw); go_simp <;> (intros; omega)
                simp only [Act.put, List.setIfInBounds_toArray, List.set_cons_zero, List.set_cons_succ]
                refine takeJ 26 (some 59) (.bool false) rfl rfl (by kernel_rfl) (by kernel_rfl) (by kernel_rfl) (fun _ _ _ h => h) (Or.inl ⟨by rfl, ?_⟩) (by assumption) ?_
                · intro w hSw; (try dsimp only at hSw); go_simp <;> (intros; omega)
                simp only [Act.put, List.setIfInBounds_toArray, List.set_cons_zero, List.set_cons_succ]
                refine takeJ 27 (some 60) (.bool false) rfl rfl (by kernel_rfl) (by kernel_rfl) (by kernel_rfl) (fun _ _ _ h => h) (Or.inl ⟨by rfl, ?_⟩) (by assumption) ?_
                · intro w hSw; (try dsimp only at hSw); go_simp <;> (intros; omega)
                simp only [Act.put, List.setIfInBounds_toArray, List.set_cons_zero, List.set_cons_succ]
                refine wpAnyH_done (by kernel_rfl) ?_ _
                go_wp2_with fail
                refine ⟨⟨k + 1, M1, M2, by go_num, by omega, (by first | exact U3.out | exact U3.out.drew), (by rw [HN.out]; exact HR1.out), (by have := HYW.out true false (by rw [hys]; exact hes) (by rw [hyr]; exact her); rw [this]; simp only [Bool.false_and, Bool.not_false, if_true, List.append_nil]; rw [HHE.out]; exact HR2.out)⟩, by simp [intOf]; omega⟩
              | true =>
                go_wp2_with (go_at_call 34; refine (HU0.out _).mono ?_; rintro r w2 ⟨⟨xo, xt, xc, xl, xd, xhb, xnx, xow, xsl, xrd, xty, xp, xca, rfl, hng, hnum, hfr⟩, hB⟩; obtain rfl : xhb = true := hng.1; have U2 := hide' (U1.out.step hB); have hB3 : Below w2.heap.size w2 (w2.alloc (.cells #[.string xo, .int .i64 xt, .int .i64 xc, .int .i64 xl, .string xd, .bool true, .string xnx, .string xow, .string xsl, .int .i64 (xrd : Int), .slice xp xty.length xca] 43)) := (Below.refl _ _).alloc (Nat.le_refl _) _; have x3 : Bx (w2.alloc (.cells #[.string xo, .int .i64 xt, .int .i64 xc, .int .i64 xl, .string xd, .bool true, .string xnx, .string xow, .string xsl, .int .i64 (xrd : Int), .slice xp xty.length xca] 43)) w2.heap.size #[.string xo, .int .i64 xt, .int .i64 xc, .int .i64 xl, .string xd, .bool true, .string xnx, .string xow, .string xsl, .int .i64 (xrd : Int), .slice xp xty.length xca] 43 := World.alloc_heap_new w2 _; obtain ⟨W3, hW3⟩ : ∃ W3, w2.alloc (.cells #[.string xo, .int .i64 xt, .int .i64 xc, .int .i64 xl, .string xd, .bool true, .string xnx, .string xow, .string xsl, .int .i64 (xrd : Int), .slice xp xty.length xca] 43) = W3 := ⟨_, rfl⟩; rw [hW3] at hB3 x3; have U3 := hide' (U2.out.step hB3); have HTZ : Hid (Tz W3 (.slice pn M1.length cn) (.slice (some ⟨gh, 0, none⟩) M2.length ch) ⟨xo, xt, xc, xl, xd, true, xnx, xow, xsl, xrd, xty, xp, xca⟩) := (Tz.of (x := ⟨xo, xt, xc, xl, xd, true, xnx, xow, xsl, xrd, xty, xp, xca⟩) (W := W1) hnum hfr (fun g e => (ownBlk_lt U1.out.o1 e).1) (fun g e => (ownBlk_lt U1.out.o2 e).1)).step hB3; have HNG := hide' hng; clear hnum hfr hng; have HBS := hide' ((Below.refl _ W3).alloc (Nat.le_refl _) (.cells #[.string xo, .int .i64 xt, .int .i64 xc, .int .i64 xl, .string xd, .bool true, .string xnx, .string xow, .string xsl, .int .i64 (xrd : Int), .slice xp xty.length xca] 43)); have HB3 := hide' hB3; have X3 := hide' x3; clear hB hB3 c0 c1 c2 c3 c4; have d0 := x3.cell (j := 0) (v := .string xo) rfl; have d1 := x3.cell (j := 1) (v := .int .i64 xt) rfl; have d2 := x3.cell (j := 2) (v := .int .i64 xc) rfl; have d3 := x3.cell (j := 3) (v := .int .i64 xl) rfl; have d4 := x3.cell (j := 4) (v := .string xd) rfl; have d5 := x3.cell (j := 5) (v := .bool true) rfl; have d6 := x3.cell (j := 6) (v := .string xnx) rfl; have d7 := x3.cell (j := 7) (v := .string xow) rfl; have d8 := x3.cell (j := 8) (v := .string xsl) rfl; have d9 := x3.cell (j := 9) (v := .int .i64 (xrd : Int)) rfl; have d10 := x3.cell (j := 10) (v := .slice xp xty.length xca) rfl; clear x3)
                obtain ⟨g8, g9⟩ := QH.out _ _ U3.out
                have hk8 := And.intro d5 (And.intro d8 (And.intro d9 (And.intro g8 g9)))
                have hys : y.sl = xsl := HNG.out.2.2.2.1.symm
                have hyr : y.rd = xrd := HNG.out.2.2.2.2.1.symm
                rw [hys] at hes
                rw [hyr] at her
                clear d0 d1 d2 d3 d4 d5 d6 d7 d8 d9 d10
                refine wp_region_held_drew (S := fun V => V.cell? ⟨w2.heap.size, 5, none⟩ = some (.bool true) ∧ V.cell? ⟨w2.heap.size, 8, none⟩ = some (.string xsl) ∧ V.cell? ⟨w2.heap.size, 9, none⟩ = some (.int .i64 (xrd : Int)) ∧ V.cell? ⟨gh, 8, none⟩ = some (.string sl0) ∧ V.cell? ⟨gh, 9, none⟩ = some (.int .i64 (rd0 : Int))) (by kernel_rfl) ?_ (fun hHeld => ?_)
                · (try dsimp only); exact hk8
                refine takeJ 0 (some 33) (.bool true) rfl rfl (by kernel_rfl) (by kernel_rfl) (by kernel_rfl) (fun _ _ _ h => h) (Or.inl ⟨by rfl, ?_⟩) (by assumption) ?_
                · intro w hSw; (try dsimp only at hSw); go_simp <;> (intros; omega)
                simp only [Act.put, List.setIfInBounds_toArray, List.set_cons_zero, List.set_cons_succ]
                refine takeJ 1 (some 34) (.bool true) rfl rfl (by kernel_rfl) (by kernel_rfl) (by kernel_rfl) (fun _ _ _ h => h) (Or.inl ⟨by rfl, ?_⟩) (by assumption) ?_
                · intro w hSw; (try dsimp only at hSw); go_simp <;> (intros; omega)
                simp only [Act.put, List.setIfInBounds_toArray, List.set_cons_zero, List.set_cons_succ]
                refine takeJ 2 (some 35) (.pointer (some ⟨w2.heap.size, 5, none⟩)) rfl rfl (by kernel_rfl) (by kernel_rfl) (by kernel_rfl) (fun _ _ _ h => h) (Or.inl ⟨by rfl, ?_⟩) (by assumption) ?_
                · intro w hSw; (try dsimp only at hSw); go_simp <;> (intros; omega)
                simp only [Act.put, List.setIfInBounds_toArray, List.set_cons_zero, List.set_cons_succ]
                refine takeJ 3 (some 36) (.bool true) rfl rfl (by kernel_rfl) (by kernel_rfl) (by kernel_rfl) (fun _ _ _ h => h) (Or.inl ⟨by rfl, ?_⟩) (by assumption) ?_
                · intro w hSw; (try dsimp only at hSw); go_simp <;> (intros; omega)
                simp only [Act.put, List.setIfInBounds_toArray, List.set_cons_zero, List.set_cons_succ]
                refine takeJ 4 (some 37) (.bool true) rfl rfl (by kernel_rfl) (by kernel_rfl) (by kernel_rfl) (fun _ _ _ h => h) (Or.inl ⟨by rfl, ?_⟩) (by assumption) ?_
                · intro w hSw; (try dsimp only at hSw); go_simp <;> (intros; omega)
                simp only [Act.put, List.setIfInBounds_toArray, List.set_cons_zero, List.set_cons_succ]
                refine takeJ 5 (some 38) (.bool true) rfl rfl (by kernel_rfl) (by kernel_rfl) (by kernel_rfl) (fun _ _ _ h => h) (Or.inl ⟨by rfl, ?_⟩) (by assumption) ?_
                · intro w hSw; (try dsimp only at hSw); go_simp <;> (intros; omega)
                simp only [Act.put, List.setIfInBounds_toArray, List.set_cons_zero, List.set_cons_succ]
                refine takeJ 6 (some 39) (.slice (some ⟨gh, 0, none⟩) M2.length ch) rfl rfl (by kernel_rfl) (by kernel_rfl) (by kernel_rfl) (fun _ _ _ h => h) (Or.inl ⟨by rfl, ?_⟩) (by assumption) ?_
                · intro w hSw; (try dsimp only at hSw); go_simp <;> (intros; omega)
                simp only [Act.put, List.setIfInBounds_toArray, List.set_cons_zero, List.set_cons_succ]
                refine takeJ 7 (some 40) (.int .i64 (M2.length : Int)) rfl rfl (by kernel_rfl) (by kernel_rfl) (by kernel_rfl) (fun _ _ _ h => h) (Or.inl ⟨by rfl, ?_⟩) (by assumption) ?_
                · intro w hSw; (try dsimp only at hSw); go_simp <;> (intros; omega)
                simp only [Act.put, List.setIfInBounds_toArray, List.set_cons_zero, List.set_cons_succ]
                refine takeJ 8 (some 41) (.bool false) rfl rfl (by kernel_rfl) (by kernel_rfl) (by kernel_rfl) (fun _ _ _ h => h) (Or.inl ⟨by rfl, ?_⟩) (by assumption) ?_
                · intro w hSw; (try dsimp only at hSw); go_simp <;> (intros; omega)
                simp only [Act.put, List.setIfInBounds_toArray, List.set_cons_zero, List.set_cons_succ]
                refine takeJ 9 (some 42) (.bool false) rfl rfl (by kernel_rfl) (by kernel_rfl) (by kernel_rfl) (fun _ _ _ h => h) (Or.inl ⟨by rfl, ?_⟩) (by assumption) ?_
                · intro w hSw; (try dsimp only at hSw); go_simp <;> (intros; omega)
                simp only [Act.put, List.setIfInBounds_toArray, List.set_cons_zero, List.set_cons_succ]
                refine takeJ 10 (some 43) (.pointer (some ⟨w2.heap.size, 8, none⟩)) rfl rfl (by kernel_rfl) (by kernel_rfl) (by kernel_rfl) (fun _ _ _ h => h) (Or.inl ⟨by rfl, ?_⟩) (by assumption) ?_
                · intro w hSw; (try dsimp only at hSw); go_simp <;> (intros; omega)
                simp only [Act.put, List.setIfInBounds_toArray, List.set_cons_zero, List.set_cons_succ]
                refine takeJ 11 (some 44) (.string xsl) rfl rfl (by kernel_rfl) (by kernel_rfl) (by kernel_rfl) (fun _ _ _ h => h) (Or.inl ⟨by rfl, ?_⟩) (by assumption) ?_
                · intro w hSw; (try dsimp only at hSw); go_simp <;> (intros; omega)
                simp only [Act.put, List.setIfInBounds_toArray, List.set_cons_zero, List.set_cons_succ]
                refine takeJ 12 (some 45) (.slice (some ⟨gh, 0, none⟩) M2.length ch) rfl rfl (by kernel_rfl) (by kernel_rfl) (by kernel_rfl) (fun _ _ _ h => h) (Or.inl ⟨by rfl, ?_⟩) (by assumption) ?_
                · intro w hSw; (try dsimp only at hSw); go_simp <;> (intros; omega)
                simp only [Act.put, List.setIfInBounds_toArray, List.set_cons_zero, List.set_cons_succ]
                refine takeJ 13 (some 46) (.pointer (some ⟨gh, 0, none⟩)) rfl rfl (by kernel_rfl) (by kernel_rfl) (by kernel_rfl) (fun _ _ _ h => h) (Or.inl ⟨by rfl, ?_⟩) (by assumption) ?_
                · intro w hSw; (try dsimp only at hSw); go_simp <;> (intros; omega)
                simp only [Act.put, List.setIfInBounds_toArray, List.set_cons_zero, List.set_cons_succ]
                refine takeJ 14 (some 47) (.pointer (some ⟨gh, 8, none⟩)) rfl rfl (by kernel_rfl) (by kernel_rfl) (by kernel_rfl) (fun _ _ _ h => h) (Or.inl ⟨by rfl, ?_⟩) (by assumption) ?_
                · intro w hSw; (try dsimp only at hSw); go_simp <;> (intros; omega)
                simp only [Act.put, List.setIfInBounds_toArray, List.set_cons_zero, List.set_cons_succ]
                refine takeJ 15 (some 48) (.string sl0) rfl rfl (by kernel_rfl) (by kernel_rfl) (by kernel_rfl) (fun _ _ _ h => h) (Or.inl ⟨by rfl, ?_⟩) (by assumption) ?_
                · intro w hSw; (try dsimp only at hSw); go_simp <;> (intros; omega)
                simp only [Act.put, List.setIfInBounds_toArray, List.set_cons_zero, List.set_cons_succ]
                refine takeJ 16 (some 49) (.bool true) rfl rfl (by kernel_rfl) (by kernel_rfl) (by kernel_rfl) (fun _ _ _ h => h) (Or.inl ⟨by rfl, ?_⟩) (by assumption) ?_
                · intro w hSw; (try dsimp only at hSw); go_simp <;> (intros; omega)
                simp only [Act.put, List.setIfInBounds_toArray, List.set_cons_zero, List.set_cons_succ]
                refine takeJ 17 (some 50) (.bool true) rfl rfl (by kernel_rfl) (by kernel_rfl) (by kernel_rfl) (fun _ _ _ h => h) (Or.inl ⟨by rfl, ?_⟩) (by assumption) ?_
                · intro w hSw; (try dsimp only at hSw); go_simp <;> (intros; omega)
                simp only [Act.put, List.setIfInBounds_toArray, List.set_cons_zero, List.set_cons_succ]
                refine takeJ 18 (some 51) (.pointer (some ⟨w2.heap.size, 9, none⟩)) rfl rfl (by kernel_rfl) (by kernel_rfl) (by kernel_rfl) (fun _ _ _ h => h) (Or.inl ⟨by rfl, ?_⟩) (by assumption) ?_
                · intro w hSw; (try dsimp only at hSw); go_simp <;> (intros; omega)
                simp only [Act.put, List.setIfInBounds_toArray, List.set_cons_zero, List.set_cons_succ]
                refine takeJ 19 (some 52) (.int .i64 (xrd : Int)) rfl rfl (by kernel_rfl) (by kernel_rfl) (by kernel_rfl) (fun _ _ _ h => h) (Or.inl ⟨by rfl, ?_⟩) (by assumption) ?_
                · intro w hSw; (try dsimp only at hSw); go_simp <;> (intros; omega)
                simp only [Act.put, List.setIfInBounds_toArray, List.set_cons_zero, List.set_cons_succ]
                refine takeJ 20 (some 53) (.slice (some ⟨gh, 0, none⟩) M2.length ch) rfl rfl (by kernel_rfl) (by kernel_rfl) (by kernel_rfl) (fun _ _ _ h => h) (Or.inl ⟨by rfl, ?_⟩) (by assumption) ?_
                · intro w hSw; (try dsimp only at hSw); go_simp <;> (intros; omega)
                simp only [Act.put, List.setIfInBounds_toArray, List.set_cons_zero, List.set_cons_succ]
                refine takeJ 21 (some 54) (.pointer (some ⟨gh, 0, none⟩)) rfl rfl (by kernel_rfl) (by kernel_rfl) (by kernel_rfl) (fun _ _ _ h => h) (Or.inl ⟨by rfl, ?_⟩) (by assumption) ?_
                · intro w hSw; (try dsimp only at hSw); go_simp <;> (intros; omega)
                simp only [Act.put, List.setIfInBounds_toArray, List.set_cons_zero, List.set_cons_succ]
                refine takeJ 22 (some 55) (.pointer (some ⟨gh, 9, none⟩)) rfl rfl (by kernel_rfl) (by kernel_rfl) (by kernel_rfl) (fun _ _ _ h => h) (Or.inl ⟨by rfl, ?_⟩) (by assumption) ?_
                · intro w hSw; (try dsimp only at hSw); go_simp <;> (intros; omega)
                simp only [Act.put, List.setIfInBounds_toArray, List.set_cons_zero, List.set_cons_succ]
                refine takeJ 23 (some 56) (.int .i64 (rd0 : Int)) rfl rfl (by kernel_rfl) (by kernel_rfl) (by kernel_rfl) (fun _ _ _ h => h) (Or.inl ⟨by rfl, ?_⟩) (by assumption) ?_
                · intro w hSw; (try dsimp only at hSw); go_simp <;> (intros; omega)
                simp only [Act.put, List.setIfInBounds_toArray, List.set_cons_zero, List.set_cons_succ]
                refine takeJ 24 (some 57) (.bool true) rfl rfl (by kernel_rfl) (by kernel_rfl) (by kernel_rfl) (fun _ _ _ h => h) (Or.inl ⟨by rfl, ?_⟩) (by assumption) ?_
                · intro w hSw; (try dsimp only at hSw); go_simp <;> (intros; omega)
                simp only [Act.put, List.setIfInBounds_toArray, List.set_cons_zero, List.set_cons_succ]
                refine takeJ 25 (some 58) (.bool true) rfl rfl (by kernel_rfl) (by kernel_rfl) (by kernel_rfl) (fun _ _ _ h => h) (Or.inl ⟨by rfl, ?_⟩) (by assumption) ?_
                · intro w hSw; (try dsimp only at hSw); go_simp <;> (intros; omega)
                simp only [Act.put, List.setIfInBounds_toArray, List.set_cons_zero, List.set_cons_succ]
                refine takeJ 26 (some 59) (.bool true) rfl rfl (by kernel_rfl) (by kernel_rfl) (by kernel_rfl) (fun _ _ _ h => h) (Or.inl ⟨by rfl, ?_⟩) (by assumption) ?_
                · intro w hSw; (try dsimp only at hSw); go_simp <;> (intros; omega)
                simp only [Act.put, List.setIfInBounds_toArray, List.set_cons_zero, List.set_cons_succ]
                refine takeJ 27 (some 60) (.bool true) rfl rfl (by kernel_rfl) (by kernel_rfl) (by kernel_rfl) (fun _ _ _ h => h) (Or.inl ⟨by rfl, ?_⟩) (by assumption) ?_
                · intro w hSw; (try dsimp only at hSw); go_simp <;> (intros; omega)
                simp only [Act.put, List.setIfInBounds_toArray, List.set_cons_zero, List.set_cons_succ]
                refine wpAnyH_done (by kernel_rfl) ?_ _
                obtain ⟨W4, hW4⟩ : ∃ W4, World.drew W3 = W4 := ⟨_, rfl⟩
                have U4 : Hid (Uz w W4 (.slice pn M1.length cn) (.slice (some ⟨gh, 0, none⟩) M2.length ch) M1 M2) := by rw [← hW4]; exact U3.out.drew
                have X4 : Hid (Bx W4 w2.heap.size #[.string xo, .int .i64 xt, .int .i64 xc, .int .i64 xl, .string xd, .bool true, .string xnx, .string xow, .string xsl, .int .i64 (xrd : Int), .slice xp xty.length xca] 43) := by rw [← hW4]; exact X3.out
                have HT4 : Hid (Tz W4 (.slice pn M1.length cn) (.slice (some ⟨gh, 0, none⟩) M2.length ch) ⟨xo, xt, xc, xl, xd, true, xnx, xow, xsl, xrd, xty, xp, xca⟩) := by rw [← hW4]; exact HTZ.out
                try simp only [hW4]
                clear hW4 HBS
                have HBS := hide' ((Below.refl _ W4).alloc (Nat.le_refl _) (.cells #[.string xo, .int .i64 xt, .int .i64 xc, .int .i64 xl, .string xd, .bool true, .string xnx, .string xow, .string xsl, .int .i64 (xrd : Int), .slice xp xty.length xca] 43))
                have d0 := X4.out.cell (j := 0) (v := .string xo) rfl
                have d1 := X4.out.cell (j := 1) (v := .int .i64 xt) rfl
                have d2 := X4.out.cell (j := 2) (v := .int .i64 xc) rfl
                have d3 := X4.out.cell (j := 3) (v := .int .i64 xl) rfl
                have d4 := X4.out.cell (j := 4) (v := .string xd) rfl
                have d5 := X4.out.cell (j := 5) (v := .bool true) rfl
                have d6 := X4.out.cell (j := 6) (v := .string xnx) rfl
                have d7 := X4.out.cell (j := 7) (v := .string xow) rfl
                have d8 := X4.out.cell (j := 8) (v := .string xsl) rfl
                have d9 := X4.out.cell (j := 9) (v := .int .i64 (xrd : Int)) rfl
                have d10 := X4.out.cell (j := 10) (v := .slice xp xty.length xca) rfl
                go_wp2_with (first
                  | (at_builtin; refine wpList_append_apart _ rfl _ _ 39 rfl w.heap.size 43 i0 (.agg #[.string .empty, .int .i64 0, .int .i64 0, .int .i64 0, .string .empty, .bool false, .string .empty, .string .empty, .string .empty, .int .i64 0, .slice none 0 0]) 11 144 Tryz.underlying39 HI.out.1 HI.out.2.1 HI.out.2.2.1 HI.out.2.2.2 rfl (by decide) _ _ _ rfl (ownsRow_below U4.out.o2 HBS.out) ⟨W4.heap.size, 0, none⟩ 1 1 [.string xo, .int .i64 xt, .int .i64 xc, .int .i64 xl, .string xd, .bool true, .string xnx, .string xow, .string xsl, .int .i64 (xrd : Int), .slice xp xty.length xca] rfl rfl (World.news_of_block (cs := #[.string xo, .int .i64 xt, .int .i64 xc, .int .i64 xl, .string xd, .bool true, .string xnx, .string xow, .string xsl, .int .i64 (xrd : Int), .slice xp xty.length xca]) (t := 43) (fr := (0, 0)) (heap_alloc_new W4 _)) (by simp [Value.oneCell']) hn2 hb2 (by have := U4.out.b.size; simp; omega) ?_; intro v5 w5 hown5 hgrow5 hplc5; have U5 := hide' ((Uz.app (x := ⟨xo, xt, xc, xl, xd, true, xnx, xow, xsl, xrd, xty, xp, xca⟩) (U4.out.step HBS.out).flip (HT4.out.step HBS.out).flip hown5 hgrow5 hplc5).flip); clear hown5 hgrow5 hplc5))
                refine ⟨⟨k + 1, M1, M2 ++ [⟨xo, xt, xc, xl, xd, true, xnx, xow, xsl, xrd, xty, xp, xca⟩], by go_num, by omega, (by first | exact U5.out | exact U5.out.drew), (by rw [HN.out]; exact HR1.out), (by have := HYW.out true true (by rw [hys]; exact hes) (by rw [hyr]; exact her); rw [this]; simp only [Bool.and_true, Bool.not_true]; rw [if_neg (by decide), HHE.out]; exact HR2.out.snoc HNG.out)⟩, by simp [intOf]; omega⟩
      · -- an NSEC
        have HN : Hid (nqL apex L (k + 1) = nqL apex L k ++ [y]) := by unfold Hid; rw [HSN.out, hq]
        have HH : Hid (hqL apex L (k + 1) = hqL apex L k) := by unfold Hid; rw [HSH.out, hh, List.append_nil]
        have HU0 : Hid (∀ W, Calls Tryz.prog 34 #[.string apex, .agg #[.string o, .int .i64 t, .int .i64 c, .int .i64 l, .string d]] W fun e w' => (∃ (xo : ByteArray) (xt xc xl : Int) (xd : ByteArray) (xhb : Bool) (xnx xow xsl : ByteArray) (xrd : Nat) (xty : List Nat) (xp : Option Addr) (xca : Nat), e = .returned (.tuple #[.agg #[.string xo, .int .i64 xt, .int .i64 xc, .int .i64 xl, .string xd, .bool xhb, .string xnx, .string xow, .string xsl, .int .i64 (xrd : Int), .slice xp xty.length xca], .bool true]) ∧ NG ⟨xo, xt, xc, xl, xd, xhb, xnx, xow, xsl, xrd, xty, xp, xca⟩ y ∧ NumsAt w' xp xty ∧ (∀ g off, xp = some ⟨g, off, none⟩ → W.heap.size ≤ g)) ∧ Below W.heap.size W w') := fun W => by
          refine (HUK.out W).mono ?_
          rintro e w' ⟨⟨x, ok, rfl, h1, h2⟩, hB⟩
          cases ok with
          | false => rw [hq] at h1; exact absurd (h1 rfl).1 (by simp)
          | true =>
            rcases (h2 rfl).2.2 with ⟨y2, hy, _, hG⟩ | ⟨y2, hy, _⟩
            · rw [hq] at hy
              obtain rfl : y = y2 := by simpa using hy
              exact ⟨⟨x.o, x.t, x.c, x.l, x.d, x.hb, x.nx, x.ow, x.sl, x.rd, x.ty, x.p, x.ca, rfl, hG, (h2 rfl).1, (h2 rfl).2.1⟩, hB⟩
            · rw [hh] at hy; cases hy
        clear HUK hq hh HSN HSH
        go_wp2_with (first
          | (go_at_call 34; refine (HU0.out _).mono ?_; rintro r w2 ⟨⟨xo, xt, xc, xl, xd, xhb, xnx, xow, xsl, xrd, xty, xp, xca, rfl, hng, hnum, hfr⟩, hB⟩; obtain rfl : xhb = false := hng.1; have U2 := hide' (U1.out.step hB); have hB3 : Below w2.heap.size w2 (w2.alloc (.cells #[.string xo, .int .i64 xt, .int .i64 xc, .int .i64 xl, .string xd, .bool false, .string xnx, .string xow, .string xsl, .int .i64 (xrd : Int), .slice xp xty.length xca] 43)) := (Below.refl _ _).alloc (Nat.le_refl _) _; have x3 : Bx (w2.alloc (.cells #[.string xo, .int .i64 xt, .int .i64 xc, .int .i64 xl, .string xd, .bool false, .string xnx, .string xow, .string xsl, .int .i64 (xrd : Int), .slice xp xty.length xca] 43)) w2.heap.size #[.string xo, .int .i64 xt, .int .i64 xc, .int .i64 xl, .string xd, .bool false, .string xnx, .string xow, .string xsl, .int .i64 (xrd : Int), .slice xp xty.length xca] 43 := World.alloc_heap_new w2 _; obtain ⟨W3, hW3⟩ : ∃ W3, w2.alloc (.cells #[.string xo, .int .i64 xt, .int .i64 xc, .int .i64 xl, .string xd, .bool false, .string xnx, .string xow, .string xsl, .int .i64 (xrd : Int), .slice xp xty.length xca] 43) = W3 := ⟨_, rfl⟩; rw [hW3] at hB3 x3; have U3 := hide' (U2.out.step hB3); have HTZ : Hid (Tz W3 (.slice pn M1.length cn) (.slice ph M2.length ch) ⟨xo, xt, xc, xl, xd, false, xnx, xow, xsl, xrd, xty, xp, xca⟩) := (Tz.of (x := ⟨xo, xt, xc, xl, xd, false, xnx, xow, xsl, xrd, xty, xp, xca⟩) (W := W1) hnum hfr (fun g e => (ownBlk_lt U1.out.o1 e).1) (fun g e => (ownBlk_lt U1.out.o2 e).1)).step hB3; have HNG := hide' hng; clear hnum hfr hng; have HBS := hide' ((Below.refl _ W3).alloc (Nat.le_refl _) (.cells #[.string xo, .int .i64 xt, .int .i64 xc, .int .i64 xl, .string xd, .bool false, .string xnx, .string xow, .string xsl, .int .i64 (xrd : Int), .slice xp xty.length xca] 43)); have HB3 := hide' hB3; have X3 := hide' x3; clear hB hB3 c0 c1 c2 c3 c4; have d0 := x3.cell (j := 0) (v := .string xo) rfl; have d1 := x3.cell (j := 1) (v := .int .i64 xt) rfl; have d2 := x3.cell (j := 2) (v := .int .i64 xc) rfl; have d3 := x3.cell (j := 3) (v := .int .i64 xl) rfl; have d4 := x3.cell (j := 4) (v := .string xd) rfl; have d5 := x3.cell (j := 5) (v := .bool false) rfl; have d6 := x3.cell (j := 6) (v := .string xnx) rfl; have d7 := x3.cell (j := 7) (v := .string xow) rfl; have d8 := x3.cell (j := 8) (v := .string xsl) rfl; have d9 := x3.cell (j := 9) (v := .int .i64 (xrd : Int)) rfl; have d10 := x3.cell (j := 10) (v := .slice xp xty.length xca) rfl; clear x3)
          | (at_builtin; refine wpList_append_apart _ rfl _ _ 39 rfl w.heap.size 43 i0 (.agg #[.string .empty, .int .i64 0, .int .i64 0, .int .i64 0, .string .empty, .bool false, .string .empty, .string .empty, .string .empty, .int .i64 0, .slice none 0 0]) 11 144 Tryz.underlying39 HI.out.1 HI.out.2.1 HI.out.2.2.1 HI.out.2.2.2 rfl (by decide) _ _ _ rfl (ownsRow_below U3.out.o1 HBS.out) ⟨W3.heap.size, 0, none⟩ 1 1 [.string xo, .int .i64 xt, .int .i64 xc, .int .i64 xl, .string xd, .bool false, .string xnx, .string xow, .string xsl, .int .i64 (xrd : Int), .slice xp xty.length xca] rfl rfl (World.news_of_block (cs := #[.string xo, .int .i64 xt, .int .i64 xc, .int .i64 xl, .string xd, .bool false, .string xnx, .string xow, .string xsl, .int .i64 (xrd : Int), .slice xp xty.length xca]) (t := 43) (fr := (0, 0)) (heap_alloc_new W3 _)) (by simp [Value.oneCell']) hn1 hb1 (by have := U3.out.b.size; simp; omega) ?_; intro v5 w5 hown5 hgrow5 hplc5; have U5 := hide' (Uz.app (x := ⟨xo, xt, xc, xl, xd, false, xnx, xow, xsl, xrd, xty, xp, xca⟩) (U3.out.step HBS.out) (HTZ.out.step HBS.out) hown5 hgrow5 hplc5); have X5 := hide' ((X3.out.below HBS.out X3.out.lt).grown hgrow5 (fun e => by have := (ownBlk_lt U2.out.o1 e).1; omega)); clear hown5 hgrow5 hplc5 d0 d1 d2 d3 d4 d5 d6 d7 d8 d9 d10))
        have hk8 := And.intro (X5.out.cell (j := 5) (v := .bool false) rfl) (And.intro (X5.out.cell (j := 8) (v := .string xsl) rfl) (X5.out.cell (j := 9) (v := .int .i64 (xrd : Int)) rfl))
        refine wp_region_held_drew (S := fun V => V.cell? ⟨w2.heap.size, 5, none⟩ = some (.bool false) ∧ V.cell? ⟨w2.heap.size, 8, none⟩ = some (.string xsl) ∧ V.cell? ⟨w2.heap.size, 9, none⟩ = some (.int .i64 (xrd : Int))) (by kernel_rfl) ?_ (fun hHeld => ?_)
        · (try dsimp only); exact hk8
        refine takeJ 0 (some 33) (.bool true) rfl rfl (by kernel_rfl) (by kernel_rfl) (by kernel_rfl) (fun _ _ _ h => h) (Or.inl ⟨by rfl, ?_⟩) (by assumption) ?_
        · intro w hSw; (try dsimp only at hSw); go_simp <;> (intros; omega)
        simp only [Act.put, List.setIfInBounds_toArray, List.set_cons_zero, List.set_cons_succ]
        refine takeJ 1 (some 34) (.bool true) rfl rfl (by kernel_rfl) (by kernel_rfl) (by kernel_rfl) (fun _ _ _ h => h) (Or.inl ⟨by rfl, ?_⟩) (by assumption) ?_
        · intro w hSw; (try dsimp only at hSw); go_simp <;> (intros; omega)
        simp only [Act.put, List.setIfInBounds_toArray, List.set_cons_zero, List.set_cons_succ]
        refine takeJ 2 (some 35) (.pointer (some ⟨w2.heap.size, 5, none⟩)) rfl rfl (by kernel_rfl) (by kernel_rfl) (by kernel_rfl) (fun _ _ _ h => h) (Or.inl ⟨by rfl, ?_⟩) (by assumption) ?_
        · intro w hSw; (try dsimp only at hSw); go_simp <;> (intros; omega)
        simp only [Act.put, List.setIfInBounds_toArray, List.set_cons_zero, List.set_cons_succ]
        refine takeJ 3 (some 36) (.bool false) rfl rfl (by kernel_rfl) (by kernel_rfl) (by kernel_rfl) (fun _ _ _ h => h) (Or.inl ⟨by rfl, ?_⟩) (by assumption) ?_
        · intro w hSw; (try dsimp only at hSw); go_simp <;> (intros; omega)
        simp only [Act.put, List.setIfInBounds_toArray, List.set_cons_zero, List.set_cons_succ]
        refine takeJ 4 (some 37) (.bool false) rfl rfl (by kernel_rfl) (by kernel_rfl) (by kernel_rfl) (fun _ _ _ h => h) (Or.inl ⟨by rfl, ?_⟩) (by assumption) ?_
        · intro w hSw; (try dsimp only at hSw); go_simp <;> (intros; omega)
        simp only [Act.put, List.setIfInBounds_toArray, List.set_cons_zero, List.set_cons_succ]
        refine takeJ 5 (some 38) (.bool false) rfl rfl (by kernel_rfl) (by kernel_rfl) (by kernel_rfl) (fun _ _ _ h => h) (Or.inl ⟨by rfl, ?_⟩) (by assumption) ?_
        · intro w hSw; (try dsimp only at hSw); go_simp <;> (intros; omega)
        simp only [Act.put, List.setIfInBounds_toArray, List.set_cons_zero, List.set_cons_succ]
        refine takeJ 6 (some 39) undef rfl rfl (by kernel_rfl) (by kernel_rfl) (by kernel_rfl) (fun _ _ _ h => h) (Or.inr ⟨by rfl, rfl⟩) (by assumption) ?_
        simp only [Act.put, List.setIfInBounds_toArray, List.set_cons_zero, List.set_cons_succ]
        refine takeJ 7 (some 40) undef rfl rfl (by kernel_rfl) (by kernel_rfl) (by kernel_rfl) (fun _ _ _ h => h) (Or.inr ⟨by rfl, rfl⟩) (by assumption) ?_
        simp only [Act.put, List.setIfInBounds_toArray, List.set_cons_zero, List.set_cons_succ]
        refine takeJ 8 (some 41) undef rfl rfl (by kernel_rfl) (by kernel_rfl) (by kernel_rfl) (fun _ _ _ h => h) (Or.inr ⟨by rfl, rfl⟩) (by assumption) ?_
        simp only [Act.put, List.setIfInBounds_toArray, List.set_cons_zero, List.set_cons_succ]
        refine takeJ 9 (some 42) undef rfl rfl (by kernel_rfl) (by kernel_rfl) (by kernel_rfl) (fun _ _ _ h => h) (Or.inr ⟨by rfl, rfl⟩) (by assumption) ?_
        simp only [Act.put, List.setIfInBounds_toArray, List.set_cons_zero, List.set_cons_succ]
        refine takeJ 10 (some 43) undef rfl rfl (by kernel_rfl) (by kernel_rfl) (by kernel_rfl) (fun _ _ _ h => h) (Or.inr ⟨by rfl, rfl⟩) (by assumption) ?_
        simp only [Act.put, List.setIfInBounds_toArray, List.set_cons_zero, List.set_cons_succ]
        refine takeJ 11 (some 44) undef rfl rfl (by kernel_rfl) (by kernel_rfl) (by kernel_rfl) (fun _ _ _ h => h) (Or.inr ⟨by rfl, rfl⟩) (by assumption) ?_
        simp only [Act.put, List.setIfInBounds_toArray, List.set_cons_zero, List.set_cons_succ]
        refine takeJ 12 (some 45) undef rfl rfl (by kernel_rfl) (by kernel_rfl) (by kernel_rfl) (fun _ _ _ h => h) (Or.inr ⟨by rfl, rfl⟩) (by assumption) ?_
        simp only [Act.put, List.setIfInBounds_toArray, List.set_cons_zero, List.set_cons_succ]
        refine takeJ 13 (some 46) undef rfl rfl (by kernel_rfl) (by kernel_rfl) (by kernel_rfl) (fun _ _ _ h => h) (Or.inr ⟨by rfl, rfl⟩) (by assumption) ?_
        simp only [Act.put, List.setIfInBounds_toArray, List.set_cons_zero, List.set_cons_succ]
        refine takeJ 14 (some 47) undef rfl rfl (by kernel_rfl) (by kernel_rfl) (by kernel_rfl) (fun _ _ _ h => h) (Or.inr ⟨by rfl, rfl⟩) (by assumption) ?_
        simp only [Act.put, List.setIfInBounds_toArray, List.set_cons_zero, List.set_cons_succ]
        refine takeJ 15 (some 48) undef rfl rfl (by kernel_rfl) (by kernel_rfl) (by kernel_rfl) (fun _ _ _ h => h) (Or.inr ⟨by rfl, rfl⟩) (by assumption) ?_
        simp only [Act.put, List.setIfInBounds_toArray, List.set_cons_zero, List.set_cons_succ]
        refine takeJ 16 (some 49) undef rfl rfl (by kernel_rfl) (by kernel_rfl) (by kernel_rfl) (fun _ _ _ h => h) (Or.inr ⟨by rfl, rfl⟩) (by assumption) ?_
        simp only [Act.put, List.setIfInBounds_toArray, List.set_cons_zero, List.set_cons_succ]
        refine takeJ 17 (some 50) undef rfl rfl (by kernel_rfl) (by kernel_rfl) (by kernel_rfl) (fun _ _ _ h => h) (Or.inr ⟨by rfl, rfl⟩) (by assumption) ?_
        simp only [Act.put, List.setIfInBounds_toArray, List.set_cons_zero, List.set_cons_succ]
        refine takeJ 18 (some 51) undef rfl rfl (by kernel_rfl) (by kernel_rfl) (by kernel_rfl) (fun _ _ _ h => h) (Or.inr ⟨by rfl, rfl⟩) (by assumption) ?_
        simp only [Act.put, List.setIfInBounds_toArray, List.set_cons_zero, List.set_cons_succ]
        refine takeJ 19 (some 52) undef rfl rfl (by kernel_rfl) (by kernel_rfl) (by kernel_rfl) (fun _ _ _ h => h) (Or.inr ⟨by rfl, rfl⟩) (by assumption) ?_
        simp only [Act.put, List.setIfInBounds_toArray, List.set_cons_zero, List.set_cons_succ]
        refine takeJ 20 (some 53) undef rfl rfl (by kernel_rfl) (by kernel_rfl) (by kernel_rfl) (fun _ _ _ h => h) (Or.inr ⟨by rfl, rfl⟩) (by assumption) ?_
        simp only [Act.put, List.setIfInBounds_toArray, List.set_cons_zero, List.set_cons_succ]
        refine takeJ 21 (some 54) undef rfl rfl (by kernel_rfl) (by kernel_rfl) (by kernel_rfl) (fun _ _ _ h => h) (Or.inr ⟨by rfl, rfl⟩) (by assumption) ?_
        simp only [Act.put, List.setIfInBounds_toArray, List.set_cons_zero, List.set_cons_succ]
        refine takeJ 22 (some 55) undef rfl rfl (by kernel_rfl) (by kernel_rfl) (by kernel_rfl) (fun _ _ _ h => h) (Or.inr ⟨by rfl, rfl⟩) (by assumption) ?_
        simp only [Act.put, List.setIfInBounds_toArray, List.set_cons_zero, List.set_cons_succ]
        refine takeJ 23 (some 56) undef rfl rfl (by kernel_rfl) (by kernel_rfl) (by kernel_rfl) (fun _ _ _ h => h) (Or.inr ⟨by rfl, rfl⟩) (by assumption) ?_
        simp only [Act.put, List.setIfInBounds_toArray, List.set_cons_zero, List.set_cons_succ]
        refine takeJ 24 (some 57) undef rfl rfl (by kernel_rfl) (by kernel_rfl) (by kernel_rfl) (fun _ _ _ h => h) (Or.inr ⟨by rfl, rfl⟩) (by assumption) ?_
        simp only [Act.put, List.setIfInBounds_toArray, List.set_cons_zero, List.set_cons_succ]
        refine takeJ 25 (some 58) undef rfl rfl (by kernel_rfl) (by kernel_rfl) (by kernel_rfl) (fun _ _ _ h => h) (Or.inr ⟨by rfl, rfl⟩) (by assumption) ?_
        simp only [Act.put, List.setIfInBounds_toArray, List.set_cons_zero, List.set_cons_succ]
        refine takeJ 26 (some 59) undef rfl rfl (by kernel_rfl) (by kernel_rfl) (by kernel_rfl) (fun _ _ _ h => h) (Or.inr ⟨by rfl, rfl⟩) (by assumption) ?_
        simp only [Act.put, List.setIfInBounds_toArray, List.set_cons_zero, List.set_cons_succ]
        refine takeJ 27 (some 60) (.bool false) rfl rfl (by kernel_rfl) (by kernel_rfl) (by kernel_rfl) (fun _ _ _ h => h) (Or.inl ⟨by rfl, ?_⟩) (by assumption) ?_
        · intro w hSw; (try dsimp only at hSw); go_simp <;> (intros; omega)
        simp only [Act.put, List.setIfInBounds_toArray, List.set_cons_zero, List.set_cons_succ]
        refine wpAnyH_done (by kernel_rfl) ?_ _
        go_wp2_with fail
        refine ⟨⟨k + 1, M1 ++ [⟨xo, xt, xc, xl, xd, false, xnx, xow, xsl, xrd, xty, xp, xca⟩], M2, by go_num, by omega, (by first | exact U5.out | exact U5.out.drew), (by rw [HN.out]; exact HR1.out.snoc HNG.out), (by rw [HH.out]; exact HR2.out)⟩, by simp [intOf]; omega⟩
    · obtain rfl : k = L.length := by omega
      obtain ⟨pn, cn, rfl, -⟩ := own_shape HUZ.out.o1
      obtain ⟨ph, ch, rfl, -⟩ := own_shape HUZ.out.o2
      have hl1 := HR1.out.len
      by_cases hp : 0 < M1.length
      · have hpi : (0 : Int) < (M1.length : Int) := by omega
        go_wp2_with fail
        go_ret
        exact ⟨⟨pn, cn, M1, rfl, gsAt_own HUZ.out.o1, fun x hx => (HUZ.out.n1 x hx).nums, .inl ⟨by omega, HR1.out⟩⟩, HUZ.out.b⟩
      · have hpi : ¬ (0 : Int) < (M1.length : Int) := by omega
        have hnil : nqL apex L L.length = [] := List.eq_nil_of_length_eq_zero (by omega)
        have HNI := hide' hnil
        clear hnil
        go_wp2_with fail
        go_ret
        exact ⟨⟨ph, ch, M2, rfl, gsAt_own HUZ.out.o2, fun x hx => (HUZ.out.n2 x hx).nums, .inr ⟨HNI.out, HR2.out⟩⟩, HUZ.out.b⟩
end Go.Proofs.YtipifhifjbenlaaGreat
