import Derived.Test.YtlidocgnboobfaaSp1
import Derived.Deep.AppendLies
import Derived.Deep.RegionHeldLaw
import Derived.Deep.RegionLaw
import Derived.Maps.AppendAt
/-
  Chapter 7: the plan of a time, of the program and of the reference. (The verifier's own text.)
-/
namespace Go.Proofs.Ytlidocgnboobfaa
set_option linter.unusedVariables false
set_option linter.unusedSimpArgs false
open Go.RowKit Go.Shelf Go.Proofs.Ytlidocgnboobfaa.Nm

/-- a key with its times, as it is handed over -/
def tkA (k : Tk) : Value := .agg #[.int .i64 k.f, .int .i64 k.m, .int .i64 k.e, .int .i64 k.s, .int .i64 k.p, .int .i64 k.a, .int .i64 k.r, .int .i64 k.x]
set_option maxRecDepth 100000 in
set_option maxHeartbeats 1000000 in
/-- signer.isTold -/
theorem isTold_any (k : Tk) (t : Int) (w : World) :
    Calls Try.prog 16 #[tkA k, .int .i64 t] w fun r w' => r = .returned (.bool (told k t)) ∧ Below w.heap.size w w' := by
  obtain ⟨f, m, e, s, p, a, r, x⟩ := k
  unfold told tkA
  go_enter Try.func16, Try.ntmps16
  by_cases h1 : p ≤ t
  · by_cases h2 : t < x
    · go_wp2
      go_ret
      exact ⟨by simp [h1, h2], (Below.refl _ _).alloc (Nat.le_refl _) _⟩
    · go_wp2
      go_ret
      exact ⟨by simp [h1, h2], (Below.refl _ _).alloc (Nat.le_refl _) _⟩
  · go_wp2
    go_ret
    exact ⟨by simp; omega, (Below.refl _ _).alloc (Nat.le_refl _) _⟩
set_option maxRecDepth 100000 in
set_option maxHeartbeats 1000000 in
/-- signer.doesSign -/
theorem doesSign_any (k : Tk) (t : Int) (w : World) :
    Calls Try.prog 17 #[tkA k, .int .i64 t] w fun r w' => r = .returned (.bool (signs k t)) ∧ Below w.heap.size w w' := by
  obtain ⟨f, m, e, s, p, a, r, x⟩ := k
  unfold signs tkA
  go_enter Try.func17, Try.ntmps17
  by_cases h1 : a ≤ t
  · by_cases h2 : t < r
    · go_wp2
      go_ret
      exact ⟨by simp [h1, h2], (Below.refl _ _).alloc (Nat.le_refl _) _⟩
    · go_wp2
      go_ret
      exact ⟨by simp [h1, h2], (Below.refl _ _).alloc (Nat.le_refl _) _⟩
  · go_wp2
    go_ret
    exact ⟨by simp; omega, (Below.refl _ _).alloc (Nat.le_refl _) _⟩
theorem infoPn : (Try.prog.info? 32).map (fun i => (i.zero, i.size, i.bytes)) = some (some (.agg #[.int .i64 0, .int .i64 0, .int .i64 0, .int .i64 0, .bool false]), 5, 40) := by kernel_rfl
/-- what lies in memory while a plan's keys are gathered -/
structure Pm (w u : World) (v : Value) (cs : List Value) (cr : Array Value) (B : Nat) (ck : Array Value) (n : Nat) (xs : List Value) : Prop where
  bel : Below w.heap.size w u
  b0 : Bx u w.heap.size (v :: cs).toArray 25
  b1 : Bx u (w.heap.size + 1) cr 25
  b2 : Bx u B ck 44
  own : u.ownsRow (w.heap.size + 2) 32 5 v n xs
  hv : ∀ g, v.ownBlock = some g → g < B
section
variable {w u u' : World} {v : Value} {cs : List Value} {cr ck : Array Value} {B n : Nat} {xs : List Value}
theorem Pm.low (h : Pm w u v cs cr B ck n xs) : w.heap.size + 2 ≤ u.heap.size := h.b1.lt
theorem Pm.below (h : Pm w u v cs cr B ck n xs) (hb : Below u.heap.size u u') : Pm w u' v cs cr B ck n xs :=
  ⟨bstep h.bel hb h.bel.size, h.b0.below hb h.b0.lt, h.b1.below hb h.b1.lt, h.b2.below hb h.b2.lt, row_bel h.own hb (Nat.le_refl _), h.hv⟩
theorem Pm.drew (h : Pm w u v cs cr B ck n xs) : Pm w u.drew v cs cr B ck n xs := h.below (Below.refl _ _).drew
theorem Pm.alloc (h : Pm w u v cs cr B ck n xs) (o : Obj) : Pm w (u.alloc o) v cs cr B ck n xs := h.below ((Below.refl _ _).alloc (Nat.le_refl _) _)
theorem Pm.grown (h : Pm w u v cs cr B ck n xs) (hg : u.grownBy u' v.ownBlock) : Below w.heap.size w u' ∧ Bx u' w.heap.size (v :: cs).toArray 25 ∧ Bx u' (w.heap.size + 1) cr 25 ∧ Bx u' B ck 44 := by
  have hr := h.own.lt
  refine ⟨h.bel.grown hg h.bel.size (fun k e => by have := (hr k e).1; omega), h.b0.grown hg (fun e => by have := (hr _ e).1; omega), h.b1.grown hg (fun e => by have := (hr _ e).1; omega), h.b2.grown hg (fun e => by have := h.hv _ e; omega)⟩
end

set_option maxRecDepth 100000 in
set_option maxHeartbeats 1000000 in
/-- signer.PlanAt -/
theorem planAt_any (L : List Tk) (p : Option Addr) (cap : Nat) (k0 : Value) (kb : Bool) (ks : ByteArray) (i3 i4 i5 i6 : Int) (t : Int) (w : World) (hL : L.length ≤ 1048576) (hat : TsAt w p L) :
    Calls Try.prog 6 #[.slice p L.length cap, .agg #[k0, .bool kb, .string ks, .int .i64 i3, .int .i64 i4, .int .i64 i5, .int .i64 i6], .int .i64 t] w fun r w' => ∃ v, r = .returned (.agg #[v, .bool kb, .string ks, .int .i64 i3, .int .i64 i4, .int .i64 i5, .int .i64 i6]) ∧ w'.ownsRow w.heap.size 32 5 v (planK L t).length (rowV pnV (planK L t)) ∧ Below w.heap.size w w' := by
  have HA := hide' hat
  clear hat
  go_enter Try.func6, Try.ntmps6
  go_wp2_with fail
  go_loopw [12] (fun i wr => ∃ (n : Nat) (v : Value), i = .int .i64 (n : Int) ∧ n ≤ L.length ∧ Bx wr w.heap.size #[v, .bool kb, .string ks, .int .i64 i3, .int .i64 i4, .int .i64 i5, .int .i64 i6] 25 ∧ Bx wr (w.heap.size + 1) #[.slice none 0 0, .bool false, .string ⟨#[]⟩, .int .i64 0, .int .i64 0, .int .i64 0, .int .i64 0] 25 ∧ wr.ownsRow (w.heap.size + 2) 32 5 v (planK (L.take n) t).length (rowV pnV (planK (L.take n) t)) ∧ Below w.heap.size w wr) (fun i _ => L.length - (intOf i).toNat)
  case atStart => exact ⟨0, _, rfl, Nat.zero_le _, (bxNew _ _ _).al _, by simpa using bxNew (w.alloc (.cells #[.slice none 0 0, .bool kb, .string ks, .int .i64 i3, .int .i64 i4, .int .i64 i5, .int .i64 i6] 25)) _ _, by simpa [planK, rowV] using row_nil _ _ _ _, ((Below.refl _ _).alloc (Nat.le_refl _) _).alloc (by simp) _⟩
  case round =>
    obtain ⟨n, v, rfl, hn, hb0, hb1, hown, hBr⟩ := hrel
    have HBr := hide' hBr
    have HB0 := hide' hb0
    have HB1 := hide' hb1
    have HO := hide' hown
    by_cases hlt : n < L.length
    · obtain ⟨g, off, rfl, hg, e0, e1, e2, e3, e4, e5, e6, e7⟩ := TsAt.cells (row_below' HA.out hBr) n hlt
      obtain ⟨x, hx⟩ : ∃ x, L[n] = x := ⟨_, rfl⟩
      have HX := hide' (show L.take (n + 1) = L.take n ++ [x] by rw [List.take_add_one, List.getElem?_eq_getElem hlt, hx]; rfl)
      have HLN : Hid ((planK (L.take n) t).length ≤ n) := Nat.le_trans (planK_le _ _) (by rw [List.length_take]; omega)
      rw [hx] at e0 e1 e2 e3 e4 e5 e6 e7
      clear hx hBr hb0 hb1 hown
      have HT := hide' (isTold_any x t)
      have HS := hide' (doesSign_any x t)
      have HPK := hide' (planK_snoc (L.take n) x t)
      rw [← HX.out] at HPK
      have HO' := hide' HO.out
      generalize hK0 : planK (L.take n) t = K0 at *
      clear HO HX hK0
      obtain ⟨f, m, e, s, pp, a, r, xx⟩ := x
      dsimp only [tkA] at e0 e1 e2 e3 e4 e5 e6 e7 HT HS HPK
      have HP0 : Hid (∀ W, wr.alloc (.cells #[.int .i64 f, .int .i64 m, .int .i64 e, .int .i64 s, .int .i64 pp, .int .i64 a, .int .i64 r, .int .i64 xx] 44) = W → Pm w W v [.bool kb, .string ks, .int .i64 i3, .int .i64 i4, .int .i64 i5, .int .i64 i6] #[.slice none 0 0, .bool false, .string ⟨#[]⟩, .int .i64 0, .int .i64 0, .int .i64 0, .int .i64 0] wr.heap.size #[.int .i64 f, .int .i64 m, .int .i64 e, .int .i64 s, .int .i64 pp, .int .i64 a, .int .i64 r, .int .i64 xx] K0.length (rowV pnV K0)) := by
        rintro W rfl
        exact ⟨HBr.out.alloc HBr.out.size _, HB0.out.al _, HB1.out.al _, bxNew _ _ _, row_bel HO'.out ((Below.refl _ _).alloc (Nat.le_refl _) _) (Nat.le_refl _), fun g e => (HO'.out.lt g e).2⟩
      have HBW := hide' HB1.out.lt
      clear HO' HB0 HB1
      cases htd : told ⟨f, m, e, s, pp, a, r, xx⟩ t with
      | true =>
        rw [htd] at HT HPK
        clear htd
        go_wp2_with (go_at_call 16; refine (HT.out _).mono ?_; rintro r w2 ⟨rfl, hB2⟩; have HP2 := hide' ((HP0.out _ rfl).below hB2); clear hB2)
        have HNE : Hid (wr.heap.size ≠ w.heap.size) := by have := HBW.out; unfold Hid; omega
        obtain ⟨B, hB⟩ : ∃ B, wr.heap.size = B := ⟨_, rfl⟩
        rw [hB] at HP2 HNE ⊢
        clear hB HP0
        generalize hsg : signs ⟨f, m, e, s, pp, a, r, xx⟩ t = sg at *
        clear hsg
        obtain ⟨q0, q1, q2, q3, q4, q5, q6, q7⟩ := bx8 HP2.out.b2
        have y0 : w2.cell? ⟨w.heap.size, 0, none⟩ = some v := HP2.out.b0.cell rfl
        obtain ⟨i0, hi, hz0, hz1, hz2⟩ := info_parts infoPn
        go_region_law (first
          | (refine step_append_lies _ rfl _ _ 23 rfl (w.heap.size + 2) 32 i0 (.agg #[.int .i64 0, .int .i64 0, .int .i64 0, .int .i64 0, .bool false]) 5 40 Try.underlying23 hi hz0 hz1 hz2 rfl (by decide) v K0.length (rowV pnV K0) rfl (by first | exact (HP3.out.alloc _).own | exact (HP3.out.drew.alloc _).own | exact ((HP3.out.alloc _).drew).own) ⟨_, 0, none⟩ 1 1 (pnV ⟨f, m, e, s, sg⟩) rfl rfl (by first | exact World.news_of_block (bxNew _ #[.int .i64 f, .int .i64 m, .int .i64 e, .int .i64 s, .bool sg] 32)) (pnV_one _) (by decide) (by have := HLN.out; unfold maxLen; omega) (by have := HLN.out; omega) (by first | exact (HP3.out.alloc _).low | exact (HP3.out.drew.alloc _).low | exact ((HP3.out.alloc _).drew).low) _ rfl ?_; intro g6 cap6 w6 hown6 hgrow6 hpl6 hlt6; have E4 := hide' (show Below w.heap.size w w6 ∧ Bx w6 w.heap.size (v :: [.bool kb, .string ks, .int .i64 i3, .int .i64 i4, .int .i64 i5, .int .i64 i6]).toArray 25 ∧ Bx w6 (w.heap.size + 1) #[.slice none 0 0, .bool false, .string ⟨#[]⟩, .int .i64 0, .int .i64 0, .int .i64 0, .int .i64 0] 25 ∧ Bx w6 B #[.int .i64 f, .int .i64 m, .int .i64 e, .int .i64 s, .int .i64 pp, .int .i64 a, .int .i64 r, .int .i64 xx] 44 by first | exact (HP3.out.alloc _).grown hgrow6 | exact (HP3.out.drew.alloc _).grown hgrow6 | exact ((HP3.out.alloc _).drew).grown hgrow6); have HO6 := hide' hown6; have z0 : w6.cell? ⟨w.heap.size, 0, none⟩ = some v := E4.out.2.1.cell rfl; have z1 : w6.frozen? ⟨w.heap.size, 0, none⟩ = false := E4.out.2.1.free 0; clear hown6 hgrow6 hpl6 hlt6)
          | (go_simp; go_at_call 17; refine (HS.out _).mono ?_; rintro r3 w3 ⟨rfl, hB3⟩; have HP3 := hide' (show Pm w w3 v [.bool kb, .string ks, .int .i64 i3, .int .i64 i4, .int .i64 i5, .int .i64 i6] #[.slice none 0 0, .bool false, .string ⟨#[]⟩, .int .i64 0, .int .i64 0, .int .i64 0, .int .i64 0] B #[.int .i64 f, .int .i64 m, .int .i64 e, .int .i64 s, .int .i64 pp, .int .i64 a, .int .i64 r, .int .i64 xx] K0.length (rowV pnV K0) by first | exact HP2.out.below hB3 | exact HP2.out.drew.below hB3); have y3 : w3.cell? ⟨w.heap.size, 0, none⟩ = some v := HP3.out.b0.cell rfl; obtain ⟨t0, t1, t2, t3, t4, t5, t6, t7⟩ := bx8 HP3.out.b2; have y4 : ∀ o, (w3.alloc o).cell? ⟨w.heap.size, 0, none⟩ = some v := fun o => (HP3.out.alloc o).b0.cell rfl; clear hB3))
        all_goals go_wp2_with fail
        all_goals
          obtain ⟨E0, E1, E2, E3⟩ := E4.out
          have EO := HO6.out
          have hx0 := E1.set 0 (.slice (some ⟨g6, 0, none⟩) (K0.length + 1) cap6)
          refine ⟨⟨n + 1, _, by go_num, by omega, by simpa using hx0, E2.far (by omega) _, ?_, E0.setCell (p := ⟨w.heap.size, 0, none⟩) (Nat.le_refl _) _⟩, by simp [intOf]; omega⟩
          rw [HPK.out, rowV_app, List.length_append]
          have hge := (EO.lt g6 rfl).1
          exact row_blk EO fun g eg _ _ => Below.heap_setCell _ _ _ g (by
            have hgg : g6 = g := by simpa [Value.ownBlock] using eg
            subst hgg
            show g6 ≠ w.heap.size
            omega)
      | false =>
        rw [htd] at HT HPK
        clear htd
        go_wp2_with (go_at_call 16; refine (HT.out _).mono ?_; rintro r w2 ⟨rfl, hB2⟩; have HP2 := hide' ((HP0.out _ rfl).below hB2); clear hB2)
        refine ⟨⟨n + 1, v, by go_num, by omega, HP2.out.b0, HP2.out.b1, ?_, HP2.out.bel⟩, by simp [intOf]; omega⟩
        rw [HPK.out]
        simpa using HP2.out.own
    · obtain rfl : n = L.length := by omega
      obtain ⟨pv, cv, rfl, _, _, _⟩ := own_shape HO.out
      obtain ⟨q0, q1, q2, q3, q4, q5, q6⟩ := bx7 HB0.out
      obtain ⟨r0, r1, r2, r3, r4, r5, r6⟩ := bx7 HB1.out
      have f0 := HB1.out.free 0
      have f1 := HB1.out.free 1
      have f2 := HB1.out.free 2
      have f3 := HB1.out.free 3
      have f4 := HB1.out.free 4
      have f5 := HB1.out.free 5
      have f6 := HB1.out.free 6
      have HF := hide' (((((((HB1.out.set 0 (.slice pv (planK (L.take L.length) t).length cv)).set 1 (.bool kb)).set 2 (.string ks)).set 3 (.int .i64 i3)).set 4 (.int .i64 i4)).set 5 (.int .i64 i5)).set 6 (.int .i64 i6))
      clear hBr hb0 hb1 hown
      rw [List.take_length] at HO HF
      go_wp2_with fail
      have hF := HF.out
      simp only [List.setIfInBounds_toArray, List.set_cons_zero, List.set_cons_succ] at hF
      obtain ⟨z0, z1, z2, z3, z4, z5, z6⟩ := bx7 hF
      refine bodyPost_ret (v := .agg #[.slice pv (planK L t).length cv, .bool kb, .string ks, .int .i64 i3, .int .i64 i4, .int .i64 i5, .int .i64 i6]) (by simp [results, go_sem, z0, z1, z2, z3, z4, z5, z6]) rfl ?_
      refine ⟨_, rfl, row_lower (row_blk HO.out fun g _ hg _ => ?_) (by omega), ?_⟩
      · have hne : g ≠ w.heap.size + 1 := by omega
        rw [Below.heap_setCell _ _ _ g hne, Below.heap_setCell _ _ _ g hne, Below.heap_setCell _ _ _ g hne, Below.heap_setCell _ _ _ g hne, Below.heap_setCell _ _ _ g hne, Below.heap_setCell _ _ _ g hne, Below.heap_setCell _ _ _ g hne]
      · have hx := HBr.out
        exact ((((((hx.setCell (p := ⟨w.heap.size + 1, 0, none⟩) (Nat.le_succ _) _).setCell (p := ⟨w.heap.size + 1, 1, none⟩) (Nat.le_succ _) _).setCell (p := ⟨w.heap.size + 1, 2, none⟩) (Nat.le_succ _) _).setCell (p := ⟨w.heap.size + 1, 3, none⟩) (Nat.le_succ _) _).setCell (p := ⟨w.heap.size + 1, 4, none⟩) (Nat.le_succ _) _).setCell (p := ⟨w.heap.size + 1, 5, none⟩) (Nat.le_succ _) _).setCell (p := ⟨w.heap.size + 1, 6, none⟩) (Nat.le_succ _) _
end Go.Proofs.Ytlidocgnboobfaa
