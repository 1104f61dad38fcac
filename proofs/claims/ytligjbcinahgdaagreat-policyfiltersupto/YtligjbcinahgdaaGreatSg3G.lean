import Derived.Test.YtligjbcinahgdaaGreatSf8G
import Derived.Deep.RegionHeld3
import Derived.Test.YtligjbcinahgdaaGreatCntG
import Derived.Test.YtligjbcinahgdaaGreatRz1G
import Derived.Test.YtligjbcinahgdaaGreatLowG
namespace Go.Proofs.YtligjbcinahgdaaGreat
set_option linter.unusedVariables false
open Go.RowKit Go.Shelf Go.Proofs.YtligjbcinahgdaaGreat.Nm

theorem takeD {P : Program} {ops : Array Oper} {Q : Exit → Act → World → Prop} {md : Region.Mode} {S : World → Prop} (i : Nat) (d : Option Tmp) (v : Value) {oi : Oper} {fuel : Nat} {listed : Array Bool} {a : Act} {w : World} (hi : ops[i]? = some oi) (hd : oi.dst = d)
    (hs : Region.noSelect ops = true) (hf : Region.free md ops listed i = true) (hr : (Region.ready md ops listed).contains i = true)
    (hQ : ∀ c a w, Q (.panic c) (a.put d v) w → Q (.panic c) a w) (hy : YieldsIf P ops S oi v a) (hS : S w)
    (h : wpAnyH P md ops Q S fuel (listed.setIfInBounds i true) (a.put d v) w) : wpAnyH P md ops Q S (fuel + 1) listed a w := by
  subst hd
  exact wpAnyH_take hi hs hf hr hQ hy hS h

set_option linter.unusedSimpArgs false
end Go.Proofs.YtligjbcinahgdaaGreat

/-
  Proofs: gazetteerref11.right. (The verifier's own text.)
-/
namespace Go.Proofs.YtligjbcinahgdaaGreat
set_option linter.unusedVariables false
set_option linter.unusedSimpArgs false
open Go.RowKit Go.Shelf Go.Proofs.YtligjbcinahgdaaGreat.Nm

set_option maxRecDepth 100000 in
set_option maxHeartbeats 4000000 in
/-- gazetteerref11.right -/
theorem refRuleRight_any (x : Ru) (w : World) (hx : x.n.size ≤ 1048576) (hd : x.d.size ≤ 1048576) :
    Calls Tryz.prog 18 #[ruV x] w fun e w' => e = .returned (.bool (rgB x)) ∧ Below w.heap.size w w' := by
  have HNm := hide' (fun V => refIsName_any x.n V hx)
  have HCk := hide' (fun V => refCheckData_any x.t x.d V (by omega))
  obtain ⟨W0, hW0⟩ : ∃ z, rgB x = z := ⟨_, rfl⟩
  have HW0 := hide' hW0
  rw [hW0]
  clear hW0
  unfold ruV
  obtain ⟨xn, xb, xk, xt, xl, xd⟩ := x
  simp only at hx hd HW0 HNm HCk
  obtain ⟨E0, hE0⟩ : ∃ z, errD xt xd = z := ⟨_, rfl⟩
  rw [hE0] at HCk
  obtain ⟨wa, hwa⟩ : ∃ wa, w.alloc (.cells #[.string xn, .bool xb, .int .i64 xk, .int .i64 xt, .int .i64 xl, .string xd] 45) = wa := ⟨_, rfl⟩
  have HXa : Hid (Bx wa w.heap.size #[.string xn, .bool xb, .int .i64 xk, .int .i64 xt, .int .i64 xl, .string xd] 45) := hwa ▸ World.alloc_heap_new w _
  have HBa : Hid (Below w.heap.size w wa) := hwa ▸ (Below.refl _ w).alloc (Nat.le_refl _) _
  obtain ⟨b0, b1, b2, b3, b4, b5⟩ := bx6P HXa.out
  cases hN : isN xn with
  | false =>
    rw [hN] at HNm
    by_cases h4 : xk = 4
    · subst h4
      have hv : W0 = false := by rw [← HW0.out, rg_same]; unfold rrB; simp [hN]
      subst hv
      clear HW0  hE0 hN HCk
      go_enter Tryz.func18, Tryz.ntmps18
      go_wp2_with (go_at_call 39; (with_reducible refine (HNm.out _).mono ?_); rintro e w1 ⟨rfl, hB1⟩; have HX1 := hide' (HXa.out.below hB1 HXa.out.lt); obtain ⟨c0, c1, c2, c3, c4, c5⟩ := bx6P HX1.out; have HB1 := hide' (bstep HBa.out hB1 HBa.out.size); clear hB1)
      go_ret
      exact ⟨rfl, HB1.out⟩
    · have h4b : (xk == 4) = false := by rw [beq_eq_false_iff_ne]; exact h4
      have hv : W0 = false := by rw [← HW0.out, rg_same]; unfold rrB; simp [hN]
      subst hv
      clear HW0 hE0 hN HCk
      go_enter Tryz.func18, Tryz.ntmps18
      go_wp2_with (go_at_call 39; (with_reducible refine (HNm.out _).mono ?_); rintro e w1 ⟨rfl, hB1⟩; have HX1 := hide' (HXa.out.below hB1 HXa.out.lt); obtain ⟨c0, c1, c2, c3, c4, c5⟩ := bx6P HX1.out; have HB1 := hide' (bstep HBa.out hB1 HBa.out.size); clear hB1)
      go_ret
      exact ⟨rfl, HB1.out⟩
  | true =>
    rw [hN] at HNm
    by_cases h4 : xk = 4
    · subst h4
      by_cases he : E0 = 0
      · subst he
        by_cases hl0 : 0 ≤ xl
        · by_cases hl1 : xl ≤ 2147483647
          · have f0 : decide (0 ≤ xl) = true := decide_eq_true hl0
            have f1 : decide (xl ≤ 2147483647) = true := decide_eq_true hl1
            have hv : W0 = true := by rw [← HW0.out, rg_same]; unfold rrB; simp [hN, hE0, hl0, hl1]
            subst hv
            clear HW0 hE0 hN
            go_enter Tryz.func18, Tryz.ntmps18
            go_wp2_with (first | (go_at_call 39; (with_reducible refine (HNm.out _).mono ?_); rintro e w1 ⟨rfl, hB1⟩; have HX1 := hide' (HXa.out.below hB1 HXa.out.lt); obtain ⟨c0, c1, c2, c3, c4, c5⟩ := bx6P HX1.out; have HB1 := hide' (bstep HBa.out hB1 HBa.out.size); clear hB1) | (go_at_call 40; (with_reducible refine (HCk.out _).mono ?_); rintro e w2 ⟨rfl, hB2⟩; have HX2 := hide' (HX1.out.below hB2 HX1.out.lt); obtain ⟨d0, d1, d2, d3, d4, d5⟩ := bx6P HX2.out; have HB2 := hide' (bstep HB1.out hB2 HB1.out.size); clear hB2))
            go_ret
            exact ⟨rfl, HB2.out⟩
          · have f0 : decide (0 ≤ xl) = true := decide_eq_true hl0
            have f1 : decide (xl ≤ 2147483647) = false := decide_eq_false hl1
            have hv : W0 = false := by rw [← HW0.out, rg_same]; unfold rrB; simp [hN, hE0, hl0, hl1]
            subst hv
            clear HW0 hE0 hN
            go_enter Tryz.func18, Tryz.ntmps18
            go_wp2_with (first | (go_at_call 39; (with_reducible refine (HNm.out _).mono ?_); rintro e w1 ⟨rfl, hB1⟩; have HX1 := hide' (HXa.out.below hB1 HXa.out.lt); obtain ⟨c0, c1, c2, c3, c4, c5⟩ := bx6P HX1.out; have HB1 := hide' (bstep HBa.out hB1 HBa.out.size); clear hB1) | (go_at_call 40; (with_reducible refine (HCk.out _).mono ?_); rintro e w2 ⟨rfl, hB2⟩; have HX2 := hide' (HX1.out.below hB2 HX1.out.lt); obtain ⟨d0, d1, d2, d3, d4, d5⟩ := bx6P HX2.out; have HB2 := hide' (bstep HB1.out hB2 HB1.out.size); clear hB2))
            go_ret
            exact ⟨rfl, HB2.out⟩
        · have f0 : decide (0 ≤ xl) = false := decide_eq_false hl0
          have hv : W0 = false := by rw [← HW0.out, rg_same]; unfold rrB; simp [hN, hE0, hl0]
          subst hv
          clear HW0 hE0 hN
          go_enter Tryz.func18, Tryz.ntmps18
          go_wp2_with (first | (go_at_call 39; (with_reducible refine (HNm.out _).mono ?_); rintro e w1 ⟨rfl, hB1⟩; have HX1 := hide' (HXa.out.below hB1 HXa.out.lt); obtain ⟨c0, c1, c2, c3, c4, c5⟩ := bx6P HX1.out; have HB1 := hide' (bstep HBa.out hB1 HBa.out.size); clear hB1) | (go_at_call 40; (with_reducible refine (HCk.out _).mono ?_); rintro e w2 ⟨rfl, hB2⟩; have HX2 := hide' (HX1.out.below hB2 HX1.out.lt); obtain ⟨d0, d1, d2, d3, d4, d5⟩ := bx6P HX2.out; have HB2 := hide' (bstep HB1.out hB2 HB1.out.size); clear hB2))
          go_ret
          exact ⟨rfl, HB2.out⟩
      · have hej : ((E0 : Int) == 0) = false := by rw [beq_eq_false_iff_ne]; omega
        have hv : W0 = false := by rw [← HW0.out, rg_same]; unfold rrB; simp [hN, hE0, he]
        subst hv
        clear HW0 hE0 hN
        go_enter Tryz.func18, Tryz.ntmps18
        go_wp2_with (first | (go_at_call 39; (with_reducible refine (HNm.out _).mono ?_); rintro e w1 ⟨rfl, hB1⟩; have HX1 := hide' (HXa.out.below hB1 HXa.out.lt); obtain ⟨c0, c1, c2, c3, c4, c5⟩ := bx6P HX1.out; have HB1 := hide' (bstep HBa.out hB1 HBa.out.size); clear hB1) | (go_at_call 40; (with_reducible refine (HCk.out _).mono ?_); rintro e w2 ⟨rfl, hB2⟩; have HX2 := hide' (HX1.out.below hB2 HX1.out.lt); obtain ⟨d0, d1, d2, d3, d4, d5⟩ := bx6P HX2.out; have HB2 := hide' (bstep HB1.out hB2 HB1.out.size); clear hB2))
        go_ret
        exact ⟨rfl, HB2.out⟩
    · have h4b : (xk == 4) = false := by rw [beq_eq_false_iff_ne]; exact h4
      by_cases h0 : 0 ≤ xk
      · by_cases h5 : xk ≤ 4
        · have hv : W0 = true := by rw [← HW0.out, rg_same]; unfold rrB; simp [hN, h0, h5, h4]
          subst hv
          clear HW0 hE0 hN HCk
          go_enter Tryz.func18, Tryz.ntmps18
          go_wp2_with (go_at_call 39; (with_reducible refine (HNm.out _).mono ?_); rintro e w1 ⟨rfl, hB1⟩; have HX1 := hide' (HXa.out.below hB1 HXa.out.lt); obtain ⟨c0, c1, c2, c3, c4, c5⟩ := bx6P HX1.out; have HB1 := hide' (bstep HBa.out hB1 HBa.out.size); clear hB1)
          go_ret
          exact ⟨rfl, HB1.out⟩
        · have hv : W0 = false := by rw [← HW0.out, rg_same]; unfold rrB; simp [hN, h0, h5, h4]
          subst hv
          clear HW0 hE0 hN HCk
          have f5 : decide (xk ≤ 4) = false := decide_eq_false h5
          go_enter Tryz.func18, Tryz.ntmps18
          go_wp2_with (go_at_call 39; (with_reducible refine (HNm.out _).mono ?_); rintro e w1 ⟨rfl, hB1⟩; have HX1 := hide' (HXa.out.below hB1 HXa.out.lt); obtain ⟨c0, c1, c2, c3, c4, c5⟩ := bx6P HX1.out; have HB1 := hide' (bstep HBa.out hB1 HBa.out.size); clear hB1)
          go_ret
          exact ⟨rfl, HB1.out⟩
      · have hv : W0 = false := by rw [← HW0.out, rg_same]; unfold rrB; simp [hN, h0]
        subst hv
        clear HW0 hE0 hN HCk
        go_enter Tryz.func18, Tryz.ntmps18
        go_wp2_with (go_at_call 39; (with_reducible refine (HNm.out _).mono ?_); rintro e w1 ⟨rfl, hB1⟩; have HX1 := hide' (HXa.out.below hB1 HXa.out.lt); obtain ⟨c0, c1, c2, c3, c4, c5⟩ := bx6P HX1.out; have HB1 := hide' (bstep HBa.out hB1 HBa.out.size); clear hB1)
        go_ret
        exact ⟨rfl, HB1.out⟩
end Go.Proofs.YtligjbcinahgdaaGreat
