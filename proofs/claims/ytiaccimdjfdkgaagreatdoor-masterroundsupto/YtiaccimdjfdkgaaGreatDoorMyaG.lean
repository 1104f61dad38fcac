import Derived.Test.YtiaccimdjfdkgaaGreatDoorMy8G
import Derived.Test.YtiaccimdjfdkgaaGreatDoorMx7G
import Derived.Test.YtiaccimdjfdkgaaGreatDoorRn0G
import Derived.Test.YtiaccimdjfdkgaaGreatDoorMathG
import Derived.Test.YtiaccimdjfdkgaaGreatDoorChecked
import Derived.Deep.Fields
import Derived.ChangeSlices
import Derived.Test.YtiaccimdjfdkgaaGreatDoorWkG
import Derived.Test.YtiaccimdjfdkgaaGreatDoorRows
import Derived.Test.YtiaccimdjfdkgaaGreatDoorDbuG
import Derived.Test.YtiaccimdjfdkgaaGreatDoorTie
import Derived.Test.YtiaccimdjfdkgaaGreatDoorCards
import Derived.Stop.LaidErr
import Derived.Lay
import Derived.OpenShut
import Derived.ChangeSame
import Derived.Lib.LaidTab
import Derived.LaidHandle
import Derived.LaidLaws
import Derived.MakeChecks
/-
  MasterRounds's walk. (The verifier's own text.)
-/
namespace Go.Proofs.YtiaccimdjfdkgaaGreatDoor
set_option linter.unusedVariables false
set_option linter.unusedSimpArgs false
open Go.RowKit Go.Shelf Go.Proofs.YtiaccimdjfdkgaaGreatDoor.Nm

theorem rs_of_own {w : World} {base c : Nat} {p : Option Addr} {L : List Rn} (h : w.ownsRow base 54 5 (.slice p L.length c) L.length (rce5 L)) : RsAt w p L := by
  cases L with
  | nil => intro k hk; exact absurd hk (Nat.not_lt_zero _)
  | cons x L =>
    obtain ⟨g, hg⟩ := owns_some2 h (by simp)
    subst hg
    exact rs_own5M h
set_option maxRecDepth 100000 in
set_option maxHeartbeats 2000000 in
theorem smallRecs_any (w : World) : Calls Tryz.prog 8 #[] w fun e w' => ∃ g, e = .returned (.slice (some ⟨g, 0, none⟩) 1 1) ∧ RsAt w' (some ⟨g, 0, none⟩) [smX] ∧ Below w.heap.size w w' := by
  have H : Hid (RsAt (w.alloc (.cells #[.string ⟨#[2, 101, 120, 0]⟩, .int .i64 1, .int .i64 1, .int .i64 3600, .string ⟨#[10, 0, 0, 1]⟩] 54)) (some ⟨w.heap.size, 0, none⟩) [smX]) := by
    have hb : Bx (w.alloc (.cells #[.string ⟨#[2, 101, 120, 0]⟩, .int .i64 1, .int .i64 1, .int .i64 3600, .string ⟨#[10, 0, 0, 1]⟩] 54)) w.heap.size #[.string ⟨#[2, 101, 120, 0]⟩, .int .i64 1, .int .i64 1, .int .i64 3600, .string ⟨#[10, 0, 0, 1]⟩] 54 := World.alloc_heap_new w _
    intro k hk
    obtain rfl : k = 0 := by simpa using hk
    exact ⟨w.heap.size, 0, rfl, hb.lt, hb.cell rfl, hb.cell rfl, hb.cell rfl, hb.cell rfl, hb.cell rfl⟩
  have HB : Hid (Below w.heap.size w (w.alloc (.cells #[.string ⟨#[2, 101, 120, 0]⟩, .int .i64 1, .int .i64 1, .int .i64 3600, .string ⟨#[10, 0, 0, 1]⟩] 54))) := (Below.refl _ w).alloc (Nat.le_refl _) _
  go_enter Tryz.func8, Tryz.ntmps8
  go_wp2_with fail
  go_ret
  exact ⟨_, rfl, H.out, HB.out⟩
/-- master.Parse of an empty text, at whatever origin -/
theorem parse_empty (other : ByteArray) (w : World) (hmo : other.size ≤ maxLen) (hG : GM w) (hE : GE w) :
    Calls Tryz.prog 6 #[.string ⟨#[]⟩, .string other, .slice none 0 0] w fun e w' => (∃ p c, e = .returned (.tuple #[.slice p 0 c, .agg #[.int .i64 (if isN other = true then 0 else 1), .string ⟨#[]⟩, .int .i64 0]])) ∧ Below w.heap.size w w' := by
  cases ho : isN other with
  | true =>
    refine (parse_none other none 0 0 w ho hG).mono ?_
    rintro e w' ⟨p, c, h1, h2⟩
    exact ⟨⟨p, c, by simpa using h1⟩, h2⟩
  | false =>
    refine (parse_bad ⟨#[]⟩ other none 0 0 w ho hmo hE).mono ?_
    rintro e w' ⟨h1, h2⟩
    exact ⟨⟨none, 0, by simpa using h1⟩, h2⟩
set_option maxRecDepth 100000 in
set_option maxHeartbeats 4000000 in
/-- the law, where Print tells an error -/
theorem rounds_no (n c : Nat) (p : Option Addr) (o other : ByteArray) (fp : Option Addr) (fl fc : Nat) (w : World) (hG : GM w)
    (hP : ∀ V, Below w.heap.size w V → Calls Tryz.prog 9 #[.slice p n c, .string o] V fun e w' => (∃ E : Int, E ≠ 0 ∧ e = .returned (.tuple #[.string ⟨#[]⟩, .int .i64 E])) ∧ Below V.heap.size V w') :
    Calls Tryz.prog 3 #[.slice p n c, .string o, .string other, .slice fp fl fc] w fun e w' => e = .returned (.bool true) ∧ Below w.heap.size w w' := by
  have HP := hide' hP
  have HPS := hide' (parse_small none 0 0 w hG)
  have HSR := hide' (fun V => smallRecs_any V)
  have FT1 : Hid True := trivial
  have FT4 : Hid True := trivial
  clear hG hP
  go_enter Tryz.func3, Tryz.ntmps3
  go_wp2_with (first
    | (have _ := FT1; clear FT1; go_at_call 6; refine HPS.out.mono ?_; rintro e1 w1 ⟨p1, c1, rfl, ho1, hB1⟩; have HO1 := hide' ho1; have HB1 := hide' hB1; clear ho1 hB1)
    | (go_at_call 8; refine (HSR.out _).mono ?_; rintro e2 w2 ⟨g, rfl, hr2, hB2⟩; have HR2 := hide' hr2; have HX2 := hide' (rsAt_below7 (rs_of_own HO1.out) (bstep ((Below.refl _ w1).alloc (Nat.le_refl _) _) hB2 (by simp))); have HF2 := hide' (Bx.below (World.alloc_heap_new w1 (.cells #[.int .i64 0, .string ⟨#[]⟩, .int .i64 0] 26) : Bx _ w1.heap.size _ _) hB2 (by simp)); have HB2 := hide' (bstep (HB1.out.alloc HB1.out.size _) hB2 (HB1.out.alloc HB1.out.size _).size); clear hr2 hB2)
    | (have _ := FT4; clear FT4; go_at_call 7; refine (sameRecordsM p1 (some ⟨g, 0, none⟩) 1 c1 1 [smX] w2 HX2.out HR2.out rfl (by decide)).mono ?_; rintro e3 w3 ⟨rfl, m, hw3⟩; have HB3 : Hid (Below w.heap.size w w3) := hw3 ▸ below_drewN HB2.out m; have HF3 : Hid (Bx w3 w1.heap.size #[.int .i64 0, .string ⟨#[]⟩, .int .i64 0] 26) := hw3 ▸ HF2.out; clear hw3)
    | (go_at_call 9; refine (HP.out w3 HB3.out).mono ?_; rintro e4 w4 ⟨⟨E, hE, rfl⟩, hB4⟩; have HB4 := hide' (bstep HB3.out hB4 HB3.out.size); clear hB4))
  all_goals go_ret
  all_goals exact ⟨rfl, HB4.out⟩
set_option maxRecDepth 100000 in
set_option maxHeartbeats 4000000 in
/-- the law, where Print tells a file -/
theorem rounds_yes (c : Nat) (p : Option Addr) (R : List Rn) (T o other oX : ByteArray) (kc : Int) (fp : Option Addr) (fl fc : Nat) (w : World) (hG : GM w) (hat : RsAt w p R) (hR : R.length ≤ 4294967296)
    (hk : kc = 0 ∧ oX = other ∨ kc = 1 ∧ oX = ⟨#[0]⟩)
    (hP : ∀ V, Below w.heap.size w V → Calls Tryz.prog 9 #[.slice p R.length c, .string o] V fun e w' => e = .returned (.tuple #[.string T, .int .i64 0]) ∧ Below V.heap.size V w')
    (hPE : ∀ V, Below w.heap.size w V → Calls Tryz.prog 6 #[.string ⟨#[]⟩, .string other, .slice none 0 0] V fun e w' => (∃ p c, e = .returned (.tuple #[.slice p 0 c, .agg #[.int .i64 kc, .string ⟨#[]⟩, .int .i64 0]])) ∧ Below V.heap.size V w')
    (hPT : ∀ V, Below w.heap.size w V → Calls Tryz.prog 6 #[.string T, .string oX, .slice fp fl fc] V fun e w' => ∃ p c, e = .returned (.tuple #[.slice p R.length c, .agg #[.int .i64 0, .string ⟨#[]⟩, .int .i64 0]]) ∧ w'.ownsRow V.heap.size 54 5 (.slice p R.length c) R.length (rce5 R) ∧ Below V.heap.size V w') :
    Calls Tryz.prog 3 #[.slice p R.length c, .string o, .string other, .slice fp fl fc] w fun e w' => e = .returned (.bool true) ∧ Below w.heap.size w w' := by
  have HP := hide' hP
  have HPE := hide' hPE
  have HPT := hide' hPT
  have HAT := hide' hat
  have HPS := hide' (parse_small none 0 0 w hG)
  have HSR := hide' (fun V => smallRecs_any V)
  have FT1 : Hid True := trivial
  have FT2 : Hid True := trivial
  have FT4 : Hid True := trivial
  obtain ⟨n, hn⟩ : ∃ n, R.length = n := ⟨_, rfl⟩
  have HN := hide' hn
  rw [hn] at HP HPT hR ⊢
  clear hG hP hPE hPT hat hn
  rcases hk with ⟨rfl, rfl⟩ | ⟨rfl, rfl⟩
  all_goals
    go_enter Tryz.func3, Tryz.ntmps3
    go_upto_region 7 with (first
    | (have _ := FT1; clear FT1; go_at_call 6; refine HPS.out.mono ?_; rintro e1 w1 ⟨p1, c1, rfl, ho1, hB1⟩; have HO1 := hide' ho1; have HB1 := hide' hB1; clear ho1 hB1)
    | (go_at_call 8; refine (HSR.out _).mono ?_; rintro e2 w2 ⟨g, rfl, hr2, hB2⟩; have HR2 := hide' hr2; have HX2 := hide' (rsAt_below7 (rs_of_own HO1.out) (bstep ((Below.refl _ w1).alloc (Nat.le_refl _) _) hB2 (by simp))); have HF2 := hide' (Bx.below (World.alloc_heap_new w1 (.cells #[.int .i64 0, .string ⟨#[]⟩, .int .i64 0] 26) : Bx _ w1.heap.size _ _) hB2 (by simp)); have HB2 := hide' (bstep (HB1.out.alloc HB1.out.size _) hB2 (HB1.out.alloc HB1.out.size _).size); clear hr2 hB2)
    | (have _ := FT4; clear FT4; go_at_call 7; refine (sameRecordsM p1 (some ⟨g, 0, none⟩) 1 c1 1 [smX] w2 HX2.out HR2.out rfl (by decide)).mono ?_; rintro e3 w3 ⟨rfl, m, hw3⟩; have HB3 : Hid (Below w.heap.size w w3) := hw3 ▸ below_drewN HB2.out m; have HF3 : Hid (Bx w3 w1.heap.size #[.int .i64 0, .string ⟨#[]⟩, .int .i64 0] 26) := hw3 ▸ HF2.out; clear hw3)
    | (go_at_call 9; refine (HP.out w3 HB3.out).mono ?_; rintro e4 w4 ⟨rfl, hB4⟩; have HF4 := hide' (Bx.below HF3.out hB4 HF3.out.lt); have HB4 := hide' (bstep HB3.out hB4 HB3.out.size); clear hB4))
  · go_wp2_with (first
      | (have _ := FT2; clear FT2; go_at_call 6; refine (HPE.out w4 HB4.out).mono ?_; rintro e5 w5 ⟨⟨p5, c5, rfl⟩, hB5⟩; have hF5 := Bx.below HF4.out hB5 HF4.out.lt; have q0 : w5.cell? ⟨w1.heap.size, 0, none⟩ = some (.int .i64 0) := hF5.cell rfl; have q1 : w5.cell? ⟨w1.heap.size, 1, none⟩ = some (.string ⟨#[]⟩) := hF5.cell rfl; have q2 : w5.cell? ⟨w1.heap.size, 2, none⟩ = some (.int .i64 0) := hF5.cell rfl; have z0 := hF5.free 0; have z1 := hF5.free 1; have z2 := hF5.free 2; obtain ⟨y0, y1, y2⟩ := three_set q0 q1 q2 (.int .i64 0) (.string ⟨#[]⟩) (.int .i64 0); have HX5 : Hid (Bx (((w5.setCell ⟨w1.heap.size, 0, none⟩ (.int .i64 0)).setCell ⟨w1.heap.size, 1, none⟩ (.string ⟨#[]⟩)).setCell ⟨w1.heap.size, 2, none⟩ (.int .i64 0)) w1.heap.size #[.int .i64 0, .string ⟨#[]⟩, .int .i64 0] 26) := ((hF5.set 0 (.int .i64 0)).set 1 (.string ⟨#[]⟩)).set 2 (.int .i64 0); have HB5 : Hid (Below w.heap.size w (((w5.setCell ⟨w1.heap.size, 0, none⟩ (.int .i64 0)).setCell ⟨w1.heap.size, 1, none⟩ (.string ⟨#[]⟩)).setCell ⟨w1.heap.size, 2, none⟩ (.int .i64 0))) := below_far (below_far (below_far (bstep HB4.out hB5 HB4.out.size) HB1.out.size _ _) HB1.out.size _ _) HB1.out.size _ _; clear hF5 hB5)
      | (go_at_call 6; refine (HPT.out _ HB5.out).mono ?_; rintro e6 w6 ⟨p6, c6, rfl, ho6, hB6⟩; have hF6 := Bx.below HX5.out hB6 HX5.out.lt; have x0 : w6.cell? ⟨w1.heap.size, 0, none⟩ = some (.int .i64 0) := hF6.cell rfl; have x1 : w6.cell? ⟨w1.heap.size, 1, none⟩ = some (.string ⟨#[]⟩) := hF6.cell rfl; have x2 : w6.cell? ⟨w1.heap.size, 2, none⟩ = some (.int .i64 0) := hF6.cell rfl; have v0 := hF6.free 0; have v1 := hF6.free 1; have v2 := hF6.free 2; obtain ⟨u0, u1, u2⟩ := three_set x0 x1 x2 (.int .i64 0) (.string ⟨#[]⟩) (.int .i64 0); have HB6 : Hid (Below w.heap.size w (((w6.setCell ⟨w1.heap.size, 0, none⟩ (.int .i64 0)).setCell ⟨w1.heap.size, 1, none⟩ (.string ⟨#[]⟩)).setCell ⟨w1.heap.size, 2, none⟩ (.int .i64 0))) := below_far (below_far (below_far (bstep HB5.out hB6 HB5.out.size) HB1.out.size _ _) HB1.out.size _ _) HB1.out.size _ _; have HR6 : Hid (RsAt (((w6.setCell ⟨w1.heap.size, 0, none⟩ (.int .i64 0)).setCell ⟨w1.heap.size, 1, none⟩ (.string ⟨#[]⟩)).setCell ⟨w1.heap.size, 2, none⟩ (.int .i64 0)) p6 R) := (by have h := owns_far3 ho6 HX5.out.lt (.int .i64 0) (.string ⟨#[]⟩) (.int .i64 0); rw [← HN.out] at h; exact rs_of_own h); have HRY : Hid (RsAt (((w6.setCell ⟨w1.heap.size, 0, none⟩ (.int .i64 0)).setCell ⟨w1.heap.size, 1, none⟩ (.string ⟨#[]⟩)).setCell ⟨w1.heap.size, 2, none⟩ (.int .i64 0)) p R) := rsAt_below7 HAT.out HB6.out; clear hF6 hB6 ho6)
      | (go_at_call 7; refine (sameRecordsM p6 p n c6 c R _ HR6.out HRY.out HN.out.symm hR).mono ?_; rintro e7 w7 ⟨rfl, m7, hw7⟩; have HB7 : Hid (Below w.heap.size w w7) := hw7 ▸ below_drewN HB6.out m7; clear hw7))
    all_goals go_ret
    all_goals exact ⟨rfl, HB7.out⟩
  · go_wp2_with (first
      | (have _ := FT2; clear FT2; go_at_call 6; refine (HPE.out w4 HB4.out).mono ?_; rintro e5 w5 ⟨⟨p5, c5, rfl⟩, hB5⟩; have hF5 := Bx.below HF4.out hB5 HF4.out.lt; have q0 : w5.cell? ⟨w1.heap.size, 0, none⟩ = some (.int .i64 0) := hF5.cell rfl; have q1 : w5.cell? ⟨w1.heap.size, 1, none⟩ = some (.string ⟨#[]⟩) := hF5.cell rfl; have q2 : w5.cell? ⟨w1.heap.size, 2, none⟩ = some (.int .i64 0) := hF5.cell rfl; have z0 := hF5.free 0; have z1 := hF5.free 1; have z2 := hF5.free 2; obtain ⟨y0, y1, y2⟩ := three_set q0 q1 q2 (.int .i64 1) (.string ⟨#[]⟩) (.int .i64 0); have HX5 : Hid (Bx (((w5.setCell ⟨w1.heap.size, 0, none⟩ (.int .i64 1)).setCell ⟨w1.heap.size, 1, none⟩ (.string ⟨#[]⟩)).setCell ⟨w1.heap.size, 2, none⟩ (.int .i64 0)) w1.heap.size #[.int .i64 1, .string ⟨#[]⟩, .int .i64 0] 26) := ((hF5.set 0 (.int .i64 1)).set 1 (.string ⟨#[]⟩)).set 2 (.int .i64 0); have HB5 : Hid (Below w.heap.size w (((w5.setCell ⟨w1.heap.size, 0, none⟩ (.int .i64 1)).setCell ⟨w1.heap.size, 1, none⟩ (.string ⟨#[]⟩)).setCell ⟨w1.heap.size, 2, none⟩ (.int .i64 0))) := below_far (below_far (below_far (bstep HB4.out hB5 HB4.out.size) HB1.out.size _ _) HB1.out.size _ _) HB1.out.size _ _; clear hF5 hB5)
      | (go_at_call 6; refine (HPT.out _ HB5.out).mono ?_; rintro e6 w6 ⟨p6, c6, rfl, ho6, hB6⟩; have hF6 := Bx.below HX5.out hB6 HX5.out.lt; have x0 : w6.cell? ⟨w1.heap.size, 0, none⟩ = some (.int .i64 1) := hF6.cell rfl; have x1 : w6.cell? ⟨w1.heap.size, 1, none⟩ = some (.string ⟨#[]⟩) := hF6.cell rfl; have x2 : w6.cell? ⟨w1.heap.size, 2, none⟩ = some (.int .i64 0) := hF6.cell rfl; have v0 := hF6.free 0; have v1 := hF6.free 1; have v2 := hF6.free 2; obtain ⟨u0, u1, u2⟩ := three_set x0 x1 x2 (.int .i64 0) (.string ⟨#[]⟩) (.int .i64 0); have HB6 : Hid (Below w.heap.size w (((w6.setCell ⟨w1.heap.size, 0, none⟩ (.int .i64 0)).setCell ⟨w1.heap.size, 1, none⟩ (.string ⟨#[]⟩)).setCell ⟨w1.heap.size, 2, none⟩ (.int .i64 0))) := below_far (below_far (below_far (bstep HB5.out hB6 HB5.out.size) HB1.out.size _ _) HB1.out.size _ _) HB1.out.size _ _; have HR6 : Hid (RsAt (((w6.setCell ⟨w1.heap.size, 0, none⟩ (.int .i64 0)).setCell ⟨w1.heap.size, 1, none⟩ (.string ⟨#[]⟩)).setCell ⟨w1.heap.size, 2, none⟩ (.int .i64 0)) p6 R) := (by have h := owns_far3 ho6 HX5.out.lt (.int .i64 0) (.string ⟨#[]⟩) (.int .i64 0); rw [← HN.out] at h; exact rs_of_own h); have HRY : Hid (RsAt (((w6.setCell ⟨w1.heap.size, 0, none⟩ (.int .i64 0)).setCell ⟨w1.heap.size, 1, none⟩ (.string ⟨#[]⟩)).setCell ⟨w1.heap.size, 2, none⟩ (.int .i64 0)) p R) := rsAt_below7 HAT.out HB6.out; clear hF6 hB6 ho6)
      | (go_at_call 7; refine (sameRecordsM p6 p n c6 c R _ HR6.out HRY.out HN.out.symm hR).mono ?_; rintro e7 w7 ⟨rfl, m7, hw7⟩; have HB7 : Hid (Below w.heap.size w w7) := hw7 ▸ below_drewN HB6.out m7; clear hw7))
    all_goals go_ret
    all_goals exact ⟨rfl, HB7.out⟩
theorem root_isN : isN ⟨#[0]⟩ = true := by decide +kernel
/-- MasterRounds -/
theorem masterRounds_any (R : List Rn) (p : Option Addr) (c : Nat) (o other : ByteArray) (fp : Option Addr) (fl fc : Nat) (w : World) (hG : GM w) (hE : GE w) (hat : RsAt w p R) (hc : R.length ≤ c ∧ c ≤ 9223372036854775807)
    (hmo : o.size ≤ maxLen) (hmt : other.size ≤ maxLen) (hsum : sumD R ≤ 1048576) (hsz : ∀ x ∈ R, x.o.size ≤ maxLen ∧ x.d.size ≤ 9223372036854775807) :
    Calls Tryz.prog 3 #[.slice p R.length c, .string o, .string other, .slice fp fl fc] w fun e w' => e = .returned (.bool true) ∧ Below w.heap.size w w' := by
  by_cases hno : isN o = false ∨ 2000 < R.length
  · exact rounds_no R.length c p o other fp fl fc w hG (fun V hV => print_no o p R.length c V hmo hc hno)
  · have ho : isN o = true := by
      cases h : isN o with
      | true => rfl
      | false => exact absurd (.inl h) hno
    have hl : R.length ≤ 2000 := by
      rcases Nat.lt_or_ge 2000 R.length with h | h
      · exact absurd (.inr h) hno
      · exact h
    rcases first_bad R with hR | ⟨G, y, Z, e, hGo, hbad⟩
    · have hT : (prT o R).length ≤ 1073741824 := by
        have := prT_len ho R.length R hR (Nat.le_refl _)
        rw [List.take_length] at this
        omega
      have hP : ∀ V, Below w.heap.size w V → Calls Tryz.prog 9 #[.slice p R.length c, .string o] V fun e w' => e = .returned (.tuple #[.string (bts (prT o R)), .int .i64 0]) ∧ Below V.heap.size V w' := fun V hV => print_yes R o p c V (rsAt_below7 hat hV) hl hc ho hR hsum (hG.below hV).d
      have hPE : ∀ V, Below w.heap.size w V → _ := fun V hV => parse_empty other V hmt (hG.below hV) (hE.below hV)
      cases hx : isN other with
      | true =>
        rw [hx] at hPE
        exact rounds_yes c p R (bts (prT o R)) o other other 0 fp fl fc w hG hat (by omega) (.inl ⟨rfl, rfl⟩) hP hPE (fun V hV => parse_print o other R fp fl fc V ho hx hR hl hT (hG.below hV))
      | false =>
        rw [hx] at hPE
        exact rounds_yes c p R (bts (prT o R)) o other ⟨#[0]⟩ 1 fp fl fc w hG hat (by omega) (.inr ⟨rfl, rfl⟩) hP hPE (fun V hV => parse_print o ⟨#[0]⟩ R fp fl fc V ho root_isN hR hl hT (hG.below hV))
    · have hs : sumD G ≤ 1048576 := by
        have : sumD R = sumD G + sumD (y :: Z) := by rw [e]; simp [sumD]
        omega
      have hy : y ∈ R := by rw [e]; simp
      exact rounds_no R.length c p o other fp fl fc w hG (fun V hV => (print_bad G y Z o p R.length c V (by rw [e]) (by rw [← e]; exact rsAt_below7 hat hV) hl hc ho hGo hbad (hsz y hy) hs (hG.below hV).d).mono fun e' w' ⟨h1, h2⟩ => ⟨⟨8, by decide, h1⟩, h2⟩)
end Go.Proofs.YtiaccimdjfdkgaaGreatDoor

namespace Go.Proofs.YtiaccimdjfdkgaaGreatDoor
set_option linter.unusedVariables false
open Go.ChangeShapes Go.WideShapes Go.Deep

section
variable {H : Type} {enc : TypeId × Value → H} {P : Program} {w : World} {base : Nat} {spare : Nat → Bool} {held : Bool}

/-- a struct of one-cell fields that comes in by value -/
theorem agg_open {t : TypeId} {fs : Array Field} {r : Reach} {b0 : Nat} {v : Value} {d : DataW H} {p : List MemPlace} (hs : P.underlying t = some (.struct fs)) (hone : oneCellFields P fs = true) (hC : P.cellsOf t = fs.size)
    (hv : Value.okWide P w r b0 t v) (h : DataW.Trod enc P w base spare held t v d p) :
    ∃ (cs : Array Value) (n : Nat), v = .agg cs ∧ cs.size = fs.size ∧ ∀ (i : Nat) (f : Field), fs[i]? = some f → ∃ y, DataW.trod enc P w base spare held n f.type [cs.toList.getD i undef] = some y := by
  obtain ⟨cs, rfl, hsz⟩ := okWide_struct hs hv
  obtain ⟨fuel, hf⟩ := h
  obtain ⟨xs, n, _, _, _, hlen, hf'⟩ := DataW.trod_struct hs hf
  refine ⟨cs, n, rfl, hsz.trans hC, fun i f hi => ?_⟩
  have hlt : i < fs.size := (Array.getElem?_eq_some_iff.1 hi).1
  obtain ⟨ho, hc1⟩ := hone_of hone i f hi
  have g := hf' i f hi
  rw [ho, hc1] at g
  simp only [Value.cells] at g
  rw [take1_drop _ i undef (by rw [Array.length_toList]; omega)] at g
  exact ⟨xs[i]'(by omega), by rw [g, List.getElem?_eq_getElem (by omega)]⟩

end
theorem struct_of {t : TypeId} {k : Nat} {ts : List TypeId} (h : (Tryz.prog.underlying t).bind (fun u => match u with | .struct fs => some (oneCellFields Tryz.prog fs && decide (Tryz.prog.cellsOf t = fs.size) && decide (fs.size = k) && (fs.toList.map (·.type) == ts)) | _ => none) = some true) :
    ∃ fs : Array Field, Tryz.prog.underlying t = some (.struct fs) ∧ oneCellFields Tryz.prog fs = true ∧ Tryz.prog.cellsOf t = fs.size ∧ fs.size = k ∧ ∀ j, j < k → ∃ f, fs[j]? = some f ∧ ts[j]? = some f.type := by
  obtain ⟨u, hu, h⟩ := Option.bind_eq_some_iff.1 h
  split at h
  · rename_i fs
    simp only [Option.some.injEq, Bool.and_eq_true, decide_eq_true_eq, beq_iff_eq] at h
    refine ⟨fs, hu, h.1.1.1, h.1.1.2, h.1.2, fun j hj => ?_⟩
    have hj' : j < fs.size := by omega
    refine ⟨fs[j], by simp [hj'], ?_⟩
    rw [← h.2]
    simp [hj']
  · cases h

end Go.Proofs.YtiaccimdjfdkgaaGreatDoor

/-
  Records and questions that come in, and how much they hold. (The verifier's own text.)
-/
namespace Go.Proofs.YtiaccimdjfdkgaaGreatDoor.Frm
set_option linter.unusedVariables false
set_option linter.unusedSimpArgs false
open Go.RowKit Go.Shelf Go.Maps Go.Proofs.YtiaccimdjfdkgaaGreatDoor.Nm
open Go.ChangeShapes Go.WideShapes Go.Deep

theorem bulk_pos {H : Type} (d : DataW H) : 1 ≤ Rows.uptoBulk d := by
  cases d with
  | lit l => cases l <;> simp [Rows.uptoBulk]
  | _ => simp [Rows.uptoBulk]
theorem bulk_len {H : Type} : ∀ l : List (DataW H), l.length ≤ Rows.uptoBulkAll l
  | [] => by simp [Rows.uptoBulkAll]
  | d :: l => by
    have := bulk_len l
    have := bulk_pos d
    simp only [Rows.uptoBulkAll, List.length_cons]
    omega
theorem bulk_sum {H : Type} : ∀ l : List (DataW H), Rows.uptoBulkAll l = (l.map Rows.uptoBulk).sum
  | [] => rfl
  | d :: l => by
    have h := bulk_sum l
    simp only [Rows.uptoBulkAll, List.map_cons, List.sum_cons]
    omega
theorem oneR : (Tryz.prog.underlying 54).bind (fun t => match t with | .struct fs => some (oneCellFields Tryz.prog fs && decide (Tryz.prog.cellsOf 54 = fs.size) && decide (fs.size = 5) && (fs.toList.map (·.type) == [9, 3, 3, 3, 9])) | _ => none) = some true := by kernel_rfl
section
variable {H : Type} {enc : TypeId × Value → H} {P : Program} {w : World} {base : Nat} {spare : Nat → Bool} {held : Bool}

/-- a slice of such structs -/
theorem rows_openS {t e : TypeId} {fs : Array Field} {fuel : Nat} {v : Value} {x : DataW H × List MemPlace} (ht : P.underlying t = some (.slice e)) (he : P.underlying e = some (.struct fs)) (hone : oneCellFields P fs = true) (hC : P.cellsOf e = fs.size) (hpos : 0 < fs.size)
    (h : DataW.trod enc P w base spare held fuel t [v] = some x) :
    ∃ (a : Option Addr) (len cap : Nat) (D : Nat → DataW H), v = .slice a len cap ∧ (a = none → cap = 0) ∧ len ≤ Rows.uptoBulk x.1 ∧ (0 < len → Rows.uptoBulkAll ((List.range len).map D) + 1 ≤ Rows.uptoBulk x.1) ∧ ∀ i, i < len → ∃ b o n, ∃ xs : List (DataW H × List MemPlace), a = some ⟨b, o, none⟩ ∧ b < w.heap.size ∧ D i = .agg (xs.map (·.1)) ∧ xs.length = fs.size ∧ ∀ (j : Nat) (f : Field), fs[j]? = some f → ∃ V y, w.cell? ⟨b, o + i * fs.size + j, none⟩ = some V ∧ DataW.trod enc P w base spare held n f.type [V] = some y ∧ xs[j]? = some y := by
  rcases open_slice ht h with ⟨hv, _⟩ | ⟨a, len, cap, m, n, D, Pl, hv, hb, hl, hm, hmm, hx, hel⟩
  · obtain rfl : v = .slice none 0 0 := by simpa using hv
    exact ⟨none, 0, 0, fun _ => .nil, rfl, fun _ => rfl, Nat.zero_le _, fun h => absurd h (Nat.lt_irrefl _), fun i hi => absurd hi (Nat.not_lt_zero _)⟩
  · obtain rfl : v = .slice (some a) len cap := by simpa using hv
    have hlb : len ≤ Rows.uptoBulk x.1 := by
      rw [hx]
      have := bulk_len ((List.range len).map D)
      simp only [List.length_map, List.length_range] at this
      simp only [Rows.uptoBulk]
      omega
    have hsum : Rows.uptoBulkAll ((List.range len).map D) + 1 ≤ Rows.uptoBulk x.1 := by
      rw [hx]
      simp only [Rows.uptoBulk]
      omega
    refine ⟨some a, len, cap, D, rfl, (fun e => by cases e), hlb, fun _ => hsum, fun i hi => ?_⟩
    obtain ⟨b, o, spot⟩ := a
    have hspot : spot = none := by
      obtain ⟨cs0, hcs0, _⟩ := hel 0 (by rw [hmm]; split <;> omega)
      rw [hC] at hcs0
      obtain ⟨_, hlen0, hcell0⟩ := World.cells?_some hcs0
      have h0 := hcell0 0 hpos
      rw [List.getElem?_eq_getElem (by omega)] at h0
      have := World.cell?_spot h0
      simpa [Addr.add] using this
    obtain ⟨cs', hcs, htr⟩ := hel i (by rw [hmm]; split <;> omega)
    rw [hC] at hcs
    obtain ⟨_, hlen, hcell⟩ := World.cells?_some hcs
    obtain ⟨xs, k, _, hxe, _, hxl, hf⟩ := DataW.trod_struct he htr
    have h0 := hcell 0 hpos
    rw [List.getElem?_eq_getElem (by omega)] at h0
    subst hspot
    have ha : ∀ j, ((⟨b, o, none⟩ : Addr).add (i * fs.size)).add j = ⟨b, o + i * fs.size + j, none⟩ := fun j => by rw [add_add, addr_add, Nat.add_assoc]
    refine ⟨b, o, k, xs, rfl, ?_, congrArg Prod.fst hxe, hxl, fun j f hj => ?_⟩
    · rw [ha] at h0
      unfold World.cell? at h0
      split at h0
      · rename_i hh
        exact (Array.getElem?_eq_some_iff.1 hh).1
      · cases h0
    · have hlt : j < fs.size := (Array.getElem?_eq_some_iff.1 hj).1
      obtain ⟨ho, hc1⟩ := hone_of hone j f hj
      have g := hf j f hj
      rw [ho, hc1, take1_drop _ j undef (by omega)] at g
      have hc := hcell j hlt
      rw [ha, List.getElem?_eq_getElem (by omega)] at hc
      refine ⟨cs'.getD j undef, xs[j]'(by omega), ?_, by rw [g, List.getElem?_eq_getElem (by omega)], List.getElem?_eq_getElem (by omega)⟩
      rw [hc, List.getD_eq_getElem?_getD, List.getElem?_eq_getElem (by omega)]; rfl
end
theorem bulk_mem {H : Type} : ∀ (l : List (DataW H)) (d : DataW H), d ∈ l → Rows.uptoBulk d ≤ Rows.uptoBulkAll l
  | [], d, h => by cases h
  | e :: l, d, h => by
    simp only [Rows.uptoBulkAll]
    rcases List.mem_cons.1 h with rfl | h
    · omega
    · have := bulk_mem l d h
      omega

theorem sum_le2 (f g : Nat → Nat) : ∀ l : List Nat, (∀ i ∈ l, f i ≤ g i) → (l.map f).sum ≤ (l.map g).sum
  | [], _ => Nat.le_refl _
  | x :: l, h => by
    have h1 := h x List.mem_cons_self
    have h2 := sum_le2 f g l fun i hi => h i (List.mem_cons_of_mem _ hi)
    simp only [List.map_cons, List.sum_cons]
    omega
section
variable {H : Type} {enc : TypeId × Value → H} {w : World} {base : Nat} {spare : Nat → Bool} {held : Bool}
theorem rs_openM {fuel : Nat} {v : Value} {x : DataW H × List MemPlace} (h : DataW.trod enc Tryz.prog w base spare held fuel 22 [v] = some x) :
    ∃ (a : Option Addr) (cap : Nat) (L : List Rn), v = .slice a L.length cap ∧ (a = none → cap = 0) ∧ RsAt w a L ∧ (∀ q ∈ L, q.o.size ≤ maxLen ∧ q.d.size ≤ maxLen) ∧ L.length ≤ Rows.uptoBulk x.1 ∧ (L.map fun x => x.d.size).sum ≤ Rows.uptoBulk x.1 := by
  obtain ⟨fs, hs, hone, hC, h3, hty⟩ := struct_of oneR
  obtain ⟨a, len, cap, D, rfl, hn, hlb, hsum, hel⟩ := rows_openS Tryz.underlying22 hs hone hC (by omega) h
  haveI : Inhabited Rn := ⟨⟨.empty, 0, 0, 0, .empty⟩⟩
  obtain ⟨F, hF⟩ := choose_lt (α := Rn) (n := len) (p := fun i q => ∃ b o, a = some ⟨b, o, none⟩ ∧ b < w.heap.size ∧ w.cell? ⟨b, o + i * 5, none⟩ = some (.string q.o) ∧ w.cell? ⟨b, o + i * 5 + 1, none⟩ = some (.int .i64 q.t) ∧ w.cell? ⟨b, o + i * 5 + 2, none⟩ = some (.int .i64 q.c) ∧ w.cell? ⟨b, o + i * 5 + 3, none⟩ = some (.int .i64 q.l) ∧ w.cell? ⟨b, o + i * 5 + 4, none⟩ = some (.string q.d) ∧ q.o.size ≤ maxLen ∧ q.d.size ≤ maxLen ∧ q.o.size + q.d.size + 6 ≤ Rows.uptoBulk (D i)) (fun i hi => by
    obtain ⟨b, o, n, xs, ha, hb, hDi, hxs, hf⟩ := hel i hi
    rw [h3] at hf hxs
    obtain ⟨f0, g0, t0⟩ := hty 0 (by omega)
    obtain ⟨f1, g1, t1⟩ := hty 1 (by omega)
    obtain ⟨f2, g2, t2⟩ := hty 2 (by omega)
    obtain ⟨f3, g3, t3⟩ := hty 3 (by omega)
    obtain ⟨f4, g4, t4⟩ := hty 4 (by omega)
    obtain ⟨V0, y0, c0, r0, k0⟩ := hf 0 f0 g0
    rw [← Option.some.inj t0] at r0
    obtain ⟨V1, y1, c1, r1, k1⟩ := hf 1 f1 g1
    rw [← Option.some.inj t1] at r1
    obtain ⟨V2, y2, c2, r2, k2⟩ := hf 2 f2 g2
    rw [← Option.some.inj t2] at r2
    obtain ⟨V3, y3, c3, r3, k3⟩ := hf 3 f3 g3
    rw [← Option.some.inj t3] at r3
    obtain ⟨V4, y4, c4, r4, k4⟩ := hf 4 f4 g4
    rw [← Option.some.inj t4] at r4
    obtain ⟨s0, e0, hy0, z0⟩ := DataW.trod_string Tryz.underlying9 r0
    obtain rfl : V0 = .string s0 := by simpa using e0
    obtain ⟨n1, e1, hy1, _⟩ := DataW.trod_int Tryz.underlying3 r1
    obtain rfl : V1 = .int .i64 n1 := by simpa using e1
    obtain ⟨n2, e2, hy2, _⟩ := DataW.trod_int Tryz.underlying3 r2
    obtain rfl : V2 = .int .i64 n2 := by simpa using e2
    obtain ⟨n3, e3, hy3, _⟩ := DataW.trod_int Tryz.underlying3 r3
    obtain rfl : V3 = .int .i64 n3 := by simpa using e3
    obtain ⟨s4, e4, hy4, z4⟩ := DataW.trod_string Tryz.underlying9 r4
    obtain rfl : V4 = .string s4 := by simpa using e4
    have kk : s0.size + s4.size + 6 ≤ Rows.uptoBulk (D i) := by
      obtain ⟨l0, l1, l2, l3, l4, rfl⟩ : ∃ l0 l1 l2 l3 l4, xs = [l0, l1, l2, l3, l4] := by
        match xs, hxs with
        | [l0, l1, l2, l3, l4], _ => exact ⟨l0, l1, l2, l3, l4, rfl⟩
      simp only [List.getElem?_cons_zero, List.getElem?_cons_succ, Option.some.injEq] at k0 k1 k2 k3 k4
      subst k0
      subst k1
      subst k2
      subst k3
      subst k4
      rw [hDi, hy0, hy1, hy2, hy3, hy4]
      simp only [List.map_cons, List.map_nil, Rows.uptoBulk, Rows.uptoBulkAll, Array.length_toList]
      have q0 : s0.data.size = s0.size := rfl
      have q4 : s4.data.size = s4.size := rfl
      omega
    exact ⟨⟨s0, n1, n2, n3, s4⟩, b, o, ha, hb, c0, c1, c2, c3, c4, z0, z4, kk⟩)
  refine ⟨a, cap, (List.range len).map F, by simp, hn, fun k hk => ?_, fun q hq => ?_, by simpa using hlb, ?_⟩
  · have hk' : k < len := by simpa using hk
    obtain ⟨b, o, ha, hb, c0, c1, c2, c3, c4, _⟩ := hF k hk'
    exact ⟨b, o, ha, hb, by simpa using c0, by simpa using c1, by simpa using c2, by simpa using c3, by simpa using c4⟩
  · obtain ⟨i, hi, rfl⟩ := List.mem_map.1 hq
    obtain ⟨_, _, _, _, _, _, _, _, _, z0, z4, _⟩ := hF i (List.mem_range.1 hi)
    exact ⟨z0, z4⟩
  · rw [List.map_map]
    rcases Nat.eq_zero_or_pos len with h0 | h0
    · subst h0
      simp
    · have h1 := hsum h0
      rw [bulk_sum, List.map_map] at h1
      refine Nat.le_trans (sum_le2 _ _ _ fun i hi => ?_) (Nat.le_trans (Nat.le_succ _) h1)
      obtain ⟨_, _, _, _, _, _, _, _, _, _, _, z⟩ := hF i (List.mem_range.1 hi)
      simp only [Function.comp]
      omega
end
end Go.Proofs.YtiaccimdjfdkgaaGreatDoor.Frm

namespace Go.Proofs.YtiaccimdjfdkgaaGreatDoor
set_option linter.unusedVariables false
open Go.RowKit Go.Shelf Go.ChangeShapes Go.Proofs.YtiaccimdjfdkgaaGreatDoor.Nm

theorem gES : Tryz.prog.globalNamed "strconv.ErrSyntax" = some 7 := by kernel_rfl
theorem gESType : (Tryz.prog.globals[7]?).map (·.type) = some 51 := by kernel_rfl
theorem gER : Tryz.prog.globalNamed "strconv.ErrRange" = some 8 := by kernel_rfl
theorem gERType : (Tryz.prog.globals[8]?).map (·.type) = some 51 := by kernel_rfl
theorem gTW : Tryz.prog.globalNamed "gazetteer/data.typeWords" = some 0 := by kernel_rfl
theorem gTWType : (Tryz.prog.globals[0]?).map (·.type) = some 102 := by kernel_rfl
theorem gPowType : (Tryz.prog.globals[3]?).map (·.type) = some 224 := by kernel_rfl
theorem cellsES : Tryz.prog.cellsOf 262 = 1 := by kernel_rfl
theorem cellsStr : Tryz.prog.cellsOf 9 = 1 := by kernel_rfl
theorem cellsInt1 : Tryz.prog.cellsOf 3 = 1 := by kernel_rfl
theorem cellsRow : Tryz.prog.cellsOf 101 = 2 := by kernel_rfl
theorem cellsArr : Tryz.prog.cellsOf 102 = 46 := by kernel_rfl
theorem starES : "*" ++ "errors.errorString" = "*errors.errorString" := by decide
/-- the one type of that name -/
theorem rowES (u : TypeId) (h : Tryz.prog.typeName? 3 u = some "*errors.errorString") : u = 260 :=
  typeName_ptr_named (nm := "errors.errorString") (by rw [starES]; kernel_rfl) (by kernel_rfl) (by decide) u (by rw [starES]; exact h)

/-- a row of the table, as it reads -/
def rowD (r : Nat × ByteArray) : DataW Unit := .agg [.lit (.int .i64 (r.1 : Int)), .lit (.string r.2.data.toList)]
theorem tw_datum : Rows.laid_gazetteer_data_typeWords (H := Unit) = .agg (tw.map rowD) := rfl
/-- a table that reads so holds just these cells -/
theorem tw_cells {W : World} {fuel : Nat} {cs : List Value} {p : List MemPlace} (h : DataW.trod (fun _ => ()) Tryz.prog W 0 (fun _ => true) false fuel 102 cs = some (.agg (tw.map rowD), p)) : cs = twV := by
  obtain ⟨xs, m, rfl, hx, hl, hxl, hf⟩ := DataW.trod_array Tryz.underlying102 h
  rw [cellsArr] at hl
  rw [cellsRow] at hf
  have hx1 : tw.map rowD = xs.map (·.1) := by
    have := congrArg Prod.fst hx
    simpa using this
  have key : ∀ i, (hi : i < 23) → cs[i * 2]? = some (.int .i64 ((tw[i]'(by rw [tw_len]; exact hi)).1 : Int)) ∧ cs[i * 2 + 1]? = some (.string (tw[i]'(by rw [tw_len]; exact hi)).2) := fun i hi => by
    have hit : i < tw.length := by rw [tw_len]; exact hi
    have h1 := hf i hi
    have hxi : i < xs.length := by omega
    rw [List.getElem?_eq_getElem hxi] at h1
    have h2 : rowD tw[i] = (xs[i]).1 := by
      have := congrArg (·[i]?) hx1
      simpa [hit, hxi] using this
    obtain ⟨y0, y1, n, hy, _, h3, h4⟩ := trod_struct2 Tryz.underlying101 h1
    obtain ⟨z, hz, rfl, _⟩ := DataW.trod_int Tryz.underlying3 h3
    obtain ⟨s, hs, rfl, _⟩ := DataW.trod_string Tryz.underlying9 h4
    rw [hy] at h2
    simp only [rowD, DataW.agg.injEq, List.cons.injEq, DataW.lit.injEq, Lit.int.injEq, Lit.string.injEq, true_and, and_true] at h2
    obtain ⟨h5, h6⟩ := h2
    have h7 : tw[i].2 = s := by apply ByteArray.ext; apply Array.toList_inj.1; exact h6
    constructor
    · have := congrArg (·[0]?) hz
      rw [h5]
      simpa [cellsInt1, List.getElem?_take, List.getElem?_drop] using this
    · have := congrArg (·[0]?) hs
      rw [h7]
      simpa [cellsStr, List.getElem?_take, List.getElem?_drop] using this
  have hlt : twV.length = 46 := rfl
  apply List.ext_getElem?
  intro j
  by_cases hj : j < 46
  · obtain ⟨k1, k2⟩ := key (j / 2) (by omega)
    obtain ⟨g1, g2⟩ := tw_get tw (j / 2) (by rw [tw_len]; omega)
    rcases (show j = j / 2 * 2 ∨ j = j / 2 * 2 + 1 by omega) with e | e
    · rw [e, k1]; exact g1.symm
    · rw [e, k2]; exact g2.symm
  · rw [List.getElem?_eq_none (by omega), List.getElem?_eq_none (by omega)]
theorem tw_of_head {W : World} {rest : List (String × DataW Unit)} (h : laidMet Tryz.prog (("gazetteer/data.typeWords", Rows.laid_gazetteer_data_typeWords) :: rest) W) : TW W := by
  obtain ⟨ps, ⟨g', t', cs, fuel, p, q, hg', ht', hvar, hd, _, _⟩, _⟩ := h
  obtain rfl := Option.some.inj (gTW.symm.trans hg')
  obtain rfl := Option.some.inj (gTWType.symm.trans ht')
  rw [tw_datum] at hd
  have hc := tw_cells hd
  unfold World.var? at hvar
  rw [gTW] at hvar
  simp only [Option.bind_some] at hvar
  split at hvar
  · rename_i cs' ty fr hh
    injection hvar with hvar
    subst hvar
    refine ⟨ty, fr, ?_⟩
    rw [hh, ← hc]
  · cases hvar
def db64 : List Int := [0, 1, 56, 2, 57, 49, 28, 3, 61, 58, 42, 50, 38, 29, 17, 4, 62, 47, 59, 36, 45, 43, 51, 22, 53, 39, 33, 30, 24, 18, 12, 5, 63, 55, 48, 27, 60, 41, 37, 16, 46, 35, 44, 21, 52, 32, 23, 11, 54, 26, 40, 15, 34, 20, 31, 10, 25, 14, 19, 9, 13, 8, 7, 6]
theorem db64_datum : Rows.laid_math_bits_deBruijn64tab (H := Unit) = Lib.tabData .u8 db64 := rfl
theorem gDb : Tryz.prog.globalNamed "math/bits.deBruijn64tab" = some 6 := by kernel_rfl
theorem gDbType : (Tryz.prog.globals[6]?).map (·.type) = some 251 := by kernel_rfl
end Go.Proofs.YtiaccimdjfdkgaaGreatDoor

/-
  What is laid gives a reader of files what it needs. (The verifier's own text.)
-/
namespace Go.Proofs.YtiaccimdjfdkgaaGreatDoor
set_option linter.unusedVariables false
open Go.RowKit Go.Shelf Go.ChangeShapes Go.Proofs.YtiaccimdjfdkgaaGreatDoor.Nm

theorem etM : Tryz.prog.globalNamed "errors.errorType" = some 1 := by kernel_rfl
theorem rtM : (Tryz.prog.cutTypes.find? (·.1 == "internal/reflectlite.rtype")).map (·.2) = some 147 := by kernel_rfl
theorem oneRowM : ((List.range Tryz.prog.types.size).filter fun t => Tryz.prog.rowNamed t [101, 114, 114, 111, 114]) = [51] := by kernel_rfl
def plM : List (String × DataW Unit) := [("math/bits.deBruijn32tab", Rows.laid_math_bits_deBruijn32tab), ("math/bits.deBruijn64tab", Rows.laid_math_bits_deBruijn64tab), ("internal/strconv.uint64pow10", Rows.laid_internal_strconv_uint64pow10), ("strconv.ErrRange", Rows.laid_strconv_ErrRange), ("strconv.ErrSyntax", Rows.laid_strconv_ErrSyntax), ("gazetteer/data.typeWords", Rows.laid_gazetteer_data_typeWords), ("gazetteer/master.unitSizes", Rows.laid_gazetteer_master_unitSizes)]
theorem partsM {W : World} (h : laidMetH Tryz.prog Rows.masterRoundsUptoRow.laid W) : laidMet Tryz.prog plM W ∧ handlesMet Tryz.prog [("errors.errorType", Rows.laid_errors_errorType)] W := h
/-- what is laid gives the variable's one cell -/
theorem ge_laid {W : World} (h : laidMetH Tryz.prog Rows.masterRoundsUptoRow.laid W) : GE W := by
  have h' := (partsM h).2
  obtain ⟨name, u, ty, e1, e2, e3, e4, e5⟩ := h' _ (List.mem_singleton.2 rfl)
  have en : name = [101, 114, 114, 111, 114] := (Option.some.inj e1).symm
  subst en
  obtain rfl := Option.some.inj (rtM.symm.trans e2)
  have hm : ty ∈ (List.range Tryz.prog.types.size).filter fun t => Tryz.prog.rowNamed t [101, 114, 114, 111, 114] := List.mem_filter.2 ⟨List.mem_range.2 e3, e4⟩
  rw [oneRowM] at hm
  obtain rfl := List.mem_singleton.1 hm
  have hh : typeHandle Tryz.prog 51 = .pointer (some ⟨11, 51, none⟩) := by kernel_rfl
  rw [hh] at e5
  have := World.var?_cell etM e5 0
  unfold GE hT
  simpa using this
theorem gUS : Tryz.prog.globalNamed "gazetteer/master.unitSizes" = some 2 := by kernel_rfl
theorem gUSType : (Tryz.prog.globals[2]?).map (·.type) = some 164 := by kernel_rfl
theorem cells5 : Tryz.prog.cellsOf 164 = 5 := by kernel_rfl
theorem gm_laid {W : World} (hL : laidMetH Tryz.prog Rows.masterRoundsUptoRow.laid W) (hm : Gm W) : GM W := by
  have h : laidMet Tryz.prog plM W := (partsM hL).1
  have h1 : laidMet Tryz.prog [("math/bits.deBruijn64tab", Rows.laid_math_bits_deBruijn64tab), ("internal/strconv.uint64pow10", Rows.laid_internal_strconv_uint64pow10), ("strconv.ErrRange", Rows.laid_strconv_ErrRange), ("strconv.ErrSyntax", Rows.laid_strconv_ErrSyntax), ("gazetteer/data.typeWords", Rows.laid_gazetteer_data_typeWords), ("gazetteer/master.unitSizes", Rows.laid_gazetteer_master_unitSizes)] W := h.tail
  have h2 : laidMet Tryz.prog [("internal/strconv.uint64pow10", Rows.laid_internal_strconv_uint64pow10), ("strconv.ErrRange", Rows.laid_strconv_ErrRange), ("strconv.ErrSyntax", Rows.laid_strconv_ErrSyntax), ("gazetteer/data.typeWords", Rows.laid_gazetteer_data_typeWords), ("gazetteer/master.unitSizes", Rows.laid_gazetteer_master_unitSizes)] W := h1.tail
  obtain ⟨a1, s1, hv1, -, -, -⟩ := laid_sentinel h2.tail gER gERType Tryz.underlying51 rowES Tryz.underlying260 Tryz.underlying262 rfl rfl Tryz.underlying9 cellsES cellsStr
  obtain ⟨a0, s0, hv0, -, -, -⟩ := laid_sentinel h2.tail.tail gES gESType Tryz.underlying51 rowES Tryz.underlying260 Tryz.underlying262 rfl rfl Tryz.underlying9 cellsES cellsStr
  have hg : Gl W := ⟨_, _, by have h0 := World.var?_cell gES hv0 0; simpa using h0, .inr ⟨_, _, rfl⟩, by have h0 := World.var?_cell gER hv1 0; simpa using h0, .inr ⟨_, _, rfl⟩⟩
  have hz : GlZ W := ⟨_, _, by have h0 := World.var?_cell gES hv0 0; simpa using h0, .inr ⟨_, _, rfl⟩, by have h0 := World.var?_cell gER hv1 0; simpa using h0, .inr ⟨_, _, rfl⟩⟩
  have hT : Lib.TabIs Tryz.prog W "gazetteer/master.unitSizes" .i64 [604800, 86400, 3600, 60, 1] := Lib.tabIs_of_head (rest := []) gUS gUSType Tryz.underlying164 Tryz.underlying3 cellsInt1 cells5 h2.tail.tail.tail.tail
  refine ⟨⟨⟨tw_of_head h2.tail.tail.tail, ?_, hg⟩, hm, ?_⟩, hg, hz, hT.cell gUS 0 (by decide), hT.cell gUS 1 (by decide), hT.cell gUS 2 (by decide), hT.cell gUS 3 (by decide), hT.cell gUS 4 (by decide)⟩
  · exact Lib.tabIs_of_head (t := 224) gPow gPowType Tryz.underlying224 Tryz.underlying200 (by kernel_rfl) (by kernel_rfl) h2
  · rw [db64_datum] at h1
    have ht := Lib.tabIs_of_head (t := 251) gDb gDbType Tryz.underlying251 Tryz.underlying5 (by kernel_rfl) (by kernel_rfl) h1
    exact ht.cell gDb 15 (by decide)
end Go.Proofs.YtiaccimdjfdkgaaGreatDoor
