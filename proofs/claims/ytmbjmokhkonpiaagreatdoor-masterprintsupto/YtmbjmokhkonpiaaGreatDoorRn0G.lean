import Derived.Test.YtmbjmokhkonpiaaGreatDoorWkG
import Derived.Test.YtmbjmokhkonpiaaGreatDoorGr0G
import Derived.Test.YtmbjmokhkonpiaaGreatDoorBt1G
import Derived.Test.YtmbjmokhkonpiaaGreatDoorKs1G
import Derived.Deep.RegionHeld3
/-
  Questions and records in memory. (The verifier's own text; it stood in Wc5.)
-/
namespace Go.Proofs.YtmbjmokhkonpiaaGreatDoor
set_option linter.unusedVariables false
open Go.RowKit Go.Shelf Go.Proofs.YtmbjmokhkonpiaaGreatDoor.Nm

/-- a record -/
structure Rn where
  o : ByteArray
  t : Int
  c : Int
  l : Int
  d : ByteArray
/-- records in memory -/
def RsAt (w : World) (p : Option Addr) (l : List Rn) : Prop := ∀ k, (hk : k < l.length) → ∃ g off, p = some ⟨g, off, none⟩ ∧ g < w.heap.size ∧ w.cell? ⟨g, off + k * 5, none⟩ = some (.string l[k].o) ∧ w.cell? ⟨g, off + k * 5 + 1, none⟩ = some (.int .i64 l[k].t) ∧ w.cell? ⟨g, off + k * 5 + 2, none⟩ = some (.int .i64 l[k].c) ∧ w.cell? ⟨g, off + k * 5 + 3, none⟩ = some (.int .i64 l[k].l) ∧ w.cell? ⟨g, off + k * 5 + 4, none⟩ = some (.string l[k].d)
end Go.Proofs.YtmbjmokhkonpiaaGreatDoor

/-
  Boxes in memory, beside names. (The verifier's own text.)
-/

namespace Go.Proofs.YtmbjmokhkonpiaaGreatDoor
set_option linter.unusedVariables false
open Go.RowKit Go.Shelf Go.Proofs.YtmbjmokhkonpiaaGreatDoor.Nm

theorem rsAt_below7 {w w' : World} {p : Option Addr} {l : List Rn} (h : RsAt w p l) (hb : Below w.heap.size w w') : RsAt w' p l := fun k hk => by
  obtain ⟨g, off, hp, hg, h0, h1, h2, h3, h4⟩ := h k hk
  exact ⟨g, off, hp, Nat.lt_of_lt_of_le hg hb.size, (hb.cell (p := ⟨g, off + k * 5, none⟩) hg).trans h0, (hb.cell (p := ⟨g, off + k * 5 + 1, none⟩) hg).trans h1, (hb.cell (p := ⟨g, off + k * 5 + 2, none⟩) hg).trans h2, (hb.cell (p := ⟨g, off + k * 5 + 3, none⟩) hg).trans h3, (hb.cell (p := ⟨g, off + k * 5 + 4, none⟩) hg).trans h4⟩

end Go.Proofs.YtmbjmokhkonpiaaGreatDoor

namespace Go.Proofs.YtmbjmokhkonpiaaGreatDoor
set_option linter.unusedVariables false
open Go.RowKit Go.Shelf Go.Proofs.YtmbjmokhkonpiaaGreatDoor.Nm

theorem bx_d8 {w : World} {R : Nat} {cs : Array Value} {T : TypeId} (h : Bx w R cs T) : Bx w.drew R cs T := h
/-- may it stand in a zone? -/
def zonB (o d : ByteArray) (t c l : Int) : Bool := isN o && decide (c = 1) && decide (0 ≤ l) && decide (l ≤ 2147483647) && decide (errD t d = 0)
theorem chk_n8 {o : ByteArray} (h : isN o = false) : chk o = 1 := by unfold chk; rw [h]; rfl
theorem chk_y8 {o : ByteArray} (h : isN o = true) : chk o = 0 := by unfold chk; rw [h]; rfl

set_option maxRecDepth 100000 in
set_option maxHeartbeats 2000000 in
/-- data.IsRecord -/
theorem isRecord_any (o d : ByteArray) (t c l : Int) (w : World) (ho : o.size ≤ maxLen) (hd : d.size ≤ 9223372036854775807) :
    Calls Tryz.prog 12 #[.agg #[.string o, .int .i64 t, .int .i64 c, .int .i64 l, .string d]] w fun r w' => r = .returned (.bool (zonB o d t c l)) ∧ Below w.heap.size w w' := by
  obtain ⟨W, hW⟩ : ∃ W, w.alloc (.cells #[.string o, .int .i64 t, .int .i64 c, .int .i64 l, .string d] 30) = W := ⟨_, rfl⟩
  have HB : Hid (Below w.heap.size w W) := by rw [← hW]; exact (Below.refl _ _).alloc (Nat.le_refl _) _
  have h0 : Bx (w.alloc (.cells #[.string o, .int .i64 t, .int .i64 c, .int .i64 l, .string d] 30)) w.heap.size #[.string o, .int .i64 t, .int .i64 c, .int .i64 l, .string d] 30 := World.alloc_heap_new w _
  rw [hW] at h0
  have HH := hide' h0
  have QF : Hid (∀ V : World, Bx V w.heap.size #[.string o, .int .i64 t, .int .i64 c, .int .i64 l, .string d] 30 → V.cell? ⟨w.heap.size, 0, none⟩ = some (.string o) ∧ V.cell? ⟨w.heap.size, 1, none⟩ = some (.int .i64 t) ∧ V.cell? ⟨w.heap.size, 2, none⟩ = some (.int .i64 c) ∧ V.cell? ⟨w.heap.size, 3, none⟩ = some (.int .i64 l) ∧ V.cell? ⟨w.heap.size, 4, none⟩ = some (.string d)) := fun V h => ⟨h.cell rfl, h.cell rfl, h.cell rfl, h.cell rfl, h.cell rfl⟩
  obtain ⟨k0, k1, k2, k3, k4⟩ := QF.out W h0
  clear h0
  obtain ⟨ee, hee⟩ : ∃ ee, errD t d = ee := ⟨_, rfl⟩
  have HE := hide' hee
  cases hN : isN o with
  | false =>
    have HV : Hid (zonB o d t c l = false) := by unfold Hid zonB; rw [hN]; rfl
    have HN := hide' (chk_n8 hN)
    rw [HV.out]
    go_enter Tryz.func12, Tryz.ntmps12
    go_wp2_with (first
      | (go_at_call 9; refine (check_any o _ ho).mono ?_; rw [HN.out]; rintro r w1 ⟨rfl, hB1⟩; have HH1 := hide' (HH.out.below hB1 HH.out.lt); have HB1 := hide' (bstep HB.out hB1 HB.out.size); obtain ⟨j0, j1, j2, j3, j4⟩ := QF.out w1 HH1.out; clear hB1)
      | (go_at_call 30; refine (dataCheck_any t d _ hd).mono ?_; rw [HE.out]; rintro r w2 ⟨rfl, hB2⟩; have HB2 := hide' (bstep HB1.out hB2 HB1.out.size); clear hB2))
    go_ret
    exact ⟨rfl, by first | exact HB2.out | exact HB1.out⟩
  | true =>
    have HN := hide' (chk_y8 hN)
    by_cases hc : c = 1
    · by_cases hl0 : 0 ≤ l
      · by_cases hl1 : l ≤ 2147483647
        · by_cases h0 : ee = 0
          · have HV : Hid (zonB o d t c l = true) := by unfold Hid zonB; rw [hN, decide_eq_true hc, decide_eq_true hl0, decide_eq_true hl1, decide_eq_true (hee.trans h0)]; rfl
            subst h0
            subst hc
            clear hN hee
            rw [HV.out]
            go_enter Tryz.func12, Tryz.ntmps12
            go_wp2_with (first
              | (go_at_call 9; refine (check_any o _ ho).mono ?_; rw [HN.out]; rintro r w1 ⟨rfl, hB1⟩; have HH1 := hide' (HH.out.below hB1 HH.out.lt); have HB1 := hide' (bstep HB.out hB1 HB.out.size); obtain ⟨j0, j1, j2, j3, j4⟩ := QF.out w1 HH1.out; clear hB1)
              | (go_at_call 30; refine (dataCheck_any t d _ hd).mono ?_; rw [HE.out]; rintro r w2 ⟨rfl, hB2⟩; have HB2 := hide' (bstep HB1.out hB2 HB1.out.size); clear hB2))
            go_ret
            exact ⟨rfl, by first | exact HB2.out | exact HB1.out⟩
          · have HV : Hid (zonB o d t c l = false) := by unfold Hid zonB; rw [decide_eq_false (fun h => h0 (hee.symm.trans h))]; simp
            have hb : ((ee : Int) == 0) = false := by rw [beq_eq_false_iff_ne]; omega
            have hb2 : ¬ (ee : Int) = 0 := by omega
            subst hc
            clear hN hee h0
            rw [HV.out]
            go_enter Tryz.func12, Tryz.ntmps12
            go_wp2_with (first
              | (go_at_call 9; refine (check_any o _ ho).mono ?_; rw [HN.out]; rintro r w1 ⟨rfl, hB1⟩; have HH1 := hide' (HH.out.below hB1 HH.out.lt); have HB1 := hide' (bstep HB.out hB1 HB.out.size); obtain ⟨j0, j1, j2, j3, j4⟩ := QF.out w1 HH1.out; clear hB1)
              | (go_at_call 30; refine (dataCheck_any t d _ hd).mono ?_; rw [HE.out]; rintro r w2 ⟨rfl, hB2⟩; have HB2 := hide' (bstep HB1.out hB2 HB1.out.size); clear hB2))
            go_ret
            exact ⟨rfl, by first | exact HB2.out | exact HB1.out⟩
        · have HV : Hid (zonB o d t c l = false) := by unfold Hid zonB; rw [decide_eq_false hl1]; simp
          subst hc
          clear hN hee
          rw [HV.out]
          go_enter Tryz.func12, Tryz.ntmps12
          go_wp2_with (first
            | (go_at_call 9; refine (check_any o _ ho).mono ?_; rw [HN.out]; rintro r w1 ⟨rfl, hB1⟩; have HH1 := hide' (HH.out.below hB1 HH.out.lt); have HB1 := hide' (bstep HB.out hB1 HB.out.size); obtain ⟨j0, j1, j2, j3, j4⟩ := QF.out w1 HH1.out; clear hB1)
            | (go_at_call 30; refine (dataCheck_any t d _ hd).mono ?_; rw [HE.out]; rintro r w2 ⟨rfl, hB2⟩; have HB2 := hide' (bstep HB1.out hB2 HB1.out.size); clear hB2))
          go_ret
          exact ⟨rfl, by first | exact HB2.out | exact HB1.out⟩
      · have HV : Hid (zonB o d t c l = false) := by unfold Hid zonB; rw [decide_eq_false hl0]; simp
        subst hc
        clear hN hee
        rw [HV.out]
        go_enter Tryz.func12, Tryz.ntmps12
        go_wp2_with (first
          | (go_at_call 9; refine (check_any o _ ho).mono ?_; rw [HN.out]; rintro r w1 ⟨rfl, hB1⟩; have HH1 := hide' (HH.out.below hB1 HH.out.lt); have HB1 := hide' (bstep HB.out hB1 HB.out.size); obtain ⟨j0, j1, j2, j3, j4⟩ := QF.out w1 HH1.out; clear hB1)
          | (go_at_call 30; refine (dataCheck_any t d _ hd).mono ?_; rw [HE.out]; rintro r w2 ⟨rfl, hB2⟩; have HB2 := hide' (bstep HB1.out hB2 HB1.out.size); clear hB2))
        go_ret
        exact ⟨rfl, by first | exact HB2.out | exact HB1.out⟩
    · have HV : Hid (zonB o d t c l = false) := by unfold Hid zonB; rw [decide_eq_false hc]; simp
      have hb : (c == 1) = false := by rw [beq_eq_false_iff_ne]; exact hc
      clear hN hee
      rw [HV.out]
      go_enter Tryz.func12, Tryz.ntmps12
      go_wp2_with (first
        | (go_at_call 9; refine (check_any o _ ho).mono ?_; rw [HN.out]; rintro r w1 ⟨rfl, hB1⟩; have HH1 := hide' (HH.out.below hB1 HH.out.lt); have HB1 := hide' (bstep HB.out hB1 HB.out.size); obtain ⟨j0, j1, j2, j3, j4⟩ := QF.out w1 HH1.out; clear hB1)
        | (go_at_call 30; refine (dataCheck_any t d _ hd).mono ?_; rw [HE.out]; rintro r w2 ⟨rfl, hB2⟩; have HB2 := hide' (bstep HB1.out hB2 HB1.out.size); clear hB2))
      go_ret
      exact ⟨rfl, by first | exact HB2.out | exact HB1.out⟩
end Go.Proofs.YtmbjmokhkonpiaaGreatDoor
