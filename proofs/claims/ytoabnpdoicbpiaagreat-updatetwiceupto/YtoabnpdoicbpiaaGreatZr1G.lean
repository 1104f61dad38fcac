import Derived.Test.YtoabnpdoicbpiaaGreatZnfG
import Derived.Test.YtoabnpdoicbpiaaGreatZp2G
import Derived.Test.YtoabnpdoicbpiaaGreatRz1G
import Derived.Test.YtoabnpdoicbpiaaGreatWkG
import Derived.Test.YtoabnpdoicbpiaaGreatCmpG
namespace Go.Proofs.YtoabnpdoicbpiaaGreat
set_option linter.unusedVariables false
set_option linter.unusedSimpArgs false
open Go.RowKit Go.Shelf Go.Maps Go.Proofs.YtoabnpdoicbpiaaGreat.Nm
def rSm (r : Rn) : Prop := r.o.size ≤ 1048576 ∧ r.d.size ≤ 1048576
def alikeB (a b : Rn) : Bool := decide (a.t = b.t) && (eqB a.o b.o && decide (foldD a.t a.d = foldD b.t b.d))
structure Two (w wr : World) (a b : Rn) : Prop where
 ax : Bx wr w.heap.size #[.string a.o, .int .i64 a.t, .int .i64 a.c, .int .i64 a.l, .string a.d] 29
 bx : Bx wr (w.heap.size + 1) #[.string b.o, .int .i64 b.t, .int .i64 b.c, .int .i64 b.l, .string b.d] 29
 bl : Below w.heap.size w wr
theorem Two.start (w : World) (a b : Rn) : Two w ((w.alloc (.cells #[.string a.o, .int .i64 a.t, .int .i64 a.c, .int .i64 a.l, .string a.d] 29)).alloc (.cells #[.string b.o, .int .i64 b.t, .int .i64 b.c, .int .i64 b.l, .string b.d] 29)) a b := by
 refine ⟨Bx.below (World.alloc_heap_new w _) ((Below.refl _ _).alloc (Nat.le_refl _) _) (by simp), ?_, ((Below.refl _ w).alloc (Nat.le_refl _) _).alloc (by simp) _⟩
 have := World.alloc_heap_new (w.alloc (.cells #[.string a.o, .int .i64 a.t, .int .i64 a.c, .int .i64 a.l, .string a.d] 29)) (.cells #[.string b.o, .int .i64 b.t, .int .i64 b.c, .int .i64 b.l, .string b.d] 29)
 simpa [Bx] using this
theorem Two.step {w wr w2 : World} {a b : Rn} (h : Two w wr a b) (hb : Below wr.heap.size wr w2) : Two w w2 a b :=
 ⟨h.ax.below hb h.ax.lt, h.bx.below hb h.bx.lt, bstep h.bl hb h.bl.size⟩
theorem Two.cells {w wr : World} {a b : Rn} (h : Two w wr a b) : wr.cell? ⟨w.heap.size, 0, none⟩ = some (.string a.o) ∧ wr.cell? ⟨w.heap.size, 1, none⟩ = some (.int .i64 a.t) ∧ wr.cell? ⟨w.heap.size, 4, none⟩ = some (.string a.d) ∧ wr.cell? ⟨w.heap.size + 1, 0, none⟩ = some (.string b.o) ∧ wr.cell? ⟨w.heap.size + 1, 1, none⟩ = some (.int .i64 b.t) ∧ wr.cell? ⟨w.heap.size + 1, 4, none⟩ = some (.string b.d) :=
 ⟨h.ax.cell rfl, h.ax.cell rfl, h.ax.cell rfl, h.bx.cell rfl, h.bx.cell rfl, h.bx.cell rfl⟩
set_option maxRecDepth 100000 in
set_option maxHeartbeats 2000000 in
theorem alike_any (a b : Rn) (w : World) (ha : rSm a) (hb : rSm b) :
  Calls Tryz.prog 112 #[rcV a, rcV b] w fun r w' => r = .returned (.bool (alikeB a b)) ∧ Below w.heap.size w w' := by
 obtain ⟨ha1, ha2⟩ := ha
 obtain ⟨hb1, hb2⟩ := hb
 have HE := hide' (fun W => equalName_any a.o b.o W ha1 hb1)
 have HF := hide' (fun W => refFoldData_any a.t a.d W (by omega))
 have HG := hide' (fun W => refFoldData_any b.t b.d W (by omega))
 have T0 := hide' (Two.start w a b)
 have HT : Hid (∀ V, Below ((w.alloc (.cells #[.string a.o, .int .i64 a.t, .int .i64 a.c, .int .i64 a.l, .string a.d] 29)).alloc (.cells #[.string b.o, .int .i64 b.t, .int .i64 b.c, .int .i64 b.l, .string b.d] 29)).heap.size ((w.alloc (.cells #[.string a.o, .int .i64 a.t, .int .i64 a.c, .int .i64 a.l, .string a.d] 29)).alloc (.cells #[.string b.o, .int .i64 b.t, .int .i64 b.c, .int .i64 b.l, .string b.d] 29)) V → Two w V a b) := fun V hV => T0.out.step hV
 obtain ⟨wa, hwa⟩ : ∃ wa, ((w.alloc (.cells #[.string a.o, .int .i64 a.t, .int .i64 a.c, .int .i64 a.l, .string a.d] 29)).alloc (.cells #[.string b.o, .int .i64 b.t, .int .i64 b.c, .int .i64 b.l, .string b.d] 29)) = wa := ⟨_, rfl⟩
 rw [hwa] at T0 HT
 have HQ : Hid (∀ V, Below wa.heap.size wa V → V.cell? ⟨w.heap.size, 0, none⟩ = some (.string a.o) ∧ V.cell? ⟨w.heap.size, 1, none⟩ = some (.int .i64 a.t) ∧ V.cell? ⟨w.heap.size, 4, none⟩ = some (.string a.d) ∧ V.cell? ⟨w.heap.size + 1, 0, none⟩ = some (.string b.o) ∧ V.cell? ⟨w.heap.size + 1, 1, none⟩ = some (.int .i64 b.t) ∧ V.cell? ⟨w.heap.size + 1, 4, none⟩ = some (.string b.d)) := fun V hV => (HT.out V hV).cells
 have HBl : Hid (∀ V, Below wa.heap.size wa V → Below w.heap.size w V) := fun V hV => (HT.out V hV).bl
 obtain ⟨c0, c1, c2, c3, c4, c5⟩ := T0.out.cells
 clear T0 HT
 unfold rcV alikeB
 obtain ⟨E, hE⟩ : ∃ E, eqB a.o b.o = E := ⟨_, rfl⟩
 obtain ⟨X, hX⟩ : ∃ X, foldD a.t a.d = X := ⟨_, rfl⟩
 obtain ⟨Y, hY⟩ : ∃ Y, foldD b.t b.d = Y := ⟨_, rfl⟩
 rw [hE] at HE ⊢
 rw [hX] at HF ⊢
 rw [hY] at HG ⊢
 clear hE hX hY ha1 ha2 hb1 hb2
 obtain ⟨ao, at', ac, al, ad⟩ := a
 obtain ⟨bo, bt', bc, bl, bd⟩ := b
 simp only at *
 have hB := (Below.refl wa.heap.size wa).drew
 by_cases ht : at' = bt'
 ·have htb : (at' == bt') = true := by simp [ht]
  have HTT := hide' ht
  clear ht
  cases E with
  | false =>
   go_enter Tryz.func112, Tryz.ntmps112
   go_wp2_with fail
   refine wp_region_held_drew (S := (fun V => V.cell? ⟨w.heap.size, 0, none⟩ = some (.string ao) ∧ V.cell? ⟨w.heap.size, 1, none⟩ = some (.int .i64 at') ∧ V.cell? ⟨w.heap.size, 4, none⟩ = some (.string ad) ∧ V.cell? ⟨w.heap.size + 1, 0, none⟩ = some (.string bo) ∧ V.cell? ⟨w.heap.size + 1, 1, none⟩ = some (.int .i64 bt') ∧ V.cell? ⟨w.heap.size + 1, 4, none⟩ = some (.string bd))) (by kernel_rfl) ?_ (fun hHeld => ?_)
   ·(try dsimp only); go_keep
   refine takeD 0 (some 5) (.pointer (some ⟨w.heap.size, 1, none⟩)) rfl rfl (by kernel_rfl) (by kernel_rfl) (by kernel_rfl) (fun _ _ _ h => h) (Or.inl ⟨by rfl, ?_⟩) (by assumption) ?_
   ·intro w hSw; (try dsimp only at hSw); go_simp <;> (intros; omega)
   simp only [Act.put, List.setIfInBounds_toArray, List.set_cons_zero, List.set_cons_succ]
   refine takeD 1 (some 6) (.int .i64 at') rfl rfl (by kernel_rfl) (by kernel_rfl) (by kernel_rfl) (fun _ _ _ h => h) (Or.inl ⟨by rfl, ?_⟩) (by assumption) ?_
   ·intro w hSw; (try dsimp only at hSw); go_simp <;> (intros; omega)
   simp only [Act.put, List.setIfInBounds_toArray, List.set_cons_zero, List.set_cons_succ]
   refine takeD 2 (some 7) (.pointer (some ⟨w.heap.size + 1, 1, none⟩)) rfl rfl (by kernel_rfl) (by kernel_rfl) (by kernel_rfl) (fun _ _ _ h => h) (Or.inl ⟨by rfl, ?_⟩) (by assumption) ?_
   ·intro w hSw; (try dsimp only at hSw); go_simp <;> (intros; omega)
   simp only [Act.put, List.setIfInBounds_toArray, List.set_cons_zero, List.set_cons_succ]
   refine takeD 3 (some 8) (.int .i64 bt') rfl rfl (by kernel_rfl) (by kernel_rfl) (by kernel_rfl) (fun _ _ _ h => h) (Or.inl ⟨by rfl, ?_⟩) (by assumption) ?_
   ·intro w hSw; (try dsimp only at hSw); go_simp <;> (intros; omega)
   simp only [Act.put, List.setIfInBounds_toArray, List.set_cons_zero, List.set_cons_succ]
   refine takeD 4 (some 9) (.bool true) rfl rfl (by kernel_rfl) (by kernel_rfl) (by kernel_rfl) (fun _ _ _ h => h) (Or.inl ⟨by rfl, ?_⟩) (by assumption) ?_
   ·intro w hSw; (try dsimp only at hSw); go_simp <;> (intros; omega)
   simp only [Act.put, List.setIfInBounds_toArray, List.set_cons_zero, List.set_cons_succ]
   refine takeD 5 (some 10) (.bool true) rfl rfl (by kernel_rfl) (by kernel_rfl) (by kernel_rfl) (fun _ _ _ h => h) (Or.inl ⟨by rfl, ?_⟩) (by assumption) ?_
   ·intro w hSw; (try dsimp only at hSw); go_simp <;> (intros; omega)
   simp only [Act.put, List.setIfInBounds_toArray, List.set_cons_zero, List.set_cons_succ]
   refine takeD 6 (some 11) (.pointer (some ⟨w.heap.size, 0, none⟩)) rfl rfl (by kernel_rfl) (by kernel_rfl) (by kernel_rfl) (fun _ _ _ h => h) (Or.inl ⟨by rfl, ?_⟩) (by assumption) ?_
   ·intro w hSw; (try dsimp only at hSw); go_simp <;> (intros; omega)
   simp only [Act.put, List.setIfInBounds_toArray, List.set_cons_zero, List.set_cons_succ]
   refine takeD 7 (some 12) (.string ao) rfl rfl (by kernel_rfl) (by kernel_rfl) (by kernel_rfl) (fun _ _ _ h => h) (Or.inl ⟨by rfl, ?_⟩) (by assumption) ?_
   ·intro w hSw; (try dsimp only at hSw); go_simp <;> (intros; omega)
   simp only [Act.put, List.setIfInBounds_toArray, List.set_cons_zero, List.set_cons_succ]
   refine takeD 8 (some 13) (.pointer (some ⟨w.heap.size + 1, 0, none⟩)) rfl rfl (by kernel_rfl) (by kernel_rfl) (by kernel_rfl) (fun _ _ _ h => h) (Or.inl ⟨by rfl, ?_⟩) (by assumption) ?_
   ·intro w hSw; (try dsimp only at hSw); go_simp <;> (intros; omega)
   simp only [Act.put, List.setIfInBounds_toArray, List.set_cons_zero, List.set_cons_succ]
   refine takeD 9 (some 14) (.string bo) rfl rfl (by kernel_rfl) (by kernel_rfl) (by kernel_rfl) (fun _ _ _ h => h) (Or.inl ⟨by rfl, ?_⟩) (by assumption) ?_
   ·intro w hSw; (try dsimp only at hSw); go_simp <;> (intros; omega)
   simp only [Act.put, List.setIfInBounds_toArray, List.set_cons_zero, List.set_cons_succ]
   refine wpAnyH_ready (rs := [10]) (by kernel_rfl) (by simp) ?_
   refine AllReadyH.cons rfl (fun K hK => ?_) AllReadyH.nil
   go_simp
   go_at_call 113; refine (HE.out _).mono ?_; rintro e w5 ⟨rfl, hB5⟩; have hB := below_any hB hB5 (by first | exact .inl rfl | exact .inr rfl) hB.size; clear hB5
   go_wp2_with fail
   refine hK.out _ _ (HQ.out _ hB) (fun hHeld => ?_)
   clear hK K
   try simp only [Act.put, List.setIfInBounds_toArray, List.set_cons_zero, List.set_cons_succ]
   refine takeD 11 (some 16) (.bool false) rfl rfl (by kernel_rfl) (by kernel_rfl) (by kernel_rfl) (fun _ _ _ h => h) (Or.inl ⟨by rfl, ?_⟩) (by assumption) ?_
   ·intro w hSw; (try dsimp only at hSw); go_simp <;> (intros; omega)
   simp only [Act.put, List.setIfInBounds_toArray, List.set_cons_zero, List.set_cons_succ]
   refine takeD 12 (some 17) (.bool false) rfl rfl (by kernel_rfl) (by kernel_rfl) (by kernel_rfl) (fun _ _ _ h => h) (Or.inl ⟨by rfl, ?_⟩) (by assumption) ?_
   ·intro w hSw; (try dsimp only at hSw); go_simp <;> (intros; omega)
   simp only [Act.put, List.setIfInBounds_toArray, List.set_cons_zero, List.set_cons_succ]
   refine takeD 13 (some 18) undef rfl rfl (by kernel_rfl) (by kernel_rfl) (by kernel_rfl) (fun _ _ _ h => h) (Or.inr ⟨by rfl, rfl⟩) (by assumption) ?_
   simp only [Act.put, List.setIfInBounds_toArray, List.set_cons_zero, List.set_cons_succ]
   refine takeD 14 (some 19) undef rfl rfl (by kernel_rfl) (by kernel_rfl) (by kernel_rfl) (fun _ _ _ h => h) (Or.inr ⟨by rfl, rfl⟩) (by assumption) ?_
   simp only [Act.put, List.setIfInBounds_toArray, List.set_cons_zero, List.set_cons_succ]
   refine takeD 15 (some 20) undef rfl rfl (by kernel_rfl) (by kernel_rfl) (by kernel_rfl) (fun _ _ _ h => h) (Or.inr ⟨by rfl, rfl⟩) (by assumption) ?_
   simp only [Act.put, List.setIfInBounds_toArray, List.set_cons_zero, List.set_cons_succ]
   refine takeD 16 (some 21) undef rfl rfl (by kernel_rfl) (by kernel_rfl) (by kernel_rfl) (fun _ _ _ h => h) (Or.inr ⟨by rfl, rfl⟩) (by assumption) ?_
   simp only [Act.put, List.setIfInBounds_toArray, List.set_cons_zero, List.set_cons_succ]
   refine takeD 17 (some 22) undef rfl rfl (by kernel_rfl) (by kernel_rfl) (by kernel_rfl) (fun _ _ _ h => h) (Or.inr ⟨by rfl, rfl⟩) (by assumption) ?_
   simp only [Act.put, List.setIfInBounds_toArray, List.set_cons_zero, List.set_cons_succ]
   refine takeD 18 (some 23) undef rfl rfl (by kernel_rfl) (by kernel_rfl) (by kernel_rfl) (fun _ _ _ h => h) (Or.inr ⟨by rfl, rfl⟩) (by assumption) ?_
   simp only [Act.put, List.setIfInBounds_toArray, List.set_cons_zero, List.set_cons_succ]
   refine takeD 19 (some 24) undef rfl rfl (by kernel_rfl) (by kernel_rfl) (by kernel_rfl) (fun _ _ _ h => h) (Or.inr ⟨by rfl, rfl⟩) (by assumption) ?_
   simp only [Act.put, List.setIfInBounds_toArray, List.set_cons_zero, List.set_cons_succ]
   refine takeD 20 (some 25) undef rfl rfl (by kernel_rfl) (by kernel_rfl) (by kernel_rfl) (fun _ _ _ h => h) (Or.inr ⟨by rfl, rfl⟩) (by assumption) ?_
   simp only [Act.put, List.setIfInBounds_toArray, List.set_cons_zero, List.set_cons_succ]
   refine takeD 21 (some 26) undef rfl rfl (by kernel_rfl) (by kernel_rfl) (by kernel_rfl) (fun _ _ _ h => h) (Or.inr ⟨by rfl, rfl⟩) (by assumption) ?_
   simp only [Act.put, List.setIfInBounds_toArray, List.set_cons_zero, List.set_cons_succ]
   refine takeD 22 (some 27) undef rfl rfl (by kernel_rfl) (by kernel_rfl) (by kernel_rfl) (fun _ _ _ h => h) (Or.inr ⟨by rfl, rfl⟩) (by assumption) ?_
   simp only [Act.put, List.setIfInBounds_toArray, List.set_cons_zero, List.set_cons_succ]
   refine takeD 23 (some 28) undef rfl rfl (by kernel_rfl) (by kernel_rfl) (by kernel_rfl) (fun _ _ _ h => h) (Or.inr ⟨by rfl, rfl⟩) (by assumption) ?_
   simp only [Act.put, List.setIfInBounds_toArray, List.set_cons_zero, List.set_cons_succ]
   refine takeD 24 (some 29) (.bool false) rfl rfl (by kernel_rfl) (by kernel_rfl) (by kernel_rfl) (fun _ _ _ h => h) (Or.inl ⟨by rfl, ?_⟩) (by assumption) ?_
   ·intro w hSw; (try dsimp only at hSw); go_simp <;> (intros; omega)
   simp only [Act.put, List.setIfInBounds_toArray, List.set_cons_zero, List.set_cons_succ]
   refine takeD 25 (some 4) (.bool false) rfl rfl (by kernel_rfl) (by kernel_rfl) (by kernel_rfl) (fun _ _ _ h => h) (Or.inl ⟨by rfl, ?_⟩) (by assumption) ?_
   ·intro w hSw; (try dsimp only at hSw); go_simp <;> (intros; omega)
   simp only [Act.put, List.setIfInBounds_toArray, List.set_cons_zero, List.set_cons_succ]
   refine wpAnyH_done (by kernel_rfl) ?_ _
   go_wp2_with fail
   go_ret
   exact ⟨by simp, HBl.out _ hB⟩
  | true =>
   go_enter Tryz.func112, Tryz.ntmps112
   go_wp2_with fail
   go_region_held3 (fun V => V.cell? ⟨w.heap.size, 0, none⟩ = some (.string ao) ∧ V.cell? ⟨w.heap.size, 1, none⟩ = some (.int .i64 at') ∧ V.cell? ⟨w.heap.size, 4, none⟩ = some (.string ad) ∧ V.cell? ⟨w.heap.size + 1, 0, none⟩ = some (.string bo) ∧ V.cell? ⟨w.heap.size + 1, 1, none⟩ = some (.int .i64 bt') ∧ V.cell? ⟨w.heap.size + 1, 4, none⟩ = some (.string bd)) (first | go_keep | (with_reducible exact HQ.out _ hB))
    (first
     | (go_at_call 113; refine (HE.out _).mono ?_; rintro e w5 ⟨rfl, hB5⟩; have hB := below_any hB hB5 (by first | exact .inl rfl | exact .inr rfl) hB.size; clear hB5)
     | (go_at_call 132; (with_reducible refine (HF.out _).mono ?_); rintro e w6 ⟨rfl, hB5⟩; have hB := below_any hB hB5 (by first | exact .inl rfl | exact .inr rfl) hB.size; clear hB5)
     | (go_at_call 132; (with_reducible refine (HG.out _).mono ?_); rintro e w7 ⟨rfl, hB5⟩; have hB := below_any hB hB5 (by first | exact .inl rfl | exact .inr rfl) hB.size; clear hB5))
   all_goals
    go_wp2_with fail
    go_ret
    refine ⟨?_, HBl.out _ hB⟩
    rw [toList_bt]
    simp [HTT.out]
 ·have htb : (at' == bt') = false := by simp [ht]
  go_enter Tryz.func112, Tryz.ntmps112
  go_wp2_with fail
  go_region
  all_goals
   go_wp2_with fail
   go_ret
   exact ⟨by simp [ht], HBl.out _ hB⟩
def befB (a b : Rn) : Bool := if cmpB a.o b.o ≠ 0 then decide (cmpB a.o b.o < 0) else if a.t ≠ b.t then decide (a.t < b.t) else decide (Lib.compareBytes (foldD a.t a.d).data.toList (foldD b.t b.d).data.toList < 0)
theorem less_negZ (a b : ByteArray) : Op.bytesLess a.toList b.toList = decide (Lib.compareBytes a.data.toList b.data.toList < 0) := by
 have h1 : a.toList = a.data.toList := toList_eq a
 have h2 : b.toList = b.data.toList := toList_eq b
 rw [h1, h2, cbl_less]
 have h := cbl_range a.data.toList b.data.toList
 by_cases e : Lib.compareBytes a.data.toList b.data.toList = -1
 ·rw [e]; rfl
 ·rw [decide_eq_false e, decide_eq_false (by omega)]
set_option maxRecDepth 100000 in
set_option maxHeartbeats 2000000 in
theorem before_any (a b : Rn) (w : World) (ha : rSm a) (hb : rSm b) :
  Calls Tryz.prog 115 #[rcV a, rcV b] w fun r w' => r = .returned (.bool (befB a b)) ∧ Below w.heap.size w w' := by
 obtain ⟨ha1, ha2⟩ := ha
 obtain ⟨hb1, hb2⟩ := hb
 have HC := hide' (fun W => refCompare_any a.o b.o W ha1 hb1)
 have HF := hide' (fun W => refFoldData_any a.t a.d W (by omega))
 have HG := hide' (fun W => refFoldData_any b.t b.d W (by omega))
 have T0 := hide' (Two.start w a b)
 obtain ⟨wa, hwa⟩ : ∃ wa, ((w.alloc (.cells #[.string a.o, .int .i64 a.t, .int .i64 a.c, .int .i64 a.l, .string a.d] 29)).alloc (.cells #[.string b.o, .int .i64 b.t, .int .i64 b.c, .int .i64 b.l, .string b.d] 29)) = wa := ⟨_, rfl⟩
 rw [hwa] at T0
 have HQ : Hid (∀ V, Below wa.heap.size wa V → V.cell? ⟨w.heap.size, 0, none⟩ = some (.string a.o) ∧ V.cell? ⟨w.heap.size, 1, none⟩ = some (.int .i64 a.t) ∧ V.cell? ⟨w.heap.size, 4, none⟩ = some (.string a.d) ∧ V.cell? ⟨w.heap.size + 1, 0, none⟩ = some (.string b.o) ∧ V.cell? ⟨w.heap.size + 1, 1, none⟩ = some (.int .i64 b.t) ∧ V.cell? ⟨w.heap.size + 1, 4, none⟩ = some (.string b.d)) := fun V hV => (T0.out.step hV).cells
 have HBl : Hid (∀ V, Below wa.heap.size wa V → Below w.heap.size w V) := fun V hV => (T0.out.step hV).bl
 obtain ⟨c0, c1, c2, c3, c4, c5⟩ := T0.out.cells
 clear T0
 unfold rcV befB
 obtain ⟨E, hE⟩ : ∃ E, cmpB a.o b.o = E := ⟨_, rfl⟩
 obtain ⟨X, hX⟩ : ∃ X, foldD a.t a.d = X := ⟨_, rfl⟩
 obtain ⟨Y, hY⟩ : ∃ Y, foldD b.t b.d = Y := ⟨_, rfl⟩
 rw [hE] at HC ⊢
 rw [hX] at HF ⊢
 rw [hY] at HG ⊢
 clear hE hX hY ha1 ha2 hb1 hb2
 obtain ⟨ao, at', ac, al, ad⟩ := a
 obtain ⟨bo, bt', bc, bl, bd⟩ := b
 simp only at *
 by_cases hE : E = 0
 ·subst hE
  rw [if_neg (by simp)]
  by_cases ht : at' = bt'
  ·have htb : (at' != bt') = false := by simp [ht]
   rw [if_neg (by simp [ht])]
   have hB := Below.refl wa.heap.size wa
   clear ht
   go_enter Tryz.func115, Tryz.ntmps115
   go_wp2_with (go_at_call 134; refine (HC.out _).mono ?_; rintro e w5 ⟨rfl, hB5⟩; have hB := bstep hB hB5 hB.size; obtain ⟨c0, c1, c2, c3, c4, c5⟩ := HQ.out _ hB; clear hB5)
   have hB := hB.drew
   go_region_held3 (fun V => V.cell? ⟨w.heap.size, 1, none⟩ = some (.int .i64 at') ∧ V.cell? ⟨w.heap.size, 4, none⟩ = some (.string ad) ∧ V.cell? ⟨w.heap.size + 1, 1, none⟩ = some (.int .i64 bt') ∧ V.cell? ⟨w.heap.size + 1, 4, none⟩ = some (.string bd)) (first | go_keep | exact ⟨(HQ.out _ hB).2.1, (HQ.out _ hB).2.2.1, (HQ.out _ hB).2.2.2.2.1, (HQ.out _ hB).2.2.2.2.2⟩)
    (first
     | (go_at_call 132; (with_reducible refine (HF.out _).mono ?_); rintro e w6 ⟨rfl, hB5⟩; have hB := below_any hB hB5 (by first | exact .inl rfl | exact .inr rfl) hB.size; clear hB5)
     | (go_at_call 132; (with_reducible refine (HG.out _).mono ?_); rintro e w7 ⟨rfl, hB5⟩; have hB := below_any hB hB5 (by first | exact .inl rfl | exact .inr rfl) hB.size; clear hB5))
   all_goals
    go_wp2_with fail
    go_ret
    refine ⟨?_, HBl.out _ hB⟩
    rw [less_negZ]; rfl
  ·have htb : (at' != bt') = true := by simp [ht]
   rw [if_pos (by simp [ht])]
   have hB := Below.refl wa.heap.size wa
   go_enter Tryz.func115, Tryz.ntmps115
   go_wp2_with (go_at_call 134; refine (HC.out _).mono ?_; rintro e w5 ⟨rfl, hB5⟩; have hB := bstep hB hB5 hB.size; obtain ⟨c0, c1, c2, c3, c4, c5⟩ := HQ.out _ hB; clear hB5)
   go_ret
   exact ⟨rfl, HBl.out _ hB⟩
 ·have hEb : (E != 0) = true := by simp [hE]
  rw [if_pos (by simp [hE])]
  have hB := Below.refl wa.heap.size wa
  go_enter Tryz.func115, Tryz.ntmps115
  go_wp2_with (go_at_call 134; refine (HC.out _).mono ?_; rintro e w5 ⟨rfl, hB5⟩; have hB := bstep hB hB5 hB.size; obtain ⟨c0, c1, c2, c3, c4, c5⟩ := HQ.out _ hB; clear hB5)
  go_ret
  exact ⟨rfl, HBl.out _ hB⟩
def hasB (L : List Rn) (n : ByteArray) (t : Int) : Bool := L.any fun r => decide (r.t = t) && eqB r.o n
set_option maxRecDepth 100000 in
set_option maxHeartbeats 2000000 in
theorem rhas_any (L : List Rn) (p : Option Addr) (cap : Nat) (n : ByteArray) (t : Int) (w : World) (hL : L.length ≤ 1048576) (hat : RsAt w p L) (hs : ∀ r ∈ L, rSm r) (hn : n.size ≤ 1048576) :
  Calls Tryz.prog 82 #[.slice p L.length cap, .string n, .int .i64 t] w fun r w' => r = .returned (.bool (hasB L n t)) ∧ Below w.heap.size w w' := by
 have HAT := hide' hat
 have HSm := hide' hs
 clear hat hs
 go_enter Tryz.func82, Tryz.ntmps82
 go_wp2_with fail
 go_loopw [11] (fun kv wr => ∃ k : Nat, kv = .int .i64 (k : Int) ∧ k ≤ L.length ∧ Hid (∀ j (hj : j < L.length), j < k → (decide (L[j].t = t) && eqB L[j].o n) = false) ∧ Hid (Below w.heap.size w wr)) (fun kv _ => L.length - (intOf kv).toNat)
 case atStart => exact ⟨0, rfl, Nat.zero_le _, (fun j _ h => absurd h (Nat.not_lt_zero _)), Below.refl _ _⟩
 case round =>
  obtain ⟨k, rfl, hk, HN, HB⟩ := hrel
  by_cases hlt : k < L.length
  ·obtain ⟨g, off, rfl, hg, q0, q1, q2, q3, q4⟩ := rs_stay HAT.out HB.out k hlt
   have HE := hide' (fun V => equalName_any L[k].o n V (HSm.out _ (List.getElem_mem hlt)).1 hn)
   have HX : Hid ((decide (L[k].t = t) && eqB L[k].o n) = true → hasB L n t = true) := fun h => by
    unfold hasB; rw [List.any_eq_true]; exact ⟨_, List.getElem_mem hlt, h⟩
   have HY : Hid ((decide (L[k].t = t) && eqB L[k].o n) = false → ∀ j (hj : j < L.length), j < k + 1 → (decide (L[j].t = t) && eqB L[j].o n) = false) := fun h j hj hjk => by
    rcases Nat.lt_or_ge j k with h' | h'
    ·exact HN.out j hj h'
    ·obtain rfl : j = k := by omega
     exact h
   obtain ⟨x, hx⟩ : ∃ x, L[k] = x := ⟨_, rfl⟩
   rw [hx] at q0 q1 q2 q3 q4 HE HX
   rw [hx] at HY
   clear hx
   obtain ⟨xo, xt, xc, xl, xd⟩ := x
   simp only at q0 q1 q2 q3 q4 HE HX HY
   obtain ⟨E, hE⟩ : ∃ E, eqB xo n = E := ⟨_, rfl⟩
   rw [hE] at HE HX HY
   clear hE
   obtain ⟨wb, hwb⟩ : ∃ wb, wr.alloc (.cells #[.string xo, .int .i64 xt, .int .i64 xc, .int .i64 xl, .string xd] 29) = wb := ⟨_, rfl⟩
   have HXb : Hid (Bx wb wr.heap.size #[.string xo, .int .i64 xt, .int .i64 xc, .int .i64 xl, .string xd] 29) := hwb ▸ World.alloc_heap_new wr _
   have HBb : Hid (Below w.heap.size w wb) := hwb ▸ HB.out.alloc HB.out.size _
   have u0 : wb.cell? ⟨wr.heap.size, 0, none⟩ = some (.string xo) := HXb.out.cell rfl
   have u1 : wb.cell? ⟨wr.heap.size, 1, none⟩ = some (.int .i64 xt) := HXb.out.cell rfl
   by_cases ht : xt = t
   ·have htb : (xt == t) = true := by simp [ht]
    cases E with
    | true =>
     have HXX := hide' (HX.out (by simp [ht]))
     clear ht
     go_wp2_with (go_at_call 113; refine (HE.out _).mono ?_; rintro e w5 ⟨rfl, hB5⟩)
     go_ret
     exact ⟨by rw [HXX.out]; rfl, bstep HBb.out hB5 HBb.out.size⟩
    | false =>
     have HYY := hide' (HY.out (by simp))
     clear ht
     go_wp2_with (go_at_call 113; refine (HE.out _).mono ?_; rintro e w5 ⟨rfl, hB5⟩)
     exact ⟨⟨k + 1, by go_num, by omega, HYY, bstep HBb.out hB5 HBb.out.size⟩, by simp [intOf]; omega⟩
   ·have htb : (xt == t) = false := by simp [ht]
    have HYY := hide' (HY.out (by simp [ht]))
    go_wp2_with fail
    exact ⟨⟨k + 1, by go_num, by omega, HYY, HBb⟩, by simp [intOf]; omega⟩
  ·obtain rfl : k = L.length := by omega
   have HZ : Hid (hasB L n t = false) := by
    unfold Hid hasB
    rw [List.any_eq_false]
    intro x hx
    obtain ⟨j, hj, rfl⟩ := List.getElem_of_mem hx
    rw [HN.out j hj hj]; simp
   go_wp2_with fail
   go_ret
   exact ⟨by rw [HZ.out]; rfl, HB.out⟩
end Go.Proofs.YtoabnpdoicbpiaaGreat
namespace Go.Proofs.YtoabnpdoicbpiaaGreat
set_option linter.unusedVariables false
set_option linter.unusedSimpArgs false
open Go.RowKit Go.Shelf Go.Maps Go.Proofs.YtoabnpdoicbpiaaGreat.Nm
def brk2 (r : Rn) : Bool := !zonB r.o r.d r.t r.c r.l
def brk3 (apex : ByteArray) (r : Rn) : Bool := !withinB r.o apex
def brk4 (L : List Rn) (k : Nat) (x : Rn) : Bool := (List.range k).any fun j => alikeB (rAt L j) x
def brk5 (apex : ByteArray) (L : List Rn) (k : Nat) (x : Rn) : Bool := decide (x.t = 6) && (((List.range k).any fun j => decide ((rAt L j).t = 6)) || !eqB x.o apex)
def brk7 (x : Rn) : Bool := (decide (x.t = 2) || decide (x.t = 39)) && isStarB x.o
def brk8 (L : List Rn) (k : Nat) (x : Rn) : Bool := decide (x.t = 5) && ((List.range L.length).any fun j => !decide (j = k) && (eqB (rAt L j).o x.o && othB (rAt L j)))
def brk9 (apex : ByteArray) (L : List Rn) (k : Nat) (x : Rn) : Bool := decide (x.t = 39) && (((List.range L.length).any fun j => (!decide (j = k) && (eqB (rAt L j).o x.o && decide ((rAt L j).t = 39))) || (!eqB (rAt L j).o x.o && withinB (rAt L j).o x.o)) || eqB x.o apex)
def brk10 (L : List Rn) (k : Nat) (x : Rn) : Bool := match (List.range k).find? (fun j => !decide (x.t = 46) && (decide ((rAt L j).t = x.t) && eqB (rAt L j).o x.o)) with | some j => !decide ((rAt L j).l = x.l) | none => false
def brkB (apex : ByteArray) (L : List Rn) (rule k : Nat) : Bool :=
 if rule = 2 then brk2 (rAt L k) else if rule = 3 then brk3 apex (rAt L k) else if rule = 4 then brk4 L k (rAt L k) else if rule = 5 then brk5 apex L k (rAt L k) else if rule = 7 then brk7 (rAt L k) else if rule = 8 then brk8 L k (rAt L k) else if rule = 9 then brk9 apex L k (rAt L k) else if rule = 10 then brk10 L k (rAt L k) else false
theorem any_hit {n j : Nat} {P : Nat → Bool} (hj : j < n) (h : P j = true) : (List.range n).any P = true := by rw [List.any_eq_true]; exact ⟨j, List.mem_range.2 hj, h⟩
theorem any_not {n : Nat} {P : Nat → Bool} (h : ∀ j, j < n → P j = false) : (List.range n).any P = false := by
 rw [List.any_eq_false]; intro j hj; rw [h j (List.mem_range.1 hj)]; simp
theorem up_to {k : Nat} {P : Nat → Bool} (h : ∀ j, j < k → P j = false) (hk : P k = false) : ∀ j, j < k + 1 → P j = false := fun j hj => by
 rcases Nat.lt_or_ge j k with h' | h'
 ·exact h j h'
 ·obtain rfl : j = k := by omega
  exact hk
structure Bk (w wr : World) (x : Rn) : Prop where
 x : Bx wr w.heap.size #[.string x.o, .int .i64 x.t, .int .i64 x.c, .int .i64 x.l, .string x.d] 29
 bl : Below w.heap.size w wr
theorem Bk.start (w : World) (x : Rn) : Bk w (w.alloc (.cells #[.string x.o, .int .i64 x.t, .int .i64 x.c, .int .i64 x.l, .string x.d] 29)) x := ⟨World.alloc_heap_new w _, (Below.refl _ w).alloc (Nat.le_refl _) _⟩
theorem Bk.step {w wr w2 : World} {x : Rn} (h : Bk w wr x) (hb : Below wr.heap.size wr w2) : Bk w w2 x := ⟨h.x.below hb h.x.lt, bstep h.bl hb h.bl.size⟩
theorem Bk.cells {w wr : World} {x : Rn} (h : Bk w wr x) : wr.cell? ⟨w.heap.size, 0, none⟩ = some (.string x.o) ∧ wr.cell? ⟨w.heap.size, 1, none⟩ = some (.int .i64 x.t) ∧ wr.cell? ⟨w.heap.size, 2, none⟩ = some (.int .i64 x.c) ∧ wr.cell? ⟨w.heap.size, 3, none⟩ = some (.int .i64 x.l) ∧ wr.cell? ⟨w.heap.size, 4, none⟩ = some (.string x.d) := ⟨h.x.cell rfl, h.x.cell rfl, h.x.cell rfl, h.x.cell rfl, h.x.cell rfl⟩
theorem rs_cells {w : World} {p : Option Addr} {L : List Rn} (hat : RsAt w p L) {g off : Nat} (hp : p = some ⟨g, off, none⟩) {j : Nat} (hj : j < L.length) {V : World} (hV : Below w.heap.size w V) :
  V.cell? ⟨g, off + j * 5, none⟩ = some (.string (rAt L j).o) ∧ V.cell? ⟨g, off + j * 5 + 1, none⟩ = some (.int .i64 (rAt L j).t) ∧ V.cell? ⟨g, off + j * 5 + 2, none⟩ = some (.int .i64 (rAt L j).c) ∧ V.cell? ⟨g, off + j * 5 + 3, none⟩ = some (.int .i64 (rAt L j).l) ∧ V.cell? ⟨g, off + j * 5 + 4, none⟩ = some (.string (rAt L j).d) := by
 obtain ⟨g', off', hp', hg, q0, q1, q2, q3, q4⟩ := hat j hj
 rw [hp] at hp'
 injection hp' with e
 injection e with e1 e2
 subst e1 e2
 rw [rAt_get hj] at q0 q1 q2 q3 q4
 exact ⟨(hV.cell (p := ⟨g, off + j * 5, none⟩) hg).trans q0, (hV.cell (p := ⟨g, off + j * 5 + 1, none⟩) hg).trans q1, (hV.cell (p := ⟨g, off + j * 5 + 2, none⟩) hg).trans q2, (hV.cell (p := ⟨g, off + j * 5 + 3, none⟩) hg).trans q3, (hV.cell (p := ⟨g, off + j * 5 + 4, none⟩) hg).trans q4⟩
theorem rs_at {w : World} {p : Option Addr} {L : List Rn} (hat : RsAt w p L) {k : Nat} (hk : k < L.length) : ∃ g off, p = some ⟨g, off, none⟩ := by
 obtain ⟨g, off, hp, _⟩ := hat k hk
 exact ⟨g, off, hp⟩
end Go.Proofs.YtoabnpdoicbpiaaGreat
