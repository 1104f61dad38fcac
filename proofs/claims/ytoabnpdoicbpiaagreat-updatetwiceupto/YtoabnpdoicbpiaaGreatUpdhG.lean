import Derived.Test.YtoabnpdoicbpiaaGreatUpd5G
import Derived.Test.YtoabnpdoicbpiaaGreatWc6G
import Derived.Test.YtoabnpdoicbpiaaGreatZq1G
import Derived.Test.YtoabnpdoicbpiaaGreatMf0G
namespace Go.Proofs.YtoabnpdoicbpiaaGreat
set_option linter.unusedVariables false
set_option linter.unusedSimpArgs false
open Go.RowKit Go.Shelf Go.Maps Go.Proofs.YtoabnpdoicbpiaaGreat.Nm Go.Proofs.YtoabnpdoicbpiaaGreat.Zs
set_option maxRecDepth 100000 in
set_option maxHeartbeats 1000000 in
theorem isChangeU_any (o d : ByteArray) (t l : Int) (w : World) : Calls Tryz.prog 89 #[.agg #[.string o, .int .i64 t, .int .i64 1, .int .i64 l, .string d]] w fun r w' => r = .returned (.bool (decide (l ≤ 2147483647))) ∧ Below w.heap.size w w' := by
 obtain ⟨wb, hwb⟩ : ∃ v, w.alloc (.cells #[.string o, .int .i64 t, .int .i64 1, .int .i64 l, .string d] 29) = v := ⟨_, rfl⟩
 have HB1 : Hid (Below w.heap.size w wb) := hwb ▸ (Below.refl _ w).alloc (Nat.le_refl _) _
 have HX1 : Hid (Bx wb w.heap.size #[.string o, .int .i64 t, .int .i64 1, .int .i64 l, .string d] 29) := hwb ▸ World.alloc_heap_new w _
 obtain ⟨c0, c1, c2, c3, c4⟩ := bx5U HX1.out
 by_cases hl : l ≤ 2147483647
 ·rw [decide_eq_true hl]
  go_enter Tryz.func89, Tryz.ntmps89
  go_wp2_with fail
  go_ret
  exact ⟨rfl, HB1.out⟩
 ·rw [decide_eq_false hl]
  go_enter Tryz.func89, Tryz.ntmps89
  go_wp2_with fail
  go_ret
  exact ⟨rfl, HB1.out⟩
def chU (apex : ByteArray) (r : Rn) : Int := if withinB r.o apex = true then (if r.l ≤ 2147483647 then 0 else 1) else 10
def chkA (apex : ByteArray) : List Rn → Int
 | [] => 0
 | r :: l => if chU apex r = 0 then chkA apex l else chU apex r
section
variable {n : Nat} {W : World} {apex : ByteArray} {L : List Rn} {ord : List Nat} {Z RW NM C m cnt : Nat} {p : Option Addr} {cp : Nat} {f : ByteArray → Option Nat}
set_option maxRecDepth 100000 in
set_option maxHeartbeats 4000000 in
theorem checkChangeU_any (o d : ByteArray) (t l : Int) (h : Zon n W apex L ord Z RW NM C m cnt p cp f) (ho : o.size ≤ maxLen) : Calls Tryz.prog 57 #[.pointer (some ⟨Z, 0, none⟩), .agg #[.string o, .int .i64 t, .int .i64 1, .int .i64 l, .string d]] W fun r w' => r = .returned (.int .i64 (chU apex ⟨o, t, 1, l, d⟩)) ∧ Below W.heap.size W w' := by
 obtain ⟨wb, hwb⟩ : ∃ v, W.alloc (.cells #[.string o, .int .i64 t, .int .i64 1, .int .i64 l, .string d] 29) = v := ⟨_, rfl⟩
 have HB1 : Hid (Below W.heap.size W wb) := hwb ▸ (Below.refl _ W).alloc (Nat.le_refl _) _
 have HX1 : Hid (Bx wb W.heap.size #[.string o, .int .i64 t, .int .i64 1, .int .i64 l, .string d] 29) := hwb ▸ World.alloc_heap_new W _
 have hz := h.step HB1.out
 have HA : Hid (∀ V, wb.grownBy V none → Calls Tryz.prog 30 #[.pointer (some ⟨Z, 0, none⟩)] V fun r w' => r = .returned (.string apex) ∧ w' = V) := fun V hV => zApex_any (hz.step ⟨hV.os, hV.tape, hV.output, hV.size, fun k hk => hV.block k hk (by simp)⟩)
 have h255 : apex.size ≤ 255 := ((isN_iff _).1 h.laid.na).1
 have HW := hide' (fun V => within_any o apex V ho (by unfold maxLen; omega))
 have HF : Hid (∀ V : World, wb.grownBy V none → V.cell? ⟨W.heap.size, 0, none⟩ = some (.string o) ∧ V.cell? ⟨W.heap.size, 1, none⟩ = some (.int .i64 t) ∧ V.cell? ⟨W.heap.size, 2, none⟩ = some (.int .i64 1) ∧ V.cell? ⟨W.heap.size, 3, none⟩ = some (.int .i64 l) ∧ V.cell? ⟨W.heap.size, 4, none⟩ = some (.string d)) := fun V hV => bx5U (HX1.out.grown hV (by simp))
 have HI := hide' (fun V => isChangeU_any o d t l V)
 have HE : Hid (∀ b1 b2 : Bool, withinB o apex = b1 → decide (l ≤ 2147483647) = b2 → chU apex ⟨o, t, 1, l, d⟩ = if b1 = true then (if b2 = true then 0 else 1) else 10) := fun b1 b2 h1 h2 => by
  unfold chU
  subst h1 h2
  simp
 obtain ⟨b1, hb1⟩ : ∃ b, withinB o apex = b := ⟨_, rfl⟩
 obtain ⟨b2, hb2⟩ : ∃ b, decide (l ≤ 2147483647) = b := ⟨_, rfl⟩
 have HE2 := hide' (HE.out b1 b2 hb1 hb2)
 rw [hb1] at HW
 rw [hb2] at HI
 clear h hz h255 hb1 hb2 ho HE
 go_enter Tryz.func57, Tryz.ntmps57
 go_wp2_with fail
 refine wp_region_held_drew (S := fun V => wb.grownBy V none) (by kernel_rfl) ?_ (fun hHeld => ?_)
 ·exact ⟨rfl, rfl, rfl, Nat.le_refl _, fun _ _ _ => rfl⟩
 refine takeD 0 (some 5) (.pointer (some ⟨W.heap.size, 0, none⟩)) rfl rfl (by kernel_rfl) (by kernel_rfl) (by kernel_rfl) (fun _ _ _ h => h) (Or.inl ⟨by rfl, ?_⟩) (by assumption) ?_
 ·intro w hSw; (try dsimp only at hSw); obtain ⟨c0, c1, c2, c3, c4⟩ := HF.out w hSw; go_simp <;> (intros; omega)
 simp only [Act.put, List.setIfInBounds_toArray, List.set_cons_zero, List.set_cons_succ]
 refine takeD 1 (some 6) (.string o) rfl rfl (by kernel_rfl) (by kernel_rfl) (by kernel_rfl) (fun _ _ _ h => h) (Or.inl ⟨by rfl, ?_⟩) (by assumption) ?_
 ·intro w hSw; (try dsimp only at hSw); obtain ⟨c0, c1, c2, c3, c4⟩ := HF.out w hSw; go_simp <;> (intros; omega)
 simp only [Act.put, List.setIfInBounds_toArray, List.set_cons_zero, List.set_cons_succ]
 refine takeD 2 (some 7) (.pointer (some ⟨Z, 0, none⟩)) rfl rfl (by kernel_rfl) (by kernel_rfl) (by kernel_rfl) (fun _ _ _ h => h) (Or.inl ⟨by rfl, ?_⟩) (by assumption) ?_
 ·intro w hSw; (try dsimp only at hSw); obtain ⟨c0, c1, c2, c3, c4⟩ := HF.out w hSw; go_simp <;> (intros; omega)
 simp only [Act.put, List.setIfInBounds_toArray, List.set_cons_zero, List.set_cons_succ]
 refine wpAnyH_ready (rs := [3]) (by kernel_rfl) (by simp) ?_
 refine AllReadyH.cons rfl (fun K hK => ?_) AllReadyH.nil
 go_simp
 go_at_call 30; refine (HA.out _ hHeld).mono ?_; rintro e1 w1 ⟨rfl, hw1⟩; have hw1' := hw1.symm; subst hw1'
 go_wp2_with fail
 refine hK.out _ _ (hHeld) (fun hHeld => ?_)
 clear hK K
 try simp only [Act.put, List.setIfInBounds_toArray, List.set_cons_zero, List.set_cons_succ]
 refine wpAnyH_ready (rs := [4]) (by kernel_rfl) (by simp) ?_
 refine AllReadyH.cons rfl (fun K hK => ?_) AllReadyH.nil
 go_simp
 go_at_call 14; refine (HW.out _).mono ?_; rintro e2 w2 ⟨rfl, hB2⟩; have HG2 : Hid (wb.grownBy w2 none) := grown_trans hHeld (grown_below hB2 none); clear hB2
 go_wp2_with fail
 refine hK.out _ _ (HG2.out) (fun hHeld => ?_)
 clear hK K
 try simp only [Act.put, List.setIfInBounds_toArray, List.set_cons_zero, List.set_cons_succ]
 refine takeD 5 (some 10) (.bool (!b1)) rfl rfl (by kernel_rfl) (by kernel_rfl) (by kernel_rfl) (fun _ _ _ h => h) (Or.inl ⟨by rfl, ?_⟩) (by assumption) ?_
 ·intro w hSw; (try dsimp only at hSw); obtain ⟨c0, c1, c2, c3, c4⟩ := HF.out w hSw; go_simp <;> (intros; omega)
 simp only [Act.put, List.setIfInBounds_toArray, List.set_cons_zero, List.set_cons_succ]
 refine wpAnyH_done (by kernel_rfl) ?_ _
 clear hHeld
 obtain ⟨c0, c1, c2, c3, c4⟩ := HF.out w2 HG2.out
 have HB2 : Hid (Below W.heap.size W w2) := HB1.out.grown HG2.out HB1.out.size (fun k e => by cases e)
 cases b1 with
 | false =>
  go_wp2_with fail
  go_ret
  exact ⟨by rw [HE2.out]; rfl, HB2.out⟩
 | true =>
  cases b2 with
  | false =>
   go_wp2_with (go_at_call 89; refine (HI.out _).mono ?_; rintro e3 w3 ⟨rfl, hB3⟩; have HB3 := hide' (bstep HB2.out hB3 HB2.out.size); clear hB3)
   go_ret
   exact ⟨by rw [HE2.out]; rfl, HB3.out⟩
  | true =>
   go_wp2_with (go_at_call 89; refine (HI.out _).mono ?_; rintro e3 w3 ⟨rfl, hB3⟩; have HB3 := hide' (bstep HB2.out hB3 HB2.out.size); clear hB3)
   go_ret
   exact ⟨by rw [HE2.out]; rfl, HB3.out⟩
end
theorem puRow : (133 : TypeId) < Tryz.prog.types.size := of_decide_eq_true (by kernel_rfl)
theorem puWide : (match Tryz.prog.underlying 133 with | some (.array _ _) | some (.struct _) => true | _ => false) = true := by kernel_rfl
set_option maxRecDepth 100000 in
theorem puKeyed : Keyed Tryz.prog 133 := Keyed.of_law (deep_law_laid zlaid (m := 3) (by omega) puRow (by kernel_rfl) puWide)
set_option maxRecDepth 100000 in
theorem mkTold (w : World) : (Instr.makeMap 131 none).run Tryz.prog w = .ok (.map (some w.heap.size)) (w.alloc (.map #[] 0)) := by
 simp [Instr.makeMap, run_underlying Tryz.underlying131, newObj]
 rfl
set_option maxRecDepth 100000 in
set_option maxHeartbeats 4000000 in
theorem standJustU_any (Z : Nat) (W : World) : Calls Tryz.prog 56 #[.pointer (some ⟨Z, 0, none⟩), .slice none 0 0] W fun r w' => r = .returned (.bool true) ∧ Below W.heap.size W w' := by
 have mk := mkTold W
 obtain ⟨wa, hwa⟩ : ∃ v, W.alloc (.map #[] 0) = v := ⟨_, rfl⟩
 have HB1 : Hid (Below W.heap.size W wa) := hwa ▸ (Below.refl _ W).alloc (Nat.le_refl _) _
 have hm : Lmap 133 (fun _ => none) (fun _ : Unit => ()) (fun _ => .string []) (fun _ => True) (fun _ => .map []) wa W.heap.size [] := hwa ▸ Lmap.made W
 obtain ⟨w0, left0, hrun0, hrg0, hall0, hg0, hs0⟩ := Lmap.range (T := 131) hm puKeyed Tryz.underlying131
 have HB2 : Hid (Below W.heap.size W w0) := HB1.out.grown hg0 HB1.out.size (fun k e => by cases e)
 have HN : Hid (∀ ty, (Instr.next (.pointer (some ⟨wa.heap.size, 0, none⟩)) false ty).run Tryz.prog w0 = .ok (.tuple #[.bool false]) w0) := fun ty => by
  rcases Lrng.next hrg0 puKeyed (mk := fun _ => .nilFunc) (kv := fun _ => .nilFunc) (fun e v ps q => by cases q) (fun e he => by cases he) ty with ⟨_, _, q⟩ | ⟨a, ha, _⟩
  ·exact q
  ·cases ha
 rw [hwa] at mk
 clear hm hrg0 hall0 hg0 hs0
 go_enter Tryz.func56, Tryz.ntmps56
 go_wp2_with fail
 go_loopw [15] (fun v wr => v = .int .i64 0 ∧ wr = wa) (fun _ _ => 0)
 case atStart => exact ⟨rfl, rfl⟩
 case round =>
  obtain ⟨rfl, hwr⟩ := hrel
  have hwr' := hwr.symm
  subst hwr'
  go_wp2_with fail
  go_loopw [44] (fun _ wr => wr = w0) (fun _ _ => 0)
  case atStart => rfl
  case round =>
   have hwr' := hrel.symm
   subst hwr'
   have hn := HN.out 0
   go_wp2_with fail
   go_ret
   exact ⟨rfl, HB2.out⟩
end Go.Proofs.YtoabnpdoicbpiaaGreat
namespace Go.Proofs.YtoabnpdoicbpiaaGreat
set_option linter.unusedVariables false
set_option linter.unusedSimpArgs false
open Go.RowKit Go.Shelf Go.Maps Go.Proofs.YtoabnpdoicbpiaaGreat.Nm Go.Proofs.YtoabnpdoicbpiaaGreat.Zs
structure AskU (w : World) (g : Nat) (top : ByteArray) (a0 : Option Addr) (A : List Rn) : Prop where
 q : Bx w g #[.string top, .int .i64 6, .int .i64 1] 63
 a : RsAt w a0 A
 t : top.size ≤ 1048576
 s : ∀ r ∈ A, rSm r
 c : ∀ r ∈ A, r.c = 1
 n : A.length ≤ 1048576
theorem AskU.step {w w' : World} {g : Nat} {top : ByteArray} {a0 : Option Addr} {A : List Rn} (h : AskU w g top a0 A) (hb : Below w.heap.size w w') : AskU w' g top a0 A :=
 ⟨h.q.below hb h.q.lt, rsAt_below h.a hb, h.t, h.s, h.c, h.n⟩
theorem AskU.ls {w : World} {g : Nat} {top : ByteArray} {a0 : Option Addr} {A : List Rn} (h : AskU w g top a0 A) : LsAt w (some ⟨g, 0, none⟩) none a0 none [⟨top, 6, 1⟩] [] A [] := by
 have hm : (1048576 : Nat) ≤ maxLen := by unfold maxLen; omega
 refine ⟨fun k hk => ?_, (fun k hk => absurd hk (by simp)), h.a, (fun k hk => absurd hk (by simp)), fun q hq => ?_, (fun r hr => by cases hr), fun r hr => ?_, (fun r hr => by cases hr)⟩
 ·obtain rfl : k = 0 := by simp at hk; omega
  exact ⟨g, 0, rfl, h.q.lt, h.q.cell rfl, h.q.cell rfl, h.q.cell rfl⟩
 ·obtain rfl := List.mem_singleton.1 hq
  exact Nat.le_trans h.t hm
 ·have := h.s r hr
  exact ⟨Nat.le_trans this.1 hm, Nat.le_trans this.2 (by omega)⟩
def mgB (top : ByteArray) (A : List Rn) : Bool := msgOK 9 5 0 [⟨top, 6, 1⟩] [] A []
theorem bx14U {w : World} {R : Nat} {T : TypeId} {a b c d e f i j k l m n o p : Value} (h : Bx w R #[a, b, c, d, e, f, i, j, k, l, m, n, o, p] T) : w.cell? ⟨R, 0, none⟩ = some a ∧ w.cell? ⟨R, 1, none⟩ = some b ∧ w.cell? ⟨R, 2, none⟩ = some c ∧ w.cell? ⟨R, 3, none⟩ = some d ∧ w.cell? ⟨R, 4, none⟩ = some e ∧ w.cell? ⟨R, 5, none⟩ = some f ∧ w.cell? ⟨R, 6, none⟩ = some i ∧ w.cell? ⟨R, 7, none⟩ = some j ∧ w.cell? ⟨R, 8, none⟩ = some k ∧ w.cell? ⟨R, 9, none⟩ = some l ∧ w.cell? ⟨R, 10, none⟩ = some m ∧ w.cell? ⟨R, 11, none⟩ = some n ∧ w.cell? ⟨R, 12, none⟩ = some o ∧ w.cell? ⟨R, 13, none⟩ = some p :=
 ⟨h.cell rfl, h.cell rfl, h.cell rfl, h.cell rfl, h.cell rfl, h.cell rfl, h.cell rfl, h.cell rfl, h.cell rfl, h.cell rfl, h.cell rfl, h.cell rfl, h.cell rfl, h.cell rfl⟩
set_option maxRecDepth 100000 in
set_option maxHeartbeats 8000000 in
theorem isUpdateU_any {w : World} {g : Nat} {top : ByteArray} {a0 : Option Addr} {A : List Rn} (ac : Nat) (h : AskU w g top a0 A) :
  Calls Tryz.prog 54 #[.agg #[.int .i64 9, .bool false, .int .i64 5, .bool false, .bool false, .bool false, .bool false, .bool false, .bool false, .int .i64 0, .slice (some ⟨g, 0, none⟩) 1 1, .slice none 0 0, .slice a0 A.length ac, .slice none 0 0]] w fun r w' => r = .returned (.bool (mgB top A)) ∧ Below w.heap.size w w' := by
 obtain ⟨wb, hwb⟩ : ∃ v, w.alloc (.cells #[.int .i64 9, .bool false, .int .i64 5, .bool false, .bool false, .bool false, .bool false, .bool false, .bool false, .int .i64 0, .slice (some ⟨g, 0, none⟩) 1 1, .slice none 0 0, .slice a0 A.length ac, .slice none 0 0] 33) = v := ⟨_, rfl⟩
 have HB1 : Hid (Below w.heap.size w wb) := hwb ▸ (Below.refl _ w).alloc (Nat.le_refl _) _
 have HX1 : Hid (Bx wb w.heap.size #[.int .i64 9, .bool false, .int .i64 5, .bool false, .bool false, .bool false, .bool false, .bool false, .bool false, .int .i64 0, .slice (some ⟨g, 0, none⟩) 1 1, .slice none 0 0, .slice a0 A.length ac, .slice none 0 0] 33) := hwb ▸ World.alloc_heap_new w _
 have h1 := h.step HB1.out
 have HC : Hid (Calls Tryz.prog 84 #[.agg #[.int .i64 9, .bool false, .int .i64 5, .bool false, .bool false, .bool false, .bool false, .bool false, .bool false, .int .i64 0, .slice (some ⟨g, 0, none⟩) 1 1, .slice none 0 0, .slice a0 A.length ac, .slice none 0 0]] wb fun e w' => e = .returned (.int .i64 (if mgB top A = true then 0 else 8)) ∧ Below wb.heap.size wb w') := wcheck_any 9 5 0 false false false false false false false (some ⟨g, 0, none⟩) none a0 none 1 0 ac 0 [⟨top, 6, 1⟩] [] A [] wb h1.ls
 have HQ := hide' h1.q
 obtain ⟨c0, c1, c2, c3, c4, c5, c6, c7, c8, c9, c10, c11, c12, c13⟩ := bx14U HX1.out
 obtain ⟨b, hb⟩ : ∃ b, mgB top A = b := ⟨_, rfl⟩
 rw [hb] at HC ⊢
 clear h h1 hb
 cases b with
 | false =>
  go_enter Tryz.func54, Tryz.ntmps54
  go_wp2_with (go_at_call 84; refine HC.out.mono ?_; rintro e1 w1 ⟨rfl, hB⟩; have HB2 := hide' (bstep HB1.out hB HB1.out.size); clear hB)
  go_ret
  exact ⟨rfl, HB2.out⟩
 | true =>
  go_enter Tryz.func54, Tryz.ntmps54
  go_wp2_with (go_at_call 84; refine HC.out.mono ?_; rintro e1 w1 ⟨rfl, hB⟩; have HB2 := hide' (bstep HB1.out hB HB1.out.size); have HX2 := hide' (HX1.out.below hB HX1.out.lt); have HQ2 := hide' (HQ.out.below hB HQ.out.lt); clear hB; obtain ⟨d0, d1, d2, d3, d4, d5, d6, d7, d8, d9, d10, d11, d12, d13⟩ := bx14U HX2.out; have q0 : w1.cell? ⟨g, 0, none⟩ = some (.string top) := HQ2.out.cell rfl; have q1 : w1.cell? ⟨g, 1, none⟩ = some (.int .i64 6) := HQ2.out.cell rfl; have q2 : w1.cell? ⟨g, 2, none⟩ = some (.int .i64 1) := HQ2.out.cell rfl; obtain ⟨w2, hw2⟩ : ∃ v, w1.alloc (.cells #[.string top, .int .i64 6, .int .i64 1] 63) = v := ⟨_, rfl⟩; have HX3 : Hid (Bx w2 w1.heap.size #[.string top, .int .i64 6, .int .i64 1] 63) := hw2 ▸ World.alloc_heap_new w1 _; have HB3 : Hid (Below w.heap.size w w2) := hw2 ▸ HB2.out.alloc HB2.out.size _; have y0 : w2.cell? ⟨w1.heap.size, 0, none⟩ = some (.string top) := HX3.out.cell rfl; have y1 : w2.cell? ⟨w1.heap.size, 1, none⟩ = some (.int .i64 6) := HX3.out.cell rfl; have y2 : w2.cell? ⟨w1.heap.size, 2, none⟩ = some (.int .i64 1) := HX3.out.cell rfl)
  go_ret
  exact ⟨rfl, HB3.out⟩
def ckU (top apex : ByteArray) (A : List Rn) : Int := if mgB top A = true then (if eqB top apex = true then chkA apex A else 9) else 1
theorem chkA_drop {apex : ByteArray} {A : List Rn} {k : Nat} (hk : k < A.length) : chkA apex (A.drop k) = if chU apex A[k] = 0 then chkA apex (A.drop (k + 1)) else chU apex A[k] := by
 rw [List.drop_eq_getElem_cons hk]
 rfl
section
variable {n : Nat} {W : World} {apex : ByteArray} {L : List Rn} {ord : List Nat} {Z RW NM C m cnt : Nat} {p : Option Addr} {cp : Nat} {f : ByteArray → Option Nat}
set_option maxRecDepth 100000 in
set_option maxHeartbeats 8000000 in
theorem checkU_any {g : Nat} {top : ByteArray} {a0 : Option Addr} {A : List Rn} (ac : Nat) (h : Zon n W apex L ord Z RW NM C m cnt p cp f) (hm : AskU W g top a0 A) :
  Calls Tryz.prog 23 #[.pointer (some ⟨Z, 0, none⟩), .agg #[.int .i64 9, .bool false, .int .i64 5, .bool false, .bool false, .bool false, .bool false, .bool false, .bool false, .int .i64 0, .slice (some ⟨g, 0, none⟩) 1 1, .slice none 0 0, .slice a0 A.length ac, .slice none 0 0]] W fun r w' => r = .returned (.int .i64 (ckU top apex A)) ∧ Below W.heap.size W w' := by
 obtain ⟨wb, hwb⟩ : ∃ v, W.alloc (.cells #[.int .i64 9, .bool false, .int .i64 5, .bool false, .bool false, .bool false, .bool false, .bool false, .bool false, .int .i64 0, .slice (some ⟨g, 0, none⟩) 1 1, .slice none 0 0, .slice a0 A.length ac, .slice none 0 0] 33) = v := ⟨_, rfl⟩
 have HB1 : Hid (Below W.heap.size W wb) := hwb ▸ (Below.refl _ W).alloc (Nat.le_refl _) _
 have HX1 : Hid (Bx wb W.heap.size #[.int .i64 9, .bool false, .int .i64 5, .bool false, .bool false, .bool false, .bool false, .bool false, .bool false, .int .i64 0, .slice (some ⟨g, 0, none⟩) 1 1, .slice none 0 0, .slice a0 A.length ac, .slice none 0 0] 33) := hwb ▸ World.alloc_heap_new W _
 have h1 := h.step HB1.out
 have hm1 := hm.step HB1.out
 have HIs := hide' (isUpdateU_any ac hm1)
 have HST := hide' (fun V => standJustU_any Z V)
 have h255 : apex.size ≤ 255 := ((isN_iff _).1 h.laid.na).1
 have hmx : (1048576 : Nat) ≤ maxLen := by unfold maxLen; omega
 have HEq := hide' (fun V => equal_any top apex V (Nat.le_trans hm.t hmx) (by omega))
 have HA : Hid (∀ V, Below wb.heap.size wb V → Calls Tryz.prog 30 #[.pointer (some ⟨Z, 0, none⟩)] V fun r w' => r = .returned (.string apex) ∧ w' = V) := fun V hV => zApex_any (h1.step hV)
 have HCh : Hid (∀ V, Below wb.heap.size wb V → ∀ o t l d, (⟨o, t, 1, l, d⟩ : Rn) ∈ A → Calls Tryz.prog 57 #[.pointer (some ⟨Z, 0, none⟩), .agg #[.string o, .int .i64 t, .int .i64 1, .int .i64 l, .string d]] V fun r w' => r = .returned (.int .i64 (chU apex ⟨o, t, 1, l, d⟩)) ∧ Below V.heap.size V w') := fun V hV o t l d hr => checkChangeU_any o d t l (h1.step hV) (Nat.le_trans (hm.s _ hr).1 hmx)
 have HM1 := hide' hm1
 have HF : Hid (∀ V : World, Below wb.heap.size wb V → V.cell? ⟨W.heap.size, 10, none⟩ = some (.slice (some ⟨g, 0, none⟩) 1 1) ∧ V.cell? ⟨W.heap.size, 11, none⟩ = some (.slice none 0 0) ∧ V.cell? ⟨W.heap.size, 12, none⟩ = some (.slice a0 A.length ac) ∧ V.cell? ⟨g, 0, none⟩ = some (.string top) ∧ RsAt V a0 A) := fun V hV => by
  have hX := HX1.out.below hV HX1.out.lt
  have hq := hm1.step hV
  exact ⟨hX.cell rfl, hX.cell rfl, hX.cell rfl, hq.q.cell rfl, hq.a⟩
 have HCk : Hid (∀ b1 b2, mgB top A = b1 → eqB top apex = b2 → ckU top apex A = if b1 = true then (if b2 = true then chkA apex A else 9) else 1) := fun b1 b2 e1 e2 => by
  subst e1 e2
  rfl
 obtain ⟨b1, hb1⟩ : ∃ b, mgB top A = b := ⟨_, rfl⟩
 obtain ⟨b2, hb2⟩ : ∃ b, eqB top apex = b := ⟨_, rfl⟩
 have HCk2 := hide' (HCk.out b1 b2 hb1 hb2)
 rw [hb1] at HIs
 rw [hb2] at HEq
 have HOne : Hid (∀ r ∈ A, r.c = 1) := hm.c
 have hAl := hm.n
 obtain ⟨c0, c1, c2, c3, c4, c5, c6, c7, c8, c9, c10, c11, c12, c13⟩ := bx14U HX1.out
 clear h hm h1 hm1 h255 hmx hb1 hb2 HCk
 cases b1 with
 | false =>
  go_enter Tryz.func23, Tryz.ntmps23
  go_wp2_with (go_at_call 54; refine HIs.out.mono ?_; rintro e1 w1 ⟨rfl, hB⟩; have HB2 := hide' (bstep HB1.out hB HB1.out.size); clear hB)
  go_ret
  exact ⟨by rw [HCk2.out]; rfl, HB2.out⟩
 | true =>
  go_enter Tryz.func23, Tryz.ntmps23
  go_wp2_with (go_at_call 54; refine HIs.out.mono ?_; rintro e1 w1 ⟨rfl, hB⟩; have HG1 := hide' hB; clear hB; clear c0 c1 c2 c3 c4 c5 c6 c7 c8 c9 c10 c11 c12 c13)
  refine wp_region_held_drew (S := fun V => Below w1.heap.size w1 V) (by kernel_rfl) ?_ (fun hHeld => ?_)
  ·exact ⟨rfl, rfl, rfl, Nat.le_refl _, fun _ _ => rfl⟩
  refine takeD 0 (some 14) (.pointer (some ⟨Z, 0, none⟩)) rfl rfl (by kernel_rfl) (by kernel_rfl) (by kernel_rfl) (fun _ _ _ h => h) (Or.inl ⟨by rfl, ?_⟩) (by assumption) ?_
  ·intro w hSw; (try dsimp only at hSw); obtain ⟨c10, c11, c12, q0, _⟩ := HF.out w (bstep HG1.out hSw HG1.out.size); go_simp <;> (intros; omega)
  simp only [Act.put, List.setIfInBounds_toArray, List.set_cons_zero, List.set_cons_succ]
  refine takeD 1 (some 15) (.bool false) rfl rfl (by kernel_rfl) (by kernel_rfl) (by kernel_rfl) (fun _ _ _ h => h) (Or.inl ⟨by rfl, ?_⟩) (by assumption) ?_
  ·intro w hSw; (try dsimp only at hSw); obtain ⟨c10, c11, c12, q0, _⟩ := HF.out w (bstep HG1.out hSw HG1.out.size); go_simp <;> (intros; omega)
  simp only [Act.put, List.setIfInBounds_toArray, List.set_cons_zero, List.set_cons_succ]
  refine takeD 2 (some 16) (.bool false) rfl rfl (by kernel_rfl) (by kernel_rfl) (by kernel_rfl) (fun _ _ _ h => h) (Or.inl ⟨by rfl, ?_⟩) (by assumption) ?_
  ·intro w hSw; (try dsimp only at hSw); obtain ⟨c10, c11, c12, q0, _⟩ := HF.out w (bstep HG1.out hSw HG1.out.size); go_simp <;> (intros; omega)
  simp only [Act.put, List.setIfInBounds_toArray, List.set_cons_zero, List.set_cons_succ]
  refine takeD 3 (some 17) (.pointer (some ⟨W.heap.size, 10, none⟩)) rfl rfl (by kernel_rfl) (by kernel_rfl) (by kernel_rfl) (fun _ _ _ h => h) (Or.inl ⟨by rfl, ?_⟩) (by assumption) ?_
  ·intro w hSw; (try dsimp only at hSw); obtain ⟨c10, c11, c12, q0, _⟩ := HF.out w (bstep HG1.out hSw HG1.out.size); go_simp <;> (intros; omega)
  simp only [Act.put, List.setIfInBounds_toArray, List.set_cons_zero, List.set_cons_succ]
  refine takeD 4 (some 18) (.slice (some ⟨g, 0, none⟩) 1 1) rfl rfl (by kernel_rfl) (by kernel_rfl) (by kernel_rfl) (fun _ _ _ h => h) (Or.inl ⟨by rfl, ?_⟩) (by assumption) ?_
  ·intro w hSw; (try dsimp only at hSw); obtain ⟨c10, c11, c12, q0, _⟩ := HF.out w (bstep HG1.out hSw HG1.out.size); go_simp <;> (intros; omega)
  simp only [Act.put, List.setIfInBounds_toArray, List.set_cons_zero, List.set_cons_succ]
  refine takeD 5 (some 19) (.pointer (some ⟨g, 0, none⟩)) rfl rfl (by kernel_rfl) (by kernel_rfl) (by kernel_rfl) (fun _ _ _ h => h) (Or.inl ⟨by rfl, ?_⟩) (by assumption) ?_
  ·intro w hSw; (try dsimp only at hSw); obtain ⟨c10, c11, c12, q0, _⟩ := HF.out w (bstep HG1.out hSw HG1.out.size); go_simp <;> (intros; omega)
  simp only [Act.put, List.setIfInBounds_toArray, List.set_cons_zero, List.set_cons_succ]
  refine takeD 6 (some 20) (.pointer (some ⟨g, 0, none⟩)) rfl rfl (by kernel_rfl) (by kernel_rfl) (by kernel_rfl) (fun _ _ _ h => h) (Or.inl ⟨by rfl, ?_⟩) (by assumption) ?_
  ·intro w hSw; (try dsimp only at hSw); obtain ⟨c10, c11, c12, q0, _⟩ := HF.out w (bstep HG1.out hSw HG1.out.size); go_simp <;> (intros; omega)
  simp only [Act.put, List.setIfInBounds_toArray, List.set_cons_zero, List.set_cons_succ]
  refine takeD 7 (some 21) (.string top) rfl rfl (by kernel_rfl) (by kernel_rfl) (by kernel_rfl) (fun _ _ _ h => h) (Or.inl ⟨by rfl, ?_⟩) (by assumption) ?_
  ·intro w hSw; (try dsimp only at hSw); obtain ⟨c10, c11, c12, q0, _⟩ := HF.out w (bstep HG1.out hSw HG1.out.size); go_simp <;> (intros; omega)
  simp only [Act.put, List.setIfInBounds_toArray, List.set_cons_zero, List.set_cons_succ]
  refine takeD 8 (some 22) (.pointer (some ⟨Z, 0, none⟩)) rfl rfl (by kernel_rfl) (by kernel_rfl) (by kernel_rfl) (fun _ _ _ h => h) (Or.inl ⟨by rfl, ?_⟩) (by assumption) ?_
  ·intro w hSw; (try dsimp only at hSw); obtain ⟨c10, c11, c12, q0, _⟩ := HF.out w (bstep HG1.out hSw HG1.out.size); go_simp <;> (intros; omega)
  simp only [Act.put, List.setIfInBounds_toArray, List.set_cons_zero, List.set_cons_succ]
  refine wpAnyH_ready (rs := [9]) (by kernel_rfl) (by simp) ?_
  refine AllReadyH.cons rfl (fun K hK => ?_) AllReadyH.nil
  go_simp
  go_at_call 30; refine (HA.out _ (bstep HG1.out hHeld HG1.out.size)).mono ?_; rintro e2 w2 ⟨rfl, hw2⟩; have hw2' := hw2.symm; subst hw2'
  go_wp2_with fail
  refine hK.out _ _ (hHeld) (fun hHeld => ?_)
  clear hK K
  try simp only [Act.put, List.setIfInBounds_toArray, List.set_cons_zero, List.set_cons_succ]
  refine wpAnyH_ready (rs := [10]) (by kernel_rfl) (by simp) ?_
  refine AllReadyH.cons rfl (fun K hK => ?_) AllReadyH.nil
  go_simp
  go_at_call 34; refine (HEq.out _).mono ?_; rintro e3 w3 ⟨rfl, hB3⟩; have HG3 : Hid (Below w1.heap.size w1 w3) := bstep hHeld hB3 hHeld.size; clear hB3
  go_wp2_with fail
  refine hK.out _ _ (HG3.out) (fun hHeld => ?_)
  clear hK K
  try simp only [Act.put, List.setIfInBounds_toArray, List.set_cons_zero, List.set_cons_succ]
  refine takeD 11 (some 25) (.bool (!b2)) rfl rfl (by kernel_rfl) (by kernel_rfl) (by kernel_rfl) (fun _ _ _ h => h) (Or.inl ⟨by rfl, ?_⟩) (by assumption) ?_
  ·intro w hSw; (try dsimp only at hSw); obtain ⟨c10, c11, c12, q0, _⟩ := HF.out w (bstep HG1.out hSw HG1.out.size); go_simp <;> (intros; omega)
  simp only [Act.put, List.setIfInBounds_toArray, List.set_cons_zero, List.set_cons_succ]
  refine takeD 12 (some 26) (.bool (!b2)) rfl rfl (by kernel_rfl) (by kernel_rfl) (by kernel_rfl) (fun _ _ _ h => h) (Or.inl ⟨by rfl, ?_⟩) (by assumption) ?_
  ·intro w hSw; (try dsimp only at hSw); obtain ⟨c10, c11, c12, q0, _⟩ := HF.out w (bstep HG1.out hSw HG1.out.size); go_simp <;> (intros; omega)
  simp only [Act.put, List.setIfInBounds_toArray, List.set_cons_zero, List.set_cons_succ]
  refine wpAnyH_done (by kernel_rfl) ?_ _
  clear hHeld
  have HG4 : Hid (Below wb.heap.size wb w3) := bstep HG1.out HG3.out HG1.out.size
  obtain ⟨c10, c11, c12, q0, -⟩ := HF.out w3 HG4.out
  cases b2 with
  | false =>
   go_wp2_with fail
   go_ret
   exact ⟨by rw [HCk2.out]; rfl, bstep HB1.out HG4.out HB1.out.size⟩
  | true =>
   go_wp2_with fail
   go_loopw [30] (fun v wr => v = .int .i64 0 ∧ wr = w3) (fun _ _ => 0)
   case atStart => exact ⟨rfl, rfl⟩
   case round =>
    obtain ⟨rfl, hwr⟩ := hrel
    have hwr' := hwr.symm
    subst hwr'
    go_wp2_with (go_at_call 56; refine (HST.out _).mono ?_; rintro e5 w5 ⟨rfl, hB5⟩; have HG5 : Hid (Below wb.heap.size wb w5) := bstep HG4.out hB5 HG4.out.size; clear hB5; clear c10 c11 c12 q0; obtain ⟨c10, c11, c12, q0, -⟩ := HF.out w5 HG5.out)
    go_loopw [49] (fun v wr => ∃ k : Nat, v = .int .i64 (k : Int) ∧ k ≤ A.length ∧ Hid (chkA apex A = chkA apex (A.drop k)) ∧ Hid (Below wb.heap.size wb wr)) (fun v _ => A.length - (intOf v).toNat)
    case atStart => exact ⟨0, rfl, Nat.zero_le _, rfl, HG5.out⟩
    case round =>
     obtain ⟨k, rfl, hk, HD, HBr⟩ := hrel
     by_cases hlt : k < A.length
     ·obtain ⟨-, -, -, -, hrs⟩ := HF.out wr HBr.out
      obtain ⟨ga, oa, ha0, hga, e0, e1, e2, e3, e4⟩ := hrs k hlt
      have HNx : Hid (chkA apex A = if chU apex A[k] = 0 then chkA apex (A.drop (k + 1)) else chU apex A[k]) := by rw [← chkA_drop hlt]; exact HD.out
      have HMe : Hid (A[k] ∈ A) := List.getElem_mem hlt
      obtain ⟨x, hx⟩ : ∃ x, A[k] = x := ⟨_, rfl⟩
      rw [hx] at e0 e1 e2 e3 e4 HNx HMe
      have hc := HOne.out _ HMe.out
      obtain ⟨o, t, c, l, d⟩ := x
      simp only at e0 e1 e2 e3 e4 hc
      subst hc
      subst ha0
      obtain ⟨wa, hwa⟩ : ∃ v, wr.alloc (.cells #[.string o, .int .i64 t, .int .i64 1, .int .i64 l, .string d] 29) = v := ⟨_, rfl⟩
      have HBa : Hid (Below wb.heap.size wb wa) := hwa ▸ HBr.out.alloc HBr.out.size _
      have HXa : Hid (Bx wa wr.heap.size #[.string o, .int .i64 t, .int .i64 1, .int .i64 l, .string d] 29) := hwa ▸ World.alloc_heap_new wr _
      obtain ⟨v0, v1, v2, v3, v4⟩ := bx5U HXa.out
      have HCa := hide' (HCh.out wa HBa.out o t l d HMe.out)
      obtain ⟨z, hz⟩ : ∃ z, chU apex ⟨o, t, 1, l, d⟩ = z := ⟨_, rfl⟩
      rw [hz] at HCa HNx
      clear hrs hx hz
      by_cases hz0 : z = 0
      ·subst hz0
       go_wp2_with (go_at_call 57; refine HCa.out.mono ?_; rintro e6 w6 ⟨rfl, hB6⟩; have HB6 := hide' (bstep HBa.out hB6 HBa.out.size); clear hB6)
       go_roundw
       case rel => exact ⟨k + 1, by go_num, by omega, (by have := HNx.out; unfold Hid; simpa using this), HB6.out⟩
       case measure => simp [intOf]; omega
      ·have nz : (z != 0) = true := by simpa using hz0
       go_wp2_with (go_at_call 57; refine HCa.out.mono ?_; rintro e6 w6 ⟨rfl, hB6⟩; have HB6 := hide' (bstep HBa.out hB6 HBa.out.size); clear hB6)
       go_ret
       have hck : ckU top apex A = z := by
        have h1 := HCk2.out
        have h2 := HNx.out
        rw [if_neg hz0] at h2
        rw [h2] at h1
        simpa using h1
       exact ⟨by rw [hck]; rfl, bstep HB1.out HB6.out HB1.out.size⟩
     ·have hkA : k = A.length := by omega
      have HE0 : Hid (chkA apex A = 0) := by
       have := HD.out
       rw [hkA, List.drop_length] at this
       exact this
      clear hkA
      go_wp2_with fail
      go_ret
      exact ⟨by have h1 := HCk2.out; simp at h1; rw [h1, HE0.out]; rfl, bstep HB1.out HBr.out HB1.out.size⟩
end
end Go.Proofs.YtoabnpdoicbpiaaGreat
