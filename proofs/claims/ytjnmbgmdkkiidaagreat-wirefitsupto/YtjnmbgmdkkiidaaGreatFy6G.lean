import Derived.Test.YtjnmbgmdkkiidaaGreatFt1G
import Derived.Test.YtjnmbgmdkkiidaaGreatWc3G
import Derived.Lib.SliceRun
import Derived.Test.YtjnmbgmdkkiidaaGreatFt2G
import Derived.Test.YtjnmbgmdkkiidaaGreatPpaG
import Derived.Test.YtjnmbgmdkkiidaaGreatMkb0G
/-
  slices.Clone of questions and records. (The verifier's own text.)
-/
namespace Go.Proofs.YtjnmbgmdkkiidaaGreat
set_option linter.unusedVariables false
open Go.RowKit Go.Shelf Go.Maps Go.Proofs.YtjnmbgmdkkiidaaGreat.Nm

set_option maxRecDepth 100000 in
set_option maxHeartbeats 1000000 in
/-- slices.Clone of records -/
theorem cloneR_any (L : List Rn) (p : Option Addr) (cap : Nat) (w : World) (hL : L.length ≤ 65535) (hat : RsAt w p L) :
    Calls Tryz.prog 52 #[.slice p L.length cap] w fun r w' => (∃ v, r = .returned v ∧ w'.ownsRow w.heap.size 59 5 v L.length (rce5 L)) ∧ Below w.heap.size w w' := by
  have qT : ∀ (w : World) (a : Option Addr) (n c n' c' : Nat), (binOp .eql 23 (.slice a n c) (.slice none n' c')).run Tryz.prog w = .ok (.bool a.isNone) w := fun w a n c n' c' => Lib.run_eql_slice_nil w _ _ a n c n' c' Tryz.underlying23
  cases p with
  | none =>
    obtain rfl : L = [] := by
      cases L with
      | nil => rfl
      | cons y l => obtain ⟨g, off, hp, _⟩ := hat 0 (by simp); cases hp
    go_enter Tryz.func52, Tryz.ntmps52
    go_wp2_with fail
    go_ret
    exact ⟨⟨_, rfl, World.ownsRow_nil _ _ _ _⟩, Below.refl _ _⟩
  | some ad =>
    have HA := hide' (fun j u => rs_news (hat : RsAt w (some ad) L) j u)
    have HA2 : Hid (∀ j u, (rce5 L)[j]? = some u → (w.alloc (.cells #[] 59)).cell? (ad.add j) = some u) := fun j u h => by
      have h1 := HA.out j u h
      exact Lib.cell?_alloc_some _ h1
    have HB := hide' ((Below.refl w.heap.size w).alloc (Nat.le_refl _) (.cells #[] 59))
    have HO := hide' (row_empty2 w 59 5)
    clear hat
    obtain ⟨i0, hi, hz0, hz1, hz2⟩ := info_parts infoR
    have HI := hide' (And.intro hi (And.intro hz0 (And.intro hz1 hz2)))
    clear hi hz0 hz1 hz2
    go_enter Tryz.func52, Tryz.ntmps52
    go_wp2_with (first
      | (at_builtin; refine wpList_append_own _ rfl _ _ 23 rfl w.heap.size 59 i0 (.agg #[.string .empty, .int .i64 0, .int .i64 0, .int .i64 0, .string .empty]) 5 56 Tryz.underlying23 HI.out.1 HI.out.2.1 HI.out.2.2.1 HI.out.2.2.2 rfl (by decide) (.slice (some ⟨w.heap.size, 0, none⟩) 0 0) 0 [] rfl HO.out ad L.length cap (rce5 L) rfl (rce5_len L) HA2.out (rce5_one L) (by unfold maxLen; omega) (by omega) (by simp) ?_; intro v1 w1 ho1 hg1 _; rw [Nat.zero_add, List.nil_append] at ho1; have HO1 := hide' ho1; have HB1 := hide' (HB.out.grown hg1 (by simp) (fun k e => by simp [Value.ownBlock] at e; omega)); clear ho1 hg1))
    go_ret
    exact ⟨⟨_, rfl, HO1.out⟩, HB1.out⟩

set_option maxRecDepth 100000 in
set_option maxHeartbeats 1000000 in
/-- slices.Clone of questions -/
theorem cloneQ_any (L : List Qn) (p : Option Addr) (cap : Nat) (w : World) (hL : L.length ≤ 65535) (hat : QsAt w p L) :
    Calls Tryz.prog 51 #[.slice p L.length cap] w fun r w' => (∃ v, r = .returned v ∧ w'.ownsRow w.heap.size 57 3 v L.length (qce3 L)) ∧ Below w.heap.size w w' := by
  have qT : ∀ (w : World) (a : Option Addr) (n c n' c' : Nat), (binOp .eql 22 (.slice a n c) (.slice none n' c')).run Tryz.prog w = .ok (.bool a.isNone) w := fun w a n c n' c' => Lib.run_eql_slice_nil w _ _ a n c n' c' Tryz.underlying22
  cases p with
  | none =>
    obtain rfl : L = [] := by
      cases L with
      | nil => rfl
      | cons y l => obtain ⟨g, off, hp, _⟩ := hat 0 (by simp); cases hp
    go_enter Tryz.func51, Tryz.ntmps51
    go_wp2_with fail
    go_ret
    exact ⟨⟨_, rfl, World.ownsRow_nil _ _ _ _⟩, Below.refl _ _⟩
  | some ad =>
    have HA := hide' (fun j u => qs_news (hat : QsAt w (some ad) L) j u)
    have HA2 : Hid (∀ j u, (qce3 L)[j]? = some u → (w.alloc (.cells #[] 57)).cell? (ad.add j) = some u) := fun j u h => by
      have h1 := HA.out j u h
      exact Lib.cell?_alloc_some _ h1
    have HB := hide' ((Below.refl w.heap.size w).alloc (Nat.le_refl _) (.cells #[] 57))
    have HO := hide' (row_empty2 w 57 3)
    clear hat
    obtain ⟨i0, hi, hz0, hz1, hz2⟩ := info_parts infoQ
    have HI := hide' (And.intro hi (And.intro hz0 (And.intro hz1 hz2)))
    clear hi hz0 hz1 hz2
    go_enter Tryz.func51, Tryz.ntmps51
    go_wp2_with (first
      | (at_builtin; refine wpList_append_own _ rfl _ _ 22 rfl w.heap.size 57 i0 (.agg #[.string .empty, .int .i64 0, .int .i64 0]) 3 32 Tryz.underlying22 HI.out.1 HI.out.2.1 HI.out.2.2.1 HI.out.2.2.2 rfl (by decide) (.slice (some ⟨w.heap.size, 0, none⟩) 0 0) 0 [] rfl HO.out ad L.length cap (qce3 L) rfl (qce3_len L) HA2.out (qce3_one L) (by unfold maxLen; omega) (by omega) (by simp) ?_; intro v1 w1 ho1 hg1 _; rw [Nat.zero_add, List.nil_append] at ho1; have HO1 := hide' ho1; have HB1 := hide' (HB.out.grown hg1 (by simp) (fun k e => by simp [Value.ownBlock] at e; omega)); clear ho1 hg1))
    go_ret
    exact ⟨⟨_, rfl, HO1.out⟩, HB1.out⟩
end Go.Proofs.YtjnmbgmdkkiidaaGreat

/-
  wire.copyOf. (The verifier's own text.)
-/
namespace Go.Proofs.YtjnmbgmdkkiidaaGreat
set_option linter.unusedVariables false
open Go.RowKit Go.Shelf Go.Maps Go.Proofs.YtjnmbgmdkkiidaaGreat.Nm

theorem own_keep2 {w w' : World} {base e size n : Nat} {v : Value} {xs : List Value} {r : Option Nat} (h : w.ownsRow base e size v n xs) (hg : w.grownBy w' r) (hne : ∀ q, r = some q → v.ownBlock ≠ some q) : w'.ownsRow base e size v n xs := by
  obtain ⟨hl, (h0 | ⟨g, cap, cur, rfl, hb, hh, rest⟩)⟩ := h
  · exact ⟨hl, .inl h0⟩
  · refine ⟨hl, .inr ⟨g, cap, cur, rfl, hb, ?_, rest⟩⟩
    exact (hg.block g (Array.getElem?_eq_some_iff.1 hh).1 (fun e => hne g e.symm rfl)).trans hh
theorem own_bel2 {w w' : World} {base e size n : Nat} {v : Value} {xs : List Value} (h : w.ownsRow base e size v n xs) (hb : Below w.heap.size w w') : w'.ownsRow base e size v n xs := own_keep2 h (grown_below hb none) (fun q e => by cases e)
theorem own_set2 {w : World} {base e size n : Nat} {v : Value} {xs : List Value} (h : w.ownsRow base e size v n xs) {R : Nat} (hR : R < base) (j : Nat) (u : Value) : (w.setCell ⟨R, j, none⟩ u).ownsRow base e size v n xs := own_keep2 h (grown_set w R j u) (fun q e e2 => by injection e with e; have := (h.lt q e2).1; omega)
theorem below_set2 {w w' : World} (h : Below w.heap.size w w') (j : Nat) (u : Value) : Below w.heap.size w (w'.setCell ⟨w.heap.size, j, none⟩ u) := h.grown (grown_set w' _ j u) h.size (fun q e => by injection e; omega)
theorem own_low2 {w : World} {n n2 e size k : Nat} {v : Value} {xs : List Value} (h : w.ownsRow n2 e size v k xs) (hn : n ≤ n2) : w.ownsRow n e size v k xs := by
  obtain ⟨hl, (h0 | ⟨g, cap, cur, rfl, hb, rest⟩)⟩ := h
  · exact ⟨hl, .inl h0⟩
  · exact ⟨hl, .inr ⟨g, cap, cur, rfl, Nat.le_trans hn hb, rest⟩⟩
theorem own_set14 {w : World} {base e size n : Nat} {v : Value} {xs : List Value} (h : w.ownsRow base e size v n xs) {R : Nat} (hR : R < base) (a0 a1 a2 a3 a4 a5 a6 a7 a8 a9 a10 a11 a12 a13 : Value) : (set14 w R a0 a1 a2 a3 a4 a5 a6 a7 a8 a9 a10 a11 a12 a13).ownsRow base e size v n xs :=
  own_set2 (own_set2 (own_set2 (own_set2 (own_set2 (own_set2 (own_set2 (own_set2 (own_set2 (own_set2 (own_set2 (own_set2 (own_set2 (own_set2 h hR 0 a0) hR 1 a1) hR 2 a2) hR 3 a3) hR 4 a4) hR 5 a5) hR 6 a6) hR 7 a7) hR 8 a8) hR 9 a9) hR 10 a10) hR 11 a11) hR 12 a12) hR 13 a13
/-- how copyOf ends: the lists are new, the last one behind the others -/
def CpE (M : Array Value → Prop) (Q : List Qn) (A U D : List Rn) (w : World) (vq va vu vd : Value) (w' : World) : Prop :=
  ∃ bd, w'.ownsRow w.heap.size 57 3 vq Q.length (qce3 Q) ∧ w'.ownsRow w.heap.size 59 5 va A.length (rce5 A) ∧ w'.ownsRow w.heap.size 59 5 vu U.length (rce5 U) ∧ w'.ownsRow bd 59 5 vd D.length (rce5 D) ∧ (∀ g, vq.ownBlock = some g → g < bd) ∧ (∀ g, va.ownBlock = some g → g < bd) ∧ (∀ g, vu.ownBlock = some g → g < bd) ∧ w.heap.size ≤ bd ∧ bd ≤ w'.heap.size ∧ Below w.heap.size w w' ∧ Apart vq va ∧ Apart vq vu ∧ Apart va vu

set_option maxRecDepth 100000 in
set_option maxHeartbeats 4000000 in
/-- wire.copyOf -/
theorem copyOf_any (i0 i2 i9 : Nat) (b1 b3 b4 b5 b6 b7 b8 : Bool) (q0 a0 u0 d0 : Option Addr) (qc ac uc dc : Nat) (Q : List Qn) (A U D : List Rn) (w : World) (hl : LsAt w q0 a0 u0 d0 Q A U D) (lq : Q.length ≤ 65535) (la : A.length ≤ 65535) (lu : U.length ≤ 65535) (ld : D.length ≤ 65535) :
    Calls Tryz.prog 32 #[.agg #[.int .i64 (i0 : Int), .bool b1, .int .i64 (i2 : Int), .bool b3, .bool b4, .bool b5, .bool b6, .bool b7, .bool b8, .int .i64 (i9 : Int), .slice q0 Q.length qc, .slice a0 A.length ac, .slice u0 U.length uc, .slice d0 D.length dc]] w fun e w' => ∃ vq va vu vd, e = .returned (.agg #[.int .i64 (i0 : Int), .bool b1, .int .i64 (i2 : Int), .bool b3, .bool b4, .bool b5, .bool b6, .bool b7, .bool b8, .int .i64 (i9 : Int), vq, va, vu, vd]) ∧ CpE (fun _ => True) Q A U D w vq va vu vd w' := by
  obtain ⟨wr, hwr⟩ : ∃ wr, (w.alloc (.cells #[.int .i64 (i0 : Int), .bool b1, .int .i64 (i2 : Int), .bool b3, .bool b4, .bool b5, .bool b6, .bool b7, .bool b8, .int .i64 (i9 : Int), .slice q0 Q.length qc, .slice a0 A.length ac, .slice u0 U.length uc, .slice d0 D.length dc] 25)).alloc (.cells #[.int .i64 0, .bool false, .int .i64 0, .bool false, .bool false, .bool false, .bool false, .bool false, .bool false, .int .i64 0, .slice none 0 0, .slice none 0 0, .slice none 0 0, .slice none 0 0] 25) = wr := ⟨_, rfl⟩
  have hwz : wr.heap.size = w.heap.size + 2 := by rw [← hwr]; simp
  have HX : Hid (Bx wr w.heap.size #[.int .i64 (i0 : Int), .bool b1, .int .i64 (i2 : Int), .bool b3, .bool b4, .bool b5, .bool b6, .bool b7, .bool b8, .int .i64 (i9 : Int), .slice q0 Q.length qc, .slice a0 A.length ac, .slice u0 U.length uc, .slice d0 D.length dc] 25) := hwr ▸ Bx.grown (World.alloc_heap_new w _) (World.grownBy_alloc _ _ none) (by simp)
  have HR : Hid (Bx wr (w.heap.size + 1) #[.int .i64 0, .bool false, .int .i64 0, .bool false, .bool false, .bool false, .bool false, .bool false, .bool false, .int .i64 0, .slice none 0 0, .slice none 0 0, .slice none 0 0, .slice none 0 0] 25) := by
    have := World.alloc_heap_new (w.alloc (.cells #[.int .i64 (i0 : Int), .bool b1, .int .i64 (i2 : Int), .bool b3, .bool b4, .bool b5, .bool b6, .bool b7, .bool b8, .int .i64 (i9 : Int), .slice q0 Q.length qc, .slice a0 A.length ac, .slice u0 U.length uc, .slice d0 D.length dc] 25)) (.cells #[.int .i64 0, .bool false, .int .i64 0, .bool false, .bool false, .bool false, .bool false, .bool false, .bool false, .int .i64 0, .slice none 0 0, .slice none 0 0, .slice none 0 0, .slice none 0 0] 25)
    rw [World.size_alloc] at this
    rw [← hwr]
    exact this
  have HB : Hid (Below w.heap.size w wr) := by rw [← hwr]; exact ((Below.refl _ w).alloc (Nat.le_refl _) _).alloc (by simp) _
  have y10 : wr.cell? ⟨w.heap.size, 10, none⟩ = some (.slice q0 Q.length qc) := HX.out.cell rfl
  have HW := hide' hl
  have hx0 : ∀ W : World, Sem.run Tryz.prog (Instr.index 65 (.agg #[.pointer (some ⟨w.heap.size, 11, none⟩), .pointer (some ⟨w.heap.size, 12, none⟩), .pointer (some ⟨w.heap.size, 13, none⟩)]) (.int .i64 0)) W = .ok (.pointer (some ⟨w.heap.size, 11, none⟩)) W := fun W => by first | rfl | simp [go_sem, Instr.index]
  have hx1 : ∀ W : World, Sem.run Tryz.prog (Instr.index 65 (.agg #[.pointer (some ⟨w.heap.size, 11, none⟩), .pointer (some ⟨w.heap.size, 12, none⟩), .pointer (some ⟨w.heap.size, 13, none⟩)]) (.int .i64 1)) W = .ok (.pointer (some ⟨w.heap.size, 12, none⟩)) W := fun W => by first | rfl | simp [go_sem, Instr.index]
  have hx2 : ∀ W : World, Sem.run Tryz.prog (Instr.index 65 (.agg #[.pointer (some ⟨w.heap.size, 11, none⟩), .pointer (some ⟨w.heap.size, 12, none⟩), .pointer (some ⟨w.heap.size, 13, none⟩)]) (.int .i64 2)) W = .ok (.pointer (some ⟨w.heap.size, 13, none⟩)) W := fun W => by first | rfl | simp [go_sem, Instr.index]
  clear hl
  go_enter Tryz.func32, Tryz.ntmps32
  go_wp2_with (first
    | (go_at_call 51; refine (cloneQ_any Q q0 qc _ lq (qsAt_below HW.out.q HB.out)).mono ?_; rintro e w1 ⟨⟨vq, rfl, ho1⟩, hB1⟩; obtain ⟨q1, qc1, rfl, _⟩ := own_shape ho1; have HX1 : Hid (Bx w1 w.heap.size #[.int .i64 (i0 : Int), .bool b1, .int .i64 (i2 : Int), .bool b3, .bool b4, .bool b5, .bool b6, .bool b7, .bool b8, .int .i64 (i9 : Int), .slice q0 Q.length qc, .slice a0 A.length ac, .slice u0 U.length uc, .slice d0 D.length dc] 25) := HX.out.below hB1 HX.out.lt; have HO1 := hide' ho1; have HB1 := hide' (bstep HB.out hB1 HB.out.size); have hf := HX1.out.free 10; have hy10 : w1.cell? ⟨w.heap.size, 10, none⟩ = some (.slice q0 Q.length qc) := HX1.out.cell rfl; obtain ⟨w2, hw2⟩ : ∃ w2, w1.setCell ⟨w.heap.size, 10, none⟩ (.slice q1 Q.length qc1) = w2 := ⟨_, rfl⟩; have HX2 : Hid (Bx w2 w.heap.size #[.int .i64 (i0 : Int), .bool b1, .int .i64 (i2 : Int), .bool b3, .bool b4, .bool b5, .bool b6, .bool b7, .bool b8, .int .i64 (i9 : Int), .slice q1 Q.length qc1, .slice a0 A.length ac, .slice u0 U.length uc, .slice d0 D.length dc] 25) := hw2 ▸ HX1.out.set 10 _; have HQ2 : Hid (w2.ownsRow (w.heap.size + 2) 57 3 (.slice q1 Q.length qc1) Q.length (qce3 Q)) := hw2 ▸ own_set2 (hwz ▸ ho1) (by omega) 10 _; have HR2 : Hid (Bx w2 (w.heap.size + 1) #[.int .i64 0, .bool false, .int .i64 0, .bool false, .bool false, .bool false, .bool false, .bool false, .bool false, .int .i64 0, .slice none 0 0, .slice none 0 0, .slice none 0 0, .slice none 0 0] 25) := hw2 ▸ (HR.out.below hB1 HR.out.lt).far (by omega) 10 _; have HB2 : Hid (Below w.heap.size w w2) := hw2 ▸ below_set2 HB1.out 10 _; clear ho1 hB1)
    | (go_at_call 28; refine (sectionsOf_any w.heap.size 0 _).mono ?_; rintro e w3 ⟨rfl, hB⟩; have HX3 : Hid (Bx w3 w.heap.size #[.int .i64 (i0 : Int), .bool b1, .int .i64 (i2 : Int), .bool b3, .bool b4, .bool b5, .bool b6, .bool b7, .bool b8, .int .i64 (i9 : Int), .slice q1 Q.length qc1, .slice a0 A.length ac, .slice u0 U.length uc, .slice d0 D.length dc] 25) := HX2.out.below hB HX2.out.lt; have HQ3 := hide' (own_bel2 HQ2.out hB); have HR3 : Hid (Bx w3 (w.heap.size + 1) #[.int .i64 0, .bool false, .int .i64 0, .bool false, .bool false, .bool false, .bool false, .bool false, .bool false, .int .i64 0, .slice none 0 0, .slice none 0 0, .slice none 0 0, .slice none 0 0] 25) := HR2.out.below hB HR2.out.lt; have HB3 := hide' (bstep HB2.out hB HB2.out.size); have x11 : w3.cell? ⟨w.heap.size, 11, none⟩ = some (.slice a0 A.length ac) := HX3.out.cell rfl; clear hB))
  refine wp_loop_rounds 4 ?_
  rw [rounds_succ]
  go_wp2_with (go_at_call 52; refine (cloneR_any A a0 ac _ la (rsAt_below HW.out.a HB3.out)).mono ?_; rintro e w4 ⟨⟨vx, rfl, ho⟩, hB⟩; obtain ⟨a1, ac1, rfl, _⟩ := own_shape ho; have PQA : Hid (Apart (.slice q1 Q.length qc1) (.slice a1 A.length ac1)) := apart_new HQ3.out ho (Nat.le_refl _); have HX4 : Hid (Bx w4 w.heap.size #[.int .i64 (i0 : Int), .bool b1, .int .i64 (i2 : Int), .bool b3, .bool b4, .bool b5, .bool b6, .bool b7, .bool b8, .int .i64 (i9 : Int), .slice q1 Q.length qc1, .slice a0 A.length ac, .slice u0 U.length uc, .slice d0 D.length dc] 25) := HX3.out.below hB HX3.out.lt; have HQ4 := hide' (own_bel2 HQ3.out hB); have HR4 : Hid (Bx w4 (w.heap.size + 1) #[.int .i64 0, .bool false, .int .i64 0, .bool false, .bool false, .bool false, .bool false, .bool false, .bool false, .int .i64 0, .slice none 0 0, .slice none 0 0, .slice none 0 0, .slice none 0 0] 25) := HR3.out.below hB HR3.out.lt; have HB4 := hide' (bstep HB3.out hB HB3.out.size); have hf4 := HX4.out.free 11; have hy4 : w4.cell? ⟨w.heap.size, 11, none⟩ = some (.slice a0 A.length ac) := HX4.out.cell rfl; obtain ⟨w5, hw5⟩ : ∃ w', w4.setCell ⟨w.heap.size, 11, none⟩ (.slice a1 A.length ac1) = w' := ⟨_, rfl⟩; have HX5 : Hid (Bx w5 w.heap.size #[.int .i64 (i0 : Int), .bool b1, .int .i64 (i2 : Int), .bool b3, .bool b4, .bool b5, .bool b6, .bool b7, .bool b8, .int .i64 (i9 : Int), .slice q1 Q.length qc1, .slice a1 A.length ac1, .slice u0 U.length uc, .slice d0 D.length dc] 25) := hw5 ▸ HX4.out.set 11 _; have HQ5 : Hid (w5.ownsRow (w.heap.size + 2) 57 3 (.slice q1 Q.length qc1) Q.length (qce3 Q)) := hw5 ▸ own_set2 HQ4.out (by omega) 11 _; have HA5 : Hid (w5.ownsRow (w.heap.size + 2) 59 5 (.slice a1 A.length ac1) A.length (rce5 A)) := hw5 ▸ own_set2 (own_low2 ho (show w.heap.size + 2 ≤ w3.heap.size from HR3.out.lt)) (by omega) 11 _; have HR5 : Hid (Bx w5 (w.heap.size + 1) #[.int .i64 0, .bool false, .int .i64 0, .bool false, .bool false, .bool false, .bool false, .bool false, .bool false, .int .i64 0, .slice none 0 0, .slice none 0 0, .slice none 0 0, .slice none 0 0] 25) := hw5 ▸ HR4.out.far (by omega) 11 _; have HB5 : Hid (Below w.heap.size w w5) := hw5 ▸ below_set2 HB4.out 11 _; have x12 : w5.cell? ⟨w.heap.size, 12, none⟩ = some (.slice u0 U.length uc) := HX5.out.cell rfl; clear ho hB)
  rw [rounds_succ]
  go_wp2_with (go_at_call 52; refine (cloneR_any U u0 uc _ lu (rsAt_below HW.out.u HB5.out)).mono ?_; rintro e w6 ⟨⟨vx, rfl, ho⟩, hB⟩; obtain ⟨u1, uc1, rfl, _⟩ := own_shape ho; have PQU : Hid (Apart (.slice q1 Q.length qc1) (.slice u1 U.length uc1)) := apart_new HQ5.out ho (Nat.le_refl _); have PAU : Hid (Apart (.slice a1 A.length ac1) (.slice u1 U.length uc1)) := apart_new HA5.out ho (Nat.le_refl _); have HX6 : Hid (Bx w6 w.heap.size #[.int .i64 (i0 : Int), .bool b1, .int .i64 (i2 : Int), .bool b3, .bool b4, .bool b5, .bool b6, .bool b7, .bool b8, .int .i64 (i9 : Int), .slice q1 Q.length qc1, .slice a1 A.length ac1, .slice u0 U.length uc, .slice d0 D.length dc] 25) := HX5.out.below hB HX5.out.lt; have HQ6 := hide' (own_bel2 HQ5.out hB); have HA6 := hide' (own_bel2 HA5.out hB); have HR6 : Hid (Bx w6 (w.heap.size + 1) #[.int .i64 0, .bool false, .int .i64 0, .bool false, .bool false, .bool false, .bool false, .bool false, .bool false, .int .i64 0, .slice none 0 0, .slice none 0 0, .slice none 0 0, .slice none 0 0] 25) := HR5.out.below hB HR5.out.lt; have HB6 := hide' (bstep HB5.out hB HB5.out.size); have hf6 := HX6.out.free 12; have hy6 : w6.cell? ⟨w.heap.size, 12, none⟩ = some (.slice u0 U.length uc) := HX6.out.cell rfl; obtain ⟨w7, hw7⟩ : ∃ w', w6.setCell ⟨w.heap.size, 12, none⟩ (.slice u1 U.length uc1) = w' := ⟨_, rfl⟩; have HX7 : Hid (Bx w7 w.heap.size #[.int .i64 (i0 : Int), .bool b1, .int .i64 (i2 : Int), .bool b3, .bool b4, .bool b5, .bool b6, .bool b7, .bool b8, .int .i64 (i9 : Int), .slice q1 Q.length qc1, .slice a1 A.length ac1, .slice u1 U.length uc1, .slice d0 D.length dc] 25) := hw7 ▸ HX6.out.set 12 _; have HQ7 : Hid (w7.ownsRow (w.heap.size + 2) 57 3 (.slice q1 Q.length qc1) Q.length (qce3 Q)) := hw7 ▸ own_set2 HQ6.out (by omega) 12 _; have HA7 : Hid (w7.ownsRow (w.heap.size + 2) 59 5 (.slice a1 A.length ac1) A.length (rce5 A)) := hw7 ▸ own_set2 HA6.out (by omega) 12 _; have HU7 : Hid (w7.ownsRow (w.heap.size + 2) 59 5 (.slice u1 U.length uc1) U.length (rce5 U)) := hw7 ▸ own_set2 (own_low2 ho (show w.heap.size + 2 ≤ w5.heap.size from HR5.out.lt)) (by omega) 12 _; have HR7 : Hid (Bx w7 (w.heap.size + 1) #[.int .i64 0, .bool false, .int .i64 0, .bool false, .bool false, .bool false, .bool false, .bool false, .bool false, .int .i64 0, .slice none 0 0, .slice none 0 0, .slice none 0 0, .slice none 0 0] 25) := hw7 ▸ HR6.out.far (by omega) 12 _; have HB7 : Hid (Below w.heap.size w w7) := hw7 ▸ below_set2 HB6.out 12 _; have x13 : w7.cell? ⟨w.heap.size, 13, none⟩ = some (.slice d0 D.length dc) := HX7.out.cell rfl; clear ho hB)
  rw [rounds_succ]
  go_wp2_with (go_at_call 52; refine (cloneR_any D d0 dc _ ld (rsAt_below HW.out.d HB7.out)).mono ?_; rintro e w8 ⟨⟨vx, rfl, ho⟩, hB⟩; obtain ⟨d1, dc1, rfl, _⟩ := own_shape ho; have HX8 : Hid (Bx w8 w.heap.size #[.int .i64 (i0 : Int), .bool b1, .int .i64 (i2 : Int), .bool b3, .bool b4, .bool b5, .bool b6, .bool b7, .bool b8, .int .i64 (i9 : Int), .slice q1 Q.length qc1, .slice a1 A.length ac1, .slice u1 U.length uc1, .slice d0 D.length dc] 25) := HX7.out.below hB HX7.out.lt; have HQ8 := hide' (own_bel2 HQ7.out hB); have HA8 := hide' (own_bel2 HA7.out hB); have HU8 := hide' (own_bel2 HU7.out hB); have HR8 : Hid (Bx w8 (w.heap.size + 1) #[.int .i64 0, .bool false, .int .i64 0, .bool false, .bool false, .bool false, .bool false, .bool false, .bool false, .int .i64 0, .slice none 0 0, .slice none 0 0, .slice none 0 0, .slice none 0 0] 25) := HR7.out.below hB HR7.out.lt; have HB8 := hide' (bstep HB7.out hB HB7.out.size); have hf8 := HX8.out.free 13; have hy8 : w8.cell? ⟨w.heap.size, 13, none⟩ = some (.slice d0 D.length dc) := HX8.out.cell rfl; obtain ⟨w9, hw9⟩ : ∃ w', w8.setCell ⟨w.heap.size, 13, none⟩ (.slice d1 D.length dc1) = w' := ⟨_, rfl⟩; have HX9 : Hid (Bx w9 w.heap.size #[.int .i64 (i0 : Int), .bool b1, .int .i64 (i2 : Int), .bool b3, .bool b4, .bool b5, .bool b6, .bool b7, .bool b8, .int .i64 (i9 : Int), .slice q1 Q.length qc1, .slice a1 A.length ac1, .slice u1 U.length uc1, .slice d1 D.length dc1] 25) := hw9 ▸ HX8.out.set 13 _; have HQ9 : Hid (w9.ownsRow (w.heap.size + 2) 57 3 (.slice q1 Q.length qc1) Q.length (qce3 Q)) := hw9 ▸ own_set2 HQ8.out (by omega) 13 _; have HA9 : Hid (w9.ownsRow (w.heap.size + 2) 59 5 (.slice a1 A.length ac1) A.length (rce5 A)) := hw9 ▸ own_set2 HA8.out (by omega) 13 _; have HU9 : Hid (w9.ownsRow (w.heap.size + 2) 59 5 (.slice u1 U.length uc1) U.length (rce5 U)) := hw9 ▸ own_set2 HU8.out (by omega) 13 _; have HD9 : Hid (w9.ownsRow w7.heap.size 59 5 (.slice d1 D.length dc1) D.length (rce5 D)) := hw9 ▸ own_set2 (ho) (HX7.out.lt) 13 _; have HR9 : Hid (Bx w9 (w.heap.size + 1) #[.int .i64 0, .bool false, .int .i64 0, .bool false, .bool false, .bool false, .bool false, .bool false, .bool false, .int .i64 0, .slice none 0 0, .slice none 0 0, .slice none 0 0, .slice none 0 0] 25) := hw9 ▸ HR8.out.far (by omega) 13 _; have HB9 : Hid (Below w.heap.size w w9) := hw9 ▸ below_set2 HB8.out 13 _; have HS8 := hide' hB.size; clear ho hB)
  obtain ⟨x0, x1, x2, x3, x4, x5, x6, x7, x8, x9, x10, x11', x12', x13'⟩ := bx14 HX9.out
  obtain ⟨r0, r1, r2, r3, r4, r5, r6, r7, r8, r9, r10, r11, r12, r13⟩ := bx14 HR9.out
  obtain ⟨f0, f1, f2, f3, f4, f5, f6, f7, f8, f9, f10, f11, f12, f13⟩ := bx14_free HR9.out
  rw [rounds_succ]
  go_wp2_with fail
  have HF : Hid (CpE (fun _ => True) Q A U D w (.slice q1 Q.length qc1) (.slice a1 A.length ac1) (.slice u1 U.length uc1) (.slice d1 D.length dc1) (set14 w9 (w.heap.size + 1) (.int .i64 (i0 : Int)) (.bool b1) (.int .i64 (i2 : Int)) (.bool b3) (.bool b4) (.bool b5) (.bool b6) (.bool b7) (.bool b8) (.int .i64 (i9 : Int)) (.slice q1 Q.length qc1) (.slice a1 A.length ac1) (.slice u1 U.length uc1) (.slice d1 D.length dc1))) := ⟨w7.heap.size, own_low2 (own_set14 HQ9.out (by omega) _ _ _ _ _ _ _ _ _ _ _ _ _ _) (by omega), own_low2 (own_set14 HA9.out (by omega) _ _ _ _ _ _ _ _ _ _ _ _ _ _) (by omega), own_low2 (own_set14 HU9.out (by omega) _ _ _ _ _ _ _ _ _ _ _ _ _ _) (by omega), own_set14 HD9.out HR7.out.lt _ _ _ _ _ _ _ _ _ _ _ _ _ _, fun g e => (HQ7.out.lt g e).2, fun g e => (HA7.out.lt g e).2, fun g e => (HU7.out.lt g e).2, HB7.out.size, (by have h8 : w7.heap.size ≤ w8.heap.size := HS8.out; have h9 : w9.heap.size = w8.heap.size := (by rw [← hw9]; exact set_size _ _ _); simp only [set14, set_size]; omega), below14 HB9.out (by omega) HB9.out.size _ _ _ _ _ _ _ _ _ _ _ _ _ _, PQA.out, PQU.out, PAU.out⟩
  obtain ⟨t0, t1, t2, t3, t4, t5, t6, t7, t8, t9, t10, t11, t12, t13⟩ := bx14 (bx14_set HR9.out (.int .i64 (i0 : Int)) (.bool b1) (.int .i64 (i2 : Int)) (.bool b3) (.bool b4) (.bool b5) (.bool b6) (.bool b7) (.bool b8) (.int .i64 (i9 : Int)) (.slice q1 Q.length qc1) (.slice a1 A.length ac1) (.slice u1 U.length uc1) (.slice d1 D.length dc1))
  unfold set14 at t0 t1 t2 t3 t4 t5 t6 t7 t8 t9 t10 t11 t12 t13
  exact bodyPost_ret (v := .agg #[.int .i64 (i0 : Int), .bool b1, .int .i64 (i2 : Int), .bool b3, .bool b4, .bool b5, .bool b6, .bool b7, .bool b8, .int .i64 (i9 : Int), .slice q1 Q.length qc1, .slice a1 A.length ac1, .slice u1 U.length uc1, .slice d1 D.length dc1]) (by simp [results, go_sem, t0, t1, t2, t3, t4, t5, t6, t7, t8, t9, t10, t11, t12, t13]) rfl ⟨_, _, _, _, rfl, HF.out⟩
end Go.Proofs.YtjnmbgmdkkiidaaGreat

/-
  wire.Fit. (The verifier's own text.)
-/
namespace Go.Proofs.YtjnmbgmdkkiidaaGreat
set_option linter.unusedVariables false
open Go.RowKit Go.Shelf Go.Maps Go.Proofs.YtjnmbgmdkkiidaaGreat.Nm

/-- questions below a mark -/
def QsB (w : World) (base : Nat) (p : Option Addr) (l : List Qn) : Prop := ∀ k, (hk : k < l.length) → ∃ g off, p = some ⟨g, off, none⟩ ∧ g < base ∧ w.cell? ⟨g, off + k * 3, none⟩ = some (.string l[k].n) ∧ w.cell? ⟨g, off + k * 3 + 1, none⟩ = some (.int .i64 l[k].t) ∧ w.cell? ⟨g, off + k * 3 + 2, none⟩ = some (.int .i64 l[k].c)
theorem QsB.low {w w' : World} {base : Nat} {p : Option Addr} {l : List Qn} (h : QsB w base p l) (hb : Below base w w') : QsB w' base p l := fun k hk => by
  obtain ⟨g, off, h1, h2, h3, h4, h5⟩ := h k hk
  exact ⟨g, off, h1, h2, (hb.cell (p := ⟨g, off + k * 3, none⟩) h2).trans h3, (hb.cell (p := ⟨g, off + k * 3 + 1, none⟩) h2).trans h4, (hb.cell (p := ⟨g, off + k * 3 + 2, none⟩) h2).trans h5⟩
theorem qsB_own {w : World} {b bd n c : Nat} {p : Option Addr} {L : List Qn} (h : w.ownsRow b 57 3 (.slice p n c) n (qce3 L)) (hn : n = L.length) (hb : ∀ g, (Value.slice p n c).ownBlock = some g → g < bd) : QsB w bd p L := fun k hk => by
  rcases h.2 with ⟨h1, h0⟩ | ⟨g, cap, cur, h1, rest⟩
  · omega
  · injection h1 with h1 h2 h3
    subst h1; subst hn
    have hc : ∀ i, i < L.length * 3 → w.cell? ⟨g, i, none⟩ = (qce3 L)[i]? := fun i hi => World.ownsRow.cellAt h i hi
    obtain ⟨e0, e1, e2⟩ := get3 L k hk
    exact ⟨g, 0, rfl, hb g rfl, by rw [Nat.zero_add]; exact (hc _ (by omega)).trans e0, by rw [Nat.zero_add]; exact (hc _ (by omega)).trans e1, by rw [Nat.zero_add]; exact (hc _ (by omega)).trans e2⟩
theorem rsB_own {w : World} {b bd n c : Nat} {p : Option Addr} {L : List Rn} (h : w.ownsRow b 59 5 (.slice p n c) n (rce5 L)) (hn : n = L.length) (hb : ∀ g, (Value.slice p n c).ownBlock = some g → g < bd) : RsB w bd p L := fun k hk => by
  rcases h.2 with ⟨h1, h0⟩ | ⟨g, cap, cur, h1, rest⟩
  · omega
  · injection h1 with h1 h2 h3
    subst h1; subst hn
    have hc : ∀ i, i < L.length * 5 → w.cell? ⟨g, i, none⟩ = (rce5 L)[i]? := fun i hi => World.ownsRow.cellAt h i hi
    obtain ⟨e0, e1, e2, e3, e4⟩ := get5 L k hk
    exact ⟨g, 0, rfl, hb g rfl, by rw [Nat.zero_add]; exact (hc _ (by omega)).trans e0, by rw [Nat.zero_add]; exact (hc _ (by omega)).trans e1, by rw [Nat.zero_add]; exact (hc _ (by omega)).trans e2, by rw [Nat.zero_add]; exact (hc _ (by omega)).trans e3, by rw [Nat.zero_add]; exact (hc _ (by omega)).trans e4⟩
/-- Fit under way: the message's box and its lists -/
structure FS (wc w wr : World) (P g bd : Nat) (M : Array Value) (q1 a1 u1 d1 : Option Addr) (cd : Nat) (Q : List Qn) (A U Dk : List Rn) : Prop where
  bx : Bx wr P M 25
  q : QsB wr bd q1 Q
  a : RsB wr bd a1 A
  u : RsB wr bd u1 U
  d : DX wr d1 cd g Dk
  hg : bd ≤ g
  gP : g ≠ P
  bP : bd ≤ P
  wb : w.heap.size ≤ bd
  bl : Below w.heap.size w wr
  nq : ∀ g' off, q1 = some ⟨g', off, none⟩ → w.heap.size + 2 ≤ g'
  na : ∀ g' off, a1 = some ⟨g', off, none⟩ → w.heap.size + 2 ≤ g'
  nu : ∀ g' off, u1 = some ⟨g', off, none⟩ → w.heap.size + 2 ≤ g'
  fr : ∀ k, k < P → k ≠ g → wr.heap[k]? = wc.heap[k]?
section
variable {wc w wr w2 : World} {P g bd : Nat} {M : Array Value} {q1 a1 u1 d1 : Option Addr} {cd : Nat} {Q : List Qn} {A U Dk : List Rn}
theorem DX.below (h : DX wr d1 cd g Dk) (hb : Below wr.heap.size wr w2) : DX w2 d1 cd g Dk := by
  refine ⟨h.1, ?_⟩
  rcases h.2 with ⟨rest, h1, h2, h3, h4⟩ | h0
  · exact .inl ⟨rest, h1, h2, h3.below hb h3.lt, h4⟩
  · exact .inr h0
theorem DX.far (h : DX wr d1 cd g Dk) {R : Nat} (hne : g ≠ R) (j : Nat) (u : Value) : DX (wr.setCell ⟨R, j, none⟩ u) d1 cd g Dk := by
  refine ⟨h.1, ?_⟩
  rcases h.2 with ⟨rest, h1, h2, h3, h4⟩ | h0
  · exact .inl ⟨rest, h1, h2, Bx.far h3 hne j u, h4⟩
  · exact .inr h0
theorem FS.low (h : FS wc w wr P g bd M q1 a1 u1 d1 cd Q A U Dk) : bd ≤ wr.heap.size := Nat.le_trans h.bP (Nat.le_of_lt h.bx.lt)
theorem FS.below (h : FS wc w wr P g bd M q1 a1 u1 d1 cd Q A U Dk) (hb : Below wr.heap.size wr w2) : FS wc w w2 P g bd M q1 a1 u1 d1 cd Q A U Dk :=
  ⟨h.bx.below hb h.bx.lt, h.q.low (hb.mono h.low), h.a.low (hb.mono h.low), h.u.low (hb.mono h.low), h.d.below hb, h.hg, h.gP, h.bP, h.wb, bstep h.bl hb h.bl.size, h.nq, h.na, h.nu, fun k hk hn => (hb.block k (Nat.lt_trans hk h.bx.lt)).trans (h.fr k hk hn)⟩
theorem FS.ls (h : FS wc w wr P g bd M q1 a1 u1 d1 cd Q A U Dk) {i0 i2 i9 : Int} (hm : msgOK i0 i2 i9 Q A U Dk = true) : LsAt wr q1 a1 u1 d1 Q A U Dk := by
  obtain ⟨_, _, _, _, _, _, _, hl⟩ := msgOK_parts hm
  obtain ⟨oq, oa, ou, od⟩ := lstOK_parts hl
  have hmx : 65535 ≤ maxLen := by decide
  have hr : ∀ r : Rn, rOK r = true → r.o.size ≤ maxLen ∧ r.d.size ≤ 9223372036854775807 := fun r hr => by
    obtain ⟨h1, _, _, _, hd⟩ := rOK_parts hr
    have h2 := ((isN_iff r.o).1 h1).1
    have h3 := hd.1
    exact ⟨by omega, by omega⟩
  have hRs : ∀ (p : Option Addr) (L : List Rn), RsB wr bd p L → RsAt wr p L := fun p L hh k hk => by
    obtain ⟨g', off, h1, h2, rest⟩ := hh k hk
    exact ⟨g', off, h1, Nat.lt_of_lt_of_le h2 h.low, rest⟩
  refine ⟨fun k hk => ?_, hRs _ _ h.a, hRs _ _ h.u, h.d.at, fun q hq => ?_, fun r h => hr r (oa r h), fun r h => hr r (ou r h), fun r h => hr r (od r h)⟩
  · obtain ⟨g', off, h1, h2, rest⟩ := h.q k hk
    exact ⟨g', off, h1, Nat.lt_of_lt_of_le h2 h.low, rest⟩
  · have h2 := ((isN_iff q.n).1 (qOK_parts (oq q hq)).1).1
    omega
theorem FS.strip (h : FS wc w wr P g bd M q1 a1 u1 d1 cd Q A U Dk) : FS wc w wr P g bd M q1 none none d1 cd Q [] [] Dk :=
  ⟨h.bx, h.q, fun k hk => absurd hk (Nat.not_lt_zero _), fun k hk => absurd hk (Nat.not_lt_zero _), h.d, h.hg, h.gP, h.bP, h.wb, h.bl, h.nq, (fun g' off e => by cases e), (fun g' off e => by cases e), h.fr⟩
theorem cell_blk {w w' : World} {R : Nat} (hg : w.grownBy w' (some R)) {g' : Nat} (hlt : g' < w.heap.size) (hne : g' ≠ R) (j : Nat) : w'.cell? ⟨g', j, none⟩ = w.cell? ⟨g', j, none⟩ := by
  have := hg.block g' hlt (fun e => hne (by injection e))
  simp only [World.cell?, this]
/-- .. the same where a box beside them is written -/
theorem FS.ls2 (h : FS wc w wr P g bd M q1 a1 u1 d1 cd Q A U Dk) {i0 i2 i9 : Int} (hm : msgOK i0 i2 i9 Q A U Dk = true) (hR : w.heap.size + 1 < bd) (hg : wr.grownBy w2 (some (w.heap.size + 1))) : LsAt w2 q1 a1 u1 d1 Q A U Dk := by
  have hl := h.ls hm
  have hRs : ∀ (p : Option Addr) (L : List Rn), RsAt wr p L → (∀ g' off, p = some ⟨g', off, none⟩ → 0 < L.length → g' ≠ w.heap.size + 1) → RsAt w2 p L := fun p L hh hne k hk => by
    obtain ⟨g', off, h1, h2, e0, e1, e2, e3, e4⟩ := hh k hk
    have hn := hne g' off h1 (by omega)
    exact ⟨g', off, h1, Nat.lt_of_lt_of_le h2 hg.size, (cell_blk hg h2 hn _).trans e0, (cell_blk hg h2 hn _).trans e1, (cell_blk hg h2 hn _).trans e2, (cell_blk hg h2 hn _).trans e3, (cell_blk hg h2 hn _).trans e4⟩
  refine ⟨fun k hk => ?_, hRs _ _ hl.a (fun g' off e _ => by have := h.na g' off e; omega), hRs _ _ hl.u (fun g' off e _ => by have := h.nu g' off e; omega), hRs _ _ hl.d (fun g' off e hn => ?_), hl.zqs, hl.zas, hl.zus, hl.zds⟩
  · obtain ⟨g', off, h1, h2, e0, e1, e2⟩ := hl.q k hk
    have hn : g' ≠ w.heap.size + 1 := by have := h.nq g' off h1; omega
    exact ⟨g', off, h1, Nat.lt_of_lt_of_le h2 hg.size, (cell_blk hg h2 hn _).trans e0, (cell_blk hg h2 hn _).trans e1, (cell_blk hg h2 hn _).trans e2⟩
  · rcases h.d.2 with ⟨rest, hp, _, _⟩ | ⟨h0, _⟩
    · rw [hp] at e
      injection e with e
      injection e with e
      have := h.hg; omega
    · rw [h0] at hn; exact absurd hn (Nat.lt_irrefl 0)
theorem grown14 (w : World) (R : Nat) (v0 v1 v2 v3 v4 v5 v6 v7 v8 v9 v10 v11 v12 v13 : Value) : w.grownBy (set14 w R v0 v1 v2 v3 v4 v5 v6 v7 v8 v9 v10 v11 v12 v13) (some R) :=
  grown_trans (grown_trans (grown_trans (grown_trans (grown_trans (grown_trans (grown_trans (grown_trans (grown_trans (grown_trans (grown_trans (grown_trans (grown_trans (grown_set _ R 0 v0) (grown_set _ R 1 v1)) (grown_set _ R 2 v2)) (grown_set _ R 3 v3)) (grown_set _ R 4 v4)) (grown_set _ R 5 v5)) (grown_set _ R 6 v6)) (grown_set _ R 7 v7)) (grown_set _ R 8 v8)) (grown_set _ R 9 v9)) (grown_set _ R 10 v10)) (grown_set _ R 11 v11)) (grown_set _ R 12 v12)) (grown_set _ R 13 v13)
/-- some of the additional records are dropped, and the box told so -/
theorem FS.drop (h : FS wc w wr P g bd M q1 a1 u1 d1 cd Q A U Dk) {D2 : List Rn} (hg : wr.grownBy w2 (some g)) (hd : DX w2 d1 cd g D2) (v : Value) : FS wc w (w2.setCell ⟨P, 13, none⟩ v) P g bd (M.setIfInBounds 13 v) q1 a1 u1 d1 cd Q A U D2 := by
  have h1 : Bx w2 P M 25 := h.bx.grown hg (by intro e; injection e with e; exact h.gP e)
  have hb : Below bd wr w2 := ⟨hg.os, hg.tape, hg.output, hg.size, fun k hk => hg.block k (Nat.lt_of_lt_of_le hk h.low) (fun e => by injection e with e; have := h.hg; omega)⟩
  have hb2 : Below bd wr (w2.setCell ⟨P, 13, none⟩ v) := hb.grown (grown_set w2 P 13 v) (Nat.le_trans h.low hg.size) (fun q e => by injection e with e; have := h.bP; omega)
  have hbw : Below w.heap.size w (w2.setCell ⟨P, 13, none⟩ v) := by
    have h3 := hb2.mono h.wb
    exact ⟨h3.os.trans h.bl.os, h3.tape.trans h.bl.tape, h3.output.trans h.bl.output, Nat.le_trans h.bl.size h3.size, fun k hk => (h3.block k hk).trans (h.bl.block k hk)⟩
  exact ⟨h1.set 13 v, h.q.low hb2, h.a.low hb2, h.u.low hb2, hd.far h.gP 13 v, h.hg, h.gP, h.bP, h.wb, hbw, h.nq, h.na, h.nu, fun k hk hn => ((grown_set w2 P 13 v).block k (Nat.lt_of_lt_of_le (Nat.lt_trans hk h.bx.lt) hg.size) (fun e => by injection e; omega)).trans ((hg.block k (Nat.lt_trans hk h.bx.lt) (fun e => by injection e; omega)).trans (h.fr k hk hn))⟩
theorem FS.put (h : FS wc w wr P g bd M q1 a1 u1 d1 cd Q A U Dk) (j : Nat) (v : Value) : FS wc w (wr.setCell ⟨P, j, none⟩ v) P g bd (M.setIfInBounds j v) q1 a1 u1 d1 cd Q A U Dk := by
  have hb2 : Below bd wr (wr.setCell ⟨P, j, none⟩ v) := (Below.refl bd wr).grown (grown_set wr P j v) h.low (fun q e => by injection e with e; have := h.bP; omega)
  have hbw : Below w.heap.size w (wr.setCell ⟨P, j, none⟩ v) := by
    have h3 := hb2.mono h.wb
    exact ⟨h3.os.trans h.bl.os, h3.tape.trans h.bl.tape, h3.output.trans h.bl.output, Nat.le_trans h.bl.size h3.size, fun k hk => (h3.block k hk).trans (h.bl.block k hk)⟩
  exact ⟨h.bx.set j v, h.q.low hb2, h.a.low hb2, h.u.low hb2, h.d.far h.gP j v, h.hg, h.gP, h.bP, h.wb, hbw, h.nq, h.na, h.nu, fun k hk hn => ((grown_set wr P j v).block k (Nat.lt_trans hk h.bx.lt) (fun e => by injection e; omega)).trans (h.fr k hk hn)⟩
end
theorem fit_begin {w w1 w2 wp : World} {bd qc1 ac1 uc1 cd : Nat} {q1 a1 u1 d1 : Option Addr} {Q : List Qn} {A U D : List Rn} {cs : Array Value} (hB1 : Below w.heap.size w w1) (hB2 : Below w1.heap.size w1 w2) (oq : w2.ownsRow w1.heap.size 57 3 (.slice q1 Q.length qc1) Q.length (qce3 Q)) (oa : w2.ownsRow w1.heap.size 59 5 (.slice a1 A.length ac1) A.length (rce5 A)) (ou : w2.ownsRow w1.heap.size 59 5 (.slice u1 U.length uc1) U.length (rce5 U)) (od : w2.ownsRow bd 59 5 (.slice d1 D.length cd) D.length (rce5 D))
    (gq : ∀ g, (Value.slice q1 Q.length qc1).ownBlock = some g → g < bd) (ga : ∀ g, (Value.slice a1 A.length ac1).ownBlock = some g → g < bd) (gu : ∀ g, (Value.slice u1 U.length uc1).ownBlock = some g → g < bd) (hbd : w1.heap.size ≤ bd) (hbd2 : bd ≤ w2.heap.size) (hR1 : w.heap.size + 1 < w1.heap.size) (hwp : w2.alloc (.cells cs 25) = wp) : ∃ g, Hid (FS w2 w wp w2.heap.size g bd cs q1 a1 u1 d1 cd Q A U D) ∧ (cd = 0 → g = w2.heap.size + 1) := by
  have hal : Below w2.heap.size w2 wp := hwp ▸ (Below.refl _ w2).alloc (Nat.le_refl _) _
  have hbx : Bx wp w2.heap.size cs 25 := hwp ▸ World.alloc_heap_new w2 _
  have hbl : Below w.heap.size w wp := bstep (bstep hB1 hB2 hB1.size) hal (Nat.le_trans hB1.size hB2.size)
  have hq : QsB wp bd q1 Q := (qsB_own oq rfl gq).low (hal.mono hbd2)
  have ha : RsB wp bd a1 A := (rsB_own oa rfl ga).low (hal.mono hbd2)
  have hu : RsB wp bd u1 U := (rsB_own ou rfl gu).low (hal.mono hbd2)
  have hwb : w.heap.size ≤ bd := Nat.le_trans hB1.size hbd
  have hlo : ∀ (p : Option Addr) (n c e s : Nat) (xs : List Value), w2.ownsRow w1.heap.size e s (.slice p n c) n xs → ∀ g' off, p = some ⟨g', off, none⟩ → w.heap.size + 2 ≤ g' := fun p n c e s xs h g' off hp => by
    subst hp
    have := (h.lt g' rfl).1
    omega
  rcases Nat.eq_zero_or_pos cd with h0 | h0
  · subst h0
    obtain ⟨_, _, hv, hv2, _⟩ := own_shape od
    injection hv with _ _ hv3
    have hD : D = [] := List.eq_nil_of_length_eq_zero (by omega)
    exact ⟨w2.heap.size + 1, ⟨hbx, hq, ha, hu, ⟨by omega, .inr ⟨hD, rfl⟩⟩, by omega, by omega, hbd2, hwb, hbl, hlo _ _ _ _ _ _ oq, hlo _ _ _ _ _ _ oa, hlo _ _ _ _ _ _ ou, fun k hk _ => hal.block k hk⟩, fun _ => rfl⟩
  · rcases od.2 with ⟨h1, h2⟩ | ⟨g, cap, cur, h1, hb, hh, hn, hmx, hcs, _⟩
    · injection h1 with _ _ h3; omega
    · injection h1 with h1 h2 h3
      subst h1; subst h3
      obtain ⟨rest, hr, hbg⟩ := rb_own od
      have hlt : g < w2.heap.size := hr.lt
      have hsz : D.length * 5 + rest.length = cd * 5 := by
        have e : some (Obj.cells (rce5 D ++ rest).toArray 59 (0, 0)) = some (Obj.cells cur 59 (0, 0)) := (show w2.heap[g]? = _ from hr).symm.trans hh
        injection e with e
        injection e with e
        rw [← e, List.size_toArray, List.length_append, rce5_len] at hcs
        exact hcs
      exact ⟨g, ⟨hbx, hq, ha, hu, ⟨hn, .inl ⟨rest, rfl, h0, hr.below hal hlt, hsz⟩⟩, hbg, by omega, hbd2, hwb, hbl, hlo _ _ _ _ _ _ oq, hlo _ _ _ _ _ _ oa, hlo _ _ _ _ _ _ ou, fun k hk _ => hal.block k hk⟩, fun e => by omega⟩
/-- Fit's lists are rows of its own -/
theorem FS.own {w wr w2 w9 : World} {P g bd b0 qc1 ac1 uc1 cd : Nat} {M : Array Value} {q1 a1 u1 d1 : Option Addr} {Q : List Qn} {A U D Dk : List Rn} (h : FS w2 w wr P g bd M q1 a1 u1 d1 cd Q A U Dk) (hP : P = w2.heap.size) (hb0 : b0 ≤ bd) (hR : w.heap.size + 1 < b0) (h0 : cd = 0 → g = w2.heap.size + 1) (hcm : cd ≤ maxLen) (oq : w2.ownsRow b0 57 3 (.slice q1 Q.length qc1) Q.length (qce3 Q)) (oa : w2.ownsRow b0 59 5 (.slice a1 A.length ac1) A.length (rce5 A)) (ou : w2.ownsRow b0 59 5 (.slice u1 U.length uc1) U.length (rce5 U)) (od : w2.ownsRow bd 59 5 (.slice d1 D.length cd) D.length (rce5 D))
    (gq : ∀ g, (Value.slice q1 Q.length qc1).ownBlock = some g → g < bd) (ga : ∀ g, (Value.slice a1 A.length ac1).ownBlock = some g → g < bd) (gu : ∀ g, (Value.slice u1 U.length uc1).ownBlock = some g → g < bd) (pqa : Apart (.slice q1 Q.length qc1) (.slice a1 A.length ac1)) (pqu : Apart (.slice q1 Q.length qc1) (.slice u1 U.length uc1)) (pau : Apart (.slice a1 A.length ac1) (.slice u1 U.length uc1)) (hDk : Dk.length ≤ D.length) (hg : wr.grownBy w9 (some (w.heap.size + 1))) :
    Mg4 w9 b0 (.slice q1 Q.length qc1) (.slice a1 A.length ac1) (.slice u1 U.length uc1) (.slice d1 Dk.length cd) ⟨Q, A, U, Dk⟩ := by
  subst hP
  have hgb := h.hg
  have keep : ∀ (e s k : Nat) (v : Value) (xs : List Value), w2.ownsRow b0 e s v k xs → (∀ x, v.ownBlock = some x → x ≠ g) → w9.ownsRow b0 e s v k xs := fun e s k v xs hv hne => own_blk hv (fun x hx => by
    have h1 := hv.lt x hx
    have h2 := h.fr x h1.2 (hne x hx)
    exact (hg.block x (Nat.lt_trans h1.2 h.bx.lt) (fun e => by injection e with e; omega)).trans h2)
  have hd : w9.ownsRow b0 59 5 (.slice d1 Dk.length cd) Dk.length (rce5 Dk) ∧ ∀ x, (Value.slice d1 Dk.length cd).ownBlock = some x → bd ≤ x := by
    rcases Nat.eq_zero_or_pos cd with hc | hc
    · have hD0 : D = [] := by
        obtain ⟨_, _, hv, hv2, _⟩ := own_shape od
        injection hv with _ _ hv3
        exact List.eq_nil_of_length_eq_zero (by omega)
      subst hD0
      obtain rfl : Dk = [] := List.eq_nil_of_length_eq_zero (by simpa using hDk)
      refine ⟨keep _ _ _ _ _ (own_low od hb0) (fun x hx => ?_), fun x hx => (od.lt x hx).1⟩
      have := (od.lt x hx).2
      have := h0 hc
      omega
    · refine ⟨own_blk (h.d.own (Nat.le_trans hb0 hgb) hc hcm) (fun x hx => ?_), fun x hx => ?_⟩
      · rcases h.d.2 with ⟨rest, rfl, _, h3, _⟩ | ⟨_, e⟩
        · simp only [Value.ownBlock, Option.some.injEq] at hx
          subst hx
          exact hg.block _ h3.lt (fun e => by injection e with e; omega)
        · omega
      · rcases h.d.2 with ⟨rest, rfl, _, h3, _⟩ | ⟨_, e⟩
        · simp only [Value.ownBlock, Option.some.injEq] at hx
          omega
        · omega
  exact ⟨keep _ _ _ _ _ oq (fun x hx => by have := gq x hx; omega), keep _ _ _ _ _ oa (fun x hx => by have := ga x hx; omega), keep _ _ _ _ _ ou (fun x hx => by have := gu x hx; omega), hd.1, pqa, pqu, fun x hx hy => by (have := gq x hx; have := hd.2 x hy; omega), pau, fun x hx hy => by (have := ga x hx; have := hd.2 x hy; omega), fun x hx hy => by (have := gu x hx; have := hd.2 x hy; omega)⟩
theorem Mg4.low {w : World} {n n2 : Nat} {vq va vu vd : Value} {ls : Ls} (h : Mg4 w n2 vq va vu vd ls) (hn : n ≤ n2) : Mg4 w n vq va vu vd ls := ⟨own_low h.q hn, own_low h.a hn, own_low h.u hn, own_low h.d hn, h.qa, h.qu, h.qd, h.au, h.ad, h.ud⟩
theorem own_of {w w1 w2 : World} {g bd qc1 ac1 uc1 cd : Nat} {q1 a1 u1 d1 : Option Addr} {Q : List Qn} {A U D : List Rn} (hR : w.heap.size + 2 ≤ w1.heap.size) (h0 : cd = 0 → g = w2.heap.size + 1) (hcm : cd ≤ maxLen) (oq : w2.ownsRow w1.heap.size 57 3 (.slice q1 Q.length qc1) Q.length (qce3 Q)) (oa : w2.ownsRow w1.heap.size 59 5 (.slice a1 A.length ac1) A.length (rce5 A)) (ou : w2.ownsRow w1.heap.size 59 5 (.slice u1 U.length uc1) U.length (rce5 U)) (od : w2.ownsRow bd 59 5 (.slice d1 D.length cd) D.length (rce5 D))
    (gq : ∀ g, (Value.slice q1 Q.length qc1).ownBlock = some g → g < bd) (ga : ∀ g, (Value.slice a1 A.length ac1).ownBlock = some g → g < bd) (gu : ∀ g, (Value.slice u1 U.length uc1).ownBlock = some g → g < bd) (pqa : Apart (.slice q1 Q.length qc1) (.slice a1 A.length ac1)) (pqu : Apart (.slice q1 Q.length qc1) (.slice u1 U.length uc1)) (pau : Apart (.slice a1 A.length ac1) (.slice u1 U.length uc1)) (hbd : w1.heap.size ≤ bd) (wr w9 : World) (Mx : Array Value) (Dk : List Rn) (h : FS w2 w wr w2.heap.size g bd Mx q1 a1 u1 d1 cd Q A U Dk) (hl : Dk.length ≤ D.length) (hg : wr.grownBy w9 (some (w.heap.size + 1))) :
    Mg4 w9 (w.heap.size + 2) (.slice q1 Q.length qc1) (.slice a1 A.length ac1) (.slice u1 U.length uc1) (.slice d1 Dk.length cd) ⟨Q, A, U, Dk⟩ :=
  (FS.own h rfl hbd (by omega) h0 hcm oq oa ou od gq ga gu pqa pqu pau hl hg).low hR
theorem plain_lt {D : List Rn} {f i : Nat} (hi : i < (dropF D f).length) (hp : plR (dropF D f)[i] = true) : i < f := by
  by_cases h : i < (D.take f).length
  · rw [List.length_take] at h; omega
  · exfalso
    have e : (dropF D f)[i] = (kp (D.drop f))[i - (D.take f).length]'(by unfold dropF at hi; rw [List.length_append] at hi; omega) := by
      unfold dropF
      exact List.getElem_append_right (by omega)
    have h2 := kp_none _ (List.getElem_mem (l := kp (D.drop f)) (n := i - (D.take f).length) (by unfold dropF at hi; rw [List.length_append] at hi; omega))
    rw [e, h2] at hp
    cases hp
theorem drop_sub {L : List Rn} {i j : Nat} (h : i + 1 ≤ j) (hn : ∀ x ∈ L.drop (i + 1), plR x = false) : ∀ x ∈ L.drop j, plR x = false := fun x hx => by
  rw [show j = (i + 1) + (j - (i + 1)) by omega, ← List.drop_drop] at hx
  exact hn x (List.mem_of_mem_drop hx)
theorem cp_lt {D : List Rn} {i j : Nat} (h : cp (D.drop j) < cp (D.drop i)) : i + 1 ≤ j := by
  by_cases hj : j ≤ i
  · have := cp_anti D j i hj; omega
  · omega
/-- what is right of fewer is right -/
theorem msgOK_less {i0 i2 i9 : Int} {Q : List Qn} {A U D D2 : List Rn} (h : msgOK i0 i2 i9 Q A U D = true) (hs : ∀ r ∈ D2, r ∈ D) (hl : D2.length ≤ D.length) : msgOK i0 i2 i9 Q A U D2 = true := by
  unfold msgOK lstOK at h ⊢
  simp only [Bool.and_eq_true, decide_eq_true_eq, List.all_eq_true] at h ⊢
  exact ⟨⟨h.1.1, by omega⟩, h.2.1, h.2.2.1, fun r hr => h.2.2.2 r (hs r hr)⟩
theorem msgOK_none {i0 i2 i9 : Int} {Q : List Qn} {A U D : List Rn} (h : msgOK i0 i2 i9 Q A U D = true) : msgOK i0 i2 i9 Q [] [] D = true := by
  unfold msgOK lstOK at h ⊢
  simp only [Bool.and_eq_true, decide_eq_true_eq, List.all_eq_true] at h ⊢
  exact ⟨⟨⟨⟨h.1.1.1.1, by simp⟩, by simp⟩, h.1.2⟩, h.2.1, ⟨by simp, by simp⟩, h.2.2.2⟩
theorem run_upto2 (p : Option Addr) (len cap i : Nat) (hc : i ≤ cap) (W : World) : (Instr.slice 23 (.slice p len cap) none (some (.int .i64 (i : Int))) none).run Tryz.prog W = .ok (.slice p i cap) W := by
  have ht' : Tryz.prog.underlying 23 = some (.slice (Tryz.prog.elem 23)) := by simp [Program.elem, Tryz.underlying23]
  have he' : Tryz.prog.elem 23 = 59 := by simp [Program.elem, Tryz.underlying23]
  rw [run_slice_h W _ _ _ _ ht' .i64 _ (by omega) (by omega), he', Tryz.sizeOf59]
  cases p with
  | none => simp [Result.andThen, sliced]
  | some ad => simp [Result.andThen, sliced, Addr.add]
/-- how long a list in a cell is -/
def lenAt (w : World) (P : Nat) : Nat := match w.cell? ⟨P, 13, none⟩ with | some (.slice _ n _) => n | _ => 0

/-- along Fit's loop -/
structure FL (wc : World) (most : Int) (i0 i2 i9 : Nat) (b1 b3 b4 b5 b6 b7 b8 : Bool) (w wr : World) (P g bd : Nat) (q1 a1 u1 d1 : Option Addr) (qc1 ac1 uc1 cd : Nat) (Q : List Qn) (A U D Dk : List Rn) : Prop where
  fs : FS wc w wr P g bd #[.int .i64 (i0 : Int), .bool b1, .int .i64 (i2 : Int), .bool b3, .bool b4, .bool b5, .bool b6, .bool b7, .bool b8, .int .i64 (i9 : Int), .slice q1 Q.length qc1, .slice a1 A.length ac1, .slice u1 U.length uc1, .slice d1 Dk.length cd] q1 a1 u1 d1 cd Q A U Dk
  mem : ∀ r ∈ Dk, r ∈ D
  len : Dk.length ≤ D.length
  orr : Dk = D ∨ most < (((fitR most i0 i2 i9 b1 b3 b4 b5 b6 b7 b8 Q A U D).1.out.size : Nat) : Int)
  rb : Bx wr (w.heap.size + 1) #[.int .i64 0, .bool false, .int .i64 0, .bool false, .bool false, .bool false, .bool false, .bool false, .bool false, .int .i64 0, .slice none 0 0, .slice none 0 0, .slice none 0 0, .slice none 0 0] 25
  nx : ∃ f, f ≤ D.length ∧ Dk = dropF D f ∧ ∀ j, j ≤ D.length → cp (D.drop j) < cp (D.drop f) → ¬ okD most i0 i2 i9 b1 b3 b4 b5 b6 b7 b8 Q A U (dropF D j)
theorem lenAt_fs {wc : World} {most : Int} {i0 i2 i9 : Nat} {b1 b3 b4 b5 b6 b7 b8 : Bool} {w wr : World} {P g bd : Nat} {q1 a1 u1 d1 : Option Addr} {qc1 ac1 uc1 cd : Nat} {Q : List Qn} {A U D Dk : List Rn} (h : FL wc most i0 i2 i9 b1 b3 b4 b5 b6 b7 b8 w wr P g bd q1 a1 u1 d1 qc1 ac1 uc1 cd Q A U D Dk) : lenAt wr P = Dk.length := by
  have : wr.cell? ⟨P, 13, none⟩ = some (.slice d1 Dk.length cd) := h.fs.bx.cell rfl
  unfold lenAt
  rw [this]
/-- how Fit ends -/
def FitF (most : Int) (i0 i2 i9 : Nat) (b1 b3 b4 b5 b6 b7 b8 : Bool) (Q : List Qn) (A U D : List Rn) (w : World) (e : Ending) (w' : World) : Prop :=
  (∃ q1 a1 u1 d1 qc1 ac1 uc1 cd Dk f, e = .returned (.tuple #[.agg #[.int .i64 (i0 : Int), .bool b1, .int .i64 (i2 : Int), .bool b3, .bool b4, .bool b5, .bool b6, .bool b7, .bool b8, .int .i64 (i9 : Int), .slice q1 Q.length qc1, .slice a1 A.length ac1, .slice u1 U.length uc1, .slice d1 Dk.length cd], .int .i64 0]) ∧ LsAt w' q1 a1 u1 d1 Q A U Dk ∧ f ≤ D.length ∧ Dk = dropF D f ∧ okD most i0 i2 i9 b1 b3 b4 b5 b6 b7 b8 Q A U Dk ∧ (∀ j, j ≤ D.length → cp (D.drop j) < cp (D.drop f) → ¬ okD most i0 i2 i9 b1 b3 b4 b5 b6 b7 b8 Q A U (dropF D j)) ∧ Mg4 w' (w.heap.size + 2) (.slice q1 Q.length qc1) (.slice a1 A.length ac1) (.slice u1 U.length uc1) (.slice d1 Dk.length cd) ⟨Q, A, U, Dk⟩ ∧ Below w.heap.size w w') ∨
  (∃ q1 d1 qc1 cd Dk, e = .returned (.tuple #[.agg #[.int .i64 (i0 : Int), .bool b1, .int .i64 (i2 : Int), .bool b3, .bool true, .bool b5, .bool b6, .bool b7, .bool b8, .int .i64 (i9 : Int), .slice q1 Q.length qc1, .slice none 0 0, .slice none 0 0, .slice d1 Dk.length cd], .int .i64 0]) ∧ LsAt w' q1 none none d1 Q [] [] Dk ∧ Dk = dropF D 0 ∧ okD most i0 i2 i9 b1 b3 true b5 b6 b7 b8 Q [] [] Dk ∧ (∀ j, j ≤ D.length → ¬ okD most i0 i2 i9 b1 b3 b4 b5 b6 b7 b8 Q A U (dropF D j)) ∧ Mg4 w' (w.heap.size + 2) (.slice q1 Q.length qc1) (.slice none 0 0) (.slice none 0 0) (.slice d1 Dk.length cd) ⟨Q, [], [], Dk⟩ ∧ Below w.heap.size w w') ∨
  (e = .returned (.tuple #[.agg #[.int .i64 0, .bool false, .int .i64 0, .bool false, .bool false, .bool false, .bool false, .bool false, .bool false, .int .i64 0, .slice none 0 0, .slice none 0 0, .slice none 0 0, .slice none 0 0], .int .i64 12]) ∧ ¬ okD most i0 i2 i9 b1 b3 true b5 b6 b7 b8 Q [] [] (dropF D 0) ∧ (∀ j, j ≤ D.length → ¬ okD most i0 i2 i9 b1 b3 b4 b5 b6 b7 b8 Q A U (dropF D j)) ∧ Below w.heap.size w w')
theorem Mg4.cut {w : World} {n : Nat} {vq va vu vd : Value} {Q : List Qn} {A U D : List Rn} (h : Mg4 w n vq va vu vd ⟨Q, A, U, D⟩) : Mg4 w n vq (.slice none 0 0) (.slice none 0 0) vd ⟨Q, [], [], D⟩ :=
  ⟨h.q, World.ownsRow_nil _ _ _ _, World.ownsRow_nil _ _ _ _, h.d, apart_nil _, apart_nil _, h.qd, apart_nil _, (apart_nil _).symm, (apart_nil _).symm⟩
/-- what hasn't room now hasn't with more of what was left out -/
theorem not_okD {most : Int} {i0 i2 i9 : Nat} {b1 b3 b4 b5 b6 b7 b8 : Bool} {Q : List Qn} {A U D Dk : List Rn} {f c j : Nat} (hm : msgOK i0 i2 i9 Q A U D = true) (hj : j ≤ D.length) (hDk : Dk = dropF D f) (hnx : ∀ j, j ≤ D.length → cp (D.drop j) < cp (D.drop f) → ¬ okD most i0 i2 i9 b1 b3 b4 b5 b6 b7 b8 Q A U (dropF D j)) (hno : ¬ okD most i0 i2 i9 b1 b3 b4 b5 b6 b7 b8 Q A U Dk) (hc : (fitR most i0 i2 i9 b1 b3 b4 b5 b6 b7 b8 Q A U Dk).2 - A.length - U.length = c) (hpl : ∀ x ∈ (Dk.take c).drop j, plR x = false) : ¬ okD most i0 i2 i9 b1 b3 b4 b5 b6 b7 b8 Q A U (dropF D j) := by
  by_cases h1 : cp (D.drop j) < cp (D.drop f)
  · exact hnx j hj h1
  · by_cases h2 : f ≤ j
    · rw [dropF_same D f j h2 (by omega), ← hDk]
      exact hno
    · have e : dropF D j = dropF Dk j := by rw [hDk, dropF_twice D f j (by omega)]
      obtain ⟨Z, hZ⟩ := dropF_begin Dk c j hpl
      have hmk : msgOK i0 i2 i9 Q A U Dk = true := msgOK_less hm (fun r hr => dropF_mem (hDk ▸ hr)) (hDk ▸ dropF_le D f)
      have hmj : msgOK i0 i2 i9 Q A U (dropF D j) = true := msgOK_less hm (fun r hr => dropF_mem hr) (dropF_le D j)
      rw [e, hZ] at hmj ⊢
      exact okD_more hmk hmj hno hc
theorem dropF_all (D : List Rn) : dropF D D.length = D := by simp [dropF, kp]

set_option maxRecDepth 100000 in
set_option maxHeartbeats 8000000 in
/-- wire.Fit, of a message -/
theorem fit_full (i0 i2 i9 : Nat) (b1 b3 b4 b5 b6 b7 b8 : Bool) (q0 a0 u0 d0 : Option Addr) (qc ac uc dc : Nat) (Q : List Qn) (A U D : List Rn) (limit : Int) (w : World) (hl : LsAt w q0 a0 u0 d0 Q A U D) (hm : msgOK i0 i2 i9 Q A U D = true) (hlo : -9223372036854775808 ≤ limit) :
    Calls Tryz.prog 12 #[.agg #[.int .i64 (i0 : Int), .bool b1, .int .i64 (i2 : Int), .bool b3, .bool b4, .bool b5, .bool b6, .bool b7, .bool b8, .int .i64 (i9 : Int), .slice q0 Q.length qc, .slice a0 A.length ac, .slice u0 U.length uc, .slice d0 D.length dc], .int .i64 limit] w (FitF (min limit 65535) i0 i2 i9 b1 b3 b4 b5 b6 b7 b8 Q A U D w) := by
  obtain ⟨_, _, _, lq, la, lu, ld, _⟩ := msgOK_parts hm
  obtain ⟨wz, hwz⟩ : ∃ wr, (w.alloc (.cells #[.int .i64 (i0 : Int), .bool b1, .int .i64 (i2 : Int), .bool b3, .bool b4, .bool b5, .bool b6, .bool b7, .bool b8, .int .i64 (i9 : Int), .slice q0 Q.length qc, .slice a0 A.length ac, .slice u0 U.length uc, .slice d0 D.length dc] 25)).alloc (.cells #[.int .i64 0, .bool false, .int .i64 0, .bool false, .bool false, .bool false, .bool false, .bool false, .bool false, .int .i64 0, .slice none 0 0, .slice none 0 0, .slice none 0 0, .slice none 0 0] 25) = wr := ⟨_, rfl⟩
  have hwzs : wz.heap.size = w.heap.size + 2 := by rw [← hwz]; simp
  have HX : Hid (Bx wz w.heap.size #[.int .i64 (i0 : Int), .bool b1, .int .i64 (i2 : Int), .bool b3, .bool b4, .bool b5, .bool b6, .bool b7, .bool b8, .int .i64 (i9 : Int), .slice q0 Q.length qc, .slice a0 A.length ac, .slice u0 U.length uc, .slice d0 D.length dc] 25) := hwz ▸ Bx.grown (World.alloc_heap_new w _) (World.grownBy_alloc _ _ none) (by simp)
  have HR : Hid (Bx wz (w.heap.size + 1) #[.int .i64 0, .bool false, .int .i64 0, .bool false, .bool false, .bool false, .bool false, .bool false, .bool false, .int .i64 0, .slice none 0 0, .slice none 0 0, .slice none 0 0, .slice none 0 0] 25) := by
    have := World.alloc_heap_new (w.alloc (.cells #[.int .i64 (i0 : Int), .bool b1, .int .i64 (i2 : Int), .bool b3, .bool b4, .bool b5, .bool b6, .bool b7, .bool b8, .int .i64 (i9 : Int), .slice q0 Q.length qc, .slice a0 A.length ac, .slice u0 U.length uc, .slice d0 D.length dc] 25)) (.cells #[.int .i64 0, .bool false, .int .i64 0, .bool false, .bool false, .bool false, .bool false, .bool false, .bool false, .int .i64 0, .slice none 0 0, .slice none 0 0, .slice none 0 0, .slice none 0 0] 25)
    rw [World.size_alloc] at this
    rw [← hwz]
    exact this
  have HB : Hid (Below w.heap.size w wz) := by rw [← hwz]; exact ((Below.refl _ w).alloc (Nat.le_refl _) _).alloc (by simp) _
  have HW := hide' hl
  obtain ⟨most, hmo⟩ : ∃ most, min limit 65535 = most := ⟨_, rfl⟩
  have hmost : most ≤ 65535 := by omega
  have hmost0 : -9223372036854775808 ≤ most := by omega
  rw [hmo]
  obtain ⟨x0, x1, x2, x3, x4, x5, x6, x7, x8, x9, x10, x11, x12, x13⟩ := bx14 HX.out
  clear hl
  go_enter Tryz.func12, Tryz.ntmps12
  go_wp2_with (first
    | (go_at_call 10; refine (wcheck_any i0 i2 i9 b1 b3 b4 b5 b6 b7 b8 q0 a0 u0 d0 qc ac uc dc Q A U D _ (HW.out.below HB.out)).mono ?_; rintro e w1 ⟨he, hB⟩; rw [if_pos hm] at he; subst he; have HX1 : Hid (Bx w1 w.heap.size #[.int .i64 (i0 : Int), .bool b1, .int .i64 (i2 : Int), .bool b3, .bool b4, .bool b5, .bool b6, .bool b7, .bool b8, .int .i64 (i9 : Int), .slice q0 Q.length qc, .slice a0 A.length ac, .slice u0 U.length uc, .slice d0 D.length dc] 25) := HX.out.below hB HX.out.lt; have HR1 : Hid (Bx w1 (w.heap.size + 1) #[.int .i64 0, .bool false, .int .i64 0, .bool false, .bool false, .bool false, .bool false, .bool false, .bool false, .int .i64 0, .slice none 0 0, .slice none 0 0, .slice none 0 0, .slice none 0 0] 25) := HR.out.below hB HR.out.lt; have HB1 := hide' (bstep HB.out hB HB.out.size); clear hB x0 x1 x2 x3 x4 x5 x6 x7 x8 x9 x10 x11 x12 x13; obtain ⟨x0, x1, x2, x3, x4, x5, x6, x7, x8, x9, x10, x11, x12, x13⟩ := bx14 HX1.out)
    | (go_at_call 32; refine (copyOf_any i0 i2 i9 b1 b3 b4 b5 b6 b7 b8 q0 a0 u0 d0 qc ac uc dc Q A U D _ (HW.out.below HB1.out) lq la lu ld).mono ?_; rintro e w2 ⟨vq, va, vu, vd, rfl, bd, oq, oa, ou, od, gq, ga, gu, hbd, hb2, hB2, pqa, pqu, pau⟩; obtain ⟨q1, qc1, rfl, _⟩ := own_shape oq; obtain ⟨a1, ac1, rfl, _⟩ := own_shape oa; obtain ⟨u1, uc1, rfl, _⟩ := own_shape ou; obtain ⟨d1, cd, rfl, hcd, hcm, _⟩ := own_shape od; have hR1x : w.heap.size + 2 ≤ w1.heap.size := HR1.out.lt; obtain ⟨wp, hwp⟩ : ∃ wp, w2.alloc (.cells #[.int .i64 (i0 : Int), .bool b1, .int .i64 (i2 : Int), .bool b3, .bool b4, .bool b5, .bool b6, .bool b7, .bool b8, .int .i64 (i9 : Int), .slice q1 Q.length qc1, .slice a1 A.length ac1, .slice u1 U.length uc1, .slice d1 D.length cd] 25) = wp := ⟨_, rfl⟩; obtain ⟨g, HFS, hg0⟩ := fit_begin (w := w) HB1.out hB2 oq oa ou od gq ga gu hbd hb2 HR1.out.lt hwp; have HG0 := hide' hg0; have HOWN : Hid (∀ (wr w9 : World) (Mx : Array Value) (Dk : List Rn), FS w2 w wr w2.heap.size g bd Mx q1 a1 u1 d1 cd Q A U Dk → Dk.length ≤ D.length → wr.grownBy w9 (some (w.heap.size + 1)) → Mg4 w9 (w.heap.size + 2) (.slice q1 Q.length qc1) (.slice a1 A.length ac1) (.slice u1 U.length uc1) (.slice d1 Dk.length cd) ⟨Q, A, U, Dk⟩) := own_of hR1x HG0.out hcm oq oa ou od gq ga gu pqa pqu pau hbd; clear hg0; have HRp : Hid (Bx wp (w.heap.size + 1) #[.int .i64 0, .bool false, .int .i64 0, .bool false, .bool false, .bool false, .bool false, .bool false, .bool false, .int .i64 0, .slice none 0 0, .slice none 0 0, .slice none 0 0, .slice none 0 0] 25) := hwp ▸ Bx.grown (HR1.out.below hB2 HR1.out.lt) (World.grownBy_alloc _ _ none) (by simp); have hRP : w.heap.size + 1 < w2.heap.size := Nat.lt_of_lt_of_le HR1.out.lt hB2.size; have hRb : w.heap.size + 1 < bd := Nat.lt_of_lt_of_le HR1.out.lt hbd; clear oq oa ou od gq ga gu hB2 x0 x1 x2 x3 x4 x5 x6 x7 x8 x9 x10 x11 x12 x13))
  go_loopw [] (fun wr => ∃ Dk, Hid (FL w2 most i0 i2 i9 b1 b3 b4 b5 b6 b7 b8 w wr w2.heap.size g bd q1 a1 u1 d1 qc1 ac1 uc1 cd Q A U D Dk)) (fun wr => lenAt wr w2.heap.size)
  case atStart => exact ⟨D, HFS.out, fun _ h => h, Nat.le_refl _, .inl rfl, HRp.out, D.length, Nat.le_refl _, (dropF_all D).symm, fun j hj hlt => by (rw [List.drop_length] at hlt; exact absurd hlt (Nat.not_lt_zero _))⟩
  case round =>
    obtain ⟨Dk, HL⟩ := hrel
    have hmk := msgOK_less hm HL.out.mem HL.out.len
    have hdk : Dk.length ≤ 65535 := Nat.le_trans HL.out.len ld
    have HFI := hide' (fits_any w2.heap.size i0 i2 i9 b1 b3 b4 b5 b6 b7 b8 q1 a1 u1 d1 qc1 ac1 uc1 cd Q A U Dk most wr HL.out.fs.bx.lt HL.out.fs.bx (HL.out.fs.ls hmk) hmk hmost hmost0)
    have F1 : Hid True := trivial
    by_cases hfit : (((fitR most i0 i2 i9 b1 b3 b4 b5 b6 b7 b8 Q A U Dk).1.out.size : Nat) : Int) ≤ most
    · simp only [if_pos hfit] at HFI
      have HFT := hide' hfit
      clear hfit
      go_wp2_with (go_at_call 33; have _ := F1; clear F1; refine HFI.out.mono ?_; rintro e w4 ⟨he4, hB4⟩; subst he4; have HFS4 := hide' (HL.out.fs.below hB4); have HR4 : Hid (Bx w4 (w.heap.size + 1) #[.int .i64 0, .bool false, .int .i64 0, .bool false, .bool false, .bool false, .bool false, .bool false, .bool false, .int .i64 0, .slice none 0 0, .slice none 0 0, .slice none 0 0, .slice none 0 0] 25) := HL.out.rb.below hB4 HL.out.rb.lt; clear hB4; obtain ⟨x0, x1, x2, x3, x4, x5, x6, x7, x8, x9, x10, x11, x12, x13⟩ := bx14 HFS4.out.bx; obtain ⟨r0, r1, r2, r3, r4, r5, r6, r7, r8, r9, r10, r11, r12, r13⟩ := bx14 HR4.out; obtain ⟨f0, f1, f2, f3, f4, f5, f6, f7, f8, f9, f10, f11, f12, f13⟩ := bx14_free HR4.out)
      have HF : Hid (FitF most i0 i2 i9 b1 b3 b4 b5 b6 b7 b8 Q A U D w (.returned (.tuple #[.agg #[.int .i64 (i0 : Int), .bool b1, .int .i64 (i2 : Int), .bool b3, .bool b4, .bool b5, .bool b6, .bool b7, .bool b8, .int .i64 (i9 : Int), .slice q1 Q.length qc1, .slice a1 A.length ac1, .slice u1 U.length uc1, .slice d1 Dk.length cd], .int .i64 0])) (set14 w4 (w.heap.size + 1) (.int .i64 (i0 : Int)) (.bool b1) (.int .i64 (i2 : Int)) (.bool b3) (.bool b4) (.bool b5) (.bool b6) (.bool b7) (.bool b8) (.int .i64 (i9 : Int)) (.slice q1 Q.length qc1) (.slice a1 A.length ac1) (.slice u1 U.length uc1) (.slice d1 Dk.length cd))) := (by obtain ⟨f, hf1, hf2, hf3⟩ := HL.out.nx; exact .inl ⟨q1, a1, u1, d1, qc1, ac1, uc1, cd, Dk, f, rfl, HFS4.out.ls2 hmk hRb (grown14 w4 _ _ _ _ _ _ _ _ _ _ _ _ _ _ _), hf1, hf2, HFT.out, hf3, HOWN.out _ _ _ _ HFS4.out HL.out.len (grown14 w4 _ _ _ _ _ _ _ _ _ _ _ _ _ _ _), below14 HFS4.out.bl (by omega) HFS4.out.bl.size _ _ _ _ _ _ _ _ _ _ _ _ _ _⟩)
      obtain ⟨t0, t1, t2, t3, t4, t5, t6, t7, t8, t9, t10, t11, t12, t13⟩ := bx14 (bx14_set HR4.out (.int .i64 (i0 : Int)) (.bool b1) (.int .i64 (i2 : Int)) (.bool b3) (.bool b4) (.bool b5) (.bool b6) (.bool b7) (.bool b8) (.int .i64 (i9 : Int)) (.slice q1 Q.length qc1) (.slice a1 A.length ac1) (.slice u1 U.length uc1) (.slice d1 Dk.length cd))
      unfold set14 at t0 t1 t2 t3 t4 t5 t6 t7 t8 t9 t10 t11 t12 t13
      exact bodyPost_ret (v := .tuple #[.agg #[.int .i64 (i0 : Int), .bool b1, .int .i64 (i2 : Int), .bool b3, .bool b4, .bool b5, .bool b6, .bool b7, .bool b8, .int .i64 (i9 : Int), .slice q1 Q.length qc1, .slice a1 A.length ac1, .slice u1 U.length uc1, .slice d1 Dk.length cd], .int .i64 0]) (by simp [results, go_sem, t0, t1, t2, t3, t4, t5, t6, t7, t8, t9, t10, t11, t12, t13]) rfl HF.out
    · simp only [if_neg hfit] at HFI
      have hbig : Hid (most < (((fitR most i0 i2 i9 b1 b3 b4 b5 b6 b7 b8 Q A U D).1.out.size : Nat) : Int)) := by
        rcases HL.out.orr with e | e
        · rw [← e]; show most < _; omega
        · exact e
      have HNF : Hid (¬ okD most i0 i2 i9 b1 b3 b4 b5 b6 b7 b8 Q A U Dk) := hfit
      clear hfit
      have hc := fitR_le most i0 i2 i9 b1 b3 b4 b5 b6 b7 b8 Q A U Dk
      obtain ⟨c, hcc⟩ : ∃ c, (fitR most i0 i2 i9 b1 b3 b4 b5 b6 b7 b8 Q A U Dk).2 - A.length - U.length = c := ⟨_, rfl⟩
      rw [hcc] at HFI hc
      have HCC := hide' hcc
      clear hcc
      obtain ⟨f, hf1, hf2, hf3⟩ := HL.out.nx
      have HF1 := hide' hf1
      have HFD := hide' hf2
      have HF3 := hide' hf3
      have HHM := hide' hm
      clear hf1 hf2 hf3
      have hcd2 : c ≤ cd := Nat.le_trans hc HL.out.fs.d.1
      have HLEN : Hid ((Dk.take c).length = c) := by unfold Hid; rw [List.length_take]; omega
      have HLP : Hid (∀ (W : World), RsAt W d1 (Dk.take c) → Calls Tryz.prog 34 #[.slice d1 c cd] W fun r w' => ((r = .returned (.int .i64 (-1)) ∧ ∀ x ∈ Dk.take c, plR x = false) ∨ ∃ i : Nat, ∃ hi : i < (Dk.take c).length, r = .returned (.int .i64 (i : Int)) ∧ plR (Dk.take c)[i] = true ∧ ∀ x ∈ (Dk.take c).drop (i + 1), plR x = false) ∧ Below W.heap.size W w') := fun W h => by
        have h2 : ∀ n, n = (Dk.take c).length → Calls Tryz.prog 34 #[.slice d1 n cd] W fun r w' => ((r = .returned (.int .i64 (-1)) ∧ ∀ x ∈ Dk.take c, plR x = false) ∨ ∃ i : Nat, ∃ hi : i < (Dk.take c).length, r = .returned (.int .i64 (i : Int)) ∧ plR (Dk.take c)[i] = true ∧ ∀ x ∈ (Dk.take c).drop (i + 1), plR x = false) ∧ Below W.heap.size W w' := fun n hn => by subst hn; exact lastPlain2 (Dk.take c) d1 cd W (by have := HLEN.out; omega) h
        exact h2 c HLEN.out.symm
      have hup := run_upto2 d1 Dk.length cd c hcd2
      have HMO := hide' hmost
      have HMO0 := hide' hmost0
      have HDK := hide' hdk
      clear hmost hmost0 hcd2 hdk
      by_cases hall : ∀ x ∈ Dk.take c, plR x = false
      · have HALL := hide' hall
        clear hall
        by_cases hf2 : (((fitR most i0 i2 i9 b1 b3 true b5 b6 b7 b8 Q [] [] (dropF Dk 0)).1.out.size : Nat) : Int) ≤ most
        · have HF2C := hide' hf2
          clear hf2
          go_wp2_with (first
          | (go_at_call 33; have _ := F1; clear F1; refine HFI.out.mono ?_; rintro e w4 ⟨he4, hB4⟩; subst he4; have HFS4 := hide' (HL.out.fs.below hB4); have HR4 : Hid (Bx w4 (w.heap.size + 1) #[.int .i64 0, .bool false, .int .i64 0, .bool false, .bool false, .bool false, .bool false, .bool false, .bool false, .int .i64 0, .slice none 0 0, .slice none 0 0, .slice none 0 0, .slice none 0 0] 25) := HL.out.rb.below hB4 HL.out.rb.lt; clear hB4; obtain ⟨x0, x1, x2, x3, x4, x5, x6, x7, x8, x9, x10, x11, x12, x13⟩ := bx14 HFS4.out.bx)
          | (go_at_call 34; refine (HLP.out _ (HFS4.out.d.take c)).mono ?_; rintro e w5 ⟨h5, hB5⟩; obtain rfl := last_none2 HALL.out h5; have HFS5 := hide' (HFS4.out.below hB5); have HR5 : Hid (Bx w5 (w.heap.size + 1) #[.int .i64 0, .bool false, .int .i64 0, .bool false, .bool false, .bool false, .bool false, .bool false, .bool false, .int .i64 0, .slice none 0 0, .slice none 0 0, .slice none 0 0, .slice none 0 0] 25) := HR4.out.below hB5 HR4.out.lt; clear hB5 h5 x0 x1 x2 x3 x4 x5 x6 x7 x8 x9 x10 x11 x12 x13; obtain ⟨x0, x1, x2, x3, x4, x5, x6, x7, x8, x9, x10, x11, x12, x13⟩ := bx14 HFS5.out.bx)
          | (go_at_call 35; refine (dropPlain2 Dk d1 cd g 0 _ HFS5.out.d (.inr rfl) HDK.out).mono ?_; rintro e w6 ⟨he6, hd6, hg6⟩; obtain ⟨D2, hD2⟩ : ∃ D2, dropF Dk 0 = D2 := ⟨_, rfl⟩; have HD2 := hide' hD2; rw [hD2] at he6 hd6; subst he6; clear hD2; have HFS7 := hide' (HFS5.out.drop hg6 hd6 (.slice d1 D2.length cd)); have HP6 : Hid (Bx w6 w2.heap.size #[.int .i64 (i0 : Int), .bool b1, .int .i64 (i2 : Int), .bool b3, .bool b4, .bool b5, .bool b6, .bool b7, .bool b8, .int .i64 (i9 : Int), .slice q1 Q.length qc1, .slice a1 A.length ac1, .slice u1 U.length uc1, .slice d1 Dk.length cd] 25) := HFS5.out.bx.grown hg6 (fun e => by injection e with e; exact HFS5.out.gP e); have y13 : w6.cell? ⟨w2.heap.size, 13, none⟩ = some (.slice d1 Dk.length cd) := HP6.out.cell rfl; have f13 := HP6.out.free 13; have HR6 : Hid (Bx w6 (w.heap.size + 1) #[.int .i64 0, .bool false, .int .i64 0, .bool false, .bool false, .bool false, .bool false, .bool false, .bool false, .int .i64 0, .slice none 0 0, .slice none 0 0, .slice none 0 0, .slice none 0 0] 25) := HR5.out.grown hg6 (fun e => by injection e with e; have := HFS5.out.hg; omega); obtain ⟨w7, hw7⟩ : ∃ w7, w6.setCell ⟨w2.heap.size, 13, none⟩ (.slice d1 D2.length cd) = w7 := ⟨_, rfl⟩; rw [hw7] at HFS7; have HR7 : Hid (Bx w7 (w.heap.size + 1) #[.int .i64 0, .bool false, .int .i64 0, .bool false, .bool false, .bool false, .bool false, .bool false, .bool false, .int .i64 0, .slice none 0 0, .slice none 0 0, .slice none 0 0, .slice none 0 0] 25) := hw7 ▸ HR6.out.far (by omega) 13 _; clear hd6 hg6 x0 x1 x2 x3 x4 x5 x6 x7 x8 x9 x10 x11 x12 x13; have HP7 : Hid (Bx w7 w2.heap.size #[.int .i64 (i0 : Int), .bool b1, .int .i64 (i2 : Int), .bool b3, .bool b4, .bool b5, .bool b6, .bool b7, .bool b8, .int .i64 (i9 : Int), .slice q1 Q.length qc1, .slice a1 A.length ac1, .slice u1 U.length uc1, .slice d1 D2.length cd] 25) := HFS7.out.bx; obtain ⟨z0, z1, z2, z3, z4, z5, z6, z7, z8, z9, z10, z11, z12, z13⟩ := bx14 HP7.out; have g4 := HP7.out.free 4; have g11 := HP7.out.free 11; have g12 := HP7.out.free 12; obtain ⟨w8, hw8⟩ : ∃ w8, ((w7.setCell ⟨w2.heap.size, 11, none⟩ (.slice none 0 0)).setCell ⟨w2.heap.size, 12, none⟩ (.slice none 0 0)).setCell ⟨w2.heap.size, 4, none⟩ (.bool true) = w8 := ⟨_, rfl⟩; have HFU8 := hide' (hw8 ▸ (((HFS7.out.put 11 (.slice none 0 0)).put 12 (.slice none 0 0)).put 4 (.bool true)) : FS w2 w w8 w2.heap.size g bd _ q1 a1 u1 d1 cd Q A U D2); have HFS8 : Hid (FS w2 w w8 w2.heap.size g bd #[.int .i64 (i0 : Int), .bool b1, .int .i64 (i2 : Int), .bool b3, .bool true, .bool b5, .bool b6, .bool b7, .bool b8, .int .i64 (i9 : Int), .slice q1 Q.length qc1, .slice none 0 0, .slice none 0 0, .slice d1 D2.length cd] q1 none none d1 cd Q [] [] D2) := hw8 ▸ (((HFS7.out.put 11 (.slice none 0 0)).put 12 (.slice none 0 0)).put 4 (.bool true)).strip; have HR8 : Hid (Bx w8 (w.heap.size + 1) #[.int .i64 0, .bool false, .int .i64 0, .bool false, .bool false, .bool false, .bool false, .bool false, .bool false, .int .i64 0, .slice none 0 0, .slice none 0 0, .slice none 0 0, .slice none 0 0] 25) := hw8 ▸ ((HR7.out.far (by omega) 11 _).far (by omega) 12 _).far (by omega) 4 _; have hmk2 := msgOK_none (msgOK_less hmk (fun r hr => dropF_mem (HD2.out ▸ hr)) (HD2.out ▸ dropF_le Dk 0) : msgOK (i0 : Int) (i2 : Int) (i9 : Int) Q A U D2 = true); have HF2 := hide' (fits_any w2.heap.size i0 i2 i9 b1 b3 true b5 b6 b7 b8 q1 none none d1 qc1 0 0 cd Q [] [] D2 most w8 HFS8.out.bx.lt HFS8.out.bx (HFS8.out.ls hmk2) hmk2 HMO.out HMO0.out); have hf2 := HF2C.out; rw [HD2.out] at hf2; simp only [if_pos hf2] at HF2; have HF2D := hide' hf2; clear hf2)
          | (go_at_call 33; refine HF2.out.mono ?_; rintro e w9 ⟨he9, hB9⟩; subst he9; have HFS9 := hide' (HFS8.out.below hB9); have HFU9 := hide' (HFU8.out.below hB9); have HR9 : Hid (Bx w9 (w.heap.size + 1) #[.int .i64 0, .bool false, .int .i64 0, .bool false, .bool false, .bool false, .bool false, .bool false, .bool false, .int .i64 0, .slice none 0 0, .slice none 0 0, .slice none 0 0, .slice none 0 0] 25) := HR8.out.below hB9 HR8.out.lt; clear hB9 z0 z1 z2 z3 z4 z5 z6 z7 z8 z9 z10 z11 z12 z13; obtain ⟨x0, x1, x2, x3, x4, x5, x6, x7, x8, x9, x10, x11, x12, x13⟩ := bx14 HFS9.out.bx; obtain ⟨r0, r1, r2, r3, r4, r5, r6, r7, r8, r9, r10, r11, r12, r13⟩ := bx14 HR9.out; obtain ⟨f0, f1, f2, f3, f4, f5, f6, f7, f8, f9, f10, f11, f12, f13⟩ := bx14_free HR9.out))
          have HF : Hid (FitF most i0 i2 i9 b1 b3 b4 b5 b6 b7 b8 Q A U D w (.returned (.tuple #[.agg #[.int .i64 (i0 : Int), .bool b1, .int .i64 (i2 : Int), .bool b3, .bool true, .bool b5, .bool b6, .bool b7, .bool b8, .int .i64 (i9 : Int), .slice q1 Q.length qc1, .slice none 0 0, .slice none 0 0, .slice d1 D2.length cd], .int .i64 0])) (set14 w9 (w.heap.size + 1) (.int .i64 (i0 : Int)) (.bool b1) (.int .i64 (i2 : Int)) (.bool b3) (.bool true) (.bool b5) (.bool b6) (.bool b7) (.bool b8) (.int .i64 (i9 : Int)) (.slice q1 Q.length qc1) (.slice none 0 0) (.slice none 0 0) (.slice d1 D2.length cd))) := .inr (.inl ⟨q1, d1, qc1, cd, D2, rfl, HFS9.out.ls2 hmk2 hRb (grown14 w9 _ _ _ _ _ _ _ _ _ _ _ _ _ _ _), HD2.out.symm.trans (by rw [HFD.out, dropF_twice D f 0 (Nat.zero_le _)]), HF2D.out, (fun j hj => not_okD HHM.out hj HFD.out HF3.out HNF.out HCC.out (fun x hx => HALL.out x (List.mem_of_mem_drop hx))), (HOWN.out _ _ _ _ HFU9.out (HD2.out ▸ Nat.le_trans (dropF_le Dk 0) HL.out.len) (grown14 w9 _ _ _ _ _ _ _ _ _ _ _ _ _ _ _)).cut, below14 HFS9.out.bl (by omega) HFS9.out.bl.size _ _ _ _ _ _ _ _ _ _ _ _ _ _⟩)
          obtain ⟨t0, t1, t2, t3, t4, t5, t6, t7, t8, t9, t10, t11, t12, t13⟩ := bx14 (bx14_set HR9.out (.int .i64 (i0 : Int)) (.bool b1) (.int .i64 (i2 : Int)) (.bool b3) (.bool true) (.bool b5) (.bool b6) (.bool b7) (.bool b8) (.int .i64 (i9 : Int)) (.slice q1 Q.length qc1) (.slice none 0 0) (.slice none 0 0) (.slice d1 D2.length cd))
          unfold set14 at t0 t1 t2 t3 t4 t5 t6 t7 t8 t9 t10 t11 t12 t13
          exact bodyPost_ret (v := .tuple #[.agg #[.int .i64 (i0 : Int), .bool b1, .int .i64 (i2 : Int), .bool b3, .bool true, .bool b5, .bool b6, .bool b7, .bool b8, .int .i64 (i9 : Int), .slice q1 Q.length qc1, .slice none 0 0, .slice none 0 0, .slice d1 D2.length cd], .int .i64 0]) (by simp [results, go_sem, t0, t1, t2, t3, t4, t5, t6, t7, t8, t9, t10, t11, t12, t13]) rfl HF.out
        · have HF2C := hide' hf2
          clear hf2
          go_wp2_with (first
          | (go_at_call 33; have _ := F1; clear F1; refine HFI.out.mono ?_; rintro e w4 ⟨he4, hB4⟩; subst he4; have HFS4 := hide' (HL.out.fs.below hB4); have HR4 : Hid (Bx w4 (w.heap.size + 1) #[.int .i64 0, .bool false, .int .i64 0, .bool false, .bool false, .bool false, .bool false, .bool false, .bool false, .int .i64 0, .slice none 0 0, .slice none 0 0, .slice none 0 0, .slice none 0 0] 25) := HL.out.rb.below hB4 HL.out.rb.lt; clear hB4; obtain ⟨x0, x1, x2, x3, x4, x5, x6, x7, x8, x9, x10, x11, x12, x13⟩ := bx14 HFS4.out.bx)
          | (go_at_call 34; refine (HLP.out _ (HFS4.out.d.take c)).mono ?_; rintro e w5 ⟨h5, hB5⟩; obtain rfl := last_none2 HALL.out h5; have HFS5 := hide' (HFS4.out.below hB5); have HR5 : Hid (Bx w5 (w.heap.size + 1) #[.int .i64 0, .bool false, .int .i64 0, .bool false, .bool false, .bool false, .bool false, .bool false, .bool false, .int .i64 0, .slice none 0 0, .slice none 0 0, .slice none 0 0, .slice none 0 0] 25) := HR4.out.below hB5 HR4.out.lt; clear hB5 h5 x0 x1 x2 x3 x4 x5 x6 x7 x8 x9 x10 x11 x12 x13; obtain ⟨x0, x1, x2, x3, x4, x5, x6, x7, x8, x9, x10, x11, x12, x13⟩ := bx14 HFS5.out.bx)
          | (go_at_call 35; refine (dropPlain2 Dk d1 cd g 0 _ HFS5.out.d (.inr rfl) HDK.out).mono ?_; rintro e w6 ⟨he6, hd6, hg6⟩; obtain ⟨D2, hD2⟩ : ∃ D2, dropF Dk 0 = D2 := ⟨_, rfl⟩; have HD2 := hide' hD2; rw [hD2] at he6 hd6; subst he6; clear hD2; have HFS7 := hide' (HFS5.out.drop hg6 hd6 (.slice d1 D2.length cd)); have HP6 : Hid (Bx w6 w2.heap.size #[.int .i64 (i0 : Int), .bool b1, .int .i64 (i2 : Int), .bool b3, .bool b4, .bool b5, .bool b6, .bool b7, .bool b8, .int .i64 (i9 : Int), .slice q1 Q.length qc1, .slice a1 A.length ac1, .slice u1 U.length uc1, .slice d1 Dk.length cd] 25) := HFS5.out.bx.grown hg6 (fun e => by injection e with e; exact HFS5.out.gP e); have y13 : w6.cell? ⟨w2.heap.size, 13, none⟩ = some (.slice d1 Dk.length cd) := HP6.out.cell rfl; have f13 := HP6.out.free 13; have HR6 : Hid (Bx w6 (w.heap.size + 1) #[.int .i64 0, .bool false, .int .i64 0, .bool false, .bool false, .bool false, .bool false, .bool false, .bool false, .int .i64 0, .slice none 0 0, .slice none 0 0, .slice none 0 0, .slice none 0 0] 25) := HR5.out.grown hg6 (fun e => by injection e with e; have := HFS5.out.hg; omega); obtain ⟨w7, hw7⟩ : ∃ w7, w6.setCell ⟨w2.heap.size, 13, none⟩ (.slice d1 D2.length cd) = w7 := ⟨_, rfl⟩; rw [hw7] at HFS7; have HR7 : Hid (Bx w7 (w.heap.size + 1) #[.int .i64 0, .bool false, .int .i64 0, .bool false, .bool false, .bool false, .bool false, .bool false, .bool false, .int .i64 0, .slice none 0 0, .slice none 0 0, .slice none 0 0, .slice none 0 0] 25) := hw7 ▸ HR6.out.far (by omega) 13 _; clear hd6 hg6 x0 x1 x2 x3 x4 x5 x6 x7 x8 x9 x10 x11 x12 x13; have HP7 : Hid (Bx w7 w2.heap.size #[.int .i64 (i0 : Int), .bool b1, .int .i64 (i2 : Int), .bool b3, .bool b4, .bool b5, .bool b6, .bool b7, .bool b8, .int .i64 (i9 : Int), .slice q1 Q.length qc1, .slice a1 A.length ac1, .slice u1 U.length uc1, .slice d1 D2.length cd] 25) := HFS7.out.bx; obtain ⟨z0, z1, z2, z3, z4, z5, z6, z7, z8, z9, z10, z11, z12, z13⟩ := bx14 HP7.out; have g4 := HP7.out.free 4; have g11 := HP7.out.free 11; have g12 := HP7.out.free 12; obtain ⟨w8, hw8⟩ : ∃ w8, ((w7.setCell ⟨w2.heap.size, 11, none⟩ (.slice none 0 0)).setCell ⟨w2.heap.size, 12, none⟩ (.slice none 0 0)).setCell ⟨w2.heap.size, 4, none⟩ (.bool true) = w8 := ⟨_, rfl⟩; have HFU8 := hide' (hw8 ▸ (((HFS7.out.put 11 (.slice none 0 0)).put 12 (.slice none 0 0)).put 4 (.bool true)) : FS w2 w w8 w2.heap.size g bd _ q1 a1 u1 d1 cd Q A U D2); have HFS8 : Hid (FS w2 w w8 w2.heap.size g bd #[.int .i64 (i0 : Int), .bool b1, .int .i64 (i2 : Int), .bool b3, .bool true, .bool b5, .bool b6, .bool b7, .bool b8, .int .i64 (i9 : Int), .slice q1 Q.length qc1, .slice none 0 0, .slice none 0 0, .slice d1 D2.length cd] q1 none none d1 cd Q [] [] D2) := hw8 ▸ (((HFS7.out.put 11 (.slice none 0 0)).put 12 (.slice none 0 0)).put 4 (.bool true)).strip; have HR8 : Hid (Bx w8 (w.heap.size + 1) #[.int .i64 0, .bool false, .int .i64 0, .bool false, .bool false, .bool false, .bool false, .bool false, .bool false, .int .i64 0, .slice none 0 0, .slice none 0 0, .slice none 0 0, .slice none 0 0] 25) := hw8 ▸ ((HR7.out.far (by omega) 11 _).far (by omega) 12 _).far (by omega) 4 _; have hmk2 := msgOK_none (msgOK_less hmk (fun r hr => dropF_mem (HD2.out ▸ hr)) (HD2.out ▸ dropF_le Dk 0) : msgOK (i0 : Int) (i2 : Int) (i9 : Int) Q A U D2 = true); have HF2 := hide' (fits_any w2.heap.size i0 i2 i9 b1 b3 true b5 b6 b7 b8 q1 none none d1 qc1 0 0 cd Q [] [] D2 most w8 HFS8.out.bx.lt HFS8.out.bx (HFS8.out.ls hmk2) hmk2 HMO.out HMO0.out); have hf2 : ¬ (((fitR most i0 i2 i9 b1 b3 true b5 b6 b7 b8 Q [] [] (dropF Dk 0)).1.out.size : Nat) : Int) ≤ most := (by first | exact HF2C.out | exact Int.not_le.2 HF2C.out); rw [HD2.out] at hf2; simp only [if_neg hf2] at HF2; have HF2D := hide' hf2; clear hf2)
          | (go_at_call 33; refine HF2.out.mono ?_; rintro e w9 ⟨he9, hB9⟩; subst he9; have HFS9 := hide' (HFS8.out.below hB9); have HFU9 := hide' (HFU8.out.below hB9); have HR9 : Hid (Bx w9 (w.heap.size + 1) #[.int .i64 0, .bool false, .int .i64 0, .bool false, .bool false, .bool false, .bool false, .bool false, .bool false, .int .i64 0, .slice none 0 0, .slice none 0 0, .slice none 0 0, .slice none 0 0] 25) := HR8.out.below hB9 HR8.out.lt; clear hB9 z0 z1 z2 z3 z4 z5 z6 z7 z8 z9 z10 z11 z12 z13; obtain ⟨x0, x1, x2, x3, x4, x5, x6, x7, x8, x9, x10, x11, x12, x13⟩ := bx14 HFS9.out.bx; obtain ⟨r0, r1, r2, r3, r4, r5, r6, r7, r8, r9, r10, r11, r12, r13⟩ := bx14 HR9.out; obtain ⟨f0, f1, f2, f3, f4, f5, f6, f7, f8, f9, f10, f11, f12, f13⟩ := bx14_free HR9.out))
          have HF : Hid (FitF most i0 i2 i9 b1 b3 b4 b5 b6 b7 b8 Q A U D w (.returned (.tuple #[.agg #[.int .i64 0, .bool false, .int .i64 0, .bool false, .bool false, .bool false, .bool false, .bool false, .bool false, .int .i64 0, .slice none 0 0, .slice none 0 0, .slice none 0 0, .slice none 0 0], .int .i64 12])) (set14 w9 (w.heap.size + 1) (.int .i64 0) (.bool false) (.int .i64 0) (.bool false) (.bool false) (.bool false) (.bool false) (.bool false) (.bool false) (.int .i64 0) (.slice none 0 0) (.slice none 0 0) (.slice none 0 0) (.slice none 0 0))) := .inr (.inr ⟨rfl, (by intro h; have e : dropF D 0 = D2 := (by rw [← HD2.out, HFD.out, dropF_twice D f 0 (Nat.zero_le _)]); rw [e] at h; exact absurd h (by first | exact HF2D.out | exact Int.not_le.2 HF2D.out)), (fun j hj => not_okD HHM.out hj HFD.out HF3.out HNF.out HCC.out (fun x hx => HALL.out x (List.mem_of_mem_drop hx))), below14 HFS9.out.bl (by omega) HFS9.out.bl.size _ _ _ _ _ _ _ _ _ _ _ _ _ _⟩)
          obtain ⟨t0, t1, t2, t3, t4, t5, t6, t7, t8, t9, t10, t11, t12, t13⟩ := bx14 (bx14_set HR9.out (.int .i64 0) (.bool false) (.int .i64 0) (.bool false) (.bool false) (.bool false) (.bool false) (.bool false) (.bool false) (.int .i64 0) (.slice none 0 0) (.slice none 0 0) (.slice none 0 0) (.slice none 0 0))
          unfold set14 at t0 t1 t2 t3 t4 t5 t6 t7 t8 t9 t10 t11 t12 t13
          exact bodyPost_ret (v := .tuple #[.agg #[.int .i64 0, .bool false, .int .i64 0, .bool false, .bool false, .bool false, .bool false, .bool false, .bool false, .int .i64 0, .slice none 0 0, .slice none 0 0, .slice none 0 0, .slice none 0 0], .int .i64 12]) (by simp [results, go_sem, t0, t1, t2, t3, t4, t5, t6, t7, t8, t9, t10, t11, t12, t13]) rfl HF.out
      · have HALL := hide' hall
        clear hall
        go_wp2_with (first
          | (go_at_call 33; have _ := F1; clear F1; refine HFI.out.mono ?_; rintro e w4 ⟨he4, hB4⟩; subst he4; have HFS4 := hide' (HL.out.fs.below hB4); have HR4 : Hid (Bx w4 (w.heap.size + 1) #[.int .i64 0, .bool false, .int .i64 0, .bool false, .bool false, .bool false, .bool false, .bool false, .bool false, .int .i64 0, .slice none 0 0, .slice none 0 0, .slice none 0 0, .slice none 0 0] 25) := HL.out.rb.below hB4 HL.out.rb.lt; clear hB4; obtain ⟨x0, x1, x2, x3, x4, x5, x6, x7, x8, x9, x10, x11, x12, x13⟩ := bx14 HFS4.out.bx)
          | (go_at_call 34; refine (HLP.out _ (HFS4.out.d.take c)).mono ?_; rintro e w5 ⟨h5, hB5⟩; obtain ⟨i, hi, rfl, hp, hnp⟩ := last_some2 HALL.out h5; have HNP := hide' hnp; clear hnp; have hi2 : i < Dk.length := (by have := HLEN.out; omega); have HPI : Hid (plR Dk[i] = true) := (by have e : (Dk.take c)[i] = Dk[i] := List.getElem_take; rw [e] at hp; exact hp); have hmx : max (i : Int) 0 = (i : Int) := (by omega); have hnn : decide ((i : Int) < 0) = false := decide_eq_false (by omega); clear hi hp; have HFS5 := hide' (HFS4.out.below hB5); have HR5 : Hid (Bx w5 (w.heap.size + 1) #[.int .i64 0, .bool false, .int .i64 0, .bool false, .bool false, .bool false, .bool false, .bool false, .bool false, .int .i64 0, .slice none 0 0, .slice none 0 0, .slice none 0 0, .slice none 0 0] 25) := HR4.out.below hB5 HR4.out.lt; clear hB5 h5 x0 x1 x2 x3 x4 x5 x6 x7 x8 x9 x10 x11 x12 x13; obtain ⟨x0, x1, x2, x3, x4, x5, x6, x7, x8, x9, x10, x11, x12, x13⟩ := bx14 HFS5.out.bx)
          | (go_at_call 35; refine (dropPlain2 Dk d1 cd g i _ HFS5.out.d (.inl hi2) HDK.out).mono ?_; rintro e w6 ⟨he6, hd6, hg6⟩; obtain ⟨D2, hD2⟩ : ∃ D2, dropF Dk i = D2 := ⟨_, rfl⟩; have HD2 := hide' hD2; rw [hD2] at he6 hd6; subst he6; clear hD2; have HFS7 := hide' (HFS5.out.drop hg6 hd6 (.slice d1 D2.length cd)); have HP6 : Hid (Bx w6 w2.heap.size #[.int .i64 (i0 : Int), .bool b1, .int .i64 (i2 : Int), .bool b3, .bool b4, .bool b5, .bool b6, .bool b7, .bool b8, .int .i64 (i9 : Int), .slice q1 Q.length qc1, .slice a1 A.length ac1, .slice u1 U.length uc1, .slice d1 Dk.length cd] 25) := HFS5.out.bx.grown hg6 (fun e => by injection e with e; exact HFS5.out.gP e); have y13 : w6.cell? ⟨w2.heap.size, 13, none⟩ = some (.slice d1 Dk.length cd) := HP6.out.cell rfl; have f13 := HP6.out.free 13; have HR6 : Hid (Bx w6 (w.heap.size + 1) #[.int .i64 0, .bool false, .int .i64 0, .bool false, .bool false, .bool false, .bool false, .bool false, .bool false, .int .i64 0, .slice none 0 0, .slice none 0 0, .slice none 0 0, .slice none 0 0] 25) := HR5.out.grown hg6 (fun e => by injection e with e; have := HFS5.out.hg; omega); obtain ⟨w7, hw7⟩ : ∃ w7, w6.setCell ⟨w2.heap.size, 13, none⟩ (.slice d1 D2.length cd) = w7 := ⟨_, rfl⟩; rw [hw7] at HFS7; have HR7 : Hid (Bx w7 (w.heap.size + 1) #[.int .i64 0, .bool false, .int .i64 0, .bool false, .bool false, .bool false, .bool false, .bool false, .bool false, .int .i64 0, .slice none 0 0, .slice none 0 0, .slice none 0 0, .slice none 0 0] 25) := hw7 ▸ HR6.out.far (by omega) 13 _; clear hd6 hg6 x0 x1 x2 x3 x4 x5 x6 x7 x8 x9 x10 x11 x12 x13))
        have hif : i < f := (by have h1 : i < (dropF D f).length := HFD.out ▸ hi2; have h2 : plR (dropF D f)[i] = true := (by have := HPI.out; simp only [HFD.out] at this; exact this); exact plain_lt h1 h2)
        have HL7 : FL w2 most i0 i2 i9 b1 b3 b4 b5 b6 b7 b8 w w7 w2.heap.size g bd q1 a1 u1 d1 qc1 ac1 uc1 cd Q A U D D2 := ⟨HFS7.out, fun r hr => HL.out.mem r (dropF_mem (HD2.out ▸ hr)), (HD2.out ▸ Nat.le_trans (dropF_le Dk i) HL.out.len), .inr hbig.out, HR7.out, i, by have := HL.out.len; omega, HD2.out.symm.trans (by rw [HFD.out, dropF_twice D f i (by omega)]), fun j hj hlt => not_okD HHM.out hj HFD.out HF3.out HNF.out HCC.out (drop_sub (cp_lt hlt) HNP.out)⟩
        refine ⟨⟨D2, HL7⟩, ?_⟩
        rw [lenAt_fs HL7, lenAt_fs HL.out, ← HD2.out]
        exact dropF_lt hi2 HPI.out
end Go.Proofs.YtjnmbgmdkkiidaaGreat
