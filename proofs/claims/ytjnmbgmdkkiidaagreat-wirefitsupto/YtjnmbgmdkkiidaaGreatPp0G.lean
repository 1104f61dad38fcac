import Derived.Test.YtjnmbgmdkkiidaaGreatSh1G
import Derived.Deep.RegionWith
/-
  The reference's Bytes, number. (The verifier's own text.)
-/
namespace Go.Proofs.YtjnmbgmdkkiidaaGreat
set_option linter.unusedVariables false
open Go.RowKit Go.Shelf Go.Maps Go.Proofs.YtjnmbgmdkkiidaaGreat.Nm

theorem numB_succ (v n : Nat) : numB v (n + 1) = numB (v / 256) n ++ bts [v % 256] := by
  unfold numB
  rw [List.range_succ, List.map_append, bts_append]
  congr 1
  · congr 1
    refine List.map_congr_left fun i hi => ?_
    have hi' : i < n := List.mem_range.1 hi
    rw [Nat.div_div_eq_div_mul, show n + 1 - 1 - i = (n - 1 - i) + 1 by omega, Nat.pow_succ, Nat.mul_comm (256 ^ (n - 1 - i)) 256]
  · simp
theorem one_b (W W' : World) (n : Nat) (hn : n < 256) (hb : Below (W.alloc (.cells #[.int .u8 (n : Int)] 5)).heap.size (W.alloc (.cells #[.int .u8 (n : Int)] 5)) W') : (convert 27 9 (.slice (some ⟨W.heap.size, 0, none⟩) 1 1)).run Tryz.prog W' = .ok (.string (bts [n])) W' := by
  have hlt : W.heap.size < (W.alloc (.cells #[.int .u8 (n : Int)] 5)).heap.size := by simp
  have hz : (bts [n]).size = 1 := rfl
  have hH : HoldsB W' W.heap.size (bts [n]).size (fun _ => n) := by
    refine ⟨Nat.lt_of_lt_of_le hlt hb.size, fun j hj => ?_, fun j hj => ?_⟩
    · obtain rfl : j = 0 := by omega
      rw [hb.cell (p := ⟨W.heap.size, 0, none⟩) hlt]
      exact (cell_new_l W _ _).1
    · obtain rfl : j = 0 := by omega
      rw [hb.frozen (p := ⟨W.heap.size, 0, none⟩) hlt]
      exact (cell_new_l W _ _).2
  exact hH.str (fun j hj => by obtain rfl : j = 0 := by omega
                               rw [bts_bt _ (by simpa using hn) 0 (by simp)]; rfl) 1

set_option maxRecDepth 100000 in
set_option maxHeartbeats 1000000 in
/-- gazetteerref1.Bytes -/
theorem refBytes_any : ∀ (n v : Nat) (w : World), n ≤ 8 → v ≤ 9007199254740992 →
    Calls Tryz.prog 42 #[.int .i64 (v : Int), .int .i64 (n : Int)] w fun e w' => e = .returned (.string (numB v n)) ∧ Below w.heap.size w w'
  | 0, v, w, hn, hv => by
    go_enter Tryz.func42, Tryz.ntmps42
    go_wp2
    go_ret
    exact ⟨rfl, Below.refl _ _⟩
  | n + 1, v, w, hn, hv => by
    have HIH := hide' (fun w => refBytes_any n (v / 256) w (by omega) (by omega))
    have hd : v % 256 < 256 := Nat.mod_lt _ (by omega)
    have hq : IntKind.i64.wrap ((v : Int) / 256) = ((v / 256 : Nat) : Int) := by rw [IntWalk.i64_in] <;> omega
    have hm : (v : Int).tmod 256 = ((v % 256 : Nat) : Int) := rfl
    have had : ∀ W : World, (Op.stringOp .add (numB (v / 256) n) (bts [v % 256])).run Tryz.prog W = .ok (.string (numB v (n + 1))) W := fun W => by
      rw [numB_succ]; exact run_string_add_sum W _ _ (by rw [numB_size, bts_size]; simp; omega)
    have hcw := fun (W W' : World) (hb : Below (W.alloc (.cells #[.int .u8 ((v % 256 : Nat) : Int)] 5)).heap.size (W.alloc (.cells #[.int .u8 ((v % 256 : Nat) : Int)] 5)) W') => one_b W W' (v % 256) hd hb
    have hcv : ∀ W : World, (convert 27 9 (.slice (some ⟨W.heap.size, 0, none⟩) 1 1)).run Tryz.prog (W.alloc (.cells #[.int .u8 ((v % 256 : Nat) : Int)] 5)) = .ok (.string (bts [v % 256])) (W.alloc (.cells #[.int .u8 ((v % 256 : Nat) : Int)] 5)) := fun W => hcw W _ (Below.refl _ _)
    have hu : IntKind.u8.wrap ((v % 256 : Nat) : Int) = ((v % 256 : Nat) : Int) := by rw [IntWalk.u8_in] <;> omega
    obtain ⟨R, hR⟩ : ∃ R : ByteArray, numB v (n + 1) = R := ⟨_, rfl⟩
    obtain ⟨D, hD⟩ : ∃ D : ByteArray, numB (v / 256) n = D := ⟨_, rfl⟩
    obtain ⟨C, hC⟩ : ∃ C : ByteArray, bts [v % 256] = C := ⟨_, rfl⟩
    rw [hD] at HIH
    simp only [hD, hR, hC] at had hcv hcw ⊢
    generalize v % 256 = d at *
    generalize v / 256 = q at *
    have hcd : ∀ W : World, (convert 27 9 (.slice (some ⟨W.heap.size, 0, none⟩) 1 1)).run Tryz.prog (W.alloc (.cells #[.int .u8 (d : Int)] 5)).drew = .ok (.string C) (W.alloc (.cells #[.int .u8 (d : Int)] 5)).drew := fun W => hcv W.drew
    have HCW := hide' hcw
    clear hcw hR hD hC
    obtain ⟨N, hN⟩ : ∃ N : Nat, n + 1 = N := ⟨_, rfl⟩
    rw [show (n : Int) = (N : Int) - 1 by omega] at HIH
    have hsb : IntKind.i64.wrap ((N : Int) - 1) = (N : Int) - 1 := by rw [IntWalk.i64_in] <;> omega
    have hne : ((N : Int) == 0) = false := by rw [beq_eq_false_iff_ne]; omega
    rw [hN] at hn ⊢
    clear hv hN
    go_enter Tryz.func42, Tryz.ntmps42
    go_wp2_with fail
    go_region_with (go_at_call 42; refine (HIH.out _).mono ?_; rintro e w5 ⟨rfl, hB5⟩; try (have hx5 : (convert 27 9 (.slice (some ⟨w.heap.size, 0, none⟩) 1 1)).run Tryz.prog w5 = .ok (.string C) w5 := HCW.out w.drew w5 hB5))
    · go_wp2
      go_ret
      exact ⟨rfl, (bstep ((Below.refl _ w).drew) hB5 (Nat.le_refl _)).alloc (Nat.le_trans (Nat.le_refl _) hB5.size) _⟩
    · go_wp2
      go_ret
      exact ⟨rfl, bstep (((Below.refl _ w).alloc (Nat.le_refl _) _).drew) hB5 (by have := World.size_alloc w (.cells #[.int .u8 (d : Int)] 5); show w.heap.size ≤ (w.alloc _).heap.size; omega)⟩
    · go_wp2
      go_ret
      exact ⟨rfl, bstep (((Below.refl _ w).alloc (Nat.le_refl _) _).drew) hB5 (by have := World.size_alloc w (.cells #[.int .u8 (d : Int)] 5); show w.heap.size ≤ (w.alloc _).heap.size; omega)⟩
set_option maxRecDepth 100000 in
/-- gazetteerref2.number -/
theorem refNumber_any (n v : Nat) (w : World) (hn : n ≤ 8) (hv : v ≤ 9007199254740992) :
    Calls Tryz.prog 21 #[.int .i64 (v : Int), .int .i64 (n : Int)] w fun e w' => e = .returned (.string (numB v n)) ∧ Below w.heap.size w w' := by
  go_enter Tryz.func21, Tryz.ntmps21
  go_wp2_with (go_at_call 42; refine (refBytes_any n v _ hn hv).mono ?_; rintro e w1 ⟨rfl, hB1⟩)
  go_ret
  exact ⟨rfl, hB1⟩
end Go.Proofs.YtjnmbgmdkkiidaaGreat

/-
  The reference's paper: bytes that are written, and what is noted. (The verifier's own text.)
-/
namespace Go.Proofs.YtjnmbgmdkkiidaaGreat
set_option linter.unusedVariables false
open Go.RowKit Go.Shelf Go.Maps Go.Proofs.YtjnmbgmdkkiidaaGreat.Nm

/-- what is noted, the first one first -/
def tabN (t : Tab) : List Value := t.reverse.map fun x => .string x.1
def tabP (t : Tab) : List Value := t.reverse.map fun x => .int .i64 (x.2 : Int)
theorem tabN_cons (x : ByteArray × Nat) (t : Tab) : tabN (x :: t) = tabN t ++ [.string x.1] := by simp [tabN]
theorem tabP_cons (x : ByteArray × Nat) (t : Tab) : tabP (x :: t) = tabP t ++ [.int .i64 (x.2 : Int)] := by simp [tabP]
/-- a row of one's own beside a box -/
structure Ro (w : World) (P base e : Nat) (v : Value) (n : Nat) (xs : List Value) : Prop where
  own : w.ownsRow base e 1 v n xs
  nP : v.ownBlock ≠ some P
/-- a paper in memory, its rows apart -/
structure Pr (w : World) (P base : Nat) (v1 v2 v3 : Value) (o : ByteArray) (N L : List Value) : Prop where
  bx : Bx w P #[v1, v2, v3] 52
  r1 : Ro w P base 5 v1 o.size (Lib.strCells o)
  r2 : Ro w P base 9 v2 N.length N
  r3 : Ro w P base 3 v3 L.length L
  bP : base ≤ P
  n12 : ∀ q, v1.ownBlock = some q → v2.ownBlock ≠ some q
  n13 : ∀ q, v1.ownBlock = some q → v3.ownBlock ≠ some q
  n23 : ∀ q, v2.ownBlock = some q → v3.ownBlock ≠ some q
theorem Ro.lt {w : World} {P base e n : Nat} {v : Value} {xs : List Value} (h : Ro w P base e v n xs) {q : Nat} (hq : v.ownBlock = some q) : base ≤ q ∧ q < w.heap.size := h.own.lt q hq
theorem Ro.keep {w w' : World} {P base e n : Nat} {v : Value} {xs : List Value} (h : Ro w P base e v n xs) {r : Option Nat} (hg : w.grownBy w' r) (hr : ∀ q, v.ownBlock = some q → r ≠ some q) : Ro w' P base e v n xs :=
  ⟨own_blk h.own (fun g e => hg.block g (h.lt e).2 (fun e2 => hr g e e2.symm)), h.nP⟩
theorem Pr.lt {w : World} {P base : Nat} {v1 v2 v3 : Value} {o : ByteArray} {N L : List Value} (h : Pr w P base v1 v2 v3 o N L) : P < w.heap.size ∧ base ≤ w.heap.size := ⟨h.bx.lt, Nat.le_of_lt (Nat.lt_of_le_of_lt h.bP h.bx.lt)⟩
theorem Pr.grown {w w' : World} {P base : Nat} {v1 v2 v3 : Value} {o : ByteArray} {N L : List Value} (h : Pr w P base v1 v2 v3 o N L) (hg : w.grownBy w' none) : Pr w' P base v1 v2 v3 o N L :=
  ⟨h.bx.grown hg (by simp), h.r1.keep hg (fun _ _ => by simp), h.r2.keep hg (fun _ _ => by simp), h.r3.keep hg (fun _ _ => by simp), h.bP, h.n12, h.n13, h.n23⟩
theorem Pr.below {w w' : World} {P base : Nat} {v1 v2 v3 : Value} {o : ByteArray} {N L : List Value} (h : Pr w P base v1 v2 v3 o N L) (hb : Below w.heap.size w w') : Pr w' P base v1 v2 v3 o N L := h.grown (grown_below hb none)
theorem Pr.drew {w : World} {P base : Nat} {v1 v2 v3 : Value} {o : ByteArray} {N L : List Value} (h : Pr w P base v1 v2 v3 o N L) : Pr w.drew P base v1 v2 v3 o N L := h.grown (grown_drew w none)
theorem Pr.alloc {w : World} {P base : Nat} {v1 v2 v3 : Value} {o : ByteArray} {N L : List Value} (h : Pr w P base v1 v2 v3 o N L) (b : Obj) : Pr (w.alloc b) P base v1 v2 v3 o N L := h.grown (World.grownBy_alloc w b none)
theorem below_grown {w w' : World} {base : Nat} {r : Option Nat} (hg : w.grownBy w' r) (hb : base ≤ w.heap.size) (hr : ∀ q, r = some q → base ≤ q) : Below base w w' := (Below.refl base w).grown hg hb hr
/-- the blocks of a paper -/
def own3 (P : Nat) (v1 v2 v3 : Value) (k : Nat) : Prop := k = P ∨ v1.ownBlock = some k ∨ v2.ownBlock = some k ∨ v3.ownBlock = some k
/-- what turns while a paper is written -/
structure Fq (w w' : World) (S S' : Nat → Prop) : Prop where
  os : w'.os = w.os
  tape : w'.tape = w.tape
  output : w'.output = w.output
  size : w.heap.size ≤ w'.heap.size
  block : ∀ k, k < w.heap.size → ¬ S k → w'.heap[k]? = w.heap[k]?
  own : ∀ k, S' k → S k ∨ w.heap.size ≤ k
theorem Fq.refl (w : World) (S : Nat → Prop) : Fq w w S S := ⟨rfl, rfl, rfl, Nat.le_refl _, fun _ _ _ => rfl, fun _ h => .inl h⟩
theorem Fq.trans {w w1 w2 : World} {S S1 S2 : Nat → Prop} (h : Fq w w1 S S1) (k : Fq w1 w2 S1 S2) : Fq w w2 S S2 :=
  ⟨k.os.trans h.os, k.tape.trans h.tape, k.output.trans h.output, Nat.le_trans h.size k.size, fun j hj hn => (k.block j (Nat.lt_of_lt_of_le hj h.size) (fun e => by
    rcases h.own j e with e | e
    · exact hn e
    · omega)).trans (h.block j hj hn), fun j e => by
    rcases k.own j e with e | e
    · exact h.own j e
    · exact .inr (Nat.le_trans h.size e)⟩
theorem Fq.none {w w' : World} (hg : w.grownBy w' none) (S : Nat → Prop) : Fq w w' S S := ⟨hg.os, hg.tape, hg.output, hg.size, fun k hk _ => hg.block k hk (by simp), fun _ h => .inl h⟩
theorem Fq.of {w w' : World} (hb : Below w.heap.size w w') (S : Nat → Prop) : Fq w w' S S := Fq.none (grown_below hb _) S
theorem Fq.drew (w : World) (S : Nat → Prop) : Fq w w.drew S S := Fq.none (grown_drew w _) S
theorem Fq.below {w w' : World} {S S' : Nat → Prop} {base : Nat} (h : Fq w w' S S') (hb : base ≤ w.heap.size) (hS : ∀ k, S k → base ≤ k) : Below base w w' := ⟨h.os, h.tape, h.output, h.size, fun k hk => h.block k (by omega) (fun e => by have := hS k e; omega)⟩
theorem Pr.low {w : World} {P base : Nat} {v1 v2 v3 : Value} {o : ByteArray} {N L : List Value} (h : Pr w P base v1 v2 v3 o N L) : ∀ k, own3 P v1 v2 v3 k → base ≤ k := fun k e => by
  rcases e with e | e | e | e
  · rw [e]; exact h.bP
  · exact (h.r1.lt e).1
  · exact (h.r2.lt e).1
  · exact (h.r3.lt e).1
/-- row 1 grows -/
theorem Pr.put {w w1 : World} {P base : Nat} {v1 v2 v3 v' : Value} {o : ByteArray} {N L : List Value} {o' : ByteArray} (h : Pr w P base v1 v2 v3 o N L) (hown : w1.ownsRow base 5 1 v' o'.size (Lib.strCells o')) (hg : w.grownBy w1 v1.ownBlock) (hp : v'.ownBlock = v1.ownBlock ∨ v'.ownBlock = some w.heap.size) :
    Pr (w1.setCell ⟨P, 0, none⟩ v') P base v' v2 v3 o' N L ∧ Fq w (w1.setCell ⟨P, 0, none⟩ v') (own3 P v1 v2 v3) (own3 P v' v2 v3) := by
  obtain ⟨l1, l2⟩ := h.lt
  have hne : ∀ x, x < w.heap.size → v1.ownBlock ≠ some x → v'.ownBlock ≠ some x := fun x hx h1 e => by
    rcases hp with h2 | h2
    · exact h1 (h2 ▸ e)
    · rw [h2] at e; injection e with e; omega
  have hP := hne P l1 h.r1.nP
  have hg2 := grown_set w1 P 0 v'
  have d2 : ∀ q, v2.ownBlock = some q → v1.ownBlock ≠ some q := fun q e e1 => h.n12 q e1 e
  have k2 : ∀ q, v2.ownBlock = some q → v'.ownBlock ≠ some q := fun q e => hne q (h.r2.lt e).2 (d2 q e)
  have d3 : ∀ q, v3.ownBlock = some q → v1.ownBlock ≠ some q := fun q e e1 => h.n13 q e1 e
  have k3 : ∀ q, v3.ownBlock = some q → v'.ownBlock ≠ some q := fun q e => hne q (h.r3.lt e).2 (d3 q e)
  refine ⟨⟨(h.bx.grown hg h.r1.nP).set 0 v', ⟨own_blk hown (fun g e => Below.heap_setCell _ _ _ g (fun e2 => hP (by rw [e]; exact congrArg some e2))), hP⟩, (h.r2.keep hg (d2)).keep hg2 (fun q e e1 => h.r2.nP (e.trans e1.symm)), (h.r3.keep hg (d3)).keep hg2 (fun q e e1 => h.r3.nP (e.trans e1.symm)), h.bP, fun q e e2 => k2 q e2 e, fun q e e2 => k3 q e2 e, h.n23⟩, ?_⟩
  refine ⟨hg2.os.trans hg.os, hg2.tape.trans hg.tape, hg2.output.trans hg.output, Nat.le_trans hg.size hg2.size, fun q hq hn => (hg2.block q (Nat.lt_of_lt_of_le hq hg.size) (fun e => hn (.inl (Option.some.inj e)))).trans (hg.block q hq (fun e => hn (.inr (.inl e.symm)))), fun q e => ?_⟩
  rcases e with e | e | e | e
  · exact .inl (.inl e)
  · rcases hp with h2 | h2
    · exact .inl (.inr (.inl (h2 ▸ e)))
    · rw [h2] at e; injection e with e; exact .inr (by omega)
  · exact .inl (.inr (.inr (.inl e)))
  · exact .inl (.inr (.inr (.inr e)))
/-- row 2 grows -/
theorem Pr.rest {w w1 : World} {P base : Nat} {v1 v2 v3 v' : Value} {o : ByteArray} {N L : List Value} {N' : List Value} (h : Pr w P base v1 v2 v3 o N L) (hown : w1.ownsRow base 9 1 v' N'.length N') (hg : w.grownBy w1 v2.ownBlock) (hp : v'.ownBlock = v2.ownBlock ∨ v'.ownBlock = some w.heap.size) :
    Pr (w1.setCell ⟨P, 1, none⟩ v') P base v1 v' v3 o N' L ∧ Fq w (w1.setCell ⟨P, 1, none⟩ v') (own3 P v1 v2 v3) (own3 P v1 v' v3) := by
  obtain ⟨l1, l2⟩ := h.lt
  have hne : ∀ x, x < w.heap.size → v2.ownBlock ≠ some x → v'.ownBlock ≠ some x := fun x hx h1 e => by
    rcases hp with h2 | h2
    · exact h1 (h2 ▸ e)
    · rw [h2] at e; injection e with e; omega
  have hP := hne P l1 h.r2.nP
  have hg2 := grown_set w1 P 1 v'
  have d1 : ∀ q, v1.ownBlock = some q → v2.ownBlock ≠ some q := fun q e e1 => h.n12 q e e1
  have k1 : ∀ q, v1.ownBlock = some q → v'.ownBlock ≠ some q := fun q e => hne q (h.r1.lt e).2 (d1 q e)
  have d3 : ∀ q, v3.ownBlock = some q → v2.ownBlock ≠ some q := fun q e e1 => h.n23 q e1 e
  have k3 : ∀ q, v3.ownBlock = some q → v'.ownBlock ≠ some q := fun q e => hne q (h.r3.lt e).2 (d3 q e)
  refine ⟨⟨(h.bx.grown hg h.r2.nP).set 1 v', (h.r1.keep hg (d1)).keep hg2 (fun q e e1 => h.r1.nP (e.trans e1.symm)), ⟨own_blk hown (fun g e => Below.heap_setCell _ _ _ g (fun e2 => hP (by rw [e]; exact congrArg some e2))), hP⟩, (h.r3.keep hg (d3)).keep hg2 (fun q e e1 => h.r3.nP (e.trans e1.symm)), h.bP, k1, h.n13, fun q e e2 => k3 q e2 e⟩, ?_⟩
  refine ⟨hg2.os.trans hg.os, hg2.tape.trans hg.tape, hg2.output.trans hg.output, Nat.le_trans hg.size hg2.size, fun q hq hn => (hg2.block q (Nat.lt_of_lt_of_le hq hg.size) (fun e => hn (.inl (Option.some.inj e)))).trans (hg.block q hq (fun e => hn (.inr (.inr (.inl e.symm))))), fun q e => ?_⟩
  rcases e with e | e | e | e
  · exact .inl (.inl e)
  · exact .inl (.inr (.inl e))
  · rcases hp with h2 | h2
    · exact .inl (.inr (.inr (.inl (h2 ▸ e))))
    · rw [h2] at e; injection e with e; exact .inr (by omega)
  · exact .inl (.inr (.inr (.inr e)))
/-- row 3 grows -/
theorem Pr.place {w w1 : World} {P base : Nat} {v1 v2 v3 v' : Value} {o : ByteArray} {N L : List Value} {L' : List Value} (h : Pr w P base v1 v2 v3 o N L) (hown : w1.ownsRow base 3 1 v' L'.length L') (hg : w.grownBy w1 v3.ownBlock) (hp : v'.ownBlock = v3.ownBlock ∨ v'.ownBlock = some w.heap.size) :
    Pr (w1.setCell ⟨P, 2, none⟩ v') P base v1 v2 v' o N L' ∧ Fq w (w1.setCell ⟨P, 2, none⟩ v') (own3 P v1 v2 v3) (own3 P v1 v2 v') := by
  obtain ⟨l1, l2⟩ := h.lt
  have hne : ∀ x, x < w.heap.size → v3.ownBlock ≠ some x → v'.ownBlock ≠ some x := fun x hx h1 e => by
    rcases hp with h2 | h2
    · exact h1 (h2 ▸ e)
    · rw [h2] at e; injection e with e; omega
  have hP := hne P l1 h.r3.nP
  have hg2 := grown_set w1 P 2 v'
  have d1 : ∀ q, v1.ownBlock = some q → v3.ownBlock ≠ some q := fun q e e1 => h.n13 q e e1
  have k1 : ∀ q, v1.ownBlock = some q → v'.ownBlock ≠ some q := fun q e => hne q (h.r1.lt e).2 (d1 q e)
  have d2 : ∀ q, v2.ownBlock = some q → v3.ownBlock ≠ some q := fun q e e1 => h.n23 q e e1
  have k2 : ∀ q, v2.ownBlock = some q → v'.ownBlock ≠ some q := fun q e => hne q (h.r2.lt e).2 (d2 q e)
  refine ⟨⟨(h.bx.grown hg h.r3.nP).set 2 v', (h.r1.keep hg (d1)).keep hg2 (fun q e e1 => h.r1.nP (e.trans e1.symm)), (h.r2.keep hg (d2)).keep hg2 (fun q e e1 => h.r2.nP (e.trans e1.symm)), ⟨own_blk hown (fun g e => Below.heap_setCell _ _ _ g (fun e2 => hP (by rw [e]; exact congrArg some e2))), hP⟩, h.bP, h.n12, k1, k2⟩, ?_⟩
  refine ⟨hg2.os.trans hg.os, hg2.tape.trans hg.tape, hg2.output.trans hg.output, Nat.le_trans hg.size hg2.size, fun q hq hn => (hg2.block q (Nat.lt_of_lt_of_le hq hg.size) (fun e => hn (.inl (Option.some.inj e)))).trans (hg.block q hq (fun e => hn (.inr (.inr (.inr e.symm))))), fun q e => ?_⟩
  rcases e with e | e | e | e
  · exact .inl (.inl e)
  · exact .inl (.inr (.inl e))
  · exact .inl (.inr (.inr (.inl e)))
  · rcases hp with h2 | h2
    · exact .inl (.inr (.inr (.inr (h2 ▸ e))))
    · rw [h2] at e; injection e with e; exact .inr (by omega)
/-- a paper in memory -/
def Pp (w : World) (P base : Nat) (v1 v2 v3 : Value) (s : PS) : Prop := Pr w P base v1 v2 v3 s.out (tabN s.tab) (tabP s.tab) ∧ (s.tab.map Prod.fst).Nodup
theorem tabN_len (t : Tab) : (tabN t).length = t.length := by simp [tabN]
theorem tabP_len (t : Tab) : (tabP t).length = t.length := by simp [tabP]
theorem Pp.below {w w' : World} {P base : Nat} {v1 v2 v3 : Value} {s : PS} (h : Pp w P base v1 v2 v3 s) (hb : Below w.heap.size w w') : Pp w' P base v1 v2 v3 s := ⟨h.1.below hb, h.2⟩
theorem Pp.drew {w : World} {P base : Nat} {v1 v2 v3 : Value} {s : PS} (h : Pp w P base v1 v2 v3 s) : Pp w.drew P base v1 v2 v3 s := ⟨h.1.drew, h.2⟩
def PpE (P base : Nat) (v1 v2 v3 : Value) (s : PS) (w : World) (e : Ending) (w' : World) : Prop := e = .returned (.tuple #[]) ∧ ∃ u1 u2 u3, Pp w' P base u1 u2 u3 s ∧ Fq w w' (own3 P v1 v2 v3) (own3 P u1 u2 u3)

set_option maxRecDepth 100000 in
set_option maxHeartbeats 4000000 in
/-- (*paper).put -/
theorem pput_any (P base : Nat) (v1 v2 v3 : Value) (s : PS) (t : ByteArray) (w : World) (h : Pp w P base v1 v2 v3 s) (hz : s.out.size ≤ 1099511627776) (ht : t.size ≤ 1048576) :
    Calls Tryz.prog 20 #[.pointer (some ⟨P, 0, none⟩), .string t] w (PpE P base v1 v2 v3 ⟨s.out ++ t, s.tab⟩ w) := by
  obtain ⟨i0, hi, hz0, hz1, hz2⟩ := info_parts Tryz.infoByte
  obtain ⟨l1, l3⟩ := h.1.lt
  have c0 : w.cell? ⟨P, 0, none⟩ = some v1 := h.1.bx.cell rfl
  have hown := h.1.r1.own
  have H := hide' h
  clear h
  go_enter Tryz.func20, Tryz.ntmps20
  go_wp2_with (at_builtin; refine wpList_append_apart_str _ rfl _ _ 27 9 rfl base 5 i0 Tryz.underlying27 Tryz.underlying9 hi hz0 hz1 hz2 v1 _ _ rfl hown t rfl (by unfold maxLen; omega) (by omega) l3 ?_; intro v6 w6 hown6 hgrow6 hpl6; obtain ⟨p6, c6, rfl, _⟩ := own_shape hown6; have HO6 := hide' hown6; have HG6 := hide' hgrow6; have HP6 := hide' hpl6; have hb6 := H.out.1.bx.grown hgrow6 H.out.1.r1.nP; have cc6 := hb6.cell (j := 0) rfl; have ff6 := hb6.free 0; clear hown6 hgrow6 hpl6 hb6)
  go_end0
  obtain ⟨r1, r2⟩ := H.out.1.put (o' := s.out ++ t) (by rw [ByteArray.size_append, strCells_append]; exact HO6.out) HG6.out HP6.out
  exact ⟨rfl, _, _, _, ⟨r1, H.out.2⟩, r2⟩

/-- what is found, and what isn't -/
theorem tabF_none {t : Tab} {n : ByteArray} : (∀ x ∈ t, x.1 ≠ n) → tabF t n = none := by
  induction t with
  | nil => intro _; rfl
  | cons x t ih =>
    intro h
    obtain ⟨k, p⟩ := x
    unfold tabF
    rw [if_neg (h _ List.mem_cons_self)]
    exact ih (fun y hy => h y (List.mem_cons_of_mem _ hy))
theorem tabF_of_none {t : Tab} {n : ByteArray} : tabF t n = none → ∀ x ∈ t, x.1 ≠ n := by
  induction t with
  | nil => intro _ x hx; cases hx
  | cons y t ih =>
    obtain ⟨k, p⟩ := y
    intro h x hx
    unfold tabF at h
    by_cases e : k = n
    · rw [if_pos e] at h; cases h
    · rw [if_neg e] at h
      rcases List.mem_cons.1 hx with rfl | hx
      · exact e
      · exact ih h x hx
theorem tabF_some {t : Tab} {n : ByteArray} {p : Nat} : (t.map Prod.fst).Nodup → (n, p) ∈ t → tabF t n = some p := by
  induction t with
  | nil => intro _ h; cases h
  | cons y t ih =>
    obtain ⟨k, q⟩ := y
    intro hu h
    simp only [List.map_cons, List.nodup_cons] at hu
    unfold tabF
    rcases List.mem_cons.1 h with h | h
    · injection h with h1 h2
      rw [if_pos h1.symm, h2]
    · have hk : k ≠ n := fun e => hu.1 (by rw [e]; exact List.mem_map_of_mem (f := Prod.fst) h)
      rw [if_neg hk]
      exact ih hu.2 h
def notedV (t : Tab) (n : ByteArray) : Value := match tabF t n with
  | some p => .int .i64 (p : Int)
  | none => .int .i64 (-1)

set_option maxRecDepth 100000 in
set_option maxHeartbeats 4000000 in
/-- (*paper).noted -/
theorem noted_any (P base : Nat) (v1 v2 v3 : Value) (s : PS) (n : ByteArray) (w : World) (h : Pp w P base v1 v2 v3 s) (hl : s.tab.length ≤ 1099511627776) :
    Calls Tryz.prog 43 #[.pointer (some ⟨P, 0, none⟩), .string n] w fun e w' => e = .returned (notedV s.tab n) ∧ Below w.heap.size w w' := by
  have H := hide' h
  have hR : s.tab.reverse.length = s.tab.length := by simp
  have hw2 := h.1.r2.own
  have hw3 := h.1.r3.own
  rw [tabN_len] at hw2
  rw [tabP_len] at hw3
  obtain ⟨p2, k2, rfl, _⟩ := own_shape hw2
  obtain ⟨p3, k3, rfl, _⟩ := own_shape hw3
  have c1 : w.cell? ⟨P, 1, none⟩ = some (.slice p2 s.tab.length k2) := h.1.bx.cell rfl
  have c2 : w.cell? ⟨P, 2, none⟩ = some (.slice p3 s.tab.length k3) := h.1.bx.cell rfl
  have HC : Hid (∀ k (hk : k < s.tab.length), ∃ g2 g3, p2 = some ⟨g2, 0, none⟩ ∧ p3 = some ⟨g3, 0, none⟩ ∧ w.cell? ⟨g2, k, none⟩ = some (.string (s.tab.reverse[k]'(by omega)).1) ∧ w.cell? ⟨g3, k, none⟩ = some (.int .i64 ((s.tab.reverse[k]'(by omega)).2 : Int))) := by
    intro k hk
    have o2 := hw2
    have o3 := hw3
    rcases id o2.2 with ⟨h1, h0⟩ | ⟨g2, cap2, cur2, h1, _⟩
    · injection h1 with _ h1 _; omega
    rcases id o3.2 with ⟨h3, h0⟩ | ⟨g3, cap3, cur3, h3, _⟩
    · injection h3 with _ h3 _; omega
    injection h1 with h1 _ _
    injection h3 with h3 _ _
    subst h1; subst h3
    have e2 := o2.cellAt k (by omega)
    have e3 := o3.cellAt k (by omega)
    refine ⟨g2, g3, rfl, rfl, e2.trans ?_, e3.trans ?_⟩
    · unfold tabN; rw [List.getElem?_map, List.getElem?_eq_getElem (by omega)]; rfl
    · unfold tabP; rw [List.getElem?_map, List.getElem?_eq_getElem (by omega)]; rfl
  have HU := hide' h.2
  clear h hw2 hw3
  go_enter Tryz.func43, Tryz.ntmps43
  go_wp2
  go_loopw [11] (fun i wr => ∃ k : Nat, i = .int .i64 (k : Int) ∧ k ≤ s.tab.length ∧ Hid (∀ j (hj : j < s.tab.reverse.length), j < k → s.tab.reverse[j].1 ≠ n) ∧ wr = w) (fun i _ => s.tab.length - (intOf i).toNat)
  case atStart => exact ⟨0, rfl, Nat.zero_le _, fun j _ h => absurd h (Nat.not_lt_zero _), rfl⟩
  case round =>
    obtain ⟨k, rfl, hk, HJ, rfl⟩ := hrel
    by_cases hlt : k < s.tab.length
    · obtain ⟨g2, g3, rfl, rfl, e2, e3⟩ := HC.out k hlt
      obtain ⟨x, hx⟩ : ∃ x, s.tab.reverse[k]'(by omega) = x := ⟨_, rfl⟩
      rw [hx] at e2 e3
      have HX : Hid (s.tab.reverse[k]'(by omega) = x) := hx
      obtain ⟨xn, xp⟩ := x
      simp only at e2 e3
      clear hx
      by_cases he : xn = n
      · subst he
        have HV : Hid (notedV s.tab xn = .int .i64 (xp : Int)) := by
          have hm : (xn, xp) ∈ s.tab := List.mem_reverse.1 (HX.out ▸ List.getElem_mem _)
          unfold Hid notedV
          rw [tabF_some HU.out hm]
        go_wp2
        go_ret
        exact ⟨by rw [HV.out]; rfl, Below.refl _ _⟩
      · have hc : (xn.toList == n.toList) = false := by
          rw [beq_eq_false_iff_ne]
          exact fun e => he (toList_inj.1 e)
        go_wp2
        go_roundw
        case rel =>
          refine ⟨k + 1, by go_num, by omega, (fun j (hj : j < s.tab.reverse.length) (hjk : j < k + 1) => ?_ : ∀ j (hj : j < s.tab.reverse.length), j < k + 1 → s.tab.reverse[j].1 ≠ n), trivial⟩
          rcases Nat.lt_or_ge j k with h1 | h1
          · exact HJ.out j hj h1
          · obtain rfl : j = k := by omega
            rw [HX.out]; exact he
        case measure => simp [intOf]; omega
    · have HV : Hid (notedV s.tab n = .int .i64 (-1)) := by
        unfold Hid notedV
        rw [tabF_none (fun x hx => ?_)]
        obtain ⟨j, hj, rfl⟩ := List.mem_iff_getElem.1 (List.mem_reverse.2 hx)
        exact HJ.out j hj (by omega)
      go_wp2
      go_ret
      exact ⟨by rw [HV.out]; rfl, Below.refl _ _⟩
end Go.Proofs.YtjnmbgmdkkiidaaGreat
