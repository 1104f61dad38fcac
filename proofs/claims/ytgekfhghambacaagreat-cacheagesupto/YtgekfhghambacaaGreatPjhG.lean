import Derived.Test.YtgekfhghambacaaGreatPjeG
import Derived.Test.YtgekfhghambacaaGreatPjmG
/-
  Proofs: one NSEC3, and what a chain of them has for a name. (The verifier's own text.)
-/
namespace Go.Proofs.YtgekfhghambacaaGreat
set_option linter.unusedVariables false
set_option linter.unusedSimpArgs false
open Go.RowKit Go.Shelf Go.Maps Go.Proofs.YtgekfhghambacaaGreat.Nm

theorem less_neg (a b : ByteArray) : decide (Lib.compareBytes a.data.toList b.data.toList < 0) = Op.bytesLess a.toList b.toList := by
  rw [cb_less]
  show decide (cb a b < 0) = _
  rcases cb_range a b with h | h | h <;> rw [h] <;> decide
set_option maxRecDepth 100000 in
set_option maxHeartbeats 1000000 in
/-- proof.between, with strings.Compare -/
theorem betweenS_any (o x n : ByteArray) (w : World) :
    Calls Tryz.prog 139 #[.string o, .string x, .string n, .func (Fn.func 144) #[] #[]] w fun e w' => e = .returned (.bool (btL o x n)) ∧ w' = w := by
  have H1 := hide' (fun W => stringsCompare_any o n W)
  have H2 := hide' (fun W => stringsCompare_any n x W)
  have H3 := hide' (fun W => stringsCompare_any o x W)
  unfold btL
  rw [← less_neg o x, ← less_neg o n, ← less_neg n x]
  generalize Lib.compareBytes o.data.toList n.data.toList = A at *
  generalize Lib.compareBytes n.data.toList x.data.toList = B at *
  generalize Lib.compareBytes o.data.toList x.data.toList = C at *
  go_enter Tryz.func139, Tryz.ntmps139
  cases hA : decide (A < 0)
  all_goals cases hB : decide (B < 0)
  all_goals cases hC : decide (C < 0)
  all_goals
    have dA := hide' hA
    have dB := hide' hB
    have dC := hide' hC
    simp only [decide_eq_true_eq, decide_eq_false_iff_not] at hA hB hC
    go_wp2_with (first
      | (go_at_call 144; with_reducible refine (H1.out _).mono ?_; rintro r1 w1 ⟨rfl, rfl⟩)
      | (go_at_call 144; with_reducible refine (H2.out _).mono ?_; rintro r2 w2 ⟨rfl, rfl⟩)
      | (go_at_call 144; with_reducible refine (H3.out _).mono ?_; rintro r3 w3 ⟨rfl, rfl⟩))
    go_ret
    refine ⟨?_, rfl⟩
    first
      | rfl
      | (show Ending.returned (Value.bool (decide (A < 0) || decide (B < 0))) = _; rw [dA.out, dB.out] <;> rfl)
      | (show Ending.returned (Value.bool (decide (A < 0) && decide (B < 0))) = _; rw [dA.out, dB.out] <;> rfl)
      | (show Ending.returned (Value.bool (decide (B < 0))) = _; rw [dB.out] <;> rfl)
      | (show Ending.returned (Value.bool (decide (A < 0))) = _; rw [dA.out] <;> rfl)
set_option maxRecDepth 100000 in
set_option maxHeartbeats 1000000 in
/-- (nsec3).covers -/
theorem hcovers_any (pl : Int) (ts : ByteArray) (rd : Nat) (sl ow nx h : ByteArray) (w : World) :
    Calls Tryz.prog 167 #[.agg #[.int .i64 pl, .string ts, .int .i64 (rd : Int), .string sl, .string ow, .string nx], .string h] w fun r w' => r = .returned (.bool (btL ow nx h)) ∧ Below w.heap.size w w' := by
  have x0 : Bx (w.alloc (.cells #[.int .i64 pl, .string ts, .int .i64 (rd : Int), .string sl, .string ow, .string nx] 122)) w.heap.size #[.int .i64 pl, .string ts, .int .i64 (rd : Int), .string sl, .string ow, .string nx] 122 := World.alloc_heap_new w _
  have HB : Hid (Below w.heap.size w (w.alloc (.cells #[.int .i64 pl, .string ts, .int .i64 (rd : Int), .string sl, .string ow, .string nx] 122))) := (Below.refl _ _).alloc (Nat.le_refl _) _
  have HT := hide' (fun W => betweenS_any ow nx h W)
  have k4 := x0.cell (j := 4) (v := .string ow) rfl
  have k5 := x0.cell (j := 5) (v := .string nx) rfl
  clear x0
  generalize btL ow nx h = R at *
  go_enter Tryz.func167, Tryz.ntmps167
  go_wp2_with (go_at_call 139; refine (HT.out _).mono ?_; rintro r w1 ⟨rfl, rfl⟩)
  go_ret
  exact ⟨rfl, HB.out⟩
set_option maxRecDepth 100000 in
set_option maxHeartbeats 1000000 in
/-- covering's function -/
theorem covering1_any (x : Hq) (h : ByteArray) (B : Nat) (w : World) (hB : B < w.heap.size) (hc : w.cell? ⟨B, 0, none⟩ = some (.string h)) :
    Calls Tryz.prog 166 #[hA x, .pointer (some ⟨B, 0, none⟩)] w fun r w' => r = .returned (.bool (btL x.ow x.nx h)) ∧ Below w.heap.size w w' := by
  obtain ⟨pl, ts, rd, sl, ow, nx⟩ := x
  unfold hA
  dsimp only
  have x0 : Bx (w.alloc (.cells #[.int .i64 pl, .string ts, .int .i64 (rd : Int), .string sl, .string ow, .string nx] 122)) w.heap.size #[.int .i64 pl, .string ts, .int .i64 (rd : Int), .string sl, .string ow, .string nx] 122 := World.alloc_heap_new w _
  have HB : Hid (Below w.heap.size w (w.alloc (.cells #[.int .i64 pl, .string ts, .int .i64 (rd : Int), .string sl, .string ow, .string nx] 122))) := (Below.refl _ _).alloc (Nat.le_refl _) _
  have HT := hide' (fun W => hcovers_any pl ts rd sl ow nx h W)
  have kc : (w.alloc (.cells #[.int .i64 pl, .string ts, .int .i64 (rd : Int), .string sl, .string ow, .string nx] 122)).cell? ⟨B, 0, none⟩ = some (.string h) := (((Below.refl w.heap.size w).alloc (Nat.le_refl _) _).cell (p := ⟨B, 0, none⟩) hB).trans hc
  obtain ⟨W1, hW1⟩ : ∃ W1, w.alloc (.cells #[.int .i64 pl, .string ts, .int .i64 (rd : Int), .string sl, .string ow, .string nx] 122) = W1 := ⟨_, rfl⟩
  rw [hW1] at kc x0 HB
  have k0 := x0.cell (j := 0) rfl
  have k1 := x0.cell (j := 1) rfl
  have k2 := x0.cell (j := 2) rfl
  have k3 := x0.cell (j := 3) rfl
  have k4 := x0.cell (j := 4) rfl
  have k5 := x0.cell (j := 5) rfl
  clear x0 hc
  generalize btL ow nx h = R at *
  go_enter Tryz.func166, Tryz.ntmps166
  go_wp2_with (go_at_call 167; refine (HT.out _).mono ?_; rintro r w1 ⟨rfl, hB1⟩)
  go_ret
  exact ⟨rfl, bstep HB.out hB1 HB.out.size⟩
set_option maxRecDepth 100000 in
set_option maxHeartbeats 1000000 in
/-- standing's function -/
theorem standing1_any (x : Hq) (h : ByteArray) (B : Nat) (w : World) (hB : B < w.heap.size) (hc : w.cell? ⟨B, 0, none⟩ = some (.string h)) :
    Calls Tryz.prog 169 #[hA x, .pointer (some ⟨B, 0, none⟩)] w fun r w' => r = .returned (.bool (x.ow.toList == h.toList)) ∧ Below w.heap.size w w' := by
  obtain ⟨pl, ts, rd, sl, ow, nx⟩ := x
  unfold hA
  dsimp only
  have x0 : Bx (w.alloc (.cells #[.int .i64 pl, .string ts, .int .i64 (rd : Int), .string sl, .string ow, .string nx] 122)) w.heap.size #[.int .i64 pl, .string ts, .int .i64 (rd : Int), .string sl, .string ow, .string nx] 122 := World.alloc_heap_new w _
  have HB : Hid (Below w.heap.size w (w.alloc (.cells #[.int .i64 pl, .string ts, .int .i64 (rd : Int), .string sl, .string ow, .string nx] 122))) := (Below.refl _ _).alloc (Nat.le_refl _) _
  have kc : (w.alloc (.cells #[.int .i64 pl, .string ts, .int .i64 (rd : Int), .string sl, .string ow, .string nx] 122)).cell? ⟨B, 0, none⟩ = some (.string h) := (((Below.refl w.heap.size w).alloc (Nat.le_refl _) _).cell (p := ⟨B, 0, none⟩) hB).trans hc
  obtain ⟨W1, hW1⟩ : ∃ W1, w.alloc (.cells #[.int .i64 pl, .string ts, .int .i64 (rd : Int), .string sl, .string ow, .string nx] 122) = W1 := ⟨_, rfl⟩
  rw [hW1] at kc x0 HB
  have k4 := x0.cell (j := 4) (v := .string ow) rfl
  clear x0 hc
  go_enter Tryz.func169, Tryz.ntmps169
  go_wp2_with fail
  go_ret
  exact ⟨rfl, HB.out⟩
set_option maxRecDepth 100000 in
set_option maxHeartbeats 1000000 in
/-- hashing's function -/
theorem hashing1_any (x : Hq) (rd0 : Nat) (sl0 : ByteArray) (B : Nat) (w : World) (hB : Bx w B #[.int .i64 (rd0 : Int), .string sl0] 120) :
    Calls Tryz.prog 86 #[hA x, .pointer (some ⟨B, 0, none⟩)] w fun r w' => r = .returned (.bool (!(((x.rd : Int) == (rd0 : Int)) && (x.sl.toList == sl0.toList)))) ∧ Below w.heap.size w w' := by
  obtain ⟨pl, ts, rd, sl, ow, nx⟩ := x
  unfold hA
  dsimp only
  have x0 : Bx (w.alloc (.cells #[.int .i64 pl, .string ts, .int .i64 (rd : Int), .string sl, .string ow, .string nx] 122)) w.heap.size #[.int .i64 pl, .string ts, .int .i64 (rd : Int), .string sl, .string ow, .string nx] 122 := World.alloc_heap_new w _
  have HB : Hid (Below w.heap.size w (w.alloc (.cells #[.int .i64 pl, .string ts, .int .i64 (rd : Int), .string sl, .string ow, .string nx] 122))) := (Below.refl _ _).alloc (Nat.le_refl _) _
  have y0 : Bx (w.alloc (.cells #[.int .i64 pl, .string ts, .int .i64 (rd : Int), .string sl, .string ow, .string nx] 122)) B #[.int .i64 (rd0 : Int), .string sl0] 120 := hB.below ((Below.refl w.heap.size w).alloc (Nat.le_refl _) _) hB.lt
  obtain ⟨W1, hW1⟩ : ∃ W1, w.alloc (.cells #[.int .i64 pl, .string ts, .int .i64 (rd : Int), .string sl, .string ow, .string nx] 122) = W1 := ⟨_, rfl⟩
  rw [hW1] at y0 x0 HB
  have k2 := x0.cell (j := 2) (v := .int .i64 (rd : Int)) rfl
  have k3 := x0.cell (j := 3) (v := .string sl) rfl
  have c0 := y0.cell (j := 0) (v := .int .i64 (rd0 : Int)) rfl
  have c1 := y0.cell (j := 1) (v := .string sl0) rfl
  clear x0 hB y0
  go_enter Tryz.func86, Tryz.ntmps86
  go_wp2_with fail
  all_goals (
    go_ret
    refine ⟨?_, HB.out⟩
    simp [*])
end Go.Proofs.YtgekfhghambacaaGreat

/-
  Proofs: what a chain of NSEC3 has for a name. (The verifier's own text.)
-/
namespace Go.Proofs.YtgekfhghambacaaGreat
set_option linter.unusedVariables false
set_option linter.unusedSimpArgs false
open Go.RowKit Go.Shelf Go.Maps Go.Proofs.YtgekfhghambacaaGreat.Nm

/-- a link that was found, or none -/
def LkAt (W : World) (v : Value) (o : Option Hq) : Prop := match o with
  | none => v = .pointer none
  | some x => ∃ g i, v = .pointer (some ⟨g, i, none⟩) ∧ g < W.heap.size ∧ W.cell? ⟨g, i, none⟩ = some (.int .i64 x.pl) ∧ W.cell? ⟨g, i + 1, none⟩ = some (.string x.ts)
theorem LkAt.below {W W' : World} {v : Value} {o : Option Hq} (h : LkAt W v o) (hb : Below W.heap.size W W') : LkAt W' v o := by
  cases o with
  | none => exact h
  | some x =>
    obtain ⟨g, i, h1, h2, h3, h4⟩ := h
    exact ⟨g, i, h1, Nat.lt_of_lt_of_le h2 hb.size, (hb.cell (p := ⟨g, i, none⟩) h2).trans h3, (hb.cell (p := ⟨g, i + 1, none⟩) h2).trans h4⟩
theorem LkAt.drew {W : World} {v : Value} {o : Option Hq} (h : LkAt W v o) : LkAt W.drew v o := by
  cases o with
  | none => exact h
  | some x => exact h
theorem fh_nofind {P : Hq → Bool} {L : List Hq} (h : L.any P = false) : L.find? P = none := by
  rw [List.find?_eq_none]
  intro x hx
  have := List.any_eq_false.1 h x hx
  simpa using this
theorem fh_find {P : Hq → Bool} {L : List Hq} {i : Int} (h : Fh P L i) (hn : L.any P = true) : ∃ k : Nat, ∃ hk : k < L.length, i = (k : Int) ∧ L.find? P = some L[k] := by
  rcases h with ⟨_, h⟩ | ⟨k, hk, h1, h2, _, h3⟩
  · rw [h] at hn; cases hn
  · refine ⟨k, hk, h1, ?_⟩
    rw [List.find?_eq_some_iff_getElem]
    exact ⟨h2, k, hk, rfl, fun j hj => by rw [h3 j (by omega) hj]; rfl⟩
set_option maxRecDepth 100000 in
set_option maxHeartbeats 2000000 in
/-- (nsec3s).first, with (proof.nsec3s).covering$1 -/
theorem first_covers (apex : ByteArray) (rd : Nat) (sl : ByteArray) (L : List Hq) (p : Option Addr) (cap : Nat) (h : ByteArray) (B : Nat) (w : World) (hL : L.length ≤ 1048576) (hat : HsAt w p L) (hB : B < w.heap.size) (hc : w.cell? ⟨B, 0, none⟩ = some (.string h)) :
    Calls Tryz.prog 165 #[.agg #[.string apex, .int .i64 (rd : Int), .string sl, .slice p L.length cap], .func (Fn.func 166) #[] #[.pointer (some ⟨B, 0, none⟩)]] w fun r w' => (∃ v, r = .returned v ∧ LkAt w' v (L.find? fun x => btL x.ow x.nx h)) ∧ Below w.heap.size w w' := by
  have HB0 : Below w.heap.size w (w.alloc (.cells #[.string apex, .int .i64 (rd : Int), .string sl, .slice p L.length cap] 149)) := (Below.refl _ _).alloc (Nat.le_refl _) _
  have x0 : Bx (w.alloc (.cells #[.string apex, .int .i64 (rd : Int), .string sl, .slice p L.length cap] 149)) w.heap.size #[.string apex, .int .i64 (rd : Int), .string sl, .slice p L.length cap] 149 := World.alloc_heap_new w _
  obtain ⟨W1, hW1⟩ : ∃ W1, w.alloc (.cells #[.string apex, .int .i64 (rd : Int), .string sl, .slice p L.length cap] 149) = W1 := ⟨_, rfl⟩
  rw [hW1] at HB0 x0
  have HB := hide' HB0
  have HX := hide' x0
  have HA := hide' (hat.below HB0)
  have HI := hide' (indexH_covers L p cap (.pointer (some ⟨B, 0, none⟩)) (fun x => btL x.ow x.nx h) W1 (by omega) (hat.below HB0) (fun k hk W hb => covering1_any L[k] h B W (Nat.lt_of_lt_of_le hB (Nat.le_trans HB0.size hb.size)) (by rw [hb.cell (p := ⟨B, 0, none⟩) (Nat.lt_of_lt_of_le hB HB0.size), HB0.cell (p := ⟨B, 0, none⟩) hB]; exact hc)))
  have k3 := x0.cell (j := 3) (v := .slice p L.length cap) rfl
  clear hat hB hc HB0 x0
  rcases hany : L.any (fun x => btL x.ow x.nx h) with _ | _
  · have HN := hide' hany
    have HF := hide' (fh_nofind hany)
    clear hany
    go_enter Tryz.func165, Tryz.ntmps165
    go_wp2_with (go_at_call 92; refine HI.out.mono ?_; rintro r w1 ⟨⟨i, rfl, hi⟩, hB1⟩; obtain rfl := hi.none HN.out; have HB1 := hide' hB1; clear hi hB1)
    go_ret
    refine ⟨⟨_, rfl, ?_⟩, bstep HB.out HB1.out HB.out.size⟩
    rw [HF.out]
    rfl
  · have HN := hide' hany
    clear hany
    go_enter Tryz.func165, Tryz.ntmps165
    go_wp2_with (go_at_call 92; refine HI.out.mono ?_; rintro r w1 ⟨⟨i, rfl, hi⟩, hB1⟩; obtain ⟨k, hk, rfl, hf⟩ := fh_find hi HN.out; have HF := hide' hf; have HB1 := hide' hB1; have hkk : (k : Int) < (L.length : Int) := (by omega); obtain ⟨g, off, rfl, hg, e0, e1, e2, e3, e4, e5⟩ := (HA.out.below hB1) k hk; have HE0 := hide' e0; have HE1 := hide' e1; have HG := hide' hg; clear hi hB1 hf k3 e0 e1 e2 e3 e4 e5 hg; have k3 := (HX.out.below HB1.out HX.out.lt).cell (j := 3) (v := .slice (some ⟨g, off, none⟩) L.length cap) rfl)
    go_ret
    refine ⟨⟨_, rfl, ?_⟩, bstep HB.out HB1.out HB.out.size⟩
    rw [HF.out]
    exact ⟨g, off + k * 6, by rfl, HG.out, HE0.out, HE1.out⟩
set_option maxRecDepth 100000 in
set_option maxHeartbeats 2000000 in
/-- (nsec3s).first, with (proof.nsec3s).standing$1 -/
theorem first_stands (apex : ByteArray) (rd : Nat) (sl : ByteArray) (L : List Hq) (p : Option Addr) (cap : Nat) (h : ByteArray) (B : Nat) (w : World) (hL : L.length ≤ 1048576) (hat : HsAt w p L) (hB : B < w.heap.size) (hc : w.cell? ⟨B, 0, none⟩ = some (.string h)) :
    Calls Tryz.prog 165 #[.agg #[.string apex, .int .i64 (rd : Int), .string sl, .slice p L.length cap], .func (Fn.func 169) #[] #[.pointer (some ⟨B, 0, none⟩)]] w fun r w' => (∃ v, r = .returned v ∧ LkAt w' v (L.find? fun x => x.ow.toList == h.toList)) ∧ Below w.heap.size w w' := by
  have HB0 : Below w.heap.size w (w.alloc (.cells #[.string apex, .int .i64 (rd : Int), .string sl, .slice p L.length cap] 149)) := (Below.refl _ _).alloc (Nat.le_refl _) _
  have x0 : Bx (w.alloc (.cells #[.string apex, .int .i64 (rd : Int), .string sl, .slice p L.length cap] 149)) w.heap.size #[.string apex, .int .i64 (rd : Int), .string sl, .slice p L.length cap] 149 := World.alloc_heap_new w _
  obtain ⟨W1, hW1⟩ : ∃ W1, w.alloc (.cells #[.string apex, .int .i64 (rd : Int), .string sl, .slice p L.length cap] 149) = W1 := ⟨_, rfl⟩
  rw [hW1] at HB0 x0
  have HB := hide' HB0
  have HX := hide' x0
  have HA := hide' (hat.below HB0)
  have HI := hide' (indexH_stands L p cap (.pointer (some ⟨B, 0, none⟩)) (fun x => x.ow.toList == h.toList) W1 (by omega) (hat.below HB0) (fun k hk W hb => standing1_any L[k] h B W (Nat.lt_of_lt_of_le hB (Nat.le_trans HB0.size hb.size)) (by rw [hb.cell (p := ⟨B, 0, none⟩) (Nat.lt_of_lt_of_le hB HB0.size), HB0.cell (p := ⟨B, 0, none⟩) hB]; exact hc)))
  have k3 := x0.cell (j := 3) (v := .slice p L.length cap) rfl
  clear hat hB hc HB0 x0
  rcases hany : L.any (fun x => x.ow.toList == h.toList) with _ | _
  · have HN := hide' hany
    have HF := hide' (fh_nofind hany)
    clear hany
    go_enter Tryz.func165, Tryz.ntmps165
    go_wp2_with (go_at_call 92; refine HI.out.mono ?_; rintro r w1 ⟨⟨i, rfl, hi⟩, hB1⟩; obtain rfl := hi.none HN.out; have HB1 := hide' hB1; clear hi hB1)
    go_ret
    refine ⟨⟨_, rfl, ?_⟩, bstep HB.out HB1.out HB.out.size⟩
    rw [HF.out]
    rfl
  · have HN := hide' hany
    clear hany
    go_enter Tryz.func165, Tryz.ntmps165
    go_wp2_with (go_at_call 92; refine HI.out.mono ?_; rintro r w1 ⟨⟨i, rfl, hi⟩, hB1⟩; obtain ⟨k, hk, rfl, hf⟩ := fh_find hi HN.out; have HF := hide' hf; have HB1 := hide' hB1; have hkk : (k : Int) < (L.length : Int) := (by omega); obtain ⟨g, off, rfl, hg, e0, e1, e2, e3, e4, e5⟩ := (HA.out.below hB1) k hk; have HE0 := hide' e0; have HE1 := hide' e1; have HG := hide' hg; clear hi hB1 hf k3 e0 e1 e2 e3 e4 e5 hg; have k3 := (HX.out.below HB1.out HX.out.lt).cell (j := 3) (v := .slice (some ⟨g, off, none⟩) L.length cap) rfl)
    go_ret
    refine ⟨⟨_, rfl, ?_⟩, bstep HB.out HB1.out HB.out.size⟩
    rw [HF.out]
    exact ⟨g, off + k * 6, by rfl, HG.out, HE0.out, HE1.out⟩
/-- a name's hash -/
def hshB (rd : Nat) (sl n : ByteArray) : ByteArray := if isN n = true then hashB n sl rd else ⟨#[]⟩
/-- the first that covers a name, that stands at it -/
def cvF (L : List Hq) (rd : Nat) (sl n : ByteArray) : Option Hq := L.find? fun x => btL x.ow x.nx (hshB rd sl n)
def stF (L : List Hq) (rd : Nat) (sl n : ByteArray) : Option Hq := L.find? fun x => x.ow.toList == (hshB rd sl n).toList
set_option maxRecDepth 100000 in
set_option maxHeartbeats 2000000 in
/-- (proof.nsec3s).covering -/
theorem covering_any (apex : ByteArray) (rd : Nat) (sl : ByteArray) (L : List Hq) (p : Option Addr) (cap : Nat) (n : ByteArray) (w : World) (hL : L.length ≤ 1048576) (hat : HsAt w p L) (hs : sl.size ≤ 255) (hr : rd ≤ 50) (hn : n.size ≤ 1048576) :
    Calls Tryz.prog 158 #[.agg #[.string apex, .int .i64 (rd : Int), .string sl, .slice p L.length cap], .string n] w fun r w' => (∃ v, r = .returned v ∧ LkAt w' v (cvF L rd sl n)) ∧ Below w.heap.size w w' := by
  have HB0 : Below w.heap.size w (w.alloc (.cells #[.string apex, .int .i64 (rd : Int), .string sl, .slice p L.length cap] 149)) := (Below.refl _ _).alloc (Nat.le_refl _) _
  have x0 : Bx (w.alloc (.cells #[.string apex, .int .i64 (rd : Int), .string sl, .slice p L.length cap] 149)) w.heap.size #[.string apex, .int .i64 (rd : Int), .string sl, .slice p L.length cap] 149 := World.alloc_heap_new w _
  obtain ⟨W1, hW1⟩ : ∃ W1, w.alloc (.cells #[.string apex, .int .i64 (rd : Int), .string sl, .slice p L.length cap] 149) = W1 := ⟨_, rfl⟩
  rw [hW1] at HB0 x0
  have HB := hide' HB0
  have HX := hide' x0
  have HA := hide' (hat.below HB0)
  have HH := hide' (fun W => wayHash_any rd sl n W hs hr hn)
  have HFI := hide' (fun (W : World) (B : Nat) (h1 : HsAt W p L) (h2 : B < W.heap.size) (h3 : W.cell? ⟨B, 0, none⟩ = some (.string (hshB rd sl n))) => first_covers apex rd sl L p cap (hshB rd sl n) B W hL h1 h2 h3)
  have HFF : Hid (cvF L rd sl n = L.find? (fun x => btL x.ow x.nx (hshB rd sl n))) := rfl
  change Hid (∀ W : World, Calls Tryz.prog 155 #[.agg #[.int .i64 (rd : Int), .string sl], .string n] W fun r w' => r = .returned (.string (hshB rd sl n)) ∧ Below W.heap.size W w') at HH
  rw [HFF.out]
  generalize hshB rd sl n = H at *
  have k0 := x0.cell (j := 0) (v := .string apex) rfl
  have k1 := x0.cell (j := 1) (v := .int .i64 (rd : Int)) rfl
  have k2 := x0.cell (j := 2) (v := .string sl) rfl
  have k3 := x0.cell (j := 3) (v := .slice p L.length cap) rfl
  clear hat HB0 x0 HFF
  go_enter Tryz.func158, Tryz.ntmps158
  go_wp2_with (first
    | (go_at_call 155; refine (HH.out _).mono ?_; rintro r w1 ⟨rfl, hB1⟩; have HB1 := hide' hB1; have hB2 : Below w1.heap.size w1 (w1.alloc (.cells #[.string H] 9)) := (Below.refl _ _).alloc (Nat.le_refl _) _; have x2 : Bx (w1.alloc (.cells #[.string H] 9)) w1.heap.size #[.string H] 9 := World.alloc_heap_new w1 _; have HX1 := hide' ((HX.out.below hB1 HX.out.lt).below hB2 (HX.out.below hB1 HX.out.lt).lt); have HA1 := hide' ((HA.out.below hB1).below hB2); have HB2 := hide' (bstep (bstep HB.out hB1 HB.out.size) hB2 (Nat.le_trans HB.out.size hB1.size)); obtain ⟨W2, hW2⟩ : ∃ W2, w1.alloc (.cells #[.string H] 9) = W2 := ⟨_, rfl⟩; rw [hW2] at HX1 HA1 HB2 x2; have HX2 := hide' x2; clear k0 k1 k2 k3 hB1 hB2 x2; have k0 := HX1.out.cell (j := 0) (v := .string apex) rfl; have k1 := HX1.out.cell (j := 1) (v := .int .i64 (rd : Int)) rfl; have k2 := HX1.out.cell (j := 2) (v := .string sl) rfl; have k3 := HX1.out.cell (j := 3) (v := .slice p L.length cap) rfl)
    | (go_at_call 165; refine (HFI.out _ _ HA1.out HX2.out.lt (HX2.out.cell rfl)).mono ?_; rintro r w3 ⟨⟨v, rfl, hv⟩, hB3⟩))
  go_ret
  exact ⟨⟨_, rfl, hv⟩, bstep HB2.out hB3 HB2.out.size⟩
set_option maxRecDepth 100000 in
set_option maxHeartbeats 2000000 in
/-- (proof.nsec3s).standing -/
theorem standing_any (apex : ByteArray) (rd : Nat) (sl : ByteArray) (L : List Hq) (p : Option Addr) (cap : Nat) (n : ByteArray) (w : World) (hL : L.length ≤ 1048576) (hat : HsAt w p L) (hs : sl.size ≤ 255) (hr : rd ≤ 50) (hn : n.size ≤ 1048576) :
    Calls Tryz.prog 161 #[.agg #[.string apex, .int .i64 (rd : Int), .string sl, .slice p L.length cap], .string n] w fun r w' => (∃ v, r = .returned v ∧ LkAt w' v (stF L rd sl n)) ∧ Below w.heap.size w w' := by
  have HB0 : Below w.heap.size w (w.alloc (.cells #[.string apex, .int .i64 (rd : Int), .string sl, .slice p L.length cap] 149)) := (Below.refl _ _).alloc (Nat.le_refl _) _
  have x0 : Bx (w.alloc (.cells #[.string apex, .int .i64 (rd : Int), .string sl, .slice p L.length cap] 149)) w.heap.size #[.string apex, .int .i64 (rd : Int), .string sl, .slice p L.length cap] 149 := World.alloc_heap_new w _
  obtain ⟨W1, hW1⟩ : ∃ W1, w.alloc (.cells #[.string apex, .int .i64 (rd : Int), .string sl, .slice p L.length cap] 149) = W1 := ⟨_, rfl⟩
  rw [hW1] at HB0 x0
  have HB := hide' HB0
  have HX := hide' x0
  have HA := hide' (hat.below HB0)
  have HH := hide' (fun W => wayHash_any rd sl n W hs hr hn)
  have HFI := hide' (fun (W : World) (B : Nat) (h1 : HsAt W p L) (h2 : B < W.heap.size) (h3 : W.cell? ⟨B, 0, none⟩ = some (.string (hshB rd sl n))) => first_stands apex rd sl L p cap (hshB rd sl n) B W hL h1 h2 h3)
  have HFF : Hid (stF L rd sl n = L.find? (fun x => x.ow.toList == (hshB rd sl n).toList)) := rfl
  change Hid (∀ W : World, Calls Tryz.prog 155 #[.agg #[.int .i64 (rd : Int), .string sl], .string n] W fun r w' => r = .returned (.string (hshB rd sl n)) ∧ Below W.heap.size W w') at HH
  rw [HFF.out]
  generalize hshB rd sl n = H at *
  have k0 := x0.cell (j := 0) (v := .string apex) rfl
  have k1 := x0.cell (j := 1) (v := .int .i64 (rd : Int)) rfl
  have k2 := x0.cell (j := 2) (v := .string sl) rfl
  have k3 := x0.cell (j := 3) (v := .slice p L.length cap) rfl
  clear hat HB0 x0 HFF
  go_enter Tryz.func161, Tryz.ntmps161
  go_wp2_with (first
    | (go_at_call 155; refine (HH.out _).mono ?_; rintro r w1 ⟨rfl, hB1⟩; have HB1 := hide' hB1; have hB2 : Below w1.heap.size w1 (w1.alloc (.cells #[.string H] 9)) := (Below.refl _ _).alloc (Nat.le_refl _) _; have x2 : Bx (w1.alloc (.cells #[.string H] 9)) w1.heap.size #[.string H] 9 := World.alloc_heap_new w1 _; have HX1 := hide' ((HX.out.below hB1 HX.out.lt).below hB2 (HX.out.below hB1 HX.out.lt).lt); have HA1 := hide' ((HA.out.below hB1).below hB2); have HB2 := hide' (bstep (bstep HB.out hB1 HB.out.size) hB2 (Nat.le_trans HB.out.size hB1.size)); obtain ⟨W2, hW2⟩ : ∃ W2, w1.alloc (.cells #[.string H] 9) = W2 := ⟨_, rfl⟩; rw [hW2] at HX1 HA1 HB2 x2; have HX2 := hide' x2; clear k0 k1 k2 k3 hB1 hB2 x2; have k0 := HX1.out.cell (j := 0) (v := .string apex) rfl; have k1 := HX1.out.cell (j := 1) (v := .int .i64 (rd : Int)) rfl; have k2 := HX1.out.cell (j := 2) (v := .string sl) rfl; have k3 := HX1.out.cell (j := 3) (v := .slice p L.length cap) rfl)
    | (go_at_call 165; refine (HFI.out _ _ HA1.out HX2.out.lt (HX2.out.cell rfl)).mono ?_; rintro r w3 ⟨⟨v, rfl, hv⟩, hB3⟩))
  go_ret
  exact ⟨⟨_, rfl, hv⟩, bstep HB2.out hB3 HB2.out.size⟩
/-- what one proves at its name -/
def jaB (o : Option Hq) (t : Int) : Int := match o with
  | none => 0
  | some x => if denT x.ts t = true then 2 else 0
set_option maxRecDepth 100000 in
set_option maxHeartbeats 1000000 in
/-- proof.judgeAt -/
theorem judgeAt_any (v : Value) (o : Option Hq) (t : Int) (w : World) (h : LkAt w v o) (hs : ∀ x, o = some x → x.ts.size ≤ 65535) :
    Calls Tryz.prog 163 #[v, .int .i64 t] w fun r w' => r = .returned (.int .i64 (jaB o t)) ∧ Below w.heap.size w w' := by
  cases o with
  | none =>
    obtain rfl : v = .pointer none := h
    go_enter Tryz.func163, Tryz.ntmps163
    go_wp2_with fail
    go_ret
    exact ⟨rfl, Below.refl _ _⟩
  | some x =>
    obtain ⟨g, i, rfl, hg, c0, c1⟩ := h
    have HD := hide' (fun W => deniesType_any x.pl x.ts t W (hs x rfl))
    show Calls _ _ _ _ fun r w' => r = .returned (.int .i64 (if denT x.ts t = true then 2 else 0)) ∧ _
    cases hd : denT x.ts t with
    | true =>
      rw [hd] at HD
      rw [if_pos rfl]
      go_enter Tryz.func163, Tryz.ntmps163
      go_wp2_with (go_at_call 133; refine (HD.out _).mono ?_; rintro r w1 ⟨rfl, hB1⟩)
      go_ret
      exact ⟨rfl, hB1⟩
    | false =>
      rw [hd] at HD
      rw [if_neg (by decide)]
      go_enter Tryz.func163, Tryz.ntmps163
      go_wp2_with (go_at_call 133; refine (HD.out _).mono ?_; rintro r w1 ⟨rfl, hB1⟩)
      go_ret
      exact ⟨rfl, hB1⟩
set_option maxRecDepth 100000 in
set_option maxHeartbeats 1000000 in
/-- proof.below -/
theorem pbelow_any (q e : ByteArray) (w : World) (hq : q.size ≤ 1048576) (he : e.size ≤ 1048576) :
    Calls Tryz.prog 164 #[.string q, .string e] w fun r w' => r = .returned (.string (tailB q (cntI e + 1))) ∧ Below w.heap.size w w' := by
  have HC := hide' (fun W => count_any e W (small_max he))
  have hc1 : -1 ≤ cntI e := by unfold cntI; split <;> omega
  have hc2 : cntI e ≤ 254 := by
    unfold cntI
    split
    · rename_i h; have := labs_len_le h; omega
    · omega
  have HT := hide' (fun W => tail_any q (cntI e + 1) W (small_max hq))
  generalize cntI e = c at *
  go_enter Tryz.func164, Tryz.ntmps164
  go_wp2_with (first
    | (go_at_call 50; refine (HC.out _).mono ?_; rintro r w1 ⟨rfl, hB1⟩)
    | (go_at_call 49; refine (HT.out _).mono ?_; rintro r w2 ⟨rfl, hB2⟩))
  go_ret
  exact ⟨rfl, bstep hB1 hB2 hB1.size⟩
end Go.Proofs.YtgekfhghambacaaGreat
