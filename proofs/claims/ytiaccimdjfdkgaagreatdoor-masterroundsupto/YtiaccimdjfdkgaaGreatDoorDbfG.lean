import Derived.Test.YtiaccimdjfdkgaaGreatDoorDbdG
import Derived.Shelf.RegionOpen
import Derived.WalkKit
import Derived.WalkSpells
import Derived.WalkLawsBesides
import Derived.OwnWalkIn
import Derived.BigQuiet
import Derived.Deep.QuietTactic
import Derived.Deep.RegionHeld3
import Derived.Test.YtiaccimdjfdkgaaGreatDoorNs1G
import Derived.Test.YtiaccimdjfdkgaaGreatDoorRdbG
/-
  Proofs: a line of words under way: more, take, plain, must. (The verifier's own text.)
-/
namespace Go.Proofs.YtiaccimdjfdkgaaGreatDoor
set_option linter.unusedVariables false
set_option linter.unusedSimpArgs false
open Go.RowKit Go.Shelf Go.Proofs.YtiaccimdjfdkgaaGreatDoor.Nm

/-- a line in memory: its words, its origin, how far it was read -/
structure Ln (W0 : World) (L : Nat) (q : Option Addr) (c : Nat) (Z : List Wz) (o : ByteArray) (n : Nat) (w : World) : Prop where
  blk : w.heap[L]? = some (.cells #[.slice q Z.length c, .string o, .int .i64 (n : Int)] 219 (0, 0))
  bel : Below W0.heap.size W0 w
  ge : W0.heap.size ≤ L
  row : ∀ j (z : Wz), Z[j]? = some z → ∃ b off, q = some ⟨b, off, none⟩ ∧ W0.cell? ⟨b, off + j * 2, none⟩ = some (.string (bts z.t)) ∧ W0.cell? ⟨b, off + j * 2 + 1, none⟩ = some (.bool z.q)
  len : Z.length ≤ 16777216
  cap : Z.length ≤ c ∧ c ≤ 9223372036854775807
section
variable {W0 : World} {L : Nat} {q : Option Addr} {c : Nat} {Z : List Wz} {o : ByteArray} {n : Nat} {w : World}
theorem Ln.lt (h : Ln W0 L q c Z o n w) : L < w.heap.size := (Array.getElem?_eq_some_iff.1 h.blk).1
theorem Ln.c0 (h : Ln W0 L q c Z o n w) : w.cell? ⟨L, 0, none⟩ = some (.slice q Z.length c) := by have := h.blk; simp [World.cell?, this]
theorem Ln.c1 (h : Ln W0 L q c Z o n w) : w.cell? ⟨L, 1, none⟩ = some (.string o) := by have := h.blk; simp [World.cell?, this]
theorem Ln.c2 (h : Ln W0 L q c Z o n w) : w.cell? ⟨L, 2, none⟩ = some (.int .i64 (n : Int)) := by have := h.blk; simp [World.cell?, this]
theorem Ln.free (h : Ln W0 L q c Z o n w) (j : Nat) : w.frozen? ⟨L, j, none⟩ = false := by have := h.blk; simp [World.frozen?, this]
theorem Ln.drewN (h : Ln W0 L q c Z o n w) (m : Nat) : Ln W0 L q c Z o n (w.drewN m) := ⟨h.blk, below_drewN h.bel m, h.ge, h.row, h.len, h.cap⟩
theorem Ln.below {w' : World} (h : Ln W0 L q c Z o n w) (hb : Below w.heap.size w w') : Ln W0 L q c Z o n w' := ⟨(hb.block L h.lt).trans h.blk, bstep h.bel hb h.bel.size, h.ge, h.row, h.len, h.cap⟩
theorem Ln.set (h : Ln W0 L q c Z o n w) (n' : Nat) : Ln W0 L q c Z o n' (w.setCell ⟨L, 2, none⟩ (.int .i64 (n' : Int))) := by
  refine ⟨?_, h.bel.setCell (p := ⟨L, 2, none⟩) h.ge _, h.ge, h.row, h.len, h.cap⟩
  have := h.blk
  simp [World.setCell, Array.getElem?_modify, this]
theorem Ln.at (h : Ln W0 L q c Z o n w) {j : Nat} {z : Wz} (hz : Z[j]? = some z) : ∃ b off, q = some ⟨b, off, none⟩ ∧ w.cell? ⟨b, off + j * 2, none⟩ = some (.string (bts z.t)) ∧ w.cell? ⟨b, off + j * 2 + 1, none⟩ = some (.bool z.q) ∧ b < W0.heap.size := by
  obtain ⟨b, off, h1, h2, h3⟩ := h.row j z hz
  have hb : b < W0.heap.size := Lib.lt_of_cell h2
  exact ⟨b, off, h1, (h.bel.cell (p := ⟨b, off + j * 2, none⟩) hb).trans h2, (h.bel.cell (p := ⟨b, off + j * 2 + 1, none⟩) hb).trans h3, hb⟩
theorem Ln.other {B : Nat} (h : Ln W0 L q c Z o n w) (hB : B ≠ L) (hge : W0.heap.size ≤ B) (j : Nat) (v : Value) : Ln W0 L q c Z o n (w.setCell ⟨B, j, none⟩ v) := by
  refine ⟨?_, h.bel.setCell (p := ⟨B, j, none⟩) hge _, h.ge, h.row, h.len, h.cap⟩
  rw [Below.heap_setCell _ _ _ _ (by show L ≠ B; omega)]
  exact h.blk
theorem Ln.drew (h : Ln W0 L q c Z o n w) : Ln W0 L q c Z o n w.drew := h.drewN 1
/-- what reading does to the world -/
def Rg (w w' : World) (L : Nat) : Prop := w.grownBy w' (some L)
theorem Rg.refl (w : World) (L : Nat) : Rg w w L := ⟨rfl, rfl, rfl, Nat.le_refl _, fun _ _ _ => rfl⟩
theorem Rg.trans {a b c : World} {L : Nat} (h : Rg a b L) (k : Rg b c L) : Rg a c L :=
  ⟨k.os.trans h.os, k.tape.trans h.tape, k.output.trans h.output, Nat.le_trans h.size k.size, fun j hj hne => (k.block j (Nat.lt_of_lt_of_le hj h.size) hne).trans (h.block j hj hne)⟩
theorem Rg.of_below {w w' : World} (h : Below w.heap.size w w') (L : Nat) : Rg w w' L := ⟨h.os, h.tape, h.output, h.size, fun k hk _ => h.block k hk⟩
theorem Rg.set (w : World) (L j : Nat) (u : Value) : Rg w (w.setCell ⟨L, j, none⟩ u) L :=
  ⟨rfl, rfl, rfl, by simp [World.setCell], fun b hb hne => Below.heap_setCell _ _ _ b (by show b ≠ L; exact fun e => hne (by rw [e]))⟩
theorem Rg.new {w w' : World} {L B : Nat} (h : Rg w w' L) (hB : w.heap.size ≤ B) (j : Nat) (u : Value) : Rg w (w'.setCell ⟨B, j, none⟩ u) L :=
  ⟨h.os, h.tape, h.output, by simpa [World.setCell] using h.size, fun b hb hne => (Below.heap_setCell _ _ _ b (by show b ≠ B; omega)).trans (h.block b hb hne)⟩
theorem Rg.drew {w w' : World} {L : Nat} (h : Rg w w' L) : Rg w w'.drew L := ⟨h.os, h.tape, h.output, h.size, h.block⟩
theorem Rg.below {w w' w0 : World} {L : Nat} (h : Rg w w' L) (hb : Below w0.heap.size w0 w) (hL : w0.heap.size ≤ L) : Below w0.heap.size w0 w' :=
  ⟨h.os.trans hb.os, h.tape.trans hb.tape, h.output.trans hb.output, Nat.le_trans hb.size h.size, fun j hj => (h.block j (Nat.lt_of_lt_of_le hj hb.size) (by intro e; injection e with e; omega)).trans (hb.block j hj)⟩
end
set_option maxRecDepth 100000 in
/-- (*line).more -/
theorem lmore_any (W0 : World) (L : Nat) (q : Option Addr) (c : Nat) (Z : List Wz) (o : ByteArray) (n : Nat) (w : World) (h : Ln W0 L q c Z o n w) (hn : n ≤ Z.length) :
    Calls Tryz.prog 131 #[.pointer (some ⟨L, 0, none⟩)] w fun e w' => e = .returned (.bool (decide (n < Z.length))) ∧ ∃ m, w' = w.drewN m := by
  have c0 := h.c0
  have c2 := h.c2
  have hl := h.len
  have hc := h.cap.1
  have hc2 := h.cap.2
  have HD : Hid (decide ((n : Int) < (Z.length : Int)) = decide (n < Z.length)) := by unfold Hid; simp
  go_enter Tryz.func131, Tryz.ntmps131
  go_wp2_with fail
  go_quiet (fail)
  go_wp2
  go_ret
  exact ⟨by rw [← HD.out]; rfl, _, rfl⟩
/-- (*line).must -/
theorem must_any (v : Value) (w : World) : Calls Tryz.prog 148 #[v, .bool true] w fun e w' => e = .returned (.tuple #[]) ∧ w' = w := by
  go_enter Tryz.func148, Tryz.ntmps148
  go_wp2
  go_end0
  exact ⟨rfl, rfl⟩
set_option maxRecDepth 100000 in
set_option maxHeartbeats 4000000 in
/-- (*line).take -/
theorem take_any (W0 : World) (L : Nat) (q : Option Addr) (c : Nat) (Z : List Wz) (o : ByteArray) (n : Nat) (z : Wz) (w : World) (h : Ln W0 L q c Z o n w) (hz : Z[n]? = some z) :
    Calls Tryz.prog 146 #[.pointer (some ⟨L, 0, none⟩)] w fun e w' => e = .returned (.agg #[.string (bts z.t), .bool z.q]) ∧ Ln W0 L q c Z o (n + 1) w' ∧ Rg w w' L := by
  have hlt : n < Z.length := (List.getElem?_eq_some_iff.1 hz).1
  obtain ⟨wa, hwa⟩ : ∃ wa, w.alloc (.cells #[.string ⟨#[]⟩, .bool false] 121) = wa := ⟨_, rfl⟩
  have hBa : Below w.heap.size w wa := hwa ▸ (Below.refl _ w).alloc (Nat.le_refl _) _
  have HLa := hide' (h.below hBa)
  have HBa := hide' hBa
  have HM : Hid (∀ V, Ln W0 L q c Z o n V → Calls Tryz.prog 131 #[.pointer (some ⟨L, 0, none⟩)] V fun e w' => e = .returned (.bool true) ∧ ∃ m, w' = V.drewN m) := fun V hV => by
    have := lmore_any W0 L q c Z o n V hV (by omega)
    rw [decide_eq_true hlt] at this
    exact this
  have hl := h.len
  go_enter Tryz.func146, Tryz.ntmps146
  go_wp2_with (go_at_call 131; refine (HM.out _ HLa.out).mono ?_; rintro e0 w2 ⟨rfl, m, hw2⟩; have hw2' := hw2; subst hw2'; have hm2 := (HLa.out.drewN m).c2; have hmf := (HLa.out.drewN m).free 2)
  have HLs : Hid (Ln W0 L q c Z o (n + 1) ((wa.drewN m).setCell ⟨L, 2, none⟩ (.int .i64 ((n : Int) + 1)))) := (HLa.out.drewN m).set (n + 1)
  have HRs : Hid (Rg w ((wa.drewN m).setCell ⟨L, 2, none⟩ (.int .i64 ((n : Int) + 1))) L) := (Rg.of_below (below_drewN HBa.out m) L).trans (Rg.set _ _ _ _)
  have HBx : Hid (((wa.drewN m).setCell ⟨L, 2, none⟩ (.int .i64 ((n : Int) + 1))).heap[w.heap.size]? = some (.cells #[.string ⟨#[]⟩, .bool false] 121 (0, 0))) := by
    have hne : L ≠ w.heap.size := by have := h.lt; omega
    unfold Hid
    rw [Below.heap_setCell _ _ _ _ (by show w.heap.size ≠ L; omega), ← hwa]
    exact World.alloc_heap_new w _
  obtain ⟨ws, hws⟩ : ∃ ws, (wa.drewN m).setCell ⟨L, 2, none⟩ (.int .i64 ((n : Int) + 1)) = ws := ⟨_, rfl⟩
  rw [hws] at HLs HRs HBx ⊢
  clear hws hm2 hmf HM HBa HLa hBa hwa
  obtain ⟨b, off, rfl, z0, z1, hb⟩ := HLs.out.at hz
  have c0 := HLs.out.c0
  have c2 := HLs.out.c2
  have x0 : ws.cell? ⟨w.heap.size, 0, none⟩ = some (.string ⟨#[]⟩) := by have := HBx.out; simp [World.cell?, this]
  have x1 : ws.cell? ⟨w.heap.size, 1, none⟩ = some (.bool false) := by have := HBx.out; simp [World.cell?, this]
  have f0 : ws.frozen? ⟨w.heap.size, 0, none⟩ = false := by have := HBx.out; simp [World.frozen?, this]
  have f1 : ws.frozen? ⟨w.heap.size, 1, none⟩ = false := by have := HBx.out; simp [World.frozen?, this]
  have y0 : ws.drew.cell? ⟨w.heap.size, 0, none⟩ = some (.string ⟨#[]⟩) := x0
  have y1 : ws.drew.cell? ⟨w.heap.size, 1, none⟩ = some (.bool false) := x1
  have g0 : ws.drew.frozen? ⟨w.heap.size, 0, none⟩ = false := f0
  have g1 : ws.drew.frozen? ⟨w.heap.size, 1, none⟩ = false := f1
  obtain ⟨N, hN⟩ : ∃ N, n + 1 = N := ⟨_, rfl⟩
  have hwr : IntKind.i64.wrap ((N : Int) - 1) = (n : Int) := by rw [wrap_nn _ (by omega) (by have := h.len; omega)]; omega
  rw [hN] at c2
  have HN := hide' hN
  clear hN
  have pn0 : (0 : Int) ≤ (n : Int) := by omega
  have pn1 : (n : Int) < (Z.length : Int) := by omega
  have hne : L ≠ w.heap.size := by have := h.lt; omega
  have hnb : b ≠ w.heap.size := by have := h.bel.size; omega
  have hSb : ∀ (B j : Nat) (v : Value), B ≠ w.heap.size → ws.cell? ⟨B, j, none⟩ = some v → (((ws.setCell ⟨w.heap.size, 0, none⟩ (.string (bts z.t))).setCell ⟨w.heap.size, 1, none⟩ (.bool z.q)).drew).cell? ⟨B, j, none⟩ = some v := fun B j v hB hv => by
    show ((ws.setCell ⟨w.heap.size, 0, none⟩ (.string (bts z.t))).setCell ⟨w.heap.size, 1, none⟩ (.bool z.q)).cell? ⟨B, j, none⟩ = some v
    rw [World.cell?_setCell_other _ _ _ _ (fun e => hB (congrArg Addr.block e).symm), World.cell?_setCell_other _ _ _ _ (fun e => hB (congrArg Addr.block e).symm)]
    exact hv
  have HZs := hide' (And.intro (hSb L 0 _ hne c0) (And.intro (hSb L 2 _ hne c2) (And.intro (hSb b (off + n * 2) _ hnb z0) (hSb b (off + n * 2 + 1) _ hnb z1))))
  clear hSb hne hnb
  go_region_held3 (fun V => V.cell? ⟨L, 0, none⟩ = some (.slice (some ⟨b, off, none⟩) Z.length c) ∧ V.cell? ⟨L, 2, none⟩ = some (.int .i64 (N : Int)) ∧ V.cell? ⟨b, off + n * 2, none⟩ = some (.string (bts z.t)) ∧ V.cell? ⟨b, off + n * 2 + 1, none⟩ = some (.bool z.q)) (first | with_reducible exact HZs.out | go_keep) (fail)
  go_wp2_with fail
  have hge : W0.heap.size ≤ w.heap.size := h.bel.size
  have hne : w.heap.size ≠ L := by have := h.lt; omega
  have HLf := hide' (((HLs.out.other hne hge 0 (.string (bts z.t))).other hne hge 1 (.bool z.q)).drew)
  have HRf := hide' (((HRs.out.new (Nat.le_refl _) 0 (.string (bts z.t))).new (Nat.le_refl _) 1 (.bool z.q)).drew)
  have t0 : (((ws.setCell ⟨w.heap.size, 0, none⟩ (.string (bts z.t))).setCell ⟨w.heap.size, 1, none⟩ (.bool z.q)).drew).cell? ⟨w.heap.size, 0, none⟩ = some (.string (bts z.t)) := by
    show ((ws.setCell ⟨w.heap.size, 0, none⟩ (.string (bts z.t))).setCell ⟨w.heap.size, 1, none⟩ (.bool z.q)).cell? ⟨w.heap.size, 0, none⟩ = _
    rw [World.cell?_setCell_other _ _ _ _ (fun e => by injection e with _ e2; cases e2), World.cell?_setCell_same' _ _ _ (by rw [x0]; rfl)]
  have t1 : (((ws.setCell ⟨w.heap.size, 0, none⟩ (.string (bts z.t))).setCell ⟨w.heap.size, 1, none⟩ (.bool z.q)).drew).cell? ⟨w.heap.size, 1, none⟩ = some (.bool z.q) := by
    show ((ws.setCell ⟨w.heap.size, 0, none⟩ (.string (bts z.t))).setCell ⟨w.heap.size, 1, none⟩ (.bool z.q)).cell? ⟨w.heap.size, 1, none⟩ = _
    rw [World.cell?_setCell_same' _ _ _ (by rw [World.cell?_setCell_other _ _ _ _ (fun e => by injection e with _ e2; cases e2), x1]; rfl)]
  generalize ((ws.setCell ⟨w.heap.size, 0, none⟩ (.string (bts z.t))).setCell ⟨w.heap.size, 1, none⟩ (.bool z.q)).drew = wf at *
  exact bodyPost_ret (v := .agg #[.string (bts z.t), .bool z.q]) (by simp [results, go_sem, t0, t1]) rfl ⟨rfl, HLf.out, HRf.out⟩
end Go.Proofs.YtiaccimdjfdkgaaGreatDoor

/-
  Proofs: the next word that stands without quotes, all words that are left; builders. (The verifier's own text.)
-/
namespace Go.Proofs.YtiaccimdjfdkgaaGreatDoor
set_option linter.unusedVariables false
set_option linter.unusedSimpArgs false
open Go.RowKit Go.Shelf Go.Proofs.YtiaccimdjfdkgaaGreatDoor.Nm

section
variable {W0 : World} {L : Nat} {q : Option Addr} {c : Nat} {Z : List Wz} {o : ByteArray} {n : Nat} {w : World}
theorem Ln.belowB {w' : World} {B : Nat} (h : Ln W0 L q c Z o n w) (hb : Below B w w') (hB : L < B) : Ln W0 L q c Z o n w' := by
  have h1 := h.ge
  refine ⟨(hb.block L hB).trans h.blk, h.bel.trans (hb.mono (by omega)), h.ge, h.row, h.len, h.cap⟩
theorem Rg.belowB {w0 w w' : World} {L B : Nat} (h : Rg w0 w L) (hb : Below B w w') (hB : w0.heap.size ≤ B) : Rg w0 w' L :=
  ⟨hb.os.trans h.os, hb.tape.trans h.tape, hb.output.trans h.output, Nat.le_trans h.size hb.size, fun k hk hne => (hb.block k (by omega)).trans (h.block k hk hne)⟩
end
set_option maxRecDepth 100000 in
set_option maxHeartbeats 4000000 in
/-- (*line).plain -/
theorem plain_any (W0 : World) (L : Nat) (q : Option Addr) (c : Nat) (Z : List Wz) (o : ByteArray) (n : Nat) (z : Wz) (w : World) (h : Ln W0 L q c Z o n w) (hz : Z[n]? = some z) (hq : z.q = false) :
    Calls Tryz.prog 147 #[.pointer (some ⟨L, 0, none⟩)] w fun e w' => e = .returned (.string (bts z.t)) ∧ Ln W0 L q c Z o (n + 1) w' ∧ Rg w w' L := by
  have HT := hide' (take_any W0 L q c Z o n z w h hz)
  rw [hq] at HT
  have HM := hide' (fun v V => must_any v V)
  generalize bts z.t = T at *
  clear hz hq
  go_enter Tryz.func147, Tryz.ntmps147
  go_wp2_with (first
    | (go_at_call 146; refine HT.out.mono ?_; rintro e0 w2 ⟨rfl, hL, hR⟩; have HL2 := hide' hL; have HR2 := hide' hR; clear hL hR)
    | (go_at_call 148; refine (HM.out _ _).mono ?_; rintro e1 w3 ⟨rfl, hw3⟩; have hw3' := hw3.symm; subst hw3'))
  go_ret
  exact ⟨rfl, HL2.out.below ((Below.refl _ w2).alloc (Nat.le_refl _) _), HR2.out.trans (Rg.of_below ((Below.refl _ w2).alloc (Nat.le_refl _) _) L)⟩
/-- a builder that holds a text -/
def Bd (B b : Nat) (x : ByteArray) (w : World) : Prop := Lib.IsBuilderF 58 5 B b (Lib.byteCells x.data.toList) w ∧ B ≤ w.heap.size
theorem byteCells_app (x y : ByteArray) : Lib.byteCells x.data.toList ++ Lib.strCells y = Lib.byteCells (x ++ y).data.toList := by
  simp [Lib.byteCells, Lib.strCells]
theorem Bd.new (w : World) : Bd w.heap.size w.heap.size ⟨#[]⟩ (w.alloc (.cells #[.pointer none, .slice none 0 0] 58)) :=
  ⟨.inl ⟨Nat.le_refl _, .slice none 0 0, World.alloc_heap_new _ _, World.ownsRowF_nil _ _ _ _, by simp [Value.ownBlock]⟩, by simp⟩
theorem Bd.kept {B b : Nat} {x : ByteArray} {w w' : World} (h : Bd B b x w) (hb : ∀ g, B ≤ g → g < w.heap.size → w'.heap[g]? = w.heap[g]?) (hs : w.heap.size ≤ w'.heap.size) : Bd B b x w' := by
  refine ⟨?_, Nat.le_trans h.2 hs⟩
  have key : ∀ p, Lib.BuilderAtF 58 5 B b p (Lib.byteCells x.data.toList) w → Lib.BuilderAtF 58 5 B b p (Lib.byteCells x.data.toList) w' := fun p hp => by
    obtain ⟨hB, v, hg, ⟨hl, ho⟩, hne⟩ := hp
    refine ⟨hB, v, (hb b hB (Array.getElem?_eq_some_iff.1 hg).1).trans hg, ⟨hl, ?_⟩, hne⟩
    rcases ho with ho | ⟨g, cap, cur, fz, h1, h2, h3, h4⟩
    · exact .inl ho
    · exact .inr ⟨g, cap, cur, fz, h1, h2, (hb g h2 (Array.getElem?_eq_some_iff.1 h3).1).trans h3, h4⟩
  rcases h.1 with h | h
  · exact .inl (key _ h)
  · exact .inr (key _ h)
theorem Bd.below {B b : Nat} {x : ByteArray} {w w' : World} (h : Bd B b x w) (hb : Below w.heap.size w w') : Bd B b x w' := h.kept (fun g _ hg => hb.block g hg) hb.size
theorem Bd.rg {B b : Nat} {x : ByteArray} {w w' : World} {L : Nat} (h : Bd B b x w) (hr : Rg w w' L) (hL : L < B) : Bd B b x w' := h.kept (fun g h1 hg => hr.block g hg (fun e => by injection e with e; omega)) hr.size
theorem bwrite_any (B b : Nat) (x s : ByteArray) (w : World) (h : Bd B b x w) (hl : x.size + s.size ≤ 1073741824) :
    Calls Tryz.prog 15 #[.pointer (some ⟨b, 0, none⟩), .string s] w fun e w' => e = .returned (.tuple #[.int .i64 s.size, .nilIface]) ∧ Bd B b (x ++ s) w' ∧ Below B w w' := by
  have hx : (Lib.byteCells x.data.toList).length = x.size := by rw [Lib.byteCells_length, Array.length_toList]; rfl
  refine (writeString_any B b _ s w h.1 (by omega) h.2).mono ?_
  rintro e w' ⟨rfl, h1, h2, -⟩
  rw [byteCells_app] at h1
  exact ⟨rfl, ⟨.inr h1, Nat.le_trans h.2 h2.size⟩, h2⟩
theorem bstring_any (B b : Nat) (x : ByteArray) (w : World) (h : Bd B b x w) :
    Calls Tryz.prog 22 #[.pointer (some ⟨b, 0, none⟩)] w fun e w' => e = .returned (.string x) ∧ Bd B b x w' ∧ Below B w w' := by
  refine (builderString_any B b x.data.toList w h.1 h.2).mono ?_
  rintro e w' ⟨rfl, h1, h2, -⟩
  exact ⟨rfl, ⟨h1, Nat.le_trans h.2 h2.size⟩, h2⟩
/-- the texts of words -/
def ctW (Z : List Wz) : List Nat := Z.flatMap (·.t)
theorem ctW_step {Z : List Wz} {n k : Nat} {z : Wz} (h : Z[k]? = some z) (hn : n ≤ k) : ctW ((Z.take (k + 1)).drop n) = ctW ((Z.take k).drop n) ++ z.t := by
  rw [List.take_add_one, h, Option.toList_some, List.drop_append, List.length_take]
  have hk : k < Z.length := (List.getElem?_eq_some_iff.1 h).1
  rw [show n - min k Z.length = 0 by omega, List.drop_zero]
  unfold ctW
  rw [List.flatMap_append]
  simp
set_option maxRecDepth 100000 in
set_option maxHeartbeats 4000000 in
/-- (*line).together -/
theorem together_any (W0 : World) (L : Nat) (q : Option Addr) (c : Nat) (Z : List Wz) (o : ByteArray) (n : Nat) (w : World) (h : Ln W0 L q c Z o n w) (hn : n ≤ Z.length) (hq : ∀ j z, n ≤ j → Z[j]? = some z → z.q = false) (hl : ∀ k, (ctW ((Z.take k).drop n)).length ≤ 16777216) :
    Calls Tryz.prog 150 #[.pointer (some ⟨L, 0, none⟩)] w fun e w' => e = .returned (.string (bts (ctW (Z.drop n)))) ∧ Ln W0 L q c Z o Z.length w' ∧ Rg w w' L := by
  have HM : Hid (∀ (k : Nat) (V : World), k ≤ Z.length → Ln W0 L q c Z o k V → Calls Tryz.prog 131 #[.pointer (some ⟨L, 0, none⟩)] V fun e w' => e = .returned (.bool (decide (k < Z.length))) ∧ ∃ m, w' = V.drewN m) := fun k V hk hV => lmore_any W0 L q c Z o k V hV hk
  have HP : Hid (∀ (k : Nat) (z : Wz) (V : World), Ln W0 L q c Z o k V → n ≤ k → Z[k]? = some z → Calls Tryz.prog 147 #[.pointer (some ⟨L, 0, none⟩)] V fun e w' => e = .returned (.string (bts z.t)) ∧ Ln W0 L q c Z o (k + 1) w' ∧ Rg V w' L) := fun k z V hV hk hz => plain_any W0 L q c Z o k z V hV hz (hq k z hk hz)
  have HB0 := hide' (Bd.new w)
  have HBa : Hid (Below w.heap.size w (w.alloc (.cells #[.pointer none, .slice none 0 0] 58))) := (Below.refl _ w).alloc (Nat.le_refl _) _
  have HLa := hide' (h.below HBa.out)
  have HLt : Hid (L < w.heap.size) := h.lt
  have HLe := hide' hl
  clear hq hl
  go_enter Tryz.func150, Tryz.ntmps150
  go_wp2_with fail
  go_loopw [4] (fun _ wr => ∃ k : Nat, n ≤ k ∧ k ≤ Z.length ∧ Hid (Ln W0 L q c Z o k wr) ∧ Hid (Bd w.heap.size w.heap.size (bts (ctW ((Z.take k).drop n))) wr) ∧ Hid (Rg w wr L))
    (fun _ wr => Z.length - (match wr.cell? ⟨L, 2, none⟩ with | some (.int _ n) => n.toNat | _ => 0))
  case atStart => exact ⟨n, Nat.le_refl _, hn, HLa.out, (by rw [List.drop_eq_nil_of_le (by rw [List.length_take]; omega)]; exact HB0.out), Rg.of_below HBa.out L⟩
  case round =>
    clear HB0 HBa HLa
    obtain ⟨k, hnk, hk, HL, HB, HR⟩ := hrel
    have HMs := hide' HL.out.c2
    have HM1 := hide' (HM.out k wr hk HL.out)
    by_cases hlt : k < Z.length
    · rw [decide_eq_true hlt] at HM1
      obtain ⟨z, hz⟩ : ∃ z, Z[k]? = some z := ⟨_, List.getElem?_eq_getElem hlt⟩
      have HS := hide' (ctW_step hz hnk)
      have HP1 := hide' (fun V hV => HP.out k z V hV hnk hz)
      have HLe1 := hide' (HLe.out (k + 1))
      have HLe0 := hide' (HLe.out k)
      clear hz
      have HSz : Hid ((bts (ctW ((Z.take k).drop n))).size + (bts z.t).size ≤ 1073741824) := by
        unfold Hid
        have h1 := HLe1.out
        rw [HS.out, List.length_append] at h1
        rw [bts_size, bts_size]; omega
      have HA : Hid (bts (ctW ((Z.take (k + 1)).drop n)) = bts (ctW ((Z.take k).drop n)) ++ bts z.t) := by unfold Hid; rw [HS.out, bts_append]
      go_wp2_with (first
        | (go_at_call 131; refine HM1.out.mono ?_; rintro e0 w2 ⟨rfl, m, hw2⟩; have hw2' := hw2; subst hw2')
        | (go_at_call 147; refine (HP1.out _ (HL.out.drewN m)).mono ?_; rintro e1 w3 ⟨rfl, hL, hR⟩; have HL3 := hide' hL; have HR3 := hide' (HR.out.trans ((Rg.of_below (below_drewN (Below.refl _ _) m) L).trans hR)); have HB3 := hide' ((HB.out.below (below_drewN (Below.refl _ _) m)).rg hR HLt.out); clear hL hR)
        | (go_at_call 15; refine (bwrite_any _ _ _ _ _ HB3.out HSz.out).mono ?_; rintro e2 w4 ⟨rfl, hB4, hb4⟩; have HL4 := hide' (HL3.out.belowB hb4 HLt.out); have HR4 := hide' (HR3.out.belowB hb4 (Nat.le_refl _)); have HB4 := hide' hB4; clear hB4 hb4))
      go_roundw
      case rel => exact ⟨k + 1, by omega, by omega, HL4, (by rw [HA.out]; exact HB4), HR4⟩
      case measure =>
        rw [HMs.out, HL4.out.c2]
        simp; omega
    · obtain rfl : k = Z.length := by omega
      rw [decide_eq_false hlt] at HM1
      have HE : Hid (ctW ((Z.take Z.length).drop n) = ctW (Z.drop n)) := by unfold Hid; rw [List.take_length]
      go_wp2_with (first
        | (go_at_call 131; refine HM1.out.mono ?_; rintro e0 w2 ⟨rfl, m, hw2⟩; have hw2' := hw2; subst hw2')
        | (go_at_call 22; refine (bstring_any _ _ _ _ (HB.out.below (below_drewN (Below.refl _ _) m))).mono ?_; rintro e2 w4 ⟨rfl, -, hb4⟩; have HL4 := hide' ((HL.out.drewN m).belowB hb4 HLt.out); have HR4 := hide' ((HR.out.trans (Rg.of_below (below_drewN (Below.refl _ _) m) L)).belowB hb4 (Nat.le_refl _)); clear hb4))
      go_ret
      exact ⟨rfl, HL4.out, HR4.out⟩
end Go.Proofs.YtiaccimdjfdkgaaGreatDoor

/-
  Proofs: digits as bytes again, bytes with their count, the bytes that a word tells. (The verifier's own text.)
-/
namespace Go.Proofs.YtiaccimdjfdkgaaGreatDoor
set_option linter.unusedVariables false
set_option linter.unusedSimpArgs false
open Go.RowKit Go.Shelf Go.Proofs.YtiaccimdjfdkgaaGreatDoor.Nm

set_option maxRecDepth 100000 in
/-- data.from16, of digits that tell bytes -/
theorem from16_of (b : ByteArray) (w : World) (hb : b.size ≤ 65535) :
    Calls Tryz.prog 149 #[.string (toWB 4 d16 b)] w fun e w' => e = .returned (.tuple #[.string b, .bool true]) ∧ Below w.heap.size w w' := by
  have hz := cW_len8 dg16 b
  have HS := hide' (fun V => small_any (toWB 4 d16 b) V (by omega))
  rw [low16] at HS
  have HF : Hid (∀ V, Calls Tryz.prog 156 #[.string (toWB 4 d16 b), .string d16] V fun e w' => e = .returned (.tuple #[.string b, .bool true]) ∧ Below V.heap.size V w') := fun V => by
    have h := fromDigits4 (toWB 4 d16 b) d16 V (by omega) d16_size
    rw [fromW_to dg16 b] at h
    unfold fromEnd at h
    simp only at h
    rw [bts_lst] at h
    exact h
  generalize toWB 4 d16 b = T at *
  unfold d16 at HF
  go_enter Tryz.func149, Tryz.ntmps149
  go_wp2_with (first
    | (go_at_call 60; refine (HS.out _).mono ?_; rintro e0 w2 ⟨rfl, hB0⟩; have HB0 := hide' hB0; clear hB0)
    | (go_at_call 156; refine (HF.out _).mono ?_; rintro e1 w3 ⟨rfl, hB1⟩; have HB1 := hide' (bstep HB0.out hB1 HB0.out.size); clear hB1))
  go_ret2
  exact ⟨rfl, HB1.out⟩
theorem not3 (n : Nat) (h : n ≤ 16777216) : bits .andNot .i64 ((n : Int) + 3) 3 = ((n + fil64 n : Nat) : Int) := by
  have e0 : (n : Int) + 3 = ((n + 3 : Nat) : Int) := by omega
  have e1 : bits .andNot .i64 ((n + 3 : Nat) : Int) 3 = IntKind.i64.wrap (((BitVec.ofInt 64 ((n + 3 : Nat) : Int)) &&& ~~~ (BitVec.ofInt 64 3)).toNat : Int) := rfl
  have e2 : (BitVec.ofInt 64 ((n + 3 : Nat) : Int)).toNat = n + 3 := by
    rw [BitVec.toNat_ofInt]; omega
  have e3 : ((BitVec.ofInt 64 ((n + 3 : Nat) : Int)) &&& ~~~ (BitVec.ofInt 64 3)).toNat = (n + 3) / 4 * 4 := by
    have h1 : (BitVec.ofInt 64 ((n + 3 : Nat) : Int)) &&& ~~~ (BitVec.ofInt 64 3) = ((BitVec.ofInt 64 ((n + 3 : Nat) : Int)) >>> 2) <<< 2 := by
      apply BitVec.eq_of_getElem_eq
      intro i hi
      rcases i with _ | _ | i
      · simp
      · simp
      · have hk : ∀ j, j < 62 → (18446744073709551612#64).getLsbD (j + 1 + 1) = true := by decide +kernel
        have h5 := hk i (by omega)
        rw [BitVec.getLsbD_eq_getElem hi] at h5
        simp
        rw [h5, Bool.and_true, show 2 + i = i + 1 + 1 by omega, BitVec.getLsbD_eq_getElem hi]
        simp
    rw [h1, BitVec.toNat_shiftLeft, BitVec.toNat_ushiftRight, e2]
    simp only [Nat.shiftLeft_eq, Nat.shiftRight_eq_div_pow]
    omega
  rw [e0, e1, e3]
  unfold fil64
  simp [IntKind.wrap, IntKind.bits, IntKind.signed]
  omega
theorem trim64 (T : ByteArray) (f : Nat) (hT : ∀ j, j < T.size → bt T j ≠ 61) : (⟨(Lib.trimRightB (bts (lsB T ++ List.replicate f 61)).data.toList 61).toArray⟩ : ByteArray) = T := by
  have e : Lib.trimRightB (bts (lsB T ++ List.replicate f 61)).data.toList 61 = (bts (lsB T ++ List.replicate f 61)).data.toList.take T.size := by
    rw [bts_u8]
    refine Lib.trimRightB_take _ _ _ (by rw [u8_len, List.length_append, lsB_len]; omega) ?_ ?_
    · intro j b hj hb
      unfold u8 at hb
      rw [List.getElem?_map, List.getElem?_append_right (by rw [lsB_len]; exact hj), List.getElem?_replicate] at hb
      split at hb
      · simp at hb; exact hb.symm
      · cases hb
    · intro b h0 hb
      unfold u8 at hb
      rw [List.getElem?_map, List.getElem?_append_left (by rw [lsB_len]; omega)] at hb
      have hl : (lsB T)[T.size - 1]? = some (bt T (T.size - 1)) := by
        unfold lsB lst
        rw [List.getElem?_map, List.getElem?_range (by omega)]
        rfl
      rw [hl] at hb
      simp only [Option.map_some, Option.some.injEq] at hb
      subst hb
      have h2 := hT (T.size - 1) (by omega)
      have h3 := u8_ne (c := 61) (bt_lt T (T.size - 1)) (by omega) h2
      exact h3
  rw [e, bts_u8, u8_app, List.take_left' (by rw [u8_len, lsB_len]), u8_bts, bts_ls]
set_option maxRecDepth 100000 in
set_option maxHeartbeats 2000000 in
/-- data.from64 -/
theorem from64_of (b : ByteArray) (w : World) (hb : b.size ≤ 65535) :
    Calls Tryz.prog 243 #[.string (bts (lsB (toWB 6 d64 b) ++ List.replicate (fil64 (toWB 6 d64 b).size) 61))] w fun e w' => e = .returned (.tuple #[.string b, .bool true]) ∧ Below w.heap.size w w' := by
  have hz := cW_len8 dg64 b
  have hsz : (bts (lsB (toWB 6 d64 b) ++ List.replicate (fil64 (toWB 6 d64 b).size) 61)).size = (toWB 6 d64 b).size + fil64 (toWB 6 d64 b).size := by rw [bts_size, List.length_append, List.length_replicate, lsB_len]
  have hf3 : fil64 (toWB 6 d64 b).size ≤ 3 := by unfold fil64; omega
  have HT : Hid (∀ V, Calls Tryz.prog 244 #[.string (bts (lsB (toWB 6 d64 b) ++ List.replicate (fil64 (toWB 6 d64 b).size) 61)), .string ⟨#[61]⟩] V fun e w' => e = .returned (.string (toWB 6 d64 b)) ∧ w' = V) := fun V => by
    have h := Any.strings_TrimRight_one Tryz.lays162 (bts (lsB (toWB 6 d64 b) ++ List.replicate (fil64 (toWB 6 d64 b).size) 61)) 61 (by decide) V (by rw [hsz]; omega)
    rw [trim64 _ _ (fun j hj => (toWB_all (P := sgnD) dg64 b d64_sgn j hj).2.2.1)] at h
    exact h
  have HF : Hid (∀ V, Calls Tryz.prog 156 #[.string (toWB 6 d64 b), .string d64] V fun e w' => e = .returned (.tuple #[.string b, .bool true]) ∧ Below V.heap.size V w') := fun V => by
    have h := fromDigits6 (toWB 6 d64 b) d64 V (by omega) d64_size
    rw [fromW_to dg64 b] at h
    unfold fromEnd at h
    simp only at h
    rw [bts_lst] at h
    exact h
  have hn3 := not3 (toWB 6 d64 b).size (by omega)
  generalize bts (lsB (toWB 6 d64 b) ++ List.replicate (fil64 (toWB 6 d64 b).size) 61) = X at *
  generalize toWB 6 d64 b = T at *
  generalize fil64 T.size = f at *
  have hne : ((X.size : Int) != ((T.size + f : Nat) : Int)) = false := by rw [hsz]; exact bne_self_eq_false _
  have hXl : X.size ≤ 1000000 := by omega
  unfold d64 at HF
  clear hsz
  go_enter Tryz.func243, Tryz.ntmps243
  go_wp2_with (first
    | (go_at_call 244; refine (HT.out _).mono ?_; rintro e0 w2 ⟨rfl, hw2⟩; have hw2' := hw2.symm; subst hw2')
    | (go_at_call 156; refine (HF.out _).mono ?_; rintro e1 w3 ⟨rfl, hB1⟩; have HB1 := hide' hB1; clear hB1))
  go_ret2
  exact ⟨rfl, HB1.out⟩
end Go.Proofs.YtiaccimdjfdkgaaGreatDoor

/-
  Proofs: bytes with their count, the bytes that a word tells, words that tell bytes to the end. (The verifier's own text.)
-/
namespace Go.Proofs.YtiaccimdjfdkgaaGreatDoor
set_option linter.unusedVariables false
set_option linter.unusedSimpArgs false
open Go.RowKit Go.Shelf Go.Proofs.YtiaccimdjfdkgaaGreatDoor.Nm

set_option maxRecDepth 100000 in
/-- data.withCount -/
theorem withCount_any (v : Value) (x : ByteArray) (w : World) (hx : x.size ≤ 255) :
    Calls Tryz.prog 220 #[v, .string x] w fun e w' => e = .returned (.string (chunk x)) ∧ Below w.heap.size w w' := by
  have HM := hide' (fun v V => must_any v V)
  have hcv : (convert 56 9 (.slice (some ⟨w.heap.size, 0, none⟩) 1 1)).run Tryz.prog (w.alloc (.cells #[.int .u8 (x.size : Int)] 5)) = .ok (.string (bts [x.size])) (w.alloc (.cells #[.int .u8 (x.size : Int)] 5)) := one_b w _ x.size (by omega) (Below.refl _ _)
  have HC : Hid (chunk x = bts [x.size] ++ x) := rfl
  have hsz : (bts [x.size]).size = 1 := rfl
  obtain ⟨B, hB⟩ : ∃ B, bts [x.size] = B := ⟨_, rfl⟩
  rw [hB] at hcv hsz
  have HC2 : Hid (chunk x = B ++ x) := by unfold Hid; rw [← hB]; exact HC.out
  clear hB HC
  have hle : (x.size : Int) ≤ 255 := by omega
  have hw : IntKind.u8.wrap (x.size : Int) = (x.size : Int) := by
    simp [IntKind.wrap, IntKind.bits, IntKind.signed]
    omega
  have hov : ¬ 9223372036854775807 < B.size + x.size := by omega
  go_enter Tryz.func220, Tryz.ntmps220
  go_wp2_with (go_at_call 148; refine (HM.out _ _).mono ?_; rintro e1 w3 ⟨rfl, hw3⟩; have hw3' := hw3.symm; subst hw3')
  go_ret
  exact ⟨by rw [HC2.out]; rfl, (Below.refl _ w).alloc (Nat.le_refl _) _⟩
theorem byts_snoc (l : List Nat) (y : Nat) : byts (l ++ [y]) = byts l ++ [.int .u8 (y : Int)] := by simp [byts]
set_option maxRecDepth 100000 in
set_option maxHeartbeats 4000000 in
/-- data.readBytes, of bytes that were told -/
theorem readBytes_any (W0 : World) (L : Nat) (q : Option Addr) (c : Nat) (Z : List Wz) (o : ByteArray) (n : Nat) (z : Wz) (l : List Nat) (w : World) (h : Ln W0 L q c Z o n w) (hz : Z[n]? = some z) (ht : z.t = qtL l) (hl : ∀ x ∈ l, x < 256) (hll : l.length ≤ 65535) (hG : GD W0) :
    Calls Tryz.prog 221 #[.pointer (some ⟨L, 0, none⟩)] w fun e w' => e = .returned (.string (bts l)) ∧ Ln W0 L q c Z o (n + 1) w' ∧ Rg w w' L := by
  obtain ⟨i0, hi, hz0, hz1, hz2⟩ := info_parts Tryz.infoByte
  have HT := hide' (take_any W0 L q c Z o n z w h hz)
  rw [ht] at HT
  have HM := hide' (fun v V => must_any v V)
  have HLt : Hid (L < w.heap.size) := h.lt
  have HGl : Hid (∀ V, Below W0.heap.size W0 V → Gl V) := fun V hV => (hG.gw.below hV).errs
  have HStep : Hid (∀ k (hk : k < l.length), ∃ (x : ByteArray) (y wd : Nat), bts (qtL (l.drop k)) = x ∧ 0 < x.size ∧ x.size ≤ 1048576 ∧ pc x = (y, wd) ∧ 0 < wd ∧ wd ≤ 4 ∧ wd ≤ x.size ∧ x.extract wd x.size = bts (qtL (l.drop (k + 1))) ∧ y < 256 ∧ byts (l.take (k + 1)) = byts (l.take k) ++ [.int .u8 (y : Int)]) := fun k hk => by
    have e := List.drop_eq_getElem_cons hk
    have hy := hl _ (List.getElem_mem hk)
    have e2 : qtL (l.drop k) = shQ l[k] ++ qtL (l.drop (k + 1)) := by rw [e, qtL_cons]
    have hlt : ∀ x ∈ qtL (l.drop (k + 1)), x < 256 := qtL_lt (fun x hx => hl x (List.mem_of_mem_drop hx))
    have hp := pc_shQ hy (qtL (l.drop (k + 1))) hlt
    obtain ⟨h1, h2⟩ := shQ_len l[k]
    have h3 := (qtL_len (l.drop k)).2
    rw [List.length_drop] at h3
    have hsz : (bts (qtL (l.drop k))).size = (shQ l[k]).length + (qtL (l.drop (k + 1))).length := by rw [bts_size, e2, List.length_append]
    refine ⟨_, l[k], (shQ l[k]).length, rfl, by omega, by rw [bts_size]; omega, by rw [e2]; exact hp, h1, h2, by omega, ?_, hy, ?_⟩
    · rw [bts_drop _ _ (by rw [e2, List.length_append]; omega), e2, List.drop_left]
    · rw [List.take_add_one, List.getElem?_eq_getElem hk, Option.toList_some, byts_snoc]
  have H0 : Hid (bts (qtL l) = bts (qtL (l.drop 0))) := by rw [List.drop_zero]; exact rfl
  have HEnd : Hid (bts (qtL (l.drop l.length)) = ⟨#[]⟩) := by unfold Hid; rw [List.drop_length]; rfl
  have HTk : Hid (l.take l.length = l) := List.take_length
  have HL256 := hide' hl
  generalize bts (qtL l) = x0 at *
  have hfl : ∀ (W : World) (a b : Value), (Instr.field 121 (.agg #[a, b]) 0).run Tryz.prog W = .ok a W := fun W a b => by
    simp [Instr.field, run_underlying Tryz.underlying121, go_sem, asAgg]
    try rfl
  clear hz ht hl
  go_enter Tryz.func221, Tryz.ntmps221
  go_wp2_with (go_at_call 146; refine HT.out.mono ?_; rintro e0 w2 ⟨rfl, hL, hR⟩; have HL2 := hide' hL; have HR2 := hide' hR; have HLt2 : Hid (L < w2.heap.size) := hL.lt; clear hL hR)
  clear HT
  go_loopw [3, 4] (fun xv bv wr => ∃ (k : Nat) (x : ByteArray) (p : Option Addr) (c' : Nat), xv = .string x ∧ Hid (x = bts (qtL (l.drop k))) ∧ bv = .slice p k c' ∧ k ≤ l.length ∧ Hid (wr.ownsRow w2.heap.size 5 1 (.slice p k c') k (byts (l.take k))) ∧ Hid (Below w2.heap.size w2 wr)) (fun xv _ _ => ssz xv)
  case atStart => exact ⟨0, x0, none, 0, rfl, H0.out, rfl, Nat.zero_le _, World.ownsRow_nil _ _ _ _, Below.refl _ _⟩
  case round =>
    obtain ⟨k, x, p, c', rfl, HX, rfl, hk, HO, HB⟩ := hrel
    by_cases hlt : k < l.length
    · obtain ⟨x', y, wd, e1, h1, h2, h3, h4, h5, h6, h7, h8, h9⟩ := HStep.out k hlt
      have hxx : x = x' := by rw [HX.out, e1]
      subst hxx
      have he := isEmpty_false (r := x) (by omega)
      have HBy : Hid (∀ V, Gl V → Calls Tryz.prog 121 #[.string x] V fun e w' => e = .returned (.tuple #[.int .u8 (y : Int), .int .i64 (wd : Int)]) ∧ Below V.heap.size V w') := fun V hV => by
        have := byte_any x V h1 h2 hV
        rw [h3] at this
        exact this
      obtain ⟨R, hR⟩ : ∃ R, bts (qtL (l.drop (k + 1))) = R := ⟨_, rfl⟩
      have HR1 : Hid (R = bts (qtL (l.drop (k + 1)))) := hR.symm
      have hzR : Hid (R.size < x.size) := by unfold Hid; rw [← hR, ← h7, size_extract' _ _ _ (Nat.le_refl _)]; omega
      rw [hR] at h7
      have HE := hide' h9
      have pw : (0 : Int) < (wd : Int) := by omega
      have pw2 : (wd : Int) ≤ (x.size : Int) := by omega
      clear e1 h1 h3 h9 hR HX
      go_wp2_with (first
        | (go_at_call 121; refine (HBy.out _ (HGl.out _ (HL2.out.below HB.out).bel)).mono ?_; rintro e1 w3 ⟨rfl, hB1⟩; have HB1 := hide' (bstep HB.out hB1 HB.out.size); have HO1 := hide' (ownsRow_below HO.out hB1); clear hB1)
        | (go_at_call 148; refine (HM.out _ _).mono ?_; rintro e1 w4 ⟨rfl, hw4⟩; have hw4' := hw4.symm; subst hw4')
        | (at_builtin; refine wpList_append_own _ rfl _ _ 56 rfl w2.heap.size 5 i0 (.int .u8 0) 1 1 Tryz.underlying56 hi hz0 hz1 hz2 rfl (by decide) (.slice p k c') k (byts (l.take k)) ?_ (HO1.out.alloc _) ⟨w3.heap.size, 0, none⟩ 1 1 [.int .u8 (y : Int)] ?_ rfl (cell_one_new _ _ _) (by simp [Value.oneCell']) (by unfold maxLen; omega) (by omega) (by have := HB1.out.size; simp; omega) ?_; rfl; rfl; intro v5 w5 ho5 hg5 _; obtain ⟨g5, c5, hv5⟩ := owns_some ho5 (by omega); subst hv5; have HO5 := hide' ho5; have HB5 := hide' (below_app HB1.out (Nat.le_refl _) HO1.out hg5); clear ho5 hg5))
      refine ⟨⟨k + 1, R, _, c5, ?_, HR1, rfl, by omega, by rw [HE.out]; exact HO5, HB5⟩, hzR.out⟩
      first | rfl | (congr 1)
    · obtain rfl : k = l.length := by omega
      have hx0 : x = ⟨#[]⟩ := by rw [HX.out, HEnd.out]
      subst hx0
      have he := isEmpty_true (r := ⟨#[]⟩) rfl
      have hcv : (convert 56 9 (.slice p l.length c')).run Tryz.prog wr = .ok (.string (bts l)) wr := by
        have ho := HO.out
        rw [HTk.out] at ho
        exact str_owns ho HL256.out
      clear HX HO
      go_wp2
      go_ret
      exact ⟨rfl, HL2.out.below HB.out, HR2.out.trans (Rg.of_below HB.out L)⟩
end Go.Proofs.YtiaccimdjfdkgaaGreatDoor

/-
  Proofs: words that tell bytes to the end. (The verifier's own text.)
-/
namespace Go.Proofs.YtiaccimdjfdkgaaGreatDoor
set_option linter.unusedVariables false
set_option linter.unusedSimpArgs false
open Go.RowKit Go.Shelf Go.Proofs.YtiaccimdjfdkgaaGreatDoor.Nm

theorem ct_last {Z : List Wz} {n : Nat} {z : Wz} (hz : Z[n]? = some z) (hn : n + 1 = Z.length) : ctW (Z.drop n) = z.t ∧ (∀ j y, n ≤ j → Z[j]? = some y → y = z) ∧ ∀ k, (ctW ((Z.take k).drop n)).length ≤ z.t.length := by
  have hlt : n < Z.length := by omega
  have hd : Z.drop n = [z] := by
    rw [List.drop_eq_getElem_cons hlt, List.drop_eq_nil_of_le (by omega)]
    rw [List.getElem?_eq_getElem hlt] at hz
    simp only [Option.some.injEq] at hz
    rw [hz]
  refine ⟨by rw [hd]; simp [ctW], fun j y hj hy => ?_, fun k => ?_⟩
  · have : j < Z.length := (List.getElem?_eq_some_iff.1 hy).1
    have : j = n := by omega
    subst this
    rw [hz] at hy
    exact (Option.some.inj hy).symm
  · by_cases hk : k ≤ n
    · rw [List.drop_eq_nil_of_le (by rw [List.length_take]; omega)]; simp [ctW]
    · rw [List.take_of_length_le (by omega), hd]; simp [ctW]
set_option maxRecDepth 100000 in
set_option maxHeartbeats 4000000 in
/-- data.readToEnd over data.from16 -/
theorem toEnd16_any (W0 : World) (L : Nat) (q : Option Addr) (c : Nat) (Z : List Wz) (o : ByteArray) (n : Nat) (z : Wz) (b : ByteArray) (w : World) (h : Ln W0 L q c Z o n w) (hz : Z[n]? = some z) (hn : n + 1 = Z.length) (hq : z.q = false) (ht : z.t = lsB (toWB 4 d16 b)) (hb : b.size ≤ 65535) (h0 : 0 < b.size) :
    Calls Tryz.prog 235 #[.pointer (some ⟨L, 0, none⟩), .func (Fn.func 149) #[] #[]] w fun e w' => e = .returned (.string b) ∧ Ln W0 L q c Z o (n + 1) w' ∧ Rg w w' L := by
  have hz8 := cW_len8 dg16 b
  obtain ⟨c1, c2, c3⟩ := ct_last hz hn
  have hf3 : fil64 (toWB 6 d64 b).size ≤ 3 := by unfold fil64; omega
  have hsz : z.t.length ≤ 16777216 := by
    rw [ht]
    rw [lsB_len]; omega
  have HT := hide' (together_any W0 L q c Z o n w h (by omega) (fun j y hj hy => by rw [c2 j y hj hy]; exact hq) (fun k => Nat.le_trans (c3 k) hsz))
  rw [c1, ht, ← hn] at HT
  have HF : Hid (∀ V, Calls Tryz.prog 149 #[.string (bts (lsB (toWB 4 d16 b)))] V fun e w' => e = .returned (.tuple #[.string b, .bool true]) ∧ Below V.heap.size V w') := fun V => by
    rw [bts_ls]
    exact from16_of b V hb
  have cx := h.c2
  have he := isEmpty_false (r := b) h0
  generalize bts (lsB (toWB 4 d16 b)) = X at *
  clear c1 c2 c3 hz hn hq ht hsz hz8 hf3
  go_enter Tryz.func235, Tryz.ntmps235
  go_wp2_with (first
    | (go_at_call 150; refine HT.out.mono ?_; rintro e0 w2 ⟨rfl, hL, hR⟩; have HL2 := hide' hL; have HR2 := hide' hR; clear hL hR)
    | (go_at_call 149; refine (HF.out _).mono ?_; rintro e1 w3 ⟨rfl, hB1⟩; have HL3 := hide' (HL2.out.below hB1); have HR3 := hide' (HR2.out.trans (Rg.of_below hB1 L)); clear hB1))
  go_ret
  exact ⟨rfl, HL3.out, HR3.out⟩
set_option maxRecDepth 100000 in
set_option maxHeartbeats 4000000 in
/-- data.readToEnd over data.from64 -/
theorem toEnd64_any (W0 : World) (L : Nat) (q : Option Addr) (c : Nat) (Z : List Wz) (o : ByteArray) (n : Nat) (z : Wz) (b : ByteArray) (w : World) (h : Ln W0 L q c Z o n w) (hz : Z[n]? = some z) (hn : n + 1 = Z.length) (hq : z.q = false) (ht : z.t = lsB (toWB 6 d64 b) ++ List.replicate (fil64 (toWB 6 d64 b).size) 61) (hb : b.size ≤ 65535) (h0 : 0 < b.size) :
    Calls Tryz.prog 235 #[.pointer (some ⟨L, 0, none⟩), .func (Fn.func 243) #[] #[]] w fun e w' => e = .returned (.string b) ∧ Ln W0 L q c Z o (n + 1) w' ∧ Rg w w' L := by
  have hz8 := cW_len8 dg64 b
  obtain ⟨c1, c2, c3⟩ := ct_last hz hn
  have hf3 : fil64 (toWB 6 d64 b).size ≤ 3 := by unfold fil64; omega
  have hsz : z.t.length ≤ 16777216 := by
    rw [ht]
    rw [List.length_append, List.length_replicate, lsB_len]; omega
  have HT := hide' (together_any W0 L q c Z o n w h (by omega) (fun j y hj hy => by rw [c2 j y hj hy]; exact hq) (fun k => Nat.le_trans (c3 k) hsz))
  rw [c1, ht, ← hn] at HT
  have HF : Hid (∀ V, Calls Tryz.prog 243 #[.string (bts (lsB (toWB 6 d64 b) ++ List.replicate (fil64 (toWB 6 d64 b).size) 61))] V fun e w' => e = .returned (.tuple #[.string b, .bool true]) ∧ Below V.heap.size V w') := fun V => by
    exact from64_of b V hb
  have cx := h.c2
  have he := isEmpty_false (r := b) h0
  generalize bts (lsB (toWB 6 d64 b) ++ List.replicate (fil64 (toWB 6 d64 b).size) 61) = X at *
  clear c1 c2 c3 hz hn hq ht hsz hz8 hf3
  go_enter Tryz.func235, Tryz.ntmps235
  go_wp2_with (first
    | (go_at_call 150; refine HT.out.mono ?_; rintro e0 w2 ⟨rfl, hL, hR⟩; have HL2 := hide' hL; have HR2 := hide' hR; clear hL hR)
    | (go_at_call 243; refine (HF.out _).mono ?_; rintro e1 w3 ⟨rfl, hB1⟩; have HL3 := hide' (HL2.out.below hB1); have HR3 := hide' (HR2.out.trans (Rg.of_below hB1 L)); clear hB1))
  go_ret
  exact ⟨rfl, HL3.out, HR3.out⟩
end Go.Proofs.YtiaccimdjfdkgaaGreatDoor
