import Derived.Test.YtfacfhigehdejaaGreatDoorDbdG
import Derived.Shelf.RegionOpen
import Derived.WalkKit
import Derived.WalkSpells
import Derived.WalkLawsBesides
import Derived.OwnWalkIn
import Derived.BigQuiet
import Derived.Deep.QuietTactic
import Derived.Deep.RegionHeld3
import Derived.Test.YtfacfhigehdejaaGreatDoorNs1G
/-
  Proofs: a line of words under way: more, take, plain, must. (The verifier's own text.)
-/
namespace Go.Proofs.YtfacfhigehdejaaGreatDoor
set_option linter.unusedVariables false
set_option linter.unusedSimpArgs false
open Go.RowKit Go.Shelf Go.Proofs.YtfacfhigehdejaaGreatDoor.Nm

/-- a line in memory: its words, its origin, how far it was read -/
structure Ln (W0 : World) (L : Nat) (q : Option Addr) (c : Nat) (Z : List Wz) (o : ByteArray) (n : Nat) (w : World) : Prop where
  blk : w.heap[L]? = some (.cells #[.slice q Z.length c, .string o, .int .i64 (n : Int)] 54 (0, 0))
  bel : Below W0.heap.size W0 w
  ge : W0.heap.size ≤ L
  row : ∀ j (z : Wz), Z[j]? = some z → ∃ b, q = some ⟨b, 0, none⟩ ∧ W0.cell? ⟨b, j * 2, none⟩ = some (.string (bts z.t)) ∧ W0.cell? ⟨b, j * 2 + 1, none⟩ = some (.bool z.q)
  len : Z.length ≤ 16777216
  cap : Z.length ≤ c ∧ c ≤ 9223372036854775807
section
variable {W0 : World} {L : Nat} {q : Option Addr} {c : Nat} {Z : List Wz} {o : ByteArray} {n : Nat} {w : World}
theorem Ln.lt (h : Ln W0 L q c Z o n w) : L < w.heap.size := (Array.getElem?_eq_some_iff.1 h.blk).1
theorem Ln.c0 (h : Ln W0 L q c Z o n w) : w.cell? ⟨L, 0, none⟩ = some (.slice q Z.length c) := by have := h.blk; simp [World.cell?, this]
theorem Ln.c1 (h : Ln W0 L q c Z o n w) : w.cell? ⟨L, 1, none⟩ = some (.string o) := by have := h.blk; simp [World.cell?, this]
theorem Ln.c2 (h : Ln W0 L q c Z o n w) : w.cell? ⟨L, 2, none⟩ = some (.int .i64 (n : Int)) := by have := h.blk; simp [World.cell?, this]
theorem Ln.free (h : Ln W0 L q c Z o n w) (j : Nat) : w.frozen? ⟨L, j, none⟩ = false := by have := h.blk; simp [World.frozen?, this]
theorem Ln.drewN (h : Ln W0 L q c Z o n w) (m : Nat) : Ln W0 L q c Z o n (w.drewN m) := ⟨h.blk, below_drewN h.bel m, h.ge, h.row, h.len, h.cap⟩
theorem Ln.below {w' : World} (h : Ln W0 L q c Z o n w) (hb : Below w.heap.size w w') : Ln W0 L q c Z o n w' := ⟨(hb.block L h.lt).trans h.blk, bstep h.bel hb h.bel.size, h.ge, h.row, h.len, h.cap⟩
theorem Ln.set (h : Ln W0 L q c Z o n w) (n' : Nat) : Ln W0 L q c Z o n' (w.setCell ⟨L, 2, none⟩ (.int .i64 (n' : Int))) := by
  refine ⟨?_, h.bel.setCell (p := ⟨L, 2, none⟩) h.ge _, h.ge, h.row, h.len, h.cap⟩
  have := h.blk
  simp [World.setCell, Array.getElem?_modify, this]
theorem Ln.at (h : Ln W0 L q c Z o n w) {j : Nat} {z : Wz} (hz : Z[j]? = some z) : ∃ b, q = some ⟨b, 0, none⟩ ∧ w.cell? ⟨b, j * 2, none⟩ = some (.string (bts z.t)) ∧ w.cell? ⟨b, j * 2 + 1, none⟩ = some (.bool z.q) ∧ b < W0.heap.size := by
  obtain ⟨b, h1, h2, h3⟩ := h.row j z hz
  have hb : b < W0.heap.size := Lib.lt_of_cell h2
  exact ⟨b, h1, (h.bel.cell (p := ⟨b, j * 2, none⟩) hb).trans h2, (h.bel.cell (p := ⟨b, j * 2 + 1, none⟩) hb).trans h3, hb⟩
theorem Ln.other {B : Nat} (h : Ln W0 L q c Z o n w) (hB : B ≠ L) (hge : W0.heap.size ≤ B) (j : Nat) (v : Value) : Ln W0 L q c Z o n (w.setCell ⟨B, j, none⟩ v) := by
  refine ⟨?_, h.bel.setCell (p := ⟨B, j, none⟩) hge _, h.ge, h.row, h.len, h.cap⟩
  rw [Below.heap_setCell _ _ _ _ (by show L ≠ B; omega)]
  exact h.blk
theorem Ln.drew (h : Ln W0 L q c Z o n w) : Ln W0 L q c Z o n w.drew := h.drewN 1
/-- what reading does to the world -/
def Rg (w w' : World) (L : Nat) : Prop := w.grownBy w' (some L)
theorem Rg.refl (w : World) (L : Nat) : Rg w w L := ⟨rfl, rfl, rfl, Nat.le_refl _, fun _ _ _ => rfl⟩
theorem Rg.trans {a b c : World} {L : Nat} (h : Rg a b L) (k : Rg b c L) : Rg a c L :=
  ⟨k.os.trans h.os, k.tape.trans h.tape, k.output.trans h.output, Nat.le_trans h.size k.size, fun j hj hne => (k.block j (Nat.lt_of_lt_of_le hj h.size) hne).trans (h.block j hj hne)⟩
theorem Rg.of_below {w w' : World} (h : Below w.heap.size w w') (L : Nat) : Rg w w' L := ⟨h.os, h.tape, h.output, h.size, fun k hk _ => h.block k hk⟩
theorem Rg.set (w : World) (L j : Nat) (u : Value) : Rg w (w.setCell ⟨L, j, none⟩ u) L :=
  ⟨rfl, rfl, rfl, by simp [World.setCell], fun b hb hne => Below.heap_setCell _ _ _ b (by show b ≠ L; exact fun e => hne (by rw [e]))⟩
theorem Rg.new {w w' : World} {L B : Nat} (h : Rg w w' L) (hB : w.heap.size ≤ B) (j : Nat) (u : Value) : Rg w (w'.setCell ⟨B, j, none⟩ u) L :=
  ⟨h.os, h.tape, h.output, by simpa [World.setCell] using h.size, fun b hb hne => (Below.heap_setCell _ _ _ b (by show b ≠ B; omega)).trans (h.block b hb hne)⟩
theorem Rg.drew {w w' : World} {L : Nat} (h : Rg w w' L) : Rg w w'.drew L := ⟨h.os, h.tape, h.output, h.size, h.block⟩
theorem Rg.below {w w' w0 : World} {L : Nat} (h : Rg w w' L) (hb : Below w0.heap.size w0 w) (hL : w0.heap.size ≤ L) : Below w0.heap.size w0 w' :=
  ⟨h.os.trans hb.os, h.tape.trans hb.tape, h.output.trans hb.output, Nat.le_trans hb.size h.size, fun j hj => (h.block j (Nat.lt_of_lt_of_le hj hb.size) (by intro e; injection e with e; omega)).trans (hb.block j hj)⟩
end
set_option maxRecDepth 100000 in
/-- (*line).more -/
theorem lmore_any (W0 : World) (L : Nat) (q : Option Addr) (c : Nat) (Z : List Wz) (o : ByteArray) (n : Nat) (w : World) (h : Ln W0 L q c Z o n w) (hn : n ≤ Z.length) :
    Calls Tryz.prog 33 #[.pointer (some ⟨L, 0, none⟩)] w fun e w' => e = .returned (.bool (decide (n < Z.length))) ∧ ∃ m, w' = w.drewN m := by
  have c0 := h.c0
  have c2 := h.c2
  have hl := h.len
  have hc := h.cap.1
  have hc2 := h.cap.2
  have HD : Hid (decide ((n : Int) < (Z.length : Int)) = decide (n < Z.length)) := by unfold Hid; simp
  go_enter Tryz.func33, Tryz.ntmps33
  go_wp2_with fail
  go_quiet (fail)
  go_wp2
  go_ret
  exact ⟨by rw [← HD.out]; rfl, _, rfl⟩
/-- (*line).must -/
theorem must_any (v : Value) (w : World) : Calls Tryz.prog 43 #[v, .bool true] w fun e w' => e = .returned (.tuple #[]) ∧ w' = w := by
  go_enter Tryz.func43, Tryz.ntmps43
  go_wp2
  go_end0
  exact ⟨rfl, rfl⟩
set_option maxRecDepth 100000 in
set_option maxHeartbeats 4000000 in
/-- (*line).take -/
theorem take_any (W0 : World) (L : Nat) (q : Option Addr) (c : Nat) (Z : List Wz) (o : ByteArray) (n : Nat) (z : Wz) (w : World) (h : Ln W0 L q c Z o n w) (hz : Z[n]? = some z) :
    Calls Tryz.prog 41 #[.pointer (some ⟨L, 0, none⟩)] w fun e w' => e = .returned (.agg #[.string (bts z.t), .bool z.q]) ∧ Ln W0 L q c Z o (n + 1) w' ∧ Rg w w' L := by
  have hlt : n < Z.length := (List.getElem?_eq_some_iff.1 hz).1
  obtain ⟨wa, hwa⟩ : ∃ wa, w.alloc (.cells #[.string ⟨#[]⟩, .bool false] 59) = wa := ⟨_, rfl⟩
  have hBa : Below w.heap.size w wa := hwa ▸ (Below.refl _ w).alloc (Nat.le_refl _) _
  have HLa := hide' (h.below hBa)
  have HBa := hide' hBa
  have HM : Hid (∀ V, Ln W0 L q c Z o n V → Calls Tryz.prog 33 #[.pointer (some ⟨L, 0, none⟩)] V fun e w' => e = .returned (.bool true) ∧ ∃ m, w' = V.drewN m) := fun V hV => by
    have := lmore_any W0 L q c Z o n V hV (by omega)
    rw [decide_eq_true hlt] at this
    exact this
  have hl := h.len
  go_enter Tryz.func41, Tryz.ntmps41
  go_wp2_with (go_at_call 33; refine (HM.out _ HLa.out).mono ?_; rintro e0 w2 ⟨rfl, m, hw2⟩; have hw2' := hw2; subst hw2'; have hm2 := (HLa.out.drewN m).c2; have hmf := (HLa.out.drewN m).free 2)
  have HLs : Hid (Ln W0 L q c Z o (n + 1) ((wa.drewN m).setCell ⟨L, 2, none⟩ (.int .i64 ((n : Int) + 1)))) := (HLa.out.drewN m).set (n + 1)
  have HRs : Hid (Rg w ((wa.drewN m).setCell ⟨L, 2, none⟩ (.int .i64 ((n : Int) + 1))) L) := (Rg.of_below (below_drewN HBa.out m) L).trans (Rg.set _ _ _ _)
  have HBx : Hid (((wa.drewN m).setCell ⟨L, 2, none⟩ (.int .i64 ((n : Int) + 1))).heap[w.heap.size]? = some (.cells #[.string ⟨#[]⟩, .bool false] 59 (0, 0))) := by
    have hne : L ≠ w.heap.size := by have := h.lt; omega
    unfold Hid
    rw [Below.heap_setCell _ _ _ _ (by show w.heap.size ≠ L; omega), ← hwa]
    exact World.alloc_heap_new w _
  obtain ⟨ws, hws⟩ : ∃ ws, (wa.drewN m).setCell ⟨L, 2, none⟩ (.int .i64 ((n : Int) + 1)) = ws := ⟨_, rfl⟩
  rw [hws] at HLs HRs HBx ⊢
  clear hws hm2 hmf HM HBa HLa hBa hwa
  obtain ⟨b, rfl, z0, z1, hb⟩ := HLs.out.at hz
  have c0 := HLs.out.c0
  have c2 := HLs.out.c2
  have x0 : ws.cell? ⟨w.heap.size, 0, none⟩ = some (.string ⟨#[]⟩) := by have := HBx.out; simp [World.cell?, this]
  have x1 : ws.cell? ⟨w.heap.size, 1, none⟩ = some (.bool false) := by have := HBx.out; simp [World.cell?, this]
  have f0 : ws.frozen? ⟨w.heap.size, 0, none⟩ = false := by have := HBx.out; simp [World.frozen?, this]
  have f1 : ws.frozen? ⟨w.heap.size, 1, none⟩ = false := by have := HBx.out; simp [World.frozen?, this]
  have y0 : ws.drew.cell? ⟨w.heap.size, 0, none⟩ = some (.string ⟨#[]⟩) := x0
  have y1 : ws.drew.cell? ⟨w.heap.size, 1, none⟩ = some (.bool false) := x1
  have g0 : ws.drew.frozen? ⟨w.heap.size, 0, none⟩ = false := f0
  have g1 : ws.drew.frozen? ⟨w.heap.size, 1, none⟩ = false := f1
  obtain ⟨N, hN⟩ : ∃ N, n + 1 = N := ⟨_, rfl⟩
  have hwr : IntKind.i64.wrap ((N : Int) - 1) = (n : Int) := by rw [wrap_nn _ (by omega) (by have := h.len; omega)]; omega
  rw [hN] at c2
  have HN := hide' hN
  clear hN
  have pn0 : (0 : Int) ≤ (n : Int) := by omega
  have pn1 : (n : Int) < (Z.length : Int) := by omega
  have hne : L ≠ w.heap.size := by have := h.lt; omega
  have hnb : b ≠ w.heap.size := by have := h.bel.size; omega
  have hSb : ∀ (B j : Nat) (v : Value), B ≠ w.heap.size → ws.cell? ⟨B, j, none⟩ = some v → (((ws.setCell ⟨w.heap.size, 0, none⟩ (.string (bts z.t))).setCell ⟨w.heap.size, 1, none⟩ (.bool z.q)).drew).cell? ⟨B, j, none⟩ = some v := fun B j v hB hv => by
    show ((ws.setCell ⟨w.heap.size, 0, none⟩ (.string (bts z.t))).setCell ⟨w.heap.size, 1, none⟩ (.bool z.q)).cell? ⟨B, j, none⟩ = some v
    rw [World.cell?_setCell_other _ _ _ _ (fun e => hB (congrArg Addr.block e).symm), World.cell?_setCell_other _ _ _ _ (fun e => hB (congrArg Addr.block e).symm)]
    exact hv
  have HZs := hide' (And.intro (hSb L 0 _ hne c0) (And.intro (hSb L 2 _ hne c2) (And.intro (hSb b (n * 2) _ hnb z0) (hSb b (n * 2 + 1) _ hnb z1))))
  clear hSb hne hnb
  go_region_held3 (fun V => V.cell? ⟨L, 0, none⟩ = some (.slice (some ⟨b, 0, none⟩) Z.length c) ∧ V.cell? ⟨L, 2, none⟩ = some (.int .i64 (N : Int)) ∧ V.cell? ⟨b, n * 2, none⟩ = some (.string (bts z.t)) ∧ V.cell? ⟨b, n * 2 + 1, none⟩ = some (.bool z.q)) (first | with_reducible exact HZs.out | go_keep) (fail)
  go_wp2_with fail
  have hge : W0.heap.size ≤ w.heap.size := h.bel.size
  have hne : w.heap.size ≠ L := by have := h.lt; omega
  have HLf := hide' (((HLs.out.other hne hge 0 (.string (bts z.t))).other hne hge 1 (.bool z.q)).drew)
  have HRf := hide' (((HRs.out.new (Nat.le_refl _) 0 (.string (bts z.t))).new (Nat.le_refl _) 1 (.bool z.q)).drew)
  have t0 : (((ws.setCell ⟨w.heap.size, 0, none⟩ (.string (bts z.t))).setCell ⟨w.heap.size, 1, none⟩ (.bool z.q)).drew).cell? ⟨w.heap.size, 0, none⟩ = some (.string (bts z.t)) := by
    show ((ws.setCell ⟨w.heap.size, 0, none⟩ (.string (bts z.t))).setCell ⟨w.heap.size, 1, none⟩ (.bool z.q)).cell? ⟨w.heap.size, 0, none⟩ = _
    rw [World.cell?_setCell_other _ _ _ _ (fun e => by injection e with _ e2; cases e2), World.cell?_setCell_same' _ _ _ (by rw [x0]; rfl)]
  have t1 : (((ws.setCell ⟨w.heap.size, 0, none⟩ (.string (bts z.t))).setCell ⟨w.heap.size, 1, none⟩ (.bool z.q)).drew).cell? ⟨w.heap.size, 1, none⟩ = some (.bool z.q) := by
    show ((ws.setCell ⟨w.heap.size, 0, none⟩ (.string (bts z.t))).setCell ⟨w.heap.size, 1, none⟩ (.bool z.q)).cell? ⟨w.heap.size, 1, none⟩ = _
    rw [World.cell?_setCell_same' _ _ _ (by rw [World.cell?_setCell_other _ _ _ _ (fun e => by injection e with _ e2; cases e2), x1]; rfl)]
  generalize ((ws.setCell ⟨w.heap.size, 0, none⟩ (.string (bts z.t))).setCell ⟨w.heap.size, 1, none⟩ (.bool z.q)).drew = wf at *
  exact bodyPost_ret (v := .agg #[.string (bts z.t), .bool z.q]) (by simp [results, go_sem, t0, t1]) rfl ⟨rfl, HLf.out, HRf.out⟩
end Go.Proofs.YtfacfhigehdejaaGreatDoor

/-
  Proofs: the next word that stands without quotes, all words that are left; builders. (The verifier's own text.)
-/
namespace Go.Proofs.YtfacfhigehdejaaGreatDoor
set_option linter.unusedVariables false
set_option linter.unusedSimpArgs false
open Go.RowKit Go.Shelf Go.Proofs.YtfacfhigehdejaaGreatDoor.Nm

section
variable {W0 : World} {L : Nat} {q : Option Addr} {c : Nat} {Z : List Wz} {o : ByteArray} {n : Nat} {w : World}
theorem Ln.belowB {w' : World} {B : Nat} (h : Ln W0 L q c Z o n w) (hb : Below B w w') (hB : L < B) : Ln W0 L q c Z o n w' := by
  have h1 := h.ge
  refine ⟨(hb.block L hB).trans h.blk, h.bel.trans (hb.mono (by omega)), h.ge, h.row, h.len, h.cap⟩
theorem Rg.belowB {w0 w w' : World} {L B : Nat} (h : Rg w0 w L) (hb : Below B w w') (hB : w0.heap.size ≤ B) : Rg w0 w' L :=
  ⟨hb.os.trans h.os, hb.tape.trans h.tape, hb.output.trans h.output, Nat.le_trans h.size hb.size, fun k hk hne => (hb.block k (by omega)).trans (h.block k hk hne)⟩
end
set_option maxRecDepth 100000 in
set_option maxHeartbeats 4000000 in
/-- (*line).plain -/
theorem plain_any (W0 : World) (L : Nat) (q : Option Addr) (c : Nat) (Z : List Wz) (o : ByteArray) (n : Nat) (z : Wz) (w : World) (h : Ln W0 L q c Z o n w) (hz : Z[n]? = some z) (hq : z.q = false) :
    Calls Tryz.prog 42 #[.pointer (some ⟨L, 0, none⟩)] w fun e w' => e = .returned (.string (bts z.t)) ∧ Ln W0 L q c Z o (n + 1) w' ∧ Rg w w' L := by
  have HT := hide' (take_any W0 L q c Z o n z w h hz)
  rw [hq] at HT
  have HM := hide' (fun v V => must_any v V)
  generalize bts z.t = T at *
  clear hz hq
  go_enter Tryz.func42, Tryz.ntmps42
  go_wp2_with (first
    | (go_at_call 41; refine HT.out.mono ?_; rintro e0 w2 ⟨rfl, hL, hR⟩; have HL2 := hide' hL; have HR2 := hide' hR; clear hL hR)
    | (go_at_call 43; refine (HM.out _ _).mono ?_; rintro e1 w3 ⟨rfl, hw3⟩; have hw3' := hw3.symm; subst hw3'))
  go_ret
  exact ⟨rfl, HL2.out.below ((Below.refl _ w2).alloc (Nat.le_refl _) _), HR2.out.trans (Rg.of_below ((Below.refl _ w2).alloc (Nat.le_refl _) _) L)⟩
/-- a builder that holds a text -/
def Bd (B b : Nat) (x : ByteArray) (w : World) : Prop := Lib.IsBuilderF 71 5 B b (Lib.byteCells x.data.toList) w ∧ B ≤ w.heap.size
theorem byteCells_app (x y : ByteArray) : Lib.byteCells x.data.toList ++ Lib.strCells y = Lib.byteCells (x ++ y).data.toList := by
  simp [Lib.byteCells, Lib.strCells]
theorem Bd.new (w : World) : Bd w.heap.size w.heap.size ⟨#[]⟩ (w.alloc (.cells #[.pointer none, .slice none 0 0] 71)) :=
  ⟨.inl ⟨Nat.le_refl _, .slice none 0 0, World.alloc_heap_new _ _, World.ownsRowF_nil _ _ _ _, by simp [Value.ownBlock]⟩, by simp⟩
theorem Bd.kept {B b : Nat} {x : ByteArray} {w w' : World} (h : Bd B b x w) (hb : ∀ g, B ≤ g → g < w.heap.size → w'.heap[g]? = w.heap[g]?) (hs : w.heap.size ≤ w'.heap.size) : Bd B b x w' := by
  refine ⟨?_, Nat.le_trans h.2 hs⟩
  have key : ∀ p, Lib.BuilderAtF 71 5 B b p (Lib.byteCells x.data.toList) w → Lib.BuilderAtF 71 5 B b p (Lib.byteCells x.data.toList) w' := fun p hp => by
    obtain ⟨hB, v, hg, ⟨hl, ho⟩, hne⟩ := hp
    refine ⟨hB, v, (hb b hB (Array.getElem?_eq_some_iff.1 hg).1).trans hg, ⟨hl, ?_⟩, hne⟩
    rcases ho with ho | ⟨g, cap, cur, fz, h1, h2, h3, h4⟩
    · exact .inl ho
    · exact .inr ⟨g, cap, cur, fz, h1, h2, (hb g h2 (Array.getElem?_eq_some_iff.1 h3).1).trans h3, h4⟩
  rcases h.1 with h | h
  · exact .inl (key _ h)
  · exact .inr (key _ h)
theorem Bd.below {B b : Nat} {x : ByteArray} {w w' : World} (h : Bd B b x w) (hb : Below w.heap.size w w') : Bd B b x w' := h.kept (fun g _ hg => hb.block g hg) hb.size
theorem Bd.rg {B b : Nat} {x : ByteArray} {w w' : World} {L : Nat} (h : Bd B b x w) (hr : Rg w w' L) (hL : L < B) : Bd B b x w' := h.kept (fun g h1 hg => hr.block g hg (fun e => by injection e with e; omega)) hr.size
theorem bwrite_any (B b : Nat) (x s : ByteArray) (w : World) (h : Bd B b x w) (hl : x.size + s.size ≤ 1073741824) :
    Calls Tryz.prog 29 #[.pointer (some ⟨b, 0, none⟩), .string s] w fun e w' => e = .returned (.tuple #[.int .i64 s.size, .nilIface]) ∧ Bd B b (x ++ s) w' ∧ Below B w w' := by
  have hx : (Lib.byteCells x.data.toList).length = x.size := by rw [Lib.byteCells_length, Array.length_toList]; rfl
  refine (writeString_any B b _ s w h.1 (by omega) h.2).mono ?_
  rintro e w' ⟨rfl, h1, h2, -⟩
  rw [byteCells_app] at h1
  exact ⟨rfl, ⟨.inr h1, Nat.le_trans h.2 h2.size⟩, h2⟩
theorem bstring_any (B b : Nat) (x : ByteArray) (w : World) (h : Bd B b x w) :
    Calls Tryz.prog 30 #[.pointer (some ⟨b, 0, none⟩)] w fun e w' => e = .returned (.string x) ∧ Bd B b x w' ∧ Below B w w' := by
  refine (builderString_any B b x.data.toList w h.1 h.2).mono ?_
  rintro e w' ⟨rfl, h1, h2, -⟩
  exact ⟨rfl, ⟨h1, Nat.le_trans h.2 h2.size⟩, h2⟩
/-- the texts of words -/
def ctW (Z : List Wz) : List Nat := Z.flatMap (·.t)
theorem ctW_step {Z : List Wz} {n k : Nat} {z : Wz} (h : Z[k]? = some z) (hn : n ≤ k) : ctW ((Z.take (k + 1)).drop n) = ctW ((Z.take k).drop n) ++ z.t := by
  rw [List.take_add_one, h, Option.toList_some, List.drop_append, List.length_take]
  have hk : k < Z.length := (List.getElem?_eq_some_iff.1 h).1
  rw [show n - min k Z.length = 0 by omega, List.drop_zero]
  unfold ctW
  rw [List.flatMap_append]
  simp
set_option maxRecDepth 100000 in
set_option maxHeartbeats 4000000 in
/-- (*line).together -/
theorem together_any (W0 : World) (L : Nat) (q : Option Addr) (c : Nat) (Z : List Wz) (o : ByteArray) (n : Nat) (w : World) (h : Ln W0 L q c Z o n w) (hn : n ≤ Z.length) (hq : ∀ j z, n ≤ j → Z[j]? = some z → z.q = false) (hl : ∀ k, (ctW ((Z.take k).drop n)).length ≤ 16777216) :
    Calls Tryz.prog 45 #[.pointer (some ⟨L, 0, none⟩)] w fun e w' => e = .returned (.string (bts (ctW (Z.drop n)))) ∧ Ln W0 L q c Z o Z.length w' ∧ Rg w w' L := by
  have HM : Hid (∀ (k : Nat) (V : World), k ≤ Z.length → Ln W0 L q c Z o k V → Calls Tryz.prog 33 #[.pointer (some ⟨L, 0, none⟩)] V fun e w' => e = .returned (.bool (decide (k < Z.length))) ∧ ∃ m, w' = V.drewN m) := fun k V hk hV => lmore_any W0 L q c Z o k V hV hk
  have HP : Hid (∀ (k : Nat) (z : Wz) (V : World), Ln W0 L q c Z o k V → n ≤ k → Z[k]? = some z → Calls Tryz.prog 42 #[.pointer (some ⟨L, 0, none⟩)] V fun e w' => e = .returned (.string (bts z.t)) ∧ Ln W0 L q c Z o (k + 1) w' ∧ Rg V w' L) := fun k z V hV hk hz => plain_any W0 L q c Z o k z V hV hz (hq k z hk hz)
  have HB0 := hide' (Bd.new w)
  have HBa : Hid (Below w.heap.size w (w.alloc (.cells #[.pointer none, .slice none 0 0] 71))) := (Below.refl _ w).alloc (Nat.le_refl _) _
  have HLa := hide' (h.below HBa.out)
  have HLt : Hid (L < w.heap.size) := h.lt
  have HLe := hide' hl
  clear hq hl
  go_enter Tryz.func45, Tryz.ntmps45
  go_wp2_with fail
  go_loopw [4] (fun _ wr => ∃ k : Nat, n ≤ k ∧ k ≤ Z.length ∧ Hid (Ln W0 L q c Z o k wr) ∧ Hid (Bd w.heap.size w.heap.size (bts (ctW ((Z.take k).drop n))) wr) ∧ Hid (Rg w wr L))
    (fun _ wr => Z.length - (match wr.cell? ⟨L, 2, none⟩ with | some (.int _ n) => n.toNat | _ => 0))
  case atStart => exact ⟨n, Nat.le_refl _, hn, HLa.out, (by rw [List.drop_eq_nil_of_le (by rw [List.length_take]; omega)]; exact HB0.out), Rg.of_below HBa.out L⟩
  case round =>
    clear HB0 HBa HLa
    obtain ⟨k, hnk, hk, HL, HB, HR⟩ := hrel
    have HMs := hide' HL.out.c2
    have HM1 := hide' (HM.out k wr hk HL.out)
    by_cases hlt : k < Z.length
    · rw [decide_eq_true hlt] at HM1
      obtain ⟨z, hz⟩ : ∃ z, Z[k]? = some z := ⟨_, List.getElem?_eq_getElem hlt⟩
      have HS := hide' (ctW_step hz hnk)
      have HP1 := hide' (fun V hV => HP.out k z V hV hnk hz)
      have HLe1 := hide' (HLe.out (k + 1))
      have HLe0 := hide' (HLe.out k)
      clear hz
      have HSz : Hid ((bts (ctW ((Z.take k).drop n))).size + (bts z.t).size ≤ 1073741824) := by
        unfold Hid
        have h1 := HLe1.out
        rw [HS.out, List.length_append] at h1
        rw [bts_size, bts_size]; omega
      have HA : Hid (bts (ctW ((Z.take (k + 1)).drop n)) = bts (ctW ((Z.take k).drop n)) ++ bts z.t) := by unfold Hid; rw [HS.out, bts_append]
      go_wp2_with (first
        | (go_at_call 33; refine HM1.out.mono ?_; rintro e0 w2 ⟨rfl, m, hw2⟩; have hw2' := hw2; subst hw2')
        | (go_at_call 42; refine (HP1.out _ (HL.out.drewN m)).mono ?_; rintro e1 w3 ⟨rfl, hL, hR⟩; have HL3 := hide' hL; have HR3 := hide' (HR.out.trans ((Rg.of_below (below_drewN (Below.refl _ _) m) L).trans hR)); have HB3 := hide' ((HB.out.below (below_drewN (Below.refl _ _) m)).rg hR HLt.out); clear hL hR)
        | (go_at_call 29; refine (bwrite_any _ _ _ _ _ HB3.out HSz.out).mono ?_; rintro e2 w4 ⟨rfl, hB4, hb4⟩; have HL4 := hide' (HL3.out.belowB hb4 HLt.out); have HR4 := hide' (HR3.out.belowB hb4 (Nat.le_refl _)); have HB4 := hide' hB4; clear hB4 hb4))
      go_roundw
      case rel => exact ⟨k + 1, by omega, by omega, HL4, (by rw [HA.out]; exact HB4), HR4⟩
      case measure =>
        rw [HMs.out, HL4.out.c2]
        simp; omega
    · obtain rfl : k = Z.length := by omega
      rw [decide_eq_false hlt] at HM1
      have HE : Hid (ctW ((Z.take Z.length).drop n) = ctW (Z.drop n)) := by unfold Hid; rw [List.take_length]
      go_wp2_with (first
        | (go_at_call 33; refine HM1.out.mono ?_; rintro e0 w2 ⟨rfl, m, hw2⟩; have hw2' := hw2; subst hw2')
        | (go_at_call 30; refine (bstring_any _ _ _ _ (HB.out.below (below_drewN (Below.refl _ _) m))).mono ?_; rintro e2 w4 ⟨rfl, -, hb4⟩; have HL4 := hide' ((HL.out.drewN m).belowB hb4 HLt.out); have HR4 := hide' ((HR.out.trans (Rg.of_below (below_drewN (Below.refl _ _) m) L)).belowB hb4 (Nat.le_refl _)); clear hb4))
      go_ret
      exact ⟨rfl, HL4.out, HR4.out⟩
end Go.Proofs.YtfacfhigehdejaaGreatDoor
