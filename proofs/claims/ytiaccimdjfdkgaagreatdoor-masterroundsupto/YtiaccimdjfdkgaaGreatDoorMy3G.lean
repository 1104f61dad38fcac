import Derived.Test.YtiaccimdjfdkgaaGreatDoorPz7G
import Derived.Test.YtiaccimdjfdkgaaGreatDoorMx7G
import Derived.Test.YtiaccimdjfdkgaaGreatDoorDbuG
import Derived.Test.YtiaccimdjfdkgaaGreatDoorRn0G
import Derived.Deep.AppendLies
import Derived.Maps.OwnSet
import Derived.Maps.OwnOps
import Derived.DeepKeys4
import Derived.MapFrom
import Derived.WalkKit
import Derived.WalkSpells
import Derived.OwnWalkIn
import Derived.Test.YtiaccimdjfdkgaaGreatDoorProg
import Derived.Test.YtiaccimdjfdkgaaGreatDoorAs1G
/-
  Proofs: a reader of files in memory, with the records that it has read. (The verifier's own text.)
-/
namespace Go.Proofs.YtiaccimdjfdkgaaGreatDoor
set_option linter.unusedVariables false
set_option linter.unusedSimpArgs false
open Go.RowKit Go.Shelf Go.Proofs.YtiaccimdjfdkgaaGreatDoor.Nm

/-- a reader, with the records so far; all of W1 but its own block stands as it stood -/
structure Rr (W1 : World) (B : Nat) (o ow : ByteArray) (us la : Int) (fs ts : Value) (R : List Rn) (w : World) : Prop where
  rg : Rg W1 w B
  lt : B < W1.heap.size
  box : ∃ p c, Rx w B o ow us la fs ts (.slice p R.length c) ∧ w.ownsRow W1.heap.size 54 5 (.slice p R.length c) R.length (rce5 R)
section
variable {W1 : World} {B : Nat} {o ow : ByteArray} {us la : Int} {fs ts : Value} {R : List Rn} {w w' : World}
theorem Rr.ltw (h : Rr W1 B o ow us la fs ts R w) : B < w.heap.size := Nat.lt_of_lt_of_le h.lt h.rg.size
theorem Rr.below (h : Rr W1 B o ow us la fs ts R w) (hb : Below w.heap.size w w') : Rr W1 B o ow us la fs ts R w' := by
  obtain ⟨p, c, h1, h2⟩ := h.box
  exact ⟨h.rg.trans (Rg.of_below hb B), h.lt, p, c, Bx.below h1 hb h.ltw, ownsRow_below h2 hb⟩
theorem Rr.put {j : Nat} {v : Value} {o' ow' : ByteArray} {us' la' : Int} (h : Rr W1 B o ow us la fs ts R w)
    (he : ∀ rs, (#[Value.string o, .string ow, .int .i64 us, .int .i64 la, fs, ts, .int .i64 0, .int .i64 0, rs]).setIfInBounds j v = #[.string o', .string ow', .int .i64 us', .int .i64 la', fs, ts, .int .i64 0, .int .i64 0, rs]) :
    Rr W1 B o' ow' us' la' fs ts R (w.setCell ⟨B, j, none⟩ v) := by
  obtain ⟨p, c, h1, h2⟩ := h.box
  refine ⟨h.rg.trans (Rg.set _ _ _ _), h.lt, p, c, ?_, ?_⟩
  · have := Bx.set h1 j v
    rw [he] at this
    exact this
  · refine h2.kept (row := some B) ⟨rfl, rfl, rfl, by simp [World.setCell], fun k hk hne => Below.heap_setCell _ _ _ k (fun e => hne (by rw [e]))⟩ (.inr ?_)
    intro e
    have := World.ownsRow.lt h2 B e
    have := h.lt
    omega
theorem Rr.origin (h : Rr W1 B o ow us la fs ts R w) (o' : ByteArray) : Rr W1 B o' ow us la fs ts R (w.setCell ⟨B, 0, none⟩ (.string o')) := h.put fun _ => rfl
theorem Rr.owner (h : Rr W1 B o ow us la fs ts R w) (o' : ByteArray) : Rr W1 B o o' us la fs ts R (w.setCell ⟨B, 1, none⟩ (.string o')) := h.put fun _ => rfl
theorem Rr.last (h : Rr W1 B o ow us la fs ts R w) (a : Int) : Rr W1 B o ow us a fs ts R (w.setCell ⟨B, 3, none⟩ (.int .i64 a)) := h.put fun _ => rfl
/-- another record behind them -/
theorem Rr.push {p : Option Addr} {c g6 c6 : Nat} {W w6 : World} {x : Rn} (h : Rr W1 B o ow us la fs ts R w) (h1 : Rx w B o ow us la fs ts (.slice p R.length c)) (h2 : w.ownsRow W1.heap.size 54 5 (.slice p R.length c) R.length (rce5 R))
    (hW : w.grownBy W none) (h6 : w6.ownsRow W1.heap.size 54 5 (.slice (some ⟨g6, 0, none⟩) (R.length + 1) c6) (R.length + 1) (rce5 R ++ ren5 x)) (hg : W.grownBy w6 (Value.slice p R.length c).ownBlock) :
    (w6.cell? ⟨B, 8, none⟩ = some (.slice p R.length c) ∧ w6.frozen? ⟨B, 8, none⟩ = false) ∧ Rr W1 B o ow us la fs ts (R ++ [x]) (w6.setCell ⟨B, 8, none⟩ (.slice (some ⟨g6, 0, none⟩) (R.length + 1) c6)) := by
  have hlt := h.lt
  have hown : ∀ k, k < W1.heap.size → some k ≠ (Value.slice p R.length c).ownBlock := fun k hk e => by
    have := World.ownsRow.lt h2 k e.symm
    omega
  have hW1 := h.rg.size
  have hB6 : Rx w6 B o ow us la fs ts (.slice p R.length c) := by
    have hb : Bx W B _ _ := Bx.grown h1 hW (by simp)
    exact Bx.grown hb hg (fun e => hown B hlt e.symm)
  have hg6 := World.ownsRow.lt h6 g6 rfl
  have hR6 : Rg W1 w6 B := ⟨(hg.os.trans hW.os).trans h.rg.os, (hg.tape.trans hW.tape).trans h.rg.tape, (hg.output.trans hW.output).trans h.rg.output, Nat.le_trans hW1 (Nat.le_trans hW.size hg.size), fun k hk hne => (hg.block k (by have := hW.size; omega) (hown k hk)).trans ((hW.block k (by omega) (by simp)).trans (h.rg.block k hk hne))⟩
  · refine ⟨⟨hB6.cell rfl, hB6.free 8⟩, hR6.trans (Rg.set _ _ _ _), hlt, some ⟨g6, 0, none⟩, c6, ?_, ?_⟩
    · have := Bx.set hB6 8 (.slice (some ⟨g6, 0, none⟩) (R.length + 1) c6)
      rw [show (R ++ [x]).length = R.length + 1 by simp]
      exact this
    · rw [show (R ++ [x]).length = R.length + 1 by simp, rce5_app]
      have : rce5 [x] = ren5 x := by simp [rce5]
      rw [this]
      refine h6.kept (row := some B) ⟨rfl, rfl, rfl, by simp [World.setCell], fun k hk hne => Below.heap_setCell _ _ _ k (fun e => hne (by rw [e]))⟩ (.inr ?_)
      intro e
      have e2 : g6 = B := Option.some.inj e
      omega
end
end Go.Proofs.YtiaccimdjfdkgaaGreatDoor

/-
  Proofs: (*reader).record, of the words that tell a record. (The verifier's own text.)
-/
namespace Go.Proofs.YtiaccimdjfdkgaaGreatDoor
set_option linter.unusedVariables false
set_option linter.unusedSimpArgs false
open Go.RowKit Go.Shelf Go.Proofs.YtiaccimdjfdkgaaGreatDoor.Nm

theorem bxNewM (w : World) (cs : Array Value) (T : TypeId) : w.alloc (.cells cs T) |>.heap[w.heap.size]? = some (.cells cs T (0, 0)) := World.alloc_heap_new w _
theorem grown_allocN {w V : World} (h : w.grownBy V none) (o : Obj) : w.grownBy (V.alloc o) none := grown_trans h (World.grownBy_alloc V o none)
set_option maxRecDepth 100000 in
set_option maxHeartbeats 2000000 in
/-- (*reader).record -/
theorem record_any (W1 : World) (B b off n c : Nat) (o : ByteArray) (us la : Int) (fs ts : Value) (R : List Rn) (x : Rn) (tA tI : ByteArray) (w : World) (h : Rr W1 B o x.o us la fs ts R w) (hx : RcOk x) (ho : isN o = true)
    (hW : WA w b off (⟨tA, false⟩ :: ⟨tI, false⟩ :: ⟨nameT x.t, false⟩ :: (tellD x).map wdB)) (hn : n = (tellD x).length + 3) (hc : n ≤ c ∧ c ≤ 9223372036854775807)
    (hA : secB tA = some x.l.toNat) (hI : secB tI = none) (hl : lowB tI = ⟨#[105, 110]⟩) (sA : tA.size ≤ 1048576) (sI : tI.size ≤ 1048576) (hD : GD w) (hG : GlZ w) (hU : GU w) (hR : R.length < 2000) :
    Calls Tryz.prog 58 #[.pointer (some ⟨B, 0, none⟩), .slice (some ⟨b, off, none⟩) n c] w fun e w' => e = .returned .nilIface ∧ Rr W1 B o x.o us x.l fs ts (R ++ [x]) w' := by
  obtain ⟨i0, hi, hz0, hz1, hz2⟩ := info_parts infoRM
  obtain ⟨ps, hps⟩ := hx.p
  obtain ⟨t, ht⟩ : ∃ t : Nat, x.t = (t : Int) := ⟨x.t.toNat, by have := hx.t0; omega⟩
  have ht0 : 1 ≤ t := by have := hx.t0; omega
  have ht1 : t ≤ 65535 := by have := hx.t1; omega
  have hla : (x.l.toNat : Int) = x.l := by have := hx.l0; omega
  have hla2 : x.l.toNat ≤ 2147483647 := by have := hx.l1; omega
  have hla0 := hx.l0
  have hzo : ¬ x.o.size = 0 := by have := isN_pos hx.o; omega
  have heo := isEmpty_false (r := x.o) (by omega)
  have hsT : (nameT x.t).size ≤ 1048576 := by
    have := (nameT_ok ht0 ht1).2
    rw [lsB_len] at this
    rw [ht]
    omega
  have hRH := hide' (readHead_any b off n c x.l.toNat tA tI (nameT x.t) ((tellD x).map wdB) w hW (by simpa using hn) hc hA hI hl sA sI hsT hG hU hla2)
  rw [hla] at hRH
  have HTO : Hid (∀ V, Below w.heap.size w V → Calls Tryz.prog 84 #[.string (nameT x.t)] V fun e w' => e = .returned (.int .i64 x.t) ∧ Below V.heap.size V w') := fun V hV => by
    have := typeOf_any (nameT x.t) V hsT (hD.below hV).gw
    rw [ht, typeOf_name ht0 ht1, ← ht] at this
    exact this
  have HRD : Hid (∀ V, Below w.heap.size w V → Calls Tryz.prog 85 #[.int .i64 x.t, .slice (some ⟨b, off + 4 + 2, none⟩) (n - 2 - 1) (c - 2 - 1), .string o] V fun e w' => e = .returned (.tuple #[.string x.d, .int .i64 0, .int .i64 0]) ∧ Below V.heap.size V w') := fun V hV => by
    have hT : WA V b (off + 6) ((tellD x).map wdB) := (hW.below hV).tail.tail.tail
    have := dataRead_any x.t x.d o ps (some ⟨b, off + 6, none⟩) (c - 3) V hps (fun j z hz => by
      rw [← tellD_eq hps] at hz
      have := hT j (wdB z) (by simp [hz])
      exact ⟨b, off + 6, rfl, this.1, this.2⟩) (by rw [← tellD_eq hps]; omega) ho (hD.below hV)
    rw [← tellD_eq hps] at this
    rw [show n - 2 - 1 = (tellD x).length by omega, show c - 2 - 1 = c - 3 by omega]
    exact this
  have HAG : Hid (∀ V, Rr W1 B o x.o us la fs ts R V → Calls Tryz.prog 86 #[.pointer (some ⟨B, 0, none⟩), .int .i64 x.l] V fun e w' => e = .returned (.int .i64 x.l) ∧ w' = V.setCell ⟨B, 3, none⟩ (.int .i64 x.l)) := fun V hV => by
    obtain ⟨p, cp, h1, h2⟩ := hV.box
    exact rage_any B o x.o us la x.l fs ts _ V h1 hla0
  obtain ⟨k1, k2⟩ := hW.tail.tail.head
  have hbw := Lib.lt_of_cell k1
  have b1 : w.cell? ⟨B, 1, none⟩ = some (.string x.o) := by
    obtain ⟨p, cp, h1, h2⟩ := h.box
    exact Bx.cell h1 rfl
  have HH := hide' h
  have hnl : 3 ≤ n := by omega
  have hne : (tellD x).length ≠ 0 := fun e => tellD_ne hx (List.length_eq_zero_iff.1 e)
  have hn4 : 4 ≤ n := by omega
  have hcl := hide' hx.c
  clear h hW hA hI hl hD hG hU hps hx ht ht0 ht1 hla hla2 hzo hsT hne hn ho sA sI
  go_enter Tryz.func58, Tryz.ntmps58
  go_wp2_with (first
    | (go_at_call 83; refine hRH.out.mono ?_; rintro e1 w1 ⟨rfl, hB1⟩; have q1 := (hB1.cell (p := ⟨b, off + 4, none⟩) hbw).trans k1; have q2 := (hB1.cell (p := ⟨b, off + 4 + 1, none⟩) hbw).trans k2; have H1 := hide' (HH.out.below hB1); have HB1 := hide' hB1; clear hB1)
    | (go_at_call 84; refine (HTO.out _ HB1.out).mono ?_; rintro e2 w2 ⟨rfl, hB2⟩; have H2 := hide' (H1.out.below hB2); have HB2 := hide' (bstep HB1.out hB2 HB1.out.size); clear hB2))
  have b0 : w2.cell? ⟨B, 0, none⟩ = some (.string o) := by
    obtain ⟨p, cp, h1, h2⟩ := H2.out.box
    exact Bx.cell h1 rfl
  have p1 : (1 : Int) ≤ ((n - 2 : Nat) : Int) := by omega
  have p2 : ¬ c - 2 = 1 := by omega
  go_region_law (go_simp; go_at_call 85; refine (HRD.out _ (by first | exact HB2.out | exact below_drewN HB2.out 1 | exact below_drewN HB2.out _)).mono ?_; rintro e3 w3 ⟨rfl, hB3⟩; have H3 := hide' (H2.out.below (by first | exact hB3 | exact bstep (below_drewN (Below.refl _ _) 1) hB3 (Nat.le_refl _) | exact bstep (below_drewN (Below.refl _ _) _) hB3 (Nat.le_refl _))); clear hB3)
  have p3 : ¬ (R.length : Int) = 2000 := by omega
  go_wp2_with (go_at_call 86; refine (HAG.out _ H3.out).mono ?_; rintro e4 w4 ⟨rfl, hw4⟩; have H4 : Hid (Rr W1 B o x.o us x.l fs ts R w4) := (by rw [hw4]; exact H3.out.last x.l); obtain ⟨p, cp, hx4, ho4⟩ := H4.out.box; have b8 : w4.cell? ⟨B, 8, none⟩ = some (.slice p R.length cp) := Bx.cell hx4 rfl; have b1' : w4.cell? ⟨B, 1, none⟩ = some (.string x.o) := Bx.cell hx4 rfl; have HX4 := hide' hx4; have HO4 := hide' ho4; clear hw4 hx4 ho4)
  have b8' := cell_alloc_lM (.cells #[.string x.o, .int .i64 x.t, .int .i64 1, .int .i64 x.l, .string x.d] 54) b8
  have b1'' := cell_alloc_lM (.cells #[.string x.o, .int .i64 x.t, .int .i64 1, .int .i64 x.l, .string x.d] 54) b1'
  have HS4 : Hid (W1.heap.size ≤ w4.heap.size) := H4.out.rg.size
  go_region_law (refine step_append_lies _ rfl _ _ 22 rfl W1.heap.size 54 i0 (.agg #[.string .empty, .int .i64 0, .int .i64 0, .int .i64 0, .string .empty]) 5 56 Tryz.underlying22 hi hz0 hz1 hz2 rfl (by decide) (.slice p R.length cp) R.length (rce5 R) rfl (by first | exact HO4.out.alloc _ | exact HO4.out.drew.alloc _ | exact (HO4.out.alloc _).drew) ⟨_, 0, none⟩ 1 1 [.string x.o, .int .i64 x.t, .int .i64 1, .int .i64 x.l, .string x.d] rfl rfl (by first | exact World.news_of_block (World.alloc_heap_new _ (.cells #[.string x.o, .int .i64 x.t, .int .i64 1, .int .i64 x.l, .string x.d] 54))) (by simp [Value.oneCell']) (by decide) (by unfold maxLen; omega) (by omega) (by have := HS4.out; simp; omega) _ rfl ?_; intro g6 cap6 w6 hown6 hgrow6 hpl6 hlt6; rw [show [Value.string x.o, .int .i64 x.t, .int .i64 1, .int .i64 x.l, .string x.d] = ren5 x by rw [← hcl.out]; rfl] at hown6; have E6 := hide' (Rr.push H4.out HX4.out HO4.out (by first | exact World.grownBy_alloc w4 _ none | exact grown_trans (grown_drewN w4 1 none) (World.grownBy_alloc _ _ none) | exact grown_trans (World.grownBy_alloc w4 _ none) (grown_drewN _ 1 none)) hown6 hgrow6); obtain ⟨c8, f8⟩ := E6.out.1; clear hown6 hgrow6 hpl6 hlt6)
  all_goals go_wp2_with fail
  all_goals go_ret
  all_goals exact ⟨rfl, E6.out.2⟩
end Go.Proofs.YtiaccimdjfdkgaaGreatDoor

/-
  Proofs: the tellers' map of a reader of files. (The verifier's own text.)
-/
namespace Go.Proofs.YtiaccimdjfdkgaaGreatDoor
set_option linter.unusedVariables false
set_option linter.unusedSimpArgs false
open Go.RowKit Go.Maps

theorem lt_of_get {w : World} {b : Nat} {o : Obj} (h : w.heap[b]? = some o) : b < w.heap.size := (Array.getElem?_eq_some_iff.1 h).1
/-- a world with another block b -/
def wSet (w : World) (b : Nat) (o : Obj) : World := { w with heap := w.heap.setIfInBounds b o }
theorem wSet_size (w : World) (b : Nat) (o : Obj) : (wSet w b o).heap.size = w.heap.size := by simp [wSet]
theorem wSet_same {w : World} {b : Nat} (h : b < w.heap.size) (o : Obj) : (wSet w b o).heap[b]? = some o := by simp [wSet, h]
theorem wSet_below {B b : Nat} {w w' : World} (h : Below B w w') (hb : B ≤ b) (o : Obj) : Below B w (wSet w' b o) :=
  ⟨h.os, h.tape, h.output, by rw [wSet_size]; exact h.size, fun k hk => by
    have : (wSet w' b o).heap[k]? = w'.heap[k]? := by
      simp only [wSet]
      rw [Array.getElem?_setIfInBounds_ne (by omega)]
    rw [this]; exact h.block k hk⟩
theorem tmMap : Tryz.prog.underlying 44 = some (.map 9 137) := Tryz.underlying44
theorem tmKey (s : ByteArray) : MapKept.IsKey .string (.string s) := by trivial
/-- a new key goes in at the end -/
theorem upd_new (w : World) (b : Nat) (es : Array MapEntry) (clock : Nat) (key : ByteArray) (v : Value) (hb : w.heap[b]? = some (.map es clock)) (hn : Instr.findNow .string (.string key) es.toList 0 = some none) :
    (Instr.mapUpdate 44 (.map (some b)) (.string key) v).run Tryz.prog w = .ok () (wSet w b (.map (es.push { key := .string key, val := v, born := clock }) (clock + 1))) := by
  simp [Instr.mapUpdate, run_underlying tmMap, MapKept.run_getObj_map hb, MapKept.run_checkKey Tryz.underlying9 (tmKey key), MapKept.run_findKey Tryz.underlying9 hn, MapKept.run_setObj_map _ hb, Result.andThen]
  rfl
/-- what is there is found -/
theorem look_there (w : World) (b : Nat) (es : Array MapEntry) (clock i : Nat) (key : ByteArray) (v : Value) (hb : w.heap[b]? = some (.map es clock)) (hn : Instr.findNow .string (.string key) es.toList 0 = some (some (i, v))) :
    (Instr.lookup 44 (.map (some b)) (.string key) true).run Tryz.prog w = .ok (.tuple #[v, .bool true]) w := by
  simp [Instr.lookup, run_underlying tmMap, MapKept.run_getObj_map hb, MapKept.run_checkKey Tryz.underlying9 (tmKey key), MapKept.run_findKey Tryz.underlying9 hn, Result.andThen]
/-- a function as a value -/
abbrev fnV (f : FuncId) : Value := .func (.func f) #[] #[]
def oW : ByteArray := ⟨#[36, 111, 114, 105, 103, 105, 110]⟩
def e0M : MapEntry := { key := .string oW, val := fnV 25, born := 0 }
def e1M : MapEntry := { key := .string ⟨#[36, 116, 116, 108]⟩, val := fnV 26, born := 1 }
def e2M : MapEntry := { key := .string ⟨#[36, 105, 110, 99, 108, 117, 100, 101]⟩, val := fnV 27, born := 2 }
def e3M : MapEntry := { key := .string ⟨#[36, 103, 101, 110, 101, 114, 97, 116, 101]⟩, val := fnV 28, born := 3 }
/-- the tellers -/
def tmM : Obj := .map #[e0M, e1M, e2M, e3M] 4
theorem look_origin (w : World) (b : Nat) (hb : w.heap[b]? = some tmM) : (Instr.lookup 44 (.map (some b)) (.string ⟨#[36, 111, 114, 105, 103, 105, 110]⟩) true).run Tryz.prog w = .ok (.tuple #[fnV 25, .bool true]) w :=
  look_there w b _ _ 0 oW _ hb (by kernel_rfl)
/-- 'm[k] = v' in a literal, by what it runs to -/
theorem wpList_insert_run {P : Program} (w : World) {ops : Array Oper} {rest : List Oper} {o : Oper} {a : Act} {Q : Exit → Act → World → Prop} (hg : o.guard = none) (m x v : Operand) (t : TypeId) (hop : o.op = Op.insert t m x v)
    (w' : World) (mv xv vv : Value) (hm : a.eval m = mv) (hx : a.eval x = xv) (hv : a.eval v = vv) (hrun : (Instr.mapUpdate t mv xv vv).run P w = .ok () w') (hK : wpList P ops Q rest (a.put o.dst undef) w') : wpList P ops Q (o :: rest) a w := by
  refine wpList_plain hg fun K' hK' => ?_
  unfold Oper.wp
  simp [execOp, hop, hm, hx, hv, hrun, Result.andThen]
  exact hK' _ _ hK
set_option maxRecDepth 100000 in
set_option maxHeartbeats 2000000 in
theorem tellers_any (w : World) :
    Calls Tryz.prog 13 #[] w fun e w' => ∃ b, e = .returned (.map (some b)) ∧ w.heap.size ≤ b ∧ w'.heap[b]? = some tmM ∧ Below w.heap.size w w' := by
  obtain ⟨w0, hw0⟩ : ∃ w0, w.alloc (.map #[] 0) = w0 := ⟨_, rfl⟩
  have h0 : w0.heap[w.heap.size]? = some (.map #[] 0) := hw0 ▸ (MapKept.heap_alloc w _).1
  have b0 : Below w.heap.size w w0 := hw0 ▸ (Below.refl _ w).alloc (Nat.le_refl _) _
  have r1 := upd_new w0 w.heap.size #[] 0 ⟨#[36, 111, 114, 105, 103, 105, 110]⟩ (fnV 25) h0 rfl
  obtain ⟨w1, hw1⟩ : ∃ w1, wSet w0 w.heap.size (.map #[e0M] 1) = w1 := ⟨_, rfl⟩
  have h1 : w1.heap[w.heap.size]? = some (.map #[e0M] 1) := hw1 ▸ wSet_same (lt_of_get h0) _
  have b1 : Below w.heap.size w w1 := hw1 ▸ wSet_below b0 (Nat.le_refl _) _
  have r1' : (Instr.mapUpdate 44 (.map (some w.heap.size)) (.string ⟨#[36, 111, 114, 105, 103, 105, 110]⟩) (fnV 25)).run Tryz.prog w0 = .ok () w1 := hw1 ▸ r1
  obtain ⟨w2, hw2⟩ : ∃ w2, wSet w1 w.heap.size (.map #[e0M, e1M] 2) = w2 := ⟨_, rfl⟩
  have r2 := upd_new w1 w.heap.size #[e0M] 1 ⟨#[36, 116, 116, 108]⟩ (fnV 26) h1 (by kernel_rfl)
  have h2 : w2.heap[w.heap.size]? = some (.map #[e0M, e1M] 2) := hw2 ▸ wSet_same (lt_of_get h1) _
  have b2 : Below w.heap.size w w2 := hw2 ▸ wSet_below b1 (Nat.le_refl _) _
  have r2' : (Instr.mapUpdate 44 (.map (some w.heap.size)) (.string ⟨#[36, 116, 116, 108]⟩) (fnV 26)).run Tryz.prog w1 = .ok () w2 := hw2 ▸ r2
  obtain ⟨w3, hw3⟩ : ∃ w3, wSet w2 w.heap.size (.map #[e0M, e1M, e2M] 3) = w3 := ⟨_, rfl⟩
  have r3 := upd_new w2 w.heap.size #[e0M, e1M] 2 ⟨#[36, 105, 110, 99, 108, 117, 100, 101]⟩ (fnV 27) h2 (by kernel_rfl)
  have h3 : w3.heap[w.heap.size]? = some (.map #[e0M, e1M, e2M] 3) := hw3 ▸ wSet_same (lt_of_get h2) _
  have b3 : Below w.heap.size w w3 := hw3 ▸ wSet_below b2 (Nat.le_refl _) _
  have r3' : (Instr.mapUpdate 44 (.map (some w.heap.size)) (.string ⟨#[36, 105, 110, 99, 108, 117, 100, 101]⟩) (fnV 27)).run Tryz.prog w2 = .ok () w3 := hw3 ▸ r3
  obtain ⟨w4, hw4⟩ : ∃ w4, wSet w3 w.heap.size tmM = w4 := ⟨_, rfl⟩
  have r4 := upd_new w3 w.heap.size #[e0M, e1M, e2M] 3 ⟨#[36, 103, 101, 110, 101, 114, 97, 116, 101]⟩ (fnV 28) h3 (by kernel_rfl)
  have H4 : Hid (w4.heap[w.heap.size]? = some tmM) := hw4 ▸ wSet_same (lt_of_get h3) _
  have B4 : Hid (Below w.heap.size w w4) := hw4 ▸ wSet_below b3 (Nat.le_refl _) _
  have r4' : (Instr.mapUpdate 44 (.map (some w.heap.size)) (.string ⟨#[36, 103, 101, 110, 101, 114, 97, 116, 101]⟩) (fnV 28)).run Tryz.prog w3 = .ok () w4 := hw4 ▸ r4
  have hmk : (Instr.makeMap 44 none).run Tryz.prog w = .ok (.map (some w.heap.size)) w0 := by rw [← hw0]; rfl
  clear h0 h1 h2 h3 b0 b1 b2 b3 r1 r2 r3 r4 hw1 hw2 hw3 hw4
  go_enter Tryz.func13, Tryz.ntmps13
  go_wp2_with (first
    | (refine wpList_insert_run _ rfl _ _ _ _ rfl w1 _ _ _ rfl rfl rfl r1' ?_)
    | (refine wpList_insert_run _ rfl _ _ _ _ rfl w2 _ _ _ rfl rfl rfl r2' ?_)
    | (refine wpList_insert_run _ rfl _ _ _ _ rfl w3 _ _ _ rfl rfl rfl r3' ?_)
    | (refine wpList_insert_run _ rfl _ _ _ _ rfl w4 _ _ _ rfl rfl rfl r4' ?_))
  go_ret
  exact ⟨w.heap.size, rfl, Nat.le_refl _, H4.out, B4.out⟩
end Go.Proofs.YtiaccimdjfdkgaaGreatDoor

/-
  Proofs: (*reader).file, of a file whose entries are told without a fault. (The verifier's own text.)
-/
namespace Go.Proofs.YtiaccimdjfdkgaaGreatDoor
set_option linter.unusedVariables false
set_option linter.unusedSimpArgs false
open Go.RowKit Go.Shelf Go.Proofs.YtiaccimdjfdkgaaGreatDoor.Nm

/-- an entry as a value -/
def enV (l : Nat) (bl : Bool) (b n c : Nat) : Value := .agg #[.int .i64 (l : Int), .bool bl, .slice (some ⟨b, 0, none⟩) n c]
theorem ez_get {Z : List Ez} : ∀ {i : Nat} {z : Ez}, Z[i]? = some z → (ecells Z)[i * 3]? = some (.int .i64 (z.1.l : Int)) ∧ (ecells Z)[i * 3 + 1]? = some (.bool z.1.b) ∧ (ecells Z)[i * 3 + 2]? = some (.slice (some ⟨z.2.1, 0, none⟩) z.1.ws.length z.2.2) := by
  induction Z with
  | nil => intro i z h; cases h
  | cons y Z ih =>
    intro i z h
    have e : ecells (y :: Z) = .int .i64 (y.1.l : Int) :: .bool y.1.b :: .slice (some ⟨y.2.1, 0, none⟩) y.1.ws.length y.2.2 :: ecells Z := by simp [ecells, encE]
    rw [e]
    cases i with
    | zero =>
      have : y = z := by simpa using h
      subst this
      exact ⟨rfl, rfl, rfl⟩
    | succ i =>
      have := ih (i := i) (z := z) (by simpa using h)
      rw [show (i + 1) * 3 = i * 3 + 1 + 1 + 1 by omega]
      simpa using this
/-- a row's cells -/
theorem owns_at {w : World} {base e size n cap g j : Nat} {xs : List Value} {u : Value} (h : w.ownsRow base e size (.slice (some ⟨g, 0, none⟩) n cap) n xs) (hj : xs[j]? = some u) : w.cell? ⟨g, j, none⟩ = some u := by
  obtain ⟨hl, (⟨h1, h0⟩ | ⟨g', cap', cur, h1, hb, hg, hn, hcm, hcs, htk⟩)⟩ := h
  · cases h1
  · injection h1 with h1 h2 h3
    injection h1 with h1
    injection h1 with h1
    subst h1
    have hlt : j < xs.length := (List.getElem?_eq_some_iff.1 hj).1
    have e : cur[j]? = some u := by
      rw [← htk, List.getElem?_take, if_pos (by omega)] at hj
      simpa using hj
    simp [World.cell?, hg, e]
set_option maxRecDepth 100000 in
set_option maxHeartbeats 4000000 in
/-- (*reader).file -/
theorem file_any (B : Nat) (f t : ByteArray) (E : List En) (w : World) (hE : entsB t = .inr E) (ht : t.size ≤ 1073741824) (hB : B < w.heap.size) (Inv : World → Nat → World → Prop)
    (hbel : ∀ W1 i V V', Inv W1 i V → Below V.heap.size V V' → Inv W1 i V') (hrg : ∀ W1 i V, Inv W1 i V → Rg W1 V B) (h0 : ∀ W1, Below w.heap.size w W1 → Inv W1 0 W1)
    (hstep : ∀ W1 (Z : List Ez) v, Below w.heap.size w W1 → EZ W1 w.heap.size v Z → Z.map (·.1) = E → ∀ i z V, Z[i]? = some z → Inv W1 i V →
      Calls Tryz.prog 30 #[.pointer (some ⟨B, 0, none⟩), enV z.1.l z.1.b z.2.1 z.1.ws.length z.2.2] V fun e w' => e = .returned .nilIface ∧ Inv W1 (i + 1) w') :
    Calls Tryz.prog 14 #[.pointer (some ⟨B, 0, none⟩), .agg #[.string f, .string t]] w fun e w' => e = .returned .nilIface ∧ ∃ W1, Below w.heap.size w W1 ∧ Inv W1 E.length w' := by
  obtain ⟨wa, hwa⟩ : ∃ wa, w.alloc (.cells #[.string f, .string t] 35) = wa := ⟨_, rfl⟩
  have hBa : Below w.heap.size w wa := hwa ▸ (Below.refl _ w).alloc (Nat.le_refl _) _
  have hX : Bx wa w.heap.size #[.string f, .string t] 35 := hwa ▸ World.alloc_heap_new w _
  have e0 : wa.cell? ⟨w.heap.size, 0, none⟩ = some (.string f) := hX.cell rfl
  have e1 : wa.cell? ⟨w.heap.size, 1, none⟩ = some (.string t) := hX.cell rfl
  have HS := hide' (scan_any f t wa ht)
  rw [hE] at HS
  have HBa := hide' hBa
  have hbel := hide' hbel
  have hrg := hide' hrg
  have h0 := hide' h0
  have hstep := hide' hstep
  clear hX hBa hE
  go_enter Tryz.func14, Tryz.ntmps14
  go_wp2_with (go_at_call 29; refine HS.out.mono ?_; rintro e2 W1 ⟨v, rfl, hL, hB1⟩; have HW1 := hide' (bstep HBa.out hB1 HBa.out.size); have HL := hide' (hL.base HBa.out.size); obtain ⟨p, cp, rfl, hcp1, hcp2⟩ := hL.shape; clear hL hB1)
  obtain ⟨Z, hZE, hZ⟩ := HL.out
  have HZ := hide' hZ
  have HZE := hide' hZE
  have hZl : Z.length = E.length := by rw [← hZE]; simp
  have hcp3 : E.length ≤ 9223372036854775807 := by unfold maxLen at hcp2; omega
  have HST := hide' (hstep.out W1 Z _ HW1.out hZ hZE)
  have hown0 := hZ.own
  rw [hZl] at hown0
  have HOW := hide' hown0
  clear hZ hZE hcp2 hown0
  go_loopw [20] (fun iv wr => ∃ i : Nat, iv = .int .i64 i ∧ i ≤ E.length ∧ Hid (Inv W1 i wr)) (fun iv _ => E.length - (intOf iv).toNat)
  case atStart => exact ⟨0, rfl, Nat.zero_le _, h0.out W1 HW1.out⟩
  case round =>
    obtain ⟨i, rfl, hi, HI⟩ := hrel
    by_cases hlt : i < E.length
    · obtain ⟨g, hg⟩ := owns_some2 HOW.out (by omega)
      subst hg
      have hz := List.getElem?_eq_getElem (l := Z) (i := i) (by omega)
      generalize Z[i] = z at hz
      obtain ⟨c0, c1, c2⟩ := ez_get hz
      have hg0 := World.ownsRow.lt HOW.out g rfl
      have hR := hrg.out W1 i wr HI.out
      have key : ∀ a : Nat, wr.cell? ⟨g, a, none⟩ = W1.cell? ⟨g, a, none⟩ := fun a => by
        have e1 : wr.heap[g]? = W1.heap[g]? := hR.block g hg0.2 (by simp; omega)
        simp only [World.cell?, e1]
      have k0 := (key _).trans (owns_at HOW.out c0)
      have k1 := (key _).trans (owns_at HOW.out c1)
      have k2 := (key _).trans (owns_at HOW.out c2)
      have HC := hide' (fun V (hV : Below wr.heap.size wr V) => HST.out i z V hz (hbel.out W1 i wr V HI.out hV))
      unfold enV at HC
      clear c0 c1 c2 hg0 hR key hz
      go_wp2_with (go_at_call 30; refine (HC.out _ ((Below.refl _ wr).alloc (Nat.le_refl _) _)).mono ?_; rintro e3 w3 ⟨rfl, hI3⟩; have HI3 := hide' hI3; clear hI3)
      refine ⟨⟨i + 1, by go_num, by omega, HI3.out⟩, ?_⟩
      simp [intOf]
      omega
    · obtain rfl : i = E.length := by omega
      go_wp2
      go_ret
      exact ⟨rfl, W1, HW1.out, HI.out⟩
end Go.Proofs.YtiaccimdjfdkgaaGreatDoor

/-
  Proofs: (*reader).owned, (*reader).entry, of entries that tell records. (The verifier's own text.)
-/
namespace Go.Proofs.YtiaccimdjfdkgaaGreatDoor
set_option linter.unusedVariables false
set_option linter.unusedSimpArgs false
open Go.RowKit Go.Shelf Go.Proofs.YtiaccimdjfdkgaaGreatDoor.Nm

/-- the words that tell a record, behind its owner's -/
def rwW (x : Rn) (tA tI : ByteArray) : List Wd := ⟨tA, false⟩ :: ⟨tI, false⟩ :: ⟨nameT x.t, false⟩ :: (tellD x).map wdB
/-- what an age's word and the class's are -/
structure Hd (x : Rn) (tA tI : ByteArray) : Prop where
  hA : secB tA = some x.l.toNat
  hI : secB tI = none
  hl : lowB tI = ⟨#[105, 110]⟩
  sA : tA.size ≤ 1048576
  sI : tI.size ≤ 1048576
/-- what a reader needs -/
structure GM (w : World) : Prop where
  d : GD w
  g : Gl w
  z : GlZ w
  u : GU w
theorem GM.below {w w' : World} (h : GM w) (hb : Below w.heap.size w w') : GM w' := ⟨h.d.below hb, h.g.grow hb, h.z.below hb, h.u.below hb⟩
set_option maxRecDepth 100000 in
set_option maxHeartbeats 2000000 in
/-- (*reader).owned -/
theorem owned_any (W1 : World) (B b off n c : Nat) (o ow tO : ByteArray) (us la : Int) (fs ts : Value) (R : List Rn) (x : Rn) (tA tI : ByteArray) (w : World) (h : Rr W1 B o ow us la fs ts R w) (hx : RcOk x) (ho : isN o = true) (hBb : b ≠ B)
    (hW : WA w b off (⟨tO, false⟩ :: rwW x tA tI)) (hn : n = (tellD x).length + 4) (hc : n ≤ c ∧ c ≤ 9223372036854775807) (hO : readB tO o = (x.o, 0, 0)) (sO : tO.size ≤ 1048576) (hH : Hd x tA tI) (hG : ∀ V, Rr W1 B o x.o us la fs ts R V → GM V) (hGw : GM w) (hR : R.length < 2000) :
    Calls Tryz.prog 55 #[.pointer (some ⟨B, 0, none⟩), .slice (some ⟨b, off, none⟩) n c] w fun e w' => e = .returned .nilIface ∧ Rr W1 B o x.o us x.l fs ts (R ++ [x]) w' := by
  have hmo : o.size ≤ maxLen := by
    have := ((isN_iff o).1 ho).1
    unfold maxLen; omega
  have hNM : Calls Tryz.prog 50 #[.pointer (some ⟨B, 0, none⟩), .agg #[.string tO, .bool false]] w fun e w' => e = .returned (.tuple #[.string x.o, .nilIface]) ∧ Below w.heap.size w w' := by
    obtain ⟨p, cp, h1, h2⟩ := h.box
    exact rname_any B o ow tO x.o us la fs ts _ w h1 hO sO hmo hGw.g
  have HNM := hide' hNM
  have HRE : Hid (∀ V, Below w.heap.size w V → Calls Tryz.prog 58 #[.pointer (some ⟨B, 0, none⟩), .slice (some ⟨b, off + 2, none⟩) (n - 1) (c - 1)] (V.setCell ⟨B, 1, none⟩ (.string x.o)) fun e w' => e = .returned .nilIface ∧ Rr W1 B o x.o us x.l fs ts (R ++ [x]) w') := fun V hV => by
    have hr : Rr W1 B o x.o us la fs ts R (V.setCell ⟨B, 1, none⟩ (.string x.o)) := (h.below hV).owner x.o
    have hg := hG _ hr
    refine record_any W1 B b (off + 2) (n - 1) (c - 1) o us la fs ts R x tA tI _ hr hx ho (fun j z hz => ?_) (by omega) (by omega) hH.hA hH.hI hH.hl hH.sA hH.sI hg.d hg.z hg.u hR
    obtain ⟨k1, k2⟩ := hW.tail j z hz
    have hb := Lib.lt_of_cell k1
    have key : ∀ a : Nat, (V.setCell ⟨B, 1, none⟩ (.string x.o)).cell? ⟨b, a, none⟩ = w.cell? ⟨b, a, none⟩ := fun a => by
      have e1 : (V.setCell ⟨B, 1, none⟩ (.string x.o)).heap[b]? = w.heap[b]? := (Below.heap_setCell _ _ _ b (by exact hBb)).trans (hV.block b hb)
      simp only [World.cell?, e1]
    exact ⟨(key _).trans k1, (key _).trans k2⟩
  have HF : Hid (∀ V, Below w.heap.size w V → V.cell? ⟨B, 1, none⟩ = some (.string ow) ∧ V.frozen? ⟨B, 1, none⟩ = false) := fun V hV => by
    obtain ⟨p, cp, h1, h2⟩ := (h.below hV).box
    exact ⟨Bx.cell h1 rfl, Bx.free h1 1⟩
  obtain ⟨k1, k2⟩ := hW.head
  have hn4 : 4 ≤ n := by omega
  clear h hW hG hGw hH hO hn
  go_enter Tryz.func55, Tryz.ntmps55
  go_wp2_with (first
    | (go_at_call 50; refine HNM.out.mono ?_; rintro e1 w1 ⟨rfl, hB1⟩; obtain ⟨f1, f2⟩ := HF.out w1 hB1; have HB1 := hide' hB1; clear hB1)
    | (go_at_call 58; refine (HRE.out w1 HB1.out).mono ?_; rintro e2 w2 ⟨rfl, hr2⟩; have HR2 := hide' hr2; clear hr2))
  go_ret
  exact ⟨rfl, HR2.out⟩
theorem rrKeep {W1 : World} {B : Nat} {o ow : ByteArray} {us la : Int} {fs ts : Value} {R : List Rn} {w V : World} (h : Rr W1 B o ow us la fs ts R w) (hb : Below w.heap.size w V) : Rr W1 B o ow us la fs ts R V := h.below hb
set_option maxRecDepth 100000 in
set_option maxHeartbeats 2000000 in
/-- (*reader).entry, of one that begins with a blank -/
theorem entry_blank (W1 : World) (B b n c l : Nat) (o : ByteArray) (us la : Int) (fs ts : Value) (R : List Rn) (x : Rn) (tA tI : ByteArray) (w : World) (h : Rr W1 B o x.o us la fs ts R w) (hx : RcOk x) (ho : isN o = true)
    (hW : WA w b 0 (rwW x tA tI)) (hn : n = (tellD x).length + 3) (hc : n ≤ c ∧ c ≤ 9223372036854775807) (hH : Hd x tA tI) (hG : GM w) (hR : R.length < 2000) :
    Calls Tryz.prog 30 #[.pointer (some ⟨B, 0, none⟩), enV l true b n c] w fun e w' => e = .returned .nilIface ∧ Rr W1 B o x.o us x.l fs ts (R ++ [x]) w' := by
  have HRE : Hid (∀ V, Below w.heap.size w V → Calls Tryz.prog 58 #[.pointer (some ⟨B, 0, none⟩), .slice (some ⟨b, 0, none⟩) n c] V fun e w' => e = .returned .nilIface ∧ Rr W1 B o x.o us x.l fs ts (R ++ [x]) w') := fun V hV => by
    have hg := hG.below hV
    exact record_any W1 B b 0 n c o us la fs ts R x tA tI V (h.below hV) hx ho (hW.below hV) hn hc hH.hA hH.hI hH.hl hH.sA hH.sI hg.d hg.z hg.u hR
  obtain ⟨wa, hwa⟩ : ∃ wa, w.alloc (.cells #[.int .i64 (l : Int), .bool true, .slice (some ⟨b, 0, none⟩) n c] 82) = wa := ⟨_, rfl⟩
  have hz : wa.heap.size = w.heap.size + 1 := by rw [← hwa]; simp
  have hBa : Below w.heap.size w wa := hwa ▸ (Below.refl _ w).alloc (Nat.le_refl _) _
  have hX : Bx wa w.heap.size #[.int .i64 (l : Int), .bool true, .slice (some ⟨b, 0, none⟩) n c] 82 := hwa ▸ World.alloc_heap_new w _
  have e1 : wa.cell? ⟨w.heap.size, 1, none⟩ = some (.bool true) := hX.cell rfl
  have e2 : wa.cell? ⟨w.heap.size, 2, none⟩ = some (.slice (some ⟨b, 0, none⟩) n c) := hX.cell rfl
  have hWa := hW.below hBa
  obtain ⟨k1, k2⟩ := hWa.head
  have HBb : Hid (Below w.heap.size w (wa.alloc (.cells #[.string tA, .bool false] 121))) := hBa.alloc (by omega) _
  have f1 : (wa.alloc (.cells #[.string tA, .bool false] 121)).cell? ⟨w.heap.size, 1, none⟩ = some (.bool true) := (Bx.al hX _).cell rfl
  have f2 : (wa.alloc (.cells #[.string tA, .bool false] 121)).cell? ⟨w.heap.size, 2, none⟩ = some (.slice (some ⟨b, 0, none⟩) n c) := (Bx.al hX _).cell rfl
  have hnl : 3 ≤ n := by omega
  unfold enV
  clear h hW hG hH hWa hX hBa hn
  go_enter Tryz.func30, Tryz.ntmps30
  go_wp2_with (go_at_call 58; refine (HRE.out _ HBb.out).mono ?_; rintro e3 w3 ⟨rfl, hr3⟩; have HR3 := hide' hr3; clear hr3)
  go_ret
  exact ⟨rfl, HR3.out⟩
end Go.Proofs.YtiaccimdjfdkgaaGreatDoor

/-
  Proofs: (*reader).entry, of entries that tell records with their owners, and of one that tells an origin. (The verifier's own text.)
-/
namespace Go.Proofs.YtiaccimdjfdkgaaGreatDoor
set_option linter.unusedVariables false
set_option linter.unusedSimpArgs false
open Go.RowKit Go.Shelf Go.Proofs.YtiaccimdjfdkgaaGreatDoor.Nm

/-- does it begin with a dollar? -/
def pfx (s : ByteArray) : Bool := decide ((⟨#[36]⟩ : ByteArray).size ≤ s.size ∧ s.extract 0 (⟨#[36]⟩ : ByteArray).size = ⟨#[36]⟩)
theorem pfx_no {l : List Nat} (hl : ∀ x ∈ l, x < 256) (h : l.head? ≠ some 36) : pfx (bts l) = false := by
  unfold pfx
  refine decide_eq_false fun ⟨h1, h2⟩ => h ?_
  cases l with
  | nil => exact absurd h1 (by decide)
  | cons x l =>
    have e : bt ((bts (x :: l)).extract 0 1) 0 = x := by
      rw [bt_pre (by exact h1) (by omega)]
      exact bts_bt _ hl 0 (by simp)
    rw [show (⟨#[36]⟩ : ByteArray).size = 1 from rfl] at h2
    rw [h2] at e
    have e2 : bt ⟨#[36]⟩ 0 = 36 := by decide +kernel
    rw [e2] at e
    rw [List.head?_cons, ← e]
theorem hpx_any (s : ByteArray) (w : World) (hs : s.size ≤ 1048576) :
    Calls Tryz.prog 59 #[.string s, .string ⟨#[36]⟩] w fun e w' => e = .returned (.bool (pfx s)) ∧ w' = w := by
  have HP := hide' (hasPrefixT_any s ⟨#[36]⟩ w hs (by decide))
  have HE : Hid (decide ((⟨#[36]⟩ : ByteArray).size ≤ s.size ∧ s.extract 0 (⟨#[36]⟩ : ByteArray).size = ⟨#[36]⟩) = pfx s) := rfl
  rw [HE.out] at HP
  generalize pfx s = v at *
  go_enter Tryz.func59, Tryz.ntmps59
  go_wp2_with (go_at_call 87; refine HP.out.mono ?_; rintro e1 w1 ⟨rfl, hw1⟩; have hw1' := hw1.symm; subst hw1')
  go_ret
  exact ⟨rfl, rfl⟩
set_option maxRecDepth 100000 in
set_option maxHeartbeats 2000000 in
/-- (*reader).entry, of one that begins with an owner -/
theorem entry_owned (W1 : World) (B b n c l : Nat) (o ow tO : ByteArray) (us la : Int) (fs ts : Value) (R : List Rn) (x : Rn) (tA tI : ByteArray) (w : World) (h : Rr W1 B o ow us la fs ts R w) (hx : RcOk x) (ho : isN o = true) (hBb : b ≠ B)
    (hW : WA w b 0 (⟨tO, false⟩ :: rwW x tA tI)) (hn : n = (tellD x).length + 4) (hc : n ≤ c ∧ c ≤ 9223372036854775807) (hO : readB tO o = (x.o, 0, 0)) (sO : tO.size ≤ 1048576) (hp : pfx tO = false) (hH : Hd x tA tI) (hG : ∀ V, Rr W1 B o x.o us la fs ts R V → GM V) (hGw : GM w) (hR : R.length < 2000) :
    Calls Tryz.prog 30 #[.pointer (some ⟨B, 0, none⟩), enV l false b n c] w fun e w' => e = .returned .nilIface ∧ Rr W1 B o x.o us x.l fs ts (R ++ [x]) w' := by
  have HRE : Hid (∀ V, Below w.heap.size w V → Calls Tryz.prog 55 #[.pointer (some ⟨B, 0, none⟩), .slice (some ⟨b, 0, none⟩) n c] V fun e w' => e = .returned .nilIface ∧ Rr W1 B o x.o us x.l fs ts (R ++ [x]) w') := fun V hV =>
    owned_any W1 B b 0 n c o ow tO us la fs ts R x tA tI V (h.below hV) hx ho hBb (hW.below hV) hn hc hO sO hH hG (hGw.below hV) hR
  have HHP : Hid (∀ V, Calls Tryz.prog 59 #[.string tO, .string ⟨#[36]⟩] V fun e w' => e = .returned (.bool false) ∧ w' = V) := fun V => hp ▸ hpx_any tO V sO
  obtain ⟨wa, hwa⟩ : ∃ wa, w.alloc (.cells #[.int .i64 (l : Int), .bool false, .slice (some ⟨b, 0, none⟩) n c] 82) = wa := ⟨_, rfl⟩
  have hz : wa.heap.size = w.heap.size + 1 := by rw [← hwa]; simp
  have hBa : Below w.heap.size w wa := hwa ▸ (Below.refl _ w).alloc (Nat.le_refl _) _
  have hX : Bx wa w.heap.size #[.int .i64 (l : Int), .bool false, .slice (some ⟨b, 0, none⟩) n c] 82 := hwa ▸ World.alloc_heap_new w _
  have e1 : wa.cell? ⟨w.heap.size, 1, none⟩ = some (.bool false) := hX.cell rfl
  have e2 : wa.cell? ⟨w.heap.size, 2, none⟩ = some (.slice (some ⟨b, 0, none⟩) n c) := hX.cell rfl
  have hWa := hW.below hBa
  obtain ⟨k1, k2⟩ := hWa.head
  have HBb : Hid (Below w.heap.size w (wa.alloc (.cells #[.string tO, .bool false] 121))) := hBa.alloc (by omega) _
  have hY : Bx (wa.alloc (.cells #[.string tO, .bool false] 121)) (w.heap.size + 1) #[.string tO, .bool false] 121 := by
    have := World.alloc_heap_new wa (.cells #[.string tO, .bool false] 121)
    rw [hz] at this
    exact this
  have f1 : (wa.alloc (.cells #[.string tO, .bool false] 121)).cell? ⟨w.heap.size, 1, none⟩ = some (.bool false) := (Bx.al hX _).cell rfl
  have f2 : (wa.alloc (.cells #[.string tO, .bool false] 121)).cell? ⟨w.heap.size, 2, none⟩ = some (.slice (some ⟨b, 0, none⟩) n c) := (Bx.al hX _).cell rfl
  have y0 : (wa.alloc (.cells #[.string tO, .bool false] 121)).cell? ⟨w.heap.size + 1, 0, none⟩ = some (.string tO) := hY.cell rfl
  have y1 : (wa.alloc (.cells #[.string tO, .bool false] 121)).cell? ⟨w.heap.size + 1, 1, none⟩ = some (.bool false) := hY.cell rfl
  have hnl : 4 ≤ n := by omega
  unfold enV
  clear h hW hG hGw hH hWa hX hY hBa hn hO hp
  go_enter Tryz.func30, Tryz.ntmps30
  go_wp2_with (first
    | (go_at_call 59; refine (HHP.out _).mono ?_; rintro e3 w3 ⟨rfl, hw3⟩; have hw3' := hw3.symm; subst hw3')
    | (go_at_call 55; refine (HRE.out _ HBb.out).mono ?_; rintro e3 w3 ⟨rfl, hr3⟩; have HR3 := hide' hr3; clear hr3))
  go_ret
  exact ⟨rfl, HR3.out⟩
set_option maxRecDepth 100000 in
set_option maxHeartbeats 2000000 in
/-- (*reader).entry, of one that tells an origin -/
theorem entry_origin (W1 : World) (B b n c l M : Nat) (o ow tW tN n' : ByteArray) (us la : Int) (fs : Value) (R : List Rn) (w : World) (h : Rr W1 B o ow us la fs (.map (some M)) R w) (hM : w.heap[M]? = some tmM)
    (hW : WA w b 0 [⟨tW, false⟩, ⟨tN, false⟩]) (hn : n = 2) (hc : n ≤ c ∧ c ≤ 9223372036854775807) (hO : readB tN o = (n', 0, 0)) (sO : tN.size ≤ 1048576) (hp : pfx tW = true) (hl : lowB tW = oW) (sW : tW.size ≤ 1048576) (ho : o.size ≤ maxLen) (hGw : GM w) :
    Calls Tryz.prog 30 #[.pointer (some ⟨B, 0, none⟩), enV l false b n c] w fun e w' => e = .returned .nilIface ∧ Rr W1 B n' ow us la fs (.map (some M)) R w' := by
  have HTO : Hid (∀ V, Below w.heap.size w V → Calls Tryz.prog 25 #[.pointer (some ⟨B, 0, none⟩), .slice (some ⟨b, 2, none⟩) (n - 1) (c - 1)] V fun e w' => e = .returned .nilIface ∧ Rr W1 B n' ow us la fs (.map (some M)) R w') := fun V hV => by
    have hr := h.below hV
    obtain ⟨p, cp, h1, h2⟩ := hr.box
    obtain ⟨k1, k2⟩ := (hW.below hV).tail.head
    have := rtellOrigin_any B o ow tN n' us la fs (.map (some M)) _ b 2 (c - 1) V h1 hO sO ho (hGw.below hV).g (by simpa using k1) (by simpa using k2) (by omega)
    rw [show n - 1 = 1 by omega]
    refine this.mono ?_
    rintro e w' ⟨rfl, w1, hB1, rfl⟩
    exact ⟨rfl, (hr.below hB1).origin n'⟩
  have HHP : Hid (∀ V, Calls Tryz.prog 59 #[.string tW, .string ⟨#[36]⟩] V fun e w' => e = .returned (.bool true) ∧ w' = V) := fun V => hp ▸ hpx_any tW V sW
  have HSM : Hid (∀ V, Calls Tryz.prog 60 #[.string tW] V fun e w' => e = .returned (.string oW) ∧ Below V.heap.size V w') := fun V => hl ▸ small_any tW V sW
  have HLK : Hid (∀ V, Below w.heap.size w V → (Instr.lookup 44 (.map (some M)) (.string oW) true).run Tryz.prog V = .ok (.tuple #[.func (.func 25) #[] #[], .bool true]) V) := fun V hV => look_origin V M ((hV.block M (Array.getElem?_eq_some_iff.1 hM).1).trans hM)
  have hBt : ∀ V, Below w.heap.size w V → V.cell? ⟨B, 5, none⟩ = some (.map (some M)) := fun V hV => by
    obtain ⟨p, cp, h1, h2⟩ := (h.below hV).box
    exact Bx.cell h1 rfl
  obtain ⟨wa, hwa⟩ : ∃ wa, w.alloc (.cells #[.int .i64 (l : Int), .bool false, .slice (some ⟨b, 0, none⟩) n c] 82) = wa := ⟨_, rfl⟩
  have hz : wa.heap.size = w.heap.size + 1 := by rw [← hwa]; simp
  have hBa : Below w.heap.size w wa := hwa ▸ (Below.refl _ w).alloc (Nat.le_refl _) _
  have hX : Bx wa w.heap.size #[.int .i64 (l : Int), .bool false, .slice (some ⟨b, 0, none⟩) n c] 82 := hwa ▸ World.alloc_heap_new w _
  have e1 : wa.cell? ⟨w.heap.size, 1, none⟩ = some (.bool false) := hX.cell rfl
  have e2 : wa.cell? ⟨w.heap.size, 2, none⟩ = some (.slice (some ⟨b, 0, none⟩) n c) := hX.cell rfl
  have hWa := hW.below hBa
  obtain ⟨k1, k2⟩ := hWa.head
  have hBb : Below w.heap.size w (wa.alloc (.cells #[.string tW, .bool false] 121)) := hBa.alloc (by omega) _
  have hY : Bx (wa.alloc (.cells #[.string tW, .bool false] 121)) (w.heap.size + 1) #[.string tW, .bool false] 121 := by
    have := World.alloc_heap_new wa (.cells #[.string tW, .bool false] 121)
    rw [hz] at this
    exact this
  have f1 : (wa.alloc (.cells #[.string tW, .bool false] 121)).cell? ⟨w.heap.size, 1, none⟩ = some (.bool false) := (Bx.al hX _).cell rfl
  have f2 : (wa.alloc (.cells #[.string tW, .bool false] 121)).cell? ⟨w.heap.size, 2, none⟩ = some (.slice (some ⟨b, 0, none⟩) n c) := (Bx.al hX _).cell rfl
  have y0 : (wa.alloc (.cells #[.string tW, .bool false] 121)).cell? ⟨w.heap.size + 1, 0, none⟩ = some (.string tW) := hY.cell rfl
  have y1 : (wa.alloc (.cells #[.string tW, .bool false] 121)).cell? ⟨w.heap.size + 1, 1, none⟩ = some (.bool false) := hY.cell rfl
  have bt5 := hBt _ hBb
  have HBb := hide' hBb
  have HBT := hide' hBt
  have hMl : M < w.heap.size := (Array.getElem?_eq_some_iff.1 hM).1
  unfold enV
  clear h hW hGw hWa hX hY hBa hO hp hM hBb hBt
  have p1 : (1 : Int) ≤ (n : Int) := by omega
  have p2 : ¬ c = 1 := by omega
  have p4 : 2 ≤ n := by omega
  clear hn
  go_enter Tryz.func30, Tryz.ntmps30
  go_wp2_with (go_at_call 59; refine (HHP.out _).mono ?_; rintro e3 w3 ⟨rfl, hw3⟩; have hw3' := hw3.symm; subst hw3')
  go_region_law (go_simp; go_at_call 60; refine (HSM.out _).mono ?_; rintro e4 w4 ⟨rfl, hB4⟩; have HB4 := hide' (show Below w.heap.size w w4 by first | exact bstep HBb.out hB4 HBb.out.size | exact bstep (below_drewN HBb.out 1) hB4 (below_drewN HBb.out 1).size | exact bstep (below_drewN HBb.out _) hB4 (below_drewN HBb.out _).size); have hlk := HLK.out w4 HB4.out; have b5 := HBT.out w4 HB4.out; have f4 := (hB4.cell (p := ⟨w.heap.size, 2, none⟩) (Lib.lt_of_cell f2)).trans f2; clear hB4)
  all_goals go_wp2_with (go_at_call 25; refine (HTO.out _ HB4.out).mono ?_; rintro e5 w5 ⟨rfl, hr5⟩; have HR5 := hide' hr5; clear hr5)
  all_goals go_ret
  all_goals exact ⟨rfl, HR5.out⟩
end Go.Proofs.YtiaccimdjfdkgaaGreatDoor
