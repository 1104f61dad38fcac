import Derived.Test.YtjnmbgmdkkiidaaGreatWc3G
import Derived.Test.YtjnmbgmdkkiidaaGreatAp1
import Derived.Shelf.RegionOpen
import Derived.WalkKit
import Derived.WalkSpells
import Derived.WalkLawsBesides
import Derived.OwnWalkIn
import Derived.BigQuiet
import Derived.Deep.QuietTactic
import Derived.RangeFuncBox
import Derived.Lib.SlBytesRow
import Derived.Test.YtjnmbgmdkkiidaaGreatLowG
import Derived.Test.YtjnmbgmdkkiidaaGreatBt1
import Derived.Test.YtjnmbgmdkkiidaaGreatPk1
import Derived.Lib.AppendStr
import Derived.Maps.OwnSet
import Derived.Maps.OwnOps
import Derived.Lib.AppendZeros
namespace Go.Proofs.YtjnmbgmdkkiidaaGreat
set_option linter.unusedVariables false
open Go.RowKit Go.Shelf Go.Proofs.YtjnmbgmdkkiidaaGreat.Nm

/-- a row whose block stays -/
theorem own_blk {w w' : World} {n e size k : Nat} {v : Value} {xs : List Value} (h : w.ownsRow n e size v k xs) (hb : ∀ g, v.ownBlock = some g → w'.heap[g]? = w.heap[g]?) : w'.ownsRow n e size v k xs := by
  obtain ⟨hl, (h0 | ⟨g, cap, cur, rfl, hg, hc, rest⟩)⟩ := h
  · exact ⟨hl, .inl h0⟩
  · exact ⟨hl, .inr ⟨g, cap, cur, rfl, hg, (hb g rfl).trans hc, rest⟩⟩
/-- a store into a row of one's own -/
theorem own_put {w : World} {base e size g n cap : Nat} {xs : List Value} (h : w.ownsRow base e size (.slice (some ⟨g, 0, none⟩) n cap) n xs) (j : Nat) (hj : j < n * size) (u : Value) :
    (w.setCell ⟨g, j, none⟩ u).ownsRow base e size (.slice (some ⟨g, 0, none⟩) n cap) n (xs.set j u) := by
  obtain ⟨hl, (⟨h1, h2⟩ | ⟨g', cap', cur, h1, hb, hg, hn, hcm, hcs, htk⟩)⟩ := h
  · cases h1
  · injection h1 with h1 h2 h3
    injection h1 with h1
    injection h1 with h1
    subst h1; subst h3
    refine ⟨by simpa using hl, .inr ⟨g, cap, cur.setIfInBounds j u, rfl, hb, ?_, hn, hcm, by simpa using hcs, ?_⟩⟩
    · simp [World.setCell, Array.getElem?_modify, hg]
    · rw [← htk]
      simp [List.take_set]
theorem own_off {w : World} {base e size g b j n cap : Nat} {xs : List Value} (h : w.ownsRow base e size (.slice (some ⟨g, 0, none⟩) n cap) n xs) (hne : g ≠ b) (u : Value) :
    (w.setCell ⟨b, j, none⟩ u).ownsRow base e size (.slice (some ⟨g, 0, none⟩) n cap) n xs := own_blk h (fun x e => by
      have : g = x := by simpa [Value.ownBlock] using e
      subst this
      exact Below.heap_setCell _ _ _ g hne)
theorem own_cell {w : World} {base e size g n cap : Nat} {xs : List Value} (h : w.ownsRow base e size (.slice (some ⟨g, 0, none⟩) n cap) n xs) (j : Nat) (hj : j < n * size) : ∃ u, w.cell? ⟨g, j, none⟩ = some u ∧ w.frozen? ⟨g, j, none⟩ = false := by
  have h1 := h.cellAt j hj
  have hl := h.1
  rw [List.getElem?_eq_getElem (by omega)] at h1
  refine ⟨_, h1, ?_⟩
  rcases h.2 with ⟨h2, _⟩ | ⟨g', cap', cur, h2, hb, hg, _⟩
  · cases h2
  · injection h2 with h2
    injection h2 with h2
    injection h2 with h2
    subst h2
    simp [World.frozen?, hg]
end Go.Proofs.YtjnmbgmdkkiidaaGreat

namespace Go.Proofs.YtjnmbgmdkkiidaaGreat
set_option linter.unusedVariables false
open Go.RowKit Go.Shelf Go.Proofs.YtjnmbgmdkkiidaaGreat.Nm

theorem grown_drewN (w : World) (n : Nat) (r : Option Nat) : w.grownBy (w.drewN n) r := ⟨rfl, rfl, rfl, Nat.le_refl _, fun _ _ _ => rfl⟩
theorem grown_set (w : World) (g j : Nat) (u : Value) : w.grownBy (w.setCell ⟨g, j, none⟩ u) (some g) :=
  ⟨rfl, rfl, rfl, by simp [World.setCell], fun b hb hne => Below.heap_setCell _ _ _ b (by show b ≠ g; exact fun e => hne (by rw [e]))⟩
theorem grown_refl (w : World) (r : Option Nat) : w.grownBy w r := ⟨rfl, rfl, rfl, Nat.le_refl _, fun _ _ _ => rfl⟩
theorem grown_below {w w' : World} (h : Below w.heap.size w w') (r : Option Nat) : w.grownBy w' r := ⟨h.os, h.tape, h.output, h.size, fun k hk _ => h.block k hk⟩
theorem grown_trans {a b c : World} {r : Option Nat} (h : a.grownBy b r) (k : b.grownBy c r) : a.grownBy c r :=
  ⟨k.os.trans h.os, k.tape.trans h.tape, k.output.trans h.output, Nat.le_trans h.size k.size, fun j hj hne => (k.block j (Nat.lt_of_lt_of_le hj h.size) hne).trans (h.block j hj hne)⟩
theorem set_size (w : World) (a : Addr) (v : Value) : (w.setCell a v).heap.size = w.heap.size := by simp [World.setCell]

/-- a box in memory -/
def Bx (w : World) (R : Nat) (cs : Array Value) (T : TypeId) : Prop := w.heap[R]? = some (.cells cs T (0, 0))
section
variable {w w' : World} {R : Nat} {cs : Array Value} {T : TypeId}
theorem Bx.lt (h : Bx w R cs T) : R < w.heap.size := (Array.getElem?_eq_some_iff.1 h).1
theorem Bx.cell (h : Bx w R cs T) {j : Nat} {v : Value} (hj : cs[j]? = some v) : w.cell? ⟨R, j, none⟩ = some v := by unfold Bx at h; simp [World.cell?, h, hj]
theorem Bx.free (h : Bx w R cs T) (j : Nat) : w.frozen? ⟨R, j, none⟩ = false := by unfold Bx at h; simp [World.frozen?, h]
theorem Bx.set (h : Bx w R cs T) (j : Nat) (u : Value) : Bx (w.setCell ⟨R, j, none⟩ u) R (cs.setIfInBounds j u) T := by
  unfold Bx at *
  simp [World.setCell, Array.getElem?_modify, h]
theorem Bx.grown {r : Option Nat} (h : Bx w R cs T) (hg : w.grownBy w' r) (hne : r ≠ some R) : Bx w' R cs T := (hg.block R h.lt (fun e => hne e.symm)).trans h
theorem Bx.below {n : Nat} (h : Bx w R cs T) (hb : Below n w w') (hn : R < n) : Bx w' R cs T := (hb.block R hn).trans h
end
theorem bx3 {w : World} {R : Nat} {T : TypeId} {a b c : Value} (h : Bx w R #[a, b, c] T) : w.cell? ⟨R, 0, none⟩ = some a ∧ w.cell? ⟨R, 1, none⟩ = some b ∧ w.cell? ⟨R, 2, none⟩ = some c ∧ w.frozen? ⟨R, 0, none⟩ = false ∧ w.frozen? ⟨R, 1, none⟩ = false ∧ w.frozen? ⟨R, 2, none⟩ = false :=
  ⟨h.cell rfl, h.cell rfl, h.cell rfl, h.free 0, h.free 1, h.free 2⟩
theorem bx3_set {w : World} {R : Nat} {T : TypeId} {a b c : Value} (h : Bx w R #[a, b, c] T) (x y z : Value) : Bx (((w.setCell ⟨R, 0, none⟩ x).setCell ⟨R, 1, none⟩ y).setCell ⟨R, 2, none⟩ z) R #[x, y, z] T := ((h.set 0 x).set 1 y).set 2 z
theorem grown_far1 {w w' : World} {r : Option Nat} (h : w.grownBy w' r) {R : Nat} (hR : w.heap.size ≤ R) (j : Nat) (u : Value) : w.grownBy (w'.setCell ⟨R, j, none⟩ u) r :=
  ⟨h.os, h.tape, h.output, by rw [set_size]; exact h.size, fun b hb hne => (Below.heap_setCell _ _ _ b (by show b ≠ R; omega)).trans (h.block b hb hne)⟩
theorem own_shape {w : World} {base e size : Nat} {v : Value} {n : Nat} {xs : List Value} (h : w.ownsRow base e size v n xs) : ∃ p c, v = .slice p n c ∧ n ≤ c ∧ c ≤ maxLen ∧ (p = none → c = 0) := by
  obtain ⟨hl, (⟨rfl, rfl⟩ | ⟨g, cap, cur, rfl, hb, hg, hn, hcap, hsz, ht⟩)⟩ := h
  · exact ⟨none, 0, rfl, Nat.le_refl _, Nat.zero_le _, fun _ => rfl⟩
  · exact ⟨_, cap, rfl, hn, hcap, fun e => by cases e⟩
end Go.Proofs.YtjnmbgmdkkiidaaGreat

namespace Go.Proofs.YtjnmbgmdkkiidaaGreat
set_option linter.unusedVariables false
open Go.RowKit Go.Shelf Go.Maps Go.Proofs.YtjnmbgmdkkiidaaGreat.Nm

/-- where a row lies behind an append of a text -/
theorem run_append_place_str {P : Program} (w : World) (base : Nat) (t u ty e : TypeId) (i : TypeInfo) (ht : P.underlying t = some (.slice e)) (hu : P.underlying u = some .string) (hi : P.info? e = some i) (hz : i.zero = some (.int .u8 0))
    (hsize : i.size = 1) (hby : i.bytes = 1) (v : Value) (n : Nat) (xs : List Value) (hown : w.ownsRow base e 1 v n xs) (s : ByteArray)
    (h63 : n + s.size ≤ maxLen) (hbytes : n + s.size ≤ 140737488355328) (hbase : base ≤ w.heap.size) :
    ∃ v' w', (Builtin.append_ #[t, u] ty #[v, .string s]).run P w = .ok v' w' ∧ w'.ownsRow base e 1 v' (n + s.size) (xs ++ Lib.strCells s) ∧ w.grownBy w' v.ownBlock ∧
      (v'.ownBlock = v.ownBlock ∨ v'.ownBlock = some w.heap.size) := by
  obtain ⟨v', w', hr, h2, h3, h4⟩ := Lib.run_append_own_string (P := P) w base t u ty e i ht hu hi hz hsize hby v n xs hown s h63 hbytes hbase
  refine ⟨v', w', hr, h2, h3, ?_⟩
  have hsmall : n + s.size ≤ 9223372036854775807 := by simp only [maxLen] at h63; omega
  have hxl : xs.length = n := by simpa using hown.1
  rcases hown.2 with ⟨rfl, rfl⟩ | ⟨g, cap, cur, rfl, hbg, hg, hnc, hcm, hcs, htake⟩
  · by_cases hm : s.size = 0
    · rw [h4.2 ⟨rfl, hm⟩]; exact .inl rfl
    · rw [run_append_nil_string (P := P) w t u ty e i (.int .u8 0) ht hu hi hz s (by omega) (by omega) (by rw [hby]; omega)] at hr
      injection hr with hr1 hr2
      rw [← hr1]; exact .inr rfl
  · by_cases hroom : n + s.size ≤ cap
    · rw [Lib.run_append_room_string (P := P) w t u ty e i ht hu hi hsize g n cap cur hg s hroom (by simp at hcs; omega)] at hr
      injection hr with hr1 hr2
      rw [← hr1]; exact .inl rfl
    · rw [Lib.run_append_grow_string (P := P) w t u ty e i (.int .u8 0) ht hu hi hz ⟨g, 0, none⟩ n cap xs (by rw [hsize]; simpa using hxl) (hown.cells (g := g) rfl) s (by omega) (by omega) (by rw [hby]; exact growslice_fits (by omega) (by omega))] at hr
      injection hr with hr1 hr2
      rw [← hr1]; exact .inr rfl
theorem wpList_append_apart_str {P : Program} (w : World) {ops : Array Oper} {rest : List Oper} {o : Oper} {a : Act} {Q : Exit → Act → World → Prop} (hgd : o.guard = none) (sl x : Operand) (t u : TypeId)
    (ho : o.op = .call { callee := .builtin .append, args := #[sl, x], argTypes := #[t, u] })
    (base : Nat) (e : TypeId) (i : TypeInfo) (ht : P.underlying t = some (.slice e)) (hu : P.underlying u = some .string) (hi : P.info? e = some i) (hz : i.zero = some (.int .u8 0))
    (hsize : i.size = 1) (hby : i.bytes = 1)
    (v : Value) (n : Nat) (xs : List Value) (hs : a.eval sl = v) (hown : w.ownsRow base e 1 v n xs) (s : ByteArray) (hx : a.eval x = .string s)
    (h63 : n + s.size ≤ maxLen) (hbytes : n + s.size ≤ 140737488355328) (hbase : base ≤ w.heap.size)
    (h : ∀ v' w', w'.ownsRow base e 1 v' (n + s.size) (xs ++ Lib.strCells s) → w.grownBy w' v.ownBlock → (v'.ownBlock = v.ownBlock ∨ v'.ownBlock = some w.heap.size) → wpList P ops Q rest (a.put o.dst v') w') : wpList P ops Q (o :: rest) a w := by
  refine wpList_plain hgd fun K hK => ?_
  obtain ⟨v', w', hr, h2, h3, h4⟩ := run_append_place_str (P := P) w base t u o.type e i ht hu hi hz hsize hby v n xs hown s h63 hbytes hbase
  unfold Oper.wp execOp
  simp only [ho, resolve, invoke, builtin, Sem.run_bind, Sem.run_pure, Result.andThen_ok, List.map_toArray, List.map_cons, List.map_nil, hs, hx, hr]
  exact hK _ _ (h v' w' h2 h3 h4)

theorem key_ne {a b : ByteArray} (h : a ≠ b) : Lit.string b.data.toList ≠ Lit.string a.data.toList := fun e => by
  injection e with e
  exact h (ByteArray.ext (Array.ext' e.symm))
theorem tabD_isMap : ∀ t : Tab, IsMap (List.foldr (fun (x : ByteArray × Nat) (d : DataW Unit) => d.put (.string x.1.data.toList) (.lit (.int .i64 (x.2 : Int)))) (.map []) t)
  | [] => isMap_empty
  | (n, p) :: t => (tabD_isMap t).put _ _
theorem tabD_has : ∀ (t : Tab) (n : ByteArray), Maps.has (List.foldr (fun (x : ByteArray × Nat) (d : DataW Unit) => d.put (.string x.1.data.toList) (.lit (.int .i64 (x.2 : Int)))) (.map []) t) (.string n.data.toList) = (tabF t n).isSome
  | [], n => rfl
  | (k, p) :: t, n => by
    show Maps.has (DataW.put (List.foldr (fun (x : ByteArray × Nat) (d : DataW Unit) => d.put (.string x.1.data.toList) (.lit (.int .i64 (x.2 : Int)))) (.map []) t) (.string k.data.toList) (.lit (.int .i64 (p : Int)))) _ = _
    unfold tabF
    by_cases e : k = n
    · subst e; rw [if_pos rfl, has_put_same (tabD_isMap t) (show WideAt.IsKeyLit (.string _) from trivial)]; rfl
    · rw [if_neg e, has_put_other (key_ne e)]; exact tabD_has t n
theorem tabD_at : ∀ (t : Tab) (n : ByteArray) (p : Nat) (z : DataW Unit), tabF t n = some p → (List.foldr (fun (x : ByteArray × Nat) (d : DataW Unit) => d.put (.string x.1.data.toList) (.lit (.int .i64 (x.2 : Int)))) (.map []) t).atKey (.string n.data.toList) z = .lit (.int .i64 (p : Int))
  | [], n, p, z, h => by simp [tabF] at h
  | (k, q) :: t, n, p, z, h => by
    unfold tabF at h
    show (DataW.put (List.foldr (fun (x : ByteArray × Nat) (d : DataW Unit) => d.put (.string x.1.data.toList) (.lit (.int .i64 (x.2 : Int)))) (.map []) t) (.string k.data.toList) (.lit (.int .i64 (q : Int)))).atKey _ z = _
    by_cases e : k = n
    · subst e; rw [if_pos rfl] at h; injection h with h; subst h; exact atKey_put_same (tabD_isMap t) (show WideAt.IsKeyLit (.string _) from trivial) _ _
    · rw [if_neg e] at h; rw [atKey_put_other (key_ne e)]; exact tabD_at t n p z h

/-- what turns while a message is written: the packer, its map, its row of bytes -/
structure Fz (w w' : World) (P Mb : Nat) (v : Value) : Prop where
  os : w'.os = w.os
  tape : w'.tape = w.tape
  output : w'.output = w.output
  size : w.heap.size ≤ w'.heap.size
  block : ∀ k, k < w.heap.size → k ≠ P → k ≠ Mb → v.ownBlock ≠ some k → w'.heap[k]? = w.heap[k]?
/-- where the bytes lie -/
def Loc (w : World) (v v' : Value) : Prop := ∀ q, v'.ownBlock = some q → v.ownBlock = some q ∨ w.heap.size ≤ q
theorem Loc.refl (w : World) (v : Value) : Loc w v v := fun q h => .inl h
theorem Fz.refl (w : World) (P Mb : Nat) (v : Value) : Fz w w P Mb v := ⟨rfl, rfl, rfl, Nat.le_refl _, fun _ _ _ _ _ => rfl⟩
theorem Fz.step {w w1 w2 : World} {P Mb : Nat} {v : Value} {r : Option Nat} (h : Fz w w1 P Mb v) (k : w1.grownBy w2 r) (hr : ∀ q, r = some q → q < w.heap.size → q = P ∨ q = Mb ∨ v.ownBlock = some q) : Fz w w2 P Mb v :=
  ⟨k.os.trans h.os, k.tape.trans h.tape, k.output.trans h.output, Nat.le_trans h.size k.size, fun j hj h1 h2 h3 => (k.block j (Nat.lt_of_lt_of_le hj h.size) (fun e => by
    rcases hr j e.symm hj with e | e | e
    · exact h1 e
    · exact h2 e
    · exact h3 e)).trans (h.block j hj h1 h2 h3)⟩
theorem Fz.trans {w w1 w2 : World} {P Mb : Nat} {v v1 : Value} (h : Fz w w1 P Mb v) (k : Fz w1 w2 P Mb v1) (hl : Loc w v v1) : Fz w w2 P Mb v :=
  ⟨k.os.trans h.os, k.tape.trans h.tape, k.output.trans h.output, Nat.le_trans h.size k.size, fun j hj h1 h2 h3 => (k.block j (Nat.lt_of_lt_of_le hj h.size) h1 h2 (fun e => by
    rcases hl j e with e | e
    · exact h3 e
    · omega)).trans (h.block j hj h1 h2 h3)⟩
theorem Loc.trans {w w1 : World} {P Mb : Nat} {v v1 v2 : Value} (h : Loc w v v1) (hf : Fz w w1 P Mb v) (k : Loc w1 v1 v2) : Loc w v v2 := fun q e => by
  rcases k q e with e | e
  · exact h q e
  · exact .inr (Nat.le_trans hf.size e)
/-- a packer in memory -/
structure Pk (w : World) (P Mb base : Nat) (v : Value) (s : PS) : Prop where
  bx : Bx w P #[v, .map (some Mb)] 47
  own : w.ownsRow base 5 1 v s.out.size (Lib.strCells s.out)
  mp : w.ownsMap Tryz.prog 9 (plainElem (H := Unit) Tryz.prog 3) Mb s.tab.length (List.foldr (fun (x : ByteArray × Nat) (d : DataW Unit) => d.put (.string x.1.data.toList) (.lit (.int .i64 (x.2 : Int)))) (.map []) s.tab)
  bP : base ≤ P
  bM : base ≤ Mb
  nP : v.ownBlock ≠ some P
  nM : v.ownBlock ≠ some Mb
  PM : P ≠ Mb
theorem Pk.lt {w : World} {P Mb base : Nat} {v : Value} {s : PS} (h : Pk w P Mb base v s) : P < w.heap.size ∧ Mb < w.heap.size ∧ base ≤ w.heap.size := ⟨h.bx.lt, h.mp.lt, Nat.le_of_lt (Nat.lt_of_le_of_lt h.bP h.bx.lt)⟩
/-- nothing of it turns -/
theorem Pk.keep {w w' : World} {P Mb base : Nat} {v : Value} {s : PS} {r : Option Nat} (h : Pk w P Mb base v s) (hg : w.grownBy w' r) (h1 : r ≠ some P) (h2 : r ≠ some Mb) (h3 : ∀ q, r = some q → v.ownBlock ≠ some q) : Pk w' P Mb base v s :=
  ⟨h.bx.grown hg h1, own_blk h.own (fun g e => hg.block g (h.own.lt g e).2 (fun e2 => h3 g e2.symm e)), h.mp.kept hg (fun e => h2 e.symm), h.bP, h.bM, h.nP, h.nM, h.PM⟩
theorem Pk.alloc {w : World} {P Mb base : Nat} {v : Value} {s : PS} (h : Pk w P Mb base v s) (o : Obj) : Pk (w.alloc o) P Mb base v s := h.keep (World.grownBy_alloc w o none) (by simp) (by simp) (fun q e => by cases e)
/-- the bytes grow -/
theorem Pk.put {w w1 : World} {P Mb base : Nat} {v v' : Value} {s : PS} {o : ByteArray} (h : Pk w P Mb base v s) (hown : w1.ownsRow base 5 1 v' o.size (Lib.strCells o)) (hg : w.grownBy w1 v.ownBlock) (hp : v'.ownBlock = v.ownBlock ∨ v'.ownBlock = some w.heap.size) :
    Pk (w1.setCell ⟨P, 0, none⟩ v') P Mb base v' ⟨o, s.tab⟩ ∧ Fz w (w1.setCell ⟨P, 0, none⟩ v') P Mb v ∧ Loc w v v' := by
  obtain ⟨l1, l2, l3⟩ := h.lt
  have hne : ∀ x, x < w.heap.size → v.ownBlock ≠ some x → v'.ownBlock ≠ some x := fun x hx h1 e => by
    rcases hp with h2 | h2
    · exact h1 (h2 ▸ e)
    · rw [h2] at e; injection e with e; omega
  have hP := hne P l1 h.nP
  have hM := hne Mb l2 h.nM
  have hg2 := grown_set w1 P 0 v'
  refine ⟨⟨(h.bx.grown hg h.nP).set 0 v', own_blk hown (fun g e => Below.heap_setCell _ _ _ g (fun e2 => hP (by rw [e]; exact congrArg some e2))), (h.mp.kept hg (fun e => h.nM e.symm)).kept hg2 (fun e => h.PM (by injection e with e; exact e.symm)), h.bP, h.bM, hP, hM, h.PM⟩, ((Fz.refl w P Mb v).step hg (fun q e _ => .inr (.inr e))).step hg2 (fun q e _ => by injection e with e; exact .inl e.symm), fun q e => ?_⟩
  rcases hp with h2 | h2
  · exact .inl (h2 ▸ e)
  · rw [h2] at e; injection e with e; exact .inr (by omega)
def PkE (P Mb base : Nat) (v : Value) (s : PS) (w : World) (e : Ending) (w' : World) : Prop := e = .returned (.tuple #[]) ∧ ∃ v', Pk w' P Mb base v' s ∧ Fz w w' P Mb v ∧ Loc w v v'
end Go.Proofs.YtjnmbgmdkkiidaaGreat

namespace Go.Proofs.YtjnmbgmdkkiidaaGreat
set_option linter.unusedVariables false
open Go.RowKit Go.Shelf Go.Maps Go.Proofs.YtjnmbgmdkkiidaaGreat.Nm

set_option maxRecDepth 100000 in
set_option maxHeartbeats 4000000 in
/-- (*writer).text -/
theorem wtext_any (P Mb base : Nat) (v : Value) (s : PS) (t : ByteArray) (w : World) (h : Pk w P Mb base v s) (hz : s.out.size ≤ 1099511627776) (ht : t.size ≤ 1048576) :
    Calls Tryz.prog 65 #[.pointer (some ⟨P, 0, none⟩), .string t] w (PkE P Mb base v ⟨s.out ++ t, s.tab⟩ w) := by
  obtain ⟨i0, hi, hz0, hz1, hz2⟩ := info_parts Tryz.infoByte
  obtain ⟨l1, l2, l3⟩ := h.lt
  have c0 : w.cell? ⟨P, 0, none⟩ = some v := h.bx.cell rfl
  have hown := h.own
  have H := hide' h
  clear h
  go_enter Tryz.func65, Tryz.ntmps65
  go_wp2_with (at_builtin; refine wpList_append_apart_str _ rfl _ _ 27 9 rfl base 5 i0 Tryz.underlying27 Tryz.underlying9 hi hz0 hz1 hz2 v _ _ rfl hown t rfl (by unfold maxLen; omega) (by omega) l3 ?_; intro v6 w6 hown6 hgrow6 hpl6; obtain ⟨p6, c6, rfl, _⟩ := own_shape hown6; have HO6 := hide' hown6; have HG6 := hide' hgrow6; have HP6 := hide' hpl6; have hb6 := H.out.bx.grown hgrow6 H.out.nP; have cc6 := hb6.cell (j := 0) rfl; have ff6 := hb6.free 0; clear hown6 hgrow6 hpl6 hb6)
  go_end0
  obtain ⟨r1, r2, r3⟩ := H.out.put (o := s.out ++ t) (by rw [ByteArray.size_append, strCells_append]; exact HO6.out) HG6.out HP6.out
  exact ⟨rfl, _, r1, r2, r3⟩

theorem own_setB {w : World} {base g cap : Nat} {o : ByteArray} (h : w.ownsRow base 5 1 (.slice (some ⟨g, 0, none⟩) o.size cap) o.size (Lib.strCells o)) (k x : Nat) (hk : k < o.size) (hx : x < 256) :
    (w.setCell ⟨g, k, none⟩ (.int .u8 (x : Int))).ownsRow base 5 1 (.slice (some ⟨g, 0, none⟩) o.size cap) o.size (Lib.strCells ⟨o.data.setIfInBounds k (UInt8.ofNat x)⟩) := by
  rw [strCells_set o k x hx]
  exact own_put h k (by omega) _
/-- a byte of the row is set -/
theorem Pk.set1 {w : World} {P Mb base g cap : Nat} {s : PS} (h : Pk w P Mb base (.slice (some ⟨g, 0, none⟩) s.out.size cap) s) (k x : Nat) (hk : k < s.out.size) (hx : x < 256) :
    Pk (w.setCell ⟨g, k, none⟩ (.int .u8 (x : Int))) P Mb base (.slice (some ⟨g, 0, none⟩) s.out.size cap) ⟨⟨s.out.data.setIfInBounds k (UInt8.ofNat x)⟩, s.tab⟩ := by
  have hs : (⟨s.out.data.setIfInBounds k (UInt8.ofNat x)⟩ : ByteArray).size = s.out.size := Array.size_setIfInBounds
  have hP : g ≠ P := fun e => h.nP (by rw [e]; rfl)
  have hM : g ≠ Mb := fun e => h.nM (by rw [e]; rfl)
  exact ⟨h.bx.grown (grown_set w g k _) (fun e => hP (Option.some.inj e)), by rw [hs]; exact own_setB h.own k x hk hx, h.mp.kept (grown_set w g k _) (fun e => hM (Option.some.inj e).symm), h.bP, h.bM, h.nP, h.nM, h.PM⟩

theorem grown_drew (w : World) (r : Option Nat) : w.grownBy w.drew r := ⟨rfl, rfl, rfl, Nat.le_refl _, fun _ _ _ => rfl⟩
theorem Pk.drew {w : World} {P Mb base : Nat} {v : Value} {s : PS} (h : Pk w P Mb base v s) : Pk w.drew P Mb base v s := h.keep (grown_drew w none) (by simp) (by simp) (fun q e => by cases e)
theorem Pk.c0 {w : World} {P Mb base : Nat} {v : Value} {s : PS} (h : Pk w P Mb base v s) : w.cell? ⟨P, 0, none⟩ = some v := h.bx.cell rfl
theorem Pk.row_cell {w : World} {P Mb base g cap m : Nat} {s : PS} (h : Pk w P Mb base (.slice (some ⟨g, 0, none⟩) m cap) s) (k : Nat) (hk : k < m) : ∃ u, w.cell? ⟨g, k, none⟩ = some u ∧ w.frozen? ⟨g, k, none⟩ = false := by
  have hm : m = s.out.size := by
    rcases h.own.2 with ⟨h1, h0⟩ | ⟨g', cap', cur, h1, _⟩
    · cases h1
    · injection h1
  subst hm
  exact own_cell h.own k (by omega)
theorem Pk.put1 {w : World} {P Mb base g cap m : Nat} {s : PS} (h : Pk w P Mb base (.slice (some ⟨g, 0, none⟩) m cap) s) (k x : Nat) (hk : k < m) (hx : x < 256) :
    Pk (w.setCell ⟨g, k, none⟩ (.int .u8 (x : Int))) P Mb base (.slice (some ⟨g, 0, none⟩) m cap) ⟨⟨s.out.data.setIfInBounds k (UInt8.ofNat x)⟩, s.tab⟩ := by
  have hm : m = s.out.size := by
    rcases h.own.2 with ⟨h1, h0⟩ | ⟨g', cap', cur, h1, _⟩
    · cases h1
    · injection h1
  subst hm
  exact h.set1 k x hk hx
set_option maxRecDepth 100000 in
set_option maxHeartbeats 4000000 in
/-- (*writer).set, of two bytes -/
theorem wset2_any (P Mb base : Nat) (v : Value) (s : PS) (k n : Nat) (w : World) (h : Pk w P Mb base v s) (hz : s.out.size ≤ 1099511627776) (hk : k + 2 ≤ s.out.size) (hn : n < 65536) :
    Calls Tryz.prog 59 #[.pointer (some ⟨P, 0, none⟩), .int .i64 (k : Int), .int .i64 (n : Int), .int .i64 2] w (PkE P Mb base v ⟨putAt s.out k [n / 256, n % 256], s.tab⟩ w) := by
  obtain ⟨g, cap, rfl⟩ : ∃ g cap, v = .slice (some ⟨g, 0, none⟩) s.out.size cap := by
    rcases h.own.2 with ⟨h1, h0⟩ | ⟨g, cap, cur, h1, _⟩
    · omega
    · exact ⟨g, cap, h1⟩
  have c0 : w.cell? ⟨P, 0, none⟩ = some (.slice (some ⟨g, 0, none⟩) s.out.size cap) := h.bx.cell rfl
  obtain ⟨u0, e0, f0⟩ := own_cell h.own k (by omega)
  have h1 := h.set1 k (n / 256) (by omega) (by omega)
  have hsz : (⟨s.out.data.setIfInBounds k (UInt8.ofNat (n / 256))⟩ : ByteArray).size = s.out.size := Array.size_setIfInBounds
  have hq1 : ((n / 256 : Nat) : Int) = (n : Int) / 256 := by simp
  have hq2 : ((n % 256 : Nat) : Int) = (n : Int) % 256 := by simp
  rw [hq1] at h1
  have c1 : (w.setCell ⟨g, k, none⟩ (.int .u8 ((n : Int) / 256))).drew.cell? ⟨P, 0, none⟩ = some (.slice (some ⟨g, 0, none⟩) s.out.size cap) := h1.bx.cell rfl
  obtain ⟨u1, e1, f1⟩ := own_cell (w := (w.setCell ⟨g, k, none⟩ (.int .u8 ((n : Int) / 256))).drew) (by have := h1.own; rw [hsz] at this; exact this) (k + 1) (by omega)
  have H2 := hide' (Pk.set1 (s := ⟨⟨s.out.data.setIfInBounds k (UInt8.ofNat (n / 256))⟩, s.tab⟩) (cap := cap) (by rw [hsz]; exact h1) (k + 1) (n % 256) (by rw [hsz]; omega) (by omega))
  rw [hsz, hq2] at H2
  have hg := h.nP
  clear h h1 hsz hq1 hq2
  go_enter Tryz.func59, Tryz.ntmps59
  go_wp2
  refine wp_loop_rounds 3 ?_
  rw [rounds_succ]
  go_wp2
  go_region
  go_wp2
  rw [rounds_succ]
  go_wp2
  go_region
  go_wp2
  rw [rounds_succ]
  go_wp2
  go_end0
  exact ⟨rfl, _, H2.out.drew.drew, ((((Fz.refl w P Mb (.slice (some ⟨g, 0, none⟩) s.out.size cap)).step (grown_set w g k _) (fun q e _ => .inr (.inr e))).step (grown_set _ g (k + 1) _) (fun q e _ => .inr (.inr e))).step (grown_drew _ none) (fun q e => by cases e)).step (grown_drew _ none) (fun q e => by cases e), Loc.refl _ _⟩

set_option maxRecDepth 100000 in
set_option maxHeartbeats 4000000 in
/-- (*writer).set, of four bytes -/
theorem wset4_any (P Mb base : Nat) (v : Value) (s : PS) (k n : Nat) (w : World) (h : Pk w P Mb base v s) (hz : s.out.size ≤ 1099511627776) (hk : k + 4 ≤ s.out.size) (hn : n < 4294967296) :
    Calls Tryz.prog 59 #[.pointer (some ⟨P, 0, none⟩), .int .i64 (k : Int), .int .i64 (n : Int), .int .i64 4] w (PkE P Mb base v ⟨putAt s.out k [n / 16777216, n / 65536 % 256, n / 256 % 256, n % 256], s.tab⟩ w) := by
  obtain ⟨g, cap, rfl⟩ : ∃ g cap, v = .slice (some ⟨g, 0, none⟩) s.out.size cap := by
    rcases h.own.2 with ⟨h1, h0⟩ | ⟨g, cap, cur, h1, _⟩
    · omega
    · exact ⟨g, cap, h1⟩
  obtain ⟨a0, ha0⟩ : ∃ a : Nat, n / 16777216 = a := ⟨_, rfl⟩
  obtain ⟨a1, ha1⟩ : ∃ a : Nat, n / 65536 % 256 = a := ⟨_, rfl⟩
  obtain ⟨a2, ha2⟩ : ∃ a : Nat, n / 256 % 256 = a := ⟨_, rfl⟩
  obtain ⟨a3, ha3⟩ : ∃ a : Nat, n % 256 = a := ⟨_, rfl⟩
  have i0 : (n : Int) / 16777216 = (a0 : Int) := by omega
  have i1 : (n : Int) / 65536 % 256 = (a1 : Int) := by omega
  have i2 : (n : Int) / 256 % 256 = (a2 : Int) := by omega
  have i3 : (n : Int) % 256 = (a3 : Int) := by omega
  rw [ha0, ha1, ha2, ha3]
  have p0 := h.put1 k a0 (by omega) (by omega)
  have p1 := p0.put1 (k + 1) a1 (by omega) (by omega)
  have p2 := p1.put1 (k + 2) a2 (by omega) (by omega)
  have P3 := hide' (p2.put1 (k + 3) a3 (by omega) (by omega))
  have c0 : w.cell? ⟨P, 0, none⟩ = some (.slice (some ⟨g, 0, none⟩) s.out.size cap) := h.bx.cell rfl
  obtain ⟨u0, e0, f0⟩ := h.row_cell k (by omega)
  obtain ⟨u1, e1, f1⟩ := p0.drew.row_cell (k + 1) (by omega)
  obtain ⟨u2, e2, f2⟩ := p1.drew.drew.row_cell (k + 2) (by omega)
  obtain ⟨u3, e3, f3⟩ := p2.drew.drew.drew.row_cell (k + 3) (by omega)
  have c1 := p0.drew.c0
  have c2 := p1.drew.drew.c0
  have c3 := p2.drew.drew.drew.c0
  clear p0 p1 p2 h ha0 ha1 ha2 ha3
  go_enter Tryz.func59, Tryz.ntmps59
  go_wp2
  refine wp_loop_rounds 5 ?_
  rw [rounds_succ]
  go_wp2
  go_region
  go_wp2
  rw [rounds_succ]
  go_wp2
  go_region
  go_wp2
  rw [rounds_succ]
  go_wp2
  go_region
  go_wp2
  rw [rounds_succ]
  go_wp2
  go_region
  go_wp2
  rw [rounds_succ]
  go_wp2
  go_end0
  have hv : ∀ q, some g = some q → Value.ownBlock (.slice (some ⟨g, 0, none⟩) s.out.size cap) = some q := fun q e => e
  exact ⟨rfl, _, P3.out.drew.drew.drew.drew, ((((((((Fz.refl w P Mb (.slice (some ⟨g, 0, none⟩) s.out.size cap)).step (grown_set w g k _) (fun q e _ => .inr (.inr e))).step (grown_set _ g (k + 1) _) (fun q e _ => .inr (.inr e))).step (grown_set _ g (k + 2) _) (fun q e _ => .inr (.inr e))).step (grown_set _ g (k + 3) _) (fun q e _ => .inr (.inr e))).step (grown_drew _ none) (fun q e => by cases e)).step (grown_drew _ none) (fun q e => by cases e)).step (grown_drew _ none) (fun q e => by cases e)).step (grown_drew _ none) (fun q e => by cases e), Loc.refl _ _⟩
end Go.Proofs.YtjnmbgmdkkiidaaGreat

namespace Go.Proofs.YtjnmbgmdkkiidaaGreat
set_option linter.unusedVariables false
open Go.RowKit Go.Shelf Go.Maps Go.Proofs.YtjnmbgmdkkiidaaGreat.Nm

/-- 'append(v, make([]byte, m)...)' is append of a text of m noughts -/
theorem run_zeros_eq {P : Program} (w : World) (t tn u ty e : TypeId) (i : TypeInfo) (kn k : IntKind) (ht : P.underlying t = some (.slice e)) (htn : P.underlying tn = some (.int kn)) (hu : P.underlying u = some .string) (hi : P.info? e = some i) (hz : i.zero = some (.int .u8 0))
    (hsize : i.size = 1) (hby : i.bytes = 1) (b : Option Addr) (n c : Nat) (s : ByteArray) (h0 : 0 < s.size) (hs : Builtin.zeroCells (Value.int .u8 0).cells s.size = (Lib.strCells s).toArray) (hsm : s.size ≤ 1048576) (hn : n ≤ 1099511627776)
    (hfit : c < n + s.size → Builtin.nextslicecap (n + s.size) c ≤ 281474976710656) :
    (Builtin.append_ #[t, tn] ty #[.slice b n c, .int k (s.size : Int)]).run P w = (Builtin.append_ #[t, u] ty #[.slice b n c, .string s]).run P w := by
  have hw : IntKind.i64.wrap (s.size : Int) = s.size := by rw [IntKind.wrap_i64]; omega
  have hf : ∀ W : World, (Builtin.firstCells 1 s.size (.string s)).run P W = .ok (Lib.strCells s).toArray W := fun W => Lib.run_firstCells_string (P := P) W 1 s
  have hneg : ¬ ((s.size : Int) < 0) := by omega
  have hne : ¬ (s.size = 0) := by omega
  have h63 : ¬ (9223372036854775807 < ((n : Int) + (s.size : Int))) := by omega
  have h48 : ¬ (281474976710656 < (s.size : Int)) := by omega
  by_cases hroom : n + s.size ≤ c
  · simp [Builtin.append_, run_underlying ht, run_underlying htn, run_underlying hu, sizeOf, typeInfo, zeroValue, hi, hz, hsize, hby, asInt, asIntOf, hw, hneg, hne, h48, Builtin.lenOf, hroom, hf, hs]
  · have h48' : ¬ (281474976710656 < Builtin.nextslicecap (n + s.size) c) := by have := hfit (by omega); omega
    simp [Builtin.append_, run_underlying ht, run_underlying htn, run_underlying hu, sizeOf, typeInfo, zeroValue, hi, hz, hsize, hby, asInt, asIntOf, hw, hneg, hne, h48, h63, h48', Builtin.lenOf, hroom, hf, hs, Question.forced]
theorem wpList_append_apart_zeros {P : Program} (w : World) {ops : Array Oper} {rest : List Oper} {o : Oper} {a : Act} {Q : Exit → Act → World → Prop} (hgd : o.guard = none) (sl x : Operand) (t tn u : TypeId)
    (ho : o.op = .call { callee := .builtin .append, args := #[sl, x], argTypes := #[t, tn] })
    (base : Nat) (e : TypeId) (i : TypeInfo) (kn k : IntKind) (ht : P.underlying t = some (.slice e)) (htn : P.underlying tn = some (.int kn)) (hu : P.underlying u = some .string) (hi : P.info? e = some i) (hz : i.zero = some (.int .u8 0))
    (hsize : i.size = 1) (hby : i.bytes = 1)
    (v : Value) (n : Nat) (xs : List Value) (hs : a.eval sl = v) (hown : w.ownsRow base e 1 v n xs) (s : ByteArray) (X : Int) (hx : a.eval x = .int k X) (hX : X = (s.size : Int)) (h0 : 0 < s.size) (hzs : Builtin.zeroCells (Value.int .u8 0).cells s.size = (Lib.strCells s).toArray)
    (hsm : s.size ≤ 1048576) (hn : n ≤ 1099511627776) (hbase : base ≤ w.heap.size)
    (h : ∀ v' w', w'.ownsRow base e 1 v' (n + s.size) (xs ++ Lib.strCells s) → w.grownBy w' v.ownBlock → (v'.ownBlock = v.ownBlock ∨ v'.ownBlock = some w.heap.size) → wpList P ops Q rest (a.put o.dst v') w') : wpList P ops Q (o :: rest) a w := by
  obtain ⟨v', w', hr, h2, h3, h4⟩ := run_append_place_str (P := P) w base t u o.type e i ht hu hi hz hsize hby v n xs hown s (by unfold maxLen; omega) (by omega) hbase
  obtain ⟨p, c, rfl, _⟩ := own_shape hown
  subst hX
  rw [← run_zeros_eq (P := P) w t tn u o.type e i kn k ht htn hu hi hz hsize hby p n c s h0 hzs hsm hn (fun hlt => by have := growslice_fits (bytes := 1) hlt (by omega); omega)] at hr
  exact Lib.wpList_append_run w hgd sl x t tn ho _ _ hs hx v' w' hr (h v' w' h2 h3 h4)
end Go.Proofs.YtjnmbgmdkkiidaaGreat

namespace Go.Proofs.YtjnmbgmdkkiidaaGreat
set_option linter.unusedVariables false
open Go.RowKit Go.Shelf Go.Maps Go.Proofs.YtjnmbgmdkkiidaaGreat.Nm

theorem zeros2 : Builtin.zeroCells (Value.int .u8 0).cells (bts [0, 0]).size = (Lib.strCells (bts [0, 0])).toArray := by kernel_rfl
theorem zeros4 : Builtin.zeroCells (Value.int .u8 0).cells (bts [0, 0, 0, 0]).size = (Lib.strCells (bts [0, 0, 0, 0])).toArray := by kernel_rfl
theorem numB_2 (n : Nat) (h : n < 65536) : numB n 2 = bts [n / 256, n % 256] := by
  unfold numB
  rw [show (List.range 2).map (fun i => n / 256 ^ (2 - 1 - i) % 256) = [n / 256 % 256, n % 256] by simp [List.range_succ], Nat.mod_eq_of_lt (show n / 256 < 256 by omega)]
theorem numB_4 (n : Nat) (h : n < 4294967296) : numB n 4 = bts [n / 16777216, n / 65536 % 256, n / 256 % 256, n % 256] := by
  unfold numB
  rw [show (List.range 4).map (fun i => n / 256 ^ (4 - 1 - i) % 256) = [n / 16777216 % 256, n / 65536 % 256, n / 256 % 256, n % 256] by simp [List.range_succ], Nat.mod_eq_of_lt (show n / 16777216 < 256 by omega)]

set_option maxRecDepth 100000 in
set_option maxHeartbeats 4000000 in
/-- (*writer).number, of 2 bytes -/
theorem wnum2_any (P Mb base : Nat) (v : Value) (s : PS) (n : Nat) (w : World) (h : Pk w P Mb base v s) (hz : s.out.size ≤ 1099511000000) (hn : n < 65536) :
    Calls Tryz.prog 55 #[.pointer (some ⟨P, 0, none⟩), .int .i64 (n : Int), .int .i64 2] w (PkE P Mb base v ⟨s.out ++ numB n 2, s.tab⟩ w) := by
  obtain ⟨i0, hi, hz0, hz1, hz2⟩ := info_parts Tryz.infoByte
  have HQ : Hid (putAt (s.out ++ bts [0, 0]) s.out.size [n / 256, n % 256] = s.out ++ numB n 2) := by
    unfold Hid
    rw [putAt_app [n / 256, n % 256] [0, 0] s.out rfl, numB_2 n hn]
  have hsz : (s.out ++ bts [0, 0]).size = s.out.size + 2 := by rw [ByteArray.size_append, bts_size]; rfl
  obtain ⟨p0, c0, rfl, _⟩ := own_shape h.own
  have x0 := h.c0
  obtain ⟨l1, l2, l3⟩ := h.lt
  have H := hide' h
  have HS := hide' hsz
  have HB2 : Hid ((bts [0, 0]).size = 2) := by unfold Hid; rw [bts_size]; rfl
  clear h hsz
  go_enter Tryz.func55, Tryz.ntmps55
  go_wp2_with (first
    | (at_builtin; go_loud (refine wpList_append_apart_zeros _ rfl _ _ 27 3 9 rfl base 5 i0 .i64 .i64 Tryz.underlying27 Tryz.underlying3 Tryz.underlying9 hi hz0 hz1 hz2 _ _ _ rfl H.out.own (bts [0, 0]) 2 rfl (by rw [bts_size]; rfl) (by rw [bts_size]; decide) zeros2 (by rw [bts_size]; decide) (by omega) l3 ?_; intro v6 w6 hown6 hgrow6 hpl6; rw [HB2.out] at hown6; obtain ⟨p6, c6, rfl, _⟩ := own_shape hown6; have hb6 := H.out.bx.grown hgrow6 H.out.nP; have cc6 := hb6.cell (j := 0) rfl; have ff6 := hb6.free 0; have HP6 := hide' (H.out.put (o := s.out ++ bts [0, 0]) (by rw [HS.out, strCells_append]; exact hown6) hgrow6 hpl6); have cp6 := HP6.out.1.c0; clear hown6 hgrow6 hpl6 hb6))
    | (go_at_call 59; refine (wset2_any P Mb base _ _ s.out.size n _ HP6.out.1 (by rw [HS.out]; omega) (by rw [HS.out]; omega) hn).mono ?_; rintro e w7 ⟨rfl, v7, r1, r2, r3⟩))
  go_end0
  rw [HQ.out] at r1
  exact ⟨rfl, _, r1, HP6.out.2.1.trans r2 HP6.out.2.2, HP6.out.2.2.trans HP6.out.2.1 r3⟩

set_option maxRecDepth 100000 in
set_option maxHeartbeats 4000000 in
/-- (*writer).number, of 4 bytes -/
theorem wnum4_any (P Mb base : Nat) (v : Value) (s : PS) (n : Nat) (w : World) (h : Pk w P Mb base v s) (hz : s.out.size ≤ 1099511000000) (hn : n < 4294967296) :
    Calls Tryz.prog 55 #[.pointer (some ⟨P, 0, none⟩), .int .i64 (n : Int), .int .i64 4] w (PkE P Mb base v ⟨s.out ++ numB n 4, s.tab⟩ w) := by
  obtain ⟨i0, hi, hz0, hz1, hz2⟩ := info_parts Tryz.infoByte
  have HQ : Hid (putAt (s.out ++ bts [0, 0, 0, 0]) s.out.size [n / 16777216, n / 65536 % 256, n / 256 % 256, n % 256] = s.out ++ numB n 4) := by
    unfold Hid
    rw [putAt_app [n / 16777216, n / 65536 % 256, n / 256 % 256, n % 256] [0, 0, 0, 0] s.out rfl, numB_4 n hn]
  have hsz : (s.out ++ bts [0, 0, 0, 0]).size = s.out.size + 4 := by rw [ByteArray.size_append, bts_size]; rfl
  obtain ⟨p0, c0, rfl, _⟩ := own_shape h.own
  have x0 := h.c0
  obtain ⟨l1, l2, l3⟩ := h.lt
  have H := hide' h
  have HS := hide' hsz
  have HB2 : Hid ((bts [0, 0, 0, 0]).size = 4) := by unfold Hid; rw [bts_size]; rfl
  clear h hsz
  go_enter Tryz.func55, Tryz.ntmps55
  go_wp2_with (first
    | (at_builtin; go_loud (refine wpList_append_apart_zeros _ rfl _ _ 27 3 9 rfl base 5 i0 .i64 .i64 Tryz.underlying27 Tryz.underlying3 Tryz.underlying9 hi hz0 hz1 hz2 _ _ _ rfl H.out.own (bts [0, 0, 0, 0]) 4 rfl (by rw [bts_size]; rfl) (by rw [bts_size]; decide) zeros4 (by rw [bts_size]; decide) (by omega) l3 ?_; intro v6 w6 hown6 hgrow6 hpl6; rw [HB2.out] at hown6; obtain ⟨p6, c6, rfl, _⟩ := own_shape hown6; have hb6 := H.out.bx.grown hgrow6 H.out.nP; have cc6 := hb6.cell (j := 0) rfl; have ff6 := hb6.free 0; have HP6 := hide' (H.out.put (o := s.out ++ bts [0, 0, 0, 0]) (by rw [HS.out, strCells_append]; exact hown6) hgrow6 hpl6); have cp6 := HP6.out.1.c0; clear hown6 hgrow6 hpl6 hb6))
    | (go_at_call 59; refine (wset4_any P Mb base _ _ s.out.size n _ HP6.out.1 (by rw [HS.out]; omega) (by rw [HS.out]; omega) hn).mono ?_; rintro e w7 ⟨rfl, v7, r1, r2, r3⟩))
  go_end0
  rw [HQ.out] at r1
  exact ⟨rfl, _, r1, HP6.out.2.1.trans r2 HP6.out.2.2, HP6.out.2.2.trans HP6.out.2.1 r3⟩
end Go.Proofs.YtjnmbgmdkkiidaaGreat
