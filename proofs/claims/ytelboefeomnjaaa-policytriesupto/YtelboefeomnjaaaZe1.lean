import Derived.Test.YtelboefeomnjaaaRw0
import Derived.Test.YtelboefeomnjaaaRn0G
import Derived.Test.YtelboefeomnjaaaFt1G
import Derived.Test.YtelboefeomnjaaaZs1
/-
  Entries of a service in memory: two numbers and a record. (The verifier's own text.)
-/
namespace Go.Proofs.Ytelboefeomnjaaa
set_option linter.unusedVariables false
set_option linter.unusedSimpArgs false
open Go.RowKit Go.Shelf Go.Proofs.Ytelboefeomnjaaa.Nm Go.Proofs.Ytelboefeomnjaaa.Zs

/-- an entry -/
structure Et where
  f : Int
  s : Int
  r : Rn
def et7 (e : Et) : List Value := [.int .i64 e.f, .int .i64 e.s, .string e.r.o, .int .i64 e.r.t, .int .i64 e.r.c, .int .i64 e.r.l, .string e.r.d]
def etV (e : Et) : Value := .agg #[.int .i64 e.f, .int .i64 e.s, .string e.r.o, .int .i64 e.r.t, .int .i64 e.r.c, .int .i64 e.r.l, .string e.r.d]
theorem et7_len (e : Et) : (et7 e).length = 7 := rfl
def zE : Et := ⟨0, 0, ⟨⟨#[]⟩, 0, 0, 0, ⟨#[]⟩⟩⟩
/-- a block of entries -/
def Eb (w : World) (g : Nat) (B : List Et) : Prop := Bx w g (rowV et7 B).toArray 37
/-- seven cells -/
def C7 (w : World) (g o : Nat) (e : Et) : Prop := w.cell? ⟨g, o, none⟩ = some (.int .i64 e.f) ∧ w.cell? ⟨g, o + 1, none⟩ = some (.int .i64 e.s) ∧ w.cell? ⟨g, o + 2, none⟩ = some (.string e.r.o) ∧ w.cell? ⟨g, o + 3, none⟩ = some (.int .i64 e.r.t) ∧ w.cell? ⟨g, o + 4, none⟩ = some (.int .i64 e.r.c) ∧ w.cell? ⟨g, o + 5, none⟩ = some (.int .i64 e.r.l) ∧ w.cell? ⟨g, o + 6, none⟩ = some (.string e.r.d)
theorem Eb.cells {w : World} {g : Nat} {B : List Et} (h : Eb w g B) {k : Nat} (hk : k < B.length) : C7 w g (k * 7) B[k] := by
  have hc : ∀ r, r < 7 → ∀ v, (et7 B[k])[r]? = some v → w.cell? ⟨g, k * 7 + r, none⟩ = some v := fun r hr v hv => Bx.cell h (by rw [List.getElem?_toArray, rowV_get et7_len B k r hk hr]; exact hv)
  exact ⟨hc 0 (by omega) _ rfl, hc 1 (by omega) _ rfl, hc 2 (by omega) _ rfl, hc 3 (by omega) _ rfl, hc 4 (by omega) _ rfl, hc 5 (by omega) _ rfl, hc 6 (by omega) _ rfl⟩
theorem Eb.free {w : World} {g : Nat} {B : List Et} (h : Eb w g B) (k : Nat) : w.frozen? ⟨g, k, none⟩ = false := Bx.free h k
theorem Eb.lt {w : World} {g : Nat} {B : List Et} (h : Eb w g B) : g < w.heap.size := Bx.lt h
theorem Eb.below {w w' : World} {g n : Nat} {B : List Et} (h : Eb w g B) (hb : Below n w w') (hn : g < n) : Eb w' g B := Bx.below h hb hn
/-- an entry is written -/
def set7 (w : World) (g o : Nat) (e : Et) : World := ((((((w.setCell ⟨g, o, none⟩ (.int .i64 e.f)).setCell ⟨g, o + 1, none⟩ (.int .i64 e.s)).setCell ⟨g, o + 2, none⟩ (.string e.r.o)).setCell ⟨g, o + 3, none⟩ (.int .i64 e.r.t)).setCell ⟨g, o + 4, none⟩ (.int .i64 e.r.c)).setCell ⟨g, o + 5, none⟩ (.int .i64 e.r.l)).setCell ⟨g, o + 6, none⟩ (.string e.r.d)
theorem set7_cells (w : World) (g o : Nat) (e : Et) : set7 w g o e = w.setCells g o (et7 e) := rfl
theorem Eb.put {w : World} {g : Nat} {B : List Et} (h : Eb w g B) {j : Nat} (hj : j < B.length) (e : Et) : Eb (set7 w g (j * 7) e) g (B.set j e) := by
  have hs : B = B.take j ++ B[j] :: B.drop (j + 1) := by rw [List.getElem_cons_drop, List.take_append_drop]
  have hl : (rowV et7 (B.take j)).length = j * 7 := by rw [rowV_len et7_len, List.length_take]; congr 1; omega
  unfold Eb at h ⊢
  rw [set7_cells]
  have h2 : Bx w g (rowV et7 (B.take j) ++ et7 B[j] ++ rowV et7 (B.drop (j + 1))).toArray 37 := by
    have e1 : rowV et7 B = rowV et7 (B.take j) ++ et7 B[j] ++ rowV et7 (B.drop (j + 1)) := by
      conv => lhs; rw [hs]
      rw [rowV_app, List.append_assoc]
      rfl
    rw [← e1]
    exact h
  have h3 := bx_setCells (et7 e) (rowV et7 (B.take j)) (et7 B[j]) (rowV et7 (B.drop (j + 1))) rfl w h2
  rw [hl] at h3
  have e2 : rowV et7 (B.set j e) = rowV et7 (B.take j) ++ et7 e ++ rowV et7 (B.drop (j + 1)) := by
    rw [List.set_eq_take_append_cons_drop, if_pos hj, rowV_app, List.append_assoc]
    rfl
  rw [e2]
  exact h3
theorem grown_set7 (w : World) (g o : Nat) (e : Et) : w.grownBy (set7 w g o e) (some g) := by rw [set7_cells]; exact grown_setCells g _ _ _
/-- the entry of a number -/
def eAt (E : List Et) (k : Nat) : Et := E.getD k zE
theorem eAt_get {E : List Et} {k : Nat} (h : k < E.length) : E[k] = eAt E k := by unfold eAt; rw [List.getD_eq_getElem?_getD, List.getElem?_eq_getElem h]; rfl
/-- a row that is being sorted: numbers of entries -/
def Nb (E : List Et) (w : World) (g : Nat) (L : List Nat) : Prop := Eb w g (L.map (eAt E))
theorem Nb.cells {E : List Et} {w : World} {g : Nat} {L : List Nat} (h : Nb E w g L) {k : Nat} (hk : k < L.length) : C7 w g (k * 7) (eAt E (ix L k)) := by
  have h1 := Eb.cells h (k := k) (by rw [List.length_map]; exact hk)
  rw [List.getElem_map] at h1
  have h2 := ix_get? hk
  rw [List.getElem?_eq_getElem hk] at h2
  rw [Option.some.inj h2] at h1
  exact h1
theorem Nb.free {E : List Et} {w : World} {g : Nat} {L : List Nat} (h : Nb E w g L) (k : Nat) : w.frozen? ⟨g, k, none⟩ = false := Bx.free h k
theorem Nb.lt {E : List Et} {w : World} {g : Nat} {L : List Nat} (h : Nb E w g L) : g < w.heap.size := Bx.lt h
theorem Nb.below {E : List Et} {w w' : World} {g n : Nat} {L : List Nat} (h : Nb E w g L) (hb : Below n w w') (hn : g < n) : Nb E w' g L := Bx.below h hb hn
theorem Nb.set {E : List Et} {w : World} {g : Nat} {L : List Nat} (h : Nb E w g L) {i : Nat} (hi : i < L.length) (v : Nat) : Nb E (set7 w g (i * 7) (eAt E v)) g (L.set i v) := by
  have := Eb.put h (j := i) (by rw [List.length_map]; exact hi) (eAt E v)
  unfold Nb
  rw [List.map_set]
  exact this
theorem Nb.sw {E : List Et} {w : World} {g : Nat} {L : List Nat} (h : Nb E w g L) {i j : Nat} (hi : i < L.length) (hj : j < L.length) : Nb E (set7 (set7 w g (i * 7) (eAt E (ix L j))) g (j * 7) (eAt E (ix L i))) g (sw L i j) := (h.set hi (ix L j)).set (by rw [List.length_set]; exact hj) (ix L i)
/-- where a sort stands -/
structure Nw (E : List Et) (w wr : World) (g : Nat) (L L' : List Nat) : Prop where
  nb : Nb E wr g L'
  pm : L'.Perm L
  gr : w.grownBy wr (some g)
section
variable {E : List Et} {w wr w1 w2 : World} {g : Nat} {L L' L1 L2 : List Nat}
theorem Nw.len (h : Nw E w wr g L L') : L'.length = L.length := h.pm.length_eq
theorem Nw.swapped (h : Nw E w wr g L L') {i j : Nat} (hi : i < L.length) (hj : j < L.length) : Nw E w (set7 (set7 wr g (i * 7) (eAt E (ix L' j))) g (j * 7) (eAt E (ix L' i))) g L (sw L' i j) :=
  ⟨h.nb.sw (by rw [h.len]; exact hi) (by rw [h.len]; exact hj), (sw_perm (by rw [h.len]; exact hi) (by rw [h.len]; exact hj)).trans h.pm, grown_trans h.gr (grown_trans (grown_set7 wr g _ _) (grown_set7 _ g _ _))⟩
theorem Nw.drewN (h : Nw E w wr g L L') (n : Nat) : Nw E w (wr.drewN n) g L L' := ⟨h.nb, h.pm, grown_trans h.gr (grown_drewN _ _ _)⟩
theorem Nw.drew (h : Nw E w wr g L L') : Nw E w wr.drew g L L' := h.drewN 1
theorem Nw.next (h : Nw E w w1 g L L1) (k : Nw E w1 w2 g L1 L2) : Nw E w w2 g L L2 := ⟨k.nb, k.pm.trans h.pm, grown_trans h.gr k.gr⟩
theorem Nw.below (h : Nw E w wr g L L') (hb : Below wr.heap.size wr w2) : Nw E w w2 g L L' := ⟨h.nb.below hb h.nb.lt, h.pm, grown_trans h.gr (grown_below hb _)⟩
/-- what stands at the second place once the first is written -/
theorem Nb.any (h : Nb E w g L) {i j : Nat} (hi : i < L.length) (hj : j < L.length) (v : Nat) : ∃ e : Et, C7 (set7 w g (i * 7) (eAt E v)) g (j * 7) e := ⟨_, (h.set hi v).cells (by rw [List.length_set]; exact hj)⟩
end
end Go.Proofs.Ytelboefeomnjaaa
