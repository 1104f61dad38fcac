import Derived.Test.YthabenjghhmicaaGreatZraG
import Derived.Test.YthabenjghhmicaaGreatZq1G
import Derived.Test.YthabenjghhmicaaGreatZgpG
import Derived.Test.YthabenjghhmicaaGreatZg6G
namespace Go.Proofs.YthabenjghhmicaaGreat
set_option linter.unusedVariables false
set_option linter.unusedSimpArgs false
open Go.RowKit Go.Shelf Go.Maps Go.Proofs.YthabenjghhmicaaGreat.Nm Go.Proofs.YthabenjghhmicaaGreat.Zs
theorem rise_eq : ∀ (A B : List Rn), A.Perm B → A.Pairwise (fun x y => befB x y = true) → B.Pairwise upR2 → A = B
 | [], B, hp, _, _ => by rw [List.nil_perm.1 hp]
 | a :: A, [], hp, _, _ => absurd (List.perm_nil.1 hp) (by simp)
 | a :: A, b :: B, hp, hA, hB => by
  have ha := List.pairwise_cons.1 hA
  have hb := List.pairwise_cons.1 hB
  have e : a = b := by
   rcases List.mem_cons.1 (hp.mem_iff.1 (List.mem_cons_self ..)) with h | h
   ·exact h
   ·rcases List.mem_cons.1 (hp.mem_iff.2 (List.mem_cons_self ..)) with h' | h'
    ·exact h'.symm
    ·have l1 : befB a b = false := hb.1 a h
     rw [ha.1 b h'] at l1
     cases l1
  subst e
  rw [rise_eq A B (List.Perm.cons_inv hp) ha.2 hb.2]
structure Zm (n N : Nat) (wr : World) (apex : ByteArray) (L : List Rn) (ord : List Nat) (Z RW NM C m cnt : Nat) (p : Option Addr) (cp : Nat) (f : ByteArray → Option Nat) (zb : Nat) (pm : Option Addr) (cm : Nat) : Prop where
 zon : Zon n wr apex L ord Z RW NM C m cnt p cp f
 yx : Bx wr zb #[.string apex, .slice pm L.length cm] 41
 yo : wr.ownsRow n 54 5 (.slice pm L.length cm) L.length (rce5 (ord.map (rAt L)))
 lt : Z < N ∧ RW < N ∧ NM < N ∧ zb < N ∧ n ≤ zb
 o1 : ∀ g, (Value.slice p L.length cp).ownBlock = some g → g < N
 o2 : ∀ g, (Value.slice pm L.length cm).ownBlock = some g → g < N
 sz : N ≤ wr.heap.size
section
variable {n N : Nat} {wr w2 : World} {apex : ByteArray} {L : List Rn} {ord : List Nat} {Z RW NM C m cnt : Nat} {p : Option Addr} {cp : Nat} {f : ByteArray → Option Nat} {zb : Nat} {pm : Option Addr} {cm : Nat}
theorem Zm.keep (h : Zm n N wr apex L ord Z RW NM C m cnt p cp f zb pm cm) {q : Nat} (hg : wr.grownBy w2 (some q)) (hq : q < n ∨ N ≤ q) : Zm n N w2 apex L ord Z RW NM C m cnt p cp f zb pm cm := by
 obtain ⟨l1, l2, l3, l4, l5⟩ := h.lt
 obtain ⟨g1, g2, g3, g4⟩ := h.zon.ge
 have z := h.zon
 refine ⟨⟨z.zx.grown hg (by simp; omega), z.own.kept hg (Or.inr fun e => ?_), z.rows.grown hg (by simp; omega), z.nm.grown hg (by simp; omega), z.dm, z.laid, z.few, z.kept, z.ge⟩, h.yx.grown hg (by simp; omega), h.yo.kept hg (Or.inr fun e => ?_), h.lt, h.o1, h.o2, Nat.le_trans h.sz hg.size⟩
 ·have := own_ge z.own e
  have := h.o1 _ e
  omega
 ·have := own_ge h.yo e
  have := h.o2 _ e
  omega
theorem Zm.step (h : Zm n N wr apex L ord Z RW NM C m cnt p cp f zb pm cm) (hb : Below wr.heap.size wr w2) : Zm n N w2 apex L ord Z RW NM C m cnt p cp f zb pm cm :=
     ⟨h.zon.step hb, h.yx.below hb h.yx.lt, own_below h.yo hb, h.lt, h.o1, h.o2, Nat.le_trans h.sz hb.size⟩
theorem Zm.rs (h : Zm n N wr apex L ord Z RW NM C m cnt p cp f zb pm cm) : RsAt wr pm (ord.map (rAt L)) := rsAt_ownZ h.yo h.zon.laid.tlen.symm
theorem Zm.cell (h : Zm n N wr apex L ord Z RW NM C m cnt p cp f zb pm cm) : wr.cell? ⟨zb, 1, none⟩ = some (.slice pm L.length cm) := h.yx.cell rfl
end
theorem below_quietZ {w : World} (m : Nat) : Below w.heap.size w (w.drewN m) := ⟨rfl, rfl, rfl, Nat.le_refl _, fun _ _ => rfl⟩
theorem Zon.pos {n : Nat} {W : World} {apex : ByteArray} {L : List Rn} {ord : List Nat} {Z RW NM C m cnt : Nat} {p : Option Addr} {cp : Nat} {f : ByteArray → Option Nat} (h : Zon n W apex L ord Z RW NM C m cnt p cp f) : 0 < L.length := by
 have h6 : (if hasB L apex 6 = true then (-2 : Int) else -1) = -2 := h.rule (i := 2) (by show 2 < 8; omega)
 rcases Nat.eq_zero_or_pos L.length with h0 | h0
 ·exfalso
  have : L = [] := List.eq_nil_of_length_eq_zero h0
  subst this
  simp [hasB] at h6
 ·exact h0
structure Mkd (w w' : World) (apex : ByteArray) (L : List Rn) (zb : Nat) (pm : Option Addr) (cm : Nat) (M : List Rn) : Prop where
 ge : w.heap.size ≤ zb
 yx : Bx w' zb #[.string apex, .slice pm L.length cm] 41
 yo : w'.ownsRow w.heap.size 54 5 (.slice pm L.length cm) L.length (rce5 M)
 pm' : M.Perm L
 pw : M.Pairwise upR2
theorem zm_of {n : Nat} {w2 w3 : World} {apex : ByteArray} {L M : List Rn} {ord : List Nat} {Z RW NM C m cnt : Nat} {p : Option Addr} {cp : Nat} {f : ByteArray → Option Nat} {zb : Nat} {pm : Option Addr} {cm : Nat} (h : Zon n w2 apex L ord Z RW NM C m cnt p cp f) (hd : Mkd w2 w3 apex L zb pm cm M) (hn : n ≤ w2.heap.size) (hb : Below w2.heap.size w2 w3) : Zm n w3.heap.size w3 apex L ord Z RW NM C m cnt p cp f zb pm cm := by
 have h3 := h.step hb
 have h4 : fstI (brkB apex L 4) L.length = -2 := h.rule (i := 0) (by show 0 < 8; omega)
 have hT : ord.map (rAt L) = M := rise_eq _ _ (h.laid.perm.trans hd.pm'.symm) (h.laid.rise h4) hd.pw
 have hge := hd.ge
 have ho := hd.yo
 rw [← hT] at ho
 exact ⟨h3, hd.yx, own_baseZ ho hn, ⟨h3.zx.lt, h3.rows.lt, h3.nm.lt, hd.yx.lt, by omega⟩, fun g e => (h3.own.lt g e).2, fun g e => (ho.lt g e).2, Nat.le_refl _⟩
end Go.Proofs.YthabenjghhmicaaGreat
namespace Go.Proofs.YthabenjghhmicaaGreat
set_option linter.unusedVariables false
set_option linter.unusedSimpArgs false
open Go.RowKit Go.Shelf Go.Maps Go.Proofs.YthabenjghhmicaaGreat.Nm Go.Proofs.YthabenjghhmicaaGreat.Zs
section
variable {n N : Nat} {wr w2 : World} {apex : ByteArray} {L : List Rn} {ord : List Nat} {Z RW NM C m cnt : Nat} {p : Option Addr} {cp : Nat} {f : ByteArray → Option Nat} {zb : Nat} {pm : Option Addr} {cm : Nat}
theorem Zm.yz (h : Zm n N wr apex L ord Z RW NM C m cnt p cp f zb pm cm) : Yz wr zb apex (ord.map (rAt L)) pm cm := by
 have hT := h.zon.laid.tlen
 have hx := h.yx
 rw [← hT] at hx
 exact ⟨hx, h.rs, h.zon.laid.tok, by rw [hT]; exact h.zon.few⟩
theorem Zm.rfind (h : Zm n N wr apex L ord Z RW NM C m cnt p cp f zb pm cm) (q : ByteArray) (t : Int) (hq : q.size ≤ 1048576) :
  Calls Tryz.prog 14 #[.pointer (some ⟨zb, 0, none⟩), .string q, .int .i64 t] wr (FdE (findB apex (ord.map (rAt L)) q t) wr) := by
 rw [find_both h.zon.laid.na h.zon.ownIn h.zon.rthApex]
 exact rfind_any h.yz q t hq h.zon.laid.na h.zon.rthApex
theorem Zm.find (h : Zm n N wr apex L ord Z RW NM C m cnt p cp f zb pm cm) (q : ByteArray) (t : Int) (hq : q.size ≤ 1048576) :
  Calls Tryz.prog 12 #[.pointer (some ⟨Z, 0, none⟩), .string q, .int .i64 t] wr (FdE (findB apex (ord.map (rAt L)) q t) wr) := find_any h.zon q t hq
end
end Go.Proofs.YthabenjghhmicaaGreat
