import Derived.Test.YthabenjghhmicaaGreatZraG
import Derived.Test.YthabenjghhmicaaGreatZq1G
/-
  Proofs: both zones in memory. (The verifier's own text.)
-/
namespace Go.Proofs.YthabenjghhmicaaGreat
set_option linter.unusedVariables false
set_option linter.unusedSimpArgs false
open Go.RowKit Go.Shelf Go.Maps Go.Proofs.YthabenjghhmicaaGreat.Nm Go.Proofs.YthabenjghhmicaaGreat.Zs

/-- a list that rises is told by its members -/
theorem rise_eq : ∀ (A B : List Rn), A.Perm B → A.Pairwise (fun x y => befB x y = true) → B.Pairwise upR2 → A = B
  | [], B, hp, _, _ => by rw [List.nil_perm.1 hp]
  | a :: A, [], hp, _, _ => absurd (List.perm_nil.1 hp) (by simp)
  | a :: A, b :: B, hp, hA, hB => by
    have ha := List.pairwise_cons.1 hA
    have hb := List.pairwise_cons.1 hB
    have e : a = b := by
      rcases List.mem_cons.1 (hp.mem_iff.1 (List.mem_cons_self ..)) with h | h
      · exact h
      · rcases List.mem_cons.1 (hp.mem_iff.2 (List.mem_cons_self ..)) with h' | h'
        · exact h'.symm
        · have l1 : befB a b = false := hb.1 a h
          rw [ha.1 b h'] at l1
          cases l1
    subst e
    rw [rise_eq A B (List.Perm.cons_inv hp) ha.2 hb.2]

/-- both zones in memory: their blocks lie from n up to N -/
structure Zm (n N : Nat) (wr : World) (apex : ByteArray) (L : List Rn) (ord : List Nat) (Z RW NM C m cnt : Nat) (p : Option Addr) (cp : Nat) (f : ByteArray → Option Nat) (zb : Nat) (pm : Option Addr) (cm : Nat) : Prop where
  zon : Zon n wr apex L ord Z RW NM C m cnt p cp f
  yx : Bx wr zb #[.string apex, .slice pm L.length cm] 41
  yo : wr.ownsRow n 54 5 (.slice pm L.length cm) L.length (rce5 (ord.map (rAt L)))
  lt : Z < N ∧ RW < N ∧ NM < N ∧ zb < N ∧ n ≤ zb
  o1 : ∀ g, (Value.slice p L.length cp).ownBlock = some g → g < N
  o2 : ∀ g, (Value.slice pm L.length cm).ownBlock = some g → g < N
  sz : N ≤ wr.heap.size
section
variable {n N : Nat} {wr w2 : World} {apex : ByteArray} {L : List Rn} {ord : List Nat} {Z RW NM C m cnt : Nat} {p : Option Addr} {cp : Nat} {f : ByteArray → Option Nat} {zb : Nat} {pm : Option Addr} {cm : Nat}
theorem Zm.keep (h : Zm n N wr apex L ord Z RW NM C m cnt p cp f zb pm cm) {q : Nat} (hg : wr.grownBy w2 (some q)) (hq : q < n ∨ N ≤ q) : Zm n N w2 apex L ord Z RW NM C m cnt p cp f zb pm cm := by
  obtain ⟨l1, l2, l3, l4, l5⟩ := h.lt
  obtain ⟨g1, g2, g3, g4⟩ := h.zon.ge
  have z := h.zon
  refine ⟨⟨z.zx.grown hg (by simp; omega), z.own.kept hg (Or.inr fun e => ?_), z.rows.grown hg (by simp; omega), z.nm.grown hg (by simp; omega), z.dm, z.laid, z.few, z.kept, z.ge, z.nq.grown hg (by simp; omega), z.nu⟩, h.yx.grown hg (by simp; omega), h.yo.kept hg (Or.inr fun e => ?_), h.lt, h.o1, h.o2, Nat.le_trans h.sz hg.size⟩
  · have := own_ge z.own e
    have := h.o1 _ e
    omega
  · have := own_ge h.yo e
    have := h.o2 _ e
    omega
theorem Zm.step (h : Zm n N wr apex L ord Z RW NM C m cnt p cp f zb pm cm) (hb : Below wr.heap.size wr w2) : Zm n N w2 apex L ord Z RW NM C m cnt p cp f zb pm cm :=
  ⟨h.zon.step hb, h.yx.below hb h.yx.lt, own_below h.yo hb, h.lt, h.o1, h.o2, Nat.le_trans h.sz hb.size⟩
theorem Zm.rs (h : Zm n N wr apex L ord Z RW NM C m cnt p cp f zb pm cm) : RsAt wr pm (ord.map (rAt L)) := rsAt_ownZ h.yo h.zon.laid.tlen.symm
theorem Zm.cell (h : Zm n N wr apex L ord Z RW NM C m cnt p cp f zb pm cm) : wr.cell? ⟨zb, 1, none⟩ = some (.slice pm L.length cm) := h.yx.cell rfl
end

theorem below_quietZ {w : World} (m : Nat) : Below w.heap.size w (w.drewN m) := ⟨rfl, rfl, rfl, Nat.le_refl _, fun _ _ => rfl⟩
theorem Zon.pos {n : Nat} {W : World} {apex : ByteArray} {L : List Rn} {ord : List Nat} {Z RW NM C m cnt : Nat} {p : Option Addr} {cp : Nat} {f : ByteArray → Option Nat} (h : Zon n W apex L ord Z RW NM C m cnt p cp f) : 0 < L.length := by
  have h6 : (if hasB L apex 6 = true then (-2 : Int) else -1) = -2 := h.rule (i := 2) (by show 2 < 8; omega)
  rcases Nat.eq_zero_or_pos L.length with h0 | h0
  · exfalso
    have : L = [] := List.eq_nil_of_length_eq_zero h0
    subst this
    simp [hasB] at h6
  · exact h0
theorem own_some {w : World} {b n : Nat} {v : Value} {xs : List Value} (h : w.ownsRow b 54 5 v n xs) (hn : 0 < n) : ∃ g c, v = .slice (some ⟨g, 0, none⟩) n c := by
  obtain ⟨hl, (⟨h1, h0⟩ | ⟨g, cap, cur, h1, _⟩)⟩ := h
  · omega
  · exact ⟨g, cap, h1⟩
/-- what the reference's Make has made -/
structure Mkd (w w' : World) (apex : ByteArray) (L : List Rn) (zb : Nat) (pm : Option Addr) (cm : Nat) (M : List Rn) : Prop where
  ge : w.heap.size ≤ zb
  yx : Bx w' zb #[.string apex, .slice pm L.length cm] 41
  yo : w'.ownsRow w.heap.size 54 5 (.slice pm L.length cm) L.length (rce5 M)
  pm' : M.Perm L
  pw : M.Pairwise upR2
theorem zm_of {n : Nat} {w2 w3 : World} {apex : ByteArray} {L M : List Rn} {ord : List Nat} {Z RW NM C m cnt : Nat} {p : Option Addr} {cp : Nat} {f : ByteArray → Option Nat} {zb : Nat} {pm : Option Addr} {cm : Nat} (h : Zon n w2 apex L ord Z RW NM C m cnt p cp f) (hd : Mkd w2 w3 apex L zb pm cm M) (hn : n ≤ w2.heap.size) (hb : Below w2.heap.size w2 w3) : Zm n w3.heap.size w3 apex L ord Z RW NM C m cnt p cp f zb pm cm := by
  have h3 := h.step hb
  have h4 : fstI (brkB apex L 4) L.length = -2 := h.rule (i := 0) (by show 0 < 8; omega)
  have hT : ord.map (rAt L) = M := rise_eq _ _ (h.laid.perm.trans hd.pm'.symm) (h.laid.rise h4) hd.pw
  have hge := hd.ge
  have ho := hd.yo
  rw [← hT] at ho
  exact ⟨h3, hd.yx, own_baseZ ho hn, ⟨h3.zx.lt, h3.rows.lt, h3.nm.lt, hd.yx.lt, by omega⟩, fun g e => (h3.own.lt g e).2, fun g e => (ho.lt g e).2, Nat.le_refl _⟩
theorem mark_own {w w1 V : World} {g c : Nat} {L : List Rn} (ho : w1.ownsRow w.heap.size 54 5 (.slice (some ⟨g, 0, none⟩) (L.length + 2) c) (L.length + 2) (rce5 (L ++ [spR, spR]))) (hb : Below w1.heap.size w1 V) (hL : L.length ≤ 1048576) :
    Calls Tryz.prog 15 #[.slice (some ⟨g, 0, none⟩) L.length c] V fun r w' => r = .returned (.tuple #[]) ∧ V.grownBy w' (some g) := by
  obtain ⟨rest, hr, _⟩ := rb_ownM (own_below ho hb)
  exact mark2_any g c L.length (L ++ [spR, spR]) rest V hr (by simp) (by simp; omega)
theorem mark_rs {W : World} {b g c n : Nat} {T : List Rn} (ho : W.ownsRow b 54 5 (.slice (some ⟨g, 0, none⟩) n c) n (rce5 T)) (hT : T.length = n) (hL : n ≤ 1048000) :
    Calls Tryz.prog 15 #[.slice (some ⟨g, 0, none⟩) n c] W fun r w' => r = .returned (.tuple #[]) ∧ W.grownBy w' (some g) := by
  obtain ⟨rest, hr, _⟩ := rb_ownM ho
  exact mark2_any g c n T rest W hr (by omega) (by omega)

end Go.Proofs.YthabenjghhmicaaGreat

/-
  What ZoneFinds's loop wants. (The verifier's own text.)
-/
namespace Go.Proofs.YthabenjghhmicaaGreat
set_option linter.unusedVariables false
set_option linter.unusedSimpArgs false
open Go.RowKit Go.Shelf Go.Maps Go.Proofs.YthabenjghhmicaaGreat.Nm Go.Proofs.YthabenjghhmicaaGreat.Zs

theorem qs_stayZ {w w' : World} {p : Option Addr} {l : List Qn} (h : QsAt w p l) (hb : Below w.heap.size w w') : QsAt w' p l := fun k hk => by
  obtain ⟨g, off, h1, h2, h3, h4, h5⟩ := h k hk
  have e := hb.block g h2
  exact ⟨g, off, h1, Nat.lt_of_lt_of_le h2 hb.size, by rw [← h3]; simp [World.cell?, e], by rw [← h4]; simp [World.cell?, e], by rw [← h5]; simp [World.cell?, e]⟩
theorem grown_none {w w' : World} (h : w.grownBy w' none) : Below w.heap.size w w' := ⟨h.os, h.tape, h.output, h.size, fun k hk => h.block k hk (by simp)⟩
theorem Zm.keep2 {n N : Nat} {wr w2 : World} {apex : ByteArray} {L : List Rn} {ord : List Nat} {Z RW NM C m cnt : Nat} {p : Option Addr} {cp : Nat} {f : ByteArray → Option Nat} {zb : Nat} {pm : Option Addr} {cm : Nat} (h : Zm n N wr apex L ord Z RW NM C m cnt p cp f zb pm cm) {r : Option Nat} (hg : wr.grownBy w2 r) (hr : ∀ q, r = some q → N ≤ q) : Zm n N w2 apex L ord Z RW NM C m cnt p cp f zb pm cm := by
  cases r with
  | none => exact h.step (grown_none hg)
  | some q => exact h.keep hg (Or.inr (hr q rfl))
set_option maxRecDepth 100000 in
theorem mark_none (p : Option Addr) (c : Nat) (w : World) : Calls Tryz.prog 15 #[.slice p 0 c] w fun r w' => r = .returned (.tuple #[]) ∧ w' = w := by
  go_enter Tryz.func15, Tryz.ntmps15
  go_wp2_with fail
  go_loopw [5] (fun kv wr => kv = .int .i64 0 ∧ wr = w) (fun _ _ => 0)
  case atStart => exact ⟨rfl, rfl⟩
  case round =>
    obtain ⟨rfl, rfl⟩ := hrel
    go_wp2_with fail
    go_end0
    exact ⟨rfl, rfl⟩
/-- Mark of an own row, empty or not -/
theorem mark_own2 {W : World} {b c n : Nat} {p : Option Addr} {T : List Rn} (ho : W.ownsRow b 54 5 (.slice p n c) n (rce5 T)) (hT : T.length = n) (hL : n ≤ 1048000) :
    Calls Tryz.prog 15 #[.slice p n c] W fun r w' => r = .returned (.tuple #[]) ∧ W.grownBy w' (Value.slice p n c).ownBlock := by
  rcases Nat.eq_zero_or_pos n with h0 | h0
  · subst h0
    refine (mark_none p c W).mono ?_
    rintro r w' ⟨hr, rfl⟩
    exact ⟨hr, grown_refl _ _⟩
  · obtain ⟨g, c', hv⟩ := own_some ho h0
    injection hv with h1 h2 h3
    subst h1 h3
    exact mark_rs ho hT hL
end Go.Proofs.YthabenjghhmicaaGreat
