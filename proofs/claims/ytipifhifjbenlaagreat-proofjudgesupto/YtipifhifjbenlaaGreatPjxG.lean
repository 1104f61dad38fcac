import Derived.Test.YtipifhifjbenlaaGreatPjpG
import Derived.Test.YtipifhifjbenlaaGreatPjkG
import Derived.Test.YtipifhifjbenlaaGreatAp1G
import Derived.Test.YtipifhifjbenlaaGreatPjmG
/-
  Proofs: the reference's gaps that may be used, in memory. (The verifier's own text.)
-/
namespace Go.Proofs.YtipifhifjbenlaaGreat
set_option linter.unusedVariables false
set_option linter.unusedSimpArgs false
open Go.RowKit Go.Shelf Go.Maps Go.Proofs.YtipifhifjbenlaaGreat.Nm

/-- lists that are the same, one by one -/
def RelN : List Gq → List Nq → Prop
  | [], [] => True
  | x :: M, y :: N => NG x y ∧ RelN M N
  | _, _ => False
def RelH : List Gq → List Hq → Prop
  | [], [] => True
  | x :: M, y :: N => HG x y ∧ RelH M N
  | _, _ => False
theorem RelN.len : ∀ {M : List Gq} {N : List Nq}, RelN M N → M.length = N.length
  | [], [], _ => rfl
  | x :: M, y :: N, h => by rw [List.length_cons, List.length_cons, RelN.len h.2]
theorem RelH.len : ∀ {M : List Gq} {N : List Hq}, RelH M N → M.length = N.length
  | [], [], _ => rfl
  | x :: M, y :: N, h => by rw [List.length_cons, List.length_cons, RelH.len h.2]
theorem RelN.snoc : ∀ {M : List Gq} {N : List Nq} {x : Gq} {y : Nq}, RelN M N → NG x y → RelN (M ++ [x]) (N ++ [y])
  | [], [], x, y, _, h => ⟨h, trivial⟩
  | a :: M, b :: N, x, y, h, h2 => ⟨h.1, RelN.snoc h.2 h2⟩
theorem RelH.snoc : ∀ {M : List Gq} {N : List Hq} {x : Gq} {y : Hq}, RelH M N → HG x y → RelH (M ++ [x]) (N ++ [y])
  | [], [], x, y, _, h => ⟨h, trivial⟩
  | a :: M, b :: N, x, y, h, h2 => ⟨h.1, RelH.snoc h.2 h2⟩
/-- those that hash as the first -/
def uhL : List Hq → List Hq
  | [] => []
  | x :: H => hwL x.rd x.sl (x :: H)
theorem hwL_len2 (rd : Nat) (sl : ByteArray) (L : List Hq) : (hwL rd sl L).length ≤ L.length := List.length_filter_le _ _
theorem hw_self (x : Hq) : owB x.rd x.sl x = false := by unfold owB; simp
theorem uhL_cons (x : Hq) (H : List Hq) : uhL (x :: H) = x :: hwL x.rd x.sl H := by
  have e : uhL (x :: H) = (x :: H).filter (fun r => !owB x.rd x.sl r) := rfl
  rw [e, List.filter_cons, hw_self]
  rfl
theorem uhL_snoc (x : Hq) (H : List Hq) (y : Hq) : uhL ((x :: H) ++ [y]) = uhL (x :: H) ++ (if owB x.rd x.sl y = true then [] else [y]) := by
  rw [List.cons_append, uhL_cons, uhL_cons, List.cons_append]
  congr 1
  unfold hwL kh
  rw [List.filter_append]
  congr 1
  rw [List.filter_cons]
  cases owB x.rd x.sl y <;> rfl
/-- gaps as cells -/
def gce (M : List Gq) : List Value := M.flatMap gC
theorem gce_len (M : List Gq) : (gce M).length = M.length * 11 := by
  induction M with
  | nil => rfl
  | cons x M ih =>
    show (gC x ++ gce M).length = _
    rw [List.length_append, ih, List.length_cons]
    show 11 + _ = _
    omega
theorem gce_get (M : List Gq) : ∀ k (h : k < M.length) j, j < 11 → (gce M)[k * 11 + j]? = (gC M[k])[j]? := by
  induction M with
  | nil => intro k h; simp at h
  | cons x M ih =>
    intro k h j hj
    show (gC x ++ gce M)[k * 11 + j]? = _
    have hl : (gC x).length = 11 := rfl
    cases k with
    | zero => rw [List.getElem?_append_left (by omega)]; simp
    | succ k =>
      rw [List.getElem?_append_right (by omega), hl, show (k + 1) * 11 + j - 11 = k * 11 + j by omega]
      exact ih k (by simpa using h) j hj
theorem gce_app (M N : List Gq) : gce (M ++ N) = gce M ++ gce N := by unfold gce; rw [List.flatMap_append]
theorem gce_one (M : List Gq) : ∀ u ∈ gce M, u.oneCell' = true := by
  intro u hu
  obtain ⟨x, _, hx⟩ := List.mem_flatMap.1 hu
  simp [gC] at hx
  rcases hx with rfl | rfl | rfl | rfl | rfl | rfl | rfl | rfl | rfl | rfl | rfl <;> rfl
theorem infoG : (Tryz.prog.info? 43).map (fun i => (i.zero, i.size, i.bytes)) = some (some (.agg #[.string .empty, .int .i64 0, .int .i64 0, .int .i64 0, .string .empty, .bool false, .string .empty, .string .empty, .string .empty, .int .i64 0, .slice none 0 0]), 11, 144) := by kernel_rfl
def GsAt (w : World) (p : Option Addr) (M : List Gq) : Prop := ∀ k (h : k < M.length), ∃ g off, p = some ⟨g, off, none⟩ ∧ g < w.heap.size ∧ ∀ j, j < 11 → w.cell? ⟨g, off + k * 11 + j, none⟩ = (gC M[k])[j]?
theorem GsAt.below {w w' : World} {p : Option Addr} {M : List Gq} (h : GsAt w p M) (hb : Below w.heap.size w w') : GsAt w' p M := fun k hk => by
  obtain ⟨g, off, hp, hg, hc⟩ := h k hk
  exact ⟨g, off, hp, Nat.lt_of_lt_of_le hg hb.size, fun j hj => (hb.cell (p := ⟨g, off + k * 11 + j, none⟩) hg).trans (hc j hj)⟩
theorem gsAt_own {w : World} {base : Nat} {p : Option Addr} {c : Nat} {M : List Gq} (h : w.ownsRow base 43 11 (.slice p M.length c) M.length (gce M)) : GsAt w p M := fun k hk => by
  have h' := h
  obtain ⟨_, (⟨h1, h2⟩ | ⟨g, cap, cur, h1, hb, hg, hn', hcap, _⟩)⟩ := h'
  · omega
  · injection h1 with h1 h2 h3
    subst h1
    refine ⟨g, 0, rfl, (Array.getElem?_eq_some_iff.1 hg).1, fun j hj => ?_⟩
    rw [Nat.zero_add, h.cellAt (k * 11 + j) (by omega), gce_get M k hk j hj]
theorem owns_grownJ {w w' : World} {base e s n : Nat} {v : Value} {xs : List Value} {r : Option Nat} (h : w.ownsRow base e s v n xs) (hg : w.grownBy w' r) (hne : ∀ g, v.ownBlock = some g → r ≠ some g) : w'.ownsRow base e s v n xs := by
  obtain ⟨h0, (h1 | ⟨g, cap, cur, rfl, hb, hg2, hrest⟩)⟩ := h
  · exact ⟨h0, .inl h1⟩
  · have hlt := (Array.getElem?_eq_some_iff.1 hg2).1
    refine ⟨h0, .inr ⟨g, cap, cur, rfl, hb, ?_, hrest⟩⟩
    exact (hg.block g hlt (fun e => hne g rfl e.symm)).trans hg2
theorem ownBlk_lt {w : World} {base e s n : Nat} {v : Value} {xs : List Value} (h : w.ownsRow base e s v n xs) {g : Nat} (hg : v.ownBlock = some g) : g < w.heap.size ∧ base ≤ g := by
  obtain ⟨_, (⟨rfl, _⟩ | ⟨g', cap, cur, rfl, hb, hg2, _⟩)⟩ := h
  · cases hg
  · obtain rfl : g' = g := by simpa [Value.ownBlock] using hg
    exact ⟨(Array.getElem?_eq_some_iff.1 hg2).1, hb⟩
/-- a gap's types, apart from both rows -/
def Tz (W : World) (vn vh : Value) (x : Gq) : Prop := ∀ k (h : k < x.ty.length), ∃ g off, x.p = some ⟨g, off, none⟩ ∧ g < W.heap.size ∧ vn.ownBlock ≠ some g ∧ vh.ownBlock ≠ some g ∧ W.cell? ⟨g, off + k, none⟩ = some (.int .i64 (x.ty[k] : Nat))
theorem Tz.nums {W : World} {vn vh : Value} {x : Gq} (h : Tz W vn vh x) : NumsAt W x.p x.ty := fun k hk => by
  obtain ⟨g, off, h1, h2, _, _, h5⟩ := h k hk
  exact ⟨g, off, h1, h2, h5⟩
theorem Tz.step {W W' : World} {vn vh : Value} {x : Gq} (h : Tz W vn vh x) (hB : Below W.heap.size W W') : Tz W' vn vh x := fun k hk => by
  obtain ⟨g, off, h1, h2, h3, h4, h5⟩ := h k hk
  exact ⟨g, off, h1, Nat.lt_of_lt_of_le h2 hB.size, h3, h4, (hB.cell (p := ⟨g, off + k, none⟩) h2).trans h5⟩
theorem Tz.of {W W' : World} {vn vh : Value} {x : Gq} (h : NumsAt W' x.p x.ty) (hf : ∀ g off, x.p = some ⟨g, off, none⟩ → W.heap.size ≤ g) (hn : ∀ g, vn.ownBlock = some g → g < W.heap.size) (hh : ∀ g, vh.ownBlock = some g → g < W.heap.size) : Tz W' vn vh x := fun k hk => by
  obtain ⟨g, off, h1, h2, h5⟩ := h k hk
  have := hf g off h1
  exact ⟨g, off, h1, h2, fun e => by have := hn g e; omega, fun e => by have := hh g e; omega, h5⟩
theorem Tz.app1 {W W' : World} {vn vh v' : Value} {x : Gq} (h : Tz W vn vh x) (hg : W.grownBy W' vn.ownBlock) (hp : v'.ownBlock = vn.ownBlock ∨ v'.ownBlock = some W.heap.size) : Tz W' v' vh x := fun k hk => by
  obtain ⟨g, off, h1, h2, h3, h4, h5⟩ := h k hk
  refine ⟨g, off, h1, Nat.lt_of_lt_of_le h2 hg.size, ?_, h4, ?_⟩
  · rcases hp with e | e
    · rw [e]; exact h3
    · rw [e]; intro e2; injection e2 with e2; omega
  · rw [hg.cell_far ⟨g, off + k, none⟩ h2 (fun e => h3 e.symm)]; exact h5
theorem Tz.flip {W : World} {vn vh : Value} {x : Gq} (h : Tz W vn vh x) : Tz W vh vn x := fun k hk => by
  obtain ⟨g, off, h1, h2, h3, h4, h5⟩ := h k hk
  exact ⟨g, off, h1, h2, h4, h3, h5⟩
/-- both rows -/
structure Uz (w W : World) (vn vh : Value) (M1 M2 : List Gq) : Prop where
  o1 : W.ownsRow w.heap.size 43 11 vn M1.length (gce M1)
  o2 : W.ownsRow w.heap.size 43 11 vh M2.length (gce M2)
  ap : ∀ g, vn.ownBlock = some g → vh.ownBlock ≠ some g
  b : Below w.heap.size w W
  n1 : ∀ x ∈ M1, Tz W vn vh x
  n2 : ∀ x ∈ M2, Tz W vn vh x
theorem Uz.start (w : World) : Uz w w (.slice none 0 0) (.slice none 0 0) [] [] := ⟨World.ownsRow_nil _ _ _ _, World.ownsRow_nil _ _ _ _, fun g h => (by cases h), Below.refl _ _, fun x h => (by cases h), fun x h => (by cases h)⟩
theorem Uz.step {w W W' : World} {vn vh : Value} {M1 M2 : List Gq} (h : Uz w W vn vh M1 M2) (hB : Below W.heap.size W W') : Uz w W' vn vh M1 M2 := ⟨ownsRow_below h.o1 hB, ownsRow_below h.o2 hB, h.ap, bstep h.b hB h.b.size, fun x hx => (h.n1 x hx).step hB, fun x hx => (h.n2 x hx).step hB⟩
theorem Uz.drew {w W : World} {vn vh : Value} {M1 M2 : List Gq} (h : Uz w W vn vh M1 M2) : Uz w W.drew vn vh M1 M2 := ⟨h.o1, h.o2, h.ap, h.b.drew, h.n1, h.n2⟩
theorem Uz.flip {w W : World} {vn vh : Value} {M1 M2 : List Gq} (h : Uz w W vn vh M1 M2) : Uz w W vh vn M2 M1 := ⟨h.o2, h.o1, fun g e e2 => h.ap g e2 e, h.b, fun x hx => (h.n2 x hx).flip, fun x hx => (h.n1 x hx).flip⟩
theorem Uz.app {w W W' : World} {vn vh v' : Value} {M1 M2 : List Gq} {x : Gq} (h : Uz w W vn vh M1 M2) (hx : Tz W vn vh x) (ho : W'.ownsRow w.heap.size 43 11 v' (M1.length + 1) (gce M1 ++ gC x)) (hg : W.grownBy W' vn.ownBlock) (hp : v'.ownBlock = vn.ownBlock ∨ v'.ownBlock = some W.heap.size) : Uz w W' v' vh (M1 ++ [x]) M2 := by
  refine ⟨?_, owns_grownJ h.o2 hg (fun g e e2 => h.ap g e2 e), fun g e => ?_, h.b.grown hg h.b.size (fun k e => (ownBlk_lt h.o1 e).2), fun y hy => ?_, fun y hy => (h.n2 y hy).app1 hg hp⟩
  · rw [List.length_append, gce_app]
    have e : gce [x] = gC x := by show gC x ++ [] = _; rw [List.append_nil]
    rw [e]
    exact ho
  · rcases hp with e2 | e2
    · rw [e2] at e; exact h.ap g e
    · rw [e2] at e
      injection e with e
      intro e3
      have := (ownBlk_lt h.o2 e3).1
      omega
  · rcases List.mem_append.1 hy with h1 | h1
    · exact (h.n1 y h1).app1 hg hp
    · rw [List.mem_singleton.1 h1]; exact hx.app1 hg hp
end Go.Proofs.YtipifhifjbenlaaGreat

/-
  Proofs: what is shown, what is spanned by the reference's gaps. (The verifier's own text.)
-/
namespace Go.Proofs.YtipifhifjbenlaaGreat
set_option linter.unusedVariables false
set_option linter.unusedSimpArgs false
open Go.RowKit Go.Shelf Go.Maps Go.Proofs.YtipifhifjbenlaaGreat.Nm

/-- what gaps keep to -/
def GOk (x : Gq) : Prop := x.o.size ≤ 1048576 ∧ x.nx.size ≤ 1048576 ∧ x.ty.length ≤ 1048576 ∧ (x.hb = true → x.sl.size ≤ 255) ∧ (x.hb = true → x.rd ≤ 50)
/-- gaps and their types in memory -/
def Gz (W : World) (p : Option Addr) (M : List Gq) : Prop := GsAt W p M ∧ ∀ x ∈ M, NumsAt W x.p x.ty
theorem Gz.below {W W' : World} {p : Option Addr} {M : List Gq} (h : Gz W p M) (hB : Below W.heap.size W W') : Gz W' p M := ⟨h.1.below hB, fun x hx => (h.2 x hx).below hB⟩
theorem Gz.drew {W : World} {p : Option Addr} {M : List Gq} (h : Gz W p M) : Gz W.drew p M := h
def gmX (n : ByteArray) (x : Gq) : Bool := gmB x.hb x.o x.ow x.sl x.rd n
def gsX (n : ByteArray) (x : Gq) : Bool := gsB x.hb x.o x.nx x.ow x.sl x.rd n
def gdX (n : ByteArray) (x : Gq) : Bool := gsX n x && !(awayL x.ty && withinB n x.o)
def glX (t : Int) (x : Gq) : Bool := lackL x.ty t
theorem Gz.at {W : World} {p : Option Addr} {M : List Gq} (h : Gz W p M) {k : Nat} (hk : k < M.length) : ∃ g off, p = some ⟨g, off, none⟩ ∧ W.cell? ⟨g, off + k * 11, none⟩ = some (.string M[k].o) ∧ W.cell? ⟨g, off + k * 11 + 1, none⟩ = some (.int .i64 M[k].t) ∧ W.cell? ⟨g, off + k * 11 + 2, none⟩ = some (.int .i64 M[k].c) ∧ W.cell? ⟨g, off + k * 11 + 3, none⟩ = some (.int .i64 M[k].l) ∧ W.cell? ⟨g, off + k * 11 + 4, none⟩ = some (.string M[k].d) ∧ W.cell? ⟨g, off + k * 11 + 5, none⟩ = some (.bool M[k].hb) ∧ W.cell? ⟨g, off + k * 11 + 6, none⟩ = some (.string M[k].nx) ∧ W.cell? ⟨g, off + k * 11 + 7, none⟩ = some (.string M[k].ow) ∧ W.cell? ⟨g, off + k * 11 + 8, none⟩ = some (.string M[k].sl) ∧ W.cell? ⟨g, off + k * 11 + 9, none⟩ = some (.int .i64 (M[k].rd : Int)) ∧ W.cell? ⟨g, off + k * 11 + 10, none⟩ = some (.slice M[k].p M[k].ty.length M[k].ca) := by
  obtain ⟨g, off, hp, hg, hc⟩ := h.1 k hk
  exact ⟨g, off, hp, (by have h0 := hc 0 (by omega); rw [Nat.add_zero] at h0; exact h0), hc 1 (by omega), hc 2 (by omega), hc 3 (by omega), hc 4 (by omega), hc 5 (by omega), hc 6 (by omega), hc 7 (by omega), hc 8 (by omega), hc 9 (by omega), hc 10 (by omega)⟩
/-- the gap that is looked at -/
def Gl (w W : World) (B : Nat) (x : Gq) (p : Option Addr) (M : List Gq) : Prop := Bx W B #[.string x.o, .int .i64 x.t, .int .i64 x.c, .int .i64 x.l, .string x.d, .bool x.hb, .string x.nx, .string x.ow, .string x.sl, .int .i64 (x.rd : Int), .slice x.p x.ty.length x.ca] 43 ∧ Below w.heap.size w W ∧ Gz W p M
theorem Gl.step {w W W' : World} {B : Nat} {x : Gq} {p : Option Addr} {M : List Gq} (h : Gl w W B x p M) (hB : Below W.heap.size W W') : Gl w W' B x p M := ⟨h.1.below hB h.1.lt, bstep h.2.1 hB h.2.1.size, h.2.2.below hB⟩
theorem Gl.drew {w W : World} {B : Nat} {x : Gq} {p : Option Addr} {M : List Gq} (h : Gl w W B x p M) : Gl w W.drew B x p M := ⟨h.1, h.2.1.drew, h.2.2⟩
theorem Gl.start {w W : World} (x : Gq) {p : Option Addr} {M : List Gq} (hB : Below w.heap.size w W) (h : Gz W p M) : Gl w (W.alloc (.cells #[.string x.o, .int .i64 x.t, .int .i64 x.c, .int .i64 x.l, .string x.d, .bool x.hb, .string x.nx, .string x.ow, .string x.sl, .int .i64 (x.rd : Int), .slice x.p x.ty.length x.ca] 43)) W.heap.size x p M := ⟨World.alloc_heap_new W _, bstep hB ((Below.refl _ _).alloc (Nat.le_refl _) _) hB.size, h.below ((Below.refl _ _).alloc (Nat.le_refl _) _)⟩
theorem Gl.cells {w W : World} {B : Nat} {x : Gq} {p : Option Addr} {M : List Gq} (h : Gl w W B x p M) : W.cell? ⟨B, 0, none⟩ = some (.string x.o) ∧ W.cell? ⟨B, 1, none⟩ = some (.int .i64 x.t) ∧ W.cell? ⟨B, 2, none⟩ = some (.int .i64 x.c) ∧ W.cell? ⟨B, 3, none⟩ = some (.int .i64 x.l) ∧ W.cell? ⟨B, 4, none⟩ = some (.string x.d) ∧ W.cell? ⟨B, 5, none⟩ = some (.bool x.hb) ∧ W.cell? ⟨B, 6, none⟩ = some (.string x.nx) ∧ W.cell? ⟨B, 7, none⟩ = some (.string x.ow) ∧ W.cell? ⟨B, 8, none⟩ = some (.string x.sl) ∧ W.cell? ⟨B, 9, none⟩ = some (.int .i64 (x.rd : Int)) ∧ W.cell? ⟨B, 10, none⟩ = some (.slice x.p x.ty.length x.ca) := ⟨h.1.cell rfl, h.1.cell rfl, h.1.cell rfl, h.1.cell rfl, h.1.cell rfl, h.1.cell rfl, h.1.cell rfl, h.1.cell rfl, h.1.cell rfl, h.1.cell rfl, h.1.cell rfl⟩
theorem gMatches (x : Gq) (n : ByteArray) (W : World) (hx : GOk x) (hn : n.size ≤ 1048576) (h : NumsAt W x.p x.ty) : Calls Tryz.prog 21 #[.agg #[.string x.o, .int .i64 x.t, .int .i64 x.c, .int .i64 x.l, .string x.d, .bool x.hb, .string x.nx, .string x.ow, .string x.sl, .int .i64 (x.rd : Int), .slice x.p x.ty.length x.ca], .string n] W fun r w' => r = .returned (.bool (gmX n x)) ∧ Below W.heap.size W w' := matches_any x.o x.d x.nx x.ow x.sl x.t x.c x.l x.rd x.hb x.p x.ca x.ty n W h hx.1 hn hx.2.2.2.1 hx.2.2.2.2
theorem gSpans (x : Gq) (n : ByteArray) (W : World) (hx : GOk x) (hn : n.size ≤ 1048576) (h : NumsAt W x.p x.ty) : Calls Tryz.prog 25 #[.agg #[.string x.o, .int .i64 x.t, .int .i64 x.c, .int .i64 x.l, .string x.d, .bool x.hb, .string x.nx, .string x.ow, .string x.sl, .int .i64 (x.rd : Int), .slice x.p x.ty.length x.ca], .string n] W fun r w' => r = .returned (.bool (gsX n x)) ∧ Below W.heap.size W w' := spans_any x.o x.d x.nx x.ow x.sl x.t x.c x.l x.rd x.hb x.p x.ca x.ty n W h hx.1 hx.2.1 hn hx.2.2.2.1 hx.2.2.2.2
theorem gLacks (x : Gq) (t : Int) (W : World) (hx : GOk x) (h : NumsAt W x.p x.ty) : Calls Tryz.prog 22 #[.agg #[.string x.o, .int .i64 x.t, .int .i64 x.c, .int .i64 x.l, .string x.d, .bool x.hb, .string x.nx, .string x.ow, .string x.sl, .int .i64 (x.rd : Int), .slice x.p x.ty.length x.ca], .int .i64 t] W fun r w' => r = .returned (.bool (glX t x)) ∧ Below W.heap.size W w' := lacksG_any x.o x.d x.nx x.ow x.sl x.t x.c x.l (x.rd : Int) x.hb x.p x.ca x.ty t W hx.2.2.1 h
theorem gDenies (x : Gq) (n : ByteArray) (W : World) (hx : GOk x) (hn : n.size ≤ 1048576) (h : NumsAt W x.p x.ty) : Calls Tryz.prog 16 #[.agg #[.string x.o, .int .i64 x.t, .int .i64 x.c, .int .i64 x.l, .string x.d, .bool x.hb, .string x.nx, .string x.ow, .string x.sl, .int .i64 (x.rd : Int), .slice x.p x.ty.length x.ca], .string n] W fun r w' => r = .returned (.bool (gdX n x)) ∧ Below W.heap.size W w' := gDenies_any x.o x.d x.nx x.ow x.sl x.t x.c x.l x.rd x.hb x.p x.ca x.ty n W hx.2.2.1 h hx.1 hx.2.1 hn hx.2.2.2.1 hx.2.2.2.2
theorem gAway (x : Gq) (W : World) (hx : GOk x) (h : NumsAt W x.p x.ty) : Calls Tryz.prog 23 #[.agg #[.string x.o, .int .i64 x.t, .int .i64 x.c, .int .i64 x.l, .string x.d, .bool x.hb, .string x.nx, .string x.ow, .string x.sl, .int .i64 (x.rd : Int), .slice x.p x.ty.length x.ca]] W fun r w' => r = .returned (.bool (awayL x.ty)) ∧ Below W.heap.size W w' := gAway_any x.o x.d x.nx x.ow x.sl x.t x.c x.l (x.rd : Int) x.hb x.p x.ca x.ty W hx.2.2.1 h
set_option maxRecDepth 100000 in
set_option maxHeartbeats 4000000 in
/-- gazetteerref4.spanned -/
theorem spanned_any (M : List Gq) (p : Option Addr) (cap : Nat) (n : ByteArray) (w : World) (hM : M.length ≤ 1048576) (hok : ∀ x ∈ M, GOk x) (hn : n.size ≤ 1048576) (hat : Gz w p M) :
    Calls Tryz.prog 24 #[.slice p M.length cap, .string n] w fun r w' => r = .returned (.bool (M.any fun x => gsX n x)) ∧ Below w.heap.size w w' := by
  have HOK := hide' hok
  have HAT := hide' hat
  clear hok hat
  go_enter Tryz.func24, Tryz.ntmps24
  go_wp2_with fail
  go_loopw [9] (fun iv wr => ∃ k : Nat, iv = .int .i64 (k : Int) ∧ k ≤ M.length ∧ Hid (∀ j (hj : j < M.length), j < k → (fun x : Gq => gsX n x) M[j] = false) ∧ Hid (Below w.heap.size w wr)) (fun iv _ => M.length - (intOf iv).toNat)
  case atStart => exact ⟨0, rfl, Nat.zero_le _, (fun j _ h => absurd h (Nat.not_lt_zero _)), Below.refl _ _⟩
  case round =>
    obtain ⟨k, rfl, hk, HN, HB⟩ := hrel
    by_cases hlt : k < M.length
    · have hki : (k : Int) < (M.length : Int) := by omega
      have HGZ := hide' (HAT.out.below HB.out)
      obtain ⟨g, off, rfl, e0, e1, e2, e3, e4, e5, e6, e7, e8, e9, e10⟩ := HGZ.out.at hlt
      have hx := HOK.out _ (List.getElem_mem hlt)
      have HNU : Hid (∀ V p', Gz V p' M → NumsAt V M[k].p M[k].ty) := fun V p' h => h.2 _ (List.getElem_mem hlt)
      have HNX : Hid ((fun x : Gq => gsX n x) M[k] = false → ∀ j (hj : j < M.length), j < k + 1 → (fun x : Gq => gsX n x) M[j] = false) := fun h j hj hjk => by
        rcases Nat.lt_or_ge j k with h' | h'
        · exact HN.out j hj h'
        · obtain rfl : j = k := by omega
          exact h
      have HYE : Hid ((fun x : Gq => gsX n x) M[k] = true → (M.any fun x => gsX n x) = true) := fun h => List.any_eq_true.2 ⟨_, List.getElem_mem hlt, h⟩
      obtain ⟨x, hxe⟩ : ∃ x, M[k] = x := ⟨_, rfl⟩
      rw [hxe] at e0 e1 e2 e3 e4 e5 e6 e7 e8 e9 e10 hx HNU HNX HYE
      clear hxe
      have G0 := hide' (Gl.start x HB.out HGZ.out)
      obtain ⟨W1, hW1⟩ : ∃ W1, wr.alloc (.cells #[.string x.o, .int .i64 x.t, .int .i64 x.c, .int .i64 x.l, .string x.d, .bool x.hb, .string x.nx, .string x.ow, .string x.sl, .int .i64 (x.rd : Int), .slice x.p x.ty.length x.ca] 43) = W1 := ⟨_, rfl⟩
      rw [hW1] at G0
      obtain ⟨d0, d1, d2, d3, d4, d5, d6, d7, d8, d9, d10⟩ := G0.out.cells
      dsimp only at HNX HYE
      have HC := hide' (fun (W : World) (h : NumsAt W x.p x.ty) => gSpans x n W hx hn h)
      cases hp : gsX n x with
      | true =>
        have HY := hide' (HYE.out hp)
        rw [hp] at HC
        clear hp HNX
        go_wp2_with (go_at_call 25; refine (HC.out _ (HNU.out _ _ G0.out.2.2)).mono ?_; rintro r w2 ⟨rfl, hB⟩; have G1 := hide' (G0.out.step hB); clear hB)
        go_ret
        exact ⟨by rw [HY.out]; rfl, G1.out.2.1⟩
      | false =>
        have HY := hide' (HNX.out hp)
        rw [hp] at HC
        clear hp HYE
        go_wp2_with (go_at_call 25; refine (HC.out _ (HNU.out _ _ G0.out.2.2)).mono ?_; rintro r w2 ⟨rfl, hB⟩; have G1 := hide' (G0.out.step hB); clear hB)
        exact ⟨⟨k + 1, by go_num, by omega, HY.out, G1.out.2.1⟩, by simp [intOf]; omega⟩
    · obtain rfl : k = M.length := by omega
      have HA : Hid ((M.any fun x => gsX n x) = false) := by
        unfold Hid
        rw [List.any_eq_false]
        intro x hx
        obtain ⟨j, hj, rfl⟩ := List.getElem_of_mem hx
        have := HN.out j hj hj
        dsimp only at this
        rw [this]
        decide
      go_wp2_with fail
      go_ret
      exact ⟨by rw [HA.out]; rfl, HB.out⟩
set_option maxRecDepth 100000 in
set_option maxHeartbeats 4000000 in
/-- gazetteerref4.shown -/
theorem shown_any (M : List Gq) (p : Option Addr) (cap : Nat) (n : ByteArray) (t : Int) (w : World) (hM : M.length ≤ 1048576) (hok : ∀ x ∈ M, GOk x) (hn : n.size ≤ 1048576) (hat : Gz w p M) :
    Calls Tryz.prog 15 #[.slice p M.length cap, .string n, .int .i64 t] w fun r w' => r = .returned (.bool (M.any fun x => gmX n x && glX t x)) ∧ Below w.heap.size w w' := by
  have HOK := hide' hok
  have HAT := hide' hat
  clear hok hat
  go_enter Tryz.func15, Tryz.ntmps15
  go_wp2_with fail
  go_loopw [11] (fun iv wr => ∃ k : Nat, iv = .int .i64 (k : Int) ∧ k ≤ M.length ∧ Hid (∀ j (hj : j < M.length), j < k → (fun x : Gq => gmX n x && glX t x) M[j] = false) ∧ Hid (Below w.heap.size w wr)) (fun iv _ => M.length - (intOf iv).toNat)
  case atStart => exact ⟨0, rfl, Nat.zero_le _, (fun j _ h => absurd h (Nat.not_lt_zero _)), Below.refl _ _⟩
  case round =>
    obtain ⟨k, rfl, hk, HN, HB⟩ := hrel
    by_cases hlt : k < M.length
    · have hki : (k : Int) < (M.length : Int) := by omega
      have HGZ := hide' (HAT.out.below HB.out)
      obtain ⟨g, off, rfl, e0, e1, e2, e3, e4, e5, e6, e7, e8, e9, e10⟩ := HGZ.out.at hlt
      have hx := HOK.out _ (List.getElem_mem hlt)
      have HNU : Hid (∀ V p', Gz V p' M → NumsAt V M[k].p M[k].ty) := fun V p' h => h.2 _ (List.getElem_mem hlt)
      have HNX : Hid ((fun x : Gq => gmX n x && glX t x) M[k] = false → ∀ j (hj : j < M.length), j < k + 1 → (fun x : Gq => gmX n x && glX t x) M[j] = false) := fun h j hj hjk => by
        rcases Nat.lt_or_ge j k with h' | h'
        · exact HN.out j hj h'
        · obtain rfl : j = k := by omega
          exact h
      have HYE : Hid ((fun x : Gq => gmX n x && glX t x) M[k] = true → (M.any fun x => gmX n x && glX t x) = true) := fun h => List.any_eq_true.2 ⟨_, List.getElem_mem hlt, h⟩
      obtain ⟨x, hxe⟩ : ∃ x, M[k] = x := ⟨_, rfl⟩
      rw [hxe] at e0 e1 e2 e3 e4 e5 e6 e7 e8 e9 e10 hx HNU HNX HYE
      clear hxe
      have G0 := hide' (Gl.start x HB.out HGZ.out)
      obtain ⟨W1, hW1⟩ : ∃ W1, wr.alloc (.cells #[.string x.o, .int .i64 x.t, .int .i64 x.c, .int .i64 x.l, .string x.d, .bool x.hb, .string x.nx, .string x.ow, .string x.sl, .int .i64 (x.rd : Int), .slice x.p x.ty.length x.ca] 43) = W1 := ⟨_, rfl⟩
      rw [hW1] at G0
      obtain ⟨d0, d1, d2, d3, d4, d5, d6, d7, d8, d9, d10⟩ := G0.out.cells
      dsimp only at HNX HYE
      have HC := hide' (fun (W : World) (h : NumsAt W x.p x.ty) => gMatches x n W hx hn h)
      have HD := hide' (fun (W : World) (h : NumsAt W x.p x.ty) => gLacks x t W hx h)
      cases hp : gmX n x with
      | false =>
        have HY := hide' (HNX.out (by rw [hp]; rfl))
        rw [hp] at HC
        clear hp HYE HNX
        go_wp2_with (first
          | (go_at_call 21; refine (HC.out _ (HNU.out _ _ G0.out.2.2)).mono ?_; rintro r w2 ⟨rfl, hB⟩; have G1 := hide' (G0.out.step hB); clear hB d0 d1 d2 d3 d4 d5 d6 d7 d8 d9 d10; obtain ⟨d0, d1, d2, d3, d4, d5, d6, d7, d8, d9, d10⟩ := G1.out.cells))
        exact ⟨⟨k + 1, by go_num, by omega, HY.out, G1.out.2.1⟩, by simp [intOf]; omega⟩
      | true =>
        cases hl : glX t x with
        | true =>
          have HY := hide' (HYE.out (by rw [hp, hl]; rfl))
          rw [hp] at HC
          rw [hl] at HD
          clear hp hl HNX HYE
          go_wp2_with (first
            | (go_at_call 21; refine (HC.out _ (HNU.out _ _ G0.out.2.2)).mono ?_; rintro r w2 ⟨rfl, hB⟩; have G1 := hide' (G0.out.step hB); clear hB d0 d1 d2 d3 d4 d5 d6 d7 d8 d9 d10; obtain ⟨d0, d1, d2, d3, d4, d5, d6, d7, d8, d9, d10⟩ := G1.out.cells)
            | (go_at_call 22; refine (HD.out _ (HNU.out _ _ G1.out.2.2)).mono ?_; rintro r w3 ⟨rfl, hB⟩; have G2 := hide' (G1.out.step hB); clear hB d0 d1 d2 d3 d4 d5 d6 d7 d8 d9 d10))
          go_ret
          exact ⟨by rw [HY.out]; rfl, G2.out.2.1⟩
        | false =>
          have HY := hide' (HNX.out (by rw [hp, hl]; rfl))
          rw [hp] at HC
          rw [hl] at HD
          clear hp hl HYE HNX
          go_wp2_with (first
            | (go_at_call 21; refine (HC.out _ (HNU.out _ _ G0.out.2.2)).mono ?_; rintro r w2 ⟨rfl, hB⟩; have G1 := hide' (G0.out.step hB); clear hB d0 d1 d2 d3 d4 d5 d6 d7 d8 d9 d10; obtain ⟨d0, d1, d2, d3, d4, d5, d6, d7, d8, d9, d10⟩ := G1.out.cells)
            | (go_at_call 22; refine (HD.out _ (HNU.out _ _ G1.out.2.2)).mono ?_; rintro r w3 ⟨rfl, hB⟩; have G2 := hide' (G1.out.step hB); clear hB d0 d1 d2 d3 d4 d5 d6 d7 d8 d9 d10))
          exact ⟨⟨k + 1, by go_num, by omega, HY.out, G2.out.2.1⟩, by simp [intOf]; omega⟩
    · obtain rfl : k = M.length := by omega
      have HA : Hid ((M.any fun x => gmX n x && glX t x) = false) := by
        unfold Hid
        rw [List.any_eq_false]
        intro x hx
        obtain ⟨j, hj, rfl⟩ := List.getElem_of_mem hx
        have := HN.out j hj hj
        dsimp only at this
        rw [this]
        decide
      go_wp2_with fail
      go_ret
      exact ⟨by rw [HA.out]; rfl, HB.out⟩
end Go.Proofs.YtipifhifjbenlaaGreat
