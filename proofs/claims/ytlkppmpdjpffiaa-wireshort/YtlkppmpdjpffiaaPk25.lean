import Derived.Test.YtlkppmpdjpffiaaPk20G
namespace Go.Proofs.Ytlkppmpdjpffiaa
set_option linter.unusedVariables false
open Go.RowKit Go.Shelf Go.Maps Go.Proofs.Ytlkppmpdjpffiaa.Nm

/-- the regions of a number in a code, and what stands behind them -/
def regOf (n : Nat) : Code → List Code
  | .region k o d => bif k == n then [.region k o d] else []
  | .seq a b => regOf n a ++ regOf n b
  | .block _ c => regOf n c
  | .scope c => regOf n c
  | .cond _ a b => regOf n a ++ regOf n b
  | .loop c => regOf n c
  | _ => []
def isReg (n : Nat) : Code → Bool
  | .region k _ _ => k == n
  | _ => false
def tailsOf (n : Nat) : Code → List Code
  | .seq a b => bif isReg n a then [b] else tailsOf n a ++ tailsOf n b
  | .block _ c => tailsOf n c
  | .scope c => tailsOf n c
  | .cond _ a b => tailsOf n a ++ tailsOf n b
  | .loop c => tailsOf n c
  | _ => []
--@@
/-- what is known behind an append of records onto what is new -/
structure Ap (w W0 W1 : World) (M X gq oq : Nat) (cs : Array Value) (nn : ByteArray) (w7 : World) (v7 : Value) (n : Nat) (xs : List Value) : Prop where
  own : w7.ownsRow W0.heap.size 35 5 v7 n xs
  bel : Below M w w7
  sz : W0.heap.size ≤ w7.heap.size
  mb : Bx w7 M cs 25
  xb : Bx w7 X cs 25
  nm : w7.cell? ⟨gq, oq, none⟩ = some (.string nn)
  grow : W1.grownBy w7 none
/-- what is known of a world in which records are appended -/
structure Be (w W0 : World) (M X gq oq : Nat) (cs : Array Value) (nn : ByteArray) (d0 : Option Addr) (D : List Rn) (u : World) : Prop where
  bel : Below M w u
  sz : W0.heap.size ≤ u.heap.size
  mb : Bx u M cs 25
  xb : Bx u X cs 25
  nm : u.cell? ⟨gq, oq, none⟩ = some (.string nn)
  hg : gq < u.heap.size
  rs : RsAt u d0 D
  hM : M ≤ u.heap.size
theorem Be.drew {w W0 : World} {M X gq oq : Nat} {cs : Array Value} {nn : ByteArray} {d0 : Option Addr} {D : List Rn} {u : World} (h : Be w W0 M X gq oq cs nn d0 D u) : Be w W0 M X gq oq cs nn d0 D u.drew := ⟨h.bel.drew, h.sz, h.mb, h.xb, h.nm, h.hg, h.rs, h.hM⟩
theorem Be.alloc {w W0 : World} {M X gq oq : Nat} {cs : Array Value} {nn : ByteArray} {d0 : Option Addr} {D : List Rn} {u : World} (h : Be w W0 M X gq oq cs nn d0 D u) (o : Obj) : Be w W0 M X gq oq cs nn d0 D (u.alloc o) :=
  ⟨h.bel.alloc h.hM _, by rw [World.size_alloc]; have := h.sz; omega, h.mb.alloc _, h.xb.alloc _, cell_alloc_l _ h.nm, by rw [World.size_alloc]; have := h.hg; omega, rsAt_below h.rs ((Below.refl _ _).alloc (Nat.le_refl _) _), by rw [World.size_alloc]; have := h.hM; omega⟩
theorem Be.grown {w W0 : World} {M X gq oq : Nat} {cs : Array Value} {nn : ByteArray} {d0 : Option Addr} {D : List Rn} {u u' : World} (h : Be w W0 M X gq oq cs nn d0 D u) (hg : u.grownBy u' none) : Be w W0 M X gq oq cs nn d0 D u' :=
  ⟨h.bel.grown hg h.hM (fun k e => by cases e), Nat.le_trans h.sz hg.size, h.mb.grown hg (fun e => by cases e), h.xb.grown hg (fun e => by cases e), (hg.cell_far ⟨gq, oq, none⟩ h.hg (fun e => by cases e)).trans h.nm, Nat.lt_of_lt_of_le h.hg hg.size, rsAt_below h.rs ⟨hg.os, hg.tape, hg.output, hg.size, fun k hk => hg.block k hk (by simp)⟩, Nat.le_trans h.hM hg.size⟩

/-- what is known behind the second append -/
structure Eb (w W0 : World) (M X gq oq : Nat) (cs : Array Value) (nn : ByteArray) (u : World) : Prop where
  bel : Below M w u
  mb : Bx u M cs 25
  xb : Bx u X cs 25
  nm : u.cell? ⟨gq, oq, none⟩ = some (.string nn)
theorem Be.own {w W0 : World} {M X gq oq : Nat} {cs : Array Value} {nn : ByteArray} {d0 : Option Addr} {D : List Rn} {u u' : World} {v : Value} {n : Nat} {xs : List Value} (h : Be w W0 M X gq oq cs nn d0 D u) (ho : u.ownsRow W0.heap.size 35 5 v n xs) (hg : u.grownBy u' v.ownBlock) (hM : M < X) (hG : gq < X) (hX : X < W0.heap.size) : Eb w W0 M X gq oq cs nn u' := by
  have hr : ∀ k, v.ownBlock = some k → W0.heap.size ≤ k := fun k e => (ho.lt k e).1
  refine ⟨h.bel.grown hg h.hM (fun k e => by have := hr k e; omega), h.mb.grown hg (fun e => by have := hr _ e; omega), h.xb.grown hg (fun e => by have := hr _ e; omega), (hg.cell_far ⟨gq, oq, none⟩ h.hg (fun e => ?_)).trans h.nm⟩
  have := hr gq e.symm
  omega
theorem own_more {u : World} {b : Nat} {v : Value} {D : List Rn} {r : Rn} (h : u.ownsRow b 35 5 v (0 + D.length + [r].length) ([] ++ recsV D ++ recsV [r])) : ∃ g c, v = .slice (some ⟨g, 0, none⟩) (D.length + 1) c ∧ RsAt u (some ⟨g, 0, none⟩) (D ++ [r]) ∧ b ≤ g := by
  rw [Nat.zero_add, List.nil_append, show D.length + [r].length = (D ++ [r]).length by simp, show recsV D ++ recsV [r] = recsV (D ++ [r]) by rw [recsV_snoc]; simp [recsV]] at h
  obtain ⟨g, c, rfl, hb, _⟩ := h.form (by simp)
  exact ⟨g, c, by simp, rsAt_own h, hb⟩
theorem rsAt_far {u : World} {L : List Rn} {X k : Nat} {v : Value} {g : Nat} (h : RsAt u (some ⟨g, 0, none⟩) L) (hne : X ≠ g) : RsAt (u.setCell ⟨X, k, none⟩ v) (some ⟨g, 0, none⟩) L := by
  intro j hj
  obtain ⟨g', o', e, hl, h0, h1, h2, h3, h4⟩ := h j hj
  obtain ⟨rfl, rfl⟩ : g = g' ∧ 0 = o' := by simpa using e
  exact ⟨g, 0, rfl, by simpa [World.setCell] using hl, (cell_far u _ _ _ hne).trans h0, (cell_far u _ _ _ hne).trans h1, (cell_far u _ _ _ hne).trans h2, (cell_far u _ _ _ hne).trans h3, (cell_far u _ _ _ hne).trans h4⟩

set_option maxRecDepth 1000000 in
set_option maxHeartbeats 4000000 in
theorem short_reg (K : Act → World → Prop) (M X gq oq ql qc dc : Nat) (d0 : Option Addr) (D : List Rn) (dt nn : ByteArray) (v0 v1 v2 v3 v4 v5 v6 v7 v8 v9 v11 v12 : Value) (w W0 : World)
    (HB : Hid (Be w W0 M X gq oq #[v0, v1, v2, v3, v4, v5, v6, v7, v8, v9, .slice (some ⟨gq, oq, none⟩) ql qc, v11, v12, .slice d0 D.length dc] nn d0 D W0)) (HM : Hid (M < X)) (HG : Hid (gq < X)) (HXW : Hid (X < W0.heap.size)) (HDN : Hid (d0 = none → dc = 0)) (hld : D.length ≤ 65535) (hql : 0 < ql)
    (x0 x3 x4 x5 x6 x8 x9 x10 x11 x12 x13 x14 x15 x16 x17 x18 x19 x20 x21 x22 x23 x24 x25 x26 x27 x28 x29 x30 x31 x32 x33 x34 x35 x36 x37 x38 x39 x40 x41 x42 x43 x44 x45 x46 x47 x48 x49 x50 x51 x52 x53 x54 x55 x56 x57 x58 x59 x60 x61 x62 x63 x64 x65 x66 x67 x68 x69 x70 x71 x72 x73 x74 x75 x76 x77 x78 x79 x80 x81 x82 x83 x84 x85 x86 x87 x88 x89 x90 x91 x92 x93 x94 x95 x96 x97 x98 x99 x100 x101 x102 x103 x104 x105 x106 : Value)
    (hK : ∀ (g8 c8 : Nat) (w9 : World) (y61 y62 y63 y64 y65 y66 y67 y68 y69 y70 y71 y72 y73 : Value), Below M w w9 → Bx w9 X #[v0, v1, v2, v3, v4, v5, v6, v7, v8, v9, .slice (some ⟨gq, oq, none⟩) ql qc, v11, v12, .slice (some ⟨g8, 0, none⟩) (D.length + 1) c8] 25 → RsAt w9 (some ⟨g8, 0, none⟩) (D ++ [⟨nn, 731, 1, 0, dt⟩]) → K ⟨List.toArray (x0 :: (.string dt : Value) :: (.pointer (some ⟨M, 0, none⟩) : Value) :: x3 :: x4 :: x5 :: x6 :: (.pointer (some ⟨X, 0, none⟩) : Value) :: x8 :: x9 :: x10 :: x11 :: x12 :: x13 :: x14 :: x15 :: x16 :: x17 :: x18 :: x19 :: x20 :: x21 :: x22 :: x23 :: x24 :: x25 :: x26 :: x27 :: x28 :: x29 :: x30 :: x31 :: x32 :: x33 :: x34 :: x35 :: x36 :: x37 :: x38 :: x39 :: x40 :: x41 :: x42 :: x43 :: x44 :: x45 :: x46 :: x47 :: x48 :: x49 :: x50 :: x51 :: x52 :: x53 :: x54 :: x55 :: x56 :: x57 :: x58 :: x59 :: x60 :: y61 :: y62 :: y63 :: y64 :: y65 :: y66 :: y67 :: y68 :: y69 :: y70 :: y71 :: y72 :: y73 :: x74 :: x75 :: x76 :: x77 :: x78 :: x79 :: x80 :: x81 :: x82 :: x83 :: x84 :: x85 :: x86 :: x87 :: x88 :: x89 :: x90 :: x91 :: x92 :: x93 :: x94 :: x95 :: x96 :: x97 :: x98 :: x99 :: x100 :: x101 :: x102 :: x103 :: x104 :: x105 :: x106 :: []), []⟩ w9) :
    Code.wp Try.prog (((Try.f3.body.map (regOf 14)).getD []).getD 0 .skip) (Exit.then K (bodyPost Try.prog Try.f3 fun e w' => e = .returned (.bool true) ∧ Below M w w')) ⟨List.toArray (x0 :: (.string dt : Value) :: (.pointer (some ⟨M, 0, none⟩) : Value) :: x3 :: x4 :: x5 :: x6 :: (.pointer (some ⟨X, 0, none⟩) : Value) :: x8 :: x9 :: x10 :: x11 :: x12 :: x13 :: x14 :: x15 :: x16 :: x17 :: x18 :: x19 :: x20 :: x21 :: x22 :: x23 :: x24 :: x25 :: x26 :: x27 :: x28 :: x29 :: x30 :: x31 :: x32 :: x33 :: x34 :: x35 :: x36 :: x37 :: x38 :: x39 :: x40 :: x41 :: x42 :: x43 :: x44 :: x45 :: x46 :: x47 :: x48 :: x49 :: x50 :: x51 :: x52 :: x53 :: x54 :: x55 :: x56 :: x57 :: x58 :: x59 :: x60 :: x61 :: x62 :: x63 :: x64 :: x65 :: x66 :: x67 :: x68 :: x69 :: x70 :: x71 :: x72 :: x73 :: x74 :: x75 :: x76 :: x77 :: x78 :: x79 :: x80 :: x81 :: x82 :: x83 :: x84 :: x85 :: x86 :: x87 :: x88 :: x89 :: x90 :: x91 :: x92 :: x93 :: x94 :: x95 :: x96 :: x97 :: x98 :: x99 :: x100 :: x101 :: x102 :: x103 :: x104 :: x105 :: x106 :: []), []⟩ W0 := by
  have p13 : W0.cell? ⟨M, 13, none⟩ = some (.slice d0 D.length dc) := HB.out.mb.cell rfl
  have p10 : W0.cell? ⟨M, 10, none⟩ = some (.slice (some ⟨gq, oq, none⟩) ql qc) := HB.out.mb.cell rfl
  have pnn : W0.cell? ⟨gq, oq, none⟩ = some (.string nn) := HB.out.nm
  have HK := hide' hK
  clear hK
  conv => arg 2; whnf
  go_region_held_law (fun w' => w'.cell? ⟨M, 13, none⟩ = some (.slice d0 D.length dc) ∧ w'.cell? ⟨M, 10, none⟩ = some (.slice (some ⟨gq, oq, none⟩) ql qc) ∧ w'.cell? ⟨gq, oq, none⟩ = some (.string nn)) (first | go_keep | exact S8.out | exact S7.out | exact ⟨(cell_far _ _ _ _ (Nat.ne_of_gt HM.out)).trans S8.out.1, (cell_far _ _ _ _ (Nat.ne_of_gt HM.out)).trans S8.out.2.1, (cell_far _ _ _ _ (Nat.ne_of_gt HG.out)).trans S8.out.2.2⟩) (first
    | (refine step_append_recs rfl _ _ rfl W0.heap.size (.slice none 0 0) 0 [] rfl (World.ownsRow_nil _ _ _ _) d0 D dc rfl (by first | exact HB.out.drew.rs | exact (HB.out.drew.alloc _).rs | exact HB.out.rs | exact (HB.out.alloc _).rs) HDN.out (by omega) (by first | exact HB.out.drew.sz | exact (HB.out.drew.alloc _).sz | exact HB.out.sz | exact (HB.out.alloc _).sz) ?_; intro a7 w7 ho7 hg7; have HO7 := hide' ho7; have HG7 := hide' hg7; have E7 := hide' (show Be w W0 M X gq oq #[v0, v1, v2, v3, v4, v5, v6, v7, v8, v9, .slice (some ⟨gq, oq, none⟩) ql qc, v11, v12, .slice d0 D.length dc] nn d0 D w7 by first | exact HB.out.drew.grown hg7 | exact (HB.out.drew.alloc _).grown hg7 | exact HB.out.grown hg7 | exact (HB.out.alloc _).grown hg7); have S7 := hide' (show w7.cell? ⟨M, 13, none⟩ = some (.slice d0 D.length dc) ∧ w7.cell? ⟨M, 10, none⟩ = some (.slice (some ⟨gq, oq, none⟩) ql qc) ∧ w7.cell? ⟨gq, oq, none⟩ = some (.string nn) from ⟨E7.out.mb.cell rfl, E7.out.mb.cell rfl, E7.out.nm⟩); clear ho7 hg7)
    | (refine step_append_recs rfl _ _ rfl W0.heap.size a7 (0 + D.length) ([] ++ recsV D) rfl (by first | exact HO7.out | exact HO7.out.alloc _) (some ⟨_, 0, none⟩) [⟨nn, 731, 1, 0, dt⟩] 1 rfl (by first | exact rs_one (bx_new _ _ _) | exact rs_one (bx_new _ _ _).drew | exact rs_one ((bx_new _ _ _).grown HG7.out (fun e => by cases e)) | exact rs_one ((bx_new _ _ _).drew.grown HG7.out (fun e => by cases e))) (fun e => by cases e) (by simp; omega) (by first | exact E7.out.sz | exact (E7.out.alloc _).sz) ?_; intro a8 w8 ho8 hg8; obtain ⟨g8, c8, rfl, hr8, hb8⟩ := own_more ho8; have R8 := hide' hr8; have B8 := hide' hb8; clear hr8 hb8; have E8 := hide' (show Eb w W0 M X gq oq #[v0, v1, v2, v3, v4, v5, v6, v7, v8, v9, .slice (some ⟨gq, oq, none⟩) ql qc, v11, v12, .slice d0 D.length dc] nn w8 by first | exact Be.own E7.out HO7.out hg8 HM.out HG.out HXW.out | exact Be.own (E7.out.alloc _) (HO7.out.alloc _) hg8 HM.out HG.out HXW.out); have S8 := hide' (show w8.cell? ⟨M, 13, none⟩ = some (.slice d0 D.length dc) ∧ w8.cell? ⟨M, 10, none⟩ = some (.slice (some ⟨gq, oq, none⟩) ql qc) ∧ w8.cell? ⟨gq, oq, none⟩ = some (.string nn) from ⟨E8.out.mb.cell rfl, E8.out.mb.cell rfl, E8.out.nm⟩); have y8c : w8.cell? ⟨X, 13, none⟩ = some (.slice d0 D.length dc) := E8.out.xb.cell rfl; have y8f : w8.frozen? ⟨X, 13, none⟩ = false := E8.out.xb.free 13; clear ho8 hg8))
  all_goals
    have hb := E8.out.xb.set 13 (.slice (some ⟨g8, 0, none⟩) (D.length + 1) c8)
    exact HK.out g8 c8 _ _ _ _ _ _ _ _ _ _ _ _ _ _ (E8.out.bel.setCell (p := ⟨X, 13, none⟩) (Nat.le_of_lt HM.out) _) (by simpa using hb) (rsAt_far R8.out (by have := B8.out; have := HXW.out; omega))
end Go.Proofs.Ytlkppmpdjpffiaa
