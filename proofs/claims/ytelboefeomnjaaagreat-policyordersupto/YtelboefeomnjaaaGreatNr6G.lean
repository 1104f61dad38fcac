import Derived.Test.YtelboefeomnjaaaGreatQo1G
import Derived.Test.YtelboefeomnjaaaGreatQo3G
import Derived.Deep.RegionHeld3
import Derived.Test.YtelboefeomnjaaaGreatQo0G
import Derived.Deep.AppendLies
/-
  Proofs: the reference's Rewrites: one is put in. (The verifier's own text; mknr6.py.)
-/
namespace Go.Proofs.YtelboefeomnjaaaGreat
set_option linter.unusedVariables false
set_option linter.unusedSimpArgs false
open Go.RowKit Go.Shelf Go.Maps Go.Proofs.YtelboefeomnjaaaGreat.Nm Go.Proofs.YtelboefeomnjaaaGreat.Zs

theorem rs_ownN {w : World} {b n c : Nat} {p : Option Addr} {T : List Rn} (h : w.ownsRow b 42 5 (.slice p n c) n (rce5 T)) (hn : n = T.length) : RsAt w p T := by
  rcases Nat.eq_zero_or_pos n with h0 | h0
  · intro k hk; omega
  · obtain ⟨g, c', e⟩ := own_somP h h0
    injection e with e1 e2 e3
    subst e1 e3
    obtain ⟨rest, hr, _⟩ := rb_ownM h
    exact rb_rs hr
/-- a record by itself, just made -/
theorem own_new1 {w wb : World} {base : Nat} {xo xd : ByteArray} {xt xc xl : Int} (h : w.alloc (.cells #[.string xo, .int .i64 xt, .int .i64 xc, .int .i64 xl, .string xd] 42) = wb) (hb : base ≤ w.heap.size) : wb.ownsRow base 42 5 (.slice (some ⟨w.heap.size, 0, none⟩) 1 1) 1 (rce5 [⟨xo, xt, xc, xl, xd⟩]) := by
  subst h
  exact ⟨rfl, Or.inr ⟨w.heap.size, 1, _, rfl, hb, World.alloc_heap_new w _, Nat.le_refl _, by unfold maxLen; omega, rfl, rfl⟩⟩
/-- 'append(v[:k:k], l...)' of records at a step of a region that draws its order: a new row -/
theorem step_append_fullQ {w : World} {ops : Array Oper} {o : Oper} {a : Act} {K : Act → World → Prop} {Q : Exit → Act → World → Prop} {E : Prop} (hgd : o.guard = none) (s x : Operand)
    (ho : o.op = .call { callee := .builtin .append, args := #[s, x], argTypes := #[22, 22] })
    (base : Nat) (a0 : Addr) (A : List Rn) (n : Nat) (hs : a.eval s = .slice (some a0) n n) (hn : n = A.length) (hA : RsAt w (some a0) A)
    (ad : Addr) (l : List Rn) (m c : Nat) (hx : a.eval x = .slice (some ad) m c) (hm : m = l.length) (hat : RsAt w (some ad) l) (h0 : 0 < m)
    (hsm : n + m ≤ 10000000) (hbase : base ≤ w.heap.size)
    (h : ∀ v' w', w'.ownsRow base 42 5 v' (n + m) (rce5 A ++ rce5 l) → w.grownBy w' none → K (a.put o.dst v') w') :
    if Region.wanted o (yielded ops a.tmps) = true then Oper.wp Tryz.prog o a w K Q else E := by
  subst hm hn
  have hw : Region.wanted o (yielded ops a.tmps) = true := by simp [Region.wanted, hgd]
  rw [if_pos hw]
  obtain ⟨i0, hi, hz0, hz1, hz2⟩ := info_parts infoRM
  have hr := run_append_grow (P := Tryz.prog) w 22 o.type 42 i0 _ Tryz.underlying22 hi hz0 a0 A.length A.length (rce5 A) (by rw [hz1]; exact rce5_len A) (rs_newsM hA) ad l.length c (rce5 l) (by rw [hz1]; exact rce5_len l) (rs_newsM hat) (by omega) (by omega) (growslice_fits (by omega) (by rw [hz2]; omega))
  unfold Oper.wp execOp
  simp only [ho, resolve, invoke, builtin, Sem.run_bind, Sem.run_pure, Result.andThen_ok, List.map_toArray, List.map_cons, List.map_nil, hs, hx, hr]
  have hge := grownCap_ge w (A.length + l.length) A.length 42
  have hcm : grownCap w (A.length + l.length) A.length 42 ≤ maxLen := grownCap_le_maxLen w (A.length + l.length) A.length _ (by unfold maxLen; omega)
  refine h _ _ ⟨?_, .inr ⟨w.heap.size, _, _, rfl, hbase, heap_alloc_new w.drew _, hge, hcm, ?_, ?_⟩⟩ ⟨rfl, rfl, rfl, by simp, fun k hk _ => by first | exact heap_alloc_old w.drew _ hk | exact heap_alloc_old w.drew _ k hk⟩
  · rw [List.length_append, rce5_len, rce5_len, Nat.add_mul]
  · simp only [Array.size_append, List.size_toArray, size_zeroCells, rce5_len]
    rw [show (Value.agg #[.string .empty, .int .i64 0, .int .i64 0, .int .i64 0, .string .empty]).cells.size = 5 from rfl]
    omega
  · simp only [Array.toList_append, List.append_assoc]
    rw [← List.append_assoc]
    exact List.take_left' (by rw [List.length_append, rce5_len, rce5_len, Nat.add_mul])
theorem run_cut3R (g n cap e : Nat) (h : e ≤ n) (hn : n ≤ cap) (hc : cap ≤ maxLen) (W : World) : (Instr.slice 22 (.slice (some ⟨g, 0, none⟩) n cap) none (some (.int .i64 (e : Int))) (some (.int .i64 (e : Int)))).run Tryz.prog W = .ok (.slice (some ⟨g, 0, none⟩) e e) W := by
  have ht' : Tryz.prog.underlying 22 = some (.slice (Tryz.prog.elem 22)) := by simp [Program.elem, Tryz.underlying22]
  have he' : Tryz.prog.elem 22 = 42 := by simp [Program.elem, Tryz.underlying22]
  rw [run_slice_hm W _ _ _ _ ht' .i64 .i64 _ _ (by omega) (by omega) (by omega), he', Tryz.sizeOf42]
  simp [Result.andThen, sliced, Addr.add]
/-- those that were put in so far -/
def Rv (w : World) (o : List Et) (q : Option Addr) (c : Nat) (wr : World) : Prop := wr.ownsRow w.heap.size 42 5 (.slice q o.length c) o.length (rce5 (o.map (·.r))) ∧ Below w.heap.size w wr
theorem Rv.below {w wr w2 : World} {o : List Et} {q : Option Addr} {c : Nat} (h : Rv w o q c wr) (hb : Below wr.heap.size wr w2) : Rv w o q c w2 := ⟨ownsRow_below h.1 hb, bstep h.2 hb h.2.size⟩
/-- what is known of each -/
def EtD (o : List Et) : Prop := ∀ e ∈ o, 4 ≤ e.r.d.size ∧ e.s = (vN (e.r.d.extract 2 4) 2 : Nat)
theorem rs_map_take {w : World} {p : Option Addr} {o : List Et} (h : RsAt w p (o.map (·.r))) (d : Nat) : RsAt w p ((o.take d).map (·.r)) := fun k hk => by
  rw [List.length_map, List.length_take] at hk
  obtain ⟨g, off, hp, h1, h2⟩ := h k (by rw [List.length_map]; omega)
  refine ⟨g, off, hp, h1, ?_⟩
  have e : ((o.take d).map (·.r))[k]'(by rw [List.length_map, List.length_take]; omega) = (o.map (·.r))[k]'(by rw [List.length_map]; omega) := by simp
  rw [e]
  exact h2
theorem rs_map_drop {w : World} {g : Nat} {o : List Et} (h : RsAt w (some ⟨g, 0, none⟩) (o.map (·.r))) {d : Nat} {Ad : Addr} (hA : d < o.length → Ad = ⟨g, 0 + d * 5, none⟩) : RsAt w (some Ad) ((o.drop d).map (·.r)) := fun k hk => by
  rw [List.length_map, List.length_drop] at hk
  obtain rfl := hA (by omega)
  obtain ⟨g', off, hp, h1, h2⟩ := h (d + k) (by rw [List.length_map]; omega)
  injection hp with hp
  injection hp with e1 e2
  subst e1 e2
  have e : ((o.drop d).map (·.r))[k]'(by rw [List.length_map, List.length_drop]; omega) = (o.map (·.r))[d + k]'(by rw [List.length_map]; omega) := by simp
  rw [e]
  have f : 0 + d * 5 + k * 5 = 0 + (d + k) * 5 := by rw [Nat.add_mul d k 5]; omega
  refine ⟨g, _, rfl, h1, ?_⟩
  rw [f]
  exact h2
/-- a region itself -/
def regsQ (n : Nat) : Code → List Code
  | .region k a b => bif k == n then [.region k a b] else []
  | .seq a b => regsQ n a ++ regsQ n b
  | .block _ c => regsQ n c
  | .scope c => regsQ n c
  | .cond _ a b => regsQ n a ++ regsQ n b
  | .loop c => regsQ n c
  | _ => []
set_option maxRecDepth 100000 in
set_option maxHeartbeats 8000000 in
/-- it is put in -/
theorem rput_pos (Q : Exit → Act → World → Prop) (w wA : World) (g c bx k : Nat) (o : List Et) (e : Et) (xo xd : ByteArray) (xt xc xl : Int) (hol : o.length ≤ 1048576) (hk : k ≤ o.length) (HRv : Hid (Rv w o (some ⟨g, 0, none⟩) c wA)) (HEr : Hid (e.r = ⟨xo, xt, xc, xl, xd⟩)) (HBk : Hid (backK e.s o o.length = k)) (HBxl : Hid (bx < wA.heap.size)) (HSx : Hid (wA.cell? ⟨bx, 0, none⟩ = some (.string xo) ∧ wA.cell? ⟨bx, 1, none⟩ = some (.int .i64 xt) ∧ wA.cell? ⟨bx, 2, none⟩ = some (.int .i64 xc) ∧ wA.cell? ⟨bx, 3, none⟩ = some (.int .i64 xl) ∧ wA.cell? ⟨bx, 4, none⟩ = some (.string xd)))
    (HGl0 : Hid (g < wA.heap.size)) (HFr : Hid (∀ k, k ≤ o.length → ∃ Ad : Addr, (k < o.length → Ad = ⟨g, 0 + k * 5, none⟩) ∧ ∀ W : World, (Instr.slice 22 (.slice (some ⟨g, 0, none⟩) o.length c) (some (.int .i64 ((k : Nat) : Int))) none none).run Tryz.prog W = .ok (.slice (some Ad) (o.length - k) (c - k)) W)) (HCu : Hid (∀ k, k ≤ o.length → ∀ W : World, (Instr.slice 22 (.slice (some ⟨g, 0, none⟩) o.length c) none (some (.int .i64 (k : Int))) (some (.int .i64 (k : Int)))).run Tryz.prog W = .ok (.slice (some ⟨g, 0, none⟩) k k) W))
    (x0 x1 x2 x3 x4 x5 x7 x8 x10 x11 x12 x13 x15 x16 x17 x18 x19 x20 x21 x22 x23 x24 x25 x26 x27 x28 x29 x30 x31 x32 x33 x34 x35 x36 x37 x38 x39 x40 x41 x42 x43 x44 x45 x46 x47 x48 x49 x50 x51 x52 x53 x54 x55 x56 x57 x58 x59 x60 x61 x62 x63 x64 x65 x66 x67 x68 x69 x70 x71 x72 x73 x74 x75 x76 x77 x78 x79 x80 x81 x82 x83 x84 x85 : Value) (HKK : Hid (∀ (q8 : Option Addr) (c8 : Nat) (w8 : World) (y73 y74 y75 y76 y77 y78 y79 y80 y81 y82 y83 : Value), Rv w (insE e o) q8 c8 w8 → Q .normal ⟨List.toArray (x0 :: x1 :: x2 :: x3 :: x4 :: x5 :: (.slice q8 (o.length + 1) c8 : Value) :: x7 :: x8 :: (.pointer (some ⟨bx, 0, none⟩) : Value) :: x10 :: x11 :: x12 :: x13 :: (.int .i64 (k : Int) : Value) :: x15 :: x16 :: x17 :: x18 :: x19 :: x20 :: x21 :: x22 :: x23 :: x24 :: x25 :: x26 :: x27 :: x28 :: x29 :: x30 :: x31 :: x32 :: x33 :: x34 :: x35 :: x36 :: x37 :: x38 :: x39 :: x40 :: x41 :: x42 :: x43 :: x44 :: x45 :: x46 :: x47 :: x48 :: x49 :: x50 :: x51 :: x52 :: x53 :: x54 :: x55 :: x56 :: x57 :: x58 :: x59 :: x60 :: x61 :: x62 :: x63 :: x64 :: x65 :: x66 :: x67 :: x68 :: x69 :: x70 :: x71 :: x72 :: y73 :: y74 :: y75 :: y76 :: y77 :: y78 :: y79 :: y80 :: y81 :: y82 :: y83 :: x84 :: x85 :: []), []⟩ w8)) :
    Code.wp Tryz.prog (((Tryz.f9.body.map (regsQ 19)).getD []).getD 0 .skip) Q ⟨List.toArray (x0 :: x1 :: x2 :: x3 :: x4 :: x5 :: (.slice (some ⟨g, 0, none⟩) o.length c : Value) :: x7 :: x8 :: (.pointer (some ⟨bx, 0, none⟩) : Value) :: x10 :: x11 :: x12 :: x13 :: (.int .i64 (k : Int) : Value) :: x15 :: x16 :: x17 :: x18 :: x19 :: x20 :: x21 :: x22 :: x23 :: x24 :: x25 :: x26 :: x27 :: x28 :: x29 :: x30 :: x31 :: x32 :: x33 :: x34 :: x35 :: x36 :: x37 :: x38 :: x39 :: x40 :: x41 :: x42 :: x43 :: x44 :: x45 :: x46 :: x47 :: x48 :: x49 :: x50 :: x51 :: x52 :: x53 :: x54 :: x55 :: x56 :: x57 :: x58 :: x59 :: x60 :: x61 :: x62 :: x63 :: x64 :: x65 :: x66 :: x67 :: x68 :: x69 :: x70 :: x71 :: x72 :: x73 :: x74 :: x75 :: x76 :: x77 :: x78 :: x79 :: x80 :: x81 :: x82 :: x83 :: x84 :: x85 :: []), []⟩ wA := by
  have HSk : Hid (∀ V, Below wA.heap.size wA V → V.cell? ⟨bx, 0, none⟩ = some (.string xo) ∧ V.cell? ⟨bx, 1, none⟩ = some (.int .i64 xt) ∧ V.cell? ⟨bx, 2, none⟩ = some (.int .i64 xc) ∧ V.cell? ⟨bx, 3, none⟩ = some (.int .i64 xl) ∧ V.cell? ⟨bx, 4, none⟩ = some (.string xd)) := fun V hV => by
    obtain ⟨a0, a1, a2, a3, a4⟩ := HSx.out
    have cc := fun (j : Nat) => hV.cell (p := ⟨bx, j, none⟩) HBxl.out
    exact ⟨(cc _).trans a0, (cc _).trans a1, (cc _).trans a2, (cc _).trans a3, (cc _).trans a4⟩
  have HGl : Hid (∀ V, Below wA.heap.size wA V → g < V.heap.size) := fun V hV => Nat.lt_of_lt_of_le HGl0.out hV.size
  have HB : Hid (Below wA.heap.size wA wA) := Below.refl _ _
  have HBw : Hid (Below wA.heap.size wA wA.drew) := HB.out.drew
  obtain ⟨w9, hw9⟩ : ∃ w9, wA.drew = w9 := ⟨_, rfl⟩
  rw [hw9] at HBw
  obtain ⟨wb, hwb⟩ : ∃ wb, w9.alloc (.cells #[.string xo, .int .i64 xt, .int .i64 xc, .int .i64 xl, .string xd] 42) = wb := ⟨_, rfl⟩
  obtain ⟨Ad, hAd, hsl⟩ := HFr.out k hk
  have hs3 := HCu.out k hk
  have HAd := hide' hAd
  have HSb : Hid (wb.cell? ⟨bx, 0, none⟩ = some (.string xo) ∧ wb.cell? ⟨bx, 1, none⟩ = some (.int .i64 xt) ∧ wb.cell? ⟨bx, 2, none⟩ = some (.int .i64 xc) ∧ wb.cell? ⟨bx, 3, none⟩ = some (.int .i64 xl) ∧ wb.cell? ⟨bx, 4, none⟩ = some (.string xd)) := HSk.out wb (HBw.out.alloc HBw.out.size _ |> fun h => hwb ▸ h)
  have HR9 := hide' (HRv.out.below HBw.out)
  have HOb := hide' (own_new1 (base := w.heap.size) hwb HR9.out.2.size)
  have HLb : Hid (w.heap.size ≤ wb.heap.size) := (by have h1 := (alloc_belQ hwb).size; have h2 := HR9.out.2.size; unfold Hid; omega)
  have HRs := hide' (rs_ownN HR9.out.1 (by rw [List.length_map]))
  have HDr := hide' (rs_map_drop (rsAt_below7 HRs.out (alloc_belQ hwb)) (d := k) HAd.out)
  have HN7 : Hid (∀ (v7 : Value) (w7 : World), w7.ownsRow w.heap.size 42 5 v7 (1 + (o.length - k)) (rce5 [⟨xo, xt, xc, xl, xd⟩] ++ rce5 ((o.drop k).map (·.r))) → wb.grownBy w7 (Value.slice (some ⟨w9.heap.size, 0, none⟩) 1 1).ownBlock → ∃ (g7 c7 : Nat), v7 = .slice (some ⟨g7, 0, none⟩) (1 + (o.length - k)) c7 ∧ Hid (RsAt w7 (some ⟨g7, 0, none⟩) (⟨xo, xt, xc, xl, xd⟩ :: (o.drop k).map (·.r))) ∧ Hid (RsAt w7 (some ⟨g, 0, none⟩) ((o.take k).map (·.r))) ∧ Hid (w.heap.size ≤ w7.heap.size) ∧ Hid (w7.cell? ⟨bx, 0, none⟩ = some (.string xo) ∧ w7.cell? ⟨bx, 1, none⟩ = some (.int .i64 xt) ∧ w7.cell? ⟨bx, 2, none⟩ = some (.int .i64 xc) ∧ w7.cell? ⟨bx, 3, none⟩ = some (.int .i64 xl) ∧ w7.cell? ⟨bx, 4, none⟩ = some (.string xd)) ∧ Hid (∀ (v8 : Value) (w8 : World), w8.ownsRow w.heap.size 42 5 v8 (k + (1 + (o.length - k))) (rce5 ((o.take k).map (·.r)) ++ rce5 (⟨xo, xt, xc, xl, xd⟩ :: (o.drop k).map (·.r))) → w7.grownBy w8 none → ∃ (q8 : Option Addr) (c8 : Nat), v8 = .slice q8 (o.length + 1) c8 ∧ Hid (Rv w (insE e o) q8 c8 w8) ∧ Hid (w8.cell? ⟨bx, 0, none⟩ = some (.string xo) ∧ w8.cell? ⟨bx, 1, none⟩ = some (.int .i64 xt) ∧ w8.cell? ⟨bx, 2, none⟩ = some (.int .i64 xc) ∧ w8.cell? ⟨bx, 3, none⟩ = some (.int .i64 xl) ∧ w8.cell? ⟨bx, 4, none⟩ = some (.string xd)))) := fun v7 w7 ho hg => by
    obtain ⟨g7, c7, hv⟩ := own_somP ho (by omega)
    subst hv
    have hlt : g < w9.heap.size := HGl.out w9 HBw.out
    have hlb : w9.heap.size < wb.heap.size := by rw [← hwb]; simp
    have hwl : w.heap.size ≤ w9.heap.size := HR9.out.2.size
    have hgr : wb.grownBy w7 (some w9.heap.size) := hg
    have hbw7 : Below w9.heap.size w9 w7 := (alloc_belQ hwb).grown hgr (alloc_belQ hwb).size (fun q hq => by injection hq with hq; omega)
    have hA7 : Below wA.heap.size wA w7 := bstep HBw.out hbw7 HBw.out.size
    refine ⟨g7, c7, rfl, rs_ownN (T := ⟨xo, xt, xc, xl, xd⟩ :: (o.drop k).map (fun z : Et => z.r)) ho (by rw [List.length_cons, List.length_map, List.length_drop]; omega), rsAt_below7 (rs_map_take HRs.out k) hbw7, Nat.le_trans hwl hbw7.size, HSk.out w7 hA7, fun v8 w8 ho8 hg8 => ?_⟩
    obtain ⟨q8, c8, hv8, _⟩ := own_shape ho8
    have hb78 : Below w7.heap.size w7 w8 := ⟨hg8.os, hg8.tape, hg8.output, hg8.size, fun k hk => hg8.block k hk (by simp)⟩
    have hb98 : Below w9.heap.size w9 w8 := bstep hbw7 hb78 hbw7.size
    have hlen : k + (1 + (o.length - k)) = o.length + 1 := by omega
    rw [hlen] at ho8 hv8
    refine ⟨q8, c8, hv8, ⟨?_, bstep HR9.out.2 hb98 HR9.out.2.size⟩, HSk.out w8 (bstep HBw.out hb98 HBw.out.size)⟩
    subst hv8
    have eI : (insE e o).map (·.r) = (o.take k).map (·.r) ++ (⟨xo, xt, xc, xl, xd⟩ :: (o.drop k).map (·.r)) := by
      unfold insE
      rw [HBk.out, List.map_append, List.map_cons, HEr.out]
    rw [insE_len, eI, rce5_app]
    exact ho8
  have hcb : k ≤ o.length := hk
  have s0 := HSk.out w9 HBw.out
  obtain ⟨s0, s1, s2, s3, s4⟩ := s0
  conv => arg 2; whnf
  refine wp_region_noPanic ?_
  refine wp_region_held_drew (S := fun V => V.cell? ⟨bx, 0, none⟩ = some (.string xo) ∧ V.cell? ⟨bx, 1, none⟩ = some (.int .i64 xt) ∧ V.cell? ⟨bx, 2, none⟩ = some (.int .i64 xc) ∧ V.cell? ⟨bx, 3, none⟩ = some (.int .i64 xl) ∧ V.cell? ⟨bx, 4, none⟩ = some (.string xd)) (by kernel_rfl) ?_ (fun hHeld => ?_)
  · (try dsimp only); go_keep
  refine takeD 0 (some 73) (.slice (some ⟨g, 0, none⟩) o.length c) rfl rfl (by kernel_rfl) (by kernel_rfl) (by kernel_rfl) (fun _ _ _ h => h) (Or.inl ⟨by rfl, ?_⟩) (by assumption) ?_
  · intro w hSw; (try dsimp only at hSw); go_simp <;> (intros; omega)
  simp only [Act.put, List.setIfInBounds_toArray, List.set_cons_zero, List.set_cons_succ]
  refine takeD 1 (some 74) (.int .i64 (k : Int)) rfl rfl (by kernel_rfl) (by kernel_rfl) (by kernel_rfl) (fun _ _ _ h => h) (Or.inl ⟨by rfl, ?_⟩) (by assumption) ?_
  · intro w hSw; (try dsimp only at hSw); go_simp <;> (intros; omega)
  simp only [Act.put, List.setIfInBounds_toArray, List.set_cons_zero, List.set_cons_succ]
  refine takeD 2 (some 75) (.int .i64 (k : Int)) rfl rfl (by kernel_rfl) (by kernel_rfl) (by kernel_rfl) (fun _ _ _ h => h) (Or.inl ⟨by rfl, ?_⟩) (by assumption) ?_
  · intro w hSw; (try dsimp only at hSw); go_simp <;> (intros; omega)
  simp only [Act.put, List.setIfInBounds_toArray, List.set_cons_zero, List.set_cons_succ]
  refine takeD 3 (some 76) (.slice (some ⟨g, 0, none⟩) k k) rfl rfl (by kernel_rfl) (by kernel_rfl) (by kernel_rfl) (fun _ _ _ h => h) (Or.inl ⟨by rfl, ?_⟩) (by assumption) ?_
  · intro w hSw; (try dsimp only at hSw); go_simp <;> (intros; omega)
  simp only [Act.put, List.setIfInBounds_toArray, List.set_cons_zero, List.set_cons_succ]
  refine takeD 4 (some 77) (.agg #[.string xo, .int .i64 xt, .int .i64 xc, .int .i64 xl, .string xd]) rfl rfl (by kernel_rfl) (by kernel_rfl) (by kernel_rfl) (fun _ _ _ h => h) (Or.inl ⟨by rfl, ?_⟩) (by assumption) ?_
  · intro w hSw; (try dsimp only at hSw); go_simp <;> (intros; omega)
  simp only [Act.put, List.setIfInBounds_toArray, List.set_cons_zero, List.set_cons_succ]
  refine takeD 6 (some 79) (.slice (some ⟨g, 0, none⟩) o.length c) rfl rfl (by kernel_rfl) (by kernel_rfl) (by kernel_rfl) (fun _ _ _ h => h) (Or.inl ⟨by rfl, ?_⟩) (by assumption) ?_
  · intro w hSw; (try dsimp only at hSw); go_simp <;> (intros; omega)
  simp only [Act.put, List.setIfInBounds_toArray, List.set_cons_zero, List.set_cons_succ]
  refine takeD 7 (some 80) (.int .i64 (k : Int)) rfl rfl (by kernel_rfl) (by kernel_rfl) (by kernel_rfl) (fun _ _ _ h => h) (Or.inl ⟨by rfl, ?_⟩) (by assumption) ?_
  · intro w hSw; (try dsimp only at hSw); go_simp <;> (intros; omega)
  simp only [Act.put, List.setIfInBounds_toArray, List.set_cons_zero, List.set_cons_succ]
  refine takeD 8 (some 81) (.slice (some Ad) (o.length - k) (c - k)) rfl rfl (by kernel_rfl) (by kernel_rfl) (by kernel_rfl) (fun _ _ _ h => h) (Or.inl ⟨by rfl, ?_⟩) (by assumption) ?_
  · intro w hSw; (try dsimp only at hSw); go_simp <;> (intros; omega)
  simp only [Act.put, List.setIfInBounds_toArray, List.set_cons_zero, List.set_cons_succ]
  refine wpAnyH_ready (rs := [5]) (by kernel_rfl) (by simp) ?_
  refine AllReadyH.cons rfl (fun K_ hK => ?_) AllReadyH.nil
  go_simp
  go_wp2_with fail
  refine hK.out _ _ (HSb.out) (fun hHeld => ?_)
  clear hK K_
  try simp only [Act.put, List.setIfInBounds_toArray, List.set_cons_zero, List.set_cons_succ]
  refine wpAnyH_ready (rs := [9]) (by kernel_rfl) (by simp) ?_
  refine AllReadyH.cons rfl (fun K_ hK => ?_) AllReadyH.nil
  refine step_append_recsQ rfl _ _ rfl w.heap.size (.slice (some ⟨w9.heap.size, 0, none⟩) 1 1) 1 (rce5 [⟨xo, xt, xc, xl, xd⟩]) rfl HOb.out Ad ((o.drop k).map (·.r)) (o.length - k) (c - k) rfl (by rw [List.length_map, List.length_drop]) HDr.out (by omega) HLb.out ?_; intro v7 w7 ho7 hg7; obtain ⟨g7, c7, hv7, HO7, HA7, HL7, HS7, HFi⟩ := HN7.out v7 w7 ho7 hg7; subst hv7; clear ho7 hg7
  refine hK.out (Act.put _ (some 82) (.slice (some ⟨g7, 0, none⟩) (1 + (o.length - k)) c7)) _ HS7.out (fun hHeld => ?_)
  clear hK K_
  try simp only [Act.put, List.setIfInBounds_toArray, List.set_cons_zero, List.set_cons_succ]
  refine wpAnyH_ready (rs := [10]) (by kernel_rfl) (by simp) ?_
  refine AllReadyH.cons rfl (fun K_ hK => ?_) AllReadyH.nil
  refine step_append_fullQ rfl _ _ rfl w.heap.size ⟨g, 0, none⟩ ((o.take k).map (·.r)) k rfl (by rw [List.length_map, List.length_take]; omega) HA7.out ⟨g7, 0, none⟩ (⟨xo, xt, xc, xl, xd⟩ :: (o.drop k).map (·.r)) (1 + (o.length - k)) c7 rfl (by rw [List.length_cons, List.length_map, List.length_drop]; omega) HO7.out (by omega) (by omega) HL7.out ?_; intro v8 w8 ho8 hg8; obtain ⟨q8, c8, hv8, HR8, HS8⟩ := HFi.out v8 w8 ho8 hg8; subst hv8; clear ho8 hg8
  refine hK.out (Act.put _ (some 83) (.slice q8 (o.length + 1) c8)) _ HS8.out (fun hHeld => ?_)
  clear hK K_
  try simp only [Act.put, List.setIfInBounds_toArray, List.set_cons_zero, List.set_cons_succ]
  refine takeD 11 (some 6) (.slice q8 (o.length + 1) c8) rfl rfl (by kernel_rfl) (by kernel_rfl) (by kernel_rfl) (fun _ _ _ h => h) (Or.inl ⟨by rfl, ?_⟩) (by assumption) ?_
  · intro w hSw; (try dsimp only at hSw); go_simp <;> (intros; omega)
  simp only [Act.put, List.setIfInBounds_toArray, List.set_cons_zero, List.set_cons_succ]
  refine wpAnyH_done (by kernel_rfl) ?_ _
  have HE := hide' (fun y73 y74 y75 y76 y77 y78 y79 y80 y81 y82 y83 => HKK.out q8 c8 w8 y73 y74 y75 y76 y77 y78 y79 y80 y81 y82 y83 HR8.out)
  refine NoPanic.normal ?_
  go_wp2_with fail
  exact HE.out _ _ _ _ _ _ _ _ _ _ _
set_option maxRecDepth 100000 in
set_option maxHeartbeats 8000000 in
/-- one is put in among others -/
theorem rins_pos (Q : Exit → Act → World → Prop) (w wA : World) (g c bx : Nat) (o : List Et) (e : Et) (xo xd : ByteArray) (xt xc xl : Int) (hol : o.length ≤ 1048576) (h0 : 0 < o.length) (HRv : Hid (Rv w o (some ⟨g, 0, none⟩) c wA)) (HD : Hid (EtD o)) (HEr : Hid (e.r = ⟨xo, xt, xc, xl, xd⟩)) (HEs : Hid (4 ≤ xd.size ∧ e.s = (vN (xd.extract 2 4) 2 : Nat))) (HBxl : Hid (bx < wA.heap.size)) (HSx : Hid (wA.cell? ⟨bx, 0, none⟩ = some (.string xo) ∧ wA.cell? ⟨bx, 1, none⟩ = some (.int .i64 xt) ∧ wA.cell? ⟨bx, 2, none⟩ = some (.int .i64 xc) ∧ wA.cell? ⟨bx, 3, none⟩ = some (.int .i64 xl) ∧ wA.cell? ⟨bx, 4, none⟩ = some (.string xd)))
    (x0 x1 x2 x3 x4 x5 x7 x8 x10 x11 x12 x13 x15 x16 x17 x18 x19 x20 x21 x22 x23 x24 x25 x26 x27 x28 x29 x30 x31 x32 x33 x34 x35 x36 x37 x38 x39 x40 x41 x42 x43 x44 x45 x46 x47 x48 x49 x50 x51 x52 x53 x54 x55 x56 x57 x58 x59 x60 x61 x62 x63 x64 x65 x66 x67 x68 x69 x70 x71 x72 x73 x74 x75 x76 x77 x78 x79 x80 x81 x82 x83 x84 x85 : Value) (HKK : Hid (∀ (q8 : Option Addr) (c8 : Nat) (w8 : World) (y14 y56 y57 y58 y59 y60 y61 y62 y63 y64 y65 y66 y67 y68 y69 y70 y71 y72 y73 y74 y75 y76 y77 y78 y79 y80 y81 y82 y83 : Value), Rv w (insE e o) q8 c8 w8 → Q .normal ⟨List.toArray (x0 :: x1 :: x2 :: x3 :: x4 :: x5 :: (.slice q8 (o.length + 1) c8 : Value) :: x7 :: x8 :: (.pointer (some ⟨bx, 0, none⟩) : Value) :: x10 :: x11 :: x12 :: x13 :: y14 :: x15 :: x16 :: x17 :: x18 :: x19 :: x20 :: x21 :: x22 :: x23 :: x24 :: x25 :: x26 :: x27 :: x28 :: x29 :: x30 :: x31 :: x32 :: x33 :: x34 :: x35 :: x36 :: x37 :: x38 :: x39 :: x40 :: x41 :: x42 :: x43 :: x44 :: x45 :: x46 :: x47 :: x48 :: x49 :: x50 :: x51 :: x52 :: x53 :: x54 :: x55 :: y56 :: y57 :: y58 :: y59 :: y60 :: y61 :: y62 :: y63 :: y64 :: y65 :: y66 :: y67 :: y68 :: y69 :: y70 :: y71 :: y72 :: y73 :: y74 :: y75 :: y76 :: y77 :: y78 :: y79 :: y80 :: y81 :: y82 :: y83 :: x84 :: x85 :: []), []⟩ w8)) :
    Code.wp Tryz.prog (((Tryz.f9.body.map (tailsN 16)).getD []).getD 0 .skip) Q ⟨List.toArray (x0 :: x1 :: x2 :: x3 :: x4 :: x5 :: (.slice (some ⟨g, 0, none⟩) o.length c : Value) :: x7 :: x8 :: (.pointer (some ⟨bx, 0, none⟩) : Value) :: x10 :: x11 :: x12 :: x13 :: (.int .i64 (o.length : Int) : Value) :: x15 :: x16 :: x17 :: x18 :: x19 :: x20 :: x21 :: x22 :: x23 :: x24 :: x25 :: x26 :: x27 :: x28 :: x29 :: x30 :: x31 :: x32 :: x33 :: x34 :: x35 :: x36 :: x37 :: x38 :: x39 :: x40 :: x41 :: x42 :: x43 :: x44 :: x45 :: x46 :: x47 :: x48 :: x49 :: x50 :: x51 :: x52 :: x53 :: x54 :: x55 :: x56 :: x57 :: x58 :: x59 :: x60 :: x61 :: x62 :: x63 :: x64 :: x65 :: x66 :: x67 :: x68 :: x69 :: x70 :: x71 :: x72 :: x73 :: x74 :: x75 :: x76 :: x77 :: x78 :: x79 :: x80 :: x81 :: x82 :: x83 :: x84 :: x85 :: []), []⟩ wA := by
  have HSk : Hid (∀ V, Below wA.heap.size wA V → V.cell? ⟨bx, 0, none⟩ = some (.string xo) ∧ V.cell? ⟨bx, 1, none⟩ = some (.int .i64 xt) ∧ V.cell? ⟨bx, 2, none⟩ = some (.int .i64 xc) ∧ V.cell? ⟨bx, 3, none⟩ = some (.int .i64 xl) ∧ V.cell? ⟨bx, 4, none⟩ = some (.string xd)) := fun V hV => by
    obtain ⟨a0, a1, a2, a3, a4⟩ := HSx.out
    have cc := fun (j : Nat) => hV.cell (p := ⟨bx, j, none⟩) HBxl.out
    exact ⟨(cc _).trans a0, (cc _).trans a1, (cc _).trans a2, (cc _).trans a3, (cc _).trans a4⟩
  obtain ⟨rest, hrb, -⟩ := rb_ownM HRv.out.1
  have HGl : Hid (∀ V, Below wA.heap.size wA V → g < V.heap.size) := fun V hV => Nat.lt_of_lt_of_le (Bx.lt hrb) hV.size
  have hsh := own_shape HRv.out.1
  obtain ⟨p', c', e1, hc1, hc2, -⟩ := hsh
  obtain rfl : c = c' := by injection e1
  clear e1
  have HFr : Hid (∀ k, k ≤ o.length → ∃ Ad : Addr, (k < o.length → Ad = ⟨g, 0 + k * 5, none⟩) ∧ ∀ W : World, (Instr.slice 22 (.slice (some ⟨g, 0, none⟩) o.length c) (some (.int .i64 ((k : Nat) : Int))) none none).run Tryz.prog W = .ok (.slice (some Ad) (o.length - k) (c - k)) W) := fun k hk => run_fromR g 0 o.length c k hk hc1
  have HCu : Hid (∀ k, k ≤ o.length → ∀ W : World, (Instr.slice 22 (.slice (some ⟨g, 0, none⟩) o.length c) none (some (.int .i64 (k : Int))) (some (.int .i64 (k : Int)))).run Tryz.prog W = .ok (.slice (some ⟨g, 0, none⟩) k k) W) := fun k hk => run_cut3R g o.length c k hk hc1 hc2
  have HOc : Hid (∀ k, (hk : k < o.length) → ∀ V, Below wA.heap.size wA V → V.cell? ⟨g, k * 5 + 4, none⟩ = some (.string (eAt o k).r.d)) := fun k hk V hV => by
    rw [hV.cell (p := ⟨g, k * 5 + 4, none⟩) (Bx.lt hrb)]
    have := (hrb.cells (j := k) (by rw [List.length_map]; exact hk)).2.2.2.2
    rw [List.getElem_map, eAt_get hk] at this
    exact this
  have HDk : Hid (∀ k, k < o.length → 4 ≤ (eAt o k).r.d.size ∧ (eAt o k).s = (vN ((eAt o k).r.d.extract 2 4) 2 : Nat)) := fun k hk => by rw [← eAt_get hk]; exact HD.out _ (List.getElem_mem hk)
  have HNx := hide' (fun V => number1_any xd V HEs.out.1)
  obtain ⟨s, hs⟩ : ∃ s, e.s = s := ⟨_, rfl⟩
  have hs2 := HEs.out.2
  rw [hs] at hs2
  rw [← hs2] at HNx
  have HSe := hide' hs
  clear hs hs2 hrb hc1 hc2
  conv => arg 2; whnf
  go_wp2_with fail
  go_loopw [14] (fun kv wr => ∃ k : Nat, kv = .int .i64 (k : Int) ∧ k ≤ o.length ∧ Hid (backK s o o.length = backK s o k) ∧ Hid (Below wA.heap.size wA wr)) (fun kv _ => (intOf kv).toNat)
  case atStart => exact ⟨o.length, rfl, Nat.le_refl _, rfl, Below.refl _ _⟩
  case round =>
    obtain ⟨k, rfl, hk, HBk0, HB⟩ := hrel
    rcases Nat.eq_zero_or_pos k with hz | hz
    · have hk1 : ¬ (0 : Int) < (k : Int) := by omega
      have hkN : ¬ 0 < k := by omega
      have hkD : decide (0 < k) = false := decide_eq_false (by omega)
      have hk0 : decide ((0 : Int) < (k : Int)) = false := decide_eq_false (by omega)
      have HBk : Hid (backK e.s o o.length = k) := by unfold Hid; rw [HSe.out, HBk0.out, hz]; rfl
      clear hz HBk0
      go_wp2_with fail
      go_region
      go_wp2_with fail
      exact rput_pos _ w _ g c bx k o e xo xd xt xc xl hol hk (HRv.out.below HB.out.drew) HEr HBk (Nat.lt_of_lt_of_le HBxl.out HB.out.size) (HSk.out _ HB.out.drew) (HGl.out _ HB.out.drew) HFr HCu _ _ _ _ _ _ _ _ _ _ _ _ _ _ _ _ _ _ _ _ _ _ _ _ _ _ _ _ _ _ _ _ _ _ _ _ _ _ _ _ _ _ _ _ _ _ _ _ _ _ _ _ _ _ _ _ _ _ _ _ _ _ _ _ _ _ _ _ _ _ _ _ _ _ _ _ _ _ _ _ _ _ _ (fun q8 c8 w8 y73 y74 y75 y76 y77 y78 y79 y80 y81 y82 y83 h8 => HKK.out q8 c8 w8 _ _ _ _ _ _ _ _ _ _ _ _ _ _ _ _ _ _ y73 y74 y75 y76 y77 y78 y79 y80 y81 y82 y83 h8)
    · obtain ⟨k', hk'⟩ : ∃ k', k = k' + 1 := ⟨k - 1, by omega⟩
      have hlk : k' < o.length := by omega
      have hk1 : (0 : Int) < (k : Int) := by omega
      have hkN : 0 < k := by omega
      have hkD : decide (0 < k) = true := decide_eq_true (by omega)
      have hk0 : decide ((0 : Int) < (k : Int)) = true := decide_eq_true (by omega)
      have ew : IntKind.i64.wrap ((k : Int) - 1) = (k' : Int) := by rw [IntKind.wrap_i64]; omega
      have pi0 : (0 : Int) ≤ (k' : Int) := by omega
      have pi1 : (k' : Int) < (o.length : Int) := by omega
      have cO := HOc.out k' hlk wr HB.out
      have cX := (HSk.out wr HB.out).2.2.2.2
      have HNo := hide' (fun V => number1_any (eAt o k').r.d V (HDk.out k' hlk).1)
      rw [← (HDk.out k' hlk).2] at HNo
      have HK1 : Hid (backK s o o.length = if s < (eAt o k').s then backK s o k' else k) := by unfold Hid; rw [HBk0.out, hk']; rfl
      obtain ⟨od, hod⟩ : ∃ od, (eAt o k').r.d = od := ⟨_, rfl⟩
      obtain ⟨os, hos⟩ : ∃ os, (eAt o k').s = os := ⟨_, rfl⟩
      rw [hod, hos] at HNo
      rw [hod] at cO
      rw [hos] at HK1
      have HKs := hide' hk'
      clear hod hos hk' HBk0 hz
      by_cases hgt : s < os
      · have hgd : decide (s < os) = true := decide_eq_true hgt
        have HBn : Hid (backK s o o.length = backK s o k') := by unfold Hid; rw [HK1.out, if_pos hgt]
        clear hgt HK1
        go_wp2_with fail
        go_region_held3 (fun V => V.cell? ⟨g, k' * 5 + 4, none⟩ = some (.string od) ∧ V.cell? ⟨bx, 4, none⟩ = some (.string xd)) (first | go_keep) (first | (go_at_call 27; (with_reducible refine (HNo.out _).mono ?_); rintro e w5 ⟨rfl, rfl⟩) | (go_at_call 27; (with_reducible refine (HNx.out _).mono ?_); rintro e w6 ⟨rfl, rfl⟩))
        all_goals
          go_wp2_with fail
          exact ⟨⟨k', by go_num, by omega, HBn, HB.out.drew⟩, by have := HKs.out; simp [intOf]; omega⟩
      · have hgd : decide (s < os) = false := decide_eq_false hgt
        have HBk : Hid (backK e.s o o.length = k) := by unfold Hid; rw [HSe.out, HK1.out, if_neg hgt]
        clear hgt HK1
        go_wp2_with fail
        go_region_held3 (fun V => V.cell? ⟨g, k' * 5 + 4, none⟩ = some (.string od) ∧ V.cell? ⟨bx, 4, none⟩ = some (.string xd)) (first | go_keep) (first | (go_at_call 27; (with_reducible refine (HNo.out _).mono ?_); rintro e w5 ⟨rfl, rfl⟩) | (go_at_call 27; (with_reducible refine (HNx.out _).mono ?_); rintro e w6 ⟨rfl, rfl⟩))
        all_goals
          go_wp2_with fail
          exact rput_pos _ w _ g c bx k o e xo xd xt xc xl hol hk (HRv.out.below HB.out.drew) HEr HBk (Nat.lt_of_lt_of_le HBxl.out HB.out.size) (HSk.out _ HB.out.drew) (HGl.out _ HB.out.drew) HFr HCu _ _ _ _ _ _ _ _ _ _ _ _ _ _ _ _ _ _ _ _ _ _ _ _ _ _ _ _ _ _ _ _ _ _ _ _ _ _ _ _ _ _ _ _ _ _ _ _ _ _ _ _ _ _ _ _ _ _ _ _ _ _ _ _ _ _ _ _ _ _ _ _ _ _ _ _ _ _ _ _ _ _ _ (fun q8 c8 w8 y73 y74 y75 y76 y77 y78 y79 y80 y81 y82 y83 h8 => HKK.out q8 c8 w8 _ _ _ _ _ _ _ _ _ _ _ _ _ _ _ _ _ _ y73 y74 y75 y76 y77 y78 y79 y80 y81 y82 y83 h8)
end Go.Proofs.YtelboefeomnjaaaGreat

/-
  Proofs: the reference's Rewrites: one is put in where nothing is. (The verifier's own text; mknr6.py.)
-/
namespace Go.Proofs.YtelboefeomnjaaaGreat
set_option linter.unusedVariables false
set_option linter.unusedSimpArgs false
open Go.RowKit Go.Shelf Go.Maps Go.Proofs.YtelboefeomnjaaaGreat.Nm Go.Proofs.YtelboefeomnjaaaGreat.Zs

/-- 'append(v, nil...)' of records at a step of a region that draws its order -/
theorem step_append_noneQ {w : World} {ops : Array Oper} {o : Oper} {a : Act} {K : Act → World → Prop} {Q : Exit → Act → World → Prop} {E : Prop} (hgd : o.guard = none) (s x : Operand)
    (ho : o.op = .call { callee := .builtin .append, args := #[s, x], argTypes := #[22, 22] })
    (ad : Addr) (n c : Nat) (hs : a.eval s = .slice (some ad) n c) (hc : n ≤ c) (hx : a.eval x = .slice none 0 0)
    (h : K (a.put o.dst (.slice (some ad) n c)) w) :
    if Region.wanted o (yielded ops a.tmps) = true then Oper.wp Tryz.prog o a w K Q else E := by
  have hw : Region.wanted o (yielded ops a.tmps) = true := by simp [Region.wanted, hgd]
  rw [if_pos hw]
  obtain ⟨i0, hi, hz0, hz1, hz2⟩ := info_parts infoRM
  have hr : (Builtin.append_ #[22, 22] o.type #[.slice (some ad) n c, .slice none 0 0]).run Tryz.prog w = .ok (.slice (some ad) n c) w := by
    simp [Builtin.append_, run_underlying Tryz.underlying22, sizeOf, typeInfo, hi, Builtin.lenOf, Builtin.firstCells, loadCells, loadCellsFrom, hc, storeCells]
  unfold Oper.wp execOp
  simp only [ho, resolve, invoke, builtin, Sem.run_bind, Sem.run_pure, Result.andThen_ok, List.map_toArray, List.map_cons, List.map_nil, hs, hx, hr]
  exact h
set_option maxRecDepth 100000 in
set_option maxHeartbeats 8000000 in
/-- one is put in where nothing is -/
theorem rins_nil (Q : Exit → Act → World → Prop) (w wA : World) (bx : Nat) (e : Et) (xo xd : ByteArray) (xt xc xl : Int) (HBl : Hid (Below w.heap.size w wA)) (HEr : Hid (e.r = ⟨xo, xt, xc, xl, xd⟩)) (HBxl : Hid (bx < wA.heap.size)) (HSx : Hid (wA.cell? ⟨bx, 0, none⟩ = some (.string xo) ∧ wA.cell? ⟨bx, 1, none⟩ = some (.int .i64 xt) ∧ wA.cell? ⟨bx, 2, none⟩ = some (.int .i64 xc) ∧ wA.cell? ⟨bx, 3, none⟩ = some (.int .i64 xl) ∧ wA.cell? ⟨bx, 4, none⟩ = some (.string xd)))
    (x0 x1 x2 x3 x4 x5 x7 x8 x10 x11 x12 x13 x15 x16 x17 x18 x19 x20 x21 x22 x23 x24 x25 x26 x27 x28 x29 x30 x31 x32 x33 x34 x35 x36 x37 x38 x39 x40 x41 x42 x43 x44 x45 x46 x47 x48 x49 x50 x51 x52 x53 x54 x55 x56 x57 x58 x59 x60 x61 x62 x63 x64 x65 x66 x67 x68 x69 x70 x71 x72 x73 x74 x75 x76 x77 x78 x79 x80 x81 x82 x83 x84 x85 : Value) (HKK : Hid (∀ (q8 : Option Addr) (c8 : Nat) (w8 : World) (y14 y56 y57 y58 y59 y60 y61 y62 y63 y64 y65 y66 y67 y68 y69 y70 y71 y72 y73 y74 y75 y76 y77 y78 y79 y80 y81 y82 y83 : Value), Rv w [e] q8 c8 w8 → Q .normal ⟨List.toArray (x0 :: x1 :: x2 :: x3 :: x4 :: x5 :: (.slice q8 1 c8 : Value) :: x7 :: x8 :: (.pointer (some ⟨bx, 0, none⟩) : Value) :: x10 :: x11 :: x12 :: x13 :: y14 :: x15 :: x16 :: x17 :: x18 :: x19 :: x20 :: x21 :: x22 :: x23 :: x24 :: x25 :: x26 :: x27 :: x28 :: x29 :: x30 :: x31 :: x32 :: x33 :: x34 :: x35 :: x36 :: x37 :: x38 :: x39 :: x40 :: x41 :: x42 :: x43 :: x44 :: x45 :: x46 :: x47 :: x48 :: x49 :: x50 :: x51 :: x52 :: x53 :: x54 :: x55 :: y56 :: y57 :: y58 :: y59 :: y60 :: y61 :: y62 :: y63 :: y64 :: y65 :: y66 :: y67 :: y68 :: y69 :: y70 :: y71 :: y72 :: y73 :: y74 :: y75 :: y76 :: y77 :: y78 :: y79 :: y80 :: y81 :: y82 :: y83 :: x84 :: x85 :: []), []⟩ w8)) :
    Code.wp Tryz.prog (((Tryz.f9.body.map (tailsN 16)).getD []).getD 0 .skip) Q ⟨List.toArray (x0 :: x1 :: x2 :: x3 :: x4 :: x5 :: (.slice none 0 0 : Value) :: x7 :: x8 :: (.pointer (some ⟨bx, 0, none⟩) : Value) :: x10 :: x11 :: x12 :: x13 :: (.int .i64 0 : Value) :: x15 :: x16 :: x17 :: x18 :: x19 :: x20 :: x21 :: x22 :: x23 :: x24 :: x25 :: x26 :: x27 :: x28 :: x29 :: x30 :: x31 :: x32 :: x33 :: x34 :: x35 :: x36 :: x37 :: x38 :: x39 :: x40 :: x41 :: x42 :: x43 :: x44 :: x45 :: x46 :: x47 :: x48 :: x49 :: x50 :: x51 :: x52 :: x53 :: x54 :: x55 :: x56 :: x57 :: x58 :: x59 :: x60 :: x61 :: x62 :: x63 :: x64 :: x65 :: x66 :: x67 :: x68 :: x69 :: x70 :: x71 :: x72 :: x73 :: x74 :: x75 :: x76 :: x77 :: x78 :: x79 :: x80 :: x81 :: x82 :: x83 :: x84 :: x85 :: []), []⟩ wA := by
  have HSk : Hid (∀ V, Below wA.heap.size wA V → V.cell? ⟨bx, 0, none⟩ = some (.string xo) ∧ V.cell? ⟨bx, 1, none⟩ = some (.int .i64 xt) ∧ V.cell? ⟨bx, 2, none⟩ = some (.int .i64 xc) ∧ V.cell? ⟨bx, 3, none⟩ = some (.int .i64 xl) ∧ V.cell? ⟨bx, 4, none⟩ = some (.string xd)) := fun V hV => by
    obtain ⟨a0, a1, a2, a3, a4⟩ := HSx.out
    have cc := fun (j : Nat) => hV.cell (p := ⟨bx, j, none⟩) HBxl.out
    exact ⟨(cc _).trans a0, (cc _).trans a1, (cc _).trans a2, (cc _).trans a3, (cc _).trans a4⟩
  conv => arg 2; whnf
  go_wp2_with fail
  go_loopw [14] (fun kv wr => kv = .int .i64 0 ∧ Hid (Below wA.heap.size wA wr)) (fun kv _ => (intOf kv).toNat)
  case atStart => exact ⟨rfl, Below.refl _ _⟩
  case round =>
    obtain ⟨rfl, HB⟩ := hrel
    go_wp2_with fail
    go_region
    go_wp2_with fail
    have HBw : Hid (Below wA.heap.size wA wr.drew.drew) := HB.out.drew.drew
    obtain ⟨w9, hw9⟩ : ∃ w9, wr.drew.drew = w9 := ⟨_, rfl⟩
    rw [hw9] at HBw
    obtain ⟨wb, hwb⟩ : ∃ wb, w9.alloc (.cells #[.string xo, .int .i64 xt, .int .i64 xc, .int .i64 xl, .string xd] 42) = wb := ⟨_, rfl⟩
    have HSb : Hid (wb.cell? ⟨bx, 0, none⟩ = some (.string xo) ∧ wb.cell? ⟨bx, 1, none⟩ = some (.int .i64 xt) ∧ wb.cell? ⟨bx, 2, none⟩ = some (.int .i64 xc) ∧ wb.cell? ⟨bx, 3, none⟩ = some (.int .i64 xl) ∧ wb.cell? ⟨bx, 4, none⟩ = some (.string xd)) := HSk.out wb (HBw.out.alloc HBw.out.size _ |> fun h => hwb ▸ h)
    have HR9 : Hid (Below w.heap.size w w9) := bstep HBl.out HBw.out HBl.out.size
    have HLb : Hid (w.heap.size ≤ wb.heap.size) := (by have h1 := (alloc_belQ hwb).size; have h2 := HR9.out.size; unfold Hid; omega)
    have HRb := hide' (rs_newQ hwb)
    have HFi : Hid (∀ (v8 : Value) (w8 : World), w8.ownsRow w.heap.size 42 5 v8 (0 + 1) ([] ++ rce5 [⟨xo, xt, xc, xl, xd⟩]) → wb.grownBy w8 (Value.slice none 0 0).ownBlock → ∃ (q8 : Option Addr) (c8 : Nat), v8 = .slice q8 1 c8 ∧ Hid (Rv w [e] q8 c8 w8) ∧ Hid (w8.cell? ⟨bx, 0, none⟩ = some (.string xo) ∧ w8.cell? ⟨bx, 1, none⟩ = some (.int .i64 xt) ∧ w8.cell? ⟨bx, 2, none⟩ = some (.int .i64 xc) ∧ w8.cell? ⟨bx, 3, none⟩ = some (.int .i64 xl) ∧ w8.cell? ⟨bx, 4, none⟩ = some (.string xd))) := fun v8 w8 ho8 hg8 => by
      obtain ⟨q8, c8, hv8, _⟩ := own_shape ho8
      have hb : Below wb.heap.size wb w8 := ⟨hg8.os, hg8.tape, hg8.output, hg8.size, fun k hk => hg8.block k hk (by simp [Value.ownBlock])⟩
      have hb9 : Below w9.heap.size w9 w8 := bstep (alloc_belQ hwb) hb (alloc_belQ hwb).size
      refine ⟨q8, c8, hv8, ⟨?_, bstep HR9.out hb9 HR9.out.size⟩, HSk.out w8 (bstep HBw.out hb9 HBw.out.size)⟩
      subst hv8
      rw [List.map_cons, List.map_nil, HEr.out]
      exact ho8
    obtain ⟨s0, s1, s2, s3, s4⟩ := HSk.out w9 HBw.out
    refine wp_region_noPanic ?_
    refine wp_region_held_drew (S := fun V => V.cell? ⟨bx, 0, none⟩ = some (.string xo) ∧ V.cell? ⟨bx, 1, none⟩ = some (.int .i64 xt) ∧ V.cell? ⟨bx, 2, none⟩ = some (.int .i64 xc) ∧ V.cell? ⟨bx, 3, none⟩ = some (.int .i64 xl) ∧ V.cell? ⟨bx, 4, none⟩ = some (.string xd)) (by kernel_rfl) ?_ (fun hHeld => ?_)
    · (try dsimp only); go_keep
    refine takeD 0 (some 73) (.slice none 0 0) rfl rfl (by kernel_rfl) (by kernel_rfl) (by kernel_rfl) (fun _ _ _ h => h) (Or.inl ⟨by rfl, ?_⟩) (by assumption) ?_
    · intro w hSw; (try dsimp only at hSw); go_simp <;> (intros; omega)
    simp only [Act.put, List.setIfInBounds_toArray, List.set_cons_zero, List.set_cons_succ]
    refine takeD 1 (some 74) (.int .i64 0) rfl rfl (by kernel_rfl) (by kernel_rfl) (by kernel_rfl) (fun _ _ _ h => h) (Or.inl ⟨by rfl, ?_⟩) (by assumption) ?_
    · intro w hSw; (try dsimp only at hSw); go_simp <;> (intros; omega)
    simp only [Act.put, List.setIfInBounds_toArray, List.set_cons_zero, List.set_cons_succ]
    refine takeD 2 (some 75) (.int .i64 0) rfl rfl (by kernel_rfl) (by kernel_rfl) (by kernel_rfl) (fun _ _ _ h => h) (Or.inl ⟨by rfl, ?_⟩) (by assumption) ?_
    · intro w hSw; (try dsimp only at hSw); go_simp <;> (intros; omega)
    simp only [Act.put, List.setIfInBounds_toArray, List.set_cons_zero, List.set_cons_succ]
    refine takeD 3 (some 76) (.slice none 0 0) rfl rfl (by kernel_rfl) (by kernel_rfl) (by kernel_rfl) (fun _ _ _ h => h) (Or.inl ⟨by rfl, ?_⟩) (by assumption) ?_
    · intro w hSw; (try dsimp only at hSw); go_simp <;> (intros; omega)
    simp only [Act.put, List.setIfInBounds_toArray, List.set_cons_zero, List.set_cons_succ]
    refine takeD 4 (some 77) (.agg #[.string xo, .int .i64 xt, .int .i64 xc, .int .i64 xl, .string xd]) rfl rfl (by kernel_rfl) (by kernel_rfl) (by kernel_rfl) (fun _ _ _ h => h) (Or.inl ⟨by rfl, ?_⟩) (by assumption) ?_
    · intro w hSw; (try dsimp only at hSw); go_simp <;> (intros; omega)
    simp only [Act.put, List.setIfInBounds_toArray, List.set_cons_zero, List.set_cons_succ]
    refine takeD 6 (some 79) (.slice none 0 0) rfl rfl (by kernel_rfl) (by kernel_rfl) (by kernel_rfl) (fun _ _ _ h => h) (Or.inl ⟨by rfl, ?_⟩) (by assumption) ?_
    · intro w hSw; (try dsimp only at hSw); go_simp <;> (intros; omega)
    simp only [Act.put, List.setIfInBounds_toArray, List.set_cons_zero, List.set_cons_succ]
    refine takeD 7 (some 80) (.int .i64 0) rfl rfl (by kernel_rfl) (by kernel_rfl) (by kernel_rfl) (fun _ _ _ h => h) (Or.inl ⟨by rfl, ?_⟩) (by assumption) ?_
    · intro w hSw; (try dsimp only at hSw); go_simp <;> (intros; omega)
    simp only [Act.put, List.setIfInBounds_toArray, List.set_cons_zero, List.set_cons_succ]
    refine takeD 8 (some 81) (.slice none 0 0) rfl rfl (by kernel_rfl) (by kernel_rfl) (by kernel_rfl) (fun _ _ _ h => h) (Or.inl ⟨by rfl, ?_⟩) (by assumption) ?_
    · intro w hSw; (try dsimp only at hSw); go_simp <;> (intros; omega)
    simp only [Act.put, List.setIfInBounds_toArray, List.set_cons_zero, List.set_cons_succ]
    refine wpAnyH_ready (rs := [5]) (by kernel_rfl) (by simp) ?_
    refine AllReadyH.cons rfl (fun K_ hK => ?_) AllReadyH.nil
    go_simp
    go_wp2_with fail
    refine hK.out _ _ (HSb.out) (fun hHeld => ?_)
    clear hK K_
    try simp only [Act.put, List.setIfInBounds_toArray, List.set_cons_zero, List.set_cons_succ]
    refine wpAnyH_ready (rs := [9]) (by kernel_rfl) (by simp) ?_
    refine AllReadyH.cons rfl (fun K_ hK => ?_) AllReadyH.nil
    refine step_append_noneQ rfl _ _ rfl ⟨w9.heap.size, 0, none⟩ 1 1 rfl (Nat.le_refl _) rfl ?_
    refine hK.out (Act.put _ (some 82) (.slice (some ⟨w9.heap.size, 0, none⟩) 1 1)) _ HSb.out (fun hHeld => ?_)
    clear hK K_
    try simp only [Act.put, List.setIfInBounds_toArray, List.set_cons_zero, List.set_cons_succ]
    refine wpAnyH_ready (rs := [10]) (by kernel_rfl) (by simp) ?_
    refine AllReadyH.cons rfl (fun K_ hK => ?_) AllReadyH.nil
    refine step_append_recsQ rfl _ _ rfl w.heap.size (.slice none 0 0) 0 [] rfl (World.ownsRow_nil _ _ _ _) ⟨w9.heap.size, 0, none⟩ [⟨xo, xt, xc, xl, xd⟩] 1 1 rfl rfl HRb.out (by omega) HLb.out ?_; intro v8 w8 ho8 hg8; obtain ⟨q8, c8, hv8, HR8, HS8⟩ := HFi.out v8 w8 ho8 hg8; subst hv8; clear ho8 hg8
    refine hK.out (Act.put _ (some 83) (.slice q8 1 c8)) _ HS8.out (fun hHeld => ?_)
    clear hK K_
    try simp only [Act.put, List.setIfInBounds_toArray, List.set_cons_zero, List.set_cons_succ]
    refine takeD 11 (some 6) (.slice q8 1 c8) rfl rfl (by kernel_rfl) (by kernel_rfl) (by kernel_rfl) (fun _ _ _ h => h) (Or.inl ⟨by rfl, ?_⟩) (by assumption) ?_
    · intro w hSw; (try dsimp only at hSw); go_simp <;> (intros; omega)
    simp only [Act.put, List.setIfInBounds_toArray, List.set_cons_zero, List.set_cons_succ]
    refine wpAnyH_done (by kernel_rfl) ?_ _
    have HE := hide' (fun y14 y56 y57 y58 y59 y60 y61 y62 y63 y64 y65 y66 y67 y68 y69 y70 y71 y72 y73 y74 y75 y76 y77 y78 y79 y80 y81 y82 y83 => HKK.out q8 c8 w8 y14 y56 y57 y58 y59 y60 y61 y62 y63 y64 y65 y66 y67 y68 y69 y70 y71 y72 y73 y74 y75 y76 y77 y78 y79 y80 y81 y82 y83 HR8.out)
    refine NoPanic.normal ?_
    go_wp2_with fail
    exact HE.out _ _ _ _ _ _ _ _ _ _ _ _ _ _ _ _ _ _ _ _ _ _ _ _ _ _ _ _ _
end Go.Proofs.YtelboefeomnjaaaGreat

/-
  Proofs: the reference's Rewrites: one that counts. (The verifier's own text; mknr8.py.)
-/
namespace Go.Proofs.YtelboefeomnjaaaGreat
set_option linter.unusedVariables false
set_option linter.unusedSimpArgs false
open Go.RowKit Go.Shelf Go.Maps Go.Proofs.YtelboefeomnjaaaGreat.Nm Go.Proofs.YtelboefeomnjaaaGreat.Zs

set_option maxRecDepth 100000 in
set_option maxHeartbeats 8000000 in
/-- one that counts -/
theorem rtail_any (Q : Exit → Act → World → Prop) (w wA : World) (bx c : Nat) (q : Option Addr) (o : List Et) (m ef : Int) (e : Et) (xo xd : ByteArray) (xt xc xl : Int) (T rest : List Et) (hol : o.length ≤ 1048576) (HRv : Hid (Rv w o q c wA)) (HQn : Hid (o = [] → q = none ∧ c = 0)) (HD : Hid (EtD o)) (HEr : Hid (e.r = ⟨xo, xt, xc, xl, xd⟩)) (HEs : Hid (4 ≤ xd.size ∧ e.s = (vN (xd.extract 2 4) 2 : Nat))) (HEf : Hid (e.f = ef)) (HT : Hid (rwE m o (e :: rest) = T)) (HBxl : Hid (bx < wA.heap.size)) (HSx : Hid (wA.cell? ⟨bx, 0, none⟩ = some (.string xo) ∧ wA.cell? ⟨bx, 1, none⟩ = some (.int .i64 xt) ∧ wA.cell? ⟨bx, 2, none⟩ = some (.int .i64 xc) ∧ wA.cell? ⟨bx, 3, none⟩ = some (.int .i64 xl) ∧ wA.cell? ⟨bx, 4, none⟩ = some (.string xd)))
    (x0 x1 x2 x3 x4 x5 x8 x10 x11 x12 x14 x15 x16 x17 x18 x19 x20 x21 x22 x23 x24 x25 x26 x27 x28 x29 x30 x31 x32 x33 x34 x35 x36 x37 x38 x39 x40 x41 x42 x43 x44 x45 x46 x47 x48 x49 x50 x51 x52 x53 x54 x55 x56 x57 x58 x59 x60 x61 x62 x63 x64 x65 x66 x67 x68 x69 x70 x71 x72 x73 x74 x75 x76 x77 x78 x79 x80 x81 x82 x83 x84 x85 : Value) (HKK : Hid (∀ (ex : Exit) (q8 : Option Addr) (c8 : Nat) (m8 : Int) (o8 : List Et) (w8 : World) (y14 y47 y48 y49 y50 y51 y52 y53 y54 y55 y56 y57 y58 y59 y60 y61 y62 y63 y64 y65 y66 y67 y68 y69 y70 y71 y72 y73 y74 y75 y76 y77 y78 y79 y80 y81 y82 y83 : Value), (ex = .normal ∨ ex = .exit 1) → Rv w o8 q8 c8 w8 → (o8 = [] → q8 = none ∧ c8 = 0) → EtD o8 → o8.length ≤ o.length + 1 → rwE m8 o8 rest = T → Q ex ⟨List.toArray (x0 :: x1 :: x2 :: x3 :: x4 :: x5 :: (.slice q8 o8.length c8 : Value) :: (.int .i64 m8 : Value) :: x8 :: (.pointer (some ⟨bx, 0, none⟩) : Value) :: x10 :: x11 :: x12 :: (.int .i64 ef : Value) :: y14 :: x15 :: x16 :: x17 :: x18 :: x19 :: x20 :: x21 :: x22 :: x23 :: x24 :: x25 :: x26 :: x27 :: x28 :: x29 :: x30 :: x31 :: x32 :: x33 :: x34 :: x35 :: x36 :: x37 :: x38 :: x39 :: x40 :: x41 :: x42 :: x43 :: x44 :: x45 :: x46 :: y47 :: y48 :: y49 :: y50 :: y51 :: y52 :: y53 :: y54 :: y55 :: y56 :: y57 :: y58 :: y59 :: y60 :: y61 :: y62 :: y63 :: y64 :: y65 :: y66 :: y67 :: y68 :: y69 :: y70 :: y71 :: y72 :: y73 :: y74 :: y75 :: y76 :: y77 :: y78 :: y79 :: y80 :: y81 :: y82 :: y83 :: x84 :: x85 :: []), []⟩ w8)) :
    Code.wp Tryz.prog (((Tryz.f9.body.map (tailsN 11)).getD []).getD 0 .skip) Q ⟨List.toArray (x0 :: x1 :: x2 :: x3 :: x4 :: x5 :: (.slice q o.length c : Value) :: (.int .i64 m : Value) :: x8 :: (.pointer (some ⟨bx, 0, none⟩) : Value) :: x10 :: x11 :: x12 :: (.int .i64 ef : Value) :: x14 :: x15 :: x16 :: x17 :: x18 :: x19 :: x20 :: x21 :: x22 :: x23 :: x24 :: x25 :: x26 :: x27 :: x28 :: x29 :: x30 :: x31 :: x32 :: x33 :: x34 :: x35 :: x36 :: x37 :: x38 :: x39 :: x40 :: x41 :: x42 :: x43 :: x44 :: x45 :: x46 :: x47 :: x48 :: x49 :: x50 :: x51 :: x52 :: x53 :: x54 :: x55 :: x56 :: x57 :: x58 :: x59 :: x60 :: x61 :: x62 :: x63 :: x64 :: x65 :: x66 :: x67 :: x68 :: x69 :: x70 :: x71 :: x72 :: x73 :: x74 :: x75 :: x76 :: x77 :: x78 :: x79 :: x80 :: x81 :: x82 :: x83 :: x84 :: x85 :: []), []⟩ wA := by
  have HDe : Hid (EtD [e]) := fun y hy => by
    rw [List.mem_singleton.1 hy, HEr.out]
    exact HEs.out
  have HDi : Hid (EtD (insE e o)) := fun y hy => by
    unfold insE at hy
    rcases List.mem_append.1 hy with h | h
    · exact HD.out y (List.mem_of_mem_take h)
    · rcases List.mem_cons.1 h with h | h
      · rw [h]; exact HDe.out e (by simp)
      · exact HD.out y (List.mem_of_mem_drop h)
  have HIl := hide' (insE_len e o)
  by_cases h1 : ef < m
  · have HT1 : Hid (rwE ef [e] rest = T) := by
      have := HT.out
      unfold rwE at this
      rw [HEf.out, if_pos h1, insE_nil] at this
      exact this
    have HBl := hide' HRv.out.2
    have hd1 : decide (ef < m) = true := decide_eq_true h1
    clear h1
    conv => arg 2; whnf
    go_upto_region 16 with fail
    rename_i K_ hK_
    have HK_ := hide' hK_
    clear hK_
    go_wp2_with fail
    refine HK_.out _ _ ?_
    refine rins_nil _ w wA bx e xo xd xt xc xl HBl HEr HBxl HSx _ _ _ _ _ _ _ _ _ _ _ _ _ _ _ _ _ _ _ _ _ _ _ _ _ _ _ _ _ _ _ _ _ _ _ _ _ _ _ _ _ _ _ _ _ _ _ _ _ _ _ _ _ _ _ _ _ _ _ _ _ _ _ _ _ _ _ _ _ _ _ _ _ _ _ _ _ _ _ _ _ _ _ (fun q8 c8 w8 y14 y56 y57 y58 y59 y60 y61 y62 y63 y64 y65 y66 y67 y68 y69 y70 y71 y72 y73 y74 y75 y76 y77 y78 y79 y80 y81 y82 y83 h8 => ?_)
    have HE := hide' (fun y14 y47 y48 y49 y50 y51 y52 y53 y54 y55 y56 y57 y58 y59 y60 y61 y62 y63 y64 y65 y66 y67 y68 y69 y70 y71 y72 y73 y74 y75 y76 y77 y78 y79 y80 y81 y82 y83 => HKK.out .normal q8 c8 ef [e] w8 y14 y47 y48 y49 y50 y51 y52 y53 y54 y55 y56 y57 y58 y59 y60 y61 y62 y63 y64 y65 y66 y67 y68 y69 y70 y71 y72 y73 y74 y75 y76 y77 y78 y79 y80 y81 y82 y83 (Or.inl rfl) h8 (fun h => by cases h) HDe.out (by simp) HT1.out)
    exact HE.out _ _ _ _ _ _ _ _ _ _ _ _ _ _ _ _ _ _ _ _ _ _ _ _ _ _ _ _ _ _ _ _ _ _ _ _ _ _
  · by_cases h2 : m < ef
    · have HT1 : Hid (rwE m o rest = T) := by
        have := HT.out
        unfold rwE at this
        rw [HEf.out, if_neg h1, if_pos h2] at this
        exact this
      have hd1 : decide (ef < m) = false := decide_eq_false h1
      have hd2 : decide (m < ef) = true := decide_eq_true h2
      clear h1 h2
      have HE := hide' (fun y14 y47 y48 y49 y50 y51 y52 y53 y54 y55 y56 y57 y58 y59 y60 y61 y62 y63 y64 y65 y66 y67 y68 y69 y70 y71 y72 y73 y74 y75 y76 y77 y78 y79 y80 y81 y82 y83 => HKK.out (.exit 1) q c m o wA y14 y47 y48 y49 y50 y51 y52 y53 y54 y55 y56 y57 y58 y59 y60 y61 y62 y63 y64 y65 y66 y67 y68 y69 y70 y71 y72 y73 y74 y75 y76 y77 y78 y79 y80 y81 y82 y83 (Or.inr rfl) HRv.out HQn.out HD.out (by omega) HT1.out)
      conv => arg 2; whnf
      go_wp2_with fail
      exact HE.out _ _ _ _ _ _ _ _ _ _ _ _ _ _ _ _ _ _ _ _ _ _ _ _ _ _ _ _ _ _ _ _ _ _ _ _ _ _
    · have HT1 : Hid (rwE m (insE e o) rest = T) := by
        have := HT.out
        unfold rwE at this
        rw [HEf.out, if_neg h1, if_neg h2] at this
        exact this
      have hd1 : decide (ef < m) = false := decide_eq_false h1
      have hd2 : decide (m < ef) = false := decide_eq_false h2
      clear h1 h2
      cases o with
      | nil =>
        obtain ⟨rfl, rfl⟩ := HQn.out rfl
        have HBl := hide' HRv.out.2
        conv => arg 2; whnf
        go_upto_region 16 with fail
        rename_i K_ hK_
        have HK_ := hide' hK_
        clear hK_
        go_wp2_with fail
        refine HK_.out _ _ ?_
        refine rins_nil _ w wA bx e xo xd xt xc xl HBl HEr HBxl HSx _ _ _ _ _ _ _ _ _ _ _ _ _ _ _ _ _ _ _ _ _ _ _ _ _ _ _ _ _ _ _ _ _ _ _ _ _ _ _ _ _ _ _ _ _ _ _ _ _ _ _ _ _ _ _ _ _ _ _ _ _ _ _ _ _ _ _ _ _ _ _ _ _ _ _ _ _ _ _ _ _ _ _ (fun q8 c8 w8 y14 y56 y57 y58 y59 y60 y61 y62 y63 y64 y65 y66 y67 y68 y69 y70 y71 y72 y73 y74 y75 y76 y77 y78 y79 y80 y81 y82 y83 h8 => ?_)
        have HE := hide' (fun y14 y47 y48 y49 y50 y51 y52 y53 y54 y55 y56 y57 y58 y59 y60 y61 y62 y63 y64 y65 y66 y67 y68 y69 y70 y71 y72 y73 y74 y75 y76 y77 y78 y79 y80 y81 y82 y83 => HKK.out .normal q8 c8 m [e] w8 y14 y47 y48 y49 y50 y51 y52 y53 y54 y55 y56 y57 y58 y59 y60 y61 y62 y63 y64 y65 y66 y67 y68 y69 y70 y71 y72 y73 y74 y75 y76 y77 y78 y79 y80 y81 y82 y83 (Or.inl rfl) h8 (fun h => by cases h) HDe.out (by simp) HT1.out)
        exact HE.out _ _ _ _ _ _ _ _ _ _ _ _ _ _ _ _ _ _ _ _ _ _ _ _ _ _ _ _ _ _ _ _ _ _ _ _ _ _
      | cons y l =>
        obtain ⟨g, c', hq⟩ := own_somP HRv.out.1 (by simp)
        injection hq with hq _ hc
        subst hq hc
        obtain ⟨o, ho⟩ : ∃ o, y :: l = o := ⟨_, rfl⟩
        have h0 : 0 < o.length := by rw [← ho]; simp
        rw [ho] at HRv HD HDi HT1 hol HIl HKK ⊢
        clear HQn HT ho
        conv => arg 2; whnf
        go_upto_region 16 with fail
        rename_i K_ hK_
        have HK_ := hide' hK_
        clear hK_
        go_wp2_with fail
        refine HK_.out _ _ ?_
        refine rins_pos _ w wA g c bx o e xo xd xt xc xl hol h0 HRv HD HEr HEs HBxl HSx _ _ _ _ _ _ _ _ _ _ _ _ _ _ _ _ _ _ _ _ _ _ _ _ _ _ _ _ _ _ _ _ _ _ _ _ _ _ _ _ _ _ _ _ _ _ _ _ _ _ _ _ _ _ _ _ _ _ _ _ _ _ _ _ _ _ _ _ _ _ _ _ _ _ _ _ _ _ _ _ _ _ _ (fun q8 c8 w8 y14 y56 y57 y58 y59 y60 y61 y62 y63 y64 y65 y66 y67 y68 y69 y70 y71 y72 y73 y74 y75 y76 y77 y78 y79 y80 y81 y82 y83 h8 => ?_)
        have HE := hide' (fun y14 y47 y48 y49 y50 y51 y52 y53 y54 y55 y56 y57 y58 y59 y60 y61 y62 y63 y64 y65 y66 y67 y68 y69 y70 y71 y72 y73 y74 y75 y76 y77 y78 y79 y80 y81 y82 y83 => HKK.out .normal q8 c8 m (insE e o) w8 y14 y47 y48 y49 y50 y51 y52 y53 y54 y55 y56 y57 y58 y59 y60 y61 y62 y63 y64 y65 y66 y67 y68 y69 y70 y71 y72 y73 y74 y75 y76 y77 y78 y79 y80 y81 y82 y83 (Or.inl rfl) h8 (fun h => by have := congrArg List.length h; rw [insE_len] at this; cases this) HDi.out (by rw [insE_len]; exact Nat.le_refl _) HT1.out)
        rw [insE_len] at HE
        exact HE.out _ _ _ _ _ _ _ _ _ _ _ _ _ _ _ _ _ _ _ _ _ _ _ _ _ _ _ _ _ _ _ _ _ _ _ _ _ _
end Go.Proofs.YtelboefeomnjaaaGreat

/-
  Proofs: the reference's Rewrites: all of it. (The verifier's own text; mknr8.py.)
-/
namespace Go.Proofs.YtelboefeomnjaaaGreat
set_option linter.unusedVariables false
set_option linter.unusedSimpArgs false
open Go.RowKit Go.Shelf Go.Maps Go.Proofs.YtelboefeomnjaaaGreat.Nm Go.Proofs.YtelboefeomnjaaaGreat.Zs

/-- which entries count for a service -/
def kqB (sv : ByteArray) (e : Et) : Bool := decide (sv.size = 0) || !outE sv e
theorem keptE_kq (L : List Rn) (sv : ByteArray) : keptE L sv = (L.map enO).filter (kqB sv) := by
  unfold keptE kqB
  split
  · rename_i h
    symm
    exact List.filter_eq_self.2 fun e _ => by simp [h]
  · rename_i h
    unfold kpE
    apply List.filter_congr
    intro e _
    simp [h]
/-- those that are left -/
def rsK (L : List Rn) (sv : ByteArray) (j : Nat) : List Et := ((L.drop j).map enO).filter (kqB sv)
theorem rsK_yes {L : List Rn} {sv : ByteArray} {j : Nat} (h : j < L.length) (hk : kqB sv (enO L[j]) = true) : rsK L sv j = enO L[j] :: rsK L sv (j + 1) := by
  unfold rsK
  rw [List.drop_eq_getElem_cons h, List.map_cons, List.filter_cons, if_pos hk]
theorem rsK_no {L : List Rn} {sv : ByteArray} {j : Nat} (h : j < L.length) (hk : kqB sv (enO L[j]) = false) : rsK L sv j = rsK L sv (j + 1) := by
  unfold rsK
  rw [List.drop_eq_getElem_cons h, List.map_cons, List.filter_cons, if_neg (by rw [hk]; decide)]
theorem keptE_f (L : List Rn) (sv : ByteArray) (k : Nat) : (eAt (keptE L sv) k).f < 65536 := by
  by_cases h : k < (keptE L sv).length
  · rw [← eAt_get h]
    have hm := List.getElem_mem h
    generalize (keptE L sv)[k] = x at *
    rw [keptE_kq] at hm
    obtain ⟨r, _, hr⟩ := List.mem_map.1 (List.mem_filter.1 hm).1
    have e1 : x.f = (vN (r.d.extract 0 2) 2 : Nat) := by rw [← hr]; rfl
    rw [e1]
    have := vN2_le' (r.d.extract 0 2)
    omega
  · unfold eAt
    rw [List.getD_eq_getElem?_getD, List.getElem?_eq_none (by omega)]
    decide
theorem setT_nap (L : List Rn) : setT L 35 = napB L := rfl
def k35 : List Kind := [.num 2, .num 2, .text, .text, .text, .dom]
theorem form35 : formB 35 = formK k35 := by decide
/-- the reference's parts of an NAPTR -/
theorem parts35_any (d : ByteArray) (w : World) (hd : NapD d) : Calls Tryz.prog 33 #[.string (formB 35), .string d] w fun e w' => (∃ g c, e = .returned (.tuple #[.slice (some ⟨g, 0, none⟩) 6 c, .bool true]) ∧ w'.cell? ⟨g, 3, none⟩ = some (.string ((nr1 d).extract 0 (1 + bt (nr1 d) 0)))) ∧ Below w.heap.size w w' := by
  obtain ⟨q0, q1, q2, q4, q5, hp⟩ := hd.ps
  have h := refParts_any k35 d w hd.d6 (by decide) (by unfold k35; simp [okK])
  rw [← form35] at h
  refine h.mono ?_
  rintro e w' ⟨h1, h2⟩
  unfold k35 at h1
  rw [hp] at h1
  obtain ⟨p, c, rfl, ho⟩ := h1
  obtain ⟨g, c', hs⟩ := own_somP ho (by simp)
  injection hs with hs _ hc
  subst hs hc
  refine ⟨⟨g, c, rfl, ?_⟩, h2⟩
  rw [ho.cellAt 3 (by simp)]
  rfl
theorem svc_cut {d : ByteArray} (hd : NapD d) : ∃ P3 : ByteArray, (nr1 d).extract 0 (1 + bt (nr1 d) 0) = P3 ∧ 1 ≤ P3.size ∧ P3.extract 1 P3.size = svcB d := by
  have h1 := hd.r1
  have h2 : 1 ≤ 1 + bt (nr1 d) 0 := by omega
  unfold svcB
  generalize 1 + bt (nr1 d) 0 = n at *
  generalize nr1 d = X at *
  refine ⟨_, rfl, ?_, ?_⟩
  · rw [ByteArray.size_extract]; omega
  · apply ByteArray.ext
    rw [ByteArray.data_extract, ByteArray.data_extract, ByteArray.data_extract, ByteArray.size_extract, Array.extract_extract]
    have e1 : min (0 + (min n X.size - 0)) n = n := by omega
    rw [e1]
set_option maxRecDepth 100000 in
set_option maxHeartbeats 4000000 in
theorem rrew_no (L : List Rn) (p : Option Addr) (cap : Nat) (service : ByteArray) (w : World) (hL : L.length ≤ 1048576) (hat : RsAt w p L) (hz : ∀ r ∈ L, r.o.size ≤ 1048576 ∧ r.d.size ≤ 1048576) (hn : napB L = false) :
    Calls Tryz.prog 9 #[.slice p L.length cap, .string service] w (RwX L service w) := by
  have HE := hide' (isSet11_any L p cap 35 w hL hat (fun r hr => ⟨(hz r hr).1, by have := (hz r hr).2; omega⟩))
  rw [setT_nap, hn] at HE
  have HX : Hid (rewR L service = [] ∧ rewC L = 8) := by
    unfold Hid rewR rewC
    rw [hn]
    exact ⟨rfl, rfl⟩
  clear hat hz hn
  go_enter Tryz.func9, Tryz.ntmps9
  go_wp2_with (go_at_call 26; refine HE.out.mono ?_; rintro e w1 ⟨rfl, hB1⟩; have HB1 := hide' hB1; clear hB1)
  go_ret2
  unfold RwX
  rw [HX.out.1, HX.out.2]
  exact ⟨none, 0, rfl, World.ownsRow_nil _ _ _ _, HB1.out⟩
set_option maxRecDepth 100000 in
set_option maxHeartbeats 16000000 in
theorem rrew_yes (L : List Rn) (p : Option Addr) (cap : Nat) (service : ByteArray) (w : World) (hL : L.length ≤ 1048576) (hat : RsAt w p L) (hz : ∀ r ∈ L, r.o.size ≤ 1048576 ∧ r.d.size ≤ 1048576) (hn : napB L = true) (hsv : service.size ≤ 1048576) :
    Calls Tryz.prog 9 #[.slice p L.length cap, .string service] w (RwX L service w) := by
  have HE := hide' (isSet11_any L p cap 35 w hL hat (fun r hr => ⟨(hz r hr).1, by have := (hz r hr).2; omega⟩))
  rw [setT_nap, hn] at HE
  obtain ⟨h0, hall, -⟩ := nap_facts hn
  have HA := hide' hat
  obtain ⟨sv, hsve⟩ : ∃ sv, lowB service = sv := ⟨_, rfl⟩
  obtain ⟨T, hT⟩ : ∃ T, rwE 65536 [] (rsK L sv 0) = T := ⟨_, rfl⟩
  have HEnd : Hid (∀ (m : Int) (o : List Et) (q : Option Addr) (c : Nat) (wr : World), rwE m o (rsK L sv L.length) = T → Rv w o q c wr → RwX L service w (.returned (.tuple #[.slice q o.length c, .int .i64 0])) wr) := fun m o q c wr hr h => by
    have e0 : rsK L sv L.length = [] := by unfold rsK; rw [List.drop_length]; rfl
    rw [e0] at hr
    have eo : o = T := by rw [← hr]; rfl
    have e1 : rsK L sv 0 = keptE L sv := by unfold rsK; rw [List.drop_zero, keptE_kq]
    have e2 := rw_same (keptE L sv) (keptE_f L sv)
    rw [← e1, hT, e1] at e2
    have eR : rewR L service = o.map (·.r) := by
      unfold rewR
      rw [hn, if_pos rfl, hsve, ← e2, eo]
    have eC : rewC L = 0 := by unfold rewC; rw [hn]; rfl
    unfold RwX
    rw [eR, eC, List.length_map]
    exact ⟨q, c, rfl, h.1, h.2⟩
  have HNd : Hid (∀ j, (hj : j < L.length) → NapD L[j].d) := fun j hj => by
    have hok := hall _ (List.getElem_mem hj)
    have := (ok_facts hok.1).2.2.2.2.1
    rw [hok.2] at this
    exact nap_parts this
  have HLo := hide' (fun V => low_any service V hsv)
  rw [hsve] at HLo
  have hsz : sv.size = service.size := by rw [← hsve]; exact lowB_size service
  have HSz := hide' hsz
  have HT0 := hide' hT
  clear hat hz hn hall hsve hT hsz hsv
  go_enter Tryz.func9, Tryz.ntmps9
  go_wp2_with (go_at_call 26; refine HE.out.mono ?_; rintro e w1 ⟨rfl, hB1⟩; have HB1 := hide' hB1; clear hB1)
  go_loopw [6, 7, 20] (fun ov mv jv wr => ∃ (o : List Et) (q : Option Addr) (c : Nat) (m : Int) (j : Nat), ov = .slice q o.length c ∧ mv = .int .i64 m ∧ jv = .int .i64 (j : Int) ∧ j ≤ L.length ∧ o.length ≤ j ∧ Hid (o = [] → q = none ∧ c = 0) ∧ Hid (EtD o) ∧ Hid (rwE m o (rsK L sv j) = T) ∧ Hid (Rv w o q c wr)) (fun _ _ jv _ => L.length - (intOf jv).toNat)
  case atStart => exact ⟨[], none, 0, 65536, 0, rfl, rfl, rfl, Nat.zero_le _, Nat.le_refl _, (fun _ => ⟨rfl, rfl⟩), (fun e he => by cases he), HT0, ⟨World.ownsRow_nil _ _ _ _, HB1.out⟩⟩
  case round =>
    clear HT0 HE
    obtain ⟨o, q, c, m, j, rfl, rfl, rfl, hj, hoj, HQn, HD, HT, HRv⟩ := hrel
    by_cases hlt : j < L.length
    · have pj : (j : Int) < (L.length : Int) := by omega
      have pj0 : (0 : Int) ≤ (j : Int) := by omega
      obtain ⟨g', off', hp', hg', y0, y1, y2, y3, y4⟩ := (rsAt_below7 HA.out HRv.out.2) j hlt
      subst hp'
      have hnd := HNd.out j hlt
      have HYes : Hid (kqB sv (enO L[j]) = true → rsK L sv j = enO L[j] :: rsK L sv (j + 1)) := rsK_yes hlt
      have HNo : Hid (kqB sv (enO L[j]) = false → rsK L sv j = rsK L sv (j + 1)) := rsK_no hlt
      obtain ⟨x, hx⟩ : ∃ x, L[j] = x := ⟨_, rfl⟩
      rw [hx] at y0 y1 y2 y3 y4 hnd HYes HNo
      clear hx
      obtain ⟨xo, xt, xc, xl, xd⟩ := x
      simp only at y0 y1 y2 y3 y4 hnd
      have hd4 := hnd.d4
      have hd6 := hnd.d6
      have HFo := hide' (fun V => form_any 35 V)
      have HPa := hide' (fun V => parts35_any xd V hnd)
      obtain ⟨P3, hP, hP1, hP2⟩ := svc_cut hnd
      rw [hP] at HPa
      have hsl : (svcB xd).size ≤ 1048576 := by
        rw [← hP2, ByteArray.size_extract, ← hP, ByteArray.size_extract]
        have h1 : (nr1 xd).size ≤ (nr0 xd).size := by unfold nr1; rw [ByteArray.size_extract]; omega
        have h2 : (nr0 xd).size ≤ xd.size := by unfold nr0; rw [ByteArray.size_extract]; omega
        omega
      have HLs := hide' (fun V => low_any (svcB xd) V hsl)
      have pP1 : (1 : Int) ≤ (P3.size : Int) := by omega
      have HN0 := hide' (fun V => number0_any xd V (by omega))
      obtain ⟨e, he⟩ : ∃ e, enO ⟨xo, xt, xc, xl, xd⟩ = e := ⟨_, rfl⟩
      have HEr : Hid (e.r = ⟨xo, xt, xc, xl, xd⟩) := by unfold Hid; rw [← he]; rfl
      have HEs : Hid (4 ≤ xd.size ∧ e.s = (vN (xd.extract 2 4) 2 : Nat)) := ⟨hd4, by rw [← he]; rfl⟩
      obtain ⟨ef, hef⟩ : ∃ ef : Int, ((vN (xd.extract 0 2) 2 : Nat) : Int) = ef := ⟨_, rfl⟩
      have HEf : Hid (e.f = ef) := by unfold Hid; rw [← he, ← hef]; rfl
      rw [hef] at HN0
      have HOut : Hid (outE sv e = !((lowB (svcB xd)).toList == sv.toList)) := by unfold Hid outE; rw [HEr.out]
      rw [he] at HYes HNo
      obtain ⟨SV, hSV⟩ : ∃ SV, svcB xd = SV := ⟨_, rfl⟩
      rw [hSV] at HLs hP2 HOut
      obtain ⟨LS, hLS⟩ : ∃ LS, lowB SV = LS := ⟨_, rfl⟩
      rw [hLS] at HLs HOut
      obtain ⟨wa, hwa⟩ : ∃ wa, wr.alloc (.cells #[.string xo, .int .i64 xt, .int .i64 xc, .int .i64 xl, .string xd] 42) = wa := ⟨_, rfl⟩
      have HXa : Hid (Bx wa wr.heap.size #[.string xo, .int .i64 xt, .int .i64 xc, .int .i64 xl, .string xd] 42) := hwa ▸ World.alloc_heap_new wr _
      have HBa : Hid (Below wr.heap.size wr wa) := hwa ▸ (Below.refl _ wr).alloc (Nat.le_refl _) _
      have HSk : Hid (∀ V, Below wa.heap.size wa V → V.cell? ⟨wr.heap.size, 0, none⟩ = some (.string xo) ∧ V.cell? ⟨wr.heap.size, 1, none⟩ = some (.int .i64 xt) ∧ V.cell? ⟨wr.heap.size, 2, none⟩ = some (.int .i64 xc) ∧ V.cell? ⟨wr.heap.size, 3, none⟩ = some (.int .i64 xl) ∧ V.cell? ⟨wr.heap.size, 4, none⟩ = some (.string xd)) := fun V hV => ⟨(HXa.out.below hV HXa.out.lt).cell rfl, (HXa.out.below hV HXa.out.lt).cell rfl, (HXa.out.below hV HXa.out.lt).cell rfl, (HXa.out.below hV HXa.out.lt).cell rfl, (HXa.out.below hV HXa.out.lt).cell rfl⟩
      have HXl : Hid (wr.heap.size < wa.heap.size) := HXa.out.lt
      have HRa : Hid (∀ V, Below wa.heap.size wa V → Rv w o q c V) := fun V hV => HRv.out.below (bstep HBa.out hV HBa.out.size)
      have b4 : wa.cell? ⟨wr.heap.size, 4, none⟩ = some (.string xd) := HXa.out.cell rfl
      have hBr : Below wa.heap.size wa wa := Below.refl _ _
      have hBd : Below wa.heap.size wa wa.drew := (Below.refl _ wa).drew
      have HOl : Hid (o.length ≤ 1048576) := by unfold Hid; omega
      clear hP hSV hLS hef he hnd hsl hd4 hd6 hP1
      by_cases hse : service.size = 0
      · have hne : service.toList.isEmpty = true := by
          rw [Go.Proofs.YtelboefeomnjaaaGreat.Nm.toList_eq]
          have : service.data.toList.length = 0 := by simpa using hse
          rw [List.eq_nil_of_length_eq_zero this]
          rfl
        have HKq : Hid (kqB sv e = true) := by unfold Hid kqB; rw [HSz.out, decide_eq_true hse]; rfl
        have HTy : Hid (rwE m o (e :: rsK L sv (j + 1)) = T) := by rw [← HYes.out HKq.out]; exact HT
        clear hse HYes HNo HT HKq HLs HOut
        go_wp2_with fail
        go_region_held3 (fun V => V.cell? ⟨wr.heap.size, 4, none⟩ = some (.string xd)) (first | go_keep | (with_reducible exact (HSk.out _ hB).2.2.2.2) | (exact (HSk.out _ hB.drew).2.2.2.2)) (first | (go_at_call 34; (with_reducible refine (HFo.out _).mono ?_); rintro e1 w2 ⟨rfl, rfl⟩) | (go_at_call 33; (with_reducible refine (HPa.out _).mono ?_); rintro e2 w3 ⟨⟨g3, c3, rfl, p3⟩, hB2⟩; (with_reducible (first | have hB := bstep hBr hB2 hBr.size | have hB := bstep hBd hB2 hBd.size)); clear hB2))
        all_goals
          have z4 := (HSk.out _ hB).2.2.2.2
          go_upto_region 11 with (first | (go_at_call 27; (with_reducible refine (HN0.out _).mono ?_); rintro e5 w6 ⟨rfl, hw6⟩; have hw6' := hw6.symm; subst hw6'))
          rename_i K_ hK_
          have HK_ := hide' hK_
          clear hK_
          go_wp2_with (go_at_call 27; (with_reducible refine (HN0.out _).mono ?_); rintro e5 w6 ⟨rfl, hw6⟩; have hw6' := hw6.symm; subst hw6')
          refine HK_.out _ _ ?_
          refine rtail_any _ w _ wr.heap.size c q o m ef e xo xd xt xc xl T (rsK L sv (j + 1)) HOl.out (HRa.out _ hB) HQn HD HEr HEs HEf HTy (Nat.lt_of_lt_of_le HXl.out hB.size) (HSk.out _ hB) _ _ _ _ _ _ _ _ _ _ _ _ _ _ _ _ _ _ _ _ _ _ _ _ _ _ _ _ _ _ _ _ _ _ _ _ _ _ _ _ _ _ _ _ _ _ _ _ _ _ _ _ _ _ _ _ _ _ _ _ _ _ _ _ _ _ _ _ _ _ _ _ _ _ _ _ _ _ _ _ _ _ (fun ex q8 c8 m8 o8 w8 y14 y47 y48 y49 y50 y51 y52 y53 y54 y55 y56 y57 y58 y59 y60 y61 y62 y63 y64 y65 y66 y67 y68 y69 y70 y71 y72 y73 y74 y75 y76 y77 y78 y79 y80 y81 y82 y83 hex h8 hq8 hd8 hl8 ht8 => ?_)
          have HR8 := hide' h8
          have HQ8 := hide' hq8
          have HD8 := hide' hd8
          have HT8 := hide' ht8
          clear h8 hq8 hd8 ht8
          rcases hex with rfl | rfl
          · go_wp2_with fail
            exact ⟨⟨o8, q8, c8, m8, j + 1, rfl, rfl, by go_num, by omega, by omega, HQ8, HD8, HT8, HR8⟩, by simp [intOf]; omega⟩
          · go_wp2_with fail
            exact ⟨⟨o8, q8, c8, m8, j + 1, rfl, rfl, by go_num, by omega, by omega, HQ8, HD8, HT8, HR8⟩, by simp [intOf]; omega⟩
      · have hne : service.toList.isEmpty = false := by
          rw [Go.Proofs.YtelboefeomnjaaaGreat.Nm.toList_eq]
          have : ¬ service.data.toList.length = 0 := by simpa using hse
          cases h : service.data.toList with
          | nil => rw [h] at this; exact absurd rfl this
          | cons a l => rfl
        cases hlq : (LS.toList == sv.toList) with
        | true =>
          have HKq : Hid (kqB sv e = true) := by unfold Hid kqB; rw [HOut.out, hlq]; simp
          have HTy : Hid (rwE m o (e :: rsK L sv (j + 1)) = T) := by rw [← HYes.out HKq.out]; exact HT
          clear hse HYes HNo HT HKq HOut
          go_wp2_with fail
          go_region_held3 (fun V => V.cell? ⟨wr.heap.size, 4, none⟩ = some (.string xd)) (first | go_keep | (with_reducible exact (HSk.out _ hB).2.2.2.2) | (exact (HSk.out _ hB.drew).2.2.2.2)) (first | (go_at_call 34; (with_reducible refine (HFo.out _).mono ?_); rintro e1 w2 ⟨rfl, rfl⟩) | (go_at_call 33; (with_reducible refine (HPa.out _).mono ?_); rintro e2 w3 ⟨⟨g3, c3, rfl, p3⟩, hB2⟩; (with_reducible (first | have hB := bstep hBr hB2 hBr.size | have hB := bstep hBd hB2 hBd.size)); clear hB2))
          all_goals
            go_upto_region 11 with (first | (go_at_call 35; (with_reducible refine (HLs.out _).mono ?_); rintro e3 w4 ⟨rfl, hB4⟩; have HB4 := hide' (bstep hB hB4 hB.size); clear hB4) | (go_at_call 35; (with_reducible refine (HLo.out _).mono ?_); rintro e4 w5 ⟨rfl, hB5⟩; have HB5 := hide' (bstep HB4.out hB5 HB4.out.size); have z4 := (HSk.out _ HB5.out).2.2.2.2; clear hB5) | (go_at_call 27; (with_reducible refine (HN0.out _).mono ?_); rintro e5 w6 ⟨rfl, hw6⟩; have hw6' := hw6.symm; subst hw6'))
            rename_i K_ hK_
            have HK_ := hide' hK_
            clear hK_
            go_wp2_with (go_at_call 27; (with_reducible refine (HN0.out _).mono ?_); rintro e5 w6 ⟨rfl, hw6⟩; have hw6' := hw6.symm; subst hw6')
            refine HK_.out _ _ ?_
            refine rtail_any _ w _ wr.heap.size c q o m ef e xo xd xt xc xl T (rsK L sv (j + 1)) HOl.out (HRa.out _ HB5.out) HQn HD HEr HEs HEf HTy (Nat.lt_of_lt_of_le HXl.out HB5.out.size) (HSk.out _ HB5.out) _ _ _ _ _ _ _ _ _ _ _ _ _ _ _ _ _ _ _ _ _ _ _ _ _ _ _ _ _ _ _ _ _ _ _ _ _ _ _ _ _ _ _ _ _ _ _ _ _ _ _ _ _ _ _ _ _ _ _ _ _ _ _ _ _ _ _ _ _ _ _ _ _ _ _ _ _ _ _ _ _ _ (fun ex q8 c8 m8 o8 w8 y14 y47 y48 y49 y50 y51 y52 y53 y54 y55 y56 y57 y58 y59 y60 y61 y62 y63 y64 y65 y66 y67 y68 y69 y70 y71 y72 y73 y74 y75 y76 y77 y78 y79 y80 y81 y82 y83 hex h8 hq8 hd8 hl8 ht8 => ?_)
            have HR8 := hide' h8
            have HQ8 := hide' hq8
            have HD8 := hide' hd8
            have HT8 := hide' ht8
            clear h8 hq8 hd8 ht8
            rcases hex with rfl | rfl
            · go_wp2_with fail
              exact ⟨⟨o8, q8, c8, m8, j + 1, rfl, rfl, by go_num, by omega, by omega, HQ8, HD8, HT8, HR8⟩, by simp [intOf]; omega⟩
            · go_wp2_with fail
              exact ⟨⟨o8, q8, c8, m8, j + 1, rfl, rfl, by go_num, by omega, by omega, HQ8, HD8, HT8, HR8⟩, by simp [intOf]; omega⟩
        | false =>
          have HKq : Hid (kqB sv e = false) := by unfold Hid kqB; rw [HOut.out, hlq, HSz.out, decide_eq_false hse]; rfl
          have HTn : Hid (rwE m o (rsK L sv (j + 1)) = T) := by rw [← HNo.out HKq.out]; exact HT
          clear hse HYes HNo HT HKq HOut HEr HEs HEf HN0
          go_wp2_with fail
          go_region_held3 (fun V => V.cell? ⟨wr.heap.size, 4, none⟩ = some (.string xd)) (first | go_keep | (with_reducible exact (HSk.out _ hB).2.2.2.2) | (exact (HSk.out _ hB.drew).2.2.2.2)) (first | (go_at_call 34; (with_reducible refine (HFo.out _).mono ?_); rintro e1 w2 ⟨rfl, rfl⟩) | (go_at_call 33; (with_reducible refine (HPa.out _).mono ?_); rintro e2 w3 ⟨⟨g3, c3, rfl, p3⟩, hB2⟩; (with_reducible (first | have hB := bstep hBr hB2 hBr.size | have hB := bstep hBd hB2 hBd.size)); clear hB2))
          all_goals
            go_wp2_with (first | (go_at_call 35; (with_reducible refine (HLs.out _).mono ?_); rintro e3 w4 ⟨rfl, hB4⟩; have HB4 := hide' (bstep hB hB4 hB.size); clear hB4) | (go_at_call 35; (with_reducible refine (HLo.out _).mono ?_); rintro e4 w5 ⟨rfl, hB5⟩; have HB5 := hide' (bstep HB4.out hB5 HB4.out.size); have z4 := (HSk.out _ HB5.out).2.2.2.2; clear hB5))
            exact ⟨⟨o, q, c, m, j + 1, rfl, rfl, by go_num, by omega, by omega, HQn, HD, HTn, HRa.out _ HB5.out⟩, by simp [intOf]; omega⟩
    · obtain rfl : j = L.length := by omega
      have HE9 := hide' (HEnd.out m o q c wr HT.out HRv.out)
      go_wp2_with fail
      go_ret2
      exact HE9.out
/-- the reference's Rewrites -/
theorem rrew_any (L : List Rn) (p : Option Addr) (cap : Nat) (service : ByteArray) (w : World) (hL : L.length ≤ 1048576) (hat : RsAt w p L) (hz : ∀ r ∈ L, r.o.size ≤ 1048576 ∧ r.d.size ≤ 1048576) (hsv : service.size ≤ 1048576) :
    Calls Tryz.prog 9 #[.slice p L.length cap, .string service] w (RwX L service w) := by
  cases h : napB L with
  | false => exact rrew_no L p cap service w hL hat hz h
  | true => exact rrew_yes L p cap service w hL hat hz h hsv
end Go.Proofs.YtelboefeomnjaaaGreat

/-
  Proofs: policy.Rewrites. (The verifier's own text.)
-/
namespace Go.Proofs.YtelboefeomnjaaaGreat
set_option linter.unusedVariables false
set_option linter.unusedSimpArgs false
open Go.RowKit Go.Shelf Go.Maps Go.Proofs.YtelboefeomnjaaaGreat.Nm Go.Proofs.YtelboefeomnjaaaGreat.Zs

theorem put1_congr {lt lt' : Nat → Nat → Bool} {x : Nat} : ∀ {l : List Nat}, (∀ y ∈ l, lt x y = lt' x y) → put1 lt x l = put1 lt' x l
  | [], _ => rfl
  | y :: l, h => by
    unfold put1
    rw [h y List.mem_cons_self, put1_congr (fun z hz => h z (List.mem_cons_of_mem _ hz))]
theorem put_congr {lt lt' : Nat → Nat → Bool} : ∀ {n : Nat}, (∀ x y, x < n → y < n → lt x y = lt' x y) → put lt n = put lt' n
  | 0, _ => rfl
  | n + 1, h => by
    unfold put
    rw [put_congr (n := n) (fun x y hx hy => h x y (by omega) (by omega))]
    exact put1_congr fun y hy => h n y (by omega) (by have := List.mem_range.1 ((put_perm n).mem_iff.1 hy); omega)
/-- entries with what stands behind, from 1048576 on -/
def farE (E R : List Et) : List Et := E ++ (List.replicate (1048576 - E.length) zE ++ R)
theorem farE_tl {E R : List Et} (h : E.length ≤ 1048576) : tlE (farE E R) = R := by
  unfold tlE farE
  rw [← List.append_assoc]
  exact List.drop_left' (by rw [List.length_append, List.length_replicate]; omega)
theorem farE_at {E R : List Et} {k : Nat} (h : k < E.length) : eAt (farE E R) k = eAt E k := by
  unfold farE
  rw [eAt_app h, ← eAt_get h]
theorem farE_row (E R : List Et) {M : List Nat} (h : ∀ k ∈ M, k < E.length) : M.map (eAt (farE E R)) = M.map (eAt E) := List.map_congr_left fun k hk => farE_at (h k hk)
/-- slices.SortStableFunc of entries, by preference, with something behind them in their block -/
theorem sortFT_any (E R : List Et) (g cap : Nat) (w : World) (h : Eb w g (E ++ R)) (hL : E.length ≤ 1048576) :
    Calls Tryz.prog 20 #[.slice (some ⟨g, 0, none⟩) E.length cap, Pf.cmf] w fun r w' => r = .returned (.tuple #[]) ∧ Eb w' g ((put (ltF E) E.length).map (eAt E) ++ R) ∧ w.grownBy w' (some g) := by
  have h0 : Nb (farE E R) w g (List.range E.length) := by
    unfold Nb
    rw [farE_tl hL, farE_row E R (fun k hk => List.mem_range.1 hk), range_eAt]
    exact h
  have hC : Pf.Cm (farE E R) w g E.length (ltF (farE E R)) := fun x y W hx hy hW => by
    refine (byPreference_any (eAt (farE E R) x) (eAt (farE E R) y) W).mono ?_
    rintro r w' ⟨rfl, hb⟩
    exact ⟨⟨_, rfl, rfl⟩, hb⟩
  have := Pf.sortStable_any (farE E R) (ltF (farE E R)) (srF (farE E R)).ord g cap E.length (List.range E.length) w h0 hC (fun x hx => List.mem_range.1 hx) (by simpa using hL)
  rw [List.length_range] at this
  refine this.mono ?_
  rintro r w' ⟨rfl, L', hs, ht, hw⟩
  obtain rfl := stable_put (srF (farE E R)).ord hw.pm hs (ht (Ts.range _))
  have hb := hw.nb
  unfold Nb at hb
  rw [farE_tl hL, put_congr (lt' := ltF E) (fun x y hx hy => by unfold ltF; rw [farE_at hx, farE_at hy]), farE_row E R (fun k hk => List.mem_range.1 ((put_perm _).mem_iff.1 hk))] at hb
  exact ⟨rfl, hb, hw.gr⟩
/-- those that are found so far -/
structure Fo (w : World) (b g : Nat) (X : List Et) (j : Nat) (ov : Value) (wr : World) : Prop where
  es : EsAt wr g 0 X
  ow : wr.ownsRow b 42 5 ov j (rce5 ((X.take j).map (·.r)))
  bl : Below w.heap.size w wr
  gb : w.heap.size ≤ b ∧ g < b ∧ b ≤ wr.heap.size
section
variable {w wr w2 : World} {b g j : Nat} {X : List Et} {ov : Value}
theorem Fo.below (h : Fo w b g X j ov wr) (hb : Below wr.heap.size wr w2) : Fo w b g X j ov w2 := ⟨h.es.below hb, ownsRow_below h.ow hb, bstep h.bl hb h.bl.size, h.gb.1, h.gb.2.1, Nat.le_trans h.gb.2.2 hb.size⟩
theorem Fo.next {q : Option Addr} {c : Nat} (h : Fo w b g X j (.slice q j c) wr) (hj : j < X.length) {x : Rn} (hx : X[j].r = x) {v' : Value} (ho : w2.ownsRow b 42 5 v' (j + [x].length) (rce5 ((X.take j).map (·.r)) ++ rce5 [x])) (hg : wr.grownBy w2 (Value.slice q j c).ownBlock) : ∃ q' c', v' = .slice q' (j + 1) c' ∧ Fo w b g X (j + 1) v' w2 := by
  subst hx
  have hob : ∀ k, (Value.slice q j c).ownBlock = some k → b ≤ k := fun k hk => ownBlock_le h.ow hk
  obtain ⟨q', c', hv, _⟩ := own_shape ho
  refine ⟨q', c', hv, ⟨Nat.lt_of_lt_of_le h.es.1 hg.size, fun k hk => ?_⟩, ?_, h.bl.grown hg h.bl.size (fun k e => by have := hob k e; have := h.gb; omega), h.gb.1, h.gb.2.1, Nat.le_trans h.gb.2.2 hg.size⟩
  · have hf := fun (i : Nat) => hg.cell_far ⟨g, i, none⟩ h.es.1 (fun e => by have := hob g e.symm; have := h.gb; omega)
    obtain ⟨c0, c1, c2, c3, c4, c5, c6⟩ := h.es.2 k hk
    exact ⟨(hf _).trans c0, (hf _).trans c1, (hf _).trans c2, (hf _).trans c3, (hf _).trans c4, (hf _).trans c5, (hf _).trans c6⟩
  · rw [List.take_succ_eq_append_getElem hj, List.map_append, rce5_app]
    exact ho
end
theorem esAt_cut {w : World} {g o : Nat} {X : List Et} (h : EsAt w g o X) (e : Nat) : EsAt w g o (X.take e) := ⟨h.1, fun k hk => by
  rw [List.length_take] at hk
  rw [List.getElem_take]
  exact h.2 k (by omega)⟩
theorem eb_es {w : World} {g : Nat} {X R : List Et} (h : Eb w g (X ++ R)) : EsAt w g 0 X := ⟨h.lt, fun k hk => by
  have := h.cells (k := k) (by rw [List.length_append]; omega)
  rw [List.getElem_append_left hk] at this
  rw [Nat.zero_add]
  exact this⟩
set_option maxRecDepth 100000 in
set_option maxHeartbeats 4000000 in
theorem rewrites_no (L : List Rn) (p : Option Addr) (cap : Nat) (service : ByteArray) (w : World) (hL : L.length ≤ 1048576) (hat : RsAt w p L) (hz : ∀ r ∈ L, r.o.size ≤ maxLen ∧ r.d.size ≤ 9223372036854775807) (hn : napB L = false) :
    Calls Tryz.prog 8 #[.slice p L.length cap, .string service] w (RwX L service w) := by
  have HE := hide' (entriesN_no L p cap w hL hat hz hn)
  have HX : Hid (rewR L service = [] ∧ rewC L = 8) := by
    unfold Hid rewR rewC
    rw [hn]
    exact ⟨rfl, rfl⟩
  clear hat hz hn
  go_enter Tryz.func8, Tryz.ntmps8
  go_wp2_with (go_at_call 18; refine HE.out.mono ?_; rintro e w1 ⟨rfl, hB1⟩; have HB1 := hide' hB1; clear hB1)
  go_ret2
  unfold RwX
  rw [HX.out.1, HX.out.2]
  exact ⟨none, 0, rfl, World.ownsRow_nil _ _ _ _, HB1.out⟩
theorem cell_new1Q (w : World) (v : Value) (T : TypeId) : (w.alloc (.cells #[v] T)).cell? ⟨w.heap.size, 0, none⟩ = some v := Bx.cell (World.alloc_heap_new w _) rfl
set_option maxRecDepth 100000 in
set_option maxHeartbeats 8000000 in
theorem rewrites_yes (L : List Rn) (p : Option Addr) (cap : Nat) (service : ByteArray) (w : World) (hL : L.length ≤ 1048576) (hat : RsAt w p L) (hz : ∀ r ∈ L, r.o.size ≤ maxLen ∧ r.d.size ≤ 9223372036854775807) (hs : napB L = true) (hsv : service.size ≤ 1048576) :
    Calls Tryz.prog 8 #[.slice p L.length cap, .string service] w (RwX L service w) := by
  have HE := hide' (entriesN_yes L p cap w hL hat hz hs)
  have HSm := hide' (fun V => small_any service V hsv)
  obtain ⟨h0, hall, -⟩ := nap_facts hs
  obtain ⟨sv, hsve⟩ : ∃ sv, lowB service = sv := ⟨_, rfl⟩
  obtain ⟨B, hB⟩ : ∃ B, keptE L sv = B := ⟨_, rfl⟩
  have hBl : B.length ≤ L.length := by
    rw [← hB]
    unfold keptE
    split
    · rw [List.length_map]; exact Nat.le_refl _
    · have := kpE_le sv (L.map enO); rw [List.length_map] at this; exact this
  obtain ⟨M, hM⟩ : ∃ M, put (ltF B) B.length = M := ⟨_, rfl⟩
  have hMl : M.length = B.length := by rw [← hM, put_len]
  have HRun : Hid (∀ (g : Nat) (R : List Et) (V : World), Eb V g (M.map (eAt B) ++ R) → Calls Tryz.prog 22 #[.slice (some ⟨g, 0, none⟩) B.length L.length] V fun r w' => (∃ e, r = .returned (.slice (some ⟨g, 0, none⟩) e e) ∧ RunE (M.map (eAt B)) e) ∧ Below V.heap.size V w') := fun g R V hV => by
    have := run_at g 0 L.length (M.map (eAt B)) V (eb_es hV) (by rw [List.length_map]; omega) (by rw [List.length_map]; omega) (by unfold maxLen; omega)
    rw [List.length_map, hMl] at this
    exact this
  have HSo : Hid (∀ (g : Nat) (R : List Et) (V : World), Eb V g (B ++ R) → Calls Tryz.prog 20 #[.slice (some ⟨g, 0, none⟩) B.length L.length, Pf.cmf] V fun r w' => r = .returned (.tuple #[]) ∧ Eb w' g (M.map (eAt B) ++ R) ∧ V.grownBy w' (some g)) := fun g R V hV => by
    have := sortFT_any B R g L.length V hV (by omega)
    rw [hM] at this
    exact this
  have HEnd : Hid (∀ (b g : Nat) (q : Option Addr) (c e : Nat) (wr : World), RunE (M.map (eAt B)) e → Fo w b g ((M.map (eAt B)).take e) e (.slice q e c) wr → RwX L service w (.returned (.tuple #[.slice q e c, .int .i64 0])) wr) := fun b g q c e wr he h => by
    obtain ⟨e1, e2⟩ := run_rew he
    have eR : rewR L service = ((M.map (eAt B)).take e).map (·.r) := by
      unfold rewR
      rw [hs, if_pos rfl, hsve, hB, e1]
      unfold rewT
      rw [hM]
    have eC : rewC L = 0 := by unfold rewC; rw [hs]; rfl
    have eL : (((M.map (eAt B)).take e).map (·.r)).length = e := by rw [List.length_map, e1, List.length_map, e2]
    have ho := h.ow
    rw [List.take_of_length_le (l := (M.map (eAt B)).take e) (by rw [List.length_take]; omega)] at ho
    unfold RwX
    rw [eR, eC, eL]
    exact ⟨q, c, rfl, own_baseQ ho h.gb.1, h.bl⟩
  have HSt : Hid (∀ (g : Nat) (R : List Et) (w3 w4 : World) (e : Nat), w.heap.size ≤ g → Below w.heap.size w w3 → Eb w3 g (M.map (eAt B) ++ R) → Below w3.heap.size w3 w4 → Fo w w4.heap.size g ((M.map (eAt B)).take e) 0 (.slice none 0 0) w4) := fun g R w3 w4 e hg hb h3 h4 => ⟨(esAt_cut (eb_es h3) e).below h4, World.ownsRow_nil _ _ _ _, bstep hb h4 hb.size, Nat.le_trans hb.size h4.size, Nat.lt_of_lt_of_le h3.lt h4.size, Nat.le_refl _⟩
  have HNd : Hid (∀ e ∈ L.map enO, NapD e.r.d) := fun e he => by
    obtain ⟨r, hr, rfl⟩ := List.mem_map.1 he
    have hok := hall r hr
    have := (ok_facts hok.1).2.2.2.2.1
    rw [hok.2] at this
    exact nap_parts this
  have HDel : Hid (∀ (g b : Nat) (V : World), Eb V g (L.map enO) → Bx V b #[.string sv] 9 → b ≠ g → Calls Tryz.prog 29 #[.slice (some ⟨g, 0, none⟩) L.length L.length, rwF b] V fun r w' => ∃ R, r = .returned (.slice (some ⟨g, 0, none⟩) (kpE sv (L.map enO)).length L.length) ∧ Eb w' g (kpE sv (L.map enO) ++ R) ∧ V.grownBy w' (some g)) := fun g b V h1 h2 h3 => by
    have := deleteN_any sv (L.map enO) g b L.length V (by rw [List.length_map]; exact hL) (by rw [List.length_map]; exact Nat.le_refl _) h1 h2 h3 HNd.out
    rw [List.length_map] at this
    exact this
  have hsz : (lowB service).size = service.size := lowB_size service
  rw [hsve] at HSm hsz
  have HLen : Hid (∀ e, RunE (M.map (eAt B)) e → e ≤ B.length ∧ ((M.map (eAt B)).take e).length = e) := fun e he => by
    have := he.le
    rw [List.length_map, hMl] at this
    exact ⟨this, by rw [List.length_take, List.length_map, hMl]; omega⟩
  clear hat hz hs hall HNd hsve hM hMl
  obtain ⟨n, hn⟩ : ∃ n, B.length = n := ⟨_, rfl⟩
  rw [hn] at HSo HRun HLen hBl
  have HPf := hide' (show ∀ e : Nat, e ≤ n → e ≤ 1048576 from fun e h => by omega)
  by_cases he : sv.size = 0
  · have hB0 : L.map enO = B := by rw [← hB]; unfold keptE; rw [if_pos he]
    have hnl : L.length = n := by rw [← hn, ← hB0, List.length_map]
    have hne : sv.toList.isEmpty = true := by
      rw [Go.Proofs.YtelboefeomnjaaaGreat.Nm.toList_eq]
      have : sv.data.toList.length = 0 := by simpa using he
      rw [List.eq_nil_of_length_eq_zero this]
      rfl
    rw [hB0] at HE
    subst hnl
    obtain ⟨R, hR⟩ : ∃ R : List Et, R = [] := ⟨_, rfl⟩
    have HRn := hide' hR
    clear HDel hB hsz he hB0 h0 hsv hn hBl hR
    go_enter Tryz.func8, Tryz.ntmps8
    go_wp2_with (first
      | (go_at_call 18; refine HE.out.mono ?_; rintro e w1 ⟨g, rfl, hE1⟩; have HE1 := hide' hE1; clear hE1)
      | (go_at_call 28; (with_reducible refine (HSm.out _).mono ?_); rintro e w2 ⟨rfl, hB2⟩; have HE2 := hide' (HE1.out.below hB2); clear hB2 HE1; obtain ⟨wb, hwb⟩ : ∃ wb, w2.alloc (.cells #[.string sv] 9) = wb := ⟨_, rfl⟩; have z0 : wb.cell? ⟨w2.heap.size, 0, none⟩ = some (.string sv) := (by rw [← hwb]; exact cell_new1Q _ _ _); have HE3 := hide' (HE2.out.below (alloc_belQ hwb)); have HS3 : Hid (Eb wb g (B ++ R)) := (by unfold Hid; rw [HRn.out, List.append_nil]; exact HE3.out.1); have HB3 := hide' HE3.out.2.1; have HG := hide' HE3.out.2.2; clear HE2 HE3)
      | (go_at_call 20; refine (HSo.out g R _ HS3.out).mono ?_; rintro e4 w4 ⟨rfl, hb4, hg4⟩; have HB4 : Hid (Below w.heap.size w w4) := HB3.out.grown hg4 HB3.out.size (fun q hq => by injection hq with hq; have := HG.out; omega); have HS4 := hide' hb4; clear hb4 hg4)
      | (go_at_call 22; (with_reducible refine (HRun.out g R _ HS4.out).mono ?_); rintro r5 w5 ⟨⟨e, rfl, hre⟩, hB5⟩; have HF0 := hide' (HSt.out g R w4 w5 e HG.out HB4.out HS4.out hB5); have HRE := hide' hre; have HLe := hide' (HLen.out e hre); clear hre hB5))
    clear HS4 HB4 HS3 HB3 HG z0 hwb
    have HEn := hide' (fun q c wr => HEnd.out w5.heap.size g q c e wr HRE.out)
    have hel := HLe.out.1
    have hXl := HLe.out.2
    obtain ⟨X, hX⟩ : ∃ X, (M.map (eAt B)).take e = X := ⟨_, rfl⟩
    rw [hX] at HF0 HEn hXl
    clear hX HLe HRun HSo HSt HEnd HLen
    have HXl := hide' hXl
    clear hXl
    go_loopw [9, 31] (fun ov kv wr => ∃ (j : Nat) (q : Option Addr) (c : Nat), ov = .slice q j c ∧ kv = .int .i64 (j : Int) ∧ j ≤ e ∧ Hid (Fo w w5.heap.size g X j (.slice q j c) wr)) (fun _ kv _ => e - (intOf kv).toNat)
    case atStart => exact ⟨0, none, 0, rfl, rfl, Nat.zero_le _, HF0⟩
    case round =>
      clear HF0
      obtain ⟨j, q, c, rfl, rfl, hj, HF⟩ := hrel
      by_cases hlt : j < e
      · have hjX : j < X.length := by rw [HXl.out]; exact hlt
        have hcc := HF.out.es.2 j hjX
        rw [Nat.zero_add] at hcc
        obtain ⟨x, hx⟩ : ∃ x, X[j] = x := ⟨_, rfl⟩
        rw [hx] at hcc
        have HXj : Hid (∃ h : j < X.length, X[j].r = x.r) := ⟨hjX, by rw [hx]⟩
        clear hx hjX
        obtain ⟨xf, xs, xo, xt, xc, xl, xd⟩ := x
        obtain ⟨c0, c1, c2, c3, c4, c5, c6⟩ := hcc
        simp only at c0 c1 c2 c3 c4 c5 c6 HXj
        obtain ⟨wa, hwa⟩ : ∃ wa, wr.alloc (.cells #[.int .i64 xf, .int .i64 xs, .string xo, .int .i64 xt, .int .i64 xc, .int .i64 xl, .string xd] 50) = wa := ⟨_, rfl⟩
        have HXa : Hid (Bx wa wr.heap.size #[.int .i64 xf, .int .i64 xs, .string xo, .int .i64 xt, .int .i64 xc, .int .i64 xl, .string xd] 50) := hwa ▸ World.alloc_heap_new wr _
        have HFa := hide' (HF.out.below (alloc_belQ hwa))
        have b2 : wa.cell? ⟨wr.heap.size, 2, none⟩ = some (.string xo) := HXa.out.cell rfl
        have b3 : wa.cell? ⟨wr.heap.size, 3, none⟩ = some (.int .i64 xt) := HXa.out.cell rfl
        have b4 : wa.cell? ⟨wr.heap.size, 4, none⟩ = some (.int .i64 xc) := HXa.out.cell rfl
        have b5 : wa.cell? ⟨wr.heap.size, 5, none⟩ = some (.int .i64 xl) := HXa.out.cell rfl
        have b6 : wa.cell? ⟨wr.heap.size, 6, none⟩ = some (.string xd) := HXa.out.cell rfl
        obtain ⟨wb, hwb⟩ : ∃ wb, wa.alloc (.cells #[.string xo, .int .i64 xt, .int .i64 xc, .int .i64 xl, .string xd] 42) = wb := ⟨_, rfl⟩
        have HFb := hide' (HFa.out.below (alloc_belQ hwb))
        have HRb := hide' (rs_newQ hwb)
        have pj : (j : Int) < (e : Int) := by omega
        have pj0 : (0 : Int) ≤ (j : Int) := by omega
        have HN1 : Hid (j + 1 ≤ 10000000) := by unfold Hid; omega
        go_wp2_with (at_builtin; refine wpList_append_recsM rfl _ _ rfl w5.heap.size _ j (rce5 ((X.take j).map (·.r))) ?_ HFb.out.ow (some ⟨wa.heap.size, 0, none⟩) [⟨xo, xt, xc, xl, xd⟩] 1 ?_ HRb.out (fun h => absurd h (Option.some_ne_none _)) HN1.out HFb.out.gb.2.2 ?_; rfl; rfl; intro v9 w9 ho9 hg9; obtain ⟨hjX, hjr⟩ := HXj.out; obtain ⟨q9, c9, hv9, HN9⟩ := HFb.out.next hjX hjr ho9 hg9; subst hv9; have HF9 := hide' HN9; clear ho9 hg9 HN9 hjX hjr)
        exact ⟨⟨j + 1, q9, c9, rfl, by go_num, by omega, HF9⟩, by simp [intOf]; omega⟩
      · have hje : j = e := by omega
        subst hje
        have HE9 := hide' (HEn.out q c wr HF.out)
        go_wp2_with fail
        go_ret2
        exact HE9.out
  · have hB0 : kpE sv (L.map enO) = B := by rw [← hB]; unfold keptE; rw [if_neg he]
    have hne : sv.toList.isEmpty = false := by
      rw [Go.Proofs.YtelboefeomnjaaaGreat.Nm.toList_eq]
      have : ¬ sv.data.toList.length = 0 := by simpa using he
      cases h : sv.data.toList with
      | nil => rw [h] at this; exact absurd rfl this
      | cons a l => rfl
    rw [hB0, hn] at HDel
    clear hB hsz he hB0 h0 hsv hn
    unfold rwF at HDel
    go_enter Tryz.func8, Tryz.ntmps8
    go_wp2_with (first
      | (go_at_call 18; refine HE.out.mono ?_; rintro e w1 ⟨g, rfl, hE1⟩; have HE1 := hide' hE1; clear hE1)
      | (go_at_call 28; (with_reducible refine (HSm.out _).mono ?_); rintro e w2 ⟨rfl, hB2⟩; have HE2 := hide' (HE1.out.below hB2); clear hB2 HE1; obtain ⟨wb, hwb⟩ : ∃ wb, w2.alloc (.cells #[.string sv] 9) = wb := ⟨_, rfl⟩; have z0 : wb.cell? ⟨w2.heap.size, 0, none⟩ = some (.string sv) := (by rw [← hwb]; exact cell_new1Q _ _ _); have HE3 := hide' (HE2.out.below (alloc_belQ hwb)); have HBx : Hid (Bx wb w2.heap.size #[.string sv] 9) := hwb ▸ World.alloc_heap_new w2 _; have HNe : Hid (w2.heap.size ≠ g) := (fun e => by have := HE2.out.1.lt; omega))
      | (go_at_call 29; refine (HDel.out g w2.heap.size _ HE3.out.1 HBx.out HNe.out).mono ?_; rintro r3 w3 ⟨R, rfl, hS3, hG3⟩; have HS3 := hide' hS3; have HG := hide' HE3.out.2.2; have HB3 : Hid (Below w.heap.size w w3) := HE3.out.2.1.grown hG3 HE3.out.2.1.size (fun q hq => by injection hq with hq; have := HG.out; omega); clear hS3 hG3 HE3 HE2 HBx HNe)
      | (go_at_call 20; refine (HSo.out g R _ HS3.out).mono ?_; rintro e4 w4 ⟨rfl, hb4, hg4⟩; have HB4 : Hid (Below w.heap.size w w4) := HB3.out.grown hg4 HB3.out.size (fun q hq => by injection hq with hq; have := HG.out; omega); have HS4 := hide' hb4; clear hb4 hg4)
      | (go_at_call 22; (with_reducible refine (HRun.out g R _ HS4.out).mono ?_); rintro r5 w5 ⟨⟨e, rfl, hre⟩, hB5⟩; have HF0 := hide' (HSt.out g R w4 w5 e HG.out HB4.out HS4.out hB5); have HRE := hide' hre; have HLe := hide' (HLen.out e hre); clear hre hB5))
    clear HS4 HB4 HS3 HB3 HG z0 hwb HDel
    have HEn := hide' (fun q c wr => HEnd.out w5.heap.size g q c e wr HRE.out)
    have hel := HLe.out.1
    have hXl := HLe.out.2
    obtain ⟨X, hX⟩ : ∃ X, (M.map (eAt B)).take e = X := ⟨_, rfl⟩
    rw [hX] at HF0 HEn hXl
    clear hX HLe HRun HSo HSt HEnd HLen
    have HXl := hide' hXl
    clear hXl
    go_loopw [9, 31] (fun ov kv wr => ∃ (j : Nat) (q : Option Addr) (c : Nat), ov = .slice q j c ∧ kv = .int .i64 (j : Int) ∧ j ≤ e ∧ Hid (Fo w w5.heap.size g X j (.slice q j c) wr)) (fun _ kv _ => e - (intOf kv).toNat)
    case atStart => exact ⟨0, none, 0, rfl, rfl, Nat.zero_le _, HF0⟩
    case round =>
      clear HF0
      obtain ⟨j, q, c, rfl, rfl, hj, HF⟩ := hrel
      by_cases hlt : j < e
      · have hjX : j < X.length := by rw [HXl.out]; exact hlt
        have hcc := HF.out.es.2 j hjX
        rw [Nat.zero_add] at hcc
        obtain ⟨x, hx⟩ : ∃ x, X[j] = x := ⟨_, rfl⟩
        rw [hx] at hcc
        have HXj : Hid (∃ h : j < X.length, X[j].r = x.r) := ⟨hjX, by rw [hx]⟩
        clear hx hjX
        obtain ⟨xf, xs, xo, xt, xc, xl, xd⟩ := x
        obtain ⟨c0, c1, c2, c3, c4, c5, c6⟩ := hcc
        simp only at c0 c1 c2 c3 c4 c5 c6 HXj
        obtain ⟨wa, hwa⟩ : ∃ wa, wr.alloc (.cells #[.int .i64 xf, .int .i64 xs, .string xo, .int .i64 xt, .int .i64 xc, .int .i64 xl, .string xd] 50) = wa := ⟨_, rfl⟩
        have HXa : Hid (Bx wa wr.heap.size #[.int .i64 xf, .int .i64 xs, .string xo, .int .i64 xt, .int .i64 xc, .int .i64 xl, .string xd] 50) := hwa ▸ World.alloc_heap_new wr _
        have HFa := hide' (HF.out.below (alloc_belQ hwa))
        have b2 : wa.cell? ⟨wr.heap.size, 2, none⟩ = some (.string xo) := HXa.out.cell rfl
        have b3 : wa.cell? ⟨wr.heap.size, 3, none⟩ = some (.int .i64 xt) := HXa.out.cell rfl
        have b4 : wa.cell? ⟨wr.heap.size, 4, none⟩ = some (.int .i64 xc) := HXa.out.cell rfl
        have b5 : wa.cell? ⟨wr.heap.size, 5, none⟩ = some (.int .i64 xl) := HXa.out.cell rfl
        have b6 : wa.cell? ⟨wr.heap.size, 6, none⟩ = some (.string xd) := HXa.out.cell rfl
        obtain ⟨wb, hwb⟩ : ∃ wb, wa.alloc (.cells #[.string xo, .int .i64 xt, .int .i64 xc, .int .i64 xl, .string xd] 42) = wb := ⟨_, rfl⟩
        have HFb := hide' (HFa.out.below (alloc_belQ hwb))
        have HRb := hide' (rs_newQ hwb)
        have pj : (j : Int) < (e : Int) := by omega
        have pj0 : (0 : Int) ≤ (j : Int) := by omega
        have HN1 : Hid (j + 1 ≤ 10000000) := by unfold Hid; omega
        go_wp2_with (at_builtin; refine wpList_append_recsM rfl _ _ rfl w5.heap.size _ j (rce5 ((X.take j).map (·.r))) ?_ HFb.out.ow (some ⟨wa.heap.size, 0, none⟩) [⟨xo, xt, xc, xl, xd⟩] 1 ?_ HRb.out (fun h => absurd h (Option.some_ne_none _)) HN1.out HFb.out.gb.2.2 ?_; rfl; rfl; intro v9 w9 ho9 hg9; obtain ⟨hjX, hjr⟩ := HXj.out; obtain ⟨q9, c9, hv9, HN9⟩ := HFb.out.next hjX hjr ho9 hg9; subst hv9; have HF9 := hide' HN9; clear ho9 hg9 HN9 hjX hjr)
        exact ⟨⟨j + 1, q9, c9, rfl, by go_num, by omega, HF9⟩, by simp [intOf]; omega⟩
      · have hje : j = e := by omega
        subst hje
        have HE9 := hide' (HEn.out q c wr HF.out)
        go_wp2_with fail
        go_ret2
        exact HE9.out
/-- policy.Rewrites -/
theorem rewrites_any (L : List Rn) (p : Option Addr) (cap : Nat) (service : ByteArray) (w : World) (hL : L.length ≤ 1048576) (hat : RsAt w p L) (hz : ∀ r ∈ L, r.o.size ≤ 1048576 ∧ r.d.size ≤ 1048576) (hsv : service.size ≤ 1048576) :
    Calls Tryz.prog 8 #[.slice p L.length cap, .string service] w (RwX L service w) := by
  have hz' : ∀ r ∈ L, r.o.size ≤ maxLen ∧ r.d.size ≤ 9223372036854775807 := fun r hr => ⟨by have := (hz r hr).1; unfold maxLen; omega, by have := (hz r hr).2; omega⟩
  cases h : napB L with
  | false => exact rewrites_no L p cap service w hL hat hz' h
  | true => exact rewrites_yes L p cap service w hL hat hz' h hsv
end Go.Proofs.YtelboefeomnjaaaGreat
