import Derived.Test.YtoabnpdoicbpiaaGreatZn8G
import Derived.Lib.SliceRun
namespace Go.Proofs.YtoabnpdoicbpiaaGreat
set_option linter.unusedVariables false
set_option linter.unusedSimpArgs false
open Go.RowKit Go.Shelf Go.Maps Go.Proofs.YtoabnpdoicbpiaaGreat.Nm
theorem row_emptyZ (w : World) (e size : Nat) : (w.alloc (.cells #[] e)).ownsRow w.heap.size e size (.slice (some ⟨w.heap.size, 0, none⟩) 0 0) 0 [] :=
 ⟨by simp, .inr ⟨w.heap.size, 0, #[], rfl, Nat.le_refl _, World.alloc_heap_new w _, by simp, by simp, by simp, by simp⟩⟩
set_option maxRecDepth 100000 in
set_option maxHeartbeats 1000000 in
theorem cloneZ_any (L : List Rn) (p : Option Addr) (cap : Nat) (w : World) (hL : L.length ≤ 1048576) (hat : RsAt w p L) (hn : p = none → cap = 0) :
  Calls Tryz.prog 22 #[.slice p L.length cap] w fun r w' => (∃ v, r = .returned v ∧ w'.ownsRow w.heap.size 29 5 v L.length (rce5 L)) ∧ Below w.heap.size w w' := by
 have qT : ∀ (w : World) (a : Option Addr) (n c n' c' : Nat), (binOp .eql 22 (.slice a n c) (.slice none n' c')).run Tryz.prog w = .ok (.bool a.isNone) w := fun w a n c n' c' => Lib.run_eql_slice_nil w _ _ a n c n' c' Tryz.underlying22
 cases p with
 | none =>
  obtain rfl : L = [] := by
   cases L with
   | nil => rfl
   | cons y l => obtain ⟨g, off, hp, _⟩ := hat 0 (by simp); cases hp
  go_enter Tryz.func22, Tryz.ntmps22
  go_wp2_with fail
  go_ret
  exact ⟨⟨_, rfl, World.ownsRow_nil _ _ _ _⟩, Below.refl _ _⟩
 | some ad =>
  have HA := hide' (fun j u => rs_newsM (hat : RsAt w (some ad) L) j u)
  have HA2 : Hid (∀ j u, (rce5 L)[j]? = some u → (w.alloc (.cells #[] 29)).cell? (ad.add j) = some u) := fun j u h => by
   have h1 := HA.out j u h
   exact Lib.cell?_alloc_some _ h1
  have HB := hide' ((Below.refl w.heap.size w).alloc (Nat.le_refl _) (.cells #[] 29))
  have HO := hide' (row_emptyZ w 29 5)
  clear hat
  obtain ⟨i0, hi, hz0, hz1, hz2⟩ := info_parts infoRM
  have HI := hide' (And.intro hi (And.intro hz0 (And.intro hz1 hz2)))
  clear hi hz0 hz1 hz2
  go_enter Tryz.func22, Tryz.ntmps22
  go_wp2_with (first
   | (at_builtin; refine wpList_append_own _ rfl _ _ 22 rfl w.heap.size 29 i0 (.agg #[.string .empty, .int .i64 0, .int .i64 0, .int .i64 0, .string .empty]) 5 56 Tryz.underlying22 HI.out.1 HI.out.2.1 HI.out.2.2.1 HI.out.2.2.2 rfl (by decide) (.slice (some ⟨w.heap.size, 0, none⟩) 0 0) 0 [] rfl HO.out ad L.length cap (rce5 L) rfl (rce5_len L) HA2.out (rce5_one L) (by unfold maxLen; omega) (by omega) (by simp) ?_; intro v1 w1 ho1 hg1 _; rw [Nat.zero_add, List.nil_append] at ho1; have HO1 := hide' ho1; have HB1 := hide' (HB.out.grown hg1 (by simp) (fun k e => by simp [Value.ownBlock] at e; omega)); clear ho1 hg1))
  go_ret
  exact ⟨⟨_, rfl, HO1.out⟩, HB1.out⟩
def rowT (T : List Rn) (x : Nat × Nat) : List Rn := (T.take x.2).drop x.1
theorem rowT_len {T : List Rn} {x : Nat × Nat} (h2 : x.2 ≤ T.length) : (rowT T x).length = x.2 - x.1 := by
 unfold rowT
 rw [List.length_drop, List.length_take]
 omega
theorem rsAt_ownZ {w : World} {b n c : Nat} {p : Option Addr} {T : List Rn} (h : w.ownsRow b 29 5 (.slice p n c) n (rce5 T)) (hn : n = T.length) : RsAt w p T := by
 cases p with
 | none =>
  intro k hk
  obtain ⟨hl, (⟨h1, h0⟩ | ⟨g', cap', cur, h1, _⟩)⟩ := h
  ·subst hn; omega
  ·cases h1
 | some ad =>
  obtain ⟨g, o, q⟩ := ad
  have h' := h
  obtain ⟨hl, (⟨h1, h0⟩ | ⟨g', cap', cur, h1, _⟩)⟩ := h
  ·cases h1
  ·injection h1 with h1 h2 h3
   injection h1 with h1
   rw [h1] at h'
   obtain ⟨rest, hr, _⟩ := rb_ownM h'
   rw [h1]
   exact rb_rs hr
theorem run_sliceZ (T : List Rn) (p : Option Addr) (cp a e : Nat) (hc : T.length ≤ cp) (hcm : cp ≤ maxLen) (hp : p = none → cp = 0) (h1 : a ≤ e) (h2 : e ≤ T.length) :
  ∃ q c, (q = none → c = 0) ∧ (∀ W, (Instr.slice 22 (.slice p T.length cp) (some (.int .i64 (a : Int))) (some (.int .i64 (e : Int))) none).run Tryz.prog W = .ok (.slice q (e - a) c) W) ∧ (∀ W, RsAt W p T → RsAt W q (rowT T (a, e))) := by
 have ht' : Tryz.prog.underlying 22 = some (.slice (Tryz.prog.elem 22)) := by simp [Program.elem, Tryz.underlying22]
 have he' : Tryz.prog.elem 22 = 29 := by simp [Program.elem, Tryz.underlying22]
 refine ⟨if cp = a then p else p.map (·.add (a * 5)), cp - a, ?_, fun W => ?_, fun W hat => ?_⟩
 ·intro hq
  by_cases e1 : cp = a
  ·omega
  ·rw [if_neg e1] at hq
   cases p with
   | none => have := hp rfl; omega
   | some ad => cases hq
 ·rw [run_slice_lh W _ _ _ _ ht' .i64 .i64 _ _ (by omega) (by omega) (by omega), he', Tryz.sizeOf29]
  simp [Result.andThen, sliced]
 ·intro k hk
  rw [rowT_len h2] at hk
  simp only at hk
  obtain ⟨g, off, hpp, hg, r0, r1, r2, r3, r4⟩ := hat (a + k) (by omega)
  have e2 : (rowT T (a, e))[k]'(by rw [rowT_len h2]; exact hk) = T[a + k] := by
   unfold rowT
   rw [List.getElem_drop, List.getElem_take]
  refine ⟨g, off + a * 5, ?_, hg, ?_⟩
  ·rw [if_neg (by omega), hpp]; simp [Addr.add]
  ·rw [e2, show off + a * 5 + k * 5 = off + (a + k) * 5 by omega]
   exact ⟨r0, r1, r2, r3, r4⟩
set_option maxRecDepth 100000 in
set_option maxHeartbeats 1000000 in
theorem at_any (Z RW NM n : Nat) (apex : ByteArray) (p : Option Addr) (cp b : Nat) (T : List Rn) (x : Pl) (f : Pl → Option (Nat × Nat)) (w : World) (hZ : Bx w Z #[.string apex, .slice p T.length cp, .map (some RW), .map (some NM)] 61) (hR : MRow w RW n f) (hx : plG x) (ho : w.ownsRow b 29 5 (.slice p T.length cp) T.length (rce5 T)) (hT : T.length ≤ 1048576)
  (hf : ((f x).getD (0, 0)).1 ≤ ((f x).getD (0, 0)).2 ∧ ((f x).getD (0, 0)).2 ≤ T.length) :
  Calls Tryz.prog 53 #[.pointer (some ⟨Z, 0, none⟩), .string x.1, .int .i64 x.2] w fun r w' => (∃ q c, r = .returned (.slice q (rowT T ((f x).getD (0, 0))).length c) ∧ RsAt w' q (rowT T ((f x).getD (0, 0)))) ∧ Below w.heap.size w w' := by
 obtain ⟨o, t⟩ := x
 have hat := rsAt_ownZ ho rfl
 obtain ⟨p0, c0, he, hc1, hc2, hc3⟩ := own_shape ho
 injection he with he1 he2 he3
 subst he1 he3
 have z1 : w.cell? ⟨Z, 1, none⟩ = some (.slice p T.length cp) := hZ.cell rfl
 have z2 : w.cell? ⟨Z, 2, none⟩ = some (.map (some RW)) := hZ.cell rfl
 have hl := hR.look1 hx
 obtain ⟨⟨a, e⟩, hae⟩ : ∃ y, (f (o, t)).getD (0, 0) = y := ⟨_, rfl⟩
 rw [hae] at hf hl ⊢
 clear hae
 unfold plV rwV at hl
 simp only at hf hl ⊢
 obtain ⟨wa, hwa⟩ : ∃ wa, w.alloc (.cells #[.int .i64 (a : Int), .int .i64 (e : Int)] 128) = wa := ⟨_, rfl⟩
 have hBa : Below w.heap.size w wa := hwa ▸ (Below.refl _ w).alloc (Nat.le_refl _) _
 have HBa := hide' hBa
 have HXa : Hid (Bx wa w.heap.size #[.int .i64 (a : Int), .int .i64 (e : Int)] 128) := hwa ▸ World.alloc_heap_new w _
 have x0 : wa.cell? ⟨w.heap.size, 0, none⟩ = some (.int .i64 (a : Int)) := HXa.out.cell rfl
 have x1 : wa.cell? ⟨w.heap.size, 1, none⟩ = some (.int .i64 (e : Int)) := HXa.out.cell rfl
 have y1 : wa.cell? ⟨Z, 1, none⟩ = some (.slice p T.length cp) := (hZ.below hBa hZ.lt).cell rfl
 obtain ⟨q, c, hq0, hrun, hrs⟩ := run_sliceZ T p cp a e hc1 hc2 hc3 hf.1 hf.2
 have hln := rowT_len (T := T) (x := (a, e)) hf.2
 have HCl : Hid (∀ V, Below wa.heap.size wa V → Calls Tryz.prog 22 #[.slice q (e - a) c] V fun r w' => (∃ q' c', r = .returned (.slice q' (rowT T (a, e)).length c') ∧ RsAt w' q' (rowT T (a, e))) ∧ Below V.heap.size V w') := fun V hV => by
  have hb : Below w.heap.size w V := bstep HBa.out hV HBa.out.size
  have hat' : RsAt V p T := fun k hk => by
   obtain ⟨g, off, h1, h2, h3, h4, h5, h6, h7⟩ := hat k hk
   refine ⟨g, off, h1, Nat.lt_of_lt_of_le h2 hb.size, ?_, ?_, ?_, ?_, ?_⟩
   ·rw [hb.cell (p := ⟨g, off + k * 5, none⟩) h2]; exact h3
   ·rw [hb.cell (p := ⟨g, off + k * 5 + 1, none⟩) h2]; exact h4
   ·rw [hb.cell (p := ⟨g, off + k * 5 + 2, none⟩) h2]; exact h5
   ·rw [hb.cell (p := ⟨g, off + k * 5 + 3, none⟩) h2]; exact h6
   ·rw [hb.cell (p := ⟨g, off + k * 5 + 4, none⟩) h2]; exact h7
  have hcl := cloneZ_any (rowT T (a, e)) q c V (by rw [hln]; simp only; omega) (hrs V hat') hq0
  rw [hln] at hcl
  refine hcl.mono ?_
  rintro r w' ⟨⟨v, rfl, hown⟩, hB⟩
  obtain ⟨q', c', hv, _, _, _⟩ := own_shape hown
  subst hv
  refine ⟨⟨q', c', by rw [hln], rsAt_ownZ hown (by rw [hln])⟩, hB⟩
 have HQ : Hid (∀ V, Below wa.heap.size wa V → V.cell? ⟨w.heap.size, 0, none⟩ = some (.int .i64 (a : Int)) ∧ V.cell? ⟨w.heap.size, 1, none⟩ = some (.int .i64 (e : Int)) ∧ V.cell? ⟨Z, 1, none⟩ = some (.slice p T.length cp)) := fun V hV =>
  ⟨(HXa.out.below hV HXa.out.lt).cell rfl, (HXa.out.below hV HXa.out.lt).cell rfl, ((hZ.below HBa.out hZ.lt).below hV (Nat.lt_of_lt_of_le hZ.lt HBa.out.size)).cell rfl⟩
 have hB := (Below.refl wa.heap.size wa).drew
 clear hrs hat hBa hR hZ ho hx
 go_enter Tryz.func53, Tryz.ntmps53
 go_wp2_with fail
 go_region_held3 (fun V => V.cell? ⟨w.heap.size, 0, none⟩ = some (.int .i64 (a : Int)) ∧ V.cell? ⟨w.heap.size, 1, none⟩ = some (.int .i64 (e : Int)) ∧ V.cell? ⟨Z, 1, none⟩ = some (.slice p T.length cp)) (first | go_keep | (with_reducible exact HQ.out _ hB)) ((go_at_call 22; refine (HCl.out _ hB).mono ?_; rintro r w2 ⟨⟨q', c2, rfl, hr2⟩, hB2⟩; have HR2 := hide' hr2; have hB := bstep hB hB2 hB.size; clear hB2 hr2))
 all_goals
  go_wp2_with fail
  go_ret
  exact ⟨⟨q', c2, by rw [hln]; rfl, HR2.out⟩, bstep HBa.out hB HBa.out.size⟩
end Go.Proofs.YtoabnpdoicbpiaaGreat
namespace Go.Proofs.YtoabnpdoicbpiaaGreat
set_option linter.unusedVariables false
set_option linter.unusedSimpArgs false
open Go.RowKit Go.Shelf Go.Maps Go.Proofs.YtoabnpdoicbpiaaGreat.Nm
def othB (r : Rn) : Bool := !decide (r.t = 46) && !decide (r.t = 47)
def othN (X : List Rn) : Nat := X.countP othB
theorem othN_succ {X : List Rn} {k : Nat} (hk : k < X.length) : othN (X.take (k + 1)) = othN (X.take k) + (if othB X[k] = true then 1 else 0) := by
 unfold othN
 rw [List.take_succ_eq_append_getElem hk, List.countP_append]
 simp [List.countP_cons]
theorem othN_le (X : List Rn) : othN X ≤ X.length := List.countP_le_length
def crowdB (T : List Rn) (rf : Pl → Option (Nat × Nat)) (S : List Se) (r : Rn) (k : Nat) : Bool := decide (r.t = 5) && decide (1 < othN (rowT T ((rf ((seAt S k).1, 0)).getD (0, 0))))
theorem rs_stay {w w' : World} {p : Option Addr} {l : List Rn} (h : RsAt w p l) (hb : Below w.heap.size w w') : RsAt w' p l := fun k hk => by
 obtain ⟨g, off, h1, h2, h3, h4, h5, h6, h7⟩ := h k hk
 refine ⟨g, off, h1, Nat.lt_of_lt_of_le h2 hb.size, ?_, ?_, ?_, ?_, ?_⟩
 ·rw [hb.cell (p := ⟨g, off + k * 5, none⟩) h2]; exact h3
 ·rw [hb.cell (p := ⟨g, off + k * 5 + 1, none⟩) h2]; exact h4
 ·rw [hb.cell (p := ⟨g, off + k * 5 + 2, none⟩) h2]; exact h5
 ·rw [hb.cell (p := ⟨g, off + k * 5 + 3, none⟩) h2]; exact h6
 ·rw [hb.cell (p := ⟨g, off + k * 5 + 4, none⟩) h2]; exact h7
set_option maxRecDepth 100000 in
set_option maxHeartbeats 1000000 in
theorem isCrowd_any {w W : World} {D Z LK FK RW NM B C P g : Nat} {apex fa : ByteArray} {gv rv : Value} {p' : Option Addr} {c' : Nat} {S : List Se} {T : List Rn} {ord : List Nat} {n m : Nat} {rf : Pl → Option (Nat × Nat)} (h : Ly w W D Z LK FK RW NM B C P g apex fa gv (.slice p' n c') rv S T ord n m rf)
  (hn : n = S.length) (hn2 : n ≤ 1048576) (hT : T.length ≤ 1048576) (k : Nat) (hk : k < n) (hG : plG ((seAt S k).1, 0)) (hf : ((rf ((seAt S k).1, 0)).getD (0, 0)).1 ≤ ((rf ((seAt S k).1, 0)).getD (0, 0)).2 ∧ ((rf ((seAt S k).1, 0)).getD (0, 0)).2 ≤ T.length) (r : Rn) :
  Calls Tryz.prog 46 #[.pointer (some ⟨D, 0, none⟩), .int .i64 (k : Int), rcV r] W fun e w' => e = .returned (.bool (crowdB T rf S r k)) ∧ Below W.heap.size W w' := by
 obtain ⟨o, t, c, l, d⟩ := r
 unfold rcV crowdB
 simp only
 obtain ⟨wa, hwa⟩ : ∃ wa, W.alloc (.cells #[.string o, .int .i64 t, .int .i64 c, .int .i64 l, .string d] 29) = wa := ⟨_, rfl⟩
 have hBa : Below W.heap.size W wa := hwa ▸ (Below.refl _ W).alloc (Nat.le_refl _) _
 have HBa := hide' hBa
 have HXa : Hid (Bx wa W.heap.size #[.string o, .int .i64 t, .int .i64 c, .int .i64 l, .string d] 29) := hwa ▸ World.alloc_heap_new W _
 have v1 : wa.cell? ⟨W.heap.size, 1, none⟩ = some (.int .i64 t) := HXa.out.cell rfl
 by_cases h5 : t = 5
 ·subst h5
  have ha := h.step hBa
  obtain ⟨gs, os, hps, hgs, s0, s1, s2⟩ := (ss_own ha.sown) k (by omega)
  rw [seAt_get (by omega)] at s0 s1 s2
  subst hps
  obtain ⟨pr, cr, hrv, _, _, _⟩ := own_shape ha.rown
  subst hrv
  have d0 : wa.cell? ⟨D, 0, none⟩ = some (.pointer (some ⟨Z, 0, none⟩)) := ha.dx.cell rfl
  have d3 : wa.cell? ⟨D, 3, none⟩ = some (.slice (some ⟨gs, os, none⟩) n c') := ha.dx.cell rfl
  have HAt : Hid (∀ V, Below wa.heap.size wa V → Calls Tryz.prog 53 #[.pointer (some ⟨Z, 0, none⟩), .string (seAt S k).1, .int .i64 0] V fun r w' => (∃ q c, r = .returned (.slice q (rowT T ((rf ((seAt S k).1, 0)).getD (0, 0))).length c) ∧ RsAt w' q (rowT T ((rf ((seAt S k).1, 0)).getD (0, 0)))) ∧ Below V.heap.size V w') := fun V hV =>
   at_any Z RW NM m apex pr cr C T ((seAt S k).1, 0) rf V (ha.step hV).zx (ha.step hV).rw' hG (ha.step hV).rown hT hf
  have hXl : (rowT T ((rf ((seAt S k).1, 0)).getD (0, 0))).length ≤ 1048576 := by rw [rowT_len hf.2]; omega
  have HQ : Hid (∀ V, Below wa.heap.size wa V → V.cell? ⟨D, 0, none⟩ = some (.pointer (some ⟨Z, 0, none⟩)) ∧ V.cell? ⟨D, 3, none⟩ = some (.slice (some ⟨gs, os, none⟩) n c') ∧ V.cell? ⟨gs, os + k * 3, none⟩ = some (.string (seAt S k).1)) := fun V hV =>
   ⟨(ha.step hV).dx.cell rfl, (ha.step hV).dx.cell rfl, (hV.cell (p := ⟨gs, os + k * 3, none⟩) hgs).trans s0⟩
  obtain ⟨X, hX⟩ : ∃ X, rowT T ((rf ((seAt S k).1, 0)).getD (0, 0)) = X := ⟨_, rfl⟩
  obtain ⟨so, hso⟩ : ∃ so, (seAt S k).1 = so := ⟨_, rfl⟩
  rw [hX] at HAt hXl ⊢
  rw [hso] at HAt HQ s0
  have p1 : (0 : Int) ≤ (k : Int) := by omega
  have p2 : (k : Int) < (n : Int) := by omega
  have hB := (Below.refl wa.heap.size wa).drew
  clear h ha hBa hG hn hf hX hso s1 s2
  go_enter Tryz.func46, Tryz.ntmps46
  go_wp2_with fail
  go_region_held3 (fun V => V.cell? ⟨D, 0, none⟩ = some (.pointer (some ⟨Z, 0, none⟩)) ∧ V.cell? ⟨D, 3, none⟩ = some (.slice (some ⟨gs, os, none⟩) n c') ∧ V.cell? ⟨gs, os + k * 3, none⟩ = some (.string so)) (first | go_keep | (with_reducible exact HQ.out _ hB)) ((go_at_call 53; refine (HAt.out _ hB).mono ?_; rintro r w2 ⟨⟨q, c2, rfl, hr2⟩, hB2⟩; have HR2 := hide' hr2; have hB := bstep hB hB2 hB.size; clear hB2 hr2))
  all_goals
   have HB2 : Hid (Below W.heap.size W w2) := bstep HBa.out hB HBa.out.size
   clear hB HQ HAt s0 d0 d3 v1
   go_wp2_with fail
   go_loopw [7, 27] (fun ov jv wr => ∃ (j : Nat), ov = .int .i64 (othN (X.take j) : Int) ∧ jv = .int .i64 (j : Int) ∧ j ≤ X.length ∧ Hid (Below w2.heap.size w2 wr)) (fun _ jv _ => X.length - (intOf jv).toNat)
   case atStart => exact ⟨0, rfl, rfl, Nat.zero_le _, Below.refl _ _⟩
   case round =>
    obtain ⟨j, rfl, rfl, hj, HBr⟩ := hrel
    by_cases hlt : j < X.length
    ·obtain ⟨gx, ox, rfl, hgx, q0, q1, q2, q3, q4⟩ := rs_stay HR2.out HBr.out j hlt
     have HO := hide' (othN_succ hlt)
     have HN := hide' (othN_le (X.take j))
     have hol : othN (X.take j) ≤ 1048576 := by have := HN.out; rw [List.length_take] at this; omega
     obtain ⟨x, hx⟩ : ∃ x, X[j] = x := ⟨_, rfl⟩
     rw [hx] at q0 q1 q2 q3 q4 HO
     clear hx
     obtain ⟨xo, xt, xc, xl, xd⟩ := x
     simp only at q0 q1 q2 q3 q4
     obtain ⟨N, hN⟩ : ∃ N, othN (X.take j) = N := ⟨_, rfl⟩
     rw [hN] at HO hol ⊢
     clear hN HN
     obtain ⟨wb, hwb⟩ : ∃ wb, wr.alloc (.cells #[.string xo, .int .i64 xt, .int .i64 xc, .int .i64 xl, .string xd] 29) = wb := ⟨_, rfl⟩
     have HXb : Hid (Bx wb wr.heap.size #[.string xo, .int .i64 xt, .int .i64 xc, .int .i64 xl, .string xd] 29) := hwb ▸ World.alloc_heap_new wr _
     have HBb : Hid (Below w2.heap.size w2 wb) := hwb ▸ HBr.out.alloc HBr.out.size _
     have u1 : wb.cell? ⟨wr.heap.size, 1, none⟩ = some (.int .i64 xt) := HXb.out.cell rfl
     by_cases e1 : xt = 46
     ·have HZ : Hid (othN (X.take (j + 1)) = N) := by unfold Hid; rw [HO.out]; simp [othB, e1]
      subst e1
      go_wp2_with fail
      refine ⟨⟨j + 1, by rw [HZ.out], by go_num, by omega, HBb⟩, by simp [intOf]; omega⟩
     ·by_cases e2 : xt = 47
      ·have HZ : Hid (othN (X.take (j + 1)) = N) := by unfold Hid; rw [HO.out]; simp [othB, e2]
       subst e2
       go_wp2_with fail
       refine ⟨⟨j + 1, by rw [HZ.out], by go_num, by omega, HBb⟩, by simp [intOf]; omega⟩
      ·have HZ : Hid (othN (X.take (j + 1)) = N + 1) := by unfold Hid; rw [HO.out]; simp [othB, e1, e2]
       have e1n : (xt != 46) = true := by simp [e1]
       have e2n : (xt != 47) = true := by simp [e2]
       go_wp2_with fail
       refine ⟨⟨j + 1, by rw [HZ.out]; go_num, by go_num, by omega, HBb⟩, by simp [intOf]; omega⟩
    ·obtain rfl : j = X.length := by omega
     rw [List.take_length]
     go_wp2_with fail
     go_ret
     refine ⟨?_, bstep HB2.out HBr.out HB2.out.size⟩
     by_cases e : 1 < othN X
     ·have e' : (1 : Int) < (othN X : Int) := by omega
      simp [e, e']
     ·have e' : ¬ (1 : Int) < (othN X : Int) := by omega
      simp [e, e']
 ·have h5n : (t != 5) = true := by simp [h5]
  clear h
  go_enter Tryz.func46, Tryz.ntmps46
  go_wp2_with fail
  go_ret
  exact ⟨by simp [h5], HBa.out⟩
end Go.Proofs.YtoabnpdoicbpiaaGreat
namespace Go.Proofs.YtoabnpdoicbpiaaGreat
set_option linter.unusedVariables false
set_option linter.unusedSimpArgs false
open Go.RowKit Go.Shelf Go.Maps Go.Proofs.YtoabnpdoicbpiaaGreat.Nm
def belowB (T : List Rn) (rf : Pl → Option (Nat × Nat)) (o : ByteArray) : Bool := decide (((rf (o, 0)).getD (0, 0)).2 < T.length) && withinB (rAt T ((rf (o, 0)).getD (0, 0)).2).o o
set_option maxRecDepth 100000 in
set_option maxHeartbeats 1000000 in
theorem hasBelow_any (Z RW NM n : Nat) (apex : ByteArray) (p : Option Addr) (cp b : Nat) (T : List Rn) (o : ByteArray) (f : Pl → Option (Nat × Nat)) (w : World) (hZ : Bx w Z #[.string apex, .slice p T.length cp, .map (some RW), .map (some NM)] 61) (hR : MRow w RW n f) (hx : plG (o, 0)) (ho : w.ownsRow b 29 5 (.slice p T.length cp) T.length (rce5 T)) (hT : T.length ≤ 1048576) (hTo : ∀ r ∈ T, r.o.size ≤ 255) :
  Calls Tryz.prog 76 #[.pointer (some ⟨Z, 0, none⟩), .string o] w fun r w' => r = .returned (.bool (belowB T f o)) ∧ Below w.heap.size w w' := by
 have hat := rsAt_ownZ ho rfl
 have z1 : w.cell? ⟨Z, 1, none⟩ = some (.slice p T.length cp) := hZ.cell rfl
 have z2 : w.cell? ⟨Z, 2, none⟩ = some (.map (some RW)) := hZ.cell rfl
 have hl := hR.look1 hx
 unfold belowB
 obtain ⟨⟨a, e⟩, hae⟩ : ∃ y, (f (o, 0)).getD (0, 0) = y := ⟨_, rfl⟩
 rw [hae] at hl ⊢
 clear hae
 unfold plV rwV at hl
 simp only at hl ⊢
 have hfd : ∀ V, (Instr.field 128 (.agg #[.int .i64 (a : Int), .int .i64 (e : Int)]) 1).run Tryz.prog V = .ok (.int .i64 (e : Int)) V := fun V => by
  simp [Instr.field, run_underlying Tryz.underlying128, go_sem, asAgg]
 by_cases he : e < T.length
 ·obtain ⟨g, off, hpp, hg, r0, r1, r2, r3, r4⟩ := hat e he
  subst hpp
  have hsz := hTo _ (List.getElem_mem he)
  rw [rAt_get he] at r0 hsz
  clear r1 r2 r3 r4
  have HW := hide' (fun V => within_any (rAt T e).o o V (by unfold maxLen; omega) hx.1)
  obtain ⟨x, hxx⟩ : ∃ x, (rAt T e).o = x := ⟨_, rfl⟩
  rw [hxx] at r0 HW ⊢
  clear hxx hat hsz hTo ho hR hZ hx
  have p1 : (0 : Int) ≤ (e : Int) := by omega
  have p2 : (e : Int) < (T.length : Int) := by omega
  go_enter Tryz.func76, Tryz.ntmps76
  go_wp2_with (go_at_call 14; refine (HW.out _).mono ?_; rintro r w2 ⟨rfl, hB2⟩)
  go_ret
  exact ⟨by simp [he], hB2⟩
 ·have p2 : ¬ (e : Int) < (T.length : Int) := by omega
  clear hat hTo ho hR hZ hx
  go_enter Tryz.func76, Tryz.ntmps76
  go_wp2_with fail
  go_ret
  exact ⟨by simp [he], Below.refl _ _⟩
def graftB (T : List Rn) (rf : Pl → Option (Nat × Nat)) (S : List Se) (fa : ByteArray) (r : Rn) (k : Nat) : Bool :=
 decide (r.t = 39) && (decide ((seAt S k).1 = fa) || decide (1 < (rowT T ((rf ((seAt S k).1, 39)).getD (0, 0))).length) || belowB T rf (seAt S k).1)
set_option maxRecDepth 100000 in
set_option maxHeartbeats 1000000 in
theorem isGraft_any {w W : World} {D Z LK FK RW NM B C P g : Nat} {apex fa : ByteArray} {gv rv : Value} {p' : Option Addr} {c' : Nat} {S : List Se} {T : List Rn} {ord : List Nat} {n m : Nat} {rf : Pl → Option (Nat × Nat)} (h : Ly w W D Z LK FK RW NM B C P g apex fa gv (.slice p' n c') rv S T ord n m rf)
  (hn : n = S.length) (hn2 : n ≤ 1048576) (hT : T.length ≤ 1048576) (hTo : ∀ r ∈ T, r.o.size ≤ 255) (k : Nat) (hk : k < n) (hG : plG ((seAt S k).1, 39)) (hG0 : plG ((seAt S k).1, 0)) (hf : ((rf ((seAt S k).1, 39)).getD (0, 0)).1 ≤ ((rf ((seAt S k).1, 39)).getD (0, 0)).2 ∧ ((rf ((seAt S k).1, 39)).getD (0, 0)).2 ≤ T.length) (r : Rn) :
  Calls Tryz.prog 47 #[.pointer (some ⟨D, 0, none⟩), .int .i64 (k : Int), rcV r] W fun e w' => e = .returned (.bool (graftB T rf S fa r k)) ∧ Below W.heap.size W w' := by
 obtain ⟨o, t, c, l, d⟩ := r
 unfold rcV graftB
 simp only
 obtain ⟨wa, hwa⟩ : ∃ wa, W.alloc (.cells #[.string o, .int .i64 t, .int .i64 c, .int .i64 l, .string d] 29) = wa := ⟨_, rfl⟩
 have hBa : Below W.heap.size W wa := hwa ▸ (Below.refl _ W).alloc (Nat.le_refl _) _
 have HBa := hide' hBa
 have HXa : Hid (Bx wa W.heap.size #[.string o, .int .i64 t, .int .i64 c, .int .i64 l, .string d] 29) := hwa ▸ World.alloc_heap_new W _
 have v1 : wa.cell? ⟨W.heap.size, 1, none⟩ = some (.int .i64 t) := HXa.out.cell rfl
 by_cases h5 : t = 39
 ·subst h5
  have ha := h.step hBa
  obtain ⟨gs, os, hps, hgs, s0, s1, s2⟩ := (ss_own ha.sown) k (by omega)
  rw [seAt_get (by omega)] at s0 s1 s2
  subst hps
  obtain ⟨pr, cr, hrv, _, _, _⟩ := own_shape ha.rown
  subst hrv
  have d0 : wa.cell? ⟨D, 0, none⟩ = some (.pointer (some ⟨Z, 0, none⟩)) := ha.dx.cell rfl
  have d1 : wa.cell? ⟨D, 1, none⟩ = some (.string fa) := ha.dx.cell rfl
  have d3 : wa.cell? ⟨D, 3, none⟩ = some (.slice (some ⟨gs, os, none⟩) n c') := ha.dx.cell rfl
  have HAt : Hid (∀ V, Below wa.heap.size wa V → Calls Tryz.prog 53 #[.pointer (some ⟨Z, 0, none⟩), .string (seAt S k).1, .int .i64 39] V fun r w' => (∃ q c, r = .returned (.slice q (rowT T ((rf ((seAt S k).1, 39)).getD (0, 0))).length c) ∧ RsAt w' q (rowT T ((rf ((seAt S k).1, 39)).getD (0, 0)))) ∧ Below V.heap.size V w') := fun V hV =>
   at_any Z RW NM m apex pr cr C T ((seAt S k).1, 39) rf V (ha.step hV).zx (ha.step hV).rw' hG (ha.step hV).rown hT hf
  have HHb : Hid (∀ V, Below wa.heap.size wa V → Calls Tryz.prog 76 #[.pointer (some ⟨Z, 0, none⟩), .string (seAt S k).1] V fun r w' => r = .returned (.bool (belowB T rf (seAt S k).1)) ∧ Below V.heap.size V w') := fun V hV =>
   hasBelow_any Z RW NM m apex pr cr C T (seAt S k).1 rf V (ha.step hV).zx (ha.step hV).rw' hG0 (ha.step hV).rown hT hTo
  have HD0 : Hid (∀ V, Below wa.heap.size wa V → V.cell? ⟨D, 0, none⟩ = some (.pointer (some ⟨Z, 0, none⟩))) := fun V hV => (ha.step hV).dx.cell rfl
  have hXl : (rowT T ((rf ((seAt S k).1, 39)).getD (0, 0))).length ≤ 1048576 := by rw [rowT_len hf.2]; omega
  obtain ⟨z, hz⟩ : ∃ z, belowB T rf (seAt S k).1 = z := ⟨_, rfl⟩
  obtain ⟨X, hX⟩ : ∃ X, rowT T ((rf ((seAt S k).1, 39)).getD (0, 0)) = X := ⟨_, rfl⟩
  rw [hX] at HAt hXl ⊢
  rw [hz] at HHb ⊢
  obtain ⟨so, hso⟩ : ∃ so, (seAt S k).1 = so := ⟨_, rfl⟩
  rw [hso] at HAt HHb s0 ⊢
  have p1 : (0 : Int) ≤ (k : Int) := by omega
  have p2 : (k : Int) < (n : Int) := by omega
  have hB := Below.refl wa.heap.size wa
  clear h ha hBa hG hG0 hn hf hX hso hz s1 s2 hTo
  by_cases hs : so = fa
  ·subst hs
   go_enter Tryz.func47, Tryz.ntmps47
   go_wp2_with fail
   go_ret
   exact ⟨by simp, HBa.out⟩
  ·have hse : (so.toList == fa.toList) = false := by rw [toList_bt]; exact decide_eq_false hs
   by_cases hx1 : 1 < X.length
   ·have hx2 : (X.length : Int) > 1 := by omega
    go_enter Tryz.func47, Tryz.ntmps47
    go_wp2_with (go_at_call 53; refine (HAt.out _ hB).mono ?_; rintro r w2 ⟨⟨q, c2, rfl, hr2⟩, hB2⟩; have hB := bstep hB hB2 hB.size; clear hB2 hr2)
    go_ret
    exact ⟨by simp [hs, hx1], bstep HBa.out hB HBa.out.size⟩
   ·have hx2 : ¬ (X.length : Int) > 1 := by omega
    go_enter Tryz.func47, Tryz.ntmps47
    go_wp2_with (first
     | (go_at_call 53; refine (HAt.out _ hB).mono ?_; rintro r w2 ⟨⟨q, c2, rfl, hr2⟩, hB2⟩; have hB := bstep hB hB2 hB.size; have d0 := HD0.out _ hB; clear hB2 hr2)
     | (go_at_call 76; refine (HHb.out _ hB).mono ?_; rintro r w3 ⟨rfl, hB3⟩; have hB := bstep hB hB3 hB.size; clear hB3))
    go_ret
    refine ⟨?_, bstep HBa.out hB HBa.out.size⟩
    have hx3 : ¬ (1 : Int) < (X.length : Int) := by omega
    simp [hs, hx1, hx3]
 ·have h5n : (t != 39) = true := by simp [h5]
  clear h
  go_enter Tryz.func47, Tryz.ntmps47
  go_wp2_with fail
  go_ret
  exact ⟨by simp [h5], HBa.out⟩
end Go.Proofs.YtoabnpdoicbpiaaGreat
