import Derived.Test.YtgekfhghambacaaGreatCceG
import Derived.Test.YtgekfhghambacaaGreatSg3G
/-
  Chapter 12: (*cache.Cache).absence. (The verifier's own text; mkcch.py writes it.)
-/
namespace Go.Proofs.YtgekfhghambacaaGreat
set_option linter.unusedVariables false
set_option linter.unusedSimpArgs false
open Go.RowKit Go.Shelf Go.Maps Go.Proofs.YtgekfhghambacaaGreat.Nm
attribute [local go_sem] Oper.semAt_some

/-- what is known to be absent -/
def absB (S : List Ce) (now : Int) (n : ByteArray) (t : Int) : Int := if aliveK (lackK n t) S now = true then 3 else if (upL n).any (fun x => aliveK (voidK x) S now) = true then 4 else provedB S now n t
theorem provedB_in (S : List Ce) (now : Int) (n : ByteArray) (t : Int) : provedB S now n t = 0 ∨ provedB S now n t = 3 ∨ provedB S now n t = 4 := by
  unfold provedB
  split
  · unfold kindP
    split
    · exact .inr (.inr rfl)
    · split
      · exact .inr (.inl rfl)
      · exact .inl rfl
  · exact .inl rfl
theorem absB_in (S : List Ce) (now : Int) (n : ByteArray) (t : Int) : absB S now n t = 0 ∨ absB S now n t = 3 ∨ absB S now n t = 4 := by
  unfold absB
  split
  · exact .inr (.inl rfl)
  · split
    · exact .inr (.inr rfl)
    · exact provedB_in S now n t
theorem absB_void {S : List Ce} {now : Int} {n : ByteArray} {t : Int} {us : List UN} {u : UN} (h0 : aliveK (lackK n t) S now = false) (hp : (us ++ [u]).map UN.v <+: upL n) (hx : aliveK (voidK u.v) S now = true) : absB S now n t = 4 := by
  unfold absB
  rw [if_neg (by rw [h0]; simp), if_pos]
  rw [List.any_eq_true]
  obtain ⟨r, hr⟩ := hp
  exact ⟨u.v, by rw [← hr]; simp, hx⟩
theorem absB_else {S : List Ce} {now : Int} {n : ByteArray} {t : Int} {ys : List UN} (h0 : aliveK (lackK n t) S now = false) (hy : ys.map UN.v = upL n) (h : ∀ x ∈ ys, aliveK (voidK x.v) S now = false) : absB S now n t = provedB S now n t := by
  unfold absB
  rw [if_neg (by rw [h0]; simp), if_neg]
  rw [List.any_eq_true]
  rintro ⟨x, hx, hx2⟩
  rw [← hy] at hx
  obtain ⟨u, hu, rfl⟩ := List.mem_map.1 hx
  rw [h u hu] at hx2
  cases hx2
/-- the boxes of absence -/
structure AbB (w0 w1 w2 L : Nat) (now : Int) (W : World) : Prop where
  c : W.cell? ⟨w0, 0, none⟩ = some (.pointer (some ⟨L, 0, none⟩))
  now : W.cell? ⟨w1, 0, none⟩ = some (.int .i64 now)
  res : ∃ z : Int, W.cell? ⟨w2, 0, none⟩ = some (.int .i64 z)
  free : W.frozen? ⟨w2, 0, none⟩ = false
theorem AbB.own {w0 w1 w2 L : Nat} {now : Int} {A B : World} {row : Option Nat} (h : AbB w0 w1 w2 L now A) (hg : A.grownBy B row) (hr : ∀ r, row = some r → ∃ o : Obj, A.heap[r]? = some o ∧ o.isCells = false) : AbB w0 w1 w2 L now B := by
  obtain ⟨h1, h2, ⟨z, h5⟩, h6⟩ := h
  exact ⟨cell_kept h1 hg hr, cell_kept h2 hg hr, ⟨z, cell_kept h5 hg hr⟩, (frozen_kept h5 hg hr).trans h6⟩
theorem AbB.bel {w0 w1 w2 L : Nat} {now : Int} {A B : World} (h : AbB w0 w1 w2 L now A) (hb : Below A.heap.size A B) : AbB w0 w1 w2 L now B := h.own (grown_below hb none) (fun r e => by cases e)
theorem peAt_ptr (x : Ky) (S : List Ce) : ∃ g : Option Addr, peAt x S = .pointer g := ⟨_, goV_at _ _⟩
set_option maxRecDepth 100000 in
set_option maxHeartbeats 4000000 in
/-- (*cache.Cache).absence -/
theorem absence_in {w : World} {L M P base : Nat} {most came : Int} {S : List Ce} {Q : List Qe} (h : Cac w L M P base most came S Q) (hM : Emap w M S) (n : ByteArray) (t now : Int) (hn : isN n = true) (ht : (Lit.int .i64 t).wf = true) (hz : ∀ e ∈ S, e.key.1 = 3 → e.recs.length = 1 ∧ ∀ r ∈ e.recs, r.o.size ≤ 1048576 ∧ r.d.size ≤ 9223372036854775807) :
    CallsIn Fence.wide 3 Tryz.prog 21 #[.pointer (some ⟨L, 0, none⟩), .string n, .int .i64 t, .int .i64 now] w fun r w' => r = .returned (.int .i64 (absB S now n t)) ∧ Below w.heap.size w w' := by
  have hro : Fence.wide.round = none := rfl
  have hns : n.size ≤ 255 := ((isN_iff n).1 hn).1
  obtain ⟨a1, h1⟩ : ∃ a, w.alloc (.cells #[.pointer (some ⟨L, 0, none⟩)] 23) = a := ⟨_, rfl⟩
  obtain ⟨a2, h2⟩ : ∃ a, a1.alloc (.cells #[.int .i64 now] 3) = a := ⟨_, rfl⟩
  obtain ⟨a3, h3⟩ : ∃ a, a2.alloc (.cells #[.int .i64 0] 3) = a := ⟨_, rfl⟩
  have HG1 : Hid (w.grownBy a1 none) := h1 ▸ World.grownBy_alloc w _ none
  have HG2 : Hid (a1.grownBy a2 none) := h2 ▸ World.grownBy_alloc a1 _ none
  have HG3 : Hid (a2.grownBy a3 none) := h3 ▸ World.grownBy_alloc a2 _ none
  have b1 : Bx a1 w.heap.size #[.pointer (some ⟨L, 0, none⟩)] 23 := h1 ▸ World.alloc_heap_new w _
  have b2 : Bx a2 a1.heap.size #[.int .i64 now] 3 := h2 ▸ World.alloc_heap_new a1 _
  have b3 : Bx a3 a2.heap.size #[.int .i64 0] 3 := h3 ▸ World.alloc_heap_new a2 _
  have HPv : Hid (AbB w.heap.size a1.heap.size a2.heap.size L now a3) := by
    have g1 := (b1.grown HG2.out (by simp)).grown HG3.out (by simp)
    have g2 := b2.grown HG3.out (by simp)
    exact ⟨g1.cell rfl, g2.cell rfl, ⟨0, b3.cell rfl⟩, b3.free 0⟩
  have hsz : w.heap.size ≤ a2.heap.size := Nat.le_trans HG1.out.size HG2.out.size
  have hsz3 : a2.heap.size < a3.heap.size := b3.lt
  have HB3 : Hid (Below w.heap.size w a3) := (below_grownC (grown_trans HG1.out (grown_trans HG2.out HG3.out)))
  have HZ := hide' hz
  have HC := hide' h
  have HM := hide' hM
  have HNn := hide' hn
  have HNs := hide' hns
  have HKl : Hid (kyG (lackK n t)) := ⟨rfl, by unfold lackK maxLen; have := foldB_size hn; simp only; omega, ht, by show (0 : Nat) ≤ maxLen; exact Nat.zero_le _⟩
  have HKv : Hid (∀ x : UN, kyG (voidK x.v)) := fun x => ⟨rfl, by unfold voidK maxLen; have := foldB_size x.ok; simp only; omega, rfl, by show (0 : Nat) ≤ maxLen; exact Nat.zero_le _⟩
  -- a world behind: what is looked up
  have HF : Hid (∀ V : World, Below w.heap.size w V → V.cell? ⟨L, 2, none⟩ = some (.map (some M)) ∧ Emap V M S ∧ ∀ e ∈ S, Eat V base e) := fun V hV =>
    ⟨(HC.out.below hV).bx.cell rfl, Lmap.kept HM.out (grown_below hV none) (by simp), (HC.out.below hV).en⟩
  obtain ⟨gl, hgl⟩ := peAt_ptr (lackK n t) S
  have HGl := hide' hgl
  have HF1 : Hid (∀ V : World, a3.grownBy V none → V.cell? ⟨w.heap.size, 0, none⟩ = some (.pointer (some ⟨L, 0, none⟩)) ∧ V.cell? ⟨a1.heap.size, 0, none⟩ = some (.int .i64 now) ∧ V.cell? ⟨L, 2, none⟩ = some (.map (some M)) ∧ (Instr.lookup 47 (.map (some M)) (kyV (lackK n t)) false).run Tryz.prog V = .ok (.pointer gl) V) := fun V hg => by
    have hb := HPv.out.bel (below_grownC hg)
    have hbw : Below w.heap.size w V := HB3.out.grown hg HB3.out.size (fun k e => by cases e)
    exact ⟨hb.c, hb.now, (HF.out V hbw).1, HGl.out ▸ (HF.out V hbw).2.1.look HKl.out⟩
  have HIA : Hid (∀ V : World, a3.grownBy V none → Calls Tryz.prog 19 #[.pointer gl, .int .i64 now] V fun r w' => r = .returned (.bool (aliveK (lackK n t) S now)) ∧ w' = V) := fun V hg => by
    have hbw : Below w.heap.size w V := HB3.out.grown hg HB3.out.size (fun k e => by cases e)
    exact HGl.out ▸ isAlive_at (lackK n t) S now V base (HF.out V hbw).2.2
  have HLk := hide' (fun V => lackKey_any n t V (by unfold maxLen; omega))
  clear b1 b2 b3 hz h hM hn hns ht hgl
  unfold kyV at HF1 HLk
  obtain ⟨al, hal⟩ : ∃ al, aliveK (lackK n t) S now = al := ⟨_, rfl⟩
  rw [hal] at HIA
  have HAl := hide' hal
  clear hal
  generalize hk : lackK n t = K0 at HF1 HLk
  obtain ⟨k0, k1, k2, k3⟩ := K0
  simp only at HF1 HLk
  clear hk
  refine callsIn_of_wp_marks Tryz.func21 rfl trivial ?_ hro
  simp only [Tryz.ntmps21, List.size_toArray, List.length_cons, List.length_nil, Nat.reduceAdd, Nat.reduceSub, Array.replicate_succ, Array.replicate_zero, List.push_toArray, List.append_toArray, List.nil_append, List.cons_append]
  refine wpIn_wide.2 ?_
  go_wp2_with fail
  refine wp_mono (Q := noPan _) ?_ noPan_imp
  refine wp_region_held_drew (S := fun V => a3.grownBy V none) (by kernel_rfl) ?_ (fun hHeld => ?_)
  · exact ⟨rfl, rfl, rfl, Nat.le_refl _, fun _ _ _ => rfl⟩
  refine takeD 0 (some 10) (.pointer (some ⟨L, 0, none⟩)) rfl rfl (by kernel_rfl) (by kernel_rfl) (by kernel_rfl) (fun _ _ _ h => h) (Or.inl ⟨by rfl, ?_⟩) (by assumption) ?_
  · intro w hSw; (try dsimp only at hSw); obtain ⟨x4, x7, c2, hl⟩ := HF1.out w hSw; go_simp <;> (intros; omega)
  simp only [Act.put, List.setIfInBounds_toArray, List.set_cons_zero, List.set_cons_succ]
  refine takeD 1 (some 11) (.pointer (some ⟨L, 0, none⟩)) rfl rfl (by kernel_rfl) (by kernel_rfl) (by kernel_rfl) (fun _ _ _ h => h) (Or.inl ⟨by rfl, ?_⟩) (by assumption) ?_
  · intro w hSw; (try dsimp only at hSw); obtain ⟨x4, x7, c2, hl⟩ := HF1.out w hSw; go_simp <;> (intros; omega)
  simp only [Act.put, List.setIfInBounds_toArray, List.set_cons_zero, List.set_cons_succ]
  refine takeD 2 (some 12) (.pointer (some ⟨L, 2, none⟩)) rfl rfl (by kernel_rfl) (by kernel_rfl) (by kernel_rfl) (fun _ _ _ h => h) (Or.inl ⟨by rfl, ?_⟩) (by assumption) ?_
  · intro w hSw; (try dsimp only at hSw); obtain ⟨x4, x7, c2, hl⟩ := HF1.out w hSw; go_simp <;> (intros; omega)
  simp only [Act.put, List.setIfInBounds_toArray, List.set_cons_zero, List.set_cons_succ]
  refine takeD 3 (some 13) (.map (some M)) rfl rfl (by kernel_rfl) (by kernel_rfl) (by kernel_rfl) (fun _ _ _ h => h) (Or.inl ⟨by rfl, ?_⟩) (by assumption) ?_
  · intro w hSw; (try dsimp only at hSw); obtain ⟨x4, x7, c2, hl⟩ := HF1.out w hSw; go_simp <;> (intros; omega)
  simp only [Act.put, List.setIfInBounds_toArray, List.set_cons_zero, List.set_cons_succ]
  refine takeD 4 (some 14) (.string n) rfl rfl (by kernel_rfl) (by kernel_rfl) (by kernel_rfl) (fun _ _ _ h => h) (Or.inl ⟨by rfl, ?_⟩) (by assumption) ?_
  · intro w hSw; (try dsimp only at hSw); obtain ⟨x4, x7, c2, hl⟩ := HF1.out w hSw; go_simp <;> (intros; omega)
  simp only [Act.put, List.setIfInBounds_toArray, List.set_cons_zero, List.set_cons_succ]
  refine takeD 5 (some 15) (.int .i64 t) rfl rfl (by kernel_rfl) (by kernel_rfl) (by kernel_rfl) (fun _ _ _ h => h) (Or.inl ⟨by rfl, ?_⟩) (by assumption) ?_
  · intro w hSw; (try dsimp only at hSw); obtain ⟨x4, x7, c2, hl⟩ := HF1.out w hSw; go_simp <;> (intros; omega)
  simp only [Act.put, List.setIfInBounds_toArray, List.set_cons_zero, List.set_cons_succ]
  refine takeD 8 (some 18) (.int .i64 now) rfl rfl (by kernel_rfl) (by kernel_rfl) (by kernel_rfl) (fun _ _ _ h => h) (Or.inl ⟨by rfl, ?_⟩) (by assumption) ?_
  · intro w hSw; (try dsimp only at hSw); obtain ⟨x4, x7, c2, hl⟩ := HF1.out w hSw; go_simp <;> (intros; omega)
  simp only [Act.put, List.setIfInBounds_toArray, List.set_cons_zero, List.set_cons_succ]
  refine wpAnyH_ready (rs := [6]) (by kernel_rfl) (by simp) ?_
  refine AllReadyH.cons rfl (fun K hK => ?_) AllReadyH.nil
  go_simp
  go_at_call 27; refine (HLk.out _).mono ?_; rintro e1 w1 ⟨rfl, hB1⟩; have HGa1 : Hid (a3.grownBy w1 none) := (grown_trans hHeld (grown_below hB1 none)); clear hB1
  go_wp2_with fail
  refine hK.out _ _ (HGa1.out) (fun hHeld => ?_)
  clear hK K
  try simp only [Act.put, List.setIfInBounds_toArray, List.set_cons_zero, List.set_cons_succ]
  refine takeD 7 (some 17) (.pointer gl) rfl rfl (by kernel_rfl) (by kernel_rfl) (by kernel_rfl) (fun _ _ _ h => h) (Or.inl ⟨by rfl, ?_⟩) (by assumption) ?_
  · intro w hSw; (try dsimp only at hSw); obtain ⟨x4, x7, c2, hl⟩ := HF1.out w hSw; go_simp <;> (intros; omega)
  simp only [Act.put, List.setIfInBounds_toArray, List.set_cons_zero, List.set_cons_succ]
  refine wpAnyH_ready (rs := [9]) (by kernel_rfl) (by simp) ?_
  refine AllReadyH.cons rfl (fun K hK => ?_) AllReadyH.nil
  go_simp
  go_at_call 19; refine (HIA.out _ HGa1.out).mono ?_; rintro e2 w2 ⟨rfl, hw2⟩; have hw2' := hw2.symm; subst hw2'
  go_wp2_with fail
  refine hK.out _ _ (HGa1.out) (fun hHeld => ?_)
  clear hK K
  try simp only [Act.put, List.setIfInBounds_toArray, List.set_cons_zero, List.set_cons_succ]
  refine wpAnyH_done (by kernel_rfl) ?_ _
  clear hHeld
  dsimp only [noPan]
  have HPv1 := hide' (HPv.out.bel (below_grownC HGa1.out))
  have HB1 : Hid (Below w.heap.size w w1) := HB3.out.grown HGa1.out HB3.out.size (fun k e => by cases e)
  have HS1 : Hid (a3.heap.size ≤ w1.heap.size) := HGa1.out.size
  obtain ⟨y4, y7, ⟨z, y8⟩, y8f⟩ := HPv1.out
  cases al with
  | true =>
    have HQ : Hid (absB S now n t = 3) := by unfold Hid absB; rw [HAl.out]; simp
    go_wp2_with fail
    have hc5 := World.cell?_setCell_same' w1 ⟨a2.heap.size, 0, none⟩ (.int .i64 3) (by rw [y8]; rfl)
    refine ⟨.int .i64 3, ?_, by rw [HQ.out], HB1.out.setCell (p := ⟨a2.heap.size, 0, none⟩) hsz _⟩
    simp [results, Tryz.f21, go_sem, hc5]
  | false =>
    obtain ⟨a4, h4⟩ : ∃ a, w1.alloc (.cells #[.string n] 9) = a := ⟨_, rfl⟩
    have HG4 : Hid (w1.grownBy a4 none) := h4 ▸ World.grownBy_alloc w1 _ none
    have b4 : Bx a4 w1.heap.size #[.string n] 9 := h4 ▸ World.alloc_heap_new w1 _
    have HPv4 := hide' (HPv1.out.bel (below_grownC HG4.out))
    have HB4 : Hid (Below w.heap.size w a4) := HB1.out.grown HG4.out HB1.out.size (fun k e => by cases e)
    have hsz4 : w1.heap.size < a4.heap.size := b4.lt
    have hsz4w : w.heap.size ≤ a4.heap.size := HB4.out.size
    have HB4c : Hid (a4.cell? ⟨w1.heap.size, 0, none⟩ = some (.string n)) := b4.cell rfl
    clear b4 y4 y7 y8 y8f
    go_wp2_with (go_at_call 28; refine (callsIn_wide.1 (upward_in Fence.wide 0 trivial rfl _ _)).mono ?_; rintro e w6 ⟨rfl, hw6⟩; rw [h4] at hw6; have hw6' := hw6.symm; subst hw6')
    refine (wpIn_wide (n := 3)).1 ?_
    refine wpIn_rangeFunc_ownF hro (by omega) (gf := 45) (lb := #[.pointer (some ⟨w1.heap.size, 0, none⟩)]) rfl trivial (enters_of Tryz.func45 (by kernel_rfl) rfl)
      (upward_stops _ (by omega) w1.heap.size n HNn.out a4 hsz4 HB4c.out) kpN_t (fun W l o o' a b c d => kpN_b W l o o' a b c d) (Below.refl _ _) (fun _ => rfl)
      (fun pre W => (AbB w.heap.size a1.heap.size a2.heap.size L now W ∧ (∀ x ∈ pre, aliveK (voidK x.v) S now = false)) ∧ Below w.heap.size w W)
      (fun c pre W => (c = .ret ∧ (∃ pre' x, pre = pre' ++ [x] ∧ aliveK (voidK x.v) S now = true ∧ W.cell? ⟨a2.heap.size, 0, none⟩ = some (.int .i64 4))) ∧ Below w.heap.size w W)
      (OwnFrom.and (Own.from (fun s A B row hs hg hr => ⟨hs.1.own hg hr, hs.2⟩) _) (ownFrom_below (Nat.le_refl _) hsz4w))
      (fun c => OwnFrom.and (Own.from (fun s A B row hs hg hr => ⟨hs.1, by obtain ⟨p', x, g1, g2, g4⟩ := hs.2; exact ⟨p', x, g1, g2, cell_kept g4 hg hr⟩⟩) _) (ownFrom_below (Nat.le_refl _) hsz4w))
      ⟨⟨HPv4.out, fun x hx => by cases hx⟩, HB4.out⟩
      (fun x => { tmps := #[.pointer (some ⟨L, 0, none⟩), .string n, .int .i64 t, .int .i64 now, .pointer (some ⟨w.heap.size, 0, none⟩), undef, undef, .pointer (some ⟨a1.heap.size, 0, none⟩), .pointer (some ⟨a2.heap.size, 0, none⟩), .string x.v, .pointer (some ⟨L, 0, none⟩), .pointer (some ⟨L, 0, none⟩), .pointer (some ⟨L, 2, none⟩), .map (some M), .string n, .int .i64 t, .agg #[.int .i64 k0, .string k1, .int .i64 k2, .string k3], .pointer gl, .int .i64 now, .bool false, .string n,
          .func (.func 45) #[] #[.pointer (some ⟨w1.heap.size, 0, none⟩)], .string x.v, undef, undef, undef, undef, undef, undef, undef, undef, undef, undef, undef, undef, undef, undef], defers := [] }) ?assign ?body ?done ?stop
    case assign =>
      intro l x W K hK
      dsimp only [encU]
      gi_wp2
      exact hK
    case body =>
      rintro l pre ⟨x, hx⟩ W ⟨⟨hpv, hpre⟩, hB⟩ hlen
      have HPr := hide' hpre
      have HBW := hide' hB
      have HPV := hide' hpv
      have hxs : x.size ≤ 255 := ((isN_iff x).1 hx).1
      have HVk := hide' (fun V => voidKey_any x V (by unfold maxLen; omega))
      have HKx := hide' (HKv.out ⟨x, hx⟩)
      obtain ⟨gx, hgx⟩ := peAt_ptr (voidK x) S
      have HGx := hide' hgx
      obtain ⟨ax, hax⟩ : ∃ ax, aliveK (voidK x) S now = ax := ⟨_, rfl⟩
      have HAx := hide' hax
      have HL2 : Hid (∀ V : World, Below W.heap.size W V → AbB w.heap.size a1.heap.size a2.heap.size L now V ∧ V.cell? ⟨L, 2, none⟩ = some (.map (some M)) ∧ (Instr.lookup 47 (.map (some M)) (kyV (voidK x)) false).run Tryz.prog V = .ok (.pointer gx) V ∧ Calls Tryz.prog 19 #[.pointer gx, .int .i64 now] V fun r w' => r = .returned (.bool ax) ∧ w' = V) := fun V hV => by
        have hbw : Below w.heap.size w V := bstep HBW.out hV HBW.out.size
        exact ⟨HPV.out.bel hV, (HF.out V hbw).1, HGx.out ▸ (HF.out V hbw).2.1.look HKx.out, HAx.out ▸ HGx.out ▸ isAlive_at (voidK x) S now V base (HF.out V hbw).2.2⟩
      clear hpre hB hlen hxs hgx hax
      unfold kyV at HVk HL2
      generalize hk : voidK x = K1 at HVk HL2
      obtain ⟨v0, v1, v2, v3⟩ := K1
      simp only at HVk HL2
      clear hk
      obtain ⟨⟨y4, y7, ⟨z, y8⟩, y8f⟩, c2, hl2, -⟩ := HL2.out W (Below.refl _ _)
      dsimp only
      have HL3 : Hid (∀ V : World, W.grownBy V none → V.cell? ⟨w.heap.size, 0, none⟩ = some (.pointer (some ⟨L, 0, none⟩)) ∧ V.cell? ⟨a1.heap.size, 0, none⟩ = some (.int .i64 now) ∧ V.cell? ⟨L, 2, none⟩ = some (.map (some M)) ∧ (Instr.lookup 47 (.map (some M)) (.agg #[.int .i64 v0, .string v1, .int .i64 v2, .string v3]) false).run Tryz.prog V = .ok (.pointer gx) V) := fun V hg => by
        obtain ⟨g1, g2, g3, -⟩ := HL2.out V (below_grownC hg)
        exact ⟨g1.c, g1.now, g2, g3⟩
      clear y4 y7 y8 y8f c2 hl2
      gi_wp2
      refine wpIn_mono (Q := noPan _) ?_ noPan_imp
      refine wpIn_region_heldR (S := fun V => W.grownBy V none) (by kernel_rfl) (by kernel_rfl) noPan_out ?_ (fun hHeld => ?_)
      · exact ⟨rfl, rfl, rfl, Nat.le_refl _, fun _ _ _ => rfl⟩
      refine takeD 0 (some 23) (.pointer (some ⟨L, 0, none⟩)) rfl rfl (by kernel_rfl) (by kernel_rfl) (by kernel_rfl) (fun _ _ _ h => h) (Or.inl ⟨by rfl, ?_⟩) (by assumption) ?_
      · intro w hSw; (try dsimp only at hSw); obtain ⟨x4, x7, c2, hl⟩ := HL3.out w hSw; go_simp <;> (intros; omega)
      simp only [Act.put, List.setIfInBounds_toArray, List.set_cons_zero, List.set_cons_succ]
      refine takeD 1 (some 24) (.pointer (some ⟨L, 0, none⟩)) rfl rfl (by kernel_rfl) (by kernel_rfl) (by kernel_rfl) (fun _ _ _ h => h) (Or.inl ⟨by rfl, ?_⟩) (by assumption) ?_
      · intro w hSw; (try dsimp only at hSw); obtain ⟨x4, x7, c2, hl⟩ := HL3.out w hSw; go_simp <;> (intros; omega)
      simp only [Act.put, List.setIfInBounds_toArray, List.set_cons_zero, List.set_cons_succ]
      refine takeD 2 (some 25) (.pointer (some ⟨L, 2, none⟩)) rfl rfl (by kernel_rfl) (by kernel_rfl) (by kernel_rfl) (fun _ _ _ h => h) (Or.inl ⟨by rfl, ?_⟩) (by assumption) ?_
      · intro w hSw; (try dsimp only at hSw); obtain ⟨x4, x7, c2, hl⟩ := HL3.out w hSw; go_simp <;> (intros; omega)
      simp only [Act.put, List.setIfInBounds_toArray, List.set_cons_zero, List.set_cons_succ]
      refine takeD 3 (some 26) (.map (some M)) rfl rfl (by kernel_rfl) (by kernel_rfl) (by kernel_rfl) (fun _ _ _ h => h) (Or.inl ⟨by rfl, ?_⟩) (by assumption) ?_
      · intro w hSw; (try dsimp only at hSw); obtain ⟨x4, x7, c2, hl⟩ := HL3.out w hSw; go_simp <;> (intros; omega)
      simp only [Act.put, List.setIfInBounds_toArray, List.set_cons_zero, List.set_cons_succ]
      refine takeD 4 (some 27) (.string x) rfl rfl (by kernel_rfl) (by kernel_rfl) (by kernel_rfl) (fun _ _ _ h => h) (Or.inl ⟨by rfl, ?_⟩) (by assumption) ?_
      · intro w hSw; (try dsimp only at hSw); obtain ⟨x4, x7, c2, hl⟩ := HL3.out w hSw; go_simp <;> (intros; omega)
      simp only [Act.put, List.setIfInBounds_toArray, List.set_cons_zero, List.set_cons_succ]
      refine takeD 7 (some 30) (.int .i64 now) rfl rfl (by kernel_rfl) (by kernel_rfl) (by kernel_rfl) (fun _ _ _ h => h) (Or.inl ⟨by rfl, ?_⟩) (by assumption) ?_
      · intro w hSw; (try dsimp only at hSw); obtain ⟨x4, x7, c2, hl⟩ := HL3.out w hSw; go_simp <;> (intros; omega)
      simp only [Act.put, List.setIfInBounds_toArray, List.set_cons_zero, List.set_cons_succ]
      refine wpAnyH_ready (rs := [5]) (by kernel_rfl) (by simp) ?_
      refine AllReadyH.cons rfl (fun K hK => ?_) AllReadyH.nil
      go_simp
      go_at_call 29; refine (HVk.out _).mono ?_; rintro e1 W1 ⟨rfl, hB1⟩; have HGw1 : Hid (W.grownBy W1 none) := (grown_trans hHeld (grown_below hB1 none)); clear hB1
      go_wp2_with fail
      refine hK.out _ _ (HGw1.out) (fun hHeld => ?_)
      clear hK K
      try simp only [Act.put, List.setIfInBounds_toArray, List.set_cons_zero, List.set_cons_succ]
      refine takeD 6 (some 29) (.pointer gx) rfl rfl (by kernel_rfl) (by kernel_rfl) (by kernel_rfl) (fun _ _ _ h => h) (Or.inl ⟨by rfl, ?_⟩) (by assumption) ?_
      · intro w hSw; (try dsimp only at hSw); obtain ⟨x4, x7, c2, hl⟩ := HL3.out w hSw; go_simp <;> (intros; omega)
      simp only [Act.put, List.setIfInBounds_toArray, List.set_cons_zero, List.set_cons_succ]
      refine wpAnyH_ready (rs := [8]) (by kernel_rfl) (by simp) ?_
      refine AllReadyH.cons rfl (fun K hK => ?_) AllReadyH.nil
      go_simp
      go_at_call 19; refine (HL2.out _ (below_grownC HGw1.out)).2.2.2.mono ?_; rintro e2 W2 ⟨rfl, hw2⟩; have hw2' := hw2.symm; subst hw2'
      go_wp2_with fail
      refine hK.out _ _ (HGw1.out) (fun hHeld => ?_)
      clear hK K
      try simp only [Act.put, List.setIfInBounds_toArray, List.set_cons_zero, List.set_cons_succ]
      refine wpAnyH_done (by kernel_rfl) ?_ _
      clear hHeld
      dsimp only [noPan]
      have HB1 : Hid (Below W.heap.size W W1) := below_grownC HGw1.out
      obtain ⟨⟨z4, z7, ⟨zz, z8⟩, z8f⟩, -, -, -⟩ := HL2.out W1 HB1.out
      cases ax with
      | false =>
        gi_wp2
        refine ⟨KeepsOthers.of_below HB1.out, trivial, ⟨HPV.out.bel HB1.out, fun y hy => ?_⟩, bstep HBW.out HB1.out HBW.out.size⟩
        rcases List.mem_append.1 hy with hy | hy
        · exact HPr.out y hy
        · obtain rfl := List.mem_singleton.1 hy; exact HAx.out
      | true =>
        gi_wp2
        refine ⟨(KeepsOthers.of_below HB1.out).trans (KeepsOthers.setCell _ _ _), ⟨rfl, pre, ⟨x, _⟩, rfl, HAx.out, ?_⟩, ?_⟩
        · exact World.cell?_setCell_same' _ _ _ (by rw [z8]; rfl)
        · exact (bstep HBW.out HB1.out HBW.out.size).setCell (p := ⟨a2.heap.size, 0, none⟩) hsz _
    case done =>
      rintro D ys W hD hys ⟨⟨hpv, hpre⟩, hB⟩ hK
      have HQ : Hid (absB S now n t = provedB S now n t) := absB_else HAl.out hys hpre
      have HB := hide' hB
      have HPr := hide' (callsIn_wide.1 (proved_in (HC.out.below hB) n t now HNn.out HZ.out))
      have HPV := hide' hpv
      have HK := hide' hK
      obtain ⟨y4, y7, ⟨z, y8⟩, y8f⟩ := hpv
      clear hpre hys hB hK
      go_wp2_with (go_at_call 40; refine HPr.out.mono ?_; rintro e1 W1 ⟨rfl, hB1⟩; have HB1 := hide' hB1; obtain ⟨z4, z7, ⟨zz, z8⟩, z8f⟩ := HPV.out.bel hB1; clear hB1)
      have hK1 : W1.heap[D]? = some (.deferred (some [])) := (HB1.out.block D (Array.getElem?_eq_some_iff.1 HK.out).1).trans HK.out
      have hK' := (KeepsOthers.setCell W1 ⟨a2.heap.size, 0, none⟩ (.int .i64 (provedB S now n t))).same D _ hK1 rfl
      refine ⟨by simp, .inl ⟨_, _, rfl, run_takeDeferred hK', ?_⟩⟩
      have hc5 := cell_kept (World.cell?_setCell_same' W1 ⟨a2.heap.size, 0, none⟩ (.int .i64 (provedB S now n t)) (by rw [z8]; rfl)) (grownBy_putObj' _ D (.deferred none)) (fun r e => by cases e; exact ⟨_, hK', rfl⟩)
      refine ⟨.int .i64 (provedB S now n t), ?_, by rw [HQ.out], ((bstep HB.out HB1.out HB.out.size).setCell (p := ⟨a2.heap.size, 0, none⟩) hsz _).trans (belowK_b (w := w) (Nat.le_refl _) _ D _ _ (by omega) hK' rfl rfl)⟩
      simp [results, Tryz.f21, go_sem, hc5]
    case stop =>
      rintro D c pre W hD hpre ⟨⟨rfl, pre', x, rfl, hp2, hcr⟩, hB⟩ hK
      have HQ : Hid (absB S now n t = 4) := absB_void HAl.out hpre hp2
      clear hp2 hpre
      gi_wp2
      refine ⟨by simp, .inl ⟨_, _, rfl, run_takeDeferred hK, ?_⟩⟩
      have hc5 := cell_kept hcr (grownBy_putObj' _ D (.deferred none)) (fun r e => by cases e; exact ⟨_, hK, rfl⟩)
      refine ⟨.int .i64 4, ?_, by rw [HQ.out], hB.trans (belowK_b (w := w) (Nat.le_refl _) W D _ _ (by omega) hK rfl rfl)⟩
      simp [results, Tryz.f21, go_sem, hc5]
end Go.Proofs.YtgekfhghambacaaGreat
