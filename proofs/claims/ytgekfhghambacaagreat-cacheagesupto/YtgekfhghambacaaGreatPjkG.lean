import Derived.Test.YtgekfhghambacaaGreatPjj
import Derived.Lib.SliceRun
import Derived.Test.YtgekfhghambacaaGreatPj6G
/-
  Proofs: those that hash one way, the chain that is looked at. (The verifier's own text.)
-/
namespace Go.Proofs.YtgekfhghambacaaGreat
set_option linter.unusedVariables false
set_option linter.unusedSimpArgs false
open Go.RowKit Go.Shelf Go.Maps Go.Proofs.YtgekfhghambacaaGreat.Nm

theorem row_emptyJ (w : World) (e size : Nat) : (w.alloc (.cells #[] e)).ownsRow w.heap.size e size (.slice (some ⟨w.heap.size, 0, none⟩) 0 0) 0 [] :=
  ⟨by simp, .inr ⟨w.heap.size, 0, #[], rfl, Nat.le_refl _, World.alloc_heap_new w _, by simp, by simp, by simp, by simp⟩⟩
theorem hs_news {w : World} {ad : Addr} {L : List Hq} (h : HsAt w (some ad) L) : ∀ j u, (hce L)[j]? = some u → w.cell? (ad.add j) = some u := by
  intro j u hj
  have hlt : j < L.length * 6 := by have := (List.getElem?_eq_some_iff.1 hj).1; rw [hce_len] at this; exact this
  have hk : j / 6 < L.length := by omega
  obtain ⟨g, off, hp, _, h0, h1, h2, h3, h4, h5⟩ := h (j / 6) hk
  obtain ⟨e0, e1, e2, e3, e4, e5⟩ := hce_get L (j / 6) hk
  obtain rfl := Option.some.inj hp
  have ha : (⟨g, off, none⟩ : Addr).add j = ⟨g, off + j, none⟩ := by simp [Addr.add]
  rw [ha]
  have : j % 6 = 0 ∨ j % 6 = 1 ∨ j % 6 = 2 ∨ j % 6 = 3 ∨ j % 6 = 4 ∨ j % 6 = 5 := by omega
  rcases this with e | e | e | e | e | e
  · rw [show j = j / 6 * 6 by omega] at hj ⊢; rw [e0] at hj; rw [h0, hj]
  · rw [show j = j / 6 * 6 + 1 by omega] at hj ⊢; rw [e1] at hj; rw [← Nat.add_assoc, h1, hj]
  · rw [show j = j / 6 * 6 + 2 by omega] at hj ⊢; rw [e2] at hj; rw [← Nat.add_assoc, h2, hj]
  · rw [show j = j / 6 * 6 + 3 by omega] at hj ⊢; rw [e3] at hj; rw [← Nat.add_assoc, h3, hj]
  · rw [show j = j / 6 * 6 + 4 by omega] at hj ⊢; rw [e4] at hj; rw [← Nat.add_assoc, h4, hj]
  · rw [show j = j / 6 * 6 + 5 by omega] at hj ⊢; rw [e5] at hj; rw [← Nat.add_assoc, h5, hj]
theorem hb_own {w : World} {base g cap n : Nat} {L : List Hq} (h : w.ownsRow base 122 6 (.slice (some ⟨g, 0, none⟩) n cap) n (hce L)) : ∃ rest, Hb w g L rest ∧ base ≤ g ∧ n ≤ cap := by
  obtain ⟨hl, (⟨h1, h0⟩ | ⟨g', cap', cur, h1, hb, hg, hn, hcm, hcs, htk⟩)⟩ := h
  · cases h1
  · injection h1 with h1 h2 h3
    injection h1 with h1
    injection h1 with h1
    subst h1
    subst h3
    refine ⟨cur.toList.drop (n * 6), ?_, hb, hn⟩
    unfold Hb Bx
    rw [← htk, List.take_append_drop, Array.toArray_toList]
    exact hg
set_option maxRecDepth 100000 in
set_option maxHeartbeats 1000000 in
/-- slices.Clone of NSEC3 -/
theorem cloneH_any (L : List Hq) (p : Option Addr) (cap : Nat) (w : World) (hL : L.length ≤ 1048576) (hat : HsAt w p L) (hpos : 0 < L.length) :
    Calls Tryz.prog 88 #[.slice p L.length cap] w fun r w' => (∃ g c, r = .returned (.slice (some ⟨g, 0, none⟩) L.length c) ∧ w'.ownsRow w.heap.size 122 6 (.slice (some ⟨g, 0, none⟩) L.length c) L.length (hce L)) ∧ Below w.heap.size w w' := by
  have qT : ∀ (w : World) (a : Option Addr) (n c n' c' : Nat), (binOp .eql 100 (.slice a n c) (.slice none n' c')).run Tryz.prog w = .ok (.bool a.isNone) w := fun w a n c n' c' => Lib.run_eql_slice_nil w _ _ a n c n' c' Tryz.underlying100
  cases p with
  | none => obtain ⟨g, off, hp, _⟩ := hat 0 hpos; cases hp
  | some ad =>
    have HA := hide' (fun j u => hs_news (hat : HsAt w (some ad) L) j u)
    have HA2 : Hid (∀ j u, (hce L)[j]? = some u → (w.alloc (.cells #[] 122)).cell? (ad.add j) = some u) := fun j u h => by
      have h1 := HA.out j u h
      exact Lib.cell?_alloc_some _ h1
    have HB := hide' ((Below.refl w.heap.size w).alloc (Nat.le_refl _) (.cells #[] 122))
    have HO := hide' (row_emptyJ w 122 6)
    clear hat
    obtain ⟨i0, hi, hz0, hz1, hz2⟩ := info_parts infoHq
    have HI := hide' (And.intro hi (And.intro hz0 (And.intro hz1 hz2)))
    clear hi hz0 hz1 hz2
    go_enter Tryz.func88, Tryz.ntmps88
    go_wp2_with (first
      | (at_builtin; refine wpList_append_own _ rfl _ _ 100 rfl w.heap.size 122 i0 (.agg #[.int .i64 0, .string .empty, .int .i64 0, .string .empty, .string .empty, .string .empty]) 6 80 Tryz.underlying100 HI.out.1 HI.out.2.1 HI.out.2.2.1 HI.out.2.2.2 rfl (by decide) (.slice (some ⟨w.heap.size, 0, none⟩) 0 0) 0 [] rfl HO.out ad L.length cap (hce L) rfl (hce_len L) HA2.out (hce_one L) (by unfold maxLen; omega) (by omega) (by simp) ?_; intro v1 w1 ho1 hg1 _; rw [Nat.zero_add, List.nil_append] at ho1; obtain ⟨g1, c1, rfl⟩ := owns_some ho1 hpos; have HO1 := hide' ho1; have HB1 := hide' (HB.out.grown hg1 (by simp) (fun k e => by simp [Value.ownBlock] at e; omega)); clear ho1 hg1))
    go_ret
    exact ⟨⟨_, _, rfl, HO1.out⟩, HB1.out⟩
/-- those that hash a way -/
def owB (rd : Nat) (sl : ByteArray) (x : Hq) : Bool := !(((x.rd : Int) == (rd : Int)) && (x.sl.toList == sl.toList))
def hwL (rd : Nat) (sl : ByteArray) (L : List Hq) : List Hq := kh (owB rd sl) L
/-- what lies along hashing -/
def Hw (w W : World) (rd : Nat) (sl : ByteArray) : Prop := Bx W w.heap.size #[.int .i64 (rd : Int), .string sl] 120 ∧ Bx W (w.heap.size + 1) #[.string ⟨#[]⟩, .int .i64 0, .string ⟨#[]⟩, .slice none 0 0] 149 ∧ Below w.heap.size w W
theorem Hw.step {w W W' : World} {rd : Nat} {sl : ByteArray} (h : Hw w W rd sl) (hB : Below W.heap.size W W') : Hw w W' rd sl := ⟨h.1.below hB h.1.lt, h.2.1.below hB h.2.1.lt, bstep h.2.2 hB h.2.2.size⟩
theorem Hw.drew {w W : World} {rd : Nat} {sl : ByteArray} (h : Hw w W rd sl) : Hw w W.drew rd sl := ⟨h.1, h.2.1, h.2.2.drew⟩
theorem Hw.grown {w W W' : World} {rd : Nat} {sl : ByteArray} {g : Nat} (h : Hw w W rd sl) (hg : W.grownBy W' (some g)) (h1 : w.heap.size + 1 < g) : Hw w W' rd sl := by
  refine ⟨h.1.grown hg (by intro e; injection e with e; omega), h.2.1.grown hg (by intro e; injection e with e; omega), h.2.2.grown hg h.2.2.size ?_⟩
  intro k e
  have e2 : k = g := by simpa using e.symm
  omega
theorem HsAt.set {V : World} {p : Option Addr} {L : List Hq} (h : HsAt V p L) (Q j : Nat) (u : Value) (hp : ∀ g off, p = some ⟨g, off, none⟩ → Q < g) : HsAt (V.setCell ⟨Q, j, none⟩ u) p L := fun k hk => by
  obtain ⟨g, off, h1, h2, e0, e1, e2, e3, e4, e5⟩ := h k hk
  have hlt := hp g off h1
  have hf : ∀ i, (V.setCell ⟨Q, j, none⟩ u).cell? ⟨g, i, none⟩ = V.cell? ⟨g, i, none⟩ := fun i => (grown_set V Q j u).cell_far ⟨g, i, none⟩ (show g < V.heap.size from h2) (by intro e; injection e with e; dsimp only at e; omega)
  exact ⟨g, off, h1, by rw [set_size]; exact h2, (hf _).trans e0, (hf _).trans e1, (hf _).trans e2, (hf _).trans e3, (hf _).trans e4, (hf _).trans e5⟩
theorem Hw.start (w : World) (rd : Nat) (sl : ByteArray) : Hw w ((w.alloc (.cells #[.int .i64 (rd : Int), .string sl] 120)).alloc (.cells #[.string ⟨#[]⟩, .int .i64 0, .string ⟨#[]⟩, .slice none 0 0] 149)) rd sl := by
  have x0 : Bx (w.alloc (.cells #[.int .i64 (rd : Int), .string sl] 120)) w.heap.size #[.int .i64 (rd : Int), .string sl] 120 := World.alloc_heap_new w _
  refine ⟨x0.below ((Below.refl _ _).alloc (Nat.le_refl _) _) x0.lt, ?_, ((Below.refl _ _).alloc (Nat.le_refl _) _).alloc (by simp) _⟩
  have h := World.alloc_heap_new (w.alloc (.cells #[.int .i64 (rd : Int), .string sl] 120)) (.cells #[.string ⟨#[]⟩, .int .i64 0, .string ⟨#[]⟩, .slice none 0 0] 149)
  rw [World.size_alloc] at h
  exact h
set_option maxRecDepth 100000 in
set_option maxHeartbeats 2000000 in
/-- proof.hashing -/
theorem hashing_any (apex : ByteArray) (L : List Hq) (p : Option Addr) (cap : Nat) (rd : Nat) (sl : ByteArray) (w : World) (hL : L.length ≤ 1048576) (hat : HsAt w p L) (hpos : 0 < L.length) :
    Calls Tryz.prog 80 #[.string apex, .slice p L.length cap, .agg #[.int .i64 (rd : Int), .string sl]] w fun r w' => (∃ p' c', r = .returned (.agg #[.string apex, .int .i64 (rd : Int), .string sl, .slice p' (hwL rd sl L).length c']) ∧ HsAt w' p' (hwL rd sl L)) ∧ Below w.heap.size w w' := by
  have S0 := hide' (Hw.start w rd sl)
  have HAT0 : HsAt ((w.alloc (.cells #[.int .i64 (rd : Int), .string sl] 120)).alloc (.cells #[.string ⟨#[]⟩, .int .i64 0, .string ⟨#[]⟩, .slice none 0 0] 149)) p L := (hat.below ((Below.refl _ _).alloc (Nat.le_refl _) _)).below ((Below.refl _ _).alloc (Nat.le_refl _) _)
  obtain ⟨W0, hW0⟩ : ∃ W0, (w.alloc (.cells #[.int .i64 (rd : Int), .string sl] 120)).alloc (.cells #[.string ⟨#[]⟩, .int .i64 0, .string ⟨#[]⟩, .slice none 0 0] 149) = W0 := ⟨_, rfl⟩
  rw [hW0] at S0 HAT0
  have HAT := hide' HAT0
  have HCL := hide' (fun (W : World) (h : HsAt W p L) => cloneH_any L p cap W hL h hpos)
  have HDE := hide' (fun (W : World) (g c : Nat) (rest : List Value) (h : Hb W g L rest) (hc : L.length ≤ c) (hf : ∀ (x : Hq) (V : World), W.grownBy V (some g) → Calls Tryz.prog 86 #[hA x, .pointer (some ⟨w.heap.size, 0, none⟩)] V fun r w' => r = .returned (.bool (owB rd sl x)) ∧ Below V.heap.size V w') => deleteH_any (owB rd sl) (.pointer (some ⟨w.heap.size, 0, none⟩)) L rest g c W h hc hL hf)
  have HH1 := hide' (fun (x : Hq) (V : World) (h : Bx V w.heap.size #[.int .i64 (rd : Int), .string sl] 120) => hashing1_any x rd sl w.heap.size V h)
  have HK : Hid (hwL rd sl L = kh (owB rd sl) L) := rfl
  rw [HK.out]
  generalize kh (owB rd sl) L = KL at *
  have k0 := S0.out.1.cell (j := 0) (v := .int .i64 (rd : Int)) rfl
  have k1 := S0.out.1.cell (j := 1) (v := .string sl) rfl
  have QF : Hid (∀ V : World, Hw w V rd sl → V.cell? ⟨w.heap.size, 0, none⟩ = some (.int .i64 (rd : Int)) ∧ V.cell? ⟨w.heap.size, 1, none⟩ = some (.string sl)) := fun V h => ⟨h.1.cell rfl, h.1.cell rfl⟩
  clear hat HAT0 HK
  go_enter Tryz.func80, Tryz.ntmps80
  go_upto_region 2 with fail
  rename_i KK hKK
  have HKK := hide' hKK
  clear hKK
  try rw [hW0]
  refine wp_region_held_drew (S := fun V => V.cell? ⟨w.heap.size, 0, none⟩ = some (.int .i64 (rd : Int)) ∧ V.cell? ⟨w.heap.size, 1, none⟩ = some (.string sl)) (by kernel_rfl) ?_ (fun hHeld => ?_)
  · (try dsimp only); go_keep
  refine takeJ 0 (some 9) (.string apex) rfl rfl (by kernel_rfl) (by kernel_rfl) (by kernel_rfl) (fun _ _ _ h => h) (Or.inl ⟨by rfl, ?_⟩) (by assumption) ?_
  · intro w hSw; (try dsimp only at hSw); go_simp <;> (intros; omega)
  simp only [Act.put, List.setIfInBounds_toArray, List.set_cons_zero, List.set_cons_succ]
  refine takeJ 1 (some 10) (.agg #[.int .i64 (rd : Int), .string sl]) rfl rfl (by kernel_rfl) (by kernel_rfl) (by kernel_rfl) (fun _ _ _ h => h) (Or.inl ⟨by rfl, ?_⟩) (by assumption) ?_
  · intro w hSw; (try dsimp only at hSw); go_simp <;> (intros; omega)
  simp only [Act.put, List.setIfInBounds_toArray, List.set_cons_zero, List.set_cons_succ]
  refine takeJ 2 (some 11) (.slice p L.length cap) rfl rfl (by kernel_rfl) (by kernel_rfl) (by kernel_rfl) (fun _ _ _ h => h) (Or.inl ⟨by rfl, ?_⟩) (by assumption) ?_
  · intro w hSw; (try dsimp only at hSw); go_simp <;> (intros; omega)
  simp only [Act.put, List.setIfInBounds_toArray, List.set_cons_zero, List.set_cons_succ]
  refine takeJ 4 (some 13) (.func (Fn.func 86) #[] #[.pointer (some ⟨w.heap.size, 0, none⟩)]) rfl rfl (by kernel_rfl) (by kernel_rfl) (by kernel_rfl) (fun _ _ _ h => h) (Or.inl ⟨by rfl, ?_⟩) (by assumption) ?_
  · intro w hSw; (try dsimp only at hSw); go_simp <;> (intros; omega)
  simp only [Act.put, List.setIfInBounds_toArray, List.set_cons_zero, List.set_cons_succ]
  refine wpAnyH_ready (rs := [3]) (by kernel_rfl) (by simp) ?_
  refine AllReadyH.cons rfl (fun K hK => ?_) AllReadyH.nil
  go_simp
  go_at_call 88; refine (HCL.out _ (by first | exact HAT.out | exact HAT.out)).mono ?_; rintro r w1 ⟨⟨g, c, rfl, ho⟩, hB⟩; have S1 := hide' (show Hw w w1 rd sl by first | exact S0.out.step hB | exact S0.out.drew.step hB); have hgl : w.heap.size + 1 < g := Nat.lt_of_lt_of_le (by first | exact S0.out.2.1.lt | exact S0.out.drew.2.1.lt) (hb_own ho).choose_spec.2.1; obtain ⟨rest, hb, -, hnc⟩ := hb_own ho; have HBB := hide' hb; have HF9 : Hid (∀ (x : Hq) (V : World), w1.grownBy V (some g) → Calls Tryz.prog 86 #[hA x, .pointer (some ⟨w.heap.size, 0, none⟩)] V fun r w' => r = .returned (.bool (owB rd sl x)) ∧ Below V.heap.size V w') := (fun x V hg => HH1.out x V (S1.out.grown hg hgl).1); clear hB ho hb
  go_wp2_with fail
  refine hK.out _ _ (QF.out _ S1.out) (fun hHeld => ?_)
  clear hK K
  try simp only [Act.put, List.setIfInBounds_toArray, List.set_cons_zero, List.set_cons_succ]
  refine wpAnyH_ready (rs := [5]) (by kernel_rfl) (by simp) ?_
  refine AllReadyH.cons rfl (fun K hK => ?_) AllReadyH.nil
  go_simp
  go_at_call 87; refine (HDE.out _ _ _ _ HBB.out hnc HF9.out).mono ?_; rintro r w2 ⟨rfl, hh, hg⟩; have S2 := hide' (S1.out.grown hg hgl); have HHH := hide' hh; clear hh hg
  go_wp2_with fail
  refine hK.out _ _ (QF.out _ S2.out) (fun hHeld => ?_)
  clear hK K
  try simp only [Act.put, List.setIfInBounds_toArray, List.set_cons_zero, List.set_cons_succ]
  refine takeJ 6 (some 15) (.agg #[.string apex, .int .i64 (rd : Int), .string sl, .slice (some ⟨g, 0, none⟩) KL.length c]) rfl rfl (by kernel_rfl) (by kernel_rfl) (by kernel_rfl) (fun _ _ _ h => h) (Or.inl ⟨by rfl, ?_⟩) (by assumption) ?_
  · intro w hSw; (try dsimp only at hSw); go_simp <;> (intros; omega)
  simp only [Act.put, List.setIfInBounds_toArray, List.set_cons_zero, List.set_cons_succ]
  refine wpAnyH_ready (rs := [7]) (by kernel_rfl) (by simp) ?_
  refine AllReadyH.cons rfl (fun K hK => ?_) AllReadyH.nil
  have e0 := S2.out.2.1.cell (j := 0) rfl
  have e1 := S2.out.2.1.cell (j := 1) rfl
  have e2 := S2.out.2.1.cell (j := 2) rfl
  have e3 := S2.out.2.1.cell (j := 3) rfl
  have fr0 := S2.out.2.1.free 0
  have fr1 := S2.out.2.1.free 1
  have fr2 := S2.out.2.1.free 2
  have fr3 := S2.out.2.1.free 3
  go_simp
  obtain ⟨X, hX⟩ : ∃ X, (World.setCell (World.setCell (World.setCell (World.setCell w2 ⟨w.heap.size + 1, 0, none⟩ (.string apex)) ⟨w.heap.size + 1, 1, none⟩ (.int .i64 (rd : Int))) ⟨w.heap.size + 1, 2, none⟩ (.string sl)) ⟨w.heap.size + 1, 3, none⟩ (.slice (some ⟨g, 0, none⟩) KL.length c)) = X := ⟨_, rfl⟩
  have D9 : Bx X w.heap.size #[.int .i64 (rd : Int), .string sl] 120 := by rw [← hX]; exact (Bx.grown (Bx.grown (Bx.grown (Bx.grown S2.out.1 (grown_set _ _ 0 _) (by intro e; injection e with e; omega)) (grown_set _ _ 1 _) (by intro e; injection e with e; omega)) (grown_set _ _ 2 _) (by intro e; injection e with e; omega)) (grown_set _ _ 3 _) (by intro e; injection e with e; omega))
  have B9 : Below w.heap.size w X := by rw [← hX]; exact (Below.setCell (Below.setCell (Below.setCell (Below.setCell S2.out.2.2 (p := ⟨w.heap.size + 1, 0, none⟩) (Nat.le_succ _) _) (p := ⟨w.heap.size + 1, 1, none⟩) (Nat.le_succ _) _) (p := ⟨w.heap.size + 1, 2, none⟩) (Nat.le_succ _) _) (p := ⟨w.heap.size + 1, 3, none⟩) (Nat.le_succ _) _)
  have H9 : HsAt X (some ⟨g, 0, none⟩) KL := by rw [← hX]; exact (HsAt.set (HsAt.set (HsAt.set (HsAt.set HHH.out _ 0 _ (fun g' off' e => by injection e with e; injection e with e; omega)) _ 1 _ (fun g' off' e => by injection e with e; injection e with e; omega)) _ 2 _ (fun g' off' e => by injection e with e; injection e with e; omega)) _ 3 _ (fun g' off' e => by injection e with e; injection e with e; omega))
  have E9 : Bx X (w.heap.size + 1) #[.string apex, .int .i64 (rd : Int), .string sl, .slice (some ⟨g, 0, none⟩) KL.length c] 149 := by rw [← hX]; exact (Bx.set (Bx.set (Bx.set (Bx.set S2.out.2.1 0 _) 1 _) 2 _) 3 _)
  simp only [hX]
  clear hX
  refine hK.out _ _ ⟨D9.cell rfl, D9.cell rfl⟩ (fun hHeld => ?_)
  clear hK K
  try simp only [Act.put, List.setIfInBounds_toArray, List.set_cons_zero, List.set_cons_succ]
  refine wpAnyH_done (by kernel_rfl) ?_ _
  go_wp2_with fail
  refine HKK.out _ _ ?_
  have q0 := E9.cell (j := 0) rfl
  have q1 := E9.cell (j := 1) rfl
  have q2 := E9.cell (j := 2) rfl
  have q3 := E9.cell (j := 3) rfl
  go_wp2_with fail
  change bodyPost _ _ _ _ _ _
  refine bodyPost_ret (v := .agg #[.string apex, .int .i64 (rd : Int), .string sl, .slice (some ⟨g, 0, none⟩) KL.length c]) (by simp [results, go_sem, q0, q1, q2, q3]) rfl ⟨⟨_, _, rfl, ?_⟩, ?_⟩
  · exact H9
  · first | exact B9 | exact B9.drew
end Go.Proofs.YtgekfhghambacaaGreat

/-
  Proofs: the chain that is looked at, Judge and Absent. (The verifier's own text.)
-/
namespace Go.Proofs.YtgekfhghambacaaGreat
set_option linter.unusedVariables false
set_option linter.unusedSimpArgs false
open Go.RowKit Go.Shelf Go.Maps Go.Proofs.YtgekfhghambacaaGreat.Nm

/-- what an NSEC3 that may be used keeps to -/
def HOk (x : Hq) : Prop := x.ts.size ≤ 65535 ∧ x.rd ≤ 50 ∧ x.sl.size ≤ 255
theorem hqOf_ok {apex : ByteArray} {i : Nat} {r : Rn} : ∀ x ∈ hqOf apex i r, HOk x := by
  intro x hx
  unfold hqOf at hx
  split at hx
  · rename_i h
    obtain ⟨h1, h2, h3⟩ := h
    unfold rgB at h2
    rw [Bool.and_eq_true] at h2
    obtain ⟨z1, z2⟩ := zon_err h2.2
    rw [h1] at z2
    obtain ⟨m1, m2, m3, m4, -, -⟩ := nsec3_form z2
    rw [List.mem_singleton] at hx
    subst hx
    unfold ok3 at h3
    simp only [Bool.and_eq_true, decide_eq_true_eq] at h3
    refine ⟨?_, h3.2.1, ?_⟩
    · show (ts3 r.d).size ≤ _
      unfold ts3
      rw [size_extract' _ _ _ (Nat.le_refl _)]
      unfold rs3
      rw [size_extract' _ _ _ (Nat.le_refl _)]
      omega
    · show (sl3 r.d).size ≤ _
      unfold sl3
      rw [size_extract' _ _ _ (by omega)]
      have : slZ r.d ≤ 255 := by have := bt_lt r.d 4; unfold slZ; omega
      omega
  · cases hx
theorem hqL_ok {apex : ByteArray} {L : List Rn} : ∀ k, ∀ x ∈ hqL apex L k, HOk x
  | 0 => fun x hx => by cases hx
  | k + 1 => fun x hx => by
    rw [hqL] at hx
    rcases List.mem_append.1 hx with h | h
    · exact hqL_ok k x h
    · cases e : L[k]? with
      | none => rw [e] at h; cases h
      | some r => rw [e] at h; exact hqOf_ok x h
set_option maxRecDepth 100000 in
set_option maxHeartbeats 2000000 in
/-- chainOf, where there is an NSEC -/
theorem chain_nsec (apex : ByteArray) (L : List Rn) (p : Option Addr) (cap : Nat) (w : World) (hL : L.length ≤ 1048576) (ha : isN apex = true) (hat : RsAt w p L) (hz : ∀ r ∈ L, r.o.size ≤ 1048576 ∧ r.d.size ≤ 9223372036854775807) (hpos : 0 < (nqL apex L L.length).length) :
    Calls Tryz.prog 71 #[.string apex, .slice p L.length cap] w fun r w' => (∃ p' c', r = .returned (.iface 98 (.slice p' (nqL apex L L.length).length c')) ∧ NsAt w' p' (nqL apex L L.length)) ∧ Below w.heap.size w w' := by
  have HN := hide' (nsecsOf_any apex L p cap w hL (by have := ((isN_iff _).1 ha).1; omega) hat hz)
  generalize nqL apex L L.length = N at *
  clear hat hz
  have hpi : (0 : Int) < (N.length : Int) := by omega
  go_enter Tryz.func71, Tryz.ntmps71
  go_wp2_with (go_at_call 53; refine HN.out.mono ?_; rintro r w1 ⟨⟨v, rfl, ho⟩, hB1⟩; obtain ⟨p1, c1, rfl, -⟩ := own_shape ho; have HO := hide' (nsAt_own ho); clear ho)
  go_ret
  exact ⟨⟨_, _, rfl, HO.out⟩, hB1⟩
set_option maxRecDepth 100000 in
set_option maxHeartbeats 2000000 in
/-- chainOf, where there is none -/
theorem chain_none (apex : ByteArray) (L : List Rn) (p : Option Addr) (cap : Nat) (w : World) (hL : L.length ≤ 1048576) (ha : isN apex = true) (hat : RsAt w p L) (hz : ∀ r ∈ L, r.o.size ≤ 1048576 ∧ r.d.size ≤ 9223372036854775807) (hn : nqL apex L L.length = []) (hh : hqL apex L L.length = []) :
    Calls Tryz.prog 71 #[.string apex, .slice p L.length cap] w fun r w' => (∃ p' c', r = .returned (.iface 98 (.slice p' 0 c'))) ∧ Below w.heap.size w w' := by
  have HN := hide' (nsecsOf_any apex L p cap w hL (by have := ((isN_iff _).1 ha).1; omega) hat hz)
  have HH := hide' (fun W (h : RsAt W p L) => nsec3sOf_any apex L p cap W hL ha h hz)
  have HAT := hide' hat
  rw [hn] at HN
  rw [hh] at HH
  clear hat hz hn hh
  go_enter Tryz.func71, Tryz.ntmps71
  go_wp2_with (first
    | (go_at_call 53; refine HN.out.mono ?_; rintro r w1 ⟨⟨v, rfl, ho⟩, hB1⟩; obtain ⟨p1, c1, rfl, -⟩ := own_shape ho; have HA1 := hide' (rsAt_below7 HAT.out hB1); have HB1 := hide' hB1; clear ho hB1)
    | (go_at_call 54; refine (HH.out _ HA1.out).mono ?_; rintro r w2 ⟨⟨v, rfl, ho⟩, hB2⟩; obtain ⟨p2, c2, rfl, -⟩ := own_shape ho; have HB2 := hide' (bstep HB1.out hB2 HB1.out.size); clear ho hB2))
  go_ret
  exact ⟨⟨_, _, rfl⟩, by first | exact HB2.out | exact HB2.out.alloc HB2.out.size _⟩
set_option maxRecDepth 100000 in
set_option maxHeartbeats 2000000 in
/-- chainOf, where there are NSEC3 alone -/
theorem chain_hash (apex : ByteArray) (L : List Rn) (p : Option Addr) (cap : Nat) (w : World) (hL : L.length ≤ 1048576) (ha : isN apex = true) (hat : RsAt w p L) (hz : ∀ r ∈ L, r.o.size ≤ 1048576 ∧ r.d.size ≤ 9223372036854775807) (x : Hq) (H : List Hq) (hn : nqL apex L L.length = []) (hh : hqL apex L L.length = x :: H) (hHL : (x :: H).length ≤ 1048576) :
    Calls Tryz.prog 71 #[.string apex, .slice p L.length cap] w fun r w' => (∃ p' c', r = .returned (.iface 149 (.agg #[.string apex, .int .i64 (x.rd : Int), .string x.sl, .slice p' (hwL x.rd x.sl (x :: H)).length c'])) ∧ HsAt w' p' (hwL x.rd x.sl (x :: H))) ∧ Below w.heap.size w w' := by
  have HN := hide' (nsecsOf_any apex L p cap w hL (by have := ((isN_iff _).1 ha).1; omega) hat hz)
  have HH := hide' (fun W (h : RsAt W p L) => nsec3sOf_any apex L p cap W hL ha h hz)
  have HAT := hide' hat
  have HHA := hide' (fun (W : World) (p' : Option Addr) (c' : Nat) (h : HsAt W p' (x :: H)) => hashing_any apex (x :: H) p' c' x.rd x.sl W hHL h (by simp))
  rw [hn] at HN
  rw [hh] at HH
  generalize hwL x.rd x.sl (x :: H) = K at *
  clear hat hz hn hh
  have hlen : (x :: H).length = H.length + 1 := rfl
  rw [hlen] at HH HHA hHL
  have hpi : ¬ (H.length : Int) + 1 = 0 := by omega
  have hpj : (0 : Int) < (H.length : Int) + 1 := by omega
  go_enter Tryz.func71, Tryz.ntmps71
  go_wp2_with (first
    | (go_at_call 53; refine HN.out.mono ?_; rintro r w1 ⟨⟨v, rfl, ho⟩, hB1⟩; obtain ⟨p1, c1, rfl, -⟩ := own_shape ho; have HA1 := hide' (rsAt_below7 HAT.out hB1); have HB1 := hide' hB1; clear ho hB1)
    | (go_at_call 54; refine (HH.out _ HA1.out).mono ?_; rintro r w2 ⟨⟨v, rfl, ho⟩, hB2⟩; obtain ⟨p2, c2, rfl, -⟩ := own_shape ho; have HO2 := hide' (hsAt_own (M := x :: H) ho); obtain ⟨g2, off2, rfl, hg2, e0, e1, e2, e3, e4, e5⟩ := HO2.out 0 (by simp); have HB2 := hide' (bstep HB1.out hB2 HB1.out.size); simp only [Nat.zero_mul, Nat.add_zero, List.getElem_cons_zero] at e0 e1 e2 e3 e4 e5; clear ho hB2 e0 e1 e4 e5)
    | (go_at_call 80; refine (HHA.out _ _ _ HO2.out).mono ?_; rintro r w3 ⟨⟨p3, c3, rfl, h3⟩, hB3⟩))
  go_ret
  exact ⟨⟨_, _, rfl, h3⟩, bstep HB2.out hB3 HB2.out.size⟩
end Go.Proofs.YtgekfhghambacaaGreat

/-
  Proofs: Judge and Absent. (The verifier's own text.)
-/
namespace Go.Proofs.YtgekfhghambacaaGreat
set_option linter.unusedVariables false
set_option linter.unusedSimpArgs false
open Go.RowKit Go.Shelf Go.Maps Go.Proofs.YtgekfhghambacaaGreat.Nm

/-- what a list of records proves -/
def chB (N : List Nq) (H : List Hq) (ca cq : Nat) (q : ByteArray) (t : Int) : Int := match N with
  | [] => (match H with | [] => 0 | x :: H' => jhB (hwL x.rd x.sl (x :: H')) x.rd x.sl q ca cq t)
  | y :: N' => jnB (y :: N') q t
def pjB (apex : ByteArray) (L : List Rn) (q : ByteArray) (t : Int) : Int := if withinB q apex = true ∧ 1 ≤ t ∧ t ≤ 65535 then chB (nqL apex L L.length) (hqL apex L L.length) (labs apex).length (labs q).length q t else 0
theorem hwL_len (rd : Nat) (sl : ByteArray) (L : List Hq) : (hwL rd sl L).length ≤ L.length := List.length_filter_le _ _
theorem hwL_mem {rd : Nat} {sl : ByteArray} {L : List Hq} {x : Hq} (h : x ∈ hwL rd sl L) : x ∈ L := (List.mem_filter.1 h).1
theorem nsAt_nil (w : World) (p : Option Addr) : NsAt w p [] := fun k h => absurd h (Nat.not_lt_zero _)
theorem jn_nil (q : ByteArray) (t : Int) : jnB [] q t = 0 := rfl
set_option maxRecDepth 100000 in
set_option maxHeartbeats 4000000 in
/-- proof.Judge -/
theorem pJudge_any (apex : ByteArray) (L : List Rn) (p : Option Addr) (cap : Nat) (q : ByteArray) (t : Int) (w : World) (hL : L.length ≤ 1048576) (ha : apex.size ≤ 1048576) (hq : q.size ≤ 1048576) (hat : RsAt w p L) (hz : ∀ r ∈ L, r.o.size ≤ 1048576 ∧ r.d.size ≤ 9223372036854775807) :
    Calls Tryz.prog 60 #[.string apex, .slice p L.length cap, .string q, .int .i64 t] w fun r w' => r = .returned (.int .i64 (pjB apex L q t)) ∧ Below w.heap.size w w' := by
  have HW := hide' (fun W => within_any q apex W (small_max hq) (small_max ha))
  unfold pjB
  cases hw : withinB q apex with
  | false =>
    rw [hw] at HW
    rw [if_neg (fun h => by cases h.1)]
    go_enter Tryz.func60, Tryz.ntmps60
    go_wp2_with (go_at_call 33; refine (HW.out _).mono ?_; rintro r w1 ⟨rfl, hB1⟩)
    go_ret
    exact ⟨rfl, hB1⟩
  | true =>
    rw [hw] at HW
    by_cases h1 : 1 ≤ t
    rotate_left
    · rw [if_neg (fun h => h1 h.2.1)]
      have h1' : t < 1 := by omega
      clear h1
      go_enter Tryz.func60, Tryz.ntmps60
      go_wp2_with (go_at_call 33; refine (HW.out _).mono ?_; rintro r w1 ⟨rfl, hB1⟩)
      go_ret
      exact ⟨rfl, hB1⟩
    by_cases h2 : t ≤ 65535
    rotate_left
    · rw [if_neg (fun h => h2 h.2.2)]
      have h2' : 65535 < t := by omega
      have h1' : ¬ t < 1 := by omega
      clear h1 h2
      go_enter Tryz.func60, Tryz.ntmps60
      go_wp2_with (go_at_call 33; refine (HW.out _).mono ?_; rintro r w1 ⟨rfl, hB1⟩)
      go_ret
      exact ⟨rfl, hB1⟩
    rw [if_pos ⟨rfl, h1, h2⟩]
    have h1' : ¬ t < 1 := by omega
    have h2' : ¬ 65535 < t := by omega
    obtain ⟨n1, n2, n3, -⟩ := (withinB_iff q apex).1 hw
    have HCN := hide' (fun W (h : RsAt W p L) => chain_nsec apex L p cap W hL n2 h hz)
    have HCO := hide' (fun W (h : RsAt W p L) => chain_none apex L p cap W hL n2 h hz)
    have HCH := hide' (fun W (h : RsAt W p L) => chain_hash apex L p cap W hL n2 h hz)
    have hnl := nqL_len apex L L.length
    have hhl := hqL_len apex L L.length
    have hno : NOk (nqL apex L L.length) := nqL_ok L.length
    have hho : ∀ x ∈ hqL apex L L.length, HOk x := hqL_ok L.length
    have HAT := hide' hat
    generalize nqL apex L L.length = N at *
    generalize hqL apex L L.length = H at *
    cases N with
    | cons y N' =>
      show Calls _ _ _ _ fun r w' => r = .returned (.int .i64 (jnB (y :: N') q t)) ∧ _
      have HC := hide' (fun W (h : RsAt W p L) => HCN.out W h (by simp))
      have HJ := hide' (fun (W : World) (p' : Option Addr) (c' : Nat) (h : NsAt W p' (y :: N')) => judgeN_any (y :: N') p' c' q t W (by omega) hno hq h)
      generalize y :: N' = N at *
      clear HCN HCO HCH h1 h2 hat hz hw n1 n2 n3 hno hho hnl hhl
      generalize jnB N q t = J at *
      go_enter Tryz.func60, Tryz.ntmps60
      go_wp2_with (first
        | (go_at_call 33; refine (HW.out _).mono ?_; rintro r w1 ⟨rfl, hB1⟩; have HB1 := hide' hB1; have HA1 := hide' (rsAt_below7 HAT.out hB1); clear hB1)
        | (go_at_call 71; refine (HC.out _ HA1.out).mono ?_; rintro r w2 ⟨⟨p2, c2, rfl, h2⟩, hB2⟩; have HB2 := hide' (bstep HB1.out hB2 HB1.out.size); have HN2 := hide' h2; clear hB2 h2)
        | (go_at_call 116; refine (HJ.out _ _ _ HN2.out).mono ?_; rintro r w3 ⟨rfl, hB3⟩))
      go_ret
      exact ⟨rfl, bstep HB2.out hB3 HB2.out.size⟩
    | nil =>
      cases H with
      | nil =>
        show Calls _ _ _ _ fun r w' => r = .returned (.int .i64 0) ∧ _
        have HC := hide' (fun W (h : RsAt W p L) => HCO.out W h rfl rfl)
        have HJ := hide' (fun (W : World) (p' : Option Addr) (c' : Nat) => judgeN_any [] p' c' q t W (by simp) hno hq (nsAt_nil W p'))
        rw [jn_nil] at HJ
        clear HCN HCO HCH h1 h2 hat hz hw n1 n2 n3 hno hho hnl hhl
        go_enter Tryz.func60, Tryz.ntmps60
        go_wp2_with (first
          | (go_at_call 33; refine (HW.out _).mono ?_; rintro r w1 ⟨rfl, hB1⟩; have HB1 := hide' hB1; have HA1 := hide' (rsAt_below7 HAT.out hB1); clear hB1)
          | (go_at_call 71; refine (HC.out _ HA1.out).mono ?_; rintro r w2 ⟨⟨p2, c2, rfl⟩, hB2⟩; have HB2 := hide' (bstep HB1.out hB2 HB1.out.size); clear hB2)
          | (go_at_call 116; refine (HJ.out _ _ _).mono ?_; rintro r w3 ⟨rfl, hB3⟩))
        go_ret
        exact ⟨rfl, bstep HB2.out hB3 HB2.out.size⟩
      | cons x H' =>
        show Calls _ _ _ _ fun r w' => r = .returned (.int .i64 (jhB (hwL x.rd x.sl (x :: H')) x.rd x.sl q (labs apex).length (labs q).length t)) ∧ _
        have HC := hide' (fun W (h : RsAt W p L) => HCH.out W h x H' rfl rfl (by omega))
        obtain ⟨o1, o2, o3⟩ := hho x (by simp)
        have hkl := hwL_len x.rd x.sl (x :: H')
        have HJ := hide' (fun (W : World) (p' : Option Addr) (c' : Nat) (h : HsAt W p' (hwL x.rd x.sl (x :: H'))) => judgeH_any apex x.rd x.sl (hwL x.rd x.sl (x :: H')) p' c' q t W (by omega) h o3 o2 hq ha (labs q).length (labs apex).length (cntI_yes n1) (cntI_yes n2) n3 (labs_len_le n1) (fun y hy => (hho y (hwL_mem hy)).1))
        generalize hwL x.rd x.sl (x :: H') = K at *
        generalize jhB K x.rd x.sl q (labs apex).length (labs q).length t = J at *
        clear HCN HCO HCH h1 h2 hat hz hw n1 n2 n3 hno hho hnl hhl o1 o2 o3
        go_enter Tryz.func60, Tryz.ntmps60
        go_wp2_with (first
          | (go_at_call 33; refine (HW.out _).mono ?_; rintro r w1 ⟨rfl, hB1⟩; have HB1 := hide' hB1; have HA1 := hide' (rsAt_below7 HAT.out hB1); clear hB1)
          | (go_at_call 71; refine (HC.out _ HA1.out).mono ?_; rintro r w2 ⟨⟨p2, c2, rfl, h2⟩, hB2⟩; have HB2 := hide' (bstep HB1.out hB2 HB1.out.size); have HN2 := hide' h2; clear hB2 h2)
          | (go_at_call 160; refine (HJ.out _ _ _ HN2.out).mono ?_; rintro r w3 ⟨rfl, hB3⟩))
        go_ret
        exact ⟨rfl, bstep HB2.out hB3 HB2.out.size⟩
end Go.Proofs.YtgekfhghambacaaGreat
