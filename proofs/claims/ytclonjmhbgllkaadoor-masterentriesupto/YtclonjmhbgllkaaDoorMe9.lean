import Derived.Test.YtclonjmhbgllkaaDoorMe8
import Derived.Test.YtclonjmhbgllkaaDoorAs4
namespace Go.Proofs.YtclonjmhbgllkaaDoor
set_option linter.unusedVariables false
open Go.RowKit Go.Shelf Go.Proofs.YtclonjmhbgllkaaDoor.Nm

/-- what the variable errors.errorType holds -/
def GE (w : World) : Prop := w.cell? ⟨0, 0, none⟩ = some (.iface 75 (.agg #[hT 36]))
theorem GE.lt {w : World} (h : GE w) : 0 < w.heap.size := by
  rcases Nat.eq_zero_or_pos w.heap.size with h0 | h1
  · unfold GE at h; simp [World.cell?, h0] at h
  · exact h1
theorem GE.below {w w' : World} (h : GE w) (hb : Below w.heap.size w w') : GE w' := (hb.cell (p := ⟨0, 0, none⟩) h.lt).trans h

theorem below_far {B : Nat} {a b : World} (h : Below B a b) {R : Nat} (hR : B ≤ R) (j : Nat) (u : Value) : Below B a (b.setCell ⟨R, j, none⟩ u) :=
  ⟨h.os, h.tape, h.output, by rw [set_size]; exact h.size, fun k hk => (Below.heap_setCell _ _ _ k (by show k ≠ R; omega)).trans (h.block k hk)⟩

set_option maxHeartbeats 2000000 in
theorem faultOf_nil (w : World) : Calls Tryd.prog 8 #[.nilIface] w fun e w' => e = .returned (.agg #[.int .i64 0, .string ⟨#[]⟩, .int .i64 0]) ∧ Below w.heap.size w w' := by
  go_enter Tryd.func8, Tryd.ntmps8
  go_wp2_with (go_at_call 14; refine (as_nil _ _).mono ?_; rintro e w2 ⟨rfl, rfl⟩)
  refine bodyPost_ret (v := .agg #[.int .i64 0, .string ⟨#[]⟩, .int .i64 0]) ?_ rfl ⟨rfl, ?_⟩
  · simp [results, go_sem]
  · exact (((Below.refl _ w).alloc (Nat.le_refl _) _).alloc (by simp) _).alloc (by simp; omega) _

set_option maxHeartbeats 2000000 in
theorem faultOf_err (f : ByteArray) (c l : Nat) (w : World) (hG : GE w) : Calls Tryd.prog 8 #[.iface 54 (errA f c l)] w fun e w' => e = .returned (.agg #[.int .i64 (c : Int), .string f, .int .i64 (l : Int)]) ∧ Below w.heap.size w w' := by
  have hG0 := hG.lt
  obtain ⟨wA, hwA⟩ : ∃ wA, w.alloc (.cells #[.int .i64 0, .string ⟨#[]⟩, .int .i64 0] 25) = wA := ⟨_, rfl⟩
  have zA : wA.heap.size = w.heap.size + 1 := by rw [← hwA]; simp
  have BA : Below w.heap.size w wA := hwA ▸ (Below.refl _ w).alloc (Nat.le_refl _) _
  obtain ⟨wB, hwB⟩ : ∃ wB, wA.alloc (.cells #[.int .i64 0] 52) = wB := ⟨_, rfl⟩
  have zB : wB.heap.size = w.heap.size + 2 := by rw [← hwB]; simp [zA]
  have BB : Below w.heap.size w wB := hwB ▸ BA.alloc (by omega) _
  obtain ⟨wC, hwC⟩ : ∃ wC, wB.alloc (.cells #[.string ⟨#[]⟩, .int .i64 0, .nilIface] 54) = wC := ⟨_, rfl⟩
  have zC : wC.heap.size = w.heap.size + 3 := by rw [← hwC]; simp [zB]
  have BC : Below w.heap.size w wC := hwC ▸ BB.alloc (by omega) _
  have hGC : GE wC := hG.below BC
  have a0' : wA.cell? ⟨w.heap.size, 0, none⟩ = some (.int .i64 0) := hwA ▸ new_cell rfl _ _ _
  have a1' : wA.cell? ⟨w.heap.size, 1, none⟩ = some (.string ⟨#[]⟩) := hwA ▸ new_cell rfl _ _ _
  have a2' : wA.cell? ⟨w.heap.size, 2, none⟩ = some (.int .i64 0) := hwA ▸ new_cell rfl _ _ _
  have a0 : wC.cell? ⟨w.heap.size, 0, none⟩ = some (.int .i64 0) := hwC ▸ cell_alloc_l _ (hwB ▸ cell_alloc_l _ a0')
  have a1 : wC.cell? ⟨w.heap.size, 1, none⟩ = some (.string ⟨#[]⟩) := hwC ▸ cell_alloc_l _ (hwB ▸ cell_alloc_l _ a1')
  have a2 : wC.cell? ⟨w.heap.size, 2, none⟩ = some (.int .i64 0) := hwC ▸ cell_alloc_l _ (hwB ▸ cell_alloc_l _ a2')
  have af : ∀ j, wC.frozen? ⟨w.heap.size, j, none⟩ = false := fun j => by
    have e1 : wC.heap[w.heap.size]? = wA.heap[w.heap.size]? := by
      rw [← hwC, ← hwB]
      exact (((Below.refl _ wA).alloc (Nat.le_refl _) _).alloc (by simp) _).block _ (by omega)
    rw [World.frozen?_of_block (a := ⟨w.heap.size, j, none⟩) e1]
    exact hwA ▸ new_free rfl _ _ _
  have b0 : wC.cell? ⟨w.heap.size + 1, 0, none⟩ = some (.int .i64 0) := hwC ▸ cell_alloc_l _ (hwB ▸ new_cell zA _ _ _)
  have bf : ∀ j, wC.frozen? ⟨w.heap.size + 1, j, none⟩ = false := fun j => by
    have e1 : wC.heap[w.heap.size + 1]? = wB.heap[w.heap.size + 1]? := by
      rw [← hwC]
      exact ((Below.refl _ wB).alloc (Nat.le_refl _) _).block _ (by omega)
    rw [World.frozen?_of_block (a := ⟨w.heap.size + 1, j, none⟩) e1]
    exact hwB ▸ new_free zA _ _ _
  have c0 : wC.cell? ⟨w.heap.size + 2, 0, none⟩ = some (.string ⟨#[]⟩) := hwC ▸ new_cell zB _ _ _
  have c1 : wC.cell? ⟨w.heap.size + 2, 1, none⟩ = some (.int .i64 0) := hwC ▸ new_cell zB _ _ _
  have c2 : wC.cell? ⟨w.heap.size + 2, 2, none⟩ = some .nilIface := hwC ▸ new_cell zB _ _ _
  have cf : ∀ j, wC.frozen? ⟨w.heap.size + 2, j, none⟩ = false := fun j => hwC ▸ new_free zB _ _ _
  have H1 := hide2 (as_wrong (w.heap.size + 1) f c l _ wC hGC b0 bf)
  clear a0' a1' a2' b0 bf
  go_enter Tryd.func8, Tryd.ntmps8
  go_upto_region 4 with (go_at_call 14; refine H1.out.mono ?_; rintro e w2 ⟨rfl, q0, hg2⟩)
  have hz2 := hg2.size
  have H2 := hide2 (as_placed (w.heap.size + 2) f c l _ _ _ w2 (far_cell hg2 (by omega) hGC) (far_cell hg2 (by omega) c0) (far_cell hg2 (by omega) c1) (far_cell hg2 (by omega) c2) (fun j => far_free hg2 (by omega) (by omega) (cf j)))
  have r0' := far_cell hg2 (by omega) a0
  have r1' := far_cell hg2 (by omega) a1
  have r2' := far_cell hg2 (by omega) a2
  have rf' := fun j => far_free hg2 (by omega) (by omega) (af j)
  have HB2 : Hid (Below w.heap.size w w2) := BC.grown hg2 (by omega) (fun q hq => by injection hq with hq; omega)
  clear c0 c1 c2 cf a0 a1 a2 af hg2 BA BB BC hwA hwB hwC
  go_wp2_with (go_at_call 14; refine H2.out.mono ?_; rintro e w3 ⟨rfl, s0, s1, hg3⟩; have q0' := far_cell hg3 (by omega) q0; have r0 := far_cell hg3 (by omega) r0'; have r1 := far_cell hg3 (by omega) r1'; have r2 := far_cell hg3 (by omega) r2'; have z0 := far_free hg3 (by omega) (by omega) (rf' 0); have z1 := far_free hg3 (by omega) (by omega) (rf' 1); have z2 := far_free hg3 (by omega) (by omega) (rf' 2); have HB3 := hide2 (HB2.out.grown hg3 (by omega) (fun q hq => by injection hq with hq; omega)); clear hg3)
  obtain ⟨e0, e1, e2⟩ := three_set r0 r1 r2 (.int .i64 (c : Int)) (.string f) (.int .i64 (l : Int))
  refine bodyPost_ret (v := .agg #[.int .i64 (c : Int), .string f, .int .i64 (l : Int)]) (by simp [results, go_sem, e0, e1, e2]) rfl ⟨rfl, ?_⟩
  exact below_far (below_far (below_far HB3.out (Nat.le_refl _) _ _) (Nat.le_refl _) _ _) (Nat.le_refl _) _ _

def faultV (c l : Nat) : Value := .agg #[.int .i64 (c : Int), .string ⟨#[]⟩, .int .i64 (l : Int)]
def entriesEnd (r : Rs) (w : World) (e : Ending) (w' : World) : Prop :=
  match r with
  | .inr L => ∃ p c, e = .returned (.tuple #[.slice p L.length c, .agg #[.int .i64 0, .string ⟨#[]⟩, .int .i64 0]]) ∧ EL w' w.heap.size (.slice p L.length c) L ∧ Below w.heap.size w w'
  | .inl (c, l) => e = .returned (.tuple #[.slice none 0 0, .agg #[.int .i64 (c : Int), .string ⟨#[]⟩, .int .i64 (l : Int)]]) ∧ Below w.heap.size w w'
theorem EL.shape {w : World} {base : Nat} {v : Value} {L : List En} (h : EL w base v L) : ∃ p c, v = .slice p L.length c ∧ L.length ≤ c ∧ c ≤ maxLen := by
  obtain ⟨Z, rfl, hZ⟩ := h
  obtain ⟨p, c, rfl, h1, h2, _⟩ := owns_shape2 hZ.own
  exact ⟨p, c, by simp, by simpa using h1, h2⟩
theorem EL.below {w w' : World} {base : Nat} {v : Value} {L : List En} (h : EL w base v L) (hb : Below w.heap.size w w') : EL w' base v L := by
  obtain ⟨Z, h1, h2⟩ := h; exact ⟨Z, h1, h2.below hb⟩
theorem EZ.far {w : World} {base R : Nat} {v : Value} {Z : List Ez} (h : EZ w base v Z) (hR : R < base) (j : Nat) (u : Value) : EZ (w.setCell ⟨R, j, none⟩ u) base v Z := h.grown (grown_set _ _ _ _) hR
theorem EL.base {w : World} {base base' : Nat} {v : Value} {L : List En} (h : EL w base v L) (hb : base' ≤ base) : EL w base' v L := by
  obtain ⟨Z, h1, h2⟩ := h
  exact ⟨Z, h1, ⟨owns_base h2.own hb, fun z hz => owns_base (h2.rows z hz) hb, h2.apart, h2.asc⟩⟩

set_option maxHeartbeats 2000000 in
/-- master.Entries -/
theorem entries_any (t : ByteArray) (w : World) (ht : t.size ≤ 1048576) (hG : GE w) : Calls Tryd.prog 4 #[.string t] w (entriesEnd (entsB t) w) := by
  obtain ⟨wA, hwA⟩ : ∃ wA, w.alloc (.cells #[.int .i64 0, .string ⟨#[]⟩, .int .i64 0] 25) = wA := ⟨_, rfl⟩
  have zA : wA.heap.size = w.heap.size + 1 := by rw [← hwA]; simp
  have BA : Below w.heap.size w wA := hwA ▸ (Below.refl _ w).alloc (Nat.le_refl _) _
  have a0 : wA.cell? ⟨w.heap.size, 0, none⟩ = some (.int .i64 0) := hwA ▸ new_cell rfl _ _ _
  have a1 : wA.cell? ⟨w.heap.size, 1, none⟩ = some (.string ⟨#[]⟩) := hwA ▸ new_cell rfl _ _ _
  have a2 : wA.cell? ⟨w.heap.size, 2, none⟩ = some (.int .i64 0) := hwA ▸ new_cell rfl _ _ _
  have af : ∀ j, wA.frozen? ⟨w.heap.size, j, none⟩ = false := fun j => hwA ▸ new_free rfl _ _ _
  have HS := hide2 (scan_any ⟨#[]⟩ t wA ht)
  cases he : entsB t with
  | inr L =>
    rw [he] at HS
    go_enter Tryd.func4, Tryd.ntmps4
    go_wp2_with (first | (go_at_call 7; refine HS.out.mono ?_; rintro e w2 ⟨v, rfl, hL2, hB2⟩; have hz2 := hB2.size; obtain ⟨p, cp, rfl, hc1, hc2⟩ := hL2.shape) | (go_at_call 8; refine (faultOf_nil _).mono ?_; rintro e w3 ⟨rfl, hB3⟩; have hB := hB2.trans (hB3.mono hz2); have r0 := (hB.cell (p := ⟨w.heap.size, 0, none⟩) (by show w.heap.size < _; omega)).trans a0; have r1 := (hB.cell (p := ⟨w.heap.size, 1, none⟩) (by show w.heap.size < _; omega)).trans a1; have r2 := (hB.cell (p := ⟨w.heap.size, 2, none⟩) (by show w.heap.size < _; omega)).trans a2; have z0 := (World.frozen?_of_block (a := ⟨w.heap.size, 0, none⟩) (hB.block w.heap.size (by omega))).trans (af 0); have z1 := (World.frozen?_of_block (a := ⟨w.heap.size, 1, none⟩) (hB.block w.heap.size (by omega))).trans (af 1); have z2 := (World.frozen?_of_block (a := ⟨w.heap.size, 2, none⟩) (hB.block w.heap.size (by omega))).trans (af 2)))
    obtain ⟨e0, e1, e2⟩ := three_set r0 r1 r2 (.int .i64 0) (.string ⟨#[]⟩) (.int .i64 0)
    refine bodyPost_ret (v := .tuple #[.slice p L.length cp, .agg #[.int .i64 0, .string ⟨#[]⟩, .int .i64 0]]) (by simp [results, go_sem, e0, e1, e2]) rfl ⟨p, cp, rfl, ?_, ?_⟩
    · obtain ⟨Z, hZ1, hZ2⟩ := hL2.below hB3
      exact EL.base ⟨Z, hZ1, ((hZ2.far (by omega) _ _).far (by omega) _ _).far (by omega) _ _⟩ (by omega)
    · exact below_far (below_far (below_far (BA.trans (hB.mono (by omega))) (Nat.le_refl _) _ _) (Nat.le_refl _) _ _) (Nat.le_refl _) _ _
  | inl zz =>
    obtain ⟨c, l⟩ := zz
    rw [he] at HS
    have HF := hide2 (fun (w : World) (h : GE w) => faultOf_err ⟨#[]⟩ c l w h)
    have hGA := hG.below BA
    go_enter Tryd.func4, Tryd.ntmps4
    go_wp2_with (first | (go_at_call 7; refine HS.out.mono ?_; rintro e w2 ⟨rfl, hB2⟩; have hz2 := hB2.size; have hG2 := hGA.below hB2) | (go_at_call 8; refine (HF.out _ hG2).mono ?_; rintro e w3 ⟨rfl, hB3⟩; have hB := hB2.trans (hB3.mono hz2); have r0 := (hB.cell (p := ⟨w.heap.size, 0, none⟩) (by show w.heap.size < _; omega)).trans a0; have r1 := (hB.cell (p := ⟨w.heap.size, 1, none⟩) (by show w.heap.size < _; omega)).trans a1; have r2 := (hB.cell (p := ⟨w.heap.size, 2, none⟩) (by show w.heap.size < _; omega)).trans a2; have z0 := (World.frozen?_of_block (a := ⟨w.heap.size, 0, none⟩) (hB.block w.heap.size (by omega))).trans (af 0); have z1 := (World.frozen?_of_block (a := ⟨w.heap.size, 1, none⟩) (hB.block w.heap.size (by omega))).trans (af 1); have z2 := (World.frozen?_of_block (a := ⟨w.heap.size, 2, none⟩) (hB.block w.heap.size (by omega))).trans (af 2)))
    obtain ⟨e0, e1, e2⟩ := three_set r0 r1 r2 (.int .i64 (c : Int)) (.string ⟨#[]⟩) (.int .i64 (l : Int))
    refine bodyPost_ret (v := .tuple #[.slice none 0 0, .agg #[.int .i64 (c : Int), .string ⟨#[]⟩, .int .i64 (l : Int)]]) (by simp [results, go_sem, e0, e1, e2]) rfl ⟨rfl, ?_⟩
    exact below_far (below_far (below_far (BA.trans (hB.mono (by omega))) (Nat.le_refl _) _ _) (Nat.le_refl _) _ _) (Nat.le_refl _) _ _
end Go.Proofs.YtclonjmhbgllkaaDoor
