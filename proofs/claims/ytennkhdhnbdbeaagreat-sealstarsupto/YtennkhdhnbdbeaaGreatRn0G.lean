import Derived.Test.YtennkhdhnbdbeaaGreatLowG
import Derived.Test.YtennkhdhnbdbeaaGreatGr0G
/-
  Questions and records in memory. (The verifier's own text; it stood in Wc5.)
-/
namespace Go.Proofs.YtennkhdhnbdbeaaGreat
set_option linter.unusedVariables false
open Go.RowKit Go.Shelf Go.Proofs.YtennkhdhnbdbeaaGreat.Nm

/-- a question: its name, type and class -/
structure Qn where
  n : ByteArray
  t : Int
  c : Int
/-- questions in memory -/
def QsAt (w : World) (p : Option Addr) (l : List Qn) : Prop := ∀ k, (hk : k < l.length) → ∃ g off, p = some ⟨g, off, none⟩ ∧ g < w.heap.size ∧ w.cell? ⟨g, off + k * 3, none⟩ = some (.string l[k].n) ∧ w.cell? ⟨g, off + k * 3 + 1, none⟩ = some (.int .i64 l[k].t) ∧ w.cell? ⟨g, off + k * 3 + 2, none⟩ = some (.int .i64 l[k].c)
/-- a record -/
structure Rn where
  o : ByteArray
  t : Int
  c : Int
  l : Int
  d : ByteArray
/-- records in memory -/
def RsAt (w : World) (p : Option Addr) (l : List Rn) : Prop := ∀ k, (hk : k < l.length) → ∃ g off, p = some ⟨g, off, none⟩ ∧ g < w.heap.size ∧ w.cell? ⟨g, off + k * 5, none⟩ = some (.string l[k].o) ∧ w.cell? ⟨g, off + k * 5 + 1, none⟩ = some (.int .i64 l[k].t) ∧ w.cell? ⟨g, off + k * 5 + 2, none⟩ = some (.int .i64 l[k].c) ∧ w.cell? ⟨g, off + k * 5 + 3, none⟩ = some (.int .i64 l[k].l) ∧ w.cell? ⟨g, off + k * 5 + 4, none⟩ = some (.string l[k].d)
end Go.Proofs.YtennkhdhnbdbeaaGreat

namespace Go.Proofs.YtennkhdhnbdbeaaGreat
set_option linter.unusedVariables false
open Go.RowKit Go.Shelf Go.Proofs.YtennkhdhnbdbeaaGreat.Nm

set_option maxRecDepth 100000 in
set_option maxHeartbeats 1000000 in
/-- isOneAge's function -/
theorem otherAge_any (o d : ByteArray) (t c l l0 : Int) (B g off n cap : Nat) (w : World) (hB : B < w.heap.size) (hc : w.cell? ⟨B, 0, none⟩ = some (.slice (some ⟨g, off, none⟩) n cap)) (hn : 0 < n) (hg : g < w.heap.size) (h3 : w.cell? ⟨g, off + 3, none⟩ = some (.int .i64 l0)) :
    Calls Tryz.prog 64 #[.agg #[.string o, .int .i64 t, .int .i64 c, .int .i64 l, .string d], .pointer (some ⟨B, 0, none⟩)] w fun r w' => r = .returned (.bool (l != l0)) ∧ Below w.heap.size w w' := by
  obtain ⟨W, hW⟩ : ∃ W, w.alloc (.cells #[.string o, .int .i64 t, .int .i64 c, .int .i64 l, .string d] 27) = W := ⟨_, rfl⟩
  have h0 : Bx (w.alloc (.cells #[.string o, .int .i64 t, .int .i64 c, .int .i64 l, .string d] 27)) w.heap.size #[.string o, .int .i64 t, .int .i64 c, .int .i64 l, .string d] 27 := World.alloc_heap_new w _
  have HB : Hid (Below w.heap.size w W) := by rw [← hW]; exact (Below.refl _ _).alloc (Nat.le_refl _) _
  have hc' : W.cell? ⟨B, 0, none⟩ = some (.slice (some ⟨g, off, none⟩) n cap) := by rw [← hW]; exact cell_alloc_l _ hc
  have h3' : W.cell? ⟨g, off + 3, none⟩ = some (.int .i64 l0) := by rw [← hW]; exact cell_alloc_l _ h3
  rw [hW] at h0
  have k3 : W.cell? ⟨w.heap.size, 3, none⟩ = some (.int .i64 l) := h0.cell rfl
  clear h0 hc h3
  go_enter Tryz.func64, Tryz.ntmps64
  go_wp2_with fail
  try rw [hW]
  clear hW
  go_region
  go_wp2_with fail
  go_ret
  exact ⟨rfl, by first | exact HB.out | exact HB.out.drew⟩

/-- a record as it is handed over -/
def recA (r : Rn) : Value := .agg #[.string r.o, .int .i64 r.t, .int .i64 r.c, .int .i64 r.l, .string r.d]
theorem rsAt_below7 {w w' : World} {p : Option Addr} {l : List Rn} (h : RsAt w p l) (hb : Below w.heap.size w w') : RsAt w' p l := fun k hk => by
  obtain ⟨g, off, hp, hg, h0, h1, h2, h3, h4⟩ := h k hk
  exact ⟨g, off, hp, Nat.lt_of_lt_of_le hg hb.size, (hb.cell (p := ⟨g, off + k * 5, none⟩) hg).trans h0, (hb.cell (p := ⟨g, off + k * 5 + 1, none⟩) hg).trans h1, (hb.cell (p := ⟨g, off + k * 5 + 2, none⟩) hg).trans h2, (hb.cell (p := ⟨g, off + k * 5 + 3, none⟩) hg).trans h3, (hb.cell (p := ⟨g, off + k * 5 + 4, none⟩) hg).trans h4⟩

set_option maxRecDepth 100000 in
set_option maxHeartbeats 1000000 in
/-- slices.IndexFunc, with isOneAge's function -/
theorem indexAge_any (L : List Rn) (p : Option Addr) (cap : Nat) (cv : Value) (P : Rn → Bool) (w : World) (hL : L.length ≤ 4294967296) (hat : RsAt w p L)
    (hf : ∀ (k : Nat) (hk : k < L.length) (W : World), Below w.heap.size w W → Calls Tryz.prog 64 #[recA L[k], cv] W fun r w' => r = .returned (.bool (P L[k])) ∧ Below W.heap.size W w') :
    Calls Tryz.prog 94 #[.slice p L.length cap, .func (Fn.func 64) #[] #[cv]] w fun r w' => (∃ i : Int, r = .returned (.int .i64 i) ∧ (decide (0 ≤ i)) = L.any P) ∧ Below w.heap.size w w' := by
  have HF := hide' hf
  have HA := hide' hat
  clear hf hat
  go_enter Tryz.func94, Tryz.ntmps94
  go_wp2_with fail
  go_loopw [8] (fun i wr => ∃ k : Nat, i = .int .i64 (k : Int) ∧ k ≤ L.length ∧ Hid (∀ j (hj : j < L.length), j < k → P L[j] = false) ∧ Below w.heap.size w wr) (fun i _ => L.length - (intOf i).toNat)
  case atStart => exact ⟨0, rfl, Nat.zero_le _, (fun j _ h => absurd h (Nat.not_lt_zero _)), Below.refl _ _⟩
  case round =>
    obtain ⟨k, rfl, hk, HN, hBr⟩ := hrel
    have HBr := hide' hBr
    by_cases hlt : k < L.length
    · obtain ⟨g, off, rfl, hg, e0, e1, e2, e3, e4⟩ := rsAt_below7 HA.out hBr k hlt
      have HC := hide' (HF.out k hlt wr hBr)
      obtain ⟨x, hx⟩ : ∃ x, L[k] = x := ⟨_, rfl⟩
      have HX := hide' hx
      rw [hx] at HC e0 e1 e2 e3 e4
      clear hx hBr
      cases hp : P x with
      | true =>
        rw [hp] at HC
        have HP := hide' hp
        clear hp
        go_wp2_with (go_at_call 64; refine HC.out.mono ?_; rintro r w2 ⟨rfl, hB2⟩)
        go_ret
        refine ⟨⟨(k : Int), rfl, ?_⟩, bstep HBr.out hB2 HBr.out.size⟩
        rw [decide_eq_true (by omega), eq_comm, List.any_eq_true]
        exact ⟨x, HX.out ▸ List.getElem_mem hlt, HP.out⟩
      | false =>
        rw [hp] at HC
        have HP := hide' hp
        clear hp
        go_wp2_with (go_at_call 64; refine HC.out.mono ?_; rintro r w2 ⟨rfl, hB2⟩)
        refine ⟨⟨k + 1, by go_num, by omega, ?_, bstep HBr.out hB2 HBr.out.size⟩, by simp [intOf]; omega⟩
        intro j hj hjk
        rcases Nat.lt_or_ge j k with h | h
        · exact HN.out j hj h
        · obtain rfl : j = k := by omega
          rw [HX.out]; exact HP.out
    · obtain rfl : k = L.length := by omega
      go_wp2_with fail
      go_ret
      refine ⟨⟨-1, rfl, ?_⟩, HBr.out⟩
      rw [decide_eq_false (by omega), eq_comm, List.any_eq_false]
      intro x hx
      obtain ⟨j, hj, rfl⟩ := List.getElem_of_mem hx
      rw [HN.out j hj hj]; simp

set_option maxRecDepth 100000 in
set_option maxHeartbeats 1000000 in
/-- slices.ContainsFunc, with isOneAge's function -/
theorem containsAge_any (L : List Rn) (p : Option Addr) (cap : Nat) (cv : Value) (P : Rn → Bool) (w : World) (hL : L.length ≤ 4294967296) (hat : RsAt w p L)
    (hf : ∀ (k : Nat) (hk : k < L.length) (W : World), Below w.heap.size w W → Calls Tryz.prog 64 #[recA L[k], cv] W fun r w' => r = .returned (.bool (P L[k])) ∧ Below W.heap.size W w') :
    Calls Tryz.prog 65 #[.slice p L.length cap, .func (Fn.func 64) #[] #[cv]] w fun r w' => r = .returned (.bool (L.any P)) ∧ Below w.heap.size w w' := by
  have HI := hide' (indexAge_any L p cap cv P w hL hat hf)
  clear hf hat
  go_enter Tryz.func65, Tryz.ntmps65
  go_wp2_with (go_at_call 94; refine HI.out.mono ?_; rintro r w1 ⟨⟨i, rfl, hi⟩, hB1⟩; have HI2 := hide' hi; clear hi)
  go_ret
  exact ⟨by rw [← HI2.out]; rfl, hB1⟩

/-- is there one age? -/
def oneAge (L : List Rn) : Bool := !(L.any fun r => r.l != ((L.head?.map (·.l)).getD 0))
set_option maxRecDepth 100000 in
set_option maxHeartbeats 1000000 in
/-- seal.isOneAge -/
theorem isOneAge_any (L : List Rn) (p : Option Addr) (cap : Nat) (w : World) (hL : L.length ≤ 4294967296) (hat : RsAt w p L) :
    Calls Tryz.prog 23 #[.slice p L.length cap] w fun r w' => r = .returned (.bool (oneAge L)) ∧ Below w.heap.size w w' := by
  obtain ⟨W, hW⟩ : ∃ W, w.alloc (.cells #[.slice p L.length cap] 24) = W := ⟨_, rfl⟩
  have HB : Hid (Below w.heap.size w W) := by rw [← hW]; exact (Below.refl _ _).alloc (Nat.le_refl _) _
  have h0 : Bx (w.alloc (.cells #[.slice p L.length cap] 24)) w.heap.size #[.slice p L.length cap] 24 := World.alloc_heap_new w _
  rw [hW] at h0
  have hz : W.heap.size = w.heap.size + 1 := by rw [← hW, World.size_alloc]
  have hatW : RsAt W p L := rsAt_below7 hat HB.out
  have k0 : W.cell? ⟨w.heap.size, 0, none⟩ = some (.slice p L.length cap) := h0.cell rfl
  have HC := hide' (containsAge_any L p cap (.pointer (some ⟨w.heap.size, 0, none⟩)) (fun r => r.l != ((L.head?.map (·.l)).getD 0)) W hL hatW (fun k hk W' hb => by
    obtain ⟨g, off, hp, hg, _, _, _, e3, _⟩ := hatW 0 (by omega)
    have c1 : W'.cell? ⟨w.heap.size, 0, none⟩ = some (.slice (some ⟨g, off, none⟩) L.length cap) := by rw [hb.cell (p := ⟨w.heap.size, 0, none⟩) h0.lt, k0, hp]
    have c3 : W'.cell? ⟨g, off + 3, none⟩ = some (.int .i64 L[0].l) := by rw [hb.cell (p := ⟨g, off + 3, none⟩) hg]; simpa using e3
    have hh : (L.head?.map (·.l)).getD 0 = L[0].l := by
      cases L with
      | nil => simp at hk
      | cons y l => rfl
    rw [hh]
    exact otherAge_any _ _ _ _ _ _ w.heap.size g off L.length cap W' (Nat.lt_of_lt_of_le h0.lt hb.size) c1 (by omega) (Nat.lt_of_lt_of_le hg hb.size) c3))
  have HO : Hid (oneAge L = !(L.any fun r => r.l != ((L.head?.map (·.l)).getD 0))) := rfl
  generalize (L.any fun r => r.l != ((L.head?.map (·.l)).getD 0)) = bb at *
  rw [HO.out]
  clear h0 hatW hat HO
  go_enter Tryz.func23, Tryz.ntmps23
  go_wp2_with (go_at_call 65; refine HC.out.mono ?_; rintro r w1 ⟨rfl, hB1⟩)
  go_ret
  exact ⟨rfl, bstep HB.out hB1 HB.out.size⟩
end Go.Proofs.YtennkhdhnbdbeaaGreat
