import Derived.Test.YthabenjghhmicaaGreatZk4
import Derived.Test.YthabenjghhmicaaGreatZgpG
import Derived.Test.YthabenjghhmicaaGreatOw1G
/-
  What ZoneTurned's turns make of a list of records, plainly. (The verifier's own text.)
-/
namespace Go.Proofs.YthabenjghhmicaaGreat
set_option linter.unusedVariables false
set_option linter.unusedSimpArgs false
open Go.RowKit Go.Shelf Go.Maps Go.Proofs.YthabenjghhmicaaGreat.Nm Go.Proofs.YthabenjghhmicaaGreat.Zs

/-- the first record and the k-th change places -/
def swL (L : List Rn) (k : Nat) : List Rn := (L.set 0 (rAt L k)).set k (rAt L 0)
/-- one turn -/
def tuL (L : List Rn) (x : Int) : List Rn := if 1 ≤ x ∧ x < (L.length : Int) then swL L x.toNat else L
/-- all turns -/
def tusL (L : List Rn) (xs : List Int) : List Rn := xs.foldl tuL L
theorem swL_len (L : List Rn) (k : Nat) : (swL L k).length = L.length := by simp [swL]
theorem tuL_len (L : List Rn) (x : Int) : (tuL L x).length = L.length := by
  unfold tuL
  split
  · exact swL_len _ _
  · rfl
theorem swL_perm {L : List Rn} {k : Nat} (h : k < L.length) : (swL L k).Perm L := by
  have h0 : 0 < L.length := by omega
  unfold swL
  rw [← rAt_get h, ← rAt_get h0]
  exact List.set_set_perm h0 h
theorem tuL_perm (L : List Rn) (x : Int) : (tuL L x).Perm L := by
  unfold tuL
  split
  · rename_i h
    exact swL_perm (by omega)
  · exact List.Perm.refl _
theorem tusL_perm (xs : List Int) : ∀ (L : List Rn), (tusL L xs).Perm L := by
  induction xs with
  | nil => intro L; exact List.Perm.refl _
  | cons x xs ih => intro L; exact (ih (tuL L x)).trans (tuL_perm L x)
theorem tusL_len (L : List Rn) (xs : List Int) : (tusL L xs).length = L.length := (tusL_perm xs L).length_eq
theorem tusL_snoc (L : List Rn) (xs : List Int) (x : Int) : tusL L (xs ++ [x]) = tuL (tusL L xs) x := by simp [tusL]
theorem tusL_take (L : List Rn) (xs : List Int) (k : Nat) (h : k < xs.length) : tusL L (xs.take (k + 1)) = tuL (tusL L (xs.take k)) xs[k] := by
  rw [List.take_succ_eq_append_getElem h, tusL_snoc]
/-- what is small stays small -/
theorem tusL_small {L : List Rn} (xs : List Int) (h : ∀ j, j < L.length → rSm (rAt L j)) : ∀ j, j < (tusL L xs).length → rSm (rAt (tusL L xs) j) := by
  intro j hj
  have hm := (tusL_perm xs L).mem_iff.1 (rAt_mem hj)
  obtain ⟨i, hi, e⟩ := List.getElem_of_mem hm
  rw [← e, rAt_get hi]
  exact h i hi
/-- both lists make the same code -/
theorem tusL_code (apex : ByteArray) (L : List Rn) (xs : List Int) : (mkC apex (tusL L xs)).2 = (mkC apex L).2 := mkC_perm (tusL_perm xs L)
end Go.Proofs.YthabenjghhmicaaGreat

/-
  gazetteersame.Texts at two lists that are the same. (The verifier's own text.)
-/
namespace Go.Proofs.YthabenjghhmicaaGreat
set_option linter.unusedVariables false
set_option linter.unusedSimpArgs false
open Go.RowKit Go.Shelf Go.Maps Go.Proofs.YthabenjghhmicaaGreat.Nm Go.Proofs.YthabenjghhmicaaGreat.Zs

set_option maxRecDepth 100000 in
set_option maxHeartbeats 1000000 in
theorem sTexts_same (px py : Option Addr) (cx cy : Nat) (l : List ByteArray) (w : World) (hx : StrsAt w px l) (hy : StrsAt w py l) (hll : l.length ≤ 9223372036854775807) :
    Calls Tryz.prog 19 #[.slice px l.length cx, .slice py l.length cy] w fun e w' => e = .returned (.bool true) ∧ Below w.heap.size w w' := by
  go_enter Tryz.func19, Tryz.ntmps19
  go_wp2
  go_loopw [13] (fun i wr => ∃ k : Nat, i = .int .i64 k ∧ k ≤ l.length ∧ Below w.heap.size w wr) (fun i _ => l.length - (intOf i).toNat)
  case atStart => exact ⟨0, rfl, Nat.zero_le _, Below.refl _ _⟩
  case round =>
    obtain ⟨k, rfl, hk, hB⟩ := hrel
    by_cases hlt : k < l.length
    · obtain ⟨gx, ox, rfl, hgx, hcx0⟩ := hx k hlt
      obtain ⟨gy, oy, rfl, hgy, hcy0⟩ := hy k hlt
      have hcx := (hB.cell (p := ⟨gx, ox + k, none⟩) hgx).trans hcx0
      have hcy := (hB.cell (p := ⟨gy, oy + k, none⟩) hgy).trans hcy0
      generalize l[k] = X at *
      clear hcx0 hcy0
      go_wp2
      go_quiet (fail)
      go_wp2
      all_goals
        go_roundw
        case rel => exact ⟨k + 1, by go_num, by omega, below_drewN hB _⟩
        case measure => simp [intOf]; omega
    · go_wp2
      go_ret
      exact ⟨rfl, hB⟩
end Go.Proofs.YthabenjghhmicaaGreat

/-
  sameFound of what both have found. (The verifier's own text.)
-/
namespace Go.Proofs.YthabenjghhmicaaGreat
set_option linter.unusedVariables false
set_option linter.unusedSimpArgs false
open Go.RowKit Go.Shelf Go.Maps Go.Proofs.YthabenjghhmicaaGreat.Nm Go.Proofs.YthabenjghhmicaaGreat.Zs

theorem two_boxes (W : World) (A B : Array Value) (T : TypeId) : Bx ((W.alloc (.cells A T)).alloc (.cells B T)) W.heap.size A T ∧ Bx ((W.alloc (.cells A T)).alloc (.cells B T)) (W.heap.size + 1) B T ∧ Below W.heap.size W ((W.alloc (.cells A T)).alloc (.cells B T)) := by
  have hb : Below W.heap.size W (W.alloc (.cells A T)) := (Below.refl _ W).alloc (Nat.le_refl _) _
  have h1 : Bx (W.alloc (.cells A T)) W.heap.size A T := World.alloc_heap_new W _
  have hs : (W.alloc (.cells A T)).heap.size = W.heap.size + 1 := by simp
  have h2 : Bx ((W.alloc (.cells A T)).alloc (.cells B T)) (W.alloc (.cells A T)).heap.size B T := World.alloc_heap_new _ _
  rw [hs] at h2
  exact ⟨h1.below ((Below.refl _ _).alloc (Nat.le_refl _) _) h1.lt, h2, hb.alloc hb.size _⟩
set_option maxRecDepth 100000 in
set_option maxHeartbeats 4000000 in
/-- sameFound of what both have found -/
theorem sameFound_any (F : Fd) (p1 p2 : Option Addr) (c1 c2 : Nat) (w : World) (h1 : RsAt w p1 F.r) (h2 : RsAt w p2 F.r) (hl : F.r.length ≤ 1048576) :
    Calls Tryz.prog 13 #[.agg #[.int .i64 F.k, .string F.o, .string F.e, .bool F.w, .slice p1 F.r.length c1], .agg #[.int .i64 F.k, .string F.o, .string F.e, .bool F.w, .slice p2 F.r.length c2]] w fun e w' => e = .returned (.bool true) ∧ Below w.heap.size w w' := by
  obtain ⟨k, o, e, b, r⟩ := F
  simp only at h1 h2 hl ⊢
  obtain ⟨x1, x2, hbl⟩ := two_boxes w #[.int .i64 k, .string o, .string e, .bool b, .slice p1 r.length c1] #[.int .i64 k, .string o, .string e, .bool b, .slice p2 r.length c2] 34
  obtain ⟨wb, hwb⟩ : ∃ wb, ((w.alloc (.cells #[.int .i64 k, .string o, .string e, .bool b, .slice p1 r.length c1] 34)).alloc (.cells #[.int .i64 k, .string o, .string e, .bool b, .slice p2 r.length c2] 34)) = wb := ⟨_, rfl⟩
  rw [hwb] at x1 x2 hbl
  obtain ⟨a0, a1, a2, a3, a4, _⟩ := bx5_cells x1
  obtain ⟨b0, b1, b2, b3, b4, _⟩ := bx5_cells x2
  have HS := hide' (sameRecords2 p1 p2 r.length c1 c2 r wb (rs_stay h1 hbl) (rs_stay h2 hbl) rfl (by omega))
  have HB := hide' hbl
  clear h1 h2 x1 x2 hbl
  go_enter Tryz.func13, Tryz.ntmps13
  go_wp2_with (go_at_call 16; refine HS.out.mono ?_; rintro e w7 ⟨rfl, m7, hw7⟩; have hq7 : Below wb.heap.size wb w7 := hw7 ▸ ⟨rfl, rfl, rfl, Nat.le_refl _, fun _ _ => rfl⟩; have HB7 := hide' (bstep HB.out hq7 HB.out.size); clear hw7 hq7)
  go_ret
  exact ⟨rfl, HB7.out⟩
end Go.Proofs.YthabenjghhmicaaGreat
