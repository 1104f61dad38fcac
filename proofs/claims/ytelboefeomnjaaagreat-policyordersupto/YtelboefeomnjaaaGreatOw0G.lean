import Derived.Test.YtelboefeomnjaaaGreatRn0G
import Derived.Test.YtelboefeomnjaaaGreatAp1G
import Derived.Test.YtelboefeomnjaaaGreatRp3G
import Derived.Test.YtelboefeomnjaaaGreatFt1G
import Derived.Laws.AppendOwnNone
import Derived.Lib.SliceRun
import Derived.Deep.AppendLies
import Derived.Deep.RegionHeld3
namespace Go.Proofs.YtelboefeomnjaaaGreat
set_option linter.unusedVariables false
open Go.RowKit Go.Shelf Go.Proofs.YtelboefeomnjaaaGreat.Nm

/-- a row whose block stays -/
theorem own_blk {w w' : World} {n e size k : Nat} {v : Value} {xs : List Value} (h : w.ownsRow n e size v k xs) (hb : ∀ g, v.ownBlock = some g → w'.heap[g]? = w.heap[g]?) : w'.ownsRow n e size v k xs := by
  obtain ⟨hl, (h0 | ⟨g, cap, cur, rfl, hg, hc, rest⟩)⟩ := h
  · exact ⟨hl, .inl h0⟩
  · exact ⟨hl, .inr ⟨g, cap, cur, rfl, hg, (hb g rfl).trans hc, rest⟩⟩
end Go.Proofs.YtelboefeomnjaaaGreat

/-
  A row of one's own: what Ow0 has, beside the reference's data. (The verifier's own text.)
-/

/-
  gazetteersame's Spare, Twin. (The verifier's own text.)
-/
namespace Go.Proofs.YtelboefeomnjaaaGreat
set_option linter.unusedVariables false
open Go.RowKit Go.Shelf Go.Maps Go.Proofs.YtelboefeomnjaaaGreat.Nm

def spT : ByteArray := ⟨#[115, 112, 97, 114, 101]⟩
/-- the record that no list has -/
def spR : Rn := ⟨spT, -77, -77, -77, spT⟩
theorem own_below {w w' : World} {b e s n : Nat} {v : Value} {xs : List Value} (h : w.ownsRow b e s v n xs) (hb : Below w.heap.size w w') : w'.ownsRow b e s v n xs := own_blk h (fun g eg => hb.block g (h.lt g eg).2)

theorem own_cap {w : World} {b e s n m c : Nat} {p : Option Addr} {xs : List Value} (h : w.ownsRow b e s (.slice p m c) n xs) : n ≤ c ∧ c ≤ maxLen := by
  obtain ⟨_, _, hsh, h1, h2, _⟩ := own_shape h
  injection hsh with _ _ hsh
  subst hsh
  exact ⟨h1, h2⟩
set_option maxRecDepth 100000 in
set_option maxHeartbeats 1000000 in
/-- gazetteersame.Spare -/
theorem spare_any (w : World) : Calls Tryz.prog 17 #[] w fun e w' => e = .returned (.agg #[.string spT, .int .i64 (-77), .int .i64 (-77), .int .i64 (-77), .string spT]) ∧ Below w.heap.size w w' := by
  have hB0 : ∀ o : Obj, Below w.heap.size w (w.alloc o) := fun o => (Below.refl _ w).alloc (Nat.le_refl _) o
  go_enter Tryz.func17, Tryz.ntmps17
  go_wp2
  refine bodyPost_ret (v := .agg #[.string spT, .int .i64 (-77), .int .i64 (-77), .int .i64 (-77), .string spT]) (by simp [results, go_sem]; rfl) rfl ⟨rfl, hB0 _⟩

set_option maxRecDepth 100000 in
set_option maxHeartbeats 2000000 in
/-- gazetteersame.Twin -/
theorem twin_any (L : List Rn) (p : Option Addr) (cap : Nat) (w : World) (hL : L.length ≤ 1048576) (hat : RsAt w p L) (hn : p = none → cap = 0) :
    Calls Tryz.prog 5 #[.slice p L.length cap] w fun r w' => ∃ g c, r = .returned (.slice (some ⟨g, 0, none⟩) L.length c) ∧ w'.ownsRow w.heap.size 42 5 (.slice (some ⟨g, 0, none⟩) (L.length + 2) c) (L.length + 2) (rce5 (L ++ [spR, spR])) ∧ Below w.heap.size w w' := by
  obtain ⟨i0, hi, hz0, hz1, hz2⟩ := info_parts infoRM
  have HI := hide' (And.intro hi (And.intro hz0 (And.intro hz1 hz2)))
  clear hi hz0 hz1 hz2
  have T1 : Hid True := trivial
  cases p with
  | none =>
    obtain rfl : L = [] := by
      cases L with
      | nil => rfl
      | cons y l => obtain ⟨g, off, hp, _⟩ := hat 0 (by simp); cases hp
    obtain rfl := hn rfl
    go_enter Tryz.func5, Tryz.ntmps5
    go_wp2_with (first
      | (at_builtin; have _ := T1; clear T1; refine wpList_append_own_none rfl _ _ 22 rfl w.heap.size 42 i0 5 Tryz.underlying22 HI.out.1 (.slice none 0 0) 0 [] rfl (World.ownsRow_nil _ _ _ _) rfl ?_; have T2 : Hid True := trivial)
      | (go_at_call 17; have _ := T2; clear T2; refine (spare_any _).mono ?_; rintro e w1 ⟨rfl, hB1⟩; have HB1 := hide' hB1; clear hB1; have T3 : Hid True := trivial)
      | (go_at_call 17; have _ := T3; clear T3; refine (spare_any _).mono ?_; rintro e w2 ⟨rfl, hB2⟩; have HB2 := hide' (bstep HB1.out hB2 HB1.out.size); clear hB2; have T4 : Hid True := trivial)
      | (at_builtin; have _ := T4; clear T4; refine wpList_append_own _ rfl _ _ 22 rfl w.heap.size 42 i0 (.agg #[.string .empty, .int .i64 0, .int .i64 0, .int .i64 0, .string .empty]) 5 56 Tryz.underlying22 HI.out.1 HI.out.2.1 HI.out.2.2.1 HI.out.2.2.2 rfl (by decide) (.slice none 0 0) 0 [] rfl (World.ownsRow_nil _ _ _ _) ⟨_, 0, none⟩ 2 2 (rce5 [spR, spR]) rfl rfl (fun j u h => World.news_of_block (World.alloc_heap_new w2 (.cells #[.string spT, .int .i64 (-77), .int .i64 (-77), .int .i64 (-77), .string spT, .string spT, .int .i64 (-77), .int .i64 (-77), .int .i64 (-77), .string spT] 42)) j u h) (rce5_one _) (by unfold maxLen; omega) (by omega) (HB2.out.alloc HB2.out.size (.cells #[.string spT, .int .i64 (-77), .int .i64 (-77), .int .i64 (-77), .string spT, .string spT, .int .i64 (-77), .int .i64 (-77), .int .i64 (-77), .string spT] 42)).size ?_; intro v5 w5 hown5 hgrow5 _; obtain ⟨g5, c5, rfl⟩ := owns_some hown5 (by omega); have HO5 := hide' hown5; have HB5 := hide' ((HB2.out.alloc HB2.out.size (.cells #[.string spT, .int .i64 (-77), .int .i64 (-77), .int .i64 (-77), .string spT, .string spT, .int .i64 (-77), .int .i64 (-77), .int .i64 (-77), .string spT] 42)).grown hgrow5 (HB2.out.alloc HB2.out.size (.cells #[.string spT, .int .i64 (-77), .int .i64 (-77), .int .i64 (-77), .string spT, .string spT, .int .i64 (-77), .int .i64 (-77), .int .i64 (-77), .string spT] 42)).size (fun q e => by cases e)); have hc5 := own_cap hown5; clear hown5 hgrow5))
    go_ret
    exact ⟨g5, c5, rfl, HO5.out, HB5.out⟩
  | some ad =>
    have HA := hide' (fun j u => rs_newsM (hat : RsAt w (some ad) L) j u)
    have HRC : Hid (rce5 (L ++ [spR, spR]) = rce5 L ++ rce5 [spR, spR]) := by unfold Hid rce5; rw [List.flatMap_append]
    clear hat
    go_enter Tryz.func5, Tryz.ntmps5
    go_wp2_with (first
      | (at_builtin; have _ := T1; clear T1; refine wpList_append_own _ rfl _ _ 22 rfl w.heap.size 42 i0 (.agg #[.string .empty, .int .i64 0, .int .i64 0, .int .i64 0, .string .empty]) 5 56 Tryz.underlying22 HI.out.1 HI.out.2.1 HI.out.2.2.1 HI.out.2.2.2 rfl (by decide) (.slice none 0 0) 0 [] rfl (World.ownsRow_nil _ _ _ _) ad L.length cap (rce5 L) rfl (rce5_len L) HA.out (rce5_one L) (by unfold maxLen; omega) (by omega) (Nat.le_refl _) ?_; intro v0 w0 ho0 hg0 _; rw [Nat.zero_add, List.nil_append] at ho0; have HO0 := hide' ho0; have HB0 := hide' ((Below.refl w.heap.size w).grown hg0 (Nat.le_refl _) (fun q e => by cases e)); clear ho0 hg0; have T2 : Hid True := trivial)
      | (go_at_call 17; have _ := T2; clear T2; refine (spare_any _).mono ?_; rintro e w1 ⟨rfl, hB1⟩; have HO1 := hide' (own_below HO0.out hB1); have HB1 := hide' (bstep HB0.out hB1 HB0.out.size); clear hB1; have T3 : Hid True := trivial)
      | (go_at_call 17; have _ := T3; clear T3; refine (spare_any _).mono ?_; rintro e w2 ⟨rfl, hB2⟩; have HO2 := hide' (own_below HO1.out hB2); have HB2 := hide' (bstep HB1.out hB2 HB1.out.size); clear hB2; have T4 : Hid True := trivial)
      | (at_builtin; have _ := T4; clear T4; refine wpList_append_own _ rfl _ _ 22 rfl w.heap.size 42 i0 (.agg #[.string .empty, .int .i64 0, .int .i64 0, .int .i64 0, .string .empty]) 5 56 Tryz.underlying22 HI.out.1 HI.out.2.1 HI.out.2.2.1 HI.out.2.2.2 rfl (by decide) v0 L.length (rce5 L) rfl (HO2.out.alloc _) ⟨_, 0, none⟩ 2 2 (rce5 [spR, spR]) rfl rfl (fun j u h => World.news_of_block (World.alloc_heap_new w2 (.cells #[.string spT, .int .i64 (-77), .int .i64 (-77), .int .i64 (-77), .string spT, .string spT, .int .i64 (-77), .int .i64 (-77), .int .i64 (-77), .string spT] 42)) j u h) (rce5_one _) (by unfold maxLen; omega) (by omega) (HB2.out.alloc HB2.out.size (.cells #[.string spT, .int .i64 (-77), .int .i64 (-77), .int .i64 (-77), .string spT, .string spT, .int .i64 (-77), .int .i64 (-77), .int .i64 (-77), .string spT] 42)).size ?_; intro v5 w5 hown5 hgrow5 _; obtain ⟨g5, c5, rfl⟩ := owns_some hown5 (by omega); have HO5 := hide' hown5; have HB5 := hide' ((HB2.out.alloc HB2.out.size (.cells #[.string spT, .int .i64 (-77), .int .i64 (-77), .int .i64 (-77), .string spT, .string spT, .int .i64 (-77), .int .i64 (-77), .int .i64 (-77), .string spT] 42)).grown hgrow5 (HB2.out.alloc HB2.out.size (.cells #[.string spT, .int .i64 (-77), .int .i64 (-77), .int .i64 (-77), .string spT, .string spT, .int .i64 (-77), .int .i64 (-77), .int .i64 (-77), .string spT] 42)).size (fun q e => (HO2.out.lt q e).1)); have hc5 := own_cap hown5; clear hown5 hgrow5))
    go_ret
    exact ⟨g5, c5, rfl, by rw [HRC.out]; exact HO5.out, HB5.out⟩
end Go.Proofs.YtelboefeomnjaaaGreat

/-
  gazetteersame's Whole. (The verifier's own text.)
-/
namespace Go.Proofs.YtelboefeomnjaaaGreat
set_option linter.unusedVariables false
open Go.RowKit Go.Shelf Go.Maps Go.Proofs.YtelboefeomnjaaaGreat.Nm

set_option maxRecDepth 100000 in
set_option maxHeartbeats 2000000 in
/-- gazetteersame.Records, at the same list -/
theorem sameRecords2 (p1 p2 : Option Addr) (n c1 c2 : Nat) (L : List Rn) (w : World) (hx : RsAt w p1 L) (hy : RsAt w p2 L) (hn : n = L.length) (hl : n ≤ 4294967296) :
    Calls Tryz.prog 10 #[.slice p1 n c1, .slice p2 n c2] w fun e w' => e = .returned (.bool true) ∧ ∃ m, w' = w.drewN m := by
  have HX := hide' hx
  have HY := hide' hy
  have HN := hide' hn
  clear hx hy hn
  go_enter Tryz.func10, Tryz.ntmps10
  go_wp2
  go_loopw [13] (fun i wr => ∃ k m : Nat, i = .int .i64 k ∧ k ≤ n ∧ wr = w.drewN m) (fun i _ => n - (intOf i).toNat)
  case atStart => exact ⟨0, 0, rfl, Nat.zero_le _, rfl⟩
  case round =>
    obtain ⟨k, m, rfl, hk, rfl⟩ := hrel
    by_cases hlt : k < n
    · obtain ⟨g1, o1, rfl, _, x0, x1, x2, x3, x4⟩ := HX.out k (by rw [← HN.out]; exact hlt)
      obtain ⟨g2, o2, rfl, _, y0, y1, y2, y3, y4⟩ := HY.out k (by rw [← HN.out]; exact hlt)
      generalize L[k].o = qo at *
      generalize L[k].t = qt at *
      generalize L[k].c = qc at *
      generalize L[k].l = ql at *
      generalize L[k].d = qd at *
      go_wp2
      go_quiet (fail)
      go_wp2
      go_roundw
      case rel => exact ⟨k + 1, m + nq, by go_num, by omega, rfl⟩
      case measure => simp [intOf]; omega
    · go_wp2
      go_ret
      exact ⟨rfl, m, rfl⟩
theorem rs_left {w : World} {p : Option Addr} {L M : List Rn} (h : RsAt w p (L ++ M)) : RsAt w p L := fun k hk => by
  obtain ⟨g, off, h1, h2, h3, h4, h5, h6, h7⟩ := h k (by rw [List.length_append]; omega)
  rw [List.getElem_append_left hk] at h3 h4 h5 h6 h7
  exact ⟨g, off, h1, h2, h3, h4, h5, h6, h7⟩
/-- the two that stand behind -/
theorem rs_spare {w : World} {g : Nat} {L : List Rn} (h : RsAt w (some ⟨g, 0, none⟩) (L ++ [spR, spR])) (j : Nat) (hj : j < 2) : w.cell? ⟨g, (L.length + j) * 5, none⟩ = some (.string spT) ∧ w.cell? ⟨g, (L.length + j) * 5 + 1, none⟩ = some (.int .i64 (-77)) ∧ w.cell? ⟨g, (L.length + j) * 5 + 2, none⟩ = some (.int .i64 (-77)) ∧ w.cell? ⟨g, (L.length + j) * 5 + 3, none⟩ = some (.int .i64 (-77)) ∧ w.cell? ⟨g, (L.length + j) * 5 + 4, none⟩ = some (.string spT) := by
  have hlt : L.length + j < (L ++ [spR, spR]).length := by simp; omega
  obtain ⟨g', off, h1, h2, h3, h4, h5, h6, h7⟩ := h (L.length + j) hlt
  have hs : (L ++ [spR, spR])[L.length + j]'hlt = spR := by
    rw [List.getElem_append_right (by omega)]
    match j, hj with
    | 0, _ => simp
    | 1, _ => simp
  injection h1 with h1
  injection h1 with h1 h0
  subst h1; subst h0
  rw [hs] at h3 h4 h5 h6 h7
  simp only [Nat.zero_add] at h3 h4 h5 h6 h7
  exact ⟨h3, h4, h5, h6, h7⟩

set_option maxRecDepth 100000 in
set_option maxHeartbeats 4000000 in
/-- gazetteersame.Whole -/
theorem wholeL_any (L : List Rn) (g c : Nat) (p : Option Addr) (cap : Nat) (w : World) (hL : L.length ≤ 1048576) (hg : RsAt w (some ⟨g, 0, none⟩) (L ++ [spR, spR])) (hc : L.length + 2 ≤ c) (hat : RsAt w p L) :
    Calls Tryz.prog 11 #[.slice (some ⟨g, 0, none⟩) L.length c, .slice p L.length cap] w fun e w' => e = .returned (.bool true) ∧ Below w.heap.size w w' := by
  have HG := hide' hg
  have HA := hide' hat
  have HQ : Hid (∀ W : World, Below w.heap.size w W → W.cell? ⟨g, L.length * 5, none⟩ = some (.string spT) ∧ W.cell? ⟨g, L.length * 5 + 1, none⟩ = some (.int .i64 (-77)) ∧ W.cell? ⟨g, L.length * 5 + 2, none⟩ = some (.int .i64 (-77)) ∧ W.cell? ⟨g, L.length * 5 + 3, none⟩ = some (.int .i64 (-77)) ∧ W.cell? ⟨g, L.length * 5 + 4, none⟩ = some (.string spT) ∧ W.cell? ⟨g, (L.length + 1) * 5, none⟩ = some (.string spT) ∧ W.cell? ⟨g, (L.length + 1) * 5 + 1, none⟩ = some (.int .i64 (-77)) ∧ W.cell? ⟨g, (L.length + 1) * 5 + 2, none⟩ = some (.int .i64 (-77)) ∧ W.cell? ⟨g, (L.length + 1) * 5 + 3, none⟩ = some (.int .i64 (-77)) ∧ W.cell? ⟨g, (L.length + 1) * 5 + 4, none⟩ = some (.string spT)) := fun W hb => by
    obtain ⟨p0, p1, p2, p3, p4⟩ := rs_spare (rsAt_below7 HG.out hb) 0 (by omega)
    obtain ⟨r0, r1, r2, r3, r4⟩ := rs_spare (rsAt_below7 HG.out hb) 1 (by omega)
    exact ⟨p0, p1, p2, p3, p4, r0, r1, r2, r3, r4⟩
  clear hg hat
  have T1 : Hid True := trivial
  have HB0 : Hid (Below w.heap.size w w) := Below.refl _ _
  have hI1 : L.length + 1 < L.length + 2 := by omega
  have hI0 : L.length < L.length + 2 := by omega
  have hw1 : IntKind.i64.wrap ((L.length : Int) + 1) = (L.length : Int) + 1 := by rw [IntWalk.i64_in] <;> omega
  have hJ0 : (0 : Int) ≤ (L.length : Int) := by omega
  have hJ1 : (L.length : Int) < (L.length : Int) + 2 := by omega
  have hJ2 : (0 : Int) ≤ (L.length : Int) + 1 := by omega
  have hJ3 : (L.length : Int) + 1 < (L.length : Int) + 2 := by omega
  have hJ4 : ((L.length : Int) + 1).toNat = L.length + 1 := by omega
  obtain ⟨a0, a1, a2, a3, a4, b0, b1, b2, b3, b4⟩ := HQ.out w HB0.out
  go_enter Tryz.func11, Tryz.ntmps11
  go_wp2_with fail
  go_region_held3 (fun W => W.cell? ⟨g, L.length * 5, none⟩ = some (.string spT) ∧ W.cell? ⟨g, L.length * 5 + 1, none⟩ = some (.int .i64 (-77)) ∧ W.cell? ⟨g, L.length * 5 + 2, none⟩ = some (.int .i64 (-77)) ∧ W.cell? ⟨g, L.length * 5 + 3, none⟩ = some (.int .i64 (-77)) ∧ W.cell? ⟨g, L.length * 5 + 4, none⟩ = some (.string spT) ∧ W.cell? ⟨g, (L.length + 1) * 5, none⟩ = some (.string spT) ∧ W.cell? ⟨g, (L.length + 1) * 5 + 1, none⟩ = some (.int .i64 (-77)) ∧ W.cell? ⟨g, (L.length + 1) * 5 + 2, none⟩ = some (.int .i64 (-77)) ∧ W.cell? ⟨g, (L.length + 1) * 5 + 3, none⟩ = some (.int .i64 (-77)) ∧ W.cell? ⟨g, (L.length + 1) * 5 + 4, none⟩ = some (.string spT)) (first | go_keep | exact HQ.out _ HB3.out | exact HQ.out _ HB2.out | exact HQ.out _ HB1.out | exact HQ.out _ HB0.out) (first
    | (go_at_call 10; have _ := T1; clear T1; refine Calls.mono (show Calls Tryz.prog 10 _ _ (fun e w' => e = .returned (.bool true) ∧ Below w.heap.size w w') by first | exact (sameRecords2 (some ⟨g, 0, none⟩) p L.length c cap L w (rs_left HG.out) HA.out rfl (by omega)).mono (fun e w' ⟨h1, m, h2⟩ => ⟨h1, h2 ▸ below_drewN (Below.refl _ w) m⟩) | exact (sameRecords2 (some ⟨g, 0, none⟩) p L.length c cap L w.drew (rs_left HG.out) HA.out rfl (by omega)).mono (fun e w' ⟨h1, m, h2⟩ => ⟨h1, h2 ▸ below_drewN ((Below.refl _ w).drew) m⟩)) ?_; rintro e w1 ⟨rfl, hB1⟩; have HB1 := hide' hB1; clear hB1; have T2 : Hid True := trivial)
    | (go_at_call 17; have _ := T2; clear T2; refine (spare_any _).mono ?_; rintro e w2 ⟨rfl, hB2⟩; have HB2 : Hid (Below w.heap.size w w2) := (by first | exact bstep HB1.out hB2 HB1.out.size | exact bstep HB1.out.drew hB2 HB1.out.size); clear hB2; have T3 : Hid True := trivial)
    | (go_at_call 17; have _ := T3; clear T3; refine (spare_any _).mono ?_; rintro e w3 ⟨rfl, hB3⟩; have HB3 : Hid (Below w.heap.size w w3) := (by first | exact bstep HB2.out hB3 HB2.out.size | exact bstep HB2.out.drew hB3 HB2.out.size); clear hB3))
  all_goals
    go_wp2_with fail
    go_ret
    first
      | exact ⟨rfl, HB3.out⟩
      | exact ⟨rfl, HB3.out.drew⟩
end Go.Proofs.YtelboefeomnjaaaGreat
