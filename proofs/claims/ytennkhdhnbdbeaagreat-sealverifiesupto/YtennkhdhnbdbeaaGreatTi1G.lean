import Derived.Test.YtennkhdhnbdbeaaGreatFt1G
import Derived.Test.YtennkhdhnbdbeaaGreatOw1
import Derived.Laws.AppendOwnNone
import Derived.Lib.SliceRun
import Derived.Deep.AppendLies
import Derived.Deep.RegionHeld3
import Derived.Test.YtennkhdhnbdbeaaGreatMathG
import Derived.Test.YtennkhdhnbdbeaaGreatChecked
import Derived.Deep.Fields
import Derived.ChangeSlices
import Derived.Test.YtennkhdhnbdbeaaGreatSglG
import Derived.Test.YtennkhdhnbdbeaaGreatRows
import Derived.Test.YtennkhdhnbdbeaaGreatTk1G
import Derived.Test.YtennkhdhnbdbeaaGreatTk3G
import Derived.Test.YtennkhdhnbdbeaaGreatTi7G
import Derived.Test.YtennkhdhnbdbeaaGreatTl1G
import Derived.Test.YtennkhdhnbdbeaaGreatTi3G
import Derived.ProofKit
import Derived.OpenShut
import Derived.JoinedCond
import Derived.ShutString
import Derived.ChangeOld
import Derived.Carry
/-
  gazetteersame's Spare, Twin. (The verifier's own text.)
-/
namespace Go.Proofs.YtennkhdhnbdbeaaGreat
set_option linter.unusedVariables false
open Go.RowKit Go.Shelf Go.Maps Go.Proofs.YtennkhdhnbdbeaaGreat.Nm

def spT : ByteArray := ⟨#[115, 112, 97, 114, 101]⟩
/-- the record that no list has -/
def spR : Rn := ⟨spT, -77, -77, -77, spT⟩
theorem own_below {w w' : World} {b e s n : Nat} {v : Value} {xs : List Value} (h : w.ownsRow b e s v n xs) (hb : Below w.heap.size w w') : w'.ownsRow b e s v n xs := own_blk h (fun g eg => hb.block g (h.lt g eg).2)

theorem own_cap {w : World} {b e s n m c : Nat} {p : Option Addr} {xs : List Value} (h : w.ownsRow b e s (.slice p m c) n xs) : n ≤ c ∧ c ≤ maxLen := by
  obtain ⟨_, _, hsh, h1, h2, _⟩ := own_shape h
  injection hsh with _ _ hsh
  subst hsh
  exact ⟨h1, h2⟩
set_option maxRecDepth 100000 in
set_option maxHeartbeats 1000000 in
/-- gazetteersame.Spare -/
theorem spare_any (w : World) : Calls Tryz.prog 19 #[] w fun e w' => e = .returned (.agg #[.string spT, .int .i64 (-77), .int .i64 (-77), .int .i64 (-77), .string spT]) ∧ Below w.heap.size w w' := by
  have hB0 : ∀ o : Obj, Below w.heap.size w (w.alloc o) := fun o => (Below.refl _ w).alloc (Nat.le_refl _) o
  go_enter Tryz.func19, Tryz.ntmps19
  go_wp2
  refine bodyPost_ret (v := .agg #[.string spT, .int .i64 (-77), .int .i64 (-77), .int .i64 (-77), .string spT]) (by simp [results, go_sem]; rfl) rfl ⟨rfl, hB0 _⟩

set_option maxRecDepth 100000 in
set_option maxHeartbeats 2000000 in
/-- gazetteersame.Twin -/
theorem twin_any (L : List Rn) (p : Option Addr) (cap : Nat) (w : World) (hL : L.length ≤ 1048576) (hat : RsAt w p L) (hn : p = none → cap = 0) :
    Calls Tryz.prog 7 #[.slice p L.length cap] w fun r w' => ∃ g c, r = .returned (.slice (some ⟨g, 0, none⟩) L.length c) ∧ w'.ownsRow w.heap.size 27 5 (.slice (some ⟨g, 0, none⟩) (L.length + 2) c) (L.length + 2) (rce5 (L ++ [spR, spR])) ∧ Below w.heap.size w w' := by
  obtain ⟨i0, hi, hz0, hz1, hz2⟩ := info_parts infoRM
  have HI := hide' (And.intro hi (And.intro hz0 (And.intro hz1 hz2)))
  clear hi hz0 hz1 hz2
  have T1 : Hid True := trivial
  cases p with
  | none =>
    obtain rfl : L = [] := by
      cases L with
      | nil => rfl
      | cons y l => obtain ⟨g, off, hp, _⟩ := hat 0 (by simp); cases hp
    obtain rfl := hn rfl
    go_enter Tryz.func7, Tryz.ntmps7
    go_wp2_with (first
      | (at_builtin; have _ := T1; clear T1; refine wpList_append_own_none rfl _ _ 24 rfl w.heap.size 27 i0 5 Tryz.underlying24 HI.out.1 (.slice none 0 0) 0 [] rfl (World.ownsRow_nil _ _ _ _) rfl ?_; have T2 : Hid True := trivial)
      | (go_at_call 19; have _ := T2; clear T2; refine (spare_any _).mono ?_; rintro e w1 ⟨rfl, hB1⟩; have HB1 := hide' hB1; clear hB1; have T3 : Hid True := trivial)
      | (go_at_call 19; have _ := T3; clear T3; refine (spare_any _).mono ?_; rintro e w2 ⟨rfl, hB2⟩; have HB2 := hide' (bstep HB1.out hB2 HB1.out.size); clear hB2; have T4 : Hid True := trivial)
      | (at_builtin; have _ := T4; clear T4; refine wpList_append_own _ rfl _ _ 24 rfl w.heap.size 27 i0 (.agg #[.string .empty, .int .i64 0, .int .i64 0, .int .i64 0, .string .empty]) 5 56 Tryz.underlying24 HI.out.1 HI.out.2.1 HI.out.2.2.1 HI.out.2.2.2 rfl (by decide) (.slice none 0 0) 0 [] rfl (World.ownsRow_nil _ _ _ _) ⟨_, 0, none⟩ 2 2 (rce5 [spR, spR]) rfl rfl (fun j u h => World.news_of_block (World.alloc_heap_new w2 (.cells #[.string spT, .int .i64 (-77), .int .i64 (-77), .int .i64 (-77), .string spT, .string spT, .int .i64 (-77), .int .i64 (-77), .int .i64 (-77), .string spT] 27)) j u h) (rce5_one _) (by unfold maxLen; omega) (by omega) (HB2.out.alloc HB2.out.size (.cells #[.string spT, .int .i64 (-77), .int .i64 (-77), .int .i64 (-77), .string spT, .string spT, .int .i64 (-77), .int .i64 (-77), .int .i64 (-77), .string spT] 27)).size ?_; intro v5 w5 hown5 hgrow5 _; obtain ⟨g5, c5, rfl⟩ := owns_some hown5 (by omega); have HO5 := hide' hown5; have HB5 := hide' ((HB2.out.alloc HB2.out.size (.cells #[.string spT, .int .i64 (-77), .int .i64 (-77), .int .i64 (-77), .string spT, .string spT, .int .i64 (-77), .int .i64 (-77), .int .i64 (-77), .string spT] 27)).grown hgrow5 (HB2.out.alloc HB2.out.size (.cells #[.string spT, .int .i64 (-77), .int .i64 (-77), .int .i64 (-77), .string spT, .string spT, .int .i64 (-77), .int .i64 (-77), .int .i64 (-77), .string spT] 27)).size (fun q e => by cases e)); have hc5 := own_cap hown5; clear hown5 hgrow5))
    go_ret
    exact ⟨g5, c5, rfl, HO5.out, HB5.out⟩
  | some ad =>
    have HA := hide' (fun j u => rs_newsM (hat : RsAt w (some ad) L) j u)
    have HRC : Hid (rce5 (L ++ [spR, spR]) = rce5 L ++ rce5 [spR, spR]) := by unfold Hid rce5; rw [List.flatMap_append]
    clear hat
    go_enter Tryz.func7, Tryz.ntmps7
    go_wp2_with (first
      | (at_builtin; have _ := T1; clear T1; refine wpList_append_own _ rfl _ _ 24 rfl w.heap.size 27 i0 (.agg #[.string .empty, .int .i64 0, .int .i64 0, .int .i64 0, .string .empty]) 5 56 Tryz.underlying24 HI.out.1 HI.out.2.1 HI.out.2.2.1 HI.out.2.2.2 rfl (by decide) (.slice none 0 0) 0 [] rfl (World.ownsRow_nil _ _ _ _) ad L.length cap (rce5 L) rfl (rce5_len L) HA.out (rce5_one L) (by unfold maxLen; omega) (by omega) (Nat.le_refl _) ?_; intro v0 w0 ho0 hg0 _; rw [Nat.zero_add, List.nil_append] at ho0; have HO0 := hide' ho0; have HB0 := hide' ((Below.refl w.heap.size w).grown hg0 (Nat.le_refl _) (fun q e => by cases e)); clear ho0 hg0; have T2 : Hid True := trivial)
      | (go_at_call 19; have _ := T2; clear T2; refine (spare_any _).mono ?_; rintro e w1 ⟨rfl, hB1⟩; have HO1 := hide' (own_below HO0.out hB1); have HB1 := hide' (bstep HB0.out hB1 HB0.out.size); clear hB1; have T3 : Hid True := trivial)
      | (go_at_call 19; have _ := T3; clear T3; refine (spare_any _).mono ?_; rintro e w2 ⟨rfl, hB2⟩; have HO2 := hide' (own_below HO1.out hB2); have HB2 := hide' (bstep HB1.out hB2 HB1.out.size); clear hB2; have T4 : Hid True := trivial)
      | (at_builtin; have _ := T4; clear T4; refine wpList_append_own _ rfl _ _ 24 rfl w.heap.size 27 i0 (.agg #[.string .empty, .int .i64 0, .int .i64 0, .int .i64 0, .string .empty]) 5 56 Tryz.underlying24 HI.out.1 HI.out.2.1 HI.out.2.2.1 HI.out.2.2.2 rfl (by decide) v0 L.length (rce5 L) rfl (HO2.out.alloc _) ⟨_, 0, none⟩ 2 2 (rce5 [spR, spR]) rfl rfl (fun j u h => World.news_of_block (World.alloc_heap_new w2 (.cells #[.string spT, .int .i64 (-77), .int .i64 (-77), .int .i64 (-77), .string spT, .string spT, .int .i64 (-77), .int .i64 (-77), .int .i64 (-77), .string spT] 27)) j u h) (rce5_one _) (by unfold maxLen; omega) (by omega) (HB2.out.alloc HB2.out.size (.cells #[.string spT, .int .i64 (-77), .int .i64 (-77), .int .i64 (-77), .string spT, .string spT, .int .i64 (-77), .int .i64 (-77), .int .i64 (-77), .string spT] 27)).size ?_; intro v5 w5 hown5 hgrow5 _; obtain ⟨g5, c5, rfl⟩ := owns_some hown5 (by omega); have HO5 := hide' hown5; have HB5 := hide' ((HB2.out.alloc HB2.out.size (.cells #[.string spT, .int .i64 (-77), .int .i64 (-77), .int .i64 (-77), .string spT, .string spT, .int .i64 (-77), .int .i64 (-77), .int .i64 (-77), .string spT] 27)).grown hgrow5 (HB2.out.alloc HB2.out.size (.cells #[.string spT, .int .i64 (-77), .int .i64 (-77), .int .i64 (-77), .string spT, .string spT, .int .i64 (-77), .int .i64 (-77), .int .i64 (-77), .string spT] 27)).size (fun q e => (HO2.out.lt q e).1)); have hc5 := own_cap hown5; clear hown5 hgrow5))
    go_ret
    exact ⟨g5, c5, rfl, by rw [HRC.out]; exact HO5.out, HB5.out⟩
end Go.Proofs.YtennkhdhnbdbeaaGreat

/-
  gazetteersame's Whole. (The verifier's own text.)
-/
namespace Go.Proofs.YtennkhdhnbdbeaaGreat
set_option linter.unusedVariables false
open Go.RowKit Go.Shelf Go.Maps Go.Proofs.YtennkhdhnbdbeaaGreat.Nm

set_option maxRecDepth 100000 in
set_option maxHeartbeats 2000000 in
/-- gazetteersame.Records, at the same list -/
theorem sameRecords2 (p1 p2 : Option Addr) (n c1 c2 : Nat) (L : List Rn) (w : World) (hx : RsAt w p1 L) (hy : RsAt w p2 L) (hn : n = L.length) (hl : n ≤ 4294967296) :
    Calls Tryz.prog 45 #[.slice p1 n c1, .slice p2 n c2] w fun e w' => e = .returned (.bool true) ∧ ∃ m, w' = w.drewN m := by
  have HX := hide' hx
  have HY := hide' hy
  have HN := hide' hn
  clear hx hy hn
  go_enter Tryz.func45, Tryz.ntmps45
  go_wp2
  go_loopw [13] (fun i wr => ∃ k m : Nat, i = .int .i64 k ∧ k ≤ n ∧ wr = w.drewN m) (fun i _ => n - (intOf i).toNat)
  case atStart => exact ⟨0, 0, rfl, Nat.zero_le _, rfl⟩
  case round =>
    obtain ⟨k, m, rfl, hk, rfl⟩ := hrel
    by_cases hlt : k < n
    · obtain ⟨g1, o1, rfl, _, x0, x1, x2, x3, x4⟩ := HX.out k (by rw [← HN.out]; exact hlt)
      obtain ⟨g2, o2, rfl, _, y0, y1, y2, y3, y4⟩ := HY.out k (by rw [← HN.out]; exact hlt)
      generalize L[k].o = qo at *
      generalize L[k].t = qt at *
      generalize L[k].c = qc at *
      generalize L[k].l = ql at *
      generalize L[k].d = qd at *
      go_wp2
      go_quiet (fail)
      go_wp2
      go_roundw
      case rel => exact ⟨k + 1, m + nq, by go_num, by omega, rfl⟩
      case measure => simp [intOf]; omega
    · go_wp2
      go_ret
      exact ⟨rfl, m, rfl⟩
theorem rs_own5 {w : World} {b g c n : Nat} {L : List Rn} (h : w.ownsRow b 27 5 (.slice (some ⟨g, 0, none⟩) n c) n (rce5 L)) : RsAt w (some ⟨g, 0, none⟩) L := fun k hk => by
  obtain ⟨rest, h1, _⟩ := rb_ownM h
  obtain ⟨e0, e1, e2, e3, e4⟩ := h1.cells hk
  exact ⟨g, 0, rfl, h1.lt, by simpa using e0, by simpa using e1, by simpa using e2, by simpa using e3, by simpa using e4⟩
theorem rs_left {w : World} {p : Option Addr} {L M : List Rn} (h : RsAt w p (L ++ M)) : RsAt w p L := fun k hk => by
  obtain ⟨g, off, h1, h2, h3, h4, h5, h6, h7⟩ := h k (by rw [List.length_append]; omega)
  rw [List.getElem_append_left hk] at h3 h4 h5 h6 h7
  exact ⟨g, off, h1, h2, h3, h4, h5, h6, h7⟩
/-- the two that stand behind -/
theorem rs_spare {w : World} {g : Nat} {L : List Rn} (h : RsAt w (some ⟨g, 0, none⟩) (L ++ [spR, spR])) (j : Nat) (hj : j < 2) : w.cell? ⟨g, (L.length + j) * 5, none⟩ = some (.string spT) ∧ w.cell? ⟨g, (L.length + j) * 5 + 1, none⟩ = some (.int .i64 (-77)) ∧ w.cell? ⟨g, (L.length + j) * 5 + 2, none⟩ = some (.int .i64 (-77)) ∧ w.cell? ⟨g, (L.length + j) * 5 + 3, none⟩ = some (.int .i64 (-77)) ∧ w.cell? ⟨g, (L.length + j) * 5 + 4, none⟩ = some (.string spT) := by
  have hlt : L.length + j < (L ++ [spR, spR]).length := by simp; omega
  obtain ⟨g', off, h1, h2, h3, h4, h5, h6, h7⟩ := h (L.length + j) hlt
  have hs : (L ++ [spR, spR])[L.length + j]'hlt = spR := by
    rw [List.getElem_append_right (by omega)]
    match j, hj with
    | 0, _ => simp
    | 1, _ => simp
  injection h1 with h1
  injection h1 with h1 h0
  subst h1; subst h0
  rw [hs] at h3 h4 h5 h6 h7
  simp only [Nat.zero_add] at h3 h4 h5 h6 h7
  exact ⟨h3, h4, h5, h6, h7⟩

set_option maxRecDepth 100000 in
set_option maxHeartbeats 4000000 in
/-- gazetteersame.Whole -/
theorem wholeL_any (L : List Rn) (g c : Nat) (p : Option Addr) (cap : Nat) (w : World) (hL : L.length ≤ 1048576) (hg : RsAt w (some ⟨g, 0, none⟩) (L ++ [spR, spR])) (hc : L.length + 2 ≤ c) (hat : RsAt w p L) :
    Calls Tryz.prog 10 #[.slice (some ⟨g, 0, none⟩) L.length c, .slice p L.length cap] w fun e w' => e = .returned (.bool true) ∧ Below w.heap.size w w' := by
  have HG := hide' hg
  have HA := hide' hat
  have HQ : Hid (∀ W : World, Below w.heap.size w W → W.cell? ⟨g, L.length * 5, none⟩ = some (.string spT) ∧ W.cell? ⟨g, L.length * 5 + 1, none⟩ = some (.int .i64 (-77)) ∧ W.cell? ⟨g, L.length * 5 + 2, none⟩ = some (.int .i64 (-77)) ∧ W.cell? ⟨g, L.length * 5 + 3, none⟩ = some (.int .i64 (-77)) ∧ W.cell? ⟨g, L.length * 5 + 4, none⟩ = some (.string spT) ∧ W.cell? ⟨g, (L.length + 1) * 5, none⟩ = some (.string spT) ∧ W.cell? ⟨g, (L.length + 1) * 5 + 1, none⟩ = some (.int .i64 (-77)) ∧ W.cell? ⟨g, (L.length + 1) * 5 + 2, none⟩ = some (.int .i64 (-77)) ∧ W.cell? ⟨g, (L.length + 1) * 5 + 3, none⟩ = some (.int .i64 (-77)) ∧ W.cell? ⟨g, (L.length + 1) * 5 + 4, none⟩ = some (.string spT)) := fun W hb => by
    obtain ⟨p0, p1, p2, p3, p4⟩ := rs_spare (rsAt_below7 HG.out hb) 0 (by omega)
    obtain ⟨r0, r1, r2, r3, r4⟩ := rs_spare (rsAt_below7 HG.out hb) 1 (by omega)
    exact ⟨p0, p1, p2, p3, p4, r0, r1, r2, r3, r4⟩
  clear hg hat
  have T1 : Hid True := trivial
  have HB0 : Hid (Below w.heap.size w w) := Below.refl _ _
  have hI1 : L.length + 1 < L.length + 2 := by omega
  have hI0 : L.length < L.length + 2 := by omega
  have hw1 : IntKind.i64.wrap ((L.length : Int) + 1) = (L.length : Int) + 1 := by rw [IntWalk.i64_in] <;> omega
  have hJ0 : (0 : Int) ≤ (L.length : Int) := by omega
  have hJ1 : (L.length : Int) < (L.length : Int) + 2 := by omega
  have hJ2 : (0 : Int) ≤ (L.length : Int) + 1 := by omega
  have hJ3 : (L.length : Int) + 1 < (L.length : Int) + 2 := by omega
  have hJ4 : ((L.length : Int) + 1).toNat = L.length + 1 := by omega
  obtain ⟨a0, a1, a2, a3, a4, b0, b1, b2, b3, b4⟩ := HQ.out w HB0.out
  go_enter Tryz.func10, Tryz.ntmps10
  go_wp2_with fail
  go_region_held3 (fun W => W.cell? ⟨g, L.length * 5, none⟩ = some (.string spT) ∧ W.cell? ⟨g, L.length * 5 + 1, none⟩ = some (.int .i64 (-77)) ∧ W.cell? ⟨g, L.length * 5 + 2, none⟩ = some (.int .i64 (-77)) ∧ W.cell? ⟨g, L.length * 5 + 3, none⟩ = some (.int .i64 (-77)) ∧ W.cell? ⟨g, L.length * 5 + 4, none⟩ = some (.string spT) ∧ W.cell? ⟨g, (L.length + 1) * 5, none⟩ = some (.string spT) ∧ W.cell? ⟨g, (L.length + 1) * 5 + 1, none⟩ = some (.int .i64 (-77)) ∧ W.cell? ⟨g, (L.length + 1) * 5 + 2, none⟩ = some (.int .i64 (-77)) ∧ W.cell? ⟨g, (L.length + 1) * 5 + 3, none⟩ = some (.int .i64 (-77)) ∧ W.cell? ⟨g, (L.length + 1) * 5 + 4, none⟩ = some (.string spT)) (first | go_keep | exact HQ.out _ HB3.out | exact HQ.out _ HB2.out | exact HQ.out _ HB1.out | exact HQ.out _ HB0.out) (first
    | (go_at_call 45; have _ := T1; clear T1; refine Calls.mono (show Calls Tryz.prog 45 _ _ (fun e w' => e = .returned (.bool true) ∧ Below w.heap.size w w') by first | exact (sameRecords2 (some ⟨g, 0, none⟩) p L.length c cap L w (rs_left HG.out) HA.out rfl (by omega)).mono (fun e w' ⟨h1, m, h2⟩ => ⟨h1, h2 ▸ below_drewN (Below.refl _ w) m⟩) | exact (sameRecords2 (some ⟨g, 0, none⟩) p L.length c cap L w.drew (rs_left HG.out) HA.out rfl (by omega)).mono (fun e w' ⟨h1, m, h2⟩ => ⟨h1, h2 ▸ below_drewN ((Below.refl _ w).drew) m⟩)) ?_; rintro e w1 ⟨rfl, hB1⟩; have HB1 := hide' hB1; clear hB1; have T2 : Hid True := trivial)
    | (go_at_call 19; have _ := T2; clear T2; refine (spare_any _).mono ?_; rintro e w2 ⟨rfl, hB2⟩; have HB2 : Hid (Below w.heap.size w w2) := (by first | exact bstep HB1.out hB2 HB1.out.size | exact bstep HB1.out.drew hB2 HB1.out.size); clear hB2; have T3 : Hid True := trivial)
    | (go_at_call 19; have _ := T3; clear T3; refine (spare_any _).mono ?_; rintro e w3 ⟨rfl, hB3⟩; have HB3 : Hid (Below w.heap.size w w3) := (by first | exact bstep HB2.out hB3 HB2.out.size | exact bstep HB2.out.drew hB3 HB2.out.size); clear hB3))
  all_goals
    go_wp2_with fail
    go_ret
    first
      | exact ⟨rfl, HB3.out⟩
      | exact ⟨rfl, HB3.out.drew⟩
end Go.Proofs.YtennkhdhnbdbeaaGreat

namespace Go.Proofs.YtennkhdhnbdbeaaGreat
set_option linter.unusedVariables false
open Go.ChangeShapes Go.WideShapes Go.Deep

section
variable {H : Type} {enc : TypeId × Value → H} {P : Program} {w : World} {base : Nat} {spare : Nat → Bool} {held : Bool}

/-- a struct of one-cell fields that comes in by value -/
theorem agg_open {t : TypeId} {fs : Array Field} {r : Reach} {b0 : Nat} {v : Value} {d : DataW H} {p : List MemPlace} (hs : P.underlying t = some (.struct fs)) (hone : oneCellFields P fs = true) (hC : P.cellsOf t = fs.size)
    (hv : Value.okWide P w r b0 t v) (h : DataW.Trod enc P w base spare held t v d p) :
    ∃ (cs : Array Value) (n : Nat), v = .agg cs ∧ cs.size = fs.size ∧ ∀ (i : Nat) (f : Field), fs[i]? = some f → ∃ y, DataW.trod enc P w base spare held n f.type [cs.toList.getD i undef] = some y := by
  obtain ⟨cs, rfl, hsz⟩ := okWide_struct hs hv
  obtain ⟨fuel, hf⟩ := h
  obtain ⟨xs, n, _, _, _, hlen, hf'⟩ := DataW.trod_struct hs hf
  refine ⟨cs, n, rfl, hsz.trans hC, fun i f hi => ?_⟩
  have hlt : i < fs.size := (Array.getElem?_eq_some_iff.1 hi).1
  obtain ⟨ho, hc1⟩ := hone_of hone i f hi
  have g := hf' i f hi
  rw [ho, hc1] at g
  simp only [Value.cells] at g
  rw [take1_drop _ i undef (by rw [Array.length_toList]; omega)] at g
  exact ⟨xs[i]'(by omega), by rw [g, List.getElem?_eq_getElem (by omega)]⟩

end
theorem struct_of {t : TypeId} {k : Nat} {ts : List TypeId} (h : (Tryz.prog.underlying t).bind (fun u => match u with | .struct fs => some (oneCellFields Tryz.prog fs && decide (Tryz.prog.cellsOf t = fs.size) && decide (fs.size = k) && (fs.toList.map (·.type) == ts)) | _ => none) = some true) :
    ∃ fs : Array Field, Tryz.prog.underlying t = some (.struct fs) ∧ oneCellFields Tryz.prog fs = true ∧ Tryz.prog.cellsOf t = fs.size ∧ fs.size = k ∧ ∀ j, j < k → ∃ f, fs[j]? = some f ∧ ts[j]? = some f.type := by
  obtain ⟨u, hu, h⟩ := Option.bind_eq_some_iff.1 h
  split at h
  · rename_i fs
    simp only [Option.some.injEq, Bool.and_eq_true, decide_eq_true_eq, beq_iff_eq] at h
    refine ⟨fs, hu, h.1.1.1, h.1.1.2, h.1.2, fun j hj => ?_⟩
    have hj' : j < fs.size := by omega
    refine ⟨fs[j], by simp [hj'], ?_⟩
    rw [← h.2]
    simp [hj']
  · cases h

end Go.Proofs.YtennkhdhnbdbeaaGreat

/-
  A signed text's size. (The verifier's own text.)
-/
namespace Go.Proofs.YtennkhdhnbdbeaaGreat
set_option linter.unusedVariables false
set_option linter.unusedSimpArgs false
open Go.RowKit Go.Shelf Go.Sort Go.Proofs.YtennkhdhnbdbeaaGreat.Nm

theorem sum_perm {l m : List Nat} (h : l.Perm m) : l.sum = m.sum := by
  induction h with
  | nil => rfl
  | cons x _ ih => rw [List.sum_cons, List.sum_cons, ih]
  | swap x y l => simp only [List.sum_cons]; omega
  | trans _ _ h1 h2 => rw [h1, h2]
theorem foldD_le {t : Int} {d : ByteArray} (h : errD t d = 0) : (foldD t d).size ≤ d.size := by
  obtain ⟨ps, hp⟩ := errD_zero h
  unfold foldD
  rw [hp]
  show (foldL ps).length ≤ d.size
  unfold partsD at hp
  cases hk : kindsOf t with
  | none => rw [hk] at hp; cases hp
  | some ks =>
    rw [hk] at hp
    change (if _ then _ else _) = _ at hp
    split at hp
    · cases hp
    · exact parts_sum ks d ps hp
theorem txt_len (st ah : ByteArray) : ∀ ds : List (List UInt8), (txL st ah ds).length = st.size + (ds.map fun d => ah.size + 2 + d.length).sum := by
  intro ds
  unfold txL
  rw [List.length_append, Array.length_toList]
  have e : ∀ ds : List (List UInt8), (ds.flatMap (lineB ah)).length = (ds.map fun d => ah.size + 2 + d.length).sum := by
    intro ds
    induction ds with
    | nil => rfl
    | cons d ds ih => rw [List.flatMap_cons, List.length_append, ih, lineB_len, List.map_cons, List.sum_cons]
  rw [e]
  rfl
/-- the room that a set's text has -/
def roomL (L : List Rn) : Nat := (L.map fun r => r.o.size + r.d.size + 10).sum
theorem sum_le {α : Type} (f g : α → Nat) : ∀ l : List α, (∀ x ∈ l, f x ≤ g x) → (l.map f).sum ≤ (l.map g).sum
  | [], _ => Nat.le_refl _
  | x :: l, h => by
    have h1 := h x (by simp)
    have h2 := sum_le f g l (fun y hy => h y (by simp [hy]))
    simp only [List.map_cons, List.sum_cons]
    omega
end Go.Proofs.YtennkhdhnbdbeaaGreat

/-
  Rows of structs that come in, and how much they hold. (The verifier's own text.)
-/
namespace Go.Proofs.YtennkhdhnbdbeaaGreat.Frs
set_option linter.unusedVariables false
set_option linter.unusedSimpArgs false
open Go.RowKit Go.Shelf Go.Maps Go.Proofs.YtennkhdhnbdbeaaGreat.Nm
open Go.ChangeShapes Go.WideShapes Go.Deep

theorem bulk_pos {H : Type} (d : DataW H) : 1 ≤ Rows.uptoBulk d := by
  cases d with
  | lit l => cases l <;> simp [Rows.uptoBulk]
  | _ => simp [Rows.uptoBulk]
theorem bulk_len {H : Type} : ∀ l : List (DataW H), l.length ≤ Rows.uptoBulkAll l
  | [] => by simp [Rows.uptoBulkAll]
  | d :: l => by
    have := bulk_len l
    have := bulk_pos d
    simp only [Rows.uptoBulkAll, List.length_cons]
    omega
theorem bulk_sum {H : Type} : ∀ l : List (DataW H), Rows.uptoBulkAll l = (l.map Rows.uptoBulk).sum
  | [] => rfl
  | d :: l => by
    have h := bulk_sum l
    simp only [Rows.uptoBulkAll, List.map_cons, List.sum_cons]
    omega
theorem oneR : (Tryz.prog.underlying 27).bind (fun t => match t with | .struct fs => some (oneCellFields Tryz.prog fs && decide (Tryz.prog.cellsOf 27 = fs.size) && decide (fs.size = 5) && (fs.toList.map (·.type) == [9, 3, 3, 3, 9])) | _ => none) = some true := by kernel_rfl
section
variable {H : Type} {enc : TypeId × Value → H} {P : Program} {w : World} {base : Nat} {spare : Nat → Bool} {held : Bool}

/-- a slice of such structs -/
theorem rows_openS {t e : TypeId} {fs : Array Field} {fuel : Nat} {v : Value} {x : DataW H × List MemPlace} (ht : P.underlying t = some (.slice e)) (he : P.underlying e = some (.struct fs)) (hone : oneCellFields P fs = true) (hC : P.cellsOf e = fs.size) (hpos : 0 < fs.size)
    (h : DataW.trod enc P w base spare held fuel t [v] = some x) :
    ∃ (a : Option Addr) (len cap : Nat) (D : Nat → DataW H), v = .slice a len cap ∧ (a = none → cap = 0) ∧ len ≤ Rows.uptoBulk x.1 ∧ (0 < len → Rows.uptoBulkAll ((List.range len).map D) + 1 ≤ Rows.uptoBulk x.1) ∧ ∀ i, i < len → ∃ b o n, ∃ xs : List (DataW H × List MemPlace), a = some ⟨b, o, none⟩ ∧ b < w.heap.size ∧ D i = .agg (xs.map (·.1)) ∧ xs.length = fs.size ∧ ∀ (j : Nat) (f : Field), fs[j]? = some f → ∃ V y, w.cell? ⟨b, o + i * fs.size + j, none⟩ = some V ∧ DataW.trod enc P w base spare held n f.type [V] = some y ∧ xs[j]? = some y := by
  rcases open_slice ht h with ⟨hv, _⟩ | ⟨a, len, cap, m, n, D, Pl, hv, hb, hl, hm, hmm, hx, hel⟩
  · obtain rfl : v = .slice none 0 0 := by simpa using hv
    exact ⟨none, 0, 0, fun _ => .nil, rfl, fun _ => rfl, Nat.zero_le _, fun h => absurd h (Nat.lt_irrefl _), fun i hi => absurd hi (Nat.not_lt_zero _)⟩
  · obtain rfl : v = .slice (some a) len cap := by simpa using hv
    have hlb : len ≤ Rows.uptoBulk x.1 := by
      rw [hx]
      have := bulk_len ((List.range len).map D)
      simp only [List.length_map, List.length_range] at this
      simp only [Rows.uptoBulk]
      omega
    have hsum : Rows.uptoBulkAll ((List.range len).map D) + 1 ≤ Rows.uptoBulk x.1 := by
      rw [hx]
      simp only [Rows.uptoBulk]
      omega
    refine ⟨some a, len, cap, D, rfl, (fun e => by cases e), hlb, fun _ => hsum, fun i hi => ?_⟩
    obtain ⟨b, o, spot⟩ := a
    have hspot : spot = none := by
      obtain ⟨cs0, hcs0, _⟩ := hel 0 (by rw [hmm]; split <;> omega)
      rw [hC] at hcs0
      obtain ⟨_, hlen0, hcell0⟩ := World.cells?_some hcs0
      have h0 := hcell0 0 hpos
      rw [List.getElem?_eq_getElem (by omega)] at h0
      have := World.cell?_spot h0
      simpa [Addr.add] using this
    obtain ⟨cs', hcs, htr⟩ := hel i (by rw [hmm]; split <;> omega)
    rw [hC] at hcs
    obtain ⟨_, hlen, hcell⟩ := World.cells?_some hcs
    obtain ⟨xs, k, _, hxe, _, hxl, hf⟩ := DataW.trod_struct he htr
    have h0 := hcell 0 hpos
    rw [List.getElem?_eq_getElem (by omega)] at h0
    subst hspot
    have ha : ∀ j, ((⟨b, o, none⟩ : Addr).add (i * fs.size)).add j = ⟨b, o + i * fs.size + j, none⟩ := fun j => by rw [add_add, addr_add, Nat.add_assoc]
    refine ⟨b, o, k, xs, rfl, ?_, congrArg Prod.fst hxe, hxl, fun j f hj => ?_⟩
    · rw [ha] at h0
      unfold World.cell? at h0
      split at h0
      · rename_i hh
        exact (Array.getElem?_eq_some_iff.1 hh).1
      · cases h0
    · have hlt : j < fs.size := (Array.getElem?_eq_some_iff.1 hj).1
      obtain ⟨ho, hc1⟩ := hone_of hone j f hj
      have g := hf j f hj
      rw [ho, hc1, take1_drop _ j undef (by omega)] at g
      have hc := hcell j hlt
      rw [ha, List.getElem?_eq_getElem (by omega)] at hc
      refine ⟨cs'.getD j undef, xs[j]'(by omega), ?_, by rw [g, List.getElem?_eq_getElem (by omega)], List.getElem?_eq_getElem (by omega)⟩
      rw [hc, List.getD_eq_getElem?_getD, List.getElem?_eq_getElem (by omega)]; rfl
end
end Go.Proofs.YtennkhdhnbdbeaaGreat.Frs

/-
  Records that come in, once more. (The verifier's own text.)
-/
namespace Go.Proofs.YtennkhdhnbdbeaaGreat.Frt
set_option linter.unusedVariables false
set_option linter.unusedSimpArgs false
open Go.RowKit Go.Shelf Go.Maps Go.Proofs.YtennkhdhnbdbeaaGreat.Nm
open Go.ChangeShapes Go.WideShapes Go.Deep

theorem bulk_mem {H : Type} : ∀ (l : List (DataW H)) (d : DataW H), d ∈ l → Rows.uptoBulk d ≤ Rows.uptoBulkAll l
  | [], d, h => by cases h
  | e :: l, d, h => by
    simp only [Rows.uptoBulkAll]
    rcases List.mem_cons.1 h with rfl | h
    · omega
    · have := bulk_mem l d h
      omega

section
variable {H : Type} {enc : TypeId × Value → H} {w : World} {base : Nat} {spare : Nat → Bool} {held : Bool}
theorem rs_openT {fuel : Nat} {v : Value} {x : DataW H × List MemPlace} (h : DataW.trod enc Tryz.prog w base spare held fuel 24 [v] = some x) :
    ∃ (a : Option Addr) (cap : Nat) (L : List Rn), v = .slice a L.length cap ∧ (a = none → cap = 0) ∧ RsAt w a L ∧ (∀ r ∈ L, r.o.size ≤ maxLen ∧ r.d.size ≤ 9223372036854775807) ∧ L.length ≤ Rows.uptoBulk x.1 ∧ (0 < L.length → roomL L + 2 ≤ 2 * Rows.uptoBulk x.1) ∧ ∀ r ∈ L, r.o.size ≤ Rows.uptoBulk x.1 := by
  obtain ⟨fs, hs, hone, hC, h3, hty⟩ := struct_of Frs.oneR
  obtain ⟨a, len, cap, D, rfl, hn, hlb, hsum, hel⟩ := Frs.rows_openS Tryz.underlying24 hs hone hC (by omega) h
  haveI : Inhabited Rn := ⟨⟨.empty, 0, 0, 0, .empty⟩⟩
  obtain ⟨F, hF⟩ := choose_lt (α := Rn) (n := len) (p := fun i q => ∃ b o, a = some ⟨b, o, none⟩ ∧ b < w.heap.size ∧ w.cell? ⟨b, o + i * 5, none⟩ = some (.string q.o) ∧ w.cell? ⟨b, o + i * 5 + 1, none⟩ = some (.int .i64 q.t) ∧ w.cell? ⟨b, o + i * 5 + 2, none⟩ = some (.int .i64 q.c) ∧ w.cell? ⟨b, o + i * 5 + 3, none⟩ = some (.int .i64 q.l) ∧ w.cell? ⟨b, o + i * 5 + 4, none⟩ = some (.string q.d) ∧ q.o.size ≤ maxLen ∧ q.d.size ≤ maxLen ∧ q.o.size + q.d.size + 6 ≤ Rows.uptoBulk (D i)) (fun i hi => by
    obtain ⟨b, o, n, xs, ha, hb, hDi, hxs, hf⟩ := hel i hi
    rw [h3] at hf hxs
    obtain ⟨f0, g0, t0⟩ := hty 0 (by omega)
    obtain ⟨f1, g1, t1⟩ := hty 1 (by omega)
    obtain ⟨f2, g2, t2⟩ := hty 2 (by omega)
    obtain ⟨f3, g3, t3⟩ := hty 3 (by omega)
    obtain ⟨f4, g4, t4⟩ := hty 4 (by omega)
    obtain ⟨V0, y0, c0, r0, k0⟩ := hf 0 f0 g0
    obtain ⟨V1, y1, c1, r1, k1⟩ := hf 1 f1 g1
    obtain ⟨V2, y2, c2, r2, k2⟩ := hf 2 f2 g2
    obtain ⟨V3, y3, c3, r3, k3⟩ := hf 3 f3 g3
    obtain ⟨V4, y4, c4, r4, k4⟩ := hf 4 f4 g4
    rw [← Option.some.inj t0] at r0
    rw [← Option.some.inj t1] at r1
    rw [← Option.some.inj t2] at r2
    rw [← Option.some.inj t3] at r3
    rw [← Option.some.inj t4] at r4
    obtain ⟨s0, e0, hy0, z0⟩ := DataW.trod_string Tryz.underlying9 r0
    obtain ⟨n1, e1, hy1, _⟩ := DataW.trod_int Tryz.underlying3 r1
    obtain ⟨n2, e2, hy2, _⟩ := DataW.trod_int Tryz.underlying3 r2
    obtain ⟨n3, e3, hy3, _⟩ := DataW.trod_int Tryz.underlying3 r3
    obtain ⟨s4, e4, hy4, z4⟩ := DataW.trod_string Tryz.underlying9 r4
    obtain rfl : V0 = .string s0 := by simpa using e0
    obtain rfl : V1 = .int .i64 n1 := by simpa using e1
    obtain rfl : V2 = .int .i64 n2 := by simpa using e2
    obtain rfl : V3 = .int .i64 n3 := by simpa using e3
    obtain rfl : V4 = .string s4 := by simpa using e4
    have kk : s0.size + s4.size + 6 ≤ Rows.uptoBulk (D i) := by
      obtain ⟨l0, l1, l2, l3, l4, rfl⟩ : ∃ l0 l1 l2 l3 l4, xs = [l0, l1, l2, l3, l4] := by
        match xs, hxs with
        | [l0, l1, l2, l3, l4], _ => exact ⟨l0, l1, l2, l3, l4, rfl⟩
      simp only [List.getElem?_cons_zero, List.getElem?_cons_succ, Option.some.injEq] at k0 k1 k2 k3 k4
      subst k0
      subst k1
      subst k2
      subst k3
      subst k4
      rw [hDi, hy0, hy1, hy2, hy3, hy4]
      simp only [List.map_cons, List.map_nil, Rows.uptoBulk, Rows.uptoBulkAll, Array.length_toList]
      have q0 : s0.data.size = s0.size := rfl
      have q4 : s4.data.size = s4.size := rfl
      omega
    exact ⟨⟨s0, n1, n2, n3, s4⟩, b, o, ha, hb, c0, c1, c2, c3, c4, z0, z4, kk⟩)
  refine ⟨a, cap, (List.range len).map F, by simp, hn, fun k hk => ?_, fun q hq => ?_, by simpa using hlb, fun hq => ?_, fun q hq => ?_⟩
  · have hk' : k < len := by simpa using hk
    obtain ⟨b, o, ha, hb, c0, c1, c2, c3, c4, _, _, _⟩ := hF k hk'
    exact ⟨b, o, ha, hb, by simpa using c0, by simpa using c1, by simpa using c2, by simpa using c3, by simpa using c4⟩
  · obtain ⟨i, hi, rfl⟩ := List.mem_map.1 hq
    obtain ⟨_, _, _, _, _, _, _, _, _, z0, z4, _⟩ := hF i (List.mem_range.1 hi)
    exact ⟨z0, by unfold maxLen at z4; omega⟩
  · have hpos : 0 < len := by simpa using hq
    have h1 := hsum hpos
    have h2 : roomL ((List.range len).map F) ≤ 2 * Rows.uptoBulkAll ((List.range len).map D) := by
      rw [Frs.bulk_sum, List.map_map]
      unfold roomL
      rw [List.map_map]
      have h4 : ∀ l : List Nat, 2 * (l.map (Rows.uptoBulk ∘ D)).sum = (l.map fun i => 2 * Rows.uptoBulk (D i)).sum := by
        intro l
        induction l with
        | nil => rfl
        | cons y l ih => simp only [List.map_cons, List.sum_cons, Function.comp_apply]; omega
      rw [h4]
      refine sum_le _ _ _ (fun i hi => ?_)
      obtain ⟨_, _, _, _, _, _, _, _, _, _, _, z⟩ := hF i (List.mem_range.1 hi)
      show (F i).o.size + (F i).d.size + 10 ≤ 2 * Rows.uptoBulk (D i)
      omega
    omega
  · obtain ⟨i, hi, rfl⟩ := List.mem_map.1 hq
    have hi2 := List.mem_range.1 hi
    obtain ⟨_, _, _, _, _, _, _, _, _, _, _, z⟩ := hF i hi2
    have h1 := hsum (by omega)
    have h2 := bulk_mem ((List.range len).map D) (D i) (List.mem_map.2 ⟨i, List.mem_range.2 hi2, rfl⟩)
    omega
end
end Go.Proofs.YtennkhdhnbdbeaaGreat.Frt

/-
  SealVerifies: what both answer. (The verifier's own text.)
-/
namespace Go.Proofs.YtennkhdhnbdbeaaGreat
set_option linter.unusedVariables false
set_option linter.unusedSimpArgs false
open Go.RowKit Go.Shelf Go.Sort Go.Proofs.YtennkhdhnbdbeaaGreat.Nm

theorem txt_room2 {L : List Rn} (h : setOK L = true) (c a l g u f t t0 : Nat) (F : ByteArray) : (⟨(txL (stB c a l g u f t F) (ahB l g (hdR L).o t0) (srt (fdL L))).toArray⟩ : ByteArray).size ≤ 18 + F.size + roomL L := by
  show (txL _ _ _).toArray.size ≤ _
  rw [List.size_toArray, txt_len]
  obtain ⟨h1, h2, h3, h4⟩ := set_facts h
  obtain ⟨hz0, -, hq0⟩ := h3 _ h2
  have hN := (zon_of hz0).1
  have e1 : (stB c a l g u f t F).size = 18 + F.size := by unfold stB; simp only [ByteArray.size_append, nB_size]
  have e2 : (ahB l g (hdR L).o t0).size ≤ (hdR L).o.size + 8 := by
    have := ow_le hN l
    unfold ahB
    simp only [ByteArray.size_append, nB_size]
    omega
  have e3 : ((srt (fdL L)).map fun d => (ahB l g (hdR L).o t0).size + 2 + d.length).sum = ((fdL L).map fun d => (ahB l g (hdR L).o t0).size + 2 + d.length).sum := sum_perm ((List.mergeSort_perm _ _).map _)
  rw [e3, e1]
  have e4 : ((fdL L).map fun d => (ahB l g (hdR L).o t0).size + 2 + d.length).sum ≤ roomL L := by
    unfold fdL roomL
    rw [List.map_map]
    refine sum_le _ _ L (fun r hr => ?_)
    obtain ⟨z, -, q⟩ := h3 r hr
    obtain ⟨-, -, q3⟩ := eq_low q
    have e5 : r.o.size = (hdR L).o.size := by rw [← lowB_size r.o, q3, lowB_size]
    have e6 := foldD_le (zon_of z).2.2.2.2.1
    show (ahB l g (hdR L).o t0).size + 2 + (foldD r.t r.d).data.toList.length ≤ _
    rw [Array.length_toList]
    have e7 : (foldD r.t r.d).data.size = (foldD r.t r.d).size := rfl
    omega
  omega
theorem cell_lt9 {W : World} {a : Addr} {v : Value} (h : W.cell? a = some v) : a.block < W.heap.size := by
  unfold World.cell? at h
  split at h
  · rename_i c e f hb
    exact (Array.getElem?_eq_some_iff.1 hb).1
  · cases h
theorem own_nine {w : World} {base : Nat} {p : Option Addr} {c : Nat} {p0 p1 p2 p3 p4 p5 p6 p7 p8 : ByteArray} (h : w.ownsRow base 9 1 (.slice p 9 c) 9 [.string p0, .string p1, .string p2, .string p3, .string p4, .string p5, .string p6, .string p7, .string p8]) : ∃ g, p = some ⟨g, 0, none⟩ ∧ Pt w g 0 [p0, p1, p2, p3, p4, p5, p6, p7, p8] := by
  rcases id h.2 with ⟨h1, h0⟩ | ⟨g, cap, cur, h1, _⟩
  · cases h0
  · injection h1 with h1 h2 h3
    subst h1
    have c0 : w.cell? ⟨g, 0, none⟩ = some (.string p0) := by rw [h.cellAt 0 (by omega)]; rfl
    refine ⟨g, rfl, cell_lt9 c0, fun i hi => ?_⟩
    have hi9 : i < 9 := hi
    rw [Nat.zero_add, h.cellAt i (by omega)]
    match i, hi9 with
    | 0, _ => rfl
    | 1, _ => rfl
    | 2, _ => rfl
    | 3, _ => rfl
    | 4, _ => rfl
    | 5, _ => rfl
    | 6, _ => rfl
    | 7, _ => rfl
    | 8, _ => rfl
/-- what both answer where the set and the signature's record are right -/
theorem verify_main (L : List Rn) (so q dk sg X : ByteArray) (sl now : Int) (c0 al l g u f t : Nat) (hL : L.length ≤ 1048576) (hz : ∀ r ∈ L, r.o.size ≤ 1048576 ∧ r.d.size ≤ 9223372036854775807) (hso : so.size ≤ 1048576) (hq : q.size ≤ 1048576) (hdk : dk.size ≤ 1048576) (hrm : 18 + sg.size + roomL L ≤ 2097152)
    (h1 : setOK L = true) (h3 : zonB so (stB c0 al l g u f t sg ++ X) 46 1 sl = true) (hc1 : 1 ≤ c0) (hc2 : c0 < 65536) (ha : al < 256) (hl : l < 256) (hg : g < 4294967296) (hu : u < 4294967296) (hf : f < 4294967296) (ht : t < 65536) (hsg : isN sg = true) (hX : 0 < X.size) (hDz : sg.size + X.size + 18 ≤ 65535) :
    ∃ E : Int, (∀ (W : World) (p : Option Addr) (cap : Nat), RsAt W p L → Calls Tryz.prog 11 #[.slice p L.length cap, .agg #[.string so, .int .i64 46, .int .i64 1, .int .i64 sl, .string (stB c0 al l g u f t sg ++ X)], .string q, .string dk, .int .i64 now] W fun r w' => r = .returned (.int .i64 E) ∧ Below W.heap.size W w') ∧
      (∀ (W : World) (p : Option Addr) (cap : Nat), RsAt W p L → Calls Tryz.prog 12 #[.slice p L.length cap, .agg #[.string so, .int .i64 46, .int .i64 1, .int .i64 sl, .string (stB c0 al l g u f t sg ++ X)], .string q, .string dk, .int .i64 now] W fun r w' => r = .returned (.int .i64 E) ∧ Below W.heap.size W w') := by
  have hzm : ∀ r ∈ L, r.o.size ≤ maxLen ∧ r.d.size ≤ 9223372036854775807 := fun r hr => ⟨by have := (hz r hr).1; unfold maxLen; omega, (hz r hr).2⟩
  have hp := setOK_pos h1
  obtain ⟨x46, hx, hall, -⟩ := set_facts h1
  obtain ⟨hz0, -, -⟩ := hall _ hx
  obtain ⟨hxN, hxc, hl0, hl1, herr, ht0, ht1, -⟩ := zon_of hz0
  obtain ⟨hsN, -, -, -, hDe, -, -, hDs⟩ := zon_of h3
  obtain ⟨t0, ht0e⟩ : ∃ t0 : Nat, (hdR L).t = (t0 : Int) := ⟨(hdR L).t.toNat, by omega⟩
  have hfd : ∀ d ∈ fdL L, d.length ≤ 65535 := by
    intro d hd
    obtain ⟨r, hr, rfl⟩ := List.mem_map.1 hd
    rw [Array.length_toList]
    exact foldD_size (zon_of (hall r hr).1).2.2.2.2.1
  obtain ⟨o0, ho0⟩ : ∃ o0, (hdR L).o = o0 := ⟨_, rfl⟩
  have hLo : L[0].o = o0 := by rw [hdR_eq hp]; exact ho0
  have hLt : L[0].t = (t0 : Int) := by rw [hdR_eq hp]; exact ht0e
  have hx0 : L[0] = ⟨o0, (t0 : Int), (hdR L).c, (hdR L).l, (hdR L).d⟩ := by rw [hdR_eq hp, ← ho0, ← ht0e]
  rw [ho0] at hxN
  have hoz : o0.size ≤ 255 := ((isN_iff _).1 hxN).1
  have hsz : sg.size ≤ 255 := ((isN_iff _).1 hsg).1
  have hfz := foldB_small sg
  obtain ⟨sm1, sm2⟩ := stamp_of c0 al l g u f t sg X hc1 hc2 ha hl hg hu hf ht hsg hX hDz
  obtain ⟨T, hT⟩ : ∃ T, (⟨(txL (stB c0 al l g u f t (foldB sg)) (ahB l g o0 t0) (srt (fdL L))).toArray⟩ : ByteArray) = T := ⟨_, rfl⟩
  have hTz : T.size ≤ 2097152 := by
    have h9 := txt_room2 h1 c0 al l g u f t t0 (foldB sg)
    rw [ho0, hT] at h9
    have := fold_le sg
    omega
  obtain ⟨D, hD⟩ : ∃ D, stB c0 al l g u f t sg ++ X = D := ⟨_, rfl⟩
  have hpr := parts_raw c0 al l g u f t sg X hc1 hc2 hsg hX
  rw [hD] at sm1 sm2 h3 hDe hDs hpr ⊢
  -- what the program's calls answer
  have HS : ∀ (p : Option Addr) (cap : Nat), Hid (∀ W : World, RsAt W p L → Calls Tryz.prog 22 #[.slice p L.length cap] W fun r w' => r = .returned (.bool true) ∧ Below W.heap.size W w') := fun p cap W h => by
    have := isSet_any L p cap W hL h hzm
    rw [h1] at this; exact this
  have HR : Hid (∀ W : World, Calls Tryz.prog 46 #[.agg #[.string so, .int .i64 46, .int .i64 1, .int .i64 sl, .string D]] W fun r w' => r = .returned (.bool true) ∧ Below W.heap.size W w') := fun W => by
    have := isRecord_any so D 46 1 sl W (by unfold maxLen; omega) (by omega)
    rw [h3] at this; exact this
  have HO : Hid (∀ W : World, Calls Tryz.prog 47 #[.string D] W fun r w' => r = .returned (.tuple #[.agg #[.int .i64 (c0 : Int), .int .i64 (al : Int), .int .i64 (l : Int), .int .i64 (g : Int), .int .i64 (u : Int), .int .i64 (f : Int), .int .i64 (t : Int), .string (foldB sg)], .string X]) ∧ Below W.heap.size W w') := fun W => by
    have := stampOf_any D W hDe
    rw [sm1, sm2] at this; exact this
  have HK : ∀ b, keyB dk = b → Hid (∀ W : World, Calls Tryz.prog 48 #[.string dk] W fun r w' => r = .returned (.tuple #[.agg #[.int .i64 (kyF dk), .int .i64 (kyM dk), .int .i64 (kyE dk), .int .i64 (kyS dk)], .bool b]) ∧ Below W.heap.size W w') := fun b hb W => by
    have := keyOf_full dk W hdk
    rw [hb] at this; exact this
  have HE : ∀ b, eqB so o0 = b → Hid (∀ W : World, Calls Tryz.prog 49 #[.string so, .string o0] W fun r w' => r = .returned (.bool b) ∧ Below W.heap.size W w') := fun b hb W => by
    have := equal_any so o0 W (by unfold maxLen; omega) (by unfold maxLen; omega)
    rw [hb] at this; exact this
  have HW : ∀ b, withinB o0 sg = b → Hid (∀ W : World, Calls Tryz.prog 24 #[.string o0, .string (foldB sg)] W fun r w' => r = .returned (.bool b) ∧ Below W.heap.size W w') := fun b hb W => by
    have := within_any o0 (foldB sg) W (by unfold maxLen; omega) (by unfold maxLen; omega)
    rw [within_fold2 o0 hsg, hb] at this; exact this
  have HQ : ∀ b, eqB q sg = b → Hid (∀ W : World, Calls Tryz.prog 49 #[.string q, .string (foldB sg)] W fun r w' => r = .returned (.bool b) ∧ Below W.heap.size W w') := fun b hb W => by
    have := equal_any q (foldB sg) W (by unfold maxLen; omega) (by unfold maxLen; omega)
    rw [eq_fold2 q hsg, hb] at this; exact this
  have HT : Hid (∀ W : World, Calls Tryz.prog 26 #[.string dk] W fun r w' => r = .returned (.int .i64 (tagN dk : Int)) ∧ w' = W) := fun W => tag_any dk W hdk
  have HL : Hid (∀ W : World, Calls Tryz.prog 25 #[.string o0] W fun r w' => r = .returned (.int .i64 (lbI o0)) ∧ Below W.heap.size W w') := fun W => labelsOf_any o0 W (by unfold maxLen; omega)
  have HX : ∀ (p : Option Addr) (cap : Nat), Hid (∀ W : World, RsAt W p L → Calls Tryz.prog 30 #[.agg #[.int .i64 (c0 : Int), .int .i64 (al : Int), .int .i64 (l : Int), .int .i64 (g : Int), .int .i64 (u : Int), .int .i64 (f : Int), .int .i64 (t : Int), .string (foldB sg)], .slice p L.length cap] W fun r w' => r = .returned (.string T) ∧ Below W.heap.size W w') := fun p cap W h => by
    have := text_any c0 al l g u f t (foldB sg) L p cap W hp hL h hzm hfd (by omega) hc2 ha hl hg hu hf ht t0 hLt (by omega) (star_small _) (tail_max _ _) (ow_small _ _)
    rw [hLo, hT] at this; exact this
  -- and the reference's
  have RS : ∀ (p : Option Addr) (cap : Nat), Hid (∀ W : World, RsAt W p L → Calls Tryz.prog 35 #[.slice p L.length cap] W fun r w' => r = .returned (.bool true) ∧ Below W.heap.size W w') := fun p cap W h => by
    have := refIsSet_any L p cap W hL h hz
    rw [h1] at this; exact this
  have RZ : Hid (∀ W : World, Calls Tryz.prog 51 #[.agg #[.string so, .int .i64 46, .int .i64 1, .int .i64 sl, .string D]] W fun r w' => r = .returned (.bool true) ∧ Below W.heap.size W w') := fun W => by
    have := zonal_any so D 46 1 sl W hso (by omega)
    rw [h3] at this; exact this
  have RF : Hid (∀ W : World, Calls Tryz.prog 53 #[.int .i64 46] W fun r w' => r = .returned (.string (formB 46)) ∧ w' = W) := fun W => form_any 46 W
  have RP : Hid (∀ W : World, Calls Tryz.prog 52 #[.string (formB 46), .string D] W fun r w' => ∃ gp op cp, r = .returned (.tuple #[.slice (some ⟨gp, op, none⟩) 9 cp, .bool true]) ∧ Pt w' gp op [nB c0 2, nB al 1, nB l 1, nB g 4, nB u 4, nB f 4, nB t 2, sg, X] ∧ Below W.heap.size W w') := fun W => by
    have h9 := refParts_any [.one, .num 1, .num 1, .num 4, .num 4, .num 4, .num 2, .dom, .b64] D W hDs (by decide) (by intro k hk; simp at hk; rcases hk with rfl | rfl | rfl | rfl | rfl | rfl | rfl | rfl | rfl <;> first | trivial | exact Or.inl rfl | exact Or.inr (Or.inl rfl) | exact Or.inr (Or.inr rfl))
    rw [hpr] at h9
    refine h9.mono ?_
    rintro r w' ⟨⟨p, c, rfl, ho⟩, hB⟩
    obtain ⟨gp, rfl, hpt⟩ := own_nine ho
    exact ⟨gp, 0, c, rfl, hpt, hB⟩
  have RV : ∀ (v k : Nat), v < 256 ^ k → k ≤ 4 → Hid (∀ W : World, Calls Tryz.prog 54 #[.string (nB v k)] W fun r w' => r = .returned (.int .i64 (v : Int)) ∧ w' = W) := fun v k hv hk W => by
    have := refValue4_any (nB v k) W (by rw [nB_size]; exact hk)
    rw [nB_size, vN_nB hv] at this; exact this
  have RE : ∀ b, eqB so o0 = b → Hid (∀ W : World, Calls Tryz.prog 55 #[.string so, .string o0] W fun r w' => r = .returned (.bool b) ∧ Below W.heap.size W w') := fun b hb W => by
    have := equalName_any so o0 W hso (by omega)
    rw [hb] at this; exact this
  have RW : ∀ b, withinB o0 sg = b → Hid (∀ W : World, Calls Tryz.prog 36 #[.string o0, .string sg] W fun r w' => r = .returned (.bool b) ∧ Below W.heap.size W w') := fun b hb W => by
    have := refWithin_any o0 sg W (by omega) (by omega)
    rw [hb] at this; exact this
  have RQ : ∀ b, eqB q sg = b → Hid (∀ W : World, Calls Tryz.prog 55 #[.string q, .string sg] W fun r w' => r = .returned (.bool b) ∧ Below W.heap.size W w') := fun b hb W => by
    have := equalName_any q sg W hq (by omega)
    rw [hb] at this; exact this
  have RK : ∀ b, keyB dk = b → Hid (∀ W : World, Calls Tryz.prog 56 #[.string dk] W fun r w' => r = .returned (.bool b) ∧ Below W.heap.size W w') := fun b hb W => by
    have := isKey_any dk W hdk
    rw [hb] at this; exact this
  have RT : Hid (∀ W : World, Calls Tryz.prog 39 #[.string dk] W fun r w' => r = .returned (.int .i64 (tagN dk : Int)) ∧ w' = W) := fun W => refTag_any dk W hdk
  have RL : Hid (∀ W : World, Calls Tryz.prog 38 #[.string o0] W fun r w' => r = .returned (.int .i64 (lbI o0)) ∧ Below W.heap.size W w') := fun W => starless_any o0 W (by omega)
  have hnl : 0 < L.length := hp
  by_cases hcov : c0 = t0
  case neg => exact ⟨6, fun W p cap h => verify_type L p cap so D q dk o0 X (foldB sg) T 1 sl now (lbI o0) c0 al t0 l g u f t 0 (kyF dk) (kyM dk) (kyE dk) (kyS dk) (keyB dk) W hp L.length hnl h hLo hLt (HS p cap) HR HO (HK _ rfl) hcov, fun W p cap h => verifyset_type L p cap so D q dk o0 (hdR L).d (formB 46) T (nB c0 2) (nB al 1) (nB l 1) (nB g 4) (nB u 4) (nB f 4) (nB t 2) sg X 1 sl now (lbI o0) (hdR L).c (hdR L).l t0 c0 l u f t 0 (tagN dk) 0 0 0 0 W hp L.length hnl h hx0 (RS p cap) RZ RF RP (RV c0 2 (by omega) (by omega)) hcov⟩
  subst hcov
  cases hE : eqB so o0 with
  | false => exact ⟨5, fun W p cap h => verify_out1 L p cap so D q dk o0 X (foldB sg) T 1 sl now (lbI o0) 0 al c0 l g u f t 0 (kyF dk) (kyM dk) (kyE dk) (kyS dk) (keyB dk) W hp L.length hnl h hLo hLt (HS p cap) HR HO (HK _ rfl) (HE _ hE), fun W p cap h => verifyset_out1 L p cap so D q dk o0 (hdR L).d (formB 46) T (nB c0 2) (nB al 1) (nB l 1) (nB g 4) (nB u 4) (nB f 4) (nB t 2) sg X 1 sl now (lbI o0) (hdR L).c (hdR L).l c0 c0 l u f t 0 (tagN dk) 0 0 0 0 W hp L.length hnl h hx0 (RS p cap) RZ RF RP (RV c0 2 (by omega) (by omega)) (RE _ hE)⟩
  | true =>
  cases hW : withinB o0 sg with
  | false => exact ⟨5, fun W p cap h => verify_out2 L p cap so D q dk o0 X (foldB sg) T 1 sl now (lbI o0) 0 al c0 l g u f t 0 (kyF dk) (kyM dk) (kyE dk) (kyS dk) (keyB dk) W hp L.length hnl h hLo hLt (HS p cap) HR HO (HK _ rfl) (HE _ hE) (HW _ hW), fun W p cap h => verifyset_out2 L p cap so D q dk o0 (hdR L).d (formB 46) T (nB c0 2) (nB al 1) (nB l 1) (nB g 4) (nB u 4) (nB f 4) (nB t 2) sg X 1 sl now (lbI o0) (hdR L).c (hdR L).l c0 c0 l u f t 0 (tagN dk) 0 0 0 0 W hp L.length hnl h hx0 (RS p cap) RZ RF RP (RV c0 2 (by omega) (by omega)) (RE _ hE) (RW _ hW)⟩
  | true =>
  cases hQ : eqB q sg with
  | false => exact ⟨1, fun W p cap h => verify_name L p cap so D q dk o0 X (foldB sg) T 1 sl now (lbI o0) 0 al c0 l g u f t 0 (kyF dk) (kyM dk) (kyE dk) (kyS dk) (keyB dk) W hp L.length hnl h hLo hLt (HS p cap) HR HO (HK _ rfl) (HE _ hE) (HW _ hW) (HQ _ hQ), fun W p cap h => verifyset_name L p cap so D q dk o0 (hdR L).d (formB 46) T (nB c0 2) (nB al 1) (nB l 1) (nB g 4) (nB u 4) (nB f 4) (nB t 2) sg X 1 sl now (lbI o0) (hdR L).c (hdR L).l c0 c0 l u f t 0 (tagN dk) 0 0 0 0 W hp L.length hnl h hx0 (RS p cap) RZ RF RP (RV c0 2 (by omega) (by omega)) (RE _ hE) (RW _ hW) (RQ _ hQ)⟩
  | true =>
  cases hK : keyB dk with
  | false => exact ⟨24, fun W p cap h => verify_key1 L p cap so D q dk o0 X (foldB sg) T 1 sl now (lbI o0) 0 al c0 l g u f t 0 (kyF dk) (kyM dk) (kyE dk) (kyS dk) W hp L.length hnl h hLo hLt (HS p cap) HR HO (HK _ hK) (HE _ hE) (HW _ hW) (HQ _ hQ), fun W p cap h => verifyset_key1 L p cap so D q dk o0 (hdR L).d (formB 46) T (nB c0 2) (nB al 1) (nB l 1) (nB g 4) (nB u 4) (nB f 4) (nB t 2) sg X 1 sl now (lbI o0) (hdR L).c (hdR L).l c0 c0 l u f t 0 (tagN dk) 0 0 0 0 W hp L.length hnl h hx0 (RS p cap) RZ RF RP (RV c0 2 (by omega) (by omega)) (RE _ hE) (RW _ hW) (RQ _ hQ) (RK _ hK)⟩
  | true =>
  by_cases hal : al = 253
  case neg =>
    have hp1 : ¬ (nB al 1).toList = [253] := fun hh => by
      have h2 : nB al 1 = ⟨#[253]⟩ := toList_inj.1 (hh.trans (by rw [toList_eq]))
      have h3 : vN (nB al 1) 1 = al := vN_nB (by omega)
      rw [h2] at h3
      exact hal (h3.symm.trans (by decide))
    exact ⟨24, fun W p cap h => verify_key2 L p cap so D q dk o0 X (foldB sg) T 1 sl now (lbI o0) 0 al c0 l g u f t 0 (kyF dk) (kyM dk) (kyE dk) (kyS dk) W hp L.length hnl h hLo hLt (HS p cap) HR HO (HK _ hK) (HE _ hE) (HW _ hW) (HQ _ hQ) hal, fun W p cap h => verifyset_key2 L p cap so D q dk o0 (hdR L).d (formB 46) T (nB c0 2) (nB al 1) (nB l 1) (nB g 4) (nB u 4) (nB f 4) (nB t 2) sg X 1 sl now (lbI o0) (hdR L).c (hdR L).l c0 c0 l u f t 0 (tagN dk) 0 0 0 0 W hp L.length hnl h hx0 (RS p cap) RZ RF RP (RV c0 2 (by omega) (by omega)) (RE _ hE) (RW _ hW) (RQ _ hQ) (RK _ hK) hp1⟩
  subst hal
  have hn253 : nB 253 1 = ⟨#[253]⟩ := by decide
  rw [hn253] at RP
  by_cases htg : t = tagN dk
  case neg => exact ⟨24, fun W p cap h => verify_key3 L p cap so D q dk o0 X (foldB sg) T 1 sl now (lbI o0) 0 0 c0 l g u f t (tagN dk) (kyF dk) (kyM dk) (kyE dk) (kyS dk) W hp L.length hnl h hLo hLt (HS p cap) HR HO (HK _ hK) (HE _ hE) (HW _ hW) (HQ _ hQ) HT htg, fun W p cap h => verifyset_key3 L p cap so D q dk o0 (hdR L).d (formB 46) T (nB c0 2) ⟨#[253]⟩ (nB l 1) (nB g 4) (nB u 4) (nB f 4) (nB t 2) sg X 1 sl now (lbI o0) (hdR L).c (hdR L).l c0 c0 l u f t 0 (tagN dk) 0 0 0 0 W hp L.length hnl h hx0 (RS p cap) RZ RF RP (RV c0 2 (by omega) (by omega)) (RE _ hE) (RW _ hW) (RQ _ hQ) (RK _ hK) (RV t 2 (by omega) (by omega)) RT htg⟩
  rw [← htg] at HT RT
  by_cases hlo : lbI o0 < (l : Int)
  case pos => exact ⟨3, fun W p cap h => verify_label L p cap so D q dk o0 X (foldB sg) T 1 sl now (lbI o0) 0 0 c0 l g u f t 0 (kyF dk) (kyM dk) (kyE dk) (kyS dk) W hp L.length hnl h hLo hLt (HS p cap) HR HO (HK _ hK) (HE _ hE) (HW _ hW) (HQ _ hQ) HT HL hlo, fun W p cap h => verifyset_label L p cap so D q dk o0 (hdR L).d (formB 46) T (nB c0 2) ⟨#[253]⟩ (nB l 1) (nB g 4) (nB u 4) (nB f 4) (nB t 2) sg X 1 sl now (lbI o0) (hdR L).c (hdR L).l c0 c0 l u f t 0 (tagN dk) 0 0 0 0 W hp L.length hnl h hx0 (RS p cap) RZ RF RP (RV c0 2 (by omega) (by omega)) (RE _ hE) (RW _ hW) (RQ _ hQ) (RK _ hK) (RV t 2 (by omega) (by omega)) RT (RV l 1 (by omega) (by omega)) RL hlo⟩
  obtain ⟨h12, m, e, hm, he, km, ke, hm1, hm2, he2⟩ := key_facts hK
  have HI : Hid (∀ W : World, Calls Tryz.prog 50 #[.string T, .string X, .agg #[.int .i64 (kyF dk), .int .i64 (kyM dk), .int .i64 (kyE dk), .int .i64 (kyS dk)]] W fun r w' => r = .returned (.bool (fitB T X m e)) ∧ Below W.heap.size W w') := fun W => by
    rw [km, ke]
    exact fits_any T X (kyF dk) (kyS dk) m e W hTz (by omega) hm1 hm2 he2
  by_cases hnow : now < (f : Int)
  case pos => exact ⟨25, fun W p cap h => verify_early L p cap so D q dk o0 X (foldB sg) T 1 sl now (lbI o0) c0 l g u f t (kyF dk) (kyM dk) (kyE dk) (kyS dk) _ W hp L.length hnl h hLo hLt (HS p cap) HR HO (HK _ hK) (HE _ hE) (HW _ hW) (HQ _ hQ) HT HL hlo (HX p cap) HI hnow, fun W p cap h => verifyset_early L p cap so D q dk o0 (hdR L).d (formB 46) T (nB c0 2) ⟨#[253]⟩ (nB l 1) (nB g 4) (nB u 4) (nB f 4) (nB t 2) sg X 1 sl now (lbI o0) (hdR L).c (hdR L).l c0 c0 l u f t 0 (tagN dk) 0 0 0 0 W hp L.length hnl h hx0 (RS p cap) RZ RF RP (RV c0 2 (by omega) (by omega)) (RE _ hE) (RW _ hW) (RQ _ hQ) (RK _ hK) (RV t 2 (by omega) (by omega)) RT (RV l 1 (by omega) (by omega)) RL (RV f 4 (by omega) (by omega)) hlo hnow⟩
  by_cases hlat : (u : Int) < now
  case pos => exact ⟨25, fun W p cap h => verify_late L p cap so D q dk o0 X (foldB sg) T 1 sl now (lbI o0) c0 l g u f t (kyF dk) (kyM dk) (kyE dk) (kyS dk) _ W hp L.length hnl h hLo hLt (HS p cap) HR HO (HK _ hK) (HE _ hE) (HW _ hW) (HQ _ hQ) HT HL hlo (HX p cap) HI hnow hlat, fun W p cap h => verifyset_late L p cap so D q dk o0 (hdR L).d (formB 46) T (nB c0 2) ⟨#[253]⟩ (nB l 1) (nB g 4) (nB u 4) (nB f 4) (nB t 2) sg X 1 sl now (lbI o0) (hdR L).c (hdR L).l c0 c0 l u f t 0 (tagN dk) 0 0 0 0 W hp L.length hnl h hx0 (RS p cap) RZ RF RP (RV c0 2 (by omega) (by omega)) (RE _ hE) (RW _ hW) (RQ _ hQ) (RK _ hK) (RV t 2 (by omega) (by omega)) RT (RV l 1 (by omega) (by omega)) RL (RV f 4 (by omega) (by omega)) (RV u 4 (by omega) (by omega)) hlo hnow hlat⟩
  have N1 : Hid (∀ W : World, Calls Tryz.prog 54 #[.string (dk.extract 4 8)] W fun r w' => r = .returned (.int .i64 (m : Int)) ∧ w' = W) := fun W => by
    have z : (dk.extract 4 8).size = 4 := by rw [size_extract' _ _ _ (by omega)]
    have := refValue4_any (dk.extract 4 8) W (by omega)
    rw [z, hm] at this; exact this
  have N2 : Hid (∀ W : World, Calls Tryz.prog 54 #[.string (dk.extract 8 12)] W fun r w' => r = .returned (.int .i64 (e : Int)) ∧ w' = W) := fun W => by
    have z : (dk.extract 8 12).size = 4 := by rw [size_extract' _ _ _ (by omega)]
    have := refValue4_any (dk.extract 8 12) W (by omega)
    rw [z, he] at this; exact this
  have PSIG : fitB T X m e = false → ∀ (W : World) (p : Option Addr) (cap : Nat), RsAt W p L → Calls Tryz.prog 11 #[.slice p L.length cap, .agg #[.string so, .int .i64 46, .int .i64 1, .int .i64 sl, .string D], .string q, .string dk, .int .i64 now] W fun r w' => r = .returned (.int .i64 26) ∧ Below W.heap.size W w' := fun hf => by
    rw [hf] at HI
    exact fun W p cap h => verify_sig L p cap so D q dk o0 X (foldB sg) T 1 sl now (lbI o0) 0 0 c0 l g u f t 0 (kyF dk) (kyM dk) (kyE dk) (kyS dk) W hp L.length hnl h hLo hLt (HS p cap) HR HO (HK _ hK) (HE _ hE) (HW _ hW) (HQ _ hQ) HT HL (HX p cap) HI hlo hnow hlat
  by_cases hx4 : X.size = 4
  case neg =>
    have hf : fitB T X m e = false := by unfold fitB; rw [decide_eq_false hx4]; rfl
    exact ⟨26, PSIG hf, fun W p cap h => verifyset_sig1 L p cap so D q dk o0 (hdR L).d (formB 46) T (nB c0 2) ⟨#[253]⟩ (nB l 1) (nB g 4) (nB u 4) (nB f 4) (nB t 2) sg X 1 sl now (lbI o0) (hdR L).c (hdR L).l c0 c0 l u f t 0 (tagN dk) m e 0 0 W hp L.length hnl h hx0 (RS p cap) RZ RF RP (RV c0 2 (by omega) (by omega)) (RE _ hE) (RW _ hW) (RQ _ hQ) (RK _ hK) (RV t 2 (by omega) (by omega)) RT (RV l 1 (by omega) (by omega)) RL (RV f 4 (by omega) (by omega)) (RV u 4 (by omega) (by omega)) N1 N2 hlo hnow hlat h12 hx4 (by omega)⟩
  have V8 : Hid (∀ W : World, Calls Tryz.prog 54 #[.string X] W fun r w' => r = .returned (.int .i64 (vN X 4 : Int)) ∧ w' = W) := fun W => by
    have := refValue4_any X W (by omega)
    rw [hx4] at this; exact this
  by_cases hvn : vN X 4 < m
  case neg =>
    have hf : fitB T X m e = false := by unfold fitB; rw [decide_eq_false hvn, Bool.and_false]; rfl
    exact ⟨26, PSIG hf, fun W p cap h => verifyset_sig2 L p cap so D q dk o0 (hdR L).d (formB 46) T (nB c0 2) ⟨#[253]⟩ (nB l 1) (nB g 4) (nB u 4) (nB f 4) (nB t 2) sg X 1 sl now (lbI o0) (hdR L).c (hdR L).l c0 c0 l u f t (vN X 4) (tagN dk) m e 0 0 W hp L.length hnl h hx0 (RS p cap) RZ RF RP (RV c0 2 (by omega) (by omega)) (RE _ hE) (RW _ hW) (RQ _ hQ) (RK _ hK) (RV t 2 (by omega) (by omega)) RT (RV l 1 (by omega) (by omega)) RL (RV f 4 (by omega) (by omega)) (RV u 4 (by omega) (by omega)) N1 N2 V8 hlo hnow hlat h12 hx4 hvn⟩
  have RPW : Hid (∀ W : World, Calls Tryz.prog 42 #[.int .i64 (vN X 4 : Int), .int .i64 (e : Int), .int .i64 (m : Int)] W fun r w' => r = .returned (.int .i64 ((vN X 4 ^ e % m : Nat) : Int)) ∧ w' = W) := fun W => refPower_any (vN X 4) m hm1 hm2 (by omega) e W he2
  have RSD : ∀ (p : Option Addr) (cap : Nat), Hid (∀ (W : World) (gp op cp : Nat), RsAt W p L → Pt W gp op [nB c0 2, ⟨#[253]⟩, nB l 1, nB g 4, nB u 4, nB f 4, nB t 2, sg, X] → Calls Tryz.prog 44 #[.slice (some ⟨gp, op, none⟩) 9 cp, .slice p L.length cap] W fun r w' => r = .returned (.string T) ∧ Below W.heap.size W w') := fun p cap W gp op cp hR hPt => by
    obtain ⟨b0, off, hpp, -⟩ := hR 0 hp
    subst hpp
    have h9 := refSigned9_any L b0 off L.length cap gp op cp c0 l (nB c0 2) ⟨#[253]⟩ (nB l 1) (nB g 4) (nB u 4) (nB f 4) (nB t 2) sg (owR l (hdR L).o ++ nB c0 2 ++ (⟨#[0, 1]⟩ : ByteArray) ++ nB g 4) W hp hL rfl hR ⟨hPt.1, hPt.2 0 (by simp), hPt.2 1 (by simp), hPt.2 2 (by simp), hPt.2 3 (by simp), hPt.2 4 (by simp), hPt.2 5 (by simp), hPt.2 6 (by simp), hPt.2 7 (by simp)⟩ ht0e hc2 (fun r hr => ⟨(hz r hr).2, (zon_of (hall r hr).1).2.2.2.2.1⟩) (by rw [ho0]; exact hxN) ⟨by rw [nB_size]; omega, by decide, by rw [nB_size]; omega, by rw [nB_size]; omega, by rw [nB_size]; omega, by rw [nB_size]; omega, by rw [nB_size]; omega⟩ (by rw [nB_size]; omega) (by rw [nB_size]; omega) (by omega) (by show vN _ _ = _; rw [nB_size]; exact vN_nB (by omega)) rfl
    have e1 : nB c0 2 ++ (⟨#[253]⟩ : ByteArray) ++ nB l 1 ++ nB g 4 ++ nB u 4 ++ nB f 4 ++ nB t 2 ++ foldB sg = stB c0 253 l g u f t (foldB sg) := by rw [← hn253]; rfl
    have e2 : owR l (hdR L).o ++ nB c0 2 ++ (⟨#[0, 1]⟩ : ByteArray) ++ nB g 4 = ahB l g o0 c0 := by
      rw [ho0, ow_same hxN l]
      have e3 : (⟨#[0, 1]⟩ : ByteArray) = nB 1 2 := by decide
      rw [e3]
      rfl
    rw [e1, e2, hT] at h9
    exact h9
  have RG : Hid (∀ W : World, Calls Tryz.prog 43 #[.string T, .int .i64 (m : Int)] W fun r w' => r = .returned (.int .i64 ((fgN (digB T) m 10 : Nat) : Int)) ∧ Below W.heap.size W w') := fun W => figure_any2 T m W hTz (by omega) hm2
  obtain ⟨pw, hpw⟩ : ∃ pw, vN X 4 ^ e % m = pw := ⟨_, rfl⟩
  obtain ⟨fg, hfg⟩ : ∃ fg, fgN (digB T) m 10 = fg := ⟨_, rfl⟩
  have hfe : fitB T X m e = ((pw : Int) == (fg : Int)) := by unfold fitB; rw [decide_eq_true hx4, decide_eq_true hvn, hpw, hfg]; rfl
  rw [hpw] at RPW
  rw [hfg] at RG
  by_cases hne : pw = fg
  · have hf : fitB T X m e = true := by rw [hfe, hne]; exact beq_self_eq_true _
    rw [hf] at HI
    rw [← hne] at RG
    exact ⟨0, fun W p cap h => verify_ok L p cap so D q dk o0 X (foldB sg) T 1 sl now (lbI o0) c0 l g u f t (kyF dk) (kyM dk) (kyE dk) (kyS dk) W hp L.length hnl h hLo hLt (HS p cap) HR HO (HK _ hK) (HE _ hE) (HW _ hW) (HQ _ hQ) HT HL hlo (HX p cap) HI hnow hlat, fun W p cap h => verifyset_ok L p cap so D q dk o0 (hdR L).d (formB 46) T (nB c0 2) ⟨#[253]⟩ (nB l 1) (nB g 4) (nB u 4) (nB f 4) (nB t 2) sg X 1 sl now (lbI o0) (hdR L).c (hdR L).l c0 c0 l u f t (vN X 4) (tagN dk) m e pw 0 W hp L.length hnl h hx0 (RS p cap) RZ RF RP (RV c0 2 (by omega) (by omega)) (RE _ hE) (RW _ hW) (RQ _ hQ) (RK _ hK) (RV t 2 (by omega) (by omega)) RT (RV l 1 (by omega) (by omega)) RL (RV f 4 (by omega) (by omega)) (RV u 4 (by omega) (by omega)) N1 N2 V8 RPW (RSD p cap) RG hlo hnow hlat h12 hx4 hvn⟩
  · have hf : fitB T X m e = false := by rw [hfe]; exact beq_eq_false_iff_ne.2 (fun hh => hne (by omega))
    exact ⟨26, PSIG hf, fun W p cap h => verifyset_sig3 L p cap so D q dk o0 (hdR L).d (formB 46) T (nB c0 2) ⟨#[253]⟩ (nB l 1) (nB g 4) (nB u 4) (nB f 4) (nB t 2) sg X 1 sl now (lbI o0) (hdR L).c (hdR L).l c0 c0 l u f t (vN X 4) (tagN dk) m e pw fg W hp L.length hnl h hx0 (RS p cap) RZ RF RP (RV c0 2 (by omega) (by omega)) (RE _ hE) (RW _ hW) (RQ _ hQ) (RK _ hK) (RV t 2 (by omega) (by omega)) RT (RV l 1 (by omega) (by omega)) RL (RV f 4 (by omega) (by omega)) (RV u 4 (by omega) (by omega)) N1 N2 V8 RPW (RSD p cap) RG hlo hnow hlat h12 hx4 hvn hne⟩
end Go.Proofs.YtennkhdhnbdbeaaGreat

/-
  SealVerifies: its walk. (The verifier's own text.)
-/
namespace Go.Proofs.YtennkhdhnbdbeaaGreat
set_option linter.unusedVariables false
set_option linter.unusedSimpArgs false
open Go.RowKit Go.Shelf Go.Sort Go.Proofs.YtennkhdhnbdbeaaGreat.Nm

/-- what both answer -/
theorem verify_case (L : List Rn) (so D q dk : ByteArray) (sy sc sl now : Int) (hL : L.length ≤ 1048576) (hz : ∀ r ∈ L, r.o.size ≤ 1048576 ∧ r.d.size ≤ 9223372036854775807) (hso : so.size ≤ 1048576) (hD : D.size ≤ 1048576) (hq : q.size ≤ 1048576) (hdk : dk.size ≤ 1048576) (hrm : D.size + roomL L ≤ 2097152) :
    ∃ E : Int, (∀ (W : World) (p : Option Addr) (cap : Nat), RsAt W p L → Calls Tryz.prog 11 #[.slice p L.length cap, .agg #[.string so, .int .i64 sy, .int .i64 sc, .int .i64 sl, .string D], .string q, .string dk, .int .i64 now] W fun r w' => r = .returned (.int .i64 E) ∧ Below W.heap.size W w') ∧ (∀ (W : World) (p : Option Addr) (cap : Nat), RsAt W p L → Calls Tryz.prog 12 #[.slice p L.length cap, .agg #[.string so, .int .i64 sy, .int .i64 sc, .int .i64 sl, .string D], .string q, .string dk, .int .i64 now] W fun r w' => r = .returned (.int .i64 E) ∧ Below W.heap.size W w') := by
  have hzm : ∀ r ∈ L, r.o.size ≤ maxLen ∧ r.d.size ≤ 9223372036854775807 := fun r hr => ⟨by have := (hz r hr).1; unfold maxLen; omega, (hz r hr).2⟩
  have PS : ∀ b, setOK L = b → ∀ (p : Option Addr) (cap : Nat), Hid (∀ W : World, RsAt W p L → Calls Tryz.prog 22 #[.slice p L.length cap] W fun r w' => r = .returned (.bool b) ∧ Below W.heap.size W w') := fun b hb p cap W h => by
    have := isSet_any L p cap W hL h hzm
    rw [hb] at this; exact this
  have RS : ∀ b, setOK L = b → ∀ (p : Option Addr) (cap : Nat), Hid (∀ W : World, RsAt W p L → Calls Tryz.prog 35 #[.slice p L.length cap] W fun r w' => r = .returned (.bool b) ∧ Below W.heap.size W w') := fun b hb p cap W h => by
    have := refIsSet_any L p cap W hL h hz
    rw [hb] at this; exact this
  cases h1 : setOK L with
  | false => exact ⟨8, fun W p cap h => verify_form1 L p cap L.length so D q dk sy sc sl now W h (PS _ h1 p cap), fun W p cap h => verifyset_form1 L p cap L.length so D q dk sy sc sl now W h (RS _ h1 p cap)⟩
  | true =>
  by_cases h2 : sy = 46
  case neg => exact ⟨8, fun W p cap h => verify_form2 L p cap L.length so D q dk sy sc sl now W h (PS _ h1 p cap) h2, fun W p cap h => verifyset_form2 L p cap L.length so D q dk sy sc sl now W h (RS _ h1 p cap) h2⟩
  subst h2
  cases h3 : zonB so D 46 sc sl with
  | false =>
    have HR : Hid (∀ W : World, Calls Tryz.prog 46 #[.agg #[.string so, .int .i64 46, .int .i64 sc, .int .i64 sl, .string D]] W fun r w' => r = .returned (.bool false) ∧ Below W.heap.size W w') := fun W => by
      have := isRecord_any so D 46 sc sl W (by unfold maxLen; omega) (by omega)
      rw [h3] at this; exact this
    have RZ : Hid (∀ W : World, Calls Tryz.prog 51 #[.agg #[.string so, .int .i64 46, .int .i64 sc, .int .i64 sl, .string D]] W fun r w' => r = .returned (.bool false) ∧ Below W.heap.size W w') := fun W => by
      have := zonal_any so D 46 sc sl W hso (by omega)
      rw [h3] at this; exact this
    exact ⟨8, fun W p cap h => verify_form3 L p cap L.length so D q dk 46 sc sl now W h (PS _ h1 p cap) HR, fun W p cap h => verifyset_form3 L p cap L.length so D q dk 46 sc sl now W h (RS _ h1 p cap) RZ⟩
  | true =>
    obtain ⟨-, hc, -, -, hDe, -⟩ := zon_of h3
    subst hc
    obtain ⟨c0, al, l, g, u, f, t, sg, X, rfl, hc1, hc2, ha, hl, hg, hu, hf, ht, hsg, hX, hDz⟩ := rrsig_split hDe
    have hsz : (stB c0 al l g u f t sg ++ X).size = 18 + sg.size + X.size := by unfold stB; simp only [ByteArray.size_append, nB_size]
    exact verify_main L so q dk sg X sl now c0 al l g u f t hL hz hso hq hdk (by omega) h1 h3 hc1 hc2 ha hl hg hu hf ht hsg hX hDz
/-- what lies in memory along the law -/
def Lw (w wc : World) (sg : Array Value) (bs g c : Nat) (p : Option Addr) (L : List Rn) : Prop := Bx wc w.heap.size sg 27 ∧ wc.ownsRow bs 27 5 (.slice (some ⟨g, 0, none⟩) (L.length + 2) c) (L.length + 2) (rce5 (L ++ [spR, spR])) ∧ Below w.heap.size w wc ∧ RsAt wc p L
theorem Lw.step {w wc wd : World} {sg : Array Value} {bs g c : Nat} {p : Option Addr} {L : List Rn} (h : Lw w wc sg bs g c p L) (hB : Below wc.heap.size wc wd) : Lw w wd sg bs g c p L := ⟨h.1.below hB h.1.lt, ownsRow_below h.2.1 hB, bstep h.2.2.1 hB h.2.2.1.size, rsAt_below7 h.2.2.2 hB⟩
theorem Lw.drew {w wc : World} {sg : Array Value} {bs g c : Nat} {p : Option Addr} {L : List Rn} (h : Lw w wc sg bs g c p L) : Lw w wc.drew sg bs g c p L := ⟨h.1, h.2.1, h.2.2.1.drew, h.2.2.2⟩
set_option maxRecDepth 100000 in
set_option maxHeartbeats 8000000 in
/-- SealVerifies -/
theorem sealVerifies_any (L : List Rn) (p : Option Addr) (cap : Nat) (so D q dk : ByteArray) (sy sc sl now : Int) (w : World) (hL : L.length ≤ 1048576) (hat : RsAt w p L) (hno : p = none → cap = 0) (hz : ∀ r ∈ L, r.o.size ≤ 1048576 ∧ r.d.size ≤ 9223372036854775807) (hso : so.size ≤ 1048576) (hD : D.size ≤ 1048576) (hq : q.size ≤ 1048576) (hdk : dk.size ≤ 1048576) (hrm : D.size + roomL L ≤ 2097152) :
    Calls Tryz.prog 4 #[.slice p L.length cap, .agg #[.string so, .int .i64 sy, .int .i64 sc, .int .i64 sl, .string D], .string q, .string dk, .int .i64 now] w fun r w' => r = .returned (.bool true) ∧ Below w.heap.size w w' := by
  obtain ⟨E, hS, hR⟩ := verify_case L so D q dk sy sc sl now hL hz hso hD hq hdk hrm
  obtain ⟨W0, hW0⟩ : ∃ W0, w.alloc (.cells #[.string so, .int .i64 sy, .int .i64 sc, .int .i64 sl, .string D] 27) = W0 := ⟨_, rfl⟩
  have hx0 : Bx (w.alloc (.cells #[.string so, .int .i64 sy, .int .i64 sc, .int .i64 sl, .string D] 27)) w.heap.size #[.string so, .int .i64 sy, .int .i64 sc, .int .i64 sl, .string D] 27 := World.alloc_heap_new w _
  rw [hW0] at hx0
  have HX0 := hide' hx0
  have HB0 : Hid (Below w.heap.size w W0) := by rw [← hW0]; exact (Below.refl _ _).alloc (Nat.le_refl _) _
  have HAT := hide' (rsAt_below7 hat HB0.out)
  have HTW := hide' (twin_any L p cap W0 hL HAT.out hno)
  have HS := hide' hS
  have HR := hide' hR
  have HL := hide' hL
  obtain ⟨bs, hbs⟩ : ∃ bs, W0.heap.size = bs := ⟨_, rfl⟩
  rw [hbs] at HTW
  have QF : Hid (∀ (V : World) (g c : Nat), Lw w V #[.string so, .int .i64 sy, .int .i64 sc, .int .i64 sl, .string D] bs g c p L → V.cell? ⟨w.heap.size, 0, none⟩ = some (.string so) ∧ V.cell? ⟨w.heap.size, 1, none⟩ = some (.int .i64 sy) ∧ V.cell? ⟨w.heap.size, 2, none⟩ = some (.int .i64 sc) ∧ V.cell? ⟨w.heap.size, 3, none⟩ = some (.int .i64 sl) ∧ V.cell? ⟨w.heap.size, 4, none⟩ = some (.string D)) := fun V g c h => ⟨h.1.cell rfl, h.1.cell rfl, h.1.cell rfl, h.1.cell rfl, h.1.cell rfl⟩
  clear hx0 hS hR hat hno hz hso hD hq hdk hrm hL
  go_enter Tryz.func4, Tryz.ntmps4
  go_wp2_with (first
    | (go_at_call 7; refine HTW.out.mono ?_; rintro r w1 ⟨g, c, rfl, ho, hB⟩; rw [← hbs] at hB; have L1 := hide' (show Lw w w1 #[.string so, .int .i64 sy, .int .i64 sc, .int .i64 sl, .string D] bs g c p L from ⟨HX0.out.below hB HX0.out.lt, ho, bstep HB0.out hB HB0.out.size, rsAt_below7 HAT.out hB⟩); obtain ⟨s0, s1, s2, s3, s4⟩ := QF.out _ _ _ L1.out; clear ho hB))
  clear HTW HX0 HB0 HAT
  go_region_held3 (fun V => V.cell? ⟨w.heap.size, 0, none⟩ = some (.string so) ∧ V.cell? ⟨w.heap.size, 1, none⟩ = some (.int .i64 sy) ∧ V.cell? ⟨w.heap.size, 2, none⟩ = some (.int .i64 sc) ∧ V.cell? ⟨w.heap.size, 3, none⟩ = some (.int .i64 sl) ∧ V.cell? ⟨w.heap.size, 4, none⟩ = some (.string D)) (first | go_keep | exact QF.out _ _ _ L4.out | exact QF.out _ _ _ L3.out | exact QF.out _ _ _ L2.out) (first
    | (go_at_call 11; refine (HS.out _ _ _ (show RsAt _ _ L by first | exact rs_left (rs_own5 L1.out.2.1) | exact rs_left (rs_own5 L1.out.drew.2.1))).mono ?_; rintro r w2 ⟨rfl, hB⟩; have L2 := hide' (show Lw w w2 #[.string so, .int .i64 sy, .int .i64 sc, .int .i64 sl, .string D] bs g c p L by first | exact L1.out.step hB | exact L1.out.drew.step hB); clear hB)
    | (go_at_call 12; refine (HR.out _ _ _ (show RsAt _ _ L by first | exact L2.out.2.2.2 | exact L2.out.drew.2.2.2)).mono ?_; rintro r w3 ⟨rfl, hB⟩; have L3 := hide' (show Lw w w3 #[.string so, .int .i64 sy, .int .i64 sc, .int .i64 sl, .string D] bs g c p L by first | exact L2.out.step hB | exact L2.out.drew.step hB); clear hB)
    | (go_at_call 10; refine (wholeL_any L g c p cap _ HL.out (by first | exact rs_own5 L3.out.2.1 | exact rs_own5 L3.out.drew.2.1) (own_cap L3.out.2.1).1 (by first | exact L3.out.2.2.2 | exact L3.out.drew.2.2.2)).mono ?_; rintro r w4 ⟨rfl, hB⟩; have L4 := hide' (show Lw w w4 #[.string so, .int .i64 sy, .int .i64 sc, .int .i64 sl, .string D] bs g c p L by first | exact L3.out.step hB | exact L3.out.drew.step hB); clear hB))
  all_goals (go_wp2_with fail)
  all_goals go_ret
  all_goals (exact ⟨rfl, by first | exact L4.out.2.2.1 | exact L4.out.2.2.1.drew⟩)
end Go.Proofs.YtennkhdhnbdbeaaGreat

namespace Go.Proofs.YtennkhdhnbdbeaaGreat.sealVerifiesP
set_option linter.unusedVariables false
open Go.ChangeShapes Go.WideShapes Go.ChangeAt Go.RowKit Go.Deep
open Go.ChangeMaps (open_string shut_string)

theorem own : ownKnob Tryz.prog.godebug = none := by kernel_rfl
theorem laidOut : laidOutB Tryz.prog = true := by kernel_rfl

theorem cell_lt {W : World} {a : Addr} {v : Value} (h : W.cell? a = some v) : a.block < W.heap.size := by
  unfold World.cell? at h
  split at h
  · rename_i c e f hb
    exact (Array.getElem?_eq_some_iff.1 hb).1
  · cases h

theorem array5 {cs : Array Value} (h : cs.size = 5) : cs = #[cs.toList.getD 0 undef, cs.toList.getD 1 undef, cs.toList.getD 2 undef, cs.toList.getD 3 undef, cs.toList.getD 4 undef] := by
  obtain ⟨l⟩ := cs
  match l, h with
  | [x0, x1, x2, x3, x4], _ => rfl
section
variable {H : Type} {enc : TypeId × Value → H} {P : Program} {w : World} {base : Nat} {spare : Nat → Bool} {held : Bool}
/-- a struct of one-cell fields that comes in by value, with what it holds -/
theorem agg_openS {t : TypeId} {fs : Array Field} {r : Reach} {b0 : Nat} {v : Value} {d : DataW H} {p : List MemPlace} (hs : P.underlying t = some (.struct fs)) (hone : oneCellFields P fs = true) (hC : P.cellsOf t = fs.size)
    (hv : Value.okWide P w r b0 t v) (h : DataW.Trod enc P w base spare held t v d p) :
    ∃ (cs : Array Value) (n : Nat) (xs : List (DataW H × List MemPlace)), v = .agg cs ∧ cs.size = fs.size ∧ d = .agg (xs.map (·.1)) ∧ xs.length = fs.size ∧ ∀ (i : Nat) (f : Field), fs[i]? = some f → ∃ y, DataW.trod enc P w base spare held n f.type [cs.toList.getD i undef] = some y ∧ xs[i]? = some y := by
  obtain ⟨cs, rfl, hsz⟩ := okWide_struct hs hv
  obtain ⟨fuel, hf⟩ := h
  obtain ⟨xs, n, _, hx, _, hlen, hf'⟩ := DataW.trod_struct hs hf
  refine ⟨cs, n, xs, rfl, hsz.trans hC, congrArg Prod.fst hx, hlen, fun i f hi => ?_⟩
  have hlt : i < fs.size := (Array.getElem?_eq_some_iff.1 hi).1
  obtain ⟨ho, hc1⟩ := hone_of hone i f hi
  have g := hf' i f hi
  rw [ho, hc1] at g
  simp only [Value.cells] at g
  rw [take1_drop _ i undef (by rw [Array.length_toList]; omega)] at g
  exact ⟨xs[i]'(by omega), by rw [g, List.getElem?_eq_getElem (by omega)], List.getElem?_eq_getElem (by omega)⟩
end
set_option maxRecDepth 100000 in
/-- a record that comes in -/
theorem rec_open {H : Type} {enc : TypeId × Value → H} {w : World} {base : Nat} {spare : Nat → Bool} {held : Bool} {r : Reach} {b0 : Nat} {v : Value} {d : DataW H} {p : List MemPlace}
    (hv : Value.okWide Tryz.prog w r b0 27 v) (h : DataW.Trod enc Tryz.prog w base spare held 27 v d p) :
    ∃ (so : ByteArray) (sy sc sl : Int) (D : ByteArray), v = .agg #[.string so, .int .i64 sy, .int .i64 sc, .int .i64 sl, .string D] ∧ so.size + D.size + 6 ≤ Rows.uptoBulk d := by
  obtain ⟨fs, hs, hone, hC, h5, hty⟩ := struct_of Frs.oneR
  obtain ⟨cs, n, xs, rfl, hsz, rfl, hxl, hf⟩ := agg_openS hs hone hC hv h
  obtain ⟨f0, g0, t0⟩ := hty 0 (by omega)
  obtain ⟨f1, g1, t1⟩ := hty 1 (by omega)
  obtain ⟨f2, g2, t2⟩ := hty 2 (by omega)
  obtain ⟨f3, g3, t3⟩ := hty 3 (by omega)
  obtain ⟨f4, g4, t4⟩ := hty 4 (by omega)
  obtain ⟨y0, r0, k0⟩ := hf 0 f0 g0
  obtain ⟨y1, r1, k1⟩ := hf 1 f1 g1
  obtain ⟨y2, r2, k2⟩ := hf 2 f2 g2
  obtain ⟨y3, r3, k3⟩ := hf 3 f3 g3
  obtain ⟨y4, r4, k4⟩ := hf 4 f4 g4
  rw [← Option.some.inj t0] at r0
  rw [← Option.some.inj t1] at r1
  rw [← Option.some.inj t2] at r2
  rw [← Option.some.inj t3] at r3
  rw [← Option.some.inj t4] at r4
  obtain ⟨s0, e0, hy0, z0⟩ := DataW.trod_string Tryz.underlying9 r0
  obtain ⟨n1, e1, hy1, _⟩ := DataW.trod_int Tryz.underlying3 r1
  obtain ⟨n2, e2, hy2, _⟩ := DataW.trod_int Tryz.underlying3 r2
  obtain ⟨n3, e3, hy3, _⟩ := DataW.trod_int Tryz.underlying3 r3
  obtain ⟨s4, e4, hy4, z4⟩ := DataW.trod_string Tryz.underlying9 r4
  refine ⟨s0, n1, n2, n3, s4, ?_, ?_⟩
  · rw [array5 (hsz.trans h5)]
    simp only [List.cons.injEq, and_true] at e0 e1 e2 e3 e4
    rw [e0, e1, e2, e3, e4]
  · rw [h5] at hxl
    obtain ⟨l0, l1, l2, l3, l4, rfl⟩ : ∃ l0 l1 l2 l3 l4, xs = [l0, l1, l2, l3, l4] := by
      match xs, hxl with
      | [l0, l1, l2, l3, l4], _ => exact ⟨l0, l1, l2, l3, l4, rfl⟩
    simp only [List.getElem?_cons_zero, List.getElem?_cons_succ, Option.some.injEq] at k0 k1 k2 k3 k4
    subst k0
    subst k1
    subst k2
    subst k3
    subst k4
    rw [hy0, hy1, hy2, hy3, hy4]
    simp only [List.map_cons, List.map_nil, Rows.uptoBulk, Rows.uptoBulkAll, Array.length_toList]
    have q0 : s0.data.size = s0.size := rfl
    have q4 : s4.data.size = s4.size := rfl
    omega
set_option maxRecDepth 100000 in
theorem contract (H : Type) (enc : TypeId × Value → H) (W : World) (base : Nat) (args : Array Value) (ds gs : List (DataW H)) (before : List MemPlace)
    (hval : ∀ (j : Nat) t v, Tryz.f4.params[j]? = some t → args[j]? = some v → Value.okWide Tryz.prog W .any base t v)
    (hW : DataW.Whole enc Tryz.prog Tryz.f4.params.toList Rows.sealVerifiesSpec.vars false W args.toList ds gs before) (hk : Rows.uptoSmall H (ds ++ gs) = true) :
    Calls Tryz.prog 4 args W fun e W' => ∃ v, e = .returned v ∧ Rows.sealVerifiesSpec.post enc Tryz.prog Tryz.f4 false true false false W args v W' := by
  have hW' := hW
  obtain ⟨p, q, hA0, hV, rfl, _, _⟩ := hW
  have hA : DataW.TrodAll enc Tryz.prog W 0 (fun _ => true) true Tryz.f4.params.toList args.toList ds p := hA0
  rw [Tryz.params4] at hA hval
  obtain ⟨v0, vs0, d0, ds0, p0, q0, hargs, rfl, rfl, h0, r0⟩ := trodAll_cons hA
  obtain ⟨v1, vs1, d1, ds1, p1, q1, rfl, rfl, rfl, h1, r1⟩ := trodAll_cons r0
  obtain ⟨v2, vs2, d2, ds2, p2, q2, rfl, rfl, rfl, h2, r2⟩ := trodAll_cons r1
  obtain ⟨v3, vs3, d3, ds3, p3, q3, rfl, rfl, rfl, h3, r3⟩ := trodAll_cons r2
  obtain ⟨v4, vs4, d4, ds4, p4, q4, rfl, rfl, rfl, h4, r4⟩ := trodAll_cons r3
  obtain ⟨rfl, rfl, rfl⟩ := trodAll_nil r4
  obtain rfl : args = #[v0, v1, v2, v3, v4] := by cases args; simp_all
  obtain ⟨rfl, rfl⟩ := trodVars_none hV
  obtain ⟨s2, rfl, rfl, rfl, m2⟩ := open_string Tryz.underlying9 (hval 2 9 v2 rfl rfl) h2
  obtain ⟨s3, rfl, rfl, rfl, m3⟩ := open_string Tryz.underlying9 (hval 3 9 v3 rfl rfl) h3
  obtain ⟨a4, rfl, rfl, rfl, w4⟩ := open_int Tryz.underlying3 (hval 4 3 v4 rfl rfl) h4
  have k1 := h1
  have lt1 : ∀ x ∈ p1, x.block < W.heap.size := by obtain ⟨m, hm⟩ := k1; exact DataW.trod_lt m _ _ _ hm
  obtain ⟨so, sy, sc, sl, D, rfl, hrb⟩ := rec_open (hval 1 27 v1 rfl rfl) h1
  have k0 := h0
  have lt0 : ∀ x ∈ p0, x.block < W.heap.size := by obtain ⟨m, hm⟩ := k0; exact DataW.trod_lt m _ _ _ hm
  obtain ⟨pa, ca, L, rfl, hno, hat, hz, hlb, hroom, hoz⟩ : ∃ (a : Option Addr) (cap : Nat) (L : List Rn), v0 = .slice a L.length cap ∧ (a = none → cap = 0) ∧ RsAt W a L ∧ (∀ r ∈ L, r.o.size ≤ maxLen ∧ r.d.size ≤ 9223372036854775807) ∧ L.length ≤ Rows.uptoBulk d0 ∧ (0 < L.length → roomL L + 2 ≤ 2 * Rows.uptoBulk d0) ∧ ∀ r ∈ L, r.o.size ≤ Rows.uptoBulk d0 := by
    obtain ⟨fuel, hf⟩ := h0
    obtain ⟨z5, len5, cap5, hv5⟩ := okWide_slice Tryz.underlying24 (hval 0 24 v0 rfl rfl)
    have hc : v0.cells.toList = [v0] := by rw [hv5]; rfl
    rw [hc] at hf
    exact Frt.rs_openT hf
  clear hA0
  have hb : Rows.uptoBulkAll [d0, d1, DataW.lit (H := H) (.string s2.data.toList), .lit (.string s3.data.toList), .lit (.int .i64 a4)] ≤ 1048576 := by
    have : Rows.uptoBulkAll ([d0, d1, DataW.lit (H := H) (.string s2.data.toList), .lit (.string s3.data.toList), .lit (.int .i64 a4)] ++ []) ≤ 1048576 := of_decide_eq_true hk
    rwa [List.append_nil] at this
  have e2 : s2.data.toList.length = s2.size := by rw [Array.length_toList]; rfl
  have e3 : s3.data.toList.length = s3.size := by rw [Array.length_toList]; rfl
  have hb2 : Rows.uptoBulk d0 + Rows.uptoBulk d1 + s2.size + s3.size ≤ 1048576 := by
    simp only [Rows.uptoBulkAll] at hb
    have e5 : ∀ s : ByteArray, Rows.uptoBulk (DataW.lit (H := H) (.string s.data.toList)) = s.data.toList.length + 1 := fun s => rfl
    rw [e5, e5] at hb
    omega
  have hrm : D.size + roomL L ≤ 2097152 := by
    rcases Nat.eq_zero_or_pos L.length with h | h
    · have : L = [] := List.length_eq_zero_iff.1 h
      subst this
      show D.size + 0 ≤ _
      omega
    · have := hroom h
      omega
  refine (sealVerifies_any L pa ca so D s2 s3 sy sc sl a4 W (by omega) hat hno (fun r hr => ⟨by have := hoz r hr; omega, (hz r hr).2⟩) (by omega) (by omega) (by omega) (by omega) hrm).mono fun e W' ⟨he, bel⟩ => ?_
  subst he
  exact ⟨_, rfl, _, _, _, [], _, [], hW', trodAll_mk1 (shut_bool Tryz.underlying4 _), (trodAll_cons_mk (Below.trod laidOut (by kernel_rfl) (of_decide_eq_true (by kernel_rfl)) k0 bel lt0) (trodAll_cons_mk (Below.trod laidOut (by kernel_rfl) (of_decide_eq_true (by kernel_rfl)) k1 bel lt1) (trodAll_cons_mk (shut_string Tryz.underlying9 m2) (trodAll_cons_mk (shut_string Tryz.underlying9 m3) (trodAll_cons_mk (shut_int Tryz.underlying3 w4) trodAll_mk0))))), rfl, bel.frame _, fun h => by cases h⟩

set_option maxRecDepth 100000 in
theorem lifted (os : Os) (started : os.Started) (H : Type) (enc : TypeId × Value → H) (F : Stop.Interp) :
    ReturnsInHanded {} Tryz.checked os 4 .any ((Rows.OpenSpec.upto Rows.sealVerifiesSpec).pre6 enc Tryz.prog Tryz.f4 Rows.sealVerifiesUptoRow.domain false) (((Rows.OpenSpec.upto Rows.sealVerifiesSpec).at F).post enc Tryz.prog Tryz.f4 false true false false) := by
  refine returnsInHanded_of_cond (C := Tryz.checked) (s := Rows.OpenSpec.upto Rows.sealVerifiesSpec) (k := Rows.uptoSmall) rfl own started (by kernel_rfl) Tryz.func4
    (OpenSpec.witness (enc := enc) (C := Tryz.checked) (s := Rows.OpenSpec.upto Rows.sealVerifiesSpec) (k := Rows.uptoSmall) rfl false ⟨#[], #[.slice none 0 0, .agg #[.string .empty, .int .i64 0, .int .i64 0, .int .i64 0, .string .empty], .string .empty, .string .empty, .int .i64 0], []⟩ 8 (by kernel_rfl) (by kernel_rfl) (by kernel_rfl)
      (x := ([.nil, .agg [.lit (.string []), .lit (.int .i64 0), .lit (.int .i64 0), .lit (.int .i64 0), .lit (.string [])], .lit (.string []), .lit (.string []), .lit (.int .i64 0)], [], [])) (by kernel_rfl) rfl (by kernel_rfl)) ?_
  intro W base args ds gs before hval hW _ hk _
  exact contract H enc W base args ds gs before hval hW hk

theorem proved : Rows.SealVerifiesUptoSaid :=
  OpenClaim.holds_of_cond 4 Tryz.f4 rfl rfl rfl rfl rfl rfl rfl ⟨rfl, rfl, rfl, rfl, rfl⟩ rfl rfl rfl rfl rfl (by kernel_rfl) Tryz.func4 (by kernel_rfl)
    (of_decide_eq_true (by kernel_rfl)) (by unfold Func.isWrapper; first | (rw [if_pos (by decide +kernel)]; kernel_rfl) | (rw [if_neg (by decide +kernel)]; exact ⟨rfl, rfl⟩))
    (fun os started H enc _ F => lifted os started H enc F)
end Go.Proofs.YtennkhdhnbdbeaaGreat.sealVerifiesP
namespace Go.Proofs.YtennkhdhnbdbeaaGreat
theorem sealVerifies_upto : Rows.SealVerifiesUptoSaid := sealVerifiesP.proved
end Go.Proofs.YtennkhdhnbdbeaaGreat
