import Derived.Test.YtennkhdhnbdbeaaGreatFt1G
import Derived.Test.YtennkhdhnbdbeaaGreatOw1
import Derived.Laws.AppendOwnNone
import Derived.Lib.SliceRun
import Derived.Deep.AppendLies
import Derived.Deep.RegionHeld3
import Derived.Test.YtennkhdhnbdbeaaGreatMathG
import Derived.Test.YtennkhdhnbdbeaaGreatChecked
import Derived.Deep.Fields
import Derived.ChangeSlices
import Derived.Test.YtennkhdhnbdbeaaGreatSgt
import Derived.Test.YtennkhdhnbdbeaaGreatRows
import Derived.Test.YtennkhdhnbdbeaaGreatSgd
import Derived.Test.YtennkhdhnbdbeaaGreatSghG
import Derived.Test.YtennkhdhnbdbeaaGreatTi7G
import Derived.ProofKit
import Derived.OpenShut
import Derived.JoinedCond
import Derived.ShutString
import Derived.ChangeOld
import Derived.Carry
/-
  gazetteersame's Spare, Twin. (The verifier's own text.)
-/
namespace Go.Proofs.YtennkhdhnbdbeaaGreat
set_option linter.unusedVariables false
open Go.RowKit Go.Shelf Go.Maps Go.Proofs.YtennkhdhnbdbeaaGreat.Nm

def spT : ByteArray := ⟨#[115, 112, 97, 114, 101]⟩
/-- the record that no list has -/
def spR : Rn := ⟨spT, -77, -77, -77, spT⟩
theorem own_below {w w' : World} {b e s n : Nat} {v : Value} {xs : List Value} (h : w.ownsRow b e s v n xs) (hb : Below w.heap.size w w') : w'.ownsRow b e s v n xs := own_blk h (fun g eg => hb.block g (h.lt g eg).2)

theorem own_cap {w : World} {b e s n m c : Nat} {p : Option Addr} {xs : List Value} (h : w.ownsRow b e s (.slice p m c) n xs) : n ≤ c ∧ c ≤ maxLen := by
  obtain ⟨_, _, hsh, h1, h2, _⟩ := own_shape h
  injection hsh with _ _ hsh
  subst hsh
  exact ⟨h1, h2⟩
set_option maxRecDepth 100000 in
set_option maxHeartbeats 1000000 in
/-- gazetteersame.Spare -/
theorem spare_any (w : World) : Calls Tryz.prog 19 #[] w fun e w' => e = .returned (.agg #[.string spT, .int .i64 (-77), .int .i64 (-77), .int .i64 (-77), .string spT]) ∧ Below w.heap.size w w' := by
  have hB0 : ∀ o : Obj, Below w.heap.size w (w.alloc o) := fun o => (Below.refl _ w).alloc (Nat.le_refl _) o
  go_enter Tryz.func19, Tryz.ntmps19
  go_wp2
  refine bodyPost_ret (v := .agg #[.string spT, .int .i64 (-77), .int .i64 (-77), .int .i64 (-77), .string spT]) (by simp [results, go_sem]; rfl) rfl ⟨rfl, hB0 _⟩

set_option maxRecDepth 100000 in
set_option maxHeartbeats 2000000 in
/-- gazetteersame.Twin -/
theorem twin_any (L : List Rn) (p : Option Addr) (cap : Nat) (w : World) (hL : L.length ≤ 1048576) (hat : RsAt w p L) (hn : p = none → cap = 0) :
    Calls Tryz.prog 7 #[.slice p L.length cap] w fun r w' => ∃ g c, r = .returned (.slice (some ⟨g, 0, none⟩) L.length c) ∧ w'.ownsRow w.heap.size 27 5 (.slice (some ⟨g, 0, none⟩) (L.length + 2) c) (L.length + 2) (rce5 (L ++ [spR, spR])) ∧ Below w.heap.size w w' := by
  obtain ⟨i0, hi, hz0, hz1, hz2⟩ := info_parts infoRM
  have HI := hide' (And.intro hi (And.intro hz0 (And.intro hz1 hz2)))
  clear hi hz0 hz1 hz2
  have T1 : Hid True := trivial
  cases p with
  | none =>
    obtain rfl : L = [] := by
      cases L with
      | nil => rfl
      | cons y l => obtain ⟨g, off, hp, _⟩ := hat 0 (by simp); cases hp
    obtain rfl := hn rfl
    go_enter Tryz.func7, Tryz.ntmps7
    go_wp2_with (first
      | (at_builtin; have _ := T1; clear T1; refine wpList_append_own_none rfl _ _ 24 rfl w.heap.size 27 i0 5 Tryz.underlying24 HI.out.1 (.slice none 0 0) 0 [] rfl (World.ownsRow_nil _ _ _ _) rfl ?_; have T2 : Hid True := trivial)
      | (go_at_call 19; have _ := T2; clear T2; refine (spare_any _).mono ?_; rintro e w1 ⟨rfl, hB1⟩; have HB1 := hide' hB1; clear hB1; have T3 : Hid True := trivial)
      | (go_at_call 19; have _ := T3; clear T3; refine (spare_any _).mono ?_; rintro e w2 ⟨rfl, hB2⟩; have HB2 := hide' (bstep HB1.out hB2 HB1.out.size); clear hB2; have T4 : Hid True := trivial)
      | (at_builtin; have _ := T4; clear T4; refine wpList_append_own _ rfl _ _ 24 rfl w.heap.size 27 i0 (.agg #[.string .empty, .int .i64 0, .int .i64 0, .int .i64 0, .string .empty]) 5 56 Tryz.underlying24 HI.out.1 HI.out.2.1 HI.out.2.2.1 HI.out.2.2.2 rfl (by decide) (.slice none 0 0) 0 [] rfl (World.ownsRow_nil _ _ _ _) ⟨_, 0, none⟩ 2 2 (rce5 [spR, spR]) rfl rfl (fun j u h => World.news_of_block (World.alloc_heap_new w2 (.cells #[.string spT, .int .i64 (-77), .int .i64 (-77), .int .i64 (-77), .string spT, .string spT, .int .i64 (-77), .int .i64 (-77), .int .i64 (-77), .string spT] 27)) j u h) (rce5_one _) (by unfold maxLen; omega) (by omega) (HB2.out.alloc HB2.out.size (.cells #[.string spT, .int .i64 (-77), .int .i64 (-77), .int .i64 (-77), .string spT, .string spT, .int .i64 (-77), .int .i64 (-77), .int .i64 (-77), .string spT] 27)).size ?_; intro v5 w5 hown5 hgrow5 _; obtain ⟨g5, c5, rfl⟩ := owns_some hown5 (by omega); have HO5 := hide' hown5; have HB5 := hide' ((HB2.out.alloc HB2.out.size (.cells #[.string spT, .int .i64 (-77), .int .i64 (-77), .int .i64 (-77), .string spT, .string spT, .int .i64 (-77), .int .i64 (-77), .int .i64 (-77), .string spT] 27)).grown hgrow5 (HB2.out.alloc HB2.out.size (.cells #[.string spT, .int .i64 (-77), .int .i64 (-77), .int .i64 (-77), .string spT, .string spT, .int .i64 (-77), .int .i64 (-77), .int .i64 (-77), .string spT] 27)).size (fun q e => by cases e)); have hc5 := own_cap hown5; clear hown5 hgrow5))
    go_ret
    exact ⟨g5, c5, rfl, HO5.out, HB5.out⟩
  | some ad =>
    have HA := hide' (fun j u => rs_newsM (hat : RsAt w (some ad) L) j u)
    have HRC : Hid (rce5 (L ++ [spR, spR]) = rce5 L ++ rce5 [spR, spR]) := by unfold Hid rce5; rw [List.flatMap_append]
    clear hat
    go_enter Tryz.func7, Tryz.ntmps7
    go_wp2_with (first
      | (at_builtin; have _ := T1; clear T1; refine wpList_append_own _ rfl _ _ 24 rfl w.heap.size 27 i0 (.agg #[.string .empty, .int .i64 0, .int .i64 0, .int .i64 0, .string .empty]) 5 56 Tryz.underlying24 HI.out.1 HI.out.2.1 HI.out.2.2.1 HI.out.2.2.2 rfl (by decide) (.slice none 0 0) 0 [] rfl (World.ownsRow_nil _ _ _ _) ad L.length cap (rce5 L) rfl (rce5_len L) HA.out (rce5_one L) (by unfold maxLen; omega) (by omega) (Nat.le_refl _) ?_; intro v0 w0 ho0 hg0 _; rw [Nat.zero_add, List.nil_append] at ho0; have HO0 := hide' ho0; have HB0 := hide' ((Below.refl w.heap.size w).grown hg0 (Nat.le_refl _) (fun q e => by cases e)); clear ho0 hg0; have T2 : Hid True := trivial)
      | (go_at_call 19; have _ := T2; clear T2; refine (spare_any _).mono ?_; rintro e w1 ⟨rfl, hB1⟩; have HO1 := hide' (own_below HO0.out hB1); have HB1 := hide' (bstep HB0.out hB1 HB0.out.size); clear hB1; have T3 : Hid True := trivial)
      | (go_at_call 19; have _ := T3; clear T3; refine (spare_any _).mono ?_; rintro e w2 ⟨rfl, hB2⟩; have HO2 := hide' (own_below HO1.out hB2); have HB2 := hide' (bstep HB1.out hB2 HB1.out.size); clear hB2; have T4 : Hid True := trivial)
      | (at_builtin; have _ := T4; clear T4; refine wpList_append_own _ rfl _ _ 24 rfl w.heap.size 27 i0 (.agg #[.string .empty, .int .i64 0, .int .i64 0, .int .i64 0, .string .empty]) 5 56 Tryz.underlying24 HI.out.1 HI.out.2.1 HI.out.2.2.1 HI.out.2.2.2 rfl (by decide) v0 L.length (rce5 L) rfl (HO2.out.alloc _) ⟨_, 0, none⟩ 2 2 (rce5 [spR, spR]) rfl rfl (fun j u h => World.news_of_block (World.alloc_heap_new w2 (.cells #[.string spT, .int .i64 (-77), .int .i64 (-77), .int .i64 (-77), .string spT, .string spT, .int .i64 (-77), .int .i64 (-77), .int .i64 (-77), .string spT] 27)) j u h) (rce5_one _) (by unfold maxLen; omega) (by omega) (HB2.out.alloc HB2.out.size (.cells #[.string spT, .int .i64 (-77), .int .i64 (-77), .int .i64 (-77), .string spT, .string spT, .int .i64 (-77), .int .i64 (-77), .int .i64 (-77), .string spT] 27)).size ?_; intro v5 w5 hown5 hgrow5 _; obtain ⟨g5, c5, rfl⟩ := owns_some hown5 (by omega); have HO5 := hide' hown5; have HB5 := hide' ((HB2.out.alloc HB2.out.size (.cells #[.string spT, .int .i64 (-77), .int .i64 (-77), .int .i64 (-77), .string spT, .string spT, .int .i64 (-77), .int .i64 (-77), .int .i64 (-77), .string spT] 27)).grown hgrow5 (HB2.out.alloc HB2.out.size (.cells #[.string spT, .int .i64 (-77), .int .i64 (-77), .int .i64 (-77), .string spT, .string spT, .int .i64 (-77), .int .i64 (-77), .int .i64 (-77), .string spT] 27)).size (fun q e => (HO2.out.lt q e).1)); have hc5 := own_cap hown5; clear hown5 hgrow5))
    go_ret
    exact ⟨g5, c5, rfl, by rw [HRC.out]; exact HO5.out, HB5.out⟩
end Go.Proofs.YtennkhdhnbdbeaaGreat

/-
  gazetteersame's Whole. (The verifier's own text.)
-/
namespace Go.Proofs.YtennkhdhnbdbeaaGreat
set_option linter.unusedVariables false
open Go.RowKit Go.Shelf Go.Maps Go.Proofs.YtennkhdhnbdbeaaGreat.Nm

set_option maxRecDepth 100000 in
set_option maxHeartbeats 2000000 in
/-- gazetteersame.Records, at the same list -/
theorem sameRecords2 (p1 p2 : Option Addr) (n c1 c2 : Nat) (L : List Rn) (w : World) (hx : RsAt w p1 L) (hy : RsAt w p2 L) (hn : n = L.length) (hl : n ≤ 4294967296) :
    Calls Tryz.prog 45 #[.slice p1 n c1, .slice p2 n c2] w fun e w' => e = .returned (.bool true) ∧ ∃ m, w' = w.drewN m := by
  have HX := hide' hx
  have HY := hide' hy
  have HN := hide' hn
  clear hx hy hn
  go_enter Tryz.func45, Tryz.ntmps45
  go_wp2
  go_loopw [13] (fun i wr => ∃ k m : Nat, i = .int .i64 k ∧ k ≤ n ∧ wr = w.drewN m) (fun i _ => n - (intOf i).toNat)
  case atStart => exact ⟨0, 0, rfl, Nat.zero_le _, rfl⟩
  case round =>
    obtain ⟨k, m, rfl, hk, rfl⟩ := hrel
    by_cases hlt : k < n
    · obtain ⟨g1, o1, rfl, _, x0, x1, x2, x3, x4⟩ := HX.out k (by rw [← HN.out]; exact hlt)
      obtain ⟨g2, o2, rfl, _, y0, y1, y2, y3, y4⟩ := HY.out k (by rw [← HN.out]; exact hlt)
      generalize L[k].o = qo at *
      generalize L[k].t = qt at *
      generalize L[k].c = qc at *
      generalize L[k].l = ql at *
      generalize L[k].d = qd at *
      go_wp2
      go_quiet (fail)
      go_wp2
      go_roundw
      case rel => exact ⟨k + 1, m + nq, by go_num, by omega, rfl⟩
      case measure => simp [intOf]; omega
    · go_wp2
      go_ret
      exact ⟨rfl, m, rfl⟩
theorem rs_own5 {w : World} {b g c n : Nat} {L : List Rn} (h : w.ownsRow b 27 5 (.slice (some ⟨g, 0, none⟩) n c) n (rce5 L)) : RsAt w (some ⟨g, 0, none⟩) L := fun k hk => by
  obtain ⟨rest, h1, _⟩ := rb_ownM h
  obtain ⟨e0, e1, e2, e3, e4⟩ := h1.cells hk
  exact ⟨g, 0, rfl, h1.lt, by simpa using e0, by simpa using e1, by simpa using e2, by simpa using e3, by simpa using e4⟩
theorem rs_left {w : World} {p : Option Addr} {L M : List Rn} (h : RsAt w p (L ++ M)) : RsAt w p L := fun k hk => by
  obtain ⟨g, off, h1, h2, h3, h4, h5, h6, h7⟩ := h k (by rw [List.length_append]; omega)
  rw [List.getElem_append_left hk] at h3 h4 h5 h6 h7
  exact ⟨g, off, h1, h2, h3, h4, h5, h6, h7⟩
/-- the two that stand behind -/
theorem rs_spare {w : World} {g : Nat} {L : List Rn} (h : RsAt w (some ⟨g, 0, none⟩) (L ++ [spR, spR])) (j : Nat) (hj : j < 2) : w.cell? ⟨g, (L.length + j) * 5, none⟩ = some (.string spT) ∧ w.cell? ⟨g, (L.length + j) * 5 + 1, none⟩ = some (.int .i64 (-77)) ∧ w.cell? ⟨g, (L.length + j) * 5 + 2, none⟩ = some (.int .i64 (-77)) ∧ w.cell? ⟨g, (L.length + j) * 5 + 3, none⟩ = some (.int .i64 (-77)) ∧ w.cell? ⟨g, (L.length + j) * 5 + 4, none⟩ = some (.string spT) := by
  have hlt : L.length + j < (L ++ [spR, spR]).length := by simp; omega
  obtain ⟨g', off, h1, h2, h3, h4, h5, h6, h7⟩ := h (L.length + j) hlt
  have hs : (L ++ [spR, spR])[L.length + j]'hlt = spR := by
    rw [List.getElem_append_right (by omega)]
    match j, hj with
    | 0, _ => simp
    | 1, _ => simp
  injection h1 with h1
  injection h1 with h1 h0
  subst h1; subst h0
  rw [hs] at h3 h4 h5 h6 h7
  simp only [Nat.zero_add] at h3 h4 h5 h6 h7
  exact ⟨h3, h4, h5, h6, h7⟩

set_option maxRecDepth 100000 in
set_option maxHeartbeats 4000000 in
/-- gazetteersame.Whole -/
theorem wholeL_any (L : List Rn) (g c : Nat) (p : Option Addr) (cap : Nat) (w : World) (hL : L.length ≤ 1048576) (hg : RsAt w (some ⟨g, 0, none⟩) (L ++ [spR, spR])) (hc : L.length + 2 ≤ c) (hat : RsAt w p L) :
    Calls Tryz.prog 10 #[.slice (some ⟨g, 0, none⟩) L.length c, .slice p L.length cap] w fun e w' => e = .returned (.bool true) ∧ Below w.heap.size w w' := by
  have HG := hide' hg
  have HA := hide' hat
  have HQ : Hid (∀ W : World, Below w.heap.size w W → W.cell? ⟨g, L.length * 5, none⟩ = some (.string spT) ∧ W.cell? ⟨g, L.length * 5 + 1, none⟩ = some (.int .i64 (-77)) ∧ W.cell? ⟨g, L.length * 5 + 2, none⟩ = some (.int .i64 (-77)) ∧ W.cell? ⟨g, L.length * 5 + 3, none⟩ = some (.int .i64 (-77)) ∧ W.cell? ⟨g, L.length * 5 + 4, none⟩ = some (.string spT) ∧ W.cell? ⟨g, (L.length + 1) * 5, none⟩ = some (.string spT) ∧ W.cell? ⟨g, (L.length + 1) * 5 + 1, none⟩ = some (.int .i64 (-77)) ∧ W.cell? ⟨g, (L.length + 1) * 5 + 2, none⟩ = some (.int .i64 (-77)) ∧ W.cell? ⟨g, (L.length + 1) * 5 + 3, none⟩ = some (.int .i64 (-77)) ∧ W.cell? ⟨g, (L.length + 1) * 5 + 4, none⟩ = some (.string spT)) := fun W hb => by
    obtain ⟨p0, p1, p2, p3, p4⟩ := rs_spare (rsAt_below7 HG.out hb) 0 (by omega)
    obtain ⟨r0, r1, r2, r3, r4⟩ := rs_spare (rsAt_below7 HG.out hb) 1 (by omega)
    exact ⟨p0, p1, p2, p3, p4, r0, r1, r2, r3, r4⟩
  clear hg hat
  have T1 : Hid True := trivial
  have HB0 : Hid (Below w.heap.size w w) := Below.refl _ _
  have hI1 : L.length + 1 < L.length + 2 := by omega
  have hI0 : L.length < L.length + 2 := by omega
  have hw1 : IntKind.i64.wrap ((L.length : Int) + 1) = (L.length : Int) + 1 := by rw [IntWalk.i64_in] <;> omega
  have hJ0 : (0 : Int) ≤ (L.length : Int) := by omega
  have hJ1 : (L.length : Int) < (L.length : Int) + 2 := by omega
  have hJ2 : (0 : Int) ≤ (L.length : Int) + 1 := by omega
  have hJ3 : (L.length : Int) + 1 < (L.length : Int) + 2 := by omega
  have hJ4 : ((L.length : Int) + 1).toNat = L.length + 1 := by omega
  obtain ⟨a0, a1, a2, a3, a4, b0, b1, b2, b3, b4⟩ := HQ.out w HB0.out
  go_enter Tryz.func10, Tryz.ntmps10
  go_wp2_with fail
  go_region_held3 (fun W => W.cell? ⟨g, L.length * 5, none⟩ = some (.string spT) ∧ W.cell? ⟨g, L.length * 5 + 1, none⟩ = some (.int .i64 (-77)) ∧ W.cell? ⟨g, L.length * 5 + 2, none⟩ = some (.int .i64 (-77)) ∧ W.cell? ⟨g, L.length * 5 + 3, none⟩ = some (.int .i64 (-77)) ∧ W.cell? ⟨g, L.length * 5 + 4, none⟩ = some (.string spT) ∧ W.cell? ⟨g, (L.length + 1) * 5, none⟩ = some (.string spT) ∧ W.cell? ⟨g, (L.length + 1) * 5 + 1, none⟩ = some (.int .i64 (-77)) ∧ W.cell? ⟨g, (L.length + 1) * 5 + 2, none⟩ = some (.int .i64 (-77)) ∧ W.cell? ⟨g, (L.length + 1) * 5 + 3, none⟩ = some (.int .i64 (-77)) ∧ W.cell? ⟨g, (L.length + 1) * 5 + 4, none⟩ = some (.string spT)) (first | go_keep | exact HQ.out _ HB3.out | exact HQ.out _ HB2.out | exact HQ.out _ HB1.out | exact HQ.out _ HB0.out) (first
    | (go_at_call 45; have _ := T1; clear T1; refine Calls.mono (show Calls Tryz.prog 45 _ _ (fun e w' => e = .returned (.bool true) ∧ Below w.heap.size w w') by first | exact (sameRecords2 (some ⟨g, 0, none⟩) p L.length c cap L w (rs_left HG.out) HA.out rfl (by omega)).mono (fun e w' ⟨h1, m, h2⟩ => ⟨h1, h2 ▸ below_drewN (Below.refl _ w) m⟩) | exact (sameRecords2 (some ⟨g, 0, none⟩) p L.length c cap L w.drew (rs_left HG.out) HA.out rfl (by omega)).mono (fun e w' ⟨h1, m, h2⟩ => ⟨h1, h2 ▸ below_drewN ((Below.refl _ w).drew) m⟩)) ?_; rintro e w1 ⟨rfl, hB1⟩; have HB1 := hide' hB1; clear hB1; have T2 : Hid True := trivial)
    | (go_at_call 19; have _ := T2; clear T2; refine (spare_any _).mono ?_; rintro e w2 ⟨rfl, hB2⟩; have HB2 : Hid (Below w.heap.size w w2) := (by first | exact bstep HB1.out hB2 HB1.out.size | exact bstep HB1.out.drew hB2 HB1.out.size); clear hB2; have T3 : Hid True := trivial)
    | (go_at_call 19; have _ := T3; clear T3; refine (spare_any _).mono ?_; rintro e w3 ⟨rfl, hB3⟩; have HB3 : Hid (Below w.heap.size w w3) := (by first | exact bstep HB2.out hB3 HB2.out.size | exact bstep HB2.out.drew hB3 HB2.out.size); clear hB3))
  all_goals
    go_wp2_with fail
    go_ret
    first
      | exact ⟨rfl, HB3.out⟩
      | exact ⟨rfl, HB3.out.drew⟩
end Go.Proofs.YtennkhdhnbdbeaaGreat

namespace Go.Proofs.YtennkhdhnbdbeaaGreat
set_option linter.unusedVariables false
open Go.ChangeShapes Go.WideShapes Go.Deep

section
variable {H : Type} {enc : TypeId × Value → H} {P : Program} {w : World} {base : Nat} {spare : Nat → Bool} {held : Bool}

/-- a struct of one-cell fields that comes in by value -/
theorem agg_open {t : TypeId} {fs : Array Field} {r : Reach} {b0 : Nat} {v : Value} {d : DataW H} {p : List MemPlace} (hs : P.underlying t = some (.struct fs)) (hone : oneCellFields P fs = true) (hC : P.cellsOf t = fs.size)
    (hv : Value.okWide P w r b0 t v) (h : DataW.Trod enc P w base spare held t v d p) :
    ∃ (cs : Array Value) (n : Nat), v = .agg cs ∧ cs.size = fs.size ∧ ∀ (i : Nat) (f : Field), fs[i]? = some f → ∃ y, DataW.trod enc P w base spare held n f.type [cs.toList.getD i undef] = some y := by
  obtain ⟨cs, rfl, hsz⟩ := okWide_struct hs hv
  obtain ⟨fuel, hf⟩ := h
  obtain ⟨xs, n, _, _, _, hlen, hf'⟩ := DataW.trod_struct hs hf
  refine ⟨cs, n, rfl, hsz.trans hC, fun i f hi => ?_⟩
  have hlt : i < fs.size := (Array.getElem?_eq_some_iff.1 hi).1
  obtain ⟨ho, hc1⟩ := hone_of hone i f hi
  have g := hf' i f hi
  rw [ho, hc1] at g
  simp only [Value.cells] at g
  rw [take1_drop _ i undef (by rw [Array.length_toList]; omega)] at g
  exact ⟨xs[i]'(by omega), by rw [g, List.getElem?_eq_getElem (by omega)]⟩

end
theorem struct_of {t : TypeId} {k : Nat} {ts : List TypeId} (h : (Tryz.prog.underlying t).bind (fun u => match u with | .struct fs => some (oneCellFields Tryz.prog fs && decide (Tryz.prog.cellsOf t = fs.size) && decide (fs.size = k) && (fs.toList.map (·.type) == ts)) | _ => none) = some true) :
    ∃ fs : Array Field, Tryz.prog.underlying t = some (.struct fs) ∧ oneCellFields Tryz.prog fs = true ∧ Tryz.prog.cellsOf t = fs.size ∧ fs.size = k ∧ ∀ j, j < k → ∃ f, fs[j]? = some f ∧ ts[j]? = some f.type := by
  obtain ⟨u, hu, h⟩ := Option.bind_eq_some_iff.1 h
  split at h
  · rename_i fs
    simp only [Option.some.injEq, Bool.and_eq_true, decide_eq_true_eq, beq_iff_eq] at h
    refine ⟨fs, hu, h.1.1.1, h.1.1.2, h.1.2, fun j hj => ?_⟩
    have hj' : j < fs.size := by omega
    refine ⟨fs[j], by simp [hj'], ?_⟩
    rw [← h.2]
    simp [hj']
  · cases h

end Go.Proofs.YtennkhdhnbdbeaaGreat

/-
  Rows of structs that come in, and how much they hold. (The verifier's own text.)
-/
namespace Go.Proofs.YtennkhdhnbdbeaaGreat.Frs
set_option linter.unusedVariables false
set_option linter.unusedSimpArgs false
open Go.RowKit Go.Shelf Go.Maps Go.Proofs.YtennkhdhnbdbeaaGreat.Nm
open Go.ChangeShapes Go.WideShapes Go.Deep

theorem bulk_pos {H : Type} (d : DataW H) : 1 ≤ Rows.uptoBulk d := by
  cases d with
  | lit l => cases l <;> simp [Rows.uptoBulk]
  | _ => simp [Rows.uptoBulk]
theorem bulk_len {H : Type} : ∀ l : List (DataW H), l.length ≤ Rows.uptoBulkAll l
  | [] => by simp [Rows.uptoBulkAll]
  | d :: l => by
    have := bulk_len l
    have := bulk_pos d
    simp only [Rows.uptoBulkAll, List.length_cons]
    omega
theorem bulk_sum {H : Type} : ∀ l : List (DataW H), Rows.uptoBulkAll l = (l.map Rows.uptoBulk).sum
  | [] => rfl
  | d :: l => by
    have h := bulk_sum l
    simp only [Rows.uptoBulkAll, List.map_cons, List.sum_cons]
    omega
theorem oneR : (Tryz.prog.underlying 27).bind (fun t => match t with | .struct fs => some (oneCellFields Tryz.prog fs && decide (Tryz.prog.cellsOf 27 = fs.size) && decide (fs.size = 5) && (fs.toList.map (·.type) == [9, 3, 3, 3, 9])) | _ => none) = some true := by kernel_rfl
section
variable {H : Type} {enc : TypeId × Value → H} {P : Program} {w : World} {base : Nat} {spare : Nat → Bool} {held : Bool}

/-- a slice of such structs -/
theorem rows_openS {t e : TypeId} {fs : Array Field} {fuel : Nat} {v : Value} {x : DataW H × List MemPlace} (ht : P.underlying t = some (.slice e)) (he : P.underlying e = some (.struct fs)) (hone : oneCellFields P fs = true) (hC : P.cellsOf e = fs.size) (hpos : 0 < fs.size)
    (h : DataW.trod enc P w base spare held fuel t [v] = some x) :
    ∃ (a : Option Addr) (len cap : Nat) (D : Nat → DataW H), v = .slice a len cap ∧ (a = none → cap = 0) ∧ len ≤ Rows.uptoBulk x.1 ∧ (0 < len → Rows.uptoBulkAll ((List.range len).map D) + 1 ≤ Rows.uptoBulk x.1) ∧ ∀ i, i < len → ∃ b o n, ∃ xs : List (DataW H × List MemPlace), a = some ⟨b, o, none⟩ ∧ b < w.heap.size ∧ D i = .agg (xs.map (·.1)) ∧ xs.length = fs.size ∧ ∀ (j : Nat) (f : Field), fs[j]? = some f → ∃ V y, w.cell? ⟨b, o + i * fs.size + j, none⟩ = some V ∧ DataW.trod enc P w base spare held n f.type [V] = some y ∧ xs[j]? = some y := by
  rcases open_slice ht h with ⟨hv, _⟩ | ⟨a, len, cap, m, n, D, Pl, hv, hb, hl, hm, hmm, hx, hel⟩
  · obtain rfl : v = .slice none 0 0 := by simpa using hv
    exact ⟨none, 0, 0, fun _ => .nil, rfl, fun _ => rfl, Nat.zero_le _, fun h => absurd h (Nat.lt_irrefl _), fun i hi => absurd hi (Nat.not_lt_zero _)⟩
  · obtain rfl : v = .slice (some a) len cap := by simpa using hv
    have hlb : len ≤ Rows.uptoBulk x.1 := by
      rw [hx]
      have := bulk_len ((List.range len).map D)
      simp only [List.length_map, List.length_range] at this
      simp only [Rows.uptoBulk]
      omega
    have hsum : Rows.uptoBulkAll ((List.range len).map D) + 1 ≤ Rows.uptoBulk x.1 := by
      rw [hx]
      simp only [Rows.uptoBulk]
      omega
    refine ⟨some a, len, cap, D, rfl, (fun e => by cases e), hlb, fun _ => hsum, fun i hi => ?_⟩
    obtain ⟨b, o, spot⟩ := a
    have hspot : spot = none := by
      obtain ⟨cs0, hcs0, _⟩ := hel 0 (by rw [hmm]; split <;> omega)
      rw [hC] at hcs0
      obtain ⟨_, hlen0, hcell0⟩ := World.cells?_some hcs0
      have h0 := hcell0 0 hpos
      rw [List.getElem?_eq_getElem (by omega)] at h0
      have := World.cell?_spot h0
      simpa [Addr.add] using this
    obtain ⟨cs', hcs, htr⟩ := hel i (by rw [hmm]; split <;> omega)
    rw [hC] at hcs
    obtain ⟨_, hlen, hcell⟩ := World.cells?_some hcs
    obtain ⟨xs, k, _, hxe, _, hxl, hf⟩ := DataW.trod_struct he htr
    have h0 := hcell 0 hpos
    rw [List.getElem?_eq_getElem (by omega)] at h0
    subst hspot
    have ha : ∀ j, ((⟨b, o, none⟩ : Addr).add (i * fs.size)).add j = ⟨b, o + i * fs.size + j, none⟩ := fun j => by rw [add_add, addr_add, Nat.add_assoc]
    refine ⟨b, o, k, xs, rfl, ?_, congrArg Prod.fst hxe, hxl, fun j f hj => ?_⟩
    · rw [ha] at h0
      unfold World.cell? at h0
      split at h0
      · rename_i hh
        exact (Array.getElem?_eq_some_iff.1 hh).1
      · cases h0
    · have hlt : j < fs.size := (Array.getElem?_eq_some_iff.1 hj).1
      obtain ⟨ho, hc1⟩ := hone_of hone j f hj
      have g := hf j f hj
      rw [ho, hc1, take1_drop _ j undef (by omega)] at g
      have hc := hcell j hlt
      rw [ha, List.getElem?_eq_getElem (by omega)] at hc
      refine ⟨cs'.getD j undef, xs[j]'(by omega), ?_, by rw [g, List.getElem?_eq_getElem (by omega)], List.getElem?_eq_getElem (by omega)⟩
      rw [hc, List.getD_eq_getElem?_getD, List.getElem?_eq_getElem (by omega)]; rfl
end
end Go.Proofs.YtennkhdhnbdbeaaGreat.Frs

/-
  SealRounds: what is signed of any set, and what is verified of it turned. (The verifier's own text.)
-/
namespace Go.Proofs.YtennkhdhnbdbeaaGreat
set_option linter.unusedVariables false
set_option linter.unusedSimpArgs false
open Go.RowKit Go.Shelf Go.Sort Go.Proofs.YtennkhdhnbdbeaaGreat.Nm

theorem txt_room {L : List Rn} (h : setOK L = true) (l0 g0 u b tg t0 : Nat) (F : ByteArray) (hl : lbI (hdR L).o = (l0 : Int)) : (⟨(txL (stB t0 253 l0 g0 u b tg F) (ahB l0 g0 (hdR L).o t0) (srt (fdL L))).toArray⟩ : ByteArray).size ≤ 18 + F.size + roomL L := by
  show (txL _ _ _).toArray.size ≤ _
  rw [List.size_toArray, txt_len]
  obtain ⟨h1, h2, h3, h4⟩ := set_facts h
  obtain ⟨hz0, -, hq0⟩ := h3 _ h2
  have hN := (zon_of hz0).1
  have e1 : (stB t0 253 l0 g0 u b tg F).size = 18 + F.size := by unfold stB; simp only [ByteArray.size_append, nB_size]
  have e2 : (ahB l0 g0 (hdR L).o t0).size = (hdR L).o.size + 8 := by
    unfold ahB owB
    rw [hl, if_neg (by omega), foldB_yes hN]
    simp only [ByteArray.size_append, nB_size, lowB_size]
  have e3 : ((srt (fdL L)).map fun d => (ahB l0 g0 (hdR L).o t0).size + 2 + d.length).sum = ((fdL L).map fun d => (ahB l0 g0 (hdR L).o t0).size + 2 + d.length).sum := sum_perm ((List.mergeSort_perm _ _).map _)
  rw [e3, e1, e2]
  have e4 : ((fdL L).map fun d => (hdR L).o.size + 8 + 2 + d.length).sum ≤ roomL L := by
    unfold fdL roomL
    rw [List.map_map]
    refine sum_le _ _ L (fun r hr => ?_)
    obtain ⟨z, -, q⟩ := h3 r hr
    obtain ⟨-, -, q3⟩ := eq_low q
    have e5 : r.o.size = (hdR L).o.size := by rw [← lowB_size r.o, q3, lowB_size]
    have e6 := foldD_le (zon_of z).2.2.2.2.1
    show (hdR L).o.size + 8 + 2 + (foldD r.t r.d).data.toList.length ≤ _
    rw [Array.length_toList]
    have e7 : (foldD r.t r.d).data.size = (foldD r.t r.d).size := rfl
    omega
  omega
/-- what Sign answers, and then what Verify does -/
theorem rounds_case (L : List Rn) (p : Option Addr) (cap : Nat) (fr : ByteArray) (b u now age f : Int) (m e s : Nat) (js : List Int) (hK : KY m e s) (hf : f = 256 ∨ f = 257) (hL : L.length ≤ 1048576) (hz : ∀ r ∈ L, r.o.size ≤ maxLen ∧ r.d.size ≤ 9223372036854775807) (hfz : fr.size ≤ 1048576) (hrm : 18 + fr.size + roomL L ≤ 2097152) :
    (∃ E : Int, ¬ E = 0 ∧ ∀ W : World, RsAt W p L → Calls Tryz.prog 8 #[.agg #[.int .i64 f, .int .i64 (m : Int), .int .i64 (e : Int), .int .i64 (s : Int)], .string fr, .slice p L.length cap, .int .i64 b, .int .i64 u] W fun r w' => r = .returned (.tuple #[.agg #[.string ⟨#[]⟩, .int .i64 0, .int .i64 0, .int .i64 0, .string ⟨#[]⟩], .int .i64 E]) ∧ Below W.heap.size W w') ∨
    (0 < L.length ∧ (∀ r ∈ L, r.o.size ≤ 255) ∧ ∃ (b' u' : Nat) (so D : ByteArray) (sl : Int), b = (b' : Int) ∧ u = (u' : Int) ∧ (∀ W : World, RsAt W p L → Calls Tryz.prog 8 #[.agg #[.int .i64 f, .int .i64 (m : Int), .int .i64 (e : Int), .int .i64 (s : Int)], .string fr, .slice p L.length cap, .int .i64 b, .int .i64 u] W fun r w' => r = .returned (.tuple #[.agg #[.string so, .int .i64 46, .int .i64 1, .int .i64 sl, .string D], .int .i64 0]) ∧ Below W.heap.size W w') ∧
      ∀ (W : World) (p' : Option Addr) (c' : Nat), RsAt W p' ((turnL L js).map (upR age)) → Calls Tryz.prog 11 #[.slice p' L.length c', .agg #[.string so, .int .i64 46, .int .i64 1, .int .i64 sl, .string D], .string (upB fr), .string (pubB f m e s), .int .i64 now] W fun r w' => r = .returned (.int .i64 (if now < (b' : Int) ∨ (u' : Int) < now then 25 else 0)) ∧ Below W.heap.size W w') := by
  have hfm : fr.size ≤ maxLen := by unfold maxLen; omega
  by_cases hE : signE f m e s fr L b u = 0
  · right
    obtain ⟨hN, h4, h5, h6, h1, h3⟩ := signE_zero hE
    have hp := setOK_pos h4
    obtain ⟨x46, hx, hall, -⟩ := set_facts h4
    obtain ⟨hz0, -, -⟩ := hall _ hx
    obtain ⟨hxN, hxc, hl0, hl1, herr, ht0, ht1, -⟩ := zon_of hz0
    have h255 : ∀ r ∈ L, r.o.size ≤ 255 := fun r hr => ((isN_iff _).1 (zon_of (hall r hr).1).1).1
    have hfd : ∀ d ∈ fdL L, d.length ≤ 65535 := by
      intro d hd
      obtain ⟨r, hr, rfl⟩ := List.mem_map.1 hd
      rw [Array.length_toList]
      exact foldD_size (zon_of (hall r hr).1).2.2.2.2.1
    obtain ⟨b', rfl⟩ : ∃ b' : Nat, b = (b' : Int) := ⟨b.toNat, by omega⟩
    obtain ⟨u', rfl⟩ : ∃ u' : Nat, u = (u' : Int) := ⟨u.toNat, by omega⟩
    obtain ⟨t0, ht⟩ : ∃ t0 : Nat, (hdR L).t = (t0 : Int) := ⟨(hdR L).t.toNat, by omega⟩
    obtain ⟨g0, hg⟩ : ∃ g0 : Nat, (hdR L).l = (g0 : Int) := ⟨(hdR L).l.toNat, by omega⟩
    have hlr := lb_rng hxN
    obtain ⟨l0, hl⟩ : ∃ l0 : Nat, lbI (hdR L).o = (l0 : Int) := ⟨(lbI (hdR L).o).toNat, by omega⟩
    have hmm : 65537 ≤ m ∧ m ≤ 2147483647 ∧ s ≤ 2147483647 := by obtain ⟨a, b, -, -, -, -, h1, h2, -, -, -, h3⟩ := hK; exact ⟨h1, h2, h3⟩
    have hxz := h255 _ hx
    obtain ⟨T, hT⟩ : ∃ T, (⟨(txL (stB t0 253 l0 g0 u' b' (tagN (pubB f m e s)) (foldB fr)) (ahB l0 g0 (hdR L).o t0) (srt (fdL L))).toArray⟩ : ByteArray) = T := ⟨_, rfl⟩
    have hTz : T.size ≤ 2097152 := by
      rw [← hT]
      have h9 := txt_room h4 l0 g0 u' b' (tagN (pubB f m e s)) t0 (foldB fr) hl
      have h10 : (foldB fr).size = fr.size := by rw [foldB_yes hN, lowB_size]
      rw [h10] at h9
      omega
    have hxe : hdR L = ⟨(hdR L).o, (t0 : Int), 1, (g0 : Int), (hdR L).d⟩ := by rw [← ht, ← hg, ← hxc]
    refine ⟨hp, h255, b', u', (hdR L).o, sgD f m e s t0 l0 g0 u' b' (foldB fr) T, (g0 : Int), rfl, rfl, fun W h => ?_, fun W p' c' h => ?_⟩
    · exact sign_yes f m e s fr L p cap b' u' W (hdR L).o (hdR L).d 1 t0 g0 l0 _ (foldB fr) T hfm hL h hz hxe h1 hN (by omega) (by omega) h4 h5 h6 (by omega) (by omega) hl (by omega) rfl rfl hT hTz hfd hxz (by omega) (by omega) (by omega)
    · obtain ⟨t1, t2, t3, t4, t5, t6, t7⟩ := turned h4 js age
      have h9 := verify_round ((turnL L js).map (upR age)) p' c' (hdR L).o (upB fr) (hdR ((turnL L js).map (upR age))).o (foldB fr) T fr (g0 : Int) now f m e s t0 l0 g0 u' b' W hK hf (by rw [t2]; exact hL) h (fun r hr => by
          obtain ⟨x, hx2, rfl⟩ := List.mem_map.1 hr
          have hx3 := (turnL_perm L js).mem_iff.1 hx2
          exact ⟨by show (upB x.o).size ≤ _; rw [upB_size]; exact (hz x hx3).1, (hz x hx3).2⟩) t1 rfl (by rw [t6, ht]) t4 hN rfl (within_low t4 t7 t5 (within_fold h6))
        (eq_of_low (isN_up hN).1 (isN_fold hN).1 (by rw [low_up, foldB_yes hN, low_low])) (by rw [upB_size]; exact hfm) hxN (eq_of_low hxN t4 t5.symm) (by omega) (by omega) (by omega) (by omega) (by omega) (by omega) (by omega) (by rw [(same_low t4 t7 t5).2.2.1, hl]; exact Int.le_refl _)
        (fun d hd => by
          rw [fdL_up] at hd
          obtain ⟨r, hr, rfl⟩ := List.mem_map.1 hd
          exact hfd _ (List.mem_map.2 ⟨r, (turnL_perm L js).mem_iff.1 hr, rfl⟩))
        (by
          rw [← hT, t3]
          have ha : ahB l0 g0 (hdR ((turnL L js).map (upR age))).o t0 = ahB l0 g0 (hdR L).o t0 := by
            unfold ahB
            rw [← hl, ow_low t4 t7 t5]
          rw [ha]) hTz
      rw [t2] at h9
      exact h9
  · left
    exact ⟨_, hE, fun W h => sign_no f m e s fr L p cap b u W hfm hL h hz hE⟩
end Go.Proofs.YtennkhdhnbdbeaaGreat

/-
  SealSigns: its walk. (The verifier's own text.)
-/
namespace Go.Proofs.YtennkhdhnbdbeaaGreat
set_option linter.unusedVariables false
set_option linter.unusedSimpArgs false
open Go.RowKit Go.Shelf Go.Sort Go.Proofs.YtennkhdhnbdbeaaGreat.Nm

/-- what both answer -/
theorem signs_case (L : List Rn) (fr : ByteArray) (b u f m e s : Int) (hL : L.length ≤ 1048576) (hz : ∀ r ∈ L, r.o.size ≤ 1048576 ∧ r.d.size ≤ 9223372036854775807) (hfz : fr.size ≤ 1048576) (hrm : 18 + fr.size + roomL L ≤ 2097152) :
    ∃ (a bb : ByteArray) (x y z E : Int), (∀ (W : World) (p : Option Addr) (cap : Nat), RsAt W p L → Calls Tryz.prog 8 #[.agg #[.int .i64 f, .int .i64 m, .int .i64 e, .int .i64 s], .string fr, .slice p L.length cap, .int .i64 b, .int .i64 u] W fun r w' => r = .returned (.tuple #[.agg #[.string a, .int .i64 x, .int .i64 y, .int .i64 z, .string bb], .int .i64 E]) ∧ Below W.heap.size W w') ∧
      (∀ (W : World) (p : Option Addr) (cap : Nat), RsAt W p L → Calls Tryz.prog 9 #[.agg #[.int .i64 f, .int .i64 m, .int .i64 e, .int .i64 s], .string fr, .slice p L.length cap, .int .i64 b, .int .i64 u] W fun r w' => r = .returned (.tuple #[.agg #[.string a, .int .i64 x, .int .i64 y, .int .i64 z, .string bb], .int .i64 E]) ∧ Below W.heap.size W w') := by
  have hfm : fr.size ≤ maxLen := by unfold maxLen; omega
  have hzm : ∀ r ∈ L, r.o.size ≤ maxLen ∧ r.d.size ≤ 9223372036854775807 := fun r hr => ⟨by have := (hz r hr).1; unfold maxLen; omega, (hz r hr).2⟩
  by_cases hE : signE f m e s fr L b u = 0
  · obtain ⟨hN, h4, h5, h6, h1, h3⟩ := signE_zero hE
    obtain ⟨x46, hx, hall, -⟩ := set_facts h4
    obtain ⟨hz0, -, -⟩ := hall _ hx
    obtain ⟨hxN, hxc, hl0, hl1, herr, ht0, ht1, -⟩ := zon_of hz0
    have hxz : (hdR L).o.size ≤ 255 := ((isN_iff _).1 hxN).1
    have hfd : ∀ d ∈ fdL L, d.length ≤ 65535 := by
      intro d hd
      obtain ⟨r, hr, rfl⟩ := List.mem_map.1 hd
      rw [Array.length_toList]
      exact foldD_size (zon_of (hall r hr).1).2.2.2.2.1
    obtain ⟨hr1, hr2, hr3, hr4⟩ := rk_of h1
    obtain ⟨m', rfl⟩ : ∃ m' : Nat, m = (m' : Int) := ⟨m.toNat, by omega⟩
    obtain ⟨e', rfl⟩ : ∃ e' : Nat, e = (e' : Int) := ⟨e.toNat, by omega⟩
    obtain ⟨s', rfl⟩ : ∃ s' : Nat, s = (s' : Int) := ⟨s.toNat, by omega⟩
    obtain ⟨b', rfl⟩ : ∃ b' : Nat, b = (b' : Int) := ⟨b.toNat, by omega⟩
    obtain ⟨u', rfl⟩ : ∃ u' : Nat, u = (u' : Int) := ⟨u.toNat, by omega⟩
    obtain ⟨t0, ht⟩ : ∃ t0 : Nat, (hdR L).t = (t0 : Int) := ⟨(hdR L).t.toNat, by omega⟩
    obtain ⟨g0, hg⟩ : ∃ g0 : Nat, (hdR L).l = (g0 : Int) := ⟨(hdR L).l.toNat, by omega⟩
    have hlr := lb_rng hxN
    obtain ⟨l0, hl⟩ : ∃ l0 : Nat, lbI (hdR L).o = (l0 : Int) := ⟨(lbI (hdR L).o).toNat, by omega⟩
    obtain ⟨T, hT⟩ : ∃ T, (⟨(txL (stB t0 253 l0 g0 u' b' (tagN (pubB f m' e' s')) (foldB fr)) (ahB l0 g0 (hdR L).o t0) (srt (fdL L))).toArray⟩ : ByteArray) = T := ⟨_, rfl⟩
    have hTz : T.size ≤ 2097152 := by
      rw [← hT]
      have h9 := txt_room h4 l0 g0 u' b' (tagN (pubB f m' e' s')) t0 (foldB fr) hl
      have h10 : (foldB fr).size = fr.size := by rw [foldB_yes hN, lowB_size]
      rw [h10] at h9
      omega
    have hxe : hdR L = ⟨(hdR L).o, (t0 : Int), 1, (g0 : Int), (hdR L).d⟩ := by rw [← ht, ← hg, ← hxc]
    refine ⟨(hdR L).o, stB t0 253 l0 g0 u' b' (tagN (pubB f m' e' s')) (foldB fr) ++ nB (fgN (digB T) m' 10 ^ s' % m') 4, 46, 1, (g0 : Int), 0, fun W p cap h => ?_, fun W p cap h => ?_⟩
    rotate_left
    · exact signset_yes f m' e' s' fr L p cap b' u' W (hdR L).o (hdR L).d 1 t0 g0 l0 _ (foldB fr) T hfz hL h hz hxe h1 hN (by omega) (by omega) h4 h5 h6 (by omega) (by omega) hl (by omega) rfl rfl hT hTz (by omega) (by omega) (by omega)
    · exact sign_yes f m' e' s' fr L p cap b' u' W (hdR L).o (hdR L).d 1 t0 g0 l0 _ (foldB fr) T hfm hL h hzm hxe h1 hN (by omega) (by omega) h4 h5 h6 (by omega) (by omega) hl (by omega) rfl rfl hT hTz hfd hxz (by omega) (by omega) (by omega)
  · refine ⟨⟨#[]⟩, ⟨#[]⟩, 0, 0, 0, signE f m e s fr L b u, fun W p cap h => sign_no f m e s fr L p cap b u W hfm hL h hzm hE, fun W p cap h => ?_⟩
    by_cases hc : rkB f m e s = false ∨ isN fr = false ∨ (b < 0 ∨ u < b ∨ 4294967295 < u) ∨ setOK L = false
    · exact signset_no f m e s fr L p cap b u W hfz hL h hz hc
    · have h1 : rkB f m e s = true := by cases hh : rkB f m e s with | true => rfl | false => exact absurd (.inl hh) hc
      have h2 : isN fr = true := by cases hh : isN fr with | true => rfl | false => exact absurd (.inr (.inl hh)) hc
      have h3 : ¬ (b < 0 ∨ u < b ∨ 4294967295 < u) := fun hh => hc (.inr (.inr (.inl hh)))
      have h4 : setOK L = true := by cases hh : setOK L with | true => rfl | false => exact absurd (.inr (.inr (.inr hh))) hc
      have hb : ¬ b < 0 := fun h => h3 (.inl h)
      have hb2 : ¬ u < b := fun h => h3 (.inr (.inl h))
      have hb3 : ¬ 4294967295 < u := fun h => h3 (.inr (.inr h))
      cases h5 : oneAge L with
      | false => exact signset_age f m e s fr L p cap b u W hfz hL h hz h1 h2 hb hb2 hb3 h4 h5
      | true =>
        cases h6 : withinB (hdR L).o fr with
        | false => exact signset_out f m e s fr L p cap b u W hfz hL h hz h1 h2 hb hb2 hb3 h4 h5 h6
        | true => exact absurd (show signE f m e s fr L b u = 0 by unfold signE; rw [if_neg (by rw [h1]; decide), if_neg (by rw [h2]; decide), if_neg h3, if_neg (by rw [h4, h5]; simp), if_neg (by rw [h6]; decide)]) hE
set_option maxRecDepth 100000 in
set_option maxHeartbeats 8000000 in
/-- SealSigns -/
theorem sealSigns_any (f m e s b u : Int) (fr : ByteArray) (L : List Rn) (p : Option Addr) (cap : Nat) (w : World) (hL : L.length ≤ 1048576) (hat : RsAt w p L) (hno : p = none → cap = 0) (hz : ∀ r ∈ L, r.o.size ≤ 1048576 ∧ r.d.size ≤ 9223372036854775807) (hfz : fr.size ≤ 1048576) (hrm : 18 + fr.size + roomL L ≤ 2097152) :
    Calls Tryz.prog 3 #[.agg #[.int .i64 f, .int .i64 m, .int .i64 e, .int .i64 s], .string fr, .slice p L.length cap, .int .i64 b, .int .i64 u] w fun r w' => r = .returned (.bool true) ∧ Below w.heap.size w w' := by
  obtain ⟨a, bb, x, y, z, E, hS, hR⟩ := signs_case L fr b u f m e s hL hz hfz hrm
  obtain ⟨W0, hW0⟩ : ∃ W0, w.alloc (.cells #[.int .i64 f, .int .i64 m, .int .i64 e, .int .i64 s] 23) = W0 := ⟨_, rfl⟩
  have hx0 : Bx (w.alloc (.cells #[.int .i64 f, .int .i64 m, .int .i64 e, .int .i64 s] 23)) w.heap.size #[.int .i64 f, .int .i64 m, .int .i64 e, .int .i64 s] 23 := World.alloc_heap_new w _
  rw [hW0] at hx0
  have HX0 := hide' hx0
  have HB0 : Hid (Below w.heap.size w W0) := by rw [← hW0]; exact (Below.refl _ _).alloc (Nat.le_refl _) _
  have HTW := hide' (twin_any L p cap W0 hL (rsAt_below7 hat HB0.out) hno)
  have HS := hide' hS
  have HR := hide' hR
  have HAT := hide' hat
  have HL := hide' hL
  have QF : Hid (∀ V : World, Bx V w.heap.size #[.int .i64 f, .int .i64 m, .int .i64 e, .int .i64 s] 23 → V.cell? ⟨w.heap.size, 0, none⟩ = some (.int .i64 f) ∧ V.cell? ⟨w.heap.size, 1, none⟩ = some (.int .i64 m) ∧ V.cell? ⟨w.heap.size, 2, none⟩ = some (.int .i64 e) ∧ V.cell? ⟨w.heap.size, 3, none⟩ = some (.int .i64 s)) := fun V h => ⟨h.cell rfl, h.cell rfl, h.cell rfl, h.cell rfl⟩
  clear hx0 hS hR hat hno hz hfz hrm
  go_enter Tryz.func3, Tryz.ntmps3
  go_wp2_with (first
    | (go_at_call 7; refine HTW.out.mono ?_; rintro r w1 ⟨g, c, rfl, ho, hB⟩; have HO1 := hide' ho; have HX1 := hide' (HX0.out.below hB HX0.out.lt); have HB1 := hide' (bstep HB0.out hB HB0.out.size); obtain ⟨k0, k1, k2, k3⟩ := QF.out _ HX1.out; clear ho hB)
    | (go_at_call 8; refine (HS.out _ _ _ (rs_left (rs_own5 HO1.out))).mono ?_; rintro r w2 ⟨rfl, hB⟩; have hb3 : Below w2.heap.size w2 (w2.alloc (.cells #[.string a, .int .i64 x, .int .i64 y, .int .i64 z, .string bb] 27)) := (Below.refl _ _).alloc (Nat.le_refl _) _; have HO3 := hide' (ownsRow_below (ownsRow_below HO1.out hB) hb3); have HX2 := hide' (HX1.out.below hB HX1.out.lt); have HX3 := hide' (HX2.out.below hb3 HX2.out.lt); have HB2 := hide' (bstep HB1.out hB HB1.out.size); have HB3 := hide' (bstep HB2.out hb3 HB2.out.size); have HA3 : Hid (Bx (w2.alloc (.cells #[.string a, .int .i64 x, .int .i64 y, .int .i64 z, .string bb] 27)) w2.heap.size #[.string a, .int .i64 x, .int .i64 y, .int .i64 z, .string bb] 27) := World.alloc_heap_new w2 _; clear hB hb3 k0 k1 k2 k3; obtain ⟨k0, k1, k2, k3⟩ := QF.out _ HX3.out)
    | (go_at_call 9; refine (HR.out _ _ _ (rsAt_below7 HAT.out HB3.out)).mono ?_; rintro r w4 ⟨rfl, hB⟩; have hb5 : Below w4.heap.size w4 (w4.alloc (.cells #[.string a, .int .i64 x, .int .i64 y, .int .i64 z, .string bb] 27)) := (Below.refl _ _).alloc (Nat.le_refl _) _; have HO5 := hide' (ownsRow_below (ownsRow_below HO3.out hB) hb5); have HA4 := hide' (HA3.out.below hB HA3.out.lt); have HA5 := hide' (HA4.out.below hb5 HA4.out.lt); have HB4 := hide' (bstep HB3.out hB HB3.out.size); have HB5 := hide' (bstep HB4.out hb5 HB4.out.size); have a0 := HA5.out.cell (j := 0) rfl; have a1 := HA5.out.cell (j := 1) rfl; have a2 := HA5.out.cell (j := 2) rfl; have a3 := HA5.out.cell (j := 3) rfl; have a4 := HA5.out.cell (j := 4) rfl; clear hB hb5)
    | (go_at_call 10; refine (wholeL_any L g c p cap _ HL.out (rs_own5 HO5.out) (own_cap HO5.out).1 (rsAt_below7 HAT.out HB5.out)).mono ?_; rintro r w6 ⟨rfl, hB⟩; have HB6 := hide' (bstep HB5.out hB HB5.out.size); clear hB))
  go_ret
  exact ⟨rfl, HB6.out⟩
end Go.Proofs.YtennkhdhnbdbeaaGreat

/-
  Records that come in, once more. (The verifier's own text.)
-/
namespace Go.Proofs.YtennkhdhnbdbeaaGreat.Frt
set_option linter.unusedVariables false
set_option linter.unusedSimpArgs false
open Go.RowKit Go.Shelf Go.Maps Go.Proofs.YtennkhdhnbdbeaaGreat.Nm
open Go.ChangeShapes Go.WideShapes Go.Deep

theorem bulk_mem {H : Type} : ∀ (l : List (DataW H)) (d : DataW H), d ∈ l → Rows.uptoBulk d ≤ Rows.uptoBulkAll l
  | [], d, h => by cases h
  | e :: l, d, h => by
    simp only [Rows.uptoBulkAll]
    rcases List.mem_cons.1 h with rfl | h
    · omega
    · have := bulk_mem l d h
      omega

section
variable {H : Type} {enc : TypeId × Value → H} {w : World} {base : Nat} {spare : Nat → Bool} {held : Bool}
theorem rs_openT {fuel : Nat} {v : Value} {x : DataW H × List MemPlace} (h : DataW.trod enc Tryz.prog w base spare held fuel 24 [v] = some x) :
    ∃ (a : Option Addr) (cap : Nat) (L : List Rn), v = .slice a L.length cap ∧ (a = none → cap = 0) ∧ RsAt w a L ∧ (∀ r ∈ L, r.o.size ≤ maxLen ∧ r.d.size ≤ 9223372036854775807) ∧ L.length ≤ Rows.uptoBulk x.1 ∧ (0 < L.length → roomL L + 2 ≤ 2 * Rows.uptoBulk x.1) ∧ ∀ r ∈ L, r.o.size ≤ Rows.uptoBulk x.1 := by
  obtain ⟨fs, hs, hone, hC, h3, hty⟩ := struct_of Frs.oneR
  obtain ⟨a, len, cap, D, rfl, hn, hlb, hsum, hel⟩ := Frs.rows_openS Tryz.underlying24 hs hone hC (by omega) h
  haveI : Inhabited Rn := ⟨⟨.empty, 0, 0, 0, .empty⟩⟩
  obtain ⟨F, hF⟩ := choose_lt (α := Rn) (n := len) (p := fun i q => ∃ b o, a = some ⟨b, o, none⟩ ∧ b < w.heap.size ∧ w.cell? ⟨b, o + i * 5, none⟩ = some (.string q.o) ∧ w.cell? ⟨b, o + i * 5 + 1, none⟩ = some (.int .i64 q.t) ∧ w.cell? ⟨b, o + i * 5 + 2, none⟩ = some (.int .i64 q.c) ∧ w.cell? ⟨b, o + i * 5 + 3, none⟩ = some (.int .i64 q.l) ∧ w.cell? ⟨b, o + i * 5 + 4, none⟩ = some (.string q.d) ∧ q.o.size ≤ maxLen ∧ q.d.size ≤ maxLen ∧ q.o.size + q.d.size + 6 ≤ Rows.uptoBulk (D i)) (fun i hi => by
    obtain ⟨b, o, n, xs, ha, hb, hDi, hxs, hf⟩ := hel i hi
    rw [h3] at hf hxs
    obtain ⟨f0, g0, t0⟩ := hty 0 (by omega)
    obtain ⟨f1, g1, t1⟩ := hty 1 (by omega)
    obtain ⟨f2, g2, t2⟩ := hty 2 (by omega)
    obtain ⟨f3, g3, t3⟩ := hty 3 (by omega)
    obtain ⟨f4, g4, t4⟩ := hty 4 (by omega)
    obtain ⟨V0, y0, c0, r0, k0⟩ := hf 0 f0 g0
    obtain ⟨V1, y1, c1, r1, k1⟩ := hf 1 f1 g1
    obtain ⟨V2, y2, c2, r2, k2⟩ := hf 2 f2 g2
    obtain ⟨V3, y3, c3, r3, k3⟩ := hf 3 f3 g3
    obtain ⟨V4, y4, c4, r4, k4⟩ := hf 4 f4 g4
    rw [← Option.some.inj t0] at r0
    rw [← Option.some.inj t1] at r1
    rw [← Option.some.inj t2] at r2
    rw [← Option.some.inj t3] at r3
    rw [← Option.some.inj t4] at r4
    obtain ⟨s0, e0, hy0, z0⟩ := DataW.trod_string Tryz.underlying9 r0
    obtain ⟨n1, e1, hy1, _⟩ := DataW.trod_int Tryz.underlying3 r1
    obtain ⟨n2, e2, hy2, _⟩ := DataW.trod_int Tryz.underlying3 r2
    obtain ⟨n3, e3, hy3, _⟩ := DataW.trod_int Tryz.underlying3 r3
    obtain ⟨s4, e4, hy4, z4⟩ := DataW.trod_string Tryz.underlying9 r4
    obtain rfl : V0 = .string s0 := by simpa using e0
    obtain rfl : V1 = .int .i64 n1 := by simpa using e1
    obtain rfl : V2 = .int .i64 n2 := by simpa using e2
    obtain rfl : V3 = .int .i64 n3 := by simpa using e3
    obtain rfl : V4 = .string s4 := by simpa using e4
    have kk : s0.size + s4.size + 6 ≤ Rows.uptoBulk (D i) := by
      obtain ⟨l0, l1, l2, l3, l4, rfl⟩ : ∃ l0 l1 l2 l3 l4, xs = [l0, l1, l2, l3, l4] := by
        match xs, hxs with
        | [l0, l1, l2, l3, l4], _ => exact ⟨l0, l1, l2, l3, l4, rfl⟩
      simp only [List.getElem?_cons_zero, List.getElem?_cons_succ, Option.some.injEq] at k0 k1 k2 k3 k4
      subst k0
      subst k1
      subst k2
      subst k3
      subst k4
      rw [hDi, hy0, hy1, hy2, hy3, hy4]
      simp only [List.map_cons, List.map_nil, Rows.uptoBulk, Rows.uptoBulkAll, Array.length_toList]
      have q0 : s0.data.size = s0.size := rfl
      have q4 : s4.data.size = s4.size := rfl
      omega
    exact ⟨⟨s0, n1, n2, n3, s4⟩, b, o, ha, hb, c0, c1, c2, c3, c4, z0, z4, kk⟩)
  refine ⟨a, cap, (List.range len).map F, by simp, hn, fun k hk => ?_, fun q hq => ?_, by simpa using hlb, fun hq => ?_, fun q hq => ?_⟩
  · have hk' : k < len := by simpa using hk
    obtain ⟨b, o, ha, hb, c0, c1, c2, c3, c4, _, _, _⟩ := hF k hk'
    exact ⟨b, o, ha, hb, by simpa using c0, by simpa using c1, by simpa using c2, by simpa using c3, by simpa using c4⟩
  · obtain ⟨i, hi, rfl⟩ := List.mem_map.1 hq
    obtain ⟨_, _, _, _, _, _, _, _, _, z0, z4, _⟩ := hF i (List.mem_range.1 hi)
    exact ⟨z0, by unfold maxLen at z4; omega⟩
  · have hpos : 0 < len := by simpa using hq
    have h1 := hsum hpos
    have h2 : roomL ((List.range len).map F) ≤ 2 * Rows.uptoBulkAll ((List.range len).map D) := by
      rw [Frs.bulk_sum, List.map_map]
      unfold roomL
      rw [List.map_map]
      have h4 : ∀ l : List Nat, 2 * (l.map (Rows.uptoBulk ∘ D)).sum = (l.map fun i => 2 * Rows.uptoBulk (D i)).sum := by
        intro l
        induction l with
        | nil => rfl
        | cons y l ih => simp only [List.map_cons, List.sum_cons, Function.comp_apply]; omega
      rw [h4]
      refine sum_le _ _ _ (fun i hi => ?_)
      obtain ⟨_, _, _, _, _, _, _, _, _, _, _, z⟩ := hF i (List.mem_range.1 hi)
      show (F i).o.size + (F i).d.size + 10 ≤ 2 * Rows.uptoBulk (D i)
      omega
    omega
  · obtain ⟨i, hi, rfl⟩ := List.mem_map.1 hq
    have hi2 := List.mem_range.1 hi
    obtain ⟨_, _, _, _, _, _, _, _, _, _, _, z⟩ := hF i hi2
    have h1 := hsum (by omega)
    have h2 := bulk_mem ((List.range len).map D) (D i) (List.mem_map.2 ⟨i, List.mem_range.2 hi2, rfl⟩)
    omega
end
end Go.Proofs.YtennkhdhnbdbeaaGreat.Frt

namespace Go.Proofs.YtennkhdhnbdbeaaGreat.sealSignsP
set_option linter.unusedVariables false
open Go.ChangeShapes Go.WideShapes Go.ChangeAt Go.RowKit Go.Deep
open Go.ChangeMaps (open_string shut_string)

theorem own : ownKnob Tryz.prog.godebug = none := by kernel_rfl
theorem laidOut : laidOutB Tryz.prog = true := by kernel_rfl

theorem cell_lt {W : World} {a : Addr} {v : Value} (h : W.cell? a = some v) : a.block < W.heap.size := by
  unfold World.cell? at h
  split at h
  · rename_i c e f hb
    exact (Array.getElem?_eq_some_iff.1 hb).1
  · cases h

theorem oneK : (Tryz.prog.underlying 23).bind (fun t => match t with | .struct fs => some (oneCellFields Tryz.prog fs && decide (Tryz.prog.cellsOf 23 = fs.size) && decide (fs.size = 4) && (fs.toList.map (·.type) == [3, 3, 3, 3])) | _ => none) = some true := by kernel_rfl
theorem array4 {cs : Array Value} (h : cs.size = 4) : cs = #[cs.toList.getD 0 undef, cs.toList.getD 1 undef, cs.toList.getD 2 undef, cs.toList.getD 3 undef] := by
  obtain ⟨l⟩ := cs
  match l, h with
  | [x0, x1, x2, x3], _ => rfl
set_option maxRecDepth 100000 in
/-- a key that comes in -/
theorem key_open {H : Type} {enc : TypeId × Value → H} {w : World} {base : Nat} {spare : Nat → Bool} {held : Bool} {r : Reach} {b0 : Nat} {v : Value} {d : DataW H} {p : List MemPlace}
    (hv : Value.okWide Tryz.prog w r b0 23 v) (h : DataW.Trod enc Tryz.prog w base spare held 23 v d p) :
    ∃ k0 k1 k2 k3 : Int, v = .agg #[.int .i64 k0, .int .i64 k1, .int .i64 k2, .int .i64 k3] := by
  obtain ⟨fs, hs, hone, hC, h4, hty⟩ := struct_of oneK
  obtain ⟨cs, n, rfl, hsz, hf⟩ := agg_open hs hone hC hv h
  obtain ⟨f0, g0, t0⟩ := hty 0 (by omega)
  obtain ⟨y0, r0⟩ := hf 0 f0 g0
  rw [← Option.some.inj t0] at r0
  obtain ⟨f1, g1, t1⟩ := hty 1 (by omega)
  obtain ⟨y1, r1⟩ := hf 1 f1 g1
  rw [← Option.some.inj t1] at r1
  obtain ⟨f2, g2, t2⟩ := hty 2 (by omega)
  obtain ⟨y2, r2⟩ := hf 2 f2 g2
  rw [← Option.some.inj t2] at r2
  obtain ⟨f3, g3, t3⟩ := hty 3 (by omega)
  obtain ⟨y3, r3⟩ := hf 3 f3 g3
  rw [← Option.some.inj t3] at r3
  obtain ⟨k0, e0, _, _⟩ := DataW.trod_int Tryz.underlying3 r0
  obtain ⟨k1, e1, _, _⟩ := DataW.trod_int Tryz.underlying3 r1
  obtain ⟨k2, e2, _, _⟩ := DataW.trod_int Tryz.underlying3 r2
  obtain ⟨k3, e3, _, _⟩ := DataW.trod_int Tryz.underlying3 r3
  refine ⟨k0, k1, k2, k3, ?_⟩
  rw [array4 (hsz.trans h4)]
  simp only [List.cons.injEq, and_true] at e0 e1 e2 e3
  rw [e0, e1, e2, e3]
set_option maxRecDepth 100000 in
theorem contract (H : Type) (enc : TypeId × Value → H) (W : World) (base : Nat) (args : Array Value) (ds gs : List (DataW H)) (before : List MemPlace)
    (hval : ∀ (j : Nat) t v, Tryz.f3.params[j]? = some t → args[j]? = some v → Value.okWide Tryz.prog W .any base t v)
    (hW : DataW.Whole enc Tryz.prog Tryz.f3.params.toList Rows.sealSignsSpec.vars false W args.toList ds gs before) (hk : Rows.uptoSmall H (ds ++ gs) = true) :
    Calls Tryz.prog 3 args W fun e W' => ∃ v, e = .returned v ∧ Rows.sealSignsSpec.post enc Tryz.prog Tryz.f3 false true false false W args v W' := by
  have hW' := hW
  obtain ⟨p, q, hA0, hV, rfl, _, _⟩ := hW
  have hA : DataW.TrodAll enc Tryz.prog W 0 (fun _ => true) true Tryz.f3.params.toList args.toList ds p := hA0
  rw [Tryz.params3] at hA hval
  obtain ⟨v0, vs0, d0, ds0, p0, q0, hargs, rfl, rfl, h0, r0⟩ := trodAll_cons hA
  obtain ⟨v1, vs1, d1, ds1, p1, q1, rfl, rfl, rfl, h1, r1⟩ := trodAll_cons r0
  obtain ⟨v2, vs2, d2, ds2, p2, q2, rfl, rfl, rfl, h2, r2⟩ := trodAll_cons r1
  obtain ⟨v3, vs3, d3, ds3, p3, q3, rfl, rfl, rfl, h3, r3⟩ := trodAll_cons r2
  obtain ⟨v4, vs4, d4, ds4, p4, q4, rfl, rfl, rfl, h4, r4⟩ := trodAll_cons r3
  obtain ⟨rfl, rfl, rfl⟩ := trodAll_nil r4
  obtain rfl : args = #[v0, v1, v2, v3, v4] := by cases args; simp_all
  obtain ⟨rfl, rfl⟩ := trodVars_none hV
  obtain ⟨a3, rfl, rfl, rfl, w3⟩ := open_int Tryz.underlying3 (hval 3 3 v3 rfl rfl) h3
  obtain ⟨a4, rfl, rfl, rfl, w4⟩ := open_int Tryz.underlying3 (hval 4 3 v4 rfl rfl) h4
  obtain ⟨s1, rfl, rfl, rfl, m1⟩ := open_string Tryz.underlying9 (hval 1 9 v1 rfl rfl) h1
  have k0 := h0
  have lt0 : ∀ x ∈ p0, x.block < W.heap.size := by obtain ⟨m, hm⟩ := k0; exact DataW.trod_lt m _ _ _ hm
  have kb : 5 ≤ Rows.uptoBulk d0 := by
    obtain ⟨fs, hs, hone, hC, h4, hty⟩ := struct_of oneK
    obtain ⟨fuel, hf⟩ := k0
    obtain ⟨xs, k, _, hxe, _, hxl, _⟩ := DataW.trod_struct hs hf
    have hd : d0 = .agg (xs.map (·.1)) := congrArg Prod.fst hxe
    have hl := Frs.bulk_len (xs.map (·.1))
    rw [List.length_map] at hl
    rw [hd]
    simp only [Rows.uptoBulk]
    omega
  obtain ⟨f, m, e, s, rfl⟩ := key_open (hval 0 23 v0 rfl rfl) h0
  have k2 := h2
  have lt2 : ∀ x ∈ p2, x.block < W.heap.size := by obtain ⟨m, hm⟩ := k2; exact DataW.trod_lt m _ _ _ hm
  obtain ⟨pa, ca, L, rfl, hno, hat, hz, hlb, hroom, hoz⟩ : ∃ (a : Option Addr) (cap : Nat) (L : List Rn), v2 = .slice a L.length cap ∧ (a = none → cap = 0) ∧ RsAt W a L ∧ (∀ r ∈ L, r.o.size ≤ maxLen ∧ r.d.size ≤ 9223372036854775807) ∧ L.length ≤ Rows.uptoBulk d2 ∧ (0 < L.length → roomL L + 2 ≤ 2 * Rows.uptoBulk d2) ∧ ∀ r ∈ L, r.o.size ≤ Rows.uptoBulk d2 := by
    obtain ⟨fuel, hf⟩ := h2
    obtain ⟨z5, len5, cap5, hv5⟩ := okWide_slice Tryz.underlying24 (hval 2 24 v2 rfl rfl)
    have hc : v2.cells.toList = [v2] := by rw [hv5]; rfl
    rw [hc] at hf
    exact Frt.rs_openT hf
  clear hA0
  have hb : Rows.uptoBulkAll [d0, DataW.lit (H := H) (.string s1.data.toList), d2, .lit (.int .i64 a3), .lit (.int .i64 a4)] ≤ 1048576 := by
    have : Rows.uptoBulkAll ([d0, DataW.lit (H := H) (.string s1.data.toList), d2, .lit (.int .i64 a3), .lit (.int .i64 a4)] ++ []) ≤ 1048576 := of_decide_eq_true hk
    rwa [List.append_nil] at this
  have e4 : s1.data.toList.length = s1.size := by rw [Array.length_toList]; rfl
  have hb2 : s1.size + Rows.uptoBulk d2 + 8 ≤ 1048576 := by
    simp only [Rows.uptoBulkAll] at hb
    have e5 : Rows.uptoBulk (DataW.lit (H := H) (.string s1.data.toList)) = s1.data.toList.length + 1 := rfl
    have e6 : ∀ n : Int, Rows.uptoBulk (DataW.lit (H := H) (.int .i64 n)) = 1 := fun n => rfl
    rw [e5] at hb
    simp only [e6] at hb
    omega
  have hrm : 18 + s1.size + roomL L ≤ 2097152 := by
    rcases Nat.eq_zero_or_pos L.length with h | h
    · have : L = [] := List.length_eq_zero_iff.1 h
      subst this
      show 18 + s1.size + 0 ≤ _
      omega
    · have := hroom h
      omega
  refine (sealSigns_any f m e s a3 a4 s1 L pa ca W (by omega) hat hno (fun r hr => ⟨by have := hoz r hr; omega, (hz r hr).2⟩) (by omega) hrm).mono fun e W' ⟨he, bel⟩ => ?_
  subst he
  exact ⟨_, rfl, _, _, _, [], _, [], hW', trodAll_mk1 (shut_bool Tryz.underlying4 _), (trodAll_cons_mk (Below.trod laidOut (by kernel_rfl) (of_decide_eq_true (by kernel_rfl)) k0 bel lt0) (trodAll_cons_mk (shut_string Tryz.underlying9 m1) (trodAll_cons_mk (Below.trod laidOut (by kernel_rfl) (of_decide_eq_true (by kernel_rfl)) k2 bel lt2) (trodAll_cons_mk (shut_int Tryz.underlying3 w3) (trodAll_cons_mk (shut_int Tryz.underlying3 w4) trodAll_mk0))))), rfl, bel.frame _, fun h => by cases h⟩

set_option maxRecDepth 100000 in
theorem lifted (os : Os) (started : os.Started) (H : Type) (enc : TypeId × Value → H) (F : Stop.Interp) :
    ReturnsInHanded {} Tryz.checked os 3 .any ((Rows.OpenSpec.upto Rows.sealSignsSpec).pre6 enc Tryz.prog Tryz.f3 Rows.sealSignsUptoRow.domain false) (((Rows.OpenSpec.upto Rows.sealSignsSpec).at F).post enc Tryz.prog Tryz.f3 false true false false) := by
  refine returnsInHanded_of_cond (C := Tryz.checked) (s := Rows.OpenSpec.upto Rows.sealSignsSpec) (k := Rows.uptoSmall) rfl own started (by kernel_rfl) Tryz.func3
    (OpenSpec.witness (enc := enc) (C := Tryz.checked) (s := Rows.OpenSpec.upto Rows.sealSignsSpec) (k := Rows.uptoSmall) rfl false ⟨#[], #[.agg #[.int .i64 0, .int .i64 0, .int .i64 0, .int .i64 0], .string .empty, .slice none 0 0, .int .i64 0, .int .i64 0], []⟩ 8 (by kernel_rfl) (by kernel_rfl) (by kernel_rfl)
      (x := ([.agg [.lit (.int .i64 0), .lit (.int .i64 0), .lit (.int .i64 0), .lit (.int .i64 0)], .lit (.string []), .nil, .lit (.int .i64 0), .lit (.int .i64 0)], [], [])) (by kernel_rfl) rfl (by kernel_rfl)) ?_
  intro W base args ds gs before hval hW _ hk _
  exact contract H enc W base args ds gs before hval hW hk

theorem proved : Rows.SealSignsUptoSaid :=
  OpenClaim.holds_of_cond 3 Tryz.f3 rfl rfl rfl rfl rfl rfl rfl ⟨rfl, rfl, rfl, rfl, rfl⟩ rfl rfl rfl rfl rfl (by kernel_rfl) Tryz.func3 (by kernel_rfl)
    (of_decide_eq_true (by kernel_rfl)) (by unfold Func.isWrapper; first | (rw [if_pos (by decide +kernel)]; kernel_rfl) | (rw [if_neg (by decide +kernel)]; exact ⟨rfl, rfl⟩))
    (fun os started H enc _ F => lifted os started H enc F)
end Go.Proofs.YtennkhdhnbdbeaaGreat.sealSignsP
namespace Go.Proofs.YtennkhdhnbdbeaaGreat
theorem sealSigns_upto : Rows.SealSignsUptoSaid := sealSignsP.proved
end Go.Proofs.YtennkhdhnbdbeaaGreat
