import Derived.Test.YtipifhifjbenlaaGreatQj0G
import Derived.Test.YtipifhifjbenlaaGreatQj1
import Derived.Test.YtipifhifjbenlaaGreatQj3
import Derived.Test.YtipifhifjbenlaaGreatPjvG
import Derived.Test.YtipifhifjbenlaaGreatOw1G
/-
  Proofs: the reference's Judge where nothing is asked of the gaps, and its Absent. (The verifier's own text.)
-/
namespace Go.Proofs.YtipifhifjbenlaaGreat
set_option linter.unusedVariables false
set_option linter.unusedSimpArgs false
open Go.RowKit Go.Shelf Go.Maps Go.Proofs.YtipifhifjbenlaaGreat.Nm

set_option maxRecDepth 100000 in
set_option maxHeartbeats 4000000 in
theorem rJudge_out (apex : ByteArray) (L : List Rn) (p : Option Addr) (cap : Nat) (q : ByteArray) (t : Int) (w : World) (ha : apex.size ≤ 1048576) (hq : q.size ≤ 1048576) (h : ¬ (withinB q apex = true ∧ 1 ≤ t ∧ t ≤ 65535)) :
    Calls Tryz.prog 6 #[.string apex, .slice p L.length cap, .string q, .int .i64 t] w fun r w' => r = .returned (.int .i64 0) ∧ Below w.heap.size w w' := by
  have HW := hide' (fun W => refWithin_any q apex W hq ha)
  cases hw : withinB q apex with
  | false =>
    rw [hw] at HW
    go_enter Tryz.func6, Tryz.ntmps6
    go_wp2_with (first
      | (go_at_call 13; refine (HW.out _).mono ?_; rintro r w1 ⟨rfl, hB1⟩))
    go_ret
    exact ⟨rfl, hB1⟩
  | true =>
    rw [hw] at HW h
    by_cases h1 : 1 ≤ t
    · have h2 : 65535 < t := by
        by_cases h9 : 65535 < t
        · exact h9
        · exact absurd ⟨rfl, h1, by omega⟩ h
      have h1' : ¬ t < 1 := by omega
      clear h h1
      go_enter Tryz.func6, Tryz.ntmps6
      go_wp2_with (first
        | (go_at_call 13; refine (HW.out _).mono ?_; rintro r w1 ⟨rfl, hB1⟩))
      go_ret
      exact ⟨rfl, hB1⟩
    · have h1' : t < 1 := by omega
      clear h h1
      go_enter Tryz.func6, Tryz.ntmps6
      go_wp2_with (first
        | (go_at_call 13; refine (HW.out _).mono ?_; rintro r w1 ⟨rfl, hB1⟩))
      go_ret
      exact ⟨rfl, hB1⟩
set_option maxRecDepth 100000 in
set_option maxHeartbeats 4000000 in
theorem rJudge_none (apex : ByteArray) (L : List Rn) (p : Option Addr) (cap : Nat) (q : ByteArray) (t : Int) (w : World) (ha : apex.size ≤ 1048576) (hq : q.size ≤ 1048576) (hat : RsAt w p L) (hw : withinB q apex = true) (h1 : 1 ≤ t) (h2 : t ≤ 65535) (hNe : nqL apex L L.length = []) (hHe : hqL apex L L.length = [])
    (HUS : Hid (∀ W, RsAt W p L → Calls Tryz.prog 14 #[.string apex, .slice p L.length cap] W fun e w' => UsEnd apex L w' e ∧ Below W.heap.size W w')) :
    Calls Tryz.prog 6 #[.string apex, .slice p L.length cap, .string q, .int .i64 t] w fun r w' => r = .returned (.int .i64 0) ∧ Below w.heap.size w w' := by
  have h1' : ¬ t < 1 := by omega
  have h2' : ¬ 65535 < t := by omega
  have HW := hide' (fun W => refWithin_any q apex W hq ha)
  rw [hw] at HW
  have HAT := hide' hat
  have HUN : Hid (∀ W, RsAt W p L → Calls Tryz.prog 14 #[.string apex, .slice p L.length cap] W fun e w' => (∃ pm cm, e = .returned (.slice pm 0 cm)) ∧ Below W.heap.size W w') := fun W h => by
    refine (HUS.out W h).mono ?_
    rintro e w' ⟨⟨pm, cm, M, rfl, g1, g2, g3⟩, hB⟩
    rw [hNe, hHe] at g3
    rcases g3 with ⟨g4, _⟩ | ⟨_, g3⟩
    · simp at g4
    · have h9 := g3.len
      have : M.length = 0 := h9
      rw [this]
      exact ⟨⟨pm, cm, rfl⟩, hB⟩
  clear HUS hat hw h1 h2 hNe hHe
  go_enter Tryz.func6, Tryz.ntmps6
  go_wp2_with (first
    | (go_at_call 13; refine (HW.out _).mono ?_; rintro r w1 ⟨rfl, hB1⟩; have HB1 := hide' hB1; have HA1 := hide' (rsAt_below7 HAT.out hB1); clear hB1)
    | (go_at_call 14; refine (HUN.out _ HA1.out).mono ?_; rintro r w2 ⟨⟨pm, cm, rfl⟩, hB2⟩; have HB2 := hide' (bstep HB1.out hB2 HB1.out.size); clear hB2))
  go_ret
  exact ⟨rfl, HB2.out⟩
/-- does a gap show that a name isn't there? -/
def abX (n : ByteArray) (x : Gq) : Bool := if x.hb = true then gsX n x else gdX n x && !withinB x.nx n
set_option maxRecDepth 100000 in
set_option maxHeartbeats 8000000 in
/-- the reference's Absent -/
theorem rAbsent_in (apex : ByteArray) (L : List Rn) (p : Option Addr) (cap : Nat) (n : ByteArray) (w : World) (ha : apex.size ≤ 1048576) (hn : n.size ≤ 1048576) (hat : RsAt w p L) (hw : withinB n apex = true) (R : Bool)
    (HUN : Hid (∀ W, RsAt W p L → Calls Tryz.prog 14 #[.string apex, .slice p L.length cap] W fun e w' => (∃ pm cm M, e = .returned (.slice pm M.length cm) ∧ Gz w' pm M ∧ (∀ x ∈ M, GOk x) ∧ M.length ≤ 1048576 ∧ M.any (abX n) = R) ∧ Below W.heap.size W w')) :
    Calls Tryz.prog 8 #[.string apex, .slice p L.length cap, .string n] w fun r w' => r = .returned (.bool R) ∧ Below w.heap.size w w' := by
  have HW := hide' (fun W => refWithin_any n apex W hn ha)
  rw [hw] at HW
  have HAT := hide' hat
  clear hat hw
  go_enter Tryz.func8, Tryz.ntmps8
  go_wp2_with (first
    | (go_at_call 13; refine (HW.out _).mono ?_; rintro r w1 ⟨rfl, hB1⟩; have HB1 := hide' hB1; have HA1 := hide' (rsAt_below7 HAT.out hB1); clear hB1)
    | (go_at_call 14; refine (HUN.out _ HA1.out).mono ?_; rintro r w2 ⟨⟨pm, cm, M, rfl, hgz, hok, hMl, hR⟩, hB2⟩; have GJ2 : Hid (Gj w w2 pm M) := ⟨bstep HB1.out hB2 HB1.out.size, hgz⟩; have HOK := hide' hok; have HR := hide' hR; clear hB2 hgz hok hR))
  go_loopw [17] (fun iv wr => ∃ k : Nat, iv = .int .i64 (k : Int) ∧ k ≤ M.length ∧ Hid (∀ j (hj : j < M.length), j < k → abX n M[j] = false) ∧ Hid (Gj w wr pm M)) (fun iv _ => M.length - (intOf iv).toNat)
  case atStart => exact ⟨0, rfl, Nat.zero_le _, (fun j _ h => absurd h (Nat.not_lt_zero _)), GJ2.out⟩
  case round =>
    obtain ⟨k, rfl, hk, HN, GJ⟩ := hrel
    clear GJ2 HW HUN HAT HA1 HB1
    by_cases hlt : k < M.length
    · have hki : (k : Int) < (M.length : Int) := by omega
      obtain ⟨g, off, rfl, e0, e1, e2, e3, e4, e5, e6, e7, e8, e9, e10⟩ := GJ.out.2.at hlt
      have hx := HOK.out _ (List.getElem_mem hlt)
      have HNU : Hid (∀ V p', Gz V p' M → NumsAt V M[k].p M[k].ty) := fun V p' h => h.2 _ (List.getElem_mem hlt)
      have HNX : Hid (abX n M[k] = false → ∀ j (hj : j < M.length), j < k + 1 → abX n M[j] = false) := fun h j hj hjk => by
        rcases Nat.lt_or_ge j k with h' | h'
        · exact HN.out j hj h'
        · obtain rfl : j = k := by omega
          exact h
      have HYE : Hid (abX n M[k] = true → R = true) := fun h => by rw [← HR.out]; exact List.any_eq_true.2 ⟨_, List.getElem_mem hlt, h⟩
      obtain ⟨x, hxe⟩ : ∃ x, M[k] = x := ⟨_, rfl⟩
      rw [hxe] at e0 e1 e2 e3 e4 e5 e6 e7 e8 e9 e10 hx HNU HNX HYE
      clear hxe HN
      have G0 := hide' (Gl.start x GJ.out.1 GJ.out.2)
      obtain ⟨W1, hW1⟩ : ∃ W1, wr.alloc (.cells #[.string x.o, .int .i64 x.t, .int .i64 x.c, .int .i64 x.l, .string x.d, .bool x.hb, .string x.nx, .string x.ow, .string x.sl, .int .i64 (x.rd : Int), .slice x.p x.ty.length x.ca] 43) = W1 := ⟨_, rfl⟩
      rw [hW1] at G0
      obtain ⟨d0, d1, d2, d3, d4, d5, d6, d7, d8, d9, d10⟩ := G0.out.cells
      have HS := hide' (fun (W : World) (h : NumsAt W x.p x.ty) => gSpans x n W hx hn h)
      have HD := hide' (fun (W : World) (h : NumsAt W x.p x.ty) => gDenies x n W hx hn h)
      have HWI := hide' (fun (W : World) => refWithin_any x.nx n W hx.2.1 hn)
      have hab : abX n x = if x.hb = true then gsX n x else gdX n x && !withinB x.nx n := rfl
      cases hhb : x.hb with
      | true =>
        rw [hhb, if_pos rfl] at hab
        rw [hhb] at d5 e5 HS HD hW1
        have Hhb := hide' hhb
        clear hhb
        cases hs : gsX n x with
        | true =>
          have HY := hide' (HYE.out (hab.trans hs))
          rw [hs] at HS
          clear hab hs HNX HYE
          go_wp2_with (first
            | (go_at_call 25; refine (HS.out _ (HNU.out _ _ G0.out.2.2)).mono ?_; rintro r wv ⟨rfl, hB⟩; have GG := hide' (G0.out.step hB); clear hB d0 d1 d2 d3 d4 d5 d6 d7 d8 d9 d10; obtain ⟨d0, d1, d2, d3, d4, d5, d6, d7, d8, d9, d10⟩ := GG.out.cells; rw [Hhb.out] at d5))
          go_ret
          exact ⟨by rw [HY.out]; rfl, GG.out.2.1⟩
        | false =>
          have HY := hide' (HNX.out (hab.trans hs))
          rw [hs] at HS
          clear hab hs HNX HYE
          go_wp2_with (first
            | (go_at_call 25; refine (HS.out _ (HNU.out _ _ G0.out.2.2)).mono ?_; rintro r wv ⟨rfl, hB⟩; have GG := hide' (G0.out.step hB); clear hB d0 d1 d2 d3 d4 d5 d6 d7 d8 d9 d10; obtain ⟨d0, d1, d2, d3, d4, d5, d6, d7, d8, d9, d10⟩ := GG.out.cells; rw [Hhb.out] at d5))
          exact ⟨⟨k + 1, by go_num, by omega, HY.out, GG.out.gj⟩, by simp [intOf]; omega⟩
      | false =>
        rw [hhb, if_neg (by decide)] at hab
        rw [hhb] at d5 e5 HS HD hW1
        have Hhb := hide' hhb
        clear hhb
        cases hs : gdX n x with
        | false =>
          have HY := hide' (HNX.out (by rw [hab, hs]; rfl))
          rw [hs] at HD
          clear hab hs HNX HYE
          go_wp2_with (first
            | (go_at_call 16; refine (HD.out _ (HNU.out _ _ G0.out.2.2)).mono ?_; rintro r wv ⟨rfl, hB⟩; have GG := hide' (G0.out.step hB); clear hB d0 d1 d2 d3 d4 d5 d6 d7 d8 d9 d10; obtain ⟨d0, d1, d2, d3, d4, d5, d6, d7, d8, d9, d10⟩ := GG.out.cells; rw [Hhb.out] at d5))
          exact ⟨⟨k + 1, by go_num, by omega, HY.out, GG.out.gj⟩, by simp [intOf]; omega⟩
        | true =>
          cases hwi : withinB x.nx n with
          | true =>
            have HY := hide' (HNX.out (by rw [hab, hs, hwi]; rfl))
            rw [hs] at HD
            rw [hwi] at HWI
            clear hab hs hwi HNX HYE
            go_wp2_with (first
              | (go_at_call 16; refine (HD.out _ (HNU.out _ _ G0.out.2.2)).mono ?_; rintro r wv ⟨rfl, hB⟩; have GG := hide' (G0.out.step hB); clear hB d0 d1 d2 d3 d4 d5 d6 d7 d8 d9 d10; obtain ⟨d0, d1, d2, d3, d4, d5, d6, d7, d8, d9, d10⟩ := GG.out.cells; rw [Hhb.out] at d5)
              | (go_at_call 13; refine (HWI.out _).mono ?_; rintro r wv ⟨rfl, hB⟩; have GG := hide' (GG.out.step hB); clear hB d0 d1 d2 d3 d4 d5 d6 d7 d8 d9 d10))
            exact ⟨⟨k + 1, by go_num, by omega, HY.out, GG.out.gj⟩, by simp [intOf]; omega⟩
          | false =>
            have HY := hide' (HYE.out (by rw [hab, hs, hwi]; rfl))
            rw [hs] at HD
            rw [hwi] at HWI
            clear hab hs hwi HNX HYE
            go_wp2_with (first
              | (go_at_call 16; refine (HD.out _ (HNU.out _ _ G0.out.2.2)).mono ?_; rintro r wv ⟨rfl, hB⟩; have GG := hide' (G0.out.step hB); clear hB d0 d1 d2 d3 d4 d5 d6 d7 d8 d9 d10; obtain ⟨d0, d1, d2, d3, d4, d5, d6, d7, d8, d9, d10⟩ := GG.out.cells; rw [Hhb.out] at d5)
              | (go_at_call 13; refine (HWI.out _).mono ?_; rintro r wv ⟨rfl, hB⟩; have GG := hide' (GG.out.step hB); clear hB d0 d1 d2 d3 d4 d5 d6 d7 d8 d9 d10))
            go_ret
            exact ⟨by rw [HY.out]; rfl, GG.out.2.1⟩
    · obtain rfl : k = M.length := by omega
      have HRF : Hid (R = false) := by
        unfold Hid
        rw [← HR.out, List.any_eq_false]
        intro x hx
        obtain ⟨j, hj, rfl⟩ := List.getElem_of_mem hx
        rw [HN.out j hj hj]
        decide
      go_wp2_with fail
      go_ret
      exact ⟨by rw [HRF.out]; rfl, GJ.out.1⟩
set_option maxRecDepth 100000 in
set_option maxHeartbeats 4000000 in
theorem rAbsent_out (apex : ByteArray) (L : List Rn) (p : Option Addr) (cap : Nat) (n : ByteArray) (w : World) (ha : apex.size ≤ 1048576) (hn : n.size ≤ 1048576) (hw : withinB n apex = false) :
    Calls Tryz.prog 8 #[.string apex, .slice p L.length cap, .string n] w fun r w' => r = .returned (.bool false) ∧ Below w.heap.size w w' := by
  have HW := hide' (fun W => refWithin_any n apex W hn ha)
  rw [hw] at HW
  go_enter Tryz.func8, Tryz.ntmps8
  go_wp2_with (first
    | (go_at_call 13; refine (HW.out _).mono ?_; rintro r w1 ⟨rfl, hB1⟩))
  go_ret
  exact ⟨rfl, hB1⟩
end Go.Proofs.YtipifhifjbenlaaGreat

/-
  Proofs: the reference's Judge and Absent say what the program's do. (The verifier's own text.)
-/
namespace Go.Proofs.YtipifhifjbenlaaGreat
set_option linter.unusedVariables false
set_option linter.unusedSimpArgs false
open Go.RowKit Go.Shelf Go.Maps Go.Proofs.YtipifhifjbenlaaGreat.Nm

/-- the reference's Judge -/
theorem rJudge_any (apex : ByteArray) (L : List Rn) (p : Option Addr) (cap : Nat) (q : ByteArray) (t : Int) (w : World) (hL : L.length ≤ 1048576) (ha : apex.size ≤ 1048576) (hq : q.size ≤ 1048576) (hat : RsAt w p L) (hz : ∀ r ∈ L, r.o.size ≤ 1048576 ∧ r.d.size ≤ 9223372036854775807) :
    Calls Tryz.prog 6 #[.string apex, .slice p L.length cap, .string q, .int .i64 t] w fun r w' => r = .returned (.int .i64 (pjB apex L q t)) ∧ Below w.heap.size w w' := by
  have HUS : Hid (∀ W, RsAt W p L → Calls Tryz.prog 14 #[.string apex, .slice p L.length cap] W fun e w' => UsEnd apex L w' e ∧ Below W.heap.size W w') := fun W h => usable_any apex L p cap W hL h (fun i r hr V => use_any apex i r V ha (hz r hr).1 (hz r hr).2)
  unfold pjB
  by_cases h : withinB q apex = true ∧ 1 ≤ t ∧ t ≤ 65535
  · rw [if_pos h]
    obtain ⟨hw, h1, h2⟩ := h
    cases hN : nqL apex L L.length with
    | cons y N =>
      exact rJudge_nsec apex L p cap q t w ha hq hat hw h1 h2 (y :: N) hN (by simp) (by rw [← hN]; exact Nat.le_trans (nqL_len _ _ _) hL) (by rw [← hN]; exact nqL_ok _) HUS
    | nil =>
      cases hH : hqL apex L L.length with
      | nil => exact rJudge_none apex L p cap q t w ha hq hat hw h1 h2 hN hH HUS
      | cons x H =>
        have hl : (x :: H).length ≤ 1048576 := by rw [← hH]; exact Nat.le_trans (hqL_len _ _ _) hL
        have hok : ∀ y ∈ x :: H, HOk y := by rw [← hH]; exact hqL_ok _
        have hnx : ∀ y ∈ x :: H, y.nx.size ≤ 1048576 := by rw [← hH]; exact hqL_nx _
        have hu : uhL (hqL apex L L.length) = hwL x.rd x.sl (x :: H) := by rw [hH]; rfl
        have hpos : 0 < (hwL x.rd x.sl (x :: H)).length := by
          have h9 := uhL_cons x H
          have h8 : uhL (x :: H) = hwL x.rd x.sl (x :: H) := rfl
          rw [← h8, h9]
          simp
        exact rJudge_hash apex L p cap q t w ha hq hat hw h1 h2 (hwL x.rd x.sl (x :: H)) x.rd x.sl hN hu hpos (Nat.le_trans (hwL_len2 _ _ _) hl) (kw_of hok) (fun y hy => ⟨hok y (hwL_mem hy), hnx y (hwL_mem hy)⟩) HUS
  · rw [if_neg h]
    exact rJudge_out apex L p cap q t w ha hq h
theorem ng_abs {x : Gq} {y : Nq} (h : NG x y) (n : ByteArray) : abX n x = (ndB y.ts y.o y.nx n && !withinB y.nx n) := by
  unfold abX
  rw [h.1, if_neg (by decide), ng_deny h, h.2.2.1]
theorem hg_abs {x : Gq} {y : Hq} (h : HG x y) (n : ByteArray) : abX n x = gsX n x := by
  unfold abX
  rw [h.1, if_pos rfl]
/-- the reference's Absent -/
theorem rAbsent_any (apex : ByteArray) (L : List Rn) (p : Option Addr) (cap : Nat) (n : ByteArray) (w : World) (hL : L.length ≤ 1048576) (ha : apex.size ≤ 1048576) (hn : n.size ≤ 1048576) (hat : RsAt w p L) (hz : ∀ r ∈ L, r.o.size ≤ 1048576 ∧ r.d.size ≤ 9223372036854775807) :
    Calls Tryz.prog 8 #[.string apex, .slice p L.length cap, .string n] w fun r w' => r = .returned (.bool (paB apex L n)) ∧ Below w.heap.size w w' := by
  have HUS : Hid (∀ W, RsAt W p L → Calls Tryz.prog 14 #[.string apex, .slice p L.length cap] W fun e w' => UsEnd apex L w' e ∧ Below W.heap.size W w') := fun W h => usable_any apex L p cap W hL h (fun i r hr V => use_any apex i r V ha (hz r hr).1 (hz r hr).2)
  unfold paB
  cases hw : withinB n apex with
  | false =>
    rw [Bool.false_and]
    exact rAbsent_out apex L p cap n w ha hn hw
  | true =>
    rw [Bool.true_and]
    have hnN := ((withinB_iff n apex).1 hw).1
    refine rAbsent_in apex L p cap n w ha hn hat hw _ (fun W h => (HUS.out W h).mono ?_)
    rintro e w' ⟨⟨pm, cm, M, rfl, g1, g2, g3⟩, hB⟩
    refine ⟨⟨pm, cm, M, rfl, ⟨g1, g2⟩, ?_⟩, hB⟩
    rcases g3 with ⟨g4, g5⟩ | ⟨g4, g5⟩
    · have hNo : NOk (nqL apex L L.length) := nqL_ok _
      have hNl := nqL_len apex L L.length
      have hany : M.any (abX n) = abB (nqL apex L L.length) n := RelN.any (fun x y hxy => ng_abs hxy n) g5
      refine ⟨relN_ok g5 hNo, by rw [g5.len]; omega, ?_⟩
      rw [hany]
      cases hN : nqL apex L L.length with
      | nil => rw [hN] at g4; simp at g4
      | cons y N => rfl
    · rw [g4]
      cases hH : hqL apex L L.length with
      | nil =>
        rw [hH] at g5
        have h9 : M = [] := List.eq_nil_of_length_eq_zero g5.len
        subst h9
        exact ⟨fun x hx => (by cases hx), by simp, rfl⟩
      | cons x H =>
        have hl : (x :: H).length ≤ 1048576 := by rw [← hH]; exact Nat.le_trans (hqL_len _ _ _) hL
        have hok : ∀ y ∈ x :: H, HOk y := by rw [← hH]; exact hqL_ok _
        have hnx : ∀ y ∈ x :: H, y.nx.size ≤ 1048576 := by rw [← hH]; exact hqL_nx _
        rw [hH] at g5
        change RelH M (hwL x.rd x.sl (x :: H)) at g5
        refine ⟨relH_ok g5 (fun y hy => ⟨hok y (hwL_mem hy), hnx y (hwL_mem hy)⟩), by rw [g5.len]; exact Nat.le_trans (hwL_len2 _ _ _) hl, ?_⟩
        have h1 : M.any (abX n) = M.any fun x => gsX n x := by
          rw [RelH.any (P := abX n) (Q := fun y => btL y.ow y.nx (hshB x.rd x.sl n)) g5 (fun a b hb hab => by rw [hg_abs hab]; exact hk_span hab ((kw_of hok) b hb).1 ((kw_of hok) b hb).2.1 hnN)]
          rw [RelH.any (P := fun x => gsX n x) (Q := fun y => btL y.ow y.nx (hshB x.rd x.sl n)) g5 (fun a b hb hab => hk_span hab ((kw_of hok) b hb).1 ((kw_of hok) b hb).2.1 hnN)]
        rw [h1, relH_spanned g5 (kw_of hok) hnN]
        rfl
end Go.Proofs.YtipifhifjbenlaaGreat

/-
  ProofJudges: the law's walk. (The verifier's own text.)
-/
namespace Go.Proofs.YtipifhifjbenlaaGreat
set_option linter.unusedVariables false
set_option linter.unusedSimpArgs false
open Go.RowKit Go.Shelf Go.Maps Go.Proofs.YtipifhifjbenlaaGreat.Nm

theorem qs_belowJ {w w' : World} {p : Option Addr} {l : List Qn} (h : QsAt w p l) (hb : Below w.heap.size w w') : QsAt w' p l := fun k hk => by
  obtain ⟨g, off, hp, hg, h0, h1, h2⟩ := h k hk
  exact ⟨g, off, hp, Nat.lt_of_lt_of_le hg hb.size, (hb.cell (p := ⟨g, off + k * 3, none⟩) hg).trans h0, (hb.cell (p := ⟨g, off + k * 3 + 1, none⟩) hg).trans h1, (hb.cell (p := ⟨g, off + k * 3 + 2, none⟩) hg).trans h2⟩
/-- what lies along: the copy, the records, the questions -/
def Lj (w W : World) (g cc : Nat) (p : Option Addr) (L : List Rn) (pq : Option Addr) (Q : List Qn) : Prop := W.ownsRow w.heap.size 32 5 (.slice (some ⟨g, 0, none⟩) (L.length + 2) cc) (L.length + 2) (rce5 (L ++ [spR, spR])) ∧ Below w.heap.size w W ∧ RsAt W p L ∧ QsAt W pq Q
theorem Lj.step {w W W' : World} {g cc : Nat} {p : Option Addr} {L : List Rn} {pq : Option Addr} {Q : List Qn} (h : Lj w W g cc p L pq Q) (hB : Below W.heap.size W W') : Lj w W' g cc p L pq Q := ⟨own_below h.1 hB, bstep h.2.1 hB h.2.1.size, rsAt_below7 h.2.2.1 hB, qs_belowJ h.2.2.2 hB⟩
theorem Lj.drew {w W : World} {g cc : Nat} {p : Option Addr} {L : List Rn} {pq : Option Addr} {Q : List Qn} (h : Lj w W g cc p L pq Q) : Lj w W.drew g cc p L pq Q := ⟨h.1, h.2.1.drew, h.2.2.1, h.2.2.2⟩
theorem Lj.own {w W : World} {g cc : Nat} {p : Option Addr} {L : List Rn} {pq : Option Addr} {Q : List Qn} (h : Lj w W g cc p L pq Q) : RsAt W (some ⟨g, 0, none⟩) L := rs_left (rs_own5 h.1)
def Lb (w W : World) (B : Nat) (qc : Array Value) (g cc : Nat) (p : Option Addr) (L : List Rn) (pq : Option Addr) (Q : List Qn) : Prop := Bx W B qc 26 ∧ Lj w W g cc p L pq Q
theorem Lb.step {w W W' : World} {B : Nat} {qc : Array Value} {g cc : Nat} {p : Option Addr} {L : List Rn} {pq : Option Addr} {Q : List Qn} (h : Lb w W B qc g cc p L pq Q) (hB : Below W.heap.size W W') : Lb w W' B qc g cc p L pq Q := ⟨h.1.below hB h.1.lt, h.2.step hB⟩
theorem Lb.drew {w W : World} {B : Nat} {qc : Array Value} {g cc : Nat} {p : Option Addr} {L : List Rn} {pq : Option Addr} {Q : List Qn} (h : Lb w W B qc g cc p L pq Q) : Lb w W.drew B qc g cc p L pq Q := ⟨h.1, h.2.drew⟩
set_option maxRecDepth 100000 in
set_option maxHeartbeats 8000000 in
/-- ProofJudges -/
theorem proofJudges_any (apex : ByteArray) (L : List Rn) (p : Option Addr) (cap : Nat) (Q : List Qn) (pq : Option Addr) (capq : Nat) (w : World) (ha : apex.size ≤ 1048576) (hL : L.length ≤ 1048576) (hat : RsAt w p L) (hno : p = none → cap = 0) (hz : ∀ r ∈ L, r.o.size ≤ 1048576 ∧ r.d.size ≤ 9223372036854775807) (hQ : Q.length ≤ 1048576) (hqt : QsAt w pq Q) (hqz : ∀ r ∈ Q, r.n.size ≤ 1048576) :
    Calls Tryz.prog 3 #[.string apex, .slice p L.length cap, .slice pq Q.length capq] w fun r w' => r = .returned (.bool true) ∧ Below w.heap.size w w' := by
  have HTW := hide' (twin_any L p cap w hL hat hno)
  have HAT := hide' hat
  have HQT := hide' hqt
  have HQZ := hide' hqz
  have HL := hide' hL
  have HJP := hide' (fun (n : ByteArray) (hn : n.size ≤ 1048576) (t : Int) (g cc : Nat) (W : World) (h : RsAt W (some ⟨g, 0, none⟩) L) => pJudge_any apex L (some ⟨g, 0, none⟩) cc n t W hL ha hn h hz)
  have HJR := hide' (fun (n : ByteArray) (hn : n.size ≤ 1048576) (t : Int) (W : World) (h : RsAt W p L) => rJudge_any apex L p cap n t W hL ha hn h hz)
  have HAP := hide' (fun (n : ByteArray) (hn : n.size ≤ 1048576) (g cc : Nat) (W : World) (h : RsAt W (some ⟨g, 0, none⟩) L) => pAbsent_any apex L (some ⟨g, 0, none⟩) cc n W hL ha hn h hz)
  have HAR := hide' (fun (n : ByteArray) (hn : n.size ≤ 1048576) (W : World) (h : RsAt W p L) => rAbsent_any apex L p cap n W hL ha hn h hz)
  clear hat hqt hqz hz hL
  go_enter Tryz.func3, Tryz.ntmps3
  go_wp2_with (first
    | (go_at_call 4; refine HTW.out.mono ?_; rintro r w1 ⟨g, cc, rfl, ho, hB⟩; have L1 : Hid (Lj w w1 g cc p L pq Q) := ⟨ho, hB, rsAt_below7 HAT.out hB, qs_belowJ HQT.out hB⟩; clear ho hB))
  go_loopw [14] (fun iv wr => ∃ k : Nat, iv = .int .i64 (k : Int) ∧ k ≤ Q.length ∧ Hid (Lj w wr g cc p L pq Q)) (fun iv _ => Q.length - (intOf iv).toNat)
  case atStart => exact ⟨0, rfl, Nat.zero_le _, L1.out⟩
  case round =>
    obtain ⟨k, rfl, hk, LJ⟩ := hrel
    clear L1
    by_cases hlt : k < Q.length
    · have hki : (k : Int) < (Q.length : Int) := by omega
      obtain ⟨gq, oq, rfl, hgq, e0, e1, e2⟩ := LJ.out.2.2.2 k hlt
      have hnz := HQZ.out _ (List.getElem_mem hlt)
      obtain ⟨x, hx⟩ : ∃ x, Q[k] = x := ⟨_, rfl⟩
      rw [hx] at e0 e1 e2 hnz
      clear hx
      obtain ⟨n, t, c⟩ := x
      dsimp only at e0 e1 e2 hnz
      have H1 := hide' (HJP.out n hnz t g cc)
      have H2 := hide' (HJR.out n hnz t)
      have H3 := hide' (HAP.out n hnz g cc)
      have H4 := hide' (HAR.out n hnz)
      generalize pjB apex L n t = jv at *
      generalize paB apex L n = av at *
      have L2 : Hid (Lb w (wr.alloc (.cells #[.string n, .int .i64 t, .int .i64 c] 26)) wr.heap.size #[.string n, .int .i64 t, .int .i64 c] g cc p L (some ⟨gq, oq, none⟩) Q) := ⟨World.alloc_heap_new wr _, LJ.out.step ((Below.refl _ _).alloc (Nat.le_refl _) _)⟩
      obtain ⟨W1, hW1⟩ : ∃ W1, wr.alloc (.cells #[.string n, .int .i64 t, .int .i64 c] 26) = W1 := ⟨_, rfl⟩
      rw [hW1] at L2
      have QF : Hid (∀ V : World, Lb w V wr.heap.size #[.string n, .int .i64 t, .int .i64 c] g cc p L (some ⟨gq, oq, none⟩) Q → V.cell? ⟨wr.heap.size, 0, none⟩ = some (.string n) ∧ V.cell? ⟨wr.heap.size, 1, none⟩ = some (.int .i64 t)) := fun V h => ⟨h.1.cell rfl, h.1.cell rfl⟩
      obtain ⟨q0, q1⟩ := QF.out _ L2.out
      go_wp2_with fail
      go_region_held3 (fun V => V.cell? ⟨wr.heap.size, 0, none⟩ = some (.string n) ∧ V.cell? ⟨wr.heap.size, 1, none⟩ = some (.int .i64 t)) (first | go_keep | exact QF.out _ L6.out | exact QF.out _ L5.out | exact QF.out _ L4.out | exact QF.out _ L3.out) (first
        | (go_at_call 5; refine (H1.out _ (by first | exact L2.out.2.own | exact L2.out.drew.2.own)).mono ?_; rintro r wa ⟨rfl, hB⟩; have L3 := hide' (show Lb w wa wr.heap.size #[.string n, .int .i64 t, .int .i64 c] g cc p L (some ⟨gq, oq, none⟩) Q by first | exact L2.out.step hB | exact L2.out.drew.step hB); clear hB)
        | (go_at_call 6; refine (H2.out _ (by first | exact L3.out.2.2.2.1 | exact L3.out.drew.2.2.2.1)).mono ?_; rintro r wb ⟨rfl, hB⟩; have L4 := hide' (show Lb w wb wr.heap.size #[.string n, .int .i64 t, .int .i64 c] g cc p L (some ⟨gq, oq, none⟩) Q by first | exact L3.out.step hB | exact L3.out.drew.step hB); clear hB)
        | (go_at_call 7; refine (H3.out _ (by first | exact L4.out.2.own | exact L4.out.drew.2.own)).mono ?_; rintro r wc ⟨rfl, hB⟩; have L5 := hide' (show Lb w wc wr.heap.size #[.string n, .int .i64 t, .int .i64 c] g cc p L (some ⟨gq, oq, none⟩) Q by first | exact L4.out.step hB | exact L4.out.drew.step hB); clear hB)
        | (go_at_call 8; refine (H4.out _ (by first | exact L5.out.2.2.2.1 | exact L5.out.drew.2.2.2.1)).mono ?_; rintro r wd ⟨rfl, hB⟩; have L6 := hide' (show Lb w wd wr.heap.size #[.string n, .int .i64 t, .int .i64 c] g cc p L (some ⟨gq, oq, none⟩) Q by first | exact L5.out.step hB | exact L5.out.drew.step hB); clear hB))
      go_wp2_with fail
      exact ⟨⟨k + 1, by go_num, by omega, (by first | exact L6.out.2 | exact L6.out.2.drew)⟩, by simp [intOf]; omega⟩
    · obtain rfl : k = Q.length := by omega
      go_wp2_with (first
        | (go_at_call 9; refine (wholeL_any L g cc p cap _ HL.out (rs_own5 LJ.out.1) (own_cap LJ.out.1).1 LJ.out.2.2.1).mono ?_; rintro r w6 ⟨rfl, hB⟩; have L7 := hide' (LJ.out.step hB); clear hB))
      go_ret
      exact ⟨rfl, L7.out.2.1⟩
end Go.Proofs.YtipifhifjbenlaaGreat
