import Derived.Test.YtfofdcacikbflaaDoorMn1G
import Derived.Test.YtfofdcacikbflaaDoorSt3
import Derived.Test.YtfofdcacikbflaaDoorRc1
import Derived.Test.YtfofdcacikbflaaDoorRf1
import Derived.Test.YtfofdcacikbflaaDoorRc2
namespace Go.Proofs.YtfofdcacikbflaaDoor
set_option linter.unusedVariables false
open Go.RowKit Go.Shelf Go.Proofs.YtfofdcacikbflaaDoor.Nm

/-- the row whose word is the text -/
def twWord (low : ByteArray) : Option (Nat × ByteArray) := tw.find? fun r => decide (lowB r.2 = low)
/-- the type that a text names -/
def typeOfB (low : ByteArray) : Nat := match twWord low with
  | some r => r.1
  | none => if 4 ≤ low.size ∧ low.extract 0 4 = ⟨#[116, 121, 112, 101]⟩ then (numR 16 5 (low.extract 4 low.size)).getD 0 else 0
theorem twWord_at {low : ByteArray} {i : Nat} (h : i < tw.length) (he : lowB tw[i].2 = low) (hn : ∀ j, (hj : j < tw.length) → j < i → lowB tw[j].2 ≠ low) : twWord low = some tw[i] := by
  unfold twWord
  rw [List.find?_eq_some_iff_getElem]
  exact ⟨by simpa using he, i, h, rfl, fun j hj => by simpa using hn j (by omega) hj⟩
theorem twWord_none {low : ByteArray} (hn : ∀ r ∈ tw, lowB r.2 ≠ low) : twWord low = none := List.find?_eq_none.2 (fun r hr => by simpa using hn r hr)
theorem typeOf_at {low : ByteArray} {r : Nat × ByteArray} (h : twWord low = some r) : typeOfB low = r.1 := by unfold typeOfB; rw [h]
theorem typeOf_yes {low : ByteArray} (h : twWord low = none) (h4 : 4 ≤ low.size) (hp : low.extract 0 4 = ⟨#[116, 121, 112, 101]⟩) : typeOfB low = (numR 16 5 (low.extract 4 low.size)).getD 0 := by unfold typeOfB; rw [h]; show (if _ then _ else _) = _; rw [if_pos ⟨h4, hp⟩]
theorem typeOf_no {low : ByteArray} (h : twWord low = none) (hp : ¬ (4 ≤ low.size ∧ low.extract 0 4 = ⟨#[116, 121, 112, 101]⟩)) : typeOfB low = 0 := by unfold typeOfB; rw [h]; show (if _ then _ else _) = _; rw [if_neg hp]
theorem low_type : lowB ⟨#[84, 89, 80, 69]⟩ = ⟨#[116, 121, 112, 101]⟩ := by decide +kernel

/-- strings.CutPrefix at the word that stands ahead of a number -/
theorem hasPrefix_any (s p : ByteArray) (w : World) (hs : s.size ≤ 1048576) (hp : p.size ≤ 1048576) :
    Calls Tryd.prog 39 #[.string s, .string p] w fun e w' => e = .returned (.bool (decide (p.size ≤ s.size ∧ s.extract 0 p.size = p))) ∧ w' = w := by
  by_cases h : p.size ≤ s.size
  · have hq := toList_bt (s.extract 0 p.size) p
    by_cases h2 : s.extract 0 p.size = p
    · have HE : Hid (decide (p.size ≤ s.size ∧ s.extract 0 p.size = p) = true) := decide_eq_true ⟨h, h2⟩
      rw [decide_eq_true h2] at hq
      clear h2
      go_enter Tryd.func39, Tryd.ntmps39
      go_wp2
      go_ret
      exact ⟨by rw [HE.out]; rfl, rfl⟩
    · have HE : Hid (decide (p.size ≤ s.size ∧ s.extract 0 p.size = p) = false) := decide_eq_false (fun h => h2 h.2)
      rw [decide_eq_false h2] at hq
      clear h2
      go_enter Tryd.func39, Tryd.ntmps39
      go_wp2
      go_ret
      exact ⟨by rw [HE.out]; rfl, rfl⟩
  · have HE : Hid (decide (p.size ≤ s.size ∧ s.extract 0 p.size = p) = false) := decide_eq_false (fun h' => h h'.1)
    go_enter Tryd.func39, Tryd.ntmps39
    go_wp2
    go_ret
    exact ⟨by rw [HE.out]; rfl, rfl⟩
theorem cutPrefix_any (s p : ByteArray) (w : World) (hs : s.size ≤ 1048576) (hp : p.size ≤ 1048576) :
    Calls Tryd.prog 18 #[.string s, .string p] w fun e w' => e = .returned (.tuple #[.string (if p.size ≤ s.size ∧ s.extract 0 p.size = p then s.extract p.size s.size else s), .bool (decide (p.size ≤ s.size ∧ s.extract 0 p.size = p))]) ∧ w' = w := by
  have HH := hide' (fun w => hasPrefix_any s p w hs hp)
  have key : Calls Tryd.prog 30 #[.string s, .string p] w fun e w' => e = .returned (.tuple #[.string (if p.size ≤ s.size ∧ s.extract 0 p.size = p then s.extract p.size s.size else s), .bool (decide (p.size ≤ s.size ∧ s.extract 0 p.size = p))]) ∧ w' = w := by
    by_cases h : p.size ≤ s.size ∧ s.extract 0 p.size = p
    · rw [decide_eq_true h] at HH
      rw [if_pos h, decide_eq_true h]
      have h1 := h.1
      clear h
      go_enter Tryd.func30, Tryd.ntmps30
      go_wp2_with (go_at_call 39; refine (HH.out _).mono ?_; rintro e w2 ⟨rfl, rfl⟩)
      go_ret2
      exact ⟨rfl, rfl⟩
    · rw [decide_eq_false h] at HH
      rw [if_neg h, decide_eq_false h]
      clear h
      go_enter Tryd.func30, Tryd.ntmps30
      go_wp2_with (go_at_call 39; refine (HH.out _).mono ?_; rintro e w2 ⟨rfl, rfl⟩)
      go_ret2
      exact ⟨rfl, rfl⟩
  have HK := hide' key
  generalize (if p.size ≤ s.size ∧ s.extract 0 p.size = p then s.extract p.size s.size else s) = X at *
  generalize (decide (p.size ≤ s.size ∧ s.extract 0 p.size = p)) = Y at *
  clear key HH
  go_enter Tryd.func18, Tryd.ntmps18
  go_wp2_with (go_at_call 30; refine HK.out.mono ?_; rintro e w2 ⟨rfl, rfl⟩)
  go_ret2
  exact ⟨rfl, rfl⟩

set_option maxRecDepth 100000 in
set_option maxHeartbeats 1000000 in
/-- data.TypeOf -/
theorem typeOf_any (s : ByteArray) (w : World) (hs : s.size ≤ 1048576) (hG : GW w) :
    Calls Tryd.prog 6 #[.string s] w fun e w' => e = .returned (.int .i64 (typeOfB (lowB s) : Nat)) ∧ Below w.heap.size w w' := by
  have HS := hide' (fun w => small_any s w hs)
  have hlz : (lowB s).size ≤ 1048576 := by rw [lowB_size]; exact hs
  have HSW : Hid (∀ r ∈ tw, ∀ w : World, Calls Tryd.prog 17 #[.string r.2] w fun e w' => e = .returned (.string (lowB r.2)) ∧ Below w.heap.size w w') := fun r hr w => small_any r.2 w (by have := (tw_small r hr).2.2; omega)
  have HST : Hid (∀ w : World, Calls Tryd.prog 17 #[.string ⟨#[84, 89, 80, 69]⟩] w fun e w' => e = .returned (.string ⟨#[116, 121, 112, 101]⟩) ∧ Below w.heap.size w w') := fun w => by
    have := small_any ⟨#[84, 89, 80, 69]⟩ w (by decide)
    rwa [low_type] at this
  generalize lowB s = low at *
  have hsz : (Tryd.prog.info? 33).map (·.size) = some twV.toArray.size := by kernel_rfl
  go_enter Tryd.func6, Tryd.ntmps6
  go_wp2_with (first
    | (go_at_call 17; refine (HS.out _).mono ?_; rintro e w1 ⟨rfl, hB1⟩; have hG1 := hG.below hB1; obtain ⟨tT, fT, hTW⟩ := hG1.words; have HTW := hide' hTW; clear hTW)
    | (refine wpList_load_row rfl 33 _ rfl 0 rfl tT twV.toArray fT _ HTW.out Tryd.underlying33 rfl hsz ?_))
  go_loopw [13] (fun iv wr => ∃ i : Nat, iv = .int .i64 i ∧ i ≤ 23 ∧ Hid (∀ j, (hj : j < tw.length) → j < i → lowB tw[j].2 ≠ low) ∧ Below w1.heap.size w1 wr) (fun iv _ => 23 - (intOf iv).toNat)
  case atStart => exact ⟨0, rfl, by omega, fun j hj h => absurd h (Nat.not_lt_zero _), Below.refl _ _⟩
  case round =>
    obtain ⟨i, rfl, hi, HJ, hBr⟩ := hrel
    by_cases hlt : i < 23
    · have hidx := tw_index i hlt
      have hil : i < tw.length := by rw [tw_len]; exact hlt
      have HSR := hide' (HSW.out tw[i] (List.getElem_mem hil))
      have hq := toList_bt (lowB tw[i].2) low
      by_cases he : lowB tw[i].2 = low
      · have HE : Hid (typeOfB low = tw[i].1) := typeOf_at (twWord_at hil he HJ.out)
        rw [decide_eq_true he] at hq
        clear he HJ
        generalize hX : lowB tw[i].2 = X at *
        clear hX
        generalize tw[i] = r at *
        go_wp2_with (go_at_call 17; refine (HSR.out _).mono ?_; rintro e w3 ⟨rfl, hB3⟩; have hcb : w3.cell? ⟨wr.heap.size, 0, none⟩ = some (.int .i64 (r.1 : Int)) := (hB3.cell (by simp)).trans (by simp))
        go_ret
        exact ⟨by rw [HE.out]; rfl, bstep hB1 (bstep (hBr.alloc hBr.size _) hB3 (by have := hBr.size; simp; omega)) hB1.size⟩
      · have HJ2 : Hid (∀ j, (hj : j < tw.length) → j < i + 1 → lowB tw[j].2 ≠ low) := fun j hj h => by
          by_cases e : j = i
          · subst e; exact he
          · exact HJ.out j hj (by omega)
        rw [decide_eq_false he] at hq
        clear he HJ
        generalize hX : lowB tw[i].2 = X at *
        clear hX
        generalize tw[i] = r at *
        go_wp2_with (go_at_call 17; refine (HSR.out _).mono ?_; rintro e w3 ⟨rfl, hB3⟩)
        exact ⟨⟨i + 1, by go_num, hlt, HJ2, bstep (hBr.alloc hBr.size _) hB3 (by have := hBr.size; simp; omega)⟩, by simp [intOf]; omega⟩
    · have hnf : twWord low = none := twWord_none (fun r hr => by
        obtain ⟨j, hj, rfl⟩ := List.mem_iff_getElem.1 hr
        have := tw_len
        exact HJ.out j hj (by omega))
      have HCP := hide' (fun w => cutPrefix_any low ⟨#[116, 121, 112, 101]⟩ w hlz (by decide))
      have hBwr : Below w.heap.size w wr := bstep hB1 hBr hB1.size
      have HGR := hide' (hG1.below hBr)
      have hp4 : (⟨#[116, 121, 112, 101]⟩ : ByteArray).size = 4 := rfl
      simp only [hp4] at HCP
      clear HJ hp4
      by_cases hpr : 4 ≤ low.size ∧ low.extract 0 4 = ⟨#[116, 121, 112, 101]⟩
      · have HE : Hid (typeOfB low = (numR 16 5 (low.extract 4 low.size)).getD 0) := typeOf_yes hnf hpr.1 hpr.2
        simp only [if_pos hpr, decide_eq_true hpr] at HCP
        have hxz : (low.extract 4 low.size).size ≤ 1048576 := by rw [size_extract' _ _ _ (Nat.le_refl _)]; omega
        have HNU : Hid (∀ w : World, Gl w → Calls Tryd.prog 19 #[.string (low.extract 4 low.size), .int .i64 5, .int .i64 16] w fun e w' => e = .returned (.tuple #[.int .i64 (((numR 16 5 (low.extract 4 low.size)).getD 0 : Nat) : Int), .bool (numR 16 5 (low.extract 4 low.size)).isSome]) ∧ Below w.heap.size w w') := fun w h => number_at (low.extract 4 low.size) 16 5 w (by omega) (by omega) hxz h
        generalize (numR 16 5 (low.extract 4 low.size)) = NR at *
        generalize (low.extract 4 low.size) = DG at *
        clear hpr hnf
        go_wp2_with (first
          | (go_at_call 17; refine (HST.out _).mono ?_; rintro e w3 ⟨rfl, hB3⟩)
          | (go_at_call 18; refine (HCP.out _).mono ?_; rintro e w4 ⟨rfl, rfl⟩)
          | (go_at_call 19; refine (HNU.out _ (HGR.out.below hB3).errs).mono ?_; rintro e w5 ⟨rfl, hB5⟩))
        go_ret
        exact ⟨by rw [HE.out]; rfl, bstep (bstep hBwr hB3 hBwr.size) hB5 (Nat.le_trans hBwr.size hB3.size)⟩
      · have HE : Hid (typeOfB low = 0) := typeOf_no hnf hpr
        simp only [if_neg hpr, decide_eq_false hpr] at HCP
        clear hpr hnf
        go_wp2_with (first
          | (go_at_call 17; refine (HST.out _).mono ?_; rintro e w3 ⟨rfl, hB3⟩)
          | (go_at_call 18; refine (HCP.out _).mono ?_; rintro e w4 ⟨rfl, rfl⟩))
        go_ret
        exact ⟨by rw [HE.out]; rfl, bstep hBwr hB3 hBwr.size⟩
end Go.Proofs.YtfofdcacikbflaaDoor

namespace Go.Proofs.YtfofdcacikbflaaDoor
set_option linter.unusedVariables false
open Go.RowKit Go.Shelf Go.Proofs.YtfofdcacikbflaaDoor.Nm

theorem tw_rise : tw.Pairwise (fun a b => a.1 < b.1) := by decide
theorem twWord_row {low : ByteArray} {r : Nat × ByteArray} (hr : r ∈ tw) (he : lowB r.2 = low) (hn : ∀ q ∈ tw, q.1 < r.1 → lowB q.2 ≠ low) : twWord low = some r := by
  obtain ⟨i, hi, rfl⟩ := List.mem_iff_getElem.1 hr
  exact twWord_at hi he (fun j hj h => hn _ (List.getElem_mem hj) (List.pairwise_iff_getElem.1 tw_rise j i hj hi h))

set_option maxRecDepth 100000 in
set_option maxHeartbeats 1000000 in
/-- gazetteerref1.TypeOf -/
theorem refTypeOf_any (s : ByteArray) (w : World) (hs : s.size ≤ 1048576) :
    Calls Tryd.prog 7 #[.string s] w fun e w' => e = .returned (.int .i64 (typeOfB (lowB s) : Nat)) ∧ Below w.heap.size w w' := by
  have HS := hide' (fun w => low_any s w hs)
  have hlz : (lowB s).size ≤ 1048576 := by rw [lowB_size]; exact hs
  generalize lowB s = low at *
  go_enter Tryd.func7, Tryd.ntmps7
  go_wp2_with (go_at_call 20; refine (HS.out _).mono ?_; rintro e w1 ⟨rfl, hB1⟩)
  go_loopw [4] (fun tv wr => ∃ t : Nat, tv = .int .i64 t ∧ 1 ≤ t ∧ t ≤ 300 ∧ Hid (∀ r ∈ tw, r.1 < t → lowB r.2 ≠ low) ∧ Below w1.heap.size w1 wr) (fun tv _ => 300 - (intOf tv).toNat)
  case atStart => exact ⟨1, rfl, by omega, by omega, fun r hr h => by have := (tw_small r hr).1; omega, Below.refl _ _⟩
  case round =>
    obtain ⟨t, rfl, ht1, ht2, HJ, hBr⟩ := hrel
    by_cases hlt : t < 300
    · have HM := hide' (fun w => mnemonic_any (t : Int) w)
      cases hf : twFind (t : Int) with
      | none =>
        have hm : mnB (t : Int) = ⟨#[]⟩ := by unfold mnB; rw [hf]; rfl
        rw [hm] at HM
        have HJ2 : Hid (∀ r ∈ tw, r.1 < t + 1 → lowB r.2 ≠ low) := fun r hr h => by
          by_cases e : r.1 = t
          · exfalso
            unfold twFind at hf
            rw [Option.map_eq_none_iff, List.find?_eq_none] at hf
            exact hf r hr (by simp; omega)
          · exact HJ.out r hr (by omega)
        clear hf hm HJ
        go_wp2_with (go_at_call 15; refine (HM.out _).mono ?_; rintro e w2 ⟨rfl, rfl⟩)
        exact ⟨⟨t + 1, by go_num, by omega, by omega, HJ2, hBr⟩, by simp [intOf]; omega⟩
      | some m =>
        obtain ⟨r, hr, h1, h2⟩ := twFind_some hf
        have h3 := tw_small r hr
        have h4 := tw_full r hr
        rw [h2] at h3 h4
        have hm : mnB (t : Int) = m := by unfold mnB; rw [hf]; rfl
        have he := isEmpty_false (r := m) (by omega)
        have HL := hide' (fun w => low_any m w (by omega))
        have hq := toList_bt (lowB m) low
        rw [hm] at HM
        by_cases hw : lowB m = low
        · have HE : Hid (typeOfB low = t) := by
            have h5 := twWord_row hr (by rw [h2]; exact hw) (fun q hq' h => HJ.out q hq' (by omega))
            unfold Hid; rw [typeOf_at h5]; omega
          rw [decide_eq_true hw] at hq
          clear hf hm HJ hr h1 h2 h3 h4 hw
          generalize hX : lowB m = X at *
          clear hX
          go_wp2_with (first
            | (go_at_call 15; refine (HM.out _).mono ?_; rintro e w2 ⟨rfl, rfl⟩)
            | (go_at_call 20; refine (HL.out _).mono ?_; rintro e w3 ⟨rfl, hB3⟩))
          go_ret
          exact ⟨by rw [HE.out]; rfl, bstep hB1 (bstep hBr hB3 hBr.size) hB1.size⟩
        · have HJ2 : Hid (∀ r ∈ tw, r.1 < t + 1 → lowB r.2 ≠ low) := fun q hq' h => by
            by_cases e : q.1 = t
            · have : q = r := by
                have hd : ∀ a ∈ tw, ∀ b ∈ tw, a.1 = b.1 → a = b := by decide +kernel
                exact hd q hq' r hr (by omega)
              rw [this, h2]; exact hw
            · exact HJ.out q hq' (by omega)
          rw [decide_eq_false hw] at hq
          clear hf hm HJ hr h1 h2 h3 h4 hw
          generalize hX : lowB m = X at *
          clear hX
          go_wp2_with (first
            | (go_at_call 15; refine (HM.out _).mono ?_; rintro e w2 ⟨rfl, rfl⟩)
            | (go_at_call 20; refine (HL.out _).mono ?_; rintro e w3 ⟨rfl, hB3⟩))
          exact ⟨⟨t + 1, by go_num, by omega, by omega, HJ2, bstep hBr hB3 hBr.size⟩, by simp [intOf]; omega⟩
    · have hnf : twWord low = none := twWord_none (fun r hr => HJ.out r hr (by have := (tw_small r hr).2.1; omega))
      have hBwr : Below w.heap.size w wr := bstep hB1 hBr hB1.size
      clear HJ
      by_cases h5 : low.size < 5
      · have HE : Hid (typeOfB low = 0) := by
          unfold Hid
          by_cases hpr : 4 ≤ low.size ∧ low.extract 0 4 = ⟨#[116, 121, 112, 101]⟩
          · rw [typeOf_yes hnf hpr.1 hpr.2, numR_is, if_neg]
            · rfl
            · rw [size_extract' _ _ _ (Nat.le_refl _)]; omega
          · exact typeOf_no hnf hpr
        clear hnf
        go_wp2
        go_ret
        exact ⟨by rw [HE.out]; rfl, hBwr⟩
      · have h5' : 5 ≤ low.size := by omega
        have hq := toList_bt (low.extract 0 4) ⟨#[116, 121, 112, 101]⟩
        have hqe : (⟨#[116, 121, 112, 101]⟩ : ByteArray).toList = [116, 121, 112, 101] := by rw [toList_eq]
        rw [hqe] at hq
        by_cases hpr : low.extract 0 4 = ⟨#[116, 121, 112, 101]⟩
        · have HE : Hid (typeOfB low = (numR 16 5 (low.extract 4 low.size)).getD 0) := typeOf_yes hnf (by omega) hpr
          rw [decide_eq_true hpr] at hq
          have HNU := hide' (fun w => refNumber_any (low.extract 4 low.size) w (by rw [size_extract' _ _ _ (Nat.le_refl _)]; omega))
          have hnl : ∀ v, numR 16 5 (low.extract 4 low.size) = some v → v ≤ 65535 := fun v h => by
            rw [numR_is] at h
            split at h
            · rename_i hc; injection h with h; rw [← h]; exact hc.2.2.2
            · cases h
          generalize hNR : (numR 16 5 (low.extract 4 low.size)) = NR at *
          clear hpr hnf h5 hNR hqe
          cases NR with
          | none =>
            go_wp2_with (go_at_call 21; refine (HNU.out _).mono ?_; rintro e w3 ⟨rfl, rfl⟩; simp only [numI])
            go_ret
            exact ⟨by rw [HE.out]; rfl, hBwr⟩
          | some v =>
            have hv := hnl v rfl
            clear hnl
            by_cases hv0 : v = 0
            · subst hv0
              go_wp2_with (go_at_call 21; refine (HNU.out _).mono ?_; rintro e w3 ⟨rfl, rfl⟩; simp only [numI])
              go_ret
              exact ⟨by rw [HE.out]; rfl, hBwr⟩
            · go_wp2_with (go_at_call 21; refine (HNU.out _).mono ?_; rintro e w3 ⟨rfl, rfl⟩; simp only [numI])
              go_ret
              exact ⟨by rw [HE.out]; rfl, hBwr⟩
        · have HE : Hid (typeOfB low = 0) := typeOf_no hnf (fun h => hpr h.2)
          rw [decide_eq_false hpr] at hq
          clear hpr hnf h5 hqe
          go_wp2
          go_ret
          exact ⟨by rw [HE.out]; rfl, hBwr⟩
end Go.Proofs.YtfofdcacikbflaaDoor

namespace Go.Proofs.YtfofdcacikbflaaDoor
set_option linter.unusedVariables false
open Go.RowKit Go.Shelf Go.Proofs.YtfofdcacikbflaaDoor.Nm

theorem ZAt.below {w w' : World} {p : Option Addr} {L : List Int} (h : ZAt w w.heap.size p L) (hb : Below w.heap.size w w') : ZAt w' w'.heap.size p L := fun k hk => by
  obtain ⟨g, off, h1, h2, h3⟩ := h k hk
  exact ⟨g, off, h1, Nat.lt_of_lt_of_le h2 hb.size, (hb.cell (p := ⟨g, off + k, none⟩) h2).trans h3⟩
theorem ZAt.of_nums {w : World} {p : Option Addr} {l : List Nat} (h : NumsAt w p l) : ZAt w w.heap.size p (l.map (fun n : Nat => (n : Int))) := fun k hk => by
  obtain ⟨g, off, h1, h2, h3⟩ := h k (by simpa using hk)
  exact ⟨g, off, h1, h2, by rw [h3]; simp⟩

set_option maxRecDepth 100000 in
set_option maxHeartbeats 1000000 in
/-- sameNumbers, at two lists that are the same -/
theorem sameNumbers_same (px py : Option Addr) (n cx cy : Nat) (l : List Nat) (w : World) (hn : l.length = n) (hx : NumsAt w px l) (hy : NumsAt w py l) (hll : l.length ≤ 4294967296) :
    Calls Tryd.prog 10 #[.slice px n cx, .slice py n cy] w fun e w' => e = .returned (.bool true) ∧ Below w.heap.size w w' := by
  subst hn
  go_enter Tryd.func10, Tryd.ntmps10
  go_wp2
  go_loopw [13] (fun i wr => ∃ k : Nat, i = .int .i64 k ∧ k ≤ l.length ∧ Below w.heap.size w wr) (fun i _ => l.length - (intOf i).toNat)
  case atStart => exact ⟨0, rfl, Nat.zero_le _, Below.refl _ _⟩
  case round =>
    obtain ⟨k, rfl, hk, hB⟩ := hrel
    by_cases hlt : k < l.length
    · obtain ⟨gx, ox, rfl, hgx, hcx0⟩ := hx k hlt
      obtain ⟨gy, oy, rfl, hgy, hcy0⟩ := hy k hlt
      have hcx := (hB.cell (p := ⟨gx, ox + k, none⟩) hgx).trans hcx0
      have hcy := (hB.cell (p := ⟨gy, oy + k, none⟩) hgy).trans hcy0
      generalize l[k] = X at *
      clear hcx0 hcy0
      go_wp2
      go_quiet (fail)
      go_wp2
      all_goals
        go_roundw
        case rel => exact ⟨k + 1, by go_num, by omega, below_drewN hB _⟩
        case measure => simp [intOf]; omega
    · go_wp2
      go_ret
      exact ⟨rfl, hB⟩

theorem zat_new (w : World) (L : List Int) (o : Obj) (ho : o = .cells (L.map (fun x => Value.int .i64 x)).toArray 3) : ZAt (w.alloc o) (w.alloc o).heap.size (some ⟨w.heap.size, 0, none⟩) L := fun k hk => by
  subst ho
  refine ⟨w.heap.size, 0, rfl, by simp, ?_⟩
  have e := heap_alloc_new w (.cells (L.map (fun x => Value.int .i64 x)).toArray 3)
  simp only [World.cell?, e]
  simp [hk]
theorem nums_new (w : World) (l : List Nat) (o : Obj) (ho : o = .cells (nums l).toArray 3) : NumsAt (w.alloc o) (some ⟨w.heap.size, 0, none⟩) l := fun k hk => by
  subst ho
  refine ⟨w.heap.size, 0, rfl, by simp, ?_⟩
  have e := heap_alloc_new w (.cells (nums l).toArray 3)
  simp only [World.cell?, e]
  simp [hk, nums]

end Go.Proofs.YtfofdcacikbflaaDoor

namespace Go.Proofs.YtfofdcacikbflaaDoor
set_option linter.unusedVariables false
open Go.RowKit Go.Shelf Go.Proofs.YtfofdcacikbflaaDoor.Nm

theorem typF_len : ∀ (f : Nat) (last : Int) (s : ByteArray) (l : List Nat), typF f last s = some l → l.length ≤ 8 * s.size
  | 0, last, s, l, h => by
    unfold typF at h; split at h
    · simp at h; subst h; simp
    · cases h
  | f + 1, last, s, l, h => by
    by_cases h0 : s.size = 0
    · unfold typF at h; rw [if_pos h0] at h; simp at h; subst h; simp
    · obtain ⟨q, hb, hq⟩ := typF_blk h h0
      have h1 := typF_len f _ _ q hq
      rw [size_extract' _ _ _ (Nat.le_refl _)] at h1
      have h2 := blkT_len (bt s 0) (s.extract 2 (2 + bt s 1)) (8 * bt s 1)
      have h3 := hb.room
      rw [hb.eq, List.length_append]; omega
/-- what Types answers, both parts -/
def tyL (s : ByteArray) : List Nat := (typB s).getD []
def tyE (s : ByteArray) : Int := match typB s with | some _ => 0 | none => 7
theorem tyL_len (s : ByteArray) : (tyL s).length ≤ 8 * s.size := by
  unfold tyL
  cases h : typB s with
  | none => simp
  | some l =>
    unfold typB at h
    cases e : typS (-1) s with
    | none => rw [e] at h; cases h
    | some l' => rw [e] at h; simp only at h; split at h <;> simp at h; subst h; exact typF_len _ _ _ _ e
def tyEnd (w : World) (s : ByteArray) (e : Ending) (w' : World) : Prop := ∃ p c, e = .returned (.tuple #[.slice p (tyL s).length c, .int .i64 (tyE s)]) ∧ w'.ownsRow w.heap.size 3 1 (.slice p (tyL s).length c) (tyL s).length (nums (tyL s))
theorem tyEnd_of {w w' : World} {s : ByteArray} {e : Ending} (h : rtEnd w (typB s) e w') : tyEnd w s e w' := by
  unfold tyEnd tyL tyE
  cases hb : typB s with
  | none => rw [hb] at h; exact ⟨none, 0, h, World.ownsRow_nil _ _ _ _⟩
  | some l =>
    rw [hb] at h
    obtain ⟨v, he, ho⟩ := h
    obtain ⟨p, c, rfl, _⟩ := owns_shape ho
    exact ⟨p, c, he, ho⟩
theorem zat_owns {w : World} {base n c : Nat} {p : Option Addr} {L : List Int} {xs : List Value} (h : w.ownsRow base 3 1 (.slice p n c) n xs) (hn : L.length ≤ n) (hx : ∀ k, (hk : k < L.length) → xs[k]? = some (.int .i64 L[k])) : ZAt w w.heap.size p L := by
  intro j hj
  have h' := h
  obtain ⟨_, (⟨h1, h2⟩ | ⟨g, cap, cur, h1, hb, hg, hn', hcap, _⟩)⟩ := h'
  · omega
  · injection h1 with h1 h2 h3
    subst h1
    refine ⟨g, 0, rfl, (Array.getElem?_eq_some_iff.1 hg).1, ?_⟩
    rw [Nat.zero_add, h.cellAt j (by omega)]; exact hx j hj
theorem nums_get (l : List Nat) (k : Nat) (h : k < (l.map (fun n : Nat => (n : Int))).length) : (nums l)[k]? = some (.int .i64 (l.map (fun n : Nat => (n : Int)))[k]) := by
  have h' : k < l.length := by simpa using h
  simp [nums, h']

set_option maxRecDepth 100000 in
set_option maxHeartbeats 1000000 in
/-- sameNumbers, at two lists of any numbers that are the same -/
theorem sameZ (px py : Option Addr) (n cx cy : Nat) (l : List Int) (w : World) (hn : l.length = n) (hx : ZAt w w.heap.size px l) (hy : ZAt w w.heap.size py l) (hll : l.length ≤ 4294967296) :
    Calls Tryd.prog 10 #[.slice px n cx, .slice py n cy] w fun e w' => e = .returned (.bool true) ∧ Below w.heap.size w w' := by
  subst hn
  go_enter Tryd.func10, Tryd.ntmps10
  go_wp2
  go_loopw [13] (fun i wr => ∃ k : Nat, i = .int .i64 k ∧ k ≤ l.length ∧ Below w.heap.size w wr) (fun i _ => l.length - (intOf i).toNat)
  case atStart => exact ⟨0, rfl, Nat.zero_le _, Below.refl _ _⟩
  case round =>
    obtain ⟨k, rfl, hk, hB⟩ := hrel
    by_cases hlt : k < l.length
    · obtain ⟨gx, ox, rfl, hgx, hcx0⟩ := hx k hlt
      obtain ⟨gy, oy, rfl, hgy, hcy0⟩ := hy k hlt
      have hcx := (hB.cell (p := ⟨gx, ox + k, none⟩) hgx).trans hcx0
      have hcy := (hB.cell (p := ⟨gy, oy + k, none⟩) hgy).trans hcy0
      generalize l[k] = X at *
      clear hcx0 hcy0
      go_wp2
      go_quiet (fail)
      go_wp2
      all_goals
        go_roundw
        case rel => exact ⟨k + 1, by go_num, by omega, below_drewN hB _⟩
        case measure => simp [intOf]; omega
    · go_wp2
      go_ret
      exact ⟨rfl, hB⟩

/-- append(nil, l...) of numbers -/
theorem wpList_append_ints {w : World} {ops : Array Oper} {rest : List Oper} {o : Oper} {a : Act} {Q : Exit → Act → World → Prop} (hgd : o.guard = none) (s x : Operand)
    (ho : o.op = .call { callee := .builtin .append, args := #[s, x], argTypes := #[22, 22] })
    (base : Nat) (hs : a.eval s = .slice none 0 0)
    (p : Option Addr) (l : List Int) (c : Nat) (hx : a.eval x = .slice p l.length c) (hat : ZAt w w.heap.size p l) (hnone : p = none → c = 0)
    (hsm : l.length ≤ 4294967296) (hbase : base ≤ w.heap.size)
    (h : ∀ v' w', w'.ownsRow base 3 1 v' l.length (l.map encI) → w.grownBy w' none → wpList Tryd.prog ops Q rest (a.put o.dst v') w') : wpList Tryd.prog ops Q (o :: rest) a w := by
  obtain ⟨i0, hi, hz0, hz1, hz2⟩ := info_parts Tryd.infoInt
  cases p with
  | none =>
    have hl : l = [] := by
      cases l with
      | nil => rfl
      | cons y l => obtain ⟨g, off, hp, _⟩ := hat 0 (by simp); cases hp
    subst hl
    have hc := hnone rfl
    subst hc
    refine wpList_append_own_none hgd s x 22 ho base 3 i0 1 Tryd.underlying22 hi _ 0 [] hs (World.ownsRow_nil _ _ _ _) hx (h _ w ?_ (grownBy_refl _ _))
    exact World.ownsRow_nil _ _ _ _
  | some ad =>
    refine wpList_append_own w hgd s x 22 ho base 3 i0 (.int .i64 0) 1 8 Tryd.underlying22 hi hz0 hz1 hz2 rfl (by decide) _ 0 [] hs (World.ownsRow_nil _ _ _ _) ad l.length c (l.map encI) hx (by simp) ?_ ?_ (by unfold maxLen; omega) (by omega) hbase (fun v' w' h1 h2 _ => h v' w' (by simpa using h1) h2)
    · intro j u hj
      have hj' : j < l.length := by
        have := (List.getElem?_eq_some_iff.1 hj).1
        simpa using this
      obtain ⟨g, off, hp, _, hc⟩ := hat j hj'
      obtain rfl := Option.some.inj hp
      rw [addr_add, hc]
      simp [hj', encI] at hj
      rw [hj]
    · intro u hu
      obtain ⟨z, _, rfl⟩ := List.mem_map.1 hu
      rfl
end Go.Proofs.YtfofdcacikbflaaDoor

namespace Go.Proofs.YtfofdcacikbflaaDoor
set_option linter.unusedVariables false
open Go.RowKit Go.Shelf Go.Proofs.YtfofdcacikbflaaDoor.Nm

set_option maxRecDepth 100000 in
set_option maxHeartbeats 2000000 in
/-- gazetteerlaw1.DataTypes -/
theorem dataTypes_any (t : Int) (text set : ByteArray) (L : List Int) (p : Option Addr) (cap : Nat) (w : World) (ht9 : -9223372036854775808 ≤ t ∧ t ≤ 9223372036854775807) (h1 : text.size ≤ 1048576) (h2 : set.size ≤ 1048576)
    (hL : L.length ≤ 1048576) (hlc : L.length ≤ cap) (hc : cap ≤ 9223372036854775807) (hnone : p = none → cap = 0) (hat : ZAt w w.heap.size p L) (hG : GW w) :
    Calls Tryd.prog 3 #[.int .i64 t, .string text, .string set, .slice p L.length cap] w fun e w' => e = .returned (.bool true) ∧ Below w.heap.size w w' := by
  obtain ⟨i0, hi, hz0, hz1, hz2⟩ := info_parts Tryd.infoInt
  have HTN := hide' (fun w hG => typeName_any t w hG ht9)
  have HRN := hide' (fun w => refTypeName_any t w)
  have HTO := hide' (fun w hG => typeOf_any text w h1 hG)
  have HRO := hide' (fun w => refTypeOf_any text w h1)
  have HTY : Hid (∀ w : World, Calls Tryd.prog 8 #[.string set] w fun e w' => tyEnd w set e w' ∧ Below w.heap.size w w') := fun w => (types_any set w h2).mono (by rintro e w' ⟨h, hb⟩; exact ⟨tyEnd_of h, hb⟩)
  have HRY : Hid (∀ w : World, Calls Tryd.prog 9 #[.string set] w fun e w' => tyEnd w set e w' ∧ Below w.heap.size w w') := fun w => (refTypes_any set w h2).mono (by rintro e w' ⟨h, hb⟩; exact ⟨tyEnd_of h, hb⟩)
  have hUl := tyL_len set
  unfold tyEnd at HTY HRY
  generalize tyL set = U at *
  generalize tyE set = E at *
  generalize nameT t = NT at *
  generalize typeOfB (lowB text) = TO at *
  have hUl2 : U.length ≤ 8388608 := by omega
  have HSN : Hid (∀ (px py : Option Addr) (cx cy : Nat) (w : World), ZAt w w.heap.size px (U.map (fun n : Nat => (n : Int))) → ZAt w w.heap.size py (U.map (fun n : Nat => (n : Int))) → Calls Tryd.prog 10 #[.slice px U.length cx, .slice py U.length cy] w fun e w' => e = .returned (.bool true) ∧ Below w.heap.size w w') :=
    fun px py cx cy w hx hy => sameZ px py U.length cx cy _ w (by simp) hx hy (by simp; omega)
  have HAT := hide' hat
  have HNO := hide' hnone
  clear hat hnone hUl
  go_enter Tryd.func3, Tryd.ntmps3
  go_wp2_with (first
    | (go_at_call 4; refine (HTN.out _ hG).mono ?_; rintro e w1 ⟨rfl, hB1⟩; have hG1 := hG.below hB1)
    | (go_at_call 5; refine (HRN.out _).mono ?_; rintro e w2 ⟨rfl, hB2⟩; have hG2 := hG1.below hB2)
    | (go_at_call 6; refine (HTO.out _ hG2).mono ?_; rintro e w3 ⟨rfl, hB3⟩)
    | (go_at_call 7; refine (HRO.out _).mono ?_; rintro e w4 ⟨rfl, hB4⟩)
    | (go_at_call 8; refine (HTY.out _).mono ?_; rintro e w5 ⟨⟨p5, c5, rfl, hown5⟩, hB5⟩)
    | (go_at_call 9; refine (HRY.out _).mono ?_; rintro e w6 ⟨⟨p6, c6, rfl, hown6⟩, hB6⟩)
    | (go_at_call 10; refine (HSN.out p5 p6 c5 c6 _ ((zat_owns hown5 (by simp) (nums_get U)).below hB6) (zat_owns hown6 (by simp) (nums_get U))).mono ?_; rintro e w7 ⟨rfl, hB7⟩))
  have hBw4 : Below w.heap.size w w4 := bstep (bstep (bstep hB1 hB2 hB1.size) hB3 (Nat.le_trans hB1.size hB2.size)) hB4 (Nat.le_trans (Nat.le_trans hB1.size hB2.size) hB3.size)
  have hBw5 : Below w.heap.size w w5 := bstep hBw4 hB5 hBw4.size
  have hBw6 : Below w.heap.size w w6 := bstep hBw5 hB6 hBw5.size
  have hBw7 : Below w.heap.size w w7 := bstep hBw6 hB7 hBw6.size
  have hl7 := ownsRow_below (ownsRow_below hown5 hB6) hB7
  have hm7 := ownsRow_below hown6 hB7
  have HLT := hide' hown5.lt
  have h45 : w.heap.size ≤ w4.heap.size := hBw4.size
  clear hown5 hown6 hG1 hG2
  go_loopw [49] (fun iv wr => ∃ (i : Nat) (xs : List Value), iv = .int .i64 i ∧ i ≤ U.length ∧ wr.ownsRow w4.heap.size 3 1 (.slice p5 U.length c5) U.length xs ∧ wr.ownsRow w5.heap.size 3 1 (.slice p6 U.length c6) U.length (nums U) ∧ Below w.heap.size w wr) (fun iv _ => U.length - (intOf iv).toNat)
  case atStart => exact ⟨0, _, rfl, Nat.zero_le _, hl7, hm7, hBw7⟩
  case round =>
    clear hl7 hm7
    obtain ⟨i, xs, rfl, hiU, hl7, hm7, hBr⟩ := hrel
    by_cases hlt : i < U.length
    · obtain ⟨g, rfl⟩ : ∃ g, p5 = some ⟨g, 0, none⟩ := by
        obtain ⟨_, (⟨h1, h2⟩ | ⟨g, cap, cur, h1, hb, hg, hn, hcap, _⟩)⟩ := hl7
        · omega
        · injection h1 with h1; exact ⟨g, h1⟩
      obtain ⟨hg1, hg2⟩ := HLT.out g rfl
      have hxl : xs.length = U.length := by have := hl7.1; omega
      have hcell : wr.cell? ⟨g, i, none⟩ = some (xs[i]'(by omega)) := by rw [hl7.cellAt i (by omega)]; simp [hxl, hlt]
      have hfz := hl7.frozenAt i
      have hl8 := hl7.stored i (.int .i64 (-1))
      have hm8 := ownsRow_setCell_below hm7 (a := ⟨g, i, none⟩) hg2 (.int .i64 (-1))
      have hB8 : Below w.heap.size w (wr.setCell ⟨g, i, none⟩ (.int .i64 (-1))) := hBr.setCell (p := ⟨g, i, none⟩) (Nat.le_trans h45 hg1) _
      go_wp2
      exact ⟨⟨i + 1, _, by go_num, hlt, hl8.1, hm8, hB8⟩, by simp [intOf]; omega⟩
    · have hS1 := hide' (set_any L)
      have hS2 := hide' (refSet_any L)
      generalize (bts (setB (L.mergeSort (fun x y => decide (x ≤ y))))) = RES at *
      go_wp2_with (first
        | (go_at_call 8; refine (HTY.out _).mono ?_; rintro e w9 ⟨⟨p9, c9, rfl, hown9⟩, hB9⟩; have hm9 := ownsRow_below hm7 hB9)
        | (go_at_call 10; refine (HSN.out p9 p6 c9 c6 _ (zat_owns hown9 (by simp) (nums_get U)) (zat_owns hm9 (by simp) (nums_get U))).mono ?_; rintro e wa ⟨rfl, hBa⟩; have hBwa : Below w.heap.size w wa := bstep (bstep hBr hB9 hBr.size) hBa (Nat.le_trans hBr.size hB9.size); have HZa := hide' (HAT.out.below hBwa))
        | (at_builtin; refine wpList_append_ints (w := wa) rfl _ _ rfl wa.heap.size rfl p L cap rfl HZa.out HNO.out (by omega) (Nat.le_refl _) ?_; intro vO wb hownO hgrowO; have hBab : Below wa.heap.size wa wb := (Below.refl _ wa).grown hgrowO (Nat.le_refl _) (fun k e => by cases e); have hBwb : Below w.heap.size w wb := bstep hBwa hBab hBwa.size; have HZb := hide' (HAT.out.below hBwb); obtain ⟨pO, cO, rfl, hO1, hO9, hOs⟩ := owns_shape hownO; clear hOs)
        | (at_builtin; refine wpList_append_ints (w := wb) rfl _ _ rfl wb.heap.size rfl p L cap rfl HZb.out HNO.out (by omega) (Nat.le_refl _) ?_; intro vF wc hownF hgrowF; have hBbc : Below wb.heap.size wb wc := (Below.refl _ wb).grown hgrowF (Nat.le_refl _) (fun k e => by cases e))
        | (at_builtin; refine wpList_append_own _ rfl _ _ 22 rfl wb.heap.size 3 i0 (.int .i64 0) 1 8 Tryd.underlying22 hi hz0 hz1 hz2 rfl (by decide) _ _ _ rfl (hownF.alloc _) ⟨wc.heap.size, 0, none⟩ 2 2 [.int .i64 (-7), .int .i64 (-8)] rfl rfl (two_new _ _ _ _) (by simp [Value.oneCell']) (by unfold maxLen; omega) (by omega) (by have := hBbc.size; simp; omega) ?_; intro vG wd hownG hgrowG _; have hBbd : Below wb.heap.size wb wd := below_app hBbc (Nat.le_refl _) hownF hgrowG; obtain ⟨pG, cG, rfl, hG1, hG9, hGs⟩ := owns_shape hownG; clear hGs))
      have hGz : ZAt wd wd.heap.size pG L := zat_owns hownG (by omega) (fun k hk => by rw [List.getElem?_append_left (by simpa using hk)]; simp [hk, encI])
      have hOz : ZAt wd wd.heap.size pO L := zat_owns (ownsRow_below hownO hBbd) (Nat.le_refl _) (fun k hk => by simp [hk, encI])
      obtain ⟨gG, rfl, hgG⟩ : ∃ g, pG = some ⟨g, 0, none⟩ ∧ g < wd.heap.size := by
        obtain ⟨_, (⟨h1, h2⟩ | ⟨g, cap, cur, h1, hb, hg, hn, hcap, _⟩)⟩ := hownG
        · omega
        · injection h1 with h1; exact ⟨g, h1, (Array.getElem?_eq_some_iff.1 hg).1⟩
      have hc7 : wd.cell? ⟨gG, L.length, none⟩ = some (.int .i64 (-7)) := by
        rw [hownG.cellAt L.length (by omega), List.getElem?_append_right (by simp)]; simp
      have hc8 : wd.cell? ⟨gG, L.length + 1, none⟩ = some (.int .i64 (-8)) := by
        rw [hownG.cellAt (L.length + 1) (by omega), List.getElem?_append_right (by simp)]; simp
      have hBwd : Below w.heap.size w wd := bstep hBwb hBbd hBwb.size
      have HC7 := hide' hc7
      have HC8 := hide' hc8
      have HGZ := hide' hGz
      have HOZ := hide' hOz
      clear hc7 hc8 hGz hOz hownG hgrowG hownF hgrowF hownO hgrowO hm9 hown9 hl7 hm7
      refine (hS1.out _ cG wd hL (by omega) hG9 HGZ.out).mono ?_
      rintro e we ⟨rfl, hBe⟩
      go_wp2_with (first
        | (go_at_call 12; refine (hS2.out pO cO _ hL hO1 hO9 (HOZ.out.below hBe)).mono ?_; rintro e wf ⟨rfl, hBf⟩)
        | (go_at_call 10; refine (sameZ _ pO L.length cG cO L _ rfl ((HGZ.out.below hBe).below hBf) ((HOZ.out.below hBe).below hBf) (by omega)).mono ?_; rintro e wg ⟨rfl, hBg⟩; have hBdg : Below wd.heap.size wd wg := bstep (bstep hBe hBf hBe.size) hBg (Nat.le_trans hBe.size hBf.size); have hc7 : wg.cell? ⟨gG, L.length, none⟩ = some (.int .i64 (-7)) := (hBdg.cell hgG).trans HC7.out; have hc8 : wg.cell? ⟨gG, L.length + 1, none⟩ = some (.int .i64 (-8)) := (hBdg.cell hgG).trans HC8.out))
      go_ret
      exact ⟨rfl, bstep hBwd hBdg hBwd.size⟩
end Go.Proofs.YtfofdcacikbflaaDoor
