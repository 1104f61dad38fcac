import Derived.Test.YtiaccimdjfdkgaaGreatDoorPz1G
import Derived.Test.YtiaccimdjfdkgaaGreatDoorWkG
import Derived.Test.YtiaccimdjfdkgaaGreatDoorMe1G
import Derived.Test.YtiaccimdjfdkgaaGreatDoorShwG
namespace Go.Proofs.YtiaccimdjfdkgaaGreatDoor
set_option linter.unusedVariables false
open Go.RowKit Go.Shelf Go.Proofs.YtiaccimdjfdkgaaGreatDoor.Nm

/-- the units' sizes lie where they must -/
def GU (w : World) : Prop := w.cell? ⟨2, 0, none⟩ = some (.int .i64 604800) ∧ w.cell? ⟨2, 1, none⟩ = some (.int .i64 86400) ∧ w.cell? ⟨2, 2, none⟩ = some (.int .i64 3600) ∧ w.cell? ⟨2, 3, none⟩ = some (.int .i64 60) ∧ w.cell? ⟨2, 4, none⟩ = some (.int .i64 1)
theorem GU.lt {w : World} (h : GU w) : 2 < w.heap.size := Lib.lt_of_cell h.1
theorem GU.below {w w' : World} (h : GU w) (hb : Below w.heap.size w w') : GU w' := by
  have hl := h.lt
  obtain ⟨h0, h1, h2, h3, h4⟩ := h
  exact ⟨(hb.cell hl).trans h0, (hb.cell hl).trans h1, (hb.cell hl).trans h2, (hb.cell hl).trans h3, (hb.cell hl).trans h4⟩
theorem GlZ.below {w w' : World} (h : GlZ w) (hb : Below w.heap.size w w') : GlZ w' := by
  obtain ⟨e0, e1, h0, a0, h1, a1⟩ := h
  exact ⟨e0, e1, (hb.cell (Lib.lt_of_cell h0)).trans h0, a0, (hb.cell (Lib.lt_of_cell h1)).trans h1, a1⟩
/-- a letter's place among them, and its size -/
theorem unit_at (y : Nat) (h : unitV y ≠ 0) : ∃ q : Nat, q < 5 ∧ (∀ w : World, Calls Tryz.prog 62 #[.string ⟨#[119, 100, 104, 109, 115]⟩, .int .u8 (y : Int)] w fun e w' => e = .returned (.int .i64 (q : Int)) ∧ w' = w) ∧ (∀ w, GU w → w.cell? ⟨2, q, none⟩ = some (.int .i64 (unitV y : Int))) ∧ unitV y ≤ 604800 := by
  have h2 : y = 119 ∨ y = 100 ∨ y = 104 ∨ y = 109 ∨ y = 115 := by
    unfold unitV at h
    by_cases a1 : y = 119
    · exact .inl a1
    · by_cases a2 : y = 100
      · exact .inr (.inl a2)
      · by_cases a3 : y = 104
        · exact .inr (.inr (.inl a3))
        · by_cases a4 : y = 109
          · exact .inr (.inr (.inr (.inl a4)))
          · by_cases a5 : y = 115
            · exact .inr (.inr (.inr (.inr a5)))
            · simp [a1, a2, a3, a4, a5] at h
  rcases h2 with rfl | rfl | rfl | rfl | rfl
  · exact ⟨0, by decide, fun w => ib_any _ _ w, fun w h => h.1, by decide⟩
  · exact ⟨1, by decide, fun w => ib_any _ _ w, fun w h => h.2.1, by decide⟩
  · exact ⟨2, by decide, fun w => ib_any _ _ w, fun w h => h.2.2.1, by decide⟩
  · exact ⟨3, by decide, fun w => ib_any _ _ w, fun w h => h.2.2.2.1, by decide⟩
  · exact ⟨4, by decide, fun w => ib_any _ _ w, fun w h => h.2.2.2.2, by decide⟩

set_option maxHeartbeats 8000000 in
set_option maxRecDepth 100000 in
/-- master.Seconds -/
theorem seconds_any (t : ByteArray) (w : World) (ht : t.size ≤ 1048576) (hG : GlZ w) (hU : GU w) :
    Calls Tryz.prog 51 #[.string t] w fun e w' => e = .returned (.tuple #[.int .i64 ((secB t).getD 0 : Nat), .bool (secB t).isSome]) ∧ Below w.heap.size w w' := by
  have HN := hide3 (number10 t 31 w (.inl rfl) ht hG)
  cases hn : numR 31 10 t with
  | some v =>
    rw [hn] at HN
    have HE : Hid (secB t = some v) := by unfold Hid secB; rw [hn]
    clear hn
    go_enter Tryz.func51, Tryz.ntmps51
    go_wp2_with (go_at_call 73; refine (HN.out).mono ?_; rintro e w1 ⟨rfl, hB1⟩)
    go_ret2
    exact ⟨by rw [HE.out]; rfl, hB1⟩
  | none =>
    rw [hn] at HN
    by_cases h0 : t.size = 0
    · have he := isEmpty_true h0
      have HE : Hid (secB t = none) := by unfold Hid secB; rw [hn, if_pos h0]
      clear hn h0
      go_enter Tryz.func51, Tryz.ntmps51
      go_wp2_with (go_at_call 73; refine (HN.out).mono ?_; rintro e w1 ⟨rfl, hB1⟩)
      go_ret2
      exact ⟨by rw [HE.out]; rfl, hB1⟩
    · have he := isEmpty_false (r := t) (by omega)
      have HE : Hid (secB t = secF (lowB t) 0) := by unfold Hid secB; rw [hn, if_neg h0]
      have HS := hide3 (fun w => small_any t w ht)
      have hls : (lowB t).size ≤ 1048576 := by rw [lowB_size]; exact ht
      clear hn h0
      go_enter Tryz.func51, Tryz.ntmps51
      go_wp2_with (first | (go_at_call 73; refine (HN.out).mono ?_; rintro e w1 ⟨rfl, hB1⟩) | (go_at_call 60; refine (HS.out _).mono ?_; rintro e w2 ⟨rfl, hB2⟩))
      have hB12 := hB1.trans (hB2.mono hB1.size)
      generalize lowB t = s0 at *
      clear hB1 hB2
      go_loopw [6, 7] (fun tv rv wr => ∃ (s : ByteArray) (tot : Nat), rv = .string s ∧ tv = .int .i64 (tot : Int) ∧ s.size ≤ 1048576 ∧ tot ≤ 2147483647 ∧ Hid (secB t = secF s tot) ∧ Below w.heap.size w wr) (fun _ rv _ => match rv with | .string s => s.size | _ => 0)
      case atStart => exact ⟨s0, 0, rfl, rfl, hls, Nat.zero_le _, HE, hB12⟩
      case round =>
        clear hB12 hls HE he
        obtain ⟨s, tot, rfl, rfl, hs, htot, HR, hB⟩ := hrel
        by_cases hz : s.size = 0
        · have he := isEmpty_true hz
          have HQ : Hid (secB t = some tot) := HR.out.trans (secF_nil hz tot)
          clear HR hz
          go_wp2_with fail
          go_ret2
          exact ⟨by rw [HQ.out]; rfl, hB⟩
        · have he := isEmpty_false (r := s) (by omega)
          have HI := hide3 (fun w => indexAny_any s w hs)
          rcases any_cases s with ⟨hno, hia⟩ | ⟨j, hj, hu, hbef, hia⟩
          · rw [hia] at HI
            have HQ : Hid (secB t = none) := HR.out.trans (secF_none (by omega) hia tot)
            clear HR hno hia hz
            go_wp2_with (go_at_call 74; refine (HI.out _).mono ?_; rintro e w3 ⟨rfl, hB3⟩)
            go_ret2
            exact ⟨by rw [HQ.out]; rfl, hB.trans (hB3.mono hB.size)⟩
          · rw [hia] at HI
            have HF := hide3 (secF_at hj hia tot)
            obtain ⟨y, hy, HY, hyl⟩ := bt_wrap hj
            rw [HY] at hu HF
            obtain ⟨q, hq5, hib, hcl, hu6⟩ := unit_at y hu
            have HIB := hide3 hib
            have HCL := hide3 hcl
            have hxs : (s.extract 0 j).size ≤ 1048576 := by rw [ByteArray.size_extract]; omega
            have HNm := hide3 (fun w hG => number10 (s.extract 0 j) 64 w (.inr rfl) hxs hG)
            clear hia hbef hib hcl hu HY hz
            generalize unitV y = u at *
            cases hnm : numR 64 10 (s.extract 0 j) with
            | none =>
              rw [hnm] at HNm HF
              have HQ : Hid (secB t = none) := HR.out.trans HF.out
              clear HR HF hnm
              go_wp2_with (first | (go_at_call 74; refine (HI.out _).mono ?_; rintro e w3 ⟨rfl, hB3⟩; have hB4 := hB.trans (hB3.mono hB.size); have hG4 := hG.below hB4) | (go_at_call 73; refine (HNm.out _ hG4).mono ?_; rintro e w5 ⟨rfl, hB5⟩; have hB6 := hB4.trans (hB5.mono hB4.size); have hU6 := hU.below hB6; have hc6 := HCL.out _ hU6) | (go_at_call 62; refine (HIB.out _).mono ?_; rintro e w7 ⟨rfl, hw7⟩; subst hw7))
              go_ret2
              exact ⟨by rw [HQ.out]; rfl, hB6⟩
            | some c =>
              rw [hnm] at HNm HF
              have hc := numR_lt hnm
              obtain ⟨m, hm⟩ : ∃ m, c * u = m := ⟨_, rfl⟩
              have hml : m ≤ 6048000000000000 := by
                rw [← hm]
                have := Nat.mul_le_mul (show c ≤ 10000000000 by omega) hu6
                omega
              have hmi : (c : Int) * (u : Int) = (m : Int) := by rw [← hm]; simp
              simp only [hm] at HF
              by_cases hov : 2147483647 < tot + m
              · have HQ : Hid (secB t = none) := by unfold Hid; rw [HR.out, HF.out, if_pos hov]
                have hov2 : (2147483647 : Int) < (tot : Int) + (m : Int) := by omega
                clear HR HF hnm hov hm
                go_wp2_with (first | (go_at_call 74; refine (HI.out _).mono ?_; rintro e w3 ⟨rfl, hB3⟩; have hB4 := hB.trans (hB3.mono hB.size); have hG4 := hG.below hB4) | (go_at_call 73; refine (HNm.out _ hG4).mono ?_; rintro e w5 ⟨rfl, hB5⟩; have hB6 := hB4.trans (hB5.mono hB4.size); have hU6 := hU.below hB6; have hc6 := HCL.out _ hU6) | (go_at_call 62; refine (HIB.out _).mono ?_; rintro e w7 ⟨rfl, hw7⟩; subst hw7))
                go_ret2
                exact ⟨by rw [HQ.out]; rfl, hB6⟩
              · have HQ : Hid (secB t = secF (s.extract (j + 1) s.size) (tot + m)) := by unfold Hid; rw [HR.out, HF.out, if_neg hov]
                have hov2 : (tot : Int) + (m : Int) ≤ 2147483647 := by omega
                have HOV := hide3 hov
                clear HR HF hnm hov hm
                go_wp2_with (first | (go_at_call 74; refine (HI.out _).mono ?_; rintro e w3 ⟨rfl, hB3⟩; have hB4 := hB.trans (hB3.mono hB.size); have hG4 := hG.below hB4) | (go_at_call 73; refine (HNm.out _ hG4).mono ?_; rintro e w5 ⟨rfl, hB5⟩; have hB6 := hB4.trans (hB5.mono hB4.size); have hU6 := hU.below hB6; have hc6 := HCL.out _ hU6) | (go_at_call 62; refine (HIB.out _).mono ?_; rintro e w7 ⟨rfl, hw7⟩; subst hw7))
                go_roundw
                case rel => exact ⟨s.extract (j + 1) s.size, tot + m, by first | rfl | go_num, by go_num, by rw [ByteArray.size_extract]; omega, by have := HOV.out; omega, HQ, hB6⟩
                case measure => simp [ByteArray.size_extract]; omega
end Go.Proofs.YtiaccimdjfdkgaaGreatDoor

/-
  Proofs: the words ahead of a type. (The verifier's own text.)
-/
namespace Go.Proofs.YtiaccimdjfdkgaaGreatDoor
set_option linter.unusedVariables false
set_option linter.unusedSimpArgs false
open Go.RowKit Go.Shelf Go.Proofs.YtiaccimdjfdkgaaGreatDoor.Nm

/-- words in memory, from a place of a block on -/
def WA (w : World) (b off : Nat) (Z : List Wd) : Prop := ∀ j z, Z[j]? = some z → w.cell? ⟨b, off + j * 2, none⟩ = some (.string z.t) ∧ w.cell? ⟨b, off + j * 2 + 1, none⟩ = some (.bool z.q)
theorem WA.head {w : World} {b off : Nat} {z : Wd} {Z : List Wd} (h : WA w b off (z :: Z)) : w.cell? ⟨b, off, none⟩ = some (.string z.t) ∧ w.cell? ⟨b, off + 1, none⟩ = some (.bool z.q) := by
  have := h 0 z rfl
  simpa using this
theorem WA.tail {w : World} {b off : Nat} {z : Wd} {Z : List Wd} (h : WA w b off (z :: Z)) : WA w b (off + 2) Z := fun j y hj => by
  have := h (j + 1) y (by simpa using hj)
  rw [show off + (j + 1) * 2 = off + 2 + j * 2 by omega] at this
  exact this
theorem WA.lt {w : World} {b off : Nat} {z : Wd} {Z : List Wd} (h : WA w b off (z :: Z)) : b < w.heap.size := Lib.lt_of_cell h.head.1
theorem WA.below {w w' : World} {b off : Nat} {Z : List Wd} (h : WA w b off Z) (hb : Below w.heap.size w w') : WA w' b off Z := fun j z hj => by
  obtain ⟨h1, h2⟩ := h j z hj
  exact ⟨(hb.cell (p := ⟨b, off + j * 2, none⟩) (Lib.lt_of_cell h1)).trans h1, (hb.cell (p := ⟨b, off + j * 2 + 1, none⟩) (Lib.lt_of_cell h2)).trans h2⟩
def slLen : Value → Nat
  | .slice _ n _ => n
  | _ => 0
set_option maxRecDepth 100000 in
set_option maxHeartbeats 2000000 in
/-- master.readHead, of an age, the class and a type -/
theorem readHead_any (b off n c a : Nat) (tA tI tT : ByteArray) (Z : List Wd) (w : World) (h : WA w b off (⟨tA, false⟩ :: ⟨tI, false⟩ :: ⟨tT, false⟩ :: Z)) (hn : n = Z.length + 3) (hc : n ≤ c ∧ c ≤ 9223372036854775807)
    (hA : secB tA = some a) (hI : secB tI = none) (hl : lowB tI = ⟨#[105, 110]⟩) (sA : tA.size ≤ 1048576) (sI : tI.size ≤ 1048576) (sT : tT.size ≤ 1048576) (hG : GlZ w) (hU : GU w) (ha : a ≤ 2147483647) :
    Calls Tryz.prog 83 #[.slice (some ⟨b, off, none⟩) n c] w fun e w' => e = .returned (.tuple #[.int .i64 (a : Int), .slice (some ⟨b, off + 4, none⟩) (n - 2) (c - 2)]) ∧ Below w.heap.size w w' := by
  have HS : Hid (∀ (t : ByteArray) (V : World), t.size ≤ 1048576 → Below w.heap.size w V → Calls Tryz.prog 51 #[.string t] V fun e w' => e = .returned (.tuple #[.int .i64 ((secB t).getD 0 : Nat), .bool (secB t).isSome]) ∧ Below V.heap.size V w') := fun t V ht hV => seconds_any t V ht (hG.below hV) (hU.below hV)
  have HM : Hid (∀ V, Calls Tryz.prog 60 #[.string tI] V fun e w' => e = .returned (.string ⟨#[105, 110]⟩) ∧ Below V.heap.size V w') := fun V => hl ▸ small_any tI V sI
  have HW := hide' h
  have hA := hide' hA
  have hI := hide' hI
  have hn3 : 3 ≤ n := by omega
  clear h hn hl hG hU
  go_enter Tryz.func83, Tryz.ntmps83
  go_wp2_with fail
  go_loopw [0, 4, 5] (fun sv av cv wr => ∃ (j : Nat), j ≤ 2 ∧ sv = .slice (some ⟨b, off + 2 * j, none⟩) (n - j) (c - j) ∧ av = .int .i64 (if j = 0 then -1 else (a : Int)) ∧ cv = .bool (decide (j = 2)) ∧ Hid (Below w.heap.size w wr)) (fun sv _ _ _ => slLen sv)
  case atStart => exact ⟨0, by omega, rfl, rfl, rfl, Below.refl _ _⟩
  case round =>
    obtain ⟨j, hj, rfl, rfl, rfl, HB⟩ := hrel
    have hbel := HW.out.below HB.out
    obtain rfl | rfl | rfl : j = 0 ∨ j = 1 ∨ j = 2 := by omega
    · obtain ⟨k1, k2⟩ := hbel.head
      have HSA := hide' (HS.out tA wr sA HB.out)
      rw [hA.out] at HSA
      clear hbel
      go_wp2_with (go_at_call 51; refine HSA.out.mono ?_; rintro e1 w1 ⟨rfl, hB1⟩; have HB1 := hide' (bstep HB.out hB1 HB.out.size); clear hB1)
      refine ⟨⟨1, by omega, rfl, rfl, rfl, HB1.out⟩, ?_⟩
      show n - 1 < n - 0
      omega
    · obtain ⟨k1, k2⟩ := hbel.tail.head
      have HSI := hide' (HS.out tI wr sI HB.out)
      rw [hI.out] at HSI
      clear hbel
      go_wp2_with (first
        | (go_at_call 51; refine HSI.out.mono ?_; rintro e1 w1 ⟨rfl, hB1⟩; have k3 := (hB1.cell (p := ⟨b, off + 2, none⟩) (Lib.lt_of_cell k1)).trans k1; have HB1 := hide' (bstep HB.out hB1 HB.out.size); clear hB1)
        | (go_at_call 60; refine (HM.out _).mono ?_; rintro e2 w2 ⟨rfl, hB2⟩; have HB2 := hide' (bstep HB1.out hB2 HB1.out.size); clear hB2))
      refine ⟨⟨2, by omega, rfl, rfl, rfl, HB2.out⟩, ?_⟩
      show n - 1 - 1 < n - 1
      omega
    · obtain ⟨k1, k2⟩ := hbel.tail.tail.head
      have HST := hide' (HS.out tT wr sT HB.out)
      have hneg : ¬ (a : Int) = -1 := by omega
      clear hbel
      generalize secB tT = st at *
      cases st
      all_goals go_wp2_with (go_at_call 51; refine HST.out.mono ?_; rintro e1 w1 ⟨rfl, hB1⟩; have HB1 := hide' (bstep HB.out hB1 HB.out.size); clear hB1)
      all_goals go_ret2
      all_goals exact ⟨rfl, HB1.out⟩
end Go.Proofs.YtiaccimdjfdkgaaGreatDoor
