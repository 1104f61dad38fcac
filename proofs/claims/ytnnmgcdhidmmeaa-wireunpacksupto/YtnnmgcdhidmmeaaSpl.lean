import Derived.Test.YtnnmgcdhidmmeaaChk
import Derived.Maps.AppendAt
namespace Go.Proofs.Ytnnmgcdhidmmeaa
set_option linter.unusedVariables false
open Go.RowKit Go.Shelf Nm

theorem Try.infoStr : (Try.prog.info? 9).map (fun i => (i.zero, i.size, i.bytes)) = some (some (.string .empty), 1, 16) := by kernel_rfl

def strLen : Value → Nat | .string s => s.size | _ => 0

theorem ownBlock_le {w : World} {base e size : Nat} {v : Value} {n : Nat} {xs : List Value} (h : w.ownsRow base e size v n xs) {q : Nat} (hq : v.ownBlock = some q) : base ≤ q := by
  obtain ⟨_, (⟨rfl, _⟩ | ⟨g, cap, cur, rfl, hb, _⟩)⟩ := h
  · simp [Value.ownBlock] at hq
  · simp [Value.ownBlock] at hq; omega

set_option maxRecDepth 100000 in
set_option maxHeartbeats 1000000 in
theorem split_any (s : ByteArray) (w : World) (hs : s.size ≤ 1048576) :
    Calls Try.prog 36 #[.string s] w fun e w' => ∃ v, e = .returned (.tuple #[v, .bool (isN s)]) ∧
      (isN s = true → w'.ownsRow w.heap.size 9 1 v (labs s).length ((labs s).map Value.string)) ∧ Below w.heap.size w w' := by
  obtain ⟨i0, hi, hz0, hz1, hz2⟩ := info_parts Try.infoStr
  go_enter Try.func36, Try.ntmps36
  go_wp2
  go_loopw [4, 5] (fun v rv wr => ∃ (i : Nat) (pre : List ByteArray) (r : ByteArray), rv = .string r ∧ From s i r ∧ i ≤ s.size ∧ Hid (labs s = pre ++ labsFrom s i) ∧ Hid (fin s 0 = fin s i) ∧ pre.length ≤ i ∧
      wr.ownsRow w.heap.size 9 1 v pre.length (pre.map Value.string) ∧ Below w.heap.size w wr)
    (fun _ rv _ => strLen rv)
  case atStart => exact ⟨0, [], s, rfl, ⟨by simp⟩, by omega, rfl, rfl, Nat.le_refl _, World.ownsRow_nil _ _ _ _, Below.refl _ _⟩
  case round =>
    obtain ⟨i, pre, r, rfl, HR, hi', HL, HF, hpl, hown, hB⟩ := hrel
    have HRS : Hid (r.size = s.size - i) := HR.size
    have hr1 : r.size ≤ 1048576 := by have := HRS.out; omega
    by_cases h0 : 0 < r.size
    · have he := isEmpty_false h0
      obtain ⟨k, hk, HK, hk256⟩ := bt_wrap h0
      have hw : wrap64 (k : Int) = (k : Int) := wrap64_byte' hk256
      have HB : Hid (bt s i = k) := by unfold Hid; rw [← HR.first]; exact HK
      clear HK
      by_cases hk0 : k = 0
      · subst hk0
        have hbad : ¬ GoodL s i := fun g => by have := g.pos; have := HB.out; omega
        have HFI : Hid (fin s 0 = i) := by unfold Hid; rw [HF.out, fin_bad hbad]
        have HLI : Hid (labs s = pre) := by unfold Hid; rw [HL.out, labsFrom_bad hbad, List.append_nil]
        have HIN : Hid (isN s = (decide (r.size = 1) && decide (s.size ≤ 255))) := by
          unfold Hid isN
          rw [HFI.out]
          have := HRS.out
          have := HB.out
          rw [Bool.eq_iff_iff]; simp; omega
        by_cases h1 : r.size = 1
        · have h1' : ((r.size : Int) == 1) = true := by rw [beq_iff_eq]; omega
          have HIN' : Hid (isN s = decide ((s.size : Int) ≤ 255)) := by unfold Hid; rw [HIN.out, Bool.eq_iff_iff]; simp; omega
          clear HIN h1
          go_wp2
          go_ret2
          rw [HIN'.out, HLI.out]
          exact ⟨_, rfl, fun _ => hown, hB⟩
        · have h1' : ((r.size : Int) == 1) = false := by rw [beq_eq_false_iff_ne]; omega
          have HIN' : Hid (isN s = false) := by unfold Hid; rw [HIN.out, decide_eq_false h1]; rfl
          clear HIN h1
          go_wp2
          go_ret2
          rw [HIN'.out]
          exact ⟨_, rfl, (fun h => by cases h), hB⟩
      · have hk0' : ((k : Int) == 0) = false := beq_eq_false_iff_ne.2 (by omega)
        by_cases hg : GoodL s i
        · have hk63 : k ≤ 63 := by have := hg.le; have := HB.out; omega
          have hroom : 1 + k ≤ r.size := by have := hg.room; have := HB.out; have := HRS.out; omega
          have HX : Hid (r.extract 1 (1 + k) = s.extract (i + 1) (i + 1 + k)) := by unfold Hid; rw [HR.extract _ _ hi' hroom]; congr 1; omega
          have HNx := HR.next hi' (1 + k) hroom
          have HL2 : Hid (labs s = (pre ++ [r.extract 1 (1 + k)]) ++ labsFrom s (i + (1 + k))) := by
            unfold Hid
            rw [HL.out, labsFrom_good hg, HB.out, HX.out, show i + (1 + k) = i + 1 + k by omega]; simp
          have HF2 : Hid (fin s 0 = fin s (i + (1 + k))) := by unfold Hid; rw [HF.out, fin_good hg, HB.out, show i + (1 + k) = i + 1 + k by omega]
          clear HX HL HF HB
          go_wp2_with (at_builtin; refine wpList_append_own _ rfl _ _ 88 rfl w.heap.size 9 i0 (.string .empty) 1 16 Try.underlying88 hi hz0 hz1 hz2 rfl (by decide) _ _ _ rfl (hown.alloc _) ⟨wr.heap.size, 0, none⟩ 1 1 [.string (r.extract 1 (1 + k))] rfl rfl (cell_one_new _ _ _) (by simp [Value.oneCell']) (by unfold maxLen; omega) (by omega) (by have := hB.size; simp; omega) ?_; intro v' w1 hown' hgrow _)
          have hown2 : w1.ownsRow w.heap.size 9 1 v' (pre ++ [r.extract 1 (1 + k)]).length ((pre ++ [r.extract 1 (1 + k)]).map Value.string) := by
            simpa using hown'
          have hB2 : Below w.heap.size w w1 := (hB.alloc hB.size _).grown hgrow (by have := hB.size; simp; omega) (fun q e => ownBlock_le hown e)
          clear hown' hgrow hown hB
          go_wp2
          go_roundw
          case rel => exact ⟨i + (1 + k), _, _, rfl, HNx, by have := HRS.out; omega, HL2, HF2, by simp; omega, hown2, hB2⟩
          case measure => simp [strLen]; omega
        · have HN : Hid (isN s = false) := by
            have := HB.out
            unfold Hid isN; rw [HF.out, fin_bad hg]; simp; omega
          by_cases hk63 : k ≤ 63
          · have hroom : r.size < 1 + k := by
              have := HB.out; have := HRS.out
              apply Nat.lt_of_not_le
              intro hc
              exact hg ⟨by omega, by omega, by omega, by omega⟩
            go_wp2
            go_ret2
            rw [HN.out]
            exact ⟨_, rfl, (fun h => by cases h), hB⟩
          · have h63 : 63 < k := by omega
            go_wp2
            go_ret2
            rw [HN.out]
            exact ⟨_, rfl, (fun h => by cases h), hB⟩
    · have he := isEmpty_true (r := r) (by omega)
      have hN : isN s = false := by
        have hbad : ¬ GoodL s i := fun g => by have := g.lt; have := HRS.out; omega
        have := HRS.out
        unfold isN; rw [HF.out, fin_bad hbad]; simp; omega
      have HN : Hid (isN s = false) := hN
      clear hN
      go_wp2
      go_ret2
      rw [HN.out]
      exact ⟨_, rfl, (fun h => by cases h), hB⟩
end Go.Proofs.Ytnnmgcdhidmmeaa
