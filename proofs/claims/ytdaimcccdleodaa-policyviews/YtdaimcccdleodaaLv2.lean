import Derived.Test.YtdaimcccdleodaaLv1
/-
  Chapter 15: the reference's Choose. (The verifier's own text.)
-/
namespace Go.Proofs.Ytdaimcccdleodaa
set_option linter.unusedVariables false
set_option linter.unusedSimpArgs false
open Go.RowKit Go.Shelf

theorem forB_yes {s : ByteArray} {v : Vw} {k : Nat} (hk : k < v.nets.length) (h : insB v.nets[k].1 v.nets[k].2 s = true) : forB s v = true := List.any_eq_true.2 ⟨_, List.getElem_mem hk, h⟩
theorem forB_no {s : ByteArray} {v : Vw} (h : ∀ k (hk : k < v.nets.length), insB v.nets[k].1 v.nets[k].2 s = false) : forB s v = false := List.any_eq_false.2 fun x hx => by
  obtain ⟨j, hj, rfl⟩ := List.getElem_of_mem hx
  rw [h j hj]; simp
set_option maxRecDepth 100000 in
set_option maxHeartbeats 4000000 in
/-- gazetteerref11.Choose -/
theorem rchoose_any (L : List Vw) (p : Option Addr) (cap : Nat) (s : ByteArray) (w : World) (hL : L.length ≤ 9223372036854775807) (hat : VwAt w p L) (hin : ∀ v ∈ L, v.nets.length ≤ 9223372036854775807 ∧ PfAt w v.p v.nets) :
    Calls Try.prog 10 #[.slice p L.length cap, .string s] w fun r w' => r = .returned (.int .i64 (fiZ (forB s) L)) ∧ Below w.heap.size w w' := by
  have HA := hidq hat
  have HIN := hidq hin
  clear hat hin
  have HYES := hidq (fun k hk h1 h2 => fiZ_yes (P := forB s) (L := L) (k := k) hk h1 h2)
  have HNO := hidq (fiZ_no (P := forB s) (L := L))
  generalize fiZ (forB s) L = R at *
  go_enter Try.func10, Try.ntmps10
  go_wp2_with fail
  go_loopw [11] (fun i wr => ∃ k : Nat, i = .int .i64 (k : Int) ∧ k ≤ L.length ∧ Hid (∀ j (hj : j < L.length), j < k → forB s L[j] = false) ∧ Below w.heap.size w wr) (fun i _ => L.length - (intOf i).toNat)
  case atStart => exact ⟨0, rfl, Nat.zero_le _, (fun j _ h => absurd h (Nat.not_lt_zero _)), Below.refl _ _⟩
  case round =>
    obtain ⟨wo, hwo⟩ : ∃ wo, wo = wr := ⟨_, rfl⟩
    subst hwo
    obtain ⟨k, rfl, hk, HN, hBr⟩ := hrel
    have HBr := hidq hBr
    by_cases hlt : k < L.length
    · obtain ⟨g, off, rfl, hg, ec⟩ := row_below' HA.out hBr k hlt
      have e0 := ec 0 (by omega)
      have e1 := ec 1 (by omega)
      simp only [vwV, Nat.add_zero, List.getElem?_cons_zero, List.getElem?_cons_succ] at e0 e1
      have HV := hidq (HIN.out L[k] (List.getElem_mem hlt))
      have HYE := hidq (HYES.out k hlt)
      have HFY := hidq (fun (j : Nat) (hj : j < L[k].nets.length) (h : insB L[k].nets[j].1 L[k].nets[j].2 s = true) => forB_yes (s := s) (v := L[k]) (k := j) hj h)
      have HFN := hidq (forB_no (s := s) (v := L[k]))
      have HNN : Hid (forB s L[k] = false → ∀ j (hj : j < L.length), j < k + 1 → forB s L[j] = false) := fun h j hj hjk => by
        rcases Nat.lt_or_ge j k with h' | h'
        · exact HN.out j hj h'
        · obtain rfl : j = k := by omega
          exact h
      generalize L[k] = v at *
      obtain ⟨nm, q, vc, nets⟩ := v
      dsimp only at e0 e1 HV HFY HFN
      have hnl := HV.out.1
      obtain ⟨wb, hwb⟩ : ∃ wb, wo.alloc (.cells #[.string nm, .slice q nets.length vc] 50) = wb := ⟨_, rfl⟩
      have HBb : Hid (Below w.heap.size w wb) := hwb ▸ HBr.out.alloc HBr.out.size _
      have hXb : Bx wb wo.heap.size #[.string nm, .slice q nets.length vc] 50 := hwb ▸ World.alloc_heap_new wo _
      have b1 : wb.cell? ⟨wo.heap.size, 1, none⟩ = some (.slice q nets.length vc) := hXb.cell rfl
      have HAb := hidq (row_below' HV.out.2 HBb.out)
      clear hBr ec hXb
      go_wp2_with fail
      go_loopw [19] (fun i wr => ∃ m : Nat, i = .int .i64 (m : Int) ∧ m ≤ nets.length ∧ Hid (∀ j (hj : j < nets.length), j < m → insB nets[j].1 nets[j].2 s = false) ∧ Below wb.heap.size wb wr) (fun i _ => nets.length - (intOf i).toNat)
      case atStart => exact ⟨0, rfl, Nat.zero_le _, (fun j _ h => absurd h (Nat.not_lt_zero _)), Below.refl _ _⟩
      case round =>
        obtain ⟨m, rfl, hm, HM, hB2⟩ := hrel
        have HB2 := hidq hB2
        by_cases hlm : m < nets.length
        · obtain ⟨g2, off2, rfl, hg2, ec2⟩ := row_below' HAb.out hB2 m hlm
          have f0 := ec2 0 (by omega)
          have f1 := ec2 1 (by omega)
          simp only [pfV, Nat.add_zero, List.getElem?_cons_zero, List.getElem?_cons_succ] at f0 f1
          have HFYm := hidq (HFY.out m hlm)
          have HMM : Hid (insB nets[m].1 nets[m].2 s = false → ∀ j (hj : j < nets.length), j < m + 1 → insB nets[j].1 nets[j].2 s = false) := fun h j hj hjk => by
            rcases Nat.lt_or_ge j m with h' | h'
            · exact HM.out j hj h'
            · obtain rfl : j = m := by omega
              exact h
          generalize nets[m] = y at *
          obtain ⟨A, b⟩ := y
          dsimp only at f0 f1 HFYm HMM
          obtain ⟨wc, hwc⟩ : ∃ wc, wr.alloc (.cells #[.string A, .int .i64 b] 23) = wc := ⟨_, rfl⟩
          have HBc : Hid (Below wb.heap.size wb wc) := hwc ▸ HB2.out.alloc HB2.out.size _
          have hXc : Bx wc wr.heap.size #[.string A, .int .i64 b] 23 := hwc ▸ World.alloc_heap_new wr _
          have c0 : wc.cell? ⟨wr.heap.size, 0, none⟩ = some (.string A) := hXc.cell rfl
          have c1 : wc.cell? ⟨wr.heap.size, 1, none⟩ = some (.int .i64 b) := hXc.cell rfl
          have HI := hidq (rinside_any A s b wc)
          clear hXc hB2 ec2
          cases hi : insB A b s with
          | true =>
            rw [hi] at HI
            have HHI := hidq (HFYm.out hi)
            clear hi
            go_wp2_with (go_at_call 8; (with_reducible refine HI.out.mono ?_); rintro e w5 ⟨rfl, hB5⟩)
            go_ret
            refine ⟨?_, bstep0 HBb.out (bstep0 HBc.out hB5 HBc.out.size) HBb.out.size⟩
            rw [HYE.out HHI.out HN.out]
            rfl
          | false =>
            rw [hi] at HI
            have HHI := hidq (HMM.out hi)
            clear hi
            go_wp2_with (go_at_call 8; (with_reducible refine HI.out.mono ?_); rintro e w5 ⟨rfl, hB5⟩)
            exact ⟨⟨m + 1, by go_num, by omega, HHI.out, bstep0 HBc.out hB5 HBc.out.size⟩, by simp [intOf]; omega⟩
        · obtain rfl : m = nets.length := by omega
          have HHN := hidq (HNN.out (HFN.out (fun j hj => HM.out j hj hj)))
          have HBf := hidq (bstep0 HBb.out HB2.out HBb.out.size)
          go_wp2_with fail
          exact ⟨⟨k + 1, by go_num, by omega, HHN.out, HBf.out⟩, by simp [intOf]; omega⟩
    · obtain rfl : k = L.length := by omega
      go_wp2_with fail
      go_ret
      refine ⟨?_, HBr.out⟩
      rw [HNO.out (fun j hj => HN.out j hj hj)]
      rfl
end Go.Proofs.Ytdaimcccdleodaa
