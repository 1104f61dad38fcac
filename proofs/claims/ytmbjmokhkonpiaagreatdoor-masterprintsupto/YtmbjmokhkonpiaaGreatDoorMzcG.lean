import Derived.Test.YtmbjmokhkonpiaaGreatDoorRn0G
import Derived.Test.YtmbjmokhkonpiaaGreatDoorFm1G
import Derived.Test.YtmbjmokhkonpiaaGreatDoorMx0G
import Derived.Test.YtmbjmokhkonpiaaGreatDoorMz1G
import Derived.Test.YtmbjmokhkonpiaaGreatDoorMath18G
import Derived.Test.YtmbjmokhkonpiaaGreatDoorWkG
import Derived.Test.YtmbjmokhkonpiaaGreatDoorShwG
import Derived.Test.YtmbjmokhkonpiaaGreatDoorMz6G
/-
  gazetteerref2.Zonal. (The verifier's own text.)
-/
namespace Go.Proofs.YtmbjmokhkonpiaaGreatDoor
set_option linter.unusedVariables false
set_option linter.unusedSimpArgs false
open Go.RowKit Go.Shelf Go.Proofs.YtmbjmokhkonpiaaGreatDoor.Nm

set_option maxRecDepth 100000 in
set_option maxHeartbeats 2000000 in
/-- gazetteerref2.Zonal -/
theorem zonal2_any (o d : ByteArray) (t c l : Int) (w : World) (ho : o.size ≤ 1048576) (hd : d.size ≤ 9223372036854775807) :
    Calls Tryz.prog 20 #[.agg #[.string o, .int .i64 t, .int .i64 c, .int .i64 l, .string d]] w fun r w' => r = .returned (.bool (zonB o d t c l)) ∧ Below w.heap.size w w' := by
  obtain ⟨W, hW⟩ : ∃ W, w.alloc (.cells #[.string o, .int .i64 t, .int .i64 c, .int .i64 l, .string d] 30) = W := ⟨_, rfl⟩
  have HB : Hid (Below w.heap.size w W) := by rw [← hW]; exact (Below.refl _ _).alloc (Nat.le_refl _) _
  have h0 : Bx (w.alloc (.cells #[.string o, .int .i64 t, .int .i64 c, .int .i64 l, .string d] 30)) w.heap.size #[.string o, .int .i64 t, .int .i64 c, .int .i64 l, .string d] 30 := World.alloc_heap_new w _
  rw [hW] at h0
  have HH := hide' h0
  have QF : Hid (∀ V : World, Bx V w.heap.size #[.string o, .int .i64 t, .int .i64 c, .int .i64 l, .string d] 30 → V.cell? ⟨w.heap.size, 0, none⟩ = some (.string o) ∧ V.cell? ⟨w.heap.size, 1, none⟩ = some (.int .i64 t) ∧ V.cell? ⟨w.heap.size, 2, none⟩ = some (.int .i64 c) ∧ V.cell? ⟨w.heap.size, 3, none⟩ = some (.int .i64 l) ∧ V.cell? ⟨w.heap.size, 4, none⟩ = some (.string d)) := fun V h => ⟨h.cell rfl, h.cell rfl, h.cell rfl, h.cell rfl, h.cell rfl⟩
  obtain ⟨k0, k1, k2, k3, k4⟩ := QF.out W h0
  clear h0
  obtain ⟨ee, hee⟩ : ∃ ee, errD t d = ee := ⟨_, rfl⟩
  have HE := hide' hee
  cases hN : isN o with
  | false =>
    have HV : Hid (zonB o d t c l = false) := by unfold Hid zonB; rw [hN]; rfl
    have HN := hide' hN
    rw [HV.out]
    go_enter Tryz.func20, Tryz.ntmps20
    go_wp2_with (first
      | (go_at_call 18; refine (refIsName_any o _ ho).mono ?_; rw [HN.out]; rintro r w1 ⟨rfl, hB1⟩; have HH1 := hide' (HH.out.below hB1 HH.out.lt); have HB1 := hide' (bstep HB.out hB1 HB.out.size); obtain ⟨j0, j1, j2, j3, j4⟩ := QF.out w1 HH1.out; clear hB1)
      | (go_at_call 43; refine (refCheckData_any t d _ hd).mono ?_; rw [HE.out]; rintro r w2 ⟨rfl, hB2⟩; have HB2 := hide' (bstep HB1.out hB2 HB1.out.size); clear hB2))
    go_ret
    exact ⟨rfl, by first | exact HB2.out | exact HB1.out⟩
  | true =>
    have HN := hide' hN
    by_cases hc : c = 1
    · by_cases hl0 : 0 ≤ l
      · by_cases hl1 : l ≤ 2147483647
        · by_cases h0 : ee = 0
          · have HV : Hid (zonB o d t c l = true) := by unfold Hid zonB; rw [hN, decide_eq_true hc, decide_eq_true hl0, decide_eq_true hl1, decide_eq_true (hee.trans h0)]; rfl
            subst h0
            subst hc
            clear hN hee
            rw [HV.out]
            go_enter Tryz.func20, Tryz.ntmps20
            go_wp2_with (first
              | (go_at_call 18; refine (refIsName_any o _ ho).mono ?_; rw [HN.out]; rintro r w1 ⟨rfl, hB1⟩; have HH1 := hide' (HH.out.below hB1 HH.out.lt); have HB1 := hide' (bstep HB.out hB1 HB.out.size); obtain ⟨j0, j1, j2, j3, j4⟩ := QF.out w1 HH1.out; clear hB1)
              | (go_at_call 43; refine (refCheckData_any t d _ hd).mono ?_; rw [HE.out]; rintro r w2 ⟨rfl, hB2⟩; have HB2 := hide' (bstep HB1.out hB2 HB1.out.size); clear hB2))
            go_ret
            exact ⟨rfl, by first | exact HB2.out | exact HB1.out⟩
          · have HV : Hid (zonB o d t c l = false) := by unfold Hid zonB; rw [decide_eq_false (fun h => h0 (hee.symm.trans h))]; simp
            have hb : ((ee : Int) == 0) = false := by rw [beq_eq_false_iff_ne]; omega
            have hb2 : ¬ (ee : Int) = 0 := by omega
            subst hc
            clear hN hee h0
            rw [HV.out]
            go_enter Tryz.func20, Tryz.ntmps20
            go_wp2_with (first
              | (go_at_call 18; refine (refIsName_any o _ ho).mono ?_; rw [HN.out]; rintro r w1 ⟨rfl, hB1⟩; have HH1 := hide' (HH.out.below hB1 HH.out.lt); have HB1 := hide' (bstep HB.out hB1 HB.out.size); obtain ⟨j0, j1, j2, j3, j4⟩ := QF.out w1 HH1.out; clear hB1)
              | (go_at_call 43; refine (refCheckData_any t d _ hd).mono ?_; rw [HE.out]; rintro r w2 ⟨rfl, hB2⟩; have HB2 := hide' (bstep HB1.out hB2 HB1.out.size); clear hB2))
            go_ret
            exact ⟨rfl, by first | exact HB2.out | exact HB1.out⟩
        · have HV : Hid (zonB o d t c l = false) := by unfold Hid zonB; rw [decide_eq_false hl1]; simp
          subst hc
          clear hN hee
          rw [HV.out]
          go_enter Tryz.func20, Tryz.ntmps20
          go_wp2_with (first
            | (go_at_call 18; refine (refIsName_any o _ ho).mono ?_; rw [HN.out]; rintro r w1 ⟨rfl, hB1⟩; have HH1 := hide' (HH.out.below hB1 HH.out.lt); have HB1 := hide' (bstep HB.out hB1 HB.out.size); obtain ⟨j0, j1, j2, j3, j4⟩ := QF.out w1 HH1.out; clear hB1)
            | (go_at_call 43; refine (refCheckData_any t d _ hd).mono ?_; rw [HE.out]; rintro r w2 ⟨rfl, hB2⟩; have HB2 := hide' (bstep HB1.out hB2 HB1.out.size); clear hB2))
          go_ret
          exact ⟨rfl, by first | exact HB2.out | exact HB1.out⟩
      · have HV : Hid (zonB o d t c l = false) := by unfold Hid zonB; rw [decide_eq_false hl0]; simp
        subst hc
        clear hN hee
        rw [HV.out]
        go_enter Tryz.func20, Tryz.ntmps20
        go_wp2_with (first
          | (go_at_call 18; refine (refIsName_any o _ ho).mono ?_; rw [HN.out]; rintro r w1 ⟨rfl, hB1⟩; have HH1 := hide' (HH.out.below hB1 HH.out.lt); have HB1 := hide' (bstep HB.out hB1 HB.out.size); obtain ⟨j0, j1, j2, j3, j4⟩ := QF.out w1 HH1.out; clear hB1)
          | (go_at_call 43; refine (refCheckData_any t d _ hd).mono ?_; rw [HE.out]; rintro r w2 ⟨rfl, hB2⟩; have HB2 := hide' (bstep HB1.out hB2 HB1.out.size); clear hB2))
        go_ret
        exact ⟨rfl, by first | exact HB2.out | exact HB1.out⟩
    · have HV : Hid (zonB o d t c l = false) := by unfold Hid zonB; rw [decide_eq_false hc]; simp
      have hb : (c == 1) = false := by rw [beq_eq_false_iff_ne]; exact hc
      clear hN hee
      rw [HV.out]
      go_enter Tryz.func20, Tryz.ntmps20
      go_wp2_with (first
        | (go_at_call 18; refine (refIsName_any o _ ho).mono ?_; rw [HN.out]; rintro r w1 ⟨rfl, hB1⟩; have HH1 := hide' (HH.out.below hB1 HH.out.lt); have HB1 := hide' (bstep HB.out hB1 HB.out.size); obtain ⟨j0, j1, j2, j3, j4⟩ := QF.out w1 HH1.out; clear hB1)
        | (go_at_call 43; refine (refCheckData_any t d _ hd).mono ?_; rw [HE.out]; rintro r w2 ⟨rfl, hB2⟩; have HB2 := hide' (bstep HB1.out hB2 HB1.out.size); clear hB2))
      go_ret
      exact ⟨rfl, by first | exact HB2.out | exact HB1.out⟩
end Go.Proofs.YtmbjmokhkonpiaaGreatDoor

/-
  The reference's owner: a name told by an origin. (The verifier's own text.)
-/
namespace Go.Proofs.YtmbjmokhkonpiaaGreatDoor
set_option linter.unusedVariables false
set_option linter.unusedSimpArgs false
open Go.RowKit Go.Shelf Go.Proofs.YtmbjmokhkonpiaaGreatDoor.Nm

theorem put_sz {n : ByteArray} (hn : isN n = true) (k : Nat) : (putB ((labs n).take k)).size ≤ 255 := by
  have h1 := putB_size ((labs n).take k)
  have h2 := chunks_size_take (labs n) k
  have h3 := putB_size (labs n)
  rw [putB_labs hn] at h3
  have := ((isN_iff n).1 hn).1
  omega
theorem put_szd {n : ByteArray} (hn : isN n = true) (k : Nat) (hk : k ≤ (labs n).length) : (putB ((labs n).drop k)).size ≤ 255 := by
  obtain ⟨-, -, h⟩ := tailB_yes (k := (labs n).length - k) hn (by omega)
  rw [show (labs n).length - ((labs n).length - k) = k by omega] at h
  rw [← h]
  exact tailB_size _ _
theorem bts_last (l : List Nat) (x : Nat) : (bts (l ++ [x])).extract 0 ((bts (l ++ [x])).size - 1) = bts l := by
  rw [bts_append]
  have h1 : (bts l ++ bts [x]).size = (bts l).size + 1 := by rw [ByteArray.size_append]; rfl
  rw [h1, Nat.add_sub_cancel]
  exact ba_ext (by rw [size_extract' _ _ _ (by omega)]; omega) fun j hj => by
    rw [size_extract' _ _ _ (by omega)] at hj
    rw [bt_extract _ _ _ _ (by omega) (by omega), Nat.zero_add, bt_append_left _ _ _ (by omega)]
/-- where the origin ends a name -/
theorem own_plain {n o : ByteArray} (hn : isN n = true) (ho : isN o = true) :
    (n = o ∧ ownL n o = [64]) ∨
    (∃ k0, 0 < k0 ∧ k0 ≤ (labs n).length ∧ (∀ j, j ≤ (labs n).length → (putB ((labs n).drop j) = o ↔ j = k0)) ∧ 0 < (showB (putB ((labs n).take k0))).size ∧ bts (ownL n o) = (showB (putB ((labs n).take k0))).extract 0 ((showB (putB ((labs n).take k0))).size - 1)) ∨
    ((∀ j, j ≤ (labs n).length → putB ((labs n).drop j) ≠ o) ∧ bts (ownL n o) = showB n) := by
  by_cases h1 : n = o
  · exact .inl ⟨h1, by unfold ownL; rw [if_pos h1]⟩
  · right
    by_cases h2 : tailB n (cntI o) = o
    · left
      obtain ⟨A, hA, hok, hl, ht, hp⟩ := tail_form hn ho h2 h1
      have hlen : (labs n).length = A.length + (labs o).length := by rw [hl, List.length_append]
      have hpos : 0 < A.length := List.length_pos_iff.2 hA
      have htk : (labs n).take A.length = A := by rw [hl, List.take_left]
      obtain ⟨f1, f2, f3, f4, f5⟩ := relL_facts hA hok
      have hpa : isN (putB A) = true := by
        rw [isN_putB hok]
        have := put_sz hn A.length
        rw [htk] at this
        exact decide_eq_true this
      have hs : showB (putB A) = bts (relL A ++ [46]) := by
        rw [showB_yes hpa (by rw [labs_putB hok]; exact hpos), labs_putB hok, f5]
      refine ⟨A.length, hpos, by omega, fun j hj => ⟨fun e => ?_, fun e => ?_⟩, ?_, ?_⟩
      · have e1 := congrArg labs e
        rw [labs_putB ((okL_labs n).drop j)] at e1
        have e2 := congrArg List.length e1
        rw [List.length_drop] at e2
        omega
      · rw [e, hl, List.drop_left, putB_labs ho]
      · rw [htk, hs, bts_size]; simp
      · rw [htk, hs, bts_last]
        unfold ownL
        rw [if_neg h1, if_pos h2, ht]
    · right
      refine ⟨fun j hj e => ?_, by unfold ownL; rw [if_neg h1, if_neg h2, bts_ls]⟩
      have e1 := congrArg labs e
      rw [labs_putB ((okL_labs n).drop j)] at e1
      have e2 := congrArg List.length e1
      rw [List.length_drop] at e2
      obtain ⟨-, -, h⟩ := tailB_yes (k := (labs o).length) hn (by omega)
      rw [show (labs n).length - (labs o).length = j by omega, e] at h
      apply h2
      have hc : cntI o = ((labs o).length : Int) := by unfold cntI; rw [if_pos ho]
      rw [hc]
      exact h
theorem strs_take {w : World} {p : Option Addr} {l : List ByteArray} (h : StrsAt w p l) (k cap : Nat) (hk : k ≤ l.length) : Strs w (.slice p k cap) (l.take k) := by
  have e : (l.take k).length = k := by rw [List.length_take]; omega
  have := (h.take k).strs cap
  rw [e] at this
  exact this
set_option maxRecDepth 100000 in
set_option maxHeartbeats 1000000 in
/-- gazetteerref2.owner -/
theorem refOwner_any (n o : ByteArray) (w : World) (hn : isN n = true) (ho : isN o = true) :
    Calls Tryz.prog 21 #[.string n, .string o] w fun e w' => e = .returned (.string (bts (ownL n o))) ∧ Below w.heap.size w w' := by
  have hns := ((isN_iff n).1 hn).1
  have HSp := hide' (fun V => split_yes n V (by omega) hn)
  have HZd : Hid (∀ k, k ≤ (labs n).length → (∀ x ∈ (labs n).drop k, x.size ≤ 255) ∧ (putB ((labs n).drop k)).size ≤ 4294967296) := fun k hk => ⟨fun x hx => by have := (okL_labs n).drop k x hx; omega, Nat.le_trans (put_szd hn k hk) (by omega)⟩
  have hL := labs_len_le hn
  have HP := own_plain hn ho
  have HSn := hide' (fun V => showName_any n V (by omega))
  rcases HP with ⟨h1, h2⟩ | ⟨k0, h1, h2, h3, h4, h5⟩ | ⟨h1, h2⟩
  · subst h1
    have HE : Hid (bts (ownL n n) = ⟨#[64]⟩) := by unfold Hid; rw [h2]; rfl
    have HQ : Hid (∀ (V : World) (v : Value), Strs V v (labs n) → Calls Tryz.prog 44 #[v] V fun e w' => e = .returned (.string n) ∧ Below V.heap.size V w') := fun V v hv => by
      have h0 := HZd.out 0 (by omega)
      rw [List.drop_zero] at h0
      have := put_any v _ V hv h0.1 h0.2
      rw [putB_labs hn] at this
      exact this
    have hbq : (n.toList == n.toList) = true := beq_self_eq_true _
    clear h2
    generalize labs n = L at *
    go_enter Tryz.func21, Tryz.ntmps21
    go_wp2_with (go_at_call 40; refine (HSp.out _).mono ?_; rintro e w1 ⟨p, cap, rfl, ⟨hc, hcap, hcap2, hpn⟩, hB1⟩)
    go_loopw [7] (fun iv wr => iv = .int .i64 0 ∧ Hid (wr = w1)) (fun _ _ => 0)
    case atStart => exact ⟨rfl, rfl⟩
    case round =>
      obtain ⟨rfl, HW⟩ := hrel
      have hW := HW.out.symm
      subst hW
      go_wp2_with (first
        | (go_at_call 44; refine (HQ.out _ _ (hc.strs _)).mono ?_; rintro e w2 ⟨rfl, hB2⟩))
      all_goals
        go_ret
        exact ⟨by rw [HE.out]; rfl, bstep hB1 hB2 hB1.size⟩
  · have HE := hide' h5
    have HQ : Hid (∀ (V : World) (v : Value) (k : Nat), k ≤ (labs n).length → Strs V v ((labs n).drop k) → Calls Tryz.prog 44 #[v] V fun e w' => e = .returned (.string (putB ((labs n).drop k))) ∧ Below V.heap.size V w') := fun V v k hk hv => put_any v _ V hv (HZd.out k hk).1 (HZd.out k hk).2
    have HNE : Hid (∀ k, k ≤ (labs n).length → k ≠ k0 → ((putB ((labs n).drop k)).toList == o.toList) = false) := fun k hk hne => by
      rw [beq_eq_false_iff_ne]
      exact fun e => hne ((h3 k hk).1 (toList_inj.1 e))
    have HK0 : Hid (putB ((labs n).drop k0) = o) := (h3 k0 h2).2 rfl
    have hbq : (o.toList == o.toList) = true := beq_self_eq_true _
    have HQt : Hid (∀ (V : World) (v : Value), Strs V v ((labs n).take k0) → Calls Tryz.prog 44 #[v] V fun e w' => e = .returned (.string (putB ((labs n).take k0))) ∧ Below V.heap.size V w') := fun V v hv => put_any v _ V hv (fun x hx => by have := (okL_labs n).take k0 x hx; omega) (Nat.le_trans (put_sz hn k0) (by omega))
    have HSk := hide' (fun V => showName_any (putB ((labs n).take k0)) V (Nat.le_trans (put_sz hn k0) (by omega)))
    have hY : (showB (putB ((labs n).take k0))).size ≤ 1048576 := by
      cases h : isN (putB ((labs n).take k0)) with
      | true => exact showB_size h
      | false => rw [showB_no h]; exact Nat.zero_le _
    clear h3 h5
    generalize showB (putB ((labs n).take k0)) = Y at *
    generalize labs n = L at *
    generalize putB (L.take k0) = T0 at *
    have hy0 : IntKind.i64.wrap ((Y.size : Int) - 1) = (Y.size : Int) - 1 := wrap_in (by omega) (by omega)
    have hy1 : (0 : Int) ≤ (Y.size : Int) - 1 := by omega
    have hy2 : ((Y.size : Int) - 1).toNat = Y.size - 1 := by omega
    have hy3 : (Y.size : Int) - 1 ≤ (Y.size : Int) := by omega
    go_enter Tryz.func21, Tryz.ntmps21
    go_wp2_with (go_at_call 40; refine (HSp.out _).mono ?_; rintro e w1 ⟨p, cap, rfl, ⟨hc, hcap, hcap2, hpn⟩, hB1⟩)
    go_loopw [7] (fun iv wr => ∃ k : Nat, iv = .int .i64 (k : Int) ∧ k ≤ k0 ∧ Hid (Below w1.heap.size w1 wr)) (fun iv _ => L.length + 1 - (intOf iv).toNat)
    case atStart => exact ⟨0, rfl, by omega, Below.refl _ _⟩
    case round =>
      obtain ⟨k, rfl, hk, HB⟩ := hrel
      have hcr := hc.below HB.out
      have pk : (k : Int) ≤ (L.length : Int) := by omega
      by_cases hlt : k < k0
      · have hkL : k ≤ L.length := by omega
        have hX := HNE.out k hkL (by omega)
        generalize hT : putB (L.drop k) = T at hX
        have HQk : Hid (∀ (V : World) (v : Value), Strs V v (L.drop k) → Calls Tryz.prog 44 #[v] V fun e w' => e = .returned (.string T) ∧ Below V.heap.size V w') := fun V v hv => by rw [← hT]; exact HQ.out V v k hkL hv
        clear hT
        go_wp2_with (first
          | (go_at_call 44; refine (HQk.out _ _ (by first | exact strs_drop1 hcr k _ | exact strs_drop0 (by omega) _)).mono ?_; rintro e w2 ⟨rfl, hB2⟩; have HB2 := hide' (bstep HB.out hB2 HB.out.size); clear hB2))
        all_goals
          go_roundw
          case rel => first | exact ⟨k + 1, by go_num, by omega, HB2⟩ | exact ⟨_, _, _, _, _, _, _, _, _, _, _, _, _, _, _, _, _, _, _, _, _, _, _, _, _, _, _, ⟨k + 1, by go_num, by omega, HB2⟩, by first | rfl | (have e : k = cap := (by omega); subst e; rfl)⟩
          case measure => simp [intOf]; omega
      · obtain rfl : k = k0 := by omega
        have HQk : Hid (∀ (V : World) (v : Value), Strs V v (L.drop k) → Calls Tryz.prog 44 #[v] V fun e w' => e = .returned (.string o) ∧ Below V.heap.size V w') := fun V v hv => by rw [← HK0.out]; exact HQ.out V v k h2 hv
        have HB' := hide' (bstep hB1 HB.out hB1.size)
        have pk0 : ¬ (k : Int) = 0 := by omega
        go_wp2_with (first
          | (go_at_call 44; first | (refine (HQk.out _ _ (by first | exact strs_drop1 hcr k _ | exact strs_drop0 (by omega) _)).mono ?_; rintro e w2 ⟨rfl, hB2⟩; have HB2 := hide' (bstep HB'.out hB2 HB'.out.size); have hc2 := hcr.below hB2; clear hB2 HQk) | (refine (HQt.out _ _ (strs_take hc2 k _ h2)).mono ?_; rintro e w3 ⟨rfl, hB3⟩; have HB3 := hide' (bstep HB2.out hB3 HB2.out.size); clear hB3))
          | (go_at_call 19; refine (HSk.out _).mono ?_; rintro e w4 ⟨rfl, hB4⟩; have HB4 := hide' (bstep HB3.out hB4 HB3.out.size); clear hB4))
        all_goals
          go_ret
          exact ⟨by rw [HE.out]; rfl, HB4.out⟩
  · have HE : Hid (bts (ownL n o) = showB n) := h2
    have HQ : Hid (∀ (V : World) (v : Value) (k : Nat), k ≤ (labs n).length → Strs V v ((labs n).drop k) → Calls Tryz.prog 44 #[v] V fun e w' => e = .returned (.string (putB ((labs n).drop k))) ∧ Below V.heap.size V w') := fun V v k hk hv => put_any v _ V hv (HZd.out k hk).1 (HZd.out k hk).2
    have HNE : Hid (∀ k, k ≤ (labs n).length → ((putB ((labs n).drop k)).toList == o.toList) = false) := fun k hk => by
      rw [beq_eq_false_iff_ne]
      exact fun e => h1 k hk (toList_inj.1 e)
    clear h1 h2
    generalize labs n = L at *
    go_enter Tryz.func21, Tryz.ntmps21
    go_wp2_with (go_at_call 40; refine (HSp.out _).mono ?_; rintro e w1 ⟨p, cap, rfl, ⟨hc, hcap, hcap2, hpn⟩, hB1⟩)
    go_loopw [7] (fun iv wr => ∃ k : Nat, iv = .int .i64 (k : Int) ∧ k ≤ L.length + 1 ∧ Hid (Below w1.heap.size w1 wr)) (fun iv _ => L.length + 1 - (intOf iv).toNat)
    case atStart => exact ⟨0, rfl, by omega, Below.refl _ _⟩
    case round =>
      obtain ⟨k, rfl, hk, HB⟩ := hrel
      by_cases hlt : k ≤ L.length
      · have hcr := hc.below HB.out
        have pk : (k : Int) ≤ (L.length : Int) := by omega
        have hX := HNE.out k hlt
        generalize hT : putB (L.drop k) = T at hX
        have HQk : Hid (∀ (V : World) (v : Value), Strs V v (L.drop k) → Calls Tryz.prog 44 #[v] V fun e w' => e = .returned (.string T) ∧ Below V.heap.size V w') := fun V v hv => by rw [← hT]; exact HQ.out V v k hlt hv
        clear hT
        go_wp2_with (first
          | (go_at_call 44; refine (HQk.out _ _ (by first | exact strs_drop1 hcr k _ | exact strs_drop0 (by omega) _)).mono ?_; rintro e w2 ⟨rfl, hB2⟩; have HB2 := hide' (bstep HB.out hB2 HB.out.size); clear hB2))
        all_goals
          go_roundw
          case rel => first | exact ⟨k + 1, by go_num, by omega, HB2⟩ | exact ⟨_, _, _, _, _, _, _, _, _, _, _, _, _, _, _, _, _, _, _, _, _, _, _, _, _, _, _, ⟨k + 1, by go_num, by omega, HB2⟩, by first | rfl | (have e : k = cap := (by omega); subst e; rfl)⟩
          case measure => simp [intOf]; omega
      · obtain rfl : k = L.length + 1 := by omega
        have pk : ¬ ((L.length : Int) + 1) ≤ (L.length : Int) := by omega
        go_wp2_with (first
          | (go_at_call 19; refine (HSn.out _).mono ?_; rintro e w2 ⟨rfl, hB2⟩; have HB2 := hide' (bstep (bstep hB1 HB.out hB1.size) hB2 (bstep hB1 HB.out hB1.size).size); clear hB2))
        go_ret
        exact ⟨by rw [HE.out]; rfl, HB2.out⟩
end Go.Proofs.YtmbjmokhkonpiaaGreatDoor

/-
  The reference's ShowData. (The verifier's own text.)
-/
namespace Go.Proofs.YtmbjmokhkonpiaaGreatDoor
set_option linter.unusedVariables false
set_option linter.unusedSimpArgs false
open Go.RowKit Go.Shelf Go.Proofs.YtmbjmokhkonpiaaGreatDoor.Nm

theorem append_rowS {w w0 : World} {ops : Array Oper} {o : Oper} {a : Act} {K : Act → World → Prop} {Q : Exit → Act → World → Prop} {E : Prop} (hgd : o.guard = none) (s x : Operand)
    (ho : o.op = .call { callee := .builtin .append, args := #[s, x], argTypes := #[46, 46] })
    (p : Option Addr) (n cp : Nat) (xs : List Value) (q : Option Addr) (m cq : Nat) (ys : List Value) (B2 : Nat) (hs : a.eval s = .slice p n cp) (hx : a.eval x = .slice q m cq)
    (hown : w.ownsRow w0.heap.size 9 1 (.slice p n cp) n xs) (hq : w.ownsRow B2 9 1 (.slice q m cq) m ys) (hys : ∀ u ∈ ys, u.oneCell' = true) (hB : Below w0.heap.size w0 w) (hsm : n + m ≤ 4294967296)
    (h : ∀ p' c' w', w'.ownsRow w0.heap.size 9 1 (.slice p' (n + m) c') (n + m) (xs ++ ys) → Below w0.heap.size w0 w' → K (a.put o.dst (.slice p' (n + m) c')) w') : if Region.wanted o (yielded ops a.tmps) = true then Oper.wp Tryz.prog o a w K Q else E := by
  have hw : Region.wanted o (yielded ops a.tmps) = true := by simp [Region.wanted, hgd]
  rw [if_pos hw]
  obtain ⟨i0, hi, hz0, hz1, hz2⟩ := info_parts Tryz.infoStr
  have hlen : ys.length = m := by have := hq.1; omega
  have hq' := hq
  obtain ⟨_, (⟨h1, h2⟩ | ⟨g, cap, cur, h1, hb, hg, hn, hcap, hsz, ht⟩)⟩ := hq'
  · cases h1
    have : ys = [] := List.length_eq_zero_iff.1 hlen
    subst this
    have hrun := run_append_owned_none (P := Tryz.prog) (w := w) w0.heap.size 46 o.type 9 i0 1 Tryz.underlying46 hi (.slice p n cp) n xs hown
    unfold Oper.wp
    simp [execOp, ho, resolve, invoke, builtin, hs, hx, hrun, Result.andThen]
    exact h p cp w (by simpa using hown) hB
  · have hqe : q = some ⟨g, 0, none⟩ := by simp only [Value.slice.injEq] at h1; exact h1.1
    subst hqe
    refine wp_append_own w s x 46 ho w0.heap.size 9 i0 (.string .empty) 1 16 Tryz.underlying46 hi hz0 hz1 hz2 rfl (by decide) (.slice p n cp) n xs hs hown ⟨g, 0, none⟩ m cq ys hx (by omega) ?_ hys (by unfold maxLen; omega) (by omega) hB.size (fun v' w' e1 e2 _ => ?_)
    · exact hq.cells rfl
    · obtain ⟨p', c', rfl, _⟩ := own_shape e1
      exact h _ _ _ e1 (hB.grown e2 hB.size (fun k e => ownBlock_le hown e))
theorem errD_of {t : Int} {d : ByteArray} {ps : List (Kind × ByteArray)} (hp : partsD t d = some ps) : errD t d = 0 := by
  obtain ⟨ks, hk, -, -⟩ := ps_ok hp
  unfold errD
  rw [hk, hp]
theorem parts_of {t : Int} {d : ByteArray} {ps : List (Kind × ByteArray)} {ks : List Kind} (hk : kindsOf t = some ks) (hp : partsD t d = some ps) : partsOf ks d = some ps := by
  unfold partsD at hp
  rw [hk] at hp
  replace hp : (if _ then _ else _) = _ := hp
  split at hp
  · cases hp
  · exact hp
set_option maxRecDepth 100000 in
set_option maxHeartbeats 4000000 in
/-- data of no form -/
theorem refShow_unk (t : Int) (d : ByteArray) (w : World) (hk : kindsOf t = some [12]) (hd : d.size ≤ 65535) (he : errD t d = 0) :
    Calls Tryz.prog 22 #[.int .i64 t, .string d] w fun e w' => e = .returned (.tuple #[.string (bts (jnW (tellK 12 d))), .int .i64 0]) ∧ Below w.heap.size w w' := by
  have HC := hide' (fun V => refCheckData_any t d V (by omega))
  have HF := hide' (fun V => form_any t V)
  have hf : formB t = ⟨#[45]⟩ := by rw [formB_kinds hk]; rfl
  rw [hf] at HF
  rw [he] at HC
  have HX := hide' (fun V => refHexM d V (by omega))
  have HD := hide' (fun V => dec_any d.size V (by omega))
  have l1 := dgN_len 9 d.size (by omega)
  have l2 : (lsB (toWB 4 d16 d)).length ≤ 1000000 := by rw [lsB_len]; have := cW_len8 dg16 d; omega
  have HT : Hid (bts (jnW (tellK 12 d)) = if d.size = 0 then bts ([92, 35, 32] ++ dgN d.size) else bts ([92, 35, 32] ++ dgN d.size ++ ([32] ++ lsB (toWB 4 d16 d)))) := by
    unfold Hid
    show bts (jnW (⟨[92, 35], false⟩ :: ⟨dgN d.size, false⟩ :: (if d.size = 0 then [] else [⟨lsB (toWB 4 d16 d), false⟩]))) = _
    split
    · simp [jnW_cons, sfx, jnW, shW]
    · simp [jnW_cons, sfx, jnW, shW]
  clear hf hk he
  generalize hT : jnW (tellK 12 d) = T at *
  generalize dgN d.size = D at *
  have HX' : Hid (∀ V, Calls Tryz.prog 46 #[.string d] V fun e w' => e = .returned (.string (bts (lsB (toWB 4 d16 d)))) ∧ Below V.heap.size V w') := fun V => by
    rw [bts_ls]
    exact HX.out V
  clear HX
  generalize lsB (toWB 4 d16 d) = H at *
  have x1 : ∀ W : World, (Op.stringOp .add ⟨#[92, 35, 32]⟩ (bts D)).run Tryz.prog W = .ok (.string (bts ([92, 35, 32] ++ D))) W := fun W => add_bts W [92, 35, 32] D (by simp; omega)
  obtain ⟨A, hA⟩ : ∃ A, [92, 35, 32] ++ D = A := ⟨_, rfl⟩
  have lA : A.length ≤ 20 := by rw [← hA, List.length_append]; simp; omega
  rw [hA] at x1 HT
  have x2 : ∀ W : World, (Op.stringOp .add ⟨#[32]⟩ (bts H)).run Tryz.prog W = .ok (.string (bts ([32] ++ H))) W := fun W => add_bts W [32] H (by simp; omega)
  obtain ⟨B, hB⟩ : ∃ B, [32] ++ H = B := ⟨_, rfl⟩
  have lB : B.length ≤ 1000001 := by rw [← hB, List.length_append]; simp; omega
  rw [hB] at x2 HT
  have x3 : ∀ W : World, (Op.stringOp .add (bts A) (bts B)).run Tryz.prog W = .ok (.string (bts (A ++ B))) W := fun W => add_bts W A B (by omega)
  clear hT hA hB l1 l2 lA lB
  by_cases h0 : d.size = 0
  · have hee := isEmpty_true (r := d) h0
    have HE : Hid (bts T = bts A) := by rw [if_pos h0] at HT; exact HT
    clear HT x2 x3 HX' h0
    go_enter Tryz.func22, Tryz.ntmps22
    go_wp2_with (first
      | (go_at_call 43; refine (HC.out _).mono ?_; rintro e1 w1 ⟨rfl, hB1⟩; have HB1 := hide' hB1; clear hB1)
      | (go_at_call 45; refine (HF.out _).mono ?_; rintro e w2 ⟨rfl, hw2⟩; have hw2' := hw2.symm; subst hw2'; clear hw2)
      | (go_at_call 23; refine (HD.out _).mono ?_; rintro e1 w3 ⟨rfl, hB3⟩; have HB3 := hide' (bstep HB1.out hB3 HB1.out.size); clear hB3))

    go_ret2
    exact ⟨by rw [HE.out]; rfl, HB3.out⟩
  · have hee := isEmpty_false (r := d) (by omega)
    have HE : Hid (bts T = bts (A ++ B)) := by rw [if_neg h0] at HT; exact HT
    clear HT h0
    go_enter Tryz.func22, Tryz.ntmps22
    go_wp2_with (first
      | (go_at_call 43; refine (HC.out _).mono ?_; rintro e1 w1 ⟨rfl, hB1⟩; have HB1 := hide' hB1; clear hB1)
      | (go_at_call 45; refine (HF.out _).mono ?_; rintro e w2 ⟨rfl, hw2⟩; have hw2' := hw2.symm; subst hw2'; clear hw2)
      | (go_at_call 23; refine (HD.out _).mono ?_; rintro e1 w3 ⟨rfl, hB3⟩; have HB3 := hide' (bstep HB1.out hB3 HB1.out.size); clear hB3)
      | (go_at_call 46; refine (HX'.out _).mono ?_; rintro e1 w4 ⟨rfl, hB4⟩; have HB4 := hide' (bstep HB3.out hB4 HB3.out.size); clear hB4))
    go_ret2
    exact ⟨by rw [HE.out]; rfl, HB4.out⟩
set_option maxRecDepth 100000 in
set_option maxHeartbeats 4000000 in
/-- data of a form -/
theorem refShow_form (t : Int) (d : ByteArray) (ks : List Kind) (ps : List (Kind × ByteArray)) (w : World) (hk : kindsOf t = some ks) (hp : partsD t d = some ps) (hkn : ∀ k ∈ ks, kKn k = true) (hne : ks ≠ [.unknown]) :
    Calls Tryz.prog 22 #[.int .i64 t, .string d] w fun e w' => e = .returned (.tuple #[.string (bts (jnW (tellA ps))), .int .i64 0]) ∧ Below w.heap.size w w' := by
  obtain ⟨ks', hk', hks, hok⟩ := ps_ok hp
  obtain rfl : ks' = ks := by rw [hk] at hk'; simpa using hk'.symm
  have hd := hok.dl
  have he := errD_of hp
  obtain ⟨hokk, hl1⟩ := (kinds_ok hk).resolve_left hne
  have hdash := form_dash hokk hl1
  have HC := hide' (fun V => refCheckData_any t d V (by omega))
  have HF := hide' (fun V => form_any t V)
  rw [he] at HC
  rw [formB_kinds hk] at HF
  have hkl := kinds_few hk
  have hpo := parts_of hk hp
  have HP := hide' (fun w => refParts_any ks' d w hd hkl hokk)
  rw [hpo] at HP
  have hfs := formK_size ks'
  have HFA := hide' (formK_at ks')
  have hn9 := hok.few
  have hlk : ks'.length = ps.length := by rw [← hks, List.length_map]
  obtain ⟨hTW, hTc⟩ := hok.tell
  have HLen : Hid (∀ i, (tellA (ps.take i)).length ≤ 6555000) := fun i => Nat.le_trans (jnW_len _).2 (Nat.le_trans (tellA_take ps i) hTc)
  have HSh : Hid (∀ i (hi : i < ps.length) (V : World), Calls Tryz.prog 48 #[.int .u8 ((letter ps[i].1).toNat : Int), .string ps[i].2] V (ShE V (tellK ps[i].1 ps[i].2))) := fun i hi V =>
    showField_any _ _ V (hkn _ (by rw [← hks]; exact List.mem_map_of_mem (List.getElem_mem hi))) (hok.sz _ (List.getElem_mem hi)) (hok.le _ (List.getElem_mem hi))
  have HAt : Hid (∀ i (hi : i < ps.length), bt (formK ks') i = (letter ps[i].1).toNat) := fun i hi => by
    rw [HFA.out i (by omega)]
    congr 2
    simp [← hks]
  have HSt : Hid (∀ i (hi : i < ps.length), wdV ps (i + 1) = wdV ps i ++ (tellK ps[i].1 ps[i].2).map tlV ∧ (tellA (ps.take (i + 1))).length = (tellA (ps.take i)).length + (tellK ps[i].1 ps[i].2).length) := fun i hi => by
    unfold wdV
    rw [tellA_step hi, List.map_append, List.length_append]
    exact ⟨rfl, rfl⟩
  have HJ : Hid (∀ (V : World) (p : Option Addr) (n c base : Nat), n = (tellA ps).length → V.ownsRow base 9 1 (.slice p n c) n (wdV ps ps.length) → Calls Tryz.prog 37 #[.slice p n c, .string ⟨#[32]⟩] V fun e w' => e = .returned (.string (bts (jnW (tellA ps)))) ∧ Below V.heap.size V w') := fun V p n c base hn ho => by
    subst hn
    have e : ((tellA ps).map shW).length = (tellA ps).length := List.length_map _
    have hz := (jnW_len (tellA ps)).1
    have hz2 := (jnW_len (tellA ps)).2
    have h := join_any 32 ((tellA ps).map shW) p c base V (by
      rw [e, List.map_map]
      unfold wdV at ho
      rw [List.take_length] at ho
      exact ho) (by rw [jnW_jnC]; omega) (by rw [e]; omega)
    rw [e, jnW_jnC] at h
    exact h
  have HPC : Hid (∀ i (hi : i < ps.length), (byteC ps)[i]? = some (.string ps[i].2)) := fun i hi => by
    unfold byteC
    rw [List.getElem?_map, List.getElem?_eq_getElem hi]
    rfl
  obtain ⟨F, hF⟩ : ∃ F, formK ks' = F := ⟨_, rfl⟩
  rw [hF] at HF hfs hdash HP HAt
  have hFs : F.size = ps.length := by omega
  clear hF HFA hfs hlk hkl hk' hk hp hpo hks hok hkn hne he hokk hl1 hTW hTc
  go_enter Tryz.func22, Tryz.ntmps22
  go_wp2_with (first
    | (go_at_call 43; refine (HC.out _).mono ?_; rintro e1 w1 ⟨rfl, hB1⟩; have HB1 := hide' hB1; clear hB1)
    | (go_at_call 45; refine (HF.out _).mono ?_; rintro e w2 ⟨rfl, hw2⟩; have hw2' := hw2.symm; subst hw2'; clear hw2)
    | (go_at_call 47; refine (HP.out _).mono ?_; rintro e w3 ⟨⟨pp, cc, rfl, hown⟩, hB3⟩; have HB3 := hide' (bstep HB1.out hB3 HB1.out.size); have HOp := hide' hown; clear hB3 hown))
  go_loopw [11, 43] (fun nv iv wr => ∃ (i n : Nat) (p : Option Addr) (c : Nat), iv = .int .i64 (i : Int) ∧ nv = .slice p n c ∧ i ≤ ps.length ∧ n ≤ 6555000 ∧ Hid (n = (tellA (ps.take i)).length) ∧ Hid (wr.ownsRow w3.heap.size 9 1 (.slice p n c) n (wdV ps i)) ∧ Hid (Below w3.heap.size w3 wr)) (fun _ iv _ => ps.length - (intOf iv).toNat)
  case atStart => exact ⟨0, 0, none, 0, rfl, rfl, Nat.zero_le _, Nat.zero_le _, rfl, World.ownsRow_nil _ _ _ _, Below.refl _ _⟩
  case round =>
    obtain ⟨i, n, p, c, rfl, rfl, hi, hn, HN, HO, HB⟩ := hrel
    by_cases hlt : i < ps.length
    · obtain ⟨g, c2, hpe⟩ := owns_some HOp.out (by omega)
      simp only [Value.slice.injEq] at hpe
      obtain ⟨rfl, -, rfl⟩ := hpe
      have HS1 := hide' (HSt.out i hlt)
      have HL1 := hide' (HLen.out (i + 1))
      have HSh1 := hide' (HSh.out i hlt)
      have hc0 : wr.cell? ⟨g, i, none⟩ = some (.string ps[i].2) := by
        have h := (ownsRow_below HOp.out HB.out).cellAt i (by omega)
        rw [h]; exact HPC.out i hlt
      obtain ⟨y, hy, HY, hyl⟩ := bt_wrap (s := F) (i := i) (by omega)
      have hyk : (letter ps[i].1).toNat = y := by rw [← HAt.out i hlt, HY]
      rw [hyk] at HSh1
      clear HY hyk
      generalize ps[i].1 = k at *
      generalize ps[i].2 = b at *
      have pk : (i : Int) < (ps.length : Int) := by omega
      have pF : i < F.size := by omega
      go_wp2_with fail
      have FT1 : Hid True := trivial
      have HBd : Hid (Below w3.heap.size w3 wr.drew) := HB.out.drew
      have HOd : Hid (wr.drew.ownsRow w3.heap.size 9 1 (.slice p n c) n (wdV ps i)) := HO.out.drew
      go_region_law ((first
        | (go_simp
           go_at_call 48
           have _ := FT1
           clear FT1
           refine (HSh1.out _).mono ?_
           rintro e w4 ⟨p3, c3, rfl, ho3, hB3⟩
           have HB3' := hide' (bstep HBd.out hB3 HBd.out.size)
           have HO3 := hide' (ownsRow_below HOd.out hB3)
           have HQ3 := hide' ho3
           clear hB3 ho3
           obtain ⟨m, hm⟩ : ∃ m, (tellK k b).length = m := ⟨_, rfl⟩
           rw [hm] at HQ3 HS1 ⊢
           have hmn : n + m ≤ 6555000 := by have h1 := HS1.out.2; have h2 := HL1.out; have h3 := HN.out; omega
           have hys : ∀ u ∈ (tellK k b).map tlV, u.oneCell' = true := fun u hu => by
             obtain ⟨z, _, rfl⟩ := List.mem_map.1 hu
             rfl
           have HYs := hide' hys
           clear hm hys)
        | (refine append_rowS (w0 := w3) (by rfl) _ _ (by rfl) p n c (wdV ps i) p3 m c3 ((tellK k b).map tlV) _ ?_ ?_ HO3.out HQ3.out HYs.out HB3'.out (by omega) ?_
           · rfl
           · rfl
           intro p4 c4 w5 ho4 hB4
           have HO4 := hide' ho4
           have HB4 := hide' hB4
           clear ho4 hB4)))
      all_goals go_wp2_with fail
      all_goals refine ⟨⟨i + 1, n + m, p4, c4, by go_num, rfl, by omega, hmn, ?_, ?_, HB4⟩, by simp [intOf]; omega⟩
      all_goals first
        | (unfold Hid; rw [HS1.out.2, HN.out]; done)
        | (rw [HS1.out.1]; exact HO4.out)
    · obtain rfl : i = ps.length := by omega
      have pk : ¬ (ps.length : Int) < (ps.length : Int) := by omega
      have HJ1 := hide' (HJ.out wr p n c _ (by rw [HN.out, List.take_length]) HO.out)
      have HB5 := hide' (bstep HB3.out HB.out HB3.out.size)
      clear HJ HN HO hi
      go_wp2_with (go_at_call 37; refine HJ1.out.mono ?_; rintro e1 w6 ⟨rfl, hB6⟩; have HB6 := hide' (bstep HB5.out hB6 HB5.out.size); clear hB6)
      go_ret2
      exact ⟨rfl, HB6.out⟩
/-- gazetteerref1.ShowData, of data -/
theorem refShow_any (t : Int) (d : ByteArray) (ps : List (Kind × ByteArray)) (w : World) (hp : partsD t d = some ps) :
    Calls Tryz.prog 22 #[.int .i64 t, .string d] w fun e w' => e = .returned (.tuple #[.string (bts (jnW (tellA ps))), .int .i64 0]) ∧ Below w.heap.size w w' := by
  obtain ⟨ks, hk, hks, hok⟩ := ps_ok hp
  rcases kinds_known hk with ⟨h1, -, h2⟩ | h1
  · exact refShow_form t d ks ps w hk hp h1 (fun e => by
      have := h1 .unknown (by rw [e]; exact List.mem_singleton_self _)
      exact absurd this (by decide))
  · subst h1
    have h3 := parts_of hk hp
    have h4 := parts_unknown d
    have h5 : ps = [(.unknown, d)] := by
      have e : some ps = some [(Kind.unknown, d)] := h3.symm.trans h4
      simpa using e
    subst h5
    have h6 := refShow_unk t d w hk hok.dl (errD_of hp)
    have e : tellA [(Kind.unknown, d)] = tellK 12 d := by simp [tellA]
    rw [e]
    exact h6
end Go.Proofs.YtmbjmokhkonpiaaGreatDoor
