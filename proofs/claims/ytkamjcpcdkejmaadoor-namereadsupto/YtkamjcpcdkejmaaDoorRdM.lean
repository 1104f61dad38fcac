import Derived.Test.YtkamjcpcdkejmaaDoorRdN
import Derived.Test.YtkamjcpcdkejmaaDoorPrW
import Derived.Test.YtkamjcpcdkejmaaDoorMath18
namespace Go.Proofs.YtkamjcpcdkejmaaDoor
set_option linter.unusedVariables false
open Go.RowKit Go.Shelf Nm

set_option maxRecDepth 100000 in
set_option maxHeartbeats 4000000 in
theorem readName_main (t o : ByteArray) (w : World) (ht : t.size ≤ 1048576) (ho : o.size ≤ 1048576) (hN : isN o = true) (h0 : t.size ≠ 0) (h64 : t ≠ bts [64]) (h46 : t ≠ bts [46]) :
    Calls Tryd.prog 6 #[.string t, .string o] w fun e w' => e = .returned (.tuple #[.string (readB t o).1, .int .i64 ((readB t o).2.1 : Int), .int .i64 ((readB t o).2.2 : Int)]) ∧ Below w.heap.size w w' := by
  obtain ⟨i0, hi, hz0, hz1, hz2⟩ := info_parts Tryd.infoByte
  obtain ⟨j0, hj, hj0, hj1, hj2⟩ := info_parts Tryd.infoStr
  have HERR : Hid (∀ c k l b, scanT t 0 0 [] [] = ⟨c, k, l, b⟩ → c ≠ 0 → readB t o = (ByteArray.empty, k, c)) := fun c k l b hs hc => readB_err hN h0 h64 h46 hs hc
  have he := isEmpty_false (r := t) (by omega)
  have h64' : (t.toList == [64]) = false := by rw [show ([64] : List UInt8) = [UInt8.ofNat 64] from rfl, toList_lit]; exact decide_eq_false h64
  have h46' : (t.toList == [46]) = false := by rw [show ([46] : List UInt8) = [UInt8.ofNat 46] from rfl, toList_lit]; exact decide_eq_false h46
  have h0' := h0
  have h64n := h64
  have h46n := h46
  have HH0 := hide' h0'
  have HH64 := hide' h64n
  have HH46 := hide' h46n
  clear h64 h46 h0 h0' h64n h46n
  go_enter Tryd.func6, Tryd.ntmps6
  go_wp2_with (go_at_call 19; refine (split_yes o _ ho hN).mono ?_; rintro e w1 ⟨p, cap, rfl, ⟨hc, hcap, hcap2, hnone⟩, hB1⟩; have HNONE : Hid (p = none → cap = 0) := hnone; clear hnone)
  go_loopw [9, 10, 11, 12] (fun lv nv fv kv wr => ∃ (k first : Nat) (now : List Nat) (L : List ByteArray) (pn : Option Addr) (cn : Nat), kv = .int .i64 k ∧ fv = .int .i64 first ∧ nv = .slice pn now.length cn ∧ k ≤ t.size ∧ now.length ≤ 63 ∧ L.length ≤ k ∧
      Hid (scanT t 0 0 [] [] = scanT t k first now L) ∧ Hid (∀ x ∈ now, x < 256) ∧ Hid (OkL L) ∧ wr.ownsRow w1.heap.size 9 1 lv L.length (L.map Value.string) ∧ wr.ownsRow w1.heap.size 5 1 (.slice pn now.length cn) now.length (byts now) ∧ Below w1.heap.size w1 wr)
    (fun _ _ _ kv _ => t.size - (intOf kv).toNat)
  case atStart => exact ⟨0, 0, [], [], none, 0, rfl, rfl, rfl, Nat.zero_le _, by simp, by simp, rfl, (fun x hx => by cases hx), (fun x hx => by cases hx), World.ownsRow_nil _ _ _ _, World.ownsRow_nil _ _ _ _, Below.refl _ _⟩
  case round =>
    obtain ⟨k, first, now, L, pn, cn, rfl, rfl, rfl, hk, hnl, hLk, HS, H256, HOK, hownL, hownN, hB⟩ := hrel
    by_cases hlt : k < t.size
    · obtain ⟨y, hy, HY, hyl⟩ := bt_wrap hlt
      by_cases h46 : y = 46
      · subst h46
        by_cases hn0 : now = []
        · subst hn0
          have HR : Hid (readB t o = (ByteArray.empty, k, 2)) := HERR.out _ _ _ _ (HS.out.trans (scanT_dot0 hlt HY)) (by decide)
          clear HY
          go_wp2
          go_ret3
          exact ⟨by rw [HR.out]; rfl, hB1.trans (hB.mono hB1.size)⟩
        · have hn1 : 0 < now.length := List.length_pos_iff.2 hn0
          have hn2 : ((now.length : Int) == 0) = false := by rw [beq_eq_false_iff_ne]; omega
          have HS2 : Hid (scanT t 0 0 [] [] = scanT t (k + 1) (k + 1) [] (L ++ [bts now])) := HS.out.trans (scanT_dot hlt HY hn0)
          have HO2 : Hid (OkL (L ++ [bts now])) := HOK.out.append (fun x hx => by simp at hx; rw [hx, bts_size]; omega)
          obtain ⟨gn, cn', hsh⟩ := owns_some hownN hn1
          simp at hsh
          obtain ⟨rfl, rfl⟩ := hsh
          have hzn := bts_size now
          have hcv : (convert 39 9 (.slice (some ⟨gn, 0, none⟩) now.length cn)).run Tryd.prog wr = .ok (.string (bts now)) wr := by
            have h := owns_str (t := bts now) (w := wr) (base := w1.heap.size) (g := gn) (cap := cn) (by rw [hzn, bts_cells _ H256.out]; exact hownN)
            rw [hzn] at h; exact h
          clear HY hn0 hzn
          go_wp2_with (at_builtin; refine wpList_append_own _ rfl _ _ 29 rfl w1.heap.size 9 j0 (.string .empty) 1 16 Tryd.underlying29 hj hj0 hj1 hj2 rfl (by decide) _ _ _ rfl (hownL.alloc _) ⟨wr.heap.size, 0, none⟩ 1 1 [.string (bts now)] rfl rfl (cell_one_new _ _ _) (by simp [Value.oneCell']) (by unfold maxLen; omega) (by omega) (by have := hB.size; simp; omega) ?_; intro v' w3 hown' hgrow _)
          refine ⟨⟨k + 1, k + 1, [], L ++ [bts now], none, 0, by go_num, by go_num, rfl, hlt, by simp, by simp; omega, HS2, (fun x hx => by cases hx), HO2, by simpa using hown', World.ownsRow_nil _ _ _ _, below_app hB (Nat.le_refl _) hownL hgrow⟩, ?_⟩
          simp [intOf]; omega
      · have hy46 : ((y : Int) == 46) = false := by rw [beq_eq_false_iff_ne]; omega
        have hyne : bt t k ≠ 46 := by rw [HY]; exact h46
        have hpz : 0 < (t.extract k t.size).size := by rw [size_extract' _ _ _ (Nat.le_refl _)]; omega
        have hps : (t.extract k t.size).size ≤ 1048576 := by rw [size_extract' _ _ _ (Nat.le_refl _)]; omega
        obtain ⟨hp1, hp2⟩ := pc_some hlt
        obtain ⟨b, hb⟩ : ∃ b, (pc (t.extract k t.size)).1 = b := ⟨_, rfl⟩
        obtain ⟨wd, hwd⟩ : ∃ wd, (pc (t.extract k t.size)).2 = wd := ⟨_, rfl⟩
        rw [hwd] at hp1
        rw [hb] at hp2
        have HPB : Hid ((pc (t.extract k t.size)).1 = b) := hb
        have HPW : Hid ((pc (t.extract k t.size)).2 = wd) := hwd
        have HPZ := hide' hpz
        have HPS := hide' hps
        have HNE := hide' hyne
        clear hb hwd hpz hps hyne HY h46
        by_cases hw0 : wd = 0
        · subst hw0
          have HR : Hid (readB t o = (ByteArray.empty, k, 2)) := HERR.out _ _ _ _ (HS.out.trans (scanT_bad hlt HNE.out HPW.out)) (by decide)
          go_wp2_with (go_at_call 20; refine (piece_any (t.extract k t.size) _ HPZ.out HPS.out).mono ?_; rintro e w2 ⟨rfl, rfl⟩; rw [HPB.out, HPW.out])
          go_ret3
          exact ⟨by rw [HR.out]; rfl, hB1.trans (hB.mono hB1.size)⟩
        · have hw0' : ((wd : Int) == 0) = false := by rw [beq_eq_false_iff_ne]; omega
          by_cases h63 : now.length = 63
          · have HR : Hid (readB t o = (ByteArray.empty, first, 3)) := HERR.out _ _ _ _ (HS.out.trans (scanT_full hlt HNE.out (by rw [HPW.out]; exact hw0) h63)) (by decide)
            have h63' : ((now.length : Int) == 63) = true := by rw [beq_iff_eq]; omega
            clear h63 hw0
            go_wp2_with (go_at_call 20; refine (piece_any (t.extract k t.size) _ HPZ.out HPS.out).mono ?_; rintro e w2 ⟨rfl, rfl⟩; rw [HPB.out, HPW.out])
            go_ret3
            exact ⟨by rw [HR.out]; rfl, hB1.trans (hB.mono hB1.size)⟩
          · have h63' : ((now.length : Int) == 63) = false := by rw [beq_eq_false_iff_ne]; omega
            have HS2 : Hid (scanT t 0 0 [] [] = scanT t (k + wd) first (now ++ [b]) L) := by
              have := HS.out.trans (scanT_byte hlt HNE.out (by rw [HPW.out]; exact hw0) h63)
              rw [HPW.out, HPB.out] at this; exact this
            have H2562 : Hid (∀ x ∈ now ++ [b], x < 256) := fun x hx => by
              rcases List.mem_append.1 hx with h | h
              · exact H256.out x h
              · simp at h; omega
            have hwd1 : 1 ≤ wd := by omega
            have hn62 : now.length < 63 := by omega
            clear h63 hw0
            go_wp2_with (first
              | (go_at_call 20; refine (piece_any (t.extract k t.size) _ HPZ.out HPS.out).mono ?_; rintro e w2 ⟨rfl, rfl⟩; rw [HPB.out, HPW.out])
              | (at_builtin; refine wpList_append_own _ rfl _ _ 39 rfl w1.heap.size 5 i0 (.int .u8 0) 1 1 Tryd.underlying39 hi hz0 hz1 hz2 rfl (by decide) _ _ _ rfl (hownN.alloc _) ⟨_, 0, none⟩ 1 1 [.int .u8 (b : Int)] rfl rfl (cell_one_new _ _ _) (by simp [Value.oneCell']) (by unfold maxLen; omega) (by omega) (by have := hB.size; simp; omega) ?_; intro v' w3 hown' hgrow _; obtain ⟨g', c', rfl⟩ := owns_some hown' (by omega)))
            refine ⟨⟨k + wd, first, now ++ [b], L, some ⟨g', 0, none⟩, c', by go_num, rfl, by simp, by omega, by simp; omega, by omega, HS2, H2562, HOK, row_other hownL hownN (by decide) hgrow, by simpa [byts] using hown', below_app hB (Nat.le_refl _) hownN hgrow⟩, ?_⟩
            simp [intOf]; omega
    · have HEND := HS.out.trans (scanT_end (t := t) (k := k) (first := first) (now := now) (l := L) (by omega))
      by_cases hn0 : now = []
      · subst hn0
        obtain ⟨pA, cA, rfl, _, _, _⟩ := owns_shape hownL
        have hsA : StrsAt wr pA L := by obtain ⟨p', c', e', hc'⟩ := Strs.of_owns hownL; simp at e'; obtain ⟨rfl, rfl⟩ := e'; exact hc'
        have HFIN : Hid ((255 < (putB L).size → readB t o = (ByteArray.empty, 0, 4)) ∧ ((putB L).size ≤ 255 → readB t o = (putB L, 0, 0))) := by
          have := readB_fin hN HH0.out HH64.out HH46.out HEND
          unfold Hid
          simpa using this
        obtain ⟨wA, rfl⟩ : ∃ wA, wA = wr := ⟨_, rfl⟩
        have hBA := hB1.trans (hB.mono hB1.size)
        have HOA := HOK
        obtain ⟨A, rfl⟩ : ∃ A, A = L := ⟨_, rfl⟩
        have hAl : A.length ≤ 1048576 + 255 := by omega
        clear HEND HS hownL hownN hB hc
        · go_wp2
          go_loopw [15, 86] (fun zv i w6 => ∃ (m z : Nat), i = .int .i64 m ∧ zv = .int .i64 z ∧ m ≤ A.length ∧ z ≤ 1 + 64 * m ∧ Hid (z = 1 + (chunks (A.take m)).size) ∧ Below wA.heap.size wA w6) (fun _ i _ => A.length - (intOf i).toNat)
          case atStart => exact ⟨0, 1, rfl, rfl, Nat.zero_le _, by omega, rfl, Below.refl _ _⟩
          case round =>
            obtain ⟨m, z, rfl, rfl, hm, hz, HZ, hB6⟩ := hrel
            by_cases hmlt : m < A.length
            · obtain ⟨g, off, rfl, hg, hcell0⟩ := hsA m hmlt
              have hcell := (hB6.cell (p := ⟨g, off + m, none⟩) hg).trans hcell0
              have hx63 := (HOA.out _ (List.getElem_mem hmlt)).2
              have HZ2 : Hid (z + (1 + A[m].size) = 1 + (chunks (A.take (m + 1))).size) := by
                have := HZ.out; unfold Hid; rw [chunks_take_size hmlt]; omega
              generalize A[m] = X at *
              clear hcell0
              go_wp2
              go_roundw
              case rel => exact ⟨m + 1, z + (1 + X.size), by go_num, by go_num, hmlt, by omega, HZ2, hB6⟩
              case measure => simp [intOf]; omega
            · have HT : Hid (A.take m = A) := List.take_of_length_le (by omega)
              rw [HT.out] at HZ
              have hps := putB_size A
              by_cases h255 : (putB A).size ≤ 255
              · have HR : Hid (readB t o = (putB A, 0, 0)) := HFIN.out.2 h255
                have hz255 : z ≤ 255 := by have := HZ.out; omega
                have hst : Strs wr (.slice pA A.length cA) A := (hsA.below hB6).strs cA
                have HM : Hid (∀ x ∈ A, x.size ≤ 255) := fun x hx => by have := HOA.out x hx; omega
                have HPZ : Hid ((putB A).size ≤ 4294967296) := by unfold Hid; omega
                clear hps h255
                go_wp2_with (go_at_call 21; refine (put_any _ A _ hst HM.out HPZ.out).mono ?_; rintro e w7 ⟨rfl, hB7⟩)
                go_ret3
                exact ⟨by rw [HR.out]; rfl, hBA.trans ((bstep hB6 hB7 hB6.size).mono hBA.size)⟩
              · have HR : Hid (readB t o = (ByteArray.empty, 0, 4)) := HFIN.out.1 (by omega)
                have hz255 : 255 < z := by have := HZ.out; omega
                clear hps h255
                go_wp2
                go_ret3
                exact ⟨by rw [HR.out]; rfl, hBA.trans (hB6.mono hBA.size)⟩
      · have hn1 : 0 < now.length := List.length_pos_iff.2 hn0
        have HFIN0 := readB_fin hN HH0.out HH64.out HH46.out HEND
        rw [if_neg hn0, if_neg (by simpa using hn0)] at HFIN0
        obtain ⟨A, hA⟩ : ∃ A, L ++ [bts now] ++ labs o = A := ⟨_, rfl⟩
        rw [hA] at HFIN0
        have HFIN := hide' HFIN0
        have HOA : Hid (OkL A) := by
          unfold Hid; rw [← hA]
          exact (HOK.out.append (fun x hx => by simp at hx; rw [hx, bts_size]; omega)).append (okL_labs o)
        have hAl : A.length ≤ 1048576 + 255 := by
          rw [← hA]; have := labs_len_le hN; simp; omega
        have HA : Hid (L ++ [bts now] ++ labs o = A) := hA
        obtain ⟨gn, cn', hsh⟩ := owns_some hownN hn1
        simp at hsh
        obtain ⟨rfl, rfl⟩ := hsh
        have hzn := bts_size now
        have hcv : (convert 39 9 (.slice (some ⟨gn, 0, none⟩) now.length cn)).run Tryd.prog wr = .ok (.string (bts now)) wr := by
          have h := owns_str (t := bts now) (w := wr) (base := w1.heap.size) (g := gn) (cap := cn) (by rw [hzn, bts_cells _ H256.out]; exact hownN)
          rw [hzn] at h; exact h
        have hol := labs_len_le hN
        clear hzn hn0 HFIN0 hA HEND HS hownN
        · go_wp2_with (first
            | (at_builtin; refine wpList_append_own _ rfl _ _ 29 rfl w1.heap.size 9 j0 (.string .empty) 1 16 Tryd.underlying29 hj hj0 hj1 hj2 rfl (by decide) _ _ _ rfl (hownL.alloc _) ⟨wr.heap.size, 0, none⟩ 1 1 [.string (bts now)] rfl rfl (cell_one_new _ _ _) (by simp [Value.oneCell']) (by unfold maxLen; omega) (by omega) (by have := hB.size; simp; omega) ?_; intro v' w3 hown' hgrow _; have hB3 := below_app hB (Nat.le_refl _) hownL hgrow; have hc3 := hc.below hB3; clear hownL)
            | (at_builtin; refine wpList_append_strs rfl _ _ rfl w1.heap.size v' _ _ rfl hown' p (labs o) cap rfl hc3 HNONE.out (by omega) hB3.size ?_; intro v5 wA hown5 hg5; have hB5 : Below w1.heap.size w1 wA := hB3.grown hg5 hB3.size (fun _ e => ownBlock_le hown' e); have hownA : wA.ownsRow w1.heap.size 9 1 v5 A.length (A.map Value.string) := (by rw [← HA.out, show (L ++ [bts now] ++ labs o).length = L.length + 1 + (labs o).length by simp; omega]; simpa using hown5); obtain ⟨pA, cA, rfl, _, _, _⟩ := owns_shape hownA; clear hc3))
          have hsA : StrsAt wA pA A := by obtain ⟨p', c', e', hc'⟩ := Strs.of_owns hownA; simp at e'; obtain ⟨rfl, rfl⟩ := e'; exact hc'
          have hBA := hB1.trans (hB5.mono hB1.size)
          clear hownA hown5 hown' hg5 hgrow hB3 hB5 hB hc hcv
          go_loopw [15, 86] (fun zv i w6 => ∃ (m z : Nat), i = .int .i64 m ∧ zv = .int .i64 z ∧ m ≤ A.length ∧ z ≤ 1 + 64 * m ∧ Hid (z = 1 + (chunks (A.take m)).size) ∧ Below wA.heap.size wA w6) (fun _ i _ => A.length - (intOf i).toNat)
          case atStart => exact ⟨0, 1, rfl, rfl, Nat.zero_le _, by omega, rfl, Below.refl _ _⟩
          case round =>
            obtain ⟨m, z, rfl, rfl, hm, hz, HZ, hB6⟩ := hrel
            by_cases hmlt : m < A.length
            · obtain ⟨g, off, rfl, hg, hcell0⟩ := hsA m hmlt
              have hcell := (hB6.cell (p := ⟨g, off + m, none⟩) hg).trans hcell0
              have hx63 := (HOA.out _ (List.getElem_mem hmlt)).2
              have HZ2 : Hid (z + (1 + A[m].size) = 1 + (chunks (A.take (m + 1))).size) := by
                have := HZ.out; unfold Hid; rw [chunks_take_size hmlt]; omega
              generalize A[m] = X at *
              clear hcell0
              go_wp2
              go_roundw
              case rel => exact ⟨m + 1, z + (1 + X.size), by go_num, by go_num, hmlt, by omega, HZ2, hB6⟩
              case measure => simp [intOf]; omega
            · have HT : Hid (A.take m = A) := List.take_of_length_le (by omega)
              rw [HT.out] at HZ
              have hps := putB_size A
              by_cases h255 : (putB A).size ≤ 255
              · have HR : Hid (readB t o = (putB A, 0, 0)) := HFIN.out.2 h255
                have hz255 : z ≤ 255 := by have := HZ.out; omega
                have hst : Strs wr (.slice pA A.length cA) A := (hsA.below hB6).strs cA
                have HM : Hid (∀ x ∈ A, x.size ≤ 255) := fun x hx => by have := HOA.out x hx; omega
                have HPZ : Hid ((putB A).size ≤ 4294967296) := by unfold Hid; omega
                clear hps h255
                go_wp2_with (go_at_call 21; refine (put_any _ A _ hst HM.out HPZ.out).mono ?_; rintro e w7 ⟨rfl, hB7⟩)
                go_ret3
                exact ⟨by rw [HR.out]; rfl, hBA.trans ((bstep hB6 hB7 hB6.size).mono hBA.size)⟩
              · have HR : Hid (readB t o = (ByteArray.empty, 0, 4)) := HFIN.out.1 (by omega)
                have hz255 : 255 < z := by have := HZ.out; omega
                clear hps h255
                go_wp2
                go_ret3
                exact ⟨by rw [HR.out]; rfl, hBA.trans (hB6.mono hBA.size)⟩
end Go.Proofs.YtkamjcpcdkejmaaDoor
