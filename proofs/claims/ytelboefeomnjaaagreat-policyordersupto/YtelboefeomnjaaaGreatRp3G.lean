import Derived.Test.YtelboefeomnjaaaGreatRz1G
import Derived.Test.YtelboefeomnjaaaGreatBw1G
import Derived.Test.YtelboefeomnjaaaGreatSf8G
namespace Go.Proofs.YtelboefeomnjaaaGreat
set_option linter.unusedVariables false
open Go.RowKit Go.Shelf Go.Proofs.YtelboefeomnjaaaGreat.Nm

theorem partsD_kinds {t : Int} {d : ByteArray} {ps : List (Kind × ByteArray)} (h : partsD t d = some ps) : ∃ ks, kindsOf t = some ks ∧ partsOf ks d = some ps ∧ d.size ≤ 65535 := by
  have hd := (parts_few h).2
  unfold partsD at h
  cases hk : kindsOf t with
  | none => rw [hk] at h; cases h
  | some ks =>
    rw [hk] at h
    change (if _ then _ else _) = _ at h
    split at h
    · cases h
    · exact ⟨ks, rfl, h, hd⟩
theorem letter_dom (k : Kind) (h : okK k) : (letter k).toNat = 110 ↔ k = .dom := by
  rcases kind_cases k with rfl | rfl | rfl | rfl | rfl | rfl | rfl | rfl | rfl | rfl | rfl | rfl | rfl | ⟨n, rfl⟩ <;> first | (exact h.elim; done) | decide | (rcases h with rfl | rfl | rfl <;> decide)
theorem byteC_get (ps : List (Kind × ByteArray)) (i : Nat) (h : i < ps.length) : (byteC ps)[i]? = some (.string ps[i].2) := by simp [byteC, h]

end Go.Proofs.YtelboefeomnjaaaGreat

namespace Go.Proofs.YtelboefeomnjaaaGreat
set_option linter.unusedVariables false
open Go.RowKit Go.Shelf Go.Proofs.YtelboefeomnjaaaGreat.Nm

theorem ba_cat (l : List UInt8) (F : ByteArray) : (⟨l.toArray⟩ : ByteArray) ++ F = ⟨(l ++ F.data.toList).toArray⟩ := by apply ByteArray.ext; simp
theorem foldL_len : ∀ (ps : List (Kind × ByteArray)), (∀ q ∈ ps, q.2.size ≤ 65535) → (foldL ps).length ≤ ps.length * 65535
  | [], _ => by simp [foldL]
  | q :: ps, h => by
    have h1 := foldL_len ps (fun x hx => h x (List.mem_cons_of_mem _ hx))
    have h2 := h q (List.mem_cons_self ..)
    have h3 := foldP_size q
    have e : (foldL (q :: ps)).length = (foldP q).size + (foldL ps).length := by simp [foldL]
    rw [e, List.length_cons]; omega

set_option maxRecDepth 100000 in
set_option maxHeartbeats 1000000 in
/-- gazetteerref1.FoldData -/
theorem refFoldData_any (t : Int) (d : ByteArray) (w : World) (hd : d.size ≤ 9223372036854775807) :
    Calls Tryz.prog 59 #[.int .i64 t, .string d] w fun e w' => e = .returned (.string (foldD t d)) ∧ Below w.heap.size w w' := by
  have HC := hide' (fun w => refCheckData_any t d w hd)
  have HF := hide' (fun w => form_any t w)
  cases hp : partsD t d with
  | none =>
    have HN : Hid (foldD t d = ⟨#[]⟩) := by unfold Hid foldD; rw [hp]
    have he := errD_of_none hp
    clear hp
    rcases he with he | he
    all_goals
      rw [he] at HC
      clear he
      go_enter Tryz.func59, Tryz.ntmps59
      go_wp2_with (first
        | (go_at_call 70; refine (HC.out w).mono ?_; rintro e w1 ⟨rfl, hB1⟩)
        | (go_at_call 70; refine (HC.out _).mono ?_; rintro e w2 ⟨rfl, hB2⟩))
      go_ret
      exact ⟨by rw [HN.out]; rfl, bstep hB1 hB2 hB1.size⟩
  | some ps =>
    have HN : Hid (foldD t d = ⟨(foldL ps).toArray⟩) := by unfold Hid foldD; rw [hp]
    obtain ⟨hps, hds⟩ := parts_few hp
    have HS := hide' (partsD_small hp)
    obtain ⟨ks, hk, hq, _⟩ := partsD_kinds hp
    rw [errD_of_parts hp] at HC
    have hf := formB_kinds hk
    rw [hf] at HF
    rcases kinds_ok hk with rfl | ⟨hok, hl1⟩
    · have hq2 := parts_unknown d
      rw [hq] at hq2
      injection hq2 with hq2
      have HN2 : Hid (foldD t d = d) := by unfold Hid; rw [HN.out, hq2]; apply ByteArray.ext; simp [foldL, foldP]; rw [if_neg (by decide)]
      have hf2 : formK [.unknown] = ⟨#[45]⟩ := rfl
      rw [hf2] at HF
      clear hf hk hp hq hq2 HN hf2
      go_enter Tryz.func59, Tryz.ntmps59
      go_wp2_with (first
        | (go_at_call 70; refine (HC.out w).mono ?_; rintro e w1 ⟨rfl, hB1⟩)
        | (go_at_call 70; refine (HC.out _).mono ?_; rintro e w2 ⟨rfl, hB2⟩)
        | (go_at_call 34; refine (HF.out _).mono ?_; rintro e wf ⟨rfl, rfl⟩))
      go_ret
      exact ⟨by rw [HN2.out]; rfl, bstep hB1 hB2 hB1.size⟩
    · have hdash := form_dash hok hl1
      have HP := hide' (fun w => refParts_any ks d w hds (kinds_few hk) hok)
      have hfs := formK_size ks
      have hkp := parts_kinds ks d ps hq
      have hkl : ks.length = ps.length := by rw [← hkp, List.length_map]
      have HFA : Hid (∀ i, (h : i < ps.length) → (bt (formK ks) i = 110 ↔ ps[i].1 = .dom)) := fun i h => by
        have h2 : i < ks.length := by omega
        have e : ks[i] = ps[i].1 := by simp only [← hkp, List.getElem_map]
        rw [formK_at ks i h2, letter_dom _ (hok _ (List.getElem_mem h2)), e]
      rw [hkl] at hfs
      rw [hq] at HP
      obtain ⟨F, hF⟩ : ∃ F, formK ks = F := ⟨_, rfl⟩
      rw [hF] at HF hdash HP hfs HFA
      clear hf hk hp hq hok hl1 hkp hkl hF
      go_enter Tryz.func59, Tryz.ntmps59
      go_wp2_with (first
        | (go_at_call 70; refine (HC.out w).mono ?_; rintro e w1 ⟨rfl, hB1⟩)
        | (go_at_call 34; refine (HF.out _).mono ?_; rintro e wf ⟨rfl, rfl⟩)
        | (go_at_call 33; refine (HP.out _).mono ?_; rintro e w2 ⟨⟨p, c, rfl, hown⟩, hB2⟩))
      have hBw2 : Below w.heap.size w w2 := bstep hB1 hB2 hB1.size
      go_loopw [8, 34] (fun sv iv wr => ∃ i : Nat, iv = .int .i64 i ∧ i ≤ ps.length ∧ sv = .string ⟨(foldL (ps.take i)).toArray⟩ ∧ Below w2.heap.size w2 wr) (fun _ iv _ => ps.length - (intOf iv).toNat)
      case atStart => exact ⟨0, rfl, Nat.zero_le _, rfl, Below.refl _ _⟩
      case round =>
        obtain ⟨i, rfl, hi2, rfl, hBr⟩ := hrel
        by_cases hlt : i < ps.length
        · obtain ⟨g, rfl, hg2⟩ : ∃ g, p = some ⟨g, 0, none⟩ ∧ g < w2.heap.size := by
            obtain ⟨_, (⟨h1, h2⟩ | ⟨g, cap, cur, h1, hb, hg, hn, hcap, _⟩)⟩ := hown
            · omega
            · injection h1 with h1; exact ⟨g, h1, (Array.getElem?_eq_some_iff.1 hg).1⟩
          have hc1 : wr.cell? ⟨g, i, none⟩ = some (.string ps[i].2) := by
            rw [hBr.cell hg2, hown.cellAt i (by omega)]; exact byteC_get ps i hlt
          have hfl := foldL_len (ps.take i) (fun q hq => HS.out q (List.mem_of_mem_take hq))
          rw [List.length_take] at hfl
          have HTK : Hid (foldL (ps.take (i + 1)) = foldL (ps.take i) ++ (foldP ps[i]).data.toList) := by
            unfold Hid; rw [List.take_succ_eq_append_getElem hlt, foldL_snoc]
          have hqs := HS.out ps[i] (List.getElem_mem hlt)
          have hqf := foldP_size ps[i]
          have hfa := HFA.out i hlt
          generalize ps[i] = q at *
          obtain ⟨k, b⟩ := q
          simp only at hc1 HTK hfa hqs hqf
          obtain ⟨y, hy, HY, hyl⟩ := bt_wrap (s := F) (i := i) (by omega)
          rw [HY] at hfa
          have hlt2 : i < F.size := by omega
          obtain ⟨L, hL⟩ : ∃ L, foldL (ps.take i) = L := ⟨_, rfl⟩
          obtain ⟨G, hG⟩ : ∃ G, foldP (k, b) = G := ⟨_, rfl⟩
          have hLs : (⟨L.toArray⟩ : ByteArray).size = L.length := by simp [ByteArray.size]
          rw [hL] at hfl HTK ⊢
          rw [hG] at HTK hqf
          have hss : (⟨L.toArray⟩ : ByteArray).size + G.size ≤ 4294967296 := by
            have : L.length ≤ 9 * 65535 := Nat.le_trans hfl (Nat.mul_le_mul_right _ (by omega))
            omega
          have had : ∀ W : World, (Op.stringOp .add ⟨L.toArray⟩ G).run Tryz.prog W = .ok (.string ⟨(foldL (ps.take (i + 1))).toArray⟩) W := fun W => by
            rw [HTK.out, ← ba_cat]; exact run_string_add_sum W _ _ (by omega)
          clear hL HY hfl hLs hss hqf HTK
          by_cases hkd : k = .dom
          · obtain rfl := hfa.2 hkd
            have HG : Hid (foldB b = G) := by unfold Hid; rw [← hG]; unfold foldP; rw [if_pos hkd]
            have HFO := hide' (fun w => foldName_any b w (by omega))
            rw [HG.out] at HFO
            clear hkd hfa hG HG
            go_wp2_with (go_at_call 71; refine (HFO.out _).mono ?_; rintro e w3 ⟨rfl, hB3⟩)
            exact ⟨⟨i + 1, by go_num, hlt, rfl, bstep hBr hB3 hBr.size⟩, by simp [intOf]; omega⟩
          · have hGb : b = G := by rw [← hG]; unfold foldP; rw [if_neg hkd]
            subst hGb
            have hy0 : ((y : Int) == 110) = false := by
              rw [beq_eq_false_iff_ne]; intro e; exact hkd (hfa.1 (by omega))
            clear hkd hfa hG
            go_wp2
            exact ⟨⟨i + 1, by go_num, hlt, rfl, hBr⟩, by simp [intOf]; omega⟩
        · obtain rfl : i = ps.length := by omega
          rw [List.take_length]
          go_wp2
          go_ret
          exact ⟨by rw [HN.out]; rfl, bstep hBw2 hBr hBw2.size⟩
end Go.Proofs.YtelboefeomnjaaaGreat

/-
  gazetteerref4.Zonal. (The verifier's own text.)
-/
namespace Go.Proofs.YtelboefeomnjaaaGreat
set_option linter.unusedVariables false
set_option linter.unusedSimpArgs false
open Go.RowKit Go.Shelf Go.Proofs.YtelboefeomnjaaaGreat.Nm

set_option maxRecDepth 100000 in
set_option maxHeartbeats 2000000 in
/-- gazetteerref4.Zonal -/
theorem zonal_any (o d : ByteArray) (t c l : Int) (w : World) (ho : o.size ≤ 1048576) (hd : d.size ≤ 9223372036854775807) :
    Calls Tryz.prog 57 #[.agg #[.string o, .int .i64 t, .int .i64 c, .int .i64 l, .string d]] w fun r w' => r = .returned (.bool (zonB o d t c l)) ∧ Below w.heap.size w w' := by
  obtain ⟨W, hW⟩ : ∃ W, w.alloc (.cells #[.string o, .int .i64 t, .int .i64 c, .int .i64 l, .string d] 42) = W := ⟨_, rfl⟩
  have HB : Hid (Below w.heap.size w W) := by rw [← hW]; exact (Below.refl _ _).alloc (Nat.le_refl _) _
  have h0 : Bx (w.alloc (.cells #[.string o, .int .i64 t, .int .i64 c, .int .i64 l, .string d] 42)) w.heap.size #[.string o, .int .i64 t, .int .i64 c, .int .i64 l, .string d] 42 := World.alloc_heap_new w _
  rw [hW] at h0
  have HH := hide' h0
  have QF : Hid (∀ V : World, Bx V w.heap.size #[.string o, .int .i64 t, .int .i64 c, .int .i64 l, .string d] 42 → V.cell? ⟨w.heap.size, 0, none⟩ = some (.string o) ∧ V.cell? ⟨w.heap.size, 1, none⟩ = some (.int .i64 t) ∧ V.cell? ⟨w.heap.size, 2, none⟩ = some (.int .i64 c) ∧ V.cell? ⟨w.heap.size, 3, none⟩ = some (.int .i64 l) ∧ V.cell? ⟨w.heap.size, 4, none⟩ = some (.string d)) := fun V h => ⟨h.cell rfl, h.cell rfl, h.cell rfl, h.cell rfl, h.cell rfl⟩
  obtain ⟨k0, k1, k2, k3, k4⟩ := QF.out W h0
  clear h0
  obtain ⟨ee, hee⟩ : ∃ ee, errD t d = ee := ⟨_, rfl⟩
  have HE := hide' hee
  cases hN : isN o with
  | false =>
    have HV : Hid (zonB o d t c l = false) := by unfold Hid zonB; rw [hN]; rfl
    have HN := hide' hN
    rw [HV.out]
    go_enter Tryz.func57, Tryz.ntmps57
    go_wp2_with (first
      | (go_at_call 60; refine (refIsName_any o _ ho).mono ?_; rw [HN.out]; rintro r w1 ⟨rfl, hB1⟩; have HH1 := hide' (HH.out.below hB1 HH.out.lt); have HB1 := hide' (bstep HB.out hB1 HB.out.size); obtain ⟨j0, j1, j2, j3, j4⟩ := QF.out w1 HH1.out; clear hB1)
      | (go_at_call 70; refine (refCheckData_any t d _ hd).mono ?_; rw [HE.out]; rintro r w2 ⟨rfl, hB2⟩; have HB2 := hide' (bstep HB1.out hB2 HB1.out.size); clear hB2))
    go_ret
    exact ⟨rfl, by first | exact HB2.out | exact HB1.out⟩
  | true =>
    have HN := hide' hN
    by_cases hc : c = 1
    · by_cases hl0 : 0 ≤ l
      · by_cases hl1 : l ≤ 2147483647
        · by_cases h0 : ee = 0
          · have HV : Hid (zonB o d t c l = true) := by unfold Hid zonB; rw [hN, decide_eq_true hc, decide_eq_true hl0, decide_eq_true hl1, decide_eq_true (hee.trans h0)]; rfl
            subst h0
            subst hc
            clear hN hee
            rw [HV.out]
            go_enter Tryz.func57, Tryz.ntmps57
            go_wp2_with (first
              | (go_at_call 60; refine (refIsName_any o _ ho).mono ?_; rw [HN.out]; rintro r w1 ⟨rfl, hB1⟩; have HH1 := hide' (HH.out.below hB1 HH.out.lt); have HB1 := hide' (bstep HB.out hB1 HB.out.size); obtain ⟨j0, j1, j2, j3, j4⟩ := QF.out w1 HH1.out; clear hB1)
              | (go_at_call 70; refine (refCheckData_any t d _ hd).mono ?_; rw [HE.out]; rintro r w2 ⟨rfl, hB2⟩; have HB2 := hide' (bstep HB1.out hB2 HB1.out.size); clear hB2))
            go_ret
            exact ⟨rfl, by first | exact HB2.out | exact HB1.out⟩
          · have HV : Hid (zonB o d t c l = false) := by unfold Hid zonB; rw [decide_eq_false (fun h => h0 (hee.symm.trans h))]; simp
            have hb : ((ee : Int) == 0) = false := by rw [beq_eq_false_iff_ne]; omega
            have hb2 : ¬ (ee : Int) = 0 := by omega
            subst hc
            clear hN hee h0
            rw [HV.out]
            go_enter Tryz.func57, Tryz.ntmps57
            go_wp2_with (first
              | (go_at_call 60; refine (refIsName_any o _ ho).mono ?_; rw [HN.out]; rintro r w1 ⟨rfl, hB1⟩; have HH1 := hide' (HH.out.below hB1 HH.out.lt); have HB1 := hide' (bstep HB.out hB1 HB.out.size); obtain ⟨j0, j1, j2, j3, j4⟩ := QF.out w1 HH1.out; clear hB1)
              | (go_at_call 70; refine (refCheckData_any t d _ hd).mono ?_; rw [HE.out]; rintro r w2 ⟨rfl, hB2⟩; have HB2 := hide' (bstep HB1.out hB2 HB1.out.size); clear hB2))
            go_ret
            exact ⟨rfl, by first | exact HB2.out | exact HB1.out⟩
        · have HV : Hid (zonB o d t c l = false) := by unfold Hid zonB; rw [decide_eq_false hl1]; simp
          subst hc
          clear hN hee
          rw [HV.out]
          go_enter Tryz.func57, Tryz.ntmps57
          go_wp2_with (first
            | (go_at_call 60; refine (refIsName_any o _ ho).mono ?_; rw [HN.out]; rintro r w1 ⟨rfl, hB1⟩; have HH1 := hide' (HH.out.below hB1 HH.out.lt); have HB1 := hide' (bstep HB.out hB1 HB.out.size); obtain ⟨j0, j1, j2, j3, j4⟩ := QF.out w1 HH1.out; clear hB1)
            | (go_at_call 70; refine (refCheckData_any t d _ hd).mono ?_; rw [HE.out]; rintro r w2 ⟨rfl, hB2⟩; have HB2 := hide' (bstep HB1.out hB2 HB1.out.size); clear hB2))
          go_ret
          exact ⟨rfl, by first | exact HB2.out | exact HB1.out⟩
      · have HV : Hid (zonB o d t c l = false) := by unfold Hid zonB; rw [decide_eq_false hl0]; simp
        subst hc
        clear hN hee
        rw [HV.out]
        go_enter Tryz.func57, Tryz.ntmps57
        go_wp2_with (first
          | (go_at_call 60; refine (refIsName_any o _ ho).mono ?_; rw [HN.out]; rintro r w1 ⟨rfl, hB1⟩; have HH1 := hide' (HH.out.below hB1 HH.out.lt); have HB1 := hide' (bstep HB.out hB1 HB.out.size); obtain ⟨j0, j1, j2, j3, j4⟩ := QF.out w1 HH1.out; clear hB1)
          | (go_at_call 70; refine (refCheckData_any t d _ hd).mono ?_; rw [HE.out]; rintro r w2 ⟨rfl, hB2⟩; have HB2 := hide' (bstep HB1.out hB2 HB1.out.size); clear hB2))
        go_ret
        exact ⟨rfl, by first | exact HB2.out | exact HB1.out⟩
    · have HV : Hid (zonB o d t c l = false) := by unfold Hid zonB; rw [decide_eq_false hc]; simp
      have hb : (c == 1) = false := by rw [beq_eq_false_iff_ne]; exact hc
      clear hN hee
      rw [HV.out]
      go_enter Tryz.func57, Tryz.ntmps57
      go_wp2_with (first
        | (go_at_call 60; refine (refIsName_any o _ ho).mono ?_; rw [HN.out]; rintro r w1 ⟨rfl, hB1⟩; have HH1 := hide' (HH.out.below hB1 HH.out.lt); have HB1 := hide' (bstep HB.out hB1 HB.out.size); obtain ⟨j0, j1, j2, j3, j4⟩ := QF.out w1 HH1.out; clear hB1)
        | (go_at_call 70; refine (refCheckData_any t d _ hd).mono ?_; rw [HE.out]; rintro r w2 ⟨rfl, hB2⟩; have HB2 := hide' (bstep HB1.out hB2 HB1.out.size); clear hB2))
      go_ret
      exact ⟨rfl, by first | exact HB2.out | exact HB1.out⟩
end Go.Proofs.YtelboefeomnjaaaGreat
