import Derived.Test.YtennkhdhnbdbeaaGreatRz1G
import Derived.Test.YtennkhdhnbdbeaaGreatBw1G
namespace Go.Proofs.YtennkhdhnbdbeaaGreat
set_option linter.unusedVariables false
open Go.RowKit Go.Shelf Go.Proofs.YtennkhdhnbdbeaaGreat.Nm

theorem partsD_kinds {t : Int} {d : ByteArray} {ps : List (Kind × ByteArray)} (h : partsD t d = some ps) : ∃ ks, kindsOf t = some ks ∧ partsOf ks d = some ps ∧ d.size ≤ 65535 := by
  have hd := (parts_few h).2
  unfold partsD at h
  cases hk : kindsOf t with
  | none => rw [hk] at h; cases h
  | some ks =>
    rw [hk] at h
    change (if _ then _ else _) = _ at h
    split at h
    · cases h
    · exact ⟨ks, rfl, h, hd⟩
theorem letter_dom (k : Kind) (h : okK k) : (letter k).toNat = 110 ↔ k = .dom := by
  rcases kind_cases k with rfl | rfl | rfl | rfl | rfl | rfl | rfl | rfl | rfl | rfl | rfl | rfl | rfl | ⟨n, rfl⟩ <;> first | (exact h.elim; done) | decide | (rcases h with rfl | rfl | rfl <;> decide)
theorem byteC_get (ps : List (Kind × ByteArray)) (i : Nat) (h : i < ps.length) : (byteC ps)[i]? = some (.string ps[i].2) := by simp [byteC, h]

end Go.Proofs.YtennkhdhnbdbeaaGreat

namespace Go.Proofs.YtennkhdhnbdbeaaGreat
set_option linter.unusedVariables false
open Go.RowKit Go.Shelf Go.Proofs.YtennkhdhnbdbeaaGreat.Nm

theorem ba_cat (l : List UInt8) (F : ByteArray) : (⟨l.toArray⟩ : ByteArray) ++ F = ⟨(l ++ F.data.toList).toArray⟩ := by apply ByteArray.ext; simp
theorem foldL_len : ∀ (ps : List (Kind × ByteArray)), (∀ q ∈ ps, q.2.size ≤ 65535) → (foldL ps).length ≤ ps.length * 65535
  | [], _ => by simp [foldL]
  | q :: ps, h => by
    have h1 := foldL_len ps (fun x hx => h x (List.mem_cons_of_mem _ hx))
    have h2 := h q (List.mem_cons_self ..)
    have h3 := foldP_size q
    have e : (foldL (q :: ps)).length = (foldP q).size + (foldL ps).length := by simp [foldL]
    rw [e, List.length_cons]; omega

set_option maxRecDepth 100000 in
set_option maxHeartbeats 1000000 in
/-- gazetteerref1.FoldData -/
theorem refFoldData_any (t : Int) (d : ByteArray) (w : World) (hd : d.size ≤ 9223372036854775807) :
    Calls Tryz.prog 77 #[.int .i64 t, .string d] w fun e w' => e = .returned (.string (foldD t d)) ∧ Below w.heap.size w w' := by
  have HC := hide' (fun w => refCheckData_any t d w hd)
  have HF := hide' (fun w => form_any t w)
  cases hp : partsD t d with
  | none =>
    have HN : Hid (foldD t d = ⟨#[]⟩) := by unfold Hid foldD; rw [hp]
    have he := errD_of_none hp
    clear hp
    rcases he with he | he
    all_goals
      rw [he] at HC
      clear he
      go_enter Tryz.func77, Tryz.ntmps77
      go_wp2_with (first
        | (go_at_call 89; refine (HC.out w).mono ?_; rintro e w1 ⟨rfl, hB1⟩)
        | (go_at_call 89; refine (HC.out _).mono ?_; rintro e w2 ⟨rfl, hB2⟩))
      go_ret
      exact ⟨by rw [HN.out]; rfl, bstep hB1 hB2 hB1.size⟩
  | some ps =>
    have HN : Hid (foldD t d = ⟨(foldL ps).toArray⟩) := by unfold Hid foldD; rw [hp]
    obtain ⟨hps, hds⟩ := parts_few hp
    have HS := hide' (partsD_small hp)
    obtain ⟨ks, hk, hq, _⟩ := partsD_kinds hp
    rw [errD_of_parts hp] at HC
    have hf := formB_kinds hk
    rw [hf] at HF
    rcases kinds_ok hk with rfl | ⟨hok, hl1⟩
    · have hq2 := parts_unknown d
      rw [hq] at hq2
      injection hq2 with hq2
      have HN2 : Hid (foldD t d = d) := by unfold Hid; rw [HN.out, hq2]; apply ByteArray.ext; simp [foldL, foldP]; rw [if_neg (by decide)]
      have hf2 : formK [.unknown] = ⟨#[45]⟩ := rfl
      rw [hf2] at HF
      clear hf hk hp hq hq2 HN hf2
      go_enter Tryz.func77, Tryz.ntmps77
      go_wp2_with (first
        | (go_at_call 89; refine (HC.out w).mono ?_; rintro e w1 ⟨rfl, hB1⟩)
        | (go_at_call 89; refine (HC.out _).mono ?_; rintro e w2 ⟨rfl, hB2⟩)
        | (go_at_call 53; refine (HF.out _).mono ?_; rintro e wf ⟨rfl, rfl⟩))
      go_ret
      exact ⟨by rw [HN2.out]; rfl, bstep hB1 hB2 hB1.size⟩
    · have hdash := form_dash hok hl1
      have HP := hide' (fun w => refParts_any ks d w hds (kinds_few hk) hok)
      have hfs := formK_size ks
      have hkp := parts_kinds ks d ps hq
      have hkl : ks.length = ps.length := by rw [← hkp, List.length_map]
      have HFA : Hid (∀ i, (h : i < ps.length) → (bt (formK ks) i = 110 ↔ ps[i].1 = .dom)) := fun i h => by
        have h2 : i < ks.length := by omega
        have e : ks[i] = ps[i].1 := by simp only [← hkp, List.getElem_map]
        rw [formK_at ks i h2, letter_dom _ (hok _ (List.getElem_mem h2)), e]
      rw [hkl] at hfs
      rw [hq] at HP
      obtain ⟨F, hF⟩ : ∃ F, formK ks = F := ⟨_, rfl⟩
      rw [hF] at HF hdash HP hfs HFA
      clear hf hk hp hq hok hl1 hkp hkl hF
      go_enter Tryz.func77, Tryz.ntmps77
      go_wp2_with (first
        | (go_at_call 89; refine (HC.out w).mono ?_; rintro e w1 ⟨rfl, hB1⟩)
        | (go_at_call 53; refine (HF.out _).mono ?_; rintro e wf ⟨rfl, rfl⟩)
        | (go_at_call 52; refine (HP.out _).mono ?_; rintro e w2 ⟨⟨p, c, rfl, hown⟩, hB2⟩))
      have hBw2 : Below w.heap.size w w2 := bstep hB1 hB2 hB1.size
      go_loopw [8, 34] (fun sv iv wr => ∃ i : Nat, iv = .int .i64 i ∧ i ≤ ps.length ∧ sv = .string ⟨(foldL (ps.take i)).toArray⟩ ∧ Below w2.heap.size w2 wr) (fun _ iv _ => ps.length - (intOf iv).toNat)
      case atStart => exact ⟨0, rfl, Nat.zero_le _, rfl, Below.refl _ _⟩
      case round =>
        obtain ⟨i, rfl, hi2, rfl, hBr⟩ := hrel
        by_cases hlt : i < ps.length
        · obtain ⟨g, rfl, hg2⟩ : ∃ g, p = some ⟨g, 0, none⟩ ∧ g < w2.heap.size := by
            obtain ⟨_, (⟨h1, h2⟩ | ⟨g, cap, cur, h1, hb, hg, hn, hcap, _⟩)⟩ := hown
            · omega
            · injection h1 with h1; exact ⟨g, h1, (Array.getElem?_eq_some_iff.1 hg).1⟩
          have hc1 : wr.cell? ⟨g, i, none⟩ = some (.string ps[i].2) := by
            rw [hBr.cell hg2, hown.cellAt i (by omega)]; exact byteC_get ps i hlt
          have hfl := foldL_len (ps.take i) (fun q hq => HS.out q (List.mem_of_mem_take hq))
          rw [List.length_take] at hfl
          have HTK : Hid (foldL (ps.take (i + 1)) = foldL (ps.take i) ++ (foldP ps[i]).data.toList) := by
            unfold Hid; rw [List.take_succ_eq_append_getElem hlt, foldL_snoc]
          have hqs := HS.out ps[i] (List.getElem_mem hlt)
          have hqf := foldP_size ps[i]
          have hfa := HFA.out i hlt
          generalize ps[i] = q at *
          obtain ⟨k, b⟩ := q
          simp only at hc1 HTK hfa hqs hqf
          obtain ⟨y, hy, HY, hyl⟩ := bt_wrap (s := F) (i := i) (by omega)
          rw [HY] at hfa
          have hlt2 : i < F.size := by omega
          obtain ⟨L, hL⟩ : ∃ L, foldL (ps.take i) = L := ⟨_, rfl⟩
          obtain ⟨G, hG⟩ : ∃ G, foldP (k, b) = G := ⟨_, rfl⟩
          have hLs : (⟨L.toArray⟩ : ByteArray).size = L.length := by simp [ByteArray.size]
          rw [hL] at hfl HTK ⊢
          rw [hG] at HTK hqf
          have hss : (⟨L.toArray⟩ : ByteArray).size + G.size ≤ 4294967296 := by
            have : L.length ≤ 9 * 65535 := Nat.le_trans hfl (Nat.mul_le_mul_right _ (by omega))
            omega
          have had : ∀ W : World, (Op.stringOp .add ⟨L.toArray⟩ G).run Tryz.prog W = .ok (.string ⟨(foldL (ps.take (i + 1))).toArray⟩) W := fun W => by
            rw [HTK.out, ← ba_cat]; exact run_string_add_sum W _ _ (by omega)
          clear hL HY hfl hLs hss hqf HTK
          by_cases hkd : k = .dom
          · obtain rfl := hfa.2 hkd
            have HG : Hid (foldB b = G) := by unfold Hid; rw [← hG]; unfold foldP; rw [if_pos hkd]
            have HFO := hide' (fun w => foldName_any b w (by omega))
            rw [HG.out] at HFO
            clear hkd hfa hG HG
            go_wp2_with (go_at_call 41; refine (HFO.out _).mono ?_; rintro e w3 ⟨rfl, hB3⟩)
            exact ⟨⟨i + 1, by go_num, hlt, rfl, bstep hBr hB3 hBr.size⟩, by simp [intOf]; omega⟩
          · have hGb : b = G := by rw [← hG]; unfold foldP; rw [if_neg hkd]
            subst hGb
            have hy0 : ((y : Int) == 110) = false := by
              rw [beq_eq_false_iff_ne]; intro e; exact hkd (hfa.1 (by omega))
            clear hkd hfa hG
            go_wp2
            exact ⟨⟨i + 1, by go_num, hlt, rfl, hBr⟩, by simp [intOf]; omega⟩
        · obtain rfl : i = ps.length := by omega
          rw [List.take_length]
          go_wp2
          go_ret
          exact ⟨by rw [HN.out]; rfl, bstep hBw2 hBr hBw2.size⟩
end Go.Proofs.YtennkhdhnbdbeaaGreat
