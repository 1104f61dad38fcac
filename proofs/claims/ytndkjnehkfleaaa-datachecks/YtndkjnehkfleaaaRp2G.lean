import Derived.Test.YtndkjnehkfleaaaRz1G
import Derived.Test.YtndkjnehkfleaaaCk1G
import Derived.Test.YtndkjnehkfleaaaFd1
namespace Go.Proofs.Ytndkjnehkfleaaa
set_option linter.unusedVariables false
open Go.RowKit Go.Shelf Go.Proofs.Ytndkjnehkfleaaa.Nm

theorem kinds_ok {t : Int} {ks : List Kind} (h : kindsOf t = some ks) : ks = [.unknown] ∨ ((∀ k ∈ ks, okK k) ∧ 1 ≤ ks.length) := by
  unfold kindsOf at h
  by_cases hc : t = 1
  · rw [if_pos hc] at h; cases h; right; simp [okK]
  rw [if_neg hc] at h; clear hc
  by_cases hc : t = 2 ∨ t = 5 ∨ t = 12 ∨ t = 39
  · rw [if_pos hc] at h; cases h; right; simp [okK]
  rw [if_neg hc] at h; clear hc
  by_cases hc : t = 6
  · rw [if_pos hc] at h; cases h; right; simp [okK]
  rw [if_neg hc] at h; clear hc
  by_cases hc : t = 13
  · rw [if_pos hc] at h; cases h; right; simp [okK]
  rw [if_neg hc] at h; clear hc
  by_cases hc : t = 15
  · rw [if_pos hc] at h; cases h; right; simp [okK]
  rw [if_neg hc] at h; clear hc
  by_cases hc : t = 16
  · rw [if_pos hc] at h; cases h; right; simp [okK]
  rw [if_neg hc] at h; clear hc
  by_cases hc : t = 28
  · rw [if_pos hc] at h; cases h; right; simp [okK]
  rw [if_neg hc] at h; clear hc
  by_cases hc : t = 33
  · rw [if_pos hc] at h; cases h; right; simp [okK]
  rw [if_neg hc] at h; clear hc
  by_cases hc : t = 35
  · rw [if_pos hc] at h; cases h; right; simp [okK]
  rw [if_neg hc] at h; clear hc
  by_cases hc : t = 43
  · rw [if_pos hc] at h; cases h; right; simp [okK]
  rw [if_neg hc] at h; clear hc
  by_cases hc : t = 46
  · rw [if_pos hc] at h; cases h; right; simp [okK]
  rw [if_neg hc] at h; clear hc
  by_cases hc : t = 47
  · rw [if_pos hc] at h; cases h; right; simp [okK]
  rw [if_neg hc] at h; clear hc
  by_cases hc : t = 48
  · rw [if_pos hc] at h; cases h; right; simp [okK]
  rw [if_neg hc] at h; clear hc
  by_cases hc : t = 50
  · rw [if_pos hc] at h; cases h; right; simp [okK]
  rw [if_neg hc] at h; clear hc
  by_cases hc : t = 51
  · rw [if_pos hc] at h; cases h; right; simp [okK]
  rw [if_neg hc] at h; clear hc
  by_cases hc : t = 257
  · rw [if_pos hc] at h; cases h; right; simp [okK]
  rw [if_neg hc] at h; clear hc
  by_cases hc : isDT t = true
  · rw [if_pos hc] at h; cases h; left; rfl
  rw [if_neg hc] at h; clear hc
  cases h
theorem formB_kinds {t : Int} {ks : List Kind} (h : kindsOf t = some ks) : formB t = formK ks := by unfold formB; rw [h]; rfl
theorem form_dash {ks : List Kind} (h : ∀ k ∈ ks, okK k) (hl : 1 ≤ ks.length) : ((formK ks).toList == [45]) = false := by
  rw [beq_eq_false_iff_ne]
  intro e
  have e2 : (formK ks).toList = ks.map letter := by rw [toList_eq]; simp [formK]
  rw [e2] at e
  cases ks with
  | nil => cases e
  | cons k ks =>
    simp at e
    have h1 := h k (List.mem_cons_self ..)
    have h2 := e.1
    rcases kind_cases k with rfl | rfl | rfl | rfl | rfl | rfl | rfl | rfl | rfl | rfl | rfl | rfl | rfl | ⟨n, rfl⟩ <;> first | (exact h1.elim; done) | (simp [letter] at h2; done) | skip
    rcases h1 with rfl | rfl | rfl <;> simp [letter] at h2
theorem parts_kinds : ∀ (ks : List Kind) (d : ByteArray) (ps : List (Kind × ByteArray)), partsOf ks d = some ps → ps.map (·.1) = ks
  | [], d, ps, h => by unfold partsOf at h; split at h <;> simp at h; subst h; rfl
  | k :: ks, d, ps, h => by
    unfold partsOf at h
    cases hs : kindSize k d with
    | none => rw [hs] at h; cases h
    | some n =>
      rw [hs] at h
      simp only [Option.map_eq_some_iff] at h
      obtain ⟨r, hr, rfl⟩ := h
      simp [parts_kinds ks _ r hr]
theorem parts_unknown (d : ByteArray) : partsOf [.unknown] d = some [(.unknown, d)] := by
  unfold partsOf
  show ((partsOf [] (d.extract d.size d.size)).map ((Kind.unknown, d.extract 0 d.size) :: ·)) = _
  unfold partsOf
  rw [if_pos (by rw [size_extract' _ _ _ (Nat.le_refl _)]; omega), extract_self]
  rfl

set_option maxRecDepth 100000 in
set_option maxHeartbeats 1000000 in
/-- gazetteerref1.CheckData -/
theorem refCheckData_any (t : Int) (d : ByteArray) (w : World) (hd : d.size ≤ 9223372036854775807) :
    Calls Try.prog 8 #[.int .i64 t, .string d] w fun e w' => e = .returned (.int .i64 (errD t d : Int)) ∧ Below w.heap.size w w' := by
  have HF := hide' (fun w => form_any t w)
  cases hk : kindsOf t with
  | none =>
    have hf : formB t = ⟨#[]⟩ := by unfold formB; rw [hk]
    have HE : Hid (errD t d = 6) := by unfold Hid errD; rw [hk]
    rw [hf] at HF
    clear hf hk
    go_enter Try.func8, Try.ntmps8
    go_wp2_with (go_at_call 13; refine (HF.out _).mono ?_; rintro e w1 ⟨rfl, rfl⟩)
    go_ret
    exact ⟨by rw [HE.out]; rfl, Below.refl _ _⟩
  | some ks =>
    have hf := formB_kinds hk
    rw [hf] at HF
    have hkl := kinds_few hk
    have hfs := formK_size ks
    have hl1 : 1 ≤ ks.length := by
      rcases kinds_ok hk with rfl | h
      · decide
      · exact h.2
    have he := isEmpty_false (r := formK ks) (by omega)
    by_cases hl : 65535 < d.size
    · have hp : partsD t d = none := by unfold partsD; rw [hk]; show (if _ then _ else _) = _; rw [if_pos hl]
      have HE : Hid (errD t d = 7) := by unfold Hid errD; rw [hk, hp]
      obtain ⟨F, hF⟩ : ∃ F, formK ks = F := ⟨_, rfl⟩
      rw [hF] at HF he
      clear hf hk hp hkl hfs hl1
      go_enter Try.func8, Try.ntmps8
      go_wp2_with (go_at_call 13; refine (HF.out _).mono ?_; rintro e w1 ⟨rfl, rfl⟩)
      go_ret
      exact ⟨by rw [HE.out]; rfl, Below.refl _ _⟩
    · have hp : partsD t d = partsOf ks d := by unfold partsD; rw [hk]; show (if _ then _ else _) = _; rw [if_neg hl]
      have hds : d.size ≤ 65535 := by omega
      rcases kinds_ok hk with rfl | ⟨hok, _⟩
      · have HE : Hid (errD t d = 0) := by unfold Hid errD; rw [hk, hp, parts_unknown]
        have hf2 : formK [.unknown] = ⟨#[45]⟩ := rfl
        rw [hf2] at HF
        clear hf hk hp hkl hfs hl1 he hf2
        go_enter Try.func8, Try.ntmps8
        go_wp2_with (go_at_call 13; refine (HF.out _).mono ?_; rintro e w1 ⟨rfl, rfl⟩)
        go_ret
        exact ⟨by rw [HE.out]; rfl, Below.refl _ _⟩
      · have hdash := form_dash hok hl1
        have HP := hide' (fun w => refParts_any ks d w hds hkl hok)
        have HE : Hid (errD t d = match partsOf ks d with | none => 7 | some _ => 0) := by unfold Hid errD; rw [hk, hp]; cases partsOf ks d <;> rfl
        obtain ⟨F, hF⟩ : ∃ F, formK ks = F := ⟨_, rfl⟩
        rw [hF] at HF he hdash HP
        clear hf hk hp hkl hfs hl1 hok
        cases hq : partsOf ks d with
        | none =>
          rw [hq] at HP
          have HE2 : Hid (errD t d = 7) := by unfold Hid; rw [HE.out, hq]
          clear hq HE
          go_enter Try.func8, Try.ntmps8
          go_wp2_with (first
            | (go_at_call 13; refine (HF.out _).mono ?_; rintro e w1 ⟨rfl, rfl⟩)
            | (go_at_call 14; refine (HP.out _).mono ?_; rintro e w2 ⟨⟨p, n, c, rfl⟩, hB2⟩))
          go_ret
          exact ⟨by rw [HE2.out]; rfl, hB2⟩
        | some ps =>
          rw [hq] at HP
          have HE2 : Hid (errD t d = 0) := by unfold Hid; rw [HE.out, hq]
          clear hq HE
          go_enter Try.func8, Try.ntmps8
          go_wp2_with (first
            | (go_at_call 13; refine (HF.out _).mono ?_; rintro e w1 ⟨rfl, rfl⟩)
            | (go_at_call 14; refine (HP.out _).mono ?_; rintro e w2 ⟨⟨p, c, rfl, hown⟩, hB2⟩))
          go_ret
          exact ⟨by rw [HE2.out]; rfl, hB2⟩
end Go.Proofs.Ytndkjnehkfleaaa

namespace Go.Proofs.Ytndkjnehkfleaaa
set_option linter.unusedVariables false
open Go.RowKit Go.Shelf Go.Proofs.Ytndkjnehkfleaaa.Nm

theorem partsD_kinds {t : Int} {d : ByteArray} {ps : List (Kind × ByteArray)} (h : partsD t d = some ps) : ∃ ks, kindsOf t = some ks ∧ partsOf ks d = some ps ∧ d.size ≤ 65535 := by
  have hd := (parts_few h).2
  unfold partsD at h
  cases hk : kindsOf t with
  | none => rw [hk] at h; cases h
  | some ks =>
    rw [hk] at h
    change (if _ then _ else _) = _ at h
    split at h
    · cases h
    · exact ⟨ks, rfl, h, hd⟩
theorem letter_dom (k : Kind) (h : okK k) : (letter k).toNat = 110 ↔ k = .dom := by
  rcases kind_cases k with rfl | rfl | rfl | rfl | rfl | rfl | rfl | rfl | rfl | rfl | rfl | rfl | rfl | ⟨n, rfl⟩ <;> first | (exact h.elim; done) | decide | (rcases h with rfl | rfl | rfl <;> decide)
theorem byteC_get (ps : List (Kind × ByteArray)) (i : Nat) (h : i < ps.length) : (byteC ps)[i]? = some (.string ps[i].2) := by simp [byteC, h]

set_option maxRecDepth 100000 in
set_option maxHeartbeats 1000000 in
/-- gazetteerref1.NamesIn -/
theorem refNamesIn_any (t : Int) (d : ByteArray) (w : World) (hd : d.size ≤ 9223372036854775807) :
    Calls Try.prog 5 #[.int .i64 t, .string d] w fun e w' => ∃ p c, e = .returned (.slice p (namesD t d).length c) ∧ w'.ownsRow w.heap.size 9 1 (.slice p (namesD t d).length c) (namesD t d).length ((namesD t d).map Value.string) ∧ Below w.heap.size w w' := by
  obtain ⟨i0, hi0, hz0, hz1, hz2⟩ := info_parts Try.infoStr
  have HC := hide' (fun w => refCheckData_any t d w hd)
  have HF := hide' (fun w => form_any t w)
  cases hp : partsD t d with
  | none =>
    have HN : Hid (namesD t d = []) := by unfold Hid namesD; rw [hp]
    have he := errD_of_none hp
    clear hp
    rcases he with he | he
    all_goals
      rw [he] at HC
      clear he
      go_enter Try.func5, Try.ntmps5
      go_wp2_with (go_at_call 8; refine (HC.out _).mono ?_; rintro e w1 ⟨rfl, hB1⟩)
      go_ret
      rw [HN.out]
      exact ⟨none, 0, rfl, World.ownsRow_nil _ _ _ _, hB1⟩
  | some ps =>
    have HN : Hid (namesD t d = namesOf ps) := by unfold Hid namesD; rw [hp]
    obtain ⟨hps, hds⟩ := parts_few hp
    obtain ⟨ks, hk, hq, _⟩ := partsD_kinds hp
    rw [errD_of_parts hp] at HC
    have hf := formB_kinds hk
    rw [hf] at HF
    rcases kinds_ok hk with rfl | ⟨hok, hl1⟩
    · have hq2 := parts_unknown d
      rw [hq] at hq2
      injection hq2 with hq2
      have HN2 : Hid (namesD t d = []) := by unfold Hid; rw [HN.out, hq2]; rfl
      have hf2 : formK [.unknown] = ⟨#[45]⟩ := rfl
      rw [hf2] at HF
      clear hf hk hp hq hq2 HN hf2
      go_enter Try.func5, Try.ntmps5
      go_wp2_with (first
        | (go_at_call 8; refine (HC.out _).mono ?_; rintro e w1 ⟨rfl, hB1⟩)
        | (go_at_call 13; refine (HF.out _).mono ?_; rintro e w2 ⟨rfl, rfl⟩))
      go_ret
      rw [HN2.out]
      exact ⟨none, 0, rfl, World.ownsRow_nil _ _ _ _, hB1⟩
    · have hdash := form_dash hok hl1
      have HP := hide' (fun w => refParts_any ks d w hds (kinds_few hk) hok)
      have hfs := formK_size ks
      have hkp := parts_kinds ks d ps hq
      have hkl : ks.length = ps.length := by rw [← hkp, List.length_map]
      have HFA : Hid (∀ i, (h : i < ps.length) → (bt (formK ks) i = 110 ↔ ps[i].1 = .dom)) := fun i h => by
        have h2 : i < ks.length := by omega
        have e : ks[i] = ps[i].1 := by simp only [← hkp, List.getElem_map]
        rw [formK_at ks i h2, letter_dom _ (hok _ (List.getElem_mem h2)), e]
      rw [hkl] at hfs
      rw [hq] at HP
      obtain ⟨F, hF⟩ : ∃ F, formK ks = F := ⟨_, rfl⟩
      rw [hF] at HF hdash HP hfs HFA
      clear hf hk hp hq hok hl1 hkp hkl hF
      go_enter Try.func5, Try.ntmps5
      go_wp2_with (first
        | (go_at_call 8; refine (HC.out _).mono ?_; rintro e w1 ⟨rfl, hB1⟩)
        | (go_at_call 13; refine (HF.out _).mono ?_; rintro e wf ⟨rfl, rfl⟩)
        | (go_at_call 14; refine (HP.out _).mono ?_; rintro e w2 ⟨⟨p, c, rfl, hown⟩, hB2⟩))
      have hBw2 : Below w.heap.size w w2 := bstep hB1 hB2 hB1.size
      go_loopw [5, 30] (fun lv iv wr => ∃ i : Nat, iv = .int .i64 i ∧ i ≤ ps.length ∧ wr.ownsRow w2.heap.size 9 1 lv (namesOf (ps.take i)).length ((namesOf (ps.take i)).map Value.string) ∧ Below w2.heap.size w2 wr) (fun _ iv _ => ps.length - (intOf iv).toNat)
      case atStart => exact ⟨0, rfl, Nat.zero_le _, by simpa [namesOf] using World.ownsRow_nil _ _ _ _, Below.refl _ _⟩
      case round =>
        obtain ⟨i, rfl, hi2, hownl, hBr⟩ := hrel
        by_cases hlt : i < ps.length
        · obtain ⟨g, rfl, hg2⟩ : ∃ g, p = some ⟨g, 0, none⟩ ∧ g < w2.heap.size := by
            obtain ⟨_, (⟨h1, h2⟩ | ⟨g, cap, cur, h1, hb, hg, hn, hcap, _⟩)⟩ := hown
            · omega
            · injection h1 with h1; exact ⟨g, h1, (Array.getElem?_eq_some_iff.1 hg).1⟩
          have hc1 : wr.cell? ⟨g, i, none⟩ = some (.string ps[i].2) := by
            rw [hBr.cell hg2, hown.cellAt i (by omega)]; exact byteC_get ps i hlt
          have hnl := namesOf_len (ps.take i)
          rw [List.length_take] at hnl
          have HTK : Hid (namesOf (ps.take (i + 1)) = namesOf (ps.take i) ++ if ps[i].1 = .dom then [ps[i].2] else []) := by
            unfold Hid; rw [List.take_succ_eq_append_getElem hlt, namesOf_snoc]
          have hfa := HFA.out i hlt
          generalize ps[i] = q at *
          obtain ⟨k, b⟩ := q
          simp only at hc1 HTK hfa
          obtain ⟨y, hy, HY, hyl⟩ := bt_wrap (s := F) (i := i) (by omega)
          rw [HY] at hfa
          have hlt2 : i < F.size := by omega
          obtain ⟨L, hL⟩ : ∃ L, namesOf (ps.take i) = L := ⟨_, rfl⟩
          rw [hL] at hownl hnl HTK
          have hLl : L.length ≤ 9 := by omega
          clear hL hnl HY
          by_cases hkd : k = .dom
          · rw [if_pos hkd] at HTK
            obtain rfl := hfa.2 hkd
            clear hkd hfa
            go_wp2_with (at_builtin; refine wpList_append_own _ rfl _ _ 22 rfl w2.heap.size 9 i0 (.string .empty) 1 16 Try.underlying22 hi0 hz0 hz1 hz2 rfl (by decide) _ _ _ rfl (hownl.alloc _) ⟨wr.heap.size, 0, none⟩ 1 1 [.string b] rfl rfl (cell_one_new _ _ _) (by simp [Value.oneCell']) (by unfold maxLen; omega) (by omega) (by have := hBr.size; simp; omega) ?_; intro v4 w4 hown4 hgrow4 _)
            refine ⟨⟨i + 1, by go_num, hlt, ?_, below_app hBr (Nat.le_refl _) hownl hgrow4⟩, by simp [intOf]; omega⟩
            rw [HTK.out, List.length_append, List.map_append]; exact hown4
          · rw [if_neg hkd, List.append_nil] at HTK
            have hy0 : ((y : Int) == 110) = false := by
              rw [beq_eq_false_iff_ne]; intro e; exact hkd (hfa.1 (by omega))
            clear hkd hfa
            go_wp2
            refine ⟨⟨i + 1, by go_num, hlt, ?_, hBr⟩, by simp [intOf]; omega⟩
            rw [HTK.out]; exact hownl
        · obtain rfl : i = ps.length := by omega
          rw [List.take_length] at hownl
          obtain ⟨L, hL⟩ : ∃ L, namesOf ps = L := ⟨_, rfl⟩
          rw [hL] at hownl HN
          obtain ⟨pA, cA, rfl, hbc, hbc9, hbsh⟩ := owns_shape hownl
          clear hbsh hL
          go_wp2
          go_ret
          rw [HN.out]
          exact ⟨pA, cA, rfl, own_mono hownl hBw2.size, bstep hBw2 hBr hBw2.size⟩
end Go.Proofs.Ytndkjnehkfleaaa

namespace Go.Proofs.Ytndkjnehkfleaaa
set_option linter.unusedVariables false
open Go.RowKit Go.Shelf Go.Proofs.Ytndkjnehkfleaaa.Nm

theorem ba_cat (l : List UInt8) (F : ByteArray) : (⟨l.toArray⟩ : ByteArray) ++ F = ⟨(l ++ F.data.toList).toArray⟩ := by apply ByteArray.ext; simp
theorem foldL_len : ∀ (ps : List (Kind × ByteArray)), (∀ q ∈ ps, q.2.size ≤ 65535) → (foldL ps).length ≤ ps.length * 65535
  | [], _ => by simp [foldL]
  | q :: ps, h => by
    have h1 := foldL_len ps (fun x hx => h x (List.mem_cons_of_mem _ hx))
    have h2 := h q (List.mem_cons_self ..)
    have h3 := foldP_size q
    have e : (foldL (q :: ps)).length = (foldP q).size + (foldL ps).length := by simp [foldL]
    rw [e, List.length_cons]; omega

set_option maxRecDepth 100000 in
set_option maxHeartbeats 1000000 in
/-- gazetteerref1.FoldData -/
theorem refFoldData_any (t : Int) (d : ByteArray) (w : World) (hd : d.size ≤ 9223372036854775807) :
    Calls Try.prog 10 #[.int .i64 t, .string d] w fun e w' => e = .returned (.string (foldD t d)) ∧ Below w.heap.size w w' := by
  have HC := hide' (fun w => refCheckData_any t d w hd)
  have HF := hide' (fun w => form_any t w)
  cases hp : partsD t d with
  | none =>
    have HN : Hid (foldD t d = ⟨#[]⟩) := by unfold Hid foldD; rw [hp]
    have he := errD_of_none hp
    clear hp
    rcases he with he | he
    all_goals
      rw [he] at HC
      clear he
      go_enter Try.func10, Try.ntmps10
      go_wp2_with (first
        | (go_at_call 8; refine (HC.out w).mono ?_; rintro e w1 ⟨rfl, hB1⟩)
        | (go_at_call 8; refine (HC.out _).mono ?_; rintro e w2 ⟨rfl, hB2⟩))
      go_ret
      exact ⟨by rw [HN.out]; rfl, bstep hB1 hB2 hB1.size⟩
  | some ps =>
    have HN : Hid (foldD t d = ⟨(foldL ps).toArray⟩) := by unfold Hid foldD; rw [hp]
    obtain ⟨hps, hds⟩ := parts_few hp
    have HS := hide' (partsD_small hp)
    obtain ⟨ks, hk, hq, _⟩ := partsD_kinds hp
    rw [errD_of_parts hp] at HC
    have hf := formB_kinds hk
    rw [hf] at HF
    rcases kinds_ok hk with rfl | ⟨hok, hl1⟩
    · have hq2 := parts_unknown d
      rw [hq] at hq2
      injection hq2 with hq2
      have HN2 : Hid (foldD t d = d) := by unfold Hid; rw [HN.out, hq2]; apply ByteArray.ext; simp [foldL, foldP]; rw [if_neg (by decide)]
      have hf2 : formK [.unknown] = ⟨#[45]⟩ := rfl
      rw [hf2] at HF
      clear hf hk hp hq hq2 HN hf2
      go_enter Try.func10, Try.ntmps10
      go_wp2_with (first
        | (go_at_call 8; refine (HC.out w).mono ?_; rintro e w1 ⟨rfl, hB1⟩)
        | (go_at_call 8; refine (HC.out _).mono ?_; rintro e w2 ⟨rfl, hB2⟩)
        | (go_at_call 13; refine (HF.out _).mono ?_; rintro e wf ⟨rfl, rfl⟩))
      go_ret
      exact ⟨by rw [HN2.out]; rfl, bstep hB1 hB2 hB1.size⟩
    · have hdash := form_dash hok hl1
      have HP := hide' (fun w => refParts_any ks d w hds (kinds_few hk) hok)
      have hfs := formK_size ks
      have hkp := parts_kinds ks d ps hq
      have hkl : ks.length = ps.length := by rw [← hkp, List.length_map]
      have HFA : Hid (∀ i, (h : i < ps.length) → (bt (formK ks) i = 110 ↔ ps[i].1 = .dom)) := fun i h => by
        have h2 : i < ks.length := by omega
        have e : ks[i] = ps[i].1 := by simp only [← hkp, List.getElem_map]
        rw [formK_at ks i h2, letter_dom _ (hok _ (List.getElem_mem h2)), e]
      rw [hkl] at hfs
      rw [hq] at HP
      obtain ⟨F, hF⟩ : ∃ F, formK ks = F := ⟨_, rfl⟩
      rw [hF] at HF hdash HP hfs HFA
      clear hf hk hp hq hok hl1 hkp hkl hF
      go_enter Try.func10, Try.ntmps10
      go_wp2_with (first
        | (go_at_call 8; refine (HC.out w).mono ?_; rintro e w1 ⟨rfl, hB1⟩)
        | (go_at_call 13; refine (HF.out _).mono ?_; rintro e wf ⟨rfl, rfl⟩)
        | (go_at_call 14; refine (HP.out _).mono ?_; rintro e w2 ⟨⟨p, c, rfl, hown⟩, hB2⟩))
      have hBw2 : Below w.heap.size w w2 := bstep hB1 hB2 hB1.size
      go_loopw [8, 34] (fun sv iv wr => ∃ i : Nat, iv = .int .i64 i ∧ i ≤ ps.length ∧ sv = .string ⟨(foldL (ps.take i)).toArray⟩ ∧ Below w2.heap.size w2 wr) (fun _ iv _ => ps.length - (intOf iv).toNat)
      case atStart => exact ⟨0, rfl, Nat.zero_le _, rfl, Below.refl _ _⟩
      case round =>
        obtain ⟨i, rfl, hi2, rfl, hBr⟩ := hrel
        by_cases hlt : i < ps.length
        · obtain ⟨g, rfl, hg2⟩ : ∃ g, p = some ⟨g, 0, none⟩ ∧ g < w2.heap.size := by
            obtain ⟨_, (⟨h1, h2⟩ | ⟨g, cap, cur, h1, hb, hg, hn, hcap, _⟩)⟩ := hown
            · omega
            · injection h1 with h1; exact ⟨g, h1, (Array.getElem?_eq_some_iff.1 hg).1⟩
          have hc1 : wr.cell? ⟨g, i, none⟩ = some (.string ps[i].2) := by
            rw [hBr.cell hg2, hown.cellAt i (by omega)]; exact byteC_get ps i hlt
          have hfl := foldL_len (ps.take i) (fun q hq => HS.out q (List.mem_of_mem_take hq))
          rw [List.length_take] at hfl
          have HTK : Hid (foldL (ps.take (i + 1)) = foldL (ps.take i) ++ (foldP ps[i]).data.toList) := by
            unfold Hid; rw [List.take_succ_eq_append_getElem hlt, foldL_snoc]
          have hqs := HS.out ps[i] (List.getElem_mem hlt)
          have hqf := foldP_size ps[i]
          have hfa := HFA.out i hlt
          generalize ps[i] = q at *
          obtain ⟨k, b⟩ := q
          simp only at hc1 HTK hfa hqs hqf
          obtain ⟨y, hy, HY, hyl⟩ := bt_wrap (s := F) (i := i) (by omega)
          rw [HY] at hfa
          have hlt2 : i < F.size := by omega
          obtain ⟨L, hL⟩ : ∃ L, foldL (ps.take i) = L := ⟨_, rfl⟩
          obtain ⟨G, hG⟩ : ∃ G, foldP (k, b) = G := ⟨_, rfl⟩
          have hLs : (⟨L.toArray⟩ : ByteArray).size = L.length := by simp [ByteArray.size]
          rw [hL] at hfl HTK ⊢
          rw [hG] at HTK hqf
          have hss : (⟨L.toArray⟩ : ByteArray).size + G.size ≤ 4294967296 := by
            have : L.length ≤ 9 * 65535 := Nat.le_trans hfl (Nat.mul_le_mul_right _ (by omega))
            omega
          have had : ∀ W : World, (Op.stringOp .add ⟨L.toArray⟩ G).run Try.prog W = .ok (.string ⟨(foldL (ps.take (i + 1))).toArray⟩) W := fun W => by
            rw [HTK.out, ← ba_cat]; exact run_string_add_sum W _ _ (by omega)
          clear hL HY hfl hLs hss hqf HTK
          by_cases hkd : k = .dom
          · obtain rfl := hfa.2 hkd
            have HG : Hid (foldB b = G) := by unfold Hid; rw [← hG]; unfold foldP; rw [if_pos hkd]
            have HFO := hide' (fun w => foldName_any b w (by omega))
            rw [HG.out] at HFO
            clear hkd hfa hG HG
            go_wp2_with (go_at_call 20; refine (HFO.out _).mono ?_; rintro e w3 ⟨rfl, hB3⟩)
            exact ⟨⟨i + 1, by go_num, hlt, rfl, bstep hBr hB3 hBr.size⟩, by simp [intOf]; omega⟩
          · have hGb : b = G := by rw [← hG]; unfold foldP; rw [if_neg hkd]
            subst hGb
            have hy0 : ((y : Int) == 110) = false := by
              rw [beq_eq_false_iff_ne]; intro e; exact hkd (hfa.1 (by omega))
            clear hkd hfa hG
            go_wp2
            exact ⟨⟨i + 1, by go_num, hlt, rfl, hBr⟩, by simp [intOf]; omega⟩
        · obtain rfl : i = ps.length := by omega
          rw [List.take_length]
          go_wp2
          go_ret
          exact ⟨by rw [HN.out]; rfl, bstep hBw2 hBr hBw2.size⟩
end Go.Proofs.Ytndkjnehkfleaaa

namespace Go.Proofs.Ytndkjnehkfleaaa
set_option linter.unusedVariables false
open Go.RowKit Go.Shelf Go.Proofs.Ytndkjnehkfleaaa.Nm

theorem strsAt_owns {w : World} {base n c : Nat} {p : Option Addr} {l : List ByteArray} (h : w.ownsRow base 9 1 (.slice p n c) n (l.map Value.string)) (hn : n = l.length) : StrsAt w p l := by
  intro j hj
  have h' := h
  obtain ⟨_, (⟨h1, h2⟩ | ⟨g, cap, cur, h1, hb, hg, hn', hcap, _⟩)⟩ := h'
  · omega
  · injection h1 with h1 h2 h3
    subst h1
    refine ⟨g, 0, rfl, (Array.getElem?_eq_some_iff.1 hg).1, ?_⟩
    rw [Nat.zero_add, h.cellAt j (by omega)]; simp [hj]

set_option maxRecDepth 100000 in
set_option maxHeartbeats 1000000 in
/-- gazetteerlaw1.DataChecks -/
theorem dataChecks_any (t : Int) (d : ByteArray) (w : World) (hd : d.size ≤ maxLen) :
    Calls Try.prog 3 #[.int .i64 t, .string d] w fun e w' => e = .returned (.bool true) ∧ Below w.heap.size w w' := by
  have hd9 : d.size ≤ 9223372036854775807 := by unfold maxLen at hd; omega
  have HN := hide' (fun w => names_any t d w hd9)
  have HM := hide' (fun w => refNamesIn_any t d w hd9)
  have HC := hide' (fun w => dataCheck_any t d w hd9)
  have HD := hide' (fun w => refCheckData_any t d w hd9)
  have HF := hide' (fun w => dataFold_any t d w hd9)
  have HG := hide' (fun w => refFoldData_any t d w hd9)
  have hnl : (namesD t d).length ≤ 9 := by
    unfold namesD
    cases hp : partsD t d with
    | none => simp
    | some ps => exact Nat.le_trans (namesOf_len ps) (parts_few hp).1
  generalize namesD t d = N at *
  generalize foldD t d = FD at *
  generalize errD t d = ER at *
  have HS := hide' (fun px py cx cy w hx hy => sameTexts_same px py cx cy N w hx hy (by omega))
  clear hd
  go_enter Try.func3, Try.ntmps3
  go_wp2_with (first
    | (go_at_call 4; refine (HN.out _).mono ?_; rintro e w1 ⟨pl, cl, rfl, hl, hB1⟩)
    | (go_at_call 5; refine (HM.out _).mono ?_; rintro e w2 ⟨pm, cm, rfl, hm, hB2⟩)
    | (go_at_call 6; refine (HS.out pl pm cl cm _ ((strsAt_owns hl rfl).below hB2) (strsAt_owns hm rfl)).mono ?_; rintro e w3 ⟨rfl, hB3⟩))
  have hl3 := ownsRow_below (ownsRow_below hl hB2) hB3
  have hm3 := ownsRow_below hm hB3
  have hBw1 : Below w.heap.size w w1 := hB1
  have hBw3 : Below w.heap.size w w3 := bstep (bstep hB1 hB2 hB1.size) hB3 (Nat.le_trans hB1.size hB2.size)
  have hlt1 := hl.lt
  have HLT := hide' hlt1
  clear hl hm hlt1
  go_loopw [20] (fun iv wr => ∃ (i : Nat) (xs : List Value), iv = .int .i64 i ∧ i ≤ N.length ∧ wr.ownsRow w.heap.size 9 1 (.slice pl N.length cl) N.length xs ∧ wr.ownsRow w1.heap.size 9 1 (.slice pm N.length cm) N.length (N.map Value.string) ∧ Below w.heap.size w wr) (fun iv _ => N.length - (intOf iv).toNat)
  case atStart => exact ⟨0, _, rfl, Nat.zero_le _, hl3, hm3, hBw3⟩
  case round =>
    clear hl3 hm3 hBw3
    obtain ⟨i, xs, rfl, hi, hl3, hm3, hBw3⟩ := hrel
    by_cases hlt : i < N.length
    · obtain ⟨g, rfl⟩ : ∃ g, pl = some ⟨g, 0, none⟩ := by
        obtain ⟨_, (⟨h1, h2⟩ | ⟨g, cap, cur, h1, hb, hg, hn, hcap, _⟩)⟩ := hl3
        · omega
        · injection h1 with h1; exact ⟨g, h1⟩
      obtain ⟨hg1, hg2⟩ := HLT.out g rfl
      have hxl : xs.length = N.length := by have := hl3.1; omega
      have hcell : wr.cell? ⟨g, i, none⟩ = some (xs[i]'(by omega)) := by rw [hl3.cellAt i (by omega)]; simp [hxl, hlt]
      have hfz := hl3.frozenAt i
      have hl4 := hl3.stored i (.string ⟨#[63]⟩)
      have hm4 := ownsRow_setCell_below hm3 (a := ⟨g, i, none⟩) hg2 (.string ⟨#[63]⟩)
      have hB4 : Below w.heap.size w (wr.setCell ⟨g, i, none⟩ (.string ⟨#[63]⟩)) := hBw3.setCell (p := ⟨g, i, none⟩) hg1 _
      go_wp2
      exact ⟨⟨i + 1, _, by go_num, hlt, hl4.1, hm4, hB4⟩, by simp [intOf]; omega⟩
    · go_wp2_with (first
        | (go_at_call 4; refine (HN.out _).mono ?_; rintro e w5 ⟨pn, cn, rfl, hn5, hB5⟩; have hm5 := ownsRow_below hm3 hB5)
        | (go_at_call 6; refine (HS.out pn pm cn cm _ (strsAt_owns hn5 rfl) (strsAt_owns hm5 rfl)).mono ?_; rintro e w6 ⟨rfl, hB6⟩)
        | (go_at_call 7; refine (HC.out _).mono ?_; rintro e w7 ⟨rfl, hB7⟩)
        | (go_at_call 8; refine (HD.out _).mono ?_; rintro e w8 ⟨rfl, hB8⟩)
        | (go_at_call 9; refine (HF.out _).mono ?_; rintro e w9 ⟨rfl, hB9⟩)
        | (go_at_call 10; refine (HG.out _).mono ?_; rintro e w10 ⟨rfl, hB10⟩))
      go_ret
      refine ⟨rfl, ?_⟩
      have h5 := bstep hBw3 hB5 hBw3.size
      have h6 := bstep h5 hB6 h5.size
      have h7 := bstep h6 hB7 h6.size
      have h8 := bstep h7 hB8 h7.size
      have h9 := bstep h8 hB9 h8.size
      exact bstep h9 hB10 h9.size
end Go.Proofs.Ytndkjnehkfleaaa
