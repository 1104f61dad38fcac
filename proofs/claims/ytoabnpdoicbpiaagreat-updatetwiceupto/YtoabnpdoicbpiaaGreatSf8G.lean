import Derived.Test.YtoabnpdoicbpiaaGreatRn0G
import Derived.Test.YtoabnpdoicbpiaaGreatRc1G
import Derived.Deep.RegionHeld3
import Derived.Test.YtoabnpdoicbpiaaGreatBw1G
namespace Go.Proofs.YtoabnpdoicbpiaaGreat
set_option linter.unusedVariables false
open Go.RowKit Go.Shelf Go.Proofs.YtoabnpdoicbpiaaGreat.Nm
def zonB (o d : ByteArray) (t c l : Int) : Bool := isN o && decide (c = 1) && decide (0 ≤ l) && decide (l ≤ 2147483647) && decide (errD t d = 0)
theorem chk_n8 {o : ByteArray} (h : isN o = false) : chk o = 1 := by unfold chk; rw [h]; rfl
theorem chk_y8 {o : ByteArray} (h : isN o = true) : chk o = 0 := by unfold chk; rw [h]; rfl
set_option maxRecDepth 100000 in
set_option maxHeartbeats 2000000 in
theorem isRecord_any (o d : ByteArray) (t c l : Int) (w : World) (ho : o.size ≤ maxLen) (hd : d.size ≤ 9223372036854775807) :
  Calls Tryz.prog 33 #[.agg #[.string o, .int .i64 t, .int .i64 c, .int .i64 l, .string d]] w fun r w' => r = .returned (.bool (zonB o d t c l)) ∧ Below w.heap.size w w' := by
 obtain ⟨W, hW⟩ : ∃ W, w.alloc (.cells #[.string o, .int .i64 t, .int .i64 c, .int .i64 l, .string d] 29) = W := ⟨_, rfl⟩
 have HB : Hid (Below w.heap.size w W) := by rw [← hW]; exact (Below.refl _ _).alloc (Nat.le_refl _) _
 have h0 : Bx (w.alloc (.cells #[.string o, .int .i64 t, .int .i64 c, .int .i64 l, .string d] 29)) w.heap.size #[.string o, .int .i64 t, .int .i64 c, .int .i64 l, .string d] 29 := World.alloc_heap_new w _
 rw [hW] at h0
 have HH := hide' h0
 have QF : Hid (∀ V : World, Bx V w.heap.size #[.string o, .int .i64 t, .int .i64 c, .int .i64 l, .string d] 29 → V.cell? ⟨w.heap.size, 0, none⟩ = some (.string o) ∧ V.cell? ⟨w.heap.size, 1, none⟩ = some (.int .i64 t) ∧ V.cell? ⟨w.heap.size, 2, none⟩ = some (.int .i64 c) ∧ V.cell? ⟨w.heap.size, 3, none⟩ = some (.int .i64 l) ∧ V.cell? ⟨w.heap.size, 4, none⟩ = some (.string d)) := fun V h => ⟨h.cell rfl, h.cell rfl, h.cell rfl, h.cell rfl, h.cell rfl⟩
 obtain ⟨k0, k1, k2, k3, k4⟩ := QF.out W h0
 clear h0
 obtain ⟨ee, hee⟩ : ∃ ee, errD t d = ee := ⟨_, rfl⟩
 have HE := hide' hee
 cases hN : isN o with
 | false =>
  have HV : Hid (zonB o d t c l = false) := by unfold Hid zonB; rw [hN]; rfl
  have HN := hide' (chk_n8 hN)
  rw [HV.out]
  go_enter Tryz.func33, Tryz.ntmps33
  go_wp2_with (first
   | (go_at_call 10; refine (check_any o _ ho).mono ?_; rw [HN.out]; rintro r w1 ⟨rfl, hB1⟩; have HH1 := hide' (HH.out.below hB1 HH.out.lt); have HB1 := hide' (bstep HB.out hB1 HB.out.size); obtain ⟨j0, j1, j2, j3, j4⟩ := QF.out w1 HH1.out; clear hB1)
   | (go_at_call 66; refine (dataCheck_any t d _ hd).mono ?_; rw [HE.out]; rintro r w2 ⟨rfl, hB2⟩; have HB2 := hide' (bstep HB1.out hB2 HB1.out.size); clear hB2))
  go_ret
  exact ⟨rfl, by first | exact HB2.out | exact HB1.out⟩
 | true =>
  have HN := hide' (chk_y8 hN)
  by_cases hc : c = 1
  ·by_cases hl0 : 0 ≤ l
   ·by_cases hl1 : l ≤ 2147483647
    ·by_cases h0 : ee = 0
     ·have HV : Hid (zonB o d t c l = true) := by unfold Hid zonB; rw [hN, decide_eq_true hc, decide_eq_true hl0, decide_eq_true hl1, decide_eq_true (hee.trans h0)]; rfl
      subst h0
      subst hc
      clear hN hee
      rw [HV.out]
      go_enter Tryz.func33, Tryz.ntmps33
      go_wp2_with (first
       | (go_at_call 10; refine (check_any o _ ho).mono ?_; rw [HN.out]; rintro r w1 ⟨rfl, hB1⟩; have HH1 := hide' (HH.out.below hB1 HH.out.lt); have HB1 := hide' (bstep HB.out hB1 HB.out.size); obtain ⟨j0, j1, j2, j3, j4⟩ := QF.out w1 HH1.out; clear hB1)
       | (go_at_call 66; refine (dataCheck_any t d _ hd).mono ?_; rw [HE.out]; rintro r w2 ⟨rfl, hB2⟩; have HB2 := hide' (bstep HB1.out hB2 HB1.out.size); clear hB2))
      go_ret
      exact ⟨rfl, by first | exact HB2.out | exact HB1.out⟩
     ·have HV : Hid (zonB o d t c l = false) := by unfold Hid zonB; rw [decide_eq_false (fun h => h0 (hee.symm.trans h))]; simp
      have hb : ((ee : Int) == 0) = false := by rw [beq_eq_false_iff_ne]; omega
      have hb2 : ¬ (ee : Int) = 0 := by omega
      subst hc
      clear hN hee h0
      rw [HV.out]
      go_enter Tryz.func33, Tryz.ntmps33
      go_wp2_with (first
       | (go_at_call 10; refine (check_any o _ ho).mono ?_; rw [HN.out]; rintro r w1 ⟨rfl, hB1⟩; have HH1 := hide' (HH.out.below hB1 HH.out.lt); have HB1 := hide' (bstep HB.out hB1 HB.out.size); obtain ⟨j0, j1, j2, j3, j4⟩ := QF.out w1 HH1.out; clear hB1)
       | (go_at_call 66; refine (dataCheck_any t d _ hd).mono ?_; rw [HE.out]; rintro r w2 ⟨rfl, hB2⟩; have HB2 := hide' (bstep HB1.out hB2 HB1.out.size); clear hB2))
      go_ret
      exact ⟨rfl, by first | exact HB2.out | exact HB1.out⟩
    ·have HV : Hid (zonB o d t c l = false) := by unfold Hid zonB; rw [decide_eq_false hl1]; simp
     subst hc
     clear hN hee
     rw [HV.out]
     go_enter Tryz.func33, Tryz.ntmps33
     go_wp2_with (first
      | (go_at_call 10; refine (check_any o _ ho).mono ?_; rw [HN.out]; rintro r w1 ⟨rfl, hB1⟩; have HH1 := hide' (HH.out.below hB1 HH.out.lt); have HB1 := hide' (bstep HB.out hB1 HB.out.size); obtain ⟨j0, j1, j2, j3, j4⟩ := QF.out w1 HH1.out; clear hB1)
      | (go_at_call 66; refine (dataCheck_any t d _ hd).mono ?_; rw [HE.out]; rintro r w2 ⟨rfl, hB2⟩; have HB2 := hide' (bstep HB1.out hB2 HB1.out.size); clear hB2))
     go_ret
     exact ⟨rfl, by first | exact HB2.out | exact HB1.out⟩
   ·have HV : Hid (zonB o d t c l = false) := by unfold Hid zonB; rw [decide_eq_false hl0]; simp
    subst hc
    clear hN hee
    rw [HV.out]
    go_enter Tryz.func33, Tryz.ntmps33
    go_wp2_with (first
     | (go_at_call 10; refine (check_any o _ ho).mono ?_; rw [HN.out]; rintro r w1 ⟨rfl, hB1⟩; have HH1 := hide' (HH.out.below hB1 HH.out.lt); have HB1 := hide' (bstep HB.out hB1 HB.out.size); obtain ⟨j0, j1, j2, j3, j4⟩ := QF.out w1 HH1.out; clear hB1)
     | (go_at_call 66; refine (dataCheck_any t d _ hd).mono ?_; rw [HE.out]; rintro r w2 ⟨rfl, hB2⟩; have HB2 := hide' (bstep HB1.out hB2 HB1.out.size); clear hB2))
    go_ret
    exact ⟨rfl, by first | exact HB2.out | exact HB1.out⟩
  ·have HV : Hid (zonB o d t c l = false) := by unfold Hid zonB; rw [decide_eq_false hc]; simp
   have hb : (c == 1) = false := by rw [beq_eq_false_iff_ne]; exact hc
   clear hN hee
   rw [HV.out]
   go_enter Tryz.func33, Tryz.ntmps33
   go_wp2_with (first
    | (go_at_call 10; refine (check_any o _ ho).mono ?_; rw [HN.out]; rintro r w1 ⟨rfl, hB1⟩; have HH1 := hide' (HH.out.below hB1 HH.out.lt); have HB1 := hide' (bstep HB.out hB1 HB.out.size); obtain ⟨j0, j1, j2, j3, j4⟩ := QF.out w1 HH1.out; clear hB1)
    | (go_at_call 66; refine (dataCheck_any t d _ hd).mono ?_; rw [HE.out]; rintro r w2 ⟨rfl, hB2⟩; have HB2 := hide' (bstep HB1.out hB2 HB1.out.size); clear hB2))
   go_ret
   exact ⟨rfl, by first | exact HB2.out | exact HB1.out⟩
end Go.Proofs.YtoabnpdoicbpiaaGreat
namespace Go.Proofs.YtoabnpdoicbpiaaGreat
set_option linter.unusedVariables false
set_option linter.unusedSimpArgs false
open Go.RowKit Go.Shelf Go.Proofs.YtoabnpdoicbpiaaGreat.Nm
theorem zkinds_rng {t : Int} {ks : List Kind} (h : kindsOf t = some ks) : 1 ≤ t ∧ t ≤ 65535 := by
 rcases Classical.em (1 ≤ t ∧ t ≤ 65535) with hc | hc
 ·exact hc
 ·unfold kindsOf at h
  iterate 16 rw [if_neg (by omega)] at h
  have hd : ¬ isDT t = true := by
   intro hd
   unfold isDT isTy at hd
   simp at hd
   omega
  rw [if_neg hd] at h
  cases h
theorem zzon_of {o d : ByteArray} {t c l : Int} (h : zonB o d t c l = true) : isN o = true ∧ c = 1 ∧ 0 ≤ l ∧ l ≤ 2147483647 ∧ errD t d = 0 ∧ 1 ≤ t ∧ t ≤ 65535 ∧ d.size ≤ 65535 := by
 unfold zonB at h
 simp only [Bool.and_eq_true, decide_eq_true_eq] at h
 obtain ⟨⟨⟨⟨h1, h2⟩, h3⟩, h4⟩, h5⟩ := h
 obtain ⟨ps, hp⟩ := errD_zero h5
 have hk : ∃ ks, kindsOf t = some ks := by
  cases hk : kindsOf t with
  | none => unfold errD at h5; rw [hk] at h5; cases h5
  | some ks => exact ⟨ks, rfl⟩
 obtain ⟨ks, hk⟩ := hk
 exact ⟨h1, h2, h3, h4, h5, (zkinds_rng hk).1, (zkinds_rng hk).2, (parts_few hp).2⟩
theorem zparts_cons {k : Kind} {ks : List Kind} {d : ByteArray} {ps : List (Kind × ByteArray)} (h : partsOf (k :: ks) d = some ps) : ∃ n qs, kindSize k d = some n ∧ partsOf ks (d.extract n d.size) = some qs ∧ ps = (k, d.extract 0 n) :: qs := by
 rw [partsOf] at h
 cases hk : kindSize k d with
 | none => rw [hk] at h; cases h
 | some n =>
  rw [hk] at h
  change (partsOf ks _).map _ = _ at h
  cases hq : partsOf ks (d.extract n d.size) with
  | none => rw [hq] at h; cases h
  | some qs => rw [hq] at h; simp at h; exact ⟨n, qs, rfl, hq, h.symm⟩
theorem zparts_sum : ∀ (ks : List Kind) (d : ByteArray) (ps : List (Kind × ByteArray)), partsOf ks d = some ps → (foldL ps).length ≤ d.size
 | [], d, ps, h => by
  rw [partsOf] at h
  split at h
  ·simp at h; subst h; simp [foldL]
  ·cases h
 | k :: ks, d, ps, h => by
  obtain ⟨n, qs, h1, h2, rfl⟩ := zparts_cons h
  have h3 := kindSize_le h1
  have h4 := zparts_sum ks _ qs h2
  rw [size_extract' _ _ _ (Nat.le_refl _)] at h4
  have h5 : (foldL ((k, d.extract 0 n) :: qs)).length = (foldP (k, d.extract 0 n)).size + (foldL qs).length := by
   show ((foldP (k, d.extract 0 n)).data.toList ++ foldL qs).length = _
   rw [List.length_append, Array.length_toList]; rfl
  have h6 := foldP_size (k, d.extract 0 n)
  rw [size_extract' _ _ _ h3] at h6
  omega
theorem zfoldD_le {t : Int} {d : ByteArray} (h : errD t d = 0) : (foldD t d).size ≤ d.size := by
 obtain ⟨ps, hp⟩ := errD_zero h
 unfold foldD
 rw [hp]
 show (foldL ps).length ≤ d.size
 unfold partsD at hp
 cases hk : kindsOf t with
 | none => rw [hk] at hp; cases hp
 | some ks =>
  rw [hk] at hp
  change (if _ then _ else _) = _ at hp
  split at hp
  ·cases hp
  ·exact zparts_sum ks d ps hp
theorem zfoldB_size {n : ByteArray} (h : isN n = true) : (foldB n).size ≤ 255 := by
 rw [foldB_yes h, lowB_size]; exact ((isN_iff n).1 h).1
def zonR (r : Rn) : Bool := zonB r.o r.d r.t r.c r.l
def okL (L : List Rn) : Prop := ∀ r ∈ L, zonR r = true
theorem ok_facts {r : Rn} (h : zonR r = true) : isN r.o = true ∧ r.c = 1 ∧ 0 ≤ r.l ∧ r.l ≤ 2147483647 ∧ errD r.t r.d = 0 ∧ 1 ≤ r.t ∧ r.t ≤ 65535 ∧ r.d.size ≤ 65535 ∧ r.o.size ≤ 255 ∧ (foldB r.o).size ≤ 255 ∧ (foldD r.t r.d).size ≤ 65535 := by
 obtain ⟨h1, h2, h3, h4, h5, h6, h7, h8⟩ := zzon_of h
 exact ⟨h1, h2, h3, h4, h5, h6, h7, h8, ((isN_iff _).1 h1).1, zfoldB_size h1, Nat.le_trans (zfoldD_le h5) h8⟩
end Go.Proofs.YtoabnpdoicbpiaaGreat
