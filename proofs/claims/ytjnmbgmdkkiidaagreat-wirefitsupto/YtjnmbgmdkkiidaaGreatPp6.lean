import Derived.Test.YtjnmbgmdkkiidaaGreatPp4G
/-
  The reference's paper: a record is written, in all. (The verifier's own text.)
-/
namespace Go.Proofs.YtjnmbgmdkkiidaaGreat
set_option linter.unusedVariables false
open Go.RowKit Go.Shelf Go.Maps Go.Proofs.YtjnmbgmdkkiidaaGreat.Nm

theorem recH_at (ow : ByteArray) (t c l : Nat) (s : PS) : recH ow t c l s = ⟨((nameL (labs ow) s).out ++ ((numB t 2 ++ numB c 2) ++ numB l 4)) ++ ⟨#[0, 0]⟩, (nameL (labs ow) s).tab⟩ := by
  have h0 : numB 0 2 = ⟨#[0, 0]⟩ := rfl
  unfold recH quesP
  rw [h0]
  simp only [ByteArray.append_assoc]
/-- put, with what stands beside -/
theorem put_on {w w4 : World} {P base B : Nat} {v1 v2 v3 t1 t2 t3 : Value} {s : PS} {tx : ByteArray} {cs : Array Value} {T : TypeId} (h : Pp w4 P base t1 t2 t3 s) (hf : Fq w w4 (own3 P v1 v2 v3) (own3 P t1 t2 t3)) (hx : Bx w4 B cs T) (hn : ¬ own3 P t1 t2 t3 B) (hz : s.out.size ≤ 1099511627776) (ht : tx.size ≤ 1048576) :
    Calls Tryz.prog 20 #[.pointer (some ⟨P, 0, none⟩), .string tx] w4 fun e w' => e = .returned (.tuple #[]) ∧ ∃ t4 t5 t6, Pp w' P base t4 t5 t6 ⟨s.out ++ tx, s.tab⟩ ∧ Fq w w' (own3 P v1 v2 v3) (own3 P t4 t5 t6) ∧ Bx w' B cs T ∧ ¬ own3 P t4 t5 t6 B := by
  refine (pput_any P base t1 t2 t3 s tx w4 h hz ht).mono ?_
  rintro e w5 ⟨rfl, t4, t5, t6, r1, r2⟩
  exact ⟨rfl, t4, t5, t6, r1, hf.trans r2, (r2.bx hx hn).1, (r2.bx hx hn).2⟩
set_option maxRecDepth 100000 in
set_option maxHeartbeats 4000000 in
/-- (*paper).record -/
theorem rrecord_any (P base : Nat) (v1 v2 v3 : Value) (s : PS) (ow : ByteArray) (t c l : Nat) (d : ByteArray) (w : World) (h : Pp w P base v1 v2 v3 s) (ho : isN ow = true) (htt : t < 65536) (hcc : c < 65536) (hll : l < 4294967296) (hd : dataOK t c d = true) (hok : POk s) (hz : s.out.size ≤ 1099300000000) :
    Calls Tryz.prog 23 #[.pointer (some ⟨P, 0, none⟩), .agg #[.string ow, .int .i64 (t : Int), .int .i64 (c : Int), .int .i64 (l : Int), .string d]] w (PpE P base v1 v2 v3 (recP ow t c l d s) w) := by
  have HP0 : Hid (Pp (w.alloc (.cells #[.string ow, .int .i64 (t : Int), .int .i64 (c : Int), .int .i64 (l : Int), .string d] 59)) P base v1 v2 v3 s) := ⟨h.1.alloc _, h.2⟩
  have HF0 : Hid (Fq w (w.alloc (.cells #[.string ow, .int .i64 (t : Int), .int .i64 (c : Int), .int .i64 (l : Int), .string d] 59)) (own3 P v1 v2 v3) (own3 P v1 v2 v3)) := Fq.none (World.grownBy_alloc w _ Option.none) _
  have HX0 : Hid (Bx (w.alloc (.cells #[.string ow, .int .i64 (t : Int), .int .i64 (c : Int), .int .i64 (l : Int), .string d] 59)) w.heap.size #[.string ow, .int .i64 (t : Int), .int .i64 (c : Int), .int .i64 (l : Int), .string d] 59) := World.alloc_heap_new w _
  have HNB : Hid (¬ own3 P v1 v2 v3 w.heap.size) := fun e => by have := h.1.hi _ e; omega
  have HHO := hide' ho
  have HHD := hide' hd
  have HOK := hide' hok
  have x0 := HX0.out.cell (j := 0) rfl
  have HS := hide' (name_size ho s)
  have HO1 := hide' (name_pok ho hok)
  have hsz : ow.size ≤ 255 := ((isN_iff ow).1 ho).1
  have hdd := (datOK_of hd).1
  have HRH := hide' (recH_at ow t c l s)
  have HPO := hide' (recH_pok ho t c l hok)
  have htl := hok.2
  have had1 : ∀ W : World, (Op.stringOp .add (numB t 2) (numB c 2)).run Tryz.prog W = .ok (.string (numB t 2 ++ numB c 2)) W := fun W => run_string_add_sum W _ _ (by rw [numB_size, numB_size]; decide)
  have had2 : ∀ W : World, (Op.stringOp .add (numB t 2 ++ numB c 2) (numB l 4)).run Tryz.prog W = .ok (.string ((numB t 2 ++ numB c 2) ++ numB l 4)) W := fun W => run_string_add_sum W _ _ (by rw [ByteArray.size_append, numB_size, numB_size, numB_size]; decide)
  have HN8 : Hid (((numB t 2 ++ numB c 2) ++ numB l 4).size = 8) := by unfold Hid; rw [ByteArray.size_append, ByteArray.size_append, numB_size, numB_size, numB_size]
  clear h ho hd hok
  go_enter Tryz.func23, Tryz.ntmps23
  go_wp2_with (go_at_call 22; refine (rname_any P base v1 v2 v3 s ow _ HP0.out HHO.out HOK.out.1 (by omega) (by omega)).mono ?_; rintro e w1 ⟨rfl, t1, t2, t3, r1, r2⟩; have HP1 := hide' r1; have HF1 := hide' (HF0.out.trans r2); have HX1 := hide' (r2.bx HX0.out HNB.out).1; have HNB1 := hide' (r2.bx HX0.out HNB.out).2; clear r1 r2; have z11 := HX1.out.cell (j := 1) rfl; have z21 := HX1.out.cell (j := 2) rfl; have z31 := HX1.out.cell (j := 3) rfl; have T1 : Hid True := trivial)

  go_region_with (first
    | (go_at_call 21; have _ := T1; clear T1; refine (refNumber_any 2 t _ (by omega) (by omega)).mono ?_; rintro e w2 ⟨rfl, hB⟩; have HP2 : Hid (Pp w2 P base t1 t2 t3 (nameL (labs ow) s)) := (by first | exact HP1.out.below hB | exact HP1.out.drew.below hB); have HF2 : Hid (Fq w w2 (own3 P v1 v2 v3) (own3 P t1 t2 t3)) := (by first | exact HF1.out.trans (Fq.of hB _) | exact (HF1.out.trans (Fq.drew _ _)).trans (Fq.of hB _)); have HX2 : Hid (Bx w2 w.heap.size #[.string ow, .int .i64 (t : Int), .int .i64 (c : Int), .int .i64 (l : Int), .string d] 59) := (by first | exact HX1.out.below hB HX1.out.lt | exact Bx.below (w := w1.drew) HX1.out hB HX1.out.lt); have z12 := HX2.out.cell (j := 1) rfl; have z22 := HX2.out.cell (j := 2) rfl; have z32 := HX2.out.cell (j := 3) rfl; have T2 : Hid True := trivial; clear hB)
    | (go_at_call 21; have _ := T2; clear T2; refine (refNumber_any 2 c _ (by omega) (by omega)).mono ?_; rintro e w3 ⟨rfl, hB⟩; have HP3 : Hid (Pp w3 P base t1 t2 t3 (nameL (labs ow) s)) := (by first | exact HP2.out.below hB | exact HP2.out.drew.below hB); have HF3 : Hid (Fq w w3 (own3 P v1 v2 v3) (own3 P t1 t2 t3)) := (by first | exact HF2.out.trans (Fq.of hB _) | exact (HF2.out.trans (Fq.drew _ _)).trans (Fq.of hB _)); have HX3 : Hid (Bx w3 w.heap.size #[.string ow, .int .i64 (t : Int), .int .i64 (c : Int), .int .i64 (l : Int), .string d] 59) := (by first | exact HX2.out.below hB HX2.out.lt | exact Bx.below (w := w2.drew) HX2.out hB HX2.out.lt); have z13 := HX3.out.cell (j := 1) rfl; have z23 := HX3.out.cell (j := 2) rfl; have z33 := HX3.out.cell (j := 3) rfl; have T3 : Hid True := trivial; clear hB)
    | (go_at_call 21; have _ := T3; clear T3; refine (refNumber_any 4 l _ (by omega) (by omega)).mono ?_; rintro e w4 ⟨rfl, hB⟩; have HP4 : Hid (Pp w4 P base t1 t2 t3 (nameL (labs ow) s)) := (by first | exact HP3.out.below hB | exact HP3.out.drew.below hB); have HF4 : Hid (Fq w w4 (own3 P v1 v2 v3) (own3 P t1 t2 t3)) := (by first | exact HF3.out.trans (Fq.of hB _) | exact (HF3.out.trans (Fq.drew _ _)).trans (Fq.of hB _)); have HX4 : Hid (Bx w4 w.heap.size #[.string ow, .int .i64 (t : Int), .int .i64 (c : Int), .int .i64 (l : Int), .string d] 59) := (by first | exact HX3.out.below hB HX3.out.lt | exact Bx.below (w := w3.drew) HX3.out hB HX3.out.lt); have z14 := HX4.out.cell (j := 1) rfl; have z24 := HX4.out.cell (j := 2) rfl; have z34 := HX4.out.cell (j := 3) rfl; have T4 : Hid True := trivial; clear hB)
    | (go_at_call 20; refine Calls.mono (show Calls Tryz.prog 20 _ _ (fun e w' => e = .returned (.tuple #[]) ∧ ∃ t4 t5 t6, Pp w' P base t4 t5 t6 ⟨(nameL (labs ow) s).out ++ ((numB t 2 ++ numB c 2) ++ numB l 4), (nameL (labs ow) s).tab⟩ ∧ Fq w w' (own3 P v1 v2 v3) (own3 P t4 t5 t6) ∧ Bx w' w.heap.size #[.string ow, .int .i64 (t : Int), .int .i64 (c : Int), .int .i64 (l : Int), .string d] 59 ∧ ¬ own3 P t4 t5 t6 w.heap.size) by first | exact put_on HP4.out HF4.out HX4.out HNB1.out (by have := HS.out; omega) (by rw [HN8.out]; omega) | exact put_on HP4.out.drew (HF4.out.trans (Fq.drew _ _)) HX4.out HNB1.out (by have := HS.out; omega) (by rw [HN8.out]; omega)) ?_; rintro e w5 ⟨rfl, t4, t5, t6, r1, r2, r3, r4⟩; have HP5 := hide' r1; have HF5 := hide' r2; have HX5 := hide' r3; have HNB5 := hide' r4; clear r1 r2 r3 r4))
  all_goals
    obtain ⟨S2, hS2⟩ : ∃ S2 : PS, ⟨(nameL (labs ow) s).out ++ ((numB t 2 ++ numB c 2) ++ numB l 4), (nameL (labs ow) s).tab⟩ = S2 := ⟨_, rfl⟩
    have hS2z : S2.out.size = (nameL (labs ow) s).out.size + 8 := by rw [← hS2]; show (_ ++ _ : ByteArray).size = _; rw [ByteArray.size_append, HN8.out]
    have HR2 : Hid (recH ow t c l s = ⟨S2.out ++ ⟨#[0, 0]⟩, S2.tab⟩) := by unfold Hid; rw [HRH.out, ← hS2]
    rw [hS2] at HP5
    have hS3 : s.out.size ≤ S2.out.size ∧ S2.out.size ≤ s.out.size + 263 := by have := HS.out; omega
    clear hS2 hS2z HRH HS
    obtain ⟨g5, c5, rfl⟩ : ∃ p cc, t4 = .slice p S2.out.size cc := by obtain ⟨p, cc, e, _⟩ := own_shape HP5.out.1.r1.own; exact ⟨p, cc, e⟩
    have q5 := HP5.out.1.bx.cell (j := 0) rfl
    go_upto_region 5 with (go_at_call 20; refine (pput_any P base _ t5 t6 S2 ⟨#[0, 0]⟩ _ HP5.out (by omega) (by decide)).mono ?_; rintro e w6 ⟨rfl, t7, t8, t9, r1, r2⟩; have HP6 := hide' r1; have HF6 := hide' (HF5.out.trans r2); have HX6 := hide' (r2.bx HX5.out HNB5.out).1; have HNB6 := hide' (r2.bx HX5.out HNB5.out).2; have z6 := HX6.out.cell (j := 4) rfl; clear r1 r2)
    rename_i K hK
    have HK := hide' hK
    clear hK
    go_wp2_with fail
    refine HK.out _ _ ?_
    rw [← HR2.out] at HP6
    have hSz : (recH ow t c l s).out.size = S2.out.size + 2 := by rw [HR2.out]; show (_ ++ _ : ByteArray).size = _; rw [ByteArray.size_append]; rfl
    have hrp : recP ow t c l d s = ⟨putAt (dataP t d (recH ow t c l s)).out S2.out.size [((dataP t d (recH ow t c l s)).out.size - S2.out.size - 2) / 256, ((dataP t d (recH ow t c l s)).out.size - S2.out.size - 2) % 256], (dataP t d (recH ow t c l s)).tab⟩ := by
      unfold recP
      rw [hSz, Nat.add_sub_cancel, Nat.sub_sub]
    rw [hrp]
    by_cases hd0 : d.size = 0
    · have hde := size_zero_empty hd0
      have hdp : dataP t d (recH ow t c l s) = recH ow t c l s := by
        unfold dataP
        rw [if_pos (.inl hd0), hde, app_empty]
      rw [hdp]
      exact rec_none P base S2.out.size w.heap.size v1 v2 v3 t7 t8 t9 (recH ow t c l s) ow t c l d w w6 HP6 HF6 HX6 HNB6 HPO hSz.symm (by omega) hde _ _ _ _ _ _ _ _ _ _ _ _ _ _ _ _ _ _ _ _ _ _ _ _ _ _ _ _ _ _ _ _ _ _ _ _ _ _ _ _ _ _ _ _ _ _ _ _ _ _ _ _ _ _ _ _ _ _ _ _ _ _ _ _ _ _ _ _ _ _ _ _ _ _ _ _ _ _ _ _ _ _ _ _ _ _ _ _ _ _ _ _ _
    · obtain ⟨d', s', hb, hp⟩ := dataP_bd HHD.out hd0 (recH ow t c l s)
      rw [hp]
      exact rec_some P base S2.out.size w.heap.size v1 v2 v3 t7 t8 t9 (recH ow t c l s) ow t c l d w w6 HP6 HF6 HX6 HNB6 HPO hSz.symm (by omega) hd0 hdd d' s' hb _ _ _ _ _ _ _ _ _ _ _ _ _ _ _ _ _ _ _ _ _ _ _ _ _ _ _ _ _ _ _ _ _ _ _ _ _ _ _ _ _ _ _ _ _ _ _ _ _ _ _ _ _ _ _ _ _ _ _ _ _ _ _ _ _ _ _ _ _ _ _ _ _ _ _ _ _ _ _ _ _ _ _ _ _ _ _ _ _ _ _ _ _
end Go.Proofs.YtjnmbgmdkkiidaaGreat
