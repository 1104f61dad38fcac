import Derived.Test.YtjnmbgmdkkiidaaGreatOw1G
namespace Go.Proofs.YtjnmbgmdkkiidaaGreat
set_option linter.unusedVariables false
open Go.RowKit Go.Shelf Go.Maps Go.Proofs.YtjnmbgmdkkiidaaGreat.Nm

theorem Tryz.strKeyed : Keyed Tryz.prog 9 := string_keyed Tryz.underlying9
theorem Tryz.zeroInt (w : World) : (zeroValue 3).run Tryz.prog w = .ok (.int .i64 0) w := by kernel_rfl
def szV : Value → Nat
  | .string s => s.size
  | _ => 0
theorem putB_ne {x : ByteArray} {l : List ByteArray} (hx : 0 < x.size) (h : x.size ≤ 63) : putB (x :: l) ≠ ⟨#[0]⟩ := fun e => by
  have h1 : bt (putB (x :: l)) 0 = x.size := by
    rw [putB_cons, bt_append_left _ _ _ (by rw [chunk_size]; omega), bt_chunk _ (by omega)]
  rw [e] at h1
  have : bt (⟨#[0]⟩ : ByteArray) 0 = 0 := by decide
  omega

theorem extract_left (a b : ByteArray) : (a ++ b).extract 0 a.size = a := by
  have := ByteArray.extract_append_eq_left (a := a) (b := b) (i := a.size) rfl
  simpa using this
theorem extract_right (a b : ByteArray) : (a ++ b).extract a.size (a ++ b).size = b := by
  have h := ByteArray.extract_append_eq_right (a := a) (b := b) (i := a.size) (j := (a ++ b).size) rfl (by rw [ByteArray.size_append])
  exact h
theorem Fz.ofDrew {w w2 : World} {P Mb : Nat} {v : Value} (h : Fz w.drew w2 P Mb v) : Fz w w2 P Mb v := ⟨h.os, h.tape, h.output, h.size, h.block⟩
theorem Loc.ofDrew {w : World} {v v' : Value} (h : Loc w.drew v v') : Loc w v v' := h
/-- a place is noted -/
theorem Pk.note {w w1 : World} {P Mb base : Nat} {v : Value} {s : PS} {n : ByteArray} {p : Nat} (h : Pk w P Mb base v s) (hown : w1.ownsMap Tryz.prog 9 (plainElem (H := Unit) Tryz.prog 3) Mb (s.tab.length + 1) ((List.foldr (fun (x : ByteArray × Nat) (d : DataW Unit) => d.put (.string x.1.data.toList) (.lit (.int .i64 (x.2 : Int)))) (.map []) s.tab).put (.string n.data.toList) (.lit (.int .i64 (p : Int))))) (hg : w.grownBy w1 (some Mb)) :
    Pk w1 P Mb base v ⟨s.out, (n, p) :: s.tab⟩ ∧ Fz w w1 P Mb v :=
  ⟨⟨h.bx.grown hg (fun e => h.PM (Option.some.inj e).symm), own_blk h.own (fun g e => hg.block g (h.own.lt g e).2 (fun e2 => h.nM (by rw [e, e2]))), hown, h.bP, h.bM, h.nP, h.nM, h.PM⟩, (Fz.refl w P Mb v).step hg (fun q e _ => by injection e with e; exact .inr (.inl e.symm))⟩

set_option maxRecDepth 100000 in
set_option maxHeartbeats 1000000 in
/-- (*packer).name -/
theorem pname_any (P Mb base : Nat) (v : Value) (s : PS) (n : ByteArray) (w : World) (h : Pk w P Mb base v s) (hn : isN n = true) (hok : TabOK s.tab) (ht : s.tab.length ≤ 1099511000000) (hz : s.out.size ≤ 1099510000000) :
    Calls Tryz.prog 57 #[.pointer (some ⟨P, 0, none⟩), .string n] w (PkE P Mb base v (nameL (labs n) s) w) := by
  have HP := hide' h
  have hN : n = putB (labs n) := (putB_labs hn).symm
  have hsz : n.size ≤ 255 := ((isN_iff n).1 hn).1
  go_enter Tryz.func57, Tryz.ntmps57
  go_wp2
  go_loopw [1] (fun nv wr => ∃ (l : List ByteArray) (v' : Value) (s' : PS), nv = .string (putB l) ∧ OkL l ∧ (putB l).size ≤ 255 ∧ Hid (nameL (labs n) s = nameL l s') ∧ Hid (Pk wr P Mb base v' s') ∧ Hid (Fz w wr P Mb v) ∧ Hid (Loc w v v') ∧ Hid (TabOK s'.tab) ∧ s'.tab.length + (putB l).size ≤ s.tab.length + 255 ∧ s'.out.size + (putB l).size ≤ s.out.size + 255) (fun nv _ => szV nv)
  case atStart => exact ⟨labs n, v, s, by rw [← hN], okL_labs n, by rw [← hN]; exact hsz, rfl, HP, Fz.refl _ _ _ _, Loc.refl _ _, hok, by rw [← hN]; omega, by rw [← hN]; omega⟩
  case round =>
    clear HP h hN hsz
    obtain ⟨l, v', s', rfl, hl, hl255, HE, H, HF, HL, HT, hb1, hb2⟩ := hrel
    cases l with
    | nil =>
      have hc : ((putB []).toList == [0]) = true := by rw [labs_nil_putB, toList_eq]; decide
      go_wp2_with (go_at_call 65; refine (wtext_any P Mb base v' s' ⟨#[0]⟩ wr H.out (by omega) (by decide)).mono ?_; rintro e w7 ⟨rfl, v7, r1, r2, r3⟩)
      go_end0
      rw [HE.out]
      exact ⟨rfl, v7, r1, HF.out.trans r2 HL.out, HL.out.trans HF.out r3⟩
    | cons x l =>
      obtain ⟨hx0, hx63⟩ := hl x List.mem_cons_self
      have hc : ((putB (x :: l)).toList == [0]) = false := by
        rw [beq_eq_false_iff_ne]
        intro e
        exact putB_ne (l := l) hx0 hx63 (toList_inj.1 (e.trans (by rw [toList_eq])))
      have hp : (putB (x :: l)).size = 1 + x.size + (putB l).size := by rw [putB_cons, ByteArray.size_append, chunk_size]
      have hpl : 1 ≤ (putB l).size := by rw [putB_size]; omega
      have q1 : wr.cell? ⟨P, 1, none⟩ = some (.map (some Mb)) := H.out.bx.cell rfl
      have hkey : keyOf Tryz.prog 9 (.string (putB (x :: l))) = some (.string (putB (x :: l)).data.toList) := WideMaps.keyOf_string_mk Tryz.underlying9 (by unfold maxLen; omega)
      cases hf : tabF s'.tab (putB (x :: l)) with
      | some pl =>
        have hple := HT.out.le hf
        have hhas : Maps.has (List.foldr (fun (x : ByteArray × Nat) (d : DataW Unit) => d.put (.string x.1.data.toList) (.lit (.int .i64 (x.2 : Int)))) (.map []) s'.tab) (.string (putB (x :: l)).data.toList) = true := by rw [tabD_has, hf]; rfl
        have HAt := hide' (tabD_at s'.tab (putB (x :: l)) pl (.lit (.int .i64 0)) hf)
        have hor : bits .or .i64 49152 (pl : Int) = ((49152 + pl : Nat) : Int) := by
          have := or_shl 14 3 pl (by decide) (by omega) (by omega)
          simpa using this
        have HR : Hid (nameL (x :: l) s' = ⟨s'.out ++ numB (49152 + pl) 2, s'.tab⟩) := by unfold Hid nameL; rw [hf]
        go_wp2_with (first
          | (at_lookup; refine wpList_lookup_own_ok_int _ rfl _ _ 45 rfl 9 3 .i64 Tryz.strKeyed Tryz.underlying45 Tryz.underlying3 (Tryz.zeroInt _) Mb _ (List.foldr (fun (x : ByteArray × Nat) (d : DataW Unit) => d.put (.string x.1.data.toList) (.lit (.int .i64 (x.2 : Int)))) (.map []) s'.tab) rfl H.out.mp _ _ rfl hkey ?_; intro c hat hwc; rw [HAt.out] at hat; injection hat with hat; injection hat with _ hat; subst hat)
          | (go_at_call 55; refine (wnum2_any P Mb base v' s' (49152 + pl) wr H.out (by omega) (by omega)).mono ?_; rintro e w7 ⟨rfl, v7, r1, r2, r3⟩))
        go_end0
        rw [HE.out, HR.out]
        exact ⟨rfl, v7, r1, HF.out.trans r2 HL.out, HL.out.trans HF.out r3⟩
      | none =>
        have hhas : Maps.has (List.foldr (fun (x : ByteArray × Nat) (d : DataW Unit) => d.put (.string x.1.data.toList) (.lit (.int .i64 (x.2 : Int)))) (.map []) s'.tab) (.string (putB (x :: l)).data.toList) = false := by rw [tabD_has, hf]; rfl
        have hb0 : bt (putB (x :: l)) 0 = x.size := by
          rw [putB_cons, bt_append_left _ _ _ (by rw [chunk_size]; omega), bt_chunk _ (by omega)]
        obtain ⟨y, hy, hby, hy256⟩ := bt_wrap (s := putB (x :: l)) (i := 0) (by omega)
        have hyx : y = x.size := by omega
        have hx1 : (putB (x :: l)).extract 0 (1 + x.size) = chunk x := by
          rw [putB_cons, ← chunk_size x]; exact extract_left _ _
        have hx2 : (putB (x :: l)).extract (1 + x.size) (putB (x :: l)).size = putB l := by
          rw [putB_cons, ← chunk_size x]; exact extract_right _ _
        rw [hp] at hx2
        subst hyx
        obtain ⟨p0, c0, rfl, _⟩ := own_shape H.out.own
        have q0 := H.out.c0
        have hcs := chunk_size x
        by_cases h16 : s'.out.size ≤ 16383
        · have HR : Hid (nameL (x :: l) s' = nameL l ⟨s'.out ++ chunk x, (putB (x :: l), s'.out.size) :: s'.tab⟩) := by unfold Hid; rw [nameL, hf]; simp only; rw [if_pos h16]
          go_wp2_with (first
            | (at_lookup; refine wpList_lookup_own_ok_int _ rfl _ _ 45 rfl 9 3 .i64 Tryz.strKeyed Tryz.underlying45 Tryz.underlying3 (Tryz.zeroInt _) Mb _ (List.foldr (fun (x : ByteArray × Nat) (d : DataW Unit) => d.put (.string x.1.data.toList) (.lit (.int .i64 (x.2 : Int)))) (.map []) s'.tab) rfl H.out.mp _ _ rfl hkey ?_; intro c hat hwc; clear hat hwc)
            | (at_mapUpdate; refine wpList_mapUpdate_own _ rfl _ _ _ 45 rfl 9 3 Tryz.strKeyed Tryz.underlying45 _ Mb _ _ rfl H.out.mp (by unfold maxLen; omega) _ _ _ rfl rfl hkey _ [] (plainElem_int Tryz.underlying3 (WalkArith.wf_i64 (by omega))) ?_; intro w1 hown1 hgrow1; have H1 := hide' (H.out.note hown1 hgrow1); clear hown1 hgrow1))
          go_region_with (go_at_call 65; refine (wtext_any P Mb base _ _ (chunk x) _ H1.out.1.drew (by show s'.out.size ≤ _; omega) (by omega)).mono ?_; rintro e w7 ⟨rfl, v7, r1, r2, r3⟩; have R1 := hide' r1; have R2 := hide' r2; have R3 := hide' r3; clear r1 r2 r3)
          have HF1 := HF.out.trans H1.out.2 HL.out
          go_wp2
          go_roundw
          case rel => exact ⟨l, v7, _, by first | rfl | rw [hx2], fun y hy => hl y (List.mem_cons_of_mem _ hy), by omega, by unfold Hid; rw [HE.out, HR.out], R1, HF1.trans R2.out.ofDrew HL.out, HL.out.trans HF1 R3.out.ofDrew, (fun y hy => by rcases List.mem_cons.1 hy with rfl | hy; exact ⟨h16, hl255⟩; exact HT.out y hy), by simp only [List.length_cons]; omega, by show (s'.out ++ chunk x).size + _ ≤ _; rw [ByteArray.size_append]; omega⟩
          case measure => simp only [hx2, szV]; omega
        · have HR : Hid (nameL (x :: l) s' = nameL l ⟨s'.out ++ chunk x, s'.tab⟩) := by unfold Hid; rw [nameL, hf]; simp only; rw [if_neg h16]
          go_wp2_with (first
            | (at_lookup; refine wpList_lookup_own_ok_int _ rfl _ _ 45 rfl 9 3 .i64 Tryz.strKeyed Tryz.underlying45 Tryz.underlying3 (Tryz.zeroInt _) Mb _ (List.foldr (fun (x : ByteArray × Nat) (d : DataW Unit) => d.put (.string x.1.data.toList) (.lit (.int .i64 (x.2 : Int)))) (.map []) s'.tab) rfl H.out.mp _ _ rfl hkey ?_; intro c hat hwc; clear hat hwc)
            | fail)
          go_region_with (go_at_call 65; refine (wtext_any P Mb base _ _ (chunk x) _ H.out.drew (by omega) (by omega)).mono ?_; rintro e w7 ⟨rfl, v7, r1, r2, r3⟩; have R1 := hide' r1; have R2 := hide' r2; have R3 := hide' r3; clear r1 r2 r3)
          have HF1 := HF.out
          go_wp2
          go_roundw
          case rel => exact ⟨l, v7, _, by first | rfl | rw [hx2], fun y hy => hl y (List.mem_cons_of_mem _ hy), by omega, by unfold Hid; rw [HE.out, HR.out], R1, HF1.trans R2.out.ofDrew HL.out, HL.out.trans HF1 R3.out.ofDrew, HT, by show s'.tab.length + _ ≤ _; omega, by show (s'.out ++ chunk x).size + _ ≤ _; rw [ByteArray.size_append]; omega⟩
          case measure => simp only [hx2, szV]; omega
end Go.Proofs.YtjnmbgmdkkiidaaGreat

namespace Go.Proofs.YtjnmbgmdkkiidaaGreat
set_option linter.unusedVariables false
open Go.RowKit Go.Shelf Go.Maps Go.Proofs.YtjnmbgmdkkiidaaGreat.Nm

/-- what is noted lies low, and is not more than was written -/
def POk (s : PS) : Prop := TabOK s.tab ∧ s.tab.length ≤ s.out.size
theorem nameL_pok : ∀ (l : List ByteArray) (s : PS), POk s → (putB l).size ≤ 255 → POk (nameL l s)
  | [], s, h, _ => ⟨h.1, by show s.tab.length ≤ (s.out ++ _).size; rw [ByteArray.size_append]; exact Nat.le_trans h.2 (Nat.le_add_right _ _)⟩
  | x :: l, s, h, hs => by
    unfold nameL
    have hp : (putB (x :: l)).size = 1 + x.size + (putB l).size := by rw [putB_cons, ByteArray.size_append, chunk_size]
    cases e : tabF s.tab (putB (x :: l)) with
    | some p => exact ⟨h.1, by show s.tab.length ≤ (s.out ++ _).size; rw [ByteArray.size_append]; exact Nat.le_trans h.2 (Nat.le_add_right _ _)⟩
    | none =>
      refine nameL_pok l _ ?_ (by omega)
      by_cases hz : s.out.size ≤ 16383
      · rw [if_pos hz]
        refine ⟨fun y hy => ?_, ?_⟩
        · rcases List.mem_cons.1 hy with rfl | hy
          · exact ⟨hz, hs⟩
          · exact h.1 y hy
        · show s.tab.length + 1 ≤ (s.out ++ chunk x).size
          rw [ByteArray.size_append, chunk_size]; have := h.2; omega
      · rw [if_neg hz]
        refine ⟨h.1, ?_⟩
        show s.tab.length ≤ (s.out ++ chunk x).size
        rw [ByteArray.size_append]; have := h.2; omega
theorem POk.more {s : PS} (h : POk s) (t : ByteArray) : POk ⟨s.out ++ t, s.tab⟩ := ⟨h.1, by show s.tab.length ≤ (s.out ++ t).size; rw [ByteArray.size_append]; exact Nat.le_trans h.2 (Nat.le_add_right _ _)⟩
/-- (*packer).question -/
def quesP (n : ByteArray) (t c : Nat) (s : PS) : PS := ⟨(nameL (labs n) s).out ++ numB t 2 ++ numB c 2, (nameL (labs n) s).tab⟩
theorem name_pok {n : ByteArray} (hn : isN n = true) {s : PS} (h : POk s) : POk (nameL (labs n) s) := nameL_pok _ _ h (by rw [putB_labs hn]; exact ((isN_iff n).1 hn).1)
theorem name_size {n : ByteArray} (hn : isN n = true) (s : PS) : (nameL (labs n) s).out.size ≤ s.out.size + n.size ∧ s.out.size < (nameL (labs n) s).out.size := by
  have := nameL_size (labs n) s
  rw [putB_labs hn] at this
  exact this
theorem quesP_pok {n : ByteArray} (hn : isN n = true) (t c : Nat) {s : PS} (h : POk s) : POk (quesP n t c s) := ((name_pok hn h).more (numB t 2)).more (numB c 2)
theorem quesP_size (n : ByteArray) (t c : Nat) (s : PS) : (quesP n t c s).out.size = (nameL (labs n) s).out.size + 4 := by
  unfold quesP
  show ((_ ++ _) ++ _ : ByteArray).size = _
  rw [ByteArray.size_append, ByteArray.size_append, numB_size, numB_size]
/-- one behind the other -/
theorem PkE.andThen {P Mb base : Nat} {v v1 v2 : Value} {w w1 w2 : World} (hf : Fz w w1 P Mb v) (hl : Loc w v v1) (hf2 : Fz w1 w2 P Mb v1) (hl2 : Loc w1 v1 v2) : Fz w w2 P Mb v ∧ Loc w v v2 := ⟨hf.trans hf2 hl, hl.trans hf hl2⟩

/-- a box beside the packer -/
structure Bs (w : World) (P Mb X : Nat) (v : Value) (cs : Array Value) (T : TypeId) : Prop where
  bx : Bx w X cs T
  nP : X ≠ P
  nM : X ≠ Mb
  nv : v.ownBlock ≠ some X
theorem Bs.new {w : World} {P Mb base : Nat} {v : Value} {s : PS} (h : Pk w P Mb base v s) (cs : Array Value) (T : TypeId) : Bs (w.alloc (.cells cs T)) P Mb w.heap.size v cs T := by
  obtain ⟨l1, l2, l3⟩ := h.lt
  exact ⟨World.alloc_heap_new w _, by omega, by omega, fun e => by have := (h.own.lt _ e).2; omega⟩
theorem Bs.step {w w1 : World} {P Mb X : Nat} {v v1 : Value} {cs : Array Value} {T : TypeId} (h : Bs w P Mb X v cs T) (hf : Fz w w1 P Mb v) (hl : Loc w v v1) : Bs w1 P Mb X v1 cs T :=
  ⟨(hf.block X h.bx.lt h.nP h.nM h.nv).trans h.bx, h.nP, h.nM, fun e => by
    rcases hl X e with e | e
    · exact h.nv e
    · have := h.bx.lt; omega⟩
theorem Fz.alloc (w : World) (P Mb : Nat) (v : Value) (o : Obj) : Fz w (w.alloc o) P Mb v := (Fz.refl w P Mb v).step (World.grownBy_alloc w o none) (fun q e => by cases e)

set_option maxRecDepth 100000 in
set_option maxHeartbeats 1000000 in
/-- (*packer).question -/
theorem pquestion_any (P Mb base : Nat) (v : Value) (s : PS) (n : ByteArray) (t c : Nat) (w : World) (h : Pk w P Mb base v s) (hn : isN n = true) (htt : t < 65536) (hcc : c < 65536) (hok : POk s) (hz : s.out.size ≤ 1099500000000) :
    Calls Tryz.prog 40 #[.pointer (some ⟨P, 0, none⟩), .agg #[.string n, .int .i64 (t : Int), .int .i64 (c : Int)]] w (PkE P Mb base v (quesP n t c s) w) := by
  have HP := hide' (h.alloc (.cells #[.string n, .int .i64 (t : Int), .int .i64 (c : Int)] 57))
  have HB := hide' (Bs.new h #[.string n, .int .i64 (t : Int), .int .i64 (c : Int)] 57)
  have HF := hide' (Fz.alloc w P Mb v (.cells #[.string n, .int .i64 (t : Int), .int .i64 (c : Int)] 57))
  have HL := hide' (Loc.refl w v)
  have hsz : n.size ≤ 255 := ((isN_iff n).1 hn).1
  have hs1 := (name_size hn s).1
  have ht := hok.2
  have F1 : Hid True := trivial
  clear h
  go_enter Tryz.func40, Tryz.ntmps40
  go_wp2_with (go_at_call 57; refine (pname_any P Mb base v s n _ HP.out hn hok.1 (by omega) (by omega)).mono ?_; rintro e w1 ⟨rfl, v1, r1, r2, r3⟩; have R1 := hide' r1; have HB1 := hide' (HB.out.step r2 r3); have q1 : w1.cell? ⟨w.heap.size, 1, none⟩ = some (.int .i64 (t : Int)) := HB1.out.bx.cell rfl; have HF1 := hide' (HF.out.trans r2 HL.out); have HL1 := hide' (HL.out.trans HF.out r3); clear r1 r2 r3)
  go_region_with (go_at_call 55; refine (wnum2_any P Mb base v1 _ t _ R1.out.drew (by omega) htt).mono ?_; rintro e w2 ⟨rfl, v2, r1, r2, r3⟩; have S1 := hide' r1; have q2 : w2.cell? ⟨w.heap.size, 2, none⟩ = some (.int .i64 (c : Int)) := (HB1.out.step r2.ofDrew r3.ofDrew).bx.cell rfl; have HF2 := hide' (HF1.out.trans r2.ofDrew HL1.out); have HL2 := hide' (HL1.out.trans HF1.out r3.ofDrew); clear r1 r2 r3)
  go_wp2
  go_region_with (go_at_call 55; refine (wnum2_any P Mb base v2 _ c _ S1.out.drew (by show ByteArray.size (_ ++ _) ≤ _; rw [ByteArray.size_append, numB_size]; omega) hcc).mono ?_; rintro e w3 ⟨rfl, v3, r1, r2, r3⟩; have T1 := hide' r1; have HF3 := hide' (HF2.out.trans r2.ofDrew HL2.out); have HL3 := hide' (HL2.out.trans HF2.out r3.ofDrew); clear r1 r2 r3)
  go_wp2
  go_end0
  exact ⟨rfl, v3, T1.out, HF3.out, HL3.out⟩
end Go.Proofs.YtjnmbgmdkkiidaaGreat
