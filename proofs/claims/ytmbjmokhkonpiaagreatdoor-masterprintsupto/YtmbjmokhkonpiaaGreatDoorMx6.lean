import Derived.Test.YtmbjmokhkonpiaaGreatDoorMx0G
import Derived.Test.YtmbjmokhkonpiaaGreatDoorMx3G
import Derived.Test.YtmbjmokhkonpiaaGreatDoorDbfG
import Derived.Test.YtmbjmokhkonpiaaGreatDoorRn0G
import Derived.Deep.RegionHeld3
import Derived.Shelf.RegionOpen
/-
  Proofs: master.Print, of records that may be printed. (The verifier's own text.)
-/
namespace Go.Proofs.YtmbjmokhkonpiaaGreatDoor
set_option linter.unusedVariables false
set_option linter.unusedSimpArgs false
open Go.RowKit Go.Shelf Go.Proofs.YtmbjmokhkonpiaaGreatDoor.Nm

theorem RcOk.zon {x : Rn} (h : RcOk x) : zonB x.o x.d x.t x.c x.l = true := by
  obtain ⟨ps, hp⟩ := h.p
  unfold zonB
  rw [h.o, errD_of_parts hp]
  simp [h.c, h.l0, h.l1]
/-- the four words of a line, as they are written -/
def wd4 (a b d : ByteArray) : List ByteArray := [a, ⟨#[73, 78]⟩, b, d]
def wdT : List ByteArray → ByteArray
  | [] => ⟨#[]⟩
  | x :: l => (⟨#[9]⟩ ++ x) ++ wdT l
theorem wdT_app : ∀ a b : List ByteArray, wdT (a ++ b) = wdT a ++ wdT b
  | [], b => ByteArray.empty_append.symm
  | x :: a, b => by
    show (⟨#[9]⟩ ++ x) ++ wdT (a ++ b) = ((⟨#[9]⟩ ++ x) ++ wdT a) ++ wdT b
    rw [wdT_app a b]
    simp only [ByteArray.append_assoc]
theorem wdT_take {L : List ByteArray} {j : Nat} (h : j < L.length) : wdT (L.take (j + 1)) = wdT (L.take j) ++ (⟨#[9]⟩ ++ L[j]) := by
  rw [List.take_add_one, List.getElem?_eq_getElem h, Option.toList_some, wdT_app]
  show _ ++ ((⟨#[9]⟩ ++ L[j]) ++ (⟨#[]⟩ : ByteArray)) = _
  rw [show ((⟨#[9]⟩ ++ L[j]) ++ (⟨#[]⟩ : ByteArray)) = ⟨#[9]⟩ ++ L[j] from ByteArray.append_empty]
theorem wdT_le (L : List ByteArray) (j : Nat) : (wdT (L.take j)).size ≤ (wdT L).size := by
  have h := wdT_app (L.take j) (L.drop j)
  rw [List.take_append_drop] at h
  rw [h, ByteArray.size_append]
  omega
theorem print_step (o la : ByteArray) {x : Rn} (hx : RcOk x) {T T' : List Nat} (hT : T' = T ++ liB (lineR o la x)) : bts (T ++ ownP o la x) ++ wdT (wd4 (bts (dgN x.l.toNat)) (nameT x.t) (bts (jnW (tellD x)))) ++ ⟨#[10]⟩ = bts T' := by
  rw [hT, lineR_parts o la hx]
  have e1 : (⟨#[9]⟩ : ByteArray) = bts [9] := rfl
  have e2 : (⟨#[73, 78]⟩ : ByteArray) = bts [73, 78] := rfl
  have e3 : (⟨#[10]⟩ : ByteArray) = bts [10] := rfl
  have e4 : (⟨#[]⟩ : ByteArray) = bts [] := rfl
  have e5 : nameT x.t = bts (lsB (nameT x.t)) := (bts_ls _).symm
  unfold wd4 wdT wdT wdT wdT wdT
  rw [e1, e2, e3, e4, e5]
  simp only [← bts_append]
  congr 1
  simp [bts_ls]
theorem own_four (w : World) (a b c d : Value) : (w.alloc (.cells #[a, b, c, d] 9)).ownsRow w.heap.size 9 1 (.slice (some ⟨w.heap.size, 0, none⟩) 4 4) 4 [a, b, c, d] :=
  ⟨rfl, Or.inr ⟨w.heap.size, 4, _, rfl, Nat.le_refl _, World.alloc_heap_new w _, Nat.le_refl _, by unfold maxLen; omega, rfl, rfl⟩⟩
theorem bwrite2_any (B b : Nat) (x s : ByteArray) (w : World) (h : Bd B b x w) (hl : x.size + s.size ≤ 1073741824) :
    Calls Tryz.prog 10 #[.pointer (some ⟨b, 0, none⟩), .string s] w fun e w' => e = .returned (.tuple #[.int .i64 s.size, .nilIface]) ∧ Bd B b (x ++ s) w' ∧ Below B w w' ∧ Lib.OthersKept 5 (some b) w w' := by
  have hx : (Lib.byteCells x.data.toList).length = x.size := by rw [Lib.byteCells_length, Array.length_toList]; rfl
  refine (writeString_any B b _ s w h.1 (by omega) h.2).mono ?_
  rintro e w' ⟨rfl, h1, h2, h3⟩
  rw [byteCells_app] at h1
  exact ⟨rfl, ⟨.inr h1, Nat.le_trans h.2 h2.size⟩, h2, h3⟩
theorem Bd.blt {B b : Nat} {x : ByteArray} {w : World} (h : Bd B b x w) : b < w.heap.size := by
  rcases h.1 with ⟨_, v, hg, _⟩ | ⟨_, v, hg, _⟩ <;> exact (Array.getElem?_eq_some_iff.1 hg).1
theorem ok_bx {w w' : World} {k b : Nat} {cs : Array Value} {T : TypeId} (h : Bx w k cs T) (ho : Lib.OthersKept 5 (some b) w w') (hk : k ≠ b) (hT : T ≠ 5) : Bx w' k cs T :=
  ho k _ h (fun e => hk (by injection e)) (fun c fz e => hT (by injection e))
theorem ok_row {w w' : World} {base size n b : Nat} {e : TypeId} {v : Value} {xs : List Value} (h : w.ownsRow base e size v n xs) (ho : Lib.OthersKept 5 (some b) w w') (hk : ∀ g, v.ownBlock = some g → g ≠ b) (hT : e ≠ 5) : w'.ownsRow base e size v n xs := by
  obtain ⟨hl, (⟨rfl, h0⟩ | ⟨g, cap, cur, rfl, hg, hb, rest⟩)⟩ := h
  · exact ⟨hl, .inl ⟨rfl, h0⟩⟩
  · exact ⟨hl, .inr ⟨g, cap, cur, rfl, hg, ho g _ hb (fun e => hk g rfl (by injection e)) (fun c fz e => hT (by injection e)), rest⟩⟩
set_option maxRecDepth 100000 in
set_option maxHeartbeats 4000000 in
theorem print_yes (R : List Rn) (o : ByteArray) (p : Option Addr) (c : Nat) (w : World) (hat : RsAt w p R) (hn : R.length ≤ 2000) (hc : R.length ≤ c ∧ c ≤ 9223372036854775807) (ho : isN o = true) (hR : ∀ x ∈ R, RcOk x) (hsum : sumD R ≤ 1048576) (hG : GD w) :
    Calls Tryz.prog 5 #[.slice p R.length c, .string o] w fun e w' => e = .returned (.tuple #[.string (bts (prT o R)), .int .i64 0]) ∧ Below w.heap.size w w' := by
  have ho255 := ((isN_iff o).1 ho).1
  have hmo : o.size ≤ maxLen := by unfold maxLen; omega
  have hchk : chk o = 0 := by unfold chk; rw [if_pos ho]
  have HC := hide' (fun V => check_any o V hmo)
  rw [hchk] at HC
  have HSo := hide' (fun V => show_any o V hmo)
  have HW : Hid (∀ (B b : Nat) (x s : ByteArray) (V : World), Bd B b x V → x.size + s.size ≤ 1073741824 → Calls Tryz.prog 10 #[.pointer (some ⟨b, 0, none⟩), .string s] V fun e w' => e = .returned (.tuple #[.int .i64 s.size, .nilIface]) ∧ Bd B b (x ++ s) w' ∧ Below B V w' ∧ Lib.OthersKept 5 (some b) V w') := fun B b x s V h hl => bwrite2_any B b x s V h hl
  have HG := hide' hG
  have hsh := (dom_ok ho).2.1
  rw [cst_plain, lsB_len] at hsh
  have HSz : Hid (∀ i, i ≤ R.length → (prT o (R.take i)).length + 104900000 ≤ 1073741824) := fun i hi => by
    have h1 := prT_len ho i R hR hi
    have h2 := sumD_take R i
    omega
  have HN0 : Hid ((⟨#[]⟩ : ByteArray) ++ ((⟨#[36, 79, 82, 73, 71, 73, 78, 32]⟩ : ByteArray) ++ showB o ++ ⟨#[10]⟩) = bts (prT o (R.take 0)) ∧ ((⟨#[36, 79, 82, 73, 71, 73, 78, 32]⟩ : ByteArray) ++ showB o ++ ⟨#[10]⟩).size ≤ 1073741824) := by
    have e : (⟨#[36, 79, 82, 73, 71, 73, 78, 32]⟩ : ByteArray) ++ showB o ++ ⟨#[10]⟩ = bts (prT o (R.take 0)) := by
      rw [List.take_zero, prT_nil, bts_append, bts_append, bts_ls, ByteArray.append_assoc]
      rfl
    have h1 := HSz.out 0 (Nat.zero_le _)
    rw [e]
    refine ⟨?_, by rw [bts_size]; omega⟩
    exact ByteArray.empty_append
  have HShO : Hid (∀ i (hi : i < R.length) V, Calls Tryz.prog 13 #[.string R[i].o, .string o] V fun e w' => e = .returned (.string (bts (ownL R[i].o o))) ∧ Below V.heap.size V w') := fun i hi V => showOwner_any _ o V (hR _ (List.getElem_mem hi)).o ho
  have HRec : Hid (∀ i (hi : i < R.length) V, Calls Tryz.prog 12 #[.agg #[.string R[i].o, .int .i64 R[i].t, .int .i64 R[i].c, .int .i64 R[i].l, .string R[i].d]] V fun r w' => r = .returned (.bool true) ∧ Below V.heap.size V w') := fun i hi V => by
    have hx := hR _ (List.getElem_mem hi)
    have h := isRecord_any R[i].o R[i].d R[i].t R[i].c R[i].l V (by have := ((isN_iff _).1 hx.o).1; unfold maxLen; omega) (by have := (tellD_len hx).2; omega)
    rwa [hx.zon] at h
  have HShD : Hid (∀ i (hi : i < R.length) V, Below w.heap.size w V → Calls Tryz.prog 14 #[.int .i64 R[i].t, .string R[i].d] V fun e w' => e = .returned (.tuple #[.string (bts (jnW (tellD R[i]))), .int .i64 0]) ∧ Below V.heap.size V w') := fun i hi V hV => by
    have hx := hR _ (List.getElem_mem hi)
    obtain ⟨ps, hp⟩ := hx.p
    obtain ⟨ks, _, _, hok⟩ := ps_ok hp
    rw [tellD_eq hp]
    exact show_yes _ _ ps V hp hok (hG.below hV)
  have HIt : Hid (∀ i (hi : i < R.length) V, Below w.heap.size w V → Calls Tryz.prog 15 #[.int .i64 R[i].l] V fun e w' => e = .returned (.string (bts (dgN R[i].l.toNat))) ∧ Below V.heap.size V w') := fun i hi V hV => by
    have hx := hR _ (List.getElem_mem hi)
    have h0 := hx.l0
    have h1 := hx.l1
    have h := itoa_any R[i].l.toNat V (hG.below hV).gw (by omega)
    rwa [show ((R[i].l.toNat : Nat) : Int) = R[i].l by omega] at h
  have HTn : Hid (∀ i (hi : i < R.length) V, Below w.heap.size w V → Calls Tryz.prog 16 #[.int .i64 R[i].t] V fun e w' => e = .returned (.string (nameT R[i].t)) ∧ Below V.heap.size V w') := fun i hi V hV => by
    have hx := hR _ (List.getElem_mem hi)
    have h0 := hx.t0
    have h1 := hx.t1
    exact typeName_any _ V (hG.below hV).gw (by omega)
  have HRk : Hid (∀ i (hi : i < R.length), RcOk R[i]) := fun i hi => hR _ (List.getElem_mem hi)
  have hnI : ¬ (2000 : Int) < (R.length : Int) := by omega
  have hso : (showB o).size ≤ 2000 := by omega
  clear hsh hchk hmo ho255 hG hsum hR
  go_enter Tryz.func5, Tryz.ntmps5
  go_wp2_with (first
    | (go_at_call 9; refine (HC.out _).mono ?_; rintro e1 w1 ⟨rfl, hB1⟩; have HBd := hide' (Bd.new w1); have HBl : Hid (Below w.heap.size w (w1.alloc (.cells #[.pointer none, .slice none 0 0] 36))) := hB1.alloc hB1.size _; have hw1 := hB1.size; clear hB1)
    | (go_at_call 11; refine (HSo.out _).mono ?_; rintro e2 w2 ⟨rfl, hB2⟩; have HBd := hide' (HBd.out.below hB2); have HBl := hide' (bstep HBl.out hB2 HBl.out.size); clear hB2)
    | (go_at_call 10; refine (HW.out _ _ _ _ _ HBd.out (by show 0 + _ ≤ _; have := HN0.out.2; omega)).mono ?_; rintro e3 w3 ⟨rfl, hb3, hB3, -⟩; rw [HN0.out.1] at hb3; have HBd := hide' hb3; have HBl := hide' (HBl.out.trans (hB3.mono hw1)); clear hB3 hb3))
  skip
  go_loopw [7, 27] (fun lv iv wr => ∃ i : Nat, lv = .string (lastO ⟨#[]⟩ (R.take i)) ∧ iv = .int .i64 (i : Int) ∧ i ≤ R.length ∧ Hid (Bd w1.heap.size w1.heap.size (bts (prT o (R.take i))) wr) ∧ Hid (Below w.heap.size w wr)) (fun _ iv _ => R.length - (intOf iv).toNat)
  case atStart => exact ⟨0, rfl, rfl, Nat.zero_le _, HBd.out, HBl.out⟩
  case round =>
    clear HBd HBl
    obtain ⟨i, rfl, rfl, hi, HBd, HBl⟩ := hrel
    by_cases hlt : i < R.length
    · obtain ⟨g, off, rfl, hg, y0, y1, y2, y3, y4⟩ := hat i hlt
      replace y0 := (HBl.out.cell (p := ⟨g, off + i * 5, none⟩) hg).trans y0
      replace y1 := (HBl.out.cell (p := ⟨g, off + i * 5 + 1, none⟩) hg).trans y1
      replace y2 := (HBl.out.cell (p := ⟨g, off + i * 5 + 2, none⟩) hg).trans y2
      replace y3 := (HBl.out.cell (p := ⟨g, off + i * 5 + 3, none⟩) hg).trans y3
      replace y4 := (HBl.out.cell (p := ⟨g, off + i * 5 + 4, none⟩) hg).trans y4
      have HNx : Hid (prT o (R.take (i + 1)) = prT o (R.take i) ++ liB (lineR o (lastO ⟨#[]⟩ (R.take i)) R[i]) ∧ lastO ⟨#[]⟩ (R.take (i + 1)) = R[i].o) := by
        have e : R.take (i + 1) = R.take i ++ [R[i]] := by rw [List.take_add_one, List.getElem?_eq_getElem hlt, Option.toList_some]
        rw [e, prT_snoc, lastO_snoc]
        exact ⟨rfl, rfl⟩
      have HS1 := hide' (HSz.out i hi)
      have HS2 := hide' (HSz.out (i + 1) hlt)
      have HA1 := hide' (HShO.out i hlt)
      have HA2 := hide' (HRec.out i hlt)
      have HA3 := hide' (HShD.out i hlt)
      have HA4 := hide' (HIt.out i hlt)
      have HA5 := hide' (HTn.out i hlt)
      have HRx := hide' (HRk.out i hlt)
      generalize lastO ⟨#[]⟩ (R.take i) = la at *
      obtain ⟨x, hx⟩ : ∃ x, R[i] = x := ⟨_, rfl⟩
      rw [hx] at y0 y1 y2 y3 y4 HNx HA1 HA2 HA3 HA4 HA5 HRx
      clear hx
      have pk : (i : Int) < (R.length : Int) := by omega
      have pk0 : (0 : Int) ≤ (i : Int) := by omega
      have e1 := toList_bt x.o la
      obtain ⟨wa, hwa⟩ : ∃ wa, wr.alloc (.cells #[.string x.o, .int .i64 x.t, .int .i64 x.c, .int .i64 x.l, .string x.d] 30) = wa := ⟨_, rfl⟩
      have HXa : Hid (Bx wa wr.heap.size #[.string x.o, .int .i64 x.t, .int .i64 x.c, .int .i64 x.l, .string x.d] 30) := hwa ▸ World.alloc_heap_new wr _
      have HBa : Hid (Below wr.heap.size wr wa) := hwa ▸ (Below.refl _ wr).alloc (Nat.le_refl _) _
      have QF : Hid (∀ V : World, Bx V wr.heap.size #[.string x.o, .int .i64 x.t, .int .i64 x.c, .int .i64 x.l, .string x.d] 30 → V.cell? ⟨wr.heap.size, 0, none⟩ = some (.string x.o) ∧ V.cell? ⟨wr.heap.size, 1, none⟩ = some (.int .i64 x.t) ∧ V.cell? ⟨wr.heap.size, 2, none⟩ = some (.int .i64 x.c) ∧ V.cell? ⟨wr.heap.size, 3, none⟩ = some (.int .i64 x.l) ∧ V.cell? ⟨wr.heap.size, 4, none⟩ = some (.string x.d)) := fun V h => ⟨h.cell rfl, h.cell rfl, h.cell rfl, h.cell rfl, h.cell rfl⟩
      have HBo : Hid ((bts (prT o (R.take i))).size + (bts (ownL x.o o)).size ≤ 1073741824) := by
        have h1 := ownL_len HRx.out.o ho
        have h2 := HS1.out
        unfold Hid
        rw [bts_size, bts_size]
        omega
      obtain ⟨L4, hL4⟩ : ∃ L4, wd4 (bts (dgN x.l.toNat)) (nameT x.t) (bts (jnW (tellD x))) = L4 := ⟨_, rfl⟩
      have HFin : Hid (bts (prT o (R.take i) ++ ownP o la x) ++ wdT L4 ++ ⟨#[10]⟩ = bts (prT o (R.take (i + 1)))) := by
        rw [← hL4]
        exact print_step o la HRx.out HNx.out.1
      have HTot : Hid ((bts (prT o (R.take i) ++ ownP o la x)).size + (wdT L4).size + 1 + 104900000 ≤ 1073741824) := by
        have h1 := congrArg ByteArray.size HFin.out
        have h2 := HS2.out
        rw [ByteArray.size_append, ByteArray.size_append, bts_size (prT o (R.take (i + 1)))] at h1
        have h3 : (⟨#[10]⟩ : ByteArray).size = 1 := rfl
        unfold Hid
        omega
      have HL4 := hide' hL4
      have HJ : Hid (∀ j (hj : j < 4), (h4 : j < L4.length) → wdT (L4.take (j + 1)) = wdT (L4.take j) ++ (⟨#[9]⟩ ++ L4[j]) ∧ (wdT (L4.take (j + 1))).size ≤ (wdT L4).size) := fun j hj h4 => ⟨wdT_take h4, wdT_le _ _⟩
      clear hL4
      have hBs : w1.heap.size < wr.heap.size := HBd.out.blt
      have HBd := hide' (HBd.out.below HBa.out)
      have HBl := hide' (bstep HBl.out HBa.out HBl.out.size)
      obtain ⟨m, hm⟩ : ∃ m, wr.heap.size = m := ⟨_, rfl⟩
      have hm1 : w1.heap.size < m := by rw [← hm]; exact hBs
      rw [hm] at HXa QF
      by_cases hsame : x.o = la
      all_goals
        first
          | rw [decide_eq_true hsame] at e1
          | rw [decide_eq_false hsame] at e1
        have HSm := hide' hsame
        clear HBa hsame
        obtain ⟨a0, a1, a2, a3, a4⟩ := QF.out wa HXa.out
        go_wp2_with (first
          | (go_at_call 12; refine (HA2.out _).mono ?_; rintro r1 v1 ⟨rfl, hB1⟩; have HX1 := hide' (HXa.out.below hB1 HXa.out.lt); obtain ⟨b0, b1, b2, b3, b4⟩ := QF.out v1 HX1.out; have HBd := hide' (HBd.out.below hB1); have HBl := hide' (bstep HBl.out hB1 HBl.out.size); clear hB1)
          | (go_at_call 13; refine (HA1.out _).mono ?_; rintro r2 v2 ⟨rfl, hB2⟩; have HX2 := hide' (HX1.out.below hB2 HX1.out.lt); have HBd := hide' (HBd.out.below hB2); have HBl := hide' (bstep HBl.out hB2 HBl.out.size); clear hB2)
          | (go_at_call 10; refine (HW.out _ _ _ _ _ HBd.out HBo.out).mono ?_; rintro r3 v3 ⟨rfl, hb3, hB3, hK3⟩; have HX3 : Hid (Bx v3 m #[.string x.o, .int .i64 x.t, .int .i64 x.c, .int .i64 x.l, .string x.d] 30) := ok_bx HX2.out hK3 (by omega) (by decide); obtain ⟨d0, d1, d2, d3, d4⟩ := QF.out v3 HX3.out; have HBd := hide' hb3; have HBl := hide' (HBl.out.trans (hB3.mono hw1)); clear hB3 hb3)
          | (go_at_call 14; refine (HA3.out _ HBl.out).mono ?_; rintro r4 v4 ⟨rfl, hB4⟩; have HX4 : Hid (Bx v4 m #[.string x.o, .int .i64 x.t, .int .i64 x.c, .int .i64 x.l, .string x.d] 30) := (by first | exact HX3.out.below hB4 HX3.out.lt | exact HX1.out.below hB4 HX1.out.lt); obtain ⟨f0, f1, f2, f3, f4⟩ := QF.out v4 HX4.out; have HBd := hide' (HBd.out.below hB4); have HBl := hide' (bstep HBl.out hB4 HBl.out.size); clear hB4))
        go_region_law (first
          | (go_simp; go_at_call 15; refine (HA4.out _ (by first | exact HBl.out | exact below_drewN HBl.out 1 | exact below_drewN HBl.out _)).mono ?_; rintro r5 v5 ⟨rfl, hB5⟩; have HX5 : Hid (Bx v5 m #[.string x.o, .int .i64 x.t, .int .i64 x.c, .int .i64 x.l, .string x.d] 30) := (by first | exact HX4.out.below hB5 HX4.out.lt | exact (bx_d8 HX4.out).below hB5 HX4.out.lt); obtain ⟨g0, g1, g2, g3, g4⟩ := QF.out v5 HX5.out; have HBl5 : Hid (Below w.heap.size w v5) := (by first | exact bstep HBl.out hB5 HBl.out.size | exact bstep (below_drewN HBl.out 1) hB5 (below_drewN HBl.out 1).size | exact bstep (below_drewN HBl.out _) hB5 (below_drewN HBl.out _).size); have HBd5 : Hid (Bd w1.heap.size w1.heap.size _ v5) := (by first | exact HBd.out.below hB5 | exact (HBd.out.below (below_drewN (Below.refl _ _) 1)).below hB5 | exact (HBd.out.below (below_drewN (Below.refl _ _) _)).below hB5); clear hB5)
          | (go_simp; go_at_call 16; refine (HA5.out _ (by first | exact HBl5.out | exact below_drewN HBl5.out 1 | exact below_drewN HBl5.out _)).mono ?_; rintro r6 v6 ⟨rfl, hB6⟩; have HBl6 : Hid (Below w.heap.size w v6) := (by first | exact bstep HBl5.out hB6 HBl5.out.size | exact bstep (below_drewN HBl5.out 1) hB6 (below_drewN HBl5.out 1).size | exact bstep (below_drewN HBl5.out _) hB6 (below_drewN HBl5.out _).size); have HBd6 : Hid (Bd w1.heap.size w1.heap.size _ v6) := (by first | exact HBd5.out.below hB6 | exact (HBd5.out.below (below_drewN (Below.refl _ _) 1)).below hB6 | exact (HBd5.out.below (below_drewN (Below.refl _ _) _)).below hB6); clear hB6))
        all_goals go_wp2_with fail
        all_goals
          have HBY : Hid (Bd w1.heap.size w1.heap.size (bts (prT o (R.take i) ++ ownP o la x)) v6) := (by
            first
              | (have h1 : ownP o la x = [] := if_pos HSm.out
                 unfold Hid
                 rw [h1, List.append_nil]
                 exact HBd6.out)
              | (have h1 : ownP o la x = ownL x.o o := if_neg HSm.out
                 unfold Hid
                 rw [h1, bts_append]
                 exact HBd6.out))
          have hv6 : w1.heap.size < v6.heap.size := HBY.out.blt
          have HQ6 := hide' (own_four v6 (.string (bts (dgN x.l.toNat))) (.string ⟨#[73, 78]⟩) (.string (nameT x.t)) (.string (bts (jnW (tellD x)))))
          have HA6 : Hid (Below v6.heap.size v6 (v6.alloc (.cells #[.string (bts (dgN x.l.toNat)), .string ⟨#[73, 78]⟩, .string (nameT x.t), .string (bts (jnW (tellD x)))] 9))) := (Below.refl _ v6).alloc (Nat.le_refl _) _
          have HBY7 := hide' (HBY.out.below HA6.out)
          have HBl7 := hide' (bstep HBl6.out HA6.out HBl6.out.size)
          generalize v6.alloc (.cells #[.string (bts (dgN x.l.toNat)), .string ⟨#[73, 78]⟩, .string (nameT x.t), .string (bts (jnW (tellD x)))] 9) = v7 at *
          obtain ⟨q, hq⟩ : ∃ q, v6.heap.size = q := ⟨_, rfl⟩
          rw [hq] at HQ6 hv6
          go_simp
          try simp only [hq]
          go_loopw [62] (fun iv wr2 => ∃ j : Nat, iv = .int .i64 (j : Int) ∧ j ≤ 4 ∧ Hid (Bd w1.heap.size w1.heap.size (bts (prT o (R.take i) ++ ownP o la x) ++ wdT (L4.take j)) wr2) ∧ Hid (Below w.heap.size w wr2) ∧ Hid (wr2.ownsRow q 9 1 (.slice (some ⟨q, 0, none⟩) 4 4) 4 (L4.map Value.string))) (fun iv _ => 4 - (intOf iv).toNat)
          case atStart =>
            refine ⟨0, rfl, by omega, ?_, HBl7.out, ?_⟩
            · unfold Hid
              rw [List.take_zero, show wdT [] = ⟨#[]⟩ from rfl, show bts (prT o (R.take i) ++ ownP o la x) ++ (⟨#[]⟩ : ByteArray) = bts (prT o (R.take i) ++ ownP o la x) from ByteArray.append_empty]
              exact HBY7.out
            · unfold Hid
              rw [← HL4.out]
              exact HQ6.out
          case round =>
            obtain ⟨j, rfl, hj, HBj, HLj, HQj⟩ := hrel
            have hrL : R.length ≤ 2000 := hn
            by_cases hj4 : j < 4
            · have hl4 : j < L4.length := by rw [← HL4.out]; exact hj4
              have hcell := HQj.out.cellAt j (by omega)
              have hcl : (L4.map Value.string)[j]? = some (.string L4[j]) := by rw [List.getElem?_map, List.getElem?_eq_getElem hl4]; rfl
              rw [hcl] at hcell
              have HJ1 := hide' (HJ.out j hj4 hl4)
              have HBw : Hid ((bts (prT o (R.take i) ++ ownP o la x) ++ wdT (L4.take j)).size + ((⟨#[9]⟩ : ByteArray) ++ L4[j]).size ≤ 1073741824 ∧ L4[j].size ≤ 1073741824) := by
                have h1 := HTot.out
                have h2 := HJ1.out.2
                rw [HJ1.out.1, ByteArray.size_append, ByteArray.size_append] at h2
                unfold Hid
                rw [ByteArray.size_append, ByteArray.size_append]
                omega
              generalize L4[j] = wd at *
              have hwz := HBw.out.2
              have pj : (j : Int) < 4 := by omega
              have pj0 : (0 : Int) ≤ (j : Int) := by omega
              clear hcl
              go_wp2_with (go_at_call 10; refine (HW.out _ _ _ _ _ HBj.out HBw.out.1).mono ?_; rintro r8 v8 ⟨rfl, hb8, hB8, hK8⟩; have HB8 := hide' hb8; have HL8 := hide' (HLj.out.trans (hB8.mono hw1)); have HQ8 := hide' (ok_row HQj.out hK8 (fun g e => by have e2 : q = g := Option.some.inj e; omega) (by decide)); clear hb8 hB8 hK8)
              refine ⟨⟨j + 1, by go_num, by omega, ?_, HL8.out, HQ8.out⟩, by simp [intOf]; omega⟩
              unfold Hid
              rw [HJ1.out.1, ← ByteArray.append_assoc]
              exact HB8.out
            · obtain rfl : j = 4 := by omega
              have pj : ¬ (4 : Int) < 4 := by omega
              have HBz : Hid (Bd w1.heap.size w1.heap.size (bts (prT o (R.take i) ++ ownP o la x) ++ wdT L4) wr) := by
                have h := HBj.out
                rw [List.take_of_length_le (l := L4) (by rw [← HL4.out]; exact Nat.le_refl _)] at h
                exact h
              have HBw : Hid ((bts (prT o (R.take i) ++ ownP o la x) ++ wdT L4).size + (⟨#[10]⟩ : ByteArray).size ≤ 1073741824) := by
                have h1 := HTot.out
                have h3 : (⟨#[10]⟩ : ByteArray).size = 1 := rfl
                unfold Hid
                rw [ByteArray.size_append]
                omega
              go_wp2_with (go_at_call 10; refine (HW.out _ _ _ _ _ HBz.out HBw.out).mono ?_; rintro r9 v9 ⟨rfl, hb9, hB9, -⟩; rw [HFin.out] at hb9; have HB9 := hide' hb9; have HL9 := hide' (HLj.out.trans (hB9.mono hw1)); clear hb9 hB9)
              refine ⟨⟨i + 1, (by first | (rw [HNx.out.2]; done) | rw [HNx.out.2, HSm.out]), by go_num, by omega, HB9, HL9⟩, by simp [intOf]; omega⟩
    · obtain rfl : i = R.length := by omega
      have pk : ¬ (R.length : Int) < (R.length : Int) := by omega
      have HBd' : Hid (Bd w1.heap.size w1.heap.size (bts (prT o R)) wr) := by
        have h := HBd.out
        rw [List.take_length] at h
        exact h
      clear HBd
      go_wp2_with (go_at_call 17; refine (bstring_any _ _ _ _ HBd'.out).mono ?_; rintro e7 w7 ⟨rfl, -, hB7⟩; have HL7 := hide' (HBl.out.trans (hB7.mono hw1)); clear hB7)
      go_ret2
      exact ⟨rfl, HL7.out⟩
end Go.Proofs.YtmbjmokhkonpiaaGreatDoor
