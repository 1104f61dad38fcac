import Derived.Test.YtmbjmokhkonpiaaGreatDoorMzcG
import Derived.Test.YtmbjmokhkonpiaaGreatDoorMx6
import Derived.Deep.RegionLaw
/-
  The reference's Print. (The verifier's own text.)
-/
namespace Go.Proofs.YtmbjmokhkonpiaaGreatDoor
set_option linter.unusedVariables false
set_option linter.unusedSimpArgs false
open Go.RowKit Go.Shelf Go.Proofs.YtmbjmokhkonpiaaGreatDoor.Nm

set_option maxRecDepth 100000 in
set_option maxHeartbeats 2000000 in
/-- .. no origin -/
theorem refPrint_none (o : ByteArray) (p : Option Addr) (n c : Nat) (w : World) (hmo : o.size ≤ 1048576) (ho : isN o = false) :
    Calls Tryz.prog 6 #[.slice p n c, .string o] w fun e w' => e = .returned (.tuple #[.string ⟨#[]⟩, .int .i64 1]) ∧ Below w.heap.size w w' := by
  have HC := hide' (fun V => refIsName_any o V hmo)
  rw [ho] at HC
  go_enter Tryz.func6, Tryz.ntmps6
  go_wp2_with (go_at_call 18; refine (HC.out _).mono ?_; rintro e1 w1 ⟨rfl, hB1⟩; have HB1 := hide' hB1; clear hB1)
  go_ret2
  exact ⟨rfl, HB1.out⟩
set_option maxRecDepth 100000 in
set_option maxHeartbeats 2000000 in
/-- .. too many records -/
theorem refPrint_many (o : ByteArray) (p : Option Addr) (n c : Nat) (w : World) (hmo : o.size ≤ 1048576) (ho : isN o = true) (hn : 2000 < n) (hc : n ≤ c ∧ c ≤ 9223372036854775807) :
    Calls Tryz.prog 6 #[.slice p n c, .string o] w fun e w' => e = .returned (.tuple #[.string ⟨#[]⟩, .int .i64 20]) ∧ Below w.heap.size w w' := by
  have HC := hide' (fun V => refIsName_any o V hmo)
  rw [ho] at HC
  have hnI : (2000 : Int) < (n : Int) := by omega
  go_enter Tryz.func6, Tryz.ntmps6
  go_wp2_with (go_at_call 18; refine (HC.out _).mono ?_; rintro e1 w1 ⟨rfl, hB1⟩; have HB1 := hide' hB1; clear hB1)
  go_ret2
  exact ⟨rfl, HB1.out⟩
set_option maxRecDepth 100000 in
set_option maxHeartbeats 4000000 in
/-- .. of records, the first m of which may be printed -/
theorem refPrint_any (R : List Rn) (m : Nat) (o : ByteArray) (p : Option Addr) (c : Nat) (w : World) (hat : RsAt w p R) (hn : R.length ≤ 2000) (hc : R.length ≤ c ∧ c ≤ 9223372036854775807) (ho : isN o = true) (hm : m ≤ R.length)
    (hR : ∀ x ∈ R.take m, RcOk x) (hbad : ∀ h : m < R.length, zonB R[m].o R[m].d R[m].t R[m].c R[m].l = false ∧ R[m].o.size ≤ 1048576 ∧ R[m].d.size ≤ 9223372036854775807) (hsum : sumD (R.take m) ≤ 1048576) :
    Calls Tryz.prog 6 #[.slice p R.length c, .string o] w fun e w' => (if m = R.length then e = .returned (.tuple #[.string (bts (prT o R)), .int .i64 0]) else e = .returned (.tuple #[.string ⟨#[]⟩, .int .i64 8])) ∧ Below w.heap.size w w' := by
  have ho255 := ((isN_iff o).1 ho).1
  have HC := hide' (fun V => refIsName_any o V (by omega))
  rw [ho] at HC
  have HSo := hide' (fun V => showName_any o V (by omega))
  have hsh := (dom_ok ho).2.1
  rw [cst_plain, lsB_len] at hsh
  have HSz : Hid (∀ i, i ≤ m → (prT o (R.take i)).length + 104900000 ≤ 1073741824) := fun i hi => by
    have h1 := prT_len ho i (R.take m) hR (by rw [List.length_take]; omega)
    have h2 := sumD_take (R.take m) i
    rw [List.take_take, Nat.min_eq_left hi] at h1 h2
    omega
  have hnI : ¬ (2000 : Int) < (R.length : Int) := by omega
  have hso : (showB o).size ≤ 2000 := by omega
  obtain ⟨H1, hH1⟩ : ∃ H1 : List Nat, [36, 79, 82, 73, 71, 73, 78, 32] ++ lsB (showB o) = H1 := ⟨_, rfl⟩
  have HSo' : Hid (∀ V, Calls Tryz.prog 19 #[.string o] V fun e w' => e = .returned (.string (bts (lsB (showB o)))) ∧ Below V.heap.size V w') := fun V => by
    rw [bts_ls]; exact HSo.out V
  have lS : (lsB (showB o)).length ≤ 2000 := by rw [lsB_len]; exact hso
  have lH : H1.length ≤ 2010 := by rw [← hH1, List.length_append]; simp; omega
  have x1 : ∀ W : World, (Op.stringOp .add ⟨#[36, 79, 82, 73, 71, 73, 78, 32]⟩ (bts (lsB (showB o)))).run Tryz.prog W = .ok (.string (bts H1)) W := fun W => by
    rw [← hH1]; exact add_bts W [36, 79, 82, 73, 71, 73, 78, 32] _ (by simp; omega)
  have x2 : ∀ W : World, (Op.stringOp .add (bts H1) ⟨#[10]⟩).run Tryz.prog W = .ok (.string (bts (H1 ++ [10]))) W := fun W => add_bts W H1 [10] (by simp; omega)
  have HN0 : Hid (H1 ++ [10] = prT o (R.take 0)) := by
    unfold Hid
    rw [List.take_zero, prT_nil, ← hH1]
    simp
  rw [HN0.out] at x2
  generalize lsB (showB o) = S at *
  clear hH1 HSo lS lH hsh hso
  go_enter Tryz.func6, Tryz.ntmps6
  go_wp2_with (first
    | (go_at_call 18; refine (HC.out _).mono ?_; rintro e1 w1 ⟨rfl, hB1⟩; have HB1 := hide' hB1; clear hB1)
    | (go_at_call 19; refine (HSo'.out _).mono ?_; rintro e2 w2 ⟨rfl, hB2⟩; have HB2 := hide' (bstep HB1.out hB2 HB1.out.size); clear hB2))
  have HZs : Hid (∀ i (hi : i < m) (hi2 : i < R.length), RcOk R[i]) := fun i hi hi2 => hR _ (List.mem_take_iff_getElem.2 ⟨i, by omega, rfl⟩)
  have HZb := hide' hbad
  clear hR hbad hsum
  go_loopw [6, 23] (fun ov iv wr => ∃ i : Nat, ov = .string (bts (prT o (R.take i))) ∧ iv = .int .i64 (i : Int) ∧ i ≤ m ∧ Hid (Below w.heap.size w wr)) (fun _ iv _ => R.length - (intOf iv).toNat)
  case atStart => exact ⟨0, rfl, rfl, Nat.zero_le _, HB2.out⟩
  case round =>
    obtain ⟨i, rfl, rfl, hi, HB⟩ := hrel
    by_cases hlt : i < R.length
    · obtain ⟨g, off, rfl, hg, y0, y1, y2, y3, y4⟩ := hat i hlt
      replace y0 := (HB.out.cell (p := ⟨g, off + i * 5, none⟩) hg).trans y0
      replace y1 := (HB.out.cell (p := ⟨g, off + i * 5 + 1, none⟩) hg).trans y1
      replace y2 := (HB.out.cell (p := ⟨g, off + i * 5 + 2, none⟩) hg).trans y2
      replace y3 := (HB.out.cell (p := ⟨g, off + i * 5 + 3, none⟩) hg).trans y3
      replace y4 := (HB.out.cell (p := ⟨g, off + i * 5 + 4, none⟩) hg).trans y4
      have HRx : Hid (∀ hi : i < m, RcOk R[i]) := fun hi => HZs.out i hi hlt
      have HRb : Hid (∀ hi : ¬ i < m, zonB R[i].o R[i].d R[i].t R[i].c R[i].l = false ∧ R[i].o.size ≤ 1048576 ∧ R[i].d.size ≤ 9223372036854775807) := fun hi2 => by
        have e : i = m := by omega
        subst e
        exact HZb.out hlt
      have HNx : Hid (prT o (R.take (i + 1)) = prT o (R.take i) ++ liB (lineR o (lastO ⟨#[]⟩ (R.take i)) R[i])) := by
        have e : R.take (i + 1) = R.take i ++ [R[i]] := by rw [List.take_add_one, List.getElem?_eq_getElem hlt, Option.toList_some]
        rw [e, prT_snoc]
        exact rfl
      have HLa0 : Hid (i = 0 → lastO ⟨#[]⟩ (R.take i) = ⟨#[]⟩) := fun e => by rw [e, List.take_zero]; rfl
      have HLa1 : Hid (∀ j (e : i = j + 1), lastO ⟨#[]⟩ (R.take i) = (R[j]'(by omega)).o) := fun j e => by
        subst e
        have e : R.take (j + 1) = R.take j ++ [R[j]'(by omega)] := by rw [List.take_add_one, List.getElem?_eq_getElem (by omega), Option.toList_some]
        rw [e, lastO_snoc]
      generalize lastO ⟨#[]⟩ (R.take i) = la at *
      obtain ⟨x, hx⟩ : ∃ x, R[i] = x := ⟨_, rfl⟩
      rw [hx] at y0 y1 y2 y3 y4 HNx HRx HRb
      clear hx
      have pk : (i : Int) < (R.length : Int) := by omega
      have pk0 : (0 : Int) ≤ (i : Int) := by omega
      obtain ⟨wa, hwa⟩ : ∃ wa, wr.alloc (.cells #[.string x.o, .int .i64 x.t, .int .i64 x.c, .int .i64 x.l, .string x.d] 30) = wa := ⟨_, rfl⟩
      have HXa : Hid (Bx wa wr.heap.size #[.string x.o, .int .i64 x.t, .int .i64 x.c, .int .i64 x.l, .string x.d] 30) := hwa ▸ World.alloc_heap_new wr _
      have HBa : Hid (Below wr.heap.size wr wa) := hwa ▸ (Below.refl _ wr).alloc (Nat.le_refl _) _
      have QF : Hid (∀ V : World, Bx V wr.heap.size #[.string x.o, .int .i64 x.t, .int .i64 x.c, .int .i64 x.l, .string x.d] 30 → V.cell? ⟨wr.heap.size, 0, none⟩ = some (.string x.o) ∧ V.cell? ⟨wr.heap.size, 1, none⟩ = some (.int .i64 x.t) ∧ V.cell? ⟨wr.heap.size, 2, none⟩ = some (.int .i64 x.c) ∧ V.cell? ⟨wr.heap.size, 3, none⟩ = some (.int .i64 x.l) ∧ V.cell? ⟨wr.heap.size, 4, none⟩ = some (.string x.d)) := fun V h => ⟨h.cell rfl, h.cell rfl, h.cell rfl, h.cell rfl, h.cell rfl⟩
      have HBw := hide' (bstep HB.out HBa.out HB.out.size)
      obtain ⟨a0, a1, a2, a3, a4⟩ := QF.out wa HXa.out
      by_cases him : i < m
      · have hxk := HRx.out him
        have HZo := hide' (fun V => zonal2_any x.o x.d x.t x.c x.l V (by have := ((isN_iff _).1 hxk.o).1; omega) (by have := (tellD_len hxk).2; omega))
        rw [hxk.zon] at HZo
        have HOw := hide' (fun V => refOwner_any x.o o V hxk.o ho)
        have HSd : Hid (∀ V, Calls Tryz.prog 22 #[.int .i64 x.t, .string x.d] V fun e w' => e = .returned (.tuple #[.string (bts (jnW (tellD x))), .int .i64 0]) ∧ Below V.heap.size V w') := fun V => by
          obtain ⟨ps, hp⟩ := hxk.p
          rw [tellD_eq hp]
          exact refShow_any x.t x.d ps V hp
        have HDc : Hid (∀ V, Calls Tryz.prog 23 #[.int .i64 x.l] V fun e w' => e = .returned (.string (bts (dgN x.l.toNat))) ∧ Below V.heap.size V w') := fun V => by
          have h0 := hxk.l0
          have h1 := hxk.l1
          have h := dec_any x.l.toNat V (by omega)
          rwa [show ((x.l.toNat : Nat) : Int) = x.l by omega] at h
        have HTn : Hid (∀ V, Calls Tryz.prog 24 #[.int .i64 x.t] V fun e w' => e = .returned (.string (bts (lsB (nameT x.t)))) ∧ Below V.heap.size V w') := fun V => by
          rw [bts_ls]
          exact refTypeName_any x.t V
        have lD : (dgN x.l.toNat).length ≤ 10 := by
          have := dgN_len 9 x.l.toNat (by have := hxk.l1; omega)
          omega
        have lN : (lsB (nameT x.t)).length ≤ 10 := by
          have h0 := hxk.t0
          have ht := hxk.t1
          obtain ⟨k, hk⟩ : ∃ k : Nat, x.t = (k : Int) := ⟨x.t.toNat, by omega⟩
          rw [hk]; exact (nameT_ok (t := k) (by omega) (by omega)).2
        have lJ : (jnW (tellD x)).length ≤ 6600000 := by have := tellD_len hxk; omega
        have lO := ownL_len hxk.o ho
        have lX := HSz.out i hi
        have hne : x.o ≠ ⟨#[]⟩ := fun e => by
          have h1 := (isN_iff _).1 hxk.o
          have h2 := h1.2.1
          rw [e] at h2
          have h4 : (⟨#[]⟩ : ByteArray).size = 0 := rfl
          omega
        have HNy : Hid (prT o (R.take (i + 1)) = prT o (R.take i) ++ (ownP o la x ++ (9 :: dgN x.l.toNat ++ (9 :: [73, 78] ++ (9 :: lsB (nameT x.t) ++ (9 :: jnW (tellD x) ++ [10])))))) := by
          unfold Hid
          rw [HNx.out, lineR_parts o la hxk]
        clear HRb HNx
        generalize prT o (R.take i) = X at *
        have HIM := hide' him
        obtain ⟨XX, hXX⟩ : ∃ XX, prT o (R.take (i + 1)) = XX := ⟨_, rfl⟩
        rw [hXX] at HNy
        have HXX := hide' hXX
        clear hXX
        generalize dgN x.l.toNat = D at *
        generalize lsB (nameT x.t) = N at *
        generalize jnW (tellD x) = J at *
        have A : ∀ (x y : List Nat) (W : World), x.length + y.length ≤ 1073741824 → (Op.stringOp .add (bts x) (bts y)).run Tryz.prog W = .ok (.string (bts (x ++ y))) W := fun x y W hx => add_bts W x y (by omega)
        obtain ⟨T1, e1⟩ : ∃ t, [9] ++ D = t := ⟨_, rfl⟩
        have m1 : T1.length ≤ 11 := by rw [← e1, List.length_append]; simp; omega
        obtain ⟨T2, e2⟩ : ∃ t, T1 ++ [9, 73, 78, 9] = t := ⟨_, rfl⟩
        have m2 : T2.length ≤ 15 := by rw [← e2, List.length_append]; simp; omega
        obtain ⟨T3, e3⟩ : ∃ t, T2 ++ N = t := ⟨_, rfl⟩
        have m3 : T3.length ≤ 25 := by rw [← e3, List.length_append]; omega
        obtain ⟨T4, e4⟩ : ∃ t, T3 ++ [9] = t := ⟨_, rfl⟩
        have m4 : T4.length ≤ 26 := by rw [← e4, List.length_append]; simp; omega
        obtain ⟨T5, e5⟩ : ∃ t, T4 ++ J = t := ⟨_, rfl⟩
        have m5 : T5.length ≤ 6600026 := by rw [← e5, List.length_append]; omega
        obtain ⟨T6, e6⟩ : ∃ t, T5 ++ [10] = t := ⟨_, rfl⟩
        have m6 : T6.length ≤ 6600027 := by rw [← e6, List.length_append]; simp; omega
        have s1 : ∀ W : World, (Op.stringOp .add ⟨#[9]⟩ (bts D)).run Tryz.prog W = .ok (.string (bts T1)) W := fun W => by rw [← e1]; exact A [9] D W (by simp; omega)
        have s2 : ∀ W : World, (Op.stringOp .add (bts T1) ⟨#[9, 73, 78, 9]⟩).run Tryz.prog W = .ok (.string (bts T2)) W := fun W => by rw [← e2]; exact A T1 [9, 73, 78, 9] W (by simp; omega)
        have s3 : ∀ W : World, (Op.stringOp .add (bts T2) (bts N)).run Tryz.prog W = .ok (.string (bts T3)) W := fun W => by rw [← e3]; exact A T2 N W (by omega)
        have s4 : ∀ W : World, (Op.stringOp .add (bts T3) ⟨#[9]⟩).run Tryz.prog W = .ok (.string (bts T4)) W := fun W => by rw [← e4]; exact A T3 [9] W (by simp; omega)
        have s5 : ∀ W : World, (Op.stringOp .add (bts T4) (bts J)).run Tryz.prog W = .ok (.string (bts T5)) W := fun W => by rw [← e5]; exact A T4 J W (by omega)
        have s6 : ∀ W : World, (Op.stringOp .add (bts T5) ⟨#[10]⟩).run Tryz.prog W = .ok (.string (bts T6)) W := fun W => by rw [← e6]; exact A T5 [10] W (by simp; omega)
        have HT6 : Hid (XX = X ++ ownP o la x ++ T6) := by
          unfold Hid
          rw [HNy.out, ← e6, ← e5, ← e4, ← e3, ← e2, ← e1]
          simp
        clear e1 e2 e3 e4 e5 e6 m1 m2 m3 m4 m5 lD lN lJ HNy
        have FT1 : Hid True := trivial
        go_wp2_with (first
          | (go_at_call 20; have _ := FT1; clear FT1; refine (HZo.out _).mono ?_; rintro r1 v1 ⟨rfl, hB1⟩; have HX1 := hide' (HXa.out.below hB1 HXa.out.lt); obtain ⟨b0, b1, b2, b3, b4⟩ := QF.out v1 HX1.out; have HB1' := hide' (bstep HBw.out hB1 HBw.out.size); clear hB1))
        clear a0 a1 a2 a3 a4 hwa HXa HBa HBw
        by_cases hsame : x.o = la
        · have s7 : ∀ W : World, (Op.stringOp .add (bts X) (bts T6)).run Tryz.prog W = .ok (.string (bts XX)) W := fun W => by
            have e : XX = X ++ T6 := by rw [HT6.out]; unfold ownP; rw [if_pos hsame, List.append_nil]
            rw [e]; exact A X T6 W (by omega)
          obtain ⟨j, rfl⟩ : ∃ j, i = j + 1 := ⟨i - 1, by
            rcases Nat.eq_zero_or_pos i with h | h
            · exact absurd (hsame.trans (HLa0.out h)) hne
            · omega⟩
          have z0 : v1.cell? ⟨g, off + j * 5, none⟩ = some (.string la) := by
            obtain ⟨g', off', h1, h2, h3, -⟩ := hat j (by omega)
            injection h1 with h1
            injection h1 with h4 h5
            subst h4 h5
            rw [HLa1.out j rfl]
            exact (HB1'.out.cell (p := ⟨g, off + j * 5, none⟩) hg).trans h3
          have uj : IntKind.i64.wrap (j : Int) = (j : Int) := wrap_in (by omega) (by omega)
          have hbe : (la.toList == x.o.toList) = true := by rw [toList_bt, hsame]; exact decide_eq_true rfl
          clear pk0 y0 y1 y2 y3 y4 hat him HLa0 HLa1 A HT6 m6 lO lX hsame hne hg
          refine wp_region_held_drew (S := fun V => V.cell? ⟨wr.heap.size, 0, none⟩ = some (.string x.o) ∧ V.cell? ⟨g, off + j * 5, none⟩ = some (.string la)) (by kernel_rfl) ?_ (fun hHeld => ?_)
          · exact ⟨b0, z0⟩
          refine takeDM 0 (some 31) (.int .i64 ((j : Int) + 1)) rfl rfl (by kernel_rfl) (by kernel_rfl) (by kernel_rfl) (fun _ _ _ h => h) (Or.inl ⟨by rfl, ?_⟩) (by assumption) ?_
          · intro w hSw; (try dsimp only at hSw); go_simp <;> (intros; omega)
          simp only [Act.put, List.setIfInBounds_toArray, List.set_cons_zero, List.set_cons_succ]
          refine takeDM 1 (some 32) (.bool false) rfl rfl (by kernel_rfl) (by kernel_rfl) (by kernel_rfl) (fun _ _ _ h => h) (Or.inl ⟨by rfl, ?_⟩) (by assumption) ?_
          · intro w hSw; (try dsimp only at hSw); go_simp <;> (intros; omega)
          simp only [Act.put, List.setIfInBounds_toArray, List.set_cons_zero, List.set_cons_succ]
          refine takeDM 2 (some 33) (.bool false) rfl rfl (by kernel_rfl) (by kernel_rfl) (by kernel_rfl) (fun _ _ _ h => h) (Or.inl ⟨by rfl, ?_⟩) (by assumption) ?_
          · intro w hSw; (try dsimp only at hSw); go_simp <;> (intros; omega)
          simp only [Act.put, List.setIfInBounds_toArray, List.set_cons_zero, List.set_cons_succ]
          refine takeDM 3 (some 34) (.slice (some ⟨g, off, none⟩) R.length c) rfl rfl (by kernel_rfl) (by kernel_rfl) (by kernel_rfl) (fun _ _ _ h => h) (Or.inl ⟨by rfl, ?_⟩) (by assumption) ?_
          · intro w hSw; (try dsimp only at hSw); go_simp <;> (intros; omega)
          simp only [Act.put, List.setIfInBounds_toArray, List.set_cons_zero, List.set_cons_succ]
          refine takeDM 4 (some 35) (.int .i64 ((j : Int) + 1)) rfl rfl (by kernel_rfl) (by kernel_rfl) (by kernel_rfl) (fun _ _ _ h => h) (Or.inl ⟨by rfl, ?_⟩) (by assumption) ?_
          · intro w hSw; (try dsimp only at hSw); go_simp <;> (intros; omega)
          simp only [Act.put, List.setIfInBounds_toArray, List.set_cons_zero, List.set_cons_succ]
          refine takeDM 5 (some 36) (.int .i64 (j : Int)) rfl rfl (by kernel_rfl) (by kernel_rfl) (by kernel_rfl) (fun _ _ _ h => h) (Or.inl ⟨by rfl, ?_⟩) (by assumption) ?_
          · intro w hSw; (try dsimp only at hSw); go_simp <;> (intros; omega)
          simp only [Act.put, List.setIfInBounds_toArray, List.set_cons_zero, List.set_cons_succ]
          refine takeDM 6 (some 37) (.pointer (some ⟨g, off + j * 5, none⟩)) rfl rfl (by kernel_rfl) (by kernel_rfl) (by kernel_rfl) (fun _ _ _ h => h) (Or.inl ⟨by rfl, ?_⟩) (by assumption) ?_
          · intro w hSw; (try dsimp only at hSw); go_simp <;> (intros; omega)
          simp only [Act.put, List.setIfInBounds_toArray, List.set_cons_zero, List.set_cons_succ]
          refine takeDM 7 (some 38) (.pointer (some ⟨g, off + j * 5, none⟩)) rfl rfl (by kernel_rfl) (by kernel_rfl) (by kernel_rfl) (fun _ _ _ h => h) (Or.inl ⟨by rfl, ?_⟩) (by assumption) ?_
          · intro w hSw; (try dsimp only at hSw); go_simp <;> (intros; omega)
          simp only [Act.put, List.setIfInBounds_toArray, List.set_cons_zero, List.set_cons_succ]
          refine takeDM 8 (some 39) (.string la) rfl rfl (by kernel_rfl) (by kernel_rfl) (by kernel_rfl) (fun _ _ _ h => h) (Or.inl ⟨by rfl, ?_⟩) (by assumption) ?_
          · intro w hSw; (try dsimp only at hSw); go_simp <;> (intros; omega)
          simp only [Act.put, List.setIfInBounds_toArray, List.set_cons_zero, List.set_cons_succ]
          refine takeDM 9 (some 40) (.pointer (some ⟨wr.heap.size, 0, none⟩)) rfl rfl (by kernel_rfl) (by kernel_rfl) (by kernel_rfl) (fun _ _ _ h => h) (Or.inl ⟨by rfl, ?_⟩) (by assumption) ?_
          · intro w hSw; (try dsimp only at hSw); go_simp <;> (intros; omega)
          simp only [Act.put, List.setIfInBounds_toArray, List.set_cons_zero, List.set_cons_succ]
          refine takeDM 10 (some 41) (.string x.o) rfl rfl (by kernel_rfl) (by kernel_rfl) (by kernel_rfl) (fun _ _ _ h => h) (Or.inl ⟨by rfl, ?_⟩) (by assumption) ?_
          · intro w hSw; (try dsimp only at hSw); go_simp <;> (intros; omega)
          simp only [Act.put, List.setIfInBounds_toArray, List.set_cons_zero, List.set_cons_succ]
          refine takeDM 11 (some 42) (.bool false) rfl rfl (by kernel_rfl) (by kernel_rfl) (by kernel_rfl) (fun _ _ _ h => h) (Or.inl ⟨by rfl, ?_⟩) (by assumption) ?_
          · intro w hSw; (try dsimp only at hSw); go_simp <;> (intros; omega)
          simp only [Act.put, List.setIfInBounds_toArray, List.set_cons_zero, List.set_cons_succ]
          refine takeDM 12 (some 43) (.bool false) rfl rfl (by kernel_rfl) (by kernel_rfl) (by kernel_rfl) (fun _ _ _ h => h) (Or.inl ⟨by rfl, ?_⟩) (by assumption) ?_
          · intro w hSw; (try dsimp only at hSw); go_simp <;> (intros; omega)
          simp only [Act.put, List.setIfInBounds_toArray, List.set_cons_zero, List.set_cons_succ]
          refine wpAnyH_done (by kernel_rfl) ?_ _
          have HX1d : Hid (Bx v1.drew wr.heap.size #[.string x.o, .int .i64 x.t, .int .i64 x.c, .int .i64 x.l, .string x.d] 30) := HX1.out
          have HB1d := hide' HB1'.out.drew
          clear b0 b1 b2 b3 b4
          obtain ⟨b0, b1, b2, b3, b4⟩ := QF.out v1.drew HX1d.out
          go_wp2_with (first
            | (go_at_call 22; refine (HSd.out _).mono ?_; rintro r3 v3 ⟨rfl, hB3⟩; have HX3 := hide' (HX1d.out.below hB3 HX1d.out.lt); obtain ⟨d0, d1, d2, d3, d4⟩ := QF.out v3 HX3.out; have HB3' := hide' (bstep HB1d.out hB3 HB1d.out.size); clear hB3))
          refine wp_region_held_drew (S := fun V => V.cell? ⟨wr.heap.size, 3, none⟩ = some (.int .i64 x.l) ∧ V.cell? ⟨wr.heap.size, 1, none⟩ = some (.int .i64 x.t)) (by kernel_rfl) ?_ (fun hHeld => ?_)
          · exact ⟨d3, d1⟩
          refine takeDM 0 (some 58) (.string (bts X)) rfl rfl (by kernel_rfl) (by kernel_rfl) (by kernel_rfl) (fun _ _ _ h => h) (Or.inl ⟨by rfl, ?_⟩) (by assumption) ?_
          · intro w hSw; (try dsimp only at hSw); go_simp <;> (intros; omega)
          simp only [Act.put, List.setIfInBounds_toArray, List.set_cons_zero, List.set_cons_succ]
          refine takeDM 1 (some 59) (.pointer (some ⟨wr.heap.size, 3, none⟩)) rfl rfl (by kernel_rfl) (by kernel_rfl) (by kernel_rfl) (fun _ _ _ h => h) (Or.inl ⟨by rfl, ?_⟩) (by assumption) ?_
          · intro w hSw; (try dsimp only at hSw); go_simp <;> (intros; omega)
          simp only [Act.put, List.setIfInBounds_toArray, List.set_cons_zero, List.set_cons_succ]
          refine takeDM 2 (some 60) (.int .i64 x.l) rfl rfl (by kernel_rfl) (by kernel_rfl) (by kernel_rfl) (fun _ _ _ h => h) (Or.inl ⟨by rfl, ?_⟩) (by assumption) ?_
          · intro w hSw; (try dsimp only at hSw); go_simp <;> (intros; omega)
          simp only [Act.put, List.setIfInBounds_toArray, List.set_cons_zero, List.set_cons_succ]
          refine takeDM 6 (some 64) (.pointer (some ⟨wr.heap.size, 1, none⟩)) rfl rfl (by kernel_rfl) (by kernel_rfl) (by kernel_rfl) (fun _ _ _ h => h) (Or.inl ⟨by rfl, ?_⟩) (by assumption) ?_
          · intro w hSw; (try dsimp only at hSw); go_simp <;> (intros; omega)
          simp only [Act.put, List.setIfInBounds_toArray, List.set_cons_zero, List.set_cons_succ]
          refine takeDM 7 (some 65) (.int .i64 x.t) rfl rfl (by kernel_rfl) (by kernel_rfl) (by kernel_rfl) (fun _ _ _ h => h) (Or.inl ⟨by rfl, ?_⟩) (by assumption) ?_
          · intro w hSw; (try dsimp only at hSw); go_simp <;> (intros; omega)
          simp only [Act.put, List.setIfInBounds_toArray, List.set_cons_zero, List.set_cons_succ]
          refine takeDM 11 (some 69) (.string (bts J)) rfl rfl (by kernel_rfl) (by kernel_rfl) (by kernel_rfl) (fun _ _ _ h => h) (Or.inl ⟨by rfl, ?_⟩) (by assumption) ?_
          · intro w hSw; (try dsimp only at hSw); go_simp <;> (intros; omega)
          simp only [Act.put, List.setIfInBounds_toArray, List.set_cons_zero, List.set_cons_succ]
          refine wpAnyH_ready (rs := [3]) (by kernel_rfl) (by simp) ?_
          refine AllReadyH.cons rfl (fun K hK => ?_) AllReadyH.nil
          go_simp
          go_at_call 23; refine (HDc.out _).mono ?_; rintro r4 v4 ⟨rfl, hB4⟩; have HX4 : Hid (Bx v4 wr.heap.size #[.string x.o, .int .i64 x.t, .int .i64 x.c, .int .i64 x.l, .string x.d] 30) := (by first | exact HX3.out.below hB4 HX3.out.lt | exact (bx_d8 HX3.out).below hB4 HX3.out.lt); obtain ⟨f0, f1, f2, f3, f4⟩ := QF.out v4 HX4.out; have HB4' : Hid (Below w.heap.size w v4) := (by first | exact bstep HB3'.out hB4 HB3'.out.size | exact bstep HB3'.out.drew hB4 HB3'.out.drew.size); clear hB4
          go_wp2_with fail
          refine hK.out _ _ (⟨f3, f1⟩) (fun hHeld => ?_)
          clear hK K
          try simp only [Act.put, List.setIfInBounds_toArray, List.set_cons_zero, List.set_cons_succ]
          refine takeDM 4 (some 62) (.string (bts T1)) rfl rfl (by kernel_rfl) (by kernel_rfl) (by kernel_rfl) (fun _ _ _ h => h) (Or.inl ⟨by rfl, ?_⟩) (by assumption) ?_
          · intro w hSw; (try dsimp only at hSw); go_simp <;> (intros; omega)
          simp only [Act.put, List.setIfInBounds_toArray, List.set_cons_zero, List.set_cons_succ]
          refine takeDM 5 (some 63) (.string (bts T2)) rfl rfl (by kernel_rfl) (by kernel_rfl) (by kernel_rfl) (fun _ _ _ h => h) (Or.inl ⟨by rfl, ?_⟩) (by assumption) ?_
          · intro w hSw; (try dsimp only at hSw); go_simp <;> (intros; omega)
          simp only [Act.put, List.setIfInBounds_toArray, List.set_cons_zero, List.set_cons_succ]
          clear f0 f1 f2 f3 f4
          refine wpAnyH_ready (rs := [8]) (by kernel_rfl) (by simp) ?_
          refine AllReadyH.cons rfl (fun K hK => ?_) AllReadyH.nil
          go_simp
          go_at_call 24; refine (HTn.out _).mono ?_; rintro r5 v5 ⟨rfl, hB5⟩; have HX5 : Hid (Bx v5 wr.heap.size #[.string x.o, .int .i64 x.t, .int .i64 x.c, .int .i64 x.l, .string x.d] 30) := (by first | exact HX4.out.below hB5 HX4.out.lt | exact (bx_d8 HX4.out).below hB5 HX4.out.lt); obtain ⟨f0, f1, f2, f3, f4⟩ := QF.out v5 HX5.out; have HB5' : Hid (Below w.heap.size w v5) := (by first | exact bstep HB4'.out hB5 HB4'.out.size | exact bstep HB4'.out.drew hB5 HB4'.out.drew.size); clear hB5
          go_wp2_with fail
          refine hK.out _ _ (⟨f3, f1⟩) (fun hHeld => ?_)
          clear hK K
          try simp only [Act.put, List.setIfInBounds_toArray, List.set_cons_zero, List.set_cons_succ]
          refine takeDM 9 (some 67) (.string (bts T3)) rfl rfl (by kernel_rfl) (by kernel_rfl) (by kernel_rfl) (fun _ _ _ h => h) (Or.inl ⟨by rfl, ?_⟩) (by assumption) ?_
          · intro w hSw; (try dsimp only at hSw); go_simp <;> (intros; omega)
          simp only [Act.put, List.setIfInBounds_toArray, List.set_cons_zero, List.set_cons_succ]
          refine takeDM 10 (some 68) (.string (bts T4)) rfl rfl (by kernel_rfl) (by kernel_rfl) (by kernel_rfl) (fun _ _ _ h => h) (Or.inl ⟨by rfl, ?_⟩) (by assumption) ?_
          · intro w hSw; (try dsimp only at hSw); go_simp <;> (intros; omega)
          simp only [Act.put, List.setIfInBounds_toArray, List.set_cons_zero, List.set_cons_succ]
          refine takeDM 12 (some 70) (.string (bts T5)) rfl rfl (by kernel_rfl) (by kernel_rfl) (by kernel_rfl) (fun _ _ _ h => h) (Or.inl ⟨by rfl, ?_⟩) (by assumption) ?_
          · intro w hSw; (try dsimp only at hSw); go_simp <;> (intros; omega)
          simp only [Act.put, List.setIfInBounds_toArray, List.set_cons_zero, List.set_cons_succ]
          refine takeDM 13 (some 71) (.string (bts T6)) rfl rfl (by kernel_rfl) (by kernel_rfl) (by kernel_rfl) (fun _ _ _ h => h) (Or.inl ⟨by rfl, ?_⟩) (by assumption) ?_
          · intro w hSw; (try dsimp only at hSw); go_simp <;> (intros; omega)
          simp only [Act.put, List.setIfInBounds_toArray, List.set_cons_zero, List.set_cons_succ]
          refine takeDM 14 (some 72) (.string (bts XX)) rfl rfl (by kernel_rfl) (by kernel_rfl) (by kernel_rfl) (fun _ _ _ h => h) (Or.inl ⟨by rfl, ?_⟩) (by assumption) ?_
          · intro w hSw; (try dsimp only at hSw); go_simp <;> (intros; omega)
          simp only [Act.put, List.setIfInBounds_toArray, List.set_cons_zero, List.set_cons_succ]
          refine takeDM 15 (some 6) (.string (bts XX)) rfl rfl (by kernel_rfl) (by kernel_rfl) (by kernel_rfl) (fun _ _ _ h => h) (Or.inl ⟨by rfl, ?_⟩) (by assumption) ?_
          · intro w hSw; (try dsimp only at hSw); go_simp <;> (intros; omega)
          simp only [Act.put, List.setIfInBounds_toArray, List.set_cons_zero, List.set_cons_succ]
          refine wpAnyH_done (by kernel_rfl) ?_ _
          go_wp2_with fail
          refine ⟨⟨(j + 1) + 1, by rw [HXX.out], (by first | go_num | (congr 1; omega)), (by have := HIM.out; omega), HB5'⟩, (by simp [intOf]; omega)⟩
        · obtain ⟨X2, hX2⟩ : ∃ t, X ++ ownL x.o o = t := ⟨_, rfl⟩
          have s8 : ∀ W : World, (Op.stringOp .add (bts X) (bts (ownL x.o o))).run Tryz.prog W = .ok (.string (bts X2)) W := fun W => by rw [← hX2]; exact A X _ W (by omega)
          have s7 : ∀ W : World, (Op.stringOp .add (bts X2) (bts T6)).run Tryz.prog W = .ok (.string (bts XX)) W := fun W => by
            have e : XX = X2 ++ T6 := by rw [HT6.out, ← hX2]; unfold ownP; rw [if_neg hsame]
            rw [e]; exact A X2 T6 W (by rw [← hX2, List.length_append]; omega)
          clear hX2
          generalize ownL x.o o = O at *
          rcases Nat.eq_zero_or_pos i with hi0 | hi0
          · have hz : (i : Int) = 0 := by omega
            clear hi0 pk0 y0 y1 y2 y3 y4 hat him HLa0 HLa1 A HT6 m6 lO lX hsame hne hg
            refine wp_region_held_drew (S := fun V => V.cell? ⟨wr.heap.size, 0, none⟩ = some (.string x.o)) (by kernel_rfl) ?_ (fun hHeld => ?_)
            · exact b0
            refine takeDM 0 (some 31) (.int .i64 (i : Int)) rfl rfl (by kernel_rfl) (by kernel_rfl) (by kernel_rfl) (fun _ _ _ h => h) (Or.inl ⟨by rfl, ?_⟩) (by assumption) ?_
            · intro w hSw; (try dsimp only at hSw); go_simp <;> (intros; omega)
            simp only [Act.put, List.setIfInBounds_toArray, List.set_cons_zero, List.set_cons_succ]
            refine takeDM 1 (some 32) (.bool true) rfl rfl (by kernel_rfl) (by kernel_rfl) (by kernel_rfl) (fun _ _ _ h => h) (Or.inl ⟨by rfl, ?_⟩) (by assumption) ?_
            · intro w hSw; (try dsimp only at hSw); go_simp <;> (intros; omega)
            simp only [Act.put, List.setIfInBounds_toArray, List.set_cons_zero, List.set_cons_succ]
            refine takeDM 2 (some 33) (.bool true) rfl rfl (by kernel_rfl) (by kernel_rfl) (by kernel_rfl) (fun _ _ _ h => h) (Or.inl ⟨by rfl, ?_⟩) (by assumption) ?_
            · intro w hSw; (try dsimp only at hSw); go_simp <;> (intros; omega)
            simp only [Act.put, List.setIfInBounds_toArray, List.set_cons_zero, List.set_cons_succ]
            refine takeDM 3 (some 34) undef rfl rfl (by kernel_rfl) (by kernel_rfl) (by kernel_rfl) (fun _ _ _ h => h) (Or.inr ⟨by rfl, rfl⟩) (by assumption) ?_
            simp only [Act.put, List.setIfInBounds_toArray, List.set_cons_zero, List.set_cons_succ]
            refine takeDM 4 (some 35) undef rfl rfl (by kernel_rfl) (by kernel_rfl) (by kernel_rfl) (fun _ _ _ h => h) (Or.inr ⟨by rfl, rfl⟩) (by assumption) ?_
            simp only [Act.put, List.setIfInBounds_toArray, List.set_cons_zero, List.set_cons_succ]
            refine takeDM 5 (some 36) undef rfl rfl (by kernel_rfl) (by kernel_rfl) (by kernel_rfl) (fun _ _ _ h => h) (Or.inr ⟨by rfl, rfl⟩) (by assumption) ?_
            simp only [Act.put, List.setIfInBounds_toArray, List.set_cons_zero, List.set_cons_succ]
            refine takeDM 6 (some 37) undef rfl rfl (by kernel_rfl) (by kernel_rfl) (by kernel_rfl) (fun _ _ _ h => h) (Or.inr ⟨by rfl, rfl⟩) (by assumption) ?_
            simp only [Act.put, List.setIfInBounds_toArray, List.set_cons_zero, List.set_cons_succ]
            refine takeDM 7 (some 38) undef rfl rfl (by kernel_rfl) (by kernel_rfl) (by kernel_rfl) (fun _ _ _ h => h) (Or.inr ⟨by rfl, rfl⟩) (by assumption) ?_
            simp only [Act.put, List.setIfInBounds_toArray, List.set_cons_zero, List.set_cons_succ]
            refine takeDM 8 (some 39) undef rfl rfl (by kernel_rfl) (by kernel_rfl) (by kernel_rfl) (fun _ _ _ h => h) (Or.inr ⟨by rfl, rfl⟩) (by assumption) ?_
            simp only [Act.put, List.setIfInBounds_toArray, List.set_cons_zero, List.set_cons_succ]
            refine takeDM 9 (some 40) undef rfl rfl (by kernel_rfl) (by kernel_rfl) (by kernel_rfl) (fun _ _ _ h => h) (Or.inr ⟨by rfl, rfl⟩) (by assumption) ?_
            simp only [Act.put, List.setIfInBounds_toArray, List.set_cons_zero, List.set_cons_succ]
            refine takeDM 10 (some 41) undef rfl rfl (by kernel_rfl) (by kernel_rfl) (by kernel_rfl) (fun _ _ _ h => h) (Or.inr ⟨by rfl, rfl⟩) (by assumption) ?_
            simp only [Act.put, List.setIfInBounds_toArray, List.set_cons_zero, List.set_cons_succ]
            refine takeDM 11 (some 42) undef rfl rfl (by kernel_rfl) (by kernel_rfl) (by kernel_rfl) (fun _ _ _ h => h) (Or.inr ⟨by rfl, rfl⟩) (by assumption) ?_
            simp only [Act.put, List.setIfInBounds_toArray, List.set_cons_zero, List.set_cons_succ]
            refine takeDM 12 (some 43) (.bool true) rfl rfl (by kernel_rfl) (by kernel_rfl) (by kernel_rfl) (fun _ _ _ h => h) (Or.inl ⟨by rfl, ?_⟩) (by assumption) ?_
            · intro w hSw; (try dsimp only at hSw); go_simp <;> (intros; omega)
            simp only [Act.put, List.setIfInBounds_toArray, List.set_cons_zero, List.set_cons_succ]
            refine wpAnyH_done (by kernel_rfl) ?_ _
            have HX1d : Hid (Bx v1.drew wr.heap.size #[.string x.o, .int .i64 x.t, .int .i64 x.c, .int .i64 x.l, .string x.d] 30) := HX1.out
            have HB1d := hide' HB1'.out.drew
            clear b0 b1 b2 b3 b4
            obtain ⟨b0, b1, b2, b3, b4⟩ := QF.out v1.drew HX1d.out
            go_wp2_with (first
              | (go_at_call 21; refine (HOw.out _).mono ?_; rintro r2 v2 ⟨rfl, hB2⟩; have HX2 := hide' (HX1d.out.below hB2 HX1d.out.lt); obtain ⟨c0, c1, c2, c3, c4⟩ := QF.out v2 HX2.out; have HB2' := hide' (bstep HB1d.out hB2 HB1d.out.size); clear hB2)
              | (go_at_call 22; refine (HSd.out _).mono ?_; rintro r3 v3 ⟨rfl, hB3⟩; have HX3 := hide' (HX2.out.below hB3 HX2.out.lt); obtain ⟨d0, d1, d2, d3, d4⟩ := QF.out v3 HX3.out; have HB3' := hide' (bstep HB2'.out hB3 HB2'.out.size); clear hB3))
            refine wp_region_held_drew (S := fun V => V.cell? ⟨wr.heap.size, 3, none⟩ = some (.int .i64 x.l) ∧ V.cell? ⟨wr.heap.size, 1, none⟩ = some (.int .i64 x.t)) (by kernel_rfl) ?_ (fun hHeld => ?_)
            · exact ⟨d3, d1⟩
            refine takeDM 0 (some 58) (.string (bts X2)) rfl rfl (by kernel_rfl) (by kernel_rfl) (by kernel_rfl) (fun _ _ _ h => h) (Or.inl ⟨by rfl, ?_⟩) (by assumption) ?_
            · intro w hSw; (try dsimp only at hSw); go_simp <;> (intros; omega)
            simp only [Act.put, List.setIfInBounds_toArray, List.set_cons_zero, List.set_cons_succ]
            refine takeDM 1 (some 59) (.pointer (some ⟨wr.heap.size, 3, none⟩)) rfl rfl (by kernel_rfl) (by kernel_rfl) (by kernel_rfl) (fun _ _ _ h => h) (Or.inl ⟨by rfl, ?_⟩) (by assumption) ?_
            · intro w hSw; (try dsimp only at hSw); go_simp <;> (intros; omega)
            simp only [Act.put, List.setIfInBounds_toArray, List.set_cons_zero, List.set_cons_succ]
            refine takeDM 2 (some 60) (.int .i64 x.l) rfl rfl (by kernel_rfl) (by kernel_rfl) (by kernel_rfl) (fun _ _ _ h => h) (Or.inl ⟨by rfl, ?_⟩) (by assumption) ?_
            · intro w hSw; (try dsimp only at hSw); go_simp <;> (intros; omega)
            simp only [Act.put, List.setIfInBounds_toArray, List.set_cons_zero, List.set_cons_succ]
            refine takeDM 6 (some 64) (.pointer (some ⟨wr.heap.size, 1, none⟩)) rfl rfl (by kernel_rfl) (by kernel_rfl) (by kernel_rfl) (fun _ _ _ h => h) (Or.inl ⟨by rfl, ?_⟩) (by assumption) ?_
            · intro w hSw; (try dsimp only at hSw); go_simp <;> (intros; omega)
            simp only [Act.put, List.setIfInBounds_toArray, List.set_cons_zero, List.set_cons_succ]
            refine takeDM 7 (some 65) (.int .i64 x.t) rfl rfl (by kernel_rfl) (by kernel_rfl) (by kernel_rfl) (fun _ _ _ h => h) (Or.inl ⟨by rfl, ?_⟩) (by assumption) ?_
            · intro w hSw; (try dsimp only at hSw); go_simp <;> (intros; omega)
            simp only [Act.put, List.setIfInBounds_toArray, List.set_cons_zero, List.set_cons_succ]
            refine takeDM 11 (some 69) (.string (bts J)) rfl rfl (by kernel_rfl) (by kernel_rfl) (by kernel_rfl) (fun _ _ _ h => h) (Or.inl ⟨by rfl, ?_⟩) (by assumption) ?_
            · intro w hSw; (try dsimp only at hSw); go_simp <;> (intros; omega)
            simp only [Act.put, List.setIfInBounds_toArray, List.set_cons_zero, List.set_cons_succ]
            refine wpAnyH_ready (rs := [3]) (by kernel_rfl) (by simp) ?_
            refine AllReadyH.cons rfl (fun K hK => ?_) AllReadyH.nil
            go_simp
            go_at_call 23; refine (HDc.out _).mono ?_; rintro r4 v4 ⟨rfl, hB4⟩; have HX4 : Hid (Bx v4 wr.heap.size #[.string x.o, .int .i64 x.t, .int .i64 x.c, .int .i64 x.l, .string x.d] 30) := (by first | exact HX3.out.below hB4 HX3.out.lt | exact (bx_d8 HX3.out).below hB4 HX3.out.lt); obtain ⟨f0, f1, f2, f3, f4⟩ := QF.out v4 HX4.out; have HB4' : Hid (Below w.heap.size w v4) := (by first | exact bstep HB3'.out hB4 HB3'.out.size | exact bstep HB3'.out.drew hB4 HB3'.out.drew.size); clear hB4
            go_wp2_with fail
            refine hK.out _ _ (⟨f3, f1⟩) (fun hHeld => ?_)
            clear hK K
            try simp only [Act.put, List.setIfInBounds_toArray, List.set_cons_zero, List.set_cons_succ]
            refine takeDM 4 (some 62) (.string (bts T1)) rfl rfl (by kernel_rfl) (by kernel_rfl) (by kernel_rfl) (fun _ _ _ h => h) (Or.inl ⟨by rfl, ?_⟩) (by assumption) ?_
            · intro w hSw; (try dsimp only at hSw); go_simp <;> (intros; omega)
            simp only [Act.put, List.setIfInBounds_toArray, List.set_cons_zero, List.set_cons_succ]
            refine takeDM 5 (some 63) (.string (bts T2)) rfl rfl (by kernel_rfl) (by kernel_rfl) (by kernel_rfl) (fun _ _ _ h => h) (Or.inl ⟨by rfl, ?_⟩) (by assumption) ?_
            · intro w hSw; (try dsimp only at hSw); go_simp <;> (intros; omega)
            simp only [Act.put, List.setIfInBounds_toArray, List.set_cons_zero, List.set_cons_succ]
            clear f0 f1 f2 f3 f4
            refine wpAnyH_ready (rs := [8]) (by kernel_rfl) (by simp) ?_
            refine AllReadyH.cons rfl (fun K hK => ?_) AllReadyH.nil
            go_simp
            go_at_call 24; refine (HTn.out _).mono ?_; rintro r5 v5 ⟨rfl, hB5⟩; have HX5 : Hid (Bx v5 wr.heap.size #[.string x.o, .int .i64 x.t, .int .i64 x.c, .int .i64 x.l, .string x.d] 30) := (by first | exact HX4.out.below hB5 HX4.out.lt | exact (bx_d8 HX4.out).below hB5 HX4.out.lt); obtain ⟨f0, f1, f2, f3, f4⟩ := QF.out v5 HX5.out; have HB5' : Hid (Below w.heap.size w v5) := (by first | exact bstep HB4'.out hB5 HB4'.out.size | exact bstep HB4'.out.drew hB5 HB4'.out.drew.size); clear hB5
            go_wp2_with fail
            refine hK.out _ _ (⟨f3, f1⟩) (fun hHeld => ?_)
            clear hK K
            try simp only [Act.put, List.setIfInBounds_toArray, List.set_cons_zero, List.set_cons_succ]
            refine takeDM 9 (some 67) (.string (bts T3)) rfl rfl (by kernel_rfl) (by kernel_rfl) (by kernel_rfl) (fun _ _ _ h => h) (Or.inl ⟨by rfl, ?_⟩) (by assumption) ?_
            · intro w hSw; (try dsimp only at hSw); go_simp <;> (intros; omega)
            simp only [Act.put, List.setIfInBounds_toArray, List.set_cons_zero, List.set_cons_succ]
            refine takeDM 10 (some 68) (.string (bts T4)) rfl rfl (by kernel_rfl) (by kernel_rfl) (by kernel_rfl) (fun _ _ _ h => h) (Or.inl ⟨by rfl, ?_⟩) (by assumption) ?_
            · intro w hSw; (try dsimp only at hSw); go_simp <;> (intros; omega)
            simp only [Act.put, List.setIfInBounds_toArray, List.set_cons_zero, List.set_cons_succ]
            refine takeDM 12 (some 70) (.string (bts T5)) rfl rfl (by kernel_rfl) (by kernel_rfl) (by kernel_rfl) (fun _ _ _ h => h) (Or.inl ⟨by rfl, ?_⟩) (by assumption) ?_
            · intro w hSw; (try dsimp only at hSw); go_simp <;> (intros; omega)
            simp only [Act.put, List.setIfInBounds_toArray, List.set_cons_zero, List.set_cons_succ]
            refine takeDM 13 (some 71) (.string (bts T6)) rfl rfl (by kernel_rfl) (by kernel_rfl) (by kernel_rfl) (fun _ _ _ h => h) (Or.inl ⟨by rfl, ?_⟩) (by assumption) ?_
            · intro w hSw; (try dsimp only at hSw); go_simp <;> (intros; omega)
            simp only [Act.put, List.setIfInBounds_toArray, List.set_cons_zero, List.set_cons_succ]
            refine takeDM 14 (some 72) (.string (bts XX)) rfl rfl (by kernel_rfl) (by kernel_rfl) (by kernel_rfl) (fun _ _ _ h => h) (Or.inl ⟨by rfl, ?_⟩) (by assumption) ?_
            · intro w hSw; (try dsimp only at hSw); go_simp <;> (intros; omega)
            simp only [Act.put, List.setIfInBounds_toArray, List.set_cons_zero, List.set_cons_succ]
            refine takeDM 15 (some 6) (.string (bts XX)) rfl rfl (by kernel_rfl) (by kernel_rfl) (by kernel_rfl) (fun _ _ _ h => h) (Or.inl ⟨by rfl, ?_⟩) (by assumption) ?_
            · intro w hSw; (try dsimp only at hSw); go_simp <;> (intros; omega)
            simp only [Act.put, List.setIfInBounds_toArray, List.set_cons_zero, List.set_cons_succ]
            refine wpAnyH_done (by kernel_rfl) ?_ _
            go_wp2_with fail
            refine ⟨⟨i + 1, by rw [HXX.out], (by first | go_num | (congr 1; omega)), (by have := HIM.out; omega), HB5'⟩, (by simp [intOf]; omega)⟩
          · obtain ⟨j, rfl⟩ : ∃ j, i = j + 1 := ⟨i - 1, by omega⟩
            have z0 : v1.cell? ⟨g, off + j * 5, none⟩ = some (.string la) := by
              obtain ⟨g', off', h1, h2, h3, -⟩ := hat j (by omega)
              injection h1 with h1
              injection h1 with h4 h5
              subst h4 h5
              rw [HLa1.out j rfl]
              exact (HB1'.out.cell (p := ⟨g, off + j * 5, none⟩) hg).trans h3
            have uj : IntKind.i64.wrap (j : Int) = (j : Int) := wrap_in (by omega) (by omega)
            have hbe : (la.toList == x.o.toList) = false := by rw [toList_bt]; exact decide_eq_false (fun e => hsame e.symm)
            clear pk0 y0 y1 y2 y3 y4 hat him HLa0 HLa1 A HT6 m6 lO lX hsame hne hg
            refine wp_region_held_drew (S := fun V => V.cell? ⟨wr.heap.size, 0, none⟩ = some (.string x.o) ∧ V.cell? ⟨g, off + j * 5, none⟩ = some (.string la)) (by kernel_rfl) ?_ (fun hHeld => ?_)
            · exact ⟨b0, z0⟩
            refine takeDM 0 (some 31) (.int .i64 ((j : Int) + 1)) rfl rfl (by kernel_rfl) (by kernel_rfl) (by kernel_rfl) (fun _ _ _ h => h) (Or.inl ⟨by rfl, ?_⟩) (by assumption) ?_
            · intro w hSw; (try dsimp only at hSw); go_simp <;> (intros; omega)
            simp only [Act.put, List.setIfInBounds_toArray, List.set_cons_zero, List.set_cons_succ]
            refine takeDM 1 (some 32) (.bool false) rfl rfl (by kernel_rfl) (by kernel_rfl) (by kernel_rfl) (fun _ _ _ h => h) (Or.inl ⟨by rfl, ?_⟩) (by assumption) ?_
            · intro w hSw; (try dsimp only at hSw); go_simp <;> (intros; omega)
            simp only [Act.put, List.setIfInBounds_toArray, List.set_cons_zero, List.set_cons_succ]
            refine takeDM 2 (some 33) (.bool false) rfl rfl (by kernel_rfl) (by kernel_rfl) (by kernel_rfl) (fun _ _ _ h => h) (Or.inl ⟨by rfl, ?_⟩) (by assumption) ?_
            · intro w hSw; (try dsimp only at hSw); go_simp <;> (intros; omega)
            simp only [Act.put, List.setIfInBounds_toArray, List.set_cons_zero, List.set_cons_succ]
            refine takeDM 3 (some 34) (.slice (some ⟨g, off, none⟩) R.length c) rfl rfl (by kernel_rfl) (by kernel_rfl) (by kernel_rfl) (fun _ _ _ h => h) (Or.inl ⟨by rfl, ?_⟩) (by assumption) ?_
            · intro w hSw; (try dsimp only at hSw); go_simp <;> (intros; omega)
            simp only [Act.put, List.setIfInBounds_toArray, List.set_cons_zero, List.set_cons_succ]
            refine takeDM 4 (some 35) (.int .i64 ((j : Int) + 1)) rfl rfl (by kernel_rfl) (by kernel_rfl) (by kernel_rfl) (fun _ _ _ h => h) (Or.inl ⟨by rfl, ?_⟩) (by assumption) ?_
            · intro w hSw; (try dsimp only at hSw); go_simp <;> (intros; omega)
            simp only [Act.put, List.setIfInBounds_toArray, List.set_cons_zero, List.set_cons_succ]
            refine takeDM 5 (some 36) (.int .i64 (j : Int)) rfl rfl (by kernel_rfl) (by kernel_rfl) (by kernel_rfl) (fun _ _ _ h => h) (Or.inl ⟨by rfl, ?_⟩) (by assumption) ?_
            · intro w hSw; (try dsimp only at hSw); go_simp <;> (intros; omega)
            simp only [Act.put, List.setIfInBounds_toArray, List.set_cons_zero, List.set_cons_succ]
            refine takeDM 6 (some 37) (.pointer (some ⟨g, off + j * 5, none⟩)) rfl rfl (by kernel_rfl) (by kernel_rfl) (by kernel_rfl) (fun _ _ _ h => h) (Or.inl ⟨by rfl, ?_⟩) (by assumption) ?_
            · intro w hSw; (try dsimp only at hSw); go_simp <;> (intros; omega)
            simp only [Act.put, List.setIfInBounds_toArray, List.set_cons_zero, List.set_cons_succ]
            refine takeDM 7 (some 38) (.pointer (some ⟨g, off + j * 5, none⟩)) rfl rfl (by kernel_rfl) (by kernel_rfl) (by kernel_rfl) (fun _ _ _ h => h) (Or.inl ⟨by rfl, ?_⟩) (by assumption) ?_
            · intro w hSw; (try dsimp only at hSw); go_simp <;> (intros; omega)
            simp only [Act.put, List.setIfInBounds_toArray, List.set_cons_zero, List.set_cons_succ]
            refine takeDM 8 (some 39) (.string la) rfl rfl (by kernel_rfl) (by kernel_rfl) (by kernel_rfl) (fun _ _ _ h => h) (Or.inl ⟨by rfl, ?_⟩) (by assumption) ?_
            · intro w hSw; (try dsimp only at hSw); go_simp <;> (intros; omega)
            simp only [Act.put, List.setIfInBounds_toArray, List.set_cons_zero, List.set_cons_succ]
            refine takeDM 9 (some 40) (.pointer (some ⟨wr.heap.size, 0, none⟩)) rfl rfl (by kernel_rfl) (by kernel_rfl) (by kernel_rfl) (fun _ _ _ h => h) (Or.inl ⟨by rfl, ?_⟩) (by assumption) ?_
            · intro w hSw; (try dsimp only at hSw); go_simp <;> (intros; omega)
            simp only [Act.put, List.setIfInBounds_toArray, List.set_cons_zero, List.set_cons_succ]
            refine takeDM 10 (some 41) (.string x.o) rfl rfl (by kernel_rfl) (by kernel_rfl) (by kernel_rfl) (fun _ _ _ h => h) (Or.inl ⟨by rfl, ?_⟩) (by assumption) ?_
            · intro w hSw; (try dsimp only at hSw); go_simp <;> (intros; omega)
            simp only [Act.put, List.setIfInBounds_toArray, List.set_cons_zero, List.set_cons_succ]
            refine takeDM 11 (some 42) (.bool true) rfl rfl (by kernel_rfl) (by kernel_rfl) (by kernel_rfl) (fun _ _ _ h => h) (Or.inl ⟨by rfl, ?_⟩) (by assumption) ?_
            · intro w hSw; (try dsimp only at hSw); go_simp <;> (intros; omega)
            simp only [Act.put, List.setIfInBounds_toArray, List.set_cons_zero, List.set_cons_succ]
            refine takeDM 12 (some 43) (.bool true) rfl rfl (by kernel_rfl) (by kernel_rfl) (by kernel_rfl) (fun _ _ _ h => h) (Or.inl ⟨by rfl, ?_⟩) (by assumption) ?_
            · intro w hSw; (try dsimp only at hSw); go_simp <;> (intros; omega)
            simp only [Act.put, List.setIfInBounds_toArray, List.set_cons_zero, List.set_cons_succ]
            refine wpAnyH_done (by kernel_rfl) ?_ _
            have HX1d : Hid (Bx v1.drew wr.heap.size #[.string x.o, .int .i64 x.t, .int .i64 x.c, .int .i64 x.l, .string x.d] 30) := HX1.out
            have HB1d := hide' HB1'.out.drew
            clear b0 b1 b2 b3 b4
            obtain ⟨b0, b1, b2, b3, b4⟩ := QF.out v1.drew HX1d.out
            go_wp2_with (first
              | (go_at_call 21; refine (HOw.out _).mono ?_; rintro r2 v2 ⟨rfl, hB2⟩; have HX2 := hide' (HX1d.out.below hB2 HX1d.out.lt); obtain ⟨c0, c1, c2, c3, c4⟩ := QF.out v2 HX2.out; have HB2' := hide' (bstep HB1d.out hB2 HB1d.out.size); clear hB2)
              | (go_at_call 22; refine (HSd.out _).mono ?_; rintro r3 v3 ⟨rfl, hB3⟩; have HX3 := hide' (HX2.out.below hB3 HX2.out.lt); obtain ⟨d0, d1, d2, d3, d4⟩ := QF.out v3 HX3.out; have HB3' := hide' (bstep HB2'.out hB3 HB2'.out.size); clear hB3))
            refine wp_region_held_drew (S := fun V => V.cell? ⟨wr.heap.size, 3, none⟩ = some (.int .i64 x.l) ∧ V.cell? ⟨wr.heap.size, 1, none⟩ = some (.int .i64 x.t)) (by kernel_rfl) ?_ (fun hHeld => ?_)
            · exact ⟨d3, d1⟩
            refine takeDM 0 (some 58) (.string (bts X2)) rfl rfl (by kernel_rfl) (by kernel_rfl) (by kernel_rfl) (fun _ _ _ h => h) (Or.inl ⟨by rfl, ?_⟩) (by assumption) ?_
            · intro w hSw; (try dsimp only at hSw); go_simp <;> (intros; omega)
            simp only [Act.put, List.setIfInBounds_toArray, List.set_cons_zero, List.set_cons_succ]
            refine takeDM 1 (some 59) (.pointer (some ⟨wr.heap.size, 3, none⟩)) rfl rfl (by kernel_rfl) (by kernel_rfl) (by kernel_rfl) (fun _ _ _ h => h) (Or.inl ⟨by rfl, ?_⟩) (by assumption) ?_
            · intro w hSw; (try dsimp only at hSw); go_simp <;> (intros; omega)
            simp only [Act.put, List.setIfInBounds_toArray, List.set_cons_zero, List.set_cons_succ]
            refine takeDM 2 (some 60) (.int .i64 x.l) rfl rfl (by kernel_rfl) (by kernel_rfl) (by kernel_rfl) (fun _ _ _ h => h) (Or.inl ⟨by rfl, ?_⟩) (by assumption) ?_
            · intro w hSw; (try dsimp only at hSw); go_simp <;> (intros; omega)
            simp only [Act.put, List.setIfInBounds_toArray, List.set_cons_zero, List.set_cons_succ]
            refine takeDM 6 (some 64) (.pointer (some ⟨wr.heap.size, 1, none⟩)) rfl rfl (by kernel_rfl) (by kernel_rfl) (by kernel_rfl) (fun _ _ _ h => h) (Or.inl ⟨by rfl, ?_⟩) (by assumption) ?_
            · intro w hSw; (try dsimp only at hSw); go_simp <;> (intros; omega)
            simp only [Act.put, List.setIfInBounds_toArray, List.set_cons_zero, List.set_cons_succ]
            refine takeDM 7 (some 65) (.int .i64 x.t) rfl rfl (by kernel_rfl) (by kernel_rfl) (by kernel_rfl) (fun _ _ _ h => h) (Or.inl ⟨by rfl, ?_⟩) (by assumption) ?_
            · intro w hSw; (try dsimp only at hSw); go_simp <;> (intros; omega)
            simp only [Act.put, List.setIfInBounds_toArray, List.set_cons_zero, List.set_cons_succ]
            refine takeDM 11 (some 69) (.string (bts J)) rfl rfl (by kernel_rfl) (by kernel_rfl) (by kernel_rfl) (fun _ _ _ h => h) (Or.inl ⟨by rfl, ?_⟩) (by assumption) ?_
            · intro w hSw; (try dsimp only at hSw); go_simp <;> (intros; omega)
            simp only [Act.put, List.setIfInBounds_toArray, List.set_cons_zero, List.set_cons_succ]
            refine wpAnyH_ready (rs := [3]) (by kernel_rfl) (by simp) ?_
            refine AllReadyH.cons rfl (fun K hK => ?_) AllReadyH.nil
            go_simp
            go_at_call 23; refine (HDc.out _).mono ?_; rintro r4 v4 ⟨rfl, hB4⟩; have HX4 : Hid (Bx v4 wr.heap.size #[.string x.o, .int .i64 x.t, .int .i64 x.c, .int .i64 x.l, .string x.d] 30) := (by first | exact HX3.out.below hB4 HX3.out.lt | exact (bx_d8 HX3.out).below hB4 HX3.out.lt); obtain ⟨f0, f1, f2, f3, f4⟩ := QF.out v4 HX4.out; have HB4' : Hid (Below w.heap.size w v4) := (by first | exact bstep HB3'.out hB4 HB3'.out.size | exact bstep HB3'.out.drew hB4 HB3'.out.drew.size); clear hB4
            go_wp2_with fail
            refine hK.out _ _ (⟨f3, f1⟩) (fun hHeld => ?_)
            clear hK K
            try simp only [Act.put, List.setIfInBounds_toArray, List.set_cons_zero, List.set_cons_succ]
            refine takeDM 4 (some 62) (.string (bts T1)) rfl rfl (by kernel_rfl) (by kernel_rfl) (by kernel_rfl) (fun _ _ _ h => h) (Or.inl ⟨by rfl, ?_⟩) (by assumption) ?_
            · intro w hSw; (try dsimp only at hSw); go_simp <;> (intros; omega)
            simp only [Act.put, List.setIfInBounds_toArray, List.set_cons_zero, List.set_cons_succ]
            refine takeDM 5 (some 63) (.string (bts T2)) rfl rfl (by kernel_rfl) (by kernel_rfl) (by kernel_rfl) (fun _ _ _ h => h) (Or.inl ⟨by rfl, ?_⟩) (by assumption) ?_
            · intro w hSw; (try dsimp only at hSw); go_simp <;> (intros; omega)
            simp only [Act.put, List.setIfInBounds_toArray, List.set_cons_zero, List.set_cons_succ]
            clear f0 f1 f2 f3 f4
            refine wpAnyH_ready (rs := [8]) (by kernel_rfl) (by simp) ?_
            refine AllReadyH.cons rfl (fun K hK => ?_) AllReadyH.nil
            go_simp
            go_at_call 24; refine (HTn.out _).mono ?_; rintro r5 v5 ⟨rfl, hB5⟩; have HX5 : Hid (Bx v5 wr.heap.size #[.string x.o, .int .i64 x.t, .int .i64 x.c, .int .i64 x.l, .string x.d] 30) := (by first | exact HX4.out.below hB5 HX4.out.lt | exact (bx_d8 HX4.out).below hB5 HX4.out.lt); obtain ⟨f0, f1, f2, f3, f4⟩ := QF.out v5 HX5.out; have HB5' : Hid (Below w.heap.size w v5) := (by first | exact bstep HB4'.out hB5 HB4'.out.size | exact bstep HB4'.out.drew hB5 HB4'.out.drew.size); clear hB5
            go_wp2_with fail
            refine hK.out _ _ (⟨f3, f1⟩) (fun hHeld => ?_)
            clear hK K
            try simp only [Act.put, List.setIfInBounds_toArray, List.set_cons_zero, List.set_cons_succ]
            refine takeDM 9 (some 67) (.string (bts T3)) rfl rfl (by kernel_rfl) (by kernel_rfl) (by kernel_rfl) (fun _ _ _ h => h) (Or.inl ⟨by rfl, ?_⟩) (by assumption) ?_
            · intro w hSw; (try dsimp only at hSw); go_simp <;> (intros; omega)
            simp only [Act.put, List.setIfInBounds_toArray, List.set_cons_zero, List.set_cons_succ]
            refine takeDM 10 (some 68) (.string (bts T4)) rfl rfl (by kernel_rfl) (by kernel_rfl) (by kernel_rfl) (fun _ _ _ h => h) (Or.inl ⟨by rfl, ?_⟩) (by assumption) ?_
            · intro w hSw; (try dsimp only at hSw); go_simp <;> (intros; omega)
            simp only [Act.put, List.setIfInBounds_toArray, List.set_cons_zero, List.set_cons_succ]
            refine takeDM 12 (some 70) (.string (bts T5)) rfl rfl (by kernel_rfl) (by kernel_rfl) (by kernel_rfl) (fun _ _ _ h => h) (Or.inl ⟨by rfl, ?_⟩) (by assumption) ?_
            · intro w hSw; (try dsimp only at hSw); go_simp <;> (intros; omega)
            simp only [Act.put, List.setIfInBounds_toArray, List.set_cons_zero, List.set_cons_succ]
            refine takeDM 13 (some 71) (.string (bts T6)) rfl rfl (by kernel_rfl) (by kernel_rfl) (by kernel_rfl) (fun _ _ _ h => h) (Or.inl ⟨by rfl, ?_⟩) (by assumption) ?_
            · intro w hSw; (try dsimp only at hSw); go_simp <;> (intros; omega)
            simp only [Act.put, List.setIfInBounds_toArray, List.set_cons_zero, List.set_cons_succ]
            refine takeDM 14 (some 72) (.string (bts XX)) rfl rfl (by kernel_rfl) (by kernel_rfl) (by kernel_rfl) (fun _ _ _ h => h) (Or.inl ⟨by rfl, ?_⟩) (by assumption) ?_
            · intro w hSw; (try dsimp only at hSw); go_simp <;> (intros; omega)
            simp only [Act.put, List.setIfInBounds_toArray, List.set_cons_zero, List.set_cons_succ]
            refine takeDM 15 (some 6) (.string (bts XX)) rfl rfl (by kernel_rfl) (by kernel_rfl) (by kernel_rfl) (fun _ _ _ h => h) (Or.inl ⟨by rfl, ?_⟩) (by assumption) ?_
            · intro w hSw; (try dsimp only at hSw); go_simp <;> (intros; omega)
            simp only [Act.put, List.setIfInBounds_toArray, List.set_cons_zero, List.set_cons_succ]
            refine wpAnyH_done (by kernel_rfl) ?_ _
            go_wp2_with fail
            refine ⟨⟨(j + 1) + 1, by rw [HXX.out], (by first | go_num | (congr 1; omega)), (by have := HIM.out; omega), HB5'⟩, (by simp [intOf]; omega)⟩
      · obtain ⟨hz, hz1, hz2⟩ := HRb.out him
        have HZo := hide' (fun V => zonal2_any x.o x.d x.t x.c x.l V hz1 hz2)
        rw [hz] at HZo
        have HE : Hid (¬ m = R.length) := by unfold Hid; omega
        clear hz hz1 hz2 HRx HRb HNx HLa0 HLa1
        go_wp2_with (first
          | (go_at_call 20; refine (HZo.out _).mono ?_; rintro r1 v1 ⟨rfl, hB1⟩; have HB1' := hide' (bstep HBw.out hB1 HBw.out.size); clear hB1))
        go_ret2
        exact ⟨rfl, HB1'.out⟩
    · obtain rfl : i = R.length := by omega
      obtain rfl : m = R.length := by omega
      have pk : ¬ (R.length : Int) < (R.length : Int) := by omega
      go_wp2_with fail
      go_ret2
      exact ⟨rfl, HB.out⟩
end Go.Proofs.YtmbjmokhkonpiaaGreatDoor
