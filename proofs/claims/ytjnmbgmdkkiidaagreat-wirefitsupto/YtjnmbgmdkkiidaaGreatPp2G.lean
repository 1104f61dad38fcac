import Derived.Test.YtjnmbgmdkkiidaaGreatPp0G
import Derived.Deep.AppendLies
import Derived.Deep.RegionLaw
/-
  The reference's paper: a name is written. (The verifier's own text.)
-/
namespace Go.Proofs.YtjnmbgmdkkiidaaGreat
set_option linter.unusedVariables false
open Go.RowKit Go.Shelf Go.Maps Go.Proofs.YtjnmbgmdkkiidaaGreat.Nm

theorem Tryz.infoStr2 : (Tryz.prog.info? 9).map (fun i => (i.zero, i.size, i.bytes)) = some (some (.string .empty), 1, 16) := by kernel_rfl
theorem Tryz.infoInt2 : (Tryz.prog.info? 3).map (fun i => (i.zero, i.size, i.bytes)) = some (some (.int .i64 0), 1, 8) := by kernel_rfl
theorem one_new (w : World) (v : Value) (t : TypeId) : ∀ j u, [v][j]? = some u → (w.alloc (.cells #[v] t)).cell? ((⟨w.heap.size, 0, none⟩ : Addr).add j) = some u := fun j u h => by
  have := World.news_of_block (World.alloc_heap_new w (.cells #[v] t)) j u (by simpa using h)
  exact this
theorem one_news {w : World} {B : Nat} {v : Value} {t : TypeId} (hb : Bx w B #[v] t) : ∀ j u, [v][j]? = some u → w.cell? ((⟨B, 0, none⟩ : Addr).add j) = some u := fun j u h => World.news_of_block hb j u (by simpa using h)

theorem Pr.place3 {w8 W w9 : World} {P base : Nat} {u1 u2 u3 : Value} {o : ByteArray} {N L : List Value} {g cap : Nat} {v : Value} (h : Pr W P base u1 u2 u3 o N L) (hg0 : w8.grownBy W none) (hown : w9.ownsRow base 3 1 (.slice (some ⟨g, 0, none⟩) (L.length + 1) cap) (L.length + 1) (L ++ [v])) (hg : W.grownBy w9 u3.ownBlock) (hp : u3.ownBlock = some g ∨ g = W.heap.size) :
    (w9.cell? ⟨P, 2, none⟩ = some u3 ∧ w9.frozen? ⟨P, 2, none⟩ = false) ∧ Pr (w9.setCell ⟨P, 2, none⟩ (.slice (some ⟨g, 0, none⟩) (L.length + 1) cap)) P base u1 u2 (.slice (some ⟨g, 0, none⟩) (L.length + 1) cap) o N (L ++ [v]) ∧ Fq w8 (w9.setCell ⟨P, 2, none⟩ (.slice (some ⟨g, 0, none⟩) (L.length + 1) cap)) (own3 P u1 u2 u3) (own3 P u1 u2 (.slice (some ⟨g, 0, none⟩) (L.length + 1) cap)) := by
  have hb := h.bx.grown hg h.r3.nP
  have h1 := h.place (L' := L ++ [v]) (by rw [List.length_append]; exact hown) hg (by
    rcases hp with e | e
    · exact .inl e.symm
    · exact .inr (by rw [← e]; rfl))
  exact ⟨⟨hb.cell rfl, hb.free 2⟩, h1.1, (Fq.none hg0 _).trans h1.2⟩
theorem Pp.note {w : World} {P base : Nat} {u1 u2 u3 : Value} {s : PS} {n : ByteArray} {p : Nat} (h : Pr w P base u1 u2 u3 s.out (tabN s.tab ++ [.string n]) (tabP s.tab ++ [.int .i64 (p : Int)])) (hu : (s.tab.map Prod.fst).Nodup) (hn : ∀ x ∈ s.tab, x.1 ≠ n) : Pp w P base u1 u2 u3 ⟨s.out, (n, p) :: s.tab⟩ := by
  refine ⟨by rw [tabN_cons, tabP_cons]; exact h, ?_⟩
  simp only [List.map_cons, List.nodup_cons]
  refine ⟨fun e => ?_, hu⟩
  obtain ⟨x, hx, he⟩ := List.mem_map.1 e
  exact hn x hx he

set_option maxRecDepth 100000 in
set_option maxHeartbeats 2000000 in
/-- (*paper).name -/
theorem rname_any (P base : Nat) (v1 v2 v3 : Value) (s : PS) (n : ByteArray) (w : World) (h : Pp w P base v1 v2 v3 s) (hn : isN n = true) (hok : TabOK s.tab) (ht : s.tab.length ≤ 1099511000000) (hz : s.out.size ≤ 1099510000000) :
    Calls Tryz.prog 22 #[.pointer (some ⟨P, 0, none⟩), .string n] w (PpE P base v1 v2 v3 (nameL (labs n) s) w) := by
  have HP := hide' h
  have hN : n = putB (labs n) := (putB_labs hn).symm
  have hsz : n.size ≤ 255 := ((isN_iff n).1 hn).1
  go_enter Tryz.func22, Tryz.ntmps22
  go_wp2
  go_loopw [1] (fun nv wr => ∃ (l : List ByteArray) (u1 u2 u3 : Value) (s' : PS), nv = .string (putB l) ∧ OkL l ∧ (putB l).size ≤ 255 ∧ Hid (nameL (labs n) s = nameL l s') ∧ Hid (Pp wr P base u1 u2 u3 s') ∧ Hid (Fq w wr (own3 P v1 v2 v3) (own3 P u1 u2 u3)) ∧ Hid (TabOK s'.tab) ∧ s'.tab.length + (putB l).size ≤ s.tab.length + 255 ∧ s'.out.size + (putB l).size ≤ s.out.size + 255) (fun nv _ => szV nv)
  case atStart => exact ⟨labs n, v1, v2, v3, s, by rw [← hN], okL_labs n, by rw [← hN]; exact hsz, rfl, HP, Fq.refl _ _, hok, by rw [← hN]; omega, by rw [← hN]; omega⟩
  case round =>
    clear HP h hN hsz
    obtain ⟨l, u1, u2, u3, s', rfl, hl, hl255, HE, H, HF, HT, hb1, hb2⟩ := hrel
    cases l with
    | nil =>
      have hc : ((putB []).toList == [0]) = true := by rw [labs_nil_putB, toList_eq]; decide
      go_wp2_with (go_at_call 20; refine (pput_any P base u1 u2 u3 s' ⟨#[0]⟩ wr H.out (by omega) (by decide)).mono ?_; rintro e w7 ⟨rfl, t1, t2, t3, r1, r2⟩)
      go_end0
      rw [HE.out]
      exact ⟨rfl, t1, t2, t3, r1, HF.out.trans r2⟩
    | cons x l =>
      obtain ⟨hx0, hx63⟩ := hl x List.mem_cons_self
      have hc : ((putB (x :: l)).toList == [0]) = false := by
        rw [beq_eq_false_iff_ne]
        intro e
        exact putB_ne (l := l) hx0 hx63 (toList_inj.1 (e.trans (by rw [toList_eq])))
      have hp : (putB (x :: l)).size = 1 + x.size + (putB l).size := by rw [putB_cons, ByteArray.size_append, chunk_size]
      have hpl : 1 ≤ (putB l).size := by rw [putB_size]; omega
      have HNo := hide' (noted_any P base u1 u2 u3 s' (putB (x :: l)) wr H.out (by omega))
      cases hf : tabF s'.tab (putB (x :: l)) with
      | some pl =>
        have hple := HT.out.le hf
        have HR : Hid (nameL (x :: l) s' = ⟨s'.out ++ numB (49152 + pl) 2, s'.tab⟩) := by unfold Hid nameL; rw [hf]
        unfold notedV at HNo
        rw [hf] at HNo
        simp only at HNo
        go_wp2_with (first
          | (go_at_call 43; refine HNo.out.mono ?_; rintro e w5 ⟨rfl, hB5⟩; have H5 := hide' (H.out.below hB5); have F5 := hide' (HF.out.trans (Fq.of hB5 _)); clear hB5)
          | (go_at_call 21; refine (refNumber_any 2 (49152 + pl) _ (by omega) (by omega)).mono ?_; rintro e w6 ⟨rfl, hB6⟩; have H6 := hide' (H5.out.below hB6); have F6 := hide' (F5.out.trans (Fq.of hB6 _)); clear hB6)
          | (go_at_call 20; refine (pput_any P base u1 u2 u3 s' (numB (49152 + pl) 2) _ H6.out (by omega) (by rw [numB_size]; omega)).mono ?_; rintro e w7 ⟨rfl, t1, t2, t3, r1, r2⟩))
        go_end0
        rw [HE.out, HR.out]
        exact ⟨rfl, t1, t2, t3, r1, F6.out.trans r2⟩
      | none =>
        unfold notedV at HNo
        rw [hf] at HNo
        simp only at HNo
        have hb0 : bt (putB (x :: l)) 0 = x.size := by
          rw [putB_cons, bt_append_left _ _ _ (by rw [chunk_size]; omega), bt_chunk _ (by omega)]
        obtain ⟨y, hy, hby, hy256⟩ := bt_wrap (s := putB (x :: l)) (i := 0) (by omega)
        have hyx : y = x.size := by omega
        have hx1 : (putB (x :: l)).extract 0 (1 + x.size) = chunk x := by
          rw [putB_cons, ← chunk_size x]; exact extract_left _ _
        have hx2 : (putB (x :: l)).extract (1 + x.size) (putB (x :: l)).size = putB l := by
          rw [putB_cons, ← chunk_size x]; exact extract_right _ _
        rw [hp] at hx2
        subst hyx
        obtain ⟨p0, c0, rfl, _⟩ := own_shape H.out.1.r1.own
        have hcs := chunk_size x
        by_cases h16 : s'.out.size ≤ 16383
        · have HR : Hid (nameL (x :: l) s' = nameL l ⟨s'.out ++ chunk x, (putB (x :: l), s'.out.size) :: s'.tab⟩) := by unfold Hid; rw [nameL, hf]; simp only; rw [if_pos h16]
          obtain ⟨i1, hi1, hy1, hy2, hy3⟩ := info_parts Tryz.infoStr2
          obtain ⟨i2, hi2, hz1, hz2, hz3⟩ := info_parts Tryz.infoInt2
          obtain ⟨q2, c2, rfl, _⟩ := own_shape H.out.1.r2.own
          obtain ⟨q3, c3, rfl, _⟩ := own_shape H.out.1.r3.own
          have HN2 := hide' (tabN_len s'.tab)
          have HN3 := hide' (tabP_len s'.tab)
          have HNF := hide' (tabF_of_none hf)
          go_wp2_with (first
            | (go_at_call 43; refine HNo.out.mono ?_; rintro e w5 ⟨rfl, hB5⟩; have H5 := hide' (H.out.below hB5); have F5 := hide' (HF.out.trans (Fq.of hB5 _)); have q0 : w5.cell? ⟨P, 0, none⟩ = some (.slice p0 s'.out.size c0) := H5.out.1.bx.cell rfl; have q1 : w5.cell? ⟨P, 1, none⟩ = some (.slice q2 (tabN s'.tab).length c2) := H5.out.1.bx.cell rfl; clear hB5)
            | (at_builtin; refine wpList_append_apart _ rfl _ _ 49 rfl base 9 i1 (.string .empty) 1 16 Tryz.underlying49 hi1 hy1 hy2 hy3 rfl (by decide) (.slice q2 (tabN s'.tab).length c2) (tabN s'.tab).length (tabN s'.tab) rfl (H5.out.1.alloc _).r2.own ⟨_, 0, none⟩ 1 1 [.string (putB (x :: l))] rfl rfl (one_new _ _ _) (by simp [Value.oneCell']) (by have := HN2.out; unfold maxLen; omega) (by have := HN2.out; omega) (H5.out.1.alloc _).lt.2 ?_; intro v6 w6 hown6 hgrow6 hpl6; obtain ⟨p6, c6, rfl, _⟩ := own_shape hown6; have hb6 := (H5.out.1.alloc (.cells #[.string (putB (x :: l))] 9)).bx.grown hgrow6 (H5.out.1.alloc (.cells #[.string (putB (x :: l))] 9)).r2.nP; have cc6 := hb6.cell (j := 1) rfl; have ff6 := hb6.free 1; obtain ⟨w8, hw8⟩ : ∃ w8, w6.setCell ⟨P, 1, none⟩ (.slice p6 ((tabN s'.tab).length + 1) c6) = w8 := ⟨_, rfl⟩; have R8 := hide' ((H5.out.1.alloc (.cells #[.string (putB (x :: l))] 9)).rest (N' := tabN s'.tab ++ [.string (putB (x :: l))]) (by rw [List.length_append]; exact hown6) hgrow6 hpl6); rw [hw8] at R8; have F8 := hide' ((F5.out.trans (Fq.none (World.grownBy_alloc w5 (.cells #[.string (putB (x :: l))] 9) none) _)).trans R8.out.2); clear hown6 hgrow6 hpl6 hb6))
          have y0 : w8.cell? ⟨P, 0, none⟩ = some (.slice p0 s'.out.size c0) := R8.out.1.bx.cell rfl
          have y2 : w8.cell? ⟨P, 2, none⟩ = some (.slice q3 (tabP s'.tab).length c3) := R8.out.1.bx.cell rfl
          have ya : ∀ o, (w8.alloc o).cell? ⟨P, 0, none⟩ = some (.slice p0 s'.out.size c0) := fun o => (R8.out.1.alloc o).bx.cell rfl
          have yb : ∀ o, (w8.alloc o).cell? ⟨P, 2, none⟩ = some (.slice q3 (tabP s'.tab).length c3) := fun o => (R8.out.1.alloc o).bx.cell rfl
          go_region_law (refine step_append_lies _ rfl _ _ 50 rfl base 3 i2 (.int .i64 0) 1 8 Tryz.underlying50 hi2 hz1 hz2 hz3 rfl (by decide) (.slice q3 (tabP s'.tab).length c3) (tabP s'.tab).length (tabP s'.tab) rfl (by first | exact (R8.out.1.alloc _).r3.own | exact (R8.out.1.drew.alloc _).r3.own | exact ((R8.out.1.alloc _).drew).r3.own) ⟨_, 0, none⟩ 1 1 [.int .i64 (s'.out.size : Int)] rfl rfl (by first | exact one_new _ _ _) (by simp [Value.oneCell']) (by decide) (by have := HN3.out; unfold maxLen; omega) (by have := HN3.out; omega) (by first | exact (R8.out.1.alloc _).lt.2 | exact (R8.out.1.drew.alloc _).lt.2 | exact ((R8.out.1.alloc _).drew).lt.2) _ rfl ?_; intro g9 cap9 w9 hown9 hgrow9 hpl9 hlt9; have E9 := hide' (show (w9.cell? ⟨P, 2, none⟩ = some (.slice q3 (tabP s'.tab).length c3) ∧ w9.frozen? ⟨P, 2, none⟩ = false) ∧ Pr (w9.setCell ⟨P, 2, none⟩ (.slice (some ⟨g9, 0, none⟩) ((tabP s'.tab).length + 1) cap9)) P base (.slice p0 s'.out.size c0) (.slice p6 ((tabN s'.tab).length + 1) c6) (.slice (some ⟨g9, 0, none⟩) ((tabP s'.tab).length + 1) cap9) s'.out (tabN s'.tab ++ [.string (putB (x :: l))]) (tabP s'.tab ++ [.int .i64 (s'.out.size : Int)]) ∧ Fq w8 (w9.setCell ⟨P, 2, none⟩ (.slice (some ⟨g9, 0, none⟩) ((tabP s'.tab).length + 1) cap9)) (own3 P (.slice p0 s'.out.size c0) (.slice p6 ((tabN s'.tab).length + 1) c6) (.slice q3 (tabP s'.tab).length c3)) (own3 P (.slice p0 s'.out.size c0) (.slice p6 ((tabN s'.tab).length + 1) c6) (.slice (some ⟨g9, 0, none⟩) ((tabP s'.tab).length + 1) cap9)) by first | exact Pr.place3 (R8.out.1.alloc _) (World.grownBy_alloc w8 _ none) hown9 hgrow9 hpl9 | exact Pr.place3 (R8.out.1.drew.alloc _) (grown_trans (grown_drew w8 none) (World.grownBy_alloc w8.drew _ none)) hown9 hgrow9 hpl9 | exact Pr.place3 ((R8.out.1.alloc _).drew) (grown_trans (World.grownBy_alloc w8 _ none) (grown_drew _ none)) hown9 hgrow9 hpl9); obtain ⟨cc9, ff9⟩ := E9.out.1; clear hown9 hgrow9 hpl9 hlt9)
          all_goals
            have HA := hide' (Pp.note E9.out.2.1 H.out.2 HNF.out)
            have FA := hide' (F8.out.trans E9.out.2.2)
            clear E9 cc9 ff9
            go_wp2_with (go_at_call 20; refine (pput_any P base _ _ _ _ (chunk x) _ HA.out (by show s'.out.size ≤ _; omega) (by omega)).mono ?_; rintro e w7 ⟨rfl, t1, t2, t3, r1, r2⟩; have R1 := hide' r1; have R2 := hide' (FA.out.trans r2); clear r1 r2)
            go_roundw
            case rel => exact ⟨l, t1, t2, t3, _, by first | rfl | rw [hx2], fun y hy => hl y (List.mem_cons_of_mem _ hy), by omega, by unfold Hid; rw [HE.out, HR.out], R1, R2, (fun y hy => by rcases List.mem_cons.1 hy with rfl | hy; exact ⟨h16, hl255⟩; exact HT.out y hy), by simp only [List.length_cons]; omega, by show (s'.out ++ chunk x).size + _ ≤ _; rw [ByteArray.size_append]; omega⟩
            case measure => simp only [hx2, szV]; omega
        · have HR : Hid (nameL (x :: l) s' = nameL l ⟨s'.out ++ chunk x, s'.tab⟩) := by unfold Hid; rw [nameL, hf]; simp only; rw [if_neg h16]
          go_wp2_with (first
            | (go_at_call 43; refine HNo.out.mono ?_; rintro e w5 ⟨rfl, hB5⟩; have H5 := hide' (H.out.below hB5); have F5 := hide' (HF.out.trans (Fq.of hB5 _)); have q0 : w5.cell? ⟨P, 0, none⟩ = some (.slice p0 s'.out.size c0) := H5.out.1.bx.cell rfl; clear hB5)
            | (go_at_call 20; refine (pput_any P base _ u2 u3 s' (chunk x) _ H5.out (by omega) (by omega)).mono ?_; rintro e w7 ⟨rfl, t1, t2, t3, r1, r2⟩; have R1 := hide' r1; have R2 := hide' (F5.out.trans r2); clear r1 r2))
          go_roundw
          case rel => exact ⟨l, t1, t2, t3, _, by first | rfl | rw [hx2], fun y hy => hl y (List.mem_cons_of_mem _ hy), by omega, by unfold Hid; rw [HE.out, HR.out], R1, R2, HT, by show s'.tab.length + _ ≤ _; omega, by show (s'.out ++ chunk x).size + _ ≤ _; rw [ByteArray.size_append]; omega⟩
          case measure => simp only [hx2, szV]; omega
end Go.Proofs.YtjnmbgmdkkiidaaGreat

/-
  The reference's whole, brief. (The verifier's own text.)
-/
namespace Go.Proofs.YtjnmbgmdkkiidaaGreat
set_option linter.unusedVariables false
open Go.RowKit Go.Shelf Go.Maps Go.Proofs.YtjnmbgmdkkiidaaGreat.Nm

set_option maxRecDepth 100000 in
set_option maxHeartbeats 1000000 in
/-- gazetteerref2.whole -/
theorem whole_any (n r : ByteArray) (w : World) (hn : isN n = true) (hr : r.size ≤ 1048576) :
    Calls Tryz.prog 45 #[.string (n ++ r)] w fun e w' => e = .returned (.int .i64 (n.size : Int)) ∧ w' = w := by
  have hN : n = putB (labs n) := (putB_labs hn).symm
  have hsz : n.size ≤ 255 := ((isN_iff n).1 hn).1
  obtain ⟨d, hd⟩ : ∃ d, n ++ r = d := ⟨_, rfl⟩
  have hds : d.size = n.size + r.size := by rw [← hd, ByteArray.size_append]
  have HD := hide' hd
  have HN := hide' hN
  rw [hd]
  clear hN hd
  go_enter Tryz.func45, Tryz.ntmps45
  go_wp2
  go_loopw [3] (fun i wr => ∃ (k : Nat) (a : ByteArray) (l : List ByteArray), i = .int .i64 (k : Int) ∧ Hid (k = a.size ∧ n = a ++ putB l ∧ OkL l) ∧ k < n.size ∧ wr = w) (fun i _ => n.size - (intOf i).toNat)
  case atStart =>
    refine ⟨0, .empty, labs n, rfl, ⟨rfl, ?_, okL_labs n⟩, ?_, rfl⟩
    · rw [← HN.out]; apply ByteArray.ext; simp
    · have := HN.out; rw [this, putB_size]; omega
  case round =>
    obtain ⟨k, a, l, rfl, HA, hk, rfl⟩ := hrel
    obtain ⟨y, hy, hby, hy256⟩ := bt_wrap (s := d) (i := k) (by omega)
    have hkd : k < d.size := by omega
    have HB : Hid (bt d k = bt (putB l) 0) := by
      obtain ⟨h1, h2, _⟩ := HA.out
      have hp : 0 < (putB l).size := by rw [putB_size]; omega
      unfold Hid
      rw [← HD.out, h2, bt_append_left _ _ _ (by rw [ByteArray.size_append]; omega), bt_append_right _ _ _ (by omega), h1, Nat.sub_self]
    cases l with
    | nil =>
      have hy0 : y = 0 := by
        have := HB.out
        have h0 : bt (putB []) 0 = 0 := by rw [labs_nil_putB]; decide
        omega
      subst hy0
      have hn1 : n.size = k + 1 := by
        obtain ⟨h1, h2, _⟩ := HA.out
        rw [h2, ByteArray.size_append, labs_nil_putB, h1]; rfl
      go_wp2
      go_ret
      exact ⟨by have e : ((n.size : Nat) : Int) = (k : Int) + 1 := by omega
                rw [e]; rfl, rfl⟩
    | cons x l =>
      obtain ⟨h1, h2, h3⟩ := HA.out
      obtain ⟨hx0, hx63⟩ := h3 x List.mem_cons_self
      have hyx : y = x.size := by
        have := HB.out
        have h0 : bt (putB (x :: l)) 0 = x.size := by rw [putB_cons, bt_append_left _ _ _ (by rw [chunk_size]; omega), bt_chunk _ (by omega)]
        omega
      subst hyx
      have hsz2 : n.size = k + (1 + x.size + (putB l).size) := by rw [h2, ByteArray.size_append, putB_cons, ByteArray.size_append, chunk_size, h1]
      have hpl : 1 ≤ (putB l).size := by rw [putB_size]; omega
      have HA2 : Hid (k + (1 + x.size) = (a ++ chunk x).size ∧ n = (a ++ chunk x) ++ putB l ∧ OkL l) := ⟨by rw [ByteArray.size_append, chunk_size, h1], by rw [ByteArray.append_assoc, ← putB_cons]; exact h2, fun y hy => h3 y (List.mem_cons_of_mem _ hy)⟩
      clear h1 h2 h3
      go_wp2
      go_roundw
      case rel => exact ⟨k + (1 + x.size), a ++ chunk x, l, by go_num, HA2, by omega, by first | rfl | trivial⟩
      case measure => simp [intOf]; omega
/-- the parts of data whose names may be short -/
def bl (t : Int) : List Nat := if t = 2 ∨ t = 5 ∨ t = 12 then [0] else if t = 15 then [2, 0] else if t = 6 then [0, 0, 20] else []
/-- numbers that lie in a row of their own -/
def IsAt (w : World) (b : Nat) (p : Option Addr) (L : List Nat) : Prop := ∀ k (hk : k < L.length), ∃ g, p = some ⟨g, 0, none⟩ ∧ b ≤ g ∧ g < w.heap.size ∧ w.cell? ⟨g, k, none⟩ = some (.int .i64 (L[k] : Int))
theorem isAt_new (w : World) (L : List Nat) (t : TypeId) : IsAt (w.alloc (.cells (L.map fun (x : Nat) => (.int .i64 (x : Int) : Value)).toArray t)) w.heap.size (some ⟨w.heap.size, 0, none⟩) L := fun k hk =>
  ⟨w.heap.size, rfl, Nat.le_refl _, by simp, by
    have h : Bx (w.alloc (.cells (L.map fun (x : Nat) => (.int .i64 (x : Int) : Value)).toArray t)) w.heap.size (L.map fun (x : Nat) => (.int .i64 (x : Int) : Value)).toArray t := World.alloc_heap_new w _
    exact h.cell (by simp [hk])⟩

set_option maxRecDepth 100000 in
set_option maxHeartbeats 1000000 in
/-- gazetteerref2.brief -/
theorem brief_any (t : Int) (w : World) :
    Calls Tryz.prog 44 #[.int .i64 t] w fun e w' => ∃ p c, e = .returned (.slice p (bl t).length c) ∧ IsAt w' w.heap.size p (bl t) ∧ Below w.heap.size w w' := by
  have hB0 : ∀ o : Obj, Below w.heap.size w (w.alloc o) := fun o => (Below.refl _ w).alloc (Nat.le_refl _) o
  by_cases h2 : t = 2
  · subst h2
    go_enter Tryz.func44, Tryz.ntmps44
    go_wp2
    go_ret
    exact ⟨_, _, rfl, isAt_new w [0] _, hB0 _⟩
  have b2 : (t == 2) = false := by rw [beq_eq_false_iff_ne]; exact h2
  by_cases h5 : t = 5
  · subst h5
    go_enter Tryz.func44, Tryz.ntmps44
    go_wp2
    go_ret
    exact ⟨_, _, rfl, isAt_new w [0] _, hB0 _⟩
  have b5 : (t == 5) = false := by rw [beq_eq_false_iff_ne]; exact h5
  by_cases h12 : t = 12
  · subst h12
    go_enter Tryz.func44, Tryz.ntmps44
    go_wp2
    go_ret
    exact ⟨_, _, rfl, isAt_new w [0] _, hB0 _⟩
  have b12 : (t == 12) = false := by rw [beq_eq_false_iff_ne]; exact h12
  by_cases h15 : t = 15
  · subst h15
    go_enter Tryz.func44, Tryz.ntmps44
    go_wp2
    go_ret
    exact ⟨_, _, rfl, isAt_new w [2, 0] _, hB0 _⟩
  have b15 : (t == 15) = false := by rw [beq_eq_false_iff_ne]; exact h15
  by_cases h6 : t = 6
  · subst h6
    go_enter Tryz.func44, Tryz.ntmps44
    go_wp2
    go_ret
    exact ⟨_, _, rfl, isAt_new w [0, 0, 20] _, hB0 _⟩
  have b6 : (t == 6) = false := by rw [beq_eq_false_iff_ne]; exact h6
  have HE : Hid (bl t = []) := by unfold Hid bl; rw [if_neg (by omega), if_neg h15, if_neg h6]
  go_enter Tryz.func44, Tryz.ntmps44
  go_wp2
  go_ret
  rw [HE.out]
  exact ⟨_, _, rfl, fun k hk => absurd hk (Nat.not_lt_zero _), Below.refl _ _⟩
end Go.Proofs.YtjnmbgmdkkiidaaGreat
