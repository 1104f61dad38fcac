import Derived.Test.YtjnhkiibnmbmfaaSy3
/-
  Chapter 7: Roll, where all is right. (The verifier's own text.)
-/
namespace Go.Proofs.Ytjnhkiibnmbmfaa
set_option linter.unusedVariables false
set_option linter.unusedSimpArgs false
open Go.RowKit Go.Shelf Go.Sort Go.Proofs.Ytjnhkiibnmbmfaa.Nm

theorem own_some {w : World} {base e size n : Nat} {v : Value} {xs : List Value} (h : w.ownsRow base e size v (n + 1) xs) : ∃ g c, v = .slice (some ⟨g, 0, none⟩) (n + 1) c ∧ base ≤ g ∧ g < w.heap.size := by
  rcases id h.2 with ⟨_, h0⟩ | ⟨g, c, cur, rfl, hg, _⟩
  · omega
  · exact ⟨g, c, rfl, (h.lt g rfl).1, (h.lt g rfl).2⟩
theorem blk_ge {g n c k base : Nat} (h : base ≤ g) (e : (Value.slice (some ⟨g, 0, none⟩) n c).ownBlock = some k) : base ≤ k := by
  simp [Value.ownBlock] at e
  omega
theorem roll_mem {w w6 : World} {g2 c2 ni : Nat} {X : List Value} {M : List Tk} {f m e s now ka sa : Int} (ho : ((w6.setCell ⟨g2, ni * 8 + 6, none⟩ (.int .i64 (now + ka))).setCell ⟨g2, ni * 8 + 7, none⟩ (.int .i64 (now + ka + sa))).ownsRow w.heap.size 29 8 (.slice (some ⟨g2, 0, none⟩) (ni + 1) c2) (ni + 1) X) (heq : X = rowV tkV M) (hb : Below w.heap.size w ((w6.setCell ⟨g2, ni * 8 + 6, none⟩ (.int .i64 (now + ka))).setCell ⟨g2, ni * 8 + 7, none⟩ (.int .i64 (now + ka + sa)))) :
    Below w.heap.size w ((((w6.setCell ⟨g2, ni * 8 + 6, none⟩ (.int .i64 (now + ka))).setCell ⟨g2, ni * 8 + 7, none⟩ (.int .i64 (now + ka + sa))).alloc (.cells #[.int .i64 f, .int .i64 m, .int .i64 e, .int .i64 s, .int .i64 now, .int .i64 (now + ka), .int .i64 4294967296, .int .i64 4294967296] 29)).alloc (.cells #[.int .i64 f, .int .i64 m, .int .i64 e, .int .i64 s, .int .i64 now, .int .i64 (now + ka), .int .i64 4294967296, .int .i64 4294967296] 29)) ∧ ((((w6.setCell ⟨g2, ni * 8 + 6, none⟩ (.int .i64 (now + ka))).setCell ⟨g2, ni * 8 + 7, none⟩ (.int .i64 (now + ka + sa))).alloc (.cells #[.int .i64 f, .int .i64 m, .int .i64 e, .int .i64 s, .int .i64 now, .int .i64 (now + ka), .int .i64 4294967296, .int .i64 4294967296] 29)).alloc (.cells #[.int .i64 f, .int .i64 m, .int .i64 e, .int .i64 s, .int .i64 now, .int .i64 (now + ka), .int .i64 4294967296, .int .i64 4294967296] 29)).ownsRow w.heap.size 29 8 (.slice (some ⟨g2, 0, none⟩) (ni + 1) c2) (ni + 1) (rowV tkV M) ∧ RowAt 8 tkV ((((w6.setCell ⟨g2, ni * 8 + 6, none⟩ (.int .i64 (now + ka))).setCell ⟨g2, ni * 8 + 7, none⟩ (.int .i64 (now + ka + sa))).alloc (.cells #[.int .i64 f, .int .i64 m, .int .i64 e, .int .i64 s, .int .i64 now, .int .i64 (now + ka), .int .i64 4294967296, .int .i64 4294967296] 29)).alloc (.cells #[.int .i64 f, .int .i64 m, .int .i64 e, .int .i64 s, .int .i64 now, .int .i64 (now + ka), .int .i64 4294967296, .int .i64 4294967296] 29)) (some ⟨w6.heap.size + 1, 0, none⟩) [newT f m e s now ka] ∧ w.heap.size ≤ ((((w6.setCell ⟨g2, ni * 8 + 6, none⟩ (.int .i64 (now + ka))).setCell ⟨g2, ni * 8 + 7, none⟩ (.int .i64 (now + ka + sa))).alloc (.cells #[.int .i64 f, .int .i64 m, .int .i64 e, .int .i64 s, .int .i64 now, .int .i64 (now + ka), .int .i64 4294967296, .int .i64 4294967296] 29)).alloc (.cells #[.int .i64 f, .int .i64 m, .int .i64 e, .int .i64 s, .int .i64 now, .int .i64 (now + ka), .int .i64 4294967296, .int .i64 4294967296] 29)).heap.size := by
  subst heq
  have hb2 := (hb.alloc hb.size (.cells #[.int .i64 f, .int .i64 m, .int .i64 e, .int .i64 s, .int .i64 now, .int .i64 (now + ka), .int .i64 4294967296, .int .i64 4294967296] 29))
  have hb3 := (hb2.alloc hb2.size (.cells #[.int .i64 f, .int .i64 m, .int .i64 e, .int .i64 s, .int .i64 now, .int .i64 (now + ka), .int .i64 4294967296, .int .i64 4294967296] 29))
  refine ⟨hb3, ?_, ?_, hb3.size⟩
  · exact row_bel ho (((Below.refl _ _).alloc (Nat.le_refl _) _).alloc (by simp) _) (Nat.le_refl _)
  · exact row_box (x := newT f m e s now ka) tkV_len (bxAt _ _ _ _ (by simp [set_size]))
theorem rolled_row (I : List Tk) (l : Tk) (now ka sa : Int) : ((rowV tkV (I ++ [l])).set (I.length * 8 + 6) (.int .i64 (now + ka))).set (I.length * 8 + 7) (.int .i64 (now + ka + sa)) = rowV tkV (I ++ [oldT l now ka sa]) := by
  have hl : (rowV tkV I).length = I.length * 8 := rowV_len tkV_len I
  rw [rowV_snoc, rowV_snoc, List.set_append_right _ _ (by omega), List.set_append_right _ _ (by omega), hl, Nat.add_sub_cancel_left, Nat.add_sub_cancel_left]
  rfl
set_option maxRecDepth 100000 in
set_option maxHeartbeats 2000000 in
/-- signer.Roll, where all is right -/
theorem roll_good (I : List Tk) (l : Tk) (g off cap : Nat) (f m e s now ka sa : Int) (w : World) (hL : (I ++ [l]).length ≤ 1048576) (hat : TsAt w (some ⟨g, off, none⟩) (I ++ [l])) (hl : l.r = 4294967296) (hI : ∀ k ∈ I, k.r ≠ 4294967296) (hlb : lineB (I ++ [l]) = true) (h : (ageB ka && ageB sa) = true) (hr : rkB f m e s = true) (hp : ((I ++ [l]).any fun k => decide (pubB k.f k.m k.e k.s = pubB f m e s)) = false) (hq : l.a ≤ now) (ht : now ≤ 4294967295 - ka - sa) (hm : (I ++ [l]).length ≠ 50) (hq0 : 0 ≤ l.a) :
    Calls Try.prog 5 #[.slice (some ⟨g, off, none⟩) (I ++ [l]).length cap, .agg #[.int .i64 f, .int .i64 m, .int .i64 e, .int .i64 s], .int .i64 now, .int .i64 ka, .int .i64 sa] w fun r w' => (∃ p c, r = .returned (.tuple #[.slice p (I.length + 2) c, .int .i64 0]) ∧ TsAt w' p (rollL I l f m e s now ka sa)) ∧ Below w.heap.size w w' := by
  have hla : 0 ≤ l.a := hq0
  have hb12 : ageB ka = true ∧ ageB sa = true := by simpa using h
  have H1 := hide' (isAge_any ka)
  have H2 := hide' (isAge_any sa)
  rw [hb12.1] at H1
  rw [hb12.2] at H2
  have ha : (0 ≤ ka ∧ ka ≤ 2147483647) ∧ (0 ≤ sa ∧ sa ≤ 2147483647) := by simpa [ageB] using hb12
  obtain ⟨⟨ha1, ha2⟩, ha3, ha4⟩ := ha
  have HB := hide' ((Below.refl w.heap.size w).alloc (Nat.le_refl _) (.cells #[.int .i64 f, .int .i64 m, .int .i64 e, .int .i64 s] 24))
  have HK0 := hide' (bxNew w #[.int .i64 f, .int .i64 m, .int .i64 e, .int .i64 s] 24)
  have HA0 := hide' (TsAt.below hat HB.out)
  have HE := hide' (endless_any I l (some ⟨g, off, none⟩) cap _ _ rfl (by omega) HA0.out hl hI)
  have HIL := hide' (fun (W : World) (h : TsAt W (some ⟨g, off, none⟩) (I ++ [l])) => isLine_any (I ++ [l]) (some ⟨g, off, none⟩) cap W (by omega) h)
  rw [hlb] at HIL
  have HR := hide' (sIsRight_any f m e s)
  have HP := hide' (public_any f m e s)
  have HH := hide' (fun (W : World) (h : TsAt W (some ⟨g, off, none⟩) (I ++ [l])) => hasPublic_any (I ++ [l]) (some ⟨g, off, none⟩) cap (pubB f m e s) W (by omega) h)
  clear hat hl hI h hb12 hlb
  rw [hr] at HR
  rw [hp] at HH
  clear hp hr
  have HCL : Hid (∀ (W : World), TsAt W (some ⟨g, off, none⟩) (I ++ [l]) → Calls Try.prog 19 #[.slice (some ⟨g, off, none⟩) (I ++ [l]).length cap] W fun r w' => (∃ g2 c2, r = .returned (.slice (some ⟨g2, 0, none⟩) (I.length + 1) c2) ∧ W.heap.size ≤ g2 ∧ w'.ownsRow W.heap.size 29 8 (.slice (some ⟨g2, 0, none⟩) (I.length + 1) c2) (I.length + 1) (rowV tkV (I ++ [l]))) ∧ Below W.heap.size W w') := fun W h => (clone_any (I ++ [l]) _ cap _ W rfl hL h).mono fun r w' ⟨⟨v, hv, ho⟩, hb⟩ => by
    rw [show (I ++ [l]).length = I.length + 1 by simp] at ho
    obtain ⟨g2, c2, rfl, h1, h2⟩ := own_some ho
    exact ⟨⟨g2, c2, hv, h1, ho⟩, hb⟩
  have HEQ := hide' (rolled_row I l now ka sa)
  have HNE : Hid (∀ (g2 : Nat) {W : World}, w.heap.size ≤ g2 → Below w.heap.size w W → w.heap.size < W.heap.size → True) := fun _ _ _ _ _ => trivial
  have HLC : Hid (∀ W, TsAt W (some ⟨g, off, none⟩) (I ++ [l]) → g < W.heap.size ∧ W.cell? ⟨g, off + I.length * 8 + 5, none⟩ = some (.int .i64 l.a) ∧ True ∧ True) := fun W h => lastCell h
  have hlen : (I ++ [l]).length = I.length + 1 := by simp
  generalize I ++ [l] = L at *
  generalize hni : I.length = ni at *
  have HNI := hide' hni
  clear hni
  generalize L.length = n at *
  subst hlen
  have hm1 : ni ≠ 49 := by omega
  clear hm
  go_enter Try.func5, Try.ntmps5
  go_wp2_with (first
      | (go_at_call 13; with_reducible refine (H1.out _).mono ?_; rintro r1 w1 ⟨rfl, rfl⟩)
      | (go_at_call 13; with_reducible refine (H2.out _).mono ?_; rintro r1 w1 ⟨rfl, rfl⟩)
      | (go_at_call 14; refine HE.out.mono ?_; rintro r1 w1 ⟨rfl, hB1⟩; have HB1 := hide' (bstep HB.out hB1 HB.out.size); have HA1 := hide' (TsAt.below HA0.out hB1); have HK1 := hide' (HK0.out.below hB1 HK0.out.lt); clear hB1)
      | (go_at_call 15; refine (HIL.out _ HA1.out).mono ?_; rintro r2 w2 ⟨rfl, hB2⟩; have HB2 := hide' (bstep HB1.out hB2 HB1.out.size); have HA2 := hide' (TsAt.below HA1.out hB2); have HK2 := hide' (HK1.out.below hB2 HK1.out.lt); clear hB2; obtain ⟨k0, k1, k2, k3⟩ := bx4 HK2.out)
      | (go_at_call 16; refine (HR.out _).mono ?_; rintro r3 w3 ⟨rfl, hB3⟩; have HB3 := hide' (bstep HB2.out hB3 HB2.out.size); have HA3 := hide' (TsAt.below HA2.out hB3); have HK3 := hide' (HK2.out.below hB3 HK2.out.lt); clear hB3; obtain ⟨m0, m1, m2, m3⟩ := bx4 HK3.out)
      | (go_at_call 18; refine (HP.out _).mono ?_; rintro r4 w4 ⟨rfl, hB4⟩; have HB4 := hide' (bstep HB3.out hB4 HB3.out.size); have HA4 := hide' (TsAt.below HA3.out hB4); have HK4 := hide' (HK3.out.below hB4 HK3.out.lt); clear hB4)
      | (go_at_call 17; refine (HH.out _ HA4.out).mono ?_; rintro r5 w5 ⟨rfl, hB5⟩; have HB5 := hide' (bstep HB4.out hB5 HB4.out.size); have HA5 := hide' (TsAt.below HA4.out hB5); have HK5 := hide' (HK4.out.below hB5 HK4.out.lt); clear hB5; obtain ⟨ga, gb, gc, gd⟩ := HLC.out _ HA5.out; obtain ⟨n0, n1, n2, n3⟩ := bx4 HK5.out)
      | (go_at_call 19; refine (HCL.out _ HA5.out).mono ?_; rintro r6 w6 ⟨⟨g2, c2, rfl, hg2, ho⟩, hB6⟩; have HB6 := hide' (bstep HB5.out hB6 HB5.out.size); have HK6 := hide' (HK5.out.below hB6 HK5.out.lt); have hne : g2 ≠ w.heap.size := Nat.ne_of_gt (Nat.lt_of_lt_of_le HK5.out.lt hg2); have ho := row_lower ho HB5.out.size; have ho7 := row_put ho (ni * 8 + 6) (by omega) (.int .i64 (now + ka)); obtain ⟨u1, q1, q2⟩ := row_cell ho (ni * 8 + 6) (by omega); obtain ⟨u2, q3, q4⟩ := row_cell ho7 (ni * 8 + 7) (by omega); have HO8 := hide' (row_put ho7 (ni * 8 + 7) (by omega) (.int .i64 (now + ka + sa))); have HK8 := hide' ((HK6.out.far (Ne.symm hne) (j := ni * 8 + 6) (.int .i64 (now + ka))).far (Ne.symm hne) (j := ni * 8 + 7) (.int .i64 (now + ka + sa))); have hg2' : w.heap.size ≤ g2 := Nat.le_trans HB5.out.size hg2; have HB8 : Hid (Below w.heap.size w ((w6.setCell ⟨g2, ni * 8 + 6, none⟩ (.int .i64 (now + ka))).setCell ⟨g2, ni * 8 + 7, none⟩ (.int .i64 (now + ka + sa)))) := (HB6.out.setCell (p := ⟨g2, ni * 8 + 6, none⟩) hg2' _).setCell (p := ⟨g2, ni * 8 + 7, none⟩) hg2' _; have HM := hide' (roll_mem (f := f) (m := m) (e := e) (s := s) HO8.out HEQ.out HB8.out); clear hB6 ho ho7 hg2; obtain ⟨c0, c1, c3, c4⟩ := bx4 HK8.out)
      | (at_builtin; refine wpList_append_rows (V := tkV) Try.underlying30 infoTk rfl (by decide) (by decide) tkV_len tkV_one rfl _ _ rfl w.heap.size (.slice (some ⟨g2, 0, none⟩) (ni + 1) c2) (ni + 1) (rowV tkV (I ++ [oldT l now ka sa])) rfl HM.out.2.1 (some ⟨w6.heap.size + 1, 0, none⟩) [newT f m e s now ka] 1 rfl HM.out.2.2.1 (fun e => by cases e) (by simp; omega) HM.out.2.2.2 ?_; intro v9 w9 ho9 hg9; obtain ⟨p9, c9, rfl, _, _, _⟩ := own_shape ho9; have HO := hide' ho9; have HBF := hide' (HM.out.1.grown hg9 HM.out.2.2.2 (fun k e => blk_ge hg2' e)); clear ho9 hg9))
  go_ret2
  refine ⟨⟨p9, c9, rfl, ?_⟩, HBF.out⟩
  have h := HO.out
  rw [← rowV_app] at h
  have hl : (rollL I l f m e s now ka sa).length = ni + 1 + [newT f m e s now ka].length := by rw [rollL_len, HNI.out]; rfl
  rw [← hl] at h
  exact row_own tkV_len h
end Go.Proofs.Ytjnhkiibnmbmfaa
