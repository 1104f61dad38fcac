import Derived.Test.YtoabnpdoicbpiaaGreatZncG
namespace Go.Proofs.YtoabnpdoicbpiaaGreat
set_option linter.unusedVariables false
set_option linter.unusedSimpArgs false
open Go.RowKit Go.Shelf Go.Maps Go.Proofs.YtoabnpdoicbpiaaGreat.Nm
def fltR (M : List (Int × Int)) : Int × Int := match M.find? (fun x => !decide (x.2 = -2)) with | some x => (x.2, x.1) | none => (0, 0)
def fce (M : List (Int × Int)) : List Value := M.flatMap fun x => [.int .i64 x.1, .int .i64 x.2]
theorem fce_get (M : List (Int × Int)) : ∀ j, (hj : j < M.length) → (fce M)[j * 2]? = some (.int .i64 M[j].1) ∧ (fce M)[j * 2 + 1]? = some (.int .i64 M[j].2) := by
 induction M with
 | nil => intro j hj; simp at hj
 | cons x M ih =>
  intro j hj
  have hs : fce (x :: M) = [.int .i64 x.1, .int .i64 x.2] ++ fce M := rfl
  rw [hs]
  cases j with
  | zero => simp
  | succ j =>
   obtain ⟨h0, h1⟩ := ih j (by simpa using hj)
   refine ⟨?_, ?_⟩
   ·rw [List.getElem?_append_right (by simp; omega), show (j + 1) * 2 - [Value.int .i64 x.1, Value.int .i64 x.2].length = j * 2 by simp; omega]; exact h0
   ·rw [List.getElem?_append_right (by simp; omega), show (j + 1) * 2 + 1 - [Value.int .i64 x.1, Value.int .i64 x.2].length = j * 2 + 1 by simp; omega]; exact h1
theorem flt_some {M : List (Int × Int)} {j : Nat} (hj : j < M.length) (h : ¬ M[j].2 = -2) (hb : ∀ i, (hi : i < M.length) → i < j → M[i].2 = -2) : fltR M = (M[j].2, M[j].1) := by
 unfold fltR
 have : M.find? (fun x => !decide (x.2 = -2)) = some M[j] := by
  rw [List.find?_eq_some_iff_getElem]
  refine ⟨by simp [h], j, hj, rfl, fun i hi => ?_⟩
  simp [hb i (by omega) hi]
 rw [this]
theorem flt_none {M : List (Int × Int)} (hb : ∀ i, (hi : i < M.length) → M[i].2 = -2) : fltR M = (0, 0) := by
 unfold fltR
 have : M.find? (fun x => !decide (x.2 = -2)) = none := by
  rw [List.find?_eq_none]
  intro x hx
  obtain ⟨i, hi, rfl⟩ := List.getElem_of_mem hx
  simp [hb i hi]
 rw [this]
set_option maxRecDepth 100000 in
set_option maxHeartbeats 4000000 in
theorem fault_any (D : Nat) (W : World) (v0 v1 v2 v3 v4 v5 v6 v7 : Int)
  (h0 : ∀ V, Below W.heap.size W V → Calls Tryz.prog 41 #[.pointer (some ⟨D, 0, none⟩), .func (Fn.func 42) #[.pointer (some ⟨D, 0, none⟩)] #[]] V fun r w' => r = .returned (.int .i64 v0) ∧ Below V.heap.size V w')
  (h1 : ∀ V, Below W.heap.size W V → Calls Tryz.prog 41 #[.pointer (some ⟨D, 0, none⟩), .func (Fn.func 43) #[.pointer (some ⟨D, 0, none⟩)] #[]] V fun r w' => r = .returned (.int .i64 v1) ∧ Below V.heap.size V w')
  (h2 : ∀ V, Below W.heap.size W V → Calls Tryz.prog 44 #[.pointer (some ⟨D, 0, none⟩), .int .i64 6] V fun r w' => r = .returned (.int .i64 v2) ∧ Below V.heap.size V w')
  (h3 : ∀ V, Below W.heap.size W V → Calls Tryz.prog 44 #[.pointer (some ⟨D, 0, none⟩), .int .i64 2] V fun r w' => r = .returned (.int .i64 v3) ∧ Below V.heap.size V w')
  (h4 : ∀ V, Below W.heap.size W V → Calls Tryz.prog 41 #[.pointer (some ⟨D, 0, none⟩), .func (Fn.func 45) #[.pointer (some ⟨D, 0, none⟩)] #[]] V fun r w' => r = .returned (.int .i64 v4) ∧ Below V.heap.size V w')
  (h5 : ∀ V, Below W.heap.size W V → Calls Tryz.prog 41 #[.pointer (some ⟨D, 0, none⟩), .func (Fn.func 46) #[.pointer (some ⟨D, 0, none⟩)] #[]] V fun r w' => r = .returned (.int .i64 v5) ∧ Below V.heap.size V w')
  (h6 : ∀ V, Below W.heap.size W V → Calls Tryz.prog 41 #[.pointer (some ⟨D, 0, none⟩), .func (Fn.func 47) #[.pointer (some ⟨D, 0, none⟩)] #[]] V fun r w' => r = .returned (.int .i64 v6) ∧ Below V.heap.size V w')
  (h7 : ∀ V, Below W.heap.size W V → Calls Tryz.prog 41 #[.pointer (some ⟨D, 0, none⟩), .func (Fn.func 48) #[.pointer (some ⟨D, 0, none⟩)] #[]] V fun r w' => r = .returned (.int .i64 v7) ∧ Below V.heap.size V w') :
  Calls Tryz.prog 16 #[.pointer (some ⟨D, 0, none⟩)] W fun r w' => r = .returned (.tuple #[.int .i64 (fltR [(19, v0), (15, v1), (15, v2), (16, v3), (22, v4), (17, v5), (18, v6), (21, v7)]).1, .int .i64 (fltR [(19, v0), (15, v1), (15, v2), (16, v3), (22, v4), (17, v5), (18, v6), (21, v7)]).2]) ∧ Below W.heap.size W w' := by
 have H0 := hide' h0
 have H1 := hide' h1
 have H2 := hide' h2
 have H3 := hide' h3
 have H4 := hide' h4
 have H5 := hide' h5
 have H6 := hide' h6
 have H7 := hide' h7
 clear h0 h1 h2 h3 h4 h5 h6 h7
 have hB := Below.refl W.heap.size W
 go_enter Tryz.func16, Tryz.ntmps16
 go_wp2_with (first
  | (go_at_call 41; (with_reducible refine (H0.out _ hB).mono ?_); rintro r wx ⟨rfl, hB2⟩; have hB := bstep hB hB2 hB.size; clear hB2 H0)
  | (go_at_call 41; (with_reducible refine (H1.out _ hB).mono ?_); rintro r wx ⟨rfl, hB2⟩; have hB := bstep hB hB2 hB.size; clear hB2 H1)
  | (go_at_call 44; (with_reducible refine (H2.out _ hB).mono ?_); rintro r wx ⟨rfl, hB2⟩; have hB := bstep hB hB2 hB.size; clear hB2 H2)
  | (go_at_call 44; (with_reducible refine (H3.out _ hB).mono ?_); rintro r wx ⟨rfl, hB2⟩; have hB := bstep hB hB2 hB.size; clear hB2 H3)
  | (go_at_call 41; (with_reducible refine (H4.out _ hB).mono ?_); rintro r wx ⟨rfl, hB2⟩; have hB := bstep hB hB2 hB.size; clear hB2 H4)
  | (go_at_call 41; (with_reducible refine (H5.out _ hB).mono ?_); rintro r wx ⟨rfl, hB2⟩; have hB := bstep hB hB2 hB.size; clear hB2 H5)
  | (go_at_call 41; (with_reducible refine (H6.out _ hB).mono ?_); rintro r wx ⟨rfl, hB2⟩; have hB := bstep hB hB2 hB.size; clear hB2 H6)
  | (go_at_call 41; (with_reducible refine (H7.out _ hB).mono ?_); rintro r wx ⟨rfl, hB2⟩; have hB := bstep hB hB2 hB.size; clear hB2 H7))
 obtain ⟨M, hM⟩ : ∃ M : List (Int × Int), [(19, v0), (15, v1), (15, v2), (16, v3), (22, v4), (17, v5), (18, v6), (21, v7)] = M := ⟨_, rfl⟩
 have hMl : M.length = 8 := by rw [← hM]; rfl
 have hMc : (#[.int .i64 19, .int .i64 v0, .int .i64 15, .int .i64 v1, .int .i64 15, .int .i64 v2, .int .i64 16, .int .i64 v3, .int .i64 22, .int .i64 v4, .int .i64 17, .int .i64 v5, .int .i64 18, .int .i64 v6, .int .i64 21, .int .i64 v7] : Array Value) = (fce M).toArray := by rw [← hM]; rfl
 rw [hMc]
 obtain ⟨wb, hwb⟩ : ∃ wb, wx.alloc (.cells (fce M).toArray 91) = wb := ⟨_, rfl⟩
 have HXb : Hid (Bx wb wx.heap.size (fce M).toArray 91) := hwb ▸ World.alloc_heap_new wx _
 have HBb : Hid (Below W.heap.size W wb) := hwb ▸ hB.alloc hB.size _
 obtain ⟨g, hg⟩ : ∃ g, wx.heap.size = g := ⟨_, rfl⟩
 rw [hwb, hg]
 rw [hg] at HXb
 have HM := hide' hM
 have HMl := hide' hMl
 clear hM hMl hMc hwb hg
 go_loopw [44] (fun jv wr => ∃ j : Nat, jv = .int .i64 (j : Int) ∧ j ≤ 8 ∧ Hid (∀ i, (hi : i < M.length) → i < j → M[i].2 = -2) ∧ Hid (Below wb.heap.size wb wr)) (fun jv _ => 8 - (intOf jv).toNat)
 case atStart => exact ⟨0, rfl, by omega, (fun i _ h => absurd h (Nat.not_lt_zero _)), Below.refl _ _⟩
 case round =>
  obtain ⟨j, rfl, hj, HP, HBr⟩ := hrel
  by_cases hlt : j < 8
  ·have hjm : j < M.length := by rw [HMl.out]; exact hlt
   obtain ⟨e0, e1⟩ := fce_get M j hjm
   have hx := HXb.out.below HBr.out HXb.out.lt
   have c0 : wr.cell? ⟨g, j * 2, none⟩ = some (.int .i64 M[j].1) := hx.cell (by rw [List.getElem?_toArray]; exact e0)
   have c1 : wr.cell? ⟨g, j * 2 + 1, none⟩ = some (.int .i64 M[j].2) := hx.cell (by rw [List.getElem?_toArray]; exact e1)
   have HF : Hid (¬ M[j].2 = -2 → fltR M = (M[j].2, M[j].1)) := fun h => flt_some hjm h HP.out
   have HE : Hid (M[j].2 = -2 → ∀ i, (hi : i < M.length) → i < j + 1 → M[i].2 = -2) := fun h i hi hij => by
    rcases Nat.lt_or_ge i j with h' | h'
    ·exact HP.out i hi h'
    ·obtain rfl : i = j := by omega
     exact h
   obtain ⟨cc, hcc⟩ : ∃ cc, M[j].1 = cc := ⟨_, rfl⟩
   obtain ⟨vv, hvv⟩ : ∃ vv, M[j].2 = vv := ⟨_, rfl⟩
   rw [hcc] at c0
   rw [hvv] at c1
   rw [hcc, hvv] at HF
   rw [hvv] at HE
   clear hcc hvv e0 e1 hx hjm
   have HBn : Hid (Below wb.heap.size wb (wr.alloc (.cells #[.int .i64 cc, .int .i64 vv] 91))) := HBr.out.alloc HBr.out.size _
   have p1 : (0 : Int) ≤ (j : Int) := by omega
   have p2 : (j : Int) < 8 := by omega
   by_cases hv : vv = -2
   ·have HE2 := hide' (HE.out hv)
    subst hv
    go_wp2_with fail
    refine ⟨⟨j + 1, by go_num, by omega, HE2, HBn⟩, by simp [intOf]; omega⟩
   ·have hvn : (vv != -2) = true := by simp [hv]
    have HF2 := hide' (HF.out hv)
    go_wp2_with fail
    go_region
    all_goals
     go_wp2_with fail
     go_ret2
     refine ⟨?_, bstep HBb.out HBn.out.drew HBb.out.size⟩
     rw [HM.out, HF2.out]
     rfl
  ·obtain rfl : j = 8 := by omega
   go_wp2_with fail
   go_ret2
   refine ⟨?_, bstep HBb.out HBr.out HBb.out.size⟩
   rw [HM.out, flt_none (fun i hi => HP.out i hi (by rw [HMl.out] at hi; exact hi))]
   rfl
end Go.Proofs.YtoabnpdoicbpiaaGreat
namespace Go.Proofs.YtoabnpdoicbpiaaGreat
set_option linter.unusedVariables false
set_option linter.unusedSimpArgs false
open Go.RowKit Go.Shelf Go.Maps Go.Proofs.YtoabnpdoicbpiaaGreat.Nm
def pre50 (s : ByteArray) : Bool := decide (2 ≤ s.size) && ((s.extract 0 2).toList == [0, 50])
def countB (r : Rn) : Bool := !decide (r.t = 50) && !(decide (r.t = 46) && pre50 r.d)
set_option maxRecDepth 100000 in
theorem hasPre_any (s : ByteArray) (w : World) (hm : s.size ≤ maxLen) :
  Calls Tryz.prog 108 #[.string s, .string ⟨#[0, 50]⟩] w fun e w' => e = .returned (.bool (pre50 s)) ∧ w' = w := by
 unfold pre50
 by_cases h : 2 ≤ s.size
 ·have HD : Hid (decide (2 ≤ s.size) = true) := decide_eq_true h
  go_enter Tryz.func108, Tryz.ntmps108
  go_wp2
  go_ret
  exact ⟨by first | rfl | (rw [HD.out]; rfl), rfl⟩
 ·have HD : Hid (decide (2 ≤ s.size) = false) := decide_eq_false h
  have h' : s.size < 2 := by omega
  go_enter Tryz.func108, Tryz.ntmps108
  go_wp2
  go_ret
  exact ⟨by first | rfl | (rw [HD.out]; rfl), rfl⟩
theorem hasPreS_any (s : ByteArray) (w : World) (hm : s.size ≤ maxLen) :
  Calls Tryz.prog 77 #[.string s, .string ⟨#[0, 50]⟩] w fun e w' => e = .returned (.bool (pre50 s)) ∧ w' = w := by
 go_enter Tryz.func77, Tryz.ntmps77
 go_wp2_with (go_at_call 108; refine (hasPre_any _ _ hm).mono ?_; rintro e w1 ⟨rfl, rfl⟩)
 go_ret
 exact ⟨rfl, rfl⟩
set_option maxRecDepth 100000 in
set_option maxHeartbeats 1000000 in
theorem counts_any (r : Rn) (W : World) (hd : r.d.size ≤ maxLen) :
  Calls Tryz.prog 49 #[rcV r] W fun e w' => e = .returned (.bool (countB r)) ∧ Below W.heap.size W w' := by
 obtain ⟨o, t, c, l, d⟩ := r
 unfold rcV countB
 simp only at hd ⊢
 obtain ⟨wa, hwa⟩ : ∃ wa, W.alloc (.cells #[.string o, .int .i64 t, .int .i64 c, .int .i64 l, .string d] 29) = wa := ⟨_, rfl⟩
 have HBa : Hid (Below W.heap.size W wa) := hwa ▸ (Below.refl _ W).alloc (Nat.le_refl _) _
 have HXa : Hid (Bx wa W.heap.size #[.string o, .int .i64 t, .int .i64 c, .int .i64 l, .string d] 29) := hwa ▸ World.alloc_heap_new W _
 have v1 : wa.cell? ⟨W.heap.size, 1, none⟩ = some (.int .i64 t) := HXa.out.cell rfl
 have v4 : wa.cell? ⟨W.heap.size, 4, none⟩ = some (.string d) := HXa.out.cell rfl
 have HP := hide' (fun V => hasPreS_any d V hd)
 obtain ⟨z, hz⟩ : ∃ z, pre50 d = z := ⟨_, rfl⟩
 rw [hz] at HP ⊢
 clear hz
 by_cases h5 : t = 50
 ·subst h5
  go_enter Tryz.func49, Tryz.ntmps49
  go_wp2_with fail
  go_ret
  exact ⟨by simp, HBa.out⟩
 ·have h5n : (t != 50) = true := by simp [h5]
  by_cases h4 : t = 46
  ·subst h4
   go_enter Tryz.func49, Tryz.ntmps49
   go_wp2_with (go_at_call 77; refine (HP.out _).mono ?_; rintro e w1 ⟨rfl, rfl⟩)
   go_ret
   exact ⟨by simp, HBa.out⟩
  ·have h4n : (t == 46) = false := by simp [h4]
   go_enter Tryz.func49, Tryz.ntmps49
   go_wp2_with fail
   go_ret
   exact ⟨by simp [h5, h4], HBa.out⟩
set_option maxRecDepth 100000 in
set_option maxHeartbeats 1000000 in
theorem isThere_any (Z RW NM n : Nat) (apex : ByteArray) (rv : Value) (x : ByteArray) (f : ByteArray → Option Nat) (w : World) (hZ : Bx w Z #[.string apex, rv, .map (some RW), .map (some NM)] 61) (hN : MNm w NM n f) (hx : stG x) :
  Calls Tryz.prog 51 #[.pointer (some ⟨Z, 0, none⟩), .string x] w fun r w' => r = .returned (.bool (f x).isSome) ∧ w' = w := by
 have z3 : w.cell? ⟨Z, 3, none⟩ = some (.map (some NM)) := hZ.cell rfl
 have hl := hN.look hx
 obtain ⟨a, ha⟩ : ∃ a, (f x).getD 0 = a := ⟨_, rfl⟩
 obtain ⟨q, hq⟩ : ∃ q, (f x).isSome = q := ⟨_, rfl⟩
 rw [ha, hq] at hl
 rw [hq]
 clear ha hq hZ hN
 go_enter Tryz.func51, Tryz.ntmps51
 go_wp2_with fail
 go_ret
 exact ⟨rfl, rfl⟩
end Go.Proofs.YtoabnpdoicbpiaaGreat
