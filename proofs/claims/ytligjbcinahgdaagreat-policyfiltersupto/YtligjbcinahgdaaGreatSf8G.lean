import Derived.Test.YtligjbcinahgdaaGreatRn0G
import Derived.Test.YtligjbcinahgdaaGreatRc1G
import Derived.Deep.RegionHeld3
import Derived.Test.YtligjbcinahgdaaGreatCntG
namespace Go.Proofs.YtligjbcinahgdaaGreat
set_option linter.unusedVariables false
open Go.RowKit Go.Shelf Go.Proofs.YtligjbcinahgdaaGreat.Nm

/-- may it stand in a zone? -/
def zonB (o d : ByteArray) (t c l : Int) : Bool := isN o && decide (c = 1) && decide (0 ≤ l) && decide (l ≤ 2147483647) && decide (errD t d = 0)
theorem chk_n8 {o : ByteArray} (h : isN o = false) : chk o = 1 := by unfold chk; rw [h]; rfl
theorem chk_y8 {o : ByteArray} (h : isN o = true) : chk o = 0 := by unfold chk; rw [h]; rfl

set_option maxRecDepth 100000 in
set_option maxHeartbeats 2000000 in
/-- data.IsRecord -/
theorem isRecord_any (o d : ByteArray) (t c l : Int) (w : World) (ho : o.size ≤ maxLen) (hd : d.size ≤ 9223372036854775807) :
    Calls Tryz.prog 37 #[.agg #[.string o, .int .i64 t, .int .i64 c, .int .i64 l, .string d]] w fun r w' => r = .returned (.bool (zonB o d t c l)) ∧ Below w.heap.size w w' := by
  obtain ⟨W, hW⟩ : ∃ W, w.alloc (.cells #[.string o, .int .i64 t, .int .i64 c, .int .i64 l, .string d] 55) = W := ⟨_, rfl⟩
  have HB : Hid (Below w.heap.size w W) := by rw [← hW]; exact (Below.refl _ _).alloc (Nat.le_refl _) _
  have h0 : Bx (w.alloc (.cells #[.string o, .int .i64 t, .int .i64 c, .int .i64 l, .string d] 55)) w.heap.size #[.string o, .int .i64 t, .int .i64 c, .int .i64 l, .string d] 55 := World.alloc_heap_new w _
  rw [hW] at h0
  have HH := hide' h0
  have QF : Hid (∀ V : World, Bx V w.heap.size #[.string o, .int .i64 t, .int .i64 c, .int .i64 l, .string d] 55 → V.cell? ⟨w.heap.size, 0, none⟩ = some (.string o) ∧ V.cell? ⟨w.heap.size, 1, none⟩ = some (.int .i64 t) ∧ V.cell? ⟨w.heap.size, 2, none⟩ = some (.int .i64 c) ∧ V.cell? ⟨w.heap.size, 3, none⟩ = some (.int .i64 l) ∧ V.cell? ⟨w.heap.size, 4, none⟩ = some (.string d)) := fun V h => ⟨h.cell rfl, h.cell rfl, h.cell rfl, h.cell rfl, h.cell rfl⟩
  obtain ⟨k0, k1, k2, k3, k4⟩ := QF.out W h0
  clear h0
  obtain ⟨ee, hee⟩ : ∃ ee, errD t d = ee := ⟨_, rfl⟩
  have HE := hide' hee
  cases hN : isN o with
  | false =>
    have HV : Hid (zonB o d t c l = false) := by unfold Hid zonB; rw [hN]; rfl
    have HN := hide' (chk_n8 hN)
    rw [HV.out]
    go_enter Tryz.func37, Tryz.ntmps37
    go_wp2_with (first
      | (go_at_call 38; refine (check_any o _ ho).mono ?_; rw [HN.out]; rintro r w1 ⟨rfl, hB1⟩; have HH1 := hide' (HH.out.below hB1 HH.out.lt); have HB1 := hide' (bstep HB.out hB1 HB.out.size); obtain ⟨j0, j1, j2, j3, j4⟩ := QF.out w1 HH1.out; clear hB1)
      | (go_at_call 53; refine (dataCheck_any t d _ hd).mono ?_; rw [HE.out]; rintro r w2 ⟨rfl, hB2⟩; have HB2 := hide' (bstep HB1.out hB2 HB1.out.size); clear hB2))
    go_ret
    exact ⟨rfl, by first | exact HB2.out | exact HB1.out⟩
  | true =>
    have HN := hide' (chk_y8 hN)
    by_cases hc : c = 1
    · by_cases hl0 : 0 ≤ l
      · by_cases hl1 : l ≤ 2147483647
        · by_cases h0 : ee = 0
          · have HV : Hid (zonB o d t c l = true) := by unfold Hid zonB; rw [hN, decide_eq_true hc, decide_eq_true hl0, decide_eq_true hl1, decide_eq_true (hee.trans h0)]; rfl
            subst h0
            subst hc
            clear hN hee
            rw [HV.out]
            go_enter Tryz.func37, Tryz.ntmps37
            go_wp2_with (first
              | (go_at_call 38; refine (check_any o _ ho).mono ?_; rw [HN.out]; rintro r w1 ⟨rfl, hB1⟩; have HH1 := hide' (HH.out.below hB1 HH.out.lt); have HB1 := hide' (bstep HB.out hB1 HB.out.size); obtain ⟨j0, j1, j2, j3, j4⟩ := QF.out w1 HH1.out; clear hB1)
              | (go_at_call 53; refine (dataCheck_any t d _ hd).mono ?_; rw [HE.out]; rintro r w2 ⟨rfl, hB2⟩; have HB2 := hide' (bstep HB1.out hB2 HB1.out.size); clear hB2))
            go_ret
            exact ⟨rfl, by first | exact HB2.out | exact HB1.out⟩
          · have HV : Hid (zonB o d t c l = false) := by unfold Hid zonB; rw [decide_eq_false (fun h => h0 (hee.symm.trans h))]; simp
            have hb : ((ee : Int) == 0) = false := by rw [beq_eq_false_iff_ne]; omega
            have hb2 : ¬ (ee : Int) = 0 := by omega
            subst hc
            clear hN hee h0
            rw [HV.out]
            go_enter Tryz.func37, Tryz.ntmps37
            go_wp2_with (first
              | (go_at_call 38; refine (check_any o _ ho).mono ?_; rw [HN.out]; rintro r w1 ⟨rfl, hB1⟩; have HH1 := hide' (HH.out.below hB1 HH.out.lt); have HB1 := hide' (bstep HB.out hB1 HB.out.size); obtain ⟨j0, j1, j2, j3, j4⟩ := QF.out w1 HH1.out; clear hB1)
              | (go_at_call 53; refine (dataCheck_any t d _ hd).mono ?_; rw [HE.out]; rintro r w2 ⟨rfl, hB2⟩; have HB2 := hide' (bstep HB1.out hB2 HB1.out.size); clear hB2))
            go_ret
            exact ⟨rfl, by first | exact HB2.out | exact HB1.out⟩
        · have HV : Hid (zonB o d t c l = false) := by unfold Hid zonB; rw [decide_eq_false hl1]; simp
          subst hc
          clear hN hee
          rw [HV.out]
          go_enter Tryz.func37, Tryz.ntmps37
          go_wp2_with (first
            | (go_at_call 38; refine (check_any o _ ho).mono ?_; rw [HN.out]; rintro r w1 ⟨rfl, hB1⟩; have HH1 := hide' (HH.out.below hB1 HH.out.lt); have HB1 := hide' (bstep HB.out hB1 HB.out.size); obtain ⟨j0, j1, j2, j3, j4⟩ := QF.out w1 HH1.out; clear hB1)
            | (go_at_call 53; refine (dataCheck_any t d _ hd).mono ?_; rw [HE.out]; rintro r w2 ⟨rfl, hB2⟩; have HB2 := hide' (bstep HB1.out hB2 HB1.out.size); clear hB2))
          go_ret
          exact ⟨rfl, by first | exact HB2.out | exact HB1.out⟩
      · have HV : Hid (zonB o d t c l = false) := by unfold Hid zonB; rw [decide_eq_false hl0]; simp
        subst hc
        clear hN hee
        rw [HV.out]
        go_enter Tryz.func37, Tryz.ntmps37
        go_wp2_with (first
          | (go_at_call 38; refine (check_any o _ ho).mono ?_; rw [HN.out]; rintro r w1 ⟨rfl, hB1⟩; have HH1 := hide' (HH.out.below hB1 HH.out.lt); have HB1 := hide' (bstep HB.out hB1 HB.out.size); obtain ⟨j0, j1, j2, j3, j4⟩ := QF.out w1 HH1.out; clear hB1)
          | (go_at_call 53; refine (dataCheck_any t d _ hd).mono ?_; rw [HE.out]; rintro r w2 ⟨rfl, hB2⟩; have HB2 := hide' (bstep HB1.out hB2 HB1.out.size); clear hB2))
        go_ret
        exact ⟨rfl, by first | exact HB2.out | exact HB1.out⟩
    · have HV : Hid (zonB o d t c l = false) := by unfold Hid zonB; rw [decide_eq_false hc]; simp
      have hb : (c == 1) = false := by rw [beq_eq_false_iff_ne]; exact hc
      clear hN hee
      rw [HV.out]
      go_enter Tryz.func37, Tryz.ntmps37
      go_wp2_with (first
        | (go_at_call 38; refine (check_any o _ ho).mono ?_; rw [HN.out]; rintro r w1 ⟨rfl, hB1⟩; have HH1 := hide' (HH.out.below hB1 HH.out.lt); have HB1 := hide' (bstep HB.out hB1 HB.out.size); obtain ⟨j0, j1, j2, j3, j4⟩ := QF.out w1 HH1.out; clear hB1)
        | (go_at_call 53; refine (dataCheck_any t d _ hd).mono ?_; rw [HE.out]; rintro r w2 ⟨rfl, hB2⟩; have HB2 := hide' (bstep HB1.out hB2 HB1.out.size); clear hB2))
      go_ret
      exact ⟨rfl, by first | exact HB2.out | exact HB1.out⟩
end Go.Proofs.YtligjbcinahgdaaGreat

/-
  Rules of a policy, plainly: which one counts. (The verifier's own text.)
-/
namespace Go.Proofs.YtligjbcinahgdaaGreat
set_option linter.unusedVariables false
set_option linter.unusedSimpArgs false
open Go.RowKit Go.Shelf Go.Proofs.YtligjbcinahgdaaGreat.Nm

/-- a rule -/
structure Ru where
  n : ByteArray
  b : Bool
  k : Int
  t : Int
  l : Int
  d : ByteArray
/-- rules in memory -/
def RuAt (w : World) (p : Option Addr) (R : List Ru) : Prop := ∀ k, (hk : k < R.length) → ∃ g off, p = some ⟨g, off, none⟩ ∧ g < w.heap.size ∧ w.cell? ⟨g, off + k * 6, none⟩ = some (.string R[k].n) ∧ w.cell? ⟨g, off + k * 6 + 1, none⟩ = some (.bool R[k].b) ∧ w.cell? ⟨g, off + k * 6 + 2, none⟩ = some (.int .i64 R[k].k) ∧ w.cell? ⟨g, off + k * 6 + 3, none⟩ = some (.int .i64 R[k].t) ∧ w.cell? ⟨g, off + k * 6 + 4, none⟩ = some (.int .i64 R[k].l) ∧ w.cell? ⟨g, off + k * 6 + 5, none⟩ = some (.string R[k].d)
theorem RuAt.below {w w' : World} {p : Option Addr} {R : List Ru} (h : RuAt w p R) (hb : Below w.heap.size w w') : RuAt w' p R := fun k hk => by
  obtain ⟨g, off, h1, h2, e0, e1, e2, e3, e4, e5⟩ := h k hk
  have c := fun (j : Nat) => hb.cell (p := ⟨g, j, none⟩) h2
  exact ⟨g, off, h1, Nat.lt_of_lt_of_le h2 hb.size, (c _).trans e0, (c _).trans e1, (c _).trans e2, (c _).trans e3, (c _).trans e4, (c _).trans e5⟩
/-- is a rule right? -/
def rgB (x : Ru) : Bool := if x.k = 4 then zonB x.n x.d x.t 1 x.l else decide (0 ≤ x.k) && decide (x.k < 4) && isN x.n
/-- by the reference's words -/
def rrB (x : Ru) : Bool := isN x.n && decide (0 ≤ x.k) && decide (x.k ≤ 4) && (decide (x.k ≠ 4) || (decide (errD x.t x.d = 0) && decide (0 ≤ x.l) && decide (x.l ≤ 2147483647)))
theorem rg_same (x : Ru) : rgB x = rrB x := by
  unfold rgB rrB
  by_cases h : x.k = 4
  · rw [if_pos h]
    unfold zonB
    rw [Bool.eq_iff_iff]
    simp only [Bool.and_eq_true, decide_eq_true_eq, Bool.or_eq_true, h]
    constructor
    · rintro ⟨⟨⟨⟨h1, _⟩, h2⟩, h3⟩, h4⟩
      exact ⟨⟨⟨h1, by omega⟩, by omega⟩, .inr ⟨⟨h4, h2⟩, h3⟩⟩
    · rintro ⟨⟨⟨h1, _⟩, _⟩, h2⟩
      rcases h2 with h2 | ⟨⟨h2, h3⟩, h4⟩
      · exact absurd rfl h2
      · exact ⟨⟨⟨⟨h1, trivial⟩, h3⟩, h4⟩, h2⟩
  · rw [if_neg h]
    rw [Bool.eq_iff_iff]
    simp only [Bool.and_eq_true, decide_eq_true_eq, Bool.or_eq_true]
    constructor
    · rintro ⟨⟨h1, h2⟩, h3⟩
      exact ⟨⟨⟨h3, h1⟩, by omega⟩, .inl h⟩
    · rintro ⟨⟨⟨h1, h2⟩, h3⟩, _⟩
      exact ⟨⟨h2, by omega⟩, h1⟩
theorem rg_facts {x : Ru} (h : rgB x = true) : isN x.n = true ∧ 0 ≤ x.k ∧ x.k ≤ 4 := by
  rw [rg_same] at h
  unfold rrB at h
  simp only [Bool.and_eq_true, decide_eq_true_eq] at h
  exact ⟨h.1.1.1, h.1.1.2, h.1.2⟩
theorem cnt_bound {s : ByteArray} (h : isN s = true) : 0 ≤ cntI s ∧ cntI s ≤ 254 := by
  have := labs_len_le h
  rw [cntI_yes h]
  omega
theorem eqB_comm (a b : ByteArray) : eqB a b = eqB b a := by
  rw [Bool.eq_iff_iff, eqB_iff, eqB_iff]
  exact ⟨fun ⟨h1, h2, h3⟩ => ⟨h2, h1, h3.symm⟩, fun ⟨h1, h2, h3⟩ => ⟨h2, h1, h3.symm⟩⟩
/-- what a rule weighs -/
def wtI (n : ByteArray) (x : Ru) : Int := if (eqB n x.n && !x.b) = true then 255 else if (!eqB n x.n && x.b && withinB n x.n) = true then cntI x.n else -1
def zU : Ru := ⟨⟨#[]⟩, false, 0, 0, 0, ⟨#[]⟩⟩
/-- a rule of a list -/
def uAt (R : List Ru) (k : Nat) : Ru := R.getD k zU
theorem uAt_get {R : List Ru} {k : Nat} (h : k < R.length) : R[k] = uAt R k := by unfold uAt; rw [List.getD_eq_getElem?_getD, List.getElem?_eq_getElem h]; rfl
/-- the best of the first, and what it weighs -/
def rlK (R : List Ru) (n : ByteArray) : Nat → Int × Int
  | 0 => (-1, -1)
  | k + 1 => if (decide ((rlK R n k).2 < wtI n (uAt R k)) && rgB (uAt R k)) = true then ((k : Int), wtI n (uAt R k)) else rlK R n k
/-- by the reference's words: its own name's -/
def exB (n : ByteArray) (x : Ru) : Bool := rgB x && !x.b && eqB x.n n
def beB (n : ByteArray) (x : Ru) : Bool := rgB x && x.b && withinB n x.n && !eqB n x.n
def rbK (R : List Ru) (n : ByteArray) : Nat → Int
  | 0 => -1
  | k + 1 => if (beB n (uAt R k) && (decide (rbK R n k < 0) || decide (cntI (uAt R (rbK R n k).toNat).n < cntI (uAt R k).n))) = true then (k : Int) else rbK R n k
theorem rbK_lt (R : List Ru) (n : ByteArray) : ∀ k, -1 ≤ rbK R n k ∧ rbK R n k < k
  | 0 => by simp [rbK]
  | k + 1 => by
    have := rbK_lt R n k
    unfold rbK
    split <;> omega
theorem rbK_right (R : List Ru) (n : ByteArray) : ∀ k, 0 ≤ rbK R n k → isN (uAt R (rbK R n k).toNat).n = true
  | 0, h => by simp [rbK] at h
  | k + 1, h => by
    unfold rbK at h ⊢
    split at h
    · rename_i hc
      rw [if_pos hc, Int.toNat_natCast]
      rw [Bool.and_eq_true] at hc
      unfold beB at hc
      simp only [Bool.and_eq_true] at hc
      exact (rg_facts hc.1.1.1.1).1
    · rename_i hc
      rw [if_neg hc]
      exact rbK_right R n k h
/-- nobody's own name among the first -/
theorem rl_none (R : List Ru) (n : ByteArray) : ∀ k, (∀ j, j < k → exB n (uAt R j) = false) → (rlK R n k).1 = rbK R n k ∧ (rlK R n k).2 = (if rbK R n k < 0 then -1 else cntI (uAt R (rbK R n k).toNat).n)
  | 0, _ => by simp [rlK, rbK]
  | k + 1, h => by
    obtain ⟨h1, h2⟩ := rl_none R n k (fun j hj => h j (by omega))
    have hx := h k (by omega)
    have hr := rbK_right R n k
    have hl := rbK_lt R n k
    have hm : -1 ≤ (rlK R n k).2 ∧ (rbK R n k < 0 → (rlK R n k).2 = -1) ∧ (0 ≤ rbK R n k → (rlK R n k).2 = cntI (uAt R (rbK R n k).toNat).n ∧ 0 ≤ cntI (uAt R (rbK R n k).toNat).n) := by
      rw [h2]
      by_cases hz : rbK R n k < 0
      · rw [if_pos hz]; exact ⟨by omega, fun _ => rfl, fun h => by omega⟩
      · rw [if_neg hz]
        have := cnt_bound (hr (by omega))
        exact ⟨by omega, fun h => absurd h hz, fun _ => ⟨rfl, this.1⟩⟩
    obtain ⟨x, hxe⟩ : ∃ x, uAt R k = x := ⟨_, rfl⟩
    rw [hxe] at hx
    have key : (decide ((rlK R n k).2 < wtI n x) && rgB x) = (beB n x && (decide (rbK R n k < 0) || decide (cntI (uAt R (rbK R n k).toNat).n < cntI x.n))) ∧ (beB n x = true → wtI n x = cntI x.n) := by
      cases hg : rgB x with
      | false => simp [beB, hg]
      | true =>
        have hc := cnt_bound (rg_facts hg).1
        cases hq : eqB n x.n with
        | true =>
          have hb : x.b = true := by
            unfold exB at hx
            rw [hg, eqB_comm, hq] at hx
            simpa using hx
          have hw : wtI n x = -1 := by unfold wtI; simp [hq, hb]
          rw [hw]
          have : decide ((rlK R n k).2 < -1) = false := decide_eq_false (by omega)
          simp [beB, hg, hq, this]
        | false =>
          cases hb : x.b with
          | false =>
            have hw : wtI n x = -1 := by unfold wtI; simp [hq, hb]
            rw [hw]
            have : decide ((rlK R n k).2 < -1) = false := decide_eq_false (by omega)
            simp [beB, hg, hb, this]
          | true =>
            cases hi : withinB n x.n with
            | false =>
              have hw : wtI n x = -1 := by unfold wtI; simp [hq, hb, hi]
              rw [hw]
              have : decide ((rlK R n k).2 < -1) = false := decide_eq_false (by omega)
              simp [beB, hg, hb, hi, this]
            | true =>
              have hw : wtI n x = cntI x.n := by unfold wtI; simp [hq, hb, hi]
              have hbe : beB n x = true := by simp [beB, hg, hb, hi, hq]
              rw [hw, hbe]
              refine ⟨?_, fun _ => rfl⟩
              rw [Bool.and_true, Bool.true_and, Bool.eq_iff_iff, Bool.or_eq_true, decide_eq_true_eq, decide_eq_true_eq, decide_eq_true_eq]
              by_cases hz : rbK R n k < 0
              · rw [hm.2.1 hz]
                exact ⟨fun _ => .inl hz, fun _ => by omega⟩
              · rw [(hm.2.2 (by omega)).1]
                exact ⟨fun h => .inr h, fun h => by rcases h with h | h; exact absurd h hz; exact h⟩
    have e1 : rlK R n (k + 1) = if (beB n x && (decide (rbK R n k < 0) || decide (cntI (uAt R (rbK R n k).toNat).n < cntI x.n))) = true then ((k : Int), wtI n x) else rlK R n k := by
      show (if (decide ((rlK R n k).2 < wtI n (uAt R k)) && rgB (uAt R k)) = true then ((k : Int), wtI n (uAt R k)) else rlK R n k) = _
      rw [hxe, key.1]
    have e2 : rbK R n (k + 1) = if (beB n x && (decide (rbK R n k < 0) || decide (cntI (uAt R (rbK R n k).toNat).n < cntI x.n))) = true then (k : Int) else rbK R n k := by
      show (if (beB n (uAt R k) && (decide (rbK R n k < 0) || decide (cntI (uAt R (rbK R n k).toNat).n < cntI (uAt R k).n))) = true then (k : Int) else rbK R n k) = _
      rw [hxe]
    rw [e1, e2]
    split
    · rename_i hc
      rw [Bool.and_eq_true] at hc
      refine ⟨rfl, ?_⟩
      rw [if_neg (by omega), Int.toNat_natCast, hxe]
      exact key.2 hc.1
    · exact ⟨h1, h2⟩
/-- somebody's own name: the first counts -/
theorem rl_some (R : List Ru) (n : ByteArray) (j : Nat) (hj : exB n (uAt R j) = true) (hf : ∀ i, i < j → exB n (uAt R i) = false) : ∀ k, j < k → rlK R n k = ((j : Int), 255)
  | 0, h => by omega
  | k + 1, h => by
    have e0 : rlK R n (k + 1) = if (decide ((rlK R n k).2 < wtI n (uAt R k)) && rgB (uAt R k)) = true then ((k : Int), wtI n (uAt R k)) else rlK R n k := rfl
    rw [e0]
    by_cases hk : k = j
    · subst hk
      unfold exB at hj
      simp only [Bool.and_eq_true, Bool.not_eq_true'] at hj
      have hw : wtI n (uAt R k) = 255 := by unfold wtI; rw [eqB_comm, hj.2, hj.1.2]; rfl
      obtain ⟨h1, h2⟩ := rl_none R n k hf
      have hlt : (rlK R n k).2 < 255 := by
        rw [h2]
        split
        · omega
        · rename_i hz
          have := cnt_bound (rbK_right R n k (by omega))
          omega
      rw [hw, decide_eq_true hlt, hj.1.1]
      rfl
    · have ih := rl_some R n j hj hf k (by omega)
      rw [ih]
      have hw : wtI n (uAt R k) ≤ 255 ∨ rgB (uAt R k) = false := by
        cases hg : rgB (uAt R k) with
        | false => exact .inr rfl
        | true =>
          left
          have := cnt_bound (rg_facts hg).1
          unfold wtI
          split
          · omega
          · split <;> omega
      rw [if_neg]
      simp only [Bool.and_eq_true, decide_eq_true_eq]
      rintro ⟨a, b⟩
      rcases hw with hw | hw
      · omega
      · rw [hw] at b; cases b
/-- which rule counts -/
def ruI (R : List Ru) (n : ByteArray) : Int := (rlK R n R.length).1
theorem ru_first {R : List Ru} {n : ByteArray} {j : Nat} (hl : j < R.length) (hj : exB n (uAt R j) = true) (hf : ∀ i, i < j → exB n (uAt R i) = false) : ruI R n = j := by
  unfold ruI
  rw [rl_some R n j hj hf _ hl]
theorem ru_best {R : List Ru} {n : ByteArray} (hf : ∀ i, i < R.length → exB n (uAt R i) = false) : ruI R n = rbK R n R.length := (rl_none R n _ hf).1
theorem rlK_right (R : List Ru) (n : ByteArray) : ∀ k, -1 ≤ (rlK R n k).1 ∧ (rlK R n k).1 < k ∧ (0 ≤ (rlK R n k).1 → rgB (uAt R (rlK R n k).1.toNat) = true)
  | 0 => by simp [rlK]
  | k + 1 => by
    have ih := rlK_right R n k
    unfold rlK
    split
    · rename_i hc
      rw [Bool.and_eq_true] at hc
      exact ⟨by omega, by simp; omega, fun _ => by simpa using hc.2⟩
    · exact ⟨ih.1, by omega, ih.2.2⟩
theorem ru_bound (R : List Ru) (n : ByteArray) : -1 ≤ ruI R n ∧ ruI R n < R.length ∧ (0 ≤ ruI R n → rgB (uAt R (ruI R n).toNat) = true) := rlK_right R n R.length
end Go.Proofs.YtligjbcinahgdaaGreat

/-
  Proofs: policy.weightOf, saidOf, isRight. (The verifier's own text.)
-/
namespace Go.Proofs.YtligjbcinahgdaaGreat
set_option linter.unusedVariables false
set_option linter.unusedSimpArgs false
open Go.RowKit Go.Shelf Go.Proofs.YtligjbcinahgdaaGreat.Nm

/-- a rule as a value -/
def ruV (x : Ru) : Value := .agg #[.string x.n, .bool x.b, .int .i64 x.k, .int .i64 x.t, .int .i64 x.l, .string x.d]
theorem bx6P {W : World} {R : Nat} {T : TypeId} {a b c d e f : Value} (h : Bx W R #[a, b, c, d, e, f] T) : W.cell? ⟨R, 0, none⟩ = some a ∧ W.cell? ⟨R, 1, none⟩ = some b ∧ W.cell? ⟨R, 2, none⟩ = some c ∧ W.cell? ⟨R, 3, none⟩ = some d ∧ W.cell? ⟨R, 4, none⟩ = some e ∧ W.cell? ⟨R, 5, none⟩ = some f := ⟨h.cell rfl, h.cell rfl, h.cell rfl, h.cell rfl, h.cell rfl, h.cell rfl⟩
set_option maxRecDepth 100000 in
set_option maxHeartbeats 2000000 in
/-- policy.weightOf -/
theorem weightOf_any (x : Ru) (n : ByteArray) (w : World) (hx : x.n.size ≤ 1048576) (hn : n.size ≤ 1048576) :
    Calls Tryz.prog 16 #[ruV x, .string n] w fun e w' => e = .returned (.int .i64 (wtI n x)) ∧ Below w.heap.size w w' := by
  have HEq := hide' (fun V => equal_any n x.n V (by unfold maxLen; omega) (by unfold maxLen; omega))
  have HWi := hide' (fun V => within_any n x.n V (by unfold maxLen; omega) (by unfold maxLen; omega))
  have HCo := hide' (fun V => count_any x.n V (by unfold maxLen; omega))
  obtain ⟨W0, hW0⟩ : ∃ z, wtI n x = z := ⟨_, rfl⟩
  have HW0 := hide' hW0
  rw [hW0]
  clear hW0
  unfold ruV
  obtain ⟨xn, xb, xk, xt, xl, xd⟩ := x
  simp only at hx HEq HWi HCo HW0
  obtain ⟨wa, hwa⟩ : ∃ wa, w.alloc (.cells #[.string xn, .bool xb, .int .i64 xk, .int .i64 xt, .int .i64 xl, .string xd] 45) = wa := ⟨_, rfl⟩
  have HXa : Hid (Bx wa w.heap.size #[.string xn, .bool xb, .int .i64 xk, .int .i64 xt, .int .i64 xl, .string xd] 45) := hwa ▸ World.alloc_heap_new w _
  have HBa : Hid (Below w.heap.size w wa) := hwa ▸ (Below.refl _ w).alloc (Nat.le_refl _) _
  obtain ⟨b0, b1, -, -, -, -⟩ := bx6P HXa.out
  cases hq : eqB n xn with
  | true =>
    rw [hq] at HEq
    cases xb with
    | false =>
      have hv : W0 = 255 := by rw [← HW0.out]; unfold wtI; simp [hq]
      subst hv
      clear HW0 HWi HCo hq
      go_enter Tryz.func16, Tryz.ntmps16
      go_wp2_with (go_at_call 34; (with_reducible refine (HEq.out _).mono ?_); rintro e w1 ⟨rfl, hB1⟩; obtain ⟨c0, c1, -, -, -, -⟩ := bx6P (HXa.out.below hB1 HXa.out.lt); have HB1 := hide' (bstep HBa.out hB1 HBa.out.size); clear hB1)
      go_ret
      exact ⟨rfl, HB1.out⟩
    | true =>
      have hv : W0 = -1 := by rw [← HW0.out]; unfold wtI; simp [hq]
      subst hv
      clear HW0 HWi HCo hq
      go_enter Tryz.func16, Tryz.ntmps16
      go_wp2_with (go_at_call 34; (with_reducible refine (HEq.out _).mono ?_); rintro e w1 ⟨rfl, hB1⟩; obtain ⟨c0, c1, -, -, -, -⟩ := bx6P (HXa.out.below hB1 HXa.out.lt); have HB1 := hide' (bstep HBa.out hB1 HBa.out.size); clear hB1)
      go_ret
      exact ⟨rfl, HB1.out⟩
  | false =>
    rw [hq] at HEq
    cases xb with
    | false =>
      have hv : W0 = -1 := by rw [← HW0.out]; unfold wtI; simp [hq]
      subst hv
      clear HW0 HWi HCo hq
      go_enter Tryz.func16, Tryz.ntmps16
      go_wp2_with (go_at_call 34; (with_reducible refine (HEq.out _).mono ?_); rintro e w1 ⟨rfl, hB1⟩; obtain ⟨c0, c1, -, -, -, -⟩ := bx6P (HXa.out.below hB1 HXa.out.lt); have HB1 := hide' (bstep HBa.out hB1 HBa.out.size); clear hB1)
      go_ret
      exact ⟨rfl, HB1.out⟩
    | true =>
      cases hi : withinB n xn with
      | false =>
        rw [hi] at HWi
        have hv : W0 = -1 := by rw [← HW0.out]; unfold wtI; simp [hq, hi]
        subst hv
        clear HW0 HCo hq hi
        go_enter Tryz.func16, Tryz.ntmps16
        go_wp2_with (first
          | (go_at_call 34; (with_reducible refine (HEq.out _).mono ?_); rintro e w1 ⟨rfl, hB1⟩; have HX1 := hide' (HXa.out.below hB1 HXa.out.lt); obtain ⟨c0, c1, -, -, -, -⟩ := bx6P HX1.out; have HB1 := hide' (bstep HBa.out hB1 HBa.out.size); clear hB1)
          | (go_at_call 35; (with_reducible refine (HWi.out _).mono ?_); rintro e w2 ⟨rfl, hB2⟩; obtain ⟨d0, d1, -, -, -, -⟩ := bx6P (HX1.out.below hB2 HX1.out.lt); have HB2 := hide' (bstep HB1.out hB2 HB1.out.size); clear hB2))
        go_ret
        exact ⟨rfl, HB2.out⟩
      | true =>
        rw [hi] at HWi
        have hv : W0 = cntI xn := by rw [← HW0.out]; unfold wtI; simp [hq, hi]
        subst hv
        clear HW0 hq hi
        go_enter Tryz.func16, Tryz.ntmps16
        go_wp2_with (first
          | (go_at_call 34; (with_reducible refine (HEq.out _).mono ?_); rintro e w1 ⟨rfl, hB1⟩; have HX1 := hide' (HXa.out.below hB1 HXa.out.lt); obtain ⟨c0, c1, -, -, -, -⟩ := bx6P HX1.out; have HB1 := hide' (bstep HBa.out hB1 HBa.out.size); clear hB1)
          | (go_at_call 35; (with_reducible refine (HWi.out _).mono ?_); rintro e w2 ⟨rfl, hB2⟩; obtain ⟨d0, d1, -, -, -, -⟩ := bx6P (HX1.out.below hB2 HX1.out.lt); have HB2 := hide' (bstep HB1.out hB2 HB1.out.size); clear hB2)
          | (go_at_call 36; (with_reducible refine (HCo.out _).mono ?_); rintro e w3 ⟨rfl, hB3⟩; have HB3 := hide' (bstep HB2.out hB3 HB2.out.size); clear hB3))
        go_ret
        exact ⟨rfl, HB3.out⟩
set_option maxRecDepth 100000 in
set_option maxHeartbeats 2000000 in
/-- policy.saidOf -/
theorem saidOf_any (x : Ru) (n : ByteArray) (w : World) :
    Calls Tryz.prog 25 #[ruV x, .string n] w fun e w' => e = .returned (.agg #[.string n, .int .i64 x.t, .int .i64 1, .int .i64 x.l, .string x.d]) ∧ Below w.heap.size w w' := by
  unfold ruV
  obtain ⟨xn, xb, xk, xt, xl, xd⟩ := x
  simp only
  have hB0 : ∀ o o2 : Obj, Below w.heap.size w ((w.alloc o).alloc o2) := fun o o2 => ((Below.refl _ w).alloc (Nat.le_refl _) o).alloc (by simp) o2
  go_enter Tryz.func25, Tryz.ntmps25
  go_wp2
  refine bodyPost_ret (v := .agg #[.string n, .int .i64 xt, .int .i64 1, .int .i64 xl, .string xd]) (by first | (simp [results, go_sem]; done) | (simp [results, go_sem]; rfl)) rfl ⟨rfl, hB0 _ _⟩
set_option maxRecDepth 100000 in
set_option maxHeartbeats 2000000 in
/-- policy.isRight -/
theorem isRight_any (x : Ru) (w : World) (hx : x.n.size ≤ 1048576) (hd : x.d.size ≤ 1048576) :
    Calls Tryz.prog 17 #[ruV x] w fun e w' => e = .returned (.bool (rgB x)) ∧ Below w.heap.size w w' := by
  have HSa := hide' (fun V => saidOf_any x x.n V)
  have HIs := hide' (fun V => isRecord_any x.n x.d x.t 1 x.l V (by unfold maxLen; omega) (by omega))
  have HCh := hide' (fun V => check_any x.n V (by unfold maxLen; omega))
  obtain ⟨W0, hW0⟩ : ∃ z, rgB x = z := ⟨_, rfl⟩
  have HW0 := hide' hW0
  rw [hW0]
  clear hW0
  unfold ruV at HSa ⊢
  obtain ⟨xn, xb, xk, xt, xl, xd⟩ := x
  simp only at hx hd HW0
  obtain ⟨wa, hwa⟩ : ∃ wa, w.alloc (.cells #[.string xn, .bool xb, .int .i64 xk, .int .i64 xt, .int .i64 xl, .string xd] 45) = wa := ⟨_, rfl⟩
  have HXa : Hid (Bx wa w.heap.size #[.string xn, .bool xb, .int .i64 xk, .int .i64 xt, .int .i64 xl, .string xd] 45) := hwa ▸ World.alloc_heap_new w _
  have HBa : Hid (Below w.heap.size w wa) := hwa ▸ (Below.refl _ w).alloc (Nat.le_refl _) _
  obtain ⟨b0, b1, b2, b3, b4, b5⟩ := bx6P HXa.out
  simp only at HSa HIs HCh
  by_cases h4 : xk = 4
  · subst h4
    have hv : W0 = zonB xn xd xt 1 xl := by rw [← HW0.out]; rfl
    subst hv
    clear HW0 HCh
    go_enter Tryz.func17, Tryz.ntmps17
    go_wp2_with (first
      | (go_at_call 25; (with_reducible refine (HSa.out _).mono ?_); rintro e w1 ⟨rfl, hB1⟩; have HB1 := hide' (bstep HBa.out hB1 HBa.out.size); clear hB1)
      | (go_at_call 37; (with_reducible refine (HIs.out _).mono ?_); rintro e w2 ⟨rfl, hB2⟩; have HB2 := hide' (bstep HB1.out hB2 HB1.out.size); clear hB2))
    go_ret
    exact ⟨rfl, HB2.out⟩
  · have h4b : (xk == 4) = false := by rw [beq_eq_false_iff_ne]; exact h4
    by_cases h0 : 0 ≤ xk
    · by_cases h3 : xk < 4
      · have e0 : decide (0 ≤ xk) = true := decide_eq_true h0
        have e3 : decide (xk < 4) = true := decide_eq_true h3
        cases hN : isN xn with
        | true =>
          have hv : W0 = true := by rw [← HW0.out]; unfold rgB; rw [if_neg h4]; simp [h0, h3, hN]
          subst hv
          rw [chk_y8 hN] at HCh
          clear HW0 HSa HIs hN
          go_enter Tryz.func17, Tryz.ntmps17
          go_wp2_with (go_at_call 38; (with_reducible refine (HCh.out _).mono ?_); rintro e w1 ⟨rfl, hB1⟩; have HB1 := hide' (bstep HBa.out hB1 HBa.out.size); clear hB1)
          go_ret
          exact ⟨rfl, HB1.out⟩
        | false =>
          have hv : W0 = false := by rw [← HW0.out]; unfold rgB; rw [if_neg h4]; simp [h0, h3, hN]
          subst hv
          rw [chk_n8 hN] at HCh
          clear HW0 HSa HIs hN
          go_enter Tryz.func17, Tryz.ntmps17
          go_wp2_with (go_at_call 38; (with_reducible refine (HCh.out _).mono ?_); rintro e w1 ⟨rfl, hB1⟩; have HB1 := hide' (bstep HBa.out hB1 HBa.out.size); clear hB1)
          go_ret
          exact ⟨rfl, HB1.out⟩
      · have e0 : decide (0 ≤ xk) = true := decide_eq_true h0
        have e3 : decide (xk < 4) = false := decide_eq_false h3
        have hv : W0 = false := by rw [← HW0.out]; unfold rgB; rw [if_neg h4]; simp [h0, h3]
        subst hv
        clear HW0 HSa HIs HCh
        go_enter Tryz.func17, Tryz.ntmps17
        go_wp2_with fail
        go_ret
        exact ⟨rfl, HBa.out⟩
    · have e0 : decide (0 ≤ xk) = false := decide_eq_false h0
      have hv : W0 = false := by rw [← HW0.out]; unfold rgB; rw [if_neg h4]; simp [h0]
      subst hv
      clear HW0 HSa HIs HCh
      go_enter Tryz.func17, Tryz.ntmps17
      go_wp2_with fail
      go_ret
      exact ⟨rfl, HBa.out⟩
end Go.Proofs.YtligjbcinahgdaaGreat

/-
  Proofs: policy.Rule. (The verifier's own text.)
-/
namespace Go.Proofs.YtligjbcinahgdaaGreat
set_option linter.unusedVariables false
set_option linter.unusedSimpArgs false
open Go.RowKit Go.Shelf Go.Proofs.YtligjbcinahgdaaGreat.Nm

theorem rlK_step (R : List Ru) (n : ByteArray) (k : Nat) : rlK R n (k + 1) = if (decide ((rlK R n k).2 < wtI n (uAt R k)) && rgB (uAt R k)) = true then ((k : Int), wtI n (uAt R k)) else rlK R n k := rfl
theorem alloc_belF {w wb : World} {o : Obj} (h : w.alloc o = wb) : Below w.heap.size w wb := by rw [← h]; exact (Below.refl _ w).alloc (Nat.le_refl _) _
set_option maxRecDepth 100000 in
set_option maxHeartbeats 4000000 in
/-- policy.Rule -/
theorem policyRule_any (R : List Ru) (p : Option Addr) (cap : Nat) (n : ByteArray) (w : World) (hat : RuAt w p R) (hR : R.length ≤ 1048576) (hz : ∀ x ∈ R, x.n.size ≤ 1048576 ∧ x.d.size ≤ 1048576) (hn : n.size ≤ 1048576) :
    Calls Tryz.prog 5 #[.slice p R.length cap, .string n] w fun e w' => e = .returned (.int .i64 (ruI R n)) ∧ Below w.heap.size w w' := by
  have HA := hide' hat
  have HZ := hide' hz
  clear hat hz
  unfold ruI
  go_enter Tryz.func5, Tryz.ntmps5
  go_wp2_with fail
  go_loopw [5, 6, 12] (fun bv mv kv wr => ∃ k : Nat, kv = .int .i64 (k : Int) ∧ k ≤ R.length ∧ bv = .int .i64 (rlK R n k).1 ∧ mv = .int .i64 (rlK R n k).2 ∧ Hid (Below w.heap.size w wr)) (fun _ _ kv _ => R.length - (intOf kv).toNat)
  case atStart => exact ⟨0, rfl, Nat.zero_le _, rfl, rfl, Below.refl _ _⟩
  case round =>
    obtain ⟨k, rfl, hk, rfl, rfl, HB⟩ := hrel
    by_cases hlt : k < R.length
    · have pk : (k : Int) < (R.length : Int) := by omega
      have pk0 : (0 : Int) ≤ (k : Int) := by omega
      obtain ⟨g, off, rfl, hg, y0, y1, y2, y3, y4, y5⟩ := (HA.out.below HB.out) k hlt
      have hs := HZ.out _ (List.getElem_mem hlt)
      have HSt := hide' (rlK_step R n k)
      rw [← uAt_get hlt] at HSt
      obtain ⟨x, hx⟩ : ∃ x, R[k] = x := ⟨_, rfl⟩
      rw [hx] at y0 y1 y2 y3 y4 y5 hs HSt
      clear hx
      have HWt := hide' (fun V => weightOf_any x n V hs.1 hn)
      have HRi := hide' (fun V => isRight_any x V hs.1 hs.2)
      obtain ⟨W0, hW0⟩ : ∃ z, wtI n x = z := ⟨_, rfl⟩
      obtain ⟨G0, hG0⟩ : ∃ z, rgB x = z := ⟨_, rfl⟩
      rw [hW0] at HWt HSt
      rw [hG0] at HRi HSt
      clear hW0 hG0 hs
      obtain ⟨⟨b0, m0⟩, hbm⟩ : ∃ q, rlK R n k = q := ⟨_, rfl⟩
      rw [hbm] at HSt ⊢
      clear hbm
      simp only at HSt ⊢
      obtain ⟨xn, xb, xk, xt, xl, xd⟩ := x
      unfold ruV at HWt HRi
      simp only at y0 y1 y2 y3 y4 y5 HWt HRi
      obtain ⟨wa, hwa⟩ : ∃ wa, wr.alloc (.cells #[.string xn, .bool xb, .int .i64 xk, .int .i64 xt, .int .i64 xl, .string xd] 45) = wa := ⟨_, rfl⟩
      have HXa : Hid (Bx wa wr.heap.size #[.string xn, .bool xb, .int .i64 xk, .int .i64 xt, .int .i64 xl, .string xd] 45) := hwa ▸ World.alloc_heap_new wr _
      have HBa : Hid (Below w.heap.size w wa) := bstep HB.out (alloc_belF hwa) HB.out.size
      obtain ⟨b0', b1, b2, b3, b4, b5⟩ := bx6P HXa.out
      by_cases hc : m0 < W0
      · have hcd : decide (m0 < W0) = true := decide_eq_true hc
        cases G0 with
        | true =>
          rw [hcd, Bool.and_self, if_pos rfl] at HSt
          go_wp2_with (first
            | (go_at_call 16; (with_reducible refine (HWt.out _).mono ?_); rintro e w1 ⟨rfl, hB1⟩; have HX1 := hide' (HXa.out.below hB1 HXa.out.lt); obtain ⟨c0, c1, c2, c3, c4, c5⟩ := bx6P HX1.out; have HB1 := hide' (bstep HBa.out hB1 HBa.out.size); clear hB1)
            | (go_at_call 17; (with_reducible refine (HRi.out _).mono ?_); rintro e w2 ⟨rfl, hB2⟩; have HB2 := hide' (bstep HB1.out hB2 HB1.out.size); clear hB2))
          exact ⟨⟨k + 1, by go_num, by omega, by rw [HSt.out], by rw [HSt.out], HB2.out⟩, by simp [intOf]; omega⟩
        | false =>
          rw [hcd, Bool.and_false, if_neg (by decide)] at HSt
          go_wp2_with (first
            | (go_at_call 16; (with_reducible refine (HWt.out _).mono ?_); rintro e w1 ⟨rfl, hB1⟩; have HX1 := hide' (HXa.out.below hB1 HXa.out.lt); obtain ⟨c0, c1, c2, c3, c4, c5⟩ := bx6P HX1.out; have HB1 := hide' (bstep HBa.out hB1 HBa.out.size); clear hB1)
            | (go_at_call 17; (with_reducible refine (HRi.out _).mono ?_); rintro e w2 ⟨rfl, hB2⟩; have HB2 := hide' (bstep HB1.out hB2 HB1.out.size); clear hB2))
          exact ⟨⟨k + 1, by go_num, by omega, by rw [HSt.out], by rw [HSt.out], HB2.out⟩, by simp [intOf]; omega⟩
      · have hcd : decide (m0 < W0) = false := decide_eq_false hc
        rw [hcd, Bool.false_and, if_neg (by decide)] at HSt
        go_wp2_with (go_at_call 16; (with_reducible refine (HWt.out _).mono ?_); rintro e w1 ⟨rfl, hB1⟩; have HX1 := hide' (HXa.out.below hB1 HXa.out.lt); obtain ⟨c0, c1, c2, c3, c4, c5⟩ := bx6P HX1.out; have HB1 := hide' (bstep HBa.out hB1 HBa.out.size); clear hB1)
        exact ⟨⟨k + 1, by go_num, by omega, by rw [HSt.out], by rw [HSt.out], HB1.out⟩, by simp [intOf]; omega⟩
    · obtain rfl : k = R.length := by omega
      go_wp2_with fail
      go_ret
      exact ⟨rfl, HB.out⟩
end Go.Proofs.YtligjbcinahgdaaGreat
