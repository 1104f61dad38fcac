import Derived.Test.YtfacfhigehdejaaGreatDoorDbuG
/-
  The first word of data that are known is not the mark of raw bytes, plainly. (The verifier's own text.)
-/
namespace Go.Proofs.YtfacfhigehdejaaGreatDoor
set_option linter.unusedVariables false
set_option linter.unusedSimpArgs false
open Go Go.Proofs.YtfacfhigehdejaaGreatDoor.Nm

/-- kinds that may stand first -/
def fstK (k : Kind) : Bool := decide ((k : Nat) ≤ 4 ∨ (k : Nat) = 10 ∨ 13 ≤ (k : Nat))
theorem not_mark {t : List Nat} (h1 : ∀ x ∈ t, x < 256) (h2 : t ≠ [92, 35]) (q : Bool) : (decide (bts t = ⟨#[92, 35]⟩) && !q) = false := by
  rw [decide_eq_false, Bool.false_and]
  intro e
  apply h2
  rw [← lsB_bts h1, e]
  decide +kernel
theorem not_mark_q (t : List Nat) : (decide (bts t = ⟨#[92, 35]⟩) && !true) = false := by simp
theorem d16_no92 : ∀ v, v < 16 → bt d16 v ≠ 92 := by decide +kernel
theorem grL_no92 {U : List Nat} {x : Nat} (h : x ∈ grL U) : x ≠ 92 := by
  rcases jnC_mem h with e | ⟨y, hy, e⟩
  · omega
  · obtain ⟨a, _, rfl⟩ := List.mem_map.1 hy
    obtain ⟨v, hv, rfl⟩ := List.mem_map.1 e
    exact d16_no92 v (hxV_lt a a (Nat.le_refl _) v hv)
theorem nameT_no92 {t : Nat} (h1 : 1 ≤ t) (h2 : t ≤ 65535) : lsB (nameT (t : Int)) ≠ [92, 35] := by
  have hty : isTy (t : Int) = true := by unfold isTy; exact decide_eq_true (by omega)
  unfold nameT
  rw [if_pos hty]
  cases hf : twFind (t : Int) with
  | some s =>
    simp only
    unfold twFind at hf
    cases hq : tw.find? (fun r => decide ((r.1 : Int) = t)) with
    | none => rw [hq] at hf; cases hf
    | some r =>
      rw [hq] at hf
      simp only [Option.map_some, Option.some.injEq] at hf
      subst hf
      have hm := List.mem_of_find?_eq_some hq
      have key : ∀ r ∈ tw, lsB r.2 ≠ [92, 35] := by decide +kernel
      exact key r hm
  | none =>
    simp only
    have e : (⟨#[84, 89, 80, 69]⟩ : ByteArray) ++ ⟨(Lib.itoa (t : Int)).toArray⟩ = bts ([84, 89, 80, 69] ++ dgN t) := by
      rw [bts_append, bts_dg]
      congr 1
    rw [e, lsB_bts (fun x hx => by
      rcases List.mem_append.1 hx with h | h
      · have key : ∀ x ∈ [84, 89, 80, 69], x < 256 := by decide
        exact key x h
      · have := dgN_dig t x h
        omega)]
    simp
theorem first_word (k : Kind) (b : ByteArray) (hf : fstK k = true) (hk : kKn k = true) (hs : kindSize k b = some b.size) (hb : b.size ≤ 65535) : ∃ (z : Wz) (R : List Wz), tellK k b = z :: R ∧ (decide (bts z.t = ⟨#[92, 35]⟩) && !z.q) = false := by
  rcases kind_cases k with rfl | rfl | rfl | rfl | rfl | rfl | rfl | rfl | rfl | rfl | rfl | rfl | rfl | ⟨m, rfl⟩
  · refine ⟨_, [], rfl, ?_⟩
    simp only [kindSize, fixS] at hs
    have hok := (ip4_ok b (by split at hs <;> simp at hs; omega)).1
    refine not_mark hok.lt (fun e => ?_) _
    have h92 : 92 ∈ ip4L b := by
      have e' : ip4L b = [92, 35] := e
      rw [e']; simp
    rcases jnC_mem h92 with e2 | ⟨y, hy, e2⟩
    · omega
    · obtain ⟨a, _, rfl⟩ := List.mem_map.1 hy
      have := dgN_dig a 92 e2
      omega
  · refine ⟨_, [], rfl, ?_⟩
    refine not_mark (ip6_ok b).1.lt (fun e => ?_) _
    have h92 : 92 ∈ ip6U (g16 b) := by
      have e' : ip6U (g16 b) = [92, 35] := e
      rw [e']; simp
    unfold ip6U at h92
    split at h92
    · exact grL_no92 h92 rfl
    · rcases List.mem_append.1 h92 with e2 | e2
      · exact grL_no92 e2 rfl
      · rcases List.mem_cons.1 e2 with e3 | e3
        · omega
        · rcases List.mem_cons.1 e3 with e4 | e4
          · omega
          · exact grL_no92 e4 rfl
  · refine ⟨_, [], rfl, ?_⟩
    have hd := (domS_some hs).2.2.2
    rw [ext_full] at hd
    have := dom_ok hd
    refine not_mark this.1.lt (fun e => ?_) _
    have h1 := this.2.2
    simp only at e
    rw [e] at h1
    cases h1
  · exact ⟨_, [], rfl, not_mark_q _⟩
  · obtain ⟨x, X, hX, rfl⟩ := txtS_row hs
    have e : tellK 4 (chunks (x :: X)) = (x :: X).map txW := txtW_chunks (x :: X) _ hX (chunks_len _)
    exact ⟨txW x, X.map txW, by rw [e, List.map_cons], not_mark_q _⟩
  · cases hf
  · cases hf
  · cases hf
  · cases hf
  · cases hf
  · simp only [kindSize] at hs
    unfold oneS at hs
    split at hs
    · cases hs
    · rename_i hno
      simp only [Option.some.injEq] at hs
      have h0 := bt_lt b 0
      have h1 := bt_lt b 1
      have hv : vN b b.size = bt b 0 * 256 + bt b 1 := by
        rw [← hs]
        simp [vN]
      refine ⟨_, [], rfl, not_mark (lsB_lt _) (nameT_no92 (by omega) (by omega)) _⟩
  · cases hf
  · cases hf
  · refine ⟨_, [], rfl, not_mark (fun x hx => by have := dgN_dig _ x hx; omega) (fun e => ?_) _⟩
    have h92 : 92 ∈ dgN (vN b b.size) := by
      have e' : dgN (vN b b.size) = [92, 35] := e
      rw [e']; simp
    have := dgN_dig _ 92 h92
    omega
theorem kinds_first {t : Int} {ks : List Kind} (h : kindsOf t = some ks) : ks = [12] ∨ ∃ k l, ks = k :: l ∧ fstK k = true := by
  unfold kindsOf at h
  by_cases hc : t = 1
  · rw [if_pos hc] at h; cases h; exact .inr ⟨_, _, rfl, by decide⟩
  rw [if_neg hc] at h; clear hc
  by_cases hc : t = 2 ∨ t = 5 ∨ t = 12 ∨ t = 39
  · rw [if_pos hc] at h; cases h; exact .inr ⟨_, _, rfl, by decide⟩
  rw [if_neg hc] at h; clear hc
  by_cases hc : t = 6
  · rw [if_pos hc] at h; cases h; exact .inr ⟨_, _, rfl, by decide⟩
  rw [if_neg hc] at h; clear hc
  by_cases hc : t = 13
  · rw [if_pos hc] at h; cases h; exact .inr ⟨_, _, rfl, by decide⟩
  rw [if_neg hc] at h; clear hc
  by_cases hc : t = 15
  · rw [if_pos hc] at h; cases h; exact .inr ⟨_, _, rfl, by decide⟩
  rw [if_neg hc] at h; clear hc
  by_cases hc : t = 16
  · rw [if_pos hc] at h; cases h; exact .inr ⟨_, _, rfl, by decide⟩
  rw [if_neg hc] at h; clear hc
  by_cases hc : t = 28
  · rw [if_pos hc] at h; cases h; exact .inr ⟨_, _, rfl, by decide⟩
  rw [if_neg hc] at h; clear hc
  by_cases hc : t = 33
  · rw [if_pos hc] at h; cases h; exact .inr ⟨_, _, rfl, by decide⟩
  rw [if_neg hc] at h; clear hc
  by_cases hc : t = 35
  · rw [if_pos hc] at h; cases h; exact .inr ⟨_, _, rfl, by decide⟩
  rw [if_neg hc] at h; clear hc
  by_cases hc : t = 43
  · rw [if_pos hc] at h; cases h; exact .inr ⟨_, _, rfl, by decide⟩
  rw [if_neg hc] at h; clear hc
  by_cases hc : t = 46
  · rw [if_pos hc] at h; cases h; exact .inr ⟨_, _, rfl, by decide⟩
  rw [if_neg hc] at h; clear hc
  by_cases hc : t = 47
  · rw [if_pos hc] at h; cases h; exact .inr ⟨_, _, rfl, by decide⟩
  rw [if_neg hc] at h; clear hc
  by_cases hc : t = 48
  · rw [if_pos hc] at h; cases h; exact .inr ⟨_, _, rfl, by decide⟩
  rw [if_neg hc] at h; clear hc
  by_cases hc : t = 50
  · rw [if_pos hc] at h; cases h; exact .inr ⟨_, _, rfl, by decide⟩
  rw [if_neg hc] at h; clear hc
  by_cases hc : t = 51
  · rw [if_pos hc] at h; cases h; exact .inr ⟨_, _, rfl, by decide⟩
  rw [if_neg hc] at h; clear hc
  by_cases hc : t = 257
  · rw [if_pos hc] at h; cases h; exact .inr ⟨_, _, rfl, by decide⟩
  rw [if_neg hc] at h; clear hc
  by_cases hc : isDT t = true
  · rw [if_pos hc] at h; cases h; exact .inl rfl
  rw [if_neg hc] at h; cases h
end Go.Proofs.YtfacfhigehdejaaGreatDoor

/-
  Proofs: data.Read, of the words that tell data. (The verifier's own text.)
-/
namespace Go.Proofs.YtfacfhigehdejaaGreatDoor
set_option linter.unusedVariables false
set_option linter.unusedSimpArgs false
open Go.RowKit Go.Shelf Go.Proofs.YtfacfhigehdejaaGreatDoor.Nm

theorem rgBox {w w' : World} {B L : Nat} {t : TypeId} {v : Value} (h : Boxed w B t v) (hr : Rg w w' L) (hne : B ≠ L) : Boxed w' B t v := (hr.block B h.lt (fun e => hne (by injection e))).trans h
theorem bxOther {w : World} {B P : Nat} {t : TypeId} {v : Value} (h : Boxed w B t v) (hne : B ≠ P) (u : Value) : Boxed (w.setCell ⟨P, 0, none⟩ u) B t v := (Below.heap_setCell _ _ _ _ hne).trans h
/-- both boxes after their stores -/
theorem two_set {w4 : World} {P Q : Nat} {t1 t2 : TypeId} {v1 v2 : Value} (hp : Boxed w4 P t1 v1) (hq : Boxed w4 Q t2 v2) (hne : P ≠ Q) (u1 u2 : Value) : Boxed ((w4.setCell ⟨P, 0, none⟩ u1).setCell ⟨Q, 0, none⟩ u2) P t1 u1 ∧ Boxed ((w4.setCell ⟨P, 0, none⟩ u1).setCell ⟨Q, 0, none⟩ u2) Q t2 u2 :=
  ⟨bxOther (hp.set u1) hne u2, (bxOther hq (Ne.symm hne) u1).set u2⟩
set_option maxRecDepth 100000 in
set_option maxHeartbeats 4000000 in
theorem read_core (t : Int) (d o : ByteArray) (ps : List (Kind × ByteArray)) (ks : List Kind) (q : Option Addr) (c : Nat) (w : World) (hkk : kindsOf t = some ks) (rb : Bool)
    (hrow : ∀ j (z : Wz), (tellA ps)[j]? = some z → ∃ b, q = some ⟨b, 0, none⟩ ∧ w.cell? ⟨b, j * 2, none⟩ = some (.string (bts z.t)) ∧ w.cell? ⟨b, j * 2 + 1, none⟩ = some (.bool z.q))
    (hlen : (tellA ps).length ≤ 16777216) (hcap : (tellA ps).length ≤ c ∧ c ≤ 9223372036854775807) (ho : isN o = true) (hG : GD w)
    (HBR : ∀ W0 L V, Ln W0 L q c (tellA ps) o 0 V → Calls Tryz.prog 20 #[.pointer (some ⟨L, 0, none⟩)] V fun e w' => e = .returned (.bool rb) ∧ ∃ m, w' = V.drewN m)
    (HRR : rb = true → ∀ W0 L V, GD W0 → Ln W0 L q c (tellA ps) o 0 V → Calls Tryz.prog 21 #[.int .i64 t, .pointer (some ⟨L, 0, none⟩)] V fun e w' => e = .returned (.string d) ∧ Rg V w' L)
    (HRF : rb = false → ∀ W0 L g V, GD W0 → Ln W0 L q c (tellA ps) o 0 V → V.heap[g]? = some (.cells (ks.map kindV).toArray 41 (0, 0)) → g ≠ L → Calls Tryz.prog 22 #[.slice (some ⟨g, 0, none⟩) ks.length ks.length, .pointer (some ⟨L, 0, none⟩)] V fun e w' => e = .returned (.string d) ∧ Rg V w' L) :
    Calls Tryz.prog 7 #[.int .i64 t, .slice q (tellA ps).length c, .string o] w fun e w' => e = .returned (.tuple #[.string d, .int .i64 0, .int .i64 0]) ∧ Below w.heap.size w w' := by
  have hmf : ∀ (fn : Fn) (first cap : Array Value) (w : World), (Instr.makeFunc fn first cap).run Tryz.prog w = .ok (.func fn first cap) w := fun _ _ _ _ => rfl
  have HF := hide' (fun V => fieldsOf_any t V)
  rw [hkk] at HF
  have hchk : chk o = 0 := by unfold chk; rw [if_pos ho]
  have hosz : o.size ≤ maxLen := by
    have := ((isN_iff o).1 ho).1
    unfold maxLen; omega
  have HC := hide' (fun V => check_any o V hosz)
  rw [hchk] at HC
  obtain ⟨n, hn⟩ : ∃ n, (tellA ps).length = n := ⟨_, rfl⟩
  have HLn : Hid (∀ V L, Below w.heap.size w V → L = V.heap.size → Ln V L q c (tellA ps) o 0 (V.alloc (.cells #[.slice q n c, .string o, .int .i64 0] 54))) := fun V L hV hL => by
    subst hL
    refine ⟨by rw [World.alloc_heap_new, hn]; rfl, (Below.refl _ V).alloc (Nat.le_refl _) _, Nat.le_refl _, fun j z hz => ?_, hlen, hcap⟩
    obtain ⟨b, h1, h2, h3⟩ := hrow j z hz
    have hb : b < w.heap.size := Lib.lt_of_cell h2
    exact ⟨b, h1, (hV.cell (p := ⟨b, j * 2, none⟩) hb).trans h2, (hV.cell (p := ⟨b, j * 2 + 1, none⟩) hb).trans h3⟩
  have HBR := hide' HBR
  have HRR := hide' HRR
  have HRF := hide' HRF
  have HG := hide' hG
  have hb1 : (w.alloc (.cells #[.int .i64 0] 3)).heap.size = w.heap.size + 1 := World.size_alloc _ _
  have bp0 : Boxed ((w.alloc (.cells #[.int .i64 0] 3)).alloc (.cells #[.int .i64 0] 22)) w.heap.size 3 (.int .i64 0) :=
    bxBelow (Boxed.new w 3 (.int .i64 0)) ((Below.refl _ _).alloc (Nat.le_refl _) _) (by rw [hb1]; omega)
  have bq0 : Boxed ((w.alloc (.cells #[.int .i64 0] 3)).alloc (.cells #[.int .i64 0] 22)) (w.heap.size + 1) 22 (.int .i64 0) := by
    have := Boxed.new (w.alloc (.cells #[.int .i64 0] 3)) 22 (.int .i64 0)
    rwa [hb1] at this
  have hBa : Below w.heap.size w ((w.alloc (.cells #[.int .i64 0] 3)).alloc (.cells #[.int .i64 0] 22)) := ((Below.refl _ w).alloc (Nat.le_refl _) _).alloc (by rw [hb1]; omega) _
  rw [hn]
  have hcap' : n ≤ c ∧ c ≤ 9223372036854775807 := by rw [← hn]; exact hcap
  clear hrow hlen hcap ho hG hchk hosz hkk hn
  cases rb
  all_goals
    go_enter_defers Tryz.func7, Tryz.ntmps7
    go_wp2_with (first
      | (go_at_call 18; refine (HF.out _).mono ?_; rintro e1 w1 ⟨⟨g, rfl, hg1, hg2⟩, hB1⟩; have hgl := (Array.getElem?_eq_some_iff.1 hg2).1; have bp1 := bxBelow bp0 hB1 bp0.lt; have bq1 := bxBelow bq0 hB1 bq0.lt; have HB1 := hide' (bstep hBa hB1 hBa.size); clear hB1 hBa)
      | (go_at_call 5; refine (HC.out _).mono ?_; rintro e2 w2 ⟨rfl, hB2⟩; have bp2 := bxBelow bp1 hB2 bp1.lt; have bq2 := bxBelow bq1 hB2 bq1.lt; have HB2 := hide' (bstep HB1.out hB2 HB1.out.size); have hgl2 := hB2.size; have hg3 := (hB2.block _ hgl).trans hg2; have HL2 := hide' (HLn.out w2 _ HB2.out rfl); have HA2 : Hid (Below w2.heap.size w2 (w2.alloc (.cells #[.slice q n c, .string o, .int .i64 0] 54))) := (Below.refl _ w2).alloc (Nat.le_refl _) _; clear hB2 hg2)
      | (go_at_call 20; refine (HBR.out w2 w2.heap.size _ HL2.out).mono ?_; rintro e3 w3 ⟨rfl, m, hw3⟩; have hA3 : Below w2.heap.size w2 w3 := hw3 ▸ below_drewN HA2.out m; have HL3 : Hid (Ln w2 w2.heap.size q c (tellA ps) o 0 w3) := hw3 ▸ HL2.out.drewN m; have bp3 := bxBelow bp2 hA3 bp2.lt; have bq3 := bxBelow bq2 hA3 bq2.lt; have hg4 := (hA3.block _ (Nat.lt_of_lt_of_le hgl hgl2)).trans hg3; have HA3 := hide' hA3; clear hA3 hw3 HA2 HL2 hg3)
      | (go_at_call 21; refine (HRR.out (by simp) w2 w2.heap.size _ (HG.out.below HB2.out) HL3.out).mono ?_; rintro e4 w4 ⟨rfl, hR4⟩; have bp4 := rgBox bp3 hR4 (Nat.ne_of_lt bp2.lt); have bq4 := rgBox bq3 hR4 (Nat.ne_of_lt bq2.lt); have HR4 := hide' hR4; have hc1 := bp4.cell; have hf1 := bp4.frozen; have bs := bxOther bq4 (P := w.heap.size) (by omega) (.int .i64 0); have hc2 := bs.cell; have hf2 := bs.frozen; clear hR4)
      | (go_at_call 22; refine (HRF.out (by simp) w2 w2.heap.size g _ (HG.out.below HB2.out) HL3.out hg4 (by omega)).mono ?_; rintro e4 w4 ⟨rfl, hR4⟩; have bp4 := rgBox bp3 hR4 (Nat.ne_of_lt bp2.lt); have bq4 := rgBox bq3 hR4 (Nat.ne_of_lt bq2.lt); have HR4 := hide' hR4; have hc1 := bp4.cell; have hf1 := bp4.frozen; have bs := bxOther bq4 (P := w.heap.size) (by omega) (.int .i64 0); have hc2 := bs.cell; have hf2 := bs.frozen; clear hR4))
    obtain ⟨bp5, bq5⟩ := two_set bp4 bq4 (by omega) (.int .i64 0) (.int .i64 0)
    refine leaves_cons (f := 17) (args := #[.pointer (some ⟨w.heap.size, 0, none⟩), .pointer (some ⟨w.heap.size + 1, 0, none⟩)]) (by simp) (by simp [go_sem]) ?_
    refine (read1_idle w.heap.size (w.heap.size + 1) w.heap.size 0 0 _ bp5.cell bp5.frozen bq5.cell bq5.frozen (by omega) (Nat.le_refl _) (by omega)).mono ?_
    rintro e u' w'' ⟨rfl, rfl, hz1, hz2, hB5⟩
    have hR6 : Below w.heap.size w w4 := HR4.out.below (w0 := w) (bstep HB2.out HA3.out HB2.out.size) HB2.out.size
    have hB7 : Below w.heap.size w w'' := ((hR6.setCell (p := ⟨w.heap.size, 0, none⟩) (Nat.le_refl _) _).setCell (p := ⟨w.heap.size + 1, 0, none⟩) (by show w.heap.size ≤ w.heap.size + 1; omega) _).trans hB5
    simp only [Leaves, settle]
    refine ⟨.tuple #[.string d, .int .i64 0, .int .i64 0], ?_, rfl, hB7⟩
    simp [results, Tryz.results7, go_sem, hz1, hz2]
/-- data.Read, of the words that tell data -/
theorem dataRead_any (t : Int) (d o : ByteArray) (ps : List (Kind × ByteArray)) (q : Option Addr) (c : Nat) (w : World) (hp : partsD t d = some ps)
    (hrow : ∀ j (z : Wz), (tellA ps)[j]? = some z → ∃ b, q = some ⟨b, 0, none⟩ ∧ w.cell? ⟨b, j * 2, none⟩ = some (.string (bts z.t)) ∧ w.cell? ⟨b, j * 2 + 1, none⟩ = some (.bool z.q))
    (hcap : (tellA ps).length ≤ c ∧ c ≤ 9223372036854775807) (ho : isN o = true) (hG : GD w) :
    Calls Tryz.prog 7 #[.int .i64 t, .slice q (tellA ps).length c, .string o] w fun e w' => e = .returned (.tuple #[.string d, .int .i64 0, .int .i64 0]) ∧ Below w.heap.size w w' := by
  obtain ⟨ks, hkk, hks, hok⟩ := ps_ok hp
  have hlen : (tellA ps).length ≤ 16777216 := Nat.le_trans (jnW_len _).2 (Nat.le_trans hok.tell.2 (by omega))
  have he := errD_of_parts hp
  rcases kinds_known hkk with ⟨hkn, hla, hne⟩ | h12
  · rcases kinds_first hkk with h12 | ⟨k, l, hkl, hfk⟩
    · rw [h12] at hkn
      exact absurd (hkn 12 List.mem_cons_self) (by decide)
    · have hkl' := hks.trans hkl
      cases ps with
      | nil => cases hkl'
      | cons p ps' =>
        rw [List.map_cons] at hkl'
        injection hkl' with h1 h2
        obtain ⟨z, R, hz, hzr⟩ := first_word p.1 p.2 (by rw [h1]; exact hfk) (by rw [h1]; exact hkn k (by rw [hkl]; exact List.mem_cons_self)) (hok.sz p List.mem_cons_self) (hok.le p List.mem_cons_self)
        have hz0 : (tellA (p :: ps'))[0]? = some z := by rw [tellA_cons, hz]; rfl
        refine read_core t d o (p :: ps') ks q c w hkk false hrow hlen hcap ho hG (fun W0 L V hV => ?_) (fun h => by cases h) (fun _ W0 L g V hGV hV hg hgL => ?_)
        · have := braw_any W0 L q c _ o z V hV hz0
          rwa [hzr] at this
        · exact readFields_any W0 L q c o (p :: ps') d ks g V hV hok hks hkn hla hg hgL ho hGV
  · rw [h12] at hks
    cases ps with
    | nil => cases hks
    | cons p ps' =>
      rw [List.map_cons] at hks
      injection hks with h1 h2
      have h3 : ps' = [] := List.map_eq_nil_iff.1 h2
      subst h3
      obtain ⟨k, b⟩ := p
      simp only at h1
      subst h1
      have hbd : b = d := by have := hok.cat; rwa [catB_one] at this
      subst hbd
      have htA : tellA [((12 : Kind), b)] = tellK 12 b := by rw [tellA_cons]; exact List.append_nil _
      obtain ⟨Z2, hZ2, -⟩ := unk_words b hok.dl
      refine read_core t b o [(12, b)] ks q c w hkk true hrow hlen hcap ho hG (fun W0 L V hV => ?_) (fun _ W0 L V hGV hV => ?_) (fun h => by cases h)
      · have hz0 : (tellA [((12 : Kind), b)])[0]? = some ⟨[92, 35], false⟩ := by rw [htA, hZ2]; rfl
        have := braw_any W0 L q c _ o _ V hV hz0
        rwa [show (decide (bts [92, 35] = ⟨#[92, 35]⟩) && !false) = true from rfl] at this
      · rw [htA] at hV
        exact readRaw_any W0 L q c o b t V hV hok.dl hGV he
end Go.Proofs.YtfacfhigehdejaaGreatDoor
