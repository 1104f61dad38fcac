import Derived.Test.YthabenjghhmicaaGreatZf6G
import Derived.Test.YthabenjghhmicaaGreatRc1G
import Derived.Test.YthabenjghhmicaaGreatRw0
/-
  Proofs: what is unwise in a zone: cutOf, isHidden, data.Target, judgeTarget, judge. (The verifier's own text.)
-/
namespace Go.Proofs.YthabenjghhmicaaGreat
set_option linter.unusedVariables false
set_option linter.unusedSimpArgs false
open Go.RowKit Go.Shelf Go.Maps Go.Proofs.YthabenjghhmicaaGreat.Nm Go.Proofs.YthabenjghhmicaaGreat.Zs

theorem own_somS {w : World} {b n e s : Nat} {v : Value} {xs : List Value} (h : w.ownsRow b e s v n xs) (hn : 0 < n) : ∃ g c, v = .slice (some ⟨g, 0, none⟩) n c := by
  rcases h.2 with ⟨_, h0⟩ | ⟨g, cap, cur, h1, _⟩
  · omega
  · exact ⟨g, cap, h1⟩
theorem names_few (t : Int) (d : ByteArray) : (namesD t d).length ≤ 9 := by
  unfold namesD
  split
  · simp
  · rename_i ps h
    exact Nat.le_trans (namesOf_len ps) (parts_few h).1
/-- the name to which a record of servers leads -/
def tgB (r : Rn) : ByteArray := if r.t = 2 ∨ r.t = 15 ∨ r.t = 33 then ((namesD r.t r.d).getLast?).getD ⟨#[]⟩ else ⟨#[]⟩
set_option maxRecDepth 100000 in
set_option maxHeartbeats 2000000 in
/-- data.Target -/
theorem target_any (r : Rn) (w : World) (hd : r.d.size ≤ 1048576) :
    Calls Tryz.prog 99 #[rcV r] w fun e w' => e = .returned (.string (tgB r)) ∧ Below w.heap.size w w' := by
  have K0 := hide' (Bk.start w r)
  obtain ⟨wa, hwa⟩ : ∃ wa, w.alloc (.cells #[.string r.o, .int .i64 r.t, .int .i64 r.c, .int .i64 r.l, .string r.d] 54) = wa := ⟨_, rfl⟩
  rw [hwa] at K0
  obtain ⟨v0, v1, v2, v3, v4⟩ := K0.out.cells
  have HNm := hide' (fun V => names_any r.t r.d V (by omega))
  obtain ⟨o, t, c, l, d⟩ := r
  unfold rcV tgB
  simp only at v0 v1 v2 v3 v4 hd hwa HNm ⊢
  by_cases ht : t = 2 ∨ t = 15 ∨ t = 33
  · rw [if_pos ht]
    obtain ⟨N, hN⟩ : ∃ N, namesD t d = N := ⟨_, rfl⟩
    rw [hN] at HNm ⊢
    have hNN := hN
    clear hN
    have hB := Below.refl wa.heap.size wa
    have HEnd : Hid (∀ V, Below wa.heap.size wa V → Below w.heap.size w V) := fun V hV => (K0.out.step hV).bl
    cases hl : N.getLast? with
    | none =>
      have hN0 : N = [] := List.getLast?_eq_none_iff.1 hl
      subst hN0
      clear hl
      rcases ht with rfl | rfl | rfl
      all_goals
        go_enter Tryz.func99, Tryz.ntmps99
        go_wp2_with (go_at_call 120; refine (HNm.out _).mono ?_; rintro e w2 ⟨p2, c2, rfl, ho2, hB2⟩; have hB := bstep hB hB2 hB.size; clear ho2 hB2)
        go_ret
        exact ⟨rfl, HEnd.out _ hB⟩
    | some z =>
      have hpos : 0 < N.length := by cases N with | nil => simp at hl | cons => simp
      obtain ⟨m, hm⟩ : ∃ m, N.length = m + 1 := ⟨N.length - 1, by omega⟩
      have hz : N[m]? = some z := by rw [List.getLast?_eq_getElem?] at hl; rw [← hl, hm]; rfl
      have HZ : Hid (∀ (V : World) p c b, V.ownsRow b 9 1 (.slice p N.length c) N.length (N.map Value.string) → ∃ g, p = some ⟨g, 0, none⟩ ∧ V.cell? ⟨g, m, none⟩ = some (.string z)) := fun V p c b ho => by
        obtain ⟨g, c', hv⟩ := own_somS ho hpos
        injection hv with h1 h2 h3
        subst h1
        refine ⟨g, rfl, ?_⟩
        have := ho.cellAt m (by omega)
        rw [this, List.getElem?_map, hz]
        rfl
      have hN9 := names_few t d
      rw [hNN] at hN9
      have i1 : (0 : Int) < (N.length : Int) := by omega
      have i2 : IntKind.i64.wrap ((N.length : Int) - 1) = (m : Int) := by rw [IntWalk.i64_in] <;> omega
      have i3 : (0 : Int) ≤ (m : Int) := by omega
      have i4 : (m : Int) < (N.length : Int) := by omega
      clear hN9 hNN
      clear hl hz hpos hm
      rcases ht with rfl | rfl | rfl
      all_goals
        go_enter Tryz.func99, Tryz.ntmps99
        go_wp2_with (go_at_call 120; refine (HNm.out _).mono ?_; rintro e w2 ⟨p2, c2, rfl, ho2, hB2⟩; obtain ⟨g2, rfl, hc2⟩ := HZ.out _ _ _ _ ho2; have hB := bstep hB hB2 hB.size; clear ho2 hB2)
        go_ret
        exact ⟨rfl, HEnd.out _ hB⟩
  · rw [if_neg ht]
    have h1 : (t == 2) = false := by simp; intro e; exact ht (Or.inl e)
    have h2 : (t == 15) = false := by simp; intro e; exact ht (Or.inr (Or.inl e))
    have h3 : (t == 33) = false := by simp; intro e; exact ht (Or.inr (Or.inr e))
    clear ht
    go_enter Tryz.func99, Tryz.ntmps99
    go_wp2_with fail
    go_ret
    exact ⟨rfl, K0.out.bl⟩

theorem partsOf_le : ∀ (ks : List Kind) (d : ByteArray) (ps : List (Kind × ByteArray)), partsOf ks d = some ps → ∀ q ∈ ps, q.2.size ≤ d.size
  | [], d, ps, h, q, hq => by
    unfold partsOf at h
    split at h
    · injection h with h; subst h; cases hq
    · cases h
  | k :: ks, d, ps, h, q, hq => by
    unfold partsOf at h
    split at h
    · cases h
    · rename_i n hn
      cases hr : partsOf ks (d.extract n d.size) with
      | none => rw [hr] at h; cases h
      | some ps' =>
        rw [hr] at h
        injection h with h
        subst h
        have s1 : (d.extract n d.size).size ≤ d.size := by simp [ByteArray.size_extract]
        have s2 : (d.extract 0 n).size ≤ d.size := by simp [ByteArray.size_extract]; omega
        rcases List.mem_cons.1 hq with rfl | hq
        · exact s2
        · exact Nat.le_trans (partsOf_le ks _ ps' hr q hq) s1
/-- a name in data is no longer than these -/
theorem tg_size (r : Rn) (h : r.d.size ≤ 65535) : (tgB r).size ≤ 65535 := by
  unfold tgB
  split
  · cases hl : (namesD r.t r.d).getLast? with
    | none => decide
    | some z =>
      have hz := List.mem_of_getLast? hl
      unfold namesD at hz
      split at hz
      · cases hz
      · rename_i ps hp
        obtain ⟨q, hq, hq2⟩ := List.mem_filterMap.1 hz
        have hz2 : q.2 = z := by
          split at hq2
          · injection hq2
          · cases hq2
        unfold partsD at hp
        split at hp
        · cases hp
        · split at hp
          · cases hp
          · have := partsOf_le _ _ _ hp q hq
            show z.size ≤ 65535
            rw [← hz2]; omega
  · decide
/-- the topmost name at which another zone begins -/
def cutB (apex : ByteArray) (T : List Rn) (n : ByteArray) : ByteArray := (((pathL apex n).drop 1).find? fun on => !(stT T on 2).isEmpty).getD ⟨#[]⟩
/-- is a record hidden? -/
def hidB (apex : ByteArray) (T : List Rn) (r : Rn) : Bool :=
  if cutB apex T (foldB r.o) = ⟨#[]⟩ ∨ countB r = false then false
  else if r.t = 1 ∨ r.t = 28 then false
  else if r.t = 2 ∨ r.t = 43 ∨ r.t = 47 ∨ r.t = 46 then decide (cutB apex T (foldB r.o) ≠ foldB r.o) else true
/-- what is unwise of a target -/
def jtB (apex : ByteArray) (T : List Rn) (t : Int) (n : ByteArray) : Int :=
  if (stT T (foldB n) 1).isEmpty = false ∨ (stT T (foldB n) 28).isEmpty = false then 0
  else if (findB apex T n 1).k = 1 ∨ (findB apex T n 28).k = 1 then 0
  else if (findB apex T n 1).k = 2 then 2
  else if t ≠ 2 ∧ ((findB apex T n 1).k = 4 ∨ n = ⟨#[0]⟩) then 0 else 3
/-- what is unwise of a record -/
def judB (apex : ByteArray) (T : List Rn) (r : Rn) : Int × ByteArray :=
  if hidB apex T r = true then (4, ⟨#[]⟩) else if withinB (tgB r) apex = false then (0, ⟨#[]⟩) else if jtB apex T r.t (tgB r) ≠ 0 then (jtB apex T r.t (tgB r), tgB r) else (0, ⟨#[]⟩)
theorem cut_some {apex : ByteArray} {T : List Rn} {n : ByteArray} {P : List ByteArray} (hP : (pathL apex n).drop 1 = P) {j : Nat} (hj : j < P.length) (h : (stT T P[j] 2).isEmpty = false) (hb : ∀ i, (hi : i < P.length) → i < j → (stT T P[i] 2).isEmpty = true) : cutB apex T n = P[j] := by
  unfold cutB
  rw [hP]
  have : P.find? (fun on => !(stT T on 2).isEmpty) = some P[j] := by
    rw [List.find?_eq_some_iff_getElem]
    exact ⟨by rw [h]; rfl, j, hj, rfl, fun i hi => by simp [hb i (by omega) hi]⟩
  rw [this]; rfl
theorem cut_none {apex : ByteArray} {T : List Rn} {n : ByteArray} {P : List ByteArray} (hP : (pathL apex n).drop 1 = P) (hb : ∀ i, (hi : i < P.length) → (stT T P[i] 2).isEmpty = true) : cutB apex T n = ⟨#[]⟩ := by
  unfold cutB
  rw [hP]
  have : P.find? (fun on => !(stT T on 2).isEmpty) = none := by
    rw [List.find?_eq_none]
    intro x hx
    obtain ⟨i, hi, rfl⟩ := List.getElem_of_mem hx
    simp [hb i hi]
  rw [this]; rfl
section
variable {n : Nat} {W : World} {apex : ByteArray} {L : List Rn} {ord : List Nat} {Z RW NM C m cnt : Nat} {p : Option Addr} {cp : Nat} {f : ByteArray → Option Nat}
set_option maxRecDepth 100000 in
set_option maxHeartbeats 4000000 in
/-- (*zone.Zone).cutOf -/
theorem cutOf_any (h : Zon n W apex L ord Z RW NM C m cnt p cp f) (x : ByteArray) (hx : isN x = true) :
    Calls Tryz.prog 119 #[.pointer (some ⟨Z, 0, none⟩), .string x] W fun r w' => r = .returned (.string (cutB apex (ord.map (rAt L)) x)) ∧ Below W.heap.size W w' := by
  have hna := h.laid.na
  have HPa := hide' (path_any Z RW NM apex _ x W h.zx hx (isN_pos hna) ((isN_iff _).1 hna).1)
  have HPn : Hid (∀ y ∈ pathL apex x, isN y = true) := fun y hy => ups_names (isN_pos hna) _ x hx y (by unfold pathL at hy; simpa using hy)
  have hpl : (pathL apex x).length ≤ 256 := pathL_len hx
  obtain ⟨T, hTT⟩ : ∃ T, ord.map (rAt L) = T := ⟨_, rfl⟩
  have HHa : Hid (∀ V o t', o.size ≤ 255 → 0 ≤ t' → t' ≤ 65535 → Below W.heap.size W V → Calls Tryz.prog 92 #[.pointer (some ⟨Z, 0, none⟩), .string o, .int .i64 t'] V fun r w' => r = .returned (.bool (!(stT T o t').isEmpty)) ∧ Below V.heap.size V w') := fun V o t' ho h1 h2 hV => by
    have := hasZ_any (h.step hV) o t' (plG_any ho ⟨h1, h2⟩)
    rw [hTT] at this
    exact this
  rw [hTT]
  obtain ⟨y0, P, hP⟩ := path_cons apex x
  have HD : Hid ((pathL apex x).drop 1 = P) := by unfold Hid; rw [hP]; rfl
  rw [hP, List.length_cons] at HPa
  rw [hP] at HPn hpl
  rw [List.length_cons] at hpl
  clear hTT h hna hP hx
  go_enter Tryz.func119, Tryz.ntmps119
  go_wp2_with (go_at_call 85; refine HPa.out.mono ?_; rintro e w1 ⟨⟨pp, pc, rfl, hst, hpc, _⟩, hB1⟩; obtain ⟨q, hrun, hst2⟩ := run_tailS y0 P pp pc hpc; have HST := hide' (hst2 _ hst); have HB1 := hide' hB1; clear hst hst2 hB1)
  go_loopw [12] (fun jv wr => ∃ j : Nat, jv = .int .i64 (j : Int) ∧ j ≤ P.length ∧ Hid (∀ i, (hi : i < P.length) → i < j → (stT T P[i] 2).isEmpty = true) ∧ Hid (Below w1.heap.size w1 wr)) (fun jv _ => P.length - (intOf jv).toNat)
  case atStart => exact ⟨0, rfl, Nat.zero_le _, (fun i _ h => absurd h (Nat.not_lt_zero _)), Below.refl _ _⟩
  case round =>
    obtain ⟨j, rfl, hj, HN, HB⟩ := hrel
    have HBw := hide' (bstep HB1.out HB.out HB1.out.size)
    by_cases hlt : j < P.length
    · have pj : (j : Int) < (P.length : Int) := by omega
      obtain ⟨gs, os, hps, hgs, cs⟩ := HST.out j hlt
      subst hps
      have cs' : wr.cell? ⟨gs, os + j, none⟩ = some (.string P[j]) := (HB.out.cell (p := ⟨gs, os + j, none⟩) hgs).trans cs
      have hyN := HPn.out _ (List.mem_cons_of_mem _ (List.getElem_mem hlt))
      have hy255 : P[j].size ≤ 255 := ((isN_iff _).1 hyN).1
      have HS : Hid ((stT T P[j] 2).isEmpty = false → cutB apex T x = P[j]) := fun h => cut_some HD.out hlt h HN.out
      have HZ : Hid ((stT T P[j] 2).isEmpty = true → ∀ i, (hi : i < P.length) → i < j + 1 → (stT T P[i] 2).isEmpty = true) := fun h i hi hij => by
        rcases Nat.lt_or_ge i j with h' | h'
        · exact HN.out i hi h'
        · obtain rfl : i = j := by omega
          exact h
      have H2 := hide' (fun V hV => HHa.out V P[j] 2 hy255 (by omega) (by omega) hV)
      obtain ⟨y, hy⟩ : ∃ y, P[j] = y := ⟨_, rfl⟩
      rw [hy] at cs' HS HZ H2
      clear cs hyN hy255 hy
      obtain ⟨E2, hE2⟩ : ∃ E2, (stT T y 2).isEmpty = E2 := ⟨_, rfl⟩
      rw [hE2] at H2 HS HZ
      have HB2 : Hid (∀ V, Below wr.heap.size wr V → Below W.heap.size W V) := fun V hV => bstep HBw.out hV HBw.out.size
      have HBn : Hid (∀ V, Below wr.heap.size wr V → Below w1.heap.size w1 V) := fun V hV => bstep HB.out hV HB.out.size
      have hB := Below.refl wr.heap.size wr
      clear hE2
      cases E2 with
      | true =>
        have HU := hide' (HZ.out rfl)
        go_wp2_with (go_at_call 92; (with_reducible refine (H2.out _ (HB2.out _ hB)).mono ?_); rintro e w5 ⟨rfl, hB5⟩; have hB := bstep hB hB5 hB.size; clear hB5)
        exact ⟨⟨j + 1, by go_num, by omega, HU, HBn.out _ hB⟩, by simp [intOf]; omega⟩
      | false =>
        have HV := hide' (HS.out rfl)
        go_wp2_with (go_at_call 92; (with_reducible refine (H2.out _ (HB2.out _ hB)).mono ?_); rintro e w5 ⟨rfl, hB5⟩; have hB := bstep hB hB5 hB.size; clear hB5)
        go_ret
        exact ⟨by rw [HV.out]; rfl, HB2.out _ hB⟩
    · obtain rfl : j = P.length := by omega
      have HV : Hid (cutB apex T x = ⟨#[]⟩) := cut_none HD.out (fun i hi => HN.out i hi hi)
      go_wp2_with fail
      go_ret
      exact ⟨by rw [HV.out]; rfl, HBw.out⟩
end
end Go.Proofs.YthabenjghhmicaaGreat

/-
  Proofs: (*zone.Zone).isHidden, judgeTarget, judge. (The verifier's own text.)
-/
namespace Go.Proofs.YthabenjghhmicaaGreat
set_option linter.unusedVariables false
set_option linter.unusedSimpArgs false
open Go.RowKit Go.Shelf Go.Maps Go.Proofs.YthabenjghhmicaaGreat.Nm Go.Proofs.YthabenjghhmicaaGreat.Zs

set_option maxRecDepth 100000 in
theorem found_kind (k : Int) (a b : ByteArray) (c : Bool) (d : Option Addr) (e g : Nat) (W : World) : Sem.run Tryz.prog (Instr.field 34 (.agg #[.int .i64 k, .string a, .string b, .bool c, .slice d e g]) 0) W = .ok (.int .i64 k) W := by rfl
theorem empty_toList {c : ByteArray} (h : c ≠ ⟨#[]⟩) : ¬ c.toList = [] := fun e => h (toList_inj.1 (e.trans (by decide +kernel)))
theorem root_toList {c : ByteArray} (h : c ≠ ⟨#[0]⟩) : ¬ c.toList = [0] := fun e => h (toList_inj.1 (e.trans (by decide +kernel)))
def hidV (cu fo : ByteArray) (Cn : Bool) (t : Int) : Bool := if cu = ⟨#[]⟩ ∨ Cn = false then false else if t = 1 ∨ t = 28 then false else if t = 2 ∨ t = 43 ∨ t = 47 ∨ t = 46 then decide (cu ≠ fo) else true
def jtV (E1 E2 : Bool) (k1 k2 t : Int) (x : ByteArray) : Int := if E1 = false ∨ E2 = false then 0 else if k1 = 1 ∨ k2 = 1 then 0 else if k1 = 2 then 2 else if t ≠ 2 ∧ (k1 = 4 ∨ x = ⟨#[0]⟩) then 0 else 3
def judV (Hd Wi : Bool) (J : Int) (tg : ByteArray) : Int × ByteArray := if Hd = true then (4, ⟨#[]⟩) else if Wi = false then (0, ⟨#[]⟩) else if J ≠ 0 then (J, tg) else (0, ⟨#[]⟩)
section
variable {n : Nat} {W : World} {apex : ByteArray} {L : List Rn} {ord : List Nat} {Z RW NM C m cnt : Nat} {p : Option Addr} {cp : Nat} {f : ByteArray → Option Nat}
set_option maxRecDepth 100000 in
set_option maxHeartbeats 2000000 in
/-- (*zone.Zone).isHidden -/
theorem isHidden_any (h : Zon n W apex L ord Z RW NM C m cnt p cp f) (r : Rn) (hr : zonR r = true) :
    Calls Tryz.prog 98 #[.pointer (some ⟨Z, 0, none⟩), rcV r] W fun e w' => e = .returned (.bool (hidB apex (ord.map (rAt L)) r)) ∧ Below W.heap.size W w' := by
  obtain ⟨hn, -, -, -, -, ht1, ht2, hd, ho, hfo, -⟩ := ok_facts hr
  have K0 := hide' (Bk.start W r)
  obtain ⟨wa, hwa⟩ : ∃ wa, W.alloc (.cells #[.string r.o, .int .i64 r.t, .int .i64 r.c, .int .i64 r.l, .string r.d] 54) = wa := ⟨_, rfl⟩
  rw [hwa] at K0
  have hBw : Below W.heap.size W wa := hwa ▸ (Below.refl _ W).alloc (Nat.le_refl _) _
  have HFo := hide' (fun V => fold_any r.o V (by unfold maxLen; omega))
  have HCu : Hid (∀ V, Below wa.heap.size wa V → Calls Tryz.prog 119 #[.pointer (some ⟨Z, 0, none⟩), .string (foldB r.o)] V fun e w' => e = .returned (.string (cutB apex (ord.map (rAt L)) (foldB r.o))) ∧ Below V.heap.size V w') := fun V hV => cutOf_any (h.step (bstep hBw hV hBw.size)) (foldB r.o) (zisN_fold hn).1
  have HCo := hide' (fun V => counts_any r V (by unfold maxLen; omega))
  have HQ : Hid (∀ V, Below wa.heap.size wa V → V.cell? ⟨W.heap.size, 0, none⟩ = some (.string r.o) ∧ V.cell? ⟨W.heap.size, 1, none⟩ = some (.int .i64 r.t) ∧ V.cell? ⟨W.heap.size, 2, none⟩ = some (.int .i64 r.c) ∧ V.cell? ⟨W.heap.size, 3, none⟩ = some (.int .i64 r.l) ∧ V.cell? ⟨W.heap.size, 4, none⟩ = some (.string r.d)) := fun V hV => (K0.out.step hV).cells
  have HE : Hid (∀ V, Below wa.heap.size wa V → Below W.heap.size W V) := fun V hV => (K0.out.step hV).bl
  obtain ⟨T, hTT⟩ : ∃ T, ord.map (rAt L) = T := ⟨_, rfl⟩
  rw [hTT] at HCu ⊢
  clear hTT h hn ht1 ht2 hd ho hfo hBw hr
  have hB := Below.refl wa.heap.size wa
  obtain ⟨q0, q1, q2, q3, q4⟩ := HQ.out _ hB
  have HV : Hid (hidB apex T r = hidV (cutB apex T (foldB r.o)) (foldB r.o) (countB r) r.t) := rfl
  obtain ⟨Cn, hCn⟩ : ∃ Cn, countB r = Cn := ⟨_, rfl⟩
  rw [hCn] at HCo HV
  clear hCn
  obtain ⟨hh, hhh⟩ : ∃ hh, hidB apex T r = hh := ⟨_, rfl⟩
  rw [hhh] at HV ⊢
  clear hhh
  obtain ⟨o, t, c, l, d⟩ := r
  unfold rcV at HCo ⊢
  simp only at HFo HCu HCo HQ HV q0 q1 q2 q3 q4 hwa ⊢
  obtain ⟨fo, hfo⟩ : ∃ fo, foldB o = fo := ⟨_, rfl⟩
  obtain ⟨cu, hcu⟩ : ∃ cu, cutB apex T fo = cu := ⟨_, rfl⟩
  rw [hfo] at HFo HCu HV
  rw [hcu] at HCu HV
  clear hfo hcu K0
  by_cases he : cu = ⟨#[]⟩
  · subst he
    go_enter Tryz.func98, Tryz.ntmps98
    go_wp2_with (first
      | (go_at_call 44; refine (HFo.out _).mono ?_; rintro e w1 ⟨rfl, hB1⟩; have hB := bstep hB hB1 hB.size; obtain ⟨q0, q1, q2, q3, q4⟩ := HQ.out _ hB; clear hB1)
      | (go_at_call 119; refine (HCu.out _ hB).mono ?_; rintro e w2 ⟨rfl, hB1⟩; have hB := bstep hB hB1 hB.size; obtain ⟨q0, q1, q2, q3, q4⟩ := HQ.out _ hB; clear hB1)
      | (go_at_call 84; refine (HCo.out _).mono ?_; rintro e w3 ⟨rfl, hB1⟩; have hB := bstep hB hB1 hB.size; obtain ⟨q0, q1, q2, q3, q4⟩ := HQ.out _ hB; clear hB1))
    go_ret
    exact ⟨by rw [HV.out]; simp [hidV], HE.out _ hB⟩
  · have he1 := empty_toList he
    have he2 : (cu.toList == []) = false := by simp [he1]
    have HNE := hide' he
    clear he
    cases Cn with
    | false =>
      go_enter Tryz.func98, Tryz.ntmps98
      go_wp2_with (first
      | (go_at_call 44; refine (HFo.out _).mono ?_; rintro e w1 ⟨rfl, hB1⟩; have hB := bstep hB hB1 hB.size; obtain ⟨q0, q1, q2, q3, q4⟩ := HQ.out _ hB; clear hB1)
      | (go_at_call 119; refine (HCu.out _ hB).mono ?_; rintro e w2 ⟨rfl, hB1⟩; have hB := bstep hB hB1 hB.size; obtain ⟨q0, q1, q2, q3, q4⟩ := HQ.out _ hB; clear hB1)
      | (go_at_call 84; refine (HCo.out _).mono ?_; rintro e w3 ⟨rfl, hB1⟩; have hB := bstep hB hB1 hB.size; obtain ⟨q0, q1, q2, q3, q4⟩ := HQ.out _ hB; clear hB1))
      go_ret
      exact ⟨by rw [HV.out]; simp [hidV], HE.out _ hB⟩
    | true =>
      by_cases ht : t = 1
      · subst ht
        go_enter Tryz.func98, Tryz.ntmps98
        go_wp2_with (first
              | (go_at_call 44; refine (HFo.out _).mono ?_; rintro e w1 ⟨rfl, hB1⟩; have hB := bstep hB hB1 hB.size; obtain ⟨q0, q1, q2, q3, q4⟩ := HQ.out _ hB; clear hB1)
              | (go_at_call 119; refine (HCu.out _ hB).mono ?_; rintro e w2 ⟨rfl, hB1⟩; have hB := bstep hB hB1 hB.size; obtain ⟨q0, q1, q2, q3, q4⟩ := HQ.out _ hB; clear hB1)
              | (go_at_call 84; refine (HCo.out _).mono ?_; rintro e w3 ⟨rfl, hB1⟩; have hB := bstep hB hB1 hB.size; obtain ⟨q0, q1, q2, q3, q4⟩ := HQ.out _ hB; clear hB1))
        go_ret
        exact ⟨by rw [HV.out]; simp [hidV, HNE.out], HE.out _ hB⟩
      · have HT1 := hide' ht
        have ht1 : (t == 1) = false := by simp [ht]
        clear ht
        by_cases ht : t = 28
        · subst ht
          go_enter Tryz.func98, Tryz.ntmps98
          go_wp2_with (first
                | (go_at_call 44; refine (HFo.out _).mono ?_; rintro e w1 ⟨rfl, hB1⟩; have hB := bstep hB hB1 hB.size; obtain ⟨q0, q1, q2, q3, q4⟩ := HQ.out _ hB; clear hB1)
                | (go_at_call 119; refine (HCu.out _ hB).mono ?_; rintro e w2 ⟨rfl, hB1⟩; have hB := bstep hB hB1 hB.size; obtain ⟨q0, q1, q2, q3, q4⟩ := HQ.out _ hB; clear hB1)
                | (go_at_call 84; refine (HCo.out _).mono ?_; rintro e w3 ⟨rfl, hB1⟩; have hB := bstep hB hB1 hB.size; obtain ⟨q0, q1, q2, q3, q4⟩ := HQ.out _ hB; clear hB1))
          go_ret
          exact ⟨by rw [HV.out]; simp [hidV, HNE.out], HE.out _ hB⟩
        · have HT28 := hide' ht
          have ht28 : (t == 28) = false := by simp [ht]
          clear ht
          by_cases ht : t = 2
          · subst ht
            have hne : (cu.toList != fo.toList) = decide (cu ≠ fo) := by rw [bne, toList_bt]; simp
            go_enter Tryz.func98, Tryz.ntmps98
            go_wp2_with (first
                  | (go_at_call 44; refine (HFo.out _).mono ?_; rintro e w1 ⟨rfl, hB1⟩; have hB := bstep hB hB1 hB.size; obtain ⟨q0, q1, q2, q3, q4⟩ := HQ.out _ hB; clear hB1)
                  | (go_at_call 119; refine (HCu.out _ hB).mono ?_; rintro e w2 ⟨rfl, hB1⟩; have hB := bstep hB hB1 hB.size; obtain ⟨q0, q1, q2, q3, q4⟩ := HQ.out _ hB; clear hB1)
                  | (go_at_call 84; refine (HCo.out _).mono ?_; rintro e w3 ⟨rfl, hB1⟩; have hB := bstep hB hB1 hB.size; obtain ⟨q0, q1, q2, q3, q4⟩ := HQ.out _ hB; clear hB1))
            go_ret
            exact ⟨by rw [HV.out]; simp [hidV, HNE.out, toList_bt], HE.out _ hB⟩
          · have HT2 := hide' ht
            have ht2 : (t == 2) = false := by simp [ht]
            clear ht
            by_cases ht : t = 43
            · subst ht
              have hne : (cu.toList != fo.toList) = decide (cu ≠ fo) := by rw [bne, toList_bt]; simp
              go_enter Tryz.func98, Tryz.ntmps98
              go_wp2_with (first
                    | (go_at_call 44; refine (HFo.out _).mono ?_; rintro e w1 ⟨rfl, hB1⟩; have hB := bstep hB hB1 hB.size; obtain ⟨q0, q1, q2, q3, q4⟩ := HQ.out _ hB; clear hB1)
                    | (go_at_call 119; refine (HCu.out _ hB).mono ?_; rintro e w2 ⟨rfl, hB1⟩; have hB := bstep hB hB1 hB.size; obtain ⟨q0, q1, q2, q3, q4⟩ := HQ.out _ hB; clear hB1)
                    | (go_at_call 84; refine (HCo.out _).mono ?_; rintro e w3 ⟨rfl, hB1⟩; have hB := bstep hB hB1 hB.size; obtain ⟨q0, q1, q2, q3, q4⟩ := HQ.out _ hB; clear hB1))
              go_ret
              exact ⟨by rw [HV.out]; simp [hidV, HNE.out, toList_bt], HE.out _ hB⟩
            · have HT43 := hide' ht
              have ht43 : (t == 43) = false := by simp [ht]
              clear ht
              by_cases ht : t = 47
              · subst ht
                have hne : (cu.toList != fo.toList) = decide (cu ≠ fo) := by rw [bne, toList_bt]; simp
                go_enter Tryz.func98, Tryz.ntmps98
                go_wp2_with (first
                      | (go_at_call 44; refine (HFo.out _).mono ?_; rintro e w1 ⟨rfl, hB1⟩; have hB := bstep hB hB1 hB.size; obtain ⟨q0, q1, q2, q3, q4⟩ := HQ.out _ hB; clear hB1)
                      | (go_at_call 119; refine (HCu.out _ hB).mono ?_; rintro e w2 ⟨rfl, hB1⟩; have hB := bstep hB hB1 hB.size; obtain ⟨q0, q1, q2, q3, q4⟩ := HQ.out _ hB; clear hB1)
                      | (go_at_call 84; refine (HCo.out _).mono ?_; rintro e w3 ⟨rfl, hB1⟩; have hB := bstep hB hB1 hB.size; obtain ⟨q0, q1, q2, q3, q4⟩ := HQ.out _ hB; clear hB1))
                go_ret
                exact ⟨by rw [HV.out]; simp [hidV, HNE.out, toList_bt], HE.out _ hB⟩
              · have HT47 := hide' ht
                have ht47 : (t == 47) = false := by simp [ht]
                clear ht
                by_cases ht : t = 46
                · subst ht
                  have hne : (cu.toList != fo.toList) = decide (cu ≠ fo) := by rw [bne, toList_bt]; simp
                  go_enter Tryz.func98, Tryz.ntmps98
                  go_wp2_with (first
                        | (go_at_call 44; refine (HFo.out _).mono ?_; rintro e w1 ⟨rfl, hB1⟩; have hB := bstep hB hB1 hB.size; obtain ⟨q0, q1, q2, q3, q4⟩ := HQ.out _ hB; clear hB1)
                        | (go_at_call 119; refine (HCu.out _ hB).mono ?_; rintro e w2 ⟨rfl, hB1⟩; have hB := bstep hB hB1 hB.size; obtain ⟨q0, q1, q2, q3, q4⟩ := HQ.out _ hB; clear hB1)
                        | (go_at_call 84; refine (HCo.out _).mono ?_; rintro e w3 ⟨rfl, hB1⟩; have hB := bstep hB hB1 hB.size; obtain ⟨q0, q1, q2, q3, q4⟩ := HQ.out _ hB; clear hB1))
                  go_ret
                  exact ⟨by rw [HV.out]; simp [hidV, HNE.out, toList_bt], HE.out _ hB⟩
                · have HT46 := hide' ht
                  have ht46 : (t == 46) = false := by simp [ht]
                  clear ht
                  go_enter Tryz.func98, Tryz.ntmps98
                  go_wp2_with (first
                        | (go_at_call 44; refine (HFo.out _).mono ?_; rintro e w1 ⟨rfl, hB1⟩; have hB := bstep hB hB1 hB.size; obtain ⟨q0, q1, q2, q3, q4⟩ := HQ.out _ hB; clear hB1)
                        | (go_at_call 119; refine (HCu.out _ hB).mono ?_; rintro e w2 ⟨rfl, hB1⟩; have hB := bstep hB hB1 hB.size; obtain ⟨q0, q1, q2, q3, q4⟩ := HQ.out _ hB; clear hB1)
                        | (go_at_call 84; refine (HCo.out _).mono ?_; rintro e w3 ⟨rfl, hB1⟩; have hB := bstep hB hB1 hB.size; obtain ⟨q0, q1, q2, q3, q4⟩ := HQ.out _ hB; clear hB1))
                  go_ret
                  exact ⟨by rw [HV.out]; simp [hidV, HNE.out, HT1.out, HT28.out, HT2.out, HT43.out, HT47.out, HT46.out], HE.out _ hB⟩

set_option maxRecDepth 100000 in
set_option maxHeartbeats 2000000 in
/-- (*zone.Zone).judgeTarget -/
theorem judgeTarget_any (h : Zon n W apex L ord Z RW NM C m cnt p cp f) (t : Int) (x : ByteArray) (hx : isN x = true) :
    Calls Tryz.prog 100 #[.pointer (some ⟨Z, 0, none⟩), .int .i64 t, .string x] W fun e w' => e = .returned (.int .i64 (jtB apex (ord.map (rAt L)) t x)) ∧ Below W.heap.size W w' := by
  have hs := ((isN_iff _).1 hx).1
  have hf := ((isN_iff _).1 (zisN_fold hx).1).1
  have HFo := hide' (fun V => fold_any x V (by unfold maxLen; omega))
  obtain ⟨T, hTT⟩ : ∃ T, ord.map (rAt L) = T := ⟨_, rfl⟩
  have HF : Hid (∀ t' V, Below W.heap.size W V → Calls Tryz.prog 12 #[.pointer (some ⟨Z, 0, none⟩), .string x, .int .i64 t'] V fun r w' => (∃ a b c d e g, r = .returned (.agg #[.int .i64 (findB apex T x t').k, .string a, .string b, .bool c, .slice d e g])) ∧ Below V.heap.size V w') := fun t' V hV => by
    have h0 := find_any (h.step hV) x t' (by omega)
    rw [hTT] at h0
    refine h0.mono ?_
    rintro r w' ⟨⟨v, rfl, ho⟩, hb⟩
    obtain ⟨p5, c5, rfl, _, _, _⟩ := own_shape ho
    exact ⟨⟨_, _, _, _, _, _, rfl⟩, hb⟩
  have HHa : Hid (∀ t' V, 0 ≤ t' → t' ≤ 65535 → Below W.heap.size W V → Calls Tryz.prog 92 #[.pointer (some ⟨Z, 0, none⟩), .string (foldB x), .int .i64 t'] V fun r w' => r = .returned (.bool (!(stT T (foldB x) t').isEmpty)) ∧ Below V.heap.size V w') := fun t' V h1 h2 hV => by
    have := hasZ_any (h.step hV) (foldB x) t' (plG_any hf ⟨h1, h2⟩)
    rw [hTT] at this
    exact this
  rw [hTT]
  have HF1 := hide' (HF.out 1)
  have HF2 := hide' (HF.out 28)
  have HH1 := hide' (fun V hV => HHa.out 1 V (by omega) (by omega) hV)
  have HH2 := hide' (fun V hV => HHa.out 28 V (by omega) (by omega) hV)
  clear HF HHa hTT h hx hs hf
  have HV : Hid (jtB apex T t x = jtV (stT T (foldB x) 1).isEmpty (stT T (foldB x) 28).isEmpty (findB apex T x 1).k (findB apex T x 28).k t x) := rfl
  obtain ⟨hh, hhh⟩ : ∃ hh, jtB apex T t x = hh := ⟨_, rfl⟩
  rw [hhh] at HV ⊢
  clear hhh
  obtain ⟨k1, hk1⟩ : ∃ k, (findB apex T x 1).k = k := ⟨_, rfl⟩
  obtain ⟨k2, hk2⟩ : ∃ k, (findB apex T x 28).k = k := ⟨_, rfl⟩
  rw [hk1] at HF1 HV
  rw [hk2] at HF2 HV
  clear hk1 hk2
  obtain ⟨fx, hfx⟩ : ∃ fx, foldB x = fx := ⟨_, rfl⟩
  rw [hfx] at HFo HH1 HH2 HV
  clear hfx
  obtain ⟨E1, hE1⟩ : ∃ E, (stT T fx 1).isEmpty = E := ⟨_, rfl⟩
  obtain ⟨E2, hE2⟩ : ∃ E, (stT T fx 28).isEmpty = E := ⟨_, rfl⟩
  rw [hE1] at HH1 HV
  rw [hE2] at HH2 HV
  clear hE1 hE2
  have hfk := found_kind
  have hB := Below.refl W.heap.size W
  cases E1 with
  | false =>
    go_enter Tryz.func100, Tryz.ntmps100
    go_wp2_with (first
      | (go_at_call 44; refine (HFo.out _).mono ?_; rintro e w1 ⟨rfl, hB1⟩; have hB := bstep hB hB1 hB.size; clear hB1)
      | (go_at_call 12; (with_reducible refine (HF1.out _ hB).mono ?_); rintro e w2 ⟨⟨a1, b1, c1, d1, e1, g1, rfl⟩, hB1⟩; have hB := bstep hB hB1 hB.size; clear hB1)
      | (go_at_call 92; (with_reducible refine (HH1.out _ hB).mono ?_); rintro e w3 ⟨rfl, hB1⟩; have hB := bstep hB hB1 hB.size; clear hB1)
      | (go_at_call 92; (with_reducible refine (HH2.out _ hB).mono ?_); rintro e w4 ⟨rfl, hB1⟩; have hB := bstep hB hB1 hB.size; clear hB1)
      | (go_at_call 12; (with_reducible refine (HF2.out _ hB).mono ?_); rintro e w5 ⟨⟨a2, b2, c2, d2, e2, g2, rfl⟩, hB1⟩; have hB := bstep hB hB1 hB.size; clear hB1))
    go_ret
    exact ⟨by rw [HV.out]; simp [jtV], hB⟩
  | true =>
    cases E2 with
    | false =>
      go_enter Tryz.func100, Tryz.ntmps100
      go_wp2_with (first
        | (go_at_call 44; refine (HFo.out _).mono ?_; rintro e w1 ⟨rfl, hB1⟩; have hB := bstep hB hB1 hB.size; clear hB1)
        | (go_at_call 12; (with_reducible refine (HF1.out _ hB).mono ?_); rintro e w2 ⟨⟨a1, b1, c1, d1, e1, g1, rfl⟩, hB1⟩; have hB := bstep hB hB1 hB.size; clear hB1)
        | (go_at_call 92; (with_reducible refine (HH1.out _ hB).mono ?_); rintro e w3 ⟨rfl, hB1⟩; have hB := bstep hB hB1 hB.size; clear hB1)
        | (go_at_call 92; (with_reducible refine (HH2.out _ hB).mono ?_); rintro e w4 ⟨rfl, hB1⟩; have hB := bstep hB hB1 hB.size; clear hB1)
        | (go_at_call 12; (with_reducible refine (HF2.out _ hB).mono ?_); rintro e w5 ⟨⟨a2, b2, c2, d2, e2, g2, rfl⟩, hB1⟩; have hB := bstep hB hB1 hB.size; clear hB1))
      go_ret
      exact ⟨by rw [HV.out]; simp [jtV], hB⟩
    | true =>
      by_cases h1 : k1 = 1
      · subst h1
        go_enter Tryz.func100, Tryz.ntmps100
        go_wp2_with (first
          | (go_at_call 44; refine (HFo.out _).mono ?_; rintro e w1 ⟨rfl, hB1⟩; have hB := bstep hB hB1 hB.size; clear hB1)
          | (go_at_call 12; (with_reducible refine (HF1.out _ hB).mono ?_); rintro e w2 ⟨⟨a1, b1, c1, d1, e1, g1, rfl⟩, hB1⟩; have hB := bstep hB hB1 hB.size; clear hB1)
          | (go_at_call 92; (with_reducible refine (HH1.out _ hB).mono ?_); rintro e w3 ⟨rfl, hB1⟩; have hB := bstep hB hB1 hB.size; clear hB1)
          | (go_at_call 92; (with_reducible refine (HH2.out _ hB).mono ?_); rintro e w4 ⟨rfl, hB1⟩; have hB := bstep hB hB1 hB.size; clear hB1)
          | (go_at_call 12; (with_reducible refine (HF2.out _ hB).mono ?_); rintro e w5 ⟨⟨a2, b2, c2, d2, e2, g2, rfl⟩, hB1⟩; have hB := bstep hB hB1 hB.size; clear hB1))
        go_ret
        exact ⟨by rw [HV.out]; simp [jtV], hB⟩
      · have H1 := hide' h1
        have h1b : (k1 == 1) = false := by simp [h1]
        clear h1
        by_cases h2 : k2 = 1
        · subst h2
          go_enter Tryz.func100, Tryz.ntmps100
          go_wp2_with (first
            | (go_at_call 44; refine (HFo.out _).mono ?_; rintro e w1 ⟨rfl, hB1⟩; have hB := bstep hB hB1 hB.size; clear hB1)
            | (go_at_call 12; (with_reducible refine (HF1.out _ hB).mono ?_); rintro e w2 ⟨⟨a1, b1, c1, d1, e1, g1, rfl⟩, hB1⟩; have hB := bstep hB hB1 hB.size; clear hB1)
            | (go_at_call 92; (with_reducible refine (HH1.out _ hB).mono ?_); rintro e w3 ⟨rfl, hB1⟩; have hB := bstep hB hB1 hB.size; clear hB1)
            | (go_at_call 92; (with_reducible refine (HH2.out _ hB).mono ?_); rintro e w4 ⟨rfl, hB1⟩; have hB := bstep hB hB1 hB.size; clear hB1)
            | (go_at_call 12; (with_reducible refine (HF2.out _ hB).mono ?_); rintro e w5 ⟨⟨a2, b2, c2, d2, e2, g2, rfl⟩, hB1⟩; have hB := bstep hB hB1 hB.size; clear hB1))
          go_ret
          exact ⟨by rw [HV.out]; simp [jtV, H1.out], hB⟩
        · have H2 := hide' h2
          have h2b : (k2 == 1) = false := by simp [h2]
          clear h2
          by_cases h3 : k1 = 2
          · subst h3
            go_enter Tryz.func100, Tryz.ntmps100
            go_wp2_with (first
              | (go_at_call 44; refine (HFo.out _).mono ?_; rintro e w1 ⟨rfl, hB1⟩; have hB := bstep hB hB1 hB.size; clear hB1)
              | (go_at_call 12; (with_reducible refine (HF1.out _ hB).mono ?_); rintro e w2 ⟨⟨a1, b1, c1, d1, e1, g1, rfl⟩, hB1⟩; have hB := bstep hB hB1 hB.size; clear hB1)
              | (go_at_call 92; (with_reducible refine (HH1.out _ hB).mono ?_); rintro e w3 ⟨rfl, hB1⟩; have hB := bstep hB hB1 hB.size; clear hB1)
              | (go_at_call 92; (with_reducible refine (HH2.out _ hB).mono ?_); rintro e w4 ⟨rfl, hB1⟩; have hB := bstep hB hB1 hB.size; clear hB1)
              | (go_at_call 12; (with_reducible refine (HF2.out _ hB).mono ?_); rintro e w5 ⟨⟨a2, b2, c2, d2, e2, g2, rfl⟩, hB1⟩; have hB := bstep hB hB1 hB.size; clear hB1))
            go_ret
            exact ⟨by rw [HV.out]; simp [jtV, H2.out], hB⟩
          · have H3 := hide' h3
            have h3b : (k1 == 2) = false := by simp [h3]
            clear h3
            by_cases h4 : t = 2
            · subst h4
              go_enter Tryz.func100, Tryz.ntmps100
              go_wp2_with (first
                | (go_at_call 44; refine (HFo.out _).mono ?_; rintro e w1 ⟨rfl, hB1⟩; have hB := bstep hB hB1 hB.size; clear hB1)
                | (go_at_call 12; (with_reducible refine (HF1.out _ hB).mono ?_); rintro e w2 ⟨⟨a1, b1, c1, d1, e1, g1, rfl⟩, hB1⟩; have hB := bstep hB hB1 hB.size; clear hB1)
                | (go_at_call 92; (with_reducible refine (HH1.out _ hB).mono ?_); rintro e w3 ⟨rfl, hB1⟩; have hB := bstep hB hB1 hB.size; clear hB1)
                | (go_at_call 92; (with_reducible refine (HH2.out _ hB).mono ?_); rintro e w4 ⟨rfl, hB1⟩; have hB := bstep hB hB1 hB.size; clear hB1)
                | (go_at_call 12; (with_reducible refine (HF2.out _ hB).mono ?_); rintro e w5 ⟨⟨a2, b2, c2, d2, e2, g2, rfl⟩, hB1⟩; have hB := bstep hB hB1 hB.size; clear hB1))
              go_ret
              exact ⟨by rw [HV.out]; simp [jtV, H1.out, H2.out, H3.out], hB⟩
            · have H4 := hide' h4
              have h4b : (t != 2) = true := by simp [h4]
              clear h4
              by_cases h5 : k1 = 4
              · subst h5
                go_enter Tryz.func100, Tryz.ntmps100
                go_wp2_with (first
                  | (go_at_call 44; refine (HFo.out _).mono ?_; rintro e w1 ⟨rfl, hB1⟩; have hB := bstep hB hB1 hB.size; clear hB1)
                  | (go_at_call 12; (with_reducible refine (HF1.out _ hB).mono ?_); rintro e w2 ⟨⟨a1, b1, c1, d1, e1, g1, rfl⟩, hB1⟩; have hB := bstep hB hB1 hB.size; clear hB1)
                  | (go_at_call 92; (with_reducible refine (HH1.out _ hB).mono ?_); rintro e w3 ⟨rfl, hB1⟩; have hB := bstep hB hB1 hB.size; clear hB1)
                  | (go_at_call 92; (with_reducible refine (HH2.out _ hB).mono ?_); rintro e w4 ⟨rfl, hB1⟩; have hB := bstep hB hB1 hB.size; clear hB1)
                  | (go_at_call 12; (with_reducible refine (HF2.out _ hB).mono ?_); rintro e w5 ⟨⟨a2, b2, c2, d2, e2, g2, rfl⟩, hB1⟩; have hB := bstep hB hB1 hB.size; clear hB1))
                go_ret
                exact ⟨by rw [HV.out]; simp [jtV, H2.out, H4.out], hB⟩
              · have H5 := hide' h5
                have h5b : (k1 == 4) = false := by simp [h5]
                clear h5
                by_cases h6 : x = ⟨#[0]⟩
                · subst h6
                  go_enter Tryz.func100, Tryz.ntmps100
                  go_wp2_with (first
                    | (go_at_call 44; refine (HFo.out _).mono ?_; rintro e w1 ⟨rfl, hB1⟩; have hB := bstep hB hB1 hB.size; clear hB1)
                    | (go_at_call 12; (with_reducible refine (HF1.out _ hB).mono ?_); rintro e w2 ⟨⟨a1, b1, c1, d1, e1, g1, rfl⟩, hB1⟩; have hB := bstep hB hB1 hB.size; clear hB1)
                    | (go_at_call 92; (with_reducible refine (HH1.out _ hB).mono ?_); rintro e w3 ⟨rfl, hB1⟩; have hB := bstep hB hB1 hB.size; clear hB1)
                    | (go_at_call 92; (with_reducible refine (HH2.out _ hB).mono ?_); rintro e w4 ⟨rfl, hB1⟩; have hB := bstep hB hB1 hB.size; clear hB1)
                    | (go_at_call 12; (with_reducible refine (HF2.out _ hB).mono ?_); rintro e w5 ⟨⟨a2, b2, c2, d2, e2, g2, rfl⟩, hB1⟩; have hB := bstep hB hB1 hB.size; clear hB1))
                  go_ret
                  exact ⟨by rw [HV.out]; simp [jtV, H1.out, H2.out, H3.out, H4.out, H5.out], hB⟩
                · have H6 := hide' h6
                  have h6a := root_toList h6
                  have h6b : (x.toList == [0]) = false := by simp [h6a]
                  clear h6
                  go_enter Tryz.func100, Tryz.ntmps100
                  go_wp2_with (first
                    | (go_at_call 44; refine (HFo.out _).mono ?_; rintro e w1 ⟨rfl, hB1⟩; have hB := bstep hB hB1 hB.size; clear hB1)
                    | (go_at_call 12; (with_reducible refine (HF1.out _ hB).mono ?_); rintro e w2 ⟨⟨a1, b1, c1, d1, e1, g1, rfl⟩, hB1⟩; have hB := bstep hB hB1 hB.size; clear hB1)
                    | (go_at_call 92; (with_reducible refine (HH1.out _ hB).mono ?_); rintro e w3 ⟨rfl, hB1⟩; have hB := bstep hB hB1 hB.size; clear hB1)
                    | (go_at_call 92; (with_reducible refine (HH2.out _ hB).mono ?_); rintro e w4 ⟨rfl, hB1⟩; have hB := bstep hB hB1 hB.size; clear hB1)
                    | (go_at_call 12; (with_reducible refine (HF2.out _ hB).mono ?_); rintro e w5 ⟨⟨a2, b2, c2, d2, e2, g2, rfl⟩, hB1⟩; have hB := bstep hB hB1 hB.size; clear hB1))
                  go_ret
                  exact ⟨by rw [HV.out]; simp [jtV, H1.out, H2.out, H3.out, H4.out, H5.out, H6.out], hB⟩

set_option maxRecDepth 100000 in
set_option maxHeartbeats 2000000 in
/-- (*zone.Zone).judge -/
theorem judge_any (h : Zon n W apex L ord Z RW NM C m cnt p cp f) (r : Rn) (hr : zonR r = true) :
    Calls Tryz.prog 61 #[.pointer (some ⟨Z, 0, none⟩), rcV r] W fun e w' => e = .returned (.tuple #[.int .i64 (judB apex (ord.map (rAt L)) r).1, .string (judB apex (ord.map (rAt L)) r).2]) ∧ Below W.heap.size W w' := by
  obtain ⟨hn, -, -, -, -, ht1, ht2, hd, ho, hfo, -⟩ := ok_facts hr
  have hap := ((isN_iff _).1 h.laid.na).1
  have htg := tg_size r (by omega)
  have K0 := hide' (Bk.start W r)
  obtain ⟨wa, hwa⟩ : ∃ wa, W.alloc (.cells #[.string r.o, .int .i64 r.t, .int .i64 r.c, .int .i64 r.l, .string r.d] 54) = wa := ⟨_, rfl⟩
  rw [hwa] at K0
  have hBw : Below W.heap.size W wa := hwa ▸ (Below.refl _ W).alloc (Nat.le_refl _) _
  have HHi : Hid (∀ V, Below wa.heap.size wa V → Calls Tryz.prog 98 #[.pointer (some ⟨Z, 0, none⟩), rcV r] V fun e w' => e = .returned (.bool (hidB apex (ord.map (rAt L)) r)) ∧ Below V.heap.size V w') := fun V hV => isHidden_any (h.step (bstep hBw hV hBw.size)) r hr
  have HTg := hide' (fun V => target_any r V (by omega))
  have HWi := hide' (fun V => within_any (tgB r) apex V (by unfold maxLen; omega) (by unfold maxLen; omega))
  have HJt : Hid (withinB (tgB r) apex = true → ∀ V, Below wa.heap.size wa V → Calls Tryz.prog 100 #[.pointer (some ⟨Z, 0, none⟩), .int .i64 r.t, .string (tgB r)] V fun e w' => e = .returned (.int .i64 (jtB apex (ord.map (rAt L)) r.t (tgB r))) ∧ Below V.heap.size V w') := fun hw V hV => judgeTarget_any (h.step (bstep hBw hV hBw.size)) r.t (tgB r) ((withinB_iff _ _).1 hw).1
  have HQ : Hid (∀ V, Below wa.heap.size wa V → V.cell? ⟨W.heap.size, 0, none⟩ = some (.string r.o) ∧ V.cell? ⟨W.heap.size, 1, none⟩ = some (.int .i64 r.t) ∧ V.cell? ⟨W.heap.size, 2, none⟩ = some (.int .i64 r.c) ∧ V.cell? ⟨W.heap.size, 3, none⟩ = some (.int .i64 r.l) ∧ V.cell? ⟨W.heap.size, 4, none⟩ = some (.string r.d) ∧ V.cell? ⟨Z, 0, none⟩ = some (.string apex)) := fun V hV => by
    obtain ⟨a, b, c, d, e⟩ := (K0.out.step hV).cells
    exact ⟨a, b, c, d, e, (h.step (bstep hBw hV hBw.size)).zx.cell rfl⟩
  have HE : Hid (∀ V, Below wa.heap.size wa V → Below W.heap.size W V) := fun V hV => (K0.out.step hV).bl
  obtain ⟨T, hTT⟩ : ∃ T, ord.map (rAt L) = T := ⟨_, rfl⟩
  rw [hTT] at HHi HJt ⊢
  clear hTT h hn ht1 ht2 hd ho hfo hBw hr hap htg
  have hB := Below.refl wa.heap.size wa
  obtain ⟨q0, q1, q2, q3, q4, q5⟩ := HQ.out _ hB
  have HV : Hid (judB apex T r = judV (hidB apex T r) (withinB (tgB r) apex) (jtB apex T r.t (tgB r)) (tgB r)) := rfl
  obtain ⟨hh, hhh⟩ : ∃ hh, judB apex T r = hh := ⟨_, rfl⟩
  rw [hhh] at HV ⊢
  clear hhh
  obtain ⟨Hd, hHd⟩ : ∃ H, hidB apex T r = H := ⟨_, rfl⟩
  obtain ⟨Wi, hWi⟩ : ∃ E, withinB (tgB r) apex = E := ⟨_, rfl⟩
  obtain ⟨J, hJ⟩ : ∃ J, jtB apex T r.t (tgB r) = J := ⟨_, rfl⟩
  rw [hHd] at HHi HV
  rw [hWi] at HWi HJt HV
  rw [hJ] at HJt HV
  clear hHd hWi hJ
  obtain ⟨tg, htg⟩ : ∃ tg, tgB r = tg := ⟨_, rfl⟩
  rw [htg] at HTg HWi HJt HV
  clear htg K0
  obtain ⟨o, t, c, l, d⟩ := r
  unfold rcV at HHi HTg ⊢
  simp only at HHi HTg HQ q0 q1 q2 q3 q4 hwa HJt ⊢
  cases Hd with
  | true =>
    go_enter Tryz.func61, Tryz.ntmps61
    go_wp2_with (first
      | (go_at_call 98; refine (HHi.out _ hB).mono ?_; rintro e w1 ⟨rfl, hB1⟩; have hB := bstep hB hB1 hB.size; obtain ⟨q0, q1, q2, q3, q4, q5⟩ := HQ.out _ hB; clear hB1)
      | (go_at_call 99; refine (HTg.out _).mono ?_; rintro e w2 ⟨rfl, hB1⟩; have hB := bstep hB hB1 hB.size; obtain ⟨q0, q1, q2, q3, q4, q5⟩ := HQ.out _ hB; clear hB1)
      | (go_at_call 28; refine (HWi.out _).mono ?_; rintro e w3 ⟨rfl, hB1⟩; have hB := bstep hB hB1 hB.size; obtain ⟨q0, q1, q2, q3, q4, q5⟩ := HQ.out _ hB; clear hB1)
      | (go_at_call 100; refine (HJ2.out _ hB).mono ?_; rintro e w4 ⟨rfl, hB1⟩; have hB := bstep hB hB1 hB.size; clear hB1))
    go_ret2
    exact ⟨by rw [HV.out]; simp [judV], HE.out _ hB⟩
  | false =>
    cases Wi with
    | false =>
      go_enter Tryz.func61, Tryz.ntmps61
      go_wp2_with (first
        | (go_at_call 98; refine (HHi.out _ hB).mono ?_; rintro e w1 ⟨rfl, hB1⟩; have hB := bstep hB hB1 hB.size; obtain ⟨q0, q1, q2, q3, q4, q5⟩ := HQ.out _ hB; clear hB1)
        | (go_at_call 99; refine (HTg.out _).mono ?_; rintro e w2 ⟨rfl, hB1⟩; have hB := bstep hB hB1 hB.size; obtain ⟨q0, q1, q2, q3, q4, q5⟩ := HQ.out _ hB; clear hB1)
        | (go_at_call 28; refine (HWi.out _).mono ?_; rintro e w3 ⟨rfl, hB1⟩; have hB := bstep hB hB1 hB.size; obtain ⟨q0, q1, q2, q3, q4, q5⟩ := HQ.out _ hB; clear hB1)
        | (go_at_call 100; refine (HJ2.out _ hB).mono ?_; rintro e w4 ⟨rfl, hB1⟩; have hB := bstep hB hB1 hB.size; clear hB1))
      go_ret2
      exact ⟨by rw [HV.out]; simp [judV], HE.out _ hB⟩
    | true =>
      have HJ2 := hide' (HJt.out rfl)
      clear HJt
      by_cases hj : J = 0
      · subst hj
        go_enter Tryz.func61, Tryz.ntmps61
        go_wp2_with (first
          | (go_at_call 98; refine (HHi.out _ hB).mono ?_; rintro e w1 ⟨rfl, hB1⟩; have hB := bstep hB hB1 hB.size; obtain ⟨q0, q1, q2, q3, q4, q5⟩ := HQ.out _ hB; clear hB1)
          | (go_at_call 99; refine (HTg.out _).mono ?_; rintro e w2 ⟨rfl, hB1⟩; have hB := bstep hB hB1 hB.size; obtain ⟨q0, q1, q2, q3, q4, q5⟩ := HQ.out _ hB; clear hB1)
          | (go_at_call 28; refine (HWi.out _).mono ?_; rintro e w3 ⟨rfl, hB1⟩; have hB := bstep hB hB1 hB.size; obtain ⟨q0, q1, q2, q3, q4, q5⟩ := HQ.out _ hB; clear hB1)
          | (go_at_call 100; refine (HJ2.out _ hB).mono ?_; rintro e w4 ⟨rfl, hB1⟩; have hB := bstep hB hB1 hB.size; clear hB1))
        go_ret2
        exact ⟨by rw [HV.out]; simp [judV], HE.out _ hB⟩
      · have HJ := hide' hj
        have hjb : (J != 0) = true := by simp [hj]
        clear hj
        go_enter Tryz.func61, Tryz.ntmps61
        go_wp2_with (first
          | (go_at_call 98; refine (HHi.out _ hB).mono ?_; rintro e w1 ⟨rfl, hB1⟩; have hB := bstep hB hB1 hB.size; obtain ⟨q0, q1, q2, q3, q4, q5⟩ := HQ.out _ hB; clear hB1)
          | (go_at_call 99; refine (HTg.out _).mono ?_; rintro e w2 ⟨rfl, hB1⟩; have hB := bstep hB hB1 hB.size; obtain ⟨q0, q1, q2, q3, q4, q5⟩ := HQ.out _ hB; clear hB1)
          | (go_at_call 28; refine (HWi.out _).mono ?_; rintro e w3 ⟨rfl, hB1⟩; have hB := bstep hB hB1 hB.size; obtain ⟨q0, q1, q2, q3, q4, q5⟩ := HQ.out _ hB; clear hB1)
          | (go_at_call 100; refine (HJ2.out _ hB).mono ?_; rintro e w4 ⟨rfl, hB1⟩; have hB := bstep hB hB1 hB.size; clear hB1))
        go_ret2
        exact ⟨by rw [HV.out]; simp [judV, HJ.out], HE.out _ hB⟩
end
end Go.Proofs.YthabenjghhmicaaGreat

/-
  Proofs: (*zone.Zone).Set, Lint. (The verifier's own text.)
-/
namespace Go.Proofs.YthabenjghhmicaaGreat
set_option linter.unusedVariables false
set_option linter.unusedSimpArgs false
open Go.RowKit Go.Shelf Go.Maps Go.Proofs.YthabenjghhmicaaGreat.Nm Go.Proofs.YthabenjghhmicaaGreat.Zs

/-- something unwise: its code, owner, type, target -/
structure Fn where
  c : Int
  o : ByteArray
  t : Int
  g : ByteArray
def fnV (x : Fn) : List Value := [.int .i64 x.c, .string x.o, .int .i64 x.t, .string x.g]
theorem fnV_len (x : Fn) : (fnV x).length = 4 := rfl
theorem fnV_one (x : Fn) : ∀ u ∈ fnV x, u.oneCell' = true := by intro u hu; simp [fnV] at hu; rcases hu with rfl | rfl | rfl | rfl <;> rfl
theorem infoFn : (Tryz.prog.info? 50).map (fun i => (i.zero, i.size, i.bytes)) = some (some (.agg #[.int .i64 0, .string ⟨#[]⟩, .int .i64 0, .string ⟨#[]⟩]), 4, 48) := by kernel_rfl
/-- what is unwise, one behind the other -/
def fndB (apex : ByteArray) (T : List Rn) (r : Rn) : Option Fn := if (judB apex T r).1 ≠ 0 then some ⟨(judB apex T r).1, r.o, r.t, (judB apex T r).2⟩ else none
def loneB (apex : ByteArray) (T : List Rn) : List Fn := if (stT T (foldB apex) 2).length = 1 then [⟨1, apex, 2, ⟨#[]⟩⟩] else []
def lintB (apex : ByteArray) (T : List Rn) : List Fn := loneB apex T ++ T.filterMap (fndB apex T)
/-- the findings so far -/
def lnt (A : List Fn) (P : Rn → Option Fn) (M : List Rn) (k : Nat) : List Fn := A ++ (M.take k).filterMap P
theorem lnt_zero (A : List Fn) (P : Rn → Option Fn) (M : List Rn) : lnt A P M 0 = A := by simp [lnt]
theorem lnt_skip {A : List Fn} {P : Rn → Option Fn} {M : List Rn} {k : Nat} (hk : k < M.length) (h : P M[k] = none) : lnt A P M (k + 1) = lnt A P M k := by
  unfold lnt; rw [List.take_succ_eq_append_getElem hk, List.filterMap_append]; simp [h]
theorem lnt_take {A : List Fn} {P : Rn → Option Fn} {M : List Rn} {k : Nat} {y : Fn} (hk : k < M.length) (h : P M[k] = some y) : lnt A P M (k + 1) = lnt A P M k ++ [y] := by
  unfold lnt; rw [List.take_succ_eq_append_getElem hk, List.filterMap_append]; simp [h]
theorem lnt_len {A : List Fn} {P : Rn → Option Fn} {M : List Rn} {k : Nat} (hA : A.length ≤ 1) : (lnt A P M k).length ≤ M.length + 1 := by
  unfold lnt
  have := List.length_filterMap_le P (M.take k)
  rw [List.length_take] at this
  rw [List.length_append]; omega
/-- a list of findings that grows -/
structure Gf (W wr : World) (l : List Fn) (ov : Value) : Prop where
  own : wr.ownsRow W.heap.size 50 4 ov l.length (rowV fnV l)
  bl : Below W.heap.size W wr
theorem Gf.step {W wr w2 : World} {l : List Fn} {ov : Value} (h : Gf W wr l ov) (hb : Below wr.heap.size wr w2) : Gf W w2 l ov := ⟨row_bel h.own hb (Nat.le_refl _), bstep h.bl hb h.bl.size⟩
theorem Gf.app {W wr V : World} {l : List Fn} {ov : Value} (h : Gf W wr l ov) (hV : Below wr.heap.size wr V) (y : Fn) :
    (V.alloc (.cells #[.int .i64 y.c, .string y.o, .int .i64 y.t, .string y.g] 50)).ownsRow W.heap.size 50 4 ov l.length (rowV fnV l) ∧ RowAt 4 fnV (V.alloc (.cells #[.int .i64 y.c, .string y.o, .int .i64 y.t, .string y.g] 50)) (some ⟨V.heap.size, 0, none⟩) [y] ∧ W.heap.size ≤ (V.alloc (.cells #[.int .i64 y.c, .string y.o, .int .i64 y.t, .string y.g] 50)).heap.size ∧ Below W.heap.size W (V.alloc (.cells #[.int .i64 y.c, .string y.o, .int .i64 y.t, .string y.g] 50)) := by
  have h2 := h.step (hV.alloc hV.size (.cells #[.int .i64 y.c, .string y.o, .int .i64 y.t, .string y.g] 50))
  exact ⟨h2.own, row_box fnV_len (World.alloc_heap_new V _), h2.bl.size, h2.bl⟩
theorem Gf.of {W w9 : World} {l : List Fn} {y : Fn} {p9 : Option Addr} {n9 c9 : Nat} {v : Value} (ho : w9.ownsRow W.heap.size 50 4 v (l.length + [y].length) (rowV fnV l ++ rowV fnV [y])) (hb : Below W.heap.size W w9) : Gf W w9 (l ++ [y]) v := ⟨by rw [List.length_append, rowV_app]; exact ho, hb⟩
section
variable {n : Nat} {W : World} {apex : ByteArray} {L : List Rn} {ord : List Nat} {Z RW NM C m cnt : Nat} {p : Option Addr} {cp : Nat} {f : ByteArray → Option Nat}
set_option maxRecDepth 100000 in
set_option maxHeartbeats 2000000 in
/-- (*zone.Zone).Set, of a type -/
theorem setZ_any (h : Zon n W apex L ord Z RW NM C m cnt p cp f) (o : ByteArray) (t : Int) (ho : o.size ≤ 1048576) (ht0 : t ≠ 0) (hw : (Lit.int .i64 t).wf = true) :
    Calls Tryz.prog 21 #[.pointer (some ⟨Z, 0, none⟩), .string o, .int .i64 t] W fun r w' => (∃ v, r = .returned v ∧ w'.ownsRow W.heap.size 54 5 v (stT (ord.map (rAt L)) (foldB o) t).length (rce5 (stT (ord.map (rAt L)) (foldB o) t))) ∧ Below W.heap.size W w' := by
  have hfo : (foldB o).size ≤ maxLen := by
    cases hn : isN o with
    | true => rw [foldB_yes hn, lowB_size]; unfold maxLen; omega
    | false => rw [foldB_no hn]; unfold maxLen; decide
  have HFo := hide' (fun V => fold_any o V (by unfold maxLen; omega))
  have HAt : Hid (∀ V, Below W.heap.size W V → Calls Tryz.prog 47 #[.pointer (some ⟨Z, 0, none⟩), .string (foldB o), .int .i64 t] V fun r w' => (∃ v, r = .returned v ∧ w'.ownsRow V.heap.size 54 5 v (stT (ord.map (rAt L)) (foldB o) t).length (rce5 (stT (ord.map (rAt L)) (foldB o) t))) ∧ Below V.heap.size V w') := fun V hV => atZ_any (h.step hV) (foldB o) t ⟨hfo, hw⟩
  have htb : (t == 0) = false := by simp [ht0]
  obtain ⟨X, hX⟩ : ∃ X, stT (ord.map (rAt L)) (foldB o) t = X := ⟨_, rfl⟩
  rw [hX] at HAt ⊢
  clear hX h hfo ht0 hw
  have hB := Below.refl W.heap.size W
  go_enter Tryz.func21, Tryz.ntmps21
  go_wp2_with (first
    | (go_at_call 44; refine (HFo.out _).mono ?_; rintro e w1 ⟨rfl, hB1⟩; have hB := bstep hB hB1 hB.size; clear hB1)
    | (go_at_call 47; refine (HAt.out _ hB).mono ?_; rintro e w2 ⟨⟨v, rfl, ho2⟩, hB1⟩; have HO2 := hide' (own_baseZ ho2 hB.size); have hB := bstep hB hB1 hB.size; clear hB1 ho2))
  go_ret
  exact ⟨⟨v, rfl, HO2.out⟩, hB⟩

set_option maxRecDepth 100000 in
set_option maxHeartbeats 4000000 in
/-- (*zone.Zone).Lint -/
theorem lint_any (h : Zon n W apex L ord Z RW NM C m cnt p cp f) :
    Calls Tryz.prog 23 #[.pointer (some ⟨Z, 0, none⟩)] W fun r w' => ∃ ov, r = .returned ov ∧ Gf W w' (lintB apex (ord.map (rAt L))) ov := by
  have hap := ((isN_iff _).1 h.laid.na).1
  have HSe := hide' (setZ_any h apex 2 (by omega) (by omega) (by decide))
  have hTl := h.laid.tlen
  have hfew := h.few
  obtain ⟨T, hTT⟩ : ∃ T, ord.map (rAt L) = T := ⟨_, rfl⟩
  have HRs : Hid (RsAt W p T) := hTT ▸ rsAt_ownZ h.own hTl.symm
  have HOk : Hid (∀ k (hk : k < T.length), zonR T[k] = true) := fun k hk => h.laid.tok _ (hTT ▸ List.getElem_mem hk)
  have HJu : Hid (∀ r V, zonR r = true → Below W.heap.size W V → Calls Tryz.prog 61 #[.pointer (some ⟨Z, 0, none⟩), rcV r] V fun e w' => e = .returned (.tuple #[.int .i64 (judB apex T r).1, .string (judB apex T r).2]) ∧ Below V.heap.size V w') := fun r V hr hV => by
    have := judge_any (h.step hV) r hr
    rw [hTT] at this
    exact this
  have HZ : Hid (∀ V, Below W.heap.size W V → V.cell? ⟨Z, 0, none⟩ = some (.string apex) ∧ V.cell? ⟨Z, 1, none⟩ = some (.slice p L.length cp)) := fun V hV => ⟨(h.step hV).zx.cell rfl, (h.step hV).zx.cell rfl⟩
  rw [hTT] at HSe hTl ⊢
  clear hTT h
  have hB := Below.refl W.heap.size W
  obtain ⟨z0, z1⟩ := HZ.out _ hB
  have HLB : Hid (lintB apex T = lnt (loneB apex T) (fndB apex T) T T.length) := by unfold Hid lintB lnt; rw [List.take_length]
  rw [HLB.out]
  clear HLB
  have HLo : Hid (loneB apex T = if (stT T (foldB apex) 2).length = 1 then [⟨1, apex, 2, ⟨#[]⟩⟩] else []) := rfl
  obtain ⟨X, hX⟩ : ∃ X, stT T (foldB apex) 2 = X := ⟨_, rfl⟩
  rw [hX] at HSe HLo
  clear hX
  rw [← hTl] at z1
  by_cases h1 : X.length = 1
  · have HA : Hid (loneB apex T = [⟨1, apex, 2, ⟨#[]⟩⟩]) := by unfold Hid; rw [HLo.out, if_pos h1]
    have h1b : ((X.length : Int) == 1) = true := by simp; omega
    have HAP : Hid (∀ V, Below W.heap.size W V → _) := fun V hV => (Gf.mk (row_nil W _ _ _) (Below.refl _ W) : Gf W W [] _).app hV ⟨1, apex, 2, ⟨#[]⟩⟩
    have HLn : Hid (([] : List Fn).length ≤ 1) := Nat.zero_le _
    clear h1 HLo
    go_enter Tryz.func23, Tryz.ntmps23
    go_wp2_with (first
      | (go_at_call 21; refine HSe.out.mono ?_; rintro e w1 ⟨⟨v, rfl, ho2⟩, hB1⟩; obtain ⟨p1, c1, rfl, _, _, _⟩ := own_shape ho2; have hB := bstep hB hB1 hB.size; obtain ⟨z0, z1⟩ := HZ.out _ hB; clear hB1 ho2)
      | (at_builtin; refine wpList_append_rows (V := fnV) Tryz.underlying47 infoFn rfl (by decide) (by decide) fnV_len fnV_one rfl _ _ rfl W.heap.size _ _ _ rfl (HAP.out _ hB).1 (some ⟨_, 0, none⟩) [⟨1, apex, 2, ⟨#[]⟩⟩] 1 rfl (HAP.out _ hB).2.1 (fun e => by cases e) (by have := HLn.out; simp <;> omega) (HAP.out _ hB).2.2.1 ?_; intro v9 w9 ho9 hg9; obtain ⟨p9, c9, rfl, _, _, _⟩ := own_shape ho9; have HO9 := hide' ho9; have HB9 := hide' ((HAP.out _ hB).2.2.2.grown hg9 (HAP.out _ hB).2.2.1 (fun j e => (HAP.out _ hB).1.lt j e |>.1)); clear ho9 hg9; obtain ⟨z0, z1⟩ := HZ.out _ HB9.out; rw [← hTl] at z1))
    have HGf : Hid (Gf W w9 (lnt (loneB apex T) (fndB apex T) T 0) (.slice p9 1 c9)) := by
      unfold Hid
      rw [lnt_zero, HA.out]
      exact ⟨HO9.out, HB9.out⟩
    clear HA
    go_loopw [3, 29] (fun ov kv wv => ∃ k : Nat, kv = .int .i64 (k : Int) ∧ k ≤ T.length ∧ Hid (Gf W wv (lnt (loneB apex T) (fndB apex T) T k) ov)) (fun _ kv _ => T.length - (intOf kv).toNat)
    case atStart => exact ⟨0, rfl, Nat.zero_le _, HGf⟩
    case round =>
      obtain ⟨k, rfl, hk, HG⟩ := hrel
      by_cases hlt : k < T.length
      · have pk : (k : Int) < (T.length : Int) := by omega
        obtain ⟨g, off, hp, hg, y0, y1, y2, y3, y4⟩ := (rs_stay HRs.out HG.out.bl) k hlt
        subst hp
        have HJ := hide' (fun V hV => HJu.out T[k] V (HOk.out k hlt) hV)
        have HSk := hide' (fun h => lnt_skip (A := loneB apex T) (P := fndB apex T) hlt h)
        have HTk := hide' (fun y h => lnt_take (A := loneB apex T) (P := fndB apex T) (y := y) hlt h)
        have HLn : Hid ((lnt (loneB apex T) (fndB apex T) T k).length ≤ 2001) := by
          have := lnt_len (A := loneB apex T) (P := fndB apex T) (M := T) (k := k) (by unfold loneB; split <;> simp)
          unfold Hid; omega
        obtain ⟨l, hl⟩ : ∃ l, lnt (loneB apex T) (fndB apex T) T k = l := ⟨_, rfl⟩
        rw [hl] at HG HSk HTk HLn
        clear hl
        have K0 := hide' (Bk.start wr T[k])
        have HF : Hid (fndB apex T T[k] = if (judB apex T T[k]).1 ≠ 0 then some ⟨(judB apex T T[k]).1, T[k].o, T[k].t, (judB apex T T[k]).2⟩ else none) := rfl
        obtain ⟨⟨J, G⟩, hJ⟩ : ∃ J, judB apex T T[k] = J := ⟨_, rfl⟩
        rw [hJ] at HJ HF
        clear hJ
        obtain ⟨x, hx⟩ : ∃ x, T[k] = x := ⟨_, rfl⟩
        rw [hx] at y0 y1 y2 y3 y4 HJ HF HSk HTk K0
        clear hx
        obtain ⟨wa, hwa⟩ : ∃ wa, wr.alloc (.cells #[.string x.o, .int .i64 x.t, .int .i64 x.c, .int .i64 x.l, .string x.d] 54) = wa := ⟨_, rfl⟩
        rw [hwa] at K0
        have hGa := HG.out.step (hwa ▸ (Below.refl _ wr).alloc (Nat.le_refl _) _)
        have HGa := hide' hGa
        clear hGa
        obtain ⟨q0, q1, q2, q3, q4⟩ := K0.out.cells
        have HQ : Hid (∀ V, Below wa.heap.size wa V → V.cell? ⟨wr.heap.size, 0, none⟩ = some (.string x.o) ∧ V.cell? ⟨wr.heap.size, 1, none⟩ = some (.int .i64 x.t)) := fun V hV => ⟨(K0.out.step hV).cells.1, (K0.out.step hV).cells.2.1⟩
        obtain ⟨o, t, c, l', d⟩ := x
        unfold rcV at HJ
        simp only at y0 y1 y2 y3 y4 q0 q1 q2 q3 q4 HJ HF HQ hwa
        have hB := Below.refl wa.heap.size wa
        have HJ2 : Hid (∀ V, Below wa.heap.size wa V → _) := fun V hV => HJ.out V (bstep HGa.out.bl hV HGa.out.bl.size)
        by_cases hj : J = 0
        · subst hj
          have HN : Hid (lnt (loneB apex T) (fndB apex T) T (k + 1) = l) := HSk.out (by rw [HF.out]; simp)
          go_wp2_with (go_at_call 61; refine (HJ2.out _ hB).mono ?_; rintro e w2 ⟨rfl, hB1⟩; have hB := bstep hB hB1 hB.size; clear hB1)
          exact ⟨⟨k + 1, by go_num, by omega, (show Gf _ _ _ _ by rw [HN.out]; exact HGa.out.step hB)⟩, by simp [intOf] <;> omega⟩
        · have hjb : (J != 0) = true := by simp [hj]
          have HN : Hid (lnt (loneB apex T) (fndB apex T) T (k + 1) = l ++ [⟨J, o, t, G⟩]) := HTk.out _ (by rw [HF.out, if_pos hj])
          have HAP : Hid (∀ V, Below wa.heap.size wa V → _) := fun V hV => HGa.out.app hV ⟨J, o, t, G⟩
          clear hj
          go_wp2_with (first
            | (go_at_call 61; refine (HJ2.out _ hB).mono ?_; rintro e w2 ⟨rfl, hB1⟩; have hB := bstep hB hB1 hB.size; obtain ⟨q0, q1⟩ := HQ.out _ hB; clear hB1)
            | (at_builtin; refine wpList_append_rows (V := fnV) Tryz.underlying47 infoFn rfl (by decide) (by decide) fnV_len fnV_one rfl _ _ rfl W.heap.size _ _ _ rfl (HAP.out _ hB).1 (some ⟨_, 0, none⟩) [⟨J, o, t, G⟩] 1 rfl (HAP.out _ hB).2.1 (fun e => by cases e) (by have := HLn.out; simp <;> omega) (HAP.out _ hB).2.2.1 ?_; intro v9 w9 ho9 hg9; obtain ⟨p9, c9, rfl, _, _, _⟩ := own_shape ho9; have HO9 := hide' ho9; have HB9 := hide' ((HAP.out _ hB).2.2.2.grown hg9 (HAP.out _ hB).2.2.1 (fun j e => (HAP.out _ hB).1.lt j e |>.1)); clear ho9 hg9))
          exact ⟨⟨k + 1, by go_num, by omega, (show Gf _ _ _ _ by rw [HN.out]; exact Gf.of (p9 := p9) (n9 := 0) (c9 := c9) HO9.out HB9.out)⟩, by simp [intOf] <;> omega⟩
      · obtain rfl : k = T.length := by omega
        go_wp2_with fail
        go_ret
        exact ⟨_, rfl, HG.out⟩
  · have HA : Hid (loneB apex T = []) := by unfold Hid; rw [HLo.out, if_neg h1]
    have h1b : ((X.length : Int) == 1) = false := by simp; omega
    clear h1 HLo
    go_enter Tryz.func23, Tryz.ntmps23
    go_wp2_with (go_at_call 21; refine HSe.out.mono ?_; rintro e w9 ⟨⟨v, rfl, ho2⟩, hB1⟩; obtain ⟨p1, c1, rfl, _, _, _⟩ := own_shape ho2; have hB := bstep hB hB1 hB.size; obtain ⟨z0, z1⟩ := HZ.out _ hB; rw [← hTl] at z1; clear hB1 ho2)
    have HGf : Hid (Gf W w9 (lnt (loneB apex T) (fndB apex T) T 0) (.slice none 0 0)) := by
      unfold Hid
      rw [lnt_zero, HA.out]
      exact ⟨row_nil _ _ _ _, hB⟩
    clear HA
    go_loopw [3, 29] (fun ov kv wv => ∃ k : Nat, kv = .int .i64 (k : Int) ∧ k ≤ T.length ∧ Hid (Gf W wv (lnt (loneB apex T) (fndB apex T) T k) ov)) (fun _ kv _ => T.length - (intOf kv).toNat)
    case atStart => exact ⟨0, rfl, Nat.zero_le _, HGf⟩
    case round =>
      obtain ⟨k, rfl, hk, HG⟩ := hrel
      by_cases hlt : k < T.length
      · have pk : (k : Int) < (T.length : Int) := by omega
        obtain ⟨g, off, hp, hg, y0, y1, y2, y3, y4⟩ := (rs_stay HRs.out HG.out.bl) k hlt
        subst hp
        have HJ := hide' (fun V hV => HJu.out T[k] V (HOk.out k hlt) hV)
        have HSk := hide' (fun h => lnt_skip (A := loneB apex T) (P := fndB apex T) hlt h)
        have HTk := hide' (fun y h => lnt_take (A := loneB apex T) (P := fndB apex T) (y := y) hlt h)
        have HLn : Hid ((lnt (loneB apex T) (fndB apex T) T k).length ≤ 2001) := by
          have := lnt_len (A := loneB apex T) (P := fndB apex T) (M := T) (k := k) (by unfold loneB; split <;> simp)
          unfold Hid; omega
        obtain ⟨l, hl⟩ : ∃ l, lnt (loneB apex T) (fndB apex T) T k = l := ⟨_, rfl⟩
        rw [hl] at HG HSk HTk HLn
        clear hl
        have K0 := hide' (Bk.start wr T[k])
        have HF : Hid (fndB apex T T[k] = if (judB apex T T[k]).1 ≠ 0 then some ⟨(judB apex T T[k]).1, T[k].o, T[k].t, (judB apex T T[k]).2⟩ else none) := rfl
        obtain ⟨⟨J, G⟩, hJ⟩ : ∃ J, judB apex T T[k] = J := ⟨_, rfl⟩
        rw [hJ] at HJ HF
        clear hJ
        obtain ⟨x, hx⟩ : ∃ x, T[k] = x := ⟨_, rfl⟩
        rw [hx] at y0 y1 y2 y3 y4 HJ HF HSk HTk K0
        clear hx
        obtain ⟨wa, hwa⟩ : ∃ wa, wr.alloc (.cells #[.string x.o, .int .i64 x.t, .int .i64 x.c, .int .i64 x.l, .string x.d] 54) = wa := ⟨_, rfl⟩
        rw [hwa] at K0
        have hGa := HG.out.step (hwa ▸ (Below.refl _ wr).alloc (Nat.le_refl _) _)
        have HGa := hide' hGa
        clear hGa
        obtain ⟨q0, q1, q2, q3, q4⟩ := K0.out.cells
        have HQ : Hid (∀ V, Below wa.heap.size wa V → V.cell? ⟨wr.heap.size, 0, none⟩ = some (.string x.o) ∧ V.cell? ⟨wr.heap.size, 1, none⟩ = some (.int .i64 x.t)) := fun V hV => ⟨(K0.out.step hV).cells.1, (K0.out.step hV).cells.2.1⟩
        obtain ⟨o, t, c, l', d⟩ := x
        unfold rcV at HJ
        simp only at y0 y1 y2 y3 y4 q0 q1 q2 q3 q4 HJ HF HQ hwa
        have hB := Below.refl wa.heap.size wa
        have HJ2 : Hid (∀ V, Below wa.heap.size wa V → _) := fun V hV => HJ.out V (bstep HGa.out.bl hV HGa.out.bl.size)
        by_cases hj : J = 0
        · subst hj
          have HN : Hid (lnt (loneB apex T) (fndB apex T) T (k + 1) = l) := HSk.out (by rw [HF.out]; simp)
          go_wp2_with (go_at_call 61; refine (HJ2.out _ hB).mono ?_; rintro e w2 ⟨rfl, hB1⟩; have hB := bstep hB hB1 hB.size; clear hB1)
          exact ⟨⟨k + 1, by go_num, by omega, (show Gf _ _ _ _ by rw [HN.out]; exact HGa.out.step hB)⟩, by simp [intOf] <;> omega⟩
        · have hjb : (J != 0) = true := by simp [hj]
          have HN : Hid (lnt (loneB apex T) (fndB apex T) T (k + 1) = l ++ [⟨J, o, t, G⟩]) := HTk.out _ (by rw [HF.out, if_pos hj])
          have HAP : Hid (∀ V, Below wa.heap.size wa V → _) := fun V hV => HGa.out.app hV ⟨J, o, t, G⟩
          clear hj
          go_wp2_with (first
            | (go_at_call 61; refine (HJ2.out _ hB).mono ?_; rintro e w2 ⟨rfl, hB1⟩; have hB := bstep hB hB1 hB.size; obtain ⟨q0, q1⟩ := HQ.out _ hB; clear hB1)
            | (at_builtin; refine wpList_append_rows (V := fnV) Tryz.underlying47 infoFn rfl (by decide) (by decide) fnV_len fnV_one rfl _ _ rfl W.heap.size _ _ _ rfl (HAP.out _ hB).1 (some ⟨_, 0, none⟩) [⟨J, o, t, G⟩] 1 rfl (HAP.out _ hB).2.1 (fun e => by cases e) (by have := HLn.out; simp <;> omega) (HAP.out _ hB).2.2.1 ?_; intro v9 w9 ho9 hg9; obtain ⟨p9, c9, rfl, _, _, _⟩ := own_shape ho9; have HO9 := hide' ho9; have HB9 := hide' ((HAP.out _ hB).2.2.2.grown hg9 (HAP.out _ hB).2.2.1 (fun j e => (HAP.out _ hB).1.lt j e |>.1)); clear ho9 hg9))
          exact ⟨⟨k + 1, by go_num, by omega, (show Gf _ _ _ _ by rw [HN.out]; exact Gf.of (p9 := p9) (n9 := 0) (c9 := c9) HO9.out HB9.out)⟩, by simp [intOf] <;> omega⟩
      · obtain rfl : k = T.length := by omega
        go_wp2_with fail
        go_ret
        exact ⟨_, rfl, HG.out⟩
end
end Go.Proofs.YthabenjghhmicaaGreat
