import Derived.Test.YtoabnpdoicbpiaaGreatZp2G
import Derived.Test.YtoabnpdoicbpiaaGreatZr1G
namespace Go.Proofs.YtoabnpdoicbpiaaGreat
set_option linter.unusedVariables false
set_option linter.unusedSimpArgs false
open Go.RowKit Go.Shelf Go.Maps Go.Proofs.YtoabnpdoicbpiaaGreat.Nm Go.Proofs.YtoabnpdoicbpiaaGreat.Zs
theorem eq_dec {a b : ByteArray} (ha : isN a = true) : eqB a b = decide (foldB a = foldB b) := by
 unfold eqB; rw [ha, Bool.true_and, toList_bt]
theorem labs_fold {a : ByteArray} (ha : isN a = true) : (labs (foldB a)).map lowB = (labs a).map lowB := by
 rw [(zisN_fold ha).2, List.map_map]
 exact List.map_congr_left fun x _ => zlow_low x
theorem zwithin_fold {a b : ByteArray} (ha : isN a = true) (hb : isN b = true) : withinB a (foldB b) = withinB a b := by
 have h : withinB a (foldB b) = true ↔ withinB a b = true := by
  rw [withinB_pre ha (zisN_fold hb).1, withinB_pre ha hb, labs_fold hb]
 cases h1 : withinB a (foldB b) <;> cases h2 : withinB a b <;> simp_all
theorem cmp_fold {a b : ByteArray} (ha : isN a = true) (hb : isN b = true) : cmpB (foldB a) (foldB b) = cmpB a b := by
 rw [cmpB_yes (zisN_fold ha).1 (zisN_fold hb).1, cmpB_yes ha hb, labs_fold ha, labs_fold hb]
theorem good_sen {r : Rn} (h : zonR r = true) : goodS (senS r) := by
 obtain ⟨h1, _⟩ := ok_facts h
 exact ⟨(zisN_fold h1).1, foldB_twice h1⟩
theorem alike_sen {a b : Rn} (ha : zonR a = true) : alikeB a b = decide (senS a = senS b) := by
 unfold alikeB senS
 rw [eq_dec (ok_facts ha).1]
 by_cases h1 : a.t = b.t
 ·by_cases h2 : foldB a.o = foldB b.o
  ·by_cases h3 : foldD a.t a.d = foldD b.t b.d
   ·simp [h1, h2, h3]
   ·simp [h1, h2, h3]
  ·simp [h1, h2]
 ·simp [h1]
theorem bef_sen {a b : Rn} (ha : zonR a = true) (hb : zonR b = true) : befB a b = decide (cmpS (senS a) (senS b) < 0) := by
 have h1 := (ok_facts ha).1
 have h2 := (ok_facts hb).1
 have g1 := good_sen ha
 have g2 := good_sen hb
 unfold befB cmpS
 have hc : cmpB (senS a).1 (senS b).1 = cmpB a.o b.o := cmp_fold h1 h2
 by_cases e : cmpB a.o b.o = 0
 ·have he : (senS a).1 = (senS b).1 := cmp_zero g1.1 g2.1 g1.2 g2.2 (hc.trans e)
  rw [if_neg (show ¬ (cmpB a.o b.o ≠ 0) from by simp [e]), if_neg (show ¬ ((senS a).1 ≠ (senS b).1) from by simp [he])]
  show (if a.t ≠ b.t then _ else _) = decide ((if sgnI a.t b.t ≠ 0 then sgnI a.t b.t else _) < 0)
  by_cases t : a.t = b.t
  ·rw [if_neg (by simp [t]), if_neg (by unfold sgnI; simp [t])]
   rfl
  ·rw [if_pos t]
   unfold sgnI
   by_cases l : a.t < b.t
   ·simp [l]
   ·have : b.t < a.t := by omega
    simp [l, this]
 ·have he : ¬ (senS a).1 = (senS b).1 := fun h => by
   rw [h] at hc
   have := cmp_anti g2.1 g2.1
   omega
  rw [if_pos e, if_pos he, hc]
theorem first_idx {α : Type} (S : List α) (q : α → Bool) {k : Nat} (hk : k < S.length) (hq : q S[k] = true) : ∃ y, S.findIdx? q = some y ∧ y ≤ k ∧ (∃ h : y < S.length, q S[y] = true) ∧ ∀ j, (h : j < S.length) → j < y → q S[j] = false := by
 cases h : S.findIdx? q with
 | none =>
  rw [List.findIdx?_eq_none_iff] at h
  have := h _ (List.getElem_mem hk)
  rw [hq] at this
  cases this
 | some y =>
  obtain ⟨h1, h2, h3⟩ := List.findIdx?_eq_some_iff_getElem.1 h
  refine ⟨y, rfl, ?_, ⟨h1, h2⟩, fun j hj hjy => ?_⟩
  ·rcases Nat.lt_or_ge k y with h4 | h4
   ·have := h3 k h4
    rw [hq] at this
    simp at this
   ·exact h4
  ·have := h3 j hjy
   simpa using this
theorem fstI_eq {P Q : Nat → Bool} {n : Nat} (h1 : ∀ k, k < n → P k = true → Q k = true) (h2 : ∀ k, k < n → Q k = true → (∀ j, j < k → Q j = false) → P k = true) : fstI P n = fstI Q n := by
 cases hf : (List.range n).find? Q with
 | none =>
  rw [List.find?_eq_none] at hf
  have hq : ∀ j, j < n → Q j = false := fun j hj => by
   have := hf j (List.mem_range.2 hj)
   simpa using this
  rw [fstI_none hq, fstI_none fun j hj => ?_]
  cases hp : P j with
  | false => rfl
  | true => rw [← h1 j hj hp]; exact (hq j hj)
 | some k =>
  rw [List.find?_range_eq_some] at hf
  obtain ⟨a1, a2, a3⟩ := hf
  have hk : k < n := by simpa using a2
  have hb : ∀ j, j < k → Q j = false := fun j hj => by have := a3 j hj; simpa using this
  rw [fstI_some hk a1 hb, fstI_some hk (h2 k hk a1 hb) fun j hj => ?_]
  cases hp : P j with
  | false => rfl
  | true => rw [← h1 j (by omega) hp]; exact hb j hj
theorem fstI_same {P Q : Nat → Bool} {n : Nat} (h : ∀ k, k < n → P k = Q k) : fstI P n = fstI Q n := fstI_eq (fun k hk hp => by rw [← h k hk]; exact hp) (fun k hk hq _ => by rw [h k hk]; exact hq)
structure Laid (apex : ByteArray) (L : List Rn) (ord : List Nat) : Prop where
 ok : okL L
 na : isN apex = true
 wi : ∀ r ∈ L, withinB r.o apex = true
 pm : ord.Perm (List.range L.length)
 so : So (ltS (L.map senS)) ord 0 L.length
section
variable {apex : ByteArray} {L : List Rn} {ord : List Nat}
theorem rAt_mem {i : Nat} (h : i < L.length) : rAt L i ∈ L := by rw [← rAt_get h]; exact List.getElem_mem h
theorem seAt_map {M : List Rn} {i : Nat} (h : i < M.length) : seAt (M.map senS) i = senS (rAt M i) := by
 rw [← seAt_get (by simpa using h), ← rAt_get h, List.getElem_map]
theorem Laid.len (H : Laid apex L ord) : ord.length = L.length := by rw [H.pm.length_eq, List.length_range]
theorem Laid.lt (H : Laid apex L ord) {i : Nat} (h : i ∈ ord) : i < L.length := List.mem_range.1 (H.pm.mem_iff.1 h)
theorem Laid.perm (H : Laid apex L ord) : (ord.map (rAt L)).Perm L := by
 have h := H.pm.map (rAt L)
 have e : (List.range L.length).map (rAt L) = L := by
  apply List.ext_getElem
  ·simp
  ·intro i h1 h2
   rw [List.getElem_map, List.getElem_range, ← rAt_get h2]
 rw [e] at h
 exact h
theorem Laid.tlen (H : Laid apex L ord) : (ord.map (rAt L)).length = L.length := by rw [List.length_map, H.len]
theorem Laid.sens (H : Laid apex L ord) : ord.map (seAt (L.map senS)) = (ord.map (rAt L)).map senS := by
 rw [List.map_map]
 exact List.map_congr_left fun i hi => seAt_map (H.lt hi)
theorem Laid.tok (H : Laid apex L ord) : okL (ord.map (rAt L)) := fun r hr => H.ok r (H.perm.mem_iff.1 hr)
theorem Laid.us (H : Laid apex L ord) : Us (ord.map (seAt (L.map senS))) := by
 have hl : (ord.map (seAt (L.map senS))).length = L.length := by rw [List.length_map, H.len]
 have hz : ∀ i, i < L.length → ∃ j, j < L.length ∧ seAt (ord.map (seAt (L.map senS))) i = seAt (L.map senS) j ∧ ix ord i = j := fun i hi => by
  have hio : i < ord.length := by rw [H.len]; exact hi
  refine ⟨ord[i], H.lt (List.getElem_mem hio), ?_, ?_⟩
  ·rw [← seAt_get (by rw [hl]; exact hi), List.getElem_map]
  ·simp [ix, List.getD, hio]
 refine ⟨fun i hi => ?_, fun i hi => ?_, fun i j hij hj => ?_⟩
 ·rw [hl] at hi
  obtain ⟨j, hj, he, _⟩ := hz i hi
  rw [he, seAt_map hj]
  exact good_sen (H.ok _ (rAt_mem hj))
 ·rw [hl] at hi
  obtain ⟨j, hj, he, _⟩ := hz i hi
  rw [he, seAt_map hj]
  exact (ok_facts (H.ok _ (rAt_mem hj))).2.2.2.2.2.1
 ·rw [hl] at hj
  obtain ⟨a, ha, hae, hai⟩ := hz i (by omega)
  obtain ⟨b, hb, hbe, hbi⟩ := hz j hj
  have h := H.so i j (Nat.zero_le _) hij hj
  rw [hai, hbi] at h
  unfold ltS at h
  rw [if_pos ⟨by simpa using hb, by simpa using ha⟩] at h
  have h2 := of_decide_eq_false h
  rw [hae, hbe]
  have g1 := good_sen (H.ok _ (rAt_mem ha))
  have g2 := good_sen (H.ok _ (rAt_mem hb))
  rw [← seAt_map ha] at g1
  rw [← seAt_map hb] at g2
  have h3 := cmpS_anti g1 g2
  omega
theorem Laid.row (H : Laid apex L ord) (p : Pl) : rowT (ord.map (rAt L)) ((rowsF (ord.map (seAt (L.map senS))) L.length p).getD (0, 0)) = (ord.map (rAt L)).filter (fun r => mtc p (senS r)) := by
 have hU := H.us
 have hl : (ord.map (seAt (L.map senS))).length = L.length := by rw [List.length_map, H.len]
 have hr := row_all hU p
 rw [hl] at hr
 rw [H.sens] at hr hU hl ⊢
 have hT := H.tlen
 generalize ord.map (rAt L) = T at *
 have hm : ∀ i, (h : i < T.length) → seAt (T.map senS) i = senS T[i] := fun i h => by rw [seAt_map h, ← rAt_get h]
 unfold rowT
 cases he : rowsF (T.map senS) L.length p with
 | none =>
  rw [he] at hr
  rw [Option.getD_none, List.take_zero, List.drop_nil, eq_comm, List.filter_eq_nil_iff]
  intro x hx
  obtain ⟨i, hi, rfl⟩ := List.getElem_of_mem hx
  rw [← hm i hi, hr i (by omega)]
  simp
 | some y =>
  obtain ⟨a, b⟩ := y
  rw [he] at hr
  obtain ⟨h1, h2, h3, h4, h5, h6⟩ := hr
  rw [Option.getD_some]
  refine filter_mid T _ (by omega) (by omega) (fun i hi hia => ?_) (fun i hi hia hib => ?_) (fun i hi hib => ?_)
  ·rw [← hm i hi]; exact h5 i hia
  ·rw [← hm i hi]; exact hU.mid hia (show i ≤ b - 1 by omega) (by rw [hl]; omega) h3 h4
  ·rw [← hm i hi]; exact h6 i hib (by omega)
theorem Laid.sen (H : Laid apex L ord) {k : Nat} (hk : k < L.length) : seAt (L.map senS) k = senS (rAt L k) := seAt_map hk
theorem Laid.isn (H : Laid apex L ord) {k : Nat} (hk : k < L.length) : isN (rAt L k).o = true := (ok_facts (H.ok _ (rAt_mem hk))).1
theorem Laid.twice (H : Laid apex L ord) {k : Nat} (hk : k < L.length) : twiceB (L.map senS) L.length k = brk4 L k (rAt L k) := by
 have hkS : k < (L.map senS).length := by simpa using hk
 obtain ⟨y, h1, h2, ⟨h3, h4⟩, h5⟩ := first_idx (L.map senS) (fun s => decide (s = seAt (L.map senS) k)) hkS (by rw [seAt_get hkS]; simp)
 have hy : y < L.length := by omega
 unfold twiceB likesF
 rw [List.take_of_length_le (by simp), h1, Option.getD_some]
 unfold brk4
 have ha : ∀ j, j < L.length → alikeB (rAt L j) (rAt L k) = decide (seAt (L.map senS) j = seAt (L.map senS) k) := fun j hj => by
  rw [alike_sen (H.ok _ (rAt_mem hj)), seAt_map hj, seAt_map hk]
 by_cases e : y = k
 ·rw [decide_eq_false (by simp [e]), eq_comm]
  refine any_not fun j hj => ?_
  have := h5 j (by simp; omega) (by omega)
  rw [ha j (by omega), ← seAt_get (by simp; omega)]
  exact this
 ·rw [decide_eq_true e, eq_comm]
  refine any_hit (j := y) (by omega) ?_
  rw [ha y hy, ← seAt_get h3]
  exact h4
theorem Laid.stray (H : Laid apex L ord) : fstI (fun k => strayB (L.map senS) L.length (foldB apex) (rAt L k) k) L.length = fstI (fun k => brk5 apex L k (rAt L k)) L.length := by
 have key : ∀ k, k < L.length → ∃ y, (firstF (L.map senS) L.length (plOf (seAt (L.map senS) k))).getD 0 = y ∧ y ≤ k ∧ plOf (senS (rAt L y)) = plOf (senS (rAt L k)) ∧ ∀ j, j < y → ¬ plOf (senS (rAt L j)) = plOf (senS (rAt L k)) := fun k hk => by
  have hkS : k < (L.map senS).length := by simpa using hk
  obtain ⟨y, h1, h2, ⟨h3, h4⟩, h5⟩ := first_idx (L.map senS) (fun s => decide (plOf s = plOf (seAt (L.map senS) k))) hkS (by rw [seAt_get hkS]; simp)
  refine ⟨y, ?_, h2, ?_, fun j hj => ?_⟩
  ·unfold firstF
   rw [List.take_of_length_le (by simp), h1, Option.getD_some]
  ·have := of_decide_eq_true h4
   rw [seAt_get h3, seAt_map (by omega), seAt_map hk] at this
   exact this
  ·have hjS : j < (L.map senS).length := by simp; omega
   have := of_decide_eq_false (h5 j hjS hj)
   rw [seAt_get hjS, seAt_map (by omega), seAt_map hk] at this
   exact this
 have eqa : ∀ k, k < L.length → eqB (rAt L k).o apex = decide ((seAt (L.map senS) k).1 = foldB apex) := fun k hk => by
  rw [eq_dec (H.isn hk), seAt_map hk]; rfl
 refine fstI_eq (fun k hk hp => ?_) (fun k hk hq hb => ?_)
 ·unfold strayB at hp
  unfold brk5
  rw [Bool.and_eq_true, Bool.or_eq_true] at hp ⊢
  obtain ⟨p1, p2⟩ := hp
  refine ⟨p1, ?_⟩
  rcases p2 with p2 | p2
  ·right
   rw [eqa k hk, decide_eq_false (of_decide_eq_true p2)]
   rfl
  ·obtain ⟨y, e1, e2, e3, e4⟩ := key k hk
   rw [e1] at p2
   have hne := of_decide_eq_true p2
   left
   refine any_hit (j := y) (by omega) (decide_eq_true ?_)
   have := congrArg Prod.snd e3
   simp only [plOf, senS] at this
   rw [this]
   exact of_decide_eq_true p1
 ·unfold brk5 at hq
  unfold strayB
  rw [Bool.and_eq_true, Bool.or_eq_true] at hq ⊢
  obtain ⟨q1, q2⟩ := hq
  refine ⟨q1, ?_⟩
  by_cases ho : (seAt (L.map senS) k).1 = foldB apex
  ·right
   rcases q2 with q2 | q2
   ·rw [List.any_eq_true] at q2
    obtain ⟨j, hj, hjt⟩ := q2
    rw [List.mem_range] at hj
    have hjb := hb j hj
    have hjt' := of_decide_eq_true hjt
    have hjo : (seAt (L.map senS) j).1 = foldB apex := by
     cases hd : decide ((seAt (L.map senS) j).1 = foldB apex) with
     | true => exact of_decide_eq_true hd
     | false =>
      exfalso
      unfold brk5 at hjb
      rw [eqa j (by omega), hd, hjt] at hjb
      simp at hjb
    obtain ⟨y, e1, e2, e3, e4⟩ := key k hk
    rw [e1]
    refine decide_eq_true fun e => ?_
    refine e4 j (by omega) ?_
    rw [seAt_map (by omega)] at hjo
    rw [seAt_map hk] at ho
    unfold plOf
    rw [hjo, ho]
    show (foldB apex, (rAt L j).t) = (foldB apex, (rAt L k).t)
    rw [hjt', of_decide_eq_true q1]
   ·rw [eqa k hk, decide_eq_true ho] at q2
    cases q2
  ·left
   exact decide_eq_true ho
theorem Laid.lack (H : Laid apex L ord) {t : Int} (ht : t ≠ 0) : (rowsF (ord.map (seAt (L.map senS))) L.length (foldB apex, t)).isSome = hasB L apex t := by
 have hl : (ord.map (seAt (L.map senS))).length = L.length := by rw [List.length_map, H.len]
 have h := row_has H.us (foldB apex, t)
 rw [hl] at h
 rw [h]
 have hm : ∀ r, r ∈ L → mtc (foldB apex, t) (senS r) = (decide (r.t = t) && eqB r.o apex) := fun r hr => by
  rw [eq_dec (ok_facts (H.ok r hr)).1]
  unfold mtc senS
  simp only [decide_eq_false ht, Bool.false_or]
  rw [Bool.and_comm]
 rw [H.sens]
 cases hb : hasB L apex t with
 | true =>
  unfold hasB at hb
  rw [List.any_eq_true] at hb
  obtain ⟨r, hr, hrt⟩ := hb
  have hrT := H.perm.mem_iff.2 hr
  obtain ⟨i, hi, he⟩ := List.getElem_of_mem hrT
  refine any_hit (j := i) (by rw [H.tlen] at hi; exact hi) ?_
  rw [seAt_map hi, ← rAt_get hi, he, hm r hr]
  exact hrt
 | false =>
  refine any_not fun i hi => ?_
  have hi' : i < (ord.map (rAt L)).length := by rw [H.tlen]; exact hi
  have hmem := H.perm.mem_iff.1 (rAt_mem hi')
  rw [seAt_map hi', hm _ hmem]
  unfold hasB at hb
  rw [List.any_eq_false] at hb
  have := hb _ hmem
  simpa using this
theorem Laid.mtc0 (H : Laid apex L ord) {k : Nat} (hk : k < L.length) {r : Rn} (hr : r ∈ L) : mtc ((seAt (L.map senS) k).1, 0) (senS r) = eqB r.o (rAt L k).o := by
 rw [eq_dec (ok_facts (H.ok r hr)).1, seAt_map hk]
 by_cases a : foldB r.o = foldB (rAt L k).o <;> simp [mtc, senS, a]
theorem Laid.crowd (H : Laid apex L ord) {k : Nat} (hk : k < L.length) : crowdB (ord.map (rAt L)) (rowsF (ord.map (seAt (L.map senS))) L.length) (L.map senS) (rAt L k) k = brk8 L k (rAt L k) := by
 unfold crowdB brk8
 by_cases ht' : ¬ (rAt L k).t = 5
 ·simp [ht']
 have ht := Decidable.not_not.1 ht'
 rw [decide_eq_true ht, Bool.true_and, Bool.true_and, H.row]
 unfold othN
 rw [List.countP_filter, H.perm.countP_eq]
 have hcong : L.countP (fun a => othB a && mtc ((seAt (L.map senS) k).1, 0) (senS a)) = L.countP (fun a => eqB a.o (rAt L k).o && othB a) := by
  apply List.countP_congr
  intro r hr
  rw [H.mtc0 hk hr, Bool.and_comm]
 rw [hcong]
 have hq : (fun a : Rn => eqB a.o (rAt L k).o && othB a) L[k] = true := by
  show (eqB L[k].o (rAt L k).o && othB L[k]) = true
  rw [rAt_get hk, eq_dec (H.isn hk)]
  simp [othB, ht]
 have h1 := one_lt L (fun a : Rn => eqB a.o (rAt L k).o && othB a) hk hq
 by_cases h : 1 < L.countP (fun a => eqB a.o (rAt L k).o && othB a)
 ·rw [decide_eq_true h]
  obtain ⟨j, hj, hne, hqj⟩ := h1.1 h
  rw [eq_comm]
  refine any_hit hj ?_
  rw [rAt_get hj] at hqj
  rw [decide_eq_false hne]
  exact hqj
 ·rw [decide_eq_false h, eq_comm]
  refine any_not fun j hj => ?_
  by_cases hne : j = k
  ·simp [hne]
  ·cases hc : (eqB (rAt L j).o (rAt L k).o && othB (rAt L j)) with
   | false => simp
   | true => exact absurd (h1.2 ⟨j, hj, hne, by rw [rAt_get hj]; exact hc⟩) h
theorem Laid.firstLt (H : Laid apex L ord) {k : Nat} (hk : k < L.length) : ∃ y, (firstF (L.map senS) L.length (plOf (seAt (L.map senS) k))).getD 0 = y ∧ y ≤ k ∧ plOf (senS (rAt L y)) = plOf (senS (rAt L k)) ∧ ∀ j, j < y → ¬ plOf (senS (rAt L j)) = plOf (senS (rAt L k)) := by
 have hkS : k < (L.map senS).length := by simpa using hk
 obtain ⟨y, h1, h2, ⟨h3, h4⟩, h5⟩ := first_idx (L.map senS) (fun s => decide (plOf s = plOf (seAt (L.map senS) k))) hkS (by rw [seAt_get hkS]; simp)
 refine ⟨y, ?_, h2, ?_, fun j hj => ?_⟩
 ·unfold firstF
  rw [List.take_of_length_le (by simp), h1, Option.getD_some]
 ·have := of_decide_eq_true h4
  rw [seAt_get h3, seAt_map (by omega), seAt_map hk] at this
  exact this
 ·have hjS : j < (L.map senS).length := by simp; omega
  have := of_decide_eq_false (h5 j hjS hj)
  rw [seAt_get hjS, seAt_map (by omega), seAt_map hk] at this
  exact this
theorem Laid.age (H : Laid apex L ord) {k : Nat} (hk : k < L.length) : ageB (L.map senS) L L.length (rAt L k) k = brk10 L k (rAt L k) := by
 obtain ⟨y, e1, e2, e3, e4⟩ := H.firstLt hk
 have hq : ∀ j, j < L.length → (decide ((rAt L j).t = (rAt L k).t) && eqB (rAt L j).o (rAt L k).o) = decide (plOf (senS (rAt L j)) = plOf (senS (rAt L k))) := fun j hj => by
  rw [eq_dec (H.isn hj)]
  unfold plOf senS
  by_cases a : (rAt L j).t = (rAt L k).t <;> by_cases b : foldB (rAt L j).o = foldB (rAt L k).o <;> simp [a, b]
 unfold ageB brk10
 rw [e1]
 by_cases ht : (rAt L k).t = 46
 ·have : (List.range k).find? (fun j => !decide ((rAt L k).t = 46) && (decide ((rAt L j).t = (rAt L k).t) && eqB (rAt L j).o (rAt L k).o)) = none := by
   rw [List.find?_eq_none]; intro j _; simp [ht]
  rw [this]
  simp [ht]
 ·rw [decide_eq_true ht, Bool.true_and]
  by_cases hy : y = k
  ·have : (List.range k).find? (fun j => !decide ((rAt L k).t = 46) && (decide ((rAt L j).t = (rAt L k).t) && eqB (rAt L j).o (rAt L k).o)) = none := by
    rw [List.find?_eq_none]
    intro j hj
    rw [List.mem_range] at hj
    rw [hq j (by omega), decide_eq_false (e4 j (by omega))]
    simp
   rw [this, hy]
   simp
  ·have : (List.range k).find? (fun j => !decide ((rAt L k).t = 46) && (decide ((rAt L j).t = (rAt L k).t) && eqB (rAt L j).o (rAt L k).o)) = some y := by
    rw [List.find?_range_eq_some]
    refine ⟨?_, by simp; omega, fun j hj => ?_⟩
    ·rw [hq y (by omega), decide_eq_true e3, decide_eq_false ht]; rfl
    ·rw [hq j (by omega), decide_eq_false (e4 j hj)]; simp
   rw [this]
   simp only
   by_cases hl : (rAt L y).l = (rAt L k).l
   ·simp [hl]
   ·have hl' : ¬ (rAt L k).l = (rAt L y).l := fun h => hl h.symm
    simp [hl, hl']
end
end Go.Proofs.YtoabnpdoicbpiaaGreat
namespace Go.Proofs.YtoabnpdoicbpiaaGreat
set_option linter.unusedVariables false
set_option linter.unusedSimpArgs false
open Go.RowKit Go.Shelf Go.Maps Go.Proofs.YtoabnpdoicbpiaaGreat.Nm Go.Proofs.YtoabnpdoicbpiaaGreat.Zs
section
variable {apex : ByteArray} {L : List Rn} {ord : List Nat}
theorem mem_at {M : List Rn} {r : Rn} (h : r ∈ M) : ∃ i, i < M.length ∧ rAt M i = r := by
 obtain ⟨i, hi, he⟩ := List.getElem_of_mem h
 exact ⟨i, hi, by rw [← rAt_get hi]; exact he⟩
theorem Laid.below (H : Laid apex L ord) {k : Nat} (hk : k < L.length) : belowB (ord.map (rAt L)) (rowsF (ord.map (seAt (L.map senS))) L.length) (seAt (L.map senS) k).1 = (List.range L.length).any fun j => !eqB (rAt L j).o (rAt L k).o && withinB (rAt L j).o (rAt L k).o := by
 have hU := H.us
 have hl : (ord.map (seAt (L.map senS))).length = L.length := by rw [List.length_map, H.len]
 have hr := row_all hU ((seAt (L.map senS) k).1, 0)
 rw [hl] at hr
 have hT := H.tlen
 have hx := H.isn hk
 have ho : (seAt (L.map senS) k).1 = foldB (rAt L k).o := by rw [seAt_map hk]; rfl
 have hm : ∀ i, i < L.length → mtc ((seAt (L.map senS) k).1, 0) (seAt (ord.map (seAt (L.map senS))) i) = eqB (rAt (ord.map (rAt L)) i).o (rAt L k).o := fun i hi => by
  have hi' : i < (ord.map (rAt L)).length := by rw [hT]; exact hi
  rw [H.sens, seAt_map hi']
  exact H.mtc0 hk (H.perm.mem_iff.1 (rAt_mem hi'))
 have hs : ∀ i, i < L.length → seAt (ord.map (seAt (L.map senS))) i = senS (rAt (ord.map (rAt L)) i) := fun i hi => by
  rw [H.sens, seAt_map (by rw [hT]; exact hi)]
 have hown : eqB (rAt L k).o (rAt L k).o = true := by rw [eq_dec hx]; simp
 unfold belowB
 obtain ⟨ik, hik, hike⟩ := mem_at (H.perm.mem_iff.2 (rAt_mem hk))
 rw [hT] at hik
 cases he : rowsF (ord.map (seAt (L.map senS))) L.length ((seAt (L.map senS) k).1, 0) with
 | none =>
  exfalso
  rw [he] at hr
  have := hr ik hik
  rw [hm ik hik, hike, hown] at this
  cases this
 | some y =>
  obtain ⟨a, b⟩ := y
  rw [he] at hr
  obtain ⟨h1, h2, h3, h4, h5, h6⟩ := hr
  rw [Option.getD_some]
  simp only
  rw [hT]
  cases hany : (List.range L.length).any fun j => !eqB (rAt L j).o (rAt L k).o && withinB (rAt L j).o (rAt L k).o with
  | false =>
   by_cases hb : b < L.length
   ·rw [decide_eq_true hb, Bool.true_and]
    have hb' : b < (ord.map (rAt L)).length := by rw [hT]; exact hb
    have hmem := H.perm.mem_iff.1 (rAt_mem hb')
    obtain ⟨j, hj, hje⟩ := mem_at hmem
    rw [List.any_eq_false] at hany
    have h7 := hany j (List.mem_range.2 hj)
    have h8 := h6 b (Nat.le_refl _) hb
    rw [hm b hb, ← hje] at h8
    rw [h8] at h7
    rw [ho, ← hje, zwithin_fold (H.isn hj) hx]
    simpa using h7
   ·rw [decide_eq_false hb, Bool.false_and]
  | true =>
   rw [List.any_eq_true] at hany
   obtain ⟨j, hj, hjw⟩ := hany
   rw [List.mem_range] at hj
   rw [Bool.and_eq_true] at hjw
   obtain ⟨w1, w2⟩ := hjw
   have w1' : eqB (rAt L j).o (rAt L k).o = false := by simpa using w1
   obtain ⟨i, hi, hie⟩ := mem_at (H.perm.mem_iff.2 (rAt_mem hj))
   rw [hT] at hi
   have hmi : mtc ((seAt (L.map senS) k).1, 0) (seAt (ord.map (seAt (L.map senS))) i) = false := by rw [hm i hi, hie, w1']
   have gk : goodS (senS (rAt L k)) := good_sen (H.ok _ (rAt_mem hk))
   have gj : goodS (senS (rAt L j)) := good_sen (H.ok _ (rAt_mem hj))
   have e_a : (seAt (ord.map (seAt (L.map senS))) a).1 = foldB (rAt L k).o := by
    unfold mtc at h3
    rw [Bool.and_eq_true] at h3
    have := of_decide_eq_true h3.1
    simp only at this
    rw [this, ho]
   have e_i : (seAt (ord.map (seAt (L.map senS))) i).1 = foldB (rAt L j).o := by rw [hs i hi, hie]; rfl
   have hpre : ((labs (foldB (rAt L k).o)).map lowB).reverse <+: ((labs (foldB (rAt L j).o)).map lowB).reverse := by
    rw [labs_fold hx, labs_fold (H.isn hj)]
    exact (withinB_pre (H.isn hj) hx).1 w2
   have hib : b ≤ i := by
    rcases Nat.lt_or_ge i b with hlt | hge
    ·exfalso
     rcases Nat.lt_or_ge i a with hia | hia
     ·have c1 := cmpS_own (hU.good i (by rw [hl]; omega)) (hU.good a (by rw [hl]; omega)) (hU.so i a (by omega) (by rw [hl]; omega))
      rw [e_a, e_i] at c1
      have c2 := cmpL_pre _ _ hpre
      rw [← cmpB_yes (zisN_fold hx).1 (zisN_fold (H.isn hj)).1] at c2
      have c3 := cmp_anti gk.1 gj.1
      change cmpB (foldB (rAt L j).o) (foldB (rAt L k).o) = - cmpB (foldB (rAt L k).o) (foldB (rAt L j).o) at c3
      have c4 := cmp_zero gk.1 gj.1 gk.2 gj.2 (by show cmpB (foldB (rAt L k).o) (foldB (rAt L j).o) = 0; omega)
      change foldB (rAt L k).o = foldB (rAt L j).o at c4
      rw [eq_dec (H.isn hj), c4] at w1'
      simp at w1'
     ·have := hU.mid hia (show i ≤ b - 1 by omega) (by rw [hl]; omega) h3 h4
      rw [this] at hmi
      cases hmi
    ·exact hge
   have hb : b < L.length := by omega
   rw [decide_eq_true hb, Bool.true_and]
   have hb' : b < (ord.map (rAt L)).length := by rw [hT]; exact hb
   have hbm := H.perm.mem_iff.1 (rAt_mem hb')
   have hbn := (ok_facts (H.ok _ hbm)).1
   have gb := good_sen (H.ok _ hbm)
   have e_b : (seAt (ord.map (seAt (L.map senS))) b).1 = foldB (rAt (ord.map (rAt L)) b).o := by rw [hs b hb]; rfl
   have c1 := cmpS_own (hU.good a (by rw [hl]; omega)) (hU.good b (by rw [hl]; omega)) (hU.so a b (by omega) (by rw [hl]; omega))
   have c2 := cmpS_own (hU.good b (by rw [hl]; omega)) (hU.good i (by rw [hl]; omega)) (hU.so b i hib (by rw [hl]; omega))
   rw [e_a, e_b] at c1
   rw [e_b, e_i] at c2
   rw [cmpB_yes (zisN_fold hx).1 (zisN_fold hbn).1] at c1
   rw [cmpB_yes (zisN_fold hbn).1 (zisN_fold (H.isn hj)).1] at c2
   have c3 := cmpL_between _ _ _ c1 c2 hpre
   rw [ho, zwithin_fold hbn hx, withinB_pre hbn hx]
   have l1 := labs_fold hx
   have l2 := labs_fold hbn
   change ((labs (foldB (rAt L k).o)).map lowB).reverse <+: ((labs (foldB (rAt (ord.map (rAt L)) b).o)).map lowB).reverse at c3
   rw [l1, l2] at c3
   exact c3
theorem Laid.graft (H : Laid apex L ord) {k : Nat} (hk : k < L.length) : graftB (ord.map (rAt L)) (rowsF (ord.map (seAt (L.map senS))) L.length) (L.map senS) (foldB apex) (rAt L k) k = brk9 apex L k (rAt L k) := by
 unfold graftB brk9
 by_cases ht' : ¬ (rAt L k).t = 39
 ·simp [ht']
 have ht := Decidable.not_not.1 ht'
 rw [decide_eq_true ht, Bool.true_and, Bool.true_and, H.row, H.below hk, ← List.countP_eq_length_filter, H.perm.countP_eq]
 have hcong : L.countP (fun r => mtc ((seAt (L.map senS) k).1, 39) (senS r)) = L.countP (fun a => eqB a.o (rAt L k).o && decide (a.t = 39)) := by
  apply List.countP_congr
  intro r hr
  rw [eq_dec (ok_facts (H.ok r hr)).1, seAt_map hk]
  by_cases a : foldB r.o = foldB (rAt L k).o <;> by_cases b : r.t = 39 <;> simp [mtc, senS, a, b]
 rw [hcong]
 have hq : (fun a : Rn => eqB a.o (rAt L k).o && decide (a.t = 39)) L[k] = true := by
  show (eqB L[k].o (rAt L k).o && decide (L[k].t = 39)) = true
  rw [rAt_get hk, eq_dec (H.isn hk)]
  simp [ht]
 have h1 := one_lt L (fun a : Rn => eqB a.o (rAt L k).o && decide (a.t = 39)) hk hq
 have e0 : eqB (rAt L k).o apex = decide ((seAt (L.map senS) k).1 = foldB apex) := by rw [eq_dec (H.isn hk), seAt_map hk]; rfl
 rw [e0, Bool.eq_iff_iff]
 simp only [Bool.or_eq_true, List.any_eq_true, decide_eq_true_eq, List.mem_range]
 constructor
 ·rintro ((h | h) | ⟨j, hj, h⟩)
  ·exact Or.inr h
  ·obtain ⟨j, hj, hne, hqj⟩ := h1.1 h
   rw [rAt_get hj] at hqj
   exact Or.inl ⟨j, hj, Or.inl (by rw [decide_eq_false hne]; exact hqj)⟩
  ·exact Or.inl ⟨j, hj, Or.inr h⟩
 ·rintro (⟨j, hj, h | h⟩ | h)
  ·rw [Bool.and_eq_true] at h
   have hne : j ≠ k := by simpa using h.1
   exact Or.inl (Or.inr (h1.2 ⟨j, hj, hne, by rw [rAt_get hj]; exact h.2⟩))
  ·exact Or.inr ⟨j, hj, h⟩
  ·exact Or.inl (Or.inl h)
def fltM (apex : ByteArray) (L : List Rn) : List (Int × Int) :=
 [(19, fstI (brkB apex L 4) L.length), (15, fstI (brkB apex L 5) L.length), (15, if hasB L apex 6 = true then -2 else -1), (16, if hasB L apex 2 = true then -2 else -1), (22, fstI (brkB apex L 7) L.length), (17, fstI (brkB apex L 8) L.length), (18, fstI (brkB apex L 9) L.length), (21, fstI (brkB apex L 10) L.length)]
theorem Laid.fault (H : Laid apex L ord) :
  [((19 : Int), fstI (fun k => twiceB (L.map senS) L.length k) L.length), (15, fstI (fun k => strayB (L.map senS) L.length (foldB apex) (rAt L k) k) L.length), (15, if (rowsF (ord.map (seAt (L.map senS))) L.length (foldB apex, 6)).isSome = true then -2 else -1), (16, if (rowsF (ord.map (seAt (L.map senS))) L.length (foldB apex, 2)).isSome = true then -2 else -1), (22, fstI (fun k => wildB (rAt L k)) L.length), (17, fstI (fun k => crowdB (ord.map (rAt L)) (rowsF (ord.map (seAt (L.map senS))) L.length) (L.map senS) (rAt L k) k) L.length), (18, fstI (fun k => graftB (ord.map (rAt L)) (rowsF (ord.map (seAt (L.map senS))) L.length) (L.map senS) (foldB apex) (rAt L k) k) L.length), (21, fstI (fun k => ageB (L.map senS) L L.length (rAt L k) k) L.length)] = fltM apex L := by
 unfold fltM
 rw [H.lack (t := 6) (by decide), H.lack (t := 2) (by decide), H.stray]
 rw [fstI_same (P := fun k => twiceB (L.map senS) L.length k) (Q := brkB apex L 4) (fun k hk => by rw [H.twice hk]; rfl)]
 rw [fstI_same (P := fun k => crowdB (ord.map (rAt L)) (rowsF (ord.map (seAt (L.map senS))) L.length) (L.map senS) (rAt L k) k) (Q := brkB apex L 8) (fun k hk => by rw [H.crowd hk]; rfl)]
 rw [fstI_same (P := fun k => graftB (ord.map (rAt L)) (rowsF (ord.map (seAt (L.map senS))) L.length) (L.map senS) (foldB apex) (rAt L k) k) (Q := brkB apex L 9) (fun k hk => by rw [H.graft hk]; rfl)]
 rw [fstI_same (P := fun k => ageB (L.map senS) L L.length (rAt L k) k) (Q := brkB apex L 10) (fun k hk => by rw [H.age hk]; rfl)]
 rfl
end
end Go.Proofs.YtoabnpdoicbpiaaGreat
namespace Go.Proofs.YtoabnpdoicbpiaaGreat
set_option linter.unusedVariables false
set_option linter.unusedSimpArgs false
open Go.RowKit Go.Shelf Go.Maps Go.Proofs.YtoabnpdoicbpiaaGreat.Nm Go.Proofs.YtoabnpdoicbpiaaGreat.Zs
def mkM (apex : ByteArray) (L : List Rn) : List (Int × Int) :=
 (8, fstI (brkB apex L 2) L.length) :: (5, fstI (brkB apex L 3) L.length) :: fltM apex L
def posR (rule : Nat) : Nat := if rule ≤ 5 then rule - 2 else rule - 1
def preR (apex : ByteArray) (L : List Rn) (rule : Nat) : Prop := ∀ i, (hi : i < (mkM apex L).length) → i < posR rule → (mkM apex L)[i].2 = -2
theorem mkM_len (apex : ByteArray) (L : List Rn) : (mkM apex L).length = 10 := rfl
def codR (rule : Nat) : Int := if rule = 2 then 8 else if rule = 3 then 5 else if rule = 4 then 19 else if rule = 5 then 15 else if rule = 7 then 22 else if rule = 8 then 17 else if rule = 9 then 18 else if rule = 10 then 21 else 0
theorem fst_kept {P : Nat → Bool} {n : Nat} (h : ∀ j, j < n → P j = false) : fstI P n = -2 := fstI_none h
theorem fst_not {k : Nat} : ¬ ((k : Int) = -2) := by omega
theorem pre_hit {apex : ByteArray} {L : List Rn} {rule k : Nat} (h2 : 2 ≤ rule) (h10 : rule ≤ 10) (hp : preR apex L rule) (hk : k < L.length) (hb : brkB apex L rule k = true) (hn : ∀ j, j < k → brkB apex L rule j = false) : fltR (mkM apex L) = ((k : Int), codR rule) := by
 have hf : fstI (brkB apex L rule) L.length = (k : Int) := fstI_some hk hb hn
 have hc : rule = 2 ∨ rule = 3 ∨ rule = 4 ∨ rule = 5 ∨ rule = 6 ∨ rule = 7 ∨ rule = 8 ∨ rule = 9 ∨ rule = 10 := by omega
 have go : ∀ (i : Nat) (hi : i < (mkM apex L).length), i = posR rule → (mkM apex L)[i] = (codR rule, (k : Int)) → fltR (mkM apex L) = ((k : Int), codR rule) := fun i hi he hv => by
  have := flt_some (M := mkM apex L) hi (by rw [hv]; exact fst_not) (fun j hj hji => hp j hj (by omega))
  rw [hv] at this
  exact this
 rcases hc with rfl | rfl | rfl | rfl | rfl | rfl | rfl | rfl | rfl
 ·exact go 0 (by rw [mkM_len]; omega) rfl (by show (8, fstI (brkB apex L 2) L.length) = _; rw [hf]; rfl)
 ·exact go 1 (by rw [mkM_len]; omega) rfl (by show (5, fstI (brkB apex L 3) L.length) = _; rw [hf]; rfl)
 ·exact go 2 (by rw [mkM_len]; omega) rfl (by show (19, fstI (brkB apex L 4) L.length) = _; rw [hf]; rfl)
 ·exact go 3 (by rw [mkM_len]; omega) rfl (by show (15, fstI (brkB apex L 5) L.length) = _; rw [hf]; rfl)
 ·exact absurd hb (by simp [brkB])
 ·exact go 6 (by rw [mkM_len]; omega) rfl (by show (22, fstI (brkB apex L 7) L.length) = _; rw [hf]; rfl)
 ·exact go 7 (by rw [mkM_len]; omega) rfl (by show (17, fstI (brkB apex L 8) L.length) = _; rw [hf]; rfl)
 ·exact go 8 (by rw [mkM_len]; omega) rfl (by show (18, fstI (brkB apex L 9) L.length) = _; rw [hf]; rfl)
 ·exact go 9 (by rw [mkM_len]; omega) rfl (by show (21, fstI (brkB apex L 10) L.length) = _; rw [hf]; rfl)
theorem pre_next {apex : ByteArray} {L : List Rn} {rule : Nat} (h2 : 2 ≤ rule) (h10 : rule ≤ 10) (h5 : rule ≠ 5) (h6 : rule ≠ 6) (hp : preR apex L rule) (hn : ∀ j, j < L.length → brkB apex L rule j = false) : preR apex L (rule + 1) := by
 have hf := fst_kept hn
 have hc : rule = 2 ∨ rule = 3 ∨ rule = 4 ∨ rule = 7 ∨ rule = 8 ∨ rule = 9 ∨ rule = 10 := by omega
 have key : ∀ (i : Nat), i = posR rule → posR (rule + 1) = i + 1 → (∀ (hi : i < (mkM apex L).length), (mkM apex L)[i].2 = -2) → preR apex L (rule + 1) := fun i he hs h => by
  intro j hj hjl
  rw [hs] at hjl
  rcases Nat.lt_or_ge j i with h' | h'
  ·exact hp j hj (by omega)
  ·obtain rfl : j = i := by omega
   exact h hj
 rcases hc with rfl | rfl | rfl | rfl | rfl | rfl | rfl
 ·exact key 0 rfl rfl fun _ => hf
 ·exact key 1 rfl rfl fun _ => hf
 ·exact key 2 rfl rfl fun _ => hf
 ·exact key 6 rfl rfl fun _ => hf
 ·exact key 7 rfl rfl fun _ => hf
 ·exact key 8 rfl rfl fun _ => hf
 ·exact key 9 rfl rfl fun _ => hf
theorem pre_five {apex : ByteArray} {L : List Rn} (hp : preR apex L 5) (hn : ∀ j, j < L.length → brkB apex L 5 j = false) (hh : hasB L apex 6 = true) : preR apex L 6 := by
 have hf := fst_kept hn
 intro j hj hjl
 rcases Nat.lt_or_ge j 3 with h' | h'
 ·exact hp j hj h'
 ·have hc : j = 3 ∨ j = 4 := by
   have : posR 6 = 5 := rfl
   omega
  rcases hc with rfl | rfl
  ·exact hf
  ·show (if hasB L apex 6 = true then (-2 : Int) else -1) = -2
   rw [if_pos hh]
theorem pre_five_no {apex : ByteArray} {L : List Rn} (hp : preR apex L 5) (hn : ∀ j, j < L.length → brkB apex L 5 j = false) (hh : hasB L apex 6 = false) : fltR (mkM apex L) = (-1, 15) := by
 have hf := fst_kept hn
 have hv : (mkM apex L)[4]'(by rw [mkM_len]; omega) = ((15 : Int), (-1 : Int)) := by
  show ((15 : Int), if hasB L apex 6 = true then (-2 : Int) else -1) = _
  rw [if_neg (by simp [hh])]
 have := flt_some (M := mkM apex L) (j := 4) (by rw [mkM_len]; omega) (by rw [hv]; decide) (fun j hj hj4 => by
        rcases Nat.lt_or_ge j 3 with h' | h'
        ·exact hp j hj h'
        ·obtain rfl : j = 3 := by omega
         exact hf)
 rw [hv] at this
 exact this
theorem pre_six {apex : ByteArray} {L : List Rn} (hp : preR apex L 6) (hh : hasB L apex 2 = true) : preR apex L 7 := by
 intro j hj hjl
 rcases Nat.lt_or_ge j 5 with h' | h'
 ·exact hp j hj h'
 ·obtain rfl : j = 5 := by
   have : posR 7 = 6 := rfl
   omega
  show (if hasB L apex 2 = true then (-2 : Int) else -1) = -2
  rw [if_pos hh]
theorem pre_six_no {apex : ByteArray} {L : List Rn} (hp : preR apex L 6) (hh : hasB L apex 2 = false) : fltR (mkM apex L) = (-1, 16) := by
 have hv : (mkM apex L)[5]'(by rw [mkM_len]; omega) = ((16 : Int), (-1 : Int)) := by
  show ((16 : Int), if hasB L apex 2 = true then (-2 : Int) else -1) = _
  rw [if_neg (by simp [hh])]
 have := flt_some (M := mkM apex L) (j := 5) (by rw [mkM_len]; omega) (by rw [hv]; decide) (fun j hj hj4 => hp j hj hj4)
 rw [hv] at this
 exact this
theorem pre_all {apex : ByteArray} {L : List Rn} (hp : preR apex L 11) : fltR (mkM apex L) = (0, 0) := flt_none fun i hi => hp i hi (by rw [mkM_len] at hi; exact hi)
theorem pre_two (apex : ByteArray) (L : List Rn) : preR apex L 2 := fun i _ h => absurd (show i < 0 from h) (by omega)
theorem fst_inv {P : Nat → Bool} {n : Nat} (h : fstI P n = -2) : ∀ j, j < n → P j = false := fun j hj => by
 cases hf : (List.range n).find? P with
 | none =>
  rw [List.find?_eq_none] at hf
  have := hf j (List.mem_range.2 hj)
  simpa using this
 | some k =>
  unfold fstI at h
  rw [hf] at h
  simp only at h
  omega
theorem pre_ok {apex : ByteArray} {L : List Rn} (hp : preR apex L 11) : okL L := fun r hr => by
 obtain ⟨i, hi, rfl⟩ := mem_at hr
 have h0 : fstI (brkB apex L 2) L.length = -2 := hp 0 (by rw [mkM_len]; omega) (by show 0 < 10; omega)
 have h1 := fst_inv h0 i hi
 have h2 : brk2 (rAt L i) = false := h1
 unfold brk2 at h2
 unfold zonR
 simpa using h2
def mkC (apex : ByteArray) (L : List Rn) : Int × Int := if isN apex = true then (if 2000 < L.length then (-1, 20) else fltR (mkM apex L)) else (-1, 1)
theorem codR_ne {r : Nat} (h2 : 2 ≤ r) (h10 : r ≤ 10) (h6 : r ≠ 6) : codR r ≠ 0 := by
 have hc : r = 2 ∨ r = 3 ∨ r = 4 ∨ r = 5 ∨ r = 7 ∨ r = 8 ∨ r = 9 ∨ r = 10 := by omega
 rcases hc with rfl | rfl | rfl | rfl | rfl | rfl | rfl | rfl <;> decide
theorem own_baseZ {w : World} {b b' e sz n : Nat} {v : Value} {xs : List Value} (h : w.ownsRow b e sz v n xs) (hb : b' ≤ b) : w.ownsRow b' e sz v n xs := by
 obtain ⟨hl, (⟨h1, h0⟩ | ⟨g, cap, cur, h1, h2, h3⟩)⟩ := h
 ·exact ⟨hl, Or.inl ⟨h1, h0⟩⟩
 ·exact ⟨hl, Or.inr ⟨g, cap, cur, h1, Nat.le_trans hb h2, h3⟩⟩
theorem rs_one (w : World) (x : Rn) : RsAt (w.alloc (.cells #[.string x.o, .int .i64 x.t, .int .i64 x.c, .int .i64 x.l, .string x.d] 29)) (some ⟨w.heap.size, 0, none⟩) [x] := fun k hk => by
 have h0 : Bx (w.alloc (.cells #[.string x.o, .int .i64 x.t, .int .i64 x.c, .int .i64 x.l, .string x.d] 29)) w.heap.size #[.string x.o, .int .i64 x.t, .int .i64 x.c, .int .i64 x.l, .string x.d] 29 := World.alloc_heap_new w _
 obtain rfl : k = 0 := by simp at hk; exact hk
 exact ⟨w.heap.size, 0, rfl, h0.lt, h0.cell rfl, h0.cell rfl, h0.cell rfl, h0.cell rfl, h0.cell rfl⟩
theorem ok_small {r : Rn} (h : zonR r = true) : rSm r := by
 obtain ⟨_, _, _, _, _, _, _, h8, h9, _⟩ := ok_facts h
 exact ⟨by omega, by omega⟩
end Go.Proofs.YtoabnpdoicbpiaaGreat
