import Derived.Test.YtgekfhghambacaaGreatCco
/-
  Chapter 12: what the law of ages needs, plainly. (The verifier's own text.)
-/
namespace Go.Proofs.YtgekfhghambacaaGreat
set_option linter.unusedVariables false
set_option linter.unusedSimpArgs false
open Go.RowKit Go.Shelf Go.Maps Go.Proofs.YtgekfhghambacaaGreat.Nm

/-- an entry of a set was put -/
def PutOK (T : List Pt) (e : Ce) : Prop := ∃ pt ∈ T, pt.rank = e.rank ∧ pt.L = e.recs ∧ e.fin = pt.now + e.age ∧ 0 < e.age ∧ e.age ≤ 604800 ∧ ∀ r ∈ e.recs, e.age ≤ r.l
theorem PutOK.more {T : List Pt} {e : Ce} (h : PutOK T e) (pt : Pt) : PutOK (T ++ [pt]) e := by
  obtain ⟨q, hq, h⟩ := h
  exact ⟨q, List.mem_append_left _ hq, h⟩
/-- what holds of every entry -/
structure Linv (S : List Ce) (T : List Pt) : Prop where
  ok : EOk S
  put : ∀ e ∈ S, e.key.1 = 0 → PutOK T e
theorem Linv.nil : Linv [] [] := ⟨⟨(fun e h => by cases h), (fun e h => by cases h), (fun e h => by cases h)⟩, (fun e h => by cases h)⟩
/-- one entry -/
structure EOne (T : List Pt) (e : Ce) : Prop where
  set : e.key.1 = 0 → e.recs ≠ [] ∧ e.recs.length ≤ 1048576
  fin : 0 ≤ e.fin ∧ e.fin ≤ 8589934592
  prf : e.key.1 = 3 → e.recs.length = 1 ∧ ∀ r ∈ e.recs, r.o.size ≤ 1048576 ∧ r.d.size ≤ 9223372036854775807
  put : e.key.1 = 0 → PutOK T e
theorem Linv.one {S : List Ce} {T : List Pt} (h : Linv S T) {e : Ce} (he : e ∈ S) : EOne T e := ⟨h.ok.set e he, h.ok.fin e he, h.ok.prf e he, h.put e he⟩
theorem Linv.of {S : List Ce} {T : List Pt} (h : ∀ e ∈ S, EOne T e) : Linv S T := ⟨⟨fun e he => (h e he).set, fun e he => (h e he).fin, fun e he => (h e he).prf⟩, fun e he => (h e he).put⟩
theorem EOne.more {T : List Pt} {e : Ce} (h : EOne T e) (pt : Pt) : EOne (T ++ [pt]) e := ⟨h.set, h.fin, h.prf, fun k => (h.put k).more pt⟩
theorem repS_mem {x : Ky} {now age rank came : Int} {R : List Rn} {p : Option Addr} {c b : Nat} {S : List Ce} {e : Ce} (h : e ∈ repS x now age rank came R p c b S) : e ∈ S ∨ (age ≠ 0 ∧ e = ⟨x, now + age, came + 1, age, rank, R, p, c, b⟩) := by
  unfold repS at h
  split at h
  · exact .inl (mem_outK.1 h).1
  · rename_i ha
    rcases List.mem_append.1 h with h | h
    · exact .inl (mem_outK.1 h).1
    · exact .inr ⟨ha, List.mem_singleton.1 h⟩
theorem put_inv {S S' : List Ce} {T : List Pt} {R : List Rn} {most now rank came : Int} {p q : Option Addr} {c b cc : Nat} {x : Rn} {l : List Rn} (h : Linv S T) (hd : dsB R = true) (hx : R = x :: l) (hn0 : 0 ≤ now) (hn1 : now ≤ 4294967295) (hl : R.length ≤ 1048576) (hp : pushE most now (putS R x.o x.t now rank came p c b S) S') : Linv S' (T ++ [⟨q, cc, R, rank, now⟩]) := by
  obtain ⟨x', l', hx', hf⟩ := ds_facts hd
  have hage := ageF_facts (R := R) (fun r hr => (ok_facts (hf r hr).1).2.2.1)
  refine Linv.of (fun e he => ?_)
  have h1 := (pushE_sub hp).mem he
  unfold putS at h1
  have h2 := ((voidsS_sub _ _).trans outK_sub).mem h1
  rcases repS_mem h2 with h3 | ⟨ha, rfl⟩
  · exact (h.one h3).more _
  · have ha0 : 0 < ageF R := by have := hage.1; omega
    refine ⟨fun _ => ⟨by simp [hx], hl⟩, ⟨by simp only; omega, by simp only; have := hage.2.1; omega⟩, fun k => by simp [setK] at k, fun _ => ⟨_, List.mem_append_right _ (List.mem_singleton.2 rfl), rfl, rfl, rfl, ha0, hage.2.1, hage.2.2⟩⟩
theorem deny_inv {S S' : List Ce} {T : List Pt} {n : ByteArray} {t most now came : Int} {r : Rn} {b : Nat} (h : Linv S T) (hn0 : 0 ≤ now) (hn1 : now ≤ 4294967295) (ha : 0 ≤ denyA r) (hp : pushE most now (denyS n t now came r b S) S') : Linv S' T := by
  have hd : denyA r ≤ 10800 := by unfold denyA; omega
  refine Linv.of (fun e he => ?_)
  have h1 := (pushE_sub hp).mem he
  unfold denyS at h1
  split at h1
  · rcases repS_mem h1 with h3 | ⟨_, rfl⟩
    · exact h.one (List.mem_filter.1 h3).1
    · exact ⟨fun k => by simp [voidK] at k, ⟨by simp only; omega, by simp only; omega⟩, fun k => by simp [voidK] at k, fun k => by simp [voidK] at k⟩
  · rcases repS_mem h1 with h3 | ⟨_, rfl⟩
    · exact h.one (mem_outK.1 h3).1
    · exact ⟨fun k => by simp [lackK] at k, ⟨by simp only; omega, by simp only; omega⟩, fun k => by simp [lackK] at k, fun k => by simp [lackK] at k⟩
theorem denyA_nn {n : ByteArray} {t now : Int} {r : Rn} (h : denyC n t r now = 0) : 0 ≤ denyA r ∧ 0 ≤ now ∧ now ≤ 4294967295 := by
  unfold denyC at h
  split at h
  · cases h
  rename_i h1
  split at h
  · cases h
  split at h
  · cases h
  split at h
  · cases h
  rename_i h4
  have hz : zonR r = true := by
    cases hc : zonR r with
    | true => rfl
    | false => exact absurd (.inr (.inl hc)) h4
  have hl := (ok_facts hz).2.2.1
  have := ageA_nn (d := r.d) hl
  have ht : 0 ≤ now ∧ now ≤ 4294967295 := by
    by_cases c : 0 ≤ now ∧ now ≤ 4294967295
    · exact c
    · exact absurd c h1
  exact ⟨by unfold denyA; omega, ht⟩
theorem prove_inv {most now came : Int} {apex : ByteArray} {R : List Rn} {S : List Ce} {T : List Pt} (h : Linv S T) (hn0 : 0 ≤ now) (hn1 : now ≤ 4294967295) (hz : ∀ r ∈ R, r.o.size ≤ 1048576 ∧ r.d.size ≤ 9223372036854775807) : ∀ (k : Nat) (S' : List Ce) (c' : Int), prv most now apex R S came k S' c' → Linv S' T
  | 0, S', c', hp => by rw [show S' = S from hp.1]; exact h
  | k + 1, S', c', hp => by
    obtain ⟨S1, c1, h1, r, hr, hone⟩ := hp
    have ih := prove_inv h hn0 hn1 hz k S1 c1 h1
    rcases hone with ⟨_, rfl, _⟩ | ⟨hu, _, p, c, b, hpu⟩
    · exact ih
    · refine Linv.of (fun e he => ?_)
      have h2 := (pushE_sub hpu).mem he
      rcases repS_mem h2 with h3 | ⟨_, rfl⟩
      · exact ih.one h3
      · have hl : 0 ≤ r.l := by
          unfold useB at hu
          rw [Bool.and_eq_true] at hu
          exact (ok_facts (mayB_facts hu.2)).2.2.1
        have hrm : r ∈ R := List.mem_of_getElem? hr
        refine ⟨fun k => by simp [proofK] at k, ⟨by simp only; omega, by simp only; omega⟩, fun _ => ⟨rfl, fun r' hr' => ?_⟩, fun k => by simp [proofK] at k⟩
        rw [List.mem_singleton.1 hr']
        exact hz r hrm
theorem prv_came {most now came : Int} {apex : ByteArray} {R : List Rn} {S : List Ce} : ∀ (k : Nat) (S' : List Ce) (c' : Int), prv most now apex R S came k S' c' → came ≤ c' ∧ c' ≤ came + k
  | 0, S', c', hp => by rw [hp.2]; omega
  | k + 1, S', c', hp => by
    obtain ⟨S1, c1, h1, r, hr, hone⟩ := hp
    have ih := prv_came k S1 c1 h1
    rcases hone with ⟨_, _, rfl⟩ | ⟨_, rfl, _⟩
    · omega
    · have := repC_le (min r.l 10800) c1
      omega
theorem prv_len {most now came : Int} {apex : ByteArray} {R : List Rn} {S : List Ce} (h0 : (S.length : Int) ≤ most) : ∀ (k : Nat) (S' : List Ce) (c' : Int), prv most now apex R S came k S' c' → (S'.length : Int) ≤ most
  | 0, S', c', hp => by rw [hp.1]; exact h0
  | k + 1, S', c', hp => by
    obtain ⟨S1, c1, h1, r, hr, hone⟩ := hp
    rcases hone with ⟨_, rfl, _⟩ | ⟨_, _, p, c, b, hpu⟩
    · exact prv_len h0 k _ c1 h1
    · exact pushE_len hpu
theorem jsB_all {now pn mn : Int} {A : List Rn} (h : ∀ r ∈ A, jC now pn r (agR mn r) = true) : ∀ j, j ≤ A.length → jsC now pn A (A.map (agR mn)) j = true
  | 0, _ => rfl
  | j + 1, hj => by
    show (jsC now pn A (A.map (agR mn)) j && _) = true
    rw [jsB_all h j (by omega), List.getElem?_map, List.getElem?_eq_getElem (by omega : j < A.length)]
    simp only [Option.map_some, Bool.true_and]
    exact h _ (List.getElem_mem _)
theorem tell_came {T : List Pt} {e : Ce} {now kind : Int} (h : PutOK T e) (hf : e.fin > now) : cameB T (tellE kind now e).2.1 now (tellE kind now e).2.2 = true ∧ ∀ y ∈ (tellE kind now e).2.2, -4294967296 ≤ y.l ∧ y.l ≤ 4294967296 := by
  obtain ⟨pt, hpt, h1, h2, h3, h4, h4b, h5⟩ := h
  unfold tellE
  simp only
  refine ⟨?_, fun y hy => ?_⟩
  · unfold cameB
    rw [List.any_eq_true]
    refine ⟨pt, hpt, ?_⟩
    unfold ptB
    rw [h1, h2, beq_self_eq_true, List.length_map, decide_eq_true rfl, jsB_all _ _ (Nat.le_refl _)]
    · rfl
    · intro r hr
      have := h5 r hr
      unfold jC agR
      simp only [beq_self_eq_true, Bool.true_and]
      rw [decide_eq_true (by omega), decide_eq_true (by omega), decide_eq_true (by omega)]
      rfl
  · obtain ⟨r, hr, rfl⟩ := List.mem_map.1 hy
    have := h5 r hr
    unfold agR
    simp only
    omega
/-- what Look says of a kept cache -/
theorem look_facts {S : List Ce} {T : List Pt} {n : ByteArray} {t now : Int} (h : Linv S T) :
    ((lookB S n t now).1 = 1 ∨ (lookB S n t now).1 = 2) ∧ (lookB S n t now).2.2 ≠ [] ∧ (0 ≤ now ∧ now ≤ 4294967295) ∧ cameB T (lookB S n t now).2.1 now (lookB S n t now).2.2 = true ∧ (∀ y ∈ (lookB S n t now).2.2, -4294967296 ≤ y.l ∧ y.l ≤ 4294967296) ∧ (lookB S n t now).2.2.length ≤ 1048576 ∨
    ((lookB S n t now).1 ≠ 1 ∧ (lookB S n t now).1 ≠ 2) ∧ (lookB S n t now).2.2 = [] := by
  by_cases hall : isN n = true ∧ 1 ≤ t ∧ t ≤ 65535 ∧ 0 ≤ now ∧ now ≤ 4294967295
  · have hone : ∀ (x : Int) (kind : Int) (e : Ce), atK Ce.key (setK n x) S = some e → e.fin > now → (tellE kind now e).2.2 ≠ [] ∧ cameB T (tellE kind now e).2.1 now (tellE kind now e).2.2 = true ∧ (∀ y ∈ (tellE kind now e).2.2, -4294967296 ≤ y.l ∧ y.l ≤ 4294967296) ∧ (tellE kind now e).2.2.length ≤ 1048576 := fun x kind e he hf => by
      obtain ⟨hes, hek⟩ := atK_some he
      have h0 : e.key.1 = 0 := by rw [hek]; rfl
      have hs := h.ok.set e hes h0
      obtain ⟨c1, c2⟩ := tell_came (kind := kind) (h.put e hes h0) hf
      refine ⟨?_, c1, c2, ?_⟩
      · unfold tellE
        simp only
        intro e1
        exact hs.1 (List.map_eq_nil_iff.1 e1)
      · unfold tellE
        simp only [List.length_map]
        exact hs.2
    cases h1 : aliveK (setK n t) S now with
    | true =>
      obtain ⟨e, he, hf⟩ := alive_some h1
      rw [lookB_set hall h1 he]
      obtain ⟨d1, d2, d3, d4⟩ := hone t 1 e he hf
      exact .inl ⟨.inl rfl, d1, hall.2.2.2, d2, d3, d4⟩
    | false =>
      cases h5 : aliveK (setK n 5) S now with
      | true =>
        obtain ⟨e, he, hf⟩ := alive_some h5
        rw [lookB_alias hall h1 h5 he]
        obtain ⟨d1, d2, d3, d4⟩ := hone 5 2 e he hf
        exact .inl ⟨.inr rfl, d1, hall.2.2.2, d2, d3, d4⟩
      | false =>
        rw [lookB_abs hall h1 h5]
        refine .inr ⟨?_, rfl⟩
        simp only
        rcases absB_in S now n t with h | h | h <;> rw [h] <;> decide
  · rw [lookB_no hall]
    exact .inr ⟨by decide, rfl⟩
/-- what lives at a greater rank isn't turned -/
theorem put_old {S : List Ce} {x : Rn} {l : List Rn} {rank now : Int} (h1 : (lookB S x.o x.t now).1 = 1) (h2 : (lookB S x.o x.t now).2.1 > rank) : putC S (x :: l) rank now ≠ 0 := by
  intro hc
  by_cases hall : isN x.o = true ∧ 1 ≤ x.t ∧ x.t ≤ 65535 ∧ 0 ≤ now ∧ now ≤ 4294967295
  · cases ha : aliveK (setK x.o x.t) S now with
    | true =>
      obtain ⟨e, he, hf⟩ := alive_some ha
      rw [lookB_set hall ha he] at h2
      unfold putC at hc
      split at hc
      · cases hc
      simp only at hc
      split at hc
      · rw [he] at hc
        simp only at hc
        rw [if_pos ⟨hf, h2⟩] at hc
        cases hc
      · cases hc
    | false =>
      cases h5 : aliveK (setK x.o 5) S now with
      | true =>
        obtain ⟨e, he, hf⟩ := alive_some h5
        rw [lookB_alias hall ha h5 he] at h1
        cases h1
      | false =>
        rw [lookB_abs hall ha h5] at h1
        simp only at h1
        rcases absB_in S now x.o x.t with h | h | h <;> rw [h] at h1 <;> cases h1
  · rw [lookB_no hall] at h1
    cases h1
theorem putC_time {S : List Ce} {R : List Rn} {rank now : Int} (h : putC S R rank now = 0) : 0 ≤ now ∧ now ≤ 4294967295 := by
  by_cases c : 0 ≤ now ∧ now ≤ 4294967295
  · exact c
  · rw [putC_arg (.inr (.inr c))] at h; cases h
theorem proveC_time {apex : ByteArray} {now : Int} (h : proveC apex now = 0) : 0 ≤ now ∧ now ≤ 4294967295 := by
  by_cases c : 0 ≤ now ∧ now ≤ 4294967295
  · exact c
  · unfold proveC at h; rw [if_pos c] at h; cases h
section
variable {w w1 : World} {L M P base : Nat} {most came : Int} {S : List Ce} {Q : List Qe}
/-- another block is written -/
theorem Cac.other (h : Cac w L M P base most came S Q) {r : Nat} {cs : Array Value} {T : TypeId} (hr : Bx w r cs T) (hT : T ≠ 54 ∧ T ≠ 50 ∧ T ≠ 63 ∧ T ≠ 36) (hg : w.grownBy w1 (some r)) : Cac w1 L M P base most came S Q := by
  obtain ⟨es, cl, hm⟩ := h.pm.isMap
  have hr' := hr
  unfold Bx at hr'
  have hK : ∀ (k : Nat) (cur : Array Value) (T2 : TypeId) (f : Nat × Nat), w.heap[k]? = some (.cells cur T2 f) → T2 ≠ T → w1.heap[k]? = some (.cells cur T2 f) := fun k cur T2 f hk hT => by
    refine (hg.block k (Array.getElem?_eq_some_iff.1 hk).1 (fun e => ?_)).trans hk
    injection e with e
    rw [e, hr'] at hk
    injection hk with hk
    injection hk with _ hk _
    exact hT hk.symm
  obtain ⟨t1, t2, t3, t4⟩ := hT
  refine ⟨hK _ _ _ _ h.bx (fun e => t2 e.symm), h.pm.kept hg (fun e => ?_), fun e he => ?_, fun q hq => ?_, h.all, h.gs, h.blk, h.keys, h.good, h.bL, h.bM, h.bP, h.mp, h.len, Nat.le_trans h.hw hg.size⟩
  · injection e with e
    rw [← e, hm] at hr'; cases hr'
  · obtain ⟨a, ⟨b1, b2⟩, c⟩ := h.en e he
    refine ⟨hK _ _ _ _ a (fun e => t3 e.symm), ⟨fun k hk => ?_, fun ad had => ?_⟩, c⟩
    · obtain ⟨g, off, hp, hgl, e0, e1, e2, e3, e4⟩ := b1 k hk
      obtain ⟨cur, T2, f, f1, f2, f3, f4, f5⟩ := b2 _ hp
      have hb := hK _ _ _ _ f1 (fun e => t4 (by rw [← e, f5]))
      rw [← f1] at hb
      have hc : ∀ j, w1.cell? ⟨g, j, none⟩ = w.cell? ⟨g, j, none⟩ := fun j => by simp only [World.cell?]; rw [hb]
      exact ⟨g, off, hp, Nat.lt_of_lt_of_le hgl hg.size, (hc _).trans e0, (hc _).trans e1, (hc _).trans e2, (hc _).trans e3, (hc _).trans e4⟩
    · obtain ⟨cur, T2, f, f1, f2, f3, f4, f5⟩ := b2 _ had
      exact ⟨cur, T2, f, hK _ _ _ _ f1 (fun e => t4 (by rw [← e, f5])), f2, f3, f4, f5⟩
  · obtain ⟨h1, h2, h3, h4⟩ := h.rows q hq
    obtain ⟨cur, hc⟩ := row_block h4
    exact ⟨h1, h2, h3, row_keptQ h4 ((hK _ _ _ _ hc (fun e => t1 e.symm)).trans hc.symm)⟩
theorem Emap.other (h : Emap w M S) {r : Nat} {cs : Array Value} {T : TypeId} (hr : Bx w r cs T) (hg : w.grownBy w1 (some r)) : Emap w1 M S := Lmap.kept h hg (fun e => by
  injection e with e
  obtain ⟨es, cl, hm⟩ := h.isMap
  unfold Bx at hr
  rw [← e, hm] at hr; cases hr)
theorem RsT.other {p : Option Addr} {R : List Rn} (h : RsT w p R) {r : Nat} {cs : Array Value} {T : TypeId} (hr : Bx w r cs T) (hT : T ≠ 36) (hg : w.grownBy w1 (some r)) : RsT w1 p R := by
  obtain ⟨b1, b2⟩ := h
  unfold Bx at hr
  have hK : ∀ (k : Nat) (cur : Array Value) (T2 : TypeId) (f : Nat × Nat), w.heap[k]? = some (.cells cur T2 f) → T2 ≠ T → w1.heap[k]? = some (.cells cur T2 f) := fun k cur T2 f hk hT => by
    refine (hg.block k (Array.getElem?_eq_some_iff.1 hk).1 (fun e => ?_)).trans hk
    injection e with e
    rw [e, hr] at hk
    injection hk with hk
    injection hk with _ hk _
    exact hT hk.symm
  refine ⟨fun k hk => ?_, fun ad had => ?_⟩
  · obtain ⟨g, off, hp, hgl, e0, e1, e2, e3, e4⟩ := b1 k hk
    obtain ⟨cur, T2, f, f1, f2, f3, f4, f5⟩ := b2 _ hp
    have hb := hK _ _ _ _ f1 (fun e => hT (by rw [← e, f5]))
    rw [← f1] at hb
    have hc : ∀ j, w1.cell? ⟨g, j, none⟩ = w.cell? ⟨g, j, none⟩ := fun j => by simp only [World.cell?]; rw [hb]
    exact ⟨g, off, hp, Nat.lt_of_lt_of_le hgl hg.size, (hc _).trans e0, (hc _).trans e1, (hc _).trans e2, (hc _).trans e3, (hc _).trans e4⟩
  · obtain ⟨cur, T2, f, f1, f2, f3, f4, f5⟩ := b2 _ had
    exact ⟨cur, T2, f, hK _ _ _ _ f1 (fun e => hT (by rw [← e, f5])), f2, f3, f4, f5⟩
theorem RsT.idle {p : Option Addr} {R : List Rn} (h : RsT w p R) (hg : w.grownBy w1 none) : RsT w1 p R := h.fk (M := 0) (P := 0) (base := 0) (Fk.idle hg)
end
end Go.Proofs.YtgekfhghambacaaGreat

/-
  Chapter 12: the law's state; the law's closed fact. (The verifier's own text.)
-/
namespace Go.Proofs.YtgekfhghambacaaGreat
set_option linter.unusedVariables false
set_option linter.unusedSimpArgs false
open Go.RowKit Go.Shelf Go.Maps Go.Proofs.YtgekfhghambacaaGreat.Nm

/-! ### puts in a row -/
def ptV (pt : Pt) : List Value := [.slice pt.p pt.L.length pt.c, .int .i64 pt.rank, .int .i64 pt.now]
def ptC (T : List Pt) : List Value := T.flatMap ptV
theorem ptC_len (T : List Pt) : (ptC T).length = T.length * 3 := by
  induction T with
  | nil => rfl
  | cons x l ih =>
    have e : ptC (x :: l) = ptV x ++ ptC l := by simp [ptC]
    rw [e, List.length_append, ih]
    show 3 + _ = _
    simp only [List.length_cons]; omega
theorem ptC_snoc (T : List Pt) (pt : Pt) : ptC (T ++ [pt]) = ptC T ++ ptV pt := by simp [ptC]
theorem ptC_get (T : List Pt) : ∀ j, (hj : j < T.length) → (ptC T)[j * 3]? = some (.slice T[j].p T[j].L.length T[j].c) ∧ (ptC T)[j * 3 + 1]? = some (.int .i64 T[j].rank) ∧ (ptC T)[j * 3 + 2]? = some (.int .i64 T[j].now) := by
  induction T with
  | nil => intro j hj; simp at hj
  | cons x T ih =>
    intro j hj
    have e : ptC (x :: T) = (.slice x.p x.L.length x.c) :: (.int .i64 x.rank) :: (.int .i64 x.now) :: ptC T := by simp [ptC, ptV]
    cases j with
    | zero => simp [e]
    | succ j =>
      have := ih j (by simpa using hj)
      rw [e]
      have e1 : (j + 1) * 3 = j * 3 + 1 + 1 + 1 := by omega
      rw [e1]
      simpa using this
theorem infoPT : (Tryz.prog.info? 39).map (fun i => (i.zero, i.size, i.bytes)) = some (some (.agg #[.slice none 0 0, .int .i64 0, .int .i64 0]), 3, 40) := by kernel_rfl
/-- 'append(l, put{..})' -/
theorem wpList_append_put {ops : Array Oper} {rest : List Oper} {o : Oper} {a : Act} {w : World} {Q : Exit → Act → World → Prop} (hgd : o.guard = none) (s x : Operand) (ho : o.op = .call { callee := .builtin .append, args := #[s, x], argTypes := #[28, 28] })
    (base : Nat) (v : Value) (n : Nat) (xs : List Value) (hs : a.eval s = v) (hown : w.ownsRow base 39 3 v n xs) (b : Nat) (pt : Pt) (hx : a.eval x = .slice (some ⟨b, 0, none⟩) 1 1) (hat : Bx w b (ptV pt).toArray 39) (h63 : n ≤ 10000000) (hbase : base ≤ w.heap.size)
    (h : ∀ v' w', w'.ownsRow base 39 3 v' (n + 1) (xs ++ ptV pt) → w.grownBy w' v.ownBlock → wpList Tryz.prog ops Q rest (a.put o.dst v') w') : wpList Tryz.prog ops Q (o :: rest) a w := by
  obtain ⟨i0, hi, hz0, hz1, hz2⟩ := info_parts infoPT
  refine wpList_append_own _ hgd s x 28 ho base 39 i0 (.agg #[.slice none 0 0, .int .i64 0, .int .i64 0]) 3 40 Tryz.underlying28 hi hz0 hz1 hz2 rfl (by decide) v n xs hs hown ⟨b, 0, none⟩ 1 1 (ptV pt) hx rfl (World.news_of_block (cs := (ptV pt).toArray) (t := 39) (fr := (0, 0)) hat) (by simp [ptV, Value.oneCell']) (by unfold maxLen; omega) (by omega) hbase ?_
  intro v' w' h1 h2 _
  exact h v' w' h1 h2
/-! ### the law's state -/
structure Lst (w wr : World) (L M P : Nat) (most : Int) (T : List Pt) (ql : Option Addr) (n cl : Nat) (S : List Ce) (Q : List Qe) (ck : Int) : Prop where
  cac : Cac wr L M P w.heap.size most ck S Q
  em : Emap wr M S
  bel : Below w.heap.size w wr
  row : wr.ownsRow w.heap.size 39 3 (.slice ql n cl) n (ptC T)
  pts : ∀ pt ∈ T, RsT wr pt.p pt.L
section
variable {w wr w1 : World} {L M P n cl : Nat} {most ck : Int} {T : List Pt} {ql : Option Addr} {S : List Ce} {Q : List Qe}
theorem Lst.len (h : Lst w wr L M P most T ql n cl S Q ck) : n = T.length := by
  have := h.row.1
  rw [ptC_len] at this
  omega
theorem put_block {base : Nat} {xs : List Value} {g : Nat} (h : wr.ownsRow base 39 3 (.slice ql n cl) n xs) (hg : (Value.slice ql n cl).ownBlock = some g) : ∃ cur, wr.heap[g]? = some (.cells cur 39 (0, 0)) := by
  obtain ⟨_, (⟨h1, _⟩ | ⟨g', cap, cur, h1, _, hg', _⟩)⟩ := h
  · rw [h1] at hg; cases hg
  · rw [h1] at hg
    unfold Value.ownBlock at hg
    injection hg with hg
    subst hg
    exact ⟨cur, hg'⟩
theorem Lst.idle (h : Lst w wr L M P most T ql n cl S Q ck) (hg : wr.grownBy w1 none) : Lst w w1 L M P most T ql n cl S Q ck :=
  ⟨h.cac.idle hg, Lmap.kept h.em hg (by simp), h.bel.grown hg h.bel.size (fun k e => by cases e), own_blk h.row (fun g hb => by
    obtain ⟨cur, hc⟩ := put_block h.row hb
    exact hg.block _ (Array.getElem?_eq_some_iff.1 hc).1 (by simp)), fun pt hp => (h.pts pt hp).idle hg⟩
theorem Lst.other (h : Lst w wr L M P most T ql n cl S Q ck) {r : Nat} {cs : Array Value} {X : TypeId} (hr : Bx wr r cs X) (hX : X ≠ 54 ∧ X ≠ 50 ∧ X ≠ 63 ∧ X ≠ 36 ∧ X ≠ 39) (hb : w.heap.size ≤ r) (hg : wr.grownBy w1 (some r)) : Lst w w1 L M P most T ql n cl S Q ck :=
  ⟨h.cac.other hr ⟨hX.1, hX.2.1, hX.2.2.1, hX.2.2.2.1⟩ hg, h.em.other hr hg, h.bel.grown hg h.bel.size (fun k e => by injection e with e; omega), own_blk h.row (fun g hb => by
    obtain ⟨cur, hc⟩ := put_block h.row hb
    refine hg.block _ (Array.getElem?_eq_some_iff.1 hc).1 (fun e => ?_)
    injection e with e
    unfold Bx at hr
    rw [← e, hc] at hr
    injection hr with hr
    injection hr with _ hr _
    exact hX.2.2.2.2 hr.symm), fun pt hp => (h.pts pt hp).other hr hX.2.2.2.1 hg⟩
theorem Lst.cache (h : Lst w wr L M P most T ql n cl S Q ck) {S' : List Ce} {Q' : List Qe} {ck' : Int} (hC : Cac w1 L M P w.heap.size most ck' S' Q') (hM : Emap w1 M S') (hF : Fk (FC M P) w.heap.size wr w1) : Lst w w1 L M P most T ql n cl S' Q' ck' :=
  ⟨hC, hM, h.bel.trans (hF.below h.bel.size), own_blk h.row (fun g hb => by
    obtain ⟨cur, hc⟩ := put_block h.row hb
    rw [hF.far _ _ hc (fun k => k.elim (fun e => absurd e (by decide)) (fun e => absurd e (by decide))), hc]), fun pt hp => (h.pts pt hp).fk hF⟩
/-- one more is noted -/
theorem Lst.note (h : Lst w wr L M P most T ql n cl S Q ck) {pt : Pt} (hp : RsT wr pt.p pt.L) {ql' : Option Addr} {cl' : Nat} (ho : w1.ownsRow w.heap.size 39 3 (.slice ql' (n + 1) cl') (n + 1) (ptC T ++ ptV pt)) (hg : wr.grownBy w1 (Value.slice ql n cl).ownBlock) : Lst w w1 L M P most (T ++ [pt]) ql' (n + 1) cl' S Q ck := by
  have hkeep : Cac w1 L M P w.heap.size most ck S Q ∧ Emap w1 M S ∧ Below w.heap.size w w1 ∧ ∀ (p : Option Addr) (A : List Rn), RsT wr p A → RsT w1 p A := by
    cases ho : (Value.slice ql n cl).ownBlock with
    | none =>
      rw [ho] at hg
      exact ⟨h.cac.idle hg, Lmap.kept h.em hg (by simp), h.bel.grown hg h.bel.size (fun k e => by cases e), fun p A hA => hA.idle hg⟩
    | some g =>
      obtain ⟨cur, hc⟩ := put_block h.row ho
      have hge := ownBlock_le h.row ho
      rw [ho] at hg
      exact ⟨h.cac.other (T := 39) hc (by decide) hg, h.em.other (T := 39) hc hg, h.bel.grown hg h.bel.size (fun k e => by injection e with e; omega), fun p A hA => hA.other (T := 39) hc (by decide) hg⟩
  obtain ⟨k1, k2, k3, k4⟩ := hkeep
  refine ⟨k1, k2, k3, by rw [ptC_snoc]; exact ho, fun q hq => ?_⟩
  rcases List.mem_append.1 hq with hq | hq
  · exact k4 _ _ (h.pts q hq)
  · rw [List.mem_singleton.1 hq]; exact k4 _ _ hp
theorem Lst.points (h : Lst w wr L M P most T ql n cl S Q ck) : PtsAt wr ql T := fun k hk => by
  have hn := h.len
  obtain ⟨_, (⟨h1, h2⟩ | ⟨g, cap, cur, h1, hb, hg, hn1, hcap, hsz, ht⟩)⟩ := h.row
  · omega
  · injection h1 with h1
    have hl := ptC_len T
    have hat : ∀ j v, (ptC T)[j]? = some v → wr.cell? ⟨g, 0 + j, none⟩ = some v := fun j v hv => by
      have hj : j < (ptC T).length := (List.getElem?_eq_some_iff.1 hv).1
      have h3 : cur[j]? = some v := by
        have h4 := congrArg (fun l => l[j]?) ht
        simp only [List.getElem?_take] at h4
        rw [if_pos (by omega)] at h4
        rw [hv] at h4
        rw [← h4]
        simp
      rw [Nat.zero_add]
      exact Bx.cell (w := wr) (R := g) (T := 39) hg h3
    obtain ⟨e0, e1, e2⟩ := ptC_get T k hk
    refine ⟨g, 0, h1, (Array.getElem?_eq_some_iff.1 hg).1, hat _ _ e0, ?_, ?_, (h.pts _ (List.getElem_mem hk)).1⟩
    · have := hat _ _ e1
      rwa [← Nat.add_assoc] at this
    · have := hat _ _ e2
      rwa [← Nat.add_assoc] at this
end
/-! ### the closed fact -/
def nmA : ByteArray := ⟨#[1, 97, 2, 101, 120, 0]⟩
def nmB : ByteArray := ⟨#[1, 65, 2, 101, 120, 0]⟩
theorem nmA_ds : dsB [adR 60] = true := by decide +kernel
theorem nmA_is : isN nmA = true := by decide +kernel
theorem nmB_is : isN nmB = true := by decide +kernel
theorem nm_fold : foldB nmB = foldB nmA := by decide +kernel
def alE (p : Option Addr) (c b : Nat) : Ce := ⟨setK nmA 1, 160, 1, 60, 3, [adR 60], p, c, b⟩
theorem outK_kind {x : Ky} {e : Ce} (h : e.key.1 ≠ x.1) : outK Ce.key x [e] = [e] := outK_none (fun f hf => by
  rw [List.mem_singleton.1 hf]
  exact fun k => h (by rw [k]))
theorem voids_kind {e : Ce} (h : e.key.1 ≠ 2) : ∀ us : List ByteArray, voidsS us [e] = [e]
  | [] => rfl
  | u :: us => by
    show voidsS us (outK Ce.key (voidK u) [e]) = [e]
    rw [outK_kind h]
    exact voids_kind h us
theorem al_put (p : Option Addr) (c b : Nat) : putS [adR 60] (adR 60).o (adR 60).t 100 3 0 p c b [] = [alE p c b] := by
  have ha : ageF [adR 60] = 60 := by decide
  have h1 : repS (setK (adR 60).o (adR 60).t) 100 (ageF [adR 60]) 3 0 [adR 60] p c b [] = [alE p c b] := by
    unfold repS
    rw [ha, if_neg (by decide)]
    rfl
  unfold putS
  rw [h1, outK_kind (by show (0 : Int) ≠ 1; decide), voids_kind (by show (0 : Int) ≠ 2; decide)]
theorem al_putC : putC [] [adR 60] 3 100 = 0 := putC_ok (by omega) nmA_ds (fun e he => by cases he)
theorem al_push {p : Option Addr} {c b : Nat} {S' : List Ce} (h : pushE 3 100 (putS [adR 60] (adR 60).o (adR 60).t 100 3 0 p c b []) S') : S' = [alE p c b] := by
  rw [al_put] at h
  rcases h with ⟨_, h⟩ | ⟨h, _⟩
  · exact h
  · simp at h
theorem al_at (p : Option Addr) (c b : Nat) : atK Ce.key (setK nmB 1) [alE p c b] = some (alE p c b) := by
  have e : (alE p c b).key = setK nmB 1 := by
    unfold alE setK
    rw [nm_fold]
  unfold atK
  rw [List.find?_cons, decide_eq_true e]
theorem al_look1 (p : Option Addr) (c b : Nat) : lookB [alE p c b] nmB 1 130 = (1, 3, [adR 30]) := by
  have ha : aliveK (setK nmB 1) [alE p c b] 130 = true := by unfold aliveK; rw [al_at]; rfl
  rw [lookB_set ⟨nmB_is, by decide, by decide, by decide, by decide⟩ ha (al_at p c b)]
  unfold tellE alE
  simp only [List.map_cons, List.map_nil]
  rfl
theorem al_no (p : Option Addr) (c b : Nat) (x : Ky) (h : x.1 ≠ 0 ∨ x.2.2.1 ≠ 1) (now : Int) : aliveK x [alE p c b] now = false := by
  have : atK Ce.key x [alE p c b] = none := atK_none.2 (fun e he => by
    rw [List.mem_singleton.1 he]
    intro k
    rcases h with h | h
    · exact h (by rw [← k]; rfl)
    · exact h (by rw [← k]; rfl))
  unfold aliveK
  rw [this]
theorem al_look2 (p : Option Addr) (c b : Nat) : (lookB [alE p c b] nmA 1 160).1 = 0 := by
  have h1 : aliveK (setK nmA 1) [alE p c b] 160 = false := by
    unfold aliveK
    have : atK Ce.key (setK nmA 1) [alE p c b] = some (alE p c b) := by
      unfold atK
      have e : (alE p c b).key = setK nmA 1 := rfl
      rw [List.find?_cons, decide_eq_true e]
    rw [this]
    rfl
  have h5 : aliveK (setK nmA 5) [alE p c b] 160 = false := al_no p c b _ (.inr (by show (5 : Int) ≠ 1; decide)) _
  rw [lookB_abs ⟨nmA_is, by decide, by decide, by decide, by decide⟩ h1 h5]
  show absB [alE p c b] 160 nmA 1 = 0
  unfold absB
  rw [if_neg (by rw [al_no p c b _ (.inl (by show (1 : Int) ≠ 0; decide))]; simp), if_neg]
  · unfold provedB
    have : (upL nmA).find? (fun x => !(pfL (foldB x) 160 [alE p c b]).isEmpty) = none := by
      rw [List.find?_eq_none]
      intro x _
      have : prK (foldB x) [alE p c b] = [] := by
        unfold prK
        rw [List.filter_cons]
        rfl
      unfold pfL
      rw [this]
      simp [recsA]
    rw [this]
  · rw [List.any_eq_true]
    rintro ⟨x, _, h⟩
    rw [al_no p c b _ (.inl (by show (2 : Int) ≠ 0; decide))] at h
    cases h
theorem al_ok (p : Option Addr) (c b : Nat) : EOk [alE p c b] :=
  ⟨fun e he _ => by rw [List.mem_singleton.1 he]; exact ⟨by unfold alE; simp, by unfold alE; simp⟩, fun e he => by rw [List.mem_singleton.1 he]; unfold alE; simp only; omega, fun e he h => by rw [List.mem_singleton.1 he] at h; exact absurd h (by show (0 : Int) ≠ 3; decide)⟩
end Go.Proofs.YtgekfhghambacaaGreat

/-
  Chapter 12: gazetteerlaw8.alive. (The verifier's own text.)
-/
namespace Go.Proofs.YtgekfhghambacaaGreat
set_option linter.unusedVariables false
set_option linter.unusedSimpArgs false
open Go.RowKit Go.Shelf Go.Maps Go.Proofs.YtgekfhghambacaaGreat.Nm

set_option maxRecDepth 100000 in
set_option maxHeartbeats 4000000 in
/-- gazetteerlaw8.alive -/
theorem alive_any (w : World) : Calls Tryz.prog 5 #[] w fun e w' => e = .returned (.bool true) ∧ Below w.heap.size w w' := by
  have HN := hide' (new_yes 3 w (by decide) (by decide))
  have HA := hide' (fun l V => address_any l V)
  go_enter Tryz.func5, Tryz.ntmps5
  have hfd : ∀ (V : World) (a b : Int) (q : Option Addr) (n c : Nat), (Instr.field 33 (.agg #[.int .i64 a, .int .i64 b, .slice q n c]) 0).run Tryz.prog V = .ok (.int .i64 a) V := fun V a b q n c => by
    first | rfl | simp [Instr.field, go_sem]
  have T1 : Hid True := trivial
  have T2 : Hid True := trivial
  go_wp2_with (first
    | (go_at_call 4; refine HN.out.mono ?_; rintro e1 w1 hN; obtain ⟨⟨L, M, P, rfl, hC, hM⟩, hB⟩ := hN; have HC1 := hide' hC; have HM1 := hide' hM; have HB1 := hide' hB; clear hC hM hB)
    | (go_at_call 14; have _ := T1; clear T1; refine (HA.out _ _).mono ?_; rintro e2 w2 ⟨rfl, hR2, hB2⟩; have HG2 : Hid (w1.grownBy w2 none) := grown_below hB2 none; have HPu := hide' (callsIn_wide.1 (put_in (HC1.out.idle HG2.out) (Lmap.kept HM1.out HG2.out (by simp)) (by decide) (by decide) (by decide) (by decide) (by decide) [adR 60] (some ⟨w1.heap.size, 0, none⟩) 1 3 100 hR2 (by decide) (fun r hr => (List.mem_singleton.1 hr) ▸ ⟨(by decide), (by decide)⟩))); clear hR2 hB2)
    | (go_at_call 7; refine HPu.out.mono ?_; rintro e3 w3 hP; obtain ⟨hP1, S3, Q3, c3, hC3, hM3, hF3, hP2⟩ := hP; rw [al_putC] at hP1 hP2; subst hP1; have hP3 := hP2.resolve_left (fun h => h.1 rfl); obtain ⟨-, -, x, l, hx, p0, cc0, b0, -, hpu⟩ := hP3; injection hx with hx1 hx2; subst hx1; have hS3 := al_push hpu; subst hS3; have HC3 := hide' hC3; have HM3 := hide' hM3; have HF3 : Hid (Below w.heap.size w w3) := ((HB1.out.grown HG2.out HB1.out.size (fun k e => by cases e)).trans (hF3.below (Nat.le_trans HB1.out.size HG2.out.size))); have HL1 := hide' (look_any hC3 hM3 (al_ok p0 cc0 b0) (by decide) nmB 1 130 (by unfold maxLen; decide)); rw [al_look1] at HL1; clear hC3 hM3 hF3 hpu hx2 hP2)
    | (go_at_call 6; have _ := T2; clear T2; refine HL1.out.mono ?_; rintro e4 w4 hE; obtain ⟨⟨v4, hv4, ho4⟩, hB4⟩ := hE; obtain ⟨q4, c4, rfl, -⟩ := own_shape ho4; have hv4' : e4 = .returned (.agg #[.int .i64 1, .int .i64 3, .slice q4 1 c4]) := hv4; subst hv4'; have HR4 : Hid (RsAt w4 q4 [adR 30]) := rs_ownC ho4; have HG4 : Hid (w3.grownBy w4 none) := grown_below hB4 none; clear ho4 hB4 hv4)
    | (go_at_call 14; refine (HA.out _ _).mono ?_; rintro e5 w5 ⟨rfl, hR5, hB5⟩; have HR5 := hide' hR5; have HG5 : Hid (w4.grownBy w5 none) := grown_below hB5 none; have HKn := hide' (knownL_any 1 3 q4 (some ⟨w4.heap.size, 0, none⟩) 1 c4 1 [adR 30] w5 (rs_bel HR4.out hB5) hR5 rfl (by decide)); clear hR5 hB5)
    | (go_at_call 8; refine HKn.out.mono ?_; rintro e6 w6 ⟨rfl, hB6⟩; have HG6 : Hid (w3.grownBy w6 none) := (grown_trans HG4.out (grown_trans HG5.out (grown_below hB6 none))); have HL2 := hide' (look_any (HC3.out.idle HG6.out) (Lmap.kept HM3.out HG6.out (by simp)) (al_ok p0 cc0 b0) (by decide) nmA 1 160 (by unfold maxLen; decide)); have hk0 := al_look2 p0 cc0 b0; generalize lookB [alE p0 cc0 b0] nmA 1 160 = K2 at HL2 hk0; obtain ⟨k2, r2, l2⟩ := K2; simp only at hk0; subst hk0; clear hB6)
    | (go_at_call 6; refine HL2.out.mono ?_; rintro e7 w7 hE; obtain ⟨⟨v7, hv7, ho7⟩, hB7⟩ := hE; obtain ⟨q7, c7, rfl, -⟩ := own_shape ho7; simp only at hv7; subst hv7; have HB7 : Hid (Below w.heap.size w w7) := (((HF3.out.grown HG6.out HF3.out.size (fun k e => by cases e))).trans (hB7.mono (Nat.le_trans HF3.out.size HG6.out.size))); clear ho7 hB7))

  go_ret
  exact ⟨rfl, HB7.out⟩
end Go.Proofs.YtgekfhghambacaaGreat
