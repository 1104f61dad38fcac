import Derived.Test.YtoabnpdoicbpiaaGreatZq1G
import Derived.Test.YtoabnpdoicbpiaaGreatZp4G
namespace Go.Proofs.YtoabnpdoicbpiaaGreat
set_option linter.unusedVariables false
set_option linter.unusedSimpArgs false
open Go.RowKit Go.Shelf Go.Maps Go.Proofs.YtoabnpdoicbpiaaGreat.Nm Go.Proofs.YtoabnpdoicbpiaaGreat.Zs
theorem below_quietZ {w : World} (m : Nat) : Below w.heap.size w (w.drewN m) := ⟨rfl, rfl, rfl, Nat.le_refl _, fun _ _ => rfl⟩
theorem Zon.pos {n : Nat} {W : World} {apex : ByteArray} {L : List Rn} {ord : List Nat} {Z RW NM C m cnt : Nat} {p : Option Addr} {cp : Nat} {f : ByteArray → Option Nat} (h : Zon n W apex L ord Z RW NM C m cnt p cp f) : 0 < L.length := by
 have h6 : (if hasB L apex 6 = true then (-2 : Int) else -1) = -2 := h.rule (i := 2) (by show 2 < 8; omega)
 rcases Nat.eq_zero_or_pos L.length with h0 | h0
 ·exfalso
  have : L = [] := List.eq_nil_of_length_eq_zero h0
  subst this
  simp [hasB] at h6
 ·exact h0
theorem own_some {w : World} {b n : Nat} {v : Value} {xs : List Value} (h : w.ownsRow b 29 5 v n xs) (hn : 0 < n) : ∃ g c, v = .slice (some ⟨g, 0, none⟩) n c := by
 obtain ⟨hl, (⟨h1, h0⟩ | ⟨g, cap, cur, h1, _⟩)⟩ := h
 ·omega
 ·exact ⟨g, cap, h1⟩
end Go.Proofs.YtoabnpdoicbpiaaGreat
namespace Go.Proofs.YtoabnpdoicbpiaaGreat
set_option linter.unusedVariables false
set_option linter.unusedSimpArgs false
open Go.RowKit Go.Shelf Go.Maps Go.Proofs.YtoabnpdoicbpiaaGreat.Nm Go.Proofs.YtoabnpdoicbpiaaGreat.Zs
theorem kept_iff (P : Nat → Bool) (n : Nat) : fstI P n = -2 ↔ ∀ j, j < n → P j = false := ⟨fst_inv, fst_kept⟩
theorem pw_at (R : Rn → Rn → Prop) (L : List Rn) : L.Pairwise R ↔ ∀ i j, i < j → j < L.length → R (rAt L i) (rAt L j) := by
 rw [List.pairwise_iff_getElem]
 constructor
 ·intro h i j hij hj
  have := h i j (by omega) hj hij
  rwa [rAt_get (show i < L.length by omega), rAt_get hj] at this
 ·intro h i j hi hj hij
  rw [rAt_get hi, rAt_get hj]
  exact h i j hij hj
theorem mem_all (R : Rn → Prop) (L : List Rn) : (∀ r ∈ L, R r) ↔ ∀ j, j < L.length → R (rAt L j) := by
 constructor
 ·intro h j hj
  exact h _ (rAt_mem hj)
 ·intro h r hr
  obtain ⟨i, hi, rfl⟩ := mem_at hr
  exact h i hi
theorem eqB_sym {a b : ByteArray} (h : eqB a b = true) : eqB b a = true := by
 rw [eqB_iff] at h ⊢
 exact ⟨h.2.1, h.1, h.2.2.symm⟩
theorem eqB_tr {a b c : ByteArray} (h1 : eqB a b = true) (h2 : eqB b c = true) : eqB a c = true := by
 rw [eqB_iff] at h1 h2 ⊢
 exact ⟨h1.1, h2.2.1, h1.2.2.trans h2.2.2⟩
theorem any_perm {L M : List Rn} (h : L.Perm M) (P : Rn → Bool) : L.any P = M.any P := by
 rw [Bool.eq_iff_iff, List.any_eq_true, List.any_eq_true]
 constructor
 ·rintro ⟨x, hx, e⟩; exact ⟨x, h.mem_iff.1 hx, e⟩
 ·rintro ⟨x, hx, e⟩; exact ⟨x, h.mem_iff.2 hx, e⟩
def keepR (apex : ByteArray) (rule : Nat) (L : List Rn) : Prop := ∀ j, j < L.length → brkB apex L rule j = false
section
variable {apex : ByteArray} {L : List Rn}
theorem keep2 : keepR apex 2 L ↔ ∀ r ∈ L, brk2 r = false := by rw [mem_all]; exact Iff.rfl
theorem keep3 : keepR apex 3 L ↔ ∀ r ∈ L, brk3 apex r = false := by rw [mem_all]; exact Iff.rfl
theorem keep7 : keepR apex 7 L ↔ ∀ r ∈ L, brk7 r = false := by rw [mem_all]; exact Iff.rfl
theorem keep4 : keepR apex 4 L ↔ L.Pairwise (fun x y => alikeB x y = false) := by
 rw [pw_at]
 constructor
 ·intro h i j hij hj
  have := h j hj
  change brk4 L j (rAt L j) = false at this
  unfold brk4 at this
  rw [List.any_eq_false] at this
  simpa using this i (List.mem_range.2 hij)
 ·intro h j hj
  change brk4 L j (rAt L j) = false
  unfold brk4
  rw [List.any_eq_false]
  intro i hi
  simpa using h i j (List.mem_range.1 hi) hj
theorem keep5 : keepR apex 5 L ↔ (L.Pairwise (fun x y => ¬ (x.t = 6 ∧ y.t = 6)) ∧ ∀ r ∈ L, r.t = 6 → eqB r.o apex = true) := by
 rw [pw_at, mem_all]
 constructor
 ·intro h
  refine ⟨fun i j hij hj hc => ?_, fun j hj ht => ?_⟩
  ·have := h j hj
   change brk5 apex L j (rAt L j) = false at this
   unfold brk5 at this
   rw [decide_eq_true hc.2, Bool.true_and, Bool.or_eq_false_iff, List.any_eq_false] at this
   have := this.1 i (List.mem_range.2 hij)
   rw [decide_eq_true hc.1] at this
   exact this rfl
  ·have := h j hj
   change brk5 apex L j (rAt L j) = false at this
   unfold brk5 at this
   rw [decide_eq_true ht, Bool.true_and, Bool.or_eq_false_iff] at this
   simpa using this.2
 ·rintro ⟨h1, h2⟩ j hj
  change brk5 apex L j (rAt L j) = false
  unfold brk5
  by_cases ht : (rAt L j).t = 6
  ·rw [decide_eq_true ht, Bool.true_and, Bool.or_eq_false_iff, List.any_eq_false]
   refine ⟨fun i hi hc => h1 i j (List.mem_range.1 hi) hj ⟨of_decide_eq_true hc, ht⟩, by rw [h2 j hj ht]; rfl⟩
  ·rw [decide_eq_false ht]; rfl
theorem keep8 : keepR apex 8 L ↔ L.Pairwise (fun x y => (x.t = 5 → eqB y.o x.o = true → othB y = false) ∧ (y.t = 5 → eqB x.o y.o = true → othB x = false)) := by
 rw [pw_at]
 have key : ∀ k, k < L.length → (brkB apex L 8 k = false ↔ ((rAt L k).t = 5 → ∀ j, j < L.length → j ≠ k → eqB (rAt L j).o (rAt L k).o = true → othB (rAt L j) = false)) := by
  intro k hk
  change brk8 L k (rAt L k) = false ↔ _
  unfold brk8
  by_cases ht : (rAt L k).t = 5
  ·rw [decide_eq_true ht, Bool.true_and, List.any_eq_false]
   constructor
   ·intro h _ j hj hne he
    have := h j (List.mem_range.2 hj)
    rw [decide_eq_false hne, he] at this
    simpa using this
   ·intro h j hj hc
    rw [Bool.and_eq_true, Bool.and_eq_true] at hc
    have hne : j ≠ k := by simpa using hc.1
    rw [h ht j (List.mem_range.1 hj) hne hc.2.1] at hc
    exact absurd hc.2.2 (by simp)
  ·rw [decide_eq_false ht]
   simp [ht]
 constructor
 ·intro h i j hij hj
  exact ⟨fun ht he => (key i (by omega)).1 (h i (by omega)) ht j hj (by omega) he, fun ht he => (key j hj).1 (h j hj) ht i (by omega) (by omega) he⟩
 ·intro h k hk
  refine (key k hk).2 fun ht j hj hne he => ?_
  rcases Nat.lt_or_gt_of_ne hne with h1 | h1
  ·exact (h j k h1 hk).2 ht he
  ·exact (h k j h1 hj).1 ht he
theorem keep9 : keepR apex 9 L ↔ (L.Pairwise (fun x y => (x.t = 39 → ¬ (eqB y.o x.o = true ∧ y.t = 39)) ∧ (y.t = 39 → ¬ (eqB x.o y.o = true ∧ x.t = 39))) ∧ (∀ x ∈ L, ∀ y ∈ L, x.t = 39 → ¬ (eqB y.o x.o = false ∧ withinB y.o x.o = true)) ∧ ∀ x ∈ L, x.t = 39 → eqB x.o apex = false) := by
 have key : ∀ k, k < L.length → (brkB apex L 9 k = false ↔ ((rAt L k).t = 39 → (∀ j, j < L.length → (j ≠ k → ¬ (eqB (rAt L j).o (rAt L k).o = true ∧ (rAt L j).t = 39)) ∧ ¬ (eqB (rAt L j).o (rAt L k).o = false ∧ withinB (rAt L j).o (rAt L k).o = true)) ∧ eqB (rAt L k).o apex = false)) := by
  intro k hk
  change brk9 apex L k (rAt L k) = false ↔ _
  unfold brk9
  by_cases ht : (rAt L k).t = 39
  ·rw [decide_eq_true ht, Bool.true_and, Bool.or_eq_false_iff, List.any_eq_false]
   constructor
   ·rintro ⟨h1, h2⟩ _
    refine ⟨fun j hj => ⟨fun hne hc => ?_, fun hc => ?_⟩, h2⟩
    ·have := h1 j (List.mem_range.2 hj)
     rw [decide_eq_false hne, hc.1, decide_eq_true hc.2] at this
     simp at this
    ·have := h1 j (List.mem_range.2 hj)
     rw [hc.1, hc.2] at this
     simp at this
   ·intro h
    obtain ⟨h1, h2⟩ := h ht
    refine ⟨fun j hj hc => ?_, h2⟩
    obtain ⟨a1, a2⟩ := h1 j (List.mem_range.1 hj)
    rw [Bool.or_eq_true, Bool.and_eq_true, Bool.and_eq_true, Bool.and_eq_true] at hc
    rcases hc with ⟨b1, b2, b3⟩ | ⟨b1, b2⟩
    ·exact a1 (by simpa using b1) ⟨b2, of_decide_eq_true b3⟩
    ·exact a2 ⟨by simpa using b1, b2⟩
  ·rw [decide_eq_false ht]
   simp [ht]
 rw [pw_at]
 constructor
 ·intro h
  refine ⟨fun i j hij hj => ⟨fun ht => (((key i (by omega)).1 (h i (by omega)) ht).1 j hj).1 (by omega), fun ht => (((key j hj).1 (h j hj) ht).1 i (by omega)).1 (by omega)⟩, fun x hx y hy ht => ?_, fun x hx ht => ?_⟩
  ·obtain ⟨i, hi, rfl⟩ := mem_at hx
   obtain ⟨j, hj, rfl⟩ := mem_at hy
   exact (((key i hi).1 (h i hi) ht).1 j hj).2
  ·obtain ⟨i, hi, rfl⟩ := mem_at hx
   exact ((key i hi).1 (h i hi) ht).2
 ·rintro ⟨h1, h2, h3⟩ k hk
  refine (key k hk).2 fun ht => ⟨fun j hj => ⟨fun hne => ?_, h2 _ (rAt_mem hk) _ (rAt_mem hj) ht⟩, h3 _ (rAt_mem hk) ht⟩
  rcases Nat.lt_or_gt_of_ne hne with h4 | h4
  ·exact (h1 j k h4 hk).2 ht
  ·exact (h1 k j h4 hj).1 ht
theorem keep10 : keepR apex 10 L ↔ L.Pairwise (fun x y => x.t ≠ 46 → x.t = y.t → eqB x.o y.o = true → x.l = y.l) := by
 rw [pw_at]
 have key : ∀ k, k < L.length → (brkB apex L 10 k = false ↔ ∀ j, (List.range k).find? (fun j => !decide ((rAt L k).t = 46) && (decide ((rAt L j).t = (rAt L k).t) && eqB (rAt L j).o (rAt L k).o)) = some j → (rAt L j).l = (rAt L k).l) := by
  intro k hk
  change brk10 L k (rAt L k) = false ↔ _
  unfold brk10
  cases hf : (List.range k).find? (fun j => !decide ((rAt L k).t = 46) && (decide ((rAt L j).t = (rAt L k).t) && eqB (rAt L j).o (rAt L k).o)) with
  | none => simp
  | some j => simp
 constructor
 ·intro h i j hij hj h46 ht he
  have hfind : ∀ k, k < L.length → ∀ i, i < k → (rAt L k).t ≠ 46 → (rAt L i).t = (rAt L k).t → eqB (rAt L i).o (rAt L k).o = true → ∃ m, m ≤ i ∧ (rAt L m).t = (rAt L k).t ∧ eqB (rAt L m).o (rAt L k).o = true ∧ (rAt L m).l = (rAt L k).l ∧ ∀ q, q < m → ¬ ((rAt L q).t = (rAt L k).t ∧ eqB (rAt L q).o (rAt L k).o = true) := by
   intro k hk i hik h46 ht he
   cases hf : (List.range k).find? (fun j => !decide ((rAt L k).t = 46) && (decide ((rAt L j).t = (rAt L k).t) && eqB (rAt L j).o (rAt L k).o)) with
   | none =>
    rw [List.find?_eq_none] at hf
    have := hf i (List.mem_range.2 hik)
    rw [decide_eq_false h46, decide_eq_true ht, he] at this
    simp at this
   | some m =>
    have h1 := (key k hk).1 (h k hk) m hf
    rw [List.find?_range_eq_some] at hf
    obtain ⟨p1, p2, p3⟩ := hf
    rw [Bool.and_eq_true, Bool.and_eq_true] at p1
    refine ⟨m, ?_, of_decide_eq_true p1.2.1, p1.2.2, h1, fun q hq hc => ?_⟩
    ·rcases Nat.lt_or_ge i m with hl | hl
     ·have := p3 i hl
      rw [decide_eq_false h46, decide_eq_true ht, he] at this
      simp at this
     ·exact hl
    ·have := p3 q hq
     rw [decide_eq_false h46, decide_eq_true hc.1, hc.2] at this
     simp at this
  obtain ⟨m, m1, m2, m3, m4, m5⟩ := hfind j hj i hij (by rw [← ht]; exact h46) ht he
  rcases Nat.lt_or_ge m i with hl | hl
  ·obtain ⟨m', n1, n2, n3, n4, n5⟩ := hfind i (by omega) m hl h46 (by rw [m2, ht]) (eqB_tr m3 (eqB_sym he))
   have e : m' = m := by
    rcases Nat.lt_or_ge m' m with hq | hq
    ·exact absurd ⟨n2.trans ht, eqB_tr n3 he⟩ (m5 m' hq)
    ·omega
   rw [e] at n4
   rw [← n4, m4]
  ·obtain rfl : m = i := by omega
   exact m4
 ·intro h k hk
  refine (key k hk).2 fun j hf => ?_
  rw [List.find?_range_eq_some] at hf
  obtain ⟨p1, p2, p3⟩ := hf
  rw [Bool.and_eq_true, Bool.and_eq_true] at p1
  have hjk : j < k := by simpa using p2
  have ht := of_decide_eq_true p1.2.1
  exact h j k hjk hk (by rw [ht]; simpa using p1.1) ht p1.2.2
end
theorem keep_perm {apex : ByteArray} {L M : List Rn} (h : L.Perm M) {rule : Nat} (hr : rule = 2 ∨ rule = 3 ∨ rule = 4 ∨ rule = 5 ∨ rule = 7 ∨ rule = 8 ∨ rule = 9 ∨ rule = 10) : keepR apex rule L ↔ keepR apex rule M := by
 rcases hr with rfl | rfl | rfl | rfl | rfl | rfl | rfl | rfl
 ·rw [keep2, keep2]; exact ⟨fun a r hr => a r (h.mem_iff.2 hr), fun a r hr => a r (h.mem_iff.1 hr)⟩
 ·rw [keep3, keep3]; exact ⟨fun a r hr => a r (h.mem_iff.2 hr), fun a r hr => a r (h.mem_iff.1 hr)⟩
 ·rw [keep4, keep4]
  refine h.pairwise_iff fun {x y} hxy => ?_
  cases hc : alikeB y x with
  | false => rfl
  | true =>
   unfold alikeB at hc hxy
   rw [Bool.and_eq_true, Bool.and_eq_true] at hc
   have h1 := of_decide_eq_true hc.1
   have h2 := of_decide_eq_true hc.2.2
   rw [decide_eq_true h1.symm, eqB_sym hc.2.1, decide_eq_true h2.symm] at hxy
   cases hxy
 ·rw [keep5, keep5]
  refine and_congr (h.pairwise_iff fun {x y} hxy hc => hxy ⟨hc.2, hc.1⟩) ⟨fun a r hr => a r (h.mem_iff.2 hr), fun a r hr => a r (h.mem_iff.1 hr)⟩
 ·rw [keep7, keep7]; exact ⟨fun a r hr => a r (h.mem_iff.2 hr), fun a r hr => a r (h.mem_iff.1 hr)⟩
 ·rw [keep8, keep8]
  exact h.pairwise_iff fun {x y} hxy => ⟨hxy.2, hxy.1⟩
 ·rw [keep9, keep9]
  refine and_congr (h.pairwise_iff fun {x y} hxy => ⟨hxy.2, hxy.1⟩) (and_congr ⟨fun a x hx y hy => a x (h.mem_iff.2 hx) y (h.mem_iff.2 hy), fun a x hx y hy => a x (h.mem_iff.1 hx) y (h.mem_iff.1 hy)⟩ ⟨fun a r hr => a r (h.mem_iff.2 hr), fun a r hr => a r (h.mem_iff.1 hr)⟩)
 ·rw [keep10, keep10]
  exact h.pairwise_iff fun {x y} hxy h46 ht he => (hxy (by rw [← ht]; exact h46) ht.symm (eqB_sym he)).symm
theorem flt_code : ∀ (A B : List (Int × Int)), A.map Prod.fst = B.map Prod.fst → (∀ i (ha : i < A.length) (hb : i < B.length), A[i].2 = -2 ↔ B[i].2 = -2) → (fltR A).2 = (fltR B).2
 | [], [], _, _ => rfl
 | [], b :: B, h, _ => by simp at h
 | a :: A, [], h, _ => by simp at h
 | (c, v) :: A, (c', v') :: B, h, hk => by
  simp only [List.map_cons, List.cons.injEq] at h
  obtain ⟨rfl, h⟩ := h
  have h0 := hk 0 (by simp) (by simp)
  simp only [List.getElem_cons_zero] at h0
  rw [fltR_cons, fltR_cons]
  by_cases e : v = -2
  ·rw [if_pos e, if_pos (h0.1 e)]
   exact flt_code A B h fun i ha hb => by
    have := hk (i + 1) (by simpa using ha) (by simpa using hb)
    simpa using this
  ·rw [if_neg e, if_neg (fun e2 => e (h0.2 e2))]
theorem mkC_perm {apex : ByteArray} {L M : List Rn} (h : L.Perm M) : (mkC apex L).2 = (mkC apex M).2 := by
 unfold mkC
 rw [h.length_eq]
 split
 ·split
  ·rfl
  ·refine flt_code _ _ rfl fun i ha hb => ?_
   have hl : (mkM apex L).length = 10 := mkM_len apex L
   have h6 : hasB L apex 6 = hasB M apex 6 := any_perm h _
   have h2 : hasB L apex 2 = hasB M apex 2 := any_perm h _
   have k := fun rule hr => (kept_iff (brkB apex L rule) L.length).trans ((keep_perm (apex := apex) h (rule := rule) hr).trans (kept_iff (brkB apex M rule) M.length).symm)
   have hi : i = 0 ∨ i = 1 ∨ i = 2 ∨ i = 3 ∨ i = 4 ∨ i = 5 ∨ i = 6 ∨ i = 7 ∨ i = 8 ∨ i = 9 := by omega
   rcases hi with rfl | rfl | rfl | rfl | rfl | rfl | rfl | rfl | rfl | rfl
   ·exact k 2 (by omega)
   ·exact k 3 (by omega)
   ·exact k 4 (by omega)
   ·exact k 5 (by omega)
   ·show (if hasB L apex 6 = true then (-2 : Int) else -1) = -2 ↔ (if hasB M apex 6 = true then (-2 : Int) else -1) = -2
    rw [h6]
   ·show (if hasB L apex 2 = true then (-2 : Int) else -1) = -2 ↔ (if hasB M apex 2 = true then (-2 : Int) else -1) = -2
    rw [h2]
   ·exact k 7 (by omega)
   ·exact k 8 (by omega)
   ·exact k 9 (by omega)
   ·exact k 10 (by omega)
 ·rfl
end Go.Proofs.YtoabnpdoicbpiaaGreat
