import Derived.Test.YtgekfhghambacaaGreatCc7
import Derived.Deep.AppendLies
/-
  Chapter 12: an entry comes into a cache, plainly. (The verifier's own text.)
-/
namespace Go.Proofs.YtgekfhghambacaaGreat
set_option linter.unusedVariables false
set_option linter.unusedSimpArgs false
open Go.RowKit Go.Shelf Go.Maps

theorem prK_snoc {a : ByteArray} {S : List Ce} {e : Ce} (h : e.key.1 ≠ 3 ∨ e.key.2.2.2 ≠ a) : prK a (S ++ [e]) = prK a S := by
  unfold prK
  rw [List.filter_append]
  have : (decide (e.key.1 = 3) && decide (e.key.2.2.2 = a)) = false := by
    rcases h with h | h
    · rw [decide_eq_false h]; rfl
    · rw [decide_eq_false h, Bool.and_false]
  simp [this]
theorem prK_snoc1 {a : ByteArray} {S : List Ce} {e : Ce} (h : e.key.1 = 3) (h2 : e.key.2.2.2 = a) : prK a (S ++ [e]) = prK a S ++ [e] := by
  unfold prK
  rw [List.filter_append]
  simp [h, h2]
section
variable {w w1 w2 : World} {L M P base : Nat} {most came : Int} {S : List Ce} {Q : List Qe}
theorem nodup_snoc {α β : Type} {f : α → β} {S : List α} {e : α} (h : (S.map f).Nodup) (hn : ∀ g ∈ S, f g ≠ f e) : ((S ++ [e]).map f).Nodup := by
  rw [List.map_append, List.nodup_append]
  refine ⟨h, by simp, fun a ha b hb => ?_⟩
  obtain ⟨g, hg, rfl⟩ := List.mem_map.1 ha
  have hb : b = f e := by simpa using hb
  rw [hb]
  exact hn g hg
/-- the cache's own box is written -/
theorem Cac.boxL (h : Cac w L M P base most came S Q) {came' : Int} (hg : w.grownBy w1 (some L)) (hb : Bx w1 L #[.int .i64 most, .int .i64 came', .map (some M), .map (some P)] 50) : Cac w1 L M P base most came' S Q := by
  have f : Fk (FC M P) 0 w w1 := Fk.one hg h.bx (.inr rfl) (Nat.zero_le _)
  obtain ⟨es, cl, hm⟩ := h.pm.isMap
  have hLP : P ≠ L := fun e => by
    have hb := h.bx
    unfold Bx at hb
    rw [← e, hm] at hb; cases hb
  refine ⟨hb, h.pm.kept hg (fun e => hLP (by injection e)), fun e he => (h.en e he).fk f, fun q hq => ?_, h.all, h.gs, h.blk, h.keys, h.good, h.bL, h.bM, h.bP, h.mp, h.len, Nat.le_trans h.hw hg.size⟩
  obtain ⟨h1, h2, h3, h4⟩ := h.rows q hq
  obtain ⟨cur, hc⟩ := row_block h4
  refine ⟨h1, h2, h3, row_keptQ h4 (hg.block _ (Array.getElem?_eq_some_iff.1 hc).1 (fun e => ?_))⟩
  injection e with e
  have hb := h.bx
  unfold Bx at hb
  rw [← e, hc] at hb
  injection hb with hb
  injection hb with _ hb _
  exact absurd hb (by decide)
/-- an entry that isn't (yet) one of the cache's is written -/
theorem Cac.far (h : Cac w L M P base most came S Q) {r : Nat} {cs : Array Value} (hr : Bx w r cs 63) (hn : ∀ e ∈ S, e.blk ≠ r) (hg : w.grownBy w1 (some r)) : Cac w1 L M P base most came S Q := by
  obtain ⟨es, cl, hm⟩ := h.pm.isMap
  have hr' := hr
  unfold Bx at hr'
  have hT : ∀ (k : Nat) (cur : Array Value) (T : TypeId) (f : Nat × Nat), w.heap[k]? = some (.cells cur T f) → T ≠ 63 → w1.heap[k]? = some (.cells cur T f) := fun k cur T f hk hT => by
    refine (hg.block k (Array.getElem?_eq_some_iff.1 hk).1 (fun e => ?_)).trans hk
    injection e with e
    rw [e, hr'] at hk
    injection hk with hk
    injection hk with _ hk _
    exact hT hk.symm
  refine ⟨hT _ _ _ _ h.bx (by decide), h.pm.kept hg (fun e => ?_), fun e he => ?_, fun q hq => ?_, h.all, h.gs, h.blk, h.keys, h.good, h.bL, h.bM, h.bP, h.mp, h.len, Nat.le_trans h.hw hg.size⟩
  · injection e with e
    rw [← e, hm] at hr'; cases hr'
  · obtain ⟨a, ⟨b1, b2⟩, c⟩ := h.en e he
    refine ⟨a.grown hg (fun e1 => hn e he (by injection e1 with e1; exact e1.symm)), ⟨fun k hk => ?_, fun ad had => ?_⟩, c⟩
    · obtain ⟨g, off, hp, hgl, e0, e1, e2, e3, e4⟩ := b1 k hk
      obtain ⟨cur, T, f, f1, f2, f3, f4⟩ := b2 _ hp
      have hb := hT _ _ _ _ f1 f4.1
      rw [← f1] at hb
      have hc : ∀ j, w1.cell? ⟨g, j, none⟩ = w.cell? ⟨g, j, none⟩ := fun j => by simp only [World.cell?]; rw [hb]
      exact ⟨g, off, hp, Nat.lt_of_lt_of_le hgl hg.size, (hc _).trans e0, (hc _).trans e1, (hc _).trans e2, (hc _).trans e3, (hc _).trans e4⟩
    · obtain ⟨cur, T, f, f1, f2, f3, f4⟩ := b2 _ had
      exact ⟨cur, T, f, hT _ _ _ _ f1 f4.1, f2, f3, f4⟩
  · obtain ⟨h1, h2, h3, h4⟩ := h.rows q hq
    obtain ⟨cur, hc⟩ := row_block h4
    exact ⟨h1, h2, h3, row_keptQ h4 ((hT _ _ _ _ hc (by decide)).trans hc.symm)⟩
/-- a range's own block turns -/
theorem Cac.iter (h : Cac w L M P base most came S Q) {r : Nat} {x y z u} (hr : w.heap[r]? = some (.mapIter x y z u)) (hg : w.grownBy w1 (some r)) : Cac w1 L M P base most came S Q := by
  obtain ⟨es, cl, hm⟩ := h.pm.isMap
  have hT : ∀ (k : Nat) (o : Obj), w.heap[k]? = some o → (∀ x y z u, o ≠ .mapIter x y z u) → w1.heap[k]? = some o := fun k o hk hT => by
    refine (hg.block k (Array.getElem?_eq_some_iff.1 hk).1 (fun e => ?_)).trans hk
    injection e with e
    rw [e, hr] at hk
    injection hk with hk
    exact hT _ _ _ _ hk.symm
  refine ⟨hT _ _ h.bx (by intros; simp), h.pm.kept hg (fun e => ?_), fun e he => ?_, fun q hq => ?_, h.all, h.gs, h.blk, h.keys, h.good, h.bL, h.bM, h.bP, h.mp, h.len, Nat.le_trans h.hw hg.size⟩
  · injection e with e
    rw [← e, hm] at hr; cases hr
  · obtain ⟨a, ⟨b1, b2⟩, c⟩ := h.en e he
    refine ⟨hT _ _ a (by intros; simp), ⟨fun k hk => ?_, fun ad had => ?_⟩, c⟩
    · obtain ⟨g, off, hp, hgl, e0, e1, e2, e3, e4⟩ := b1 k hk
      obtain ⟨cur, T, f, f1, f2, f3, f4⟩ := b2 _ hp
      have hb := hT _ _ f1 (by intros; simp)
      rw [← f1] at hb
      have hc : ∀ j, w1.cell? ⟨g, j, none⟩ = w.cell? ⟨g, j, none⟩ := fun j => by simp only [World.cell?]; rw [hb]
      exact ⟨g, off, hp, Nat.lt_of_lt_of_le hgl hg.size, (hc _).trans e0, (hc _).trans e1, (hc _).trans e2, (hc _).trans e3, (hc _).trans e4⟩
    · obtain ⟨cur, T, f, f1, f2, f3, f4⟩ := b2 _ had
      exact ⟨cur, T, f, hT _ _ f1 (by intros; simp), f2, f3, f4⟩
  · obtain ⟨h1, h2, h3, h4⟩ := h.rows q hq
    obtain ⟨cur, hc⟩ := row_block h4
    exact ⟨h1, h2, h3, row_keptQ h4 ((hT _ _ hc (by intros; simp)).trans hc.symm)⟩
/-- an entry that is none of an apex's comes -/
theorem Cac.put0 (h : Cac w L M P base most came S Q) {e : Ce} (h3 : e.key.1 ≠ 3) (hE : Eat w base e) (hb : ∀ f ∈ S, f.blk ≠ e.blk) (hn : ∀ f ∈ S, f.key ≠ e.key) (hG : kyG e.key) (hl : S.length < 100000) : Cac w L M P base most came (S ++ [e]) Q := by
  refine ⟨h.bx, h.pm, fun f hf => ?_, fun q hq => ?_, fun f hf h4 => ?_, h.gs, nodup_snoc h.blk hb, nodup_snoc h.keys hn, fun f hf => ?_, h.bL, h.bM, h.bP, h.mp, by rw [List.length_append, List.length_singleton]; omega, h.hw⟩
  · rcases List.mem_append.1 hf with h1 | h1
    · exact h.en f h1
    · obtain rfl := List.mem_singleton.1 h1; exact hE
  · rw [prK_snoc (.inl h3)]; exact h.rows q hq
  · rcases List.mem_append.1 hf with h1 | h1
    · exact h.all f h1 h4
    · obtain rfl := List.mem_singleton.1 h1; exact absurd h4 h3
  · rcases List.mem_append.1 hf with h1 | h1
    · exact h.good f h1
    · obtain rfl := List.mem_singleton.1 h1; exact hG
/-- the proofs of an apex, there or not -/
theorem Cac.row (h : Cac w L M P base most came S Q) (a : ByteArray) : ∃ v, slAt a Q = v ∧ w.ownsRow base 54 1 v (prK a S).length (peR (prK a S)) ∧ ((v = .slice none 0 0 ∧ prK a S = [] ∧ atK Qe.a a Q = none) ∨ ∃ q ∈ Q, q.a = a ∧ v = qeV q ∧ atK Qe.a a Q = some q) := by
  cases hq : atK Qe.a a Q with
  | none =>
    have hno : prK a S = [] := by
      apply List.eq_nil_iff_forall_not_mem.2
      intro e he
      obtain ⟨h1, h2, h3⟩ := mem_prK.1 he
      obtain ⟨q, hq1, hq2⟩ := h.all e h1 h2
      exact atK_none.1 hq q hq1 (by rw [hq2, h3])
    refine ⟨_, rfl, ?_, .inl ⟨?_, hno, rfl⟩⟩
    · unfold slAt; rw [hq, hno]
      exact World.ownsRow_nil _ _ _ _
    · unfold slAt; rw [hq]; rfl
  | some q =>
    obtain ⟨h1, rfl⟩ := atK_some hq
    obtain ⟨b1, b2, b3, b4⟩ := h.rows q h1
    refine ⟨_, rfl, ?_, .inr ⟨q, h1, rfl, ?_, rfl⟩⟩
    · unfold slAt; rw [hq]
      rw [← b2]; exact b4
    · unfold slAt; rw [hq]; rfl
/-- an apex's entry comes -/
theorem Cac.put1 (h : Cac w L M P base most came S Q) {a : ByteArray} {e : Ce} (h3 : e.key.1 = 3) (ha : e.key.2.2.2 = a) (hE : Eat w base e) (hb : ∀ f ∈ S, f.blk ≠ e.blk) (hn : ∀ f ∈ S, f.key ≠ e.key) (hG : kyG e.key) (hl : S.length < 100000)
    {g cap : Nat} {v : Value} (hv : slAt a Q = v) (hown : w1.ownsRow base 54 1 (.slice (some ⟨g, 0, none⟩) ((prK a S).length + 1) cap) ((prK a S).length + 1) (peR (prK a S) ++ [peV e.blk])) (g1 : w.grownBy w1 v.ownBlock) (hat : v.ownBlock = some g ∨ g = w.heap.size)
    (g2 : w1.grownBy w2 (some P)) (p2 : Pmap w2 P (outK Qe.a a Q ++ [⟨a, g, (prK a S).length + 1, cap⟩])) : Cac w2 L M P base most came (S ++ [e]) (outK Qe.a a Q ++ [⟨a, g, (prK a S).length + 1, cap⟩]) := by
  obtain ⟨v', hv', hrow, hcase⟩ := h.row a
  obtain rfl : v' = v := hv'.symm.trans hv
  obtain ⟨es, cl, hmP⟩ := h.pm.isMap
  have hbx := h.bx
  unfold Bx at hbx
  have hq0 : ∀ k, v'.ownBlock = some k → ∃ q ∈ Q, q.a = a ∧ q.g = k := fun k hk => by
    rcases hcase with ⟨rfl, -, -⟩ | ⟨q, hq, hqa, rfl, -⟩
    · cases hk
    · unfold qeV Value.ownBlock at hk
      injection hk with hk
      exact ⟨q, hq, hqa, hk⟩
  have f1 : Fk (FC M P) 0 w w1 := by
    cases ho : v'.ownBlock with
    | none => rw [ho] at g1; exact Fk.idle g1
    | some k =>
      rw [ho] at g1
      obtain ⟨q, hq, -, rfl⟩ := hq0 k ho
      obtain ⟨cur, hc⟩ := row_block (h.rows q hq).2.2.2
      exact Fk.one g1 hc (Or.inl rfl) (Nat.zero_le _)
  have hkeep1 : ∀ (k : Nat) (o : Obj), w.heap[k]? = some o → ¬ (∃ cur, o = .cells cur 54 (0, 0)) → w1.heap[k]? = some o := fun k o hk hn => by
    refine (g1.block k (Array.getElem?_eq_some_iff.1 hk).1 (fun e => ?_)).trans hk
    obtain ⟨q, hq, -, hqk⟩ := hq0 k e.symm
    obtain ⟨cur, hc⟩ := row_block (h.rows q hq).2.2.2
    rw [hqk, hk] at hc
    injection hc with hc
    exact hn ⟨cur, hc⟩
  have hP1 : ∃ es c, w1.heap[P]? = some (.map es c) := ⟨es, cl, hkeep1 _ _ hmP (fun ⟨cur, e⟩ => by cases e)⟩
  have f2 : Fk (FC M P) 0 w1 w2 := by obtain ⟨x, y, c⟩ := hP1; exact Fk.one g2 c (.inr rfl) (Nat.zero_le _)
  have hnk : ∀ f : Ce, ¬ FC M P f.blk (.cells (ceA f) 63 (0, 0)) := fun f k => k.elim (fun e => absurd e (by decide)) (fun e => absurd e (by decide))
  have hEat : ∀ f : Ce, Eat w base f → Eat w2 base f := fun f hf => (hf.fk f1).fk f2
  have hLP : P ≠ L := fun e => by rw [← e, hmP] at hbx; cases hbx
  have hbL1 : Bx w1 L #[.int .i64 most, .int .i64 came, .map (some M), .map (some P)] 50 := hkeep1 _ _ h.bx (fun ⟨cur, e⟩ => by
    injection e with _ e _
    exact absurd e (by decide))
  have hg0 : base ≤ g ∧ ∃ cur, w1.heap[g]? = some (.cells cur 54 (0, 0)) := by
    obtain ⟨hl, (⟨h1, _⟩ | ⟨g', cap', cur, h1, hbg, hg, _⟩)⟩ := hown
    · cases h1
    · injection h1 with h1
      injection h1 with h1
      injection h1 with h1
      subst h1
      exact ⟨hbg, cur, hg⟩
  obtain ⟨hbg, cur0, hc0⟩ := hg0
  have hgP : g ≠ P := fun e => by obtain ⟨x, y, c⟩ := hP1; rw [← e, hc0] at c; cases c
  have hkeep : ∀ k, (∃ cur, w.heap[k]? = some (.cells cur 54 (0, 0))) → v'.ownBlock ≠ some k → w2.heap[k]? = w.heap[k]? := fun k ⟨cur, hk⟩ hne => by
    have hlt := (Array.getElem?_eq_some_iff.1 hk).1
    refine (g2.block k (Nat.lt_of_lt_of_le hlt g1.size) (fun e => ?_)).trans (g1.block k hlt (fun e => hne e.symm))
    injection e with e
    rw [e, hmP] at hk; cases hk
  have hold : ∀ q ∈ outK Qe.a a Q, v'.ownBlock ≠ some q.g ∧ g ≠ q.g := fun q hq => by
    obtain ⟨hqm, hqa⟩ := mem_outK.1 hq
    have hno : v'.ownBlock ≠ some q.g := fun e => by
      obtain ⟨q2, hq2, hq2a, hq2g⟩ := hq0 _ e
      exact hqa (by rw [← nodup_inj h.gs hq2 hqm hq2g]; exact hq2a)
    refine ⟨hno, fun e => ?_⟩
    rcases hat with h1 | h1
    · exact hno (by rw [h1, e])
    · obtain ⟨cur, hc⟩ := row_block (h.rows q hqm).2.2.2
      have := (Array.getElem?_eq_some_iff.1 hc).1
      omega
  refine ⟨hbL1.grown g2 (fun e => hLP (by injection e)), p2, fun f hf => ?_, fun q hq => ?_, fun f hf h4 => ?_, ?_, nodup_snoc h.blk hb, nodup_snoc h.keys hn, fun f hf => ?_, h.bL, h.bM, h.bP, h.mp, by rw [List.length_append, List.length_singleton]; omega, Nat.le_trans h.hw (Nat.le_trans g1.size g2.size)⟩
  · rcases List.mem_append.1 hf with h1 | h1
    · exact hEat f (h.en f h1)
    · obtain rfl := List.mem_singleton.1 h1; exact hEat _ hE
  · rcases List.mem_append.1 hq with h1 | h1
    · obtain ⟨hqm, hqa⟩ := mem_outK.1 h1
      obtain ⟨b1, b2, b3, b4⟩ := h.rows q hqm
      rw [prK_snoc (.inr (fun e1 => hqa (by rw [← e1, ha])))]
      exact ⟨b1, b2, b3, row_keptQ b4 (hkeep _ (row_block b4) (hold q h1).1)⟩
    · obtain rfl := List.mem_singleton.1 h1
      rw [prK_snoc1 h3 ha]
      refine ⟨hbg, by simp, Nat.succ_pos _, ?_⟩
      have e1 : peR (prK a S ++ [e]) = peR (prK a S) ++ [peV e.blk] := by unfold peR; rw [List.map_append]; rfl
      rw [e1]
      exact own_blk hown (fun k hk => by
        unfold Value.ownBlock at hk
        injection hk with hk
        subst hk
        exact g2.block _ (Array.getElem?_eq_some_iff.1 hc0).1 (fun e => hgP (by injection e)))
  · rcases List.mem_append.1 hf with h1 | h1
    · obtain ⟨q, hq, hqa⟩ := h.all f h1 h4
      by_cases e1 : q.a = a
      · exact ⟨_, List.mem_append_right _ (List.mem_singleton.2 rfl), by rw [← hqa, e1]⟩
      · exact ⟨q, List.mem_append_left _ (mem_outK.2 ⟨hq, e1⟩), hqa⟩
    · obtain rfl := List.mem_singleton.1 h1
      exact ⟨_, List.mem_append_right _ (List.mem_singleton.2 rfl), ha.symm⟩
  · exact nodup_snoc (h.gs.sublist (outK_sub.map _)) (fun q hq e => (hold q hq).2 e.symm)
  · rcases List.mem_append.1 hf with h1 | h1
    · exact h.good f h1
    · obtain rfl := List.mem_singleton.1 h1; exact hG
end
end Go.Proofs.YtgekfhghambacaaGreat

/-
  Chapter 12: (*cache.Cache).replace. (The verifier's own text; mkcc9.py writes it.)
-/
namespace Go.Proofs.YtgekfhghambacaaGreat
set_option linter.unusedVariables false
set_option linter.unusedSimpArgs false
open Go.RowKit Go.Shelf Go.Maps Go.Proofs.YtgekfhghambacaaGreat.Nm

theorem infoPE : (Tryz.prog.info? 54).map (fun i => (i.zero, i.size, i.bytes)) = some (some (.pointer none), 1, 8) := by kernel_rfl
theorem wrap_nnC (z : Int) (h0 : 0 ≤ z) (h : z ≤ 4611686018427387904) : IntKind.i64.wrap z = z := by
  simp [IntKind.wrap, IntKind.bits, IntKind.signed]
  omega
/-- what replace makes of the entries -/
def repS (x : Ky) (now age rank came : Int) (R : List Rn) (p : Option Addr) (c b : Nat) (S : List Ce) : List Ce := if age = 0 then outK Ce.key x S else outK Ce.key x S ++ [⟨x, now + age, came + 1, age, rank, R, p, c, b⟩]
def repC (age came : Int) : Int := if age = 0 then came else came + 1
set_option maxRecDepth 100000 in
set_option maxHeartbeats 4000000 in
/-- (*cache.Cache).replace -/
theorem replace_any {xk xt : Int} {xn xa : ByteArray} {w : World} {L M P base : Nat} {most came age rank now : Int} {S : List Ce} {Q : List Qe} {R : List Rn} {p : Option Addr} {c : Nat} (h : Cac w L M P base most came S Q) (hM : Emap w M S) (hx : kyG (xk, xn, xt, xa)) (hR : RsT w p R) (hRc : R.length ≤ c) (hcm : c ≤ maxLen) (hp0 : p = none → c = 0) (hlen : S.length < 100000) (ha0 : 0 ≤ age) (ha1 : age ≤ 604800) (hn0 : 0 ≤ now) (hn1 : now ≤ 4294967295) (hc0 : 0 ≤ came) (hc1 : came ≤ 1099511627776) :
    Calls Tryz.prog 23 #[.pointer (some ⟨L, 0, none⟩), .agg #[.int .i64 xk, .string xn, .int .i64 xt, .string xa, .int .i64 0, .int .i64 0, .int .i64 age, .int .i64 rank, .slice p R.length c], .int .i64 now] w fun r w' => r = .returned (.tuple #[]) ∧ ∃ Q', Cac w' L M P base most (repC age came) (repS (xk, xn, xt, xa) now age rank came R p c w.heap.size S) Q' ∧ Emap w' M (repS (xk, xn, xt, xa) now age rank came R p c w.heap.size S) ∧ Fk (FC M P) base w w' := by
  obtain ⟨wa, hwa⟩ : ∃ wa, w.alloc (.cells #[.int .i64 xk, .string xn, .int .i64 xt, .string xa, .int .i64 0, .int .i64 0, .int .i64 age, .int .i64 rank, .slice p R.length c] 63) = wa := ⟨_, rfl⟩
  have HE0 : Hid (Bx wa w.heap.size #[.int .i64 xk, .string xn, .int .i64 xt, .string xa, .int .i64 0, .int .i64 0, .int .i64 age, .int .i64 rank, .slice p R.length c] 63) := hwa ▸ World.alloc_heap_new w _
  have HGa : Hid (w.grownBy wa none) := hwa ▸ World.grownBy_alloc w _ none
  have HCa := hide' (h.idle HGa.out)
  have HMa : Hid (Emap wa M S) := Lmap.kept hM HGa.out (by simp)
  have HRw := hide' hR
  have HX := hide' hx
  have HN1 : Hid (∀ f ∈ S, f.blk ≠ w.heap.size) := fun f hf e1 => by
    have := (h.en f hf).1.lt
    omega
  have HF1 := hide' (forget_any (I := fun w S => Emap w M S) (r := none) (mvE M hx) HCa.out HMa.out hx)
  have HLn : Hid ((outK Ce.key (xk, xn, xt, xa) S).length < 100000) := Nat.lt_of_le_of_lt (outK_len_le _ _) hlen
  have HKn : Hid (∀ f ∈ outK Ce.key (xk, xn, xt, xa) S, f.key ≠ (xk, xn, xt, xa)) := fun f hf => (mem_outK.1 hf).2
  have HBn : Hid (∀ f ∈ outK Ce.key (xk, xn, xt, xa) S, f.blk ≠ w.heap.size) := fun f hf => HN1.out f (mem_outK.1 hf).1
  have HMx : Hid (R.length ≤ c ∧ c ≤ maxLen ∧ (p = none → c = 0) ∧ base ≤ w.heap.size ∧ base ≤ M ∧ base ≤ L ∧ base ≤ P) := ⟨hRc, hcm, hp0, h.hw, h.bM, h.bL, h.bP⟩
  have z0 := HE0.out.cell (j := 0) rfl
  have z1 := HE0.out.cell (j := 1) rfl
  have z2 := HE0.out.cell (j := 2) rfl
  have z3 := HE0.out.cell (j := 3) rfl
  unfold kyV at HF1
  clear h hM hx hR hRc hcm hp0
  have hnfE : ∀ cs r, ¬ FC M P r (.cells cs 63 (0, 0)) := fun cs r k => k.elim (fun e => absurd e (by decide)) (fun e => absurd e (by decide))
  have HnE := hide' hnfE
  clear hnfE
  go_enter Tryz.func23, Tryz.ntmps23
  by_cases hag : age = 0
  · subst hag
    go_wp2_with (go_at_call 26; refine HF1.out.mono ?_; rintro r1 w1 ⟨rfl, hw1⟩; obtain ⟨Q1, hC1, hM1, hf1⟩ := hw1; have HC1 := hide' hC1; have HM1 := hide' hM1; have Hf1 := hide' (hf1.wide (K' := FC M P) fk_fc); clear hC1 hM1 hf1; have HE1 : Hid (Bx w1 w.heap.size #[.int .i64 xk, .string xn, .int .i64 xt, .string xa, .int .i64 0, .int .i64 0, .int .i64 0, .int .i64 rank, .slice p R.length c] 63) := HE0.out.fk Hf1.out (HnE.out _ _); have y6 := HE1.out.cell (j := 6) rfl)
    refine bodyPost_ret (v := .tuple #[]) (by simp [results, go_sem]) rfl ?_
    refine ⟨rfl, Q1, ?_, ?_, (Fk.idle HGa.out).trans Hf1.out⟩
    · unfold repC repS; rw [if_pos rfl, if_pos rfl]; exact HC1.out
    · unfold repS; rw [if_pos rfl]; exact HM1.out
  · have hagb : (age == 0) = false := by rw [beq_eq_false_iff_ne]; exact hag
    have HAg := hide' hag
    clear hag
    have HRS : Hid (∀ b, repS (xk, xn, xt, xa) now age rank came R p c b S = outK Ce.key (xk, xn, xt, xa) S ++ [⟨(xk, xn, xt, xa), now + age, came + 1, age, rank, R, p, c, b⟩]) := fun b => by unfold repS; rw [if_neg HAg.out]
    have HRC : Hid (repC age came = came + 1) := by unfold Hid repC; rw [if_neg HAg.out]
    obtain ⟨S1, hS1⟩ : ∃ S1, outK Ce.key (xk, xn, xt, xa) S = S1 := ⟨_, rfl⟩
    rw [hS1] at HF1 HLn HKn HBn HRS
    have HS1 := hide' hS1
    clear hS1
    go_wp2_with (go_at_call 26; refine HF1.out.mono ?_; rintro r1 w1 ⟨rfl, hw1⟩; obtain ⟨Q1, hC1, hM1, hf1⟩ := hw1; have HC1 := hide' hC1; have HM1 := hide' hM1; have Hf1 := hide' (hf1.wide (K' := FC M P) fk_fc); clear hC1 hM1 hf1; have HE1 : Hid (Bx w1 w.heap.size #[.int .i64 xk, .string xn, .int .i64 xt, .string xa, .int .i64 0, .int .i64 0, .int .i64 age, .int .i64 rank, .slice p R.length c] 63) := HE0.out.fk Hf1.out (HnE.out _ _); have y6 := HE1.out.cell (j := 6) rfl; have c1 := HC1.out.bx.cell (j := 1) rfl; have d1 := HC1.out.bx.free 1; obtain ⟨w2, hw2⟩ : ∃ w2, w1.setCell ⟨L, 1, none⟩ (.int .i64 (came + 1)) = w2 := ⟨_, rfl⟩)
    have HG2 : Hid (w1.grownBy w2 (some L)) := hw2 ▸ grown_set _ _ _ _
    have HB2 : Hid (Bx w2 L #[.int .i64 most, .int .i64 (came + 1), .map (some M), .map (some P)] 50) := hw2 ▸ HC1.out.bx.set 1 _
    have HC2 := hide' (HC1.out.boxL HG2.out HB2.out)
    have HLM : Hid (L ≠ M) := (HC1.out.neLM HM1.out.isMap).1
    have HM2 : Hid (Emap w2 M S1) := Lmap.kept HM1.out HG2.out (fun e => HLM.out (by injection e with e; exact e.symm))
    have HLE : Hid (L ≠ w.heap.size) := fun e1 => by
      have hb := HC1.out.bx
      have he := HE1.out
      unfold Bx at hb he
      rw [e1, he] at hb
      injection hb with hb
      injection hb with _ hb _
      exact absurd hb (by decide)
    have HE2 : Hid (Bx w2 w.heap.size #[.int .i64 xk, .string xn, .int .i64 xt, .string xa, .int .i64 0, .int .i64 0, .int .i64 age, .int .i64 rank, .slice p R.length c] 63) := HE1.out.grown HG2.out (fun e => HLE.out (by injection e))
    have Hf2 : Hid (Fk (FC M P) base w w2) := ((Fk.idle HGa.out).trans Hf1.out).trans (Fk.one HG2.out HC1.out.bx (.inr rfl) HMx.out.2.2.2.2.2.1)
    have HR2 : Hid (RsT w2 p R) := HRw.out.fk Hf2.out
    clear HG2 HB2 HC1 HM1 HE1 HF1 HE0 HCa HMa hw2 y6 c1 d1 z0 z1 z2 z3
    try rw [hw2]
    have hwr := wrap_nnC (now + age) (by omega) (by omega)
    have HF4 : Hid (∀ V : World, (w2.grownBy V (some w.heap.size) ∧ ∃ y z, Bx V w.heap.size #[.int .i64 xk, .string xn, .int .i64 xt, .string xa, y, z, .int .i64 age, .int .i64 rank, .slice p R.length c] 63) → V.cell? ⟨L, 1, none⟩ = some (.int .i64 (came + 1)) ∧ V.cell? ⟨w.heap.size, 6, none⟩ = some (.int .i64 age)) := fun V ⟨hg, y, z, hb⟩ =>
      ⟨(HC2.out.bx.grown hg (fun e => HLE.out (by injection e with e; exact e.symm))).cell rfl, hb.cell rfl⟩
    refine wp_region_held_drew (S := fun V => w2.grownBy V (some w.heap.size) ∧ ∃ y z, Bx V w.heap.size #[.int .i64 xk, .string xn, .int .i64 xt, .string xa, y, z, .int .i64 age, .int .i64 rank, .slice p R.length c] 63) (by kernel_rfl) ?_ (fun hHeld => ?_)
    · exact ⟨⟨rfl, rfl, rfl, Nat.le_refl _, fun _ _ _ => rfl⟩, _, _, HE2.out⟩
    refine takeD 0 (some 20) (.pointer (some ⟨L, 0, none⟩)) rfl rfl (by kernel_rfl) (by kernel_rfl) (by kernel_rfl) (fun _ _ _ h => h) (Or.inl ⟨by rfl, ?_⟩) (by assumption) ?_
    · intro w hSw; (try dsimp only at hSw); obtain ⟨c1, e6⟩ := HF4.out w hSw; go_simp <;> (intros; omega)
    simp only [Act.put, List.setIfInBounds_toArray, List.set_cons_zero, List.set_cons_succ]
    refine takeD 1 (some 21) (.pointer (some ⟨L, 0, none⟩)) rfl rfl (by kernel_rfl) (by kernel_rfl) (by kernel_rfl) (fun _ _ _ h => h) (Or.inl ⟨by rfl, ?_⟩) (by assumption) ?_
    · intro w hSw; (try dsimp only at hSw); obtain ⟨c1, e6⟩ := HF4.out w hSw; go_simp <;> (intros; omega)
    simp only [Act.put, List.setIfInBounds_toArray, List.set_cons_zero, List.set_cons_succ]
    refine takeD 2 (some 22) (.pointer (some ⟨L, 1, none⟩)) rfl rfl (by kernel_rfl) (by kernel_rfl) (by kernel_rfl) (fun _ _ _ h => h) (Or.inl ⟨by rfl, ?_⟩) (by assumption) ?_
    · intro w hSw; (try dsimp only at hSw); obtain ⟨c1, e6⟩ := HF4.out w hSw; go_simp <;> (intros; omega)
    simp only [Act.put, List.setIfInBounds_toArray, List.set_cons_zero, List.set_cons_succ]
    refine takeD 3 (some 23) (.int .i64 (came + 1)) rfl rfl (by kernel_rfl) (by kernel_rfl) (by kernel_rfl) (fun _ _ _ h => h) (Or.inl ⟨by rfl, ?_⟩) (by assumption) ?_
    · intro w hSw; (try dsimp only at hSw); obtain ⟨c1, e6⟩ := HF4.out w hSw; go_simp <;> (intros; omega)
    simp only [Act.put, List.setIfInBounds_toArray, List.set_cons_zero, List.set_cons_succ]
    refine takeD 4 (some 24) (.int .i64 now) rfl rfl (by kernel_rfl) (by kernel_rfl) (by kernel_rfl) (fun _ _ _ h => h) (Or.inl ⟨by rfl, ?_⟩) (by assumption) ?_
    · intro w hSw; (try dsimp only at hSw); obtain ⟨c1, e6⟩ := HF4.out w hSw; go_simp <;> (intros; omega)
    simp only [Act.put, List.setIfInBounds_toArray, List.set_cons_zero, List.set_cons_succ]
    refine takeD 5 (some 25) (.pointer (some ⟨w.heap.size, 6, none⟩)) rfl rfl (by kernel_rfl) (by kernel_rfl) (by kernel_rfl) (fun _ _ _ h => h) (Or.inl ⟨by rfl, ?_⟩) (by assumption) ?_
    · intro w hSw; (try dsimp only at hSw); obtain ⟨c1, e6⟩ := HF4.out w hSw; go_simp <;> (intros; omega)
    simp only [Act.put, List.setIfInBounds_toArray, List.set_cons_zero, List.set_cons_succ]
    refine takeD 6 (some 26) (.int .i64 age) rfl rfl (by kernel_rfl) (by kernel_rfl) (by kernel_rfl) (fun _ _ _ h => h) (Or.inl ⟨by rfl, ?_⟩) (by assumption) ?_
    · intro w hSw; (try dsimp only at hSw); obtain ⟨c1, e6⟩ := HF4.out w hSw; go_simp <;> (intros; omega)
    simp only [Act.put, List.setIfInBounds_toArray, List.set_cons_zero, List.set_cons_succ]
    refine takeD 7 (some 27) (.int .i64 (now + age)) rfl rfl (by kernel_rfl) (by kernel_rfl) (by kernel_rfl) (fun _ _ _ h => h) (Or.inl ⟨by rfl, ?_⟩) (by assumption) ?_
    · intro w hSw; (try dsimp only at hSw); obtain ⟨c1, e6⟩ := HF4.out w hSw; go_simp <;> (intros; omega)
    simp only [Act.put, List.setIfInBounds_toArray, List.set_cons_zero, List.set_cons_succ]
    refine takeD 8 (some 28) (.pointer (some ⟨w.heap.size, 5, none⟩)) rfl rfl (by kernel_rfl) (by kernel_rfl) (by kernel_rfl) (fun _ _ _ h => h) (Or.inl ⟨by rfl, ?_⟩) (by assumption) ?_
    · intro w hSw; (try dsimp only at hSw); obtain ⟨c1, e6⟩ := HF4.out w hSw; go_simp <;> (intros; omega)
    simp only [Act.put, List.setIfInBounds_toArray, List.set_cons_zero, List.set_cons_succ]
    have n5 := HE2.out.cell (j := 5) rfl
    have f5 := HE2.out.free 5
    refine wpAnyH_ready (rs := [9]) (by kernel_rfl) (by simp) ?_
    refine AllReadyH.cons rfl (fun K hK => ?_) AllReadyH.nil
    go_simp
    go_wp2_with fail
    obtain ⟨w3, hw3⟩ : ∃ v, (w2.setCell ⟨w.heap.size, 5, none⟩ (.int .i64 (came + 1))).drew = v := ⟨_, rfl⟩
    have HE3 : Hid (Bx w3 w.heap.size #[.int .i64 xk, .string xn, .int .i64 xt, .string xa, .int .i64 0, .int .i64 (came + 1), .int .i64 age, .int .i64 rank, .slice p R.length c] 63) := hw3 ▸ HE2.out.set 5 _
    have HG3 : Hid (w2.grownBy w3 (some w.heap.size)) := hw3 ▸ grown_drewC (grown_set _ _ _ _)
    rw [hw3]
    clear hw3 n5 f5
    refine hK.out _ _ ⟨HG3.out, _, _, HE3.out⟩ (fun hHeld => ?_)
    clear hK K
    try simp only [Act.put, List.setIfInBounds_toArray, List.set_cons_zero, List.set_cons_succ]
    refine takeD 10 (some 29) (.pointer (some ⟨w.heap.size, 4, none⟩)) rfl rfl (by kernel_rfl) (by kernel_rfl) (by kernel_rfl) (fun _ _ _ h => h) (Or.inl ⟨by rfl, ?_⟩) (by assumption) ?_
    · intro w hSw; (try dsimp only at hSw); obtain ⟨c1, e6⟩ := HF4.out w hSw; go_simp <;> (intros; omega)
    simp only [Act.put, List.setIfInBounds_toArray, List.set_cons_zero, List.set_cons_succ]
    have n5 := HE3.out.cell (j := 4) rfl
    have f5 := HE3.out.free 4
    refine wpAnyH_ready (rs := [11]) (by kernel_rfl) (by simp) ?_
    refine AllReadyH.cons rfl (fun K hK => ?_) AllReadyH.nil
    go_simp
    go_wp2_with fail
    obtain ⟨w4, hw4⟩ : ∃ v, (w3.setCell ⟨w.heap.size, 4, none⟩ (.int .i64 (now + age))) = v := ⟨_, rfl⟩
    have HE4 : Hid (Bx w4 w.heap.size #[.int .i64 xk, .string xn, .int .i64 xt, .string xa, .int .i64 (now + age), .int .i64 (came + 1), .int .i64 age, .int .i64 rank, .slice p R.length c] 63) := hw4 ▸ HE3.out.set 4 _
    have HG4 : Hid (w2.grownBy w4 (some w.heap.size)) := hw4 ▸ grown_trans HG3.out (grown_set _ _ _ _)
    rw [hw4]
    clear hw4 n5 f5 HE3 HG3
    refine hK.out _ _ ⟨HG4.out, _, _, HE4.out⟩ (fun hHeld => ?_)
    clear hK K
    try simp only [Act.put, List.setIfInBounds_toArray, List.set_cons_zero, List.set_cons_succ]
    refine wpAnyH_done (by kernel_rfl) ?_ _
    clear hHeld HF4
    have HC4 := hide' (HC2.out.far HE2.out HBn.out HG4.out)
    have HEM : Hid (w.heap.size ≠ M) := fun e1 => by
      obtain ⟨es, cl, hm⟩ := HM2.out.isMap
      have he := HE2.out
      unfold Bx at he
      rw [← e1, he] at hm; cases hm
    have HM4 : Hid (Emap w4 M S1) := Lmap.kept HM2.out HG4.out (fun e => HEM.out (by injection e with e; exact e.symm))
    have Hf4 : Hid (Fk (FC M P) base w w4) := ⟨HG4.out.os.trans Hf2.out.os, HG4.out.tape.trans Hf2.out.tape, HG4.out.output.trans Hf2.out.output, Nat.le_trans Hf2.out.size HG4.out.size, fun k hk hl => (HG4.out.block k (Nat.lt_of_lt_of_le hl Hf2.out.size) (fun e => by injection e with e; omega)).trans (Hf2.out.low k hk hl), fun k o ho hn => (HG4.out.block k (Nat.lt_of_lt_of_le (Array.getElem?_eq_some_iff.1 ho).1 Hf2.out.size) (fun e => by
      injection e with e
      have := (Array.getElem?_eq_some_iff.1 ho).1
      omega)).trans (Hf2.out.far k o ho hn)⟩
    have HR4 : Hid (RsT w4 p R) := HRw.out.fk Hf4.out
    have HEA : Hid (Eat w4 base ⟨(xk, xn, xt, xa), now + age, came + 1, age, rank, R, p, c, w.heap.size⟩) := ⟨HE4.out, HR4.out, HMx.out.2.2.2.1, HMx.out.1, HMx.out.2.1, HMx.out.2.2.1⟩
    have HF5 : Hid (∀ V : World, w4.grownBy V (some M) → V.cell? ⟨L, 2, none⟩ = some (.map (some M)) ∧ V.cell? ⟨w.heap.size, 0, none⟩ = some (.int .i64 xk) ∧ V.cell? ⟨w.heap.size, 1, none⟩ = some (.string xn) ∧ V.cell? ⟨w.heap.size, 2, none⟩ = some (.int .i64 xt) ∧ V.cell? ⟨w.heap.size, 3, none⟩ = some (.string xa)) := fun V hg => by
      have hb := HC4.out.bx.grown hg (fun e => HLM.out (by injection e with e; exact e.symm))
      have he := HE4.out.grown hg (fun e => HEM.out (by injection e with e; exact e.symm))
      exact ⟨hb.cell rfl, he.cell rfl, he.cell rfl, he.cell rfl, he.cell rfl⟩
    clear HC2 HE2 HR2 Hf2 HM2 HG4
    go_wp2_with fail
    refine wp_region_held_drew (S := fun V => w4.grownBy V (some M)) (by kernel_rfl) ?_ (fun hHeld => ?_)
    · exact ⟨rfl, rfl, rfl, Nat.le_refl _, fun _ _ _ => rfl⟩
    refine takeD 0 (some 30) (.pointer (some ⟨L, 0, none⟩)) rfl rfl (by kernel_rfl) (by kernel_rfl) (by kernel_rfl) (fun _ _ _ h => h) (Or.inl ⟨by rfl, ?_⟩) (by assumption) ?_
    · intro w hSw; (try dsimp only at hSw); obtain ⟨c2, k0, k1, k2, k3⟩ := HF5.out w hSw; go_simp <;> (intros; omega)
    simp only [Act.put, List.setIfInBounds_toArray, List.set_cons_zero, List.set_cons_succ]
    refine takeD 1 (some 31) (.pointer (some ⟨L, 0, none⟩)) rfl rfl (by kernel_rfl) (by kernel_rfl) (by kernel_rfl) (fun _ _ _ h => h) (Or.inl ⟨by rfl, ?_⟩) (by assumption) ?_
    · intro w hSw; (try dsimp only at hSw); obtain ⟨c2, k0, k1, k2, k3⟩ := HF5.out w hSw; go_simp <;> (intros; omega)
    simp only [Act.put, List.setIfInBounds_toArray, List.set_cons_zero, List.set_cons_succ]
    refine takeD 2 (some 32) (.pointer (some ⟨L, 2, none⟩)) rfl rfl (by kernel_rfl) (by kernel_rfl) (by kernel_rfl) (fun _ _ _ h => h) (Or.inl ⟨by rfl, ?_⟩) (by assumption) ?_
    · intro w hSw; (try dsimp only at hSw); obtain ⟨c2, k0, k1, k2, k3⟩ := HF5.out w hSw; go_simp <;> (intros; omega)
    simp only [Act.put, List.setIfInBounds_toArray, List.set_cons_zero, List.set_cons_succ]
    refine takeD 3 (some 33) (.map (some M)) rfl rfl (by kernel_rfl) (by kernel_rfl) (by kernel_rfl) (fun _ _ _ h => h) (Or.inl ⟨by rfl, ?_⟩) (by assumption) ?_
    · intro w hSw; (try dsimp only at hSw); obtain ⟨c2, k0, k1, k2, k3⟩ := HF5.out w hSw; go_simp <;> (intros; omega)
    simp only [Act.put, List.setIfInBounds_toArray, List.set_cons_zero, List.set_cons_succ]
    refine takeD 4 (some 34) (.pointer (some ⟨w.heap.size, 0, none⟩)) rfl rfl (by kernel_rfl) (by kernel_rfl) (by kernel_rfl) (fun _ _ _ h => h) (Or.inl ⟨by rfl, ?_⟩) (by assumption) ?_
    · intro w hSw; (try dsimp only at hSw); obtain ⟨c2, k0, k1, k2, k3⟩ := HF5.out w hSw; go_simp <;> (intros; omega)
    simp only [Act.put, List.setIfInBounds_toArray, List.set_cons_zero, List.set_cons_succ]
    refine takeD 5 (some 35) (.agg #[.int .i64 xk, .string xn, .int .i64 xt, .string xa]) rfl rfl (by kernel_rfl) (by kernel_rfl) (by kernel_rfl) (fun _ _ _ h => h) (Or.inl ⟨by rfl, ?_⟩) (by assumption) ?_
    · intro w hSw; (try dsimp only at hSw); obtain ⟨c2, k0, k1, k2, k3⟩ := HF5.out w hSw; go_simp <;> (intros; omega)
    simp only [Act.put, List.setIfInBounds_toArray, List.set_cons_zero, List.set_cons_succ]
    refine wpAnyH_ready (rs := [6]) (by kernel_rfl) (by simp) ?_
    refine AllReadyH.cons rfl (fun K hK => ?_) AllReadyH.nil
    obtain ⟨wz, hrun, hMz, hGz⟩ := Emap.store (w := w4.drew) (Lmap.kept HM4.out (row := none) ⟨rfl, rfl, rfl, Nat.le_refl _, fun _ _ _ => rfl⟩ (by simp)) ⟨(xk, xn, xt, xa), now + age, came + 1, age, rank, R, p, c, w.heap.size⟩ HX.out (Nat.lt_of_lt_of_le HLn.out (by unfold maxLen; omega))
    have HMz := hide' hMz
    have HGz : Hid (w4.grownBy wz (some M)) := ⟨hGz.os, hGz.tape, hGz.output, hGz.size, hGz.block⟩
    clear hMz hGz
    unfold kyV peV at hrun
    simp only at hrun
    go_simp
    go_wp2_with fail
    refine hK.out _ _ HGz.out (fun hHeld2 => ?_)
    clear hK K hrun
    try simp only [Act.put, List.setIfInBounds_toArray, List.set_cons_zero, List.set_cons_succ]
    refine wpAnyH_done (by kernel_rfl) ?_ _
    clear hHeld hHeld2 HF5
    have HEz := hide' (HE4.out.grown HGz.out (fun e => HEM.out (by injection e with e; exact e.symm)))
    have HCz := hide' (HC4.out.mapM HM4.out.isMap HGz.out)
    have Hfz : Hid (Fk (FC M P) base w wz) := Hf4.out.trans (by obtain ⟨es, cl, hm⟩ := HM4.out.isMap; exact Fk.one HGz.out hm (.inl rfl) HMx.out.2.2.2.2.1)
    have HEAz : Hid (Eat wz base ⟨(xk, xn, xt, xa), now + age, came + 1, age, rank, R, p, c, w.heap.size⟩) := HEA.out.fk (base := base) (M := M) (P := P) (by obtain ⟨es, cl, hm⟩ := HM4.out.isMap; exact Fk.one HGz.out hm (.inl rfl) HMx.out.2.2.2.2.1)
    have HMz1 : Hid (Emap wz M (S1 ++ [⟨(xk, xn, xt, xa), now + age, came + 1, age, rank, R, p, c, w.heap.size⟩])) := by
      have h := HMz.out
      rw [show outK Ce.key (⟨(xk, xn, xt, xa), now + age, came + 1, age, rank, R, p, c, w.heap.size⟩ : Ce).key S1 = S1 from outK_none HKn.out] at h
      exact h
    have y0 : wz.cell? ⟨w.heap.size, 0, none⟩ = some (.int .i64 xk) := HEz.out.cell (j := 0) rfl
    clear HE4 HC4 HM4 Hf4 HEA HR4 HMz
    by_cases h3 : xk = 3
    · subst h3
      have hne : ((3 : Int) == 3) = true := rfl
      obtain ⟨wb, hwb⟩ : ∃ wb, (wz.alloc (.cells #[.pointer (some ⟨w.heap.size, 0, none⟩)] 54)).drew = wb := ⟨_, rfl⟩
      have HGb : Hid (wz.grownBy wb none) := hwb ▸ grown_drewC (World.grownBy_alloc wz _ none)
      have HAb : Hid (wb.heap[wz.heap.size]? = some (.cells #[.pointer (some ⟨w.heap.size, 0, none⟩)] 54 (0, 0))) := hwb ▸ (World.alloc_heap_new wz _)
      have HHb : Hid (wb.heap.size = wz.heap.size + 1) := by rw [← hwb]; exact World.size_alloc ..
      have HCb := hide' (HCz.out.idle HGb.out)
      have HEb := hide' (HEz.out.grown HGb.out (by simp))
      obtain ⟨sv, hsv, hrow, -⟩ := HCb.out.row xa
      have HRow := hide' hrow
      have hpm := HCz.out.pm
      have hLz : Hid ((Instr.lookup 48 (.map (some P)) (.string xa) false).run Tryz.prog wz.drew = .ok sv wz.drew) := hsv ▸ Pmap.look (w := wz.drew) hpm HX.out.2.2.2
      have hLb : Hid ((Instr.lookup 48 (.map (some P)) (.string xa) false).run Tryz.prog wb = .ok sv wb) := hsv ▸ Pmap.look HCb.out.pm HX.out.2.2.2
      obtain ⟨i5, hi5, hy0, hy1, hy2⟩ := info_parts infoPE
      have HSb : Hid (wb.cell? ⟨L, 3, none⟩ = some (.map (some P)) ∧ wb.cell? ⟨w.heap.size, 3, none⟩ = some (.string xa)) := ⟨HCb.out.bx.cell (j := 3) rfl, HEb.out.cell (j := 3) rfl⟩
      have hlp : (prK xa S1).length < 100000 := Nat.lt_of_le_of_lt prK_sub.length_le HLn.out
      have hn1b : (prK xa S1).length + 1 ≤ maxLen := by unfold maxLen; omega
      have hb1b : ((prK xa S1).length + 1) * 8 ≤ 140737488355328 := by omega
      have hbb : base ≤ wb.heap.size := HCb.out.hw
      have HEnd : Hid (∀ gg cap2 w5, w5.ownsRow base 54 1 (.slice (some ⟨gg, 0, none⟩) ((prK xa S1).length + 1) cap2) ((prK xa S1).length + 1) (peR (prK xa S1) ++ [.pointer (some ⟨w.heap.size, 0, none⟩)]) → wb.grownBy w5 sv.ownBlock → (sv.ownBlock = some gg ∨ gg = wz.heap.size + 1) →
          ∃ wy, (Instr.mapUpdate 48 (.map (some P)) (.string xa) (.slice (some ⟨gg, 0, none⟩) ((prK xa S1).length + 1) cap2)).run Tryz.prog w5 = .ok () wy ∧ (wy.cell? ⟨L, 3, none⟩ = some (.map (some P)) ∧ wy.cell? ⟨w.heap.size, 3, none⟩ = some (.string xa)) ∧ (w5.cell? ⟨L, 3, none⟩ = some (.map (some P)) ∧ w5.cell? ⟨w.heap.size, 3, none⟩ = some (.string xa)) ∧
          ∃ Q', Cac wy L M P base most (repC age came) (repS (3, xn, xt, xa) now age rank came R p c w.heap.size S) Q' ∧ Emap wy M (repS (3, xn, xt, xa) now age rank came R p c w.heap.size S) ∧ Fk (FC M P) base w wy) := fun gg cap2 w5 hown hgr hat => by
        have hq0 : ∀ k, sv.ownBlock = some k → ∃ q ∈ Q1, q.a = xa ∧ q.g = k := fun k hk => by
          obtain ⟨v', hv', hrow', hcase⟩ := HCb.out.row xa
          obtain rfl : v' = sv := hv'.symm.trans hsv
          rcases hcase with ⟨rfl, -, -⟩ | ⟨q, hq, hqa, rfl, -⟩
          · cases hk
          · unfold qeV Value.ownBlock at hk
            injection hk with hk
            exact ⟨q, hq, hqa, hk⟩
        have hqc : ∀ k, sv.ownBlock = some k → ∃ cur, wb.heap[k]? = some (.cells cur 54 (0, 0)) := fun k hk => by
          obtain ⟨q, hq, -, rfl⟩ := hq0 k hk
          exact row_block (HCb.out.rows q hq).2.2.2
        have hfar : ∀ (k : Nat) (o : Obj), wb.heap[k]? = some o → ¬ (∃ cur, o = .cells cur 54 (0, 0)) → w5.heap[k]? = some o := fun k o hk hn => by
          refine (hgr.block k (Array.getElem?_eq_some_iff.1 hk).1 (fun e => ?_)).trans hk
          obtain ⟨cur, hc⟩ := hqc k e.symm
          rw [hk] at hc
          injection hc with hc
          exact hn ⟨cur, hc⟩
        have hpm5 : Pmap w5 P Q1 := Lmap.kept HCb.out.pm hgr (fun e => by
          obtain ⟨cur, hc⟩ := hqc P e.symm
          obtain ⟨es, cl, hm⟩ := HCb.out.pm.isMap
          rw [hc] at hm; cases hm)
        have hQl : Q1.length < maxLen := by
          have h1 := HCb.out.lenQ
          have h2 := HCb.out.len
          unfold maxLen
          omega
        obtain ⟨wy, hrun, hPy, hGy⟩ := hpm5.store ⟨xa, gg, (prK xa S1).length + 1, cap2⟩ HX.out.2.2.2 hQl
        have hb5 : Bx w5 L #[.int .i64 most, .int .i64 (came + 1), .map (some M), .map (some P)] 50 := hfar _ _ HCb.out.bx (fun ⟨cur, e⟩ => by
          injection e with _ e _
          exact absurd e (by decide))
        have he5 : Bx w5 w.heap.size #[.int .i64 3, .string xn, .int .i64 xt, .string xa, .int .i64 (now + age), .int .i64 (came + 1), .int .i64 age, .int .i64 rank, .slice p R.length c] 63 := hfar _ _ HEb.out (fun ⟨cur, e⟩ => by
          injection e with _ e _
          exact absurd e (by decide))
        obtain ⟨es, cl, hmP⟩ := hpm5.isMap
        have hPL : P ≠ L := fun e => by unfold Bx at hb5; rw [← e, hmP] at hb5; cases hb5
        have hPE : P ≠ w.heap.size := fun e => by unfold Bx at he5; rw [← e, hmP] at he5; cases he5
        have hby := hb5.grown hGy (fun e => hPL (by injection e))
        have hey := he5.grown hGy (fun e => hPE (by injection e))
        refine ⟨wy, hrun, ⟨hby.cell (j := 3) rfl, hey.cell (j := 3) rfl⟩, ⟨hb5.cell (j := 3) rfl, he5.cell (j := 3) rfl⟩, outK Qe.a xa Q1 ++ [⟨xa, gg, (prK xa S1).length + 1, cap2⟩], ?_⟩
        have hfz : Fk (FC M P) base w w5 := (Hfz.out.trans (Fk.idle HGb.out)).trans (by
          cases ho : sv.ownBlock with
          | none => rw [ho] at hgr; exact Fk.idle hgr
          | some k =>
            rw [ho] at hgr
            obtain ⟨q, hq, -, rfl⟩ := hq0 k ho
            obtain ⟨cur, hc⟩ := hqc _ ho
            exact Fk.one hgr hc (Or.inl rfl) (HCb.out.rows q hq).1)
        rw [HRC.out, HRS.out]
        refine ⟨HCb.out.put1 (e := ⟨(3, xn, xt, xa), now + age, came + 1, age, rank, R, p, c, w.heap.size⟩) rfl rfl (HEAz.out.fk (bz := base) (M := M) (P := P) (Fk.idle HGb.out)) HBn.out HKn.out HX.out HLn.out hsv hown hgr (by rw [HHb.out]; exact hat) hGy hPy, ?_, hfz.trans (Fk.one hGy hmP (.inr rfl) HMx.out.2.2.2.2.2.2)⟩
        have hMb : Emap wb M (S1 ++ [⟨(3, xn, xt, xa), now + age, came + 1, age, rank, R, p, c, w.heap.size⟩]) := Lmap.kept HMz1.out HGb.out (by simp)
        exact Lmap.kept (Lmap.kept hMb hgr (fun e => by
          obtain ⟨cur, hc⟩ := hqc M e.symm
          obtain ⟨es, cl, hm⟩ := hMb.isMap
          rw [hc] at hm; cases hm)) hGy (fun e => HCb.out.mp (by injection e))
      clear hpm hrow hlp
      go_wp2_with fail
      refine wp_region_held_drew (S := fun V => V.cell? ⟨L, 3, none⟩ = some (.map (some P)) ∧ V.cell? ⟨w.heap.size, 3, none⟩ = some (.string xa)) (by kernel_rfl) ?_ (fun hHeld => ?_)
      · exact ⟨HCz.out.bx.cell (j := 3) rfl, HEz.out.cell (j := 3) rfl⟩
      refine takeD 0 (some 40) (.pointer (some ⟨L, 0, none⟩)) rfl rfl (by kernel_rfl) (by kernel_rfl) (by kernel_rfl) (fun _ _ _ h => h) (Or.inl ⟨by rfl, ?_⟩) (by assumption) ?_
      · intro w hSw; (try dsimp only at hSw); obtain ⟨c3, k3⟩ := hSw; go_simp <;> (intros; omega)
      simp only [Act.put, List.setIfInBounds_toArray, List.set_cons_zero, List.set_cons_succ]
      refine takeD 1 (some 41) (.pointer (some ⟨L, 0, none⟩)) rfl rfl (by kernel_rfl) (by kernel_rfl) (by kernel_rfl) (fun _ _ _ h => h) (Or.inl ⟨by rfl, ?_⟩) (by assumption) ?_
      · intro w hSw; (try dsimp only at hSw); obtain ⟨c3, k3⟩ := hSw; go_simp <;> (intros; omega)
      simp only [Act.put, List.setIfInBounds_toArray, List.set_cons_zero, List.set_cons_succ]
      refine takeD 2 (some 42) (.pointer (some ⟨L, 3, none⟩)) rfl rfl (by kernel_rfl) (by kernel_rfl) (by kernel_rfl) (fun _ _ _ h => h) (Or.inl ⟨by rfl, ?_⟩) (by assumption) ?_
      · intro w hSw; (try dsimp only at hSw); obtain ⟨c3, k3⟩ := hSw; go_simp <;> (intros; omega)
      simp only [Act.put, List.setIfInBounds_toArray, List.set_cons_zero, List.set_cons_succ]
      refine takeD 3 (some 43) (.map (some P)) rfl rfl (by kernel_rfl) (by kernel_rfl) (by kernel_rfl) (fun _ _ _ h => h) (Or.inl ⟨by rfl, ?_⟩) (by assumption) ?_
      · intro w hSw; (try dsimp only at hSw); obtain ⟨c3, k3⟩ := hSw; go_simp <;> (intros; omega)
      simp only [Act.put, List.setIfInBounds_toArray, List.set_cons_zero, List.set_cons_succ]
      refine takeD 4 (some 44) (.pointer (some ⟨w.heap.size, 0, none⟩)) rfl rfl (by kernel_rfl) (by kernel_rfl) (by kernel_rfl) (fun _ _ _ h => h) (Or.inl ⟨by rfl, ?_⟩) (by assumption) ?_
      · intro w hSw; (try dsimp only at hSw); obtain ⟨c3, k3⟩ := hSw; go_simp <;> (intros; omega)
      simp only [Act.put, List.setIfInBounds_toArray, List.set_cons_zero, List.set_cons_succ]
      refine takeD 5 (some 45) (.pointer (some ⟨w.heap.size, 3, none⟩)) rfl rfl (by kernel_rfl) (by kernel_rfl) (by kernel_rfl) (fun _ _ _ h => h) (Or.inl ⟨by rfl, ?_⟩) (by assumption) ?_
      · intro w hSw; (try dsimp only at hSw); obtain ⟨c3, k3⟩ := hSw; go_simp <;> (intros; omega)
      simp only [Act.put, List.setIfInBounds_toArray, List.set_cons_zero, List.set_cons_succ]
      refine takeD 6 (some 46) (.string xa) rfl rfl (by kernel_rfl) (by kernel_rfl) (by kernel_rfl) (fun _ _ _ h => h) (Or.inl ⟨by rfl, ?_⟩) (by assumption) ?_
      · intro w hSw; (try dsimp only at hSw); obtain ⟨c3, k3⟩ := hSw; go_simp <;> (intros; omega)
      simp only [Act.put, List.setIfInBounds_toArray, List.set_cons_zero, List.set_cons_succ]
      refine takeD 7 (some 47) (.pointer (some ⟨L, 0, none⟩)) rfl rfl (by kernel_rfl) (by kernel_rfl) (by kernel_rfl) (fun _ _ _ h => h) (Or.inl ⟨by rfl, ?_⟩) (by assumption) ?_
      · intro w hSw; (try dsimp only at hSw); obtain ⟨c3, k3⟩ := hSw; go_simp <;> (intros; omega)
      simp only [Act.put, List.setIfInBounds_toArray, List.set_cons_zero, List.set_cons_succ]
      refine takeD 8 (some 48) (.pointer (some ⟨L, 0, none⟩)) rfl rfl (by kernel_rfl) (by kernel_rfl) (by kernel_rfl) (fun _ _ _ h => h) (Or.inl ⟨by rfl, ?_⟩) (by assumption) ?_
      · intro w hSw; (try dsimp only at hSw); obtain ⟨c3, k3⟩ := hSw; go_simp <;> (intros; omega)
      simp only [Act.put, List.setIfInBounds_toArray, List.set_cons_zero, List.set_cons_succ]
      refine takeD 9 (some 49) (.pointer (some ⟨L, 3, none⟩)) rfl rfl (by kernel_rfl) (by kernel_rfl) (by kernel_rfl) (fun _ _ _ h => h) (Or.inl ⟨by rfl, ?_⟩) (by assumption) ?_
      · intro w hSw; (try dsimp only at hSw); obtain ⟨c3, k3⟩ := hSw; go_simp <;> (intros; omega)
      simp only [Act.put, List.setIfInBounds_toArray, List.set_cons_zero, List.set_cons_succ]
      refine takeD 10 (some 50) (.map (some P)) rfl rfl (by kernel_rfl) (by kernel_rfl) (by kernel_rfl) (fun _ _ _ h => h) (Or.inl ⟨by rfl, ?_⟩) (by assumption) ?_
      · intro w hSw; (try dsimp only at hSw); obtain ⟨c3, k3⟩ := hSw; go_simp <;> (intros; omega)
      simp only [Act.put, List.setIfInBounds_toArray, List.set_cons_zero, List.set_cons_succ]
      refine takeD 11 (some 51) (.pointer (some ⟨w.heap.size, 0, none⟩)) rfl rfl (by kernel_rfl) (by kernel_rfl) (by kernel_rfl) (fun _ _ _ h => h) (Or.inl ⟨by rfl, ?_⟩) (by assumption) ?_
      · intro w hSw; (try dsimp only at hSw); obtain ⟨c3, k3⟩ := hSw; go_simp <;> (intros; omega)
      simp only [Act.put, List.setIfInBounds_toArray, List.set_cons_zero, List.set_cons_succ]
      refine takeD 12 (some 52) (.pointer (some ⟨w.heap.size, 3, none⟩)) rfl rfl (by kernel_rfl) (by kernel_rfl) (by kernel_rfl) (fun _ _ _ h => h) (Or.inl ⟨by rfl, ?_⟩) (by assumption) ?_
      · intro w hSw; (try dsimp only at hSw); obtain ⟨c3, k3⟩ := hSw; go_simp <;> (intros; omega)
      simp only [Act.put, List.setIfInBounds_toArray, List.set_cons_zero, List.set_cons_succ]
      refine takeD 13 (some 53) (.string xa) rfl rfl (by kernel_rfl) (by kernel_rfl) (by kernel_rfl) (fun _ _ _ h => h) (Or.inl ⟨by rfl, ?_⟩) (by assumption) ?_
      · intro w hSw; (try dsimp only at hSw); obtain ⟨c3, k3⟩ := hSw; go_simp <;> (intros; omega)
      simp only [Act.put, List.setIfInBounds_toArray, List.set_cons_zero, List.set_cons_succ]
      refine wpAnyH_ready (rs := [14, 15]) (by kernel_rfl) (by simp) ?_
      refine AllReadyH.cons rfl (fun K hK => ?_) (AllReadyH.cons rfl (fun K hK => ?_) AllReadyH.nil)
      · have hrun := hLz.out
        go_simp
        go_wp2_with fail
        refine hK.out _ _ (hHeld) (fun hHeld => ?_)
        clear hK K hrun
        try simp only [Act.put, List.setIfInBounds_toArray, List.set_cons_zero, List.set_cons_succ]
        refine wpAnyH_ready (rs := [15]) (by kernel_rfl) (by simp) ?_
        refine AllReadyH.cons rfl (fun K hK => ?_) AllReadyH.nil
        go_simp
        go_wp2_with fail
        try rw [hwb]
        refine hK.out _ _ HSb.out (fun hHeld => ?_)
        clear hK K
        try simp only [Act.put, List.setIfInBounds_toArray, List.set_cons_zero, List.set_cons_succ]
        refine wpAnyH_ready (rs := [16]) (by kernel_rfl) (by simp) ?_
        refine AllReadyH.cons rfl (fun K hK => ?_) AllReadyH.nil
        refine step_append_lies _ rfl _ _ _ rfl base 54 i5 _ 1 8 Tryz.underlying89 hi5 hy0 hy1 hy2 rfl (by omega) sv (prK xa S1).length (peR (prK xa S1)) rfl HRow.out ⟨wz.heap.size, 0, none⟩ 1 1 [.pointer (some ⟨w.heap.size, 0, none⟩)] rfl rfl (World.news_of_block (cs := #[.pointer (some ⟨w.heap.size, 0, none⟩)]) (t := 54) (fr := (0, 0)) HAb.out) (by simp [Value.oneCell']) (by omega) hn1b hb1b hbb (wz.heap.size + 1) HHb.out ?_
        intro gg cap2 w5 hown5 hgrow hat5 hlt5
        obtain ⟨wy, hrun, hSy, hS5, hEnd⟩ := HEnd.out gg cap2 w5 hown5 hgrow hat5
        have HY := hide' hEnd
        clear hEnd hown5 hat5 hlt5
        refine hK.out _ _ hS5 (fun hHeld => ?_)
        clear hK K
        try simp only [Act.put, List.setIfInBounds_toArray, List.set_cons_zero, List.set_cons_succ]
        refine wpAnyH_ready (rs := [17]) (by kernel_rfl) (by simp) ?_
        refine AllReadyH.cons rfl (fun K hK => ?_) AllReadyH.nil
        go_simp
        go_wp2_with fail
        refine hK.out _ _ hSy (fun hHeld2 => ?_)
        clear hK K hrun
        try simp only [Act.put, List.setIfInBounds_toArray, List.set_cons_zero, List.set_cons_succ]
        refine wpAnyH_done (by kernel_rfl) ?_ _
        go_wp2_with fail
        go_end0
        exact ⟨rfl, HY.out⟩
      · go_simp
        go_wp2_with fail
        try rw [hwb]
        refine hK.out _ _ HSb.out (fun hHeld => ?_)
        clear hK K
        try simp only [Act.put, List.setIfInBounds_toArray, List.set_cons_zero, List.set_cons_succ]
        refine wpAnyH_ready (rs := [14]) (by kernel_rfl) (by simp) ?_
        refine AllReadyH.cons rfl (fun K hK => ?_) AllReadyH.nil
        have hrun := hLb.out
        go_simp
        go_wp2_with fail
        refine hK.out _ _ (hHeld) (fun hHeld => ?_)
        clear hK K hrun
        try simp only [Act.put, List.setIfInBounds_toArray, List.set_cons_zero, List.set_cons_succ]
        refine wpAnyH_ready (rs := [16]) (by kernel_rfl) (by simp) ?_
        refine AllReadyH.cons rfl (fun K hK => ?_) AllReadyH.nil
        refine step_append_lies _ rfl _ _ _ rfl base 54 i5 _ 1 8 Tryz.underlying89 hi5 hy0 hy1 hy2 rfl (by omega) sv (prK xa S1).length (peR (prK xa S1)) rfl HRow.out ⟨wz.heap.size, 0, none⟩ 1 1 [.pointer (some ⟨w.heap.size, 0, none⟩)] rfl rfl (World.news_of_block (cs := #[.pointer (some ⟨w.heap.size, 0, none⟩)]) (t := 54) (fr := (0, 0)) HAb.out) (by simp [Value.oneCell']) (by omega) hn1b hb1b hbb (wz.heap.size + 1) HHb.out ?_
        intro gg cap2 w5 hown5 hgrow hat5 hlt5
        obtain ⟨wy, hrun, hSy, hS5, hEnd⟩ := HEnd.out gg cap2 w5 hown5 hgrow hat5
        have HY := hide' hEnd
        clear hEnd hown5 hat5 hlt5
        refine hK.out _ _ hS5 (fun hHeld => ?_)
        clear hK K
        try simp only [Act.put, List.setIfInBounds_toArray, List.set_cons_zero, List.set_cons_succ]
        refine wpAnyH_ready (rs := [17]) (by kernel_rfl) (by simp) ?_
        refine AllReadyH.cons rfl (fun K hK => ?_) AllReadyH.nil
        go_simp
        go_wp2_with fail
        refine hK.out _ _ hSy (fun hHeld2 => ?_)
        clear hK K hrun
        try simp only [Act.put, List.setIfInBounds_toArray, List.set_cons_zero, List.set_cons_succ]
        refine wpAnyH_done (by kernel_rfl) ?_ _
        go_wp2_with fail
        go_end0
        exact ⟨rfl, HY.out⟩
    · have hne : (xk == 3) = false := by rw [beq_eq_false_iff_ne]; exact h3
      go_wp2_with fail
      go_end0
      rw [HRC.out, HRS.out]
      exact ⟨rfl, Q1, HCz.out.put0 (e := ⟨(xk, xn, xt, xa), now + age, came + 1, age, rank, R, p, c, w.heap.size⟩) h3 HEAz.out HBn.out HKn.out HX.out HLn.out, HMz1.out, Hfz.out⟩
end Go.Proofs.YtgekfhghambacaaGreat
