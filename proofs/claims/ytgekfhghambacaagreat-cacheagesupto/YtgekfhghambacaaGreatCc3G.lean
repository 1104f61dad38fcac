import Derived.Test.YtgekfhghambacaaGreatCc1G
import Derived.Test.YtgekfhghambacaaGreatOw0G
/-
  Chapter 12: a cache in memory. (The verifier's own text.)
-/
namespace Go.Proofs.YtgekfhghambacaaGreat
set_option linter.unusedVariables false
set_option linter.unusedSimpArgs false
open Go.RowKit Go.Shelf Go.Maps

/-- the proofs of an apex, in the order in which they came -/
def prK (a : ByteArray) (S : List Ce) : List Ce := S.filter (fun e => decide (e.key.1 = 3) && decide (e.key.2.2.2 = a))
def peR (L : List Ce) : List Value := L.map fun e => peV e.blk
theorem peR_len (L : List Ce) : (peR L).length = L.length := List.length_map _
theorem prK_out_other {a : ByteArray} {x : Ky} {S : List Ce} (h : x.1 ≠ 3 ∨ x.2.2.2 ≠ a) : prK a (outK Ce.key x S) = prK a S := by
  unfold prK outK
  rw [List.filter_filter]
  apply List.filter_congr
  intro e he
  by_cases e1 : e.key = x
  · have : (decide (e.key.1 = 3) && decide (e.key.2.2.2 = a)) = false := by
      rw [e1]
      rcases h with h | h
      · rw [decide_eq_false h]; rfl
      · rw [decide_eq_false h, Bool.and_false]
    rw [this]; rfl
  · rw [decide_eq_false e1]; simp
theorem prK_out {a : ByteArray} {x : Ky} {S : List Ce} : prK a (outK Ce.key x S) = outK Ce.key x (prK a S) := by
  unfold prK outK
  rw [List.filter_filter, List.filter_filter]
  apply List.filter_congr
  intro e he
  rw [Bool.and_comm]
theorem mem_prK {a : ByteArray} {S : List Ce} {e : Ce} : e ∈ prK a S ↔ e ∈ S ∧ e.key.1 = 3 ∧ e.key.2.2.2 = a := by simp [prK]
theorem prK_sub {a : ByteArray} {S : List Ce} : (prK a S).Sublist S := List.filter_sublist
/-- an entry in memory -/
def Eat (w : World) (base : Nat) (e : Ce) : Prop := Bx w e.blk (ceA e) 63 ∧ RsT w e.p e.recs ∧ base ≤ e.blk ∧ e.recs.length ≤ e.c ∧ e.c ≤ maxLen ∧ (e.p = none → e.c = 0)
theorem Eat.fk {w w' : World} {base bz M P : Nat} {e : Ce} (h : Eat w base e) (hf : Fk (FC M P) bz w w') : Eat w' base e :=
  ⟨h.1.fk hf (fun k => k.elim (fun e => absurd e (by decide)) (fun e => absurd e (by decide))), h.2.1.fk hf, h.2.2⟩
/-- what is seen of the map of entries, whether somebody ranges over it or not -/
structure Mv (I : World → List Ce → Prop) (M : Nat) (r : Option Nat) (x : Ky) : Prop where
  kept : ∀ {w w' : World} {S : List Ce} {row : Option Nat}, I w S → w.grownBy w' row → (∀ k, row = some k → k ≠ M ∧ some k ≠ r) → I w' S
  mp : ∀ {w : World} {S : List Ce}, I w S → ∃ es c, w.heap[M]? = some (.map es c)
  it : ∀ {w : World} {S : List Ce}, I w S → ∀ i, r = some i → ∃ a b c d, w.heap[i]? = some (.mapIter a b c d)
  look : ∀ {w : World} {S : List Ce}, I w S → (Instr.lookup 47 (.map (some M)) (kyV x) false).run Tryz.prog w = .ok (peAt x S) w
  drop : ∀ {w : World} {S : List Ce} (ty : TypeId), I w S → ∃ w', (Builtin.delete_ #[47, 57] ty #[.map (some M), kyV x]).run Tryz.prog w = .ok (.tuple #[]) w' ∧ I w' (outK Ce.key x S) ∧ w.grownBy w' (some M)
theorem Lmap.isMap {α κ : Type} {kt : TypeId} {R : Value → Option (DataW Unit × List MemPlace)} {key : α → κ} {kl : κ → Lit} {G : κ → Prop} {dv : α → DataW Unit} {w : World} {b : Nat} {S : List α} (h : Lmap kt R key kl G dv w b S) : ∃ es c, w.heap[b]? = some (.map es c) := by
  obtain ⟨D, n, ⟨es, c, hb, _⟩, _⟩ := h
  exact ⟨es, c, hb⟩
theorem Lrng.isIter {α κ : Type} {kt : TypeId} {R : Value → Option (DataW Unit × List MemPlace)} {key : α → κ} {kl : κ → Lit} {G : κ → Prop} {dv : α → DataW Unit} {w : World} {b r cnt : Nat} {left : Lit → Bool} {S : List α} (h : Lrng kt R key kl G dv w b r left cnt S) : ∃ x y z u, w.heap[r]? = some (.mapIter x y z u) := by
  obtain ⟨D, n, ⟨es, clock, since, seen, c0, hb, F, hs, hD, hr, _⟩, _⟩ := h
  exact ⟨_, _, _, _, hr⟩
/-- nobody ranges over it -/
theorem mvE (M : Nat) {x : Ky} (hx : kyG x) : Mv (fun w S => Emap w M S) M none x where
  kept h hg hr := Lmap.kept h hg (fun e => (hr M e.symm).1 rfl)
  mp h := h.isMap
  it h i hi := by cases hi
  look h := Emap.look h hx
  drop ty h := Emap.drop h hx ty
theorem strike_once (left : Lit → Bool) (kl : Lit) (h : ∀ z, (left z && !z.sameKey kl) = left z) : (fun z => left z && !z.sameKey kl) = left := funext h
/-- somebody ranges over it, and is behind x -/
theorem mvR (M i c : Nat) {left : Lit → Bool} {x : Ky} (hx : kyG x) (hl : ∀ z, (left z && !z.sameKey (kyL x)) = left z) : Mv (fun w S => ∃ cnt, cnt ≤ c ∧ Erng w M i left cnt S) M (some i) x where
  kept h hg hr := by
    obtain ⟨cnt, h0, h⟩ := h
    exact ⟨cnt, h0, Lrng.kept h hg (fun e => (hr M e.symm).1 rfl) (fun e => (hr i e.symm).2 rfl)⟩
  mp h := by obtain ⟨cnt, h0, h⟩ := h; exact h.map.isMap
  it h k hk := by
    obtain ⟨cnt, h0, h⟩ := h
    cases hk
    exact h.isIter
  look h := by obtain ⟨cnt, h0, h⟩ := h; exact Emap.look h.map hx
  drop ty h := by
    obtain ⟨cnt, h0, h⟩ := h
    obtain ⟨w', cnt', h1, h2, h3, h4⟩ := Erng.drop h hx ty
    rw [strike_once _ _ hl] at h2
    exact ⟨w', h1, ⟨cnt', by omega, h2⟩, h4⟩
/-- a cache in memory, but for the map of entries -/
structure Cac (w : World) (L M P base : Nat) (most came : Int) (S : List Ce) (Q : List Qe) : Prop where
  bx : Bx w L #[.int .i64 most, .int .i64 came, .map (some M), .map (some P)] 50
  pm : Pmap w P Q
  en : ∀ e ∈ S, Eat w base e
  rows : ∀ q ∈ Q, base ≤ q.g ∧ q.n = (prK q.a S).length ∧ 0 < q.n ∧ w.ownsRow base 54 1 (qeV q) q.n (peR (prK q.a S))
  all : ∀ e ∈ S, e.key.1 = 3 → ∃ q ∈ Q, q.a = e.key.2.2.2
  gs : (Q.map Qe.g).Nodup
  blk : (S.map Ce.blk).Nodup
  keys : (S.map Ce.key).Nodup
  good : ∀ e ∈ S, kyG e.key
  bL : base ≤ L
  bM : base ≤ M
  bP : base ≤ P
  mp : M ≠ P
  len : S.length ≤ 100000
  hw : base ≤ w.heap.size
section
variable {w w' : World} {L M P base : Nat} {most came : Int} {S : List Ce} {Q : List Qe}
theorem row_block {w : World} {base : Nat} {q : Qe} {n : Nat} {xs : List Value} (h : w.ownsRow base 54 1 (qeV q) n xs) : ∃ cur, w.heap[q.g]? = some (.cells cur 54 (0, 0)) := by
  obtain ⟨_, (⟨h1, _⟩ | ⟨g, cap, cur, h1, _, hg, _⟩)⟩ := h
  · cases h1
  · unfold qeV at h1
    injection h1 with h1
    injection h1 with h1
    injection h1 with h1
    subst h1
    exact ⟨cur, hg⟩
theorem row_keptQ {base : Nat} {q : Qe} {n : Nat} {xs : List Value} (h : w.ownsRow base 54 1 (qeV q) n xs) (hb : w'.heap[q.g]? = w.heap[q.g]?) : w'.ownsRow base 54 1 (qeV q) n xs :=
  own_blk h (fun g hg => by
    unfold qeV Value.ownBlock at hg
    cases hg
    exact hb)
/-- what turns none of its blocks -/
theorem Cac.kept {row : Option Nat} (h : Cac w L M P base most came S Q) (hg : w.grownBy w' row) (hL : row ≠ some L) (hP : row ≠ some P) (hq : ∀ q ∈ Q, row ≠ some q.g) (hK : ∀ k, row = some k → ∃ o, w.heap[k]? = some o ∧ FC M P k o) : Cac w' L M P base most came S Q := by
  have hf : Fk (FC M P) 0 w w' := by
    cases row with
    | none => exact Fk.idle hg
    | some k =>
      obtain ⟨o, ho, hk⟩ := hK k rfl
      exact Fk.one hg ho hk (Nat.zero_le _)
  refine ⟨h.bx.grown hg hL, h.pm.kept hg hP.symm, fun e he => ?_, fun q hq2 => ?_, h.all, h.gs, h.blk, h.keys, h.good, h.bL, h.bM, h.bP, h.mp, h.len, Nat.le_trans h.hw hg.size⟩
  · obtain ⟨a, b, c⟩ := h.en e he
    exact ⟨a.fk hf (fun k => k.elim (fun e => absurd e (by decide)) (fun e => absurd e (by decide))), b.fk hf, c⟩
  · obtain ⟨h1, h2, h3, h4⟩ := h.rows q hq2
    obtain ⟨cur, hc⟩ := row_block h4
    refine ⟨h1, h2, h3, row_keptQ h4 (hg.block _ (Array.getElem?_eq_some_iff.1 hc).1 (fun e => hq q hq2 e.symm))⟩
theorem Cac.idle (h : Cac w L M P base most came S Q) (hg : w.grownBy w' none) : Cac w' L M P base most came S Q :=
  h.kept hg (by simp) (by simp) (by simp) (fun k hk => by cases hk)
theorem Cac.below (h : Cac w L M P base most came S Q) (hb : Below w.heap.size w w') : Cac w' L M P base most came S Q := h.idle (grown_below hb none)
/-- the map of entries is no other block -/
theorem Cac.mapM (h : Cac w L M P base most came S Q) (hm : ∃ es c, w.heap[M]? = some (.map es c)) (hg : w.grownBy w' (some M)) : Cac w' L M P base most came S Q := by
  obtain ⟨es, c, hm⟩ := hm
  refine h.kept hg (fun e => ?_) (fun e => ?_) (fun q hq e => ?_) (fun k hk => ?_)
  · cases e
    have := h.bx
    unfold Bx at this
    rw [this] at hm; cases hm
  · cases e; exact h.mp rfl
  · cases e
    obtain ⟨cur, hc⟩ := row_block (h.rows q hq).2.2.2
    rw [hc] at hm; cases hm
  · cases hk; exact ⟨_, hm, .inl rfl⟩
end
end Go.Proofs.YtgekfhghambacaaGreat

/-
  Chapter 12: the cache's small functions. (The verifier's own text.)
-/
namespace Go.Proofs.YtgekfhghambacaaGreat
set_option linter.unusedVariables false
set_option linter.unusedSimpArgs false
open Go.RowKit Go.Shelf Go.Maps Go.Proofs.YtgekfhghambacaaGreat.Nm

theorem below_drewC {n : Nat} {w w' : World} (h : Below n w w') (m : Nat) : Below n w (w'.drewN m) := ⟨h.os, h.tape, h.output, h.size, h.block⟩
def setK (n : ByteArray) (t : Int) : Ky := (0, foldB n, t, ⟨#[]⟩)
def lackK (n : ByteArray) (t : Int) : Ky := (1, foldB n, t, ⟨#[]⟩)
def voidK (n : ByteArray) : Ky := (2, foldB n, 0, ⟨#[]⟩)
def proofK (a o : ByteArray) : Ky := (3, foldB o, 0, foldB a)
set_option maxRecDepth 100000 in
set_option maxHeartbeats 1000000 in
theorem isNone_any (L : Nat) (most : Int) (w : World) (h0 : w.cell? ⟨L, 0, none⟩ = some (.int .i64 most)) (hm : most ≠ 0) :
    Calls Tryz.prog 15 #[.pointer (some ⟨L, 0, none⟩)] w fun e w' => e = .returned (.bool false) ∧ w' = w := by
  have hb : (most == 0) = false := by rw [beq_eq_false_iff_ne]; exact hm
  go_enter Tryz.func15, Tryz.ntmps15
  go_wp2_with fail
  go_ret
  exact ⟨rfl, rfl⟩
set_option maxRecDepth 100000 in
set_option maxHeartbeats 1000000 in
theorem isTime_any (now : Int) (w : World) : Calls Tryz.prog 17 #[.int .i64 now] w fun e w' => e = .returned (.bool (decide (0 ≤ now ∧ now ≤ 4294967295))) ∧ w' = w := by
  by_cases h0 : 0 ≤ now
  · by_cases h1 : now ≤ 4294967295
    · rw [decide_eq_true ⟨h0, h1⟩]
      go_enter Tryz.func17, Tryz.ntmps17
      go_wp2_with fail
      go_ret
      exact ⟨rfl, rfl⟩
    · rw [decide_eq_false (fun h => h1 h.2)]
      go_enter Tryz.func17, Tryz.ntmps17
      go_wp2_with fail
      go_ret
      exact ⟨rfl, rfl⟩
  · rw [decide_eq_false (fun h => h0 h.1)]
    go_enter Tryz.func17, Tryz.ntmps17
    go_wp2_with fail
    go_ret
    exact ⟨rfl, rfl⟩
theorem bx4C {w : World} {R : Nat} {T : TypeId} {a b c d : Value} (h : Bx w R #[a, b, c, d] T) : w.cell? ⟨R, 0, none⟩ = some a ∧ w.cell? ⟨R, 1, none⟩ = some b ∧ w.cell? ⟨R, 2, none⟩ = some c ∧ w.cell? ⟨R, 3, none⟩ = some d ∧ w.frozen? ⟨R, 0, none⟩ = false ∧ w.frozen? ⟨R, 1, none⟩ = false ∧ w.frozen? ⟨R, 2, none⟩ = false ∧ w.frozen? ⟨R, 3, none⟩ = false :=
  ⟨h.cell rfl, h.cell rfl, h.cell rfl, h.cell rfl, h.free _, h.free _, h.free _, h.free _⟩
theorem bx4C_set {w : World} {R : Nat} {T : TypeId} {a b c d : Value} (h : Bx w R #[a, b, c, d] T) (x y z u : Value) : Bx ((((w.setCell ⟨R, 0, none⟩ x).setCell ⟨R, 1, none⟩ y).setCell ⟨R, 2, none⟩ z).setCell ⟨R, 3, none⟩ u) R #[x, y, z, u] T := (((h.set 0 x).set 1 y).set 2 z).set 3 u
theorem below4C {w W : World} {R : Nat} (h : Below w.heap.size w W) (hR : w.heap.size ≤ R) (x y z u : Value) : Below w.heap.size w ((((W.setCell ⟨R, 0, none⟩ x).setCell ⟨R, 1, none⟩ y).setCell ⟨R, 2, none⟩ z).setCell ⟨R, 3, none⟩ u) :=
  (((h.setCell hR _).setCell hR _).setCell hR _).setCell hR _
set_option maxRecDepth 100000 in
set_option maxHeartbeats 1000000 in
theorem setKey_any (n : ByteArray) (t : Int) (w : World) (hn : n.size ≤ maxLen) : Calls Tryz.prog 18 #[.string n, .int .i64 t] w fun e w' => e = .returned (kyV (setK n t)) ∧ Below w.heap.size w w' := by
  have HF0 := hide' (fun V => fold_any n V hn)
  obtain ⟨wz, hwz⟩ : ∃ wz, w.alloc (.cells #[.int .i64 0, .string ⟨#[]⟩, .int .i64 0, .string ⟨#[]⟩] 57) = wz := ⟨_, rfl⟩
  have HB0 : Hid (Below w.heap.size w wz) := hwz ▸ (Below.refl _ w).alloc (Nat.le_refl _) _
  have HK0 : Hid (Bx wz w.heap.size #[.int .i64 0, .string ⟨#[]⟩, .int .i64 0, .string ⟨#[]⟩] 57) := hwz ▸ World.alloc_heap_new w _
  unfold setK kyV
  simp only
  generalize foldB n = F0 at *
  go_enter Tryz.func18, Tryz.ntmps18
  go_wp2_with (first
  | (go_at_call 39; refine (HF0.out _).mono ?_; rintro e1 w1 ⟨rfl, hB1⟩; have HB1 := hide' (bstep HB0.out hB1 HB0.out.size); have HK1 := hide' (HK0.out.below hB1 HK0.out.lt); clear hB1; obtain ⟨z0, z1, z2, z3, f0, f1, f2, f3⟩ := bx4C HK1.out))
  have hb := bx4C_set HK1.out (.int .i64 0) (.string F0) (.int .i64 t) (.string ⟨#[]⟩)
  have HBf := below4C HB1.out (Nat.le_refl _) (.int .i64 0) (.string F0) (.int .i64 t) (.string ⟨#[]⟩)
  obtain ⟨r0, r1, r2, r3, -, -, -, -⟩ := bx4C hb
  refine bodyPost_ret (v := .agg #[.int .i64 0, .string F0, .int .i64 t, .string ⟨#[]⟩]) (by simp [results, go_sem, r0, r1, r2, r3]) rfl ⟨rfl, HBf⟩
set_option maxRecDepth 100000 in
set_option maxHeartbeats 1000000 in
theorem lackKey_any (n : ByteArray) (t : Int) (w : World) (hn : n.size ≤ maxLen) : Calls Tryz.prog 27 #[.string n, .int .i64 t] w fun e w' => e = .returned (kyV (lackK n t)) ∧ Below w.heap.size w w' := by
  have HF0 := hide' (fun V => fold_any n V hn)
  obtain ⟨wz, hwz⟩ : ∃ wz, w.alloc (.cells #[.int .i64 0, .string ⟨#[]⟩, .int .i64 0, .string ⟨#[]⟩] 57) = wz := ⟨_, rfl⟩
  have HB0 : Hid (Below w.heap.size w wz) := hwz ▸ (Below.refl _ w).alloc (Nat.le_refl _) _
  have HK0 : Hid (Bx wz w.heap.size #[.int .i64 0, .string ⟨#[]⟩, .int .i64 0, .string ⟨#[]⟩] 57) := hwz ▸ World.alloc_heap_new w _
  unfold lackK kyV
  simp only
  generalize foldB n = F0 at *
  go_enter Tryz.func27, Tryz.ntmps27
  go_wp2_with (first
  | (go_at_call 39; refine (HF0.out _).mono ?_; rintro e1 w1 ⟨rfl, hB1⟩; have HB1 := hide' (bstep HB0.out hB1 HB0.out.size); have HK1 := hide' (HK0.out.below hB1 HK0.out.lt); clear hB1; obtain ⟨z0, z1, z2, z3, f0, f1, f2, f3⟩ := bx4C HK1.out))
  have hb := bx4C_set HK1.out (.int .i64 1) (.string F0) (.int .i64 t) (.string ⟨#[]⟩)
  have HBf := below4C HB1.out (Nat.le_refl _) (.int .i64 1) (.string F0) (.int .i64 t) (.string ⟨#[]⟩)
  obtain ⟨r0, r1, r2, r3, -, -, -, -⟩ := bx4C hb
  refine bodyPost_ret (v := .agg #[.int .i64 1, .string F0, .int .i64 t, .string ⟨#[]⟩]) (by simp [results, go_sem, r0, r1, r2, r3]) rfl ⟨rfl, HBf⟩
set_option maxRecDepth 100000 in
set_option maxHeartbeats 1000000 in
theorem voidKey_any (n : ByteArray) (w : World) (hn : n.size ≤ maxLen) : Calls Tryz.prog 29 #[.string n] w fun e w' => e = .returned (kyV (voidK n)) ∧ Below w.heap.size w w' := by
  have HF0 := hide' (fun V => fold_any n V hn)
  obtain ⟨wz, hwz⟩ : ∃ wz, w.alloc (.cells #[.int .i64 0, .string ⟨#[]⟩, .int .i64 0, .string ⟨#[]⟩] 57) = wz := ⟨_, rfl⟩
  have HB0 : Hid (Below w.heap.size w wz) := hwz ▸ (Below.refl _ w).alloc (Nat.le_refl _) _
  have HK0 : Hid (Bx wz w.heap.size #[.int .i64 0, .string ⟨#[]⟩, .int .i64 0, .string ⟨#[]⟩] 57) := hwz ▸ World.alloc_heap_new w _
  unfold voidK kyV
  simp only
  generalize foldB n = F0 at *
  go_enter Tryz.func29, Tryz.ntmps29
  go_wp2_with (first
  | (go_at_call 39; refine (HF0.out _).mono ?_; rintro e1 w1 ⟨rfl, hB1⟩; have HB1 := hide' (bstep HB0.out hB1 HB0.out.size); have HK1 := hide' (HK0.out.below hB1 HK0.out.lt); clear hB1; obtain ⟨z0, z1, z2, z3, f0, f1, f2, f3⟩ := bx4C HK1.out))
  have hb := bx4C_set HK1.out (.int .i64 2) (.string F0) (.int .i64 0) (.string ⟨#[]⟩)
  have HBf := below4C HB1.out (Nat.le_refl _) (.int .i64 2) (.string F0) (.int .i64 0) (.string ⟨#[]⟩)
  obtain ⟨r0, r1, r2, r3, -, -, -, -⟩ := bx4C hb
  refine bodyPost_ret (v := .agg #[.int .i64 2, .string F0, .int .i64 0, .string ⟨#[]⟩]) (by simp [results, go_sem, r0, r1, r2, r3]) rfl ⟨rfl, HBf⟩
set_option maxRecDepth 100000 in
set_option maxHeartbeats 1000000 in
theorem proofKey_any (a o : ByteArray) (w : World) (ha : a.size ≤ maxLen) (ho : o.size ≤ maxLen) : Calls Tryz.prog 37 #[.string a, .string o] w fun e w' => e = .returned (kyV (proofK a o)) ∧ Below w.heap.size w w' := by
  have HF0 := hide' (fun V => fold_any o V ho)
  have HF1 := hide' (fun V => fold_any a V ha)
  obtain ⟨wz, hwz⟩ : ∃ wz, w.alloc (.cells #[.int .i64 0, .string ⟨#[]⟩, .int .i64 0, .string ⟨#[]⟩] 57) = wz := ⟨_, rfl⟩
  have HB0 : Hid (Below w.heap.size w wz) := hwz ▸ (Below.refl _ w).alloc (Nat.le_refl _) _
  have HK0 : Hid (Bx wz w.heap.size #[.int .i64 0, .string ⟨#[]⟩, .int .i64 0, .string ⟨#[]⟩] 57) := hwz ▸ World.alloc_heap_new w _
  unfold proofK kyV
  simp only
  generalize foldB o = F0 at *
  generalize foldB a = F1 at *
  have FT1 : Hid True := trivial
  go_enter Tryz.func37, Tryz.ntmps37
  go_wp2_with (first
  | (go_at_call 39; have _ := FT1; clear FT1; refine (HF0.out _).mono ?_; rintro e1 w1 ⟨rfl, hB1⟩; have HB1 := hide' (bstep HB0.out hB1 HB0.out.size); have HK1 := hide' (HK0.out.below hB1 HK0.out.lt); clear hB1)
  | (go_at_call 39; refine (HF1.out _).mono ?_; rintro e2 w2 ⟨rfl, hB2⟩; have HB2 := hide' (bstep HB1.out hB2 HB1.out.size); have HK2 := hide' (HK1.out.below hB2 HK1.out.lt); clear hB2; obtain ⟨z0, z1, z2, z3, f0, f1, f2, f3⟩ := bx4C HK2.out))
  have hb := bx4C_set HK2.out (.int .i64 3) (.string F0) (.int .i64 0) (.string F1)
  have HBf := below4C HB2.out (Nat.le_refl _) (.int .i64 3) (.string F0) (.int .i64 0) (.string F1)
  obtain ⟨r0, r1, r2, r3, -, -, -, -⟩ := bx4C hb
  refine bodyPost_ret (v := .agg #[.int .i64 3, .string F0, .int .i64 0, .string F1]) (by simp [results, go_sem, r0, r1, r2, r3]) rfl ⟨rfl, HBf⟩
set_option maxRecDepth 100000 in
set_option maxHeartbeats 1000000 in
theorem isAlive_none (now : Int) (w : World) : Calls Tryz.prog 19 #[.pointer none, .int .i64 now] w fun e w' => e = .returned (.bool false) ∧ w' = w := by
  go_enter Tryz.func19, Tryz.ntmps19
  go_wp2_with fail
  go_ret
  exact ⟨rfl, rfl⟩
set_option maxRecDepth 100000 in
set_option maxHeartbeats 1000000 in
theorem isAlive_some (now : Int) (w : World) (e : Ce) (h : Bx w e.blk (ceA e) 63) : Calls Tryz.prog 19 #[peV e.blk, .int .i64 now] w fun r w' => r = .returned (.bool (decide (e.fin > now))) ∧ w' = w := by
  have h4 : w.cell? ⟨e.blk, 4, none⟩ = some (.int .i64 e.fin) := h.cell rfl
  unfold peV
  by_cases hf : e.fin > now
  · rw [decide_eq_true hf]
    have hf2 : now < e.fin := hf
    go_enter Tryz.func19, Tryz.ntmps19
    go_wp2_with fail
    go_ret
    exact ⟨rfl, rfl⟩
  · rw [decide_eq_false hf]
    have hf2 : ¬ now < e.fin := hf
    go_enter Tryz.func19, Tryz.ntmps19
    go_wp2_with fail
    go_ret
    exact ⟨rfl, rfl⟩
/-- is the entry at a key alive? -/
def aliveK (x : Ky) (S : List Ce) (now : Int) : Bool := match atK Ce.key x S with | some e => decide (e.fin > now) | none => false
theorem isAlive_at (x : Ky) (S : List Ce) (now : Int) (w : World) (base : Nat) (h : ∀ e ∈ S, Eat w base e) : Calls Tryz.prog 19 #[peAt x S, .int .i64 now] w fun r w' => r = .returned (.bool (aliveK x S now)) ∧ w' = w := by
  unfold peAt aliveK
  cases hc : atK Ce.key x S with
  | none => exact isAlive_none now w
  | some e => exact isAlive_some now w e (h e (atK_some hc).1).1
set_option maxRecDepth 100000 in
set_option maxHeartbeats 1000000 in
/-- (*entry).isAhead -/
theorem isAhead_any (w : World) (e f : Ce) (h : Bx w e.blk (ceA e) 63) (k : Bx w f.blk (ceA f) 63) : Calls Tryz.prog 63 #[peV e.blk, peV f.blk] w fun r w' => r = .returned (.bool (if e.fin = f.fin then decide (e.came < f.came) else decide (e.fin < f.fin))) ∧ Below w.heap.size w w' := by
  have h4 : w.cell? ⟨e.blk, 4, none⟩ = some (.int .i64 e.fin) := h.cell rfl
  have h5 : w.cell? ⟨e.blk, 5, none⟩ = some (.int .i64 e.came) := h.cell rfl
  have k4 : w.cell? ⟨f.blk, 4, none⟩ = some (.int .i64 f.fin) := k.cell rfl
  have k5 : w.cell? ⟨f.blk, 5, none⟩ = some (.int .i64 f.came) := k.cell rfl
  unfold peV
  by_cases hf : e.fin = f.fin
  · rw [if_pos hf]
    have hb : (e.fin == f.fin) = true := by rw [hf]; exact beq_self_eq_true _
    obtain ⟨z, hz⟩ : ∃ z, decide (e.came < f.came) = z := ⟨_, rfl⟩
    rw [hz]
    go_enter Tryz.func63, Tryz.ntmps63
    go_wp2
    go_quiet (fail)
    go_wp2
    go_quiet (fail)
    go_wp2
    go_ret
    exact ⟨by rw [← hz]; rfl, below_drewC (below_drewC (Below.refl _ _) _) _⟩
  · rw [if_neg hf]
    have hb : (e.fin == f.fin) = false := by rw [beq_eq_false_iff_ne]; exact hf
    obtain ⟨z, hz⟩ : ∃ z, decide (e.fin < f.fin) = z := ⟨_, rfl⟩
    rw [hz]
    go_enter Tryz.func63, Tryz.ntmps63
    go_wp2
    go_quiet (fail)
    go_wp2
    go_quiet (fail)
    go_wp2
    go_ret
    exact ⟨by rw [← hz]; rfl, below_drewC (below_drewC (Below.refl _ _) _) _⟩
theorem rs_bel {w w' : World} {p : Option Addr} {L : List Rn} (h : RsAt w p L) (hb : Below w.heap.size w w') : RsAt w' p L := fun k hk => by
  obtain ⟨g, off, hp, hg, e0, e1, e2, e3, e4⟩ := h k hk
  exact ⟨g, off, hp, Nat.lt_of_lt_of_le hg hb.size, (hb.cell (p := ⟨g, _, none⟩) hg).trans e0, (hb.cell (p := ⟨g, _, none⟩) hg).trans e1, (hb.cell (p := ⟨g, _, none⟩) hg).trans e2, (hb.cell (p := ⟨g, _, none⟩) hg).trans e3, (hb.cell (p := ⟨g, _, none⟩) hg).trans e4⟩
/-- how long a set is remembered -/
def ageF (R : List Rn) : Int := R.foldl (fun a r => min a r.l) 604800
set_option maxRecDepth 100000 in
set_option maxHeartbeats 1000000 in
theorem ageOf_any (R : List Rn) (p : Option Addr) (c : Nat) (w : World) (hat : RsAt w p R) (hn : R.length ≤ 4294967296) : Calls Tryz.prog 24 #[.slice p R.length c] w fun r w' => r = .returned (.int .i64 (ageF R)) ∧ Below w.heap.size w w' := by
  have HA := hide' hat
  clear hat
  go_enter Tryz.func24, Tryz.ntmps24
  go_wp2_with fail
  go_loopw [3, 8] (fun a i wr => ∃ k : Nat, a = .int .i64 (ageF (R.take k)) ∧ i = .int .i64 (k : Int) ∧ k ≤ R.length ∧ Hid (Below w.heap.size w wr)) (fun _ i _ => R.length - (intOf i).toNat)
  case atStart => exact ⟨0, by rw [List.take_zero]; rfl, rfl, Nat.zero_le _, Below.refl _ _⟩
  case round =>
    obtain ⟨k, rfl, rfl, hk, HB⟩ := hrel
    by_cases hlt : k < R.length
    · obtain ⟨g, off, rfl, hg, e0, e1, e2, e3, e4⟩ := rs_bel HA.out HB.out k hlt
      have hs : ageF (R.take (k + 1)) = min (ageF (R.take k)) (R[k].l) := by unfold ageF; rw [List.take_succ_eq_append_getElem hlt, List.foldl_append]; rfl
      have HS := hide' hs
      clear hs
      generalize ageF (R.take k) = A at *
      obtain ⟨x, hx⟩ : ∃ x, R[k] = x := ⟨_, rfl⟩
      rw [hx] at e0 e1 e2 e3 e4 HS
      clear hx
      obtain ⟨xo, xt, xc, xl, xd⟩ := x
      simp only at e0 e1 e2 e3 e4 HS
      have HB2 : Hid (Below w.heap.size w (wr.alloc (.cells #[.string xo, .int .i64 xt, .int .i64 xc, .int .i64 xl, .string xd] 36))) := HB.out.alloc HB.out.size _
      go_wp2_with fail
      go_roundw
      case rel => exact ⟨k + 1, by rw [HS.out], by go_num, by omega, HB2⟩
      case measure => simp [intOf]; omega
    · obtain rfl : k = R.length := by omega
      rw [List.take_length]
      go_wp2_with fail
      go_ret
      exact ⟨rfl, HB.out⟩
end Go.Proofs.YtgekfhghambacaaGreat
