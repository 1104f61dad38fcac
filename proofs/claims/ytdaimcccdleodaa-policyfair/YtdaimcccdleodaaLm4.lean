import Derived.Test.YtdaimcccdleodaaLm3
import Derived.Test.YtdaimcccdleodaaOr0
/-
  Chapter 15: a limiter in memory. (The verifier's own text.)
-/
namespace Go.Proofs.Ytdaimcccdleodaa
set_option linter.unusedVariables false
set_option linter.unusedSimpArgs false
open Go.RowKit Go.Shelf Go.Maps

/-- one that is seen: who, where its account lies, what is in it -/
structure En where
  who : ByteArray
  blk : Nat
  left : Int
  last : Int
/-- where the account of one lies -/
def blkF (S : List En) (x : ByteArray) : Option Nat := (S.find? (fun e => decide (e.who = x))).map (·.blk)
/-- what turns: blocks of these kinds, from base on -/
structure Ft (K : Obj → Prop) (base : Nat) (w w' : World) : Prop where
  os : w'.os = w.os
  tape : w'.tape = w.tape
  output : w'.output = w.output
  size : w.heap.size ≤ w'.heap.size
  low : ∀ k : Nat, k < base → k < w.heap.size → w'.heap[k]? = w.heap[k]?
  far : ∀ (k : Nat) (o : Obj), w.heap[k]? = some o → ¬ K o → w'.heap[k]? = some o
theorem Ft.refl (K : Obj → Prop) (base : Nat) (w : World) : Ft K base w w := ⟨rfl, rfl, rfl, Nat.le_refl _, fun _ _ _ => rfl, fun _ _ h _ => h⟩
theorem Ft.trans {K : Obj → Prop} {base : Nat} {a b c : World} (h : Ft K base a b) (k : Ft K base b c) : Ft K base a c :=
  ⟨k.os.trans h.os, k.tape.trans h.tape, k.output.trans h.output, Nat.le_trans h.size k.size, fun j hj hl => (k.low j hj (Nat.lt_of_lt_of_le hl h.size)).trans (h.low j hj hl), fun j o hj ho => k.far j o (h.far j o hj ho) ho⟩
theorem Ft.idle {K : Obj → Prop} {base : Nat} {w w' : World} (h : w.grownBy w' none) : Ft K base w w' :=
  ⟨h.os, h.tape, h.output, h.size, fun k _ hk => h.block k hk (by simp), fun k o ho _ => (h.block k (Array.getElem?_eq_some_iff.1 ho).1 (by simp)).trans ho⟩
theorem Ft.of {K : Obj → Prop} {base : Nat} {w w' : World} (h : Below w.heap.size w w') : Ft K base w w' := Ft.idle (grown_below h none)
theorem Ft.one {K : Obj → Prop} {base : Nat} {w w' : World} {r : Nat} {o : Obj} (h : w.grownBy w' (some r)) (hr : w.heap[r]? = some o) (ho : K o) (hb : base ≤ r) : Ft K base w w' :=
  ⟨h.os, h.tape, h.output, h.size, fun k hk hl => h.block k hl (fun e => by cases e; omega), fun k o' ho' hn => (h.block k (Array.getElem?_eq_some_iff.1 ho').1 (fun e => by
    cases e
    rw [hr] at ho'
    cases ho'
    exact hn ho)).trans ho'⟩
theorem Ft.below {K : Obj → Prop} {base : Nat} {w w' : World} (h : Ft K base w w') (hb : base ≤ w.heap.size) : Below base w w' :=
  ⟨h.os, h.tape, h.output, h.size, fun k hk => h.low k hk (by omega)⟩
/-- a box of another kind -/
theorem Bx.ft {K : Obj → Prop} {base : Nat} {w w' : World} {R : Nat} {cs : Array Value} {T : TypeId} (h : Bx w R cs T) (hf : Ft K base w w') (hk : ¬ K (.cells cs T (0, 0))) : Bx w' R cs T := hf.far R _ h hk
theorem Orow.ft {K : Obj → Prop} {base b e size n : Nat} {w w' : World} {v : Value} {xs : List Value} (h : Orow w b e size v n xs) (hf : Ft K base w w') (hk : ∀ cs, ¬ K (.cells cs e (0, 0))) : Orow w' b e size v n xs := by
  refine ⟨h.1, ?_⟩
  rcases h.2 with hn | ⟨g, o, cap, cur, rfl, hb, hgg, rest⟩
  · exact .inl hn
  · exact .inr ⟨g, o, cap, cur, rfl, hb, hf.far g _ hgg (hk cur), rest⟩
theorem Mf.ft {κ β : Type} {k : TypeId} {R : Value → Option (DataW Unit × List MemPlace)} {kl : κ → Lit} {G : κ → Prop} {dv : β → DataW Unit} {w w' : World} {b n : Nat} {f : κ → Option β} {K : Obj → Prop} {base : Nat} (h : Mf k R kl G dv w b n f) (hf : Ft K base w w') (hk : ∀ es c, ¬ K (.map es c)) : Mf k R kl G dv w' b n f := by
  obtain ⟨D, ⟨es, clock, hb, rest⟩, h'⟩ := h
  exact ⟨D, ⟨es, clock, hf.far b _ hb (hk es clock), rest⟩, h'⟩
/-- the kinds of a limiter's blocks -/
def LK (o : Obj) : Prop := match o with
  | .map _ _ => True
  | .cells _ T _ => T = 56 ∨ T = 59 ∨ T = 67
  | _ => True
/-- a limiter in memory -/
structure Lim (w : World) (L M base : Nat) (qv : Value) (n : Nat) (rate burst : Int) (S : List En) : Prop where
  bx : Bx w L #[.int .i64 rate, .int .i64 burst, .map (some M), qv] 56
  mp : MPa w M n (blkF S)
  q : Orow w base 59 8 qv S.length (rowV paC (S.map (·.who)))
  ac : ∀ e ∈ S, Bx w e.blk #[.int .i64 e.left, .int .i64 e.last] 67 ∧ base ≤ e.blk
  good : ∀ e ∈ S, paG e.who ∧ 0 ≤ e.left ∧ e.left ≤ burst ∧ (Lit.int .i64 e.last).wf = true
  who : (S.map (·.who)).Nodup
  blk : (S.map (·.blk)).Nodup
  len : S.length ≤ 1000
  bL : base ≤ L
  bM : base ≤ M
  bW : base ≤ w.heap.size
theorem paC_len (x : ByteArray) : (paC x).length = 8 := rfl
theorem paC_one (x : ByteArray) : ∀ u ∈ paC x, u.oneCell' = true := by
  intro u h
  simp only [paC, List.mem_cons, List.not_mem_nil, or_false] at h
  rcases h with rfl | rfl | rfl | rfl | rfl | rfl | rfl | rfl <;> rfl
section
variable {w w' : World} {L M base n : Nat} {qv : Value} {rate burst : Int} {S : List En}
/-- what turns nothing of it -/
theorem Lim.grown (h : Lim w L M base qv n rate burst S) (hg : w.grownBy w' none) : Lim w' L M base qv n rate burst S :=
  ⟨h.bx.grown hg (by simp), h.mp.grown hg (by simp), h.q.kept hg (fun _ _ => by simp), fun e he => ⟨(h.ac e he).1.grown hg (by simp), (h.ac e he).2⟩, h.good, h.who, h.blk, h.len, h.bL, h.bM, Nat.le_trans h.bW hg.size⟩
theorem Lim.ft {K : Obj → Prop} {b : Nat} (h : Lim w L M base qv n rate burst S) (hf : Ft K b w w') (h1 : ∀ es c, ¬ K (.map es c)) (h2 : ∀ cs, ¬ K (.cells cs 56 (0, 0))) (h3 : ∀ cs, ¬ K (.cells cs 59 (0, 0))) (h4 : ∀ cs, ¬ K (.cells cs 67 (0, 0))) : Lim w' L M base qv n rate burst S :=
  ⟨h.bx.ft hf (h2 _), h.mp.ft hf h1, h.q.ft hf h3, fun e he => ⟨(h.ac e he).1.ft hf (h4 _), (h.ac e he).2⟩, h.good, h.who, h.blk, h.len, h.bL, h.bM, Nat.le_trans h.bW hf.size⟩
/-- the map's block is no other's -/
theorem bx_map {R : Nat} {cs : Array Value} {T : TypeId} {f : ByteArray → Option Nat} (h : Bx w R cs T) (hm : MPa w M n f) : R ≠ M := fun e => by
  subst e
  obtain ⟨D, ⟨es, clock, hb, _⟩, _⟩ := hm
  unfold Bx at h
  rw [h] at hb
  cases hb
theorem bx_kind {R R' : Nat} {cs cs' : Array Value} {T T' : TypeId} (h : Bx w R cs T) (h' : Bx w R' cs' T') (hT : T ≠ T') : R ≠ R' := fun e => by
  subst e
  unfold Bx at h h'
  rw [h] at h'
  injection h' with h'
  injection h' with _ h' _
  exact hT h'
theorem bx_row {R k e size : Nat} {cs : Array Value} {T : TypeId} {v : Value} {m : Nat} {xs : List Value} (h : Bx w R cs T) (ho : Orow w base e size v m xs) (hk : v.ownBlock = some k) (hT : T ≠ e) : R ≠ k := fun e' => by
  subst e'
  rcases ho.2 with ⟨rfl, _⟩ | ⟨g, o, cap, cur, rfl, _, hgg, _⟩
  · simp [Value.ownBlock] at hk
  · simp [Value.ownBlock] at hk
    subst hk
    unfold Bx at h
    rw [h] at hgg
    injection hgg with hgg
    injection hgg with _ hgg _
    exact hT hgg
theorem map_row {k e size : Nat} {v : Value} {m : Nat} {xs : List Value} {f : ByteArray → Option Nat} (h : MPa w M n f) (ho : Orow w base e size v m xs) (hk : v.ownBlock = some k) : M ≠ k := fun e' => by
  subst e'
  rcases ho.2 with ⟨rfl, _⟩ | ⟨g, o, cap, cur, rfl, _, hgg, _⟩
  · simp [Value.ownBlock] at hk
  · simp [Value.ownBlock] at hk
    subst hk
    obtain ⟨D, ⟨es, clock, hb, _⟩, _⟩ := h
    rw [hgg] at hb
    cases hb
end
theorem blkF_none {S : List En} {x : ByteArray} (h : ∀ e ∈ S, e.who ≠ x) : blkF S x = none := by
  unfold blkF
  rw [List.find?_eq_none.2 (fun e he => by simpa using h e he)]
  rfl
theorem blkF_app {S : List En} {e : En} (h : ∀ y ∈ S, y.who ≠ e.who) : blkF (S ++ [e]) e.who = some e.blk := by
  unfold blkF
  rw [List.find?_append, List.find?_eq_none.2 (fun y hy => by simpa using h y hy)]
  simp
theorem blkF_other {S : List En} {e : En} {x : ByteArray} (h : x ≠ e.who) : blkF (S ++ [e]) x = blkF S x := by
  unfold blkF
  rw [List.find?_append]
  simp [Ne.symm h]
theorem blkF_tail {S : List En} {e : En} {x : ByteArray} (h : x ≠ e.who) : blkF (e :: S) x = blkF S x := by
  unfold blkF
  simp [List.find?_cons, Ne.symm h]
end Go.Proofs.Ytdaimcccdleodaa
