import Derived.Test.YtdaimcccdleodaaLm7
/-
  Chapter 15: what a limiter does, plainly; what it keeps of one turns. (The verifier's own text.)
-/
namespace Go.Proofs.Ytdaimcccdleodaa
set_option linter.unusedVariables false
set_option linter.unusedSimpArgs false
open Go.RowKit Go.Shelf Go.Maps

/-- who comes last, with room for it -/
def goL {α : Type} (S : List α) : List α := if S.length = 1000 then S.tail else S
theorem goL_le {α : Type} {S : List α} (h : S.length ≤ 1000) : (goL S).length < 1000 := by
  unfold goL
  split
  · rw [List.length_tail]; omega
  · omega
theorem goL_mem {α : Type} {S : List α} {e : α} (h : e ∈ goL S) : e ∈ S := by
  unfold goL at h
  split at h
  · exact List.mem_of_mem_tail h
  · exact h
theorem goL_map {α β : Type} (f : α → β) (S : List α) : (goL S).map f = goL (S.map f) := by
  unfold goL
  rw [List.length_map]
  split
  · rw [List.map_tail]
  · rfl
theorem admit_any (L M base n : Nat) (qv : Value) (rate burst now : Int) (S : List En) (x : ByteArray) (w : World) (h : Lim w L M base qv n rate burst S) (hx : paG x) (hnew : ∀ e ∈ S, e.who ≠ x) (hn : n < maxLen) (hb0 : 0 ≤ burst) (hnow : (Lit.int .i64 now).wf = true) :
    Calls Try.prog 21 #[.pointer (some ⟨L, 0, none⟩), paV x, .int .i64 now] w (admE L M base n rate burst now (goL S) x w) := by
  have hl := h.len
  unfold goL
  split
  · rename_i h1
    cases S with
    | nil => simp at h1
    | cons e0 T =>
      exact admit_full L M base n qv rate burst now e0 T x w h hx (fun e he => hnew e (by simp [he])) (by simpa using h1) hn hb0 hnow
  · exact admit_room L M base n qv rate burst now S x w h hx hnew (by omega) hn hb0 hnow
theorem nodup_inj {α β : Type} {f : α → β} : ∀ {l : List α}, (l.map f).Nodup → ∀ {a b : α}, a ∈ l → b ∈ l → f a = f b → a = b
  | [], _, _, _, h, _, _ => by cases h
  | c :: l, hn, a, b, ha, hb, e => by
    simp only [List.map_cons, List.nodup_cons] at hn
    rcases List.mem_cons.1 ha with rfl | ha'
    · rcases List.mem_cons.1 hb with rfl | hb
      · rfl
      · exact absurd (e ▸ List.mem_map_of_mem hb) hn.1
    · rcases List.mem_cons.1 hb with hb | hb
      · subst hb
        exact absurd (show f b ∈ l.map f from e ▸ List.mem_map_of_mem ha') hn.1
      · exact nodup_inj hn.2 ha' hb e
/-- what is kept of one, turned -/
def putE (S : List En) (x : ByteArray) (l t : Int) : List En := S.map fun y => if y.who = x then { y with left := l, last := t } else y
theorem putE_who (S : List En) (x : ByteArray) (l t : Int) : (putE S x l t).map (·.who) = S.map (·.who) := by
  unfold putE
  rw [List.map_map]
  apply List.map_congr_left
  intro y _
  simp only [Function.comp]
  split <;> rfl
theorem putE_blk (S : List En) (x : ByteArray) (l t : Int) : (putE S x l t).map (·.blk) = S.map (·.blk) := by
  unfold putE
  rw [List.map_map]
  apply List.map_congr_left
  intro y _
  simp only [Function.comp]
  split <;> rfl
theorem putE_F : ∀ (S : List En) (x : ByteArray) (l t : Int) (z : ByteArray), blkF (putE S x l t) z = blkF S z
  | [], _, _, _, _ => rfl
  | y :: S, x, l, t, z => by
    have ih := putE_F S x l t z
    unfold blkF putE at *
    rw [List.map_cons, List.find?_cons, List.find?_cons]
    have e : (if y.who = x then { y with left := l, last := t } else y).who = y.who := by split <;> rfl
    have e2 : (if y.who = x then { y with left := l, last := t } else y).blk = y.blk := by split <;> rfl
    rw [e]
    split
    · simp [e2]
    · exact ih
theorem Lim.put {w w' : World} {L M base n : Nat} {qv : Value} {rate burst : Int} {S : List En} {e : En} {l t : Int} (h : Lim w L M base qv n rate burst S) (he : e ∈ S) (hg : w.grownBy w' (some e.blk)) (hb : Bx w' e.blk #[.int .i64 l, .int .i64 t] 67)
    (hl0 : 0 ≤ l) (hl1 : l ≤ burst) (ht : (Lit.int .i64 t).wf = true) : Lim w' L M base qv n rate burst (putE S e.who l t) ∧ Ft LK base w w' := by
  have hA := (h.ac e he).1
  refine ⟨⟨h.bx.grown hg (by have := bx_kind h.bx hA (by decide); simp; omega), ?_, ?_, ?_, ?_, by rw [putE_who]; exact h.who, by rw [putE_blk]; exact h.blk, by unfold putE; rw [List.length_map]; exact h.len, h.bL, h.bM, Nat.le_trans h.bW hg.size⟩, Ft.one hg hA (lk_acc _) (h.ac e he).2⟩
  · exact (h.mp.grown hg (by have := bx_map hA h.mp; simp; omega)).ext (fun z _ => putE_F S e.who l t z)
  · have hq := h.q.kept hg (fun k e1 e2 => by cases e2; exact bx_row hA h.q e1 (by decide) rfl)
    rw [putE_who]
    have : (putE S e.who l t).length = S.length := by unfold putE; rw [List.length_map]
    rw [this]
    exact hq
  · intro y hy
    obtain ⟨z, hz, rfl⟩ := List.mem_map.1 hy
    split
    · rename_i hw
      have : z = e := nodup_inj h.who hz he hw
      subst this
      exact ⟨hb, (h.ac z hz).2⟩
    · rename_i hw
      refine ⟨(h.ac z hz).1.grown hg (fun e1 => hw ?_), (h.ac z hz).2⟩
      have := nodup_inj h.blk he hz (Option.some.inj e1)
      rw [this]
  · intro y hy
    obtain ⟨z, hz, rfl⟩ := List.mem_map.1 hy
    split
    · exact ⟨(h.good z hz).1, hl0, hl1, ht⟩
    · exact h.good z hz
theorem blkF_some {S : List En} {x : ByteArray} {A : Nat} (h : blkF S x = some A) : ∃ e ∈ S, e.who = x ∧ e.blk = A := by
  unfold blkF at h
  obtain ⟨e, he, hA⟩ := Option.map_eq_some_iff.1 h
  exact ⟨e, List.mem_of_find?_eq_some he, by simpa using List.find?_some he, hA⟩
theorem blkF_no {S : List En} {x : ByteArray} (h : blkF S x = none) : ∀ e ∈ S, e.who ≠ x := by
  unfold blkF at h
  have := Option.map_eq_none_iff.1 h
  intro e he hx
  have := List.find?_eq_none.1 this e he
  simp [hx] at this

/-- one that is seen, plainly -/
abbrev Tr := ByteArray × Int × Int
def trE (e : En) : Tr := (e.who, e.left, e.last)
/-- who may ask: one that is known, and one that isn't -/
def putT (T : List Tr) (x : ByteArray) (l t : Int) : List Tr := T.map fun y => if y.1 = x then (y.1, l, t) else y
/-- what is left to one of two numbers -/
def tkB (l : Int) : Bool := !(l == 0)
def tkL (l : Int) : Int := if l = 0 then 0 else l - 1
/-- who is seen, with this one -/
def addT (burst : Int) (T : List Tr) (x : ByteArray) (now : Int) : List Tr := if T.any (fun y => decide (y.1 = x)) then T else goL T ++ [(x, burst, now)]
def getT (T : List Tr) (x : ByteArray) : Int × Int := ((T.find? (fun y => decide (y.1 = x))).map (·.2)).getD (0, 0)
/-- Allow, of one who has an address -/
def alwB (rate burst : Int) (T : List Tr) (x : ByteArray) (now : Int) : Bool :=
  let T1 := addT burst T x now
  tkB (reL rate burst (getT T1 x).1 (getT T1 x).2 now)
def alwT (rate burst : Int) (T : List Tr) (x : ByteArray) (now : Int) : List Tr :=
  let T1 := addT burst T x now
  putT T1 x (tkL (reL rate burst (getT T1 x).1 (getT T1 x).2 now)) (reT (getT T1 x).2 now)
theorem putE_T (S : List En) (x : ByteArray) (l t : Int) : (putE S x l t).map trE = putT (S.map trE) x l t := by
  unfold putE putT
  rw [List.map_map, List.map_map]
  apply List.map_congr_left
  intro y _
  simp only [Function.comp, trE]
  by_cases h : y.who = x
  · simp [h]
  · simp [h]
theorem find_tr : ∀ (S : List En) (x : ByteArray), (S.map trE).find? (fun y => decide (y.1 = x)) = (S.find? (fun e => decide (e.who = x))).map trE
  | [], _ => rfl
  | y :: S, x => by
    rw [List.map_cons, List.find?_cons, List.find?_cons, find_tr S x]
    show (match decide (y.who = x) with | true => some (trE y) | false => _) = _
    cases decide (y.who = x) <;> rfl
theorem find_who {S : List En} (hn : (S.map (·.who)).Nodup) {e : En} (he : e ∈ S) : S.find? (fun y => decide (y.who = e.who)) = some e := by
  cases h : S.find? (fun y => decide (y.who = e.who)) with
  | none => have := List.find?_eq_none.1 h e he; simp at this
  | some z =>
    have h1 := List.mem_of_find?_eq_some h
    have h2 : z.who = e.who := by simpa using List.find?_some h
    rw [nodup_inj hn h1 he h2]
theorem getT_tr {S : List En} (hn : (S.map (·.who)).Nodup) {e : En} (he : e ∈ S) : getT (S.map trE) e.who = (e.left, e.last) := by
  unfold getT
  rw [find_tr, find_who hn he]
  rfl
theorem addT_in {S : List En} {e : En} (burst now : Int) (he : e ∈ S) : addT burst (S.map trE) e.who now = S.map trE := by
  unfold addT
  rw [if_pos]
  rw [List.any_map]
  exact List.any_eq_true.2 ⟨e, he, by simp [trE]⟩
theorem addT_out {S : List En} {x : ByteArray} (burst now : Int) (A : Nat) (h : ∀ e ∈ S, e.who ≠ x) : addT burst (S.map trE) x now = (goL S ++ [(⟨x, A, burst, now⟩ : En)]).map trE := by
  unfold addT
  rw [if_neg, List.map_append, goL_map]
  · rfl
  · rw [List.any_map]
    intro hh
    obtain ⟨e, he, h1⟩ := List.any_eq_true.1 hh
    exact h e he (of_decide_eq_true h1)
theorem reL_range {rate burst left last now : Int} (hr : 0 ≤ rate) (hb : 0 ≤ burst) (h0 : 0 ≤ left) (h1 : left ≤ burst) : 0 ≤ reL rate burst left last now ∧ reL rate burst left last now ≤ burst := by
  unfold reL
  split
  · exact ⟨h0, h1⟩
  · have : 0 ≤ rate * min (now - last) burst := Int.mul_nonneg hr (by omega)
    omega
theorem reT_wf {last now : Int} (h1 : (Lit.int .i64 last).wf = true) (h2 : (Lit.int .i64 now).wf = true) : (Lit.int .i64 (reT last now)).wf = true := by
  unfold reT
  split
  · exact h1
  · exact h2
end Go.Proofs.Ytdaimcccdleodaa
