import Derived.Test.YtmbjmokhkonpiaaGreatDoorRn0G
import Derived.Laws.IdiomCopy
import Derived.Laws.AppendOwnNone
import Derived.Test.YtmbjmokhkonpiaaGreatDoorSu1G
import Derived.Test.YtmbjmokhkonpiaaGreatDoorFm1G
import Derived.Lib.SliceRun
import Derived.Deep.AppendLies
import Derived.Deep.RegionHeld3
/-
  Rows of records that are written in their place. (The verifier's own text.)
-/
namespace Go.Proofs.YtmbjmokhkonpiaaGreatDoor
set_option linter.unusedVariables false
open Go.RowKit Go.Shelf Go.Maps Go.Proofs.YtmbjmokhkonpiaaGreatDoor.Nm

/-- a record as cells -/
def ren5 (x : Rn) : List Value := [.string x.o, .int .i64 x.t, .int .i64 x.c, .int .i64 x.l, .string x.d]
def rce5 (L : List Rn) : List Value := L.flatMap ren5
theorem get5 (L : List Rn) : ∀ j, (hj : j < L.length) → (rce5 L)[j * 5]? = some (.string L[j].o) ∧ (rce5 L)[j * 5 + 1]? = some (.int .i64 L[j].t) ∧ (rce5 L)[j * 5 + 2]? = some (.int .i64 L[j].c) ∧ (rce5 L)[j * 5 + 3]? = some (.int .i64 L[j].l) ∧ (rce5 L)[j * 5 + 4]? = some (.string L[j].d) := by
  induction L with
  | nil => intro j hj; simp at hj
  | cons x L ih =>
    intro j hj
    have e : rce5 (x :: L) = (.string x.o) :: (.int .i64 x.t) :: (.int .i64 x.c) :: (.int .i64 x.l) :: (.string x.d) :: rce5 L := by simp [rce5, ren5]
    cases j with
    | zero => simp [e]
    | succ j =>
      have := ih j (by simpa using hj)
      rw [e]
      have e1 : (j + 1) * 5 = j * 5 + 1 + 1 + 1 + 1 + 1 := by omega
      rw [e1]
      simpa using this
/-- a block of records: those of L, then whatever stands behind -/
def Rb (w : World) (g : Nat) (L : List Rn) (rest : List Value) : Prop := Bx w g (rce5 L ++ rest).toArray 30
theorem rce5_len (L : List Rn) : (rce5 L).length = L.length * 5 := by
  induction L with
  | nil => rfl
  | cons x l ih =>
    have e : rce5 (x :: l) = ren5 x ++ rce5 l := by simp [rce5]
    rw [e, List.length_append, ih]
    show 5 + _ = _
    simp only [List.length_cons]; omega
theorem rce5_app (L M : List Rn) : rce5 (L ++ M) = rce5 L ++ rce5 M := by simp [rce5]
theorem rce5_one (L : List Rn) : ∀ u ∈ rce5 L, u.oneCell' = true := by
  intro u hu
  obtain ⟨x, _, hx⟩ := List.mem_flatMap.1 hu
  simp [ren5] at hx
  rcases hx with rfl | rfl | rfl | rfl | rfl <;> rfl
theorem Rb.cells {w : World} {g : Nat} {L : List Rn} {rest : List Value} (h : Rb w g L rest) {j : Nat} (hj : j < L.length) : w.cell? ⟨g, j * 5, none⟩ = some (.string L[j].o) ∧ w.cell? ⟨g, j * 5 + 1, none⟩ = some (.int .i64 L[j].t) ∧ w.cell? ⟨g, j * 5 + 2, none⟩ = some (.int .i64 L[j].c) ∧ w.cell? ⟨g, j * 5 + 3, none⟩ = some (.int .i64 L[j].l) ∧ w.cell? ⟨g, j * 5 + 4, none⟩ = some (.string L[j].d) := by
  obtain ⟨h0, h1, h2, h3, h4⟩ := get5 L j hj
  have hl := rce5_len L
  have hx : ∀ (i : Nat) (v : Value), i < L.length * 5 → (rce5 L)[i]? = some v → (rce5 L ++ rest).toArray[i]? = some v := fun i v hi hv => by
    rw [List.getElem?_toArray, List.getElem?_append_left (by omega), hv]
  exact ⟨h.cell (hx _ _ (by omega) h0), h.cell (hx _ _ (by omega) h1), h.cell (hx _ _ (by omega) h2), h.cell (hx _ _ (by omega) h3), h.cell (hx _ _ (by omega) h4)⟩
/-- five cells of a block are set -/
def setR (w : World) (g o : Nat) (r : Rn) : World := (((((w.setCell ⟨g, o, none⟩ (.string r.o)).setCell ⟨g, o + 1, none⟩ (.int .i64 r.t)).setCell ⟨g, o + 2, none⟩ (.int .i64 r.c)).setCell ⟨g, o + 3, none⟩ (.int .i64 r.l)).setCell ⟨g, o + 4, none⟩ (.string r.d))
theorem set_list {A B C : List Value} {b : Value} (v : Value) : (A ++ b :: C).toArray.setIfInBounds A.length v = (A ++ v :: C).toArray := by
  apply Array.ext'
  simp only [Array.toList_setIfInBounds]
  rw [List.set_append_right _ _ (Nat.le_refl _)]
  simp
theorem bx_setCells {g : Nat} {T : TypeId} : ∀ (vs A B C : List Value), B.length = vs.length → ∀ w : World, Bx w g (A ++ B ++ C).toArray T → Bx (w.setCells g A.length vs) g (A ++ vs ++ C).toArray T
  | [], A, [], C, _, w, h => h
  | v :: vs, A, b :: B, C, hl, w, h => by
    have h1 : Bx (w.setCell ⟨g, A.length, none⟩ v) g (A ++ v :: (B ++ C)).toArray T := by
      have h0 : Bx w g (A ++ b :: (B ++ C)).toArray T := by simpa using h
      have := h0.set A.length v
      rw [set_list (B := B)] at this
      exact this
    have h2 : Bx (w.setCell ⟨g, A.length, none⟩ v) g ((A ++ [v]) ++ B ++ C).toArray T := by simpa using h1
    have h3 := bx_setCells vs (A ++ [v]) B C (by simpa using hl) (w.setCell ⟨g, A.length, none⟩ v) h2
    have e : (A ++ [v]).length = A.length + 1 := by simp
    rw [e] at h3
    show Bx ((w.setCell ⟨g, A.length, none⟩ v).setCells g (A.length + 1) vs) g _ T
    have e2 : (A ++ [v]) ++ vs ++ C = A ++ (v :: vs) ++ C := by simp
    rw [e2] at h3
    exact h3
theorem setR_cells (w : World) (g o : Nat) (r : Rn) : setR w g o r = w.setCells g o (ren5 r) := rfl
theorem list_split {L : List Rn} {j : Nat} (hj : j < L.length) : L = L.take j ++ L[j] :: L.drop (j + 1) := by
  rw [← List.drop_eq_getElem_cons hj, List.take_append_drop]
theorem Rb.put {w : World} {g : Nat} {L : List Rn} {rest : List Value} (h : Rb w g L rest) {j : Nat} (hj : j < L.length) (r : Rn) : Rb (setR w g (j * 5) r) g (L.set j r) rest := by
  have e1 : rce5 L ++ rest = rce5 (L.take j) ++ ren5 L[j] ++ (rce5 (L.drop (j + 1)) ++ rest) := by
    have e : rce5 L = rce5 (L.take j) ++ (ren5 L[j] ++ rce5 (L.drop (j + 1))) := by
      have e0 : rce5 L = rce5 (L.take j ++ L[j] :: L.drop (j + 1)) := congrArg rce5 (list_split hj)
      rw [e0, rce5_app]
      rfl
    rw [e]; simp
  have e2 : rce5 (L.set j r) ++ rest = rce5 (L.take j) ++ ren5 r ++ (rce5 (L.drop (j + 1)) ++ rest) := by
    have e : L.set j r = L.take j ++ r :: L.drop (j + 1) := by rw [List.set_eq_take_append_cons_drop, if_pos hj]
    rw [e, rce5_app]
    simp [rce5]
  have hl : (rce5 (L.take j)).length = j * 5 := by rw [rce5_len, List.length_take]; omega
  unfold Rb at h ⊢
  rw [e1] at h
  have := bx_setCells (ren5 r) (rce5 (L.take j)) (ren5 L[j]) (rce5 (L.drop (j + 1)) ++ rest) rfl w h
  rw [hl] at this
  rw [e2, setR_cells]
  exact this
end Go.Proofs.YtmbjmokhkonpiaaGreatDoor

/-
  A row of records of one's own: appended, and its block. (The verifier's own text.)
-/
namespace Go.Proofs.YtmbjmokhkonpiaaGreatDoor
set_option linter.unusedVariables false
set_option linter.unusedSimpArgs false
open Go.RowKit Go.Shelf Go.Proofs.YtmbjmokhkonpiaaGreatDoor.Nm

theorem rb_ownM {w : World} {base g cap n : Nat} {L : List Rn} (h : w.ownsRow base 30 5 (.slice (some ⟨g, 0, none⟩) n cap) n (rce5 L)) : ∃ rest, Rb w g L rest ∧ base ≤ g := by
  obtain ⟨hl, (⟨h1, h0⟩ | ⟨g', cap', cur, h1, hb, hg, hn, hcm, hcs, htk⟩)⟩ := h
  · cases h1
  · injection h1 with h1 h2 h3
    injection h1 with h1
    injection h1 with h1
    subst h1
    refine ⟨cur.toList.drop (n * 5), ?_, hb⟩
    unfold Rb Bx
    rw [← htk, List.take_append_drop, Array.toArray_toList]
    exact hg
theorem infoRM : (Tryz.prog.info? 30).map (fun i => (i.zero, i.size, i.bytes)) = some (some (.agg #[.string .empty, .int .i64 0, .int .i64 0, .int .i64 0, .string .empty]), 5, 56) := by kernel_rfl
theorem rs_newsM {w : World} {ad : Addr} {L : List Rn} (h : RsAt w (some ad) L) : ∀ j u, (rce5 L)[j]? = some u → w.cell? (ad.add j) = some u := by
  intro j u hj
  have hlt : j < L.length * 5 := by have := (List.getElem?_eq_some_iff.1 hj).1; rw [rce5_len] at this; exact this
  have hk : j / 5 < L.length := by omega
  obtain ⟨g, off, hp, _, h0, h1, h2, h3, h4⟩ := h (j / 5) hk
  obtain ⟨e0, e1, e2, e3, e4⟩ := get5 L (j / 5) hk
  obtain rfl := Option.some.inj hp
  have ha : (⟨g, off, none⟩ : Addr).add j = ⟨g, off + j, none⟩ := by simp [Addr.add]
  rw [ha]
  have : j % 5 = 0 ∨ j % 5 = 1 ∨ j % 5 = 2 ∨ j % 5 = 3 ∨ j % 5 = 4 := by omega
  rcases this with e | e | e | e | e
  · rw [show j = j / 5 * 5 by omega] at hj ⊢; rw [e0] at hj; rw [h0, hj]
  · rw [show j = j / 5 * 5 + 1 by omega] at hj ⊢; rw [e1] at hj; rw [← Nat.add_assoc, h1, hj]
  · rw [show j = j / 5 * 5 + 2 by omega] at hj ⊢; rw [e2] at hj; rw [← Nat.add_assoc, h2, hj]
  · rw [show j = j / 5 * 5 + 3 by omega] at hj ⊢; rw [e3] at hj; rw [← Nat.add_assoc, h3, hj]
  · rw [show j = j / 5 * 5 + 4 by omega] at hj ⊢; rw [e4] at hj; rw [← Nat.add_assoc, h4, hj]
end Go.Proofs.YtmbjmokhkonpiaaGreatDoor

namespace Go.Proofs.YtmbjmokhkonpiaaGreatDoor
set_option linter.unusedVariables false
open Go.RowKit Go.Shelf Go.Proofs.YtmbjmokhkonpiaaGreatDoor.Nm

/-- a row whose block stays -/
theorem own_blk {w w' : World} {n e size k : Nat} {v : Value} {xs : List Value} (h : w.ownsRow n e size v k xs) (hb : ∀ g, v.ownBlock = some g → w'.heap[g]? = w.heap[g]?) : w'.ownsRow n e size v k xs := by
  obtain ⟨hl, (h0 | ⟨g, cap, cur, rfl, hg, hc, rest⟩)⟩ := h
  · exact ⟨hl, .inl h0⟩
  · exact ⟨hl, .inr ⟨g, cap, cur, rfl, hg, (hb g rfl).trans hc, rest⟩⟩
end Go.Proofs.YtmbjmokhkonpiaaGreatDoor

/-
  A row of one's own: what Ow0 has, beside the reference's data. (The verifier's own text.)
-/

/-
  gazetteersame's Spare, Twin. (The verifier's own text.)
-/
namespace Go.Proofs.YtmbjmokhkonpiaaGreatDoor
set_option linter.unusedVariables false
open Go.RowKit Go.Shelf Go.Maps Go.Proofs.YtmbjmokhkonpiaaGreatDoor.Nm

def spT : ByteArray := ⟨#[115, 112, 97, 114, 101]⟩
/-- the record that no list has -/
def spR : Rn := ⟨spT, -77, -77, -77, spT⟩
theorem own_below {w w' : World} {b e s n : Nat} {v : Value} {xs : List Value} (h : w.ownsRow b e s v n xs) (hb : Below w.heap.size w w') : w'.ownsRow b e s v n xs := own_blk h (fun g eg => hb.block g (h.lt g eg).2)

theorem own_cap {w : World} {b e s n m c : Nat} {p : Option Addr} {xs : List Value} (h : w.ownsRow b e s (.slice p m c) n xs) : n ≤ c ∧ c ≤ maxLen := by
  obtain ⟨_, _, hsh, h1, h2, _⟩ := own_shape h
  injection hsh with _ _ hsh
  subst hsh
  exact ⟨h1, h2⟩
set_option maxRecDepth 100000 in
set_option maxHeartbeats 1000000 in
/-- gazetteersame.Spare -/
theorem spare_any (w : World) : Calls Tryz.prog 8 #[] w fun e w' => e = .returned (.agg #[.string spT, .int .i64 (-77), .int .i64 (-77), .int .i64 (-77), .string spT]) ∧ Below w.heap.size w w' := by
  have hB0 : ∀ o : Obj, Below w.heap.size w (w.alloc o) := fun o => (Below.refl _ w).alloc (Nat.le_refl _) o
  go_enter Tryz.func8, Tryz.ntmps8
  go_wp2
  refine bodyPost_ret (v := .agg #[.string spT, .int .i64 (-77), .int .i64 (-77), .int .i64 (-77), .string spT]) (by simp [results, go_sem]; rfl) rfl ⟨rfl, hB0 _⟩

set_option maxRecDepth 100000 in
set_option maxHeartbeats 2000000 in
/-- gazetteersame.Twin -/
theorem twin_any (L : List Rn) (p : Option Addr) (cap : Nat) (w : World) (hL : L.length ≤ 1048576) (hat : RsAt w p L) (hn : p = none → cap = 0) :
    Calls Tryz.prog 4 #[.slice p L.length cap] w fun r w' => ∃ g c, r = .returned (.slice (some ⟨g, 0, none⟩) L.length c) ∧ w'.ownsRow w.heap.size 30 5 (.slice (some ⟨g, 0, none⟩) (L.length + 2) c) (L.length + 2) (rce5 (L ++ [spR, spR])) ∧ Below w.heap.size w w' := by
  obtain ⟨i0, hi, hz0, hz1, hz2⟩ := info_parts infoRM
  have HI := hide' (And.intro hi (And.intro hz0 (And.intro hz1 hz2)))
  clear hi hz0 hz1 hz2
  have T1 : Hid True := trivial
  cases p with
  | none =>
    obtain rfl : L = [] := by
      cases L with
      | nil => rfl
      | cons y l => obtain ⟨g, off, hp, _⟩ := hat 0 (by simp); cases hp
    obtain rfl := hn rfl
    go_enter Tryz.func4, Tryz.ntmps4
    go_wp2_with (first
      | (at_builtin; have _ := T1; clear T1; refine wpList_append_own_none rfl _ _ 22 rfl w.heap.size 30 i0 5 Tryz.underlying22 HI.out.1 (.slice none 0 0) 0 [] rfl (World.ownsRow_nil _ _ _ _) rfl ?_; have T2 : Hid True := trivial)
      | (go_at_call 8; have _ := T2; clear T2; refine (spare_any _).mono ?_; rintro e w1 ⟨rfl, hB1⟩; have HB1 := hide' hB1; clear hB1; have T3 : Hid True := trivial)
      | (go_at_call 8; have _ := T3; clear T3; refine (spare_any _).mono ?_; rintro e w2 ⟨rfl, hB2⟩; have HB2 := hide' (bstep HB1.out hB2 HB1.out.size); clear hB2; have T4 : Hid True := trivial)
      | (at_builtin; have _ := T4; clear T4; refine wpList_append_own _ rfl _ _ 22 rfl w.heap.size 30 i0 (.agg #[.string .empty, .int .i64 0, .int .i64 0, .int .i64 0, .string .empty]) 5 56 Tryz.underlying22 HI.out.1 HI.out.2.1 HI.out.2.2.1 HI.out.2.2.2 rfl (by decide) (.slice none 0 0) 0 [] rfl (World.ownsRow_nil _ _ _ _) ⟨_, 0, none⟩ 2 2 (rce5 [spR, spR]) rfl rfl (fun j u h => World.news_of_block (World.alloc_heap_new w2 (.cells #[.string spT, .int .i64 (-77), .int .i64 (-77), .int .i64 (-77), .string spT, .string spT, .int .i64 (-77), .int .i64 (-77), .int .i64 (-77), .string spT] 30)) j u h) (rce5_one _) (by unfold maxLen; omega) (by omega) (HB2.out.alloc HB2.out.size (.cells #[.string spT, .int .i64 (-77), .int .i64 (-77), .int .i64 (-77), .string spT, .string spT, .int .i64 (-77), .int .i64 (-77), .int .i64 (-77), .string spT] 30)).size ?_; intro v5 w5 hown5 hgrow5 _; obtain ⟨g5, c5, rfl⟩ := owns_some hown5 (by omega); have HO5 := hide' hown5; have HB5 := hide' ((HB2.out.alloc HB2.out.size (.cells #[.string spT, .int .i64 (-77), .int .i64 (-77), .int .i64 (-77), .string spT, .string spT, .int .i64 (-77), .int .i64 (-77), .int .i64 (-77), .string spT] 30)).grown hgrow5 (HB2.out.alloc HB2.out.size (.cells #[.string spT, .int .i64 (-77), .int .i64 (-77), .int .i64 (-77), .string spT, .string spT, .int .i64 (-77), .int .i64 (-77), .int .i64 (-77), .string spT] 30)).size (fun q e => by cases e)); have hc5 := own_cap hown5; clear hown5 hgrow5))
    go_ret
    exact ⟨g5, c5, rfl, HO5.out, HB5.out⟩
  | some ad =>
    have HA := hide' (fun j u => rs_newsM (hat : RsAt w (some ad) L) j u)
    have HRC : Hid (rce5 (L ++ [spR, spR]) = rce5 L ++ rce5 [spR, spR]) := by unfold Hid rce5; rw [List.flatMap_append]
    clear hat
    go_enter Tryz.func4, Tryz.ntmps4
    go_wp2_with (first
      | (at_builtin; have _ := T1; clear T1; refine wpList_append_own _ rfl _ _ 22 rfl w.heap.size 30 i0 (.agg #[.string .empty, .int .i64 0, .int .i64 0, .int .i64 0, .string .empty]) 5 56 Tryz.underlying22 HI.out.1 HI.out.2.1 HI.out.2.2.1 HI.out.2.2.2 rfl (by decide) (.slice none 0 0) 0 [] rfl (World.ownsRow_nil _ _ _ _) ad L.length cap (rce5 L) rfl (rce5_len L) HA.out (rce5_one L) (by unfold maxLen; omega) (by omega) (Nat.le_refl _) ?_; intro v0 w0 ho0 hg0 _; rw [Nat.zero_add, List.nil_append] at ho0; have HO0 := hide' ho0; have HB0 := hide' ((Below.refl w.heap.size w).grown hg0 (Nat.le_refl _) (fun q e => by cases e)); clear ho0 hg0; have T2 : Hid True := trivial)
      | (go_at_call 8; have _ := T2; clear T2; refine (spare_any _).mono ?_; rintro e w1 ⟨rfl, hB1⟩; have HO1 := hide' (own_below HO0.out hB1); have HB1 := hide' (bstep HB0.out hB1 HB0.out.size); clear hB1; have T3 : Hid True := trivial)
      | (go_at_call 8; have _ := T3; clear T3; refine (spare_any _).mono ?_; rintro e w2 ⟨rfl, hB2⟩; have HO2 := hide' (own_below HO1.out hB2); have HB2 := hide' (bstep HB1.out hB2 HB1.out.size); clear hB2; have T4 : Hid True := trivial)
      | (at_builtin; have _ := T4; clear T4; refine wpList_append_own _ rfl _ _ 22 rfl w.heap.size 30 i0 (.agg #[.string .empty, .int .i64 0, .int .i64 0, .int .i64 0, .string .empty]) 5 56 Tryz.underlying22 HI.out.1 HI.out.2.1 HI.out.2.2.1 HI.out.2.2.2 rfl (by decide) v0 L.length (rce5 L) rfl (HO2.out.alloc _) ⟨_, 0, none⟩ 2 2 (rce5 [spR, spR]) rfl rfl (fun j u h => World.news_of_block (World.alloc_heap_new w2 (.cells #[.string spT, .int .i64 (-77), .int .i64 (-77), .int .i64 (-77), .string spT, .string spT, .int .i64 (-77), .int .i64 (-77), .int .i64 (-77), .string spT] 30)) j u h) (rce5_one _) (by unfold maxLen; omega) (by omega) (HB2.out.alloc HB2.out.size (.cells #[.string spT, .int .i64 (-77), .int .i64 (-77), .int .i64 (-77), .string spT, .string spT, .int .i64 (-77), .int .i64 (-77), .int .i64 (-77), .string spT] 30)).size ?_; intro v5 w5 hown5 hgrow5 _; obtain ⟨g5, c5, rfl⟩ := owns_some hown5 (by omega); have HO5 := hide' hown5; have HB5 := hide' ((HB2.out.alloc HB2.out.size (.cells #[.string spT, .int .i64 (-77), .int .i64 (-77), .int .i64 (-77), .string spT, .string spT, .int .i64 (-77), .int .i64 (-77), .int .i64 (-77), .string spT] 30)).grown hgrow5 (HB2.out.alloc HB2.out.size (.cells #[.string spT, .int .i64 (-77), .int .i64 (-77), .int .i64 (-77), .string spT, .string spT, .int .i64 (-77), .int .i64 (-77), .int .i64 (-77), .string spT] 30)).size (fun q e => (HO2.out.lt q e).1)); have hc5 := own_cap hown5; clear hown5 hgrow5))
    go_ret
    exact ⟨g5, c5, rfl, by rw [HRC.out]; exact HO5.out, HB5.out⟩
end Go.Proofs.YtmbjmokhkonpiaaGreatDoor

/-
  gazetteersame's Whole. (The verifier's own text.)
-/
namespace Go.Proofs.YtmbjmokhkonpiaaGreatDoor
set_option linter.unusedVariables false
open Go.RowKit Go.Shelf Go.Maps Go.Proofs.YtmbjmokhkonpiaaGreatDoor.Nm

set_option maxRecDepth 100000 in
set_option maxHeartbeats 2000000 in
/-- gazetteersame.Records, at the same list -/
theorem sameRecords2 (p1 p2 : Option Addr) (n c1 c2 : Nat) (L : List Rn) (w : World) (hx : RsAt w p1 L) (hy : RsAt w p2 L) (hn : n = L.length) (hl : n ≤ 4294967296) :
    Calls Tryz.prog 25 #[.slice p1 n c1, .slice p2 n c2] w fun e w' => e = .returned (.bool true) ∧ ∃ m, w' = w.drewN m := by
  have HX := hide' hx
  have HY := hide' hy
  have HN := hide' hn
  clear hx hy hn
  go_enter Tryz.func25, Tryz.ntmps25
  go_wp2
  go_loopw [13] (fun i wr => ∃ k m : Nat, i = .int .i64 k ∧ k ≤ n ∧ wr = w.drewN m) (fun i _ => n - (intOf i).toNat)
  case atStart => exact ⟨0, 0, rfl, Nat.zero_le _, rfl⟩
  case round =>
    obtain ⟨k, m, rfl, hk, rfl⟩ := hrel
    by_cases hlt : k < n
    · obtain ⟨g1, o1, rfl, _, x0, x1, x2, x3, x4⟩ := HX.out k (by rw [← HN.out]; exact hlt)
      obtain ⟨g2, o2, rfl, _, y0, y1, y2, y3, y4⟩ := HY.out k (by rw [← HN.out]; exact hlt)
      generalize L[k].o = qo at *
      generalize L[k].t = qt at *
      generalize L[k].c = qc at *
      generalize L[k].l = ql at *
      generalize L[k].d = qd at *
      go_wp2
      go_quiet (fail)
      go_wp2
      go_roundw
      case rel => exact ⟨k + 1, m + nq, by go_num, by omega, rfl⟩
      case measure => simp [intOf]; omega
    · go_wp2
      go_ret
      exact ⟨rfl, m, rfl⟩
theorem rs_own5 {w : World} {b g c n : Nat} {L : List Rn} (h : w.ownsRow b 30 5 (.slice (some ⟨g, 0, none⟩) n c) n (rce5 L)) : RsAt w (some ⟨g, 0, none⟩) L := fun k hk => by
  obtain ⟨rest, h1, _⟩ := rb_ownM h
  obtain ⟨e0, e1, e2, e3, e4⟩ := h1.cells hk
  exact ⟨g, 0, rfl, h1.lt, by simpa using e0, by simpa using e1, by simpa using e2, by simpa using e3, by simpa using e4⟩
theorem rs_left {w : World} {p : Option Addr} {L M : List Rn} (h : RsAt w p (L ++ M)) : RsAt w p L := fun k hk => by
  obtain ⟨g, off, h1, h2, h3, h4, h5, h6, h7⟩ := h k (by rw [List.length_append]; omega)
  rw [List.getElem_append_left hk] at h3 h4 h5 h6 h7
  exact ⟨g, off, h1, h2, h3, h4, h5, h6, h7⟩
/-- the two that stand behind -/
theorem rs_spare {w : World} {g : Nat} {L : List Rn} (h : RsAt w (some ⟨g, 0, none⟩) (L ++ [spR, spR])) (j : Nat) (hj : j < 2) : w.cell? ⟨g, (L.length + j) * 5, none⟩ = some (.string spT) ∧ w.cell? ⟨g, (L.length + j) * 5 + 1, none⟩ = some (.int .i64 (-77)) ∧ w.cell? ⟨g, (L.length + j) * 5 + 2, none⟩ = some (.int .i64 (-77)) ∧ w.cell? ⟨g, (L.length + j) * 5 + 3, none⟩ = some (.int .i64 (-77)) ∧ w.cell? ⟨g, (L.length + j) * 5 + 4, none⟩ = some (.string spT) := by
  have hlt : L.length + j < (L ++ [spR, spR]).length := by simp; omega
  obtain ⟨g', off, h1, h2, h3, h4, h5, h6, h7⟩ := h (L.length + j) hlt
  have hs : (L ++ [spR, spR])[L.length + j]'hlt = spR := by
    rw [List.getElem_append_right (by omega)]
    match j, hj with
    | 0, _ => simp
    | 1, _ => simp
  injection h1 with h1
  injection h1 with h1 h0
  subst h1; subst h0
  rw [hs] at h3 h4 h5 h6 h7
  simp only [Nat.zero_add] at h3 h4 h5 h6 h7
  exact ⟨h3, h4, h5, h6, h7⟩

set_option maxRecDepth 100000 in
set_option maxHeartbeats 4000000 in
/-- gazetteersame.Whole -/
theorem wholeL_any (L : List Rn) (g c : Nat) (p : Option Addr) (cap : Nat) (w : World) (hL : L.length ≤ 1048576) (hg : RsAt w (some ⟨g, 0, none⟩) (L ++ [spR, spR])) (hc : L.length + 2 ≤ c) (hat : RsAt w p L) :
    Calls Tryz.prog 7 #[.slice (some ⟨g, 0, none⟩) L.length c, .slice p L.length cap] w fun e w' => e = .returned (.bool true) ∧ Below w.heap.size w w' := by
  have HG := hide' hg
  have HA := hide' hat
  have HQ : Hid (∀ W : World, Below w.heap.size w W → W.cell? ⟨g, L.length * 5, none⟩ = some (.string spT) ∧ W.cell? ⟨g, L.length * 5 + 1, none⟩ = some (.int .i64 (-77)) ∧ W.cell? ⟨g, L.length * 5 + 2, none⟩ = some (.int .i64 (-77)) ∧ W.cell? ⟨g, L.length * 5 + 3, none⟩ = some (.int .i64 (-77)) ∧ W.cell? ⟨g, L.length * 5 + 4, none⟩ = some (.string spT) ∧ W.cell? ⟨g, (L.length + 1) * 5, none⟩ = some (.string spT) ∧ W.cell? ⟨g, (L.length + 1) * 5 + 1, none⟩ = some (.int .i64 (-77)) ∧ W.cell? ⟨g, (L.length + 1) * 5 + 2, none⟩ = some (.int .i64 (-77)) ∧ W.cell? ⟨g, (L.length + 1) * 5 + 3, none⟩ = some (.int .i64 (-77)) ∧ W.cell? ⟨g, (L.length + 1) * 5 + 4, none⟩ = some (.string spT)) := fun W hb => by
    obtain ⟨p0, p1, p2, p3, p4⟩ := rs_spare (rsAt_below7 HG.out hb) 0 (by omega)
    obtain ⟨r0, r1, r2, r3, r4⟩ := rs_spare (rsAt_below7 HG.out hb) 1 (by omega)
    exact ⟨p0, p1, p2, p3, p4, r0, r1, r2, r3, r4⟩
  clear hg hat
  have T1 : Hid True := trivial
  have HB0 : Hid (Below w.heap.size w w) := Below.refl _ _
  have hI1 : L.length + 1 < L.length + 2 := by omega
  have hI0 : L.length < L.length + 2 := by omega
  have hw1 : IntKind.i64.wrap ((L.length : Int) + 1) = (L.length : Int) + 1 := by rw [IntWalk.i64_in] <;> omega
  have hJ0 : (0 : Int) ≤ (L.length : Int) := by omega
  have hJ1 : (L.length : Int) < (L.length : Int) + 2 := by omega
  have hJ2 : (0 : Int) ≤ (L.length : Int) + 1 := by omega
  have hJ3 : (L.length : Int) + 1 < (L.length : Int) + 2 := by omega
  have hJ4 : ((L.length : Int) + 1).toNat = L.length + 1 := by omega
  obtain ⟨a0, a1, a2, a3, a4, b0, b1, b2, b3, b4⟩ := HQ.out w HB0.out
  go_enter Tryz.func7, Tryz.ntmps7
  go_wp2_with fail
  go_region_held3 (fun W => W.cell? ⟨g, L.length * 5, none⟩ = some (.string spT) ∧ W.cell? ⟨g, L.length * 5 + 1, none⟩ = some (.int .i64 (-77)) ∧ W.cell? ⟨g, L.length * 5 + 2, none⟩ = some (.int .i64 (-77)) ∧ W.cell? ⟨g, L.length * 5 + 3, none⟩ = some (.int .i64 (-77)) ∧ W.cell? ⟨g, L.length * 5 + 4, none⟩ = some (.string spT) ∧ W.cell? ⟨g, (L.length + 1) * 5, none⟩ = some (.string spT) ∧ W.cell? ⟨g, (L.length + 1) * 5 + 1, none⟩ = some (.int .i64 (-77)) ∧ W.cell? ⟨g, (L.length + 1) * 5 + 2, none⟩ = some (.int .i64 (-77)) ∧ W.cell? ⟨g, (L.length + 1) * 5 + 3, none⟩ = some (.int .i64 (-77)) ∧ W.cell? ⟨g, (L.length + 1) * 5 + 4, none⟩ = some (.string spT)) (first | go_keep | exact HQ.out _ HB3.out | exact HQ.out _ HB2.out | exact HQ.out _ HB1.out | exact HQ.out _ HB0.out) (first
    | (go_at_call 25; have _ := T1; clear T1; refine Calls.mono (show Calls Tryz.prog 25 _ _ (fun e w' => e = .returned (.bool true) ∧ Below w.heap.size w w') by first | exact (sameRecords2 (some ⟨g, 0, none⟩) p L.length c cap L w (rs_left HG.out) HA.out rfl (by omega)).mono (fun e w' ⟨h1, m, h2⟩ => ⟨h1, h2 ▸ below_drewN (Below.refl _ w) m⟩) | exact (sameRecords2 (some ⟨g, 0, none⟩) p L.length c cap L w.drew (rs_left HG.out) HA.out rfl (by omega)).mono (fun e w' ⟨h1, m, h2⟩ => ⟨h1, h2 ▸ below_drewN ((Below.refl _ w).drew) m⟩)) ?_; rintro e w1 ⟨rfl, hB1⟩; have HB1 := hide' hB1; clear hB1; have T2 : Hid True := trivial)
    | (go_at_call 8; have _ := T2; clear T2; refine (spare_any _).mono ?_; rintro e w2 ⟨rfl, hB2⟩; have HB2 : Hid (Below w.heap.size w w2) := (by first | exact bstep HB1.out hB2 HB1.out.size | exact bstep HB1.out.drew hB2 HB1.out.size); clear hB2; have T3 : Hid True := trivial)
    | (go_at_call 8; have _ := T3; clear T3; refine (spare_any _).mono ?_; rintro e w3 ⟨rfl, hB3⟩; have HB3 : Hid (Below w.heap.size w w3) := (by first | exact bstep HB2.out hB3 HB2.out.size | exact bstep HB2.out.drew hB3 HB2.out.size); clear hB3))
  all_goals
    go_wp2_with fail
    go_ret
    first
      | exact ⟨rfl, HB3.out⟩
      | exact ⟨rfl, HB3.out.drew⟩
end Go.Proofs.YtmbjmokhkonpiaaGreatDoor
