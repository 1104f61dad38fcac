import Derived.Test.YtgekfhghambacaaGreatFt1G
import Derived.Test.YtgekfhghambacaaGreatRn0G
import Derived.Laws.AppendOwnNone
import Derived.Lib.SliceRun
import Derived.Deep.Cut
import Derived.RegionTactic
import Derived.ChangeAlike
/-
  The lists of a message in memory; rows of questions and records as cells. (The verifier's own text.)
-/
namespace Go.Proofs.YtgekfhghambacaaGreat
set_option linter.unusedVariables false
open Go.RowKit Go.Shelf Go.Maps Go.Proofs.YtgekfhghambacaaGreat.Nm

/-- the lists of a message in memory -/
structure LsAt (w : World) (q0 a0 u0 d0 : Option Addr) (Q : List Qn) (A U D : List Rn) : Prop where
  q : QsAt w q0 Q
  a : RsAt w a0 A
  u : RsAt w u0 U
  d : RsAt w d0 D
  zqs : ∀ q ∈ Q, q.n.size ≤ maxLen
  zas : ∀ r ∈ A, r.o.size ≤ maxLen ∧ r.d.size ≤ 9223372036854775807
  zus : ∀ r ∈ U, r.o.size ≤ maxLen ∧ r.d.size ≤ 9223372036854775807
  zds : ∀ r ∈ D, r.o.size ≤ maxLen ∧ r.d.size ≤ 9223372036854775807
theorem qsAt_below {w w' : World} {p : Option Addr} {l : List Qn} (h : QsAt w p l) (hb : Below w.heap.size w w') : QsAt w' p l := fun k hk => by
  obtain ⟨g, off, h1, h2, h3, h4, h5⟩ := h k hk
  exact ⟨g, off, h1, Nat.lt_of_lt_of_le h2 hb.size, (hb.cell (p := ⟨g, off + k * 3, none⟩) h2).trans h3, (hb.cell (p := ⟨g, off + k * 3 + 1, none⟩) h2).trans h4, (hb.cell (p := ⟨g, off + k * 3 + 2, none⟩) h2).trans h5⟩
theorem rsAt_below {w w' : World} {p : Option Addr} {l : List Rn} (h : RsAt w p l) (hb : Below w.heap.size w w') : RsAt w' p l := fun k hk => by
  obtain ⟨g, off, h1, h2, h3, h4, h5, h6, h7⟩ := h k hk
  exact ⟨g, off, h1, Nat.lt_of_lt_of_le h2 hb.size, (hb.cell (p := ⟨g, off + k * 5, none⟩) h2).trans h3, (hb.cell (p := ⟨g, off + k * 5 + 1, none⟩) h2).trans h4, (hb.cell (p := ⟨g, off + k * 5 + 2, none⟩) h2).trans h5, (hb.cell (p := ⟨g, off + k * 5 + 3, none⟩) h2).trans h6, (hb.cell (p := ⟨g, off + k * 5 + 4, none⟩) h2).trans h7⟩
theorem LsAt.below {w w' : World} {q0 a0 u0 d0 : Option Addr} {Q : List Qn} {A U D : List Rn} (h : LsAt w q0 a0 u0 d0 Q A U D) (hb : Below w.heap.size w w') : LsAt w' q0 a0 u0 d0 Q A U D :=
  ⟨qsAt_below h.q hb, rsAt_below h.a hb, rsAt_below h.u hb, rsAt_below h.d hb, h.zqs, h.zas, h.zus, h.zds⟩
theorem row_empty2 (w : World) (e size : Nat) : (w.alloc (.cells #[] e)).ownsRow w.heap.size e size (.slice (some ⟨w.heap.size, 0, none⟩) 0 0) 0 [] :=
  ⟨by simp, .inr ⟨w.heap.size, 0, #[], rfl, Nat.le_refl _, World.alloc_heap_new w _, by simp, by simp, by simp, by simp⟩⟩
theorem infoR : (Tryz.prog.info? 36).map (fun i => (i.zero, i.size, i.bytes)) = some (some (.agg #[.string .empty, .int .i64 0, .int .i64 0, .int .i64 0, .string .empty]), 5, 56) := by kernel_rfl
theorem rs_news {w : World} {ad : Addr} {L : List Rn} (h : RsAt w (some ad) L) : ∀ j u, (rce5 L)[j]? = some u → w.cell? (ad.add j) = some u := by
  intro j u hj
  have hlt : j < L.length * 5 := by have := (List.getElem?_eq_some_iff.1 hj).1; rw [rce5_len] at this; exact this
  have hk : j / 5 < L.length := by omega
  obtain ⟨g, off, hp, _, h0, h1, h2, h3, h4⟩ := h (j / 5) hk
  obtain ⟨e0, e1, e2, e3, e4⟩ := get5 L (j / 5) hk
  obtain rfl := Option.some.inj hp
  have ha : (⟨g, off, none⟩ : Addr).add j = ⟨g, off + j, none⟩ := by simp [Addr.add]
  rw [ha]
  have : j % 5 = 0 ∨ j % 5 = 1 ∨ j % 5 = 2 ∨ j % 5 = 3 ∨ j % 5 = 4 := by omega
  rcases this with e | e | e | e | e
  · rw [show j = j / 5 * 5 by omega] at hj ⊢; rw [e0] at hj; rw [h0, hj]
  · rw [show j = j / 5 * 5 + 1 by omega] at hj ⊢; rw [e1] at hj; rw [← Nat.add_assoc, h1, hj]
  · rw [show j = j / 5 * 5 + 2 by omega] at hj ⊢; rw [e2] at hj; rw [← Nat.add_assoc, h2, hj]
  · rw [show j = j / 5 * 5 + 3 by omega] at hj ⊢; rw [e3] at hj; rw [← Nat.add_assoc, h3, hj]
  · rw [show j = j / 5 * 5 + 4 by omega] at hj ⊢; rw [e4] at hj; rw [← Nat.add_assoc, h4, hj]
end Go.Proofs.YtgekfhghambacaaGreat

/-
  slices.Clone of questions and records. (The verifier's own text.)
-/
namespace Go.Proofs.YtgekfhghambacaaGreat
set_option linter.unusedVariables false
open Go.RowKit Go.Shelf Go.Maps Go.Proofs.YtgekfhghambacaaGreat.Nm

set_option maxRecDepth 100000 in
set_option maxHeartbeats 1000000 in
/-- slices.Clone of records -/
theorem cloneR_any (L : List Rn) (p : Option Addr) (cap : Nat) (w : World) (hL : L.length ≤ 1048576) (hat : RsAt w p L) :
    Calls Tryz.prog 25 #[.slice p L.length cap] w fun r w' => (∃ v, r = .returned v ∧ w'.ownsRow w.heap.size 36 5 v L.length (rce5 L)) ∧ Below w.heap.size w w' := by
  have qT : ∀ (w : World) (a : Option Addr) (n c n' c' : Nat), (binOp .eql 29 (.slice a n c) (.slice none n' c')).run Tryz.prog w = .ok (.bool a.isNone) w := fun w a n c n' c' => Lib.run_eql_slice_nil w _ _ a n c n' c' Tryz.underlying29
  cases p with
  | none =>
    obtain rfl : L = [] := by
      cases L with
      | nil => rfl
      | cons y l => obtain ⟨g, off, hp, _⟩ := hat 0 (by simp); cases hp
    go_enter Tryz.func25, Tryz.ntmps25
    go_wp2_with fail
    go_ret
    exact ⟨⟨_, rfl, World.ownsRow_nil _ _ _ _⟩, Below.refl _ _⟩
  | some ad =>
    have HA := hide' (fun j u => rs_news (hat : RsAt w (some ad) L) j u)
    have HA2 : Hid (∀ j u, (rce5 L)[j]? = some u → (w.alloc (.cells #[] 36)).cell? (ad.add j) = some u) := fun j u h => by
      have h1 := HA.out j u h
      exact Lib.cell?_alloc_some _ h1
    have HB := hide' ((Below.refl w.heap.size w).alloc (Nat.le_refl _) (.cells #[] 36))
    have HO := hide' (row_empty2 w 36 5)
    clear hat
    obtain ⟨i0, hi, hz0, hz1, hz2⟩ := info_parts infoR
    have HI := hide' (And.intro hi (And.intro hz0 (And.intro hz1 hz2)))
    clear hi hz0 hz1 hz2
    go_enter Tryz.func25, Tryz.ntmps25
    go_wp2_with (first
      | (at_builtin; refine wpList_append_own _ rfl _ _ 29 rfl w.heap.size 36 i0 (.agg #[.string .empty, .int .i64 0, .int .i64 0, .int .i64 0, .string .empty]) 5 56 Tryz.underlying29 HI.out.1 HI.out.2.1 HI.out.2.2.1 HI.out.2.2.2 rfl (by decide) (.slice (some ⟨w.heap.size, 0, none⟩) 0 0) 0 [] rfl HO.out ad L.length cap (rce5 L) rfl (rce5_len L) HA2.out (rce5_one L) (by unfold maxLen; omega) (by omega) (by simp) ?_; intro v1 w1 ho1 hg1 _; rw [Nat.zero_add, List.nil_append] at ho1; have HO1 := hide' ho1; have HB1 := hide' (HB.out.grown hg1 (by simp) (fun k e => by simp [Value.ownBlock] at e; omega)); clear ho1 hg1))
    go_ret
    exact ⟨⟨_, rfl, HO1.out⟩, HB1.out⟩

end Go.Proofs.YtgekfhghambacaaGreat
