import Derived.Test.YtclonjmhbgllkaaDoorMs1
namespace Go.Proofs.YtclonjmhbgllkaaDoor
set_option linter.unusedVariables false
open Go.RowKit Go.Shelf Go.Proofs.YtclonjmhbgllkaaDoor.Nm

theorem ents_ok (t : ByteArray) (k l : Nat) (L L' : List En) (hk : k ≤ t.size + 1) (hL : ∀ x ∈ L, x.ws.length ≤ t.size + 1) (h : ents t k l L = .inr L') :
    L'.length + k ≤ L.length + t.size + 1 ∧ ∀ x ∈ L', x.ws.length ≤ t.size + 1 := by
  fun_induction ents t k l L with
  | case1 => cases h
  | case2 k l L hlt k2 l2 ws he hk2 ih =>
    have hg := ent_good t k l 0 [] k2 l2 ws (by omega) he
    have hp : (putE L l (isBl (bt t k)) ws).length ≤ L.length + 1 ∧ ∀ x ∈ putE L l (isBl (bt t k)) ws, x.ws.length ≤ t.size + 1 := by
      unfold putE
      split
      · exact ⟨by omega, hL⟩
      · refine ⟨by simp, fun x hx => ?_⟩
        rcases List.mem_append.1 hx with hx | hx
        · exact hL x hx
        · obtain rfl := List.mem_singleton.1 hx
          simp at hg ⊢; omega
    have := ih (by omega) hp.2 h
    exact ⟨by omega, this.2⟩
  | case3 => cases h
  | case4 k l L hlt =>
    injection h with h
    subst h
    exact ⟨by omega, hL⟩
def outL (r : Rs) : List En := match r with | .inr L => L | .inl (_, _) => []
def outC (r : Rs) : Nat := match r with | .inr _ => 0 | .inl (c, _) => c
def outF (r : Rs) : Nat := match r with | .inr _ => 0 | .inl (_, l) => l
theorem outL_len (t : ByteArray) : (outL (entsB t)).length ≤ t.size + 1 ∧ ∀ x ∈ outL (entsB t), x.ws.length ≤ t.size + 1 := by
  cases h : entsB t with
  | inl zz => obtain ⟨c, l⟩ := zz; exact ⟨by simp [outL], fun x hx => by simp [outL] at hx⟩
  | inr L =>
    have := ents_ok t 0 1 [] L (by omega) (fun x hx => by cases hx) h
    exact ⟨by simp at this; simp [outL]; omega, this.2⟩
/-- what both answer -/
def bothEnd (r : Rs) (w : World) (e : Ending) (w' : World) : Prop :=
  ∃ p c, e = .returned (.tuple #[.slice p (outL r).length c, .agg #[.int .i64 (outC r : Int), .string ⟨#[]⟩, .int .i64 (outF r : Int)]]) ∧ EL w' w.heap.size (.slice p (outL r).length c) (outL r) ∧ Below w.heap.size w w'
theorem both_of {r : Rs} {w : World} {e : Ending} {w' : World} (h : entriesEnd r w e w') : bothEnd r w e w' := by
  cases r with
  | inr L => obtain ⟨p, c, h1, h2, h3⟩ := h; exact ⟨p, c, h1, h2, h3⟩
  | inl zz => obtain ⟨c, l⟩ := zz; obtain ⟨h1, h2⟩ := h; exact ⟨none, 0, h1, ⟨[], rfl, EZ.nil _ _⟩, h2⟩

/-- entries whose words are marked, one behind the other -/
structure MK (wr : World) (B g cap : Nat) (Z : List Ez) (j : Nat) : Prop where
  own : ∃ xs, wr.ownsRow B 31 3 (.slice (some ⟨g, 0, none⟩) Z.length cap) Z.length xs ∧ ∀ i, j ≤ i → (hi : i < Z.length) → xs[i * 3 + 2]? = some (.slice (some ⟨Z[i].2.1, 0, none⟩) Z[i].1.ws.length Z[i].2.2)
  rows : ∀ i, j ≤ i → (hi : i < Z.length) → ∃ xs, wr.ownsRow B 33 2 (.slice (some ⟨Z[i].2.1, 0, none⟩) Z[i].1.ws.length Z[i].2.2) Z[i].1.ws.length xs
theorem MK.start {w : World} {B g n cap : Nat} {Z : List Ez} (h : EZ w B (.slice (some ⟨g, 0, none⟩) n cap) Z) : MK w B g cap Z 0 := by
  have hn : n = Z.length := by
    obtain ⟨p', c', e, _⟩ := owns_shape2 h.own
    injection e
  subst hn
  exact ⟨⟨_, h.own, fun i _ hi => (ecells_get Z i hi).2.2⟩, fun i _ hi => ⟨_, h.rows _ (List.getElem_mem hi)⟩⟩
theorem asc_ne {Z : List Ez} (h : Z.Pairwise (fun a b => a.2.1 < b.2.1)) {i j : Nat} (hi : i < Z.length) (hj : j < Z.length) (hne : i ≠ j) : Z[i].2.1 ≠ Z[j].2.1 := by
  rw [List.pairwise_iff_getElem] at h
  rcases Nat.lt_or_gt_of_ne hne with h1 | h1
  · have := h i j hi hj h1; omega
  · have := h j i hj hi h1; omega
/-- a store into a row of one's own -/
theorem own_set {w : World} {base e size g n cap : Nat} {xs : List Value} (h : w.ownsRow base e size (.slice (some ⟨g, 0, none⟩) n cap) n xs) (j : Nat) (hj : j < n * size) (u : Value) :
    (w.setCell ⟨g, j, none⟩ u).ownsRow base e size (.slice (some ⟨g, 0, none⟩) n cap) n (xs.set j u) := by
  obtain ⟨hl, (⟨h1, h2⟩ | ⟨g', cap', cur, h1, hb, hg, hn, hcm, hcs, htk⟩)⟩ := h
  · cases h1
  · injection h1 with h1 h2 h3
    injection h1 with h1
    injection h1 with h1
    subst h1; subst h3
    refine ⟨by simpa using hl, .inr ⟨g, cap, cur.setIfInBounds j u, rfl, hb, ?_, hn, hcm, by simpa using hcs, ?_⟩⟩
    · simp [World.setCell, Array.getElem?_modify, hg]
    · rw [← htk]
      simp [List.take_set]
theorem own_far {w : World} {base e size g b j n cap : Nat} {xs : List Value} (h : w.ownsRow base e size (.slice (some ⟨g, 0, none⟩) n cap) n xs) (hne : g ≠ b) (u : Value) :
    (w.setCell ⟨b, j, none⟩ u).ownsRow base e size (.slice (some ⟨g, 0, none⟩) n cap) n xs := h.kept (grown_set w b j u) (.inr (by show some g ≠ some b; simp [hne]))
theorem MK.mark {wr : World} {B g cap j : Nat} {Z : List Ez} (h : MK wr B g cap Z j) (hasc : Z.Pairwise (fun a b => a.2.1 < b.2.1)) (hgz : ∀ z ∈ Z, z.2.1 ≠ g) (hj : j < Z.length) (i : Nat) (hi : i < Z[j].1.ws.length * 2) (u : Value) :
    MK (wr.setCell ⟨Z[j].2.1, i, none⟩ u) B g cap Z j := by
  obtain ⟨⟨xs, h1, h2⟩, h3⟩ := h
  refine ⟨⟨xs, own_far h1 (fun e => hgz _ (List.getElem_mem hj) e.symm) u, h2⟩, fun i2 hi2 hl => ?_⟩
  obtain ⟨ys, h4⟩ := h3 i2 hi2 hl
  by_cases e : i2 = j
  · subst e
    exact ⟨_, own_set h4 i hi u⟩
  · exact ⟨ys, own_far h4 (asc_ne hasc hl hj e) u⟩
/-- the next one's turn -/
theorem MK.next {wr w6 : World} {B g cap j : Nat} {Z : List Ez} {o : Obj} {v' : Value} (h : MK wr B g cap Z j) (hasc : Z.Pairwise (fun a b => a.2.1 < b.2.1)) (hgz : ∀ z ∈ Z, z.2.1 ≠ g) (hj : j < Z.length) (hg : (wr.alloc o).grownBy w6 (some Z[j].2.1)) :
    MK (w6.setCell ⟨g, j * 3 + 2, none⟩ v') B g cap Z (j + 1) := by
  obtain ⟨⟨xs, h1, h2⟩, h3⟩ := h
  have k1 : w6.ownsRow B 31 3 (.slice (some ⟨g, 0, none⟩) Z.length cap) Z.length xs := (h1.alloc o).kept hg (.inr (by show some g ≠ some _; intro e; injection e with e; exact hgz _ (List.getElem_mem hj) e.symm))
  refine ⟨⟨_, own_set k1 (j * 3 + 2) (by omega) v', fun i hi hl => ?_⟩, fun i hi hl => ?_⟩
  · rw [List.getElem?_set_ne (by omega)]
    exact h2 i (by omega) hl
  · obtain ⟨ys, h4⟩ := h3 i (by omega) hl
    refine ⟨ys, own_far ((h4.alloc o).kept hg (.inr (by show some _ ≠ some _; intro e; injection e with e; exact asc_ne hasc hl hj (by omega) e))) (hgz _ (List.getElem_mem hl)) v'⟩
end Go.Proofs.YtclonjmhbgllkaaDoor
