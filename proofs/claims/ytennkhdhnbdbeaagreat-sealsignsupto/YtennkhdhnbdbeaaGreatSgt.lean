import Derived.Test.YtennkhdhnbdbeaaGreatSglG
/-
  A signed text's size. (The verifier's own text.)
-/
namespace Go.Proofs.YtennkhdhnbdbeaaGreat
set_option linter.unusedVariables false
set_option linter.unusedSimpArgs false
open Go.RowKit Go.Shelf Go.Sort Go.Proofs.YtennkhdhnbdbeaaGreat.Nm

theorem sum_perm {l m : List Nat} (h : l.Perm m) : l.sum = m.sum := by
  induction h with
  | nil => rfl
  | cons x _ ih => rw [List.sum_cons, List.sum_cons, ih]
  | swap x y l => simp only [List.sum_cons]; omega
  | trans _ _ h1 h2 => rw [h1, h2]
theorem foldD_le {t : Int} {d : ByteArray} (h : errD t d = 0) : (foldD t d).size ≤ d.size := by
  obtain ⟨ps, hp⟩ := errD_zero h
  unfold foldD
  rw [hp]
  show (foldL ps).length ≤ d.size
  unfold partsD at hp
  cases hk : kindsOf t with
  | none => rw [hk] at hp; cases hp
  | some ks =>
    rw [hk] at hp
    change (if _ then _ else _) = _ at hp
    split at hp
    · cases hp
    · exact parts_sum ks d ps hp
theorem txt_len (st ah : ByteArray) : ∀ ds : List (List UInt8), (txL st ah ds).length = st.size + (ds.map fun d => ah.size + 2 + d.length).sum := by
  intro ds
  unfold txL
  rw [List.length_append, Array.length_toList]
  have e : ∀ ds : List (List UInt8), (ds.flatMap (lineB ah)).length = (ds.map fun d => ah.size + 2 + d.length).sum := by
    intro ds
    induction ds with
    | nil => rfl
    | cons d ds ih => rw [List.flatMap_cons, List.length_append, ih, lineB_len, List.map_cons, List.sum_cons]
  rw [e]
  rfl
/-- the room that a set's text has -/
def roomL (L : List Rn) : Nat := (L.map fun r => r.o.size + r.d.size + 10).sum
theorem sum_le {α : Type} (f g : α → Nat) : ∀ l : List α, (∀ x ∈ l, f x ≤ g x) → (l.map f).sum ≤ (l.map g).sum
  | [], _ => Nat.le_refl _
  | x :: l, h => by
    have h1 := h x (by simp)
    have h2 := sum_le f g l (fun y hy => h y (by simp [hy]))
    simp only [List.map_cons, List.sum_cons]
    omega
end Go.Proofs.YtennkhdhnbdbeaaGreat
