import Derived.Maps.OwnSet
import Derived.Maps.OwnOps
import Derived.DeepKeys4
import Derived.Test.YtdaimcccdleodaaProg
/-
  Proofs: maps as functions. (The verifier's own text.)
-/
namespace Go.Proofs.Ytdaimcccdleodaa
set_option linter.unusedVariables false
set_option linter.unusedSimpArgs false
open Go.RowKit Go.Maps

theorem zlaid : laidOutB Try.prog = true := by kernel_rfl
theorem ztypes : ∃ m, Try.prog.types.size = m + 1 := ⟨Try.prog.types.size - 1, by
  have : (1 : Nat) ≤ Try.prog.types.size := of_decide_eq_true (by kernel_rfl)
  omega⟩
theorem zcStr : Try.prog.cellsOf 9 = 1 := by kernel_rfl
theorem zcInt : Try.prog.cellsOf 3 = 1 := by kernel_rfl

def nuD (x : Nat) : DataW Unit := .lit (.int .i64 (x : Int))
/-- a map in memory, as a function -/
def Mf {κ β : Type} (k : TypeId) (R : Value → Option (DataW Unit × List MemPlace)) (kl : κ → Lit) (G : κ → Prop) (dv : β → DataW Unit) (w : World) (b n : Nat) (f : κ → Option β) : Prop :=
  ∃ D : DataW Unit, w.ownsMap Try.prog k R b n D ∧ ∀ x, G x → Maps.has D (kl x) = (f x).isSome ∧ ∀ v, f x = some v → ∀ z, D.atKey (kl x) z = dv v
section
variable {κ β : Type} {k : TypeId} {R : Value → Option (DataW Unit × List MemPlace)} {kl : κ → Lit} {G : κ → Prop} {dv : β → DataW Unit} {w w' : World} {b n : Nat} {f f' : κ → Option β}
theorem Mf.made (w : World) : Mf k R kl G dv (w.alloc (.map #[] 0)) w.heap.size 0 (fun _ => (none : Option β)) :=
  ⟨.map [], World.ownsMap_made w Try.prog k R, fun x _ => ⟨rfl, fun v h => by cases h⟩⟩
theorem Mf.lt (h : Mf k R kl G dv w b n f) : b < w.heap.size := by obtain ⟨D, h, _⟩ := h; exact h.lt
theorem Mf.grown {r : Option Nat} (h : Mf k R kl G dv w b n f) (hg : w.grownBy w' r) (hne : some b ≠ r) : Mf k R kl G dv w' b n f := by
  obtain ⟨D, h, h'⟩ := h
  exact ⟨D, h.kept hg hne, h'⟩
theorem Mf.mono {n' : Nat} (h : Mf k R kl G dv w b n f) (hn : n ≤ n') : Mf k R kl G dv w b n' f := by
  obtain ⟨D, h, h'⟩ := h
  exact ⟨D, h.mono hn, h'⟩
theorem Mf.ext (h : Mf k R kl G dv w b n f) (he : ∀ x, G x → f' x = f x) : Mf k R kl G dv w b n f' := by
  obtain ⟨D, h, h'⟩ := h
  exact ⟨D, h, fun x hx => by rw [he x hx]; exact h' x hx⟩
theorem mf_put {D : DataW Unit} {n' : Nat} (K : Keyed Try.prog k) (hm : IsMap D) (h : ∀ x, G x → Maps.has D (kl x) = (f x).isSome ∧ ∀ v, f x = some v → ∀ z, D.atKey (kl x) z = dv v)
    (hk : ∀ x, G x → WideAt.IsKeyLit (kl x)) (hinj : ∀ x y, G x → G y → kl x = kl y → x = y) {x : κ} (hx : G x) {v : β} (hown : w'.ownsMap Try.prog k R b n' (D.put (kl x) (dv v)))
    (h1 : f' x = some v) (h2 : ∀ y, G y → y ≠ x → f' y = f y) : Mf k R kl G dv w' b n' f' := by
  refine ⟨_, hown, fun y hy => ?_⟩
  by_cases e : y = x
  · subst e
    rw [h1]
    refine ⟨?_, fun u hu z => ?_⟩
    · rw [has_put_same hm (hk y hy)]; rfl
    · cases hu
      exact atKey_put_same hm (hk y hy) _ _
  · have hne : kl y ≠ kl x := fun h => e (hinj y x hy hx h)
    rw [h2 y hy e]
    refine ⟨?_, fun u hu z => ?_⟩
    · rw [has_put_other hne]; exact (h y hy).1
    · rw [atKey_put_other hne]; exact (h y hy).2 u hu z
theorem mf_del {D : DataW Unit} {n' : Nat} (h : ∀ x, G x → Maps.has D (kl x) = (f x).isSome ∧ ∀ v, f x = some v → ∀ z, D.atKey (kl x) z = dv v)
    (hinj : ∀ x y, G x → G y → kl x = kl y → x = y) {x : κ} (hx : G x) (hown : w'.ownsMap Try.prog k R b n' (D.del (kl x)))
    (h1 : f' x = none) (h2 : ∀ y, G y → y ≠ x → f' y = f y) : Mf k R kl G dv w' b n' f' := by
  refine ⟨_, hown, fun y hy => ?_⟩
  by_cases e : y = x
  · subst e
    rw [h1]
    exact ⟨has_del_same, fun u hu => by cases hu⟩
  · have hne : kl y ≠ kl x := fun h => e (hinj y x hy hx h)
    rw [h2 y hy e]
    refine ⟨?_, fun u hu z => ?_⟩
    · rw [has_del_other hne]; exact (h y hy).1
    · rw [atKey_del_other hne]; exact (h y hy).2 u hu z
end
end Go.Proofs.Ytdaimcccdleodaa
