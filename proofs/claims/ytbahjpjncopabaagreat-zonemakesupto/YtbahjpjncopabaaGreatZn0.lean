import Derived.Maps.OwnSet
import Derived.Maps.OwnOps
import Derived.DeepKeys4
import Derived.Test.YtbahjpjncopabaaGreatProg
/-
  Proofs: maps whose keys are structs, as functions. (The verifier's own text.)
-/
namespace Go.Proofs.YtbahjpjncopabaaGreat
set_option linter.unusedVariables false
set_option linter.unusedSimpArgs false
open Go.RowKit Go.Maps

theorem zlaid : laidOutB Tryz.prog = true := by kernel_rfl
theorem ztypes : ∃ m, Tryz.prog.types.size = m + 1 := ⟨Tryz.prog.types.size - 1, by
  have : (1 : Nat) ≤ Tryz.prog.types.size := of_decide_eq_true (by kernel_rfl)
  omega⟩
theorem zcStr : Tryz.prog.cellsOf 9 = 1 := by kernel_rfl
theorem zcInt : Tryz.prog.cellsOf 3 = 1 := by kernel_rfl

/-! ### senses -/
theorem seRow : (76 : TypeId) < Tryz.prog.types.size := of_decide_eq_true (by kernel_rfl)
theorem seWide : (match Tryz.prog.underlying 76 with | some (.array _ _) | some (.struct _) => true | _ => false) = true := by kernel_rfl
set_option maxRecDepth 100000 in
theorem seKeyed : Keyed Tryz.prog 76 := Keyed.of_law (deep_law_laid zlaid (m := 3) (by omega) seRow (by kernel_rfl) seWide)
theorem seType : Tryz.prog.keyType 76 = true := by kernel_rfl
theorem seCells : Tryz.prog.cellsOf 76 = 3 := by kernel_rfl
/-- a sense -/
abbrev Se := ByteArray × Int × ByteArray
def seV (x : Se) : Value := .agg #[.string x.1, .int .i64 x.2.1, .string x.2.2]
def seL (x : Se) : Lit := .string (keyBytes [.string x.1.data.toList, .int .i64 x.2.1, .string x.2.2.data.toList])
/-- a sense that can be a key -/
def seG (x : Se) : Prop := x.1.size ≤ maxLen ∧ (Lit.int .i64 x.2.1).wf = true ∧ x.2.2.size ≤ maxLen
theorem seKey {x : Se} (h : seG x) : keyOf Tryz.prog 76 (seV x) = some (seL x) := by
  obtain ⟨h1, h2, h3⟩ := h
  obtain ⟨m, hm⟩ := ztypes
  unfold keyOf
  rw [Tryz.underlying76, hm]
  simp [seType, Value.formed, Tryz.underlying76, seCells, zcStr, zcInt, seV, Value.cells, Program.keyLits, Tryz.underlying9, Tryz.underlying3, h1, h2, h3, seL]
theorem seV_inj {x y : Se} (h : seV x = seV y) : x = y := by
  obtain ⟨a, b, c⟩ := x
  obtain ⟨d, e, f⟩ := y
  simp [seV] at h
  obtain ⟨rfl, rfl, rfl⟩ := h
  rfl
theorem seL_inj {x y : Se} (hx : seG x) (hy : seG y) (h : seL x = seL y) : x = y := seV_inj (seKeyed.inj (seKey hx) (h ▸ seKey hy))

/-! ### places -/
theorem plRow : (80 : TypeId) < Tryz.prog.types.size := of_decide_eq_true (by kernel_rfl)
theorem plWide : (match Tryz.prog.underlying 80 with | some (.array _ _) | some (.struct _) => true | _ => false) = true := by kernel_rfl
set_option maxRecDepth 100000 in
theorem plKeyed : Keyed Tryz.prog 80 := Keyed.of_law (deep_law_laid zlaid (m := 3) (by omega) plRow (by kernel_rfl) plWide)
theorem plType : Tryz.prog.keyType 80 = true := by kernel_rfl
theorem plCells : Tryz.prog.cellsOf 80 = 2 := by kernel_rfl
abbrev Pl := ByteArray × Int
def plV (x : Pl) : Value := .agg #[.string x.1, .int .i64 x.2]
def plL (x : Pl) : Lit := .string (keyBytes [.string x.1.data.toList, .int .i64 x.2])
def plG (x : Pl) : Prop := x.1.size ≤ maxLen ∧ (Lit.int .i64 x.2).wf = true
theorem plKey {x : Pl} (h : plG x) : keyOf Tryz.prog 80 (plV x) = some (plL x) := by
  obtain ⟨h1, h2⟩ := h
  obtain ⟨m, hm⟩ := ztypes
  unfold keyOf
  rw [Tryz.underlying80, hm]
  simp [plType, Value.formed, Tryz.underlying80, plCells, zcStr, zcInt, plV, Value.cells, Program.keyLits, Tryz.underlying9, Tryz.underlying3, h1, h2, plL]
theorem plV_inj {x y : Pl} (h : plV x = plV y) : x = y := by
  obtain ⟨a, b⟩ := x
  obtain ⟨d, e⟩ := y
  simp [plV] at h
  obtain ⟨rfl, rfl⟩ := h
  rfl
theorem plL_inj {x y : Pl} (hx : plG x) (hy : plG y) (h : plL x = plL y) : x = y := plV_inj (plKeyed.inj (plKey hx) (h ▸ plKey hy))

/-! ### names -/
theorem stKeyed : Keyed Tryz.prog 9 := string_keyed Tryz.underlying9
def stL (x : ByteArray) : Lit := .string x.data.toList
def stG (x : ByteArray) : Prop := x.size ≤ maxLen
theorem stKey {x : ByteArray} (h : stG x) : keyOf Tryz.prog 9 (.string x) = some (stL x) := by
  unfold stG at h
  unfold keyOf mapKey
  rw [Tryz.underlying9]
  simp [h, stL]
theorem stL_inj {x y : ByteArray} (hx : stG x) (hy : stG y) (h : stL x = stL y) : x = y := by
  have := stKeyed.inj (stKey hx) (h ▸ stKey hy)
  exact Value.string.inj this

/-! ### what stands in maps -/
/-- a row as data -/
def rwE (v : Value) : Option (DataW Unit × List MemPlace) := match v with
  | .agg cs => match cs.toList with
    | [.int .i64 a, .int .i64 b] => some (.agg [.lit (.int .i64 a), .lit (.int .i64 b)], [])
    | _ => none
  | _ => none
def rwV (x : Nat × Nat) : Value := .agg #[.int .i64 (x.1 : Int), .int .i64 (x.2 : Int)]
def rwD (x : Nat × Nat) : DataW Unit := .agg [.lit (.int .i64 (x.1 : Int)), .lit (.int .i64 (x.2 : Int))]
theorem rwE_mk (x : Nat × Nat) : rwE (rwV x) = some (rwD x, []) := rfl
theorem rwE_inv {v : Value} {x : Nat × Nat} {ps : List MemPlace} (h : rwE v = some (rwD x, ps)) : v = rwV x := by
  unfold rwE at h
  split at h
  · rename_i cs
    split at h
    · rename_i a b hc
      simp [rwD] at h
      obtain ⟨⟨rfl, rfl⟩, _⟩ := h
      obtain ⟨l⟩ := cs
      simp only at hc
      subst hc
      rfl
    · cases h
  · cases h
def nuD (x : Nat) : DataW Unit := .lit (.int .i64 (x : Int))

/-- a map in memory, as a function -/
def Mf {κ β : Type} (k : TypeId) (R : Value → Option (DataW Unit × List MemPlace)) (kl : κ → Lit) (G : κ → Prop) (dv : β → DataW Unit) (w : World) (b n : Nat) (f : κ → Option β) : Prop :=
  ∃ D : DataW Unit, w.ownsMap Tryz.prog k R b n D ∧ ∀ x, G x → Maps.has D (kl x) = (f x).isSome ∧ ∀ v, f x = some v → ∀ z, D.atKey (kl x) z = dv v
section
variable {κ β : Type} {k : TypeId} {R : Value → Option (DataW Unit × List MemPlace)} {kl : κ → Lit} {G : κ → Prop} {dv : β → DataW Unit} {w w' : World} {b n : Nat} {f f' : κ → Option β}
theorem Mf.made (w : World) : Mf k R kl G dv (w.alloc (.map #[] 0)) w.heap.size 0 (fun _ => (none : Option β)) :=
  ⟨.map [], World.ownsMap_made w Tryz.prog k R, fun x _ => ⟨rfl, fun v h => by cases h⟩⟩
theorem Mf.lt (h : Mf k R kl G dv w b n f) : b < w.heap.size := by obtain ⟨D, h, _⟩ := h; exact h.lt
theorem Mf.grown {r : Option Nat} (h : Mf k R kl G dv w b n f) (hg : w.grownBy w' r) (hne : some b ≠ r) : Mf k R kl G dv w' b n f := by
  obtain ⟨D, h, h'⟩ := h
  exact ⟨D, h.kept hg hne, h'⟩
theorem Mf.mono {n' : Nat} (h : Mf k R kl G dv w b n f) (hn : n ≤ n') : Mf k R kl G dv w b n' f := by
  obtain ⟨D, h, h'⟩ := h
  exact ⟨D, h.mono hn, h'⟩
theorem Mf.ext (h : Mf k R kl G dv w b n f) (he : ∀ x, G x → f' x = f x) : Mf k R kl G dv w b n f' := by
  obtain ⟨D, h, h'⟩ := h
  exact ⟨D, h, fun x hx => by rw [he x hx]; exact h' x hx⟩
theorem mf_put {D : DataW Unit} {n' : Nat} (K : Keyed Tryz.prog k) (hm : IsMap D) (h : ∀ x, G x → Maps.has D (kl x) = (f x).isSome ∧ ∀ v, f x = some v → ∀ z, D.atKey (kl x) z = dv v)
    (hk : ∀ x, G x → WideAt.IsKeyLit (kl x)) (hinj : ∀ x y, G x → G y → kl x = kl y → x = y) {x : κ} (hx : G x) {v : β} (hown : w'.ownsMap Tryz.prog k R b n' (D.put (kl x) (dv v)))
    (h1 : f' x = some v) (h2 : ∀ y, G y → y ≠ x → f' y = f y) : Mf k R kl G dv w' b n' f' := by
  refine ⟨_, hown, fun y hy => ?_⟩
  by_cases e : y = x
  · subst e
    rw [h1]
    refine ⟨?_, fun u hu z => ?_⟩
    · rw [has_put_same hm (hk y hy)]; rfl
    · cases hu
      exact atKey_put_same hm (hk y hy) _ _
  · have hne : kl y ≠ kl x := fun h => e (hinj y x hy hx h)
    rw [h2 y hy e]
    refine ⟨?_, fun u hu z => ?_⟩
    · rw [has_put_other hne]; exact (h y hy).1
    · rw [atKey_put_other hne]; exact (h y hy).2 u hu z
end
end Go.Proofs.YtbahjpjncopabaaGreat
