import Derived.Maps.OwnSet
import Derived.Maps.OwnOps
import Derived.DeepKeys4
import Derived.Test.YtelboefeomnjaaaGreatProg
import Derived.Test.YtelboefeomnjaaaGreatBw1G
import Derived.Test.YtelboefeomnjaaaGreatRn0G
import Derived.Test.YtelboefeomnjaaaGreatCmpG
import Derived.Test.YtelboefeomnjaaaGreatBt1G
/-
  Proofs: maps as functions. (The verifier's own text.)
-/
namespace Go.Proofs.YtelboefeomnjaaaGreat
set_option linter.unusedVariables false
set_option linter.unusedSimpArgs false
open Go.RowKit Go.Maps

theorem zlaid : laidOutB Tryz.prog = true := by kernel_rfl
theorem ztypes : ∃ m, Tryz.prog.types.size = m + 1 := ⟨Tryz.prog.types.size - 1, by
  have : (1 : Nat) ≤ Tryz.prog.types.size := of_decide_eq_true (by kernel_rfl)
  omega⟩
theorem zcStr : Tryz.prog.cellsOf 9 = 1 := by kernel_rfl
theorem zcInt : Tryz.prog.cellsOf 3 = 1 := by kernel_rfl

/-- a map in memory, as a function -/
def Mf {κ β : Type} (k : TypeId) (R : Value → Option (DataW Unit × List MemPlace)) (kl : κ → Lit) (G : κ → Prop) (dv : β → DataW Unit) (w : World) (b n : Nat) (f : κ → Option β) : Prop :=
  ∃ D : DataW Unit, w.ownsMap Tryz.prog k R b n D ∧ ∀ x, G x → Maps.has D (kl x) = (f x).isSome ∧ ∀ v, f x = some v → ∀ z, D.atKey (kl x) z = dv v
section
variable {κ β : Type} {k : TypeId} {R : Value → Option (DataW Unit × List MemPlace)} {kl : κ → Lit} {G : κ → Prop} {dv : β → DataW Unit} {w w' : World} {b n : Nat} {f f' : κ → Option β}
theorem Mf.made (w : World) : Mf k R kl G dv (w.alloc (.map #[] 0)) w.heap.size 0 (fun _ => (none : Option β)) :=
  ⟨.map [], World.ownsMap_made w Tryz.prog k R, fun x _ => ⟨rfl, fun v h => by cases h⟩⟩
theorem Mf.lt (h : Mf k R kl G dv w b n f) : b < w.heap.size := by obtain ⟨D, h, _⟩ := h; exact h.lt
theorem Mf.grown {r : Option Nat} (h : Mf k R kl G dv w b n f) (hg : w.grownBy w' r) (hne : some b ≠ r) : Mf k R kl G dv w' b n f := by
  obtain ⟨D, h, h'⟩ := h
  exact ⟨D, h.kept hg hne, h'⟩
theorem Mf.mono {n' : Nat} (h : Mf k R kl G dv w b n f) (hn : n ≤ n') : Mf k R kl G dv w b n' f := by
  obtain ⟨D, h, h'⟩ := h
  exact ⟨D, h.mono hn, h'⟩
theorem Mf.ext (h : Mf k R kl G dv w b n f) (he : ∀ x, G x → f' x = f x) : Mf k R kl G dv w b n f' := by
  obtain ⟨D, h, h'⟩ := h
  exact ⟨D, h, fun x hx => by rw [he x hx]; exact h' x hx⟩
theorem mf_put {D : DataW Unit} {n' : Nat} (K : Keyed Tryz.prog k) (hm : IsMap D) (h : ∀ x, G x → Maps.has D (kl x) = (f x).isSome ∧ ∀ v, f x = some v → ∀ z, D.atKey (kl x) z = dv v)
    (hk : ∀ x, G x → WideAt.IsKeyLit (kl x)) (hinj : ∀ x y, G x → G y → kl x = kl y → x = y) {x : κ} (hx : G x) {v : β} (hown : w'.ownsMap Tryz.prog k R b n' (D.put (kl x) (dv v)))
    (h1 : f' x = some v) (h2 : ∀ y, G y → y ≠ x → f' y = f y) : Mf k R kl G dv w' b n' f' := by
  refine ⟨_, hown, fun y hy => ?_⟩
  by_cases e : y = x
  · subst e
    rw [h1]
    refine ⟨?_, fun u hu z => ?_⟩
    · rw [has_put_same hm (hk y hy)]; rfl
    · cases hu
      exact atKey_put_same hm (hk y hy) _ _
  · have hne : kl y ≠ kl x := fun h => e (hinj y x hy hx h)
    rw [h2 y hy e]
    refine ⟨?_, fun u hu z => ?_⟩
    · rw [has_put_other hne]; exact (h y hy).1
    · rw [atKey_put_other hne]; exact (h y hy).2 u hu z
theorem mf_del {D : DataW Unit} {n' : Nat} (h : ∀ x, G x → Maps.has D (kl x) = (f x).isSome ∧ ∀ v, f x = some v → ∀ z, D.atKey (kl x) z = dv v)
    (hinj : ∀ x y, G x → G y → kl x = kl y → x = y) {x : κ} (hx : G x) (hown : w'.ownsMap Tryz.prog k R b n' (D.del (kl x)))
    (h1 : f' x = none) (h2 : ∀ y, G y → y ≠ x → f' y = f y) : Mf k R kl G dv w' b n' f' := by
  refine ⟨_, hown, fun y hy => ?_⟩
  by_cases e : y = x
  · subst e
    rw [h1]
    exact ⟨has_del_same, fun u hu => by cases hu⟩
  · have hne : kl y ≠ kl x := fun h => e (hinj y x hy hx h)
    rw [h2 y hy e]
    refine ⟨?_, fun u hu z => ?_⟩
    · rw [has_del_other hne]; exact (h y hy).1
    · rw [atKey_del_other hne]; exact (h y hy).2 u hu z
end
end Go.Proofs.YtelboefeomnjaaaGreat

/-
  Proofs: senses as keys. (The verifier's own text.)
-/
namespace Go.Proofs.YtelboefeomnjaaaGreat
set_option linter.unusedVariables false
set_option linter.unusedSimpArgs false
open Go.RowKit Go.Maps

/-! ### senses -/
theorem seRow : (109 : TypeId) < Tryz.prog.types.size := of_decide_eq_true (by kernel_rfl)
theorem seWide : (match Tryz.prog.underlying 109 with | some (.array _ _) | some (.struct _) => true | _ => false) = true := by kernel_rfl
set_option maxRecDepth 100000 in
theorem seKeyed : Keyed Tryz.prog 109 := Keyed.of_law (deep_law_laid zlaid (m := 3) (by omega) seRow (by kernel_rfl) seWide)
theorem seType : Tryz.prog.keyType 109 = true := by kernel_rfl
theorem seCells : Tryz.prog.cellsOf 109 = 3 := by kernel_rfl
/-- a sense -/
abbrev Se := ByteArray × Int × ByteArray
def seV (x : Se) : Value := .agg #[.string x.1, .int .i64 x.2.1, .string x.2.2]
def seL (x : Se) : Lit := .string (keyBytes [.string x.1.data.toList, .int .i64 x.2.1, .string x.2.2.data.toList])
/-- a sense that can be a key -/
def seG (x : Se) : Prop := x.1.size ≤ maxLen ∧ (Lit.int .i64 x.2.1).wf = true ∧ x.2.2.size ≤ maxLen
theorem seKey {x : Se} (h : seG x) : keyOf Tryz.prog 109 (seV x) = some (seL x) := by
  obtain ⟨h1, h2, h3⟩ := h
  obtain ⟨m, hm⟩ := ztypes
  unfold keyOf
  rw [Tryz.underlying109, hm]
  simp [seType, Value.formed, Tryz.underlying109, seCells, zcStr, zcInt, seV, Value.cells, Program.keyLits, Tryz.underlying9, Tryz.underlying3, h1, h2, h3, seL]
theorem seV_inj {x y : Se} (h : seV x = seV y) : x = y := by
  obtain ⟨a, b, c⟩ := x
  obtain ⟨d, e, f⟩ := y
  simp [seV] at h
  obtain ⟨rfl, rfl, rfl⟩ := h
  rfl
theorem seL_inj {x y : Se} (hx : seG x) (hy : seG y) (h : seL x = seL y) : x = y := seV_inj (seKeyed.inj (seKey hx) (h ▸ seKey hy))

theorem isKey_se (x : Se) : WideAt.IsKeyLit (seL x) := trivial
end Go.Proofs.YtelboefeomnjaaaGreat

/-
  Proofs: a record's sense. (The verifier's own text.)
-/
namespace Go.Proofs.YtelboefeomnjaaaGreat
set_option linter.unusedVariables false
set_option linter.unusedSimpArgs false
open Go.RowKit Go.Shelf Go.Maps Go.Proofs.YtelboefeomnjaaaGreat.Nm

/-- a record's sense -/
def senS (r : Rn) : Se := (foldB r.o, r.t, foldD r.t r.d)

set_option maxRecDepth 100000 in
set_option maxHeartbeats 1000000 in
/-- data.SenseOf -/
theorem senseOf_any (r : Rn) (w : World) (ho : r.o.size ≤ maxLen) (hd : r.d.size ≤ maxLen) :
    Calls Tryz.prog 64 #[.agg #[.string r.o, .int .i64 r.t, .int .i64 r.c, .int .i64 r.l, .string r.d]] w fun e w' => e = .returned (seV (senS r)) ∧ Below w.heap.size w w' := by
  obtain ⟨o, t, c, l, d⟩ := r
  unfold seV senS
  simp only at ho hd ⊢
  have H1 := hide' (fun W => fold_any o W ho)
  have H2 := hide' (fun W => dataFold_any t d W (by unfold maxLen at hd; omega))
  obtain ⟨F, hF⟩ : ∃ F, foldB o = F := ⟨_, rfl⟩
  obtain ⟨G, hG⟩ : ∃ G, foldD t d = G := ⟨_, rfl⟩
  rw [hF] at H1 ⊢
  rw [hG] at H2 ⊢
  clear hF hG
  go_enter Tryz.func64, Tryz.ntmps64
  go_wp2_with fail
  obtain ⟨wa, hwa⟩ : ∃ wa, ((w.alloc (.cells #[.string o, .int .i64 t, .int .i64 c, .int .i64 l, .string d] 42)).alloc (.cells #[.string ⟨#[]⟩, .int .i64 0, .string ⟨#[]⟩] 109)) = wa := ⟨_, rfl⟩
  have HR : Hid (Bx wa w.heap.size #[.string o, .int .i64 t, .int .i64 c, .int .i64 l, .string d] 42) := by
    unfold Hid; rw [← hwa]; exact Bx.below (World.alloc_heap_new w _) ((Below.refl _ _).alloc (Nat.le_refl _) _) (by simp)
  have HS : Hid (Bx wa (w.heap.size + 1) #[.string ⟨#[]⟩, .int .i64 0, .string ⟨#[]⟩] 109) := by
    unfold Hid; rw [← hwa]; unfold Bx
    have := World.alloc_heap_new (w.alloc (.cells #[.string o, .int .i64 t, .int .i64 c, .int .i64 l, .string d] 42)) (.cells #[.string ⟨#[]⟩, .int .i64 0, .string ⟨#[]⟩] 109)
    simpa using this
  have HB0 : Hid (Below w.heap.size w wa) := by unfold Hid; rw [← hwa]; exact ((Below.refl _ w).alloc (Nat.le_refl _) _).alloc (by simp) _
  rw [hwa]
  clear hwa
  have hB := Below.refl wa.heap.size wa
  have c0 : wa.cell? ⟨w.heap.size, 0, none⟩ = some (.string o) := HR.out.cell rfl
  have c1 : wa.cell? ⟨w.heap.size, 1, none⟩ = some (.int .i64 t) := HR.out.cell rfl
  have c4 : wa.cell? ⟨w.heap.size, 4, none⟩ = some (.string d) := HR.out.cell rfl
  have HQ : Hid (∀ W, Below wa.heap.size wa W → W.cell? ⟨w.heap.size, 0, none⟩ = some (.string o) ∧ W.cell? ⟨w.heap.size, 1, none⟩ = some (.int .i64 t) ∧ W.cell? ⟨w.heap.size, 4, none⟩ = some (.string d)) := fun W hW =>
    ⟨(HR.out.below hW HR.out.lt).cell rfl, (HR.out.below hW HR.out.lt).cell rfl, (HR.out.below hW HR.out.lt).cell rfl⟩
  have HSb : Hid (∀ W, Below wa.heap.size wa W → Bx W (w.heap.size + 1) #[.string ⟨#[]⟩, .int .i64 0, .string ⟨#[]⟩] 109) := fun W hW => HS.out.below hW HS.out.lt
  go_region_held3 (fun V => V.cell? ⟨w.heap.size, 0, none⟩ = some (.string o) ∧ V.cell? ⟨w.heap.size, 1, none⟩ = some (.int .i64 t) ∧ V.cell? ⟨w.heap.size, 4, none⟩ = some (.string d)) (first | go_keep | (with_reducible exact HQ.out _ hB)) (first | (go_at_call 76; refine (H1.out _).mono ?_; rintro e w5 ⟨rfl, hB5⟩; have hB := below_any hB hB5 (by first | exact .inl rfl | exact .inr rfl) hB.size; obtain ⟨z0, z1, z2, y0, y1, y2⟩ := bx3 (HSb.out _ hB); clear hB5) | (go_at_call 77; refine (H2.out _).mono ?_; rintro e w6 ⟨rfl, hB5⟩; have hB := below_any hB hB5 (by first | exact .inl rfl | exact .inr rfl) hB.size; obtain ⟨z0, z1, z2, y0, y1, y2⟩ := bx3 (HSb.out _ hB); clear hB5))
  all_goals
    have hb3 := hide' (bx3_set (HSb.out _ hB) (.string F) (.int .i64 t) (.string G))
    have HBf : Hid (Below w.heap.size w (((w6.setCell ⟨w.heap.size + 1, 0, none⟩ (.string F)).setCell ⟨w.heap.size + 1, 1, none⟩ (.int .i64 t)).setCell ⟨w.heap.size + 1, 2, none⟩ (.string G))) :=
      (((bstep HB0.out hB HB0.out.size).setCell (by simp) _).setCell (by simp) _).setCell (by simp) _
    generalize (((w6.setCell ⟨w.heap.size + 1, 0, none⟩ (.string F)).setCell ⟨w.heap.size + 1, 1, none⟩ (.int .i64 t)).setCell ⟨w.heap.size + 1, 2, none⟩ (.string G)) = wz at hb3 HBf ⊢
    obtain ⟨r0, r1, r2, _, _, _⟩ := bx3 hb3.out
    clear z0 z1 z2 y0 y1 y2
    go_wp2_with fail
    refine bodyPost_ret (v := .agg #[.string F, .int .i64 t, .string G]) (by simp [results, go_sem, r0, r1, r2]) rfl ⟨rfl, HBf.out⟩

end Go.Proofs.YtelboefeomnjaaaGreat
