import Derived.Maps.OwnSet
import Derived.Maps.OwnOps
import Derived.DeepKeys4
import Derived.Test.YtoabnpdoicbpiaaGreatProg
import Derived.Test.YtoabnpdoicbpiaaGreatBw1G
import Derived.Test.YtoabnpdoicbpiaaGreatRn0G
import Derived.Test.YtoabnpdoicbpiaaGreatCmpG
import Derived.Test.YtoabnpdoicbpiaaGreatGr0G
import Derived.Test.YtoabnpdoicbpiaaGreatZs1G
namespace Go.Proofs.YtoabnpdoicbpiaaGreat
set_option linter.unusedVariables false
set_option linter.unusedSimpArgs false
open Go.RowKit Go.Maps
theorem zlaid : laidOutB Tryz.prog = true := by kernel_rfl
theorem ztypes : ∃ m, Tryz.prog.types.size = m + 1 := ⟨Tryz.prog.types.size - 1, by
       have : (1 : Nat) ≤ Tryz.prog.types.size := of_decide_eq_true (by kernel_rfl)
       omega⟩
theorem zcStr : Tryz.prog.cellsOf 9 = 1 := by kernel_rfl
theorem zcInt : Tryz.prog.cellsOf 3 = 1 := by kernel_rfl
def nuD (x : Nat) : DataW Unit := .lit (.int .i64 (x : Int))
def Mf {κ β : Type} (k : TypeId) (R : Value → Option (DataW Unit × List MemPlace)) (kl : κ → Lit) (G : κ → Prop) (dv : β → DataW Unit) (w : World) (b n : Nat) (f : κ → Option β) : Prop :=
 ∃ D : DataW Unit, w.ownsMap Tryz.prog k R b n D ∧ ∀ x, G x → Maps.has D (kl x) = (f x).isSome ∧ ∀ v, f x = some v → ∀ z, D.atKey (kl x) z = dv v
section
variable {κ β : Type} {k : TypeId} {R : Value → Option (DataW Unit × List MemPlace)} {kl : κ → Lit} {G : κ → Prop} {dv : β → DataW Unit} {w w' : World} {b n : Nat} {f f' : κ → Option β}
theorem Mf.made (w : World) : Mf k R kl G dv (w.alloc (.map #[] 0)) w.heap.size 0 (fun _ => (none : Option β)) :=
 ⟨.map [], World.ownsMap_made w Tryz.prog k R, fun x _ => ⟨rfl, fun v h => by cases h⟩⟩
theorem Mf.lt (h : Mf k R kl G dv w b n f) : b < w.heap.size := by obtain ⟨D, h, _⟩ := h; exact h.lt
theorem Mf.grown {r : Option Nat} (h : Mf k R kl G dv w b n f) (hg : w.grownBy w' r) (hne : some b ≠ r) : Mf k R kl G dv w' b n f := by
 obtain ⟨D, h, h'⟩ := h
 exact ⟨D, h.kept hg hne, h'⟩
theorem Mf.mono {n' : Nat} (h : Mf k R kl G dv w b n f) (hn : n ≤ n') : Mf k R kl G dv w b n' f := by
 obtain ⟨D, h, h'⟩ := h
 exact ⟨D, h.mono hn, h'⟩
theorem Mf.ext (h : Mf k R kl G dv w b n f) (he : ∀ x, G x → f' x = f x) : Mf k R kl G dv w b n f' := by
 obtain ⟨D, h, h'⟩ := h
 exact ⟨D, h, fun x hx => by rw [he x hx]; exact h' x hx⟩
theorem mf_put {D : DataW Unit} {n' : Nat} (K : Keyed Tryz.prog k) (hm : IsMap D) (h : ∀ x, G x → Maps.has D (kl x) = (f x).isSome ∧ ∀ v, f x = some v → ∀ z, D.atKey (kl x) z = dv v)
  (hk : ∀ x, G x → WideAt.IsKeyLit (kl x)) (hinj : ∀ x y, G x → G y → kl x = kl y → x = y) {x : κ} (hx : G x) {v : β} (hown : w'.ownsMap Tryz.prog k R b n' (D.put (kl x) (dv v)))
  (h1 : f' x = some v) (h2 : ∀ y, G y → y ≠ x → f' y = f y) : Mf k R kl G dv w' b n' f' := by
 refine ⟨_, hown, fun y hy => ?_⟩
 by_cases e : y = x
 ·subst e
  rw [h1]
  refine ⟨?_, fun u hu z => ?_⟩
  ·rw [has_put_same hm (hk y hy)]; rfl
  ·cases hu
   exact atKey_put_same hm (hk y hy) _ _
 ·have hne : kl y ≠ kl x := fun h => e (hinj y x hy hx h)
  rw [h2 y hy e]
  refine ⟨?_, fun u hu z => ?_⟩
  ·rw [has_put_other hne]; exact (h y hy).1
  ·rw [atKey_put_other hne]; exact (h y hy).2 u hu z
end
end Go.Proofs.YtoabnpdoicbpiaaGreat
namespace Go.Proofs.YtoabnpdoicbpiaaGreat
set_option linter.unusedVariables false
set_option linter.unusedSimpArgs false
open Go.RowKit Go.Maps
theorem seRow : (83 : TypeId) < Tryz.prog.types.size := of_decide_eq_true (by kernel_rfl)
theorem seWide : (match Tryz.prog.underlying 83 with | some (.array _ _) | some (.struct _) => true | _ => false) = true := by kernel_rfl
set_option maxRecDepth 100000 in
theorem seKeyed : Keyed Tryz.prog 83 := Keyed.of_law (deep_law_laid zlaid (m := 3) (by omega) seRow (by kernel_rfl) seWide)
theorem seType : Tryz.prog.keyType 83 = true := by kernel_rfl
theorem seCells : Tryz.prog.cellsOf 83 = 3 := by kernel_rfl
abbrev Se := ByteArray × Int × ByteArray
def seV (x : Se) : Value := .agg #[.string x.1, .int .i64 x.2.1, .string x.2.2]
def seL (x : Se) : Lit := .string (keyBytes [.string x.1.data.toList, .int .i64 x.2.1, .string x.2.2.data.toList])
def seG (x : Se) : Prop := x.1.size ≤ maxLen ∧ (Lit.int .i64 x.2.1).wf = true ∧ x.2.2.size ≤ maxLen
theorem seKey {x : Se} (h : seG x) : keyOf Tryz.prog 83 (seV x) = some (seL x) := by
 obtain ⟨h1, h2, h3⟩ := h
 obtain ⟨m, hm⟩ := ztypes
 unfold keyOf
 rw [Tryz.underlying83, hm]
 simp [seType, Value.formed, Tryz.underlying83, seCells, zcStr, zcInt, seV, Value.cells, Program.keyLits, Tryz.underlying9, Tryz.underlying3, h1, h2, h3, seL]
theorem seV_inj {x y : Se} (h : seV x = seV y) : x = y := by
 obtain ⟨a, b, c⟩ := x
 obtain ⟨d, e, f⟩ := y
 simp [seV] at h
 obtain ⟨rfl, rfl, rfl⟩ := h
 rfl
theorem seL_inj {x y : Se} (hx : seG x) (hy : seG y) (h : seL x = seL y) : x = y := seV_inj (seKeyed.inj (seKey hx) (h ▸ seKey hy))
theorem isKey_se (x : Se) : WideAt.IsKeyLit (seL x) := trivial
end Go.Proofs.YtoabnpdoicbpiaaGreat
namespace Go.Proofs.YtoabnpdoicbpiaaGreat
set_option linter.unusedVariables false
set_option linter.unusedSimpArgs false
open Go.RowKit Go.Shelf Go.Maps Go.Proofs.YtoabnpdoicbpiaaGreat.Nm
def senS (r : Rn) : Se := (foldB r.o, r.t, foldD r.t r.d)
set_option maxRecDepth 100000 in
set_option maxHeartbeats 1000000 in
theorem senseOf_any (r : Rn) (w : World) (ho : r.o.size ≤ maxLen) (hd : r.d.size ≤ maxLen) :
  Calls Tryz.prog 38 #[.agg #[.string r.o, .int .i64 r.t, .int .i64 r.c, .int .i64 r.l, .string r.d]] w fun e w' => e = .returned (seV (senS r)) ∧ Below w.heap.size w w' := by
 obtain ⟨o, t, c, l, d⟩ := r
 unfold seV senS
 simp only at ho hd ⊢
 have H1 := hide' (fun W => fold_any o W ho)
 have H2 := hide' (fun W => dataFold_any t d W (by unfold maxLen at hd; omega))
 obtain ⟨F, hF⟩ : ∃ F, foldB o = F := ⟨_, rfl⟩
 obtain ⟨G, hG⟩ : ∃ G, foldD t d = G := ⟨_, rfl⟩
 rw [hF] at H1 ⊢
 rw [hG] at H2 ⊢
 clear hF hG
 go_enter Tryz.func38, Tryz.ntmps38
 go_wp2_with fail
 obtain ⟨wa, hwa⟩ : ∃ wa, ((w.alloc (.cells #[.string o, .int .i64 t, .int .i64 c, .int .i64 l, .string d] 29)).alloc (.cells #[.string ⟨#[]⟩, .int .i64 0, .string ⟨#[]⟩] 83)) = wa := ⟨_, rfl⟩
 have HR : Hid (Bx wa w.heap.size #[.string o, .int .i64 t, .int .i64 c, .int .i64 l, .string d] 29) := by
  unfold Hid; rw [← hwa]; exact Bx.below (World.alloc_heap_new w _) ((Below.refl _ _).alloc (Nat.le_refl _) _) (by simp)
 have HS : Hid (Bx wa (w.heap.size + 1) #[.string ⟨#[]⟩, .int .i64 0, .string ⟨#[]⟩] 83) := by
  unfold Hid; rw [← hwa]; unfold Bx
  have := World.alloc_heap_new (w.alloc (.cells #[.string o, .int .i64 t, .int .i64 c, .int .i64 l, .string d] 29)) (.cells #[.string ⟨#[]⟩, .int .i64 0, .string ⟨#[]⟩] 83)
  simpa using this
 have HB0 : Hid (Below w.heap.size w wa) := by unfold Hid; rw [← hwa]; exact ((Below.refl _ w).alloc (Nat.le_refl _) _).alloc (by simp) _
 rw [hwa]
 clear hwa
 have hB := Below.refl wa.heap.size wa
 have c0 : wa.cell? ⟨w.heap.size, 0, none⟩ = some (.string o) := HR.out.cell rfl
 have c1 : wa.cell? ⟨w.heap.size, 1, none⟩ = some (.int .i64 t) := HR.out.cell rfl
 have c4 : wa.cell? ⟨w.heap.size, 4, none⟩ = some (.string d) := HR.out.cell rfl
 have HQ : Hid (∀ W, Below wa.heap.size wa W → W.cell? ⟨w.heap.size, 0, none⟩ = some (.string o) ∧ W.cell? ⟨w.heap.size, 1, none⟩ = some (.int .i64 t) ∧ W.cell? ⟨w.heap.size, 4, none⟩ = some (.string d)) := fun W hW =>
  ⟨(HR.out.below hW HR.out.lt).cell rfl, (HR.out.below hW HR.out.lt).cell rfl, (HR.out.below hW HR.out.lt).cell rfl⟩
 have HSb : Hid (∀ W, Below wa.heap.size wa W → Bx W (w.heap.size + 1) #[.string ⟨#[]⟩, .int .i64 0, .string ⟨#[]⟩] 83) := fun W hW => HS.out.below hW HS.out.lt
 go_region_held3 (fun V => V.cell? ⟨w.heap.size, 0, none⟩ = some (.string o) ∧ V.cell? ⟨w.heap.size, 1, none⟩ = some (.int .i64 t) ∧ V.cell? ⟨w.heap.size, 4, none⟩ = some (.string d)) (first | go_keep | (with_reducible exact HQ.out _ hB)) (first | (go_at_call 37; refine (H1.out _).mono ?_; rintro e w5 ⟨rfl, hB5⟩; have hB := below_any hB hB5 (by first | exact .inl rfl | exact .inr rfl) hB.size; obtain ⟨z0, z1, z2, y0, y1, y2⟩ := bx3 (HSb.out _ hB); clear hB5) | (go_at_call 69; refine (H2.out _).mono ?_; rintro e w6 ⟨rfl, hB5⟩; have hB := below_any hB hB5 (by first | exact .inl rfl | exact .inr rfl) hB.size; obtain ⟨z0, z1, z2, y0, y1, y2⟩ := bx3 (HSb.out _ hB); clear hB5))
 all_goals
  have hb3 := hide' (bx3_set (HSb.out _ hB) (.string F) (.int .i64 t) (.string G))
  have HBf : Hid (Below w.heap.size w (((w6.setCell ⟨w.heap.size + 1, 0, none⟩ (.string F)).setCell ⟨w.heap.size + 1, 1, none⟩ (.int .i64 t)).setCell ⟨w.heap.size + 1, 2, none⟩ (.string G))) :=
   (((bstep HB0.out hB HB0.out.size).setCell (by simp) _).setCell (by simp) _).setCell (by simp) _
  generalize (((w6.setCell ⟨w.heap.size + 1, 0, none⟩ (.string F)).setCell ⟨w.heap.size + 1, 1, none⟩ (.int .i64 t)).setCell ⟨w.heap.size + 1, 2, none⟩ (.string G)) = wz at hb3 HBf ⊢
  obtain ⟨r0, r1, r2, _, _, _⟩ := bx3 hb3.out
  clear z0 z1 z2 y0 y1 y2
  go_wp2_with fail
  refine bodyPost_ret (v := .agg #[.string F, .int .i64 t, .string G]) (by simp [results, go_sem, r0, r1, r2]) rfl ⟨rfl, HBf.out⟩
end Go.Proofs.YtoabnpdoicbpiaaGreat
namespace Go.Proofs.YtoabnpdoicbpiaaGreat
set_option linter.unusedVariables false
set_option linter.unusedSimpArgs false
open Go.RowKit Go.Maps
theorem plRow : (87 : TypeId) < Tryz.prog.types.size := of_decide_eq_true (by kernel_rfl)
theorem plWide : (match Tryz.prog.underlying 87 with | some (.array _ _) | some (.struct _) => true | _ => false) = true := by kernel_rfl
set_option maxRecDepth 100000 in
theorem plKeyed : Keyed Tryz.prog 87 := Keyed.of_law (deep_law_laid zlaid (m := 3) (by omega) plRow (by kernel_rfl) plWide)
theorem plType : Tryz.prog.keyType 87 = true := by kernel_rfl
theorem plCells : Tryz.prog.cellsOf 87 = 2 := by kernel_rfl
abbrev Pl := ByteArray × Int
def plV (x : Pl) : Value := .agg #[.string x.1, .int .i64 x.2]
def plL (x : Pl) : Lit := .string (keyBytes [.string x.1.data.toList, .int .i64 x.2])
def plG (x : Pl) : Prop := x.1.size ≤ maxLen ∧ (Lit.int .i64 x.2).wf = true
theorem plKey {x : Pl} (h : plG x) : keyOf Tryz.prog 87 (plV x) = some (plL x) := by
 obtain ⟨h1, h2⟩ := h
 obtain ⟨m, hm⟩ := ztypes
 unfold keyOf
 rw [Tryz.underlying87, hm]
 simp [plType, Value.formed, Tryz.underlying87, plCells, zcStr, zcInt, plV, Value.cells, Program.keyLits, Tryz.underlying9, Tryz.underlying3, h1, h2, plL]
theorem plV_inj {x y : Pl} (h : plV x = plV y) : x = y := by
 obtain ⟨a, b⟩ := x
 obtain ⟨d, e⟩ := y
 simp [plV] at h
 obtain ⟨rfl, rfl⟩ := h
 rfl
theorem plL_inj {x y : Pl} (hx : plG x) (hy : plG y) (h : plL x = plL y) : x = y := plV_inj (plKeyed.inj (plKey hx) (h ▸ plKey hy))
theorem stKeyed : Keyed Tryz.prog 9 := string_keyed Tryz.underlying9
def stL (x : ByteArray) : Lit := .string x.data.toList
def stG (x : ByteArray) : Prop := x.size ≤ maxLen
theorem stKey {x : ByteArray} (h : stG x) : keyOf Tryz.prog 9 (.string x) = some (stL x) := by
 unfold stG at h
 unfold keyOf mapKey
 rw [Tryz.underlying9]
 simp [h, stL]
theorem stL_inj {x y : ByteArray} (hx : stG x) (hy : stG y) (h : stL x = stL y) : x = y := by
 have := stKeyed.inj (stKey hx) (h ▸ stKey hy)
 exact Value.string.inj this
def rwE (v : Value) : Option (DataW Unit × List MemPlace) := match v with
 | .agg cs => match cs.toList with
  | [.int .i64 a, .int .i64 b] => some (.agg [.lit (.int .i64 a), .lit (.int .i64 b)], [])
  | _ => none
 | _ => none
def rwV (x : Nat × Nat) : Value := .agg #[.int .i64 (x.1 : Int), .int .i64 (x.2 : Int)]
def rwD (x : Nat × Nat) : DataW Unit := .agg [.lit (.int .i64 (x.1 : Int)), .lit (.int .i64 (x.2 : Int))]
theorem rwE_mk (x : Nat × Nat) : rwE (rwV x) = some (rwD x, []) := rfl
theorem rwE_inv {v : Value} {x : Nat × Nat} {ps : List MemPlace} (h : rwE v = some (rwD x, ps)) : v = rwV x := by
 unfold rwE at h
 split at h
 ·rename_i cs
  split at h
  ·rename_i a b hc
   simp [rwD] at h
   obtain ⟨⟨rfl, rfl⟩, _⟩ := h
   obtain ⟨l⟩ := cs
   simp only at hc
   subst hc
   rfl
  ·cases h
 ·cases h
end Go.Proofs.YtoabnpdoicbpiaaGreat
namespace Go.Proofs.YtoabnpdoicbpiaaGreat
set_option linter.unusedVariables false
set_option linter.unusedSimpArgs false
open Go.RowKit Go.Shelf Go.Maps Go.Proofs.YtoabnpdoicbpiaaGreat.Nm
set_option maxRecDepth 100000 in
set_option maxHeartbeats 1000000 in
theorem placeOf_any (x : Se) (w : World) :
  Calls Tryz.prog 39 #[seV x] w fun r w' => r = .returned (plV (x.1, x.2.1)) ∧ Below w.heap.size w w' := by
 obtain ⟨o, t, d⟩ := x
 unfold seV plV
 go_enter Tryz.func39, Tryz.ntmps39
 go_wp2_with fail
 refine bodyPost_ret (v := .agg #[.string o, .int .i64 t]) (by simp [results, go_sem]) rfl ⟨rfl, ?_⟩
 exact ((Below.refl _ w).alloc (Nat.le_refl _) _).alloc (by simp) _
set_option maxRecDepth 100000 in
set_option maxHeartbeats 1000000 in
theorem or2_any (a b : Int) (g : Nat) (w : World) (h0 : w.cell? ⟨g, 0, none⟩ = some (.int .i64 a)) (h1 : w.cell? ⟨g, 1, none⟩ = some (.int .i64 b)) :
  Calls Tryz.prog 105 #[.slice (some ⟨g, 0, none⟩) 2 2] w fun r w' => r = .returned (.int .i64 (if a ≠ 0 then a else b)) ∧ w' = w := by
 by_cases ha : a = 0
 ·by_cases hb : b = 0
  ·subst ha hb
   go_enter Tryz.func105, Tryz.ntmps105
   go_wp2
   refine wp_loop_rounds 3 ?_
   rw [rounds_succ]; go_wp2
   rw [rounds_succ]; go_wp2
   rw [rounds_succ]; go_wp2
   go_ret
   exact ⟨rfl, rfl⟩
  ·subst ha
   go_enter Tryz.func105, Tryz.ntmps105
   go_wp2
   refine wp_loop_rounds 2 ?_
   rw [rounds_succ]; go_wp2
   rw [rounds_succ]; go_wp2
   go_ret
   exact ⟨by simp, rfl⟩
 ·go_enter Tryz.func105, Tryz.ntmps105
  go_wp2
  refine wp_loop_rounds 1 ?_
  rw [rounds_succ]; go_wp2
  go_ret
  exact ⟨by simp [ha], rfl⟩
theorem two_new (w : World) (X Y : Obj) (a b : Value) (T : TypeId) : (((w.alloc X).alloc Y).alloc (.cells #[a, b] T)).drew.cell? ⟨w.heap.size + 1 + 1, 0, none⟩ = some a ∧ (((w.alloc X).alloc Y).alloc (.cells #[a, b] T)).drew.cell? ⟨w.heap.size + 1 + 1, 1, none⟩ = some b := by
 have h : Bx (((w.alloc X).alloc Y).alloc (.cells #[a, b] T)).drew (w.heap.size + 1 + 1) #[a, b] T := by
  have := World.alloc_heap_new ((w.alloc X).alloc Y) (.cells #[a, b] T)
  have e : ((w.alloc X).alloc Y).heap.size = w.heap.size + 1 + 1 := by simp
  rw [e] at this
  exact this
 exact ⟨h.cell rfl, h.cell rfl⟩
def cmpS (x y : Se) : Int := if x.1 ≠ y.1 then cmpB x.1 y.1 else if sgnI x.2.1 y.2.1 ≠ 0 then sgnI x.2.1 y.2.1 else Lib.compareBytes x.2.2.data.toList y.2.2.data.toList
set_option maxRecDepth 100000 in
set_option maxHeartbeats 1000000 in
theorem zcompare_any (x y : Se) (w : World) (hx : x.1.size ≤ maxLen) (hy : y.1.size ≤ maxLen) :
  Calls Tryz.prog 72 #[seV x, seV y] w fun e w' => e = .returned (.int .i64 (cmpS x y)) ∧ Below w.heap.size w w' := by
 obtain ⟨xo, xt, xd⟩ := x
 obtain ⟨yo, yt, yd⟩ := y
 unfold seV cmpS
 simp only at hx hy ⊢
 have HB0 : Hid (∀ X Y T, Below w.heap.size w ((w.alloc (.cells X T)).alloc (.cells Y T))) := fun X Y T => ((Below.refl _ w).alloc (Nat.le_refl _) _).alloc (by simp) _
 by_cases ho : xo = yo
 ·subst ho
  rw [if_neg (by simp)]
  have H1 := hide' (fun W => cmpCompare_any xt yt W)
  have H2 := hide' (fun W => stringsCompare_any xd yd W)
  obtain ⟨A, hA⟩ : ∃ A, sgnI xt yt = A := ⟨_, rfl⟩
  obtain ⟨B, hB⟩ : ∃ B, Lib.compareBytes xd.data.toList yd.data.toList = B := ⟨_, rfl⟩
  rw [hA] at H1 ⊢
  rw [hB] at H2 ⊢
  clear hA hB
  have H3 := hide' (or2_any A B)
  obtain ⟨C, hC⟩ : ∃ C, (if A ≠ 0 then A else B) = C := ⟨_, rfl⟩
  rw [hC] at H3 ⊢
  clear hC
  go_enter Tryz.func72, Tryz.ntmps72
  go_wp2_with fail
  go_region_held3 (fun V => V.cell? ⟨w.heap.size, 1, none⟩ = some (.int .i64 xt) ∧ V.cell? ⟨w.heap.size, 2, none⟩ = some (.string xd) ∧ V.cell? ⟨w.heap.size + 1, 1, none⟩ = some (.int .i64 yt) ∧ V.cell? ⟨w.heap.size + 1, 2, none⟩ = some (.string yd)) (first | go_keep) (first | (go_at_call 106; refine (H1.out _).mono ?_; rintro e w5 ⟨rfl, rfl⟩) | (go_at_call 107; refine (H2.out _).mono ?_; rintro e w6 ⟨rfl, rfl⟩) | (go_at_call 105; refine (H3.out _ _ (two_new _ _ _ _ _ _).1 (two_new _ _ _ _ _ _).2).mono ?_; rintro e w7 ⟨rfl, rfl⟩))
  all_goals
   go_wp2_with fail
   go_ret
   exact ⟨rfl, ((HB0.out _ _ _).alloc (by simp; omega) _).drew⟩
 ·have hoe : (xo.toList == yo.toList) = false := by rw [toList_bt]; exact decide_eq_false ho
  rw [if_pos ho]
  have H1 := hide' (fun W => compare_any xo yo W hx hy)
  go_enter Tryz.func72, Tryz.ntmps72
  go_wp2_with (go_at_call 104; refine (H1.out _).mono ?_; rintro e w5 ⟨rfl, hB5⟩)
  go_ret
  exact ⟨rfl, bstep (HB0.out _ _ _) hB5 (HB0.out _ _ _).size⟩
def SsAt (w : World) (p : Option Addr) (l : List Se) : Prop := ∀ k, (hk : k < l.length) → ∃ g off, p = some ⟨g, off, none⟩ ∧ g < w.heap.size ∧ w.cell? ⟨g, off + k * 3, none⟩ = some (.string l[k].1) ∧ w.cell? ⟨g, off + k * 3 + 1, none⟩ = some (.int .i64 l[k].2.1) ∧ w.cell? ⟨g, off + k * 3 + 2, none⟩ = some (.string l[k].2.2)
set_option maxRecDepth 100000 in
set_option maxHeartbeats 1000000 in
theorem lay1_any (S : List Se) (p : Option Addr) (cap P D x y : Nat) (w : World) (hx : x < S.length) (hy : y < S.length) (hl : S.length ≤ 1048576) (hS : ∀ s ∈ S, s.1.size ≤ maxLen) (hPl : P < w.heap.size) (hDl : D < w.heap.size) (hP : w.cell? ⟨P, 0, none⟩ = some (.pointer (some ⟨D, 0, none⟩))) (hD : w.cell? ⟨D, 3, none⟩ = some (.slice p S.length cap)) (hat : SsAt w p S) :
  Calls Tryz.prog 71 #[.int .i64 (x : Int), .int .i64 (y : Int), .pointer (some ⟨P, 0, none⟩)] w fun e w' => e = .returned (.int .i64 (cmpS S[x] S[y])) ∧ Below w.heap.size w w' := by
 obtain ⟨g, off, rfl, hg, x0, x1, x2⟩ := hat x hx
 obtain ⟨g', off', hp', _, y0, y1, y2⟩ := hat y hy
 injection hp' with hp'
 injection hp' with e1 e2
 subst e1 e2
 have HC := hide' (fun W => zcompare_any S[x] S[y] W (hS _ (List.getElem_mem hx)) (hS _ (List.getElem_mem hy)))
 obtain ⟨X, hX⟩ : ∃ X, S[x] = X := ⟨_, rfl⟩
 obtain ⟨Y, hY⟩ : ∃ Y, S[y] = Y := ⟨_, rfl⟩
 rw [hX] at x0 x1 x2
 rw [hY] at y0 y1 y2
 rw [hX, hY] at HC ⊢
 clear hX hY hat hS
 obtain ⟨xo, xt, xd⟩ := X
 obtain ⟨yo, yt, yd⟩ := Y
 simp only [seV] at x0 x1 x2 y0 y1 y2 HC
 obtain ⟨c, hc⟩ : ∃ c, cmpS (xo, xt, xd) (yo, yt, yd) = c := ⟨_, rfl⟩
 rw [hc] at HC ⊢
 clear hc
 have p1 : (0 : Int) ≤ (x : Int) := by omega
 have p2 : (x : Int) < (S.length : Int) := by omega
 have p3 : (0 : Int) ≤ (y : Int) := by omega
 have p4 : (y : Int) < (S.length : Int) := by omega
 have HQ : Hid (∀ V, Below w.heap.size w V → V.cell? ⟨P, 0, none⟩ = some (.pointer (some ⟨D, 0, none⟩)) ∧ V.cell? ⟨D, 3, none⟩ = some (.slice (some ⟨g, off, none⟩) S.length cap) ∧ V.cell? ⟨g, off + x * 3, none⟩ = some (.string xo) ∧ V.cell? ⟨g, off + x * 3 + 1, none⟩ = some (.int .i64 xt) ∧ V.cell? ⟨g, off + x * 3 + 2, none⟩ = some (.string xd) ∧ V.cell? ⟨g, off + y * 3, none⟩ = some (.string yo) ∧ V.cell? ⟨g, off + y * 3 + 1, none⟩ = some (.int .i64 yt) ∧ V.cell? ⟨g, off + y * 3 + 2, none⟩ = some (.string yd)) := fun V hV => by
  refine ⟨?_, ?_, ?_, ?_, ?_, ?_, ?_, ?_⟩
  ·rw [hV.cell (p := ⟨P, 0, none⟩) hPl]; exact hP
  ·rw [hV.cell (p := ⟨D, 3, none⟩) hDl]; exact hD
  ·rw [hV.cell (p := ⟨g, off + x * 3, none⟩) hg]; exact x0
  ·rw [hV.cell (p := ⟨g, off + x * 3 + 1, none⟩) hg]; exact x1
  ·rw [hV.cell (p := ⟨g, off + x * 3 + 2, none⟩) hg]; exact x2
  ·rw [hV.cell (p := ⟨g, off + y * 3, none⟩) hg]; exact y0
  ·rw [hV.cell (p := ⟨g, off + y * 3 + 1, none⟩) hg]; exact y1
  ·rw [hV.cell (p := ⟨g, off + y * 3 + 2, none⟩) hg]; exact y2
 have hB := Below.refl w.heap.size w
 go_enter Tryz.func71, Tryz.ntmps71
 go_wp2_with fail
 go_region_held3 (fun V => V.cell? ⟨P, 0, none⟩ = some (.pointer (some ⟨D, 0, none⟩)) ∧ V.cell? ⟨D, 3, none⟩ = some (.slice (some ⟨g, off, none⟩) S.length cap) ∧ V.cell? ⟨g, off + x * 3, none⟩ = some (.string xo) ∧ V.cell? ⟨g, off + x * 3 + 1, none⟩ = some (.int .i64 xt) ∧ V.cell? ⟨g, off + x * 3 + 2, none⟩ = some (.string xd) ∧ V.cell? ⟨g, off + y * 3, none⟩ = some (.string yo) ∧ V.cell? ⟨g, off + y * 3 + 1, none⟩ = some (.int .i64 yt) ∧ V.cell? ⟨g, off + y * 3 + 2, none⟩ = some (.string yd)) (first | go_keep | (with_reducible exact HQ.out _ hB)) ((go_at_call 72; refine (HC.out _).mono ?_; rintro e w5 ⟨rfl, hB5⟩; have hB := below_any hB hB5 (by first | exact .inl rfl | exact .inr rfl) hB.size; clear hB5))
 all_goals
  go_wp2_with fail
  go_ret
  exact ⟨rfl, hB⟩
end Go.Proofs.YtoabnpdoicbpiaaGreat
namespace Go.Proofs.YtoabnpdoicbpiaaGreat
set_option linter.unusedVariables false
set_option linter.unusedSimpArgs false
open Go.RowKit Go.Shelf Go.Maps Go.Proofs.YtoabnpdoicbpiaaGreat.Nm
abbrev MRow (w : World) (b n : Nat) (f : Pl → Option (Nat × Nat)) : Prop := Mf 87 rwE plL plG rwD w b n f
theorem rwZero (w : World) : (zeroValue 128).run Tryz.prog w = .ok (rwV (0, 0)) w := by
 have hz : Tryz.t128.zero = some (rwV (0, 0)) := by kernel_rfl
 simp [zeroValue, hz]
theorem isKey_pl (x : Pl) : WideAt.IsKeyLit (plL x) := trivial
theorem MRow.look {w : World} {b n : Nat} {f : Pl → Option (Nat × Nat)} (h : MRow w b n f) {x : Pl} (hx : plG x) :
  (Instr.lookup 58 (.map (some b)) (plV x) true).run Tryz.prog w = .ok (.tuple #[rwV ((f x).getD (0, 0)), .bool (f x).isSome]) w := by
 obtain ⟨D, hown, hf⟩ := h
 obtain ⟨h1, h2⟩ := hf x hx
 obtain ⟨v, ps, hrun, hv⟩ := hown.look_ok plKeyed Tryz.underlying58 (rwZero w) (rwE_mk (0, 0)) (plKey hx)
 rw [hrun, h1]
 have : v = rwV ((f x).getD (0, 0)) := by
  cases hfx : f x with
  | none =>
   rw [hfx] at h1
   rw [atKey_of_not_has h1] at hv
   exact rwE_inv hv
  | some y =>
   rw [h2 y hfx] at hv
   exact rwE_inv hv
 rw [this]
theorem MRow.store {w : World} {b n : Nat} {f f' : Pl → Option (Nat × Nat)} (h : MRow w b n f) {x : Pl} (hx : plG x) (y : Nat × Nat) (hn : n < maxLen) (h1 : f' x = some y) (h2 : ∀ z, plG z → z ≠ x → f' z = f z) :
  ∃ w', (Instr.mapUpdate 58 (.map (some b)) (plV x) (rwV y)).run Tryz.prog w = .ok () w' ∧ MRow w' b (n + 1) f' ∧ w.grownBy w' (some b) := by
 obtain ⟨D, hown, hf⟩ := h
 obtain ⟨w', hrun, hown', hg⟩ := hown.update plKeyed Tryz.underlying58 hn (plKey hx) (rwE_mk y)
 exact ⟨w', hrun, mf_put plKeyed hown.isMap hf (fun x _ => isKey_pl x) (fun x y hx hy => plL_inj hx hy) hx hown' h1 h2, hg⟩
def grw (y : Option (Nat × Nat)) (at' : Nat) : Nat × Nat := (match y with | none => at' | some z => z.1, at' + 1)
set_option maxRecDepth 100000 in
set_option maxHeartbeats 1000000 in
theorem extend_any (Z R N : Nat) (apex : ByteArray) (rv : Value) (x : Pl) (k n : Nat) (f f' : Pl → Option (Nat × Nat)) (w : World) (hZ : Bx w Z #[.string apex, rv, .map (some R), .map (some N)] 61) (hR : MRow w R n f) (hx : plG x) (hn : n < maxLen) (hk : k ≤ 1048576) (h1 : f' x = some (grw (f x) k)) (h2 : ∀ z, plG z → z ≠ x → f' z = f z) :
  Calls Tryz.prog 73 #[.pointer (some ⟨Z, 0, none⟩), plV x, .int .i64 (k : Int)] w fun r w' => r = .returned (.tuple #[]) ∧ MRow w' R (n + 1) f' ∧ w.grownBy w' (some R) := by
 have hZR : Z ≠ R := fun e => by
  subst e
  obtain ⟨D, ⟨es, clock, hb, _⟩, _⟩ := hR
  unfold Bx at hZ
  rw [hZ] at hb
  cases hb
 obtain ⟨o, t⟩ := x
 obtain ⟨wa, hwa⟩ : ∃ wa, w.alloc (.cells #[.string o, .int .i64 t] 87) = wa := ⟨_, rfl⟩
 have HBa : Hid (Below w.heap.size w wa) := hwa ▸ (Below.refl _ w).alloc (Nat.le_refl _) _
 have HP : Hid (Bx wa w.heap.size #[.string o, .int .i64 t] 87) := hwa ▸ World.alloc_heap_new w _
 have hZa := hZ.below HBa.out hZ.lt
 have z2 : wa.cell? ⟨Z, 2, none⟩ = some (.map (some R)) := hZa.cell rfl
 have q0 : wa.cell? ⟨w.heap.size, 0, none⟩ = some (.string o) := HP.out.cell rfl
 have q1 : wa.cell? ⟨w.heap.size, 1, none⟩ = some (.int .i64 t) := HP.out.cell rfl
 have hRa : MRow wa R n f := hR.grown (grown_below HBa.out none) (by simp)
 have HRW : Hid (∀ W, wa.grownBy W none → MRow W R n f) := fun W hW => hRa.grown hW (by simp)
 have hl1 := (HRW.out wa.drew (grown_drewN _ 1 _)).look hx
 have hl2 := fun o' => (HRW.out (wa.alloc o').drew (grown_trans (World.grownBy_alloc _ _ _) (grown_drewN _ 1 _))).look hx
 unfold plV rwV at hl1 hl2
 unfold plV
 obtain ⟨y, hy⟩ : ∃ y, f (o, t) = y := ⟨_, rfl⟩
 rw [hy] at hl1 hl2 h1
 simp only at hl1 hl2
 go_enter Tryz.func73, Tryz.ntmps73
 have e1 : ((k + 1 : Nat) : Int) = (k : Int) + 1 := by omega
 have hk1 : IntKind.i64.wrap ((k : Int) + 1) = (k : Int) + 1 := by rw [IntKind.wrap_i64]; omega
 have hRl := hR.lt
 have hwl := HBa.out.size
 have hwl2 : w.heap.size < wa.heap.size := HP.out.lt
 cases y with
 | none =>
  simp only [Option.getD_none, Option.isSome_none] at hl1 hl2
  have hb5 : Bx (wa.alloc (.cells #[.int .i64 (k : Int), .int .i64 ((k : Int) + 1)] 128)).drew.drew wa.heap.size #[.int .i64 (k : Int), .int .i64 ((k : Int) + 1)] 128 := World.alloc_heap_new wa _
  have hg5 : wa.grownBy (wa.alloc (.cells #[.int .i64 (k : Int), .int .i64 ((k : Int) + 1)] 128)).drew.drew none := grown_trans (World.grownBy_alloc _ _ _) (grown_drewN _ 2 _)
  obtain ⟨w6, hrun, hM, hg⟩ := (HRW.out _ hg5).store hx (k, k + 1) hn h1 h2
  have HM := hide' hM
  have HG : Hid (w.grownBy w6 (some R)) := grown_trans (grown_below HBa.out _) (grown_trans (World.grownBy_alloc _ _ _) (grown_trans (grown_drewN _ 2 _) hg))
  have HS6 : Hid (w6.cell? ⟨Z, 2, none⟩ = some (.map (some R)) ∧ w6.cell? ⟨w.heap.size, 0, none⟩ = some (.string o) ∧ w6.cell? ⟨w.heap.size, 1, none⟩ = some (.int .i64 t) ∧ w6.cell? ⟨wa.heap.size, 0, none⟩ = some (.int .i64 (k : Int)) ∧ w6.cell? ⟨wa.heap.size, 1, none⟩ = some (.int .i64 ((k : Int) + 1))) := by
   have a1 := (hZa.grown hg5 (by simp)).grown hg (by simp; omega)
   have a2 := (HP.out.grown hg5 (by simp)).grown hg (by simp; omega)
   have a3 := hb5.grown hg (by simp; omega)
   exact ⟨a1.cell rfl, a2.cell rfl, a2.cell rfl, a3.cell rfl, a3.cell rfl⟩
  unfold rwV plV at hrun
  simp only at hrun
  rw [e1] at hrun
  clear hM hg h1 h2 hRa hR hZ hZa hx e1 hb5 hg5
  go_wp2_with fail
  go_region_held3 (fun V => V.cell? ⟨Z, 2, none⟩ = some (.map (some R)) ∧ V.cell? ⟨w.heap.size, 0, none⟩ = some (.string o) ∧ V.cell? ⟨w.heap.size, 1, none⟩ = some (.int .i64 t)) (first | go_keep) (fail)
  all_goals
   go_wp2_with fail
   go_region_held3 (fun V => V.cell? ⟨Z, 2, none⟩ = some (.map (some R)) ∧ V.cell? ⟨w.heap.size, 0, none⟩ = some (.string o) ∧ V.cell? ⟨w.heap.size, 1, none⟩ = some (.int .i64 t) ∧ V.cell? ⟨wa.heap.size, 0, none⟩ = some (.int .i64 (k : Int)) ∧ V.cell? ⟨wa.heap.size, 1, none⟩ = some (.int .i64 ((k : Int) + 1))) (first | go_keep | (with_reducible exact HS6.out)) (fail)
  all_goals
   go_end0
   exact ⟨rfl, HM.out, HG.out⟩
 | some y =>
  simp only [Option.getD_some, Option.isSome_some] at hl1 hl2
  have hb5 : Bx (wa.alloc (.cells #[.int .i64 (y.1 : Int), .int .i64 ((k : Int) + 1)] 128)).drew.drew wa.heap.size #[.int .i64 (y.1 : Int), .int .i64 ((k : Int) + 1)] 128 := World.alloc_heap_new wa _
  have hg5 : wa.grownBy (wa.alloc (.cells #[.int .i64 (y.1 : Int), .int .i64 ((k : Int) + 1)] 128)).drew.drew none := grown_trans (World.grownBy_alloc _ _ _) (grown_drewN _ 2 _)
  obtain ⟨w6, hrun, hM, hg⟩ := (HRW.out _ hg5).store hx (y.1, k + 1) hn h1 h2
  have HM := hide' hM
  have HG : Hid (w.grownBy w6 (some R)) := grown_trans (grown_below HBa.out _) (grown_trans (World.grownBy_alloc _ _ _) (grown_trans (grown_drewN _ 2 _) hg))
  have HS6 : Hid (w6.cell? ⟨Z, 2, none⟩ = some (.map (some R)) ∧ w6.cell? ⟨w.heap.size, 0, none⟩ = some (.string o) ∧ w6.cell? ⟨w.heap.size, 1, none⟩ = some (.int .i64 t) ∧ w6.cell? ⟨wa.heap.size, 0, none⟩ = some (.int .i64 (y.1 : Int)) ∧ w6.cell? ⟨wa.heap.size, 1, none⟩ = some (.int .i64 ((k : Int) + 1))) := by
   have a1 := (hZa.grown hg5 (by simp)).grown hg (by simp; omega)
   have a2 := (HP.out.grown hg5 (by simp)).grown hg (by simp; omega)
   have a3 := hb5.grown hg (by simp; omega)
   exact ⟨a1.cell rfl, a2.cell rfl, a2.cell rfl, a3.cell rfl, a3.cell rfl⟩
  unfold rwV plV at hrun
  simp only at hrun
  rw [e1] at hrun
  clear hM hg h1 h2 hRa hR hZ hZa hx e1 hb5 hg5
  go_wp2_with fail
  go_region_held3 (fun V => V.cell? ⟨Z, 2, none⟩ = some (.map (some R)) ∧ V.cell? ⟨w.heap.size, 0, none⟩ = some (.string o) ∧ V.cell? ⟨w.heap.size, 1, none⟩ = some (.int .i64 t)) (first | go_keep) (fail)
  all_goals
   go_wp2_with fail
   go_region_held3 (fun V => V.cell? ⟨Z, 2, none⟩ = some (.map (some R)) ∧ V.cell? ⟨w.heap.size, 0, none⟩ = some (.string o) ∧ V.cell? ⟨w.heap.size, 1, none⟩ = some (.int .i64 t) ∧ V.cell? ⟨wa.heap.size, 0, none⟩ = some (.int .i64 (y.1 : Int)) ∧ V.cell? ⟨wa.heap.size, 1, none⟩ = some (.int .i64 ((k : Int) + 1))) (first | go_keep | (with_reducible exact HS6.out)) (fail)
  all_goals
   go_end0
   exact ⟨rfl, HM.out, HG.out⟩
end Go.Proofs.YtoabnpdoicbpiaaGreat
namespace Go.Proofs.YtoabnpdoicbpiaaGreat
set_option linter.unusedVariables false
set_option linter.unusedSimpArgs false
open Go.RowKit Go.Shelf Go.Maps Go.Proofs.YtoabnpdoicbpiaaGreat.Nm
theorem inZero (w : World) : (zeroValue 3).run Tryz.prog w = .ok (.int .i64 0) w := by
 have hz : Tryz.t3.zero = some (.int .i64 0) := by kernel_rfl
 simp [zeroValue, hz]
theorem isKey_st (x : ByteArray) : WideAt.IsKeyLit (stL x) := trivial
theorem nu_mk (x : Nat) (hx : x ≤ 4611686018427387904) : plainElem (H := Unit) Tryz.prog 3 (.int .i64 (x : Int)) = some (nuD x, []) := plainElem_int Tryz.underlying3 (WalkArith.wf_i64 (by omega))
theorem nu_inv {v : Value} {x : Nat} {ps : List MemPlace} (h : plainElem (H := Unit) Tryz.prog 3 v = some (nuD x, ps)) : v = .int .i64 (x : Int) := by
 obtain ⟨a, rfl, h2, _⟩ := plainElem_int_inv Tryz.underlying3 h
 have h3 := congrArg Prod.fst h2
 unfold nuD at h3
 simp only [DataW.lit.injEq, Lit.int.injEq, true_and] at h3
 rw [h3]
theorem MRow.look1 {w : World} {b n : Nat} {f : Pl → Option (Nat × Nat)} (h : MRow w b n f) {x : Pl} (hx : plG x) :
  (Instr.lookup 58 (.map (some b)) (plV x) false).run Tryz.prog w = .ok (rwV ((f x).getD (0, 0))) w := by
 obtain ⟨D, hown, hf⟩ := h
 obtain ⟨h1, h2⟩ := hf x hx
 obtain ⟨v, ps, hrun, hv⟩ := hown.lookup plKeyed Tryz.underlying58 (rwZero w) (rwE_mk (0, 0)) (plKey hx)
 rw [hrun]
 have : v = rwV ((f x).getD (0, 0)) := by
  cases hfx : f x with
  | none =>
   rw [hfx] at h1
   rw [atKey_of_not_has h1] at hv
   exact rwE_inv hv
  | some y =>
   rw [h2 y hfx] at hv
   exact rwE_inv hv
 rw [this]
abbrev MLk (w : World) (b n : Nat) (f : Se → Option Nat) : Prop := Mf 83 (plainElem (H := Unit) Tryz.prog 3) seL seG nuD w b n f
theorem MLk.look {w : World} {b n : Nat} {f : Se → Option Nat} (h : MLk w b n f) {x : Se} (hx : seG x) :
  (Instr.lookup 48 (.map (some b)) (seV x) true).run Tryz.prog w = .ok (.tuple #[.int .i64 (((f x).getD 0 : Nat) : Int), .bool (f x).isSome]) w := by
 obtain ⟨D, hown, hf⟩ := h
 obtain ⟨h1, h2⟩ := hf x hx
 obtain ⟨v, ps, hrun, hv⟩ := hown.look_ok seKeyed Tryz.underlying48 (inZero w) (nu_mk 0 (by omega)) (seKey hx)
 rw [hrun, h1]
 have : v = .int .i64 (((f x).getD 0 : Nat) : Int) := by
  cases hfx : f x with
  | none =>
   rw [hfx] at h1
   rw [atKey_of_not_has h1] at hv
   exact nu_inv hv
  | some y =>
   rw [h2 y hfx] at hv
   exact nu_inv hv
 rw [this]
theorem MLk.look1 {w : World} {b n : Nat} {f : Se → Option Nat} (h : MLk w b n f) {x : Se} (hx : seG x) :
  (Instr.lookup 48 (.map (some b)) (seV x) false).run Tryz.prog w = .ok (.int .i64 (((f x).getD 0 : Nat) : Int)) w := by
 obtain ⟨D, hown, hf⟩ := h
 obtain ⟨h1, h2⟩ := hf x hx
 obtain ⟨v, ps, hrun, hv⟩ := hown.lookup seKeyed Tryz.underlying48 (inZero w) (nu_mk 0 (by omega)) (seKey hx)
 rw [hrun]
 have : v = .int .i64 (((f x).getD 0 : Nat) : Int) := by
  cases hfx : f x with
  | none =>
   rw [hfx] at h1
   rw [atKey_of_not_has h1] at hv
   exact nu_inv hv
  | some y =>
   rw [h2 y hfx] at hv
   exact nu_inv hv
 rw [this]
theorem MLk.store {w : World} {b n : Nat} {f f' : Se → Option Nat} (h : MLk w b n f) {x : Se} (hx : seG x) (y : Nat) (hy : y ≤ 4611686018427387904) (hn : n < maxLen) (h1 : f' x = some y) (h2 : ∀ z, seG z → z ≠ x → f' z = f z) :
  ∃ w', (Instr.mapUpdate 48 (.map (some b)) (seV x) (.int .i64 (y : Int))).run Tryz.prog w = .ok () w' ∧ MLk w' b (n + 1) f' ∧ w.grownBy w' (some b) := by
 obtain ⟨D, hown, hf⟩ := h
 obtain ⟨w', hrun, hown', hg⟩ := hown.update seKeyed Tryz.underlying48 hn (seKey hx) (nu_mk y hy)
 exact ⟨w', hrun, mf_put seKeyed hown.isMap hf (fun x _ => isKey_se x) (fun x y hx hy => seL_inj hx hy) hx hown' h1 h2, hg⟩
abbrev MFi (w : World) (b n : Nat) (f : Pl → Option Nat) : Prop := Mf 87 (plainElem (H := Unit) Tryz.prog 3) plL plG nuD w b n f
theorem MFi.look {w : World} {b n : Nat} {f : Pl → Option Nat} (h : MFi w b n f) {x : Pl} (hx : plG x) :
  (Instr.lookup 49 (.map (some b)) (plV x) true).run Tryz.prog w = .ok (.tuple #[.int .i64 (((f x).getD 0 : Nat) : Int), .bool (f x).isSome]) w := by
 obtain ⟨D, hown, hf⟩ := h
 obtain ⟨h1, h2⟩ := hf x hx
 obtain ⟨v, ps, hrun, hv⟩ := hown.look_ok plKeyed Tryz.underlying49 (inZero w) (nu_mk 0 (by omega)) (plKey hx)
 rw [hrun, h1]
 have : v = .int .i64 (((f x).getD 0 : Nat) : Int) := by
  cases hfx : f x with
  | none =>
   rw [hfx] at h1
   rw [atKey_of_not_has h1] at hv
   exact nu_inv hv
  | some y =>
   rw [h2 y hfx] at hv
   exact nu_inv hv
 rw [this]
theorem MFi.look1 {w : World} {b n : Nat} {f : Pl → Option Nat} (h : MFi w b n f) {x : Pl} (hx : plG x) :
  (Instr.lookup 49 (.map (some b)) (plV x) false).run Tryz.prog w = .ok (.int .i64 (((f x).getD 0 : Nat) : Int)) w := by
 obtain ⟨D, hown, hf⟩ := h
 obtain ⟨h1, h2⟩ := hf x hx
 obtain ⟨v, ps, hrun, hv⟩ := hown.lookup plKeyed Tryz.underlying49 (inZero w) (nu_mk 0 (by omega)) (plKey hx)
 rw [hrun]
 have : v = .int .i64 (((f x).getD 0 : Nat) : Int) := by
  cases hfx : f x with
  | none =>
   rw [hfx] at h1
   rw [atKey_of_not_has h1] at hv
   exact nu_inv hv
  | some y =>
   rw [h2 y hfx] at hv
   exact nu_inv hv
 rw [this]
theorem MFi.store {w : World} {b n : Nat} {f f' : Pl → Option Nat} (h : MFi w b n f) {x : Pl} (hx : plG x) (y : Nat) (hy : y ≤ 4611686018427387904) (hn : n < maxLen) (h1 : f' x = some y) (h2 : ∀ z, plG z → z ≠ x → f' z = f z) :
  ∃ w', (Instr.mapUpdate 49 (.map (some b)) (plV x) (.int .i64 (y : Int))).run Tryz.prog w = .ok () w' ∧ MFi w' b (n + 1) f' ∧ w.grownBy w' (some b) := by
 obtain ⟨D, hown, hf⟩ := h
 obtain ⟨w', hrun, hown', hg⟩ := hown.update plKeyed Tryz.underlying49 hn (plKey hx) (nu_mk y hy)
 exact ⟨w', hrun, mf_put plKeyed hown.isMap hf (fun x _ => isKey_pl x) (fun x y hx hy => plL_inj hx hy) hx hown' h1 h2, hg⟩
abbrev MNm (w : World) (b n : Nat) (f : ByteArray → Option Nat) : Prop := Mf 9 (plainElem (H := Unit) Tryz.prog 3) stL stG nuD w b n f
theorem MNm.look {w : World} {b n : Nat} {f : ByteArray → Option Nat} (h : MNm w b n f) {x : ByteArray} (hx : stG x) :
  (Instr.lookup 59 (.map (some b)) (.string x) true).run Tryz.prog w = .ok (.tuple #[.int .i64 (((f x).getD 0 : Nat) : Int), .bool (f x).isSome]) w := by
 obtain ⟨D, hown, hf⟩ := h
 obtain ⟨h1, h2⟩ := hf x hx
 obtain ⟨v, ps, hrun, hv⟩ := hown.look_ok stKeyed Tryz.underlying59 (inZero w) (nu_mk 0 (by omega)) (stKey hx)
 rw [hrun, h1]
 have : v = .int .i64 (((f x).getD 0 : Nat) : Int) := by
  cases hfx : f x with
  | none =>
   rw [hfx] at h1
   rw [atKey_of_not_has h1] at hv
   exact nu_inv hv
  | some y =>
   rw [h2 y hfx] at hv
   exact nu_inv hv
 rw [this]
theorem MNm.look1 {w : World} {b n : Nat} {f : ByteArray → Option Nat} (h : MNm w b n f) {x : ByteArray} (hx : stG x) :
  (Instr.lookup 59 (.map (some b)) (.string x) false).run Tryz.prog w = .ok (.int .i64 (((f x).getD 0 : Nat) : Int)) w := by
 obtain ⟨D, hown, hf⟩ := h
 obtain ⟨h1, h2⟩ := hf x hx
 obtain ⟨v, ps, hrun, hv⟩ := hown.lookup stKeyed Tryz.underlying59 (inZero w) (nu_mk 0 (by omega)) (stKey hx)
 rw [hrun]
 have : v = .int .i64 (((f x).getD 0 : Nat) : Int) := by
  cases hfx : f x with
  | none =>
   rw [hfx] at h1
   rw [atKey_of_not_has h1] at hv
   exact nu_inv hv
  | some y =>
   rw [h2 y hfx] at hv
   exact nu_inv hv
 rw [this]
theorem MNm.store {w : World} {b n : Nat} {f f' : ByteArray → Option Nat} (h : MNm w b n f) {x : ByteArray} (hx : stG x) (y : Nat) (hy : y ≤ 4611686018427387904) (hn : n < maxLen) (h1 : f' x = some y) (h2 : ∀ z, stG z → z ≠ x → f' z = f z) :
  ∃ w', (Instr.mapUpdate 59 (.map (some b)) (.string x) (.int .i64 (y : Int))).run Tryz.prog w = .ok () w' ∧ MNm w' b (n + 1) f' ∧ w.grownBy w' (some b) := by
 obtain ⟨D, hown, hf⟩ := h
 obtain ⟨w', hrun, hown', hg⟩ := hown.update stKeyed Tryz.underlying59 hn (stKey hx) (nu_mk y hy)
 exact ⟨w', hrun, mf_put stKeyed hown.isMap hf (fun x _ => isKey_st x) (fun x y hx hy => stL_inj hx hy) hx hown' h1 h2, hg⟩
theorem Mf.ne {κ β : Type} {k : TypeId} {R : Value → Option (DataW Unit × List MemPlace)} {kl : κ → Lit} {G : κ → Prop} {dv : β → DataW Unit} {w : World} {b n : Nat} {f : κ → Option β} (h : Mf k R kl G dv w b n f) {Z : Nat} {cs : Array Value} {T : TypeId} (hZ : Bx w Z cs T) : Z ≠ b := fun e => by
 subst e
 obtain ⟨D, ⟨es, clock, hb, _⟩, _⟩ := h
 unfold Bx at hZ
 rw [hZ] at hb
 cases hb
end Go.Proofs.YtoabnpdoicbpiaaGreat
