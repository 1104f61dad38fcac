import Derived.Test.YtelboefeomnjaaaGreatGr0G
import Derived.Test.YtelboefeomnjaaaGreatMf0G
import Derived.Lib.LazyBuf
import Derived.Deep.RegionHeld3
import Derived.Deep.RegionHeldLaw
import Derived.Deep.RegionLaw
import Derived.Deep.AppendLies
/-
  Chapter 15: who is one; the map of a limiter. (The verifier's own text.)
-/
namespace Go.Proofs.YtelboefeomnjaaaGreat
set_option linter.unusedVariables false
set_option linter.unusedSimpArgs false
open Go.RowKit Go.Shelf Go.Maps

theorem hidep {p : Prop} (h : p) : Hid p := h
/-- a byte of what tells one from another -/
def pb (x : ByteArray) (i : Nat) : Int := ((x.data.toList.getD i 0).toNat : Int)
/-- how many bytes the address has -/
def psz (x : ByteArray) : Int := if x.size = 3 then 4 else 16
theorem pb_wf (x : ByteArray) (i : Nat) : (Lit.int .u8 (pb x i)).wf = true := by
  unfold pb
  have := (x.data.toList.getD i 0).toNat_lt
  generalize (x.data.toList.getD i 0).toNat = n at *
  simp [Lit.wf, IntKind.min, IntKind.max, IntKind.bits, IntKind.signed]
  omega
theorem psz_wf (x : ByteArray) : (Lit.int .i64 (psz x)).wf = true := by
  unfold psz
  split <;> decide
/-- a party -/
def paV (x : ByteArray) : Value := .agg #[.int .i64 (psz x), .int .u8 (pb x 0), .int .u8 (pb x 1), .int .u8 (pb x 2), .int .u8 (pb x 3), .int .u8 (pb x 4), .int .u8 (pb x 5), .int .u8 (pb x 6)]
def paC (x : ByteArray) : List Value := [.int .i64 (psz x), .int .u8 (pb x 0), .int .u8 (pb x 1), .int .u8 (pb x 2), .int .u8 (pb x 3), .int .u8 (pb x 4), .int .u8 (pb x 5), .int .u8 (pb x 6)]
def paL (x : ByteArray) : Lit := .string (keyBytes [.int .i64 (psz x), .int .u8 (pb x 0), .int .u8 (pb x 1), .int .u8 (pb x 2), .int .u8 (pb x 3), .int .u8 (pb x 4), .int .u8 (pb x 5), .int .u8 (pb x 6)])
def paG (x : ByteArray) : Prop := x.size = 3 ∨ x.size = 7
theorem paRow : (72 : TypeId) < Tryz.prog.types.size := of_decide_eq_true (by kernel_rfl)
theorem paWide : (match Tryz.prog.underlying 72 with | some (.array _ _) | some (.struct _) => true | _ => false) = true := by kernel_rfl
set_option maxRecDepth 100000 in
theorem paKeyed : Keyed Tryz.prog 72 := Keyed.of_law (deep_law_laid zlaid (m := 4) (by omega) paRow (by kernel_rfl) paWide)
theorem paType : Tryz.prog.keyType 72 = true := by kernel_rfl
theorem paCells : Tryz.prog.cellsOf 72 = 8 := by kernel_rfl
theorem arCells : Tryz.prog.cellsOf 70 = 7 := by kernel_rfl
theorem byCells : Tryz.prog.cellsOf 5 = 1 := by kernel_rfl
theorem paKey (x : ByteArray) : keyOf Tryz.prog 72 (paV x) = some (paL x) := by
  have h0 := psz_wf x
  have h1 := pb_wf x 0
  have h2 := pb_wf x 1
  have h3 := pb_wf x 2
  have h4 := pb_wf x 3
  have h5 := pb_wf x 4
  have h6 := pb_wf x 5
  have h7 := pb_wf x 6
  obtain ⟨m, hm⟩ := ztypes
  obtain ⟨m, rfl⟩ : ∃ q, m = q + 1 := ⟨m - 1, by
    have : (2 : Nat) ≤ Tryz.prog.types.size := of_decide_eq_true (by kernel_rfl)
    omega⟩
  unfold keyOf
  rw [Tryz.underlying72, hm]
  simp [show List.range 7 = [0, 1, 2, 3, 4, 5, 6] from rfl, paType, Value.formed, Tryz.underlying72, Tryz.underlying70, paCells, arCells, byCells, zcInt, paV, Value.cells, Program.keyLits, Tryz.underlying5, Tryz.underlying3, h0, h1, h2, h3, h4, h5, h6, h7, paL]
theorem paV_inj {x y : ByteArray} (hx : paG x) (hy : paG y) (h : paV x = paV y) : x = y := by
  unfold paG at hx hy
  simp only [paV, Value.agg.injEq, Array.mk.injEq, List.cons.injEq, Value.int.injEq, true_and, and_true] at h
  obtain ⟨h0, h1, h2, h3, h4, h5, h6, h7⟩ := h
  have hs : x.size = y.size := by
    unfold psz at h0
    rcases hx with hx | hx <;> rcases hy with hy | hy <;> simp_all
  have hb : ∀ i : Nat, i < 7 → x.data.toList.getD i 0 = y.data.toList.getD i 0 := by
    intro i hi
    apply UInt8.toNat_inj.1
    have : pb x i = pb y i := by
      match i, hi with
      | 0, _ => exact h1
      | 1, _ => exact h2
      | 2, _ => exact h3
      | 3, _ => exact h4
      | 4, _ => exact h5
      | 5, _ => exact h6
      | 6, _ => exact h7
    unfold pb at this
    exact Int.ofNat_inj.1 this
  have hl : ∀ z : ByteArray, z.data.toList.length = z.size := fun z => rfl
  have : x.data.toList = y.data.toList := by
    apply List.ext_getElem
    · rw [hl, hl, hs]
    · intro i h1 h2
      have := hb i (by rw [hl] at h1; omega)
      rw [List.getD_eq_getElem?_getD, List.getD_eq_getElem?_getD, List.getElem?_eq_getElem h1, List.getElem?_eq_getElem h2] at this
      exact this
  obtain ⟨⟨l⟩⟩ := x
  obtain ⟨⟨k⟩⟩ := y
  simp only at this
  rw [this]
theorem paL_inj {x y : ByteArray} (hx : paG x) (hy : paG y) (h : paL x = paL y) : x = y := paV_inj hx hy (paKeyed.inj (paKey x) (h ▸ paKey y))
theorem isKey_pa (x : ByteArray) : WideAt.IsKeyLit (paL x) := trivial

/-- pointers to accounts, as data -/
def ptV (o : Option Nat) : Value := .pointer (o.map fun b => ⟨b, 0, none⟩)
def ptE (v : Value) : Option (DataW Unit × List MemPlace) := match v with
  | .pointer none => some (.lit (.int .i64 (-1)), [])
  | .pointer (some ⟨b, 0, none⟩) => some (.lit (.int .i64 (b : Int)), [])
  | _ => none
def ptD (b : Nat) : DataW Unit := .lit (.int .i64 (b : Int))
theorem ptE_mk (b : Nat) : ptE (ptV (some b)) = some (ptD b, []) := rfl
theorem ptE_inv {v : Value} {b : Nat} {ps : List MemPlace} (h : ptE v = some (ptD b, ps)) : v = ptV (some b) := by
  unfold ptE at h
  split at h
  · simp [ptD] at h
    try omega
  · simp [ptD] at h
    obtain ⟨h, _⟩ := h
    have h := Int.ofNat_inj.1 h
    subst h
    rfl
  · cases h
theorem ptE_inv0 {v : Value} {ps : List MemPlace} (h : ptE v = some (.lit (.int .i64 (-1)), ps)) : v = ptV none := by
  unfold ptE at h
  split at h
  · rfl
  · simp at h
    try omega
  · cases h
theorem ptZero (w : World) : (zeroValue 75).run Tryz.prog w = .ok (ptV none) w := by
  have hz : Tryz.t75.zero = some (ptV none) := by kernel_rfl
  simp [zeroValue, hz]
/-- the map of a limiter -/
abbrev MPa (w : World) (b n : Nat) (f : ByteArray → Option Nat) : Prop := Mf 72 ptE paL paG ptD w b n f
theorem MPa.look {w : World} {b n : Nat} {f : ByteArray → Option Nat} (h : MPa w b n f) {x : ByteArray} (hx : paG x) :
    (Instr.lookup 65 (.map (some b)) (paV x) true).run Tryz.prog w = .ok (.tuple #[ptV (f x), .bool (f x).isSome]) w := by
  obtain ⟨D, hown, hf⟩ := h
  obtain ⟨h1, h2⟩ := hf x hx
  obtain ⟨v, ps, hrun, hv⟩ := hown.look_ok paKeyed Tryz.underlying65 (ptZero w) (zd := .lit (.int .i64 (-1))) (zp := []) rfl (paKey x)
  rw [hrun, h1]
  have : v = ptV (f x) := by
    cases hfx : f x with
    | none =>
      rw [hfx] at h1
      rw [atKey_of_not_has h1] at hv
      exact ptE_inv0 hv
    | some y =>
      rw [h2 y hfx] at hv
      exact ptE_inv hv
  rw [this]
theorem MPa.store {w : World} {b n : Nat} {f f' : ByteArray → Option Nat} (h : MPa w b n f) {x : ByteArray} (hx : paG x) (y : Nat) (hn : n < maxLen) (h1 : f' x = some y) (h2 : ∀ z, paG z → z ≠ x → f' z = f z) :
    ∃ w', (Instr.mapUpdate 65 (.map (some b)) (paV x) (.pointer (some ⟨y, 0, none⟩))).run Tryz.prog w = .ok () w' ∧ MPa w' b (n + 1) f' ∧ w.grownBy w' (some b) := by
  obtain ⟨D, hown, hf⟩ := h
  obtain ⟨w', hrun, hown', hg⟩ := hown.update paKeyed Tryz.underlying65 hn (paKey x) (ptE_mk y)
  exact ⟨w', hrun, mf_put paKeyed hown.isMap hf (fun x _ => isKey_pa x) (fun x y hx hy => paL_inj hx hy) hx hown' h1 h2, hg⟩
theorem MPa.drop {w : World} {b n : Nat} {f f' : ByteArray → Option Nat} (h : MPa w b n f) {x : ByteArray} (hx : paG x) (ty : TypeId) (h1 : f' x = none) (h2 : ∀ z, paG z → z ≠ x → f' z = f z) :
    ∃ w', (Builtin.delete_ #[65, 72] ty #[.map (some b), paV x]).run Tryz.prog w = .ok (.tuple #[]) w' ∧ MPa w' b n f' ∧ w.grownBy w' (some b) := by
  obtain ⟨D, hown, hf⟩ := h
  obtain ⟨w', hrun, hown', hg⟩ := hown.drop paKeyed Tryz.underlying65 (paKey x) ty
  exact ⟨w', hrun, mf_del hf (fun x y hx hy => paL_inj hx hy) hx hown' h1 h2, hg.grown⟩
end Go.Proofs.YtelboefeomnjaaaGreat

/-
  Chapter 15: policy.partyOf. (The verifier's own text.)
-/
namespace Go.Proofs.YtelboefeomnjaaaGreat
set_option linter.unusedVariables false
set_option linter.unusedSimpArgs false
open Go.RowKit Go.Shelf Go.Maps

/-- whose an address is -/
def whoB (s : ByteArray) : Option ByteArray := if s.size = 4 then some (s.extract 0 3) else if s.size = 16 then some (s.extract 0 7) else none
def paZ : Value := .agg #[.int .i64 0, .int .u8 0, .int .u8 0, .int .u8 0, .int .u8 0, .int .u8 0, .int .u8 0, .int .u8 0]
def prtE (o : Option ByteArray) : Ending := .returned (.tuple #[match o with | some x => paV x | none => paZ, .bool o.isSome])
theorem szByte (w : World) : (Go.sizeOf 5).run Tryz.prog w = .ok 1 w := by
  have h : (Tryz.prog.info? 5).map (·.size) = some 1 := by kernel_rfl
  obtain ⟨i, hi, hz⟩ := Option.map_eq_some_iff.1 h
  simp [Go.sizeOf, typeInfo, hi, hz]
theorem who_pG {s x : ByteArray} (h : whoB s = some x) : paG x := by
  unfold whoB at h
  split at h
  · obtain rfl := Option.some.inj h
    left
    rw [ByteArray.size_extract]; omega
  · split at h
    · obtain rfl := Option.some.inj h
      right
      rw [ByteArray.size_extract]; omega
    · cases h

theorem bxe {w : World} {R : Nat} {T : TypeId} {a b c d e f g h : Value} (hb : Bx w R #[a, b, c, d, e, f, g, h] T) : w.cell? ⟨R, 0, none⟩ = some a ∧ w.cell? ⟨R, 1, none⟩ = some b ∧ w.cell? ⟨R, 2, none⟩ = some c ∧ w.cell? ⟨R, 3, none⟩ = some d ∧ w.cell? ⟨R, 4, none⟩ = some e ∧ w.cell? ⟨R, 5, none⟩ = some f ∧ w.cell? ⟨R, 6, none⟩ = some g ∧ w.cell? ⟨R, 7, none⟩ = some h :=
  ⟨hb.cell rfl, hb.cell rfl, hb.cell rfl, hb.cell rfl, hb.cell rfl, hb.cell rfl, hb.cell rfl, hb.cell rfl⟩
theorem below_two (w : World) (o o' : Obj) : Below w.heap.size w ((w.alloc o).alloc o') := ((Below.refl _ w).alloc (Nat.le_refl _) _).alloc (by simp) _
set_option maxRecDepth 100000 in
set_option maxHeartbeats 1000000 in
theorem party_no (s : ByteArray) (w : World) (h4 : ¬ s.size = 4) (h16 : ¬ s.size = 16) :
    Calls Tryz.prog 37 #[.string s] w fun e w' => e = prtE none ∧ Below w.heap.size w w' := by
  have hH := fun o o' => below_two w o o'
  have hZ : ∀ o, Bx ((w.alloc (.cells #[.int .i64 0, .int .u8 0, .int .u8 0, .int .u8 0, .int .u8 0, .int .u8 0, .int .u8 0, .int .u8 0] 72)).alloc o) w.heap.size #[.int .i64 0, .int .u8 0, .int .u8 0, .int .u8 0, .int .u8 0, .int .u8 0, .int .u8 0, .int .u8 0] 72 := fun o => (Below.heap_alloc _ _ _ (by simp)).trans (World.alloc_heap_new w _)
  have HH := hidep hH
  have HZ := hidep hZ
  clear hH hZ
  go_enter Tryz.func37, Tryz.ntmps37
  go_wp2_with fail
  obtain ⟨r0, r1, r2, r3, r4, r5, r6, r7⟩ := bxe (HZ.out (.cells #[.int .i64 s.size, .int .u8 0, .int .u8 0, .int .u8 0, .int .u8 0, .int .u8 0, .int .u8 0, .int .u8 0] 72))
  exact bodyPost_ret (v := .tuple #[paZ, .bool false]) (by simp [results, go_sem, r0, r1, r2, r3, r4, r5, r6, r7, paZ]) rfl ⟨rfl, HH.out _ _⟩

theorem bx8_set {w : World} {R : Nat} {T : TypeId} {x0 x1 x2 x3 x4 x5 x6 x7 : Value} (hb : Bx w R #[x0, x1, x2, x3, x4, x5, x6, x7] T) (a b c d e f g h : Value) : Bx ((((((((w.setCell ⟨R, 0, none⟩ a).setCell ⟨R, 1, none⟩ b).setCell ⟨R, 2, none⟩ c).setCell ⟨R, 3, none⟩ d).setCell ⟨R, 4, none⟩ e).setCell ⟨R, 5, none⟩ f).setCell ⟨R, 6, none⟩ g).setCell ⟨R, 7, none⟩ h) R #[a, b, c, d, e, f, g, h] T := by
  have k1 : Bx (w.setCell ⟨R, 0, none⟩ a) R #[a, x1, x2, x3, x4, x5, x6, x7] T := hb.set 0 a
  have k2 : Bx ((w.setCell ⟨R, 0, none⟩ a).setCell ⟨R, 1, none⟩ b) R #[a, b, x2, x3, x4, x5, x6, x7] T := k1.set 1 b
  have k3 : Bx (((w.setCell ⟨R, 0, none⟩ a).setCell ⟨R, 1, none⟩ b).setCell ⟨R, 2, none⟩ c) R #[a, b, c, x3, x4, x5, x6, x7] T := k2.set 2 c
  have k4 : Bx ((((w.setCell ⟨R, 0, none⟩ a).setCell ⟨R, 1, none⟩ b).setCell ⟨R, 2, none⟩ c).setCell ⟨R, 3, none⟩ d) R #[a, b, c, d, x4, x5, x6, x7] T := k3.set 3 d
  have k5 : Bx (((((w.setCell ⟨R, 0, none⟩ a).setCell ⟨R, 1, none⟩ b).setCell ⟨R, 2, none⟩ c).setCell ⟨R, 3, none⟩ d).setCell ⟨R, 4, none⟩ e) R #[a, b, c, d, e, x5, x6, x7] T := k4.set 4 e
  have k6 : Bx ((((((w.setCell ⟨R, 0, none⟩ a).setCell ⟨R, 1, none⟩ b).setCell ⟨R, 2, none⟩ c).setCell ⟨R, 3, none⟩ d).setCell ⟨R, 4, none⟩ e).setCell ⟨R, 5, none⟩ f) R #[a, b, c, d, e, f, x6, x7] T := k5.set 5 f
  have k7 : Bx (((((((w.setCell ⟨R, 0, none⟩ a).setCell ⟨R, 1, none⟩ b).setCell ⟨R, 2, none⟩ c).setCell ⟨R, 3, none⟩ d).setCell ⟨R, 4, none⟩ e).setCell ⟨R, 5, none⟩ f).setCell ⟨R, 6, none⟩ g) R #[a, b, c, d, e, f, g, x7] T := k6.set 6 g
  exact k7.set 7 h
theorem grown8 (w : World) (R : Nat) (a b c d e f g h : Value) : w.grownBy ((((((((w.setCell ⟨R, 0, none⟩ a).setCell ⟨R, 1, none⟩ b).setCell ⟨R, 2, none⟩ c).setCell ⟨R, 3, none⟩ d).setCell ⟨R, 4, none⟩ e).setCell ⟨R, 5, none⟩ f).setCell ⟨R, 6, none⟩ g).setCell ⟨R, 7, none⟩ h) (some R) := by
  refine grown_trans ?_ (grown_set _ R 7 h)
  refine grown_trans ?_ (grown_set _ R 6 g)
  refine grown_trans ?_ (grown_set _ R 5 f)
  refine grown_trans ?_ (grown_set _ R 4 e)
  refine grown_trans ?_ (grown_set _ R 3 d)
  refine grown_trans ?_ (grown_set _ R 2 c)
  refine grown_trans ?_ (grown_set _ R 1 b)
  exact grown_set _ R 0 a
theorem list_of3 {α : Type} {l : List α} (h : l.length = 3) : ∃ a b c, l = [a, b, c] := by
  match l, h with
  | [a, b, c], _ => exact ⟨a, b, c, rfl⟩
theorem list_of7 {α : Type} {l : List α} (h : l.length = 7) : ∃ a b c d e f g, l = [a, b, c, d, e, f, g] := by
  match l, h with
  | [a, b, c, d, e, f, g], _ => exact ⟨a, b, c, d, e, f, g, rfl⟩
theorem grown_setCellsL (R : Nat) : ∀ (vs : List Value) (o : Nat) (w : World), w.grownBy (w.setCells R o vs) (some R)
  | [], _, w => grown_refl w _
  | v :: r, o, w => grown_trans (grown_set w R o v) (grown_setCellsL R r (o + 1) _)

theorem party_4_plain {x : ByteArray} {w : World} {R : Nat} {T : TypeId} (hx : x.size = 3) (h : Bx w R #[.int .i64 4, .int .u8 0, .int .u8 0, .int .u8 0, .int .u8 0, .int .u8 0, .int .u8 0, .int .u8 0] T) : Bx (w.setCells R 1 (x.data.toList.map fun b => Value.int .u8 (b.toNat : Int))) R #[.int .i64 4, .int .u8 (pb x 0), .int .u8 (pb x 1), .int .u8 (pb x 2), .int .u8 (pb x 3), .int .u8 (pb x 4), .int .u8 (pb x 5), .int .u8 (pb x 6)] T := by
  obtain ⟨a, b, c, hl⟩ := list_of3 (l := x.data.toList) hx
  have hp : ∀ i, pb x i = (([a, b, c].getD i 0).toNat : Int) := fun i => by unfold pb; rw [hl]
  rw [hl]
  simp only [hp]
  have h1 := h.set 1 (.int .u8 (a.toNat : Int))
  have h2 := h1.set 2 (.int .u8 (b.toNat : Int))
  have h3 := h2.set 3 (.int .u8 (c.toNat : Int))
  exact h3
set_option maxRecDepth 100000 in
set_option maxHeartbeats 1000000 in
theorem party_4 (s : ByteArray) (w : World) (h4 : s.size = 4) :
    Calls Tryz.prog 37 #[.string s] w fun e w' => e = prtE (some (s.extract 0 3)) ∧ Below w.heap.size w w' := by
  obtain ⟨wa, hwa⟩ : ∃ wa, (w.alloc (.cells #[.int .i64 0, .int .u8 0, .int .u8 0, .int .u8 0, .int .u8 0, .int .u8 0, .int .u8 0, .int .u8 0] 72)).alloc (.cells #[.int .i64 4, .int .u8 0, .int .u8 0, .int .u8 0, .int .u8 0, .int .u8 0, .int .u8 0, .int .u8 0] 72) = wa := ⟨_, rfl⟩
  have HP : Hid (Bx wa (w.heap.size + 1) #[.int .i64 4, .int .u8 0, .int .u8 0, .int .u8 0, .int .u8 0, .int .u8 0, .int .u8 0, .int .u8 0] 72) := by
    have := World.alloc_heap_new (w.alloc (.cells #[.int .i64 0, .int .u8 0, .int .u8 0, .int .u8 0, .int .u8 0, .int .u8 0, .int .u8 0, .int .u8 0] 72)) (.cells #[.int .i64 4, .int .u8 0, .int .u8 0, .int .u8 0, .int .u8 0, .int .u8 0, .int .u8 0, .int .u8 0] 72)
    rw [hwa] at this
    have e : (w.alloc (.cells #[.int .i64 0, .int .u8 0, .int .u8 0, .int .u8 0, .int .u8 0, .int .u8 0, .int .u8 0, .int .u8 0] 72)).heap.size = w.heap.size + 1 := by simp
    rw [e] at this
    exact this
  have HZ : Hid (Bx wa w.heap.size #[.int .i64 0, .int .u8 0, .int .u8 0, .int .u8 0, .int .u8 0, .int .u8 0, .int .u8 0, .int .u8 0] 72) := hwa ▸ (Below.heap_alloc _ _ _ (by simp)).trans (World.alloc_heap_new w _)
  have HB : Hid (Below w.heap.size w wa) := hwa ▸ below_two w _ _
  have HW := hidep hwa
  clear hwa
  obtain ⟨x, hx⟩ : ∃ x, s.extract 0 3 = x := ⟨_, rfl⟩
  have HX : Hid (x.size = 3) := by
    have : (s.extract 0 3).size = 3 := by rw [ByteArray.size_extract]; omega
    rw [← hx]; exact this
  obtain ⟨wc, hwc⟩ : ∃ wc, wa.drew.setCells (w.heap.size + 1) 1 (x.data.toList.map fun b => Value.int .u8 (b.toNat : Int)) = wc := ⟨_, rfl⟩
  have HG : Hid (wa.grownBy wc (some (w.heap.size + 1))) := hwc ▸ grown_trans (grown_drewN wa 1 _) (grown_setCellsL _ _ _ wa.drew)
  have HPc : Hid (Bx wc (w.heap.size + 1) #[.int .i64 4, .int .u8 (pb x 0), .int .u8 (pb x 1), .int .u8 (pb x 2), .int .u8 (pb x 3), .int .u8 (pb x 4), .int .u8 (pb x 5), .int .u8 (pb x 6)] 72) := hwc ▸ party_4_plain HX.out (w := wa.drew) HP.out
  have HZc : Hid (Bx wc w.heap.size #[.int .i64 0, .int .u8 0, .int .u8 0, .int .u8 0, .int .u8 0, .int .u8 0, .int .u8 0, .int .u8 0] 72) := HZ.out.grown HG.out (by simp)
  have HBc : Hid (Below w.heap.size w wc) := HB.out.grown HG.out HB.out.size (fun k e => by cases e; omega)
  rw [hx]
  go_enter Tryz.func37, Tryz.ntmps37
  go_wp2_with fail
  have hwa := HW.out
  rw [hwa]
  go_region_law (refine step_copy_string rfl _ _ _ _ rfl 5 Tryz.underlying87 szByte (w.heap.size + 1) 1 7 7 rfl x rfl (by have := HX.out; omega) (fun j hj => by have := HX.out; exact Option.isSome_iff_exists.2 ⟨_, HP.out.cell (j := 1 + j) (v := .int .u8 0) (by match j, (show j < 7 by omega) with | 0, _ => rfl | 1, _ => rfl | 2, _ => rfl | 3, _ => rfl | 4, _ => rfl | 5, _ => rfl | 6, _ => rfl)⟩) (fun j hj => HP.out.free (1 + j)) ?_)
  obtain ⟨t0, t1, t2, t3, t4, t5, t6, t7⟩ := bxe HPc.out
  obtain ⟨z0, z1, z2, z3, z4, z5, z6, z7⟩ := bxe HZc.out
  have f0 := HZc.out.free 0
  have f1 := HZc.out.free 1
  have f2 := HZc.out.free 2
  have f3 := HZc.out.free 3
  have f4 := HZc.out.free 4
  have f5 := HZc.out.free 5
  have f6 := HZc.out.free 6
  have f7 := HZc.out.free 7
  clear hwa HW
  go_wp2_with fail
  have hb8 := bx8_set HZc.out (.int .i64 4) (.int .u8 (pb x 0)) (.int .u8 (pb x 1)) (.int .u8 (pb x 2)) (.int .u8 (pb x 3)) (.int .u8 (pb x 4)) (.int .u8 (pb x 5)) (.int .u8 (pb x 6))
  have hbf := HBc.out.grown (grown8 wc w.heap.size (.int .i64 4) (.int .u8 (pb x 0)) (.int .u8 (pb x 1)) (.int .u8 (pb x 2)) (.int .u8 (pb x 3)) (.int .u8 (pb x 4)) (.int .u8 (pb x 5)) (.int .u8 (pb x 6))) HBc.out.size (fun k e => by cases e; exact Nat.le_refl _)
  generalize ((((((((wc.setCell ⟨w.heap.size, 0, none⟩ (.int .i64 4)).setCell ⟨w.heap.size, 1, none⟩ (.int .u8 (pb x 0))).setCell ⟨w.heap.size, 2, none⟩ (.int .u8 (pb x 1))).setCell ⟨w.heap.size, 3, none⟩ (.int .u8 (pb x 2))).setCell ⟨w.heap.size, 4, none⟩ (.int .u8 (pb x 3))).setCell ⟨w.heap.size, 5, none⟩ (.int .u8 (pb x 4))).setCell ⟨w.heap.size, 6, none⟩ (.int .u8 (pb x 5))).setCell ⟨w.heap.size, 7, none⟩ (.int .u8 (pb x 6))) = wz at hb8 hbf ⊢
  obtain ⟨r0, r1, r2, r3, r4, r5, r6, r7⟩ := bxe hb8
  have hp : psz x = 4 := by unfold psz; simp [HX.out]
  exact bodyPost_ret (v := .tuple #[paV x, .bool true]) (by simp [results, go_sem, r0, r1, r2, r3, r4, r5, r6, r7, paV, hp]) rfl ⟨rfl, hbf⟩

theorem party_16_plain {x : ByteArray} {w : World} {R : Nat} {T : TypeId} (hx : x.size = 7) (h : Bx w R #[.int .i64 16, .int .u8 0, .int .u8 0, .int .u8 0, .int .u8 0, .int .u8 0, .int .u8 0, .int .u8 0] T) : Bx (w.setCells R 1 (x.data.toList.map fun b => Value.int .u8 (b.toNat : Int))) R #[.int .i64 16, .int .u8 (pb x 0), .int .u8 (pb x 1), .int .u8 (pb x 2), .int .u8 (pb x 3), .int .u8 (pb x 4), .int .u8 (pb x 5), .int .u8 (pb x 6)] T := by
  obtain ⟨a, b, c, d, e, f, g, hl⟩ := list_of7 (l := x.data.toList) hx
  have hp : ∀ i, pb x i = (([a, b, c, d, e, f, g].getD i 0).toNat : Int) := fun i => by unfold pb; rw [hl]
  rw [hl]
  simp only [hp]
  have h1 := h.set 1 (.int .u8 (a.toNat : Int))
  have h2 := h1.set 2 (.int .u8 (b.toNat : Int))
  have h3 := h2.set 3 (.int .u8 (c.toNat : Int))
  have h4 := h3.set 4 (.int .u8 (d.toNat : Int))
  have h5 := h4.set 5 (.int .u8 (e.toNat : Int))
  have h6 := h5.set 6 (.int .u8 (f.toNat : Int))
  exact h6.set 7 (.int .u8 (g.toNat : Int))
set_option maxRecDepth 100000 in
set_option maxHeartbeats 1000000 in
theorem party_16 (s : ByteArray) (w : World) (h4 : s.size = 16) :
    Calls Tryz.prog 37 #[.string s] w fun e w' => e = prtE (some (s.extract 0 7)) ∧ Below w.heap.size w w' := by
  obtain ⟨wa, hwa⟩ : ∃ wa, (w.alloc (.cells #[.int .i64 0, .int .u8 0, .int .u8 0, .int .u8 0, .int .u8 0, .int .u8 0, .int .u8 0, .int .u8 0] 72)).alloc (.cells #[.int .i64 16, .int .u8 0, .int .u8 0, .int .u8 0, .int .u8 0, .int .u8 0, .int .u8 0, .int .u8 0] 72) = wa := ⟨_, rfl⟩
  have HP : Hid (Bx wa (w.heap.size + 1) #[.int .i64 16, .int .u8 0, .int .u8 0, .int .u8 0, .int .u8 0, .int .u8 0, .int .u8 0, .int .u8 0] 72) := by
    have := World.alloc_heap_new (w.alloc (.cells #[.int .i64 0, .int .u8 0, .int .u8 0, .int .u8 0, .int .u8 0, .int .u8 0, .int .u8 0, .int .u8 0] 72)) (.cells #[.int .i64 16, .int .u8 0, .int .u8 0, .int .u8 0, .int .u8 0, .int .u8 0, .int .u8 0, .int .u8 0] 72)
    rw [hwa] at this
    have e : (w.alloc (.cells #[.int .i64 0, .int .u8 0, .int .u8 0, .int .u8 0, .int .u8 0, .int .u8 0, .int .u8 0, .int .u8 0] 72)).heap.size = w.heap.size + 1 := by simp
    rw [e] at this
    exact this
  have HZ : Hid (Bx wa w.heap.size #[.int .i64 0, .int .u8 0, .int .u8 0, .int .u8 0, .int .u8 0, .int .u8 0, .int .u8 0, .int .u8 0] 72) := hwa ▸ (Below.heap_alloc _ _ _ (by simp)).trans (World.alloc_heap_new w _)
  have HB : Hid (Below w.heap.size w wa) := hwa ▸ below_two w _ _
  have HW := hidep hwa
  clear hwa
  obtain ⟨x, hx⟩ : ∃ x, s.extract 0 7 = x := ⟨_, rfl⟩
  have HX : Hid (x.size = 7) := by
    have : (s.extract 0 7).size = 7 := by rw [ByteArray.size_extract]; omega
    rw [← hx]; exact this
  obtain ⟨wc, hwc⟩ : ∃ wc, wa.drew.setCells (w.heap.size + 1) 1 (x.data.toList.map fun b => Value.int .u8 (b.toNat : Int)) = wc := ⟨_, rfl⟩
  have HG : Hid (wa.grownBy wc (some (w.heap.size + 1))) := hwc ▸ grown_trans (grown_drewN wa 1 _) (grown_setCellsL _ _ _ wa.drew)
  have HPc : Hid (Bx wc (w.heap.size + 1) #[.int .i64 16, .int .u8 (pb x 0), .int .u8 (pb x 1), .int .u8 (pb x 2), .int .u8 (pb x 3), .int .u8 (pb x 4), .int .u8 (pb x 5), .int .u8 (pb x 6)] 72) := hwc ▸ party_16_plain HX.out (w := wa.drew) HP.out
  have HZc : Hid (Bx wc w.heap.size #[.int .i64 0, .int .u8 0, .int .u8 0, .int .u8 0, .int .u8 0, .int .u8 0, .int .u8 0, .int .u8 0] 72) := HZ.out.grown HG.out (by simp)
  have HBc : Hid (Below w.heap.size w wc) := HB.out.grown HG.out HB.out.size (fun k e => by cases e; omega)
  rw [hx]
  go_enter Tryz.func37, Tryz.ntmps37
  go_wp2_with fail
  have hwa := HW.out
  rw [hwa]
  go_region_law (refine step_copy_string rfl _ _ _ _ rfl 5 Tryz.underlying87 szByte (w.heap.size + 1) 1 7 7 rfl x rfl (by have := HX.out; omega) (fun j hj => by have := HX.out; exact Option.isSome_iff_exists.2 ⟨_, HP.out.cell (j := 1 + j) (v := .int .u8 0) (by match j, (show j < 7 by omega) with | 0, _ => rfl | 1, _ => rfl | 2, _ => rfl | 3, _ => rfl | 4, _ => rfl | 5, _ => rfl | 6, _ => rfl)⟩) (fun j hj => HP.out.free (1 + j)) ?_)
  obtain ⟨t0, t1, t2, t3, t4, t5, t6, t7⟩ := bxe HPc.out
  obtain ⟨z0, z1, z2, z3, z4, z5, z6, z7⟩ := bxe HZc.out
  have f0 := HZc.out.free 0
  have f1 := HZc.out.free 1
  have f2 := HZc.out.free 2
  have f3 := HZc.out.free 3
  have f4 := HZc.out.free 4
  have f5 := HZc.out.free 5
  have f6 := HZc.out.free 6
  have f7 := HZc.out.free 7
  clear hwa HW
  go_wp2_with fail
  have hb8 := bx8_set HZc.out (.int .i64 16) (.int .u8 (pb x 0)) (.int .u8 (pb x 1)) (.int .u8 (pb x 2)) (.int .u8 (pb x 3)) (.int .u8 (pb x 4)) (.int .u8 (pb x 5)) (.int .u8 (pb x 6))
  have hbf := HBc.out.grown (grown8 wc w.heap.size (.int .i64 16) (.int .u8 (pb x 0)) (.int .u8 (pb x 1)) (.int .u8 (pb x 2)) (.int .u8 (pb x 3)) (.int .u8 (pb x 4)) (.int .u8 (pb x 5)) (.int .u8 (pb x 6))) HBc.out.size (fun k e => by cases e; exact Nat.le_refl _)
  generalize ((((((((wc.setCell ⟨w.heap.size, 0, none⟩ (.int .i64 16)).setCell ⟨w.heap.size, 1, none⟩ (.int .u8 (pb x 0))).setCell ⟨w.heap.size, 2, none⟩ (.int .u8 (pb x 1))).setCell ⟨w.heap.size, 3, none⟩ (.int .u8 (pb x 2))).setCell ⟨w.heap.size, 4, none⟩ (.int .u8 (pb x 3))).setCell ⟨w.heap.size, 5, none⟩ (.int .u8 (pb x 4))).setCell ⟨w.heap.size, 6, none⟩ (.int .u8 (pb x 5))).setCell ⟨w.heap.size, 7, none⟩ (.int .u8 (pb x 6))) = wz at hb8 hbf ⊢
  obtain ⟨r0, r1, r2, r3, r4, r5, r6, r7⟩ := bxe hb8
  have hp : psz x = 16 := by unfold psz; simp [HX.out]
  exact bodyPost_ret (v := .tuple #[paV x, .bool true]) (by simp [results, go_sem, r0, r1, r2, r3, r4, r5, r6, r7, paV, hp]) rfl ⟨rfl, hbf⟩

/-- policy.partyOf -/
theorem party_any (s : ByteArray) (w : World) :
    Calls Tryz.prog 37 #[.string s] w fun e w' => e = prtE (whoB s) ∧ Below w.heap.size w w' := by
  unfold whoB
  split
  · rename_i h; exact party_4 s w h
  · split
    · rename_i h; exact party_16 s w h
    · rename_i h4 h16; exact party_no s w h4 h16
end Go.Proofs.YtelboefeomnjaaaGreat

/-
  Chapter 15: (*policy.Limiter).refill. (The verifier's own text.)
-/
namespace Go.Proofs.YtelboefeomnjaaaGreat
set_option linter.unusedVariables false
set_option linter.unusedSimpArgs false
open Go.RowKit Go.Shelf Go.Maps

/-- what one has behind the time that has gone by -/
def reL (rate burst left last now : Int) : Int := if now ≤ last then left else min (left + rate * min (now - last) burst) burst
def reT (last now : Int) : Int := if now ≤ last then last else now
theorem u64_sub {a b : Int} (ha : (Lit.int .i64 a).wf = true) (hb : (Lit.int .i64 b).wf = true) (h : b < a) : IntKind.u64.wrap (IntKind.u64.wrap a - IntKind.u64.wrap b) = a - b := by
  simp [Lit.wf, IntKind.min, IntKind.max, IntKind.bits, IntKind.signed] at ha hb
  simp [IntKind.wrap, IntKind.bits, IntKind.signed]
  omega

set_option maxRecDepth 100000 in
set_option maxHeartbeats 1000000 in
theorem refill_no (L A : Nat) (rate burst left last now : Int) (lv : Value) (w : World) (hA : Bx w A #[.int .i64 left, .int .i64 last] 80) (h : now ≤ last) :
    Calls Tryz.prog 39 #[.pointer (some ⟨L, 0, none⟩), .pointer (some ⟨A, 0, none⟩), .int .i64 now] w fun e w' => e = .returned (.tuple #[]) ∧ Bx w' A #[.int .i64 left, .int .i64 last] 80 ∧ w.grownBy w' (some A) := by
  have a1 : w.cell? ⟨A, 1, none⟩ = some (.int .i64 last) := hA.cell rfl
  have HA := hidep hA
  clear hA
  go_enter Tryz.func39, Tryz.ntmps39
  go_wp2_with fail
  exact bodyPost_ret (v := .tuple #[]) (by simp [results, Tryz.results39, go_sem]) rfl ⟨rfl, HA.out, grown_refl _ _⟩
set_option maxRecDepth 100000 in
set_option maxHeartbeats 1000000 in
theorem refill_yes (L A : Nat) (rate burst left last now : Int) (x2 x3 : Value) (w : World) (hL : Bx w L #[.int .i64 rate, .int .i64 burst, x2, x3] 68) (hA : Bx w A #[.int .i64 left, .int .i64 last] 80) (hne : L ≠ A) (h : last < now)
    (hr0 : 0 ≤ rate) (hr1 : rate ≤ 1000) (hb0 : 1 ≤ burst) (hb1 : burst ≤ 1000) (hl0 : 0 ≤ left) (hl1 : left ≤ burst) (hn : (Lit.int .i64 now).wf = true) (hl : (Lit.int .i64 last).wf = true) :
    Calls Tryz.prog 39 #[.pointer (some ⟨L, 0, none⟩), .pointer (some ⟨A, 0, none⟩), .int .i64 now] w fun e w' => e = .returned (.tuple #[]) ∧ Bx w' A #[.int .i64 (min (left + rate * min (now - last) burst) burst), .int .i64 now] 80 ∧ w.grownBy w' (some A) := by
  have a0 : w.cell? ⟨A, 0, none⟩ = some (.int .i64 left) := hA.cell rfl
  have a1 : w.cell? ⟨A, 1, none⟩ = some (.int .i64 last) := hA.cell rfl
  have l0 : w.cell? ⟨L, 0, none⟩ = some (.int .i64 rate) := hL.cell rfl
  have l1 : w.cell? ⟨L, 1, none⟩ = some (.int .i64 burst) := hL.cell rfl
  have hu := u64_sub hn hl h
  have hub : IntKind.u64.wrap burst = burst := by simp [IntKind.wrap, IntKind.bits, IntKind.signed]; omega
  have HA := hidep hA
  have hle : decide (now ≤ last) = false := by simp; omega
  obtain ⟨m, hm⟩ : ∃ m, min (now - last) burst = m := ⟨_, rfl⟩
  have hm0 : 0 ≤ m := by omega
  have hm1 : m ≤ 1000 := by omega
  have hwm : IntKind.i64.wrap m = m := by rw [IntKind.wrap_i64]; omega
  obtain ⟨q, hq⟩ : ∃ q, rate * m = q := ⟨_, rfl⟩
  have hq0 : 0 ≤ q := hq ▸ Int.mul_nonneg hr0 hm0
  have hq1 : q ≤ 1000000 := hq ▸ Int.le_trans (Int.mul_le_mul hr1 hm1 hm0 (by omega)) (by decide)
  have hwq : IntKind.i64.wrap q = q := by rw [IntKind.wrap_i64]; omega
  obtain ⟨s, hs⟩ : ∃ s, IntKind.i64.wrap (left + q) = s := ⟨_, rfl⟩
  have HS : Hid (s = left + q) := by rw [← hs, IntKind.wrap_i64]; unfold Hid; omega
  obtain ⟨r, hr⟩ : ∃ r, min s burst = r := ⟨_, rfl⟩
  have HR : Hid (min (left + q) burst = r) := by have := HS.out; subst this; exact hr
  have l0d : L < w.heap.size := hL.lt
  have f0 := hA.free 0
  have f1 := hA.free 1
  rw [hm, hq, HR.out]
  have k1 : Bx (w.setCell ⟨A, 0, none⟩ (.int .i64 r)) A #[.int .i64 r, .int .i64 last] 80 := hA.set 0 _
  have k2 : Bx ((w.setCell ⟨A, 0, none⟩ (.int .i64 r)).setCell ⟨A, 1, none⟩ (.int .i64 now)) A #[.int .i64 r, .int .i64 now] 80 := k1.set 1 _
  have HK := hidep k2
  have HG : Hid (w.grownBy ((w.setCell ⟨A, 0, none⟩ (.int .i64 r)).setCell ⟨A, 1, none⟩ (.int .i64 now)) (some A)) := grown_trans (grown_set _ _ _ _) (grown_set _ _ _ _)
  clear hA hL k1 k2 hr0 hr1 hb0 hb1 hl0 hl1 hm0 hm1 hq0 hq1 hn hl
  go_enter Tryz.func39, Tryz.ntmps39
  go_wp2_with fail
  go_region_held3 (fun V => V.cell? ⟨A, 0, none⟩ = some (.int .i64 left) ∧ V.cell? ⟨A, 1, none⟩ = some (.int .i64 last) ∧ V.cell? ⟨L, 0, none⟩ = some (.int .i64 rate) ∧ V.cell? ⟨L, 1, none⟩ = some (.int .i64 burst)) (first | go_keep) (fail)
  go_wp2_with fail
  go_region_with fail
  all_goals
    go_wp2_with fail
    go_end0
    exact ⟨rfl, HK.out, grown_trans HG.out (grown_drewN _ 2 _)⟩
/-- (*policy.Limiter).refill -/
theorem refill_any (L A : Nat) (rate burst left last now : Int) (x2 x3 : Value) (w : World) (hL : Bx w L #[.int .i64 rate, .int .i64 burst, x2, x3] 68) (hA : Bx w A #[.int .i64 left, .int .i64 last] 80) (hne : L ≠ A)
    (hr0 : 0 ≤ rate) (hr1 : rate ≤ 1000) (hb0 : 1 ≤ burst) (hb1 : burst ≤ 1000) (hl0 : 0 ≤ left) (hl1 : left ≤ burst) (hn : (Lit.int .i64 now).wf = true) (hl : (Lit.int .i64 last).wf = true) :
    Calls Tryz.prog 39 #[.pointer (some ⟨L, 0, none⟩), .pointer (some ⟨A, 0, none⟩), .int .i64 now] w fun e w' => e = .returned (.tuple #[]) ∧ Bx w' A #[.int .i64 (reL rate burst left last now), .int .i64 (reT last now)] 80 ∧ w.grownBy w' (some A) := by
  by_cases h : now ≤ last
  · have e1 : reL rate burst left last now = left := if_pos h
    have e2 : reT last now = last := if_pos h
    rw [e1, e2]
    exact refill_no L A rate burst left last now x2 w hA h
  · have e1 : reL rate burst left last now = min (left + rate * min (now - last) burst) burst := if_neg h
    have e2 : reT last now = now := if_neg h
    rw [e1, e2]
    exact refill_yes L A rate burst left last now x2 x3 w hL hA hne (by omega) hr0 hr1 hb0 hb1 hl0 hl1 hn hl
end Go.Proofs.YtelboefeomnjaaaGreat

/-
  Rows of one's own that begin somewhere in their block: behind x = x[1:]. (The verifier's own text.)
-/
namespace Go.Proofs.YtelboefeomnjaaaGreat
set_option linter.unusedVariables false
open Go.RowKit Go.Shelf

/-- a row of one's own, from some place of its block on -/
def Orow (w : World) (base e size : Nat) (v : Value) (n : Nat) (xs : List Value) : Prop :=
  xs.length = n * size ∧ ((v = .slice none 0 0 ∧ n = 0) ∨ ∃ g o cap cur, v = .slice (some ⟨g, o * size, none⟩) n cap ∧ base ≤ g ∧ w.heap[g]? = some (.cells cur e (0, 0)) ∧ n ≤ cap ∧ cap ≤ maxLen ∧ cur.size = (o + cap) * size ∧ (cur.toList.drop (o * size)).take (n * size) = xs)
section
variable {w w' : World} {base e size n : Nat} {v : Value} {xs : List Value}
theorem Orow.empty (w : World) (base e size : Nat) : Orow w base e size (.slice none 0 0) 0 [] := ⟨by simp, .inl ⟨rfl, rfl⟩⟩
theorem Orow.lt (h : Orow w base e size v n xs) : ∀ k, v.ownBlock = some k → base ≤ k ∧ k < w.heap.size := by
  intro k hk
  rcases h.2 with ⟨rfl, _⟩ | ⟨g, o, cap, cur, rfl, hb, hg, _⟩
  · simp [Value.ownBlock] at hk
  · simp [Value.ownBlock] at hk
    subst hk
    exact ⟨hb, (Array.getElem?_eq_some_iff.1 hg).1⟩
theorem Orow.kept {row : Option Nat} (h : Orow w base e size v n xs) (hg : w.grownBy w' row) (hne : ∀ k, v.ownBlock = some k → row ≠ some k) : Orow w' base e size v n xs := by
  refine ⟨h.1, ?_⟩
  rcases h.2 with hn | ⟨g, o, cap, cur, rfl, hb, hgg, rest⟩
  · exact .inl hn
  · refine .inr ⟨g, o, cap, cur, rfl, hb, ?_, rest⟩
    rw [hg.block g (Array.getElem?_eq_some_iff.1 hgg).1 (fun e => hne g rfl e.symm)]
    exact hgg
theorem Orow.form (h : Orow w base e size v n xs) : ∃ p c, v = .slice p n c ∧ n ≤ c ∧ c ≤ maxLen ∧ (p = none → c = 0) := by
  rcases h.2 with ⟨rfl, rfl⟩ | ⟨g, o, cap, cur, rfl, hb, hg, hn, hc, _⟩
  · exact ⟨none, 0, rfl, Nat.le_refl _, Nat.zero_le _, fun _ => rfl⟩
  · exact ⟨_, cap, rfl, hn, hc, fun e => by cases e⟩
/-- its cells -/
theorem Orow.cells {ad : Addr} {c : Nat} (h : Orow w base e size (.slice (some ad) n c) n xs) : ∀ j u, xs[j]? = some u → w.cell? (ad.add j) = some u := by
  intro j u hu
  rcases h.2 with ⟨h, _⟩ | ⟨g, o, cap, cur, hv, _, hgg, _, _, _, htake⟩
  · cases h
  · injection hv with hv _ _
    injection hv with hv
    subst hv
    have hadd : (⟨g, o * size, none⟩ : Addr).add j = ⟨g, o * size + j, none⟩ := by unfold Addr.add; split <;> simp_all
    rw [hadd, cell_of_row w g (o * size + j) cur e (0, 0) hgg]
    rw [← htake, List.getElem?_take] at hu
    split at hu
    · rw [List.getElem?_drop] at hu
      simpa using hu
    · cases hu
/-- one that begins at its block's head -/
theorem Orow.own (h : w.ownsRow base e size v n xs) : Orow w base e size v n xs := by
  refine ⟨h.1, ?_⟩
  rcases h.2 with hn | ⟨g, cap, cur, rfl, hb, hgg, h1, h2, h3, h4⟩
  · exact .inl hn
  · exact .inr ⟨g, 0, cap, cur, by simp, hb, hgg, h1, h2, by simpa using h3, by simpa using h4⟩
/-- without its first element -/
theorem Orow.tail {xs' : List Value} (h : Orow w base e size v (n + 1) xs) (hx : xs.drop size = xs') : ∃ g o cap, v = .slice (some ⟨g, o * size, none⟩) (n + 1) cap ∧ n + 1 ≤ cap ∧ cap ≤ maxLen ∧ Orow w base e size (.slice (some ⟨g, o * size + size, none⟩) n (cap - 1)) n xs' := by
  subst hx
  rcases h.2 with ⟨_, h⟩ | ⟨g, o, cap, cur, rfl, hb, hgg, h1, h2, h3, h4⟩
  · omega
  · refine ⟨g, o, cap, rfl, h1, h2, ?_, .inr ⟨g, o + 1, cap - 1, cur, by rw [Nat.succ_mul], hb, hgg, by omega, by omega, by rw [h3]; congr 1; omega, ?_⟩⟩
    · rw [List.length_drop, h.1, Nat.succ_mul]; omega
    · rw [← h4, Nat.succ_mul, Nat.succ_mul, List.drop_take, List.drop_drop]
      congr 1
      omega
end
section
variable {P : Program} (w : World)
theorem run_append_off (t ty e : TypeId) (i : TypeInfo) (ht : P.underlying t = some (.slice e)) (hi : P.info? e = some i)
    (g k sLen sCap : Nat) (cur : Array Value) (hg : w.heap[g]? = some (.cells cur e (0, 0)))
    (a : Addr) (m c : Nat) (news : List Value) (hl : news.length = m * i.size) (hnews : ∀ j u, news[j]? = some u → w.cell? (a.add j) = some u) (h1 : ∀ u ∈ news, u.oneCell' = true)
    (hroom : sLen + m ≤ sCap) (hfit : k + sLen * i.size + news.length ≤ cur.size) :
    (Builtin.append_ #[t, t] ty #[.slice (some ⟨g, k, none⟩) sLen sCap, .slice (some a) m c]).run P w =
      .ok (.slice (some ⟨g, k, none⟩) (sLen + m) sCap) (w.setRow g (cur.toList.take (k + sLen * i.size) ++ news ++ cur.toList.drop (k + sLen * i.size + news.length)).toArray) := by
  have hf := run_firstCells_some (P := P) w i.size m a m c news hl hnews
  have hst := run_storeCells_at P g (k + sLen * i.size) e news 0 cur w hg (by simpa using hfit) h1
  simp only [Nat.add_zero] at hst
  simp [Builtin.append_, run_underlying ht, sizeOf, typeInfo, hi, Builtin.lenOf, hroom, hf, Addr.add_lit, hst]
/-- append onto such a row -/
theorem Orow.append (base : Nat) (t ty e : TypeId) (i : TypeInfo) (z : Value) (size bytes : Nat) (ht : P.underlying t = some (.slice e)) (hi : P.info? e = some i) (hz : i.zero = some z)
    (hsize : i.size = size) (hby : i.bytes = bytes) (hzs : z.cells.size = size) (hsz : 0 < size)
    (v : Value) (n : Nat) (xs : List Value) (hown : Orow w base e size v n xs)
    (a : Addr) (m c : Nat) (news : List Value) (hl : news.length = m * size) (hnews : ∀ j u, news[j]? = some u → w.cell? (a.add j) = some u) (h1 : ∀ u ∈ news, u.oneCell' = true)
    (hm : 0 < m) (h63 : n + m ≤ maxLen) (hbytes : (n + m) * bytes ≤ 140737488355328) (hbase : base ≤ w.heap.size) :
    ∃ g o cap w', (Builtin.append_ #[t, t] ty #[v, .slice (some a) m c]).run P w = .ok (.slice (some ⟨g, o * size, none⟩) (n + m) cap) w' ∧ Orow w' base e size (.slice (some ⟨g, o * size, none⟩) (n + m) cap) (n + m) (xs ++ news) ∧ w.grownBy w' v.ownBlock ∧
      (v.ownBlock = some g ∨ g = w.heap.size) := by
  subst hsize
  subst hby
  have hsmall : n + m ≤ 9223372036854775807 := by simp only [maxLen] at h63; omega
  have hlen : (xs ++ news).length = (n + m) * i.size := by rw [List.length_append, hown.1, hl, Nat.add_mul]
  have grown : ∀ (old : Nat), old < n + m → ∀ (row : Option Nat),
      Orow (w.drew.alloc (.cells (xs.toArray ++ news.toArray ++ Builtin.zeroCells z.cells (grownCap w (n + m) old e - (n + m))) e)) base e i.size
        (.slice (some ⟨w.heap.size, 0 * i.size, none⟩) (n + m) (grownCap w (n + m) old e)) (n + m) (xs ++ news) ∧
      w.grownBy (w.drew.alloc (.cells (xs.toArray ++ news.toArray ++ Builtin.zeroCells z.cells (grownCap w (n + m) old e - (n + m))) e)) row := by
    intro old ho row
    have hge := grownCap_ge w (n + m) old e
    have hcm : grownCap w (n + m) old e ≤ maxLen := grownCap_le_maxLen w (n + m) old e h63
    refine ⟨⟨hlen, .inr ⟨w.heap.size, 0, _, _, rfl, hbase, heap_alloc_new w.drew _, hge, hcm, ?_, ?_⟩⟩, ⟨rfl, rfl, rfl, by simp, fun k hk _ => Below.heap_alloc w.drew _ k hk⟩⟩
    · simp only [Array.size_append, List.size_toArray, size_zeroCells, hzs, hown.1, hl, ← Nat.add_mul, Nat.zero_add]
      congr 1
      omega
    · simp only [Array.toList_append, List.append_assoc, Nat.zero_mul, List.drop_zero]
      rw [← List.append_assoc, ← hlen]
      exact List.take_left
  rcases hown.2 with ⟨rfl, rfl⟩ | ⟨g, o, cap, cur, rfl, hbg, hg, hnc, hcm, hcs, htake⟩
  · have hx : xs = [] := List.eq_nil_of_length_eq_zero (by simpa using hown.1)
    subst hx
    have hr := run_append_nil (P := P) w t ty e i z ht hi hz a m c news hl hnews (by omega) (by omega) (by have hb := hbytes; simp only [Nat.zero_add] at hb; omega)
    have hgr := grown 0 (by omega) (Value.ownBlock (.slice none 0 0))
    simp only [Nat.zero_add, List.nil_append, Array.empty_append] at hgr ⊢
    refine ⟨w.heap.size, 0, _, _, ?_, hgr.1, hgr.2, .inr rfl⟩
    rw [hr]
    simp
  · by_cases hroom : n + m ≤ cap
    · have hfit : o * i.size + n * i.size + news.length ≤ cur.size := by
        rw [hl, hcs, ← Nat.add_mul, ← Nat.add_mul]
        exact Nat.mul_le_mul_right _ (by omega)
      have hr := run_append_off (P := P) w t ty e i ht hi g (o * i.size) n cap cur hg a m c news hl hnews h1 hroom hfit
      refine ⟨g, o, cap, _, hr, ⟨hlen, .inr ⟨g, o, cap, _, rfl, hbg, setRow_heap w g cur _ e _ hg, hroom, hcm, ?_, ?_⟩⟩, ⟨rfl, rfl, rfl, by simp, fun k _ hk => setRow_other w g k _ (fun e => hk (by simp [Value.ownBlock, e]))⟩, .inl rfl⟩
      · simp only [List.size_toArray, List.length_append, List.length_take, List.length_drop, Array.length_toList]
        omega
      · have hk : (cur.toList.take (o * i.size + n * i.size)).drop (o * i.size) = xs := by
          rw [List.drop_take, ← htake]
          congr 1
          omega
        have hl1 : (cur.toList.take (o * i.size + n * i.size)).length = o * i.size + n * i.size := by rw [List.length_take, Array.length_toList]; omega
        simp only [List.append_assoc]
        rw [List.drop_append_of_le_length (by rw [hl1]; omega), hk, ← List.append_assoc, ← hlen]
        exact List.take_left
    · have holds := hown.cells
      have hr := run_append_grow (P := P) w t ty e i z ht hi hz ⟨g, o * i.size, none⟩ n cap xs hown.1 holds a m c news hl hnews (by omega) (by omega) (growslice_fits (by omega) hbytes)
      have hgr := grown cap (by omega) (Value.ownBlock (.slice (some ⟨g, o * i.size, none⟩) n cap))
      refine ⟨w.heap.size, 0, _, _, ?_, hgr.1, hgr.2, .inr rfl⟩
      rw [hr]
      simp
/-- at a step of a region that draws its order -/
theorem step_append_orow {ops : Array Oper} {o : Oper} {a : Act} {K : Act → World → Prop} {Q : Exit → Act → World → Prop} {E : Prop} (hgd : o.guard = none) (s x : Operand) (t : TypeId)
    (ho : o.op = .call { callee := .builtin .append, args := #[s, x], argTypes := #[t, t] })
    (base : Nat) (e : TypeId) (i : TypeInfo) (z : Value) (size bytes : Nat) (ht : P.underlying t = some (.slice e)) (hi : P.info? e = some i) (hz : i.zero = some z)
    (hsize : i.size = size) (hby : i.bytes = bytes) (hzs : z.cells.size = size) (hsz : 0 < size)
    (v : Value) (n : Nat) (xs : List Value) (hs : a.eval s = v) (hown : Orow w base e size v n xs)
    (ad : Addr) (m c : Nat) (news : List Value) (hx : a.eval x = .slice (some ad) m c) (hl : news.length = m * size) (hnews : ∀ j u, news[j]? = some u → w.cell? (ad.add j) = some u) (h1 : ∀ u ∈ news, u.oneCell' = true)
    (hm : 0 < m) (h63 : n + m ≤ maxLen) (hbytes : (n + m) * bytes ≤ 140737488355328) (hbase : base ≤ w.heap.size)
    (h : ∀ g f cap w', Orow w' base e size (.slice (some ⟨g, f * size, none⟩) (n + m) cap) (n + m) (xs ++ news) → w.grownBy w' v.ownBlock → (v.ownBlock = some g ∨ g = w.heap.size) → K (a.put o.dst (.slice (some ⟨g, f * size, none⟩) (n + m) cap)) w') :
    if Region.wanted o (yielded ops a.tmps) = true then Oper.wp P o a w K Q else E := by
  have hw : Region.wanted o (yielded ops a.tmps) = true := by simp [Region.wanted, hgd]
  rw [if_pos hw]
  obtain ⟨g, f, cap, w', hr, h2, h3, h4⟩ := Orow.append (P := P) w base t o.type e i z size bytes ht hi hz hsize hby hzs hsz v n xs hown ad m c news hl hnews h1 hm h63 hbytes hbase
  unfold Oper.wp execOp
  simp only [ho, resolve, invoke, builtin, Sem.run_bind, Sem.run_pure, Result.andThen_ok, List.map_toArray, List.map_cons, List.map_nil, hs, hx, hr]
  exact h g f cap w' h2 h3 h4
/-- a builtin of two arguments, at a step of a region that draws its order -/
theorem step_builtin2 {ops : Array Oper} {o : Oper} {a : Act} {K : Act → World → Prop} {Q : Exit → Act → World → Prop} {E : Prop} (hgd : o.guard = none) (s x : Operand) (t u : TypeId)
    (ho : o.op = .call { callee := .builtin .delete, args := #[s, x], argTypes := #[t, u] }) (vs vx : Value) (hs : a.eval s = vs) (hx : a.eval x = vx) (r : Value) (w' : World)
    (hr : (Builtin.delete_ #[t, u] o.type #[vs, vx]).run P w = .ok r w') (h : K (a.put o.dst r) w') :
    if Region.wanted o (yielded ops a.tmps) = true then Oper.wp P o a w K Q else E := by
  have hw : Region.wanted o (yielded ops a.tmps) = true := by simp [Region.wanted, hgd]
  rw [if_pos hw]
  unfold Oper.wp execOp
  simp only [ho, resolve, invoke, builtin, Sem.run_bind, Sem.run_pure, Result.andThen_ok, List.map_toArray, List.map_cons, List.map_nil, hs, hx, hr]
  exact h
end
end Go.Proofs.YtelboefeomnjaaaGreat

/-
  Chapter 15: a limiter in memory. (The verifier's own text.)
-/
namespace Go.Proofs.YtelboefeomnjaaaGreat
set_option linter.unusedVariables false
set_option linter.unusedSimpArgs false
open Go.RowKit Go.Shelf Go.Maps

/-- one that is seen: who, where its account lies, what is in it -/
structure En where
  who : ByteArray
  blk : Nat
  left : Int
  last : Int
/-- where the account of one lies -/
def blkF (S : List En) (x : ByteArray) : Option Nat := (S.find? (fun e => decide (e.who = x))).map (·.blk)
/-- what turns: blocks of these kinds, from base on -/
structure Ft (K : Obj → Prop) (base : Nat) (w w' : World) : Prop where
  os : w'.os = w.os
  tape : w'.tape = w.tape
  output : w'.output = w.output
  size : w.heap.size ≤ w'.heap.size
  low : ∀ k : Nat, k < base → k < w.heap.size → w'.heap[k]? = w.heap[k]?
  far : ∀ (k : Nat) (o : Obj), w.heap[k]? = some o → ¬ K o → w'.heap[k]? = some o
theorem Ft.refl (K : Obj → Prop) (base : Nat) (w : World) : Ft K base w w := ⟨rfl, rfl, rfl, Nat.le_refl _, fun _ _ _ => rfl, fun _ _ h _ => h⟩
theorem Ft.trans {K : Obj → Prop} {base : Nat} {a b c : World} (h : Ft K base a b) (k : Ft K base b c) : Ft K base a c :=
  ⟨k.os.trans h.os, k.tape.trans h.tape, k.output.trans h.output, Nat.le_trans h.size k.size, fun j hj hl => (k.low j hj (Nat.lt_of_lt_of_le hl h.size)).trans (h.low j hj hl), fun j o hj ho => k.far j o (h.far j o hj ho) ho⟩
theorem Ft.idle {K : Obj → Prop} {base : Nat} {w w' : World} (h : w.grownBy w' none) : Ft K base w w' :=
  ⟨h.os, h.tape, h.output, h.size, fun k _ hk => h.block k hk (by simp), fun k o ho _ => (h.block k (Array.getElem?_eq_some_iff.1 ho).1 (by simp)).trans ho⟩
theorem Ft.of {K : Obj → Prop} {base : Nat} {w w' : World} (h : Below w.heap.size w w') : Ft K base w w' := Ft.idle (grown_below h none)
theorem Ft.one {K : Obj → Prop} {base : Nat} {w w' : World} {r : Nat} {o : Obj} (h : w.grownBy w' (some r)) (hr : w.heap[r]? = some o) (ho : K o) (hb : base ≤ r) : Ft K base w w' :=
  ⟨h.os, h.tape, h.output, h.size, fun k hk hl => h.block k hl (fun e => by cases e; omega), fun k o' ho' hn => (h.block k (Array.getElem?_eq_some_iff.1 ho').1 (fun e => by
    cases e
    rw [hr] at ho'
    cases ho'
    exact hn ho)).trans ho'⟩
theorem Ft.below {K : Obj → Prop} {base : Nat} {w w' : World} (h : Ft K base w w') (hb : base ≤ w.heap.size) : Below base w w' :=
  ⟨h.os, h.tape, h.output, h.size, fun k hk => h.low k hk (by omega)⟩
/-- the kinds of a limiter's blocks -/
def LK (o : Obj) : Prop := match o with
  | .map _ _ => True
  | .cells _ T _ => T = 68 ∨ T = 72 ∨ T = 80
  | _ => True
/-- a limiter in memory -/
structure Lim (w : World) (L M base : Nat) (qv : Value) (n : Nat) (rate burst : Int) (S : List En) : Prop where
  bx : Bx w L #[.int .i64 rate, .int .i64 burst, .map (some M), qv] 68
  mp : MPa w M n (blkF S)
  q : Orow w base 72 8 qv S.length (rowV paC (S.map (·.who)))
  ac : ∀ e ∈ S, Bx w e.blk #[.int .i64 e.left, .int .i64 e.last] 80 ∧ base ≤ e.blk
  good : ∀ e ∈ S, paG e.who ∧ 0 ≤ e.left ∧ e.left ≤ burst ∧ (Lit.int .i64 e.last).wf = true
  who : (S.map (·.who)).Nodup
  blk : (S.map (·.blk)).Nodup
  len : S.length ≤ 1000
  bL : base ≤ L
  bM : base ≤ M
  bW : base ≤ w.heap.size
theorem paC_len (x : ByteArray) : (paC x).length = 8 := rfl
theorem paC_one (x : ByteArray) : ∀ u ∈ paC x, u.oneCell' = true := by
  intro u h
  simp only [paC, List.mem_cons, List.not_mem_nil, or_false] at h
  rcases h with rfl | rfl | rfl | rfl | rfl | rfl | rfl | rfl <;> rfl
section
variable {w w' : World} {L M base n : Nat} {qv : Value} {rate burst : Int} {S : List En}
/-- what turns nothing of it -/
theorem Lim.grown (h : Lim w L M base qv n rate burst S) (hg : w.grownBy w' none) : Lim w' L M base qv n rate burst S :=
  ⟨h.bx.grown hg (by simp), h.mp.grown hg (by simp), h.q.kept hg (fun _ _ => by simp), fun e he => ⟨(h.ac e he).1.grown hg (by simp), (h.ac e he).2⟩, h.good, h.who, h.blk, h.len, h.bL, h.bM, Nat.le_trans h.bW hg.size⟩
/-- the map's block is no other's -/
theorem bx_map {R : Nat} {cs : Array Value} {T : TypeId} {f : ByteArray → Option Nat} (h : Bx w R cs T) (hm : MPa w M n f) : R ≠ M := fun e => by
  subst e
  obtain ⟨D, ⟨es, clock, hb, _⟩, _⟩ := hm
  unfold Bx at h
  rw [h] at hb
  cases hb
theorem bx_kind {R R' : Nat} {cs cs' : Array Value} {T T' : TypeId} (h : Bx w R cs T) (h' : Bx w R' cs' T') (hT : T ≠ T') : R ≠ R' := fun e => by
  subst e
  unfold Bx at h h'
  rw [h] at h'
  injection h' with h'
  injection h' with _ h' _
  exact hT h'
theorem bx_row {R k e size : Nat} {cs : Array Value} {T : TypeId} {v : Value} {m : Nat} {xs : List Value} (h : Bx w R cs T) (ho : Orow w base e size v m xs) (hk : v.ownBlock = some k) (hT : T ≠ e) : R ≠ k := fun e' => by
  subst e'
  rcases ho.2 with ⟨rfl, _⟩ | ⟨g, o, cap, cur, rfl, _, hgg, _⟩
  · simp [Value.ownBlock] at hk
  · simp [Value.ownBlock] at hk
    subst hk
    unfold Bx at h
    rw [h] at hgg
    injection hgg with hgg
    injection hgg with _ hgg _
    exact hT hgg
theorem map_row {k e size : Nat} {v : Value} {m : Nat} {xs : List Value} {f : ByteArray → Option Nat} (h : MPa w M n f) (ho : Orow w base e size v m xs) (hk : v.ownBlock = some k) : M ≠ k := fun e' => by
  subst e'
  rcases ho.2 with ⟨rfl, _⟩ | ⟨g, o, cap, cur, rfl, _, hgg, _⟩
  · simp [Value.ownBlock] at hk
  · simp [Value.ownBlock] at hk
    subst hk
    obtain ⟨D, ⟨es, clock, hb, _⟩, _⟩ := h
    rw [hgg] at hb
    cases hb
end
theorem blkF_none {S : List En} {x : ByteArray} (h : ∀ e ∈ S, e.who ≠ x) : blkF S x = none := by
  unfold blkF
  rw [List.find?_eq_none.2 (fun e he => by simpa using h e he)]
  rfl
theorem blkF_app {S : List En} {e : En} (h : ∀ y ∈ S, y.who ≠ e.who) : blkF (S ++ [e]) e.who = some e.blk := by
  unfold blkF
  rw [List.find?_append, List.find?_eq_none.2 (fun y hy => by simpa using h y hy)]
  simp
theorem blkF_other {S : List En} {e : En} {x : ByteArray} (h : x ≠ e.who) : blkF (S ++ [e]) x = blkF S x := by
  unfold blkF
  rw [List.find?_append]
  simp [Ne.symm h]
theorem blkF_tail {S : List En} {e : En} {x : ByteArray} (h : x ≠ e.who) : blkF (e :: S) x = blkF S x := by
  unfold blkF
  simp [List.find?_cons, Ne.symm h]
end Go.Proofs.YtelboefeomnjaaaGreat

/-
  Chapter 15: one comes to a limiter, one goes. (The verifier's own text.)
-/
namespace Go.Proofs.YtelboefeomnjaaaGreat
set_option linter.unusedVariables false
set_option linter.unusedSimpArgs false
open Go.RowKit Go.Shelf Go.Maps

theorem lk_lim (cs : Array Value) : LK (.cells cs 68 (0, 0)) := .inl rfl
theorem lk_par (cs : Array Value) : LK (.cells cs 72 (0, 0)) := .inr (.inl rfl)
theorem lk_acc (cs : Array Value) : LK (.cells cs 80 (0, 0)) := .inr (.inr rfl)
theorem lk_map (es : Array MapEntry) (c : Nat) : LK (.map es c) := trivial
theorem row_ft {w w' : World} {b e size n base : Nat} {v : Value} {xs : List Value} {K : Obj → Prop} (ho : Orow w b e size v n xs) (hg : w.grownBy w' v.ownBlock) (hK : ∀ cs, K (.cells cs e (0, 0))) (hb : base ≤ b) : Ft K base w w' := by
  rcases ho.2 with ⟨rfl, _⟩ | ⟨g, o, cap, cur, rfl, hbg, hgg, _⟩
  · exact Ft.idle hg
  · exact Ft.one hg hgg (hK _) (Nat.le_trans hb hbg)
theorem map_ft {w w' : World} {M n base : Nat} {f : ByteArray → Option Nat} (h : MPa w M n f) (hg : w.grownBy w' (some M)) (hb : base ≤ M) : Ft LK base w w' := by
  obtain ⟨D, ⟨es, clock, hM, _⟩, _⟩ := h
  exact Ft.one hg hM (lk_map _ _) hb

/-- one more -/
theorem Lim.push {w wb w5 W w7 : World} {L M base n A g f cap : Nat} {qv : Value} {rate burst now : Int} {S : List En} {x : ByteArray} (h : Lim w L M base qv n rate burst S)
    (hx : paG x) (hnew : ∀ e ∈ S, e.who ≠ x) (hlen : S.length < 1000) (hb0 : 0 ≤ burst) (hnow : (Lit.int .i64 now).wf = true)
    (gb : w.grownBy wb none) (hA : Bx wb A #[.int .i64 burst, .int .i64 now] 80) (hAn : w.heap.size ≤ A)
    (m5 : MPa w5 M (n + 1) (blkF (S ++ [⟨x, A, burst, now⟩]))) (g5 : wb.grownBy w5 (some M)) (gW : w5.grownBy W none)
    (o7 : Orow w7 base 72 8 (.slice (some ⟨g, f * 8, none⟩) (S.length + 1) cap) (S.length + 1) (rowV paC (S.map (·.who)) ++ paC x)) (g7 : W.grownBy w7 qv.ownBlock) (hg : qv.ownBlock = some g ∨ g = W.heap.size) :
    Lim (w7.setCell ⟨L, 3, none⟩ (.slice (some ⟨g, f * 8, none⟩) (S.length + 1) cap)) L M base (.slice (some ⟨g, f * 8, none⟩) (S.length + 1) cap) (n + 1) rate burst (S ++ [⟨x, A, burst, now⟩]) ∧ Ft LK base w (w7.setCell ⟨L, 3, none⟩ (.slice (some ⟨g, f * 8, none⟩) (S.length + 1) cap)) := by
  have hb := h.grown gb
  have nLM : L ≠ M := bx_map hb.bx hb.mp
  have nAM : A ≠ M := bx_map hA hb.mp
  have x5 := hb.bx.grown g5 (by simp; omega)
  have q5 := hb.q.kept g5 (fun k e e' => by cases e'; exact map_row hb.mp hb.q e rfl)
  have a5 : ∀ e ∈ S, Bx w5 e.blk #[.int .i64 e.left, .int .i64 e.last] 80 := fun e he => (hb.ac e he).1.grown g5 (by have := bx_map (hb.ac e he).1 hb.mp; simp; omega)
  have A5 := hA.grown g5 (by simp; omega)
  have xW := x5.grown gW (by simp)
  have qW := q5.kept gW (fun _ _ => by simp)
  have AW := A5.grown gW (by simp)
  have mW := m5.grown gW (by simp)
  have x7 := xW.grown g7 (fun e => bx_row xW qW e (by decide) rfl)
  have A7 := AW.grown g7 (fun e => bx_row AW qW e (by decide) rfl)
  have a7 : ∀ e ∈ S, Bx w7 e.blk #[.int .i64 e.left, .int .i64 e.last] 80 := fun e he => ((a5 e he).grown gW (by simp)).grown g7 (fun e' => bx_row ((a5 e he).grown gW (by simp)) qW e' (by decide) rfl)
  have m7 := mW.grown g7 (fun e => map_row mW qW e.symm rfl)
  have g8 := grown_set w7 L 3 (.slice (some ⟨g, f * 8, none⟩) (S.length + 1) cap)
  have x8 : Bx (w7.setCell ⟨L, 3, none⟩ (.slice (some ⟨g, f * 8, none⟩) (S.length + 1) cap)) L #[.int .i64 rate, .int .i64 burst, .map (some M), .slice (some ⟨g, f * 8, none⟩) (S.length + 1) cap] 68 := x7.set 3 _
  have hlt : ∀ e ∈ S, e.blk < w.heap.size := fun e he => (h.ac e he).1.lt
  refine ⟨⟨x8, m7.grown g8 (by simp; omega), ?_, ?_, ?_, ?_, ?_, by simp; omega, h.bL, h.bM, Nat.le_trans h.bW (Nat.le_trans gb.size (Nat.le_trans g5.size (Nat.le_trans gW.size (Nat.le_trans g7.size g8.size))))⟩, ?_⟩
  · have := o7.kept g8 (fun k e e' => bx_row x7 o7 e (by decide) (Option.some.inj e'))
    rw [List.length_append, List.map_append, rowV_app]
    simpa [rowV] using this
  · intro e he
    rcases List.mem_append.1 he with he | he
    · exact ⟨(a7 e he).grown g8 (by have := bx_kind x7 (a7 e he) (by decide); simp; omega), (h.ac e he).2⟩
    · obtain rfl := List.mem_singleton.1 he
      exact ⟨A7.grown g8 (by have := bx_kind x7 A7 (by decide); simp; omega), Nat.le_trans h.bW hAn⟩
  · intro e he
    rcases List.mem_append.1 he with he | he
    · exact h.good e he
    · obtain rfl := List.mem_singleton.1 he
      exact ⟨hx, hb0, Int.le_refl _, hnow⟩
  · rw [List.map_append]
    refine List.nodup_append.2 ⟨h.who, by simp, fun a ha b hb e => ?_⟩
    obtain ⟨y, hy, rfl⟩ := List.mem_map.1 ha
    have hbx : b = x := by simpa using hb
    exact hnew y hy (e.trans hbx)
  · rw [List.map_append]
    refine List.nodup_append.2 ⟨h.blk, by simp, fun a ha b hb e => ?_⟩
    obtain ⟨y, hy, rfl⟩ := List.mem_map.1 ha
    have hbx : b = A := by simpa using hb
    have := hlt y hy
    omega
  · exact (Ft.idle gb).trans ((map_ft hb.mp g5 h.bM).trans ((Ft.idle gW).trans ((row_ft qW g7 lk_par (Nat.le_refl _)).trans (Ft.one g8 x7 (lk_lim _) h.bL))))

theorem Lim.push0 {w wb w5 W w7 : World} {L M base n : Nat} {qv : Value} {rate burst : Int} {S : List En} (h : Lim w L M base qv n rate burst S)
    (gb : w.grownBy wb none) (g5 : wb.grownBy w5 (some M)) (gW : w5.grownBy W none) (g7 : W.grownBy w7 qv.ownBlock) : w7.cell? ⟨L, 3, none⟩ = some qv ∧ w7.frozen? ⟨L, 3, none⟩ = false := by
  have hb := h.grown gb
  have nLM : L ≠ M := bx_map hb.bx hb.mp
  have x5 := hb.bx.grown g5 (by simp; omega)
  have q5 := hb.q.kept g5 (fun k e e' => by cases e'; exact map_row hb.mp hb.q e rfl)
  have xW := x5.grown gW (by simp)
  have qW := q5.kept gW (fun _ _ => by simp)
  have x7 := xW.grown g7 (fun e => bx_row xW qW e (by decide) rfl)
  exact ⟨x7.cell rfl, x7.free 3⟩
/-- the first one goes -/
theorem Lim.pop {w w2 : World} {L M base n g o cap : Nat} {qv : Value} {rate burst : Int} {e0 : En} {T : List En} (h : Lim w L M base qv n rate burst (e0 :: T))
    (m2 : MPa w2 M n (blkF T)) (g2 : w.grownBy w2 (some M)) (hq : Orow w base 72 8 (.slice (some ⟨g, o * 8 + 8, none⟩) T.length (cap - 1)) T.length (rowV paC (T.map (·.who)))) :
    Lim (w2.setCell ⟨L, 3, none⟩ (.slice (some ⟨g, o * 8 + 8, none⟩) T.length (cap - 1))) L M base (.slice (some ⟨g, o * 8 + 8, none⟩) T.length (cap - 1)) n rate burst T ∧ Ft LK base w (w2.setCell ⟨L, 3, none⟩ (.slice (some ⟨g, o * 8 + 8, none⟩) T.length (cap - 1))) := by
  have nLM : L ≠ M := bx_map h.bx h.mp
  have x2 := h.bx.grown g2 (by simp; omega)
  have q2 := hq.kept g2 (fun k e e' => by cases e'; exact map_row h.mp hq e rfl)
  have a2 : ∀ e ∈ e0 :: T, Bx w2 e.blk #[.int .i64 e.left, .int .i64 e.last] 80 := fun e he => (h.ac e he).1.grown g2 (by have := bx_map (h.ac e he).1 h.mp; simp; omega)
  have g3 := grown_set w2 L 3 (.slice (some ⟨g, o * 8 + 8, none⟩) T.length (cap - 1))
  refine ⟨⟨x2.set 3 _, m2.grown g3 (by simp; omega), q2.kept g3 (fun k e e' => bx_row x2 q2 e (by decide) (Option.some.inj e')), fun e he => ⟨(a2 e (by simp [he])).grown g3 (by have := bx_kind x2 (a2 e (by simp [he])) (by decide); simp; omega), (h.ac e (by simp [he])).2⟩, fun e he => h.good e (by simp [he]), ?_, ?_, ?_, h.bL, h.bM, Nat.le_trans h.bW (Nat.le_trans g2.size g3.size)⟩, ?_⟩
  · have := h.who; simp only [List.map_cons, List.nodup_cons] at this; exact this.2
  · have := h.blk; simp only [List.map_cons, List.nodup_cons] at this; exact this.2
  · have := h.len; simp at this; omega
  · exact (map_ft h.mp g2 h.bM).trans (Ft.one g3 x2 (lk_lim _) h.bL)
end Go.Proofs.YtelboefeomnjaaaGreat
