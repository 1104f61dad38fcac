import Derived.Test.YtdaimcccdleodaaGr0
import Derived.Test.YtdaimcccdleodaaMf0
/-
  Chapter 15: who is one; the map of a limiter. (The verifier's own text.)
-/
namespace Go.Proofs.Ytdaimcccdleodaa
set_option linter.unusedVariables false
set_option linter.unusedSimpArgs false
open Go.RowKit Go.Shelf Go.Maps

theorem hidep {p : Prop} (h : p) : Hid p := h
/-- a byte of what tells one from another -/
def pb (x : ByteArray) (i : Nat) : Int := ((x.data.toList.getD i 0).toNat : Int)
/-- how many bytes the address has -/
def psz (x : ByteArray) : Int := if x.size = 3 then 4 else 16
theorem pb_wf (x : ByteArray) (i : Nat) : (Lit.int .u8 (pb x i)).wf = true := by
  unfold pb
  have := (x.data.toList.getD i 0).toNat_lt
  generalize (x.data.toList.getD i 0).toNat = n at *
  simp [Lit.wf, IntKind.min, IntKind.max, IntKind.bits, IntKind.signed]
  omega
theorem psz_wf (x : ByteArray) : (Lit.int .i64 (psz x)).wf = true := by
  unfold psz
  split <;> decide
/-- a party -/
def paV (x : ByteArray) : Value := .agg #[.int .i64 (psz x), .int .u8 (pb x 0), .int .u8 (pb x 1), .int .u8 (pb x 2), .int .u8 (pb x 3), .int .u8 (pb x 4), .int .u8 (pb x 5), .int .u8 (pb x 6)]
def paC (x : ByteArray) : List Value := [.int .i64 (psz x), .int .u8 (pb x 0), .int .u8 (pb x 1), .int .u8 (pb x 2), .int .u8 (pb x 3), .int .u8 (pb x 4), .int .u8 (pb x 5), .int .u8 (pb x 6)]
def paL (x : ByteArray) : Lit := .string (keyBytes [.int .i64 (psz x), .int .u8 (pb x 0), .int .u8 (pb x 1), .int .u8 (pb x 2), .int .u8 (pb x 3), .int .u8 (pb x 4), .int .u8 (pb x 5), .int .u8 (pb x 6)])
def paG (x : ByteArray) : Prop := x.size = 3 ∨ x.size = 7
theorem paRow : (59 : TypeId) < Try.prog.types.size := of_decide_eq_true (by kernel_rfl)
theorem paWide : (match Try.prog.underlying 59 with | some (.array _ _) | some (.struct _) => true | _ => false) = true := by kernel_rfl
set_option maxRecDepth 100000 in
theorem paKeyed : Keyed Try.prog 59 := Keyed.of_law (deep_law_laid zlaid (m := 4) (by omega) paRow (by kernel_rfl) paWide)
theorem paType : Try.prog.keyType 59 = true := by kernel_rfl
theorem paCells : Try.prog.cellsOf 59 = 8 := by kernel_rfl
theorem arCells : Try.prog.cellsOf 57 = 7 := by kernel_rfl
theorem byCells : Try.prog.cellsOf 5 = 1 := by kernel_rfl
theorem paKey (x : ByteArray) : keyOf Try.prog 59 (paV x) = some (paL x) := by
  have h0 := psz_wf x
  have h1 := pb_wf x 0
  have h2 := pb_wf x 1
  have h3 := pb_wf x 2
  have h4 := pb_wf x 3
  have h5 := pb_wf x 4
  have h6 := pb_wf x 5
  have h7 := pb_wf x 6
  obtain ⟨m, hm⟩ := ztypes
  obtain ⟨m, rfl⟩ : ∃ q, m = q + 1 := ⟨m - 1, by
    have : (2 : Nat) ≤ Try.prog.types.size := of_decide_eq_true (by kernel_rfl)
    omega⟩
  unfold keyOf
  rw [Try.underlying59, hm]
  simp [show List.range 7 = [0, 1, 2, 3, 4, 5, 6] from rfl, paType, Value.formed, Try.underlying59, Try.underlying57, paCells, arCells, byCells, zcInt, paV, Value.cells, Program.keyLits, Try.underlying5, Try.underlying3, h0, h1, h2, h3, h4, h5, h6, h7, paL]
theorem paV_inj {x y : ByteArray} (hx : paG x) (hy : paG y) (h : paV x = paV y) : x = y := by
  unfold paG at hx hy
  simp only [paV, Value.agg.injEq, Array.mk.injEq, List.cons.injEq, Value.int.injEq, true_and, and_true] at h
  obtain ⟨h0, h1, h2, h3, h4, h5, h6, h7⟩ := h
  have hs : x.size = y.size := by
    unfold psz at h0
    rcases hx with hx | hx <;> rcases hy with hy | hy <;> simp_all
  have hb : ∀ i : Nat, i < 7 → x.data.toList.getD i 0 = y.data.toList.getD i 0 := by
    intro i hi
    apply UInt8.toNat_inj.1
    have : pb x i = pb y i := by
      match i, hi with
      | 0, _ => exact h1
      | 1, _ => exact h2
      | 2, _ => exact h3
      | 3, _ => exact h4
      | 4, _ => exact h5
      | 5, _ => exact h6
      | 6, _ => exact h7
    unfold pb at this
    exact Int.ofNat_inj.1 this
  have hl : ∀ z : ByteArray, z.data.toList.length = z.size := fun z => rfl
  have : x.data.toList = y.data.toList := by
    apply List.ext_getElem
    · rw [hl, hl, hs]
    · intro i h1 h2
      have := hb i (by rw [hl] at h1; omega)
      rw [List.getD_eq_getElem?_getD, List.getD_eq_getElem?_getD, List.getElem?_eq_getElem h1, List.getElem?_eq_getElem h2] at this
      exact this
  obtain ⟨⟨l⟩⟩ := x
  obtain ⟨⟨k⟩⟩ := y
  simp only at this
  rw [this]
theorem paL_inj {x y : ByteArray} (hx : paG x) (hy : paG y) (h : paL x = paL y) : x = y := paV_inj hx hy (paKeyed.inj (paKey x) (h ▸ paKey y))
theorem isKey_pa (x : ByteArray) : WideAt.IsKeyLit (paL x) := trivial

/-- pointers to accounts, as data -/
def ptV (o : Option Nat) : Value := .pointer (o.map fun b => ⟨b, 0, none⟩)
def ptE (v : Value) : Option (DataW Unit × List MemPlace) := match v with
  | .pointer none => some (.lit (.int .i64 (-1)), [])
  | .pointer (some ⟨b, 0, none⟩) => some (.lit (.int .i64 (b : Int)), [])
  | _ => none
def ptD (b : Nat) : DataW Unit := .lit (.int .i64 (b : Int))
theorem ptE_mk (b : Nat) : ptE (ptV (some b)) = some (ptD b, []) := rfl
theorem ptE_inv {v : Value} {b : Nat} {ps : List MemPlace} (h : ptE v = some (ptD b, ps)) : v = ptV (some b) := by
  unfold ptE at h
  split at h
  · simp [ptD] at h
    try omega
  · simp [ptD] at h
    obtain ⟨h, _⟩ := h
    have h := Int.ofNat_inj.1 h
    subst h
    rfl
  · cases h
theorem ptE_inv0 {v : Value} {ps : List MemPlace} (h : ptE v = some (.lit (.int .i64 (-1)), ps)) : v = ptV none := by
  unfold ptE at h
  split at h
  · rfl
  · simp at h
    try omega
  · cases h
theorem ptZero (w : World) : (zeroValue 62).run Try.prog w = .ok (ptV none) w := by
  have hz : Try.t62.zero = some (ptV none) := by kernel_rfl
  simp [zeroValue, hz]
/-- the map of a limiter -/
abbrev MPa (w : World) (b n : Nat) (f : ByteArray → Option Nat) : Prop := Mf 59 ptE paL paG ptD w b n f
theorem MPa.look {w : World} {b n : Nat} {f : ByteArray → Option Nat} (h : MPa w b n f) {x : ByteArray} (hx : paG x) :
    (Instr.lookup 53 (.map (some b)) (paV x) true).run Try.prog w = .ok (.tuple #[ptV (f x), .bool (f x).isSome]) w := by
  obtain ⟨D, hown, hf⟩ := h
  obtain ⟨h1, h2⟩ := hf x hx
  obtain ⟨v, ps, hrun, hv⟩ := hown.look_ok paKeyed Try.underlying53 (ptZero w) (zd := .lit (.int .i64 (-1))) (zp := []) rfl (paKey x)
  rw [hrun, h1]
  have : v = ptV (f x) := by
    cases hfx : f x with
    | none =>
      rw [hfx] at h1
      rw [atKey_of_not_has h1] at hv
      exact ptE_inv0 hv
    | some y =>
      rw [h2 y hfx] at hv
      exact ptE_inv hv
  rw [this]
theorem MPa.store {w : World} {b n : Nat} {f f' : ByteArray → Option Nat} (h : MPa w b n f) {x : ByteArray} (hx : paG x) (y : Nat) (hn : n < maxLen) (h1 : f' x = some y) (h2 : ∀ z, paG z → z ≠ x → f' z = f z) :
    ∃ w', (Instr.mapUpdate 53 (.map (some b)) (paV x) (.pointer (some ⟨y, 0, none⟩))).run Try.prog w = .ok () w' ∧ MPa w' b (n + 1) f' ∧ w.grownBy w' (some b) := by
  obtain ⟨D, hown, hf⟩ := h
  obtain ⟨w', hrun, hown', hg⟩ := hown.update paKeyed Try.underlying53 hn (paKey x) (ptE_mk y)
  exact ⟨w', hrun, mf_put paKeyed hown.isMap hf (fun x _ => isKey_pa x) (fun x y hx hy => paL_inj hx hy) hx hown' h1 h2, hg⟩
theorem MPa.drop {w : World} {b n : Nat} {f f' : ByteArray → Option Nat} (h : MPa w b n f) {x : ByteArray} (hx : paG x) (ty : TypeId) (h1 : f' x = none) (h2 : ∀ z, paG z → z ≠ x → f' z = f z) :
    ∃ w', (Builtin.delete_ #[53, 59] ty #[.map (some b), paV x]).run Try.prog w = .ok (.tuple #[]) w' ∧ MPa w' b n f' ∧ w.grownBy w' (some b) := by
  obtain ⟨D, hown, hf⟩ := h
  obtain ⟨w', hrun, hown', hg⟩ := hown.drop paKeyed Try.underlying53 (paKey x) ty
  exact ⟨w', hrun, mf_del hf (fun x y hx hy => paL_inj hx hy) hx hown' h1 h2, hg.grown⟩
end Go.Proofs.Ytdaimcccdleodaa
