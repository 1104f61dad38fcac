import Derived.Test.YtfofdcacikbflaaDoorTo1G
import Derived.Test.YtfofdcacikbflaaDoorTie
import Derived.Test.YtfofdcacikbflaaDoorCards
import Derived.Stop.LaidErr
import Derived.Lay
import Derived.OpenShut
import Derived.ChangeSame
namespace Go.Proofs.YtfofdcacikbflaaDoor
set_option linter.unusedVariables false
open Go.RowKit Go.Shelf Go.ChangeShapes Go.Proofs.YtfofdcacikbflaaDoor.Nm

theorem gES : Tryd.prog.globalNamed "strconv.ErrSyntax" = some 2 := by kernel_rfl
theorem gESType : (Tryd.prog.globals[2]?).map (·.type) = some 54 := by kernel_rfl
theorem gER : Tryd.prog.globalNamed "strconv.ErrRange" = some 3 := by kernel_rfl
theorem gERType : (Tryd.prog.globals[3]?).map (·.type) = some 54 := by kernel_rfl
theorem gTW : Tryd.prog.globalNamed "gazetteer/data.typeWords" = some 0 := by kernel_rfl
theorem gTWType : (Tryd.prog.globals[0]?).map (·.type) = some 33 := by kernel_rfl
theorem gPowType : (Tryd.prog.globals[1]?).map (·.type) = some 90 := by kernel_rfl
theorem cellsES : Tryd.prog.cellsOf 104 = 1 := by kernel_rfl
theorem cellsStr : Tryd.prog.cellsOf 9 = 1 := by kernel_rfl
theorem cellsInt1 : Tryd.prog.cellsOf 3 = 1 := by kernel_rfl
theorem cellsRow : Tryd.prog.cellsOf 32 = 2 := by kernel_rfl
theorem cellsArr : Tryd.prog.cellsOf 33 = 46 := by kernel_rfl
theorem starES : "*" ++ "errors.errorString" = "*errors.errorString" := by decide
/-- the one type of that name -/
theorem rowES (u : TypeId) (h : Tryd.prog.typeName? 3 u = some "*errors.errorString") : u = 102 :=
  typeName_ptr_named (nm := "errors.errorString") (by rw [starES]; kernel_rfl) (by kernel_rfl) (by decide) u (by rw [starES]; exact h)

/-- a row of the table, as it reads -/
def rowD (r : Nat × ByteArray) : DataW Unit := .agg [.lit (.int .i64 (r.1 : Int)), .lit (.string r.2.data.toList)]
theorem tw_datum : Rows.laid_gazetteer_data_typeWords (H := Unit) = .agg (tw.map rowD) := rfl
/-- a table that reads so holds just these cells -/
theorem tw_cells {W : World} {fuel : Nat} {cs : List Value} {p : List MemPlace} (h : DataW.trod (fun _ => ()) Tryd.prog W 0 (fun _ => true) false fuel 33 cs = some (.agg (tw.map rowD), p)) : cs = twV := by
  obtain ⟨xs, m, rfl, hx, hl, hxl, hf⟩ := DataW.trod_array Tryd.underlying33 h
  rw [cellsArr] at hl
  rw [cellsRow] at hf
  have hx1 : tw.map rowD = xs.map (·.1) := by
    have := congrArg Prod.fst hx
    simpa using this
  have key : ∀ i, (hi : i < 23) → cs[i * 2]? = some (.int .i64 ((tw[i]'(by rw [tw_len]; exact hi)).1 : Int)) ∧ cs[i * 2 + 1]? = some (.string (tw[i]'(by rw [tw_len]; exact hi)).2) := fun i hi => by
    have hit : i < tw.length := by rw [tw_len]; exact hi
    have h1 := hf i hi
    have hxi : i < xs.length := by omega
    rw [List.getElem?_eq_getElem hxi] at h1
    have h2 : rowD tw[i] = (xs[i]).1 := by
      have := congrArg (·[i]?) hx1
      simpa [hit, hxi] using this
    obtain ⟨y0, y1, n, hy, _, h3, h4⟩ := trod_struct2 Tryd.underlying32 h1
    obtain ⟨z, hz, rfl, _⟩ := DataW.trod_int Tryd.underlying3 h3
    obtain ⟨s, hs, rfl, _⟩ := DataW.trod_string Tryd.underlying9 h4
    rw [hy] at h2
    simp only [rowD, DataW.agg.injEq, List.cons.injEq, DataW.lit.injEq, Lit.int.injEq, Lit.string.injEq, true_and, and_true] at h2
    obtain ⟨h5, h6⟩ := h2
    have h7 : tw[i].2 = s := by apply ByteArray.ext; apply Array.toList_inj.1; exact h6
    constructor
    · have := congrArg (·[0]?) hz
      rw [h5]
      simpa [cellsInt1, List.getElem?_take, List.getElem?_drop] using this
    · have := congrArg (·[0]?) hs
      rw [h7]
      simpa [cellsStr, List.getElem?_take, List.getElem?_drop] using this
  have hlt : twV.length = 46 := rfl
  apply List.ext_getElem?
  intro j
  by_cases hj : j < 46
  · obtain ⟨k1, k2⟩ := key (j / 2) (by omega)
    obtain ⟨g1, g2⟩ := tw_get tw (j / 2) (by rw [tw_len]; omega)
    rcases (show j = j / 2 * 2 ∨ j = j / 2 * 2 + 1 by omega) with e | e
    · rw [e, k1]; exact g1.symm
    · rw [e, k2]; exact g2.symm
  · rw [List.getElem?_eq_none (by omega), List.getElem?_eq_none (by omega)]
theorem tw_of_head {W : World} {rest : List (String × DataW Unit)} (h : laidMet Tryd.prog (("gazetteer/data.typeWords", Rows.laid_gazetteer_data_typeWords) :: rest) W) : TW W := by
  obtain ⟨ps, ⟨g', t', cs, fuel, p, q, hg', ht', hvar, hd, _, _⟩, _⟩ := h
  obtain rfl := Option.some.inj (gTW.symm.trans hg')
  obtain rfl := Option.some.inj (gTWType.symm.trans ht')
  rw [tw_datum] at hd
  have hc := tw_cells hd
  unfold World.var? at hvar
  rw [gTW] at hvar
  simp only [Option.bind_some] at hvar
  split at hvar
  · rename_i cs' ty fr hh
    injection hvar with hvar
    subst hvar
    refine ⟨ty, fr, ?_⟩
    rw [hh, ← hc]
  · cases hvar
theorem gw_of_laid {W : World} (h : laidMet Tryd.prog Rows.dataTypesUptoRow.laid W) : GW W := by
  have h2 : laidMet Tryd.prog [("internal/strconv.uint64pow10", Rows.laid_internal_strconv_uint64pow10), ("strconv.ErrRange", Rows.laid_strconv_ErrRange), ("strconv.ErrSyntax", Rows.laid_strconv_ErrSyntax), ("gazetteer/data.typeWords", Rows.laid_gazetteer_data_typeWords)] W := h.tail.tail
  obtain ⟨a1, s1, hv1, -, -, -⟩ := laid_sentinel h2.tail gER gERType Tryd.underlying54 rowES Tryd.underlying102 Tryd.underlying104 rfl rfl Tryd.underlying9 cellsES cellsStr
  obtain ⟨a0, s0, hv0, -, -, -⟩ := laid_sentinel h2.tail.tail gES gESType Tryd.underlying54 rowES Tryd.underlying102 Tryd.underlying104 rfl rfl Tryd.underlying9 cellsES cellsStr
  refine ⟨tw_of_head h2.tail.tail.tail, ?_, ⟨_, _, by have h0 := World.var?_cell gES hv0 0; simpa using h0, .inr ⟨_, _, rfl⟩, by have h0 := World.var?_cell gER hv1 0; simpa using h0, .inr ⟨_, _, rfl⟩⟩⟩
  exact Lib.tabIs_of_head (t := 90) gPow gPowType Tryd.underlying90 Tryd.underlying52 (by kernel_rfl) (by kernel_rfl) h2
end Go.Proofs.YtfofdcacikbflaaDoor
