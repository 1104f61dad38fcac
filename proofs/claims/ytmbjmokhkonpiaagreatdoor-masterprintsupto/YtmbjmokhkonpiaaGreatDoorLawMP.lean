import Derived.Test.YtmbjmokhkonpiaaGreatDoorMx7G
import Derived.Test.YtmbjmokhkonpiaaGreatDoorFr0G
import Derived.Shelf.LaysM
import Derived.SevenTiedAt
import Derived.ProofKit
import Derived.OpenShut
import Derived.JoinedCond
import Derived.ShutString
import Derived.ChangeOld
import Derived.ChangeSlices
import Derived.Carry
import Derived.Deep.DeepHandedRow
namespace Go.Proofs.YtmbjmokhkonpiaaGreatDoor.masterPrintsP
set_option linter.unusedVariables false
open Go.ChangeShapes Go.WideShapes Go.ChangeAt Go.RowKit Go.Deep
open Go.ChangeMaps (open_string shut_string)

theorem own : ownKnob Tryz.prog.godebug = none := by kernel_rfl
theorem laidOut : laidOutB Tryz.prog = true := by kernel_rfl

theorem gmS (W : World) (h : W.ShapedOpen Tryz.prog) : Gm W := Go.Proofs.cell_of_shapedOpen_int (zero := #[.int .i64 0]) (t := 3) h (of_decide_eq_true (by kernel_rfl)) (by kernel_rfl) rfl (by kernel_rfl) (by kernel_rfl) Tryz.underlying3
set_option maxRecDepth 100000 in
theorem contract (H : Type) (enc : TypeId × Value → H) (W : World) (base : Nat) (args : Array Value) (ds gs : List (DataW H)) (before : List MemPlace)
    (hval : ∀ (j : Nat) t v, Tryz.f3.params[j]? = some t → args[j]? = some v → Value.okWide Tryz.prog W .any base t v)
    (hW : DataW.Whole enc Tryz.prog Tryz.f3.params.toList Rows.masterPrintsSpec.vars false W args.toList ds gs before) (hk : Rows.uptoSmall H (ds ++ gs) = true) (hL : laidMetH Tryz.prog Rows.masterPrintsUptoRow.laid W) (hsh : W.ShapedOpen Tryz.prog) :
    Calls Tryz.prog 3 args W fun e W' => ∃ v, e = .returned v ∧ Rows.masterPrintsSpec.post enc Tryz.prog Tryz.f3 false true false false W args v W' := by
  have hW' := hW
  obtain ⟨p, q, hA0, hV, rfl, _, _⟩ := hW
  have hA : DataW.TrodAll enc Tryz.prog W 0 (fun _ => true) true Tryz.f3.params.toList args.toList ds p := hA0
  rw [Tryz.params3] at hA hval
  obtain ⟨v0, vs0, d0, ds0, p0, q0, hargs, rfl, rfl, h0, r0⟩ := trodAll_cons hA
  obtain ⟨v1, vs1, d1, ds1, p1, q1, rfl, rfl, rfl, h1, r1⟩ := trodAll_cons r0
  obtain ⟨rfl, rfl, rfl⟩ := trodAll_nil r1
  obtain rfl : args = #[v0, v1] := by cases args; simp_all
  obtain ⟨rfl, rfl⟩ := trodVars_none hV
  obtain ⟨s1, rfl, rfl, rfl, m1⟩ := open_string Tryz.underlying9 (hval 1 9 v1 rfl rfl) h1
  have k0 := h0
  have lt0 : ∀ x ∈ p0, x.block < W.heap.size := by obtain ⟨m, hm⟩ := k0; exact DataW.trod_lt m _ _ _ hm
  obtain ⟨pa, ca, L, rfl, hno, hat, hz, hlb, hsb, hob, hca, hcm⟩ : ∃ (a : Option Addr) (cap : Nat) (L : List Rn), v0 = .slice a L.length cap ∧ (a = none → cap = 0) ∧ RsAt W a L ∧ (∀ q ∈ L, q.o.size ≤ maxLen ∧ q.d.size ≤ maxLen) ∧ L.length ≤ Rows.uptoBulk d0 ∧ (L.map fun x => x.d.size).sum ≤ Rows.uptoBulk d0 ∧ (∀ q ∈ L, q.o.size ≤ Rows.uptoBulk d0) ∧ L.length ≤ cap ∧ cap ≤ maxLen := by
    obtain ⟨fuel, hf⟩ := h0
    obtain ⟨z5, len5, cap5, hv5⟩ := okWide_slice Tryz.underlying22 (hval 0 22 v0 rfl rfl)
    have hc : v0.cells.toList = [v0] := by rw [hv5]; rfl
    rw [hc] at hf
    obtain ⟨a, cap, L, h1, h2, h3, h4, h5, h6, h7⟩ := Frm.rs_openM hf
    refine ⟨a, cap, L, h1, h2, h3, h4, h5, h6, h7, ?_⟩
    rcases open_slice Tryz.underlying22 hf with ⟨g1, _⟩ | ⟨a', len', cap', m', n', D', Pl', g1, _, hl, hm, _⟩
    · rw [h1] at g1
      injection g1 with g1 _
      injection g1 with g1 g2 g3
      exact ⟨by omega, by unfold maxLen; omega⟩
    · rw [h1] at g1
      injection g1 with g1 _
      injection g1 with g1 g2 g3
      subst g3
      exact ⟨by omega, hm⟩
  clear hA0
  have hb : Rows.uptoBulkAll [d0, DataW.lit (H := H) (.string s1.data.toList)] ≤ 1048576 := by
    have : Rows.uptoBulkAll ([d0, DataW.lit (H := H) (.string s1.data.toList)] ++ []) ≤ 1048576 := of_decide_eq_true hk
    rwa [List.append_nil] at this
  simp only [Rows.uptoBulkAll, Rows.uptoBulk, Array.length_toList] at hb
  have hs1 : s1.data.size = s1.size := rfl
  refine (masterPrints_any L pa ca s1 W (gd_laid hL (gmS W hsh)) hat ⟨hca, by unfold maxLen at hcm; omega⟩ hno (by omega) (by omega) (by unfold sumD; omega) (fun x hx => ⟨Nat.le_trans (hob x hx) (by omega), by have := (hz x hx).2; unfold maxLen at this; omega⟩)).mono fun e W' ⟨he, bel⟩ => ?_
  subst he
  exact ⟨_, rfl, _, _, _, [], _, [], hW', trodAll_mk1 (shut_bool Tryz.underlying4 _), (trodAll_cons_mk (Below.trod laidOut (by kernel_rfl) (of_decide_eq_true (by kernel_rfl)) k0 bel lt0) (trodAll_cons_mk (shut_string Tryz.underlying9 m1) trodAll_mk0)), rfl, bel.frame _, fun h => by cases h⟩

theorem laid_met (os : Os) : laidMetH Tryz.prog Rows.masterPrintsUptoRow.laid ((World.laidAll Tryz.prog os Rows.masterPrintsUptoRow.laid).forCall (fun _ _ => 0) ⟨#[], #[.slice none 0 0, .string .empty], []⟩).memory := by
  rw [MakeChecks.laidMetH_plain _ _ _ (by kernel_rfl)]; exact laidMet_laidAll _ (by kernel_rfl) (by kernel_rfl)
theorem reads (os : Os) {H : Type} (enc : TypeId × Value → H) : ∃ places, DataW.whole enc Tryz.prog ((World.laidAll Tryz.prog os Rows.masterPrintsUptoRow.laid).forCall (fun _ _ => 0) ⟨#[], #[.slice none 0 0, .string .empty], []⟩).memory Tryz.f3.params.toList Rows.masterPrintsSpec.vars false #[Value.slice none 0 0, Value.string .empty].toList 8 = some ([.nil, .lit (.string [])], [], places) :=
  ⟨[], by kernel_rfl⟩

set_option maxRecDepth 100000 in
theorem lifted (os : Os) (started : os.Started) (H : Type) (enc : TypeId × Value → H) (F : Stop.Interp) :
    ReturnsInHanded {} Tryz.checked os 3 .any ((Rows.OpenSpec.upto Rows.masterPrintsSpec).preRow enc Tryz.prog Tryz.f3 Rows.masterPrintsUptoRow.domain false Rows.masterPrintsUptoRow.laid) (((Rows.OpenSpec.upto Rows.masterPrintsSpec).at F).post enc Tryz.prog Tryz.f3 false true false false) := by
  obtain ⟨places, hx⟩ := reads os enc
  refine returnsInHanded_of_row (C := Tryz.checked) (s := (Rows.OpenSpec.upto Rows.masterPrintsSpec)) own started (by kernel_rfl) Tryz.func3
    (witness_row_at (enc := enc) (C := Tryz.checked) false (World.laidAll Tryz.prog os Rows.masterPrintsUptoRow.laid) #[.slice none 0 0, .string .empty] (World.laidAll_os _ _ _) (by kernel_rfl) (by kernel_rfl) (by kernel_rfl)
      (OpenSpec.preRow_of_cond 8 hx (by kernel_rfl) (fun k hk => by cases hk; kernel_rfl) (by kernel_rfl) (laid_met os))) ?_
  intro W base args ds gs before hval hW _ hc _ hL hsh _
  exact contract H enc W base args ds gs before hval hW (hc _ rfl) hL hsh

theorem said : Rows.MasterPrintsUptoSaid :=
  OpenClaim.holds_of_cond 3 Tryz.f3 rfl rfl rfl rfl rfl rfl rfl ⟨rfl, rfl, rfl, rfl, rfl⟩ rfl rfl rfl rfl rfl (by kernel_rfl) Tryz.func3 (by kernel_rfl)
    (of_decide_eq_true (by kernel_rfl)) (by unfold Func.isWrapper; first | (rw [if_pos (by decide +kernel)]; kernel_rfl) | (rw [if_neg (by decide +kernel)]; exact ⟨rfl, rfl⟩))
    (fun os started H enc _ F => by rw [OpenClaim.pre_eq_preRow]; exact lifted os started H enc F)

theorem plain (f : FuncId) (fn : Func) (hf : Tryz.pinned.checked.prog.funcNamed "gazetteer/gazetteerlaw2.MasterPrints" = some f) (hfn : Tryz.pinned.checked.prog.funcs[f]? = some fn) :
    true = Tryz.pinned.checked.prog.looks [] ∧ ∀ (j : Nat) t, fn.params[j]? = some t → Tryz.pinned.checked.prog.wantsStandIn t = false := by
  obtain rfl : f = 3 := Option.some.inj ((show Tryz.prog.funcNamed "gazetteer/gazetteerlaw2.MasterPrints" = some 3 by kernel_rfl).symm.trans hf) |>.symm
  obtain rfl : fn = Tryz.f3 := (Option.some.inj (Tryz.func3.symm.trans hfn)).symm
  refine ⟨by kernel_rfl, fun j t ht => ?_⟩
  rw [Tryz.params3] at ht
  have hm := Array.mem_of_getElem? ht
  simp only [List.mem_toArray, List.mem_cons, List.not_mem_nil, or_false] at hm
  rcases hm with rfl | rfl
  · exact (show Tryz.prog.wantsStandIn 22 = false by kernel_rfl)
  · exact (show Tryz.prog.wantsStandIn 9 = false by kernel_rfl)

theorem card : Rows.MasterPrintsUptoCardSaid :=
  Claim7.holds_tied_plain_at .later [] _ _ _ _ said (fun _ h => by cases h) (by kernel_rfl) (fun _ h => by cases h) masterPrintsUpto_row_tie rfl ⟨rfl, rfl⟩ (by kernel_rfl) rfl plain (by kernel_rfl)
end Go.Proofs.YtmbjmokhkonpiaaGreatDoor.masterPrintsP
namespace Go.Proofs.YtmbjmokhkonpiaaGreatDoor
theorem masterPrints_uptocard : Rows.MasterPrintsUptoCardSaid := masterPrintsP.card
end Go.Proofs.YtmbjmokhkonpiaaGreatDoor
