import Derived.Test.YthabenjghhmicaaGreatZk4
import Derived.Test.YthabenjghhmicaaGreatFr0G
import Derived.ProofKit
import Derived.OpenShut
import Derived.JoinedCond
import Derived.ShutString
import Derived.ChangeOld
import Derived.ChangeSlices
import Derived.Carry
namespace Go.Proofs.YthabenjghhmicaaGreat.zoneRowedP
set_option linter.unusedVariables false
open Go.ChangeShapes Go.WideShapes Go.ChangeAt Go.RowKit Go.Deep
open Go.ChangeMaps (open_string shut_string)

theorem own : ownKnob Tryz.prog.godebug = none := by kernel_rfl
theorem laidOut : laidOutB Tryz.prog = true := by kernel_rfl
set_option maxRecDepth 100000 in
theorem contract (H : Type) (enc : TypeId × Value → H) (W : World) (base : Nat) (args : Array Value) (ds gs : List (DataW H)) (before : List MemPlace)
    (hval : ∀ (j : Nat) t v, Tryz.f9.params[j]? = some t → args[j]? = some v → Value.okWide Tryz.prog W .any base t v)
    (hW : DataW.Whole enc Tryz.prog Tryz.f9.params.toList Rows.zoneRowedSpec.vars false W args.toList ds gs before) (hk : Rows.uptoSmall H (ds ++ gs) = true) :
    Calls Tryz.prog 9 args W fun e W' => ∃ v, e = .returned v ∧ Rows.zoneRowedSpec.post enc Tryz.prog Tryz.f9 false true false false W args v W' := by
  have hW' := hW
  obtain ⟨p, q, hA0, hV, rfl, _, _⟩ := hW
  have hA : DataW.TrodAll enc Tryz.prog W 0 (fun _ => true) true Tryz.f9.params.toList args.toList ds p := hA0
  rw [Tryz.params9] at hA hval
  obtain ⟨v0, vs0, d0, ds0, p0, q0, hargs, rfl, rfl, h0, r0⟩ := trodAll_cons hA
  obtain ⟨v1, vs1, d1, ds1, p1, q1, rfl, rfl, rfl, h1, r1⟩ := trodAll_cons r0
  obtain ⟨rfl, rfl, rfl⟩ := trodAll_nil r1
  obtain rfl : args = #[v0, v1] := by cases args; simp_all
  obtain ⟨rfl, rfl⟩ := trodVars_none hV
  obtain ⟨s0, rfl, rfl, rfl, m0⟩ := open_string Tryz.underlying9 (hval 0 9 v0 rfl rfl) h0
  have k1 := h1
  have lt1 : ∀ x ∈ p1, x.block < W.heap.size := by obtain ⟨m, hm⟩ := k1; exact DataW.trod_lt m _ _ _ hm
  obtain ⟨pa1, ca1, L1, rfl, hno1, hat1, hz1, hlb1, hoz1, hca1, hcm1⟩ : ∃ (a : Option Addr) (cap : Nat) (L : List Rn), v1 = .slice a L.length cap ∧ (a = none → cap = 0) ∧ RsAt W a L ∧ (∀ q ∈ L, q.o.size ≤ maxLen ∧ q.d.size ≤ maxLen) ∧ L.length ≤ Rows.uptoBulk d1 ∧ (∀ q ∈ L, q.o.size + q.d.size ≤ Rows.uptoBulk d1) ∧ L.length ≤ cap ∧ cap ≤ maxLen := by
    obtain ⟨fuel, hf⟩ := h1
    obtain ⟨z5, len5, cap5, hv5⟩ := okWide_slice Tryz.underlying22 (hval 1 22 v1 rfl rfl)
    have hc : v1.cells.toList = [v1] := by rw [hv5]; rfl
    rw [hc] at hf
    obtain ⟨a, cap, L, h1, h2, h3, h4, h5, h6⟩ := Frj.rs_openJ hf
    refine ⟨a, cap, L, h1, h2, h3, h4, h5, h6, ?_⟩
    rcases open_slice Tryz.underlying22 hf with ⟨g1, _⟩ | ⟨a', len', cap', m', n', D', Pl', g1, _, hl, hm, _⟩
    · rw [h1] at g1
      injection g1 with g1 _
      injection g1 with g1 g2 g3
      exact ⟨by omega, by unfold maxLen; omega⟩
    · rw [h1] at g1
      injection g1 with g1 _
      injection g1 with g1 g2 g3
      subst g3
      exact ⟨by omega, hm⟩
  clear hA0
  have hb : Rows.uptoBulkAll [DataW.lit (H := H) (.string s0.data.toList), d1] ≤ 1048576 := by
    have : Rows.uptoBulkAll ([DataW.lit (H := H) (.string s0.data.toList), d1] ++ []) ≤ 1048576 := of_decide_eq_true hk
    rwa [List.append_nil] at this
  have e0 : s0.data.toList.length = s0.size := by rw [Array.length_toList]; rfl
  have f0 : Rows.uptoBulk (DataW.lit (H := H) (.string s0.data.toList)) = s0.data.toList.length + 1 := rfl
  simp only [Rows.uptoBulkAll] at hb
  rw [f0, e0] at hb
  clear e0 f0
  refine (zoneRowed_any s0 L1 pa1 ca1 W (by omega) (by omega) hat1 (fun k hk => by have := hoz1 _ (rAt_mem hk); exact ⟨by omega, by omega⟩)).mono fun e W' ⟨he, bel⟩ => ?_
  subst he
  exact ⟨_, rfl, _, _, _, [], _, [], hW', trodAll_mk1 (shut_bool Tryz.underlying4 _), (trodAll_cons_mk (shut_string Tryz.underlying9 m0) (trodAll_cons_mk (Below.trod laidOut (by kernel_rfl) (of_decide_eq_true (by kernel_rfl)) k1 bel lt1) trodAll_mk0)), rfl, bel.frame _, fun h => by cases h⟩

set_option maxRecDepth 100000 in
theorem lifted (os : Os) (started : os.Started) (H : Type) (enc : TypeId × Value → H) (F : Stop.Interp) :
    ReturnsInHanded {} Tryz.checked os 9 .any ((Rows.OpenSpec.upto Rows.zoneRowedSpec).pre6 enc Tryz.prog Tryz.f9 Rows.zoneRowedUptoRow.domain false) (((Rows.OpenSpec.upto Rows.zoneRowedSpec).at F).post enc Tryz.prog Tryz.f9 false true false false) := by
  refine returnsInHanded_of_cond (C := Tryz.checked) (s := Rows.OpenSpec.upto Rows.zoneRowedSpec) (k := Rows.uptoSmall) rfl own started (by kernel_rfl) Tryz.func9
    (OpenSpec.witness (enc := enc) (C := Tryz.checked) (s := Rows.OpenSpec.upto Rows.zoneRowedSpec) (k := Rows.uptoSmall) rfl false ⟨#[], #[.string .empty, .slice none 0 0], []⟩ 8 (by kernel_rfl) (by kernel_rfl) (by kernel_rfl)
      (x := ([.lit (.string []), .nil], [], [])) (by kernel_rfl) rfl (by kernel_rfl)) ?_
  intro W base args ds gs before hval hW _ hk _
  exact contract H enc W base args ds gs before hval hW hk

theorem proved : Rows.ZoneRowedUptoSaid :=
  OpenClaim.holds_of_cond 9 Tryz.f9 rfl rfl rfl rfl rfl rfl rfl ⟨rfl, rfl, rfl, rfl, rfl⟩ rfl rfl rfl rfl rfl (by kernel_rfl) Tryz.func9 (by kernel_rfl)
    (of_decide_eq_true (by kernel_rfl)) (by unfold Func.isWrapper; first | (rw [if_pos (by decide +kernel)]; kernel_rfl) | (rw [if_neg (by decide +kernel)]; exact ⟨rfl, rfl⟩))
    (fun os started H enc _ F => lifted os started H enc F)
end Go.Proofs.YthabenjghhmicaaGreat.zoneRowedP
namespace Go.Proofs.YthabenjghhmicaaGreat
theorem zoneRowed_upto : Rows.ZoneRowedUptoSaid := zoneRowedP.proved
end Go.Proofs.YthabenjghhmicaaGreat
