import Derived.Test.YtdaimcccdleodaaLf3
import Derived.Test.YtdaimcccdleodaaFr8
import Derived.Test.YtdaimcccdleodaaFr0
import Derived.ProofKit
import Derived.OpenShut
import Derived.JoinedCond
import Derived.ShutString
import Derived.ChangeOld
import Derived.ChangeSlices
import Derived.Carry
namespace Go.Proofs.Ytdaimcccdleodaa.policyFairP
set_option linter.unusedVariables false
open Go.ChangeShapes Go.WideShapes Go.ChangeAt Go.RowKit Go.Deep
open Go.ChangeMaps (open_string shut_string)

theorem own : ownKnob Try.prog.godebug = none := by kernel_rfl
theorem laid : laidOutB Try.prog = true := by kernel_rfl
section
variable {H : Type} {enc : TypeId × Value → H} {w : World} {base : Nat} {spare : Nat → Bool} {held : Bool}
theorem iw_cells {fuel : Nat} {cs : List Value} {x : DataW H × List MemPlace} (h : DataW.trod enc Try.prog w base spare held fuel 3 cs = some x) : ∃ k : Int, cs = iwV k ∧ (Lit.int .i64 k).wf = true := by
  obtain ⟨n1, e1, _, hw⟩ := DataW.trod_int Try.underlying3 h
  exact ⟨n1, e1, hw⟩
end
theorem policyFair_any (rate burst : Int) (s : ByteArray) (C : List Int) (cap : Nat) (p : Option Addr) (w : World) (hat : IwAt w p C) (hwf : ∀ c ∈ C, (Lit.int .i64 c).wf = true) :
    Calls Try.prog 5 #[.int .i64 rate, .int .i64 burst, .string s, .slice p C.length cap] w fun e w' => e = .returned (.bool true) ∧ Below w.heap.size w w' := by
  cases hg : goodB rate burst with
  | false => exact fair_bad rate burst s _ cap p w hg
  | true =>
    by_cases hn : 300 < C.length
    · exact fair_long rate burst s _ cap p w (good_iff hg) hn
    · cases hs : whoB s with
      | none => exact fair_none rate burst s C cap p w hs (good_iff hg) (by omega) hat hwf
      | some x => exact fair_some rate burst s C cap p w x hs (good_iff hg) (by omega) hat hwf
set_option maxRecDepth 100000 in
theorem contract (H : Type) (enc : TypeId × Value → H) (W : World) (base : Nat) (args : Array Value) (ds gs : List (DataW H)) (before : List MemPlace)
    (hval : ∀ (j : Nat) t v, Try.f5.params[j]? = some t → args[j]? = some v → Value.okWide Try.prog W .any base t v)
    (hW : DataW.Whole enc Try.prog Try.f5.params.toList Rows.policyFairSpec.vars false W args.toList ds gs before) :
    Calls Try.prog 5 args W fun e W' => ∃ v, e = .returned v ∧ Rows.policyFairSpec.post enc Try.prog Try.f5 false true false false W args v W' := by
  have hW' := hW
  have hlt := hW.lt
  obtain ⟨p, q, hA0, hV, rfl, _, _⟩ := hW
  have hA : DataW.TrodAll enc Try.prog W 0 (fun _ => true) true Try.f5.params.toList args.toList ds p := hA0
  rw [Try.params5] at hA hval
  obtain ⟨v0, vs0, d0, ds0, p0, q0, hargs, rfl, rfl, h0, r0⟩ := trodAll_cons hA
  obtain ⟨v1, vs1, d1, ds1, p1, q1, rfl, rfl, rfl, h1, r1⟩ := trodAll_cons r0
  obtain ⟨v3, vs3, d3, ds3, p3, q3, rfl, rfl, rfl, h3, r3⟩ := trodAll_cons r1
  obtain ⟨v2, vs2, d2, ds2, p2, q2, rfl, rfl, rfl, h2, r2⟩ := trodAll_cons r3
  obtain ⟨rfl, rfl, rfl⟩ := trodAll_nil r2
  obtain rfl : args = #[v0, v1, v3, v2] := by cases args; simp_all
  obtain ⟨rfl, rfl⟩ := trodVars_none hV
  obtain ⟨z0, rfl, rfl, rfl, m0⟩ := open_int Try.underlying3 (hval 0 3 v0 rfl rfl) h0
  obtain ⟨z1, rfl, rfl, rfl, m1⟩ := open_int Try.underlying3 (hval 1 3 v1 rfl rfl) h1
  obtain ⟨bs, rfl, rfl, rfl, m3⟩ := open_string Try.underlying9 (hval 2 9 v3 rfl rfl) h3
  have hsame2 : ∀ W' : World, Below W.heap.size W W' → DataW.Trod enc Try.prog W' 0 (fun b => decide (b < W.heap.size)) true 43 v2 d2 p2 :=
    fun W' hn => Below.trod laid (by kernel_rfl) (of_decide_eq_true (by kernel_rfl)) h2 hn (fun x hx => hlt x (by simp [hx]))
  clear hA0
  obtain ⟨a20, n20, c20, rfl⟩ := okWide_slice Try.underlying43 (hval 3 43 v2 rfl rfl)
  obtain ⟨f2, hf2⟩ := id h2
  haveI : Inhabited Int := ⟨0⟩
  obtain ⟨a2, c2, F, hv2, _, hat2, hl2, hwf⟩ := row_open (α := Int) (V := iwV) (C := 1) Try.underlying43 (by kernel_rfl) (by decide) (fun _ => rfl) (fun f cs y hy => iw_cells hy) (v := .slice a20 n20 c20) hf2
  injection hv2 with e1 e2 e3
  subst e1 e2 e3
  refine (policyFair_any z0 z1 bs F _ _ W hat2 hwf).mono fun e W' ⟨he, bel⟩ => ?_
  subst he
  exact ⟨_, rfl, _, _, _, [], _, [], hW', trodAll_mk1 (shut_bool Try.underlying4 _), (trodAll_cons_mk (shut_int Try.underlying3 m0) (trodAll_cons_mk (shut_int Try.underlying3 m1) (trodAll_cons_mk (shut_string Try.underlying9 m3) (trodAll_cons_mk (hsame2 W' bel) trodAll_mk0)))), rfl, bel.frame _, fun h => by cases h⟩

set_option maxRecDepth 100000 in
theorem lifted (os : Os) (started : os.Started) (H : Type) (enc : TypeId × Value → H) :
    ReturnsInHanded {} Try.checked os 5 .any (Rows.policyFairSpec.pre6 enc Try.prog Try.f5 Rows.policyFairRow.domain false) (Rows.policyFairSpec.post enc Try.prog Try.f5 false true false false) := by
  refine returnsInHanded_of_change (C := Try.checked) own started (by kernel_rfl) Try.func5
    (ChangeSpec.witness6 (enc := enc) (C := Try.checked) false ⟨#[], #[.int .i64 0, .int .i64 0, .string ⟨#[]⟩, .slice none 0 0], []⟩ 8 (by kernel_rfl) (by kernel_rfl) (by kernel_rfl) (by kernel_rfl)) ?_
  intro W base args ds gs before hval hW _ _
  exact contract H enc W base args ds gs before hval hW

theorem proved : Rows.PolicyFairSaid :=
  OpenClaim.holds_of_wide 5 Try.f5 rfl rfl rfl rfl rfl rfl rfl ⟨rfl, rfl, rfl, rfl, rfl⟩ rfl rfl rfl rfl rfl (by kernel_rfl) Try.func5 (by kernel_rfl)
    (of_decide_eq_true (by kernel_rfl)) (by unfold Func.isWrapper; first | (rw [if_pos (by decide +kernel)]; kernel_rfl) | (rw [if_neg (by decide +kernel)]; exact ⟨rfl, rfl⟩))
    (fun os started H enc _ => lifted os started H enc)
end Go.Proofs.Ytdaimcccdleodaa.policyFairP
namespace Go.Proofs.Ytdaimcccdleodaa
theorem policyFair_said : Rows.PolicyFairSaid := policyFairP.proved
end Go.Proofs.Ytdaimcccdleodaa
