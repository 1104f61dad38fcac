import Derived.Test.YtdaimcccdleodaaLv3
import Derived.Test.YtdaimcccdleodaaFr8
import Derived.Test.YtdaimcccdleodaaFr0
import Derived.ProofKit
import Derived.OpenShut
import Derived.JoinedCond
import Derived.ShutString
import Derived.ChangeOld
import Derived.ChangeSlices
import Derived.Carry
namespace Go.Proofs.Ytdaimcccdleodaa.policyViewsP
set_option linter.unusedVariables false
open Go.ChangeShapes Go.WideShapes Go.ChangeAt Go.RowKit Go.Deep
open Go.ChangeMaps (open_string shut_string)

theorem own : ownKnob Try.prog.godebug = none := by kernel_rfl
theorem laid : laidOutB Try.prog = true := by kernel_rfl
theorem shapeP : shapesOf Try.prog 23 = some ([(9, 0, 1), (3, 1, 1)], 2) := by kernel_rfl
theorem shapeV : shapesOf Try.prog 50 = some ([(9, 0, 1), (48, 1, 1)], 2) := by kernel_rfl
section
variable {H : Type} {enc : TypeId × Value → H} {w : World} {base : Nat} {spare : Nat → Bool} {held : Bool}
theorem pf_cells {fuel : Nat} {cs : List Value} {x : DataW H × List MemPlace} (h : DataW.trod enc Try.prog w base spare held fuel 23 cs = some x) : ∃ k : Pf, cs = pfV k ∧ True := by
  obtain ⟨hl, k, hf⟩ := field_open shapeP h
  match cs, hl with
  | [x0, x1], _ =>
    obtain ⟨_, h0⟩ := hf 0 _ rfl
    obtain ⟨_, h1⟩ := hf 1 _ rfl
    obtain ⟨n0, e0⟩ := str1 h0
    obtain ⟨n1, e1⟩ := int1 h1
    refine ⟨(n0, n1), ?_, trivial⟩
    simp at e0 e1
    rw [e0, e1]
    rfl
theorem vw_cells {fuel : Nat} {cs : List Value} {x : DataW H × List MemPlace} (h : DataW.trod enc Try.prog w base spare held fuel 50 cs = some x) : ∃ k : Vw, cs = vwV k ∧ (k.nets.length ≤ 9223372036854775807 ∧ PfAt w k.p k.nets) := by
  obtain ⟨hl, k, hf⟩ := field_open shapeV h
  match cs, hl with
  | [x0, x1], _ =>
    obtain ⟨_, h0⟩ := hf 0 _ rfl
    obtain ⟨_, h1⟩ := hf 1 _ rfl
    obtain ⟨n0, e0⟩ := str1 h0
    haveI : Inhabited Pf := ⟨(⟨#[]⟩, 0)⟩
    obtain ⟨a, cap, L, e1, _, hat, hlen, _⟩ := row_open (α := Pf) (V := pfV) (C := 2) Try.underlying48 (by kernel_rfl) (by decide) (fun _ => rfl) (fun f cs y hy => pf_cells hy) (v := x1) (by simpa using h1)
    refine ⟨⟨n0, a, cap, L⟩, ?_, hlen, hat⟩
    simp at e0
    rw [e0, e1]
    rfl
theorem ss_cells {fuel : Nat} {cs : List Value} {x : DataW H × List MemPlace} (h : DataW.trod enc Try.prog w base spare held fuel 9 cs = some x) : ∃ k : ByteArray, cs = ssV k ∧ True := by
  obtain ⟨n0, e0⟩ := str1 h
  exact ⟨n0, e0, trivial⟩
end
theorem onePf : (Try.prog.underlying 23).bind (fun t => match t with | .struct fs => some (oneCellFields Try.prog fs && decide (Try.prog.cellsOf 23 = fs.size) && decide (fs.size = 2) && (fs.toList.map (·.type) == [9, 3])) | _ => none) = some true := by kernel_rfl
theorem array2 {cs : Array Value} (h : cs.size = 2) : cs = #[cs.toList.getD 0 undef, cs.toList.getD 1 undef] := by
  obtain ⟨l⟩ := cs
  match l, h with
  | [x0, x1], _ => rfl
/-- a net that comes in -/
theorem net_open {H : Type} {enc : TypeId × Value → H} {w : World} {base : Nat} {spare : Nat → Bool} {held : Bool} {r : Reach} {b0 : Nat} {v : Value} {d : DataW H} {p : List MemPlace}
    (hv : Value.okWide Try.prog w r b0 23 v) (h : DataW.Trod enc Try.prog w base spare held 23 v d p) : ∃ (A : ByteArray) (b : Int), v = .agg #[.string A, .int .i64 b] := by
  obtain ⟨fs, hs, hone, hC, h7, hty⟩ := struct_of onePf
  obtain ⟨cs, n, rfl, hsz, hf⟩ := agg_open hs hone hC hv h
  obtain ⟨f0, g0, t0⟩ := hty 0 (by omega)
  obtain ⟨y0, r0⟩ := hf 0 f0 g0
  rw [← Option.some.inj t0] at r0
  obtain ⟨f1, g1, t1⟩ := hty 1 (by omega)
  obtain ⟨y1, r1⟩ := hf 1 f1 g1
  rw [← Option.some.inj t1] at r1
  obtain ⟨k0, e0, _, _⟩ := DataW.trod_string Try.underlying9 r0
  obtain ⟨k1, e1, _, _⟩ := DataW.trod_int Try.underlying3 r1
  refine ⟨k0, k1, ?_⟩
  rw [array2 (hsz.trans h7)]
  simp only [List.cons.injEq, and_true] at e0 e1
  rw [e0, e1]

set_option maxRecDepth 100000 in
theorem contract (H : Type) (enc : TypeId × Value → H) (W : World) (base : Nat) (args : Array Value) (ds gs : List (DataW H)) (before : List MemPlace)
    (hval : ∀ (j : Nat) t v, Try.f3.params[j]? = some t → args[j]? = some v → Value.okWide Try.prog W .any base t v)
    (hW : DataW.Whole enc Try.prog Try.f3.params.toList Rows.policyViewsSpec.vars false W args.toList ds gs before) :
    Calls Try.prog 3 args W fun e W' => ∃ v, e = .returned v ∧ Rows.policyViewsSpec.post enc Try.prog Try.f3 false true false false W args v W' := by
  have hW' := hW
  have hlt := hW.lt
  obtain ⟨p, q, hA0, hV, rfl, _, _⟩ := hW
  have hA : DataW.TrodAll enc Try.prog W 0 (fun _ => true) true Try.f3.params.toList args.toList ds p := hA0
  rw [Try.params3] at hA hval
  obtain ⟨v0, vs0, d0, ds0, p0, q0, hargs, rfl, rfl, h0, r0⟩ := trodAll_cons hA
  obtain ⟨v1, vs1, d1, ds1, p1, q1, rfl, rfl, rfl, h1, r1⟩ := trodAll_cons r0
  obtain ⟨v2, vs2, d2, ds2, p2, q2, rfl, rfl, rfl, h2, r2⟩ := trodAll_cons r1
  obtain ⟨rfl, rfl, rfl⟩ := trodAll_nil r2
  obtain rfl : args = #[v0, v1, v2] := by cases args; simp_all
  obtain ⟨rfl, rfl⟩ := trodVars_none hV
  have hsame0 : ∀ W' : World, Below W.heap.size W W' → DataW.Trod enc Try.prog W' 0 (fun b => decide (b < W.heap.size)) true 23 v0 d0 p0 :=
    fun W' hn => Below.trod laid (by kernel_rfl) (of_decide_eq_true (by kernel_rfl)) h0 hn (fun x hx => hlt x (by simp [hx]))
  have hsame1 : ∀ W' : World, Below W.heap.size W W' → DataW.Trod enc Try.prog W' 0 (fun b => decide (b < W.heap.size)) true 24 v1 d1 p1 :=
    fun W' hn => Below.trod laid (by kernel_rfl) (of_decide_eq_true (by kernel_rfl)) h1 hn (fun x hx => hlt x (by simp [hx]))
  have hsame2 : ∀ W' : World, Below W.heap.size W W' → DataW.Trod enc Try.prog W' 0 (fun b => decide (b < W.heap.size)) true 25 v2 d2 p2 :=
    fun W' hn => Below.trod laid (by kernel_rfl) (of_decide_eq_true (by kernel_rfl)) h2 hn (fun x hx => hlt x (by simp [hx]))
  clear hA0
  obtain ⟨A, b, rfl⟩ := net_open (hval 0 23 v0 rfl rfl) h0
  obtain ⟨a10, n10, c10, rfl⟩ := okWide_slice Try.underlying24 (hval 1 24 v1 rfl rfl)
  obtain ⟨a20, n20, c20, rfl⟩ := okWide_slice Try.underlying25 (hval 2 25 v2 rfl rfl)
  obtain ⟨f1, hf1⟩ := id h1
  obtain ⟨f2, hf2⟩ := id h2
  haveI : Inhabited Vw := ⟨⟨⟨#[]⟩, none, 0, []⟩⟩
  haveI : Inhabited ByteArray := ⟨⟨#[]⟩⟩
  obtain ⟨a1, c1, L, hv1, _, hat1, hl1, hin⟩ := row_open (α := Vw) (V := vwV) (C := 2) Try.underlying24 (by kernel_rfl) (by decide) (fun _ => rfl) (fun f cs y hy => vw_cells hy) (v := .slice a10 n10 c10) hf1
  injection hv1 with e1 e2 e3
  subst e1 e2 e3
  obtain ⟨a2, c2, F, hv2, _, hat2, hl2, _⟩ := row_open (α := ByteArray) (V := ssV) (C := 1) Try.underlying25 (by kernel_rfl) (by decide) (fun _ => rfl) (fun f cs y hy => ss_cells hy) (v := .slice a20 n20 c20) hf2
  injection hv2 with e1 e2 e3
  subst e1 e2 e3
  refine (policyViews_any A b L _ _ F _ _ W hl1 hat1 hin hl2 hat2).mono fun e W' ⟨he, bel⟩ => ?_
  subst he
  exact ⟨_, rfl, _, _, _, [], _, [], hW', trodAll_mk1 (shut_bool Try.underlying4 _), (trodAll_cons_mk (hsame0 W' bel) (trodAll_cons_mk (hsame1 W' bel) (trodAll_cons_mk (hsame2 W' bel) trodAll_mk0))), rfl, bel.frame _, fun h => by cases h⟩

set_option maxRecDepth 100000 in
theorem lifted (os : Os) (started : os.Started) (H : Type) (enc : TypeId × Value → H) :
    ReturnsInHanded {} Try.checked os 3 .any (Rows.policyViewsSpec.pre6 enc Try.prog Try.f3 Rows.policyViewsRow.domain false) (Rows.policyViewsSpec.post enc Try.prog Try.f3 false true false false) := by
  refine returnsInHanded_of_change (C := Try.checked) own started (by kernel_rfl) Try.func3
    (ChangeSpec.witness6 (enc := enc) (C := Try.checked) false ⟨#[], #[.agg #[.string ⟨#[]⟩, .int .i64 0], .slice none 0 0, .slice none 0 0], []⟩ 8 (by kernel_rfl) (by kernel_rfl) (by kernel_rfl) (by kernel_rfl)) ?_
  intro W base args ds gs before hval hW _ _
  exact contract H enc W base args ds gs before hval hW

theorem proved : Rows.PolicyViewsSaid :=
  OpenClaim.holds_of_wide 3 Try.f3 rfl rfl rfl rfl rfl rfl rfl ⟨rfl, rfl, rfl, rfl, rfl⟩ rfl rfl rfl rfl rfl (by kernel_rfl) Try.func3 (by kernel_rfl)
    (of_decide_eq_true (by kernel_rfl)) (by unfold Func.isWrapper; first | (rw [if_pos (by decide +kernel)]; kernel_rfl) | (rw [if_neg (by decide +kernel)]; exact ⟨rfl, rfl⟩))
    (fun os started H enc _ => lifted os started H enc)
end Go.Proofs.Ytdaimcccdleodaa.policyViewsP
namespace Go.Proofs.Ytdaimcccdleodaa
theorem policyViews_said : Rows.PolicyViewsSaid := policyViewsP.proved
end Go.Proofs.Ytdaimcccdleodaa
