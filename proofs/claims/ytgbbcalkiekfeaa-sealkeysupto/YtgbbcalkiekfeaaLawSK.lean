import Derived.Test.YtgbbcalkiekfeaaSk13
import Derived.Test.YtgbbcalkiekfeaaFr0
import Derived.ProofKit
import Derived.OpenShut
import Derived.JoinedCond
import Derived.ShutString
import Derived.ChangeOld
import Derived.ChangeSlices
import Derived.Carry
namespace Go.Proofs.Ytgbbcalkiekfeaa.sealKeysP
set_option linter.unusedVariables false
open Go.ChangeShapes Go.WideShapes Go.ChangeAt Go.RowKit Go.Deep
open Go.ChangeMaps (open_string shut_string)

theorem own : ownKnob Try.prog.godebug = none := by kernel_rfl
theorem laid : laidOutB Try.prog = true := by kernel_rfl
theorem oneK : (Try.prog.underlying 23).bind (fun t => match t with | .struct fs => some (oneCellFields Try.prog fs && decide (Try.prog.cellsOf 23 = fs.size) && decide (fs.size = 4) && (fs.toList.map (·.type) == [3, 3, 3, 3])) | _ => none) = some true := by kernel_rfl
theorem array4 {cs : Array Value} (h : cs.size = 4) : cs = #[cs.toList.getD 0 undef, cs.toList.getD 1 undef, cs.toList.getD 2 undef, cs.toList.getD 3 undef] := by
  obtain ⟨l⟩ := cs
  match l, h with
  | [x0, x1, x2, x3], _ => rfl
/-- a key that comes in -/
theorem key_open {H : Type} {enc : TypeId × Value → H} {w : World} {base : Nat} {spare : Nat → Bool} {held : Bool} {r : Reach} {b0 : Nat} {v : Value} {d : DataW H} {p : List MemPlace}
    (hv : Value.okWide Try.prog w r b0 23 v) (h : DataW.Trod enc Try.prog w base spare held 23 v d p) :
    ∃ k0 k1 k2 k3 : Int, v = .agg #[.int .i64 k0, .int .i64 k1, .int .i64 k2, .int .i64 k3] := by
  obtain ⟨fs, hs, hone, hC, h4, hty⟩ := struct_of oneK
  obtain ⟨cs, n, rfl, hsz, hf⟩ := agg_open hs hone hC hv h
  obtain ⟨f0, g0, t0⟩ := hty 0 (by omega)
  obtain ⟨y0, r0⟩ := hf 0 f0 g0
  rw [← Option.some.inj t0] at r0
  obtain ⟨f1, g1, t1⟩ := hty 1 (by omega)
  obtain ⟨y1, r1⟩ := hf 1 f1 g1
  rw [← Option.some.inj t1] at r1
  obtain ⟨f2, g2, t2⟩ := hty 2 (by omega)
  obtain ⟨y2, r2⟩ := hf 2 f2 g2
  rw [← Option.some.inj t2] at r2
  obtain ⟨f3, g3, t3⟩ := hty 3 (by omega)
  obtain ⟨y3, r3⟩ := hf 3 f3 g3
  rw [← Option.some.inj t3] at r3
  obtain ⟨k0, e0, _, _⟩ := DataW.trod_int Try.underlying3 r0
  obtain ⟨k1, e1, _, _⟩ := DataW.trod_int Try.underlying3 r1
  obtain ⟨k2, e2, _, _⟩ := DataW.trod_int Try.underlying3 r2
  obtain ⟨k3, e3, _, _⟩ := DataW.trod_int Try.underlying3 r3
  refine ⟨k0, k1, k2, k3, ?_⟩
  rw [array4 (hsz.trans h4)]
  simp only [List.cons.injEq, and_true] at e0 e1 e2 e3
  rw [e0, e1, e2, e3]
theorem short {H : Type} {d : DataW H} {a b c e : Int} {s t : ByteArray} (hk : Rows.uptoSmall H [DataW.lit (.int .i64 a), DataW.lit (.int .i64 b), DataW.lit (.int .i64 c), DataW.lit (.int .i64 e), d, DataW.lit (.string s.data.toList), DataW.lit (.string t.data.toList)] = true) : s.size ≤ 1048576 ∧ t.size ≤ 1048576 := by
  have h : Rows.uptoBulkAll [DataW.lit (H := H) (.int .i64 a), DataW.lit (.int .i64 b), DataW.lit (.int .i64 c), DataW.lit (.int .i64 e), d, DataW.lit (.string s.data.toList), DataW.lit (.string t.data.toList)] ≤ 1048576 := of_decide_eq_true hk
  simp only [Rows.uptoBulkAll, Rows.uptoBulk] at h
  have e : s.data.toList.length = s.size := by rw [Array.length_toList]; rfl
  have e' : t.data.toList.length = t.size := by rw [Array.length_toList]; rfl
  constructor <;> omega

set_option maxRecDepth 100000 in
theorem contract (H : Type) (enc : TypeId × Value → H) (W : World) (base : Nat) (args : Array Value) (ds gs : List (DataW H)) (before : List MemPlace)
    (hval : ∀ (j : Nat) t v, Try.f3.params[j]? = some t → args[j]? = some v → Value.okWide Try.prog W .any base t v)
    (hW : DataW.Whole enc Try.prog Try.f3.params.toList Rows.sealKeysSpec.vars false W args.toList ds gs before) (hk : Rows.uptoSmall H (ds ++ gs) = true) :
    Calls Try.prog 3 args W fun e W' => ∃ v, e = .returned v ∧ Rows.sealKeysSpec.post enc Try.prog Try.f3 false true false false W args v W' := by
  have hW' := hW
  have hlt := hW.lt
  obtain ⟨p, q, hA0, hV, rfl, _, _⟩ := hW
  have hA : DataW.TrodAll enc Try.prog W 0 (fun _ => true) true Try.f3.params.toList args.toList ds p := hA0
  rw [Try.params3] at hA hval
  obtain ⟨v0, vs0, d0, ds0, p0, q0, hargs, rfl, rfl, h0, r0⟩ := trodAll_cons hA
  obtain ⟨v1, vs1, d1, ds1, p1, q1, rfl, rfl, rfl, h1, r1⟩ := trodAll_cons r0
  obtain ⟨v2, vs2, d2, ds2, p2, q2, rfl, rfl, rfl, h2, r2⟩ := trodAll_cons r1
  obtain ⟨v3, vs3, d3, ds3, p3, q3, rfl, rfl, rfl, h3, r3⟩ := trodAll_cons r2
  obtain ⟨v4, vs4, d4, ds4, p4, q4, rfl, rfl, rfl, h4, r4⟩ := trodAll_cons r3
  obtain ⟨v5, vs5, d5, ds5, p5, q5, rfl, rfl, rfl, h5, r5⟩ := trodAll_cons r4
  obtain ⟨v6, vs6, d6, ds6, p6, q6, rfl, rfl, rfl, h6, r6⟩ := trodAll_cons r5
  obtain ⟨rfl, rfl, rfl⟩ := trodAll_nil r6
  obtain rfl : args = #[v0, v1, v2, v3, v4, v5, v6] := by cases args; simp_all
  obtain ⟨rfl, rfl⟩ := trodVars_none hV
  obtain ⟨z0, rfl, rfl, rfl, m0⟩ := open_int Try.underlying3 (hval 0 3 v0 rfl rfl) h0
  obtain ⟨z1, rfl, rfl, rfl, m1⟩ := open_int Try.underlying3 (hval 1 3 v1 rfl rfl) h1
  obtain ⟨z2, rfl, rfl, rfl, m2⟩ := open_int Try.underlying3 (hval 2 3 v2 rfl rfl) h2
  obtain ⟨z3, rfl, rfl, rfl, m3⟩ := open_int Try.underlying3 (hval 3 3 v3 rfl rfl) h3
  obtain ⟨s5, rfl, rfl, rfl, m5⟩ := open_string Try.underlying9 (hval 5 9 v5 rfl rfl) h5
  obtain ⟨s6, rfl, rfl, rfl, m6⟩ := open_string Try.underlying9 (hval 6 9 v6 rfl rfl) h6
  have hsame : ∀ W' : World, Below W.heap.size W W' → DataW.Trod enc Try.prog W' 0 (fun b => decide (b < W.heap.size)) true 23 v4 d4 p4 :=
    fun W' hn => Below.trod laid (by kernel_rfl) (of_decide_eq_true (by kernel_rfl)) h4 hn (fun x hx => hlt x (by simp [hx]))
  clear hA0
  simp only [List.append_nil] at hk
  obtain ⟨hs5, hs6⟩ := short hk
  obtain ⟨k0, k1, k2, k3, rfl⟩ := key_open (hval 4 23 v4 rfl rfl) h4
  refine (sealKeys_any z0 z1 z2 z3 k0 k1 k2 k3 s5 s6 W hs5 hs6).mono fun e W' ⟨he, bel⟩ => ?_
  subst he
  exact ⟨_, rfl, _, _, _, [], _, [], hW', trodAll_mk1 (shut_bool Try.underlying4 _), (trodAll_cons_mk (shut_int Try.underlying3 m0) (trodAll_cons_mk (shut_int Try.underlying3 m1) (trodAll_cons_mk (shut_int Try.underlying3 m2) (trodAll_cons_mk (shut_int Try.underlying3 m3) (trodAll_cons_mk (hsame W' bel) (trodAll_cons_mk (shut_string Try.underlying9 m5) (trodAll_cons_mk (shut_string Try.underlying9 m6) trodAll_mk0))))))), rfl, bel.frame _, fun h => by cases h⟩

set_option maxRecDepth 100000 in
theorem lifted (os : Os) (started : os.Started) (H : Type) (enc : TypeId × Value → H) (F : Stop.Interp) :
    ReturnsInHanded {} Try.checked os 3 .any ((Rows.OpenSpec.upto Rows.sealKeysSpec).pre6 enc Try.prog Try.f3 Rows.sealKeysUptoRow.domain false) (((Rows.OpenSpec.upto Rows.sealKeysSpec).at F).post enc Try.prog Try.f3 false true false false) := by
  refine returnsInHanded_of_cond (C := Try.checked) (s := Rows.OpenSpec.upto Rows.sealKeysSpec) (k := Rows.uptoSmall) rfl own started (by kernel_rfl) Try.func3
    (OpenSpec.witness (enc := enc) (C := Try.checked) (s := Rows.OpenSpec.upto Rows.sealKeysSpec) (k := Rows.uptoSmall) rfl false ⟨#[], #[.int .i64 0, .int .i64 0, .int .i64 0, .int .i64 0, .agg #[.int .i64 0, .int .i64 0, .int .i64 0, .int .i64 0], .string .empty, .string .empty], []⟩ 8 (by kernel_rfl) (by kernel_rfl) (by kernel_rfl)
      (x := ([.lit (.int .i64 0), .lit (.int .i64 0), .lit (.int .i64 0), .lit (.int .i64 0), .agg [.lit (.int .i64 0), .lit (.int .i64 0), .lit (.int .i64 0), .lit (.int .i64 0)], .lit (.string []), .lit (.string [])], [], [])) (by kernel_rfl) rfl (by kernel_rfl)) ?_
  intro W base args ds gs before hval hW _ hk _
  exact contract H enc W base args ds gs before hval hW hk

theorem proved : Rows.SealKeysUptoSaid :=
  OpenClaim.holds_of_cond 3 Try.f3 rfl rfl rfl rfl rfl rfl rfl ⟨rfl, rfl, rfl, rfl, rfl⟩ rfl rfl rfl rfl rfl (by kernel_rfl) Try.func3 (by kernel_rfl)
    (of_decide_eq_true (by kernel_rfl)) (by unfold Func.isWrapper; first | (rw [if_pos (by decide +kernel)]; kernel_rfl) | (rw [if_neg (by decide +kernel)]; exact ⟨rfl, rfl⟩))
    (fun os started H enc _ F => lifted os started H enc F)
end Go.Proofs.Ytgbbcalkiekfeaa.sealKeysP
namespace Go.Proofs.Ytgbbcalkiekfeaa
theorem sealKeys_upto : Rows.SealKeysUptoSaid := sealKeysP.proved
end Go.Proofs.Ytgbbcalkiekfeaa
