import Derived.Test.YtlkppmpdjpffiaaFr0G
import Derived.ProofKit
import Derived.OpenShut
import Derived.JoinedCond
import Derived.ShutString
import Derived.ChangeOld
import Derived.ChangeSlices
import Derived.Carry
namespace Go.Proofs.Ytlkppmpdjpffiaa.wireShortP
set_option linter.unusedVariables false
open Go.ChangeShapes Go.WideShapes Go.ChangeAt Go.RowKit
open Go.ChangeMaps (open_string shut_string)

theorem own : ownKnob Try.prog.godebug = none := by kernel_rfl
theorem laid : laidOutB Try.prog = true := by kernel_rfl
theorem array14 {cs : Array Value} (h : cs.size = 14) : cs = #[cs.toList.getD 0 undef, cs.toList.getD 1 undef, cs.toList.getD 2 undef, cs.toList.getD 3 undef, cs.toList.getD 4 undef, cs.toList.getD 5 undef, cs.toList.getD 6 undef, cs.toList.getD 7 undef, cs.toList.getD 8 undef, cs.toList.getD 9 undef, cs.toList.getD 10 undef, cs.toList.getD 11 undef, cs.toList.getD 12 undef, cs.toList.getD 13 undef] := by
  obtain ⟨l⟩ := cs
  match l, h with
  | [x0, x1, x2, x3, x4, x5, x6, x7, x8, x9, x10, x11, x12, x13], _ => rfl

set_option maxRecDepth 100000 in
/-- a message that comes in -/
theorem msg_open {H : Type} {enc : TypeId × Value → H} {w : World} {base : Nat} {spare : Nat → Bool} {held : Bool} {r : Reach} {b0 : Nat} {v : Value} {d : DataW H} {p : List MemPlace}
    (hv : Value.okWide Try.prog w r b0 25 v) (h : DataW.Trod enc Try.prog w base spare held 25 v d p) :
    ∃ (i0 i2 i9 : Int) (b1 b3 b4 b5 b6 b7 b8 : Bool) (q0 a0 u0 d0 : Option Addr) (qc ac uc dc : Nat) (Q : List Qn) (A U D : List Rn), v = .agg #[.int .i64 i0, .bool b1, .int .i64 i2, .bool b3, .bool b4, .bool b5, .bool b6, .bool b7, .bool b8, .int .i64 i9, .slice q0 Q.length qc, .slice a0 A.length ac, .slice u0 U.length uc, .slice d0 D.length dc] ∧ LsAt w q0 a0 u0 d0 Q A U D ∧ (d0 = none → dc = 0) := by
  obtain ⟨fs, hs, hone, hC, h14, hty⟩ := struct_of oneM
  obtain ⟨cs, n, rfl, hsz, hf⟩ := agg_open hs hone hC hv h
  obtain ⟨f0, g0, t0⟩ := hty 0 (by omega)
  obtain ⟨y0, r0⟩ := hf 0 f0 g0
  rw [← Option.some.inj t0] at r0
  obtain ⟨f1, g1, t1⟩ := hty 1 (by omega)
  obtain ⟨y1, r1⟩ := hf 1 f1 g1
  rw [← Option.some.inj t1] at r1
  obtain ⟨f2, g2, t2⟩ := hty 2 (by omega)
  obtain ⟨y2, r2⟩ := hf 2 f2 g2
  rw [← Option.some.inj t2] at r2
  obtain ⟨f3, g3, t3⟩ := hty 3 (by omega)
  obtain ⟨y3, r3⟩ := hf 3 f3 g3
  rw [← Option.some.inj t3] at r3
  obtain ⟨f4, g4, t4⟩ := hty 4 (by omega)
  obtain ⟨y4, r4⟩ := hf 4 f4 g4
  rw [← Option.some.inj t4] at r4
  obtain ⟨f5, g5, t5⟩ := hty 5 (by omega)
  obtain ⟨y5, r5⟩ := hf 5 f5 g5
  rw [← Option.some.inj t5] at r5
  obtain ⟨f6, g6, t6⟩ := hty 6 (by omega)
  obtain ⟨y6, r6⟩ := hf 6 f6 g6
  rw [← Option.some.inj t6] at r6
  obtain ⟨f7, g7, t7⟩ := hty 7 (by omega)
  obtain ⟨y7, r7⟩ := hf 7 f7 g7
  rw [← Option.some.inj t7] at r7
  obtain ⟨f8, g8, t8⟩ := hty 8 (by omega)
  obtain ⟨y8, r8⟩ := hf 8 f8 g8
  rw [← Option.some.inj t8] at r8
  obtain ⟨f9, g9, t9⟩ := hty 9 (by omega)
  obtain ⟨y9, r9⟩ := hf 9 f9 g9
  rw [← Option.some.inj t9] at r9
  obtain ⟨f10, g10, t10⟩ := hty 10 (by omega)
  obtain ⟨y10, r10⟩ := hf 10 f10 g10
  rw [← Option.some.inj t10] at r10
  obtain ⟨f11, g11, t11⟩ := hty 11 (by omega)
  obtain ⟨y11, r11⟩ := hf 11 f11 g11
  rw [← Option.some.inj t11] at r11
  obtain ⟨f12, g12, t12⟩ := hty 12 (by omega)
  obtain ⟨y12, r12⟩ := hf 12 f12 g12
  rw [← Option.some.inj t12] at r12
  obtain ⟨f13, g13, t13⟩ := hty 13 (by omega)
  obtain ⟨y13, r13⟩ := hf 13 f13 g13
  rw [← Option.some.inj t13] at r13
  obtain ⟨i0, e0, _, _⟩ := DataW.trod_int Try.underlying3 r0
  obtain ⟨b1, e1, _⟩ := DataW.trod_bool Try.underlying4 r1
  obtain ⟨i2, e2, _, _⟩ := DataW.trod_int Try.underlying3 r2
  obtain ⟨b3, e3, _⟩ := DataW.trod_bool Try.underlying4 r3
  obtain ⟨b4, e4, _⟩ := DataW.trod_bool Try.underlying4 r4
  obtain ⟨b5, e5, _⟩ := DataW.trod_bool Try.underlying4 r5
  obtain ⟨b6, e6, _⟩ := DataW.trod_bool Try.underlying4 r6
  obtain ⟨b7, e7, _⟩ := DataW.trod_bool Try.underlying4 r7
  obtain ⟨b8, e8, _⟩ := DataW.trod_bool Try.underlying4 r8
  obtain ⟨i9, e9, _, _⟩ := DataW.trod_int Try.underlying3 r9
  obtain ⟨q0, qc, Q, e10, _, hQ, zQ⟩ := qs_open r10
  obtain ⟨a0, ac, A, e11, n11, hA, zA⟩ := rs_open r11
  obtain ⟨u0, uc, U, e12, n12, hU, zU⟩ := rs_open r12
  obtain ⟨d0, dc, D, e13, n13, hD, zD⟩ := rs_open r13
  refine ⟨i0, i2, i9, b1, b3, b4, b5, b6, b7, b8, q0, a0, u0, d0, qc, ac, uc, dc, Q, A, U, D, ?_, ⟨hQ, hA, hU, hD, zQ, zA, zU, zD⟩, n13⟩
  rw [array14 (hsz.trans h14)]
  simp only [List.cons.injEq, and_true] at e0 e1 e2 e3 e4 e5 e6 e7 e8 e9
  rw [e0, e1, e2, e3, e4, e5, e6, e7, e8, e9, e10, e11, e12, e13]

set_option maxRecDepth 100000 in
theorem contract (H : Type) (enc : TypeId × Value → H) (W : World) (base : Nat) (args : Array Value) (ds gs : List (DataW H)) (before : List MemPlace)
    (hval : ∀ (j : Nat) t v, Try.f3.params[j]? = some t → args[j]? = some v → Value.okWide Try.prog W .any base t v)
    (hW : DataW.Whole enc Try.prog Try.f3.params.toList Rows.wireShortSpec.vars false W args.toList ds gs before) :
    Calls Try.prog 3 args W fun e W' => ∃ v, e = .returned v ∧ Rows.wireShortSpec.post enc Try.prog Try.f3 false true false false W args v W' := by
  have hW' := hW
  have hlt := hW.lt
  obtain ⟨p, q, hA0, hV, rfl, _, _⟩ := hW
  have hA : DataW.TrodAll enc Try.prog W 0 (fun _ => true) true Try.f3.params.toList args.toList ds p := hA0
  rw [Try.params3] at hA hval
  obtain ⟨v0, vs0, d0, ds0, p0, q0, hargs, rfl, rfl, h0, r0⟩ := trodAll_cons hA
  obtain ⟨v1, vs1, d1, ds1, p1, q1, rfl, rfl, rfl, h1, r1⟩ := trodAll_cons r0
  obtain ⟨rfl, rfl, rfl⟩ := trodAll_nil r1
  obtain rfl : args = #[v0, v1] := by cases args; simp_all
  obtain ⟨rfl, rfl⟩ := trodVars_none hV
  obtain ⟨dt, rfl, rfl, rfl, hw1⟩ := open_string Try.underlying9 (hval 1 9 v1 rfl rfl) h1
  have hsame : ∀ W' : World, Below W.heap.size W W' → DataW.Trod enc Try.prog W' 0 (fun b => decide (b < W.heap.size)) true 25 v0 d0 p0 :=
    fun W' hn => Below.trod laid (by kernel_rfl) (of_decide_eq_true (by kernel_rfl)) h0 hn (fun x hx => hlt x (by simp [hx]))
  clear hA0
  obtain ⟨i0, i2, i9, b1, b3, b4, b5, b6, b7, b8, q0, a0, u0, d0', qc, ac, uc, dc, Q, A, U, D, rfl, hL, hn⟩ := msg_open (hval 0 25 v0 rfl rfl) h0
  refine (wireShort_any i0 i2 i9 b1 b3 b4 b5 b6 b7 b8 q0 a0 u0 d0' qc ac uc dc Q A U D dt W hL (by unfold maxLen at hw1; omega) hn).mono fun e W' ⟨he, bel⟩ => ?_
  subst he
  exact ⟨_, rfl, _, _, _, [], _, [], hW', trodAll_mk1 (shut_bool Try.underlying4 _), (trodAll_cons_mk (hsame W' bel) (trodAll_cons_mk (shut_string Try.underlying9 hw1) trodAll_mk0)), rfl, bel.frame _, fun h => by cases h⟩

set_option maxRecDepth 100000 in
theorem lifted (os : Os) (started : os.Started) (H : Type) (enc : TypeId × Value → H) :
    ReturnsInHanded {} Try.checked os 3 .any (Rows.wireShortSpec.pre6 enc Try.prog Try.f3 Rows.wireShortRow.domain false) (Rows.wireShortSpec.post enc Try.prog Try.f3 false true false false) := by
  refine returnsInHanded_of_change (C := Try.checked) own started (by kernel_rfl) Try.func3
    (ChangeSpec.witness6 (enc := enc) (C := Try.checked) false ⟨#[], #[.agg #[.int .i64 0, .bool false, .int .i64 0, .bool false, .bool false, .bool false, .bool false, .bool false, .bool false, .int .i64 0, .slice none 0 0, .slice none 0 0, .slice none 0 0, .slice none 0 0], .string .empty], []⟩ 8 (by kernel_rfl) (by kernel_rfl) (by kernel_rfl) (by kernel_rfl)) ?_
  intro W base args ds gs before hval hW _ _
  exact contract H enc W base args ds gs before hval hW

theorem proved : Rows.WireShortSaid :=
  OpenClaim.holds_of_wide 3 Try.f3 rfl rfl rfl rfl rfl rfl rfl ⟨rfl, rfl, rfl, rfl, rfl⟩ rfl rfl rfl rfl rfl (by kernel_rfl) Try.func3 (by kernel_rfl)
    (of_decide_eq_true (by kernel_rfl)) (by unfold Func.isWrapper; first | (rw [if_pos (by decide +kernel)]; kernel_rfl) | (rw [if_neg (by decide +kernel)]; exact ⟨rfl, rfl⟩))
    (fun os started H enc _ => lifted os started H enc)
end Go.Proofs.Ytlkppmpdjpffiaa.wireShortP
namespace Go.Proofs.Ytlkppmpdjpffiaa
theorem wireShort_said : Rows.WireShortSaid := wireShortP.proved
end Go.Proofs.Ytlkppmpdjpffiaa
