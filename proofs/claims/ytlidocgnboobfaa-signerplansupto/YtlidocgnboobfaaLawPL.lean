import Derived.Test.YtlidocgnboobfaaSp7
import Derived.Test.YtlidocgnboobfaaFr2
import Derived.Test.YtlidocgnboobfaaFr0
import Derived.ProofKit
import Derived.OpenShut
import Derived.JoinedCond
import Derived.ShutString
import Derived.ChangeOld
import Derived.ChangeSlices
import Derived.Carry
namespace Go.Proofs.Ytlidocgnboobfaa.signerPlansP
set_option linter.unusedVariables false
open Go.ChangeShapes Go.WideShapes Go.ChangeAt Go.RowKit Go.Deep
open Go.ChangeMaps (open_string shut_string)

theorem own : ownKnob Try.prog.godebug = none := by kernel_rfl
theorem laid : laidOutB Try.prog = true := by kernel_rfl
theorem onePl : (Try.prog.underlying 25).bind (fun t => match t with | .struct fs => some (oneCellFields Try.prog fs && decide (Try.prog.cellsOf 25 = fs.size) && decide (fs.size = 7) && (fs.toList.map (·.type) == [23, 4, 9, 3, 3, 3, 3])) | _ => none) = some true := by kernel_rfl
theorem array7 {cs : Array Value} (h : cs.size = 7) : cs = #[cs.toList.getD 0 undef, cs.toList.getD 1 undef, cs.toList.getD 2 undef, cs.toList.getD 3 undef, cs.toList.getD 4 undef, cs.toList.getD 5 undef, cs.toList.getD 6 undef] := by
  obtain ⟨l⟩ := cs
  match l, h with
  | [x0, x1, x2, x3, x4, x5, x6], _ => rfl
/-- a plan that comes in -/
theorem plan_open {H : Type} {enc : TypeId × Value → H} {w : World} {base : Nat} {spare : Nat → Bool} {held : Bool} {r : Reach} {b0 : Nat} {v : Value} {d : DataW H} {p : List MemPlace}
    (hv : Value.okWide Try.prog w r b0 25 v) (h : DataW.Trod enc Try.prog w base spare held 25 v d p) :
    ∃ (q0 : Option Addr) (n0 c0 : Nat) (kb : Bool) (ks : ByteArray) (i3 i4 i5 i6 : Int), v = .agg #[.slice q0 n0 c0, .bool kb, .string ks, .int .i64 i3, .int .i64 i4, .int .i64 i5, .int .i64 i6] := by
  obtain ⟨fs, hs, hone, hC, h7, hty⟩ := struct_of onePl
  obtain ⟨cs, n, rfl, hsz, hf⟩ := agg_open hs hone hC hv h
  obtain ⟨f0, g0, t0⟩ := hty 0 (by omega)
  obtain ⟨y0, r0⟩ := hf 0 f0 g0
  rw [← Option.some.inj t0] at r0
  obtain ⟨f1, g1, t1⟩ := hty 1 (by omega)
  obtain ⟨y1, r1⟩ := hf 1 f1 g1
  rw [← Option.some.inj t1] at r1
  obtain ⟨f2, g2, t2⟩ := hty 2 (by omega)
  obtain ⟨y2, r2⟩ := hf 2 f2 g2
  rw [← Option.some.inj t2] at r2
  obtain ⟨f3, g3, t3⟩ := hty 3 (by omega)
  obtain ⟨y3, r3⟩ := hf 3 f3 g3
  rw [← Option.some.inj t3] at r3
  obtain ⟨f4, g4, t4⟩ := hty 4 (by omega)
  obtain ⟨y4, r4⟩ := hf 4 f4 g4
  rw [← Option.some.inj t4] at r4
  obtain ⟨f5, g5, t5⟩ := hty 5 (by omega)
  obtain ⟨y5, r5⟩ := hf 5 f5 g5
  rw [← Option.some.inj t5] at r5
  obtain ⟨f6, g6, t6⟩ := hty 6 (by omega)
  obtain ⟨y6, r6⟩ := hf 6 f6 g6
  rw [← Option.some.inj t6] at r6
  have e0 : ∃ (q0 : Option Addr) (n0 c0 : Nat), cs.toList.getD 0 undef = .slice q0 n0 c0 := by
    rcases open_slice Try.underlying23 r0 with ⟨hv, _⟩ | ⟨a, len, cap, m, n, D, Pl, hv, _⟩
    · exact ⟨none, 0, 0, by simpa using hv⟩
    · exact ⟨some a, len, cap, by simpa using hv⟩
  obtain ⟨q0, n0, c0, e0⟩ := e0
  obtain ⟨kb, e1, _⟩ := DataW.trod_bool Try.underlying4 r1
  obtain ⟨ks, e2, _, _⟩ := DataW.trod_string Try.underlying9 r2
  obtain ⟨k3, e3, _, _⟩ := DataW.trod_int Try.underlying3 r3
  obtain ⟨k4, e4, _, _⟩ := DataW.trod_int Try.underlying3 r4
  obtain ⟨k5, e5, _, _⟩ := DataW.trod_int Try.underlying3 r5
  obtain ⟨k6, e6, _, _⟩ := DataW.trod_int Try.underlying3 r6
  refine ⟨q0, n0, c0, kb, ks, k3, k4, k5, k6, ?_⟩
  rw [array7 (hsz.trans h7)]
  simp only [List.cons.injEq, and_true] at e1 e2 e3 e4 e5 e6
  rw [e0, e1, e2, e3, e4, e5, e6]
theorem bulk_pos {H : Type} (d : DataW H) : 1 ≤ Rows.uptoBulk d := by
  cases d with
  | lit l => cases l <;> simp [Rows.uptoBulk]
  | _ => simp [Rows.uptoBulk]
theorem bulk_len {H : Type} : ∀ l : List (DataW H), l.length ≤ Rows.uptoBulkAll l
  | [] => by simp [Rows.uptoBulkAll]
  | d :: l => by
    have := bulk_len l
    have := bulk_pos d
    simp only [Rows.uptoBulkAll, List.length_cons]
    omega
theorem short {H : Type} {d0 d1 d2 : DataW H} {es sp : List (DataW H)} (he : d0 = .slice es sp) (hk : Rows.uptoSmall H [d0, d1, d2] = true) : es.length ≤ 1048576 := by
  have h : Rows.uptoBulkAll [d0, d1, d2] ≤ 1048576 := of_decide_eq_true hk
  subst he
  have := bulk_len es
  simp only [Rows.uptoBulkAll, Rows.uptoBulk] at h
  omega

set_option maxRecDepth 100000 in
theorem contract (H : Type) (enc : TypeId × Value → H) (W : World) (base : Nat) (args : Array Value) (ds gs : List (DataW H)) (before : List MemPlace)
    (hval : ∀ (j : Nat) t v, Try.f3.params[j]? = some t → args[j]? = some v → Value.okWide Try.prog W .any base t v)
    (hW : DataW.Whole enc Try.prog Try.f3.params.toList Rows.signerPlansSpec.vars false W args.toList ds gs before) (hk : Rows.uptoSmall H (ds ++ gs) = true) :
    Calls Try.prog 3 args W fun e W' => ∃ v, e = .returned v ∧ Rows.signerPlansSpec.post enc Try.prog Try.f3 false true false false W args v W' := by
  have hW' := hW
  have hlt := hW.lt
  obtain ⟨p, q, hA0, hV, rfl, _, _⟩ := hW
  have hA : DataW.TrodAll enc Try.prog W 0 (fun _ => true) true Try.f3.params.toList args.toList ds p := hA0
  rw [Try.params3] at hA hval
  obtain ⟨v0, vs0, d0, ds0, p0, q0, hargs, rfl, rfl, h0, r0⟩ := trodAll_cons hA
  obtain ⟨v1, vs1, d1, ds1, p1, q1, rfl, rfl, rfl, h1, r1⟩ := trodAll_cons r0
  obtain ⟨v2, vs2, d2, ds2, p2, q2, rfl, rfl, rfl, h2, r2⟩ := trodAll_cons r1
  obtain ⟨rfl, rfl, rfl⟩ := trodAll_nil r2
  obtain rfl : args = #[v0, v1, v2] := by cases args; simp_all
  obtain ⟨rfl, rfl⟩ := trodVars_none hV
  obtain ⟨z2, rfl, rfl, rfl, m2⟩ := open_int Try.underlying3 (hval 2 3 v2 rfl rfl) h2
  have hsame0 : ∀ W' : World, Below W.heap.size W W' → DataW.Trod enc Try.prog W' 0 (fun b => decide (b < W.heap.size)) true 22 v0 d0 p0 :=
    fun W' hn => Below.trod laid (by kernel_rfl) (of_decide_eq_true (by kernel_rfl)) h0 hn (fun x hx => hlt x (by simp [hx]))
  have hsame1 : ∀ W' : World, Below W.heap.size W W' → DataW.Trod enc Try.prog W' 0 (fun b => decide (b < W.heap.size)) true 25 v1 d1 p1 :=
    fun W' hn => Below.trod laid (by kernel_rfl) (of_decide_eq_true (by kernel_rfl)) h1 hn (fun x hx => hlt x (by simp [hx]))
  clear hA0
  simp only [List.append_nil] at hk
  obtain ⟨q0', n0, c0, kb, ks, i3, i4, i5, i6, rfl⟩ := plan_open (hval 1 25 v1 rfl rfl) h1
  obtain ⟨a0, len0, cap0, rfl⟩ := okWide_slice Try.underlying22 (hval 0 22 v0 rfl rfl)
  obtain ⟨fuel, hf⟩ := id h0
  obtain ⟨a, cap, L, hv0, hn, hat, hsz⟩ := line_open (v := .slice a0 len0 cap0) hf
  rw [hv0] at h0 hsame0 hW' hval ⊢
  have hL : L.length ≤ 1048576 := by
    rcases hsz with rfl | ⟨es, sp, he, hle⟩
    · simp
    · rw [← hle]; exact short he hk
  refine (signerPlans_any L a cap q0' n0 c0 kb ks i3 i4 i5 i6 z2 W hL hat hn).mono fun e W' ⟨he, bel⟩ => ?_
  subst he
  exact ⟨_, rfl, _, _, _, [], _, [], hW', trodAll_mk1 (shut_bool Try.underlying4 _), (trodAll_cons_mk (hsame0 W' bel) (trodAll_cons_mk (hsame1 W' bel) (trodAll_cons_mk (shut_int Try.underlying3 m2) trodAll_mk0))), rfl, bel.frame _, fun h => by cases h⟩

set_option maxRecDepth 100000 in
theorem lifted (os : Os) (started : os.Started) (H : Type) (enc : TypeId × Value → H) (F : Stop.Interp) :
    ReturnsInHanded {} Try.checked os 3 .any ((Rows.OpenSpec.upto Rows.signerPlansSpec).pre6 enc Try.prog Try.f3 Rows.signerPlansUptoRow.domain false) (((Rows.OpenSpec.upto Rows.signerPlansSpec).at F).post enc Try.prog Try.f3 false true false false) := by
  refine returnsInHanded_of_cond (C := Try.checked) (s := Rows.OpenSpec.upto Rows.signerPlansSpec) (k := Rows.uptoSmall) rfl own started (by kernel_rfl) Try.func3
    (OpenSpec.witness (enc := enc) (C := Try.checked) (s := Rows.OpenSpec.upto Rows.signerPlansSpec) (k := Rows.uptoSmall) rfl false ⟨#[], #[.slice none 0 0, .agg #[.slice none 0 0, .bool false, .string .empty, .int .i64 0, .int .i64 0, .int .i64 0, .int .i64 0], .int .i64 0], []⟩ 8 (by kernel_rfl) (by kernel_rfl) (by kernel_rfl)
      (x := ([.nil, .agg [.nil, .lit (.bool false), .lit (.string []), .lit (.int .i64 0), .lit (.int .i64 0), .lit (.int .i64 0), .lit (.int .i64 0)], .lit (.int .i64 0)], [], [])) (by kernel_rfl) rfl (by kernel_rfl)) ?_
  intro W base args ds gs before hval hW _ hk _
  exact contract H enc W base args ds gs before hval hW hk

theorem proved : Rows.SignerPlansUptoSaid :=
  OpenClaim.holds_of_cond 3 Try.f3 rfl rfl rfl rfl rfl rfl rfl ⟨rfl, rfl, rfl, rfl, rfl⟩ rfl rfl rfl rfl rfl (by kernel_rfl) Try.func3 (by kernel_rfl)
    (of_decide_eq_true (by kernel_rfl)) (by unfold Func.isWrapper; first | (rw [if_pos (by decide +kernel)]; kernel_rfl) | (rw [if_neg (by decide +kernel)]; exact ⟨rfl, rfl⟩))
    (fun os started H enc _ F => lifted os started H enc F)
end Go.Proofs.Ytlidocgnboobfaa.signerPlansP
namespace Go.Proofs.Ytlidocgnboobfaa
theorem signerPlans_upto : Rows.SignerPlansUptoSaid := signerPlansP.proved
end Go.Proofs.Ytlidocgnboobfaa
