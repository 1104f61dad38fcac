import Derived.Test.YtlgogddobjkngaaWl2G
import Derived.Test.YtlgogddobjkngaaWl4
import Derived.Test.YtlgogddobjkngaaWl5
import Derived.Test.YtlgogddobjkngaaWl0G
import Derived.SizedLaws
namespace Go.Proofs.Ytlgogddobjkngaa
set_option linter.unusedVariables false
open Go.RowKit Go.Shelf Go.Maps Go.Proofs.Ytlgogddobjkngaa.Nm
theorem wireEnds_any (i0 i2 i9 : Int) (b1 b3 b4 b5 b6 b7 b8 : Bool) (q0 a0 u0 d0 : Option Addr) (qc ac uc dc : Nat) (Q : List Qn) (A U D : List Rn) (cut : Int) (p : Option Addr) (cap : Nat) (X : ByteArray) (w : World) (hl : LsAt w q0 a0 u0 d0 Q A U D) (hS : X.size ≤ 140737488351232) (hc : X.size ≤ cap) (hp : ByAt w p X)  :
    Calls Try.prog 4 #[.agg #[.int .i64 i0, .bool b1, .int .i64 i2, .bool b3, .bool b4, .bool b5, .bool b6, .bool b7, .bool b8, .int .i64 i9, .slice q0 Q.length qc, .slice a0 A.length ac, .slice u0 U.length uc, .slice d0 D.length dc], .int .i64 cut, .slice p X.size cap] w fun e w' => e = .returned (.bool true) ∧ Below w.heap.size w w' := by
  cases hm : msgOK i0 i2 i9 Q A U D with
  | false => exact wireEnds_no i0 i2 i9 b1 b3 b4 b5 b6 b7 b8 q0 a0 u0 d0 qc ac uc dc Q A U D cut p cap X w hl hS hc hp hm
  | true =>
    obtain ⟨⟨n0, rfl, _⟩, ⟨n2, rfl, _⟩, ⟨n9, rfl, _⟩, _⟩ := msgOK_parts hm
    by_cases hbig : 65535 < (packS n0 n2 n9 b1 b3 b4 b5 b6 b7 b8 Q A U D).out.size
    · exact wireEnds_large n0 n2 n9 b1 b3 b4 b5 b6 b7 b8 q0 a0 u0 d0 qc ac uc dc Q A U D cut p cap X w hl hS hc hp hm hbig
    · rcases Int.lt_or_le cut 0 with hcut | hcut
      · rcases Nat.eq_zero_or_pos X.size with ht | ht
        · exact wireEnds_good_neg_none n0 n2 n9 b1 b3 b4 b5 b6 b7 b8 q0 a0 u0 d0 qc ac uc dc Q A U D cut p cap X w hl hS hc hp hm hbig hcut ht
        · rcases Nat.lt_or_ge 65535 ((packS n0 n2 n9 b1 b3 b4 b5 b6 b7 b8 Q A U D).out.size + X.size) with hb | hb
          · exact wireEnds_good_neg_big n0 n2 n9 b1 b3 b4 b5 b6 b7 b8 q0 a0 u0 d0 qc ac uc dc Q A U D cut p cap X w hl hS hc hp hm hbig hcut ⟨ht, hb⟩
          · exact wireEnds_good_neg_more n0 n2 n9 b1 b3 b4 b5 b6 b7 b8 q0 a0 u0 d0 qc ac uc dc Q A U D cut p cap X w hl hS hc hp hm hbig hcut ⟨ht, hb⟩
      · rcases Int.lt_or_le cut ((packS n0 n2 n9 b1 b3 b4 b5 b6 b7 b8 Q A U D).out.size : Int) with hcf | hcf
        · rcases Nat.eq_zero_or_pos X.size with ht | ht
          · exact wireEnds_good_in_none n0 n2 n9 b1 b3 b4 b5 b6 b7 b8 q0 a0 u0 d0 qc ac uc dc Q A U D cut p cap X w hl hS hc hp hm hbig ⟨hcut, hcf⟩ ht
          · rcases Nat.lt_or_ge 65535 ((packS n0 n2 n9 b1 b3 b4 b5 b6 b7 b8 Q A U D).out.size + X.size) with hb | hb
            · exact wireEnds_good_in_big n0 n2 n9 b1 b3 b4 b5 b6 b7 b8 q0 a0 u0 d0 qc ac uc dc Q A U D cut p cap X w hl hS hc hp hm hbig ⟨hcut, hcf⟩ ⟨ht, hb⟩
            · exact wireEnds_good_in_more n0 n2 n9 b1 b3 b4 b5 b6 b7 b8 q0 a0 u0 d0 qc ac uc dc Q A U D cut p cap X w hl hS hc hp hm hbig ⟨hcut, hcf⟩ ⟨ht, hb⟩
        · rcases Nat.eq_zero_or_pos X.size with ht | ht
          · exact wireEnds_good_far_none n0 n2 n9 b1 b3 b4 b5 b6 b7 b8 q0 a0 u0 d0 qc ac uc dc Q A U D cut p cap X w hl hS hc hp hm hbig hcf ht
          · rcases Nat.lt_or_ge 65535 ((packS n0 n2 n9 b1 b3 b4 b5 b6 b7 b8 Q A U D).out.size + X.size) with hb | hb
            · exact wireEnds_good_far_big n0 n2 n9 b1 b3 b4 b5 b6 b7 b8 q0 a0 u0 d0 qc ac uc dc Q A U D cut p cap X w hl hS hc hp hm hbig hcf ⟨ht, hb⟩
            · exact wireEnds_good_far_more n0 n2 n9 b1 b3 b4 b5 b6 b7 b8 q0 a0 u0 d0 qc ac uc dc Q A U D cut p cap X w hl hS hc hp hm hbig hcf ⟨ht, hb⟩
end Go.Proofs.Ytlgogddobjkngaa

namespace Go.Proofs.Ytlgogddobjkngaa.wireEndsP
set_option linter.unusedVariables false
open Go.ChangeShapes Go.WideShapes Go.ChangeAt Go.RowKit
open Go.ChangeMaps (open_string shut_string)
open Go.Proofs.Ytlgogddobjkngaa.Fra

theorem bytesU8 : Try.prog.bytesOf 5 = 1 := by kernel_rfl
set_option maxRecDepth 100000 in
/-- bytes that come in are no more than may be -/
theorem bytes_room {H : Type} {enc : TypeId × Value → H} {W : World} {a0 : Option Addr} {len cap : Nat} {d : DataW H} {p : List MemPlace}
    (h : DataW.Trod enc Try.prog W 0 (fun _ => true) true 26 (.slice a0 len cap) d p) (hw : (d.weights Try.prog 26).all (· ≤ reachBytes) = true) : len ≤ 140737488351232 := by
  obtain ⟨fuel, hf⟩ := h
  rcases open_ints Try.underlying26 Try.underlying5 cellsU8 hf with ⟨hcs, hx⟩ | ⟨a, len', cap', zs, hcs, _, hl, hm, hz, hx, hcell, hwz⟩
  · simp [Value.cells] at hcs
    omega
  · simp [Value.cells] at hcs
    obtain ⟨rfl, rfl, rfl⟩ := hcs
    simp only [Prod.mk.injEq] at hx
    obtain ⟨rfl, rfl⟩ := hx
    simp only [if_true] at hz
    unfold DataW.weights at hw
    rw [Try.underlying26] at hw
    simp only [List.all_cons, Bool.and_eq_true, bytesU8] at hw
    have h1 := of_decide_eq_true hw.1
    have hr : reachBytes = 140737488351232 := rfl
    rw [hr] at h1
    simp only [lits, List.length_map, List.length_take, List.length_drop] at h1
    omega

set_option maxRecDepth 100000 in
theorem contract (H : Type) (enc : TypeId × Value → H) (W : World) (base : Nat) (args : Array Value) (ds gs : List (DataW H)) (before : List MemPlace)
    (hval : ∀ (j : Nat) t v, Try.f4.params[j]? = some t → args[j]? = some v → Value.okWide Try.prog W .any base t v)
    (hW : DataW.Whole enc Try.prog Try.f4.params.toList Rows.wireEndsSpec.vars false W args.toList ds gs before)
    (hz : (DataW.weightsEach Try.prog (Try.f4.params.toList ++ Rows.wireEndsSpec.plain.varTypes Try.prog) (ds ++ gs)).all (· ≤ reachBytes) = true) :
    Calls Try.prog 4 args W fun e W' => ∃ v, e = .returned v ∧ Rows.wireEndsSpec.post enc Try.prog Try.f4 false true false false W args v W' := by
  have hW' := hW
  have hlt := hW.lt
  obtain ⟨p, q, hA0, hV, rfl, _, _⟩ := hW
  have hA : DataW.TrodAll enc Try.prog W 0 (fun _ => true) true Try.f4.params.toList args.toList ds p := hA0
  rw [Try.params4] at hA hval
  obtain ⟨v0, vs0, d0, ds0, p0, q0, hargs, rfl, rfl, h0, r0⟩ := trodAll_cons hA
  obtain ⟨v1, vs1, d1, ds1, p1, q1, rfl, rfl, rfl, h1, r1⟩ := trodAll_cons r0
  obtain ⟨v2, vs2, d2, ds2, p2, q2, rfl, rfl, rfl, h2, r2⟩ := trodAll_cons r1
  obtain ⟨rfl, rfl, rfl⟩ := trodAll_nil r2
  obtain rfl : args = #[v0, v1, v2] := by cases args; simp_all
  obtain ⟨rfl, rfl⟩ := trodVars_none hV
  have hsame0 : ∀ W' : World, Below W.heap.size W W' → DataW.Trod enc Try.prog W' 0 (fun b => decide (b < W.heap.size)) true 25 v0 d0 p0 :=
    fun W' hn => Below.trod laid (by kernel_rfl) (of_decide_eq_true (by kernel_rfl)) h0 hn (fun x hx => hlt x (by simp [hx]))
  have hsame2 : ∀ W' : World, Below W.heap.size W W' → DataW.Trod enc Try.prog W' 0 (fun b => decide (b < W.heap.size)) true 26 v2 d2 p2 :=
    fun W' hn => Below.trod laid (by kernel_rfl) (of_decide_eq_true (by kernel_rfl)) h2 hn (fun x hx => hlt x (by simp [hx]))
  clear hA0
  have hz' : ((DataW.weightsEach Try.prog [25, 3, 26] [d0, d1, d2]).all (· ≤ reachBytes)) = true := by
    have e : Try.f4.params.toList ++ Rows.wireEndsSpec.plain.varTypes Try.prog = [25, 3, 26] := by rw [Try.params4]; rfl
    rw [e] at hz
    exact hz
  simp only [DataW.weightsEach, List.all_append, Bool.and_eq_true, List.append_nil] at hz'
  obtain ⟨i0, i2, i9, b1, b3, b4, b5, b6, b7, b8, q0, a0, u0, d0', qc, ac, uc, dc, Q, A, U, D, rfl, hL, hn⟩ := msg_open (hval 0 25 v0 rfl rfl) h0
  obtain ⟨cut, rfl, rfl, rfl, m1⟩ := open_int Try.underlying3 (hval 1 3 v1 rfl rfl) h1
  obtain ⟨pb, cap, B, rfl, hB1, hB2, _, hB3⟩ := bytes_open (hval 2 26 v2 rfl rfl) h2
  have hBs := bytes_room h2 hz'.2.2
  refine (wireEnds_any i0 i2 i9 b1 b3 b4 b5 b6 b7 b8 q0 a0 u0 d0' qc ac uc dc Q A U D cut pb cap B W hL hBs hB1 hB3).mono fun e W' ⟨he, bel⟩ => ?_
  subst he
  exact ⟨_, rfl, _, _, _, [], _, [], hW', trodAll_mk1 (shut_bool Try.underlying4 _), (trodAll_cons_mk (hsame0 W' bel) (trodAll_cons_mk (shut_int Try.underlying3 m1) (trodAll_cons_mk (hsame2 W' bel) trodAll_mk0))), rfl, bel.frame _, fun h => by cases h⟩

set_option maxRecDepth 100000 in
theorem lifted (os : Os) (started : os.Started) (H : Type) (enc : TypeId × Value → H) :
    ReturnsInHanded {} Try.checked os 4 .any (Rows.wireEndsSpec.pre6 enc Try.prog Try.f4 Rows.wireEndsRow.domain false) (Rows.wireEndsSpec.post enc Try.prog Try.f4 false true false false) := by
  refine returnsInHanded_of_change_sized (C := Try.checked) own started (by kernel_rfl) Try.func4
    (ChangeSpec.witness6 (enc := enc) (C := Try.checked) false ⟨#[], #[.agg #[.int .i64 0, .bool false, .int .i64 0, .bool false, .bool false, .bool false, .bool false, .bool false, .bool false, .int .i64 0, .slice none 0 0, .slice none 0 0, .slice none 0 0, .slice none 0 0], .int .i64 0, .slice none 0 0], []⟩ 8 (by kernel_rfl) (by kernel_rfl) (by kernel_rfl) (by kernel_rfl)) ?_
  intro W base args ds gs before hval hW _ hz _
  exact contract H enc W base args ds gs before hval hW hz

theorem proved : Rows.WireEndsSaid :=
  OpenClaim.holds_of_wide 4 Try.f4 rfl rfl rfl rfl rfl rfl rfl ⟨rfl, rfl, rfl, rfl, rfl⟩ rfl rfl rfl rfl rfl (by kernel_rfl) Try.func4 (by kernel_rfl)
    (of_decide_eq_true (by kernel_rfl)) (by unfold Func.isWrapper; first | (rw [if_pos (by decide +kernel)]; kernel_rfl) | (rw [if_neg (by decide +kernel)]; exact ⟨rfl, rfl⟩))
    (fun os started H enc _ => lifted os started H enc)
end Go.Proofs.Ytlgogddobjkngaa.wireEndsP
namespace Go.Proofs.Ytlgogddobjkngaa
theorem wireEnds_said : Rows.WireEndsSaid := wireEndsP.proved
end Go.Proofs.Ytlgogddobjkngaa
