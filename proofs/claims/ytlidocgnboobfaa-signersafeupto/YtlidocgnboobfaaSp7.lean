import Derived.Test.YtlidocgnboobfaaSp6
/-
  SignerPlans: the walk. (The verifier's own text.)
-/
namespace Go.Proofs.Ytlidocgnboobfaa
set_option linter.unusedVariables false
set_option linter.unusedSimpArgs false
open Go.RowKit Go.Shelf Go.Proofs.Ytlidocgnboobfaa.Nm

set_option maxRecDepth 100000 in
set_option maxHeartbeats 100000000 in
/-- gazetteerlaw4.SignerPlans -/
theorem signerPlans_any (L : List Tk) (p : Option Addr) (cap : Nat) (q0 : Option Addr) (n0 c0 : Nat) (kb : Bool) (ks : ByteArray) (i3 i4 i5 i6 : Int) (t : Int) (w : World) (hL : L.length ≤ 1048576) (hat : TsAt w p L) (hnone : p = none → cap = 0) :
    Calls Try.prog 3 #[.slice p L.length cap, .agg #[.slice q0 n0 c0, .bool kb, .string ks, .int .i64 i3, .int .i64 i4, .int .i64 i5, .int .i64 i6], .int .i64 t] w fun e w' => e = .returned (.bool true) ∧ Below w.heap.size w w' := by
  have HA := hide' hat
  have HN := hide' hnone
  clear hat hnone
  go_enter Try.func3, Try.ntmps3
  go_upto_region 2 with (at_builtin; refine wpList_append_rows (V := tkV) Try.underlying22 infoTk rfl (by decide) (by decide) tkV_len tkV_one rfl _ _ rfl (w.heap.size + 1) (.slice none 0 0) 0 [] rfl (row_nil _ _ _ _) p L cap rfl (row_below' HA.out ((Below.refl _ _).alloc (Nat.le_refl _) _)) HN.out (by omega) (by simp) ?_; intro v1 w1 ho1 hg1)
  rw [Nat.zero_add, List.nil_append] at ho1
  obtain ⟨p1, c1, rfl, _, _, _⟩ := own_shape ho1
  have HF : Hid (Fp w w1 #[.slice q0 n0 c0, .bool kb, .string ks, .int .i64 i3, .int .i64 i4, .int .i64 i5, .int .i64 i6] (.slice p1 L.length c1) L) := ⟨((Below.refl _ _).alloc (Nat.le_refl _) _).grown hg1 (by simp) (fun k e => by cases e), (bxNew _ _ _).grown hg1 (fun e => by cases e), ho1⟩
  have HLW : Hid (TsAt w1 p L) := row_below' HA.out HF.out.bel
  clear ho1 hg1
  refine plans_reg _ _ L p p1 q0 cap c1 n0 c0 kb ks i3 i4 i5 i6 t w w1 hL HA HF _ _ _ _ _ _ _ _ _ _ _ _ _ _ _ _ _ _ ?_
  intro A B p2 p3 c2 c3 wc y13 y14 y15 y16 y17 y18 y19 y20 hQ
  have HQ := hide' hQ
  have HLW2 : Hid (TsAt wc p L) := row_below' HA.out hQ.f.bel
  have HPL : Hid ((planK L t).length ≤ 1048576) := Nat.le_trans (planK_le _ _) hL
  clear hQ
  have qa : wc.cell? ⟨A, 0, none⟩ = some (.slice p2 (planK L t).length c2) := HQ.out.ba.cell rfl
  have qb : wc.cell? ⟨B, 0, none⟩ = some (.slice p3 (planK L t).length c3) := HQ.out.b3.cell rfl
  generalize hPK : planK L t = PK at *
  go_wp2_with (first
    | (go_at_call 8; refine (samePlanKeys_same PK p2 p3 _ c2 c3 _ rfl (row_own pnV_len HQ.out.o2) (row_own pnV_len HQ.out.o3) (by have := HPL.out; omega)).mono ?_; rintro r5 w5 ⟨rfl, hB5⟩; have HQ5 := hide' (HQ.out.below hB5 (Nat.le_refl _)); clear hB5)
    | (go_at_call 9; refine (sameLine_same L p1 p _ c1 cap _ rfl HQ5.out.f.ts (row_below' HA.out HQ5.out.f.bel) (by omega)).mono ?_; rintro r6 w6 ⟨rfl, hB6⟩; have HQ6 := hide' (HQ5.out.below hB6 (Nat.le_refl _)); have qa6 : w6.cell? ⟨A, 0, none⟩ = some (.slice p2 PK.length c2) := HQ6.out.ba.cell rfl; clear hB6))
  have HQ7 := hide' HQ6.out
  clear HQ HQ5 qa qb HLW2
  go_loopw [36] (fun i wr => ∃ (j : Nat) (X2 : List Value), i = .int .i64 (j : Int) ∧ j ≤ PK.length ∧ Fq w wr #[.slice q0 n0 c0, .bool kb, .string ks, .int .i64 i3, .int .i64 i4, .int .i64 i5, .int .i64 i6] [.bool kb, .string ks, .int .i64 i3, .int .i64 i4, .int .i64 i5, .int .i64 i6] (.slice p1 L.length c1) (.slice p2 PK.length c2) (.slice p3 PK.length c3) A B L PK X2) (fun i _ => PK.length - (intOf i).toNat)
  case atStart => exact ⟨0, _, rfl, Nat.zero_le _, HQ6.out⟩
  case round =>
    obtain ⟨j, X2, rfl, hj, hQ⟩ := hrel
    have HQ := hide' hQ
    have qa : wr.cell? ⟨A, 0, none⟩ = some (.slice p2 PK.length c2) := HQ.out.ba.cell rfl
    clear hQ qa6
    by_cases hlt : j < PK.length
    · obtain ⟨g, c, hv, hge, hgl⟩ := HQ.out.o2.form (by omega)
      injection hv with hv1 hv2 hv3
      subst hv1
      obtain ⟨x0, e0, f0⟩ := row_cell HQ.out.o2 (j * 5) (by omega)
      obtain ⟨x1, e1, f1⟩ := row_cell HQ.out.o2 (j * 5 + 1) (by omega)
      obtain ⟨x2, e2, f2⟩ := row_cell HQ.out.o2 (j * 5 + 2) (by omega)
      obtain ⟨x3, e3, f3⟩ := row_cell HQ.out.o2 (j * 5 + 3) (by omega)
      obtain ⟨x4, e4, f4⟩ := row_cell HQ.out.o2 (j * 5 + 4) (by omega)
      have HPL2 := HPL.out
      go_wp2_with fail
      exact ⟨⟨j + 1, _, by go_num, by omega, ((((HQ.out.put (j * 5) (by omega) _).put (j * 5 + 1) (by omega) _).put (j * 5 + 2) (by omega) _).put (j * 5 + 3) (by omega) _).put (j * 5 + 4) (by omega) _⟩, by simp [intOf]; omega⟩
    · obtain rfl : j = PK.length := by omega
      obtain ⟨b0, b1, b2, b3, b4, b5, b6⟩ := bx7 HQ.out.f.bb
      have HPA := hide' (planAt_any L p1 c1 (.slice q0 n0 c0) kb ks i3 i4 i5 i6 t wr hL HQ.out.f.ts)
      rw [hPK] at HPA
      go_wp2_with (first
        | (go_at_call 6
           refine HPA.out.mono ?_
           rintro r8 w8 ⟨v8, rfl, ho8, hB8⟩
           obtain ⟨p8, c8, rfl, _, _, _⟩ := own_shape ho8
           have HE8 := hide' (HQ.out.anew HA.out hB8 ho8)
           have HQ8 := hide' (HQ.out.below hB8 (Nat.le_refl _))
           obtain ⟨a0, a1, a2, a3, a4, a5, a6⟩ := bx7 HQ8.out.ba
           have f0 := HQ8.out.ba.free 0
           have f1 := HQ8.out.ba.free 1
           have f2 := HQ8.out.ba.free 2
           have f3 := HQ8.out.ba.free 3
           have f4 := HQ8.out.ba.free 4
           have f5 := HQ8.out.ba.free 5
           have f6 := HQ8.out.ba.free 6
           obtain ⟨d0, d1, d2, d3, d4, d5, d6⟩ := bx7 HQ8.out.b3
           have hab := HQ8.out.ab
           have hba := Ne.symm HQ8.out.ab
           clear ho8 hB8)
        | (go_at_call 8
           refine (samePlanKeys_same PK p8 p3 _ c8 c3 _ rfl HE8.out.ps8 HE8.out.ps3 (by have := HPL.out; omega)).mono ?_
           rintro r9 w9 ⟨rfl, hB9⟩
           have HE9 := hide' (HE8.out.below hB9)
           clear hB9)
        | (go_at_call 9
           refine (sameLine_same L p1 p _ c1 cap _ rfl HE9.out.ts1 HE9.out.ts (by omega)).mono ?_
           rintro r10 w10 ⟨rfl, hB10⟩
           have HE10 := hide' (HE9.out.below hB10)
           obtain ⟨x0, x1, x2, x3, x4, x5, x6⟩ := bx7 HE10.out.ba
           obtain ⟨y0, y1, y2, y3, y4, y5, y6⟩ := bx7 HE10.out.b3
           clear hB10))
      go_ret
      exact ⟨rfl, HE10.out.bel⟩
end Go.Proofs.Ytlidocgnboobfaa
