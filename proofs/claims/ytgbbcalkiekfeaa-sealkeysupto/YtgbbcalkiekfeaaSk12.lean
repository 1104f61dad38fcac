import Derived.Test.YtgbbcalkiekfeaaSk11
import Derived.Test.YtgbbcalkiekfeaaSk7
namespace Go.Proofs.Ytgbbcalkiekfeaa.Nm
set_option linter.unusedVariables false
def dsB (o d : ByteArray) : ByteArray := nB (tagN d) 2 ++ bts [253] ++ bts [1] ++ digB (foldB o ++ d)
/-- what Ds answers -/
def dsR (o d : ByteArray) : ByteArray × Int := bif isN o then (bif keyB d then (dsB o d, 0) else (⟨#[]⟩, 24)) else (⟨#[]⟩, 1)
end Go.Proofs.Ytgbbcalkiekfeaa.Nm
namespace Go.Proofs.Ytgbbcalkiekfeaa
set_option linter.unusedVariables false
open Go.RowKit Go.Shelf Go.Proofs.Ytgbbcalkiekfeaa.Nm
theorem dsR_name {o d : ByteArray} (h : isN o = false) : dsR o d = (⟨#[]⟩, 1) := by unfold dsR; rw [h]; rfl
theorem dsR_key {o d : ByteArray} (h : isN o = true) (hk : keyB d = false) : dsR o d = (⟨#[]⟩, 24) := by unfold dsR; rw [h, hk]; rfl
theorem dsR_ok {o d : ByteArray} (h : isN o = true) (hk : keyB d = true) : dsR o d = (dsB o d, 0) := by unfold dsR; rw [h, hk]; rfl
theorem nB_one : nB 1 1 = bts [1] := by decide

set_option maxRecDepth 100000 in
set_option maxHeartbeats 1000000 in
/-- seal.Ds -/
theorem ds_any (o d : ByteArray) (w : World) (ho : o.size ≤ 1048576) (hd : d.size ≤ 1048576) :
    Calls Try.prog 10 #[.string o, .string d] w fun r w' => r = .returned (.tuple #[.string (dsR o d).1, .int .i64 (dsR o d).2]) ∧ Below w.heap.size w w' := by
  have hnm : o.size ≤ maxLen := by unfold maxLen; omega
  cases hN : isN o with
  | false =>
    have HC := hide' (chk_no hN)
    rw [dsR_name hN]
    clear hN
    go_enter Try.func10, Try.ntmps10
    go_wp2_with (go_at_call 21; refine (check_any o _ hnm).mono ?_; rw [HC.out]; rintro e w1 ⟨rfl, hB1⟩)
    go_ret2
    exact ⟨rfl, hB1⟩
  | true =>
    have HC := hide' (chk_yes hN)
    cases hk : keyB d with
    | false =>
      have HK := hide' hk
      rw [dsR_key hN hk]
      clear hN hk
      go_enter Try.func10, Try.ntmps10
      go_wp2_with (first
        | (go_at_call 21; refine (check_any o _ hnm).mono ?_; rw [HC.out]; rintro e w1 ⟨rfl, hB1⟩)
        | (go_at_call 22; refine (keyOf_any d _ hd).mono ?_; rw [HK.out]; rintro e w2 ⟨⟨k0, k1, k2, k3, rfl⟩, hB2⟩))
      go_ret2
      exact ⟨rfl, (bstep hB1 hB2 hB1.size).alloc (Nat.le_trans hB1.size hB2.size) _⟩
    | true =>
      have HK := hide' hk
      rw [dsR_ok hN hk]
      have hf := foldB_size hN
      have had0 : ∀ W : World, (Op.stringOp .add (foldB o) d).run Try.prog W = .ok (.string (foldB o ++ d)) W := fun W => run_string_add_sum W _ _ (by omega)
      have HZ : Hid ((foldB o ++ d).size ≤ 2097152) := by unfold Hid; rw [ByteArray.size_append]; omega
      obtain ⟨G, hG⟩ : ∃ G, digB (foldB o ++ d) = G := ⟨_, rfl⟩
      have zG : G.size = 10 := by rw [← hG, digB_size]
      have HG := hide' hG
      obtain ⟨X1, hX1⟩ : ∃ X, nB (tagN d) 2 = X := ⟨_, rfl⟩
      obtain ⟨X2, hX2⟩ : ∃ X, nB 253 1 = X := ⟨_, rfl⟩
      obtain ⟨X3, hX3⟩ : ∃ X, nB 1 1 = X := ⟨_, rfl⟩
      have z1 : X1.size = 2 := by rw [← hX1, nB_size]
      have z2 : X2.size = 1 := by rw [← hX2, nB_size]
      have z3 : X3.size = 1 := by rw [← hX3, nB_size]
      have s1 : ∀ W : World, (Op.stringOp .add X1 X2).run Try.prog W = .ok (.string (X1 ++ X2)) W := fun W => run_string_add_sum W _ _ (by omega)
      have s2 : ∀ W : World, (Op.stringOp .add (X1 ++ X2) X3).run Try.prog W = .ok (.string (X1 ++ X2 ++ X3)) W := fun W => run_string_add_sum W _ _ (by rw [ByteArray.size_append]; omega)
      have s3 : ∀ W : World, (Op.stringOp .add (X1 ++ X2 ++ X3) G).run Try.prog W = .ok (.string (X1 ++ X2 ++ X3 ++ G)) W := fun W => run_string_add_sum W _ _ (by rw [ByteArray.size_append, ByteArray.size_append]; omega)
      have HV : Hid (dsB o d = X1 ++ X2 ++ X3 ++ G) := by unfold Hid dsB; rw [← nB_one, ← nB_alg, hX1, hX2, hX3, hG]
      have HX1 := hide' hX1
      have HX2 := hide' hX2
      have HX3 := hide' hX3
      have htl := tagN_lt d
      have T1 : Hid True := trivial
      have T2 : Hid True := trivial
      rw [HV.out]
      clear hX1 hX2 hX3 z1 z2 z3 zG hG hN hk hf HV
      go_enter Try.func10, Try.ntmps10
      go_wp2_with (first
        | (go_at_call 21; refine (check_any o _ hnm).mono ?_; rw [HC.out]; rintro e w1 ⟨rfl, hB1⟩)
        | (go_at_call 22; refine (keyOf_any d _ hd).mono ?_; rw [HK.out]; rintro e w2 ⟨⟨k0, k1, k2, k3, rfl⟩, hB2⟩)
        | (go_at_call 24; refine (fold_any o _ hnm).mono ?_; rintro e w3 ⟨rfl, hB3⟩)
        | (go_at_call 23; refine (digest_any _ _ HZ.out).mono ?_; rw [HG.out]; rintro e w4 ⟨rfl, hB4⟩)
        | (go_at_call 8; refine (tag_any d _ hd).mono ?_; rintro e w5 ⟨rfl, rfl⟩)
        | (go_at_call 18; have _ := T1; clear T1; refine (spellBytes_any 2 (tagN d) _ (by omega) (by omega)).mono ?_; rw [HX1.out]; rintro e w6 ⟨rfl, hB6⟩)
        | (go_at_call 18; have _ := T2; clear T2; refine (spellBytes_any 1 253 _ (by omega) (by omega)).mono ?_; rw [HX2.out]; rintro e w7 ⟨rfl, hB7⟩)
        | (go_at_call 18; refine (spellBytes_any 1 1 _ (by omega) (by omega)).mono ?_; rw [HX3.out]; rintro e w8 ⟨rfl, hB8⟩))
      go_ret2
      refine ⟨rfl, ?_⟩
      have b2 := (bstep hB1 hB2 hB1.size).alloc (Nat.le_trans hB1.size hB2.size) (.cells #[.int .i64 k0, .int .i64 k1, .int .i64 k2, .int .i64 k3] 23)
      have b3 := bstep b2 hB3 b2.size
      have b4 := bstep b3 hB4 b3.size
      have b6 := bstep b4 hB6 b4.size
      have b7 := bstep b6 hB7 b6.size
      exact bstep b7 hB8 b7.size

set_option maxRecDepth 100000 in
set_option maxHeartbeats 1000000 in
/-- gazetteerref4.Ds -/
theorem refDs_any (o d : ByteArray) (w : World) (ho : o.size ≤ 1048576) (hd : d.size ≤ 1048576) :
    Calls Try.prog 11 #[.string o, .string d] w fun r w' => r = .returned (.tuple #[.string (dsR o d).1, .int .i64 (dsR o d).2]) ∧ Below w.heap.size w w' := by
  cases hN : isN o with
  | false =>
    rw [dsR_name hN]
    go_enter Try.func11, Try.ntmps11
    go_wp2_with (go_at_call 25; refine (refIsName_any o _ ho).mono ?_; rw [hN]; rintro e w1 ⟨rfl, hB1⟩)
    go_ret2
    exact ⟨rfl, hB1⟩
  | true =>
    cases hk : keyB d with
    | false =>
      have HK := hide' hk
      rw [dsR_key hN hk]
      clear hk
      go_enter Try.func11, Try.ntmps11
      go_wp2_with (first
        | (go_at_call 25; refine (refIsName_any o _ ho).mono ?_; rw [hN]; rintro e w1 ⟨rfl, hB1⟩)
        | (go_at_call 26; refine (isKey_any d _ (by omega)).mono ?_; rw [HK.out]; rintro e w2 ⟨rfl, hB2⟩))
      go_ret2
      exact ⟨rfl, bstep hB1 hB2 hB1.size⟩
    | true =>
      have HK := hide' hk
      rw [dsR_ok hN hk]
      have h12 : d.size = 12 := of_decide_eq_true ((Bool.and_eq_true _ _).mp hk).1
      have hf := foldB_size hN
      have had0 : ∀ W : World, (Op.stringOp .add (foldB o) d).run Try.prog W = .ok (.string (foldB o ++ d)) W := fun W => run_string_add_sum W _ _ (by omega)
      have HZ : Hid ((foldB o ++ d).size ≤ 1048576) := by unfold Hid; rw [ByteArray.size_append]; omega
      obtain ⟨G, hG⟩ : ∃ G, digB (foldB o ++ d) = G := ⟨_, rfl⟩
      have zG : G.size = 10 := by rw [← hG, digB_size]
      have HG := hide' hG
      obtain ⟨X1, hX1⟩ : ∃ X, nB (tagN d) 2 = X := ⟨_, rfl⟩
      have z1 : X1.size = 2 := by rw [← hX1, nB_size]
      have s1 : ∀ W : World, (Op.stringOp .add X1 ⟨#[253, 1]⟩).run Try.prog W = .ok (.string (X1 ++ ⟨#[253, 1]⟩)) W := fun W => run_string_add_sum W _ _ (by rw [show (⟨#[253, 1]⟩ : ByteArray).size = 2 from rfl]; omega)
      have s3 : ∀ W : World, (Op.stringOp .add (X1 ++ ⟨#[253, 1]⟩) G).run Try.prog W = .ok (.string (X1 ++ ⟨#[253, 1]⟩ ++ G)) W := fun W => run_string_add_sum W _ _ (by rw [ByteArray.size_append, show (⟨#[253, 1]⟩ : ByteArray).size = 2 from rfl]; omega)
      have HV : Hid (dsB o d = X1 ++ ⟨#[253, 1]⟩ ++ G) := by
        unfold Hid dsB
        rw [hX1, hG, show (⟨#[253, 1]⟩ : ByteArray) = bts [253] ++ bts [1] from rfl, ByteArray.append_assoc (a := X1)]
      have HX1 := hide' hX1
      have htl := tagN_lt d
      rw [HV.out]
      clear hX1 z1 zG hG hk hf HV
      go_enter Try.func11, Try.ntmps11
      go_wp2_with (first
        | (go_at_call 25; refine (refIsName_any o _ ho).mono ?_; rw [hN]; rintro e w1 ⟨rfl, hB1⟩)
        | (go_at_call 26; refine (isKey_any d _ (by omega)).mono ?_; rw [HK.out]; rintro e w2 ⟨rfl, hB2⟩)
        | (go_at_call 9; refine (refTag_any d _ (by omega)).mono ?_; rintro e w5 ⟨rfl, rfl⟩)
        | (go_at_call 20; refine (refBytes_any 2 (tagN d) _ (by omega) (by omega)).mono ?_; rw [HX1.out]; rintro e w3 ⟨rfl, hB3⟩)
        | (go_at_call 28; refine (foldName_any o _ ho).mono ?_; rintro e w4 ⟨rfl, hB4⟩)
        | (go_at_call 27; refine (refDigest_any _ _ HZ.out).mono ?_; rw [HG.out]; rintro e w6 ⟨rfl, hB6⟩))
      go_ret2
      refine ⟨rfl, ?_⟩
      have b2 := bstep hB1 hB2 hB1.size
      have b3 := bstep b2 hB3 b2.size
      have b4 := bstep b3 hB4 b3.size
      exact bstep b4 hB6 b4.size
end Go.Proofs.Ytgbbcalkiekfeaa
