import Derived.Test.YtfacfhigehdejaaGreatDoorDbfG
import Derived.Test.YtfacfhigehdejaaGreatDoorRdbG
/-
  Proofs: digits as bytes again, bytes with their count, the bytes that a word tells. (The verifier's own text.)
-/
namespace Go.Proofs.YtfacfhigehdejaaGreatDoor
set_option linter.unusedVariables false
set_option linter.unusedSimpArgs false
open Go.RowKit Go.Shelf Go.Proofs.YtfacfhigehdejaaGreatDoor.Nm

set_option maxRecDepth 100000 in
/-- data.from16, of digits that tell bytes -/
theorem from16_of (b : ByteArray) (w : World) (hb : b.size ≤ 65535) :
    Calls Tryz.prog 44 #[.string (toWB 4 d16 b)] w fun e w' => e = .returned (.tuple #[.string b, .bool true]) ∧ Below w.heap.size w w' := by
  have hz := cW_len8 dg16 b
  have HS := hide' (fun V => small_any (toWB 4 d16 b) V (by omega))
  rw [low16] at HS
  have HF : Hid (∀ V, Calls Tryz.prog 52 #[.string (toWB 4 d16 b), .string d16] V fun e w' => e = .returned (.tuple #[.string b, .bool true]) ∧ Below V.heap.size V w') := fun V => by
    have h := fromDigits4 (toWB 4 d16 b) d16 V (by omega) d16_size
    rw [fromW_to dg16 b] at h
    unfold fromEnd at h
    simp only at h
    rw [bts_lst] at h
    exact h
  generalize toWB 4 d16 b = T at *
  unfold d16 at HF
  go_enter Tryz.func44, Tryz.ntmps44
  go_wp2_with (first
    | (go_at_call 23; refine (HS.out _).mono ?_; rintro e0 w2 ⟨rfl, hB0⟩; have HB0 := hide' hB0; clear hB0)
    | (go_at_call 52; refine (HF.out _).mono ?_; rintro e1 w3 ⟨rfl, hB1⟩; have HB1 := hide' (bstep HB0.out hB1 HB0.out.size); clear hB1))
  go_ret2
  exact ⟨rfl, HB1.out⟩
theorem not3 (n : Nat) (h : n ≤ 16777216) : bits .andNot .i64 ((n : Int) + 3) 3 = ((n + fil64 n : Nat) : Int) := by
  have e0 : (n : Int) + 3 = ((n + 3 : Nat) : Int) := by omega
  have e1 : bits .andNot .i64 ((n + 3 : Nat) : Int) 3 = IntKind.i64.wrap (((BitVec.ofInt 64 ((n + 3 : Nat) : Int)) &&& ~~~ (BitVec.ofInt 64 3)).toNat : Int) := rfl
  have e2 : (BitVec.ofInt 64 ((n + 3 : Nat) : Int)).toNat = n + 3 := by
    rw [BitVec.toNat_ofInt]; omega
  have e3 : ((BitVec.ofInt 64 ((n + 3 : Nat) : Int)) &&& ~~~ (BitVec.ofInt 64 3)).toNat = (n + 3) / 4 * 4 := by
    have h1 : (BitVec.ofInt 64 ((n + 3 : Nat) : Int)) &&& ~~~ (BitVec.ofInt 64 3) = ((BitVec.ofInt 64 ((n + 3 : Nat) : Int)) >>> 2) <<< 2 := by
      apply BitVec.eq_of_getElem_eq
      intro i hi
      rcases i with _ | _ | i
      · simp
      · simp
      · have hk : ∀ j, j < 62 → (18446744073709551612#64).getLsbD (j + 1 + 1) = true := by decide +kernel
        have h5 := hk i (by omega)
        rw [BitVec.getLsbD_eq_getElem hi] at h5
        simp
        rw [h5, Bool.and_true, show 2 + i = i + 1 + 1 by omega, BitVec.getLsbD_eq_getElem hi]
        simp
    rw [h1, BitVec.toNat_shiftLeft, BitVec.toNat_ushiftRight, e2]
    simp only [Nat.shiftLeft_eq, Nat.shiftRight_eq_div_pow]
    omega
  rw [e0, e1, e3]
  unfold fil64
  simp [IntKind.wrap, IntKind.bits, IntKind.signed]
  omega
theorem trim64 (T : ByteArray) (f : Nat) (hT : ∀ j, j < T.size → bt T j ≠ 61) : (⟨(Lib.trimRightB (bts (lsB T ++ List.replicate f 61)).data.toList 61).toArray⟩ : ByteArray) = T := by
  have e : Lib.trimRightB (bts (lsB T ++ List.replicate f 61)).data.toList 61 = (bts (lsB T ++ List.replicate f 61)).data.toList.take T.size := by
    rw [bts_u8]
    refine Lib.trimRightB_take _ _ _ (by rw [u8_len, List.length_append, lsB_len]; omega) ?_ ?_
    · intro j b hj hb
      unfold u8 at hb
      rw [List.getElem?_map, List.getElem?_append_right (by rw [lsB_len]; exact hj), List.getElem?_replicate] at hb
      split at hb
      · simp at hb; exact hb.symm
      · cases hb
    · intro b h0 hb
      unfold u8 at hb
      rw [List.getElem?_map, List.getElem?_append_left (by rw [lsB_len]; omega)] at hb
      have hl : (lsB T)[T.size - 1]? = some (bt T (T.size - 1)) := by
        unfold lsB lst
        rw [List.getElem?_map, List.getElem?_range (by omega)]
        rfl
      rw [hl] at hb
      simp only [Option.map_some, Option.some.injEq] at hb
      subst hb
      have h2 := hT (T.size - 1) (by omega)
      have h3 := u8_ne (c := 61) (bt_lt T (T.size - 1)) (by omega) h2
      exact h3
  rw [e, bts_u8, u8_app, List.take_left' (by rw [u8_len, lsB_len]), u8_bts, bts_ls]
set_option maxRecDepth 100000 in
set_option maxHeartbeats 2000000 in
/-- data.from64 -/
theorem from64_of (b : ByteArray) (w : World) (hb : b.size ≤ 65535) :
    Calls Tryz.prog 157 #[.string (bts (lsB (toWB 6 d64 b) ++ List.replicate (fil64 (toWB 6 d64 b).size) 61))] w fun e w' => e = .returned (.tuple #[.string b, .bool true]) ∧ Below w.heap.size w w' := by
  have hz := cW_len8 dg64 b
  have hsz : (bts (lsB (toWB 6 d64 b) ++ List.replicate (fil64 (toWB 6 d64 b).size) 61)).size = (toWB 6 d64 b).size + fil64 (toWB 6 d64 b).size := by rw [bts_size, List.length_append, List.length_replicate, lsB_len]
  have hf3 : fil64 (toWB 6 d64 b).size ≤ 3 := by unfold fil64; omega
  have HT : Hid (∀ V, Calls Tryz.prog 159 #[.string (bts (lsB (toWB 6 d64 b) ++ List.replicate (fil64 (toWB 6 d64 b).size) 61)), .string ⟨#[61]⟩] V fun e w' => e = .returned (.string (toWB 6 d64 b)) ∧ w' = V) := fun V => by
    have h := Any.strings_TrimRight_one Tryz.lays162 (bts (lsB (toWB 6 d64 b) ++ List.replicate (fil64 (toWB 6 d64 b).size) 61)) 61 (by decide) V (by rw [hsz]; omega)
    rw [trim64 _ _ (fun j hj => (toWB_all (P := sgnD) dg64 b d64_sgn j hj).2.2.1)] at h
    exact h
  have HF : Hid (∀ V, Calls Tryz.prog 52 #[.string (toWB 6 d64 b), .string d64] V fun e w' => e = .returned (.tuple #[.string b, .bool true]) ∧ Below V.heap.size V w') := fun V => by
    have h := fromDigits6 (toWB 6 d64 b) d64 V (by omega) d64_size
    rw [fromW_to dg64 b] at h
    unfold fromEnd at h
    simp only at h
    rw [bts_lst] at h
    exact h
  have hn3 := not3 (toWB 6 d64 b).size (by omega)
  generalize bts (lsB (toWB 6 d64 b) ++ List.replicate (fil64 (toWB 6 d64 b).size) 61) = X at *
  generalize toWB 6 d64 b = T at *
  generalize fil64 T.size = f at *
  have hne : ((X.size : Int) != ((T.size + f : Nat) : Int)) = false := by rw [hsz]; exact bne_self_eq_false _
  have hXl : X.size ≤ 1000000 := by omega
  unfold d64 at HF
  clear hsz
  go_enter Tryz.func157, Tryz.ntmps157
  go_wp2_with (first
    | (go_at_call 159; refine (HT.out _).mono ?_; rintro e0 w2 ⟨rfl, hw2⟩; have hw2' := hw2.symm; subst hw2')
    | (go_at_call 52; refine (HF.out _).mono ?_; rintro e1 w3 ⟨rfl, hB1⟩; have HB1 := hide' hB1; clear hB1))
  go_ret2
  exact ⟨rfl, HB1.out⟩
end Go.Proofs.YtfacfhigehdejaaGreatDoor

/-
  Proofs: bytes with their count, the bytes that a word tells, words that tell bytes to the end. (The verifier's own text.)
-/
namespace Go.Proofs.YtfacfhigehdejaaGreatDoor
set_option linter.unusedVariables false
set_option linter.unusedSimpArgs false
open Go.RowKit Go.Shelf Go.Proofs.YtfacfhigehdejaaGreatDoor.Nm

set_option maxRecDepth 100000 in
/-- data.withCount -/
theorem withCount_any (v : Value) (x : ByteArray) (w : World) (hx : x.size ≤ 255) :
    Calls Tryz.prog 132 #[v, .string x] w fun e w' => e = .returned (.string (chunk x)) ∧ Below w.heap.size w w' := by
  have HM := hide' (fun v V => must_any v V)
  have hcv : (convert 69 9 (.slice (some ⟨w.heap.size, 0, none⟩) 1 1)).run Tryz.prog (w.alloc (.cells #[.int .u8 (x.size : Int)] 5)) = .ok (.string (bts [x.size])) (w.alloc (.cells #[.int .u8 (x.size : Int)] 5)) := one_b w _ x.size (by omega) (Below.refl _ _)
  have HC : Hid (chunk x = bts [x.size] ++ x) := rfl
  have hsz : (bts [x.size]).size = 1 := rfl
  obtain ⟨B, hB⟩ : ∃ B, bts [x.size] = B := ⟨_, rfl⟩
  rw [hB] at hcv hsz
  have HC2 : Hid (chunk x = B ++ x) := by unfold Hid; rw [← hB]; exact HC.out
  clear hB HC
  have hle : (x.size : Int) ≤ 255 := by omega
  have hw : IntKind.u8.wrap (x.size : Int) = (x.size : Int) := by
    simp [IntKind.wrap, IntKind.bits, IntKind.signed]
    omega
  have hov : ¬ 9223372036854775807 < B.size + x.size := by omega
  go_enter Tryz.func132, Tryz.ntmps132
  go_wp2_with (go_at_call 43; refine (HM.out _ _).mono ?_; rintro e1 w3 ⟨rfl, hw3⟩; have hw3' := hw3.symm; subst hw3')
  go_ret
  exact ⟨by rw [HC2.out]; rfl, (Below.refl _ w).alloc (Nat.le_refl _) _⟩
theorem byts_snoc (l : List Nat) (y : Nat) : byts (l ++ [y]) = byts l ++ [.int .u8 (y : Int)] := by simp [byts]
set_option maxRecDepth 100000 in
set_option maxHeartbeats 4000000 in
/-- data.readBytes, of bytes that were told -/
theorem readBytes_any (W0 : World) (L : Nat) (q : Option Addr) (c : Nat) (Z : List Wz) (o : ByteArray) (n : Nat) (z : Wz) (l : List Nat) (w : World) (h : Ln W0 L q c Z o n w) (hz : Z[n]? = some z) (ht : z.t = qtL l) (hl : ∀ x ∈ l, x < 256) (hll : l.length ≤ 65535) (hG : GD W0) :
    Calls Tryz.prog 133 #[.pointer (some ⟨L, 0, none⟩)] w fun e w' => e = .returned (.string (bts l)) ∧ Ln W0 L q c Z o (n + 1) w' ∧ Rg w w' L := by
  obtain ⟨i0, hi, hz0, hz1, hz2⟩ := info_parts Tryz.infoByte
  have HT := hide' (take_any W0 L q c Z o n z w h hz)
  rw [ht] at HT
  have HM := hide' (fun v V => must_any v V)
  have HLt : Hid (L < w.heap.size) := h.lt
  have HGl : Hid (∀ V, Below W0.heap.size W0 V → Gl V) := fun V hV => (hG.gw.below hV).errs
  have HStep : Hid (∀ k (hk : k < l.length), ∃ (x : ByteArray) (y wd : Nat), bts (qtL (l.drop k)) = x ∧ 0 < x.size ∧ x.size ≤ 1048576 ∧ pc x = (y, wd) ∧ 0 < wd ∧ wd ≤ 4 ∧ wd ≤ x.size ∧ x.extract wd x.size = bts (qtL (l.drop (k + 1))) ∧ y < 256 ∧ byts (l.take (k + 1)) = byts (l.take k) ++ [.int .u8 (y : Int)]) := fun k hk => by
    have e := List.drop_eq_getElem_cons hk
    have hy := hl _ (List.getElem_mem hk)
    have e2 : qtL (l.drop k) = shQ l[k] ++ qtL (l.drop (k + 1)) := by rw [e, qtL_cons]
    have hlt : ∀ x ∈ qtL (l.drop (k + 1)), x < 256 := qtL_lt (fun x hx => hl x (List.mem_of_mem_drop hx))
    have hp := pc_shQ hy (qtL (l.drop (k + 1))) hlt
    obtain ⟨h1, h2⟩ := shQ_len l[k]
    have h3 := (qtL_len (l.drop k)).2
    rw [List.length_drop] at h3
    have hsz : (bts (qtL (l.drop k))).size = (shQ l[k]).length + (qtL (l.drop (k + 1))).length := by rw [bts_size, e2, List.length_append]
    refine ⟨_, l[k], (shQ l[k]).length, rfl, by omega, by rw [bts_size]; omega, by rw [e2]; exact hp, h1, h2, by omega, ?_, hy, ?_⟩
    · rw [bts_drop _ _ (by rw [e2, List.length_append]; omega), e2, List.drop_left]
    · rw [List.take_add_one, List.getElem?_eq_getElem hk, Option.toList_some, byts_snoc]
  have H0 : Hid (bts (qtL l) = bts (qtL (l.drop 0))) := by rw [List.drop_zero]; exact rfl
  have HEnd : Hid (bts (qtL (l.drop l.length)) = ⟨#[]⟩) := by unfold Hid; rw [List.drop_length]; rfl
  have HTk : Hid (l.take l.length = l) := List.take_length
  have HL256 := hide' hl
  generalize bts (qtL l) = x0 at *
  have hfl : ∀ (W : World) (a b : Value), (Instr.field 59 (.agg #[a, b]) 0).run Tryz.prog W = .ok a W := fun W a b => by
    simp [Instr.field, run_underlying Tryz.underlying59, go_sem, asAgg]
    try rfl
  clear hz ht hl
  go_enter Tryz.func133, Tryz.ntmps133
  go_wp2_with (go_at_call 41; refine HT.out.mono ?_; rintro e0 w2 ⟨rfl, hL, hR⟩; have HL2 := hide' hL; have HR2 := hide' hR; have HLt2 : Hid (L < w2.heap.size) := hL.lt; clear hL hR)
  clear HT
  go_loopw [3, 4] (fun xv bv wr => ∃ (k : Nat) (x : ByteArray) (p : Option Addr) (c' : Nat), xv = .string x ∧ Hid (x = bts (qtL (l.drop k))) ∧ bv = .slice p k c' ∧ k ≤ l.length ∧ Hid (wr.ownsRow w2.heap.size 5 1 (.slice p k c') k (byts (l.take k))) ∧ Hid (Below w2.heap.size w2 wr)) (fun xv _ _ => ssz xv)
  case atStart => exact ⟨0, x0, none, 0, rfl, H0.out, rfl, Nat.zero_le _, World.ownsRow_nil _ _ _ _, Below.refl _ _⟩
  case round =>
    obtain ⟨k, x, p, c', rfl, HX, rfl, hk, HO, HB⟩ := hrel
    by_cases hlt : k < l.length
    · obtain ⟨x', y, wd, e1, h1, h2, h3, h4, h5, h6, h7, h8, h9⟩ := HStep.out k hlt
      have hxx : x = x' := by rw [HX.out, e1]
      subst hxx
      have he := isEmpty_false (r := x) (by omega)
      have HBy : Hid (∀ V, Gl V → Calls Tryz.prog 127 #[.string x] V fun e w' => e = .returned (.tuple #[.int .u8 (y : Int), .int .i64 (wd : Int)]) ∧ Below V.heap.size V w') := fun V hV => by
        have := byte_any x V h1 h2 hV
        rw [h3] at this
        exact this
      obtain ⟨R, hR⟩ : ∃ R, bts (qtL (l.drop (k + 1))) = R := ⟨_, rfl⟩
      have HR1 : Hid (R = bts (qtL (l.drop (k + 1)))) := hR.symm
      have hzR : Hid (R.size < x.size) := by unfold Hid; rw [← hR, ← h7, size_extract' _ _ _ (Nat.le_refl _)]; omega
      rw [hR] at h7
      have HE := hide' h9
      have pw : (0 : Int) < (wd : Int) := by omega
      have pw2 : (wd : Int) ≤ (x.size : Int) := by omega
      clear e1 h1 h3 h9 hR HX
      go_wp2_with (first
        | (go_at_call 127; refine (HBy.out _ (HGl.out _ (HL2.out.below HB.out).bel)).mono ?_; rintro e1 w3 ⟨rfl, hB1⟩; have HB1 := hide' (bstep HB.out hB1 HB.out.size); have HO1 := hide' (ownsRow_below HO.out hB1); clear hB1)
        | (go_at_call 43; refine (HM.out _ _).mono ?_; rintro e1 w4 ⟨rfl, hw4⟩; have hw4' := hw4.symm; subst hw4')
        | (at_builtin; refine wpList_append_own _ rfl _ _ 69 rfl w2.heap.size 5 i0 (.int .u8 0) 1 1 Tryz.underlying69 hi hz0 hz1 hz2 rfl (by decide) (.slice p k c') k (byts (l.take k)) ?_ (HO1.out.alloc _) ⟨w3.heap.size, 0, none⟩ 1 1 [.int .u8 (y : Int)] ?_ rfl (cell_one_new _ _ _) (by simp [Value.oneCell']) (by unfold maxLen; omega) (by omega) (by have := HB1.out.size; simp; omega) ?_; rfl; rfl; intro v5 w5 ho5 hg5 _; obtain ⟨g5, c5, hv5⟩ := owns_some ho5 (by omega); subst hv5; have HO5 := hide' ho5; have HB5 := hide' (below_app HB1.out (Nat.le_refl _) HO1.out hg5); clear ho5 hg5))
      refine ⟨⟨k + 1, R, _, c5, ?_, HR1, rfl, by omega, by rw [HE.out]; exact HO5, HB5⟩, hzR.out⟩
      first | rfl | (congr 1)
    · obtain rfl : k = l.length := by omega
      have hx0 : x = ⟨#[]⟩ := by rw [HX.out, HEnd.out]
      subst hx0
      have he := isEmpty_true (r := ⟨#[]⟩) rfl
      have hcv : (convert 69 9 (.slice p l.length c')).run Tryz.prog wr = .ok (.string (bts l)) wr := by
        have ho := HO.out
        rw [HTk.out] at ho
        exact str_owns ho HL256.out
      clear HX HO
      go_wp2
      go_ret
      exact ⟨rfl, HL2.out.below HB.out, HR2.out.trans (Rg.of_below HB.out L)⟩
end Go.Proofs.YtfacfhigehdejaaGreatDoor

/-
  Proofs: words that tell bytes to the end. (The verifier's own text.)
-/
namespace Go.Proofs.YtfacfhigehdejaaGreatDoor
set_option linter.unusedVariables false
set_option linter.unusedSimpArgs false
open Go.RowKit Go.Shelf Go.Proofs.YtfacfhigehdejaaGreatDoor.Nm

theorem ct_last {Z : List Wz} {n : Nat} {z : Wz} (hz : Z[n]? = some z) (hn : n + 1 = Z.length) : ctW (Z.drop n) = z.t ∧ (∀ j y, n ≤ j → Z[j]? = some y → y = z) ∧ ∀ k, (ctW ((Z.take k).drop n)).length ≤ z.t.length := by
  have hlt : n < Z.length := by omega
  have hd : Z.drop n = [z] := by
    rw [List.drop_eq_getElem_cons hlt, List.drop_eq_nil_of_le (by omega)]
    rw [List.getElem?_eq_getElem hlt] at hz
    simp only [Option.some.injEq] at hz
    rw [hz]
  refine ⟨by rw [hd]; simp [ctW], fun j y hj hy => ?_, fun k => ?_⟩
  · have : j < Z.length := (List.getElem?_eq_some_iff.1 hy).1
    have : j = n := by omega
    subst this
    rw [hz] at hy
    exact (Option.some.inj hy).symm
  · by_cases hk : k ≤ n
    · rw [List.drop_eq_nil_of_le (by rw [List.length_take]; omega)]; simp [ctW]
    · rw [List.take_of_length_le (by omega), hd]; simp [ctW]
set_option maxRecDepth 100000 in
set_option maxHeartbeats 4000000 in
/-- data.readToEnd over data.from16 -/
theorem toEnd16_any (W0 : World) (L : Nat) (q : Option Addr) (c : Nat) (Z : List Wz) (o : ByteArray) (n : Nat) (z : Wz) (b : ByteArray) (w : World) (h : Ln W0 L q c Z o n w) (hz : Z[n]? = some z) (hn : n + 1 = Z.length) (hq : z.q = false) (ht : z.t = lsB (toWB 4 d16 b)) (hb : b.size ≤ 65535) (h0 : 0 < b.size) :
    Calls Tryz.prog 149 #[.pointer (some ⟨L, 0, none⟩), .func (Fn.func 44) #[] #[]] w fun e w' => e = .returned (.string b) ∧ Ln W0 L q c Z o (n + 1) w' ∧ Rg w w' L := by
  have hz8 := cW_len8 dg16 b
  obtain ⟨c1, c2, c3⟩ := ct_last hz hn
  have hf3 : fil64 (toWB 6 d64 b).size ≤ 3 := by unfold fil64; omega
  have hsz : z.t.length ≤ 16777216 := by
    rw [ht]
    rw [lsB_len]; omega
  have HT := hide' (together_any W0 L q c Z o n w h (by omega) (fun j y hj hy => by rw [c2 j y hj hy]; exact hq) (fun k => Nat.le_trans (c3 k) hsz))
  rw [c1, ht, ← hn] at HT
  have HF : Hid (∀ V, Calls Tryz.prog 44 #[.string (bts (lsB (toWB 4 d16 b)))] V fun e w' => e = .returned (.tuple #[.string b, .bool true]) ∧ Below V.heap.size V w') := fun V => by
    rw [bts_ls]
    exact from16_of b V hb
  have cx := h.c2
  have he := isEmpty_false (r := b) h0
  generalize bts (lsB (toWB 4 d16 b)) = X at *
  clear c1 c2 c3 hz hn hq ht hsz hz8 hf3
  go_enter Tryz.func149, Tryz.ntmps149
  go_wp2_with (first
    | (go_at_call 45; refine HT.out.mono ?_; rintro e0 w2 ⟨rfl, hL, hR⟩; have HL2 := hide' hL; have HR2 := hide' hR; clear hL hR)
    | (go_at_call 44; refine (HF.out _).mono ?_; rintro e1 w3 ⟨rfl, hB1⟩; have HL3 := hide' (HL2.out.below hB1); have HR3 := hide' (HR2.out.trans (Rg.of_below hB1 L)); clear hB1))
  go_ret
  exact ⟨rfl, HL3.out, HR3.out⟩
set_option maxRecDepth 100000 in
set_option maxHeartbeats 4000000 in
/-- data.readToEnd over data.from64 -/
theorem toEnd64_any (W0 : World) (L : Nat) (q : Option Addr) (c : Nat) (Z : List Wz) (o : ByteArray) (n : Nat) (z : Wz) (b : ByteArray) (w : World) (h : Ln W0 L q c Z o n w) (hz : Z[n]? = some z) (hn : n + 1 = Z.length) (hq : z.q = false) (ht : z.t = lsB (toWB 6 d64 b) ++ List.replicate (fil64 (toWB 6 d64 b).size) 61) (hb : b.size ≤ 65535) (h0 : 0 < b.size) :
    Calls Tryz.prog 149 #[.pointer (some ⟨L, 0, none⟩), .func (Fn.func 157) #[] #[]] w fun e w' => e = .returned (.string b) ∧ Ln W0 L q c Z o (n + 1) w' ∧ Rg w w' L := by
  have hz8 := cW_len8 dg64 b
  obtain ⟨c1, c2, c3⟩ := ct_last hz hn
  have hf3 : fil64 (toWB 6 d64 b).size ≤ 3 := by unfold fil64; omega
  have hsz : z.t.length ≤ 16777216 := by
    rw [ht]
    rw [List.length_append, List.length_replicate, lsB_len]; omega
  have HT := hide' (together_any W0 L q c Z o n w h (by omega) (fun j y hj hy => by rw [c2 j y hj hy]; exact hq) (fun k => Nat.le_trans (c3 k) hsz))
  rw [c1, ht, ← hn] at HT
  have HF : Hid (∀ V, Calls Tryz.prog 157 #[.string (bts (lsB (toWB 6 d64 b) ++ List.replicate (fil64 (toWB 6 d64 b).size) 61))] V fun e w' => e = .returned (.tuple #[.string b, .bool true]) ∧ Below V.heap.size V w') := fun V => by
    exact from64_of b V hb
  have cx := h.c2
  have he := isEmpty_false (r := b) h0
  generalize bts (lsB (toWB 6 d64 b) ++ List.replicate (fil64 (toWB 6 d64 b).size) 61) = X at *
  clear c1 c2 c3 hz hn hq ht hsz hz8 hf3
  go_enter Tryz.func149, Tryz.ntmps149
  go_wp2_with (first
    | (go_at_call 45; refine HT.out.mono ?_; rintro e0 w2 ⟨rfl, hL, hR⟩; have HL2 := hide' hL; have HR2 := hide' hR; clear hL hR)
    | (go_at_call 157; refine (HF.out _).mono ?_; rintro e1 w3 ⟨rfl, hB1⟩; have HL3 := hide' (HL2.out.below hB1); have HR3 := hide' (HR2.out.trans (Rg.of_below hB1 L)); clear hB1))
  go_ret
  exact ⟨rfl, HL3.out, HR3.out⟩
end Go.Proofs.YtfacfhigehdejaaGreatDoor
