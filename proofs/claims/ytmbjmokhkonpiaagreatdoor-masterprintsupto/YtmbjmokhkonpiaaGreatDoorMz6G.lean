import Derived.Test.YtmbjmokhkonpiaaGreatDoorMz1G
import Derived.Test.YtmbjmokhkonpiaaGreatDoorWs4G
import Derived.Test.YtmbjmokhkonpiaaGreatDoorDa3G
import Derived.Test.YtmbjmokhkonpiaaGreatDoorMn1G
import Derived.Test.YtmbjmokhkonpiaaGreatDoorSk8
import Derived.Test.YtmbjmokhkonpiaaGreatDoorDa6G
import Derived.Deep.RegionLaw
import Derived.Deep.RegionHeld3
import Derived.Test.YtmbjmokhkonpiaaGreatDoorDbdG
import Derived.Test.YtmbjmokhkonpiaaGreatDoorFm1G
/-
  The reference's showField, kind by kind. (The verifier's own text.)
-/
namespace Go.Proofs.YtmbjmokhkonpiaaGreatDoor
set_option linter.unusedVariables false
set_option linter.unusedSimpArgs false
open Go.RowKit Go.Shelf Go.Proofs.YtmbjmokhkonpiaaGreatDoor.Nm

theorem owns_baseM {w : World} {base base' e size : Nat} {v : Value} {n : Nat} {xs : List Value} (h : w.ownsRow base e size v n xs) (hb : base' ≤ base) : w.ownsRow base' e size v n xs := by
  obtain ⟨hl, (h0 | ⟨g, cap, cur, h1, hg, h2⟩)⟩ := h
  · exact ⟨hl, .inl h0⟩
  · exact ⟨hl, .inr ⟨g, cap, cur, h1, Nat.le_trans hb hg, h2⟩⟩
theorem shE_one {w W : World} (z : Wz) {X : ByteArray} (hX : X = bts (shW z)) (hB : Below w.heap.size w W) : ShE w [z] (.returned (.slice (some ⟨W.heap.size, 0, none⟩) 1 1)) (W.alloc (.cells #[.string X] 9)) := by
  subst hX
  refine ⟨_, _, rfl, ?_, hB.alloc hB.size _⟩
  exact owns_baseM (World.ownsRow_lit W #[.string (bts (shW z))] 1 (Nat.le_refl _) (by unfold maxLen; omega) rfl) hB.size
theorem vN_le4 {b : ByteArray} (h : b.size ≤ 4) : vN b b.size ≤ 4294967295 := by
  have h1 := vN_lt b b.size
  have h2 : 256 ^ b.size ≤ 256 ^ 4 := Nat.pow_le_pow_right (by omega) h
  omega
theorem dec_any (n : Nat) (w : World) (hn : n ≤ 4294967295) : Calls Tryz.prog 23 #[.int .i64 (n : Int)] w fun e w' => e = .returned (.string (bts (dgN n))) ∧ Below w.heap.size w w' := by
  have := decimal_any 9 n w hn (by omega)
  rw [bts_dg]
  exact this
set_option maxRecDepth 100000 in
set_option maxHeartbeats 1000000 in
/-- gazetteerref1.showField, a name -/
theorem sfDom (b : ByteArray) (w : World) (hb : b.size ≤ 1048576) : Calls Tryz.prog 48 #[.int .u8 110, .string b] w (ShE w [⟨lsB (showB b), false⟩]) := by
  have HC := hide' (fun V => showName_any b V (by omega))
  go_enter Tryz.func48, Tryz.ntmps48
  go_wp2_with (first
    | (go_at_call 19; refine (HC.out _).mono ?_; rintro e1 w1 ⟨rfl, hB1⟩; have HB := hide' hB1; clear hB1))
  go_ret
  exact shE_one _ (by unfold shW; simp [bts_ls]) HB.out
set_option maxRecDepth 100000 in
set_option maxHeartbeats 1000000 in
/-- gazetteerref1.showField, an IPv6 address -/
theorem sfIp6 (b : ByteArray) (w : World) (hb : b.size = 16) : Calls Tryz.prog 48 #[.int .u8 54, .string b] w (ShE w [⟨ip6U (g16 b), false⟩]) := by
  have HC := hide' (fun V => show6M b V hb)
  go_enter Tryz.func48, Tryz.ntmps48
  go_wp2_with (first
    | (go_at_call 63; refine (HC.out _).mono ?_; rintro e1 w1 ⟨rfl, hB1⟩; have HB := hide' hB1; clear hB1))
  go_ret
  exact shE_one _ rfl HB.out
set_option maxRecDepth 100000 in
set_option maxHeartbeats 1000000 in
/-- gazetteerref1.showField, bytes in digits -/
theorem sfHex (b : ByteArray) (w : World) (hb : b.size ≤ 1048576) : Calls Tryz.prog 48 #[.int .u8 104, .string b] w (ShE w [⟨lsB (toWB 4 d16 b), false⟩]) := by
  have HC := hide' (fun V => refHexM b V hb)
  go_enter Tryz.func48, Tryz.ntmps48
  go_wp2_with (first
    | (go_at_call 46; refine (HC.out _).mono ?_; rintro e1 w1 ⟨rfl, hB1⟩; have HB := hide' hB1; clear hB1))
  go_ret
  exact shE_one _ (by unfold shW; simp [bts_ls]) HB.out
set_option maxRecDepth 100000 in
set_option maxHeartbeats 1000000 in
/-- gazetteerref1.showField, bytes in base 64 -/
theorem sfB64 (b : ByteArray) (w : World) (hb : b.size ≤ 1048576) : Calls Tryz.prog 48 #[.int .u8 98, .string b] w (ShE w [⟨lsB (toWB 6 d64 b) ++ List.replicate (fil64 (toWB 6 d64 b).size) 61, false⟩]) := by
  have HC := hide' (fun V => refBase64M b V hb)
  go_enter Tryz.func48, Tryz.ntmps48
  go_wp2_with (first
    | (go_at_call 65; refine (HC.out _).mono ?_; rintro e1 w1 ⟨rfl, hB1⟩; have HB := hide' hB1; clear hB1))
  go_ret
  exact shE_one _ rfl HB.out
set_option maxRecDepth 100000 in
set_option maxHeartbeats 1000000 in
/-- gazetteerref1.showField, a text to the end -/
theorem sfTail (b : ByteArray) (w : World) (hb : b.size ≤ 1048576) : Calls Tryz.prog 48 #[.int .u8 114, .string b] w (ShE w [⟨qtL (lsB b), true⟩]) := by
  have HC := hide' (fun V => quoteM b V hb)
  go_enter Tryz.func48, Tryz.ntmps48
  go_wp2_with (first
    | (go_at_call 64; refine (HC.out _).mono ?_; rintro e1 w1 ⟨rfl, hB1⟩; have HB := hide' hB1; clear hB1))
  go_ret
  exact shE_one _ rfl HB.out
set_option maxRecDepth 100000 in
set_option maxHeartbeats 1000000 in
/-- gazetteerref1.showField, a text -/
theorem sfText (b : ByteArray) (w : World) (hb : b.size ≤ 1048576) (h1 : 1 ≤ b.size) : Calls Tryz.prog 48 #[.int .u8 116, .string b] w (ShE w [⟨qtL (lsB (b.extract 1 b.size)), true⟩]) := by
  have HC := hide' (fun V => quoteM (b.extract 1 b.size) V (by rw [size_extract' _ _ _ (Nat.le_refl _)]; omega))
  go_enter Tryz.func48, Tryz.ntmps48
  go_wp2_with (first
    | (go_at_call 64; refine (HC.out _).mono ?_; rintro e1 w1 ⟨rfl, hB1⟩; have HB := hide' hB1; clear hB1))
  go_ret
  exact shE_one _ rfl HB.out
set_option maxRecDepth 100000 in
set_option maxHeartbeats 1000000 in
/-- gazetteerref1.showField, a hash -/
theorem sfHash (b : ByteArray) (w : World) (hb : b.size ≤ 1048576) (h1 : 1 ≤ b.size) : Calls Tryz.prog 48 #[.int .u8 72, .string b] w (ShE w [⟨lsB (to32B (b.extract 1 b.size)), false⟩]) := by
  have HC := hide' (fun V => refTo32M (b.extract 1 b.size) V (by rw [size_extract' _ _ _ (Nat.le_refl _)]; omega))
  go_enter Tryz.func48, Tryz.ntmps48
  go_wp2_with (first
    | (go_at_call 67; refine (HC.out _).mono ?_; rintro e1 w1 ⟨rfl, hB1⟩; have HB := hide' hB1; clear hB1))
  go_ret
  exact shE_one _ (by unfold shW; simp [bts_ls]) HB.out
set_option maxRecDepth 100000 in
set_option maxHeartbeats 1000000 in
/-- gazetteerref1.showField, a type -/
theorem sfOne (b : ByteArray) (w : World) (hb : b.size = 2) : Calls Tryz.prog 48 #[.int .u8 107, .string b] w (ShE w [⟨lsB (nameT (vN b b.size : Int)), false⟩]) := by
  have HV := hide' (fun V => refValue4_any b V (by omega))
  have HC := hide' (fun V => refTypeName_any (vN b b.size : Int) V)
  generalize vN b b.size = v at *
  generalize nameT (v : Int) = T at *
  go_enter Tryz.func48, Tryz.ntmps48
  go_wp2_with (first
    | (go_at_call 62; refine (HV.out _).mono ?_; rintro e0 w0 ⟨rfl, hw0⟩; have hw0' := hw0.symm; subst hw0')
    | (go_at_call 24; refine (HC.out _).mono ?_; rintro e1 w1 ⟨rfl, hB1⟩; have HB := hide' hB1; clear hB1))
  go_ret
  exact shE_one _ (by unfold shW; simp [bts_ls]) HB.out
set_option maxRecDepth 100000 in
set_option maxHeartbeats 1000000 in
/-- gazetteerref1.showField, a number -/
theorem sfN1 (b : ByteArray) (w : World) (hb : b.size ≤ 4) : Calls Tryz.prog 48 #[.int .u8 49, .string b] w (ShE w [⟨dgN (vN b b.size), false⟩]) := by
  have HV := hide' (fun V => refValue4_any b V (by omega))
  have HC := hide' (fun V => dec_any (vN b b.size) V (vN_le4 hb))
  go_enter Tryz.func48, Tryz.ntmps48
  go_wp2_with (first
    | (go_at_call 62; refine (HV.out _).mono ?_; rintro e0 w0 ⟨rfl, hw0⟩; have hw0' := hw0.symm; subst hw0')
    | (go_at_call 23; refine (HC.out _).mono ?_; rintro e1 w1 ⟨rfl, hB1⟩; have HB := hide' hB1; clear hB1))
  go_ret
  exact shE_one _ rfl HB.out
set_option maxRecDepth 100000 in
set_option maxHeartbeats 1000000 in
/-- gazetteerref1.showField, a number -/
theorem sfN2 (b : ByteArray) (w : World) (hb : b.size ≤ 4) : Calls Tryz.prog 48 #[.int .u8 50, .string b] w (ShE w [⟨dgN (vN b b.size), false⟩]) := by
  have HV := hide' (fun V => refValue4_any b V (by omega))
  have HC := hide' (fun V => dec_any (vN b b.size) V (vN_le4 hb))
  go_enter Tryz.func48, Tryz.ntmps48
  go_wp2_with (first
    | (go_at_call 62; refine (HV.out _).mono ?_; rintro e0 w0 ⟨rfl, hw0⟩; have hw0' := hw0.symm; subst hw0')
    | (go_at_call 23; refine (HC.out _).mono ?_; rintro e1 w1 ⟨rfl, hB1⟩; have HB := hide' hB1; clear hB1))
  go_ret
  exact shE_one _ rfl HB.out
set_option maxRecDepth 100000 in
set_option maxHeartbeats 1000000 in
/-- gazetteerref1.showField, a number -/
theorem sfN4 (b : ByteArray) (w : World) (hb : b.size ≤ 4) : Calls Tryz.prog 48 #[.int .u8 52, .string b] w (ShE w [⟨dgN (vN b b.size), false⟩]) := by
  have HV := hide' (fun V => refValue4_any b V (by omega))
  have HC := hide' (fun V => dec_any (vN b b.size) V (vN_le4 hb))
  go_enter Tryz.func48, Tryz.ntmps48
  go_wp2_with (first
    | (go_at_call 62; refine (HV.out _).mono ?_; rintro e0 w0 ⟨rfl, hw0⟩; have hw0' := hw0.symm; subst hw0')
    | (go_at_call 23; refine (HC.out _).mono ?_; rintro e1 w1 ⟨rfl, hB1⟩; have HB := hide' hB1; clear hB1))
  go_ret
  exact shE_one _ rfl HB.out
end Go.Proofs.YtmbjmokhkonpiaaGreatDoor

/-
  The reference's showField: sets, texts, salts, IPv4 addresses. (The verifier's own text.)
-/
namespace Go.Proofs.YtmbjmokhkonpiaaGreatDoor
set_option linter.unusedVariables false
set_option linter.unusedSimpArgs false
open Go.RowKit Go.Shelf Go.Proofs.YtmbjmokhkonpiaaGreatDoor.Nm

theorem chunkM (x : ByteArray) (j : Nat) : bt (chunk x) (1 + j) = bt x j := by
  have h1 : (chunk x).size = 1 + x.size := chunk_size x
  unfold chunk
  rw [bt_append_right _ _ _ (by show 1 ≤ _; omega)]
  congr 1
  show 1 + j - 1 = j
  omega
set_option maxRecDepth 100000 in
set_option maxHeartbeats 4000000 in
/-- sets -/
theorem sfSet (b : ByteArray) (U : List Nat) (w : World) (hb : b.size ≤ 1048576) (hU : typB b = some U) :
    Calls Tryz.prog 48 #[.int .u8 75, .string b] w (ShE w (tellK 9 b)) := by
  obtain ⟨_, hU2, hU3⟩ := typB_facts hU
  have HN : Hid (∀ V, Below w.heap.size w V → ∀ x : Nat, x ≤ 65535 → Calls Tryz.prog 24 #[.int .i64 (x : Int)] V fun e w' => e = .returned (.string (nameT (x : Int))) ∧ Below V.heap.size V w') := fun V hV x hx => refTypeName_any _ V
  have HT := hide' (fun V => refTypes_any b V hb)
  rw [hU] at HT
  have HZ : Hid ((tellK 9 b).length = U.length ∧ (tellK 9 b).map tlV = nms U U.length) := by
    show (((typB b).getD []).map _).length = _ ∧ (((typB b).getD []).map _).map tlV = _
    rw [hU]
    simp only [Option.getD_some]
    refine ⟨List.length_map _, ?_⟩
    unfold nms
    rw [List.take_length, List.map_map]
    refine List.map_congr_left fun t _ => ?_
    show tlV ⟨lsB (nameT (t : Int)), false⟩ = _
    unfold tlV shW
    simp only [Bool.false_eq_true, if_false]
    rw [bts_ls]
  have HU2 := hide' hU2
  have hUl : U.length ≤ 8388608 := by omega
  generalize tellK 9 b = Z at *
  clear hU hU2 hU3 hb
  go_enter Tryz.func48, Tryz.ntmps48
  go_wp2_with (go_at_call 66; refine (HT.out _).mono ?_; rintro e0 w2 ⟨⟨v, rfl, ho⟩, hB0⟩; obtain ⟨pU, cU, rfl, hcU, hcU2, -⟩ := own_shape ho; have HO2 := hide' ho; have HB2 := hide' hB0; clear ho hB0)
  obtain ⟨hcU3⟩ : Nonempty (cU ≤ 9223372036854775807) := ⟨by unfold maxLen at hcU2; omega⟩
  go_loopw [9, 111] (fun nv iv wr => ∃ (k : Nat) (p : Option Addr) (c : Nat), iv = .int .i64 (k : Int) ∧ nv = .slice p k c ∧ k ≤ U.length ∧ Hid (wr.ownsRow w2.heap.size 9 1 (.slice p k c) k (nms U k)) ∧ Hid (Below w2.heap.size w2 wr)) (fun _ iv _ => U.length - (intOf iv).toNat)
  case atStart => exact ⟨0, none, 0, rfl, rfl, Nat.zero_le _, World.ownsRow_nil _ _ _ _, Below.refl _ _⟩
  case round =>
    obtain ⟨k, p, c, rfl, rfl, hk, HO, HB⟩ := hrel
    by_cases hlt : k < U.length
    · obtain ⟨g, c2, hpe⟩ := owns_some HO2.out (by omega)
      simp only [Value.slice.injEq] at hpe
      obtain ⟨rfl, -, rfl⟩ := hpe
      obtain ⟨y, hy⟩ : ∃ y, U[k] = y := ⟨_, rfl⟩
      have HY : Hid (y ≤ 65535) := by rw [← hy]; exact (HU2.out _ (List.getElem_mem hlt)).2
      have HE : Hid (nms U (k + 1) = nms U k ++ [.string (nameT (y : Int))]) := by unfold Hid; rw [nms_succ hlt, hy]
      have hcell : wr.cell? ⟨g, k, none⟩ = some (.int .i64 (y : Int)) := by
        have h := (ownsRow_below HO2.out HB.out).cellAt k (by omega)
        rw [h]
        unfold nums
        rw [List.getElem?_map, List.getElem?_eq_getElem hlt, hy]
        rfl
      have pk : (k : Int) < (U.length : Int) := by omega
      clear hy
      go_wp2_with (first
        | (go_at_call 24; refine (HN.out _ (bstep HB2.out HB.out HB2.out.size) y HY.out).mono ?_; rintro e1 w3 ⟨rfl, hB1⟩; have HB1 := hide' (bstep HB.out hB1 HB.out.size); have HO1 := hide' (ownsRow_below HO.out hB1); clear hB1)
        | (at_builtin; refine append_one (w0 := w2) rfl _ _ rfl (nameT (y : Int)) p k c (nms U k) rfl rfl HO1.out HB1.out (by omega) ?_; intro p4 c4 w4 ho4 hB4; have HO4 := hide' ho4; have HB4 := hide' hB4; clear ho4 hB4))
      refine ⟨⟨k + 1, p4, c4, by go_num, rfl, by omega, ?_, HB4⟩, by simp [intOf]; omega⟩
      rw [HE.out]
      exact HO4
    · obtain rfl : k = U.length := by omega
      have pk : ¬ (U.length : Int) < (U.length : Int) := by omega
      go_wp2
      go_ret
      exact she_row HZ.out.1 HZ.out.2 (own_mono HO.out HB2.out.size) (bstep HB2.out HB.out HB2.out.size)
set_option maxRecDepth 100000 in
set_option maxHeartbeats 4000000 in
/-- texts -/
theorem sfTexts (L : List ByteArray) (w : World) (hL : ∀ x ∈ L, x.size ≤ 255) (hb : (chunks L).size ≤ 65535) :
    Calls Tryz.prog 48 #[.int .u8 84, .string (chunks L)] w (ShE w (tellK 4 (chunks L))) := by
  have hll : L.length ≤ 65535 := Nat.le_trans (chunks_len L) hb
  have HZ : Hid ((tellK 4 (chunks L)).length = L.length ∧ (tellK 4 (chunks L)).map tlV = txs L L.length) := by
    have e : tellK 4 (chunks L) = L.map txW := txtW_chunks L _ hL (chunks_len L)
    unfold Hid txs
    rw [e, List.length_map, List.take_length, List.map_map]
    exact ⟨rfl, rfl⟩
  generalize tellK 4 (chunks L) = Z at *
  have HStep : Hid (∀ k, (hk : k < L.length) → ∃ x R : ByteArray, chunks (L.drop k) = chunk x ++ R ∧ chunks (L.drop (k + 1)) = R ∧ x.size ≤ 255 ∧ txs L (k + 1) = txs L k ++ [tlV (txW x)]) := fun k hk => by
    have e := List.drop_eq_getElem_cons hk
    have hx := hL _ (List.getElem_mem hk)
    have hc := chunks_cons L[k] (L.drop (k + 1))
    rw [← e] at hc
    exact ⟨L[k], _, hc, rfl, hx, txs_succ hk⟩
  have HEnd : Hid (chunks (L.drop L.length) = ByteArray.empty) := by unfold Hid; rw [List.drop_length]; rfl
  have HQs := hide' (fun (x : ByteArray) (h : x.size ≤ 255) (V : World) => quoteM x V (by omega))
  have HD0 : Hid (chunks L = chunks (L.drop 0)) := by rw [List.drop_zero]; exact rfl
  generalize chunks L = d0 at *
  clear hL hb
  go_enter Tryz.func48, Tryz.ntmps48
  go_wp2_with fail
  go_loopw [1, 5] (fun dv nv wr => ∃ (k : Nat) (D : ByteArray) (p : Option Addr) (c : Nat), dv = .string D ∧ Hid (D = chunks (L.drop k)) ∧ nv = .slice p k c ∧ k ≤ L.length ∧ Hid (wr.ownsRow w.heap.size 9 1 (.slice p k c) k (txs L k)) ∧ Hid (Below w.heap.size w wr)) (fun dv _ _ => ssz dv)
  case atStart => exact ⟨0, d0, none, 0, rfl, HD0.out, rfl, Nat.zero_le _, World.ownsRow_nil _ _ _ _, Below.refl _ _⟩
  case round =>
    obtain ⟨k, D, p, c, rfl, HD, rfl, hk, HO, HB⟩ := hrel
    by_cases hlt : k < L.length
    · obtain ⟨x, R, e1, e2, hx, e3⟩ := HStep.out k hlt
      have hDD : D = chunk x ++ R := by rw [HD.out, e1]
      have hcs := chunk_size x
      have hDs : D.size = 1 + x.size + R.size := by rw [hDD, ByteArray.size_append, hcs]
      have hpos : 0 < D.size := by omega
      obtain ⟨y, hy, HY, hy256⟩ := bt_wrap (s := D) (i := 0) hpos
      have hyx : y = x.size := by
        rw [← HY, hDD, bt_append_left _ _ _ (by rw [hcs]; omega)]
        exact bt_chunk x (by omega)
      subst hyx
      have HX1 : Hid (D.extract 1 (1 + x.size) = x) := by
        unfold Hid
        refine ba_ext (by rw [size_extract' _ _ _ (by omega)]; omega) fun j hj => ?_
        rw [size_extract' _ _ _ (by omega)] at hj
        rw [bt_extract _ _ _ _ (by omega) (by omega), hDD, bt_append_left _ _ _ (by rw [hcs]; omega)]
        exact chunkM x j
      have HX2 : Hid (D.extract (1 + x.size) D.size = R) := by
        unfold Hid
        refine ba_ext (by rw [size_extract' _ _ _ (Nat.le_refl _)]; omega) fun j hj => ?_
        rw [size_extract' _ _ _ (Nat.le_refl _)] at hj
        rw [bt_extract _ _ _ _ (by omega) (Nat.le_refl _), hDD, bt_append_right _ _ _ (by rw [hcs]; omega), hcs]
        congr 1
        omega
      have HR : Hid (R = chunks (L.drop (k + 1))) := e2.symm
      have HQ : Hid (∀ V, Calls Tryz.prog 64 #[.string (D.extract 1 (1 + x.size))] V fun e w' => e = .returned (.string (bts (34 :: (qtL (lsB x) ++ [34])))) ∧ Below V.heap.size V w') := fun V => by
        rw [HX1.out]
        exact HQs.out x hx V
      have he := isEmpty_false (r := D) hpos
      have HE : Hid (txs L (k + 1) = txs L k ++ [.string (bts (34 :: (qtL (lsB x) ++ [34])))]) := e3
      have hzR : Hid (R.size < D.size) := by unfold Hid; omega
      have pS : (1 : Int) + (x.size : Int) ≤ (D.size : Int) := by omega
      have pT : (1 : Int) ≤ 1 + (x.size : Int) := by omega
      clear e1 e2 e3 hDD hcs hDs HY hx HD
      go_wp2_with (first
        | (go_at_call 64; refine (HQ.out _).mono ?_; rintro e2 w4 ⟨rfl, hB2⟩; have HB2 := hide' (bstep HB.out hB2 HB.out.size); have HO2 := hide' (ownsRow_below HO.out hB2); clear hB2)
        | (at_builtin; refine append_one (w0 := w) rfl _ _ rfl _ p k c (txs L k) rfl rfl HO2.out HB2.out (by omega) ?_; intro p4 c4 w5 ho4 hB4; have HO4 := hide' ho4; have HB4 := hide' hB4; clear ho4 hB4))
      refine ⟨⟨k + 1, _, p4, c4, rfl, HX2.out.trans HR.out, rfl, by omega, ?_, HB4⟩, ?_⟩
      · rw [HE.out]; exact HO4
      · show (D.extract (1 + x.size) D.size).size < D.size
        rw [HX2.out]
        exact hzR.out
    · obtain rfl : k = L.length := by omega
      have hD0 : D = ByteArray.empty := by rw [HD.out, HEnd.out]
      subst hD0
      have he := isEmpty_true (r := ByteArray.empty) rfl
      go_wp2
      go_ret
      exact she_row HZ.out.1 HZ.out.2 HO.out HB.out
set_option maxRecDepth 100000 in
set_option maxHeartbeats 1000000 in
/-- salts -/
theorem sfSalt (b : ByteArray) (w : World) (hb : b.size ≤ 1048576) (h1 : 1 ≤ b.size) : Calls Tryz.prog 48 #[.int .u8 115, .string b] w (ShE w (tellK 7 b)) := by
  by_cases hs : b.size = 1
  · have HZ : Hid (tellK 7 b = [⟨[45], false⟩]) := by
      show (if b.size = 1 then _ else _) = _
      rw [if_pos hs]
    have hI : (b.size : Int) = 1 := by omega
    rw [HZ.out]
    clear hs h1 hb
    go_enter Tryz.func48, Tryz.ntmps48
    go_wp2_with fail
    go_ret
    exact shE_one _ rfl (Below.refl _ _)
  · have HZ : Hid (tellK 7 b = [⟨lsB (toWB 4 d16 (b.extract 1 b.size)), false⟩]) := by
      show (if b.size = 1 then _ else _) = _
      rw [if_neg hs]
    have hI : ¬ (b.size : Int) = 1 := by omega
    have HC := hide' (fun V => refHexM (b.extract 1 b.size) V (by rw [size_extract' _ _ _ (Nat.le_refl _)]; omega))
    rw [HZ.out]
    generalize toWB 4 d16 (b.extract 1 b.size) = T at *
    clear hs hb
    go_enter Tryz.func48, Tryz.ntmps48
    go_wp2_with (go_at_call 46; refine (HC.out _).mono ?_; rintro e1 w1 ⟨rfl, hB1⟩; have HB := hide' hB1; clear hB1)
    go_ret
    exact shE_one _ (by unfold shW; simp [bts_ls]) HB.out
end Go.Proofs.YtmbjmokhkonpiaaGreatDoor

/-
  The reference's showField: IPv4 addresses. (The verifier's own text.)
-/
namespace Go.Proofs.YtmbjmokhkonpiaaGreatDoor
set_option linter.unusedVariables false
set_option linter.unusedSimpArgs false
open Go.RowKit Go.Shelf Go.Proofs.YtmbjmokhkonpiaaGreatDoor.Nm

theorem takeDM {P : Program} {ops : Array Oper} {Q : Exit → Act → World → Prop} {md : Region.Mode} {S : World → Prop} (i : Nat) (d : Option Tmp) (v : Value) {oi : Oper} {fuel : Nat} {listed : Array Bool} {a : Act} {w : World} (hi : ops[i]? = some oi) (hd : oi.dst = d)
    (hs : Region.noSelect ops = true) (hf : Region.free md ops listed i = true) (hr : (Region.ready md ops listed).contains i = true)
    (hQ : ∀ c a w, Q (.panic c) (a.put d v) w → Q (.panic c) a w) (hy : YieldsIf P ops S oi v a) (hS : S w)
    (h : wpAnyH P md ops Q S fuel (listed.setIfInBounds i true) (a.put d v) w) : wpAnyH P md ops Q S (fuel + 1) listed a w := by
  subst hd
  exact wpAnyH_take hi hs hf hr hQ hy hS h

set_option maxRecDepth 100000 in
set_option maxHeartbeats 4000000 in
/-- IPv4 addresses -/
theorem sfIp4 (b : ByteArray) (w : World) (hb : b.size = 4) : Calls Tryz.prog 48 #[.int .u8 97, .string b] w (ShE w (tellK 0 b)) := by
  have p0 : 0 < b.size := by omega
  have p1 : 1 < b.size := by omega
  have p2 : 2 < b.size := by omega
  have p3 : 3 < b.size := by omega
  obtain ⟨y0, hy0, HY0, h0⟩ := bt_wrap p0
  obtain ⟨y1, hy1, HY1, h1⟩ := bt_wrap p1
  obtain ⟨y2, hy2, HY2, h2⟩ := bt_wrap p2
  obtain ⟨y3, hy3, HY3, h3⟩ := bt_wrap p3
  have HZ : Hid (tellK 0 b = [⟨dgN y0 ++ 46 :: (dgN y1 ++ 46 :: (dgN y2 ++ 46 :: dgN y3)), false⟩]) := by
    show [(⟨ip4L b, false⟩ : Wz)] = _
    have hl : lsB b = [y0, y1, y2, y3] := by
      show lst b b.size = _
      rw [hb]
      show [bt b 0, bt b 1, bt b 2, bt b 3] = _
      rw [HY0, HY1, HY2, HY3]
    unfold ip4L
    rw [hl]
    show [(⟨jnC 46 [dgN y0, dgN y1, dgN y2, dgN y3], false⟩ : Wz)] = _
    rw [jnC_cons, jnC_cons, jnC_cons, jnC_one]
  have HC : Hid (∀ (n : Nat) (V : World), n < 256 → Calls Tryz.prog 23 #[.int .i64 (n : Int)] V fun e w' => e = .returned (.string (bts (dgN n))) ∧ Below V.heap.size V w') := fun n V hn => dec_any n V (by omega)
  have l0 := dgN_len 2 y0 (by omega)
  have l1 := dgN_len 2 y1 (by omega)
  have l2 := dgN_len 2 y2 (by omega)
  have l3 := dgN_len 2 y3 (by omega)
  have HC0 := hide' (fun V => HC.out y0 V h0)
  have HC1 := hide' (fun V => HC.out y1 V h1)
  have HC2 := hide' (fun V => HC.out y2 V h2)
  have HC3 := hide' (fun V => HC.out y3 V h3)
  rw [HZ.out]
  clear HC HZ HY0 HY1 HY2 HY3
  generalize dgN y0 = d0 at *
  generalize dgN y1 = d1 at *
  generalize dgN y2 = d2 at *
  generalize dgN y3 = d3 at *
  have A : ∀ (x y : List Nat) (W : World), x.length ≤ 20 → y.length ≤ 4 → (Op.stringOp .add (bts x) (bts y)).run Tryz.prog W = .ok (.string (bts (x ++ y))) W := fun x y W hx hy => add_bts W x y (by omega)
  have A' : ∀ (x : List Nat) (W : World), x.length ≤ 20 → (Op.stringOp .add (bts x) ⟨#[46]⟩).run Tryz.prog W = .ok (.string (bts (x ++ [46]))) W := fun x W hx => add_bts W x [46] (by simp; omega)
  obtain ⟨t1, e1⟩ : ∃ t, d0 ++ [46] = t := ⟨_, rfl⟩
  have m1 : t1.length ≤ 4 := by rw [← e1, List.length_append]; simp; omega
  obtain ⟨t2, e2⟩ : ∃ t, t1 ++ d1 = t := ⟨_, rfl⟩
  have m2 : t2.length ≤ 7 := by rw [← e2, List.length_append]; omega
  obtain ⟨t3, e3⟩ : ∃ t, t2 ++ [46] = t := ⟨_, rfl⟩
  have m3 : t3.length ≤ 8 := by rw [← e3, List.length_append]; simp; omega
  obtain ⟨t4, e4⟩ : ∃ t, t3 ++ d2 = t := ⟨_, rfl⟩
  have m4 : t4.length ≤ 11 := by rw [← e4, List.length_append]; omega
  obtain ⟨t5, e5⟩ : ∃ t, t4 ++ [46] = t := ⟨_, rfl⟩
  have m5 : t5.length ≤ 12 := by rw [← e5, List.length_append]; simp; omega
  obtain ⟨t6, e6⟩ : ∃ t, t5 ++ d3 = t := ⟨_, rfl⟩
  have HT : Hid (t6 = d0 ++ 46 :: (d1 ++ 46 :: (d2 ++ 46 :: d3))) := by
    unfold Hid
    rw [← e6, ← e5, ← e4, ← e3, ← e2, ← e1]
    simp
  rw [← HT.out]
  have a1 : ∀ W : World, (Op.stringOp .add (bts d0) ⟨#[46]⟩).run Tryz.prog W = .ok (.string (bts t1)) W := fun W => by rw [A' _ W (by omega), e1]
  have a2 : ∀ W : World, (Op.stringOp .add (bts t1) (bts d1)).run Tryz.prog W = .ok (.string (bts t2)) W := fun W => by rw [A _ _ W (by omega) (by omega), e2]
  have a3 : ∀ W : World, (Op.stringOp .add (bts t2) ⟨#[46]⟩).run Tryz.prog W = .ok (.string (bts t3)) W := fun W => by rw [A' _ W (by omega), e3]
  have a4 : ∀ W : World, (Op.stringOp .add (bts t3) (bts d2)).run Tryz.prog W = .ok (.string (bts t4)) W := fun W => by rw [A _ _ W (by omega) (by omega), e4]
  have a5 : ∀ W : World, (Op.stringOp .add (bts t4) ⟨#[46]⟩).run Tryz.prog W = .ok (.string (bts t5)) W := fun W => by rw [A' _ W (by omega), e5]
  have a6 : ∀ W : World, (Op.stringOp .add (bts t5) (bts d3)).run Tryz.prog W = .ok (.string (bts t6)) W := fun W => by rw [A _ _ W (by omega) (by omega), e6]
  have u0 : IntKind.i64.wrap (y0 : Int) = (y0 : Int) := wrap_in (by omega) (by omega)
  have u1 : IntKind.i64.wrap (y1 : Int) = (y1 : Int) := wrap_in (by omega) (by omega)
  have u2 : IntKind.i64.wrap (y2 : Int) = (y2 : Int) := wrap_in (by omega) (by omega)
  have u3 : IntKind.i64.wrap (y3 : Int) = (y3 : Int) := wrap_in (by omega) (by omega)
  clear A A' HT e1 e2 e3 e4 e5 e6 m1 m2 m3 m4 m5 l0 l1 l2 l3 hb
  go_enter Tryz.func48, Tryz.ntmps48
  go_wp2_with fail
  refine wp_region_held_drew (S := fun V => True) (by kernel_rfl) ?_ (fun hHeld => ?_)
  · trivial
  refine takeDM 0 (some 23) (.string b) rfl rfl (by kernel_rfl) (by kernel_rfl) (by kernel_rfl) (fun _ _ _ h => h) (Or.inl ⟨by rfl, ?_⟩) (by assumption) ?_
  · intro w hSw; (try dsimp only at hSw); go_simp <;> (intros; omega)
  simp only [Act.put, List.setIfInBounds_toArray, List.set_cons_zero, List.set_cons_succ]
  refine takeDM 1 (some 24) (.int .u8 (y0 : Int)) rfl rfl (by kernel_rfl) (by kernel_rfl) (by kernel_rfl) (fun _ _ _ h => h) (Or.inl ⟨by rfl, ?_⟩) (by assumption) ?_
  · intro w hSw; (try dsimp only at hSw); go_simp <;> (intros; omega)
  simp only [Act.put, List.setIfInBounds_toArray, List.set_cons_zero, List.set_cons_succ]
  refine takeDM 2 (some 25) (.int .i64 (y0 : Int)) rfl rfl (by kernel_rfl) (by kernel_rfl) (by kernel_rfl) (fun _ _ _ h => h) (Or.inl ⟨by rfl, ?_⟩) (by assumption) ?_
  · intro w hSw; (try dsimp only at hSw); go_simp <;> (intros; omega)
  simp only [Act.put, List.setIfInBounds_toArray, List.set_cons_zero, List.set_cons_succ]
  refine takeDM 5 (some 28) (.string b) rfl rfl (by kernel_rfl) (by kernel_rfl) (by kernel_rfl) (fun _ _ _ h => h) (Or.inl ⟨by rfl, ?_⟩) (by assumption) ?_
  · intro w hSw; (try dsimp only at hSw); go_simp <;> (intros; omega)
  simp only [Act.put, List.setIfInBounds_toArray, List.set_cons_zero, List.set_cons_succ]
  refine takeDM 6 (some 29) (.int .u8 (y1 : Int)) rfl rfl (by kernel_rfl) (by kernel_rfl) (by kernel_rfl) (fun _ _ _ h => h) (Or.inl ⟨by rfl, ?_⟩) (by assumption) ?_
  · intro w hSw; (try dsimp only at hSw); go_simp <;> (intros; omega)
  simp only [Act.put, List.setIfInBounds_toArray, List.set_cons_zero, List.set_cons_succ]
  refine takeDM 7 (some 30) (.int .i64 (y1 : Int)) rfl rfl (by kernel_rfl) (by kernel_rfl) (by kernel_rfl) (fun _ _ _ h => h) (Or.inl ⟨by rfl, ?_⟩) (by assumption) ?_
  · intro w hSw; (try dsimp only at hSw); go_simp <;> (intros; omega)
  simp only [Act.put, List.setIfInBounds_toArray, List.set_cons_zero, List.set_cons_succ]
  refine takeDM 11 (some 34) (.string b) rfl rfl (by kernel_rfl) (by kernel_rfl) (by kernel_rfl) (fun _ _ _ h => h) (Or.inl ⟨by rfl, ?_⟩) (by assumption) ?_
  · intro w hSw; (try dsimp only at hSw); go_simp <;> (intros; omega)
  simp only [Act.put, List.setIfInBounds_toArray, List.set_cons_zero, List.set_cons_succ]
  refine takeDM 12 (some 35) (.int .u8 (y2 : Int)) rfl rfl (by kernel_rfl) (by kernel_rfl) (by kernel_rfl) (fun _ _ _ h => h) (Or.inl ⟨by rfl, ?_⟩) (by assumption) ?_
  · intro w hSw; (try dsimp only at hSw); go_simp <;> (intros; omega)
  simp only [Act.put, List.setIfInBounds_toArray, List.set_cons_zero, List.set_cons_succ]
  refine takeDM 13 (some 36) (.int .i64 (y2 : Int)) rfl rfl (by kernel_rfl) (by kernel_rfl) (by kernel_rfl) (fun _ _ _ h => h) (Or.inl ⟨by rfl, ?_⟩) (by assumption) ?_
  · intro w hSw; (try dsimp only at hSw); go_simp <;> (intros; omega)
  simp only [Act.put, List.setIfInBounds_toArray, List.set_cons_zero, List.set_cons_succ]
  refine takeDM 17 (some 40) (.string b) rfl rfl (by kernel_rfl) (by kernel_rfl) (by kernel_rfl) (fun _ _ _ h => h) (Or.inl ⟨by rfl, ?_⟩) (by assumption) ?_
  · intro w hSw; (try dsimp only at hSw); go_simp <;> (intros; omega)
  simp only [Act.put, List.setIfInBounds_toArray, List.set_cons_zero, List.set_cons_succ]
  refine takeDM 18 (some 41) (.int .u8 (y3 : Int)) rfl rfl (by kernel_rfl) (by kernel_rfl) (by kernel_rfl) (fun _ _ _ h => h) (Or.inl ⟨by rfl, ?_⟩) (by assumption) ?_
  · intro w hSw; (try dsimp only at hSw); go_simp <;> (intros; omega)
  simp only [Act.put, List.setIfInBounds_toArray, List.set_cons_zero, List.set_cons_succ]
  refine takeDM 19 (some 42) (.int .i64 (y3 : Int)) rfl rfl (by kernel_rfl) (by kernel_rfl) (by kernel_rfl) (fun _ _ _ h => h) (Or.inl ⟨by rfl, ?_⟩) (by assumption) ?_
  · intro w hSw; (try dsimp only at hSw); go_simp <;> (intros; omega)
  simp only [Act.put, List.setIfInBounds_toArray, List.set_cons_zero, List.set_cons_succ]
  refine wpAnyH_ready (rs := [3]) (by kernel_rfl) (by simp) ?_
  refine AllReadyH.cons rfl (fun K hK => ?_) AllReadyH.nil
  go_simp
  go_at_call 23; refine (HC0.out _).mono ?_; rintro e0 w1 ⟨rfl, hB1⟩; have HB0 : Hid (Below w.heap.size w w1) := (by first | exact hB1 | exact bstep (below_drewN (Below.refl _ _) 1) hB1 (Nat.le_refl _) | exact bstep (below_drewN (Below.refl _ _) _) hB1 (Nat.le_refl _)); clear hB1
  go_wp2_with fail
  refine hK.out _ _ (trivial) (fun hHeld => ?_)
  clear hK K
  try simp only [Act.put, List.setIfInBounds_toArray, List.set_cons_zero, List.set_cons_succ]
  refine takeDM 4 (some 27) (.string (bts t1)) rfl rfl (by kernel_rfl) (by kernel_rfl) (by kernel_rfl) (fun _ _ _ h => h) (Or.inl ⟨by rfl, ?_⟩) (by assumption) ?_
  · intro w hSw; (try dsimp only at hSw); go_simp <;> (intros; omega)
  simp only [Act.put, List.setIfInBounds_toArray, List.set_cons_zero, List.set_cons_succ]
  refine wpAnyH_ready (rs := [8]) (by kernel_rfl) (by simp) ?_
  refine AllReadyH.cons rfl (fun K hK => ?_) AllReadyH.nil
  go_simp
  go_at_call 23; refine (HC1.out _).mono ?_; rintro e1 w2 ⟨rfl, hB1⟩; have HB1 : Hid (Below w.heap.size w w2) := (by first | exact bstep HB0.out hB1 HB0.out.size | exact bstep (below_drewN HB0.out 1) hB1 (below_drewN HB0.out 1).size); clear hB1
  go_wp2_with fail
  refine hK.out _ _ (trivial) (fun hHeld => ?_)
  clear hK K
  try simp only [Act.put, List.setIfInBounds_toArray, List.set_cons_zero, List.set_cons_succ]
  refine takeDM 9 (some 32) (.string (bts t2)) rfl rfl (by kernel_rfl) (by kernel_rfl) (by kernel_rfl) (fun _ _ _ h => h) (Or.inl ⟨by rfl, ?_⟩) (by assumption) ?_
  · intro w hSw; (try dsimp only at hSw); go_simp <;> (intros; omega)
  simp only [Act.put, List.setIfInBounds_toArray, List.set_cons_zero, List.set_cons_succ]
  refine takeDM 10 (some 33) (.string (bts t3)) rfl rfl (by kernel_rfl) (by kernel_rfl) (by kernel_rfl) (fun _ _ _ h => h) (Or.inl ⟨by rfl, ?_⟩) (by assumption) ?_
  · intro w hSw; (try dsimp only at hSw); go_simp <;> (intros; omega)
  simp only [Act.put, List.setIfInBounds_toArray, List.set_cons_zero, List.set_cons_succ]
  refine wpAnyH_ready (rs := [14]) (by kernel_rfl) (by simp) ?_
  refine AllReadyH.cons rfl (fun K hK => ?_) AllReadyH.nil
  go_simp
  go_at_call 23; refine (HC2.out _).mono ?_; rintro e2 w3 ⟨rfl, hB1⟩; have HB2 : Hid (Below w.heap.size w w3) := (by first | exact bstep HB1.out hB1 HB1.out.size | exact bstep (below_drewN HB1.out 1) hB1 (below_drewN HB1.out 1).size); clear hB1
  go_wp2_with fail
  refine hK.out _ _ (trivial) (fun hHeld => ?_)
  clear hK K
  try simp only [Act.put, List.setIfInBounds_toArray, List.set_cons_zero, List.set_cons_succ]
  refine takeDM 15 (some 38) (.string (bts t4)) rfl rfl (by kernel_rfl) (by kernel_rfl) (by kernel_rfl) (fun _ _ _ h => h) (Or.inl ⟨by rfl, ?_⟩) (by assumption) ?_
  · intro w hSw; (try dsimp only at hSw); go_simp <;> (intros; omega)
  simp only [Act.put, List.setIfInBounds_toArray, List.set_cons_zero, List.set_cons_succ]
  refine takeDM 16 (some 39) (.string (bts t5)) rfl rfl (by kernel_rfl) (by kernel_rfl) (by kernel_rfl) (fun _ _ _ h => h) (Or.inl ⟨by rfl, ?_⟩) (by assumption) ?_
  · intro w hSw; (try dsimp only at hSw); go_simp <;> (intros; omega)
  simp only [Act.put, List.setIfInBounds_toArray, List.set_cons_zero, List.set_cons_succ]
  refine wpAnyH_ready (rs := [20]) (by kernel_rfl) (by simp) ?_
  refine AllReadyH.cons rfl (fun K hK => ?_) AllReadyH.nil
  go_simp
  go_at_call 23; refine (HC3.out _).mono ?_; rintro e3 w4 ⟨rfl, hB1⟩; have HB3 : Hid (Below w.heap.size w w4) := (by first | exact bstep HB2.out hB1 HB2.out.size | exact bstep (below_drewN HB2.out 1) hB1 (below_drewN HB2.out 1).size); clear hB1
  go_wp2_with fail
  refine hK.out _ _ (trivial) (fun hHeld => ?_)
  clear hK K
  try simp only [Act.put, List.setIfInBounds_toArray, List.set_cons_zero, List.set_cons_succ]
  refine takeDM 21 (some 44) (.string (bts t6)) rfl rfl (by kernel_rfl) (by kernel_rfl) (by kernel_rfl) (fun _ _ _ h => h) (Or.inl ⟨by rfl, ?_⟩) (by assumption) ?_
  · intro w hSw; (try dsimp only at hSw); go_simp <;> (intros; omega)
  simp only [Act.put, List.setIfInBounds_toArray, List.set_cons_zero, List.set_cons_succ]
  refine wpAnyH_ready (rs := [22]) (by kernel_rfl) (by simp) ?_
  refine AllReadyH.cons rfl (fun K hK => ?_) AllReadyH.nil
  go_simp
  go_wp2_with fail
  refine hK.out _ _ (trivial) (fun hHeld => ?_)
  clear hK K
  try simp only [Act.put, List.setIfInBounds_toArray, List.set_cons_zero, List.set_cons_succ]
  refine takeDM 23 (some 4) (.slice (some ⟨w4.heap.size, 0, none⟩) 1 1) rfl rfl (by kernel_rfl) (by kernel_rfl) (by kernel_rfl) (fun _ _ _ h => h) (Or.inl ⟨by rfl, ?_⟩) (by assumption) ?_
  · intro w hSw; (try dsimp only at hSw); go_simp <;> (intros; omega)
  simp only [Act.put, List.setIfInBounds_toArray, List.set_cons_zero, List.set_cons_succ]
  refine wpAnyH_done (by kernel_rfl) ?_ _
  go_wp2_with fail
  go_ret
  exact shE_one _ rfl HB3.out
end Go.Proofs.YtmbjmokhkonpiaaGreatDoor

/-
  The reference's showField, of any kind. (The verifier's own text.)
-/
namespace Go.Proofs.YtmbjmokhkonpiaaGreatDoor
set_option linter.unusedVariables false
set_option linter.unusedSimpArgs false
open Go.RowKit Go.Shelf Go.Proofs.YtmbjmokhkonpiaaGreatDoor.Nm

/-- gazetteerref1.showField, of a kind that is known -/
theorem showField_any (k : Kind) (b : ByteArray) (w : World) (hk : kKn k = true) (h : kindSize k b = some b.size) (hb : b.size ≤ 65535) :
    Calls Tryz.prog 48 #[.int .u8 ((letter k).toNat : Int), .string b] w (ShE w (tellK k b)) := by
  rcases kind_cases k with rfl | rfl | rfl | rfl | rfl | rfl | rfl | rfl | rfl | rfl | rfl | rfl | rfl | ⟨n, rfl⟩
  · simp only [kindSize, fixS] at h
    exact sfIp4 b w (by split at h <;> simp at h; omega)
  · simp only [kindSize, fixS] at h
    exact sfIp6 b w (by split at h <;> simp at h; omega)
  · exact sfDom b w (by omega)
  · exact sfText b w (by omega) (cntS_some h).1
  · obtain ⟨x, L, hL, rfl⟩ := txtS_row h
    exact sfTexts (x :: L) w hL hb
  · exact sfHex b w (by omega)
  · exact sfB64 b w (by omega)
  · exact sfSalt b w (by omega) (cntS_some h).1
  · have h1 := hash_two h
    exact sfHash b w (by omega) (by omega)
  · simp only [kindSize, setS] at h
    cases ht : typB b with
    | none => rw [ht] at h; cases h
    | some U => exact sfSet b U w (by omega) ht
  · simp only [kindSize] at h
    unfold oneS at h
    split at h
    · cases h
    · simp only [Option.some.injEq] at h
      exact sfOne b w (by omega)
  · exact sfTail b w (by omega)
  · exact absurd hk (by decide)
  · have hn : n = 1 ∨ n = 2 ∨ n = 4 := by
      have h1 : (n + 13 : Nat) ≤ 11 ∨ (n + 13 : Nat) = 14 ∨ (n + 13 : Nat) = 15 ∨ (n + 13 : Nat) = 17 := of_decide_eq_true hk
      omega
    have hbn : b.size = n := by
      simp only [kindSize, fixS] at h
      split at h <;> simp at h
      omega
    rcases hn with rfl | rfl | rfl
    · exact sfN1 b w (by omega)
    · exact sfN2 b w (by omega)
    · exact sfN4 b w (by omega)
end Go.Proofs.YtmbjmokhkonpiaaGreatDoor
