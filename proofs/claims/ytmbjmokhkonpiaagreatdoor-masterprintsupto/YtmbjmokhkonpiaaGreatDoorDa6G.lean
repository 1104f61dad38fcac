import Derived.Test.YtmbjmokhkonpiaaGreatDoorDa3G
import Derived.Test.YtmbjmokhkonpiaaGreatDoorWs4G
import Derived.Test.YtmbjmokhkonpiaaGreatDoorWkG
import Derived.Test.YtmbjmokhkonpiaaGreatDoorGr0G
/-
  Proofs: what is told of the other kinds' fields: salts, base 64, addresses of four bytes, texts, sets, unknown data. (The verifier's own text.)
-/
namespace Go.Proofs.YtmbjmokhkonpiaaGreatDoor
set_option linter.unusedVariables false
set_option linter.unusedSimpArgs false
open Go.RowKit Go.Shelf Go.Proofs.YtmbjmokhkonpiaaGreatDoor.Nm

theorem append_one {w w0 : World} {ops : Array Oper} {rest : List Oper} {o : Oper} {a : Act} {Q : Exit → Act → World → Prop} (hgd : o.guard = none) (s x : Operand)
    (ho : o.op = .call { callee := .builtin .append, args := #[s, x], argTypes := #[46, 46] })
    (T : ByteArray) (p : Option Addr) (n cp : Nat) (xs : List Value) (hs : a.eval s = .slice p n cp) (hx : a.eval x = .slice (some ⟨w.heap.size, 0, none⟩) 1 1)
    (hown : w.ownsRow w0.heap.size 9 1 (.slice p n cp) n xs) (hB : Below w0.heap.size w0 w) (hsm : n ≤ 4294967296)
    (h : ∀ p' c' w', w'.ownsRow w0.heap.size 9 1 (.slice p' (n + 1) c') (n + 1) (xs ++ [.string T]) → Below w0.heap.size w0 w' → wpList Tryz.prog ops Q rest (a.put o.dst (.slice p' (n + 1) c')) w') : wpList Tryz.prog ops Q (o :: rest) a (w.alloc (.cells #[.string T] 9)) := by
  obtain ⟨i0, hi, hz0, hz1, hz2⟩ := info_parts Tryz.infoStr
  have hBa := hB.alloc hB.size (.cells #[.string T] 9)
  refine wpList_append_own (w.alloc (.cells #[.string T] 9)) hgd s x 46 ho w0.heap.size 9 i0 (.string .empty) 1 16 Tryz.underlying46 hi hz0 hz1 hz2 rfl (by decide) (.slice p n cp) n xs hs (hown.alloc _) ⟨w.heap.size, 0, none⟩ 1 1 [.string T] hx rfl (cell_one_new _ _ _) (by simp [Value.oneCell']) (by unfold maxLen; omega) (by omega) hBa.size (fun v' w' h1 h2 _ => ?_)
  obtain ⟨g, c, rfl⟩ := owns_some h1 (by omega)
  exact h _ _ _ h1 (hBa.grown h2 hBa.size (fun q e => ownBlock_le hown e))
theorem append_row {w w0 : World} {ops : Array Oper} {rest : List Oper} {o : Oper} {a : Act} {Q : Exit → Act → World → Prop} (hgd : o.guard = none) (s x : Operand)
    (ho : o.op = .call { callee := .builtin .append, args := #[s, x], argTypes := #[46, 46] })
    (p : Option Addr) (n cp : Nat) (xs : List Value) (q : Option Addr) (m cq : Nat) (ys : List Value) (B2 : Nat) (hs : a.eval s = .slice p n cp) (hx : a.eval x = .slice q m cq)
    (hown : w.ownsRow w0.heap.size 9 1 (.slice p n cp) n xs) (hq : w.ownsRow B2 9 1 (.slice q m cq) m ys) (hys : ∀ u ∈ ys, u.oneCell' = true) (hB : Below w0.heap.size w0 w) (hsm : n + m ≤ 4294967296)
    (h : ∀ p' c' w', w'.ownsRow w0.heap.size 9 1 (.slice p' (n + m) c') (n + m) (xs ++ ys) → Below w0.heap.size w0 w' → wpList Tryz.prog ops Q rest (a.put o.dst (.slice p' (n + m) c')) w') : wpList Tryz.prog ops Q (o :: rest) a w := by
  obtain ⟨i0, hi, hz0, hz1, hz2⟩ := info_parts Tryz.infoStr
  have hlen : ys.length = m := by have := hq.1; omega
  have hq' := hq
  obtain ⟨_, (⟨h1, h2⟩ | ⟨g, cap, cur, h1, hb, hg, hn, hcap, hsz, ht⟩)⟩ := hq'
  · cases h1
    have : ys = [] := List.length_eq_zero_iff.1 hlen
    subst this
    refine wpList_append_own_none hgd s x 46 ho w0.heap.size 9 i0 1 Tryz.underlying46 hi (.slice p n cp) n xs hs hown hx ?_
    exact h p cp w (by simpa using hown) hB
  · have hqe : q = some ⟨g, 0, none⟩ := by simp only [Value.slice.injEq] at h1; exact h1.1
    subst hqe
    refine wpList_append_own w hgd s x 46 ho w0.heap.size 9 i0 (.string .empty) 1 16 Tryz.underlying46 hi hz0 hz1 hz2 rfl (by decide) (.slice p n cp) n xs hs hown ⟨g, 0, none⟩ m cq ys hx (by omega) ?_ hys (by unfold maxLen; omega) (by omega) hB.size (fun v' w' e1 e2 _ => ?_)
    · exact hq.cells rfl
    · obtain ⟨p', c', rfl, _⟩ := own_shape e1
      exact h _ _ _ e1 (hB.grown e2 hB.size (fun k e => ownBlock_le hown e))
theorem she_row {w W : World} {p : Option Addr} {n c : Nat} {xs : List Value} {Z : List Wz} (hn : Z.length = n) (hx : Z.map tlV = xs) (ho : W.ownsRow w.heap.size 9 1 (.slice p n c) n xs) (hB : Below w.heap.size w W) : ShE w Z (.returned (.slice p n c)) W := by
  subst hn hx
  exact ⟨p, c, rfl, ho, hB⟩
set_option maxRecDepth 100000 in
set_option maxHeartbeats 2000000 in
/-- a salt -/
theorem showSalt_any (b : ByteArray) (w : World) (hb : b.size ≤ 1048576) (h1 : 1 ≤ b.size) :
    Calls Tryz.prog 152 #[.agg #[], .string b] w (ShE w (tellK 7 b)) := by
  obtain ⟨wa, hwa⟩ : ∃ wa, w.alloc (.cells #[] 110) = wa := ⟨_, rfl⟩
  have HBa : Hid (Below w.heap.size w wa) := hwa ▸ (Below.refl _ w).alloc (Nat.le_refl _) _
  show Calls Tryz.prog 152 #[.agg #[], .string b] w (ShE w (if b.size = 1 then _ else _))
  by_cases h : b.size = 1
  · rw [if_pos h]
    have e1 : ((b.size : Int) == 1) = true := by rw [beq_iff_eq]; omega
    clear h
    go_enter Tryz.func152, Tryz.ntmps152
    go_wp2
    go_ret
    exact she_one HBa.out rfl
  · rw [if_neg h]
    have e1 : ((b.size : Int) == 1) = false := by rw [beq_eq_false_iff_ne]; omega
    have HS := hide' (fun V => toDigits4 (b.extract 1 b.size) d16 V (by rw [ByteArray.size_extract]; omega) d16_size)
    unfold d16 at HS
    have p1 : (1 : Int) ≤ (b.size : Int) := by omega
    have HT : Hid (toWB 4 d16 (b.extract 1 b.size) = toWB 4 d16 (b.extract 1 b.size)) := rfl
    obtain ⟨x, hx⟩ : ∃ x, b.extract 1 b.size = x := ⟨_, rfl⟩
    rw [hx] at HS ⊢
    clear h1 h HT
    go_enter Tryz.func152, Tryz.ntmps152
    go_wp2_with (first
      | (go_at_call 129; refine (HS.out _).mono ?_; rintro e0 w2 ⟨rfl, hB0⟩; have HB0 := hide' (bstep HBa.out hB0 HBa.out.size); clear hB0))
    go_ret
    exact she_one HB0.out (bts_ls _)
theorem fill_and (n : Nat) (h : n ≤ 16777216) : bits .and .i64 (-(n : Int)) 3 = ((fil64 n : Nat) : Int) := by
  show IntKind.i64.wrap ((BitVec.ofInt 64 (-(n : Int)) &&& BitVec.ofInt 64 3).toNat : Int) = _
  have e3 : (BitVec.ofInt 64 3).toNat = 2 ^ 2 - 1 := by decide
  rw [BitVec.toNat_and, e3, Nat.and_two_pow_sub_one_eq_mod, BitVec.toNat_ofInt]
  unfold fil64
  simp [IntKind.wrap, IntKind.bits, IntKind.signed]
  omega
theorem repeat_any (c : Nat) (w : World) (hc : c ≤ 3) : Calls Tryz.prog 138 #[.string ⟨#[61]⟩, .int .i64 (c : Int)] w fun e w' => e = .returned (.string (bts (List.replicate c 61))) ∧ Below w.heap.size w w' := by
  refine (Any.strings_Repeat Tryz.lays105 Tryz.extra105 ⟨#[61]⟩ c w (by omega) (by show 1 * c ≤ _; omega)).mono ?_
  rintro e w' ⟨rfl, h⟩
  refine ⟨?_, h⟩
  have e1 : Lib.repeatL (⟨#[61]⟩ : ByteArray).data.toList c = u8 (List.replicate c 61) := by
    have := Lib.repeatL_replicate 61 1 c
    rw [Nat.mul_one] at this
    show Lib.repeatL [61] c = _
    rw [show ([61] : List UInt8) = List.replicate 1 61 from rfl, this]
    simp [u8]
  rw [e1, u8_bts]
set_option maxRecDepth 100000 in
set_option maxHeartbeats 2000000 in
/-- base 64 -/
theorem showBase64_any (b : ByteArray) (w : World) (hb : b.size ≤ 1048576) :
    Calls Tryz.prog 137 #[.agg #[], .string b] w (ShE w (tellK 6 b)) := by
  obtain ⟨wa, hwa⟩ : ∃ wa, w.alloc (.cells #[] 108) = wa := ⟨_, rfl⟩
  have HBa : Hid (Below w.heap.size w wa) := hwa ▸ (Below.refl _ w).alloc (Nat.le_refl _) _
  have HS : Hid (∀ V, Calls Tryz.prog 129 #[.string b, .string d64] V fun e w' => e = .returned (.string (toWB 6 d64 b)) ∧ Below V.heap.size V w') := fun V => toDigits6 b d64 V hb d64_size
  have hz := cW_len8 dg64 b
  show Calls Tryz.prog 137 #[.agg #[], .string b] w (ShE w [⟨lsB (toWB 6 d64 b) ++ List.replicate (fil64 (toWB 6 d64 b).size) 61, false⟩])
  generalize toWB 6 d64 b = T at *
  have ha := fill_and T.size (by omega)
  have HR : Hid (∀ V, Calls Tryz.prog 138 #[.string ⟨#[61]⟩, .int .i64 (fil64 T.size : Int)] V fun e w' => e = .returned (.string (bts (List.replicate (fil64 T.size) 61))) ∧ Below V.heap.size V w') := fun V => repeat_any _ V (by unfold fil64; omega)
  have HT : Hid (bts (lsB T ++ List.replicate (fil64 T.size) 61) = T ++ bts (List.replicate (fil64 T.size) 61)) := by unfold Hid; rw [bts_append, bts_ls]
  have hsz : ¬ 9223372036854775807 < T.size + (bts (List.replicate (fil64 T.size) 61)).size := by
    rw [bts_size, List.length_replicate]
    unfold fil64
    omega
  generalize fil64 T.size = f at *
  have hw : IntKind.i64.wrap (-(T.size : Int)) = -(T.size : Int) := by
    simp [IntKind.wrap, IntKind.bits, IntKind.signed]
    omega
  unfold d64 at HS
  clear hz
  go_enter Tryz.func137, Tryz.ntmps137
  go_wp2_with (first
    | (go_at_call 129; refine (HS.out _).mono ?_; rintro e0 w2 ⟨rfl, hB0⟩; have HB0 := hide' (bstep HBa.out hB0 HBa.out.size); clear hB0)
    | (go_at_call 138; refine (HR.out _).mono ?_; rintro e1 w3 ⟨rfl, hB1⟩; have HB1 := hide' (bstep HB0.out hB1 HB0.out.size); clear hB1))
  go_ret
  exact she_one HB1.out HT.out
end Go.Proofs.YtmbjmokhkonpiaaGreatDoor

/-
  Proofs: what is told of addresses of four bytes, of sets and of unknown data. (The verifier's own text.)
-/
namespace Go.Proofs.YtmbjmokhkonpiaaGreatDoor
set_option linter.unusedVariables false
set_option linter.unusedSimpArgs false
open Go.RowKit Go.Shelf Go.Proofs.YtmbjmokhkonpiaaGreatDoor.Nm

/-- the first bytes told as numbers -/
def dgs (b : ByteArray) (k : Nat) : List Value := (lst b k).map fun x => Value.string (bts (dgN x))
theorem dgs_succ (b : ByteArray) (k : Nat) : dgs b (k + 1) = dgs b k ++ [.string (bts (dgN (bt b k)))] := by unfold dgs; rw [lst_succ, List.map_append]; rfl
set_option maxRecDepth 100000 in
set_option maxHeartbeats 4000000 in
/-- an address of four bytes -/
theorem showIp4_any (b : ByteArray) (w : World) (hb : b.size = 4) (hG : GW w) :
    Calls Tryz.prog 109 #[.agg #[], .string b] w (ShE w (tellK 0 b)) := by
  obtain ⟨wa, hwa⟩ : ∃ wa, w.alloc (.cells #[] 97) = wa := ⟨_, rfl⟩
  have HBa : Hid (Below w.heap.size w wa) := hwa ▸ (Below.refl _ w).alloc (Nat.le_refl _) _
  have HI : Hid (∀ V, Below w.heap.size w V → ∀ x : Nat, x < 256 → Calls Tryz.prog 15 #[.int .i64 (x : Int)] V fun e w' => e = .returned (.string (bts (dgN x))) ∧ Below V.heap.size V w') := fun V hV x hx => itoa_any x V (hG.below hV) (by omega)
  have hl4 := jnC_len 46 3 ((lsB b).map dgN) (fun y hy => by
    obtain ⟨a, ha, rfl⟩ := List.mem_map.1 hy
    have := lsB_lt b a ha
    exact dgN_len 2 a (by omega))
  rw [List.length_map, lsB_len] at hl4
  have HJ : Hid (∀ V p c, V.ownsRow w.heap.size 9 1 (.slice p b.size c) b.size (dgs b b.size) → Calls Tryz.prog 37 #[.slice p b.size c, .string ⟨#[46]⟩] V fun e w' => e = .returned (.string (bts (ip4L b))) ∧ Below V.heap.size V w') := fun V p c ho => by
    have e : ((lsB b).map dgN).length = b.size := by rw [List.length_map, lsB_len]
    have := join_any 46 ((lsB b).map dgN) p c w.heap.size V (by rw [e]; rw [List.map_map]; exact ho) (by omega) (by omega)
    rw [e] at this
    exact this
  show Calls Tryz.prog 109 #[.agg #[], .string b] w (ShE w [⟨ip4L b, false⟩])
  generalize ip4L b = T at *
  have hbz : b.size ≤ 4 := by omega
  clear hl4 hb
  go_enter Tryz.func109, Tryz.ntmps109
  go_wp2_with fail
  go_loopw [5, 9] (fun nv iv wr => ∃ (k : Nat) (p : Option Addr) (c : Nat), iv = .int .i64 (k : Int) ∧ nv = .slice p k c ∧ k ≤ b.size ∧ Hid (wr.ownsRow w.heap.size 9 1 (.slice p k c) k (dgs b k)) ∧ Hid (Below w.heap.size w wr)) (fun _ iv _ => b.size - (intOf iv).toNat)
  case atStart => exact ⟨0, none, 0, rfl, rfl, Nat.zero_le _, World.ownsRow_nil _ _ _ _, HBa.out⟩
  case round =>
    clear HBa hwa
    obtain ⟨k, p, c, rfl, rfl, hk, HO, HB⟩ := hrel
    by_cases hlt : k < b.size
    · obtain ⟨y, hy, HY, hyl⟩ := bt_wrap hlt
      have HE : Hid (dgs b (k + 1) = dgs b k ++ [.string (bts (dgN y))]) := by unfold Hid; rw [dgs_succ, HY]
      have pk : (k : Int) < (b.size : Int) := by omega
      clear HY
      go_wp2_with (first
        | (go_at_call 15; refine (HI.out _ HB.out y hyl).mono ?_; rintro e1 w3 ⟨rfl, hB1⟩; have HB1 := hide' (bstep HB.out hB1 HB.out.size); have HO1 := hide' (ownsRow_below HO.out hB1); clear hB1)
        | (at_builtin; refine append_one rfl _ _ rfl (bts (dgN y)) p k c (dgs b k) rfl rfl HO1.out HB1.out (by omega) ?_; intro p4 c4 w4 ho4 hB4; have HO4 := hide' ho4; have HB4 := hide' hB4; clear ho4 hB4))
      refine ⟨⟨k + 1, p4, c4, by go_num, rfl, by omega, ?_, HB4⟩, by simp [intOf]; omega⟩
      rw [HE.out]
      exact HO4
    · obtain rfl : k = b.size := by omega
      have pk : ¬ (b.size : Int) < (b.size : Int) := by omega
      go_wp2_with (go_at_call 37; refine (HJ.out _ _ _ HO.out).mono ?_; rintro e1 w3 ⟨rfl, hB1⟩; have HB1 := hide' (bstep HB.out hB1 HB.out.size); clear hB1)
      go_ret
      exact she_one HB1.out rfl
/-- the first types' names -/
def nms (U : List Nat) (k : Nat) : List Value := (U.take k).map fun t : Nat => Value.string (nameT (t : Int))
theorem nms_succ {U : List Nat} {k : Nat} (h : k < U.length) : nms U (k + 1) = nms U k ++ [.string (nameT (U[k] : Int))] := by
  unfold nms
  rw [List.take_add_one, List.getElem?_eq_getElem h, Option.toList_some, List.map_append, List.map_cons, List.map_nil]
set_option maxRecDepth 100000 in
set_option maxHeartbeats 4000000 in
/-- a set -/
theorem showSet_any (b : ByteArray) (U : List Nat) (w : World) (hb : b.size ≤ 1048576) (hU : typB b = some U) (hG : GW w) :
    Calls Tryz.prog 146 #[.agg #[], .string b] w (ShE w (tellK 9 b)) := by
  obtain ⟨wa, hwa⟩ : ∃ wa, w.alloc (.cells #[] 109) = wa := ⟨_, rfl⟩
  have HBa : Hid (Below w.heap.size w wa) := hwa ▸ (Below.refl _ w).alloc (Nat.le_refl _) _
  obtain ⟨_, hU2, hU3⟩ := typB_facts hU
  have HN : Hid (∀ V, Below w.heap.size w V → ∀ x : Nat, x ≤ 65535 → Calls Tryz.prog 16 #[.int .i64 (x : Int)] V fun e w' => e = .returned (.string (nameT (x : Int))) ∧ Below V.heap.size V w') := fun V hV x hx => typeName_any _ V (hG.below hV) (by omega)
  have HT := hide' (fun V => typesOf_any b V hb)
  rw [hU] at HT
  have HZ : Hid ((tellK 9 b).length = U.length ∧ (tellK 9 b).map tlV = nms U U.length) := by
    show (((typB b).getD []).map _).length = _ ∧ (((typB b).getD []).map _).map tlV = _
    rw [hU]
    simp only [Option.getD_some]
    refine ⟨List.length_map _, ?_⟩
    unfold nms
    rw [List.take_length, List.map_map]
    refine List.map_congr_left fun t _ => ?_
    show tlV ⟨lsB (nameT (t : Int)), false⟩ = _
    unfold tlV shW
    simp only [Bool.false_eq_true, if_false]
    rw [bts_ls]
  have HU2 := hide' hU2
  have hUl : U.length ≤ 8388608 := by omega
  generalize tellK 9 b = Z at *
  clear hU hU2 hU3 hb
  go_enter Tryz.func146, Tryz.ntmps146
  go_wp2_with (go_at_call 148; refine (HT.out _).mono ?_; rintro e0 w2 ⟨⟨v, rfl, ho⟩, hB0⟩; obtain ⟨pU, cU, rfl, hcU, hcU2, -⟩ := own_shape ho; have HO2 := hide' ho; have HB2 := hide' (bstep HBa.out hB0 HBa.out.size); clear ho hB0)
  obtain ⟨hcU3⟩ : Nonempty (cU ≤ 9223372036854775807) := ⟨by unfold maxLen at hcU2; omega⟩
  go_loopw [5, 11] (fun nv iv wr => ∃ (k : Nat) (p : Option Addr) (c : Nat), iv = .int .i64 (k : Int) ∧ nv = .slice p k c ∧ k ≤ U.length ∧ Hid (wr.ownsRow w2.heap.size 9 1 (.slice p k c) k (nms U k)) ∧ Hid (Below w2.heap.size w2 wr)) (fun _ iv _ => U.length - (intOf iv).toNat)
  case atStart => exact ⟨0, none, 0, rfl, rfl, Nat.zero_le _, World.ownsRow_nil _ _ _ _, Below.refl _ _⟩
  case round =>
    clear HBa hwa
    obtain ⟨k, p, c, rfl, rfl, hk, HO, HB⟩ := hrel
    by_cases hlt : k < U.length
    · obtain ⟨g, c2, hpe⟩ := owns_some HO2.out (by omega)
      simp only [Value.slice.injEq] at hpe
      obtain ⟨rfl, -, rfl⟩ := hpe
      obtain ⟨y, hy⟩ : ∃ y, U[k] = y := ⟨_, rfl⟩
      have HY : Hid (y ≤ 65535) := by rw [← hy]; exact (HU2.out _ (List.getElem_mem hlt)).2
      have HE : Hid (nms U (k + 1) = nms U k ++ [.string (nameT (y : Int))]) := by unfold Hid; rw [nms_succ hlt, hy]
      have hcell : wr.cell? ⟨g, k, none⟩ = some (.int .i64 (y : Int)) := by
        have h := (ownsRow_below HO2.out HB.out).cellAt k (by omega)
        rw [h]
        unfold nums
        rw [List.getElem?_map, List.getElem?_eq_getElem hlt, hy]
        rfl
      have pk : (k : Int) < (U.length : Int) := by omega
      clear hy
      go_wp2_with (first
        | (go_at_call 16; refine (HN.out _ (bstep HB2.out HB.out HB2.out.size) y HY.out).mono ?_; rintro e1 w3 ⟨rfl, hB1⟩; have HB1 := hide' (bstep HB.out hB1 HB.out.size); have HO1 := hide' (ownsRow_below HO.out hB1); clear hB1)
        | (at_builtin; refine append_one (w0 := w2) rfl _ _ rfl (nameT (y : Int)) p k c (nms U k) rfl rfl HO1.out HB1.out (by omega) ?_; intro p4 c4 w4 ho4 hB4; have HO4 := hide' ho4; have HB4 := hide' hB4; clear ho4 hB4))
      refine ⟨⟨k + 1, p4, c4, by go_num, rfl, by omega, ?_, HB4⟩, by simp [intOf]; omega⟩
      rw [HE.out]
      exact HO4
    · obtain rfl : k = U.length := by omega
      have pk : ¬ (U.length : Int) < (U.length : Int) := by omega
      go_wp2
      go_ret
      exact she_row HZ.out.1 HZ.out.2 (own_mono HO.out HB2.out.size) (bstep HB2.out HB.out HB2.out.size)
end Go.Proofs.YtmbjmokhkonpiaaGreatDoor

/-
  Proofs: what is told of unknown data and of texts. (The verifier's own text.)
-/
namespace Go.Proofs.YtmbjmokhkonpiaaGreatDoor
set_option linter.unusedVariables false
set_option linter.unusedSimpArgs false
open Go.RowKit Go.Shelf Go.Proofs.YtmbjmokhkonpiaaGreatDoor.Nm

theorem own_two (w : World) (a b : Value) (base : Nat) (hb : base ≤ w.heap.size) : (w.alloc (.cells #[a, b] 9)).ownsRow base 9 1 (.slice (some ⟨w.heap.size, 0, none⟩) 2 2) 2 [a, b] :=
  ⟨rfl, Or.inr ⟨w.heap.size, 2, _, rfl, hb, World.alloc_heap_new w _, Nat.le_refl _, by unfold maxLen; omega, rfl, rfl⟩⟩
set_option maxRecDepth 100000 in
set_option maxHeartbeats 4000000 in
/-- unknown data -/
theorem showUnk_any (b : ByteArray) (w : World) (hb : b.size ≤ 65535) (hG : GW w) :
    Calls Tryz.prog 161 #[.agg #[], .string b] w (ShE w (tellK 12 b)) := by
  obtain ⟨wa, hwa⟩ : ∃ wa, w.alloc (.cells #[] 113) = wa := ⟨_, rfl⟩
  have HBa : Hid (Below w.heap.size w wa) := hwa ▸ (Below.refl _ w).alloc (Nat.le_refl _) _
  have HI : Hid (∀ V, Below w.heap.size w V → Calls Tryz.prog 15 #[.int .i64 (b.size : Int)] V fun e w' => e = .returned (.string (bts (dgN b.size))) ∧ Below V.heap.size V w') := fun V hV => itoa_any _ V (hG.below hV) (by omega)
  have HS : Hid (∀ V, Calls Tryz.prog 129 #[.string b, .string d16] V fun e w' => e = .returned (.string (toWB 4 d16 b)) ∧ Below V.heap.size V w') := fun V => toDigits4 b d16 V (by omega) d16_size
  show Calls Tryz.prog 161 #[.agg #[], .string b] w (ShE w (⟨[92, 35], false⟩ :: ⟨dgN b.size, false⟩ :: (if b.size = 0 then [] else _)))
  by_cases h0 : b.size = 0
  · rw [if_pos h0]
    have he := isEmpty_true h0
    clear h0
    go_enter Tryz.func161, Tryz.ntmps161
    go_wp2_with (go_at_call 15; refine (HI.out _ HBa.out).mono ?_; rintro e1 w3 ⟨rfl, hB1⟩; have HB1 := hide' (bstep HBa.out hB1 HBa.out.size); clear hB1)
    go_ret
    exact she_row rfl rfl (own_two _ _ _ _ HB1.out.size) (HB1.out.alloc HB1.out.size _)
  · rw [if_neg h0]
    have he := isEmpty_false (r := b) (by omega)
    have HT : Hid (bts (lsB (toWB 4 d16 b)) = toWB 4 d16 b) := bts_ls _
    generalize lsB (toWB 4 d16 b) = Tl at *
    generalize toWB 4 d16 b = T at *
    unfold d16 at HS
    clear h0
    go_enter Tryz.func161, Tryz.ntmps161
    go_wp2_with (first
      | (go_at_call 15; refine (HI.out _ HBa.out).mono ?_; rintro e1 w3 ⟨rfl, hB1⟩; have HB1 := hide' (bstep HBa.out hB1 HBa.out.size); clear hB1; have HO1 := hide' (own_two w3 (.string ⟨#[92, 35]⟩) (.string (bts (dgN b.size))) w.heap.size HB1.out.size); have HB2 := hide' (HB1.out.alloc HB1.out.size (.cells #[.string ⟨#[92, 35]⟩, .string (bts (dgN b.size))] 9)))
      | (go_at_call 129; refine (HS.out _).mono ?_; rintro e0 w4 ⟨rfl, hB0⟩; have HB4 := hide' (bstep HB2.out hB0 HB2.out.size); have HO4 := hide' (ownsRow_below HO1.out hB0); clear hB0)
      | (at_builtin; refine append_one (w0 := w) rfl _ _ rfl T (some ⟨w3.heap.size, 0, none⟩) 2 2 [.string ⟨#[92, 35]⟩, .string (bts (dgN b.size))] ?_ ?_ HO4.out HB4.out (by omega) ?_; rfl; rfl; intro p5 c5 w5 ho5 hB5; have HO5 := hide' ho5; have HB5 := hide' hB5; clear ho5 hB5))
    go_ret
    refine she_row rfl ?_ HO5.out HB5.out
    show [tlV ⟨[92, 35], false⟩, tlV ⟨dgN b.size, false⟩, tlV ⟨Tl, false⟩] = _
    rw [show tlV ⟨Tl, false⟩ = .string T by rw [← HT.out]; rfl]
    rfl
/-- the first texts told -/
def txs (L : List ByteArray) (k : Nat) : List Value := (L.take k).map fun x => tlV (txW x)
theorem txs_succ {L : List ByteArray} {k : Nat} (h : k < L.length) : txs L (k + 1) = txs L k ++ [tlV (txW L[k])] := by
  unfold txs
  rw [List.take_add_one, List.getElem?_eq_getElem h, Option.toList_some, List.map_append, List.map_cons, List.map_nil]
set_option maxRecDepth 100000 in
set_option maxHeartbeats 4000000 in
/-- texts -/
theorem showTexts_any (L : List ByteArray) (w : World) (hL : ∀ x ∈ L, x.size ≤ 255) (hb : (chunks L).size ≤ 65535) :
    Calls Tryz.prog 119 #[.agg #[], .string (chunks L)] w (ShE w (tellK 4 (chunks L))) := by
  obtain ⟨wa, hwa⟩ : ∃ wa, w.alloc (.cells #[] 102) = wa := ⟨_, rfl⟩
  have HBa : Hid (Below w.heap.size w wa) := hwa ▸ (Below.refl _ w).alloc (Nat.le_refl _) _
  have hfl := fieldText
  have hll : L.length ≤ 65535 := Nat.le_trans (chunks_len L) hb
  have HZ : Hid ((tellK 4 (chunks L)).length = L.length ∧ (tellK 4 (chunks L)).map tlV = txs L L.length) := by
    have e : tellK 4 (chunks L) = L.map txW := txtW_chunks L _ hL (chunks_len L)
    unfold Hid txs
    rw [e, List.length_map, List.take_length, List.map_map]
    exact ⟨rfl, rfl⟩
  generalize tellK 4 (chunks L) = Z at *
  have HStep : Hid (∀ k, (hk : k < L.length) → ∃ x D R : ByteArray, chunks (L.drop k) = D ∧ chunks (L.drop (k + 1)) = R ∧ cntS D = some (1 + x.size) ∧ 1 + x.size ≤ D.size ∧ D.size ≤ 65535 ∧ D.extract 0 (1 + x.size) = chunk x ∧ D.extract (1 + x.size) D.size = R ∧ txs L (k + 1) = txs L k ++ [tlV (txW x)] ∧ (chunk x).size ≤ 65535 ∧ 1 ≤ (chunk x).size ∧ tlV (txW x) = tlV ⟨qtL (lsB ((chunk x).extract 1 (chunk x).size)), true⟩) := fun k hk => by
    have e := List.drop_eq_getElem_cons hk
    have hx := hL _ (List.getElem_mem hk)
    obtain ⟨h1, h2, h3⟩ := chunk_cut (r := chunks (L.drop (k + 1))) hx
    have hz : (chunks (L.drop k)).size ≤ 65535 := by
      have h5 : chunks L = chunks (L.take k) ++ chunks (L.drop k) := by rw [← chunks_append, List.take_append_drop]
      have := congrArg ByteArray.size h5
      rw [ByteArray.size_append] at this
      omega
    have hc := chunks_cons L[k] (L.drop (k + 1))
    rw [← e] at hc
    refine ⟨L[k], _, _, hc, rfl, h1, (cntS_some h1).2, by rw [← hc]; exact hz, h3, h2, txs_succ hk, by rw [chunk_size]; omega, by rw [chunk_size]; omega, by rw [chunk_tail]; rfl⟩
  have HEnd : Hid (chunks (L.drop L.length) = ByteArray.empty) := by unfold Hid; rw [List.drop_length]; rfl
  have HCs := hide' (fun (d : ByteArray) (h : d.size ≤ 1048576) (V : World) => countedSize_any d V h)
  have HTs := hide' (fun (d : ByteArray) (h : d.size ≤ 65535) (h1 : 1 ≤ d.size) (V : World) => showText_any d V h h1)
  have HD0 : Hid (chunks L = chunks (L.drop 0)) := by rw [List.drop_zero]; exact rfl
  generalize chunks L = d0 at *
  clear hL hb
  go_enter Tryz.func119, Tryz.ntmps119
  go_wp2_with fail
  go_loopw [1, 5] (fun dv nv wr => ∃ (k : Nat) (D : ByteArray) (p : Option Addr) (c : Nat), dv = .string D ∧ Hid (D = chunks (L.drop k)) ∧ nv = .slice p k c ∧ k ≤ L.length ∧ Hid (wr.ownsRow w.heap.size 9 1 (.slice p k c) k (txs L k)) ∧ Hid (Below w.heap.size w wr)) (fun dv _ _ => ssz dv)
  case atStart => exact ⟨0, d0, none, 0, rfl, HD0.out, rfl, Nat.zero_le _, World.ownsRow_nil _ _ _ _, HBa.out⟩
  case round =>
    clear HBa hwa
    obtain ⟨k, D, p, c, rfl, HD, rfl, hk, HO, HB⟩ := hrel
    by_cases hlt : k < L.length
    · obtain ⟨x, D', R, e1, e2, h1, h2, h3, h4, h5, h6, h7, h8, h9⟩ := HStep.out k hlt
      have hDD : D = D' := by rw [HD.out, e1]
      subst hDD
      have HR : Hid (R = chunks (L.drop (k + 1))) := e2.symm
      have HC1 := hide' (HCs.out D (by omega))
      rw [h1] at HC1
      have HT1 := hide' (HTs.out (chunk x) h7 h8)
      have he := isEmpty_false (r := D) (by omega)
      have HE : Hid (txs L (k + 1) = txs L k ++ [tlV ⟨qtL (lsB ((chunk x).extract 1 (chunk x).size)), true⟩]) := by unfold Hid; rw [h6, h9]
      have hzR : Hid (R.size < D.size) := by unfold Hid; rw [← h5, size_extract' _ _ _ (Nat.le_refl _)]; omega
      clear e1 e2 h1 h6 h7 h8 h9 HD
      generalize hS : (1 + x.size) = S at *
      generalize chunk x = cx at *
      generalize (⟨qtL (lsB (cx.extract 1 cx.size)), true⟩ : Wz) = zx at *
      have pS : (S : Int) ≤ (D.size : Int) := by omega
      clear hS
      go_wp2_with (first
        | (go_at_call 114; refine (HC1.out _).mono ?_; rintro e1 w3 ⟨rfl, hB1⟩; simp only [szEnd]; have HB1 := hide' (bstep HB.out hB1 HB.out.size); have HO1 := hide' (ownsRow_below HO.out hB1); clear hB1)
        | (go_at_call 116; refine (HT1.out _).mono ?_; rintro e2 w4 ⟨p2, c2, rfl, ho2, hB2⟩; have HB2 := hide' (bstep HB1.out hB2 HB1.out.size); have HO2 := hide' (ownsRow_below HO1.out hB2); have HQ2 := hide' ho2; clear ho2 hB2)
        | (at_builtin; refine append_row (w0 := w) rfl _ _ rfl p k c (txs L k) p2 1 c2 [tlV zx] _ rfl rfl HO2.out HQ2.out (by simp [tlV, Value.oneCell']) HB2.out (by omega) ?_; intro p4 c4 w5 ho4 hB4; have HO4 := hide' ho4; have HB4 := hide' hB4; clear ho4 hB4))
      refine ⟨⟨k + 1, R, p4, c4, ?_, HR, rfl, by omega, ?_, HB4⟩, ?_⟩
      · first | rfl | (congr 1)
      · rw [HE.out]; exact HO4
      · exact hzR.out
    · obtain rfl : k = L.length := by omega
      have hD0 : D = ByteArray.empty := by rw [HD.out, HEnd.out]
      subst hD0
      have he := isEmpty_true (r := ByteArray.empty) rfl
      go_wp2
      go_ret
      exact she_row HZ.out.1 HZ.out.2 HO.out HB.out
end Go.Proofs.YtmbjmokhkonpiaaGreatDoor
