import Derived.Test.YtfacfhigehdejaaGreatDoorWs1G
import Derived.Test.YtfacfhigehdejaaGreatDoorGr0G
import Derived.Test.YtfacfhigehdejaaGreatDoorShw
import Derived.Test.YtfacfhigehdejaaGreatDoorMath13G
import Derived.Test.YtfacfhigehdejaaGreatDoorDh0G
import Derived.Test.YtfacfhigehdejaaGreatDoorDh4G
import Derived.Test.YtfacfhigehdejaaGreatDoorDg1G
import Derived.Test.YtfacfhigehdejaaGreatDoorTn1G
import Derived.Test.YtfacfhigehdejaaGreatDoorShNG
import Derived.Test.YtfacfhigehdejaaGreatDoorSk8
/-
  Proofs: data.quoted: bytes as a word in quotes. (The verifier's own text.)
-/
namespace Go.Proofs.YtfacfhigehdejaaGreatDoor
set_option linter.unusedVariables false
set_option linter.unusedSimpArgs false
open Go.RowKit Go.Shelf Go.Proofs.YtfacfhigehdejaaGreatDoor.Nm

/-- what is told of bytes in quotes -/
def quL (l : List Nat) : List Nat := 34 :: (qtL l ++ [34])
theorem quL_lt {l : List Nat} (h : ∀ x ∈ l, x < 256) : ∀ x ∈ quL l, x < 256 := fun x hx => by
  unfold quL at hx
  rcases List.mem_cons.1 hx with e | e
  · omega
  · rcases List.mem_append.1 e with e | e
    · exact qtL_lt h x e
    · have := List.mem_singleton.1 e; omega
theorem own_new8 (w : World) (x : Nat) (T : TypeId) (base : Nat) (hb : base ≤ w.heap.size) : (w.alloc (.cells #[.int .u8 (x : Int)] T)).ownsRow base T 1 (.slice (some ⟨w.heap.size, 0, none⟩) 1 1) 1 [.int .u8 (x : Int)] :=
  ⟨rfl, Or.inr ⟨w.heap.size, 1, _, rfl, hb, World.alloc_heap_new w _, Nat.le_refl _, by unfold maxLen; omega, rfl, rfl⟩⟩
set_option maxRecDepth 100000 in
set_option maxHeartbeats 4000000 in
/-- data.quoted -/
theorem quoted_any (b : ByteArray) (w : World) (hb : b.size ≤ 65535) :
    Calls Tryz.prog 134 #[.string b] w fun e w' => e = .returned (.string (bts (quL (lst b b.size)))) ∧ Below w.heap.size w w' := by
  obtain ⟨i0, hi, hz0, hz1, hz2⟩ := info_parts Tryz.infoByte
  obtain ⟨wa, hwa⟩ : ∃ wa, w.alloc (.cells #[.int .u8 34] 5) = wa := ⟨_, rfl⟩
  have HOa : Hid (wa.ownsRow w.heap.size 5 1 (.slice (some ⟨w.heap.size, 0, none⟩) 1 1) 1 [.int .u8 34]) := hwa ▸ own_new8 w 34 _ _ (Nat.le_refl _)
  have HBa : Hid (Below w.heap.size w wa) := hwa ▸ (Below.refl _ w).alloc (Nat.le_refl _) _
  obtain ⟨T, hT⟩ : ∃ T, bts (quL (lst b b.size)) = T := ⟨_, rfl⟩
  have HT := hide' hT
  rw [hT]
  clear hT
  go_enter Tryz.func134, Tryz.ntmps134
  go_wp2_with fail
  go_loopw [3, 8] (fun sv iv wr => ∃ (k g c : Nat), iv = .int .i64 (k : Int) ∧ sv = .slice (some ⟨g, 0, none⟩) (34 :: qtL (lst b k)).length c ∧ k ≤ b.size ∧ Hid (wr.ownsRow w.heap.size 5 1 (.slice (some ⟨g, 0, none⟩) (34 :: qtL (lst b k)).length c) (34 :: qtL (lst b k)).length (byts (34 :: qtL (lst b k)))) ∧ Hid (Below w.heap.size w wr)) (fun _ iv _ => b.size - (intOf iv).toNat)
  case atStart => exact ⟨0, w.heap.size, 1, rfl, rfl, Nat.zero_le _, HOa, HBa⟩
  case round =>
    clear HOa HBa hwa
    obtain ⟨k, g, c, rfl, rfl, hk, HO, HB⟩ := hrel
    by_cases hlt : k < b.size
    · obtain ⟨y, hy, HY, hyl⟩ := bt_wrap hlt
      have hln : (34 :: qtL (lst b k)).length ≤ 1048576 := by
        have := (qtL_len (lst b k)).2
        rw [lst_len] at this
        rw [List.length_cons]
        omega
      have HA := hide' (append_any (.slice (some ⟨g, 0, none⟩) (34 :: qtL (lst b k)).length c) (34 :: qtL (lst b k)).length w.heap.size y 32 mk2 (byts (34 :: qtL (lst b k))) wr HO.out hyl (by decide) hln HB.out.size)
      have HE : Hid (34 :: qtL (lst b (k + 1)) = (34 :: qtL (lst b k)) ++ shG 32 mk2 y) := by
        unfold Hid
        rw [lst_succ, qtL_snoc, HY]
        rfl
      have pk : (k : Int) < (b.size : Int) := by omega
      have HPs : Hid (0 < (34 :: qtL (lst b k)).length + (shG 32 mk2 y).length) := by unfold Hid; rw [List.length_cons]; omega
      obtain ⟨A, hA⟩ : ∃ A, 34 :: qtL (lst b k) = A := ⟨_, rfl⟩
      rw [hA] at HA HE HO HPs
      simp only [hA] at *
      clear HY hln hA
      rw [show ((32 : Nat) : Int) = 32 from rfl, show mk2 = ⟨#[34, 92]⟩ from rfl] at HA
      have HM : Hid (mk2 = ⟨#[34, 92]⟩) := rfl
      rw [show mk2 = ⟨#[34, 92]⟩ from rfl] at HPs HE
      go_wp2_with (go_at_call 125; refine HA.out.mono ?_; rintro e w2 ⟨v2, rfl, ho2, hB2, -⟩; obtain ⟨g2, c2, hv2⟩ := owns_some ho2 HPs.out; subst hv2; have HO2 := hide' ho2; have HB2 : Hid (Below w.heap.size w w2) := HB.out.trans hB2; clear ho2 hB2)
      refine ⟨⟨k + 1, g2, c2, by go_num, ?_, by omega, ?_, HB2⟩, by simp [intOf]; omega⟩
      · rw [HE.out, List.length_append]
      · rw [HE.out, List.length_append]
        have e : byts (A ++ shG 32 ⟨#[34, 92]⟩ y) = byts A ++ (shG 32 ⟨#[34, 92]⟩ y).map (fun x : Nat => Value.int .u8 (x : Int)) := List.map_append
        rw [e]
        exact HO2.out
    · obtain rfl : k = b.size := by omega
      have pk : ¬ (b.size : Int) < (b.size : Int) := by omega
      have hln : (34 :: qtL (lst b b.size)).length ≤ 1048576 := by
        have := (qtL_len (lst b b.size)).2
        rw [lst_len] at this
        rw [List.length_cons]
        omega
      have HQ : Hid (quL (lst b b.size) = (34 :: qtL (lst b b.size)) ++ [34]) := rfl
      have HLt : Hid (∀ x ∈ quL (lst b b.size), x < 256) := quL_lt (lst_lt b _)
      obtain ⟨A, hA⟩ : ∃ A, 34 :: qtL (lst b b.size) = A := ⟨_, rfl⟩
      rw [hA] at HQ HO
      simp only [hA] at *
      clear hA
      obtain ⟨wb, hwb⟩ : ∃ wb, wr.alloc (.cells #[.int .u8 34] 5) = wb := ⟨_, rfl⟩
      have HOb : Hid (wb.ownsRow w.heap.size 5 1 (.slice (some ⟨g, 0, none⟩) A.length c) A.length (byts A)) := hwb ▸ HO.out.alloc _
      have HBb : Hid (Below w.heap.size w wb) := hwb ▸ HB.out.alloc HB.out.size _
      have HCb : Hid (∀ j u, [Value.int .u8 34][j]? = some u → wb.cell? ((⟨wr.heap.size, 0, none⟩ : Addr).add j) = some u) := hwb ▸ cell_one_new _ _ _
      have HCv : Hid (∀ (W : World) (g4 c4 : Nat), W.ownsRow w.heap.size 5 1 (.slice (some ⟨g4, 0, none⟩) (A.length + 1) c4) (A.length + 1) (byts A ++ [.int .u8 34]) → (convert 69 9 (.slice (some ⟨g4, 0, none⟩) (A.length + 1) c4)).run Tryz.prog W = .ok (.string T) W) := fun W g4 c4 hW => by
        have hz : T.size = A.length + 1 := by rw [← HT.out, bts_size, HQ.out, List.length_append]; rfl
        have h := owns_str (t := T) (w := W) (base := w.heap.size) (g := g4) (cap := c4) (by
          have e1 : Go.Lib.strCells T = byts A ++ [.int .u8 34] := by
            rw [← HT.out, bts_cells _ HLt.out, HQ.out, List.map_append]
            rfl
          rw [hz, e1]
          exact hW)
        rw [hz] at h
        exact h
      go_wp2_with (at_builtin; refine wpList_append_own _ rfl _ _ 69 rfl w.heap.size 5 i0 (.int .u8 0) 1 1 Tryz.underlying69 hi hz0 hz1 hz2 rfl (by decide) _ A.length (byts A) ?_ HOb.out ⟨wr.heap.size, 0, none⟩ 1 1 [.int .u8 34] ?_ rfl HCb.out (by simp [Value.oneCell']) (by unfold maxLen; omega) (by omega) HBb.out.size ?_; rfl; rfl; intro v4 w4 ho4 hg4 _; obtain ⟨g4, c4, hv4⟩ := owns_some ho4 (by omega); subst hv4; have hcv := HCv.out w4 g4 c4 ho4; have HB4 : Hid (Below w.heap.size w w4) := HBb.out.grown hg4 HBb.out.size (fun q e => ownBlock_le HOb.out e); clear ho4 hg4)
      go_ret
      exact ⟨rfl, HB4.out⟩
end Go.Proofs.YtfacfhigehdejaaGreatDoor

/-
  Proofs: what is told of fields: numbers, names, texts, digits, types. (The verifier's own text; mkws5.py.)
-/
namespace Go.Proofs.YtfacfhigehdejaaGreatDoor
set_option linter.unusedVariables false
set_option linter.unusedSimpArgs false
open Go.RowKit Go.Shelf Go.Proofs.YtfacfhigehdejaaGreatDoor.Nm

/-- a word as it is told -/
def tlV (z : Wz) : Value := .string (bts (shW z))
/-- how show ends -/
def ShE (w : World) (Z : List Wz) (r : Ending) (w' : World) : Prop := ∃ p c, r = .returned (.slice p Z.length c) ∧ w'.ownsRow w.heap.size 9 1 (.slice p Z.length c) Z.length (Z.map tlV) ∧ Below w.heap.size w w'
theorem she_one {w W : World} {z : Wz} {T : ByteArray} (hb : Below w.heap.size w W) (hT : bts (shW z) = T) : ShE w [z] (.returned (.slice (some ⟨W.heap.size, 0, none⟩) 1 1)) (W.alloc (.cells #[.string T] 9)) := by
  subst hT
  refine ⟨_, _, rfl, ⟨rfl, Or.inr ⟨W.heap.size, 1, _, rfl, hb.size, World.alloc_heap_new W _, Nat.le_refl _, by unfold maxLen; omega, rfl, rfl⟩⟩, hb.alloc hb.size _⟩
/-- strconv.Itoa of what isn't below nought -/
theorem itoa_any (n : Nat) (w : World) (hG : GW w) (hn : n ≤ 4294967295) : Calls Tryz.prog 27 #[.int .i64 (n : Int)] w fun e w' => e = .returned (.string (bts (dgN n))) ∧ Below w.heap.size w w' := by
  refine (Any.strconv_Itoa Tryz.laysM171 (n : Int) (by omega) (by omega) w hG.tab).mono ?_
  rintro e w3 ⟨rfl, k, os, rfl⟩
  refine ⟨?_, Lib.below_grow _ _ (Nat.le_refl _) _ _⟩
  rw [bts_dg]
  unfold Lib.itoa
  rw [if_neg (by omega), Int.toNat_natCast]
set_option maxRecDepth 100000 in
set_option maxHeartbeats 2000000 in
/-- a name -/
theorem showDom_any (b : ByteArray) (w : World) (hb : b.size ≤ maxLen) :
    Calls Tryz.prog 119 #[.agg #[], .string b] w (ShE w [⟨lsB (showB b), false⟩]) := by
  obtain ⟨wa, hwa⟩ : ∃ wa, w.alloc (.cells #[] 83) = wa := ⟨_, rfl⟩
  have HBa : Hid (Below w.heap.size w wa) := hwa ▸ (Below.refl _ w).alloc (Nat.le_refl _) _
  have HS := hide' (fun V => show_any b V hb)
  go_enter Tryz.func119, Tryz.ntmps119
  go_wp2_with (first
    | (go_at_call 122; refine (HS.out _).mono ?_; rintro e0 w2 ⟨rfl, hB0⟩; have HB0 := hide' (bstep HBa.out hB0 HBa.out.size); clear hB0))
  go_ret
  exact she_one HB0.out (bts_ls _)
set_option maxRecDepth 100000 in
set_option maxHeartbeats 2000000 in
/-- a text -/
theorem showText_any (b : ByteArray) (w : World) (hb : b.size ≤ 65535) (h1 : 1 ≤ b.size) :
    Calls Tryz.prog 131 #[.agg #[], .string b] w (ShE w [⟨qtL (lsB (b.extract 1 b.size)), true⟩]) := by
  obtain ⟨wa, hwa⟩ : ∃ wa, w.alloc (.cells #[] 86) = wa := ⟨_, rfl⟩
  have HBa : Hid (Below w.heap.size w wa) := hwa ▸ (Below.refl _ w).alloc (Nat.le_refl _) _
  have HS := hide' (fun V => quoted_any (b.extract 1 b.size) V (by rw [ByteArray.size_extract]; omega))
  have p1 : (1 : Int) ≤ (b.size : Int) := by omega
  obtain ⟨x, hx⟩ : ∃ x, b.extract 1 b.size = x := ⟨_, rfl⟩
  rw [hx] at HS ⊢
  clear h1
  go_enter Tryz.func131, Tryz.ntmps131
  go_wp2_with (first
    | (go_at_call 134; refine (HS.out _).mono ?_; rintro e0 w2 ⟨rfl, hB0⟩; have HB0 := hide' (bstep HBa.out hB0 HBa.out.size); clear hB0))
  go_ret
  exact she_one HB0.out rfl
set_option maxRecDepth 100000 in
set_option maxHeartbeats 2000000 in
/-- a tail -/
theorem showTail_any (b : ByteArray) (w : World) (hb : b.size ≤ 65535) :
    Calls Tryz.prog 212 #[.agg #[], .string b] w (ShE w [⟨qtL (lsB b), true⟩]) := by
  obtain ⟨wa, hwa⟩ : ∃ wa, w.alloc (.cells #[] 97) = wa := ⟨_, rfl⟩
  have HBa : Hid (Below w.heap.size w wa) := hwa ▸ (Below.refl _ w).alloc (Nat.le_refl _) _
  have HS := hide' (fun V => quoted_any b V hb)
  go_enter Tryz.func212, Tryz.ntmps212
  go_wp2_with (first
    | (go_at_call 134; refine (HS.out _).mono ?_; rintro e0 w2 ⟨rfl, hB0⟩; have HB0 := hide' (bstep HBa.out hB0 HBa.out.size); clear hB0))
  go_ret
  exact she_one HB0.out rfl
set_option maxRecDepth 100000 in
set_option maxHeartbeats 2000000 in
/-- hexadecimal digits -/
theorem showHex_any (b : ByteArray) (w : World) (hb : b.size ≤ 1048576) :
    Calls Tryz.prog 148 #[.agg #[], .string b] w (ShE w [⟨lsB (toWB 4 d16 b), false⟩]) := by
  obtain ⟨wa, hwa⟩ : ∃ wa, w.alloc (.cells #[] 91) = wa := ⟨_, rfl⟩
  have HBa : Hid (Below w.heap.size w wa) := hwa ▸ (Below.refl _ w).alloc (Nat.le_refl _) _
  have HS := hide' (fun V => toDigits4 b d16 V hb d16_size)
  unfold d16 at HS
  go_enter Tryz.func148, Tryz.ntmps148
  go_wp2_with (first
    | (go_at_call 150; refine (HS.out _).mono ?_; rintro e0 w2 ⟨rfl, hB0⟩; have HB0 := hide' (bstep HBa.out hB0 HBa.out.size); clear hB0))
  go_ret
  exact she_one HB0.out (bts_ls _)
set_option maxRecDepth 100000 in
set_option maxHeartbeats 2000000 in
/-- a hash -/
theorem showHash_any (b : ByteArray) (w : World) (hb : b.size ≤ 1048576) (h1 : 1 ≤ b.size) :
    Calls Tryz.prog 207 #[.agg #[], .string b] w (ShE w [⟨lsB (to32B (b.extract 1 b.size)), false⟩]) := by
  obtain ⟨wa, hwa⟩ : ∃ wa, w.alloc (.cells #[] 96) = wa := ⟨_, rfl⟩
  have HBa : Hid (Below w.heap.size w wa) := hwa ▸ (Below.refl _ w).alloc (Nat.le_refl _) _
  have HS := hide' (fun V => to32_any (b.extract 1 b.size) V (by rw [ByteArray.size_extract]; omega))
  have p1 : (1 : Int) ≤ (b.size : Int) := by omega
  obtain ⟨x, hx⟩ : ∃ x, b.extract 1 b.size = x := ⟨_, rfl⟩
  rw [hx] at HS ⊢
  clear h1
  go_enter Tryz.func207, Tryz.ntmps207
  go_wp2_with (first
    | (go_at_call 210; refine (HS.out _).mono ?_; rintro e0 w2 ⟨rfl, hB0⟩; have HB0 := hide' (bstep HBa.out hB0 HBa.out.size); clear hB0))
  go_ret
  exact she_one HB0.out (bts_ls _)
set_option maxRecDepth 100000 in
set_option maxHeartbeats 2000000 in
/-- a number -/
theorem showNum_any (b : ByteArray) (w : World) (n : Nat) (hb : b.size ≤ 4) (hG : GW w) :
    Calls Tryz.prog 96 #[.agg #[.int .i64 (n : Int)], .string b] w (ShE w [⟨dgN (vN b b.size), false⟩]) := by
  obtain ⟨wa, hwa⟩ : ∃ wa, w.alloc (.cells #[.int .i64 (n : Int)] 80) = wa := ⟨_, rfl⟩
  have HBa : Hid (Below w.heap.size w wa) := hwa ▸ (Below.refl _ w).alloc (Nat.le_refl _) _
  have HV := hide' (fun V => spellValue_any b V hb)
  have HI : Hid (∀ V, Below w.heap.size w V → Calls Tryz.prog 27 #[.int .i64 (vN b b.size : Int)] V fun e w' => e = .returned (.string (bts (dgN (vN b b.size)))) ∧ Below V.heap.size V w') := fun V hV => itoa_any _ V (hG.below hV) (by
    have h1 := vN_lt b b.size
    have h2 : 256 ^ b.size ≤ 256 ^ 4 := Nat.pow_le_pow_right (by omega) hb
    omega)
  generalize vN b b.size = u at *
  go_enter Tryz.func96, Tryz.ntmps96
  go_wp2_with (first
    | (go_at_call 99; refine (HV.out _).mono ?_; rintro e0 w2 ⟨rfl, hw0⟩; have hw0' := hw0.symm; subst hw0')
    | (go_at_call 27; refine (HI.out _ HBa.out).mono ?_; rintro e1 w3 ⟨rfl, hB1⟩; have HB1 := hide' (bstep HBa.out hB1 HBa.out.size); clear hB1))
  go_ret
  exact she_one HB1.out rfl
set_option maxRecDepth 100000 in
set_option maxHeartbeats 2000000 in
/-- a type -/
theorem showOne_any (b : ByteArray) (w : World) (hb : b.size ≤ 2) (hG : GW w) :
    Calls Tryz.prog 152 #[.agg #[], .string b] w (ShE w [⟨lsB (nameT (vN b b.size : Int)), false⟩]) := by
  obtain ⟨wa, hwa⟩ : ∃ wa, w.alloc (.cells #[] 92) = wa := ⟨_, rfl⟩
  have HBa : Hid (Below w.heap.size w wa) := hwa ▸ (Below.refl _ w).alloc (Nat.le_refl _) _
  have HV := hide' (fun V => spellValue_any b V (by omega))
  have HI : Hid (∀ V, Below w.heap.size w V → Calls Tryz.prog 10 #[.int .i64 (vN b b.size : Int)] V fun e w' => e = .returned (.string (nameT (vN b b.size : Int))) ∧ Below V.heap.size V w') := fun V hV => typeName_any _ V (hG.below hV) (by
    have h1 := vN_lt b b.size
    have h2 : 256 ^ b.size ≤ 256 ^ 4 := Nat.pow_le_pow_right (by omega) (by omega)
    omega)
  generalize vN b b.size = u at *
  go_enter Tryz.func152, Tryz.ntmps152
  go_wp2_with (first
    | (go_at_call 99; refine (HV.out _).mono ?_; rintro e0 w2 ⟨rfl, hw0⟩; have hw0' := hw0.symm; subst hw0')
    | (go_at_call 10; refine (HI.out _ HBa.out).mono ?_; rintro e1 w3 ⟨rfl, hB1⟩; have HB1 := hide' (bstep HBa.out hB1 HBa.out.size); clear hB1))
  go_ret
  exact she_one HB1.out (bts_ls _)
end Go.Proofs.YtfacfhigehdejaaGreatDoor
