import Derived.Test.YtmbjmokhkonpiaaGreatDoorWs1G
import Derived.Test.YtmbjmokhkonpiaaGreatDoorGr0G
import Derived.Test.YtmbjmokhkonpiaaGreatDoorShwG
import Derived.Test.YtmbjmokhkonpiaaGreatDoorMath13G
import Derived.Test.YtmbjmokhkonpiaaGreatDoorBt1G
import Derived.Test.YtmbjmokhkonpiaaGreatDoorTn1G
import Derived.Test.YtmbjmokhkonpiaaGreatDoorSk8
/-
  Proofs: data.quoted: bytes as a word in quotes. (The verifier's own text.)
-/
namespace Go.Proofs.YtmbjmokhkonpiaaGreatDoor
set_option linter.unusedVariables false
set_option linter.unusedSimpArgs false
open Go.RowKit Go.Shelf Go.Proofs.YtmbjmokhkonpiaaGreatDoor.Nm

/-- what is told of bytes in quotes -/
def quL (l : List Nat) : List Nat := 34 :: (qtL l ++ [34])
theorem quL_lt {l : List Nat} (h : ∀ x ∈ l, x < 256) : ∀ x ∈ quL l, x < 256 := fun x hx => by
  unfold quL at hx
  rcases List.mem_cons.1 hx with e | e
  · omega
  · rcases List.mem_append.1 e with e | e
    · exact qtL_lt h x e
    · have := List.mem_singleton.1 e; omega
theorem own_new8 (w : World) (x : Nat) (T : TypeId) (base : Nat) (hb : base ≤ w.heap.size) : (w.alloc (.cells #[.int .u8 (x : Int)] T)).ownsRow base T 1 (.slice (some ⟨w.heap.size, 0, none⟩) 1 1) 1 [.int .u8 (x : Int)] :=
  ⟨rfl, Or.inr ⟨w.heap.size, 1, _, rfl, hb, World.alloc_heap_new w _, Nat.le_refl _, by unfold maxLen; omega, rfl, rfl⟩⟩
set_option maxRecDepth 100000 in
set_option maxHeartbeats 4000000 in
/-- data.quoted -/
theorem quoted_any (b : ByteArray) (w : World) (hb : b.size ≤ 65535) :
    Calls Tryz.prog 117 #[.string b] w fun e w' => e = .returned (.string (bts (quL (lst b b.size)))) ∧ Below w.heap.size w w' := by
  obtain ⟨i0, hi, hz0, hz1, hz2⟩ := info_parts Tryz.infoByte
  obtain ⟨wa, hwa⟩ : ∃ wa, w.alloc (.cells #[.int .u8 34] 5) = wa := ⟨_, rfl⟩
  have HOa : Hid (wa.ownsRow w.heap.size 5 1 (.slice (some ⟨w.heap.size, 0, none⟩) 1 1) 1 [.int .u8 34]) := hwa ▸ own_new8 w 34 _ _ (Nat.le_refl _)
  have HBa : Hid (Below w.heap.size w wa) := hwa ▸ (Below.refl _ w).alloc (Nat.le_refl _) _
  obtain ⟨T, hT⟩ : ∃ T, bts (quL (lst b b.size)) = T := ⟨_, rfl⟩
  have HT := hide' hT
  rw [hT]
  clear hT
  go_enter Tryz.func117, Tryz.ntmps117
  go_wp2_with fail
  go_loopw [3, 8] (fun sv iv wr => ∃ (k g c : Nat), iv = .int .i64 (k : Int) ∧ sv = .slice (some ⟨g, 0, none⟩) (34 :: qtL (lst b k)).length c ∧ k ≤ b.size ∧ Hid (wr.ownsRow w.heap.size 5 1 (.slice (some ⟨g, 0, none⟩) (34 :: qtL (lst b k)).length c) (34 :: qtL (lst b k)).length (byts (34 :: qtL (lst b k)))) ∧ Hid (Below w.heap.size w wr)) (fun _ iv _ => b.size - (intOf iv).toNat)
  case atStart => exact ⟨0, w.heap.size, 1, rfl, rfl, Nat.zero_le _, HOa, HBa⟩
  case round =>
    clear HOa HBa hwa
    obtain ⟨k, g, c, rfl, rfl, hk, HO, HB⟩ := hrel
    by_cases hlt : k < b.size
    · obtain ⟨y, hy, HY, hyl⟩ := bt_wrap hlt
      have hln : (34 :: qtL (lst b k)).length ≤ 1048576 := by
        have := (qtL_len (lst b k)).2
        rw [lst_len] at this
        rw [List.length_cons]
        omega
      have HA := hide' (append_any (.slice (some ⟨g, 0, none⟩) (34 :: qtL (lst b k)).length c) (34 :: qtL (lst b k)).length w.heap.size y 32 mk2 (byts (34 :: qtL (lst b k))) wr HO.out hyl (by decide) hln HB.out.size)
      have HE : Hid (34 :: qtL (lst b (k + 1)) = (34 :: qtL (lst b k)) ++ shG 32 mk2 y) := by
        unfold Hid
        rw [lst_succ, qtL_snoc, HY]
        rfl
      have pk : (k : Int) < (b.size : Int) := by omega
      have HPs : Hid (0 < (34 :: qtL (lst b k)).length + (shG 32 mk2 y).length) := by unfold Hid; rw [List.length_cons]; omega
      obtain ⟨A, hA⟩ : ∃ A, 34 :: qtL (lst b k) = A := ⟨_, rfl⟩
      rw [hA] at HA HE HO HPs
      simp only [hA] at *
      clear HY hln hA
      rw [show ((32 : Nat) : Int) = 32 from rfl, show mk2 = ⟨#[34, 92]⟩ from rfl] at HA
      have HM : Hid (mk2 = ⟨#[34, 92]⟩) := rfl
      rw [show mk2 = ⟨#[34, 92]⟩ from rfl] at HPs HE
      go_wp2_with (go_at_call 29; refine HA.out.mono ?_; rintro e w2 ⟨v2, rfl, ho2, hB2, -⟩; obtain ⟨g2, c2, hv2⟩ := owns_some ho2 HPs.out; subst hv2; have HO2 := hide' ho2; have HB2 : Hid (Below w.heap.size w w2) := HB.out.trans hB2; clear ho2 hB2)
      refine ⟨⟨k + 1, g2, c2, by go_num, ?_, by omega, ?_, HB2⟩, by simp [intOf]; omega⟩
      · rw [HE.out, List.length_append]
      · rw [HE.out, List.length_append]
        have e : byts (A ++ shG 32 ⟨#[34, 92]⟩ y) = byts A ++ (shG 32 ⟨#[34, 92]⟩ y).map (fun x : Nat => Value.int .u8 (x : Int)) := List.map_append
        rw [e]
        exact HO2.out
    · obtain rfl : k = b.size := by omega
      have pk : ¬ (b.size : Int) < (b.size : Int) := by omega
      have hln : (34 :: qtL (lst b b.size)).length ≤ 1048576 := by
        have := (qtL_len (lst b b.size)).2
        rw [lst_len] at this
        rw [List.length_cons]
        omega
      have HQ : Hid (quL (lst b b.size) = (34 :: qtL (lst b b.size)) ++ [34]) := rfl
      have HLt : Hid (∀ x ∈ quL (lst b b.size), x < 256) := quL_lt (lst_lt b _)
      obtain ⟨A, hA⟩ : ∃ A, 34 :: qtL (lst b b.size) = A := ⟨_, rfl⟩
      rw [hA] at HQ HO
      simp only [hA] at *
      clear hA
      obtain ⟨wb, hwb⟩ : ∃ wb, wr.alloc (.cells #[.int .u8 34] 5) = wb := ⟨_, rfl⟩
      have HOb : Hid (wb.ownsRow w.heap.size 5 1 (.slice (some ⟨g, 0, none⟩) A.length c) A.length (byts A)) := hwb ▸ HO.out.alloc _
      have HBb : Hid (Below w.heap.size w wb) := hwb ▸ HB.out.alloc HB.out.size _
      have HCb : Hid (∀ j u, [Value.int .u8 34][j]? = some u → wb.cell? ((⟨wr.heap.size, 0, none⟩ : Addr).add j) = some u) := hwb ▸ cell_one_new _ _ _
      have HCv : Hid (∀ (W : World) (g4 c4 : Nat), W.ownsRow w.heap.size 5 1 (.slice (some ⟨g4, 0, none⟩) (A.length + 1) c4) (A.length + 1) (byts A ++ [.int .u8 34]) → (convert 34 9 (.slice (some ⟨g4, 0, none⟩) (A.length + 1) c4)).run Tryz.prog W = .ok (.string T) W) := fun W g4 c4 hW => by
        have hz : T.size = A.length + 1 := by rw [← HT.out, bts_size, HQ.out, List.length_append]; rfl
        have h := owns_str (t := T) (w := W) (base := w.heap.size) (g := g4) (cap := c4) (by
          have e1 : Go.Lib.strCells T = byts A ++ [.int .u8 34] := by
            rw [← HT.out, bts_cells _ HLt.out, HQ.out, List.map_append]
            rfl
          rw [hz, e1]
          exact hW)
        rw [hz] at h
        exact h
      go_wp2_with (at_builtin; refine wpList_append_own _ rfl _ _ 34 rfl w.heap.size 5 i0 (.int .u8 0) 1 1 Tryz.underlying34 hi hz0 hz1 hz2 rfl (by decide) _ A.length (byts A) ?_ HOb.out ⟨wr.heap.size, 0, none⟩ 1 1 [.int .u8 34] ?_ rfl HCb.out (by simp [Value.oneCell']) (by unfold maxLen; omega) (by omega) HBb.out.size ?_; rfl; rfl; intro v4 w4 ho4 hg4 _; obtain ⟨g4, c4, hv4⟩ := owns_some ho4 (by omega); subst hv4; have hcv := HCv.out w4 g4 c4 ho4; have HB4 : Hid (Below w.heap.size w w4) := HBb.out.grown hg4 HBb.out.size (fun q e => ownBlock_le HOb.out e); clear ho4 hg4)
      go_ret
      exact ⟨rfl, HB4.out⟩
end Go.Proofs.YtmbjmokhkonpiaaGreatDoor

/-
  Proofs: data.toDigits and fromDigits of 4 bits. (The verifier's own text; mkdh.py writes it out of Dg1 and Dg2.)
-/
namespace Go.Proofs.YtmbjmokhkonpiaaGreatDoor
set_option linter.unusedVariables false
open Go.RowKit Go.Shelf Go.Proofs.YtmbjmokhkonpiaaGreatDoor.Nm

theorem split_lt4 {H L n : Nat} (h1 : H < 2 ^ 4) (h2 : L < 2 ^ n) (h3 : 2 ^ n ≤ 2 ^ 7) : H * 2 ^ n + L < 2048 := by
  have : H * 2 ^ n ≤ 15 * 2 ^ n := Nat.mul_le_mul_right _ (by omega)
  omega
set_option maxRecDepth 100000 in
set_option maxHeartbeats 1000000 in
/-- data.toDigits, 4 bits -/
theorem toDigits4 (b d : ByteArray) (w : World) (hb : b.size ≤ 1048576) (hd : d.size = 16) :
    Calls Tryz.prog 129 #[.string b, .string d] w fun e w' => e = .returned (.string (bts ((codeP 4 (bitsL 8 (lst b b.size))).map (bt d)))) ∧ Below w.heap.size w w' := by
  obtain ⟨i0, hi, hz0, hz1, hz2⟩ := info_parts Tryz.infoByte
  have HD : Hid (DigOk d 4) := ⟨hd, .inl rfl⟩
  go_enter Tryz.func129, Tryz.ntmps129
  go_wp2_with (first
    | (go_at_call 130; refine (bitsOf_any d 4 _ HD.out).mono ?_; rintro e w1 ⟨rfl, rfl⟩)
    | (at_make; refine wpList_make_own _ rfl _ _ 34 rfl w1.heap.size 5 i0 (.int .u8 0) 1 Tryz.underlying34 hi hz0 hz1 .i64 .i64 _ (b.size * 8 / 4 + 1) rfl rfl (by omega) (by rw [hz2]; omega) (by unfold maxLen; omega) (Nat.le_refl _) ?_; intro w0 hown0 hgrow0))
  have hB0 : Below w1.heap.size w1 w0 := (Below.refl _ _).grown hgrow0 (Nat.le_refl _) (fun q hq => by cases hq)
  go_loopw [6, 7, 8, 21] (fun tv rv hv iv wr => ∃ (k : Nat) (acc rem : List Nat), iv = .int .i64 k ∧ rv = .int .i64 (val rem : Nat) ∧ hv = .int .i64 (rem.length : Nat) ∧ k ≤ b.size ∧ rem.length < 4 ∧ Hid (Bin rem) ∧ acc.length * 4 + rem.length = 8 * k ∧ Hid (∀ v ∈ acc, v < 16) ∧
      Hid (codeP 4 (bitsL 8 (lst b b.size)) = acc ++ codeP 4 (rem ++ bitsL 8 ((lst b b.size).drop k))) ∧ wr.ownsRow w1.heap.size 5 1 tv acc.length (byts (acc.map (bt d))) ∧ (∃ g c, tv = .slice (some ⟨g, 0, none⟩) acc.length c) ∧ Below w1.heap.size w1 wr)
    (fun _ _ _ iv _ => b.size - (intOf iv).toNat)
  case atStart => exact ⟨0, [], [], rfl, rfl, rfl, Nat.zero_le _, by simp, (fun x hx => by cases hx), by simp, (fun x hx => by cases hx), by simp [Hid], by simpa [byts] using hown0, ⟨_, _, rfl⟩, hB0⟩
  case round =>
    obtain ⟨k, acc, rem, rfl, rfl, rfl, hk, hrl, HBin, hal, HA32, HC, hown, ⟨gs, cs, rfl⟩, hBr⟩ := hrel
    have hvl : val rem < 16 := by
      have h1 := val_lt HBin.out
      have h2 : 2 ^ rem.length ≤ 2 ^ 4 := Nat.pow_le_pow_right (by omega) (by omega)
      omega
    by_cases hlt : k < b.size
    · obtain ⟨y, hy, HY, hyl⟩ := bt_wrap hlt
      have hor : bits .or .i64 ((val rem : Int) * 256) (y : Int) = ((val (rem ++ bitsW 8 y) : Nat) : Int) := by
        have := or_shl 8 (val rem) y (by omega) (by omega) (by omega)
        rw [val_append, bitsW_len, val_bitsW 8 y (by omega)]
        simpa using this
      have HC2 : Hid (codeP 4 (bitsL 8 (lst b b.size)) = acc ++ codeP 4 ((rem ++ bitsW 8 y) ++ bitsL 8 ((lst b b.size).drop (k + 1)))) := by
        have := HC.out
        rw [lst_drop hlt, HY] at this
        unfold Hid; rw [this, List.append_assoc]; rfl
      have HB2 : Hid (Bin (rem ++ bitsW 8 y)) := HBin.out.append (bitsW_bin 8 y)
      have hrl2 : (rem ++ bitsW 8 y).length = rem.length + 8 := by rw [List.length_append, bitsW_len]
      clear HY
      go_wp2_with fail
      rw [show ((rem.length : Int) + 8) = (((rem ++ bitsW 8 y).length : Nat) : Int) by rw [hrl2]; simp]
      have hR1 : (rem ++ bitsW 8 y).length ≤ 11 := by omega
      have hE1 : acc.length * 4 + (rem ++ bitsW 8 y).length = 8 * (k + 1) := by omega
      generalize rem ++ bitsW 8 y = rem1 at *
      obtain ⟨wo, rfl⟩ : ∃ wo, wo = wr := ⟨_, rfl⟩
      clear hor hrl hrl2 hvl HC HBin hal
      go_loopw [6, 7, 8] (fun tv rv hv wr => ∃ (acc rem : List Nat), rv = .int .i64 (val rem : Nat) ∧ hv = .int .i64 (rem.length : Nat) ∧ rem.length ≤ 11 ∧ Hid (Bin rem) ∧ acc.length * 4 + rem.length = 8 * (k + 1) ∧ Hid (∀ v ∈ acc, v < 16) ∧
          Hid (codeP 4 (bitsL 8 (lst b b.size)) = acc ++ codeP 4 (rem ++ bitsL 8 ((lst b b.size).drop (k + 1)))) ∧ wr.ownsRow w1.heap.size 5 1 tv acc.length (byts (acc.map (bt d))) ∧ (∃ g c, tv = .slice (some ⟨g, 0, none⟩) acc.length c) ∧ Below w1.heap.size w1 wr)
        (fun _ _ hv _ => (intOf hv).toNat)
      case atStart => exact ⟨acc, rem1, rfl, rfl, hR1, HB2, hE1, HA32, HC2, hown, ⟨_, _, rfl⟩, hBr⟩
      case round =>
        clear hown HC2 HA32 hE1 HB2 hR1
        obtain ⟨acc, rem, rfl, rfl, hrl, HBin, hal, HA32, HC, hown, ⟨gq, cq, rfl⟩, hBq⟩ := hrel
        by_cases h5 : 4 ≤ rem.length
        · have hspl := List.take_append_drop 4 rem
          have hl5 : (rem.take 4).length = 4 := by rw [List.length_take]; omega
          obtain ⟨hh, hhd⟩ : ∃ hh, rem.take 4 = hh := ⟨_, rfl⟩
          obtain ⟨tl, htl⟩ : ∃ tl, rem.drop 4 = tl := ⟨_, rfl⟩
          rw [hhd, htl] at hspl
          rw [hhd] at hl5
          subst hspl
          clear hhd htl
          have hlen : (hh ++ tl).length = 4 + tl.length := by rw [List.length_append, hl5]
          have hlenI : (((hh ++ tl).length : Nat) : Int) = (tl.length : Int) + 4 := by rw [hlen]; omega
          have hb1 := val_lt (HBin.out).left
          have hb2 := val_lt (HBin.out).right
          rw [hl5] at hb1
          have hp1 : 0 < 2 ^ tl.length := Nat.two_pow_pos _
          have hp2 : 2 ^ tl.length ≤ 2 ^ 7 := Nat.pow_le_pow_right (by omega) (by omega)
          have hvd : val hh < d.size := by omega
          obtain ⟨y2, hy2, HY2, hy2l⟩ := bt_wrap hvd
          have hshr : ((val (hh ++ tl) : Nat) : Int) / 2 ^ tl.length = ((val hh : Nat) : Int) := by
            rw [val_append]; exact shr_split _ _ _ hb2
          have hand : bits .and .i64 ((val (hh ++ tl) : Nat) : Int) ((2 : Int) ^ tl.length - 1) = ((val tl : Nat) : Int) := by
            rw [val_append]; exact and_split _ _ _ hb2 (by omega) (by omega)
          have hq1 : (1 : Int) ≤ 2 ^ tl.length := by have : ((2 ^ tl.length : Nat) : Int) = (2 : Int) ^ tl.length := by simp
                                                     omega
          have hq2 : (2 : Int) ^ tl.length ≤ 128 := by have : ((2 ^ tl.length : Nat) : Int) = (2 : Int) ^ tl.length := by simp
                                                       omega
          rw [hlenI]
          have HC3 : Hid (codeP 4 (bitsL 8 (lst b b.size)) = (acc ++ [val hh]) ++ codeP 4 (tl ++ bitsL 8 ((lst b b.size).drop (k + 1)))) := by
            unfold Hid; rw [HC.out, List.append_assoc, List.append_assoc, codeP_full (by omega) hh _ hl5]; rfl
          have HA3 : Hid (∀ v ∈ acc ++ [val hh], v < 16) := fun v hv => by
            rcases List.mem_append.1 hv with h | h
            · exact HA32.out v h
            · simp at h; omega
          have HB3 : Hid (Bin tl) := (HBin.out).right
          have hvv : val (hh ++ tl) < 2048 := by rw [val_append]; exact split_lt4 hb1 hb2 hp2
          have ht7 : tl.length ≤ 7 := by omega
          have hal2 : (acc ++ [val hh]).length * 4 + tl.length = 8 * (k + 1) := by rw [hlen] at hal; simp; omega
          clear h5 hrl hlenI hb1 hb2 hp1 hp2 hlen hl5 HC HA32 HBin
          generalize val (hh ++ tl) = V at *
          go_wp2_with (at_builtin; refine wpList_append_own _ rfl _ _ 34 rfl w1.heap.size 5 i0 (.int .u8 0) 1 1 Tryz.underlying34 hi hz0 hz1 hz2 rfl (by decide) _ _ _ rfl (hown.alloc _) ⟨wr.heap.size, 0, none⟩ 1 1 [.int .u8 (y2 : Int)] rfl rfl (cell_one_new _ _ _) (by simp [Value.oneCell']) (by unfold maxLen; omega) (by omega) (by have := hBq.size; simp; omega) ?_; intro v4 w4 hown4 hgrow4 _; obtain ⟨g4, c4, rfl⟩ := owns_some hown4 (by omega))
          refine ⟨⟨acc ++ [val hh], tl, rfl, rfl, by omega, HB3, hal2, HA3, HC3, ?_, ⟨g4, c4, by rw [List.length_append]; rfl⟩, below_app hBq (Nat.le_refl _) hown hgrow4⟩, ?_⟩
          · have e : byts ((acc ++ [val hh]).map (bt d)) = byts (acc.map (bt d)) ++ [.int .u8 (y2 : Int)] := by simp [byts, HY2]
            rw [e, List.length_append]; exact hown4
          · simp [intOf]; omega
        · have hlt5 : rem.length < 4 := by omega
          go_wp2
          refine ⟨⟨k + 1, acc, rem, by go_num, rfl, rfl, hlt, hlt5, HBin, hal, HA32, HC, hown, ⟨_, _, rfl⟩, hBq⟩, ?_⟩
          simp [intOf]; omega
    · have hkb : k = b.size := by omega
      subst hkb
      have HC2 : Hid (codeP 4 (bitsL 8 (lst b b.size)) = acc ++ codeP 4 rem) := by
        have := HC.out
        rw [List.drop_of_length_le (by rw [lst_len]; exact Nat.le_refl _)] at this
        unfold Hid; rw [this]; simp [bitsL]
      have hcvt : ∀ (xs : List Nat) (g c : Nat) (W : World), W.ownsRow w1.heap.size 5 1 (.slice (some ⟨g, 0, none⟩) xs.length c) xs.length (byts (xs.map (bt d))) → (convert 34 9 (.slice (some ⟨g, 0, none⟩) xs.length c)).run Tryz.prog W = .ok (.string (bts (xs.map (bt d)))) W := by
        intro xs g c W hW
        have hz : (bts (xs.map (bt d))).size = xs.length := by rw [bts_size, List.length_map]
        have h := owns_str (t := bts (xs.map (bt d))) (w := W) (base := w1.heap.size) (g := g) (cap := c) (by rw [hz, bts_cells _ (fun x hx => by obtain ⟨i, _, rfl⟩ := List.mem_map.1 hx; exact bt_lt _ _)]; exact hW)
        rw [hz] at h; exact h
      have HCV := hide' hcvt
      clear hcvt
      by_cases hr0 : rem.length = 0
      · have hnil : rem = [] := List.length_eq_zero_iff.1 hr0
        subst hnil
        have HE : Hid (bts ((codeP 4 (bitsL 8 (lst b b.size))).map (bt d)) = bts (acc.map (bt d))) := by unfold Hid; rw [HC2.out, codeP_nil, List.append_nil]
        have hcv := HCV.out acc gs cs _ hown
        clear HC hr0 hvl hrl hal
        go_wp2
        go_ret
        exact ⟨by rw [HE.out]; rfl, hBr⟩
      · have hne : rem ≠ [] := fun e => hr0 (by rw [e]; rfl)
        have hcl := codeP_last (w := 4) hne (by omega)
        obtain ⟨V, hV⟩ : ∃ V, val rem * 2 ^ (4 - rem.length) = V := ⟨_, rfl⟩
        have hV32 : V < 16 := by
          rw [← hV]
          have h1 := val_lt HBin.out
          have h2 : 2 ^ rem.length * 2 ^ (4 - rem.length) = 2 ^ 4 := by rw [← Nat.pow_add]; congr 1; omega
          have h3 : val rem * 2 ^ (4 - rem.length) < 2 ^ rem.length * 2 ^ (4 - rem.length) := Nat.mul_lt_mul_of_pos_right h1 (Nat.two_pow_pos _)
          omega
        have hvd : V < d.size := by omega
        obtain ⟨y2, hy2, HY2, hy2l⟩ := bt_wrap hvd
        rw [hV] at hcl
        have HE : Hid (bts ((codeP 4 (bitsL 8 (lst b b.size))).map (bt d)) = bts ((acc ++ [V]).map (bt d))) := by unfold Hid; rw [HC2.out, hcl]
        have hVI : ((val rem : Nat) : Int) * 2 ^ (4 - rem.length) = ((V : Nat) : Int) := by rw [← hV]; simp
        have hcase : rem.length = 1 ∨ rem.length = 2 ∨ rem.length = 3 := by omega
        have hal' : acc.length ≤ 2 * b.size := by omega
        clear HC hr0 hne hcl hV hal
        rcases hcase with h | h | h
        all_goals
          rw [h] at hVI
          rw [h]
          simp at hVI
          clear h hrl HC2 HBin
          generalize val rem = R at *
          go_wp2_with (at_builtin; refine wpList_append_own _ rfl _ _ 34 rfl w1.heap.size 5 i0 (.int .u8 0) 1 1 Tryz.underlying34 hi hz0 hz1 hz2 rfl (by decide) _ _ _ rfl (hown.alloc _) ⟨wr.heap.size, 0, none⟩ 1 1 [.int .u8 (y2 : Int)] rfl rfl (cell_one_new _ _ _) (by simp [Value.oneCell']) (by unfold maxLen; omega) (by omega) (by have := hBr.size; simp; omega) ?_; intro v4 w4 hown4 hgrow4 _; obtain ⟨g4, c4, rfl⟩ := owns_some hown4 (by omega); have hown5 : w4.ownsRow w1.heap.size 5 1 (.slice (some ⟨g4, 0, none⟩) (acc ++ [V]).length c4) (acc ++ [V]).length (byts ((acc ++ [V]).map (bt d))) := (by simpa [byts, HY2] using hown4); have hcv := HCV.out (acc ++ [V]) g4 c4 _ hown5; rw [List.length_append, List.length_singleton] at hcv)
          go_ret
          exact ⟨by rw [HE.out, List.map_append, List.map_singleton, HY2]; rfl, below_app hBr (Nat.le_refl _) hown hgrow4⟩
end Go.Proofs.YtmbjmokhkonpiaaGreatDoor

/-
  Proofs: what is told of fields: numbers, names, texts, digits, types. (The verifier's own text; mkws5.py.)
-/
namespace Go.Proofs.YtmbjmokhkonpiaaGreatDoor
set_option linter.unusedVariables false
set_option linter.unusedSimpArgs false
open Go.RowKit Go.Shelf Go.Proofs.YtmbjmokhkonpiaaGreatDoor.Nm

/-- a word as it is told -/
def tlV (z : Wz) : Value := .string (bts (shW z))
/-- how show ends -/
def ShE (w : World) (Z : List Wz) (r : Ending) (w' : World) : Prop := ∃ p c, r = .returned (.slice p Z.length c) ∧ w'.ownsRow w.heap.size 9 1 (.slice p Z.length c) Z.length (Z.map tlV) ∧ Below w.heap.size w w'
theorem she_one {w W : World} {z : Wz} {T : ByteArray} (hb : Below w.heap.size w W) (hT : bts (shW z) = T) : ShE w [z] (.returned (.slice (some ⟨W.heap.size, 0, none⟩) 1 1)) (W.alloc (.cells #[.string T] 9)) := by
  subst hT
  refine ⟨_, _, rfl, ⟨rfl, Or.inr ⟨W.heap.size, 1, _, rfl, hb.size, World.alloc_heap_new W _, Nat.le_refl _, by unfold maxLen; omega, rfl, rfl⟩⟩, hb.alloc hb.size _⟩
/-- strconv.Itoa of what isn't below nought -/
theorem itoa_any (n : Nat) (w : World) (hG : GW w) (hn : n ≤ 4294967295) : Calls Tryz.prog 15 #[.int .i64 (n : Int)] w fun e w' => e = .returned (.string (bts (dgN n))) ∧ Below w.heap.size w w' := by
  refine (Any.strconv_Itoa Tryz.laysM171 (n : Int) (by omega) (by omega) w hG.tab).mono ?_
  rintro e w3 ⟨rfl, k, os, rfl⟩
  refine ⟨?_, Lib.below_grow _ _ (Nat.le_refl _) _ _⟩
  rw [bts_dg]
  unfold Lib.itoa
  rw [if_neg (by omega), Int.toNat_natCast]
set_option maxRecDepth 100000 in
set_option maxHeartbeats 2000000 in
/-- a name -/
theorem showDom_any (b : ByteArray) (w : World) (hb : b.size ≤ maxLen) :
    Calls Tryz.prog 112 #[.agg #[], .string b] w (ShE w [⟨lsB (showB b), false⟩]) := by
  obtain ⟨wa, hwa⟩ : ∃ wa, w.alloc (.cells #[] 98) = wa := ⟨_, rfl⟩
  have HBa : Hid (Below w.heap.size w wa) := hwa ▸ (Below.refl _ w).alloc (Nat.le_refl _) _
  have HS := hide' (fun V => show_any b V hb)
  go_enter Tryz.func112, Tryz.ntmps112
  go_wp2_with (first
    | (go_at_call 11; refine (HS.out _).mono ?_; rintro e0 w2 ⟨rfl, hB0⟩; have HB0 := hide' (bstep HBa.out hB0 HBa.out.size); clear hB0))
  go_ret
  exact she_one HB0.out (bts_ls _)
set_option maxRecDepth 100000 in
set_option maxHeartbeats 2000000 in
/-- a text -/
theorem showText_any (b : ByteArray) (w : World) (hb : b.size ≤ 65535) (h1 : 1 ≤ b.size) :
    Calls Tryz.prog 116 #[.agg #[], .string b] w (ShE w [⟨qtL (lsB (b.extract 1 b.size)), true⟩]) := by
  obtain ⟨wa, hwa⟩ : ∃ wa, w.alloc (.cells #[] 101) = wa := ⟨_, rfl⟩
  have HBa : Hid (Below w.heap.size w wa) := hwa ▸ (Below.refl _ w).alloc (Nat.le_refl _) _
  have HS := hide' (fun V => quoted_any (b.extract 1 b.size) V (by rw [ByteArray.size_extract]; omega))
  have p1 : (1 : Int) ≤ (b.size : Int) := by omega
  obtain ⟨x, hx⟩ : ∃ x, b.extract 1 b.size = x := ⟨_, rfl⟩
  rw [hx] at HS ⊢
  clear h1
  go_enter Tryz.func116, Tryz.ntmps116
  go_wp2_with (first
    | (go_at_call 117; refine (HS.out _).mono ?_; rintro e0 w2 ⟨rfl, hB0⟩; have HB0 := hide' (bstep HBa.out hB0 HBa.out.size); clear hB0))
  go_ret
  exact she_one HB0.out rfl
set_option maxRecDepth 100000 in
set_option maxHeartbeats 2000000 in
/-- a tail -/
theorem showTail_any (b : ByteArray) (w : World) (hb : b.size ≤ 65535) :
    Calls Tryz.prog 158 #[.agg #[], .string b] w (ShE w [⟨qtL (lsB b), true⟩]) := by
  obtain ⟨wa, hwa⟩ : ∃ wa, w.alloc (.cells #[] 112) = wa := ⟨_, rfl⟩
  have HBa : Hid (Below w.heap.size w wa) := hwa ▸ (Below.refl _ w).alloc (Nat.le_refl _) _
  have HS := hide' (fun V => quoted_any b V hb)
  go_enter Tryz.func158, Tryz.ntmps158
  go_wp2_with (first
    | (go_at_call 117; refine (HS.out _).mono ?_; rintro e0 w2 ⟨rfl, hB0⟩; have HB0 := hide' (bstep HBa.out hB0 HBa.out.size); clear hB0))
  go_ret
  exact she_one HB0.out rfl
set_option maxRecDepth 100000 in
set_option maxHeartbeats 2000000 in
/-- hexadecimal digits -/
theorem showHex_any (b : ByteArray) (w : World) (hb : b.size ≤ 1048576) :
    Calls Tryz.prog 128 #[.agg #[], .string b] w (ShE w [⟨lsB (toWB 4 d16 b), false⟩]) := by
  obtain ⟨wa, hwa⟩ : ∃ wa, w.alloc (.cells #[] 106) = wa := ⟨_, rfl⟩
  have HBa : Hid (Below w.heap.size w wa) := hwa ▸ (Below.refl _ w).alloc (Nat.le_refl _) _
  have HS := hide' (fun V => toDigits4 b d16 V hb d16_size)
  unfold d16 at HS
  go_enter Tryz.func128, Tryz.ntmps128
  go_wp2_with (first
    | (go_at_call 129; refine (HS.out _).mono ?_; rintro e0 w2 ⟨rfl, hB0⟩; have HB0 := hide' (bstep HBa.out hB0 HBa.out.size); clear hB0))
  go_ret
  exact she_one HB0.out (bts_ls _)
set_option maxRecDepth 100000 in
set_option maxHeartbeats 2000000 in
/-- a hash -/
theorem showHash_any (b : ByteArray) (w : World) (hb : b.size ≤ 1048576) (h1 : 1 ≤ b.size) :
    Calls Tryz.prog 154 #[.agg #[], .string b] w (ShE w [⟨lsB (to32B (b.extract 1 b.size)), false⟩]) := by
  obtain ⟨wa, hwa⟩ : ∃ wa, w.alloc (.cells #[] 111) = wa := ⟨_, rfl⟩
  have HBa : Hid (Below w.heap.size w wa) := hwa ▸ (Below.refl _ w).alloc (Nat.le_refl _) _
  have HS := hide' (fun V => to32_any (b.extract 1 b.size) V (by rw [ByteArray.size_extract]; omega))
  have p1 : (1 : Int) ≤ (b.size : Int) := by omega
  obtain ⟨x, hx⟩ : ∃ x, b.extract 1 b.size = x := ⟨_, rfl⟩
  rw [hx] at HS ⊢
  clear h1
  go_enter Tryz.func154, Tryz.ntmps154
  go_wp2_with (first
    | (go_at_call 156; refine (HS.out _).mono ?_; rintro e0 w2 ⟨rfl, hB0⟩; have HB0 := hide' (bstep HBa.out hB0 HBa.out.size); clear hB0))
  go_ret
  exact she_one HB0.out (bts_ls _)
set_option maxRecDepth 100000 in
set_option maxHeartbeats 2000000 in
/-- a number -/
theorem showNum_any (b : ByteArray) (w : World) (n : Nat) (hb : b.size ≤ 4) (hG : GW w) :
    Calls Tryz.prog 104 #[.agg #[.int .i64 (n : Int)], .string b] w (ShE w [⟨dgN (vN b b.size), false⟩]) := by
  obtain ⟨wa, hwa⟩ : ∃ wa, w.alloc (.cells #[.int .i64 (n : Int)] 95) = wa := ⟨_, rfl⟩
  have HBa : Hid (Below w.heap.size w wa) := hwa ▸ (Below.refl _ w).alloc (Nat.le_refl _) _
  have HV := hide' (fun V => spellValue_any b V hb)
  have HI : Hid (∀ V, Below w.heap.size w V → Calls Tryz.prog 15 #[.int .i64 (vN b b.size : Int)] V fun e w' => e = .returned (.string (bts (dgN (vN b b.size)))) ∧ Below V.heap.size V w') := fun V hV => itoa_any _ V (hG.below hV) (by
    have h1 := vN_lt b b.size
    have h2 : 256 ^ b.size ≤ 256 ^ 4 := Nat.pow_le_pow_right (by omega) hb
    omega)
  generalize vN b b.size = u at *
  go_enter Tryz.func104, Tryz.ntmps104
  go_wp2_with (first
    | (go_at_call 106; refine (HV.out _).mono ?_; rintro e0 w2 ⟨rfl, hw0⟩; have hw0' := hw0.symm; subst hw0')
    | (go_at_call 15; refine (HI.out _ HBa.out).mono ?_; rintro e1 w3 ⟨rfl, hB1⟩; have HB1 := hide' (bstep HBa.out hB1 HBa.out.size); clear hB1))
  go_ret
  exact she_one HB1.out rfl
set_option maxRecDepth 100000 in
set_option maxHeartbeats 2000000 in
/-- a type -/
theorem showOne_any (b : ByteArray) (w : World) (hb : b.size ≤ 2) (hG : GW w) :
    Calls Tryz.prog 134 #[.agg #[], .string b] w (ShE w [⟨lsB (nameT (vN b b.size : Int)), false⟩]) := by
  obtain ⟨wa, hwa⟩ : ∃ wa, w.alloc (.cells #[] 107) = wa := ⟨_, rfl⟩
  have HBa : Hid (Below w.heap.size w wa) := hwa ▸ (Below.refl _ w).alloc (Nat.le_refl _) _
  have HV := hide' (fun V => spellValue_any b V (by omega))
  have HI : Hid (∀ V, Below w.heap.size w V → Calls Tryz.prog 16 #[.int .i64 (vN b b.size : Int)] V fun e w' => e = .returned (.string (nameT (vN b b.size : Int))) ∧ Below V.heap.size V w') := fun V hV => typeName_any _ V (hG.below hV) (by
    have h1 := vN_lt b b.size
    have h2 : 256 ^ b.size ≤ 256 ^ 4 := Nat.pow_le_pow_right (by omega) (by omega)
    omega)
  generalize vN b b.size = u at *
  go_enter Tryz.func134, Tryz.ntmps134
  go_wp2_with (first
    | (go_at_call 106; refine (HV.out _).mono ?_; rintro e0 w2 ⟨rfl, hw0⟩; have hw0' := hw0.symm; subst hw0')
    | (go_at_call 16; refine (HI.out _ HBa.out).mono ?_; rintro e1 w3 ⟨rfl, hB1⟩; have HB1 := hide' (bstep HBa.out hB1 HBa.out.size); clear hB1))
  go_ret
  exact she_one HB1.out (bts_ls _)
end Go.Proofs.YtmbjmokhkonpiaaGreatDoor

/-
  Proofs: data.toDigits and fromDigits of 6 bits. (The verifier's own text; mkdh.py writes it out of Dg1 and Dg2.)
-/
namespace Go.Proofs.YtmbjmokhkonpiaaGreatDoor
set_option linter.unusedVariables false
open Go.RowKit Go.Shelf Go.Proofs.YtmbjmokhkonpiaaGreatDoor.Nm

theorem split_lt6 {H L n : Nat} (h1 : H < 2 ^ 6) (h2 : L < 2 ^ n) (h3 : 2 ^ n ≤ 2 ^ 7) : H * 2 ^ n + L < 8192 := by
  have : H * 2 ^ n ≤ 63 * 2 ^ n := Nat.mul_le_mul_right _ (by omega)
  omega
set_option maxRecDepth 100000 in
set_option maxHeartbeats 1000000 in
/-- data.toDigits, 6 bits -/
theorem toDigits6 (b d : ByteArray) (w : World) (hb : b.size ≤ 1048576) (hd : d.size = 64) :
    Calls Tryz.prog 129 #[.string b, .string d] w fun e w' => e = .returned (.string (bts ((codeP 6 (bitsL 8 (lst b b.size))).map (bt d)))) ∧ Below w.heap.size w w' := by
  obtain ⟨i0, hi, hz0, hz1, hz2⟩ := info_parts Tryz.infoByte
  have HD : Hid (DigOk d 6) := ⟨hd, .inr (.inr rfl)⟩
  go_enter Tryz.func129, Tryz.ntmps129
  go_wp2_with (first
    | (go_at_call 130; refine (bitsOf_any d 6 _ HD.out).mono ?_; rintro e w1 ⟨rfl, rfl⟩)
    | (at_make; refine wpList_make_own _ rfl _ _ 34 rfl w1.heap.size 5 i0 (.int .u8 0) 1 Tryz.underlying34 hi hz0 hz1 .i64 .i64 _ (b.size * 8 / 6 + 1) rfl rfl (by omega) (by rw [hz2]; omega) (by unfold maxLen; omega) (Nat.le_refl _) ?_; intro w0 hown0 hgrow0))
  have hB0 : Below w1.heap.size w1 w0 := (Below.refl _ _).grown hgrow0 (Nat.le_refl _) (fun q hq => by cases hq)
  go_loopw [6, 7, 8, 21] (fun tv rv hv iv wr => ∃ (k : Nat) (acc rem : List Nat), iv = .int .i64 k ∧ rv = .int .i64 (val rem : Nat) ∧ hv = .int .i64 (rem.length : Nat) ∧ k ≤ b.size ∧ rem.length < 6 ∧ Hid (Bin rem) ∧ acc.length * 6 + rem.length = 8 * k ∧ Hid (∀ v ∈ acc, v < 64) ∧
      Hid (codeP 6 (bitsL 8 (lst b b.size)) = acc ++ codeP 6 (rem ++ bitsL 8 ((lst b b.size).drop k))) ∧ wr.ownsRow w1.heap.size 5 1 tv acc.length (byts (acc.map (bt d))) ∧ (∃ g c, tv = .slice (some ⟨g, 0, none⟩) acc.length c) ∧ Below w1.heap.size w1 wr)
    (fun _ _ _ iv _ => b.size - (intOf iv).toNat)
  case atStart => exact ⟨0, [], [], rfl, rfl, rfl, Nat.zero_le _, by simp, (fun x hx => by cases hx), by simp, (fun x hx => by cases hx), by simp [Hid], by simpa [byts] using hown0, ⟨_, _, rfl⟩, hB0⟩
  case round =>
    obtain ⟨k, acc, rem, rfl, rfl, rfl, hk, hrl, HBin, hal, HA32, HC, hown, ⟨gs, cs, rfl⟩, hBr⟩ := hrel
    have hvl : val rem < 64 := by
      have h1 := val_lt HBin.out
      have h2 : 2 ^ rem.length ≤ 2 ^ 6 := Nat.pow_le_pow_right (by omega) (by omega)
      omega
    by_cases hlt : k < b.size
    · obtain ⟨y, hy, HY, hyl⟩ := bt_wrap hlt
      have hor : bits .or .i64 ((val rem : Int) * 256) (y : Int) = ((val (rem ++ bitsW 8 y) : Nat) : Int) := by
        have := or_shl 8 (val rem) y (by omega) (by omega) (by omega)
        rw [val_append, bitsW_len, val_bitsW 8 y (by omega)]
        simpa using this
      have HC2 : Hid (codeP 6 (bitsL 8 (lst b b.size)) = acc ++ codeP 6 ((rem ++ bitsW 8 y) ++ bitsL 8 ((lst b b.size).drop (k + 1)))) := by
        have := HC.out
        rw [lst_drop hlt, HY] at this
        unfold Hid; rw [this, List.append_assoc]; rfl
      have HB2 : Hid (Bin (rem ++ bitsW 8 y)) := HBin.out.append (bitsW_bin 8 y)
      have hrl2 : (rem ++ bitsW 8 y).length = rem.length + 8 := by rw [List.length_append, bitsW_len]
      clear HY
      go_wp2_with fail
      rw [show ((rem.length : Int) + 8) = (((rem ++ bitsW 8 y).length : Nat) : Int) by rw [hrl2]; simp]
      have hR1 : (rem ++ bitsW 8 y).length ≤ 13 := by omega
      have hE1 : acc.length * 6 + (rem ++ bitsW 8 y).length = 8 * (k + 1) := by omega
      generalize rem ++ bitsW 8 y = rem1 at *
      obtain ⟨wo, rfl⟩ : ∃ wo, wo = wr := ⟨_, rfl⟩
      clear hor hrl hrl2 hvl HC HBin hal
      go_loopw [6, 7, 8] (fun tv rv hv wr => ∃ (acc rem : List Nat), rv = .int .i64 (val rem : Nat) ∧ hv = .int .i64 (rem.length : Nat) ∧ rem.length ≤ 13 ∧ Hid (Bin rem) ∧ acc.length * 6 + rem.length = 8 * (k + 1) ∧ Hid (∀ v ∈ acc, v < 64) ∧
          Hid (codeP 6 (bitsL 8 (lst b b.size)) = acc ++ codeP 6 (rem ++ bitsL 8 ((lst b b.size).drop (k + 1)))) ∧ wr.ownsRow w1.heap.size 5 1 tv acc.length (byts (acc.map (bt d))) ∧ (∃ g c, tv = .slice (some ⟨g, 0, none⟩) acc.length c) ∧ Below w1.heap.size w1 wr)
        (fun _ _ hv _ => (intOf hv).toNat)
      case atStart => exact ⟨acc, rem1, rfl, rfl, hR1, HB2, hE1, HA32, HC2, hown, ⟨_, _, rfl⟩, hBr⟩
      case round =>
        clear hown HC2 HA32 hE1 HB2 hR1
        obtain ⟨acc, rem, rfl, rfl, hrl, HBin, hal, HA32, HC, hown, ⟨gq, cq, rfl⟩, hBq⟩ := hrel
        by_cases h5 : 6 ≤ rem.length
        · have hspl := List.take_append_drop 6 rem
          have hl5 : (rem.take 6).length = 6 := by rw [List.length_take]; omega
          obtain ⟨hh, hhd⟩ : ∃ hh, rem.take 6 = hh := ⟨_, rfl⟩
          obtain ⟨tl, htl⟩ : ∃ tl, rem.drop 6 = tl := ⟨_, rfl⟩
          rw [hhd, htl] at hspl
          rw [hhd] at hl5
          subst hspl
          clear hhd htl
          have hlen : (hh ++ tl).length = 6 + tl.length := by rw [List.length_append, hl5]
          have hlenI : (((hh ++ tl).length : Nat) : Int) = (tl.length : Int) + 6 := by rw [hlen]; omega
          have hb1 := val_lt (HBin.out).left
          have hb2 := val_lt (HBin.out).right
          rw [hl5] at hb1
          have hp1 : 0 < 2 ^ tl.length := Nat.two_pow_pos _
          have hp2 : 2 ^ tl.length ≤ 2 ^ 7 := Nat.pow_le_pow_right (by omega) (by omega)
          have hvd : val hh < d.size := by omega
          obtain ⟨y2, hy2, HY2, hy2l⟩ := bt_wrap hvd
          have hshr : ((val (hh ++ tl) : Nat) : Int) / 2 ^ tl.length = ((val hh : Nat) : Int) := by
            rw [val_append]; exact shr_split _ _ _ hb2
          have hand : bits .and .i64 ((val (hh ++ tl) : Nat) : Int) ((2 : Int) ^ tl.length - 1) = ((val tl : Nat) : Int) := by
            rw [val_append]; exact and_split _ _ _ hb2 (by omega) (by omega)
          have hq1 : (1 : Int) ≤ 2 ^ tl.length := by have : ((2 ^ tl.length : Nat) : Int) = (2 : Int) ^ tl.length := by simp
                                                     omega
          have hq2 : (2 : Int) ^ tl.length ≤ 128 := by have : ((2 ^ tl.length : Nat) : Int) = (2 : Int) ^ tl.length := by simp
                                                       omega
          rw [hlenI]
          have HC3 : Hid (codeP 6 (bitsL 8 (lst b b.size)) = (acc ++ [val hh]) ++ codeP 6 (tl ++ bitsL 8 ((lst b b.size).drop (k + 1)))) := by
            unfold Hid; rw [HC.out, List.append_assoc, List.append_assoc, codeP_full (by omega) hh _ hl5]; rfl
          have HA3 : Hid (∀ v ∈ acc ++ [val hh], v < 64) := fun v hv => by
            rcases List.mem_append.1 hv with h | h
            · exact HA32.out v h
            · simp at h; omega
          have HB3 : Hid (Bin tl) := (HBin.out).right
          have hvv : val (hh ++ tl) < 8192 := by rw [val_append]; exact split_lt6 hb1 hb2 hp2
          have ht7 : tl.length ≤ 7 := by omega
          have hal2 : (acc ++ [val hh]).length * 6 + tl.length = 8 * (k + 1) := by rw [hlen] at hal; simp; omega
          clear h5 hrl hlenI hb1 hb2 hp1 hp2 hlen hl5 HC HA32 HBin
          generalize val (hh ++ tl) = V at *
          go_wp2_with (at_builtin; refine wpList_append_own _ rfl _ _ 34 rfl w1.heap.size 5 i0 (.int .u8 0) 1 1 Tryz.underlying34 hi hz0 hz1 hz2 rfl (by decide) _ _ _ rfl (hown.alloc _) ⟨wr.heap.size, 0, none⟩ 1 1 [.int .u8 (y2 : Int)] rfl rfl (cell_one_new _ _ _) (by simp [Value.oneCell']) (by unfold maxLen; omega) (by omega) (by have := hBq.size; simp; omega) ?_; intro v4 w4 hown4 hgrow4 _; obtain ⟨g4, c4, rfl⟩ := owns_some hown4 (by omega))
          refine ⟨⟨acc ++ [val hh], tl, rfl, rfl, by omega, HB3, hal2, HA3, HC3, ?_, ⟨g4, c4, by rw [List.length_append]; rfl⟩, below_app hBq (Nat.le_refl _) hown hgrow4⟩, ?_⟩
          · have e : byts ((acc ++ [val hh]).map (bt d)) = byts (acc.map (bt d)) ++ [.int .u8 (y2 : Int)] := by simp [byts, HY2]
            rw [e, List.length_append]; exact hown4
          · simp [intOf]; omega
        · have hlt5 : rem.length < 6 := by omega
          go_wp2
          refine ⟨⟨k + 1, acc, rem, by go_num, rfl, rfl, hlt, hlt5, HBin, hal, HA32, HC, hown, ⟨_, _, rfl⟩, hBq⟩, ?_⟩
          simp [intOf]; omega
    · have hkb : k = b.size := by omega
      subst hkb
      have HC2 : Hid (codeP 6 (bitsL 8 (lst b b.size)) = acc ++ codeP 6 rem) := by
        have := HC.out
        rw [List.drop_of_length_le (by rw [lst_len]; exact Nat.le_refl _)] at this
        unfold Hid; rw [this]; simp [bitsL]
      have hcvt : ∀ (xs : List Nat) (g c : Nat) (W : World), W.ownsRow w1.heap.size 5 1 (.slice (some ⟨g, 0, none⟩) xs.length c) xs.length (byts (xs.map (bt d))) → (convert 34 9 (.slice (some ⟨g, 0, none⟩) xs.length c)).run Tryz.prog W = .ok (.string (bts (xs.map (bt d)))) W := by
        intro xs g c W hW
        have hz : (bts (xs.map (bt d))).size = xs.length := by rw [bts_size, List.length_map]
        have h := owns_str (t := bts (xs.map (bt d))) (w := W) (base := w1.heap.size) (g := g) (cap := c) (by rw [hz, bts_cells _ (fun x hx => by obtain ⟨i, _, rfl⟩ := List.mem_map.1 hx; exact bt_lt _ _)]; exact hW)
        rw [hz] at h; exact h
      have HCV := hide' hcvt
      clear hcvt
      by_cases hr0 : rem.length = 0
      · have hnil : rem = [] := List.length_eq_zero_iff.1 hr0
        subst hnil
        have HE : Hid (bts ((codeP 6 (bitsL 8 (lst b b.size))).map (bt d)) = bts (acc.map (bt d))) := by unfold Hid; rw [HC2.out, codeP_nil, List.append_nil]
        have hcv := HCV.out acc gs cs _ hown
        clear HC hr0 hvl hrl hal
        go_wp2
        go_ret
        exact ⟨by rw [HE.out]; rfl, hBr⟩
      · have hne : rem ≠ [] := fun e => hr0 (by rw [e]; rfl)
        have hcl := codeP_last (w := 6) hne (by omega)
        obtain ⟨V, hV⟩ : ∃ V, val rem * 2 ^ (6 - rem.length) = V := ⟨_, rfl⟩
        have hV32 : V < 64 := by
          rw [← hV]
          have h1 := val_lt HBin.out
          have h2 : 2 ^ rem.length * 2 ^ (6 - rem.length) = 2 ^ 6 := by rw [← Nat.pow_add]; congr 1; omega
          have h3 : val rem * 2 ^ (6 - rem.length) < 2 ^ rem.length * 2 ^ (6 - rem.length) := Nat.mul_lt_mul_of_pos_right h1 (Nat.two_pow_pos _)
          omega
        have hvd : V < d.size := by omega
        obtain ⟨y2, hy2, HY2, hy2l⟩ := bt_wrap hvd
        rw [hV] at hcl
        have HE : Hid (bts ((codeP 6 (bitsL 8 (lst b b.size))).map (bt d)) = bts ((acc ++ [V]).map (bt d))) := by unfold Hid; rw [HC2.out, hcl]
        have hVI : ((val rem : Nat) : Int) * 2 ^ (6 - rem.length) = ((V : Nat) : Int) := by rw [← hV]; simp
        have hcase : rem.length = 1 ∨ rem.length = 2 ∨ rem.length = 3 ∨ rem.length = 4 ∨ rem.length = 5 := by omega
        have hal' : acc.length ≤ 2 * b.size := by omega
        clear HC hr0 hne hcl hV hal
        rcases hcase with h | h | h | h | h
        all_goals
          rw [h] at hVI
          rw [h]
          simp at hVI
          clear h hrl HC2 HBin
          generalize val rem = R at *
          go_wp2_with (at_builtin; refine wpList_append_own _ rfl _ _ 34 rfl w1.heap.size 5 i0 (.int .u8 0) 1 1 Tryz.underlying34 hi hz0 hz1 hz2 rfl (by decide) _ _ _ rfl (hown.alloc _) ⟨wr.heap.size, 0, none⟩ 1 1 [.int .u8 (y2 : Int)] rfl rfl (cell_one_new _ _ _) (by simp [Value.oneCell']) (by unfold maxLen; omega) (by omega) (by have := hBr.size; simp; omega) ?_; intro v4 w4 hown4 hgrow4 _; obtain ⟨g4, c4, rfl⟩ := owns_some hown4 (by omega); have hown5 : w4.ownsRow w1.heap.size 5 1 (.slice (some ⟨g4, 0, none⟩) (acc ++ [V]).length c4) (acc ++ [V]).length (byts ((acc ++ [V]).map (bt d))) := (by simpa [byts, HY2] using hown4); have hcv := HCV.out (acc ++ [V]) g4 c4 _ hown5; rw [List.length_append, List.length_singleton] at hcv)
          go_ret
          exact ⟨by rw [HE.out, List.map_append, List.map_singleton, HY2]; rfl, below_app hBr (Nat.le_refl _) hown hgrow4⟩
end Go.Proofs.YtmbjmokhkonpiaaGreatDoor
