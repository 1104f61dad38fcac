import Derived.Test.YtmbjmokhkonpiaaGreatDoorMath13G
import Derived.WalkKit
import Derived.Laws.BitsAll
import Derived.Lib.Bytealg
import Derived.Lib.IndexLaws
import Derived.Test.YtmbjmokhkonpiaaGreatDoorWkG
import Derived.Test.YtmbjmokhkonpiaaGreatDoorShwG
import Derived.Shelf.Small.Bits
import Derived.Shelf.Lay
import Derived.Ground.NamesProg
namespace Go.Proofs.YtmbjmokhkonpiaaGreatDoor
set_option linter.unusedVariables false
open Go.Proofs.YtmbjmokhkonpiaaGreatDoor.Nm

theorem i64_or_nat (a b : Nat) (ha : a < 4294967296) (hb : b < 4294967296) : bits .or .i64 (a : Int) (b : Int) = ((a ||| b : Nat) : Int) := by
  have hx : a ||| b < 2 ^ 32 := Nat.or_lt_two_pow (by omega) (by omega)
  show IntKind.i64.wrap ((BitVec.ofInt 64 (a : Int) ||| BitVec.ofInt 64 (b : Int)).toNat : Int) = _
  rw [BitVec.toNat_or, ofInt_u64 a (by omega), ofInt_u64 b (by omega)]
  simp [IntKind.wrap, IntKind.bits, IntKind.signed]
  omega
theorem i64_and_nat (a b : Nat) (ha : a < 4294967296) (hb : b < 4294967296) : bits .and .i64 (a : Int) (b : Int) = ((a &&& b : Nat) : Int) := by
  have hx : a &&& b < 2 ^ 32 := Nat.and_lt_two_pow _ (by omega)
  show IntKind.i64.wrap ((BitVec.ofInt 64 (a : Int) &&& BitVec.ofInt 64 (b : Int)).toNat : Int) = _
  rw [BitVec.toNat_and, ofInt_u64 a (by omega), ofInt_u64 b (by omega)]
  simp [IntKind.wrap, IntKind.bits, IntKind.signed]
  omega
/-- 'x << i | y' -/
theorem or_shl (i x y : Nat) (hx : x * 2 ^ i < 4294967296) (hy : y < 2 ^ i) (h : y < 4294967296) : bits .or .i64 ((x * 2 ^ i : Nat) : Int) (y : Int) = ((x * 2 ^ i + y : Nat) : Int) := by
  rw [i64_or_nat _ _ hx h, nat_join i _ _ (by simp) hy]
/-- 'x & (1 << i - 1)' -/
theorem and_mask (i x : Nat) (hx : x < 4294967296) (hi : 2 ^ i ≤ 4294967296) : bits .and .i64 (x : Int) ((2 ^ i - 1 : Nat) : Int) = ((x % 2 ^ i : Nat) : Int) := by
  have : 0 < 2 ^ i := Nat.two_pow_pos i
  rw [i64_and_nat _ _ hx (by omega), Nat.and_two_pow_sub_one_eq_mod]
theorem shr_split (H L n : Nat) (h : L < 2 ^ n) : ((H * 2 ^ n + L : Nat) : Int) / 2 ^ n = ((H : Nat) : Int) := by
  have h1 : ((H * 2 ^ n + L : Nat) : Int) / ((2 ^ n : Nat) : Int) = (((H * 2 ^ n + L) / 2 ^ n : Nat) : Int) := by simp
  have h2 : (H * 2 ^ n + L) / 2 ^ n = H := by
    rw [Nat.mul_comm, Nat.mul_add_div (Nat.two_pow_pos n), Nat.div_eq_of_lt h]; omega
  rw [h2] at h1
  rw [← h1]; simp
theorem and_split (H L n : Nat) (h : L < 2 ^ n) (hn : 2 ^ n ≤ 4096) (hv : H < 4096) : bits .and .i64 ((H * 2 ^ n + L : Nat) : Int) ((2 : Int) ^ n - 1) = ((L : Nat) : Int) := by
  have hb : H * 2 ^ n ≤ 4096 * 4096 := Nat.mul_le_mul (by omega) hn
  have := and_mask n (H * 2 ^ n + L) (by omega) (by omega)
  have e : ((2 ^ n - 1 : Nat) : Int) = (2 : Int) ^ n - 1 := by
    have hp : 0 < 2 ^ n := Nat.two_pow_pos n
    rw [Int.ofNat_sub (by omega)]; simp
  rw [e] at this
  rw [this]
  congr 1
  rw [Nat.mul_comm, Nat.mul_add_mod, Nat.mod_eq_of_lt h]
theorem split_lt {H L n : Nat} (h1 : H < 2 ^ 5) (h2 : L < 2 ^ n) (h3 : 2 ^ n ≤ 2 ^ 7) : H * 2 ^ n + L < 4096 := by
  have : H * 2 ^ n ≤ 31 * 2 ^ n := Nat.mul_le_mul_right _ (by omega)
  omega
end Go.Proofs.YtmbjmokhkonpiaaGreatDoor

namespace Go.Proofs.YtmbjmokhkonpiaaGreatDoor.Nm
set_option linter.unusedVariables false
open Go

/-- where a byte stands among digits -/
def ixI (d : ByteArray) (c : Nat) : Int := Lib.indexByte d.data.toList (c : Int).toNat.toUInt8
def ixN (d : ByteArray) (c : Nat) : Option Nat := if 0 ≤ ixI d c then some (ixI d c).toNat else none
end Go.Proofs.YtmbjmokhkonpiaaGreatDoor.Nm

namespace Go.Proofs.YtmbjmokhkonpiaaGreatDoor.Nm
set_option linter.unusedVariables false

theorem bitsL_cons (w x : Nat) (l : List Nat) : bitsL w (x :: l) = bitsW w x ++ bitsL w l := by simp [bitsL]
theorem bin_zeros (k : Nat) : Bin (List.replicate k 0) := fun x hx => by have := List.eq_of_mem_replicate hx; omega
theorem bits_code {w : Nat} (hw : 0 < w) : ∀ (n : Nat) (bs : List Nat), bs.length ≤ n → Bin bs → ∃ p, p < w ∧ bitsL w (codeP w bs) = bs ++ List.replicate p 0
  | 0, bs, hn, _ => by
    have : bs = [] := List.length_eq_zero_iff.1 (by omega)
    subst this
    exact ⟨0, hw, rfl⟩
  | n + 1, bs, hn, hb => by
    by_cases h : bs = []
    · subst h; exact ⟨0, hw, rfl⟩
    · have hp : 0 < bs.length := List.length_pos_iff.2 h
      by_cases hl : w ≤ bs.length
      · have e := List.take_append_drop w bs
        have hl1 : (bs.take w).length = w := by rw [List.length_take]; omega
        obtain ⟨p, hp1, hp2⟩ := bits_code hw n (bs.drop w) (by rw [List.length_drop]; omega) (hb.drop w)
        refine ⟨p, hp1, ?_⟩
        conv => lhs; rw [← e]
        rw [codeP_full hw _ _ hl1, bitsL_cons, hp2]
        have e2 := bitsW_val (hb.take w)
        rw [hl1] at e2
        rw [e2, ← List.append_assoc, e]
      · refine ⟨w - bs.length, by omega, ?_⟩
        have hB : Bin (bs ++ List.replicate (w - bs.length) 0) := hb.append (bin_zeros _)
        have hL : (bs ++ List.replicate (w - bs.length) 0).length = w := by rw [List.length_append, List.length_replicate]; omega
        have e2 := bitsW_val hB
        rw [hL, val_zeros] at e2
        rw [codeP_last h (by omega), bitsL_cons, e2]
        simp [bitsL]

def d32 : ByteArray := ⟨#[48, 49, 50, 51, 52, 53, 54, 55, 56, 57, 97, 98, 99, 100, 101, 102, 103, 104, 105, 106, 107, 108, 109, 110, 111, 112, 113, 114, 115, 116, 117, 118]⟩
theorem d32_size : d32.size = 32 := rfl
/-- bytes in base 32 -/
def c32 (b : ByteArray) : List Nat := codeP 5 (bitsL 8 (lst b b.size))
def to32B (b : ByteArray) : ByteArray := bts ((c32 b).map (bt d32))
end Go.Proofs.YtmbjmokhkonpiaaGreatDoor.Nm

namespace Go.Proofs.YtmbjmokhkonpiaaGreatDoor
set_option linter.unusedVariables false
open Go.RowKit Go.Shelf Go.Proofs.YtmbjmokhkonpiaaGreatDoor.Nm

end Go.Proofs.YtmbjmokhkonpiaaGreatDoor

namespace Go.Proofs.YtmbjmokhkonpiaaGreatDoor
set_option linter.unusedVariables false
open Go.RowKit Go.Shelf Go.Proofs.YtmbjmokhkonpiaaGreatDoor.Nm

def Tryz.lays125_ren : Go.Shelf.Ren := ⟨fun | 125 => 131 | 128 => 132 | 129 => 80 | n => n, fun | 46 => 126 | 3 => 3 | 51 => 124 | 53 => 115 | 4 => 4 | 5 => 5 | 9 => 9 | n => n, fun | n => n⟩
theorem Tryz.lays125 : Go.Proofs.Lays.n125 Tryz.prog Tryz.lays125_ren := {
  mixed := by kernel_rfl
  f125 := Tryz.func131.trans (congrArg some (by kernel_rfl))
  f128 := Tryz.func132.trans (congrArg some (by kernel_rfl))
  f129 := Tryz.func80.trans (congrArg some (by kernel_rfl))
  t3 := Tryz.underlying3
  a3 := Tryz.isAgg3
  z3 := Tryz.sizeOf3
  v3 := Tryz.zeroValue3
  t4 := Tryz.underlying4
  a4 := Tryz.isAgg4
  z4 := Tryz.sizeOf4
  v4 := Tryz.zeroValue4
  t5 := Tryz.underlying5
  a5 := Tryz.isAgg5
  z5 := Tryz.sizeOf5
  v5 := Tryz.zeroValue5
  t9 := Tryz.underlying9
  a9 := Tryz.isAgg9
  z9 := Tryz.sizeOf9
  v9 := Tryz.zeroValue9
  t46 := Tryz.underlying126
  a46 := Tryz.isAgg126
  z46 := Tryz.sizeOf126
  v46 := Tryz.zeroValue126
  t51 := Tryz.underlying124
  a51 := Tryz.isAgg124
  z51 := Tryz.sizeOf124
  v51 := Tryz.zeroValue124
  t53 := Tryz.underlying115
  a53 := Tryz.isAgg115
  z53 := Tryz.sizeOf115
  v53 := Tryz.zeroValue115 }

/-- so many digits, each of which tells W bits -/
def DigOk (d : ByteArray) (W : Nat) : Prop := d.size = 2 ^ W ∧ (W = 4 ∨ W = 5 ∨ W = 6)

theorem bitsOf_any (d : ByteArray) (W : Nat) (w : World) (h : DigOk d W) :
    Calls Tryz.prog 130 #[.string d] w fun e w' => e = .returned (.int .i64 (W : Int)) ∧ w' = w := by
  obtain ⟨h1, h2⟩ := h
  have hz : d.size = 16 ∧ W = 4 ∨ d.size = 32 ∧ W = 5 ∨ d.size = 64 ∧ W = 6 := by
    rcases h2 with rfl | rfl | rfl
    · left; exact ⟨h1, rfl⟩
    · right; left; exact ⟨h1, rfl⟩
    · right; right; exact ⟨h1, rfl⟩
  clear h1 h2
  rcases hz with ⟨hz, rfl⟩ | ⟨hz, rfl⟩ | ⟨hz, rfl⟩
  all_goals
    go_enter Tryz.func130, Tryz.ntmps130
    go_wp2_with (go_at_call 131; refine (Any.bits_Len Tryz.lays125 _ _ (by omega) (by omega)).mono ?_; rintro e w' ⟨rfl, rfl⟩)
    go_ret
    refine ⟨?_, rfl⟩
    simp
    decide

set_option maxRecDepth 100000 in
set_option maxHeartbeats 1000000 in
/-- data.toDigits, base 32 -/
theorem toDigits5 (b d : ByteArray) (w : World) (hb : b.size ≤ 1048576) (hd : d.size = 32) :
    Calls Tryz.prog 129 #[.string b, .string d] w fun e w' => e = .returned (.string (bts ((codeP 5 (bitsL 8 (lst b b.size))).map (bt d)))) ∧ Below w.heap.size w w' := by
  obtain ⟨i0, hi, hz0, hz1, hz2⟩ := info_parts Tryz.infoByte
  have HD : Hid (DigOk d 5) := ⟨hd, .inr (.inl rfl)⟩
  go_enter Tryz.func129, Tryz.ntmps129
  go_wp2_with (first
    | (go_at_call 130; refine (bitsOf_any d 5 _ HD.out).mono ?_; rintro e w1 ⟨rfl, rfl⟩)
    | (at_make; refine wpList_make_own _ rfl _ _ 34 rfl w1.heap.size 5 i0 (.int .u8 0) 1 Tryz.underlying34 hi hz0 hz1 .i64 .i64 _ (b.size * 8 / 5 + 1) rfl rfl (by omega) (by rw [hz2]; omega) (by unfold maxLen; omega) (Nat.le_refl _) ?_; intro w0 hown0 hgrow0))
  have hB0 : Below w1.heap.size w1 w0 := (Below.refl _ _).grown hgrow0 (Nat.le_refl _) (fun q hq => by cases hq)
  go_loopw [6, 7, 8, 21] (fun tv rv hv iv wr => ∃ (k : Nat) (acc rem : List Nat), iv = .int .i64 k ∧ rv = .int .i64 (val rem : Nat) ∧ hv = .int .i64 (rem.length : Nat) ∧ k ≤ b.size ∧ rem.length < 5 ∧ Hid (Bin rem) ∧ acc.length * 5 + rem.length = 8 * k ∧ Hid (∀ v ∈ acc, v < 32) ∧
      Hid (codeP 5 (bitsL 8 (lst b b.size)) = acc ++ codeP 5 (rem ++ bitsL 8 ((lst b b.size).drop k))) ∧ wr.ownsRow w1.heap.size 5 1 tv acc.length (byts (acc.map (bt d))) ∧ (∃ g c, tv = .slice (some ⟨g, 0, none⟩) acc.length c) ∧ Below w1.heap.size w1 wr)
    (fun _ _ _ iv _ => b.size - (intOf iv).toNat)
  case atStart => exact ⟨0, [], [], rfl, rfl, rfl, Nat.zero_le _, by simp, (fun x hx => by cases hx), by simp, (fun x hx => by cases hx), by simp [Hid], by simpa [byts] using hown0, ⟨_, _, rfl⟩, hB0⟩
  case round =>
    obtain ⟨k, acc, rem, rfl, rfl, rfl, hk, hrl, HBin, hal, HA32, HC, hown, ⟨gs, cs, rfl⟩, hBr⟩ := hrel
    have hvl : val rem < 32 := by
      have h1 := val_lt HBin.out
      have h2 : 2 ^ rem.length ≤ 2 ^ 5 := Nat.pow_le_pow_right (by omega) (by omega)
      omega
    by_cases hlt : k < b.size
    · obtain ⟨y, hy, HY, hyl⟩ := bt_wrap hlt
      have hor : bits .or .i64 ((val rem : Int) * 256) (y : Int) = ((val (rem ++ bitsW 8 y) : Nat) : Int) := by
        have := or_shl 8 (val rem) y (by omega) (by omega) (by omega)
        rw [val_append, bitsW_len, val_bitsW 8 y (by omega)]
        simpa using this
      have HC2 : Hid (codeP 5 (bitsL 8 (lst b b.size)) = acc ++ codeP 5 ((rem ++ bitsW 8 y) ++ bitsL 8 ((lst b b.size).drop (k + 1)))) := by
        have := HC.out
        rw [lst_drop hlt, HY] at this
        unfold Hid; rw [this, List.append_assoc]; rfl
      have HB2 : Hid (Bin (rem ++ bitsW 8 y)) := HBin.out.append (bitsW_bin 8 y)
      have hrl2 : (rem ++ bitsW 8 y).length = rem.length + 8 := by rw [List.length_append, bitsW_len]
      clear HY
      go_wp2_with fail
      rw [show ((rem.length : Int) + 8) = (((rem ++ bitsW 8 y).length : Nat) : Int) by rw [hrl2]; simp]
      have hR1 : (rem ++ bitsW 8 y).length ≤ 12 := by omega
      have hE1 : acc.length * 5 + (rem ++ bitsW 8 y).length = 8 * (k + 1) := by omega
      generalize rem ++ bitsW 8 y = rem1 at *
      obtain ⟨wo, rfl⟩ : ∃ wo, wo = wr := ⟨_, rfl⟩
      clear hor hrl hrl2 hvl HC HBin hal
      go_loopw [6, 7, 8] (fun tv rv hv wr => ∃ (acc rem : List Nat), rv = .int .i64 (val rem : Nat) ∧ hv = .int .i64 (rem.length : Nat) ∧ rem.length ≤ 12 ∧ Hid (Bin rem) ∧ acc.length * 5 + rem.length = 8 * (k + 1) ∧ Hid (∀ v ∈ acc, v < 32) ∧
          Hid (codeP 5 (bitsL 8 (lst b b.size)) = acc ++ codeP 5 (rem ++ bitsL 8 ((lst b b.size).drop (k + 1)))) ∧ wr.ownsRow w1.heap.size 5 1 tv acc.length (byts (acc.map (bt d))) ∧ (∃ g c, tv = .slice (some ⟨g, 0, none⟩) acc.length c) ∧ Below w1.heap.size w1 wr)
        (fun _ _ hv _ => (intOf hv).toNat)
      case atStart => exact ⟨acc, rem1, rfl, rfl, hR1, HB2, hE1, HA32, HC2, hown, ⟨_, _, rfl⟩, hBr⟩
      case round =>
        clear hown HC2 HA32 hE1 HB2 hR1
        obtain ⟨acc, rem, rfl, rfl, hrl, HBin, hal, HA32, HC, hown, ⟨gq, cq, rfl⟩, hBq⟩ := hrel
        by_cases h5 : 5 ≤ rem.length
        · have hspl := List.take_append_drop 5 rem
          have hl5 : (rem.take 5).length = 5 := by rw [List.length_take]; omega
          obtain ⟨hh, hhd⟩ : ∃ hh, rem.take 5 = hh := ⟨_, rfl⟩
          obtain ⟨tl, htl⟩ : ∃ tl, rem.drop 5 = tl := ⟨_, rfl⟩
          rw [hhd, htl] at hspl
          rw [hhd] at hl5
          subst hspl
          clear hhd htl
          have hlen : (hh ++ tl).length = 5 + tl.length := by rw [List.length_append, hl5]
          have hlenI : (((hh ++ tl).length : Nat) : Int) = (tl.length : Int) + 5 := by rw [hlen]; omega
          have hb1 := val_lt (HBin.out).left
          have hb2 := val_lt (HBin.out).right
          rw [hl5] at hb1
          have hp1 : 0 < 2 ^ tl.length := Nat.two_pow_pos _
          have hp2 : 2 ^ tl.length ≤ 2 ^ 7 := Nat.pow_le_pow_right (by omega) (by omega)
          have hvd : val hh < d.size := by omega
          obtain ⟨y2, hy2, HY2, hy2l⟩ := bt_wrap hvd
          have hshr : ((val (hh ++ tl) : Nat) : Int) / 2 ^ tl.length = ((val hh : Nat) : Int) := by
            rw [val_append]; exact shr_split _ _ _ hb2
          have hand : bits .and .i64 ((val (hh ++ tl) : Nat) : Int) ((2 : Int) ^ tl.length - 1) = ((val tl : Nat) : Int) := by
            rw [val_append]; exact and_split _ _ _ hb2 (by omega) (by omega)
          have hq1 : (1 : Int) ≤ 2 ^ tl.length := by have : ((2 ^ tl.length : Nat) : Int) = (2 : Int) ^ tl.length := by simp
                                                     omega
          have hq2 : (2 : Int) ^ tl.length ≤ 128 := by have : ((2 ^ tl.length : Nat) : Int) = (2 : Int) ^ tl.length := by simp
                                                       omega
          rw [hlenI]
          have HC3 : Hid (codeP 5 (bitsL 8 (lst b b.size)) = (acc ++ [val hh]) ++ codeP 5 (tl ++ bitsL 8 ((lst b b.size).drop (k + 1)))) := by
            unfold Hid; rw [HC.out, List.append_assoc, List.append_assoc, codeP_full (by omega) hh _ hl5]; rfl
          have HA3 : Hid (∀ v ∈ acc ++ [val hh], v < 32) := fun v hv => by
            rcases List.mem_append.1 hv with h | h
            · exact HA32.out v h
            · simp at h; omega
          have HB3 : Hid (Bin tl) := (HBin.out).right
          have hvv : val (hh ++ tl) < 4096 := by rw [val_append]; exact split_lt hb1 hb2 hp2
          have ht7 : tl.length ≤ 7 := by omega
          have hal2 : (acc ++ [val hh]).length * 5 + tl.length = 8 * (k + 1) := by rw [hlen] at hal; simp; omega
          clear h5 hrl hlenI hb1 hb2 hp1 hp2 hlen hl5 HC HA32 HBin
          generalize val (hh ++ tl) = V at *
          go_wp2_with (at_builtin; refine wpList_append_own _ rfl _ _ 34 rfl w1.heap.size 5 i0 (.int .u8 0) 1 1 Tryz.underlying34 hi hz0 hz1 hz2 rfl (by decide) _ _ _ rfl (hown.alloc _) ⟨wr.heap.size, 0, none⟩ 1 1 [.int .u8 (y2 : Int)] rfl rfl (cell_one_new _ _ _) (by simp [Value.oneCell']) (by unfold maxLen; omega) (by omega) (by have := hBq.size; simp; omega) ?_; intro v4 w4 hown4 hgrow4 _; obtain ⟨g4, c4, rfl⟩ := owns_some hown4 (by omega))
          refine ⟨⟨acc ++ [val hh], tl, rfl, rfl, by omega, HB3, hal2, HA3, HC3, ?_, ⟨g4, c4, by rw [List.length_append]; rfl⟩, below_app hBq (Nat.le_refl _) hown hgrow4⟩, ?_⟩
          · have e : byts ((acc ++ [val hh]).map (bt d)) = byts (acc.map (bt d)) ++ [.int .u8 (y2 : Int)] := by simp [byts, HY2]
            rw [e, List.length_append]; exact hown4
          · simp [intOf]; omega
        · have hlt5 : rem.length < 5 := by omega
          go_wp2
          refine ⟨⟨k + 1, acc, rem, by go_num, rfl, rfl, hlt, hlt5, HBin, hal, HA32, HC, hown, ⟨_, _, rfl⟩, hBq⟩, ?_⟩
          simp [intOf]; omega
    · have hkb : k = b.size := by omega
      subst hkb
      have HC2 : Hid (codeP 5 (bitsL 8 (lst b b.size)) = acc ++ codeP 5 rem) := by
        have := HC.out
        rw [List.drop_of_length_le (by rw [lst_len]; exact Nat.le_refl _)] at this
        unfold Hid; rw [this]; simp [bitsL]
      have hcvt : ∀ (xs : List Nat) (g c : Nat) (W : World), W.ownsRow w1.heap.size 5 1 (.slice (some ⟨g, 0, none⟩) xs.length c) xs.length (byts (xs.map (bt d))) → (convert 34 9 (.slice (some ⟨g, 0, none⟩) xs.length c)).run Tryz.prog W = .ok (.string (bts (xs.map (bt d)))) W := by
        intro xs g c W hW
        have hz : (bts (xs.map (bt d))).size = xs.length := by rw [bts_size, List.length_map]
        have h := owns_str (t := bts (xs.map (bt d))) (w := W) (base := w1.heap.size) (g := g) (cap := c) (by rw [hz, bts_cells _ (fun x hx => by obtain ⟨i, _, rfl⟩ := List.mem_map.1 hx; exact bt_lt _ _)]; exact hW)
        rw [hz] at h; exact h
      have HCV := hide' hcvt
      clear hcvt
      by_cases hr0 : rem.length = 0
      · have hnil : rem = [] := List.length_eq_zero_iff.1 hr0
        subst hnil
        have HE : Hid (bts ((codeP 5 (bitsL 8 (lst b b.size))).map (bt d)) = bts (acc.map (bt d))) := by unfold Hid; rw [HC2.out, codeP_nil, List.append_nil]
        have hcv := HCV.out acc gs cs _ hown
        clear HC hr0 hvl hrl hal
        go_wp2
        go_ret
        exact ⟨by rw [HE.out]; rfl, hBr⟩
      · have hne : rem ≠ [] := fun e => hr0 (by rw [e]; rfl)
        have hcl := codeP_last (w := 5) hne (by omega)
        obtain ⟨V, hV⟩ : ∃ V, val rem * 2 ^ (5 - rem.length) = V := ⟨_, rfl⟩
        have hV32 : V < 32 := by
          rw [← hV]
          have h1 := val_lt HBin.out
          have h2 : 2 ^ rem.length * 2 ^ (5 - rem.length) = 2 ^ 5 := by rw [← Nat.pow_add]; congr 1; omega
          have h3 : val rem * 2 ^ (5 - rem.length) < 2 ^ rem.length * 2 ^ (5 - rem.length) := Nat.mul_lt_mul_of_pos_right h1 (Nat.two_pow_pos _)
          omega
        have hvd : V < d.size := by omega
        obtain ⟨y2, hy2, HY2, hy2l⟩ := bt_wrap hvd
        rw [hV] at hcl
        have HE : Hid (bts ((codeP 5 (bitsL 8 (lst b b.size))).map (bt d)) = bts ((acc ++ [V]).map (bt d))) := by unfold Hid; rw [HC2.out, hcl]
        have hVI : ((val rem : Nat) : Int) * 2 ^ (5 - rem.length) = ((V : Nat) : Int) := by rw [← hV]; simp
        have hcase : rem.length = 1 ∨ rem.length = 2 ∨ rem.length = 3 ∨ rem.length = 4 := by omega
        have hal' : acc.length ≤ 2 * b.size := by omega
        clear HC hr0 hne hcl hV hal
        rcases hcase with h | h | h | h
        all_goals
          rw [h] at hVI
          rw [h]
          simp at hVI
          clear h hrl HC2 HBin
          generalize val rem = R at *
          go_wp2_with (at_builtin; refine wpList_append_own _ rfl _ _ 34 rfl w1.heap.size 5 i0 (.int .u8 0) 1 1 Tryz.underlying34 hi hz0 hz1 hz2 rfl (by decide) _ _ _ rfl (hown.alloc _) ⟨wr.heap.size, 0, none⟩ 1 1 [.int .u8 (y2 : Int)] rfl rfl (cell_one_new _ _ _) (by simp [Value.oneCell']) (by unfold maxLen; omega) (by omega) (by have := hBr.size; simp; omega) ?_; intro v4 w4 hown4 hgrow4 _; obtain ⟨g4, c4, rfl⟩ := owns_some hown4 (by omega); have hown5 : w4.ownsRow w1.heap.size 5 1 (.slice (some ⟨g4, 0, none⟩) (acc ++ [V]).length c4) (acc ++ [V]).length (byts ((acc ++ [V]).map (bt d))) := (by simpa [byts, HY2] using hown4); have hcv := HCV.out (acc ++ [V]) g4 c4 _ hown5; rw [List.length_append, List.length_singleton] at hcv)
          go_ret
          exact ⟨by rw [HE.out, List.map_append, List.map_singleton, HY2]; rfl, below_app hBr (Nat.le_refl _) hown hgrow4⟩
end Go.Proofs.YtmbjmokhkonpiaaGreatDoor

namespace Go.Proofs.YtmbjmokhkonpiaaGreatDoor
set_option linter.unusedVariables false
open Go.RowKit Go.Shelf Go.Proofs.YtmbjmokhkonpiaaGreatDoor.Nm

end Go.Proofs.YtmbjmokhkonpiaaGreatDoor

namespace Go.Proofs.YtmbjmokhkonpiaaGreatDoor
set_option linter.unusedVariables false
open Go.RowKit Go.Shelf Go.Proofs.YtmbjmokhkonpiaaGreatDoor.Nm

/-- data.To32 -/
theorem to32_any (b : ByteArray) (w : World) (hb : b.size ≤ 1048576) :
    Calls Tryz.prog 156 #[.string b] w fun e w' => e = .returned (.string (to32B b)) ∧ Below w.heap.size w w' := by
  have H := hide' (fun w => toDigits5 b d32 w hb d32_size)
  go_enter Tryz.func156, Tryz.ntmps156
  go_wp2_with (go_at_call 129; refine (H.out _).mono ?_; rintro e w1 ⟨rfl, hB1⟩)
  go_ret
  exact ⟨rfl, hB1⟩

end Go.Proofs.YtmbjmokhkonpiaaGreatDoor
