import Derived.Test.YtiaccimdjfdkgaaGreatDoorRows
import Derived.Test.YtiaccimdjfdkgaaGreatDoorMath15G
import Derived.Shelf.Pu.ParseUintPublic10
import Derived.Shelf.Lay
import Derived.Ground.MpProg
import Derived.Lib.AtoiErrMem
import Derived.BigCall
import Derived.BigGuard
import Derived.WalkKit
import Derived.Shelf.Pu.ParseUintEmpty
import Derived.Shelf.Strings.IndexAnyAll
import Derived.Shelf.Strings.Runes
import Derived.Laws.RangeAny
import Derived.Laws.Runes
import Derived.Lib.DecodeN
import Derived.Lib.TrimU
import Derived.Ground.NamesProg
import Derived.Deep.QuietTactic
import Derived.BigQuiet
import Derived.WalkMore
import Derived.WalkSmall
import Derived.Lib.OthersKept
namespace Go.Proofs.YtiaccimdjfdkgaaGreatDoor
set_option linter.unusedVariables false
open Go.RowKit Go.Shelf Go.Proofs.YtiaccimdjfdkgaaGreatDoor.Nm

def Tryz.laysPz14_ren : Go.Shelf.Ren := ⟨fun | 14 => 97 | 16 => 122 | 17 => 123 | 19 => 137 | 20 => 138 | 21 => 139 | 22 => 140 | 23 => 141 | 24 => 142 | 25 => 151 | 27 => 20 | 26 => 152 | 28 => 43 | 29 => 68 | 30 => 92 | 31 => 93 | 32 => 94 | 33 => 95 | 35 => 116 | 34 => 115 | 36 => 117 | 37 => 118 | 38 => 119 | 39 => 134 | 40 => 135 | n => n, fun | 9 => 9 | 3 => 3 | 22 => 200 | 24 => 51 | 25 => 207 | 4 => 4 | 34 => 239 | 5 => 5 | 36 => 227 | 37 => 56 | 0 => 0 | 39 => 241 | 21 => 21 | 44 => 253 | 47 => 103 | 50 => 262 | 48 => 260 | 2 => 2 | 52 => 199 | 55 => 203 | 59 => 224 | 60 => 225 | 20 => 20 | 61 => 226 | 65 => 250 | 66 => 251 | 67 => 66 | n => n, fun | 0 => 7 | 1 => 8 | 2 => 3 | 3 => 5 | 4 => 6 | n => n⟩
theorem Tryz.laysPz14 : Go.Proofs.LaysPu.n14 Tryz.prog Tryz.laysPz14_ren := {
  mixed := by kernel_rfl
  f14 := Tryz.func97.trans (congrArg some (by kernel_rfl))
  f16 := Tryz.func122.trans (congrArg some (by kernel_rfl))
  f17 := Tryz.func123.trans (congrArg some (by kernel_rfl))
  f19 := Tryz.func137.trans (congrArg some (by kernel_rfl))
  f20 := Tryz.func138.trans (congrArg some (by kernel_rfl))
  f21 := Tryz.func139.trans (congrArg some (by kernel_rfl))
  f22 := Tryz.func140.trans (congrArg some (by kernel_rfl))
  f23 := Tryz.func141.trans (congrArg some (by kernel_rfl))
  f24 := Tryz.func142.trans (congrArg some (by kernel_rfl))
  f25 := Tryz.func151.trans (congrArg some (by kernel_rfl))
  f26 := Tryz.func152.trans (congrArg some (by kernel_rfl))
  f27 := Tryz.func20.trans (congrArg some (by kernel_rfl))
  f28 := Tryz.func43.trans (congrArg some (by kernel_rfl))
  f29 := Tryz.func68.trans (congrArg some (by kernel_rfl))
  f30 := Tryz.func92.trans (congrArg some (by kernel_rfl))
  f31 := Tryz.func93.trans (congrArg some (by kernel_rfl))
  f32 := Tryz.func94.trans (congrArg some (by kernel_rfl))
  f33 := Tryz.func95.trans (congrArg some (by kernel_rfl))
  f34 := Tryz.func115.trans (congrArg some (by kernel_rfl))
  f35 := Tryz.func116.trans (congrArg some (by kernel_rfl))
  f36 := Tryz.func117.trans (congrArg some (by kernel_rfl))
  f37 := Tryz.func118.trans (congrArg some (by kernel_rfl))
  f38 := Tryz.func119.trans (congrArg some (by kernel_rfl))
  f39 := Tryz.func134.trans (congrArg some (by kernel_rfl))
  f40 := Tryz.func135.trans (congrArg some (by kernel_rfl))
  t0 := Tryz.underlying0
  a0 := Tryz.isAgg0
  z0 := Tryz.sizeOf0
  v0 := Tryz.zeroValue0
  i0 := by kernel_rfl
  t2 := Tryz.underlying2
  a2 := Tryz.isAgg2
  z2 := Tryz.sizeOf2
  v2 := Tryz.zeroValue2
  i2 := by kernel_rfl
  t3 := Tryz.underlying3
  a3 := Tryz.isAgg3
  z3 := Tryz.sizeOf3
  v3 := Tryz.zeroValue3
  i3 := by kernel_rfl
  t4 := Tryz.underlying4
  a4 := Tryz.isAgg4
  z4 := Tryz.sizeOf4
  v4 := Tryz.zeroValue4
  i4 := by kernel_rfl
  t5 := Tryz.underlying5
  a5 := Tryz.isAgg5
  z5 := Tryz.sizeOf5
  v5 := Tryz.zeroValue5
  i5 := by kernel_rfl
  t9 := Tryz.underlying9
  a9 := Tryz.isAgg9
  z9 := Tryz.sizeOf9
  v9 := Tryz.zeroValue9
  i9 := by kernel_rfl
  t20 := Tryz.underlying20
  a20 := Tryz.isAgg20
  z20 := Tryz.sizeOf20
  v20 := Tryz.zeroValue20
  i20 := by kernel_rfl
  t21 := Tryz.underlying21
  a21 := Tryz.isAgg21
  z21 := Tryz.sizeOf21
  v21 := Tryz.zeroValue21
  i21 := by kernel_rfl
  t22 := Tryz.underlying200
  a22 := Tryz.isAgg200
  z22 := Tryz.sizeOf200
  v22 := Tryz.zeroValue200
  i22 := by kernel_rfl
  t24 := Tryz.underlying51
  a24 := Tryz.isAgg51
  z24 := Tryz.sizeOf51
  v24 := Tryz.zeroValue51
  i24 := by kernel_rfl
  t25 := Tryz.underlying207
  a25 := Tryz.isAgg207
  z25 := Tryz.sizeOf207
  v25 := Tryz.zeroValue207
  i25 := by kernel_rfl
  t34 := Tryz.underlying239
  a34 := Tryz.isAgg239
  z34 := Tryz.sizeOf239
  v34 := Tryz.zeroValue239
  i34 := by kernel_rfl
  c34 := by kernel_rfl
  t36 := Tryz.underlying227
  a36 := Tryz.isAgg227
  z36 := Tryz.sizeOf227
  v36 := Tryz.zeroValue227
  i36 := by kernel_rfl
  t37 := Tryz.underlying56
  a37 := Tryz.isAgg56
  z37 := Tryz.sizeOf56
  v37 := Tryz.zeroValue56
  i37 := by kernel_rfl
  t39 := Tryz.underlying241
  a39 := Tryz.isAgg241
  z39 := Tryz.sizeOf241
  v39 := Tryz.zeroValue241
  i39 := by kernel_rfl
  t44 := Tryz.underlying253
  a44 := Tryz.isAgg253
  z44 := Tryz.sizeOf253
  v44 := Tryz.zeroValue253
  i44 := by kernel_rfl
  t47 := Tryz.underlying103
  a47 := Tryz.isAgg103
  z47 := Tryz.sizeOf103
  v47 := Tryz.zeroValue103
  i47 := by kernel_rfl
  t48 := Tryz.underlying260
  a48 := Tryz.isAgg260
  z48 := Tryz.sizeOf260
  v48 := Tryz.zeroValue260
  i48 := by kernel_rfl
  t50 := Tryz.underlying262
  a50 := Tryz.isAgg262
  z50 := Tryz.sizeOf262
  v50 := Tryz.zeroValue262
  i50 := by kernel_rfl
  t52 := Tryz.underlying199
  a52 := Tryz.isAgg199
  z52 := Tryz.sizeOf199
  v52 := Tryz.zeroValue199
  i52 := by kernel_rfl
  t55 := Tryz.underlying203
  a55 := Tryz.isAgg203
  z55 := Tryz.sizeOf203
  v55 := Tryz.zeroValue203
  i55 := by kernel_rfl
  t59 := Tryz.underlying224
  a59 := Tryz.isAgg224
  z59 := Tryz.sizeOf224
  v59 := Tryz.zeroValue224
  i59 := by kernel_rfl
  t60 := Tryz.underlying225
  a60 := Tryz.isAgg225
  z60 := Tryz.sizeOf225
  v60 := Tryz.zeroValue225
  i60 := by kernel_rfl
  t61 := Tryz.underlying226
  a61 := Tryz.isAgg226
  z61 := Tryz.sizeOf226
  t65 := Tryz.underlying250
  a65 := Tryz.isAgg250
  z65 := Tryz.sizeOf250
  v65 := Tryz.zeroValue250
  i65 := by kernel_rfl
  t66 := Tryz.underlying251
  a66 := Tryz.isAgg251
  z66 := Tryz.sizeOf251
  v66 := Tryz.zeroValue251
  i66 := by kernel_rfl
  t67 := Tryz.underlying66
  a67 := Tryz.isAgg66
  z67 := Tryz.sizeOf66
  v67 := Tryz.zeroValue66
  i67 := by kernel_rfl
  g0 := by kernel_rfl
  m0 := by kernel_rfl
  g1 := by kernel_rfl
  m1 := by kernel_rfl
  g2 := by kernel_rfl
  m2 := by kernel_rfl
  g3 := by kernel_rfl
  m3 := by kernel_rfl
  g4 := by kernel_rfl
  m4 := by kernel_rfl }

theorem hide3 {p : Prop} (h : p) : Hid p := h
/-- strconv's two errors lie where they must -/
def GlZ (w : World) : Prop := ∃ e0 e1, w.cell? ⟨7, 0, none⟩ = some e0 ∧ (e0 = .nilIface ∨ ∃ te pe, e0 = .iface te pe) ∧ w.cell? ⟨8, 0, none⟩ = some e1 ∧ (e1 = .nilIface ∨ ∃ te pe, e1 = .iface te pe)

set_option maxHeartbeats 32000000 in
set_option maxRecDepth 100000 in
/-- internal/strconv.ParseUint of a text in base 10 and 31 bits -/
theorem parse31 (t : ByteArray) (h0 : 0 < t.size) (ht : t.size ≤ 1048576) (w : World) :
    Calls Tryz.prog 122 #[.string t, .int .i64 10, .int .i64 31] w fun e w' => e = .returned (Lib.uintTupleM 239 2147483647 (Lib.parseUintM 2147483647 0 t.data.toList)) ∧ w' = Lib.bytesWorld w 5 t := by
  have he := isEmpty_false (r := t) h0
  have hcv := Lib.run_convert_string_bytes (P := Tryz.prog) w 9 56 5 t Tryz.underlying9 Tryz.underlying56 Tryz.underlying5
  have hB : ∀ j, j < t.size → (Lib.bytesWorld w 5 t).cell? ⟨w.heap.size, j, none⟩ = some (.int .u8 (t.data.toList.getD j 0).toNat) := fun j hj => Lib.bytesWorld_cell w 5 t j hj
  obtain ⟨W1, hW1⟩ : ∃ W1, W1 = Lib.bytesWorld w 5 t := ⟨_, rfl⟩
  rw [← hW1] at hcv hB ⊢
  clear hW1
  have hlen : t.data.toList.length = t.size := by simp
  generalize hbs : t.data.toList = bs at *
  have hmv : IntKind.u64.wrap (IntKind.u64.wrap 2147483648 - 1) = 2147483647 := by
    rw [IntKind.wrap_u64, IntKind.wrap_u64]
    decide
  have HL := hide3 (fun (x : Int) (w : World) => AnyPu.internal_strconv_lower { Tryz.laysPz14 with } x w)
  go_enter Tryz.func122, Tryz.ntmps122
  go_wp2
  go_loop [12, 13, 101] (fun uv nv iv => ∃ (k acc : Nat) (a : Int), uv = .bool false ∧ nv = .int .u64 a ∧ iv = .int .i64 (k : Int) ∧ k ≤ t.size ∧ Hid (a = (acc : Int) ∧ acc ≤ 2147483647) ∧ Hid (Lib.parseUintM 2147483647 0 bs = Lib.parseUintM 2147483647 acc (bs.drop k)))
    (fun _ _ iv => t.size - (intOf iv).toNat)
  case atStart => exact ⟨0, 0, 0, rfl, rfl, rfl, Nat.zero_le _, ⟨rfl, Nat.zero_le _⟩, rfl⟩
  case round =>
    obtain ⟨k, acc, a, rfl, rfl, rfl, hk, HA, HR⟩ := hrel
    obtain ⟨hae, ha⟩ := HA.out
    have a0 : 0 ≤ a := by omega
    have a1 : a ≤ 2147483647 := by omega
    by_cases hlt : k < t.size
    · have hc := hB k hlt
      have hkb : k < bs.length := by omega
      have hget : bs.getD k 0 = bs[k] := by simp [List.getD, List.getElem?_eq_getElem hkb]
      rw [hget] at hc
      have HD : Hid (bs.drop k = bs[k] :: bs.drop (k + 1)) := List.drop_eq_getElem_cons hkb
      have hx : bs[k].toNat < 256 := bs[k].toNat_lt
      generalize bs[k] = c at *
      obtain ⟨x, hxe⟩ : ∃ x, c.toNat = x := ⟨_, rfl⟩
      rw [hxe] at hc hx
      have HX := hide3 hxe
      clear hB hget hkb hxe
      by_cases hd : 48 ≤ x ∧ x ≤ 57
      · obtain ⟨d0, d1⟩ := hd
        by_cases hov : 2147483647 < acc * 10 + (x - 48)
        · have HE : Hid (Lib.parseUintM 2147483647 0 bs = .range) := by
            unfold Hid; rw [HR.out, HD.out, Lib.parseUintM, HX.out, if_pos ⟨d0, d1⟩, if_neg (by omega), if_pos hov]
          have i1 : (2147483647 : Int) < a * 10 + ((x : Int) - 48) := by omega
          clear HR HD HX hov ha hae HA
          go_wp2
          go_ret2
          exact ⟨by rw [HE.out]; rfl, rfl⟩
        · have HE : Hid (Lib.parseUintM 2147483647 0 bs = Lib.parseUintM 2147483647 (acc * 10 + (x - 48)) (bs.drop (k + 1))) := by
            unfold Hid; rw [HR.out, HD.out, Lib.parseUintM, HX.out, if_pos ⟨d0, d1⟩, if_neg (by omega), if_neg hov]
          have i1 : a * 10 + ((x : Int) - 48) ≤ 2147483647 := by omega
          have HN : Hid (a * 10 + ((x : Int) - 48) = ((acc * 10 + (x - 48) : Nat) : Int) ∧ acc * 10 + (x - 48) ≤ 2147483647) := ⟨by omega, by omega⟩
          clear HR HD HX hov ha hae HA
          go_wp2
          refine ⟨⟨k + 1, acc * 10 + (x - 48), a * 10 + ((x : Int) - 48), rfl, (by first | rfl | (congr 1; omega)), by go_num, by omega, HN, HE⟩, by simp [intOf]; omega⟩
      · have HE : Hid (Lib.parseUintM 2147483647 0 bs = .syntax) := by
          unfold Hid; rw [HR.out, HD.out, Lib.parseUintM, HX.out, if_neg hd]
        have q0 := bits_lo_u8 .or (x : Int) 32
        have q1 := bits_hi_u8 .or (x : Int) 32
        have q2 := bits_lo_u8 .or 95 32
        have q3 := bits_hi_u8 .or 95 32
        clear HR HD HX ha hae HA
        go_wp2_with (go_at_call 137; refine (HL.out _ _).mono ?_; rintro e w3 ⟨rfl, rfl⟩)
        all_goals go_ret2
        all_goals exact ⟨by rw [HE.out]; rfl, rfl⟩
    · have HE : Hid (Lib.parseUintM 2147483647 0 bs = .ok acc) := by
        unfold Hid; rw [HR.out, List.drop_eq_nil_of_le (by omega)]; rfl
      have HAE := hide3 hae
      clear HR ha hae HA
      go_wp2
      go_ret2
      exact ⟨by rw [HE.out, HAE.out]; rfl, rfl⟩
end Go.Proofs.YtiaccimdjfdkgaaGreatDoor

namespace Go.Proofs.YtiaccimdjfdkgaaGreatDoor
set_option linter.unusedVariables false
open Go.RowKit Go.Shelf Go.Proofs.YtiaccimdjfdkgaaGreatDoor.Nm

def fnPU : ByteArray := ⟨#[80, 97, 114, 115, 101, 85, 105, 110, 116]⟩
theorem parseB31 {t : ByteArray} (h0 : 0 < t.size) : Lib.parseUintB 31 t.data.toList = Lib.parseUintM 2147483647 0 t.data.toList := by
  unfold Lib.parseUintB
  rw [if_neg]
  intro e
  have : t.data.toList.length = t.size := by simp
  rw [e] at this; simp at this; omega

theorem parseM_lt (M : Nat) : ∀ (l : List UInt8) (acc u : Nat), Lib.parseUintM M acc l = .ok u → u + 1 ≤ (acc + 1) * 10 ^ l.length
  | [], acc, u, h => by unfold Lib.parseUintM at h; injection h with h; simp; omega
  | c :: r, acc, u, h => by
    unfold Lib.parseUintM at h
    split at h
    · rename_i hc
      split at h
      · cases h
      · split at h
        · cases h
        · have := parseM_lt M r _ u h
          rw [List.length_cons, Nat.pow_succ]
          refine Nat.le_trans this ?_
          rw [Nat.mul_comm (10 ^ r.length) 10, ← Nat.mul_assoc]
          exact Nat.mul_le_mul_right _ (by omega)
    · cases h
theorem parseB_lt {B u : Nat} {t : ByteArray} (ht : t.size ≤ 10) (h : Lib.parseUintB B t.data.toList = .ok u) : u < 10000000000 := by
  unfold Lib.parseUintB at h
  split at h
  · cases h
  · have h1 := parseM_lt _ _ _ _ h
    have hl : t.data.toList.length = t.size := by simp
    rw [hl] at h1
    have h2 : 10 ^ t.size ≤ 10 ^ 10 := Nat.pow_le_pow_right (by omega) ht
    omega

/-- what strconv.ParseUint answers: the number, or some error -/
def puEnd (r : Lib.NumEnd Nat) (w : World) (e : Ending) (w' : World) : Prop :=
  (∃ u, r = .ok u ∧ e = .returned (.tuple #[.int .u64 (u : Int), .nilIface]) ∧ Below w.heap.size w w') ∨
  ((∀ u, r ≠ .ok u) ∧ ∃ (x : Int) (N : Nat), e = .returned (.tuple #[.int .u64 x, .iface 241 (.pointer (some ⟨N, 0, none⟩))]) ∧ Below w.heap.size w w')

set_option maxHeartbeats 4000000 in
set_option maxRecDepth 100000 in
/-- strconv.ParseUint in base 10 and 31 bits -/
theorem spu31 (t : ByteArray) (w : World) (ht : t.size ≤ 1048576) (hG : GlZ w) :
    Calls Tryz.prog 97 #[.string t, .int .i64 10, .int .i64 31] w (puEnd (Lib.parseUintB 31 t.data.toList) w) := by
  obtain ⟨e0, e1, hv0, he0, hv1, he1⟩ := hG
  have g0 : 7 < w.heap.size := Lib.lt_of_cell hv0
  have g1 : 8 < w.heap.size := Lib.lt_of_cell hv1
  have HSy : Hid (∀ (W : World) (hc : W.cell? ⟨7, 0, none⟩ = some e0), Calls Tryz.prog 123 #[.string ⟨#[80, 97, 114, 115, 101, 85, 105, 110, 116]⟩, .string t, .int .i64 10, .int .i64 31, .iface 239 (.int .i64 2)] W fun e w' => ∃ N, e = .returned (.iface 241 (.pointer (some ⟨N, 0, none⟩))) ∧ Below W.heap.size W w') := fun W hc => (AnyPu.strconv_toError_syntax { Tryz.laysPz14 with } ⟨#[80, 97, 114, 115, 101, 85, 105, 110, 116]⟩ t 10 31 e0 W (by omega) hc he0).mono (fun e w' ⟨N, h1, _, _, h4⟩ => ⟨N, h1, h4⟩)
  have HRg : Hid (∀ (W : World) (hc : W.cell? ⟨8, 0, none⟩ = some e1), Calls Tryz.prog 123 #[.string ⟨#[80, 97, 114, 115, 101, 85, 105, 110, 116]⟩, .string t, .int .i64 10, .int .i64 31, .iface 239 (.int .i64 1)] W fun e w' => ∃ N, e = .returned (.iface 241 (.pointer (some ⟨N, 0, none⟩))) ∧ Below W.heap.size W w') := fun W hc => (AnyPu.strconv_toError_range { Tryz.laysPz14 with } ⟨#[80, 97, 114, 115, 101, 85, 105, 110, 116]⟩ t 10 31 e1 W (by omega) hc he1).mono (fun e w' ⟨N, h1, _, _, h4⟩ => ⟨N, h1, h4⟩)
  have HI : Hid (Calls Tryz.prog 122 #[.string t, .int .i64 10, .int .i64 31] w fun e w' => e = .returned (Lib.uintTupleM 239 2147483647 (Lib.parseUintB 31 t.data.toList)) ∧ Below w.heap.size w w') := by
    by_cases h0 : t.size = 0
    · have hr : Lib.parseUintB 31 t.data.toList = .syntax := by
        unfold Lib.parseUintB
        rw [if_pos (List.length_eq_zero_iff.1 (by simpa using h0))]
      rw [hr]
      have he := isEmpty_true h0
      go_enter Tryz.func122, Tryz.ntmps122
      go_wp2
      go_ret2
      exact ⟨rfl, Below.refl _ _⟩
    · rw [parseB31 (by omega)]
      exact (parse31 t (by omega) ht w).mono (fun e w' ⟨h1, h2⟩ => ⟨h1, h2 ▸ Lib.bytesWorld_below _ _ _⟩)
  cases h : Lib.parseUintB 31 t.data.toList with
  | ok u =>
    rw [h] at HI
    go_enter Tryz.func97, Tryz.ntmps97
    go_wp2_with (go_at_call 122; refine HI.out.mono ?_; rintro e w1 ⟨he, hB⟩; have he' : e = .returned (.tuple #[.int .u64 (u : Int), .nilIface]) := he; subst he'; clear he)
    go_ret2
    exact .inl ⟨u, rfl, rfl, hB⟩
  | «syntax» =>
    rw [h] at HI
    go_enter Tryz.func97, Tryz.ntmps97
    go_wp2_with (first | (go_at_call 122; refine HI.out.mono ?_; rintro e w1 ⟨he, hB⟩; have he' : e = .returned (.tuple #[.int .u64 0, .iface 239 (.int .i64 2)]) := he; subst he'; clear he; have hv0' := (hB.cell (p := ⟨7, 0, none⟩) g0).trans hv0) | (go_at_call 123; refine (HSy.out _ hv0').mono ?_; rintro e w2 ⟨N, rfl, hB2⟩))
    go_ret2
    exact .inr ⟨(fun u e => by cases e), 0, N, rfl, hB.trans (hB2.mono hB.size)⟩
  | range =>
    rw [h] at HI
    go_enter Tryz.func97, Tryz.ntmps97
    go_wp2_with (first | (go_at_call 122; refine HI.out.mono ?_; rintro e w1 ⟨he, hB⟩; have he' : e = .returned (.tuple #[.int .u64 2147483647, .iface 239 (.int .i64 1)]) := he; subst he'; clear he; have hv1' := (hB.cell (p := ⟨8, 0, none⟩) g1).trans hv1) | (go_at_call 123; refine (HRg.out _ hv1').mono ?_; rintro e w2 ⟨N, rfl, hB2⟩))
    go_ret2
    exact .inr ⟨(fun u e => by cases e), 2147483647, N, rfl, hB.trans (hB2.mono hB.size)⟩

/-- .. and 64 bits -/
theorem spu64 (t : ByteArray) (w : World) (ht : t.size ≤ 1048576) (hG : GlZ w) :
    Calls Tryz.prog 97 #[.string t, .int .i64 10, .int .i64 64] w (puEnd (Lib.parseUintB 64 t.data.toList) w) := by
  obtain ⟨e0, e1, hv0, he0, hv1, he1⟩ := hG
  cases h : Lib.parseUintB 64 t.data.toList with
  | ok u =>
    refine (Any.strconv_ParseUint_10_at64_ok Tryz.laysPz14 t (by omega) u h w).mono ?_
    rintro e w' ⟨rfl, hw⟩
    refine .inl ⟨u, rfl, rfl, ?_⟩
    rcases hw with rfl | rfl
    · exact Below.refl _ _
    · exact Lib.bytesWorld_below _ _ _
  | «syntax» =>
    refine (Any.strconv_ParseUint_10_at64_syntax Tryz.laysPz14 t (by omega) h e0 w hv0 he0).mono ?_
    rintro e w' ⟨N, rfl, -, -, hb⟩
    exact .inr ⟨(fun u e => by cases e), 0, N, rfl, hb⟩
  | range =>
    refine (Any.strconv_ParseUint_10_at64_range Tryz.laysPz14 t (by omega) h e1 w hv1 he1).mono ?_
    rintro e w' ⟨N, rfl, -, -, hb⟩
    exact .inr ⟨(fun u e => by cases e), _, N, rfl, hb⟩

set_option maxHeartbeats 4000000 in
/-- spell.Number in ten digits, and 31 or 64 bits -/
theorem number10 (t : ByteArray) (B : Nat) (w : World) (hB : B = 31 ∨ B = 64) (ht : t.size ≤ 1048576) (hG : GlZ w) :
    Calls Tryz.prog 73 #[.string t, .int .i64 10, .int .i64 (B : Int)] w fun e w' => e = .returned (.tuple #[.int .i64 (((numR B 10 t).getD 0 : Nat) : Int), .bool (numR B 10 t).isSome]) ∧ Below w.heap.size w w' := by
  by_cases hlong : 10 < t.size
  · have HR : Hid (numR B 10 t = none) := numR_long hlong
    go_enter Tryz.func73, Tryz.ntmps73
    go_wp2
    go_ret2
    exact ⟨by rw [HR.out]; rfl, Below.refl _ _⟩
  · have HP : Hid (Calls Tryz.prog 97 #[.string t, .int .i64 10, .int .i64 (B : Int)] w (puEnd (Lib.parseUintB B t.data.toList) w)) := by
      rcases hB with rfl | rfl
      · exact spu31 t w ht hG
      · exact spu64 t w ht hG
    cases h : Lib.parseUintB B t.data.toList with
    | ok u =>
      have HR : Hid (numR B 10 t = some u) := numR_ok hlong h
      have hu := parseB_lt (by omega) h
      have HP2 : Hid (Calls Tryz.prog 97 #[.string t, .int .i64 10, .int .i64 (B : Int)] w fun e w' => e = .returned (.tuple #[.int .u64 (u : Int), .nilIface]) ∧ Below w.heap.size w w') := by
        refine HP.out.mono (fun e w' hp => ?_)
        rw [h] at hp
        rcases hp with ⟨u', hu', he, hb⟩ | ⟨hno, _⟩
        · injection hu' with hu'; subst hu'; exact ⟨he, hb⟩
        · exact absurd rfl (hno u)
      clear HP h
      go_enter Tryz.func73, Tryz.ntmps73
      go_wp2_with (go_at_call 97; refine HP2.out.mono ?_; rintro e w1 ⟨rfl, hB1⟩)
      go_ret2
      exact ⟨by rw [HR.out]; first | rfl | (congr 2; omega), hB1⟩
    | «syntax» =>
      have HR : Hid (numR B 10 t = none) := numR_syn hlong h
      have HP2 : Hid (Calls Tryz.prog 97 #[.string t, .int .i64 10, .int .i64 (B : Int)] w fun e w' => ∃ (x : Int) (N : Nat), e = .returned (.tuple #[.int .u64 x, .iface 241 (.pointer (some ⟨N, 0, none⟩))]) ∧ Below w.heap.size w w') := by
        refine HP.out.mono (fun e w' hp => ?_)
        rw [h] at hp
        rcases hp with ⟨u', hu', he, hb⟩ | ⟨hno, h2⟩
        · cases hu'
        · exact h2
      clear HP h
      go_enter Tryz.func73, Tryz.ntmps73
      go_wp2_with (go_at_call 97; refine HP2.out.mono ?_; rintro e w1 ⟨x, N, rfl, hB1⟩)
      go_ret2
      exact ⟨by rw [HR.out]; rfl, hB1⟩
    | range =>
      have HR : Hid (numR B 10 t = none) := numR_rng hlong h
      have HP2 : Hid (Calls Tryz.prog 97 #[.string t, .int .i64 10, .int .i64 (B : Int)] w fun e w' => ∃ (x : Int) (N : Nat), e = .returned (.tuple #[.int .u64 x, .iface 241 (.pointer (some ⟨N, 0, none⟩))]) ∧ Below w.heap.size w w') := by
        refine HP.out.mono (fun e w' hp => ?_)
        rw [h] at hp
        rcases hp with ⟨u', hu', he, hb⟩ | ⟨hno, h2⟩
        · cases hu'
        · exact h2
      clear HP h
      go_enter Tryz.func73, Tryz.ntmps73
      go_wp2_with (go_at_call 97; refine HP2.out.mono ?_; rintro e w1 ⟨x, N, rfl, hB1⟩)
      go_ret2
      exact ⟨by rw [HR.out]; rfl, hB1⟩
end Go.Proofs.YtiaccimdjfdkgaaGreatDoor

namespace Go.Proofs.YtiaccimdjfdkgaaGreatDoor
set_option linter.unusedVariables false
open Go.RowKit Go.Shelf Go.Proofs.YtiaccimdjfdkgaaGreatDoor.Nm

def Tryz.lays153_ren : Go.Shelf.Ren := ⟨fun | 153 => 74 | 152 => 98 | 226 => 99 | 227 => 100 | 228 => 101 | 137 => 62 | 119 => 124 | 224 => 125 | 225 => 126 | 217 => 88 | 266 => 113 | n => n, fun | 9 => 9 | 3 => 3 | 4 => 4 | 5 => 5 | 21 => 21 | 117 => 212 | 116 => 211 | 0 => 0 | 46 => 227 | 124 => 235 | n => n, fun | n => n⟩
theorem Tryz.lays153 : Go.Proofs.Lays.n153 Tryz.prog Tryz.lays153_ren := {
  mixed := by kernel_rfl
  f119 := Tryz.func124.trans (congrArg some (by kernel_rfl))
  f137 := Tryz.func62.trans (congrArg some (by kernel_rfl))
  f152 := Tryz.func98.trans (congrArg some (by kernel_rfl))
  f153 := Tryz.func74.trans (congrArg some (by kernel_rfl))
  f217 := Tryz.func88.trans (congrArg some (by kernel_rfl))
  f224 := Tryz.func125.trans (congrArg some (by kernel_rfl))
  f225 := Tryz.func126.trans (congrArg some (by kernel_rfl))
  f226 := Tryz.func99.trans (congrArg some (by kernel_rfl))
  f227 := Tryz.func100.trans (congrArg some (by kernel_rfl))
  f228 := Tryz.func101.trans (congrArg some (by kernel_rfl))
  f266 := Tryz.func113.trans (congrArg some (by kernel_rfl))
  t0 := Tryz.underlying0
  a0 := Tryz.isAgg0
  z0 := Tryz.sizeOf0
  v0 := Tryz.zeroValue0
  t3 := Tryz.underlying3
  a3 := Tryz.isAgg3
  z3 := Tryz.sizeOf3
  v3 := Tryz.zeroValue3
  t4 := Tryz.underlying4
  a4 := Tryz.isAgg4
  z4 := Tryz.sizeOf4
  v4 := Tryz.zeroValue4
  t5 := Tryz.underlying5
  a5 := Tryz.isAgg5
  z5 := Tryz.sizeOf5
  v5 := Tryz.zeroValue5
  t9 := Tryz.underlying9
  a9 := Tryz.isAgg9
  z9 := Tryz.sizeOf9
  v9 := Tryz.zeroValue9
  t21 := Tryz.underlying21
  a21 := Tryz.isAgg21
  z21 := Tryz.sizeOf21
  v21 := Tryz.zeroValue21
  t46 := Tryz.underlying227
  a46 := Tryz.isAgg227
  z46 := Tryz.sizeOf227
  v46 := Tryz.zeroValue227
  t116 := Tryz.underlying211
  a116 := Tryz.isAgg211
  z116 := Tryz.sizeOf211
  t117 := Tryz.underlying212
  a117 := Tryz.isAgg212
  z117 := Tryz.sizeOf212
  v117 := Tryz.zeroValue212
  t124 := Tryz.underlying235
  a124 := Tryz.isAgg235
  z124 := Tryz.sizeOf235
  v124 := Tryz.zeroValue235 }

theorem get_bt (s : ByteArray) (i : Nat) (h : i < s.size) : (s.get! i).toNat = bt s i := by
  rw [← bt_eq h]
  show (s.data[i]!).toNat = _
  rw [getElem!_pos s.data i h]; rfl
/-- what a step over a text's runes leaves out are bytes from 128 on -/
theorem decode_skip (s : ByteArray) (k : Nat) (h : k < s.size) : k + (Utf8.decode s k).2 ≤ s.size ∧ ∀ j, 0 < j → j < (Utf8.decode s k).2 → 128 ≤ bt s (k + j) := by
  have g : ∀ j, 1 < s.size - k ∨ True → j < s.size - k → (s.get! (k + j)).toNat = bt s (k + j) := fun j _ hj => get_bt s _ (by omega)
  rw [Lib.decode_at]
  have hn : 0 < s.size - k := by omega
  have g1 := g 1 (.inr trivial)
  have g2 := g 2 (.inr trivial)
  have g3 := g 3 (.inr trivial)
  clear g
  unfold Lib.decodeN
  generalize (s.get! k).toNat = b0
  generalize (s.get! (k + 1)).toNat = b1 at *
  generalize (s.get! (k + 2)).toNat = b2 at *
  generalize (s.get! (k + 3)).toNat = b3 at *
  repeat' split
  all_goals (refine ⟨?_, fun j h0 h1 => ?_⟩)
  all_goals (try simp only at h1)
  all_goals (try simp only)
  all_goals first
    | omega
    | (have h4 : j = 1 ∨ j = 2 ∨ j = 3 := by omega
       rcases h4 with rfl | rfl | rfl
       · have := g1 (by omega); omega
       · first | omega | (have := g2 (by omega); omega)
       · first | omega | (have := g3 (by omega); omega))

set_option maxRecDepth 100000 in
theorem slIndex_anyM (s : ByteArray) (c : Int) (w : World) :
    Calls Tryz.prog 88 #[.string s, .int .u8 c] w fun e w' => e = .returned (.int .i64 (Lib.indexByte s.data.toList c.toNat.toUInt8)) ∧ w' = w := by
  go_enter Tryz.func88, Tryz.ntmps88
  go_wp2
  rw [run_callFunc_extern Tryz.func113 (by kernel_rfl) (by kernel_rfl) (by kernel_rfl) (e := Extern.BytealgIndexByte.indexByte) (by kernel_rfl), Lib.run_indexByteString]
  simp only [Result.andThen]
  rw [Oper.upon_value]
  go_wp2
  go_ret
  exact ⟨rfl, rfl⟩
set_option maxRecDepth 100000 in
/-- strings.IndexByte -/
theorem ib_any (s : ByteArray) (c : Int) (w : World) :
    Calls Tryz.prog 62 #[.string s, .int .u8 c] w fun e w' => e = .returned (.int .i64 (Lib.indexByte s.data.toList c.toNat.toUInt8)) ∧ w' = w := by
  go_enter Tryz.func62, Tryz.ntmps62
  go_wp2_with (go_at_call 88; refine (slIndex_anyM _ _ _).mono ?_; rintro e w1 ⟨rfl, rfl⟩)
  go_ret
  exact ⟨rfl, rfl⟩
theorem ib_none (l : List UInt8) (c : UInt8) (h : ∀ x ∈ l, x.toNat < 128) (hc : 128 ≤ c.toNat) : Lib.indexByte l c = -1 := by
  induction l with
  | nil => rfl
  | cons x l ih =>
    have hx := h x (by simp)
    have hne : (x == c) = false := by
      rw [beq_eq_false_iff_ne]; intro e; rw [e] at hx; omega
    have := ih (fun y hy => h y (by simp [hy]))
    simp [Lib.indexByte, hne, this]
set_option maxRecDepth 1000000 in
/-- unicode/utf8.ValidRune -/
theorem validRune_any (r : Nat) (w : World) (h2 : r ≤ 1114111) :
    Calls Tryz.prog 124 #[.int .i32 (r : Int)] w fun e w' => e = .returned (.bool (decide (r < 55296) || decide (57343 < r))) ∧ w' = w := by
  have h3 : (r : Int) ≤ 1114111 := by omega
  have HH := hide3 h2
  clear h2
  go_enter Tryz.func124, Tryz.ntmps124
  go_wp2
  all_goals
    go_ret
    have h2 := HH.out
    refine ⟨?_, rfl⟩
    show Ending.returned (Value.bool _) = Ending.returned (Value.bool _)
    congr 2; first | (rw [Bool.eq_iff_iff]; simp; omega) | (symm; simp; omega)

set_option maxHeartbeats 8000000 in
set_option maxRecDepth 100000 in
/-- strings.IndexRune, of the rune that stands for a wrong byte, among the letters of units -/
theorem indexRune_bad (w : World) :
    Calls Tryz.prog 98 #[.string ⟨#[119, 100, 104, 109, 115]⟩, .int .i32 65533] w fun e w' => e = .returned (.int .i64 (-1)) ∧ Below w.heap.size w w' := by
  have x0 : ∀ ty, (Instr.next (.pointer (some ⟨w.heap.size, 0, none⟩)) true ty).run Tryz.prog (w.iter ⟨#[119, 100, 104, 109, 115]⟩ 0) = .ok (.tuple #[.bool true, .int .i64 0, .int .i32 119]) (w.iter ⟨#[119, 100, 104, 109, 115]⟩ 1) := fun ty => run_next_ascii (P := Tryz.prog) w ⟨#[119, 100, 104, 109, 115]⟩ 0 ty (by decide) (by decide)
  have x1 : ∀ ty, (Instr.next (.pointer (some ⟨w.heap.size, 0, none⟩)) true ty).run Tryz.prog (w.iter ⟨#[119, 100, 104, 109, 115]⟩ 1) = .ok (.tuple #[.bool true, .int .i64 1, .int .i32 100]) (w.iter ⟨#[119, 100, 104, 109, 115]⟩ 2) := fun ty => run_next_ascii (P := Tryz.prog) w ⟨#[119, 100, 104, 109, 115]⟩ 1 ty (by decide) (by decide)
  have x2 : ∀ ty, (Instr.next (.pointer (some ⟨w.heap.size, 0, none⟩)) true ty).run Tryz.prog (w.iter ⟨#[119, 100, 104, 109, 115]⟩ 2) = .ok (.tuple #[.bool true, .int .i64 2, .int .i32 104]) (w.iter ⟨#[119, 100, 104, 109, 115]⟩ 3) := fun ty => run_next_ascii (P := Tryz.prog) w ⟨#[119, 100, 104, 109, 115]⟩ 2 ty (by decide) (by decide)
  have x3 : ∀ ty, (Instr.next (.pointer (some ⟨w.heap.size, 0, none⟩)) true ty).run Tryz.prog (w.iter ⟨#[119, 100, 104, 109, 115]⟩ 3) = .ok (.tuple #[.bool true, .int .i64 3, .int .i32 109]) (w.iter ⟨#[119, 100, 104, 109, 115]⟩ 4) := fun ty => run_next_ascii (P := Tryz.prog) w ⟨#[119, 100, 104, 109, 115]⟩ 3 ty (by decide) (by decide)
  have x4 : ∀ ty, (Instr.next (.pointer (some ⟨w.heap.size, 0, none⟩)) true ty).run Tryz.prog (w.iter ⟨#[119, 100, 104, 109, 115]⟩ 4) = .ok (.tuple #[.bool true, .int .i64 4, .int .i32 115]) (w.iter ⟨#[119, 100, 104, 109, 115]⟩ 5) := fun ty => run_next_ascii (P := Tryz.prog) w ⟨#[119, 100, 104, 109, 115]⟩ 4 ty (by decide) (by decide)
  have x5 : ∀ ty, (Instr.next (.pointer (some ⟨w.heap.size, 0, none⟩)) true ty).run Tryz.prog (w.iter ⟨#[119, 100, 104, 109, 115]⟩ 5) = .ok (.tuple #[.bool false]) (w.iter ⟨#[119, 100, 104, 109, 115]⟩ 5) := fun ty => run_next_end (P := Tryz.prog) w ⟨#[119, 100, 104, 109, 115]⟩ 5 ty (by decide)
  go_enter Tryz.func98, Tryz.ntmps98
  go_wp2
  refine wp_loop_rounds 6 ?_
  rw [rounds_succ]
  go_wp2
  rw [rounds_succ]
  go_wp2
  rw [rounds_succ]
  go_wp2
  rw [rounds_succ]
  go_wp2
  rw [rounds_succ]
  go_wp2
  rw [rounds_succ]
  go_wp2
  go_ret
  exact ⟨rfl, (Below.refl _ w).alloc (Nat.le_refl _) _⟩
end Go.Proofs.YtiaccimdjfdkgaaGreatDoor

namespace Go.Proofs.YtiaccimdjfdkgaaGreatDoor
set_option linter.unusedVariables false
open Go.RowKit Go.Shelf Go.Proofs.YtiaccimdjfdkgaaGreatDoor.Nm

theorem ext_low (a b : Nat) : ∀ x ∈ ((⟨#[119, 100, 104, 109, 115]⟩ : ByteArray).extract a b).data.toList, x.toNat < 128 := by
  intro x hx
  have h1 : x ∈ (#[119, 100, 104, 109, 115] : Array UInt8).toList := by
    rw [ByteArray.data_extract, Array.toList_extract] at hx
    exact List.mem_of_mem_drop (List.mem_of_mem_take hx)
  simp at h1
  rcases h1 with rfl | rfl | rfl | rfl | rfl <;> decide

set_option maxHeartbeats 8000000 in
set_option maxRecDepth 1000000 in
/-- .. of any rune from 128 on -/
theorem indexRune_high (r : Nat) (h : 128 ≤ r) (h2 : r ≤ 1114111) (w : World) :
    Calls Tryz.prog 98 #[.string ⟨#[119, 100, 104, 109, 115]⟩, .int .i32 (r : Int)] w fun e w' => e = .returned (.int .i64 (-1)) ∧ Below w.heap.size w w' := by
  by_cases he : r = 65533
  · subst he; exact indexRune_bad w
  · have n1 : ((r : Int) == 65533) = false := by rw [beq_eq_false_iff_ne]; omega
    have n2 : ¬ (r : Int) < 128 := by omega
    have HV := hide3 (fun w => validRune_any r w h2)
    cases hv : (decide (r < 55296) || decide (57343 < r)) with
    | false =>
      rw [hv] at HV
      clear h h2 he hv
      go_enter Tryz.func98, Tryz.ntmps98
      go_wp2_with (go_at_call 124; refine (HV.out _).mono ?_; rintro e w1 ⟨rfl, rfl⟩)
      go_ret
      exact ⟨rfl, Below.refl _ _⟩
    | true =>
      rw [hv] at HV
      have hval : Utf8.valid (r : Int) = true := by
        simp at hv
        unfold Utf8.valid
        simp; omega
      obtain ⟨f1, f2, f3⟩ := encode_facts (r : Int) hval (by omega)
      have hcv : ∀ w : World, (convert 21 9 (.int .i32 (r : Int))).run Tryz.prog w = .ok (.string (Utf8.encode (r : Int))) w := fun w => run_convert_int_string w _ _ _ _ (by kernel_rfl) Tryz.underlying9
      generalize Utf8.encode (r : Int) = E at *
      have f4 := f3 (by omega)
      clear f3 hval hv h h2 he
      rcases (show E.size = 2 ∨ E.size = 3 ∨ E.size = 4 by omega) with hs | hs | hs
      · obtain ⟨y, hy, HY, hyl⟩ := bt_wrap (s := E) (i := 1) (by omega)
        have hy128 : 128 ≤ y := by
          have e : (E[E.size - 1]'(by omega)).toNat = bt E (E.size - 1) := bt_eq (by omega)
          rw [e, hs] at f4
          rw [← HY]; exact f4
        have hc : ((ByteArray.mk #[119, 100, 104, 109, 115])[1]'(by decide)).toNat = 100 := rfl
        have n3 : ((100 : Int) != (y : Int)) = true := by rw [bne_iff_ne]; omega
        have HIB := hide3 (fun (S : ByteArray) (w : World) (hS : ∀ x ∈ S.data.toList, x.toNat < 128) => (ib_any S (y : Int) w).mono (fun e w' hh => by rw [ib_none S.data.toList _ hS (by rw [show ((y : Int).toNat.toUInt8).toNat = y by show (UInt8.ofNat y).toNat = y; rw [UInt8.toNat_ofNat']; omega]; exact hy128)] at hh; exact hh))
        have hsz : (ByteArray.mk #[119, 100, 104, 109, 115]).size = 5 := rfl
        have hwr : IntKind.i64.wrap 2 = 2 := by first | rfl | decide
        clear HY f4
        go_enter Tryz.func98, Tryz.ntmps98
        go_wp2_with (go_at_call 124; refine (HV.out _).mono ?_; rintro e w1 ⟨rfl, rfl⟩)
        go_step3
        go_wp2_with fail
        refine wp_loop_rounds 1 ?_
        rw [rounds_succ]
        go_wp2_with fail
        go_step3
        go_wp2_with fail
        go_quiet (fail)
        have HBq : Hid (Below w1.heap.size w1 (w1.drewN nq)) := below_drewN (Below.refl _ _) nq
        generalize w1.drewN nq = wq at *
        go_wp2_with fail
        go_quiet ((go_at_call 62; exact Calls.quiet_of_same (HIB.out _ _ (ext_low _ _))))
        go_wp2
        try rw [Exit.noGoto_ret]
        try go_wp2
        try rw [Exit.noGoto_ret]
        go_ret
        exact ⟨rfl, below_drewN HBq.out _⟩
      · obtain ⟨y, hy, HY, hyl⟩ := bt_wrap (s := E) (i := 2) (by omega)
        have hy128 : 128 ≤ y := by
          have e : (E[E.size - 1]'(by omega)).toNat = bt E (E.size - 1) := bt_eq (by omega)
          rw [e, hs] at f4
          rw [← HY]; exact f4
        have hc : ((ByteArray.mk #[119, 100, 104, 109, 115])[2]'(by decide)).toNat = 104 := rfl
        have n3 : ((104 : Int) != (y : Int)) = true := by rw [bne_iff_ne]; omega
        have HIB := hide3 (fun (S : ByteArray) (w : World) (hS : ∀ x ∈ S.data.toList, x.toNat < 128) => (ib_any S (y : Int) w).mono (fun e w' hh => by rw [ib_none S.data.toList _ hS (by rw [show ((y : Int).toNat.toUInt8).toNat = y by show (UInt8.ofNat y).toNat = y; rw [UInt8.toNat_ofNat']; omega]; exact hy128)] at hh; exact hh))
        have hsz : (ByteArray.mk #[119, 100, 104, 109, 115]).size = 5 := rfl
        have hwr : IntKind.i64.wrap 3 = 3 := by first | rfl | decide
        clear HY f4
        go_enter Tryz.func98, Tryz.ntmps98
        go_wp2_with (go_at_call 124; refine (HV.out _).mono ?_; rintro e w1 ⟨rfl, rfl⟩)
        go_step3
        go_wp2_with fail
        refine wp_loop_rounds 1 ?_
        rw [rounds_succ]
        go_wp2_with fail
        go_step3
        go_wp2_with fail
        go_quiet (fail)
        have HBq : Hid (Below w1.heap.size w1 (w1.drewN nq)) := below_drewN (Below.refl _ _) nq
        generalize w1.drewN nq = wq at *
        go_wp2_with fail
        go_quiet ((go_at_call 62; exact Calls.quiet_of_same (HIB.out _ _ (ext_low _ _))))
        go_wp2
        try rw [Exit.noGoto_ret]
        try go_wp2
        try rw [Exit.noGoto_ret]
        go_ret
        exact ⟨rfl, below_drewN HBq.out _⟩
      · obtain ⟨y, hy, HY, hyl⟩ := bt_wrap (s := E) (i := 3) (by omega)
        have hy128 : 128 ≤ y := by
          have e : (E[E.size - 1]'(by omega)).toNat = bt E (E.size - 1) := bt_eq (by omega)
          rw [e, hs] at f4
          rw [← HY]; exact f4
        have hc : ((ByteArray.mk #[119, 100, 104, 109, 115])[3]'(by decide)).toNat = 109 := rfl
        have n3 : ((109 : Int) != (y : Int)) = true := by rw [bne_iff_ne]; omega
        have HIB := hide3 (fun (S : ByteArray) (w : World) (hS : ∀ x ∈ S.data.toList, x.toNat < 128) => (ib_any S (y : Int) w).mono (fun e w' hh => by rw [ib_none S.data.toList _ hS (by rw [show ((y : Int).toNat.toUInt8).toNat = y by show (UInt8.ofNat y).toNat = y; rw [UInt8.toNat_ofNat']; omega]; exact hy128)] at hh; exact hh))
        have hsz : (ByteArray.mk #[119, 100, 104, 109, 115]).size = 5 := rfl
        have hwr : IntKind.i64.wrap 4 = 4 := by first | rfl | decide
        clear HY f4
        go_enter Tryz.func98, Tryz.ntmps98
        go_wp2_with (go_at_call 124; refine (HV.out _).mono ?_; rintro e w1 ⟨rfl, rfl⟩)
        go_step3
        go_wp2_with fail
        refine wp_loop_rounds 1 ?_
        rw [rounds_succ]
        go_wp2_with fail
        go_step3
        go_wp2_with fail
        go_quiet (fail)
        have HBq : Hid (Below w1.heap.size w1 (w1.drewN nq)) := below_drewN (Below.refl _ _) nq
        generalize w1.drewN nq = wq at *
        go_wp2_with fail
        go_quiet ((go_at_call 62; exact Calls.quiet_of_same (HIB.out _ _ (ext_low _ _))))
        go_wp2
        try rw [Exit.noGoto_ret]
        try go_wp2
        try rw [Exit.noGoto_ret]
        go_ret
        exact ⟨rfl, below_drewN HBq.out _⟩
end Go.Proofs.YtiaccimdjfdkgaaGreatDoor

namespace Go.Proofs.YtiaccimdjfdkgaaGreatDoor
set_option linter.unusedVariables false
open Go.RowKit Go.Shelf Go.Proofs.YtiaccimdjfdkgaaGreatDoor.Nm

/-- the letters of units -/
def uB : List UInt8 := [119, 100, 104, 109, 115]
theorem uB_has (x : UInt8) (h : uB.contains x = true) : x.toNat < 128 := by
  simp [uB] at h
  rcases h with rfl | rfl | rfl | rfl | rfl <;> decide
theorem list_bt (s : ByteArray) (j : Nat) (b : UInt8) (h : s.data.toList[j]? = some b) : j < s.size ∧ b.toNat = bt s j := by
  have hl : s.data.toList.length = s.size := by simp
  obtain ⟨hj, e⟩ := List.getElem?_eq_some_iff.1 h
  exact ⟨by omega, by rw [← e]; exact bt_list s j (by omega)⟩
/-- over a rune from 128 on -/
theorem NoAny_skip {s : ByteArray} {i : Nat} (hi : i < s.size) (h : Lib.NoAny s.data.toList uB i) (hb : 128 ≤ bt s i) : Lib.NoAny s.data.toList uB (i + (Utf8.decode s i).2) := by
  intro j b hj hjb
  by_cases hji : j < i
  · exact h j b hji hjb
  · obtain ⟨hjs, he⟩ := list_bt s j b hjb
    have h128 : 128 ≤ b.toNat := by
      rw [he]
      by_cases e : j = i
      · rw [e]; exact hb
      · have := (decode_skip s i hi).2 (j - i) (by omega) (by omega)
        rw [show i + (j - i) = j by omega] at this
        exact this
    cases hc : uB.contains b with
    | false => rfl
    | true => have := uB_has b hc; omega

theorem iterAt_below {w wr : World} {s : ByteArray} {p : Nat} (h : Below w.heap.size w wr) : Below w.heap.size w (wr.iterAt w.heap.size s p) := by
  refine ⟨h.os, h.tape, h.output, by simpa [World.iterAt] using h.size, fun k hk => ?_⟩
  have : (wr.iterAt w.heap.size s p).heap[k]? = wr.heap[k]? := by
    simp [World.iterAt, show w.heap.size ≠ k by omega]
  exact this.trans (h.block k hk)

set_option maxHeartbeats 8000000 in
set_option maxRecDepth 100000 in
/-- strings.IndexAny among the letters of units, of a short text -/
theorem indexAny_short (s : ByteArray) (w : World) (hs : s.size ≤ 8) :
    Calls Tryz.prog 74 #[.string s, .string ⟨#[119, 100, 104, 109, 115]⟩] w fun e w' => e = .returned (.int .i64 (Lib.indexAny s.data.toList uB)) ∧ Below w.heap.size w w' := by
  have h8 : decide ((8 : Int) < (s.size : Int)) = false := decide_eq_false (by omega)
  have hA := hide3 (fun (r : Int) (w : World) (h0 : 0 ≤ r) (h1 : r < 128) => Any.strings_IndexRune_ascii { Tryz.lays153 with } ⟨#[119, 100, 104, 109, 115]⟩ r w h0 h1)
  have hS := hide3 (fun (n : Int) (w : World) => Any.strings_shouldUseASCIISet { Tryz.lays153 with } n w)
  go_enter Tryz.func74, Tryz.ntmps74
  go_wp2_with (go_at_call 99; refine (hS.out _ _).mono ?_; rintro e w ⟨rfl, rfl⟩; rw [h8])
  go_loopw [9, 10] (fun _ _ wr => ∃ i : Nat, i ≤ s.size ∧ wr.heap[w.heap.size]? = some (.stringIter s i) ∧ Below w.heap.size w wr ∧ Lib.NoAny s.data.toList uB i) (fun _ _ wr => s.size - wr.iterPos w.heap.size)
  case atStart => exact ⟨0, Nat.zero_le _, World.iter_heap _ _ _, (Below.refl _ w).alloc (Nat.le_refl _) _, Lib.NoAny.zero _ _⟩
  case round =>
    obtain ⟨i, hi, hh, hB, hN⟩ := hrel
    have HN := hide3 hN
    have HM : Hid (wr.iterPos w.heap.size = i) := by unfold Hid World.iterPos; rw [hh]
    clear hN
    by_cases hlt : i < s.size
    · have hnx := fun ty => Lib.run_next_any_at (P := Tryz.prog) wr w.heap.size s i ty hh hlt
      obtain ⟨W1, hW1⟩ : ∃ W1, wr.iterAt w.heap.size s (i + (Utf8.decode s i).2) = W1 := ⟨_, rfl⟩
      have hh1 : W1.heap[w.heap.size]? = some (.stringIter s (i + (Utf8.decode s i).2)) := hW1 ▸ Lib.iterAt_heap wr w.heap.size s i _ hh
      have hB1 : Below w.heap.size w W1 := hW1 ▸ iterAt_below hB
      have hlt1 : w.heap.size < W1.heap.size := (Array.getElem?_eq_some_iff.1 hh1).1
      rw [hW1] at hnx
      obtain ⟨y, hy, HY, hyl⟩ := bt_wrap hlt
      obtain ⟨hsk1, hsk2⟩ := decode_skip s i hlt
      have hwp : 1 ≤ (Utf8.decode s i).2 := Lib.width_pos s i
      by_cases h128 : 128 ≤ y
      · have hN2 := hide3 (NoAny_skip hlt HN.out (by rw [HY]; exact h128))
        have hr1 : 128 ≤ (Utf8.decode s i).1 := (decode_high s i hlt (by have : (s[i]'hlt).toNat = bt s i := bt_eq hlt; omega)).1
        have hr2 : (Utf8.decode s i).1 ≤ 1114111 := Lib.rune_le s i
        have HR := hide3 (fun w => indexRune_high (Utf8.decode s i).1 hr1 hr2 w)
        clear hsk2 hr1 hr2 hy HY hW1 HN
        generalize (Utf8.decode s i).1 = r at *
        generalize (Utf8.decode s i).2 = d at *
        go_wp2_with (go_at_call 98; refine (HR.out _).mono ?_; rintro e w3 ⟨rfl, hB3⟩)
        go_roundw
        case rel => exact ⟨i + d, hsk1, (hB3.block _ hlt1).trans hh1, hB1.trans (hB3.mono hB1.size), hN2.out⟩
        case measure =>
          rw [HM.out]
          have : w3.iterPos w.heap.size = i + d := by unfold World.iterPos; rw [(hB3.block _ hlt1).trans hh1]
          rw [this]; omega
      · have hya : (s[i]'hlt).toNat < 128 := by have : (s[i]'hlt).toNat = bt s i := bt_eq hlt; omega
        have hdec : Utf8.decode s i = (y, 1) := by
          rw [decode_ascii s i hlt hya]
          have : (s[i]'hlt).toNat = bt s i := bt_eq hlt
          rw [this, HY]
        rw [hdec] at hnx hh1
        obtain ⟨x, hx⟩ : ∃ x, s.data.toList[i]? = some x := ⟨_, List.getElem?_eq_getElem (by simpa using hlt)⟩
        have hxy : x.toNat = y := by rw [(list_bt s i x hx).2]; exact HY
        have hback : ((y : Int).toNat.toUInt8) = x := by
          apply UInt8.toNat_inj.1
          show (UInt8.ofNat y).toNat = _
          rw [UInt8.toNat_ofNat', hxy]; omega
        have hcon := Lib.contains_iff_indexByte uB x
        have HX := hide3 hx
        clear hsk1 hsk2 hwp hdec hW1 hya hx hxy
        have HA2 := hide3 (fun w => hA.out (y : Int) w (by omega) (by omega))
        rw [hback] at HA2
        cases hin : uB.contains x with
        | false =>
          rw [hin] at hcon
          have hneg : Lib.indexByte uB x < 0 := by have := of_decide_eq_false hcon.symm; omega
          have hN2 := hide3 (HN.out.succ HX.out hin)
          have HA3 : Hid (∀ w, Calls Tryz.prog 98 #[.string ⟨#[119, 100, 104, 109, 115]⟩, .int .i32 (y : Int)] w fun e w' => e = .returned (.int .i64 (Lib.indexByte uB x)) ∧ w' = w) := HA2
          clear hcon HA2 HN HX hy HY hback hA
          generalize Lib.indexByte uB x = q at *
          go_wp2_with (go_at_call 98; refine (HA3.out _).mono ?_; rintro e w3 ⟨rfl, hw3⟩; subst hw3)
          go_roundw
          case rel => exact ⟨i + 1, by omega, hh1, hB1, hN2.out⟩
          case measure =>
            rw [HM.out]
            have : w3.iterPos w.heap.size = i + 1 := by unfold World.iterPos; rw [hh1]
            rw [this]; omega
        | true =>
          rw [hin] at hcon
          have hneg : 0 ≤ Lib.indexByte uB x := of_decide_eq_true hcon.symm
          have HE : Hid (Lib.indexAny s.data.toList uB = (i : Int)) := Lib.indexAny_hit HN.out HX.out hin
          have HA3 : Hid (∀ w, Calls Tryz.prog 98 #[.string ⟨#[119, 100, 104, 109, 115]⟩, .int .i32 (y : Int)] w fun e w' => e = .returned (.int .i64 (Lib.indexByte uB x)) ∧ w' = w) := HA2
          clear hcon HA2 HN HX hy HY hback hA
          generalize Lib.indexByte uB x = q at *
          go_wp2_with (go_at_call 98; refine (HA3.out _).mono ?_; rintro e w3 ⟨rfl, hw3⟩; subst hw3)
          go_ret
          exact ⟨by rw [HE.out]; rfl, hB1⟩
    · have hnx := fun ty => Lib.run_next_end_at (P := Tryz.prog) wr w.heap.size s i ty hh hlt
      have HE : Hid (Lib.indexAny s.data.toList uB = -1) := Lib.indexAny_none (by
        have hl : s.data.toList.length = s.size := by simp
        rw [hl]; rw [show s.size = i by omega]; exact HN.out)
      clear HN
      go_wp2_with fail
      go_ret
      exact ⟨by rw [HE.out]; rfl, hB⟩

set_option maxRecDepth 100000 in
theorem zero256 (w : World) : (zeroValue 210).run Tryz.prog w = .ok (.agg (Array.replicate 256 (.bool false))) w := by kernel_rfl
theorem size256 : (Tryz.prog.info? 210).map (·.size) = some 256 := by kernel_rfl
set_option maxRecDepth 1000000 in
/-- strings.IndexAny among the letters of units -/
theorem indexAny_any (s : ByteArray) (w : World) (hs : s.size ≤ 1048576) :
    Calls Tryz.prog 74 #[.string s, .string ⟨#[119, 100, 104, 109, 115]⟩] w fun e w' => e = .returned (.int .i64 (Lib.indexAny s.data.toList uB)) ∧ Below w.heap.size w w' := by
  by_cases h8 : s.size ≤ 8
  · exact indexAny_short s w h8
  · refine (Any.strings_IndexAny_long Tryz.lays153 zero256 size256 s ⟨#[119, 100, 104, 109, 115]⟩ w (by decide) (by omega) (by omega) (by show (5 : Nat) < 4294967281; omega) ?_).mono ?_
    · intro j b hj
      have hm := List.mem_of_getElem? hj
      simp at hm
      rcases hm with rfl | rfl | rfl | rfl | rfl <;> decide
    · rintro e w' ⟨rfl, rfl⟩
      exact ⟨rfl, ((Below.refl _ w).alloc (Nat.le_refl _) _).alloc (by simp) _⟩
end Go.Proofs.YtiaccimdjfdkgaaGreatDoor

namespace Go.Proofs.YtiaccimdjfdkgaaGreatDoor
set_option linter.unusedVariables false
open Go.RowKit Go.Shelf Go.Proofs.YtiaccimdjfdkgaaGreatDoor.Nm

theorem parseM_dig (M : Nat) : ∀ (l : List UInt8) (acc u : Nat), Lib.parseUintM M acc l = .ok u → ∀ c ∈ l, 48 ≤ c.toNat ∧ c.toNat ≤ 57
  | [], acc, u, h, c, hc => by cases hc
  | x :: r, acc, u, h, c, hc => by
    unfold Lib.parseUintM at h
    split at h
    · rename_i hx
      split at h
      · cases h
      · split at h
        · cases h
        · rcases List.mem_cons.1 hc with rfl | hc
          · exact hx
          · exact parseM_dig M r _ u h c hc
    · cases h
/-- a number has digits alone -/
theorem numR_dig {B most n : Nat} {t : ByteArray} (h : numR B most t = some n) : 0 < t.size ∧ t.size ≤ most ∧ ∀ i, i < t.size → 48 ≤ bt t i ∧ bt t i ≤ 57 := by
  unfold numR at h
  split at h
  · cases h
  · rename_i hl
    cases hp : Lib.parseUintB B t.data.toList with
    | ok u =>
      unfold Lib.parseUintB at hp
      split at hp
      · cases hp
      · rename_i hne
        have hlen : t.data.toList.length = t.size := by simp
        refine ⟨?_, by omega, fun i hi => ?_⟩
        · rcases Nat.eq_zero_or_pos t.size with h0 | h0
          · exact absurd (List.length_eq_zero_iff.1 (by omega)) hne
          · exact h0
        · have := parseM_dig _ _ _ _ hp (t.data.toList[i]'(by omega)) (List.getElem_mem _)
          rw [bt_list t i hi] at this
          exact this
    | «syntax» => rw [hp] at h; cases h
    | range => rw [hp] at h; cases h
theorem numR_lt {B n : Nat} {t : ByteArray} (h : numR B 10 t = some n) : n < 10000000000 := by
  have hd := numR_dig h
  unfold numR at h
  rw [if_neg (by omega)] at h
  cases hp : Lib.parseUintB B t.data.toList with
  | ok u => rw [hp] at h; injection h with h; subst h; exact parseB_lt hd.2.1 hp
  | «syntax» => rw [hp] at h; cases h
  | range => rw [hp] at h; cases h

def unitV (b : Nat) : Nat := if b = 119 then 604800 else if b = 100 then 86400 else if b = 104 then 3600 else if b = 109 then 60 else if b = 115 then 1 else 0
theorem unit_has (x : UInt8) : uB.contains x = decide (unitV x.toNat ≠ 0) := by
  rw [Bool.eq_iff_iff]
  constructor
  · intro h
    simp [uB] at h
    rcases h with rfl | rfl | rfl | rfl | rfl <;> decide
  · intro h
    have h1 : unitV x.toNat ≠ 0 := of_decide_eq_true h
    have h2 : x.toNat = 119 ∨ x.toNat = 100 ∨ x.toNat = 104 ∨ x.toNat = 109 ∨ x.toNat = 115 := by
      unfold unitV at h1
      by_cases a1 : x.toNat = 119
      · exact .inl a1
      · by_cases a2 : x.toNat = 100
        · exact .inr (.inl a2)
        · by_cases a3 : x.toNat = 104
          · exact .inr (.inr (.inl a3))
          · by_cases a4 : x.toNat = 109
            · exact .inr (.inr (.inr (.inl a4)))
            · by_cases a5 : x.toNat = 115
              · exact .inr (.inr (.inr (.inr a5)))
              · simp [a1, a2, a3, a4, a5] at h1
    have key : ∀ c : UInt8, x.toNat = c.toNat → x = c := fun c e => UInt8.toNat_inj.1 e
    rcases h2 with h | h | h | h | h
    · rw [key 119 h]; decide
    · rw [key 100 h]; decide
    · rw [key 104 h]; decide
    · rw [key 109 h]; decide
    · rw [key 115 h]; decide
/-- the first letter of a unit, or none -/
theorem any_cases (s : ByteArray) : ((∀ j, j < s.size → unitV (bt s j) = 0) ∧ Lib.indexAny s.data.toList uB = -1) ∨ ∃ j, j < s.size ∧ unitV (bt s j) ≠ 0 ∧ (∀ i, i < j → unitV (bt s i) = 0) ∧ Lib.indexAny s.data.toList uB = (j : Int) := by
  have hlen : s.data.toList.length = s.size := by simp
  have hno : ∀ k, k ≤ s.size → (∀ i, i < k → unitV (bt s i) = 0) → Lib.NoAny s.data.toList uB k := by
    intro k hk h j b hj hb
    obtain ⟨hjs, he⟩ := list_bt s j b hb
    rw [unit_has, he, h j hj]; rfl
  have key : ∀ k, k ≤ s.size → (∀ i, i < k → unitV (bt s i) = 0) ∨ ∃ j, j < k ∧ unitV (bt s j) ≠ 0 ∧ (∀ i, i < j → unitV (bt s i) = 0) := by
    intro k
    induction k with
    | zero => exact fun _ => .inl (fun i hi => by omega)
    | succ k ih =>
      intro hk
      rcases ih (by omega) with h | ⟨j, h1, h2, h3⟩
      · by_cases hu : unitV (bt s k) = 0
        · exact .inl (fun i hi => by by_cases e : i = k; rw [e]; exact hu; exact h i (by omega))
        · exact .inr ⟨k, by omega, hu, h⟩
      · exact .inr ⟨j, by omega, h2, h3⟩
  rcases key s.size (Nat.le_refl _) with h | ⟨j, h1, h2, h3⟩
  · exact .inl ⟨h, Lib.indexAny_none (by rw [hlen]; exact hno _ (Nat.le_refl _) h)⟩
  · refine .inr ⟨j, h1, h2, h3, ?_⟩
    have hx : s.data.toList[j]? = some (s.data.toList[j]'(by omega)) := List.getElem?_eq_getElem _
    refine Lib.indexAny_hit (hno j (by omega) h3) hx ?_
    rw [unit_has, bt_list s j h1]
    exact decide_eq_true h2

/-- the seconds that the groups of s tell, behind tot, n groups at the most -/
def secG : Nat → ByteArray → Nat → Option Nat
  | 0, s, tot => if s.size = 0 then some tot else none
  | n + 1, s, tot =>
    if s.size = 0 then some tot
    else if 0 ≤ Lib.indexAny s.data.toList uB ∧ (Lib.indexAny s.data.toList uB).toNat < s.size then
      match numR 64 10 (s.extract 0 (Lib.indexAny s.data.toList uB).toNat) with
      | none => none
      | some c => if 2147483647 < tot + c * unitV (bt s (Lib.indexAny s.data.toList uB).toNat) then none else secG n (s.extract ((Lib.indexAny s.data.toList uB).toNat + 1) s.size) (tot + c * unitV (bt s (Lib.indexAny s.data.toList uB).toNat))
    else none
theorem secG_fuel : ∀ (n m : Nat) (s : ByteArray) (tot : Nat), s.size ≤ n → s.size ≤ m → secG n s tot = secG m s tot
  | 0, 0, s, tot, _, _ => rfl
  | 0, m + 1, s, tot, h, _ => by
    have h0 : s.size = 0 := by omega
    rw [secG, secG, if_pos h0, if_pos h0]
  | n + 1, 0, s, tot, _, h => by
    have h0 : s.size = 0 := by omega
    rw [secG, secG, if_pos h0, if_pos h0]
  | n + 1, m + 1, s, tot, hn, hm => by
    rw [secG, secG]
    by_cases h0 : s.size = 0
    · rw [if_pos h0, if_pos h0]
    · rw [if_neg h0, if_neg h0]
      have ih : ∀ (k tot : Nat), secG n (s.extract (k + 1) s.size) tot = secG m (s.extract (k + 1) s.size) tot := fun k tot => secG_fuel n m _ tot (by simp [ByteArray.size_extract]; omega) (by simp [ByteArray.size_extract]; omega)
      simp only [ih]
/-- the seconds that the groups of s tell, behind tot -/
def secF (s : ByteArray) (tot : Nat) : Option Nat := secG s.size s tot
theorem secF_nil {s : ByteArray} (h : s.size = 0) (tot : Nat) : secF s tot = some tot := by
  unfold secF
  rw [h, secG, if_pos h]
theorem secF_none {s : ByteArray} (h : 0 < s.size) (hi : Lib.indexAny s.data.toList uB = -1) (tot : Nat) : secF s tot = none := by
  obtain ⟨n, hn⟩ : ∃ n, s.size = n + 1 := ⟨s.size - 1, by omega⟩
  unfold secF
  rw [hn, secG, if_neg (by omega), if_neg (by rw [hi]; omega)]
theorem secF_at {s : ByteArray} {j : Nat} (h : j < s.size) (hi : Lib.indexAny s.data.toList uB = (j : Int)) (tot : Nat) :
    secF s tot = match numR 64 10 (s.extract 0 j) with | none => none | some c => if 2147483647 < tot + c * unitV (bt s j) then none else secF (s.extract (j + 1) s.size) (tot + c * unitV (bt s j)) := by
  obtain ⟨n, hn⟩ : ∃ n, s.size = n + 1 := ⟨s.size - 1, by omega⟩
  have hf : ∀ tot, secF (s.extract (j + 1) s.size) tot = secG n (s.extract (j + 1) s.size) tot := fun tot => secG_fuel _ _ _ _ (Nat.le_refl _) (by simp [ByteArray.size_extract]; omega)
  simp only [hf]
  have hs : secF s tot = secG (n + 1) s tot := by unfold secF; rw [hn]
  rw [hs, secG, if_neg (by omega), if_pos (by rw [hi]; omega)]
  simp only [hi, Int.toNat_natCast]
def secB (t : ByteArray) : Option Nat := match numR 31 10 t with | some v => some v | none => if t.size = 0 then none else secF (lowB t) 0
end Go.Proofs.YtiaccimdjfdkgaaGreatDoor
