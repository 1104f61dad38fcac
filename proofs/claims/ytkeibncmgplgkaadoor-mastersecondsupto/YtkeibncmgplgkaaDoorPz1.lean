import Derived.Test.YtkeibncmgplgkaaDoorRows
import Derived.Test.YtkeibncmgplgkaaDoorMath17
import Derived.Shelf.Pu.ParseUintPublic10
import Derived.Shelf.Lay
import Derived.Ground.MpProg
import Derived.Lib.AtoiErrMem
import Derived.BigCall
import Derived.BigGuard
import Derived.WalkKit
namespace Go.Proofs.YtkeibncmgplgkaaDoor
set_option linter.unusedVariables false
open Go.RowKit Go.Shelf Go.Proofs.YtkeibncmgplgkaaDoor.Nm

def Tryd.laysPu14_ren : Go.Shelf.Ren := ⟨fun | 14 => 12 | 16 => 18 | 17 => 19 | 19 => 24 | 20 => 25 | 21 => 26 | 22 => 27 | 23 => 28 | 24 => 29 | 25 => 30 | 27 => 32 | 26 => 31 | 28 => 33 | 29 => 34 | 30 => 35 | 31 => 36 | 32 => 37 | 33 => 38 | 35 => 40 | 34 => 39 | 36 => 41 | 37 => 42 | 38 => 43 | 39 => 44 | 40 => 45 | n => n, fun | 9 => 9 | 3 => 3 | 22 => 31 | 24 => 33 | 25 => 34 | 4 => 4 | 34 => 49 | 5 => 5 | 36 => 47 | 37 => 36 | 0 => 0 | 39 => 51 | 21 => 21 | 44 => 55 | 47 => 58 | 50 => 61 | 48 => 59 | 2 => 2 | 52 => 63 | 55 => 66 | 59 => 69 | 60 => 70 | 20 => 20 | 61 => 71 | 65 => 74 | 66 => 75 | 67 => 76 | n => n, fun | 0 => 2 | 1 => 3 | 2 => 4 | 3 => 5 | 4 => 6 | n => n⟩
theorem Tryd.laysPu14 : Go.Proofs.LaysPu.n14 Tryd.prog Tryd.laysPu14_ren := {
  mixed := by kernel_rfl
  f14 := Tryd.func12.trans (congrArg some (by kernel_rfl))
  f16 := Tryd.func18.trans (congrArg some (by kernel_rfl))
  f17 := Tryd.func19.trans (congrArg some (by kernel_rfl))
  f19 := Tryd.func24.trans (congrArg some (by kernel_rfl))
  f20 := Tryd.func25.trans (congrArg some (by kernel_rfl))
  f21 := Tryd.func26.trans (congrArg some (by kernel_rfl))
  f22 := Tryd.func27.trans (congrArg some (by kernel_rfl))
  f23 := Tryd.func28.trans (congrArg some (by kernel_rfl))
  f24 := Tryd.func29.trans (congrArg some (by kernel_rfl))
  f25 := Tryd.func30.trans (congrArg some (by kernel_rfl))
  f26 := Tryd.func31.trans (congrArg some (by kernel_rfl))
  f27 := Tryd.func32.trans (congrArg some (by kernel_rfl))
  f28 := Tryd.func33.trans (congrArg some (by kernel_rfl))
  f29 := Tryd.func34.trans (congrArg some (by kernel_rfl))
  f30 := Tryd.func35.trans (congrArg some (by kernel_rfl))
  f31 := Tryd.func36.trans (congrArg some (by kernel_rfl))
  f32 := Tryd.func37.trans (congrArg some (by kernel_rfl))
  f33 := Tryd.func38.trans (congrArg some (by kernel_rfl))
  f34 := Tryd.func39.trans (congrArg some (by kernel_rfl))
  f35 := Tryd.func40.trans (congrArg some (by kernel_rfl))
  f36 := Tryd.func41.trans (congrArg some (by kernel_rfl))
  f37 := Tryd.func42.trans (congrArg some (by kernel_rfl))
  f38 := Tryd.func43.trans (congrArg some (by kernel_rfl))
  f39 := Tryd.func44.trans (congrArg some (by kernel_rfl))
  f40 := Tryd.func45.trans (congrArg some (by kernel_rfl))
  t0 := Tryd.underlying0
  a0 := Tryd.isAgg0
  z0 := Tryd.sizeOf0
  v0 := Tryd.zeroValue0
  i0 := by kernel_rfl
  t2 := Tryd.underlying2
  a2 := Tryd.isAgg2
  z2 := Tryd.sizeOf2
  v2 := Tryd.zeroValue2
  i2 := by kernel_rfl
  t3 := Tryd.underlying3
  a3 := Tryd.isAgg3
  z3 := Tryd.sizeOf3
  v3 := Tryd.zeroValue3
  i3 := by kernel_rfl
  t4 := Tryd.underlying4
  a4 := Tryd.isAgg4
  z4 := Tryd.sizeOf4
  v4 := Tryd.zeroValue4
  i4 := by kernel_rfl
  t5 := Tryd.underlying5
  a5 := Tryd.isAgg5
  z5 := Tryd.sizeOf5
  v5 := Tryd.zeroValue5
  i5 := by kernel_rfl
  t9 := Tryd.underlying9
  a9 := Tryd.isAgg9
  z9 := Tryd.sizeOf9
  v9 := Tryd.zeroValue9
  i9 := by kernel_rfl
  t20 := Tryd.underlying20
  a20 := Tryd.isAgg20
  z20 := Tryd.sizeOf20
  v20 := Tryd.zeroValue20
  i20 := by kernel_rfl
  t21 := Tryd.underlying21
  a21 := Tryd.isAgg21
  z21 := Tryd.sizeOf21
  v21 := Tryd.zeroValue21
  i21 := by kernel_rfl
  t22 := Tryd.underlying31
  a22 := Tryd.isAgg31
  z22 := Tryd.sizeOf31
  v22 := Tryd.zeroValue31
  i22 := by kernel_rfl
  t24 := Tryd.underlying33
  a24 := Tryd.isAgg33
  z24 := Tryd.sizeOf33
  v24 := Tryd.zeroValue33
  i24 := by kernel_rfl
  t25 := Tryd.underlying34
  a25 := Tryd.isAgg34
  z25 := Tryd.sizeOf34
  v25 := Tryd.zeroValue34
  i25 := by kernel_rfl
  t34 := Tryd.underlying49
  a34 := Tryd.isAgg49
  z34 := Tryd.sizeOf49
  v34 := Tryd.zeroValue49
  i34 := by kernel_rfl
  c34 := by kernel_rfl
  t36 := Tryd.underlying47
  a36 := Tryd.isAgg47
  z36 := Tryd.sizeOf47
  v36 := Tryd.zeroValue47
  i36 := by kernel_rfl
  t37 := Tryd.underlying36
  a37 := Tryd.isAgg36
  z37 := Tryd.sizeOf36
  v37 := Tryd.zeroValue36
  i37 := by kernel_rfl
  t39 := Tryd.underlying51
  a39 := Tryd.isAgg51
  z39 := Tryd.sizeOf51
  v39 := Tryd.zeroValue51
  i39 := by kernel_rfl
  t44 := Tryd.underlying55
  a44 := Tryd.isAgg55
  z44 := Tryd.sizeOf55
  v44 := Tryd.zeroValue55
  i44 := by kernel_rfl
  t47 := Tryd.underlying58
  a47 := Tryd.isAgg58
  z47 := Tryd.sizeOf58
  v47 := Tryd.zeroValue58
  i47 := by kernel_rfl
  t48 := Tryd.underlying59
  a48 := Tryd.isAgg59
  z48 := Tryd.sizeOf59
  v48 := Tryd.zeroValue59
  i48 := by kernel_rfl
  t50 := Tryd.underlying61
  a50 := Tryd.isAgg61
  z50 := Tryd.sizeOf61
  v50 := Tryd.zeroValue61
  i50 := by kernel_rfl
  t52 := Tryd.underlying63
  a52 := Tryd.isAgg63
  z52 := Tryd.sizeOf63
  v52 := Tryd.zeroValue63
  i52 := by kernel_rfl
  t55 := Tryd.underlying66
  a55 := Tryd.isAgg66
  z55 := Tryd.sizeOf66
  v55 := Tryd.zeroValue66
  i55 := by kernel_rfl
  t59 := Tryd.underlying69
  a59 := Tryd.isAgg69
  z59 := Tryd.sizeOf69
  v59 := Tryd.zeroValue69
  i59 := by kernel_rfl
  t60 := Tryd.underlying70
  a60 := Tryd.isAgg70
  z60 := Tryd.sizeOf70
  v60 := Tryd.zeroValue70
  i60 := by kernel_rfl
  t61 := Tryd.underlying71
  a61 := Tryd.isAgg71
  z61 := Tryd.sizeOf71
  t65 := Tryd.underlying74
  a65 := Tryd.isAgg74
  z65 := Tryd.sizeOf74
  v65 := Tryd.zeroValue74
  i65 := by kernel_rfl
  t66 := Tryd.underlying75
  a66 := Tryd.isAgg75
  z66 := Tryd.sizeOf75
  v66 := Tryd.zeroValue75
  i66 := by kernel_rfl
  t67 := Tryd.underlying76
  a67 := Tryd.isAgg76
  z67 := Tryd.sizeOf76
  v67 := Tryd.zeroValue76
  i67 := by kernel_rfl
  g0 := by kernel_rfl
  m0 := by kernel_rfl
  g1 := by kernel_rfl
  m1 := by kernel_rfl
  g2 := by kernel_rfl
  m2 := by kernel_rfl
  g3 := by kernel_rfl
  m3 := by kernel_rfl
  g4 := by kernel_rfl
  m4 := by kernel_rfl }

theorem hide3 {p : Prop} (h : p) : Hid p := h
/-- strconv's two errors lie where they must -/
def Gl (w : World) : Prop := ∃ e0 e1, w.cell? ⟨2, 0, none⟩ = some e0 ∧ (e0 = .nilIface ∨ ∃ te pe, e0 = .iface te pe) ∧ w.cell? ⟨3, 0, none⟩ = some e1 ∧ (e1 = .nilIface ∨ ∃ te pe, e1 = .iface te pe)

set_option maxHeartbeats 32000000 in
set_option maxRecDepth 100000 in
/-- internal/strconv.ParseUint of a text in base 10 and 31 bits -/
theorem parse31 (t : ByteArray) (h0 : 0 < t.size) (ht : t.size ≤ 1048576) (w : World) :
    Calls Tryd.prog 18 #[.string t, .int .i64 10, .int .i64 31] w fun e w' => e = .returned (Lib.uintTupleM 49 2147483647 (Lib.parseUintM 2147483647 0 t.data.toList)) ∧ w' = Lib.bytesWorld w 5 t := by
  have he := isEmpty_false (r := t) h0
  have hcv := Lib.run_convert_string_bytes (P := Tryd.prog) w 9 36 5 t Tryd.underlying9 Tryd.underlying36 Tryd.underlying5
  have hB : ∀ j, j < t.size → (Lib.bytesWorld w 5 t).cell? ⟨w.heap.size, j, none⟩ = some (.int .u8 (t.data.toList.getD j 0).toNat) := fun j hj => Lib.bytesWorld_cell w 5 t j hj
  obtain ⟨W1, hW1⟩ : ∃ W1, W1 = Lib.bytesWorld w 5 t := ⟨_, rfl⟩
  rw [← hW1] at hcv hB ⊢
  clear hW1
  have hlen : t.data.toList.length = t.size := by simp
  generalize hbs : t.data.toList = bs at *
  have hmv : IntKind.u64.wrap (IntKind.u64.wrap 2147483648 - 1) = 2147483647 := by
    rw [IntKind.wrap_u64, IntKind.wrap_u64]
    decide
  have HL := hide3 (fun (x : Int) (w : World) => AnyPu.internal_strconv_lower { Tryd.laysPu14 with } x w)
  go_enter Tryd.func18, Tryd.ntmps18
  go_wp2
  go_loop [12, 13, 101] (fun uv nv iv => ∃ (k acc : Nat) (a : Int), uv = .bool false ∧ nv = .int .u64 a ∧ iv = .int .i64 (k : Int) ∧ k ≤ t.size ∧ Hid (a = (acc : Int) ∧ acc ≤ 2147483647) ∧ Hid (Lib.parseUintM 2147483647 0 bs = Lib.parseUintM 2147483647 acc (bs.drop k)))
    (fun _ _ iv => t.size - (intOf iv).toNat)
  case atStart => exact ⟨0, 0, 0, rfl, rfl, rfl, Nat.zero_le _, ⟨rfl, Nat.zero_le _⟩, rfl⟩
  case round =>
    obtain ⟨k, acc, a, rfl, rfl, rfl, hk, HA, HR⟩ := hrel
    obtain ⟨hae, ha⟩ := HA.out
    have a0 : 0 ≤ a := by omega
    have a1 : a ≤ 2147483647 := by omega
    by_cases hlt : k < t.size
    · have hc := hB k hlt
      have hkb : k < bs.length := by omega
      have hget : bs.getD k 0 = bs[k] := by simp [List.getD, List.getElem?_eq_getElem hkb]
      rw [hget] at hc
      have HD : Hid (bs.drop k = bs[k] :: bs.drop (k + 1)) := List.drop_eq_getElem_cons hkb
      have hx : bs[k].toNat < 256 := bs[k].toNat_lt
      generalize bs[k] = c at *
      obtain ⟨x, hxe⟩ : ∃ x, c.toNat = x := ⟨_, rfl⟩
      rw [hxe] at hc hx
      have HX := hide3 hxe
      clear hB hget hkb hxe
      by_cases hd : 48 ≤ x ∧ x ≤ 57
      · obtain ⟨d0, d1⟩ := hd
        by_cases hov : 2147483647 < acc * 10 + (x - 48)
        · have HE : Hid (Lib.parseUintM 2147483647 0 bs = .range) := by
            unfold Hid; rw [HR.out, HD.out, Lib.parseUintM, HX.out, if_pos ⟨d0, d1⟩, if_neg (by omega), if_pos hov]
          have i1 : (2147483647 : Int) < a * 10 + ((x : Int) - 48) := by omega
          clear HR HD HX hov ha hae HA
          go_wp2
          go_ret2
          exact ⟨by rw [HE.out]; rfl, rfl⟩
        · have HE : Hid (Lib.parseUintM 2147483647 0 bs = Lib.parseUintM 2147483647 (acc * 10 + (x - 48)) (bs.drop (k + 1))) := by
            unfold Hid; rw [HR.out, HD.out, Lib.parseUintM, HX.out, if_pos ⟨d0, d1⟩, if_neg (by omega), if_neg hov]
          have i1 : a * 10 + ((x : Int) - 48) ≤ 2147483647 := by omega
          have HN : Hid (a * 10 + ((x : Int) - 48) = ((acc * 10 + (x - 48) : Nat) : Int) ∧ acc * 10 + (x - 48) ≤ 2147483647) := ⟨by omega, by omega⟩
          clear HR HD HX hov ha hae HA
          go_wp2
          refine ⟨⟨k + 1, acc * 10 + (x - 48), a * 10 + ((x : Int) - 48), rfl, (by first | rfl | (congr 1; omega)), by go_num, by omega, HN, HE⟩, by simp [intOf]; omega⟩
      · have HE : Hid (Lib.parseUintM 2147483647 0 bs = .syntax) := by
          unfold Hid; rw [HR.out, HD.out, Lib.parseUintM, HX.out, if_neg hd]
        have q0 := bits_lo_u8 .or (x : Int) 32
        have q1 := bits_hi_u8 .or (x : Int) 32
        have q2 := bits_lo_u8 .or 95 32
        have q3 := bits_hi_u8 .or 95 32
        clear HR HD HX ha hae HA
        go_wp2_with (go_at_call 24; refine (HL.out _ _).mono ?_; rintro e w3 ⟨rfl, rfl⟩)
        all_goals go_ret2
        all_goals exact ⟨by rw [HE.out]; rfl, rfl⟩
    · have HE : Hid (Lib.parseUintM 2147483647 0 bs = .ok acc) := by
        unfold Hid; rw [HR.out, List.drop_eq_nil_of_le (by omega)]; rfl
      have HAE := hide3 hae
      clear HR ha hae HA
      go_wp2
      go_ret2
      exact ⟨by rw [HE.out, HAE.out]; rfl, rfl⟩
end Go.Proofs.YtkeibncmgplgkaaDoor
