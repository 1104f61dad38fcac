import Derived.Test.YthfjjfebhenliaaDoorRows
import Derived.Test.YthfjjfebhenliaaDoorMath17
import Derived.Shelf.Pu.ParseUintPublic10
import Derived.Shelf.Lay
import Derived.Ground.MpProg
import Derived.Lib.AtoiErrMem
import Derived.BigCall
import Derived.BigGuard
import Derived.WalkKit
namespace Go.Proofs.YthfjjfebhenliaaDoor
set_option linter.unusedVariables false
open Go.RowKit Go.Shelf Go.Proofs.YthfjjfebhenliaaDoor.Nm

shelf_lay LaysPu.n14 Mp 14 at Tryd as Tryd.laysPu14 -- function 21

theorem hide3 {p : Prop} (h : p) : Hid p := h
/-- strconv's two errors lie where they must -/
def Gl (w : World) : Prop := ∃ e0 e1, w.cell? ⟨3, 0, none⟩ = some e0 ∧ (e0 = .nilIface ∨ ∃ te pe, e0 = .iface te pe) ∧ w.cell? ⟨4, 0, none⟩ = some e1 ∧ (e1 = .nilIface ∨ ∃ te pe, e1 = .iface te pe)

set_option maxHeartbeats 32000000 in
set_option maxRecDepth 100000 in
/-- internal/strconv.ParseUint of a text in base 10 and 31 bits -/
theorem parse31 (t : ByteArray) (h0 : 0 < t.size) (ht : t.size ≤ 1048576) (w : World) :
    Calls Tryd.prog 30 #[.string t, .int .i64 10, .int .i64 31] w fun e w' => e = .returned (Lib.uintTupleM 96 2147483647 (Lib.parseUintM 2147483647 0 t.data.toList)) ∧ w' = Lib.bytesWorld w 5 t := by
  have he := isEmpty_false (r := t) h0
  have hcv := Lib.run_convert_string_bytes (P := Tryd.prog) w 9 57 5 t Tryd.underlying9 Tryd.underlying57 Tryd.underlying5
  have hB : ∀ j, j < t.size → (Lib.bytesWorld w 5 t).cell? ⟨w.heap.size, j, none⟩ = some (.int .u8 (t.data.toList.getD j 0).toNat) := fun j hj => Lib.bytesWorld_cell w 5 t j hj
  obtain ⟨W1, hW1⟩ : ∃ W1, W1 = Lib.bytesWorld w 5 t := ⟨_, rfl⟩
  rw [← hW1] at hcv hB ⊢
  clear hW1
  have hlen : t.data.toList.length = t.size := by simp
  generalize hbs : t.data.toList = bs at *
  have hmv : IntKind.u64.wrap (IntKind.u64.wrap 2147483648 - 1) = 2147483647 := by
    rw [IntKind.wrap_u64, IntKind.wrap_u64]
    decide
  have HL := hide3 (fun (x : Int) (w : World) => AnyPu.internal_strconv_lower { Tryd.laysPu14 with } x w)
  go_enter Tryd.func30, Tryd.ntmps30
  go_wp2
  go_loop [12, 13, 101] (fun uv nv iv => ∃ (k acc : Nat) (a : Int), uv = .bool false ∧ nv = .int .u64 a ∧ iv = .int .i64 (k : Int) ∧ k ≤ t.size ∧ Hid (a = (acc : Int) ∧ acc ≤ 2147483647) ∧ Hid (Lib.parseUintM 2147483647 0 bs = Lib.parseUintM 2147483647 acc (bs.drop k)))
    (fun _ _ iv => t.size - (intOf iv).toNat)
  case atStart => exact ⟨0, 0, 0, rfl, rfl, rfl, Nat.zero_le _, ⟨rfl, Nat.zero_le _⟩, rfl⟩
  case round =>
    obtain ⟨k, acc, a, rfl, rfl, rfl, hk, HA, HR⟩ := hrel
    obtain ⟨hae, ha⟩ := HA.out
    have a0 : 0 ≤ a := by omega
    have a1 : a ≤ 2147483647 := by omega
    by_cases hlt : k < t.size
    · have hc := hB k hlt
      have hkb : k < bs.length := by omega
      have hget : bs.getD k 0 = bs[k] := by simp [List.getD, List.getElem?_eq_getElem hkb]
      rw [hget] at hc
      have HD : Hid (bs.drop k = bs[k] :: bs.drop (k + 1)) := List.drop_eq_getElem_cons hkb
      have hx : bs[k].toNat < 256 := bs[k].toNat_lt
      generalize bs[k] = c at *
      obtain ⟨x, hxe⟩ : ∃ x, c.toNat = x := ⟨_, rfl⟩
      rw [hxe] at hc hx
      have HX := hide3 hxe
      clear hB hget hkb hxe
      by_cases hd : 48 ≤ x ∧ x ≤ 57
      · obtain ⟨d0, d1⟩ := hd
        by_cases hov : 2147483647 < acc * 10 + (x - 48)
        · have HE : Hid (Lib.parseUintM 2147483647 0 bs = .range) := by
            unfold Hid; rw [HR.out, HD.out, Lib.parseUintM, HX.out, if_pos ⟨d0, d1⟩, if_neg (by omega), if_pos hov]
          have i1 : (2147483647 : Int) < a * 10 + ((x : Int) - 48) := by omega
          clear HR HD HX hov ha hae HA
          go_wp2
          go_ret2
          exact ⟨by rw [HE.out]; rfl, rfl⟩
        · have HE : Hid (Lib.parseUintM 2147483647 0 bs = Lib.parseUintM 2147483647 (acc * 10 + (x - 48)) (bs.drop (k + 1))) := by
            unfold Hid; rw [HR.out, HD.out, Lib.parseUintM, HX.out, if_pos ⟨d0, d1⟩, if_neg (by omega), if_neg hov]
          have i1 : a * 10 + ((x : Int) - 48) ≤ 2147483647 := by omega
          have HN : Hid (a * 10 + ((x : Int) - 48) = ((acc * 10 + (x - 48) : Nat) : Int) ∧ acc * 10 + (x - 48) ≤ 2147483647) := ⟨by omega, by omega⟩
          clear HR HD HX hov ha hae HA
          go_wp2
          refine ⟨⟨k + 1, acc * 10 + (x - 48), a * 10 + ((x : Int) - 48), rfl, (by first | rfl | (congr 1; omega)), by go_num, by omega, HN, HE⟩, by simp [intOf]; omega⟩
      · have HE : Hid (Lib.parseUintM 2147483647 0 bs = .syntax) := by
          unfold Hid; rw [HR.out, HD.out, Lib.parseUintM, HX.out, if_neg hd]
        have q0 := bits_lo_u8 .or (x : Int) 32
        have q1 := bits_hi_u8 .or (x : Int) 32
        have q2 := bits_lo_u8 .or 95 32
        have q3 := bits_hi_u8 .or 95 32
        clear HR HD HX ha hae HA
        go_wp2_with (go_at_call 44; refine (HL.out _ _).mono ?_; rintro e w3 ⟨rfl, rfl⟩)
        all_goals go_ret2
        all_goals exact ⟨by rw [HE.out]; rfl, rfl⟩
    · have HE : Hid (Lib.parseUintM 2147483647 0 bs = .ok acc) := by
        unfold Hid; rw [HR.out, List.drop_eq_nil_of_le (by omega)]; rfl
      have HAE := hide3 hae
      clear HR ha hae HA
      go_wp2
      go_ret2
      exact ⟨by rw [HE.out, HAE.out]; rfl, rfl⟩
end Go.Proofs.YthfjjfebhenliaaDoor
