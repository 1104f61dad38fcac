import Derived.Test.YtfacfhigehdejaaGreatDoorDh0G
import Derived.Test.YtfacfhigehdejaaGreatDoorSu1G
import Derived.Test.YtfacfhigehdejaaGreatDoorLowG
import Derived.BigGuard
/-
  Proofs: strconv.ParseUint in base 16 and 16 bits, of what is told of a group. (The verifier's own text.)
-/
namespace Go.Proofs.YtfacfhigehdejaaGreatDoor
set_option linter.unusedVariables false
set_option linter.unusedSimpArgs false
open Go.RowKit Go.Shelf Go.Proofs.YtfacfhigehdejaaGreatDoor.Nm

theorem vH_take_le (l : List Nat) : ∀ k, vH (l.take k) ≤ vH l := by
  intro k
  have key : ∀ (m : List Nat) (a : Nat), a ≤ m.foldl (fun a x => a * 16 + x) a := by
    intro m
    induction m with
    | nil => intro a; exact Nat.le_refl _
    | cons y m ih => intro a; rw [List.foldl_cons]; exact Nat.le_trans (by omega) (ih _)
  conv => rhs; rw [← List.take_append_drop k l]
  unfold vH
  rw [List.foldl_append]
  exact key _ _
theorem vH_step {l : List Nat} {k : Nat} (h : k < l.length) : vH (l.take (k + 1)) = vH (l.take k) * 16 + l[k] := by
  rw [List.take_add_one, List.getElem?_eq_getElem h, Option.toList_some, vH_snoc]
theorem dig16 : ∀ v, v < 16 → (48 ≤ bt d16 v ∧ bt d16 v ≤ 57 ∧ bt d16 v - 48 = v) ∨ (97 ≤ bt d16 v ∧ bt d16 v ≤ 102 ∧ bt d16 v - 87 = v) := by decide +kernel
theorem low_or : ∀ x : Nat, x < 103 → 97 ≤ x → bits .or .u8 (x : Int) 32 = (x : Int) := by
  intro x h1 h2
  have : x = 97 ∨ x = 98 ∨ x = 99 ∨ x = 100 ∨ x = 101 ∨ x = 102 := by omega
  rcases this with rfl | rfl | rfl | rfl | rfl | rfl <;> decide +kernel
set_option maxHeartbeats 32000000 in
set_option maxRecDepth 100000 in
/-- internal/strconv.ParseUint -/
theorem parse16 (u : Nat) (hu : u ≤ 65535) (w : World) :
    Calls Tryz.prog 47 #[.string (bts (hxL u)), .int .i64 16, .int .i64 16] w fun e w' => e = .returned (.tuple #[.int .u64 (u : Int), .nilIface]) ∧ Below w.heap.size w w' := by
  have hpos := hxV_pos u
  have hln := hxV_len 3 u (by omega)
  have hsz : (bts (hxL u)).size = (hxV u).length := by rw [bts_size, hxL_len]
  have HU : Hid (vH (hxV u) = u) := vH_hx u u (Nat.le_refl _)
  have HV : Hid (∀ x ∈ hxV u, x < 16) := hxV_lt u u (Nat.le_refl _)
  have HT : Hid (∀ j (hj : j < (hxV u).length), bt (bts (hxL u)) j = bt d16 (hxV u)[j]) := fun j hj => by
    rw [bts_bt (hxL u) (fun x hx => (hxL_ok u x hx).1) j (by rw [hxL_len]; exact hj)]
    unfold hxL
    rw [List.getElem_map]
  generalize bts (hxL u) = t at *
  generalize hxV u = V at *
  have he := isEmpty_false (r := t) (by omega)
  have hcv := Lib.run_convert_string_bytes (P := Tryz.prog) w 9 69 5 t Tryz.underlying9 Tryz.underlying69 Tryz.underlying5
  have HB : Hid (∀ j, j < t.size → (Lib.bytesWorld w 5 t).cell? ⟨w.heap.size, j, none⟩ = some (.int .u8 (bt t j))) := fun j hj => by
    have h := Lib.bytesWorld_cell w 5 t j hj
    have e : (t.data.toList.getD j 0).toNat = bt t j := by
      rw [List.getD_eq_getElem?_getD, List.getElem?_eq_getElem (by simpa using hj), Option.getD_some, bt_list t j hj]
    rw [h, e]
  have HBw : Hid (Below w.heap.size w (Lib.bytesWorld w 5 t)) := Lib.bytesWorld_below _ _ _
  obtain ⟨W1, hW1⟩ : ∃ W1, W1 = Lib.bytesWorld w 5 t := ⟨_, rfl⟩
  rw [← hW1] at hcv HB HBw
  clear hW1
  have hmv : IntKind.u64.wrap (IntKind.u64.wrap 65536 - 1) = 65535 := by
    rw [IntKind.wrap_u64, IntKind.wrap_u64]
    decide
  have htl : t.size ≤ 4 := by omega
  have ht0 : 0 < t.size := by omega
  have HSZ := hide' hsz
  clear hsz hpos hln
  have HL := hide' (fun (x : Int) (w : World) => AnyPu.internal_strconv_lower { Tryz.laysPu14 with } x w)
  go_enter Tryz.func47, Tryz.ntmps47
  go_wp2
  go_loop [12, 13, 101] (fun uv nv iv => ∃ (k : Nat) (a : Int), uv = .bool false ∧ nv = .int .u64 a ∧ iv = .int .i64 (k : Int) ∧ k ≤ t.size ∧ Hid (a = (vH (V.take k) : Int)))
    (fun _ _ iv => t.size - (intOf iv).toNat)
  case atStart => exact ⟨0, 0, rfl, rfl, rfl, Nat.zero_le _, rfl⟩
  case round =>
    obtain ⟨k, a, rfl, rfl, rfl, hk, HA⟩ := hrel
    have a0 : 0 ≤ a := by have := HA.out; omega
    have a1 : a ≤ 65535 := by have := HA.out; have := HU.out; have := vH_take_le V k; omega
    by_cases hlt : k < t.size
    · have hkV : k < V.length := by have := HSZ.out; omega
      have hc := HB.out k hlt
      have hv := HV.out _ (List.getElem_mem hkV)
      have hbx := HT.out k hkV
      have hst := vH_step hkV
      have hle := vH_take_le V (k + 1)
      have HA2 : Hid (vH (V.take (k + 1)) = vH (V.take k) * 16 + V[k]) := hst
      have HLe : Hid (vH (V.take k) * 16 + V[k] ≤ 65535) := by unfold Hid; have := HU.out; omega
      generalize V[k] = v at *
      obtain ⟨x, hx⟩ : ∃ x, bt t k = x := ⟨_, rfl⟩
      rw [hx] at hc hbx
      have hx256 : x < 256 := by rw [← hx]; exact bt_lt _ _
      have hdg := dig16 v hv
      rw [← hbx] at hdg
      clear hx hbx hst hle hv
      rcases hdg with ⟨d0, d1, d2⟩ | ⟨d0, d1, d2⟩
      · have i1 : a * 16 + ((x : Int) - 48) ≤ 65535 := by have := HA.out; have := HLe.out; omega
        have HN : Hid (a * 16 + ((x : Int) - 48) = (vH (V.take (k + 1)) : Int)) := by unfold Hid; have := HA.out; have := HA2.out; omega
        clear d2
        go_wp2
        refine ⟨⟨k + 1, a * 16 + ((x : Int) - 48), rfl, (by first | rfl | (congr 1; omega)), by go_num, by omega, HN⟩, by simp [intOf]; omega⟩
      · have hlo := low_or x (by omega) d0
        have i1 : a * 16 + ((x : Int) - 97 + 10) ≤ 65535 := by have := HA.out; have := HLe.out; omega
        have HN : Hid (a * 16 + ((x : Int) - 97 + 10) = (vH (V.take (k + 1)) : Int)) := by unfold Hid; have := HA.out; have := HA2.out; omega
        clear d2
        go_wp2_with (go_at_call 53; refine (HL.out _ _).mono ?_; rintro e w3 ⟨rfl, rfl⟩)
        refine ⟨⟨k + 1, a * 16 + ((x : Int) - 97 + 10), rfl, (by first | rfl | (congr 1; omega)), by go_num, by omega, HN⟩, by simp [intOf]; omega⟩
    · have HAE : Hid (a = (u : Int)) := by
        unfold Hid
        have h1 := HA.out
        have h2 := HSZ.out
        rw [List.take_of_length_le (by omega), HU.out] at h1
        exact h1
      clear HA
      go_wp2
      go_ret2
      exact ⟨by rw [HAE.out]; rfl, HBw.out⟩
set_option maxRecDepth 100000 in
/-- strconv.ParseUint -/
theorem spu16 (u : Nat) (hu : u ≤ 65535) (w : World) :
    Calls Tryz.prog 37 #[.string (bts (hxL u)), .int .i64 16, .int .i64 16] w fun e w' => e = .returned (.tuple #[.int .u64 (u : Int), .nilIface]) ∧ Below w.heap.size w w' := by
  have HI := hide' (parse16 u hu w)
  go_enter Tryz.func37, Tryz.ntmps37
  go_wp2_with (go_at_call 47; refine HI.out.mono ?_; rintro e w1 ⟨rfl, hB⟩)
  go_ret2
  exact ⟨rfl, hB⟩
end Go.Proofs.YtfacfhigehdejaaGreatDoor
