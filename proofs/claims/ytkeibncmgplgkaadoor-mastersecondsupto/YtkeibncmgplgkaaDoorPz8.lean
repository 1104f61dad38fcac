import Derived.Test.YtkeibncmgplgkaaDoorPz7
namespace Go.Proofs.YtkeibncmgplgkaaDoor
set_option linter.unusedVariables false
open Go.RowKit Go.Shelf Go.Proofs.YtkeibncmgplgkaaDoor.Nm

def pk : Lib.NumEnd Nat → Option Nat
  | .ok u => some u
  | _ => none
/-- as the reference tells it -/
def numI : Option Nat → Int
  | some n => n
  | none => -1
theorem numR_pk {B M : Nat} {t : ByteArray} (hM : 2 ^ B - 1 = M) (h0 : 0 < t.size) (h10 : t.size ≤ 10) : numR B 10 t = pk (Lib.parseUintM M 0 t.data.toList) := by
  unfold numR
  rw [if_neg (by omega)]
  have : Lib.parseUintB B t.data.toList = Lib.parseUintM M 0 t.data.toList := by
    unfold Lib.parseUintB
    rw [if_neg, hM]
    intro e
    have hl : t.data.toList.length = t.size := by simp
    rw [e] at hl; simp at hl; omega
  rw [this]
  cases Lib.parseUintM M 0 t.data.toList <;> rfl

set_option maxRecDepth 100000 in
set_option maxHeartbeats 4000000 in
/-- gazetteerref1.Number of ten digits -/
theorem refNum (t : ByteArray) (B M : Nat) (top : Int) (hM : 2 ^ B - 1 = M) (hMt : ∀ v : Nat, v < 10000000000 → (v ≤ M ↔ (v : Int) ≤ top)) (hM2 : M ≤ 18446744073709551615) (htop0 : 0 ≤ top) (htop : top ≤ 9999999999) (w : World) (ht : t.size ≤ 1048576) :
    Calls Tryd.prog 10 #[.string t, .int .i64 10, .int .i64 top] w fun e w' => e = .returned (.int .i64 (numI (numR B 10 t))) ∧ w' = w := by
  by_cases h0 : t.size = 0
  · have he := isEmpty_true h0
    have HE : Hid (numR B 10 t = none) := by
      cases h : numR B 10 t with
      | none => exact rfl
      | some n => have := numR_dig h; omega
    clear h0 hMt
    go_enter Tryd.func10, Tryd.ntmps10
    go_wp2
    go_ret
    exact ⟨by rw [HE.out]; rfl, rfl⟩
  · have he := isEmpty_false (r := t) (by omega)
    by_cases h10 : 10 < t.size
    · have HE : Hid (numR B 10 t = none) := numR_long h10
      clear h0 hMt
      go_enter Tryd.func10, Tryd.ntmps10
      go_wp2
      go_ret
      exact ⟨by rw [HE.out]; rfl, rfl⟩
    · have HP := hide3 (numR_pk (t := t) hM (by omega) (by omega))
      have hlen : t.data.toList.length = t.size := by simp
      have HBt := hide3 (fun (j : Nat) (b : UInt8) (h : t.data.toList[j]? = some b) => (list_bt t j b h).2)
      have h11 : t.size ≤ 10 := by omega
      have HMt := hide3 hMt
      have HL := hide3 hlen
      clear h0 h10 hMt hM hlen
      generalize hbs : t.data.toList = bs at *
      have hM2' := hide3 hM2
      clear hM2 hbs
      go_enter Tryd.func10, Tryd.ntmps10
      go_wp2_with fail
      go_loop [7, 8] (fun vv kv => ∃ (k v : Nat) (a : Int), kv = .int .i64 (k : Int) ∧ vv = .int .i64 a ∧ k ≤ t.size ∧ 0 ≤ a ∧ a ≤ 9999999999 ∧ Hid (a = (v : Int) ∧ v + 1 ≤ 10 ^ k ∧ ((v ≤ M ∧ pk (Lib.parseUintM M 0 bs) = pk (Lib.parseUintM M v (bs.drop k))) ∨ (M < v ∧ pk (Lib.parseUintM M 0 bs) = none)))) (fun _ kv => t.size - (intOf kv).toNat)
      case atStart => exact ⟨0, 0, 0, rfl, rfl, Nat.zero_le _, Int.le_refl _, by decide, rfl, by simp, .inl ⟨Nat.zero_le _, rfl⟩⟩
      case round =>
        obtain ⟨k, v, a, rfl, rfl, hk, ha0, ha1, HR⟩ := hrel
        by_cases hlt : k < t.size
        · obtain ⟨y, hy, HY, hyl⟩ := bt_wrap hlt
          have HD : Hid (∃ c : UInt8, c.toNat = y ∧ bs.drop k = c :: bs.drop (k + 1)) := by
            have hkb : k < bs.length := by rw [HL.out]; exact hlt
            exact ⟨bs[k], by rw [HBt.out k _ (List.getElem?_eq_getElem hkb)]; exact HY, List.drop_eq_getElem_cons hkb⟩
          have h9 : k ≤ 9 := by omega
          by_cases hd : 48 ≤ y ∧ y ≤ 57
          · obtain ⟨d0, d1⟩ := hd
            have HN : Hid (a * 10 + (y : Int) - 48 = ((v * 10 + (y - 48) : Nat) : Int) ∧ (v * 10 + (y - 48)) + 1 ≤ 10 ^ (k + 1) ∧ ((v * 10 + (y - 48) ≤ M ∧ pk (Lib.parseUintM M 0 bs) = pk (Lib.parseUintM M (v * 10 + (y - 48)) (bs.drop (k + 1)))) ∨ (M < v * 10 + (y - 48) ∧ pk (Lib.parseUintM M 0 bs) = none))) := by
              obtain ⟨hav, hv10, hcase⟩ := HR.out
              obtain ⟨c, hc, hdr⟩ := HD.out
              have hp9 : 10 ^ k ≤ 10 ^ 9 := Nat.pow_le_pow_right (by omega) h9
              refine ⟨by omega, by rw [Nat.pow_succ]; omega, ?_⟩
              rcases hcase with ⟨h1, h2⟩ | ⟨h1, h2⟩
              · rw [hdr, Lib.parseUintM, hc, if_pos ⟨d0, d1⟩, if_neg (by omega)] at h2
                by_cases hov : M < v * 10 + (y - 48)
                · rw [if_pos hov] at h2; exact .inr ⟨hov, h2⟩
                · rw [if_neg hov] at h2; exact .inl ⟨by omega, h2⟩
              · exact .inr ⟨by omega, h2⟩
            have hb1 : a * 10 + (y : Int) - 48 ≤ 9999999999 := by
              obtain ⟨hav, hv10, _⟩ := HN.out
              have hp : 10 ^ (k + 1) ≤ 10 ^ 10 := Nat.pow_le_pow_right (by omega) (by omega)
              omega
            have hb0 : 0 ≤ a * 10 + (y : Int) - 48 := by omega
            clear HR HD HY
            go_wp2_with fail
            refine ⟨⟨k + 1, v * 10 + (y - 48), a * 10 + (y : Int) - 48, by go_num, (by first | rfl | (congr 1; omega)), by omega, hb0, hb1, HN⟩, by simp [intOf]; omega⟩
          · have HE : Hid (numR B 10 t = none) := by
              unfold Hid
              rw [HP.out]
              obtain ⟨hav, hv10, hcase⟩ := HR.out
              obtain ⟨c, hc, hdr⟩ := HD.out
              rcases hcase with ⟨h1, h2⟩ | ⟨h1, h2⟩
              · rw [h2, hdr, Lib.parseUintM, hc, if_neg hd]; rfl
              · exact h2
            clear HR HD HY HP
            rcases (show y < 48 ∨ (48 ≤ y ∧ 57 < y) by omega) with h | ⟨h, h'⟩
            · go_wp2
              go_ret
              exact ⟨by rw [HE.out]; rfl, rfl⟩
            · go_wp2
              go_ret
              exact ⟨by rw [HE.out]; rfl, rfl⟩
        · have HE : Hid (numR B 10 t = if (v : Int) ≤ top then some v else none) := by
            unfold Hid
            rw [HP.out]
            obtain ⟨hav, hv10, hcase⟩ := HR.out
            have hp : 10 ^ k ≤ 10 ^ 10 := Nat.pow_le_pow_right (by omega) (by omega)
            have hiff := HMt.out v (by omega)
            have hdn : bs.drop k = [] := List.drop_eq_nil_of_le (by rw [HL.out]; omega)
            rcases hcase with ⟨h1, h2⟩ | ⟨h1, h2⟩
            · rw [h2, hdn, if_pos (hiff.1 h1)]; rfl
            · rw [h2, if_neg (fun h => by have := hiff.2 h; omega)]
          have HAV := hide3 HR.out.1
          clear HR HP
          by_cases hle : a ≤ top
          · have hng : ¬ top < a := by omega
            go_wp2_with fail
            go_ret
            exact ⟨by rw [HE.out, if_pos (by rw [← HAV.out]; exact hle), HAV.out]; rfl, rfl⟩
          · have hgt : top < a := by omega
            go_wp2_with fail
            go_ret
            exact ⟨by rw [HE.out, if_neg (by rw [← HAV.out]; omega)]; rfl, rfl⟩
end Go.Proofs.YtkeibncmgplgkaaDoor
