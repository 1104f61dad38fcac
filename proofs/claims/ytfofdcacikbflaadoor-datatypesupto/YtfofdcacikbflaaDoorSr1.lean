import Derived.Test.YtfofdcacikbflaaDoorSu1G
import Derived.Test.YtfofdcacikbflaaDoorAp1
namespace Go.Proofs.YtfofdcacikbflaaDoor
set_option linter.unusedVariables false
open Go.RowKit Go.Shelf Go.Proofs.YtfofdcacikbflaaDoor.Nm

theorem Tryd.infoBool : (Tryd.prog.info? 4).map (fun i => (i.zero, i.size, i.bytes)) = some (some (.bool false), 1, 1) := by kernel_rfl
/-- which types there are, as cells -/
def thC (M : Nat → Bool) : List Value := (List.range 65536).map fun k => Value.bool (M k)
theorem thC_get (M : Nat → Bool) (k : Nat) (h : k < 65536) : (thC M)[k]? = some (.bool (M k)) := by
  unfold thC; rw [List.getElem?_map, List.getElem?_range h]; rfl
theorem thC_set (M : Nat → Bool) (n : Nat) : (thC M).set n (.bool true) = thC (fun k => M k || decide (k = n)) := by
  unfold thC
  apply List.ext_getElem?
  intro k
  rw [List.getElem?_set]
  by_cases h : k < 65536
  · rw [List.getElem?_map, List.getElem?_map, List.getElem?_range h]
    by_cases e : n = k
    · subst e; simp only [List.length_map, List.length_range, h, if_true]; simp
    · rw [if_neg e]; simp [Ne.symm e]
  · rw [List.getElem?_map, List.getElem?_map, List.getElem?_eq_none (by rw [List.length_range]; omega)]
    split
    · rename_i e; rw [List.length_map, List.length_range, if_neg (by omega)]; rfl
    · rfl
theorem thC_new : (madeCells (Value.bool false).cells (65536 * 1)).toList = thC (fun _ => false) := by
  show (madeCells #[Value.bool false] (65536 * 1)).toList = _
  rw [toList_madeCells_one, Nat.mul_one]
  unfold thC
  rw [List.map_const', List.length_range]
theorem two_new (w : World) (a b : Value) (T : TypeId) : ∀ j u, ([a, b] : List Value)[j]? = some u → (w.alloc (.cells #[a, b] T)).cell? ((⟨w.heap.size, 0, none⟩ : Addr).add j) = some u
  | 0, u, h => by simp at h; subst h; simp [Addr.add]
  | 1, u, h => by simp at h; subst h; simp [Addr.add]
  | j + 2, u, h => by simp at h
theorem bitV_yes {M : Nat → Bool} {base k : Nat} (h : M (base + k) = true) : bitV M base (k + 1) = 2 * bitV M base k + 1 := by
  show 2 * bitV M base k + (if M (base + k) = true then 1 else 0) = _
  rw [if_pos h]
theorem bitV_no {M : Nat → Bool} {base k : Nat} (h : M (base + k) = false) : bitV M base (k + 1) = 2 * bitV M base k := by
  show 2 * bitV M base k + (if M (base + k) = true then 1 else 0) = _
  rw [if_neg (by rw [h]; decide)]; rfl
theorem topB_yes {M : Nat → Bool} {b k : Nat} (h : M (256 * b + k) = true) : topB M b (k + 1) = k / 8 + 1 := by
  show (if M (256 * b + k) = true then k / 8 + 1 else topB M b k) = _
  rw [if_pos h]
theorem topB_no {M : Nat → Bool} {b k : Nat} (h : M (256 * b + k) = false) : topB M b (k + 1) = topB M b k := by
  show (if M (256 * b + k) = true then k / 8 + 1 else topB M b k) = _
  rw [if_neg (by rw [h]; decide)]
theorem marks_snoc (M : Nat → Bool) (b n : Nat) : marks M b (n + 1) = marks M b n ++ [bitV M (256 * b + 8 * n) 8] := by simp [marks, List.range_succ]

set_option maxRecDepth 100000 in
set_option maxHeartbeats 2000000 in
/-- gazetteerref1.Set -/
theorem refSet_any (L : List Int) (p : Option Addr) (cap : Nat) (w : World) (hL : L.length ≤ 1048576) (hlc : L.length ≤ cap) (hc : cap ≤ 9223372036854775807) (hat : ZAt w w.heap.size p L) :
    Calls Tryd.prog 12 #[.slice p L.length cap] w fun e w' => e = .returned (.string (bts (setB (L.mergeSort (fun x y => decide (x ≤ y)))))) ∧ Below w.heap.size w w' := by
  obtain ⟨i0, hi, hz0, hz1, hz2⟩ := info_parts Tryd.infoByte
  obtain ⟨j0, hj, hj0, hj1, hj2⟩ := info_parts Tryd.infoBool
  have HSET := hide' (ref_set L)
  generalize (bts (setB (L.mergeSort (fun x y => decide (x ≤ y))))) = RES at *
  have HAT := hide' hat
  clear hat
  go_enter Tryd.func12, Tryd.ntmps12
  go_wp2_with (at_make; refine wpList_make_full _ rfl _ _ 51 rfl w.heap.size 4 j0 (.bool false) 1 Tryd.underlying51 hj hj0 hj1 .i64 .i64 _ _ 65536 rfl rfl rfl rfl (by rw [hj2]; omega) (by unfold maxLen; omega) (Nat.le_refl _) ?_; intro w0 hown0 hgrow0; rw [thC_new] at hown0)
  have hB0 : Below w.heap.size w w0 := (Below.refl _ w).grown hgrow0 (Nat.le_refl _) (fun k e => by cases e)
  go_loopw [16] (fun iv wr => ∃ (i : Nat) (M : Nat → Bool), iv = .int .i64 i ∧ i ≤ L.length ∧ wr.ownsRow w.heap.size 4 1 (.slice (some ⟨w.heap.size, 0, none⟩) 65536 65536) 65536 (thC M) ∧ Hid (∀ n : Nat, M n = true ↔ ((n : Int) ∈ L.take i ∧ isTy n = true)) ∧ Below w.heap.size w wr) (fun iv _ => L.length - (intOf iv).toNat)
  case atStart => exact ⟨0, _, rfl, Nat.zero_le _, hown0, fun n => by simp, hB0⟩
  case round =>
    clear hown0 hgrow0 hB0
    obtain ⟨i, M, rfl, hi1, hown, HM, hBr⟩ := hrel
    by_cases hlt : i < L.length
    · obtain ⟨g, off, rfl, hg, hcell0⟩ := HAT.out i hlt
      have hcell := (hBr.cell (p := ⟨g, off + i, none⟩) hg).trans hcell0
      have HTK : Hid (L.take (i + 1) = L.take i ++ [L[i]]) := List.take_succ_eq_append_getElem hlt
      generalize L[i] = x at *
      clear hcell0
      rcases (show x < 1 ∨ (1 ≤ x ∧ 65535 < x) ∨ (1 ≤ x ∧ x ≤ 65535) by omega) with hx | ⟨hx, hx'⟩ | ⟨hx, hx'⟩
      · have HM2 : Hid (∀ n : Nat, M n = true ↔ ((n : Int) ∈ L.take (i + 1) ∧ isTy n = true)) := fun n => by
          rw [HM.out, HTK.out, List.mem_append, List.mem_singleton]
          constructor
          · exact fun h => ⟨.inl h.1, h.2⟩
          · rintro ⟨h1 | h1, h2⟩
            · exact ⟨h1, h2⟩
            · have := of_decide_eq_true h2; omega
        clear HM HTK
        go_wp2
        exact ⟨⟨i + 1, M, by go_num, hlt, hown, HM2, hBr⟩, by simp [intOf]; omega⟩
      · have HM2 : Hid (∀ n : Nat, M n = true ↔ ((n : Int) ∈ L.take (i + 1) ∧ isTy n = true)) := fun n => by
          rw [HM.out, HTK.out, List.mem_append, List.mem_singleton]
          constructor
          · exact fun h => ⟨.inl h.1, h.2⟩
          · rintro ⟨h1 | h1, h2⟩
            · exact ⟨h1, h2⟩
            · have := of_decide_eq_true h2; omega
        clear HM HTK
        go_wp2
        exact ⟨⟨i + 1, M, by go_num, hlt, hown, HM2, hBr⟩, by simp [intOf]; omega⟩
      · obtain ⟨n, rfl⟩ : ∃ n : Nat, x = n := ⟨x.toNat, by omega⟩
        have hn : n < 65536 := by omega
        have HM2 : Hid (∀ m : Nat, (M m || decide (m = n)) = true ↔ ((m : Int) ∈ L.take (i + 1) ∧ isTy m = true)) := fun m => by
          rw [HTK.out, List.mem_append, List.mem_singleton, Bool.or_eq_true, HM.out, decide_eq_true_iff]
          constructor
          · rintro (h | rfl)
            · exact ⟨.inl h.1, h.2⟩
            · exact ⟨.inr rfl, decide_eq_true (by omega)⟩
          · rintro ⟨h1 | h1, h2⟩
            · exact .inl ⟨h1, h2⟩
            · exact .inr (by omega)
        have hcM : wr.cell? ⟨w.heap.size, n, none⟩ = some (.bool (M n)) := by rw [hown.cellAt n (by omega)]; exact thC_get M n hn
        have hfz := hown.frozenAt n
        have hst := (hown.stored n (.bool true)).1
        rw [thC_set] at hst
        have hB2 : Below w.heap.size w (wr.setCell ⟨w.heap.size, n, none⟩ (.bool true)) := hBr.setCell (p := ⟨w.heap.size, n, none⟩) (Nat.le_refl _) _
        clear HM HTK
        go_wp2
        exact ⟨⟨i + 1, _, by go_num, hlt, hst, HM2, hB2⟩, by simp [intOf]; omega⟩
    · have hiL : i = L.length := by omega
      subst hiL
      rw [List.take_length] at HM
      have HR : Hid (bts (refS M 256) = RES) := HSET.out M HM.out
      clear HM HSET
      obtain ⟨wA, rfl⟩ : ∃ wA, wA = wr := ⟨_, rfl⟩
      have hgl : w.heap.size < wA.heap.size := (hown.lt w.heap.size rfl).2
      have HCM : Hid (∀ (wr : World) (k : Nat), Below wA.heap.size wA wr → k < 65536 → wr.cell? ⟨w.heap.size, k, none⟩ = some (.bool (M k))) := fun wr k hB hk => by
        rw [hB.cell (p := ⟨w.heap.size, k, none⟩) hgl, hown.cellAt k (by omega)]; exact thC_get M k hk
      have hBA := hBr
      clear hBr hown
      go_wp2_with fail
      go_loopw [6, 7] (fun ov bv wr => ∃ b : Nat, bv = .int .i64 b ∧ b ≤ 256 ∧ wr.ownsRow wA.heap.size 5 1 ov (refS M b).length (byts (refS M b)) ∧ Below wA.heap.size wA wr) (fun _ bv _ => 256 - (intOf bv).toNat)
      case atStart => exact ⟨0, rfl, by omega, World.ownsRow_nil _ _ _ _, Below.refl _ _⟩
      case round =>
        obtain ⟨b, rfl, hb, hown, hBr⟩ := hrel
        by_cases hb2 : b < 256
        · go_wp2_with fail
          go_loop [8, 9] (fun nv kv => ∃ k : Nat, kv = .int .i64 k ∧ k ≤ 256 ∧ nv = .int .i64 (topB M b k : Nat)) (fun _ kv => 256 - (intOf kv).toNat)
          case atStart => exact ⟨0, rfl, by omega, rfl⟩
          case round =>
            obtain ⟨k, rfl, hk, rfl⟩ := hrel
            by_cases hk2 : k < 256
            · have hcell := HCM.out wr (256 * b + k) hBr (by omega)
              cases hm : M (256 * b + k) with
              | true =>
                rw [hm] at hcell
                have HT : Hid (topB M b (k + 1) = k / 8 + 1) := topB_yes hm
                clear hm
                go_wp2
                go_round
                case rel => exact ⟨k + 1, by go_num, hk2, by rw [HT.out]; simp⟩
                case measure => simp [intOf]; omega
              | false =>
                rw [hm] at hcell
                have HT : Hid (topB M b (k + 1) = topB M b k) := topB_no hm
                clear hm
                go_wp2
                go_round
                case rel => exact ⟨k + 1, by go_num, hk2, by rw [HT.out]⟩
                case measure => simp [intOf]; omega
            · obtain rfl : k = 256 := by omega
              have htl := topB_le M b 256
              have hrl := refS_len M b
              have hsr : refS M (b + 1) = refS M b ++ blkB M b := rfl
              have hbk : blkB M b = if topB M b 256 = 0 then [] else b :: topB M b 256 :: marks M b (topB M b 256) := rfl
              obtain ⟨n, hn⟩ : ∃ n, topB M b 256 = n := ⟨_, rfl⟩
              rw [hn] at htl hbk ⊢
              obtain ⟨R, hR⟩ : ∃ R, refS M b = R := ⟨_, rfl⟩
              rw [hR] at hown hrl hsr
              clear hn hR
              by_cases h0 : n = 0
              · rw [if_pos h0] at hbk
                have HE : Hid (refS M (b + 1) = R) := by unfold Hid; rw [hsr, hbk, List.append_nil]
                subst h0
                clear hsr hbk
                go_wp2
                exact ⟨⟨b + 1, by go_num, hb2, by rw [HE.out]; exact hown, hBr⟩, by simp [intOf]; omega⟩
              · rw [if_neg h0] at hbk
                have HE : Hid (refS M (b + 1) = R ++ (b :: n :: marks M b n)) := by unfold Hid; rw [hsr, hbk]
                have hn0 : ((n : Int) == 0) = false := by rw [beq_eq_false_iff_ne]; omega
                have hn32 : n ≤ 32 := by omega
                clear hsr hbk h0 htl
                go_wp2_with (at_builtin; refine wpList_append_own _ rfl _ _ 44 rfl wA.heap.size 5 i0 (.int .u8 0) 1 1 Tryd.underlying44 hi hz0 hz1 hz2 rfl (by decide) _ _ _ rfl (hown.alloc _) ⟨wr.heap.size, 0, none⟩ 2 2 [.int .u8 (b : Int), .int .u8 (n : Int)] rfl rfl (two_new _ _ _ _) (by simp [Value.oneCell']) (by unfold maxLen; omega) (by omega) (by have := hBr.size; simp; omega) ?_; intro v4 w4 hown4 hgrow4 _)
                have hB4 : Below wA.heap.size wA w4 := below_app hBr (Nat.le_refl _) hown hgrow4
                obtain ⟨wb, rfl⟩ : ∃ wb, wb = wr := ⟨_, rfl⟩
                go_loopw [6, 10] (fun ov jv wr => ∃ j : Nat, jv = .int .i64 j ∧ j ≤ n ∧ wr.ownsRow wA.heap.size 5 1 ov (R.length + 2 + j) (byts (R ++ (b :: n :: marks M b j))) ∧ Below wA.heap.size wA wr) (fun _ jv _ => n - (intOf jv).toNat)
                case atStart => exact ⟨0, rfl, Nat.zero_le _, by rw [show byts (R ++ (b :: n :: marks M b 0)) = byts R ++ [.int .u8 (b : Int), .int .u8 (n : Int)] by simp [byts, marks]]; exact hown4, hB4⟩
                case round =>
                  clear hown4 hgrow4 hB4
                  obtain ⟨j, rfl, hjn, hown4, hB4⟩ := hrel
                  by_cases hj2 : j < n
                  · go_wp2_with fail
                    go_loop [11, 12] (fun vv kv => ∃ k : Nat, kv = .int .i64 k ∧ k ≤ 8 ∧ vv = .int .i64 (bitV M (256 * b + 8 * j) k : Nat)) (fun _ kv => 8 - (intOf kv).toNat)
                    case atStart => exact ⟨0, rfl, by omega, rfl⟩
                    case round =>
                      obtain ⟨k, rfl, hk8, rfl⟩ := hrel
                      have hvl := bitV_lt M (256 * b + 8 * j) k
                      have hp8 : 2 ^ k ≤ 2 ^ 8 := Nat.pow_le_pow_right (by omega) hk8
                      have hv : bitV M (256 * b + 8 * j) k < 256 := by omega
                      clear hvl hp8
                      by_cases hk2 : k < 8
                      · have hcell := HCM.out wr (256 * b + 8 * j + k) hB4 (by omega)
                        cases hm : M (256 * b + 8 * j + k) with
                        | true =>
                          rw [hm] at hcell
                          have HV : Hid (bitV M (256 * b + 8 * j) (k + 1) = 2 * bitV M (256 * b + 8 * j) k + 1) := bitV_yes hm
                          generalize bitV M (256 * b + 8 * j) k = V at *
                          clear hm
                          go_wp2
                          go_round
                          case rel => exact ⟨k + 1, by go_num, hk2, by rw [HV.out]; congr 1; omega⟩
                          case measure => simp [intOf]; omega
                        | false =>
                          rw [hm] at hcell
                          have HV : Hid (bitV M (256 * b + 8 * j) (k + 1) = 2 * bitV M (256 * b + 8 * j) k) := bitV_no hm
                          generalize bitV M (256 * b + 8 * j) k = V at *
                          clear hm
                          go_wp2
                          go_round
                          case rel => exact ⟨k + 1, by go_num, hk2, by rw [HV.out]; congr 1; omega⟩
                          case measure => simp [intOf]; omega
                      · obtain rfl : k = 8 := by omega
                        have HS : Hid (byts (R ++ (b :: n :: marks M b (j + 1))) = byts (R ++ (b :: n :: marks M b j)) ++ [.int .u8 (bitV M (256 * b + 8 * j) 8 : Nat)]) := by
                          unfold Hid; rw [marks_snoc]; simp [byts]
                        generalize bitV M (256 * b + 8 * j) 8 = V at *
                        go_wp2_with (at_builtin; refine wpList_append_own _ rfl _ _ 44 rfl wA.heap.size 5 i0 (.int .u8 0) 1 1 Tryd.underlying44 hi hz0 hz1 hz2 rfl (by decide) _ _ _ rfl (hown4.alloc _) ⟨wr.heap.size, 0, none⟩ 1 1 [.int .u8 (V : Int)] rfl rfl (cell_one_new _ _ _) (by simp [Value.oneCell']) (by unfold maxLen; omega) (by omega) (by have := hB4.size; simp; omega) ?_; intro v5 w5 hown5 hgrow5 _)
                        refine ⟨⟨j + 1, by go_num, hj2, ?_, below_app hB4 (Nat.le_refl _) hown4 hgrow5⟩, by simp [intOf]; omega⟩
                        rw [HS.out]; exact hown5
                  · obtain rfl : j = n := by omega
                    go_wp2
                    refine ⟨⟨b + 1, by go_num, hb2, ?_, hB4⟩, by simp [intOf]; omega⟩
                    rw [HE.out]
                    have : (R ++ (b :: j :: marks M b j)).length = R.length + 2 + j := by simp [marks_len]; omega
                    rw [this]; exact hown4
        · obtain rfl : b = 256 := by omega
          obtain ⟨pA, cA, rfl, hbc, hbc9, hbsh⟩ := owns_shape hown
          have hcv := str_owns hown (refS_lt M 256 (Nat.le_refl _))
          rw [HR.out] at hcv
          obtain ⟨R, hR⟩ : ∃ R, refS M 256 = R := ⟨_, rfl⟩
          rw [hR] at hcv hown
          simp only [hR]
          have hrl := refS_len M 256
          rw [hR] at hrl
          clear hbsh hR HR
          go_wp2
          go_ret
          exact ⟨rfl, bstep hBA hBr hBA.size⟩
end Go.Proofs.YtfofdcacikbflaaDoor
