import Derived.Test.YtmbjmokhkonpiaaGreatDoorRf1G
import Derived.Test.YtmbjmokhkonpiaaGreatDoorWs1G
import Derived.Test.YtmbjmokhkonpiaaGreatDoorShwG
import Derived.Deep.RegionLaw
/-
  The reference's Hex, To32, Base64. (The verifier's own text.)
-/
namespace Go.Proofs.YtmbjmokhkonpiaaGreatDoor
set_option linter.unusedVariables false
set_option linter.unusedSimpArgs false
open Go.RowKit Go.Shelf Go.Proofs.YtmbjmokhkonpiaaGreatDoor.Nm

def filM (n : Nat) : Nat := (4 - n % 4) % 4
set_option maxRecDepth 100000 in
set_option maxHeartbeats 2000000 in
/-- gazetteerref1.coded, 4 bits -/
theorem coded4 (p : Option Addr) (cap : Nat) (l : List Nat) (d : ByteArray) (w : World) (hat : NumsAt w p l) (hl : l.length ≤ 16777216) (hlc : l.length ≤ cap) (hc : cap ≤ 9223372036854775807) (hb : Bin l) (hd : d.size = 16) :
    Calls Tryz.prog 59 #[.slice p l.length cap, .int .i64 4, .string d] w fun e w' => e = .returned (.string (bts ((codeP 4 l).map (bt d)))) ∧ Below w.heap.size w w' := by
  obtain ⟨i0, hi, hz0, hz1, hz2⟩ := info_parts Tryz.infoByte
  have HB := hide' hb
  go_enter Tryz.func59, Tryz.ntmps59
  go_wp2_with fail
  go_loopw [0, 7] (fun bv ov wr => ∃ (m acc : List Nat) (q : Option Addr) (cq : Nat), bv = .slice q m.length cq ∧ NumsAt w q m ∧ m.length ≤ cq ∧ cq ≤ 9223372036854775807 ∧ Hid (Bin m) ∧ acc.length + m.length ≤ l.length ∧ Hid (codeP 4 l = acc ++ codeP 4 m) ∧ Hid (∀ v ∈ acc, v < 16) ∧ wr.ownsRow w.heap.size 5 1 ov acc.length (byts (acc.map (bt d))) ∧ Below w.heap.size w wr) (fun bv _ _ => slen bv)
  case atStart => exact ⟨l, [], p, cap, rfl, hat, hlc, hc, HB, by simp, rfl, (fun x hx => by cases hx), World.ownsRow_nil _ _ _ _, Below.refl _ _⟩
  case round =>
    obtain ⟨m, acc, q, cq, rfl, hatq, hmc, hcq, HBm, hlen, HC, HA, hown, hBr⟩ := hrel
    by_cases hm0 : 0 < m.length
    · obtain ⟨g, off, rfl, hg, _⟩ := hatq 0 hm0
      have hmne : m ≠ [] := List.length_pos_iff.1 hm0
      have HST := codeP_step (w := 4) (by omega) hmne
      have hatr := hatq.below hBr
      go_wp2_with fail
      go_loop [8, 9] (fun vv kv => ∃ k : Nat, kv = .int .i64 k ∧ k ≤ 4 ∧ vv = .int .i64 ((val (pd m k) : Nat) : Int)) (fun _ kv => (4 - intOf kv).toNat)
      case atStart => exact ⟨0, rfl, by omega, by simp [pd, val]⟩
      case round =>
        obtain ⟨k, rfl, hk5, rfl⟩ := hrel
        have hvb : val (pd m k) < 16 := by
          have h1 := val_lt (pd_bin HBm.out k)
          rw [pd_len] at h1
          have h2 : 2 ^ k ≤ 2 ^ 4 := Nat.pow_le_pow_right (by omega) hk5
          omega
        by_cases hlt : k < 4
        · by_cases hin : k < m.length
          · obtain ⟨g', o', he, hg', hcell⟩ := hatr k hin
            simp at he
            obtain ⟨rfl, rfl⟩ := he
            have hbit := HBm.out _ (List.getElem_mem hin)
            have HV : Hid (((val (pd m (k + 1)) : Nat) : Int) = (val (pd m k) : Int) * 2 + (m[k] : Nat)) := by
              unfold Hid; rw [pd_in hin, val_snoc]; omega
            generalize m[k] = x at *
            generalize val (pd m k) = V at *
            go_wp2
            go_round
            case rel => exact ⟨k + 1, by go_num, hlt, by rw [HV.out]⟩
            case measure => simp [intOf]; omega
          · have hin' : m.length ≤ k := by omega
            have HV : Hid (((val (pd m (k + 1)) : Nat) : Int) = (val (pd m k) : Int) * 2) := by
              unfold Hid; rw [pd_out hin', val_snoc]; omega
            generalize val (pd m k) = V at *
            go_wp2
            go_round
            case rel => exact ⟨k + 1, by go_num, hlt, by rw [HV.out]⟩
            case measure => simp [intOf]; omega
        · obtain rfl : k = 4 := by omega
          have hvd : val (pd m 4) < d.size := by omega
          obtain ⟨y2, hy2, HY2, hy2l⟩ := bt_wrap hvd
          have HC3 : Hid (codeP 4 l = (acc ++ [val (pd m 4)]) ++ codeP 4 (m.drop 4)) := by
            unfold Hid; rw [HC.out, HST, List.append_assoc]; rfl
          have HA3 : Hid (∀ v ∈ acc ++ [val (pd m 4)], v < 16) := fun v hv => by
            rcases List.mem_append.1 hv with h | h
            · exact HA.out v h
            · simp at h; omega
          have HBd : Hid (Bin (m.drop 4)) := HBm.out.drop 4
          have hey : byts ((acc ++ [val (pd m 4)]).map (bt d)) = byts (acc.map (bt d)) ++ [.int .u8 (y2 : Int)] := by simp [byts, HY2]
          have HEY := hide' hey
          clear hey HST HC HA
          by_cases hl5 : m.length < 4
          · have hd0 : m.drop 4 = [] := List.drop_of_length_le (by omega)
            go_wp2_with (at_builtin; refine wpList_append_own _ rfl _ _ 34 rfl w.heap.size 5 i0 (.int .u8 0) 1 1 Tryz.underlying34 hi hz0 hz1 hz2 rfl (by decide) _ _ _ rfl (hown.alloc _) ⟨_, 0, none⟩ 1 1 [.int .u8 (y2 : Int)] rfl rfl (cell_one_new _ _ _) (by simp [Value.oneCell']) (by unfold maxLen; omega) (by omega) (by have := hBr.size; simp; omega) ?_; intro v4 w4 hown4 hgrow4 _)
            refine ⟨⟨[], acc ++ [val (pd m 4)], none, 0, rfl, (fun k hk => by cases hk), Nat.le_refl _, by omega, (fun x hx => by cases hx), by simp; omega, by rw [hd0] at HC3; exact HC3, HA3, ?_, below_app hBr (Nat.le_refl _) hown hgrow4⟩, by simp [slen]; omega⟩
            rw [HEY.out, List.length_append]; exact hown4
          · have hl5' : 4 ≤ m.length := by omega
            go_wp2_with (at_builtin; refine wpList_append_own _ rfl _ _ 34 rfl w.heap.size 5 i0 (.int .u8 0) 1 1 Tryz.underlying34 hi hz0 hz1 hz2 rfl (by decide) _ _ _ rfl (hown.alloc _) ⟨_, 0, none⟩ 1 1 [.int .u8 (y2 : Int)] rfl rfl (cell_one_new _ _ _) (by simp [Value.oneCell']) (by unfold maxLen; omega) (by omega) (by have := hBr.size; simp; omega) ?_; intro v4 w4 hown4 hgrow4 _)
            refine ⟨⟨m.drop 4, acc ++ [val (pd m 4)], _, cq - 4, by rw [List.length_drop], ?_, by rw [List.length_drop]; omega, by omega, HBd, by rw [List.length_drop, List.length_append, List.length_singleton]; omega, HC3, HA3, ?_, below_app hBr (Nat.le_refl _) hown hgrow4⟩, by simp [slen]; omega⟩
            · split
              · intro k hk; rw [List.length_drop] at hk; omega
              · exact hatq.drop 4
            · rw [HEY.out, List.length_append]; exact hown4
    · have hm : m = [] := List.length_eq_zero_iff.1 (by omega)
      subst hm
      have HE : Hid (bts ((codeP 4 l).map (bt d)) = bts (acc.map (bt d))) := by unfold Hid; rw [HC.out, codeP_nil, List.append_nil]
      have hz : (bts (acc.map (bt d))).size = acc.length := by rw [bts_size, List.length_map]
      obtain ⟨pA, cA, rfl, _, _, hsh⟩ := owns_shape hown
      have hcv : (convert 34 9 (.slice pA acc.length cA)).run Tryz.prog wr = .ok (.string (bts (acc.map (bt d)))) wr := by
        rcases hsh with ⟨rfl, h0⟩ | ⟨g, rfl, _, _⟩
        · have ha : acc = [] := List.length_eq_zero_iff.1 h0
          subst ha
          exact nil_str wr cA
        · have h := owns_str (t := bts (acc.map (bt d))) (w := wr) (base := w.heap.size) (g := g) (cap := cA) (by rw [hz, bts_cells _ (fun x hx => by obtain ⟨i, _, rfl⟩ := List.mem_map.1 hx; exact bt_lt _ _)]; exact hown)
          rw [hz] at h; exact h
      clear hz hsh HC
      go_wp2
      go_ret
      exact ⟨by rw [HE.out]; rfl, hBr⟩
set_option maxRecDepth 100000 in
set_option maxHeartbeats 2000000 in
/-- gazetteerref1.coded, 6 bits -/
theorem coded6 (p : Option Addr) (cap : Nat) (l : List Nat) (d : ByteArray) (w : World) (hat : NumsAt w p l) (hl : l.length ≤ 16777216) (hlc : l.length ≤ cap) (hc : cap ≤ 9223372036854775807) (hb : Bin l) (hd : d.size = 64) :
    Calls Tryz.prog 59 #[.slice p l.length cap, .int .i64 6, .string d] w fun e w' => e = .returned (.string (bts ((codeP 6 l).map (bt d)))) ∧ Below w.heap.size w w' := by
  obtain ⟨i0, hi, hz0, hz1, hz2⟩ := info_parts Tryz.infoByte
  have HB := hide' hb
  go_enter Tryz.func59, Tryz.ntmps59
  go_wp2_with fail
  go_loopw [0, 7] (fun bv ov wr => ∃ (m acc : List Nat) (q : Option Addr) (cq : Nat), bv = .slice q m.length cq ∧ NumsAt w q m ∧ m.length ≤ cq ∧ cq ≤ 9223372036854775807 ∧ Hid (Bin m) ∧ acc.length + m.length ≤ l.length ∧ Hid (codeP 6 l = acc ++ codeP 6 m) ∧ Hid (∀ v ∈ acc, v < 64) ∧ wr.ownsRow w.heap.size 5 1 ov acc.length (byts (acc.map (bt d))) ∧ Below w.heap.size w wr) (fun bv _ _ => slen bv)
  case atStart => exact ⟨l, [], p, cap, rfl, hat, hlc, hc, HB, by simp, rfl, (fun x hx => by cases hx), World.ownsRow_nil _ _ _ _, Below.refl _ _⟩
  case round =>
    obtain ⟨m, acc, q, cq, rfl, hatq, hmc, hcq, HBm, hlen, HC, HA, hown, hBr⟩ := hrel
    by_cases hm0 : 0 < m.length
    · obtain ⟨g, off, rfl, hg, _⟩ := hatq 0 hm0
      have hmne : m ≠ [] := List.length_pos_iff.1 hm0
      have HST := codeP_step (w := 6) (by omega) hmne
      have hatr := hatq.below hBr
      go_wp2_with fail
      go_loop [8, 9] (fun vv kv => ∃ k : Nat, kv = .int .i64 k ∧ k ≤ 6 ∧ vv = .int .i64 ((val (pd m k) : Nat) : Int)) (fun _ kv => (6 - intOf kv).toNat)
      case atStart => exact ⟨0, rfl, by omega, by simp [pd, val]⟩
      case round =>
        obtain ⟨k, rfl, hk5, rfl⟩ := hrel
        have hvb : val (pd m k) < 64 := by
          have h1 := val_lt (pd_bin HBm.out k)
          rw [pd_len] at h1
          have h2 : 2 ^ k ≤ 2 ^ 6 := Nat.pow_le_pow_right (by omega) hk5
          omega
        by_cases hlt : k < 6
        · by_cases hin : k < m.length
          · obtain ⟨g', o', he, hg', hcell⟩ := hatr k hin
            simp at he
            obtain ⟨rfl, rfl⟩ := he
            have hbit := HBm.out _ (List.getElem_mem hin)
            have HV : Hid (((val (pd m (k + 1)) : Nat) : Int) = (val (pd m k) : Int) * 2 + (m[k] : Nat)) := by
              unfold Hid; rw [pd_in hin, val_snoc]; omega
            generalize m[k] = x at *
            generalize val (pd m k) = V at *
            go_wp2
            go_round
            case rel => exact ⟨k + 1, by go_num, hlt, by rw [HV.out]⟩
            case measure => simp [intOf]; omega
          · have hin' : m.length ≤ k := by omega
            have HV : Hid (((val (pd m (k + 1)) : Nat) : Int) = (val (pd m k) : Int) * 2) := by
              unfold Hid; rw [pd_out hin', val_snoc]; omega
            generalize val (pd m k) = V at *
            go_wp2
            go_round
            case rel => exact ⟨k + 1, by go_num, hlt, by rw [HV.out]⟩
            case measure => simp [intOf]; omega
        · obtain rfl : k = 6 := by omega
          have hvd : val (pd m 6) < d.size := by omega
          obtain ⟨y2, hy2, HY2, hy2l⟩ := bt_wrap hvd
          have HC3 : Hid (codeP 6 l = (acc ++ [val (pd m 6)]) ++ codeP 6 (m.drop 6)) := by
            unfold Hid; rw [HC.out, HST, List.append_assoc]; rfl
          have HA3 : Hid (∀ v ∈ acc ++ [val (pd m 6)], v < 64) := fun v hv => by
            rcases List.mem_append.1 hv with h | h
            · exact HA.out v h
            · simp at h; omega
          have HBd : Hid (Bin (m.drop 6)) := HBm.out.drop 6
          have hey : byts ((acc ++ [val (pd m 6)]).map (bt d)) = byts (acc.map (bt d)) ++ [.int .u8 (y2 : Int)] := by simp [byts, HY2]
          have HEY := hide' hey
          clear hey HST HC HA
          by_cases hl5 : m.length < 6
          · have hd0 : m.drop 6 = [] := List.drop_of_length_le (by omega)
            go_wp2_with (at_builtin; refine wpList_append_own _ rfl _ _ 34 rfl w.heap.size 5 i0 (.int .u8 0) 1 1 Tryz.underlying34 hi hz0 hz1 hz2 rfl (by decide) _ _ _ rfl (hown.alloc _) ⟨_, 0, none⟩ 1 1 [.int .u8 (y2 : Int)] rfl rfl (cell_one_new _ _ _) (by simp [Value.oneCell']) (by unfold maxLen; omega) (by omega) (by have := hBr.size; simp; omega) ?_; intro v4 w4 hown4 hgrow4 _)
            refine ⟨⟨[], acc ++ [val (pd m 6)], none, 0, rfl, (fun k hk => by cases hk), Nat.le_refl _, by omega, (fun x hx => by cases hx), by simp; omega, by rw [hd0] at HC3; exact HC3, HA3, ?_, below_app hBr (Nat.le_refl _) hown hgrow4⟩, by simp [slen]; omega⟩
            rw [HEY.out, List.length_append]; exact hown4
          · have hl5' : 6 ≤ m.length := by omega
            go_wp2_with (at_builtin; refine wpList_append_own _ rfl _ _ 34 rfl w.heap.size 5 i0 (.int .u8 0) 1 1 Tryz.underlying34 hi hz0 hz1 hz2 rfl (by decide) _ _ _ rfl (hown.alloc _) ⟨_, 0, none⟩ 1 1 [.int .u8 (y2 : Int)] rfl rfl (cell_one_new _ _ _) (by simp [Value.oneCell']) (by unfold maxLen; omega) (by omega) (by have := hBr.size; simp; omega) ?_; intro v4 w4 hown4 hgrow4 _)
            refine ⟨⟨m.drop 6, acc ++ [val (pd m 6)], _, cq - 6, by rw [List.length_drop], ?_, by rw [List.length_drop]; omega, by omega, HBd, by rw [List.length_drop, List.length_append, List.length_singleton]; omega, HC3, HA3, ?_, below_app hBr (Nat.le_refl _) hown hgrow4⟩, by simp [slen]; omega⟩
            · split
              · intro k hk; rw [List.length_drop] at hk; omega
              · exact hatq.drop 6
            · rw [HEY.out, List.length_append]; exact hown4
    · have hm : m = [] := List.length_eq_zero_iff.1 (by omega)
      subst hm
      have HE : Hid (bts ((codeP 6 l).map (bt d)) = bts (acc.map (bt d))) := by unfold Hid; rw [HC.out, codeP_nil, List.append_nil]
      have hz : (bts (acc.map (bt d))).size = acc.length := by rw [bts_size, List.length_map]
      obtain ⟨pA, cA, rfl, _, _, hsh⟩ := owns_shape hown
      have hcv : (convert 34 9 (.slice pA acc.length cA)).run Tryz.prog wr = .ok (.string (bts (acc.map (bt d)))) wr := by
        rcases hsh with ⟨rfl, h0⟩ | ⟨g, rfl, _, _⟩
        · have ha : acc = [] := List.length_eq_zero_iff.1 h0
          subst ha
          exact nil_str wr cA
        · have h := owns_str (t := bts (acc.map (bt d))) (w := wr) (base := w.heap.size) (g := g) (cap := cA) (by rw [hz, bts_cells _ (fun x hx => by obtain ⟨i, _, rfl⟩ := List.mem_map.1 hx; exact bt_lt _ _)]; exact hown)
          rw [hz] at h; exact h
      clear hz hsh HC
      go_wp2
      go_ret
      exact ⟨by rw [HE.out]; rfl, hBr⟩
set_option maxRecDepth 100000 in
/-- gazetteerref1.To32 -/
theorem refTo32M (b : ByteArray) (w : World) (hb : b.size ≤ 1048576) :
    Calls Tryz.prog 67 #[.string b] w fun e w' => e = .returned (.string (to32B b)) ∧ Below w.heap.size w w' := by
  have H1 := hide' (fun w => bits_any b w hb)
  have hlen : (bitsL 8 (lst b b.size)).length = 8 * b.size := by rw [bitsL_len, lst_len]
  have H2 := hide' (fun p cap w hat hlc hc => coded5 p cap (bitsL 8 (lst b b.size)) d32 w hat (by omega) hlc hc (bitsL_bin 8 _) d32_size)
  clear hlen
  go_enter Tryz.func67, Tryz.ntmps67
  go_wp2_with (first
    | (go_at_call 60; refine (H1.out _).mono ?_; rintro e w1 ⟨v, rfl, hown, hB1⟩; obtain ⟨p, c, rfl, hat, h1, h2⟩ := NumsAt.of_owns hown rfl)
    | (go_at_call 59; refine (H2.out p c _ hat h1 h2).mono ?_; rintro e w2 ⟨rfl, hB2⟩))
  go_ret
  exact ⟨rfl, bstep hB1 hB2 hB1.size⟩

set_option maxRecDepth 100000 in
/-- gazetteerref1.Hex -/
theorem refHexM (b : ByteArray) (w : World) (hb : b.size ≤ 1048576) :
    Calls Tryz.prog 46 #[.string b] w fun e w' => e = .returned (.string (toWB 4 d16 b)) ∧ Below w.heap.size w w' := by
  have H1 := hide' (fun w => bits_any b w hb)
  have hlen : (bitsL 8 (lst b b.size)).length = 8 * b.size := by rw [bitsL_len, lst_len]
  have H2 := hide' (fun p cap w hat hlc hc => coded4 p cap (bitsL 8 (lst b b.size)) d16 w hat (by omega) hlc hc (bitsL_bin 8 _) d16_size)
  clear hlen
  go_enter Tryz.func46, Tryz.ntmps46
  go_wp2_with (first
    | (go_at_call 60; refine (H1.out _).mono ?_; rintro e w1 ⟨v, rfl, hown, hB1⟩; obtain ⟨p, c, rfl, hat, h1, h2⟩ := NumsAt.of_owns hown rfl)
    | (go_at_call 59; refine (H2.out p c _ hat h1 h2).mono ?_; rintro e w2 ⟨rfl, hB2⟩))
  go_ret
  exact ⟨rfl, bstep hB1 hB2 hB1.size⟩

set_option maxRecDepth 100000 in
set_option maxHeartbeats 2000000 in
/-- gazetteerref1.Base64 -/
theorem refBase64M (b : ByteArray) (w : World) (hb : b.size ≤ 1048576) :
    Calls Tryz.prog 65 #[.string b] w fun e w' => e = .returned (.string (bts (lsB (toWB 6 d64 b) ++ List.replicate (filM (toWB 6 d64 b).size) 61))) ∧ Below w.heap.size w w' := by
  have H1 := hide' (fun w => bits_any b w hb)
  have hlen : (bitsL 8 (lst b b.size)).length = 8 * b.size := by rw [bitsL_len, lst_len]
  have H2 := hide' (fun p cap w hat hlc hc => coded6 p cap (bitsL 8 (lst b b.size)) d64 w hat (by omega) hlc hc (bitsL_bin 8 _) d64_size)
  have HT : Hid (bts ((codeP 6 (bitsL 8 (lst b b.size))).map (bt d64)) = toWB 6 d64 b) := rfl
  rw [HT.out] at H2
  have hz : (toWB 6 d64 b).size ≤ 16777216 := by
    rw [toWB_size]
    have := cW_len dg64 b
    omega
  obtain ⟨T, hT⟩ : ∃ T : Nat → ByteArray, ∀ k, T k = bts (lsB (toWB 6 d64 b) ++ List.replicate k 61) := ⟨_, fun k => rfl⟩
  have HT0 : Hid (T 0 = toWB 6 d64 b) := by unfold Hid; rw [hT]; simp [bts_ls]
  have HTs : Hid (∀ k, T k ++ ⟨#[61]⟩ = T (k + 1)) := fun k => by
    rw [hT, hT, List.replicate_succ', ← List.append_assoc, bts_append _ [61]]
    rfl
  have HTz : Hid (∀ k, (T k).size = (toWB 6 d64 b).size + k) := fun k => by
    rw [hT, bts_size, List.length_append, lsB_len, List.length_replicate]
  have HTe : Hid (T (filM (toWB 6 d64 b).size) = bts (lsB (toWB 6 d64 b) ++ List.replicate (filM (toWB 6 d64 b).size) 61)) := hT _
  rw [← HTe.out]
  generalize toWB 6 d64 b = D at *
  generalize hn : D.size = n at *
  have hF : filM n = (4 - n % 4) % 4 := rfl
  generalize filM n = F at *
  have HF := hide' hF
  clear hlen hT hF
  go_enter Tryz.func65, Tryz.ntmps65
  go_wp2_with (first
    | (go_at_call 60; refine (H1.out _).mono ?_; rintro e w1 ⟨v, rfl, hown, hB1⟩; obtain ⟨p, c, rfl, hat, h1, h2⟩ := NumsAt.of_owns hown rfl)
    | (go_at_call 59; refine (H2.out p c _ hat h1 h2).mono ?_; rintro e w2 ⟨rfl, hB2⟩))
  have HB2 := hide' (bstep hB1 hB2 hB1.size)
  clear hat h1 h2 hown hB1 hB2
  go_loopw [3] (fun sv wr => ∃ k : Nat, k ≤ F ∧ sv = .string (T k) ∧ Hid (wr = w2)) (fun sv _ => F + n - (match sv with | .string s => s.size | _ => 0))
  case atStart => exact ⟨0, Nat.zero_le _, by rw [HT0.out], rfl⟩
  case round =>
    obtain ⟨k, hk, rfl, HW⟩ := hrel
    have e1 := HTz.out k
    have e3 : Hid ((T k).size = n + k) := e1
    have hm : Int.tmod ((T k).size : Int) 4 = (((n + k) % 4 : Nat) : Int) := by rw [e1]; rfl
    have HF2 := HF.out
    by_cases hlt : k < F
    · have hpos : 0 < (n + k) % 4 := by omega
      have HE : Hid (T k ++ ⟨#[61]⟩ = T (k + 1)) := HTs.out k
      have HZ : Hid ((T (k + 1)).size = n + (k + 1)) := HTz.out (k + 1)
      have hov : ¬ 9223372036854775807 < (T k).size + 1 := by rw [e1]; omega
      have hFn : F ≤ 3 := by omega
      generalize (n + k) % 4 = r at *
      clear e1 HF2
      go_wp2
      refine ⟨⟨k + 1, hlt, by first | rfl | rw [HE.out], HW⟩, ?_⟩
      first | rw [HE.out] | skip
      show F + n - (T (k + 1)).size < F + n - (T k).size
      rw [HZ.out, e3.out]
      omega
    · obtain rfl : k = F := by omega
      have hzero : (n + k) % 4 = 0 := by omega
      rw [hzero] at hm
      clear e1 HF2
      go_wp2
      go_ret
      exact ⟨rfl, by rw [HW.out]; exact HB2.out⟩
end Go.Proofs.YtmbjmokhkonpiaaGreatDoor

/-
  The reference's Quote. (The verifier's own text.)
-/
namespace Go.Proofs.YtmbjmokhkonpiaaGreatDoor
set_option linter.unusedVariables false
set_option linter.unusedSimpArgs false
open Go.RowKit Go.Shelf Go.Proofs.YtmbjmokhkonpiaaGreatDoor.Nm

theorem lsB_take (d : ByteArray) {k : Nat} (h : k < d.size) : (lsB d).take (k + 1) = (lsB d).take k ++ [bt d k] := by
  have hl : k < (lsB d).length := by rw [lsB_len]; exact h
  rw [List.take_succ_eq_append_getElem hl]
  congr 2
  simp [lsB, lst]
theorem shQ_mk {y : Nat} (h34 : ¬ y = 34) (h92 : ¬ y = 92) : amB mk2 y = false := by
  rw [am2]
  simp [h34, h92]
theorem shQ_esc {y : Nat} (h34 : ¬ y = 34) (h92 : ¬ y = 92) (h : y < 32 ∨ 126 < y) : shQ y = escL y := by
  unfold shQ shG
  rw [shQ_mk h34 h92]
  simp
  omega
theorem shQ_plain {y : Nat} (h34 : ¬ y = 34) (h92 : ¬ y = 92) (h1 : 32 ≤ y) (h2 : y ≤ 126) : shQ y = [y] := by
  unfold shQ shG
  rw [shQ_mk h34 h92]
  simp
  omega
set_option maxRecDepth 100000 in
set_option maxHeartbeats 2000000 in
/-- gazetteerref1.Quote -/
theorem quoteM (d : ByteArray) (w : World) (hd : d.size ≤ 1048576) :
    Calls Tryz.prog 64 #[.string d] w fun e w' => e = .returned (.string (bts (34 :: (qtL (lsB d) ++ [34])))) ∧ Below w.heap.size w w' := by
  obtain ⟨T, hT⟩ : ∃ T : Nat → List Nat, ∀ k, T k = 34 :: qtL ((lsB d).take k) := ⟨_, fun k => rfl⟩
  have HT0 : Hid (T 0 = [34]) := by unfold Hid; rw [hT]; rfl
  have HTs : Hid (∀ k, k < d.size → T (k + 1) = T k ++ shQ (bt d k)) := fun k hk => by
    rw [hT, hT, lsB_take d hk, qtL_snoc, List.cons_append]
  have HTz : Hid (∀ k, k ≤ d.size → (T k).length ≤ 4 * k + 1) := fun k hk => by
    rw [hT, List.length_cons]
    have := (qtL_len ((lsB d).take k)).2
    rw [List.length_take, lsB_len] at this
    omega
  have HTe : Hid (T d.size ++ [34] = 34 :: (qtL (lsB d) ++ [34])) := by
    unfold Hid
    rw [hT, ← lsB_len, List.take_length, List.cons_append]
  rw [← HTe.out]
  have HES : Hid (∀ (b : Nat) (V : World), b < 256 → Calls Tryz.prog 42 #[.int .u8 (b : Int)] V fun e w' => e = .returned (.string (bts (escL b))) ∧ Below V.heap.size V w') := fun b V hb => escape_any b V hb
  clear hT
  go_enter Tryz.func64, Tryz.ntmps64
  go_wp2_with fail
  go_loopw [3, 4] (fun sv kv wr => ∃ k : Nat, k ≤ d.size ∧ sv = .string (bts (T k)) ∧ kv = .int .i64 (k : Int) ∧ Hid (Below w.heap.size w wr)) (fun _ kv _ => d.size - (intOf kv).toNat)
  case atStart => exact ⟨0, Nat.zero_le _, by rw [HT0.out]; rfl, rfl, Below.refl _ _⟩
  case round =>
    obtain ⟨k, hk, rfl, rfl, HB⟩ := hrel
    have hz := HTz.out k hk
    by_cases hlt : k < d.size
    · obtain ⟨y, hy, HY, hy256⟩ := bt_wrap hlt
      have HE : Hid (d.extract k (k + 1) = bts [y]) := by unfold Hid; rw [extract_one hlt, HY]
      have HS := HTs.out k hlt
      rw [HY] at HS
      have hex : ∀ W : World, (Op.stringOp .add (bts (T k)) (bts (shQ y))).run Tryz.prog W = .ok (.string (bts (T (k + 1)))) W := fun W => by
        rw [HS]
        refine add_bts W _ _ ?_
        have := (shQ_len y).2
        omega
      clear HY HS hz
      by_cases hm : y = 34 ∨ y = 92
      · have HQ : shQ y = [92, y] := by
          rcases hm with rfl | rfl <;> decide +kernel
        rw [HQ] at hex
        have ha1 : ∀ W : World, (Op.stringOp .add ⟨#[92]⟩ (d.extract k (k + 1))).run Tryz.prog W = .ok (.string (bts [92, y])) W := fun W => by
          rw [HE.out]; exact add_bts W [92] [y] (by simp)
        clear HQ
        rcases hm with h | h
        all_goals
          subst h
          go_wp2_with fail
          refine ⟨⟨k + 1, hlt, rfl, by go_num, HB⟩, ?_⟩
          simp [intOf]; omega
      · have h34 : ¬ y = 34 := fun e => hm (.inl e)
        have h92 : ¬ y = 92 := fun e => hm (.inr e)
        have hI34 : ((y : Int) == 34) = false := by simp; omega
        have hI92 : ((y : Int) == 92) = false := by simp; omega
        by_cases hesc : y < 32 ∨ 126 < y
        · have HQ : shQ y = escL y := shQ_esc h34 h92 hesc
          rw [HQ] at hex
          clear HQ hm h34 h92
          rcases hesc with h | h
          all_goals
            go_wp2_with (go_at_call 42; refine (HES.out y _ hy256).mono ?_; rintro e w3 ⟨rfl, hB3⟩; have HB3 := hide' (bstep HB.out hB3 HB.out.size); clear hB3)
            refine ⟨⟨k + 1, hlt, rfl, by go_num, HB3⟩, ?_⟩
            simp [intOf]; omega
        · have h1 : 32 ≤ y := by omega
          have h2 : y ≤ 126 := by omega
          have HQ : shQ y = [y] := shQ_plain h34 h92 h1 h2
          rw [HQ, ← HE.out] at hex
          clear HQ hm hesc h34 h92
          go_wp2_with fail
          refine ⟨⟨k + 1, hlt, rfl, by go_num, HB⟩, ?_⟩
          simp [intOf]; omega
    · obtain rfl : k = d.size := by omega
      have hex : ∀ W : World, (Op.stringOp .add (bts (T d.size)) ⟨#[34]⟩).run Tryz.prog W = .ok (.string (bts (T d.size ++ [34]))) W := fun W => add_bts W _ [34] (by simp; omega)
      go_wp2_with fail
      go_ret
      exact ⟨rfl, HB.out⟩
end Go.Proofs.YtmbjmokhkonpiaaGreatDoor

/-
  Groups of sixteen bits as the reference tells them, plainly. (The verifier's own text.)
-/
namespace Go.Proofs.YtmbjmokhkonpiaaGreatDoor
set_option linter.unusedVariables false
set_option linter.unusedSimpArgs false
open Go Go.Proofs.YtmbjmokhkonpiaaGreatDoor.Nm

/-- the groups of a text of an even size -/
def gN (d : ByteArray) : List Nat := (List.range (d.size / 2)).map fun i => bt d (2 * i) * 256 + bt d (2 * i + 1)
theorem gN_len (d : ByteArray) : (gN d).length = d.size / 2 := by simp [gN]
theorem gN_at (d : ByteArray) {i : Nat} (h : i < d.size / 2) : (gN d)[i]'(by rw [gN_len]; exact h) = bt d (2 * i) * 256 + bt d (2 * i + 1) := by simp [gN]
theorem g16_gN {d : ByteArray} (h : d.size = 16) : g16 d = gN d := by unfold g16 gN; rw [h]
theorem gN_front {d : ByteArray} {k : Nat} (h : 2 * k ≤ d.size) : gN (d.extract 0 (2 * k)) = (gN d).take k := by
  apply List.ext_getElem
  · rw [gN_len, List.length_take, gN_len, size_extract' _ _ _ h]
    omega
  · intro i h1 h2
    rw [gN_len, size_extract' _ _ _ h] at h1
    rw [gN_at _ (by rw [size_extract' _ _ _ h]; exact h1), List.getElem_take, gN_at _ (by omega), bt_extract _ _ _ _ (by omega) h, bt_extract _ _ _ _ (by omega) h]
    simp
theorem gN_back {d : ByteArray} {k : Nat} (h : 2 * k ≤ d.size) : gN (d.extract (2 * k) d.size) = (gN d).drop k := by
  have hz : (d.extract (2 * k) d.size).size = d.size - 2 * k := size_extract' _ _ _ (Nat.le_refl _)
  apply List.ext_getElem
  · rw [gN_len, List.length_drop, gN_len, hz]
    omega
  · intro i h1 h2
    rw [gN_len, hz] at h1
    rw [gN_at _ (by rw [hz]; exact h1), List.getElem_drop, gN_at _ (by omega), bt_extract _ _ _ _ (by omega) (Nat.le_refl _), bt_extract _ _ _ _ (by omega) (Nat.le_refl _)]
    rw [show 2 * k + 2 * i = 2 * (k + i) by omega, show 2 * k + (2 * i + 1) = 2 * (k + i) + 1 by omega]
/-- without noughts ahead -/
def stN : List Nat → List Nat
  | 48 :: y :: l => stN (y :: l)
  | l => l
theorem stN_go (y : Nat) (l : List Nat) : stN (48 :: y :: l) = stN (y :: l) := rfl
theorem stN_one (x : Nat) : stN [x] = [x] := by
  unfold stN
  split
  · rename_i h; simp at h
  · rfl
theorem stN_stop {x : Nat} {l : List Nat} (h : x ≠ 48) : stN (x :: l) = x :: l := by
  unfold stN
  split
  · rename_i h2
    injection h2 with h2 h3
    exact absurd h2 h
  · rfl
theorem by8 : ∀ a, a < 256 → bitsW 8 a = bitsW 4 (a / 16) ++ bitsW 4 (a % 16) := by decide +kernel
theorem code_two {a : Nat} (h : a < 256) (X : List Nat) : codeP 4 (bitsW 8 a ++ X) = a / 16 :: a % 16 :: codeP 4 X := by
  have hl := fun v => bitsW_len 4 v
  rw [by8 a h, List.append_assoc, codeP_step (by omega) (by intro e; have := congrArg List.length e; rw [List.length_append, hl] at this; simp at this)]
  rw [List.take_left' (hl _), List.drop_left' (hl _)]
  rw [codeP_step (by omega) (by intro e; have := congrArg List.length e; rw [List.length_append, hl] at this; simp at this)]
  rw [List.take_left' (hl _), List.drop_left' (hl _)]
  rw [show 4 - (bitsW 4 (a / 16) ++ (bitsW 4 (a % 16) ++ X)).length = 0 by rw [List.length_append, hl]; omega]
  rw [show 4 - (bitsW 4 (a % 16) ++ X).length = 0 by rw [List.length_append, hl]; omega]
  rw [List.replicate_zero, List.append_nil, List.append_nil, val_bitsW 4 _ (by omega), val_bitsW 4 _ (by omega)]
/-- two bytes in digits -/
def h4L (u : Nat) : List Nat := [bt d16 (u / 4096), bt d16 (u / 256 % 16), bt d16 (u / 16 % 16), bt d16 (u % 16)]
theorem hex_two {x : ByteArray} {a b : Nat} (hx : lst x x.size = [a, b]) (ha : a < 256) (hb : b < 256) : toWB 4 d16 x = bts (h4L (a * 256 + b)) := by
  have e : bitsL 8 [a, b] = bitsW 8 a ++ (bitsW 8 b ++ []) := by simp [bitsL]
  show bts ((codeP 4 (bitsL 8 (lst x x.size))).map (bt d16)) = _
  rw [hx, e, code_two ha, code_two hb, codeP_nil]
  unfold h4L
  rw [show (a * 256 + b) / 4096 = a / 16 by omega, show (a * 256 + b) / 256 % 16 = a % 16 by omega, show (a * 256 + b) / 16 % 16 = b / 16 by omega, show (a * 256 + b) % 16 = b % 16 by omega]
  rfl
theorem d16_zero : ∀ v, v < 16 → (bt d16 v = 48 ↔ v = 0) := by decide +kernel
theorem st_hx {u : Nat} (h : u < 65536) : stN (h4L u) = hxL u := by
  have one : ∀ v, v < 16 → v ≠ 0 → bt d16 v ≠ 48 := fun v hv h0 e => h0 ((d16_zero v hv).1 e)
  have z48 : bt d16 0 = 48 := by decide +kernel
  unfold h4L hxL
  by_cases h1 : u < 16
  · rw [hxV_small h1, show u / 4096 = 0 by omega, show u / 256 % 16 = 0 by omega, show u / 16 % 16 = 0 by omega, show u % 16 = u by omega, z48, stN_go, stN_go, stN_go, stN_one]
    rfl
  · rw [hxV_step h1]
    by_cases h2 : u / 16 < 16
    · rw [hxV_small h2, show u / 4096 = 0 by omega, show u / 256 % 16 = 0 by omega, show u / 16 % 16 = u / 16 by omega, z48, stN_go, stN_go, stN_stop (one _ (by omega) (by omega))]
      rfl
    · rw [hxV_step h2]
      by_cases h3 : u / 16 / 16 < 16
      · rw [hxV_small h3, show u / 4096 = 0 by omega, show u / 256 % 16 = u / 16 / 16 by omega, z48, stN_go, stN_stop (one _ (by omega) (by omega))]
        rfl
      · rw [hxV_step h3, hxV_small (show u / 16 / 16 / 16 < 16 by omega), show u / 4096 = u / 16 / 16 / 16 by omega, show u / 256 % 16 = u / 16 / 16 % 16 by omega, stN_stop (one _ (by omega) (by omega))]
        rfl
theorem h4L_ok (u : Nat) (h : u < 65536) : ∀ y ∈ h4L u, y < 256 := fun y hy => by
  have k := fun v hv => (d16_ok v hv).1
  unfold h4L at hy
  simp only [List.mem_cons, List.not_mem_nil, or_false] at hy
  rcases hy with e | e | e | e <;> rw [e] <;> exact k _ (by omega)
theorem jn_snoc (c : Nat) (x : List Nat) : ∀ L : List (List Nat), L ≠ [] → jnC c (L ++ [x]) = jnC c L ++ c :: x
  | [], h => absurd rfl h
  | [y], _ => by simp [jnC]
  | y :: z :: L, _ => by
    have ih := jn_snoc c x (z :: L) (by simp)
    rw [List.cons_append, List.cons_append, jnC_cons, ← List.cons_append, ih, jnC_cons]
    simp
/-- is there a row of m noughts from k on? -/
def zr6 (U : List Nat) (k m : Nat) : Bool := (List.range m).all fun i => U.getD (k + i) 1 == 0
def md6 (U : List Nat) (k : Nat) : Nat → Nat × Nat → Nat × Nat
  | 0, s => s
  | c + 1, s => if zr6 U k (c + 2) = true ∧ (md6 U k c s).2 < c + 2 then (k, c + 2) else md6 U k c s
def ot6 (U : List Nat) : Nat → Nat × Nat
  | 0 => (0, 0)
  | k + 1 => md6 U k (7 - k) (ot6 U k)
def ga6 (U : List Nat) : Nat × Nat := if (gapF U).2 - (gapF U).1 < 2 then (0, 0) else ((gapF U).1, (gapF U).2 - (gapF U).1)
def nz (u : Nat) : Nat := if u = 0 then 0 else 1
theorem gpS_nz : ∀ (U : List Nat) (i : Nat) (s : Nat × Nat × Nat), gpS (U.map nz) i s = gpS U i s
  | [], _, _ => rfl
  | u :: U, i, s => by
    rw [List.map_cons]
    unfold gpS
    have e : (nz u ≠ 0) = (u ≠ 0) := by unfold nz; split <;> simp_all
    rw [gpS_nz U]
    congr 1
    simp only [e]
theorem zr6_nz (U : List Nat) (k m : Nat) : zr6 (U.map nz) k m = zr6 U k m := by
  unfold zr6
  congr 1
  funext i
  rw [List.getD_eq_getElem?_getD, List.getD_eq_getElem?_getD, List.getElem?_map]
  cases U[k + i]? with
  | none => rfl
  | some u =>
    show (nz u == 0) = (u == 0)
    unfold nz
    split <;> simp_all
theorem md6_nz (U : List Nat) (k : Nat) : ∀ (c : Nat) (s : Nat × Nat), md6 (U.map nz) k c s = md6 U k c s
  | 0, _ => rfl
  | c + 1, s => by
    unfold md6
    rw [zr6_nz, md6_nz U k c s]
theorem ot6_nz (U : List Nat) : ∀ k, ot6 (U.map nz) k = ot6 U k
  | 0 => rfl
  | k + 1 => by
    unfold ot6
    rw [md6_nz, ot6_nz U k]
def bN (b : Bool) : Nat := if b then 0 else 1
theorem all6 : ∀ a b c d e f g h : Bool, ot6 [bN a, bN b, bN c, bN d, bN e, bN f, bN g, bN h] 8 = ga6 [bN a, bN b, bN c, bN d, bN e, bN f, bN g, bN h] := by decide +kernel
theorem ot6_gap {U : List Nat} (h : U.length = 8) : ot6 U 8 = ga6 U := by
  have hg : gapF (U.map nz) = gapF U := by unfold gapF; rw [gpS_nz]
  have e : ga6 U = ga6 (U.map nz) := by unfold ga6; rw [hg]
  rw [e, ← ot6_nz]
  match U, h with
  | [a, b, c, d, e, f, g, i], _ =>
    have k : ∀ u, nz u = bN (decide (u = 0)) := fun u => by unfold nz bN; simp
    simp only [List.map_cons, List.map_nil, k]
    exact all6 _ _ _ _ _ _ _ _
end Go.Proofs.YtmbjmokhkonpiaaGreatDoor

/-
  The reference's rows6, show6. (The verifier's own text.)
-/
namespace Go.Proofs.YtmbjmokhkonpiaaGreatDoor
set_option linter.unusedVariables false
set_option linter.unusedSimpArgs false
open Go.RowKit Go.Shelf Go.Proofs.YtmbjmokhkonpiaaGreatDoor.Nm

def szS : Value → Nat
  | .string s => s.size
  | _ => 0
theorem bts_tailM (l : List Nat) (k : Nat) (hk : k ≤ l.length) : (bts l).extract k (bts l).size = bts (l.drop k) := by
  refine ba_ext (by rw [size_extract' _ _ _ (Nat.le_refl _), bts_size, bts_size, List.length_drop]) fun j hj => ?_
  rw [size_extract' _ _ _ (Nat.le_refl _), bts_size] at hj
  rw [bt_extract _ _ _ _ (by rw [bts_size]; omega) (Nat.le_refl _)]
  rw [← bt_eq (s := bts l) (by rw [bts_size]; omega), ← bt_eq (s := bts (l.drop k)) (by rw [bts_size, List.length_drop]; omega)]
  have e1 : (bts l)[k + j]'(by rw [bts_size]; omega) = UInt8.ofNat (l[k + j]'(by omega)) := by
    have h2 : (l.map UInt8.ofNat).toArray[k + j]'(by simp; omega) = UInt8.ofNat (l[k + j]'(by omega)) := by simp
    exact h2
  have e2 : (bts (l.drop k))[j]'(by rw [bts_size, List.length_drop]; omega) = UInt8.ofNat ((l.drop k)[j]'(by rw [List.length_drop]; omega)) := by
    have h2 : ((l.drop k).map UInt8.ofNat).toArray[j]'(by simp; omega) = UInt8.ofNat ((l.drop k)[j]'(by rw [List.length_drop]; omega)) := by simp
    exact h2
  rw [e1, e2]
  simp
theorem hxL_len4 {u : Nat} (h : u < 65536) : (hxL u).length ≤ 4 := by
  rw [hxL_len]
  exact hxV_len 3 u (by omega)
theorem gN_lt (d : ByteArray) : ∀ u ∈ gN d, u < 65536 := fun u hu => by
  obtain ⟨i, _, rfl⟩ := List.mem_map.1 hu
  have h1 := bt_lt d (2 * i)
  have h2 := bt_lt d (2 * i + 1)
  omega
theorem gr_len : ∀ U : List Nat, (∀ u ∈ U, u < 65536) → (grL U).length ≤ 5 * U.length
  | [], _ => Nat.le_refl _
  | [u], h => by
    have := hxL_len4 (h u List.mem_cons_self)
    unfold grL
    rw [List.map_cons, List.map_nil, jnC_one]
    simp only [List.length_cons, List.length_nil]
    omega
  | u :: v :: U, h => by
    have ih := gr_len (v :: U) fun x hx => h x (List.mem_cons_of_mem _ hx)
    have h1 := hxL_len4 (h u List.mem_cons_self)
    unfold grL at ih ⊢
    rw [List.map_cons, List.map_cons, jnC_cons, List.length_append, List.length_cons, ← List.map_cons]
    simp only [List.length_cons] at ih ⊢
    omega
theorem gr_snoc {U : List Nat} (h : U ≠ []) (u : Nat) : grL (U ++ [u]) = grL U ++ [58] ++ hxL u := by
  unfold grL
  rw [List.map_append, List.map_cons, List.map_nil, jn_snoc 58 _ _ (by simpa using h)]
  simp
set_option maxRecDepth 100000 in
set_option maxHeartbeats 4000000 in
/-- gazetteerref1.rows6 -/
theorem rows6M (d : ByteArray) (n : Nat) (w : World) (hd : d.size = 2 * n) (hn : n ≤ 8) :
    Calls Tryz.prog 76 #[.string d] w fun e w' => e = .returned (.string (bts (grL (gN d)))) ∧ Below w.heap.size w w' := by
  have hU : (gN d).length = n := by rw [gN_len]; omega
  have hlt := gN_lt d
  have HHx : Hid (∀ (i : Nat) (V : World), i < n → Calls Tryz.prog 46 #[.string (d.extract (2 * i) (2 * i + 2))] V fun e w' => e = .returned (.string (bts (h4L ((gN d).getD i 0)))) ∧ Below V.heap.size V w') := fun i V h => by
    have hz : (d.extract (2 * i) (2 * i + 2)).size = 2 := by rw [size_extract' _ _ _ (by omega)]; omega
    have hl : lst (d.extract (2 * i) (2 * i + 2)) (d.extract (2 * i) (2 * i + 2)).size = [bt d (2 * i), bt d (2 * i + 1)] := by
      rw [hz]
      show [bt _ 0, bt _ 1] = _
      rw [bt_extract _ _ _ _ (by omega) (by omega), bt_extract _ _ _ _ (by omega) (by omega)]
      rfl
    have := refHexM (d.extract (2 * i) (2 * i + 2)) V (by omega)
    rw [hex_two hl (bt_lt _ _) (bt_lt _ _)] at this
    have hg : (gN d).getD i 0 = bt d (2 * i) * 256 + bt d (2 * i + 1) := by
      rw [List.getD_eq_getElem?_getD, List.getElem?_eq_getElem (by rw [hU]; exact h), gN_at d (by omega)]
      rfl
    rw [hg]
    exact this
  generalize gN d = U at *
  have HLT := hide' hlt
  have HLN : Hid (∀ i, i ≤ n → (grL (U.take i)).length ≤ 40) := fun i hi => by
    have := gr_len (U.take i) fun u hu => hlt u (List.mem_of_mem_take hu)
    rw [List.length_take] at this
    omega
  have HU := hide' hU
  clear hlt hU
  go_enter Tryz.func76, Tryz.ntmps76
  go_wp2_with fail
  go_loopw [3, 4] (fun sv kv wr => ∃ i : Nat, i ≤ n ∧ sv = .string (bts (grL (U.take i))) ∧ kv = .int .i64 ((2 * i : Nat) : Int) ∧ Hid (Below w.heap.size w wr)) (fun _ kv _ => 2 * n - (intOf kv).toNat)
  case atStart => exact ⟨0, Nat.zero_le _, rfl, rfl, Below.refl _ _⟩
  case round =>
    obtain ⟨i, hi, rfl, rfl, HB⟩ := hrel
    have hTl := HLN.out i hi
    by_cases hlt : i < n
    · have hiU : i < U.length := by rw [HU.out]; exact hlt
      have hu := HLT.out _ (List.getElem_mem hiU)
      have HC := hide' (HHx.out i wr hlt)
      have hTn : U.take (i + 1) = U.take i ++ [U[i]] := List.take_succ_eq_append_getElem hiU
      obtain ⟨u, hue⟩ : ∃ u, U[i] = u := ⟨_, rfl⟩
      have HST : Hid (stN (h4L u) = hxL u) := st_hx (hue ▸ hu)
      have HOK : Hid (∀ y ∈ h4L u, y < 256) := h4L_ok u (hue ▸ hu)
      have hxl := hxL_len4 (hue ▸ hu)
      have HTN : Hid (i ≠ 0 → grL (U.take (i + 1)) = grL (U.take i) ++ [58] ++ hxL u) := fun h0 => by
        rw [hTn, hue]
        exact gr_snoc (by intro e; have := congrArg List.length e; rw [List.length_take] at this; simp only [List.length_nil] at this; omega) u
      have HT0 : Hid (i = 0 → grL (U.take (i + 1)) = grL (U.take i) ++ hxL u) := fun h0 => by
        rw [hTn, hue, h0]
        unfold grL
        simp [jnC]
      have hgd : U.getD i 0 = u := by rw [List.getD_eq_getElem?_getD, List.getElem?_eq_getElem hiU, hue]; rfl
      rw [hgd] at HC
      clear hu hTn hue hgd
      have hk2 : ((2 * i : Nat) : Int) + 2 ≤ (d.size : Int) := by omega
      go_wp2_with (go_at_call 46; refine HC.out.mono ?_; rintro e1 w1 ⟨rfl, hB1⟩; have HB1 := hide' (bstep HB.out hB1 HB.out.size); clear hB1)
      go_loopw [5] (fun hv wr' => ∃ (x : Nat) (l : List Nat), hv = .string (bts (x :: l)) ∧ l.length ≤ 3 ∧ Hid (stN (h4L u) = stN (x :: l)) ∧ Hid (∀ y ∈ x :: l, y < 256) ∧ Hid (wr' = w1)) (fun hv _ => szS hv)
      case atStart => exact ⟨_, _, rfl, by simp, rfl, HOK.out, rfl⟩
      case round =>
        obtain ⟨x, l, rfl, hl3, HS, HX, HW⟩ := hrel
        obtain ⟨X, hX⟩ : ∃ X, bts (x :: l) = X := ⟨_, rfl⟩
        have hXs : X.size = l.length + 1 := by rw [← hX, bts_size]; rfl
        have hpos : 0 < X.size := by omega
        obtain ⟨y, hy, HY, hy256⟩ := bt_wrap (s := X) (i := 0) hpos
        have hxy : x = y := by
          rw [← HY, ← hX]
          exact (bts_bt (x :: l) HX.out 0 (by simp)).symm
        have HD : Hid (X.extract 1 X.size = bts l) := by
          unfold Hid
          rw [← hX, bts_tailM _ 1 (by simp)]
          rfl
        subst hxy
        clear HY
        by_cases hgo : l ≠ [] ∧ x = 48
        · obtain ⟨hl0, rfl⟩ := hgo
          cases l with
          | nil => exact absurd rfl hl0
          | cons z l =>
            have hlen : 1 < (X.size : Int) := by rw [hXs]; simp; omega
            have HS2 : Hid (stN (h4L u) = stN (z :: l)) := HS.out
            have HX2 : Hid (∀ y ∈ z :: l, y < 256) := fun y hy => HX.out y (List.mem_cons_of_mem _ hy)
            rw [hX]
            go_wp2_with fail
            have e : X.extract 1 (l.length + 1 + 1) = bts (z :: l) := by
              rw [← HD.out, hXs]
              rfl
            refine ⟨⟨z, l, by rw [e], by simp at hl3; omega, HS2, HX2, HW⟩, ?_⟩
            rw [e]
            show (bts (z :: l)).size < X.size
            rw [bts_size, hXs]
            simp
        · have hstop : stN (x :: l) = x :: l := by
            cases l with
            | nil => exact stN_one x
            | cons z l => exact stN_stop (fun e => hgo ⟨by simp, e⟩)
          have HXX : Hid (X = bts (hxL u)) := by
            unfold Hid
            rw [← hX, ← HST.out, HS.out, hstop]
          have hcase : ¬ (1 : Int) < (X.size : Int) ∨ (1 : Int) < (X.size : Int) ∧ ((x : Int) == 48) = false := by
            cases l with
            | nil => exact .inl (by rw [hXs]; simp)
            | cons z l =>
              refine .inr ⟨by rw [hXs]; simp; omega, ?_⟩
              have : x ≠ 48 := fun e => hgo ⟨by simp, e⟩
              simp
              omega
          have hx0 : ∀ W : World, i = 0 → (Op.stringOp .add (bts (grL (U.take i))) X).run Tryz.prog W = .ok (.string (bts (grL (U.take (i + 1))))) W := fun W h0 => by
            rw [HT0.out h0, HXX.out]
            exact add_bts W _ _ (by omega)
          have hx1 : ∀ W : World, (Op.stringOp .add (bts (grL (U.take i))) ⟨#[58]⟩).run Tryz.prog W = .ok (.string (bts (grL (U.take i) ++ [58]))) W := fun W => add_bts W _ [58] (by simp; omega)
          have hx2 : ∀ W : World, i ≠ 0 → (Op.stringOp .add (bts (grL (U.take i) ++ [58])) X).run Tryz.prog W = .ok (.string (bts (grL (U.take (i + 1))))) W := fun W h0 => by
            rw [HTN.out h0, HXX.out]
            exact add_bts W _ _ (by rw [List.length_append]; simp; omega)
          have hWe := HW.out
          subst hWe
          rw [hX]
          clear hX hXs HX HS hstop HD hgo HXX
          by_cases hi0 : i = 0
          · have hx0' := fun W => hx0 W hi0
            have hkz : ¬ ((2 * i : Nat) : Int) > 0 := by omega
            clear hx0 hx1 hx2 hi0
            rcases hcase with h1 | ⟨h1, h2⟩
            all_goals
              go_wp2_with fail
              go_roundw
              case rel => exact ⟨i + 1, hlt, rfl, by first | rfl | congr 1 | (congr 1; omega), HB1⟩
              case measure => simp [intOf]; omega
          · have hx2' := fun W => hx2 W hi0
            have hkz : ((2 * i : Nat) : Int) > 0 := by omega
            clear hx0 hx2 hi0
            rcases hcase with h1 | ⟨h1, h2⟩
            all_goals
              go_wp2_with fail
              go_roundw
              case rel => exact ⟨i + 1, hlt, rfl, by first | rfl | congr 1 | (congr 1; omega), HB1⟩
              case measure => simp [intOf]; omega
    · obtain rfl : i = n := by omega
      have HE : Hid (U.take i = U) := List.take_of_length_le (by rw [HU.out]; exact Nat.le_refl _)
      go_wp2_with fail
      go_ret
      exact ⟨by rw [HE.out]; rfl, HB.out⟩
end Go.Proofs.YtmbjmokhkonpiaaGreatDoor

/-
  The reference's show6. (The verifier's own text.)
-/
namespace Go.Proofs.YtmbjmokhkonpiaaGreatDoor
set_option linter.unusedVariables false
set_option linter.unusedSimpArgs false
open Go.RowKit Go.Shelf Go.Proofs.YtmbjmokhkonpiaaGreatDoor.Nm

theorem wrap_in {n : Int} (h0 : -9223372036854775808 ≤ n) (h1 : n ≤ 9223372036854775807) : IntKind.i64.wrap n = n := by
  unfold IntKind.wrap
  simp [IntKind.bits, IntKind.signed]
  omega
theorem zr6_snoc (U : List Nat) (k m : Nat) : zr6 U k (m + 1) = (zr6 U k m && (U.getD (k + m) 1 == 0)) := by
  unfold zr6
  rw [List.range_succ, List.all_append]
  simp
/-- are the bytes of m groups, and r more, noughts? -/
def zb6 (d : ByteArray) (k j : Nat) : Bool := (List.range j).all fun i => bt d (2 * k + i) == 0
theorem zb6_snoc (d : ByteArray) (k j : Nat) : zb6 d k (j + 1) = (zb6 d k j && (bt d (2 * k + j) == 0)) := by
  unfold zb6
  rw [List.range_succ, List.all_append]
  simp
theorem zb6_zr {d : ByteArray} (hd : d.size = 16) (k : Nat) : ∀ m, k + m ≤ 8 → zb6 d k (2 * m) = zr6 (gN d) k m
  | 0, _ => rfl
  | m + 1, h => by
    rw [show 2 * (m + 1) = 2 * m + 1 + 1 by omega, zb6_snoc, zb6_snoc, zb6_zr hd k m (by omega), zr6_snoc]
    have hg : (gN d).getD (k + m) 1 = bt d (2 * (k + m)) * 256 + bt d (2 * (k + m) + 1) := by
      rw [List.getD_eq_getElem?_getD, List.getElem?_eq_getElem (by rw [gN_len]; omega), gN_at d (by omega)]
      rfl
    rw [hg, show 2 * k + 2 * m = 2 * (k + m) by omega, show 2 * k + (2 * m + 1) = 2 * (k + m) + 1 by omega, Bool.and_assoc]
    congr 1
    generalize bt d (2 * (k + m)) = a
    generalize bt d (2 * (k + m) + 1) = b
    by_cases h1 : a = 0
    · subst h1; simp
    · have : (a == 0) = false := by simp [h1]
      rw [this, Bool.false_and]
      symm
      simp
      omega
theorem md6_le (U : List Nat) (k : Nat) : ∀ (c : Nat) (s : Nat × Nat), s.1 ≤ 8 → s.2 ≤ 8 → k ≤ 8 → c ≤ 7 → (md6 U k c s).1 ≤ 8 ∧ (md6 U k c s).2 ≤ 8
  | 0, s, h1, h2, _, _ => ⟨h1, h2⟩
  | c + 1, s, h1, h2, hk, hc => by
    have ih := md6_le U k c s h1 h2 hk (by omega)
    unfold md6
    split
    · exact ⟨hk, by simp only; omega⟩
    · exact ih
theorem ot6_le (U : List Nat) : ∀ k, k ≤ 8 → (ot6 U k).1 ≤ 8 ∧ (ot6 U k).2 ≤ 8
  | 0, _ => ⟨Nat.zero_le _, Nat.zero_le _⟩
  | k + 1, h => by
    have ih := ot6_le U k (by omega)
    exact md6_le U k (7 - k) _ ih.1 ih.2 (by omega) (by omega)
set_option maxRecDepth 100000 in
set_option maxHeartbeats 4000000 in
/-- gazetteerref1.show6 -/
theorem show6M (d : ByteArray) (w : World) (hd : d.size = 16) :
    Calls Tryz.prog 63 #[.string d] w fun e w' => e = .returned (.string (bts (ip6U (g16 d)))) ∧ Below w.heap.size w w' := by
  have HR := hide' (fun (n : Nat) (x : ByteArray) (V : World) (h1 : x.size = 2 * n) (h2 : n ≤ 8) => rows6M x n V h1 h2)
  have HZ := hide' (fun (k m : Nat) (h : k + m ≤ 8) => zb6_zr hd k m h)
  have HG : Hid (ot6 (gN d) 8 = ga6 (gN d)) := ot6_gap (by rw [gN_len]; omega)
  have HL := hide' (fun (k : Nat) (h : k ≤ 8) => ot6_le (gN d) k h)
  go_enter Tryz.func63, Tryz.ntmps63
  go_wp2_with fail
  go_loopw [3, 4, 5] (fun av nv kv wr => ∃ k : Nat, k ≤ 8 ∧ av = .int .i64 (((ot6 (gN d) k).1 : Nat) : Int) ∧ nv = .int .i64 (((ot6 (gN d) k).2 : Nat) : Int) ∧ kv = .int .i64 (k : Int) ∧ Hid (wr = w)) (fun _ _ kv _ => 8 - (intOf kv).toNat)
  case atStart => exact ⟨0, Nat.zero_le _, rfl, rfl, rfl, rfl⟩
  case round =>
    obtain ⟨k, hk, rfl, rfl, rfl, HW⟩ := hrel
    have hle := HL.out k hk
    by_cases hlt : k < 8
    · have HML : Hid (∀ c, c ≤ 7 → (md6 (gN d) k c (ot6 (gN d) k)).1 ≤ 8 ∧ (md6 (gN d) k c (ot6 (gN d) k)).2 ≤ 8) := fun c hc => md6_le (gN d) k c _ hle.1 hle.2 (by omega) (by omega)
      have HM0 : Hid (md6 (gN d) k 0 (ot6 (gN d) k) = ot6 (gN d) k) := rfl
      obtain ⟨s, hs⟩ : ∃ s, ot6 (gN d) k = s := ⟨_, rfl⟩
      have hs2 : ot6 (gN d) k = s := hs
      have HS2 := hide' hs
      rw [hs] at HML HM0 hle ⊢
      clear hs hs2
      go_wp2_with fail
      go_loopw [3, 4, 6] (fun av nv mv wr' => ∃ m : Nat, 2 ≤ m ∧ m ≤ 9 - k ∧ av = .int .i64 (((md6 (gN d) k (m - 2) s).1 : Nat) : Int) ∧ nv = .int .i64 (((md6 (gN d) k (m - 2) s).2 : Nat) : Int) ∧ mv = .int .i64 (m : Int) ∧ Hid (wr' = w)) (fun _ _ mv _ => 20 - (intOf mv).toNat)
      case atStart => exact ⟨2, Nat.le_refl _, by omega, by rw [HM0.out], by rw [HM0.out], rfl, HW⟩
      case round =>
        obtain ⟨m, hm2, hm9, rfl, rfl, rfl, HW2⟩ := hrel
        by_cases hcl : m < 9 - k
        · have HZm : Hid (zb6 d k (2 * m) = zr6 (gN d) k m) := HZ.out k m (by omega)
          have HMS : Hid (md6 (gN d) k (m + 1 - 2) s = if zr6 (gN d) k m = true ∧ (md6 (gN d) k (m - 2) s).2 < m then (k, m) else md6 (gN d) k (m - 2) s) := by
            obtain ⟨c, rfl⟩ : ∃ c, m = c + 2 := ⟨m - 2, by omega⟩
            rfl
          have hme := HML.out (m - 2) (by omega)
          generalize hsc : md6 (gN d) k (m - 2) s = sc at *
          clear hsc
          have hkm : (k : Int) + (m : Int) ≤ 8 := by omega
          go_wp2_with fail
          go_loopw [7, 8] (fun zv jv wr2 => ∃ j : Nat, 2 * k ≤ j ∧ j ≤ 2 * (k + m) ∧ zv = .bool (zb6 d k (j - 2 * k)) ∧ jv = .int .i64 (j : Int) ∧ Hid (wr2 = w)) (fun _ jv _ => 40 - (intOf jv).toNat)
          case atStart => exact ⟨2 * k, Nat.le_refl _, by omega, by rw [Nat.sub_self]; rfl, by congr 1, HW2⟩
          case round =>
            obtain ⟨j, hj0, hj, rfl, rfl, HW3⟩ := hrel
            by_cases hjl : j < 2 * (k + m)
            · have hsz : j < d.size := by omega
              obtain ⟨y, hy, HY, hy256⟩ := bt_wrap hsz
              have HS : zb6 d k (j + 1 - 2 * k) = (zb6 d k (j - 2 * k) && (y == 0)) := by
                have := zb6_snoc d k (j - 2 * k)
                rw [show 2 * k + (j - 2 * k) = j by omega, HY, show j - 2 * k + 1 = j + 1 - 2 * k by omega] at this
                exact this
              clear HY
              have hjI : (j : Int) < 2 * ((k : Int) + (m : Int)) := by omega
              cases hz : zb6 d k (j - 2 * k) with
              | true =>
                have HB : Hid (zb6 d k (j + 1 - 2 * k) = ((y : Int) == 0)) := by
                  unfold Hid
                  rw [HS, hz, Bool.true_and]
                  by_cases h0 : y = 0
                  · subst h0; rfl
                  · have e1 : (y == 0) = false := by simp [h0]
                    have e2 : ((y : Int) == 0) = false := by simp; omega
                    rw [e1, e2]
                clear HS hz
                go_wp2_with fail
                first
                  | (go_roundw
                     case rel => exact ⟨j + 1, by omega, hjl, by rw [HB.out], by first | rfl | go_num, HW3⟩
                     case measure => simp [intOf]; omega)
                  | (refine ⟨⟨j + 1, by omega, hjl, by rw [HB.out], by first | rfl | go_num, HW3⟩, ?_⟩
                     simp [intOf]
                     omega)
              | false =>
                have HB : Hid (zb6 d k (j + 1 - 2 * k) = false) := by
                  unfold Hid
                  rw [HS, hz, Bool.false_and]
                clear HS hz
                go_wp2_with fail
                first
                  | (go_roundw
                     case rel => exact ⟨j + 1, by omega, hjl, by rw [HB.out], by first | rfl | go_num, HW3⟩
                     case measure => simp [intOf]; omega)
                  | (refine ⟨⟨j + 1, by omega, hjl, by rw [HB.out], by first | rfl | go_num, HW3⟩, ?_⟩
                     simp [intOf]
                     omega)
            · obtain rfl : j = 2 * (k + m) := by omega
              have hjI : ¬ ((2 * (k + m) : Nat) : Int) < 2 * ((k : Int) + (m : Int)) := by omega
              rw [show 2 * (k + m) - 2 * k = 2 * m by omega, HZm.out]
              cases hzr : zr6 (gN d) k m with
              | true =>
                by_cases hgt : sc.2 < m
                · have HN : Hid (md6 (gN d) k (m + 1 - 2) s = (k, m)) := by
                    unfold Hid
                    rw [HMS.out, if_pos ⟨hzr, hgt⟩]
                  have hg2 : (m : Int) > (sc.2 : Int) := by omega
                  clear HMS hzr
                  go_wp2_with fail
                  go_roundw
                  case rel => exact ⟨m + 1, by omega, hcl, by rw [HN.out], by rw [HN.out], by go_num, HW3⟩
                  case measure => simp [intOf]; omega
                · have HN : Hid (md6 (gN d) k (m + 1 - 2) s = sc) := by
                    unfold Hid
                    rw [HMS.out, if_neg (fun h => hgt h.2)]
                  have hg2 : ¬ (m : Int) > (sc.2 : Int) := by omega
                  clear HMS hzr
                  go_wp2_with fail
                  go_roundw
                  case rel => exact ⟨m + 1, by omega, hcl, by rw [HN.out], by rw [HN.out], by go_num, HW3⟩
                  case measure => simp [intOf]; omega
              | false =>
                have HN : Hid (md6 (gN d) k (m + 1 - 2) s = sc) := by
                  unfold Hid
                  rw [HMS.out, if_neg (fun h => by rw [hzr] at h; cases h.1)]
                clear HMS hzr
                go_wp2_with fail
                go_roundw
                case rel => exact ⟨m + 1, by omega, hcl, by rw [HN.out], by rw [HN.out], by go_num, HW3⟩
                case measure => simp [intOf]; omega
        · obtain rfl : m = 9 - k := by omega
          have hkm : ¬ (k : Int) + ((9 - k : Nat) : Int) ≤ 8 := by omega
          have HL1 : Hid (ot6 (gN d) (k + 1) = md6 (gN d) k (9 - k - 2) s) := by
            unfold Hid
            rw [← HS2.out, show 9 - k - 2 = 7 - k by omega]
            rfl
          rw [← HL1.out]
          go_wp2_with fail
          go_roundw
          case rel => exact ⟨k + 1, hlt, rfl, rfl, by go_num, HW2⟩
          case measure => simp [intOf]; omega
    · obtain rfl : k = 8 := by omega
      obtain ⟨hg1, hg2, -⟩ := gap_ok (gN d)
      rw [gN_len, hd] at hg2
      have hgl : 16 / 2 = 8 := rfl
      by_cases hg : (gapF (gN d)).2 - (gapF (gN d)).1 < 2
      · have e1 : ot6 (gN d) 8 = (0, 0) := by
          rw [HG.out]
          unfold ga6
          rw [if_pos hg]
        have HE : Hid (ip6U (g16 d) = grL (gN d)) := by
          unfold Hid ip6U
          rw [g16_gN hd, if_pos hg]
        have H8 := hide' (fun V => HR.out 8 d V (by omega) (by omega))
        have hWe := HW.out
        rw [e1]
        clear hle hg1 hg2 hg e1
        go_wp2_with (go_at_call 76; refine (H8.out _).mono ?_; rintro e1 w1 ⟨rfl, hB1⟩; have HB1 : Hid (Below w.heap.size w w1) := (by first | exact hB1 | (rw [hWe] at hB1; exact hB1)); clear hB1)
        go_ret
        exact ⟨by rw [HE.out]; rfl, HB1.out⟩
      · obtain ⟨a, ha⟩ : ∃ a, (gapF (gN d)).1 = a := ⟨_, rfl⟩
        obtain ⟨b, hb⟩ : ∃ b, (gapF (gN d)).2 = b := ⟨_, rfl⟩
        have e1 : ot6 (gN d) 8 = (a, b - a) := by
          rw [HG.out]
          unfold ga6
          rw [if_neg hg, ha, hb]
        have HE : Hid (ip6U (g16 d) = grL ((gN d).take a) ++ [58, 58] ++ grL ((gN d).drop b)) := by
          unfold Hid ip6U
          rw [g16_gN hd, if_neg hg, ha, hb]
          simp
        rw [ha, hb] at hg1 hg
        rw [hb] at hg2
        have HRa : Hid (∀ V, Calls Tryz.prog 76 #[.string (d.extract 0 (2 * a))] V fun e w' => e = .returned (.string (bts (grL ((gN d).take a)))) ∧ Below V.heap.size V w') := fun V => by
          have := HR.out a (d.extract 0 (2 * a)) V (size_extract' _ _ _ (by omega)) (by omega)
          rwa [gN_front (by omega)] at this
        have HRb : Hid (∀ V, Calls Tryz.prog 76 #[.string (d.extract (2 * b) d.size)] V fun e w' => e = .returned (.string (bts (grL ((gN d).drop b)))) ∧ Below V.heap.size V w') := fun V => by
          have := HR.out (8 - b) (d.extract (2 * b) d.size) V (by rw [size_extract' _ _ _ (Nat.le_refl _)]; omega) (by omega)
          rwa [gN_back (by omega)] at this
        have hla : (grL ((gN d).take a)).length ≤ 40 := by
          have := gr_len ((gN d).take a) fun u hu => gN_lt d u (List.mem_of_mem_take hu)
          rw [List.length_take, gN_len] at this
          omega
        have hlb : (grL ((gN d).drop b)).length ≤ 40 := by
          have := gr_len ((gN d).drop b) fun u hu => gN_lt d u (List.mem_of_mem_drop hu)
          rw [List.length_drop, gN_len] at this
          omega
        have hx1 : ∀ W : World, (Op.stringOp .add (bts (grL ((gN d).take a))) ⟨#[58, 58]⟩).run Tryz.prog W = .ok (.string (bts (grL ((gN d).take a) ++ [58, 58]))) W := fun W => add_bts W _ [58, 58] (by simp; omega)
        have hx2 : ∀ W : World, (Op.stringOp .add (bts (grL ((gN d).take a) ++ [58, 58])) (bts (grL ((gN d).drop b)))).run Tryz.prog W = .ok (.string (bts (grL ((gN d).take a) ++ [58, 58] ++ grL ((gN d).drop b)))) W := fun W => add_bts W _ _ (by rw [List.length_append]; simp; omega)
        have hWe := HW.out
        rw [e1]
        have hne : ¬ (((b - a : Nat) : Int)) = 0 := by omega
        have hw1 : IntKind.i64.wrap (2 * (a : Int)) = 2 * (a : Int) := wrap_in (by omega) (by omega)
        have hw2 : IntKind.i64.wrap ((a : Int) + ((b - a : Nat) : Int)) = (b : Int) := by
          rw [wrap_in (by omega) (by omega)]; omega
        have hw3 : IntKind.i64.wrap (2 * (b : Int)) = 2 * (b : Int) := wrap_in (by omega) (by omega)
        have hq0 : (0 : Int) ≤ 2 * (a : Int) := by omega
        have hq1 : 2 * (a : Int) ≤ (d.size : Int) := by omega
        have hq2 : (0 : Int) ≤ 2 * (b : Int) := by omega
        have hq3 : 2 * (b : Int) ≤ (d.size : Int) := by omega
        have hn1 : (2 * (a : Int)).toNat = 2 * a := by omega
        have hn2 : (2 * (b : Int)).toNat = 2 * b := by omega
        generalize grL ((gN d).take a) = Ta at *
        generalize grL ((gN d).drop b) = Tb at *
        clear hle hg1 hg2 hg e1 ha hb hd
        have FT1 : Hid True := trivial
        go_wp2_with fail
        go_region_law (go_simp; go_at_call 76; (first | (have _ := FT1; clear FT1; refine (HRa.out _).mono ?_; rintro e1 w1 ⟨rfl, hB1⟩; have HB1 : Hid (Below w.heap.size w w1) := (by first | exact hB1 | exact bstep (below_drewN (Below.refl _ _) 1) hB1 (Nat.le_refl _)); clear hB1) | (refine (HRb.out _).mono ?_; rintro e2 w2 ⟨rfl, hB2⟩; have HB2 : Hid (Below w.heap.size w w2) := bstep HB1.out hB2 HB1.out.size; clear hB2)))
        all_goals go_wp2_with fail
        all_goals go_ret
        all_goals refine ⟨?_, HB2.out⟩
        all_goals show Ending.returned (Value.string _) = Ending.returned (Value.string _)
        all_goals (rw [HE.out]; simp)
end Go.Proofs.YtmbjmokhkonpiaaGreatDoor
