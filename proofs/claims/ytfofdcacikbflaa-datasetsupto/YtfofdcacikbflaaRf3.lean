import Derived.Test.YtfofdcacikbflaaRf2
namespace Go.Proofs.Ytfofdcacikbflaa
set_option linter.unusedVariables false
open Go.RowKit Go.Shelf Go.Proofs.Ytfofdcacikbflaa.Nm

theorem val_zero : ∀ {l : List Nat}, (∀ x ∈ l, x = 0) → val l = 0
  | [], _ => rfl
  | x :: l, h => by rw [val_cons, h x (List.mem_cons_self ..), val_zero (l := l) (fun y hy => h y (List.mem_cons_of_mem _ hy))]; simp
theorem val_pos : ∀ {l : List Nat} {x : Nat}, x ∈ l → x ≠ 0 → val l ≠ 0
  | y :: l, x, hx, h0 => by
    rw [val_cons]
    have hp : 0 < 2 ^ l.length := Nat.two_pow_pos _
    rcases List.mem_cons.1 hx with rfl | hx
    · have : 0 < x * 2 ^ l.length := Nat.mul_pos (by omega) hp
      omega
    · have := val_pos hx h0
      omega

set_option maxRecDepth 100000 in
set_option maxHeartbeats 2000000 in
/-- gazetteerref1.spread, base 32 -/
theorem spread5 (s d : ByteArray) (w : World) (hs : s.size ≤ 4194304) (hd : d.size = 32) :
    Calls Try.prog 33 #[.string s, .int .i64 5, .string d] w fun e w' =>
      (((∃ j, j < s.size ∧ ixN d (bt s j) = none) ∧ e = .returned (.tuple #[.slice none 0 0, .bool false])) ∨
       ((∀ j, j < s.size → ixN d (bt s j) ≠ none) ∧ ∃ p c, e = .returned (.tuple #[.slice p (5 * s.size) c, .bool true]) ∧ NumsAt w' p (bitsL 5 ((lst s s.size).map (ixv d))) ∧ 5 * s.size ≤ c ∧ c ≤ 9223372036854775807)) ∧ Below w.heap.size w w' := by
  obtain ⟨i0, hi, hz0, hz1, hz2⟩ := info_parts Try.infoInt
  go_enter Try.func33, Try.ntmps33
  go_wp2_with fail
  go_loopw [8, 9] (fun ov kv wr => ∃ k : Nat, kv = .int .i64 k ∧ k ≤ s.size ∧ Hid (∀ j, j < k → ixN d (bt s j) ≠ none) ∧ wr.ownsRow w.heap.size 3 1 ov (5 * k) (nums (bitsL 5 ((lst s k).map (ixv d)))) ∧ Below w.heap.size w wr) (fun _ kv _ => s.size - (intOf kv).toNat)
  case atStart => exact ⟨0, rfl, Nat.zero_le _, (fun j hj => absurd hj (Nat.not_lt_zero _)), World.ownsRow_nil _ _ _ _, Below.refl _ _⟩
  case round =>
    obtain ⟨k, rfl, hk, HG, hown, hBr⟩ := hrel
    by_cases hlt : k < s.size
    · obtain ⟨y, hy, HY, hyl⟩ := bt_wrap hlt
      rcases ix_cases d hyl with ⟨v, h1, h2, h3, h4, _⟩ | ⟨h1, h2⟩
      · have HS : Hid (nums (bitsL 5 ((lst s (k + 1)).map (ixv d))) = nums (bitsL 5 ((lst s k).map (ixv d))) ++ nums (bitsW 5 v)) := by
          unfold Hid; rw [lst_take_map, HY, h2]; simp [nums]
        have HG2 : Hid (∀ j, j < k + 1 → ixN d (bt s j) ≠ none) := by
          intro j hj
          by_cases e : j = k
          · subst e; rw [HY, h1]; simp
          · exact HG.out j (by omega)
        have HIX : Hid (ixI d y = (v : Int)) := h3
        have hv32 : v < 32 := by omega
        clear HY h1 h2 h3 HG
        go_wp2_with (go_at_call 53; refine (indexByteX d y _).mono ?_; rintro e w2 ⟨rfl, rfl⟩; rw [HIX.out])
        obtain ⟨wo, rfl⟩ : ∃ wo, wo = w2 := ⟨_, rfl⟩
        go_loopw [8, 11] (fun ov mv wr => ∃ j : Nat, j ≤ 5 ∧ mv = .int .i64 ((16 / 2 ^ j : Nat) : Int) ∧ wr.ownsRow w.heap.size 3 1 ov (5 * k + j) (nums (bitsL 5 ((lst s k).map (ixv d))) ++ nums ((bitsW 5 v).take j)) ∧ Below w.heap.size w wr) (fun _ mv _ => (intOf mv).toNat)
        case atStart => exact ⟨0, by omega, rfl, by simpa using hown, hBr⟩
        case round =>
          clear hown
          obtain ⟨j, hj, rfl, hown, hBq⟩ := hrel
          by_cases h8 : j = 5
          · subst h8
            have hown2 : wr.ownsRow w.heap.size 3 1 u8 (5 * (k + 1)) (nums (bitsL 5 ((lst s (k + 1)).map (ixv d)))) := by
              rw [HS.out]
              have e : (bitsW 5 v).take 5 = bitsW 5 v := List.take_of_length_le (by rw [bitsW_len]; exact Nat.le_refl _)
              rw [e] at hown
              exact hown
            clear hown
            go_wp2
            refine ⟨⟨k + 1, by go_num, hlt, HG2, hown2, hBq⟩, ?_⟩
            simp [intOf]; omega
          · have hlt8 : j < 5 := by omega
            have HT : Hid (nums ((bitsW 5 v).take (j + 1)) = nums ((bitsW 5 v).take j) ++ [.int .i64 ((v / 2 ^ (4 - j) % 2 : Nat) : Int)]) := by
              unfold Hid
              have e := bitsW_get 5 v j hlt8
              obtain ⟨hl, he⟩ := List.getElem?_eq_some_iff.1 e
              rw [List.take_succ_eq_append_getElem hl, he]
              simp [nums]
            have hcase : j = 0 ∨ j = 1 ∨ j = 2 ∨ j = 3 ∨ j = 4 := by omega
            clear h8
            rcases hcase with rfl | rfl | rfl | rfl | rfl
            all_goals
              have HT' := HT.out
              simp only [Nat.reducePow, Nat.reduceSub, Nat.reduceAdd, Nat.reduceDiv, Int.natCast_ediv, Int.natCast_emod, Int.cast_ofNat_Int, Int.ediv_one] at HT' ⊢
              have HT2 := hide' HT'
              clear HT' HT
              go_wp2_with (at_builtin; refine wpList_append_own _ rfl _ _ 33 rfl w.heap.size 3 i0 (.int .i64 0) 1 8 Try.underlying33 hi hz0 hz1 hz2 rfl (by decide) _ _ _ rfl (hown.alloc _) ⟨wr.heap.size, 0, none⟩ 1 1 [.int .i64 _] rfl rfl (cell_one_new _ _ _) (by simp [Value.oneCell']) (by unfold maxLen; omega) (by omega) (by have := hBq.size; simp; omega) ?_; intro v4 w4 hown4 hgrow4 _)
              refine ⟨⟨_, Nat.succ_le_of_lt hlt8, rfl, ?_, below_app hBq (Nat.le_refl _) hown hgrow4⟩, by simp [intOf]⟩
              rw [List.append_assoc, ← HT2.out] at hown4
              exact hown4
      · have HF : Hid (∃ j, j < s.size ∧ ixN d (bt s j) = none) := ⟨k, hlt, by rw [HY]; exact h1⟩
        obtain ⟨z, hz⟩ : ∃ z, ixI d y = z := ⟨_, rfl⟩
        have HIX : Hid (ixI d y = z) := hz
        rw [hz] at h2
        clear h1 HY hz HG
        go_wp2_with (go_at_call 53; refine (indexByteX d y _).mono ?_; rintro e w2 ⟨rfl, rfl⟩; rw [HIX.out])
        go_ret2
        exact ⟨.inl ⟨HF.out, rfl⟩, hBr⟩
    · have hkd : k = s.size := by omega
      subst hkd
      obtain ⟨pA, cA, rfl, hat, h1, h2⟩ := NumsAt.of_owns hown (by rw [bitsL_len, List.length_map, lst_len])
      go_wp2
      go_ret2
      exact ⟨.inr ⟨HG.out, pA, cA, rfl, hat, h1, h2⟩, hBr⟩

/-- what whole hands back -/
def wholeRes (l : List Nat) (most : Nat) (e : Ending) : Prop :=
  ∃ P rem m, l = P ++ rem ∧ P.length = 8 * m ∧ rem.length < 8 ∧ e = .returned (.tuple #[.string (if val rem = 0 then bts (codeP 8 P) else ByteArray.empty), .bool (decide (val rem = 0 ∧ rem.length < most))])

set_option maxRecDepth 100000 in
set_option maxHeartbeats 2000000 in
/-- gazetteerref1.whole -/
theorem whole_any (p : Option Addr) (cap most : Nat) (l : List Nat) (w : World) (hat : NumsAt w p l) (hl : l.length ≤ 67108864) (hlc : l.length ≤ cap) (hc : cap ≤ 9223372036854775807) (hb : Bin l) (hmo : most ≤ 8) :
    Calls Try.prog 35 #[.slice p l.length cap, .int .i64 (most : Int)] w fun e w' =>
      wholeRes l most e ∧ Below w.heap.size w w' := by
  obtain ⟨i0, hi, hz0, hz1, hz2⟩ := info_parts Try.infoByte
  go_enter Try.func35, Try.ntmps35
  go_wp2_with fail
  go_loopw [0, 6] (fun bv ov wr => ∃ (m acc P : List Nat) (q : Option Addr) (cq : Nat), bv = .slice q m.length cq ∧ NumsAt w q m ∧ m.length ≤ cq ∧ cq ≤ 9223372036854775807 ∧ Hid (l = P ++ m) ∧ Hid (Bin m) ∧ 8 * acc.length + m.length = l.length ∧ Hid (P.length = 8 * acc.length) ∧ Hid (acc = codeP 8 P) ∧ Hid (∀ v ∈ acc, v < 256) ∧ wr.ownsRow w.heap.size 5 1 ov acc.length (byts acc) ∧ Below w.heap.size w wr) (fun bv _ _ => slen bv)
  case atStart => exact ⟨l, [], [], p, cap, rfl, hat, hlc, hc, rfl, hb, by simp, rfl, rfl, (fun x hx => by cases hx), World.ownsRow_nil _ _ _ _, Below.refl _ _⟩
  case round =>
    obtain ⟨m, acc, P, q, cq, rfl, hatq, hmc, hcq, HLP, HBm, hlen, HPL, HAC, HA, hown, hBr⟩ := hrel
    have hatr := hatq.below hBr
    by_cases hm8 : 8 ≤ m.length
    · obtain ⟨g, off, rfl, hg, _⟩ := hatq 0 (by omega)
      go_wp2_with fail
      go_loop [7, 8] (fun vv kv => ∃ k : Nat, kv = .int .i64 k ∧ k ≤ 8 ∧ vv = .int .i64 ((val (m.take k) : Nat) : Int)) (fun _ kv => (8 - intOf kv).toNat)
      case atStart => exact ⟨0, rfl, by omega, rfl⟩
      case round =>
        obtain ⟨k, rfl, hk8, rfl⟩ := hrel
        have hvb : val (m.take k) < 256 := by
          have h1 := val_lt (HBm.out.take k)
          rw [List.length_take, Nat.min_eq_left (by omega)] at h1
          have h2 : 2 ^ k ≤ 2 ^ 8 := Nat.pow_le_pow_right (by omega) hk8
          omega
        by_cases hlt : k < 8
        · have hin : k < m.length := by omega
          obtain ⟨g', o', he, hg', hcell⟩ := hatr k hin
          simp at he
          obtain ⟨rfl, rfl⟩ := he
          have hbit := HBm.out _ (List.getElem_mem hin)
          have HV : Hid (((val (m.take (k + 1)) : Nat) : Int) = 2 * (val (m.take k) : Int) + (m[k] : Nat)) := by
            unfold Hid; rw [List.take_succ_eq_append_getElem hin, val_snoc]; omega
          generalize m[k] = x at *
          generalize val (m.take k) = V at *
          go_wp2
          go_round
          case rel => exact ⟨k + 1, by go_num, hlt, by rw [HV.out]⟩
          case measure => simp [intOf]; omega
        · obtain rfl : k = 8 := by omega
          have hsp := List.take_append_drop 8 m
          have hl8 : (m.take 8).length = 8 := by rw [List.length_take]; omega
          have HLP3 : Hid (l = (P ++ m.take 8) ++ m.drop 8) := by unfold Hid; rw [List.append_assoc, hsp]; exact HLP.out
          have HPL3 : Hid ((P ++ m.take 8).length = 8 * (acc ++ [val (m.take 8)]).length) := by
            unfold Hid; have := HPL.out; rw [List.length_append, hl8, List.length_append, List.length_singleton]; omega
          have HAC3 : Hid (acc ++ [val (m.take 8)] = codeP 8 (P ++ m.take 8)) := by
            unfold Hid
            rw [codeP_mul (by omega) acc.length P _ HPL.out, ← HAC.out]
            congr 1
            have := codeP_full (w := 8) (by omega) (m.take 8) [] hl8
            rw [List.append_nil, codeP_nil] at this; exact this.symm
          have HA3 : Hid (∀ v ∈ acc ++ [val (m.take 8)], v < 256) := fun v hv => by
            rcases List.mem_append.1 hv with h | h
            · exact HA.out v h
            · simp at h; omega
          have HBd : Hid (Bin (m.drop 8)) := HBm.out.drop 8
          have HEY : Hid (byts (acc ++ [val (m.take 8)]) = byts acc ++ [.int .u8 ((val (m.take 8) : Nat) : Int)]) := by unfold Hid; simp [byts]
          clear hsp hl8 HLP HPL HAC HA HBm hatr
          generalize val (m.take 8) = V at *
          go_wp2_with (at_builtin; refine wpList_append_own _ rfl _ _ 53 rfl w.heap.size 5 i0 (.int .u8 0) 1 1 Try.underlying53 hi hz0 hz1 hz2 rfl (by decide) _ _ _ rfl (hown.alloc _) ⟨_, 0, none⟩ 1 1 [.int .u8 (V : Int)] rfl rfl (cell_one_new _ _ _) (by simp [Value.oneCell']) (by unfold maxLen; omega) (by omega) (by have := hBr.size; simp; omega) ?_; intro v4 w4 hown4 hgrow4 _)
          refine ⟨⟨m.drop 8, acc ++ [V], P ++ m.take 8, _, cq - 8, by rw [List.length_drop], ?_, by rw [List.length_drop]; omega, by omega, HLP3, HBd, by rw [List.length_drop, List.length_append, List.length_singleton]; omega, HPL3, HAC3, HA3, ?_, below_app hBr (Nat.le_refl _) hown hgrow4⟩, by simp [slen]; omega⟩
          · split
            · intro k hk; rw [List.length_drop] at hk; omega
            · exact hatq.drop 8
          · rw [HEY.out, List.length_append]; exact hown4
    · have hz := bts_size acc
      obtain ⟨pA, cA, rfl, _, _, hsh⟩ := owns_shape hown
      have hcv : (convert 53 9 (.slice pA acc.length cA)).run Try.prog wr = .ok (.string (bts acc)) wr := by
        rcases hsh with ⟨rfl, h0⟩ | ⟨g, rfl, _, _⟩
        · have ha : acc = [] := List.length_eq_zero_iff.1 h0
          rw [ha]
          exact nil_str wr cA
        · have h := owns_str (t := bts acc) (w := wr) (base := w.heap.size) (g := g) (cap := cA) (by rw [hz, bts_cells _ HA.out]; exact hown)
          rw [hz] at h; exact h
      have hm8' : m.length < 8 := by omega
      clear hz hsh hm8
      go_wp2_with fail
      go_loop [34] (fun iv => ∃ i : Nat, iv = .int .i64 i ∧ i ≤ m.length ∧ Hid (∀ j, (hj : j < m.length) → j < i → m[j] = 0)) (fun iv => m.length - (intOf iv).toNat)
      case atStart => exact ⟨0, rfl, Nat.zero_le _, fun j hj h => absurd h (Nat.not_lt_zero _)⟩
      case round =>
        obtain ⟨i, rfl, hi2, HZ⟩ := hrel
        by_cases hlt : i < m.length
        · obtain ⟨g, off, rfl, hg, hcell⟩ := hatr i hlt
          by_cases hx : m[i] = 0
          · rw [hx] at hcell
            have HZ2 : Hid (∀ j, (hj : j < m.length) → j < i + 1 → m[j] = 0) := by
              intro j hj h
              by_cases e : j = i
              · subst e; exact hx
              · exact HZ.out j hj (by omega)
            clear hx hatr hatq
            go_wp2
            go_round
            case rel => exact ⟨i + 1, by go_num, hlt, HZ2⟩
            case measure => simp [intOf]; omega
          · have hv : val m ≠ 0 := val_pos (List.getElem_mem hlt) hx
            have HV := hide' hv
            have hx1 : (((m[i] : Nat) : Int) != 0) = true := by rw [bne_iff_ne]; omega
            have hx2 : (((m[i] : Nat) : Int) == 0) = false := by rw [beq_eq_false_iff_ne]; omega
            generalize m[i] = x at *
            clear hx hatr hatq hv
            go_wp2
            go_ret2
            refine ⟨⟨P, m, acc.length, HLP.out, HPL.out, hm8', ?_⟩, hBr⟩
            have hdec : decide (val m = 0 ∧ m.length < most) = false := decide_eq_false (fun h => HV.out h.1)
            rw [if_neg HV.out, hdec]; rfl
        · have hv : val m = 0 := val_zero (fun x hx => by
            obtain ⟨j, hj, rfl⟩ := List.getElem_of_mem hx
            exact HZ.out j hj (by omega))
          have HV := hide' hv
          clear hv hatr hatq
          by_cases hmo2 : m.length < most
          · go_wp2
            go_ret2
            refine ⟨⟨P, m, acc.length, HLP.out, HPL.out, hm8', ?_⟩, hBr⟩
            have hdec : decide (val m = 0 ∧ m.length < most) = true := decide_eq_true ⟨HV.out, hmo2⟩
            rw [if_pos HV.out, ← HAC.out, hdec]; first | rfl | simp [hmo2]
          · have hmo3 : most ≤ m.length := by omega
            go_wp2
            go_ret2
            refine ⟨⟨P, m, acc.length, HLP.out, HPL.out, hm8', ?_⟩, hBr⟩
            have hdec : decide (val m = 0 ∧ m.length < most) = false := decide_eq_false (fun h => hmo2 h.2)
            rw [if_pos HV.out, ← HAC.out, hdec]; first | rfl | simp [hmo3]
end Go.Proofs.Ytfofdcacikbflaa
