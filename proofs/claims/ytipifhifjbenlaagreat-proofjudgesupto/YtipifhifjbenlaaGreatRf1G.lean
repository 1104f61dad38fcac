import Derived.Test.YtipifhifjbenlaaGreatDg1G
import Derived.Test.YtipifhifjbenlaaGreatPrW
import Derived.Laws.BytesString
namespace Go.Proofs.YtipifhifjbenlaaGreat
set_option linter.unusedVariables false
open Go.RowKit Go.Shelf Go.Proofs.YtipifhifjbenlaaGreat.Nm

theorem Tryz.infoInt : (Tryz.prog.info? 3).map (fun i => (i.zero, i.size, i.bytes)) = some (some (.int .i64 0), 1, 8) := by kernel_rfl

/-- numbers in memory -/
def NumsAt (w : World) (p : Option Addr) (l : List Nat) : Prop := ∀ k (h : k < l.length), ∃ g off, p = some ⟨g, off, none⟩ ∧ g < w.heap.size ∧ w.cell? ⟨g, off + k, none⟩ = some (.int .i64 (l[k] : Nat))
theorem NumsAt.below {w w' : World} {p : Option Addr} {l : List Nat} (h : NumsAt w p l) (hb : Below w.heap.size w w') : NumsAt w' p l := fun k hk => by
  obtain ⟨g, off, h1, h2, h3⟩ := h k hk
  exact ⟨g, off, h1, Nat.lt_of_lt_of_le h2 hb.size, (hb.cell (p := ⟨g, off + k, none⟩) h2).trans h3⟩
abbrev nums (l : List Nat) : List Value := l.map (fun x : Nat => Value.int .i64 (x : Int))
theorem NumsAt.of_owns {w : World} {base n : Nat} {v : Value} {l : List Nat} (h : w.ownsRow base 3 1 v n (nums l)) (hn : n = l.length) : ∃ p c, v = .slice p n c ∧ NumsAt w p l ∧ n ≤ c ∧ c ≤ 9223372036854775807 := by
  obtain ⟨hl, (⟨rfl, rfl⟩ | ⟨g, cap, cur, rfl, hb, hg, hnc, hcap, hsz, ht⟩)⟩ := h
  · exact ⟨none, 0, rfl, fun k hk => by omega, Nat.le_refl _, by omega⟩
  · refine ⟨_, cap, rfl, fun k hk => ⟨g, 0, rfl, (Array.getElem?_eq_some_iff.1 hg).1, ?_⟩, hnc, by unfold maxLen at hcap; omega⟩
    have := World.ownsRow.cellAt (w := w) (base := base) (e := 3) (size := 1) (g := g) (n := n) (cap := cap) (xs := nums l) ⟨hl, .inr ⟨g, cap, cur, rfl, hb, hg, hnc, hcap, hsz, ht⟩⟩ k (by omega)
    rw [Nat.zero_add, this, List.getElem?_map, List.getElem?_eq_getElem hk]
    rfl

set_option maxRecDepth 100000 in
set_option maxHeartbeats 2000000 in
/-- gazetteerref1.bits -/
theorem bits_any (d : ByteArray) (w : World) (hd : d.size ≤ 1048576) :
    Calls Tryz.prog 75 #[.string d] w fun e w' => ∃ v, e = .returned v ∧ w'.ownsRow w.heap.size 3 1 v (bitsL 8 (lst d d.size)).length (nums (bitsL 8 (lst d d.size))) ∧ Below w.heap.size w w' := by
  obtain ⟨i0, hi, hz0, hz1, hz2⟩ := info_parts Tryz.infoInt
  go_enter Tryz.func75, Tryz.ntmps75
  go_wp2_with fail
  go_loopw [3, 4] (fun ov kv wr => ∃ k : Nat, kv = .int .i64 k ∧ k ≤ d.size ∧ wr.ownsRow w.heap.size 3 1 ov (8 * k) (nums (bitsL 8 (lst d k))) ∧ Below w.heap.size w wr) (fun _ kv _ => d.size - (intOf kv).toNat)
  case atStart => exact ⟨0, rfl, Nat.zero_le _, World.ownsRow_nil _ _ _ _, Below.refl _ _⟩
  case round =>
    obtain ⟨k, rfl, hk, hown, hBr⟩ := hrel
    by_cases hlt : k < d.size
    · obtain ⟨y, hy, HY, hyl⟩ := bt_wrap hlt
      have HS : Hid (nums (bitsL 8 (lst d (k + 1))) = nums (bitsL 8 (lst d k)) ++ nums (bitsW 8 y)) := by
        unfold Hid; rw [lst_succ, bitsL_snoc, HY]; simp [nums]
      clear HY
      go_wp2_with fail
      obtain ⟨wo, rfl⟩ : ∃ wo, wo = wr := ⟨_, rfl⟩
      go_loopw [3, 5] (fun ov mv wr => ∃ j : Nat, j ≤ 8 ∧ mv = .int .i64 ((128 / 2 ^ j : Nat) : Int) ∧ wr.ownsRow w.heap.size 3 1 ov (8 * k + j) (nums (bitsL 8 (lst d k)) ++ nums ((bitsW 8 y).take j)) ∧ Below w.heap.size w wr) (fun _ mv _ => (intOf mv).toNat)
      case atStart => exact ⟨0, by omega, rfl, by simpa using hown, hBr⟩
      case round =>
        clear hown
        obtain ⟨j, hj, rfl, hown, hBq⟩ := hrel
        by_cases h8 : j = 8
        · subst h8
          have hown2 : wr.ownsRow w.heap.size 3 1 u3 (8 * (k + 1)) (nums (bitsL 8 (lst d (k + 1)))) := by
            rw [HS.out]
            have e : (bitsW 8 y).take 8 = bitsW 8 y := List.take_of_length_le (by rw [bitsW_len]; exact Nat.le_refl _)
            rw [e] at hown
            exact hown
          clear hown
          go_wp2
          refine ⟨⟨k + 1, by go_num, hlt, hown2, hBq⟩, ?_⟩
          simp [intOf]; omega
        · have hlt8 : j < 8 := by omega
          have HT : Hid (nums ((bitsW 8 y).take (j + 1)) = nums ((bitsW 8 y).take j) ++ [.int .i64 ((y / 2 ^ (7 - j) % 2 : Nat) : Int)]) := by
            unfold Hid
            have e := bitsW_get 8 y j hlt8
            obtain ⟨hl, he⟩ := List.getElem?_eq_some_iff.1 e
            rw [List.take_succ_eq_append_getElem hl, he]
            simp [nums]
          have hcase : j = 0 ∨ j = 1 ∨ j = 2 ∨ j = 3 ∨ j = 4 ∨ j = 5 ∨ j = 6 ∨ j = 7 := by omega
          clear h8
          rcases hcase with rfl | rfl | rfl | rfl | rfl | rfl | rfl | rfl
          all_goals
            have HT' := HT.out
            simp only [Nat.reducePow, Nat.reduceSub, Nat.reduceAdd, Nat.reduceDiv, Int.natCast_ediv, Int.natCast_emod, Int.cast_ofNat_Int, Int.ediv_one] at HT' ⊢
            have HT2 := hide' HT'
            clear HT' HT
            go_wp2_with (at_builtin; refine wpList_append_own _ rfl _ _ 41 rfl w.heap.size 3 i0 (.int .i64 0) 1 8 Tryz.underlying41 hi hz0 hz1 hz2 rfl (by decide) _ _ _ rfl (hown.alloc _) ⟨wr.heap.size, 0, none⟩ 1 1 [.int .i64 _] rfl rfl (cell_one_new _ _ _) (by simp [Value.oneCell']) (by unfold maxLen; omega) (by omega) (by have := hBq.size; simp; omega) ?_; intro v4 w4 hown4 hgrow4 _)
            refine ⟨⟨_, Nat.succ_le_of_lt hlt8, rfl, ?_, below_app hBq (Nat.le_refl _) hown hgrow4⟩, by simp [intOf]⟩
            rw [List.append_assoc, ← HT2.out] at hown4
            exact hown4
    · have hkd : k = d.size := by omega
      subst hkd
      go_wp2
      go_ret
      exact ⟨_, rfl, by rw [bitsL_len, lst_len]; exact hown, hBr⟩
end Go.Proofs.YtipifhifjbenlaaGreat

namespace Go.Proofs.YtipifhifjbenlaaGreat
set_option linter.unusedVariables false
open Go.RowKit Go.Shelf Go.Proofs.YtipifhifjbenlaaGreat.Nm

def slen : Value → Nat
  | .slice _ n _ => n
  | _ => 0
/-- the first k, filled with noughts -/
def pd (l : List Nat) (k : Nat) : List Nat := l.take k ++ List.replicate (k - l.length) 0
theorem pd_in {l : List Nat} {k : Nat} (h : k < l.length) : pd l (k + 1) = pd l k ++ [l[k]] := by
  unfold pd
  rw [List.take_succ_eq_append_getElem h, show k + 1 - l.length = 0 by omega, show k - l.length = 0 by omega]; simp
theorem pd_out {l : List Nat} {k : Nat} (h : l.length ≤ k) : pd l (k + 1) = pd l k ++ [0] := by
  unfold pd
  rw [List.take_of_length_le (by omega), List.take_of_length_le h, show k + 1 - l.length = (k - l.length) + 1 by omega, List.replicate_succ', List.append_assoc]
theorem pd_bin {l : List Nat} (h : Bin l) (k : Nat) : Bin (pd l k) := (h.take k).append (bin_zeros _)
theorem pd_len (l : List Nat) (k : Nat) : (pd l k).length = k := by unfold pd; rw [List.length_append, List.length_take, List.length_replicate]; omega
theorem NumsAt.drop {w : World} {g off : Nat} {l : List Nat} (h : NumsAt w (some ⟨g, off, none⟩) l) (n : Nat) : NumsAt w (some ⟨g, off + n, none⟩) (l.drop n) := fun k hk => by
  obtain ⟨g', o', h1, h2, h3⟩ := h (n + k) (by rw [List.length_drop] at hk; omega)
  simp at h1
  obtain ⟨rfl, rfl⟩ := h1
  refine ⟨g, off + n, rfl, h2, ?_⟩
  rw [show off + n + k = off + (n + k) by omega, h3]; simp

/-- 'string(b)' of none -/
theorem nil_str (w : World) (c : Nat) : (convert 96 9 (.slice none 0 c)).run Tryz.prog w = .ok (.string ByteArray.empty) w := by
  rw [run_convert_bytes_string w 96 9 5 none 0 c Tryz.underlying96 Tryz.underlying5 Tryz.underlying9]
  rfl

end Go.Proofs.YtipifhifjbenlaaGreat

namespace Go.Proofs.YtipifhifjbenlaaGreat
set_option linter.unusedVariables false
open Go.RowKit Go.Shelf Go.Proofs.YtipifhifjbenlaaGreat.Nm

theorem val_zero : ∀ {l : List Nat}, (∀ x ∈ l, x = 0) → val l = 0
  | [], _ => rfl
  | x :: l, h => by rw [val_cons, h x (List.mem_cons_self ..), val_zero (l := l) (fun y hy => h y (List.mem_cons_of_mem _ hy))]; simp
theorem val_pos : ∀ {l : List Nat} {x : Nat}, x ∈ l → x ≠ 0 → val l ≠ 0
  | y :: l, x, hx, h0 => by
    rw [val_cons]
    have hp : 0 < 2 ^ l.length := Nat.two_pow_pos _
    rcases List.mem_cons.1 hx with rfl | hx
    · have : 0 < x * 2 ^ l.length := Nat.mul_pos (by omega) hp
      omega
    · have := val_pos hx h0
      omega

set_option maxRecDepth 100000 in
set_option maxHeartbeats 2000000 in
/-- gazetteerref1.spread, base 32 -/
theorem spread5 (s d : ByteArray) (w : World) (hs : s.size ≤ 4194304) (hd : d.size = 32) :
    Calls Tryz.prog 76 #[.string s, .int .i64 5, .string d] w fun e w' =>
      (((∃ j, j < s.size ∧ ixN d (bt s j) = none) ∧ e = .returned (.tuple #[.slice none 0 0, .bool false])) ∨
       ((∀ j, j < s.size → ixN d (bt s j) ≠ none) ∧ ∃ p c, e = .returned (.tuple #[.slice p (5 * s.size) c, .bool true]) ∧ NumsAt w' p (bitsL 5 ((lst s s.size).map (ixv d))) ∧ 5 * s.size ≤ c ∧ c ≤ 9223372036854775807)) ∧ Below w.heap.size w w' := by
  obtain ⟨i0, hi, hz0, hz1, hz2⟩ := info_parts Tryz.infoInt
  go_enter Tryz.func76, Tryz.ntmps76
  go_wp2_with fail
  go_loopw [8, 9] (fun ov kv wr => ∃ k : Nat, kv = .int .i64 k ∧ k ≤ s.size ∧ Hid (∀ j, j < k → ixN d (bt s j) ≠ none) ∧ wr.ownsRow w.heap.size 3 1 ov (5 * k) (nums (bitsL 5 ((lst s k).map (ixv d)))) ∧ Below w.heap.size w wr) (fun _ kv _ => s.size - (intOf kv).toNat)
  case atStart => exact ⟨0, rfl, Nat.zero_le _, (fun j hj => absurd hj (Nat.not_lt_zero _)), World.ownsRow_nil _ _ _ _, Below.refl _ _⟩
  case round =>
    obtain ⟨k, rfl, hk, HG, hown, hBr⟩ := hrel
    by_cases hlt : k < s.size
    · obtain ⟨y, hy, HY, hyl⟩ := bt_wrap hlt
      rcases ix_cases d hyl with ⟨v, h1, h2, h3, h4, _⟩ | ⟨h1, h2⟩
      · have HS : Hid (nums (bitsL 5 ((lst s (k + 1)).map (ixv d))) = nums (bitsL 5 ((lst s k).map (ixv d))) ++ nums (bitsW 5 v)) := by
          unfold Hid; rw [lst_take_map, HY, h2]; simp [nums]
        have HG2 : Hid (∀ j, j < k + 1 → ixN d (bt s j) ≠ none) := by
          intro j hj
          by_cases e : j = k
          · subst e; rw [HY, h1]; simp
          · exact HG.out j (by omega)
        have HIX : Hid (ixI d y = (v : Int)) := h3
        have hv32 : v < 32 := by omega
        clear HY h1 h2 h3 HG
        go_wp2_with (go_at_call 88; refine (indexByteX d y _).mono ?_; rintro e w2 ⟨rfl, rfl⟩; rw [HIX.out])
        obtain ⟨wo, rfl⟩ : ∃ wo, wo = w2 := ⟨_, rfl⟩
        go_loopw [8, 11] (fun ov mv wr => ∃ j : Nat, j ≤ 5 ∧ mv = .int .i64 ((16 / 2 ^ j : Nat) : Int) ∧ wr.ownsRow w.heap.size 3 1 ov (5 * k + j) (nums (bitsL 5 ((lst s k).map (ixv d))) ++ nums ((bitsW 5 v).take j)) ∧ Below w.heap.size w wr) (fun _ mv _ => (intOf mv).toNat)
        case atStart => exact ⟨0, by omega, rfl, by simpa using hown, hBr⟩
        case round =>
          clear hown
          obtain ⟨j, hj, rfl, hown, hBq⟩ := hrel
          by_cases h8 : j = 5
          · subst h8
            have hown2 : wr.ownsRow w.heap.size 3 1 u8 (5 * (k + 1)) (nums (bitsL 5 ((lst s (k + 1)).map (ixv d)))) := by
              rw [HS.out]
              have e : (bitsW 5 v).take 5 = bitsW 5 v := List.take_of_length_le (by rw [bitsW_len]; exact Nat.le_refl _)
              rw [e] at hown
              exact hown
            clear hown
            go_wp2
            refine ⟨⟨k + 1, by go_num, hlt, HG2, hown2, hBq⟩, ?_⟩
            simp [intOf]; omega
          · have hlt8 : j < 5 := by omega
            have HT : Hid (nums ((bitsW 5 v).take (j + 1)) = nums ((bitsW 5 v).take j) ++ [.int .i64 ((v / 2 ^ (4 - j) % 2 : Nat) : Int)]) := by
              unfold Hid
              have e := bitsW_get 5 v j hlt8
              obtain ⟨hl, he⟩ := List.getElem?_eq_some_iff.1 e
              rw [List.take_succ_eq_append_getElem hl, he]
              simp [nums]
            have hcase : j = 0 ∨ j = 1 ∨ j = 2 ∨ j = 3 ∨ j = 4 := by omega
            clear h8
            rcases hcase with rfl | rfl | rfl | rfl | rfl
            all_goals
              have HT' := HT.out
              simp only [Nat.reducePow, Nat.reduceSub, Nat.reduceAdd, Nat.reduceDiv, Int.natCast_ediv, Int.natCast_emod, Int.cast_ofNat_Int, Int.ediv_one] at HT' ⊢
              have HT2 := hide' HT'
              clear HT' HT
              go_wp2_with (at_builtin; refine wpList_append_own _ rfl _ _ 41 rfl w.heap.size 3 i0 (.int .i64 0) 1 8 Tryz.underlying41 hi hz0 hz1 hz2 rfl (by decide) _ _ _ rfl (hown.alloc _) ⟨wr.heap.size, 0, none⟩ 1 1 [.int .i64 _] rfl rfl (cell_one_new _ _ _) (by simp [Value.oneCell']) (by unfold maxLen; omega) (by omega) (by have := hBq.size; simp; omega) ?_; intro v4 w4 hown4 hgrow4 _)
              refine ⟨⟨_, Nat.succ_le_of_lt hlt8, rfl, ?_, below_app hBq (Nat.le_refl _) hown hgrow4⟩, by simp [intOf]⟩
              rw [List.append_assoc, ← HT2.out] at hown4
              exact hown4
      · have HF : Hid (∃ j, j < s.size ∧ ixN d (bt s j) = none) := ⟨k, hlt, by rw [HY]; exact h1⟩
        obtain ⟨z, hz⟩ : ∃ z, ixI d y = z := ⟨_, rfl⟩
        have HIX : Hid (ixI d y = z) := hz
        rw [hz] at h2
        clear h1 HY hz HG
        go_wp2_with (go_at_call 88; refine (indexByteX d y _).mono ?_; rintro e w2 ⟨rfl, rfl⟩; rw [HIX.out])
        go_ret2
        exact ⟨.inl ⟨HF.out, rfl⟩, hBr⟩
    · have hkd : k = s.size := by omega
      subst hkd
      obtain ⟨pA, cA, rfl, hat, h1, h2⟩ := NumsAt.of_owns hown (by rw [bitsL_len, List.length_map, lst_len])
      go_wp2
      go_ret2
      exact ⟨.inr ⟨HG.out, pA, cA, rfl, hat, h1, h2⟩, hBr⟩

/-- what whole hands back -/
def wholeRes (l : List Nat) (most : Nat) (e : Ending) : Prop :=
  ∃ P rem m, l = P ++ rem ∧ P.length = 8 * m ∧ rem.length < 8 ∧ e = .returned (.tuple #[.string (if val rem = 0 then bts (codeP 8 P) else ByteArray.empty), .bool (decide (val rem = 0 ∧ rem.length < most))])

set_option maxRecDepth 100000 in
set_option maxHeartbeats 2000000 in
/-- gazetteerref1.whole -/
theorem whole_any (p : Option Addr) (cap most : Nat) (l : List Nat) (w : World) (hat : NumsAt w p l) (hl : l.length ≤ 67108864) (hlc : l.length ≤ cap) (hc : cap ≤ 9223372036854775807) (hb : Bin l) (hmo : most ≤ 8) :
    Calls Tryz.prog 77 #[.slice p l.length cap, .int .i64 (most : Int)] w fun e w' =>
      wholeRes l most e ∧ Below w.heap.size w w' := by
  obtain ⟨i0, hi, hz0, hz1, hz2⟩ := info_parts Tryz.infoByte
  go_enter Tryz.func77, Tryz.ntmps77
  go_wp2_with fail
  go_loopw [0, 6] (fun bv ov wr => ∃ (m acc P : List Nat) (q : Option Addr) (cq : Nat), bv = .slice q m.length cq ∧ NumsAt w q m ∧ m.length ≤ cq ∧ cq ≤ 9223372036854775807 ∧ Hid (l = P ++ m) ∧ Hid (Bin m) ∧ 8 * acc.length + m.length = l.length ∧ Hid (P.length = 8 * acc.length) ∧ Hid (acc = codeP 8 P) ∧ Hid (∀ v ∈ acc, v < 256) ∧ wr.ownsRow w.heap.size 5 1 ov acc.length (byts acc) ∧ Below w.heap.size w wr) (fun bv _ _ => slen bv)
  case atStart => exact ⟨l, [], [], p, cap, rfl, hat, hlc, hc, rfl, hb, by simp, rfl, rfl, (fun x hx => by cases hx), World.ownsRow_nil _ _ _ _, Below.refl _ _⟩
  case round =>
    obtain ⟨m, acc, P, q, cq, rfl, hatq, hmc, hcq, HLP, HBm, hlen, HPL, HAC, HA, hown, hBr⟩ := hrel
    have hatr := hatq.below hBr
    by_cases hm8 : 8 ≤ m.length
    · obtain ⟨g, off, rfl, hg, _⟩ := hatq 0 (by omega)
      go_wp2_with fail
      go_loop [7, 8] (fun vv kv => ∃ k : Nat, kv = .int .i64 k ∧ k ≤ 8 ∧ vv = .int .i64 ((val (m.take k) : Nat) : Int)) (fun _ kv => (8 - intOf kv).toNat)
      case atStart => exact ⟨0, rfl, by omega, rfl⟩
      case round =>
        obtain ⟨k, rfl, hk8, rfl⟩ := hrel
        have hvb : val (m.take k) < 256 := by
          have h1 := val_lt (HBm.out.take k)
          rw [List.length_take, Nat.min_eq_left (by omega)] at h1
          have h2 : 2 ^ k ≤ 2 ^ 8 := Nat.pow_le_pow_right (by omega) hk8
          omega
        by_cases hlt : k < 8
        · have hin : k < m.length := by omega
          obtain ⟨g', o', he, hg', hcell⟩ := hatr k hin
          simp at he
          obtain ⟨rfl, rfl⟩ := he
          have hbit := HBm.out _ (List.getElem_mem hin)
          have HV : Hid (((val (m.take (k + 1)) : Nat) : Int) = 2 * (val (m.take k) : Int) + (m[k] : Nat)) := by
            unfold Hid; rw [List.take_succ_eq_append_getElem hin, val_snoc]; omega
          generalize m[k] = x at *
          generalize val (m.take k) = V at *
          go_wp2
          go_round
          case rel => exact ⟨k + 1, by go_num, hlt, by rw [HV.out]⟩
          case measure => simp [intOf]; omega
        · obtain rfl : k = 8 := by omega
          have hsp := List.take_append_drop 8 m
          have hl8 : (m.take 8).length = 8 := by rw [List.length_take]; omega
          have HLP3 : Hid (l = (P ++ m.take 8) ++ m.drop 8) := by unfold Hid; rw [List.append_assoc, hsp]; exact HLP.out
          have HPL3 : Hid ((P ++ m.take 8).length = 8 * (acc ++ [val (m.take 8)]).length) := by
            unfold Hid; have := HPL.out; rw [List.length_append, hl8, List.length_append, List.length_singleton]; omega
          have HAC3 : Hid (acc ++ [val (m.take 8)] = codeP 8 (P ++ m.take 8)) := by
            unfold Hid
            rw [codeP_mul (by omega) acc.length P _ HPL.out, ← HAC.out]
            congr 1
            have := codeP_full (w := 8) (by omega) (m.take 8) [] hl8
            rw [List.append_nil, codeP_nil] at this; exact this.symm
          have HA3 : Hid (∀ v ∈ acc ++ [val (m.take 8)], v < 256) := fun v hv => by
            rcases List.mem_append.1 hv with h | h
            · exact HA.out v h
            · simp at h; omega
          have HBd : Hid (Bin (m.drop 8)) := HBm.out.drop 8
          have HEY : Hid (byts (acc ++ [val (m.take 8)]) = byts acc ++ [.int .u8 ((val (m.take 8) : Nat) : Int)]) := by unfold Hid; simp [byts]
          clear hsp hl8 HLP HPL HAC HA HBm hatr
          generalize val (m.take 8) = V at *
          go_wp2_with (at_builtin; refine wpList_append_own _ rfl _ _ 96 rfl w.heap.size 5 i0 (.int .u8 0) 1 1 Tryz.underlying96 hi hz0 hz1 hz2 rfl (by decide) _ _ _ rfl (hown.alloc _) ⟨_, 0, none⟩ 1 1 [.int .u8 (V : Int)] rfl rfl (cell_one_new _ _ _) (by simp [Value.oneCell']) (by unfold maxLen; omega) (by omega) (by have := hBr.size; simp; omega) ?_; intro v4 w4 hown4 hgrow4 _)
          refine ⟨⟨m.drop 8, acc ++ [V], P ++ m.take 8, _, cq - 8, by rw [List.length_drop], ?_, by rw [List.length_drop]; omega, by omega, HLP3, HBd, by rw [List.length_drop, List.length_append, List.length_singleton]; omega, HPL3, HAC3, HA3, ?_, below_app hBr (Nat.le_refl _) hown hgrow4⟩, by simp [slen]; omega⟩
          · split
            · intro k hk; rw [List.length_drop] at hk; omega
            · exact hatq.drop 8
          · rw [HEY.out, List.length_append]; exact hown4
    · have hz := bts_size acc
      obtain ⟨pA, cA, rfl, _, _, hsh⟩ := owns_shape hown
      have hcv : (convert 96 9 (.slice pA acc.length cA)).run Tryz.prog wr = .ok (.string (bts acc)) wr := by
        rcases hsh with ⟨rfl, h0⟩ | ⟨g, rfl, _, _⟩
        · have ha : acc = [] := List.length_eq_zero_iff.1 h0
          rw [ha]
          exact nil_str wr cA
        · have h := owns_str (t := bts acc) (w := wr) (base := w.heap.size) (g := g) (cap := cA) (by rw [hz, bts_cells _ HA.out]; exact hown)
          rw [hz] at h; exact h
      have hm8' : m.length < 8 := by omega
      clear hz hsh hm8
      go_wp2_with fail
      go_loop [34] (fun iv => ∃ i : Nat, iv = .int .i64 i ∧ i ≤ m.length ∧ Hid (∀ j, (hj : j < m.length) → j < i → m[j] = 0)) (fun iv => m.length - (intOf iv).toNat)
      case atStart => exact ⟨0, rfl, Nat.zero_le _, fun j hj h => absurd h (Nat.not_lt_zero _)⟩
      case round =>
        obtain ⟨i, rfl, hi2, HZ⟩ := hrel
        by_cases hlt : i < m.length
        · obtain ⟨g, off, rfl, hg, hcell⟩ := hatr i hlt
          by_cases hx : m[i] = 0
          · rw [hx] at hcell
            have HZ2 : Hid (∀ j, (hj : j < m.length) → j < i + 1 → m[j] = 0) := by
              intro j hj h
              by_cases e : j = i
              · subst e; exact hx
              · exact HZ.out j hj (by omega)
            clear hx hatr hatq
            go_wp2
            go_round
            case rel => exact ⟨i + 1, by go_num, hlt, HZ2⟩
            case measure => simp [intOf]; omega
          · have hv : val m ≠ 0 := val_pos (List.getElem_mem hlt) hx
            have HV := hide' hv
            have hx1 : (((m[i] : Nat) : Int) != 0) = true := by rw [bne_iff_ne]; omega
            have hx2 : (((m[i] : Nat) : Int) == 0) = false := by rw [beq_eq_false_iff_ne]; omega
            generalize m[i] = x at *
            clear hx hatr hatq hv
            go_wp2
            go_ret2
            refine ⟨⟨P, m, acc.length, HLP.out, HPL.out, hm8', ?_⟩, hBr⟩
            have hdec : decide (val m = 0 ∧ m.length < most) = false := decide_eq_false (fun h => HV.out h.1)
            rw [if_neg HV.out, hdec]; rfl
        · have hv : val m = 0 := val_zero (fun x hx => by
            obtain ⟨j, hj, rfl⟩ := List.getElem_of_mem hx
            exact HZ.out j hj (by omega))
          have HV := hide' hv
          clear hv hatr hatq
          by_cases hmo2 : m.length < most
          · go_wp2
            go_ret2
            refine ⟨⟨P, m, acc.length, HLP.out, HPL.out, hm8', ?_⟩, hBr⟩
            have hdec : decide (val m = 0 ∧ m.length < most) = true := decide_eq_true ⟨HV.out, hmo2⟩
            rw [if_pos HV.out, ← HAC.out, hdec]; first | rfl | simp [hmo2]
          · have hmo3 : most ≤ m.length := by omega
            go_wp2
            go_ret2
            refine ⟨⟨P, m, acc.length, HLP.out, HPL.out, hm8', ?_⟩, hBr⟩
            have hdec : decide (val m = 0 ∧ m.length < most) = false := decide_eq_false (fun h => hmo2 h.2)
            rw [if_pos HV.out, ← HAC.out, hdec]; first | rfl | simp [hmo3]
end Go.Proofs.YtipifhifjbenlaaGreat

namespace Go.Proofs.YtipifhifjbenlaaGreat
set_option linter.unusedVariables false
open Go.RowKit Go.Shelf Go.Proofs.YtipifhifjbenlaaGreat.Nm

set_option maxRecDepth 100000 in
/-- gazetteerref1.From32 -/
theorem refFrom32_any (s : ByteArray) (w : World) (hs : s.size ≤ 1048576) :
    Calls Tryz.prog 58 #[.string s] w fun e w' => e = fromEnd (fromB 5 d32 (lowB s)) ∧ Below w.heap.size w w' := by
  have HL := hide' (fun w => low_any s w hs)
  have hz : (lowB s).size ≤ 4194304 := by rw [lowB_size]; omega
  have H1 := hide' (fun w => spread5 (lowB s) d32 w hz d32_size)
  generalize hT : lowB s = T at *
  have hTn : (bitsL 5 ((lst T T.size).map (ixv d32))).length = 5 * T.size := by rw [bitsL_len, List.length_map, lst_len]
  have H2 := hide' (fun p c w hat hlc hc => whole_any p c 5 (bitsL 5 ((lst T T.size).map (ixv d32))) w hat (by omega) hlc hc (bitsL_bin 5 _) (by omega))
  rw [hTn] at H2
  clear hT hTn
  go_enter Tryz.func58, Tryz.ntmps58
  go_wp2_with (go_at_call 72; refine (HL.out _).mono ?_; rintro e w1 ⟨rfl, hB1⟩)
  refine (H1.out _).mono ?_
  rintro e w2 ⟨(⟨⟨j, hj, hn⟩, rfl⟩ | ⟨hg, p, c, rfl, hat, h1, h2⟩), hB2⟩
  · have HF : Hid (fromB 5 d32 T = none) := fromB_bad hj hn
    clear hn
    go_wp2
    go_ret2
    exact ⟨by rw [HF.out]; rfl, bstep hB1 hB2 hB1.size⟩
  · have HG := hide' hg
    clear hg
    go_wp2_with fail
    refine (H2.out p c _ hat h1 h2).mono ?_
    rintro e w3 ⟨⟨P, rem, m, hA, hP, hr, rfl⟩, hB3⟩
    have HFE := fromB_end (W := 5) HG.out hA hP hr
    clear hA hP H2 H1 hat
    by_cases hv : val rem = 0 ∧ rem.length < 5
    · have HF : Hid (fromB 5 d32 T = some (codeP 8 P)) := by unfold Hid; rw [HFE, if_pos ⟨hv.2, hv.1⟩]
      rw [decide_eq_true hv, if_pos hv.1]
      clear HFE hv
      go_wp2
      go_ret2
      exact ⟨by rw [HF.out]; rfl, bstep (bstep hB1 hB2 hB1.size) hB3 (Nat.le_trans hB1.size hB2.size)⟩
    · have HF : Hid (fromB 5 d32 T = none) := by unfold Hid; rw [HFE, if_neg (fun h => hv ⟨h.2, h.1⟩)]
      rw [decide_eq_false hv]
      generalize (if val rem = 0 then bts (codeP 8 P) else ByteArray.empty) = Z
      clear HFE hv
      go_wp2
      go_ret2
      exact ⟨by rw [HF.out]; rfl, bstep (bstep hB1 hB2 hB1.size) hB3 (Nat.le_trans hB1.size hB2.size)⟩

end Go.Proofs.YtipifhifjbenlaaGreat
