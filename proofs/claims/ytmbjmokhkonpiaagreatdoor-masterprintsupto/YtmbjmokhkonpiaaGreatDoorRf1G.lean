import Derived.Test.YtmbjmokhkonpiaaGreatDoorBt1G
import Derived.Test.YtmbjmokhkonpiaaGreatDoorPrW
import Derived.Laws.BytesString
namespace Go.Proofs.YtmbjmokhkonpiaaGreatDoor
set_option linter.unusedVariables false
open Go.RowKit Go.Shelf Go.Proofs.YtmbjmokhkonpiaaGreatDoor.Nm

theorem Tryz.infoInt : (Tryz.prog.info? 3).map (fun i => (i.zero, i.size, i.bytes)) = some (some (.int .i64 0), 1, 8) := by kernel_rfl

/-- numbers in memory -/
def NumsAt (w : World) (p : Option Addr) (l : List Nat) : Prop := ∀ k (h : k < l.length), ∃ g off, p = some ⟨g, off, none⟩ ∧ g < w.heap.size ∧ w.cell? ⟨g, off + k, none⟩ = some (.int .i64 (l[k] : Nat))
theorem NumsAt.below {w w' : World} {p : Option Addr} {l : List Nat} (h : NumsAt w p l) (hb : Below w.heap.size w w') : NumsAt w' p l := fun k hk => by
  obtain ⟨g, off, h1, h2, h3⟩ := h k hk
  exact ⟨g, off, h1, Nat.lt_of_lt_of_le h2 hb.size, (hb.cell (p := ⟨g, off + k, none⟩) h2).trans h3⟩
abbrev nums (l : List Nat) : List Value := l.map (fun x : Nat => Value.int .i64 (x : Int))
theorem NumsAt.of_owns {w : World} {base n : Nat} {v : Value} {l : List Nat} (h : w.ownsRow base 3 1 v n (nums l)) (hn : n = l.length) : ∃ p c, v = .slice p n c ∧ NumsAt w p l ∧ n ≤ c ∧ c ≤ 9223372036854775807 := by
  obtain ⟨hl, (⟨rfl, rfl⟩ | ⟨g, cap, cur, rfl, hb, hg, hnc, hcap, hsz, ht⟩)⟩ := h
  · exact ⟨none, 0, rfl, fun k hk => by omega, Nat.le_refl _, by omega⟩
  · refine ⟨_, cap, rfl, fun k hk => ⟨g, 0, rfl, (Array.getElem?_eq_some_iff.1 hg).1, ?_⟩, hnc, by unfold maxLen at hcap; omega⟩
    have := World.ownsRow.cellAt (w := w) (base := base) (e := 3) (size := 1) (g := g) (n := n) (cap := cap) (xs := nums l) ⟨hl, .inr ⟨g, cap, cur, rfl, hb, hg, hnc, hcap, hsz, ht⟩⟩ k (by omega)
    rw [Nat.zero_add, this, List.getElem?_map, List.getElem?_eq_getElem hk]
    rfl

set_option maxRecDepth 100000 in
set_option maxHeartbeats 2000000 in
/-- gazetteerref1.bits -/
theorem bits_any (d : ByteArray) (w : World) (hd : d.size ≤ 1048576) :
    Calls Tryz.prog 60 #[.string d] w fun e w' => ∃ v, e = .returned v ∧ w'.ownsRow w.heap.size 3 1 v (bitsL 8 (lst d d.size)).length (nums (bitsL 8 (lst d d.size))) ∧ Below w.heap.size w w' := by
  obtain ⟨i0, hi, hz0, hz1, hz2⟩ := info_parts Tryz.infoInt
  go_enter Tryz.func60, Tryz.ntmps60
  go_wp2_with fail
  go_loopw [3, 4] (fun ov kv wr => ∃ k : Nat, kv = .int .i64 k ∧ k ≤ d.size ∧ wr.ownsRow w.heap.size 3 1 ov (8 * k) (nums (bitsL 8 (lst d k))) ∧ Below w.heap.size w wr) (fun _ kv _ => d.size - (intOf kv).toNat)
  case atStart => exact ⟨0, rfl, Nat.zero_le _, World.ownsRow_nil _ _ _ _, Below.refl _ _⟩
  case round =>
    obtain ⟨k, rfl, hk, hown, hBr⟩ := hrel
    by_cases hlt : k < d.size
    · obtain ⟨y, hy, HY, hyl⟩ := bt_wrap hlt
      have HS : Hid (nums (bitsL 8 (lst d (k + 1))) = nums (bitsL 8 (lst d k)) ++ nums (bitsW 8 y)) := by
        unfold Hid; rw [lst_succ, bitsL_snoc, HY]; simp [nums]
      clear HY
      go_wp2_with fail
      obtain ⟨wo, rfl⟩ : ∃ wo, wo = wr := ⟨_, rfl⟩
      go_loopw [3, 5] (fun ov mv wr => ∃ j : Nat, j ≤ 8 ∧ mv = .int .i64 ((128 / 2 ^ j : Nat) : Int) ∧ wr.ownsRow w.heap.size 3 1 ov (8 * k + j) (nums (bitsL 8 (lst d k)) ++ nums ((bitsW 8 y).take j)) ∧ Below w.heap.size w wr) (fun _ mv _ => (intOf mv).toNat)
      case atStart => exact ⟨0, by omega, rfl, by simpa using hown, hBr⟩
      case round =>
        clear hown
        obtain ⟨j, hj, rfl, hown, hBq⟩ := hrel
        by_cases h8 : j = 8
        · subst h8
          have hown2 : wr.ownsRow w.heap.size 3 1 u3 (8 * (k + 1)) (nums (bitsL 8 (lst d (k + 1)))) := by
            rw [HS.out]
            have e : (bitsW 8 y).take 8 = bitsW 8 y := List.take_of_length_le (by rw [bitsW_len]; exact Nat.le_refl _)
            rw [e] at hown
            exact hown
          clear hown
          go_wp2
          refine ⟨⟨k + 1, by go_num, hlt, hown2, hBq⟩, ?_⟩
          simp [intOf]; omega
        · have hlt8 : j < 8 := by omega
          have HT : Hid (nums ((bitsW 8 y).take (j + 1)) = nums ((bitsW 8 y).take j) ++ [.int .i64 ((y / 2 ^ (7 - j) % 2 : Nat) : Int)]) := by
            unfold Hid
            have e := bitsW_get 8 y j hlt8
            obtain ⟨hl, he⟩ := List.getElem?_eq_some_iff.1 e
            rw [List.take_succ_eq_append_getElem hl, he]
            simp [nums]
          have hcase : j = 0 ∨ j = 1 ∨ j = 2 ∨ j = 3 ∨ j = 4 ∨ j = 5 ∨ j = 6 ∨ j = 7 := by omega
          clear h8
          rcases hcase with rfl | rfl | rfl | rfl | rfl | rfl | rfl | rfl
          all_goals
            have HT' := HT.out
            simp only [Nat.reducePow, Nat.reduceSub, Nat.reduceAdd, Nat.reduceDiv, Int.natCast_ediv, Int.natCast_emod, Int.cast_ofNat_Int, Int.ediv_one] at HT' ⊢
            have HT2 := hide' HT'
            clear HT' HT
            go_wp2_with (at_builtin; refine wpList_append_own _ rfl _ _ 88 rfl w.heap.size 3 i0 (.int .i64 0) 1 8 Tryz.underlying88 hi hz0 hz1 hz2 rfl (by decide) _ _ _ rfl (hown.alloc _) ⟨wr.heap.size, 0, none⟩ 1 1 [.int .i64 _] rfl rfl (cell_one_new _ _ _) (by simp [Value.oneCell']) (by unfold maxLen; omega) (by omega) (by have := hBq.size; simp; omega) ?_; intro v4 w4 hown4 hgrow4 _)
            refine ⟨⟨_, Nat.succ_le_of_lt hlt8, rfl, ?_, below_app hBq (Nat.le_refl _) hown hgrow4⟩, by simp [intOf]⟩
            rw [List.append_assoc, ← HT2.out] at hown4
            exact hown4
    · have hkd : k = d.size := by omega
      subst hkd
      go_wp2
      go_ret
      exact ⟨_, rfl, by rw [bitsL_len, lst_len]; exact hown, hBr⟩
end Go.Proofs.YtmbjmokhkonpiaaGreatDoor

namespace Go.Proofs.YtmbjmokhkonpiaaGreatDoor
set_option linter.unusedVariables false
open Go.RowKit Go.Shelf Go.Proofs.YtmbjmokhkonpiaaGreatDoor.Nm

def slen : Value → Nat
  | .slice _ n _ => n
  | _ => 0
/-- the first k, filled with noughts -/
def pd (l : List Nat) (k : Nat) : List Nat := l.take k ++ List.replicate (k - l.length) 0
theorem pd_in {l : List Nat} {k : Nat} (h : k < l.length) : pd l (k + 1) = pd l k ++ [l[k]] := by
  unfold pd
  rw [List.take_succ_eq_append_getElem h, show k + 1 - l.length = 0 by omega, show k - l.length = 0 by omega]; simp
theorem pd_out {l : List Nat} {k : Nat} (h : l.length ≤ k) : pd l (k + 1) = pd l k ++ [0] := by
  unfold pd
  rw [List.take_of_length_le (by omega), List.take_of_length_le h, show k + 1 - l.length = (k - l.length) + 1 by omega, List.replicate_succ', List.append_assoc]
theorem pd_bin {l : List Nat} (h : Bin l) (k : Nat) : Bin (pd l k) := (h.take k).append (bin_zeros _)
theorem pd_len (l : List Nat) (k : Nat) : (pd l k).length = k := by unfold pd; rw [List.length_append, List.length_take, List.length_replicate]; omega
theorem NumsAt.drop {w : World} {g off : Nat} {l : List Nat} (h : NumsAt w (some ⟨g, off, none⟩) l) (n : Nat) : NumsAt w (some ⟨g, off + n, none⟩) (l.drop n) := fun k hk => by
  obtain ⟨g', o', h1, h2, h3⟩ := h (n + k) (by rw [List.length_drop] at hk; omega)
  simp at h1
  obtain ⟨rfl, rfl⟩ := h1
  refine ⟨g, off + n, rfl, h2, ?_⟩
  rw [show off + n + k = off + (n + k) by omega, h3]; simp

/-- 'string(b)' of none -/
theorem nil_str (w : World) (c : Nat) : (convert 34 9 (.slice none 0 c)).run Tryz.prog w = .ok (.string ByteArray.empty) w := by
  rw [run_convert_bytes_string w 34 9 5 none 0 c Tryz.underlying34 Tryz.underlying5 Tryz.underlying9]
  rfl

set_option maxRecDepth 100000 in
set_option maxHeartbeats 2000000 in
/-- gazetteerref1.coded, base 32 -/
theorem coded5 (p : Option Addr) (cap : Nat) (l : List Nat) (d : ByteArray) (w : World) (hat : NumsAt w p l) (hl : l.length ≤ 16777216) (hlc : l.length ≤ cap) (hc : cap ≤ 9223372036854775807) (hb : Bin l) (hd : d.size = 32) :
    Calls Tryz.prog 59 #[.slice p l.length cap, .int .i64 5, .string d] w fun e w' => e = .returned (.string (bts ((codeP 5 l).map (bt d)))) ∧ Below w.heap.size w w' := by
  obtain ⟨i0, hi, hz0, hz1, hz2⟩ := info_parts Tryz.infoByte
  have HB := hide' hb
  go_enter Tryz.func59, Tryz.ntmps59
  go_wp2_with fail
  go_loopw [0, 7] (fun bv ov wr => ∃ (m acc : List Nat) (q : Option Addr) (cq : Nat), bv = .slice q m.length cq ∧ NumsAt w q m ∧ m.length ≤ cq ∧ cq ≤ 9223372036854775807 ∧ Hid (Bin m) ∧ acc.length + m.length ≤ l.length ∧ Hid (codeP 5 l = acc ++ codeP 5 m) ∧ Hid (∀ v ∈ acc, v < 32) ∧ wr.ownsRow w.heap.size 5 1 ov acc.length (byts (acc.map (bt d))) ∧ Below w.heap.size w wr) (fun bv _ _ => slen bv)
  case atStart => exact ⟨l, [], p, cap, rfl, hat, hlc, hc, HB, by simp, rfl, (fun x hx => by cases hx), World.ownsRow_nil _ _ _ _, Below.refl _ _⟩
  case round =>
    obtain ⟨m, acc, q, cq, rfl, hatq, hmc, hcq, HBm, hlen, HC, HA, hown, hBr⟩ := hrel
    by_cases hm0 : 0 < m.length
    · obtain ⟨g, off, rfl, hg, _⟩ := hatq 0 hm0
      have hmne : m ≠ [] := List.length_pos_iff.1 hm0
      have HST := codeP_step (w := 5) (by omega) hmne
      have hatr := hatq.below hBr
      go_wp2_with fail
      go_loop [8, 9] (fun vv kv => ∃ k : Nat, kv = .int .i64 k ∧ k ≤ 5 ∧ vv = .int .i64 ((val (pd m k) : Nat) : Int)) (fun _ kv => (5 - intOf kv).toNat)
      case atStart => exact ⟨0, rfl, by omega, by simp [pd, val]⟩
      case round =>
        obtain ⟨k, rfl, hk5, rfl⟩ := hrel
        have hvb : val (pd m k) < 32 := by
          have h1 := val_lt (pd_bin HBm.out k)
          rw [pd_len] at h1
          have h2 : 2 ^ k ≤ 2 ^ 5 := Nat.pow_le_pow_right (by omega) hk5
          omega
        by_cases hlt : k < 5
        · by_cases hin : k < m.length
          · obtain ⟨g', o', he, hg', hcell⟩ := hatr k hin
            simp at he
            obtain ⟨rfl, rfl⟩ := he
            have hbit := HBm.out _ (List.getElem_mem hin)
            have HV : Hid (((val (pd m (k + 1)) : Nat) : Int) = (val (pd m k) : Int) * 2 + (m[k] : Nat)) := by
              unfold Hid; rw [pd_in hin, val_snoc]; omega
            generalize m[k] = x at *
            generalize val (pd m k) = V at *
            go_wp2
            go_round
            case rel => exact ⟨k + 1, by go_num, hlt, by rw [HV.out]⟩
            case measure => simp [intOf]; omega
          · have hin' : m.length ≤ k := by omega
            have HV : Hid (((val (pd m (k + 1)) : Nat) : Int) = (val (pd m k) : Int) * 2) := by
              unfold Hid; rw [pd_out hin', val_snoc]; omega
            generalize val (pd m k) = V at *
            go_wp2
            go_round
            case rel => exact ⟨k + 1, by go_num, hlt, by rw [HV.out]⟩
            case measure => simp [intOf]; omega
        · obtain rfl : k = 5 := by omega
          have hvd : val (pd m 5) < d.size := by omega
          obtain ⟨y2, hy2, HY2, hy2l⟩ := bt_wrap hvd
          have HC3 : Hid (codeP 5 l = (acc ++ [val (pd m 5)]) ++ codeP 5 (m.drop 5)) := by
            unfold Hid; rw [HC.out, HST, List.append_assoc]; rfl
          have HA3 : Hid (∀ v ∈ acc ++ [val (pd m 5)], v < 32) := fun v hv => by
            rcases List.mem_append.1 hv with h | h
            · exact HA.out v h
            · simp at h; omega
          have HBd : Hid (Bin (m.drop 5)) := HBm.out.drop 5
          have hey : byts ((acc ++ [val (pd m 5)]).map (bt d)) = byts (acc.map (bt d)) ++ [.int .u8 (y2 : Int)] := by simp [byts, HY2]
          have HEY := hide' hey
          clear hey HST HC HA
          by_cases hl5 : m.length < 5
          · have hd0 : m.drop 5 = [] := List.drop_of_length_le (by omega)
            go_wp2_with (at_builtin; refine wpList_append_own _ rfl _ _ 34 rfl w.heap.size 5 i0 (.int .u8 0) 1 1 Tryz.underlying34 hi hz0 hz1 hz2 rfl (by decide) _ _ _ rfl (hown.alloc _) ⟨_, 0, none⟩ 1 1 [.int .u8 (y2 : Int)] rfl rfl (cell_one_new _ _ _) (by simp [Value.oneCell']) (by unfold maxLen; omega) (by omega) (by have := hBr.size; simp; omega) ?_; intro v4 w4 hown4 hgrow4 _)
            refine ⟨⟨[], acc ++ [val (pd m 5)], none, 0, rfl, (fun k hk => by cases hk), Nat.le_refl _, by omega, (fun x hx => by cases hx), by simp; omega, by rw [hd0] at HC3; exact HC3, HA3, ?_, below_app hBr (Nat.le_refl _) hown hgrow4⟩, by simp [slen]; omega⟩
            rw [HEY.out, List.length_append]; exact hown4
          · have hl5' : 5 ≤ m.length := by omega
            go_wp2_with (at_builtin; refine wpList_append_own _ rfl _ _ 34 rfl w.heap.size 5 i0 (.int .u8 0) 1 1 Tryz.underlying34 hi hz0 hz1 hz2 rfl (by decide) _ _ _ rfl (hown.alloc _) ⟨_, 0, none⟩ 1 1 [.int .u8 (y2 : Int)] rfl rfl (cell_one_new _ _ _) (by simp [Value.oneCell']) (by unfold maxLen; omega) (by omega) (by have := hBr.size; simp; omega) ?_; intro v4 w4 hown4 hgrow4 _)
            refine ⟨⟨m.drop 5, acc ++ [val (pd m 5)], _, cq - 5, by rw [List.length_drop], ?_, by rw [List.length_drop]; omega, by omega, HBd, by rw [List.length_drop, List.length_append, List.length_singleton]; omega, HC3, HA3, ?_, below_app hBr (Nat.le_refl _) hown hgrow4⟩, by simp [slen]; omega⟩
            · split
              · intro k hk; rw [List.length_drop] at hk; omega
              · exact hatq.drop 5
            · rw [HEY.out, List.length_append]; exact hown4
    · have hm : m = [] := List.length_eq_zero_iff.1 (by omega)
      subst hm
      have HE : Hid (bts ((codeP 5 l).map (bt d)) = bts (acc.map (bt d))) := by unfold Hid; rw [HC.out, codeP_nil, List.append_nil]
      have hz : (bts (acc.map (bt d))).size = acc.length := by rw [bts_size, List.length_map]
      obtain ⟨pA, cA, rfl, _, _, hsh⟩ := owns_shape hown
      have hcv : (convert 34 9 (.slice pA acc.length cA)).run Tryz.prog wr = .ok (.string (bts (acc.map (bt d)))) wr := by
        rcases hsh with ⟨rfl, h0⟩ | ⟨g, rfl, _, _⟩
        · have ha : acc = [] := List.length_eq_zero_iff.1 h0
          subst ha
          exact nil_str wr cA
        · have h := owns_str (t := bts (acc.map (bt d))) (w := wr) (base := w.heap.size) (g := g) (cap := cA) (by rw [hz, bts_cells _ (fun x hx => by obtain ⟨i, _, rfl⟩ := List.mem_map.1 hx; exact bt_lt _ _)]; exact hown)
          rw [hz] at h; exact h
      clear hz hsh HC
      go_wp2
      go_ret
      exact ⟨by rw [HE.out]; rfl, hBr⟩
end Go.Proofs.YtmbjmokhkonpiaaGreatDoor

namespace Go.Proofs.YtmbjmokhkonpiaaGreatDoor
set_option linter.unusedVariables false
open Go.RowKit Go.Shelf Go.Proofs.YtmbjmokhkonpiaaGreatDoor.Nm

end Go.Proofs.YtmbjmokhkonpiaaGreatDoor
