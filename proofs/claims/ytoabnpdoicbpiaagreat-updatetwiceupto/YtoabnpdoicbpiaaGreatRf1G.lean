import Derived.Test.YtoabnpdoicbpiaaGreatDg1G
import Derived.Test.YtoabnpdoicbpiaaGreatPrWG
import Derived.Laws.BytesString
namespace Go.Proofs.YtoabnpdoicbpiaaGreat
set_option linter.unusedVariables false
open Go.RowKit Go.Shelf Go.Proofs.YtoabnpdoicbpiaaGreat.Nm
theorem Tryz.infoInt : (Tryz.prog.info? 3).map (fun i => (i.zero, i.size, i.bytes)) = some (some (.int .i64 0), 1, 8) := by kernel_rfl
def NumsAt (w : World) (p : Option Addr) (l : List Nat) : Prop := ∀ k (h : k < l.length), ∃ g off, p = some ⟨g, off, none⟩ ∧ g < w.heap.size ∧ w.cell? ⟨g, off + k, none⟩ = some (.int .i64 (l[k] : Nat))
theorem NumsAt.below {w w' : World} {p : Option Addr} {l : List Nat} (h : NumsAt w p l) (hb : Below w.heap.size w w') : NumsAt w' p l := fun k hk => by
 obtain ⟨g, off, h1, h2, h3⟩ := h k hk
 exact ⟨g, off, h1, Nat.lt_of_lt_of_le h2 hb.size, (hb.cell (p := ⟨g, off + k, none⟩) h2).trans h3⟩
abbrev nums (l : List Nat) : List Value := l.map (fun x : Nat => Value.int .i64 (x : Int))
theorem NumsAt.of_owns {w : World} {base n : Nat} {v : Value} {l : List Nat} (h : w.ownsRow base 3 1 v n (nums l)) (hn : n = l.length) : ∃ p c, v = .slice p n c ∧ NumsAt w p l ∧ n ≤ c ∧ c ≤ 9223372036854775807 := by
 obtain ⟨hl, (⟨rfl, rfl⟩ | ⟨g, cap, cur, rfl, hb, hg, hnc, hcap, hsz, ht⟩)⟩ := h
 ·exact ⟨none, 0, rfl, fun k hk => by omega, Nat.le_refl _, by omega⟩
 ·refine ⟨_, cap, rfl, fun k hk => ⟨g, 0, rfl, (Array.getElem?_eq_some_iff.1 hg).1, ?_⟩, hnc, by unfold maxLen at hcap; omega⟩
  have := World.ownsRow.cellAt (w := w) (base := base) (e := 3) (size := 1) (g := g) (n := n) (cap := cap) (xs := nums l) ⟨hl, .inr ⟨g, cap, cur, rfl, hb, hg, hnc, hcap, hsz, ht⟩⟩ k (by omega)
  rw [Nat.zero_add, this, List.getElem?_map, List.getElem?_eq_getElem hk]
  rfl
set_option maxRecDepth 100000 in
set_option maxHeartbeats 2000000 in
theorem bits_any (d : ByteArray) (w : World) (hd : d.size ≤ 1048576) :
  Calls Tryz.prog 147 #[.string d] w fun e w' => ∃ v, e = .returned v ∧ w'.ownsRow w.heap.size 3 1 v (bitsL 8 (lst d d.size)).length (nums (bitsL 8 (lst d d.size))) ∧ Below w.heap.size w w' := by
 obtain ⟨i0, hi, hz0, hz1, hz2⟩ := info_parts Tryz.infoInt
 go_enter Tryz.func147, Tryz.ntmps147
 go_wp2_with fail
 go_loopw [3, 4] (fun ov kv wr => ∃ k : Nat, kv = .int .i64 k ∧ k ≤ d.size ∧ wr.ownsRow w.heap.size 3 1 ov (8 * k) (nums (bitsL 8 (lst d k))) ∧ Below w.heap.size w wr) (fun _ kv _ => d.size - (intOf kv).toNat)
 case atStart => exact ⟨0, rfl, Nat.zero_le _, World.ownsRow_nil _ _ _ _, Below.refl _ _⟩
 case round =>
  obtain ⟨k, rfl, hk, hown, hBr⟩ := hrel
  by_cases hlt : k < d.size
  ·obtain ⟨y, hy, HY, hyl⟩ := bt_wrap hlt
   have HS : Hid (nums (bitsL 8 (lst d (k + 1))) = nums (bitsL 8 (lst d k)) ++ nums (bitsW 8 y)) := by
    unfold Hid; rw [lst_succ, bitsL_snoc, HY]; simp [nums]
   clear HY
   go_wp2_with fail
   obtain ⟨wo, rfl⟩ : ∃ wo, wo = wr := ⟨_, rfl⟩
   go_loopw [3, 5] (fun ov mv wr => ∃ j : Nat, j ≤ 8 ∧ mv = .int .i64 ((128 / 2 ^ j : Nat) : Int) ∧ wr.ownsRow w.heap.size 3 1 ov (8 * k + j) (nums (bitsL 8 (lst d k)) ++ nums ((bitsW 8 y).take j)) ∧ Below w.heap.size w wr) (fun _ mv _ => (intOf mv).toNat)
   case atStart => exact ⟨0, by omega, rfl, by simpa using hown, hBr⟩
   case round =>
    clear hown
    obtain ⟨j, hj, rfl, hown, hBq⟩ := hrel
    by_cases h8 : j = 8
    ·subst h8
     have hown2 : wr.ownsRow w.heap.size 3 1 u3 (8 * (k + 1)) (nums (bitsL 8 (lst d (k + 1)))) := by
      rw [HS.out]
      have e : (bitsW 8 y).take 8 = bitsW 8 y := List.take_of_length_le (by rw [bitsW_len]; exact Nat.le_refl _)
      rw [e] at hown
      exact hown
     clear hown
     go_wp2
     refine ⟨⟨k + 1, by go_num, hlt, hown2, hBq⟩, ?_⟩
     simp [intOf]; omega
    ·have hlt8 : j < 8 := by omega
     have HT : Hid (nums ((bitsW 8 y).take (j + 1)) = nums ((bitsW 8 y).take j) ++ [.int .i64 ((y / 2 ^ (7 - j) % 2 : Nat) : Int)]) := by
      unfold Hid
      have e := bitsW_get 8 y j hlt8
      obtain ⟨hl, he⟩ := List.getElem?_eq_some_iff.1 e
      rw [List.take_succ_eq_append_getElem hl, he]
      simp [nums]
     have hcase : j = 0 ∨ j = 1 ∨ j = 2 ∨ j = 3 ∨ j = 4 ∨ j = 5 ∨ j = 6 ∨ j = 7 := by omega
     clear h8
     rcases hcase with rfl | rfl | rfl | rfl | rfl | rfl | rfl | rfl
     all_goals
      have HT' := HT.out
      simp only [Nat.reducePow, Nat.reduceSub, Nat.reduceAdd, Nat.reduceDiv, Int.natCast_ediv, Int.natCast_emod, Int.cast_ofNat_Int, Int.ediv_one] at HT' ⊢
      have HT2 := hide' HT'
      clear HT' HT
      go_wp2_with (at_builtin; refine wpList_append_own _ rfl _ _ 115 rfl w.heap.size 3 i0 (.int .i64 0) 1 8 Tryz.underlying115 hi hz0 hz1 hz2 rfl (by decide) _ _ _ rfl (hown.alloc _) ⟨wr.heap.size, 0, none⟩ 1 1 [.int .i64 _] rfl rfl (cell_one_new _ _ _) (by simp [Value.oneCell']) (by unfold maxLen; omega) (by omega) (by have := hBq.size; simp; omega) ?_; intro v4 w4 hown4 hgrow4 _)
      refine ⟨⟨_, Nat.succ_le_of_lt hlt8, rfl, ?_, below_app hBq (Nat.le_refl _) hown hgrow4⟩, by simp [intOf]⟩
      rw [List.append_assoc, ← HT2.out] at hown4
      exact hown4
  ·have hkd : k = d.size := by omega
   subst hkd
   go_wp2
   go_ret
   exact ⟨_, rfl, by rw [bitsL_len, lst_len]; exact hown, hBr⟩
end Go.Proofs.YtoabnpdoicbpiaaGreat
namespace Go.Proofs.YtoabnpdoicbpiaaGreat
set_option linter.unusedVariables false
open Go.RowKit Go.Shelf Go.Proofs.YtoabnpdoicbpiaaGreat.Nm
theorem NumsAt.drop {w : World} {g off : Nat} {l : List Nat} (h : NumsAt w (some ⟨g, off, none⟩) l) (n : Nat) : NumsAt w (some ⟨g, off + n, none⟩) (l.drop n) := fun k hk => by
 obtain ⟨g', o', h1, h2, h3⟩ := h (n + k) (by rw [List.length_drop] at hk; omega)
 simp at h1
 obtain ⟨rfl, rfl⟩ := h1
 refine ⟨g, off + n, rfl, h2, ?_⟩
 rw [show off + n + k = off + (n + k) by omega, h3]; simp
end Go.Proofs.YtoabnpdoicbpiaaGreat
namespace Go.Proofs.YtoabnpdoicbpiaaGreat
set_option linter.unusedVariables false
open Go.RowKit Go.Shelf Go.Proofs.YtoabnpdoicbpiaaGreat.Nm
end Go.Proofs.YtoabnpdoicbpiaaGreat
