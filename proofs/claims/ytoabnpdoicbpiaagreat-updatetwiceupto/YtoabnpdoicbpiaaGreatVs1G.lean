import Derived.Test.YtoabnpdoicbpiaaGreatRc1G
import Derived.Test.YtoabnpdoicbpiaaGreatWkG
import Derived.Shelf.SlIterI.Sorted
import Derived.Shelf.SortM.Plain
import Derived.Shelf.SortM.SortNone
import Derived.Ground.SlgmProg
import Derived.Shelf.RegionOpenPlain
import Derived.Lib.BufferRead
import Derived.Test.YtoabnpdoicbpiaaGreatThG
import Derived.Lib.SlFresh
import Derived.Test.YtoabnpdoicbpiaaGreatKs1G
namespace Go.Proofs.YtoabnpdoicbpiaaGreat
set_option linter.unusedVariables false
open Go.RowKit Go.Shelf Go.Proofs.YtoabnpdoicbpiaaGreat.Nm
attribute [local go_sem] Oper.semAt_some
def KpW (B : Nat) (W W' : World) : Prop := ∀ (a : Addr) v, a.block < B → W.cell? a = some v → W'.cell? a = some v
def ZAt (w : World) (B : Nat) (p : Option Addr) (L : List Int) : Prop := ∀ k (h : k < L.length), ∃ g off, p = some ⟨g, off, none⟩ ∧ g < B ∧ w.cell? ⟨g, off + k, none⟩ = some (.int .i64 L[k])
theorem ZAt.keep {w w' : World} {B C : Nat} {p : Option Addr} {L : List Int} (h : ZAt w B p L) (hk : KpW C w w') (hB : B ≤ C) : ZAt w' B p L := fun k hk' => by
 obtain ⟨g, off, h1, h2, h3⟩ := h k hk'
 exact ⟨g, off, h1, h2, hk _ _ (Nat.lt_of_lt_of_le h2 hB) h3⟩
end Go.Proofs.YtoabnpdoicbpiaaGreat
namespace Go.Proofs.YtoabnpdoicbpiaaGreat
set_option linter.unusedVariables false
open Go.RowKit Go.Shelf Go.Sort Go.Proofs.YtoabnpdoicbpiaaGreat.Nm
end Go.Proofs.YtoabnpdoicbpiaaGreat
namespace Go.Proofs.YtoabnpdoicbpiaaGreat
set_option linter.unusedVariables false
open Go.RowKit Go.Shelf Go.Proofs.YtoabnpdoicbpiaaGreat.Nm
structure SetS where
 done : List Nat
 blk : Int
 marks : List Nat
def SetS.bytes (s : SetS) : List Nat := if s.blk < 0 then s.done else s.done ++ s.blk.toNat :: s.marks.length :: s.marks
def SetS.next (s : SetS) (b : Nat) : SetS := if (b : Int) = s.blk then s else ⟨s.bytes, b, []⟩
def SetS.fill (s : SetS) (k : Nat) : SetS := { s with marks := s.marks ++ List.replicate (k + 1 - s.marks.length) 0 }
def SetS.mark (s : SetS) (m : Nat) : SetS := { s with marks := s.marks.set (s.marks.length - 1) (s.marks.getD (s.marks.length - 1) 0 ||| m) }
def SetS.step (s : SetS) (t : Int) : SetS := if isTy t = true then ((s.next (t.toNat / 256)).fill (t.toNat % 256 / 8)).mark (2 ^ (7 - t.toNat % 8)) else s
end Go.Proofs.YtoabnpdoicbpiaaGreat
namespace Go.Proofs.YtoabnpdoicbpiaaGreat
set_option linter.unusedVariables false
open Go.Proofs.YtoabnpdoicbpiaaGreat.Nm
theorem mem_blkT {b : Nat} {s : ByteArray} {x : Nat} : ∀ {k : Nat}, x ∈ blkT b s k ↔ ∃ i, i < k ∧ x = b * 256 + i ∧ bitAt s i = 1
 | 0 => ⟨fun h => (by cases h), fun ⟨i, h, _⟩ => by omega⟩
 | k + 1 => by
  simp only [blkT]
  split
  ·rename_i hb
   rw [List.mem_append, mem_blkT (k := k), List.mem_singleton]
   constructor
   ·rintro (⟨i, h1, h2, h3⟩ | h)
    ·exact ⟨i, by omega, h2, h3⟩
    ·exact ⟨k, by omega, h, hb⟩
   ·rintro ⟨i, h1, h2, h3⟩
    by_cases h : i = k
    ·subst h; exact .inr h2
    ·exact .inl ⟨i, by omega, h2, h3⟩
  ·rename_i hb
   rw [mem_blkT (k := k)]
   constructor
   ·rintro ⟨i, h1, h2, h3⟩; exact ⟨i, by omega, h2, h3⟩
   ·rintro ⟨i, h1, h2, h3⟩
    by_cases h : i = k
    ·subst h; exact absurd h3 hb
    ·exact ⟨i, by omega, h2, h3⟩
theorem rise_blkT {b : Nat} {s : ByteArray} : ∀ {k : Nat}, (blkT b s k).Pairwise (· < ·)
 | 0 => List.Pairwise.nil
 | k + 1 => by
  simp only [blkT]
  split
  ·rw [List.pairwise_append]
   refine ⟨rise_blkT, List.pairwise_singleton _ _, fun x hx y hy => ?_⟩
   obtain ⟨i, h1, h2, _⟩ := mem_blkT.1 hx
   rw [List.mem_singleton] at hy
   omega
  ·exact rise_blkT
end Go.Proofs.YtoabnpdoicbpiaaGreat
namespace Go.Proofs.YtoabnpdoicbpiaaGreat
set_option linter.unusedVariables false
open Go.RowKit Go.Shelf Go.Proofs.YtoabnpdoicbpiaaGreat.Nm
theorem typF_rise : ∀ (f : Nat) (last : Int) (s : ByteArray) (l : List Nat), -1 ≤ last → typF f last s = some l → l.Pairwise (· < ·) ∧ ∀ x ∈ l, (last + 1) * 256 ≤ (x : Int)
 | 0, last, s, l, _, h => by
  unfold typF at h; split at h
  ·simp at h; subst h; exact ⟨.nil, fun x hx => by cases hx⟩
  ·cases h
 | f + 1, last, s, l, hl, h => by
  unfold typF at h
  split at h
  ·simp at h; subst h; exact ⟨.nil, fun x hx => by cases hx⟩
  split at h
  ·cases h
  split at h
  ·cases h
  rename_i h3
  split at h
  ·cases h
  split at h
  ·cases h
  cases e : typF f (bt s 0) (s.extract (2 + bt s 1) s.size) with
  | none => rw [e] at h; cases h
  | some q =>
   rw [e] at h
   simp at h
   subst h
   obtain ⟨h5, h6⟩ := typF_rise f _ _ q (by omega) e
   have hb : ∀ x ∈ blkT (bt s 0) (s.extract 2 (2 + bt s 1)) (8 * bt s 1), bt s 0 * 256 ≤ x ∧ x < bt s 0 * 256 + 256 := fun x hx => by
    obtain ⟨i, hi, rfl, _⟩ := mem_blkT.1 hx
    omega
   refine ⟨List.pairwise_append.2 ⟨rise_blkT, h5, fun a ha b hb' => ?_⟩, fun x hx => ?_⟩
   ·have h7 := hb a ha
    have h8 := h6 b hb'
    omega
   ·rcases List.mem_append.1 hx with h7 | h7
    ·have h8 := hb x h7; omega
    ·have h8 := h6 x h7; omega
theorem zero_head {s : ByteArray} {l : List Nat} (h : typS (-1) s = some l) (h0 : 0 ∈ l) : l.head? = some 0 := by
 have h1 := (typF_rise _ _ _ _ (by omega) h).1
 cases l with
 | nil => cases h0
 | cons x l =>
  rcases List.mem_cons.1 h0 with rfl | h2
  ·rfl
  ·exact absurd ((List.pairwise_cons.1 h1).1 0 h2) (by omega)
theorem head_zero {l : List Nat} (h : l.head? = some 0) : 0 ∈ l := by
 cases l with
 | nil => cases h
 | cons x l => simp at h; subst h; exact List.mem_cons_self ..
theorem bitsL_bit (d : ByteArray) : ∀ (n k : Nat), k < 8 * n → (bitsL 8 (lst d n))[k]? = some (bitAt d k)
 | 0, k, h => by omega
 | n + 1, k, h => by
  have hl : (bitsL 8 (lst d n)).length = 8 * n := by rw [bitsL_len, lst_len]
  rw [lst_succ, bitsL_snoc]
  by_cases hk : k < 8 * n
  ·rw [List.getElem?_append_left (by omega)]; exact bitsL_bit d n k hk
  ·rw [List.getElem?_append_right (by omega), hl, bitsW_get 8 _ _ (by omega)]
   unfold bitAt
   rw [show k / 8 = n by omega, show 8 - 1 - (k - 8 * n) = 7 - k % 8 by omega]
end Go.Proofs.YtoabnpdoicbpiaaGreat
namespace Go.Proofs.YtoabnpdoicbpiaaGreat
set_option linter.unusedVariables false
open Go.RowKit Go.Shelf Go.Proofs.YtoabnpdoicbpiaaGreat.Nm
theorem run_append_place {P : Program} (w : World) (base : Nat) (t ty e : TypeId) (i : TypeInfo) (z : Value) (size bytes : Nat) (ht : P.underlying t = some (.slice e)) (hi : P.info? e = some i) (hz : i.zero = some z)
  (hsize : i.size = size) (hby : i.bytes = bytes) (hzs : z.cells.size = size) (hsz : 0 < size)
  (v : Value) (n : Nat) (xs : List Value) (hown : w.ownsRow base e size v n xs)
  (a : Addr) (m c : Nat) (news : List Value) (hl : news.length = m * size) (hnews : ∀ j u, news[j]? = some u → w.cell? (a.add j) = some u) (h1 : ∀ u ∈ news, u.oneCell' = true)
  (h63 : n + m ≤ maxLen) (hbytes : (n + m) * bytes ≤ 140737488355328) (hbase : base ≤ w.heap.size) :
  ∃ v' w', (Builtin.append_ #[t, t] ty #[v, .slice (some a) m c]).run P w = .ok v' w' ∧ w'.ownsRow base e size v' (n + m) (xs ++ news) ∧ w.grownBy w' v.ownBlock ∧
   (v'.ownBlock = v.ownBlock ∨ v'.ownBlock = some w.heap.size) := by
 obtain ⟨v', w', hr, h2, h3, h4⟩ := run_append_own (P := P) w base t ty e i z size bytes ht hi hz hsize hby hzs hsz v n xs hown a m c news hl hnews h1 h63 hbytes hbase
 refine ⟨v', w', hr, h2, h3, ?_⟩
 subst hsize
 subst hby
 have hsmall : n + m ≤ 9223372036854775807 := by simp only [maxLen] at h63; omega
 rcases hown.2 with ⟨rfl, rfl⟩ | ⟨g, cap, cur, rfl, hbg, hg, hnc, hcm, hcs, htake⟩
 ·by_cases hm : m = 0
  ·rw [h4.2 ⟨rfl, hm⟩]; exact .inl rfl
  ·rw [run_append_nil (P := P) w t ty e i z ht hi hz a m c news hl hnews (by omega) (by omega) (by have hb := hbytes; simp only [Nat.zero_add] at hb; omega)] at hr
   injection hr with hr1 hr2
   rw [← hr1]; exact .inr rfl
 ·by_cases hroom : n + m ≤ cap
  ·rw [run_append_room (P := P) w t ty e i ht hi g n cap cur hg a m c news hl hnews h1 hroom (by rw [hl, hcs, ← Nat.add_mul]; exact Nat.mul_le_mul_right _ hroom)] at hr
   injection hr with hr1 hr2
   rw [← hr1]; exact .inl rfl
  ·rw [run_append_grow (P := P) w t ty e i z ht hi hz ⟨g, 0, none⟩ n cap xs hown.1 (hown.cells (g := g) rfl) a m c news hl hnews (by omega) (by omega) (growslice_fits (by omega) hbytes)] at hr
   injection hr with hr1 hr2
   rw [← hr1]; exact .inr rfl
theorem wpList_append_apart {P : Program} (w : World) {ops : Array Oper} {rest : List Oper} {o : Oper} {a : Act} {Q : Exit → Act → World → Prop} (hgd : o.guard = none) (s x : Operand) (t : TypeId)
  (ho : o.op = .call { callee := .builtin .append, args := #[s, x], argTypes := #[t, t] })
  (base : Nat) (e : TypeId) (i : TypeInfo) (z : Value) (size bytes : Nat) (ht : P.underlying t = some (.slice e)) (hi : P.info? e = some i) (hz : i.zero = some z)
  (hsize : i.size = size) (hby : i.bytes = bytes) (hzs : z.cells.size = size) (hsz : 0 < size)
  (v : Value) (n : Nat) (xs : List Value) (hs : a.eval s = v) (hown : w.ownsRow base e size v n xs)
  (ad : Addr) (m c : Nat) (news : List Value) (hx : a.eval x = .slice (some ad) m c) (hl : news.length = m * size) (hnews : ∀ j u, news[j]? = some u → w.cell? (ad.add j) = some u) (h1 : ∀ u ∈ news, u.oneCell' = true)
  (h63 : n + m ≤ maxLen) (hbytes : (n + m) * bytes ≤ 140737488355328) (hbase : base ≤ w.heap.size)
  (h : ∀ v' w', w'.ownsRow base e size v' (n + m) (xs ++ news) → w.grownBy w' v.ownBlock → (v'.ownBlock = v.ownBlock ∨ v'.ownBlock = some w.heap.size) → wpList P ops Q rest (a.put o.dst v') w') : wpList P ops Q (o :: rest) a w := by
 obtain ⟨v', w', hr, h2, h3, h4⟩ := run_append_place (P := P) w base t o.type e i z size bytes ht hi hz hsize hby hzs hsz v n xs hown ad m c news hl hnews h1 h63 hbytes hbase
 exact Go.Lib.wpList_append_run_sl w hgd s x t ho v _ hs hx hr (h v' w' h2 h3 h4)
end Go.Proofs.YtoabnpdoicbpiaaGreat
namespace Go.Proofs.YtoabnpdoicbpiaaGreat
set_option linter.unusedVariables false
open Go.RowKit Go.Shelf Go.Proofs.YtoabnpdoicbpiaaGreat.Nm
def letter : Kind → UInt8
 | 0 => 97 | 1 => 54 | 2 => 110 | n + 13 => (if n = 1 then 49 else if n = 2 then 50 else 52) | 3 => 116 | 4 => 84 | 5 => 104
 | 6 => 98 | 7 => 115 | 8 => 72 | 9 => 75 | 10 => 107 | 11 => 114 | 12 => 45
def formB (t : Int) : ByteArray := match kindsOf t with | none => ⟨#[]⟩ | some ks => ⟨(ks.map letter).toArray⟩
set_option maxRecDepth 100000 in
set_option maxHeartbeats 4000000 in
theorem form_any (t : Int) (w : World) :
  Calls Tryz.prog 128 #[.int .i64 t] w fun e w' => e = .returned (.string (formB t)) ∧ w' = w := by
 by_cases h1 : t = 1
 ·subst h1
  have HE : Hid (formB 1 = ⟨#[97]⟩) := rfl
  go_enter Tryz.func128, Tryz.ntmps128
  go_wp2
  go_ret
  exact ⟨by rw [HE.out]; rfl, rfl⟩
 by_cases h2 : t = 2
 ·subst h2
  have HE : Hid (formB 2 = ⟨#[110]⟩) := rfl
  go_enter Tryz.func128, Tryz.ntmps128
  go_wp2
  go_ret
  exact ⟨by rw [HE.out]; rfl, rfl⟩
 by_cases h5 : t = 5
 ·subst h5
  have HE : Hid (formB 5 = ⟨#[110]⟩) := rfl
  go_enter Tryz.func128, Tryz.ntmps128
  go_wp2
  go_ret
  exact ⟨by rw [HE.out]; rfl, rfl⟩
 by_cases h12 : t = 12
 ·subst h12
  have HE : Hid (formB 12 = ⟨#[110]⟩) := rfl
  go_enter Tryz.func128, Tryz.ntmps128
  go_wp2
  go_ret
  exact ⟨by rw [HE.out]; rfl, rfl⟩
 by_cases h39 : t = 39
 ·subst h39
  have HE : Hid (formB 39 = ⟨#[110]⟩) := rfl
  go_enter Tryz.func128, Tryz.ntmps128
  go_wp2
  go_ret
  exact ⟨by rw [HE.out]; rfl, rfl⟩
 by_cases h6 : t = 6
 ·subst h6
  have HE : Hid (formB 6 = ⟨#[110, 110, 52, 52, 52, 52, 52]⟩) := rfl
  go_enter Tryz.func128, Tryz.ntmps128
  go_wp2
  go_ret
  exact ⟨by rw [HE.out]; rfl, rfl⟩
 by_cases h13 : t = 13
 ·subst h13
  have HE : Hid (formB 13 = ⟨#[116, 116]⟩) := rfl
  go_enter Tryz.func128, Tryz.ntmps128
  go_wp2
  go_ret
  exact ⟨by rw [HE.out]; rfl, rfl⟩
 by_cases h15 : t = 15
 ·subst h15
  have HE : Hid (formB 15 = ⟨#[50, 110]⟩) := rfl
  go_enter Tryz.func128, Tryz.ntmps128
  go_wp2
  go_ret
  exact ⟨by rw [HE.out]; rfl, rfl⟩
 by_cases h16 : t = 16
 ·subst h16
  have HE : Hid (formB 16 = ⟨#[84]⟩) := rfl
  go_enter Tryz.func128, Tryz.ntmps128
  go_wp2
  go_ret
  exact ⟨by rw [HE.out]; rfl, rfl⟩
 by_cases h28 : t = 28
 ·subst h28
  have HE : Hid (formB 28 = ⟨#[54]⟩) := rfl
  go_enter Tryz.func128, Tryz.ntmps128
  go_wp2
  go_ret
  exact ⟨by rw [HE.out]; rfl, rfl⟩
 by_cases h33 : t = 33
 ·subst h33
  have HE : Hid (formB 33 = ⟨#[50, 50, 50, 110]⟩) := rfl
  go_enter Tryz.func128, Tryz.ntmps128
  go_wp2
  go_ret
  exact ⟨by rw [HE.out]; rfl, rfl⟩
 by_cases h35 : t = 35
 ·subst h35
  have HE : Hid (formB 35 = ⟨#[50, 50, 116, 116, 116, 110]⟩) := rfl
  go_enter Tryz.func128, Tryz.ntmps128
  go_wp2
  go_ret
  exact ⟨by rw [HE.out]; rfl, rfl⟩
 by_cases h43 : t = 43
 ·subst h43
  have HE : Hid (formB 43 = ⟨#[50, 49, 49, 104]⟩) := rfl
  go_enter Tryz.func128, Tryz.ntmps128
  go_wp2
  go_ret
  exact ⟨by rw [HE.out]; rfl, rfl⟩
 by_cases h46 : t = 46
 ·subst h46
  have HE : Hid (formB 46 = ⟨#[107, 49, 49, 52, 52, 52, 50, 110, 98]⟩) := rfl
  go_enter Tryz.func128, Tryz.ntmps128
  go_wp2
  go_ret
  exact ⟨by rw [HE.out]; rfl, rfl⟩
 by_cases h47 : t = 47
 ·subst h47
  have HE : Hid (formB 47 = ⟨#[110, 75]⟩) := rfl
  go_enter Tryz.func128, Tryz.ntmps128
  go_wp2
  go_ret
  exact ⟨by rw [HE.out]; rfl, rfl⟩
 by_cases h48 : t = 48
 ·subst h48
  have HE : Hid (formB 48 = ⟨#[50, 49, 49, 98]⟩) := rfl
  go_enter Tryz.func128, Tryz.ntmps128
  go_wp2
  go_ret
  exact ⟨by rw [HE.out]; rfl, rfl⟩
 by_cases h50 : t = 50
 ·subst h50
  have HE : Hid (formB 50 = ⟨#[49, 49, 50, 115, 72, 75]⟩) := rfl
  go_enter Tryz.func128, Tryz.ntmps128
  go_wp2
  go_ret
  exact ⟨by rw [HE.out]; rfl, rfl⟩
 by_cases h51 : t = 51
 ·subst h51
  have HE : Hid (formB 51 = ⟨#[49, 49, 50, 115]⟩) := rfl
  go_enter Tryz.func128, Tryz.ntmps128
  go_wp2
  go_ret
  exact ⟨by rw [HE.out]; rfl, rfl⟩
 by_cases h257 : t = 257
 ·subst h257
  have HE : Hid (formB 257 = ⟨#[49, 116, 114]⟩) := rfl
  go_enter Tryz.func128, Tryz.ntmps128
  go_wp2
  go_ret
  exact ⟨by rw [HE.out]; rfl, rfl⟩
 have HK : Hid (formB t = if isDT t = true then ⟨#[45]⟩ else ⟨#[]⟩) := by
  unfold Hid formB kindsOf
  simp only [h1, h2, h5, h12, h39, h6, h13, h15, h16, h28, h33, h35, h43, h46, h47, h48, h50, h51, h257, or_self, if_false]
  cases isDT t <;> rfl
 rcases (show (t < 1) ∨ (1 ≤ t ∧ 65535 < t) ∨ (t = 41) ∨ (1 ≤ t ∧ t ≤ 65535 ∧ t ≠ 41 ∧ t < 128) ∨ (1 ≤ t ∧ t ≤ 65535 ∧ t ≠ 41 ∧ 128 ≤ t ∧ t ≤ 255) ∨ (1 ≤ t ∧ t ≤ 65535 ∧ t ≠ 41 ∧ 128 ≤ t ∧ 255 < t) by omega) with h | ⟨h, h'⟩ | h | ⟨h, h', h'', h3⟩ | ⟨h, h', h'', h3, h4⟩ | ⟨h, h', h'', h3, h4⟩
 ·have HE : Hid (formB t = ⟨#[]⟩) := by unfold Hid; rw [HK.out, if_neg]; unfold isDT isTy; simp; omega
  clear HK
  go_enter Tryz.func128, Tryz.ntmps128
  go_wp2
  go_ret
  exact ⟨by rw [HE.out]; rfl, rfl⟩
 ·have HE : Hid (formB t = ⟨#[]⟩) := by unfold Hid; rw [HK.out, if_neg]; unfold isDT isTy; simp; omega
  clear HK
  go_enter Tryz.func128, Tryz.ntmps128
  go_wp2
  go_ret
  exact ⟨by rw [HE.out]; rfl, rfl⟩
 ·subst h
  have HE : Hid (formB 41 = ⟨#[]⟩) := rfl
  clear HK
  go_enter Tryz.func128, Tryz.ntmps128
  go_wp2
  go_ret
  exact ⟨by rw [HE.out]; rfl, rfl⟩
 ·have HE : Hid (formB t = ⟨#[45]⟩) := by unfold Hid; rw [HK.out, if_pos]; unfold isDT isTy; simp; omega
  have h41 : (t == 41) = false := by rw [beq_eq_false_iff_ne]; omega
  clear HK
  go_enter Tryz.func128, Tryz.ntmps128
  go_wp2
  go_ret
  exact ⟨by rw [HE.out]; rfl, rfl⟩
 ·have HE : Hid (formB t = ⟨#[]⟩) := by unfold Hid; rw [HK.out, if_neg]; unfold isDT isTy; simp; omega
  have h41 : (t == 41) = false := by rw [beq_eq_false_iff_ne]; omega
  clear HK
  go_enter Tryz.func128, Tryz.ntmps128
  go_wp2
  go_ret
  exact ⟨by rw [HE.out]; rfl, rfl⟩
 ·have HE : Hid (formB t = ⟨#[45]⟩) := by unfold Hid; rw [HK.out, if_pos]; unfold isDT isTy; simp; omega
  have h41 : (t == 41) = false := by rw [beq_eq_false_iff_ne]; omega
  clear HK
  go_enter Tryz.func128, Tryz.ntmps128
  go_wp2
  go_ret
  exact ⟨by rw [HE.out]; rfl, rfl⟩
end Go.Proofs.YtoabnpdoicbpiaaGreat
namespace Go.Proofs.YtoabnpdoicbpiaaGreat
set_option linter.unusedVariables false
open Go.RowKit Go.Shelf Go.Proofs.YtoabnpdoicbpiaaGreat.Nm
def rtEnd (w : World) (r : Option (List Nat)) (e : Ending) (w' : World) : Prop := match r with
 | some l => ∃ v, e = .returned (.tuple #[v, .int .i64 0]) ∧ w'.ownsRow w.heap.size 3 1 v l.length (nums l)
 | none => e = .returned (.tuple #[.slice none 0 0, .int .i64 7])
set_option maxRecDepth 100000 in
set_option maxHeartbeats 2000000 in
theorem refTypes_any (s : ByteArray) (w : World) (hs : s.size ≤ 1048576) :
  Calls Tryz.prog 146 #[.string s] w fun e w' => rtEnd w (typB s) e w' ∧ Below w.heap.size w w' := by
 obtain ⟨i0, hi, hz0, hz1, hz2⟩ := info_parts Tryz.infoInt
 go_enter Tryz.func146, Tryz.ntmps146
 go_wp2_with fail
 go_loopw [0, 4, 5] (fun sv lv av wr => ∃ (r : ByteArray) (L : List Nat) (last : Int), sv = .string r ∧ av = .int .i64 last ∧ -1 ≤ last ∧ last ≤ 255 ∧ r.size ≤ s.size ∧ L.length + 8 * r.size ≤ 8 * s.size ∧ Hid (∀ x ∈ L, x ≤ 65535) ∧ Hid (typS (-1) s = (typS last r).map (L ++ ·)) ∧ wr.ownsRow w.heap.size 3 1 lv L.length (nums L) ∧ Below w.heap.size w wr) (fun sv _ _ _ => ssz sv)
 case atStart => exact ⟨s, [], -1, rfl, rfl, by omega, by omega, Nat.le_refl _, by simp, (fun x hx => by cases hx), by simp [Hid], World.ownsRow_nil _ _ _ _, Below.refl _ _⟩
 case round =>
  obtain ⟨r, L, last, rfl, rfl, hl1, hl2, hrs, hLn, HX, HT, hown, hBr⟩ := hrel
  by_cases h0 : r.size = 0
  ·have he := isEmpty_true h0
   have HT2 : Hid (typS (-1) s = some L) := by unfold Hid; rw [HT.out, typS_nil h0]; simp
   obtain ⟨p, c, rfl, hpc, hc9, hsh⟩ := owns_shape hown
   clear HT h0
   go_wp2_with fail
   go_loop [78] (fun iv => ∃ i : Nat, iv = .int .i64 i ∧ i ≤ L.length ∧ Hid (∀ j, (hj : j < L.length) → j < i → L[j] ≠ 0)) (fun iv => L.length - (intOf iv).toNat)
   case atStart => exact ⟨0, rfl, Nat.zero_le _, fun j hj h => absurd h (Nat.not_lt_zero _)⟩
   case round =>
    obtain ⟨i, rfl, hi2, HZ⟩ := hrel
    by_cases hlt : i < L.length
    ·obtain ⟨g, rfl, hg1, hg2⟩ : ∃ g, p = some ⟨g, 0, none⟩ ∧ w.heap.size ≤ g ∧ g < wr.heap.size := by
      rcases hsh with ⟨_, h⟩ | h
      ·omega
      ·exact h
     have hcell : wr.cell? ⟨g, i, none⟩ = some (.int .i64 ((L[i] : Nat) : Int)) := by
      rw [hown.cellAt i (by omega)]; simp [nums, hlt]
     have hx := HX.out L[i] (List.getElem_mem hlt)
     by_cases hx0 : L[i] = 0
     ·have HB : Hid (typB s = none) := typB_zero HT2.out (zero_head HT2.out (by rw [← hx0]; exact List.getElem_mem hlt))
      rw [hx0] at hcell
      clear hx hx0 hsh
      go_wp2
      go_ret2
      exact ⟨by rw [HB.out]; rfl, hBr⟩
     ·have HZ2 : Hid (∀ j, (hj : j < L.length) → j < i + 1 → L[j] ≠ 0) := by
       intro j hj h
       by_cases e : j = i
       ·subst e; exact hx0
       ·exact HZ.out j hj (by omega)
      clear hsh
      generalize L[i] = x at *
      go_wp2
      go_round
      case rel => exact ⟨i + 1, by go_num, hlt, HZ2⟩
      case measure => simp [intOf]; omega
    ·have HB : Hid (typB s = some L) := typB_some HT2.out (fun h => by
            have h0 := head_zero h
            obtain ⟨j, hj, e⟩ := List.mem_iff_getElem.1 h0
            exact HZ.out j hj (by omega) e)
     clear hsh HZ
     go_wp2
     go_ret2
     exact ⟨by rw [HB.out]; exact ⟨_, rfl, hown⟩, hBr⟩
  ·have he := isEmpty_false (r := r) (by omega)
   have HS := typS_step (last := last) h0
   have HNO : Hid (typS last r = none → typB s = none) := fun h => typB_none (by rw [HT.out, h]; rfl)
   have hr1 : r.size ≤ 1048576 := by omega
   clear h0
   by_cases h2 : r.size < 2
   ·have HB : Hid (typB s = none) := HNO.out (by rw [HS, if_pos h2])
    clear HS HT
    go_wp2
    go_ret2
    exact ⟨by rw [HB.out]; rfl, hBr⟩
   ·rw [if_neg h2] at HS
    have hr2 : 2 ≤ r.size := by omega
    obtain ⟨b, hyb, HYb, hbl⟩ := bt_wrap (s := r) (i := 0) (by omega)
    obtain ⟨n, hyn, HYn, hnl⟩ := bt_wrap (s := r) (i := 1) (by omega)
    rw [HYb, HYn] at HS
    go_wp2_with fail
    go_quiet (fail)
    obtain ⟨wq, hwq⟩ : ∃ wq, wr.drewN nq = wq := ⟨_, rfl⟩
    have hownq : wq.ownsRow w.heap.size 3 1 u4 L.length (nums L) := hwq ▸ hown
    have hBq : Below w.heap.size w wq := hwq ▸ below_drewN hBr nq
    rw [hwq]
    clear hwq hown hBr hyb hyn
    by_cases hc1 : (b : Int) ≤ last ∨ n < 1 ∨ 32 < n
    ·have HB : Hid (typB s = none) := HNO.out (by rw [HS, if_pos hc1])
     clear HS HT
     rcases (show (b : Int) ≤ last ∨ (last < (b : Int) ∧ n < 1) ∨ (last < (b : Int) ∧ 1 ≤ n ∧ 32 < n) by omega) with h | ⟨h, h'⟩ | ⟨h, h', h''⟩
     all_goals
      go_wp2
      go_ret2
      exact ⟨by rw [HB.out]; rfl, hBq⟩
    ·rw [if_neg hc1] at HS
     have hc1a : last < (b : Int) := by omega
     have hc1b : 1 ≤ n := by omega
     have hc1c : n ≤ 32 := by omega
     clear hc1
     by_cases hc2 : r.size < 2 + n
     ·have HB : Hid (typB s = none) := HNO.out (by rw [HS, if_pos hc2])
      clear HS HT
      go_wp2
      go_ret2
      exact ⟨by rw [HB.out]; rfl, hBq⟩
     ·rw [if_neg hc2] at HS
      have hc2' : 2 + n ≤ r.size := by omega
      have hq : 1 + n < r.size := by omega
      obtain ⟨y, hy, HY, hyl⟩ := bt_wrap hq
      rw [HY] at HS
      by_cases hc3 : y = 0
      ·subst hc3
       have HB : Hid (typB s = none) := HNO.out (by rw [HS, if_pos rfl])
       clear HS HT HY
       go_wp2
       go_ret2
       exact ⟨by rw [HB.out]; rfl, hBq⟩
      ·rw [if_neg hc3] at HS
       have hy0 : ((y : Int) == 0) = false := by rw [beq_eq_false_iff_ne]; omega
       have hxz : (r.extract 2 (2 + n)).size = n := by rw [size_extract' _ _ _ hc2']; omega
       have hrz : (r.extract (2 + n) r.size).size = r.size - (2 + n) := size_extract' _ _ _ (Nat.le_refl _)
       have HBT := hide' (fun w => bits_any (r.extract 2 (2 + n)) w (by rw [hxz]; omega))
       rw [hxz] at HBT
       obtain ⟨bl, hbl2⟩ : ∃ bl, bitsL 8 (lst (r.extract 2 (2 + n)) n) = bl := ⟨_, rfl⟩
       have HBL : Hid (bl.length = 8 * n) := by unfold Hid; rw [← hbl2, bitsL_len, lst_len]
       have HBG : Hid (∀ k, k < 8 * n → bl[k]? = some (bitAt (r.extract 2 (2 + n)) k)) := fun k hk => by rw [← hbl2]; exact bitsL_bit _ n k hk
       rw [hbl2] at HBT
       have HXB : Hid (∀ x ∈ L ++ blkT b (r.extract 2 (2 + n)) (8 * n), x ≤ 65535) := fun x hx => by
        rcases List.mem_append.1 hx with h | h
        ·exact HX.out x h
        ·exact blkT_le (by omega) (by omega) x h
       have HT2 : Hid (typS (-1) s = (typS (b : Int) (r.extract (2 + n) r.size)).map ((L ++ blkT b (r.extract 2 (2 + n)) (8 * n)) ++ ·)) := by
        unfold Hid; rw [HT.out, HS, Option.map_map]; congr 1; funext q; simp
       clear HS HT HY hbl2 hc3 HX HNO
       go_wp2_with (first
        | (go_at_call 147; refine (HBT.out _).mono ?_; rintro e w2 ⟨v2, rfl, hownb, hB2⟩; rw [HBL.out] at hownb; obtain ⟨pA, cA, rfl, hbc, hbc9, hbsh⟩ := owns_shape hownb; obtain ⟨gb, rfl, hgb1, hgb2⟩ : ∃ g, pA = some ⟨g, 0, none⟩ ∧ wq.heap.size ≤ g ∧ g < w2.heap.size := hbsh.resolve_left (fun h => absurd h.2 (by omega)))
        | fail)
       clear hbsh
       have hne : u4.ownBlock ≠ some gb := fun e => by have := (hownq.lt gb e).2; omega
       have hown2 := ownsRow_below hownq hB2
       have hBw2 : Below w.heap.size w w2 := bstep hBq hB2 hBq.size
       obtain ⟨wo, rfl⟩ : ∃ wo, wo = wr := ⟨_, rfl⟩
       clear hownq hBq
       go_loopw [4, 55] (fun ov kv wr => ∃ k : Nat, kv = .int .i64 k ∧ k ≤ 8 * n ∧ wr.ownsRow w.heap.size 3 1 ov (L ++ blkT b (r.extract 2 (2 + n)) k).length (nums (L ++ blkT b (r.extract 2 (2 + n)) k)) ∧ wr.ownsRow wq.heap.size 3 1 (.slice (some ⟨gb, 0, none⟩) (8 * n) cA) (8 * n) (nums bl) ∧ ov.ownBlock ≠ some gb ∧ gb < wr.heap.size ∧ Below w.heap.size w wr) (fun _ kv _ => 8 * n - (intOf kv).toNat)
       case atStart => exact ⟨0, rfl, Nat.zero_le _, by simpa [blkT] using hown2, hownb, hne, hgb2, hBw2⟩
       case round =>
        clear hown2 hownb hne hgb2 hBw2
        obtain ⟨k, rfl, hk8, hown2, hownb, hne, hgb2, hBw2⟩ := hrel
        by_cases hlt : k < 8 * n
        ·obtain ⟨hkl, hkb⟩ := List.getElem?_eq_some_iff.1 (HBG.out k hlt)
         have hcell : wr.cell? ⟨gb, k, none⟩ = some (.int .i64 ((bitAt (r.extract 2 (2 + n)) k : Nat) : Int)) := by
          rw [hownb.cellAt k (by omega)]; simp [nums, hkl, hkb]
         have hll : (L ++ blkT b (r.extract 2 (2 + n)) k).length ≤ 8 * s.size + k := by
          have := blkT_len b (r.extract 2 (2 + n)) k
          rw [List.length_append]; omega
         have hb2 : bitAt (r.extract 2 (2 + n)) k = 0 ∨ bitAt (r.extract 2 (2 + n)) k = 1 := by unfold bitAt; omega
         rcases hb2 with hb0 | hb1
         ·have HE : Hid (blkT b (r.extract 2 (2 + n)) (k + 1) = blkT b (r.extract 2 (2 + n)) k) := by
           unfold Hid; conv => lhs; unfold blkT
           rw [if_neg (by omega)]
          rw [hb0] at hcell
          clear hb0 hkb hll
          go_wp2
          refine ⟨⟨k + 1, by go_num, hlt, ?_, hownb, hne, hgb2, hBw2⟩, by simp [intOf]; omega⟩
          rw [HE.out]; exact hown2
         ·have HE : Hid (nums (L ++ blkT b (r.extract 2 (2 + n)) (k + 1)) = nums (L ++ blkT b (r.extract 2 (2 + n)) k) ++ [.int .i64 ((b : Int) * 256 + k)] ∧ (L ++ blkT b (r.extract 2 (2 + n)) (k + 1)).length = (L ++ blkT b (r.extract 2 (2 + n)) k).length + 1) := by
           unfold Hid
           have e : blkT b (r.extract 2 (2 + n)) (k + 1) = blkT b (r.extract 2 (2 + n)) k ++ [b * 256 + k] := by
            conv => lhs; unfold blkT
            rw [if_pos hb1]
           rw [e]; simp [nums]; omega
          rw [hb1] at hcell
          clear hb1 hkb
          obtain ⟨M, hM⟩ : ∃ M, L ++ blkT b (r.extract 2 (2 + n)) k = M := ⟨_, rfl⟩
          rw [hM] at hown2 hll HE
          clear hM
          go_wp2_with (at_builtin; refine wpList_append_apart _ rfl _ _ 115 rfl w.heap.size 3 i0 (.int .i64 0) 1 8 Tryz.underlying115 hi hz0 hz1 hz2 rfl (by decide) _ _ _ rfl (hown2.alloc _) ⟨wr.heap.size, 0, none⟩ 1 1 [.int .i64 _] rfl rfl (cell_one_new _ _ _) (by simp [Value.oneCell']) (by unfold maxLen; omega) (by omega) (by have := hBw2.size; simp; omega) ?_; intro v4 w4 hown4 hgrow4 hpl4)
          refine ⟨⟨k + 1, by go_num, hlt, ?_, (hownb.alloc _).kept hgrow4 (.inr (fun e => hne e.symm)), ?_, ?_, below_app hBw2 (Nat.le_refl _) hown2 hgrow4⟩, by simp [intOf]; omega⟩
          ·rw [HE.out.1, HE.out.2]; exact hown4
          ·rcases hpl4 with e | e
           ·rw [e]; exact hne
           ·rw [e]; simp; omega
          ·have := hgrow4.size; simp at this; omega
        ·obtain rfl : k = 8 * n := by omega
         clear HBG HBL hownb
         obtain ⟨M, hM⟩ : ∃ M, L ++ blkT b (r.extract 2 (2 + n)) (8 * n) = M := ⟨_, rfl⟩
         have hMl : M.length ≤ L.length + 8 * n := by rw [← hM, List.length_append]; have := blkT_len b (r.extract 2 (2 + n)) (8 * n); omega
         rw [hM] at hown2 HXB HT2
         clear hM
         go_wp2
         refine ⟨⟨r.extract (2 + n) r.size, M, b, rfl, rfl, by omega, by omega, by omega, by omega, HXB, HT2, hown2, hBw2⟩, ?_⟩
         show (r.extract (2 + n) r.size).size < r.size
         omega
end Go.Proofs.YtoabnpdoicbpiaaGreat
