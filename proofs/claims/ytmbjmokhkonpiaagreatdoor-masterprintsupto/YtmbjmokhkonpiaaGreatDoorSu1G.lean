import Derived.Test.YtmbjmokhkonpiaaGreatDoorVs1G
import Derived.Test.YtmbjmokhkonpiaaGreatDoorThG
import Derived.Lib.SlFresh
import Derived.Test.YtmbjmokhkonpiaaGreatDoorWkG
import Derived.Test.YtmbjmokhkonpiaaGreatDoorMath15G
import Derived.Shelf.Pu.ParseUintPublic10
import Derived.Shelf.Lay
import Derived.Ground.MpProg
import Derived.Lib.AtoiErrMem
import Derived.BigCall
namespace Go.Proofs.YtmbjmokhkonpiaaGreatDoor
set_option linter.unusedVariables false
open Go.Proofs.YtmbjmokhkonpiaaGreatDoor.Nm

/-- a block that was read -/
structure Blk (last : Int) (s : ByteArray) (U : List Nat) (q : List Nat) : Prop where
  two : 2 ≤ s.size
  up : last < (bt s 0 : Int)
  n1 : 1 ≤ bt s 1
  n32 : bt s 1 ≤ 32
  room : 2 + bt s 1 ≤ s.size
  end0 : bt s (1 + bt s 1) ≠ 0
  eq : U = blkT (bt s 0) (s.extract 2 (2 + bt s 1)) (8 * bt s 1) ++ q
  far : ∀ x ∈ q, (bt s 0 + 1) * 256 ≤ x
theorem typF_blk {f : Nat} {last : Int} {s : ByteArray} {U : List Nat} (h : typF (f + 1) last s = some U) (h0 : s.size ≠ 0) :
    ∃ q, Blk last s U q ∧ typF f (bt s 0) (s.extract (2 + bt s 1) s.size) = some q := by
  unfold typF at h
  rw [if_neg h0] at h
  split at h
  · cases h
  split at h
  · cases h
  split at h
  · cases h
  split at h
  · cases h
  rename_i h2 h3 h4 h5
  cases e : typF f (bt s 0) (s.extract (2 + bt s 1) s.size) with
  | none => rw [e] at h; cases h
  | some q =>
    rw [e] at h
    simp at h
    refine ⟨q, ⟨by omega, by omega, by omega, by omega, by omega, h5, h.symm, fun x hx => ?_⟩, rfl⟩
    have := (typF_rise f _ _ q (by omega) e).2 x hx
    omega
theorem bit_top {y : Nat} (h : y ≠ 0) (hy : y < 256) : ∃ p, p < 8 ∧ y / 2 ^ (7 - p) % 2 = 1 := by
  by_cases h7 : y / 128 % 2 = 1
  · exact ⟨0, by omega, h7⟩
  by_cases h6 : y / 64 % 2 = 1
  · exact ⟨1, by omega, h6⟩
  by_cases h5 : y / 32 % 2 = 1
  · exact ⟨2, by omega, h5⟩
  by_cases h4 : y / 16 % 2 = 1
  · exact ⟨3, by omega, h4⟩
  by_cases h3 : y / 8 % 2 = 1
  · exact ⟨4, by omega, h3⟩
  by_cases h2 : y / 4 % 2 = 1
  · exact ⟨5, by omega, h2⟩
  by_cases h1 : y / 2 % 2 = 1
  · exact ⟨6, by omega, h1⟩
  · exact ⟨7, by omega, by simp; omega⟩
/-- the last byte of a block tells a type -/
theorem Blk.top {last : Int} {s : ByteArray} {U q : List Nat} (h : Blk last s U q) : ∃ i, 8 * (bt s 1 - 1) ≤ i ∧ i < 8 * bt s 1 ∧ bitAt (s.extract 2 (2 + bt s 1)) i = 1 := by
  have h1 := h.n1
  have hr := h.room
  obtain ⟨p, hp, hb⟩ := bit_top h.end0 (bt_lt _ _)
  refine ⟨8 * (bt s 1 - 1) + p, by omega, by omega, ?_⟩
  unfold bitAt
  rw [show (8 * (bt s 1 - 1) + p) / 8 = bt s 1 - 1 by omega, show (8 * (bt s 1 - 1) + p) % 8 = p by omega, bt_extract _ _ _ _ (by omega) hr, show 2 + (bt s 1 - 1) = 1 + bt s 1 by omega]
  exact hb
theorem Blk.mem {last : Int} {s : ByteArray} {U q : List Nat} (h : Blk last s U q) (i : Nat) (hi : i < 256) : bt s 0 * 256 + i ∈ U ↔ i < 8 * bt s 1 ∧ bitAt (s.extract 2 (2 + bt s 1)) i = 1 := by
  rw [h.eq, List.mem_append, mem_blkT]
  constructor
  · rintro (⟨j, h1, h2, h3⟩ | h1)
    · obtain rfl : i = j := by omega
      exact ⟨h1, h3⟩
    · have := h.far _ h1; omega
  · rintro ⟨h1, h2⟩
    exact .inl ⟨i, h1, rfl, h2⟩
theorem Blk.low {last : Int} {s : ByteArray} {U q : List Nat} (h : Blk last s U q) : ∀ x ∈ U, bt s 0 * 256 ≤ x := fun x hx => by
  rw [h.eq, List.mem_append, mem_blkT] at hx
  rcases hx with ⟨j, _, h2, _⟩ | h1
  · rw [h2]; exact Nat.le_add_right _ _
  · exact Nat.le_trans (Nat.mul_le_mul_right _ (Nat.le_succ _)) (h.far _ h1)
theorem Blk.block {last : Int} {s t : ByteArray} {U q r : List Nat} (h : Blk last s U q) (k : Blk last t U r) : bt s 0 ≤ bt t 0 := by
  obtain ⟨i, h1, h2, h3⟩ := k.top
  have := k.n32
  have := h.low _ ((k.mem i (by omega)).2 ⟨h2, h3⟩)
  omega
end Go.Proofs.YtmbjmokhkonpiaaGreatDoor

namespace Go.Proofs.YtmbjmokhkonpiaaGreatDoor
set_option linter.unusedVariables false
open Go.Proofs.YtmbjmokhkonpiaaGreatDoor.Nm

def bitV (M : Nat → Bool) (base : Nat) : Nat → Nat
  | 0 => 0
  | k + 1 => 2 * bitV M base k + (if M (base + k) = true then 1 else 0)
def marks (M : Nat → Bool) (b : Nat) (n : Nat) : List Nat := (List.range n).map fun j => bitV M (256 * b + 8 * j) 8
end Go.Proofs.YtmbjmokhkonpiaaGreatDoor

namespace Go.Proofs.YtmbjmokhkonpiaaGreatDoor
set_option linter.unusedVariables false
open Go.RowKit Go.Shelf Go.Proofs.YtmbjmokhkonpiaaGreatDoor.Nm

/-- where a row lies behind an append: where it lay, or at a new place -/
theorem run_append_place {P : Program} (w : World) (base : Nat) (t ty e : TypeId) (i : TypeInfo) (z : Value) (size bytes : Nat) (ht : P.underlying t = some (.slice e)) (hi : P.info? e = some i) (hz : i.zero = some z)
    (hsize : i.size = size) (hby : i.bytes = bytes) (hzs : z.cells.size = size) (hsz : 0 < size)
    (v : Value) (n : Nat) (xs : List Value) (hown : w.ownsRow base e size v n xs)
    (a : Addr) (m c : Nat) (news : List Value) (hl : news.length = m * size) (hnews : ∀ j u, news[j]? = some u → w.cell? (a.add j) = some u) (h1 : ∀ u ∈ news, u.oneCell' = true)
    (h63 : n + m ≤ maxLen) (hbytes : (n + m) * bytes ≤ 140737488355328) (hbase : base ≤ w.heap.size) :
    ∃ v' w', (Builtin.append_ #[t, t] ty #[v, .slice (some a) m c]).run P w = .ok v' w' ∧ w'.ownsRow base e size v' (n + m) (xs ++ news) ∧ w.grownBy w' v.ownBlock ∧
      (v'.ownBlock = v.ownBlock ∨ v'.ownBlock = some w.heap.size) := by
  obtain ⟨v', w', hr, h2, h3, h4⟩ := run_append_own (P := P) w base t ty e i z size bytes ht hi hz hsize hby hzs hsz v n xs hown a m c news hl hnews h1 h63 hbytes hbase
  refine ⟨v', w', hr, h2, h3, ?_⟩
  subst hsize
  subst hby
  have hsmall : n + m ≤ 9223372036854775807 := by simp only [maxLen] at h63; omega
  rcases hown.2 with ⟨rfl, rfl⟩ | ⟨g, cap, cur, rfl, hbg, hg, hnc, hcm, hcs, htake⟩
  · by_cases hm : m = 0
    · rw [h4.2 ⟨rfl, hm⟩]; exact .inl rfl
    · rw [run_append_nil (P := P) w t ty e i z ht hi hz a m c news hl hnews (by omega) (by omega) (by have hb := hbytes; simp only [Nat.zero_add] at hb; omega)] at hr
      injection hr with hr1 hr2
      rw [← hr1]; exact .inr rfl
  · by_cases hroom : n + m ≤ cap
    · rw [run_append_room (P := P) w t ty e i ht hi g n cap cur hg a m c news hl hnews h1 hroom (by rw [hl, hcs, ← Nat.add_mul]; exact Nat.mul_le_mul_right _ hroom)] at hr
      injection hr with hr1 hr2
      rw [← hr1]; exact .inl rfl
    · rw [run_append_grow (P := P) w t ty e i z ht hi hz ⟨g, 0, none⟩ n cap xs hown.1 (hown.cells (g := g) rfl) a m c news hl hnews (by omega) (by omega) (growslice_fits (by omega) hbytes)] at hr
      injection hr with hr1 hr2
      rw [← hr1]; exact .inr rfl
/-- .. for the walk -/
theorem wpList_append_apart {P : Program} (w : World) {ops : Array Oper} {rest : List Oper} {o : Oper} {a : Act} {Q : Exit → Act → World → Prop} (hgd : o.guard = none) (s x : Operand) (t : TypeId)
    (ho : o.op = .call { callee := .builtin .append, args := #[s, x], argTypes := #[t, t] })
    (base : Nat) (e : TypeId) (i : TypeInfo) (z : Value) (size bytes : Nat) (ht : P.underlying t = some (.slice e)) (hi : P.info? e = some i) (hz : i.zero = some z)
    (hsize : i.size = size) (hby : i.bytes = bytes) (hzs : z.cells.size = size) (hsz : 0 < size)
    (v : Value) (n : Nat) (xs : List Value) (hs : a.eval s = v) (hown : w.ownsRow base e size v n xs)
    (ad : Addr) (m c : Nat) (news : List Value) (hx : a.eval x = .slice (some ad) m c) (hl : news.length = m * size) (hnews : ∀ j u, news[j]? = some u → w.cell? (ad.add j) = some u) (h1 : ∀ u ∈ news, u.oneCell' = true)
    (h63 : n + m ≤ maxLen) (hbytes : (n + m) * bytes ≤ 140737488355328) (hbase : base ≤ w.heap.size)
    (h : ∀ v' w', w'.ownsRow base e size v' (n + m) (xs ++ news) → w.grownBy w' v.ownBlock → (v'.ownBlock = v.ownBlock ∨ v'.ownBlock = some w.heap.size) → wpList P ops Q rest (a.put o.dst v') w') : wpList P ops Q (o :: rest) a w := by
  obtain ⟨v', w', hr, h2, h3, h4⟩ := run_append_place (P := P) w base t o.type e i z size bytes ht hi hz hsize hby hzs hsz v n xs hown ad m c news hl hnews h1 h63 hbytes hbase
  exact Go.Lib.wpList_append_run_sl w hgd s x t ho v _ hs hx hr (h v' w' h2 h3 h4)
end Go.Proofs.YtmbjmokhkonpiaaGreatDoor

namespace Go.Proofs.YtmbjmokhkonpiaaGreatDoor
set_option linter.unusedVariables false
open Go.RowKit Go.Shelf Go.Proofs.YtmbjmokhkonpiaaGreatDoor.Nm

end Go.Proofs.YtmbjmokhkonpiaaGreatDoor

namespace Go.Proofs.YtmbjmokhkonpiaaGreatDoor
set_option linter.unusedVariables false
open Go.RowKit Go.Shelf Go.Proofs.YtmbjmokhkonpiaaGreatDoor.Nm

def Gl (w : World) : Prop := True

end Go.Proofs.YtmbjmokhkonpiaaGreatDoor
