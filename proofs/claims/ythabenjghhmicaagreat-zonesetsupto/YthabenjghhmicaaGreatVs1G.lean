import Derived.Test.YthabenjghhmicaaGreatRc1G
import Derived.Test.YthabenjghhmicaaGreatCntG
import Derived.Shelf.SlIterI.Sorted
import Derived.Shelf.SortM.Plain
import Derived.Shelf.SortM.SortNone
import Derived.Ground.SlgmProg
import Derived.Shelf.RegionOpenPlain
import Derived.Lib.BufferRead
import Derived.Test.YthabenjghhmicaaGreatThG
import Derived.Lib.SlFresh
import Derived.Test.YthabenjghhmicaaGreatKs1G
namespace Go.Proofs.YthabenjghhmicaaGreat
set_option linter.unusedVariables false
open Go.RowKit Go.Shelf Go.Proofs.YthabenjghhmicaaGreat.Nm
attribute [local go_sem] Oper.semAt_some

/-- all cells below stay -/
def KpW (B : Nat) (W W' : World) : Prop := ∀ (a : Addr) v, a.block < B → W.cell? a = some v → W'.cell? a = some v
theorem kpW_t {B : Nat} {A C D : World} (h : KpW B A C) (k : KpW B C D) : KpW B A D := fun a v hb e => k a v hb (h a v hb e)
theorem kpW_b {B : Nat} {w : World} (W : World) (l : Nat) (o o' : Obj) (_ : w.heap.size ≤ l) (h : W.heap[l]? = some o) (hc : o.isCells = false) (_ : o.isWalk = false) : KpW B W (W.putObj l o') :=
  fun a v _ e => cell_kept e (grownBy_putObj' W l o') (fun r e => by cases e; exact ⟨_, h, hc⟩)
theorem kpW_below {B n : Nat} {W W' : World} (h : Below n W W') (hB : B ≤ n) : KpW B W W' := fun a v hb e => (h.cell (Nat.lt_of_lt_of_le hb hB)).trans e

/-- whole numbers in memory, below a block -/
def ZAt (w : World) (B : Nat) (p : Option Addr) (L : List Int) : Prop := ∀ k (h : k < L.length), ∃ g off, p = some ⟨g, off, none⟩ ∧ g < B ∧ w.cell? ⟨g, off + k, none⟩ = some (.int .i64 L[k])
theorem ZAt.keep {w w' : World} {B C : Nat} {p : Option Addr} {L : List Int} (h : ZAt w B p L) (hk : KpW C w w') (hB : B ≤ C) : ZAt w' B p L := fun k hk' => by
  obtain ⟨g, off, h1, h2, h3⟩ := h k hk'
  exact ⟨g, off, h1, h2, hk _ _ (Nat.lt_of_lt_of_le h2 hB) h3⟩
abbrev encI (x : Int) : Value := .int .i64 x

end Go.Proofs.YthabenjghhmicaaGreat

namespace Go.Proofs.YthabenjghhmicaaGreat
set_option linter.unusedVariables false
open Go.RowKit Go.Shelf Go.Sort Go.Proofs.YthabenjghhmicaaGreat.Nm

end Go.Proofs.YthabenjghhmicaaGreat

namespace Go.Proofs.YthabenjghhmicaaGreat
set_option linter.unusedVariables false
open Go.RowKit Go.Shelf Go.Proofs.YthabenjghhmicaaGreat.Nm

/-- a set under way: the blocks that are done, the block, its bytes -/
structure SetS where
  done : List Nat
  blk : Int
  marks : List Nat
def SetS.bytes (s : SetS) : List Nat := if s.blk < 0 then s.done else s.done ++ s.blk.toNat :: s.marks.length :: s.marks
def SetS.next (s : SetS) (b : Nat) : SetS := if (b : Int) = s.blk then s else ⟨s.bytes, b, []⟩
def SetS.fill (s : SetS) (k : Nat) : SetS := { s with marks := s.marks ++ List.replicate (k + 1 - s.marks.length) 0 }
def SetS.mark (s : SetS) (m : Nat) : SetS := { s with marks := s.marks.set (s.marks.length - 1) (s.marks.getD (s.marks.length - 1) 0 ||| m) }
def SetS.step (s : SetS) (t : Int) : SetS := if isTy t = true then ((s.next (t.toNat / 256)).fill (t.toNat % 256 / 8)).mark (2 ^ (7 - t.toNat % 8)) else s
def SetS.init : SetS := ⟨[], -1, []⟩
def setB (M : List Int) : List Nat := (M.foldl SetS.step SetS.init).bytes

/-- what holds of a set under way -/
structure SetS.Ok (s : SetS) : Prop where
  low : -1 ≤ s.blk
  high : s.blk ≤ 255
  ml : s.marks.length ≤ 32
  lt : ∀ x ∈ s.bytes, x < 256
  neg : s.blk < 0 → s.marks = []

theorem init_ok : SetS.init.Ok := ⟨by decide, by decide, by decide, (fun x hx => by cases hx), fun _ => rfl⟩
/-- a row of bytes as a text -/
theorem str_owns {W : World} {b c : Nat} {p : Option Addr} {xs : List Nat} (h : W.ownsRow b 5 1 (.slice p xs.length c) xs.length (byts xs)) (hx : ∀ x ∈ xs, x < 256) : (convert 131 9 (.slice p xs.length c)).run Tryz.prog W = .ok (.string (bts xs)) W := by
  have hz : (bts xs).size = xs.length := bts_size _
  rcases h.2 with ⟨h1, h0⟩ | ⟨g, cap, cur, h1, _⟩
  · simp at h1
    obtain ⟨rfl, _, rfl⟩ := h1
    have : xs = [] := List.eq_nil_of_length_eq_zero h0
    subst this
    exact Go.Lib.run_convert_nil_bytes W 131 9 5 0 Tryz.underlying131 Tryz.underlying5 Tryz.underlying9
  · simp at h1
    obtain ⟨rfl, rfl⟩ := h1
    have h' := owns_str (t := bts xs) (w := W) (base := b) (g := g) (cap := c) (by rw [hz, bts_cells _ hx]; exact h)
    rw [hz] at h'; exact h'

def OkD (D mk : List Nat) : Prop := (∀ x ∈ D, x < 256) ∧ ∀ x ∈ mk, x < 256
theorem bytes_pos {D mk : List Nat} {b : Nat} : (⟨D, b, mk⟩ : SetS).bytes = D ++ b :: mk.length :: mk := by
  unfold SetS.bytes; rw [if_neg (by show ¬ ((b : Int) < 0); omega)]; simp
theorem ok_split {D mk : List Nat} {b : Nat} (h : (⟨D, b, mk⟩ : SetS).Ok) : OkD D mk := by
  have := h.lt
  rw [bytes_pos] at this
  exact ⟨fun x hx => this x (by simp [hx]), fun x hx => this x (by simp [hx])⟩
theorem byts_set (l : List Nat) (i x : Nat) : byts (l.set i x) = (byts l).set i (.int .u8 (x : Int)) := by simp [byts, List.map_set]
theorem up_len (D mk : List Nat) (b : Nat) : (D ++ b :: mk.length :: mk ++ [0]).set (D.length + 1) (mk.length + 1) = D ++ b :: (mk ++ [0]).length :: (mk ++ [0]) := by
  rw [List.append_assoc, List.set_append_right _ _ (by omega)]
  simp
theorem at_len (D mk : List Nat) (b : Nat) (l : List Nat) : (D ++ b :: mk.length :: (mk ++ l))[D.length + 1]? = some mk.length := by
  rw [List.getElem?_append_right (by omega)]; simp
/-- the bytes of the block, filled -/
def Fills (mk0 mk : List Nat) (r : Nat) : Prop := mk0.length ≤ mk.length ∧ mk = mk0 ++ List.replicate (mk.length - mk0.length) 0 ∧ (mk.length = mk0.length ∨ mk.length ≤ r + 1)

theorem fills_start {mk0 : List Nat} {r : Nat} : Fills mk0 mk0 r := ⟨Nat.le_refl _, by simp, .inl rfl⟩
theorem owns_cp {w : World} {base e : Nat} {p : Option Addr} {n cap : Nat} {xs : List Value} {m : Nat} (h : w.ownsRow base e 1 (.slice p m cap) n xs) : n ≤ cap ∧ cap ≤ 9223372036854775807 := by
  obtain ⟨hl, (⟨h1, h0⟩ | ⟨g, cap', cur, h1, hb, hg, hn, hcap, hsz, ht⟩)⟩ := h
  · simp at h1; exact ⟨by omega, by omega⟩
  · simp at h1; obtain ⟨e, _, rfl⟩ := h1; exact ⟨hn, by unfold maxLen at hcap; omega⟩
theorem own_zero {w : World} {base e N : Nat} {v : Value} {l : List Nat} (h : w.ownsRow base e 1 v N (byts l ++ [.int .u8 0])) : w.ownsRow base e 1 v N (byts (l ++ [0])) := by simpa [byts] using h
theorem cell_zero {w : World} {base e N g c b : Nat} {D mk : List Nat} (h : w.ownsRow base e 1 (.slice (some ⟨g, 0, none⟩) (N + 1) c) (N + 1) (byts (D ++ b :: mk.length :: mk ++ [0]))) (hN : N = D.length + 2 + mk.length) : w.cell? ⟨g, D.length + 1, none⟩ = some (.int .u8 (mk.length : Int)) := by
  rw [h.cellAt (D.length + 1) (by omega)]
  have := at_len D mk b [0]
  rw [show D ++ b :: mk.length :: mk ++ [0] = D ++ b :: mk.length :: (mk ++ [0]) by simp]
  simp only [byts, List.getElem?_map, this]; rfl

theorem cell_last {w : World} {base e N N1 g c b x : Nat} {D mk : List Nat} (h : w.ownsRow base e 1 (.slice (some ⟨g, 0, none⟩) N1 c) N1 (byts (D ++ b :: mk.length :: mk))) (hN : N1 = D.length + 2 + mk.length) (hN1 : N1 = N + 1) (hm : 1 ≤ mk.length) (hx : mk.getD (mk.length - 1) 0 = x) : w.cell? ⟨g, N, none⟩ = some (.int .u8 (x : Int)) := by
  rw [h.cellAt N (by omega)]
  have e : (D ++ b :: mk.length :: mk)[N]? = some x := by
    rw [List.getElem?_append_right (by omega), show N - D.length = (mk.length - 1) + 2 by omega]
    simp only [List.getElem?_cons_succ]
    rw [← hx, List.getD_eq_getElem?_getD, List.getElem?_eq_getElem (by omega)]; rfl
  simp only [byts, List.getElem?_map, e]; rfl

theorem step_row {w : World} {base e N g c b : Nat} {D mk : List Nat} (h : w.ownsRow base e 1 (.slice (some ⟨g, 0, none⟩) (N + 1) c) (N + 1) (byts (D ++ b :: mk.length :: mk ++ [0]))) :
    (w.setCell ⟨g, D.length + 1, none⟩ (.int .u8 ((mk.length : Int) + 1))).ownsRow base e 1 (.slice (some ⟨g, 0, none⟩) (N + 1) c) (N + 1) (byts (D ++ b :: (mk ++ [0]).length :: (mk ++ [0]))) := by
  have := (h.stored (D.length + 1) (.int .u8 ((mk.length + 1 : Nat) : Int))).1
  rw [← byts_set, up_len] at this
  exact this
theorem fills_up {mk0 mk : List Nat} {r : Nat} (h : Fills mk0 mk r) (hr : mk.length ≤ r) : Fills mk0 (mk ++ [0]) r := by
  obtain ⟨h1, h2, h3⟩ := h
  refine ⟨by simp; omega, ?_, .inr (by simp; omega)⟩
  rw [List.length_append, List.length_singleton, show mk.length + 1 - mk0.length = (mk.length - mk0.length) + 1 by omega, List.replicate_succ', ← List.append_assoc, ← h2]
theorem fills_end {mk0 mk : List Nat} {r : Nat} (h : Fills mk0 mk r) (hr : r + 1 ≤ mk.length) : mk = mk0 ++ List.replicate (r + 1 - mk0.length) 0 := by
  obtain ⟨h1, h2, h3⟩ := h
  rcases h3 with h3 | h3
  · rw [h3, Nat.sub_self] at h2; rw [show r + 1 - mk0.length = 0 by omega]; exact h2
  · rw [show r + 1 = mk.length by omega]; exact h2
theorem fills_lt {mk0 mk : List Nat} {r : Nat} (h : Fills mk0 mk r) (h0 : ∀ y ∈ mk0, y < 256) : ∀ y ∈ mk, y < 256 := by
  intro y hy
  rw [h.2.1] at hy
  rcases List.mem_append.1 hy with h | h
  · exact h0 y h
  · have := (List.mem_replicate.1 h).2; omega
theorem getD_lt {l : List Nat} (h : ∀ y ∈ l, y < 256) (i : Nat) : l.getD i 0 < 256 := by
  rw [List.getD_eq_getElem?_getD]
  cases e : l[i]? with
  | none => decide
  | some y => exact h y (List.mem_of_getElem? e)
theorem end_ok {D mk : List Nat} {b x i : Nat} (hb : b ≤ 255) (hmk : mk.length ≤ 32) (hD : ∀ y ∈ D, y < 256) (hm : ∀ y ∈ mk, y < 256) (hx : x < 256) : (⟨D, b, mk.set i x⟩ : SetS).Ok := by
  refine ⟨by show (-1 : Int) ≤ b; omega, by show (b : Int) ≤ 255; omega, by show (mk.set i x).length ≤ 32; rw [List.length_set]; exact hmk, ?_, fun h => absurd (show (b : Int) < 0 from h) (by omega)⟩
  rw [bytes_pos]
  intro y hy
  rw [List.length_set] at hy
  rcases List.mem_append.1 hy with h | h
  · exact hD y h
  · rcases List.mem_cons.1 h with h | h
    · omega
    · rcases List.mem_cons.1 h with h | h
      · omega
      · rcases List.mem_or_eq_of_mem_set h with h | h
        · exact hm y h
        · omega
theorem end_row {w : World} {base ee N N1 g c b x : Nat} {D mk : List Nat} (h : w.ownsRow base ee 1 (.slice (some ⟨g, 0, none⟩) N1 c) N1 (byts (D ++ b :: mk.length :: mk))) (hN : N1 = D.length + 2 + mk.length) (hN1 : N1 = N + 1) (hm : 1 ≤ mk.length) :
    (w.drew.setCell ⟨g, N, none⟩ (.int .u8 (x : Int))).ownsRow base ee 1 (.slice (some ⟨g, 0, none⟩) N1 c) (⟨D, b, mk.set (mk.length - 1) x⟩ : SetS).bytes.length (byts (⟨D, b, mk.set (mk.length - 1) x⟩ : SetS).bytes) := by
  have e : (⟨D, b, mk.set (mk.length - 1) x⟩ : SetS).bytes = (D ++ b :: mk.length :: mk).set N x := by
    rw [bytes_pos, List.length_set, List.set_append_right _ _ (by omega), show N - D.length = (mk.length - 1) + 2 by omega]
    rfl
  have hl : (⟨D, b, mk.set (mk.length - 1) x⟩ : SetS).bytes.length = N1 := by rw [e, List.length_set]; simp; omega
  rw [hl, e, byts_set]
  have hd : w.drew.ownsRow base ee 1 (.slice (some ⟨g, 0, none⟩) N1 c) N1 (byts (D ++ b :: mk.length :: mk)) := h
  exact (hd.stored N (.int .u8 (x : Int))).1

end Go.Proofs.YthabenjghhmicaaGreat

namespace Go.Proofs.YthabenjghhmicaaGreat
set_option linter.unusedVariables false
open Go.Proofs.YthabenjghhmicaaGreat.Nm

theorem bts_tail (l : List Nat) (k : Nat) (hk : k ≤ l.length) : (bts l).extract k (bts l).size = bts (l.drop k) := by
  conv => lhs; rw [← List.take_append_drop k l, bts_append]
  have : (bts (l.take k)).size = k := by rw [bts_size, List.length_take]; omega
  rw [ByteArray.extract_append_eq_right (by omega) (by rw [ByteArray.size_append])]
theorem bts_mid (A B C : List Nat) : (bts (A ++ B ++ C)).extract A.length (A.length + B.length) = bts B := by
  have hA : (bts A).size = A.length := bts_size _
  have hB : (bts B).size = B.length := bts_size _
  rw [bts_append, bts_append]
  rw [ByteArray.append_assoc, ByteArray.extract_append, hA, show A.length - A.length = 0 by omega, show A.length + B.length - A.length = B.length by omega]
  have e1 : (bts A).extract A.length (A.length + B.length) = .empty := by
    apply ByteArray.ext; simp [← hA]
  rw [e1, ByteArray.empty_append]
  rw [ByteArray.extract_append, hB, show 0 - B.length = 0 by omega, show B.length - B.length = 0 by omega]
  have e2 : (bts C).extract 0 0 = .empty := by apply ByteArray.ext; simp
  rw [e2, ByteArray.append_empty, ← hB, ByteArray.extract_zero_size]

/-- a block is read, whatever follows -/
theorem blk_parse (last : Int) (b : Nat) (mk tail : List Nat) (hl : last < (b : Int)) (h1 : 1 ≤ mk.length) (h32 : mk.length ≤ 32) (hz : mk.getD (mk.length - 1) 0 ≠ 0) (hb : b < 256) (hm : ∀ x ∈ mk, x < 256) (ht : ∀ x ∈ tail, x < 256) :
    typS last (bts (b :: mk.length :: mk ++ tail)) = (typS (b : Int) (bts tail)).map (blkT b (bts mk) (8 * mk.length) ++ ·) := by
  have hall : ∀ x ∈ b :: mk.length :: mk ++ tail, x < 256 := by
    intro x hx
    simp only [List.cons_append, List.mem_cons, List.mem_append] at hx
    rcases hx with h | h | h | h
    · omega
    · omega
    · exact hm x h
    · exact ht x h
  have hlen : (b :: mk.length :: mk ++ tail).length = 2 + mk.length + tail.length := by simp; omega
  have ez : (bts (b :: mk.length :: mk ++ tail)).size = 2 + mk.length + tail.length := by rw [bts_size, hlen]
  have e0 : bt (bts (b :: mk.length :: mk ++ tail)) 0 = b := by rw [bts_bt _ hall 0 (by omega)]; rfl
  have e1 : bt (bts (b :: mk.length :: mk ++ tail)) 1 = mk.length := by rw [bts_bt _ hall 1 (by omega)]; rfl
  have e2 : bt (bts (b :: mk.length :: mk ++ tail)) (1 + mk.length) = mk.getD (mk.length - 1) 0 := by
    rw [bts_bt _ hall _ (by omega)]
    have : (b :: mk.length :: mk ++ tail)[1 + mk.length]? = some (mk.getD (mk.length - 1) 0) := by
      rw [show 1 + mk.length = (mk.length - 1) + 2 by omega]
      simp only [List.cons_append, List.getElem?_cons_succ]
      rw [List.getElem?_append_left (by omega), List.getD_eq_getElem?_getD, List.getElem?_eq_getElem (by omega)]; rfl
    rw [List.getElem?_eq_getElem (by omega)] at this
    simpa using this
  have x1 : (bts (b :: mk.length :: mk ++ tail)).extract 2 (2 + mk.length) = bts mk := bts_mid [b, mk.length] mk tail
  have x2 : (bts (b :: mk.length :: mk ++ tail)).extract (2 + mk.length) (bts (b :: mk.length :: mk ++ tail)).size = bts tail := by
    rw [bts_tail _ _ (by omega)]
    congr 1
    rw [show 2 + mk.length = mk.length + 2 by omega]
    simp
  rw [typS_step (by omega), e0, e1, e2, x1, x2, if_neg (by omega), if_neg (by omega), if_neg (by omega), if_neg hz]

/-- bit i of a block's bytes -/
def bitL (mk : List Nat) (i : Nat) : Nat := mk.getD (i / 8) 0 / 2 ^ (7 - i % 8) % 2
theorem mem_blkT {b : Nat} {s : ByteArray} {x : Nat} : ∀ {k : Nat}, x ∈ blkT b s k ↔ ∃ i, i < k ∧ x = b * 256 + i ∧ bitAt s i = 1
  | 0 => ⟨fun h => (by cases h), fun ⟨i, h, _⟩ => by omega⟩
  | k + 1 => by
    simp only [blkT]
    split
    · rename_i hb
      rw [List.mem_append, mem_blkT (k := k), List.mem_singleton]
      constructor
      · rintro (⟨i, h1, h2, h3⟩ | h)
        · exact ⟨i, by omega, h2, h3⟩
        · exact ⟨k, by omega, h, hb⟩
      · rintro ⟨i, h1, h2, h3⟩
        by_cases h : i = k
        · subst h; exact .inr h2
        · exact .inl ⟨i, by omega, h2, h3⟩
    · rename_i hb
      rw [mem_blkT (k := k)]
      constructor
      · rintro ⟨i, h1, h2, h3⟩; exact ⟨i, by omega, h2, h3⟩
      · rintro ⟨i, h1, h2, h3⟩
        by_cases h : i = k
        · subst h; exact absurd h3 hb
        · exact ⟨i, by omega, h2, h3⟩
theorem rise_blkT {b : Nat} {s : ByteArray} : ∀ {k : Nat}, (blkT b s k).Pairwise (· < ·)
  | 0 => List.Pairwise.nil
  | k + 1 => by
    simp only [blkT]
    split
    · rw [List.pairwise_append]
      refine ⟨rise_blkT, List.pairwise_singleton _ _, fun x hx y hy => ?_⟩
      obtain ⟨i, h1, h2, _⟩ := mem_blkT.1 hx
      rw [List.mem_singleton] at hy
      omega
    · exact rise_blkT
theorem bitAt_bts {mk : List Nat} (hm : ∀ x ∈ mk, x < 256) {i : Nat} (hi : i < 8 * mk.length) : bitAt (bts mk) i = bitL mk i := by
  unfold bitAt bitL
  rw [bts_bt _ hm _ (by omega), List.getD_eq_getElem?_getD, List.getElem?_eq_getElem (by omega)]; rfl
theorem bitL_out {mk : List Nat} {i : Nat} (hi : 8 * mk.length ≤ i) : bitL mk i = 0 := by
  unfold bitL
  rw [List.getD_eq_getElem?_getD, List.getElem?_eq_none (by omega)]; simp
theorem mem_block {b : Nat} {mk : List Nat} (hm : ∀ x ∈ mk, x < 256) (h32 : mk.length ≤ 32) {x : Nat} : x ∈ blkT b (bts mk) (8 * mk.length) ↔ x / 256 = b ∧ bitL mk (x % 256) = 1 := by
  rw [mem_blkT]
  constructor
  · rintro ⟨i, h1, h2, h3⟩
    rw [bitAt_bts hm h1] at h3
    rw [show x % 256 = i by omega]
    exact ⟨by omega, h3⟩
  · rintro ⟨h1, h2⟩
    have hi : x % 256 < 8 * mk.length := by
      rcases Nat.lt_or_ge (x % 256) (8 * mk.length) with h | h
      · exact h
      · rw [bitL_out h] at h2; omega
    exact ⟨x % 256, hi, by omega, by rw [bitAt_bts hm hi]; exact h2⟩

theorem or_bit (a p q : Nat) : (a ||| 2 ^ p) / 2 ^ q % 2 = 1 ↔ a / 2 ^ q % 2 = 1 ∨ p = q := by
  have h1 : ∀ x : Nat, (x / 2 ^ q % 2 = 1) ↔ x.testBit q = true := fun x => by rw [Nat.testBit_eq_decide_div_mod_eq]; simp
  rw [h1, h1, Nat.testBit_or, Nat.testBit_two_pow]
  simp
/-- a bit is set behind the bytes so far -/
theorem bit_mark (mk : List Nat) (n i : Nat) (hl : mk.length ≤ n % 256 / 8 + 1) (hi : i < 256) :
    let mk1 := mk ++ List.replicate (n % 256 / 8 + 1 - mk.length) 0
    bitL (mk1.set (mk1.length - 1) (mk1.getD (mk1.length - 1) 0 ||| 2 ^ (7 - n % 8))) i = 1 ↔ bitL mk i = 1 ∨ i = n % 256 := by
  intro mk1
  have hl1 : mk1.length = n % 256 / 8 + 1 := by simp only [mk1, List.length_append, List.length_replicate]; omega
  have hg : ∀ j, mk1.getD j 0 = mk.getD j 0 := fun j => by
    simp only [mk1, List.getD_eq_getElem?_getD]
    by_cases h : j < mk.length
    · rw [List.getElem?_append_left h]
    · rw [List.getElem?_append_right (by omega), List.getElem?_eq_none (l := mk) (by omega), List.getElem?_replicate]
      split <;> rfl
  unfold bitL
  by_cases h : i / 8 = n % 256 / 8
  · have e : (mk1.set (mk1.length - 1) (mk1.getD (mk1.length - 1) 0 ||| 2 ^ (7 - n % 8))).getD (i / 8) 0 = mk.getD (i / 8) 0 ||| 2 ^ (7 - n % 8) := by
      rw [List.getD_eq_getElem?_getD, show i / 8 = mk1.length - 1 by omega, List.getElem?_set_self (by omega), hg]; rfl
    rw [e, or_bit]
    constructor
    · rintro (h' | h')
      · exact .inl h'
      · exact .inr (by omega)
    · rintro (h' | h')
      · exact .inl h'
      · exact .inr (by omega)
  · have e : (mk1.set (mk1.length - 1) (mk1.getD (mk1.length - 1) 0 ||| 2 ^ (7 - n % 8))).getD (i / 8) 0 = mk.getD (i / 8) 0 := by
      rw [List.getD_eq_getElem?_getD, List.getElem?_set_ne (by omega), ← List.getD_eq_getElem?_getD, hg]
    rw [e]
    constructor
    · exact .inl
    · rintro (h' | h')
      · exact h'
      · omega
end Go.Proofs.YthabenjghhmicaaGreat

namespace Go.Proofs.YthabenjghhmicaaGreat
set_option linter.unusedVariables false
open Go.RowKit Go.Shelf Go.Proofs.YthabenjghhmicaaGreat.Nm

/-- a set's types rise -/
theorem typF_rise : ∀ (f : Nat) (last : Int) (s : ByteArray) (l : List Nat), -1 ≤ last → typF f last s = some l → l.Pairwise (· < ·) ∧ ∀ x ∈ l, (last + 1) * 256 ≤ (x : Int)
  | 0, last, s, l, _, h => by
    unfold typF at h; split at h
    · simp at h; subst h; exact ⟨.nil, fun x hx => by cases hx⟩
    · cases h
  | f + 1, last, s, l, hl, h => by
    unfold typF at h
    split at h
    · simp at h; subst h; exact ⟨.nil, fun x hx => by cases hx⟩
    split at h
    · cases h
    split at h
    · cases h
    rename_i h3
    split at h
    · cases h
    split at h
    · cases h
    cases e : typF f (bt s 0) (s.extract (2 + bt s 1) s.size) with
    | none => rw [e] at h; cases h
    | some q =>
      rw [e] at h
      simp at h
      subst h
      obtain ⟨h5, h6⟩ := typF_rise f _ _ q (by omega) e
      have hb : ∀ x ∈ blkT (bt s 0) (s.extract 2 (2 + bt s 1)) (8 * bt s 1), bt s 0 * 256 ≤ x ∧ x < bt s 0 * 256 + 256 := fun x hx => by
        obtain ⟨i, hi, rfl, _⟩ := mem_blkT.1 hx
        omega
      refine ⟨List.pairwise_append.2 ⟨rise_blkT, h5, fun a ha b hb' => ?_⟩, fun x hx => ?_⟩
      · have h7 := hb a ha
        have h8 := h6 b hb'
        omega
      · rcases List.mem_append.1 hx with h7 | h7
        · have h8 := hb x h7; omega
        · have h8 := h6 x h7; omega
theorem zero_head {s : ByteArray} {l : List Nat} (h : typS (-1) s = some l) (h0 : 0 ∈ l) : l.head? = some 0 := by
  have h1 := (typF_rise _ _ _ _ (by omega) h).1
  cases l with
  | nil => cases h0
  | cons x l =>
    rcases List.mem_cons.1 h0 with rfl | h2
    · rfl
    · exact absurd ((List.pairwise_cons.1 h1).1 0 h2) (by omega)
theorem head_zero {l : List Nat} (h : l.head? = some 0) : 0 ∈ l := by
  cases l with
  | nil => cases h
  | cons x l => simp at h; subst h; exact List.mem_cons_self ..
theorem bitsL_bit (d : ByteArray) : ∀ (n k : Nat), k < 8 * n → (bitsL 8 (lst d n))[k]? = some (bitAt d k)
  | 0, k, h => by omega
  | n + 1, k, h => by
    have hl : (bitsL 8 (lst d n)).length = 8 * n := by rw [bitsL_len, lst_len]
    rw [lst_succ, bitsL_snoc]
    by_cases hk : k < 8 * n
    · rw [List.getElem?_append_left (by omega)]; exact bitsL_bit d n k hk
    · rw [List.getElem?_append_right (by omega), hl, bitsW_get 8 _ _ (by omega)]
      unfold bitAt
      rw [show k / 8 = n by omega, show 8 - 1 - (k - 8 * n) = 7 - k % 8 by omega]
end Go.Proofs.YthabenjghhmicaaGreat

namespace Go.Proofs.YthabenjghhmicaaGreat
set_option linter.unusedVariables false
open Go.RowKit Go.Shelf Go.Proofs.YthabenjghhmicaaGreat.Nm

/-- where a row lies behind an append: where it lay, or at a new place -/
theorem run_append_place {P : Program} (w : World) (base : Nat) (t ty e : TypeId) (i : TypeInfo) (z : Value) (size bytes : Nat) (ht : P.underlying t = some (.slice e)) (hi : P.info? e = some i) (hz : i.zero = some z)
    (hsize : i.size = size) (hby : i.bytes = bytes) (hzs : z.cells.size = size) (hsz : 0 < size)
    (v : Value) (n : Nat) (xs : List Value) (hown : w.ownsRow base e size v n xs)
    (a : Addr) (m c : Nat) (news : List Value) (hl : news.length = m * size) (hnews : ∀ j u, news[j]? = some u → w.cell? (a.add j) = some u) (h1 : ∀ u ∈ news, u.oneCell' = true)
    (h63 : n + m ≤ maxLen) (hbytes : (n + m) * bytes ≤ 140737488355328) (hbase : base ≤ w.heap.size) :
    ∃ v' w', (Builtin.append_ #[t, t] ty #[v, .slice (some a) m c]).run P w = .ok v' w' ∧ w'.ownsRow base e size v' (n + m) (xs ++ news) ∧ w.grownBy w' v.ownBlock ∧
      (v'.ownBlock = v.ownBlock ∨ v'.ownBlock = some w.heap.size) := by
  obtain ⟨v', w', hr, h2, h3, h4⟩ := run_append_own (P := P) w base t ty e i z size bytes ht hi hz hsize hby hzs hsz v n xs hown a m c news hl hnews h1 h63 hbytes hbase
  refine ⟨v', w', hr, h2, h3, ?_⟩
  subst hsize
  subst hby
  have hsmall : n + m ≤ 9223372036854775807 := by simp only [maxLen] at h63; omega
  rcases hown.2 with ⟨rfl, rfl⟩ | ⟨g, cap, cur, rfl, hbg, hg, hnc, hcm, hcs, htake⟩
  · by_cases hm : m = 0
    · rw [h4.2 ⟨rfl, hm⟩]; exact .inl rfl
    · rw [run_append_nil (P := P) w t ty e i z ht hi hz a m c news hl hnews (by omega) (by omega) (by have hb := hbytes; simp only [Nat.zero_add] at hb; omega)] at hr
      injection hr with hr1 hr2
      rw [← hr1]; exact .inr rfl
  · by_cases hroom : n + m ≤ cap
    · rw [run_append_room (P := P) w t ty e i ht hi g n cap cur hg a m c news hl hnews h1 hroom (by rw [hl, hcs, ← Nat.add_mul]; exact Nat.mul_le_mul_right _ hroom)] at hr
      injection hr with hr1 hr2
      rw [← hr1]; exact .inl rfl
    · rw [run_append_grow (P := P) w t ty e i z ht hi hz ⟨g, 0, none⟩ n cap xs hown.1 (hown.cells (g := g) rfl) a m c news hl hnews (by omega) (by omega) (growslice_fits (by omega) hbytes)] at hr
      injection hr with hr1 hr2
      rw [← hr1]; exact .inr rfl
/-- .. for the walk -/
theorem wpList_append_apart {P : Program} (w : World) {ops : Array Oper} {rest : List Oper} {o : Oper} {a : Act} {Q : Exit → Act → World → Prop} (hgd : o.guard = none) (s x : Operand) (t : TypeId)
    (ho : o.op = .call { callee := .builtin .append, args := #[s, x], argTypes := #[t, t] })
    (base : Nat) (e : TypeId) (i : TypeInfo) (z : Value) (size bytes : Nat) (ht : P.underlying t = some (.slice e)) (hi : P.info? e = some i) (hz : i.zero = some z)
    (hsize : i.size = size) (hby : i.bytes = bytes) (hzs : z.cells.size = size) (hsz : 0 < size)
    (v : Value) (n : Nat) (xs : List Value) (hs : a.eval s = v) (hown : w.ownsRow base e size v n xs)
    (ad : Addr) (m c : Nat) (news : List Value) (hx : a.eval x = .slice (some ad) m c) (hl : news.length = m * size) (hnews : ∀ j u, news[j]? = some u → w.cell? (ad.add j) = some u) (h1 : ∀ u ∈ news, u.oneCell' = true)
    (h63 : n + m ≤ maxLen) (hbytes : (n + m) * bytes ≤ 140737488355328) (hbase : base ≤ w.heap.size)
    (h : ∀ v' w', w'.ownsRow base e size v' (n + m) (xs ++ news) → w.grownBy w' v.ownBlock → (v'.ownBlock = v.ownBlock ∨ v'.ownBlock = some w.heap.size) → wpList P ops Q rest (a.put o.dst v') w') : wpList P ops Q (o :: rest) a w := by
  obtain ⟨v', w', hr, h2, h3, h4⟩ := run_append_place (P := P) w base t o.type e i z size bytes ht hi hz hsize hby hzs hsz v n xs hown ad m c news hl hnews h1 h63 hbytes hbase
  exact Go.Lib.wpList_append_run_sl w hgd s x t ho v _ hs hx hr (h v' w' h2 h3 h4)
end Go.Proofs.YthabenjghhmicaaGreat

namespace Go.Proofs.YthabenjghhmicaaGreat
set_option linter.unusedVariables false
open Go.RowKit Go.Shelf Go.Proofs.YthabenjghhmicaaGreat.Nm

/-- a kind's letter in the reference's form -/
def letter : Kind → UInt8
  | 0 => 97 | 1 => 54 | 2 => 110 | n + 13 => (if n = 1 then 49 else if n = 2 then 50 else 52) | 3 => 116 | 4 => 84 | 5 => 104
  | 6 => 98 | 7 => 115 | 8 => 72 | 9 => 75 | 10 => 107 | 11 => 114 | 12 => 45
/-- a type's form -/
def formB (t : Int) : ByteArray := match kindsOf t with | none => ⟨#[]⟩ | some ks => ⟨(ks.map letter).toArray⟩

set_option maxRecDepth 100000 in
set_option maxHeartbeats 4000000 in
/-- gazetteerref1.Form -/
theorem form_any (t : Int) (w : World) :
    Calls Tryz.prog 101 #[.int .i64 t] w fun e w' => e = .returned (.string (formB t)) ∧ w' = w := by
  by_cases h1 : t = 1
  · subst h1
    have HE : Hid (formB 1 = ⟨#[97]⟩) := rfl
    go_enter Tryz.func101, Tryz.ntmps101
    go_wp2
    go_ret
    exact ⟨by rw [HE.out]; rfl, rfl⟩
  by_cases h2 : t = 2
  · subst h2
    have HE : Hid (formB 2 = ⟨#[110]⟩) := rfl
    go_enter Tryz.func101, Tryz.ntmps101
    go_wp2
    go_ret
    exact ⟨by rw [HE.out]; rfl, rfl⟩
  by_cases h5 : t = 5
  · subst h5
    have HE : Hid (formB 5 = ⟨#[110]⟩) := rfl
    go_enter Tryz.func101, Tryz.ntmps101
    go_wp2
    go_ret
    exact ⟨by rw [HE.out]; rfl, rfl⟩
  by_cases h12 : t = 12
  · subst h12
    have HE : Hid (formB 12 = ⟨#[110]⟩) := rfl
    go_enter Tryz.func101, Tryz.ntmps101
    go_wp2
    go_ret
    exact ⟨by rw [HE.out]; rfl, rfl⟩
  by_cases h39 : t = 39
  · subst h39
    have HE : Hid (formB 39 = ⟨#[110]⟩) := rfl
    go_enter Tryz.func101, Tryz.ntmps101
    go_wp2
    go_ret
    exact ⟨by rw [HE.out]; rfl, rfl⟩
  by_cases h6 : t = 6
  · subst h6
    have HE : Hid (formB 6 = ⟨#[110, 110, 52, 52, 52, 52, 52]⟩) := rfl
    go_enter Tryz.func101, Tryz.ntmps101
    go_wp2
    go_ret
    exact ⟨by rw [HE.out]; rfl, rfl⟩
  by_cases h13 : t = 13
  · subst h13
    have HE : Hid (formB 13 = ⟨#[116, 116]⟩) := rfl
    go_enter Tryz.func101, Tryz.ntmps101
    go_wp2
    go_ret
    exact ⟨by rw [HE.out]; rfl, rfl⟩
  by_cases h15 : t = 15
  · subst h15
    have HE : Hid (formB 15 = ⟨#[50, 110]⟩) := rfl
    go_enter Tryz.func101, Tryz.ntmps101
    go_wp2
    go_ret
    exact ⟨by rw [HE.out]; rfl, rfl⟩
  by_cases h16 : t = 16
  · subst h16
    have HE : Hid (formB 16 = ⟨#[84]⟩) := rfl
    go_enter Tryz.func101, Tryz.ntmps101
    go_wp2
    go_ret
    exact ⟨by rw [HE.out]; rfl, rfl⟩
  by_cases h28 : t = 28
  · subst h28
    have HE : Hid (formB 28 = ⟨#[54]⟩) := rfl
    go_enter Tryz.func101, Tryz.ntmps101
    go_wp2
    go_ret
    exact ⟨by rw [HE.out]; rfl, rfl⟩
  by_cases h33 : t = 33
  · subst h33
    have HE : Hid (formB 33 = ⟨#[50, 50, 50, 110]⟩) := rfl
    go_enter Tryz.func101, Tryz.ntmps101
    go_wp2
    go_ret
    exact ⟨by rw [HE.out]; rfl, rfl⟩
  by_cases h35 : t = 35
  · subst h35
    have HE : Hid (formB 35 = ⟨#[50, 50, 116, 116, 116, 110]⟩) := rfl
    go_enter Tryz.func101, Tryz.ntmps101
    go_wp2
    go_ret
    exact ⟨by rw [HE.out]; rfl, rfl⟩
  by_cases h43 : t = 43
  · subst h43
    have HE : Hid (formB 43 = ⟨#[50, 49, 49, 104]⟩) := rfl
    go_enter Tryz.func101, Tryz.ntmps101
    go_wp2
    go_ret
    exact ⟨by rw [HE.out]; rfl, rfl⟩
  by_cases h46 : t = 46
  · subst h46
    have HE : Hid (formB 46 = ⟨#[107, 49, 49, 52, 52, 52, 50, 110, 98]⟩) := rfl
    go_enter Tryz.func101, Tryz.ntmps101
    go_wp2
    go_ret
    exact ⟨by rw [HE.out]; rfl, rfl⟩
  by_cases h47 : t = 47
  · subst h47
    have HE : Hid (formB 47 = ⟨#[110, 75]⟩) := rfl
    go_enter Tryz.func101, Tryz.ntmps101
    go_wp2
    go_ret
    exact ⟨by rw [HE.out]; rfl, rfl⟩
  by_cases h48 : t = 48
  · subst h48
    have HE : Hid (formB 48 = ⟨#[50, 49, 49, 98]⟩) := rfl
    go_enter Tryz.func101, Tryz.ntmps101
    go_wp2
    go_ret
    exact ⟨by rw [HE.out]; rfl, rfl⟩
  by_cases h50 : t = 50
  · subst h50
    have HE : Hid (formB 50 = ⟨#[49, 49, 50, 115, 72, 75]⟩) := rfl
    go_enter Tryz.func101, Tryz.ntmps101
    go_wp2
    go_ret
    exact ⟨by rw [HE.out]; rfl, rfl⟩
  by_cases h51 : t = 51
  · subst h51
    have HE : Hid (formB 51 = ⟨#[49, 49, 50, 115]⟩) := rfl
    go_enter Tryz.func101, Tryz.ntmps101
    go_wp2
    go_ret
    exact ⟨by rw [HE.out]; rfl, rfl⟩
  by_cases h257 : t = 257
  · subst h257
    have HE : Hid (formB 257 = ⟨#[49, 116, 114]⟩) := rfl
    go_enter Tryz.func101, Tryz.ntmps101
    go_wp2
    go_ret
    exact ⟨by rw [HE.out]; rfl, rfl⟩
  have HK : Hid (formB t = if isDT t = true then ⟨#[45]⟩ else ⟨#[]⟩) := by
    unfold Hid formB kindsOf
    simp only [h1, h2, h5, h12, h39, h6, h13, h15, h16, h28, h33, h35, h43, h46, h47, h48, h50, h51, h257, or_self, if_false]
    cases isDT t <;> rfl
  rcases (show (t < 1) ∨ (1 ≤ t ∧ 65535 < t) ∨ (t = 41) ∨ (1 ≤ t ∧ t ≤ 65535 ∧ t ≠ 41 ∧ t < 128) ∨ (1 ≤ t ∧ t ≤ 65535 ∧ t ≠ 41 ∧ 128 ≤ t ∧ t ≤ 255) ∨ (1 ≤ t ∧ t ≤ 65535 ∧ t ≠ 41 ∧ 128 ≤ t ∧ 255 < t) by omega) with h | ⟨h, h'⟩ | h | ⟨h, h', h'', h3⟩ | ⟨h, h', h'', h3, h4⟩ | ⟨h, h', h'', h3, h4⟩
  · have HE : Hid (formB t = ⟨#[]⟩) := by unfold Hid; rw [HK.out, if_neg]; unfold isDT isTy; simp; omega
    clear HK
    go_enter Tryz.func101, Tryz.ntmps101
    go_wp2
    go_ret
    exact ⟨by rw [HE.out]; rfl, rfl⟩
  · have HE : Hid (formB t = ⟨#[]⟩) := by unfold Hid; rw [HK.out, if_neg]; unfold isDT isTy; simp; omega
    clear HK
    go_enter Tryz.func101, Tryz.ntmps101
    go_wp2
    go_ret
    exact ⟨by rw [HE.out]; rfl, rfl⟩
  · subst h
    have HE : Hid (formB 41 = ⟨#[]⟩) := rfl
    clear HK
    go_enter Tryz.func101, Tryz.ntmps101
    go_wp2
    go_ret
    exact ⟨by rw [HE.out]; rfl, rfl⟩
  · have HE : Hid (formB t = ⟨#[45]⟩) := by unfold Hid; rw [HK.out, if_pos]; unfold isDT isTy; simp; omega
    have h41 : (t == 41) = false := by rw [beq_eq_false_iff_ne]; omega
    clear HK
    go_enter Tryz.func101, Tryz.ntmps101
    go_wp2
    go_ret
    exact ⟨by rw [HE.out]; rfl, rfl⟩
  · have HE : Hid (formB t = ⟨#[]⟩) := by unfold Hid; rw [HK.out, if_neg]; unfold isDT isTy; simp; omega
    have h41 : (t == 41) = false := by rw [beq_eq_false_iff_ne]; omega
    clear HK
    go_enter Tryz.func101, Tryz.ntmps101
    go_wp2
    go_ret
    exact ⟨by rw [HE.out]; rfl, rfl⟩
  · have HE : Hid (formB t = ⟨#[45]⟩) := by unfold Hid; rw [HK.out, if_pos]; unfold isDT isTy; simp; omega
    have h41 : (t == 41) = false := by rw [beq_eq_false_iff_ne]; omega
    clear HK
    go_enter Tryz.func101, Tryz.ntmps101
    go_wp2
    go_ret
    exact ⟨by rw [HE.out]; rfl, rfl⟩
end Go.Proofs.YthabenjghhmicaaGreat

namespace Go.Proofs.YthabenjghhmicaaGreat
set_option linter.unusedVariables false
open Go.RowKit Go.Shelf Go.Proofs.YthabenjghhmicaaGreat.Nm

/-- what the reference says of a set -/
def rtEnd (w : World) (r : Option (List Nat)) (e : Ending) (w' : World) : Prop := match r with
  | some l => ∃ v, e = .returned (.tuple #[v, .int .i64 0]) ∧ w'.ownsRow w.heap.size 3 1 v l.length (nums l)
  | none => e = .returned (.tuple #[.slice none 0 0, .int .i64 7])

set_option maxRecDepth 100000 in
set_option maxHeartbeats 2000000 in
/-- gazetteerref1.Types -/
theorem refTypes_any (s : ByteArray) (w : World) (hs : s.size ≤ 1048576) :
    Calls Tryz.prog 133 #[.string s] w fun e w' => rtEnd w (typB s) e w' ∧ Below w.heap.size w w' := by
  obtain ⟨i0, hi, hz0, hz1, hz2⟩ := info_parts Tryz.infoInt
  go_enter Tryz.func133, Tryz.ntmps133
  go_wp2_with fail
  go_loopw [0, 4, 5] (fun sv lv av wr => ∃ (r : ByteArray) (L : List Nat) (last : Int), sv = .string r ∧ av = .int .i64 last ∧ -1 ≤ last ∧ last ≤ 255 ∧ r.size ≤ s.size ∧ L.length + 8 * r.size ≤ 8 * s.size ∧ Hid (∀ x ∈ L, x ≤ 65535) ∧ Hid (typS (-1) s = (typS last r).map (L ++ ·)) ∧ wr.ownsRow w.heap.size 3 1 lv L.length (nums L) ∧ Below w.heap.size w wr) (fun sv _ _ _ => ssz sv)
  case atStart => exact ⟨s, [], -1, rfl, rfl, by omega, by omega, Nat.le_refl _, by simp, (fun x hx => by cases hx), by simp [Hid], World.ownsRow_nil _ _ _ _, Below.refl _ _⟩
  case round =>
    obtain ⟨r, L, last, rfl, rfl, hl1, hl2, hrs, hLn, HX, HT, hown, hBr⟩ := hrel
    by_cases h0 : r.size = 0
    · have he := isEmpty_true h0
      have HT2 : Hid (typS (-1) s = some L) := by unfold Hid; rw [HT.out, typS_nil h0]; simp
      obtain ⟨p, c, rfl, hpc, hc9, hsh⟩ := owns_shape hown
      clear HT h0
      go_wp2_with fail
      go_loop [78] (fun iv => ∃ i : Nat, iv = .int .i64 i ∧ i ≤ L.length ∧ Hid (∀ j, (hj : j < L.length) → j < i → L[j] ≠ 0)) (fun iv => L.length - (intOf iv).toNat)
      case atStart => exact ⟨0, rfl, Nat.zero_le _, fun j hj h => absurd h (Nat.not_lt_zero _)⟩
      case round =>
        obtain ⟨i, rfl, hi2, HZ⟩ := hrel
        by_cases hlt : i < L.length
        · obtain ⟨g, rfl, hg1, hg2⟩ : ∃ g, p = some ⟨g, 0, none⟩ ∧ w.heap.size ≤ g ∧ g < wr.heap.size := by
            rcases hsh with ⟨_, h⟩ | h
            · omega
            · exact h
          have hcell : wr.cell? ⟨g, i, none⟩ = some (.int .i64 ((L[i] : Nat) : Int)) := by
            rw [hown.cellAt i (by omega)]; simp [nums, hlt]
          have hx := HX.out L[i] (List.getElem_mem hlt)
          by_cases hx0 : L[i] = 0
          · have HB : Hid (typB s = none) := typB_zero HT2.out (zero_head HT2.out (by rw [← hx0]; exact List.getElem_mem hlt))
            rw [hx0] at hcell
            clear hx hx0 hsh
            go_wp2
            go_ret2
            exact ⟨by rw [HB.out]; rfl, hBr⟩
          · have HZ2 : Hid (∀ j, (hj : j < L.length) → j < i + 1 → L[j] ≠ 0) := by
              intro j hj h
              by_cases e : j = i
              · subst e; exact hx0
              · exact HZ.out j hj (by omega)
            clear hsh
            generalize L[i] = x at *
            go_wp2
            go_round
            case rel => exact ⟨i + 1, by go_num, hlt, HZ2⟩
            case measure => simp [intOf]; omega
        · have HB : Hid (typB s = some L) := typB_some HT2.out (fun h => by
            have h0 := head_zero h
            obtain ⟨j, hj, e⟩ := List.mem_iff_getElem.1 h0
            exact HZ.out j hj (by omega) e)
          clear hsh HZ
          go_wp2
          go_ret2
          exact ⟨by rw [HB.out]; exact ⟨_, rfl, hown⟩, hBr⟩
    · have he := isEmpty_false (r := r) (by omega)
      have HS := typS_step (last := last) h0
      have HNO : Hid (typS last r = none → typB s = none) := fun h => typB_none (by rw [HT.out, h]; rfl)
      have hr1 : r.size ≤ 1048576 := by omega
      clear h0
      by_cases h2 : r.size < 2
      · have HB : Hid (typB s = none) := HNO.out (by rw [HS, if_pos h2])
        clear HS HT
        go_wp2
        go_ret2
        exact ⟨by rw [HB.out]; rfl, hBr⟩
      · rw [if_neg h2] at HS
        have hr2 : 2 ≤ r.size := by omega
        obtain ⟨b, hyb, HYb, hbl⟩ := bt_wrap (s := r) (i := 0) (by omega)
        obtain ⟨n, hyn, HYn, hnl⟩ := bt_wrap (s := r) (i := 1) (by omega)
        rw [HYb, HYn] at HS
        go_wp2_with fail
        go_quiet (fail)
        obtain ⟨wq, hwq⟩ : ∃ wq, wr.drewN nq = wq := ⟨_, rfl⟩
        have hownq : wq.ownsRow w.heap.size 3 1 u4 L.length (nums L) := hwq ▸ hown
        have hBq : Below w.heap.size w wq := hwq ▸ below_drewN hBr nq
        rw [hwq]
        clear hwq hown hBr hyb hyn
        by_cases hc1 : (b : Int) ≤ last ∨ n < 1 ∨ 32 < n
        · have HB : Hid (typB s = none) := HNO.out (by rw [HS, if_pos hc1])
          clear HS HT
          rcases (show (b : Int) ≤ last ∨ (last < (b : Int) ∧ n < 1) ∨ (last < (b : Int) ∧ 1 ≤ n ∧ 32 < n) by omega) with h | ⟨h, h'⟩ | ⟨h, h', h''⟩
          all_goals
            go_wp2
            go_ret2
            exact ⟨by rw [HB.out]; rfl, hBq⟩
        · rw [if_neg hc1] at HS
          have hc1a : last < (b : Int) := by omega
          have hc1b : 1 ≤ n := by omega
          have hc1c : n ≤ 32 := by omega
          clear hc1
          by_cases hc2 : r.size < 2 + n
          · have HB : Hid (typB s = none) := HNO.out (by rw [HS, if_pos hc2])
            clear HS HT
            go_wp2
            go_ret2
            exact ⟨by rw [HB.out]; rfl, hBq⟩
          · rw [if_neg hc2] at HS
            have hc2' : 2 + n ≤ r.size := by omega
            have hq : 1 + n < r.size := by omega
            obtain ⟨y, hy, HY, hyl⟩ := bt_wrap hq
            rw [HY] at HS
            by_cases hc3 : y = 0
            · subst hc3
              have HB : Hid (typB s = none) := HNO.out (by rw [HS, if_pos rfl])
              clear HS HT HY
              go_wp2
              go_ret2
              exact ⟨by rw [HB.out]; rfl, hBq⟩
            · rw [if_neg hc3] at HS
              have hy0 : ((y : Int) == 0) = false := by rw [beq_eq_false_iff_ne]; omega
              have hxz : (r.extract 2 (2 + n)).size = n := by rw [size_extract' _ _ _ hc2']; omega
              have hrz : (r.extract (2 + n) r.size).size = r.size - (2 + n) := size_extract' _ _ _ (Nat.le_refl _)
              have HBT := hide' (fun w => bits_any (r.extract 2 (2 + n)) w (by rw [hxz]; omega))
              rw [hxz] at HBT
              obtain ⟨bl, hbl2⟩ : ∃ bl, bitsL 8 (lst (r.extract 2 (2 + n)) n) = bl := ⟨_, rfl⟩
              have HBL : Hid (bl.length = 8 * n) := by unfold Hid; rw [← hbl2, bitsL_len, lst_len]
              have HBG : Hid (∀ k, k < 8 * n → bl[k]? = some (bitAt (r.extract 2 (2 + n)) k)) := fun k hk => by rw [← hbl2]; exact bitsL_bit _ n k hk
              rw [hbl2] at HBT
              have HXB : Hid (∀ x ∈ L ++ blkT b (r.extract 2 (2 + n)) (8 * n), x ≤ 65535) := fun x hx => by
                rcases List.mem_append.1 hx with h | h
                · exact HX.out x h
                · exact blkT_le (by omega) (by omega) x h
              have HT2 : Hid (typS (-1) s = (typS (b : Int) (r.extract (2 + n) r.size)).map ((L ++ blkT b (r.extract 2 (2 + n)) (8 * n)) ++ ·)) := by
                unfold Hid; rw [HT.out, HS, Option.map_map]; congr 1; funext q; simp
              clear HS HT HY hbl2 hc3 HX HNO
              go_wp2_with (first
                | (go_at_call 139; refine (HBT.out _).mono ?_; rintro e w2 ⟨v2, rfl, hownb, hB2⟩; rw [HBL.out] at hownb; obtain ⟨pA, cA, rfl, hbc, hbc9, hbsh⟩ := owns_shape hownb; obtain ⟨gb, rfl, hgb1, hgb2⟩ : ∃ g, pA = some ⟨g, 0, none⟩ ∧ wq.heap.size ≤ g ∧ g < w2.heap.size := hbsh.resolve_left (fun h => absurd h.2 (by omega)))
                | fail)
              clear hbsh
              have hne : u4.ownBlock ≠ some gb := fun e => by have := (hownq.lt gb e).2; omega
              have hown2 := ownsRow_below hownq hB2
              have hBw2 : Below w.heap.size w w2 := bstep hBq hB2 hBq.size
              obtain ⟨wo, rfl⟩ : ∃ wo, wo = wr := ⟨_, rfl⟩
              clear hownq hBq
              go_loopw [4, 55] (fun ov kv wr => ∃ k : Nat, kv = .int .i64 k ∧ k ≤ 8 * n ∧ wr.ownsRow w.heap.size 3 1 ov (L ++ blkT b (r.extract 2 (2 + n)) k).length (nums (L ++ blkT b (r.extract 2 (2 + n)) k)) ∧ wr.ownsRow wq.heap.size 3 1 (.slice (some ⟨gb, 0, none⟩) (8 * n) cA) (8 * n) (nums bl) ∧ ov.ownBlock ≠ some gb ∧ gb < wr.heap.size ∧ Below w.heap.size w wr) (fun _ kv _ => 8 * n - (intOf kv).toNat)
              case atStart => exact ⟨0, rfl, Nat.zero_le _, by simpa [blkT] using hown2, hownb, hne, hgb2, hBw2⟩
              case round =>
                clear hown2 hownb hne hgb2 hBw2
                obtain ⟨k, rfl, hk8, hown2, hownb, hne, hgb2, hBw2⟩ := hrel
                by_cases hlt : k < 8 * n
                · obtain ⟨hkl, hkb⟩ := List.getElem?_eq_some_iff.1 (HBG.out k hlt)
                  have hcell : wr.cell? ⟨gb, k, none⟩ = some (.int .i64 ((bitAt (r.extract 2 (2 + n)) k : Nat) : Int)) := by
                    rw [hownb.cellAt k (by omega)]; simp [nums, hkl, hkb]
                  have hll : (L ++ blkT b (r.extract 2 (2 + n)) k).length ≤ 8 * s.size + k := by
                    have := blkT_len b (r.extract 2 (2 + n)) k
                    rw [List.length_append]; omega
                  have hb2 : bitAt (r.extract 2 (2 + n)) k = 0 ∨ bitAt (r.extract 2 (2 + n)) k = 1 := by unfold bitAt; omega
                  rcases hb2 with hb0 | hb1
                  · have HE : Hid (blkT b (r.extract 2 (2 + n)) (k + 1) = blkT b (r.extract 2 (2 + n)) k) := by
                      unfold Hid; conv => lhs; unfold blkT
                      rw [if_neg (by omega)]
                    rw [hb0] at hcell
                    clear hb0 hkb hll
                    go_wp2
                    refine ⟨⟨k + 1, by go_num, hlt, ?_, hownb, hne, hgb2, hBw2⟩, by simp [intOf]; omega⟩
                    rw [HE.out]; exact hown2
                  · have HE : Hid (nums (L ++ blkT b (r.extract 2 (2 + n)) (k + 1)) = nums (L ++ blkT b (r.extract 2 (2 + n)) k) ++ [.int .i64 ((b : Int) * 256 + k)] ∧ (L ++ blkT b (r.extract 2 (2 + n)) (k + 1)).length = (L ++ blkT b (r.extract 2 (2 + n)) k).length + 1) := by
                      unfold Hid
                      have e : blkT b (r.extract 2 (2 + n)) (k + 1) = blkT b (r.extract 2 (2 + n)) k ++ [b * 256 + k] := by
                        conv => lhs; unfold blkT
                        rw [if_pos hb1]
                      rw [e]; simp [nums]; omega
                    rw [hb1] at hcell
                    clear hb1 hkb
                    obtain ⟨M, hM⟩ : ∃ M, L ++ blkT b (r.extract 2 (2 + n)) k = M := ⟨_, rfl⟩
                    rw [hM] at hown2 hll HE
                    clear hM
                    go_wp2_with (at_builtin; refine wpList_append_apart _ rfl _ _ 61 rfl w.heap.size 3 i0 (.int .i64 0) 1 8 Tryz.underlying61 hi hz0 hz1 hz2 rfl (by decide) _ _ _ rfl (hown2.alloc _) ⟨wr.heap.size, 0, none⟩ 1 1 [.int .i64 _] rfl rfl (cell_one_new _ _ _) (by simp [Value.oneCell']) (by unfold maxLen; omega) (by omega) (by have := hBw2.size; simp; omega) ?_; intro v4 w4 hown4 hgrow4 hpl4)
                    refine ⟨⟨k + 1, by go_num, hlt, ?_, (hownb.alloc _).kept hgrow4 (.inr (fun e => hne e.symm)), ?_, ?_, below_app hBw2 (Nat.le_refl _) hown2 hgrow4⟩, by simp [intOf]; omega⟩
                    · rw [HE.out.1, HE.out.2]; exact hown4
                    · rcases hpl4 with e | e
                      · rw [e]; exact hne
                      · rw [e]; simp; omega
                    · have := hgrow4.size; simp at this; omega
                · obtain rfl : k = 8 * n := by omega
                  clear HBG HBL hownb
                  obtain ⟨M, hM⟩ : ∃ M, L ++ blkT b (r.extract 2 (2 + n)) (8 * n) = M := ⟨_, rfl⟩
                  have hMl : M.length ≤ L.length + 8 * n := by rw [← hM, List.length_append]; have := blkT_len b (r.extract 2 (2 + n)) (8 * n); omega
                  rw [hM] at hown2 HXB HT2
                  clear hM
                  go_wp2
                  refine ⟨⟨r.extract (2 + n) r.size, M, b, rfl, rfl, by omega, by omega, by omega, by omega, HXB, HT2, hown2, hBw2⟩, ?_⟩
                  show (r.extract (2 + n) r.size).size < r.size
                  omega
end Go.Proofs.YthabenjghhmicaaGreat
