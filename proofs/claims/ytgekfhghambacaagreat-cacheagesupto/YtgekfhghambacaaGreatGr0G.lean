import Derived.Shelf.RegionOpen
import Derived.WalkKit
import Derived.WalkSpells
import Derived.WalkLawsBesides
import Derived.OwnWalkIn
import Derived.BigQuiet
import Derived.Deep.QuietTactic
import Derived.RangeFuncBox
import Derived.Lib.SlBytesRow
import Derived.Test.YtgekfhghambacaaGreatRows
import Derived.Test.YtgekfhghambacaaGreatMath13G
import Derived.Laws.BitsAll
import Derived.Test.YtgekfhghambacaaGreatWkG
/-
  Boxes in memory. (The verifier's own text.)
-/
namespace Go.Proofs.YtgekfhghambacaaGreat
set_option linter.unusedVariables false
open Go.RowKit Go.Shelf

theorem grown_set (w : World) (g j : Nat) (u : Value) : w.grownBy (w.setCell ⟨g, j, none⟩ u) (some g) :=
  ⟨rfl, rfl, rfl, by simp [World.setCell], fun b hb hne => Below.heap_setCell _ _ _ b (by show b ≠ g; exact fun e => hne (by rw [e]))⟩
theorem grown_refl (w : World) (r : Option Nat) : w.grownBy w r := ⟨rfl, rfl, rfl, Nat.le_refl _, fun _ _ _ => rfl⟩
theorem grown_below {w w' : World} (h : Below w.heap.size w w') (r : Option Nat) : w.grownBy w' r := ⟨h.os, h.tape, h.output, h.size, fun k hk _ => h.block k hk⟩
theorem grown_trans {a b c : World} {r : Option Nat} (h : a.grownBy b r) (k : b.grownBy c r) : a.grownBy c r :=
  ⟨k.os.trans h.os, k.tape.trans h.tape, k.output.trans h.output, Nat.le_trans h.size k.size, fun j hj hne => (k.block j (Nat.lt_of_lt_of_le hj h.size) hne).trans (h.block j hj hne)⟩
theorem set_size (w : World) (a : Addr) (v : Value) : (w.setCell a v).heap.size = w.heap.size := by simp [World.setCell]

/-- a box in memory -/
def Bx (w : World) (R : Nat) (cs : Array Value) (T : TypeId) : Prop := w.heap[R]? = some (.cells cs T (0, 0))
section
variable {w w' : World} {R : Nat} {cs : Array Value} {T : TypeId}
theorem Bx.lt (h : Bx w R cs T) : R < w.heap.size := (Array.getElem?_eq_some_iff.1 h).1
theorem Bx.cell (h : Bx w R cs T) {j : Nat} {v : Value} (hj : cs[j]? = some v) : w.cell? ⟨R, j, none⟩ = some v := by unfold Bx at h; simp [World.cell?, h, hj]
theorem Bx.free (h : Bx w R cs T) (j : Nat) : w.frozen? ⟨R, j, none⟩ = false := by unfold Bx at h; simp [World.frozen?, h]
theorem Bx.set (h : Bx w R cs T) (j : Nat) (u : Value) : Bx (w.setCell ⟨R, j, none⟩ u) R (cs.setIfInBounds j u) T := by
  unfold Bx at *
  simp [World.setCell, Array.getElem?_modify, h]
theorem Bx.grown {r : Option Nat} (h : Bx w R cs T) (hg : w.grownBy w' r) (hne : r ≠ some R) : Bx w' R cs T := (hg.block R h.lt (fun e => hne e.symm)).trans h
theorem Bx.below {n : Nat} (h : Bx w R cs T) (hb : Below n w w') (hn : R < n) : Bx w' R cs T := (hb.block R hn).trans h
end
theorem bx3 {w : World} {R : Nat} {T : TypeId} {a b c : Value} (h : Bx w R #[a, b, c] T) : w.cell? ⟨R, 0, none⟩ = some a ∧ w.cell? ⟨R, 1, none⟩ = some b ∧ w.cell? ⟨R, 2, none⟩ = some c ∧ w.frozen? ⟨R, 0, none⟩ = false ∧ w.frozen? ⟨R, 1, none⟩ = false ∧ w.frozen? ⟨R, 2, none⟩ = false :=
  ⟨h.cell rfl, h.cell rfl, h.cell rfl, h.free 0, h.free 1, h.free 2⟩
theorem bx3_set {w : World} {R : Nat} {T : TypeId} {a b c : Value} (h : Bx w R #[a, b, c] T) (x y z : Value) : Bx (((w.setCell ⟨R, 0, none⟩ x).setCell ⟨R, 1, none⟩ y).setCell ⟨R, 2, none⟩ z) R #[x, y, z] T := ((h.set 0 x).set 1 y).set 2 z
theorem grown_far1 {w w' : World} {r : Option Nat} (h : w.grownBy w' r) {R : Nat} (hR : w.heap.size ≤ R) (j : Nat) (u : Value) : w.grownBy (w'.setCell ⟨R, j, none⟩ u) r :=
  ⟨h.os, h.tape, h.output, by rw [set_size]; exact h.size, fun b hb hne => (Below.heap_setCell _ _ _ b (by show b ≠ R; omega)).trans (h.block b hb hne)⟩
theorem own_shape {w : World} {base e size : Nat} {v : Value} {n : Nat} {xs : List Value} (h : w.ownsRow base e size v n xs) : ∃ p c, v = .slice p n c ∧ n ≤ c ∧ c ≤ maxLen ∧ (p = none → c = 0) := by
  obtain ⟨hl, (⟨rfl, rfl⟩ | ⟨g, cap, cur, rfl, hb, hg, hn, hcap, hsz, ht⟩)⟩ := h
  · exact ⟨none, 0, rfl, Nat.le_refl _, Nat.zero_le _, fun _ => rfl⟩
  · exact ⟨_, cap, rfl, hn, hcap, fun e => by cases e⟩
end Go.Proofs.YtgekfhghambacaaGreat

namespace Go.Proofs.YtgekfhghambacaaGreat
set_option linter.unusedVariables false
open Go.Proofs.YtgekfhghambacaaGreat.Nm

theorem i64_or_nat (a b : Nat) (ha : a < 4294967296) (hb : b < 4294967296) : bits .or .i64 (a : Int) (b : Int) = ((a ||| b : Nat) : Int) := by
  have hx : a ||| b < 2 ^ 32 := Nat.or_lt_two_pow (by omega) (by omega)
  show IntKind.i64.wrap ((BitVec.ofInt 64 (a : Int) ||| BitVec.ofInt 64 (b : Int)).toNat : Int) = _
  rw [BitVec.toNat_or, ofInt_u64 a (by omega), ofInt_u64 b (by omega)]
  simp [IntKind.wrap, IntKind.bits, IntKind.signed]
  omega
theorem i64_and_nat (a b : Nat) (ha : a < 4294967296) (hb : b < 4294967296) : bits .and .i64 (a : Int) (b : Int) = ((a &&& b : Nat) : Int) := by
  have hx : a &&& b < 2 ^ 32 := Nat.and_lt_two_pow _ (by omega)
  show IntKind.i64.wrap ((BitVec.ofInt 64 (a : Int) &&& BitVec.ofInt 64 (b : Int)).toNat : Int) = _
  rw [BitVec.toNat_and, ofInt_u64 a (by omega), ofInt_u64 b (by omega)]
  simp [IntKind.wrap, IntKind.bits, IntKind.signed]
  omega
/-- 'x << i | y' -/
theorem or_shl (i x y : Nat) (hx : x * 2 ^ i < 4294967296) (hy : y < 2 ^ i) (h : y < 4294967296) : bits .or .i64 ((x * 2 ^ i : Nat) : Int) (y : Int) = ((x * 2 ^ i + y : Nat) : Int) := by
  rw [i64_or_nat _ _ hx h, nat_join i _ _ (by simp) hy]
/-- 'x & (1 << i - 1)' -/
theorem and_mask (i x : Nat) (hx : x < 4294967296) (hi : 2 ^ i ≤ 4294967296) : bits .and .i64 (x : Int) ((2 ^ i - 1 : Nat) : Int) = ((x % 2 ^ i : Nat) : Int) := by
  have : 0 < 2 ^ i := Nat.two_pow_pos i
  rw [i64_and_nat _ _ hx (by omega), Nat.and_two_pow_sub_one_eq_mod]
theorem shr_split (H L n : Nat) (h : L < 2 ^ n) : ((H * 2 ^ n + L : Nat) : Int) / 2 ^ n = ((H : Nat) : Int) := by
  have h1 : ((H * 2 ^ n + L : Nat) : Int) / ((2 ^ n : Nat) : Int) = (((H * 2 ^ n + L) / 2 ^ n : Nat) : Int) := by simp
  have h2 : (H * 2 ^ n + L) / 2 ^ n = H := by
    rw [Nat.mul_comm, Nat.mul_add_div (Nat.two_pow_pos n), Nat.div_eq_of_lt h]; omega
  rw [h2] at h1
  rw [← h1]; simp
theorem and_split (H L n : Nat) (h : L < 2 ^ n) (hn : 2 ^ n ≤ 4096) (hv : H < 4096) : bits .and .i64 ((H * 2 ^ n + L : Nat) : Int) ((2 : Int) ^ n - 1) = ((L : Nat) : Int) := by
  have hb : H * 2 ^ n ≤ 4096 * 4096 := Nat.mul_le_mul (by omega) hn
  have := and_mask n (H * 2 ^ n + L) (by omega) (by omega)
  have e : ((2 ^ n - 1 : Nat) : Int) = (2 : Int) ^ n - 1 := by
    have hp : 0 < 2 ^ n := Nat.two_pow_pos n
    rw [Int.ofNat_sub (by omega)]; simp
  rw [e] at this
  rw [this]
  congr 1
  rw [Nat.mul_comm, Nat.mul_add_mod, Nat.mod_eq_of_lt h]
end Go.Proofs.YtgekfhghambacaaGreat

namespace Go.Proofs.YtgekfhghambacaaGreat
set_option linter.unusedVariables false
open Go.RowKit Go.Shelf Go.Proofs.YtgekfhghambacaaGreat.Nm

set_option maxRecDepth 100000 in
set_option maxHeartbeats 1000000 in
/-- spell.Small, of longer texts -/
theorem small_big (s : ByteArray) (w : World) (hs : s.size ≤ 4194304) :
    Calls Tryz.prog 57 #[.string s] w fun e w' => e = .returned (.string (lowB s)) ∧ Below w.heap.size w w' := by
  have hcv := fun w' => run_bytes_of_string (P := Tryz.prog) w' 9 125 5 s Tryz.underlying9 Tryz.underlying125 Tryz.underlying5
  go_enter Tryz.func57, Tryz.ntmps57
  go_wp2
  go_loopw [10] (fun i wr => ∃ k : Nat, i = .int .i64 k ∧ k ≤ s.size ∧ HoldsB wr w.heap.size s.size (fun j => if j < k then lowN (bt s j) else bt s j) ∧ Below w.heap.size w wr)
    (fun i _ => s.size - (intOf i).toNat)
  case atStart => exact ⟨0, rfl, Nat.zero_le _, ((holdsB_new _ _ _ _).drew).congr (by simp), ((Below.refl _ _).alloc (Nat.le_refl _) _).drew⟩
  case round =>
    obtain ⟨k, rfl, hk, hH, hBr⟩ := hrel
    by_cases hlt : k < s.size
    · have hc := hH.cell k hlt
      have hfr := hH.free k hlt
      simp only [Nat.lt_irrefl, if_false] at hc
      obtain ⟨x, hx, hx256⟩ : ∃ x, bt s k = x ∧ x < 256 := ⟨_, rfl, bt_lt _ _⟩
      rw [hx] at hc
      have HX : Hid (bt s k = x) := hx
      clear hx
      have hnext : ∀ (W : World) (y : Nat), y = lowN x → HoldsB W w.heap.size s.size (fun j => if j = k then y else if j < k then lowN (bt s j) else bt s j) → HoldsB W w.heap.size s.size (fun j => if j < k + 1 then lowN (bt s j) else bt s j) := by
        intro W y hy h
        refine h.congr fun j _ => ?_
        by_cases e : j = k
        · subst e; rw [if_pos rfl, if_pos (by omega), hy, HX.out]
        · rw [if_neg e]
          by_cases e2 : j < k
          · rw [if_pos e2, if_pos (by omega)]
          · rw [if_neg e2, if_neg (by omega)]
      have hstay : ∀ (W : World), lowN x = x → HoldsB W w.heap.size s.size (fun j => if j < k then lowN (bt s j) else bt s j) → HoldsB W w.heap.size s.size (fun j => if j < k + 1 then lowN (bt s j) else bt s j) := by
        intro W hy h
        refine h.congr fun j _ => ?_
        by_cases e : j = k
        · subst e; rw [if_neg (by omega), if_pos (by omega), HX.out, hy]
        · by_cases e2 : j < k
          · rw [if_pos e2, if_pos (by omega)]
          · rw [if_neg e2, if_neg (by omega)]
      have HNX := hide' hnext
      have HST := hide' hstay
      clear hnext hstay
      by_cases h65 : 65 ≤ x
      · by_cases h90 : x ≤ 90
        · go_wp2
          go_roundw
          case rel => exact ⟨k + 1, by go_num, hlt, HNX.out _ (x + 32) (by unfold lowN; rw [if_pos ⟨h65, h90⟩]) (hH.set k (x + 32) hlt), hBr.setCell (p := ⟨w.heap.size, k, none⟩) (Nat.le_refl _) _⟩
          case measure => simp [intOf]; omega
        · have h90' : 90 < x := by omega
          go_wp2
          go_roundw
          case rel => exact ⟨k + 1, by go_num, hlt, HST.out _ (by unfold lowN; rw [if_neg (by omega)]) hH, hBr⟩
          case measure => simp [intOf]; omega
      · have h65' : x < 65 := by omega
        go_wp2
        go_roundw
        case rel => exact ⟨k + 1, by go_num, hlt, HST.out _ (by unfold lowN; rw [if_neg (by omega)]) hH, hBr⟩
        case measure => simp [intOf]; omega
    · have hst : ∀ cap, (convert 125 9 (.slice (some ⟨w.heap.size, 0, none⟩) s.size cap)).run Tryz.prog wr = .ok (.string (lowB s)) wr := fun cap => by
        have hz := lowB_size s
        rw [← hz] at hH ⊢
        exact hH.str (fun j hj => by rw [if_pos (by omega), lowB_bt]) cap
      go_wp2
      go_ret
      exact ⟨rfl, hBr⟩
end Go.Proofs.YtgekfhghambacaaGreat

/-
  Boxes in memory, beside names. (The verifier's own text.)
-/
