import Derived.Test.YtinnmfidnecncaaWu9
import Derived.Test.YtinnmfidnecncaaMo1G

namespace Go.Proofs.Ytinnmfidnecncaa
set_option linter.unusedVariables false
open Go.RowKit Go.Shelf Go.Proofs.Ytinnmfidnecncaa.Nm

/-- the head's bytes, as an array -/
def h12 (B : ByteArray) : Array Value := #[.int .u8 (bt B 0 : Nat), .int .u8 (bt B 1 : Nat), .int .u8 (bt B 2 : Nat), .int .u8 (bt B 3 : Nat), .int .u8 (bt B 4 : Nat), .int .u8 (bt B 5 : Nat), .int .u8 (bt B 6 : Nat), .int .u8 (bt B 7 : Nat), .int .u8 (bt B 8 : Nat), .int .u8 (bt B 9 : Nat), .int .u8 (bt B 10 : Nat), .int .u8 (bt B 11 : Nat)]
theorem h12_get (B : ByteArray) : ∀ i, i < 12 → (h12 B)[i]? = some (.int .u8 (bt B i : Nat)) := by
  intro i hi
  match i, hi with
  | 0, _ => rfl
  | 1, _ => rfl
  | 2, _ => rfl
  | 3, _ => rfl
  | 4, _ => rfl
  | 5, _ => rfl
  | 6, _ => rfl
  | 7, _ => rfl
  | 8, _ => rfl
  | 9, _ => rfl
  | 10, _ => rfl
  | 11, _ => rfl
  | n + 12, h => omega
theorem h12_bytes {w : World} {R : Nat} {T : TypeId} {B : ByteArray} (h : Bx w R (h12 B) T) (hB : 12 ≤ B.size) : Lib.Bytes w R 0 (B.extract 0 12) := by
  intro i hi
  have hz : (B.extract 0 12).size = 12 := by simp [ByteArray.size_extract]; omega
  have := h.cell (h12_get B i (by omega))
  rw [Nat.zero_add, this, bt_eq hi, bt_ext (by omega) hB, Nat.zero_add]
theorem be_head {B : ByteArray} (hB : 12 ≤ B.size) {k n : Nat} (h : k + n ≤ 12) : be (B.extract 0 12) k n = be B k n := by rw [be_ext hB n (by omega), Nat.zero_add]
/-- a sign of the head -/
def sg (v bit : Nat) : Bool := decide (v / 2 ^ bit % 2 = 1)

theorem and1 (v bit : Nat) (hv : v < 65536) : (bits .and .i64 (((v / 2 ^ bit : Nat)) : Int) 1 != 0) = sg v bit := by
  have h1 := and_mask 1 (v / 2 ^ bit) (by have := Nat.div_le_self v (2 ^ bit); omega) (by omega)
  have h2 : bits .and .i64 ((v / 2 ^ bit : Nat) : Int) 1 = ((v / 2 ^ bit % 2 : Nat) : Int) := by simpa using h1
  rw [h2]
  unfold sg
  rw [Bool.eq_iff_iff, bne_iff_ne, decide_eq_true_iff]
  have := Nat.mod_lt (v / 2 ^ bit) (show 0 < 2 by omega)
  omega
theorem and15 (x : Nat) (hx : x < 65536) : bits .and .i64 (x : Int) 15 = ((x % 16 : Nat) : Int) := by
  have h1 := and_mask 4 x (by omega) (by omega)
  simpa using h1
/-- a message's head under way: the first j signs are set -/
def mk7 (id op rc v j : Nat) : Array Value := #[.int .i64 (id : Int), .bool (decide (0 < j) && sg v 15), .int .i64 (op : Int), .bool (decide (1 < j) && sg v 10), .bool (decide (2 < j) && sg v 9), .bool (decide (3 < j) && sg v 8), .bool (decide (4 < j) && sg v 7), .bool (decide (5 < j) && sg v 5), .bool (decide (6 < j) && sg v 4), .int .i64 (rc : Int), .slice none 0 0, .slice none 0 0, .slice none 0 0, .slice none 0 0]

/-- fourteen cells of a box are set -/
def set14 (w : World) (R : Nat) (a0 a1 a2 a3 a4 a5 a6 a7 a8 a9 a10 a11 a12 a13 : Value) : World := ((((((((((((((w.setCell ⟨R, 0, none⟩ a0).setCell ⟨R, 1, none⟩ a1).setCell ⟨R, 2, none⟩ a2).setCell ⟨R, 3, none⟩ a3).setCell ⟨R, 4, none⟩ a4).setCell ⟨R, 5, none⟩ a5).setCell ⟨R, 6, none⟩ a6).setCell ⟨R, 7, none⟩ a7).setCell ⟨R, 8, none⟩ a8).setCell ⟨R, 9, none⟩ a9).setCell ⟨R, 10, none⟩ a10).setCell ⟨R, 11, none⟩ a11).setCell ⟨R, 12, none⟩ a12).setCell ⟨R, 13, none⟩ a13)
theorem bx14_set {w : World} {R : Nat} {T : TypeId} {b0 b1 b2 b3 b4 b5 b6 b7 b8 b9 b10 b11 b12 b13 : Value} (h : Bx w R #[b0, b1, b2, b3, b4, b5, b6, b7, b8, b9, b10, b11, b12, b13] T) (a0 a1 a2 a3 a4 a5 a6 a7 a8 a9 a10 a11 a12 a13 : Value) : Bx (set14 w R a0 a1 a2 a3 a4 a5 a6 a7 a8 a9 a10 a11 a12 a13) R #[a0, a1, a2, a3, a4, a5, a6, a7, a8, a9, a10, a11, a12, a13] T := by
  have h0 : Bx (w.setCell ⟨R, 0, none⟩ a0) R #[a0, b1, b2, b3, b4, b5, b6, b7, b8, b9, b10, b11, b12, b13] T := h.set 0 a0
  have h1 : Bx ((w.setCell ⟨R, 0, none⟩ a0).setCell ⟨R, 1, none⟩ a1) R #[a0, a1, b2, b3, b4, b5, b6, b7, b8, b9, b10, b11, b12, b13] T := h0.set 1 a1
  have h2 : Bx (((w.setCell ⟨R, 0, none⟩ a0).setCell ⟨R, 1, none⟩ a1).setCell ⟨R, 2, none⟩ a2) R #[a0, a1, a2, b3, b4, b5, b6, b7, b8, b9, b10, b11, b12, b13] T := h1.set 2 a2
  have h3 : Bx ((((w.setCell ⟨R, 0, none⟩ a0).setCell ⟨R, 1, none⟩ a1).setCell ⟨R, 2, none⟩ a2).setCell ⟨R, 3, none⟩ a3) R #[a0, a1, a2, a3, b4, b5, b6, b7, b8, b9, b10, b11, b12, b13] T := h2.set 3 a3
  have h4 : Bx (((((w.setCell ⟨R, 0, none⟩ a0).setCell ⟨R, 1, none⟩ a1).setCell ⟨R, 2, none⟩ a2).setCell ⟨R, 3, none⟩ a3).setCell ⟨R, 4, none⟩ a4) R #[a0, a1, a2, a3, a4, b5, b6, b7, b8, b9, b10, b11, b12, b13] T := h3.set 4 a4
  have h5 : Bx ((((((w.setCell ⟨R, 0, none⟩ a0).setCell ⟨R, 1, none⟩ a1).setCell ⟨R, 2, none⟩ a2).setCell ⟨R, 3, none⟩ a3).setCell ⟨R, 4, none⟩ a4).setCell ⟨R, 5, none⟩ a5) R #[a0, a1, a2, a3, a4, a5, b6, b7, b8, b9, b10, b11, b12, b13] T := h4.set 5 a5
  have h6 : Bx (((((((w.setCell ⟨R, 0, none⟩ a0).setCell ⟨R, 1, none⟩ a1).setCell ⟨R, 2, none⟩ a2).setCell ⟨R, 3, none⟩ a3).setCell ⟨R, 4, none⟩ a4).setCell ⟨R, 5, none⟩ a5).setCell ⟨R, 6, none⟩ a6) R #[a0, a1, a2, a3, a4, a5, a6, b7, b8, b9, b10, b11, b12, b13] T := h5.set 6 a6
  have h7 : Bx ((((((((w.setCell ⟨R, 0, none⟩ a0).setCell ⟨R, 1, none⟩ a1).setCell ⟨R, 2, none⟩ a2).setCell ⟨R, 3, none⟩ a3).setCell ⟨R, 4, none⟩ a4).setCell ⟨R, 5, none⟩ a5).setCell ⟨R, 6, none⟩ a6).setCell ⟨R, 7, none⟩ a7) R #[a0, a1, a2, a3, a4, a5, a6, a7, b8, b9, b10, b11, b12, b13] T := h6.set 7 a7
  have h8 : Bx (((((((((w.setCell ⟨R, 0, none⟩ a0).setCell ⟨R, 1, none⟩ a1).setCell ⟨R, 2, none⟩ a2).setCell ⟨R, 3, none⟩ a3).setCell ⟨R, 4, none⟩ a4).setCell ⟨R, 5, none⟩ a5).setCell ⟨R, 6, none⟩ a6).setCell ⟨R, 7, none⟩ a7).setCell ⟨R, 8, none⟩ a8) R #[a0, a1, a2, a3, a4, a5, a6, a7, a8, b9, b10, b11, b12, b13] T := h7.set 8 a8
  have h9 : Bx ((((((((((w.setCell ⟨R, 0, none⟩ a0).setCell ⟨R, 1, none⟩ a1).setCell ⟨R, 2, none⟩ a2).setCell ⟨R, 3, none⟩ a3).setCell ⟨R, 4, none⟩ a4).setCell ⟨R, 5, none⟩ a5).setCell ⟨R, 6, none⟩ a6).setCell ⟨R, 7, none⟩ a7).setCell ⟨R, 8, none⟩ a8).setCell ⟨R, 9, none⟩ a9) R #[a0, a1, a2, a3, a4, a5, a6, a7, a8, a9, b10, b11, b12, b13] T := h8.set 9 a9
  have h10 : Bx (((((((((((w.setCell ⟨R, 0, none⟩ a0).setCell ⟨R, 1, none⟩ a1).setCell ⟨R, 2, none⟩ a2).setCell ⟨R, 3, none⟩ a3).setCell ⟨R, 4, none⟩ a4).setCell ⟨R, 5, none⟩ a5).setCell ⟨R, 6, none⟩ a6).setCell ⟨R, 7, none⟩ a7).setCell ⟨R, 8, none⟩ a8).setCell ⟨R, 9, none⟩ a9).setCell ⟨R, 10, none⟩ a10) R #[a0, a1, a2, a3, a4, a5, a6, a7, a8, a9, a10, b11, b12, b13] T := h9.set 10 a10
  have h11 : Bx ((((((((((((w.setCell ⟨R, 0, none⟩ a0).setCell ⟨R, 1, none⟩ a1).setCell ⟨R, 2, none⟩ a2).setCell ⟨R, 3, none⟩ a3).setCell ⟨R, 4, none⟩ a4).setCell ⟨R, 5, none⟩ a5).setCell ⟨R, 6, none⟩ a6).setCell ⟨R, 7, none⟩ a7).setCell ⟨R, 8, none⟩ a8).setCell ⟨R, 9, none⟩ a9).setCell ⟨R, 10, none⟩ a10).setCell ⟨R, 11, none⟩ a11) R #[a0, a1, a2, a3, a4, a5, a6, a7, a8, a9, a10, a11, b12, b13] T := h10.set 11 a11
  have h12 : Bx (((((((((((((w.setCell ⟨R, 0, none⟩ a0).setCell ⟨R, 1, none⟩ a1).setCell ⟨R, 2, none⟩ a2).setCell ⟨R, 3, none⟩ a3).setCell ⟨R, 4, none⟩ a4).setCell ⟨R, 5, none⟩ a5).setCell ⟨R, 6, none⟩ a6).setCell ⟨R, 7, none⟩ a7).setCell ⟨R, 8, none⟩ a8).setCell ⟨R, 9, none⟩ a9).setCell ⟨R, 10, none⟩ a10).setCell ⟨R, 11, none⟩ a11).setCell ⟨R, 12, none⟩ a12) R #[a0, a1, a2, a3, a4, a5, a6, a7, a8, a9, a10, a11, a12, b13] T := h11.set 12 a12
  have h13 : Bx ((((((((((((((w.setCell ⟨R, 0, none⟩ a0).setCell ⟨R, 1, none⟩ a1).setCell ⟨R, 2, none⟩ a2).setCell ⟨R, 3, none⟩ a3).setCell ⟨R, 4, none⟩ a4).setCell ⟨R, 5, none⟩ a5).setCell ⟨R, 6, none⟩ a6).setCell ⟨R, 7, none⟩ a7).setCell ⟨R, 8, none⟩ a8).setCell ⟨R, 9, none⟩ a9).setCell ⟨R, 10, none⟩ a10).setCell ⟨R, 11, none⟩ a11).setCell ⟨R, 12, none⟩ a12).setCell ⟨R, 13, none⟩ a13) R #[a0, a1, a2, a3, a4, a5, a6, a7, a8, a9, a10, a11, a12, a13] T := h12.set 13 a13
  exact h13
theorem bx14 {w : World} {R : Nat} {T : TypeId} {b0 b1 b2 b3 b4 b5 b6 b7 b8 b9 b10 b11 b12 b13 : Value} (h : Bx w R #[b0, b1, b2, b3, b4, b5, b6, b7, b8, b9, b10, b11, b12, b13] T) : w.cell? ⟨R, 0, none⟩ = some b0 ∧ w.cell? ⟨R, 1, none⟩ = some b1 ∧ w.cell? ⟨R, 2, none⟩ = some b2 ∧ w.cell? ⟨R, 3, none⟩ = some b3 ∧ w.cell? ⟨R, 4, none⟩ = some b4 ∧ w.cell? ⟨R, 5, none⟩ = some b5 ∧ w.cell? ⟨R, 6, none⟩ = some b6 ∧ w.cell? ⟨R, 7, none⟩ = some b7 ∧ w.cell? ⟨R, 8, none⟩ = some b8 ∧ w.cell? ⟨R, 9, none⟩ = some b9 ∧ w.cell? ⟨R, 10, none⟩ = some b10 ∧ w.cell? ⟨R, 11, none⟩ = some b11 ∧ w.cell? ⟨R, 12, none⟩ = some b12 ∧ w.cell? ⟨R, 13, none⟩ = some b13 :=
  ⟨h.cell rfl, h.cell rfl, h.cell rfl, h.cell rfl, h.cell rfl, h.cell rfl, h.cell rfl, h.cell rfl, h.cell rfl, h.cell rfl, h.cell rfl, h.cell rfl, h.cell rfl, h.cell rfl⟩
theorem bx14_free {w : World} {R : Nat} {T : TypeId} {b0 b1 b2 b3 b4 b5 b6 b7 b8 b9 b10 b11 b12 b13 : Value} (h : Bx w R #[b0, b1, b2, b3, b4, b5, b6, b7, b8, b9, b10, b11, b12, b13] T) : w.frozen? ⟨R, 0, none⟩ = false ∧ w.frozen? ⟨R, 1, none⟩ = false ∧ w.frozen? ⟨R, 2, none⟩ = false ∧ w.frozen? ⟨R, 3, none⟩ = false ∧ w.frozen? ⟨R, 4, none⟩ = false ∧ w.frozen? ⟨R, 5, none⟩ = false ∧ w.frozen? ⟨R, 6, none⟩ = false ∧ w.frozen? ⟨R, 7, none⟩ = false ∧ w.frozen? ⟨R, 8, none⟩ = false ∧ w.frozen? ⟨R, 9, none⟩ = false ∧ w.frozen? ⟨R, 10, none⟩ = false ∧ w.frozen? ⟨R, 11, none⟩ = false ∧ w.frozen? ⟨R, 12, none⟩ = false ∧ w.frozen? ⟨R, 13, none⟩ = false :=
  ⟨h.free 0, h.free 1, h.free 2, h.free 3, h.free 4, h.free 5, h.free 6, h.free 7, h.free 8, h.free 9, h.free 10, h.free 11, h.free 12, h.free 13⟩
theorem Bx.far {w : World} {R : Nat} {cs : Array Value} {T : TypeId} (h : Bx w R cs T) {R' : Nat} (hne : R ≠ R') (j : Nat) (u : Value) : Bx (w.setCell ⟨R', j, none⟩ u) R cs T := (Below.heap_setCell _ _ _ R hne).trans h
theorem bset {m : Nat} {w w' : World} (h : Below m w w') {R : Nat} (hR : m ≤ R) (hm : m ≤ w'.heap.size) (j : Nat) (u : Value) : Below m w (w'.setCell ⟨R, j, none⟩ u) := h.grown (grown_set w' R j u) hm (fun q e => by injection e; omega)
structure BS (m : Nat) (w w' : World) : Prop where
  b : Below m w w'
  z : m ≤ w'.heap.size
theorem BS.set {m : Nat} {w w' : World} (h : BS m w w') {R : Nat} (hR : m ≤ R) (j : Nat) (u : Value) : BS m w (w'.setCell ⟨R, j, none⟩ u) := ⟨bset h.b hR h.z j u, by rw [set_size]; exact h.z⟩
theorem below14 {m : Nat} {w w' : World} (h : Below m w w') {R : Nat} (hR : m ≤ R) (hm : m ≤ w'.heap.size) (a0 a1 a2 a3 a4 a5 a6 a7 a8 a9 a10 a11 a12 a13 : Value) : Below m w (set14 w' R a0 a1 a2 a3 a4 a5 a6 a7 a8 a9 a10 a11 a12 a13) :=
  (((((((((((((((BS.mk h hm).set hR 0 a0).set hR 1 a1).set hR 2 a2).set hR 3 a3).set hR 4 a4).set hR 5 a5).set hR 6 a6).set hR 7 a7).set hR 8 a8).set hR 9 a9).set hR 10 a10).set hR 11 a11).set hR 12 a12).set hR 13 a13).b

set_option maxRecDepth 100000 in
set_option maxHeartbeats 4000000 in
/-- wire.signsOf -/
theorem signsOf_any (B : ByteArray) (w : World) (hB : 12 ≤ B.size) :
    Calls Try.prog 16 #[.agg (h12 B)] w fun e w' => e = .returned (.agg #[.int .i64 (be B 0 2 : Nat), .bool (sg (be B 2 2) 15), .int .i64 (be B 2 2 / 2048 % 16 : Nat), .bool (sg (be B 2 2) 10), .bool (sg (be B 2 2) 9), .bool (sg (be B 2 2) 8), .bool (sg (be B 2 2) 7), .bool (sg (be B 2 2) 5), .bool (sg (be B 2 2) 4), .int .i64 (be B 2 2 % 16 : Nat), .slice none 0 0, .slice none 0 0, .slice none 0 0, .slice none 0 0]) ∧ Below w.heap.size w w' := by
  obtain ⟨wa, hwa⟩ : ∃ wa, w.alloc (.cells (h12 B) 54) = wa := ⟨_, rfl⟩
  obtain ⟨wb, hwb⟩ : ∃ wb, wa.alloc (.cells #[.int .i64 0, .bool false, .int .i64 0, .bool false, .bool false, .bool false, .bool false, .bool false, .bool false, .int .i64 0, .slice none 0 0, .slice none 0 0, .slice none 0 0, .slice none 0 0] 25) = wb := ⟨_, rfl⟩
  have hza : wa.heap.size = w.heap.size + 1 := by rw [← hwa]; simp
  have hzb : wb.heap.size = w.heap.size + 2 := by rw [← hwb]; simp [hza]
  have HXa : Hid (Bx wb w.heap.size (h12 B) 54) := by
    have h1 : Bx wa w.heap.size (h12 B) 54 := hwa ▸ World.alloc_heap_new w _
    exact hwb ▸ h1.grown (World.grownBy_alloc wa _ none) (by simp)
  have HNs := hide' (fun (W : World) (x c : Nat) (hW : Bx W w.heap.size (h12 B) 54) (hx : x + 2 ≤ 12) => wnumber_at w.heap.size 0 x 2 c (B.extract 0 12) W (h12_bytes hW hB) (Nat.zero_le _) (by rw [show (B.extract 0 12).size = 12 by simp [ByteArray.size_extract]; omega]; omega) (by omega))
  obtain ⟨v, hv⟩ : ∃ v, be B 2 2 = v := ⟨_, rfl⟩
  have hvl : v < 65536 := hv ▸ be2_lt _ _
  have HV := hide' hv
  obtain ⟨id, hid⟩ : ∃ v, be B 0 2 = v := ⟨_, rfl⟩
  have HID := hide' hid
  rw [hv, hid]
  clear hv hid
  have HA : Hid (be (B.extract 0 12) (2 - 0) 2 = v) := by unfold Hid; rw [be_head hB (by omega)]; exact HV.out
  have HI : Hid (be (B.extract 0 12) (0 - 0) 2 = id) := by unfold Hid; rw [be_head hB (by omega)]; exact HID.out
  obtain ⟨op, hop, HOP⟩ : ∃ op : Nat, bits .and .i64 ((v : Int) / 2048) 15 = (op : Int) ∧ Hid (op = v / 2048 % 16) := ⟨v / 2048 % 16, by have := and15 (v / 2048) (by omega); simpa using this, rfl⟩
  obtain ⟨rc, hrc, HRC⟩ : ∃ rc : Nat, bits .and .i64 (v : Int) 15 = (rc : Int) ∧ Hid (rc = v % 16) := ⟨v % 16, and15 v hvl, rfl⟩
  rw [← HOP.out, ← HRC.out]
  obtain ⟨wc, hwc⟩ : ∃ wc, wb.alloc (.cells #[.int .i64 (id : Int), .bool false, .int .i64 (op : Int), .bool false, .bool false, .bool false, .bool false, .bool false, .bool false, .int .i64 (rc : Int), .slice none 0 0, .slice none 0 0, .slice none 0 0, .slice none 0 0] 25) = wc := ⟨_, rfl⟩
  have HBc : Hid (Below w.heap.size w wc) := by rw [← hwc, ← hwb, ← hwa]; exact (((Below.refl _ w).alloc (Nat.le_refl _) _).alloc (by simp) _).alloc (by simp; omega) _
  have hzc : wc.heap.size = w.heap.size + 3 := by rw [← hwc]; simp [hzb]
  have HMc : Hid (Bx wc wb.heap.size (mk7 id op rc v 0) 25) := by
    have := World.alloc_heap_new wb (.cells #[.int .i64 (id : Int), .bool false, .int .i64 (op : Int), .bool false, .bool false, .bool false, .bool false, .bool false, .bool false, .int .i64 (rc : Int), .slice none 0 0, .slice none 0 0, .slice none 0 0, .slice none 0 0] 25)
    rw [hwc] at this
    unfold Hid Bx mk7
    simpa using this
  have HZc : Hid (Bx wc wa.heap.size #[.int .i64 0, .bool false, .int .i64 0, .bool false, .bool false, .bool false, .bool false, .bool false, .bool false, .int .i64 0, .slice none 0 0, .slice none 0 0, .slice none 0 0, .slice none 0 0] 25) := by
    have h1 := World.alloc_heap_new wa (.cells #[.int .i64 0, .bool false, .int .i64 0, .bool false, .bool false, .bool false, .bool false, .bool false, .bool false, .int .i64 0, .slice none 0 0, .slice none 0 0, .slice none 0 0, .slice none 0 0] 25)
    rw [hwb] at h1
    exact hwc ▸ Bx.grown h1 (World.grownBy_alloc wb _ none) (by simp)
  have HZS : Hid (wa.heap.size = w.heap.size + 1 ∧ wb.heap.size = w.heap.size + 2) := ⟨hza, hzb⟩
  have HWC := hide' hwc
  clear hza hzb hzc hwc
  have HMk := hide' (fun (W : World) => marksOf_any wb.heap.size W)
  go_enter Try.func16, Try.ntmps16
  go_wp2_with (first
    | (go_at_call 15; have _ := HA; refine Calls.mono (HNs.out _ 2 _ HXa.out (by omega)) ?_; rw [HA.out]; rintro e w1 ⟨rfl, h1⟩; have h1' := h1.symm; subst h1'; clear HA)
    | (go_at_call 15; refine Calls.mono (HNs.out _ 0 _ HXa.out (by omega)) ?_; rw [HI.out]; rintro e w1 ⟨rfl, h1⟩; have h1' := h1.symm; subst h1')
    | (go_at_call 29; refine (HMk.out _).mono ?_; rintro e w2 ⟨rfl, hB2⟩; rw [HWC.out] at hB2; have HB2 := hide' (bstep HBc.out hB2 HBc.out.size); have HM2 := hide' (HMc.out.below hB2 HMc.out.lt); have HZ2 := hide' (HZc.out.below hB2 HZc.out.lt);  clear hB2))
  clear hwa hwb hop hrc HXa HNs HMk HMc HZc HBc
  go_loopw [18] (fun iv wr => ∃ j : Nat, iv = .int .i64 (j : Int) ∧ j ≤ 7 ∧ Hid (Bx wr wb.heap.size (mk7 id op rc v j) 25) ∧ Hid (Bx wr wa.heap.size #[.int .i64 0, .bool false, .int .i64 0, .bool false, .bool false, .bool false, .bool false, .bool false, .bool false, .int .i64 0, .slice none 0 0, .slice none 0 0, .slice none 0 0, .slice none 0 0] 25) ∧ Hid (Below w.heap.size w wr)) (fun iv _ => 7 - (intOf iv).toNat)
  case atStart => exact ⟨0, rfl, Nat.zero_le _, HM2, HZ2, HB2⟩
  case round =>
    obtain ⟨j, rfl, hj, HM, HZ, HB⟩ := hrel
    clear HM2 HZ2 HB2
    by_cases hlt : j < 7
    · have hj7 : j = 0 ∨ j = 1 ∨ j = 2 ∨ j = 3 ∨ j = 4 ∨ j = 5 ∨ j = 6 := by omega
      rcases hj7 with rfl | rfl | rfl | rfl | rfl | rfl | rfl
      · skip
        have hx : ∀ W : World, Sem.run Try.prog (Instr.index 77 (.agg #[.pointer (some ⟨wb.heap.size, 1, none⟩), .int .i64 15, .pointer (some ⟨wb.heap.size, 3, none⟩), .int .i64 10, .pointer (some ⟨wb.heap.size, 4, none⟩), .int .i64 9, .pointer (some ⟨wb.heap.size, 5, none⟩), .int .i64 8, .pointer (some ⟨wb.heap.size, 6, none⟩), .int .i64 7, .pointer (some ⟨wb.heap.size, 7, none⟩), .int .i64 5, .pointer (some ⟨wb.heap.size, 8, none⟩), .int .i64 4]) (.int .i64 0)) W = .ok (.agg #[.pointer (some ⟨wb.heap.size, 1, none⟩), .int .i64 15]) W := fun W => rfl
        have hm1 : ∀ o, (wr.alloc o).cell? ⟨wb.heap.size, 1, none⟩ = some (.bool false) := fun o => (HM.out.grown (World.grownBy_alloc wr o none) (by simp)).cell rfl
        have hm2 : ∀ o, (wr.alloc o).frozen? ⟨wb.heap.size, 1, none⟩ = false := fun o => (HM.out.grown (World.grownBy_alloc wr o none) (by simp)).free 1
        have hbit : (bits .and .i64 ((v : Int) / 32768) 1 != 0) = sg v 15 := by have := and1 v 15 hvl; simpa using this
        go_wp2_with fail
        go_region
        go_wp2_with fail
        go_roundw
        case rel => exact ⟨1, by go_num, by omega, (HM.out.grown (World.grownBy_alloc wr _ none) (by simp)).set 1 (.bool (sg v 15)), (HZ.out.grown (World.grownBy_alloc wr _ none) (by simp)).far (by have := HZS.out; omega) _ _, (bset (HB.out.alloc HB.out.size _) (by have := HZS.out; omega) (Nat.le_trans HB.out.size (by simp)) _ _).drew⟩
        case measure => simp [intOf]
      · skip
        have hx : ∀ W : World, Sem.run Try.prog (Instr.index 77 (.agg #[.pointer (some ⟨wb.heap.size, 1, none⟩), .int .i64 15, .pointer (some ⟨wb.heap.size, 3, none⟩), .int .i64 10, .pointer (some ⟨wb.heap.size, 4, none⟩), .int .i64 9, .pointer (some ⟨wb.heap.size, 5, none⟩), .int .i64 8, .pointer (some ⟨wb.heap.size, 6, none⟩), .int .i64 7, .pointer (some ⟨wb.heap.size, 7, none⟩), .int .i64 5, .pointer (some ⟨wb.heap.size, 8, none⟩), .int .i64 4]) (.int .i64 1)) W = .ok (.agg #[.pointer (some ⟨wb.heap.size, 3, none⟩), .int .i64 10]) W := fun W => rfl
        have hm1 : ∀ o, (wr.alloc o).cell? ⟨wb.heap.size, 3, none⟩ = some (.bool false) := fun o => (HM.out.grown (World.grownBy_alloc wr o none) (by simp)).cell rfl
        have hm2 : ∀ o, (wr.alloc o).frozen? ⟨wb.heap.size, 3, none⟩ = false := fun o => (HM.out.grown (World.grownBy_alloc wr o none) (by simp)).free 3
        have hbit : (bits .and .i64 ((v : Int) / 1024) 1 != 0) = sg v 10 := by have := and1 v 10 hvl; simpa using this
        go_wp2_with fail
        go_region
        go_wp2_with fail
        go_roundw
        case rel => exact ⟨2, by go_num, by omega, (HM.out.grown (World.grownBy_alloc wr _ none) (by simp)).set 3 (.bool (sg v 10)), (HZ.out.grown (World.grownBy_alloc wr _ none) (by simp)).far (by have := HZS.out; omega) _ _, (bset (HB.out.alloc HB.out.size _) (by have := HZS.out; omega) (Nat.le_trans HB.out.size (by simp)) _ _).drew⟩
        case measure => simp [intOf]
      · skip
        have hx : ∀ W : World, Sem.run Try.prog (Instr.index 77 (.agg #[.pointer (some ⟨wb.heap.size, 1, none⟩), .int .i64 15, .pointer (some ⟨wb.heap.size, 3, none⟩), .int .i64 10, .pointer (some ⟨wb.heap.size, 4, none⟩), .int .i64 9, .pointer (some ⟨wb.heap.size, 5, none⟩), .int .i64 8, .pointer (some ⟨wb.heap.size, 6, none⟩), .int .i64 7, .pointer (some ⟨wb.heap.size, 7, none⟩), .int .i64 5, .pointer (some ⟨wb.heap.size, 8, none⟩), .int .i64 4]) (.int .i64 2)) W = .ok (.agg #[.pointer (some ⟨wb.heap.size, 4, none⟩), .int .i64 9]) W := fun W => rfl
        have hm1 : ∀ o, (wr.alloc o).cell? ⟨wb.heap.size, 4, none⟩ = some (.bool false) := fun o => (HM.out.grown (World.grownBy_alloc wr o none) (by simp)).cell rfl
        have hm2 : ∀ o, (wr.alloc o).frozen? ⟨wb.heap.size, 4, none⟩ = false := fun o => (HM.out.grown (World.grownBy_alloc wr o none) (by simp)).free 4
        have hbit : (bits .and .i64 ((v : Int) / 512) 1 != 0) = sg v 9 := by have := and1 v 9 hvl; simpa using this
        go_wp2_with fail
        go_region
        go_wp2_with fail
        go_roundw
        case rel => exact ⟨3, by go_num, by omega, (HM.out.grown (World.grownBy_alloc wr _ none) (by simp)).set 4 (.bool (sg v 9)), (HZ.out.grown (World.grownBy_alloc wr _ none) (by simp)).far (by have := HZS.out; omega) _ _, (bset (HB.out.alloc HB.out.size _) (by have := HZS.out; omega) (Nat.le_trans HB.out.size (by simp)) _ _).drew⟩
        case measure => simp [intOf]
      · skip
        have hx : ∀ W : World, Sem.run Try.prog (Instr.index 77 (.agg #[.pointer (some ⟨wb.heap.size, 1, none⟩), .int .i64 15, .pointer (some ⟨wb.heap.size, 3, none⟩), .int .i64 10, .pointer (some ⟨wb.heap.size, 4, none⟩), .int .i64 9, .pointer (some ⟨wb.heap.size, 5, none⟩), .int .i64 8, .pointer (some ⟨wb.heap.size, 6, none⟩), .int .i64 7, .pointer (some ⟨wb.heap.size, 7, none⟩), .int .i64 5, .pointer (some ⟨wb.heap.size, 8, none⟩), .int .i64 4]) (.int .i64 3)) W = .ok (.agg #[.pointer (some ⟨wb.heap.size, 5, none⟩), .int .i64 8]) W := fun W => rfl
        have hm1 : ∀ o, (wr.alloc o).cell? ⟨wb.heap.size, 5, none⟩ = some (.bool false) := fun o => (HM.out.grown (World.grownBy_alloc wr o none) (by simp)).cell rfl
        have hm2 : ∀ o, (wr.alloc o).frozen? ⟨wb.heap.size, 5, none⟩ = false := fun o => (HM.out.grown (World.grownBy_alloc wr o none) (by simp)).free 5
        have hbit : (bits .and .i64 ((v : Int) / 256) 1 != 0) = sg v 8 := by have := and1 v 8 hvl; simpa using this
        go_wp2_with fail
        go_region
        go_wp2_with fail
        go_roundw
        case rel => exact ⟨4, by go_num, by omega, (HM.out.grown (World.grownBy_alloc wr _ none) (by simp)).set 5 (.bool (sg v 8)), (HZ.out.grown (World.grownBy_alloc wr _ none) (by simp)).far (by have := HZS.out; omega) _ _, (bset (HB.out.alloc HB.out.size _) (by have := HZS.out; omega) (Nat.le_trans HB.out.size (by simp)) _ _).drew⟩
        case measure => simp [intOf]
      · skip
        have hx : ∀ W : World, Sem.run Try.prog (Instr.index 77 (.agg #[.pointer (some ⟨wb.heap.size, 1, none⟩), .int .i64 15, .pointer (some ⟨wb.heap.size, 3, none⟩), .int .i64 10, .pointer (some ⟨wb.heap.size, 4, none⟩), .int .i64 9, .pointer (some ⟨wb.heap.size, 5, none⟩), .int .i64 8, .pointer (some ⟨wb.heap.size, 6, none⟩), .int .i64 7, .pointer (some ⟨wb.heap.size, 7, none⟩), .int .i64 5, .pointer (some ⟨wb.heap.size, 8, none⟩), .int .i64 4]) (.int .i64 4)) W = .ok (.agg #[.pointer (some ⟨wb.heap.size, 6, none⟩), .int .i64 7]) W := fun W => rfl
        have hm1 : ∀ o, (wr.alloc o).cell? ⟨wb.heap.size, 6, none⟩ = some (.bool false) := fun o => (HM.out.grown (World.grownBy_alloc wr o none) (by simp)).cell rfl
        have hm2 : ∀ o, (wr.alloc o).frozen? ⟨wb.heap.size, 6, none⟩ = false := fun o => (HM.out.grown (World.grownBy_alloc wr o none) (by simp)).free 6
        have hbit : (bits .and .i64 ((v : Int) / 128) 1 != 0) = sg v 7 := by have := and1 v 7 hvl; simpa using this
        go_wp2_with fail
        go_region
        go_wp2_with fail
        go_roundw
        case rel => exact ⟨5, by go_num, by omega, (HM.out.grown (World.grownBy_alloc wr _ none) (by simp)).set 6 (.bool (sg v 7)), (HZ.out.grown (World.grownBy_alloc wr _ none) (by simp)).far (by have := HZS.out; omega) _ _, (bset (HB.out.alloc HB.out.size _) (by have := HZS.out; omega) (Nat.le_trans HB.out.size (by simp)) _ _).drew⟩
        case measure => simp [intOf]
      · skip
        have hx : ∀ W : World, Sem.run Try.prog (Instr.index 77 (.agg #[.pointer (some ⟨wb.heap.size, 1, none⟩), .int .i64 15, .pointer (some ⟨wb.heap.size, 3, none⟩), .int .i64 10, .pointer (some ⟨wb.heap.size, 4, none⟩), .int .i64 9, .pointer (some ⟨wb.heap.size, 5, none⟩), .int .i64 8, .pointer (some ⟨wb.heap.size, 6, none⟩), .int .i64 7, .pointer (some ⟨wb.heap.size, 7, none⟩), .int .i64 5, .pointer (some ⟨wb.heap.size, 8, none⟩), .int .i64 4]) (.int .i64 5)) W = .ok (.agg #[.pointer (some ⟨wb.heap.size, 7, none⟩), .int .i64 5]) W := fun W => rfl
        have hm1 : ∀ o, (wr.alloc o).cell? ⟨wb.heap.size, 7, none⟩ = some (.bool false) := fun o => (HM.out.grown (World.grownBy_alloc wr o none) (by simp)).cell rfl
        have hm2 : ∀ o, (wr.alloc o).frozen? ⟨wb.heap.size, 7, none⟩ = false := fun o => (HM.out.grown (World.grownBy_alloc wr o none) (by simp)).free 7
        have hbit : (bits .and .i64 ((v : Int) / 32) 1 != 0) = sg v 5 := by have := and1 v 5 hvl; simpa using this
        go_wp2_with fail
        go_region
        go_wp2_with fail
        go_roundw
        case rel => exact ⟨6, by go_num, by omega, (HM.out.grown (World.grownBy_alloc wr _ none) (by simp)).set 7 (.bool (sg v 5)), (HZ.out.grown (World.grownBy_alloc wr _ none) (by simp)).far (by have := HZS.out; omega) _ _, (bset (HB.out.alloc HB.out.size _) (by have := HZS.out; omega) (Nat.le_trans HB.out.size (by simp)) _ _).drew⟩
        case measure => simp [intOf]
      · skip
        have hx : ∀ W : World, Sem.run Try.prog (Instr.index 77 (.agg #[.pointer (some ⟨wb.heap.size, 1, none⟩), .int .i64 15, .pointer (some ⟨wb.heap.size, 3, none⟩), .int .i64 10, .pointer (some ⟨wb.heap.size, 4, none⟩), .int .i64 9, .pointer (some ⟨wb.heap.size, 5, none⟩), .int .i64 8, .pointer (some ⟨wb.heap.size, 6, none⟩), .int .i64 7, .pointer (some ⟨wb.heap.size, 7, none⟩), .int .i64 5, .pointer (some ⟨wb.heap.size, 8, none⟩), .int .i64 4]) (.int .i64 6)) W = .ok (.agg #[.pointer (some ⟨wb.heap.size, 8, none⟩), .int .i64 4]) W := fun W => rfl
        have hm1 : ∀ o, (wr.alloc o).cell? ⟨wb.heap.size, 8, none⟩ = some (.bool false) := fun o => (HM.out.grown (World.grownBy_alloc wr o none) (by simp)).cell rfl
        have hm2 : ∀ o, (wr.alloc o).frozen? ⟨wb.heap.size, 8, none⟩ = false := fun o => (HM.out.grown (World.grownBy_alloc wr o none) (by simp)).free 8
        have hbit : (bits .and .i64 ((v : Int) / 16) 1 != 0) = sg v 4 := by have := and1 v 4 hvl; simpa using this
        go_wp2_with fail
        go_region
        go_wp2_with fail
        go_roundw
        case rel => exact ⟨7, by go_num, by omega, (HM.out.grown (World.grownBy_alloc wr _ none) (by simp)).set 8 (.bool (sg v 4)), (HZ.out.grown (World.grownBy_alloc wr _ none) (by simp)).far (by have := HZS.out; omega) _ _, (bset (HB.out.alloc HB.out.size _) (by have := HZS.out; omega) (Nat.le_trans HB.out.size (by simp)) _ _).drew⟩
        case measure => simp [intOf]
    · obtain rfl : j = 7 := by omega
      have HM7 : Hid (Bx wr wb.heap.size #[.int .i64 (id : Int), .bool (sg v 15), .int .i64 (op : Int), .bool (sg v 10), .bool (sg v 9), .bool (sg v 8), .bool (sg v 7), .bool (sg v 5), .bool (sg v 4), .int .i64 (rc : Int), .slice none 0 0, .slice none 0 0, .slice none 0 0, .slice none 0 0] 25) := HM.out
      obtain ⟨e0, e1, e2, e3, e4, e5, e6, e7, e8, e9, e10, e11, e12, e13⟩ := bx14 HM7.out
      obtain ⟨r0, r1, r2, r3, r4, r5, r6, r7, r8, r9, r10, r11, r12, r13⟩ := bx14 HZ.out
      obtain ⟨f0, f1, f2, f3, f4, f5, f6, f7, f8, f9, f10, f11, f12, f13⟩ := bx14_free HZ.out
      go_wp2_with fail
      obtain ⟨q0, q1, q2, q3, q4, q5, q6, q7, q8, q9, q10, q11, q12, q13⟩ := bx14 (bx14_set HZ.out (.int .i64 (id : Int)) (.bool (sg v 15)) (.int .i64 (op : Int)) (.bool (sg v 10)) (.bool (sg v 9)) (.bool (sg v 8)) (.bool (sg v 7)) (.bool (sg v 5)) (.bool (sg v 4)) (.int .i64 (rc : Int)) (.slice none 0 0) (.slice none 0 0) (.slice none 0 0) (.slice none 0 0))
      unfold set14 at q0 q1 q2 q3 q4 q5 q6 q7 q8 q9 q10 q11 q12 q13
      refine bodyPost_ret (v := .agg #[.int .i64 (id : Int), .bool (sg v 15), .int .i64 (op : Int), .bool (sg v 10), .bool (sg v 9), .bool (sg v 8), .bool (sg v 7), .bool (sg v 5), .bool (sg v 4), .int .i64 (rc : Int), .slice none 0 0, .slice none 0 0, .slice none 0 0, .slice none 0 0]) (by simp [results, go_sem, q0, q1, q2, q3, q4, q5, q6, q7, q8, q9, q10, q11, q12, q13]) rfl ⟨rfl, ?_⟩
      exact below14 HB.out (by have := HZS.out; omega) HB.out.size (.int .i64 (id : Int)) (.bool (sg v 15)) (.int .i64 (op : Int)) (.bool (sg v 10)) (.bool (sg v 9)) (.bool (sg v 8)) (.bool (sg v 7)) (.bool (sg v 5)) (.bool (sg v 4)) (.int .i64 (rc : Int)) (.slice none 0 0) (.slice none 0 0) (.slice none 0 0) (.slice none 0 0)
end Go.Proofs.Ytinnmfidnecncaa
