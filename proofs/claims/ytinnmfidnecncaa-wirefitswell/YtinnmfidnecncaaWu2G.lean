import Derived.Shelf.RegionOpen
import Derived.WalkKit
import Derived.WalkSpells
import Derived.WalkLawsBesides
import Derived.OwnWalkIn
import Derived.BigQuiet
import Derived.Deep.QuietTactic
import Derived.RangeFuncBox
import Derived.Lib.SlBytesRow
import Derived.Test.YtinnmfidnecncaaLowG
import Derived.Test.YtinnmfidnecncaaBt1
import Derived.Test.YtinnmfidnecncaaOw1G
import Derived.Test.YtinnmfidnecncaaWu1G
import Derived.Test.YtinnmfidnecncaaPrtG
import Derived.RegionTactic
import Derived.ChangeAlike
import Derived.Lib.BufferRead
namespace Go.Proofs.Ytinnmfidnecncaa
set_option linter.unusedVariables false
open Go.RowKit Go.Shelf Go.Proofs.Ytinnmfidnecncaa.Nm

/-- a reader in memory: its bytes, its place, its end, its error -/
def Rr (w : World) (g : Nat) (v : Value) (k en sh : Nat) : Prop :=
  w.heap[g]? = some (.cells #[v, .int .i64 (k : Int), .int .i64 (en : Int), .int .i64 (sh : Int)] 57 (0, 0))
section
variable {w : World} {g : Nat} {v : Value} {k en sh : Nat}
theorem Rr.lt (h : Rr w g v k en sh) : g < w.heap.size := (Array.getElem?_eq_some_iff.1 h).1
theorem Rr.c0 (h : Rr w g v k en sh) : w.cell? ⟨g, 0, none⟩ = some v := by unfold Rr at h; simp [World.cell?, h]
theorem Rr.c1 (h : Rr w g v k en sh) : w.cell? ⟨g, 1, none⟩ = some (.int .i64 (k : Int)) := by unfold Rr at h; simp [World.cell?, h]
theorem Rr.c2 (h : Rr w g v k en sh) : w.cell? ⟨g, 2, none⟩ = some (.int .i64 (en : Int)) := by unfold Rr at h; simp [World.cell?, h]
theorem Rr.c3 (h : Rr w g v k en sh) : w.cell? ⟨g, 3, none⟩ = some (.int .i64 (sh : Int)) := by unfold Rr at h; simp [World.cell?, h]
theorem Rr.free (h : Rr w g v k en sh) (j : Nat) : w.frozen? ⟨g, j, none⟩ = false := by unfold Rr at h; simp [World.frozen?, h]
theorem Rr.drewN (h : Rr w g v k en sh) (n : Nat) : Rr (w.drewN n) g v k en sh := h
theorem Rr.set1 (h : Rr w g v k en sh) (k' : Nat) : Rr (w.setCell ⟨g, 1, none⟩ (.int .i64 (k' : Int))) g v k' en sh := by
  unfold Rr at *
  simp [World.setCell, Array.getElem?_modify, h]
theorem Rr.go (h : Rr w g v k en sh) (k' : Nat) {y : Int} (hy : y = (k' : Int)) : Rr (w.setCell ⟨g, 1, none⟩ (.int .i64 y)) g v k' en sh := by subst hy; exact h.set1 k'
theorem Rr.below {w' : World} (h : Rr w g v k en sh) (hb : Below w.heap.size w w') : Rr w' g v k en sh := (hb.block g h.lt).trans h
theorem Rr.grown {w' : World} {b : Nat} (h : Rr w g v k en sh) (hb : w.grownBy w' (some b)) (hne : g ≠ b) : Rr w' g v k en sh := (hb.block g h.lt (fun e => hne (Option.some.inj e))).trans h
end

theorem _root_.Go.Lib.Bytes.drw {w : World} {b o : Nat} {B : ByteArray} (h : Lib.Bytes w b o B) (n : Nat) : Lib.Bytes (w.drewN n) b o B := h
theorem _root_.Go.Lib.Bytes.blk {w w' : World} {b o : Nat} {B : ByteArray} (h : Lib.Bytes w b o B) (hb : w'.heap[b]? = w.heap[b]?) : Lib.Bytes w' b o B := fun i hi => by
  rw [World.cell?_of_block hb]; exact h i hi
theorem _root_.Go.Lib.Bytes.at_ {w : World} {b o : Nat} {B : ByteArray} (h : Lib.Bytes w b o B) {k : Nat} (hk : k < B.size) : w.cell? ⟨b, o + k, none⟩ = some (.int .u8 (bt B k : Int)) := by
  rw [h k hk, bt_eq hk]

set_option maxRecDepth 100000 in
set_option maxHeartbeats 1000000 in
/-- take, where there isn't enough -/
theorem take_no (g : Nat) (v : Value) (k en sh n : Nat) (w : World) (h : Rr w g v k en sh) (hk : k ≤ en) (hE : en ≤ 1048576) (hn : n ≤ 65535) (hno : en < k + n) :
    Calls Try.prog 45 #[.pointer (some ⟨g, 0, none⟩), .int .i64 (n : Int)] w fun e w' => e = .returned (.tuple #[.slice none 0 0, .int .i64 (sh : Int)]) ∧ ∃ m, w' = w.drewN m := by
  have c1 := h.c1
  have c2 := h.c2
  have c3 := h.c3
  go_enter Try.func45, Try.ntmps45
  go_wp2_with fail
  go_quiet (fail)
  obtain ⟨nq', hnq⟩ : ∃ m, nq = m := ⟨_, rfl⟩
  rw [hnq]
  have hq : Rr (w.drewN nq') g v k en sh := h.drewN nq'
  obtain ⟨wq, hwq⟩ : ∃ wq, w.drewN nq' = wq := ⟨_, rfl⟩
  rw [hwq] at hq ⊢
  clear c1 c2 c3
  have c3 := hq.c3
  go_wp2_with fail
  go_quiet (fail)
  go_wp2
  go_ret2
  subst hwq
  exact ⟨rfl, nq' + nq, by simp [World.drewN, Nat.add_assoc]⟩

set_option maxRecDepth 100000 in
set_option maxHeartbeats 1000000 in
/-- take, where there is enough -/
theorem take_yes (g b o len cap : Nat) (k en sh n : Nat) (w : World) (h : Rr w g (.slice (some ⟨b, o, none⟩) len cap) k en sh) (hE : en ≤ 1048576) (hL : en ≤ len) (hc : len ≤ cap) (hn : n ≤ 65535) (hno : k + n ≤ en) (h0 : 0 < n) :
    Calls Try.prog 45 #[.pointer (some ⟨g, 0, none⟩), .int .i64 (n : Int)] w fun e w' => e = .returned (.tuple #[.slice (some ⟨b, o + k, none⟩) n (cap - k), .int .i64 0]) ∧ Rr w' g (.slice (some ⟨b, o, none⟩) len cap) (k + n) en sh ∧ w.grownBy w' (some g) := by
  have c1 := h.c1
  have c2 := h.c2
  have c3 := h.c3
  go_enter Try.func45, Try.ntmps45
  go_wp2_with fail
  go_quiet (fail)
  have hq : Rr (w.drewN nq) g _ k en sh := h.drewN nq
  have gq := hide' (grown_drewN w nq (some g))
  generalize w.drewN nq = wq at *
  clear c1 c2 c3
  have c1 := hq.c1
  have f1 := hq.free 1
  go_wp2_with fail
  have hs := hq.go (k + n) (y := (k : Int) + n) (by omega)
  have gs := hide' (grown_trans gq.out (grown_set wq g 1 (.int .i64 ((k : Int) + n))))
  generalize wq.setCell ⟨g, 1, none⟩ (.int .i64 ((k : Int) + n)) = ws at *
  clear c1 f1
  have c0 := hs.c0
  have c1 := hs.c1
  have e1 : IntKind.i64.wrap (((k + n : Nat) : Int) - (n : Int)) = (k : Int) := by rw [IntWalk.i64_in] <;> omega
  have hsl : ∀ W : World, (Instr.slice 26 (.slice (some ⟨b, o, none⟩) len cap) (some (.int .i64 (k : Int))) (some (.int .i64 ((k + n : Nat) : Int))) none).run Try.prog W = .ok (.slice (some ⟨b, o + k, none⟩) n (cap - k)) W := fun W => by
    have := Lib.run_slice_window (P := Try.prog) W 26 5 Try.underlying26 (fun w => Try.sizeOf5 w) b o len cap k (k + n) (by omega) (by omega)
    rw [this, Nat.add_sub_cancel_left]
  have hkn : k + n - k = n := Nat.add_sub_cancel_left k n
  go_quiet (fail)
  go_wp2
  go_ret2
  exact ⟨by show Ending.returned (.tuple #[.slice (some ⟨b, o + k, none⟩) (k + n - k) (cap - k), .int .i64 0]) = _; rw [hkn], hs, grown_trans gs.out (grown_drewN _ _ _)⟩

theorem shl8 (x y : Nat) (hx : x < 16777216) (hy : y < 256) : bits .or .i64 ((x : Int) * 256) (y : Int) = ((x * 256 + y : Nat) : Int) := by
  have := or_shl 8 x y (by omega) (by omega) (by omega)
  simpa using this

set_option maxRecDepth 100000 in
set_option maxHeartbeats 1000000 in
/-- wire.number -/
theorem wnumber_any (b o k n c : Nat) (B : ByteArray) (w : World) (h : Lib.Bytes w b o B) (hk : k + n ≤ B.size) (hn : n ≤ 4) :
    Calls Try.prog 15 #[.slice (some ⟨b, o + k, none⟩) n c] w fun e w' => e = .returned (.int .i64 (be B k n : Int)) ∧ w' = w := by
  go_enter Try.func15, Try.ntmps15
  go_wp2
  go_loop [3, 8] (fun a i => ∃ j : Nat, i = .int .i64 (j : Int) ∧ a = .int .i64 (be B k j : Int) ∧ j ≤ n) (fun _ i => n - (intOf i).toNat)
  case atStart => exact ⟨0, rfl, rfl, Nat.zero_le _⟩
  case round =>
    obtain ⟨j, rfl, rfl, hj⟩ := hrel
    by_cases hlt : j < n
    · have hc := h.at_ (k := k + j) (by omega)
      have hl : be B k j < 16777216 := by
        have h1 := be_lt B k j
        have h2 : 256 ^ j ≤ 256 ^ 3 := Nat.pow_le_pow_right (by omega) (by omega)
        omega
      have hor := shl8 (be B k j) (bt B (k + j)) hl (bt_lt _ _)
      have HE : Hid (be B k (j + 1) = be B k j * 256 + bt B (k + j)) := rfl
      have hb := bt_lt B (k + j)
      rw [← Nat.add_assoc] at hc
      generalize bt B (k + j) = y at *
      generalize be B k j = x at *
      go_wp2
      go_round
      case rel => exact ⟨j + 1, by go_num, by rw [HE.out]; simp, by omega⟩
      case measure => simp [intOf]; omega
    · obtain rfl : j = n := by omega
      go_wp2
      go_ret
      exact ⟨rfl, rfl⟩

set_option maxRecDepth 100000 in
set_option maxHeartbeats 1000000 in
/-- place, where there isn't enough -/
theorem place_no (g : Nat) (v : Value) (k en sh y : Nat) (w : World) (h : Rr w g v k en sh) (hk : k ≤ en) (hE : en ≤ 1048576) (hno : en < k + 1) (hsh : sh ≠ 0) :
    Calls Try.prog 53 #[.pointer (some ⟨g, 0, none⟩), .int .i64 (y : Int)] w fun e w' => e = .returned (.tuple #[.int .i64 0, .int .i64 (sh : Int)]) ∧ ∃ m, w' = w.drewN m := by
  have HT := hide' (take_no g v k en sh 1 w h hk hE (by omega) hno)
  go_enter Try.func53, Try.ntmps53
  by_cases hs : sh = 0
  · subst hs
    exact absurd rfl hsh
  have hb : ((sh : Int) != 0) = true := by simp [bne_iff_ne]; omega
  go_wp2_with (go_at_call 45; refine HT.out.mono ?_; rintro e w1 ⟨rfl, m, rfl⟩)
  go_ret2
  exact ⟨rfl, m, rfl⟩

set_option maxRecDepth 100000 in
set_option maxHeartbeats 1000000 in
/-- place, where there is enough -/
theorem place_yes (g b o cap : Nat) (k en sh y : Nat) (B : ByteArray) (w : World) (h : Rr w g (.slice (some ⟨b, o, none⟩) B.size cap) k en sh) (hB : Lib.Bytes w b o B) (hgb : b ≠ g) (hE : en ≤ 1048576) (hL : en ≤ B.size) (hc : B.size ≤ cap) (hno : k + 1 ≤ en) (hy : 192 ≤ y) (hyl : y < 256) :
    Calls Try.prog 53 #[.pointer (some ⟨g, 0, none⟩), .int .i64 (y : Int)] w fun e w' => e = .returned (.tuple #[.int .i64 (((y - 192) * 256 + bt B k : Nat) : Int), .int .i64 0]) ∧ Rr w' g (.slice (some ⟨b, o, none⟩) B.size cap) (k + 1) en sh ∧ w.grownBy w' (some g) := by
  have HT := hide' (take_yes g b o B.size cap k en sh 1 w h hE hL hc (by omega) hno (by omega))
  have hcell := hB.at_ (k := k) (by omega)
  have hbl : b < w.heap.size := by
    rcases Nat.lt_or_ge b w.heap.size with h | h
    · exact h
    · simp [World.cell?, Array.getElem?_eq_none h] at hcell
  have hby := bt_lt B k
  have hor := shl8 (y - 192) (bt B k) (by omega) hby
  generalize bt B k = x at *
  obtain ⟨z, hz⟩ : ∃ z, y = 192 + z := ⟨y - 192, by omega⟩
  subst hz
  rw [Nat.add_sub_cancel_left] at hor ⊢
  have e1 : (((192 + z : Nat) : Int)) - 192 = (z : Int) := by omega
  go_enter Try.func53, Try.ntmps53
  go_wp2_with (go_at_call 45; refine HT.out.mono ?_; rintro e w1 ⟨rfl, h1, hg1⟩; have c1 := (World.cell?_of_block (a := ⟨b, o + k, none⟩) (hg1.block b hbl (fun e => hgb (Option.some.inj e)))).trans hcell)
  go_ret2
  exact ⟨by rw [← hor]; simp; rw [show (192 : Int) + (z : Int) - 192 = (z : Int) by omega], h1, hg1⟩
end Go.Proofs.Ytinnmfidnecncaa

namespace Go.Proofs.Ytinnmfidnecncaa
set_option linter.unusedVariables false
open Go.RowKit Go.Shelf Go.Proofs.Ytinnmfidnecncaa.Nm

/-- what stands ahead of a name's rest, and where it goes on -/
def via (a : ByteArray) (P : Nat → Nat) (r : Except Nat (ByteArray × Nat)) : Except Nat (ByteArray × Nat) := match r with | .ok r => .ok (a ++ r.1, P r.2) | .error e => .error e
theorem via_pre (a c : ByteArray) (P : Nat → Nat) (r : Except Nat (ByteArray × Nat)) : via a P (pre c r) = via (a ++ c) P r := by
  cases r with
  | error e => rfl
  | ok r => simp [via, pre, ByteArray.append_assoc]
theorem via_bhd (a : ByteArray) (P : Nat → Nat) (k : Nat) (r : Except Nat (ByteArray × Nat)) : via a P (bhd k r) = via a (fun _ => P k) r := by
  cases r with
  | error e => rfl
  | ok r => rfl
theorem via_start (r : Except Nat (ByteArray × Nat)) : via ⟨#[]⟩ id r = r := by
  cases r with
  | error e => rfl
  | ok r => simp [via]; apply Prod.ext <;> simp; apply ByteArray.ext; simp
theorem grown_step {w wr w2 : World} {g : Nat} {r : Option Nat} (h : w.grownBy wr (some g)) (k : wr.grownBy w2 r) (hr : ∀ q, r = some q → q = g ∨ w.heap.size ≤ q) : w.grownBy w2 (some g) :=
  ⟨k.os.trans h.os, k.tape.trans h.tape, k.output.trans h.output, Nat.le_trans h.size k.size, fun j hj hne => (k.block j (Nat.lt_of_lt_of_le hj h.size) (fun e => by
    rcases hr j e.symm with h1 | h1
    · exact hne (by rw [h1])
    · omega)).trans (h.block j hj hne)⟩
theorem strCells_app (a b : ByteArray) : Go.Lib.strCells (a ++ b) = Go.Lib.strCells a ++ Go.Lib.strCells b := by
  unfold Go.Lib.strCells; rw [ByteArray.data_append]; simp
/-- a row of bytes as a text -/
theorem own_text {W : World} {b c n : Nat} {p : Option Addr} {t : ByteArray} (h : W.ownsRow b 5 1 (.slice p n c) n (Go.Lib.strCells t)) : (convert 26 9 (.slice p n c)).run Try.prog W = .ok (.string t) W := by
  have hn : n = t.size := by have := h.1; rw [Go.Lib.strCells_length] at this; omega
  subst hn
  rcases h.2 with ⟨h1, h0⟩ | ⟨g, cap, cur, h1, _⟩
  · simp at h1
    obtain ⟨rfl, _, rfl⟩ := h1
    have : t = ⟨#[]⟩ := by apply ByteArray.ext; exact Array.eq_empty_of_size_eq_zero h0
    subst this
    exact Go.Lib.run_convert_nil_bytes W 26 9 5 0 Try.underlying26 Try.underlying5 Try.underlying9
  · simp at h1
    obtain ⟨rfl, rfl⟩ := h1
    exact owns_str h
/-- a window of bytes, as cells -/
theorem Bytes_win {w : World} {b o : Nat} {B : ByteArray} (h : Lib.Bytes w b o B) {k n : Nat} (hk : k + n ≤ B.size) : ∀ j u, (Go.Lib.strCells (B.extract k (k + n)))[j]? = some u → w.cell? ((⟨b, o + k, none⟩ : Addr).add j) = some u := by
  intro j u hj
  have hz : (B.extract k (k + n)).size = n := by simp [ByteArray.size_extract]; omega
  have hjl : j < n := by
    have := (List.getElem?_eq_some_iff.1 hj).1
    rw [Go.Lib.strCells_length, hz] at this; exact this
  have ea : (⟨b, o + k, none⟩ : Addr).add j = ⟨b, o + (k + j), none⟩ := by
    unfold Addr.add
    by_cases h0 : j = 0
    · subst h0; simp
    · rw [if_neg h0]; simp [Nat.add_assoc]
  rw [ea, h (k + j) (by omega)]
  unfold Go.Lib.strCells at hj
  rw [List.getElem?_map] at hj
  have hs : j < (B.extract k (k + n)).data.toList.length := by rw [Array.length_toList]; exact (by omega : j < (B.extract k (k + n)).size)
  rw [List.getElem?_eq_getElem hs] at hj
  rw [← hj]
  simp
  rfl
theorem strCells_one (t : ByteArray) : ∀ u ∈ Go.Lib.strCells t, u.oneCell' = true := by
  intro u hu
  obtain ⟨x, _, rfl⟩ := List.mem_map.1 hu
  rfl
def nameEnd (r : Except Nat (ByteArray × Nat)) (g : Nat) (V : Value) (en sh : Nat) (w : World) (e : Ending) (w' : World) : Prop := match r with
  | .ok r => e = .returned (.tuple #[.string r.1, .int .i64 0]) ∧ Rr w' g V r.2 en sh ∧ w.grownBy w' (some g)
  | .error x => e = .returned (.tuple #[.string ⟨#[]⟩, .int .i64 (x : Int)]) ∧ w.grownBy w' (some g) ∧ ∃ kx, kx ≤ en ∧ Rr w' g V kx en sh
def numAt (w : World) (v : Value) (j : Nat) : Nat := match v with
  | .pointer (some a) => match w.cell? ⟨a.block, j, none⟩ with | some (.int _ n) => n.toNat | _ => 0
  | _ => 0
theorem Rr.num1 {w : World} {g : Nat} {v : Value} {k en sh : Nat} (h : Rr w g v k en sh) : numAt w (.pointer (some ⟨g, 0, none⟩)) 1 = k := by simp [numAt, h.c1]
theorem Rr.num2 {w : World} {g : Nat} {v : Value} {k en sh : Nat} (h : Rr w g v k en sh) : numAt w (.pointer (some ⟨g, 0, none⟩)) 2 = en := by simp [numAt, h.c2]

/-- a name under way -/
structure Nst (w wr : World) (g b o cap en sh : Nat) (B : ByteArray) (row k st e2 ov : Nat) (nv : Value) (acc : ByteArray) (P : Nat → Nat) : Prop where
  rd : Rr wr row (.slice (some ⟨b, o, none⟩) B.size cap) k e2 ov
  ke : k ≤ e2
  eS : e2 ≤ B.size
  ovn : ov = 7 ∨ ov = 10
  rest : ∃ a, Rr wr w.heap.size (.slice (some ⟨b, o, none⟩) B.size cap) a B.size 10
  rw : row = g ∨ row = w.heap.size
  own : wr.ownsRow (w.heap.size + 1) 5 1 nv acc.size (Go.Lib.strCells acc)
  small : acc.size ≤ 1000
  by_ : Lib.Bytes wr b o B
  gr : w.grownBy wr (some g)
  sz : w.heap.size + 1 ≤ wr.heap.size
  fin : ∀ (w2 : World) (x : Nat), (row ≠ g → w2.heap[g]? = wr.heap[g]?) → Rr w2 row (.slice (some ⟨b, o, none⟩) B.size cap) x e2 ov → Rr w2 g (.slice (some ⟨b, o, none⟩) B.size cap) (P x) en sh
section
variable {w wr : World} {g b o cap en sh : Nat} {B : ByteArray} {row k st e2 ov : Nat} {nv : Value} {acc : ByteArray} {P : Nat → Nat}
/-- the reader goes on -/
theorem Nst.move {w2 : World} {k2 : Nat} (h : Nst w wr g b o cap en sh B row k st e2 ov nv acc P) (hg : g < w.heap.size) (hb : b < w.heap.size) (hgb : b ≠ g) (hr : Rr w2 row (.slice (some ⟨b, o, none⟩) B.size cap) k2 e2 ov) (hk : k2 ≤ e2) (hgr : wr.grownBy w2 (some row)) : Nst w w2 g b o cap en sh B row k2 st e2 ov nv acc P := by
  have hrow : row ≤ w.heap.size := by rcases h.rw with e | e <;> omega
  have hbr : b ≠ row := by rcases h.rw with e | e <;> omega
  refine ⟨hr, hk, h.eS, h.ovn, ?_, h.rw, h.own.kept hgr ?_, h.small, h.by_.blk (hgr.block b (by have := h.sz; omega) (fun e => hbr (Option.some.inj e))), grown_step h.gr hgr (fun q e => ?_), Nat.le_trans h.sz hgr.size, fun w3 x h1 h2 => h.fin w3 x (fun hne => (h1 hne).trans (hgr.block g (by have := h.sz; omega) (fun e => hne (Option.some.inj e).symm))) h2⟩
  · obtain ⟨a, ha⟩ := h.rest
    by_cases e : row = w.heap.size
    · rcases h.rw with e1 | e1
      · omega
      · have h2 := hr
        have h1 := h.rd
        rw [e] at h1 h2
        unfold Rr at ha h1 h2
        rw [ha] at h1
        simp at h1
        obtain ⟨_, e3, e4⟩ := h1
        refine ⟨k2, ?_⟩
        unfold Rr
        rw [h2]
        simp [e3, e4]
    · exact ⟨a, ha.grown hgr (fun e2 => e e2.symm)⟩
  · by_cases hv : nv.ownBlock = none
    · exact .inl hv
    · right
      intro he
      have := h.own.lt row he
      omega
  · injection e with e; subst e
    rcases h.rw with e1 | e1
    · exact .inl e1
    · exact .inr (by omega)
theorem Nst.drew (h : Nst w wr g b o cap en sh B row k st e2 ov nv acc P) (hg : g < w.heap.size) (hb : b < w.heap.size) (hgb : b ≠ g) (m : Nat) : Nst w (wr.drewN m) g b o cap en sh B row k st e2 ov nv acc P := h.move hg hb hgb (h.rd.drewN m) h.ke (grown_drewN _ _ _)
theorem Nst.fin' (h : Nst w wr g b o cap en sh B row k st e2 ov nv acc P) (hP : ∀ x, x ≤ e2 → P x ≤ en) : w.grownBy wr (some g) ∧ ∃ kx, kx ≤ en ∧ Rr wr g (.slice (some ⟨b, o, none⟩) B.size cap) kx en sh := ⟨h.gr, _, hP _ h.ke, h.fin _ _ (fun _ => rfl) h.rd⟩
/-- more of the name -/
theorem Nst.grow {w2 : World} {nv2 : Value} {acc2 : ByteArray} (h : Nst w wr g b o cap en sh B row k st e2 ov nv acc P) (hg : g < w.heap.size) (hb : b < w.heap.size) (hown : w2.ownsRow (w.heap.size + 1) 5 1 nv2 acc2.size (Go.Lib.strCells acc2)) (hs : acc2.size ≤ 1000) (hgr : wr.grownBy w2 nv.ownBlock) : Nst w w2 g b o cap en sh B row k st e2 ov nv2 acc2 P := by
  have hrow : row ≤ w.heap.size := by rcases h.rw with e | e <;> omega
  have hne : ∀ q, q ≤ w.heap.size → some q ≠ nv.ownBlock := fun q hq e => by have := h.own.lt q e.symm; omega
  have hsz := h.sz
  refine ⟨(hgr.block row (by omega) (hne _ hrow)).trans h.rd, h.ke, h.eS, h.ovn, ?_, h.rw, hown, hs, h.by_.blk (hgr.block b (by omega) (hne _ (by omega))), grown_step h.gr hgr (fun q e => .inr ?_), Nat.le_trans h.sz hgr.size, fun w3 x h1 h2 => h.fin w3 x (fun hn => (h1 hn).trans (hgr.block g (by omega) (hne _ (by omega)))) h2⟩
  · obtain ⟨a, ha⟩ := h.rest
    exact ⟨a, (hgr.block _ (by omega) (hne _ (Nat.le_refl _))).trans ha⟩
  · have := h.own.lt q e; omega
/-- a pointer is followed -/
theorem Nst.jump {k2 : Nat} (h : Nst w wr g b o cap en sh B row k2 st e2 ov nv acc P) (hg : g < w.heap.size) (hb : b < w.heap.size) (p : Nat) (hp : p ≤ B.size) {y : Int} (hy : y = (p : Int)) :
    Nst w (wr.setCell ⟨w.heap.size, 1, none⟩ (.int .i64 y)) g b o cap en sh B w.heap.size p p B.size 10 nv acc (fun _ => P k2) := by
  subst hy
  have hgr := grown_set wr w.heap.size 1 (.int .i64 (p : Int))
  obtain ⟨a, ha⟩ := h.rest
  have hsz := h.sz
  have hr := ha.set1 p
  refine ⟨hr, hp, Nat.le_refl _, .inr rfl, ⟨p, hr⟩, .inr rfl, h.own.kept hgr ?_, h.small, h.by_.blk (hgr.block b (by omega) (fun e => by injection e; omega)), grown_step h.gr hgr (fun q e => .inr (by injection e; omega)), Nat.le_trans h.sz hgr.size, fun w3 x h1 h2 => ?_⟩
  · by_cases hv : nv.ownBlock = none
    · exact .inl hv
    · right
      intro he
      have := h.own.lt _ he
      omega
  · have e1 := h1 (by omega)
    have e2 := hgr.block g (by omega) (fun e => by injection e; omega)
    have h3 := h.fin wr k2 (fun _ => rfl) h.rd
    exact (e1.trans e2).trans h3
end
end Go.Proofs.Ytinnmfidnecncaa

namespace Go.Proofs.Ytinnmfidnecncaa
set_option linter.unusedVariables false
open Go.RowKit Go.Shelf Go.Proofs.Ytinnmfidnecncaa.Nm

theorem Try.infoU8 : (Try.prog.info? 5).map (fun i => (i.zero, i.size, i.bytes)) = some (some (.int .u8 0), 1, 1) := by kernel_rfl

set_option maxRecDepth 100000 in
set_option maxHeartbeats 4000000 in
/-- (*reader).name -/
theorem rname_any (g b o cap k en sh : Nat) (B : ByteArray) (w : World) (h : Rr w g (.slice (some ⟨b, o, none⟩) B.size cap) k en sh) (hB : Lib.Bytes w b o B) (hb : b < w.heap.size) (hgb : b ≠ g) (hk : k ≤ en) (hE : en ≤ B.size) (hS : B.size ≤ 65535) (hc : B.size ≤ cap) (hsh : sh = 7 ∨ sh = 10) :
    Calls Try.prog 44 #[.pointer (some ⟨g, 0, none⟩)] w (nameEnd (rn B k k en sh 0) g (.slice (some ⟨b, o, none⟩) B.size cap) en sh w) := by
  have hg := h.lt
  have c0 := h.c0
  have c1 := h.c1
  obtain ⟨i0, hi, hz0, hz1, hz2⟩ := info_parts Try.infoU8
  obtain ⟨wa, hwa⟩ : ∃ wa, w.alloc (.cells #[.slice (some ⟨b, o, none⟩) B.size cap, .int .i64 0, .int .i64 (B.size : Int), .int .i64 10] 57) = wa := ⟨_, rfl⟩
  have hwz : wa.heap.size = w.heap.size + 1 := by rw [← hwa]; simp
  have hgz : w.grownBy wa (some g) := hwa ▸ World.grownBy_alloc _ _ _
  have hra : Rr wa w.heap.size (.slice (some ⟨b, o, none⟩) B.size cap) 0 B.size 10 := hwa ▸ World.alloc_heap_new w _
  have hrg : Rr wa g (.slice (some ⟨b, o, none⟩) B.size cap) k en sh := by
    have := Below.block ((Below.refl w.heap.size w).alloc (Nat.le_refl _) (.cells #[.slice (some ⟨b, o, none⟩) B.size cap, .int .i64 0, .int .i64 (B.size : Int), .int .i64 10] 57)) g hg
    rw [hwa] at this
    exact this.trans h
  have HN0 : Hid (∀ m, Nst w (wa.drew.drewN m) g b o cap en sh B g k k en sh (.slice none 0 0) ⟨#[]⟩ id) := fun m =>
    ⟨hrg, hk, hE, hsh, ⟨0, hra⟩, .inl rfl, World.ownsRow_nil _ _ _ _, by decide, hB.blk (hgz.block b hb (fun e => hgb (Option.some.inj e))), grown_trans hgz (grown_trans (grown_drewN _ 1 _) (grown_drewN _ _ _)), by show w.heap.size + 1 ≤ wa.heap.size; omega, fun w2 x _ h2 => h2⟩
  have HTno := hide' (fun (row k e2 ov n : Nat) (wr : World) => take_no row (.slice (some ⟨b, o, none⟩) B.size cap) k e2 ov n wr)
  have HTyes := hide' (fun (row k e2 ov n : Nat) (wr : World) => take_yes row b o B.size cap k e2 ov n wr)
  have HPno := hide' (fun (row k e2 ov n : Nat) (wr : World) => place_no row (.slice (some ⟨b, o, none⟩) B.size cap) k e2 ov n wr)
  have HPyes := hide' (fun (row k e2 ov n : Nat) (wr : World) => place_yes row b o cap k e2 ov n B wr)
  go_enter Try.func44, Try.ntmps44
  go_wp2_with fail
  go_region
  go_wp2_with fail
  have d1 := hrg.c1
  go_quiet (fail)
  go_wp2_with fail
  clear c0 c1 d1 hwa hra hrg hgz
  go_loopw [5, 6, 7] (fun rv bv nv wr => ∃ (row k' st e2 ov : Nat) (acc : ByteArray) (P : Nat → Nat), rv = .pointer (some ⟨row, 0, none⟩) ∧ bv = .int .i64 (st : Int) ∧ st ≤ B.size ∧ acc.size ≤ 254 ∧ (∀ x, x ≤ e2 → P x ≤ en) ∧ Nst w wr g b o cap en sh B row k' st e2 ov nv acc P ∧ Hid (rn B k k en sh 0 = via acc P (rn B k' st e2 ov acc.size)))
    (fun rv bv _ wr => (intOf bv).toNat * (B.size + 1) + (numAt wr rv 2 - numAt wr rv 1))
  case atStart => exact ⟨g, k, k, en, sh, ⟨#[]⟩, id, rfl, rfl, by omega, by decide, fun x hx => hx, HN0.out nq, (via_start _).symm⟩
  case round =>
    clear HN0
    obtain ⟨row, k', st, e2, ov, acc, P, rfl, rfl, hst, hac, hP, hN, HR⟩ := hrel
    have HM1 := hide' hN.rd.num1
    have HM2 := hide' hN.rd.num2
    have hke := hN.ke
    have heS := hN.eS
    have hov : ov ≠ 0 := by rcases hN.ovn with e | e <;> omega
    have hovb : ((ov : Int) != 0) = true := by simp [bne_iff_ne]; omega
    obtain ⟨p, c, hnv, hpc⟩ : ∃ p c, u7 = .slice p acc.size c ∧ acc.size ≤ c := by
      obtain ⟨p, c, e1, e2, _⟩ := own_shape hN.own
      exact ⟨p, c, e1, e2⟩
    subst hnv
    by_cases hlt : k' < e2
    · have hbyte := hN.by_.at_ (k := k') (by omega)
      have hyl := bt_lt B k'
      obtain ⟨y, hy⟩ : ∃ y, bt B k' = y := ⟨_, rfl⟩
      have HY : Hid (bt B k' = y) := hy
      rw [hy] at hbyte hyl
      clear hy
      have HN := hide' hN
      have FT1 : Hid True := trivial
      have FA1 : Hid True := trivial
      by_cases h0 : y = 0
      · have HQ : Hid (rn B k k en sh 0 = .ok (acc ++ ⟨#[0]⟩, P (k' + 1))) := by unfold Hid; rw [HR.out, rn_zero hlt (by rw [HY.out]; exact h0)]; rfl
        have hy0 : ((y : Int) == 0) = true := by rw [beq_iff_eq]; omega
        have hadd : ∀ W : World, (Op.stringOp .add acc ⟨#[0]⟩).run Try.prog W = .ok (.string (acc ++ ⟨#[0]⟩)) W := fun W => run_string_add_sum W _ _ (by have := hN.small; show acc.size + 1 ≤ _; omega)
        go_wp2_with (first | (go_at_call 45; have _ := FT1; clear FT1; refine (HTyes.out row k' e2 ov 1 _ hN.rd (by omega) heS hc (by omega) (by omega) (by omega)).mono ?_; rintro e w1 ⟨rfl, hr1, hg1⟩; have hN1 := hN.move hg hb hgb hr1 (by omega) hg1; have HN1 := hide' hN1; have hc1 : w1.cell? ⟨b, o + k', none⟩ = some (.int .u8 (y : Int)) := by { rw [← HY.out]; exact hN1.by_.at_ (by omega) }; clear hr1 hg1 hN1; have hcv := own_text HN1.out.own))
        go_ret2
        rw [HQ.out]
        exact ⟨rfl, HN1.out.fin _ _ (fun _ => rfl) HN1.out.rd, HN1.out.gr⟩
      by_cases h192 : 192 ≤ y
      · by_cases hp1 : k' + 1 < e2
        · obtain ⟨q, hq⟩ : ∃ q, (y - 192) * 256 + bt B (k' + 1) = q := ⟨_, rfl⟩
          have HP := hide' hq
          have hPl := hide' (fun (w1 : World) (h : Rr w1 row (.slice (some ⟨b, o, none⟩) B.size cap) (k' + 1) e2 ov) (hB : Lib.Bytes w1 b o B) (hbr : b ≠ row) => place_yes row b o cap (k' + 1) e2 ov y B w1 h hB hbr (by omega) heS hc (by omega) h192 hyl)
          rw [hq] at hPl
          clear hq
          have hbr : b ≠ row := by rcases hN.rw with e | e <;> omega
          by_cases hps : q < st
          · have HQ : Hid (rn B k k en sh 0 = via acc (fun _ => P (k' + 1 + 1)) (rn B q q B.size 10 acc.size)) := by unfold Hid; rw [HR.out, rn_ptr hlt (by rw [HY.out]; omega) (by omega) (by rw [HY.out, HP.out]; exact hps), HY.out, HP.out, via_bhd]
            go_wp2_with (first | (go_at_call 45; have _ := FT1; clear FT1; refine (HTyes.out row k' e2 ov 1 _ hN.rd (by omega) heS hc (by omega) (by omega) (by omega)).mono ?_; rintro e w1 ⟨rfl, hr1, hg1⟩; have hN1 := hN.move hg hb hgb hr1 (by omega) hg1; have HN1 := hide' hN1; have hc1 : w1.cell? ⟨b, o + k', none⟩ = some (.int .u8 (y : Int)) := by { rw [← HY.out]; exact hN1.by_.at_ (by omega) }; clear hr1 hg1 hN1) | (go_at_call 53; refine (hPl.out _ HN1.out.rd HN1.out.by_ hbr).mono ?_; rintro e w2 ⟨rfl, hr2, hg2⟩; have hN2 := HN1.out.move hg hb hgb hr2 (by omega) hg2; have HN2 := hide' hN2; have hf2 : w2.frozen? ⟨w.heap.size, 1, none⟩ = false := by { obtain ⟨a, ha⟩ := hN2.rest; exact ha.free 1 }; obtain ⟨a0, hs2⟩ : ∃ a0 : Nat, w2.cell? ⟨w.heap.size, 1, none⟩ = some (.int .i64 (a0 : Int)) := by { obtain ⟨a, ha⟩ := hN2.rest; exact ⟨a, ha.c1⟩ }; clear hr2 hg2 hN2))
            have hN3 := HN2.out.jump hg hb q (by omega) rfl
            go_roundw
            case rel => exact ⟨_, q, q, _, _, acc, _, rfl, rfl, by omega, hac, fun x _ => hP _ (by omega), hN3, HQ⟩
            case measure =>
              rw [hN3.rd.num1, hN3.rd.num2, HM1.out, HM2.out]
              simp only [intOf, Int.toNat_natCast]
              have : q * (B.size + 1) + (B.size + 1) ≤ st * (B.size + 1) := by rw [← Nat.succ_mul]; exact Nat.mul_le_mul_right _ hps
              omega
          · have HQ : Hid (rn B k k en sh 0 = .error 9) := by unfold Hid; rw [HR.out, rn_far hlt (by rw [HY.out]; omega) (by omega) (by rw [HY.out, HP.out]; exact hps)]; rfl
            go_wp2_with (first | (go_at_call 45; have _ := FT1; clear FT1; refine (HTyes.out row k' e2 ov 1 _ hN.rd (by omega) heS hc (by omega) (by omega) (by omega)).mono ?_; rintro e w1 ⟨rfl, hr1, hg1⟩; have hN1 := hN.move hg hb hgb hr1 (by omega) hg1; have HN1 := hide' hN1; have hc1 : w1.cell? ⟨b, o + k', none⟩ = some (.int .u8 (y : Int)) := by { rw [← HY.out]; exact hN1.by_.at_ (by omega) }; clear hr1 hg1 hN1) | (go_at_call 53; refine (hPl.out _ HN1.out.rd HN1.out.by_ hbr).mono ?_; rintro e w2 ⟨rfl, hr2, hg2⟩; have HN2 := hide' (HN1.out.move hg hb hgb hr2 (by omega) hg2); clear hr2 hg2))
            go_ret2
            rw [HQ.out]
            exact ⟨rfl, HN2.out.fin' hP⟩
        · have HQ : Hid (rn B k k en sh 0 = .error ov) := by unfold Hid; rw [HR.out, rn_short hlt (by rw [HY.out]; omega) (by omega)]; rfl
          go_wp2_with (first | (go_at_call 45; have _ := FT1; clear FT1; refine (HTyes.out row k' e2 ov 1 _ hN.rd (by omega) heS hc (by omega) (by omega) (by omega)).mono ?_; rintro e w1 ⟨rfl, hr1, hg1⟩; have hN1 := hN.move hg hb hgb hr1 (by omega) hg1; have HN1 := hide' hN1; have hc1 : w1.cell? ⟨b, o + k', none⟩ = some (.int .u8 (y : Int)) := by { rw [← HY.out]; exact hN1.by_.at_ (by omega) }; clear hr1 hg1 hN1) | (go_at_call 53; refine (HPno.out row (k' + 1) e2 ov y _ HN1.out.rd (by omega) (by omega) (by omega) hov).mono ?_; rintro e w2 ⟨rfl, m, hm⟩; have HN2 := hide' (hm ▸ HN1.out.drew hg hb hgb m); clear hm))
          go_ret2
          rw [HQ.out]
          exact ⟨rfl, HN2.out.fin' hP⟩
      by_cases h64 : 64 ≤ y
      · have HQ : Hid (rn B k k en sh 0 = .error 9) := by unfold Hid; rw [HR.out, rn_mid hlt (by rw [HY.out]; omega) (by rw [HY.out]; omega)]; rfl
        go_wp2_with (go_at_call 45; have _ := FT1; clear FT1; refine (HTyes.out row k' e2 ov 1 _ hN.rd (by omega) heS hc (by omega) (by omega) (by omega)).mono ?_; rintro e w1 ⟨rfl, hr1, hg1⟩; have hN1 := hN.move hg hb hgb hr1 (by omega) hg1; have HN1 := hide' hN1; have hc1 : w1.cell? ⟨b, o + k', none⟩ = some (.int .u8 (y : Int)) := by { rw [← HY.out]; exact hN1.by_.at_ (by omega) }; clear hr1 hg1 hN1)
        go_ret2
        rw [HQ.out]
        exact ⟨rfl, HN1.out.fin' hP⟩
      by_cases hl : k' + 1 + y ≤ e2
      · skip
        have hz1' : (B.extract k' (k' + 1)).size = 1 := by simp [ByteArray.size_extract]; omega
        have hz2' : (B.extract (k' + 1) (k' + 1 + y)).size = y := by simp [ByteArray.size_extract]; omega
        have hz3' : (B.extract k' (k' + 1 + y)).size = 1 + y := by simp [ByteArray.size_extract]; omega
        have HEX : Hid (B.extract k' (k' + 1) ++ B.extract (k' + 1) (k' + 1 + y) = B.extract k' (k' + 1 + y)) := by
          apply ByteArray.ext; simp
        have HL1 : Hid ((Go.Lib.strCells (B.extract k' (k' + 1))).length = 1 * 1) := by unfold Hid; rw [Go.Lib.strCells_length, hz1']
        have HL2 : Hid ((Go.Lib.strCells (B.extract (k' + 1) (k' + 1 + y))).length = y * 1) := by unfold Hid; rw [Go.Lib.strCells_length, hz2']; omega
        have HZ1 := hide' hz1'
        have HZ3 := hide' hz3'
        clear hz1' hz2' hz3'
        have HA : Hid (∀ (v4 : Value) (w4 : World), w4.ownsRow (w.heap.size + 1) 5 1 v4 (acc.size + 1 + y) (Go.Lib.strCells acc ++ Go.Lib.strCells (B.extract k' (k' + 1)) ++ Go.Lib.strCells (B.extract (k' + 1) (k' + 1 + y))) → w4.ownsRow (w.heap.size + 1) 5 1 v4 (acc ++ B.extract k' (k' + 1 + y)).size (Go.Lib.strCells (acc ++ B.extract k' (k' + 1 + y)))) := by
          intro v4 w4 h4
          rw [← HEX.out, ByteArray.size_append, HEX.out, HZ3.out, ← HEX.out, strCells_app, strCells_app, ← List.append_assoc, ← Nat.add_assoc]
          exact h4
        go_wp2_with (first
          | (go_at_call 45; have _ := FT1; clear FT1; refine (HTyes.out row k' e2 ov 1 _ hN.rd (by omega) heS hc (by omega) (by omega) (by omega)).mono ?_; rintro e w1 ⟨rfl, hr1, hg1⟩; have hN1 := hN.move hg hb hgb hr1 (by omega) hg1; have HN1 := hide' hN1; have hc1 : w1.cell? ⟨b, o + k', none⟩ = some (.int .u8 (y : Int)) := by { rw [← HY.out]; exact hN1.by_.at_ (by omega) }; clear hr1 hg1 hN1)
          | (go_at_call 45; refine (HTyes.out row (k' + 1) e2 ov y _ HN1.out.rd (by omega) heS hc (by omega) hl (by omega)).mono ?_; rintro e w2 ⟨rfl, hr2, hg2⟩; have HN2 := hide' (HN1.out.move hg hb hgb hr2 hl hg2); clear hr2 hg2)
          | (at_builtin; have _ := FA1; clear FA1; refine wpList_append_own _ rfl _ _ 26 rfl (w.heap.size + 1) 5 i0 (.int .u8 0) 1 1 Try.underlying26 hi hz0 hz1 hz2 rfl (by decide) _ _ _ rfl HN2.out.own ⟨b, o + k', none⟩ 1 (cap - k') (Go.Lib.strCells (B.extract k' (k' + 1))) rfl HL1.out (Bytes_win HN2.out.by_ (by omega)) (strCells_one _) (by unfold maxLen; omega) (by omega) HN2.out.sz ?_; intro v3 w3 hown3 hgrow3 _; have HO3 := hide' hown3; have HG3 := hide' hgrow3; have HN3 := hide' (HN2.out.grow (acc2 := acc ++ B.extract k' (k' + 1)) hg hb (by rw [ByteArray.size_append, HZ1.out, strCells_app]; exact hown3) (by rw [ByteArray.size_append, HZ1.out]; omega) hgrow3); clear hown3 hgrow3)
          | (at_builtin; refine wpList_append_own _ rfl _ _ 26 rfl (w.heap.size + 1) 5 i0 (.int .u8 0) 1 1 Try.underlying26 hi hz0 hz1 hz2 rfl (by decide) _ _ _ rfl HO3.out ⟨b, o + (k' + 1), none⟩ y (cap - (k' + 1)) (Go.Lib.strCells (B.extract (k' + 1) (k' + 1 + y))) rfl HL2.out (Bytes_win HN3.out.by_ (by omega)) (strCells_one _) (by unfold maxLen; omega) (by omega) HN3.out.sz ?_; intro v4 w4 hown4 hgrow4 _; have HN4 := hide' (HN3.out.grow (acc2 := acc ++ B.extract k' (k' + 1 + y)) hg hb (HA.out _ _ hown4) (by rw [ByteArray.size_append, HZ3.out]; omega) hgrow4); obtain ⟨p4, c4, rfl, _⟩ := own_shape hown4; clear hown4 hgrow4))
        · have HQ : Hid (rn B k k en sh 0 = .error 4) := by unfold Hid; rw [HR.out, rn_long hlt (by rw [HY.out]; exact h0) (by rw [HY.out]; omega) (by rw [HY.out]; omega) (by rw [HY.out]; omega)]; rfl
          go_ret2
          rw [HQ.out]
          exact ⟨rfl, HN4.out.fin' hP⟩
        · have HQ : Hid (rn B k k en sh 0 = via (acc ++ B.extract k' (k' + 1 + y)) P (rn B (k' + 1 + y) st e2 ov (acc ++ B.extract k' (k' + 1 + y)).size)) := by
            unfold Hid
            rw [HR.out, rn_label hlt (by rw [HY.out]; exact h0) (by rw [HY.out]; omega) (by rw [HY.out]; omega) (by rw [HY.out]; omega), HY.out, via_pre, ByteArray.size_append, HZ3.out, ← Nat.add_assoc]
          have hN4 := HN4.out
          refine ⟨⟨row, k' + 1 + y, st, e2, ov, acc ++ B.extract k' (k' + 1 + y), P, rfl, rfl, hst, by rw [ByteArray.size_append, HZ3.out]; omega, hP, hN4, HQ⟩, ?_⟩
          rw [hN4.rd.num1, hN4.rd.num2, HM1.out, HM2.out]
          omega
      · have HQ : Hid (rn B k k en sh 0 = .error ov) := by unfold Hid; rw [HR.out, rn_over hlt (by rw [HY.out]; exact h0) (by rw [HY.out]; omega) (by rw [HY.out]; omega)]; rfl
        go_wp2_with (first | (go_at_call 45; have _ := FT1; clear FT1; refine (HTyes.out row k' e2 ov 1 _ hN.rd (by omega) heS hc (by omega) (by omega) (by omega)).mono ?_; rintro e w1 ⟨rfl, hr1, hg1⟩; have hN1 := hN.move hg hb hgb hr1 (by omega) hg1; have HN1 := hide' hN1; have hc1 : w1.cell? ⟨b, o + k', none⟩ = some (.int .u8 (y : Int)) := by { rw [← HY.out]; exact hN1.by_.at_ (by omega) }; clear hr1 hg1 hN1) | (go_at_call 45; refine (HTno.out row (k' + 1) e2 ov y _ HN1.out.rd (by omega) (by omega) (by omega) (by omega)).mono ?_; rintro e w2 ⟨rfl, m, hm⟩; have HN2 := hide' (hm ▸ HN1.out.drew hg hb hgb m); clear hm))
        go_ret2
        rw [HQ.out]
        exact ⟨rfl, HN2.out.fin' hP⟩
    · have HQ : Hid (rn B k k en sh 0 = .error ov) := by unfold Hid; rw [HR.out, rn_end hlt]; rfl
      go_wp2_with (go_at_call 45; refine (HTno.out row k' e2 ov 1 _ hN.rd hke (by omega) (by omega) (by omega)).mono ?_; rintro e w2 ⟨rfl, m, hm⟩; have HN2 := hide' (hm ▸ hN.drew hg hb hgb m); clear hm)
      go_ret2
      rw [HQ.out]
      exact ⟨rfl, HN2.out.fin' hP⟩
end Go.Proofs.Ytinnmfidnecncaa
