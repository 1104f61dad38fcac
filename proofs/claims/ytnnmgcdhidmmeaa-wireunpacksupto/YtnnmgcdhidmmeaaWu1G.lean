import Derived.Test.YtnnmgcdhidmmeaaMathG
import Derived.Shelf.RegionOpen
import Derived.WalkKit
import Derived.WalkSpells
import Derived.WalkLawsBesides
import Derived.OwnWalkIn
import Derived.BigQuiet
import Derived.Deep.QuietTactic
import Derived.RangeFuncBox
import Derived.Lib.SlBytesRow
import Derived.Test.YtnnmgcdhidmmeaaLowG
import Derived.Test.YtnnmgcdhidmmeaaBt1
import Derived.Test.YtnnmgcdhidmmeaaGr1
/-
  Plain facts on names that may be short: no program, no memory. (The verifier's own text.)
-/
namespace Go.Proofs.Ytnnmgcdhidmmeaa.Nm
set_option linter.unusedVariables false

/-- a name that may be short, from k on, up to en; st: where its row of labels began; ov: the error of running over en; had: how many bytes it has already -/
def rn (B : ByteArray) (k st en ov had : Nat) : Except Nat (ByteArray × Nat) :=
  if h1 : k < en then
    if bt B k = 0 then .ok (⟨#[0]⟩, k + 1)
    else if bt B k < 64 then
      if en < k + 1 + bt B k then .error ov
      else if 255 < had + 1 + bt B k + 1 then .error 4
      else match rn B (k + 1 + bt B k) st en ov (had + 1 + bt B k) with
        | .ok r => .ok (B.extract k (k + 1 + bt B k) ++ r.1, r.2)
        | .error e => .error e
    else if bt B k < 192 then .error 9
    else if en < k + 2 then .error ov
    else if h5 : (bt B k - 192) * 256 + bt B (k + 1) < st then
      match rn B ((bt B k - 192) * 256 + bt B (k + 1)) ((bt B k - 192) * 256 + bt B (k + 1)) B.size 10 had with
        | .ok r => .ok (r.1, k + 2)
        | .error e => .error e
    else .error 9
  else .error ov

theorem rn_end {B : ByteArray} {k st en ov had : Nat} (h : ¬ k < en) : rn B k st en ov had = .error ov := by rw [rn, dif_neg h]
theorem rn_zero {B : ByteArray} {k st en ov had : Nat} (h : k < en) (h0 : bt B k = 0) : rn B k st en ov had = .ok (⟨#[0]⟩, k + 1) := by rw [rn, dif_pos h, if_pos h0]
theorem rn_over {B : ByteArray} {k st en ov had : Nat} (h : k < en) (h0 : bt B k ≠ 0) (h6 : bt B k < 64) (ho : en < k + 1 + bt B k) : rn B k st en ov had = .error ov := by rw [rn, dif_pos h, if_neg h0, if_pos h6, if_pos ho]
theorem rn_long {B : ByteArray} {k st en ov had : Nat} (h : k < en) (h0 : bt B k ≠ 0) (h6 : bt B k < 64) (ho : ¬ en < k + 1 + bt B k) (hl : 255 < had + 1 + bt B k + 1) : rn B k st en ov had = .error 4 := by rw [rn, dif_pos h, if_neg h0, if_pos h6, if_neg ho, if_pos hl]
/-- what stands ahead of it -/
def pre (a : ByteArray) (r : Except Nat (ByteArray × Nat)) : Except Nat (ByteArray × Nat) := match r with | .ok r => .ok (a ++ r.1, r.2) | .error e => .error e
/-- what it goes on behind -/
def bhd (k : Nat) (r : Except Nat (ByteArray × Nat)) : Except Nat (ByteArray × Nat) := match r with | .ok r => .ok (r.1, k) | .error e => .error e
theorem rn_label {B : ByteArray} {k st en ov had : Nat} (h : k < en) (h0 : bt B k ≠ 0) (h6 : bt B k < 64) (ho : ¬ en < k + 1 + bt B k) (hl : ¬ 255 < had + 1 + bt B k + 1) : rn B k st en ov had = pre (B.extract k (k + 1 + bt B k)) (rn B (k + 1 + bt B k) st en ov (had + 1 + bt B k)) := by rw [rn, dif_pos h, if_neg h0, if_pos h6, if_neg ho, if_neg hl]; rfl
theorem rn_mid {B : ByteArray} {k st en ov had : Nat} (h : k < en) (h6 : ¬ bt B k < 64) (h9 : bt B k < 192) : rn B k st en ov had = .error 9 := by rw [rn, dif_pos h, if_neg (by omega), if_neg h6, if_pos h9]
theorem rn_short {B : ByteArray} {k st en ov had : Nat} (h : k < en) (h9 : ¬ bt B k < 192) (ho : en < k + 2) : rn B k st en ov had = .error ov := by rw [rn, dif_pos h, if_neg (by omega), if_neg (by omega), if_neg h9, if_pos ho]
theorem rn_far {B : ByteArray} {k st en ov had : Nat} (h : k < en) (h9 : ¬ bt B k < 192) (ho : ¬ en < k + 2) (hp : ¬ (bt B k - 192) * 256 + bt B (k + 1) < st) : rn B k st en ov had = .error 9 := by rw [rn, dif_pos h, if_neg (by omega), if_neg (by omega), if_neg h9, if_neg ho, dif_neg hp]
theorem rn_ptr {B : ByteArray} {k st en ov had : Nat} (h : k < en) (h9 : ¬ bt B k < 192) (ho : ¬ en < k + 2) (hp : (bt B k - 192) * 256 + bt B (k + 1) < st) : rn B k st en ov had = bhd (k + 2) (rn B ((bt B k - 192) * 256 + bt B (k + 1)) ((bt B k - 192) * 256 + bt B (k + 1)) B.size 10 had) := by rw [rn, dif_pos h, if_neg (by omega), if_neg (by omega), if_neg h9, if_neg ho, dif_pos hp]; rfl

theorem bt_ext {B : ByteArray} {k e i : Nat} (h : k + i < e) (he : e ≤ B.size) : bt (B.extract k e) i = bt B (k + i) := by
  have h1 : i < (B.extract k e).size := by simp [ByteArray.size_extract]; omega
  rw [← bt_eq h1, ← bt_eq (show k + i < B.size by omega), ByteArray.getElem_extract]

/-- a label is a chunk -/
theorem label_chunk {B : ByteArray} {k : Nat} (h : k + 1 + bt B k ≤ B.size) (h6 : bt B k < 64) : B.extract k (k + 1 + bt B k) = chunk (B.extract (k + 1) (k + 1 + bt B k)) := by
  have hs : (B.extract (k + 1) (k + 1 + bt B k)).size = bt B k := by simp [ByteArray.size_extract]; omega
  unfold chunk
  rw [hs]
  apply ByteArray.ext
  apply Array.ext
  · simp; omega
  · intro i h1 h2
    have hk : k < B.size := by omega
    have hb : B[k].toNat = bt B k := bt_eq hk
    cases i with
    | zero =>
      simp
      show B[k] = _
      rw [← hb]; simp
    | succ i =>
      simp
      congr 1; omega

theorem rn_ok {B : ByteArray} (k st en ov had : Nat) (s : ByteArray) (nx : Nat) (hE : en ≤ B.size) (hh : had ≤ 254) (h : rn B k st en ov had = .ok (s, nx)) : (∃ l, OkL l ∧ s = putB l) ∧ had + s.size ≤ 255 ∧ k < nx ∧ nx ≤ en := by
  by_cases h1 : k < en
  · by_cases h0 : bt B k = 0
    · rw [rn_zero h1 h0] at h
      simp at h
      obtain ⟨rfl, rfl⟩ := h
      exact ⟨⟨[], fun x hx => (List.not_mem_nil hx).elim, by rw [labs_nil_putB]⟩, by show had + 1 ≤ 255; omega, by omega, by omega⟩
    · by_cases h6 : bt B k < 64
      · by_cases ho : en < k + 1 + bt B k
        · rw [rn_over h1 h0 h6 ho] at h; cases h
        · by_cases hl : 255 < had + 1 + bt B k + 1
          · rw [rn_long h1 h0 h6 ho hl] at h; cases h
          · rw [rn_label h1 h0 h6 ho hl] at h
            unfold pre at h
            split at h
            · rename_i r hr
              obtain ⟨⟨l, hl1, hl2⟩, h2, h3, h4⟩ := rn_ok (k + 1 + bt B k) st en ov (had + 1 + bt B k) r.1 r.2 hE (by omega) hr
              simp at h
              obtain ⟨rfl, rfl⟩ := h
              have hz : (B.extract k (k + 1 + bt B k)).size = 1 + bt B k := by simp [ByteArray.size_extract]; omega
              refine ⟨⟨B.extract (k + 1) (k + 1 + bt B k) :: l, ?_, ?_⟩, ?_, by omega, by omega⟩
              · intro x hx
                rcases List.mem_cons.1 hx with rfl | hx
                · simp [ByteArray.size_extract]; omega
                · exact hl1 x hx
              · rw [putB_cons, ← label_chunk (by omega) h6, hl2]
              · rw [ByteArray.size_append, hz]; omega
            · cases h
      · by_cases h9 : bt B k < 192
        · rw [rn_mid h1 h6 h9] at h; cases h
        · by_cases ho : en < k + 2
          · rw [rn_short h1 h9 ho] at h; cases h
          · by_cases hp : (bt B k - 192) * 256 + bt B (k + 1) < st
            · rw [rn_ptr h1 h9 ho hp] at h
              unfold bhd at h
              split at h
              · rename_i r hr
                obtain ⟨⟨l, hl1, hl2⟩, h2, h3, h4⟩ := rn_ok ((bt B k - 192) * 256 + bt B (k + 1)) ((bt B k - 192) * 256 + bt B (k + 1)) B.size 10 had r.1 r.2 (Nat.le_refl _) hh hr
                simp at h
                obtain ⟨rfl, rfl⟩ := h
                exact ⟨⟨l, hl1, hl2⟩, h2, by omega, by omega⟩
              · cases h
            · rw [rn_far h1 h9 ho hp] at h; cases h
  · rw [rn_end h1] at h; cases h

theorem rn_name {B : ByteArray} {k st en ov : Nat} {s : ByteArray} {nx : Nat} (hE : en ≤ B.size) (h : rn B k st en ov 0 = .ok (s, nx)) : isN s = true ∧ 1 ≤ s.size ∧ s.size ≤ 255 ∧ k < nx ∧ nx ≤ en := by
  obtain ⟨⟨l, h1, rfl⟩, h2, h3, h4⟩ := rn_ok k st en ov 0 s nx hE (by omega) h
  refine ⟨?_, by rw [putB_size]; omega, by omega, h3, h4⟩
  rw [isN_putB h1]
  exact decide_eq_true (by omega)

/-- the number that n bytes from k on are, the highest first -/
def be (B : ByteArray) (k : Nat) : Nat → Nat
  | 0 => 0
  | n + 1 => be B k n * 256 + bt B (k + n)
theorem be_lt (B : ByteArray) (k : Nat) : ∀ n, be B k n < 256 ^ n
  | 0 => by simp [be]
  | n + 1 => by
    have := be_lt B k n
    have := bt_lt B (k + n)
    rw [be, Nat.pow_succ]; omega
theorem be_ext {B : ByteArray} {k e i : Nat} (he : e ≤ B.size) : ∀ n, k + i + n ≤ e → be (B.extract k e) i n = be B (k + i) n
  | 0, _ => rfl
  | n + 1, h => by
    rw [be, be, be_ext he n (by omega), bt_ext (by omega) he]
    simp only [Nat.add_assoc]
end Go.Proofs.Ytnnmgcdhidmmeaa.Nm

namespace Go.Proofs.Ytnnmgcdhidmmeaa
set_option linter.unusedVariables false
open Go.RowKit Go.Shelf Nm

/-- a reader in memory: its bytes, its place, its end, its error -/
def Rr (w : World) (g : Nat) (v : Value) (k en sh : Nat) : Prop :=
  w.heap[g]? = some (.cells #[v, .int .i64 (k : Int), .int .i64 (en : Int), .int .i64 (sh : Int)] 39 (0, 0))
section
variable {w : World} {g : Nat} {v : Value} {k en sh : Nat}
theorem Rr.lt (h : Rr w g v k en sh) : g < w.heap.size := (Array.getElem?_eq_some_iff.1 h).1
theorem Rr.c0 (h : Rr w g v k en sh) : w.cell? ⟨g, 0, none⟩ = some v := by unfold Rr at h; simp [World.cell?, h]
theorem Rr.c1 (h : Rr w g v k en sh) : w.cell? ⟨g, 1, none⟩ = some (.int .i64 (k : Int)) := by unfold Rr at h; simp [World.cell?, h]
theorem Rr.c2 (h : Rr w g v k en sh) : w.cell? ⟨g, 2, none⟩ = some (.int .i64 (en : Int)) := by unfold Rr at h; simp [World.cell?, h]
theorem Rr.c3 (h : Rr w g v k en sh) : w.cell? ⟨g, 3, none⟩ = some (.int .i64 (sh : Int)) := by unfold Rr at h; simp [World.cell?, h]
theorem Rr.free (h : Rr w g v k en sh) (j : Nat) : w.frozen? ⟨g, j, none⟩ = false := by unfold Rr at h; simp [World.frozen?, h]
theorem Rr.drewN (h : Rr w g v k en sh) (n : Nat) : Rr (w.drewN n) g v k en sh := h
theorem Rr.set1 (h : Rr w g v k en sh) (k' : Nat) : Rr (w.setCell ⟨g, 1, none⟩ (.int .i64 (k' : Int))) g v k' en sh := by
  unfold Rr at *
  simp [World.setCell, Array.getElem?_modify, h]
theorem Rr.go (h : Rr w g v k en sh) (k' : Nat) {y : Int} (hy : y = (k' : Int)) : Rr (w.setCell ⟨g, 1, none⟩ (.int .i64 y)) g v k' en sh := by subst hy; exact h.set1 k'
theorem Rr.below {w' : World} (h : Rr w g v k en sh) (hb : Below w.heap.size w w') : Rr w' g v k en sh := (hb.block g h.lt).trans h
theorem Rr.grown {w' : World} {b : Nat} (h : Rr w g v k en sh) (hb : w.grownBy w' (some b)) (hne : g ≠ b) : Rr w' g v k en sh := (hb.block g h.lt (fun e => hne (Option.some.inj e))).trans h
end

theorem _root_.Go.Lib.Bytes.drw {w : World} {b o : Nat} {B : ByteArray} (h : Lib.Bytes w b o B) (n : Nat) : Lib.Bytes (w.drewN n) b o B := h
theorem _root_.Go.Lib.Bytes.blk {w w' : World} {b o : Nat} {B : ByteArray} (h : Lib.Bytes w b o B) (hb : w'.heap[b]? = w.heap[b]?) : Lib.Bytes w' b o B := fun i hi => by
  rw [World.cell?_of_block hb]; exact h i hi
theorem _root_.Go.Lib.Bytes.at_ {w : World} {b o : Nat} {B : ByteArray} (h : Lib.Bytes w b o B) {k : Nat} (hk : k < B.size) : w.cell? ⟨b, o + k, none⟩ = some (.int .u8 (bt B k : Int)) := by
  rw [h k hk, bt_eq hk]

set_option maxRecDepth 100000 in
set_option maxHeartbeats 1000000 in
/-- take, where there isn't enough -/
theorem take_no (g : Nat) (v : Value) (k en sh n : Nat) (w : World) (h : Rr w g v k en sh) (hk : k ≤ en) (hE : en ≤ 1048576) (hn : n ≤ 65535) (hno : en < k + n) :
    Calls Try.prog 27 #[.pointer (some ⟨g, 0, none⟩), .int .i64 (n : Int)] w fun e w' => e = .returned (.tuple #[.slice none 0 0, .int .i64 (sh : Int)]) ∧ ∃ m, w' = w.drewN m := by
  have c1 := h.c1
  have c2 := h.c2
  have c3 := h.c3
  go_enter Try.func27, Try.ntmps27
  go_wp2_with fail
  go_quiet (fail)
  obtain ⟨nq', hnq⟩ : ∃ m, nq = m := ⟨_, rfl⟩
  rw [hnq]
  have hq : Rr (w.drewN nq') g v k en sh := h.drewN nq'
  obtain ⟨wq, hwq⟩ : ∃ wq, w.drewN nq' = wq := ⟨_, rfl⟩
  rw [hwq] at hq ⊢
  clear c1 c2 c3
  have c3 := hq.c3
  go_wp2_with fail
  go_quiet (fail)
  go_wp2
  go_ret2
  subst hwq
  exact ⟨rfl, nq' + nq, by simp [World.drewN, Nat.add_assoc]⟩

set_option maxRecDepth 100000 in
set_option maxHeartbeats 1000000 in
/-- take, where there is enough -/
theorem take_yes (g b o len cap : Nat) (k en sh n : Nat) (w : World) (h : Rr w g (.slice (some ⟨b, o, none⟩) len cap) k en sh) (hE : en ≤ 1048576) (hL : en ≤ len) (hc : len ≤ cap) (hn : n ≤ 65535) (hno : k + n ≤ en) (h0 : 0 < n) :
    Calls Try.prog 27 #[.pointer (some ⟨g, 0, none⟩), .int .i64 (n : Int)] w fun e w' => e = .returned (.tuple #[.slice (some ⟨b, o + k, none⟩) n (cap - k), .int .i64 0]) ∧ Rr w' g (.slice (some ⟨b, o, none⟩) len cap) (k + n) en sh ∧ w.grownBy w' (some g) := by
  have c1 := h.c1
  have c2 := h.c2
  have c3 := h.c3
  go_enter Try.func27, Try.ntmps27
  go_wp2_with fail
  go_quiet (fail)
  have hq : Rr (w.drewN nq) g _ k en sh := h.drewN nq
  have gq := hide' (grown_drewN w nq (some g))
  generalize w.drewN nq = wq at *
  clear c1 c2 c3
  have c1 := hq.c1
  have f1 := hq.free 1
  go_wp2_with fail
  have hs := hq.go (k + n) (y := (k : Int) + n) (by omega)
  have gs := hide' (grown_trans gq.out (grown_set wq g 1 (.int .i64 ((k : Int) + n))))
  generalize wq.setCell ⟨g, 1, none⟩ (.int .i64 ((k : Int) + n)) = ws at *
  clear c1 f1
  have c0 := hs.c0
  have c1 := hs.c1
  have e1 : IntKind.i64.wrap (((k + n : Nat) : Int) - (n : Int)) = (k : Int) := by rw [IntWalk.i64_in] <;> omega
  have hsl : ∀ W : World, (Instr.slice 22 (.slice (some ⟨b, o, none⟩) len cap) (some (.int .i64 (k : Int))) (some (.int .i64 ((k + n : Nat) : Int))) none).run Try.prog W = .ok (.slice (some ⟨b, o + k, none⟩) n (cap - k)) W := fun W => by
    have := Lib.run_slice_window (P := Try.prog) W 22 5 Try.underlying22 (fun w => Try.sizeOf5 w) b o len cap k (k + n) (by omega) (by omega)
    rw [this, Nat.add_sub_cancel_left]
  have hkn : k + n - k = n := Nat.add_sub_cancel_left k n
  go_quiet (fail)
  go_wp2
  go_ret2
  exact ⟨by show Ending.returned (.tuple #[.slice (some ⟨b, o + k, none⟩) (k + n - k) (cap - k), .int .i64 0]) = _; rw [hkn], hs, grown_trans gs.out (grown_drewN _ _ _)⟩

theorem shl8 (x y : Nat) (hx : x < 16777216) (hy : y < 256) : bits .or .i64 ((x : Int) * 256) (y : Int) = ((x * 256 + y : Nat) : Int) := by
  have := or_shl 8 x y (by omega) (by omega) (by omega)
  simpa using this

set_option maxRecDepth 100000 in
set_option maxHeartbeats 1000000 in
/-- wire.number -/
theorem wnumber_any (b o k n c : Nat) (B : ByteArray) (w : World) (h : Lib.Bytes w b o B) (hk : k + n ≤ B.size) (hn : n ≤ 4) :
    Calls Try.prog 9 #[.slice (some ⟨b, o + k, none⟩) n c] w fun e w' => e = .returned (.int .i64 (be B k n : Int)) ∧ w' = w := by
  go_enter Try.func9, Try.ntmps9
  go_wp2
  go_loop [3, 8] (fun a i => ∃ j : Nat, i = .int .i64 (j : Int) ∧ a = .int .i64 (be B k j : Int) ∧ j ≤ n) (fun _ i => n - (intOf i).toNat)
  case atStart => exact ⟨0, rfl, rfl, Nat.zero_le _⟩
  case round =>
    obtain ⟨j, rfl, rfl, hj⟩ := hrel
    by_cases hlt : j < n
    · have hc := h.at_ (k := k + j) (by omega)
      have hl : be B k j < 16777216 := by
        have h1 := be_lt B k j
        have h2 : 256 ^ j ≤ 256 ^ 3 := Nat.pow_le_pow_right (by omega) (by omega)
        omega
      have hor := shl8 (be B k j) (bt B (k + j)) hl (bt_lt _ _)
      have HE : Hid (be B k (j + 1) = be B k j * 256 + bt B (k + j)) := rfl
      have hb := bt_lt B (k + j)
      rw [← Nat.add_assoc] at hc
      generalize bt B (k + j) = y at *
      generalize be B k j = x at *
      go_wp2
      go_round
      case rel => exact ⟨j + 1, by go_num, by rw [HE.out]; simp, by omega⟩
      case measure => simp [intOf]; omega
    · obtain rfl : j = n := by omega
      go_wp2
      go_ret
      exact ⟨rfl, rfl⟩

set_option maxRecDepth 100000 in
set_option maxHeartbeats 1000000 in
/-- place, where there isn't enough -/
theorem place_no (g : Nat) (v : Value) (k en sh y : Nat) (w : World) (h : Rr w g v k en sh) (hk : k ≤ en) (hE : en ≤ 1048576) (hno : en < k + 1) (hsh : sh ≠ 0) :
    Calls Try.prog 33 #[.pointer (some ⟨g, 0, none⟩), .int .i64 (y : Int)] w fun e w' => e = .returned (.tuple #[.int .i64 0, .int .i64 (sh : Int)]) ∧ ∃ m, w' = w.drewN m := by
  have HT := hide' (take_no g v k en sh 1 w h hk hE (by omega) hno)
  go_enter Try.func33, Try.ntmps33
  by_cases hs : sh = 0
  · subst hs
    exact absurd rfl hsh
  have hb : ((sh : Int) != 0) = true := by simp [bne_iff_ne]; omega
  go_wp2_with (go_at_call 27; refine HT.out.mono ?_; rintro e w1 ⟨rfl, m, rfl⟩)
  go_ret2
  exact ⟨rfl, m, rfl⟩

set_option maxRecDepth 100000 in
set_option maxHeartbeats 1000000 in
/-- place, where there is enough -/
theorem place_yes (g b o cap : Nat) (k en sh y : Nat) (B : ByteArray) (w : World) (h : Rr w g (.slice (some ⟨b, o, none⟩) B.size cap) k en sh) (hB : Lib.Bytes w b o B) (hgb : b ≠ g) (hE : en ≤ 1048576) (hL : en ≤ B.size) (hc : B.size ≤ cap) (hno : k + 1 ≤ en) (hy : 192 ≤ y) (hyl : y < 256) :
    Calls Try.prog 33 #[.pointer (some ⟨g, 0, none⟩), .int .i64 (y : Int)] w fun e w' => e = .returned (.tuple #[.int .i64 (((y - 192) * 256 + bt B k : Nat) : Int), .int .i64 0]) ∧ Rr w' g (.slice (some ⟨b, o, none⟩) B.size cap) (k + 1) en sh ∧ w.grownBy w' (some g) := by
  have HT := hide' (take_yes g b o B.size cap k en sh 1 w h hE hL hc (by omega) hno (by omega))
  have hcell := hB.at_ (k := k) (by omega)
  have hbl : b < w.heap.size := by
    rcases Nat.lt_or_ge b w.heap.size with h | h
    · exact h
    · simp [World.cell?, Array.getElem?_eq_none h] at hcell
  have hby := bt_lt B k
  have hor := shl8 (y - 192) (bt B k) (by omega) hby
  generalize bt B k = x at *
  obtain ⟨z, hz⟩ : ∃ z, y = 192 + z := ⟨y - 192, by omega⟩
  subst hz
  rw [Nat.add_sub_cancel_left] at hor ⊢
  have e1 : (((192 + z : Nat) : Int)) - 192 = (z : Int) := by omega
  go_enter Try.func33, Try.ntmps33
  go_wp2_with (go_at_call 27; refine HT.out.mono ?_; rintro e w1 ⟨rfl, h1, hg1⟩; have c1 := (World.cell?_of_block (a := ⟨b, o + k, none⟩) (hg1.block b hbl (fun e => hgb (Option.some.inj e)))).trans hcell)
  go_ret2
  exact ⟨by rw [← hor]; simp; rw [show (192 : Int) + (z : Int) - 192 = (z : Int) by omega], h1, hg1⟩
end Go.Proofs.Ytnnmgcdhidmmeaa
