import Derived.Test.YtfofdcacikbflaaDoorVs2
import Derived.Shelf.RegionOpenPlain
import Derived.Lib.BufferRead
namespace Go.Proofs.YtfofdcacikbflaaDoor
set_option linter.unusedVariables false
open Go.RowKit Go.Shelf Go.Proofs.YtfofdcacikbflaaDoor.Nm

/-- a set under way: the blocks that are done, the block, its bytes -/
structure SetS where
  done : List Nat
  blk : Int
  marks : List Nat
def SetS.bytes (s : SetS) : List Nat := if s.blk < 0 then s.done else s.done ++ s.blk.toNat :: s.marks.length :: s.marks
def SetS.next (s : SetS) (b : Nat) : SetS := if (b : Int) = s.blk then s else ⟨s.bytes, b, []⟩
def SetS.fill (s : SetS) (k : Nat) : SetS := { s with marks := s.marks ++ List.replicate (k + 1 - s.marks.length) 0 }
def SetS.mark (s : SetS) (m : Nat) : SetS := { s with marks := s.marks.set (s.marks.length - 1) (s.marks.getD (s.marks.length - 1) 0 ||| m) }
def SetS.step (s : SetS) (t : Int) : SetS := if isTy t = true then ((s.next (t.toNat / 256)).fill (t.toNat % 256 / 8)).mark (2 ^ (7 - t.toNat % 8)) else s
def SetS.init : SetS := ⟨[], -1, []⟩
def setB (M : List Int) : List Nat := (M.foldl SetS.step SetS.init).bytes

/-- what holds of a set under way -/
structure SetS.Ok (s : SetS) : Prop where
  low : -1 ≤ s.blk
  high : s.blk ≤ 255
  ml : s.marks.length ≤ 32
  lt : ∀ x ∈ s.bytes, x < 256
  neg : s.blk < 0 → s.marks = []

theorem init_ok : SetS.init.Ok := ⟨by decide, by decide, by decide, (fun x hx => by cases hx), fun _ => rfl⟩
/-- a row of bytes as a text -/
theorem str_owns {W : World} {b c : Nat} {p : Option Addr} {xs : List Nat} (h : W.ownsRow b 5 1 (.slice p xs.length c) xs.length (byts xs)) (hx : ∀ x ∈ xs, x < 256) : (convert 44 9 (.slice p xs.length c)).run Tryd.prog W = .ok (.string (bts xs)) W := by
  have hz : (bts xs).size = xs.length := bts_size _
  rcases h.2 with ⟨h1, h0⟩ | ⟨g, cap, cur, h1, _⟩
  · simp at h1
    obtain ⟨rfl, _, rfl⟩ := h1
    have : xs = [] := List.eq_nil_of_length_eq_zero h0
    subst this
    exact Go.Lib.run_convert_nil_bytes W 44 9 5 0 Tryd.underlying44 Tryd.underlying5 Tryd.underlying9
  · simp at h1
    obtain ⟨rfl, rfl⟩ := h1
    have h' := owns_str (t := bts xs) (w := W) (base := b) (g := g) (cap := c) (by rw [hz, bts_cells _ hx]; exact h)
    rw [hz] at h'; exact h'

def OkD (D mk : List Nat) : Prop := (∀ x ∈ D, x < 256) ∧ ∀ x ∈ mk, x < 256
theorem bytes_pos {D mk : List Nat} {b : Nat} : (⟨D, b, mk⟩ : SetS).bytes = D ++ b :: mk.length :: mk := by
  unfold SetS.bytes; rw [if_neg (by show ¬ ((b : Int) < 0); omega)]; simp
theorem ok_split {D mk : List Nat} {b : Nat} (h : (⟨D, b, mk⟩ : SetS).Ok) : OkD D mk := by
  have := h.lt
  rw [bytes_pos] at this
  exact ⟨fun x hx => this x (by simp [hx]), fun x hx => this x (by simp [hx])⟩
theorem byts_set (l : List Nat) (i x : Nat) : byts (l.set i x) = (byts l).set i (.int .u8 (x : Int)) := by simp [byts, List.map_set]
theorem up_len (D mk : List Nat) (b : Nat) : (D ++ b :: mk.length :: mk ++ [0]).set (D.length + 1) (mk.length + 1) = D ++ b :: (mk ++ [0]).length :: (mk ++ [0]) := by
  rw [List.append_assoc, List.set_append_right _ _ (by omega)]
  simp
theorem at_len (D mk : List Nat) (b : Nat) (l : List Nat) : (D ++ b :: mk.length :: (mk ++ l))[D.length + 1]? = some mk.length := by
  rw [List.getElem?_append_right (by omega)]; simp
/-- the bytes of the block, filled -/
def Fills (mk0 mk : List Nat) (r : Nat) : Prop := mk0.length ≤ mk.length ∧ mk = mk0 ++ List.replicate (mk.length - mk0.length) 0 ∧ (mk.length = mk0.length ∨ mk.length ≤ r + 1)

theorem fills_start {mk0 : List Nat} {r : Nat} : Fills mk0 mk0 r := ⟨Nat.le_refl _, by simp, .inl rfl⟩
theorem owns_cp {w : World} {base e : Nat} {p : Option Addr} {n cap : Nat} {xs : List Value} {m : Nat} (h : w.ownsRow base e 1 (.slice p m cap) n xs) : n ≤ cap ∧ cap ≤ 9223372036854775807 := by
  obtain ⟨hl, (⟨h1, h0⟩ | ⟨g, cap', cur, h1, hb, hg, hn, hcap, hsz, ht⟩)⟩ := h
  · simp at h1; exact ⟨by omega, by omega⟩
  · simp at h1; obtain ⟨e, _, rfl⟩ := h1; exact ⟨hn, by unfold maxLen at hcap; omega⟩
theorem own_zero {w : World} {base e N : Nat} {v : Value} {l : List Nat} (h : w.ownsRow base e 1 v N (byts l ++ [.int .u8 0])) : w.ownsRow base e 1 v N (byts (l ++ [0])) := by simpa [byts] using h
theorem cell_zero {w : World} {base e N g c b : Nat} {D mk : List Nat} (h : w.ownsRow base e 1 (.slice (some ⟨g, 0, none⟩) (N + 1) c) (N + 1) (byts (D ++ b :: mk.length :: mk ++ [0]))) (hN : N = D.length + 2 + mk.length) : w.cell? ⟨g, D.length + 1, none⟩ = some (.int .u8 (mk.length : Int)) := by
  rw [h.cellAt (D.length + 1) (by omega)]
  have := at_len D mk b [0]
  rw [show D ++ b :: mk.length :: mk ++ [0] = D ++ b :: mk.length :: (mk ++ [0]) by simp]
  simp only [byts, List.getElem?_map, this]; rfl

theorem cell_last {w : World} {base e N N1 g c b x : Nat} {D mk : List Nat} (h : w.ownsRow base e 1 (.slice (some ⟨g, 0, none⟩) N1 c) N1 (byts (D ++ b :: mk.length :: mk))) (hN : N1 = D.length + 2 + mk.length) (hN1 : N1 = N + 1) (hm : 1 ≤ mk.length) (hx : mk.getD (mk.length - 1) 0 = x) : w.cell? ⟨g, N, none⟩ = some (.int .u8 (x : Int)) := by
  rw [h.cellAt N (by omega)]
  have e : (D ++ b :: mk.length :: mk)[N]? = some x := by
    rw [List.getElem?_append_right (by omega), show N - D.length = (mk.length - 1) + 2 by omega]
    simp only [List.getElem?_cons_succ]
    rw [← hx, List.getD_eq_getElem?_getD, List.getElem?_eq_getElem (by omega)]; rfl
  simp only [byts, List.getElem?_map, e]; rfl

theorem step_row {w : World} {base e N g c b : Nat} {D mk : List Nat} (h : w.ownsRow base e 1 (.slice (some ⟨g, 0, none⟩) (N + 1) c) (N + 1) (byts (D ++ b :: mk.length :: mk ++ [0]))) :
    (w.setCell ⟨g, D.length + 1, none⟩ (.int .u8 ((mk.length : Int) + 1))).ownsRow base e 1 (.slice (some ⟨g, 0, none⟩) (N + 1) c) (N + 1) (byts (D ++ b :: (mk ++ [0]).length :: (mk ++ [0]))) := by
  have := (h.stored (D.length + 1) (.int .u8 ((mk.length + 1 : Nat) : Int))).1
  rw [← byts_set, up_len] at this
  exact this
theorem fills_up {mk0 mk : List Nat} {r : Nat} (h : Fills mk0 mk r) (hr : mk.length ≤ r) : Fills mk0 (mk ++ [0]) r := by
  obtain ⟨h1, h2, h3⟩ := h
  refine ⟨by simp; omega, ?_, .inr (by simp; omega)⟩
  rw [List.length_append, List.length_singleton, show mk.length + 1 - mk0.length = (mk.length - mk0.length) + 1 by omega, List.replicate_succ', ← List.append_assoc, ← h2]
theorem fills_end {mk0 mk : List Nat} {r : Nat} (h : Fills mk0 mk r) (hr : r + 1 ≤ mk.length) : mk = mk0 ++ List.replicate (r + 1 - mk0.length) 0 := by
  obtain ⟨h1, h2, h3⟩ := h
  rcases h3 with h3 | h3
  · rw [h3, Nat.sub_self] at h2; rw [show r + 1 - mk0.length = 0 by omega]; exact h2
  · rw [show r + 1 = mk.length by omega]; exact h2
theorem fills_lt {mk0 mk : List Nat} {r : Nat} (h : Fills mk0 mk r) (h0 : ∀ y ∈ mk0, y < 256) : ∀ y ∈ mk, y < 256 := by
  intro y hy
  rw [h.2.1] at hy
  rcases List.mem_append.1 hy with h | h
  · exact h0 y h
  · have := (List.mem_replicate.1 h).2; omega
theorem getD_lt {l : List Nat} (h : ∀ y ∈ l, y < 256) (i : Nat) : l.getD i 0 < 256 := by
  rw [List.getD_eq_getElem?_getD]
  cases e : l[i]? with
  | none => decide
  | some y => exact h y (List.mem_of_getElem? e)
theorem end_ok {D mk : List Nat} {b x i : Nat} (hb : b ≤ 255) (hmk : mk.length ≤ 32) (hD : ∀ y ∈ D, y < 256) (hm : ∀ y ∈ mk, y < 256) (hx : x < 256) : (⟨D, b, mk.set i x⟩ : SetS).Ok := by
  refine ⟨by show (-1 : Int) ≤ b; omega, by show (b : Int) ≤ 255; omega, by show (mk.set i x).length ≤ 32; rw [List.length_set]; exact hmk, ?_, fun h => absurd (show (b : Int) < 0 from h) (by omega)⟩
  rw [bytes_pos]
  intro y hy
  rw [List.length_set] at hy
  rcases List.mem_append.1 hy with h | h
  · exact hD y h
  · rcases List.mem_cons.1 h with h | h
    · omega
    · rcases List.mem_cons.1 h with h | h
      · omega
      · rcases List.mem_or_eq_of_mem_set h with h | h
        · exact hm y h
        · omega
theorem end_row {w : World} {base ee N N1 g c b x : Nat} {D mk : List Nat} (h : w.ownsRow base ee 1 (.slice (some ⟨g, 0, none⟩) N1 c) N1 (byts (D ++ b :: mk.length :: mk))) (hN : N1 = D.length + 2 + mk.length) (hN1 : N1 = N + 1) (hm : 1 ≤ mk.length) :
    (w.drew.setCell ⟨g, N, none⟩ (.int .u8 (x : Int))).ownsRow base ee 1 (.slice (some ⟨g, 0, none⟩) N1 c) (⟨D, b, mk.set (mk.length - 1) x⟩ : SetS).bytes.length (byts (⟨D, b, mk.set (mk.length - 1) x⟩ : SetS).bytes) := by
  have e : (⟨D, b, mk.set (mk.length - 1) x⟩ : SetS).bytes = (D ++ b :: mk.length :: mk).set N x := by
    rw [bytes_pos, List.length_set, List.set_append_right _ _ (by omega), show N - D.length = (mk.length - 1) + 2 by omega]
    rfl
  have hl : (⟨D, b, mk.set (mk.length - 1) x⟩ : SetS).bytes.length = N1 := by rw [e, List.length_set]; simp; omega
  rw [hl, e, byts_set]
  have hd : w.drew.ownsRow base ee 1 (.slice (some ⟨g, 0, none⟩) N1 c) N1 (byts (D ++ b :: mk.length :: mk)) := h
  exact (hd.stored N (.int .u8 (x : Int))).1

set_option maxRecDepth 100000 in
set_option maxHeartbeats 4000000 in
/-- data.Set -/
theorem set_any (L : List Int) (p : Option Addr) (cap : Nat) (w : World) (hL : L.length ≤ 1048576) (hlc : L.length ≤ cap) (hc : cap ≤ 9223372036854775807) (hat : ZAt w w.heap.size p L) :
    Calls Tryd.prog 11 #[.slice p L.length cap] w fun e w' => e = .returned (.string (bts (setB (L.mergeSort (fun x y => decide (x ≤ y)))))) ∧ Below w.heap.size w w' := by
  obtain ⟨i0, hi, hz0, hz1, hz2⟩ := info_parts Tryd.infoByte
  have bx := Boxed.new w 22 (.slice p L.length cap)
  have hB0 : Below w.heap.size w (w.alloc (.cells #[.slice p L.length cap] 22)) := (Below.refl _ w).alloc (Nat.le_refl _) _
  have HSO := hide' (sorted_any L p cap w.heap.size (w.alloc (.cells #[.slice p L.length cap] 22)) (by omega) bx.lt bx.cell (hat.keep (kpW_below hB0 (Nat.le_refl _)) (Nat.le_refl _)))
  obtain ⟨M, hM⟩ : ∃ M, L.mergeSort (fun x y => decide (x ≤ y)) = M := ⟨_, rfl⟩
  have hMl : M.length = L.length := by rw [← hM, List.length_mergeSort]
  rw [hM] at HSO
  rw [hM]
  clear bx hM
  go_enter Tryd.func11, Tryd.ntmps11
  go_wp2_with (first
    | (go_at_call 27; refine (values_any p L.length cap _).mono ?_; rintro e w' ⟨rfl, rfl⟩)
    | (go_at_call 26; refine (HSO.out).mono ?_; rintro e w1 ⟨v, rfl, hownM, hB1⟩; obtain ⟨q, cq, rfl, hq1, hq2, hsh⟩ := owns_shape hownM))
  clear HSO hat hB0
  rw [World.size_alloc] at hownM hB1
  have hBw : Below w.heap.size w w1 := ((Below.refl _ w).alloc (Nat.le_refl _) _).trans (hB1.mono (by omega))
  have hml : ∀ j, j < M.length → ∃ g, q = some ⟨g, 0, none⟩ := fun j hj => by
    rcases hsh with ⟨_, h⟩ | ⟨g, h, _, _⟩
    · omega
    · exact ⟨g, h⟩
  have HML := hide' hml
  clear hml hsh hB1
  obtain ⟨n1, hn1⟩ : ∃ n1, w1.heap.size = n1 := ⟨_, rfl⟩
  go_loopw [3, 4, 5, 12] (fun sv bv zv iv wr => ∃ (k : Nat) (s : SetS) (z : Int), iv = .int .i64 k ∧ bv = .int .i64 s.blk ∧ zv = .int .i64 z ∧ k ≤ L.length ∧ Hid (s = (M.take k).foldl SetS.step SetS.init) ∧ Hid s.Ok ∧ Hid (0 ≤ s.blk → z = (s.done.length : Int) + 1) ∧ s.bytes.length ≤ 34 * k ∧ wr.ownsRow n1 5 1 sv s.bytes.length (byts s.bytes) ∧ Below n1 w1 wr)
    (fun _ _ _ iv _ => L.length - (intOf iv).toNat)
  case atStart => exact ⟨0, SetS.init, 0, rfl, rfl, rfl, Nat.zero_le _, rfl, init_ok, (fun h => absurd h (by decide)), by decide, World.ownsRow_nil _ _ _ _, Below.refl _ _⟩
  case round =>
    obtain ⟨k, s, z, rfl, rfl, rfl, hk, HS, HO, HZ, hbl, hown, hBr⟩ := hrel
    obtain ⟨ps, cs, rfl, hps, hcs, hshs⟩ := owns_shape hown
    by_cases hlt : k < L.length
    · have hkM : k < M.length := by omega
      obtain ⟨g, hgq⟩ := HML.out k hkM
      subst hgq
      obtain ⟨t, ht⟩ : ∃ t, M[k] = t := ⟨_, rfl⟩
      have hcell : wr.cell? ⟨g, k, none⟩ = some (.int .i64 t) := by
        have h := (ownsRow_below hownM (hn1 ▸ hBr)).cellAt k (by omega)
        rw [h]; simp [encI, hkM, ht]
      have HS1 : Hid (s.step t = (M.take (k + 1)).foldl SetS.step SetS.init) := by
        unfold Hid; rw [List.take_succ_eq_append_getElem hkM, List.foldl_append, ← HS.out, ht]; rfl
      by_cases hty : isTy t = true
      · have hty1 : 1 ≤ t ∧ t ≤ 65535 := of_decide_eq_true hty
        obtain ⟨n, hn⟩ : ∃ n : Nat, t = (n : Int) := ⟨t.toNat, by omega⟩
        subst hn
        obtain ⟨b, hb⟩ : ∃ b, n / 256 = b := ⟨_, rfl⟩
        obtain ⟨r, hr⟩ : ∃ r, n % 256 / 8 = r := ⟨_, rfl⟩
        obtain ⟨m, hm⟩ : ∃ m, 2 ^ (7 - n % 8) = m := ⟨_, rfl⟩
        have hbI : (n : Int) / 256 = (b : Int) := by omega
        have hrI : (n : Int) % 256 / 8 = (r : Int) := by omega
        have hb255 : b ≤ 255 := by omega
        have hr31 : r ≤ 31 := by omega
        have HMK := hide' (fun w => markOf_any n w (by omega))
        rw [hm] at HMK
        have hm256 : m < 256 := by
          rw [← hm]
          have : 2 ^ (7 - n % 8) ≤ 2 ^ 7 := Nat.pow_le_pow_right (by omega) (by omega)
          omega
        have HST : Hid (((s.next b).fill r).mark m = (M.take (k + 1)).foldl SetS.step SetS.init) := by
          rw [← HS1.out]; unfold Hid SetS.step; rw [if_pos hty]; simp only [Int.toNat_natCast, hb, hr, hm]
        have HI : Hid (isTy (n : Int) = true) := hty
        have hn1' : 1 ≤ (n : Int) := hty1.1
        have hn2' : (n : Int) ≤ 65535 := hty1.2
        clear hty hb hr hm hty1 HS1 HS ht
        have HC : Hid ((b : Int) = s.blk ∧ s.next b = s ∨ (b : Int) ≠ s.blk ∧ s.next b = ⟨s.bytes, b, []⟩) := by
          unfold Hid SetS.next
          by_cases h : (b : Int) = s.blk
          · left; exact ⟨h, if_pos h⟩
          · right; exact ⟨h, if_neg h⟩
        rcases HC.out with ⟨hbk, HN⟩ | ⟨hbk, HN⟩
        · have hz : z = (s.done.length : Int) + 1 := HZ.out (by omega)
          subst hz
          obtain ⟨D, b', mk0⟩ := s
          obtain rfl : b' = (b : Int) := hbk.symm
          have hby : (⟨D, b, mk0⟩ : SetS).bytes = D ++ b :: mk0.length :: mk0 := bytes_pos
          have hbl0 : (⟨D, b, mk0⟩ : SetS).bytes.length = D.length + 2 + mk0.length := by rw [hby]; simp; omega
          obtain ⟨N, hN⟩ : ∃ N, (⟨D, b, mk0⟩ : SetS).bytes.length = N := ⟨_, rfl⟩
          rw [hby, ← hby, hN] at hown
          rw [hN] at hps hbl hbl0
          simp only [hN]
          obtain ⟨g4, rfl⟩ : ∃ g4, ps = some ⟨g4, 0, none⟩ := by
            rcases hshs with ⟨_, h⟩ | ⟨g, h, _⟩
            · rw [hN] at h; omega
            · exact ⟨g, h⟩
          clear hshs HC hbk
          have HOK : Hid (OkD D mk0) := ok_split HO.out
          go_wp2_with (go_at_call 13; refine (isType_any _ _).mono ?_; rintro e w4 ⟨rfl, rfl⟩; rw [HI.out])
          have hB4 := hBr
          have hmk32 : mk0.length ≤ 32 := HO.out.ml
          have hown4 : w4.ownsRow n1 5 1 (.slice (some ⟨g4, 0, none⟩) N cs) N (byts (D ++ b :: mk0.length :: mk0)) := by rw [← hby]; exact hown
          subst hbl0
          have hN0 : D.length + 2 + mk0.length ≤ 34 * k + 2 := by omega
          clear hown hBr hcell HZ HI hN hby HO hbl hps
          go_loopw [3] (fun sv wr => ∃ (mk : List Nat) (N g c : Nat), sv = .slice (some ⟨g, 0, none⟩) N c ∧ N = D.length + 2 + mk.length ∧ N ≤ c ∧ c ≤ 9223372036854775807 ∧ mk.length ≤ 32 ∧ Hid (Fills mk0 mk r) ∧ wr.ownsRow n1 5 1 (.slice (some ⟨g, 0, none⟩) N c) N (byts (D ++ b :: mk.length :: mk)) ∧ Below n1 w1 wr) (fun sv _ => D.length + 40 - slen sv)
          case atStart => exact ⟨mk0, _, g4, cs, rfl, rfl, (owns_cp hown4).1, (owns_cp hown4).2, hmk32, fills_start, hown4, hB4⟩
          case round =>
            clear hown4 hB4
            obtain ⟨mk, N, g5, c5, rfl, hN, hNc, hc5, hmk, HF, hown, hBr⟩ := hrel
            have hcz : wr.cell? ⟨g5, D.length + 1, none⟩ = some (.int .u8 (mk.length : Int)) := by
              rw [hown.cellAt (D.length + 1) (by omega)]
              have := at_len D mk b []
              rw [List.append_nil] at this
              simp only [byts, List.getElem?_map, this]; rfl
            by_cases hin : mk.length ≤ r
            · have hin' : mk.length ≤ 31 := by omega
              go_wp2_with (at_builtin; refine wpList_append_own _ rfl _ _ 44 rfl n1 5 i0 (.int .u8 0) 1 1 Tryd.underlying44 hi hz0 hz1 hz2 rfl (by decide) _ _ _ rfl (hown.alloc _) ⟨wr.heap.size, 0, none⟩ 1 1 [.int .u8 0] rfl rfl (cell_one_new _ _ _) (by simp [Value.oneCell']) (by unfold maxLen; omega) (by omega) (by have := hBr.size; simp; omega) ?_; intro v6 w6 hown6 hgrow6 _; have hB6 : Below n1 w1 w6 := below_app hBr (by omega) hown hgrow6; obtain ⟨g6, c6, rfl⟩ := owns_some hown6 (by omega); have hown7 := own_zero hown6; have hcz6 := cell_zero hown7 hN; have hfz6 := hown7.frozenAt (D.length + 1))
              subst hN
              refine ⟨⟨mk ++ [0], D.length + 2 + mk.length + 1, g6, c6, rfl, by simp; omega, (owns_cp hown7).1, (owns_cp hown7).2, by simp; omega, fills_up HF.out hin, step_row hown7, hB6.setCell (p := ⟨g6, D.length + 1, none⟩) (by show n1 ≤ g6; exact ownBlock_le hown7 rfl) _⟩, ?_⟩
              show D.length + 40 - (D.length + 2 + mk.length + 1) < D.length + 40 - (D.length + 2 + mk.length)
              omega
            · have hmr : r + 1 ≤ mk.length := by omega
              obtain ⟨N', hN'⟩ : ∃ N', N = N' + 1 := ⟨N - 1, by omega⟩
              obtain ⟨x, hx⟩ : ∃ x, mk.getD (mk.length - 1) 0 = x := ⟨_, rfl⟩
              have hcl : wr.cell? ⟨g5, N', none⟩ = some (.int .u8 (x : Int)) := cell_last hown hN hN' (by omega) hx
              have hfl := hown.frozenAt N'
              have HFA := fills_end HF.out hmr
              have HMA : Hid (∀ y ∈ mk, y < 256) := fills_lt HF.out HOK.out.2
              have hx256 : x < 256 := by rw [← hx]; exact getD_lt HMA.out _
              have hor : bits .or .u8 (x : Int) (m : Int) = ((x ||| m : Nat) : Int) := u8_or_nat _ _ hx256 hm256
              have hxm : x ||| m < 256 := Nat.or_lt_two_pow (n := 8) hx256 hm256
              have HE : Hid ((⟨D, b, mk.set (mk.length - 1) (x ||| m)⟩ : SetS) = (M.take (k + 1)).foldl SetS.step SetS.init) := by
                unfold Hid; rw [← HST.out, HN]; unfold SetS.fill SetS.mark; simp only [← HFA, hx]
              have hNi : (N : Int) - 1 = (N' : Int) := by omega
              have hNl : (N' : Int) < (N : Int) := by omega
              have hNl' : N' < N := by omega
              have hwr : IntKind.i64.wrap (N' : Int) = (N' : Int) := by simp [IntKind.wrap, IntKind.bits, IntKind.signed]; omega
              have HNN := hide' hN
              have HNN' := hide' hN'
              have hN9 : N ≤ 9223372036854775807 := by omega
              have mixed : Tryd.prog.follows Departure.mixedOrders = true := by kernel_rfl
              clear HFA
              go_wp2
              clear hcz hN hN'
              go_region_with_o (go_at_call 28; refine (HMK.out _).mono ?_; rintro e w5 ⟨rfl, rfl⟩)
              all_goals go_wp2
              all_goals exact ⟨⟨k + 1, ⟨D, b, mk.set (mk.length - 1) (x ||| m)⟩, (D.length : Int) + 1, rfl, rfl, rfl, by omega, HE, end_ok hb255 hmk HOK.out.1 HMA.out hxm, (fun _ => rfl), by rw [bytes_pos]; simp; omega, end_row hown HNN.out HNN'.out (by omega), Below.drew (hBr.setCell (p := ⟨g5, N', none⟩) (by show n1 ≤ g5; exact ownBlock_le hown rfl) _)⟩, by show L.length - ((k : Int) + 1).toNat < L.length - (k : Int).toNat; omega⟩
        · clear hshs HC
          go_wp2_with (first
            | (go_at_call 13; refine (isType_any _ _).mono ?_; rintro e w2 ⟨rfl, rfl⟩; rw [HI.out])
            | (at_builtin; refine wpList_append_own _ rfl _ _ 44 rfl n1 5 i0 (.int .u8 0) 1 1 Tryd.underlying44 hi hz0 hz1 hz2 rfl (by decide) _ _ _ rfl (hown.alloc _) ⟨w2.heap.size, 0, none⟩ 2 2 [.int .u8 (b : Int), .int .u8 0] rfl rfl (cell_two_new _ _ _ _) (by simp [Value.oneCell']) (by unfold maxLen; omega) (by omega) (by have := hBr.size; simp; omega) ?_; intro v4 w4 hown4 hgrow4 _; have hB4 : Below n1 w1 w4 := below_app hBr (by omega) hown hgrow4; obtain ⟨g4, cs, rfl⟩ := owns_some hown4 (by omega)))
          obtain ⟨D, hD⟩ : ∃ D, s.bytes = D := ⟨_, rfl⟩
          obtain ⟨mk0, hmk0⟩ : ∃ mk0 : List Nat, [] = mk0 := ⟨_, rfl⟩
          have HOK : Hid (OkD D mk0) := by rw [← hD, ← hmk0]; exact ⟨HO.out.lt, (fun x hx => by cases hx)⟩
          rw [hmk0, hD] at HN
          rw [hD] at hown4 hbl
          simp only [hD]
          rw [show ((D.length : Int) + 2 - 1) = (D.length : Int) + 1 by omega]
          have hmz : mk0.length = 0 := by rw [← hmk0]; rfl
          have hmk32 : mk0.length ≤ 32 := by omega
          have hN0 : D.length + 2 + mk0.length ≤ 34 * k + 2 := by omega
          have hown5 : w4.ownsRow n1 5 1 (.slice (some ⟨g4, 0, none⟩) (D.length + 2 + mk0.length) cs) (D.length + 2 + mk0.length) (byts (D ++ b :: mk0.length :: mk0)) := by
            have e : byts (D ++ b :: mk0.length :: mk0) = byts D ++ [.int .u8 (b : Int), .int .u8 0] := by rw [hmz, ← hmk0]; simp [byts]
            rw [e, hmz]; exact hown4
          rw [show D.length + 2 = D.length + 2 + mk0.length by omega]
          clear hown4
          have hown4 := hown5
          clear hown5 hown hBr hcell HZ HI HO hbl hps hgrow4 hmz hmk0 hD hbk
          go_loopw [3] (fun sv wr => ∃ (mk : List Nat) (N g c : Nat), sv = .slice (some ⟨g, 0, none⟩) N c ∧ N = D.length + 2 + mk.length ∧ N ≤ c ∧ c ≤ 9223372036854775807 ∧ mk.length ≤ 32 ∧ Hid (Fills mk0 mk r) ∧ wr.ownsRow n1 5 1 (.slice (some ⟨g, 0, none⟩) N c) N (byts (D ++ b :: mk.length :: mk)) ∧ Below n1 w1 wr) (fun sv _ => D.length + 40 - slen sv)
          case atStart => exact ⟨mk0, _, g4, cs, rfl, rfl, (owns_cp hown4).1, (owns_cp hown4).2, hmk32, fills_start, hown4, hB4⟩
          case round =>
            clear hown4 hB4
            obtain ⟨mk, N, g5, c5, rfl, hN, hNc, hc5, hmk, HF, hown, hBr⟩ := hrel
            have hcz : wr.cell? ⟨g5, D.length + 1, none⟩ = some (.int .u8 (mk.length : Int)) := by
              rw [hown.cellAt (D.length + 1) (by omega)]
              have := at_len D mk b []
              rw [List.append_nil] at this
              simp only [byts, List.getElem?_map, this]; rfl
            by_cases hin : mk.length ≤ r
            · have hin' : mk.length ≤ 31 := by omega
              go_wp2_with (at_builtin; refine wpList_append_own _ rfl _ _ 44 rfl n1 5 i0 (.int .u8 0) 1 1 Tryd.underlying44 hi hz0 hz1 hz2 rfl (by decide) _ _ _ rfl (hown.alloc _) ⟨wr.heap.size, 0, none⟩ 1 1 [.int .u8 0] rfl rfl (cell_one_new _ _ _) (by simp [Value.oneCell']) (by unfold maxLen; omega) (by omega) (by have := hBr.size; simp; omega) ?_; intro v6 w6 hown6 hgrow6 _; have hB6 : Below n1 w1 w6 := below_app hBr (by omega) hown hgrow6; obtain ⟨g6, c6, rfl⟩ := owns_some hown6 (by omega); have hown7 := own_zero hown6; have hcz6 := cell_zero hown7 hN; have hfz6 := hown7.frozenAt (D.length + 1))
              subst hN
              refine ⟨⟨mk ++ [0], D.length + 2 + mk.length + 1, g6, c6, rfl, by simp; omega, (owns_cp hown7).1, (owns_cp hown7).2, by simp; omega, fills_up HF.out hin, step_row hown7, hB6.setCell (p := ⟨g6, D.length + 1, none⟩) (by show n1 ≤ g6; exact ownBlock_le hown7 rfl) _⟩, ?_⟩
              show D.length + 40 - (D.length + 2 + mk.length + 1) < D.length + 40 - (D.length + 2 + mk.length)
              omega
            · have hmr : r + 1 ≤ mk.length := by omega
              obtain ⟨N', hN'⟩ : ∃ N', N = N' + 1 := ⟨N - 1, by omega⟩
              obtain ⟨x, hx⟩ : ∃ x, mk.getD (mk.length - 1) 0 = x := ⟨_, rfl⟩
              have hcl : wr.cell? ⟨g5, N', none⟩ = some (.int .u8 (x : Int)) := cell_last hown hN hN' (by omega) hx
              have hfl := hown.frozenAt N'
              have HFA := fills_end HF.out hmr
              have HMA : Hid (∀ y ∈ mk, y < 256) := fills_lt HF.out HOK.out.2
              have hx256 : x < 256 := by rw [← hx]; exact getD_lt HMA.out _
              have hor : bits .or .u8 (x : Int) (m : Int) = ((x ||| m : Nat) : Int) := u8_or_nat _ _ hx256 hm256
              have hxm : x ||| m < 256 := Nat.or_lt_two_pow (n := 8) hx256 hm256
              have HE : Hid ((⟨D, b, mk.set (mk.length - 1) (x ||| m)⟩ : SetS) = (M.take (k + 1)).foldl SetS.step SetS.init) := by
                unfold Hid; rw [← HST.out, HN]; unfold SetS.fill SetS.mark; simp only [← HFA, hx]
              have hNi : (N : Int) - 1 = (N' : Int) := by omega
              have hNl : (N' : Int) < (N : Int) := by omega
              have hNl' : N' < N := by omega
              have hwr : IntKind.i64.wrap (N' : Int) = (N' : Int) := by simp [IntKind.wrap, IntKind.bits, IntKind.signed]; omega
              have HNN := hide' hN
              have HNN' := hide' hN'
              have hN9 : N ≤ 9223372036854775807 := by omega
              have mixed : Tryd.prog.follows Departure.mixedOrders = true := by kernel_rfl
              clear HFA
              go_wp2
              clear hcz hN hN'
              go_region_with_o (go_at_call 28; refine (HMK.out _).mono ?_; rintro e w5 ⟨rfl, rfl⟩)
              all_goals go_wp2
              all_goals exact ⟨⟨k + 1, ⟨D, b, mk.set (mk.length - 1) (x ||| m)⟩, (D.length : Int) + 1, rfl, rfl, rfl, by omega, HE, end_ok hb255 hmk HOK.out.1 HMA.out hxm, (fun _ => rfl), by rw [bytes_pos]; simp; omega, end_row hown HNN.out HNN'.out (by omega), Below.drew (hBr.setCell (p := ⟨g5, N', none⟩) (by show n1 ≤ g5; exact ownBlock_le hown rfl) _)⟩, by show L.length - ((k : Int) + 1).toNat < L.length - (k : Int).toNat; omega⟩
      · have hstep : s.step t = s := by unfold SetS.step; rw [if_neg hty]
        have HI : Hid (isTy t = false) := by unfold Hid; cases h : isTy t with | true => exact absurd h hty | false => rfl
        have HS2 : Hid (s = (M.take (k + 1)).foldl SetS.step SetS.init) := by unfold Hid; rw [← HS1.out, hstep]
        clear hshs hty hstep HS1 HS
        go_wp2_with (go_at_call 13; refine (isType_any _ _).mono ?_; rintro e w2 ⟨rfl, rfl⟩; rw [HI.out])
        exact ⟨⟨k + 1, s, z, rfl, rfl, rfl, by omega, HS2, HO, HZ, by omega, hown, hBr⟩, by show L.length - ((k : Int) + 1).toNat < L.length - (k : Int).toNat; omega⟩
    · have hke : k = L.length := by omega
      subst hke
      have HS2 : Hid (s = M.foldl SetS.step SetS.init) := by unfold Hid; rw [HS.out, List.take_of_length_le (by omega)]
      have hcv : (convert 44 9 (.slice ps s.bytes.length cs)).run Tryd.prog wr = .ok (.string (bts s.bytes)) wr := str_owns hown HO.out.lt
      clear HS hshs
      go_wp2
      go_ret
      exact ⟨by unfold setB; rw [← HS2.out]; rfl, hBw.trans (hBr.mono (by rw [← hn1]; exact hBw.size))⟩
end Go.Proofs.YtfofdcacikbflaaDoor
