import Derived.Test.YtndkjnehkfleaaaVs2
import Derived.Shelf.RegionOpenPlain
import Derived.Lib.BufferRead
namespace Go.Proofs.Ytndkjnehkfleaaa
set_option linter.unusedVariables false
open Go.RowKit Go.Shelf Go.Proofs.Ytndkjnehkfleaaa.Nm

/-- a set under way: the blocks that are done, the block, its bytes -/
structure SetS where
  done : List Nat
  blk : Int
  marks : List Nat
def SetS.bytes (s : SetS) : List Nat := if s.blk < 0 then s.done else s.done ++ s.blk.toNat :: s.marks.length :: s.marks
def SetS.next (s : SetS) (b : Nat) : SetS := if (b : Int) = s.blk then s else ⟨s.bytes, b, []⟩
def SetS.fill (s : SetS) (k : Nat) : SetS := { s with marks := s.marks ++ List.replicate (k + 1 - s.marks.length) 0 }
def SetS.mark (s : SetS) (m : Nat) : SetS := { s with marks := s.marks.set (s.marks.length - 1) (s.marks.getD (s.marks.length - 1) 0 ||| m) }
def SetS.step (s : SetS) (t : Int) : SetS := if isTy t = true then ((s.next (t.toNat / 256)).fill (t.toNat % 256 / 8)).mark (2 ^ (7 - t.toNat % 8)) else s
def SetS.init : SetS := ⟨[], -1, []⟩
def setB (M : List Int) : List Nat := (M.foldl SetS.step SetS.init).bytes

/-- what holds of a set under way -/
structure SetS.Ok (s : SetS) : Prop where
  low : -1 ≤ s.blk
  high : s.blk ≤ 255
  ml : s.marks.length ≤ 32
  lt : ∀ x ∈ s.bytes, x < 256
  neg : s.blk < 0 → s.marks = []

theorem init_ok : SetS.init.Ok := ⟨by decide, by decide, by decide, (fun x hx => by cases hx), fun _ => rfl⟩
/-- a row of bytes as a text -/
theorem str_owns {W : World} {b c : Nat} {p : Option Addr} {xs : List Nat} (h : W.ownsRow b 5 1 (.slice p xs.length c) xs.length (byts xs)) (hx : ∀ x ∈ xs, x < 256) : (convert 43 9 (.slice p xs.length c)).run Try.prog W = .ok (.string (bts xs)) W := by
  have hz : (bts xs).size = xs.length := bts_size _
  rcases h.2 with ⟨h1, h0⟩ | ⟨g, cap, cur, h1, _⟩
  · simp at h1
    obtain ⟨rfl, _, rfl⟩ := h1
    have : xs = [] := List.eq_nil_of_length_eq_zero h0
    subst this
    exact Go.Lib.run_convert_nil_bytes W 43 9 5 0 Try.underlying43 Try.underlying5 Try.underlying9
  · simp at h1
    obtain ⟨rfl, rfl⟩ := h1
    have h' := owns_str (t := bts xs) (w := W) (base := b) (g := g) (cap := c) (by rw [hz, bts_cells _ hx]; exact h)
    rw [hz] at h'; exact h'

def OkD (D mk : List Nat) : Prop := (∀ x ∈ D, x < 256) ∧ ∀ x ∈ mk, x < 256
theorem bytes_pos {D mk : List Nat} {b : Nat} : (⟨D, b, mk⟩ : SetS).bytes = D ++ b :: mk.length :: mk := by
  unfold SetS.bytes; rw [if_neg (by show ¬ ((b : Int) < 0); omega)]; simp
theorem ok_split {D mk : List Nat} {b : Nat} (h : (⟨D, b, mk⟩ : SetS).Ok) : OkD D mk := by
  have := h.lt
  rw [bytes_pos] at this
  exact ⟨fun x hx => this x (by simp [hx]), fun x hx => this x (by simp [hx])⟩
theorem byts_set (l : List Nat) (i x : Nat) : byts (l.set i x) = (byts l).set i (.int .u8 (x : Int)) := by simp [byts, List.map_set]
theorem up_len (D mk : List Nat) (b : Nat) : (D ++ b :: mk.length :: mk ++ [0]).set (D.length + 1) (mk.length + 1) = D ++ b :: (mk ++ [0]).length :: (mk ++ [0]) := by
  rw [List.append_assoc, List.set_append_right _ _ (by omega)]
  simp
theorem at_len (D mk : List Nat) (b : Nat) (l : List Nat) : (D ++ b :: mk.length :: (mk ++ l))[D.length + 1]? = some mk.length := by
  rw [List.getElem?_append_right (by omega)]; simp
/-- the bytes of the block, filled -/
def Fills (mk0 mk : List Nat) (r : Nat) : Prop := mk0.length ≤ mk.length ∧ mk = mk0 ++ List.replicate (mk.length - mk0.length) 0 ∧ (mk.length = mk0.length ∨ mk.length ≤ r + 1)

theorem fills_start {mk0 : List Nat} {r : Nat} : Fills mk0 mk0 r := ⟨Nat.le_refl _, by simp, .inl rfl⟩
theorem owns_cp {w : World} {base e : Nat} {p : Option Addr} {n cap : Nat} {xs : List Value} {m : Nat} (h : w.ownsRow base e 1 (.slice p m cap) n xs) : n ≤ cap ∧ cap ≤ 9223372036854775807 := by
  obtain ⟨hl, (⟨h1, h0⟩ | ⟨g, cap', cur, h1, hb, hg, hn, hcap, hsz, ht⟩)⟩ := h
  · simp at h1; exact ⟨by omega, by omega⟩
  · simp at h1; obtain ⟨e, _, rfl⟩ := h1; exact ⟨hn, by unfold maxLen at hcap; omega⟩
theorem own_zero {w : World} {base e N : Nat} {v : Value} {l : List Nat} (h : w.ownsRow base e 1 v N (byts l ++ [.int .u8 0])) : w.ownsRow base e 1 v N (byts (l ++ [0])) := by simpa [byts] using h
theorem cell_zero {w : World} {base e N g c b : Nat} {D mk : List Nat} (h : w.ownsRow base e 1 (.slice (some ⟨g, 0, none⟩) (N + 1) c) (N + 1) (byts (D ++ b :: mk.length :: mk ++ [0]))) (hN : N = D.length + 2 + mk.length) : w.cell? ⟨g, D.length + 1, none⟩ = some (.int .u8 (mk.length : Int)) := by
  rw [h.cellAt (D.length + 1) (by omega)]
  have := at_len D mk b [0]
  rw [show D ++ b :: mk.length :: mk ++ [0] = D ++ b :: mk.length :: (mk ++ [0]) by simp]
  simp only [byts, List.getElem?_map, this]; rfl

theorem cell_last {w : World} {base e N N1 g c b x : Nat} {D mk : List Nat} (h : w.ownsRow base e 1 (.slice (some ⟨g, 0, none⟩) N1 c) N1 (byts (D ++ b :: mk.length :: mk))) (hN : N1 = D.length + 2 + mk.length) (hN1 : N1 = N + 1) (hm : 1 ≤ mk.length) (hx : mk.getD (mk.length - 1) 0 = x) : w.cell? ⟨g, N, none⟩ = some (.int .u8 (x : Int)) := by
  rw [h.cellAt N (by omega)]
  have e : (D ++ b :: mk.length :: mk)[N]? = some x := by
    rw [List.getElem?_append_right (by omega), show N - D.length = (mk.length - 1) + 2 by omega]
    simp only [List.getElem?_cons_succ]
    rw [← hx, List.getD_eq_getElem?_getD, List.getElem?_eq_getElem (by omega)]; rfl
  simp only [byts, List.getElem?_map, e]; rfl

theorem step_row {w : World} {base e N g c b : Nat} {D mk : List Nat} (h : w.ownsRow base e 1 (.slice (some ⟨g, 0, none⟩) (N + 1) c) (N + 1) (byts (D ++ b :: mk.length :: mk ++ [0]))) :
    (w.setCell ⟨g, D.length + 1, none⟩ (.int .u8 ((mk.length : Int) + 1))).ownsRow base e 1 (.slice (some ⟨g, 0, none⟩) (N + 1) c) (N + 1) (byts (D ++ b :: (mk ++ [0]).length :: (mk ++ [0]))) := by
  have := (h.stored (D.length + 1) (.int .u8 ((mk.length + 1 : Nat) : Int))).1
  rw [← byts_set, up_len] at this
  exact this
theorem fills_up {mk0 mk : List Nat} {r : Nat} (h : Fills mk0 mk r) (hr : mk.length ≤ r) : Fills mk0 (mk ++ [0]) r := by
  obtain ⟨h1, h2, h3⟩ := h
  refine ⟨by simp; omega, ?_, .inr (by simp; omega)⟩
  rw [List.length_append, List.length_singleton, show mk.length + 1 - mk0.length = (mk.length - mk0.length) + 1 by omega, List.replicate_succ', ← List.append_assoc, ← h2]
theorem fills_end {mk0 mk : List Nat} {r : Nat} (h : Fills mk0 mk r) (hr : r + 1 ≤ mk.length) : mk = mk0 ++ List.replicate (r + 1 - mk0.length) 0 := by
  obtain ⟨h1, h2, h3⟩ := h
  rcases h3 with h3 | h3
  · rw [h3, Nat.sub_self] at h2; rw [show r + 1 - mk0.length = 0 by omega]; exact h2
  · rw [show r + 1 = mk.length by omega]; exact h2
theorem fills_lt {mk0 mk : List Nat} {r : Nat} (h : Fills mk0 mk r) (h0 : ∀ y ∈ mk0, y < 256) : ∀ y ∈ mk, y < 256 := by
  intro y hy
  rw [h.2.1] at hy
  rcases List.mem_append.1 hy with h | h
  · exact h0 y h
  · have := (List.mem_replicate.1 h).2; omega
theorem getD_lt {l : List Nat} (h : ∀ y ∈ l, y < 256) (i : Nat) : l.getD i 0 < 256 := by
  rw [List.getD_eq_getElem?_getD]
  cases e : l[i]? with
  | none => decide
  | some y => exact h y (List.mem_of_getElem? e)
theorem end_ok {D mk : List Nat} {b x i : Nat} (hb : b ≤ 255) (hmk : mk.length ≤ 32) (hD : ∀ y ∈ D, y < 256) (hm : ∀ y ∈ mk, y < 256) (hx : x < 256) : (⟨D, b, mk.set i x⟩ : SetS).Ok := by
  refine ⟨by show (-1 : Int) ≤ b; omega, by show (b : Int) ≤ 255; omega, by show (mk.set i x).length ≤ 32; rw [List.length_set]; exact hmk, ?_, fun h => absurd (show (b : Int) < 0 from h) (by omega)⟩
  rw [bytes_pos]
  intro y hy
  rw [List.length_set] at hy
  rcases List.mem_append.1 hy with h | h
  · exact hD y h
  · rcases List.mem_cons.1 h with h | h
    · omega
    · rcases List.mem_cons.1 h with h | h
      · omega
      · rcases List.mem_or_eq_of_mem_set h with h | h
        · exact hm y h
        · omega
theorem end_row {w : World} {base ee N N1 g c b x : Nat} {D mk : List Nat} (h : w.ownsRow base ee 1 (.slice (some ⟨g, 0, none⟩) N1 c) N1 (byts (D ++ b :: mk.length :: mk))) (hN : N1 = D.length + 2 + mk.length) (hN1 : N1 = N + 1) (hm : 1 ≤ mk.length) :
    (w.drew.setCell ⟨g, N, none⟩ (.int .u8 (x : Int))).ownsRow base ee 1 (.slice (some ⟨g, 0, none⟩) N1 c) (⟨D, b, mk.set (mk.length - 1) x⟩ : SetS).bytes.length (byts (⟨D, b, mk.set (mk.length - 1) x⟩ : SetS).bytes) := by
  have e : (⟨D, b, mk.set (mk.length - 1) x⟩ : SetS).bytes = (D ++ b :: mk.length :: mk).set N x := by
    rw [bytes_pos, List.length_set, List.set_append_right _ _ (by omega), show N - D.length = (mk.length - 1) + 2 by omega]
    rfl
  have hl : (⟨D, b, mk.set (mk.length - 1) x⟩ : SetS).bytes.length = N1 := by rw [e, List.length_set]; simp; omega
  rw [hl, e, byts_set]
  have hd : w.drew.ownsRow base ee 1 (.slice (some ⟨g, 0, none⟩) N1 c) N1 (byts (D ++ b :: mk.length :: mk)) := h
  exact (hd.stored N (.int .u8 (x : Int))).1

end Go.Proofs.Ytndkjnehkfleaaa
