import Derived.Test.YthabenjghhmicaaGreatRn0G
import Derived.Test.YthabenjghhmicaaGreatRz1G
import Derived.Test.YthabenjghhmicaaGreatVs1G
import Derived.Test.YthabenjghhmicaaGreatFt1G
import Derived.Laws.AppendOwnNone
import Derived.Lib.SliceRun
import Derived.Deep.AppendLies
import Derived.Deep.RegionHeld3
namespace Go.Proofs.YthabenjghhmicaaGreat
set_option linter.unusedVariables false
open Go.RowKit Go.Shelf Go.Proofs.YthabenjghhmicaaGreat.Nm

/-- a row whose block stays -/
theorem own_blk {w w' : World} {n e size k : Nat} {v : Value} {xs : List Value} (h : w.ownsRow n e size v k xs) (hb : ∀ g, v.ownBlock = some g → w'.heap[g]? = w.heap[g]?) : w'.ownsRow n e size v k xs := by
  obtain ⟨hl, (h0 | ⟨g, cap, cur, rfl, hg, hc, rest⟩)⟩ := h
  · exact ⟨hl, .inl h0⟩
  · exact ⟨hl, .inr ⟨g, cap, cur, rfl, hg, (hb g rfl).trans hc, rest⟩⟩
/-- a store into a row of one's own -/
theorem own_put {w : World} {base e size g n cap : Nat} {xs : List Value} (h : w.ownsRow base e size (.slice (some ⟨g, 0, none⟩) n cap) n xs) (j : Nat) (hj : j < n * size) (u : Value) :
    (w.setCell ⟨g, j, none⟩ u).ownsRow base e size (.slice (some ⟨g, 0, none⟩) n cap) n (xs.set j u) := by
  obtain ⟨hl, (⟨h1, h2⟩ | ⟨g', cap', cur, h1, hb, hg, hn, hcm, hcs, htk⟩)⟩ := h
  · cases h1
  · injection h1 with h1 h2 h3
    injection h1 with h1
    injection h1 with h1
    subst h1; subst h3
    refine ⟨by simpa using hl, .inr ⟨g, cap, cur.setIfInBounds j u, rfl, hb, ?_, hn, hcm, by simpa using hcs, ?_⟩⟩
    · simp [World.setCell, Array.getElem?_modify, hg]
    · rw [← htk]
      simp [List.take_set]
theorem own_off {w : World} {base e size g b j n cap : Nat} {xs : List Value} (h : w.ownsRow base e size (.slice (some ⟨g, 0, none⟩) n cap) n xs) (hne : g ≠ b) (u : Value) :
    (w.setCell ⟨b, j, none⟩ u).ownsRow base e size (.slice (some ⟨g, 0, none⟩) n cap) n xs := own_blk h (fun x e => by
      have : g = x := by simpa [Value.ownBlock] using e
      subst this
      exact Below.heap_setCell _ _ _ g hne)
theorem own_cell {w : World} {base e size g n cap : Nat} {xs : List Value} (h : w.ownsRow base e size (.slice (some ⟨g, 0, none⟩) n cap) n xs) (j : Nat) (hj : j < n * size) : ∃ u, w.cell? ⟨g, j, none⟩ = some u ∧ w.frozen? ⟨g, j, none⟩ = false := by
  have h1 := h.cellAt j hj
  have hl := h.1
  rw [List.getElem?_eq_getElem (by omega)] at h1
  refine ⟨_, h1, ?_⟩
  rcases h.2 with ⟨h2, _⟩ | ⟨g', cap', cur, h2, hb, hg, _⟩
  · cases h2
  · injection h2 with h2
    injection h2 with h2
    injection h2 with h2
    subst h2
    simp [World.frozen?, hg]
end Go.Proofs.YthabenjghhmicaaGreat

/-
  gazetteersame's Spare, Twin. (The verifier's own text.)
-/
namespace Go.Proofs.YthabenjghhmicaaGreat
set_option linter.unusedVariables false
open Go.RowKit Go.Shelf Go.Maps Go.Proofs.YthabenjghhmicaaGreat.Nm

def spT : ByteArray := ⟨#[115, 112, 97, 114, 101]⟩
/-- the record that no list has -/
def spR : Rn := ⟨spT, -77, -77, -77, spT⟩
theorem own_below {w w' : World} {b e s n : Nat} {v : Value} {xs : List Value} (h : w.ownsRow b e s v n xs) (hb : Below w.heap.size w w') : w'.ownsRow b e s v n xs := own_blk h (fun g eg => hb.block g (h.lt g eg).2)

theorem own_cap {w : World} {b e s n m c : Nat} {p : Option Addr} {xs : List Value} (h : w.ownsRow b e s (.slice p m c) n xs) : n ≤ c ∧ c ≤ maxLen := by
  obtain ⟨_, _, hsh, h1, h2, _⟩ := own_shape h
  injection hsh with _ _ hsh
  subst hsh
  exact ⟨h1, h2⟩
end Go.Proofs.YthabenjghhmicaaGreat

/-
  gazetteersame's Whole. (The verifier's own text.)
-/
namespace Go.Proofs.YthabenjghhmicaaGreat
set_option linter.unusedVariables false
open Go.RowKit Go.Shelf Go.Maps Go.Proofs.YthabenjghhmicaaGreat.Nm

set_option maxRecDepth 100000 in
set_option maxHeartbeats 2000000 in
/-- gazetteersame.Records, at the same list -/
theorem sameRecords2 (p1 p2 : Option Addr) (n c1 c2 : Nat) (L : List Rn) (w : World) (hx : RsAt w p1 L) (hy : RsAt w p2 L) (hn : n = L.length) (hl : n ≤ 4294967296) :
    Calls Tryz.prog 16 #[.slice p1 n c1, .slice p2 n c2] w fun e w' => e = .returned (.bool true) ∧ ∃ m, w' = w.drewN m := by
  have HX := hide' hx
  have HY := hide' hy
  have HN := hide' hn
  clear hx hy hn
  go_enter Tryz.func16, Tryz.ntmps16
  go_wp2
  go_loopw [13] (fun i wr => ∃ k m : Nat, i = .int .i64 k ∧ k ≤ n ∧ wr = w.drewN m) (fun i _ => n - (intOf i).toNat)
  case atStart => exact ⟨0, 0, rfl, Nat.zero_le _, rfl⟩
  case round =>
    obtain ⟨k, m, rfl, hk, rfl⟩ := hrel
    by_cases hlt : k < n
    · obtain ⟨g1, o1, rfl, _, x0, x1, x2, x3, x4⟩ := HX.out k (by rw [← HN.out]; exact hlt)
      obtain ⟨g2, o2, rfl, _, y0, y1, y2, y3, y4⟩ := HY.out k (by rw [← HN.out]; exact hlt)
      generalize L[k].o = qo at *
      generalize L[k].t = qt at *
      generalize L[k].c = qc at *
      generalize L[k].l = ql at *
      generalize L[k].d = qd at *
      go_wp2
      go_quiet (fail)
      go_wp2
      go_roundw
      case rel => exact ⟨k + 1, m + nq, by go_num, by omega, rfl⟩
      case measure => simp [intOf]; omega
    · go_wp2
      go_ret
      exact ⟨rfl, m, rfl⟩
theorem rs_own5 {w : World} {b g c n : Nat} {L : List Rn} (h : w.ownsRow b 54 5 (.slice (some ⟨g, 0, none⟩) n c) n (rce5 L)) : RsAt w (some ⟨g, 0, none⟩) L := fun k hk => by
  obtain ⟨rest, h1, _⟩ := rb_ownM h
  obtain ⟨e0, e1, e2, e3, e4⟩ := h1.cells hk
  exact ⟨g, 0, rfl, h1.lt, by simpa using e0, by simpa using e1, by simpa using e2, by simpa using e3, by simpa using e4⟩
theorem rs_left {w : World} {p : Option Addr} {L M : List Rn} (h : RsAt w p (L ++ M)) : RsAt w p L := fun k hk => by
  obtain ⟨g, off, h1, h2, h3, h4, h5, h6, h7⟩ := h k (by rw [List.length_append]; omega)
  rw [List.getElem_append_left hk] at h3 h4 h5 h6 h7
  exact ⟨g, off, h1, h2, h3, h4, h5, h6, h7⟩
/-- the two that stand behind -/
theorem rs_spare {w : World} {g : Nat} {L : List Rn} (h : RsAt w (some ⟨g, 0, none⟩) (L ++ [spR, spR])) (j : Nat) (hj : j < 2) : w.cell? ⟨g, (L.length + j) * 5, none⟩ = some (.string spT) ∧ w.cell? ⟨g, (L.length + j) * 5 + 1, none⟩ = some (.int .i64 (-77)) ∧ w.cell? ⟨g, (L.length + j) * 5 + 2, none⟩ = some (.int .i64 (-77)) ∧ w.cell? ⟨g, (L.length + j) * 5 + 3, none⟩ = some (.int .i64 (-77)) ∧ w.cell? ⟨g, (L.length + j) * 5 + 4, none⟩ = some (.string spT) := by
  have hlt : L.length + j < (L ++ [spR, spR]).length := by simp; omega
  obtain ⟨g', off, h1, h2, h3, h4, h5, h6, h7⟩ := h (L.length + j) hlt
  have hs : (L ++ [spR, spR])[L.length + j]'hlt = spR := by
    rw [List.getElem_append_right (by omega)]
    match j, hj with
    | 0, _ => simp
    | 1, _ => simp
  injection h1 with h1
  injection h1 with h1 h0
  subst h1; subst h0
  rw [hs] at h3 h4 h5 h6 h7
  simp only [Nat.zero_add] at h3 h4 h5 h6 h7
  exact ⟨h3, h4, h5, h6, h7⟩

end Go.Proofs.YthabenjghhmicaaGreat
