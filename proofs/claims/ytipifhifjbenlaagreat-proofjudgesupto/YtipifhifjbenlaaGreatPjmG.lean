import Derived.Test.YtipifhifjbenlaaGreatPj1G
import Derived.Test.YtipifhifjbenlaaGreatRf1G
import Derived.Test.YtipifhifjbenlaaGreatVs1G
import Derived.Test.YtipifhifjbenlaaGreatSd1G
/-
  Proofs: the reference's gaps, their types. (The verifier's own text.)
-/
namespace Go.Proofs.YtipifhifjbenlaaGreat
set_option linter.unusedVariables false
set_option linter.unusedSimpArgs false
open Go.RowKit Go.Shelf Go.Proofs.YtipifhifjbenlaaGreat.Nm

def hasL (ty : List Nat) (t : Int) : Bool := ty.any fun k => t == (k : Int)
def cutL (ty : List Nat) : Bool := hasL ty 2 && !hasL ty 6
def awayL (ty : List Nat) : Bool := cutL ty || hasL ty 39
def lackL (ty : List Nat) (t : Int) : Bool := if cutL ty = true ∧ ¬ t = 43 then false else if t = 255 then decide (ty.length = 0) else !hasL ty t && !hasL ty 5
set_option maxRecDepth 100000 in
theorem byte_bit : ∀ v : Nat, v < 256 → ¬ v = 0 → ∃ i, i < 8 ∧ v / 2 ^ (7 - i) % 2 = 1 := by decide
theorem typF_pos : ∀ (f : Nat) (last : Int) (s : ByteArray) (l : List Nat), typF f last s = some l → l = [] → s.size = 0
  | 0, last, s, l, h, _ => by
    unfold typF at h; split at h
    · assumption
    · cases h
  | f + 1, last, s, l, h, hl => by
    unfold typF at h
    split at h
    · assumption
    split at h
    · cases h
    split at h
    · cases h
    rename_i h3
    split at h
    · cases h
    split at h
    · cases h
    rename_i h4 h5
    exfalso
    cases e : typF f (bt s 0) (s.extract (2 + bt s 1) s.size) with
    | none => rw [e] at h; cases h
    | some q =>
      rw [e] at h
      simp at h
      rw [hl] at h
      have hb := (List.append_eq_nil_iff.1 h).1
      have h6 : bt s 1 ≠ 0 := by omega
      have h8 : bt (s.extract 2 (2 + bt s 1)) (bt s 1 - 1) = bt s (1 + bt s 1) := by
        rw [bt_extract s 2 (2 + bt s 1) (bt s 1 - 1) (by omega) (by omega)]
        congr 1
        omega
      obtain ⟨i, hi8, hi⟩ := byte_bit (bt s (1 + bt s 1)) (bt_lt _ _) h5
      have hm : bt s 0 * 256 + (8 * (bt s 1 - 1) + i) ∈ blkT (bt s 0) (s.extract 2 (2 + bt s 1)) (8 * bt s 1) := mem_blkT.2 ⟨8 * (bt s 1 - 1) + i, by omega, rfl, by
        unfold bitAt
        rw [show (8 * (bt s 1 - 1) + i) / 8 = bt s 1 - 1 by omega, show (8 * (bt s 1 - 1) + i) % 8 = i by omega, h8]
        exact hi⟩
      rw [hb] at hm
      cases hm
theorem typ_empty {s : ByteArray} {l : List Nat} (h : typB s = some l) : decide (l.length = 0) = (s.size == 0) := by
  unfold typB at h
  cases e : typS (-1) s with
  | none => rw [e] at h; cases h
  | some q =>
    rw [e] at h
    simp only at h
    split at h
    · cases h
    · cases h
      rcases Nat.eq_zero_or_pos s.size with h0 | h0
      · have h1 := typS_nil (last := -1) h0
        rw [h1] at e
        cases e
        simp [h0]
      · have h2 : ¬ l.length = 0 := fun h3 => by
          have := typF_pos _ _ _ _ e (List.length_eq_zero_iff.1 h3)
          omega
        rw [decide_eq_false h2]
        symm
        rw [beq_eq_false_iff_ne]
        omega
theorem lack_same {s : ByteArray} {l : List Nat} (h : typB s = some l) (t : Int) : lackL l t = denT s t := by
  have ht : tyL s = l := by unfold tyL; rw [h]; rfl
  have hh : ∀ x, hasL l x = hasT s x := fun x => by unfold hasL hasT; rw [ht]
  have hc : cutL l = cutT s := by unfold cutL cutT; rw [hh, hh]
  have h0 := typ_empty h
  unfold lackL denT lackT
  rw [hc, hh, hh, h0]
  by_cases h43 : t = 43
  · subst h43; simp
  · by_cases h255 : t = 255
    · subst h255
      cases cutT s <;> simp
    · cases cutT s <;> simp [h43, h255]
theorem away_same {s : ByteArray} {l : List Nat} (h : typB s = some l) : awayL l = awayT s := by
  have ht : tyL s = l := by unfold tyL; rw [h]; rfl
  have hh : ∀ x, hasL l x = hasT s x := fun x => by unfold hasL hasT; rw [ht]
  unfold awayL awayT cutL cutT
  rw [hh, hh, hh]
/-- what lies in memory along a gap's method -/
def Gk (w wc : World) (ga : Array Value) (p : Option Addr) (ty : List Nat) : Prop := Bx wc w.heap.size ga 43 ∧ Below w.heap.size w wc ∧ NumsAt wc p ty
theorem Gk.step {w wc wd : World} {ga : Array Value} {p : Option Addr} {ty : List Nat} (h : Gk w wc ga p ty) (hB : Below wc.heap.size wc wd) : Gk w wd ga p ty := ⟨h.1.below hB h.1.lt, bstep h.2.1 hB h.2.1.size, h.2.2.below hB⟩
theorem Gk.start (w : World) (ga : Array Value) {p : Option Addr} {ty : List Nat} (h : NumsAt w p ty) : Gk w (w.alloc (.cells ga 43)) ga p ty := ⟨World.alloc_heap_new w _, (Below.refl _ _).alloc (Nat.le_refl _) _, h.below ((Below.refl _ _).alloc (Nat.le_refl _) _)⟩
theorem Gk.cells {w wc : World} {o d nx ow sl : ByteArray} {t c l rd : Int} {hb : Bool} {p : Option Addr} {ca : Nat} {ty : List Nat} (h : Gk w wc #[.string o, .int .i64 t, .int .i64 c, .int .i64 l, .string d, .bool hb, .string nx, .string ow, .string sl, .int .i64 rd, .slice p ty.length ca] p ty) : wc.cell? ⟨w.heap.size, 0, none⟩ = some (.string o) ∧ wc.cell? ⟨w.heap.size, 1, none⟩ = some (.int .i64 t) ∧ wc.cell? ⟨w.heap.size, 2, none⟩ = some (.int .i64 c) ∧ wc.cell? ⟨w.heap.size, 3, none⟩ = some (.int .i64 l) ∧ wc.cell? ⟨w.heap.size, 4, none⟩ = some (.string d) ∧ wc.cell? ⟨w.heap.size, 5, none⟩ = some (.bool hb) ∧ wc.cell? ⟨w.heap.size, 6, none⟩ = some (.string nx) ∧ wc.cell? ⟨w.heap.size, 7, none⟩ = some (.string ow) ∧ wc.cell? ⟨w.heap.size, 8, none⟩ = some (.string sl) ∧ wc.cell? ⟨w.heap.size, 9, none⟩ = some (.int .i64 rd) ∧ wc.cell? ⟨w.heap.size, 10, none⟩ = some (.slice p ty.length ca) := ⟨h.1.cell rfl, h.1.cell rfl, h.1.cell rfl, h.1.cell rfl, h.1.cell rfl, h.1.cell rfl, h.1.cell rfl, h.1.cell rfl, h.1.cell rfl, h.1.cell rfl, h.1.cell rfl⟩
set_option maxRecDepth 100000 in
set_option maxHeartbeats 1000000 in
/-- Gap.says -/
theorem says_any (o d nx ow sl : ByteArray) (t c l rd : Int) (hb : Bool) (p : Option Addr) (ca : Nat) (ty : List Nat) (x : Int) (w : World) (hl : ty.length ≤ 1048576) (hat : NumsAt w p ty) :
    Calls Tryz.prog 39 #[.agg #[.string o, .int .i64 t, .int .i64 c, .int .i64 l, .string d, .bool hb, .string nx, .string ow, .string sl, .int .i64 rd, .slice p ty.length ca], .int .i64 x] w fun r w' => r = .returned (.bool (hasL ty x)) ∧ Below w.heap.size w w' := by
  have G0 := hide' (Gk.start w #[.string o, .int .i64 t, .int .i64 c, .int .i64 l, .string d, .bool hb, .string nx, .string ow, .string sl, .int .i64 rd, .slice p ty.length ca] hat)
  obtain ⟨W, hW⟩ : ∃ W, w.alloc (.cells #[.string o, .int .i64 t, .int .i64 c, .int .i64 l, .string d, .bool hb, .string nx, .string ow, .string sl, .int .i64 rd, .slice p ty.length ca] 43) = W := ⟨_, rfl⟩
  rw [hW] at G0
  obtain ⟨k0, k1, k2, k3, k4, k5, k6, k7, k8, k9, k10⟩ := G0.out.cells
  clear hat
  go_enter Tryz.func39, Tryz.ntmps39
  go_wp2_with fail
  try rw [hW]
  clear hW k0 k1 k2 k3 k4 k5 k6 k7 k8 k9 k10
  go_loop [10] (fun i => ∃ k : Nat, i = .int .i64 (k : Int) ∧ k ≤ ty.length ∧ Hid (∀ j (hj : j < ty.length), j < k → ¬ x = (ty[j] : Int))) (fun i => ty.length - (intOf i).toNat)
  case atStart => exact ⟨0, rfl, Nat.zero_le _, fun j _ h => absurd h (Nat.not_lt_zero _)⟩
  case round =>
    obtain ⟨k, rfl, hk, HN⟩ := hrel
    by_cases hlt : k < ty.length
    · obtain ⟨g, off, rfl, hg, e0⟩ := G0.out.2.2 k hlt
      obtain ⟨y, hy⟩ : ∃ y, ty[k] = y := ⟨_, rfl⟩
      have HY := hide' hy
      rw [hy] at e0
      clear hy
      by_cases ht : (y : Int) = x
      · have HE : Hid (hasL ty x = true) := List.any_eq_true.2 ⟨y, HY.out ▸ List.getElem_mem hlt, beq_iff_eq.2 ht.symm⟩
        go_wp2_with fail
        go_ret
        exact ⟨by rw [HE.out]; rfl, G0.out.2.1⟩
      · go_wp2_with fail
        exact ⟨⟨k + 1, by go_num, by omega, fun j hj h => by
          rcases Nat.lt_succ_iff_lt_or_eq.1 h with h | rfl
          · exact HN.out j hj h
          · rw [HY.out]; exact fun e => ht e.symm⟩, by simp [intOf]; omega⟩
    · obtain rfl : k = ty.length := by omega
      have HE : Hid (hasL ty x = false) := by
        refine List.any_eq_false.2 (fun y hy => ?_)
        obtain ⟨j, hj, rfl⟩ := List.getElem_of_mem hy
        simpa using HN.out j hj hj
      go_wp2_with fail
      go_ret
      exact ⟨by rw [HE.out]; rfl, G0.out.2.1⟩
set_option maxRecDepth 100000 in
set_option maxHeartbeats 2000000 in
/-- Gap.AtCut -/
theorem atCut_any (o d nx ow sl : ByteArray) (t c l rd : Int) (hb : Bool) (p : Option Addr) (ca : Nat) (ty : List Nat) (w : World) (hl : ty.length ≤ 1048576) (hat : NumsAt w p ty) :
    Calls Tryz.prog 38 #[.agg #[.string o, .int .i64 t, .int .i64 c, .int .i64 l, .string d, .bool hb, .string nx, .string ow, .string sl, .int .i64 rd, .slice p ty.length ca]] w fun r w' => r = .returned (.bool (cutL ty)) ∧ Below w.heap.size w w' := by
  have G0 := hide' (Gk.start w #[.string o, .int .i64 t, .int .i64 c, .int .i64 l, .string d, .bool hb, .string nx, .string ow, .string sl, .int .i64 rd, .slice p ty.length ca] hat)
  obtain ⟨k0, k1, k2, k3, k4, k5, k6, k7, k8, k9, k10⟩ := G0.out.cells
  have H2 := hide' (fun W (h : NumsAt W p ty) => says_any o d nx ow sl t c l rd hb p ca ty 2 W hl h)
  have H6 := hide' (fun W (h : NumsAt W p ty) => says_any o d nx ow sl t c l rd hb p ca ty 6 W hl h)
  have HE : Hid (cutL ty = (hasL ty 2 && !hasL ty 6)) := rfl
  rw [HE.out]
  generalize hasL ty 2 = a at *
  generalize hasL ty 6 = b at *
  clear HE hat
  cases a <;> cases b
  all_goals (
    have M1 : Hid True := trivial
    go_enter Tryz.func38, Tryz.ntmps38
    go_wp2_with (first
      | (go_at_call 39; have _ := M1; clear M1; refine (H2.out _ G0.out.2.2).mono ?_; rintro r w1 ⟨rfl, hB⟩; have G1 := hide' (G0.out.step hB); clear hB k0 k1 k2 k3 k4 k5 k6 k7 k8 k9 k10; obtain ⟨k0, k1, k2, k3, k4, k5, k6, k7, k8, k9, k10⟩ := G1.out.cells)
      | (go_at_call 39; refine (H6.out _ G1.out.2.2).mono ?_; rintro r w2 ⟨rfl, hB⟩; have G2 := hide' (G1.out.step hB); clear hB k0 k1 k2 k3 k4 k5 k6 k7 k8 k9 k10; obtain ⟨k0, k1, k2, k3, k4, k5, k6, k7, k8, k9, k10⟩ := G2.out.cells))
    go_ret
    exact ⟨rfl, by first | exact G2.out.2.1 | exact G1.out.2.1⟩)
set_option maxRecDepth 100000 in
set_option maxHeartbeats 2000000 in
/-- Gap.Away -/
theorem gAway_any (o d nx ow sl : ByteArray) (t c l rd : Int) (hb : Bool) (p : Option Addr) (ca : Nat) (ty : List Nat) (w : World) (hl : ty.length ≤ 1048576) (hat : NumsAt w p ty) :
    Calls Tryz.prog 23 #[.agg #[.string o, .int .i64 t, .int .i64 c, .int .i64 l, .string d, .bool hb, .string nx, .string ow, .string sl, .int .i64 rd, .slice p ty.length ca]] w fun r w' => r = .returned (.bool (awayL ty)) ∧ Below w.heap.size w w' := by
  have G0 := hide' (Gk.start w #[.string o, .int .i64 t, .int .i64 c, .int .i64 l, .string d, .bool hb, .string nx, .string ow, .string sl, .int .i64 rd, .slice p ty.length ca] hat)
  obtain ⟨k0, k1, k2, k3, k4, k5, k6, k7, k8, k9, k10⟩ := G0.out.cells
  have H2 := hide' (fun W (h : NumsAt W p ty) => atCut_any o d nx ow sl t c l rd hb p ca ty W hl h)
  have H6 := hide' (fun W (h : NumsAt W p ty) => says_any o d nx ow sl t c l rd hb p ca ty 39 W hl h)
  have HE : Hid (awayL ty = (cutL ty || hasL ty 39)) := rfl
  rw [HE.out]
  generalize cutL ty = a at *
  generalize hasL ty 39 = b at *
  clear HE hat
  cases a <;> cases b
  all_goals (
    go_enter Tryz.func23, Tryz.ntmps23
    go_wp2_with (first
      | (go_at_call 38; refine (H2.out _ G0.out.2.2).mono ?_; rintro r w1 ⟨rfl, hB⟩; have G1 := hide' (G0.out.step hB); clear hB k0 k1 k2 k3 k4 k5 k6 k7 k8 k9 k10; obtain ⟨k0, k1, k2, k3, k4, k5, k6, k7, k8, k9, k10⟩ := G1.out.cells)
      | (go_at_call 39; refine (H6.out _ G1.out.2.2).mono ?_; rintro r w2 ⟨rfl, hB⟩; have G2 := hide' (G1.out.step hB); clear hB k0 k1 k2 k3 k4 k5 k6 k7 k8 k9 k10; obtain ⟨k0, k1, k2, k3, k4, k5, k6, k7, k8, k9, k10⟩ := G2.out.cells))
    go_ret
    exact ⟨rfl, by first | exact G2.out.2.1 | exact G1.out.2.1⟩)
end Go.Proofs.YtipifhifjbenlaaGreat

/-
  Proofs: the reference's gaps, what they lack and match. (The verifier's own text.)
-/
namespace Go.Proofs.YtipifhifjbenlaaGreat
set_option linter.unusedVariables false
set_option linter.unusedSimpArgs false
open Go.RowKit Go.Shelf Go.Proofs.YtipifhifjbenlaaGreat.Nm

set_option maxRecDepth 100000 in
set_option maxHeartbeats 4000000 in
/-- Gap.Lacks -/
theorem lacksG_any (o d nx ow sl : ByteArray) (t c l rd : Int) (hb : Bool) (p : Option Addr) (ca : Nat) (ty : List Nat) (x : Int) (w : World) (hl : ty.length ≤ 1048576) (hat : NumsAt w p ty) :
    Calls Tryz.prog 22 #[.agg #[.string o, .int .i64 t, .int .i64 c, .int .i64 l, .string d, .bool hb, .string nx, .string ow, .string sl, .int .i64 rd, .slice p ty.length ca], .int .i64 x] w fun r w' => r = .returned (.bool (lackL ty x)) ∧ Below w.heap.size w w' := by
  have G0 := hide' (Gk.start w #[.string o, .int .i64 t, .int .i64 c, .int .i64 l, .string d, .bool hb, .string nx, .string ow, .string sl, .int .i64 rd, .slice p ty.length ca] hat)
  obtain ⟨k0, k1, k2, k3, k4, k5, k6, k7, k8, k9, k10⟩ := G0.out.cells
  have HC := hide' (fun W (h : NumsAt W p ty) => atCut_any o d nx ow sl t c l rd hb p ca ty W hl h)
  have H2 := hide' (fun W (h : NumsAt W p ty) => says_any o d nx ow sl t c l rd hb p ca ty x W hl h)
  have H6 := hide' (fun W (h : NumsAt W p ty) => says_any o d nx ow sl t c l rd hb p ca ty 5 W hl h)
  have HE : Hid (lackL ty x = if cutL ty = true ∧ ¬ x = 43 then false else if x = 255 then decide (ty.length = 0) else !hasL ty x && !hasL ty 5) := rfl
  generalize cutL ty = a at *
  generalize hasL ty x = b at *
  generalize hasL ty 5 = e at *
  clear hat
  by_cases hc : a = true ∧ ¬ x = 43
  · rw [if_pos hc] at HE
    rw [HE.out]
    obtain ⟨rfl, hx⟩ := hc
    have hxb : (x != 43) = true := bne_iff_ne.2 hx
    go_enter Tryz.func22, Tryz.ntmps22
    go_wp2_with (first
      | (go_at_call 38; refine (HC.out _ G0.out.2.2).mono ?_; rintro r w1 ⟨rfl, hB⟩; have G1 := hide' (G0.out.step hB); clear hB k0 k1 k2 k3 k4 k5 k6 k7 k8 k9 k10; obtain ⟨k0, k1, k2, k3, k4, k5, k6, k7, k8, k9, k10⟩ := G1.out.cells))
    go_ret
    exact ⟨rfl, G1.out.2.1⟩
  · rw [if_neg hc] at HE
    by_cases hx : x = 255
    · subst hx
      have ha : a = false := by
        cases a
        · rfl
        · exact absurd ⟨rfl, by decide⟩ hc
      subst ha
      rw [if_pos rfl] at HE
      rw [HE.out]
      go_enter Tryz.func22, Tryz.ntmps22
      go_wp2_with (first
        | (go_at_call 38; refine (HC.out _ G0.out.2.2).mono ?_; rintro r w1 ⟨rfl, hB⟩; have G1 := hide' (G0.out.step hB); clear hB k0 k1 k2 k3 k4 k5 k6 k7 k8 k9 k10; obtain ⟨k0, k1, k2, k3, k4, k5, k6, k7, k8, k9, k10⟩ := G1.out.cells))
      go_ret
      exact ⟨by first | rfl | (simp; done) | (congr 2; simp [beq_iff_eq]; done) | (cases hty : ty with | nil => rfl | cons y ys => rfl), G1.out.2.1⟩
    · rw [if_neg hx] at HE
      rw [HE.out]
      by_cases hx4 : x = 43
      · subst hx4
        clear hc hx
        cases a <;> cases b <;> cases e
        all_goals (
          have M1 : Hid True := trivial
          go_enter Tryz.func22, Tryz.ntmps22
          go_wp2_with (first
            | (go_at_call 38; refine (HC.out _ G0.out.2.2).mono ?_; rintro r w1 ⟨rfl, hB⟩; have G1 := hide' (G0.out.step hB); clear hB k0 k1 k2 k3 k4 k5 k6 k7 k8 k9 k10; obtain ⟨k0, k1, k2, k3, k4, k5, k6, k7, k8, k9, k10⟩ := G1.out.cells)
            | (go_at_call 39; have _ := M1; clear M1; refine (H2.out _ G1.out.2.2).mono ?_; rintro r w2 ⟨rfl, hB⟩; have G2 := hide' (G1.out.step hB); clear hB k0 k1 k2 k3 k4 k5 k6 k7 k8 k9 k10; obtain ⟨k0, k1, k2, k3, k4, k5, k6, k7, k8, k9, k10⟩ := G2.out.cells)
            | (go_at_call 39; refine (H6.out _ G2.out.2.2).mono ?_; rintro r w3 ⟨rfl, hB⟩; have G3 := hide' (G2.out.step hB); clear hB k0 k1 k2 k3 k4 k5 k6 k7 k8 k9 k10; obtain ⟨k0, k1, k2, k3, k4, k5, k6, k7, k8, k9, k10⟩ := G3.out.cells))
          go_ret
          exact ⟨rfl, by first | exact G3.out.2.1 | exact G2.out.2.1⟩)
      · have ha : a = false := by
          cases a
          · rfl
          · exact absurd ⟨rfl, hx4⟩ hc
        subst ha
        clear hc
        cases b <;> cases e
        all_goals (
          have M1 : Hid True := trivial
          go_enter Tryz.func22, Tryz.ntmps22
          go_wp2_with (first
            | (go_at_call 38; refine (HC.out _ G0.out.2.2).mono ?_; rintro r w1 ⟨rfl, hB⟩; have G1 := hide' (G0.out.step hB); clear hB k0 k1 k2 k3 k4 k5 k6 k7 k8 k9 k10; obtain ⟨k0, k1, k2, k3, k4, k5, k6, k7, k8, k9, k10⟩ := G1.out.cells)
            | (go_at_call 39; have _ := M1; clear M1; refine (H2.out _ G1.out.2.2).mono ?_; rintro r w2 ⟨rfl, hB⟩; have G2 := hide' (G1.out.step hB); clear hB k0 k1 k2 k3 k4 k5 k6 k7 k8 k9 k10; obtain ⟨k0, k1, k2, k3, k4, k5, k6, k7, k8, k9, k10⟩ := G2.out.cells)
            | (go_at_call 39; refine (H6.out _ G2.out.2.2).mono ?_; rintro r w3 ⟨rfl, hB⟩; have G3 := hide' (G2.out.step hB); clear hB k0 k1 k2 k3 k4 k5 k6 k7 k8 k9 k10; obtain ⟨k0, k1, k2, k3, k4, k5, k6, k7, k8, k9, k10⟩ := G3.out.cells))
          go_ret
          exact ⟨rfl, by first | exact G3.out.2.1 | exact G2.out.2.1⟩)
/-- does it stand at the name? -/
def gmB (hb : Bool) (o ow sl : ByteArray) (rd : Nat) (n : ByteArray) : Bool := if hb = true then isN n && ((hashB n sl rd).toList == ow.toList) else eqB o n
set_option maxRecDepth 100000 in
set_option maxHeartbeats 4000000 in
/-- Gap.Matches -/
theorem matches_any (o d nx ow sl : ByteArray) (t c l : Int) (rd : Nat) (hb : Bool) (p : Option Addr) (ca : Nat) (ty : List Nat) (n : ByteArray) (w : World) (hat : NumsAt w p ty) (ho : o.size ≤ 1048576) (hn : n.size ≤ 1048576) (hs : hb = true → sl.size ≤ 255) (hr : hb = true → rd ≤ 50) :
    Calls Tryz.prog 21 #[.agg #[.string o, .int .i64 t, .int .i64 c, .int .i64 l, .string d, .bool hb, .string nx, .string ow, .string sl, .int .i64 (rd : Int), .slice p ty.length ca], .string n] w fun r w' => r = .returned (.bool (gmB hb o ow sl rd n)) ∧ Below w.heap.size w w' := by
  have G0 := hide' (Gk.start w #[.string o, .int .i64 t, .int .i64 c, .int .i64 l, .string d, .bool hb, .string nx, .string ow, .string sl, .int .i64 (rd : Int), .slice p ty.length ca] hat)
  obtain ⟨k0, k1, k2, k3, k4, k5, k6, k7, k8, k9, k10⟩ := G0.out.cells
  have HQ := hide' (fun W => equalName_any o n W ho hn)
  clear hat
  cases hb with
  | false =>
    have HE : Hid (gmB false o ow sl rd n = eqB o n) := by unfold Hid gmB; simp
    rw [HE.out]
    generalize eqB o n = a at *
    go_enter Tryz.func21, Tryz.ntmps21
    go_wp2_with (go_at_call 33; refine (HQ.out _).mono ?_; rintro r w1 ⟨rfl, hB⟩; have G1 := hide' (G0.out.step hB); clear hB)
    go_ret
    exact ⟨rfl, G1.out.2.1⟩
  | true =>
    have HH := hide' (fun W => refHash_any n sl (rd : Int) W hn (by have := hs rfl; omega))
    have HE : Hid (gmB true o ow sl rd n = (isN n && ((hashB n sl rd).toList == ow.toList))) := by unfold Hid gmB; simp
    rw [HE.out]
    cases hN : isN n with
    | false =>
      rw [hashR_name hN] at HH
      go_enter Tryz.func21, Tryz.ntmps21
      go_wp2_with (go_at_call 37; refine (HH.out _).mono ?_; rintro r w1 ⟨rfl, hB⟩; have G1 := hide' (G0.out.step hB); clear hB k0 k1 k2 k3 k4 k5 k6 k7 k8 k9 k10; obtain ⟨k0, k1, k2, k3, k4, k5, k6, k7, k8, k9, k10⟩ := G1.out.cells)
      go_ret
      exact ⟨rfl, G1.out.2.1⟩
    | true =>
      rw [hashR_ok hN (hs rfl) (hr rfl)] at HH
      generalize hashB n sl rd = H at *
      go_enter Tryz.func21, Tryz.ntmps21
      go_wp2_with (go_at_call 37; refine (HH.out _).mono ?_; rintro r w1 ⟨rfl, hB⟩; have G1 := hide' (G0.out.step hB); clear hB k0 k1 k2 k3 k4 k5 k6 k7 k8 k9 k10; obtain ⟨k0, k1, k2, k3, k4, k5, k6, k7, k8, k9, k10⟩ := G1.out.cells)
      go_ret
      exact ⟨by simp, G1.out.2.1⟩
end Go.Proofs.YtipifhifjbenlaaGreat

/-
  Proofs: the reference's gaps, what they cover. (The verifier's own text.)
-/
namespace Go.Proofs.YtipifhifjbenlaaGreat
set_option linter.unusedVariables false
set_option linter.unusedSimpArgs false
open Go.RowKit Go.Shelf Go.Proofs.YtipifhifjbenlaaGreat.Nm

/-- does it cover the name? -/
def btL (ow nx h : ByteArray) : Bool := if Op.bytesLess ow.toList nx.toList = true then Op.bytesLess ow.toList h.toList && Op.bytesLess h.toList nx.toList else Op.bytesLess ow.toList h.toList || Op.bytesLess h.toList nx.toList
def gsB (hb : Bool) (o nx ow sl : ByteArray) (rd : Nat) (n : ByteArray) : Bool := if hb = true then isN n && btL ow nx (hashB n sl rd) else covB o nx n
set_option maxRecDepth 100000 in
set_option maxHeartbeats 4000000 in
/-- Gap.Spans -/
theorem spans_any (o d nx ow sl : ByteArray) (t c l : Int) (rd : Nat) (hb : Bool) (p : Option Addr) (ca : Nat) (ty : List Nat) (n : ByteArray) (w : World) (hat : NumsAt w p ty) (ho : o.size ≤ 1048576) (hx : nx.size ≤ 1048576) (hn : n.size ≤ 1048576) (hs : hb = true → sl.size ≤ 255) (hr : hb = true → rd ≤ 50) :
    Calls Tryz.prog 25 #[.agg #[.string o, .int .i64 t, .int .i64 c, .int .i64 l, .string d, .bool hb, .string nx, .string ow, .string sl, .int .i64 (rd : Int), .slice p ty.length ca], .string n] w fun r w' => r = .returned (.bool (gsB hb o nx ow sl rd n)) ∧ Below w.heap.size w w' := by
  have G0 := hide' (Gk.start w #[.string o, .int .i64 t, .int .i64 c, .int .i64 l, .string d, .bool hb, .string nx, .string ow, .string sl, .int .i64 (rd : Int), .slice p ty.length ca] hat)
  obtain ⟨k0, k1, k2, k3, k4, k5, k6, k7, k8, k9, k10⟩ := G0.out.cells
  have HQ := hide' (fun W => refCovers_any o nx n W ho hx hn)
  clear hat
  cases hb with
  | false =>
    have HE : Hid (gsB false o nx ow sl rd n = covB o nx n) := by unfold Hid gsB; simp
    rw [HE.out]
    generalize covB o nx n = a at *
    go_enter Tryz.func25, Tryz.ntmps25
    go_wp2_with (go_at_call 40; refine (HQ.out _).mono ?_; rintro r w1 ⟨rfl, hB⟩; have G1 := hide' (G0.out.step hB); clear hB)
    go_ret
    exact ⟨rfl, G1.out.2.1⟩
  | true =>
    have HH := hide' (fun W => refHash_any n sl (rd : Int) W hn (by have := hs rfl; omega))
    have HE : Hid (gsB true o nx ow sl rd n = (isN n && btL ow nx (hashB n sl rd))) := by unfold Hid gsB; simp
    rw [HE.out]
    cases hN : isN n with
    | false =>
      rw [hashR_name hN] at HH
      go_enter Tryz.func25, Tryz.ntmps25
      go_wp2_with (go_at_call 37; refine (HH.out _).mono ?_; rintro r w1 ⟨rfl, hB⟩; have G1 := hide' (G0.out.step hB); clear hB k0 k1 k2 k3 k4 k5 k6 k7 k8 k9 k10; obtain ⟨k0, k1, k2, k3, k4, k5, k6, k7, k8, k9, k10⟩ := G1.out.cells)
      go_ret
      exact ⟨rfl, G1.out.2.1⟩
    | true =>
      rw [hashR_ok hN (hs rfl) (hr rfl)] at HH
      generalize hashB n sl rd = H at *
      unfold btL
      cases h1 : Op.bytesLess ow.toList nx.toList <;> cases h2 : Op.bytesLess ow.toList H.toList <;> cases h3 : Op.bytesLess H.toList nx.toList
      all_goals (
        go_enter Tryz.func25, Tryz.ntmps25
        go_wp2_with (go_at_call 37; refine (HH.out _).mono ?_; rintro r w1 ⟨rfl, hB⟩; have G1 := hide' (G0.out.step hB); clear hB k0 k1 k2 k3 k4 k5 k6 k7 k8 k9 k10; obtain ⟨k0, k1, k2, k3, k4, k5, k6, k7, k8, k9, k10⟩ := G1.out.cells)
        go_ret
        exact ⟨by first | rfl | (simp [h1, h2, h3]; done), G1.out.2.1⟩)
set_option maxRecDepth 100000 in
set_option maxHeartbeats 4000000 in
/-- Gap.Denies -/
theorem gDenies_any (o d nx ow sl : ByteArray) (t c l : Int) (rd : Nat) (hb : Bool) (p : Option Addr) (ca : Nat) (ty : List Nat) (n : ByteArray) (w : World) (hl : ty.length ≤ 1048576) (hat : NumsAt w p ty) (ho : o.size ≤ 1048576) (hx : nx.size ≤ 1048576) (hn : n.size ≤ 1048576) (hs : hb = true → sl.size ≤ 255) (hr : hb = true → rd ≤ 50) :
    Calls Tryz.prog 16 #[.agg #[.string o, .int .i64 t, .int .i64 c, .int .i64 l, .string d, .bool hb, .string nx, .string ow, .string sl, .int .i64 (rd : Int), .slice p ty.length ca], .string n] w fun r w' => r = .returned (.bool (gsB hb o nx ow sl rd n && !(awayL ty && withinB n o))) ∧ Below w.heap.size w w' := by
  have G0 := hide' (Gk.start w #[.string o, .int .i64 t, .int .i64 c, .int .i64 l, .string d, .bool hb, .string nx, .string ow, .string sl, .int .i64 (rd : Int), .slice p ty.length ca] hat)
  obtain ⟨k0, k1, k2, k3, k4, k5, k6, k7, k8, k9, k10⟩ := G0.out.cells
  have HS := hide' (fun W (h : NumsAt W p ty) => spans_any o d nx ow sl t c l rd hb p ca ty n W h ho hx hn hs hr)
  have HA := hide' (fun W (h : NumsAt W p ty) => gAway_any o d nx ow sl t c l (rd : Int) hb p ca ty W hl h)
  have HW := hide' (fun W => refWithin_any n o W hn ho)
  generalize gsB hb o nx ow sl rd n = a at *
  generalize awayL ty = b at *
  generalize withinB n o = e at *
  clear hat
  cases a
  · go_enter Tryz.func16, Tryz.ntmps16
    go_wp2_with (first
      | (go_at_call 25; refine (HS.out _ G0.out.2.2).mono ?_; rintro r w1 ⟨rfl, hB⟩; have G1 := hide' (G0.out.step hB); clear hB k0 k1 k2 k3 k4 k5 k6 k7 k8 k9 k10; obtain ⟨k0, k1, k2, k3, k4, k5, k6, k7, k8, k9, k10⟩ := G1.out.cells))
    go_ret
    exact ⟨rfl, G1.out.2.1⟩
  cases b
  · go_enter Tryz.func16, Tryz.ntmps16
    go_wp2_with (first
      | (go_at_call 25; refine (HS.out _ G0.out.2.2).mono ?_; rintro r w1 ⟨rfl, hB⟩; have G1 := hide' (G0.out.step hB); clear hB k0 k1 k2 k3 k4 k5 k6 k7 k8 k9 k10; obtain ⟨k0, k1, k2, k3, k4, k5, k6, k7, k8, k9, k10⟩ := G1.out.cells)
      | (go_at_call 23; refine (HA.out _ G1.out.2.2).mono ?_; rintro r w2 ⟨rfl, hB⟩; have G2 := hide' (G1.out.step hB); clear hB k0 k1 k2 k3 k4 k5 k6 k7 k8 k9 k10; obtain ⟨k0, k1, k2, k3, k4, k5, k6, k7, k8, k9, k10⟩ := G2.out.cells))
    go_ret
    exact ⟨rfl, G2.out.2.1⟩
  cases e
  all_goals (
    go_enter Tryz.func16, Tryz.ntmps16
    go_wp2_with (first
      | (go_at_call 25; refine (HS.out _ G0.out.2.2).mono ?_; rintro r w1 ⟨rfl, hB⟩; have G1 := hide' (G0.out.step hB); clear hB k0 k1 k2 k3 k4 k5 k6 k7 k8 k9 k10; obtain ⟨k0, k1, k2, k3, k4, k5, k6, k7, k8, k9, k10⟩ := G1.out.cells)
      | (go_at_call 23; refine (HA.out _ G1.out.2.2).mono ?_; rintro r w2 ⟨rfl, hB⟩; have G2 := hide' (G1.out.step hB); clear hB k0 k1 k2 k3 k4 k5 k6 k7 k8 k9 k10; obtain ⟨k0, k1, k2, k3, k4, k5, k6, k7, k8, k9, k10⟩ := G2.out.cells)
      | (go_at_call 13; refine (HW.out _).mono ?_; rintro r w3 ⟨rfl, hB⟩; have G3 := hide' (G2.out.step hB); clear hB))
    go_ret
    exact ⟨rfl, G3.out.2.1⟩)
end Go.Proofs.YtipifhifjbenlaaGreat
