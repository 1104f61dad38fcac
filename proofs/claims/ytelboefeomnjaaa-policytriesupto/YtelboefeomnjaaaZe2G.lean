import Derived.Shelf.RegionOpen
import Derived.Deep.RegionHeld3
import Derived.Deep.RegionWith
import Derived.Test.YtelboefeomnjaaaZe1
import Derived.Shelf.RegionOpenPlain
/-
  Proofs: parts of a row of entries that change places. (The verifier's own text.)
-/
namespace Go.Proofs.Ytelboefeomnjaaa
set_option linter.unusedVariables false
set_option linter.unusedSimpArgs false
open Go.RowKit Go.Shelf Go.Proofs.Ytelboefeomnjaaa.Nm Go.Proofs.Ytelboefeomnjaaa.Zs

set_option maxRecDepth 100000 in
set_option maxHeartbeats 4000000 in
/-- slices.swapRangeCmpFunc -/
theorem swapRange_any (E : List Et) (fv : Value) (g cap : Nat) (L : List Nat) (a b n : Nat) (w : World) (h : Nb E w g L) (hd : a + n ≤ b) (hb : b + n ≤ L.length) (hL : L.length ≤ 1048576) :
    Calls Try.prog 47 #[.slice (some ⟨g, 0, none⟩) L.length cap, .int .i64 (a : Int), .int .i64 (b : Int), .int .i64 (n : Int), fv] w fun r w' => r = .returned (.tuple #[]) ∧ ∃ L', Mv L L' (sr a b n) ∧ Nw E w w' g L L' := by
  have H0 : Hid (Nw E w w g L L) := ⟨h, .refl _, grown_refl _ _⟩
  clear h
  go_enter Try.func47, Try.ntmps47
  go_wp2_with fail
  go_loopw [10] (fun iv wr => ∃ (i : Nat) (L1 : List Nat), iv = .int .i64 (i : Int) ∧ i ≤ n ∧ Hid (Mv L L1 (sr a b i)) ∧ Hid (Nw E w wr g L L1)) (fun iv _ => n - (intOf iv).toNat)
  case atStart => exact ⟨0, L, rfl, Nat.zero_le _, sr_zero L a b, H0⟩
  case round =>
    obtain ⟨i, L1, rfl, hi, HM, HW⟩ := hrel
    by_cases hlt : i < n
    · have hl1 := HW.out.len
      obtain ⟨ca0, ca1, ca2, ca3, ca4, ca5, ca6⟩ := HW.out.nb.cells (k := a + i) (by omega)
      obtain ⟨cb0, cb1, cb2, cb3, cb4, cb5, cb6⟩ := HW.out.nb.cells (k := b + i) (by omega)
      have fa := fun k => HW.out.nb.free k
      have fb := fun k => (HW.out.nb.set (i := a + i) (by omega) (ix L1 (b + i))).free k
      obtain ⟨u, cu0, cu1, cu2, cu3, cu4, cu5, cu6⟩ := HW.out.nb.any (i := a + i) (j := b + i) (by omega) (by omega) (ix L1 (b + i))
      have HN := hide' (HW.out.swapped (i := a + i) (j := b + i) (by omega) (by omega))
      have HS := hide' (sr_next HM.out (by omega) (by omega) (by omega))
      obtain ⟨x, hx⟩ : ∃ x, eAt E (ix L1 (a + i)) = x := ⟨_, rfl⟩
      obtain ⟨y, hy⟩ : ∃ y, eAt E (ix L1 (b + i)) = y := ⟨_, rfl⟩
      rw [hx, hy] at HN
      rw [hx] at ca0 ca1 ca2 ca3 ca4 ca5 ca6
      rw [hy] at cb0 cb1 cb2 cb3 cb4 cb5 cb6 cu0 cu1 cu2 cu3 cu4 cu5 cu6 fb
      clear hx hy
      obtain ⟨xf, xs, xo, xt, xc, xl, xd⟩ := x
      obtain ⟨yf, ys, yo, yt, yc, yl, yd⟩ := y
      simp only [set7] at ca0 ca1 ca2 ca3 ca4 ca5 ca6 cb0 cb1 cb2 cb3 cb4 cb5 cb6 cu0 cu1 cu2 cu3 cu4 cu5 cu6 fb HN
      have pa : (0 : Int) ≤ (a : Int) + (i : Int) := by omega
      have ba : (a : Int) + (i : Int) < (L.length : Int) := by omega
      have ra : IntKind.i64.wrap ((a : Int) + (i : Int)) = (a : Int) + (i : Int) := by rw [IntKind.wrap_i64]; omega
      have ea : ((a : Int) + (i : Int)).toNat = a + i := by omega
      have pb : (0 : Int) ≤ (b : Int) + (i : Int) := by omega
      have bb : (b : Int) + (i : Int) < (L.length : Int) := by omega
      have rb : IntKind.i64.wrap ((b : Int) + (i : Int)) = (b : Int) + (i : Int) := by rw [IntKind.wrap_i64]; omega
      have eb : ((b : Int) + (i : Int)).toNat = b + i := by omega
      go_wp2_with fail
      go_region_with (fail)
      all_goals
        go_wp2_with fail
        refine ⟨⟨i + 1, _, by go_num, by omega, HS, HN.out.drew⟩, by simp [intOf]; omega⟩
    · have hin : i = n := by omega
      subst hin
      go_wp2_with fail
      go_end0
      exact ⟨rfl, L1, HM.out, HW.out⟩
end Go.Proofs.Ytelboefeomnjaaa

/-
  Proofs: two parts of a row of entries change places. (The verifier's own text.)
-/
namespace Go.Proofs.Ytelboefeomnjaaa
set_option linter.unusedVariables false
set_option linter.unusedSimpArgs false
open Go.RowKit Go.Shelf Go.Proofs.Ytelboefeomnjaaa.Nm Go.Proofs.Ytelboefeomnjaaa.Zs

theorem swapRange_i (E : List Et) (fv : Value) (g cap : Nat) (L : List Nat) (l a b n : Nat) (A B N : Int) (w : World) (hA : A = (a : Int)) (hB : B = (b : Int)) (hN : N = (n : Int)) (hl : l = L.length) (h : Nb E w g L) (hd : a + n ≤ b) (hb : b + n ≤ L.length) (hL : L.length ≤ 1048576) :
    Calls Try.prog 47 #[.slice (some ⟨g, 0, none⟩) l cap, .int .i64 A, .int .i64 B, .int .i64 N, fv] w fun r w' => r = .returned (.tuple #[]) ∧ ∃ L', Mv L L' (sr a b n) ∧ Nw E w w' g L L' := by
  subst hA hB hN hl
  exact swapRange_any E fv g cap L a b n w h hd hb hL
theorem mv_same {L L' : List Nat} {f f' : Nat → Nat} (h : Mv L L' f) (e : ∀ k, f k = f' k) : Mv L L' f' := fun k => by rw [h k, e k]
theorem mv_comp {L L1 L2 : List Nat} {f f' : Nat → Nat} (h : Mv L L1 f) (h' : Mv L1 L2 f') : Mv L L2 (fun k => f (f' k)) := fun k => by rw [h' k, h (f' k)]

set_option maxRecDepth 100000 in
set_option maxHeartbeats 4000000 in
/-- slices.rotateCmpFunc -/
theorem rotate_any (E : List Et) (fv : Value) (g cap : Nat) (L : List Nat) (a m b : Nat) (w : World) (h : Nb E w g L) (ha : a < m) (hm : m < b) (hb : b ≤ L.length) (hL : L.length ≤ 1048576) :
    Calls Try.prog 41 #[.slice (some ⟨g, 0, none⟩) L.length cap, .int .i64 (a : Int), .int .i64 (m : Int), .int .i64 (b : Int), fv] w fun r w' => r = .returned (.tuple #[]) ∧ ∃ L', Mv L L' (rt a m b) ∧ Nw E w w' g L L' := by
  have H0 : Hid (Nw E w w g L L) := ⟨h, .refl _, grown_refl _ _⟩
  have HS := hide' (swapRange_i E fv g cap)
  clear h
  go_enter Try.func41, Try.ntmps41
  go_wp2_with fail
  go_loopw [10, 11] (fun iv jv wr => ∃ (i j : Nat) (L1 : List Nat), iv = .int .i64 (i : Int) ∧ jv = .int .i64 (j : Int) ∧ 0 < i ∧ 0 < j ∧ i ≤ m - a ∧ j ≤ b - m ∧ Hid (∀ L', Mv L1 L' (rt (m - i) m (m + j)) → Mv L L' (rt a m b)) ∧ Hid (Nw E w wr g L L1)) (fun iv jv _ => (intOf iv).toNat + (intOf jv).toNat)
  case atStart =>
    refine ⟨m - a, b - m, L, by go_num, by go_num, by omega, by omega, Nat.le_refl _, Nat.le_refl _, ?_, H0⟩
    intro L' h
    rw [show m - (m - a) = a by omega, show m + (b - m) = b by omega] at h
    exact h
  case round =>
    obtain ⟨i, j, L1, rfl, rfl, hi0, hj0, hi, hj, HM, HW⟩ := hrel
    have hl1 := hide' HW.out.len
    rcases Nat.lt_trichotomy i j with hlt | heq | hgt
    · have ne : ¬ (i : Int) = (j : Int) := by omega
      have ng : ¬ (i : Int) > (j : Int) := by omega
      go_wp2_with (go_at_call 47; refine (HS.out L1 L.length (m - i) (m + j - i) i _ _ _ _ (by omega) (by omega) (by omega) hl1.out.symm HW.out.nb (by omega) (by rw [hl1.out]; omega) (by rw [hl1.out]; omega)).mono ?_; rintro r w2 ⟨rfl, L2, hv2, hw2⟩; have HV2 := hide' hv2; have HW2 := hide' hw2; clear hv2 hw2)
      refine ⟨⟨i, j - i, L2, rfl, by go_num, by omega, by omega, by omega, by omega, ?_, HW.out.next HW2.out⟩, by simp [intOf]; omega⟩
      intro L' h'
      exact HM.out L' (mv_same (mv_comp HV2.out h') fun k => rt_right (by omega) (by omega) hlt k)
    · subst heq
      go_wp2_with (go_at_call 47; refine (HS.out L1 L.length (m - i) m i _ _ _ _ (by omega) (by omega) (by omega) hl1.out.symm HW.out.nb (by omega) (by rw [hl1.out]; omega) (by rw [hl1.out]; omega)).mono ?_; rintro r w2 ⟨rfl, L2, hv2, hw2⟩; have HV2 := hide' hv2; have HW2 := hide' hw2; clear hv2 hw2)
      go_end0
      exact ⟨rfl, L2, HM.out L2 (mv_same HV2.out fun k => rt_same (by omega) k), HW.out.next HW2.out⟩
    · have ne : ¬ (i : Int) = (j : Int) := by omega
      have ng : (i : Int) > (j : Int) := by omega
      go_wp2_with (go_at_call 47; refine (HS.out L1 L.length (m - i) m j _ _ _ _ (by omega) (by omega) (by omega) hl1.out.symm HW.out.nb (by omega) (by rw [hl1.out]; omega) (by rw [hl1.out]; omega)).mono ?_; rintro r w2 ⟨rfl, L2, hv2, hw2⟩; have HV2 := hide' hv2; have HW2 := hide' hw2; clear hv2 hw2)
      refine ⟨⟨i - j, j, L2, by go_num, rfl, by omega, by omega, by omega, by omega, ?_, HW.out.next HW2.out⟩, by simp [intOf]; omega⟩
      intro L' h'
      exact HM.out L' (mv_same (mv_comp HV2.out h') fun k => rt_left (by omega) (by omega) hgt k)
end Go.Proofs.Ytelboefeomnjaaa

/-
  Proofs: a part of a row of entries, sorted by putting in. (The verifier's own text.)
-/
namespace Go.Proofs.Ytelboefeomnjaaa
set_option linter.unusedVariables false
set_option linter.unusedSimpArgs false
open Go.RowKit Go.Shelf Go.Proofs.Ytelboefeomnjaaa.Nm Go.Proofs.Ytelboefeomnjaaa.Zs

/-- what the function that compares does, while a row is sorted -/
def Cm (E : List Et) (w : World) (g n : Nat) (lt : Nat → Nat → Bool) : Prop :=
  ∀ (x y : Nat) (W : World), x < n → y < n → w.grownBy W (some g) → Calls Try.prog 9 #[etV (eAt E x), etV (eAt E y)] W fun r w' => (∃ c : Int, r = .returned (.int .i64 c) ∧ decide (c < 0) = lt x y) ∧ Below W.heap.size W w'
theorem Cm.grown {E : List Et} {w w1 : World} {g n : Nat} {lt : Nat → Nat → Bool} (h : Cm E w g n lt) (hg : w.grownBy w1 (some g)) : Cm E w1 g n lt := fun x y W hx hy hW => h x y W hx hy (grown_trans hg hW)
/-- the function itself -/
abbrev cmf : Value := .func (Fn.func 9) #[] #[]

set_option maxRecDepth 100000 in
set_option maxHeartbeats 20000000 in
/-- slices.insertionSortCmpFunc -/
theorem insertion_any (E : List Et) (lt : Nat → Nat → Bool) (O : Ord lt) (g cap n : Nat) (L : List Nat) (a b : Nat) (w : World) (h : Nb E w g L) (hC : Cm E w g n lt) (hn : ∀ x ∈ L, x < n) (ha : a ≤ b) (hb : b ≤ L.length) (hL : L.length ≤ 1048576) :
    Calls Try.prog 31 #[.slice (some ⟨g, 0, none⟩) L.length cap, .int .i64 (a : Int), .int .i64 (b : Int), cmf] w fun r w' => r = .returned (.tuple #[]) ∧ ∃ L', Rg L L' a b ∧ So lt L' a b ∧ Nw E w w' g L L' := by
  have H0 : Hid (Nw E w w g L L) := ⟨h, .refl _, grown_refl _ _⟩
  have HC := hide' hC
  have HN := hide' hn
  have HO := hide' O
  clear h hC hn O
  go_enter Try.func31, Try.ntmps31
  go_wp2_with fail
  go_loopw [8] (fun iv wr => ∃ (i : Nat) (L1 : List Nat), iv = .int .i64 (i : Int) ∧ a < i ∧ i ≤ b + 1 ∧ Hid (Rg L L1 a b) ∧ Hid (So lt L1 a i) ∧ Hid (Nw E w wr g L L1)) (fun iv _ => b + 1 - (intOf iv).toNat)
  case atStart => exact ⟨a + 1, L, by go_num, by omega, by omega, Rg.refl L a b, So.one HO.out L (Nat.le_refl _), H0⟩
  case round =>
    obtain ⟨i, L1, rfl, hai, hib, HR, HS, HW⟩ := hrel
    by_cases hlt : i < b
    · go_wp2_with fail
      go_loopw [9] (fun jv wr2 => ∃ (j : Nat) (L2 : List Nat), jv = .int .i64 (j : Int) ∧ a ≤ j ∧ j ≤ i ∧ Hid (Mv L1 L2 (dn1 i j)) ∧ Hid (j = i ∨ lt (ix L1 i) (ix L1 j) = true) ∧ Hid (Nw E w wr2 g L L2)) (fun jv _ => (intOf jv).toNat)
      case atStart => exact ⟨i, L1, rfl, by omega, Nat.le_refl _, dn1_zero L1 i, Or.inl rfl, HW⟩
      case round =>
        obtain ⟨j, L2, rfl, haj, hji, HM, HX, HV⟩ := hrel
        have hl1 := HW.out.len
        have hl2 := HV.out.len
        have HE : Hid ((j = a ∨ lt (ix L1 i) (ix L1 (j - 1)) = false) → Rg L L2 a b ∧ So lt L2 a (i + 1)) := fun hs =>
          ⟨HR.out.trans (dn1_rg HM.out (HV.out.pm.trans HW.out.pm.symm) haj hji (by omega)), into_dn HO.out HS.out haj hji hs HX.out HM.out⟩
        by_cases hja : a < j
        · obtain ⟨q, rfl⟩ : ∃ q, j = q + 1 := ⟨j - 1, by omega⟩
          have m1 : ix L2 (q + 1) = ix L1 i := by rw [HM.out (q + 1)]; unfold dn1; rw [if_neg (by omega), if_pos rfl]
          have m2 : ix L2 q = ix L1 q := by rw [HM.out q]; unfold dn1; rw [if_neg (by omega), if_neg (by omega)]
          have xn : ix L1 i < n := HN.out _ (HW.out.pm.mem_iff.1 (ix_mem (by omega)))
          have yn : ix L1 q < n := HN.out _ (HW.out.pm.mem_iff.1 (ix_mem (by omega)))
          have HK : Hid (∀ W, wr.grownBy W (some g) → Calls Try.prog 9 #[etV (eAt E (ix L1 i)), etV (eAt E (ix L1 q))] W fun r w' => (∃ c : Int, r = .returned (.int .i64 c) ∧ decide (c < 0) = lt (ix L1 i) (ix L1 q)) ∧ Below W.heap.size W w') :=
            fun W hW => HC.out _ _ W xn yn (grown_trans HV.out.gr hW)
          have HMN := hide' (dn1_next HM.out (by omega) hji (by omega))
          have HVN : Hid (∀ W, Nw E w W g L L2 → Nw E w (set7 (set7 W g ((q + 1) * 7) (eAt E (ix L1 q))) g (q * 7) (eAt E (ix L1 i))) g L (sw L2 (q + 1) q)) := fun W hW => by
            have := hW.swapped (i := q + 1) (j := q) (by omega) (by omega)
            rw [m1, m2] at this
            exact this
          have HCU : Hid (∀ W, Nw E w W g L L2 → ∃ e : Et, C7 (set7 W g ((q + 1) * 7) (eAt E (ix L1 q))) g (q * 7) e) := fun W hW => hW.nb.any (i := q + 1) (j := q) (by rw [hW.len]; omega) (by rw [hW.len]; omega) (ix L1 q)
          have HFU : Hid (∀ W, Nw E w W g L L2 → ∀ k, (set7 W g ((q + 1) * 7) (eAt E (ix L1 q))).frozen? ⟨g, k, none⟩ = false) := fun W hW k => (hW.nb.set (i := q + 1) (by rw [hW.len]; omega) (ix L1 q)).free k
          have HCA : Hid (∀ W, Nw E w W g L L2 → C7 W g ((q + 1) * 7) (eAt E (ix L1 i)) ∧ C7 W g (q * 7) (eAt E (ix L1 q))) := fun W hW => by
            have ca := hW.nb.cells (k := q + 1) (by rw [hW.len]; omega)
            have cb := hW.nb.cells (k := q) (by rw [hW.len]; omega)
            rw [m1] at ca
            rw [m2] at cb
            exact ⟨ca, cb⟩
          rw [Nat.add_sub_cancel] at HMN HE
          obtain ⟨x, hx⟩ : ∃ x, ix L1 i = x := ⟨_, rfl⟩
          obtain ⟨y, hy⟩ : ∃ y, ix L1 q = y := ⟨_, rfl⟩
          have HX1 : Hid (lt x y = true → (q = i ∨ lt (ix L1 i) (ix L1 q) = true)) := fun h => Or.inr (by rw [hx, hy]; exact h)
          rw [hx, hy] at HK HVN HCA HE
          rw [hy] at HCU HFU
          clear m1 m2 xn yn hx hy
          obtain ⟨ex, hex⟩ : ∃ e, eAt E x = e := ⟨_, rfl⟩
          obtain ⟨ey, hey⟩ : ∃ e, eAt E y = e := ⟨_, rfl⟩
          rw [hex, hey] at HK HVN HCA
          rw [hey] at HCU HFU
          clear hex hey
          obtain ⟨xf, xs, xo, xt, xc, xl, xd⟩ := ex
          obtain ⟨yf, ys, yo, yt, yc, yl, yd⟩ := ey
          unfold etV at HK
          unfold C7 at HCA HCU
          simp only [set7] at HK HVN HCA HCU HFU
          have hgt : (q : Int) + 1 > (a : Int) := by omega
          have hgd : decide ((q : Int) + 1 > (a : Int)) = true := decide_eq_true hgt
          have pa : (0 : Int) ≤ (q : Int) + 1 := by omega
          have ra : IntKind.i64.wrap ((q : Int) + 1) = (q : Int) + 1 := by rw [IntKind.wrap_i64]; omega
          have ea : ((q : Int) + 1).toNat = q + 1 := by omega
          have ba : (q : Int) + 1 < (L.length : Int) := by omega
          have bb : (q : Int) < (L.length : Int) := by omega
          have pb : (0 : Int) ≤ (q : Int) := by omega
          have rb : IntKind.i64.wrap (q : Int) = (q : Int) := by rw [IntKind.wrap_i64]; omega
          obtain ⟨⟨ca0, ca1, ca2, ca3, ca4, ca5, ca6⟩, cb0, cb1, cb2, cb3, cb4, cb5, cb6⟩ := HCA.out _ HV.out
          cases hlv : lt x y with
          | true =>
            rw [hlv] at HK HE
            have HLV := hide' hlv
            clear hlv
            go_wp2_with fail
            go_region_held3 (fun V => (V.cell? ⟨g, (q + 1) * 7, none⟩ = some (.int .i64 xf) ∧ V.cell? ⟨g, (q + 1) * 7 + 1, none⟩ = some (.int .i64 xs) ∧ V.cell? ⟨g, (q + 1) * 7 + 2, none⟩ = some (.string xo) ∧ V.cell? ⟨g, (q + 1) * 7 + 3, none⟩ = some (.int .i64 xt) ∧ V.cell? ⟨g, (q + 1) * 7 + 4, none⟩ = some (.int .i64 xc) ∧ V.cell? ⟨g, (q + 1) * 7 + 5, none⟩ = some (.int .i64 xl) ∧ V.cell? ⟨g, (q + 1) * 7 + 6, none⟩ = some (.string xd)) ∧ V.cell? ⟨g, q * 7, none⟩ = some (.int .i64 yf) ∧ V.cell? ⟨g, q * 7 + 1, none⟩ = some (.int .i64 ys) ∧ V.cell? ⟨g, q * 7 + 2, none⟩ = some (.string yo) ∧ V.cell? ⟨g, q * 7 + 3, none⟩ = some (.int .i64 yt) ∧ V.cell? ⟨g, q * 7 + 4, none⟩ = some (.int .i64 yc) ∧ V.cell? ⟨g, q * 7 + 5, none⟩ = some (.int .i64 yl) ∧ V.cell? ⟨g, q * 7 + 6, none⟩ = some (.string yd)) (first | go_keep | (with_reducible exact HCA.out _ HV2.out) | (obtain ⟨⟨h0, h1, h2, h3, h4, h5, h6⟩, k0, k1, k2, k3, k4, k5, k6⟩ := HCA.out _ HV2.out; first | exact ⟨⟨h0, h1, h2, h3, h4, h5, h6⟩, k0, k1, k2, k3, k4, k5, k6⟩ | assumption)) ((go_at_call 9; refine (HK.out _ (grown_drewN _ 1 _)).mono ?_; rintro r w2 ⟨⟨c, rfl, hc⟩, hB2⟩; have hcn : c < 0 := of_decide_eq_true hc; have HV2 := hide' (HV.out.drew.below hB2); clear hB2))
            go_wp2_with fail
            clear ca0 ca1 ca2 ca3 ca4 ca5 ca6 cb0 cb1 cb2 cb3 cb4 cb5 cb6
            obtain ⟨⟨ca0, ca1, ca2, ca3, ca4, ca5, ca6⟩, cb0, cb1, cb2, cb3, cb4, cb5, cb6⟩ := HCA.out _ HV2.out
            obtain ⟨u, c30, c31, c32, c33, c34, c35, c36⟩ := HCU.out _ HV2.out
            have f1 := fun k => HV2.out.nb.free k
            have f2 := HFU.out _ HV2.out
            have HV3 := hide' (HVN.out _ HV2.out)
            go_region_with (fail)
            all_goals
              go_wp2_with fail
              refine ⟨⟨q, _, by go_num, by omega, by omega, HMN, HX1.out HLV.out, HV3.out.drew⟩, by simp [intOf]⟩
          | false =>
            rw [hlv] at HK HE
            have HLV := hide' hlv
            clear hlv
            go_wp2_with fail
            go_region_held3 (fun V => (V.cell? ⟨g, (q + 1) * 7, none⟩ = some (.int .i64 xf) ∧ V.cell? ⟨g, (q + 1) * 7 + 1, none⟩ = some (.int .i64 xs) ∧ V.cell? ⟨g, (q + 1) * 7 + 2, none⟩ = some (.string xo) ∧ V.cell? ⟨g, (q + 1) * 7 + 3, none⟩ = some (.int .i64 xt) ∧ V.cell? ⟨g, (q + 1) * 7 + 4, none⟩ = some (.int .i64 xc) ∧ V.cell? ⟨g, (q + 1) * 7 + 5, none⟩ = some (.int .i64 xl) ∧ V.cell? ⟨g, (q + 1) * 7 + 6, none⟩ = some (.string xd)) ∧ V.cell? ⟨g, q * 7, none⟩ = some (.int .i64 yf) ∧ V.cell? ⟨g, q * 7 + 1, none⟩ = some (.int .i64 ys) ∧ V.cell? ⟨g, q * 7 + 2, none⟩ = some (.string yo) ∧ V.cell? ⟨g, q * 7 + 3, none⟩ = some (.int .i64 yt) ∧ V.cell? ⟨g, q * 7 + 4, none⟩ = some (.int .i64 yc) ∧ V.cell? ⟨g, q * 7 + 5, none⟩ = some (.int .i64 yl) ∧ V.cell? ⟨g, q * 7 + 6, none⟩ = some (.string yd)) (first | go_keep | (with_reducible exact HCA.out _ HV2.out) | (obtain ⟨⟨h0, h1, h2, h3, h4, h5, h6⟩, k0, k1, k2, k3, k4, k5, k6⟩ := HCA.out _ HV2.out; first | exact ⟨⟨h0, h1, h2, h3, h4, h5, h6⟩, k0, k1, k2, k3, k4, k5, k6⟩ | assumption)) ((go_at_call 9; refine (HK.out _ (grown_drewN _ 1 _)).mono ?_; rintro r w2 ⟨⟨c, rfl, hc⟩, hB2⟩; have hcn : ¬ c < 0 := of_decide_eq_false hc; have HV2 := hide' (HV.out.drew.below hB2); clear hB2))
            go_wp2_with fail
            obtain ⟨q1, q2⟩ := HE.out (by simp)
            refine ⟨⟨i + 1, L2, by go_num, by omega, by omega, q1, q2, HV2⟩, by simp [intOf]; omega⟩
        · have hjj : j = a := by omega
          subst hjj
          have hng : ¬ (j : Int) > (j : Int) := by omega
          have hngd : decide ((j : Int) > (j : Int)) = false := decide_eq_false hng
          obtain ⟨q1, q2⟩ := HE.out (Or.inl rfl)
          have Q1 := hide' q1
          have Q2 := hide' q2
          clear q1 q2
          go_wp2_with fail
          go_region
          go_wp2_with fail
          refine ⟨⟨i + 1, L2, by go_num, by omega, by omega, Q1, Q2, HV.out.drew⟩, by simp [intOf]; omega⟩
    · go_wp2_with fail
      go_end0
      exact ⟨rfl, L1, HR.out, HS.out.sub (Nat.le_refl _) (by omega), HW.out⟩
end Go.Proofs.Ytelboefeomnjaaa
