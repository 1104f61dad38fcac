import Derived.Test.YtelboefeomnjaaaZe2G
/-
  Proofs: two parts of a row of entries that are in order, merged in place: one of them has one entry alone. (The verifier's own text.)
-/
namespace Go.Proofs.Ytelboefeomnjaaa
set_option linter.unusedVariables false
set_option linter.unusedSimpArgs false
open Go.RowKit Go.Shelf Go.Proofs.Ytelboefeomnjaaa.Nm Go.Proofs.Ytelboefeomnjaaa.Zs

set_option maxRecDepth 100000 in
set_option maxHeartbeats 20000000 in
/-- slices.symMergeCmpFunc: the first part is one number -/
theorem symA_any (E : List Et) (lt : Nat → Nat → Bool) (O : Ord lt) (g cap n : Nat) (L : List Nat) (a b : Nat) (w : World) (h : Nb E w g L) (hC : Cm E w g n lt) (hn : ∀ x ∈ L, x < n) (ha : a + 1 < b) (hb : b ≤ L.length) (hL : L.length ≤ 1048576) (h2 : So lt L (a + 1) b) :
    Calls Try.prog 32 #[.slice (some ⟨g, 0, none⟩) L.length cap, .int .i64 (a : Int), .int .i64 ((a + 1 : Nat) : Int), .int .i64 (b : Int), cmf] w fun r w' => r = .returned (.tuple #[]) ∧ ∃ L', Rg L L' a b ∧ So lt L' a b ∧ Nw E w w' g L L' := by
  have H0 : Hid (Nw E w w g L L) := ⟨h, .refl _, grown_refl _ _⟩
  have HC := hide' hC
  have HN := hide' hn
  have HO := hide' O
  have HS := hide' h2
  clear h hC hn O h2
  obtain ⟨m, hm⟩ : ∃ m, a + 1 = m := ⟨_, rfl⟩
  have hma : (m : Int) - (a : Int) = 1 := by omega
  rw [hm]
  go_enter Try.func32, Try.ntmps32
  go_wp2_with fail
  go_loopw [10, 11] (fun iv jv wr => ∃ (i j : Nat), iv = .int .i64 (i : Int) ∧ jv = .int .i64 (j : Int) ∧ m ≤ i ∧ i ≤ j ∧ j ≤ b ∧ Hid (i = m ∨ lt (ix L (i - 1)) (ix L a) = true) ∧ Hid (j = b ∨ lt (ix L j) (ix L a) = false) ∧ Hid (Nw E w wr g L L)) (fun iv jv _ => (intOf jv).toNat - (intOf iv).toNat)
  case atStart => exact ⟨m, b, rfl, rfl, Nat.le_refl _, by omega, Nat.le_refl _, Or.inl rfl, Or.inl rfl, H0⟩
  case round =>
    obtain ⟨i, j, rfl, rfl, him, hij, hjb, HI, HJ, HV⟩ := hrel
    by_cases hlt : i < j
    · obtain ⟨q, hq⟩ : ∃ q, (i + j) / 2 = q := ⟨_, rfl⟩
      have hqz : ((i : Int) + (j : Int)) / 2 = (q : Int) := by omega
      have hqi : i ≤ q ∧ q < j := by omega
      have HK : Hid (∀ W, wr.grownBy W (some g) → Calls Try.prog 9 #[etV (eAt E (ix L q)), etV (eAt E (ix L a))] W fun r w' => (∃ c : Int, r = .returned (.int .i64 c) ∧ decide (c < 0) = lt (ix L q) (ix L a)) ∧ Below W.heap.size W w') :=
        fun W hW => HC.out _ _ W (HN.out _ (ix_mem (by omega))) (HN.out _ (ix_mem (by omega))) (grown_trans HV.out.gr hW)
      have HCA : Hid (∀ W, Nw E w W g L L → C7 W g (q * 7) (eAt E (ix L q)) ∧ C7 W g (a * 7) (eAt E (ix L a))) := fun W hW =>
        ⟨hW.nb.cells (k := q) (by omega), hW.nb.cells (k := a) (by omega)⟩
      have HT : Hid (lt (ix L q) (ix L a) = true → (q + 1 = m ∨ lt (ix L (q + 1 - 1)) (ix L a) = true)) := fun h => Or.inr h
      have HF : Hid (lt (ix L q) (ix L a) = false → (q = b ∨ lt (ix L q) (ix L a) = false)) := fun h => Or.inr h
      obtain ⟨x, hx⟩ : ∃ x, ix L q = x := ⟨_, rfl⟩
      obtain ⟨y, hy⟩ : ∃ y, ix L a = y := ⟨_, rfl⟩
      have HTx : Hid (lt x y = true → (q + 1 = m ∨ lt (ix L (q + 1 - 1)) (ix L a) = true)) := fun h => HT.out (by rw [hx, hy]; exact h)
      have HFx : Hid (lt x y = false → (q = b ∨ lt (ix L q) (ix L a) = false)) := fun h => HF.out (by rw [hx, hy]; exact h)
      rw [hx, hy] at HK HCA
      clear hx hy hq HT HF
      obtain ⟨ex, hex⟩ : ∃ e, eAt E x = e := ⟨_, rfl⟩
      obtain ⟨ey, hey⟩ : ∃ e, eAt E y = e := ⟨_, rfl⟩
      rw [hex, hey] at HK HCA
      clear hex hey
      obtain ⟨xf, xs, xo, xt, xc, xl, xd⟩ := ex
      obtain ⟨yf, ys, yo, yt, yc, yl, yd⟩ := ey
      unfold etV at HK
      unfold C7 at HCA
      simp only at HK HCA
      have p1 : (0 : Int) ≤ (q : Int) := by omega
      have p2 : (q : Int) < (L.length : Int) := by omega
      have p3 : (0 : Int) ≤ (a : Int) := by omega
      have p4 : (a : Int) < (L.length : Int) := by omega
      obtain ⟨⟨ca0, ca1, ca2, ca3, ca4, ca5, ca6⟩, cb0, cb1, cb2, cb3, cb4, cb5, cb6⟩ := HCA.out _ HV.out
      cases hlv : lt x y with
      | true =>
        rw [hlv] at HK
        have HLV := hide' hlv
        clear hlv
        go_wp2_with fail
        go_region_held3 (fun V => (V.cell? ⟨g, q * 7, none⟩ = some (.int .i64 xf) ∧ V.cell? ⟨g, q * 7 + 1, none⟩ = some (.int .i64 xs) ∧ V.cell? ⟨g, q * 7 + 2, none⟩ = some (.string xo) ∧ V.cell? ⟨g, q * 7 + 3, none⟩ = some (.int .i64 xt) ∧ V.cell? ⟨g, q * 7 + 4, none⟩ = some (.int .i64 xc) ∧ V.cell? ⟨g, q * 7 + 5, none⟩ = some (.int .i64 xl) ∧ V.cell? ⟨g, q * 7 + 6, none⟩ = some (.string xd)) ∧ V.cell? ⟨g, a * 7, none⟩ = some (.int .i64 yf) ∧ V.cell? ⟨g, a * 7 + 1, none⟩ = some (.int .i64 ys) ∧ V.cell? ⟨g, a * 7 + 2, none⟩ = some (.string yo) ∧ V.cell? ⟨g, a * 7 + 3, none⟩ = some (.int .i64 yt) ∧ V.cell? ⟨g, a * 7 + 4, none⟩ = some (.int .i64 yc) ∧ V.cell? ⟨g, a * 7 + 5, none⟩ = some (.int .i64 yl) ∧ V.cell? ⟨g, a * 7 + 6, none⟩ = some (.string yd)) (first | go_keep | (with_reducible exact HCA.out _ HV2.out) | (obtain ⟨⟨h0, h1, h2, h3, h4, h5, h6⟩, k0, k1, k2, k3, k4, k5, k6⟩ := HCA.out _ HV2.out; first | exact ⟨⟨h0, h1, h2, h3, h4, h5, h6⟩, k0, k1, k2, k3, k4, k5, k6⟩ | assumption)) ((go_at_call 9; refine (HK.out _ (grown_drewN _ 1 _)).mono ?_; rintro r w2 ⟨⟨c, rfl, hc⟩, hB2⟩; have hcn : c < 0 := of_decide_eq_true hc; have HV2 := hide' (HV.out.drew.below hB2); clear hB2))
        go_wp2_with fail
        refine ⟨⟨q + 1, j, by go_num, rfl, by omega, by omega, by omega, HTx.out HLV.out, HJ, HV2⟩, by simp [intOf]; omega⟩
      | false =>
        rw [hlv] at HK
        have HLV := hide' hlv
        clear hlv
        go_wp2_with fail
        go_region_held3 (fun V => (V.cell? ⟨g, q * 7, none⟩ = some (.int .i64 xf) ∧ V.cell? ⟨g, q * 7 + 1, none⟩ = some (.int .i64 xs) ∧ V.cell? ⟨g, q * 7 + 2, none⟩ = some (.string xo) ∧ V.cell? ⟨g, q * 7 + 3, none⟩ = some (.int .i64 xt) ∧ V.cell? ⟨g, q * 7 + 4, none⟩ = some (.int .i64 xc) ∧ V.cell? ⟨g, q * 7 + 5, none⟩ = some (.int .i64 xl) ∧ V.cell? ⟨g, q * 7 + 6, none⟩ = some (.string xd)) ∧ V.cell? ⟨g, a * 7, none⟩ = some (.int .i64 yf) ∧ V.cell? ⟨g, a * 7 + 1, none⟩ = some (.int .i64 ys) ∧ V.cell? ⟨g, a * 7 + 2, none⟩ = some (.string yo) ∧ V.cell? ⟨g, a * 7 + 3, none⟩ = some (.int .i64 yt) ∧ V.cell? ⟨g, a * 7 + 4, none⟩ = some (.int .i64 yc) ∧ V.cell? ⟨g, a * 7 + 5, none⟩ = some (.int .i64 yl) ∧ V.cell? ⟨g, a * 7 + 6, none⟩ = some (.string yd)) (first | go_keep | (with_reducible exact HCA.out _ HV2.out) | (obtain ⟨⟨h0, h1, h2, h3, h4, h5, h6⟩, k0, k1, k2, k3, k4, k5, k6⟩ := HCA.out _ HV2.out; first | exact ⟨⟨h0, h1, h2, h3, h4, h5, h6⟩, k0, k1, k2, k3, k4, k5, k6⟩ | assumption)) ((go_at_call 9; refine (HK.out _ (grown_drewN _ 1 _)).mono ?_; rintro r w2 ⟨⟨c, rfl, hc⟩, hB2⟩; have hcn : ¬ c < 0 := of_decide_eq_false hc; have HV2 := hide' (HV.out.drew.below hB2); clear hB2))
        go_wp2_with fail
        refine ⟨⟨i, q, rfl, rfl, by omega, by omega, by omega, HI, HFx.out HLV.out, HV2⟩, by simp [intOf]; omega⟩
    · obtain rfl : i = j := by omega
      go_wp2_with fail
      go_loopw [13] (fun kv wr2 => ∃ (k : Nat) (L1 : List Nat), kv = .int .i64 (k : Int) ∧ a ≤ k ∧ k + 1 ≤ i ∧ Hid (Mv L L1 (up1 a k)) ∧ Hid (Nw E w wr2 g L L1)) (fun kv _ => i - (intOf kv).toNat)
      case atStart => exact ⟨a, L, rfl, Nat.le_refl _, by omega, up1_zero L a, HV⟩
      case round =>
        obtain ⟨k, L1, rfl, hak, hki, HM, HW⟩ := hrel
        have hl1 := HW.out.len
        by_cases hkl : k + 1 < i
        · have hkz : (k : Int) < (i : Int) - 1 := by omega
          obtain ⟨c10, c11, c12, c13, c14, c15, c16⟩ := HW.out.nb.cells (k := k) (by omega)
          obtain ⟨c20, c21, c22, c23, c24, c25, c26⟩ := HW.out.nb.cells (k := k + 1) (by omega)
          have f1 := fun kk => HW.out.nb.free kk
          have f2 := fun kk => (HW.out.nb.set (i := k) (by omega) (ix L1 (k + 1))).free kk
          obtain ⟨u, c30, c31, c32, c33, c34, c35, c36⟩ := HW.out.nb.any (i := k) (j := k + 1) (by omega) (by omega) (ix L1 (k + 1))
          have HW1 := hide' (HW.out.swapped (i := k) (j := k + 1) (by omega) (by omega))
          have HM1 := hide' (up1_next HM.out hak (by omega))
          obtain ⟨x, hx⟩ : ∃ x, eAt E (ix L1 k) = x := ⟨_, rfl⟩
          obtain ⟨y, hy⟩ : ∃ y, eAt E (ix L1 (k + 1)) = y := ⟨_, rfl⟩
          rw [hx, hy] at HW1
          rw [hx] at c10 c11 c12 c13 c14 c15 c16
          rw [hy] at c20 c21 c22 c23 c24 c25 c26 c30 c31 c32 c33 c34 c35 c36 f2
          clear hx hy
          obtain ⟨xf, xs, xo, xt, xc, xl, xd⟩ := x
          obtain ⟨yf, ys, yo, yt, yc, yl, yd⟩ := y
          simp only [set7] at c10 c11 c12 c13 c14 c15 c16 c20 c21 c22 c23 c24 c25 c26 c30 c31 c32 c33 c34 c35 c36 f2 HW1
          have p1 : (0 : Int) ≤ (k : Int) := by omega
          have p2 : (k : Int) < (L.length : Int) := by omega
          have p3 : (0 : Int) ≤ (k : Int) + 1 := by omega
          have p4 : (k : Int) + 1 < (L.length : Int) := by omega
          have rp : IntKind.i64.wrap ((k : Int) + 1) = (k : Int) + 1 := by rw [IntKind.wrap_i64]; omega
          have ep : ((k : Int) + 1).toNat = k + 1 := by omega
          go_wp2_with fail
          go_region_with (fail)
          all_goals
            go_wp2_with fail
            refine ⟨⟨k + 1, _, by go_num, by omega, by omega, HM1, HW1.out.drew⟩, by simp [intOf]; omega⟩
        · have hkz : ¬ (k : Int) < (i : Int) - 1 := by omega
          obtain rfl : k = i - 1 := by omega
          go_wp2_with fail
          (try simp only [Exit.inBlock, Exit.then]); refine bodyPost_ret (results_none rfl _ _ _) rfl ?_
          refine ⟨rfl, L1, up1_rg HM.out HW.out.pm hak (by omega), into_up HO.out HS.out (by omega) hjb (by rw [hm]; exact HI.out) HJ.out HM.out, HW.out⟩
end Go.Proofs.Ytelboefeomnjaaa

/-
  Proofs: two parts of a row of entries that are in order, merged in place: the second has one entry alone. (The verifier's own text.)
-/
namespace Go.Proofs.Ytelboefeomnjaaa
set_option linter.unusedVariables false
set_option linter.unusedSimpArgs false
open Go.RowKit Go.Shelf Go.Proofs.Ytelboefeomnjaaa.Nm Go.Proofs.Ytelboefeomnjaaa.Zs

set_option maxRecDepth 100000 in
set_option maxHeartbeats 20000000 in
/-- slices.symMergeCmpFunc: the second part is one number -/
theorem symB_any (E : List Et) (lt : Nat → Nat → Bool) (O : Ord lt) (g cap n : Nat) (L : List Nat) (a m : Nat) (w : World) (h : Nb E w g L) (hC : Cm E w g n lt) (hn : ∀ x ∈ L, x < n) (ha : a + 1 < m) (hb : m + 1 ≤ L.length) (hL : L.length ≤ 1048576) (h1 : So lt L a m) :
    Calls Try.prog 32 #[.slice (some ⟨g, 0, none⟩) L.length cap, .int .i64 (a : Int), .int .i64 (m : Int), .int .i64 ((m + 1 : Nat) : Int), cmf] w fun r w' => r = .returned (.tuple #[]) ∧ ∃ L', Rg L L' a (m + 1) ∧ So lt L' a (m + 1) ∧ Nw E w w' g L L' := by
  have H0 : Hid (Nw E w w g L L) := ⟨h, .refl _, grown_refl _ _⟩
  have HC := hide' hC
  have HN := hide' hn
  have HO := hide' O
  have HS := hide' h1
  clear h hC hn O h1
  obtain ⟨b, hm⟩ : ∃ b, m + 1 = b := ⟨_, rfl⟩
  have hma : ¬ (m : Int) - (a : Int) = 1 := by omega
  have hmd : ((m : Int) - (a : Int) == 1) = false := by simp; omega
  have hbm : (b : Int) - (m : Int) = 1 := by omega
  rw [hm]
  go_enter Try.func32, Try.ntmps32
  go_wp2_with fail
  go_loopw [14, 15] (fun iv jv wr => ∃ (i j : Nat), iv = .int .i64 (i : Int) ∧ jv = .int .i64 (j : Int) ∧ a ≤ i ∧ i ≤ j ∧ j ≤ m ∧ Hid (i = a ∨ lt (ix L m) (ix L (i - 1)) = false) ∧ Hid (j = m ∨ lt (ix L m) (ix L j) = true) ∧ Hid (Nw E w wr g L L)) (fun iv jv _ => (intOf jv).toNat - (intOf iv).toNat)
  case atStart => exact ⟨a, m, rfl, rfl, Nat.le_refl _, by omega, Nat.le_refl _, Or.inl rfl, Or.inl rfl, H0⟩
  case round =>
    obtain ⟨i, j, rfl, rfl, him, hij, hjb, HI, HJ, HV⟩ := hrel
    by_cases hlt : i < j
    · obtain ⟨q, hq⟩ : ∃ q, (i + j) / 2 = q := ⟨_, rfl⟩
      have hqz : ((i : Int) + (j : Int)) / 2 = (q : Int) := by omega
      have hqi : i ≤ q ∧ q < j := by omega
      have HK : Hid (∀ W, wr.grownBy W (some g) → Calls Try.prog 9 #[etV (eAt E (ix L m)), etV (eAt E (ix L q))] W fun r w' => (∃ c : Int, r = .returned (.int .i64 c) ∧ decide (c < 0) = lt (ix L m) (ix L q)) ∧ Below W.heap.size W w') :=
        fun W hW => HC.out _ _ W (HN.out _ (ix_mem (by omega))) (HN.out _ (ix_mem (by omega))) (grown_trans HV.out.gr hW)
      have HCA : Hid (∀ W, Nw E w W g L L → C7 W g (m * 7) (eAt E (ix L m)) ∧ C7 W g (q * 7) (eAt E (ix L q))) := fun W hW =>
        ⟨hW.nb.cells (k := m) (by omega), hW.nb.cells (k := q) (by omega)⟩
      have HF : Hid (lt (ix L m) (ix L q) = false → (q + 1 = a ∨ lt (ix L m) (ix L (q + 1 - 1)) = false)) := fun h => Or.inr h
      have HT : Hid (lt (ix L m) (ix L q) = true → (q = m ∨ lt (ix L m) (ix L q) = true)) := fun h => Or.inr h
      obtain ⟨x, hx⟩ : ∃ x, ix L m = x := ⟨_, rfl⟩
      obtain ⟨y, hy⟩ : ∃ y, ix L q = y := ⟨_, rfl⟩
      have HTx : Hid (lt x y = true → (q = m ∨ lt (ix L m) (ix L q) = true)) := fun h => HT.out (by rw [hx, hy]; exact h)
      have HFx : Hid (lt x y = false → (q + 1 = a ∨ lt (ix L m) (ix L (q + 1 - 1)) = false)) := fun h => HF.out (by rw [hx, hy]; exact h)
      rw [hx, hy] at HK HCA
      clear hx hy hq HT HF
      obtain ⟨ex, hex⟩ : ∃ e, eAt E x = e := ⟨_, rfl⟩
      obtain ⟨ey, hey⟩ : ∃ e, eAt E y = e := ⟨_, rfl⟩
      rw [hex, hey] at HK HCA
      clear hex hey
      obtain ⟨xf, xs, xo, xt, xc, xl, xd⟩ := ex
      obtain ⟨yf, ys, yo, yt, yc, yl, yd⟩ := ey
      unfold etV at HK
      unfold C7 at HCA
      simp only at HK HCA
      have p1 : (0 : Int) ≤ (q : Int) := by omega
      have p2 : (q : Int) < (L.length : Int) := by omega
      have p3 : (0 : Int) ≤ (m : Int) := by omega
      have p4 : (m : Int) < (L.length : Int) := by omega
      obtain ⟨⟨ca0, ca1, ca2, ca3, ca4, ca5, ca6⟩, cb0, cb1, cb2, cb3, cb4, cb5, cb6⟩ := HCA.out _ HV.out
      cases hlv : lt x y with
      | true =>
        rw [hlv] at HK
        have HLV := hide' hlv
        clear hlv
        go_wp2_with fail
        go_region_held3 (fun V => (V.cell? ⟨g, m * 7, none⟩ = some (.int .i64 xf) ∧ V.cell? ⟨g, m * 7 + 1, none⟩ = some (.int .i64 xs) ∧ V.cell? ⟨g, m * 7 + 2, none⟩ = some (.string xo) ∧ V.cell? ⟨g, m * 7 + 3, none⟩ = some (.int .i64 xt) ∧ V.cell? ⟨g, m * 7 + 4, none⟩ = some (.int .i64 xc) ∧ V.cell? ⟨g, m * 7 + 5, none⟩ = some (.int .i64 xl) ∧ V.cell? ⟨g, m * 7 + 6, none⟩ = some (.string xd)) ∧ V.cell? ⟨g, q * 7, none⟩ = some (.int .i64 yf) ∧ V.cell? ⟨g, q * 7 + 1, none⟩ = some (.int .i64 ys) ∧ V.cell? ⟨g, q * 7 + 2, none⟩ = some (.string yo) ∧ V.cell? ⟨g, q * 7 + 3, none⟩ = some (.int .i64 yt) ∧ V.cell? ⟨g, q * 7 + 4, none⟩ = some (.int .i64 yc) ∧ V.cell? ⟨g, q * 7 + 5, none⟩ = some (.int .i64 yl) ∧ V.cell? ⟨g, q * 7 + 6, none⟩ = some (.string yd)) (first | go_keep | (with_reducible exact HCA.out _ HV2.out) | (obtain ⟨⟨h0, h1, h2, h3, h4, h5, h6⟩, k0, k1, k2, k3, k4, k5, k6⟩ := HCA.out _ HV2.out; first | exact ⟨⟨h0, h1, h2, h3, h4, h5, h6⟩, k0, k1, k2, k3, k4, k5, k6⟩ | assumption)) ((go_at_call 9; refine (HK.out _ (grown_drewN _ 1 _)).mono ?_; rintro r w2 ⟨⟨c, rfl, hc⟩, hB2⟩; have hcn : c < 0 := of_decide_eq_true hc; have HV2 := hide' (HV.out.drew.below hB2); clear hB2))
        go_wp2_with fail
        refine ⟨⟨i, q, rfl, rfl, by omega, by omega, by omega, HI, HTx.out HLV.out, HV2⟩, by simp [intOf]; omega⟩
      | false =>
        rw [hlv] at HK
        have HLV := hide' hlv
        clear hlv
        go_wp2_with fail
        go_region_held3 (fun V => (V.cell? ⟨g, m * 7, none⟩ = some (.int .i64 xf) ∧ V.cell? ⟨g, m * 7 + 1, none⟩ = some (.int .i64 xs) ∧ V.cell? ⟨g, m * 7 + 2, none⟩ = some (.string xo) ∧ V.cell? ⟨g, m * 7 + 3, none⟩ = some (.int .i64 xt) ∧ V.cell? ⟨g, m * 7 + 4, none⟩ = some (.int .i64 xc) ∧ V.cell? ⟨g, m * 7 + 5, none⟩ = some (.int .i64 xl) ∧ V.cell? ⟨g, m * 7 + 6, none⟩ = some (.string xd)) ∧ V.cell? ⟨g, q * 7, none⟩ = some (.int .i64 yf) ∧ V.cell? ⟨g, q * 7 + 1, none⟩ = some (.int .i64 ys) ∧ V.cell? ⟨g, q * 7 + 2, none⟩ = some (.string yo) ∧ V.cell? ⟨g, q * 7 + 3, none⟩ = some (.int .i64 yt) ∧ V.cell? ⟨g, q * 7 + 4, none⟩ = some (.int .i64 yc) ∧ V.cell? ⟨g, q * 7 + 5, none⟩ = some (.int .i64 yl) ∧ V.cell? ⟨g, q * 7 + 6, none⟩ = some (.string yd)) (first | go_keep | (with_reducible exact HCA.out _ HV2.out) | (obtain ⟨⟨h0, h1, h2, h3, h4, h5, h6⟩, k0, k1, k2, k3, k4, k5, k6⟩ := HCA.out _ HV2.out; first | exact ⟨⟨h0, h1, h2, h3, h4, h5, h6⟩, k0, k1, k2, k3, k4, k5, k6⟩ | assumption)) ((go_at_call 9; refine (HK.out _ (grown_drewN _ 1 _)).mono ?_; rintro r w2 ⟨⟨c, rfl, hc⟩, hB2⟩; have hcn : ¬ c < 0 := of_decide_eq_false hc; have HV2 := hide' (HV.out.drew.below hB2); clear hB2))
        go_wp2_with fail
        refine ⟨⟨q + 1, j, by go_num, rfl, by omega, by omega, by omega, HFx.out HLV.out, HJ, HV2⟩, by simp [intOf]; omega⟩
    · obtain rfl : i = j := by omega
      go_wp2_with fail
      go_loopw [17] (fun kv wr2 => ∃ (k : Nat) (L1 : List Nat), kv = .int .i64 (k : Int) ∧ i ≤ k ∧ k ≤ m ∧ Hid (Mv L L1 (dn1 m k)) ∧ Hid (Nw E w wr2 g L L1)) (fun kv _ => (intOf kv).toNat)
      case atStart => exact ⟨m, L, rfl, by omega, Nat.le_refl _, dn1_zero L m, HV⟩
      case round =>
        obtain ⟨k, L1, rfl, hak, hki, HM, HW⟩ := hrel
        have hl1 := HW.out.len
        by_cases hkl : i < k
        · obtain ⟨q, rfl⟩ : ∃ q, k = q + 1 := ⟨k - 1, by omega⟩
          have hkz : (i : Int) < (q : Int) + 1 := by omega
          have hkd : (q : Int) + 1 > (i : Int) := by omega
          obtain ⟨c10, c11, c12, c13, c14, c15, c16⟩ := HW.out.nb.cells (k := q + 1) (by omega)
          obtain ⟨c20, c21, c22, c23, c24, c25, c26⟩ := HW.out.nb.cells (k := q) (by omega)
          have f1 := fun kk => HW.out.nb.free kk
          have f2 := fun kk => (HW.out.nb.set (i := q + 1) (by omega) (ix L1 q)).free kk
          obtain ⟨u, c30, c31, c32, c33, c34, c35, c36⟩ := HW.out.nb.any (i := q + 1) (j := q) (by omega) (by omega) (ix L1 q)
          have HW1 := hide' (HW.out.swapped (i := q + 1) (j := q) (by omega) (by omega))
          have HM1 := hide' (dn1_next HM.out (by omega) hki (by omega))
          rw [Nat.add_sub_cancel] at HM1
          obtain ⟨x, hx⟩ : ∃ x, eAt E (ix L1 (q + 1)) = x := ⟨_, rfl⟩
          obtain ⟨y, hy⟩ : ∃ y, eAt E (ix L1 q) = y := ⟨_, rfl⟩
          rw [hx, hy] at HW1
          rw [hx] at c10 c11 c12 c13 c14 c15 c16
          rw [hy] at c20 c21 c22 c23 c24 c25 c26 c30 c31 c32 c33 c34 c35 c36 f2
          clear hx hy
          obtain ⟨xf, xs, xo, xt, xc, xl, xd⟩ := x
          obtain ⟨yf, ys, yo, yt, yc, yl, yd⟩ := y
          simp only [set7] at c10 c11 c12 c13 c14 c15 c16 c20 c21 c22 c23 c24 c25 c26 c30 c31 c32 c33 c34 c35 c36 f2 HW1
          have p1 : (0 : Int) ≤ (q : Int) := by omega
          have p2 : (q : Int) < (L.length : Int) := by omega
          have p3 : (0 : Int) ≤ (q : Int) + 1 := by omega
          have p4 : (q : Int) + 1 < (L.length : Int) := by omega
          have rp : IntKind.i64.wrap ((q : Int) + 1) = (q : Int) + 1 := by rw [IntKind.wrap_i64]; omega
          have rq : IntKind.i64.wrap (q : Int) = (q : Int) := by rw [IntKind.wrap_i64]; omega
          have ep : ((q : Int) + 1).toNat = q + 1 := by omega
          go_wp2_with fail
          go_region_with (fail)
          all_goals
            go_wp2_with fail
            refine ⟨⟨q, _, by go_num, by omega, by omega, HM1, HW1.out.drew⟩, by simp [intOf]⟩
        · obtain rfl : k = i := by omega
          go_wp2_with fail
          (try simp only [Exit.inBlock, Exit.then]); refine bodyPost_ret (results_none rfl _ _ _) rfl ?_
          exact ⟨rfl, L1, dn1_rg HM.out HW.out.pm him hjb (by omega), by rw [← hm]; exact into_dn HO.out HS.out him hjb HI.out HJ.out HM.out, HW.out⟩
end Go.Proofs.Ytelboefeomnjaaa
