import Derived.Test.YtelboefeomnjaaaGreatZs1G
import Derived.Shelf.RegionOpenPlain
/-
  Proofs: a row that is sorted by merging in place: those that are like each other keep their order, plainly. (The verifier's own text.)
-/
namespace Go.Proofs.YtelboefeomnjaaaGreat
set_option linter.unusedVariables false
set_option linter.unusedSimpArgs false
namespace Zs

/-- of those that are like each other the lesser number stands ahead -/
def Ts (lt : Nat → Nat → Bool) (L : List Nat) : Prop := ∀ i j, i < j → j < L.length → lt (ix L i) (ix L j) = false → lt (ix L j) (ix L i) = false → ix L i < ix L j
/-- what has turned within a part, and keeps their order -/
structure Rs (lt : Nat → Nat → Bool) (L L' : List Nat) (a b : Nat) : Prop where
  rg : Rg L L' a b
  st : Ts lt L → Ts lt L'
section
variable {lt : Nat → Nat → Bool}
theorem Rs.refl (L : List Nat) (a b : Nat) : Rs lt L L a b := ⟨Rg.refl L a b, id⟩
theorem Rs.trans {L L' L'' : List Nat} {a b : Nat} (h : Rs lt L L' a b) (g : Rs lt L' L'' a b) : Rs lt L L'' a b := ⟨h.rg.trans g.rg, fun t => g.st (h.st t)⟩
theorem Rs.wide {L L' : List Nat} {a b c d : Nat} (h : Rs lt L L' a b) (hc : c ≤ a) (hd : b ≤ d) : Rs lt L L' c d := ⟨h.rg.wide hc hd, h.st⟩
theorem Ord.up (O : Ord lt) {x y z : Nat} (h : lt x y = true) (k : lt z y = false) : lt x z = true := by
  cases e : lt x z
  · have := O.tr _ _ _ k e; rw [h] at this; cases this
  · rfl
theorem Ord.down (O : Ord lt) {x y z : Nat} (h : lt x y = true) (k : lt x z = false) : lt z y = true := by
  cases e : lt z y
  · have := O.tr _ _ _ e k; rw [h] at this; cases this
  · rfl
/-- a row that turns: what goes ahead of another was less -/
theorem Ts.mv {L L' : List Nat} {f : Nat → Nat} (h : Ts lt L) (hv : Mv L L' f) (hp : L'.Perm L) (hf : ∀ k, k < L.length → f k < L.length)
    (hs : ∀ i j, i < j → j < L.length → f i < f j ∨ lt (ix L (f i)) (ix L (f j)) = true) : Ts lt L' := fun i j p1 p2 p3 p4 => by
  rw [hp.length_eq] at p2
  rw [hv i, hv j] at p3 p4 ⊢
  rcases hs i j p1 p2 with k | k
  · exact h _ _ k (hf j p2) p3 p4
  · rw [k] at p3; cases p3
theorem up1_rs (O : Ord lt) {L L' : List Nat} {a i b c : Nat} (h : Mv L L' (up1 a i)) (hp : L'.Perm L) (hi : a ≤ i) (hb : i < b) (hl : i < L.length) (h2 : So lt L (a + 1) c) (hc : i < c) (hx : i = a ∨ lt (ix L i) (ix L a) = true) : Rs lt L L' a b :=
  ⟨up1_rg h hp hi hb, fun t => t.mv h hp (fun k hk => by unfold up1; (repeat' split) <;> omega) fun p q h1 h3 => by
    by_cases e : q = i ∧ a ≤ p
    · obtain ⟨e1, e2⟩ := e
      subst e1
      right
      have f1 : up1 a q p = p + 1 := by unfold up1; rw [if_pos (by omega)]
      have f2 : up1 a q q = a := by unfold up1; rw [if_neg (by omega), if_pos rfl]
      rw [f1, f2]
      rcases hx with hx | hx
      · omega
      · exact O.down hx (h2 (p + 1) q (by omega) (by omega) hc)
    · left
      unfold up1
      (repeat' split) <;> omega⟩
theorem dn1_rs (O : Ord lt) {L L' : List Nat} {m i a b : Nat} (h : Mv L L' (dn1 m i)) (hp : L'.Perm L) (hi : a ≤ i) (hm : i ≤ m) (hb : m < b) (hl : m < L.length) (h1 : So lt L a m) (hx : i = m ∨ lt (ix L m) (ix L i) = true) : Rs lt L L' a b :=
  ⟨dn1_rg h hp hi hm hb, fun t => t.mv h hp (fun k hk => by unfold dn1; (repeat' split) <;> omega) fun p q h2 h3 => by
    by_cases e : p = i ∧ q ≤ m
    · obtain ⟨e1, e2⟩ := e
      subst e1
      right
      have f1 : dn1 m p p = m := by unfold dn1; rw [if_neg (by omega), if_pos rfl]
      have f2 : dn1 m p q = q - 1 := by unfold dn1; rw [if_pos (by omega)]
      rw [f1, f2]
      rcases hx with hx | hx
      · omega
      · exact O.up hx (h1 p (q - 1) hi (by omega) (by omega))
    · left
      unfold dn1
      (repeat' split) <;> omega⟩
/-- two parts change places: the one that goes ahead is less -/
theorem rt_rs {L L' : List Nat} {a m b : Nat} (h : Mv L L' (rt a m b)) (hp : L'.Perm L) (ha : a ≤ m) (hb : m ≤ b) (hl : b ≤ L.length) (hx : ∀ i j, m ≤ i → i < b → a ≤ j → j < m → lt (ix L i) (ix L j) = true) : Rs lt L L' a b :=
  ⟨Mv.rg h hp ha hb, fun t => t.mv h hp (fun k hk => by unfold rt; (repeat' split) <;> omega) fun p q h2 h3 => by
    by_cases e : (a ≤ p ∧ p < a + (b - m)) ∧ a + (b - m) ≤ q ∧ q < b
    · obtain ⟨⟨e1, e2⟩, e3, e4⟩ := e
      right
      have f1 : rt a m b p = p + (m - a) := by unfold rt; rw [if_neg (by omega), if_pos (by omega)]
      have f2 : rt a m b q = q - (b - m) := by unfold rt; rw [if_neg (by omega), if_neg (by omega), if_pos (by omega)]
      rw [f1, f2]
      exact hx _ _ (by omega) (by omega) (by omega) (by omega)
    · left
      unfold rt
      (repeat' split) <;> omega⟩
/-- where the search has ended: those that go ahead are less -/
theorem Fd.less (O : Ord lt) {L : List Nat} {a m b mid s e lo hi : Nat} (hm : a < m) (hb : m < b) (hmid : mid = (a + b) / 2) (he : e = mid + m - s)
    (hlo : lo = if mid < m then mid + m - b else a) (hhi : hi = if mid < m then mid else m)
    (h1 : So lt L a m) (h2 : So lt L m b) (F : Fd lt L lo hi (mid + m - 1) s) : ∀ i j, m ≤ i → i < e → s ≤ j → j < m → lt (ix L i) (ix L j) = true := fun i j p1 p2 p3 p4 => by
  obtain ⟨f1, f2, f3, f4⟩ := F
  have hs : a ≤ s ∧ s ≤ m ∧ s ≤ mid := by
    by_cases e : mid < m
    · rw [if_pos e] at hlo hhi; omega
    · rw [if_neg e] at hlo hhi; omega
  have hE : m ≤ e ∧ e ≤ b ∧ mid ≤ e := by
    by_cases e : mid < m
    · rw [if_pos e] at hlo hhi; omega
    · rw [if_neg e] at hlo hhi; omega
  have hk : lt (ix L (e - 1)) (ix L s) = true := by
    rcases f4 with f4 | f4
    · exfalso
      by_cases e : mid < m
      · rw [if_pos e] at hhi; omega
      · rw [if_neg e] at hhi; omega
    · rw [show mid + m - 1 - s = e - 1 by omega] at f4; exact f4
  exact O.down (O.up hk (h1 s j (by omega) p3 p4)) (h2 i (e - 1) p1 (by omega) (by omega))
end
end Zs
end Go.Proofs.YtelboefeomnjaaaGreat

/-
  Proofs: a part of a row of entries, sorted by putting in. (The verifier's own text.)
-/
namespace Go.Proofs.YtelboefeomnjaaaGreat
set_option linter.unusedVariables false
set_option linter.unusedSimpArgs false
open Go.RowKit Go.Shelf Go.Proofs.YtelboefeomnjaaaGreat.Nm Go.Proofs.YtelboefeomnjaaaGreat.Zs

/-- what the function that compares does, while a row is sorted -/
def Cm (E : List Et) (w : World) (g n : Nat) (lt : Nat → Nat → Bool) : Prop :=
  ∀ (x y : Nat) (W : World), x < n → y < n → w.grownBy W (some g) → Calls Tryz.prog 21 #[etV (eAt E x), etV (eAt E y)] W fun r w' => (∃ c : Int, r = .returned (.int .i64 c) ∧ decide (c < 0) = lt x y) ∧ Below W.heap.size W w'
theorem Cm.grown {E : List Et} {w w1 : World} {g n : Nat} {lt : Nat → Nat → Bool} (h : Cm E w g n lt) (hg : w.grownBy w1 (some g)) : Cm E w1 g n lt := fun x y W hx hy hW => h x y W hx hy (grown_trans hg hW)
/-- the function itself -/
abbrev cmf : Value := .func (Fn.func 21) #[] #[]

set_option maxRecDepth 100000 in
set_option maxHeartbeats 20000000 in
/-- slices.insertionSortCmpFunc -/
theorem insertion_any (E : List Et) (lt : Nat → Nat → Bool) (O : Ord lt) (g cap n : Nat) (L : List Nat) (a b : Nat) (w : World) (h : Nb E w g L) (hC : Cm E w g n lt) (hn : ∀ x ∈ L, x < n) (ha : a ≤ b) (hb : b ≤ L.length) (hL : L.length ≤ 1048576) :
    Calls Tryz.prog 54 #[.slice (some ⟨g, 0, none⟩) L.length cap, .int .i64 (a : Int), .int .i64 (b : Int), cmf] w fun r w' => r = .returned (.tuple #[]) ∧ ∃ L', Rs lt L L' a b ∧ So lt L' a b ∧ Nw E w w' g L L' := by
  have H0 : Hid (Nw E w w g L L) := ⟨h, .refl _, grown_refl _ _⟩
  have HC := hide' hC
  have HN := hide' hn
  have HO := hide' O
  clear h hC hn O
  go_enter Tryz.func54, Tryz.ntmps54
  go_wp2_with fail
  go_loopw [8] (fun iv wr => ∃ (i : Nat) (L1 : List Nat), iv = .int .i64 (i : Int) ∧ a < i ∧ i ≤ b + 1 ∧ Hid (Rs lt L L1 a b) ∧ Hid (So lt L1 a i) ∧ Hid (Nw E w wr g L L1)) (fun iv _ => b + 1 - (intOf iv).toNat)
  case atStart => exact ⟨a + 1, L, by go_num, by omega, by omega, Rs.refl L a b, So.one HO.out L (Nat.le_refl _), H0⟩
  case round =>
    obtain ⟨i, L1, rfl, hai, hib, HR, HS, HW⟩ := hrel
    by_cases hlt : i < b
    · go_wp2_with fail
      go_loopw [9] (fun jv wr2 => ∃ (j : Nat) (L2 : List Nat), jv = .int .i64 (j : Int) ∧ a ≤ j ∧ j ≤ i ∧ Hid (Mv L1 L2 (dn1 i j)) ∧ Hid (j = i ∨ lt (ix L1 i) (ix L1 j) = true) ∧ Hid (Nw E w wr2 g L L2)) (fun jv _ => (intOf jv).toNat)
      case atStart => exact ⟨i, L1, rfl, by omega, Nat.le_refl _, dn1_zero L1 i, Or.inl rfl, HW⟩
      case round =>
        obtain ⟨j, L2, rfl, haj, hji, HM, HX, HV⟩ := hrel
        have hl1 := HW.out.len
        have hl2 := HV.out.len
        have HE : Hid ((j = a ∨ lt (ix L1 i) (ix L1 (j - 1)) = false) → Rs lt L L2 a b ∧ So lt L2 a (i + 1)) := fun hs =>
          ⟨HR.out.trans (dn1_rs HO.out HM.out (HV.out.pm.trans HW.out.pm.symm) haj hji (by omega) (by omega) HS.out HX.out), into_dn HO.out HS.out haj hji hs HX.out HM.out⟩
        by_cases hja : a < j
        · obtain ⟨q, rfl⟩ : ∃ q, j = q + 1 := ⟨j - 1, by omega⟩
          have m1 : ix L2 (q + 1) = ix L1 i := by rw [HM.out (q + 1)]; unfold dn1; rw [if_neg (by omega), if_pos rfl]
          have m2 : ix L2 q = ix L1 q := by rw [HM.out q]; unfold dn1; rw [if_neg (by omega), if_neg (by omega)]
          have xn : ix L1 i < n := HN.out _ (HW.out.pm.mem_iff.1 (ix_mem (by omega)))
          have yn : ix L1 q < n := HN.out _ (HW.out.pm.mem_iff.1 (ix_mem (by omega)))
          have HK : Hid (∀ W, wr.grownBy W (some g) → Calls Tryz.prog 21 #[etV (eAt E (ix L1 i)), etV (eAt E (ix L1 q))] W fun r w' => (∃ c : Int, r = .returned (.int .i64 c) ∧ decide (c < 0) = lt (ix L1 i) (ix L1 q)) ∧ Below W.heap.size W w') :=
            fun W hW => HC.out _ _ W xn yn (grown_trans HV.out.gr hW)
          have HMN := hide' (dn1_next HM.out (by omega) hji (by omega))
          have HVN : Hid (∀ W, Nw E w W g L L2 → Nw E w (set7 (set7 W g ((q + 1) * 7) (eAt E (ix L1 q))) g (q * 7) (eAt E (ix L1 i))) g L (sw L2 (q + 1) q)) := fun W hW => by
            have := hW.swapped (i := q + 1) (j := q) (by omega) (by omega)
            rw [m1, m2] at this
            exact this
          have HCU : Hid (∀ W, Nw E w W g L L2 → ∃ e : Et, C7 (set7 W g ((q + 1) * 7) (eAt E (ix L1 q))) g (q * 7) e) := fun W hW => hW.nb.any (i := q + 1) (j := q) (by rw [hW.len]; omega) (by rw [hW.len]; omega) (ix L1 q)
          have HFU : Hid (∀ W, Nw E w W g L L2 → ∀ k, (set7 W g ((q + 1) * 7) (eAt E (ix L1 q))).frozen? ⟨g, k, none⟩ = false) := fun W hW k => (hW.nb.set (i := q + 1) (by rw [hW.len]; omega) (ix L1 q)).free k
          have HCA : Hid (∀ W, Nw E w W g L L2 → C7 W g ((q + 1) * 7) (eAt E (ix L1 i)) ∧ C7 W g (q * 7) (eAt E (ix L1 q))) := fun W hW => by
            have ca := hW.nb.cells (k := q + 1) (by rw [hW.len]; omega)
            have cb := hW.nb.cells (k := q) (by rw [hW.len]; omega)
            rw [m1] at ca
            rw [m2] at cb
            exact ⟨ca, cb⟩
          rw [Nat.add_sub_cancel] at HMN HE
          obtain ⟨x, hx⟩ : ∃ x, ix L1 i = x := ⟨_, rfl⟩
          obtain ⟨y, hy⟩ : ∃ y, ix L1 q = y := ⟨_, rfl⟩
          have HX1 : Hid (lt x y = true → (q = i ∨ lt (ix L1 i) (ix L1 q) = true)) := fun h => Or.inr (by rw [hx, hy]; exact h)
          rw [hx, hy] at HK HVN HCA HE
          rw [hy] at HCU HFU
          clear m1 m2 xn yn hx hy
          obtain ⟨ex, hex⟩ : ∃ e, eAt E x = e := ⟨_, rfl⟩
          obtain ⟨ey, hey⟩ : ∃ e, eAt E y = e := ⟨_, rfl⟩
          rw [hex, hey] at HK HVN HCA
          rw [hey] at HCU HFU
          clear hex hey
          obtain ⟨xf, xs, xo, xt, xc, xl, xd⟩ := ex
          obtain ⟨yf, ys, yo, yt, yc, yl, yd⟩ := ey
          unfold etV at HK
          unfold C7 at HCA HCU
          simp only [set7] at HK HVN HCA HCU HFU
          have hgt : (q : Int) + 1 > (a : Int) := by omega
          have hgd : decide ((q : Int) + 1 > (a : Int)) = true := decide_eq_true hgt
          have pa : (0 : Int) ≤ (q : Int) + 1 := by omega
          have ra : IntKind.i64.wrap ((q : Int) + 1) = (q : Int) + 1 := by rw [IntKind.wrap_i64]; omega
          have ea : ((q : Int) + 1).toNat = q + 1 := by omega
          have ba : (q : Int) + 1 < (L.length : Int) := by omega
          have bb : (q : Int) < (L.length : Int) := by omega
          have pb : (0 : Int) ≤ (q : Int) := by omega
          have rb : IntKind.i64.wrap (q : Int) = (q : Int) := by rw [IntKind.wrap_i64]; omega
          obtain ⟨⟨ca0, ca1, ca2, ca3, ca4, ca5, ca6⟩, cb0, cb1, cb2, cb3, cb4, cb5, cb6⟩ := HCA.out _ HV.out
          cases hlv : lt x y with
          | true =>
            rw [hlv] at HK HE
            have HLV := hide' hlv
            clear hlv
            go_wp2_with fail
            go_region_held3 (fun V => (V.cell? ⟨g, (q + 1) * 7, none⟩ = some (.int .i64 xf) ∧ V.cell? ⟨g, (q + 1) * 7 + 1, none⟩ = some (.int .i64 xs) ∧ V.cell? ⟨g, (q + 1) * 7 + 2, none⟩ = some (.string xo) ∧ V.cell? ⟨g, (q + 1) * 7 + 3, none⟩ = some (.int .i64 xt) ∧ V.cell? ⟨g, (q + 1) * 7 + 4, none⟩ = some (.int .i64 xc) ∧ V.cell? ⟨g, (q + 1) * 7 + 5, none⟩ = some (.int .i64 xl) ∧ V.cell? ⟨g, (q + 1) * 7 + 6, none⟩ = some (.string xd)) ∧ V.cell? ⟨g, q * 7, none⟩ = some (.int .i64 yf) ∧ V.cell? ⟨g, q * 7 + 1, none⟩ = some (.int .i64 ys) ∧ V.cell? ⟨g, q * 7 + 2, none⟩ = some (.string yo) ∧ V.cell? ⟨g, q * 7 + 3, none⟩ = some (.int .i64 yt) ∧ V.cell? ⟨g, q * 7 + 4, none⟩ = some (.int .i64 yc) ∧ V.cell? ⟨g, q * 7 + 5, none⟩ = some (.int .i64 yl) ∧ V.cell? ⟨g, q * 7 + 6, none⟩ = some (.string yd)) (first | go_keep | (with_reducible exact HCA.out _ HV2.out) | (obtain ⟨⟨h0, h1, h2, h3, h4, h5, h6⟩, k0, k1, k2, k3, k4, k5, k6⟩ := HCA.out _ HV2.out; first | exact ⟨⟨h0, h1, h2, h3, h4, h5, h6⟩, k0, k1, k2, k3, k4, k5, k6⟩ | assumption)) ((go_at_call 21; refine (HK.out _ (grown_drewN _ 1 _)).mono ?_; rintro r w2 ⟨⟨c, rfl, hc⟩, hB2⟩; have hcn : c < 0 := of_decide_eq_true hc; have HV2 := hide' (HV.out.drew.below hB2); clear hB2))
            go_wp2_with fail
            clear ca0 ca1 ca2 ca3 ca4 ca5 ca6 cb0 cb1 cb2 cb3 cb4 cb5 cb6
            obtain ⟨⟨ca0, ca1, ca2, ca3, ca4, ca5, ca6⟩, cb0, cb1, cb2, cb3, cb4, cb5, cb6⟩ := HCA.out _ HV2.out
            obtain ⟨u, c30, c31, c32, c33, c34, c35, c36⟩ := HCU.out _ HV2.out
            have f1 := fun k => HV2.out.nb.free k
            have f2 := HFU.out _ HV2.out
            have HV3 := hide' (HVN.out _ HV2.out)
            go_region_with (fail)
            all_goals
              go_wp2_with fail
              refine ⟨⟨q, _, by go_num, by omega, by omega, HMN, HX1.out HLV.out, HV3.out.drew⟩, by simp [intOf]⟩
          | false =>
            rw [hlv] at HK HE
            have HLV := hide' hlv
            clear hlv
            go_wp2_with fail
            go_region_held3 (fun V => (V.cell? ⟨g, (q + 1) * 7, none⟩ = some (.int .i64 xf) ∧ V.cell? ⟨g, (q + 1) * 7 + 1, none⟩ = some (.int .i64 xs) ∧ V.cell? ⟨g, (q + 1) * 7 + 2, none⟩ = some (.string xo) ∧ V.cell? ⟨g, (q + 1) * 7 + 3, none⟩ = some (.int .i64 xt) ∧ V.cell? ⟨g, (q + 1) * 7 + 4, none⟩ = some (.int .i64 xc) ∧ V.cell? ⟨g, (q + 1) * 7 + 5, none⟩ = some (.int .i64 xl) ∧ V.cell? ⟨g, (q + 1) * 7 + 6, none⟩ = some (.string xd)) ∧ V.cell? ⟨g, q * 7, none⟩ = some (.int .i64 yf) ∧ V.cell? ⟨g, q * 7 + 1, none⟩ = some (.int .i64 ys) ∧ V.cell? ⟨g, q * 7 + 2, none⟩ = some (.string yo) ∧ V.cell? ⟨g, q * 7 + 3, none⟩ = some (.int .i64 yt) ∧ V.cell? ⟨g, q * 7 + 4, none⟩ = some (.int .i64 yc) ∧ V.cell? ⟨g, q * 7 + 5, none⟩ = some (.int .i64 yl) ∧ V.cell? ⟨g, q * 7 + 6, none⟩ = some (.string yd)) (first | go_keep | (with_reducible exact HCA.out _ HV2.out) | (obtain ⟨⟨h0, h1, h2, h3, h4, h5, h6⟩, k0, k1, k2, k3, k4, k5, k6⟩ := HCA.out _ HV2.out; first | exact ⟨⟨h0, h1, h2, h3, h4, h5, h6⟩, k0, k1, k2, k3, k4, k5, k6⟩ | assumption)) ((go_at_call 21; refine (HK.out _ (grown_drewN _ 1 _)).mono ?_; rintro r w2 ⟨⟨c, rfl, hc⟩, hB2⟩; have hcn : ¬ c < 0 := of_decide_eq_false hc; have HV2 := hide' (HV.out.drew.below hB2); clear hB2))
            go_wp2_with fail
            obtain ⟨q1, q2⟩ := HE.out (by simp)
            refine ⟨⟨i + 1, L2, by go_num, by omega, by omega, q1, q2, HV2⟩, by simp [intOf]; omega⟩
        · have hjj : j = a := by omega
          subst hjj
          have hng : ¬ (j : Int) > (j : Int) := by omega
          have hngd : decide ((j : Int) > (j : Int)) = false := decide_eq_false hng
          obtain ⟨q1, q2⟩ := HE.out (Or.inl rfl)
          have Q1 := hide' q1
          have Q2 := hide' q2
          clear q1 q2
          go_wp2_with fail
          go_region
          go_wp2_with fail
          refine ⟨⟨i + 1, L2, by go_num, by omega, by omega, Q1, Q2, HV.out.drew⟩, by simp [intOf]; omega⟩
    · go_wp2_with fail
      go_end0
      exact ⟨rfl, L1, HR.out, HS.out.sub (Nat.le_refl _) (by omega), HW.out⟩
end Go.Proofs.YtelboefeomnjaaaGreat

/-
  Proofs: two parts of a row of entries that are in order, merged in place: one of them has one entry alone. (The verifier's own text.)
-/
namespace Go.Proofs.YtelboefeomnjaaaGreat
set_option linter.unusedVariables false
set_option linter.unusedSimpArgs false
open Go.RowKit Go.Shelf Go.Proofs.YtelboefeomnjaaaGreat.Nm Go.Proofs.YtelboefeomnjaaaGreat.Zs

set_option maxRecDepth 100000 in
set_option maxHeartbeats 20000000 in
/-- slices.symMergeCmpFunc: the first part is one number -/
theorem symA_any (E : List Et) (lt : Nat → Nat → Bool) (O : Ord lt) (g cap n : Nat) (L : List Nat) (a b : Nat) (w : World) (h : Nb E w g L) (hC : Cm E w g n lt) (hn : ∀ x ∈ L, x < n) (ha : a + 1 < b) (hb : b ≤ L.length) (hL : L.length ≤ 1048576) (h2 : So lt L (a + 1) b) :
    Calls Tryz.prog 55 #[.slice (some ⟨g, 0, none⟩) L.length cap, .int .i64 (a : Int), .int .i64 ((a + 1 : Nat) : Int), .int .i64 (b : Int), cmf] w fun r w' => r = .returned (.tuple #[]) ∧ ∃ L', Rs lt L L' a b ∧ So lt L' a b ∧ Nw E w w' g L L' := by
  have H0 : Hid (Nw E w w g L L) := ⟨h, .refl _, grown_refl _ _⟩
  have HC := hide' hC
  have HN := hide' hn
  have HO := hide' O
  have HS := hide' h2
  clear h hC hn O h2
  obtain ⟨m, hm⟩ : ∃ m, a + 1 = m := ⟨_, rfl⟩
  have hma : (m : Int) - (a : Int) = 1 := by omega
  rw [hm]
  go_enter Tryz.func55, Tryz.ntmps55
  go_wp2_with fail
  go_loopw [10, 11] (fun iv jv wr => ∃ (i j : Nat), iv = .int .i64 (i : Int) ∧ jv = .int .i64 (j : Int) ∧ m ≤ i ∧ i ≤ j ∧ j ≤ b ∧ Hid (i = m ∨ lt (ix L (i - 1)) (ix L a) = true) ∧ Hid (j = b ∨ lt (ix L j) (ix L a) = false) ∧ Hid (Nw E w wr g L L)) (fun iv jv _ => (intOf jv).toNat - (intOf iv).toNat)
  case atStart => exact ⟨m, b, rfl, rfl, Nat.le_refl _, by omega, Nat.le_refl _, Or.inl rfl, Or.inl rfl, H0⟩
  case round =>
    obtain ⟨i, j, rfl, rfl, him, hij, hjb, HI, HJ, HV⟩ := hrel
    by_cases hlt : i < j
    · obtain ⟨q, hq⟩ : ∃ q, (i + j) / 2 = q := ⟨_, rfl⟩
      have hqz : ((i : Int) + (j : Int)) / 2 = (q : Int) := by omega
      have hqi : i ≤ q ∧ q < j := by omega
      have HK : Hid (∀ W, wr.grownBy W (some g) → Calls Tryz.prog 21 #[etV (eAt E (ix L q)), etV (eAt E (ix L a))] W fun r w' => (∃ c : Int, r = .returned (.int .i64 c) ∧ decide (c < 0) = lt (ix L q) (ix L a)) ∧ Below W.heap.size W w') :=
        fun W hW => HC.out _ _ W (HN.out _ (ix_mem (by omega))) (HN.out _ (ix_mem (by omega))) (grown_trans HV.out.gr hW)
      have HCA : Hid (∀ W, Nw E w W g L L → C7 W g (q * 7) (eAt E (ix L q)) ∧ C7 W g (a * 7) (eAt E (ix L a))) := fun W hW =>
        ⟨hW.nb.cells (k := q) (by omega), hW.nb.cells (k := a) (by omega)⟩
      have HT : Hid (lt (ix L q) (ix L a) = true → (q + 1 = m ∨ lt (ix L (q + 1 - 1)) (ix L a) = true)) := fun h => Or.inr h
      have HF : Hid (lt (ix L q) (ix L a) = false → (q = b ∨ lt (ix L q) (ix L a) = false)) := fun h => Or.inr h
      obtain ⟨x, hx⟩ : ∃ x, ix L q = x := ⟨_, rfl⟩
      obtain ⟨y, hy⟩ : ∃ y, ix L a = y := ⟨_, rfl⟩
      have HTx : Hid (lt x y = true → (q + 1 = m ∨ lt (ix L (q + 1 - 1)) (ix L a) = true)) := fun h => HT.out (by rw [hx, hy]; exact h)
      have HFx : Hid (lt x y = false → (q = b ∨ lt (ix L q) (ix L a) = false)) := fun h => HF.out (by rw [hx, hy]; exact h)
      rw [hx, hy] at HK HCA
      clear hx hy hq HT HF
      obtain ⟨ex, hex⟩ : ∃ e, eAt E x = e := ⟨_, rfl⟩
      obtain ⟨ey, hey⟩ : ∃ e, eAt E y = e := ⟨_, rfl⟩
      rw [hex, hey] at HK HCA
      clear hex hey
      obtain ⟨xf, xs, xo, xt, xc, xl, xd⟩ := ex
      obtain ⟨yf, ys, yo, yt, yc, yl, yd⟩ := ey
      unfold etV at HK
      unfold C7 at HCA
      simp only at HK HCA
      have p1 : (0 : Int) ≤ (q : Int) := by omega
      have p2 : (q : Int) < (L.length : Int) := by omega
      have p3 : (0 : Int) ≤ (a : Int) := by omega
      have p4 : (a : Int) < (L.length : Int) := by omega
      obtain ⟨⟨ca0, ca1, ca2, ca3, ca4, ca5, ca6⟩, cb0, cb1, cb2, cb3, cb4, cb5, cb6⟩ := HCA.out _ HV.out
      cases hlv : lt x y with
      | true =>
        rw [hlv] at HK
        have HLV := hide' hlv
        clear hlv
        go_wp2_with fail
        go_region_held3 (fun V => (V.cell? ⟨g, q * 7, none⟩ = some (.int .i64 xf) ∧ V.cell? ⟨g, q * 7 + 1, none⟩ = some (.int .i64 xs) ∧ V.cell? ⟨g, q * 7 + 2, none⟩ = some (.string xo) ∧ V.cell? ⟨g, q * 7 + 3, none⟩ = some (.int .i64 xt) ∧ V.cell? ⟨g, q * 7 + 4, none⟩ = some (.int .i64 xc) ∧ V.cell? ⟨g, q * 7 + 5, none⟩ = some (.int .i64 xl) ∧ V.cell? ⟨g, q * 7 + 6, none⟩ = some (.string xd)) ∧ V.cell? ⟨g, a * 7, none⟩ = some (.int .i64 yf) ∧ V.cell? ⟨g, a * 7 + 1, none⟩ = some (.int .i64 ys) ∧ V.cell? ⟨g, a * 7 + 2, none⟩ = some (.string yo) ∧ V.cell? ⟨g, a * 7 + 3, none⟩ = some (.int .i64 yt) ∧ V.cell? ⟨g, a * 7 + 4, none⟩ = some (.int .i64 yc) ∧ V.cell? ⟨g, a * 7 + 5, none⟩ = some (.int .i64 yl) ∧ V.cell? ⟨g, a * 7 + 6, none⟩ = some (.string yd)) (first | go_keep | (with_reducible exact HCA.out _ HV2.out) | (obtain ⟨⟨h0, h1, h2, h3, h4, h5, h6⟩, k0, k1, k2, k3, k4, k5, k6⟩ := HCA.out _ HV2.out; first | exact ⟨⟨h0, h1, h2, h3, h4, h5, h6⟩, k0, k1, k2, k3, k4, k5, k6⟩ | assumption)) ((go_at_call 21; refine (HK.out _ (grown_drewN _ 1 _)).mono ?_; rintro r w2 ⟨⟨c, rfl, hc⟩, hB2⟩; have hcn : c < 0 := of_decide_eq_true hc; have HV2 := hide' (HV.out.drew.below hB2); clear hB2))
        go_wp2_with fail
        refine ⟨⟨q + 1, j, by go_num, rfl, by omega, by omega, by omega, HTx.out HLV.out, HJ, HV2⟩, by simp [intOf]; omega⟩
      | false =>
        rw [hlv] at HK
        have HLV := hide' hlv
        clear hlv
        go_wp2_with fail
        go_region_held3 (fun V => (V.cell? ⟨g, q * 7, none⟩ = some (.int .i64 xf) ∧ V.cell? ⟨g, q * 7 + 1, none⟩ = some (.int .i64 xs) ∧ V.cell? ⟨g, q * 7 + 2, none⟩ = some (.string xo) ∧ V.cell? ⟨g, q * 7 + 3, none⟩ = some (.int .i64 xt) ∧ V.cell? ⟨g, q * 7 + 4, none⟩ = some (.int .i64 xc) ∧ V.cell? ⟨g, q * 7 + 5, none⟩ = some (.int .i64 xl) ∧ V.cell? ⟨g, q * 7 + 6, none⟩ = some (.string xd)) ∧ V.cell? ⟨g, a * 7, none⟩ = some (.int .i64 yf) ∧ V.cell? ⟨g, a * 7 + 1, none⟩ = some (.int .i64 ys) ∧ V.cell? ⟨g, a * 7 + 2, none⟩ = some (.string yo) ∧ V.cell? ⟨g, a * 7 + 3, none⟩ = some (.int .i64 yt) ∧ V.cell? ⟨g, a * 7 + 4, none⟩ = some (.int .i64 yc) ∧ V.cell? ⟨g, a * 7 + 5, none⟩ = some (.int .i64 yl) ∧ V.cell? ⟨g, a * 7 + 6, none⟩ = some (.string yd)) (first | go_keep | (with_reducible exact HCA.out _ HV2.out) | (obtain ⟨⟨h0, h1, h2, h3, h4, h5, h6⟩, k0, k1, k2, k3, k4, k5, k6⟩ := HCA.out _ HV2.out; first | exact ⟨⟨h0, h1, h2, h3, h4, h5, h6⟩, k0, k1, k2, k3, k4, k5, k6⟩ | assumption)) ((go_at_call 21; refine (HK.out _ (grown_drewN _ 1 _)).mono ?_; rintro r w2 ⟨⟨c, rfl, hc⟩, hB2⟩; have hcn : ¬ c < 0 := of_decide_eq_false hc; have HV2 := hide' (HV.out.drew.below hB2); clear hB2))
        go_wp2_with fail
        refine ⟨⟨i, q, rfl, rfl, by omega, by omega, by omega, HI, HFx.out HLV.out, HV2⟩, by simp [intOf]; omega⟩
    · obtain rfl : i = j := by omega
      go_wp2_with fail
      go_loopw [13] (fun kv wr2 => ∃ (k : Nat) (L1 : List Nat), kv = .int .i64 (k : Int) ∧ a ≤ k ∧ k + 1 ≤ i ∧ Hid (Mv L L1 (up1 a k)) ∧ Hid (Nw E w wr2 g L L1)) (fun kv _ => i - (intOf kv).toNat)
      case atStart => exact ⟨a, L, rfl, Nat.le_refl _, by omega, up1_zero L a, HV⟩
      case round =>
        obtain ⟨k, L1, rfl, hak, hki, HM, HW⟩ := hrel
        have hl1 := HW.out.len
        by_cases hkl : k + 1 < i
        · have hkz : (k : Int) < (i : Int) - 1 := by omega
          obtain ⟨c10, c11, c12, c13, c14, c15, c16⟩ := HW.out.nb.cells (k := k) (by omega)
          obtain ⟨c20, c21, c22, c23, c24, c25, c26⟩ := HW.out.nb.cells (k := k + 1) (by omega)
          have f1 := fun kk => HW.out.nb.free kk
          have f2 := fun kk => (HW.out.nb.set (i := k) (by omega) (ix L1 (k + 1))).free kk
          obtain ⟨u, c30, c31, c32, c33, c34, c35, c36⟩ := HW.out.nb.any (i := k) (j := k + 1) (by omega) (by omega) (ix L1 (k + 1))
          have HW1 := hide' (HW.out.swapped (i := k) (j := k + 1) (by omega) (by omega))
          have HM1 := hide' (up1_next HM.out hak (by omega))
          obtain ⟨x, hx⟩ : ∃ x, eAt E (ix L1 k) = x := ⟨_, rfl⟩
          obtain ⟨y, hy⟩ : ∃ y, eAt E (ix L1 (k + 1)) = y := ⟨_, rfl⟩
          rw [hx, hy] at HW1
          rw [hx] at c10 c11 c12 c13 c14 c15 c16
          rw [hy] at c20 c21 c22 c23 c24 c25 c26 c30 c31 c32 c33 c34 c35 c36 f2
          clear hx hy
          obtain ⟨xf, xs, xo, xt, xc, xl, xd⟩ := x
          obtain ⟨yf, ys, yo, yt, yc, yl, yd⟩ := y
          simp only [set7] at c10 c11 c12 c13 c14 c15 c16 c20 c21 c22 c23 c24 c25 c26 c30 c31 c32 c33 c34 c35 c36 f2 HW1
          have p1 : (0 : Int) ≤ (k : Int) := by omega
          have p2 : (k : Int) < (L.length : Int) := by omega
          have p3 : (0 : Int) ≤ (k : Int) + 1 := by omega
          have p4 : (k : Int) + 1 < (L.length : Int) := by omega
          have rp : IntKind.i64.wrap ((k : Int) + 1) = (k : Int) + 1 := by rw [IntKind.wrap_i64]; omega
          have ep : ((k : Int) + 1).toNat = k + 1 := by omega
          go_wp2_with fail
          go_region_with (fail)
          all_goals
            go_wp2_with fail
            refine ⟨⟨k + 1, _, by go_num, by omega, by omega, HM1, HW1.out.drew⟩, by simp [intOf]; omega⟩
        · have hkz : ¬ (k : Int) < (i : Int) - 1 := by omega
          obtain rfl : k = i - 1 := by omega
          go_wp2_with fail
          (try simp only [Exit.inBlock, Exit.then]); refine bodyPost_ret (results_none rfl _ _ _) rfl ?_
          refine ⟨rfl, L1, up1_rs HO.out HM.out HW.out.pm hak (by omega) (by omega) HS.out (by omega) (HI.out.imp (fun h => by omega) (fun h => h)), into_up HO.out HS.out (by omega) hjb (by rw [hm]; exact HI.out) HJ.out HM.out, HW.out⟩
end Go.Proofs.YtelboefeomnjaaaGreat

/-
  Proofs: two parts of a row of entries that are in order, merged in place: the second has one entry alone. (The verifier's own text.)
-/
namespace Go.Proofs.YtelboefeomnjaaaGreat
set_option linter.unusedVariables false
set_option linter.unusedSimpArgs false
open Go.RowKit Go.Shelf Go.Proofs.YtelboefeomnjaaaGreat.Nm Go.Proofs.YtelboefeomnjaaaGreat.Zs

set_option maxRecDepth 100000 in
set_option maxHeartbeats 20000000 in
/-- slices.symMergeCmpFunc: the second part is one number -/
theorem symB_any (E : List Et) (lt : Nat → Nat → Bool) (O : Ord lt) (g cap n : Nat) (L : List Nat) (a m : Nat) (w : World) (h : Nb E w g L) (hC : Cm E w g n lt) (hn : ∀ x ∈ L, x < n) (ha : a + 1 < m) (hb : m + 1 ≤ L.length) (hL : L.length ≤ 1048576) (h1 : So lt L a m) :
    Calls Tryz.prog 55 #[.slice (some ⟨g, 0, none⟩) L.length cap, .int .i64 (a : Int), .int .i64 (m : Int), .int .i64 ((m + 1 : Nat) : Int), cmf] w fun r w' => r = .returned (.tuple #[]) ∧ ∃ L', Rs lt L L' a (m + 1) ∧ So lt L' a (m + 1) ∧ Nw E w w' g L L' := by
  have H0 : Hid (Nw E w w g L L) := ⟨h, .refl _, grown_refl _ _⟩
  have HC := hide' hC
  have HN := hide' hn
  have HO := hide' O
  have HS := hide' h1
  clear h hC hn O h1
  obtain ⟨b, hm⟩ : ∃ b, m + 1 = b := ⟨_, rfl⟩
  have hma : ¬ (m : Int) - (a : Int) = 1 := by omega
  have hmd : ((m : Int) - (a : Int) == 1) = false := by simp; omega
  have hbm : (b : Int) - (m : Int) = 1 := by omega
  rw [hm]
  go_enter Tryz.func55, Tryz.ntmps55
  go_wp2_with fail
  go_loopw [14, 15] (fun iv jv wr => ∃ (i j : Nat), iv = .int .i64 (i : Int) ∧ jv = .int .i64 (j : Int) ∧ a ≤ i ∧ i ≤ j ∧ j ≤ m ∧ Hid (i = a ∨ lt (ix L m) (ix L (i - 1)) = false) ∧ Hid (j = m ∨ lt (ix L m) (ix L j) = true) ∧ Hid (Nw E w wr g L L)) (fun iv jv _ => (intOf jv).toNat - (intOf iv).toNat)
  case atStart => exact ⟨a, m, rfl, rfl, Nat.le_refl _, by omega, Nat.le_refl _, Or.inl rfl, Or.inl rfl, H0⟩
  case round =>
    obtain ⟨i, j, rfl, rfl, him, hij, hjb, HI, HJ, HV⟩ := hrel
    by_cases hlt : i < j
    · obtain ⟨q, hq⟩ : ∃ q, (i + j) / 2 = q := ⟨_, rfl⟩
      have hqz : ((i : Int) + (j : Int)) / 2 = (q : Int) := by omega
      have hqi : i ≤ q ∧ q < j := by omega
      have HK : Hid (∀ W, wr.grownBy W (some g) → Calls Tryz.prog 21 #[etV (eAt E (ix L m)), etV (eAt E (ix L q))] W fun r w' => (∃ c : Int, r = .returned (.int .i64 c) ∧ decide (c < 0) = lt (ix L m) (ix L q)) ∧ Below W.heap.size W w') :=
        fun W hW => HC.out _ _ W (HN.out _ (ix_mem (by omega))) (HN.out _ (ix_mem (by omega))) (grown_trans HV.out.gr hW)
      have HCA : Hid (∀ W, Nw E w W g L L → C7 W g (m * 7) (eAt E (ix L m)) ∧ C7 W g (q * 7) (eAt E (ix L q))) := fun W hW =>
        ⟨hW.nb.cells (k := m) (by omega), hW.nb.cells (k := q) (by omega)⟩
      have HF : Hid (lt (ix L m) (ix L q) = false → (q + 1 = a ∨ lt (ix L m) (ix L (q + 1 - 1)) = false)) := fun h => Or.inr h
      have HT : Hid (lt (ix L m) (ix L q) = true → (q = m ∨ lt (ix L m) (ix L q) = true)) := fun h => Or.inr h
      obtain ⟨x, hx⟩ : ∃ x, ix L m = x := ⟨_, rfl⟩
      obtain ⟨y, hy⟩ : ∃ y, ix L q = y := ⟨_, rfl⟩
      have HTx : Hid (lt x y = true → (q = m ∨ lt (ix L m) (ix L q) = true)) := fun h => HT.out (by rw [hx, hy]; exact h)
      have HFx : Hid (lt x y = false → (q + 1 = a ∨ lt (ix L m) (ix L (q + 1 - 1)) = false)) := fun h => HF.out (by rw [hx, hy]; exact h)
      rw [hx, hy] at HK HCA
      clear hx hy hq HT HF
      obtain ⟨ex, hex⟩ : ∃ e, eAt E x = e := ⟨_, rfl⟩
      obtain ⟨ey, hey⟩ : ∃ e, eAt E y = e := ⟨_, rfl⟩
      rw [hex, hey] at HK HCA
      clear hex hey
      obtain ⟨xf, xs, xo, xt, xc, xl, xd⟩ := ex
      obtain ⟨yf, ys, yo, yt, yc, yl, yd⟩ := ey
      unfold etV at HK
      unfold C7 at HCA
      simp only at HK HCA
      have p1 : (0 : Int) ≤ (q : Int) := by omega
      have p2 : (q : Int) < (L.length : Int) := by omega
      have p3 : (0 : Int) ≤ (m : Int) := by omega
      have p4 : (m : Int) < (L.length : Int) := by omega
      obtain ⟨⟨ca0, ca1, ca2, ca3, ca4, ca5, ca6⟩, cb0, cb1, cb2, cb3, cb4, cb5, cb6⟩ := HCA.out _ HV.out
      cases hlv : lt x y with
      | true =>
        rw [hlv] at HK
        have HLV := hide' hlv
        clear hlv
        go_wp2_with fail
        go_region_held3 (fun V => (V.cell? ⟨g, m * 7, none⟩ = some (.int .i64 xf) ∧ V.cell? ⟨g, m * 7 + 1, none⟩ = some (.int .i64 xs) ∧ V.cell? ⟨g, m * 7 + 2, none⟩ = some (.string xo) ∧ V.cell? ⟨g, m * 7 + 3, none⟩ = some (.int .i64 xt) ∧ V.cell? ⟨g, m * 7 + 4, none⟩ = some (.int .i64 xc) ∧ V.cell? ⟨g, m * 7 + 5, none⟩ = some (.int .i64 xl) ∧ V.cell? ⟨g, m * 7 + 6, none⟩ = some (.string xd)) ∧ V.cell? ⟨g, q * 7, none⟩ = some (.int .i64 yf) ∧ V.cell? ⟨g, q * 7 + 1, none⟩ = some (.int .i64 ys) ∧ V.cell? ⟨g, q * 7 + 2, none⟩ = some (.string yo) ∧ V.cell? ⟨g, q * 7 + 3, none⟩ = some (.int .i64 yt) ∧ V.cell? ⟨g, q * 7 + 4, none⟩ = some (.int .i64 yc) ∧ V.cell? ⟨g, q * 7 + 5, none⟩ = some (.int .i64 yl) ∧ V.cell? ⟨g, q * 7 + 6, none⟩ = some (.string yd)) (first | go_keep | (with_reducible exact HCA.out _ HV2.out) | (obtain ⟨⟨h0, h1, h2, h3, h4, h5, h6⟩, k0, k1, k2, k3, k4, k5, k6⟩ := HCA.out _ HV2.out; first | exact ⟨⟨h0, h1, h2, h3, h4, h5, h6⟩, k0, k1, k2, k3, k4, k5, k6⟩ | assumption)) ((go_at_call 21; refine (HK.out _ (grown_drewN _ 1 _)).mono ?_; rintro r w2 ⟨⟨c, rfl, hc⟩, hB2⟩; have hcn : c < 0 := of_decide_eq_true hc; have HV2 := hide' (HV.out.drew.below hB2); clear hB2))
        go_wp2_with fail
        refine ⟨⟨i, q, rfl, rfl, by omega, by omega, by omega, HI, HTx.out HLV.out, HV2⟩, by simp [intOf]; omega⟩
      | false =>
        rw [hlv] at HK
        have HLV := hide' hlv
        clear hlv
        go_wp2_with fail
        go_region_held3 (fun V => (V.cell? ⟨g, m * 7, none⟩ = some (.int .i64 xf) ∧ V.cell? ⟨g, m * 7 + 1, none⟩ = some (.int .i64 xs) ∧ V.cell? ⟨g, m * 7 + 2, none⟩ = some (.string xo) ∧ V.cell? ⟨g, m * 7 + 3, none⟩ = some (.int .i64 xt) ∧ V.cell? ⟨g, m * 7 + 4, none⟩ = some (.int .i64 xc) ∧ V.cell? ⟨g, m * 7 + 5, none⟩ = some (.int .i64 xl) ∧ V.cell? ⟨g, m * 7 + 6, none⟩ = some (.string xd)) ∧ V.cell? ⟨g, q * 7, none⟩ = some (.int .i64 yf) ∧ V.cell? ⟨g, q * 7 + 1, none⟩ = some (.int .i64 ys) ∧ V.cell? ⟨g, q * 7 + 2, none⟩ = some (.string yo) ∧ V.cell? ⟨g, q * 7 + 3, none⟩ = some (.int .i64 yt) ∧ V.cell? ⟨g, q * 7 + 4, none⟩ = some (.int .i64 yc) ∧ V.cell? ⟨g, q * 7 + 5, none⟩ = some (.int .i64 yl) ∧ V.cell? ⟨g, q * 7 + 6, none⟩ = some (.string yd)) (first | go_keep | (with_reducible exact HCA.out _ HV2.out) | (obtain ⟨⟨h0, h1, h2, h3, h4, h5, h6⟩, k0, k1, k2, k3, k4, k5, k6⟩ := HCA.out _ HV2.out; first | exact ⟨⟨h0, h1, h2, h3, h4, h5, h6⟩, k0, k1, k2, k3, k4, k5, k6⟩ | assumption)) ((go_at_call 21; refine (HK.out _ (grown_drewN _ 1 _)).mono ?_; rintro r w2 ⟨⟨c, rfl, hc⟩, hB2⟩; have hcn : ¬ c < 0 := of_decide_eq_false hc; have HV2 := hide' (HV.out.drew.below hB2); clear hB2))
        go_wp2_with fail
        refine ⟨⟨q + 1, j, by go_num, rfl, by omega, by omega, by omega, HFx.out HLV.out, HJ, HV2⟩, by simp [intOf]; omega⟩
    · obtain rfl : i = j := by omega
      go_wp2_with fail
      go_loopw [17] (fun kv wr2 => ∃ (k : Nat) (L1 : List Nat), kv = .int .i64 (k : Int) ∧ i ≤ k ∧ k ≤ m ∧ Hid (Mv L L1 (dn1 m k)) ∧ Hid (Nw E w wr2 g L L1)) (fun kv _ => (intOf kv).toNat)
      case atStart => exact ⟨m, L, rfl, by omega, Nat.le_refl _, dn1_zero L m, HV⟩
      case round =>
        obtain ⟨k, L1, rfl, hak, hki, HM, HW⟩ := hrel
        have hl1 := HW.out.len
        by_cases hkl : i < k
        · obtain ⟨q, rfl⟩ : ∃ q, k = q + 1 := ⟨k - 1, by omega⟩
          have hkz : (i : Int) < (q : Int) + 1 := by omega
          have hkd : (q : Int) + 1 > (i : Int) := by omega
          obtain ⟨c10, c11, c12, c13, c14, c15, c16⟩ := HW.out.nb.cells (k := q + 1) (by omega)
          obtain ⟨c20, c21, c22, c23, c24, c25, c26⟩ := HW.out.nb.cells (k := q) (by omega)
          have f1 := fun kk => HW.out.nb.free kk
          have f2 := fun kk => (HW.out.nb.set (i := q + 1) (by omega) (ix L1 q)).free kk
          obtain ⟨u, c30, c31, c32, c33, c34, c35, c36⟩ := HW.out.nb.any (i := q + 1) (j := q) (by omega) (by omega) (ix L1 q)
          have HW1 := hide' (HW.out.swapped (i := q + 1) (j := q) (by omega) (by omega))
          have HM1 := hide' (dn1_next HM.out (by omega) hki (by omega))
          rw [Nat.add_sub_cancel] at HM1
          obtain ⟨x, hx⟩ : ∃ x, eAt E (ix L1 (q + 1)) = x := ⟨_, rfl⟩
          obtain ⟨y, hy⟩ : ∃ y, eAt E (ix L1 q) = y := ⟨_, rfl⟩
          rw [hx, hy] at HW1
          rw [hx] at c10 c11 c12 c13 c14 c15 c16
          rw [hy] at c20 c21 c22 c23 c24 c25 c26 c30 c31 c32 c33 c34 c35 c36 f2
          clear hx hy
          obtain ⟨xf, xs, xo, xt, xc, xl, xd⟩ := x
          obtain ⟨yf, ys, yo, yt, yc, yl, yd⟩ := y
          simp only [set7] at c10 c11 c12 c13 c14 c15 c16 c20 c21 c22 c23 c24 c25 c26 c30 c31 c32 c33 c34 c35 c36 f2 HW1
          have p1 : (0 : Int) ≤ (q : Int) := by omega
          have p2 : (q : Int) < (L.length : Int) := by omega
          have p3 : (0 : Int) ≤ (q : Int) + 1 := by omega
          have p4 : (q : Int) + 1 < (L.length : Int) := by omega
          have rp : IntKind.i64.wrap ((q : Int) + 1) = (q : Int) + 1 := by rw [IntKind.wrap_i64]; omega
          have rq : IntKind.i64.wrap (q : Int) = (q : Int) := by rw [IntKind.wrap_i64]; omega
          have ep : ((q : Int) + 1).toNat = q + 1 := by omega
          go_wp2_with fail
          go_region_with (fail)
          all_goals
            go_wp2_with fail
            refine ⟨⟨q, _, by go_num, by omega, by omega, HM1, HW1.out.drew⟩, by simp [intOf]⟩
        · obtain rfl : k = i := by omega
          go_wp2_with fail
          (try simp only [Exit.inBlock, Exit.then]); refine bodyPost_ret (results_none rfl _ _ _) rfl ?_
          exact ⟨rfl, L1, dn1_rs HO.out HM.out HW.out.pm him hjb (by omega) (by omega) HS.out HJ.out, by rw [← hm]; exact into_dn HO.out HS.out him hjb HI.out HJ.out HM.out, HW.out⟩
end Go.Proofs.YtelboefeomnjaaaGreat
