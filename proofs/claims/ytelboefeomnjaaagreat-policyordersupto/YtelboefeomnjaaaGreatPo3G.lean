import Derived.Test.YtelboefeomnjaaaGreatZs1G
import Derived.Test.YtelboefeomnjaaaGreatVs1G
import Derived.Shelf.RegionOpen
import Derived.Deep.RegionHeld3
import Derived.Lib.SliceRun
import Derived.Test.YtelboefeomnjaaaGreatZt2G
/-
  Proofs: policy.run, draw, rollAt. (The verifier's own text.)
-/
namespace Go.Proofs.YtelboefeomnjaaaGreat
set_option linter.unusedVariables false
set_option linter.unusedSimpArgs false
open Go.RowKit Go.Shelf Go.Proofs.YtelboefeomnjaaaGreat.Nm Go.Proofs.YtelboefeomnjaaaGreat.Zs

/-- entries from a place of a block on -/
def EsAt (w : World) (g o : Nat) (X : List Et) : Prop := g < w.heap.size ∧ ∀ k, (hk : k < X.length) → C7 w g (o + k * 7) X[k]
theorem C7.below {w w' : World} {g o : Nat} {e : Et} (h : C7 w g o e) (hg : g < w.heap.size) (hb : Below w.heap.size w w') : C7 w' g o e := by
  obtain ⟨h0, h1, h2, h3, h4, h5, h6⟩ := h
  have c := fun (k : Nat) => hb.cell (p := ⟨g, k, none⟩) hg
  exact ⟨(c _).trans h0, (c _).trans h1, (c _).trans h2, (c _).trans h3, (c _).trans h4, (c _).trans h5, (c _).trans h6⟩
theorem EsAt.below {w w' : World} {g o : Nat} {X : List Et} (h : EsAt w g o X) (hb : Below w.heap.size w w') : EsAt w' g o X := ⟨Nat.lt_of_lt_of_le h.1 hb.size, fun k hk => (h.2 k hk).below h.1 hb⟩
theorem EsAt.drew {w : World} {g o : Nat} {X : List Et} (h : EsAt w g o X) : EsAt w.drew g o X := h
theorem run_cut3 (g o n cap e : Nat) (h : e ≤ n) (hn : n ≤ cap) (hc : cap ≤ maxLen) (W : World) : (Instr.slice 44 (.slice (some ⟨g, o, none⟩) n cap) none (some (.int .i64 (e : Int))) (some (.int .i64 (e : Int)))).run Tryz.prog W = .ok (.slice (some ⟨g, o, none⟩) e e) W := by
  have ht' : Tryz.prog.underlying 44 = some (.slice (Tryz.prog.elem 44)) := by simp [Program.elem, Tryz.underlying44]
  have he' : Tryz.prog.elem 44 = 50 := by simp [Program.elem, Tryz.underlying44]
  rw [run_slice_hm W _ _ _ _ ht' .i64 .i64 _ _ (by omega) (by omega) (by omega), he', Tryz.sizeOf50]
  simp [Result.andThen, sliced, Addr.add]
end Go.Proofs.YtelboefeomnjaaaGreat

/-
  Proofs: policy.draw. (The verifier's own text.)
-/
namespace Go.Proofs.YtelboefeomnjaaaGreat
set_option linter.unusedVariables false
set_option linter.unusedSimpArgs false
open Go.RowKit Go.Shelf Go.Proofs.YtelboefeomnjaaaGreat.Nm Go.Proofs.YtelboefeomnjaaaGreat.Zs

/-- the weights of the first k -/
def smS (X : List Et) (k : Nat) : Int := ((X.take k).map (·.s)).sum
theorem smS_zero (X : List Et) : smS X 0 = 0 := by simp [smS]
theorem smS_succ {X : List Et} {k : Nat} (hk : k < X.length) : smS X (k + 1) = smS X k + X[k].s := by
  unfold smS
  rw [List.take_succ_eq_append_getElem hk, List.map_append, List.sum_append]
  simp
theorem smS_le {X : List Et} (hs : ∀ x ∈ X, 0 ≤ x.s ∧ x.s ≤ 65535) : ∀ k, k ≤ X.length → 0 ≤ smS X k ∧ smS X k ≤ 65535 * (k : Int) := by
  intro k
  induction k with
  | zero => intro _; rw [smS_zero]; omega
  | succ k ih =>
    intro hk
    have h1 := ih (by omega)
    have h2 := hs _ (List.getElem_mem (show k < X.length by omega))
    rw [smS_succ (by omega)]
    omega
end Go.Proofs.YtelboefeomnjaaaGreat

/-
  Proofs: policy.draw, told to the letter. (The verifier's own text.)
-/
namespace Go.Proofs.YtelboefeomnjaaaGreat
set_option linter.unusedVariables false
set_option linter.unusedSimpArgs false
open Go.RowKit Go.Shelf Go.Proofs.YtelboefeomnjaaaGreat.Nm Go.Proofs.YtelboefeomnjaaaGreat.Zs

/-- whom a number draws: the first at which the weights so far reach it -/
def Dr (X : List Et) (m : Int) (i : Nat) : Prop := m ≤ smS X (i + 1) ∧ (i = 0 ∨ smS X i < m)
set_option maxRecDepth 100000 in
set_option maxHeartbeats 4000000 in
/-- policy.draw -/
theorem draw_at (g o cap : Nat) (X : List Et) (z : Int) (w : World) (h : EsAt w g o X) (h0 : 0 < X.length) (hX : X.length ≤ 1048576) (hs : ∀ x ∈ X, 0 ≤ x.s ∧ x.s ≤ 65535) (hz : 0 ≤ z ∧ z ≤ 9223372036854775807) :
    Calls Tryz.prog 23 #[.slice (some ⟨g, o, none⟩) X.length cap, .int .i64 z] w fun r w' => (∃ i : Nat, r = .returned (.int .i64 (i : Int)) ∧ i < X.length ∧ Dr X (z % (smS X X.length + 1)) i) ∧ Below w.heap.size w w' := by
  have HE := hide' h
  have HSm := hide' (smS_le hs)
  have HSs := hide' (fun k (hk : k < X.length) => smS_succ hk)
  have HS := hide' hs
  have HSz := hide' (smS_zero X)
  clear h hs
  go_enter Tryz.func23, Tryz.ntmps23
  go_wp2_with fail
  go_loopw [5, 13] (fun sv kv wr => ∃ k : Nat, kv = .int .i64 (k : Int) ∧ k ≤ X.length ∧ sv = .int .i64 (smS X k) ∧ Hid (Below w.heap.size w wr)) (fun _ kv _ => X.length - (intOf kv).toNat)
  case atStart => exact ⟨0, rfl, Nat.zero_le _, by rw [HSz.out], Below.refl _ _⟩
  case round =>
    obtain ⟨k, rfl, hk, rfl, HB⟩ := hrel
    have pk0 : (0 : Int) ≤ (k : Int) := by omega
    by_cases hlt : k < X.length
    · have pk : (k : Int) < (X.length : Int) := by omega
      obtain ⟨c0, c1, c2, c3, c4, c5, c6⟩ := (HE.out.below HB.out).2 k hlt
      have hsm := HSm.out k (by omega)
      have HSx := hide' (HSs.out k hlt)
      have hb := HS.out _ (List.getElem_mem hlt)
      obtain ⟨x, hx⟩ : ∃ x, X[k] = x := ⟨_, rfl⟩
      rw [hx] at c0 c1 c2 c3 c4 c5 c6 HSx hb
      clear hx
      obtain ⟨xf, xs, xo, xt, xc, xl, xd⟩ := x
      simp only at c0 c1 c2 c3 c4 c5 c6 HSx hb
      obtain ⟨sm, hsm'⟩ : ∃ s, smS X k = s := ⟨_, rfl⟩
      rw [hsm'] at hsm HSx
      rw [hsm']
      clear hsm'
      have ea : IntKind.i64.wrap (sm + xs) = sm + xs := by rw [IntKind.wrap_i64]; omega
      have HBa : Hid (∀ o, Below w.heap.size w (wr.alloc o)) := fun o => HB.out.alloc HB.out.size o
      go_wp2_with fail
      exact ⟨⟨k + 1, by go_num, by omega, by rw [HSx.out], HBa.out _⟩, by simp [intOf]; omega⟩
    · obtain rfl : k = X.length := by omega
      obtain ⟨w1, rfl⟩ : ∃ q, q = wr := ⟨_, rfl⟩
      have hsm := HSm.out X.length (Nat.le_refl _)
      have c0 := ((HE.out.below HB.out).2 0 h0).2.1
      rw [Nat.zero_mul, Nat.add_zero] at c0
      have HSx := hide' (HSs.out 0 h0)
      rw [HSz.out, Int.zero_add] at HSx
      obtain ⟨sm, hsm'⟩ : ∃ s, smS X X.length = s := ⟨_, rfl⟩
      have HSe := hide' hsm'
      rw [hsm'] at hsm
      rw [hsm']
      clear hsm'
      obtain ⟨x, hx⟩ : ∃ x, X[0].s = x := ⟨_, rfl⟩
      rw [hx] at c0 HSx
      clear hx
      have ea : IntKind.i64.wrap (sm + 1) = sm + 1 := by rw [IntKind.wrap_i64]; omega
      have e0 : ¬ sm + 1 = 0 := by omega
      have e0b : (sm + 1 == 0) = false := by rw [beq_eq_false_iff_ne]; exact e0
      obtain ⟨m, hm⟩ : ∃ m, z.tmod (sm + 1) = m := ⟨_, rfl⟩
      have hmb : 0 ≤ m ∧ m ≤ sm := by
        rw [← hm, Int.tmod_eq_emod_of_nonneg hz.1]
        have h1 := Int.emod_nonneg z (show sm + 1 ≠ 0 by omega)
        have h2 := Int.emod_lt_of_pos z (show 0 < sm + 1 by omega)
        omega
      have HM : Hid (z % (smS X X.length + 1) = m) := by
        unfold Hid
        rw [HSe.out, ← hm, Int.tmod_eq_emod_of_nonneg hz.1]
      have em : IntKind.i64.wrap m = m := by rw [IntKind.wrap_i64]; omega
      have p00 : (0 : Int) < (X.length : Int) := by omega
      go_wp2_with fail
      go_region_held3 (fun V => V.cell? ⟨g, o + 1, none⟩ = some (.int .i64 x)) (first | go_keep) (fail)
      all_goals
        go_wp2_with fail
        go_loopw [9, 10] (fun kv rv wr => ∃ k : Nat, kv = .int .i64 (k : Int) ∧ k < X.length ∧ rv = .int .i64 (smS X (k + 1)) ∧ Hid (k = 0 ∨ smS X k < m) ∧ Hid (Below w.heap.size w wr)) (fun kv _ _ => X.length - (intOf kv).toNat)
        case atStart => exact ⟨0, rfl, h0, by rw [HSx.out], Or.inl rfl, HB.out.drew⟩
        case round =>
          obtain ⟨k, rfl, hk, rfl, HKm, HBk⟩ := hrel
          have hsk := HSm.out (k + 1) (by omega)
          by_cases hlt : smS X (k + 1) < m
          · have hk2 : k + 1 < X.length := by
              rcases Nat.lt_or_ge (k + 1) X.length with h | h
              · exact h
              · exfalso
                have : k + 1 = X.length := by omega
                rw [this, HSe.out] at hlt
                omega
            have HSy := hide' (HSs.out (k + 1) hk2)
            have HKn : Hid (k + 1 = 0 ∨ smS X (k + 1) < m) := Or.inr hlt
            have ck := ((HE.out.below HBk.out).2 (k + 1) hk2).2.1
            have hb := HS.out _ (List.getElem_mem hk2)
            obtain ⟨y, hy⟩ : ∃ y, X[k + 1].s = y := ⟨_, rfl⟩
            rw [hy] at ck HSy hb
            clear hy
            obtain ⟨sk, hsk'⟩ : ∃ s, smS X (k + 1) = s := ⟨_, rfl⟩
            rw [hsk'] at hsk hlt HSy ⊢
            clear hsk'
            have ey : IntKind.i64.wrap (sk + y) = sk + y := by rw [IntKind.wrap_i64]; omega
            have ek : IntKind.i64.wrap ((k : Int) + 1) = ((k + 1 : Nat) : Int) := by rw [IntKind.wrap_i64]; omega
            have q1 : (0 : Int) ≤ ((k + 1 : Nat) : Int) := by omega
            have q2 : ((k + 1 : Nat) : Int) < (X.length : Int) := by omega
            have q3 : (((k + 1 : Nat) : Int)).toNat = k + 1 := by omega
            go_wp2_with fail
            exact ⟨⟨k + 1, by go_num, by omega, by rw [HSy.out], HKn, HBk.out⟩, by simp [intOf]; omega⟩
          · have HKe : Hid (m ≤ smS X (k + 1)) := Int.not_lt.1 hlt
            go_wp2_with fail
            go_ret
            exact ⟨⟨k, rfl, hk, by rw [HM.out]; exact ⟨HKe.out, HKm.out⟩⟩, HBk.out⟩
end Go.Proofs.YtelboefeomnjaaaGreat

/-
  Proofs: whom policy.draw draws of a row of numbered entries is whom the plain drawing draws. (The verifier's own text.)
-/
namespace Go.Proofs.YtelboefeomnjaaaGreat
set_option linter.unusedVariables false
set_option linter.unusedSimpArgs false
open Go.RowKit Go.Shelf Go.Proofs.YtelboefeomnjaaaGreat.Nm Go.Proofs.YtelboefeomnjaaaGreat.Zs

theorem drawI_is {w : Nat → Int} (hw : ∀ k, 0 ≤ w k) (t : Int) : ∀ (l : List Nat) (a : Int) (i : Nat), i < l.length → t ≤ a + sumW w (l.take (i + 1)) → (i = 0 ∨ a + sumW w (l.take i) < t) → drawI w t a l = i
  | [], _, _, h, _, _ => by simp at h
  | x :: l, a, 0, _, h1, _ => by
    unfold drawI
    simp [sumW] at h1
    rw [if_pos h1]
  | x :: l, a, i + 1, h, h1, h2 => by
    have h3 : a + sumW w ((x :: l).take (i + 1)) < t := by
      rcases h2 with h2 | h2
      · omega
      · exact h2
    rw [List.take_succ_cons] at h1 h3
    simp only [sumW] at h1 h3
    have h4 := sumW_nn hw (l.take i)
    unfold drawI
    rw [if_neg (by omega)]
    congr 1
    refine drawI_is hw t l (a + w x) i (by simp at h; omega) (by omega) ?_
    by_cases e : i = 0
    · exact Or.inl e
    · exact Or.inr (by omega)
theorem sumW_map (w : Nat → Int) : ∀ l : List Nat, sumW w l = (l.map w).sum
  | [] => rfl
  | x :: l => by simp [sumW, sumW_map w l]
theorem smS_row (E : List Et) (l : List Nat) (k : Nat) : smS (l.map (eAt E)) k = sumW (fun i => (eAt E i).s) (l.take k) := by
  unfold smS
  rw [sumW_map, ← List.map_take, List.map_map]
  rfl
/-- both are one -/
theorem Dr.is {E : List Et} {l : List Nat} {z : Int} {i : Nat} (hw : ∀ k, 0 ≤ (eAt E k).s) (hi : i < l.length) (h : Dr (l.map (eAt E)) (z % (smS (l.map (eAt E)) (l.map (eAt E)).length + 1)) i) : ix l i = drawn (fun i => (eAt E i).s) z l := by
  unfold Dr at h
  rw [smS_row, smS_row, smS_row, List.length_map, List.take_length] at h
  unfold drawn
  rw [drawI_is hw _ l 0 i hi (by omega) (by omega)]
end Go.Proofs.YtelboefeomnjaaaGreat

/-
  Proofs: policy.rollAt and run, told to the letter. (The verifier's own text; mkro1.py writes it out of Po3.)
-/
namespace Go.Proofs.YtelboefeomnjaaaGreat
set_option linter.unusedVariables false
set_option linter.unusedSimpArgs false
open Go.RowKit Go.Shelf Go.Proofs.YtelboefeomnjaaaGreat.Nm Go.Proofs.YtelboefeomnjaaaGreat.Zs

/-- the roll of a number -/
def rlN (xs : List Int) (n : Nat) : Int := match xs[n]? with
  | none => 0
  | some x => if x < 0 then -(x + 1) else x
theorem rlN_lt {xs : List Int} {n : Nat} (h : n < xs.length) : rlN xs n = if xs[n] < 0 then -(xs[n] + 1) else xs[n] := by unfold rlN; rw [List.getElem?_eq_getElem h]
theorem rlN_ge {xs : List Int} {n : Nat} (h : ¬ n < xs.length) : rlN xs n = 0 := by unfold rlN; rw [List.getElem?_eq_none (by omega)]
theorem rlN_ok {xs : List Int} (hx : ∀ x ∈ xs, -9223372036854775808 ≤ x ∧ x ≤ 9223372036854775807) (n : Nat) : 0 ≤ rlN xs n ∧ rlN xs n ≤ 9223372036854775807 := by
  by_cases h : n < xs.length
  · rw [rlN_lt h]
    have := hx _ (List.getElem_mem h)
    split <;> omega
  · rw [rlN_ge h]; omega
/-- where a run ends -/
structure RunE (X : List Et) (e : Nat) : Prop where
  pos : 0 < X.length → 0 < e
  le : e ≤ X.length
  all : ∀ k (hk : k < X.length), k < e → X[k].f = (X[0]'(by omega)).f
  last : ∀ (h : e < X.length), X[e].f ≠ (X[0]'(by omega)).f
set_option maxRecDepth 100000 in
set_option maxHeartbeats 4000000 in
/-- policy.run -/
theorem run_at (g o cap : Nat) (X : List Et) (w : World) (h : EsAt w g o X) (hX : X.length ≤ 1048576) (hc : X.length ≤ cap) (hm : cap ≤ maxLen) :
    Calls Tryz.prog 22 #[.slice (some ⟨g, o, none⟩) X.length cap] w fun r w' => (∃ e, r = .returned (.slice (some ⟨g, o, none⟩) e e) ∧ RunE X e) ∧ Below w.heap.size w w' := by
  have HE := hide' h
  have HR := hide' (fun e (he : e ≤ X.length) => run_cut3 g o X.length cap e he hc hm)
  clear h
  go_enter Tryz.func22, Tryz.ntmps22
  go_wp2_with fail
  go_loopw [3] (fun kv wr => ∃ k : Nat, kv = .int .i64 (k : Int) ∧ k ≤ X.length ∧ Hid (∀ j (hj : j < X.length), j < k → X[j].f = (X[0]'(by omega)).f) ∧ Hid (Below w.heap.size w wr)) (fun kv _ => X.length - (intOf kv).toNat)
  case atStart => exact ⟨0, rfl, Nat.zero_le _, (fun j hj h => absurd h (Nat.not_lt_zero _)), Below.refl _ _⟩
  case round =>
    obtain ⟨k, rfl, hk, HF, HB⟩ := hrel
    have pk0 : (0 : Int) ≤ (k : Int) := by omega
    by_cases hlt : k < X.length
    · have h0 : 0 < X.length := by omega
      have p00 : (0 : Int) < (X.length : Int) := by omega
      have pk : (k : Int) < (X.length : Int) := by omega
      have ck := ((HE.out.below HB.out).2 k hlt).1
      have c0 := ((HE.out.below HB.out).2 0 h0).1
      rw [Nat.zero_mul, Nat.add_zero] at c0
      have HNx : Hid (X[k].f = X[0].f → ∀ j (hj : j < X.length), j < k + 1 → X[j].f = (X[0]'(by omega)).f) := fun e j hj h => by
        rcases Nat.lt_or_ge j k with h' | h'
        · exact HF.out j hj h'
        · obtain rfl : j = k := by omega
          exact e
      have HK0 : Hid (k = 0 → X[k].f = X[0].f) := fun e => by subst e; rfl
      obtain ⟨x, hx⟩ : ∃ x, X[k].f = x := ⟨_, rfl⟩
      obtain ⟨y, hy⟩ : ∃ y, X[0].f = y := ⟨_, rfl⟩
      rw [hx] at ck HK0
      rw [hy] at c0 HK0
      have hpd : decide ((k : Int) < (X.length : Int)) = true := decide_eq_true pk
      by_cases hxy : x = y
      · have HN2 := hide' (HNx.out (by rw [hx, hy]; exact hxy))
        subst hxy
        clear hx hy
        go_wp2_with fail
        go_region_held3 (fun V => V.cell? ⟨g, o + k * 7, none⟩ = some (.int .i64 x) ∧ V.cell? ⟨g, o, none⟩ = some (.int .i64 x)) (first | go_keep) (fail)
        go_wp2_with fail
        exact ⟨⟨k + 1, by go_num, by omega, HN2, HB.out.drew⟩, by simp [intOf]; omega⟩
      · have hne : (x == y) = false := by rw [beq_eq_false_iff_ne]; exact hxy
        have hkp : Hid (0 < k) := by
          rcases Nat.eq_zero_or_pos k with e | e
          · exact absurd (HK0.out e) hxy
          · exact e
        have HNe : Hid (X[k].f ≠ X[0].f) := by unfold Hid; rw [hx, hy]; exact hxy
        clear hx hy
        have hr := HR.out k (by omega)
        go_wp2_with fail
        go_region_held3 (fun V => V.cell? ⟨g, o + k * 7, none⟩ = some (.int .i64 x) ∧ V.cell? ⟨g, o, none⟩ = some (.int .i64 y)) (first | go_keep) (fail)
        go_wp2_with fail
        go_ret
        exact ⟨⟨k, rfl, ⟨fun _ => hkp.out, hk, HF.out, fun _ => HNe.out⟩⟩, HB.out.drew⟩
    · have pk : ¬ (k : Int) < (X.length : Int) := by omega
      have hpd : decide ((k : Int) < (X.length : Int)) = false := decide_eq_false pk
      have hr := HR.out k (by omega)
      go_wp2_with fail
      go_region
      go_wp2_with fail
      go_ret
      exact ⟨⟨k, rfl, ⟨fun h => by omega, hk, HF.out, fun h => by omega⟩⟩, HB.out.drew⟩
set_option maxRecDepth 100000 in
set_option maxHeartbeats 2000000 in
/-- policy.rollAt -/
theorem rollAt_at (xs : List Int) (p : Option Addr) (c n : Nat) (w : World) (h : ZAt w w.heap.size p xs) (hl : xs.length ≤ 1048576) (hx : ∀ x ∈ xs, -9223372036854775808 ≤ x ∧ x ≤ 9223372036854775807) :
    Calls Tryz.prog 24 #[.slice p xs.length c, .int .i64 (n : Int)] w fun r w' => r = .returned (.int .i64 (rlN xs n)) ∧ w' = w := by
  by_cases hn : n < xs.length
  · rw [rlN_lt hn]
    revert h hx
    intro h hx
    obtain ⟨g, off, rfl, hg, hc⟩ := h n hn
    have hb := hx _ (List.getElem_mem hn)
    obtain ⟨x, hx'⟩ : ∃ x, xs[n] = x := ⟨_, rfl⟩
    rw [hx'] at hc hb ⊢
    clear hx' h hx
    have p1 : ¬ (n : Int) ≥ (xs.length : Int) := by omega
    have p2 : (n : Int) < (xs.length : Int) := by omega
    have p3 : (0 : Int) ≤ (n : Int) := by omega
    by_cases hs : x < 0
    · rw [if_pos hs]
      have e1 : IntKind.i64.wrap (x + 1) = x + 1 := by rw [IntKind.wrap_i64]; omega
      have e2 : IntKind.i64.wrap (-(x + 1)) = -(x + 1) := by rw [IntKind.wrap_i64]; omega
      go_enter Tryz.func24, Tryz.ntmps24
      go_wp2_with fail
      go_ret
      exact ⟨rfl, rfl⟩
    · rw [if_neg hs]
      go_enter Tryz.func24, Tryz.ntmps24
      go_wp2_with fail
      go_ret
      exact ⟨rfl, rfl⟩
  · rw [rlN_ge hn]
    have p1 : (n : Int) ≥ (xs.length : Int) := by omega
    clear h hx
    go_enter Tryz.func24, Tryz.ntmps24
    go_wp2_with fail
    go_ret
    exact ⟨rfl, rfl⟩
end Go.Proofs.YtelboefeomnjaaaGreat
