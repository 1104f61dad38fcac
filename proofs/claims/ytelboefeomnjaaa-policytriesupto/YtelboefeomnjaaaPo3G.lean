import Derived.Test.YtelboefeomnjaaaZe1
import Derived.Test.YtelboefeomnjaaaVs1
import Derived.Shelf.RegionOpen
import Derived.Deep.RegionHeld3
import Derived.Lib.SliceRun
/-
  Proofs: policy.run, draw, rollAt. (The verifier's own text.)
-/
namespace Go.Proofs.Ytelboefeomnjaaa
set_option linter.unusedVariables false
set_option linter.unusedSimpArgs false
open Go.RowKit Go.Shelf Go.Proofs.Ytelboefeomnjaaa.Nm Go.Proofs.Ytelboefeomnjaaa.Zs

/-- entries from a place of a block on -/
def EsAt (w : World) (g o : Nat) (X : List Et) : Prop := g < w.heap.size ∧ ∀ k, (hk : k < X.length) → C7 w g (o + k * 7) X[k]
theorem C7.below {w w' : World} {g o : Nat} {e : Et} (h : C7 w g o e) (hg : g < w.heap.size) (hb : Below w.heap.size w w') : C7 w' g o e := by
  obtain ⟨h0, h1, h2, h3, h4, h5, h6⟩ := h
  have c := fun (k : Nat) => hb.cell (p := ⟨g, k, none⟩) hg
  exact ⟨(c _).trans h0, (c _).trans h1, (c _).trans h2, (c _).trans h3, (c _).trans h4, (c _).trans h5, (c _).trans h6⟩
theorem EsAt.below {w w' : World} {g o : Nat} {X : List Et} (h : EsAt w g o X) (hb : Below w.heap.size w w') : EsAt w' g o X := ⟨Nat.lt_of_lt_of_le h.1 hb.size, fun k hk => (h.2 k hk).below h.1 hb⟩
theorem EsAt.drew {w : World} {g o : Nat} {X : List Et} (h : EsAt w g o X) : EsAt w.drew g o X := h
theorem run_cut3 (g o n cap e : Nat) (h : e ≤ n) (hn : n ≤ cap) (hc : cap ≤ maxLen) (W : World) : (Instr.slice 31 (.slice (some ⟨g, o, none⟩) n cap) none (some (.int .i64 (e : Int))) (some (.int .i64 (e : Int)))).run Try.prog W = .ok (.slice (some ⟨g, o, none⟩) e e) W := by
  have ht' : Try.prog.underlying 31 = some (.slice (Try.prog.elem 31)) := by simp [Program.elem, Try.underlying31]
  have he' : Try.prog.elem 31 = 37 := by simp [Program.elem, Try.underlying31]
  rw [run_slice_hm W _ _ _ _ ht' .i64 .i64 _ _ (by omega) (by omega) (by omega), he', Try.sizeOf37]
  simp [Result.andThen, sliced, Addr.add]
set_option maxRecDepth 100000 in
set_option maxHeartbeats 4000000 in
/-- policy.run -/
theorem run_any (g o cap : Nat) (X : List Et) (w : World) (h : EsAt w g o X) (h0 : 0 < X.length) (hX : X.length ≤ 1048576) (hc : X.length ≤ cap) (hm : cap ≤ maxLen) :
    Calls Try.prog 10 #[.slice (some ⟨g, o, none⟩) X.length cap] w fun r w' => (∃ e, r = .returned (.slice (some ⟨g, o, none⟩) e e) ∧ 0 < e ∧ e ≤ X.length ∧ ∀ k (hk : k < X.length), k < e → X[k].f = X[0].f) ∧ Below w.heap.size w w' := by
  have HE := hide' h
  have HR := hide' (fun e (he : e ≤ X.length) => run_cut3 g o X.length cap e he hc hm)
  clear h
  go_enter Try.func10, Try.ntmps10
  go_wp2_with fail
  go_loopw [3] (fun kv wr => ∃ k : Nat, kv = .int .i64 (k : Int) ∧ k ≤ X.length ∧ Hid (∀ j (hj : j < X.length), j < k → X[j].f = X[0].f) ∧ Hid (Below w.heap.size w wr)) (fun kv _ => X.length - (intOf kv).toNat)
  case atStart => exact ⟨0, rfl, Nat.zero_le _, (fun j hj h => absurd h (Nat.not_lt_zero _)), Below.refl _ _⟩
  case round =>
    obtain ⟨k, rfl, hk, HF, HB⟩ := hrel
    have pk0 : (0 : Int) ≤ (k : Int) := by omega
    have p00 : (0 : Int) < (X.length : Int) := by omega
    by_cases hlt : k < X.length
    · have pk : (k : Int) < (X.length : Int) := by omega
      have ck := ((HE.out.below HB.out).2 k hlt).1
      have c0 := ((HE.out.below HB.out).2 0 h0).1
      rw [Nat.zero_mul, Nat.add_zero] at c0
      have HNx : Hid (X[k].f = X[0].f → ∀ j (hj : j < X.length), j < k + 1 → X[j].f = X[0].f) := fun e j hj h => by
        rcases Nat.lt_or_ge j k with h' | h'
        · exact HF.out j hj h'
        · obtain rfl : j = k := by omega
          exact e
      have HK0 : Hid (k = 0 → X[k].f = X[0].f) := fun e => by subst e; rfl
      obtain ⟨x, hx⟩ : ∃ x, X[k].f = x := ⟨_, rfl⟩
      obtain ⟨y, hy⟩ : ∃ y, X[0].f = y := ⟨_, rfl⟩
      rw [hx] at ck HK0
      rw [hy] at c0 HK0
      have hpd : decide ((k : Int) < (X.length : Int)) = true := decide_eq_true pk
      by_cases hxy : x = y
      · have HN2 := hide' (HNx.out (by rw [hx, hy]; exact hxy))
        subst hxy
        clear hx hy
        go_wp2_with fail
        go_region_held3 (fun V => V.cell? ⟨g, o + k * 7, none⟩ = some (.int .i64 x) ∧ V.cell? ⟨g, o, none⟩ = some (.int .i64 x)) (first | go_keep) (fail)
        go_wp2_with fail
        exact ⟨⟨k + 1, by go_num, by omega, HN2, HB.out.drew⟩, by simp [intOf]; omega⟩
      · have hne : (x == y) = false := by rw [beq_eq_false_iff_ne]; exact hxy
        have hkp : Hid (0 < k) := by
          rcases Nat.eq_zero_or_pos k with e | e
          · exact absurd (HK0.out e) hxy
          · exact e
        clear hx
        have hr := HR.out k (by omega)
        go_wp2_with fail
        go_region_held3 (fun V => V.cell? ⟨g, o + k * 7, none⟩ = some (.int .i64 x) ∧ V.cell? ⟨g, o, none⟩ = some (.int .i64 y)) (first | go_keep) (fail)
        go_wp2_with fail
        go_ret
        exact ⟨⟨k, rfl, hkp.out, hk, HF.out⟩, HB.out.drew⟩
    · have pk : ¬ (k : Int) < (X.length : Int) := by omega
      have hpd : decide ((k : Int) < (X.length : Int)) = false := decide_eq_false pk
      have hr := HR.out k (by omega)
      go_wp2_with fail
      go_region
      go_wp2_with fail
      go_ret
      exact ⟨⟨k, rfl, by omega, hk, HF.out⟩, HB.out.drew⟩
set_option maxRecDepth 100000 in
set_option maxHeartbeats 2000000 in
/-- policy.rollAt -/
theorem rollAt_any (xs : List Int) (p : Option Addr) (c n : Nat) (w : World) (h : ZAt w w.heap.size p xs) (hl : xs.length ≤ 1048576) (hx : ∀ x ∈ xs, -9223372036854775808 ≤ x ∧ x ≤ 9223372036854775807) :
    Calls Try.prog 12 #[.slice p xs.length c, .int .i64 (n : Int)] w fun r w' => (∃ z : Int, r = .returned (.int .i64 z) ∧ 0 ≤ z ∧ z ≤ 9223372036854775807) ∧ w' = w := by
  by_cases hn : n < xs.length
  · obtain ⟨g, off, rfl, hg, hc⟩ := h n hn
    have hb := hx _ (List.getElem_mem hn)
    obtain ⟨x, hx'⟩ : ∃ x, xs[n] = x := ⟨_, rfl⟩
    rw [hx'] at hc hb
    clear hx' h hx
    have p1 : ¬ (n : Int) ≥ (xs.length : Int) := by omega
    have p2 : (n : Int) < (xs.length : Int) := by omega
    have p3 : (0 : Int) ≤ (n : Int) := by omega
    by_cases hs : x < 0
    · have e1 : IntKind.i64.wrap (x + 1) = x + 1 := by rw [IntKind.wrap_i64]; omega
      have e2 : IntKind.i64.wrap (-(x + 1)) = -(x + 1) := by rw [IntKind.wrap_i64]; omega
      go_enter Try.func12, Try.ntmps12
      go_wp2_with fail
      go_ret
      exact ⟨⟨_, rfl, by omega, by omega⟩, rfl⟩
    · go_enter Try.func12, Try.ntmps12
      go_wp2_with fail
      go_ret
      exact ⟨⟨_, rfl, by omega, by omega⟩, rfl⟩
  · have p1 : (n : Int) ≥ (xs.length : Int) := by omega
    clear h hx
    go_enter Try.func12, Try.ntmps12
    go_wp2_with fail
    go_ret
    exact ⟨⟨_, rfl, by omega, by omega⟩, rfl⟩
end Go.Proofs.Ytelboefeomnjaaa

/-
  Proofs: policy.draw. (The verifier's own text.)
-/
namespace Go.Proofs.Ytelboefeomnjaaa
set_option linter.unusedVariables false
set_option linter.unusedSimpArgs false
open Go.RowKit Go.Shelf Go.Proofs.Ytelboefeomnjaaa.Nm Go.Proofs.Ytelboefeomnjaaa.Zs

/-- the weights of the first k -/
def smS (X : List Et) (k : Nat) : Int := ((X.take k).map (·.s)).sum
theorem smS_zero (X : List Et) : smS X 0 = 0 := by simp [smS]
theorem smS_succ {X : List Et} {k : Nat} (hk : k < X.length) : smS X (k + 1) = smS X k + X[k].s := by
  unfold smS
  rw [List.take_succ_eq_append_getElem hk, List.map_append, List.sum_append]
  simp
theorem smS_le {X : List Et} (hs : ∀ x ∈ X, 0 ≤ x.s ∧ x.s ≤ 65535) : ∀ k, k ≤ X.length → 0 ≤ smS X k ∧ smS X k ≤ 65535 * (k : Int) := by
  intro k
  induction k with
  | zero => intro _; rw [smS_zero]; omega
  | succ k ih =>
    intro hk
    have h1 := ih (by omega)
    have h2 := hs _ (List.getElem_mem (show k < X.length by omega))
    rw [smS_succ (by omega)]
    omega
set_option maxRecDepth 100000 in
set_option maxHeartbeats 4000000 in
/-- policy.draw -/
theorem draw_any (g o cap : Nat) (X : List Et) (z : Int) (w : World) (h : EsAt w g o X) (h0 : 0 < X.length) (hX : X.length ≤ 1048576) (hs : ∀ x ∈ X, 0 ≤ x.s ∧ x.s ≤ 65535) (hz : 0 ≤ z ∧ z ≤ 9223372036854775807) :
    Calls Try.prog 11 #[.slice (some ⟨g, o, none⟩) X.length cap, .int .i64 z] w fun r w' => (∃ i : Nat, r = .returned (.int .i64 (i : Int)) ∧ i < X.length) ∧ Below w.heap.size w w' := by
  have HE := hide' h
  have HSm := hide' (smS_le hs)
  have HSs := hide' (fun k (hk : k < X.length) => smS_succ hk)
  have HS := hide' hs
  have HSz := hide' (smS_zero X)
  clear h hs
  go_enter Try.func11, Try.ntmps11
  go_wp2_with fail
  go_loopw [5, 13] (fun sv kv wr => ∃ k : Nat, kv = .int .i64 (k : Int) ∧ k ≤ X.length ∧ sv = .int .i64 (smS X k) ∧ Hid (Below w.heap.size w wr)) (fun _ kv _ => X.length - (intOf kv).toNat)
  case atStart => exact ⟨0, rfl, Nat.zero_le _, by rw [HSz.out], Below.refl _ _⟩
  case round =>
    obtain ⟨k, rfl, hk, rfl, HB⟩ := hrel
    have pk0 : (0 : Int) ≤ (k : Int) := by omega
    by_cases hlt : k < X.length
    · have pk : (k : Int) < (X.length : Int) := by omega
      obtain ⟨c0, c1, c2, c3, c4, c5, c6⟩ := (HE.out.below HB.out).2 k hlt
      have hsm := HSm.out k (by omega)
      have HSx := hide' (HSs.out k hlt)
      have hb := HS.out _ (List.getElem_mem hlt)
      obtain ⟨x, hx⟩ : ∃ x, X[k] = x := ⟨_, rfl⟩
      rw [hx] at c0 c1 c2 c3 c4 c5 c6 HSx hb
      clear hx
      obtain ⟨xf, xs, xo, xt, xc, xl, xd⟩ := x
      simp only at c0 c1 c2 c3 c4 c5 c6 HSx hb
      obtain ⟨sm, hsm'⟩ : ∃ s, smS X k = s := ⟨_, rfl⟩
      rw [hsm'] at hsm HSx
      rw [hsm']
      clear hsm'
      have ea : IntKind.i64.wrap (sm + xs) = sm + xs := by rw [IntKind.wrap_i64]; omega
      have HBa : Hid (∀ o, Below w.heap.size w (wr.alloc o)) := fun o => HB.out.alloc HB.out.size o
      go_wp2_with fail
      exact ⟨⟨k + 1, by go_num, by omega, by rw [HSx.out], HBa.out _⟩, by simp [intOf]; omega⟩
    · obtain rfl : k = X.length := by omega
      obtain ⟨w1, rfl⟩ : ∃ q, q = wr := ⟨_, rfl⟩
      have hsm := HSm.out X.length (Nat.le_refl _)
      have c0 := ((HE.out.below HB.out).2 0 h0).2.1
      rw [Nat.zero_mul, Nat.add_zero] at c0
      have HSx := hide' (HSs.out 0 h0)
      rw [HSz.out, Int.zero_add] at HSx
      obtain ⟨sm, hsm'⟩ : ∃ s, smS X X.length = s := ⟨_, rfl⟩
      have HSe := hide' hsm'
      rw [hsm'] at hsm
      rw [hsm']
      clear hsm'
      obtain ⟨x, hx⟩ : ∃ x, X[0].s = x := ⟨_, rfl⟩
      rw [hx] at c0 HSx
      clear hx
      have ea : IntKind.i64.wrap (sm + 1) = sm + 1 := by rw [IntKind.wrap_i64]; omega
      have e0 : ¬ sm + 1 = 0 := by omega
      have e0b : (sm + 1 == 0) = false := by rw [beq_eq_false_iff_ne]; exact e0
      obtain ⟨m, hm⟩ : ∃ m, z.tmod (sm + 1) = m := ⟨_, rfl⟩
      have hmb : 0 ≤ m ∧ m ≤ sm := by
        rw [← hm, Int.tmod_eq_emod_of_nonneg hz.1]
        have h1 := Int.emod_nonneg z (show sm + 1 ≠ 0 by omega)
        have h2 := Int.emod_lt_of_pos z (show 0 < sm + 1 by omega)
        omega
      have em : IntKind.i64.wrap m = m := by rw [IntKind.wrap_i64]; omega
      have p00 : (0 : Int) < (X.length : Int) := by omega
      go_wp2_with fail
      go_region_held3 (fun V => V.cell? ⟨g, o + 1, none⟩ = some (.int .i64 x)) (first | go_keep) (fail)
      all_goals
        go_wp2_with fail
        go_loopw [9, 10] (fun kv rv wr => ∃ k : Nat, kv = .int .i64 (k : Int) ∧ k < X.length ∧ rv = .int .i64 (smS X (k + 1)) ∧ Hid (Below w.heap.size w wr)) (fun kv _ _ => X.length - (intOf kv).toNat)
        case atStart => exact ⟨0, rfl, h0, by rw [HSx.out], HB.out.drew⟩
        case round =>
          obtain ⟨k, rfl, hk, rfl, HBk⟩ := hrel
          have hsk := HSm.out (k + 1) (by omega)
          by_cases hlt : smS X (k + 1) < m
          · have hk2 : k + 1 < X.length := by
              rcases Nat.lt_or_ge (k + 1) X.length with h | h
              · exact h
              · exfalso
                have : k + 1 = X.length := by omega
                rw [this, HSe.out] at hlt
                omega
            have HSy := hide' (HSs.out (k + 1) hk2)
            have ck := ((HE.out.below HBk.out).2 (k + 1) hk2).2.1
            have hb := HS.out _ (List.getElem_mem hk2)
            obtain ⟨y, hy⟩ : ∃ y, X[k + 1].s = y := ⟨_, rfl⟩
            rw [hy] at ck HSy hb
            clear hy
            obtain ⟨sk, hsk'⟩ : ∃ s, smS X (k + 1) = s := ⟨_, rfl⟩
            rw [hsk'] at hsk hlt HSy ⊢
            clear hsk'
            have ey : IntKind.i64.wrap (sk + y) = sk + y := by rw [IntKind.wrap_i64]; omega
            have ek : IntKind.i64.wrap ((k : Int) + 1) = ((k + 1 : Nat) : Int) := by rw [IntKind.wrap_i64]; omega
            have q1 : (0 : Int) ≤ ((k + 1 : Nat) : Int) := by omega
            have q2 : ((k + 1 : Nat) : Int) < (X.length : Int) := by omega
            have q3 : (((k + 1 : Nat) : Int)).toNat = k + 1 := by omega
            go_wp2_with fail
            exact ⟨⟨k + 1, by go_num, by omega, by rw [HSy.out], HBk.out⟩, by simp [intOf]; omega⟩
          · go_wp2_with fail
            go_ret
            exact ⟨⟨k, rfl, hk⟩, HBk.out⟩
end Go.Proofs.Ytelboefeomnjaaa
