import Derived.Test.YtclonjmhbgllkaaDoorMr2
namespace Go.Proofs.YtclonjmhbgllkaaDoor
set_option linter.unusedVariables false
open Go.RowKit Go.Shelf Go.Proofs.YtclonjmhbgllkaaDoor.Nm

/-- words in memory, to be read -/
def WdsAt (w : World) (b : Nat) (ws : List Wd) : Prop := ∀ j, (hj : j < ws.length) → w.cell? ⟨b, j * 2, none⟩ = some (.string ws[j].t) ∧ w.cell? ⟨b, j * 2 + 1, none⟩ = some (.bool ws[j].q)
theorem wcells_get (ws : List Wd) : ∀ j, (hj : j < ws.length) → (wcells ws)[j * 2]? = some (.string ws[j].t) ∧ (wcells ws)[j * 2 + 1]? = some (.bool ws[j].q) := by
  induction ws with
  | nil => intro j hj; simp at hj
  | cons x ws ih =>
    intro j hj
    have e : wcells (x :: ws) = .string x.t :: .bool x.q :: wcells ws := by simp [wcells]
    cases j with
    | zero => simp [e]
    | succ j =>
      have := ih j (by simpa using hj)
      rw [e]
      have e1 : (j + 1) * 2 = j * 2 + 1 + 1 := by omega
      rw [e1]
      simpa using this
theorem WR.read {w : World} {base : Nat} {z : Ez} (h : WR w base z) : WdsAt w z.2.1 z.1.ws := by
  intro j hj
  obtain ⟨h1, h2⟩ := wcells_get z.1.ws j hj
  have hc : ∀ i, i < z.1.ws.length * 2 → w.cell? ⟨z.2.1, i, none⟩ = (wcells z.1.ws)[i]? := fun i hi => World.ownsRow.cellAt h i hi
  exact ⟨(hc _ (by omega)).trans h1, (hc _ (by omega)).trans h2⟩
theorem ecells_get (Z : List Ez) : ∀ j, (hj : j < Z.length) → (ecells Z)[j * 3]? = some (.int .i64 (Z[j].1.l : Int)) ∧ (ecells Z)[j * 3 + 1]? = some (.bool Z[j].1.b) ∧ (ecells Z)[j * 3 + 2]? = some (.slice (some ⟨Z[j].2.1, 0, none⟩) Z[j].1.ws.length Z[j].2.2) := by
  induction Z with
  | nil => intro j hj; simp at hj
  | cons x Z ih =>
    intro j hj
    have e : ecells (x :: Z) = .int .i64 (x.1.l : Int) :: .bool x.1.b :: .slice (some ⟨x.2.1, 0, none⟩) x.1.ws.length x.2.2 :: ecells Z := by simp [ecells, encE]
    cases j with
    | zero => simp [e]
    | succ j =>
      have := ih j (by simpa using hj)
      rw [e]
      have e1 : (j + 1) * 3 = j * 3 + 1 + 1 + 1 := by omega
      rw [e1]
      simpa using this
/-- entries in memory, to be read -/
theorem EZ.read {w : World} {base : Nat} {p : Option Addr} {n c : Nat} {Z : List Ez} (h : EZ w base (.slice p n c) Z) (j : Nat) (hj : j < Z.length) : ∃ g, p = some ⟨g, 0, none⟩ ∧ g < w.heap.size ∧
    w.cell? ⟨g, j * 3, none⟩ = some (.int .i64 (Z[j].1.l : Int)) ∧ w.cell? ⟨g, j * 3 + 1, none⟩ = some (.bool Z[j].1.b) ∧ w.cell? ⟨g, j * 3 + 2, none⟩ = some (.slice (some ⟨Z[j].2.1, 0, none⟩) Z[j].1.ws.length Z[j].2.2) := by
  have hn : n = Z.length := by
    obtain ⟨p', c', e, _⟩ := owns_shape2 h.own
    injection e
  subst hn
  obtain ⟨g, rfl⟩ := owns_some2 h.own (by omega)
  obtain ⟨h1, h2, h3⟩ := ecells_get Z j hj
  have hc : ∀ i, i < Z.length * 3 → w.cell? ⟨g, i, none⟩ = (ecells Z)[i]? := fun i hi => World.ownsRow.cellAt h.own i hi
  exact ⟨g, rfl, (h.own.lt g rfl).2, (hc _ (by omega)).trans h1, (hc _ (by omega)).trans h2, (hc _ (by omega)).trans h3⟩

set_option maxRecDepth 100000 in
set_option maxHeartbeats 2000000 in
/-- gazetteersame.Words, at the same words -/
theorem sameWords (bx by_ cx cy : Nat) (ws : List Wd) (w : World) (hx : WdsAt w bx ws) (hy : WdsAt w by_ ws) (hl : ws.length ≤ 4294967296) :
    Calls Tryd.prog 11 #[.slice (some ⟨bx, 0, none⟩) ws.length cx, .slice (some ⟨by_, 0, none⟩) ws.length cy] w fun e w' => e = .returned (.bool true) ∧ ∃ m, w' = w.drewN m := by
  obtain ⟨n, hn⟩ : ∃ n, ws.length = n := ⟨_, rfl⟩
  have HX := hide2 hx
  have HY := hide2 hy
  clear hx hy
  rw [hn]
  rw [hn] at hl
  go_enter Tryd.func11, Tryd.ntmps11
  go_wp2
  go_loopw [13] (fun i wr => ∃ k m : Nat, i = .int .i64 k ∧ k ≤ n ∧ wr = w.drewN m) (fun i _ => n - (intOf i).toNat)
  case atStart => exact ⟨0, 0, rfl, Nat.zero_le _, rfl⟩
  case round =>
    obtain ⟨k, m, rfl, hk, rfl⟩ := hrel
    by_cases hlt : k < n
    · obtain ⟨x0, x1⟩ := HX.out k (by omega)
      obtain ⟨y0, y1⟩ := HY.out k (by omega)
      generalize ws[k].t = T at *
      generalize ws[k].q = q at *
      go_wp2
      go_quiet (fail)
      go_wp2
      go_roundw
      case rel => exact ⟨k + 1, m + nq, by go_num, by omega, rfl⟩
      case measure => simp [intOf]; omega
    · go_wp2
      go_ret
      exact ⟨rfl, m, rfl⟩

set_option maxRecDepth 100000 in
set_option maxHeartbeats 4000000 in
/-- gazetteersame.Entries, at the same entries -/
theorem sameEntries (px py : Option Addr) (n cx cy bx by_ : Nat) (X Y : List Ez) (w : World) (hx : EZ w bx (.slice px n cx) X) (hy : EZ w by_ (.slice py n cy) Y) (hXY : X.map (·.1) = Y.map (·.1)) (hX : X.length = n) (hl : n ≤ 4294967296) (hw : ∀ z ∈ X, z.1.ws.length ≤ 4294967296) :
    Calls Tryd.prog 6 #[.slice px n cx, .slice py n cy] w fun e w' => e = .returned (.bool true) ∧ ∃ m, w' = w.drewN m := by
  have hY : Y.length = n := by have := congrArg List.length hXY; simp at this; omega
  have HX := hide2 hx
  have HY := hide2 hy
  clear hx hy
  go_enter Tryd.func6, Tryd.ntmps6
  go_wp2
  go_loopw [13] (fun i wr => ∃ k m : Nat, i = .int .i64 k ∧ k ≤ n ∧ wr = w.drewN m) (fun i _ => n - (intOf i).toNat)
  case atStart => exact ⟨0, 0, rfl, Nat.zero_le _, rfl⟩
  case round =>
    obtain ⟨k, m, rfl, hk, hm⟩ := hrel
    have HXr : Hid (EZ wr bx (.slice px n cx) X) := hm ▸ HX.out.below (quiet_below m)
    have HYr : Hid (EZ wr by_ (.slice py n cy) Y) := hm ▸ HY.out.below (quiet_below m)
    have HMm := hide2 hm
    clear hm
    by_cases hlt : k < n
    · have hkX : k < X.length := by omega
      have hkY : k < Y.length := by omega
      have e : X[k].1 = Y[k].1 := by
        have := congrArg (fun l => l[k]?) hXY
        simpa [hkX, hkY] using this
      obtain ⟨gx, rfl, _, x0, x1, x2⟩ := HXr.out.read k hkX
      obtain ⟨gy, rfl, _, y0, y1, y2⟩ := HYr.out.read k hkY
      have hwx := (HXr.out.rows _ (List.getElem_mem hkX)).read
      have hwy := (HYr.out.rows _ (List.getElem_mem hkY)).read
      have hwl := hw _ (List.getElem_mem hkX)
      rw [← e] at hwy
      have HW2 := hide2 (fun (W : World) (h1 : WdsAt W X[k].2.1 X[k].1.ws) (h2 : WdsAt W Y[k].2.1 X[k].1.ws) => sameWords X[k].2.1 Y[k].2.1 X[k].2.2 Y[k].2.2 X[k].1.ws W h1 h2 hwl)
      rw [← e] at y0 y1 y2
      have HWX := hide2 hwx
      have HWY := hide2 hwy
      clear hwx hwy hwl e
      generalize X[k].1.l = L at *
      generalize X[k].1.b = B at *
      generalize X[k].1.ws = W at *
      generalize X[k].2.1 = p1 at *
      generalize X[k].2.2 = p2 at *
      generalize Y[k].2.1 = q1 at *
      generalize Y[k].2.2 = q2 at *
      go_wp2_with fail
      go_quiet ((go_at_call 11; refine Calls.quiet_of (HW2.out _ ?_ ?_); exact HWX.out; exact HWY.out))
      go_wp2
      go_roundw
      case rel => exact ⟨k + 1, m + nq, by go_num, by omega, by rw [HMm.out]; simp⟩
      case measure => simp [intOf]; omega
    · go_wp2
      go_ret
      exact ⟨rfl, m, HMm.out⟩
end Go.Proofs.YtclonjmhbgllkaaDoor
