import Derived.Test.YtelboefeomnjaaaGreatPo3G
import Derived.Deep.RegionLaw
import Derived.Lib.SliceRun
/-
  Proofs: slices.Delete of one entry. (The verifier's own text.)
-/
namespace Go.Proofs.YtelboefeomnjaaaGreat
set_option linter.unusedVariables false
set_option linter.unusedSimpArgs false
open Go.RowKit Go.Shelf Go.Proofs.YtelboefeomnjaaaGreat.Nm Go.Proofs.YtelboefeomnjaaaGreat.Zs

theorem infoE : (Tryz.prog.info? 50).map (fun i => (i.zero, i.size, i.bytes)) = some (some (etV zE), 7, 72) := by kernel_rfl
theorem zero_runE (w : World) : (zeroValue 50).run Tryz.prog w = .ok (etV zE) w := by
  have hz : Tryz.t50.zero = some (etV zE) := by kernel_rfl
  simp [zeroValue, hz]
theorem zero_cellsE : (Builtin.zeroCells (Value.agg #[.int .i64 0, .int .i64 0, .string ⟨#[]⟩, .int .i64 0, .int .i64 0, .int .i64 0, .string ⟨#[]⟩]).cells 1).toList = et7 zE := by
  have hz : (Value.agg #[.int .i64 0, .int .i64 0, .string ⟨#[]⟩, .int .i64 0, .int .i64 0, .int .i64 0, .string ⟨#[]⟩]).cells = (et7 zE).toArray := rfl
  rw [hz]
  unfold Builtin.zeroCells
  rw [show (et7 zE).toArray.size = 7 from rfl, Array.toList_map, Array.toList_range, show List.range (1 * 7) = [0, 1, 2, 3, 4, 5, 6] from rfl]
  rfl
theorem et7_one (e : Et) : ∀ u ∈ et7 e, u.oneCell' = true := by
  intro u hu
  simp [et7] at hu
  rcases hu with rfl | rfl | rfl | rfl | rfl | rfl | rfl <;> rfl
theorem run_clearE (w : World) (g o c ty : Nat) (hc : ∀ j, j < 7 → (w.cell? ⟨g, o + j, none⟩).isSome = true) (hf : ∀ j, j < 7 → w.frozen? ⟨g, o + j, none⟩ = false) :
    (Builtin.clear_ #[44] ty #[.slice (some ⟨g, o, none⟩) 1 c]).run Tryz.prog w = .ok (.tuple #[]) (set7 w g o zE) := by
  have hst := run_storeCells_cells (P := Tryz.prog) g o (et7 zE) 0 w (fun j hj => by rw [Nat.add_zero]; exact hc j hj) (fun j hj => by rw [Nat.add_zero]; exact hf j hj) (et7_one zE)
  simp only [Nat.add_zero] at hst
  rw [set7_cells]
  simp [Builtin.clear_, run_underlying Tryz.underlying44, zero_runE, zero_cellsE, hst]
theorem und37 : Tryz.prog.underlying 44 = some (.slice (Tryz.prog.elem 44)) := by simp [Program.elem, Tryz.underlying44]
theorem elm37 : Tryz.prog.elem 44 = 50 := by simp [Program.elem, Tryz.underlying44]
theorem run_uptoE (g o n cap i : Nat) (hc : i ≤ cap) (W : World) : (Instr.slice 44 (.slice (some ⟨g, o, none⟩) n cap) none (some (.int .i64 (i : Int))) none).run Tryz.prog W = .ok (.slice (some ⟨g, o, none⟩) i cap) W := by
  rw [run_slice_h W _ _ _ _ und37 .i64 _ (by omega) (by omega), elm37, Tryz.sizeOf50]
  simp [Result.andThen, sliced, Addr.add]
theorem run_fromE (g o n cap i : Nat) (hi : i ≤ n) (hc : n ≤ cap) (W : World) : (Instr.slice 44 (.slice (some ⟨g, o, none⟩) n cap) (some (.int .i64 (i : Int))) none none).run Tryz.prog W = .ok (.slice (some (if cap = i then (⟨g, o, none⟩ : Addr) else ⟨g, o + i * 7, none⟩)) (n - i) (cap - i)) W := by
  rw [run_slice_l W _ _ _ _ und37 .i64 _ (by omega) (by omega), elm37, Tryz.sizeOf50]
  by_cases e1 : cap = i
  · subst e1
    simp [Result.andThen, sliced, Addr.add]
  · rcases Nat.eq_zero_or_pos i with rfl | hp
    · simp [Result.andThen, sliced, Addr.add]
    · have e2 : ¬ i * 7 = 0 := by omega
      simp [Result.andThen, sliced, Addr.add, e1]
      omega
theorem run_midE (g o n cap l h : Nat) (hl : l ≤ h) (hc : h ≤ cap) (hlt : l < cap) (W : World) : (Instr.slice 44 (.slice (some ⟨g, o, none⟩) n cap) (some (.int .i64 (l : Int))) (some (.int .i64 (h : Int))) none).run Tryz.prog W = .ok (.slice (some ⟨g, o + l * 7, none⟩) (h - l) (cap - l)) W := by
  rw [run_slice_lh W _ _ _ _ und37 .i64 .i64 _ _ (by omega) (by omega) (by omega), elm37, Tryz.sizeOf50]
  have e1 : ¬ cap = l := by omega
  rcases Nat.eq_zero_or_pos l with rfl | hp
  · simp [Result.andThen, sliced, Addr.add]
  · have e2 : ¬ l * 7 = 0 := by omega
    simp [Result.andThen, sliced, Addr.add, e1]
    omega
theorem run_mid3E (g o n cap l h : Nat) (hl : l ≤ h) (hn : h ≤ n) (hc : n ≤ cap) : ∃ v, ∀ W : World, (Instr.slice 44 (.slice (some ⟨g, o, none⟩) n cap) (some (.int .i64 (l : Int))) (some (.int .i64 (h : Int))) (some (.int .i64 (n : Int)))).run Tryz.prog W = .ok v W := by
  refine ⟨sliced (some ⟨g, o, none⟩) l h n 7, fun W => ?_⟩
  rw [run_slice_lhm W _ _ _ _ und37 .i64 .i64 .i64 _ _ _ (by omega) (by omega) (by omega) (by omega), elm37, Tryz.sizeOf50]
  simp [Result.andThen]
end Go.Proofs.YtelboefeomnjaaaGreat

/-
  Proofs: slices.Delete of one entry: its walk. (The verifier's own text.)
-/
namespace Go.Proofs.YtelboefeomnjaaaGreat
set_option linter.unusedVariables false
set_option linter.unusedSimpArgs false
open Go.RowKit Go.Shelf Go.Proofs.YtelboefeomnjaaaGreat.Nm Go.Proofs.YtelboefeomnjaaaGreat.Zs

theorem row_oneE : ∀ (L : List Et), ∀ u ∈ rowV et7 L, u.oneCell' = true := rowV_one et7_one
/-- what stands behind goes one place down -/
theorem moveE {w : World} {g i m : Nat} {A X Z : List Et} (h : Eb w g (A ++ X ++ Z)) (hn : X.length = i + 1 + m) : Eb (w.setCells g (A.length * 7 + i * 7) (rowV et7 (X.drop (i + 1)))) g (A ++ (X.take i ++ X.drop (i + 1) ++ [X[i + m]'(by omega)]) ++ Z) := by
  have hl : (rowV et7 (A ++ X.take i)).length = A.length * 7 + i * 7 := by rw [rowV_len et7_len, List.length_append, List.length_take, Nat.add_mul]; congr 2; omega
  have hd : (X.drop i).take m ++ [X[i + m]'(by omega)] = X.drop i := by
    have h1 : m < (X.drop i).length := by rw [List.length_drop]; omega
    have := List.take_succ_eq_append_getElem h1
    rw [List.getElem_drop] at this
    rw [← this, List.take_of_length_le (by rw [List.length_drop]; omega)]
  have e1 : rowV et7 (A ++ X ++ Z) = rowV et7 (A ++ X.take i) ++ rowV et7 ((X.drop i).take m) ++ rowV et7 ([X[i + m]'(by omega)] ++ Z) := by
    rw [← rowV_app, ← rowV_app]
    congr 1
    conv => lhs; rw [← List.take_append_drop i X, ← hd]
    simp
  have e2 : rowV et7 (A ++ (X.take i ++ X.drop (i + 1) ++ [X[i + m]'(by omega)]) ++ Z) = rowV et7 (A ++ X.take i) ++ rowV et7 (X.drop (i + 1)) ++ rowV et7 ([X[i + m]'(by omega)] ++ Z) := by
    rw [← rowV_app, ← rowV_app]
    congr 1
    simp
  unfold Eb at h ⊢
  rw [e1] at h
  rw [e2, ← hl]
  exact bx_setCells (rowV et7 (X.drop (i + 1))) (rowV et7 (A ++ X.take i)) (rowV et7 ((X.drop i).take m)) (rowV et7 ([X[i + m]'(by omega)] ++ Z)) (by rw [rowV_len et7_len, rowV_len et7_len, List.length_take, List.length_drop, List.length_drop]; congr 1; omega) w h
theorem Eb.drew {w : World} {g : Nat} {B : List Et} (h : Eb w g B) : Eb w.drew g B := h
theorem Eb.part {w : World} {g : Nat} {A X Z : List Et} (h : Eb w g (A ++ X ++ Z)) : EsAt w g (A.length * 7) X := by
  refine ⟨h.lt, fun k hk => ?_⟩
  have := h.cells (k := A.length + k) (by rw [List.length_append, List.length_append]; omega)
  rw [Nat.add_mul] at this
  have e : (A ++ X ++ Z)[A.length + k]'(by rw [List.length_append, List.length_append]; omega) = X[k] := by
    rw [List.getElem_append_left (by rw [List.length_append]; omega), List.getElem_append_right (by omega)]
    congr 1
    omega
  rw [e] at this
  exact this
theorem Eb.some {w : World} {g : Nat} {B : List Et} (h : Eb w g B) {j : Nat} (hj : j < B.length * 7) : (w.cell? ⟨g, j, none⟩).isSome = true := by
  have hl : (rowV et7 B).length = B.length * 7 := rowV_len et7_len B
  have := Bx.cell h (j := j) (v := (rowV et7 B)[j]'(by omega)) (by rw [List.getElem?_toArray, List.getElem?_eq_getElem])
  rw [this]
  rfl
set_option maxRecDepth 100000 in
set_option maxHeartbeats 4000000 in
/-- slices.Delete -/
theorem delete_any (g c i : Nat) (A X Z : List Et) (w : World) (h : Eb w g (A ++ X ++ Z)) (hi : i < X.length) (hc : X.length ≤ c) (hm : c ≤ maxLen) (hX : X.length ≤ 1048576) :
    Calls Tryz.prog 25 #[.slice (some ⟨g, A.length * 7, none⟩) X.length c, .int .i64 (i : Int), .int .i64 ((i + 1 : Nat) : Int)] w fun r w' => r = .returned (.slice (some ⟨g, A.length * 7, none⟩) (X.length - 1) c) ∧ Eb w' g (A ++ (X.eraseIdx i ++ [zE]) ++ Z) ∧ w.grownBy w' (some g) := by
  obtain ⟨i0, hi0, hz0, hz1, hz2⟩ := info_parts infoE
  obtain ⟨m, hn⟩ : ∃ m, X.length = i + 1 + m := ⟨X.length - (i + 1), by omega⟩
  have hlen : (rowV et7 (X.drop (i + 1))).length = m * 7 := by rw [rowV_len et7_len, List.length_drop]; congr 1; omega
  have hpart := h.part
  obtain ⟨Ad, hAd, hsrc⟩ : ∃ Ad : Addr, (if c = i + 1 then (⟨g, A.length * 7, none⟩ : Addr) else ⟨g, A.length * 7 + (i + 1) * 7, none⟩) = Ad ∧ Hid (∀ t u, (rowV et7 (X.drop (i + 1)))[t]? = some u → w.drew.cell? (Ad.add t) = some u) := by
    by_cases hce : c = i + 1
    · refine ⟨⟨g, A.length * 7, none⟩, by rw [if_pos hce], fun t u hu => ?_⟩
      have h0 : (rowV et7 (X.drop (i + 1))).length = 0 := by rw [hlen]; omega
      rw [List.length_eq_zero_iff.1 h0] at hu
      simp at hu
    · refine ⟨⟨g, A.length * 7 + (i + 1) * 7, none⟩, by rw [if_neg hce], fun t u hu => ?_⟩
      have ht : t < m * 7 := by
        have := (List.getElem?_eq_some_iff.1 hu).1
        omega
      have hB := h
      unfold Eb at hB
      have e1 : rowV et7 (A ++ X ++ Z) = rowV et7 (A ++ X.take (i + 1)) ++ (rowV et7 (X.drop (i + 1)) ++ rowV et7 Z) := by
        rw [← rowV_app, ← rowV_app]
        congr 1
        have e0 : X.take (i + 1) ++ (X.drop (i + 1) ++ Z) = X ++ Z := by rw [← List.append_assoc, List.take_append_drop]
        rw [List.append_assoc, List.append_assoc, e0]
      have hl : (rowV et7 (A ++ X.take (i + 1))).length = A.length * 7 + (i + 1) * 7 := by rw [rowV_len et7_len, List.length_append, List.length_take, Nat.add_mul]; congr 2; omega
      rw [e1] at hB
      have ha : (⟨g, A.length * 7 + (i + 1) * 7, none⟩ : Addr).add t = ⟨g, A.length * 7 + (i + 1) * 7 + t, none⟩ := Addr.add_lit ..
      rw [ha]
      refine Bx.cell (show Bx w.drew g _ _ from hB) ?_
      rw [List.getElem?_toArray, List.getElem?_append_right (by omega), hl, Nat.add_sub_cancel_left, List.getElem?_append_left (by omega)]
      exact hu
  obtain ⟨v1, hv1⟩ := run_mid3E g (A.length * 7) X.length c i (i + 1) (by omega) (by omega) hc
  have hup := run_uptoE g (A.length * 7) X.length c i (by omega)
  have hfr := run_fromE g (A.length * 7) X.length c (i + 1) (by omega) hc
  rw [hAd] at hfr
  have hnm : X.length - (i + 1) = m := by omega
  rw [hnm] at hfr
  have hmi := run_midE g (A.length * 7) (i + m) c (i + m) X.length (by omega) (by omega) (by omega)
  have hn1 : X.length - (i + m) = 1 := by omega
  rw [hn1] at hmi
  have s1 := hide' hlen
  have s2 := hide' (row_oneE (X.drop (i + 1)))
  have hsz : (A ++ X ++ Z).length = A.length + X.length + Z.length := by simp; omega
  have s3 : Hid (∀ t, t < (rowV et7 (X.drop (i + 1))).length → (w.drew.cell? ⟨g, A.length * 7 + i * 7 + t, none⟩).isSome = true ∧ w.drew.frozen? ⟨g, A.length * 7 + i * 7 + t, none⟩ = false) := fun t ht => by
    rw [hlen] at ht
    exact ⟨(h.drew).some (by rw [hsz]; omega), h.free _⟩
  have hE1 := moveE (h.drew) hn
  have hg1 := grown_setCells g (rowV et7 (X.drop (i + 1))) (A.length * 7 + i * 7) w.drew
  obtain ⟨W1, hW1⟩ : ∃ W1, W1 = w.drew.setCells g (A.length * 7 + i * 7) (rowV et7 (X.drop (i + 1))) := ⟨_, rfl⟩
  rw [← hW1] at hE1 hg1
  have hsz1 : (A ++ (X.take i ++ X.drop (i + 1) ++ [X[i + m]'(by omega)]) ++ Z).length = A.length + X.length + Z.length := by simp; omega
  have hcl : ∀ ty, (Builtin.clear_ #[44] ty #[.slice (some ⟨g, A.length * 7 + (i + m) * 7, none⟩) 1 (c - (i + m))]).run Tryz.prog W1 = .ok (.tuple #[]) (set7 W1 g (A.length * 7 + (i + m) * 7) zE) := fun ty =>
    run_clearE W1 g (A.length * 7 + (i + m) * 7) (c - (i + m)) ty (fun j hj => hE1.some (by rw [hsz1]; omega)) (fun j hj => hE1.free _)
  have hE2 := hE1.put (j := A.length + (i + m)) (by rw [hsz1]; omega) zE
  rw [Nat.add_mul] at hE2
  have hg2 := grown_set7 W1 g (A.length * 7 + (i + m) * 7) zE
  have hset : (A ++ (X.take i ++ X.drop (i + 1) ++ [X[i + m]'(by omega)]) ++ Z).set (A.length + (i + m)) zE = A ++ (X.eraseIdx i ++ [zE]) ++ Z := by
    have hll : (X.take i ++ X.drop (i + 1)).length = i + m := by simp; omega
    rw [List.eraseIdx_eq_take_drop_succ]
    generalize X.take i ++ X.drop (i + 1) = P at hll
    generalize X[i + m]'(by omega) = y
    have e0 : A ++ (P ++ [y]) ++ Z = A ++ (P ++ (y :: Z)) := by simp
    rw [e0, List.set_append_right _ _ (by omega), Nat.add_sub_cancel_left, List.set_append_right _ _ (by omega), hll, Nat.sub_self]
    simp
  rw [hset] at hE2
  have HE2 := hide' hE2
  have HG : Hid (w.grownBy (set7 W1 g (A.length * 7 + (i + m) * 7) zE) (some g)) := grown_trans (grown_drewN w 1 (some g)) (grown_trans hg1 hg2)
  have hW : Hid (W1 = w.drew.setCells g (A.length * 7 + i * 7) (rowV et7 (X.drop (i + 1)))) := hW1
  have HN := hide' hn
  have hic : i ≤ c := by omega
  have hjc : i + 1 ≤ c := by omega
  obtain ⟨o, ho⟩ : ∃ o, A.length * 7 = o := ⟨_, rfl⟩
  rw [ho] at hv1 hup hfr hmi hcl s3 HE2 HG hW ⊢
  obtain ⟨n, hnX⟩ : ∃ n, X.length = n := ⟨_, rfl⟩
  rw [hnX] at hv1 hup hfr hmi hi hc HN hX hn hn1 hnm ⊢
  obtain ⟨news, hnews⟩ : ∃ news, rowV et7 (X.drop (i + 1)) = news := ⟨_, rfl⟩
  rw [hnews] at s1 s2 s3 hsrc hW
  have hA : (if c = i + 1 then some (⟨g, o, none⟩ : Addr) else some ⟨g, o + (i + 1) * 7, none⟩) = some Ad := by
    rw [← hAd, ← ho]
    split <;> rfl
  have p1 : (0 : Int) ≤ (i : Int) + 1 := by omega
  have p2 : (i : Int) + 1 ≤ (n : Int) := by omega
  have p3 : (i : Int) + 1 ≤ (c : Int) := by omega
  have p4 : (0 : Int) ≤ (i : Int) + (m : Int) := by omega
  have p5 : (i : Int) + (m : Int) ≤ (n : Int) := by omega
  have p6 : (n : Int) ≤ (c : Int) := by omega
  have p7 : ¬ c = i + m := by omega
  have p8 : ((i : Int) + (m : Int)).toNat = i + m := by omega
  have p9 : ((i : Int) + 1).toNat = i + 1 := by omega
  have ene : ((i : Int) == ((i + 1 : Nat) : Int)) = false := by rw [beq_eq_false_iff_ne]; omega
  obtain ⟨B', hB'⟩ : ∃ B', A ++ (X.eraseIdx i ++ [zE]) ++ Z = B' := ⟨_, rfl⟩
  obtain ⟨W2, hW2⟩ : ∃ W2, set7 W1 g (o + (i + m) * 7) zE = W2 := ⟨_, rfl⟩
  rw [hB'] at HE2 ⊢
  rw [hW2] at HE2 HG hcl
  have HI0 := hide' hi0
  have HZ1 := hide' hz1
  have HCl := hide' hcl
  clear hE1 hg1 hW1 hE2 hg2 hset hsz hsz1 hpart h hlen hnews hn ho hnX hAd hi0 hz0 hz1 hz2 hcl hB' hW2 hup hfr hmi
  go_enter Tryz.func25, Tryz.ntmps25
  go_wp2_with fail
  go_region_law (refine step_append_room rfl (.tmp 22) (.tmp 25) 44 rfl 50 i0 7 Tryz.underlying44 HI0.out HZ1.out g o i c (by simp [Act.eval, Act.put]) Ad m (c - (i + 1)) news (by simp [Act.eval, Act.put]) s1.out hsrc.out s2.out (by omega) s3.out ?_; rw [← hW.out])
  have hcl := HCl.out
  go_wp2_with fail
  go_ret
  exact ⟨by rw [show n - 1 = i + m by have := HN.out; omega]; rfl, HE2.out, HG.out⟩
end Go.Proofs.YtelboefeomnjaaaGreat
