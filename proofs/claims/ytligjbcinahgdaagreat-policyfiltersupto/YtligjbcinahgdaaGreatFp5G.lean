import Derived.Test.YtligjbcinahgdaaGreatFt1
/-
  policy.isPlain, slices.IndexFunc and slices.DeleteFunc with it. (The verifier's own text.)
-/
namespace Go.Proofs.YtligjbcinahgdaaGreat
set_option linter.unusedVariables false
open Go.RowKit Go.Shelf Go.Maps Go.Proofs.YtligjbcinahgdaaGreat.Nm

theorem rsAt_bel {w w' : World} {p : Option Addr} {l : List Rn} (h : RsAt w p l) (hb : Below w.heap.size w w') : RsAt w' p l := fun k hk => by
  obtain ⟨g, off, hp, hg, h0, h1, h2, h3, h4⟩ := h k hk
  exact ⟨g, off, hp, Nat.lt_of_lt_of_le hg hb.size, (hb.cell (p := ⟨g, off + k * 5, none⟩) hg).trans h0, (hb.cell (p := ⟨g, off + k * 5 + 1, none⟩) hg).trans h1, (hb.cell (p := ⟨g, off + k * 5 + 2, none⟩) hg).trans h2, (hb.cell (p := ⟨g, off + k * 5 + 3, none⟩) hg).trans h3, (hb.cell (p := ⟨g, off + k * 5 + 4, none⟩) hg).trans h4⟩
def plR (r : Rn) : Bool := r.t != 41
set_option maxRecDepth 100000 in
set_option maxHeartbeats 1000000 in
/-- policy.isPlain -/
theorem isPlain_any (o d : ByteArray) (t c l : Int) (w : World) :
    Calls Tryz.prog 48 #[.agg #[.string o, .int .i64 t, .int .i64 c, .int .i64 l, .string d]] w fun r w' => r = .returned (.bool (t != 41)) ∧ Below w.heap.size w w' := by
  go_enter Tryz.func48, Tryz.ntmps48
  go_wp2_with fail
  go_ret
  exact ⟨rfl, (Below.refl _ w).alloc (Nat.le_refl _) _⟩

theorem rsAt_block {w : World} {g : Nat} {A B : List Rn} {rest : List Value} (h : Rb w g (A ++ B) rest) : RsAt w (some ⟨g, A.length * 5, none⟩) B := fun k hk => by
  obtain ⟨h0, h1, h2, h3, h4⟩ := h.cells (j := A.length + k) (by rw [List.length_append]; omega)
  have e : (A ++ B)[A.length + k]'(by rw [List.length_append]; omega) = B[k] := by
    rw [List.getElem_append_right (by omega)]; congr 1; omega
  rw [e] at h0 h1 h2 h3 h4
  have e5 : (A.length + k) * 5 = A.length * 5 + k * 5 := by omega
  rw [e5] at h0 h1 h2 h3 h4
  exact ⟨g, A.length * 5, rfl, h.lt, h0, h1, h2, h3, h4⟩

set_option maxRecDepth 100000 in
set_option maxHeartbeats 1000000 in
/-- slices.IndexFunc with isPlain -/
theorem indexPlain_any (L : List Rn) (p : Option Addr) (cap : Nat) (w : World) (hL : L.length ≤ 4294967296) (hat : RsAt w p L) :
    Calls Tryz.prog 58 #[.slice p L.length cap, .func (Fn.func 48) #[] #[]] w fun r w' => ((r = .returned (.int .i64 (-1)) ∧ ∀ x ∈ L, plR x = false) ∨ ∃ i : Nat, ∃ hi : i < L.length, r = .returned (.int .i64 (i : Int)) ∧ plR L[i] = true ∧ ∀ x ∈ L.take i, plR x = false) ∧ Below w.heap.size w w' := by
  have HA := hide' hat
  clear hat
  go_enter Tryz.func58, Tryz.ntmps58
  go_wp2_with fail
  go_loopw [8] (fun i wr => ∃ k : Nat, i = .int .i64 (k : Int) ∧ k ≤ L.length ∧ Hid (∀ x ∈ L.take k, plR x = false) ∧ Below w.heap.size w wr) (fun i _ => L.length - (intOf i).toNat)
  case atStart => exact ⟨0, rfl, Nat.zero_le _, (fun x h => by simp at h), Below.refl _ _⟩
  case round =>
    obtain ⟨k, rfl, hk, HN, hBr⟩ := hrel
    have HBr := hide' hBr
    by_cases hlt : k < L.length
    · obtain ⟨g, off, rfl, hg, e0, e1, e2, e3, e4⟩ := rsAt_bel HA.out hBr k hlt
      have HTk : Hid (L.take (k + 1) = L.take k ++ [L[k]]) := List.take_succ_eq_append_getElem hlt
      obtain ⟨x, hx⟩ : ∃ x, L[k] = x := ⟨_, rfl⟩
      have HX := hide' hx
      rw [hx] at e0 e1 e2 e3 e4 HTk
      clear hx hBr
      obtain ⟨xo, xt, xc, xl, xd⟩ := x
      simp only at e0 e1 e2 e3 e4
      cases hp : (xt != 41) with
      | true =>
        have HP := hide' hp
        go_wp2_with (go_at_call 48; refine (isPlain_any xo xd xt xc xl _).mono ?_; rintro r w2 ⟨rfl, hB2⟩; rw [hp])
        go_ret
        refine ⟨.inr ⟨k, hlt, rfl, ?_, HN.out⟩, bstep HBr.out hB2 HBr.out.size⟩
        rw [HX.out]; exact HP.out
      | false =>
        have HP := hide' hp
        go_wp2_with (go_at_call 48; refine (isPlain_any xo xd xt xc xl _).mono ?_; rintro r w2 ⟨rfl, hB2⟩; rw [hp])
        go_roundw
        case rel =>
          refine ⟨k + 1, by go_num, by omega, ?_, bstep HBr.out hB2 HBr.out.size⟩
          intro y hy
          rw [HTk.out] at hy
          rcases List.mem_append.1 hy with h | h
          · exact HN.out y h
          · rw [List.mem_singleton.1 h]; exact HP.out
        case measure => simp [intOf]; omega
    · have hkk : k = L.length := by omega
      have HKK := hide' hkk
      clear hkk
      go_wp2_with fail
      go_ret
      refine ⟨.inl ⟨rfl, ?_⟩, HBr.out⟩
      intro x hx
      have := HN.out x
      rw [HKK.out, List.take_length] at this
      exact this hx
end Go.Proofs.YtligjbcinahgdaaGreat

namespace Go.Proofs.YtligjbcinahgdaaGreat
set_option linter.unusedVariables false
open Go.RowKit Go.Shelf Go.Maps Go.Proofs.YtligjbcinahgdaaGreat.Nm

/-- what may not be left out -/
def kp (B : List Rn) : List Rn := B.filter fun r => !plR r
theorem kp_le (B : List Rn) : (kp B).length ≤ B.length := List.length_filter_le _ _
theorem kp_all {B : List Rn} (h : ∀ x ∈ B, plR x = false) : kp B = B := List.filter_eq_self.2 fun x hx => by rw [h x hx]; rfl
theorem kp_app (A B : List Rn) : kp (A ++ B) = kp A ++ kp B := List.filter_append ..
theorem run_from (g o len cap i : Nat) (hi : i ≤ len) (hc : len ≤ cap) (hne : i < cap) (W : World) : (Instr.slice 25 (.slice (some ⟨g, o, none⟩) len cap) (some (.int .i64 (i : Int))) none none).run Tryz.prog W = .ok (.slice (some ⟨g, o + i * 5, none⟩) (len - i) (cap - i)) W := by
  have ht' : Tryz.prog.underlying 25 = some (.slice (Tryz.prog.elem 25)) := by simp [Program.elem, Tryz.underlying25]
  have he' : Tryz.prog.elem 25 = 55 := by simp [Program.elem, Tryz.underlying25]
  rw [run_slice_l W _ _ _ _ ht' .i64 _ (by omega) (by omega), he', Tryz.sizeOf55]
  have e1 : ¬ cap = i := by omega
  rcases Nat.eq_zero_or_pos i with rfl | hp
  · simp [Result.andThen, sliced, Addr.add]
  · have e2 : ¬ i * 5 = 0 := by omega
    simp [Result.andThen, sliced, Addr.add, e1]
    omega
theorem run_upto (g o len cap i : Nat) (hc : i ≤ cap) (W : World) : (Instr.slice 25 (.slice (some ⟨g, o, none⟩) len cap) none (some (.int .i64 (i : Int))) none).run Tryz.prog W = .ok (.slice (some ⟨g, o, none⟩) i cap) W := by
  have ht' : Tryz.prog.underlying 25 = some (.slice (Tryz.prog.elem 25)) := by simp [Program.elem, Tryz.underlying25]
  have he' : Tryz.prog.elem 25 = 55 := by simp [Program.elem, Tryz.underlying25]
  rw [run_slice_h W _ _ _ _ ht' .i64 _ (by omega) (by omega), he', Tryz.sizeOf55]
  simp [Result.andThen, sliced, Addr.add]
theorem zero_run (w : World) : (zeroValue 55).run Tryz.prog w = .ok (.agg (ren5 zR).toArray) w := by
  have hz : Tryz.t55.zero = some (.agg (ren5 zR).toArray) := by kernel_rfl
  simp [zeroValue, hz]
/-- where DeleteFunc stands: the first i are kept, from j on nothing has turned -/
structure Dl (w wr : World) (g : Nat) (A B : List Rn) (rest : List Value) (i j : Nat) (F : List Rn) : Prop where
  rb : Rb wr g (A ++ F) rest
  len : F.length = B.length
  took : F.take i = kp (B.take j)
  drop : F.drop j = B.drop j
  gr : w.grownBy wr (some g)
theorem Dl.skip {w wr w2 : World} {g : Nat} {A B : List Rn} {rest : List Value} {i j : Nat} {F : List Rn} (h : Dl w wr g A B rest i j F) (hj : j < B.length) (hp : plR B[j] = true) (hb : Below wr.heap.size wr w2) : Dl w w2 g A B rest i (j + 1) F := by
  refine ⟨h.rb.below hb h.rb.lt, h.len, ?_, ?_, grown_trans h.gr (grown_below hb _)⟩
  · rw [h.took, List.take_succ_eq_append_getElem hj, kp_app]
    have : kp [B[j]] = [] := by simp [kp, hp]
    rw [this, List.append_nil]
  · have := congrArg (List.drop 1) h.drop
    simpa [List.drop_drop, Nat.add_comm] using this
theorem Dl.keep {w wr w2 : World} {g : Nat} {A B : List Rn} {rest : List Value} {i j : Nat} {F : List Rn} (h : Dl w wr g A B rest i j F) (hj : j < B.length) (hi : i < j) (hp : plR B[j] = false) (hb : Below wr.heap.size wr w2) : Dl w (setR w2 g (A.length * 5 + i * 5) B[j]) g A B rest (i + 1) (j + 1) (F.set i B[j]) := by
  have hl := h.len
  have h1 : Rb w2 g (A ++ F) rest := h.rb.below hb h.rb.lt
  have h2 := h1.put (j := A.length + i) (by rw [List.length_append]; omega) B[j]
  have e1 : (A.length + i) * 5 = A.length * 5 + i * 5 := by omega
  have e2 : (A ++ F).set (A.length + i) B[j] = A ++ F.set i B[j] := by rw [List.set_append_right _ _ (by omega), Nat.add_sub_cancel_left]
  rw [e1, e2] at h2
  refine ⟨h2, by simpa using hl, ?_, ?_, ?_⟩
  · rw [List.take_succ_eq_append_getElem (by simp; omega), List.take_set_of_le (Nat.le_refl _), h.took, List.take_succ_eq_append_getElem hj, kp_app]
    have : kp [B[j]] = [B[j]] := by simp [kp, hp]
    rw [this]
    simp
  · rw [List.drop_set_of_lt (by omega)]
    have := congrArg (List.drop 1) h.drop
    simpa [List.drop_drop, Nat.add_comm] using this
  · rw [setR_cells]
    exact grown_trans h.gr (grown_trans (grown_below hb _) (grown_setCells g _ _ w2))

theorem Dl.at {w wr : World} {g : Nat} {A B : List Rn} {rest : List Value} {i j : Nat} {F : List Rn} (h : Dl w wr g A B rest i j F) (hj : j < B.length) : wr.cell? ⟨g, A.length * 5 + j * 5, none⟩ = some (.string B[j].o) ∧ wr.cell? ⟨g, A.length * 5 + j * 5 + 1, none⟩ = some (.int .i64 B[j].t) ∧ wr.cell? ⟨g, A.length * 5 + j * 5 + 2, none⟩ = some (.int .i64 B[j].c) ∧ wr.cell? ⟨g, A.length * 5 + j * 5 + 3, none⟩ = some (.int .i64 B[j].l) ∧ wr.cell? ⟨g, A.length * 5 + j * 5 + 4, none⟩ = some (.string B[j].d) := by
  have hl := h.len
  have hF : F[j] = B[j] := by
    have := congrArg (fun l => l[0]?) h.drop
    simp only [List.getElem?_drop, Nat.add_zero] at this
    rw [List.getElem?_eq_getElem (by omega), List.getElem?_eq_getElem hj] at this
    exact Option.some.inj this
  obtain ⟨g', off, hp, _, h0, h1, h2, h3, h4⟩ := rsAt_block h.rb j (by omega)
  injection hp with hp
  injection hp with e1 e2
  subst e1; subst e2
  rw [hF] at h0 h1 h2 h3 h4
  exact ⟨h0, h1, h2, h3, h4⟩
theorem Rb.five {w : World} {g : Nat} {A F : List Rn} {rest : List Value} (h : Rb w g (A ++ F) rest) {i : Nat} (hi : i < F.length) : ∃ (o d : ByteArray) (t c l : Int), w.cell? ⟨g, A.length * 5 + i * 5, none⟩ = some (.string o) ∧ w.cell? ⟨g, A.length * 5 + i * 5 + 1, none⟩ = some (.int .i64 t) ∧ w.cell? ⟨g, A.length * 5 + i * 5 + 2, none⟩ = some (.int .i64 c) ∧ w.cell? ⟨g, A.length * 5 + i * 5 + 3, none⟩ = some (.int .i64 l) ∧ w.cell? ⟨g, A.length * 5 + i * 5 + 4, none⟩ = some (.string d) ∧ w.frozen? ⟨g, A.length * 5 + i * 5, none⟩ = false ∧ w.frozen? ⟨g, A.length * 5 + i * 5 + 1, none⟩ = false ∧ w.frozen? ⟨g, A.length * 5 + i * 5 + 2, none⟩ = false ∧ w.frozen? ⟨g, A.length * 5 + i * 5 + 3, none⟩ = false ∧ w.frozen? ⟨g, A.length * 5 + i * 5 + 4, none⟩ = false := by
  obtain ⟨g', off, hp, _, h0, h1, h2, h3, h4⟩ := rsAt_block h i hi
  injection hp with hp
  injection hp with e1 e2
  subst e1; subst e2
  exact ⟨_, _, _, _, _, h0, h1, h2, h3, h4, h.free _, h.free _, h.free _, h.free _, h.free _⟩
theorem idx_none {B : List Rn} {r : Ending} (hall : ∀ x ∈ B, plR x = false) (h : (r = .returned (.int .i64 (-1)) ∧ ∀ x ∈ B, plR x = false) ∨ ∃ i : Nat, ∃ hi : i < B.length, r = .returned (.int .i64 (i : Int)) ∧ plR B[i] = true ∧ ∀ x ∈ B.take i, plR x = false) : r = .returned (.int .i64 (-1)) := by
  rcases h with h | ⟨i, hi, _, h2, _⟩
  · exact h.1
  · have := hall _ (List.getElem_mem hi)
    rw [this] at h2; cases h2
theorem idx_some {B : List Rn} {r : Ending} (hall : (B.all fun x => !plR x) = false) (h : (r = .returned (.int .i64 (-1)) ∧ ∀ x ∈ B, plR x = false) ∨ ∃ i : Nat, ∃ hi : i < B.length, r = .returned (.int .i64 (i : Int)) ∧ plR B[i] = true ∧ ∀ x ∈ B.take i, plR x = false) : ∃ i : Nat, ∃ hi : i < B.length, r = .returned (.int .i64 (i : Int)) ∧ plR B[i] = true ∧ ∀ x ∈ B.take i, plR x = false := by
  rcases h with h | h
  · have : (B.all fun x => !plR x) = true := List.all_eq_true.2 fun x hx => by rw [h.2 x hx]; rfl
    rw [this] at hall; cases hall
  · exact h

set_option maxRecDepth 100000 in
set_option maxHeartbeats 4000000 in
/-- slices.DeleteFunc with isPlain -/
theorem deletePlain_any (A B : List Rn) (rest : List Value) (g cap : Nat) (w : World) (h : Rb w g (A ++ B) rest) (hc : B.length ≤ cap) (hB : B.length ≤ 1048576) :
    Calls Tryz.prog 47 #[.slice (some ⟨g, A.length * 5, none⟩) B.length cap, .func (Fn.func 48) #[] #[]] w fun r w' => ∃ F, F.length = B.length ∧ F.take (kp B).length = kp B ∧ r = .returned (.slice (some ⟨g, A.length * 5, none⟩) (kp B).length cap) ∧ Rb w' g (A ++ F) rest ∧ w.grownBy w' (some g) := by
  have HR := hide' h
  have HI := hide' (indexPlain_any B (some ⟨g, A.length * 5, none⟩) cap w (by omega) (rsAt_block h))
  clear h
  obtain ⟨a5, ha5⟩ : ∃ a5, A.length * 5 = a5 := ⟨_, rfl⟩
  have HA5 := hide' ha5
  rw [ha5] at HI
  rw [ha5]
  clear ha5
  rcases hidx : (B.all fun x => !plR x) with _ | _
  · -- something goes
    have HS := hide' hidx
    clear hidx
    have HW := hide' (fun (W : World) (i : Nat) (h1 : i ≤ B.length) (h2 : i < cap) => run_from g a5 B.length cap i h1 hc h2 W)
    have HV := hide' (fun (W : World) (i : Nat) (h1 : i ≤ cap) => run_upto g a5 B.length cap i h1 W)
    go_enter Tryz.func47, Tryz.ntmps47
    go_wp2_with (go_at_call 58; refine HI.out.mono ?_; rintro r w1 ⟨hr, hB1⟩; obtain ⟨i0, hi0, rfl, hp0, hq0⟩ := (idx_some HS.out hr); have HP0 := hide' hp0; have HQ0 := hide' hq0; have HB1 := hide' hB1; have hne : ((i0 : Int) == -1) = false := (by rw [beq_eq_false_iff_ne]; omega); clear hr hB1 hp0 hq0)
    go_loopw [5, 6] (fun iv jv wr => ∃ (i j : Nat) (F : List Rn), iv = .int .i64 (i : Int) ∧ jv = .int .i64 (j : Int) ∧ i < j ∧ j ≤ B.length ∧ Hid (Dl w wr g A B rest i j F)) (fun _ jv _ => B.length - (intOf jv).toNat)
    case atStart =>
      refine ⟨i0, i0 + 1, B, rfl, by go_num, by omega, by omega, ⟨HR.out.below HB1.out HR.out.lt, rfl, ?_, rfl, grown_below HB1.out _⟩⟩
      rw [List.take_succ_eq_append_getElem hi0, kp_app, kp_all HQ0.out]
      have : kp [B[i0]] = [] := by simp [kp, HP0.out]
      rw [this, List.append_nil]
    case round =>
      obtain ⟨i, j, F, rfl, rfl, hij, hj, HD⟩ := hrel
      by_cases hlt : j < B.length
      · obtain ⟨x0, x1, x2, x3, x4⟩ := HD.out.at hlt
        rw [HA5.out] at x0 x1 x2 x3 x4
        obtain ⟨x, hx⟩ : ∃ x, B[j] = x := ⟨_, rfl⟩
        have HX := hide' hx
        rw [hx] at x0 x1 x2 x3 x4
        clear hx
        obtain ⟨xo, xt, xc, xl, xd⟩ := x
        simp only at x0 x1 x2 x3 x4
        obtain ⟨wa, hwa⟩ : ∃ wa, wr.alloc (.cells #[.string xo, .int .i64 xt, .int .i64 xc, .int .i64 xl, .string xd] 55) = wa := ⟨_, rfl⟩
        have HV0 : Hid (Bx wa wr.heap.size #[.string xo, .int .i64 xt, .int .i64 xc, .int .i64 xl, .string xd] 55) := hwa ▸ World.alloc_heap_new wr _
        have HBa : Hid (Below wr.heap.size wr wa) := hwa ▸ (Below.refl _ wr).alloc (Nat.le_refl _) _
        have v0 : wa.cell? ⟨wr.heap.size, 0, none⟩ = some (.string xo) := HV0.out.cell rfl
        have v1 : wa.cell? ⟨wr.heap.size, 1, none⟩ = some (.int .i64 xt) := HV0.out.cell rfl
        have v2 : wa.cell? ⟨wr.heap.size, 2, none⟩ = some (.int .i64 xc) := HV0.out.cell rfl
        have v3 : wa.cell? ⟨wr.heap.size, 3, none⟩ = some (.int .i64 xl) := HV0.out.cell rfl
        have v4 : wa.cell? ⟨wr.heap.size, 4, none⟩ = some (.string xd) := HV0.out.cell rfl
        cases hp : (xt != 41) with
        | true =>
          have HP := hide' hp
          go_wp2_with (go_at_call 48; refine (isPlain_any xo xd xt xc xl _).mono ?_; rintro r w2 ⟨rfl, hB2⟩; rw [hp])
          have hB3 : Below wr.heap.size wr w2 := bstep HBa.out hB2 HBa.out.size
          refine ⟨⟨i, j + 1, F, rfl, by go_num, by omega, by omega, HD.out.skip hlt (by rw [HX.out]; exact HP.out) hB3⟩, ?_⟩
          simp [intOf]; omega
        | false =>
          have HP := hide' hp
          go_wp2_with (go_at_call 48; refine (isPlain_any xo xd xt xc xl _).mono ?_; rintro r w2 ⟨rfl, hB2⟩; rw [hp]; have HV2 := hide' (HV0.out.below hB2 HV0.out.lt); have HB2 : Hid (Below wr.heap.size wr w2) := bstep HBa.out hB2 HBa.out.size; clear hB2 v0 v1 v2 v3 v4 x0 x1 x2 x3 x4; have z0 : w2.cell? ⟨wr.heap.size, 0, none⟩ = some (.string xo) := HV2.out.cell rfl; have z1 : w2.cell? ⟨wr.heap.size, 1, none⟩ = some (.int .i64 xt) := HV2.out.cell rfl; have z2 : w2.cell? ⟨wr.heap.size, 2, none⟩ = some (.int .i64 xc) := HV2.out.cell rfl; have z3 : w2.cell? ⟨wr.heap.size, 3, none⟩ = some (.int .i64 xl) := HV2.out.cell rfl; have z4 : w2.cell? ⟨wr.heap.size, 4, none⟩ = some (.string xd) := HV2.out.cell rfl; obtain ⟨yo, yd, yt, yc, yl, y0, y1, y2, y3, y4, f0, f1, f2, f3, f4⟩ := Rb.five (i := i) (HD.out.rb.below HB2.out HD.out.rb.lt) (by rw [HD.out.len]; omega); rw [HA5.out] at y0 y1 y2 y3 y4 f0 f1 f2 f3 f4; have hiB : i < B.length := (by omega); obtain ⟨w3, hw3⟩ : ∃ w3, setR w2 g (a5 + i * 5) ⟨xo, xt, xc, xl, xd⟩ = w3 := ⟨_, rfl⟩; have HW3 := hide' hw3; unfold setR at hw3; simp only at hw3)
          have hk := HD.out.keep hlt hij (by rw [HX.out]; exact HP.out) HB2.out
          rw [HA5.out, HX.out, HW3.out] at hk
          refine ⟨⟨i + 1, j + 1, F.set i ⟨xo, xt, xc, xl, xd⟩, by go_num, by go_num, by omega, by omega, hk⟩, ?_⟩
          simp [intOf]; omega
      · have hjj : j = B.length := by omega
        have hl := HD.out.len
        have htk : F.take i = kp B := by rw [HD.out.took, hjj, List.take_length]
        have hil : i = (kp B).length := by
          have := congrArg List.length htk
          rw [List.length_take] at this
          omega
        have hib : i < B.length := by omega
        have hbc : i < cap := by omega
        have hsl := HW.out wr i (by omega) hbc
        have hrb : Rb wr g ((A ++ F.take i) ++ F.drop i) rest := by
          have := HD.out.rb
          rw [List.append_assoc, List.take_append_drop]; exact this
        have hdl : (F.drop i).length = B.length - i := by rw [List.length_drop, hl]
        have hal : (A ++ F.take i).length * 5 = a5 + i * 5 := by rw [List.length_append, List.length_take, ← HA5.out]; omega
        obtain ⟨w2, hcl, hr2, hg2⟩ := run_clearR wr zero_run g (A ++ F.take i) (F.drop i) rest (cap - i) 0 (by omega) hrb
        rw [hal, hdl] at hcl
        have hup := HV.out w2 i (by omega)
        have HR2 := hide' hr2
        have HG2 := hide' (grown_trans HD.out.gr hg2)
        have HTK := hide' htk
        have HIL := hide' hil
        have HL := hide' hl
        clear hr2 hg2 htk hil hl hjj hrb hdl hal
        go_wp2_with fail
        go_ret
        have hr2 := HR2.out
        rw [List.append_assoc] at hr2
        refine ⟨F.take i ++ List.replicate (F.drop i).length zR, ?_, ?_, ?_, hr2, HG2.out⟩
        · rw [List.length_append, List.length_replicate, ← List.length_append, List.take_append_drop]; exact HL.out
        · rw [HTK.out, List.take_left]
        · rw [← HIL.out]; rfl
  · have hall : ∀ x ∈ B, plR x = false := fun x hx => by
      have := List.all_eq_true.1 hidx x hx
      simpa using this
    have HK := hide' (kp_all hall)
    have HAll := hide' hall
    clear hidx hall
    go_enter Tryz.func47, Tryz.ntmps47
    go_wp2_with (go_at_call 58; refine HI.out.mono ?_; rintro r w1 ⟨hr, hB1⟩; obtain rfl : r = .returned (.int .i64 (-1)) := (idx_none HAll.out hr); have HB1 := hide' hB1; clear hr hB1)
    go_ret
    refine ⟨B, rfl, ?_, ?_, HR.out.below HB1.out HR.out.lt, grown_below HB1.out _⟩
    · rw [HK.out, List.take_length]
    · rw [HK.out]; rfl
end Go.Proofs.YtligjbcinahgdaaGreat
