import Derived.Test.YtjnmbgmdkkiidaaGreatFt1G
import Derived.Test.YtjnmbgmdkkiidaaGreatPk1
import Derived.Test.YtjnmbgmdkkiidaaGreatWu1G
import Derived.Test.YtjnmbgmdkkiidaaGreatPk11G
import Derived.Test.YtjnmbgmdkkiidaaGreatPk14G
/-
  wire.isPlain, wire.lastPlain, slices.IndexFunc and slices.DeleteFunc with it, wire.dropPlain. (The verifier's own text.)
-/
namespace Go.Proofs.YtjnmbgmdkkiidaaGreat
set_option linter.unusedVariables false
open Go.RowKit Go.Shelf Go.Maps Go.Proofs.YtjnmbgmdkkiidaaGreat.Nm

theorem rsAt_bel {w w' : World} {p : Option Addr} {l : List Rn} (h : RsAt w p l) (hb : Below w.heap.size w w') : RsAt w' p l := fun k hk => by
  obtain ⟨g, off, hp, hg, h0, h1, h2, h3, h4⟩ := h k hk
  exact ⟨g, off, hp, Nat.lt_of_lt_of_le hg hb.size, (hb.cell (p := ⟨g, off + k * 5, none⟩) hg).trans h0, (hb.cell (p := ⟨g, off + k * 5 + 1, none⟩) hg).trans h1, (hb.cell (p := ⟨g, off + k * 5 + 2, none⟩) hg).trans h2, (hb.cell (p := ⟨g, off + k * 5 + 3, none⟩) hg).trans h3, (hb.cell (p := ⟨g, off + k * 5 + 4, none⟩) hg).trans h4⟩
def plR (r : Rn) : Bool := r.t != 41
def recV (r : Rn) : Value := .agg #[.string r.o, .int .i64 r.t, .int .i64 r.c, .int .i64 r.l, .string r.d]
set_option maxRecDepth 100000 in
set_option maxHeartbeats 1000000 in
/-- wire.isPlain -/
theorem isPlain_any (o d : ByteArray) (t c l : Int) (w : World) :
    Calls Tryz.prog 53 #[.agg #[.string o, .int .i64 t, .int .i64 c, .int .i64 l, .string d]] w fun r w' => r = .returned (.bool (t != 41)) ∧ Below w.heap.size w w' := by
  go_enter Tryz.func53, Tryz.ntmps53
  go_wp2_with fail
  go_ret
  exact ⟨rfl, (Below.refl _ w).alloc (Nat.le_refl _) _⟩

/-- records in a block, from a place on -/
def RsG (w : World) (g off : Nat) (L : List Rn) : Prop := ∀ k, (hk : k < L.length) → w.cell? ⟨g, off + k * 5, none⟩ = some (.string L[k].o) ∧ w.cell? ⟨g, off + k * 5 + 1, none⟩ = some (.int .i64 L[k].t) ∧ w.cell? ⟨g, off + k * 5 + 2, none⟩ = some (.int .i64 L[k].c) ∧ w.cell? ⟨g, off + k * 5 + 3, none⟩ = some (.int .i64 L[k].l) ∧ w.cell? ⟨g, off + k * 5 + 4, none⟩ = some (.string L[k].d)
theorem rsAt_block {w : World} {g : Nat} {A B : List Rn} {rest : List Value} (h : Rb w g (A ++ B) rest) : RsAt w (some ⟨g, A.length * 5, none⟩) B := fun k hk => by
  obtain ⟨h0, h1, h2, h3, h4⟩ := h.cells (j := A.length + k) (by rw [List.length_append]; omega)
  have e : (A ++ B)[A.length + k]'(by rw [List.length_append]; omega) = B[k] := by
    rw [List.getElem_append_right (by omega)]; congr 1; omega
  rw [e] at h0 h1 h2 h3 h4
  have e5 : (A.length + k) * 5 = A.length * 5 + k * 5 := by omega
  rw [e5] at h0 h1 h2 h3 h4
  exact ⟨g, A.length * 5, rfl, h.lt, h0, h1, h2, h3, h4⟩

set_option maxRecDepth 100000 in
set_option maxHeartbeats 1000000 in
/-- slices.IndexFunc with isPlain -/
theorem indexPlain_any (L : List Rn) (p : Option Addr) (cap : Nat) (w : World) (hL : L.length ≤ 4294967296) (hat : RsAt w p L) :
    Calls Tryz.prog 64 #[.slice p L.length cap, .func (Fn.func 53) #[] #[]] w fun r w' => ((r = .returned (.int .i64 (-1)) ∧ ∀ x ∈ L, plR x = false) ∨ ∃ i : Nat, ∃ hi : i < L.length, r = .returned (.int .i64 (i : Int)) ∧ plR L[i] = true ∧ ∀ x ∈ L.take i, plR x = false) ∧ Below w.heap.size w w' := by
  have HA := hide' hat
  clear hat
  go_enter Tryz.func64, Tryz.ntmps64
  go_wp2_with fail
  go_loopw [8] (fun i wr => ∃ k : Nat, i = .int .i64 (k : Int) ∧ k ≤ L.length ∧ Hid (∀ x ∈ L.take k, plR x = false) ∧ Below w.heap.size w wr) (fun i _ => L.length - (intOf i).toNat)
  case atStart => exact ⟨0, rfl, Nat.zero_le _, (fun x h => by simp at h), Below.refl _ _⟩
  case round =>
    obtain ⟨k, rfl, hk, HN, hBr⟩ := hrel
    have HBr := hide' hBr
    by_cases hlt : k < L.length
    · obtain ⟨g, off, rfl, hg, e0, e1, e2, e3, e4⟩ := rsAt_bel HA.out hBr k hlt
      have HTk : Hid (L.take (k + 1) = L.take k ++ [L[k]]) := List.take_succ_eq_append_getElem hlt
      obtain ⟨x, hx⟩ : ∃ x, L[k] = x := ⟨_, rfl⟩
      have HX := hide' hx
      rw [hx] at e0 e1 e2 e3 e4 HTk
      clear hx hBr
      obtain ⟨xo, xt, xc, xl, xd⟩ := x
      simp only at e0 e1 e2 e3 e4
      cases hp : (xt != 41) with
      | true =>
        have HP := hide' hp
        go_wp2_with (go_at_call 53; refine (isPlain_any xo xd xt xc xl _).mono ?_; rintro r w2 ⟨rfl, hB2⟩; rw [hp])
        go_ret
        refine ⟨.inr ⟨k, hlt, rfl, ?_, HN.out⟩, bstep HBr.out hB2 HBr.out.size⟩
        rw [HX.out]; exact HP.out
      | false =>
        have HP := hide' hp
        go_wp2_with (go_at_call 53; refine (isPlain_any xo xd xt xc xl _).mono ?_; rintro r w2 ⟨rfl, hB2⟩; rw [hp])
        go_roundw
        case rel =>
          refine ⟨k + 1, by go_num, by omega, ?_, bstep HBr.out hB2 HBr.out.size⟩
          intro y hy
          rw [HTk.out] at hy
          rcases List.mem_append.1 hy with h | h
          · exact HN.out y h
          · rw [List.mem_singleton.1 h]; exact HP.out
        case measure => simp [intOf]; omega
    · have hkk : k = L.length := by omega
      have HKK := hide' hkk
      clear hkk
      go_wp2_with fail
      go_ret
      refine ⟨.inl ⟨rfl, ?_⟩, HBr.out⟩
      intro x hx
      have := HN.out x
      rw [HKK.out, List.take_length] at this
      exact this hx
end Go.Proofs.YtjnmbgmdkkiidaaGreat

namespace Go.Proofs.YtjnmbgmdkkiidaaGreat
set_option linter.unusedVariables false
open Go.RowKit Go.Shelf Go.Maps Go.Proofs.YtjnmbgmdkkiidaaGreat.Nm

/-- what may not be left out -/
def kp (B : List Rn) : List Rn := B.filter fun r => !plR r
theorem kp_le (B : List Rn) : (kp B).length ≤ B.length := List.length_filter_le _ _
theorem kp_all {B : List Rn} (h : ∀ x ∈ B, plR x = false) : kp B = B := List.filter_eq_self.2 fun x hx => by rw [h x hx]; rfl
theorem kp_app (A B : List Rn) : kp (A ++ B) = kp A ++ kp B := List.filter_append ..
theorem run_from (g o len cap i : Nat) (hi : i ≤ len) (hc : len ≤ cap) (hne : i < cap) (W : World) : (Instr.slice 23 (.slice (some ⟨g, o, none⟩) len cap) (some (.int .i64 (i : Int))) none none).run Tryz.prog W = .ok (.slice (some ⟨g, o + i * 5, none⟩) (len - i) (cap - i)) W := by
  have ht' : Tryz.prog.underlying 23 = some (.slice (Tryz.prog.elem 23)) := by simp [Program.elem, Tryz.underlying23]
  have he' : Tryz.prog.elem 23 = 59 := by simp [Program.elem, Tryz.underlying23]
  rw [run_slice_l W _ _ _ _ ht' .i64 _ (by omega) (by omega), he', Tryz.sizeOf59]
  have e1 : ¬ cap = i := by omega
  rcases Nat.eq_zero_or_pos i with rfl | hp
  · simp [Result.andThen, sliced, Addr.add]
  · have e2 : ¬ i * 5 = 0 := by omega
    simp [Result.andThen, sliced, Addr.add, e1]
    omega
theorem run_upto (g o len cap i : Nat) (hc : i ≤ cap) (W : World) : (Instr.slice 23 (.slice (some ⟨g, o, none⟩) len cap) none (some (.int .i64 (i : Int))) none).run Tryz.prog W = .ok (.slice (some ⟨g, o, none⟩) i cap) W := by
  have ht' : Tryz.prog.underlying 23 = some (.slice (Tryz.prog.elem 23)) := by simp [Program.elem, Tryz.underlying23]
  have he' : Tryz.prog.elem 23 = 59 := by simp [Program.elem, Tryz.underlying23]
  rw [run_slice_h W _ _ _ _ ht' .i64 _ (by omega) (by omega), he', Tryz.sizeOf59]
  simp [Result.andThen, sliced, Addr.add]
theorem zero_run (w : World) : (zeroValue 59).run Tryz.prog w = .ok (.agg (ren5 zR).toArray) w := by
  have hz : Tryz.t59.zero = some (.agg (ren5 zR).toArray) := by kernel_rfl
  simp [zeroValue, hz]
/-- where DeleteFunc stands: the first i are kept, from j on nothing has turned -/
structure Dl (w wr : World) (g : Nat) (A B : List Rn) (rest : List Value) (i j : Nat) (F : List Rn) : Prop where
  rb : Rb wr g (A ++ F) rest
  len : F.length = B.length
  took : F.take i = kp (B.take j)
  drop : F.drop j = B.drop j
  gr : w.grownBy wr (some g)
theorem Dl.skip {w wr w2 : World} {g : Nat} {A B : List Rn} {rest : List Value} {i j : Nat} {F : List Rn} (h : Dl w wr g A B rest i j F) (hj : j < B.length) (hp : plR B[j] = true) (hb : Below wr.heap.size wr w2) : Dl w w2 g A B rest i (j + 1) F := by
  refine ⟨h.rb.below hb h.rb.lt, h.len, ?_, ?_, grown_trans h.gr (grown_below hb _)⟩
  · rw [h.took, List.take_succ_eq_append_getElem hj, kp_app]
    have : kp [B[j]] = [] := by simp [kp, hp]
    rw [this, List.append_nil]
  · have := congrArg (List.drop 1) h.drop
    simpa [List.drop_drop, Nat.add_comm] using this
theorem Dl.keep {w wr w2 : World} {g : Nat} {A B : List Rn} {rest : List Value} {i j : Nat} {F : List Rn} (h : Dl w wr g A B rest i j F) (hj : j < B.length) (hi : i < j) (hp : plR B[j] = false) (hb : Below wr.heap.size wr w2) : Dl w (setR w2 g (A.length * 5 + i * 5) B[j]) g A B rest (i + 1) (j + 1) (F.set i B[j]) := by
  have hl := h.len
  have h1 : Rb w2 g (A ++ F) rest := h.rb.below hb h.rb.lt
  have h2 := h1.put (j := A.length + i) (by rw [List.length_append]; omega) B[j]
  have e1 : (A.length + i) * 5 = A.length * 5 + i * 5 := by omega
  have e2 : (A ++ F).set (A.length + i) B[j] = A ++ F.set i B[j] := by rw [List.set_append_right _ _ (by omega), Nat.add_sub_cancel_left]
  rw [e1, e2] at h2
  refine ⟨h2, by simpa using hl, ?_, ?_, ?_⟩
  · rw [List.take_succ_eq_append_getElem (by simp; omega), List.take_set_of_le (Nat.le_refl _), h.took, List.take_succ_eq_append_getElem hj, kp_app]
    have : kp [B[j]] = [B[j]] := by simp [kp, hp]
    rw [this]
    simp
  · rw [List.drop_set_of_lt (by omega)]
    have := congrArg (List.drop 1) h.drop
    simpa [List.drop_drop, Nat.add_comm] using this
  · rw [setR_cells]
    exact grown_trans h.gr (grown_trans (grown_below hb _) (grown_setCells g _ _ w2))

theorem Dl.at {w wr : World} {g : Nat} {A B : List Rn} {rest : List Value} {i j : Nat} {F : List Rn} (h : Dl w wr g A B rest i j F) (hj : j < B.length) : wr.cell? ⟨g, A.length * 5 + j * 5, none⟩ = some (.string B[j].o) ∧ wr.cell? ⟨g, A.length * 5 + j * 5 + 1, none⟩ = some (.int .i64 B[j].t) ∧ wr.cell? ⟨g, A.length * 5 + j * 5 + 2, none⟩ = some (.int .i64 B[j].c) ∧ wr.cell? ⟨g, A.length * 5 + j * 5 + 3, none⟩ = some (.int .i64 B[j].l) ∧ wr.cell? ⟨g, A.length * 5 + j * 5 + 4, none⟩ = some (.string B[j].d) := by
  have hl := h.len
  have hF : F[j] = B[j] := by
    have := congrArg (fun l => l[0]?) h.drop
    simp only [List.getElem?_drop, Nat.add_zero] at this
    rw [List.getElem?_eq_getElem (by omega), List.getElem?_eq_getElem hj] at this
    exact Option.some.inj this
  obtain ⟨g', off, hp, _, h0, h1, h2, h3, h4⟩ := rsAt_block h.rb j (by omega)
  injection hp with hp
  injection hp with e1 e2
  subst e1; subst e2
  rw [hF] at h0 h1 h2 h3 h4
  exact ⟨h0, h1, h2, h3, h4⟩
theorem Rb.five {w : World} {g : Nat} {A F : List Rn} {rest : List Value} (h : Rb w g (A ++ F) rest) {i : Nat} (hi : i < F.length) : ∃ (o d : ByteArray) (t c l : Int), w.cell? ⟨g, A.length * 5 + i * 5, none⟩ = some (.string o) ∧ w.cell? ⟨g, A.length * 5 + i * 5 + 1, none⟩ = some (.int .i64 t) ∧ w.cell? ⟨g, A.length * 5 + i * 5 + 2, none⟩ = some (.int .i64 c) ∧ w.cell? ⟨g, A.length * 5 + i * 5 + 3, none⟩ = some (.int .i64 l) ∧ w.cell? ⟨g, A.length * 5 + i * 5 + 4, none⟩ = some (.string d) ∧ w.frozen? ⟨g, A.length * 5 + i * 5, none⟩ = false ∧ w.frozen? ⟨g, A.length * 5 + i * 5 + 1, none⟩ = false ∧ w.frozen? ⟨g, A.length * 5 + i * 5 + 2, none⟩ = false ∧ w.frozen? ⟨g, A.length * 5 + i * 5 + 3, none⟩ = false ∧ w.frozen? ⟨g, A.length * 5 + i * 5 + 4, none⟩ = false := by
  obtain ⟨g', off, hp, _, h0, h1, h2, h3, h4⟩ := rsAt_block h i hi
  injection hp with hp
  injection hp with e1 e2
  subst e1; subst e2
  exact ⟨_, _, _, _, _, h0, h1, h2, h3, h4, h.free _, h.free _, h.free _, h.free _, h.free _⟩
theorem idx_none {B : List Rn} {r : Ending} (hall : ∀ x ∈ B, plR x = false) (h : (r = .returned (.int .i64 (-1)) ∧ ∀ x ∈ B, plR x = false) ∨ ∃ i : Nat, ∃ hi : i < B.length, r = .returned (.int .i64 (i : Int)) ∧ plR B[i] = true ∧ ∀ x ∈ B.take i, plR x = false) : r = .returned (.int .i64 (-1)) := by
  rcases h with h | ⟨i, hi, _, h2, _⟩
  · exact h.1
  · have := hall _ (List.getElem_mem hi)
    rw [this] at h2; cases h2
theorem idx_some {B : List Rn} {r : Ending} (hall : (B.all fun x => !plR x) = false) (h : (r = .returned (.int .i64 (-1)) ∧ ∀ x ∈ B, plR x = false) ∨ ∃ i : Nat, ∃ hi : i < B.length, r = .returned (.int .i64 (i : Int)) ∧ plR B[i] = true ∧ ∀ x ∈ B.take i, plR x = false) : ∃ i : Nat, ∃ hi : i < B.length, r = .returned (.int .i64 (i : Int)) ∧ plR B[i] = true ∧ ∀ x ∈ B.take i, plR x = false := by
  rcases h with h | h
  · have : (B.all fun x => !plR x) = true := List.all_eq_true.2 fun x hx => by rw [h.2 x hx]; rfl
    rw [this] at hall; cases hall
  · exact h

set_option maxRecDepth 100000 in
set_option maxHeartbeats 4000000 in
/-- slices.DeleteFunc with isPlain -/
theorem deletePlain_any (A B : List Rn) (rest : List Value) (g cap : Nat) (w : World) (h : Rb w g (A ++ B) rest) (hc : B.length ≤ cap) (hB : B.length ≤ 65535) :
    Calls Tryz.prog 54 #[.slice (some ⟨g, A.length * 5, none⟩) B.length cap, .func (Fn.func 53) #[] #[]] w fun r w' => ∃ F, F.length = B.length ∧ F.take (kp B).length = kp B ∧ r = .returned (.slice (some ⟨g, A.length * 5, none⟩) (kp B).length cap) ∧ Rb w' g (A ++ F) rest ∧ w.grownBy w' (some g) := by
  have HR := hide' h
  have HI := hide' (indexPlain_any B (some ⟨g, A.length * 5, none⟩) cap w (by omega) (rsAt_block h))
  clear h
  obtain ⟨a5, ha5⟩ : ∃ a5, A.length * 5 = a5 := ⟨_, rfl⟩
  have HA5 := hide' ha5
  rw [ha5] at HI
  rw [ha5]
  clear ha5
  rcases hidx : (B.all fun x => !plR x) with _ | _
  · -- something goes
    have HS := hide' hidx
    clear hidx
    have HW := hide' (fun (W : World) (i : Nat) (h1 : i ≤ B.length) (h2 : i < cap) => run_from g a5 B.length cap i h1 hc h2 W)
    have HV := hide' (fun (W : World) (i : Nat) (h1 : i ≤ cap) => run_upto g a5 B.length cap i h1 W)
    go_enter Tryz.func54, Tryz.ntmps54
    go_wp2_with (go_at_call 64; refine HI.out.mono ?_; rintro r w1 ⟨hr, hB1⟩; obtain ⟨i0, hi0, rfl, hp0, hq0⟩ := (idx_some HS.out hr); have HP0 := hide' hp0; have HQ0 := hide' hq0; have HB1 := hide' hB1; have hne : ((i0 : Int) == -1) = false := (by rw [beq_eq_false_iff_ne]; omega); clear hr hB1 hp0 hq0)
    go_loopw [5, 6] (fun iv jv wr => ∃ (i j : Nat) (F : List Rn), iv = .int .i64 (i : Int) ∧ jv = .int .i64 (j : Int) ∧ i < j ∧ j ≤ B.length ∧ Hid (Dl w wr g A B rest i j F)) (fun _ jv _ => B.length - (intOf jv).toNat)
    case atStart =>
      refine ⟨i0, i0 + 1, B, rfl, by go_num, by omega, by omega, ⟨HR.out.below HB1.out HR.out.lt, rfl, ?_, rfl, grown_below HB1.out _⟩⟩
      rw [List.take_succ_eq_append_getElem hi0, kp_app, kp_all HQ0.out]
      have : kp [B[i0]] = [] := by simp [kp, HP0.out]
      rw [this, List.append_nil]
    case round =>
      obtain ⟨i, j, F, rfl, rfl, hij, hj, HD⟩ := hrel
      by_cases hlt : j < B.length
      · obtain ⟨x0, x1, x2, x3, x4⟩ := HD.out.at hlt
        rw [HA5.out] at x0 x1 x2 x3 x4
        obtain ⟨x, hx⟩ : ∃ x, B[j] = x := ⟨_, rfl⟩
        have HX := hide' hx
        rw [hx] at x0 x1 x2 x3 x4
        clear hx
        obtain ⟨xo, xt, xc, xl, xd⟩ := x
        simp only at x0 x1 x2 x3 x4
        obtain ⟨wa, hwa⟩ : ∃ wa, wr.alloc (.cells #[.string xo, .int .i64 xt, .int .i64 xc, .int .i64 xl, .string xd] 59) = wa := ⟨_, rfl⟩
        have HV0 : Hid (Bx wa wr.heap.size #[.string xo, .int .i64 xt, .int .i64 xc, .int .i64 xl, .string xd] 59) := hwa ▸ World.alloc_heap_new wr _
        have HBa : Hid (Below wr.heap.size wr wa) := hwa ▸ (Below.refl _ wr).alloc (Nat.le_refl _) _
        have v0 : wa.cell? ⟨wr.heap.size, 0, none⟩ = some (.string xo) := HV0.out.cell rfl
        have v1 : wa.cell? ⟨wr.heap.size, 1, none⟩ = some (.int .i64 xt) := HV0.out.cell rfl
        have v2 : wa.cell? ⟨wr.heap.size, 2, none⟩ = some (.int .i64 xc) := HV0.out.cell rfl
        have v3 : wa.cell? ⟨wr.heap.size, 3, none⟩ = some (.int .i64 xl) := HV0.out.cell rfl
        have v4 : wa.cell? ⟨wr.heap.size, 4, none⟩ = some (.string xd) := HV0.out.cell rfl
        cases hp : (xt != 41) with
        | true =>
          have HP := hide' hp
          go_wp2_with (go_at_call 53; refine (isPlain_any xo xd xt xc xl _).mono ?_; rintro r w2 ⟨rfl, hB2⟩; rw [hp])
          have hB3 : Below wr.heap.size wr w2 := bstep HBa.out hB2 HBa.out.size
          refine ⟨⟨i, j + 1, F, rfl, by go_num, by omega, by omega, HD.out.skip hlt (by rw [HX.out]; exact HP.out) hB3⟩, ?_⟩
          simp [intOf]; omega
        | false =>
          have HP := hide' hp
          go_wp2_with (go_at_call 53; refine (isPlain_any xo xd xt xc xl _).mono ?_; rintro r w2 ⟨rfl, hB2⟩; rw [hp]; have HV2 := hide' (HV0.out.below hB2 HV0.out.lt); have HB2 : Hid (Below wr.heap.size wr w2) := bstep HBa.out hB2 HBa.out.size; clear hB2 v0 v1 v2 v3 v4 x0 x1 x2 x3 x4; have z0 : w2.cell? ⟨wr.heap.size, 0, none⟩ = some (.string xo) := HV2.out.cell rfl; have z1 : w2.cell? ⟨wr.heap.size, 1, none⟩ = some (.int .i64 xt) := HV2.out.cell rfl; have z2 : w2.cell? ⟨wr.heap.size, 2, none⟩ = some (.int .i64 xc) := HV2.out.cell rfl; have z3 : w2.cell? ⟨wr.heap.size, 3, none⟩ = some (.int .i64 xl) := HV2.out.cell rfl; have z4 : w2.cell? ⟨wr.heap.size, 4, none⟩ = some (.string xd) := HV2.out.cell rfl; obtain ⟨yo, yd, yt, yc, yl, y0, y1, y2, y3, y4, f0, f1, f2, f3, f4⟩ := Rb.five (i := i) (HD.out.rb.below HB2.out HD.out.rb.lt) (by rw [HD.out.len]; omega); rw [HA5.out] at y0 y1 y2 y3 y4 f0 f1 f2 f3 f4; have hiB : i < B.length := (by omega); obtain ⟨w3, hw3⟩ : ∃ w3, setR w2 g (a5 + i * 5) ⟨xo, xt, xc, xl, xd⟩ = w3 := ⟨_, rfl⟩; have HW3 := hide' hw3; unfold setR at hw3; simp only at hw3)
          have hk := HD.out.keep hlt hij (by rw [HX.out]; exact HP.out) HB2.out
          rw [HA5.out, HX.out, HW3.out] at hk
          refine ⟨⟨i + 1, j + 1, F.set i ⟨xo, xt, xc, xl, xd⟩, by go_num, by go_num, by omega, by omega, hk⟩, ?_⟩
          simp [intOf]; omega
      · have hjj : j = B.length := by omega
        have hl := HD.out.len
        have htk : F.take i = kp B := by rw [HD.out.took, hjj, List.take_length]
        have hil : i = (kp B).length := by
          have := congrArg List.length htk
          rw [List.length_take] at this
          omega
        have hib : i < B.length := by omega
        have hbc : i < cap := by omega
        have hsl := HW.out wr i (by omega) hbc
        have hrb : Rb wr g ((A ++ F.take i) ++ F.drop i) rest := by
          have := HD.out.rb
          rw [List.append_assoc, List.take_append_drop]; exact this
        have hdl : (F.drop i).length = B.length - i := by rw [List.length_drop, hl]
        have hal : (A ++ F.take i).length * 5 = a5 + i * 5 := by rw [List.length_append, List.length_take, ← HA5.out]; omega
        obtain ⟨w2, hcl, hr2, hg2⟩ := run_clearR wr zero_run g (A ++ F.take i) (F.drop i) rest (cap - i) 0 (by omega) hrb
        rw [hal, hdl] at hcl
        have hup := HV.out w2 i (by omega)
        have HR2 := hide' hr2
        have HG2 := hide' (grown_trans HD.out.gr hg2)
        have HTK := hide' htk
        have HIL := hide' hil
        have HL := hide' hl
        clear hr2 hg2 htk hil hl hjj hrb hdl hal
        go_wp2_with fail
        go_ret
        have hr2 := HR2.out
        rw [List.append_assoc] at hr2
        refine ⟨F.take i ++ List.replicate (F.drop i).length zR, ?_, ?_, ?_, hr2, HG2.out⟩
        · rw [List.length_append, List.length_replicate, ← List.length_append, List.take_append_drop]; exact HL.out
        · rw [HTK.out, List.take_left]
        · rw [← HIL.out]; rfl
  · have hall : ∀ x ∈ B, plR x = false := fun x hx => by
      have := List.all_eq_true.1 hidx x hx
      simpa using this
    have HK := hide' (kp_all hall)
    have HAll := hide' hall
    clear hidx hall
    go_enter Tryz.func54, Tryz.ntmps54
    go_wp2_with (go_at_call 64; refine HI.out.mono ?_; rintro r w1 ⟨hr, hB1⟩; obtain rfl : r = .returned (.int .i64 (-1)) := (idx_none HAll.out hr); have HB1 := hide' hB1; clear hr hB1)
    go_ret
    refine ⟨B, rfl, ?_, ?_, HR.out.below HB1.out HR.out.lt, grown_below HB1.out _⟩
    · rw [HK.out, List.take_length]
    · rw [HK.out]; rfl
end Go.Proofs.YtjnmbgmdkkiidaaGreat

/-
  wire.lastPlain, wire.dropPlain. (The verifier's own text.)
-/
namespace Go.Proofs.YtjnmbgmdkkiidaaGreat
set_option linter.unusedVariables false
open Go.RowKit Go.Shelf Go.Maps Go.Proofs.YtjnmbgmdkkiidaaGreat.Nm

set_option maxRecDepth 100000 in
set_option maxHeartbeats 1000000 in
/-- wire.lastPlain -/
theorem lastPlain_any (L : List Rn) (p : Option Addr) (cap : Nat) (w : World) (hL : L.length ≤ 65535) (hat : RsAt w p L) :
    Calls Tryz.prog 34 #[.slice p L.length cap] w fun r w' => ((r = .returned (.int .i64 (-1)) ∧ ∀ x ∈ L, plR x = false) ∨ ∃ i : Nat, ∃ hi : i < L.length, r = .returned (.int .i64 (i : Int)) ∧ plR L[i] = true) ∧ Below w.heap.size w w' := by
  have HA := hide' hat
  clear hat
  go_enter Tryz.func34, Tryz.ntmps34
  go_wp2_with fail
  go_loopw [3] (fun i wr => ∃ k : Nat, i = .int .i64 ((k : Int) - 1) ∧ k ≤ L.length ∧ Hid (∀ x ∈ L.drop k, plR x = false) ∧ Below w.heap.size w wr) (fun i _ => (intOf i + 1).toNat)
  case atStart => exact ⟨L.length, by first | rfl | go_num, Nat.le_refl _, (fun x h => by simp at h), Below.refl _ _⟩
  case round =>
    obtain ⟨k, rfl, hk, HN, hBr⟩ := hrel
    have HBr := hide' hBr
    cases k with
    | zero =>
      clear hBr
      rw [show (((0 : Nat) : Int) - 1) = -1 by omega]
      go_wp2_with fail
      go_ret
      exact ⟨.inl ⟨rfl, HN.out⟩, HBr.out⟩
    | succ k =>
      rw [show (((k + 1 : Nat) : Int) - 1) = (k : Int) by omega]
      have hlt : k < L.length := by omega
      obtain ⟨g, off, rfl, hg, e0, e1, e2, e3, e4⟩ := rsAt_bel HA.out hBr k hlt
      obtain ⟨x, hx⟩ : ∃ x, L[k] = x := ⟨_, rfl⟩
      have HX := hide' hx
      rw [hx] at e0 e1 e2 e3 e4
      clear hx hBr
      obtain ⟨xo, xt, xc, xl, xd⟩ := x
      simp only at e0 e1 e2 e3 e4
      have hk0 : (0 : Int) ≤ (k : Int) := by omega
      cases hp : (xt != 41) with
      | true =>
        have HP := hide' hp
        go_wp2_with (go_at_call 53; refine (isPlain_any xo xd xt xc xl _).mono ?_; rintro r w2 ⟨rfl, hB2⟩; rw [hp])
        go_ret
        refine ⟨.inr ⟨k, hlt, rfl, ?_⟩, bstep HBr.out hB2 HBr.out.size⟩
        rw [HX.out]; exact HP.out
      | false =>
        have HP := hide' hp
        go_wp2_with (go_at_call 53; refine (isPlain_any xo xd xt xc xl _).mono ?_; rintro r w2 ⟨rfl, hB2⟩; rw [hp])
        refine ⟨⟨k, by go_num, by omega, ?_, bstep HBr.out hB2 HBr.out.size⟩, ?_⟩
        · intro y hy
          rw [List.drop_eq_getElem_cons hlt] at hy
          rcases List.mem_cons.1 hy with h | h
          · rw [h, HX.out]; exact HP.out
          · exact HN.out y h
        · simp [intOf]

theorem last_none {L : List Rn} {r : Ending} (hall : ∀ x ∈ L, plR x = false) (h : (r = .returned (.int .i64 (-1)) ∧ ∀ x ∈ L, plR x = false) ∨ ∃ i : Nat, ∃ hi : i < L.length, r = .returned (.int .i64 (i : Int)) ∧ plR L[i] = true) : r = .returned (.int .i64 (-1)) := by
  rcases h with h | ⟨i, hi, _, h2⟩
  · exact h.1
  · have := hall _ (List.getElem_mem hi)
    rw [this] at h2; cases h2
theorem last_some {L : List Rn} {r : Ending} (hall : ¬ ∀ x ∈ L, plR x = false) (h : (r = .returned (.int .i64 (-1)) ∧ ∀ x ∈ L, plR x = false) ∨ ∃ i : Nat, ∃ hi : i < L.length, r = .returned (.int .i64 (i : Int)) ∧ plR L[i] = true) : ∃ i : Nat, ∃ hi : i < L.length, r = .returned (.int .i64 (i : Int)) ∧ plR L[i] = true := by
  rcases h with h | h
  · exact absurd h.2 hall
  · exact h

/-- additional records, in a block that may be written, or none -/
def DR (w : World) (p : Option Addr) (cap g : Nat) (L : List Rn) : Prop := L.length ≤ cap ∧ ((∃ rest, p = some ⟨g, 0, none⟩ ∧ 0 < cap ∧ Rb w g L rest) ∨ (L = [] ∧ cap = 0))
theorem DR.at {w : World} {p : Option Addr} {cap g : Nat} {L : List Rn} (h : DR w p cap g L) : RsAt w p L := by
  rcases h.2 with ⟨rest, rfl, _, hr⟩ | ⟨rfl, _⟩
  · have := rsAt_block (A := []) (B := L) hr
    simpa using this
  · intro k hk; exact absurd hk (Nat.not_lt_zero _)
theorem DR.take {w : World} {p : Option Addr} {cap g : Nat} {L : List Rn} (h : DR w p cap g L) (c : Nat) : RsAt w p (L.take c) := fun k hk => by
  have hk2 : k < L.length := by rw [List.length_take] at hk; omega
  have := h.at k hk2
  have e : (L.take c)[k] = L[k] := List.getElem_take
  rw [e]
  exact this
/-- what dropPlain leaves -/
def dropF (L : List Rn) (f : Nat) : List Rn := L.take f ++ kp (L.drop f)
theorem dropF_le (L : List Rn) (f : Nat) : (dropF L f).length ≤ L.length := by
  unfold dropF
  have := kp_le (L.drop f)
  rw [List.length_append]
  rw [List.length_drop] at this
  rw [List.length_take]; omega
theorem dropF_lt {L : List Rn} {f : Nat} (hf : f < L.length) (hp : plR L[f] = true) : (dropF L f).length < L.length := by
  unfold dropF
  have e : L.drop f = L[f] :: L.drop (f + 1) := List.drop_eq_getElem_cons hf
  have h1 : kp (L.drop f) = kp (L.drop (f + 1)) := by
    have h0 : kp (L[f] :: L.drop (f + 1)) = kp (L.drop (f + 1)) := List.filter_cons_of_neg (by rw [hp]; decide)
    rw [← e] at h0
    exact h0
  have := kp_le (L.drop (f + 1))
  rw [h1, List.length_append, List.length_take]
  rw [List.length_drop] at this
  omega
theorem dropF_mem {L : List Rn} {f : Nat} {x : Rn} (h : x ∈ dropF L f) : x ∈ L := by
  rcases List.mem_append.1 h with h | h
  · exact List.mem_of_mem_take h
  · exact List.mem_of_mem_drop (List.mem_filter.1 h).1

set_option maxRecDepth 100000 in
set_option maxHeartbeats 2000000 in
/-- slices.DeleteFunc, of nothing -/
theorem deleteNone_any (p : Option Addr) (cap : Nat) (w : World) :
    Calls Tryz.prog 54 #[.slice p 0 cap, .func (Fn.func 53) #[] #[]] w fun r w' => r = .returned (.slice p 0 cap) ∧ Below w.heap.size w w' := by
  have HI := hide' (indexPlain_any [] p cap w (by simp) (fun k hk => absurd hk (Nat.not_lt_zero _)))
  simp only [List.length_nil] at HI
  go_enter Tryz.func54, Tryz.ntmps54
  go_wp2_with (go_at_call 64; refine HI.out.mono ?_; rintro r w1 ⟨hr, hB1⟩; obtain rfl : r = .returned (.int .i64 (-1)) := (idx_none (B := []) (fun x hx => by cases hx) hr); have HB1 := hide' hB1; clear hr hB1)
  go_ret
  exact ⟨rfl, HB1.out⟩

set_option maxRecDepth 100000 in
set_option maxHeartbeats 2000000 in
/-- wire.dropPlain -/
theorem dropPlain_any (L : List Rn) (p : Option Addr) (cap g f : Nat) (w : World) (h : DR w p cap g L) (hf : f < L.length ∨ f = 0) (hL : L.length ≤ 65535) :
    Calls Tryz.prog 35 #[.slice p L.length cap, .int .i64 (f : Int)] w fun r w' => r = .returned (.slice p (dropF L f).length cap) ∧ DR w' p cap g (dropF L f) ∧ w.grownBy w' (some g) := by
  rcases h with ⟨hc, ⟨rest, rfl, hc0, hr⟩ | ⟨rfl, rfl⟩⟩
  · have hfl : f ≤ L.length := by omega
    have hfc : f < cap := by omega
    have hsl := fun W => run_from g 0 L.length cap f hfl hc hfc W
    rw [Nat.zero_add] at hsl
    have hA : (L.take f).length = f := by rw [List.length_take]; omega
    have hB : (L.drop f).length = L.length - f := List.length_drop
    have HD := hide' (deletePlain_any (L.take f) (L.drop f) rest g (cap - f) w (by rw [List.take_append_drop]; exact hr) (by rw [hB]; omega) (by rw [hB]; omega))
    rw [hA, hB] at HD
    obtain ⟨n, hn⟩ : ∃ n, (kp (L.drop f)).length = n := ⟨_, rfl⟩
    have hnl : f + n ≤ L.length := by have := kp_le (L.drop f); omega
    have hup : ∀ W : World, (Instr.slice 23 (.slice (some ⟨g, 0, none⟩) L.length cap) none (some (.int .i64 ((f : Int) + (n : Int)))) none).run Tryz.prog W = .ok (.slice (some ⟨g, 0, none⟩) (f + n) cap) W := fun W => by
      have := run_upto g 0 L.length cap (f + n) (by omega) W
      rw [Int.natCast_add] at this
      exact this
    have HN := hide' hn
    rw [hn] at HD
    have HLn : Hid ((dropF L f).length = f + n) := by unfold Hid dropF; rw [List.length_append, hA, hn]
    have HE : Hid (∀ F : List Rn, F.length = L.length - f → F.take n = kp (L.drop f) → ∀ (W : World), Rb W g (L.take f ++ F) rest → DR W (some ⟨g, 0, none⟩) cap g (dropF L f)) := by
      intro F h1 h2 W h3
      refine ⟨by rw [HLn.out]; omega, .inl ⟨rce5 (F.drop n) ++ rest, rfl, hc0, ?_⟩⟩
      unfold dropF
      rw [← h2]
      have e : L.take f ++ F = (L.take f ++ F.take n) ++ F.drop n := by rw [List.append_assoc, List.take_append_drop]
      unfold Rb at h3 ⊢
      rw [e, rce5_app, List.append_assoc] at h3
      exact h3
    clear hr hA hB hn
    go_enter Tryz.func35, Tryz.ntmps35
    go_wp2_with (go_at_call 54; refine HD.out.mono ?_; rintro r w1 ⟨F, hF1, hF2, rfl, hF3, hF4⟩; have HF := hide' (HE.out F hF1 hF2 w1 hF3); have HG := hide' hF4; clear hF1 hF2 hF3 hF4)
    go_ret
    exact ⟨by rw [HLn.out]; rfl, HF.out, HG.out⟩
  · obtain rfl : f = 0 := by simpa using hf
    go_enter Tryz.func35, Tryz.ntmps35
    go_wp2_with (go_at_call 54; refine (deleteNone_any p 0 _).mono ?_; rintro r w1 ⟨rfl, hB1⟩)
    exact bodyPost_ret (v := .slice p 0 0) (by simp [results, go_sem]) rfl ⟨rfl, ⟨Nat.le_refl _, .inr ⟨rfl, rfl⟩⟩, grown_below hB1 _⟩
end Go.Proofs.YtjnmbgmdkkiidaaGreat

/-
  wire.lastPlain, wire.dropPlain, told more fully. (The verifier's own text.)
-/
namespace Go.Proofs.YtjnmbgmdkkiidaaGreat
set_option linter.unusedVariables false
open Go.RowKit Go.Shelf Go.Maps Go.Proofs.YtjnmbgmdkkiidaaGreat.Nm

set_option maxRecDepth 100000 in
set_option maxHeartbeats 1000000 in
/-- wire.lastPlain -/
theorem lastPlain2 (L : List Rn) (p : Option Addr) (cap : Nat) (w : World) (hL : L.length ≤ 65535) (hat : RsAt w p L) :
    Calls Tryz.prog 34 #[.slice p L.length cap] w fun r w' => ((r = .returned (.int .i64 (-1)) ∧ ∀ x ∈ L, plR x = false) ∨ ∃ i : Nat, ∃ hi : i < L.length, r = .returned (.int .i64 (i : Int)) ∧ plR L[i] = true ∧ ∀ x ∈ L.drop (i + 1), plR x = false) ∧ Below w.heap.size w w' := by
  have HA := hide' hat
  clear hat
  go_enter Tryz.func34, Tryz.ntmps34
  go_wp2_with fail
  go_loopw [3] (fun i wr => ∃ k : Nat, i = .int .i64 ((k : Int) - 1) ∧ k ≤ L.length ∧ Hid (∀ x ∈ L.drop k, plR x = false) ∧ Below w.heap.size w wr) (fun i _ => (intOf i + 1).toNat)
  case atStart => exact ⟨L.length, by first | rfl | go_num, Nat.le_refl _, (fun x h => by simp at h), Below.refl _ _⟩
  case round =>
    obtain ⟨k, rfl, hk, HN, hBr⟩ := hrel
    have HBr := hide' hBr
    cases k with
    | zero =>
      clear hBr
      rw [show (((0 : Nat) : Int) - 1) = -1 by omega]
      go_wp2_with fail
      go_ret
      exact ⟨.inl ⟨rfl, HN.out⟩, HBr.out⟩
    | succ k =>
      rw [show (((k + 1 : Nat) : Int) - 1) = (k : Int) by omega]
      have hlt : k < L.length := by omega
      obtain ⟨g, off, rfl, hg, e0, e1, e2, e3, e4⟩ := rsAt_bel HA.out hBr k hlt
      obtain ⟨x, hx⟩ : ∃ x, L[k] = x := ⟨_, rfl⟩
      have HX := hide' hx
      rw [hx] at e0 e1 e2 e3 e4
      clear hx hBr
      obtain ⟨xo, xt, xc, xl, xd⟩ := x
      simp only at e0 e1 e2 e3 e4
      have hk0 : (0 : Int) ≤ (k : Int) := by omega
      cases hp : (xt != 41) with
      | true =>
        have HP := hide' hp
        go_wp2_with (go_at_call 53; refine (isPlain_any xo xd xt xc xl _).mono ?_; rintro r w2 ⟨rfl, hB2⟩; rw [hp])
        go_ret
        refine ⟨.inr ⟨k, hlt, rfl, ?_, HN.out⟩, bstep HBr.out hB2 HBr.out.size⟩
        rw [HX.out]; exact HP.out
      | false =>
        have HP := hide' hp
        go_wp2_with (go_at_call 53; refine (isPlain_any xo xd xt xc xl _).mono ?_; rintro r w2 ⟨rfl, hB2⟩; rw [hp])
        refine ⟨⟨k, by go_num, by omega, ?_, bstep HBr.out hB2 HBr.out.size⟩, ?_⟩
        · intro y hy
          rw [List.drop_eq_getElem_cons hlt] at hy
          rcases List.mem_cons.1 hy with h | h
          · rw [h, HX.out]; exact HP.out
          · exact HN.out y h
        · simp [intOf]

theorem last_none2 {L : List Rn} {r : Ending} (hall : ∀ x ∈ L, plR x = false) (h : (r = .returned (.int .i64 (-1)) ∧ ∀ x ∈ L, plR x = false) ∨ ∃ i : Nat, ∃ hi : i < L.length, r = .returned (.int .i64 (i : Int)) ∧ plR L[i] = true ∧ ∀ x ∈ L.drop (i + 1), plR x = false) : r = .returned (.int .i64 (-1)) := by
  rcases h with h | ⟨i, hi, _, h2, _⟩
  · exact h.1
  · have := hall _ (List.getElem_mem hi)
    rw [this] at h2; cases h2
theorem last_some2 {L : List Rn} {r : Ending} (hall : ¬ ∀ x ∈ L, plR x = false) (h : (r = .returned (.int .i64 (-1)) ∧ ∀ x ∈ L, plR x = false) ∨ ∃ i : Nat, ∃ hi : i < L.length, r = .returned (.int .i64 (i : Int)) ∧ plR L[i] = true ∧ ∀ x ∈ L.drop (i + 1), plR x = false) : ∃ i : Nat, ∃ hi : i < L.length, r = .returned (.int .i64 (i : Int)) ∧ plR L[i] = true ∧ ∀ x ∈ L.drop (i + 1), plR x = false := by
  rcases h with h | h
  · exact absurd h.2 hall
  · exact h

/-- additional records, in a block of a known size that may be written, or none -/
def DX (w : World) (p : Option Addr) (cap g : Nat) (L : List Rn) : Prop := L.length ≤ cap ∧ ((∃ rest, p = some ⟨g, 0, none⟩ ∧ 0 < cap ∧ Rb w g L rest ∧ L.length * 5 + rest.length = cap * 5) ∨ (L = [] ∧ cap = 0))
theorem DX.dr {w : World} {p : Option Addr} {cap g : Nat} {L : List Rn} (h : DX w p cap g L) : DR w p cap g L := by
  refine ⟨h.1, ?_⟩
  rcases h.2 with ⟨rest, h1, h2, h3, _⟩ | h0
  · exact .inl ⟨rest, h1, h2, h3⟩
  · exact .inr h0
theorem DX.at {w : World} {p : Option Addr} {cap g : Nat} {L : List Rn} (h : DX w p cap g L) : RsAt w p L := h.dr.at
theorem DX.take {w : World} {p : Option Addr} {cap g : Nat} {L : List Rn} (h : DX w p cap g L) (c : Nat) : RsAt w p (L.take c) := h.dr.take c
theorem DX.own {w : World} {p : Option Addr} {cap g b : Nat} {L : List Rn} (h : DX w p cap g L) (hb : b ≤ g) (hc : 0 < cap) (hm : cap ≤ maxLen) : w.ownsRow b 59 5 (.slice p L.length cap) L.length (rce5 L) := by
  rcases h.2 with ⟨rest, rfl, _, h3, h4⟩ | ⟨_, h0⟩
  · refine ⟨rce5_len L, .inr ⟨g, cap, (rce5 L ++ rest).toArray, rfl, hb, h3, h.1, hm, ?_, ?_⟩⟩
    · rw [List.size_toArray, List.length_append, rce5_len]; exact h4
    · show (rce5 L ++ rest).take (L.length * 5) = rce5 L
      rw [← rce5_len L, List.take_left]
  · omega

set_option maxRecDepth 100000 in
set_option maxHeartbeats 2000000 in
/-- wire.dropPlain -/
theorem dropPlain2 (L : List Rn) (p : Option Addr) (cap g f : Nat) (w : World) (h : DX w p cap g L) (hf : f < L.length ∨ f = 0) (hL : L.length ≤ 65535) :
    Calls Tryz.prog 35 #[.slice p L.length cap, .int .i64 (f : Int)] w fun r w' => r = .returned (.slice p (dropF L f).length cap) ∧ DX w' p cap g (dropF L f) ∧ w.grownBy w' (some g) := by
  rcases h with ⟨hc, ⟨rest, rfl, hc0, hr, hz⟩ | ⟨rfl, rfl⟩⟩
  · have hfl : f ≤ L.length := by omega
    have hfc : f < cap := by omega
    have hsl := fun W => run_from g 0 L.length cap f hfl hc hfc W
    rw [Nat.zero_add] at hsl
    have hA : (L.take f).length = f := by rw [List.length_take]; omega
    have hB : (L.drop f).length = L.length - f := List.length_drop
    have HD := hide' (deletePlain_any (L.take f) (L.drop f) rest g (cap - f) w (by rw [List.take_append_drop]; exact hr) (by rw [hB]; omega) (by rw [hB]; omega))
    rw [hA, hB] at HD
    obtain ⟨n, hn⟩ : ∃ n, (kp (L.drop f)).length = n := ⟨_, rfl⟩
    have hnl : f + n ≤ L.length := by have := kp_le (L.drop f); omega
    have hup : ∀ W : World, (Instr.slice 23 (.slice (some ⟨g, 0, none⟩) L.length cap) none (some (.int .i64 ((f : Int) + (n : Int)))) none).run Tryz.prog W = .ok (.slice (some ⟨g, 0, none⟩) (f + n) cap) W := fun W => by
      have := run_upto g 0 L.length cap (f + n) (by omega) W
      rw [Int.natCast_add] at this
      exact this
    have HN := hide' hn
    rw [hn] at HD
    have HLn : Hid ((dropF L f).length = f + n) := by unfold Hid dropF; rw [List.length_append, hA, hn]
    have HE : Hid (∀ F : List Rn, F.length = L.length - f → F.take n = kp (L.drop f) → ∀ (W : World), Rb W g (L.take f ++ F) rest → DX W (some ⟨g, 0, none⟩) cap g (dropF L f)) := by
      intro F h1 h2 W h3
      refine ⟨by rw [HLn.out]; omega, .inl ⟨rce5 (F.drop n) ++ rest, rfl, hc0, ?_, by rw [List.length_append, rce5_len, List.length_drop, HLn.out, h1]; omega⟩⟩
      unfold dropF
      rw [← h2]
      have e : L.take f ++ F = (L.take f ++ F.take n) ++ F.drop n := by rw [List.append_assoc, List.take_append_drop]
      unfold Rb at h3 ⊢
      rw [e, rce5_app, List.append_assoc] at h3
      exact h3
    clear hr hA hB hn
    go_enter Tryz.func35, Tryz.ntmps35
    go_wp2_with (go_at_call 54; refine HD.out.mono ?_; rintro r w1 ⟨F, hF1, hF2, rfl, hF3, hF4⟩; have HF := hide' (HE.out F hF1 hF2 w1 hF3); have HG := hide' hF4; clear hF1 hF2 hF3 hF4)
    go_ret
    exact ⟨by rw [HLn.out]; rfl, HF.out, HG.out⟩
  · obtain rfl : f = 0 := by simpa using hf
    go_enter Tryz.func35, Tryz.ntmps35
    go_wp2_with (go_at_call 54; refine (deleteNone_any p 0 _).mono ?_; rintro r w1 ⟨rfl, hB1⟩)
    exact bodyPost_ret (v := .slice p 0 0) (by simp [results, go_sem]) rfl ⟨rfl, ⟨Nat.le_refl _, .inr ⟨rfl, rfl⟩⟩, grown_below hB1 _⟩
end Go.Proofs.YtjnmbgmdkkiidaaGreat

/-
  Plain facts: what is written of a name is read as that name. (The verifier's own text.)
-/
namespace Go.Proofs.YtjnmbgmdkkiidaaGreat.Nm
set_option linter.unusedVariables false

/-- a is the beginning of B -/
def Pf (a B : ByteArray) : Prop := ∃ x, B = a ++ x
theorem Pf.size {a B : ByteArray} (h : Pf a B) : a.size ≤ B.size := by
  obtain ⟨x, rfl⟩ := h; rw [ByteArray.size_append]; omega
theorem Pf.refl (a : ByteArray) : Pf a a := ⟨.empty, by apply ByteArray.ext; simp⟩
theorem Pf.trans {a b c : ByteArray} (h : Pf a b) (g : Pf b c) : Pf a c := by
  obtain ⟨x, rfl⟩ := h
  obtain ⟨y, rfl⟩ := g
  exact ⟨x ++ y, ByteArray.append_assoc⟩
theorem Pf.app (a y : ByteArray) : Pf a (a ++ y) := ⟨y, rfl⟩
theorem Pf.left {a y B : ByteArray} (h : Pf (a ++ y) B) : Pf a B := (Pf.app a y).trans h
theorem Pf.bt {a y B : ByteArray} (h : Pf (a ++ y) B) {i : Nat} (hi : i < y.size) : bt B (a.size + i) = Nm.bt y i := by
  obtain ⟨x, rfl⟩ := h
  rw [bt_append_left _ _ _ (by rw [ByteArray.size_append]; omega), bt_append_right _ _ _ (by omega)]
  congr 1; omega
theorem Pf.ext {a y B : ByteArray} (h : Pf (a ++ y) B) : B.extract a.size (a.size + y.size) = y := by
  obtain ⟨x, rfl⟩ := h
  apply ByteArray.ext; apply Array.ext
  · simp
  · intro i h1 h2; simp
theorem Pf.room {a y B : ByteArray} (h : Pf (a ++ y) B) : a.size + y.size ≤ B.size := by
  have := h.size; rwa [ByteArray.size_append] at this
theorem nameL_pf : ∀ (l : List ByteArray) (s : PS), Pf s.out (nameL l s).out
  | [], s => Pf.app _ _
  | x :: l, s => by
    unfold nameL
    cases e : tabF s.tab (putB (x :: l)) with
    | some p => exact Pf.app _ _
    | none => exact (Pf.app s.out (chunk x)).trans (nameL_pf l _)
theorem numB2_bt (v : Nat) : bt (numB v 2) 0 = v / 256 % 256 ∧ bt (numB v 2) 1 = v % 256 := by
  have e : numB v 2 = bts [v / 256 % 256, v % 256] := by simp [numB, List.range, List.range.loop]
  have h : ∀ x ∈ [v / 256 % 256, v % 256], x < 256 := by
    intro x hx
    simp at hx
    rcases hx with rfl | rfl <;> omega
  rw [e]
  exact ⟨bts_bt _ h 0 (by simp), bts_bt _ h 1 (by simp)⟩
theorem numB4_bt (v : Nat) : bt (numB v 4) 0 = v / 16777216 % 256 ∧ bt (numB v 4) 1 = v / 65536 % 256 ∧ bt (numB v 4) 2 = v / 256 % 256 ∧ bt (numB v 4) 3 = v % 256 := by
  have e : numB v 4 = bts [v / 16777216 % 256, v / 65536 % 256, v / 256 % 256, v % 256] := by simp [numB, List.range, List.range.loop]
  have h : ∀ x ∈ [v / 16777216 % 256, v / 65536 % 256, v / 256 % 256, v % 256], x < 256 := by
    intro x hx
    simp at hx
    rcases hx with rfl | rfl | rfl | rfl <;> omega
  rw [e]
  exact ⟨bts_bt _ h 0 (by simp), bts_bt _ h 1 (by simp), bts_bt _ h 2 (by simp), bts_bt _ h 3 (by simp)⟩
theorem be2 {a B : ByteArray} {v : Nat} (h : Pf (a ++ numB v 2) B) (hv : v < 65536) : be B a.size 2 = v := by
  obtain ⟨h0, h1⟩ := numB2_bt v
  have e0 := h.bt (i := 0) (by rw [numB_size]; omega)
  have e1 := h.bt (i := 1) (by rw [numB_size]; omega)
  rw [h0] at e0
  rw [h1] at e1
  rw [Nat.add_zero] at e0
  show ((0 * 256 + bt B (a.size + 0)) * 256 + bt B (a.size + 1)) = v
  rw [Nat.add_zero, e0, e1]; omega
theorem be4 {a B : ByteArray} {v : Nat} (h : Pf (a ++ numB v 4) B) (hv : v < 4294967296) : be B a.size 4 = v := by
  obtain ⟨h0, h1, h2, h3⟩ := numB4_bt v
  have e0 := h.bt (i := 0) (by rw [numB_size]; omega)
  have e1 := h.bt (i := 1) (by rw [numB_size]; omega)
  have e2 := h.bt (i := 2) (by rw [numB_size]; omega)
  have e3 := h.bt (i := 3) (by rw [numB_size]; omega)
  rw [h0] at e0
  rw [h1] at e1
  rw [h2] at e2
  rw [h3] at e3
  rw [Nat.add_zero] at e0
  show ((((0 * 256 + bt B (a.size + 0)) * 256 + bt B (a.size + 1)) * 256 + bt B (a.size + 2)) * 256 + bt B (a.size + 3)) = v
  rw [Nat.add_zero, e0, e1, e2, e3]; omega

/-- from q on stands n, whatever was read ahead of it -/
def Gd (B n : ByteArray) (q : Nat) : Prop := ∀ had, had + n.size ≤ 255 → ∃ nx, rn B q q B.size 10 had = .ok (n, nx)
theorem pb1 (l : List ByteArray) : 1 ≤ (putB l).size := by rw [putB_size]; omega
/-- what is written of a name is read as that name -/
theorem nameR (B : ByteArray) : ∀ (l : List ByteArray) (s : PS) (st en ov had : Nat), OkL l → had + (putB l).size ≤ 255 → st ≤ s.out.size → Pf (nameL l s).out B → (nameL l s).out.size ≤ en → TabOK s.tab →
    (∀ n q, (n, q) ∈ s.tab → n.size ≤ (putB l).size → q < st ∧ Gd B n q) → rn B s.out.size st en ov had = .ok (putB l, (nameL l s).out.size)
  | [], s, st, en, ov, had, hok, hh, hst, hp, hen, ht, H => by
    have hp' : Pf (s.out ++ ⟨#[0]⟩) B := hp
    have h0 : bt B s.out.size = 0 := hp'.bt (i := 0) (by show 0 < 1; omega)
    have hs : (nameL [] s).out.size = s.out.size + 1 := by show (s.out ++ ⟨#[0]⟩).size = _; rw [ByteArray.size_append]; rfl
    rw [rn_zero (by omega) h0, hs, labs_nil_putB]
  | x :: l, s, st, en, ov, had, hok, hh, hst, hp, hen, ht, H => by
    have hpb : (putB (x :: l)).size = 1 + x.size + (putB l).size := by rw [putB_cons, ByteArray.size_append, chunk_size]
    obtain ⟨x1, x2⟩ := hok x List.mem_cons_self
    unfold nameL at hp hen ⊢
    cases e : tabF s.tab (putB (x :: l)) with
    | some p =>
      rw [e] at hp hen
      simp only at hp hen ⊢
      have hp3 := ht.le e
      obtain ⟨g1, g2⟩ := H _ _ (tabF_mem e) (Nat.le_refl _)
      obtain ⟨n0, n1⟩ := numB2_bt (49152 + p)
      have b0 := hp.bt (i := 0) (by rw [numB_size]; omega)
      have b1 := hp.bt (i := 1) (by rw [numB_size]; omega)
      rw [n0, Nat.add_zero] at b0
      rw [n1] at b1
      have hsz : (s.out ++ numB (49152 + p) 2).size = s.out.size + 2 := by rw [ByteArray.size_append, numB_size]
      rw [hsz] at hen ⊢
      have hto : (bt B s.out.size - 192) * 256 + bt B (s.out.size + 1) = p := by rw [b0, b1]; omega
      obtain ⟨nx, hnx⟩ := g2 had hh
      rw [rn_ptr (by omega) (by rw [b0]; omega) (by omega) (by rw [hto]; exact g1), hto, hnx]
      rfl
    | none =>
      rw [e] at hp hen
      simp only at hp hen ⊢
      obtain ⟨s1, hs1⟩ : ∃ s1 : PS, (⟨s.out ++ chunk x, if s.out.size ≤ 16383 then (putB (x :: l), s.out.size) :: s.tab else s.tab⟩ : PS) = s1 := ⟨_, rfl⟩
      rw [hs1] at hp hen ⊢
      have ho : s1.out = s.out ++ chunk x := by rw [← hs1]
      have hz : s1.out.size = s.out.size + 1 + x.size := by rw [ho, ByteArray.size_append, chunk_size]; omega
      have hpc : Pf (s.out ++ chunk x) B := ho ▸ ((nameL_pf l s1).trans hp)
      have hl1 : s1.out.size < (nameL l s1).out.size := (nameL_size l s1).2
      have b0 : bt B s.out.size = x.size := by
        have := hpc.bt (i := 0) (by rw [chunk_size]; omega)
        rw [Nat.add_zero] at this
        rw [this, bt_chunk x (by omega)]
      have hx := hpc.ext
      rw [chunk_size] at hx
      have htab : ∀ n q, (n, q) ∈ s1.tab → (n, q) ∈ s.tab ∨ n = putB (x :: l) := fun n q hm => by
        rw [← hs1] at hm
        simp only at hm
        by_cases hc : s.out.size ≤ 16383
        · rw [if_pos hc] at hm
          rcases List.mem_cons.1 hm with h | h
          · injection h with h1 h2; exact .inr h1
          · exact .inl h
        · rw [if_neg hc] at hm; exact .inl hm
      have htok : TabOK s1.tab := fun y hy => by
        rw [← hs1] at hy
        simp only at hy
        by_cases hc : s.out.size ≤ 16383
        · rw [if_pos hc] at hy
          rcases List.mem_cons.1 hy with rfl | h
          · exact ⟨hc, by show (putB (x :: l)).size ≤ 255; omega⟩
          · exact ht y h
        · rw [if_neg hc] at hy; exact ht y hy
      have hr := nameR B l s1 st en ov (had + 1 + x.size) (fun y hy => hok y (List.mem_cons_of_mem _ hy)) (by omega) (by omega) hp hen htok (fun n q hm hn => by
        rcases htab n q hm with h | h
        · exact H n q h (by omega)
        · rw [h] at hn; omega)
      rw [rn_label (by omega) (by omega) (by omega) (by omega) (by have := pb1 l; omega), b0, ← hz, hr]
      unfold pre
      simp only
      rw [hz, show s.out.size + 1 + x.size = s.out.size + (1 + x.size) by omega, hx, putB_cons]
/-- what is noted is read -/
theorem nameT (B : ByteArray) : ∀ (l : List ByteArray) (s : PS), OkL l → (putB l).size ≤ 255 → Pf (nameL l s).out B → TabOK s.tab → (∀ n q, (n, q) ∈ s.tab → q < s.out.size ∧ Gd B n q) →
    ∀ n q, (n, q) ∈ (nameL l s).tab → q < (nameL l s).out.size ∧ Gd B n q
  | [], s, hok, hh, hp, ht, H => fun n q hm => by
    obtain ⟨h1, h2⟩ := H n q hm
    refine ⟨?_, h2⟩
    show q < (s.out ++ ⟨#[0]⟩).size
    rw [ByteArray.size_append]; omega
  | x :: l, s, hok, hh, hp, ht, H => by
    have hpb : (putB (x :: l)).size = 1 + x.size + (putB l).size := by rw [putB_cons, ByteArray.size_append, chunk_size]
    have hG : Gd B (putB (x :: l)) s.out.size := fun had hb => ⟨_, nameR B (x :: l) s s.out.size B.size 10 had hok hb (Nat.le_refl _) hp hp.size ht (fun n q hm _ => H n q hm)⟩
    unfold nameL at hp ⊢
    cases e : tabF s.tab (putB (x :: l)) with
    | some p =>
      intro n q hm
      obtain ⟨h1, h2⟩ := H n q hm
      refine ⟨?_, h2⟩
      show q < (s.out ++ numB _ 2).size
      rw [ByteArray.size_append]; omega
    | none =>
      rw [e] at hp
      simp only at hp ⊢
      refine nameT B l _ (fun y hy => hok y (List.mem_cons_of_mem _ hy)) (by omega) hp ?_ ?_
      · intro y hy
        simp only at hy
        by_cases hc : s.out.size ≤ 16383
        · rw [if_pos hc] at hy
          rcases List.mem_cons.1 hy with rfl | h
          · exact ⟨hc, by show (putB (x :: l)).size ≤ 255; omega⟩
          · exact ht y h
        · rw [if_neg hc] at hy; exact ht y hy
      · intro n q hm
        have hsz : (s.out ++ chunk x).size = s.out.size + (1 + x.size) := by rw [ByteArray.size_append, chunk_size]
        show q < (s.out ++ chunk x).size ∧ _
        simp only at hm
        by_cases hc : s.out.size ≤ 16383
        · rw [if_pos hc] at hm
          rcases List.mem_cons.1 hm with h | h
          · injection h with h1 h2
            subst h1; subst h2
            exact ⟨by omega, hG⟩
          · obtain ⟨h1, h2⟩ := H n q h
            exact ⟨by omega, h2⟩
        · rw [if_neg hc] at hm
          obtain ⟨h1, h2⟩ := H n q hm
          exact ⟨by omega, h2⟩
end Go.Proofs.YtjnmbgmdkkiidaaGreat.Nm

/-
  Plain facts: what is written of questions and records is read as these. (The verifier's own text.)
-/
namespace Go.Proofs.YtjnmbgmdkkiidaaGreat
set_option linter.unusedVariables false
open Go.RowKit Go.Shelf Go.Maps Go.Proofs.YtjnmbgmdkkiidaaGreat.Nm

/-- what is noted lies low, behind what was written, and is read -/
structure Tg (B : ByteArray) (s : PS) : Prop where
  ok : TabOK s.tab
  gd : ∀ n q, (n, q) ∈ s.tab → q < s.out.size ∧ Gd B n q
theorem Tg.more {B : ByteArray} {s : PS} (h : Tg B s) (x : ByteArray) : Tg B ⟨s.out ++ x, s.tab⟩ := ⟨h.ok, fun n q hm => by
  obtain ⟨h1, h2⟩ := h.gd n q hm
  exact ⟨by show q < (s.out ++ x).size; rw [ByteArray.size_append]; omega, h2⟩⟩
theorem nm_le {n : ByteArray} (hn : isN n = true) : (putB (labs n)).size ≤ 255 := by rw [putB_labs hn]; exact ((isN_iff n).1 hn).1
theorem nameTg {B n : ByteArray} {s : PS} (hn : isN n = true) (h : Tg B s) (hp : Pf (nameL (labs n) s).out B) : Tg B (nameL (labs n) s) :=
  ⟨nameL_ok _ _ h.ok (nm_le hn), nameT B _ s (okL_labs n) (nm_le hn) hp h.ok h.gd⟩
theorem nameRd {B n : ByteArray} {s : PS} (hn : isN n = true) (h : Tg B s) (hp : Pf (nameL (labs n) s).out B) (en ov : Nat) (hen : (nameL (labs n) s).out.size ≤ en) : rn B s.out.size s.out.size en ov 0 = .ok (n, (nameL (labs n) s).out.size) := by
  have := nameR B (labs n) s s.out.size en ov 0 (okL_labs n) (by have := nm_le hn; omega) (Nat.le_refl _) hp hen h.ok (fun n q hm _ => h.gd n q hm)
  rw [putB_labs hn] at this
  exact this
theorem quesR {B n : ByteArray} {t c : Nat} {s : PS} (hn : isN n = true) (ht : t < 65536) (hc : c < 65536) (h : Tg B s) (hp : Pf (quesP n t c s).out B) :
    Tg B (quesP n t c s) ∧ qr B s.out.size = .ok (⟨n, (t : Int), (c : Int)⟩, (quesP n t c s).out.size) := by
  have hp2 : Pf (((nameL (labs n) s).out ++ numB t 2) ++ numB c 2) B := hp
  have hp1 := hp2.left
  have hp0 := hp1.left
  refine ⟨((nameTg hn h hp0).more _).more _, ?_⟩
  have hz := quesP_size n t c s
  unfold qr
  rw [nameRd hn h hp0 B.size 10 hp0.size]
  simp only
  have hB : (quesP n t c s).out.size ≤ B.size := hp.size
  rw [if_neg (by omega), be2 hp1 ht]
  have e2 := be2 hp2 hc
  rw [ByteArray.size_append, numB_size] at e2
  rw [e2, hz]
theorem nmR_R (B r : ByteArray) (en : Nat) : ∀ (N : List ByteArray) (s : PS) (acc : ByteArray), (∀ n ∈ N, isN n = true) → Tg B s → Pf ((namesP N s).out ++ r) B → en = (namesP N s).out.size + r.size →
    nmR B en N.length s.out.size acc = .ok (acc ++ (cat N ++ r)) ∧ Tg B (namesP N s)
  | [], s, acc, hN, h, hp, he => by
    refine ⟨?_, h⟩
    show Except.ok (acc ++ B.extract s.out.size en) = _
    have hp' : Pf (s.out ++ r) B := hp
    have he' : en = s.out.size + r.size := he
    rw [he', hp'.ext]
    show _ = Except.ok (acc ++ (ByteArray.empty ++ r))
    rw [empty_app]
  | n :: l, s, acc, hN, h, hp, he => by
    have hn := hN n List.mem_cons_self
    have hp' : Pf ((namesP l (nameL (labs n) s)).out ++ r) B := hp
    have he' : en = (namesP l (nameL (labs n) s)).out.size + r.size := he
    have hpf : ∀ (l : List ByteArray) (s : PS), Pf s.out (namesP l s).out := fun l => by
      induction l with
      | nil => intro s; exact Pf.refl _
      | cons x l ih => intro s; exact (nameL_pf _ s).trans (ih _)
    have hp0 : Pf (nameL (labs n) s).out B := (hpf l _).trans hp'.left
    have hz := (hpf l (nameL (labs n) s)).size
    obtain ⟨h1, h2⟩ := nmR_R B r en l (nameL (labs n) s) (acc ++ n) (fun x hx => hN x (List.mem_cons_of_mem _ hx)) (nameTg hn h hp0) hp' he'
    refine ⟨?_, h2⟩
    show nmR B en (l.length + 1) s.out.size acc = _
    unfold nmR
    rw [nameRd hn h hp0 en 7 (by omega)]
    simp only
    rw [h1]
    show _ = Except.ok (acc ++ ((n ++ cat l) ++ r))
    rw [ByteArray.append_assoc, ByteArray.append_assoc]
theorem namesOf_doms : ∀ (ps : List (Kind × ByteArray)), (namesOf ps).length = ((ps.map Prod.fst).filter (fun k => decide (k = Kind.dom))).length
  | [] => rfl
  | (k, x) :: ps => by
    have ih := namesOf_doms ps
    by_cases hk : k = Kind.dom
    · subst hk
      rw [namesOf_cons]
      simp [ih]
    · have : namesOf ((k, x) :: ps) = namesOf ps := List.filterMap_cons_none (if_neg hk)
      rw [this, ih]
      simp [hk]
theorem names_len {t c : Int} {d : ByteArray} (hd : dataOK t c d = true) (h0 : d.size ≠ 0) (hs : (shp t).2 ≠ 0) : (namesD t d).length = (shp t).2 := by
  unfold dataOK at hd
  have h41 : t ≠ 41 := fun e => by subst e; exact hs rfl
  rw [if_neg h41, if_neg (fun h => h0 h.1)] at hd
  obtain ⟨ps, hp⟩ := errD_zero (of_decide_eq_true hd)
  have hN : namesD t d = namesOf ps := by unfold namesD; rw [hp]
  rw [hN, namesOf_doms]
  unfold partsD at hp
  by_cases h2 : t = 2 ∨ t = 5 ∨ t = 12
  · have hk : kindsOf t = some [.dom] := by rcases h2 with rfl | rfl | rfl <;> rfl
    have hsh : shp t = (0, 1) := by unfold shp; rw [if_pos h2]
    rw [hk] at hp
    simp only at hp
    split at hp
    · cases hp
    · rw [partsOf_kinds hp, hsh]; rfl
  · by_cases h6 : t = 6
    · subst h6
      have hp' : (if 65535 < d.size then none else partsOf [.dom, .dom, .num 4, .num 4, .num 4, .num 4, .num 4] d) = some ps := hp
      split at hp'
      · cases hp'
      · rw [partsOf_kinds hp']; rfl
    · by_cases h15 : t = 15
      · subst h15
        have hp' : (if 65535 < d.size then none else partsOf [.num 2, .dom] d) = some ps := hp
        split at hp'
        · cases hp'
        · rw [partsOf_kinds hp']; rfl
      · exact absurd (by unfold shp; rw [if_neg h2, if_neg h6, if_neg h15]) hs
theorem dataR {B : ByteArray} {t c : Int} {d : ByteArray} {s : PS} (hd : dataOK t c d = true) (h : Tg B s) (hp : Pf (dataP t d s).out B) :
    Tg B (dataP t d s) ∧ dr B s.out.size (dataP t d s).out.size t = .ok d := by
  unfold dataP at hp ⊢
  by_cases hc : d.size = 0 ∨ (shp t).2 = 0
  · rw [if_pos hc] at hp ⊢
    have hp' : Pf (s.out ++ d) B := hp
    refine ⟨h.more d, ?_⟩
    show dr B s.out.size (s.out ++ d).size t = .ok d
    unfold dr
    rw [ByteArray.size_append]
    by_cases h0 : d.size = 0
    · rw [if_pos (by omega), size_zero_empty h0]
    · have h2 : (shp t).2 = 0 := by rcases hc with h1 | h1; exact absurd h1 h0; exact h1
      have h1 : (shp t).1 = 0 := by
        unfold shp at h2 ⊢
        split at h2
        · cases h2
        · split at h2
          · cases h2
          · split at h2
            · cases h2
            · rw [if_neg ‹_›, if_neg ‹_›, if_neg ‹_›]
      rw [if_neg (by omega), h1, h2, if_neg (by omega)]
      show Except.ok (B.extract s.out.size (s.out.size + 0) ++ B.extract (s.out.size + 0) (s.out.size + d.size)) = _
      rw [Nat.add_zero, ext_empty, empty_app, hp'.ext]
  · rw [if_neg hc] at hp ⊢
    have h0 : d.size ≠ 0 := fun e => hc (.inl e)
    have h2 : (shp t).2 ≠ 0 := fun e => hc (.inr e)
    have hlen := names_len hd h0 h2
    obtain ⟨N, r, hS⟩ : ∃ N r, ShpOK t d N r := by
      rcases (datOK_of hd).2 with h1 | h1 | h1
      · exact absurd h1 h0
      · exact absurd h1 h2
      · exact h1
    rw [hS.names] at hp hlen ⊢
    have ha := hS.ahead
    have e1 : (d.extract 0 (shp t).1).size = (shp t).1 := by simp; omega
    have hd2 : d = (d.extract 0 (shp t).1 ++ cat N) ++ r := by
      rw [ByteArray.append_assoc, ← hS.eq, ext_two d _ ha]
    have hr : d.extract ((shp t).1 + (cat N).size) d.size = r := by
      have := ex_app_r (d.extract 0 (shp t).1 ++ cat N) r
      rw [← hd2, ByteArray.size_append, e1] at this
      exact this
    rw [hr] at hp ⊢
    have hp' : Pf ((namesP N ⟨s.out ++ d.extract 0 (shp t).1, s.tab⟩).out ++ r) B := hp
    have hsz : ((namesP N ⟨s.out ++ d.extract 0 (shp t).1, s.tab⟩).out ++ r).size = (namesP N ⟨s.out ++ d.extract 0 (shp t).1, s.tab⟩).out.size + r.size := ByteArray.size_append
    obtain ⟨g1, g2⟩ := nmR_R B r _ N ⟨s.out ++ d.extract 0 (shp t).1, s.tab⟩ (d.extract 0 (shp t).1) hS.ok (h.more _) hp' hsz
    refine ⟨g2.more r, ?_⟩
    have hpf : ∀ (l : List ByteArray) (s : PS), Pf s.out (namesP l s).out := fun l => by
      induction l with
      | nil => intro s; exact Pf.refl _
      | cons x l ih => intro s; exact (nameL_pf _ s).trans (ih _)
    have hpa : Pf (s.out ++ d.extract 0 (shp t).1) B := (hpf N _).trans hp'.left
    have hza : (s.out ++ d.extract 0 (shp t).1).size = s.out.size + (shp t).1 := by rw [ByteArray.size_append, e1]
    have hlt : s.out.size + (shp t).1 < (namesP N ⟨s.out ++ d.extract 0 (shp t).1, s.tab⟩).out.size := by
      cases N with
      | nil => exact absurd hlen.symm h2
      | cons n l =>
        have z1 := (name_size (hS.ok n List.mem_cons_self) ⟨s.out ++ d.extract 0 (shp t).1, s.tab⟩).2
        have z2 := (hpf l (nameL (labs n) ⟨s.out ++ d.extract 0 (shp t).1, s.tab⟩)).size
        have z3 : namesP (n :: l) ⟨s.out ++ d.extract 0 (shp t).1, s.tab⟩ = namesP l (nameL (labs n) ⟨s.out ++ d.extract 0 (shp t).1, s.tab⟩) := rfl
        rw [z3]
        simp only [hza] at z1
        omega
    show dr B s.out.size ((namesP N ⟨s.out ++ d.extract 0 (shp t).1, s.tab⟩).out ++ r).size t = .ok d
    unfold dr
    rw [if_neg (by rw [hsz]; omega), if_neg (by rw [hsz]; omega)]
    have hx := hpa.ext
    rw [e1] at hx
    simp only [hza] at g1
    rw [hx, ← hlen, g1, ← ByteArray.append_assoc, ← hd2]
/-- what stands ahead changes nothing but by its size -/
theorem nameL_shift : ∀ (l : List ByteArray) (T : Tab) (o o' : ByteArray), o.size = o'.size → ∃ X T', nameL l ⟨o, T⟩ = ⟨o ++ X, T'⟩ ∧ nameL l ⟨o', T⟩ = ⟨o' ++ X, T'⟩
  | [], T, o, o', h => ⟨_, T, rfl, rfl⟩
  | x :: l, T, o, o', h => by
    unfold nameL
    cases e : tabF T (putB (x :: l)) with
    | some p => exact ⟨_, T, rfl, rfl⟩
    | none =>
      simp only
      rw [h]
      obtain ⟨X, T', h1, h2⟩ := nameL_shift l (if o'.size ≤ 16383 then (putB (x :: l), o'.size) :: T else T) (o ++ chunk x) (o' ++ chunk x) (by rw [ByteArray.size_append, ByteArray.size_append, h])
      exact ⟨chunk x ++ X, T', by rw [h1, ByteArray.append_assoc], by rw [h2, ByteArray.append_assoc]⟩
theorem namesP_shift : ∀ (N : List ByteArray) (T : Tab) (o o' : ByteArray), o.size = o'.size → ∃ X T', namesP N ⟨o, T⟩ = ⟨o ++ X, T'⟩ ∧ namesP N ⟨o', T⟩ = ⟨o' ++ X, T'⟩
  | [], T, o, o', h => ⟨.empty, T, by rw [app_empty]; rfl, by rw [app_empty]; rfl⟩
  | n :: l, T, o, o', h => by
    obtain ⟨X, T1, h1, h2⟩ := nameL_shift (labs n) T o o' h
    obtain ⟨Y, T2, h3, h4⟩ := namesP_shift l T1 (o ++ X) (o' ++ X) (by rw [ByteArray.size_append, ByteArray.size_append, h])
    refine ⟨X ++ Y, T2, ?_, ?_⟩
    · show namesP l (nameL (labs n) ⟨o, T⟩) = _
      rw [h1, h3, ByteArray.append_assoc]
    · show namesP l (nameL (labs n) ⟨o', T⟩) = _
      rw [h2, h4, ByteArray.append_assoc]
theorem dataP_shift (t : Int) (d : ByteArray) (T : Tab) (o o' : ByteArray) (h : o.size = o'.size) : ∃ X T', dataP t d ⟨o, T⟩ = ⟨o ++ X, T'⟩ ∧ dataP t d ⟨o', T⟩ = ⟨o' ++ X, T'⟩ := by
  unfold dataP
  by_cases hc : d.size = 0 ∨ (shp t).2 = 0
  · rw [if_pos hc, if_pos hc]; exact ⟨d, T, rfl, rfl⟩
  · rw [if_neg hc, if_neg hc]
    obtain ⟨X, T', h1, h2⟩ := namesP_shift (namesD t d) T (o ++ d.extract 0 (shp t).1) (o' ++ d.extract 0 (shp t).1) (by rw [ByteArray.size_append, ByteArray.size_append, h])
    simp only [h1, h2]
    refine ⟨d.extract 0 (shp t).1 ++ X ++ d.extract ((shp t).1 + (cat (namesD t d)).size) d.size, T', ?_, ?_⟩
    · simp only [ByteArray.append_assoc]
    · simp only [ByteArray.append_assoc]
theorem putAt_left : ∀ (l : List Nat) (A X : ByteArray) (k : Nat), k + l.length ≤ A.size → putAt (A ++ X) k l = putAt A k l ++ X
  | [], A, X, k, h => rfl
  | x :: l, A, X, k, h => by
    simp only [List.length_cons] at h
    unfold putAt
    have e : (⟨(A ++ X).data.setIfInBounds k (UInt8.ofNat x)⟩ : ByteArray) = ⟨A.data.setIfInBounds k (UInt8.ofNat x)⟩ ++ X := by
      apply ByteArray.ext
      apply Array.ext'
      have hz : A.size = A.data.toList.length := (Array.length_toList (xs := A.data)).symm
      simp only [Array.toList_setIfInBounds, ByteArray.data_append, Array.toList_append]
      rw [List.set_append_left _ _ (by omega)]
    rw [e, putAt_left l _ X (k + 1) (by
      have : (⟨A.data.setIfInBounds k (UInt8.ofNat x)⟩ : ByteArray).size = A.size := Array.size_setIfInBounds
      omega)]
theorem numB2_eq (v : Nat) (hv : v < 65536) : numB v 2 = bts [v / 256, v % 256] := by
  have : v / 256 % 256 = v / 256 := Nat.mod_eq_of_lt (by omega)
  simp [numB, List.range, List.range.loop, this]
/-- a record, with the size of its data in its place from the first -/
theorem recP_eq {t c l : Nat} {o d : ByteArray} (hd : DatOK (t : Int) d) (ho : isN o = true) {s : PS} (hs : POk s) :
    ∃ L, L < 65536 ∧ recP o t c l d s = dataP t d ⟨(quesP o t c s).out ++ numB l 4 ++ numB L 2, (quesP o t c s).tab⟩ ∧ (recP o t c l d s).out.size = (quesP o t c s).out.size + 6 + L := by
  obtain ⟨L, hL⟩ : ∃ L, (dataP t d (recH o t c l s)).out.size - (recH o t c l s).out.size = L := ⟨_, rfl⟩
  obtain ⟨p1, p2, p3⟩ := dataP_ok hd (recH_pok ho t c l hs)
  have hdz := hd.1
  have hLl : L < 65536 := by omega
  have hH : (recH o t c l s).out.size = (quesP o t c s).out.size + 6 := by
    unfold recH
    show ((_ ++ _) ++ _ : ByteArray).size = _
    rw [ByteArray.size_append, ByteArray.size_append, numB_size, numB_size]
  have hz := recP_size o t c l d s
  refine ⟨L, hLl, ?_, by omega⟩
  obtain ⟨X, T', h1, h2⟩ := dataP_shift t d (quesP o t c s).tab ((quesP o t c s).out ++ numB l 4 ++ numB 0 2) ((quesP o t c s).out ++ numB l 4 ++ numB L 2) (by simp only [ByteArray.size_append, numB_size])
  have hR : recH o t c l s = ⟨(quesP o t c s).out ++ numB l 4 ++ numB 0 2, (quesP o t c s).tab⟩ := rfl
  unfold recP
  rw [hL, hH, hR, h1, h2]
  have hq : ((quesP o t c s).out ++ numB l 4).size = (quesP o t c s).out.size + 6 - 2 := by rw [ByteArray.size_append, numB_size]; omega
  have e0 : numB 0 2 = bts [0, 0] := by rw [numB2_eq 0 (by omega)]
  simp only
  rw [putAt_left _ _ _ _ (by rw [ByteArray.size_append, hq, numB_size]; simp), ← hq, e0, putAt_app [L / 256, L % 256] [0, 0] _ rfl, numB2_eq L hLl]
theorem recRd {B : ByteArray} {r : Rn} {s : PS} (hr : rOK r = true) (hs : POk s) (h : Tg B s) (hp : Pf (recR r s).out B) :
    Tg B (recR r s) ∧ rr B s.out.size = .ok (r, (recR r s).out.size) := by
  obtain ⟨h1, ⟨t, ht, htl⟩, ⟨c, hc, hcl⟩, ⟨l, hl, hll⟩, hd⟩ := rOK_parts hr
  have hdok : dataOK r.t r.c r.d = true := by
    unfold rOK recOK at hr
    simp only [Bool.and_eq_true] at hr
    exact hr.2
  obtain ⟨o, t', c', l', d⟩ := r
  simp only at ht hc hl hd hdok h1
  subst ht; subst hc; subst hl
  have hrec : recR ⟨o, (t : Int), (c : Int), (l : Int), d⟩ s = recP o t c l d s := by simp [recR]
  rw [hrec] at hp ⊢
  obtain ⟨L, hL, he, hz⟩ := recP_eq (c := c) (l := l) hd h1 hs
  have hpL : Pf ((quesP o t c s).out ++ numB l 4 ++ numB L 2) B := by
    obtain ⟨X, T', h3, _⟩ := dataP_shift t d (quesP o t c s).tab ((quesP o t c s).out ++ numB l 4 ++ numB L 2) _ rfl
    rw [he, h3] at hp
    exact Pf.left hp
  obtain ⟨hq1, hq2⟩ := quesR h1 htl hcl h hpL.left.left
  have hd' := dataR (s := ⟨(quesP o t c s).out ++ numB l 4 ++ numB L 2, (quesP o t c s).tab⟩) hdok ((hq1.more _).more _) (he ▸ hp)
  rw [← he] at hd'
  refine ⟨hd'.1, ?_⟩
  have hBz := hp.size
  have e4 := be4 hpL.left hll
  have e2 := be2 hpL hL
  rw [ByteArray.size_append, numB_size] at e2
  have hdr := hd'.2
  have hsz : ((quesP o t c s).out ++ numB l 4 ++ numB L 2).size = (quesP o t c s).out.size + 6 := by rw [ByteArray.size_append, ByteArray.size_append, numB_size, numB_size]
  simp only [hsz] at hdr
  unfold rr
  rw [hq2]
  simp only
  rw [if_neg (by omega), e2, if_neg (by omega), ← hz, hdr]
  unfold sound
  simp only
  rw [if_pos hdok, e4]
/-- records, one behind the other -/
def recL (L : List Rn) (s : PS) : PS := L.foldl (fun s r => recR r s) s
theorem quesL_pf : ∀ (Q : List Qn) (s : PS), Pf s.out (quesL Q s).out
  | [], s => Pf.refl _
  | q :: l, s => (((nameL_pf _ s).trans (Pf.app _ _)).trans (Pf.app _ _)).trans (quesL_pf l (quesQ q s))
theorem recR_pf {r : Rn} (hr : rOK r = true) {s : PS} (hs : POk s) : Pf s.out (recR r s).out := by
  obtain ⟨h1, ⟨t, ht, htl⟩, ⟨c, hc, hcl⟩, ⟨l, hl, hll⟩, hd⟩ := rOK_parts hr
  obtain ⟨o, t', c', l', d⟩ := r
  simp only at ht hc hl hd h1
  subst ht; subst hc; subst hl
  have hrec : recR ⟨o, (t : Int), (c : Int), (l : Int), d⟩ s = recP o t c l d s := by simp [recR]
  rw [hrec]
  obtain ⟨L, hL, he, hz⟩ := recP_eq (c := c) (l := l) hd h1 hs
  obtain ⟨X, T', h3, _⟩ := dataP_shift t d (quesP o t c s).tab ((quesP o t c s).out ++ numB l 4 ++ numB L 2) _ rfl
  rw [he, h3]
  exact ((((nameL_pf _ s).trans (Pf.app _ _)).trans (Pf.app _ _)).trans (Pf.app _ _)).trans ((Pf.app _ _).trans (Pf.app _ _))
theorem recL_pf : ∀ (L : List Rn) (s : PS), (∀ r ∈ L, rOK r = true) → POk s → Pf s.out (recL L s).out ∧ POk (recL L s)
  | [], s, _, h => ⟨Pf.refl _, h⟩
  | r :: l, s, hL, h => by
    have hr := hL r List.mem_cons_self
    obtain ⟨h1, h2⟩ := recL_pf l (recR r s) (fun x hx => hL x (List.mem_cons_of_mem _ hx)) (recR_ok hr h).1
    exact ⟨(recR_pf hr h).trans h1, h2⟩
theorem qsR (B : ByteArray) : ∀ (Q : List Qn) (s : PS) (acc : List Qn), (∀ q ∈ Q, qOK q = true) → Tg B s → Pf (quesL Q s).out B → qs B Q.length s.out.size acc = .ok (acc ++ Q, (quesL Q s).out.size) ∧ Tg B (quesL Q s)
  | [], s, acc, _, h, hp => ⟨by simp [qs, quesL], h⟩
  | q :: l, s, acc, hQ, h, hp => by
    obtain ⟨h1, ⟨t, ht, htl⟩, ⟨c, hc, hcl⟩⟩ := qOK_parts (hQ q List.mem_cons_self)
    obtain ⟨n, t', c'⟩ := q
    simp only at ht hc h1
    subst ht; subst hc
    have hqq : quesQ ⟨n, (t : Int), (c : Int)⟩ s = quesP n t c s := by simp [quesQ]
    have hp' : Pf (quesL l (quesP n t c s)).out B := by rw [← hqq]; exact hp
    obtain ⟨g1, g2⟩ := quesR h1 htl hcl h ((quesL_pf l _).trans hp')
    obtain ⟨g3, g4⟩ := qsR B l (quesP n t c s) (acc ++ [⟨n, (t : Int), (c : Int)⟩]) (fun x hx => hQ x (List.mem_cons_of_mem _ hx)) g1 hp'
    have hql : quesL (⟨n, (t : Int), (c : Int)⟩ :: l) s = quesL l (quesP n t c s) := by rw [← hqq]; rfl
    rw [hql]
    refine ⟨?_, g4⟩
    show qs B (l.length + 1) s.out.size acc = _
    unfold qs
    rw [g2]
    simp only
    rw [g3, List.append_assoc]
    rfl
theorem rsR (B : ByteArray) : ∀ (L : List Rn) (s : PS) (acc : List Rn), (∀ r ∈ L, rOK r = true) → POk s → Tg B s → Pf (recL L s).out B → rs B L.length s.out.size acc = .ok (acc ++ L, (recL L s).out.size) ∧ Tg B (recL L s)
  | [], s, acc, _, _, h, hp => ⟨by simp [rs, recL], h⟩
  | r :: l, s, acc, hL, hs, h, hp => by
    have hr := hL r List.mem_cons_self
    have hp' : Pf (recL l (recR r s)).out B := hp
    have hk := (recR_ok hr hs).1
    obtain ⟨g1, g2⟩ := recRd hr hs h ((recL_pf l _ (fun x hx => hL x (List.mem_cons_of_mem _ hx)) hk).1.trans hp')
    obtain ⟨g3, g4⟩ := rsR B l (recR r s) (acc ++ [r]) (fun x hx => hL x (List.mem_cons_of_mem _ hx)) hk g1 hp'
    refine ⟨?_, g4⟩
    show rs B (l.length + 1) s.out.size acc = _
    unfold rs
    rw [g2]
    simp only
    rw [g3, List.append_assoc]
    rfl
theorem recL_app (A U : List Rn) (s : PS) : recL (A ++ U) s = recL U (recL A s) := by simp [recL]
/-- where all has room, all is written -/
theorem runR_all : ∀ (L : List Rn) (s : PS) (c : Nat), (∀ r ∈ L, rOK r = true) → POk s → (runR 65535 L s c).1.out.size ≤ 65535 → (runR 65535 L s c).1 = recL L s
  | [], s, c, _, _, _ => rfl
  | r :: l, s, c, hL, hs, h => by
    unfold runR at h ⊢
    by_cases hm : (65535 : Int) < (s.out.size : Int)
    · rw [if_pos hm] at h; simp only at h; omega
    · rw [if_neg hm] at h ⊢
      exact runR_all l (recR r s) (c + 1) (fun x hx => hL x (List.mem_cons_of_mem _ hx)) (recR_ok (hL r List.mem_cons_self) hs).1 h
end Go.Proofs.YtjnmbgmdkkiidaaGreat

namespace Go.Proofs.YtjnmbgmdkkiidaaGreat
set_option linter.unusedVariables false
open Go.RowKit Go.Shelf Go.Maps Go.Proofs.YtjnmbgmdkkiidaaGreat.Nm

/-- two states of one size that have noted the same -/
structure Sim (s t : PS) : Prop where
  sz : s.out.size = t.out.size
  tab : s.tab = t.tab
theorem Sim.more {s t : PS} (h : Sim s t) (x y : ByteArray) (e : x.size = y.size) : Sim ⟨s.out ++ x, s.tab⟩ ⟨t.out ++ y, t.tab⟩ := ⟨by show (s.out ++ x).size = (t.out ++ y).size; rw [ByteArray.size_append, ByteArray.size_append, h.sz, e], h.tab⟩
theorem nameL_sim : ∀ (l : List ByteArray) (s t : PS), Sim s t → Sim (nameL l s) (nameL l t)
  | [], s, t, h => h.more _ _ rfl
  | x :: l, s, t, h => by
    unfold nameL
    rw [h.tab]
    cases e : tabF t.tab (putB (x :: l)) with
    | some p => exact ⟨by show (s.out ++ _).size = (t.out ++ _).size; rw [ByteArray.size_append, ByteArray.size_append, h.sz], rfl⟩
    | none =>
      refine nameL_sim l _ _ ⟨by show (s.out ++ _).size = (t.out ++ _).size; rw [ByteArray.size_append, ByteArray.size_append, h.sz], ?_⟩
      show (if s.out.size ≤ 16383 then (putB (x :: l), s.out.size) :: t.tab else t.tab) = _
      rw [h.sz]
theorem quesP_sim (n : ByteArray) (a b : Nat) {s t : PS} (h : Sim s t) : Sim (quesP n a b s) (quesP n a b t) := ((nameL_sim (labs n) s t h).more _ _ rfl).more _ _ rfl
theorem quesL_sim : ∀ (Q : List Qn) {s t : PS}, Sim s t → Sim (quesL Q s) (quesL Q t)
  | [], _, _, h => h
  | q :: l, _, _, h => quesL_sim l (quesP_sim _ _ _ h)
theorem namesP_sim : ∀ (N : List ByteArray) {s t : PS}, Sim s t → Sim (namesP N s) (namesP N t)
  | [], _, _, h => h
  | n :: l, _, _, h => namesP_sim l (nameL_sim _ _ _ h)
theorem dataP_sim (t : Int) (d : ByteArray) {a b : PS} (h : Sim a b) : Sim (dataP t d a) (dataP t d b) := by
  unfold dataP
  by_cases hc : d.size = 0 ∨ (shp t).2 = 0
  · rw [if_pos hc, if_pos hc]; exact h.more _ _ rfl
  · rw [if_neg hc, if_neg hc]; exact (namesP_sim _ (h.more _ _ rfl)).more _ _ rfl
theorem recH_sim (o : ByteArray) (t c l : Nat) {a b : PS} (h : Sim a b) : Sim (recH o t c l a) (recH o t c l b) := ((quesP_sim o t c h).more _ _ rfl).more _ _ rfl
theorem recR_sim (r : Rn) {a b : PS} (h : Sim a b) : Sim (recR r a) (recR r b) := by
  have h1 := dataP_sim (r.t.toNat : Int) r.d (recH_sim r.o r.t.toNat r.c.toNat r.l.toNat h)
  exact ⟨by unfold recR; rw [recP_size, recP_size, h1.sz], h1.tab⟩
theorem runR_sim (most : Int) : ∀ (L : List Rn) {a b : PS} (c d : Nat), Sim a b → Sim (runR most L a c).1 (runR most L b d).1
  | [], _, _, _, _, h => h
  | r :: l, a, b, c, d, h => by
    unfold runR
    rw [h.sz]
    by_cases hm : most < (b.out.size : Int)
    · rw [if_pos hm, if_pos hm]; exact h
    · rw [if_neg hm, if_neg hm]; exact runR_sim most l _ _ (recR_sim r h)
/-- what is noted stays -/
theorem nameL_keep : ∀ (l : List ByteArray) (s : PS) (n : ByteArray) (p : Nat), tabF s.tab n = some p → tabF (nameL l s).tab n = some p
  | [], s, n, p, h => h
  | x :: l, s, n, p, h => by
    unfold nameL
    cases e : tabF s.tab (putB (x :: l)) with
    | some q => exact h
    | none =>
      refine nameL_keep l _ n p ?_
      by_cases hz : s.out.size ≤ 16383
      · rw [if_pos hz]
        show tabF ((putB (x :: l), s.out.size) :: s.tab) n = some p
        unfold tabF
        rw [if_neg (fun e2 => by rw [e2] at e; rw [e] at h; cases h)]
        exact h
      · rw [if_neg hz]; exact h
theorem quesL_keep : ∀ (Q : List Qn) (s : PS) (n : ByteArray) (p : Nat), tabF s.tab n = some p → tabF (quesL Q s).tab n = some p
  | [], _, _, _, h => h
  | q :: l, s, n, p, h => quesL_keep l (quesQ q s) n p (nameL_keep _ _ _ _ h)
theorem namesP_keep : ∀ (N : List ByteArray) (s : PS) (n : ByteArray) (p : Nat), tabF s.tab n = some p → tabF (namesP N s).tab n = some p
  | [], _, _, _, h => h
  | x :: l, s, n, p, h => namesP_keep l (nameL (labs x) s) n p (nameL_keep _ _ _ _ h)
theorem dataP_keep (t : Int) (d : ByteArray) (s : PS) (n : ByteArray) (p : Nat) (h : tabF s.tab n = some p) : tabF (dataP t d s).tab n = some p := by
  unfold dataP
  by_cases hc : d.size = 0 ∨ (shp t).2 = 0
  · rw [if_pos hc]; exact h
  · rw [if_neg hc]; exact namesP_keep _ _ _ _ h
theorem recR_keep (r : Rn) (s : PS) (n : ByteArray) (p : Nat) (h : tabF s.tab n = some p) : tabF (recR r s).tab n = some p := dataP_keep _ _ _ _ _ (nameL_keep _ _ _ _ h)
theorem runR_keep (most : Int) : ∀ (L : List Rn) (s : PS) (c : Nat) (n : ByteArray) (p : Nat), tabF s.tab n = some p → tabF (runR most L s c).1.tab n = some p
  | [], _, _, _, _, h => h
  | r :: l, s, c, n, p, h => by
    unfold runR
    by_cases hm : most < (s.out.size : Int)
    · rw [if_pos hm]; exact h
    · rw [if_neg hm]; exact runR_keep most l _ _ n p (recR_keep r s n p h)
/-- a name that isn't the root's, written first, is noted at its place -/
theorem name_noted {n : ByteArray} (hn : isN n = true) (h0 : n ≠ ⟨#[0]⟩) (s : PS) (ht : s.tab = []) (hz : s.out.size ≤ 16383) : tabF (nameL (labs n) s).tab n = some s.out.size := by
  have hp := putB_labs hn
  cases hl : labs n with
  | nil => rw [hl, labs_nil_putB] at hp; exact absurd hp.symm h0
  | cons x l =>
    rw [hl] at hp
    unfold nameL
    rw [ht]
    show tabF (nameL l ⟨s.out ++ chunk x, if s.out.size ≤ 16383 then (putB (x :: l), s.out.size) :: [] else []⟩).tab n = _
    refine nameL_keep l _ n _ ?_
    rw [if_pos hz, hp]
    simp [tabF]
/-- a name that is noted takes two bytes -/
theorem name_short {n : ByteArray} (hn : isN n = true) (h0 : n ≠ ⟨#[0]⟩) (s : PS) (p : Nat) (h : tabF s.tab n = some p) : (nameL (labs n) s).out.size = s.out.size + 2 := by
  have hp := putB_labs hn
  cases hl : labs n with
  | nil => rw [hl, labs_nil_putB] at hp; exact absurd hp.symm h0
  | cons x l =>
    rw [hl] at hp
    unfold nameL
    rw [hp, h]
    show (s.out ++ numB _ 2).size = _
    rw [ByteArray.size_append, numB_size]
/-- what is written to the end has room; one record more -/
theorem runR_more (most : Int) : ∀ (L : List Rn) (r : Rn) (s : PS) (c : Nat), ((runR most L s c).1.out.size : Int) ≤ most → (runR most (L ++ [r]) s c).1 = recR r (runR most L s c).1
  | [], r, s, c, h => by
    unfold runR at h
    show (runR most [r] s c).1 = recR r (runR most [] s c).1
    unfold runR
    rw [if_neg (by simp only at h; omega)]
    rfl
  | x :: l, r, s, c, h => by
    unfold runR at h
    show (runR most (x :: (l ++ [r])) s c).1 = recR r (runR most (x :: l) s c).1
    unfold runR
    by_cases hm : most < (s.out.size : Int)
    · rw [if_pos hm] at h; simp only at h; omega
    · rw [if_neg hm] at h
      rw [if_neg hm, if_neg hm]
      exact runR_more most l r _ _ h
end Go.Proofs.YtjnmbgmdkkiidaaGreat

/-
  What has room, plainly: which of the additional records are left out. (The verifier's own text.)
-/
namespace Go.Proofs.YtjnmbgmdkkiidaaGreat
set_option linter.unusedVariables false
open Go.RowKit Go.Shelf Go.Maps Go.Proofs.YtjnmbgmdkkiidaaGreat.Nm

/-- how many may be left out -/
def cp (L : List Rn) : Nat := (L.filter plR).length
theorem cp_app (A B : List Rn) : cp (A ++ B) = cp A + cp B := by simp [cp, List.filter_append]
theorem cp_zero {L : List Rn} (h : cp L = 0) : ∀ x ∈ L, plR x = false := fun x hx => by
  cases hp : plR x with
  | false => rfl
  | true =>
    have : x ∈ L.filter plR := List.mem_filter.2 ⟨hx, hp⟩
    rw [List.eq_nil_of_length_eq_zero h] at this
    cases this
theorem cp_none {L : List Rn} (h : ∀ x ∈ L, plR x = false) : cp L = 0 := by
  unfold cp
  rw [List.filter_eq_nil_iff.2 (fun x hx => by rw [h x hx]; decide)]
  rfl
theorem kp_kp (L : List Rn) : kp (kp L) = kp L := by simp [kp, List.filter_filter]
theorem kp_none {L : List Rn} : ∀ x ∈ kp L, plR x = false := fun x hx => by
  have := (List.mem_filter.1 hx).2
  simpa using this
theorem take_add (L : List Rn) (i j : Nat) (h : i ≤ j) : L.take j = L.take i ++ (L.drop i).take (j - i) := by
  have := List.take_add (l := L) (i := i) (j := j - i)
  rw [show i + (j - i) = j by omega] at this
  exact this
theorem drop_split (L : List Rn) (i j : Nat) (h : i ≤ j) : L.drop i = (L.drop i).take (j - i) ++ L.drop j := by
  have h1 := (List.take_append_drop (j - i) (L.drop i)).symm
  rw [List.drop_drop, show i + (j - i) = j by omega] at h1
  exact h1
/-- dropped twice -/
theorem dropF_twice (D : List Rn) (f j : Nat) (h : j ≤ f) : dropF (dropF D f) j = dropF D j := by
  unfold dropF
  by_cases hl : j ≤ D.length
  · have hlen : (D.take f).length = min f D.length := List.length_take
    have e1 : (D.take f ++ kp (D.drop f)).take j = D.take j := by
      rw [List.take_append_of_le_length (by omega), List.take_take, Nat.min_eq_left h]
    have e2 : (D.take f ++ kp (D.drop f)).drop j = (D.take f).drop j ++ kp (D.drop f) := by
      rw [List.drop_append_of_le_length (by omega)]
    rw [e1, e2, kp_app, kp_kp, ← kp_app]
    congr 2
    rw [List.drop_take]
    exact (drop_split D j f h).symm
  · have hD : D.take f = D := List.take_of_length_le (by omega)
    have hD2 : D.drop f = [] := List.drop_of_length_le (by omega)
    rw [hD, hD2]
    simp [kp]
/-- what has none that may be left out begins with what stood there -/
theorem dropF_begin (E : List Rn) (c j : Nat) (h : ∀ x ∈ (E.take c).drop j, plR x = false) : ∃ Z, dropF E j = E.take c ++ Z := by
  obtain ⟨X, hX⟩ : ∃ X, E.take c = X := ⟨_, rfl⟩
  obtain ⟨Y, hY⟩ : ∃ Y, E.drop c = Y := ⟨_, rfl⟩
  have hE : E = X ++ Y := by rw [← hX, ← hY]; exact (List.take_append_drop c E).symm
  rw [hX] at h ⊢
  subst hE
  unfold dropF
  by_cases hj : j ≤ X.length
  · rw [List.take_append_of_le_length hj, List.drop_append_of_le_length hj, kp_app, kp_all h]
    exact ⟨kp Y, by rw [← List.append_assoc, List.take_append_drop]⟩
  · rw [List.take_append, List.drop_append, List.take_of_length_le (show X.length ≤ j by omega), List.drop_of_length_le (show X.length ≤ j by omega), List.append_assoc]
    exact ⟨_, rfl⟩
theorem cp_anti (D : List Rn) (i j : Nat) (h : i ≤ j) : cp (D.drop j) ≤ cp (D.drop i) := by
  rw [drop_split D i j h, cp_app]
  omega
/-- as many left out is the same left out -/
theorem dropF_same (D : List Rn) (f j : Nat) (h : f ≤ j) (hc : cp (D.drop f) ≤ cp (D.drop j)) : dropF D j = dropF D f := by
  have e := drop_split D f j h
  have t := take_add D f j h
  obtain ⟨M, hM⟩ : ∃ M, (D.drop f).take (j - f) = M := ⟨_, rfl⟩
  rw [hM] at e t
  have hz : cp M = 0 := by rw [e, cp_app] at hc; omega
  unfold dropF
  rw [t, e, kp_app, kp_all (cp_zero hz), List.append_assoc]
/-- what is left out for n -/
theorem cp_ex (D : List Rn) : ∀ n, n ≤ cp D → ∃ f, f ≤ D.length ∧ cp (D.drop f) = n := by
  intro n
  induction D generalizing n with
  | nil => intro h; exact ⟨0, Nat.le_refl _, by simp [cp] at h ⊢; omega⟩
  | cons x D ih =>
    intro h
    by_cases hn : n ≤ cp D
    · obtain ⟨f, h1, h2⟩ := ih n hn
      exact ⟨f + 1, by simpa using h1, by simpa using h2⟩
    · refine ⟨0, Nat.zero_le _, ?_⟩
      have h1 : cp (x :: D) = cp [x] + cp D := cp_app [x] D
      have h2 : cp [x] ≤ 1 := List.length_filter_le _ _
      simp only [List.drop_zero]
      omega

/-! What has room. -/
theorem runR_room (most : Int) : ∀ (L : List Rn) (s : PS) (c : Nat), (∀ r ∈ L, rOK r = true) → POk s → (((recL L s).out.size : Nat) : Int) ≤ most → (runR most L s c).1 = recL L s
  | [], s, c, _, _, _ => rfl
  | r :: l, s, c, hL, hs, h => by
    have h1 := (recL_pf (r :: l) s hL hs).1.size
    unfold runR
    rw [if_neg (by omega)]
    exact runR_room most l (recR r s) (c + 1) (fun x hx => hL x (List.mem_cons_of_mem _ hx)) (recR_ok (hL r List.mem_cons_self) hs).1 h
theorem runR_whole (most : Int) : ∀ (L : List Rn) (s : PS) (c : Nat), (∀ r ∈ L, rOK r = true) → POk s → (((runR most L s c).1.out.size : Nat) : Int) ≤ most → (runR most L s c).1 = recL L s
  | [], s, c, _, _, _ => rfl
  | r :: l, s, c, hL, hs, h => by
    unfold runR at h ⊢
    by_cases hm : most < (s.out.size : Int)
    · rw [if_pos hm] at h; simp only at h; omega
    · rw [if_neg hm] at h ⊢
      exact runR_whole most l (recR r s) (c + 1) (fun x hx => hL x (List.mem_cons_of_mem _ hx)) (recR_ok (hL r List.mem_cons_self) hs).1 h
/-- what was written: the first records -/
theorem runR_first (most : Int) : ∀ (L : List Rn) (s : PS) (c : Nat), c ≤ (runR most L s c).2 ∧ (runR most L s c).1 = recL (L.take ((runR most L s c).2 - c)) s
  | [], s, c => ⟨Nat.le_refl _, by simp [runR, recL]⟩
  | r :: l, s, c => by
    unfold runR
    by_cases hm : most < (s.out.size : Int)
    · rw [if_pos hm]
      exact ⟨Nat.le_refl _, by simp [recL]⟩
    · rw [if_neg hm]
      obtain ⟨h1, h2⟩ := runR_first most l (recR r s) (c + 1)
      refine ⟨by omega, ?_⟩
      rw [h2]
      rw [show (runR most l (recR r s) (c + 1)).2 - c = ((runR most l (recR r s) (c + 1)).2 - (c + 1)) + 1 by omega]
      rfl
theorem recL_sim : ∀ (L : List Rn) {a b : PS}, Sim a b → Sim (recL L a) (recL L b)
  | [], _, _, h => h
  | r :: l, _, _, h => recL_sim l (recR_sim r h)
theorem head_sim (i0 i2 i9 : Nat) (b1 b3 b4 b5 b6 b7 b8 : Bool) (q a u d d2 : Nat) (s : PS) : Sim (headP i0 i2 i9 b1 b3 b4 b5 b6 b7 b8 q a u d s) (headP i0 i2 i9 b1 b3 b4 b5 b6 b7 b8 q a u d2 s) :=
  ⟨by show (((((( _ ++ _) ++ _) ++ _) ++ _) ++ _) ++ _ : ByteArray).size = (((((( _ ++ _) ++ _) ++ _) ++ _) ++ _) ++ _ : ByteArray).size
      simp only [ByteArray.size_append, numB_size], rfl⟩
theorem head_pok (i0 i2 i9 : Nat) (b1 b3 b4 b5 b6 b7 b8 : Bool) (q a u d : Nat) : POk (headP i0 i2 i9 b1 b3 b4 b5 b6 b7 b8 q a u d ⟨.empty, []⟩) := by
  have h0 : POk ⟨.empty, []⟩ := ⟨(fun x hx => by cases hx), Nat.le_refl _⟩
  exact (((((h0.more _).more _).more _).more _).more _).more _
theorem fit_parts {i0 i2 i9 : Nat} {b1 b3 b4 b5 b6 b7 b8 : Bool} {Q : List Qn} {A U D : List Rn} (hm : msgOK i0 i2 i9 Q A U D = true) : (∀ r ∈ A ++ U ++ D, rOK r = true) ∧ POk (quesL Q (headP i0 i2 i9 b1 b3 b4 b5 b6 b7 b8 Q.length A.length U.length D.length ⟨.empty, []⟩)) := by
  obtain ⟨_, _, _, _, _, _, _, hlst⟩ := msgOK_parts hm
  obtain ⟨oq, oa, ou, od⟩ := lstOK_parts hlst
  refine ⟨fun r hr => ?_, (quesL_ok Q _ oq (head_pok i0 i2 i9 b1 b3 b4 b5 b6 b7 b8 _ _ _ _)).1⟩
  rcases List.mem_append.1 hr with h | h
  · rcases List.mem_append.1 h with h | h
    · exact oa r h
    · exact ou r h
  · exact od r h
/-- has it room? -/
def okD (most : Int) (i0 i2 i9 : Nat) (b1 b3 b4 b5 b6 b7 b8 : Bool) (Q : List Qn) (A U D : List Rn) : Prop := (((fitR most i0 i2 i9 b1 b3 b4 b5 b6 b7 b8 Q A U D).1.out.size : Nat) : Int) ≤ most
/-- it has room where all of it has -/
theorem okD_pack {most : Int} {i0 i2 i9 : Nat} {b1 b3 b4 b5 b6 b7 b8 : Bool} {Q : List Qn} {A U D : List Rn} (hm : msgOK i0 i2 i9 Q A U D = true) (hmo : most ≤ 65535) : okD most i0 i2 i9 b1 b3 b4 b5 b6 b7 b8 Q A U D ↔ (((packS i0 i2 i9 b1 b3 b4 b5 b6 b7 b8 Q A U D).out.size : Nat) : Int) ≤ most := by
  obtain ⟨hr, hp⟩ := fit_parts (b1 := b1) (b3 := b3) (b4 := b4) (b5 := b5) (b6 := b6) (b7 := b7) (b8 := b8) hm
  unfold okD fitR packS
  constructor
  · intro h
    have h1 := runR_whole most _ _ 0 hr hp h
    rw [h1] at h
    rw [runR_room 65535 _ _ 0 hr hp (by omega)]
    exact h
  · intro h
    have h1 := runR_whole 65535 _ _ 0 hr hp (by omega)
    rw [h1] at h
    rw [runR_room most _ _ 0 hr hp h]
    exact h
/-- what hasn't room has none with more behind it -/
theorem okD_more {most : Int} {i0 i2 i9 : Nat} {b1 b3 b4 b5 b6 b7 b8 : Bool} {Q : List Qn} {A U E Z : List Rn} {c : Nat} (hm : msgOK i0 i2 i9 Q A U E = true) (hm2 : msgOK i0 i2 i9 Q A U (E.take c ++ Z) = true) (hno : ¬ okD most i0 i2 i9 b1 b3 b4 b5 b6 b7 b8 Q A U E) (hc : (fitR most i0 i2 i9 b1 b3 b4 b5 b6 b7 b8 Q A U E).2 - A.length - U.length = c) : ¬ okD most i0 i2 i9 b1 b3 b4 b5 b6 b7 b8 Q A U (E.take c ++ Z) := by
  intro hok
  obtain ⟨hr, hp⟩ := fit_parts (b1 := b1) (b3 := b3) (b4 := b4) (b5 := b5) (b6 := b6) (b7 := b7) (b8 := b8) hm
  obtain ⟨hr2, hp2⟩ := fit_parts (b1 := b1) (b3 := b3) (b4 := b4) (b5 := b5) (b6 := b6) (b7 := b7) (b8 := b8) hm2
  unfold okD at hok hno
  unfold fitR at hok hno hc
  obtain ⟨s, hs⟩ : ∃ s, quesL Q (headP i0 i2 i9 b1 b3 b4 b5 b6 b7 b8 Q.length A.length U.length E.length ⟨.empty, []⟩) = s := ⟨_, rfl⟩
  obtain ⟨s2, hs2⟩ : ∃ s2, quesL Q (headP i0 i2 i9 b1 b3 b4 b5 b6 b7 b8 Q.length A.length U.length (E.take c ++ Z).length ⟨.empty, []⟩) = s2 := ⟨_, rfl⟩
  have hsim : Sim s s2 := by rw [← hs, ← hs2]; exact quesL_sim Q (head_sim i0 i2 i9 b1 b3 b4 b5 b6 b7 b8 _ _ _ _ _ _)
  rw [hs] at hno hc hp
  rw [hs2] at hok hp2
  obtain ⟨_, h1⟩ := runR_first most (A ++ U ++ E) s 0
  rw [Nat.sub_zero] at h1
  obtain ⟨n, hn⟩ : ∃ n, (runR most (A ++ U ++ E) s 0).2 = n := ⟨_, rfl⟩
  rw [hn] at h1 hc
  rw [h1] at hno
  rw [runR_whole most _ _ 0 hr2 hp2 hok] at hok
  obtain ⟨Y, hY⟩ : ∃ Y, A ++ U ++ (E.take c ++ Z) = (A ++ U ++ E).take n ++ Y := by
    by_cases hnl : n ≤ A.length + U.length
    · rw [List.take_append_of_le_length (by rw [List.length_append]; exact hnl)]
      refine ⟨(A ++ U).drop n ++ (E.take c ++ Z), ?_⟩
      rw [← List.append_assoc ((A ++ U).take n), List.take_append_drop]
    · have hc2 : n - (A ++ U).length = c := by rw [List.length_append]; omega
      rw [List.take_append, hc2, show (A ++ U).take n = A ++ U from List.take_of_length_le (by rw [List.length_append]; omega)]
      exact ⟨Z, by rw [List.append_assoc (A ++ U)]⟩
  rw [hY, recL_app] at hok
  have h3 : ((recL ((A ++ U ++ E).take n) s2).out.size) ≤ (recL Y (recL ((A ++ U ++ E).take n) s2)).out.size := by
    have hrl : ∀ r ∈ (A ++ U ++ E).take n ++ Y, rOK r = true := by rw [← hY]; exact hr2
    have h4 := recL_pf ((A ++ U ++ E).take n) s2 (fun r h => hrl r (List.mem_append_left _ h)) hp2
    exact (recL_pf Y _ (fun r h => hrl r (List.mem_append_right _ h)) h4.2).1.size
  have h5 := (recL_sim ((A ++ U ++ E).take n) hsim).sz
  omega
end Go.Proofs.YtjnmbgmdkkiidaaGreat
