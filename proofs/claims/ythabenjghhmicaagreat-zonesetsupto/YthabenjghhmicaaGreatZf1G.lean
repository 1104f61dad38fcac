import Derived.Test.YthabenjghhmicaaGreatZq1G
/-
  Proofs: what stands at a place of a zone, and what is there. (The verifier's own text.)
-/
namespace Go.Proofs.YthabenjghhmicaaGreat
set_option linter.unusedVariables false
set_option linter.unusedSimpArgs false
open Go.RowKit Go.Shelf Go.Maps Go.Proofs.YthabenjghhmicaaGreat.Nm Go.Proofs.YthabenjghhmicaaGreat.Zs

/-- the records at a place -/
def stT (T : List Rn) (o : ByteArray) (t : Int) : List Rn := T.filter fun r => mtc (o, t) (senS r)
/-- is a folded name there? -/
def thB (apex : ByteArray) (T : List Rn) (x : ByteArray) : Bool := (namK apex T T.length).any fun y => decide (y = x)
section
variable {n : Nat} {W : World} {apex : ByteArray} {L : List Rn} {ord : List Nat} {Z RW NM C m cnt : Nat} {p : Option Addr} {cp : Nat} {f : ByteArray → Option Nat}
set_option maxRecDepth 100000 in
set_option maxHeartbeats 2000000 in
/-- (*zone.Zone).at, in new memory -/
theorem atZ_any (h : Zon n W apex L ord Z RW NM C m cnt p cp f) (o : ByteArray) (t : Int) (hx : plG (o, t)) :
    Calls Tryz.prog 47 #[.pointer (some ⟨Z, 0, none⟩), .string o, .int .i64 t] W fun r w' => (∃ v, r = .returned v ∧ w'.ownsRow W.heap.size 54 5 v (stT (ord.map (rAt L)) o t).length (rce5 (stT (ord.map (rAt L)) o t))) ∧ Below W.heap.size W w' := by
  have hT := h.laid.tlen
  have hUl : (ord.map (seAt (L.map senS))).length = L.length := by rw [List.length_map, h.laid.len]
  have hf := row_le h.laid.us (o, t)
  rw [hUl] at hf
  have hrow := h.laid.row (o, t)
  have hl := h.rows.look1 hx
  have hfew := h.few
  obtain ⟨p0, c0, he, hc1, hc2, hc3⟩ := own_shape h.own
  injection he with he1 he2 he3
  subst he1 he3
  have z1 : W.cell? ⟨Z, 1, none⟩ = some (.slice p L.length cp) := h.zx.cell rfl
  have z2 : W.cell? ⟨Z, 2, none⟩ = some (.map (some RW)) := h.zx.cell rfl
  obtain ⟨⟨a, e⟩, hae⟩ : ∃ y, (rowsF (ord.map (seAt (L.map senS))) L.length (o, t)).getD (0, 0) = y := ⟨_, rfl⟩
  rw [hae] at hf hl hrow
  clear hae
  unfold plV rwV at hl
  simp only at hf hl
  have hX : stT (ord.map (rAt L)) o t = rowT (ord.map (rAt L)) (a, e) := hrow.symm
  rw [hX]
  clear hX hrow
  have hln := rowT_len (T := ord.map (rAt L)) (x := (a, e)) (by rw [hT]; exact hf.2)
  simp only at hln
  obtain ⟨wa, hwa⟩ : ∃ wa, W.alloc (.cells #[.int .i64 (a : Int), .int .i64 (e : Int)] 116) = wa := ⟨_, rfl⟩
  have hBa : Below W.heap.size W wa := hwa ▸ (Below.refl _ W).alloc (Nat.le_refl _) _
  have HBa := hide' hBa
  have HXa : Hid (Bx wa W.heap.size #[.int .i64 (a : Int), .int .i64 (e : Int)] 116) := hwa ▸ World.alloc_heap_new W _
  have x0 : wa.cell? ⟨W.heap.size, 0, none⟩ = some (.int .i64 (a : Int)) := HXa.out.cell rfl
  have x1 : wa.cell? ⟨W.heap.size, 1, none⟩ = some (.int .i64 (e : Int)) := HXa.out.cell rfl
  have y1 : wa.cell? ⟨Z, 1, none⟩ = some (.slice p L.length cp) := (h.zx.below hBa h.zx.lt).cell rfl
  obtain ⟨q, c, hq0, hrun, hrs⟩ := run_sliceZ (ord.map (rAt L)) p cp a e (by omega) hc2 hc3 hf.1 (by omega)
  rw [hT] at hrun
  have hat : RsAt W p (ord.map (rAt L)) := rsAt_ownZ h.own hT.symm
  have HCl : Hid (∀ V, Below wa.heap.size wa V → Calls Tryz.prog 58 #[.slice q (e - a) c] V fun r w' => (∃ v, r = .returned v ∧ w'.ownsRow W.heap.size 54 5 v (rowT (ord.map (rAt L)) (a, e)).length (rce5 (rowT (ord.map (rAt L)) (a, e)))) ∧ Below V.heap.size V w') := fun V hV => by
    have hb : Below W.heap.size W V := bstep HBa.out hV HBa.out.size
    have hcl := cloneZ_any (rowT (ord.map (rAt L)) (a, e)) q c V (by rw [hln]; omega) (hrs V (rs_stay hat hb)) hq0
    rw [hln] at hcl
    refine hcl.mono ?_
    rintro r w' ⟨⟨v, rfl, hown⟩, hB⟩
    rw [hln]
    exact ⟨⟨v, rfl, own_baseZ hown hb.size⟩, hB⟩
  have HQ : Hid (∀ V, Below wa.heap.size wa V → V.cell? ⟨W.heap.size, 0, none⟩ = some (.int .i64 (a : Int)) ∧ V.cell? ⟨W.heap.size, 1, none⟩ = some (.int .i64 (e : Int)) ∧ V.cell? ⟨Z, 1, none⟩ = some (.slice p L.length cp)) := fun V hV =>
    ⟨(HXa.out.below hV HXa.out.lt).cell rfl, (HXa.out.below hV HXa.out.lt).cell rfl, ((h.zx.below HBa.out h.zx.lt).below hV (Nat.lt_of_lt_of_le h.zx.lt HBa.out.size)).cell rfl⟩
  have hB := (Below.refl wa.heap.size wa).drew
  clear hrs hat hBa h hx hT hUl hc1 hc2 hc3 he2 hln
  go_enter Tryz.func47, Tryz.ntmps47
  go_wp2_with fail
  go_region_held3 (fun V => V.cell? ⟨W.heap.size, 0, none⟩ = some (.int .i64 (a : Int)) ∧ V.cell? ⟨W.heap.size, 1, none⟩ = some (.int .i64 (e : Int)) ∧ V.cell? ⟨Z, 1, none⟩ = some (.slice p L.length cp)) (first | go_keep | (with_reducible exact HQ.out _ hB)) ((go_at_call 58; refine (HCl.out _ hB).mono ?_; rintro r w2 ⟨⟨v, rfl, hr2⟩, hB2⟩; have HR2 := hide' hr2; have hB := bstep hB hB2 hB.size; clear hB2 hr2))
  all_goals
    go_wp2_with fail
    go_ret
    exact ⟨⟨v, rfl, HR2.out⟩, bstep HBa.out hB HBa.out.size⟩
theorem stT_any (T : List Rn) (o : ByteArray) (t : Int) : (!(stT T o t).isEmpty) = T.any fun r => mtc (o, t) (senS r) := by
  unfold stT
  cases hb : T.any fun r => mtc (o, t) (senS r) with
  | true =>
    obtain ⟨x, hx, hm⟩ := List.any_eq_true.1 hb
    have : x ∈ T.filter fun r => mtc (o, t) (senS r) := List.mem_filter.2 ⟨hx, hm⟩
    cases hl : T.filter fun r => mtc (o, t) (senS r) with
    | nil => rw [hl] at this; cases this
    | cons => rfl
  | false =>
    have : T.filter (fun r => mtc (o, t) (senS r)) = [] := by
      rw [List.filter_eq_nil_iff]
      intro x hx
      rw [List.any_eq_false] at hb
      exact hb x hx
    rw [this]; rfl
/-- (*zone.Zone).has -/
theorem hasZ_any (h : Zon n W apex L ord Z RW NM C m cnt p cp f) (o : ByteArray) (t : Int) (hx : plG (o, t)) :
    Calls Tryz.prog 92 #[.pointer (some ⟨Z, 0, none⟩), .string o, .int .i64 t] W fun r w' => r = .returned (.bool (!(stT (ord.map (rAt L)) o t).isEmpty)) ∧ Below W.heap.size W w' := by
  have hUl : (ord.map (seAt (L.map senS))).length = L.length := by rw [List.length_map, h.laid.len]
  have hT := h.laid.tlen
  have hs := row_has h.laid.us (o, t)
  rw [hUl, h.laid.sens] at hs
  have key : (!(stT (ord.map (rAt L)) o t).isEmpty) = (rowsF (ord.map (seAt (L.map senS))) L.length (o, t)).isSome := by
    rw [stT_any, h.laid.sens, hs, Bool.eq_iff_iff, List.any_eq_true, List.any_eq_true]
    constructor
    · rintro ⟨x, hx, hm⟩
      obtain ⟨i, hi, rfl⟩ := mem_at hx
      exact ⟨i, List.mem_range.2 (by omega), by rw [seAt_map hi]; exact hm⟩
    · rintro ⟨i, hi, hm⟩
      rw [List.mem_range] at hi
      have hi' : i < (ord.map (rAt L)).length := by omega
      rw [seAt_map hi'] at hm
      exact ⟨_, rAt_mem hi', hm⟩
  rw [key]
  exact has_any Z RW NM m apex _ (o, t) _ W h.zx h.rows hx
/-- (*zone.Zone).isThere -/
theorem thereZ_any (h : Zon n W apex L ord Z RW NM C m cnt p cp f) (x : ByteArray) (hx : x.size ≤ 255) :
    Calls Tryz.prog 49 #[.pointer (some ⟨Z, 0, none⟩), .string x] W fun r w' => r = .returned (.bool (thB apex (ord.map (rAt L)) x)) ∧ w' = W := by
  have hg : stG x := by unfold stG maxLen; omega
  have key : thB apex (ord.map (rAt L)) x = (f x).isSome := by
    unfold thB
    rw [h.laid.tlen, Bool.eq_iff_iff, h.dm x hg, List.any_eq_true]
    constructor
    · rintro ⟨y, hy, he⟩
      rw [← of_decide_eq_true he]; exact hy
    · intro hm
      exact ⟨x, hm, by simp⟩
  rw [key]
  exact isThere_any Z RW NM cnt apex _ x f W h.zx h.nm hg
end
end Go.Proofs.YthabenjghhmicaaGreat

/-
  Proofs: slices.DeleteFunc with zone's function. (The verifier's own text; after Ft2, Ft3.)
-/
namespace Go.Proofs.YthabenjghhmicaaGreat.Zd
set_option linter.unusedVariables false
set_option linter.unusedSimpArgs false
open Go.RowKit Go.Shelf Go.Maps Go.Proofs.YthabenjghhmicaaGreat Go.Proofs.YthabenjghhmicaaGreat.Nm

def plR (r : Rn) : Bool := !countB r
set_option maxRecDepth 100000 in
set_option maxHeartbeats 1000000 in
/-- (*zone.Zone).says's function -/
theorem isPlain_any (o d : ByteArray) (t c l : Int) (w : World) (hd : d.size ≤ maxLen) :
    Calls Tryz.prog 94 #[.agg #[.string o, .int .i64 t, .int .i64 c, .int .i64 l, .string d]] w fun r w' => r = .returned (.bool (!countB ⟨o, t, c, l, d⟩)) ∧ Below w.heap.size w w' := by
  have K0 := hide' (Bk.start w ⟨o, t, c, l, d⟩)
  obtain ⟨wa, hwa⟩ : ∃ wa, w.alloc (.cells #[.string o, .int .i64 t, .int .i64 c, .int .i64 l, .string d] 54) = wa := ⟨_, rfl⟩
  simp only at K0
  rw [hwa] at K0
  obtain ⟨v0, v1, v2, v3, v4⟩ := K0.out.cells
  simp only at v0 v1 v2 v3 v4
  have HC := hide' (fun V => counts_any ⟨o, t, c, l, d⟩ V hd)
  unfold rcV at HC
  simp only at HC
  obtain ⟨z, hz⟩ : ∃ z, countB ⟨o, t, c, l, d⟩ = z := ⟨_, rfl⟩
  rw [hz] at HC ⊢
  clear hz
  go_enter Tryz.func94, Tryz.ntmps94
  go_wp2_with (go_at_call 84; refine (HC.out _).mono ?_; rintro e w1 ⟨rfl, hB1⟩)
  go_ret
  exact ⟨rfl, bstep K0.out.bl hB1 K0.out.bl.size⟩

/-- records in a block, from a place on -/
def RsG (w : World) (g off : Nat) (L : List Rn) : Prop := ∀ k, (hk : k < L.length) → w.cell? ⟨g, off + k * 5, none⟩ = some (.string L[k].o) ∧ w.cell? ⟨g, off + k * 5 + 1, none⟩ = some (.int .i64 L[k].t) ∧ w.cell? ⟨g, off + k * 5 + 2, none⟩ = some (.int .i64 L[k].c) ∧ w.cell? ⟨g, off + k * 5 + 3, none⟩ = some (.int .i64 L[k].l) ∧ w.cell? ⟨g, off + k * 5 + 4, none⟩ = some (.string L[k].d)
theorem rsAt_block {w : World} {g : Nat} {A B : List Rn} {rest : List Value} (h : Rb w g (A ++ B) rest) : RsAt w (some ⟨g, A.length * 5, none⟩) B := fun k hk => by
  obtain ⟨h0, h1, h2, h3, h4⟩ := h.cells (j := A.length + k) (by rw [List.length_append]; omega)
  have e : (A ++ B)[A.length + k]'(by rw [List.length_append]; omega) = B[k] := by
    rw [List.getElem_append_right (by omega)]; congr 1; omega
  rw [e] at h0 h1 h2 h3 h4
  have e5 : (A.length + k) * 5 = A.length * 5 + k * 5 := by omega
  rw [e5] at h0 h1 h2 h3 h4
  exact ⟨g, A.length * 5, rfl, h.lt, h0, h1, h2, h3, h4⟩

set_option maxRecDepth 100000 in
set_option maxHeartbeats 1000000 in
/-- slices.IndexFunc with isPlain -/
theorem indexPlain_any (L : List Rn) (p : Option Addr) (cap : Nat) (w : World) (hL : L.length ≤ 4294967296) (hat : RsAt w p L) (hsz : ∀ x ∈ L, x.d.size ≤ maxLen) :
    Calls Tryz.prog 34 #[.slice p L.length cap, .func (Fn.func 94) #[] #[]] w fun r w' => ((r = .returned (.int .i64 (-1)) ∧ ∀ x ∈ L, plR x = false) ∨ ∃ i : Nat, ∃ hi : i < L.length, r = .returned (.int .i64 (i : Int)) ∧ plR L[i] = true ∧ ∀ x ∈ L.take i, plR x = false) ∧ Below w.heap.size w w' := by
  have HA := hide' hat
  clear hat
  go_enter Tryz.func34, Tryz.ntmps34
  go_wp2_with fail
  go_loopw [8] (fun i wr => ∃ k : Nat, i = .int .i64 (k : Int) ∧ k ≤ L.length ∧ Hid (∀ x ∈ L.take k, plR x = false) ∧ Below w.heap.size w wr) (fun i _ => L.length - (intOf i).toNat)
  case atStart => exact ⟨0, rfl, Nat.zero_le _, (fun x h => by simp at h), Below.refl _ _⟩
  case round =>
    obtain ⟨k, rfl, hk, HN, hBr⟩ := hrel
    have HBr := hide' hBr
    by_cases hlt : k < L.length
    · obtain ⟨g, off, rfl, hg, e0, e1, e2, e3, e4⟩ := rs_stay HA.out hBr k hlt
      have HTk : Hid (L.take (k + 1) = L.take k ++ [L[k]]) := List.take_succ_eq_append_getElem hlt
      obtain ⟨x, hx⟩ : ∃ x, L[k] = x := ⟨_, rfl⟩
      have HX := hide' hx
      have hxz := hsz _ (List.getElem_mem hlt)
      rw [hx] at e0 e1 e2 e3 e4 HTk hxz
      clear hx hBr
      obtain ⟨xo, xt, xc, xl, xd⟩ := x
      simp only at e0 e1 e2 e3 e4 hxz
      cases hp : (!countB ⟨xo, xt, xc, xl, xd⟩) with
      | true =>
        have HP := hide' hp
        go_wp2_with (go_at_call 94; refine (isPlain_any xo xd xt xc xl _ hxz).mono ?_; rintro r w2 ⟨rfl, hB2⟩; rw [hp])
        go_ret
        refine ⟨.inr ⟨k, hlt, rfl, ?_, HN.out⟩, bstep HBr.out hB2 HBr.out.size⟩
        rw [HX.out]; exact HP.out
      | false =>
        have HP := hide' hp
        go_wp2_with (go_at_call 94; refine (isPlain_any xo xd xt xc xl _ hxz).mono ?_; rintro r w2 ⟨rfl, hB2⟩; rw [hp])
        go_roundw
        case rel =>
          refine ⟨k + 1, by go_num, by omega, ?_, bstep HBr.out hB2 HBr.out.size⟩
          intro y hy
          rw [HTk.out] at hy
          rcases List.mem_append.1 hy with h | h
          · exact HN.out y h
          · rw [List.mem_singleton.1 h]; exact HP.out
        case measure => simp [intOf]; omega
    · have hkk : k = L.length := by omega
      have HKK := hide' hkk
      clear hkk
      go_wp2_with fail
      go_ret
      refine ⟨.inl ⟨rfl, ?_⟩, HBr.out⟩
      intro x hx
      have := HN.out x
      rw [HKK.out, List.take_length] at this
      exact this hx
/-- what may not be left out -/
def kp (B : List Rn) : List Rn := B.filter fun r => !plR r
theorem kp_le (B : List Rn) : (kp B).length ≤ B.length := List.length_filter_le _ _
theorem kp_all {B : List Rn} (h : ∀ x ∈ B, plR x = false) : kp B = B := List.filter_eq_self.2 fun x hx => by rw [h x hx]; rfl
theorem kp_app (A B : List Rn) : kp (A ++ B) = kp A ++ kp B := List.filter_append ..
theorem run_from (g o len cap i : Nat) (hi : i ≤ len) (hc : len ≤ cap) (hne : i < cap) (W : World) : (Instr.slice 22 (.slice (some ⟨g, o, none⟩) len cap) (some (.int .i64 (i : Int))) none none).run Tryz.prog W = .ok (.slice (some ⟨g, o + i * 5, none⟩) (len - i) (cap - i)) W := by
  have ht' : Tryz.prog.underlying 22 = some (.slice (Tryz.prog.elem 22)) := by simp [Program.elem, Tryz.underlying22]
  have he' : Tryz.prog.elem 22 = 54 := by simp [Program.elem, Tryz.underlying22]
  rw [run_slice_l W _ _ _ _ ht' .i64 _ (by omega) (by omega), he', Tryz.sizeOf54]
  have e1 : ¬ cap = i := by omega
  rcases Nat.eq_zero_or_pos i with rfl | hp
  · simp [Result.andThen, sliced, Addr.add]
  · have e2 : ¬ i * 5 = 0 := by omega
    simp [Result.andThen, sliced, Addr.add, e1]
    omega
theorem run_upto (g o len cap i : Nat) (hc : i ≤ cap) (W : World) : (Instr.slice 22 (.slice (some ⟨g, o, none⟩) len cap) none (some (.int .i64 (i : Int))) none).run Tryz.prog W = .ok (.slice (some ⟨g, o, none⟩) i cap) W := by
  have ht' : Tryz.prog.underlying 22 = some (.slice (Tryz.prog.elem 22)) := by simp [Program.elem, Tryz.underlying22]
  have he' : Tryz.prog.elem 22 = 54 := by simp [Program.elem, Tryz.underlying22]
  rw [run_slice_h W _ _ _ _ ht' .i64 _ (by omega) (by omega), he', Tryz.sizeOf54]
  simp [Result.andThen, sliced, Addr.add]
theorem zero_run (w : World) : (zeroValue 54).run Tryz.prog w = .ok (.agg (ren5 zR).toArray) w := by
  have hz : Tryz.t54.zero = some (.agg (ren5 zR).toArray) := by kernel_rfl
  simp [zeroValue, hz]
/-- where DeleteFunc stands: the first i are kept, from j on nothing has turned -/
structure Dl (w wr : World) (g : Nat) (A B : List Rn) (rest : List Value) (i j : Nat) (F : List Rn) : Prop where
  rb : Rb wr g (A ++ F) rest
  len : F.length = B.length
  took : F.take i = kp (B.take j)
  drop : F.drop j = B.drop j
  gr : w.grownBy wr (some g)
theorem Dl.skip {w wr w2 : World} {g : Nat} {A B : List Rn} {rest : List Value} {i j : Nat} {F : List Rn} (h : Dl w wr g A B rest i j F) (hj : j < B.length) (hp : plR B[j] = true) (hb : Below wr.heap.size wr w2) : Dl w w2 g A B rest i (j + 1) F := by
  refine ⟨h.rb.below hb h.rb.lt, h.len, ?_, ?_, grown_trans h.gr (grown_below hb _)⟩
  · rw [h.took, List.take_succ_eq_append_getElem hj, kp_app]
    have : kp [B[j]] = [] := by simp [kp, hp]
    rw [this, List.append_nil]
  · have := congrArg (List.drop 1) h.drop
    simpa [List.drop_drop, Nat.add_comm] using this
theorem Dl.keep {w wr w2 : World} {g : Nat} {A B : List Rn} {rest : List Value} {i j : Nat} {F : List Rn} (h : Dl w wr g A B rest i j F) (hj : j < B.length) (hi : i < j) (hp : plR B[j] = false) (hb : Below wr.heap.size wr w2) : Dl w (setR w2 g (A.length * 5 + i * 5) B[j]) g A B rest (i + 1) (j + 1) (F.set i B[j]) := by
  have hl := h.len
  have h1 : Rb w2 g (A ++ F) rest := h.rb.below hb h.rb.lt
  have h2 := h1.put (j := A.length + i) (by rw [List.length_append]; omega) B[j]
  have e1 : (A.length + i) * 5 = A.length * 5 + i * 5 := by omega
  have e2 : (A ++ F).set (A.length + i) B[j] = A ++ F.set i B[j] := by rw [List.set_append_right _ _ (by omega), Nat.add_sub_cancel_left]
  rw [e1, e2] at h2
  refine ⟨h2, by simpa using hl, ?_, ?_, ?_⟩
  · rw [List.take_succ_eq_append_getElem (by simp; omega), List.take_set_of_le (Nat.le_refl _), h.took, List.take_succ_eq_append_getElem hj, kp_app]
    have : kp [B[j]] = [B[j]] := by simp [kp, hp]
    rw [this]
    simp
  · rw [List.drop_set_of_lt (by omega)]
    have := congrArg (List.drop 1) h.drop
    simpa [List.drop_drop, Nat.add_comm] using this
  · rw [setR_cells]
    exact grown_trans h.gr (grown_trans (grown_below hb _) (grown_setCells g _ _ w2))

theorem Dl.at {w wr : World} {g : Nat} {A B : List Rn} {rest : List Value} {i j : Nat} {F : List Rn} (h : Dl w wr g A B rest i j F) (hj : j < B.length) : wr.cell? ⟨g, A.length * 5 + j * 5, none⟩ = some (.string B[j].o) ∧ wr.cell? ⟨g, A.length * 5 + j * 5 + 1, none⟩ = some (.int .i64 B[j].t) ∧ wr.cell? ⟨g, A.length * 5 + j * 5 + 2, none⟩ = some (.int .i64 B[j].c) ∧ wr.cell? ⟨g, A.length * 5 + j * 5 + 3, none⟩ = some (.int .i64 B[j].l) ∧ wr.cell? ⟨g, A.length * 5 + j * 5 + 4, none⟩ = some (.string B[j].d) := by
  have hl := h.len
  have hF : F[j] = B[j] := by
    have := congrArg (fun l => l[0]?) h.drop
    simp only [List.getElem?_drop, Nat.add_zero] at this
    rw [List.getElem?_eq_getElem (by omega), List.getElem?_eq_getElem hj] at this
    exact Option.some.inj this
  obtain ⟨g', off, hp, _, h0, h1, h2, h3, h4⟩ := rsAt_block h.rb j (by omega)
  injection hp with hp
  injection hp with e1 e2
  subst e1; subst e2
  rw [hF] at h0 h1 h2 h3 h4
  exact ⟨h0, h1, h2, h3, h4⟩
theorem rb_five {w : World} {g : Nat} {A F : List Rn} {rest : List Value} (h : Rb w g (A ++ F) rest) {i : Nat} (hi : i < F.length) : ∃ (o d : ByteArray) (t c l : Int), w.cell? ⟨g, A.length * 5 + i * 5, none⟩ = some (.string o) ∧ w.cell? ⟨g, A.length * 5 + i * 5 + 1, none⟩ = some (.int .i64 t) ∧ w.cell? ⟨g, A.length * 5 + i * 5 + 2, none⟩ = some (.int .i64 c) ∧ w.cell? ⟨g, A.length * 5 + i * 5 + 3, none⟩ = some (.int .i64 l) ∧ w.cell? ⟨g, A.length * 5 + i * 5 + 4, none⟩ = some (.string d) ∧ w.frozen? ⟨g, A.length * 5 + i * 5, none⟩ = false ∧ w.frozen? ⟨g, A.length * 5 + i * 5 + 1, none⟩ = false ∧ w.frozen? ⟨g, A.length * 5 + i * 5 + 2, none⟩ = false ∧ w.frozen? ⟨g, A.length * 5 + i * 5 + 3, none⟩ = false ∧ w.frozen? ⟨g, A.length * 5 + i * 5 + 4, none⟩ = false := by
  obtain ⟨g', off, hp, _, h0, h1, h2, h3, h4⟩ := rsAt_block h i hi
  injection hp with hp
  injection hp with e1 e2
  subst e1; subst e2
  exact ⟨_, _, _, _, _, h0, h1, h2, h3, h4, h.free _, h.free _, h.free _, h.free _, h.free _⟩
theorem idxNone {B : List Rn} {r : Ending} (hall : ∀ x ∈ B, plR x = false) (h : (r = .returned (.int .i64 (-1)) ∧ ∀ x ∈ B, plR x = false) ∨ ∃ i : Nat, ∃ hi : i < B.length, r = .returned (.int .i64 (i : Int)) ∧ plR B[i] = true ∧ ∀ x ∈ B.take i, plR x = false) : r = .returned (.int .i64 (-1)) := by
  rcases h with h | ⟨i, hi, _, h2, _⟩
  · exact h.1
  · have := hall _ (List.getElem_mem hi)
    rw [this] at h2; cases h2
theorem idxSome {B : List Rn} {r : Ending} (hall : (B.all fun x => !plR x) = false) (h : (r = .returned (.int .i64 (-1)) ∧ ∀ x ∈ B, plR x = false) ∨ ∃ i : Nat, ∃ hi : i < B.length, r = .returned (.int .i64 (i : Int)) ∧ plR B[i] = true ∧ ∀ x ∈ B.take i, plR x = false) : ∃ i : Nat, ∃ hi : i < B.length, r = .returned (.int .i64 (i : Int)) ∧ plR B[i] = true ∧ ∀ x ∈ B.take i, plR x = false := by
  rcases h with h | h
  · have : (B.all fun x => !plR x) = true := List.all_eq_true.2 fun x hx => by rw [h.2 x hx]; rfl
    rw [this] at hall; cases hall
  · exact h

set_option maxRecDepth 100000 in
set_option maxHeartbeats 4000000 in
/-- slices.DeleteFunc with isPlain -/
theorem deletePlain_any (A B : List Rn) (rest : List Value) (g cap : Nat) (w : World) (h : Rb w g (A ++ B) rest) (hc : B.length ≤ cap) (hB : B.length ≤ 65535) (hsz : ∀ x ∈ B, x.d.size ≤ maxLen) :
    Calls Tryz.prog 93 #[.slice (some ⟨g, A.length * 5, none⟩) B.length cap, .func (Fn.func 94) #[] #[]] w fun r w' => ∃ F, F.length = B.length ∧ F.take (kp B).length = kp B ∧ r = .returned (.slice (some ⟨g, A.length * 5, none⟩) (kp B).length cap) ∧ Rb w' g (A ++ F) rest ∧ w.grownBy w' (some g) := by
  have HR := hide' h
  have HI := hide' (indexPlain_any B (some ⟨g, A.length * 5, none⟩) cap w (by omega) (rsAt_block h) hsz)
  clear h
  obtain ⟨a5, ha5⟩ : ∃ a5, A.length * 5 = a5 := ⟨_, rfl⟩
  have HA5 := hide' ha5
  rw [ha5] at HI
  rw [ha5]
  clear ha5
  rcases hidx : (B.all fun x => !plR x) with _ | _
  · -- something goes
    have HS := hide' hidx
    clear hidx
    have HW := hide' (fun (W : World) (i : Nat) (h1 : i ≤ B.length) (h2 : i < cap) => run_from g a5 B.length cap i h1 hc h2 W)
    have HV := hide' (fun (W : World) (i : Nat) (h1 : i ≤ cap) => run_upto g a5 B.length cap i h1 W)
    go_enter Tryz.func93, Tryz.ntmps93
    go_wp2_with (go_at_call 34; refine HI.out.mono ?_; rintro r w1 ⟨hr, hB1⟩; obtain ⟨i0, hi0, rfl, hp0, hq0⟩ := (idxSome HS.out hr); have HP0 := hide' hp0; have HQ0 := hide' hq0; have HB1 := hide' hB1; have hne : ((i0 : Int) == -1) = false := (by rw [beq_eq_false_iff_ne]; omega); clear hr hB1 hp0 hq0)
    go_loopw [5, 6] (fun iv jv wr => ∃ (i j : Nat) (F : List Rn), iv = .int .i64 (i : Int) ∧ jv = .int .i64 (j : Int) ∧ i < j ∧ j ≤ B.length ∧ Hid (Dl w wr g A B rest i j F)) (fun _ jv _ => B.length - (intOf jv).toNat)
    case atStart =>
      refine ⟨i0, i0 + 1, B, rfl, by go_num, by omega, by omega, ⟨HR.out.below HB1.out HR.out.lt, rfl, ?_, rfl, grown_below HB1.out _⟩⟩
      rw [List.take_succ_eq_append_getElem hi0, kp_app, kp_all HQ0.out]
      have : kp [B[i0]] = [] := by simp [kp, HP0.out]
      rw [this, List.append_nil]
    case round =>
      obtain ⟨i, j, F, rfl, rfl, hij, hj, HD⟩ := hrel
      by_cases hlt : j < B.length
      · obtain ⟨x0, x1, x2, x3, x4⟩ := HD.out.at hlt
        rw [HA5.out] at x0 x1 x2 x3 x4
        obtain ⟨x, hx⟩ : ∃ x, B[j] = x := ⟨_, rfl⟩
        have HX := hide' hx
        have hxz := hsz _ (List.getElem_mem hlt)
        rw [hx] at x0 x1 x2 x3 x4 hxz
        clear hx
        obtain ⟨xo, xt, xc, xl, xd⟩ := x
        simp only at x0 x1 x2 x3 x4 hxz
        obtain ⟨wa, hwa⟩ : ∃ wa, wr.alloc (.cells #[.string xo, .int .i64 xt, .int .i64 xc, .int .i64 xl, .string xd] 54) = wa := ⟨_, rfl⟩
        have HV0 : Hid (Bx wa wr.heap.size #[.string xo, .int .i64 xt, .int .i64 xc, .int .i64 xl, .string xd] 54) := hwa ▸ World.alloc_heap_new wr _
        have HBa : Hid (Below wr.heap.size wr wa) := hwa ▸ (Below.refl _ wr).alloc (Nat.le_refl _) _
        have v0 : wa.cell? ⟨wr.heap.size, 0, none⟩ = some (.string xo) := HV0.out.cell rfl
        have v1 : wa.cell? ⟨wr.heap.size, 1, none⟩ = some (.int .i64 xt) := HV0.out.cell rfl
        have v2 : wa.cell? ⟨wr.heap.size, 2, none⟩ = some (.int .i64 xc) := HV0.out.cell rfl
        have v3 : wa.cell? ⟨wr.heap.size, 3, none⟩ = some (.int .i64 xl) := HV0.out.cell rfl
        have v4 : wa.cell? ⟨wr.heap.size, 4, none⟩ = some (.string xd) := HV0.out.cell rfl
        cases hp : (!countB ⟨xo, xt, xc, xl, xd⟩) with
        | true =>
          have HP := hide' hp
          go_wp2_with (go_at_call 94; refine (isPlain_any xo xd xt xc xl _ hxz).mono ?_; rintro r w2 ⟨rfl, hB2⟩; rw [hp])
          have hB3 : Below wr.heap.size wr w2 := bstep HBa.out hB2 HBa.out.size
          refine ⟨⟨i, j + 1, F, rfl, by go_num, by omega, by omega, HD.out.skip hlt (by rw [HX.out]; exact HP.out) hB3⟩, ?_⟩
          simp [intOf]; omega
        | false =>
          have HP := hide' hp
          go_wp2_with (go_at_call 94; refine (isPlain_any xo xd xt xc xl _ hxz).mono ?_; rintro r w2 ⟨rfl, hB2⟩; rw [hp]; have HV2 := hide' (HV0.out.below hB2 HV0.out.lt); have HB2 : Hid (Below wr.heap.size wr w2) := bstep HBa.out hB2 HBa.out.size; clear hB2 v0 v1 v2 v3 v4 x0 x1 x2 x3 x4; have z0 : w2.cell? ⟨wr.heap.size, 0, none⟩ = some (.string xo) := HV2.out.cell rfl; have z1 : w2.cell? ⟨wr.heap.size, 1, none⟩ = some (.int .i64 xt) := HV2.out.cell rfl; have z2 : w2.cell? ⟨wr.heap.size, 2, none⟩ = some (.int .i64 xc) := HV2.out.cell rfl; have z3 : w2.cell? ⟨wr.heap.size, 3, none⟩ = some (.int .i64 xl) := HV2.out.cell rfl; have z4 : w2.cell? ⟨wr.heap.size, 4, none⟩ = some (.string xd) := HV2.out.cell rfl; obtain ⟨yo, yd, yt, yc, yl, y0, y1, y2, y3, y4, f0, f1, f2, f3, f4⟩ := rb_five (i := i) (HD.out.rb.below HB2.out HD.out.rb.lt) (by rw [HD.out.len]; omega); rw [HA5.out] at y0 y1 y2 y3 y4 f0 f1 f2 f3 f4; have hiB : i < B.length := (by omega); obtain ⟨w3, hw3⟩ : ∃ w3, setR w2 g (a5 + i * 5) ⟨xo, xt, xc, xl, xd⟩ = w3 := ⟨_, rfl⟩; have HW3 := hide' hw3; unfold setR at hw3; simp only at hw3)
          have hk := HD.out.keep hlt hij (by rw [HX.out]; exact HP.out) HB2.out
          rw [HA5.out, HX.out, HW3.out] at hk
          refine ⟨⟨i + 1, j + 1, F.set i ⟨xo, xt, xc, xl, xd⟩, by go_num, by go_num, by omega, by omega, hk⟩, ?_⟩
          simp [intOf]; omega
      · have hjj : j = B.length := by omega
        have hl := HD.out.len
        have htk : F.take i = kp B := by rw [HD.out.took, hjj, List.take_length]
        have hil : i = (kp B).length := by
          have := congrArg List.length htk
          rw [List.length_take] at this
          omega
        have hib : i < B.length := by omega
        have hbc : i < cap := by omega
        have hsl := HW.out wr i (by omega) hbc
        have hrb : Rb wr g ((A ++ F.take i) ++ F.drop i) rest := by
          have := HD.out.rb
          rw [List.append_assoc, List.take_append_drop]; exact this
        have hdl : (F.drop i).length = B.length - i := by rw [List.length_drop, hl]
        have hal : (A ++ F.take i).length * 5 = a5 + i * 5 := by rw [List.length_append, List.length_take, ← HA5.out]; omega
        obtain ⟨w2, hcl, hr2, hg2⟩ := run_clearR wr zero_run g (A ++ F.take i) (F.drop i) rest (cap - i) 0 (by omega) hrb
        rw [hal, hdl] at hcl
        have hup := HV.out w2 i (by omega)
        have HR2 := hide' hr2
        have HG2 := hide' (grown_trans HD.out.gr hg2)
        have HTK := hide' htk
        have HIL := hide' hil
        have HL := hide' hl
        clear hr2 hg2 htk hil hl hjj hrb hdl hal
        go_wp2_with fail
        go_ret
        have hr2 := HR2.out
        rw [List.append_assoc] at hr2
        refine ⟨F.take i ++ List.replicate (F.drop i).length zR, ?_, ?_, ?_, hr2, HG2.out⟩
        · rw [List.length_append, List.length_replicate, ← List.length_append, List.take_append_drop]; exact HL.out
        · rw [HTK.out, List.take_left]
        · rw [← HIL.out]; rfl
  · have hall : ∀ x ∈ B, plR x = false := fun x hx => by
      have := List.all_eq_true.1 hidx x hx
      simpa using this
    have HK := hide' (kp_all hall)
    have HAll := hide' hall
    clear hidx hall
    go_enter Tryz.func93, Tryz.ntmps93
    go_wp2_with (go_at_call 34; refine HI.out.mono ?_; rintro r w1 ⟨hr, hB1⟩; obtain rfl : r = .returned (.int .i64 (-1)) := (idxNone HAll.out hr); have HB1 := hide' hB1; clear hr hB1)
    go_ret
    refine ⟨B, rfl, ?_, ?_, HR.out.below HB1.out HR.out.lt, grown_below HB1.out _⟩
    · rw [HK.out, List.take_length]
    · rw [HK.out]; rfl

set_option maxRecDepth 100000 in
/-- slices.DeleteFunc of nothing -/
theorem deleteNil_any (w : World) :
    Calls Tryz.prog 93 #[.slice none 0 0, .func (Fn.func 94) #[] #[]] w fun r w' => r = .returned (.slice none 0 0) ∧ w' = w := by
  have HI : Hid (∀ V : World, Calls Tryz.prog 34 #[.slice none 0 0, .func (Fn.func 94) #[] #[]] V fun r w' => r = .returned (.int .i64 (-1)) ∧ w' = V) := fun V => by
    go_enter Tryz.func34, Tryz.ntmps34
    go_wp2
    refine wp_loop_rounds 1 ?_
    rw [rounds_succ]; go_wp2
    go_ret
    exact ⟨rfl, rfl⟩
  go_enter Tryz.func93, Tryz.ntmps93
  go_wp2_with (go_at_call 34; refine (HI.out _).mono ?_; rintro r w1 ⟨rfl, rfl⟩)
  go_ret
  exact ⟨rfl, rfl⟩
end Go.Proofs.YthabenjghhmicaaGreat.Zd

/-
  Proofs: (*zone.Zone).says, leaves, lettersOf, typeLeft. (The verifier's own text.)
-/
namespace Go.Proofs.YthabenjghhmicaaGreat
set_option linter.unusedVariables false
set_option linter.unusedSimpArgs false
open Go.RowKit Go.Shelf Go.Maps Go.Proofs.YthabenjghhmicaaGreat.Nm Go.Proofs.YthabenjghhmicaaGreat.Zs

/-- what stands at a name that is there: which kind, which records -/
def sayB (T : List Rn) (o : ByteArray) (t : Int) : Int × List Rn :=
  if t = 255 then (if ((stT T o 0).filter countB).isEmpty then (5, []) else (1, (stT T o 0).filter countB))
  else if t ≠ 5 ∧ (stT T o 5).isEmpty = false then (2, stT T o 5)
  else if (stT T o t).isEmpty then (5, []) else (1, stT T o t)
/-- an own row of which only the first are wanted -/
theorem own_front {w : World} {b g cap : Nat} {F K : List Rn} {rest : List Value} (hr : Rb w g F rest) (hb : b ≤ g) (hK : F.take K.length = K) (hc : F.length ≤ cap) (hm : cap ≤ maxLen) (hsz : (rce5 F ++ rest).length = cap * 5) : w.ownsRow b 54 5 (.slice (some ⟨g, 0, none⟩) K.length cap) K.length (rce5 K) := by
  have hl : K.length ≤ F.length := by
    have := congrArg List.length hK
    rw [List.length_take] at this
    omega
  refine ⟨by rw [rce5_len], .inr ⟨g, cap, _, rfl, hb, hr, by omega, hm, by simpa using hsz, ?_⟩⟩
  have e : rce5 F = rce5 K ++ rce5 (F.drop K.length) := by
    rw [← rce5_app]
    congr 1
    rw [← hK, List.length_take, Nat.min_eq_left hl]
    simp
  rw [e]
  simp only [List.append_assoc]
  rw [List.take_append_of_le_length (by rw [rce5_len]; omega), List.take_of_length_le (by rw [rce5_len]; omega)]
section
variable {n : Nat} {W : World} {apex : ByteArray} {L : List Rn} {ord : List Nat} {Z RW NM C m cnt : Nat} {p : Option Addr} {cp : Nat} {f : ByteArray → Option Nat}
theorem Zon.sizes (h : Zon n W apex L ord Z RW NM C m cnt p cp f) (o : ByteArray) (t : Int) : (stT (ord.map (rAt L)) o t).length ≤ 2000 ∧ ∀ x ∈ stT (ord.map (rAt L)) o t, x.d.size ≤ maxLen := by
  have hT := h.laid.tlen
  have hf := h.few
  refine ⟨?_, fun x hx => ?_⟩
  · have := List.length_filter_le (fun r => mtc (o, t) (senS r)) (ord.map (rAt L))
    unfold stT
    omega
  · have := (ok_facts (h.laid.tok x (List.mem_filter.1 hx).1)).2.2.2.2.2.2.2.1
    unfold maxLen; omega
/-- slices.DeleteFunc of what stands at a name -/
theorem deleteZ_any {V : World} {b : Nat} {v : Value} {X : List Rn} (ho : V.ownsRow b 54 5 v X.length (rce5 X)) (hX : X.length ≤ 2000) (hsz : ∀ x ∈ X, x.d.size ≤ maxLen) :
    Calls Tryz.prog 93 #[v, .func (Fn.func 94) #[] #[]] V fun r w' => (∃ v', r = .returned v' ∧ w'.ownsRow b 54 5 v' (X.filter countB).length (rce5 (X.filter countB))) ∧ V.grownBy w' v.ownBlock := by
  obtain ⟨p1, c1, rfl, k1, k2, k3⟩ := own_shape ho
  obtain ⟨hl, (⟨h1, h0⟩ | ⟨g, cap, cur, h1, hbg, hg, hn, hcm, hcs, htk⟩)⟩ := ho
  · injection h1 with h1 h2 h3
    subst h1 h3
    obtain rfl : X = [] := List.eq_nil_of_length_eq_zero h2
    refine (Zd.deleteNil_any V).mono ?_
    rintro r w' ⟨rfl, rfl⟩
    exact ⟨⟨_, rfl, World.ownsRow_nil _ _ _ _⟩, grown_refl _ _⟩
  · injection h1 with h1 h2 h3
    subst h1 h3
    obtain ⟨rest, hr, _⟩ := rb_ownM (show V.ownsRow b 54 5 (.slice (some ⟨g, 0, none⟩) X.length c1) X.length (rce5 X) from ⟨hl, .inr ⟨g, c1, cur, rfl, hbg, hg, hn, hcm, hcs, htk⟩⟩)
    have hsize : (rce5 X ++ rest).length = c1 * 5 := by
      have h9 : V.heap[g]? = some (.cells (rce5 X ++ rest).toArray 54 (0, 0)) := hr
      rw [hg] at h9
      injection h9 with h9
      injection h9 with h9
      rw [h9] at hcs
      simpa using hcs
    have hd := Zd.deletePlain_any [] X rest g c1 V (by simpa using hr) (by omega) (by omega) hsz
    simp only [List.length_nil, Nat.zero_mul] at hd
    refine hd.mono ?_
    rintro r w' ⟨F, hFl, hFt, rfl, hrb, hgr⟩
    rw [List.nil_append] at hrb
    have hkp : Zd.kp X = X.filter countB := by
      unfold Zd.kp Zd.plR
      congr 1
      funext r
      simp
    rw [hkp] at hFt ⊢
    refine ⟨⟨_, rfl, own_front hrb hbg hFt (by omega) hcm ?_⟩, hgr⟩
    rw [List.length_append, rce5_len, hFl] at *
    exact hsize
end
end Go.Proofs.YthabenjghhmicaaGreat

/-
  Proofs: (*zone.Zone).says, leaves, lettersOf, typeLeft. (The verifier's own text.)
-/
namespace Go.Proofs.YthabenjghhmicaaGreat
set_option linter.unusedVariables false
set_option linter.unusedSimpArgs false
open Go.RowKit Go.Shelf Go.Maps Go.Proofs.YthabenjghhmicaaGreat.Nm Go.Proofs.YthabenjghhmicaaGreat.Zs

/-- what says gives -/
def SayE (T : List Rn) (o : ByteArray) (t : Int) (W : World) (r : Ending) (w' : World) : Prop := (∃ v, r = .returned (.tuple #[.int .i64 (sayB T o t).1, v]) ∧ w'.ownsRow W.heap.size 54 5 v (sayB T o t).2.length (rce5 (sayB T o t).2)) ∧ Below W.heap.size W w'
theorem say_end {T : List Rn} {o : ByteArray} {t k : Int} {X : List Rn} {W w' : World} {r : Ending} {v : Value} (hs : sayB T o t = (k, X)) (hr : r = .returned (.tuple #[.int .i64 k, v])) (ho : w'.ownsRow W.heap.size 54 5 v X.length (rce5 X)) (hb : Below W.heap.size W w') : SayE T o t W r w' := by
  refine ⟨⟨v, by rw [hs]; exact hr, by rw [hs]; exact ho⟩, hb⟩
theorem empty_len {X : List Rn} (h : X.isEmpty = true) : X = [] := List.isEmpty_iff.1 h
theorem nonempty_len {X : List Rn} (h : X.isEmpty = false) : 0 < X.length := by
  cases X with
  | nil => cases h
  | cons => simp
section
variable {n : Nat} {W : World} {apex : ByteArray} {L : List Rn} {ord : List Nat} {Z RW NM C m cnt : Nat} {p : Option Addr} {cp : Nat} {f : ByteArray → Option Nat}
set_option maxRecDepth 100000 in
set_option maxHeartbeats 4000000 in
/-- (*zone.Zone).says -/
theorem says_any (h : Zon n W apex L ord Z RW NM C m cnt p cp f) (o : ByteArray) (t : Int) (ho : o.size ≤ 255) (ht1 : 1 ≤ t) (ht2 : t ≤ 65535) :
    Calls Tryz.prog 50 #[.pointer (some ⟨Z, 0, none⟩), .string o, .int .i64 t] W (SayE (ord.map (rAt L)) o t W) := by
  obtain ⟨T, hTT⟩ : ∃ T, ord.map (rAt L) = T := ⟨_, rfl⟩
  have HAt : Hid (∀ t', 0 ≤ t' → t' ≤ 65535 → ∀ V, Below W.heap.size W V → Calls Tryz.prog 47 #[.pointer (some ⟨Z, 0, none⟩), .string o, .int .i64 t'] V fun r w' => (∃ v, r = .returned v ∧ w'.ownsRow V.heap.size 54 5 v (stT T o t').length (rce5 (stT T o t'))) ∧ Below V.heap.size V w') := fun t' h1 h2 V hV => by
    have := atZ_any (h.step hV) o t' (plG_any ho ⟨h1, h2⟩)
    rw [hTT] at this
    exact this
  have HHa : Hid (∀ V, Below W.heap.size W V → Calls Tryz.prog 92 #[.pointer (some ⟨Z, 0, none⟩), .string o, .int .i64 5] V fun r w' => r = .returned (.bool (!(stT T o 5).isEmpty)) ∧ Below V.heap.size V w') := fun V hV => by
    have := hasZ_any (h.step hV) o 5 (plG_any ho (by omega))
    rw [hTT] at this
    exact this
  have HSz : Hid (∀ t', (stT T o t').length ≤ 2000 ∧ ∀ x ∈ stT T o t', x.d.size ≤ maxLen) := fun t' => by
    have := h.sizes o t'
    rw [hTT] at this
    exact this
  rw [hTT]
  clear hTT h ho
  have hB := Below.refl W.heap.size W
  by_cases h255 : t = 255
  · subst h255
    have hA := HAt.out 0 (by omega) (by omega)
    have HA := hide' hA
    obtain ⟨hs1, hs2⟩ := HSz.out 0
    have HS2 := hide' hs2
    clear hA hs2 HSz HAt HHa
    obtain ⟨X, hX⟩ : ∃ X, stT T o 0 = X := ⟨_, rfl⟩
    rw [hX] at HA HS2 hs1
    cases he : (X.filter countB).isEmpty with
    | true =>
      have HV : Hid (sayB T o 255 = (5, [])) := by unfold Hid sayB; rw [if_pos rfl, hX, he]; rfl
      have HE : Hid ((X.filter countB).length = 0) := by rw [empty_len he]; rfl
      clear he hX
      go_enter Tryz.func50, Tryz.ntmps50
      go_wp2_with (first
        | (go_at_call 47; refine (HA.out _ hB).mono ?_; rintro r w1 ⟨⟨v1, rfl, ho1⟩, hB1⟩; have HO1 := hide' ho1; have HB1 := hide' (bstep hB hB1 hB.size); clear ho1 hB1)
        | (go_at_call 93; refine (deleteZ_any HO1.out hs1 HS2.out).mono ?_; rintro r w2 ⟨⟨v2, rfl, ho2⟩, hG2⟩; rw [HE.out] at ho2; obtain ⟨q2, c2, rfl, _, _, _⟩ := own_shape ho2; have HB2 := hide' (HB1.out.grown hG2 HB1.out.size (fun q e => own_ge HO1.out e)); clear ho2 hG2))
      go_ret2
      exact say_end HV.out rfl (World.ownsRow_nil _ _ _ _) HB2.out
    | false =>
      have HV : Hid (sayB T o 255 = (1, X.filter countB)) := by unfold Hid sayB; rw [if_pos rfl, hX, he]; rfl
      have hl := nonempty_len he
      have hln : ¬ ((X.filter countB).length : Int) = 0 := by omega
      have hlb : (((X.filter countB).length : Int) == 0) = false := by rw [beq_eq_false_iff_ne]; omega
      clear he hX
      obtain ⟨K, hK⟩ : ∃ K, X.filter countB = K := ⟨_, rfl⟩
      rw [hK] at HV hln hlb
      have HKK := hide' hK
      clear hK hl
      go_enter Tryz.func50, Tryz.ntmps50
      go_wp2_with (first
        | (go_at_call 47; refine (HA.out _ hB).mono ?_; rintro r w1 ⟨⟨v1, rfl, ho1⟩, hB1⟩; have HO1 := hide' ho1; have HB1 := hide' (bstep hB hB1 hB.size); clear ho1 hB1)
        | (go_at_call 93; refine (deleteZ_any HO1.out hs1 HS2.out).mono ?_; rintro r w2 ⟨⟨v2, rfl, ho2⟩, hG2⟩; rw [HKK.out] at ho2; obtain ⟨q2, c2, rfl, _, _, _⟩ := own_shape ho2; have HO2 := hide' ho2; have HB2 := hide' (HB1.out.grown hG2 HB1.out.size (fun q e => own_ge HO1.out e)); clear ho2 hG2))
      go_ret2
      exact say_end HV.out rfl HO2.out HB2.out
  · have h255b : (t == 255) = false := by simp [h255]
    by_cases hal : t ≠ 5 ∧ (stT T o 5).isEmpty = false
    · have HV : Hid (sayB T o t = (2, stT T o 5)) := by unfold Hid sayB; rw [if_neg h255, if_pos hal]
      have h5b : (t != 5) = true := by simp [hal.1]
      have hE := hal.2
      rw [hE] at HHa
      have HA := hide' (HAt.out 5 (by omega) (by omega))
      clear hal hE HAt h255
      go_enter Tryz.func50, Tryz.ntmps50
      go_wp2_with (first
        | (go_at_call 92; refine (HHa.out _ hB).mono ?_; rintro r w0 ⟨rfl, hB0⟩; have hB := bstep hB hB0 hB.size; clear hB0)
        | (go_at_call 47; refine (HA.out _ hB).mono ?_; rintro r w1 ⟨⟨v1, rfl, ho1⟩, hB1⟩; have HO1 := hide' (own_baseZ ho1 hB.size); have HB1 := hide' (bstep hB hB1 hB.size); clear ho1 hB1))
      go_ret2
      exact say_end HV.out rfl HO1.out HB1.out
    · have HA := hide' (HAt.out t (by omega) ht2)
      have hcond : t = 5 ∨ (t ≠ 5 ∧ (stT T o 5).isEmpty = true) := by
        by_cases h5 : t = 5
        · exact Or.inl h5
        · refine Or.inr ⟨h5, ?_⟩
          cases hb : (stT T o 5).isEmpty with
          | true => rfl
          | false => exact absurd ⟨h5, hb⟩ hal
      have HV : Hid (sayB T o t = if (stT T o t).isEmpty then (5, []) else (1, stT T o t)) := by unfold Hid sayB; rw [if_neg h255, if_neg hal]
      obtain ⟨X, hX⟩ : ∃ X, stT T o t = X := ⟨_, rfl⟩
      rw [hX] at HA HV
      clear hal HAt h255 HSz hX
      rcases hcond with h5 | ⟨h5, hE⟩
      · subst h5
        cases he : X.isEmpty with
        | true =>
          rw [he] at HV
          obtain rfl := empty_len he
          clear he
          go_enter Tryz.func50, Tryz.ntmps50
          go_wp2_with (go_at_call 47; refine (HA.out _ hB).mono ?_; rintro r w1 ⟨⟨v1, rfl, ho1⟩, hB1⟩; rw [List.length_nil] at ho1; obtain ⟨q2, c2, rfl, _, _, _⟩ := own_shape ho1; have HB1 := hide' (bstep hB hB1 hB.size); clear ho1 hB1)
          go_ret2
          exact say_end HV.out rfl (World.ownsRow_nil _ _ _ _) HB1.out
        | false =>
          rw [he] at HV
          have hl := nonempty_len he
          have hln : ¬ (X.length : Int) = 0 := by omega
          have hlb : ((X.length : Int) == 0) = false := by rw [beq_eq_false_iff_ne]; omega
          clear he hl
          go_enter Tryz.func50, Tryz.ntmps50
          go_wp2_with (go_at_call 47; refine (HA.out _ hB).mono ?_; rintro r w1 ⟨⟨v1, rfl, ho1⟩, hB1⟩; obtain ⟨q2, c2, rfl, _, _, _⟩ := own_shape ho1; have HO1 := hide' (own_baseZ ho1 hB.size); have HB1 := hide' (bstep hB hB1 hB.size); clear ho1 hB1)
          go_ret2
          exact say_end HV.out rfl HO1.out HB1.out
      · have h5b : (t != 5) = true := by simp [h5]
        rw [hE] at HHa
        cases he : X.isEmpty with
        | true =>
          rw [he] at HV
          obtain rfl := empty_len he
          clear he h5
          go_enter Tryz.func50, Tryz.ntmps50
          go_wp2_with (first
            | (go_at_call 92; refine (HHa.out _ hB).mono ?_; rintro r w0 ⟨rfl, hB0⟩; have hB := bstep hB hB0 hB.size; clear hB0)
            | (go_at_call 47; refine (HA.out _ hB).mono ?_; rintro r w1 ⟨⟨v1, rfl, ho1⟩, hB1⟩; rw [List.length_nil] at ho1; obtain ⟨q2, c2, rfl, _, _, _⟩ := own_shape ho1; have HB1 := hide' (bstep hB hB1 hB.size); clear ho1 hB1))
          go_ret2
          exact say_end HV.out rfl (World.ownsRow_nil _ _ _ _) HB1.out
        | false =>
          rw [he] at HV
          have hl := nonempty_len he
          have hln : ¬ (X.length : Int) = 0 := by omega
          have hlb : ((X.length : Int) == 0) = false := by rw [beq_eq_false_iff_ne]; omega
          clear he hl h5
          go_enter Tryz.func50, Tryz.ntmps50
          go_wp2_with (first
            | (go_at_call 92; refine (HHa.out _ hB).mono ?_; rintro r w0 ⟨rfl, hB0⟩; have hB := bstep hB hB0 hB.size; clear hB0)
            | (go_at_call 47; refine (HA.out _ hB).mono ?_; rintro r w1 ⟨⟨v1, rfl, ho1⟩, hB1⟩; obtain ⟨q2, c2, rfl, _, _, _⟩ := own_shape ho1; have HO1 := hide' (own_baseZ ho1 hB.size); have HB1 := hide' (bstep hB hB1 hB.size); clear ho1 hB1))
          go_ret2
          exact say_end HV.out rfl HO1.out HB1.out
end
end Go.Proofs.YthabenjghhmicaaGreat

/-
  Proofs: (*zone.Zone).leaves, lettersOf, typeLeft. (The verifier's own text.)
-/
namespace Go.Proofs.YthabenjghhmicaaGreat
set_option linter.unusedVariables false
set_option linter.unusedSimpArgs false
open Go.RowKit Go.Shelf Go.Maps Go.Proofs.YthabenjghhmicaaGreat.Nm Go.Proofs.YthabenjghhmicaaGreat.Zs

/-- an end of q, in q's letters -/
def letB (q e : ByteArray) : ByteArray := q.extract (q.size - e.size) q.size
set_option maxRecDepth 100000 in
/-- zone.lettersOf -/
theorem letters_any (q e : ByteArray) (w : World) (h : e.size ≤ q.size) (hq : q.size ≤ 255) :
    Calls Tryz.prog 46 #[.string q, .string e] w fun r w' => r = .returned (.string (letB q e)) ∧ w' = w := by
  unfold letB
  obtain ⟨k, hk⟩ : ∃ k, q.size - e.size = k := ⟨_, rfl⟩
  have e1 : (q.size : Int) - (e.size : Int) = (k : Int) := by omega
  have e2 : IntKind.i64.wrap ((q.size : Int) - (e.size : Int)) = (k : Int) := by rw [e1, IntWalk.i64_in]; omega
  have e3 : (0 : Int) ≤ (k : Int) := by omega
  have e4 : (k : Int) ≤ (q.size : Int) := by omega
  rw [hk]
  clear hk e1
  go_enter Tryz.func46, Tryz.ntmps46
  go_wp2_with fail
  go_ret
  exact ⟨rfl, rfl⟩
set_option maxRecDepth 100000 in
/-- zone.typeLeft -/
theorem typeLeft_any (k : Int) (w : World) : Calls Tryz.prog 48 #[.int .i64 k] w fun r w' => r = .returned (.int .i64 (if k = 3 then 39 else 2)) ∧ w' = w := by
  by_cases h : k = 3
  · subst h
    go_enter Tryz.func48, Tryz.ntmps48
    go_wp2_with fail
    go_ret
    exact ⟨by simp, rfl⟩
  · have hb : (k == 3) = false := by simp [h]
    go_enter Tryz.func48, Tryz.ntmps48
    go_wp2_with fail
    go_ret
    exact ⟨by simp [h], rfl⟩

/-- is the zone left at a name, and as what? -/
def lvK (T : List Rn) (n : ByteArray) (t : Int) (on : ByteArray) : Int := if (stT T on 2).isEmpty = false ∧ ¬ (on = n ∧ t = 43) then 4 else if (stT T on 39).isEmpty = false ∧ on ≠ n then 3 else 0
/-- where the zone is left on the way down -/
def lvB (apex : ByteArray) (T : List Rn) (n : ByteArray) (t : Int) : Int × ByteArray := match ((pathL apex n).drop 1).find? (fun on => decide (lvK T n t on ≠ 0)) with | some on => (lvK T n t on, on) | none => (0, ⟨#[]⟩)
theorem lv_some {apex : ByteArray} {T : List Rn} {n : ByteArray} {t : Int} {P : List ByteArray} (hP : (pathL apex n).drop 1 = P) {j : Nat} (hj : j < P.length) (h : lvK T n t P[j] ≠ 0) (hb : ∀ i, (hi : i < P.length) → i < j → lvK T n t P[i] = 0) : lvB apex T n t = (lvK T n t P[j], P[j]) := by
  unfold lvB
  rw [hP]
  have : P.find? (fun on => decide (lvK T n t on ≠ 0)) = some P[j] := by
    rw [List.find?_eq_some_iff_getElem]
    exact ⟨decide_eq_true h, j, hj, rfl, fun i hi => by simp [hb i (by omega) hi]⟩
  rw [this]
theorem lv_none {apex : ByteArray} {T : List Rn} {n : ByteArray} {t : Int} {P : List ByteArray} (hP : (pathL apex n).drop 1 = P) (hb : ∀ i, (hi : i < P.length) → lvK T n t P[i] = 0) : lvB apex T n t = (0, ⟨#[]⟩) := by
  unfold lvB
  rw [hP]
  have : P.find? (fun on => decide (lvK T n t on ≠ 0)) = none := by
    rw [List.find?_eq_none]
    intro x hx
    obtain ⟨i, hi, rfl⟩ := List.getElem_of_mem hx
    simp [hb i hi]
  rw [this]
/-- texts without their first -/
theorem run_tailS (x : ByteArray) (A : List ByteArray) (p : Option Addr) (cp : Nat) (hc : A.length + 1 ≤ cp) :
    ∃ q, (∀ W, (Instr.slice 43 (.slice p (A.length + 1) cp) (some (.int .i64 1)) none none).run Tryz.prog W = .ok (.slice q A.length (cp - 1)) W) ∧ (∀ W, StrsAt W p (x :: A) → StrsAt W q A) := by
  have ht' : Tryz.prog.underlying 43 = some (.slice (Tryz.prog.elem 43)) := by simp [Program.elem, Tryz.underlying43]
  have he' : Tryz.prog.elem 43 = 9 := by simp [Program.elem, Tryz.underlying43]
  refine ⟨if cp = 1 then p else p.map (·.add 1), fun W => ?_, fun W hat => ?_⟩
  · rw [run_slice_l W _ _ _ _ ht' .i64 _ (by omega) (by omega), he', Tryz.sizeOf9]
    simp [Result.andThen, sliced]
  · intro k hk
    obtain ⟨g, off, hpp, hg, r0⟩ := hat (k + 1) (by simp; omega)
    refine ⟨g, off + 1, ?_, hg, ?_⟩
    · rw [if_neg (by omega), hpp]; simp [Addr.add]
    · rw [show off + 1 + k = off + (k + 1) by omega]
      exact r0
theorem ups_cons (a : Nat) : ∀ f n, ∃ l, upsL a f n = n :: l
  | 0, n => ⟨[], rfl⟩
  | f + 1, n => by
    unfold upsL
    split
    · exact ⟨_, rfl⟩
    · exact ⟨[], rfl⟩
theorem path_cons (apex n : ByteArray) : ∃ x A, pathL apex n = x :: A := by
  obtain ⟨l, hl⟩ := ups_cons apex.size n.size n
  unfold pathL
  rw [hl, List.reverse_cons]
  cases hr : l.reverse with
  | nil => exact ⟨n, [], rfl⟩
  | cons y A => exact ⟨y, A ++ [n], rfl⟩
section
variable {n : Nat} {W : World} {apex : ByteArray} {L : List Rn} {ord : List Nat} {Z RW NM C m cnt : Nat} {p : Option Addr} {cp : Nat} {f : ByteArray → Option Nat}
set_option maxRecDepth 100000 in
set_option maxHeartbeats 4000000 in
/-- (*zone.Zone).leaves -/
theorem leaves_any (h : Zon n W apex L ord Z RW NM C m cnt p cp f) (x : ByteArray) (t : Int) (hx : isN x = true) :
    Calls Tryz.prog 45 #[.pointer (some ⟨Z, 0, none⟩), .string x, .int .i64 t] W fun r w' => r = .returned (.tuple #[.int .i64 (lvB apex (ord.map (rAt L)) x t).1, .string (lvB apex (ord.map (rAt L)) x t).2]) ∧ Below W.heap.size W w' := by
  have hna := h.laid.na
  have HPa := hide' (path_any Z RW NM apex _ x W h.zx hx (isN_pos hna) ((isN_iff _).1 hna).1)
  have HPn : Hid (∀ y ∈ pathL apex x, isN y = true) := fun y hy => ups_names (isN_pos hna) _ x hx y (by unfold pathL at hy; simpa using hy)
  have hpl : (pathL apex x).length ≤ 256 := pathL_len hx
  obtain ⟨T, hTT⟩ : ∃ T, ord.map (rAt L) = T := ⟨_, rfl⟩
  have HHa : Hid (∀ V o t', o.size ≤ 255 → 0 ≤ t' → t' ≤ 65535 → Below W.heap.size W V → Calls Tryz.prog 92 #[.pointer (some ⟨Z, 0, none⟩), .string o, .int .i64 t'] V fun r w' => r = .returned (.bool (!(stT T o t').isEmpty)) ∧ Below V.heap.size V w') := fun V o t' ho h1 h2 hV => by
    have := hasZ_any (h.step hV) o t' (plG_any ho ⟨h1, h2⟩)
    rw [hTT] at this
    exact this
  rw [hTT]
  obtain ⟨y0, P, hP⟩ := path_cons apex x
  have HD : Hid ((pathL apex x).drop 1 = P) := by unfold Hid; rw [hP]; rfl
  rw [hP, List.length_cons] at HPa
  rw [hP] at HPn hpl
  rw [List.length_cons] at hpl
  clear hTT h hna hP hx
  go_enter Tryz.func45, Tryz.ntmps45
  go_wp2_with (go_at_call 85; refine HPa.out.mono ?_; rintro e w1 ⟨⟨pp, pc, rfl, hst, hpc, _⟩, hB1⟩; obtain ⟨q, hrun, hst2⟩ := run_tailS y0 P pp pc hpc; have HST := hide' (hst2 _ hst); have HB1 := hide' hB1; clear hst hst2 hB1)
  go_loopw [15] (fun jv wr => ∃ j : Nat, jv = .int .i64 (j : Int) ∧ j ≤ P.length ∧ Hid (∀ i, (hi : i < P.length) → i < j → lvK T x t P[i] = 0) ∧ Hid (Below w1.heap.size w1 wr)) (fun jv _ => P.length - (intOf jv).toNat)
  case atStart => exact ⟨0, rfl, Nat.zero_le _, (fun i _ h => absurd h (Nat.not_lt_zero _)), Below.refl _ _⟩
  case round =>
    obtain ⟨j, rfl, hj, HN, HB⟩ := hrel
    have HBw := hide' (bstep HB1.out HB.out HB1.out.size)
    by_cases hlt : j < P.length
    · have pj : (j : Int) < (P.length : Int) := by omega
      obtain ⟨gs, os, hps, hgs, cs⟩ := HST.out j hlt
      subst hps
      have cs' : wr.cell? ⟨gs, os + j, none⟩ = some (.string P[j]) := (HB.out.cell (p := ⟨gs, os + j, none⟩) hgs).trans cs
      have hyN := HPn.out _ (List.mem_cons_of_mem _ (List.getElem_mem hlt))
      have hy255 : P[j].size ≤ 255 := ((isN_iff _).1 hyN).1
      have HS : Hid (lvK T x t P[j] ≠ 0 → lvB apex T x t = (lvK T x t P[j], P[j])) := fun h => lv_some HD.out hlt h HN.out
      have HZ : Hid (lvK T x t P[j] = 0 → ∀ i, (hi : i < P.length) → i < j + 1 → lvK T x t P[i] = 0) := fun h i hi hij => by
        rcases Nat.lt_or_ge i j with h' | h'
        · exact HN.out i hi h'
        · obtain rfl : i = j := by omega
          exact h
      have H2 := hide' (fun V hV => HHa.out V P[j] 2 hy255 (by omega) (by omega) hV)
      have H3 := hide' (fun V hV => HHa.out V P[j] 39 hy255 (by omega) (by omega) hV)
      obtain ⟨y, hy⟩ : ∃ y, P[j] = y := ⟨_, rfl⟩
      rw [hy] at cs' HS HZ H2 H3
      clear cs hyN hy255 hy
      obtain ⟨E2, hE2⟩ : ∃ E2, (stT T y 2).isEmpty = E2 := ⟨_, rfl⟩
      obtain ⟨E3, hE3⟩ : ∃ E3, (stT T y 39).isEmpty = E3 := ⟨_, rfl⟩
      rw [hE2] at H2
      rw [hE3] at H3
      have HB2 : Hid (∀ V, Below wr.heap.size wr V → Below W.heap.size W V) := fun V hV => bstep HBw.out hV HBw.out.size
      have HBn : Hid (∀ V, Below wr.heap.size wr V → Below w1.heap.size w1 V) := fun V hV => bstep HB.out hV HB.out.size
      have hB := Below.refl wr.heap.size wr
      by_cases hyx : y = x
      · have hoe : (y.toList == x.toList) = true := by rw [toList_bt]; exact decide_eq_true hyx
        by_cases h43 : t = 43
        · have h43b : (t == 43) = true := by simp [h43]
          have HU := hide' (HZ.out (by unfold lvK; rw [if_neg (fun h => h.2 ⟨hyx, h43⟩), if_neg (fun h => h.2 hyx)]))
          clear hyx h43 hE2 hE3
          cases E2 with
          | true =>
            cases E3 with
            | true =>
              go_wp2_with (first
                | (go_at_call 92; (with_reducible refine (H2.out _ (HB2.out _ hB)).mono ?_); rintro e w5 ⟨rfl, hB5⟩; have hB := bstep hB hB5 hB.size; clear hB5)
                | (go_at_call 92; (with_reducible refine (H3.out _ (HB2.out _ hB)).mono ?_); rintro e w6 ⟨rfl, hB5⟩; have hB := bstep hB hB5 hB.size; clear hB5))
              exact ⟨⟨j + 1, by go_num, by omega, HU, HBn.out _ hB⟩, by simp [intOf]; omega⟩
            | false =>
              go_wp2_with (first
                | (go_at_call 92; (with_reducible refine (H2.out _ (HB2.out _ hB)).mono ?_); rintro e w5 ⟨rfl, hB5⟩; have hB := bstep hB hB5 hB.size; clear hB5)
                | (go_at_call 92; (with_reducible refine (H3.out _ (HB2.out _ hB)).mono ?_); rintro e w6 ⟨rfl, hB5⟩; have hB := bstep hB hB5 hB.size; clear hB5))
              exact ⟨⟨j + 1, by go_num, by omega, HU, HBn.out _ hB⟩, by simp [intOf]; omega⟩
          | false =>
            cases E3 with
            | true =>
              go_wp2_with (first
                | (go_at_call 92; (with_reducible refine (H2.out _ (HB2.out _ hB)).mono ?_); rintro e w5 ⟨rfl, hB5⟩; have hB := bstep hB hB5 hB.size; clear hB5)
                | (go_at_call 92; (with_reducible refine (H3.out _ (HB2.out _ hB)).mono ?_); rintro e w6 ⟨rfl, hB5⟩; have hB := bstep hB hB5 hB.size; clear hB5))
              exact ⟨⟨j + 1, by go_num, by omega, HU, HBn.out _ hB⟩, by simp [intOf]; omega⟩
            | false =>
              go_wp2_with (first
                | (go_at_call 92; (with_reducible refine (H2.out _ (HB2.out _ hB)).mono ?_); rintro e w5 ⟨rfl, hB5⟩; have hB := bstep hB hB5 hB.size; clear hB5)
                | (go_at_call 92; (with_reducible refine (H3.out _ (HB2.out _ hB)).mono ?_); rintro e w6 ⟨rfl, hB5⟩; have hB := bstep hB hB5 hB.size; clear hB5))
              exact ⟨⟨j + 1, by go_num, by omega, HU, HBn.out _ hB⟩, by simp [intOf]; omega⟩
        · have h43b : (t == 43) = false := by simp [h43]
          cases E2 with
          | true =>
            have HU := hide' (HZ.out (by unfold lvK; rw [if_neg (fun h => by rw [hE2] at h; cases h.1), if_neg (fun h => h.2 hyx)]))
            clear hyx h43 hE2 hE3
            cases E3 with
            | true =>
              go_wp2_with (first
                | (go_at_call 92; (with_reducible refine (H2.out _ (HB2.out _ hB)).mono ?_); rintro e w5 ⟨rfl, hB5⟩; have hB := bstep hB hB5 hB.size; clear hB5)
                | (go_at_call 92; (with_reducible refine (H3.out _ (HB2.out _ hB)).mono ?_); rintro e w6 ⟨rfl, hB5⟩; have hB := bstep hB hB5 hB.size; clear hB5))
              exact ⟨⟨j + 1, by go_num, by omega, HU, HBn.out _ hB⟩, by simp [intOf]; omega⟩
            | false =>
              go_wp2_with (first
                | (go_at_call 92; (with_reducible refine (H2.out _ (HB2.out _ hB)).mono ?_); rintro e w5 ⟨rfl, hB5⟩; have hB := bstep hB hB5 hB.size; clear hB5)
                | (go_at_call 92; (with_reducible refine (H3.out _ (HB2.out _ hB)).mono ?_); rintro e w6 ⟨rfl, hB5⟩; have hB := bstep hB hB5 hB.size; clear hB5))
              exact ⟨⟨j + 1, by go_num, by omega, HU, HBn.out _ hB⟩, by simp [intOf]; omega⟩
          | false =>
            have hk : lvK T x t y = 4 := by unfold lvK; rw [if_pos ⟨hE2, fun h => h43 h.2⟩]
            have hs := HS.out (by rw [hk]; decide)
            rw [hk] at hs
            have HV := hide' hs
            clear hyx h43 hE2 hE3 hs hk
            go_wp2_with (go_at_call 92; (with_reducible refine (H2.out _ (HB2.out _ hB)).mono ?_); rintro e w5 ⟨rfl, hB5⟩; have hB := bstep hB hB5 hB.size; clear hB5)
            go_ret2
            exact ⟨by rw [HV.out]; rfl, HB2.out _ hB⟩
      · have hoe : (y.toList == x.toList) = false := by rw [toList_bt]; exact decide_eq_false hyx
        have hone : (y.toList != x.toList) = true := by rw [bne, hoe]; rfl
        cases E2 with
        | false =>
          have hk : lvK T x t y = 4 := by unfold lvK; rw [if_pos ⟨hE2, fun h => hyx h.1⟩]
          have hs := HS.out (by rw [hk]; decide)
          rw [hk] at hs
          have HV := hide' hs
          clear hyx hE2 hE3 hs hk
          go_wp2_with (go_at_call 92; (with_reducible refine (H2.out _ (HB2.out _ hB)).mono ?_); rintro e w5 ⟨rfl, hB5⟩; have hB := bstep hB hB5 hB.size; clear hB5)
          go_ret2
          exact ⟨by rw [HV.out]; rfl, HB2.out _ hB⟩
        | true =>
          cases E3 with
          | false =>
            have hk : lvK T x t y = 3 := by unfold lvK; rw [if_neg (fun h => by rw [hE2] at h; cases h.1), if_pos ⟨hE3, hyx⟩]
            have hs := HS.out (by rw [hk]; decide)
            rw [hk] at hs
            have HV := hide' hs
            clear hyx hE2 hE3 hs hk
            go_wp2_with (first
              | (go_at_call 92; (with_reducible refine (H2.out _ (HB2.out _ hB)).mono ?_); rintro e w5 ⟨rfl, hB5⟩; have hB := bstep hB hB5 hB.size; clear hB5)
              | (go_at_call 92; (with_reducible refine (H3.out _ (HB2.out _ hB)).mono ?_); rintro e w6 ⟨rfl, hB5⟩; have hB := bstep hB hB5 hB.size; clear hB5))
            go_ret2
            exact ⟨by rw [HV.out]; rfl, HB2.out _ hB⟩
          | true =>
            have HU := hide' (HZ.out (by unfold lvK; rw [if_neg (fun h => by rw [hE2] at h; cases h.1), if_neg (fun h => by rw [hE3] at h; cases h.1)]))
            clear hyx hE2 hE3
            go_wp2_with (first
              | (go_at_call 92; (with_reducible refine (H2.out _ (HB2.out _ hB)).mono ?_); rintro e w5 ⟨rfl, hB5⟩; have hB := bstep hB hB5 hB.size; clear hB5)
              | (go_at_call 92; (with_reducible refine (H3.out _ (HB2.out _ hB)).mono ?_); rintro e w6 ⟨rfl, hB5⟩; have hB := bstep hB hB5 hB.size; clear hB5))
            exact ⟨⟨j + 1, by go_num, by omega, HU, HBn.out _ hB⟩, by simp [intOf]; omega⟩
    · obtain rfl : j = P.length := by omega
      have HV : Hid (lvB apex T x t = (0, ⟨#[]⟩)) := lv_none HD.out (fun i hi => HN.out i hi hi)
      go_wp2_with fail
      go_ret2
      exact ⟨by rw [HV.out]; rfl, HBw.out⟩
end
end Go.Proofs.YthabenjghhmicaaGreat
