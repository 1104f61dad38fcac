import Derived.Test.YtfacfhigehdejaaGreatDoorDbmG
import Derived.Test.YtfacfhigehdejaaGreatDoorDba
import Derived.Lib.AppendZeros
import Derived.Lib.AppendStr
/-
  Proofs: groups of an address of sixteen bytes read. (The verifier's own text.)
-/
namespace Go.Proofs.YtfacfhigehdejaaGreatDoor
set_option linter.unusedVariables false
set_option linter.unusedSimpArgs false
open Go.RowKit Go.Shelf Go.Proofs.YtfacfhigehdejaaGreatDoor.Nm

theorem cell_two8 (w : World) (a b : Value) (T : TypeId) : ∀ j u, ([a, b] : List Value)[j]? = some u → (w.alloc (.cells #[a, b] T)).cell? ((⟨w.heap.size, 0, none⟩ : Addr).add j) = some u := cell_two_new w a b T
theorem grB_step {U : List Nat} {k : Nat} (h : k < U.length) : byts (grB (U.take (k + 1))) = byts (grB (U.take k)) ++ [.int .u8 ((U[k] / 256 : Nat) : Int), .int .u8 ((U[k] % 256 : Nat) : Int)] := by
  rw [List.take_add_one, List.getElem?_eq_getElem h, Option.toList_some, grB_app]
  simp [byts, grB]
set_option maxRecDepth 100000 in
set_option maxHeartbeats 4000000 in
/-- data.readGroups -/
theorem readGroups_any (v : Value) (U : List Nat) (w : World) (hU : ∀ u ∈ U, u < 65536) (hl : U.length ≤ 8) (hG : GD w) :
    Calls Tryz.prog 142 #[v, .string (bts (grL U))] w fun e w' => ∃ v', e = .returned v' ∧ w'.ownsRow w.heap.size 5 1 v' (2 * U.length) (byts (grB U)) ∧ Below w.heap.size w w' := by
  by_cases h0 : U = []
  · subst h0
    have he := isEmpty_true (r := bts (grL [])) rfl
    generalize bts (grL []) = X at *
    go_enter Tryz.func142, Tryz.ntmps142
    go_wp2
    go_ret
    exact ⟨_, rfl, World.ownsRow_nil _ _ _ _, Below.refl _ _⟩
  · obtain ⟨i0, hi, hz0, hz1, hz2⟩ := info_parts Tryz.infoByte
    have hne : grL U ≠ [] := fun e => h0 (grL_nil.1 e)
    have hsz : 0 < (bts (grL U)).size := by
      rw [bts_size]
      exact List.length_pos_iff.2 hne
    have he := isEmpty_false (r := bts (grL U)) hsz
    have hpos : 1 ≤ U.length := List.length_pos_iff.2 h0
    have hgl := grL_len hU
    have HSp : Hid (Calls Tryz.prog 104 #[.string (bts (grL U)), .string ⟨#[58]⟩] w fun e w' => e = .returned (.slice (some ⟨w.heap.size, 0, none⟩) U.length U.length) ∧ w' = w.alloc (.cells (U.map fun u => Value.string (bts (hxL u))).toArray 9)) := by
      cases U with
      | nil => exact absurd rfl h0
      | cons u U =>
        have h1 := split_any 58 (by omega) (hxL u) (U.map hxL) w (fun z hz => (grL_ok (u :: U) z (by simpa using hz)).2) (by show (grL (u :: U)).length ≤ _; omega) hG.gm
        rw [List.length_map] at h1
        simp only [← List.map_cons, List.map_map] at h1
        exact h1
    have HEl : Hid (∀ k (hk : k < U.length), (U.map fun u => Value.string (bts (hxL u)))[k]? = some (.string (bts (hxL U[k]))) ∧ U[k] < 65536 ∧ byts (grB (U.take (k + 1))) = byts (grB (U.take k)) ++ [.int .u8 ((U[k] / 256 : Nat) : Int), .int .u8 ((U[k] % 256 : Nat) : Int)]) := fun k hk => ⟨by rw [List.getElem?_map, List.getElem?_eq_getElem hk]; rfl, hU _ (List.getElem_mem hk), grB_step hk⟩
    have HPu := hide' (fun (u : Nat) (h : u < 65536) (V : World) => spu16 u (by omega) V)
    have HTk : Hid (grB (U.take U.length) = grB U) := by unfold Hid; rw [List.take_length]
    have HM := hide' (fun v V => must_any v V)
    generalize bts (grL U) = X at *
    clear hU h0 hne hsz hgl
    go_enter Tryz.func142, Tryz.ntmps142
    go_wp2_with (go_at_call 104; refine HSp.out.mono ?_; rintro e3 w3 ⟨rfl, hw3⟩; have HW3 := hide' hw3; have HB3 : Hid (Below w.heap.size w w3) := (by unfold Hid; rw [hw3]; exact (Below.refl _ _).alloc (Nat.le_refl _) _); clear hw3)
    go_loopw [5, 15] (fun sv iv wr => ∃ (k m : Nat) (p : Option Addr) (c' : Nat), iv = .int .i64 (k : Int) ∧ sv = .slice p m c' ∧ k ≤ U.length ∧ m ≤ 16 ∧ Hid (m = 2 * k) ∧ Hid (wr.ownsRow w3.heap.size 5 1 (.slice p m c') m (byts (grB (U.take k)))) ∧ Hid (Below w3.heap.size w3 wr)) (fun _ iv _ => U.length - (intOf iv).toNat)
    case atStart => exact ⟨0, 0, none, 0, rfl, rfl, Nat.zero_le _, Nat.zero_le _, rfl, World.ownsRow_nil _ _ _ _, Below.refl _ _⟩
    case round =>
      obtain ⟨k, m, p, c', rfl, rfl, hk, hm, HMk, HO, HB⟩ := hrel
      by_cases hlt : k < U.length
      · obtain ⟨h1, h2, h3⟩ := HEl.out k hlt
        have hcell : wr.cell? ⟨w.heap.size, k, none⟩ = some (.string (bts (hxL U[k]))) := by
          have hc3 : w3.cell? ⟨w.heap.size, k, none⟩ = some (.string (bts (hxL U[k]))) := by rw [HW3.out]; exact row_new h1
          exact (HB.out.cell (p := ⟨w.heap.size, k, none⟩) (Lib.lt_of_cell hc3)).trans hc3
        generalize U[k] = u at *
        have HE := hide' h3
        have HP1 := hide' (HPu.out u h2)
        have hxl : (bts (hxL u)).size ≤ 4 := by rw [bts_size, hxL_len]; exact hxV_len 3 u (by omega)
        have hxI : ((bts (hxL u)).size : Int) ≤ 4 := by omega
        obtain ⟨a, ha⟩ : ∃ a, u / 256 = a := ⟨_, rfl⟩
        obtain ⟨b, hb⟩ : ∃ b, u % 256 = b := ⟨_, rfl⟩
        have hua : (u : Int) / 256 = (a : Int) := by omega
        have wa : IntKind.u8.wrap (a : Int) = (a : Int) := by
          simp [IntKind.wrap, IntKind.bits, IntKind.signed]
          omega
        have wb : IntKind.u8.wrap (u : Int) = (b : Int) := by
          simp [IntKind.wrap, IntKind.bits, IntKind.signed]
          omega
        rw [ha, hb] at HE
        have hm14 : m ≤ 14 := by have := HMk.out; omega
        generalize bts (hxL u) = Y at *
        clear h1 h3 ha hb hxl
        go_wp2_with (first
          | (go_at_call 37; refine (HP1.out _).mono ?_; rintro e5 w5 ⟨rfl, hB5⟩; have HB5 := hide' (bstep HB.out hB5 HB.out.size); have HO5 := hide' (ownsRow_below HO.out hB5); clear hB5)
          | (go_at_call 43; refine (HM.out _ _).mono ?_; rintro e1 w4 ⟨rfl, hw4⟩; have hw4' := hw4.symm; subst hw4')
          | (at_builtin; refine wpList_append_own _ rfl _ _ 69 rfl w3.heap.size 5 i0 (.int .u8 0) 1 1 Tryz.underlying69 hi hz0 hz1 hz2 rfl (by decide) (.slice p m c') m _ ?_ (HO5.out.alloc _) ⟨w5.heap.size, 0, none⟩ 2 2 [.int .u8 (a : Int), .int .u8 (b : Int)] ?_ rfl (cell_two8 _ _ _ _) (by simp [Value.oneCell']) (by unfold maxLen; omega) (by omega) (by have := HB5.out.size; simp; omega) ?_; rfl; rfl; intro v7 w7 ho7 hg7 _; obtain ⟨g7, c7, hv7⟩ := owns_some ho7 (by omega); subst hv7; have HO7 := hide' ho7; have HB7 := hide' (below_app HB5.out (Nat.le_refl _) HO5.out hg7); clear ho7 hg7))
        exact ⟨⟨k + 1, m + 2, _, c7, by go_num, rfl, by omega, by omega, (by unfold Hid; have := HMk.out; omega), by rw [HE.out]; exact HO7, HB7⟩, by simp [intOf]; omega⟩
      · obtain rfl : k = U.length := by omega
        have pk : ¬ (U.length : Int) < (U.length : Int) := by omega
        go_wp2
        go_ret
        refine ⟨_, rfl, ?_, bstep HB3.out HB.out HB3.out.size⟩
        have := own_mono HO.out HB3.out.size
        rw [HTk.out] at this
        have e := HMk.out
        subst e
        exact this
end Go.Proofs.YtfacfhigehdejaaGreatDoor

/-
  Proofs: append of noughts to a row of one's own. (The verifier's own text.)
-/
namespace Go.Proofs.YtfacfhigehdejaaGreatDoor
set_option linter.unusedVariables false
set_option linter.unusedSimpArgs false
open Go.RowKit Go.Shelf Go.Proofs.YtfacfhigehdejaaGreatDoor.Nm

/-- 'append(v, make([]byte, m)...)' is append of a text of m noughts -/
theorem run_noughts {P : Program} (w : World) (t tn u ty e : TypeId) (i : TypeInfo) (kn k : IntKind) (ht : P.underlying t = some (.slice e)) (htn : P.underlying tn = some (.int kn)) (hu : P.underlying u = some .string) (hi : P.info? e = some i) (hz : i.zero = some (.int .u8 0))
    (hsize : i.size = 1) (hby : i.bytes = 1) (b : Option Addr) (n c : Nat) (s : ByteArray) (h0 : 0 < s.size) (hs : Builtin.zeroCells (Value.int .u8 0).cells s.size = (Lib.strCells s).toArray) (hsm : s.size ≤ 1048576) (hn : n ≤ 1099511627776)
    (hfit : c < n + s.size → Builtin.nextslicecap (n + s.size) c ≤ 281474976710656) :
    (Builtin.append_ #[t, tn] ty #[.slice b n c, .int k (s.size : Int)]).run P w = (Builtin.append_ #[t, u] ty #[.slice b n c, .string s]).run P w := by
  have hw : IntKind.i64.wrap (s.size : Int) = s.size := by rw [IntKind.wrap_i64]; omega
  have hf : ∀ W : World, (Builtin.firstCells 1 s.size (.string s)).run P W = .ok (Lib.strCells s).toArray W := fun W => Lib.run_firstCells_string (P := P) W 1 s
  have hneg : ¬ ((s.size : Int) < 0) := by omega
  have hne : ¬ (s.size = 0) := by omega
  have h63 : ¬ (9223372036854775807 < ((n : Int) + (s.size : Int))) := by omega
  have h48 : ¬ (281474976710656 < (s.size : Int)) := by omega
  by_cases hroom : n + s.size ≤ c
  · simp [Builtin.append_, run_underlying ht, run_underlying htn, run_underlying hu, sizeOf, typeInfo, zeroValue, hi, hz, hsize, hby, asInt, asIntOf, hw, hneg, hne, h48, Builtin.lenOf, hroom, hf, hs]
  · have h48' : ¬ (281474976710656 < Builtin.nextslicecap (n + s.size) c) := by have := hfit (by omega); omega
    simp [Builtin.append_, run_underlying ht, run_underlying htn, run_underlying hu, sizeOf, typeInfo, zeroValue, hi, hz, hsize, hby, asInt, asIntOf, hw, hneg, hne, h48, h63, h48', Builtin.lenOf, hroom, hf, hs, Question.forced]
theorem run_nought0 {P : Program} (w : World) (t tn ty e : TypeId) (i : TypeInfo) (kn k : IntKind) (ht : P.underlying t = some (.slice e)) (htn : P.underlying tn = some (.int kn)) (hi : P.info? e = some i) (hz : i.zero = some (.int .u8 0))
    (hsize : i.size = 1) (hby : i.bytes = 1) (b : Option Addr) (n c : Nat) (hnc : n ≤ c) : (Builtin.append_ #[t, tn] ty #[.slice b n c, .int k 0]).run P w = .ok (.slice b n c) w := by
  have hw : IntKind.i64.wrap 0 = 0 := by decide
  cases b <;> simp [hw, hnc, storeCells, Builtin.append_, run_underlying ht, run_underlying htn, sizeOf, typeInfo, zeroValue, hi, hz, hsize, hby, asInt, asIntOf, Builtin.lenOf]
theorem zero_cells : ∀ M : Nat, Builtin.zeroCells (Value.int .u8 0).cells M = (List.replicate M (Value.int .u8 0)).toArray := fun M => by
  have h1 : (Value.int .u8 0).cells = #[Value.int .u8 0] := rfl
  rw [h1]
  simp [Builtin.zeroCells]
  apply Array.ext
  · simp
  · intro i h2 h3
    simp [Nat.mod_one]
theorem str_zeros (M : Nat) : Lib.strCells (bts (List.replicate M 0)) = List.replicate M (Value.int .u8 0) := by
  rw [bts_cells _ (fun x hx => by have := List.eq_of_mem_replicate hx; omega), List.map_replicate]
  rfl
/-- 'append(v, make([]byte, m)...)', v the call's own -/
theorem append_noughts {w w0 : World} {ops : Array Oper} {rest : List Oper} {o : Oper} {a : Act} {Q : Exit → Act → World → Prop} (hgd : o.guard = none) (sl x : Operand)
    (ho : o.op = .call { callee := .builtin .append, args := #[sl, x], argTypes := #[69, 3] })
    (p : Option Addr) (n cp : Nat) (xs : List Value) (M : Nat) (hs : a.eval sl = .slice p n cp) (hx : a.eval x = .int .i64 (M : Int))
    (hown : w.ownsRow w0.heap.size 5 1 (.slice p n cp) n xs) (hB : Below w0.heap.size w0 w) (hn : n ≤ 65536) (hM : M ≤ 65536)
    (h : ∀ p' c' w', w'.ownsRow w0.heap.size 5 1 (.slice p' (n + M) c') (n + M) (xs ++ List.replicate M (.int .u8 0)) → Below w0.heap.size w0 w' → w.grownBy w' (Value.slice p n cp).ownBlock → wpList Tryz.prog ops Q rest (a.put o.dst (.slice p' (n + M) c')) w') : wpList Tryz.prog ops Q (o :: rest) a w := by
  obtain ⟨i0, hi, hz0, hz1, hz2⟩ := info_parts Tryz.infoByte
  rcases Nat.eq_zero_or_pos M with e | e
  · subst e
    obtain ⟨_, _, hsh, hc8, hcm, -⟩ := own_shape hown
    have hcc : n ≤ cp := by simp only [Value.slice.injEq] at hsh; omega
    have hr := run_nought0 (P := Tryz.prog) w 69 3 o.type 5 i0 .i64 .i64 Tryz.underlying69 Tryz.underlying3 hi hz0 hz1 hz2 p n cp hcc
    exact Lib.wpList_append_run w hgd sl x _ _ ho _ _ hs hx _ w hr (h p cp w (by simpa using hown) hB ⟨rfl, rfl, rfl, Nat.le_refl _, fun _ _ _ => rfl⟩)
  · have hz : (bts (List.replicate M 0)).size = M := by rw [bts_size, List.length_replicate]
    obtain ⟨v', w', hr, h2, h3, -⟩ := Lib.run_append_own_string (P := Tryz.prog) w w0.heap.size 69 9 o.type 5 i0 Tryz.underlying69 Tryz.underlying9 hi hz0 hz1 hz2 (.slice p n cp) n xs hown (bts (List.replicate M 0)) (by rw [hz]; unfold maxLen; omega) (by rw [hz]; omega) hB.size
    rw [← run_noughts (P := Tryz.prog) w 69 3 9 o.type 5 i0 .i64 .i64 Tryz.underlying69 Tryz.underlying3 Tryz.underlying9 hi hz0 hz1 hz2 p n cp (bts (List.replicate M 0)) (by omega) (by rw [hz, str_zeros]; exact zero_cells M) (by omega) (by omega) (fun hlt => by have := growslice_fits (bytes := 1) hlt (by omega); omega), hz] at hr
    rw [hz, str_zeros] at h2
    obtain ⟨p', c', rfl, _⟩ := own_shape h2
    exact Lib.wpList_append_run w hgd sl x _ _ ho _ _ hs hx _ w' hr (h p' c' w' h2 (hB.grown h3 hB.size (fun q e => ownBlock_le hown e)) h3)
theorem row_grownD {w w' : World} {base e size n : Nat} {v : Value} {xs : List Value} {row : Option Nat} (h : w.ownsRow base e size v n xs) (hg : w.grownBy w' row) (hne : ∀ g, row = some g → g < base) : w'.ownsRow base e size v n xs := by
  obtain ⟨h0, (⟨h1, h2⟩ | ⟨g, cap, cur, h1, hb, hg1, h4, h5, h6, h7⟩)⟩ := h
  · exact ⟨h0, .inl ⟨h1, h2⟩⟩
  · exact ⟨h0, .inr ⟨g, cap, cur, h1, hb, (hg.block g (Array.getElem?_eq_some_iff.1 hg1).1 (fun e => by have := hne g e.symm; omega)).trans hg1, h4, h5, h6, h7⟩⟩
theorem own_block_lt {w : World} {base e size n : Nat} {v : Value} {xs : List Value} (h : w.ownsRow base e size v n xs) : ∀ g, v.ownBlock = some g → g < w.heap.size := fun g hg => by
  obtain ⟨h0, (⟨rfl, h2⟩ | ⟨g1, cap, cur, rfl, hb, hg1, h4, h5, h6, h7⟩)⟩ := h
  · cases hg
  · have e : g1 = g := by injection hg
    subst e
    exact (Array.getElem?_eq_some_iff.1 hg1).1
/-- append of a row to a row of bytes -/
theorem append_row8 {w w0 : World} {ops : Array Oper} {rest : List Oper} {o : Oper} {a : Act} {Q : Exit → Act → World → Prop} (hgd : o.guard = none) (s x : Operand)
    (ho : o.op = .call { callee := .builtin .append, args := #[s, x], argTypes := #[69, 69] })
    (p : Option Addr) (n cp : Nat) (xs : List Value) (q : Option Addr) (m cq : Nat) (ys : List Value) (B2 : Nat) (hs : a.eval s = .slice p n cp) (hx : a.eval x = .slice q m cq)
    (hown : w.ownsRow w0.heap.size 5 1 (.slice p n cp) n xs) (hq : w.ownsRow B2 5 1 (.slice q m cq) m ys) (hys : ∀ u ∈ ys, u.oneCell' = true) (hB : Below w0.heap.size w0 w) (hsm : n + m ≤ 4294967296)
    (h : ∀ p' c' w', w'.ownsRow w0.heap.size 5 1 (.slice p' (n + m) c') (n + m) (xs ++ ys) → Below w0.heap.size w0 w' → wpList Tryz.prog ops Q rest (a.put o.dst (.slice p' (n + m) c')) w') : wpList Tryz.prog ops Q (o :: rest) a w := by
  obtain ⟨i0, hi, hz0, hz1, hz2⟩ := info_parts Tryz.infoByte
  have hlen : ys.length = m := by have := hq.1; omega
  have hq' := hq
  obtain ⟨_, (⟨h1, h2⟩ | ⟨g, cap, cur, h1, hb, hg, hn, hcap, hsz, ht⟩)⟩ := hq'
  · cases h1
    have : ys = [] := List.length_eq_zero_iff.1 hlen
    subst this
    refine wpList_append_own_none hgd s x 69 ho w0.heap.size 5 i0 1 Tryz.underlying69 hi (.slice p n cp) n xs hs hown hx ?_
    exact h p cp w (by simpa using hown) hB
  · have hqe : q = some ⟨g, 0, none⟩ := by simp only [Value.slice.injEq] at h1; exact h1.1
    subst hqe
    refine wpList_append_own w hgd s x 69 ho w0.heap.size 5 i0 (.int .u8 0) 1 1 Tryz.underlying69 hi hz0 hz1 hz2 rfl (by decide) (.slice p n cp) n xs hs hown ⟨g, 0, none⟩ m cq ys hx (by omega) ?_ hys (by unfold maxLen; omega) (by omega) hB.size (fun v' w' e1 e2 _ => ?_)
    · exact hq.cells rfl
    · obtain ⟨p', c', rfl, _⟩ := own_shape e1
      exact h _ _ _ e1 (hB.grown e2 hB.size (fun k e => ownBlock_le hown e))
end Go.Proofs.YtfacfhigehdejaaGreatDoor

/-
  Proofs: an address of sixteen bytes read from the word that tells it. (The verifier's own text.)
-/
namespace Go.Proofs.YtfacfhigehdejaaGreatDoor
set_option linter.unusedVariables false
set_option linter.unusedSimpArgs false
open Go.RowKit Go.Shelf Go.Proofs.YtfacfhigehdejaaGreatDoor.Nm

theorem cut6 (U : List Nat) (hU : ∀ u ∈ U, u < 65536) (hl : U.length = 8) : ∃ (A D : List Nat) (gap : Bool) (M : Nat), Lib.cut (bts (ip6U U)).data.toList (bts [58, 58]).data.toList = (u8 (grL A), u8 (grL D), gap) ∧ (∀ u ∈ A, u < 65536) ∧ (∀ u ∈ D, u < 65536) ∧ A.length ≤ 8 ∧ D.length ≤ 8 ∧ 2 * A.length + 2 * D.length + M = 16 ∧ (gap = true → 0 < M) ∧ (gap = false → M = 0) ∧ grB U = grB A ++ List.replicate M 0 ++ grB D := by
  obtain ⟨g1, g2, -⟩ := gap_ok U
  have gb := gap_bytes U
  by_cases h : (gapF U).2 - (gapF U).1 < 2
  · refine ⟨U, [], false, 0, ?_, hU, fun u hu => (by cases hu), by omega, by simp, by simp; omega, fun h => (by cases h), fun _ => rfl, by simp [grB]⟩
    unfold ip6U
    rw [if_pos h, cut_no (by omega) (grL_cc U)]
    rfl
  · refine ⟨U.take (gapF U).1, U.drop (gapF U).2, true, 2 * ((gapF U).2 - (gapF U).1), ?_, fun u hu => hU u (List.mem_of_mem_take hu), fun u hu => hU u (List.mem_of_mem_drop hu), by rw [List.length_take]; omega, by rw [List.length_drop]; omega, by rw [List.length_take, List.length_drop]; omega, fun _ => by omega, fun h => (by cases h), gb⟩
    unfold ip6U
    rw [if_neg h, cut_yes (by omega) (grL_cc _)]
theorem cutText_any (s : ByteArray) (a d : List Nat) (gap : Bool) (w : World) (hs : s.size ≤ 1048576) (hc : Lib.cut s.data.toList (bts [58, 58]).data.toList = (u8 a, u8 d, gap)) (hG : Gm w) :
    Calls Tryz.prog 141 #[.string s, .string ⟨#[58, 58]⟩] w fun e w' => e = .returned (.tuple #[.string (bts a), .string (bts d), .bool gap]) ∧ ∃ n, w' = w.drewN n := by
  obtain ⟨m, hm⟩ := hG
  have h1 := Any.strings_Cut Tryz.lays145 s (bts [58, 58]) m w (by omega) hm
  rw [hc] at h1
  exact h1
set_option maxRecDepth 100000 in
set_option maxHeartbeats 8000000 in
theorem readIp6_any (W0 : World) (L : Nat) (q : Option Addr) (c : Nat) (Z : List Wz) (o : ByteArray) (n : Nat) (b : ByteArray) (w : World) (h : Ln W0 L q c Z o n w) (hb : b.size = 16) (hz : Z[n]? = some ⟨ip6U (g16 b), false⟩) (hG : GD W0) :
    Calls Tryz.prog 138 #[.agg #[], .pointer (some ⟨L, 0, none⟩)] w (RdE W0 L q c Z o (n + 1) b w) := by
  obtain ⟨wa, hwa⟩ : ∃ wa, w.alloc (.cells #[] 88) = wa := ⟨_, rfl⟩
  have HBa : Hid (Below w.heap.size w wa) := hwa ▸ (Below.refl _ w).alloc (Nat.le_refl _) _
  have HLa := hide' (h.below HBa.out)
  have HP := hide' (fun V hV => plain_any W0 L q c Z o n _ V hV hz rfl)
  simp only at HP
  have hip := (ip6_ok b).2
  rw [cst_plain] at hip
  have hgb := g16_bytes hb
  obtain ⟨A, D, gap, M, hcut, hA, hD, hA8, hD8, hsum, hg1, hg2, hgr⟩ := cut6 (g16 b) (g16_lt b) (g16_len b)
  have HCut : Hid (∀ V, Below W0.heap.size W0 V → Calls Tryz.prog 141 #[.string (bts (ip6U (g16 b))), .string ⟨#[58, 58]⟩] V fun e w' => e = .returned (.tuple #[.string (bts (grL A)), .string (bts (grL D)), .bool gap]) ∧ ∃ n, w' = V.drewN n) := fun V hV => cutText_any _ _ _ _ V (by rw [bts_size]; omega) hcut (hG.gm.below hV)
  have HGr : Hid (∀ (V : World) (X : List Nat), Below W0.heap.size W0 V → (∀ u ∈ X, u < 65536) → X.length ≤ 8 → Calls Tryz.prog 142 #[.pointer (some ⟨L, 0, none⟩), .string (bts (grL X))] V fun e w' => ∃ v', e = .returned v' ∧ w'.ownsRow V.heap.size 5 1 v' (2 * X.length) (byts (grB X)) ∧ Below V.heap.size V w') := fun V X hV hX hX8 => readGroups_any _ X V hX hX8 (hG.below hV)
  have HG1 := hide' (fun V hV => HGr.out V A hV hA hA8)
  have HG2 := hide' (fun V hV => HGr.out V D hV hD hD8)
  have HBy : Hid (byts (grB A) ++ List.replicate M (.int .u8 0) ++ byts (grB D) = byts (grB (g16 b))) := by
    unfold Hid
    rw [hgr]
    simp [byts]
  have HLt : Hid (∀ x ∈ grB (g16 b), x < 256) := fun x hx => by
    obtain ⟨u, hu, hx2⟩ := List.mem_flatMap.1 hx
    have := g16_lt b u hu
    simp at hx2
    omega
  have HLen : Hid ((grB (g16 b)).length = 16) := by unfold Hid; rw [grB_len, g16_len]
  have HCv : Hid (∀ (V : World) (B : Nat) (p : Option Addr) (c' : Nat), V.ownsRow B 5 1 (.slice p 16 c') 16 (byts (grB (g16 b))) → (convert 69 9 (.slice p 16 c')).run Tryz.prog V = .ok (.string b) V) := fun V B p c' ho => by
    have e := HLen.out
    have := str_owns (W := V) (b := B) (c := c') (p := p) (xs := grB (g16 b)) (by rw [e]; exact ho) HLt.out
    rw [hgb, e] at this
    exact this
  have HM := hide' (fun v V => must_any v V)
  obtain ⟨na, hna⟩ : ∃ na, 2 * A.length = na := ⟨_, rfl⟩
  obtain ⟨nd, hnd⟩ : ∃ nd, 2 * D.length = nd := ⟨_, rfl⟩
  rw [hna] at HG1 hsum
  rw [hnd] at HG2 hsum
  have hYs : ∀ u ∈ byts (grB D), u.oneCell' = true := fun u hu => by
    obtain ⟨x, _, rfl⟩ := List.mem_map.1 hu
    rfl
  have HYs := hide' hYs
  generalize bts (ip6U (g16 b)) = T at *
  generalize bts (grL A) = TA at *
  generalize bts (grL D) = TD at *
  generalize byts (grB A) = xa at *
  generalize byts (grB D) = xd at *
  generalize byts (grB (g16 b)) = xb at *
  have hm1 : (16 : Int) - (na : Int) - (nd : Int) = (M : Int) := by omega
  have hna16 : na ≤ 16 := by omega
  have hnd16 : nd ≤ 16 := by omega
  have hM16 : M ≤ 16 := by omega
  have HSum := hide' hsum
  clear hz hgb hcut hA hD hA8 hD8 hgr hna hnd hip hb HGr hYs hsum HLt HLen
  cases gap with
  | true =>
    have hM0 : 0 < M := hg1 rfl
    have hMI : (0 : Int) < (M : Int) := by omega
    clear hg1 hg2
    go_enter Tryz.func138, Tryz.ntmps138
    go_wp2_with (first
      | (go_at_call 42; refine (HP.out _ HLa.out).mono ?_; rintro e2 w2 ⟨rfl, hL2, hR2⟩; have HL2 := hide' hL2; have HR2 := hide' ((Rg.of_below HBa.out L).trans hR2); clear hL2 hR2)
      | (go_at_call 141; refine (HCut.out _ HL2.out.bel).mono ?_; rintro e3 w3 ⟨rfl, m, hw3⟩; have HB3 : Hid (Below w2.heap.size w2 w3) := (by unfold Hid; rw [hw3]; exact below_drewN (Below.refl _ _) m); have HL3 := hide' (HL2.out.below HB3.out); have HR3 := hide' (HR2.out.trans (Rg.of_below HB3.out L)); clear hw3)
      | (go_at_call 142; refine (HG1.out _ HL3.out.bel).mono ?_; rintro e4 w4 ⟨v4, rfl, ho4, hB4⟩; obtain ⟨p4, c4, rfl, -⟩ := own_shape ho4; have HO4 := hide' ho4; have HB4 := hide' hB4; clear ho4 hB4 HG1)
      | (go_at_call 142; refine (HG2.out _ (HL3.out.below HB4.out).bel).mono ?_; rintro e5 w5 ⟨v5, rfl, ho5, hB5⟩; obtain ⟨p5, c5, rfl, -⟩ := own_shape ho5; have HO5 := hide' ho5; have HO45 := hide' (ownsRow_below HO4.out hB5); have HB5 := hide' hB5; clear ho5 hB5)
      | (go_at_call 43; refine (HM.out _ _).mono ?_; rintro e1 w6 ⟨rfl, hw6⟩; have hw6' := hw6.symm; subst hw6')
      | (at_builtin; refine append_noughts (w0 := w3) rfl _ _ rfl p4 na c4 xa M ?_ ?_ HO45.out (bstep HB4.out HB5.out HB4.out.size) (by omega) (by omega) ?_; rfl; rfl; intro p7 c7 w7 ho7 hB7 hg7; have HO7 := hide' ho7; have HB7 := hide' hB7; have HQ7 := hide' (row_grownD HO5.out hg7 (own_block_lt HO4.out)); clear ho7 hB7 hg7)
      | (at_builtin; refine append_row8 (w0 := w3) rfl _ _ rfl p7 (na + M) c7 _ p5 nd c5 xd _ ?_ ?_ HO7.out HQ7.out HYs.out HB7.out (by omega) ?_; rfl; rfl; intro p8 c8 w8 ho8 hB8; have HB8 := hide' hB8; have ho16 : w8.ownsRow w3.heap.size 5 1 (.slice p8 16 c8) 16 xb := (by rw [HBy.out] at ho8; have e := HSum.out; rw [show na + M + nd = 16 by omega] at ho8; exact ho8); have hcv := HCv.out w8 _ p8 c8 ho16; have hn16 : na + M + nd = 16 := (by have e := HSum.out; omega); rw [hn16]; clear ho8 hB8 ho16 hn16))
    go_ret
    exact ⟨rfl, HL3.out.below HB8.out, HR3.out.trans (Rg.of_below HB8.out L)⟩
  | false =>
    have hM0 : M = 0 := hg2 rfl
    subst hM0
    clear hg1 hg2
    go_enter Tryz.func138, Tryz.ntmps138
    go_wp2_with (first
      | (go_at_call 42; refine (HP.out _ HLa.out).mono ?_; rintro e2 w2 ⟨rfl, hL2, hR2⟩; have HL2 := hide' hL2; have HR2 := hide' ((Rg.of_below HBa.out L).trans hR2); clear hL2 hR2)
      | (go_at_call 141; refine (HCut.out _ HL2.out.bel).mono ?_; rintro e3 w3 ⟨rfl, m, hw3⟩; have HB3 : Hid (Below w2.heap.size w2 w3) := (by unfold Hid; rw [hw3]; exact below_drewN (Below.refl _ _) m); have HL3 := hide' (HL2.out.below HB3.out); have HR3 := hide' (HR2.out.trans (Rg.of_below HB3.out L)); clear hw3)
      | (go_at_call 142; refine (HG1.out _ HL3.out.bel).mono ?_; rintro e4 w4 ⟨v4, rfl, ho4, hB4⟩; obtain ⟨p4, c4, rfl, -⟩ := own_shape ho4; have HO4 := hide' ho4; have HB4 := hide' hB4; clear ho4 hB4 HG1)
      | (go_at_call 142; refine (HG2.out _ (HL3.out.below HB4.out).bel).mono ?_; rintro e5 w5 ⟨v5, rfl, ho5, hB5⟩; obtain ⟨p5, c5, rfl, -⟩ := own_shape ho5; have HO5 := hide' ho5; have HO45 := hide' (ownsRow_below HO4.out hB5); have HB5 := hide' hB5; clear ho5 hB5)
      | (go_at_call 43; refine (HM.out _ _).mono ?_; rintro e1 w6 ⟨rfl, hw6⟩; have hw6' := hw6.symm; subst hw6')
      | (at_builtin; refine append_noughts (w0 := w3) rfl _ _ rfl p4 na c4 xa 0 ?_ ?_ HO45.out (bstep HB4.out HB5.out HB4.out.size) (by omega) (by omega) ?_; rfl; rfl; intro p7 c7 w7 ho7 hB7 hg7; have HO7 := hide' ho7; have HB7 := hide' hB7; have HQ7 := hide' (row_grownD HO5.out hg7 (own_block_lt HO4.out)); clear ho7 hB7 hg7)
      | (at_builtin; refine append_row8 (w0 := w3) rfl _ _ rfl p7 (na + 0) c7 _ p5 nd c5 xd _ ?_ ?_ HO7.out HQ7.out HYs.out HB7.out (by omega) ?_; rfl; rfl; intro p8 c8 w8 ho8 hB8; have HB8 := hide' hB8; have ho16 : w8.ownsRow w3.heap.size 5 1 (.slice p8 16 c8) 16 xb := (by rw [HBy.out] at ho8; have e := HSum.out; rw [show na + 0 + nd = 16 by omega] at ho8; exact ho8); have hcv := HCv.out w8 _ p8 c8 ho16; have hn16 : na + 0 + nd = 16 := (by have e := HSum.out; omega); rw [hn16]; clear ho8 hB8 ho16 hn16))
    go_ret
    exact ⟨rfl, HL3.out.below HB8.out, HR3.out.trans (Rg.of_below HB8.out L)⟩
end Go.Proofs.YtfacfhigehdejaaGreatDoor
