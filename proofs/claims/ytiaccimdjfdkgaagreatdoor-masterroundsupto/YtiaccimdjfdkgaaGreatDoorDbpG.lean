import Derived.Test.YtiaccimdjfdkgaaGreatDoorDbkG
import Derived.Test.YtiaccimdjfdkgaaGreatDoorDa9G
import Derived.Lib.AppendZeros
import Derived.Lib.AppendStr
/-
  Proofs: groups of an address of sixteen bytes read. (The verifier's own text.)
-/
namespace Go.Proofs.YtiaccimdjfdkgaaGreatDoor
set_option linter.unusedVariables false
set_option linter.unusedSimpArgs false
open Go.RowKit Go.Shelf Go.Proofs.YtiaccimdjfdkgaaGreatDoor.Nm

theorem cell_two8 (w : World) (a b : Value) (T : TypeId) : ∀ j u, ([a, b] : List Value)[j]? = some u → (w.alloc (.cells #[a, b] T)).cell? ((⟨w.heap.size, 0, none⟩ : Addr).add j) = some u := cell_two_new w a b T
theorem grB_step {U : List Nat} {k : Nat} (h : k < U.length) : byts (grB (U.take (k + 1))) = byts (grB (U.take k)) ++ [.int .u8 ((U[k] / 256 : Nat) : Int), .int .u8 ((U[k] % 256 : Nat) : Int)] := by
  rw [List.take_add_one, List.getElem?_eq_getElem h, Option.toList_some, grB_app]
  simp [byts, grB]
set_option maxRecDepth 100000 in
set_option maxHeartbeats 4000000 in
/-- data.readGroups -/
theorem readGroups_any (v : Value) (U : List Nat) (w : World) (hU : ∀ u ∈ U, u < 65536) (hl : U.length ≤ 8) (hG : GD w) :
    Calls Tryz.prog 229 #[v, .string (bts (grL U))] w fun e w' => ∃ v', e = .returned v' ∧ w'.ownsRow w.heap.size 5 1 v' (2 * U.length) (byts (grB U)) ∧ Below w.heap.size w w' := by
  by_cases h0 : U = []
  · subst h0
    have he := isEmpty_true (r := bts (grL [])) rfl
    generalize bts (grL []) = X at *
    go_enter Tryz.func229, Tryz.ntmps229
    go_wp2
    go_ret
    exact ⟨_, rfl, World.ownsRow_nil _ _ _ _, Below.refl _ _⟩
  · obtain ⟨i0, hi, hz0, hz1, hz2⟩ := info_parts Tryz.infoByte
    have hne : grL U ≠ [] := fun e => h0 (grL_nil.1 e)
    have hsz : 0 < (bts (grL U)).size := by
      rw [bts_size]
      exact List.length_pos_iff.2 hne
    have he := isEmpty_false (r := bts (grL U)) hsz
    have hpos : 1 ≤ U.length := List.length_pos_iff.2 h0
    have hgl := grL_len hU
    have HSp : Hid (Calls Tryz.prog 205 #[.string (bts (grL U)), .string ⟨#[58]⟩] w fun e w' => e = .returned (.slice (some ⟨w.heap.size, 0, none⟩) U.length U.length) ∧ w' = w.alloc (.cells (U.map fun u => Value.string (bts (hxL u))).toArray 9)) := by
      cases U with
      | nil => exact absurd rfl h0
      | cons u U =>
        have h1 := split_any 58 (by omega) (hxL u) (U.map hxL) w (fun z hz => (grL_ok (u :: U) z (by simpa using hz)).2) (by show (grL (u :: U)).length ≤ _; omega) hG.gm
        rw [List.length_map] at h1
        simp only [← List.map_cons, List.map_map] at h1
        exact h1
    have HEl : Hid (∀ k (hk : k < U.length), (U.map fun u => Value.string (bts (hxL u)))[k]? = some (.string (bts (hxL U[k]))) ∧ U[k] < 65536 ∧ byts (grB (U.take (k + 1))) = byts (grB (U.take k)) ++ [.int .u8 ((U[k] / 256 : Nat) : Int), .int .u8 ((U[k] % 256 : Nat) : Int)]) := fun k hk => ⟨by rw [List.getElem?_map, List.getElem?_eq_getElem hk]; rfl, hU _ (List.getElem_mem hk), grB_step hk⟩
    have HPu := hide' (fun (u : Nat) (h : u < 65536) (V : World) => spu16 u (by omega) V)
    have HTk : Hid (grB (U.take U.length) = grB U) := by unfold Hid; rw [List.take_length]
    have HM := hide' (fun v V => must_any v V)
    generalize bts (grL U) = X at *
    clear hU h0 hne hsz hgl
    go_enter Tryz.func229, Tryz.ntmps229
    go_wp2_with (go_at_call 205; refine HSp.out.mono ?_; rintro e3 w3 ⟨rfl, hw3⟩; have HW3 := hide' hw3; have HB3 : Hid (Below w.heap.size w w3) := (by unfold Hid; rw [hw3]; exact (Below.refl _ _).alloc (Nat.le_refl _) _); clear hw3)
    go_loopw [5, 15] (fun sv iv wr => ∃ (k m : Nat) (p : Option Addr) (c' : Nat), iv = .int .i64 (k : Int) ∧ sv = .slice p m c' ∧ k ≤ U.length ∧ m ≤ 16 ∧ Hid (m = 2 * k) ∧ Hid (wr.ownsRow w3.heap.size 5 1 (.slice p m c') m (byts (grB (U.take k)))) ∧ Hid (Below w3.heap.size w3 wr)) (fun _ iv _ => U.length - (intOf iv).toNat)
    case atStart => exact ⟨0, 0, none, 0, rfl, rfl, Nat.zero_le _, Nat.zero_le _, rfl, World.ownsRow_nil _ _ _ _, Below.refl _ _⟩
    case round =>
      obtain ⟨k, m, p, c', rfl, rfl, hk, hm, HMk, HO, HB⟩ := hrel
      by_cases hlt : k < U.length
      · obtain ⟨h1, h2, h3⟩ := HEl.out k hlt
        have hcell : wr.cell? ⟨w.heap.size, k, none⟩ = some (.string (bts (hxL U[k]))) := by
          have hc3 : w3.cell? ⟨w.heap.size, k, none⟩ = some (.string (bts (hxL U[k]))) := by rw [HW3.out]; exact row_new h1
          exact (HB.out.cell (p := ⟨w.heap.size, k, none⟩) (Lib.lt_of_cell hc3)).trans hc3
        generalize U[k] = u at *
        have HE := hide' h3
        have HP1 := hide' (HPu.out u h2)
        have hxl : (bts (hxL u)).size ≤ 4 := by rw [bts_size, hxL_len]; exact hxV_len 3 u (by omega)
        have hxI : ((bts (hxL u)).size : Int) ≤ 4 := by omega
        obtain ⟨a, ha⟩ : ∃ a, u / 256 = a := ⟨_, rfl⟩
        obtain ⟨b, hb⟩ : ∃ b, u % 256 = b := ⟨_, rfl⟩
        have hua : (u : Int) / 256 = (a : Int) := by omega
        have wa : IntKind.u8.wrap (a : Int) = (a : Int) := by
          simp [IntKind.wrap, IntKind.bits, IntKind.signed]
          omega
        have wb : IntKind.u8.wrap (u : Int) = (b : Int) := by
          simp [IntKind.wrap, IntKind.bits, IntKind.signed]
          omega
        rw [ha, hb] at HE
        have hm14 : m ≤ 14 := by have := HMk.out; omega
        generalize bts (hxL u) = Y at *
        clear h1 h3 ha hb hxl
        go_wp2_with (first
          | (go_at_call 97; refine (HP1.out _).mono ?_; rintro e5 w5 ⟨rfl, hB5⟩; have HB5 := hide' (bstep HB.out hB5 HB.out.size); have HO5 := hide' (ownsRow_below HO.out hB5); clear hB5)
          | (go_at_call 148; refine (HM.out _ _).mono ?_; rintro e1 w4 ⟨rfl, hw4⟩; have hw4' := hw4.symm; subst hw4')
          | (at_builtin; refine wpList_append_own _ rfl _ _ 56 rfl w3.heap.size 5 i0 (.int .u8 0) 1 1 Tryz.underlying56 hi hz0 hz1 hz2 rfl (by decide) (.slice p m c') m _ ?_ (HO5.out.alloc _) ⟨w5.heap.size, 0, none⟩ 2 2 [.int .u8 (a : Int), .int .u8 (b : Int)] ?_ rfl (cell_two8 _ _ _ _) (by simp [Value.oneCell']) (by unfold maxLen; omega) (by omega) (by have := HB5.out.size; simp; omega) ?_; rfl; rfl; intro v7 w7 ho7 hg7 _; obtain ⟨g7, c7, hv7⟩ := owns_some ho7 (by omega); subst hv7; have HO7 := hide' ho7; have HB7 := hide' (below_app HB5.out (Nat.le_refl _) HO5.out hg7); clear ho7 hg7))
        exact ⟨⟨k + 1, m + 2, _, c7, by go_num, rfl, by omega, by omega, (by unfold Hid; have := HMk.out; omega), by rw [HE.out]; exact HO7, HB7⟩, by simp [intOf]; omega⟩
      · obtain rfl : k = U.length := by omega
        have pk : ¬ (U.length : Int) < (U.length : Int) := by omega
        go_wp2
        go_ret
        refine ⟨_, rfl, ?_, bstep HB3.out HB.out HB3.out.size⟩
        have := own_mono HO.out HB3.out.size
        rw [HTk.out] at this
        have e := HMk.out
        subst e
        exact this
end Go.Proofs.YtiaccimdjfdkgaaGreatDoor

/-
  Proofs: append of noughts to a row of one's own. (The verifier's own text.)
-/
namespace Go.Proofs.YtiaccimdjfdkgaaGreatDoor
set_option linter.unusedVariables false
set_option linter.unusedSimpArgs false
open Go.RowKit Go.Shelf Go.Proofs.YtiaccimdjfdkgaaGreatDoor.Nm

/-- 'append(v, make([]byte, m)...)' is append of a text of m noughts -/
theorem run_noughts {P : Program} (w : World) (t tn u ty e : TypeId) (i : TypeInfo) (kn k : IntKind) (ht : P.underlying t = some (.slice e)) (htn : P.underlying tn = some (.int kn)) (hu : P.underlying u = some .string) (hi : P.info? e = some i) (hz : i.zero = some (.int .u8 0))
    (hsize : i.size = 1) (hby : i.bytes = 1) (b : Option Addr) (n c : Nat) (s : ByteArray) (h0 : 0 < s.size) (hs : Builtin.zeroCells (Value.int .u8 0).cells s.size = (Lib.strCells s).toArray) (hsm : s.size ≤ 1048576) (hn : n ≤ 1099511627776)
    (hfit : c < n + s.size → Builtin.nextslicecap (n + s.size) c ≤ 281474976710656) :
    (Builtin.append_ #[t, tn] ty #[.slice b n c, .int k (s.size : Int)]).run P w = (Builtin.append_ #[t, u] ty #[.slice b n c, .string s]).run P w := by
  have hw : IntKind.i64.wrap (s.size : Int) = s.size := by rw [IntKind.wrap_i64]; omega
  have hf : ∀ W : World, (Builtin.firstCells 1 s.size (.string s)).run P W = .ok (Lib.strCells s).toArray W := fun W => Lib.run_firstCells_string (P := P) W 1 s
  have hneg : ¬ ((s.size : Int) < 0) := by omega
  have hne : ¬ (s.size = 0) := by omega
  have h63 : ¬ (9223372036854775807 < ((n : Int) + (s.size : Int))) := by omega
  have h48 : ¬ (281474976710656 < (s.size : Int)) := by omega
  by_cases hroom : n + s.size ≤ c
  · simp [Builtin.append_, run_underlying ht, run_underlying htn, run_underlying hu, sizeOf, typeInfo, zeroValue, hi, hz, hsize, hby, asInt, asIntOf, hw, hneg, hne, h48, Builtin.lenOf, hroom, hf, hs]
  · have h48' : ¬ (281474976710656 < Builtin.nextslicecap (n + s.size) c) := by have := hfit (by omega); omega
    simp [Builtin.append_, run_underlying ht, run_underlying htn, run_underlying hu, sizeOf, typeInfo, zeroValue, hi, hz, hsize, hby, asInt, asIntOf, hw, hneg, hne, h48, h63, h48', Builtin.lenOf, hroom, hf, hs, Question.forced]
theorem run_nought0 {P : Program} (w : World) (t tn ty e : TypeId) (i : TypeInfo) (kn k : IntKind) (ht : P.underlying t = some (.slice e)) (htn : P.underlying tn = some (.int kn)) (hi : P.info? e = some i) (hz : i.zero = some (.int .u8 0))
    (hsize : i.size = 1) (hby : i.bytes = 1) (b : Option Addr) (n c : Nat) (hnc : n ≤ c) : (Builtin.append_ #[t, tn] ty #[.slice b n c, .int k 0]).run P w = .ok (.slice b n c) w := by
  have hw : IntKind.i64.wrap 0 = 0 := by decide
  cases b <;> simp [hw, hnc, storeCells, Builtin.append_, run_underlying ht, run_underlying htn, sizeOf, typeInfo, zeroValue, hi, hz, hsize, hby, asInt, asIntOf, Builtin.lenOf]
theorem zero_cells : ∀ M : Nat, Builtin.zeroCells (Value.int .u8 0).cells M = (List.replicate M (Value.int .u8 0)).toArray := fun M => by
  have h1 : (Value.int .u8 0).cells = #[Value.int .u8 0] := rfl
  rw [h1]
  simp [Builtin.zeroCells]
  apply Array.ext
  · simp
  · intro i h2 h3
    simp [Nat.mod_one]
theorem str_zeros (M : Nat) : Lib.strCells (bts (List.replicate M 0)) = List.replicate M (Value.int .u8 0) := by
  rw [bts_cells _ (fun x hx => by have := List.eq_of_mem_replicate hx; omega), List.map_replicate]
  rfl
/-- 'append(v, make([]byte, m)...)', v the call's own -/
theorem append_noughts {w w0 : World} {ops : Array Oper} {rest : List Oper} {o : Oper} {a : Act} {Q : Exit → Act → World → Prop} (hgd : o.guard = none) (sl x : Operand)
    (ho : o.op = .call { callee := .builtin .append, args := #[sl, x], argTypes := #[56, 3] })
    (p : Option Addr) (n cp : Nat) (xs : List Value) (M : Nat) (hs : a.eval sl = .slice p n cp) (hx : a.eval x = .int .i64 (M : Int))
    (hown : w.ownsRow w0.heap.size 5 1 (.slice p n cp) n xs) (hB : Below w0.heap.size w0 w) (hn : n ≤ 65536) (hM : M ≤ 65536)
    (h : ∀ p' c' w', w'.ownsRow w0.heap.size 5 1 (.slice p' (n + M) c') (n + M) (xs ++ List.replicate M (.int .u8 0)) → Below w0.heap.size w0 w' → w.grownBy w' (Value.slice p n cp).ownBlock → wpList Tryz.prog ops Q rest (a.put o.dst (.slice p' (n + M) c')) w') : wpList Tryz.prog ops Q (o :: rest) a w := by
  obtain ⟨i0, hi, hz0, hz1, hz2⟩ := info_parts Tryz.infoByte
  rcases Nat.eq_zero_or_pos M with e | e
  · subst e
    obtain ⟨_, _, hsh, hc8, hcm, -⟩ := own_shape hown
    have hcc : n ≤ cp := by simp only [Value.slice.injEq] at hsh; omega
    have hr := run_nought0 (P := Tryz.prog) w 56 3 o.type 5 i0 .i64 .i64 Tryz.underlying56 Tryz.underlying3 hi hz0 hz1 hz2 p n cp hcc
    exact Lib.wpList_append_run w hgd sl x _ _ ho _ _ hs hx _ w hr (h p cp w (by simpa using hown) hB ⟨rfl, rfl, rfl, Nat.le_refl _, fun _ _ _ => rfl⟩)
  · have hz : (bts (List.replicate M 0)).size = M := by rw [bts_size, List.length_replicate]
    obtain ⟨v', w', hr, h2, h3, -⟩ := Lib.run_append_own_string (P := Tryz.prog) w w0.heap.size 56 9 o.type 5 i0 Tryz.underlying56 Tryz.underlying9 hi hz0 hz1 hz2 (.slice p n cp) n xs hown (bts (List.replicate M 0)) (by rw [hz]; unfold maxLen; omega) (by rw [hz]; omega) hB.size
    rw [← run_noughts (P := Tryz.prog) w 56 3 9 o.type 5 i0 .i64 .i64 Tryz.underlying56 Tryz.underlying3 Tryz.underlying9 hi hz0 hz1 hz2 p n cp (bts (List.replicate M 0)) (by omega) (by rw [hz, str_zeros]; exact zero_cells M) (by omega) (by omega) (fun hlt => by have := growslice_fits (bytes := 1) hlt (by omega); omega), hz] at hr
    rw [hz, str_zeros] at h2
    obtain ⟨p', c', rfl, _⟩ := own_shape h2
    exact Lib.wpList_append_run w hgd sl x _ _ ho _ _ hs hx _ w' hr (h p' c' w' h2 (hB.grown h3 hB.size (fun q e => ownBlock_le hown e)) h3)
theorem row_grownD {w w' : World} {base e size n : Nat} {v : Value} {xs : List Value} {row : Option Nat} (h : w.ownsRow base e size v n xs) (hg : w.grownBy w' row) (hne : ∀ g, row = some g → g < base) : w'.ownsRow base e size v n xs := by
  obtain ⟨h0, (⟨h1, h2⟩ | ⟨g, cap, cur, h1, hb, hg1, h4, h5, h6, h7⟩)⟩ := h
  · exact ⟨h0, .inl ⟨h1, h2⟩⟩
  · exact ⟨h0, .inr ⟨g, cap, cur, h1, hb, (hg.block g (Array.getElem?_eq_some_iff.1 hg1).1 (fun e => by have := hne g e.symm; omega)).trans hg1, h4, h5, h6, h7⟩⟩
theorem own_block_lt {w : World} {base e size n : Nat} {v : Value} {xs : List Value} (h : w.ownsRow base e size v n xs) : ∀ g, v.ownBlock = some g → g < w.heap.size := fun g hg => by
  obtain ⟨h0, (⟨rfl, h2⟩ | ⟨g1, cap, cur, rfl, hb, hg1, h4, h5, h6, h7⟩)⟩ := h
  · cases hg
  · have e : g1 = g := by injection hg
    subst e
    exact (Array.getElem?_eq_some_iff.1 hg1).1
/-- append of a row to a row of bytes -/
theorem append_row8 {w w0 : World} {ops : Array Oper} {rest : List Oper} {o : Oper} {a : Act} {Q : Exit → Act → World → Prop} (hgd : o.guard = none) (s x : Operand)
    (ho : o.op = .call { callee := .builtin .append, args := #[s, x], argTypes := #[56, 56] })
    (p : Option Addr) (n cp : Nat) (xs : List Value) (q : Option Addr) (m cq : Nat) (ys : List Value) (B2 : Nat) (hs : a.eval s = .slice p n cp) (hx : a.eval x = .slice q m cq)
    (hown : w.ownsRow w0.heap.size 5 1 (.slice p n cp) n xs) (hq : w.ownsRow B2 5 1 (.slice q m cq) m ys) (hys : ∀ u ∈ ys, u.oneCell' = true) (hB : Below w0.heap.size w0 w) (hsm : n + m ≤ 4294967296)
    (h : ∀ p' c' w', w'.ownsRow w0.heap.size 5 1 (.slice p' (n + m) c') (n + m) (xs ++ ys) → Below w0.heap.size w0 w' → wpList Tryz.prog ops Q rest (a.put o.dst (.slice p' (n + m) c')) w') : wpList Tryz.prog ops Q (o :: rest) a w := by
  obtain ⟨i0, hi, hz0, hz1, hz2⟩ := info_parts Tryz.infoByte
  have hlen : ys.length = m := by have := hq.1; omega
  have hq' := hq
  obtain ⟨_, (⟨h1, h2⟩ | ⟨g, cap, cur, h1, hb, hg, hn, hcap, hsz, ht⟩)⟩ := hq'
  · cases h1
    have : ys = [] := List.length_eq_zero_iff.1 hlen
    subst this
    refine wpList_append_own_none hgd s x 56 ho w0.heap.size 5 i0 1 Tryz.underlying56 hi (.slice p n cp) n xs hs hown hx ?_
    exact h p cp w (by simpa using hown) hB
  · have hqe : q = some ⟨g, 0, none⟩ := by simp only [Value.slice.injEq] at h1; exact h1.1
    subst hqe
    refine wpList_append_own w hgd s x 56 ho w0.heap.size 5 i0 (.int .u8 0) 1 1 Tryz.underlying56 hi hz0 hz1 hz2 rfl (by decide) (.slice p n cp) n xs hs hown ⟨g, 0, none⟩ m cq ys hx (by omega) ?_ hys (by unfold maxLen; omega) (by omega) hB.size (fun v' w' e1 e2 _ => ?_)
    · exact hq.cells rfl
    · obtain ⟨p', c', rfl, _⟩ := own_shape e1
      exact h _ _ _ e1 (hB.grown e2 hB.size (fun k e => ownBlock_le hown e))
end Go.Proofs.YtiaccimdjfdkgaaGreatDoor

/-
  Proofs: an address of sixteen bytes read from the word that tells it. (The verifier's own text.)
-/
namespace Go.Proofs.YtiaccimdjfdkgaaGreatDoor
set_option linter.unusedVariables false
set_option linter.unusedSimpArgs false
open Go.RowKit Go.Shelf Go.Proofs.YtiaccimdjfdkgaaGreatDoor.Nm

theorem cut6 (U : List Nat) (hU : ∀ u ∈ U, u < 65536) (hl : U.length = 8) : ∃ (A D : List Nat) (gap : Bool) (M : Nat), Lib.cut (bts (ip6U U)).data.toList (bts [58, 58]).data.toList = (u8 (grL A), u8 (grL D), gap) ∧ (∀ u ∈ A, u < 65536) ∧ (∀ u ∈ D, u < 65536) ∧ A.length ≤ 8 ∧ D.length ≤ 8 ∧ 2 * A.length + 2 * D.length + M = 16 ∧ (gap = true → 0 < M) ∧ (gap = false → M = 0) ∧ grB U = grB A ++ List.replicate M 0 ++ grB D := by
  obtain ⟨g1, g2, -⟩ := gap_ok U
  have gb := gap_bytes U
  by_cases h : (gapF U).2 - (gapF U).1 < 2
  · refine ⟨U, [], false, 0, ?_, hU, fun u hu => (by cases hu), by omega, by simp, by simp; omega, fun h => (by cases h), fun _ => rfl, by simp [grB]⟩
    unfold ip6U
    rw [if_pos h, cut_no (by omega) (grL_cc U)]
    rfl
  · refine ⟨U.take (gapF U).1, U.drop (gapF U).2, true, 2 * ((gapF U).2 - (gapF U).1), ?_, fun u hu => hU u (List.mem_of_mem_take hu), fun u hu => hU u (List.mem_of_mem_drop hu), by rw [List.length_take]; omega, by rw [List.length_drop]; omega, by rw [List.length_take, List.length_drop]; omega, fun _ => by omega, fun h => (by cases h), gb⟩
    unfold ip6U
    rw [if_neg h, cut_yes (by omega) (grL_cc _)]
theorem cutText_any (s : ByteArray) (a d : List Nat) (gap : Bool) (w : World) (hs : s.size ≤ 1048576) (hc : Lib.cut s.data.toList (bts [58, 58]).data.toList = (u8 a, u8 d, gap)) (hG : Gm w) :
    Calls Tryz.prog 77 #[.string s, .string ⟨#[58, 58]⟩] w fun e w' => e = .returned (.tuple #[.string (bts a), .string (bts d), .bool gap]) ∧ ∃ n, w' = w.drewN n := by
  obtain ⟨m, hm⟩ := hG
  have h1 := Any.strings_Cut Tryz.lays145 s (bts [58, 58]) m w (by omega) hm
  rw [hc] at h1
  exact h1
set_option maxRecDepth 100000 in
set_option maxHeartbeats 8000000 in
theorem readIp6_any (W0 : World) (L : Nat) (q : Option Addr) (c : Nat) (Z : List Wz) (o : ByteArray) (n : Nat) (b : ByteArray) (w : World) (h : Ln W0 L q c Z o n w) (hb : b.size = 16) (hz : Z[n]? = some ⟨ip6U (g16 b), false⟩) (hG : GD W0) :
    Calls Tryz.prog 226 #[.agg #[], .pointer (some ⟨L, 0, none⟩)] w (RdE W0 L q c Z o (n + 1) b w) := by
  obtain ⟨wa, hwa⟩ : ∃ wa, w.alloc (.cells #[] 188) = wa := ⟨_, rfl⟩
  have HBa : Hid (Below w.heap.size w wa) := hwa ▸ (Below.refl _ w).alloc (Nat.le_refl _) _
  have HLa := hide' (h.below HBa.out)
  have HP := hide' (fun V hV => plain_any W0 L q c Z o n _ V hV hz rfl)
  simp only at HP
  have hip := (ip6_ok b).2
  rw [cst_plain] at hip
  have hgb := g16_bytes hb
  obtain ⟨A, D, gap, M, hcut, hA, hD, hA8, hD8, hsum, hg1, hg2, hgr⟩ := cut6 (g16 b) (g16_lt b) (g16_len b)
  have HCut : Hid (∀ V, Below W0.heap.size W0 V → Calls Tryz.prog 77 #[.string (bts (ip6U (g16 b))), .string ⟨#[58, 58]⟩] V fun e w' => e = .returned (.tuple #[.string (bts (grL A)), .string (bts (grL D)), .bool gap]) ∧ ∃ n, w' = V.drewN n) := fun V hV => cutText_any _ _ _ _ V (by rw [bts_size]; omega) hcut (hG.gm.below hV)
  have HGr : Hid (∀ (V : World) (X : List Nat), Below W0.heap.size W0 V → (∀ u ∈ X, u < 65536) → X.length ≤ 8 → Calls Tryz.prog 229 #[.pointer (some ⟨L, 0, none⟩), .string (bts (grL X))] V fun e w' => ∃ v', e = .returned v' ∧ w'.ownsRow V.heap.size 5 1 v' (2 * X.length) (byts (grB X)) ∧ Below V.heap.size V w') := fun V X hV hX hX8 => readGroups_any _ X V hX hX8 (hG.below hV)
  have HG1 := hide' (fun V hV => HGr.out V A hV hA hA8)
  have HG2 := hide' (fun V hV => HGr.out V D hV hD hD8)
  have HBy : Hid (byts (grB A) ++ List.replicate M (.int .u8 0) ++ byts (grB D) = byts (grB (g16 b))) := by
    unfold Hid
    rw [hgr]
    simp [byts]
  have HLt : Hid (∀ x ∈ grB (g16 b), x < 256) := fun x hx => by
    obtain ⟨u, hu, hx2⟩ := List.mem_flatMap.1 hx
    have := g16_lt b u hu
    simp at hx2
    omega
  have HLen : Hid ((grB (g16 b)).length = 16) := by unfold Hid; rw [grB_len, g16_len]
  have HCv : Hid (∀ (V : World) (B : Nat) (p : Option Addr) (c' : Nat), V.ownsRow B 5 1 (.slice p 16 c') 16 (byts (grB (g16 b))) → (convert 56 9 (.slice p 16 c')).run Tryz.prog V = .ok (.string b) V) := fun V B p c' ho => by
    have e := HLen.out
    have := str_owns (W := V) (b := B) (c := c') (p := p) (xs := grB (g16 b)) (by rw [e]; exact ho) HLt.out
    rw [hgb, e] at this
    exact this
  have HM := hide' (fun v V => must_any v V)
  obtain ⟨na, hna⟩ : ∃ na, 2 * A.length = na := ⟨_, rfl⟩
  obtain ⟨nd, hnd⟩ : ∃ nd, 2 * D.length = nd := ⟨_, rfl⟩
  rw [hna] at HG1 hsum
  rw [hnd] at HG2 hsum
  have hYs : ∀ u ∈ byts (grB D), u.oneCell' = true := fun u hu => by
    obtain ⟨x, _, rfl⟩ := List.mem_map.1 hu
    rfl
  have HYs := hide' hYs
  generalize bts (ip6U (g16 b)) = T at *
  generalize bts (grL A) = TA at *
  generalize bts (grL D) = TD at *
  generalize byts (grB A) = xa at *
  generalize byts (grB D) = xd at *
  generalize byts (grB (g16 b)) = xb at *
  have hm1 : (16 : Int) - (na : Int) - (nd : Int) = (M : Int) := by omega
  have hna16 : na ≤ 16 := by omega
  have hnd16 : nd ≤ 16 := by omega
  have hM16 : M ≤ 16 := by omega
  have HSum := hide' hsum
  clear hz hgb hcut hA hD hA8 hD8 hgr hna hnd hip hb HGr hYs hsum HLt HLen
  cases gap with
  | true =>
    have hM0 : 0 < M := hg1 rfl
    have hMI : (0 : Int) < (M : Int) := by omega
    clear hg1 hg2
    go_enter Tryz.func226, Tryz.ntmps226
    go_wp2_with (first
      | (go_at_call 147; refine (HP.out _ HLa.out).mono ?_; rintro e2 w2 ⟨rfl, hL2, hR2⟩; have HL2 := hide' hL2; have HR2 := hide' ((Rg.of_below HBa.out L).trans hR2); clear hL2 hR2)
      | (go_at_call 77; refine (HCut.out _ HL2.out.bel).mono ?_; rintro e3 w3 ⟨rfl, m, hw3⟩; have HB3 : Hid (Below w2.heap.size w2 w3) := (by unfold Hid; rw [hw3]; exact below_drewN (Below.refl _ _) m); have HL3 := hide' (HL2.out.below HB3.out); have HR3 := hide' (HR2.out.trans (Rg.of_below HB3.out L)); clear hw3)
      | (go_at_call 229; refine (HG1.out _ HL3.out.bel).mono ?_; rintro e4 w4 ⟨v4, rfl, ho4, hB4⟩; obtain ⟨p4, c4, rfl, -⟩ := own_shape ho4; have HO4 := hide' ho4; have HB4 := hide' hB4; clear ho4 hB4 HG1)
      | (go_at_call 229; refine (HG2.out _ (HL3.out.below HB4.out).bel).mono ?_; rintro e5 w5 ⟨v5, rfl, ho5, hB5⟩; obtain ⟨p5, c5, rfl, -⟩ := own_shape ho5; have HO5 := hide' ho5; have HO45 := hide' (ownsRow_below HO4.out hB5); have HB5 := hide' hB5; clear ho5 hB5)
      | (go_at_call 148; refine (HM.out _ _).mono ?_; rintro e1 w6 ⟨rfl, hw6⟩; have hw6' := hw6.symm; subst hw6')
      | (at_builtin; refine append_noughts (w0 := w3) rfl _ _ rfl p4 na c4 xa M ?_ ?_ HO45.out (bstep HB4.out HB5.out HB4.out.size) (by omega) (by omega) ?_; rfl; rfl; intro p7 c7 w7 ho7 hB7 hg7; have HO7 := hide' ho7; have HB7 := hide' hB7; have HQ7 := hide' (row_grownD HO5.out hg7 (own_block_lt HO4.out)); clear ho7 hB7 hg7)
      | (at_builtin; refine append_row8 (w0 := w3) rfl _ _ rfl p7 (na + M) c7 _ p5 nd c5 xd _ ?_ ?_ HO7.out HQ7.out HYs.out HB7.out (by omega) ?_; rfl; rfl; intro p8 c8 w8 ho8 hB8; have HB8 := hide' hB8; have ho16 : w8.ownsRow w3.heap.size 5 1 (.slice p8 16 c8) 16 xb := (by rw [HBy.out] at ho8; have e := HSum.out; rw [show na + M + nd = 16 by omega] at ho8; exact ho8); have hcv := HCv.out w8 _ p8 c8 ho16; have hn16 : na + M + nd = 16 := (by have e := HSum.out; omega); rw [hn16]; clear ho8 hB8 ho16 hn16))
    go_ret
    exact ⟨rfl, HL3.out.below HB8.out, HR3.out.trans (Rg.of_below HB8.out L)⟩
  | false =>
    have hM0 : M = 0 := hg2 rfl
    subst hM0
    clear hg1 hg2
    go_enter Tryz.func226, Tryz.ntmps226
    go_wp2_with (first
      | (go_at_call 147; refine (HP.out _ HLa.out).mono ?_; rintro e2 w2 ⟨rfl, hL2, hR2⟩; have HL2 := hide' hL2; have HR2 := hide' ((Rg.of_below HBa.out L).trans hR2); clear hL2 hR2)
      | (go_at_call 77; refine (HCut.out _ HL2.out.bel).mono ?_; rintro e3 w3 ⟨rfl, m, hw3⟩; have HB3 : Hid (Below w2.heap.size w2 w3) := (by unfold Hid; rw [hw3]; exact below_drewN (Below.refl _ _) m); have HL3 := hide' (HL2.out.below HB3.out); have HR3 := hide' (HR2.out.trans (Rg.of_below HB3.out L)); clear hw3)
      | (go_at_call 229; refine (HG1.out _ HL3.out.bel).mono ?_; rintro e4 w4 ⟨v4, rfl, ho4, hB4⟩; obtain ⟨p4, c4, rfl, -⟩ := own_shape ho4; have HO4 := hide' ho4; have HB4 := hide' hB4; clear ho4 hB4 HG1)
      | (go_at_call 229; refine (HG2.out _ (HL3.out.below HB4.out).bel).mono ?_; rintro e5 w5 ⟨v5, rfl, ho5, hB5⟩; obtain ⟨p5, c5, rfl, -⟩ := own_shape ho5; have HO5 := hide' ho5; have HO45 := hide' (ownsRow_below HO4.out hB5); have HB5 := hide' hB5; clear ho5 hB5)
      | (go_at_call 148; refine (HM.out _ _).mono ?_; rintro e1 w6 ⟨rfl, hw6⟩; have hw6' := hw6.symm; subst hw6')
      | (at_builtin; refine append_noughts (w0 := w3) rfl _ _ rfl p4 na c4 xa 0 ?_ ?_ HO45.out (bstep HB4.out HB5.out HB4.out.size) (by omega) (by omega) ?_; rfl; rfl; intro p7 c7 w7 ho7 hB7 hg7; have HO7 := hide' ho7; have HB7 := hide' hB7; have HQ7 := hide' (row_grownD HO5.out hg7 (own_block_lt HO4.out)); clear ho7 hB7 hg7)
      | (at_builtin; refine append_row8 (w0 := w3) rfl _ _ rfl p7 (na + 0) c7 _ p5 nd c5 xd _ ?_ ?_ HO7.out HQ7.out HYs.out HB7.out (by omega) ?_; rfl; rfl; intro p8 c8 w8 ho8 hB8; have HB8 := hide' hB8; have ho16 : w8.ownsRow w3.heap.size 5 1 (.slice p8 16 c8) 16 xb := (by rw [HBy.out] at ho8; have e := HSum.out; rw [show na + 0 + nd = 16 by omega] at ho8; exact ho8); have hcv := HCv.out w8 _ p8 c8 ho16; have hn16 : na + 0 + nd = 16 := (by have e := HSum.out; omega); rw [hn16]; clear ho8 hB8 ho16 hn16))
    go_ret
    exact ⟨rfl, HL3.out.below HB8.out, HR3.out.trans (Rg.of_below HB8.out L)⟩
end Go.Proofs.YtiaccimdjfdkgaaGreatDoor

/-
  Proofs: any field read from the words that tell it, by its kind's method. (The verifier's own text.)
-/
namespace Go.Proofs.YtiaccimdjfdkgaaGreatDoor
set_option linter.unusedVariables false
set_option linter.unusedSimpArgs false
open Go.RowKit Go.Shelf Go.Proofs.YtiaccimdjfdkgaaGreatDoor.Nm

def kRd : Kind → Nat
  | 0 => 202 | 1 => 226 | 2 => 214 | 3 => 218 | 4 => 223 | 5 => 233 | 6 => 241
  | 7 => 281 | 8 => 283 | 9 => 251 | 10 => 237 | 11 => 288 | 12 => 291 | _ + 13 => 196
theorem method_read (n : Nat) (k : Kind) (w : World) : (method (n + 1) (kT k) (kR k) "gazetteer/data.read").run Tryz.prog w = .ok (kRd k, kR k) w := by
  rcases kind_cases k with rfl | rfl | rfl | rfl | rfl | rfl | rfl | rfl | rfl | rfl | rfl | rfl | rfl | ⟨n, rfl⟩ <;> kernel_rfl
theorem enter_read (k : Kind) (args : Array Value) (w : World) : (callFunc (kRd k) args).run Tryz.prog w = .ok (.enter (kRd k) args) w := by
  rcases kind_cases k with rfl | rfl | rfl | rfl | rfl | rfl | rfl | rfl | rfl | rfl | rfl | rfl | rfl | ⟨n, rfl⟩ <;> kernel_rfl
/-- kinds whose words go on to the end -/
def endR (k : Kind) : Bool := decide ((k : Nat) = 4 ∨ (k : Nat) = 5 ∨ (k : Nat) = 6 ∨ (k : Nat) = 9)
/-- kinds of fields that are known -/
def kKn (k : Kind) : Bool := decide ((k : Nat) ≤ 11 ∨ (k : Nat) = 14 ∨ (k : Nat) = 15 ∨ (k : Nat) = 17)
theorem kKn_ok {k : Kind} (h : kKn k = true) : kOk k = true := by
  unfold kKn at h
  unfold kOk
  have h1 : (k : Nat) ≤ 11 ∨ (k : Nat) = 14 ∨ (k : Nat) = 15 ∨ (k : Nat) = 17 := of_decide_eq_true h
  refine decide_eq_true ?_
  show (k : Nat) ≤ 17
  rcases h1 with e | e | e | e
  · exact Nat.le_trans e (by decide)
  · exact Nat.le_trans (Nat.le_of_eq e) (by decide)
  · exact Nat.le_trans (Nat.le_of_eq e) (by decide)
  · exact Nat.le_of_eq e
theorem hash_two {b : ByteArray} (h : hashS b = some b.size) : 1 < b.size := by
  unfold hashS at h
  split at h
  · cases h
  · rename_i hno
    have h4 := cntS_some h
    rcases Nat.lt_or_ge 1 b.size with h5 | h5
    · exact h5
    · exfalso
      have h6 : b.size = 1 := by omega
      unfold cntS at h
      split at h
      · cases h
      · simp only [Option.some.injEq] at h
        exact hno (.inr (by omega))
theorem cnt_chunk {b : ByteArray} (h : cntS b = some b.size) : (b.extract 1 b.size).size ≤ 255 ∧ b = chunk (b.extract 1 b.size) := by
  obtain ⟨x, hx, hm, hxe⟩ := cntS_chunk h
  rw [ext_full] at hxe
  have e : b.extract 1 b.size = x := by
    rw [hxe]
    exact chunk_tail
  rw [e]
  exact ⟨hx, hxe⟩
theorem readK_any (W0 : World) (L : Nat) (q : Option Addr) (c : Nat) (Z : List Wz) (o : ByteArray) (n : Nat) (k : Kind) (b : ByteArray) (w : World) (h : Ln W0 L q c Z o n w) (hk : kKn k = true) (hs : kindSize k b = some b.size) (hb : b.size ≤ 65535) (ho : isN o = true) (hG : GD W0)
    (hz : ∀ j (hj : j < (tellK k b).length), Z[n + j]? = some (tellK k b)[j]) (he : endR k = true → n + (tellK k b).length = Z.length) :
    Calls Tryz.prog (kRd k) #[kR k, .pointer (some ⟨L, 0, none⟩)] w (RdE W0 L q c Z o (n + (tellK k b).length) b w) := by
  rcases kind_cases k with rfl | rfl | rfl | rfl | rfl | rfl | rfl | rfl | rfl | rfl | rfl | rfl | rfl | ⟨m, rfl⟩
  · simp only [kindSize, fixS] at hs
    exact readIp4_any W0 L q c Z o n b w h (by split at hs <;> simp at hs; omega) (hz 0 (Nat.zero_lt_one)) hG
  · simp only [kindSize, fixS] at hs
    exact readIp6_any W0 L q c Z o n b w h (by split at hs <;> simp at hs; omega) (hz 0 (Nat.zero_lt_one)) hG
  · have hd := (domS_some hs).2.2.2
    rw [ext_full] at hd
    exact readDom_any W0 L q c Z o n b w h hd ho (hz 0 (Nat.zero_lt_one)) hG
  · obtain ⟨h1, h2⟩ := cnt_chunk hs
    exact readText_any W0 L q c Z o n b w h _ h1 h2 (hz 0 (Nat.zero_lt_one)) hG
  · obtain ⟨x, X, hX, rfl⟩ := txtS_row hs
    have e : tellK 4 (chunks (x :: X)) = (x :: X).map txW := txtW_chunks (x :: X) _ hX (chunks_len _)
    have hen := he rfl
    rw [e, List.length_map] at hen ⊢
    refine readTexts_any W0 L q c Z o n (x :: X) w h hX (by simp) hen (fun j hj => ?_) hb hG
    have := hz j (by rw [e, List.length_map]; exact hj)
    simp only [e, List.getElem_map] at this
    exact this
  · have h0 : 0 < b.size := by simp only [kindSize, endS] at hs; split at hs <;> simp at hs; omega
    exact readHex_any W0 L q c Z o n b w h hb h0 (hz 0 (Nat.zero_lt_one)) (he rfl)
  · have h0 : 0 < b.size := by simp only [kindSize, endS] at hs; split at hs <;> simp at hs; omega
    exact readBase64_any W0 L q c Z o n b w h hb h0 (hz 0 (Nat.zero_lt_one)) (he rfl)
  · obtain ⟨h1, h2⟩ := cnt_chunk hs
    by_cases e1 : b.size = 1
    · have e : tellK 7 b = [⟨[45], false⟩] := by show (if b.size = 1 then _ else _) = _; rw [if_pos e1]
      simp only [e] at hz ⊢
      have hx : b.extract 1 b.size = ⟨#[]⟩ := by
        refine ba_ext (by rw [size_tail]; show _ = 0; omega) fun j hj => ?_
        rw [size_tail] at hj; omega
      rw [hx] at h2
      exact readSalt0_any W0 L q c Z o n b w h h2 (hz 0 (Nat.zero_lt_one))
    · have e : tellK 7 b = [⟨lsB (toWB 4 d16 (b.extract 1 b.size)), false⟩] := by show (if b.size = 1 then _ else _) = _; rw [if_neg e1]
      simp only [e] at hz ⊢
      have h3 := (cntS_some hs).1
      exact readSalt1_any W0 L q c Z o n b w h _ h1 (by rw [size_tail]; omega) h2 (hz 0 (Nat.zero_lt_one))
  · have h4 := hash_two hs
    have h5 : cntS b = some b.size := by
      simp only [kindSize] at hs
      unfold hashS at hs
      split at hs
      · cases hs
      · exact hs
    obtain ⟨h1, h2⟩ := cnt_chunk h5
    exact readHash_any W0 L q c Z o n b w h _ h1 (by rw [size_tail]; omega) h2 (hz 0 (Nat.zero_lt_one))
  · simp only [kindSize, setS] at hs
    cases ht : typB b with
    | none => rw [ht] at hs; cases hs
    | some U =>
      have e : tellK 9 b = U.map fun t : Nat => ⟨lsB (nameT (t : Int)), false⟩ := by show ((typB b).getD []).map _ = _; rw [ht]; rfl
      have hen := he rfl
      rw [e, List.length_map] at hen ⊢
      refine readSet_any W0 L q c Z o n b U w h ht hb hen (fun j hj => ?_) hG
      have := hz j (by rw [e, List.length_map]; exact hj)
      simp only [e, List.getElem_map] at this
      exact this
  · simp only [kindSize] at hs
    unfold oneS at hs
    split at hs
    · cases hs
    · rename_i hno
      simp only [Option.some.injEq] at hs
      have h0 := bt_lt b 0
      have h1 := bt_lt b 1
      have hv : vN b b.size = bt b 0 * 256 + bt b 1 := by
        rw [← hs]
        simp [vN]
      have hnb := nB_vN (b := b) (by omega)
      rw [← hs] at hnb
      have hvv : vN b 2 = bt b 0 * 256 + bt b 1 := by simp [vN]
      refine readOne_any W0 L q c Z o n b w h (vN b b.size) (by omega) (by omega) (by rw [← hs]; exact hnb) (hz 0 (Nat.zero_lt_one)) hG
  · exact readTail_any W0 L q c Z o n b w h hb (hz 0 (Nat.zero_lt_one)) hG
  · cases hk
  · have hm : m = 1 ∨ m = 2 ∨ m = 4 := by
      unfold kKn at hk
      have h17 : (m + 13 : Nat) ≤ 11 ∨ (m + 13 : Nat) = 14 ∨ (m + 13 : Nat) = 15 ∨ (m + 13 : Nat) = 17 := of_decide_eq_true hk
      omega
    simp only [kindSize, fixS] at hs
    have hz4 : b.size = m := by split at hs <;> simp at hs; omega
    have hnb := nB_vN (b := b) (by omega)
    have hv := vN_lt b b.size
    rw [hz4] at hnb hv
    refine readNum_any W0 L q c Z o n b w h m (vN b m) hm hv hnb ?_ hG
    have h8 : Z[n + 0]? = some ⟨dgN (vN b b.size), false⟩ := hz 0 (Nat.zero_lt_one)
    rw [hz4] at h8
    exact h8
end Go.Proofs.YtiaccimdjfdkgaaGreatDoor

/-
  Proofs: how long a builder's text is; all fields read. (The verifier's own text.)
-/
namespace Go.Proofs.YtiaccimdjfdkgaaGreatDoor
set_option linter.unusedVariables false
set_option linter.unusedSimpArgs false
open Go.RowKit Go.Shelf Go.Proofs.YtiaccimdjfdkgaaGreatDoor.Nm

/-- whose words go on to the end stands last -/
def lastK : List Kind → Bool
  | [] => true
  | k :: ks => (!endR k || ks.isEmpty) && lastK ks
theorem lastK_at : ∀ {ks : List Kind} {i : Nat} (h : i < ks.length), lastK ks = true → endR ks[i] = true → i + 1 = ks.length
  | [], i, h, _, _ => absurd h (Nat.not_lt_zero _)
  | k :: ks, 0, h, hl, he => by
    unfold lastK at hl
    rw [Bool.and_eq_true] at hl
    have h1 := hl.1
    simp only [List.getElem_cons_zero] at he
    rw [he] at h1
    simp at h1
    rw [h1]; rfl
  | k :: ks, i + 1, h, hl, he => by
    unfold lastK at hl
    rw [Bool.and_eq_true] at hl
    have := lastK_at (ks := ks) (i := i) (by simpa using h) hl.2 (by simpa using he)
    rw [List.length_cons]; omega
/-- the kinds of a type's fields -/
theorem kinds_known {t : Int} {ks : List Kind} (h : kindsOf t = some ks) : ((∀ k ∈ ks, kKn k = true) ∧ lastK ks = true ∧ ks ≠ []) ∨ ks = [12] := by
  unfold kindsOf at h
  by_cases hc : t = 1
  · rw [if_pos hc] at h; cases h; exact .inl ⟨by decide, by decide, by decide⟩
  rw [if_neg hc] at h; clear hc
  by_cases hc : t = 2 ∨ t = 5 ∨ t = 12 ∨ t = 39
  · rw [if_pos hc] at h; cases h; exact .inl ⟨by decide, by decide, by decide⟩
  rw [if_neg hc] at h; clear hc
  by_cases hc : t = 6
  · rw [if_pos hc] at h; cases h; exact .inl ⟨by decide, by decide, by decide⟩
  rw [if_neg hc] at h; clear hc
  by_cases hc : t = 13
  · rw [if_pos hc] at h; cases h; exact .inl ⟨by decide, by decide, by decide⟩
  rw [if_neg hc] at h; clear hc
  by_cases hc : t = 15
  · rw [if_pos hc] at h; cases h; exact .inl ⟨by decide, by decide, by decide⟩
  rw [if_neg hc] at h; clear hc
  by_cases hc : t = 16
  · rw [if_pos hc] at h; cases h; exact .inl ⟨by decide, by decide, by decide⟩
  rw [if_neg hc] at h; clear hc
  by_cases hc : t = 28
  · rw [if_pos hc] at h; cases h; exact .inl ⟨by decide, by decide, by decide⟩
  rw [if_neg hc] at h; clear hc
  by_cases hc : t = 33
  · rw [if_pos hc] at h; cases h; exact .inl ⟨by decide, by decide, by decide⟩
  rw [if_neg hc] at h; clear hc
  by_cases hc : t = 35
  · rw [if_pos hc] at h; cases h; exact .inl ⟨by decide, by decide, by decide⟩
  rw [if_neg hc] at h; clear hc
  by_cases hc : t = 43
  · rw [if_pos hc] at h; cases h; exact .inl ⟨by decide, by decide, by decide⟩
  rw [if_neg hc] at h; clear hc
  by_cases hc : t = 46
  · rw [if_pos hc] at h; cases h; exact .inl ⟨by decide, by decide, by decide⟩
  rw [if_neg hc] at h; clear hc
  by_cases hc : t = 47
  · rw [if_pos hc] at h; cases h; exact .inl ⟨by decide, by decide, by decide⟩
  rw [if_neg hc] at h; clear hc
  by_cases hc : t = 48
  · rw [if_pos hc] at h; cases h; exact .inl ⟨by decide, by decide, by decide⟩
  rw [if_neg hc] at h; clear hc
  by_cases hc : t = 50
  · rw [if_pos hc] at h; cases h; exact .inl ⟨by decide, by decide, by decide⟩
  rw [if_neg hc] at h; clear hc
  by_cases hc : t = 51
  · rw [if_pos hc] at h; cases h; exact .inl ⟨by decide, by decide, by decide⟩
  rw [if_neg hc] at h; clear hc
  by_cases hc : t = 257
  · rw [if_pos hc] at h; cases h; exact .inl ⟨by decide, by decide, by decide⟩
  rw [if_neg hc] at h; clear hc
  by_cases hc : isDT t = true
  · rw [if_pos hc] at h; cases h; exact .inr rfl
  rw [if_neg hc] at h; cases h
set_option maxRecDepth 100000 in
/-- (*strings.Builder).Len -/
theorem blen_any (B b : Nat) (x : ByteArray) (w : World) (h : Bd B b x w) :
    Calls Tryz.prog 133 #[.pointer (some ⟨b, 0, none⟩)] w fun e w' => e = .returned (.int .i64 (x.size : Int)) ∧ w' = w := by
  have hx : (Lib.byteCells x.data.toList).length = x.size := by rw [Lib.byteCells_length, Array.length_toList]; rfl
  have key : ∃ (q : Option Addr) (c : Nat), w.cell? ⟨b, 1, none⟩ = some (.slice q x.size c) := by
    have k2 : ∀ p, Lib.BuilderAtF 58 5 B b p (Lib.byteCells x.data.toList) w → ∃ (q : Option Addr) (c : Nat), w.cell? ⟨b, 1, none⟩ = some (.slice q x.size c) := fun p hp => by
      obtain ⟨hB, v, hg, ⟨hl, ho⟩, hne⟩ := hp
      rw [hx] at ho
      have c1 : w.cell? ⟨b, 1, none⟩ = some v := by rw [Lib.cell_of_heap hg]; rfl
      rcases ho with ⟨rfl, h0⟩ | ⟨g, cap, cur, fz, rfl, _⟩
      · exact ⟨none, 0, by rw [c1, h0]⟩
      · exact ⟨_, cap, c1⟩
    rcases h.1 with h | h
    · exact k2 _ h
    · exact k2 _ h
  obtain ⟨q, c, hc⟩ := key
  go_enter Tryz.func133, Tryz.ntmps133
  go_wp2
  go_ret
  exact ⟨rfl, rfl⟩
set_option maxRecDepth 100000 in
set_option maxHeartbeats 4000000 in
/-- data.readFields, over the words that tell data -/
theorem readFields_any (W0 : World) (L : Nat) (q : Option Addr) (c : Nat) (o : ByteArray) (ps : List (Kind × ByteArray)) (d : ByteArray) (ks : List Kind) (g : Nat) (w : World) (h : Ln W0 L q c (tellA ps) o 0 w) (hok : PsOk ps d) (hks : ps.map (·.1) = ks) (hkn : ∀ k ∈ ks, kKn k = true) (hlast : lastK ks = true)
    (hg : w.heap[g]? = some (.cells (ks.map kindV).toArray 95 (0, 0))) (hgL : g ≠ L) (ho : isN o = true) (hG : GD W0) :
    Calls Tryz.prog 112 #[.slice (some ⟨g, 0, none⟩) ks.length ks.length, .pointer (some ⟨L, 0, none⟩)] w fun e w' => e = .returned (.string d) ∧ Rg w w' L := by
  have hlen : ks.length = ps.length := by rw [← hks, List.length_map]
  have hn9 := hok.few
  have hdl := hok.dl
  have hZl := h.len
  have HNn : Hid (∀ i (hi : i < ps.length), (tellA (ps.take (i + 1))).length = (tellA (ps.take i)).length + (tellK ps[i].1 ps[i].2).length ∧ catB (ps.take (i + 1)) = catB (ps.take i) ++ ps[i].2) := fun i hi => by
    rw [tellA_step hi, List.length_append]
    refine ⟨rfl, ?_⟩
    rw [List.take_add_one, List.getElem?_eq_getElem hi, Option.toList_some, catB_app, catB_one]
  have HLe : Hid (∀ i, (tellA (ps.take i)).length ≤ (tellA ps).length) := fun i => by
    have e : tellA ps = tellA (ps.take i) ++ tellA (ps.drop i) := by
      conv => lhs; rw [← List.take_append_drop i ps]
      unfold tellA
      rw [List.flatMap_append]
    rw [e, List.length_append]
    omega
  have HAll : Hid (tellA (ps.take ps.length) = tellA ps ∧ catB (ps.take ps.length) = d) := by
    unfold Hid
    rw [List.take_length]
    exact ⟨rfl, hok.cat⟩
  have HRd : Hid (∀ i (hi : i < ps.length) (V : World), Ln W0 L q c (tellA ps) o (tellA (ps.take i)).length V → Calls Tryz.prog (kRd ps[i].1) #[kR ps[i].1, .pointer (some ⟨L, 0, none⟩)] V (RdE W0 L q c (tellA ps) o ((tellA (ps.take i)).length + (tellK ps[i].1 ps[i].2).length) ps[i].2 V)) := fun i hi V hV => by
    have hiks : i < ks.length := by omega
    have hki : ks[i] = ps[i].1 := by simp only [← hks, List.getElem_map]
    have hsplit : tellA ps = tellA (ps.take i) ++ (tellK ps[i].1 ps[i].2 ++ tellA (ps.drop (i + 1))) := by
      conv => lhs; rw [← List.take_append_drop i ps, List.drop_eq_getElem_cons hi]
      unfold tellA
      rw [List.flatMap_append, List.flatMap_cons]
    refine readK_any W0 L q c (tellA ps) o (tellA (ps.take i)).length ps[i].1 ps[i].2 V hV (hkn _ (by rw [← hki]; exact List.getElem_mem hiks)) (hok.sz _ (List.getElem_mem hi)) (hok.le _ (List.getElem_mem hi)) ho hG (fun j hj => ?_) (fun he => ?_)
    · rw [hsplit, List.getElem?_append_right (by omega), Nat.add_sub_cancel_left, List.getElem?_append_left hj, List.getElem?_eq_getElem hj]
    · have hl := lastK_at hiks hlast (by rw [hki]; exact he)
      conv => rhs; rw [hsplit]
      rw [List.drop_eq_nil_of_le (by omega), show tellA [] = [] from rfl, List.append_nil, List.length_append]
  have HCell : Hid (∀ i (hi : i < ps.length), w.cell? ⟨g, i, none⟩ = some (.iface (kT ps[i].1) (kR ps[i].1))) := fun i hi => by
    have hiks : i < ks.length := by omega
    have hki : ks[i] = ps[i].1 := by simp only [← hks, List.getElem_map]
    rw [← kindV_eq, ← hki]
    simp [World.cell?, hg, hiks]
  have HSz : Hid (∀ i (hi : i < ps.length), (catB (ps.take i)).size + ps[i].2.size ≤ 1073741824) := fun i hi => by
    have e : d = catB (ps.take i) ++ catB (ps.drop i) := by rw [← catB_app, List.take_append_drop, hok.cat]
    have h1 := congrArg ByteArray.size e
    rw [ByteArray.size_append] at h1
    have h2 := hok.le _ (List.getElem_mem hi)
    omega
  have hglt : g < w.heap.size := (Array.getElem?_eq_some_iff.1 hg).1
  have HGne : Hid (g ≠ L) := hgL
  have HGlt := hide' hglt
  have HM : Hid (∀ V, Ln W0 L q c (tellA ps) o (tellA ps).length V → Calls Tryz.prog 131 #[.pointer (some ⟨L, 0, none⟩)] V fun e w' => e = .returned (.bool false) ∧ ∃ m, w' = V.drewN m) := fun V hV => by
    have := lmore_any W0 L q c (tellA ps) o (tellA ps).length V hV (Nat.le_refl _)
    rw [decide_eq_false (Nat.lt_irrefl _)] at this
    exact this
  have HB0 := hide' (Bd.new w)
  have HBa : Hid (Below w.heap.size w (w.alloc (.cells #[.pointer none, .slice none 0 0] 58))) := (Below.refl _ w).alloc (Nat.le_refl _) _
  have HLa := hide' (h.below HBa.out)
  have HLt : Hid (L < w.heap.size) := h.lt
  rw [hlen]
  have hdI : ¬ (65535 : Int) < (d.size : Int) := by omega
  clear hks hkn hlast hg hgL hglt hlen hZl h hok
  go_enter Tryz.func112, Tryz.ntmps112
  go_wp2_with fail
  go_loopw [10] (fun iv wr => ∃ i : Nat, iv = .int .i64 (i : Int) ∧ i ≤ ps.length ∧ Hid (Ln W0 L q c (tellA ps) o (tellA (ps.take i)).length wr) ∧ Hid (Bd w.heap.size w.heap.size (catB (ps.take i)) wr) ∧ Hid (Rg w wr L)) (fun iv _ => ps.length - (intOf iv).toNat)
  case atStart => exact ⟨0, rfl, Nat.zero_le _, HLa.out, HB0.out, Rg.of_below HBa.out L⟩
  case round =>
    clear HB0 HBa HLa
    obtain ⟨i, rfl, hi, HL, HB, HR⟩ := hrel
    by_cases hlt : i < ps.length
    · have hcell := (World.cell?_of_block (HR.out.block g HGlt.out (fun e => HGne.out (by injection e)))).trans (HCell.out i hlt)
      have HN1 := hide' (HNn.out i hlt)
      have HR1 := hide' (HRd.out i hlt)
      have HS1 := hide' (HSz.out i hlt)
      generalize ps[i].1 = k at *
      generalize ps[i].2 = b at *
      have pk : (i : Int) < (ps.length : Int) := by omega
      go_wp2_with fail
      rw [method_read]
      go_upon
      rw [enter_read, Oper.upon_enter]
      refine (HR1.out _ HL.out).mono ?_
      rintro e w3 ⟨rfl, hL3, hR3⟩
      have HL3 := hide' hL3
      have HB3 := hide' (HB.out.rg hR3 HLt.out)
      have HR3 := hide' (HR.out.trans hR3)
      clear hL3 hR3
      go_wp2_with (go_at_call 15; refine (bwrite_any _ _ _ _ _ HB3.out HS1.out).mono ?_; rintro e2 w4 ⟨rfl, hB4, hb4⟩; have HL4 := hide' (HL3.out.belowB hb4 HLt.out); have HR4 := hide' (HR3.out.belowB hb4 (Nat.le_refl _)); have HB4 := hide' hB4; clear hB4 hb4)
      exact ⟨⟨i + 1, by go_num, by omega, (by rw [HN1.out.1]; exact HL4), (by rw [HN1.out.2]; exact HB4), HR4⟩, by simp [intOf]; omega⟩
    · obtain rfl : i = ps.length := by omega
      have pk : ¬ (ps.length : Int) < (ps.length : Int) := by omega
      have HL' : Hid (Ln W0 L q c (tellA ps) o (tellA ps).length wr) := by have := HL.out; rw [HAll.out.1] at this; exact this
      have HB' : Hid (Bd w.heap.size w.heap.size d wr) := by have := HB.out; rw [HAll.out.2] at this; exact this
      clear HL HB
      go_wp2_with (first
        | (go_at_call 131; refine (HM.out _ HL'.out).mono ?_; rintro e0 w5 ⟨rfl, m, hw5⟩; have hw5' := hw5; subst hw5'; have HB5 := hide' (HB'.out.below (below_drewN (Below.refl _ wr) m)))
        | (go_at_call 133; refine (blen_any _ _ _ _ HB5.out).mono ?_; rintro e6 w6 ⟨rfl, hw6⟩; have hw6' := hw6.symm; subst hw6')
        | (go_at_call 22; refine (bstring_any _ _ _ _ HB5.out).mono ?_; rintro e7 w7 ⟨rfl, -, hb7⟩; have HR7 := hide' ((HR.out.trans (Rg.of_below (below_drewN (Below.refl _ _) m) L)).belowB hb7 (Nat.le_refl _)); clear hb7))
      go_ret
      exact ⟨rfl, HR7.out⟩
end Go.Proofs.YtiaccimdjfdkgaaGreatDoor
