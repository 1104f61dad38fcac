import Derived.Test.YtoabnpdoicbpiaaGreatCc1G
import Derived.Test.YtoabnpdoicbpiaaGreatMf0G
import Derived.Test.YtoabnpdoicbpiaaGreatFt1G
import Derived.Test.YtoabnpdoicbpiaaGreatZncG
import Derived.Test.YtoabnpdoicbpiaaGreatUpdlG
namespace Go.Proofs.YtoabnpdoicbpiaaGreat.Ud
set_option linter.unusedVariables false
set_option linter.unusedSimpArgs false
open Go.RowKit Go.Shelf Go.Maps Go.Proofs.YtoabnpdoicbpiaaGreat Go.Proofs.YtoabnpdoicbpiaaGreat.Nm
theorem ruRow : (29 : TypeId) < Tryz.prog.types.size := of_decide_eq_true (by kernel_rfl)
theorem ruWide : (match Tryz.prog.underlying 29 with | some (.array _ _) | some (.struct _) => true | _ => false) = true := by kernel_rfl
set_option maxRecDepth 100000 in
theorem ruKeyed : Keyed Tryz.prog 29 := Keyed.of_law (deep_law_laid zlaid (m := 3) (by omega) ruRow (by kernel_rfl) ruWide)
theorem ruType : Tryz.prog.keyType 29 = true := by kernel_rfl
theorem ruCells : Tryz.prog.cellsOf 29 = 5 := by kernel_rfl
abbrev RK := ByteArray × Int × Int × Int × ByteArray
def rk (r : Rn) : RK := (r.o, r.t, r.c, r.l, r.d)
def unk (x : RK) : Rn := ⟨x.1, x.2.1, x.2.2.1, x.2.2.2.1, x.2.2.2.2⟩
theorem rk_inj {x y : Rn} (h : rk x = rk y) : x = y := congrArg unk h
def ruL (x : RK) : Lit := .string (keyBytes [.string x.1.data.toList, .int .i64 x.2.1, .int .i64 x.2.2.1, .int .i64 x.2.2.2.1, .string x.2.2.2.2.data.toList])
def ruG (x : RK) : Prop := x.1.size ≤ maxLen ∧ (Lit.int .i64 x.2.1).wf = true ∧ (Lit.int .i64 x.2.2.1).wf = true ∧ (Lit.int .i64 x.2.2.2.1).wf = true ∧ x.2.2.2.2.size ≤ maxLen
theorem ruKey {x : Rn} (h : ruG (rk x)) : keyOf Tryz.prog 29 (urV x) = some (ruL (rk x)) := by
 obtain ⟨h1, h2, h3, h4, h5⟩ := h
 simp only [rk] at h1 h2 h3 h4 h5
 obtain ⟨m, hm⟩ := ztypes
 unfold keyOf
 rw [Tryz.underlying29, hm]
 simp [ruType, Value.formed, Tryz.underlying29, ruCells, zcStr, zcInt, urV, Value.cells, Program.keyLits, Tryz.underlying9, Tryz.underlying3, h1, h2, h3, h4, h5, ruL, rk]
theorem ruL_inj (x y : RK) (hx : ruG x) (hy : ruG y) (h : ruL x = ruL y) : x = y := by
 have h1 : urV (unk x) = urV (unk y) := ruKeyed.inj (ruKey (x := unk x) hx) ((show ruL (rk (unk x)) = ruL (rk (unk y)) from h) ▸ ruKey (x := unk y) hy)
 exact congrArg rk (urV_inj h1)
def inS (S : List Rn) (r : Rn) : Bool := S.any fun s => decide (rk s = rk r)
theorem inS_iff {S : List Rn} {r : Rn} : inS S r = true ↔ r ∈ S := by
 unfold inS
 rw [List.any_eq_true]
 constructor
 ·rintro ⟨s, hs, h⟩
  exact rk_inj (of_decide_eq_true h) ▸ hs
 ·exact fun h => ⟨r, h, decide_eq_true rfl⟩
theorem isKey_ru (x : RK) : WideAt.IsKeyLit (ruL x) := trivial
def euU (v : Value) : Option (DataW Unit × List MemPlace) := match v with
 | .agg cs => match cs.toList with
  | [] => some (.agg [], [])
  | _ => none
 | _ => none
theorem euU_inv (v : Value) (ps : List MemPlace) (h : euU v = some (.agg [], ps)) : v = .agg #[] := by
 unfold euU at h
 split at h
 ·rename_i cs
  split at h
  ·rename_i hc
   have : cs = #[] := by apply Array.toList_inj.1; rw [hc]
   rw [this]
  ·cases h
 ·cases h
abbrev RM (w : World) (b : Nat) (S : List Rn) : Prop := Lmap 29 euU rk ruL ruG (fun _ => .agg []) w b S
theorem RM.store {w : World} {b : Nat} {S : List Rn} (h : RM w b S) {r : Rn} (hr : ruG (rk r)) (hn : S.length < maxLen) : ∃ w', (Instr.mapUpdate 142 (.map (some b)) (.agg #[.string r.o, .int .i64 r.t, .int .i64 r.c, .int .i64 r.l, .string r.d]) (.agg #[])).run Tryz.prog w = .ok () w' ∧ RM w' b (outK rk (rk r) S ++ [r]) ∧ w.grownBy w' (some b) :=
 Lmap.store h ruKeyed Tryz.underlying142 ruL_inj isKey_ru hn hr (ruKey hr) (ps := []) rfl
theorem unZero (w : World) : (zeroValue 135).run Tryz.prog w = .ok (.agg #[]) w := by
 have hz : Tryz.t135.zero = some (.agg #[]) := by kernel_rfl
 simp [zeroValue, hz]
theorem RM.look {w : World} {b : Nat} {S : List Rn} (h : RM w b S) {r : Rn} (hr : ruG (rk r)) : (Instr.lookup 142 (.map (some b)) (.agg #[.string r.o, .int .i64 r.t, .int .i64 r.c, .int .i64 r.l, .string r.d]) true).run Tryz.prog w = .ok (.tuple #[.agg #[], .bool (inS S r)]) w := by
 obtain ⟨D, n, hown, hf⟩ := h
 obtain ⟨v, ps, hrun, hv⟩ := hown.look_ok ruKeyed Tryz.underlying142 (unZero w) (show euU (.agg #[]) = some (.agg [], []) from rfl) (ruKey hr)
 refine hrun.trans ?_
 have e0 : ¬ r ∈ S → inS S r = false := fun hm => by
  rw [Bool.eq_false_iff]
  exact fun q => hm (inS_iff.1 q)
 have e1 : Maps.has D (ruL (rk r)) = inS S r := by
  by_cases hm : r ∈ S
  ·rw [(hf.has r hm).1, inS_iff.2 hm]
  ·rw [hf.not ruL_inj hr (fun e he q => hm (rk_inj q ▸ he)), e0 hm]
 have e2 : v = .agg #[] := by
  by_cases hm : r ∈ S
  ·rw [(hf.has r hm).2] at hv
   exact euU_inv _ _ hv
  ·rw [atKey_of_not_has (by rw [e1, e0 hm])] at hv
   exact euU_inv _ _ hv
 rw [e1, e2]
theorem run_makeMapU (n : Int) (w : World) : (Instr.makeMap 142 (some (.int .i64 n))).run Tryz.prog w = .ok (.map (some w.heap.size)) (w.alloc (.map #[] 0)) := by
 simp [Instr.makeMap, run_underlying Tryz.underlying142, asInt, newObj]
 rfl
structure BOk (w : World) (K M : Nat) (S : List Rn) : Prop where
 k : Bx w K #[.map (some M)] 142
 m : RM w M S
theorem BOk.grown {w w' : World} {K M g : Nat} {S : List Rn} (h : BOk w K M S) (hg : w.grownBy w' (some g)) (hK : K ≠ g) (hM : M ≠ g) : BOk w' K M S :=
 ⟨h.k.grown hg (fun e => hK (Option.some.inj e).symm), h.m.kept hg (fun e => hM (Option.some.inj e))⟩
theorem BOk.below {w w' : World} {K M : Nat} {S : List Rn} (h : BOk w K M S) (hb : Below w.heap.size w w') : BOk w' K M S :=
 ⟨h.k.grown (grown_below hb none) (by simp), h.m.kept (grown_below hb none) (by simp)⟩
def plR (S : List Rn) (r : Rn) : Bool := inS S r
set_option maxRecDepth 100000 in
set_option maxHeartbeats 1000000 in
theorem isPlain_any {K M : Nat} {S : List Rn} (o d : ByteArray) (t c l : Int) {w : World} (hr : ruG (rk ⟨o, t, c, l, d⟩)) (hO : BOk w K M S) :
  Calls Tryz.prog 96 #[.agg #[.string o, .int .i64 t, .int .i64 c, .int .i64 l, .string d], .pointer (some ⟨K, 0, none⟩)] w fun r w' => r = .returned (.bool (inS S ⟨o, t, c, l, d⟩)) ∧ Below w.heap.size w w' := by
 obtain ⟨wb, hwb⟩ : ∃ v, w.alloc (.cells #[.string o, .int .i64 t, .int .i64 c, .int .i64 l, .string d] 29) = v := ⟨_, rfl⟩
 have HB1 : Hid (Below w.heap.size w wb) := hwb ▸ (Below.refl _ w).alloc (Nat.le_refl _) _
 have HX1 : Hid (Bx wb w.heap.size #[.string o, .int .i64 t, .int .i64 c, .int .i64 l, .string d] 29) := hwb ▸ World.alloc_heap_new w _
 have hO1 := hO.below HB1.out
 have k0 : wb.cell? ⟨K, 0, none⟩ = some (.map (some M)) := hO1.k.cell rfl
 have lk := hO1.m.look hr
 simp only at lk
 have c0 : wb.cell? ⟨w.heap.size, 0, none⟩ = some (.string o) := HX1.out.cell rfl
 have c1 : wb.cell? ⟨w.heap.size, 1, none⟩ = some (.int .i64 t) := HX1.out.cell rfl
 have c2 : wb.cell? ⟨w.heap.size, 2, none⟩ = some (.int .i64 c) := HX1.out.cell rfl
 have c3 : wb.cell? ⟨w.heap.size, 3, none⟩ = some (.int .i64 l) := HX1.out.cell rfl
 have c4 : wb.cell? ⟨w.heap.size, 4, none⟩ = some (.string d) := HX1.out.cell rfl
 obtain ⟨z, hz⟩ : ∃ z, inS S ⟨o, t, c, l, d⟩ = z := ⟨_, rfl⟩
 rw [hz] at lk ⊢
 have HBe : Hid (∀ V, wb.grownBy V none → Below w.heap.size w V) := fun V hV => HB1.out.grown hV HB1.out.size (fun k e => by cases e)
 clear hO hO1 hz hr
 go_enter Tryz.func96, Tryz.ntmps96
 go_wp2_with fail
 go_ret
 exact ⟨rfl, HBe.out _ (World.grownBy_alloc wb _ none)⟩
theorem rsAt_block {w : World} {g : Nat} {A B : List Rn} {rest : List Value} (h : Rb w g (A ++ B) rest) : RsAt w (some ⟨g, A.length * 5, none⟩) B := fun k hk => by
 obtain ⟨h0, h1, h2, h3, h4⟩ := h.cells (j := A.length + k) (by rw [List.length_append]; omega)
 have e : (A ++ B)[A.length + k]'(by rw [List.length_append]; omega) = B[k] := by
  rw [List.getElem_append_right (by omega)]; congr 1; omega
 rw [e] at h0 h1 h2 h3 h4
 have e5 : (A.length + k) * 5 = A.length * 5 + k * 5 := by omega
 rw [e5] at h0 h1 h2 h3 h4
 exact ⟨g, A.length * 5, rfl, h.lt, h0, h1, h2, h3, h4⟩
set_option maxRecDepth 100000 in
set_option maxHeartbeats 1000000 in
theorem indexPlain_any {S : List Rn} {K M : Nat} (L : List Rn) (p : Option Addr) (cap : Nat) (w : World) (hL : L.length ≤ 4294967296) (hat : RsAt w p L) (hsz : ∀ x ∈ L, ruG (rk x)) (HOk0 : BOk w K M S) :
  Calls Tryz.prog 11 #[.slice p L.length cap, .func (Fn.func 96) #[] #[.pointer (some ⟨K, 0, none⟩)]] w fun r w' => ((r = .returned (.int .i64 (-1)) ∧ ∀ x ∈ L, plR S x = false) ∨ ∃ i : Nat, ∃ hi : i < L.length, r = .returned (.int .i64 (i : Int)) ∧ plR S L[i] = true ∧ ∀ x ∈ L.take i, plR S x = false) ∧ Below w.heap.size w w' := by
 have HA := hide' hat
 have HOk := hide' HOk0
 clear hat HOk0
 go_enter Tryz.func11, Tryz.ntmps11
 go_wp2_with fail
 go_loopw [8] (fun i wr => ∃ k : Nat, i = .int .i64 (k : Int) ∧ k ≤ L.length ∧ Hid (∀ x ∈ L.take k, plR S x = false) ∧ Below w.heap.size w wr) (fun i _ => L.length - (intOf i).toNat)
 case atStart => exact ⟨0, rfl, Nat.zero_le _, (fun x h => by simp at h), Below.refl _ _⟩
 case round =>
  obtain ⟨k, rfl, hk, HN, hBr⟩ := hrel
  have HBr := hide' hBr
  by_cases hlt : k < L.length
  ·obtain ⟨g, off, rfl, hg, e0, e1, e2, e3, e4⟩ := rs_stay HA.out hBr k hlt
   have HTk : Hid (L.take (k + 1) = L.take k ++ [L[k]]) := List.take_succ_eq_append_getElem hlt
   obtain ⟨x, hx⟩ : ∃ x, L[k] = x := ⟨_, rfl⟩
   have HX := hide' hx
   have hxz := hsz _ (List.getElem_mem hlt)
   rw [hx] at e0 e1 e2 e3 e4 HTk hxz
   clear hx hBr
   obtain ⟨xo, xt, xc, xl, xd⟩ := x
   simp only at e0 e1 e2 e3 e4 hxz
   cases hp : (inS S ⟨xo, xt, xc, xl, xd⟩) with
   | true =>
    have HP := hide' hp
    go_wp2_with (go_at_call 96; refine (isPlain_any xo xd xt xc xl hxz (HOk.out.below HBr.out)).mono ?_; rintro r w2 ⟨rfl, hB2⟩; rw [hp])
    go_ret
    refine ⟨.inr ⟨k, hlt, rfl, ?_, HN.out⟩, bstep HBr.out hB2 HBr.out.size⟩
    rw [HX.out]; exact HP.out
   | false =>
    have HP := hide' hp
    go_wp2_with (go_at_call 96; refine (isPlain_any xo xd xt xc xl hxz (HOk.out.below HBr.out)).mono ?_; rintro r w2 ⟨rfl, hB2⟩; rw [hp])
    go_roundw
    case rel =>
     refine ⟨k + 1, by go_num, by omega, ?_, bstep HBr.out hB2 HBr.out.size⟩
     intro y hy
     rw [HTk.out] at hy
     rcases List.mem_append.1 hy with h | h
     ·exact HN.out y h
     ·rw [List.mem_singleton.1 h]; exact HP.out
    case measure => simp [intOf]; omega
  ·have hkk : k = L.length := by omega
   have HKK := hide' hkk
   clear hkk
   go_wp2_with fail
   go_ret
   refine ⟨.inl ⟨rfl, ?_⟩, HBr.out⟩
   intro x hx
   have := HN.out x
   rw [HKK.out, List.take_length] at this
   exact this hx
def kp (S : List Rn) (B : List Rn) : List Rn := B.filter fun r => !plR S r
theorem kp_all {S : List Rn} {B : List Rn} (h : ∀ x ∈ B, plR S x = false) : kp S B = B := List.filter_eq_self.2 fun x hx => by rw [h x hx]; rfl
theorem kp_app {S : List Rn} (A B : List Rn) : kp S (A ++ B) = kp S A ++ kp S B := List.filter_append ..
theorem run_from (g o len cap i : Nat) (hi : i ≤ len) (hc : len ≤ cap) (hne : i < cap) (W : World) : (Instr.slice 22 (.slice (some ⟨g, o, none⟩) len cap) (some (.int .i64 (i : Int))) none none).run Tryz.prog W = .ok (.slice (some ⟨g, o + i * 5, none⟩) (len - i) (cap - i)) W := by
 have ht' : Tryz.prog.underlying 22 = some (.slice (Tryz.prog.elem 22)) := by simp [Program.elem, Tryz.underlying22]
 have he' : Tryz.prog.elem 22 = 29 := by simp [Program.elem, Tryz.underlying22]
 rw [run_slice_l W _ _ _ _ ht' .i64 _ (by omega) (by omega), he', Tryz.sizeOf29]
 have e1 : ¬ cap = i := by omega
 rcases Nat.eq_zero_or_pos i with rfl | hp
 ·simp [Result.andThen, sliced, Addr.add]
 ·have e2 : ¬ i * 5 = 0 := by omega
  simp [Result.andThen, sliced, Addr.add, e1]
  omega
theorem run_upto (g o len cap i : Nat) (hc : i ≤ cap) (W : World) : (Instr.slice 22 (.slice (some ⟨g, o, none⟩) len cap) none (some (.int .i64 (i : Int))) none).run Tryz.prog W = .ok (.slice (some ⟨g, o, none⟩) i cap) W := by
 have ht' : Tryz.prog.underlying 22 = some (.slice (Tryz.prog.elem 22)) := by simp [Program.elem, Tryz.underlying22]
 have he' : Tryz.prog.elem 22 = 29 := by simp [Program.elem, Tryz.underlying22]
 rw [run_slice_h W _ _ _ _ ht' .i64 _ (by omega) (by omega), he', Tryz.sizeOf29]
 simp [Result.andThen, sliced, Addr.add]
theorem zero_run (w : World) : (zeroValue 29).run Tryz.prog w = .ok (.agg (ren5 zR).toArray) w := by
 have hz : Tryz.t29.zero = some (.agg (ren5 zR).toArray) := by kernel_rfl
 simp [zeroValue, hz]
structure Dl (S : List Rn) (w wr : World) (g : Nat) (A B : List Rn) (rest : List Value) (i j : Nat) (F : List Rn) : Prop where
 rb : Rb wr g (A ++ F) rest
 len : F.length = B.length
 took : F.take i = kp S (B.take j)
 drop : F.drop j = B.drop j
 gr : w.grownBy wr (some g)
theorem Dl.skip {S : List Rn} {w wr w2 : World} {g : Nat} {A B : List Rn} {rest : List Value} {i j : Nat} {F : List Rn} (h : Dl S w wr g A B rest i j F) (hj : j < B.length) (hp : plR S B[j] = true) (hb : Below wr.heap.size wr w2) : Dl S w w2 g A B rest i (j + 1) F := by
 refine ⟨h.rb.below hb h.rb.lt, h.len, ?_, ?_, grown_trans h.gr (grown_below hb _)⟩
 ·rw [h.took, List.take_succ_eq_append_getElem hj, kp_app]
  have : kp S [B[j]] = [] := by simp [kp, hp]
  rw [this, List.append_nil]
 ·have := congrArg (List.drop 1) h.drop
  simpa [List.drop_drop, Nat.add_comm] using this
theorem Dl.keep {S : List Rn} {w wr w2 : World} {g : Nat} {A B : List Rn} {rest : List Value} {i j : Nat} {F : List Rn} (h : Dl S w wr g A B rest i j F) (hj : j < B.length) (hi : i < j) (hp : plR S B[j] = false) (hb : Below wr.heap.size wr w2) : Dl S w (setR w2 g (A.length * 5 + i * 5) B[j]) g A B rest (i + 1) (j + 1) (F.set i B[j]) := by
 have hl := h.len
 have h1 : Rb w2 g (A ++ F) rest := h.rb.below hb h.rb.lt
 have h2 := h1.put (j := A.length + i) (by rw [List.length_append]; omega) B[j]
 have e1 : (A.length + i) * 5 = A.length * 5 + i * 5 := by omega
 have e2 : (A ++ F).set (A.length + i) B[j] = A ++ F.set i B[j] := by rw [List.set_append_right _ _ (by omega), Nat.add_sub_cancel_left]
 rw [e1, e2] at h2
 refine ⟨h2, by simpa using hl, ?_, ?_, ?_⟩
 ·rw [List.take_succ_eq_append_getElem (by simp; omega), List.take_set_of_le (Nat.le_refl _), h.took, List.take_succ_eq_append_getElem hj, kp_app]
  have : kp S [B[j]] = [B[j]] := by simp [kp, hp]
  rw [this]
  simp
 ·rw [List.drop_set_of_lt (by omega)]
  have := congrArg (List.drop 1) h.drop
  simpa [List.drop_drop, Nat.add_comm] using this
 ·rw [setR_cells]
  exact grown_trans h.gr (grown_trans (grown_below hb _) (grown_setCells g _ _ w2))
theorem Dl.at {S : List Rn} {w wr : World} {g : Nat} {A B : List Rn} {rest : List Value} {i j : Nat} {F : List Rn} (h : Dl S w wr g A B rest i j F) (hj : j < B.length) : wr.cell? ⟨g, A.length * 5 + j * 5, none⟩ = some (.string B[j].o) ∧ wr.cell? ⟨g, A.length * 5 + j * 5 + 1, none⟩ = some (.int .i64 B[j].t) ∧ wr.cell? ⟨g, A.length * 5 + j * 5 + 2, none⟩ = some (.int .i64 B[j].c) ∧ wr.cell? ⟨g, A.length * 5 + j * 5 + 3, none⟩ = some (.int .i64 B[j].l) ∧ wr.cell? ⟨g, A.length * 5 + j * 5 + 4, none⟩ = some (.string B[j].d) := by
 have hl := h.len
 have hF : F[j] = B[j] := by
  have := congrArg (fun l => l[0]?) h.drop
  simp only [List.getElem?_drop, Nat.add_zero] at this
  rw [List.getElem?_eq_getElem (by omega), List.getElem?_eq_getElem hj] at this
  exact Option.some.inj this
 obtain ⟨g', off, hp, _, h0, h1, h2, h3, h4⟩ := rsAt_block h.rb j (by omega)
 injection hp with hp
 injection hp with e1 e2
 subst e1; subst e2
 rw [hF] at h0 h1 h2 h3 h4
 exact ⟨h0, h1, h2, h3, h4⟩
theorem rb_five {w : World} {g : Nat} {A F : List Rn} {rest : List Value} (h : Rb w g (A ++ F) rest) {i : Nat} (hi : i < F.length) : ∃ (o d : ByteArray) (t c l : Int), w.cell? ⟨g, A.length * 5 + i * 5, none⟩ = some (.string o) ∧ w.cell? ⟨g, A.length * 5 + i * 5 + 1, none⟩ = some (.int .i64 t) ∧ w.cell? ⟨g, A.length * 5 + i * 5 + 2, none⟩ = some (.int .i64 c) ∧ w.cell? ⟨g, A.length * 5 + i * 5 + 3, none⟩ = some (.int .i64 l) ∧ w.cell? ⟨g, A.length * 5 + i * 5 + 4, none⟩ = some (.string d) ∧ w.frozen? ⟨g, A.length * 5 + i * 5, none⟩ = false ∧ w.frozen? ⟨g, A.length * 5 + i * 5 + 1, none⟩ = false ∧ w.frozen? ⟨g, A.length * 5 + i * 5 + 2, none⟩ = false ∧ w.frozen? ⟨g, A.length * 5 + i * 5 + 3, none⟩ = false ∧ w.frozen? ⟨g, A.length * 5 + i * 5 + 4, none⟩ = false := by
 obtain ⟨g', off, hp, _, h0, h1, h2, h3, h4⟩ := rsAt_block h i hi
 injection hp with hp
 injection hp with e1 e2
 subst e1; subst e2
 exact ⟨_, _, _, _, _, h0, h1, h2, h3, h4, h.free _, h.free _, h.free _, h.free _, h.free _⟩
theorem idxNone {S : List Rn} {B : List Rn} {r : Ending} (hall : ∀ x ∈ B, plR S x = false) (h : (r = .returned (.int .i64 (-1)) ∧ ∀ x ∈ B, plR S x = false) ∨ ∃ i : Nat, ∃ hi : i < B.length, r = .returned (.int .i64 (i : Int)) ∧ plR S B[i] = true ∧ ∀ x ∈ B.take i, plR S x = false) : r = .returned (.int .i64 (-1)) := by
 rcases h with h | ⟨i, hi, _, h2, _⟩
 ·exact h.1
 ·have := hall _ (List.getElem_mem hi)
  rw [this] at h2; cases h2
theorem idxSome {S : List Rn} {B : List Rn} {r : Ending} (hall : (B.all fun x => !plR S x) = false) (h : (r = .returned (.int .i64 (-1)) ∧ ∀ x ∈ B, plR S x = false) ∨ ∃ i : Nat, ∃ hi : i < B.length, r = .returned (.int .i64 (i : Int)) ∧ plR S B[i] = true ∧ ∀ x ∈ B.take i, plR S x = false) : ∃ i : Nat, ∃ hi : i < B.length, r = .returned (.int .i64 (i : Int)) ∧ plR S B[i] = true ∧ ∀ x ∈ B.take i, plR S x = false := by
 rcases h with h | h
 ·have : (B.all fun x => !plR S x) = true := List.all_eq_true.2 fun x hx => by rw [h.2 x hx]; rfl
  rw [this] at hall; cases hall
 ·exact h
set_option maxRecDepth 100000 in
set_option maxHeartbeats 4000000 in
theorem deletePlain_any {S : List Rn} {K M : Nat} (A B : List Rn) (rest : List Value) (g cap : Nat) (w : World) (h : Rb w g (A ++ B) rest) (hc : B.length ≤ cap) (hB : B.length ≤ 65535) (hsz : ∀ x ∈ B, ruG (rk x)) (HOk0 : BOk w K M S) (hKg : K ≠ g) (hMg : M ≠ g) :
  Calls Tryz.prog 95 #[.slice (some ⟨g, A.length * 5, none⟩) B.length cap, .func (Fn.func 96) #[] #[.pointer (some ⟨K, 0, none⟩)]] w fun r w' => ∃ F, F.length = B.length ∧ F.take (kp S B).length = kp S B ∧ r = .returned (.slice (some ⟨g, A.length * 5, none⟩) (kp S B).length cap) ∧ Rb w' g (A ++ F) rest ∧ w.grownBy w' (some g) := by
 have HR := hide' h
 have HI := hide' (indexPlain_any B (some ⟨g, A.length * 5, none⟩) cap w (by omega) (rsAt_block h) hsz HOk0)
 have HOk := hide' HOk0
 have HKg : Hid (K ≠ g ∧ M ≠ g) := ⟨hKg, hMg⟩
 clear h HOk0 hKg hMg
 obtain ⟨a5, ha5⟩ : ∃ a5, A.length * 5 = a5 := ⟨_, rfl⟩
 have HA5 := hide' ha5
 rw [ha5] at HI
 rw [ha5]
 clear ha5
 rcases hidx : (B.all fun x => !plR S x) with _ | _
 ·-- something goes
  have HS := hide' hidx
  clear hidx
  have HW := hide' (fun (W : World) (i : Nat) (h1 : i ≤ B.length) (h2 : i < cap) => run_from g a5 B.length cap i h1 hc h2 W)
  have HV := hide' (fun (W : World) (i : Nat) (h1 : i ≤ cap) => run_upto g a5 B.length cap i h1 W)
  go_enter Tryz.func95, Tryz.ntmps95
  go_wp2_with (go_at_call 11; refine HI.out.mono ?_; rintro r w1 ⟨hr, hB1⟩; obtain ⟨i0, hi0, rfl, hp0, hq0⟩ := (idxSome HS.out hr); have HP0 := hide' hp0; have HQ0 := hide' hq0; have HB1 := hide' hB1; have hne : ((i0 : Int) == -1) = false := (by rw [beq_eq_false_iff_ne]; omega); clear hr hB1 hp0 hq0)
  go_loopw [5, 6] (fun iv jv wr => ∃ (i j : Nat) (F : List Rn), iv = .int .i64 (i : Int) ∧ jv = .int .i64 (j : Int) ∧ i < j ∧ j ≤ B.length ∧ Hid (Dl S w wr g A B rest i j F)) (fun _ jv _ => B.length - (intOf jv).toNat)
  case atStart =>
   refine ⟨i0, i0 + 1, B, rfl, by go_num, by omega, by omega, ⟨HR.out.below HB1.out HR.out.lt, rfl, ?_, rfl, grown_below HB1.out _⟩⟩
   rw [List.take_succ_eq_append_getElem hi0, kp_app, kp_all HQ0.out]
   have : kp S [B[i0]] = [] := by simp [kp, HP0.out]
   rw [this, List.append_nil]
  case round =>
   obtain ⟨i, j, F, rfl, rfl, hij, hj, HD⟩ := hrel
   by_cases hlt : j < B.length
   ·obtain ⟨x0, x1, x2, x3, x4⟩ := HD.out.at hlt
    rw [HA5.out] at x0 x1 x2 x3 x4
    obtain ⟨x, hx⟩ : ∃ x, B[j] = x := ⟨_, rfl⟩
    have HX := hide' hx
    have hxz := hsz _ (List.getElem_mem hlt)
    rw [hx] at x0 x1 x2 x3 x4 hxz
    clear hx
    obtain ⟨xo, xt, xc, xl, xd⟩ := x
    simp only at x0 x1 x2 x3 x4 hxz
    obtain ⟨wa, hwa⟩ : ∃ wa, wr.alloc (.cells #[.string xo, .int .i64 xt, .int .i64 xc, .int .i64 xl, .string xd] 29) = wa := ⟨_, rfl⟩
    have HV0 : Hid (Bx wa wr.heap.size #[.string xo, .int .i64 xt, .int .i64 xc, .int .i64 xl, .string xd] 29) := hwa ▸ World.alloc_heap_new wr _
    have HBa : Hid (Below wr.heap.size wr wa) := hwa ▸ (Below.refl _ wr).alloc (Nat.le_refl _) _
    have v0 : wa.cell? ⟨wr.heap.size, 0, none⟩ = some (.string xo) := HV0.out.cell rfl
    have v1 : wa.cell? ⟨wr.heap.size, 1, none⟩ = some (.int .i64 xt) := HV0.out.cell rfl
    have v2 : wa.cell? ⟨wr.heap.size, 2, none⟩ = some (.int .i64 xc) := HV0.out.cell rfl
    have v3 : wa.cell? ⟨wr.heap.size, 3, none⟩ = some (.int .i64 xl) := HV0.out.cell rfl
    have v4 : wa.cell? ⟨wr.heap.size, 4, none⟩ = some (.string xd) := HV0.out.cell rfl
    cases hp : (inS S ⟨xo, xt, xc, xl, xd⟩) with
    | true =>
     have HP := hide' hp
     go_wp2_with (go_at_call 96; refine (isPlain_any xo xd xt xc xl hxz ((HOk.out.grown HD.out.gr HKg.out.1 HKg.out.2).below HBa.out)).mono ?_; rintro r w2 ⟨rfl, hB2⟩; rw [hp])
     have hB3 : Below wr.heap.size wr w2 := bstep HBa.out hB2 HBa.out.size
     refine ⟨⟨i, j + 1, F, rfl, by go_num, by omega, by omega, HD.out.skip hlt (by rw [HX.out]; exact HP.out) hB3⟩, ?_⟩
     simp [intOf]; omega
    | false =>
     have HP := hide' hp
     go_wp2_with (go_at_call 96; refine (isPlain_any xo xd xt xc xl hxz ((HOk.out.grown HD.out.gr HKg.out.1 HKg.out.2).below HBa.out)).mono ?_; rintro r w2 ⟨rfl, hB2⟩; rw [hp]; have HV2 := hide' (HV0.out.below hB2 HV0.out.lt); have HB2 : Hid (Below wr.heap.size wr w2) := bstep HBa.out hB2 HBa.out.size; clear hB2 v0 v1 v2 v3 v4 x0 x1 x2 x3 x4; have z0 : w2.cell? ⟨wr.heap.size, 0, none⟩ = some (.string xo) := HV2.out.cell rfl; have z1 : w2.cell? ⟨wr.heap.size, 1, none⟩ = some (.int .i64 xt) := HV2.out.cell rfl; have z2 : w2.cell? ⟨wr.heap.size, 2, none⟩ = some (.int .i64 xc) := HV2.out.cell rfl; have z3 : w2.cell? ⟨wr.heap.size, 3, none⟩ = some (.int .i64 xl) := HV2.out.cell rfl; have z4 : w2.cell? ⟨wr.heap.size, 4, none⟩ = some (.string xd) := HV2.out.cell rfl; obtain ⟨yo, yd, yt, yc, yl, y0, y1, y2, y3, y4, f0, f1, f2, f3, f4⟩ := rb_five (i := i) (HD.out.rb.below HB2.out HD.out.rb.lt) (by rw [HD.out.len]; omega); rw [HA5.out] at y0 y1 y2 y3 y4 f0 f1 f2 f3 f4; have hiB : i < B.length := (by omega); obtain ⟨w3, hw3⟩ : ∃ w3, setR w2 g (a5 + i * 5) ⟨xo, xt, xc, xl, xd⟩ = w3 := ⟨_, rfl⟩; have HW3 := hide' hw3; unfold setR at hw3; simp only at hw3)
     have hk := HD.out.keep hlt hij (by rw [HX.out]; exact HP.out) HB2.out
     rw [HA5.out, HX.out, HW3.out] at hk
     refine ⟨⟨i + 1, j + 1, F.set i ⟨xo, xt, xc, xl, xd⟩, by go_num, by go_num, by omega, by omega, hk⟩, ?_⟩
     simp [intOf]; omega
   ·have hjj : j = B.length := by omega
    have hl := HD.out.len
    have htk : F.take i = kp S B := by rw [HD.out.took, hjj, List.take_length]
    have hil : i = (kp S B).length := by
     have := congrArg List.length htk
     rw [List.length_take] at this
     omega
    have hib : i < B.length := by omega
    have hbc : i < cap := by omega
    have hsl := HW.out wr i (by omega) hbc
    have hrb : Rb wr g ((A ++ F.take i) ++ F.drop i) rest := by
     have := HD.out.rb
     rw [List.append_assoc, List.take_append_drop]; exact this
    have hdl : (F.drop i).length = B.length - i := by rw [List.length_drop, hl]
    have hal : (A ++ F.take i).length * 5 = a5 + i * 5 := by rw [List.length_append, List.length_take, ← HA5.out]; omega
    obtain ⟨w2, hcl, hr2, hg2⟩ := run_clearR wr zero_run g (A ++ F.take i) (F.drop i) rest (cap - i) 0 (by omega) hrb
    rw [hal, hdl] at hcl
    have hup := HV.out w2 i (by omega)
    have HR2 := hide' hr2
    have HG2 := hide' (grown_trans HD.out.gr hg2)
    have HTK := hide' htk
    have HIL := hide' hil
    have HL := hide' hl
    clear hr2 hg2 htk hil hl hjj hrb hdl hal
    go_wp2_with fail
    go_ret
    have hr2 := HR2.out
    rw [List.append_assoc] at hr2
    refine ⟨F.take i ++ List.replicate (F.drop i).length zR, ?_, ?_, ?_, hr2, HG2.out⟩
    ·rw [List.length_append, List.length_replicate, ← List.length_append, List.take_append_drop]; exact HL.out
    ·rw [HTK.out, List.take_left]
    ·rw [← HIL.out]; rfl
 ·have hall : ∀ x ∈ B, plR S x = false := fun x hx => by
   have := List.all_eq_true.1 hidx x hx
   simpa using this
  have HK := hide' (kp_all hall)
  have HAll := hide' hall
  clear hidx hall
  go_enter Tryz.func95, Tryz.ntmps95
  go_wp2_with (go_at_call 11; refine HI.out.mono ?_; rintro r w1 ⟨hr, hB1⟩; obtain rfl : r = .returned (.int .i64 (-1)) := (idxNone HAll.out hr); have HB1 := hide' hB1; clear hr hB1)
  go_ret
  refine ⟨B, rfl, ?_, ?_, HR.out.below HB1.out HR.out.lt, grown_below HB1.out _⟩
  ·rw [HK.out, List.take_length]
  ·rw [HK.out]; rfl
end Go.Proofs.YtoabnpdoicbpiaaGreat.Ud
namespace Go.Proofs.YtoabnpdoicbpiaaGreat
set_option linter.unusedVariables false
set_option linter.unusedSimpArgs false
open Go.RowKit Go.Shelf Go.Maps Go.Proofs.YtoabnpdoicbpiaaGreat.Nm Go.Proofs.YtoabnpdoicbpiaaGreat.Zs Go.Proofs.YtoabnpdoicbpiaaGreat.Ud
theorem kp_zero {S B : List Rn} : (kp S B).length = 0 ↔ ∀ x ∈ B, x ∈ S := by
 unfold kp plR
 rw [List.length_eq_zero_iff, List.filter_eq_nil_iff]
 constructor
 ·intro h x hx
  have := h x hx
  simp at this
  exact inS_iff.1 this
 ·intro h x hx
  simp [inS_iff.2 (h x hx)]
set_option maxRecDepth 100000 in
set_option maxHeartbeats 8000000 in
theorem beyondU_any {A B : List Rn} {p1 p2 : Option Addr} {c1 c2 : Nat} {w : World} (hA : RsAt w p1 A) (hB : RsAt w p2 B) (h0 : 0 < A.length) (hAl : A.length ≤ 65535) (hBl : B.length ≤ 10000000) (hAk : ∀ x ∈ A, ruG (rk x)) (hBk : ∀ x ∈ B, ruG (rk x)) (hn : p1 = none → c1 = 0) :
  Calls Tryz.prog 62 #[.slice p1 A.length c1, .slice p2 B.length c2] w fun r w' => (∃ v k c, r = .returned (.slice v k c) ∧ (k = 0 ↔ ∀ x ∈ A, x ∈ B)) ∧ Below w.heap.size w w' := by
 have mk := run_makeMapU (B.length : Int) w
 obtain ⟨wm, hwm⟩ : ∃ v, w.alloc (.map #[] 0) = v := ⟨_, rfl⟩
 have HBm : Hid (Below w.heap.size w wm) := hwm ▸ (Below.refl _ w).alloc (Nat.le_refl _) _
 have HMm : Hid (RM wm w.heap.size []) := hwm ▸ Lmap.made w
 obtain ⟨wk, hwk⟩ : ∃ v, wm.alloc (.cells #[.map (some w.heap.size)] 142) = v := ⟨_, rfl⟩
 have HGk : Hid (wm.grownBy wk none) := hwk ▸ World.grownBy_alloc wm _ none
 have HBk : Hid (Below w.heap.size w wk) := HBm.out.grown HGk.out HBm.out.size (fun k e => by cases e)
 have HOk : Hid (BOk wk wm.heap.size w.heap.size []) := ⟨hwk ▸ World.alloc_heap_new wm _, HMm.out.kept HGk.out (by simp)⟩
 have HMl : Hid (w.heap.size < wm.heap.size) := HMm.out.lt
 have k0 : wk.cell? ⟨wm.heap.size, 0, none⟩ = some (.map (some w.heap.size)) := HOk.out.k.cell rfl
 rw [hwm] at mk
 have HA := hide' hA
 have HB := hide' hB
 have HAk := hide' hAk
 have HBk2 := hide' hBk
 have HN : Hid (p1 = none → c1 = 0) := hn
 have HCl : Hid (∀ V, RsAt V p1 A → Calls Tryz.prog 22 #[.slice p1 A.length c1] V fun r w' => ∃ g c rest, r = .returned (.slice (some ⟨g, 0, none⟩) A.length c) ∧ A.length ≤ c ∧ V.heap.size ≤ g ∧ Rb w' g A rest ∧ Below V.heap.size V w') := fun V hV => by
  refine (cloneZ_any A p1 c1 V (by omega) hV hn).mono ?_
  rintro r w' ⟨⟨v, rfl, ho⟩, hb⟩
  obtain ⟨g, c, rfl⟩ := own_some ho h0
  obtain ⟨rest, hr, hg⟩ := rb_ownM ho
  obtain ⟨p9, c9, e9, h1, _, _⟩ := own_shape ho
  injection e9 with _ _ e9
  exact ⟨g, c, rest, rfl, by omega, hg, hr, hb⟩
 have hne : w.heap.size ≠ wm.heap.size := by have := HMl.out; omega
 have HNe := hide' hne
 have HDe : Hid (∀ (V : World) (S : List Rn) (g c : Nat) (rest : List Value), BOk V wm.heap.size w.heap.size S → Rb V g A rest → A.length ≤ c → wm.heap.size ≠ g → w.heap.size ≠ g → Calls Tryz.prog 95 #[.slice (some ⟨g, 0, none⟩) A.length c, .func (Fn.func 96) #[] #[.pointer (some ⟨wm.heap.size, 0, none⟩)]] V fun r w' => ∃ k, r = .returned (.slice (some ⟨g, 0, none⟩) k c) ∧ (k = 0 ↔ ∀ x ∈ A, x ∈ S) ∧ V.grownBy w' (some g)) := fun V S g c rest hO hR hc h1 h2 => by
  have h := deletePlain_any (S := S) (K := wm.heap.size) (M := w.heap.size) [] A rest g c V hR hc hAl hAk hO h1 h2
  simp only [List.length_nil, Nat.zero_mul] at h
  refine h.mono ?_
  rintro r w' ⟨F, -, -, rfl, -, hg⟩
  exact ⟨_, rfl, kp_zero, hg⟩
 clear hA hB hAk hBk hn hne
 go_enter Tryz.func62, Tryz.ntmps62
 go_wp2_with fail
 go_loopw [13] (fun v wr => ∃ (k : Nat) (S : List Rn), v = .int .i64 (k : Int) ∧ k ≤ B.length ∧ S.length ≤ k ∧ Hid (BOk wr wm.heap.size w.heap.size S) ∧ Hid (∀ x, x ∈ S ↔ x ∈ B.take k) ∧ Hid (Below w.heap.size w wr)) (fun v _ => B.length - (intOf v).toNat)
 case atStart => exact ⟨0, [], rfl, Nat.zero_le _, Nat.le_refl _, HOk.out, (fun x => by simp), HBk.out⟩
 case round =>
  obtain ⟨k, S, rfl, hk, hS, HO, HM, HBl⟩ := hrel
  have hrs := rs_stay HB.out HBl.out
  by_cases hlt : k < B.length
  ·obtain ⟨gb, ob, hp2, hgb, e0, e1, e2, e3, e4⟩ := hrs k hlt
   have HTk : Hid (B.take (k + 1) = B.take k ++ [B[k]]) := List.take_succ_eq_append_getElem hlt
   have HKx : Hid (ruG (rk B[k])) := HBk2.out _ (List.getElem_mem hlt)
   obtain ⟨x, hx⟩ : ∃ x, B[k] = x := ⟨_, rfl⟩
   rw [hx] at e0 e1 e2 e3 e4 HTk HKx
   obtain ⟨o, t, c, l, d⟩ := x
   simp only at e0 e1 e2 e3 e4
   subst hp2
   clear hx hrs
   obtain ⟨wa, hwa⟩ : ∃ v, wr.alloc (.cells #[.string o, .int .i64 t, .int .i64 c, .int .i64 l, .string d] 29) = v := ⟨_, rfl⟩
   have HBa0 : Hid (Below wr.heap.size wr wa) := hwa ▸ (Below.refl _ wr).alloc (Nat.le_refl _) _
   have HXa : Hid (Bx wa wr.heap.size #[.string o, .int .i64 t, .int .i64 c, .int .i64 l, .string d] 29) := hwa ▸ World.alloc_heap_new wr _
   have HOa := hide' (HO.out.below HBa0.out)
   have HBa : Hid (Below w.heap.size w wa) := bstep HBl.out HBa0.out HBl.out.size
   obtain ⟨v0, v1, v2, v3, v4⟩ := bx5U HXa.out
   have k1 : wa.cell? ⟨wm.heap.size, 0, none⟩ = some (.map (some w.heap.size)) := HOa.out.k.cell rfl
   obtain ⟨ws, hrun, hMs, hgs⟩ := RM.store (r := ⟨o, t, c, l, d⟩) HOa.out.m HKx.out (by unfold maxLen; omega)
   simp only at hrun
   have HOs : Hid (BOk ws wm.heap.size w.heap.size (outK rk (rk ⟨o, t, c, l, d⟩) S ++ [(⟨o, t, c, l, d⟩ : Rn)])) := ⟨HOa.out.k.grown hgs (fun e => HNe.out (Option.some.inj e)), hMs⟩
   have HBs : Hid (Below w.heap.size w ws) := HBa.out.grown hgs HBa.out.size (fun q e => by injection e with e; omega)
   have HMs : Hid (∀ x, x ∈ outK rk (rk ⟨o, t, c, l, d⟩) S ++ [(⟨o, t, c, l, d⟩ : Rn)] ↔ x ∈ B.take (k + 1)) := fun x => by
    rw [HTk.out, List.mem_append, List.mem_append, mem_outK, HM.out x]
    constructor
    ·rintro (⟨h, _⟩ | h)
     ·exact .inl h
     ·exact .inr h
    ·rintro (h | h)
     ·by_cases e : rk x = rk ⟨o, t, c, l, d⟩
      ·exact .inr (List.mem_singleton.2 (rk_inj e))
      ·exact .inl ⟨h, e⟩
     ·exact .inr h
   have hSl : (outK rk (rk ⟨o, t, c, l, d⟩) S ++ [(⟨o, t, c, l, d⟩ : Rn)]).length ≤ k + 1 := Nat.le_trans outK_le (by omega)
   clear hMs hgs
   go_wp2_with fail
   go_roundw
   case rel => exact ⟨k + 1, _, by go_num, by omega, hSl, HOs.out, HMs.out, HBs.out⟩
   case measure => simp [intOf]; omega
  ·have hkB : k = B.length := by omega
   have HMf : Hid (∀ x, x ∈ S ↔ x ∈ B) := by have := HM.out; rwa [hkB, List.take_length] at this
   clear hkB hrs
   go_wp2_with (first
    | (go_at_call 22; refine (HCl.out _ (rs_stay HA.out HBl.out)).mono ?_; rintro e1 w1 ⟨g, c, rest, rfl, hc, hg, hR, hB1⟩; have HO1 := hide' (HO.out.below hB1); have HB1 := hide' (bstep HBl.out hB1 HBl.out.size); have HR1 := hide' hR; have HG : Hid (wr.heap.size ≤ g) := hg; have HCc : Hid (A.length ≤ c) := hc; clear hB1 hR hg hc)
    | (go_at_call 95; refine (HDe.out w1 S g c rest HO1.out HR1.out HCc.out (by have := HO.out.k.lt; have := HG.out; omega) (by have := HG.out; have := HO.out.m.lt; omega)).mono ?_; rintro e2 w2 ⟨kk, rfl, hkk, hg2⟩; have HKk := hide' hkk; have HG2 : Hid (Below w.heap.size w w2) := HB1.out.grown hg2 HB1.out.size (fun q e => by injection e with e; have := HG.out; have := HBl.out.size; omega); clear hg2 hkk))
   go_ret
   refine ⟨⟨_, _, _, rfl, ?_⟩, HG2.out⟩
   rw [HKk.out]
   exact ⟨fun h x hx => (HMf.out x).1 (h x hx), fun h x hx => (HMf.out x).2 (h x hx)⟩
section
variable {n : Nat} {W : World} {apex : ByteArray} {L : List Rn} {ord : List Nat} {Z RW NM C m cnt : Nat} {p : Option Addr} {cp : Nat} {f : ByteArray → Option Nat}
theorem ru_zon {r : Rn} (h : zonR r = true) : ruG (rk r) := by
 obtain ⟨_, h1, h2, h3, _, h4, h5, h6, h7, _, _⟩ := ok_facts h
 have hm : (65535 : Nat) ≤ maxLen := by unfold maxLen; omega
 exact ⟨by simp only [rk]; omega, WalkArith.wf_i64 (by simp only [rk]; omega), WalkArith.wf_i64 (by simp only [rk]; omega), WalkArith.wf_i64 (by simp only [rk]; omega), by simp only [rk]; omega⟩
theorem perm_of_sub : ∀ (A B : List Rn), A.Nodup → (∀ x ∈ A, x ∈ B) → A.length = B.length → A.Perm B
 | [], B, _, _, hl => by rw [List.eq_nil_of_length_eq_zero hl.symm]
 | a :: A, B, hn, hs, hl => by
  obtain ⟨B1, B2, rfl⟩ := List.append_of_mem (hs a List.mem_cons_self)
  obtain ⟨h1, h2⟩ := List.nodup_cons.1 hn
  have ih := perm_of_sub A (B1 ++ B2) h2 (fun x hx => by
         rcases List.mem_append.1 (hs x (List.mem_cons_of_mem _ hx)) with h | h
         ·exact List.mem_append_left _ h
         ·rcases List.mem_cons.1 h with h | h
          ·exact absurd (h ▸ hx) h1
          ·exact List.mem_append_right _ h) (by simp at hl ⊢; omega)
  exact (ih.cons a).trans List.perm_middle.symm
set_option maxRecDepth 100000 in
set_option maxHeartbeats 8000000 in
theorem differsU_any {base D M : Nat} {fa : ByteArray} {soa : Rn} {O : List Uo} (h : Zon n W apex L ord Z RW NM C m cnt p cp f) (hD : Dra W base D M fa soa O) (hl : (flatO O).length ≤ 1000000) (hk : ∀ x ∈ soa :: flatO O, ruG (rk x)) :
  Calls Tryz.prog 26 #[.pointer (some ⟨D, 0, none⟩), .pointer (some ⟨Z, 0, none⟩)] W fun r w' => (∃ b, r = .returned (.bool b) ∧ (b = false ↔ (ord.map (rAt L)).Perm (soa :: flatO O))) ∧ Below W.heap.size W w' := by
 have hT := h.laid.tlen
 have hpos := h.pos
 have hfew := h.few
 have hnd := nodup_of_sen h.pairs.1
 have hTk : ∀ x ∈ ord.map (rAt L), ruG (rk x) := fun x hx => ru_zon (h.laid.tok x hx)
 have HRe := hide' (zRecords_any h)
 have HRd : Hid (∀ V, Below W.heap.size W V → Calls Tryz.prog 31 #[.pointer (some ⟨D, 0, none⟩)] V fun r w' => (∃ v N, r = .returned v ∧ LiU V w' v N ∧ N.Perm (soa :: flatO O)) ∧ Below V.heap.size V w') := fun V hV => recordsU_any (hD.idle (grown_below hV none)) hl
 obtain ⟨T, hTe⟩ : ∃ T, ord.map (rAt L) = T := ⟨_, rfl⟩
 rw [hTe] at hT hnd hTk HRe ⊢
 have HB : Hid (∀ (V : World) (g c1 : Nat) (N : List Rn) (p2 : Option Addr) (c2 : Nat), RsAt V (some ⟨g, 0, none⟩) T → RsAt V p2 N → N.Perm (soa :: flatO O) → Calls Tryz.prog 62 #[.slice (some ⟨g, 0, none⟩) L.length c1, .slice p2 N.length c2] V fun r w' => (∃ v k c, r = .returned (.slice v k c) ∧ (k = 0 ↔ ∀ x ∈ T, x ∈ N)) ∧ Below V.heap.size V w') := fun V g c1 N p2 c2 h1 h2 h3 => by
  have := beyondU_any (p1 := some ⟨g, 0, none⟩) (c1 := c1) (c2 := c2) h1 h2 (by omega) (by omega) (by have := h3.length_eq; simp at this; omega) hTk (fun x hx => hk x (h3.mem_iff.1 hx)) (fun e => by cases e)
  rwa [hT] at this
 have HP : Hid (∀ N : List Rn, N.Perm (soa :: flatO O) → (T.Perm (soa :: flatO O) ↔ L.length = N.length ∧ ∀ x ∈ T, x ∈ N)) := fun N hN => by
  constructor
  ·intro q
   have q2 := q.trans hN.symm
   exact ⟨by rw [← hT]; exact q2.length_eq, fun x hx => q2.mem_iff.1 hx⟩
  ·rintro ⟨q1, q2⟩
   exact (perm_of_sub T N hnd q2 (by rw [hT]; exact q1)).trans hN
 have HTl := hide' hT
 have HLl : Hid (L.length ≤ 2000 ∧ ∀ N : List Rn, N.Perm (soa :: flatO O) → N.length ≤ 1000001) := ⟨hfew, fun N hN => by have := hN.length_eq; simp at this; omega⟩
 obtain ⟨nL, hnL⟩ : ∃ k, L.length = k := ⟨_, rfl⟩
 rw [hnL] at HRe HB HP HTl HLl hpos
 clear hnL h hD hl hk hT hfew hnd hTk hTe
 go_enter Tryz.func26, Tryz.ntmps26
 go_wp2_with (first
  | (go_at_call 6; refine HRe.out.mono ?_; rintro e1 w1 ⟨⟨v, rfl, ho⟩, hB1⟩; obtain ⟨g, c, hv⟩ := own_some ho hpos; subst hv; have HRs := hide' (rsAt_ownZ ho HTl.out.symm); have HB1 := hide' hB1; clear ho hB1)
  | (go_at_call 31; refine (HRd.out _ HB1.out).mono ?_; rintro e2 w2 ⟨⟨v2, N, rfl, ho2, hN⟩, hB2⟩; obtain ⟨p2, c2, hv2, -⟩ := own_shape ho2; subst hv2; have HR2 : Hid (RsAt w2 p2 N) := rsAt_ownZ ho2 rfl; have HRs2 := hide' (rs_stay HRs.out hB2); have HB2 := hide' (bstep HB1.out hB2 HB1.out.size); have HN := hide' hN; clear ho2 hB2 hN)
  | (go_at_call 62; refine (HB.out _ g c N p2 c2 HRs2.out HR2.out HN.out).mono ?_; rintro e3 w3 ⟨⟨v3, k3, c3, rfl, hk3⟩, hB3⟩; have HK3 := hide' hk3; have HB3 := hide' (bstep HB2.out hB3 HB2.out.size); clear hk3 hB3))
 ·rename_i heq
  have he : nL = N.length := by omega
  go_ret
  refine ⟨⟨_, rfl, ?_⟩, HB3.out⟩
  rw [HP.out N HN.out, and_iff_right he, ← HK3.out]
  simp
 ·rename_i hne
  go_ret
  refine ⟨⟨true, rfl, ?_⟩, HB2.out⟩
  rw [HP.out N HN.out]
  exact ⟨fun q => (by cases q), fun q => absurd (by rw [q.1]) hne⟩
end
end Go.Proofs.YtoabnpdoicbpiaaGreat
