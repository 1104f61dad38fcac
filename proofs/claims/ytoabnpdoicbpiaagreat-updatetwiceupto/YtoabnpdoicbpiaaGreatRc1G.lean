import Derived.Test.YtoabnpdoicbpiaaGreatThG
import Derived.Defers
import Derived.Recover
import Derived.Laws.Pointers
import Derived.Test.YtoabnpdoicbpiaaGreatKs1G
import Derived.Handy
namespace Go.Proofs.YtoabnpdoicbpiaaGreat
set_option linter.unusedVariables false
open Go.RowKit Go.Shelf Go.Proofs.YtoabnpdoicbpiaaGreat.Nm
set_option maxRecDepth 100000 in
theorem faultOf_none (w : World) :
  Calls Tryz.prog 98 #[.nilIface] w fun e w' => e = .returned (.agg #[.int .i64 0, .int .i64 0]) ∧ Below w.heap.size w w' := by
 go_enter Tryz.func98, Tryz.ntmps98
 go_wp2
 refine bodyPost_ret (v := .agg #[.int .i64 0, .int .i64 0]) ?_ rfl ?_
 ·simp [results, Tryz.results98, go_sem]
 ·exact ⟨rfl, (Below.refl _ _).alloc (Nat.le_refl _) _⟩
set_option maxRecDepth 100000 in
theorem faultOf_some (code at_ : Nat) (w : World) :
  Calls Tryz.prog 98 #[.iface 148 (.agg #[.int .i64 (code : Int), .int .i64 (at_ : Int)])] w fun e w' => e = .returned (.agg #[.int .i64 (code : Int), .int .i64 (at_ : Int)]) ∧ Below w.heap.size w w' := by
 have hta : ∀ (v : Value) (T0 : TypeId) (w : World), (Instr.typeAssert (.iface 148 v) T0 148 true).run Tryz.prog w = .ok (.tuple #[v, .bool true]) w := fun v T0 w => by
  simp [Instr.typeAssert]
 go_enter Tryz.func98, Tryz.ntmps98
 go_wp2
 refine bodyPost_ret (v := .agg #[.int .i64 (code : Int), .int .i64 (at_ : Int)]) ?_ rfl ?_
 ·simp [results, Tryz.results98, go_sem]
 ·exact ⟨rfl, ((Below.refl _ _).alloc (Nat.le_refl _) _).alloc (by simp) _⟩
theorem bxBelow {w w' : World} {n B : Nat} {t : TypeId} {v : Value} (h : Boxed w B t v) (hb : Below n w w') (hn : B < n) : Boxed w' B t v := (hb.block B hn).trans h
theorem own_mono {w : World} {base base' e size n : Nat} {v : Value} {xs : List Value} (h : w.ownsRow base e size v n xs) (hb : base' ≤ base) : w.ownsRow base' e size v n xs := by
 obtain ⟨hl, (⟨rfl, h0⟩ | ⟨g, cap, cur, rfl, hg, rest⟩)⟩ := h
 ·exact ⟨hl, .inl ⟨rfl, h0⟩⟩
 ·exact ⟨hl, .inr ⟨g, cap, cur, rfl, Nat.le_trans hb hg, rest⟩⟩
theorem field_code (a b : Int) (w : World) : (Instr.field 148 (.agg #[.int .i64 a, .int .i64 b]) 0).run Tryz.prog w = .ok (.int .i64 a) w := by
 simp [Instr.field, run_underlying Tryz.underlying148, go_sem, asAgg]
theorem below_frozen {n : Nat} {w w' : World} (h : Below n w w') {p : Addr} (hp : p.block < n) : w'.frozen? p = w.frozen? p := by
 unfold World.frozen?; rw [h.block p.block hp]
end Go.Proofs.YtoabnpdoicbpiaaGreat
namespace Go.Proofs.YtoabnpdoicbpiaaGreat
set_option linter.unusedVariables false
open Go.RowKit Go.Shelf Go.Proofs.YtoabnpdoicbpiaaGreat.Nm
def kT : Kind → TypeId
 | 0 => 189 | 1 => 194 | 2 => 178 | 3 => 192 | 4 => 193 | 5 => 197 | 6 => 199
 | 7 => 201 | 8 => 202 | 9 => 200 | 10 => 198 | 11 => 203 | 12 => 204 | _ + 13 => 188
def kR : Kind → Value
 | n + 13 => .agg #[.int .i64 (n : Int)]
 | 0 | 1 | 2 | 3 | 4 | 5 | 6 | 7 | 8 | 9 | 10 | 11 | 12 => .agg #[]
def kF : Kind → Nat
 | 0 => 174 | 1 => 183 | 2 => 167 | 3 => 175 | 4 => 180 | 5 => 184 | 6 => 184
 | 7 => 175 | 8 => 202 | 9 => 194 | 10 => 189 | 11 => 205 | 12 => 208 | _ + 13 => 171
theorem kindV_eq (k : Kind) : kindV k = .iface (kT k) (kR k) := by rcases kind_cases k with rfl | rfl | rfl | rfl | rfl | rfl | rfl | rfl | rfl | rfl | rfl | rfl | rfl | ⟨n, rfl⟩ <;> rfl
theorem kindSize_any (k : Kind) (d : ByteArray) (w : World) (hd : d.size ≤ 1048576) :
  Calls Tryz.prog (kF k) #[kR k, .string d] w fun e w' => e = szEnd (kindSize k d) ∧ Below w.heap.size w w' := by
 rcases kind_cases k with rfl | rfl | rfl | rfl | rfl | rfl | rfl | rfl | rfl | rfl | rfl | rfl | rfl | ⟨n, rfl⟩
 ·exact ip4Size_any d w hd
 ·exact ip6Size_any d w hd
 ·exact domainSize_any d w hd
 ·exact countedSize_any d w hd
 ·exact textsSize_any d w hd
 ·exact toEndSize_any d w hd
 ·exact toEndSize_any d w hd
 ·exact countedSize_any d w hd
 ·exact hashSize_any d w hd
 ·exact typeSetSize_any d w hd
 ·exact oneTypeSize_any d w hd
 ·exact tailSize_any d w hd
 ·exact unknownSize_any d w hd
 ·exact numberSize_any n d w hd
theorem method_kind (n : Nat) (k : Kind) (w : World) : (method (n + 1) (kT k) (kR k) "gazetteer/data.size").run Tryz.prog w = .ok (kF k, kR k) w := by
 rcases kind_cases k with rfl | rfl | rfl | rfl | rfl | rfl | rfl | rfl | rfl | rfl | rfl | rfl | rfl | ⟨n, rfl⟩ <;> kernel_rfl
theorem enter_kind (k : Kind) (args : Array Value) (w : World) : (callFunc (kF k) args).run Tryz.prog w = .ok (.enter (kF k) args) w := by
 rcases kind_cases k with rfl | rfl | rfl | rfl | rfl | rfl | rfl | rfl | rfl | rfl | rfl | rfl | rfl | ⟨n, rfl⟩ <;> kernel_rfl
def flat (ps : List (Kind × ByteArray)) : List Value := ps.flatMap fun p => [kindV p.1, .string p.2]
theorem flat_snoc (ps : List (Kind × ByteArray)) (k : Kind) (b : ByteArray) : flat (ps ++ [(k, b)]) = flat ps ++ [kindV k, .string b] := by simp [flat]
theorem txtP_le : ∀ (f : Nat) (d : ByteArray) (a n : Nat), a ≤ d.size → txtP f d a = some n → n ≤ d.size
 | 0, d, a, n, _, h => by cases h
 | f + 1, d, a, n, ha, h => by
  unfold txtP at h
  split at h
  ·simp at h; omega
  ·cases hc : cntS (d.extract a d.size) with
   | none => rw [hc] at h; cases h
   | some m =>
    rw [hc] at h
    have := cntS_some hc
    rw [size_extract' _ _ _ (Nat.le_refl _)] at this
    exact txtP_le f d (a + m) n (by omega) h
theorem kindSize_le {k : Kind} {d : ByteArray} {n : Nat} (h : kindSize k d = some n) : n ≤ d.size := by
 rcases kind_cases k with rfl | rfl | rfl | rfl | rfl | rfl | rfl | rfl | rfl | rfl | rfl | rfl | rfl | ⟨n, rfl⟩
 ·simp only [kindSize, fixS] at h; split at h <;> simp at h; omega
 ·simp only [kindSize, fixS] at h; split at h <;> simp at h; omega
 ·exact (domS_some h).1
 ·exact (cntS_some h).2
 ·simp only [kindSize, txtS] at h
  cases hc : cntS d with
  | none => rw [hc] at h; cases h
  | some m => rw [hc] at h; exact txtP_le _ _ _ _ (cntS_some hc).2 h
 ·simp only [kindSize, endS] at h; split at h <;> simp at h; omega
 ·simp only [kindSize, endS] at h; split at h <;> simp at h; omega
 ·exact (cntS_some h).2
 ·simp only [kindSize, hashS] at h; split at h <;> first | (cases h; done) | exact (cntS_some h).2
 ·simp only [kindSize, setS] at h; split at h <;> simp at h; omega
 ·simp only [kindSize, oneS] at h; split at h <;> simp at h; omega
 ·simp only [kindSize] at h; simp at h; omega
 ·simp only [kindSize] at h; simp at h; omega
 ·simp only [kindSize, fixS] at h; split at h <;> simp at h; omega
def splEnd (w : World) (r : Option (List (Kind × ByteArray))) (e : Ending) (w' : World) : Prop := match r with
 | some ps => ∃ p c, e = .returned (.slice p ps.length c) ∧ w'.ownsRow w.heap.size 158 2 (.slice p ps.length c) ps.length (flat ps)
 | none => e = .panicked (flt 7 0)
theorem Tryz.infoPart : (Tryz.prog.info? 158).map (fun i => (i.zero, i.size, i.bytes)) = some (some (.agg #[.nilIface, .string .empty]), 2, 32) := by kernel_rfl
theorem cell_two_new (w : World) (a b : Value) (T : TypeId) : ∀ j u, ([a, b] : List Value)[j]? = some u → (w.alloc (.cells #[a, b] T)).cell? ((⟨w.heap.size, 0, none⟩ : Addr).add j) = some u
 | 0, u, h => by simp at h; subst h; simp [Addr.add]
 | 1, u, h => by simp at h; subst h; simp [Addr.add]
 | j + 2, u, h => by simp at h
set_option maxRecDepth 100000 in
set_option maxHeartbeats 2000000 in
theorem split_kinds (t : Int) (d : ByteArray) (ks : List Kind) (w : World) (hd : d.size ≤ 65535) (hk : kindsOf t = some ks) (hkl : ks.length ≤ 9) :
  Calls Tryz.prog 99 #[.int .i64 t, .string d] w fun e w' => splEnd w (partsOf ks d) e w' ∧ Below w.heap.size w w' := by
 obtain ⟨i0, hi0, hz0, hz1, hz2⟩ := info_parts Tryz.infoPart
 have HF := hide' (fun w => fieldsOf_any t w)
 rw [hk] at HF
 go_enter Tryz.func99, Tryz.ntmps99
 go_wp2_with (go_at_call 119; refine (HF.out _).mono ?_; rintro e w1 ⟨⟨g, rfl, hg1, hg2⟩, hB1⟩)
 go_loopw [1, 6, 18] (fun dv pv iv wr => ∃ (r : ByteArray) (ps : List (Kind × ByteArray)) (i : Nat), dv = .string r ∧ iv = .int .i64 i ∧ i ≤ ks.length ∧ ps.length = i ∧ r.size ≤ d.size ∧ Hid (partsOf ks d = (partsOf (ks.drop i) r).map (ps ++ ·)) ∧ wr.ownsRow w1.heap.size 158 2 pv i (flat ps) ∧ Below w1.heap.size w1 wr) (fun _ _ iv _ => ks.length - (intOf iv).toNat)
 case atStart => exact ⟨d, [], 0, rfl, rfl, Nat.zero_le _, rfl, Nat.le_refl _, by simp [Hid], World.ownsRow_nil _ _ _ _, Below.refl _ _⟩
 case round =>
  obtain ⟨r, ps, i, rfl, rfl, hi, hpi, hrd, HP, hown, hBr⟩ := hrel
  have HPI : Hid (ps.length = i) := hpi
  clear hpi
  by_cases hlt : i < ks.length
  ·obtain ⟨k, hk2⟩ : ∃ k, ks[i] = k := ⟨_, rfl⟩
   have hgl : g < w1.heap.size := (Array.getElem?_eq_some_iff.1 hg2).1
   have hcell : wr.cell? ⟨g, i, none⟩ = some (.iface (kT k) (kR k)) := by
    have h := hBr.block g hgl
    rw [hg2] at h
    simp [World.cell?, h, hlt, hk2, kindV_eq]
   have HC := hide' (fun w => kindSize_any k r w (by omega))
   have hP : partsOf ks d = (match kindSize k r with | none => none | some n => (partsOf (ks.drop (i + 1)) (r.extract n r.size)).map ((k, r.extract 0 n) :: ·)).map (ps ++ ·) := by
    rw [HP.out, List.drop_eq_getElem_cons hlt, hk2]; rfl
   clear HP
   cases hsz : kindSize k r with
   | none =>
    rw [hsz] at HC hP
    have HE : Hid (partsOf ks d = none) := hP
    clear hP hsz hk2
    go_wp2_with fail
    rw [method_kind]
    go_upon
    rw [enter_kind, Oper.upon_enter]
    refine (HC.out _).mono ?_
    rintro e w2 ⟨rfl, hB2⟩
    simp only [szEnd]
    exact ⟨rfl, by rw [HE.out]; rfl, bstep hB1 (bstep hBr hB2 hBr.size) hB1.size⟩
   | some n =>
    rw [hsz] at HC hP
    have hn := kindSize_le hsz
    have HE : Hid (partsOf ks d = (partsOf (ks.drop (i + 1)) (r.extract n r.size)).map ((ps ++ [(k, r.extract 0 n)]) ++ ·)) := by
     unfold Hid; rw [hP]; simp only [Option.map_map]; congr 1; funext q; simp
    have hrz : (r.extract n r.size).size = r.size - n := size_extract' _ _ _ (Nat.le_refl _)
    clear hP hsz hk2
    go_wp2_with fail
    rw [method_kind]
    go_upon
    rw [enter_kind, Oper.upon_enter]
    refine (HC.out _).mono ?_
    rintro e w2 ⟨rfl, hB2⟩
    simp only [szEnd]
    have hown2 := ownsRow_below hown hB2
    have hBw2 : Below w1.heap.size w1 w2 := bstep hBr hB2 hBr.size
    go_wp2_with (at_builtin; refine wpList_append_own _ rfl _ _ 150 rfl w1.heap.size 158 i0 (.agg #[.nilIface, .string .empty]) 2 32 Tryz.underlying150 hi0 hz0 hz1 hz2 rfl (by decide) _ _ _ rfl (hown2.alloc _) ⟨w2.heap.size, 0, none⟩ 1 1 [.iface (kT k) (kR k), .string (r.extract 0 n)] rfl rfl (cell_two_new _ _ _ _) (by simp [Value.oneCell']) (by unfold maxLen; omega) (by omega) (by have := hBw2.size; simp; omega) ?_; intro v4 w4 hown4 hgrow4 _)
    refine ⟨⟨r.extract n r.size, ps ++ [(k, r.extract 0 n)], i + 1, rfl, by go_num, hlt, by rw [List.length_append, HPI.out]; rfl, by omega, HE, ?_, below_app hBw2 (Nat.le_refl _) hown2 hgrow4⟩, by simp [intOf]; omega⟩
    rw [flat_snoc, kindV_eq]; exact hown4
  ·obtain rfl : i = ks.length := by omega
   have hP := HP.out
   rw [List.drop_length] at hP
   clear HP
   obtain ⟨p, c, rfl, hpc, hc9⟩ : ∃ p c, u6 = .slice p ks.length c ∧ ks.length ≤ c ∧ c ≤ 9223372036854775807 := by
    obtain ⟨_, (⟨h1, h2⟩ | ⟨g', cap, cur, h1, hb, hg, hn, hcap, _⟩)⟩ := hown
    ·exact ⟨none, 0, by rw [h1, h2], by omega, by omega⟩
    ·exact ⟨_, cap, h1, hn, by unfold maxLen at hcap; omega⟩
   by_cases h0 : r.size = 0
   ·have he := isEmpty_true h0
    have HE : Hid (partsOf ks d = some ps) := by unfold Hid; rw [hP]; unfold partsOf; rw [if_pos h0]; simp
    clear hP h0
    go_wp2
    go_ret
    refine ⟨?_, bstep hB1 hBr hB1.size⟩
    rw [HE.out]
    have hl := HPI.out
    exact ⟨p, c, by rw [hl]; rfl, by rw [hl]; exact own_mono hown hB1.size⟩
   ·have he := isEmpty_false (r := r) (by omega)
    have HE : Hid (partsOf ks d = none) := by unfold Hid; rw [hP]; unfold partsOf; rw [if_neg h0]; rfl
    clear hP h0
    go_wp2_with (go_at_call 120; refine (throw_any 7 0 _).mono ?_; rintro e w' ⟨rfl, rfl⟩)
    exact ⟨rfl, by rw [HE.out]; rfl, bstep hB1 hBr hB1.size⟩
theorem kinds_few {t : Int} {ks : List Kind} (h : kindsOf t = some ks) : ks.length ≤ 9 := by
 unfold kindsOf at h
 by_cases hc : t = 1
 ·rw [if_pos hc] at h; cases h; decide
 rw [if_neg hc] at h; clear hc
 by_cases hc : t = 2 ∨ t = 5 ∨ t = 12 ∨ t = 39
 ·rw [if_pos hc] at h; cases h; decide
 rw [if_neg hc] at h; clear hc
 by_cases hc : t = 6
 ·rw [if_pos hc] at h; cases h; decide
 rw [if_neg hc] at h; clear hc
 by_cases hc : t = 13
 ·rw [if_pos hc] at h; cases h; decide
 rw [if_neg hc] at h; clear hc
 by_cases hc : t = 15
 ·rw [if_pos hc] at h; cases h; decide
 rw [if_neg hc] at h; clear hc
 by_cases hc : t = 16
 ·rw [if_pos hc] at h; cases h; decide
 rw [if_neg hc] at h; clear hc
 by_cases hc : t = 28
 ·rw [if_pos hc] at h; cases h; decide
 rw [if_neg hc] at h; clear hc
 by_cases hc : t = 33
 ·rw [if_pos hc] at h; cases h; decide
 rw [if_neg hc] at h; clear hc
 by_cases hc : t = 35
 ·rw [if_pos hc] at h; cases h; decide
 rw [if_neg hc] at h; clear hc
 by_cases hc : t = 43
 ·rw [if_pos hc] at h; cases h; decide
 rw [if_neg hc] at h; clear hc
 by_cases hc : t = 46
 ·rw [if_pos hc] at h; cases h; decide
 rw [if_neg hc] at h; clear hc
 by_cases hc : t = 47
 ·rw [if_pos hc] at h; cases h; decide
 rw [if_neg hc] at h; clear hc
 by_cases hc : t = 48
 ·rw [if_pos hc] at h; cases h; decide
 rw [if_neg hc] at h; clear hc
 by_cases hc : t = 50
 ·rw [if_pos hc] at h; cases h; decide
 rw [if_neg hc] at h; clear hc
 by_cases hc : t = 51
 ·rw [if_pos hc] at h; cases h; decide
 rw [if_neg hc] at h; clear hc
 by_cases hc : t = 257
 ·rw [if_pos hc] at h; cases h; decide
 rw [if_neg hc] at h; clear hc
 by_cases hc : isDT t = true
 ·rw [if_pos hc] at h; cases h; decide
 rw [if_neg hc] at h; clear hc
 cases h
def partsD (t : Int) (d : ByteArray) : Option (List (Kind × ByteArray)) := match kindsOf t with
 | none => none
 | some ks => if 65535 < d.size then none else partsOf ks d
def errD (t : Int) (d : ByteArray) : Nat := match kindsOf t with
 | none => 6
 | some _ => match partsD t d with | none => 7 | some _ => 0
theorem errD_zero {t : Int} {d : ByteArray} (h : errD t d = 0) : ∃ ps, partsD t d = some ps := by
 unfold errD at h
 cases hk : kindsOf t with
 | none => rw [hk] at h; simp at h
 | some ks =>
  rw [hk] at h
  cases hp : partsD t d with
  | none => rw [hp] at h; simp at h
  | some ps => exact ⟨ps, rfl⟩
def spl2 (w : World) (t : Int) (d : ByteArray) (e : Ending) (w' : World) : Prop := match partsD t d with
 | some ps => ∃ p c, e = .returned (.slice p ps.length c) ∧ w'.ownsRow w.heap.size 158 2 (.slice p ps.length c) ps.length (flat ps)
 | none => e = .panicked (flt (errD t d) 0)
set_option maxRecDepth 100000 in
set_option maxHeartbeats 1000000 in
theorem split_any2 (t : Int) (d : ByteArray) (w : World) (hd : d.size ≤ 9223372036854775807) :
  Calls Tryz.prog 99 #[.int .i64 t, .string d] w fun e w' => spl2 w t d e w' ∧ Below w.heap.size w w' := by
 have HF := hide' (fun w => fieldsOf_any t w)
 cases hk : kindsOf t with
 | none =>
  have HE : Hid (partsD t d = none ∧ errD t d = 6) := by unfold Hid partsD errD; rw [hk]; exact ⟨rfl, rfl⟩
  rw [hk] at HF
  clear hk
  go_enter Tryz.func99, Tryz.ntmps99
  go_wp2_with (go_at_call 119; refine (HF.out _).mono ?_; rintro e w1 ⟨rfl, hB1⟩)
  exact ⟨rfl, by unfold spl2; rw [HE.out.1, HE.out.2], hB1⟩
 | some ks =>
  by_cases hl : 65535 < d.size
  ·have hp : partsD t d = none := by unfold partsD; rw [hk]; show (if _ then _ else _) = _; rw [if_pos hl]
   have HE : Hid (partsD t d = none ∧ errD t d = 7) := ⟨hp, by unfold errD; rw [hk, hp]⟩
   rw [hk] at HF
   clear hk hp
   go_enter Tryz.func99, Tryz.ntmps99
   go_wp2_with (first
    | (go_at_call 119; refine (HF.out _).mono ?_; rintro e w1 ⟨⟨g, rfl, hg1, hg2⟩, hB1⟩)
    | (go_at_call 120; refine (throw_any 7 0 _).mono ?_; rintro e w' ⟨rfl, rfl⟩))
   exact ⟨rfl, by unfold spl2; rw [HE.out.1, HE.out.2], hB1⟩
  ·refine (split_kinds t d ks w (by omega) hk (kinds_few hk)).mono ?_
   rintro e w' ⟨he, hB⟩
   refine ⟨?_, hB⟩
   have hp : partsD t d = partsOf ks d := by unfold partsD; rw [hk]; show (if _ then _ else _) = _; rw [if_neg hl]
   unfold spl2 errD
   rw [hk]
   cases hq : partsOf ks d with
   | none => rw [hq] at he hp; rw [hp]; exact he
   | some ps => rw [hq] at he hp; rw [hp]; exact he
end Go.Proofs.YtoabnpdoicbpiaaGreat
namespace Go.Proofs.YtoabnpdoicbpiaaGreat
set_option linter.unusedVariables false
open Go.RowKit Go.Shelf Go.Proofs.YtoabnpdoicbpiaaGreat.Nm
set_option maxRecDepth 100000 in
theorem check1_panicking (p : Addr) (x : Int) (code at_ : Nat) (older : List PanicEntry) (w : World) (hc : w.cell? p = some (.int .i64 x)) (hz : w.frozen? p = false) (hp : p.block < w.heap.size) :
  CallsD Tryz.prog 97 #[.pointer (some p)] (.panicking ({ v := .iface 148 (.agg #[.int .i64 (code : Int), .int .i64 (at_ : Int)]), recovered := false } :: older)) w fun e u' w' =>
   e = .returned (.tuple #[]) ∧ u' = .panicking ({ v := .iface 148 (.agg #[.int .i64 (code : Int), .int .i64 (at_ : Int)]), recovered := true } :: older) ∧ ∃ w2, Below w.heap.size w w2 ∧ w' = w2.setCell p (.int .i64 (code : Int)) := by
 refine callsD_of_wpS Tryz.func97 rfl fun c₀ cs hu => ?_
 apply wpS_region
 simp [wpOpsS, go_sem, recoverD, hu, Tryz.ntmps97]
 refine (faultOf_some code at_ w).mono ?_
 rintro e w2 ⟨rfl, hB2⟩
 have hc2 : w2.cell? p = some (.int .i64 x) := (hB2.cell hp).trans hc
 have hz2 : w2.frozen? p = false := (below_frozen hB2 hp).trans hz
 simp [go_sem, field_code, hc2, hz2, bodyPostS, results, Tryz.results97]
 exact ⟨w2, hB2, rfl⟩
set_option maxRecDepth 100000 in
theorem check1_idle (p : Addr) (x : Int) (w : World) (hc : w.cell? p = some (.int .i64 x)) (hz : w.frozen? p = false) (hp : p.block < w.heap.size) :
  CallsD Tryz.prog 97 #[.pointer (some p)] .returning w fun e u' w' => e = .returned (.tuple #[]) ∧ u' = .returning ∧ ∃ w2, Below w.heap.size w w2 ∧ w' = w2.setCell p (.int .i64 0) := by
 refine callsD_of_wpS Tryz.func97 rfl fun c₀ cs hu => ?_
 apply wpS_region
 simp [wpOpsS, go_sem, recoverD, hu, Tryz.ntmps97]
 refine (faultOf_none w).mono ?_
 rintro e w2 ⟨rfl, hB2⟩
 have hc2 : w2.cell? p = some (.int .i64 x) := (hB2.cell hp).trans hc
 have hz2 : w2.frozen? p = false := (below_frozen hB2 hp).trans hz
 simp [go_sem, field_code, hc2, hz2, bodyPostS, results, Tryz.results97]
 exact ⟨_, by cases c₀; simp_all, rfl, w2, hB2, rfl⟩
set_option maxRecDepth 100000 in
set_option maxHeartbeats 1000000 in
theorem dataCheck_any (t : Int) (d : ByteArray) (w : World) (hd : d.size ≤ 9223372036854775807) :
  Calls Tryz.prog 66 #[.int .i64 t, .string d] w fun e w' => e = .returned (.int .i64 (errD t d : Int)) ∧ Below w.heap.size w w' := by
 have hmf : ∀ (fn : Fn) (first cap : Array Value) (w : World), (Instr.makeFunc fn first cap).run Tryz.prog w = .ok (.func fn first cap) w := fun _ _ _ _ => rfl
 have HT := hide' (fun w => split_any2 t d w hd)
 have bx := Boxed.new w 24 (.int .i64 0)
 cases hp : partsD t d with
 | some ps =>
  have HE : Hid (errD t d = 0) := by
   unfold Hid errD
   cases hk : kindsOf t with
   | none => unfold partsD at hp; rw [hk] at hp; cases hp
   | some ks => rw [hp]
  unfold spl2 at HT
  rw [hp] at HT
  clear hp
  go_enter_defers Tryz.func66, Tryz.ntmps66
  go_wp2_with (go_at_call 99; refine (HT.out _).mono ?_; rintro e w1 ⟨⟨p, c, rfl, hown⟩, hB1⟩; have bx1 := bxBelow bx hB1 (by simp); have hc1 := bx1.cell; have hf1 := bx1.frozen)
  refine leaves_cons (f := 97) (args := #[.pointer (some ⟨w.heap.size, 0, none⟩)]) (by simp) (by simp [go_sem]) ?_
  have bx2 := bx1.set (.int .i64 0)
  refine (check1_idle ⟨w.heap.size, 0, none⟩ 0 _ bx2.cell bx2.frozen bx2.lt).mono ?_
  rintro e u' w'' ⟨rfl, rfl, w2, hB2, rfl⟩
  have bx3 := (bxBelow bx2 hB2 bx2.lt).set (.int .i64 0)
  have hc3 := bx3.cell
  rw [World.size_alloc] at hB1
  have hBa : Below w.heap.size w (w1.setCell ⟨w.heap.size, 0, none⟩ (.int .i64 0)) := (((Below.refl _ w).alloc (Nat.le_refl _) _).trans (hB1.mono (by omega))).setCell (p := ⟨w.heap.size, 0, none⟩) (Nat.le_refl _) _
  have hBb : Below w.heap.size w (w2.setCell ⟨w.heap.size, 0, none⟩ (.int .i64 0)) := (hBa.trans (hB2.mono hBa.size)).setCell (p := ⟨w.heap.size, 0, none⟩) (Nat.le_refl _) _
  simp only [Leaves, settle]
  refine ⟨.int .i64 0, ?_, by rw [HE.out]; rfl, hBb⟩
  simp [results, Tryz.results66, go_sem, hc3]
 | none =>
  unfold spl2 at HT
  rw [hp] at HT
  clear hp
  go_enter_defers Tryz.func66, Tryz.ntmps66
  go_wp2_with (go_at_call 99; refine (HT.out _).mono ?_; rintro e w1 ⟨rfl, hB1⟩; have bx1 := bxBelow bx hB1 (by simp); have hc1 := bx1.cell; have hf1 := bx1.frozen)
  simp only [bodyPostD, flt]
  refine leaves_cons (f := 97) (args := #[.pointer (some ⟨w.heap.size, 0, none⟩)]) (by simp) (by simp [go_sem]) ?_
  refine (check1_panicking ⟨w.heap.size, 0, none⟩ 0 (errD t d) 0 [] _ bx1.cell bx1.frozen bx1.lt).mono ?_
  rintro e u' w'' ⟨rfl, rfl, w2, hB2, rfl⟩
  have bx3 := (bxBelow bx1 hB2 bx1.lt).set (.int .i64 (errD t d : Int))
  have hc3 := bx3.cell
  rw [World.size_alloc] at hB1
  have hBa : Below w.heap.size w w1 := ((Below.refl _ w).alloc (Nat.le_refl _) _).trans (hB1.mono (by omega))
  have hBb : Below w.heap.size w (w2.setCell ⟨w.heap.size, 0, none⟩ (.int .i64 (errD t d : Int))) := (hBa.trans (hB2.mono hBa.size)).setCell (p := ⟨w.heap.size, 0, none⟩) (Nat.le_refl _) _
  simp only [settle]
  refine ⟨.int .i64 (errD t d : Int), ?_, rfl, hBb⟩
  simp [results, Tryz.results66, go_sem, hc3]
end Go.Proofs.YtoabnpdoicbpiaaGreat
namespace Go.Proofs.YtoabnpdoicbpiaaGreat
set_option linter.unusedVariables false
open Go.RowKit Go.Shelf Go.Proofs.YtoabnpdoicbpiaaGreat.Nm
theorem flat_get : ∀ (ps : List (Kind × ByteArray)) (i : Nat) (h : i < ps.length), (flat ps)[i * 2]? = some (kindV ps[i].1) ∧ (flat ps)[i * 2 + 1]? = some (.string ps[i].2)
 | [], i, h => by simp at h
 | p :: ps, 0, h => by simp [flat]
 | p :: ps, i + 1, h => by
  have e : flat (p :: ps) = [kindV p.1, .string p.2] ++ flat ps := by simp [flat]
  have := flat_get ps i (by simpa using h)
  rw [e, show (i + 1) * 2 = i * 2 + 2 by omega, show i * 2 + 2 + 1 = (i * 2 + 1) + 2 by omega]
  simpa using this
theorem parts_few {t : Int} {d : ByteArray} {ps : List (Kind × ByteArray)} (h : partsD t d = some ps) : ps.length ≤ 9 ∧ d.size ≤ 65535 := by
 unfold partsD at h
 cases hk : kindsOf t with
 | none => rw [hk] at h; cases h
 | some ks =>
  rw [hk] at h
  change (if _ then _ else _) = _ at h
  split at h
  ·cases h
  ·have e : ∀ (ks : List Kind) (d : ByteArray) (ps : List (Kind × ByteArray)), partsOf ks d = some ps → ps.length = ks.length := by
    intro ks
    induction ks with
    | nil => intro d ps h; unfold partsOf at h; split at h <;> simp at h; subst h; rfl
    | cons k ks ih =>
     intro d ps h
     unfold partsOf at h
     cases hs : kindSize k d with
     | none => rw [hs] at h; cases h
     | some n =>
      rw [hs] at h
      simp only [Option.map_eq_some_iff] at h
      obtain ⟨q, hq, rfl⟩ := h
      simp [ih _ _ hq]
   have := e ks d ps h
   have := kinds_few hk
   omega
end Go.Proofs.YtoabnpdoicbpiaaGreat
