import Derived.Test.YtoabnpdoicbpiaaGreatZnfG
import Derived.Test.YtoabnpdoicbpiaaGreatZp2G
import Derived.Test.YtoabnpdoicbpiaaGreatWkG
import Derived.Test.YtoabnpdoicbpiaaGreatOw0G
import Derived.Shelf.Slices.ReverseS
import Derived.Shelf.Lay
import Derived.Ground.Names2Prog
import Derived.Lib.OwnBridge
import Derived.Sort.OwnSorted
import Derived.Sort.Grow
import Derived.Test.YtoabnpdoicbpiaaGreatZp4G
namespace Go.Proofs.YtoabnpdoicbpiaaGreat
set_option linter.unusedVariables false
set_option linter.unusedSimpArgs false
open Go.RowKit Go.Shelf Go.Maps Go.Sort Go.Proofs.YtoabnpdoicbpiaaGreat.Nm
def Tryz.reverseS_ren : Go.Shelf.Ren := ⟨fun | 17 => 79 | n => n, fun | 24 => 93 | 9 => 9 | 3 => 3 | 4 => 4 | 0 => 0 | n => n, fun | n => n⟩
theorem Tryz.reverseS : Go.Proofs.Lays2.n17 Tryz.prog Tryz.reverseS_ren := {
       mixed := by kernel_rfl
       f17 := Tryz.func79.trans (congrArg some (by kernel_rfl))
       t0 := Tryz.underlying0
       a0 := Tryz.isAgg0
       z0 := Tryz.sizeOf0
       v0 := Tryz.zeroValue0
       t3 := Tryz.underlying3
       a3 := Tryz.isAgg3
       z3 := Tryz.sizeOf3
       v3 := Tryz.zeroValue3
       t4 := Tryz.underlying4
       a4 := Tryz.isAgg4
       z4 := Tryz.sizeOf4
       v4 := Tryz.zeroValue4
       t9 := Tryz.underlying9
       a9 := Tryz.isAgg9
       z9 := Tryz.sizeOf9
       v9 := Tryz.zeroValue9
       t24 := Tryz.underlying93
       a24 := Tryz.isAgg93
       z24 := Tryz.sizeOf93
       v24 := Tryz.zeroValue93 }
def abvB (s : ByteArray) : ByteArray := s.extract (1 + bt s 0) s.size
theorem abv_good {s : ByteArray} (h : isN s = true) (h1 : 1 < s.size) : GoodL s 0 := by
 rcases Classical.em (GoodL s 0) with hg | hg
 ·exact hg
 ·have h2 := (isN_iff s).1 h
  rw [fin_bad hg] at h2
  omega
theorem abv_put {s : ByteArray} (h : isN s = true) (h1 : 1 < s.size) : abvB s = putB ((labs s).drop 1) ∧ (labs s).length = ((labs s).drop 1).length + 1 := by
 have hg := abv_good h h1
 have hr := hg.room
 have hl : labs s = s.extract (0 + 1) (0 + 1 + bt s 0) :: labsFrom s (0 + 1 + bt s 0) := labsFrom_good hg
 have h2 := extract_tail h (j := 0 + 1 + bt s 0) (by omega) (fin_good hg)
 refine ⟨?_, by rw [hl]; simp⟩
 rw [hl]
 show s.extract (1 + bt s 0) s.size = putB (labsFrom s (0 + 1 + bt s 0))
 rw [← h2, Nat.zero_add]
theorem abv_name {s : ByteArray} (h : isN s = true) (h1 : 1 < s.size) : isN (abvB s) = true ∧ labs (abvB s) = (labs s).drop 1 ∧ (abvB s).size < s.size ∧ 1 + bt s 0 ≤ s.size := by
 have hg := abv_good h h1
 have hr := hg.room
 have hsz : (abvB s).size = s.size - (1 + bt s 0) := size_extract' _ _ _ (Nat.le_refl _)
 have ho : OkL ((labs s).drop 1) := (okL_labs s).drop 1
 have h2 := (abv_put h h1).1
 have h255 := ((isN_iff s).1 h).1
 refine ⟨?_, ?_, by omega, by omega⟩
 ·rw [h2, isN_putB ho]
  rw [h2] at hsz
  exact decide_eq_true (by omega)
 ·rw [h2, labs_putB ho]
def upsL (a : Nat) : Nat → ByteArray → List ByteArray
 | 0, n => [n]
 | f + 1, n => if a < n.size then n :: upsL a f (abvB n) else [n]
theorem ups_stop {a f : Nat} {n : ByteArray} (h : ¬ a < n.size) : upsL a f n = [n] := by
 cases f with
 | zero => rfl
 | succ f => unfold upsL; rw [if_neg h]
theorem ups_go {a f : Nat} {n : ByteArray} (h : a < n.size) (hf : n.size ≤ f) : ∃ f', f = f' + 1 ∧ upsL a f n = n :: upsL a f' (abvB n) := by
 cases f with
 | zero => omega
 | succ f => exact ⟨f, rfl, by rw [upsL, if_pos h]⟩
def pathL (apex n : ByteArray) : List ByteArray := (upsL apex.size n.size n).reverse
theorem ups_len (a : Nat) : ∀ f n, (upsL a f n).length ≤ f + 1
 | 0, n => by simp [upsL]
 | f + 1, n => by
  unfold upsL
  split
  ·rw [List.length_cons]; have := ups_len a f (abvB n); omega
  ·simp
theorem ups_names {a : Nat} (ha : 0 < a) : ∀ f n, isN n = true → ∀ x ∈ upsL a f n, isN x = true
 | 0, n, h, x, hx => by simp [upsL] at hx; rw [hx]; exact h
 | f + 1, n, h, x, hx => by
  unfold upsL at hx
  split at hx
  ·rename_i hl
   rcases List.mem_cons.1 hx with rfl | hx
   ·exact h
   ·exact ups_names ha f _ (abv_name h (by omega)).1 x hx
  ·simp at hx; rw [hx]; exact h
set_option maxRecDepth 100000 in
set_option maxHeartbeats 1000000 in
theorem above_any (n : ByteArray) (w : World) (h : isN n = true) (h1 : 1 < n.size) :
  Calls Tryz.prog 78 #[.string n] w fun r w' => r = .returned (.string (abvB n)) ∧ w' = w := by
 obtain ⟨_, _, _, hr⟩ := abv_name h h1
 have h255 := ((isN_iff n).1 h).1
 have h0 : 0 < n.size := by omega
 obtain ⟨k, hk1, hk2, hk3⟩ := bt_wrap h0
 unfold abvB
 rw [hk2] at hr ⊢
 have i0 : (0 : Int) < (n.size : Int) := by omega
 have e1 : IntKind.i64.wrap (1 + (k : Int)) = ((1 + k : Nat) : Int) := by rw [IntWalk.i64_in] <;> omega
 have e2 : (0 : Int) ≤ ((1 + k : Nat) : Int) := by omega
 have e3 : ((1 + k : Nat) : Int) ≤ (n.size : Int) := by omega
 have e4 : (n[0]'h0).toNat = k := by omega
 clear h hk2
 go_enter Tryz.func78, Tryz.ntmps78
 go_wp2_with fail
 go_ret
 exact ⟨rfl, rfl⟩
theorem enc_bytes (l : List ByteArray) : (l.map fun b => b.data.toList).map encStr = l.map Value.string := by
 rw [List.map_map]
 exact List.map_congr_left fun b _ => rfl
theorem reverseS_own (l : List ByteArray) (g cap base n : Nat) (w : World) (ho : w.ownsRow base 9 1 (.slice (some ⟨g, 0, none⟩) n cap) n (l.map Value.string)) (hn : l.length = n) (hl : n < 4611686018427387904) :
  Calls Tryz.prog 79 #[.slice (some ⟨g, 0, none⟩) n cap] w fun e w' => e = .returned (.tuple #[]) ∧ w'.ownsRow base 9 1 (.slice (some ⟨g, 0, none⟩) n cap) n (l.reverse.map Value.string) ∧ w.grownBy w' (some g) := by
 rw [← enc_bytes] at ho
 obtain ⟨g', cap', hv, hbg, hgl, hncap, hcm, hlen, hH⟩ := Lib.holds_of_ownsRow ho (by simp)
 cases hv
 subst hn
 rcases ho.2 with ⟨h0, _⟩ | ⟨g', cap', cur, hv, hbase, hb, h1, h2, h3, h4⟩
 ·cases h0
 cases hv
 have cS := Any.slices_Reverse_string Tryz.reverseS g 0 cap (l.map fun b => b.data.toList) w hH (by simp; omega)
 change Calls Tryz.prog 79 _ _ _ at cS
 rw [List.length_map] at cS
 refine cS.mono ?_
 rintro e w' ⟨rfl, nn, rfl⟩
 have he := enc_bytes l.reverse
 rw [List.map_reverse] at he
 refine ⟨rfl, ?_, ?_⟩
 ·rw [← he]
  have := ownsRow_sorted (n := nn) (os := #[]) (ss := l.map fun b => b.data.toList) (ts := (l.map fun b => b.data.toList).reverse) (by simp) hbase hb (by simpa using h1) h2 h3
  rw [grow_empty, List.length_map] at this
  exact this
 ·have hgr := grownBy_sorted (w := w) (g := g) (n := nn) (os := #[]) (l.map fun b => b.data.toList).reverse.toArray
  rw [grow_empty] at hgr
  exact hgr
def txLen : Value → Nat
 | .string s => s.size
 | _ => 0
theorem row_oneS (w : World) (x : ByteArray) : (w.alloc (.cells #[.string x] 9)).ownsRow w.heap.size 9 1 (.slice (some ⟨w.heap.size, 0, none⟩) 1 1) 1 [.string x] :=
 ⟨by simp, .inr ⟨w.heap.size, 1, #[.string x], rfl, Nat.le_refl _, World.alloc_heap_new w _, by simp, by unfold maxLen; omega, by simp, by simp⟩⟩
structure Pth (w wr : World) (a : Nat) (n0 n : ByteArray) (lv : Value) (pre : List ByteArray) (f : Nat) : Prop where
 nm : isN n = true
 sz : n.size ≤ f
 eq : upsL a n0.size n0 = pre ++ upsL a f n
 own : wr.ownsRow w.heap.size 9 1 lv (pre.length + 1) ((pre ++ [n]).map Value.string)
 le : pre.length + n.size ≤ 255
 bl : Below w.heap.size w wr
set_option maxRecDepth 100000 in
set_option maxHeartbeats 4000000 in
theorem path_any (Z RW NM : Nat) (apex : ByteArray) (rv : Value) (n : ByteArray) (w : World) (hZ : Bx w Z #[.string apex, rv, .map (some RW), .map (some NM)] 61) (hn : isN n = true) (ha : 0 < apex.size) (ha2 : apex.size ≤ 255) :
  Calls Tryz.prog 50 #[.pointer (some ⟨Z, 0, none⟩), .string n] w fun r w' => (∃ p c, r = .returned (.slice p (pathL apex n).length c) ∧ StrsAt w' p (pathL apex n) ∧ (pathL apex n).length ≤ c ∧ c ≤ maxLen) ∧ Below w.heap.size w w' := by
 obtain ⟨i0, hi, hz0, hz1, hz2⟩ := info_parts Tryz.infoStr
 have HZ := hide' hZ
 have z0 : w.cell? ⟨Z, 0, none⟩ = some (.string apex) := hZ.cell rfl
 have P0 : Hid (Pth w (w.alloc (.cells #[.string n] 9)) apex.size n n (.slice (some ⟨w.heap.size, 0, none⟩) 1 1) [] n.size) :=
  ⟨hn, Nat.le_refl _, by simp, row_oneS w n, by have := ((isN_iff n).1 hn).1; simp; omega, (Below.refl _ w).alloc (Nat.le_refl _) _⟩
 clear hn hZ
 go_enter Tryz.func50, Tryz.ntmps50
 go_wp2_with fail
 go_loopw [1, 5] (fun nv lv wr => ∃ m pre f, nv = .string m ∧ Hid (Pth w wr apex.size n m lv pre f)) (fun nv _ _ => txLen nv)
 case atStart => exact ⟨n, [], n.size, rfl, P0⟩
 case round =>
  obtain ⟨m, pre, f, rfl, HP⟩ := hrel
  have z1 : wr.cell? ⟨Z, 0, none⟩ = some (.string apex) := (HP.out.bl.cell (p := ⟨Z, 0, none⟩) HZ.out.lt).trans z0
  have hm255 : m.size ≤ 255 := ((isN_iff m).1 HP.out.nm).1
  by_cases hlt : apex.size < m.size
  ·have ilt : (apex.size : Int) < (m.size : Int) := by omega
   have HA := hide' (fun V => above_any m V HP.out.nm (by omega))
   obtain ⟨an1, an2, an3, an4⟩ := abv_name HP.out.nm (by omega)
   obtain ⟨f', hf', hu⟩ := ups_go hlt HP.out.sz
   have HNX : Hid (∀ v w', w'.ownsRow w.heap.size 9 1 v (pre.length + 1 + 1) ((pre ++ [m]).map Value.string ++ [.string (abvB m)]) → Below w.heap.size w w' → Pth w w' apex.size n (abvB m) v (pre ++ [m]) f') := fun v w' ho hb => by
    have hp := HP.out
    refine ⟨an1, by have := hp.sz; omega, by rw [hp.eq, hu]; simp, ?_, by have := hp.le; rw [List.length_append]; simp; omega, hb⟩
    rw [List.length_append, List.map_append (l₂ := [abvB m])]
    exact ho
   have hpl : pre.length ≤ 255 := by have := HP.out.le; omega
   have HAB := hide' an3
   clear an1 an2 an3 an4 hu hf'
   obtain ⟨x, hx⟩ : ∃ x, abvB m = x := ⟨_, rfl⟩
   rw [hx] at HA HNX HAB
   clear hx
   go_wp2_with (first
    | (go_at_call 78; refine (HA.out _).mono ?_; rintro e w5 ⟨rfl, rfl⟩)
    | (at_builtin; refine wpList_append_own _ rfl _ _ 93 rfl w.heap.size 9 i0 (.string .empty) 1 16 Tryz.underlying93 hi hz0 hz1 hz2 rfl (by decide) _ _ _ rfl (HP.out.own.alloc _) ⟨_, 0, none⟩ 1 1 [.string x] rfl rfl (cell_one_new _ _ _) (by simp [Value.oneCell']) (by unfold maxLen; omega) (by omega) (by have := HP.out.bl.size; simp; omega) ?_; intro v9 w9 ho9 hg9 _; have HO9 := hide' ho9; have HB9 := hide' ((HP.out.bl.alloc HP.out.bl.size (.cells #[.string x] 9)).grown hg9 (by have := HP.out.bl.size; simp; omega) (fun k e => own_ge HP.out.own e)); clear ho9 hg9))
   exact ⟨⟨x, pre ++ [m], f', rfl, hide' (HNX.out _ _ HO9.out HB9.out)⟩, by simp [txLen]; exact HAB.out⟩
  ·have ilt : ¬ (apex.size : Int) < (m.size : Int) := by omega
   have hp := HP.out
   have he : upsL apex.size n.size n = pre ++ [m] := by rw [hp.eq, ups_stop hlt]
   have hlen : (pre ++ [m]).length = pre.length + 1 := by simp
   obtain ⟨q, c, rfl, k1, k2, k3⟩ := own_shape hp.own
   cases q with
   | none => exact absurd (k3 rfl) (by omega)
   | some ad =>
    have hoo := hp.own
    obtain ⟨_, (⟨h1, _⟩ | ⟨g, cap', cur, h1, hbg, _⟩)⟩ := hoo
    ·cases h1
    ·injection h1 with h1 _ h3
     injection h1 with h1
     subst h1 h3
     have HR := hide' (fun V hV => reverseS_own (pre ++ [m]) g c w.heap.size (pre.length + 1) V (own_below hp.own hV) hlen (by have := hp.le; omega))
     have HB := hide' hp.bl
     have HE : Hid (pathL apex n = (pre ++ [m]).reverse) := by unfold Hid pathL; rw [he]
     have HG : Hid (w.heap.size ≤ g) := hbg
     have HCC : Hid (pre.length + 1 ≤ c ∧ c ≤ maxLen) := ⟨k1, k2⟩
     clear hp he hlen k1 k2 k3 hbg
     go_wp2_with (go_at_call 79; refine (HR.out _ (Below.refl _ _)).mono ?_; rintro e w5 ⟨rfl, ho5, hg5⟩; have HO5 := hide' ho5; have HB5 := hide' (HB.out.grown hg5 HB.out.size (fun k e => by cases e; exact HG.out)); clear ho5 hg5)
     go_ret
     rw [HE.out]
     refine ⟨⟨some ⟨g, 0, none⟩, c, by simp, ?_, by have := HCC.out.1; simpa using this, HCC.out.2⟩, HB5.out⟩
     intro j hj
     have hj' : j < pre.length + 1 := by simpa using hj
     refine ⟨g, 0, rfl, ?_, ?_⟩
     ·obtain ⟨_, (⟨h1, _⟩ | ⟨g', cap', cur, h1, _, hbx, _⟩)⟩ := HO5.out
      ·cases h1
      ·injection h1 with h1; injection h1 with h1; injection h1 with h1
       subst h1
       exact (Array.getElem?_eq_some_iff.1 hbx).1
     ·have := HO5.out.cellAt j (by omega)
      rw [Nat.zero_add, this, List.getElem?_map, List.getElem?_eq_getElem hj]
      rfl
end Go.Proofs.YtoabnpdoicbpiaaGreat
namespace Go.Proofs.YtoabnpdoicbpiaaGreat
set_option linter.unusedVariables false
set_option linter.unusedSimpArgs false
open Go.RowKit Go.Shelf Go.Maps Go.Sort Go.Proofs.YtoabnpdoicbpiaaGreat.Nm
theorem MNm.parts {w : World} {b n : Nat} {f : ByteArray → Option Nat} (h : MNm w b n f) : ∃ D : DataW Unit, w.ownsMap Tryz.prog 9 (plainElem (H := Unit) Tryz.prog 3) b n D ∧ Maps.size D ≤ n := by
 obtain ⟨D, hown, _⟩ := h
 refine ⟨D, hown, ?_⟩
 obtain ⟨es, clock, _, _, hn, rfl⟩ := hown
 show ((es.toList.map _).foldr DataW.insert []).length ≤ n
 rw [length_sorted]
 simpa using hn
def namK (apex : ByteArray) (T : List Rn) (k : Nat) : List ByteArray := (T.take k).flatMap fun r => if countB r = true then pathL apex (foldB r.o) else []
theorem namK_succ {apex : ByteArray} {T : List Rn} {k : Nat} (hk : k < T.length) : namK apex T (k + 1) = namK apex T k ++ (if countB (rAt T k) = true then pathL apex (foldB (rAt T k).o) else []) := by
 unfold namK
 rw [List.take_succ_eq_append_getElem hk, List.flatMap_append, rAt_get hk]
 simp
theorem pathL_len {apex n : ByteArray} (h : isN n = true) : (pathL apex n).length ≤ 256 := by
 unfold pathL
 rw [List.length_reverse]
 have := ups_len apex.size n.size n
 have := ((isN_iff n).1 h).1
 omega
theorem namK_len {apex : ByteArray} {T : List Rn} (ok : okL T) : ∀ k, k ≤ T.length → (namK apex T k).length ≤ k * 256
 | 0, _ => by simp [namK]
 | k + 1, h => by
  have ih := namK_len ok k (by omega) (apex := apex)
  rw [namK_succ (by omega), List.length_append]
  have hz := ok_facts (ok _ (rAt_mem (show k < T.length by omega)))
  have hp := pathL_len (apex := apex) (zisN_fold hz.1).1
  have hq : (if countB (rAt T k) = true then pathL apex (foldB (rAt T k).o) else []).length ≤ 256 := by
   by_cases hc : countB (rAt T k) = true
   ·rw [if_pos hc]; exact hp
   ·rw [if_neg hc]; exact Nat.zero_le _
  omega
def memB (a : List ByteArray) (x : ByteArray) : Bool := a.any fun y => decide (y = x)
theorem memB_iff (a : List ByteArray) (x : ByteArray) : memB a x = true ↔ x ∈ a := by
 unfold memB
 rw [List.any_eq_true]
 constructor
 ·rintro ⟨y, hy, e⟩
  rw [← of_decide_eq_true e]; exact hy
 ·intro h
  exact ⟨x, h, by simp⟩
def unq (l : List ByteArray) : List ByteArray := l.foldl (fun a x => if memB a x = true then a else a ++ [x]) []
theorem unq_snoc (l : List ByteArray) (x : ByteArray) : unq (l ++ [x]) = if memB (unq l) x = true then unq l else unq l ++ [x] := by
 unfold unq; rw [List.foldl_append]; rfl
theorem unq_fold (l : List ByteArray) : ∀ a : List ByteArray, (∀ y, y ∈ l.foldl (fun a x => if memB a x = true then a else a ++ [x]) a ↔ y ∈ a ∨ y ∈ l) ∧ (l.foldl (fun a x => if memB a x = true then a else a ++ [x]) a).length ≤ a.length + l.length := by
 induction l with
 | nil => intro a; simp
 | cons x l ih =>
  intro a
  rw [List.foldl_cons]
  by_cases h : x ∈ a
  ·rw [if_pos ((memB_iff a x).2 h)]
   refine ⟨fun y => ?_, ?_⟩
   ·rw [(ih a).1 y]
    simp only [List.mem_cons]
    constructor
    ·rintro (h1 | h1)
     ·exact Or.inl h1
     ·exact Or.inr (Or.inr h1)
    ·rintro (h1 | rfl | h1)
     ·exact Or.inl h1
     ·exact Or.inl h
     ·exact Or.inr h1
   ·have := (ih a).2
    simp only [List.length_cons]; omega
  ·rw [if_neg (fun hc => h ((memB_iff a x).1 hc))]
   refine ⟨fun y => ?_, ?_⟩
   ·rw [(ih _).1 y]
    simp only [List.mem_append, List.mem_cons, List.not_mem_nil, or_false]
    exact or_assoc
   ·have := (ih (a ++ [x])).2
    rw [List.length_append] at this
    simp only [List.length_cons, List.length_nil] at this ⊢; omega
theorem mem_unq (l : List ByteArray) (y : ByteArray) : y ∈ unq l ↔ y ∈ l := by
 have := (unq_fold l []).1 y
 simpa [unq] using this
theorem unq_len (l : List ByteArray) : (unq l).length ≤ l.length := by
 have := (unq_fold l []).2
 simpa [unq] using this
def ixN : List ByteArray → ByteArray → Option Nat
 | [], _ => none
 | y :: l, x => if x = y then some 0 else (ixN l x).map (· + 1)
theorem ix_mem : ∀ (l : List ByteArray) (x : ByteArray), (ixN l x).isSome = true ↔ x ∈ l
 | [], x => by simp [ixN]
 | y :: l, x => by
  unfold ixN
  by_cases h : x = y
  ·simp [h]
  ·rw [if_neg h]
   simp [h, ix_mem l x]
theorem ix_snoc : ∀ (l : List ByteArray) (x y : ByteArray), ixN (l ++ [y]) x = if memB l x = true then ixN l x else if x = y then some l.length else none
 | [], x, y => by simp [ixN, memB]
 | z :: l, x, y => by
  rw [List.cons_append]
  have em : memB (z :: l) x = (decide (z = x) || memB l x) := rfl
  rw [em]
  unfold ixN
  by_cases h : x = z
  ·subst h; simp
  ·have h' : ¬ z = x := fun e => h e.symm
   rw [if_neg h, if_neg h, ix_snoc l x y, decide_eq_false h', Bool.false_or]
   cases h2 : memB l x with
   | true => simp
   | false =>
    by_cases h3 : x = y
    ·simp [h3]
    ·simp [h3]
def MNq (w : World) (b : Nat) (l : List ByteArray) (f : ByteArray → Option Nat) : Prop := ∃ D : DataW Unit, w.ownsMap Tryz.prog 9 (plainElem (H := Unit) Tryz.prog 3) b l.length D ∧ (∀ x, stG x → Maps.has D (stL x) = (f x).isSome ∧ ∀ v, f x = some v → ∀ z, D.atKey (stL x) z = nuD v) ∧ Maps.size D = l.length
theorem MNq.grown {w w' : World} {b : Nat} {l : List ByteArray} {f : ByteArray → Option Nat} {r : Option Nat} (h : MNq w b l f) (hg : w.grownBy w' r) (hne : some b ≠ r) : MNq w' b l f := by
 obtain ⟨D, h1, h2, h3⟩ := h
 exact ⟨D, h1.kept hg hne, h2, h3⟩
theorem MNq.mf {w : World} {b n : Nat} {l : List ByteArray} {f : ByteArray → Option Nat} (h : MNq w b l f) (hn : l.length ≤ n) : MNm w b n f := by
 obtain ⟨D, h1, h2, h3⟩ := h
 exact ⟨D, h1.mono hn, h2⟩
theorem MNq.store {w : World} {b : Nat} {l : List ByteArray} {f f' : ByteArray → Option Nat} (h : MNq w b l f) {x : ByteArray} (hx : stG x) (hn : l.length < 4611686018427387904) (hm : l.length < maxLen) (h0 : f x = none) (h1 : f' x = some l.length) (h2 : ∀ z, stG z → z ≠ x → f' z = f z) :
  ∃ w', (Instr.mapUpdate 59 (.map (some b)) (.string x) (.int .i64 (l.length : Int))).run Tryz.prog w = .ok () w' ∧ MNq w' b (l ++ [x]) f' ∧ w.grownBy w' (some b) := by
 obtain ⟨D, hown, hf, hs⟩ := h
 obtain ⟨w', hrun, hown', hg⟩ := hown.update stKeyed Tryz.underlying59 hm (stKey hx) (nu_mk l.length (by omega))
 obtain ⟨D', hd1, hd2⟩ := mf_put (f := f) stKeyed hown.isMap hf (fun x _ => isKey_st x) (fun x y hx hy => stL_inj hx hy) hx hown' h1 h2
 refine ⟨w', hrun, ⟨_, by rw [List.length_append]; exact hown', ?_, ?_⟩, hg⟩
 ·intro y hy
  have hno := (hf x hx).1
  rw [h0] at hno
  by_cases e : y = x
  ·subst e
   rw [h1]
   refine ⟨?_, fun u hu z => ?_⟩
   ·rw [has_put_same hown.isMap (isKey_st y)]; rfl
   ·cases hu
    exact atKey_put_same hown.isMap (isKey_st y) _ _
  ·have hne : stL y ≠ stL x := fun h => e (stL_inj hy hx h)
   rw [h2 y hy e]
   refine ⟨?_, fun u hu z => ?_⟩
   ·rw [has_put_other hne]; exact (hf y hy).1
   ·rw [atKey_put_other hne]; exact (hf y hy).2 u hu z
 ·have hno := (hf x hx).1
  rw [h0] at hno
  rw [size_put (hown.tidy stKeyed), hno, hs, List.length_append]
  rfl
structure Na (W wr : World) (NM : Nat) (done : List ByteArray) (f : ByteArray → Option Nat) : Prop where
 sz : MNq wr NM (unq done) f
 gb : W.grownBy wr (some NM)
 dm : ∀ x, stG x → ((f x).isSome = true ↔ x ∈ done)
 nu : ∀ x, stG x → f x = ixN (unq done) x
section
variable {W wr w2 : World} {NM : Nat} {done : List ByteArray} {f f' : ByteArray → Option Nat}
theorem Na.nm (h : Na W wr NM done f) : MNm wr NM done.length f := h.sz.mf (unq_len done)
theorem Na.step (h : Na W wr NM done f) (hb : Below wr.heap.size wr w2) : Na W w2 NM done f :=
 ⟨h.sz.grown (grown_below hb none) (by simp), grown_trans h.gb (grown_below hb _), h.dm, h.nu⟩
theorem Na.old (h : Na W wr NM done f) {x : ByteArray} (hx : (f x).isSome = true) (hg : stG x) : Na W wr NM (done ++ [x]) f := by
 have hm := (h.dm x hg).1 hx
 have e : unq (done ++ [x]) = unq done := by rw [unq_snoc, if_pos ((memB_iff _ x).2 ((mem_unq done x).2 hm))]
 refine ⟨by rw [e]; exact h.sz, h.gb, fun y hy => ?_, fun y hy => by rw [e]; exact h.nu y hy⟩
 rw [h.dm y hy]
 by_cases e : y = x
 ·subst e; simp [hm]
 ·simp [e]
theorem Na.new (h : Na W wr NM done f) {x : ByteArray} (hg : stG x) (h0 : f x = none) (hm : MNq w2 NM (unq done ++ [x]) f') (hgr : wr.grownBy w2 (some NM)) (h1 : f' x = some (unq done).length) (h2 : ∀ z, stG z → z ≠ x → f' z = f z) : Na W w2 NM (done ++ [x]) f' := by
 have hx : x ∉ unq done := fun hc => by
  have := (h.dm x hg).2 ((mem_unq done x).1 hc)
  rw [h0] at this; cases this
 have e : unq (done ++ [x]) = unq done ++ [x] := by rw [unq_snoc, if_neg (fun hc => hx ((memB_iff _ x).1 hc))]
 refine ⟨by rw [e]; exact hm, grown_trans h.gb hgr, fun y hy => ?_, fun y hy => ?_⟩
 ·by_cases e : y = x
  ·subst e; rw [h1]; simp
  ·rw [h2 y hy e, h.dm y hy]; simp [e]
 ·rw [e, ix_snoc]
  by_cases e2 : y = x
  ·subst e2
   rw [if_neg (fun hc => hx ((memB_iff _ _).1 hc)), if_pos rfl, h1]
  ·rw [h2 y hy e2, h.nu y hy, if_neg e2]
   by_cases e3 : y ∈ unq done
   ·rw [if_pos ((memB_iff _ _).2 e3)]
   ·rw [if_neg (fun hc => e3 ((memB_iff _ _).1 hc))]
    cases hc : ixN (unq done) y with
    | none => rfl
    | some v => exact absurd ((ix_mem _ _).1 (by rw [hc]; rfl)) e3
end
set_option maxRecDepth 100000 in
set_option maxHeartbeats 8000000 in
theorem nameAll_any (Z RW NM b : Nat) (apex : ByteArray) (p : Option Addr) (cp : Nat) (T : List Rn) (W : World) (hZ : Bx W Z #[.string apex, .slice p T.length cp, .map (some RW), .map (some NM)] 61) (ho : W.ownsRow b 29 5 (.slice p T.length cp) T.length (rce5 T)) (hN : MNm W NM 0 (fun _ => none)) (hZN : Z ≠ NM) (hT : T.length ≤ 2000) (ok : okL T) (na : isN apex = true) (hNb : ∀ g, (Value.slice p T.length cp).ownBlock = some g → g ≠ NM) :
  Calls Tryz.prog 17 #[.pointer (some ⟨Z, 0, none⟩)] W fun r w' => r = .returned (.tuple #[]) ∧ ∃ f, Na W w' NM (namK apex T T.length) f := by
 have hat := rsAt_ownZ ho rfl
 have HOW := hide' ho
 have HK : Hid (∀ V, W.grownBy V (some NM) → Bx V Z #[.string apex, .slice p T.length cp, .map (some RW), .map (some NM)] 61 ∧ RsAt V p T) := fun V hV => by
  refine ⟨hZ.grown hV (by simp; exact fun e => hZN e.symm), rsAt_ownZ (ho.kept hV ?_) rfl⟩
  cases hb : (Value.slice p T.length cp).ownBlock with
  | none => exact Or.inl rfl
  | some g => exact Or.inr fun e => hNb g hb (by injection e with e)
 have z1 : W.cell? ⟨Z, 1, none⟩ = some (.slice p T.length cp) := hZ.cell rfl
 have HOk := hide' ok
 have HNa := hide' na
 have N0 : Hid (Na W W NM (namK apex T 0) (fun _ => none)) := by
  have e : namK apex T 0 = [] := by simp [namK]
  unfold Hid
  rw [e]
  obtain ⟨D, h1, h2⟩ := hN
  exact ⟨⟨D, h1, h2, Nat.le_zero.1 h1.size_le⟩, grown_refl _ _, fun x _ => by simp, fun x _ => rfl⟩
 have hap : 0 < apex.size ∧ apex.size ≤ 255 := ⟨isN_pos na, ((isN_iff _).1 na).1⟩
 clear hat ho hN hNb ok na hZ
 go_enter Tryz.func17, Tryz.ntmps17
 go_wp2_with fail
 go_loopw [12] (fun kv wr => ∃ (k : Nat) (f : ByteArray → Option Nat), kv = .int .i64 (k : Int) ∧ k ≤ T.length ∧ Hid (Na W wr NM (namK apex T k) f)) (fun kv _ => T.length - (intOf kv).toNat)
 case atStart => exact ⟨0, _, rfl, Nat.zero_le _, N0⟩
 case round =>
  obtain ⟨k, f, rfl, hk, HF⟩ := hrel
  by_cases hlt : k < T.length
  ·have hzk := HOk.out _ (rAt_mem hlt)
   have hok := ok_facts hzk
   obtain ⟨hZr, hrs⟩ := HK.out wr HF.out.gb
   obtain ⟨g, off, hp⟩ := rs_at hrs hlt
   subst hp
   obtain ⟨y0, y1, y2, y3, y4⟩ := rs_cells hrs rfl hlt (Below.refl _ wr)
   have K0 := hide' (Bk.start wr (rAt T k))
   have HCo := hide' (fun V => counts_any (rAt T k) V (by unfold maxLen; omega))
   have HFo := hide' (fun V => fold_any (rAt T k).o V (by unfold maxLen; omega))
   have HSu := hide' (namK_succ (apex := apex) hlt)
   have HLn := hide' (namK_len (apex := apex) HOk.out k hk)
   have HIN : Hid (isN (foldB (rAt T k).o) = true) := (zisN_fold hok.1).1
   obtain ⟨x, hx⟩ : ∃ x, rAt T k = x := ⟨_, rfl⟩
   rw [hx] at y0 y1 y2 y3 y4 K0 HCo HFo HSu HIN
   obtain ⟨wa, hwa⟩ : ∃ wa, wr.alloc (.cells #[.string x.o, .int .i64 x.t, .int .i64 x.c, .int .i64 x.l, .string x.d] 29) = wa := ⟨_, rfl⟩
   rw [hwa] at K0
   have HKx : Hid (∀ V, Below wa.heap.size wa V → Bk wr V x) := fun V hV => K0.out.step hV
   obtain ⟨v0, v1, v2, v3, v4⟩ := K0.out.cells
   clear hx hok hzk hZr hrs
   obtain ⟨xo, xt, xc, xl, xd⟩ := x
   unfold rcV at HCo
   simp only at y0 y1 y2 y3 y4 v0 v1 v2 v3 v4 hwa HCo HFo HSu HIN
   have pk : (k : Int) < (T.length : Int) := by omega
   cases hc : countB ⟨xo, xt, xc, xl, xd⟩ with
   | false =>
    rw [hc] at HCo HSu
    simp only [Bool.false_eq_true, if_false, List.append_nil] at HSu
    clear hc
    go_wp2_with (go_at_call 49; refine (HCo.out _).mono ?_; rintro e w5 ⟨rfl, hB5⟩)
    refine ⟨⟨k + 1, f, by go_num, by omega, ?_⟩, by simp [intOf]; omega⟩
    unfold Hid
    rw [HSu.out]
    exact HF.out.step (HKx.out _ hB5).bl
   | true =>
    rw [hc] at HCo HSu
    simp only [if_true] at HSu
    clear hc
    obtain ⟨n, hn⟩ : ∃ n, foldB xo = n := ⟨_, rfl⟩
    rw [hn] at HFo HSu HIN
    clear hn
    have HPa : Hid (∀ V, Below wr.heap.size wr V → Calls Tryz.prog 50 #[.pointer (some ⟨Z, 0, none⟩), .string n] V fun r w' => (∃ p c, r = .returned (.slice p (pathL apex n).length c) ∧ StrsAt w' p (pathL apex n) ∧ (pathL apex n).length ≤ c ∧ c ≤ maxLen) ∧ Below V.heap.size V w') := fun V hV =>
     path_any Z RW NM apex _ n V ((HK.out wr HF.out.gb).1.below hV (HK.out wr HF.out.gb).1.lt) HIN.out hap.1 hap.2
    have HPn : Hid (∀ y ∈ pathL apex n, isN y = true) := fun y hy => ups_names hap.1 _ n HIN.out y (by unfold pathL at hy; simpa using hy)
    have hpl : (pathL apex n).length ≤ 256 := pathL_len HIN.out
    have hdl : (namK apex T k).length ≤ 512000 := by have := HLn.out; omega
    obtain ⟨PL, hPL⟩ : ∃ PL, pathL apex n = PL := ⟨_, rfl⟩
    rw [hPL] at HPa HPn hpl HSu
    clear hPL
    have hB := Below.refl wa.heap.size wa
    go_wp2_with (first
     | (go_at_call 49; refine (HCo.out _).mono ?_; rintro e w5 ⟨rfl, hB5⟩; have hB := bstep hB hB5 hB.size; obtain ⟨v0, v1, v2, v3, v4⟩ := (HKx.out _ hB).cells; clear hB5)
     | (go_at_call 37; refine (HFo.out _).mono ?_; rintro e w6 ⟨rfl, hB5⟩; have hB := bstep hB hB5 hB.size; clear hB5)
     | (go_at_call 50; refine (HPa.out _ (bstep K0.out.bl hB K0.out.bl.size)).mono ?_; rintro e w7 ⟨⟨pp, pc, rfl, hst, _, _⟩, hB5⟩; have hB := bstep hB hB5 hB.size; have HST := hide' hst; clear hB5 hst))
    have F7 : Hid (Na W w7 NM (namK apex T k) f) := HF.out.step (HKx.out _ hB).bl
    have H7B := hide' (Nat.le_refl w7.heap.size)
    clear hB v0 v1 v2 v3 v4 y0 y1 y2 y3 y4
    go_loopw [25] (fun jv wr => ∃ (j : Nat) (f : ByteArray → Option Nat), jv = .int .i64 (j : Int) ∧ j ≤ PL.length ∧ Hid (Na W wr NM (namK apex T k ++ PL.take j) f) ∧ Hid (w7.grownBy wr (some NM))) (fun jv _ => PL.length - (intOf jv).toNat)
    case atStart => exact ⟨0, f, rfl, Nat.zero_le _, by unfold Hid; rw [List.take_zero, List.append_nil]; exact F7.out, grown_refl _ _⟩
    case round =>
     obtain ⟨j, fj, rfl, hj, HJ, HG⟩ := hrel
     by_cases hjl : j < PL.length
     ·have pj : (j : Int) < (PL.length : Int) := by omega
      obtain ⟨gs, os, hps, hgs, cs⟩ := HST.out j hjl
      subst hps
      have hNM : gs ≠ NM := fun e => by
       obtain ⟨D, hown, _⟩ := F7.out.nm
       obtain ⟨es, clock, hb, _⟩ := hown
       rw [e] at cs
       simp [World.cell?, hb] at cs
      have cs' : wr.cell? ⟨gs, os + j, none⟩ = some (.string PL[j]) := by
       have := HG.out.block gs hgs (fun e => hNM (by injection e))
       unfold World.cell? at cs ⊢
       rw [this]; exact cs
      have hzx := (HK.out wr HJ.out.gb).1
      have z3 : wr.cell? ⟨Z, 3, none⟩ = some (.map (some NM)) := hzx.cell rfl
      have hiN := HPn.out _ (List.getElem_mem hjl)
      have hsg : stG PL[j] := by unfold stG maxLen; have := ((isN_iff _).1 hiN).1; omega
      have HTk : Hid (PL.take (j + 1) = PL.take j ++ [PL[j]]) := List.take_succ_eq_append_getElem hjl
      obtain ⟨D, hD, -, hDn⟩ := HJ.out.sz
      have hlen2 : (namK apex T k ++ PL.take j).length ≤ 513000 := by rw [List.length_append, List.length_take]; omega
      have HTh := hide' (isThere_any Z RW NM _ apex _ PL[j] fj wr hzx HJ.out.nm hsg)
      obtain ⟨y, hy⟩ : ∃ y, PL[j] = y := ⟨_, rfl⟩
      rw [hy] at cs' hsg HTk HTh
      clear cs hiN hy
      have hln := hD.len (t := 59) (e := 3) Tryz.underlying59 3
      clear hD
      cases hq : (fj y).isSome with
      | true =>
       rw [hq] at HTh
       have HO := hide' (HJ.out.old hq hsg)
       clear hq
       go_wp2_with (go_at_call 51; refine HTh.out.mono ?_; rintro e w8 ⟨rfl, rfl⟩)
       refine ⟨⟨j + 1, fj, by go_num, by omega, ?_, HG⟩, by simp [intOf]; omega⟩
       unfold Hid
       rw [HTk.out, ← List.append_assoc]
       exact HO.out
      | false =>
       rw [hq] at HTh
       have hfn : fj y = none := by cases h : fj y with | none => rfl | some v => rw [h] at hq; cases hq
       have hul := unq_len (namK apex T k ++ PL.take j)
       rw [hDn] at hln
       have HS0 := hide' HJ.out.sz
       have HNw := hide' (fun w9 f' => HJ.out.new (w2 := w9) (f' := f') hsg hfn)
       obtain ⟨U, hU⟩ : ∃ U, unq (namK apex T k ++ PL.take j) = U := ⟨_, rfl⟩
       rw [hU] at hul hln HS0 HNw
       clear hDn hU
       have HSt := hide' (HS0.out.store (f' := fun z => if z = y then some U.length else fj z) hsg (by omega) (by unfold maxLen; omega) hfn (by simp) (fun z _ hz => by simp [hz]))
       clear hq hfn HS0
       obtain ⟨w9, hrun, hm9, hg9⟩ := HSt.out
       have HO := hide' (HNw.out w9 _ hm9 hg9 (by simp) (fun z _ hz => by simp [hz]))
       clear HNw
       have HG9 := hide' (grown_trans HG.out hg9)
       clear HSt hm9 hg9
       go_wp2_with (go_at_call 51; refine HTh.out.mono ?_; rintro e w8 ⟨rfl, rfl⟩)
       refine ⟨⟨j + 1, (fun z => if z = y then some U.length else fj z), by go_num, by omega, ?_, HG9⟩, by simp [intOf]; omega⟩
       unfold Hid
       rw [HTk.out, ← List.append_assoc]
       exact HO.out
     ·obtain rfl : j = PL.length := by omega
      go_wp2_with fail
      refine ⟨⟨k + 1, fj, by go_num, by omega, ?_⟩, by simp [intOf]; omega⟩
      unfold Hid
      have := HJ.out
      rw [List.take_length, ← HSu.out] at this
      exact this
  ·obtain rfl : k = T.length := by omega
   go_wp2_with fail
   go_end0
   exact ⟨rfl, f, HF.out⟩
end Go.Proofs.YtoabnpdoicbpiaaGreat
