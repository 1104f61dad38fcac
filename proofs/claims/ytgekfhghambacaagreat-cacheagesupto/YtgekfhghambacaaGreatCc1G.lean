import Derived.Maps.OwnSet
import Derived.StringKeys
import Derived.Maps.OwnOps
import Derived.Maps.RangeWalk
import Derived.DeepKeys4
import Derived.Test.YtgekfhghambacaaGreatProg
import Derived.Test.YtgekfhghambacaaGreatRn0G
import Derived.Test.YtgekfhghambacaaGreatGr0G
import Derived.Test.YtgekfhghambacaaGreatWkG
/-
  Maps in memory, told by a list of what they hold. (The verifier's own text.)
-/
namespace Go.Proofs.YtgekfhghambacaaGreat
set_option linter.unusedVariables false
set_option linter.unusedSimpArgs false
open Go.RowKit Go.Maps

section
variable {α κ : Type}
/-- what a map reads as, by a list -/
structure LmD (key : α → κ) (kl : κ → Lit) (G : κ → Prop) (dv : α → DataW Unit) (D : DataW Unit) (S : List α) : Prop where
  size : Maps.size D = S.length
  back : ∀ k, Maps.has D k = true → ∃ e ∈ S, k = kl (key e)
  has : ∀ e ∈ S, Maps.has D (kl (key e)) = true ∧ ∀ z, D.atKey (kl (key e)) z = dv e
  nodup : (S.map key).Nodup
  good : ∀ e ∈ S, G (key e)
/-- a map in memory -/
def Lmap (kt : TypeId) (R : Value → Option (DataW Unit × List MemPlace)) (key : α → κ) (kl : κ → Lit) (G : κ → Prop) (dv : α → DataW Unit) (w : World) (b : Nat) (S : List α) : Prop := ∃ D n, w.ownsMap Tryz.prog kt R b n D ∧ LmD key kl G dv D S
/-- a range over it, under way: left: which keys are still to come -/
def Lrng (kt : TypeId) (R : Value → Option (DataW Unit × List MemPlace)) (key : α → κ) (kl : κ → Lit) (G : κ → Prop) (dv : α → DataW Unit) (w : World) (b r : Nat) (left : Lit → Bool) (cnt : Nat) (S : List α) : Prop := ∃ D n, w.ranges Tryz.prog kt R b r n D left cnt ∧ LmD key kl G dv D S
variable {key : α → κ} {x y : κ} {S : List α} {kl : κ → Lit} {G : κ → Prop} {dv : α → DataW Unit} {D : DataW Unit} {kt T e : TypeId} {R : Value → Option (DataW Unit × List MemPlace)} {w w' : World} {b : Nat} {r cnt : Nat} {left : Lit → Bool}
theorem LmD.nil : LmD key kl G dv (.map []) [] := ⟨rfl, fun k h => by simp [Maps.has_eq] at h, fun e h => by simp at h, List.Pairwise.nil, fun e h => by cases h⟩
theorem LmD.not (h : LmD key kl G dv D S) (hinj : ∀ x y, G x → G y → kl x = kl y → x = y) (hx : G x) (hn : ∀ e ∈ S, key e ≠ x) : Maps.has D (kl x) = false := by
  cases hc : Maps.has D (kl x) with
  | false => rfl
  | true =>
    obtain ⟨e, he, h1⟩ := h.back _ hc
    exact absurd (hinj _ _ hx (h.good e he) h1).symm (hn e he)
theorem own_tight {kt : TypeId} {R : Value → Option (DataW Unit × List MemPlace)} {w : World} {b n : Nat} (h : w.ownsMap Tryz.prog kt R b n D) : w.ownsMap Tryz.prog kt R b (Maps.size D) D := by
  obtain ⟨es, clock, hb, F, hs, rfl⟩ := h
  exact ⟨es, clock, hb, F, by simp [Maps.size, length_sorted], rfl⟩
theorem Lmap.made (w : World) : Lmap kt R key kl G dv (w.alloc (.map #[] 0)) w.heap.size [] := ⟨_, _, World.ownsMap_made w Tryz.prog kt R, LmD.nil⟩
theorem Lmap.lt (h : Lmap kt R key kl G dv w b S) : b < w.heap.size := by obtain ⟨D, n, h, _⟩ := h; exact h.lt
theorem Lmap.kept {row : Option Nat} (h : Lmap kt R key kl G dv w b S) (hg : w.grownBy w' row) (hne : some b ≠ row) : Lmap kt R key kl G dv w' b S := by
  obtain ⟨D, n, h, h'⟩ := h
  exact ⟨D, n, h.kept hg hne, h'⟩
theorem Lmap.nodup (h : Lmap kt R key kl G dv w b S) : (S.map key).Nodup := by obtain ⟨D, n, h, h'⟩ := h; exact h'.nodup
theorem Lmap.len (h : Lmap kt R key kl G dv w b S) (ht : Tryz.prog.underlying T = some (.map kt e)) (ty : TypeId) : (Builtin.len_ #[T] ty #[.map (some b)]).run Tryz.prog w = .ok (.int .i64 (S.length : Int)) w := by
  obtain ⟨D, n, hown, hf⟩ := h
  rw [hown.len ht ty, hf.size]
theorem Lrng.map (h : Lrng kt R key kl G dv w b r left cnt S) : Lmap kt R key kl G dv w b S := by
  obtain ⟨D, n, h, h'⟩ := h
  exact ⟨D, n, h.owns, h'⟩
theorem Lrng.left_eq (h : Lrng kt R key kl G dv w b r left cnt S) : w.rangeLeft b r = cnt := by obtain ⟨D, n, h, _⟩ := h; exact h.left_eq
theorem Lrng.lt (h : Lrng kt R key kl G dv w b r left cnt S) : r < w.heap.size := by obtain ⟨D, n, h, _⟩ := h; exact h.lt
theorem Lrng.kept {row : Option Nat} (h : Lrng kt R key kl G dv w b r left cnt S) (hg : w.grownBy w' row) (hb : some b ≠ row) (hr : some r ≠ row) : Lrng kt R key kl G dv w' b r left cnt S := by
  obtain ⟨D, n, h, h'⟩ := h
  exact ⟨D, n, h.kept hg hb hr, h'⟩
theorem Lmap.range (h : Lmap kt R key kl G dv w b S) (K : Keyed Tryz.prog kt) (ht : Tryz.prog.underlying T = some (.map kt e)) :
    ∃ w' left, (Instr.range T (.map (some b))).run Tryz.prog w = .ok (.pointer (some ⟨w.heap.size, 0, none⟩)) w' ∧ Lrng kt R key kl G dv w' b w.heap.size left S.length S ∧ (∀ x ∈ S, left (kl (key x)) = true) ∧ w.grownBy w' none ∧ w'.heap.size = w.heap.size + 1 := by
  obtain ⟨D, n, hown, hf⟩ := h
  obtain ⟨w', hrun, h1, h2, h3⟩ := hown.range K ht
  exact ⟨w', _, hrun, ⟨D, n, hf.size ▸ h1, hf⟩, fun x hx => (hf.has x hx).1, h2, h3⟩
/-- the step -/
theorem Lrng.next (h : Lrng kt R key kl G dv w b r left cnt S) (K : Keyed Tryz.prog kt) {mk : α → Value} {kv : α → Value} (inv : ∀ e v ps, R v = some (dv e, ps) → v = mk e) (hkey : ∀ e ∈ S, keyOf Tryz.prog kt (kv e) = some (kl (key e))) (ty : TypeId) :
    (cnt = 0 ∧ (∀ x, left x = false) ∧ (Instr.next (.pointer (some ⟨r, 0, none⟩)) false ty).run Tryz.prog w = .ok (.tuple #[.bool false]) w) ∨
    ∃ a ∈ S, ∃ w' cnt', left (kl (key a)) = true ∧ (Instr.next (.pointer (some ⟨r, 0, none⟩)) false ty).run Tryz.prog w = .ok (.tuple #[.bool true, kv a, mk a]) w' ∧
      Lrng kt R key kl G dv w' b r (fun x => left x && !x.sameKey (kl (key a))) cnt' S ∧ cnt' < cnt ∧ w.grownBy w' (some r) ∧ w'.heap.size = w.heap.size ∧ (Instr.entry (.pointer (some ⟨r, 0, none⟩))).run Tryz.prog w' = .ok (.tuple #[kv a, mk a]) w' := by
  obtain ⟨D, n, hr, hf⟩ := h
  have hr0 := hr
  rcases hr.next K ty with h0 | ⟨k, v, kl1, y, w', cnt', hk, hl, hv, hat, hrun, hr1, hlt, hg, hsz, hen⟩
  · exact .inl h0
  · have hhas : Maps.has D kl1 = true := has_true_of_atKey hat
    obtain ⟨a, ha, rfl⟩ := hf.back _ hhas
    obtain rfl := K.inj hk (hkey a ha)
    have hd := (hf.has a ha).2 (.map [])
    rw [hat] at hd
    obtain ⟨yd, yp⟩ := y
    obtain rfl : yd = dv a := hd
    obtain rfl := inv _ _ _ hv
    exact .inr ⟨a, ha, w', cnt', hl, hrun, ⟨D, n, hr1, hf⟩, hlt, hg, hsz, hen⟩
end
section
variable {α κ : Type} [DecidableEq κ]
/-- without what stands at a key -/
def outK (key : α → κ) (x : κ) (S : List α) : List α := S.filter (fun e => !decide (key e = x))
/-- what stands at a key -/
def atK (key : α → κ) (x : κ) (S : List α) : Option α := S.find? (fun e => decide (key e = x))
variable {key : α → κ} {x y : κ} {S : List α} {kl : κ → Lit} {G : κ → Prop} {dv : α → DataW Unit} {D : DataW Unit} {kt T e : TypeId} {R : Value → Option (DataW Unit × List MemPlace)} {w w' : World} {b : Nat} {r cnt : Nat} {left : Lit → Bool}
theorem mem_outK {e : α} : e ∈ outK key x S ↔ e ∈ S ∧ key e ≠ x := by simp [outK]
theorem outK_sub : (outK key x S).Sublist S := List.filter_sublist
theorem outK_none (h : ∀ e ∈ S, key e ≠ x) : outK key x S = S := List.filter_eq_self.2 fun e he => by simpa using h e he
theorem atK_some {e : α} (h : atK key x S = some e) : e ∈ S ∧ key e = x := ⟨List.mem_of_find?_eq_some h, by simpa using List.find?_some h⟩
theorem atK_none : atK key x S = none ↔ ∀ e ∈ S, key e ≠ x := by simp [atK]
theorem atK_mem (hn : (S.map key).Nodup) {e : α} (he : e ∈ S) : atK key (key e) S = some e := by
  induction S with
  | nil => cases he
  | cons a S ih =>
    rw [List.map_cons, List.nodup_cons] at hn
    unfold atK
    rw [List.find?_cons]
    by_cases h : key a = key e
    · rw [decide_eq_true h]
      rcases List.mem_cons.1 he with rfl | he
      · rfl
      · exact absurd (List.mem_map.2 ⟨e, he, h.symm⟩) hn.1
    · rw [decide_eq_false h]
      rcases List.mem_cons.1 he with rfl | he
      · exact absurd rfl h
      · exact ih hn.2 he
theorem outK_nodup (hn : (S.map key).Nodup) : ((outK key x S).map key).Nodup := hn.sublist (outK_sub.map key)
theorem outK_len (hn : (S.map key).Nodup) : (outK key x S).length + (if (atK key x S).isSome then 1 else 0) = S.length := by
  induction S with
  | nil => rfl
  | cons a S ih =>
    rw [List.map_cons, List.nodup_cons] at hn
    have ih := ih hn.2
    unfold outK atK at *
    rw [List.filter_cons, List.find?_cons]
    by_cases h : key a = x
    · have h0 : S.find? (fun e => decide (key e = x)) = none := by
        rw [List.find?_eq_none]
        intro e he h2
        exact hn.1 (List.mem_map.2 ⟨e, he, (by simpa using h2 : key e = x).trans h.symm⟩)
      rw [h0] at ih
      simp [h] at ih ⊢
      omega
    · simp [h] at ih ⊢
      omega
theorem LmD.hasK (h : LmD key kl G dv D S) (hinj : ∀ x y, G x → G y → kl x = kl y → x = y) (hx : G x) : Maps.has D (kl x) = (atK key x S).isSome := by
  cases hc : atK key x S with
  | none => exact h.not hinj hx (atK_none.1 hc)
  | some e =>
    obtain ⟨h1, rfl⟩ := atK_some hc
    exact (h.has e h1).1
theorem LmD.put (h : LmD key kl G dv D S) (T : Tidy D) (hinj : ∀ x y, G x → G y → kl x = kl y → x = y) (hk : ∀ x, WideAt.IsKeyLit (kl x)) {e : α} (hx : G (key e)) : LmD key kl G dv (D.put (kl (key e)) (dv e)) (outK key (key e) S ++ [e]) := by
  refine ⟨?_, fun k hk2 => ?_, fun e2 he2 => ?_, ?_, fun e2 he2 => ?_⟩
  · rw [size_put T, h.hasK hinj hx, List.length_append, List.length_singleton, h.size]
    have := outK_len (key := key) (x := key e) h.nodup
    cases hc : (atK key (key e) S).isSome with
    | true => rw [hc] at this; simp at this ⊢; omega
    | false => rw [hc] at this; simp at this ⊢; omega
  · by_cases e1 : k = kl (key e)
    · exact ⟨e, by simp, e1⟩
    · rw [has_put_other e1] at hk2
      obtain ⟨e3, h3, h4⟩ := h.back _ hk2
      exact ⟨e3, List.mem_append_left _ (mem_outK.2 ⟨h3, fun h5 => e1 (by rw [h4, h5])⟩), h4⟩
  · rcases List.mem_append.1 he2 with h2 | h2
    · obtain ⟨h3, h4⟩ := mem_outK.1 h2
      have hne : kl (key e2) ≠ kl (key e) := fun h5 => h4 (hinj _ _ (h.good e2 h3) hx h5)
      rw [has_put_other hne]
      exact ⟨(h.has e2 h3).1, fun z => by rw [atKey_put_other hne]; exact (h.has e2 h3).2 z⟩
    · obtain rfl : e2 = e := by simpa using h2
      exact ⟨has_put_same T.isMap (hk _) _, fun z => atKey_put_same T.isMap (hk _) _ z⟩
  · rw [List.map_append, List.nodup_append]
    refine ⟨outK_nodup h.nodup, by simp, fun a ha b hb => ?_⟩
    obtain ⟨e3, h3, rfl⟩ := List.mem_map.1 ha
    have hb : b = key e := by simpa using hb
    rw [hb]
    exact (mem_outK.1 h3).2
  · rcases List.mem_append.1 he2 with h2 | h2
    · exact h.good e2 (mem_outK.1 h2).1
    · obtain rfl : e2 = e := by simpa using h2
      exact hx
theorem LmD.del (h : LmD key kl G dv D S) (T : Tidy D) (hinj : ∀ x y, G x → G y → kl x = kl y → x = y) (hx : G x) : LmD key kl G dv (D.del (kl x)) (outK key x S) := by
  refine ⟨?_, fun k hk2 => ?_, fun e2 he2 => ?_, outK_nodup h.nodup, fun e2 he2 => h.good e2 (mem_outK.1 he2).1⟩
  · have h1 := size_del (D := D) (k := kl x) T
    rw [h.hasK hinj hx, h.size] at h1
    have := outK_len (key := key) (x := x) h.nodup
    omega
  · have hne : k ≠ kl x := fun e1 => by rw [e1, has_del_same] at hk2; cases hk2
    rw [has_del_other hne] at hk2
    obtain ⟨e3, h3, h4⟩ := h.back _ hk2
    exact ⟨e3, mem_outK.2 ⟨h3, fun h5 => hne (by rw [h4, h5])⟩, h4⟩
  · obtain ⟨h3, h4⟩ := mem_outK.1 he2
    have hne : kl (key e2) ≠ kl x := fun h5 => h4 (hinj _ _ (h.good e2 h3) hx h5)
    rw [has_del_other hne]
    exact ⟨(h.has e2 h3).1, fun z => by rw [atKey_del_other hne]; exact (h.has e2 h3).2 z⟩
/-- the element at a key, in words of values -/
theorem LmD.val (h : LmD key kl G dv D S) (hinj : ∀ x y, G x → G y → kl x = kl y → x = y) (hx : G x) {R : Value → Option (DataW Unit × List MemPlace)} {mk : α → Value} {z v : Value} {zd : DataW Unit} {ps : List MemPlace}
    (inv : ∀ e v ps, R v = some (dv e, ps) → v = mk e) (inv0 : ∀ v ps, R v = some (zd, ps) → v = z) (hv : R v = some (D.atKey (kl x) zd, ps)) : v = ((atK key x S).map mk).getD z := by
  cases hc : atK key x S with
  | none =>
    rw [atKey_of_not_has (h.not hinj hx (atK_none.1 hc))] at hv
    exact inv0 _ _ hv
  | some e =>
    obtain ⟨h1, rfl⟩ := atK_some hc
    rw [(h.has e h1).2] at hv
    exact inv _ _ _ hv
theorem Lmap.look (h : Lmap kt R key kl G dv w b S) (K : Keyed Tryz.prog kt) (ht : Tryz.prog.underlying T = some (.map kt e)) (hinj : ∀ x y, G x → G y → kl x = kl y → x = y) {mk : α → Value} {z : Value} {zd : DataW Unit} {zp : List MemPlace}
    (hz : (zeroValue e).run Tryz.prog w = .ok z w) (hzd : R z = some (zd, zp)) (inv : ∀ e v ps, R v = some (dv e, ps) → v = mk e) (inv0 : ∀ v ps, R v = some (zd, ps) → v = z) (hx : G x) {kv : Value} (hkey : keyOf Tryz.prog kt kv = some (kl x)) :
    (Instr.lookup T (.map (some b)) kv false).run Tryz.prog w = .ok (((atK key x S).map mk).getD z) w := by
  obtain ⟨D, n, hown, hf⟩ := h
  obtain ⟨v, ps, hrun, hv⟩ := hown.lookup K ht hz hzd hkey
  rw [hrun, hf.val hinj hx inv inv0 hv]
theorem Lmap.store (h : Lmap kt R key kl G dv w b S) (K : Keyed Tryz.prog kt) (ht : Tryz.prog.underlying T = some (.map kt e)) (hinj : ∀ x y, G x → G y → kl x = kl y → x = y) (hk : ∀ x, WideAt.IsKeyLit (kl x)) (hn : S.length < maxLen) {a : α} (hx : G (key a)) {kv v : Value} {ps : List MemPlace} (hkey : keyOf Tryz.prog kt kv = some (kl (key a))) (hv : R v = some (dv a, ps)) :
    ∃ w', (Instr.mapUpdate T (.map (some b)) kv v).run Tryz.prog w = .ok () w' ∧ Lmap kt R key kl G dv w' b (outK key (key a) S ++ [a]) ∧ w.grownBy w' (some b) := by
  obtain ⟨D, n, hown, hf⟩ := h
  obtain ⟨w', hrun, hown', hg⟩ := (own_tight hown).update K ht (by rw [hf.size]; exact hn) hkey hv
  exact ⟨w', hrun, ⟨_, _, hown', hf.put (hown.tidy K) hinj hk hx⟩, hg⟩
theorem Lmap.drop (h : Lmap kt R key kl G dv w b S) (K : Keyed Tryz.prog kt) (ht : Tryz.prog.underlying T = some (.map kt e)) (hinj : ∀ x y, G x → G y → kl x = kl y → x = y) (hx : G x) {kv : Value} (hkey : keyOf Tryz.prog kt kv = some (kl x)) (ty : TypeId) :
    ∃ w', (Builtin.delete_ #[T, kt] ty #[.map (some b), kv]).run Tryz.prog w = .ok (.tuple #[]) w' ∧ Lmap kt R key kl G dv w' b (outK key x S) ∧ w.grownBy w' (some b) := by
  obtain ⟨D, n, hown, hf⟩ := h
  obtain ⟨w', hrun, hown', hg⟩ := hown.drop K ht hkey ty
  exact ⟨w', hrun, ⟨_, _, hown', hf.del (hown.tidy K) hinj hx⟩, hg.grown⟩
theorem Lrng.drop (h : Lrng kt R key kl G dv w b r left cnt S) (K : Keyed Tryz.prog kt) (ht : Tryz.prog.underlying T = some (.map kt e)) (hinj : ∀ x y, G x → G y → kl x = kl y → x = y) (hx : G x) {kv : Value} (hkey : keyOf Tryz.prog kt kv = some (kl x)) (ty : TypeId) :
    ∃ w' cnt', (Builtin.delete_ #[T, kt] ty #[.map (some b), kv]).run Tryz.prog w = .ok (.tuple #[]) w' ∧ Lrng kt R key kl G dv w' b r (fun z => left z && !z.sameKey (kl x)) cnt' (outK key x S) ∧ cnt' ≤ cnt ∧ w.grownBy w' (some b) := by
  obtain ⟨D, n, hr, hf⟩ := h
  obtain ⟨w', cnt', hrun, hr', hle, hg⟩ := hr.drop K ht hkey ty
  exact ⟨w', cnt', hrun, ⟨_, _, hr', hf.del (hr.owns.tidy K) hinj hx⟩, hle, hg.grown⟩

end
end Go.Proofs.YtgekfhghambacaaGreat

/-
  Chapter 12: a cache in memory. (The verifier's own text.)
-/
namespace Go.Proofs.YtgekfhghambacaaGreat
set_option linter.unusedVariables false
set_option linter.unusedSimpArgs false
open Go.RowKit Go.Shelf Go.Maps

theorem claid : laidOutB Tryz.prog = true := by kernel_rfl
theorem ctypes : ∃ m, Tryz.prog.types.size = m + 1 := ⟨Tryz.prog.types.size - 1, by
  have : (1 : Nat) ≤ Tryz.prog.types.size := of_decide_eq_true (by kernel_rfl)
  omega⟩
theorem ccStr : Tryz.prog.cellsOf 9 = 1 := by kernel_rfl
theorem ccInt : Tryz.prog.cellsOf 3 = 1 := by kernel_rfl
theorem ccKind : Tryz.prog.cellsOf 55 = 1 := by kernel_rfl
/-! ### keys -/
/-- a key: its kind, name, number, apex -/
abbrev Ky := Int × ByteArray × Int × ByteArray
def kyV (x : Ky) : Value := .agg #[.int .i64 x.1, .string x.2.1, .int .i64 x.2.2.1, .string x.2.2.2]
def kyL (x : Ky) : Lit := .string (keyBytes [.int .i64 x.1, .string x.2.1.data.toList, .int .i64 x.2.2.1, .string x.2.2.2.data.toList])
/-- one that can be a key -/
def kyG (x : Ky) : Prop := (Lit.int .i64 x.1).wf = true ∧ x.2.1.size ≤ maxLen ∧ (Lit.int .i64 x.2.2.1).wf = true ∧ x.2.2.2.size ≤ maxLen
theorem kyRow : (57 : TypeId) < Tryz.prog.types.size := of_decide_eq_true (by kernel_rfl)
theorem kyWide : (match Tryz.prog.underlying 57 with | some (.array _ _) | some (.struct _) => true | _ => false) = true := by kernel_rfl
set_option maxRecDepth 100000 in
theorem kyKeyed : Keyed Tryz.prog 57 := Keyed.of_law (deep_law_laid claid (m := 3) (by omega) kyRow (by kernel_rfl) kyWide)
theorem kyType : Tryz.prog.keyType 57 = true := by kernel_rfl
theorem kyCells : Tryz.prog.cellsOf 57 = 4 := by kernel_rfl
theorem kyKey {x : Ky} (h : kyG x) : keyOf Tryz.prog 57 (kyV x) = some (kyL x) := by
  obtain ⟨h1, h2, h3, h4⟩ := h
  obtain ⟨m, hm⟩ := ctypes
  unfold keyOf
  rw [Tryz.underlying57, hm]
  simp [kyType, Value.formed, Tryz.underlying57, kyCells, ccStr, ccInt, ccKind, kyV, Value.cells, Program.keyLits, Tryz.underlying9, Tryz.underlying3, Tryz.underlying55, h1, h2, h3, h4, kyL]
theorem kyV_inj {x y : Ky} (h : kyV x = kyV y) : x = y := by
  obtain ⟨a, b, c, d⟩ := x
  obtain ⟨a', b', c', d'⟩ := y
  simp [kyV] at h
  obtain ⟨rfl, rfl, rfl, rfl⟩ := h
  rfl
theorem kyL_inj (x y : Ky) (hx : kyG x) (hy : kyG y) (h : kyL x = kyL y) : x = y := kyV_inj (kyKeyed.inj (kyKey hx) (h ▸ kyKey hy))
theorem isKey_ky (x : Ky) : WideAt.IsKeyLit (kyL x) := trivial
/-! ### pointers to entries -/
def peV (b : Nat) : Value := .pointer (some ⟨b, 0, none⟩)
def peD (b : Nat) : DataW Unit := .lit (.int .i64 (b : Int))
def peE (v : Value) : Option (DataW Unit × List MemPlace) := match v with
  | .pointer none => some (.lit (.int .i64 (-1)), [])
  | .pointer (some ⟨b, 0, none⟩) => some (.lit (.int .i64 (b : Int)), [])
  | _ => none
theorem peE_inv (b : Nat) (v : Value) (ps : List MemPlace) (h : peE v = some (peD b, ps)) : v = peV b := by
  unfold peE at h
  split at h
  · simp [peD] at h
    try omega
  · simp [peD] at h
    obtain ⟨h, _⟩ := h
    have h := Int.ofNat_inj.1 h
    subst h
    rfl
  · cases h
theorem peE_inv0 (v : Value) (ps : List MemPlace) (h : peE v = some (.lit (.int .i64 (-1)), ps)) : v = .pointer none := by
  unfold peE at h
  split at h
  · rfl
  · simp at h
    try omega
  · cases h
theorem peZero (w : World) : (zeroValue 54).run Tryz.prog w = .ok (.pointer none) w := by
  have hz : Tryz.t54.zero = some (.pointer none) := by kernel_rfl
  simp [zeroValue, hz]
/-! ### entries -/
structure Ce where
  key : Ky
  fin : Int
  came : Int
  age : Int
  rank : Int
  recs : List Rn
  p : Option Addr
  c : Nat
  blk : Nat
def ceA (e : Ce) : Array Value := #[.int .i64 e.key.1, .string e.key.2.1, .int .i64 e.key.2.2.1, .string e.key.2.2.2, .int .i64 e.fin, .int .i64 e.came, .int .i64 e.age, .int .i64 e.rank, .slice e.p e.recs.length e.c]
/-- the map of entries -/
abbrev Emap (w : World) (M : Nat) (S : List Ce) : Prop := Lmap 57 peE Ce.key kyL kyG (fun e => peD e.blk) w M S
abbrev Erng (w : World) (M r : Nat) (left : Lit → Bool) (cnt : Nat) (S : List Ce) : Prop := Lrng 57 peE Ce.key kyL kyG (fun e => peD e.blk) w M r left cnt S
/-- the pointer at a key -/
def peAt (x : Ky) (S : List Ce) : Value := ((atK Ce.key x S).map fun e => peV e.blk).getD (.pointer none)
theorem Emap.look {w : World} {M : Nat} {S : List Ce} (h : Emap w M S) {x : Ky} (hx : kyG x) : (Instr.lookup 47 (.map (some M)) (kyV x) false).run Tryz.prog w = .ok (peAt x S) w :=
  Lmap.look (mk := fun e => peV e.blk) h kyKeyed Tryz.underlying47 kyL_inj (peZero w) (zp := []) rfl (fun e => peE_inv e.blk) peE_inv0 hx (kyKey hx)
theorem Emap.drop {w : World} {M : Nat} {S : List Ce} (h : Emap w M S) {x : Ky} (hx : kyG x) (ty : TypeId) : ∃ w', (Builtin.delete_ #[47, 57] ty #[.map (some M), kyV x]).run Tryz.prog w = .ok (.tuple #[]) w' ∧ Emap w' M (outK Ce.key x S) ∧ w.grownBy w' (some M) :=
  Lmap.drop h kyKeyed Tryz.underlying47 kyL_inj hx (kyKey hx) ty
theorem Emap.store {w : World} {M : Nat} {S : List Ce} (h : Emap w M S) (e : Ce) (hx : kyG e.key) (hn : S.length < maxLen) : ∃ w', (Instr.mapUpdate 47 (.map (some M)) (kyV e.key) (peV e.blk)).run Tryz.prog w = .ok () w' ∧ Emap w' M (outK Ce.key e.key S ++ [e]) ∧ w.grownBy w' (some M) :=
  Lmap.store h kyKeyed Tryz.underlying47 kyL_inj isKey_ky hn hx (kyKey hx) (ps := []) rfl
theorem Erng.next {w : World} {M r cnt : Nat} {left : Lit → Bool} {S : List Ce} (h : Erng w M r left cnt S) (ty : TypeId) :
    (cnt = 0 ∧ (∀ x, left x = false) ∧ (Instr.next (.pointer (some ⟨r, 0, none⟩)) false ty).run Tryz.prog w = .ok (.tuple #[.bool false]) w) ∨
    ∃ a ∈ S, ∃ w' cnt', left (kyL a.key) = true ∧ (Instr.next (.pointer (some ⟨r, 0, none⟩)) false ty).run Tryz.prog w = .ok (.tuple #[.bool true, kyV a.key, peV a.blk]) w' ∧
      Erng w' M r (fun x => left x && !x.sameKey (kyL a.key)) cnt' S ∧ cnt' < cnt ∧ w.grownBy w' (some r) ∧ w'.heap.size = w.heap.size ∧ (Instr.entry (.pointer (some ⟨r, 0, none⟩))).run Tryz.prog w' = .ok (.tuple #[kyV a.key, peV a.blk]) w' := by
  have hg : ∀ e ∈ S, kyG e.key := by obtain ⟨D, n, h1, h2⟩ := h; exact h2.good
  exact Lrng.next (mk := fun e => peV e.blk) (kv := fun e => kyV e.key) h kyKeyed (fun e => peE_inv e.blk) (fun e he => kyKey (hg e he)) ty
theorem Erng.drop {w : World} {M r cnt : Nat} {left : Lit → Bool} {S : List Ce} (h : Erng w M r left cnt S) {x : Ky} (hx : kyG x) (ty : TypeId) :
    ∃ w' cnt', (Builtin.delete_ #[47, 57] ty #[.map (some M), kyV x]).run Tryz.prog w = .ok (.tuple #[]) w' ∧ Erng w' M r (fun z => left z && !z.sameKey (kyL x)) cnt' (outK Ce.key x S) ∧ cnt' ≤ cnt ∧ w.grownBy w' (some M) :=
  Lrng.drop h kyKeyed Tryz.underlying47 kyL_inj hx (kyKey hx) ty
/-! ### the proofs of an apex -/
structure Qe where
  a : ByteArray
  g : Nat
  n : Nat
  c : Nat
def caL (s : ByteArray) : Lit := .string s.data.toList
def caG (s : ByteArray) : Prop := s.size ≤ maxLen
theorem caL_inj (x y : ByteArray) (hx : caG x) (hy : caG y) (h : caL x = caL y) : x = y := by
  simp only [caL, Lit.string.injEq] at h
  obtain ⟨⟨l⟩⟩ := x
  obtain ⟨⟨k⟩⟩ := y
  simp only at h
  rw [h]
theorem isKey_ca (x : ByteArray) : WideAt.IsKeyLit (caL x) := trivial
theorem caKeyed : Keyed Tryz.prog 9 := string_keyed Tryz.underlying9
theorem caKey {s : ByteArray} (h : caG s) : keyOf Tryz.prog 9 (.string s) = some (caL s) := Go.WideMaps.keyOf_string_mk Tryz.underlying9 h
def slD (g : Int) (n c : Nat) : DataW Unit := .agg [.lit (.int .i64 g), .lit (.int .i64 (n : Int)), .lit (.int .i64 (c : Int))]
def qeV (q : Qe) : Value := .slice (some ⟨q.g, 0, none⟩) q.n q.c
def qeD (q : Qe) : DataW Unit := slD (q.g : Int) q.n q.c
def slE (v : Value) : Option (DataW Unit × List MemPlace) := match v with
  | .slice none n c => some (slD (-1) n c, [])
  | .slice (some ⟨b, 0, none⟩) n c => some (slD (b : Int) n c, [])
  | _ => none
theorem slE_inv (q : Qe) (v : Value) (ps : List MemPlace) (h : slE v = some (qeD q, ps)) : v = qeV q := by
  unfold slE at h
  split at h
  · simp [qeD, slD] at h
    try omega
  · simp [qeD, slD] at h
    obtain ⟨⟨h1, h2, h3⟩, _⟩ := h
    have h1 := Int.ofNat_inj.1 h1
    have h2 := Int.ofNat_inj.1 h2
    have h3 := Int.ofNat_inj.1 h3
    subst h1 h2 h3
    rfl
  · cases h
theorem slE_inv0 (v : Value) (ps : List MemPlace) (h : slE v = some (slD (-1) 0 0, ps)) : v = .slice none 0 0 := by
  unfold slE at h
  split at h
  · simp [slD] at h
    obtain ⟨⟨h2, h3⟩, _⟩ := h
    subst h2 h3
    rfl
  · simp [slD] at h
    try omega
  · cases h
theorem slZero (w : World) : (zeroValue 89).run Tryz.prog w = .ok (.slice none 0 0) w := by
  have hz : Tryz.t89.zero = some (.slice none 0 0) := by kernel_rfl
  simp [zeroValue, hz]
/-- the map of proofs -/
abbrev Pmap (w : World) (P : Nat) (Q : List Qe) : Prop := Lmap 9 slE Qe.a caL caG qeD w P Q
/-- the slice at an apex -/
def slAt (x : ByteArray) (Q : List Qe) : Value := ((atK Qe.a x Q).map qeV).getD (.slice none 0 0)
theorem Pmap.look {w : World} {P : Nat} {Q : List Qe} (h : Pmap w P Q) {x : ByteArray} (hx : caG x) : (Instr.lookup 48 (.map (some P)) (.string x) false).run Tryz.prog w = .ok (slAt x Q) w :=
  Lmap.look (mk := qeV) h caKeyed Tryz.underlying48 caL_inj (slZero w) (zp := []) rfl slE_inv slE_inv0 hx (caKey hx)
theorem Pmap.drop {w : World} {P : Nat} {Q : List Qe} (h : Pmap w P Q) {x : ByteArray} (hx : caG x) (ty : TypeId) : ∃ w', (Builtin.delete_ #[48, 9] ty #[.map (some P), .string x]).run Tryz.prog w = .ok (.tuple #[]) w' ∧ Pmap w' P (outK Qe.a x Q) ∧ w.grownBy w' (some P) :=
  Lmap.drop h caKeyed Tryz.underlying48 caL_inj hx (caKey hx) ty
theorem Pmap.store {w : World} {P : Nat} {Q : List Qe} (h : Pmap w P Q) (q : Qe) (hx : caG q.a) (hn : Q.length < maxLen) : ∃ w', (Instr.mapUpdate 48 (.map (some P)) (.string q.a) (qeV q)).run Tryz.prog w = .ok () w' ∧ Pmap w' P (outK Qe.a q.a Q ++ [q]) ∧ w.grownBy w' (some P) :=
  Lmap.store h caKeyed Tryz.underlying48 caL_inj isKey_ca hn hx (caKey hx) (ps := []) rfl
/-! ### what turns -/
/-- blocks of these kinds turn, from base on -/
structure Fk (K : Nat → Obj → Prop) (base : Nat) (w w' : World) : Prop where
  os : w'.os = w.os
  tape : w'.tape = w.tape
  output : w'.output = w.output
  size : w.heap.size ≤ w'.heap.size
  low : ∀ k : Nat, k < base → k < w.heap.size → w'.heap[k]? = w.heap[k]?
  far : ∀ (k : Nat) (o : Obj), w.heap[k]? = some o → ¬ K k o → w'.heap[k]? = some o
section
variable {K K' : Nat → Obj → Prop} {base : Nat} {w w' : World}
theorem Fk.refl (K : Nat → Obj → Prop) (base : Nat) (w : World) : Fk K base w w := ⟨rfl, rfl, rfl, Nat.le_refl _, fun _ _ _ => rfl, fun _ _ h _ => h⟩
theorem Fk.trans {a b c : World} (h : Fk K base a b) (k : Fk K base b c) : Fk K base a c :=
  ⟨k.os.trans h.os, k.tape.trans h.tape, k.output.trans h.output, Nat.le_trans h.size k.size, fun j hj hl => (k.low j hj (Nat.lt_of_lt_of_le hl h.size)).trans (h.low j hj hl), fun j o hj ho => k.far j o (h.far j o hj ho) ho⟩
theorem Fk.idle (h : w.grownBy w' none) : Fk K base w w' :=
  ⟨h.os, h.tape, h.output, h.size, fun k _ hk => h.block k hk (by simp), fun k o ho _ => (h.block k (Array.getElem?_eq_some_iff.1 ho).1 (by simp)).trans ho⟩
theorem Fk.of (h : Below w.heap.size w w') : Fk K base w w' := Fk.idle (grown_below h none)
theorem Fk.one {r : Nat} {o : Obj} (h : w.grownBy w' (some r)) (hr : w.heap[r]? = some o) (ho : K r o) (hb : base ≤ r) : Fk K base w w' :=
  ⟨h.os, h.tape, h.output, h.size, fun k hk hl => h.block k hl (fun e => by cases e; omega), fun k o' ho' hn => (h.block k (Array.getElem?_eq_some_iff.1 ho').1 (fun e => by
    cases e
    rw [hr] at ho'
    cases ho'
    exact hn ho)).trans ho'⟩
theorem Fk.below (h : Fk K base w w') (hb : base ≤ w.heap.size) : Below base w w' :=
  ⟨h.os, h.tape, h.output, h.size, fun k hk => h.low k hk (by omega)⟩
theorem Fk.wide (h : Fk K base w w') (hk : ∀ k o, K k o → K' k o) : Fk K' base w w' := ⟨h.os, h.tape, h.output, h.size, h.low, fun k o ho hn => h.far k o ho (fun hx => hn (hk k o hx))⟩
theorem Bx.fk {R : Nat} {cs : Array Value} {T : TypeId} (h : Bx w R cs T) (hf : Fk K base w w') (hk : ¬ K R (.cells cs T (0, 0))) : Bx w' R cs T := hf.far R _ h hk
end
/-- the kinds that forget turns: maps, rows of pointers -/
def FK (M P k : Nat) (o : Obj) : Prop := match o with
  | .map _ _ => k = M ∨ k = P
  | .cells _ T _ => T = 54
  | _ => False
/-- .. and the cache itself -/
def FC (M P k : Nat) (o : Obj) : Prop := match o with
  | .map _ _ => k = M ∨ k = P
  | .cells _ T _ => T = 54 ∨ T = 50
  | _ => False
theorem fk_fc {M P : Nat} (k : Nat) (o : Obj) (h : FK M P k o) : FC M P k o := by
  cases o with
  | cells cs T f => exact .inl h
  | map es c => exact h
  | _ => exact h.elim
/-- records that nothing turns -/
def RsT (w : World) (p : Option Addr) (L : List Rn) : Prop := RsAt w p L ∧ ∀ a, p = some a → ∃ cur T f, w.heap[a.block]? = some (.cells cur T f) ∧ T ≠ 54 ∧ T ≠ 50 ∧ T ≠ 63 ∧ T = 36
theorem RsT.fk {base M P : Nat} {w w' : World} {p : Option Addr} {L : List Rn} (h : RsT w p L) (hf : Fk (FC M P) base w w') : RsT w' p L := by
  have hb : ∀ a, p = some a → w'.heap[a.block]? = w.heap[a.block]? := fun a ha => by
    obtain ⟨cur, T, f, h1, h2, h3⟩ := h.2 a ha
    rw [hf.far _ _ h1 (fun k => k.elim h2 h3.1), h1]
  refine ⟨fun k hk => ?_, fun a ha => ?_⟩
  · obtain ⟨g, off, hp, hg, e0, e1, e2, e3, e4⟩ := h.1 k hk
    have hb := hb _ hp
    simp only at hb
    have hc : ∀ j, w'.cell? ⟨g, j, none⟩ = w.cell? ⟨g, j, none⟩ := fun j => by simp only [World.cell?, hb]
    exact ⟨g, off, hp, Nat.lt_of_lt_of_le hg hf.size, (hc _).trans e0, (hc _).trans e1, (hc _).trans e2, (hc _).trans e3, (hc _).trans e4⟩
  · rw [hb a ha]
    exact h.2 a ha
end Go.Proofs.YtgekfhghambacaaGreat
