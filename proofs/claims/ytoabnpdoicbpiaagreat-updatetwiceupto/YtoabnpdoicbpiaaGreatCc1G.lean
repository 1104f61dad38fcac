import Derived.Maps.OwnSet
import Derived.StringKeys
import Derived.Maps.OwnOps
import Derived.Maps.RangeWalk
import Derived.DeepKeys4
import Derived.Test.YtoabnpdoicbpiaaGreatProg
import Derived.Test.YtoabnpdoicbpiaaGreatMf0G
import Derived.Test.YtoabnpdoicbpiaaGreatRn0G
import Derived.Test.YtoabnpdoicbpiaaGreatGr0G
import Derived.Maps.Keyed
namespace Go.Proofs.YtoabnpdoicbpiaaGreat
set_option linter.unusedVariables false
set_option linter.unusedSimpArgs false
open Go.RowKit Go.Maps
section
variable {α κ : Type}
structure LmD (key : α → κ) (kl : κ → Lit) (G : κ → Prop) (dv : α → DataW Unit) (D : DataW Unit) (S : List α) : Prop where
 size : Maps.size D = S.length
 back : ∀ k, Maps.has D k = true → ∃ e ∈ S, k = kl (key e)
 has : ∀ e ∈ S, Maps.has D (kl (key e)) = true ∧ ∀ z, D.atKey (kl (key e)) z = dv e
 nodup : (S.map key).Nodup
 good : ∀ e ∈ S, G (key e)
def Lmap (kt : TypeId) (R : Value → Option (DataW Unit × List MemPlace)) (key : α → κ) (kl : κ → Lit) (G : κ → Prop) (dv : α → DataW Unit) (w : World) (b : Nat) (S : List α) : Prop := ∃ D n, w.ownsMap Tryz.prog kt R b n D ∧ LmD key kl G dv D S
def Lrng (kt : TypeId) (R : Value → Option (DataW Unit × List MemPlace)) (key : α → κ) (kl : κ → Lit) (G : κ → Prop) (dv : α → DataW Unit) (w : World) (b r : Nat) (left : Lit → Bool) (cnt : Nat) (S : List α) : Prop := ∃ D n, w.ranges Tryz.prog kt R b r n D left cnt ∧ LmD key kl G dv D S
variable {key : α → κ} {x y : κ} {S : List α} {kl : κ → Lit} {G : κ → Prop} {dv : α → DataW Unit} {D : DataW Unit} {kt T e : TypeId} {R : Value → Option (DataW Unit × List MemPlace)} {w w' : World} {b : Nat} {r cnt : Nat} {left : Lit → Bool}
theorem LmD.nil : LmD key kl G dv (.map []) [] := ⟨rfl, fun k h => by simp [Maps.has_eq] at h, fun e h => by simp at h, List.Pairwise.nil, fun e h => by cases h⟩
theorem LmD.not (h : LmD key kl G dv D S) (hinj : ∀ x y, G x → G y → kl x = kl y → x = y) (hx : G x) (hn : ∀ e ∈ S, key e ≠ x) : Maps.has D (kl x) = false := by
 cases hc : Maps.has D (kl x) with
 | false => rfl
 | true =>
  obtain ⟨e, he, h1⟩ := h.back _ hc
  exact absurd (hinj _ _ hx (h.good e he) h1).symm (hn e he)
theorem LmD.perm {S' : List α} (h : LmD key kl G dv D S) (hp : S.Perm S') : LmD key kl G dv D S' :=
 ⟨h.size.trans hp.length_eq, fun k hk => by obtain ⟨e, he, h2⟩ := h.back k hk; exact ⟨e, hp.mem_iff.1 he, h2⟩, fun e he => h.has e (hp.mem_iff.2 he), (hp.map key).nodup_iff.1 h.nodup, fun e he => h.good e (hp.mem_iff.2 he)⟩
theorem own_tight {kt : TypeId} {R : Value → Option (DataW Unit × List MemPlace)} {w : World} {b n : Nat} (h : w.ownsMap Tryz.prog kt R b n D) : w.ownsMap Tryz.prog kt R b (Maps.size D) D := by
 obtain ⟨es, clock, hb, F, hs, rfl⟩ := h
 exact ⟨es, clock, hb, F, by simp [Maps.size, length_sorted], rfl⟩
theorem Lmap.made (w : World) : Lmap kt R key kl G dv (w.alloc (.map #[] 0)) w.heap.size [] := ⟨_, _, World.ownsMap_made w Tryz.prog kt R, LmD.nil⟩
theorem Lmap.lt (h : Lmap kt R key kl G dv w b S) : b < w.heap.size := by obtain ⟨D, n, h, _⟩ := h; exact h.lt
theorem Lmap.kept {row : Option Nat} (h : Lmap kt R key kl G dv w b S) (hg : w.grownBy w' row) (hne : some b ≠ row) : Lmap kt R key kl G dv w' b S := by
 obtain ⟨D, n, h, h'⟩ := h
 exact ⟨D, n, h.kept hg hne, h'⟩
theorem Lmap.perm {S' : List α} (h : Lmap kt R key kl G dv w b S) (hp : S.Perm S') : Lmap kt R key kl G dv w b S' := by
 obtain ⟨D, n, h, h'⟩ := h
 exact ⟨D, n, h, h'.perm hp⟩
theorem Lmap.nodup (h : Lmap kt R key kl G dv w b S) : (S.map key).Nodup := by obtain ⟨D, n, h, h'⟩ := h; exact h'.nodup
theorem Lmap.len (h : Lmap kt R key kl G dv w b S) (ht : Tryz.prog.underlying T = some (.map kt e)) (ty : TypeId) : (Builtin.len_ #[T] ty #[.map (some b)]).run Tryz.prog w = .ok (.int .i64 (S.length : Int)) w := by
 obtain ⟨D, n, hown, hf⟩ := h
 rw [hown.len ht ty, hf.size]
theorem Lrng.map (h : Lrng kt R key kl G dv w b r left cnt S) : Lmap kt R key kl G dv w b S := by
 obtain ⟨D, n, h, h'⟩ := h
 exact ⟨D, n, h.owns, h'⟩
theorem Lrng.left_eq (h : Lrng kt R key kl G dv w b r left cnt S) : w.rangeLeft b r = cnt := by obtain ⟨D, n, h, _⟩ := h; exact h.left_eq
theorem Lrng.lt (h : Lrng kt R key kl G dv w b r left cnt S) : r < w.heap.size := by obtain ⟨D, n, h, _⟩ := h; exact h.lt
theorem Lrng.kept {row : Option Nat} (h : Lrng kt R key kl G dv w b r left cnt S) (hg : w.grownBy w' row) (hb : some b ≠ row) (hr : some r ≠ row) : Lrng kt R key kl G dv w' b r left cnt S := by
 obtain ⟨D, n, h, h'⟩ := h
 exact ⟨D, n, h.kept hg hb hr, h'⟩
theorem Lmap.range (h : Lmap kt R key kl G dv w b S) (K : Keyed Tryz.prog kt) (ht : Tryz.prog.underlying T = some (.map kt e)) :
  ∃ w' left, (Instr.range T (.map (some b))).run Tryz.prog w = .ok (.pointer (some ⟨w.heap.size, 0, none⟩)) w' ∧ Lrng kt R key kl G dv w' b w.heap.size left S.length S ∧ (∀ x ∈ S, left (kl (key x)) = true) ∧ w.grownBy w' none ∧ w'.heap.size = w.heap.size + 1 := by
 obtain ⟨D, n, hown, hf⟩ := h
 obtain ⟨w', hrun, h1, h2, h3⟩ := hown.range K ht
 exact ⟨w', _, hrun, ⟨D, n, hf.size ▸ h1, hf⟩, fun x hx => (hf.has x hx).1, h2, h3⟩
theorem Lrng.next (h : Lrng kt R key kl G dv w b r left cnt S) (K : Keyed Tryz.prog kt) {mk : α → Value} {kv : α → Value} (inv : ∀ e v ps, R v = some (dv e, ps) → v = mk e) (hkey : ∀ e ∈ S, keyOf Tryz.prog kt (kv e) = some (kl (key e))) (ty : TypeId) :
  (cnt = 0 ∧ (∀ x, left x = false) ∧ (Instr.next (.pointer (some ⟨r, 0, none⟩)) false ty).run Tryz.prog w = .ok (.tuple #[.bool false]) w) ∨
  ∃ a ∈ S, ∃ w' cnt', left (kl (key a)) = true ∧ (Instr.next (.pointer (some ⟨r, 0, none⟩)) false ty).run Tryz.prog w = .ok (.tuple #[.bool true, kv a, mk a]) w' ∧
   Lrng kt R key kl G dv w' b r (fun x => left x && !x.sameKey (kl (key a))) cnt' S ∧ cnt' < cnt ∧ w.grownBy w' (some r) ∧ w'.heap.size = w.heap.size ∧ (Instr.entry (.pointer (some ⟨r, 0, none⟩))).run Tryz.prog w' = .ok (.tuple #[kv a, mk a]) w' := by
 obtain ⟨D, n, hr, hf⟩ := h
 have hr0 := hr
 rcases hr.next K ty with h0 | ⟨k, v, kl1, y, w', cnt', hk, hl, hv, hat, hrun, hr1, hlt, hg, hsz, hen⟩
 ·exact .inl h0
 ·have hhas : Maps.has D kl1 = true := has_true_of_atKey hat
  obtain ⟨a, ha, rfl⟩ := hf.back _ hhas
  obtain rfl := K.inj hk (hkey a ha)
  have hd := (hf.has a ha).2 (.map [])
  rw [hat] at hd
  obtain ⟨yd, yp⟩ := y
  obtain rfl : yd = dv a := hd
  obtain rfl := inv _ _ _ hv
  exact .inr ⟨a, ha, w', cnt', hl, hrun, ⟨D, n, hr1, hf⟩, hlt, hg, hsz, hen⟩
end
section
variable {α κ : Type} [DecidableEq κ]
def outK (key : α → κ) (x : κ) (S : List α) : List α := S.filter (fun e => !decide (key e = x))
def atK (key : α → κ) (x : κ) (S : List α) : Option α := S.find? (fun e => decide (key e = x))
variable {key : α → κ} {x y : κ} {S : List α} {kl : κ → Lit} {G : κ → Prop} {dv : α → DataW Unit} {D : DataW Unit} {kt T e : TypeId} {R : Value → Option (DataW Unit × List MemPlace)} {w w' : World} {b : Nat} {r cnt : Nat} {left : Lit → Bool}
theorem mem_outK {e : α} : e ∈ outK key x S ↔ e ∈ S ∧ key e ≠ x := by simp [outK]
theorem outK_sub : (outK key x S).Sublist S := List.filter_sublist
theorem outK_none (h : ∀ e ∈ S, key e ≠ x) : outK key x S = S := List.filter_eq_self.2 fun e he => by simpa using h e he
theorem atK_some {e : α} (h : atK key x S = some e) : e ∈ S ∧ key e = x := ⟨List.mem_of_find?_eq_some h, by simpa using List.find?_some h⟩
theorem atK_none : atK key x S = none ↔ ∀ e ∈ S, key e ≠ x := by simp [atK]
theorem atK_mem (hn : (S.map key).Nodup) {e : α} (he : e ∈ S) : atK key (key e) S = some e := by
 induction S with
 | nil => cases he
 | cons a S ih =>
  rw [List.map_cons, List.nodup_cons] at hn
  unfold atK
  rw [List.find?_cons]
  by_cases h : key a = key e
  ·rw [decide_eq_true h]
   rcases List.mem_cons.1 he with rfl | he
   ·rfl
   ·exact absurd (List.mem_map.2 ⟨e, he, h.symm⟩) hn.1
  ·rw [decide_eq_false h]
   rcases List.mem_cons.1 he with rfl | he
   ·exact absurd rfl h
   ·exact ih hn.2 he
theorem outK_nodup (hn : (S.map key).Nodup) : ((outK key x S).map key).Nodup := hn.sublist (outK_sub.map key)
theorem outK_len (hn : (S.map key).Nodup) : (outK key x S).length + (if (atK key x S).isSome then 1 else 0) = S.length := by
 induction S with
 | nil => rfl
 | cons a S ih =>
  rw [List.map_cons, List.nodup_cons] at hn
  have ih := ih hn.2
  unfold outK atK at *
  rw [List.filter_cons, List.find?_cons]
  by_cases h : key a = x
  ·have h0 : S.find? (fun e => decide (key e = x)) = none := by
    rw [List.find?_eq_none]
    intro e he h2
    exact hn.1 (List.mem_map.2 ⟨e, he, (by simpa using h2 : key e = x).trans h.symm⟩)
   rw [h0] at ih
   simp [h] at ih ⊢
   omega
  ·simp [h] at ih ⊢
   omega
theorem LmD.hasK (h : LmD key kl G dv D S) (hinj : ∀ x y, G x → G y → kl x = kl y → x = y) (hx : G x) : Maps.has D (kl x) = (atK key x S).isSome := by
 cases hc : atK key x S with
 | none => exact h.not hinj hx (atK_none.1 hc)
 | some e =>
  obtain ⟨h1, rfl⟩ := atK_some hc
  exact (h.has e h1).1
theorem LmD.put (h : LmD key kl G dv D S) (T : Tidy D) (hinj : ∀ x y, G x → G y → kl x = kl y → x = y) (hk : ∀ x, WideAt.IsKeyLit (kl x)) {e : α} (hx : G (key e)) : LmD key kl G dv (D.put (kl (key e)) (dv e)) (outK key (key e) S ++ [e]) := by
 refine ⟨?_, fun k hk2 => ?_, fun e2 he2 => ?_, ?_, fun e2 he2 => ?_⟩
 ·rw [size_put T, h.hasK hinj hx, List.length_append, List.length_singleton, h.size]
  have := outK_len (key := key) (x := key e) h.nodup
  cases hc : (atK key (key e) S).isSome with
  | true => rw [hc] at this; simp at this ⊢; omega
  | false => rw [hc] at this; simp at this ⊢; omega
 ·by_cases e1 : k = kl (key e)
  ·exact ⟨e, by simp, e1⟩
  ·rw [has_put_other e1] at hk2
   obtain ⟨e3, h3, h4⟩ := h.back _ hk2
   exact ⟨e3, List.mem_append_left _ (mem_outK.2 ⟨h3, fun h5 => e1 (by rw [h4, h5])⟩), h4⟩
 ·rcases List.mem_append.1 he2 with h2 | h2
  ·obtain ⟨h3, h4⟩ := mem_outK.1 h2
   have hne : kl (key e2) ≠ kl (key e) := fun h5 => h4 (hinj _ _ (h.good e2 h3) hx h5)
   rw [has_put_other hne]
   exact ⟨(h.has e2 h3).1, fun z => by rw [atKey_put_other hne]; exact (h.has e2 h3).2 z⟩
  ·obtain rfl : e2 = e := by simpa using h2
   exact ⟨has_put_same T.isMap (hk _) _, fun z => atKey_put_same T.isMap (hk _) _ z⟩
 ·rw [List.map_append, List.nodup_append]
  refine ⟨outK_nodup h.nodup, by simp, fun a ha b hb => ?_⟩
  obtain ⟨e3, h3, rfl⟩ := List.mem_map.1 ha
  have hb : b = key e := by simpa using hb
  rw [hb]
  exact (mem_outK.1 h3).2
 ·rcases List.mem_append.1 he2 with h2 | h2
  ·exact h.good e2 (mem_outK.1 h2).1
  ·obtain rfl : e2 = e := by simpa using h2
   exact hx
theorem LmD.del (h : LmD key kl G dv D S) (T : Tidy D) (hinj : ∀ x y, G x → G y → kl x = kl y → x = y) (hx : G x) : LmD key kl G dv (D.del (kl x)) (outK key x S) := by
 refine ⟨?_, fun k hk2 => ?_, fun e2 he2 => ?_, outK_nodup h.nodup, fun e2 he2 => h.good e2 (mem_outK.1 he2).1⟩
 ·have h1 := size_del (D := D) (k := kl x) T
  rw [h.hasK hinj hx, h.size] at h1
  have := outK_len (key := key) (x := x) h.nodup
  omega
 ·have hne : k ≠ kl x := fun e1 => by rw [e1, has_del_same] at hk2; cases hk2
  rw [has_del_other hne] at hk2
  obtain ⟨e3, h3, h4⟩ := h.back _ hk2
  exact ⟨e3, mem_outK.2 ⟨h3, fun h5 => hne (by rw [h4, h5])⟩, h4⟩
 ·obtain ⟨h3, h4⟩ := mem_outK.1 he2
  have hne : kl (key e2) ≠ kl x := fun h5 => h4 (hinj _ _ (h.good e2 h3) hx h5)
  rw [has_del_other hne]
  exact ⟨(h.has e2 h3).1, fun z => by rw [atKey_del_other hne]; exact (h.has e2 h3).2 z⟩
theorem LmD.val (h : LmD key kl G dv D S) (hinj : ∀ x y, G x → G y → kl x = kl y → x = y) (hx : G x) {R : Value → Option (DataW Unit × List MemPlace)} {mk : α → Value} {z v : Value} {zd : DataW Unit} {ps : List MemPlace}
  (inv : ∀ e v ps, R v = some (dv e, ps) → v = mk e) (inv0 : ∀ v ps, R v = some (zd, ps) → v = z) (hv : R v = some (D.atKey (kl x) zd, ps)) : v = ((atK key x S).map mk).getD z := by
 cases hc : atK key x S with
 | none =>
  rw [atKey_of_not_has (h.not hinj hx (atK_none.1 hc))] at hv
  exact inv0 _ _ hv
 | some e =>
  obtain ⟨h1, rfl⟩ := atK_some hc
  rw [(h.has e h1).2] at hv
  exact inv _ _ _ hv
theorem Lmap.look (h : Lmap kt R key kl G dv w b S) (K : Keyed Tryz.prog kt) (ht : Tryz.prog.underlying T = some (.map kt e)) (hinj : ∀ x y, G x → G y → kl x = kl y → x = y) {mk : α → Value} {z : Value} {zd : DataW Unit} {zp : List MemPlace}
  (hz : (zeroValue e).run Tryz.prog w = .ok z w) (hzd : R z = some (zd, zp)) (inv : ∀ e v ps, R v = some (dv e, ps) → v = mk e) (inv0 : ∀ v ps, R v = some (zd, ps) → v = z) (hx : G x) {kv : Value} (hkey : keyOf Tryz.prog kt kv = some (kl x)) :
  (Instr.lookup T (.map (some b)) kv false).run Tryz.prog w = .ok (((atK key x S).map mk).getD z) w := by
 obtain ⟨D, n, hown, hf⟩ := h
 obtain ⟨v, ps, hrun, hv⟩ := hown.lookup K ht hz hzd hkey
 rw [hrun, hf.val hinj hx inv inv0 hv]
theorem Lmap.store (h : Lmap kt R key kl G dv w b S) (K : Keyed Tryz.prog kt) (ht : Tryz.prog.underlying T = some (.map kt e)) (hinj : ∀ x y, G x → G y → kl x = kl y → x = y) (hk : ∀ x, WideAt.IsKeyLit (kl x)) (hn : S.length < maxLen) {a : α} (hx : G (key a)) {kv v : Value} {ps : List MemPlace} (hkey : keyOf Tryz.prog kt kv = some (kl (key a))) (hv : R v = some (dv a, ps)) :
  ∃ w', (Instr.mapUpdate T (.map (some b)) kv v).run Tryz.prog w = .ok () w' ∧ Lmap kt R key kl G dv w' b (outK key (key a) S ++ [a]) ∧ w.grownBy w' (some b) := by
 obtain ⟨D, n, hown, hf⟩ := h
 obtain ⟨w', hrun, hown', hg⟩ := (own_tight hown).update K ht (by rw [hf.size]; exact hn) hkey hv
 exact ⟨w', hrun, ⟨_, _, hown', hf.put (hown.tidy K) hinj hk hx⟩, hg⟩
theorem Lmap.drop (h : Lmap kt R key kl G dv w b S) (K : Keyed Tryz.prog kt) (ht : Tryz.prog.underlying T = some (.map kt e)) (hinj : ∀ x y, G x → G y → kl x = kl y → x = y) (hx : G x) {kv : Value} (hkey : keyOf Tryz.prog kt kv = some (kl x)) (ty : TypeId) :
  ∃ w', (Builtin.delete_ #[T, kt] ty #[.map (some b), kv]).run Tryz.prog w = .ok (.tuple #[]) w' ∧ Lmap kt R key kl G dv w' b (outK key x S) ∧ w.grownBy w' (some b) := by
 obtain ⟨D, n, hown, hf⟩ := h
 obtain ⟨w', hrun, hown', hg⟩ := hown.drop K ht hkey ty
 exact ⟨w', hrun, ⟨_, _, hown', hf.del (hown.tidy K) hinj hx⟩, hg.grown⟩
theorem Lrng.drop (h : Lrng kt R key kl G dv w b r left cnt S) (K : Keyed Tryz.prog kt) (ht : Tryz.prog.underlying T = some (.map kt e)) (hinj : ∀ x y, G x → G y → kl x = kl y → x = y) (hx : G x) {kv : Value} (hkey : keyOf Tryz.prog kt kv = some (kl x)) (ty : TypeId) :
  ∃ w' cnt', (Builtin.delete_ #[T, kt] ty #[.map (some b), kv]).run Tryz.prog w = .ok (.tuple #[]) w' ∧ Lrng kt R key kl G dv w' b r (fun z => left z && !z.sameKey (kl x)) cnt' (outK key x S) ∧ cnt' ≤ cnt ∧ w.grownBy w' (some b) := by
 obtain ⟨D, n, hr, hf⟩ := h
 obtain ⟨w', cnt', hrun, hr', hle, hg⟩ := hr.drop K ht hkey ty
 exact ⟨w', cnt', hrun, ⟨_, _, hr', hf.del (hr.owns.tidy K) hinj hx⟩, hle, hg.grown⟩
end
end Go.Proofs.YtoabnpdoicbpiaaGreat
namespace Go.Proofs.YtoabnpdoicbpiaaGreat
set_option linter.unusedVariables false
set_option linter.unusedSimpArgs false
open Go.RowKit Go.Shelf Go.Maps Go.Proofs.YtoabnpdoicbpiaaGreat.Nm
def plS (s : Se) : ByteArray × Int := (s.1, s.2.1)
def putU (E : List Rn) (r : Rn) : List Rn := outK senS (senS r) E ++ [r]
def lastP (E : List Rn) (p : ByteArray × Int) : Option Rn := E.reverse.find? (fun e => decide (plS (senS e) = p))
def lastS (E : List Rn) (s : Se) : Option Rn := E.reverse.find? (fun e => decide (senS e = s))
def ageU (E : List Rn) (p : ByteArray × Int) : Option Int := (lastP E p).map Rn.l
def aliasU (E : List Rn) (o : ByteArray) : Bool := E.any (fun e => decide (plS (senS e) = (o, 5)))
def besB (t : Int) : Bool := decide (t = 46) || decide (t = 47)
def effU (f : ByteArray → Bool) (r : Rn) : Bool := besB r.t || !f (foldB r.o)
def addU (E : List Rn) (r : Rn) : List Rn := if effU (aliasU E) r = true then putU E r else E
def recU (E : List Rn) (r : Rn) : Rn := if r.t = 46 then r else { r with l := (ageU E (plS (senS r))).getD r.l }
def listU (E : List Rn) : List Rn := E.map (recU E)
theorem recU_sen (E : List Rn) (r : Rn) : senS (recU E r) = senS r := by unfold recU; split <;> rfl
theorem recU_t (E : List Rn) (r : Rn) : (recU E r).t = r.t := by unfold recU; split <;> rfl
theorem lastS_snoc (E : List Rn) (r : Rn) (s : Se) : lastS (E ++ [r]) s = if senS r = s then some r else lastS E s := by
 unfold lastS
 rw [List.reverse_append, List.reverse_singleton, List.singleton_append, List.find?_cons]
 split <;> simp_all
theorem lastP_snoc (E : List Rn) (r : Rn) (p : ByteArray × Int) : lastP (E ++ [r]) p = if plS (senS r) = p then some r else lastP E p := by
 unfold lastP
 rw [List.reverse_append, List.reverse_singleton, List.singleton_append, List.find?_cons]
 split <;> simp_all
theorem find_filter {α : Type} (p q : α → Bool) (h : ∀ a, p a = true → q a = true) : ∀ l : List α, (l.filter q).find? p = l.find? p
 | [] => rfl
 | a :: l => by
  rw [List.filter_cons]
  by_cases hq : q a = true
  ·rw [if_pos hq, List.find?_cons, List.find?_cons, find_filter p q h l]
  ·rw [if_neg hq, List.find?_cons, find_filter p q h l]
   cases hp : p a with
   | false => rfl
   | true => exact absurd (h a hp) hq
theorem lastS_put (E : List Rn) (r : Rn) (s : Se) : lastS (putU E r) s = if senS r = s then some r else lastS E s := by
 unfold putU
 rw [lastS_snoc]
 split
 ·rfl
 ·rename_i h
  unfold lastS outK
  rw [← List.filter_reverse]
  exact find_filter _ _ (fun a ha => by
         have := of_decide_eq_true ha
         rw [this]
         simp
         exact fun e => h e.symm) _
theorem lastP_put (E : List Rn) (r : Rn) (p : ByteArray × Int) : lastP (putU E r) p = if plS (senS r) = p then some r else lastP E p := by
 unfold putU
 rw [lastP_snoc]
 split
 ·rfl
 ·rename_i h
  unfold lastP outK
  rw [← List.filter_reverse]
  exact find_filter _ _ (fun a ha => by
         have := of_decide_eq_true ha
         simp
         exact fun e => h (by rw [← e]; exact this)) _
theorem alias_put {E : List Rn} {r : Rn} (h : r.t ≠ 5) (o : ByteArray) : aliasU (putU E r) o = aliasU E o := by
 have hr : plS (senS r) ≠ (o, 5) := fun e => h (by injection e)
 unfold aliasU putU
 rw [List.any_append]
 have h1 : ([r].any fun e => decide (plS (senS e) = (o, 5))) = false := by simp [hr]
 rw [h1, Bool.or_false]
 unfold outK
 rw [List.any_filter]
 congr 1
 funext e
 by_cases he : plS (senS e) = (o, 5)
 ·have : senS e ≠ senS r := fun q => hr (by rw [← q]; exact he)
  simp [this]
 ·simp [he]
theorem add_eq {f : ByteArray → Bool} : ∀ (ls : List Rn) (E : List Rn), (∀ r ∈ ls, r.t ≠ 5) → (∀ o, aliasU E o = f o) → ls.foldl addU E = (ls.filter (effU f)).foldl putU E ∧ ∀ o, aliasU (ls.foldl addU E) o = f o
 | [], E, _, hf => ⟨rfl, hf⟩
 | r :: ls, E, h, hf => by
  have hr := h r List.mem_cons_self
  have e : effU (aliasU E) r = effU f r := by unfold effU; rw [hf]
  rw [List.foldl_cons, List.filter_cons]
  unfold addU
  rw [e]
  by_cases hq : effU f r = true
  ·rw [if_pos hq, if_pos hq, List.foldl_cons]
   exact add_eq ls (putU E r) (fun x hx => h x (List.mem_cons_of_mem _ hx)) (fun o => by rw [alias_put hr]; exact hf o)
  ·rw [if_neg hq, if_neg hq]
   exact add_eq ls E (fun x hx => h x (List.mem_cons_of_mem _ hx)) hf
theorem fold_lastS (s : Se) : ∀ (ls E : List Rn), lastS (ls.foldl putU E) s = (lastS ls s).or (lastS E s)
 | [], E => rfl
 | r :: ls, E => by
  rw [List.foldl_cons, fold_lastS s ls, lastS_put]
  have : lastS (r :: ls) s = (lastS ls s).or (if senS r = s then some r else none) := by
   unfold lastS
   rw [List.reverse_cons, List.find?_append]
   congr 1
   rw [List.find?_cons]
   split <;> simp_all
  rw [this]
  split <;> cases lastS ls s <;> simp
theorem fold_lastP (p : ByteArray × Int) : ∀ (ls E : List Rn), lastP (ls.foldl putU E) p = (lastP ls p).or (lastP E p)
 | [], E => rfl
 | r :: ls, E => by
  rw [List.foldl_cons, fold_lastP p ls, lastP_put]
  have : lastP (r :: ls) p = (lastP ls p).or (if plS (senS r) = p then some r else none) := by
   unfold lastP
   rw [List.reverse_cons, List.find?_append]
   congr 1
   rw [List.find?_cons]
   split <;> simp_all
  rw [this]
  split <;> cases lastP ls p <;> simp
theorem put_nodup {E : List Rn} {r : Rn} (h : (E.map senS).Nodup) : ((putU E r).map senS).Nodup := by
 unfold putU
 rw [List.map_append, List.map_singleton]
 refine List.nodup_append.2 ⟨outK_nodup h, by simp, fun a ha b hb => ?_⟩
 rw [List.mem_singleton.1 hb]
 obtain ⟨e, he, rfl⟩ := List.mem_map.1 ha
 exact (mem_outK.1 he).2
theorem fold_nodup : ∀ (ls E : List Rn), (E.map senS).Nodup → ((ls.foldl putU E).map senS).Nodup
 | [], _, h => h
 | r :: ls, E, h => fold_nodup ls _ (put_nodup h)
theorem lastS_iff {E : List Rn} (hn : (E.map senS).Nodup) {s : Se} {r : Rn} : lastS E s = some r ↔ r ∈ E ∧ senS r = s := by
 constructor
 ·intro h
  exact ⟨List.mem_reverse.1 (List.mem_of_find?_eq_some h), of_decide_eq_true (List.find?_some (p := fun e => decide (senS e = s)) h)⟩
 ·rintro ⟨h1, rfl⟩
  have hn2 : (E.reverse.map senS).Nodup := by rw [List.map_reverse]; exact (List.reverse_perm _).nodup_iff.2 hn
  exact atK_mem hn2 (List.mem_reverse.2 h1)
theorem lastP_mem {E : List Rn} {p : ByteArray × Int} {r : Rn} (h : lastP E p = some r) : r ∈ E ∧ plS (senS r) = p := ⟨List.mem_reverse.1 (List.mem_of_find?_eq_some h), of_decide_eq_true (List.find?_some (p := fun e => decide (plS (senS e) = p)) h)⟩
theorem lastP_has {E : List Rn} {r : Rn} (h : r ∈ E) : ∃ x, lastP E (plS (senS r)) = some x := by
 cases hx : lastP E (plS (senS r)) with
 | some x => exact ⟨x, rfl⟩
 | none => exact absurd (List.find?_eq_none.1 hx r (List.mem_reverse.2 h)) (by simp)
theorem age_list {E E' : List Rn} (hp : E'.Perm (listU E)) {p : ByteArray × Int} (h46 : p.2 ≠ 46) : ageU E' p = ageU E p := by
 unfold ageU
 cases h : lastP E' p with
 | none =>
  cases h2 : lastP E p with
  | none => rfl
  | some r =>
   obtain ⟨h3, h4⟩ := lastP_mem h2
   have h5 : recU E r ∈ E' := hp.mem_iff.2 (List.mem_map.2 ⟨r, h3, rfl⟩)
   obtain ⟨x, hx⟩ := lastP_has h5
   rw [recU_sen, h4, h] at hx
   cases hx
 | some y =>
  obtain ⟨h3, h4⟩ := lastP_mem h
  obtain ⟨r, h5, rfl⟩ := List.mem_map.1 (hp.mem_iff.1 h3)
  rw [recU_sen] at h4
  obtain ⟨x, hx⟩ := lastP_has h5
  rw [h4] at hx
  have ht : r.t ≠ 46 := fun e => h46 (by rw [← h4]; exact e)
  rw [hx]
  simp only [Option.map_some]
  unfold recU
  rw [if_neg ht, h4]
  unfold ageU
  rw [hx]
  rfl
theorem listU_sen (E : List Rn) : (listU E).map senS = E.map senS := by
 unfold listU
 rw [List.map_map]
 exact List.map_congr_left (fun r _ => recU_sen E r)
theorem nodup_of_sen {E : List Rn} (h : (E.map senS).Nodup) : E.Nodup := List.Pairwise.of_map senS (fun a b q e => q (congrArg senS e)) h
theorem add_twice {E0 E' ls : List Rn} (hn : (E0.map senS).Nodup) (hls : ∀ r ∈ ls, r.t ≠ 5) (hp : E'.Perm (listU (ls.foldl addU E0))) : (listU (ls.foldl addU E')).Perm E' := by
 obtain ⟨e1, a1⟩ := add_eq (f := aliasU E0) ls E0 hls (fun _ => rfl)
 have al : ∀ o, aliasU E' o = aliasU E0 o := fun o => by
  rw [← a1 o]
  unfold aliasU
  rw [Bool.eq_iff_iff, List.any_eq_true, List.any_eq_true]
  constructor
  ·rintro ⟨x, hx, h⟩
   obtain ⟨r, hr, rfl⟩ := List.mem_map.1 (hp.mem_iff.1 hx)
   rw [recU_sen] at h
   exact ⟨r, hr, h⟩
  ·rintro ⟨r, hr, h⟩
   exact ⟨_, hp.mem_iff.2 (List.mem_map.2 ⟨r, hr, rfl⟩), by rw [recU_sen]; exact h⟩
 obtain ⟨e2, _⟩ := add_eq (f := aliasU E0) ls E' hls al
 rw [e2]
 rw [e1] at hp
 obtain ⟨ks, hks⟩ : ∃ ks, ls.filter (effU (aliasU E0)) = ks := ⟨_, rfl⟩
 rw [hks] at hp ⊢
 obtain ⟨E1, hE1⟩ : ∃ E1, ks.foldl putU E0 = E1 := ⟨_, rfl⟩
 rw [hE1] at hp
 have n1 : (E1.map senS).Nodup := hE1 ▸ fold_nodup ks E0 hn
 have n2 : (E'.map senS).Nodup := by
  rw [(hp.map senS).nodup_iff, listU_sen]
  exact n1
 obtain ⟨E2, hE2⟩ : ∃ E2, ks.foldl putU E' = E2 := ⟨_, rfl⟩
 have n3 : (E2.map senS).Nodup := hE2 ▸ fold_nodup ks E' n2
 rw [hE2]
 have l1 : ∀ s, lastS E1 s = (lastS ks s).or (lastS E0 s) := fun s => hE1 ▸ fold_lastS s ks E0
 have l2 : ∀ s, lastS E2 s = (lastS ks s).or (lastS E' s) := fun s => hE2 ▸ fold_lastS s ks E'
 have p1 : ∀ p, ageU E1 p = (ageU ks p).or (ageU E0 p) := fun p => by
  unfold ageU
  rw [← hE1, fold_lastP]
  cases lastP ks p <;> rfl
 have p2 : ∀ p, ageU E2 p = (ageU ks p).or (ageU E' p) := fun p => by
  unfold ageU
  rw [← hE2, fold_lastP]
  cases lastP ks p <;> rfl
 have p3 : ∀ p : ByteArray × Int, p.2 ≠ 46 → ageU E2 p = ageU E1 p := fun p h46 => by
  rw [p2, age_list hp h46, p1]
  cases ageU ks p <;> rfl
 have key : ∀ s, (lastS E2 s).map (recU E2) = (lastS E1 s).map (recU E1) := fun s => by
  have same : ∀ r, recU E2 r = recU E1 r := fun r => by
   unfold recU
   split
   ·rfl
   ·rename_i h
    rw [p3 _ h]
  rw [l1, l2]
  cases hk : lastS ks s with
  | some r => simp [same]
  | none =>
   simp only [Option.none_or]
   have l0 : lastS E1 s = lastS E0 s := by rw [l1, hk, Option.none_or]
   cases h0 : lastS E0 s with
   | none =>
    cases h' : lastS E' s with
    | none => rfl
    | some x =>
     obtain ⟨q1, q2⟩ := (lastS_iff n2).1 h'
     obtain ⟨r, hr, rfl⟩ := List.mem_map.1 (hp.mem_iff.1 q1)
     rw [recU_sen] at q2
     rw [(lastS_iff n1).2 ⟨hr, q2⟩, h0] at l0
     cases l0
   | some r =>
    rw [h0] at l0
    obtain ⟨q1, q2⟩ := (lastS_iff n1).1 l0
    have q3 : lastS E' s = some (recU E1 r) := (lastS_iff n2).2 ⟨hp.mem_iff.2 (List.mem_map.2 ⟨r, q1, rfl⟩), by rw [recU_sen]; exact q2⟩
    rw [q3]
    simp only [Option.map_some]
    rw [same]
    congr 1
    have hs := recU_sen E1 r
    by_cases h46 : r.t = 46
    ·have e : recU E1 r = r := by unfold recU; rw [if_pos h46]
     rw [e, e]
    ·have e : recU E1 r = { r with l := (ageU E1 (plS (senS r))).getD r.l } := by unfold recU; rw [if_neg h46]
     obtain ⟨x, hx⟩ := lastP_has q1
     have hx2 : ageU E1 (plS (senS r)) = some x.l := by unfold ageU; rw [hx]; rfl
     obtain ⟨z, hz⟩ : ∃ z, recU E1 r = z := ⟨_, rfl⟩
     have hzt : z.t = r.t := hz ▸ recU_t E1 r
     have ez : z = { r with l := x.l } := by rw [← hz, e, hx2]; rfl
     rw [hz] at hs ⊢
     unfold recU
     rw [if_neg (by rw [hzt]; exact h46), hs, hx2, ez]
     rfl
 have n4 : (listU E2).Nodup := nodup_of_sen (by rw [listU_sen]; exact n3)
 have n5 : E'.Nodup := nodup_of_sen n2
 refine (List.perm_ext_iff_of_nodup n4 n5).2 (fun x => ?_)
 rw [hp.mem_iff]
 constructor
 ·intro hx
  obtain ⟨r, hr, rfl⟩ := List.mem_map.1 hx
  have h := key (senS r)
  rw [(lastS_iff n3).2 ⟨hr, rfl⟩] at h
  obtain ⟨y, hy, h⟩ := Option.map_eq_some_iff.1 h.symm
  rw [← h]
  exact List.mem_map.2 ⟨y, ((lastS_iff n1).1 hy).1, rfl⟩
 ·intro hx
  obtain ⟨r, hr, rfl⟩ := List.mem_map.1 hx
  have h := key (senS r)
  rw [(lastS_iff n1).2 ⟨hr, rfl⟩] at h
  obtain ⟨y, hy, h⟩ := Option.map_eq_some_iff.1 h
  rw [← h]
  exact List.mem_map.2 ⟨y, ((lastS_iff n3).1 hy).1, rfl⟩
end Go.Proofs.YtoabnpdoicbpiaaGreat
namespace Go.Proofs.YtoabnpdoicbpiaaGreat
set_option linter.unusedVariables false
set_option linter.unusedSimpArgs false
open Go.RowKit Go.Shelf Go.Maps Go.Proofs.YtoabnpdoicbpiaaGreat.Nm
def usL (s : ByteArray) : Lit := .string s.data.toList
def usG (s : ByteArray) : Prop := s.size ≤ maxLen
theorem data_inj {x y : ByteArray} (h : x.data.toList = y.data.toList) : x = y := by
 obtain ⟨⟨l⟩⟩ := x
 obtain ⟨⟨k⟩⟩ := y
 simp only at h
 rw [h]
theorem usL_inj (x y : ByteArray) (hx : usG x) (hy : usG y) (h : usL x = usL y) : x = y := by
 simp only [usL, Lit.string.injEq] at h
 exact data_inj h
theorem isKey_us (x : ByteArray) : WideAt.IsKeyLit (usL x) := trivial
theorem usKeyed : Keyed Tryz.prog 9 := string_keyed Tryz.underlying9
theorem usKey {s : ByteArray} (h : usG s) : keyOf Tryz.prog 9 (.string s) = some (usL s) := Go.WideMaps.keyOf_string_mk Tryz.underlying9 h
def uiL (t : Int) : Lit := .int .i64 t
def uiG (t : Int) : Prop := (Lit.int .i64 t).wf = true
theorem uiL_inj (x y : Int) (hx : uiG x) (hy : uiG y) (h : uiL x = uiL y) : x = y := by
 simp only [uiL] at h
 injection h
theorem isKey_ui (x : Int) : WideAt.IsKeyLit (uiL x) := trivial
theorem uiKeyed : Keyed Tryz.prog 3 := int_keyed Tryz.underlying3
theorem uiKey {t : Int} (h : uiG t) : keyOf Tryz.prog 3 (.int .i64 t) = some (uiL t) := keyOf_int_mk Tryz.underlying3 h
def umD (b : Nat) : DataW Unit := .lit (.int .i64 (b : Int))
def umE (v : Value) : Option (DataW Unit × List MemPlace) := match v with
 | .map none => some (.lit (.int .i64 (-1)), [])
 | .map (some b) => some (.lit (.int .i64 (b : Int)), [])
 | _ => none
theorem umE_inv (b : Nat) (v : Value) (ps : List MemPlace) (h : umE v = some (umD b, ps)) : v = .map (some b) := by
 unfold umE at h
 split at h
 ·simp [umD] at h
  try omega
 ·simp [umD] at h
  obtain ⟨h, _⟩ := h
  have h := Int.ofNat_inj.1 h
  subst h
  rfl
 ·cases h
theorem umE_inv0 (v : Value) (ps : List MemPlace) (h : umE v = some (.lit (.int .i64 (-1)), ps)) : v = .map none := by
 unfold umE at h
 split at h
 ·rfl
 ·simp at h
  try omega
 ·cases h
def upV (b : Nat) : Value := .pointer (some ⟨b, 0, none⟩)
def upE (v : Value) : Option (DataW Unit × List MemPlace) := match v with
 | .pointer none => some (.lit (.int .i64 (-1)), [])
 | .pointer (some ⟨b, 0, none⟩) => some (.lit (.int .i64 (b : Int)), [])
 | _ => none
theorem upE_inv (b : Nat) (v : Value) (ps : List MemPlace) (h : upE v = some (umD b, ps)) : v = upV b := by
 unfold upE at h
 split at h
 ·simp [umD] at h
  try omega
 ·simp [umD] at h
  obtain ⟨h, _⟩ := h
  have h := Int.ofNat_inj.1 h
  subst h
  rfl
 ·cases h
theorem upE_inv0 (v : Value) (ps : List MemPlace) (h : upE v = some (.lit (.int .i64 (-1)), ps)) : v = .pointer none := by
 unfold upE at h
 split at h
 ·rfl
 ·simp at h
  try omega
 ·cases h
def urV (r : Rn) : Value := .agg #[.string r.o, .int .i64 r.t, .int .i64 r.c, .int .i64 r.l, .string r.d]
def urD (r : Rn) : DataW Unit := .agg [.lit (.string r.o.data.toList), .lit (.int .i64 r.t), .lit (.int .i64 r.c), .lit (.int .i64 r.l), .lit (.string r.d.data.toList)]
theorem urV_inj {x y : Rn} (h : urV x = urV y) : x = y := by
 obtain ⟨a, b, c, d, e⟩ := x
 obtain ⟨a', b', c', d', e'⟩ := y
 simp [urV] at h
 obtain ⟨rfl, rfl, rfl, rfl, rfl⟩ := h
 rfl
theorem urD_inj {x y : Rn} (h : urD x = urD y) : x = y := by
 obtain ⟨a, b, c, d, e⟩ := x
 obtain ⟨a', b', c', d', e'⟩ := y
 unfold urD at h
 injection h with h
 injection h with h1 h
 injection h with h2 h
 injection h with h3 h
 injection h with h4 h
 injection h with h5 h
 injection h1 with h1
 injection h1 with h1
 injection h2 with h2
 injection h2 with _ h2
 injection h3 with h3
 injection h3 with _ h3
 injection h4 with h4
 injection h4 with _ h4
 injection h5 with h5
 injection h5 with h5
 simp only at h1 h2 h3 h4 h5
 rw [data_inj h1, h2, h3, h4, data_inj h5]
def urOf (v : Value) : Option Rn := match v with
 | .agg cs => match cs.toList with
  | [.string o, .int .i64 t, .int .i64 c, .int .i64 l, .string d] => some ⟨o, t, c, l, d⟩
  | _ => none
 | _ => none
theorem urOf_inv {v : Value} {r : Rn} (h : urOf v = some r) : v = urV r := by
 unfold urOf at h
 split at h
 ·rename_i cs
  split at h
  ·rename_i o t c l d hc
   injection h with h
   subst h
   have : cs = #[.string o, .int .i64 t, .int .i64 c, .int .i64 l, .string d] := by
    apply Array.toList_inj.1
    rw [hc]
   rw [this]
   rfl
  ·cases h
 ·cases h
def urE (v : Value) : Option (DataW Unit × List MemPlace) := (urOf v).map fun r => (urD r, [])
theorem urE_mk (r : Rn) : urE (urV r) = some (urD r, []) := rfl
theorem urE_inv (r : Rn) (v : Value) (ps : List MemPlace) (h : urE v = some (urD r, ps)) : v = urV r := by
 unfold urE at h
 obtain ⟨x, hx, h2⟩ := Option.map_eq_some_iff.1 h
 injection h2 with h2 _
 rw [← urD_inj h2]
 exact urOf_inv hx
structure Ust where
 t : Int
 b : Nat
 m : Nat
 age : Int
 R : List Rn
structure Uo where
 o : ByteArray
 b : Nat
 T : List Ust
def rkS (r : Rn) : ByteArray := foldD r.t r.d
abbrev Omap (w : World) (M : Nat) (O : List Uo) : Prop := Lmap 9 umE Uo.o usL usG (fun u => umD u.b) w M O
abbrev Tmap (w : World) (b : Nat) (T : List Ust) : Prop := Lmap 3 upE Ust.t uiL uiG (fun s => umD s.b) w b T
abbrev Rmap (w : World) (m : Nat) (R : List Rn) : Prop := Lmap 9 urE rkS usL usG urD w m R
theorem umZero (w : World) : (zeroValue 107).run Tryz.prog w = .ok (.map none) w := by
 have hz : Tryz.t107.zero = some (.map none) := by kernel_rfl
 simp [zeroValue, hz]
theorem upZero (w : World) : (zeroValue 108).run Tryz.prog w = .ok (.pointer none) w := by
 have hz : Tryz.t108.zero = some (.pointer none) := by kernel_rfl
 simp [zeroValue, hz]
def umAt (o : ByteArray) (O : List Uo) : Value := ((atK Uo.o o O).map fun u => Value.map (some u.b)).getD (.map none)
def upAt (t : Int) (T : List Ust) : Value := ((atK Ust.t t T).map fun s => upV s.b).getD (.pointer none)
theorem Omap.look {w : World} {M : Nat} {O : List Uo} (h : Omap w M O) {o : ByteArray} (hx : usG o) : (Instr.lookup 70 (.map (some M)) (.string o) false).run Tryz.prog w = .ok (umAt o O) w :=
 Lmap.look (mk := fun u => Value.map (some u.b)) h usKeyed Tryz.underlying70 usL_inj (umZero w) (zp := []) rfl (fun e => umE_inv e.b) umE_inv0 hx (usKey hx)
theorem Omap.store {w : World} {M : Nat} {O : List Uo} (h : Omap w M O) (u : Uo) (hx : usG u.o) (hn : O.length < maxLen) : ∃ w', (Instr.mapUpdate 70 (.map (some M)) (.string u.o) (.map (some u.b))).run Tryz.prog w = .ok () w' ∧ Omap w' M (outK Uo.o u.o O ++ [u]) ∧ w.grownBy w' (some M) :=
 Lmap.store h usKeyed Tryz.underlying70 usL_inj isKey_us hn hx (usKey hx) (ps := []) rfl
theorem Tmap.look {w : World} {b : Nat} {T : List Ust} (h : Tmap w b T) {t : Int} (hx : uiG t) : (Instr.lookup 107 (.map (some b)) (.int .i64 t) false).run Tryz.prog w = .ok (upAt t T) w :=
 Lmap.look (mk := fun s => upV s.b) h uiKeyed Tryz.underlying107 uiL_inj (upZero w) (zp := []) rfl (fun e => upE_inv e.b) upE_inv0 hx (uiKey hx)
theorem Tmap.store {w : World} {b : Nat} {T : List Ust} (h : Tmap w b T) (s : Ust) (hx : uiG s.t) (hn : T.length < maxLen) : ∃ w', (Instr.mapUpdate 107 (.map (some b)) (.int .i64 s.t) (upV s.b)).run Tryz.prog w = .ok () w' ∧ Tmap w' b (outK Ust.t s.t T ++ [s]) ∧ w.grownBy w' (some b) :=
 Lmap.store h uiKeyed Tryz.underlying107 uiL_inj isKey_ui hn hx (uiKey hx) (ps := []) rfl
theorem Rmap.store {w : World} {m : Nat} {R : List Rn} (h : Rmap w m R) (r : Rn) (hx : usG (rkS r)) (hn : R.length < maxLen) : ∃ w', (Instr.mapUpdate 109 (.map (some m)) (.string (rkS r)) (urV r)).run Tryz.prog w = .ok () w' ∧ Rmap w' m (outK rkS (rkS r) R ++ [r]) ∧ w.grownBy w' (some m) :=
 Lmap.store h usKeyed Tryz.underlying109 usL_inj isKey_us hn hx (usKey hx) (ps := []) (urE_mk r)
theorem Lmap.turned {α κ : Type} {key : α → κ} {kl : κ → Lit} {G : κ → Prop} {dv : α → DataW Unit} {kt : TypeId} {R : Value → Option (DataW Unit × List MemPlace)} {w : World} {b : Nat} {S : List α} (h : Lmap kt R key kl G dv w b S) (f : α → α) (hk : ∀ e ∈ S, key (f e) = key e) (hd : ∀ e ∈ S, dv (f e) = dv e) : Lmap kt R key kl G dv w b (S.map f) := by
 obtain ⟨D, n, hown, hf⟩ := h
 have e : (S.map f).map key = S.map key := by
  rw [List.map_map]
  exact List.map_congr_left (fun x hx => hk x hx)
 refine ⟨D, n, hown, ⟨by rw [hf.size, List.length_map], fun k hk2 => ?_, fun x hx => ?_, by rw [e]; exact hf.nodup, fun x hx => ?_⟩⟩
 ·obtain ⟨x, hx, h2⟩ := hf.back k hk2
  exact ⟨f x, List.mem_map.2 ⟨x, hx, rfl⟩, by rw [hk x hx]; exact h2⟩
 ·obtain ⟨y, hy, rfl⟩ := List.mem_map.1 hx
  rw [hk y hy, hd y hy]
  exact hf.has y hy
 ·obtain ⟨y, hy, rfl⟩ := List.mem_map.1 hx
  rw [hk y hy]
  exact hf.good y hy
def duC (apex : ByteArray) (s : Rn) (M : Nat) : Array Value := #[.string apex, .string s.o, .int .i64 s.t, .int .i64 s.c, .int .i64 s.l, .string s.d, .map (some M)]
structure Sep (M : Nat) (O : List Uo) : Prop where
 mu : ∀ u ∈ O, u.b ≠ M
 ms : ∀ u ∈ O, ∀ s ∈ u.T, s.m ≠ M
 us : ∀ u ∈ O, ∀ v ∈ O, ∀ s ∈ v.T, u.b ≠ s.m
 uu : ∀ u ∈ O, ∀ v ∈ O, u.b = v.b → u = v
 ss : ∀ u ∈ O, ∀ s ∈ u.T, ∀ v ∈ O, ∀ s' ∈ v.T, s.m = s'.m → u = v ∧ s = s'
 bb : ∀ u ∈ O, ∀ s ∈ u.T, ∀ v ∈ O, ∀ s' ∈ v.T, s.b = s'.b → u = v ∧ s = s'
structure Dra (w : World) (base D M : Nat) (apex : ByteArray) (soa : Rn) (O : List Uo) : Prop where
 bx : Bx w D (duC apex soa M) 72
 om : Omap w M O
 tm : ∀ u ∈ O, Tmap w u.b u.T
 sb : ∀ u ∈ O, ∀ s ∈ u.T, Bx w s.b #[.int .i64 s.age, .map (some s.m)] 111
 rm : ∀ u ∈ O, ∀ s ∈ u.T, Rmap w s.m s.R
 sep : Sep M O
 d0 : base ≤ D
 m0 : base ≤ M
 ml : ∀ u ∈ O, base ≤ u.b ∧ ∀ s ∈ u.T, base ≤ s.b ∧ base ≤ s.m
structure Flu (O : List Uo) (E : List Rn) : Prop where
 sen : (E.map senS).Nodup
 on : (O.map Uo.o).Nodup
 tn : ∀ u ∈ O, (u.T.map Ust.t).Nodup
 rs : ∀ u ∈ O, ∀ s ∈ u.T, s.R.Perm (E.filter fun e => decide (plS (senS e) = (u.o, s.t))) ∧ s.R ≠ [] ∧ ageU E (u.o, s.t) = some s.age
 all : ∀ e ∈ E, ∃ u ∈ O, u.o = foldB e.o ∧ ∃ s ∈ u.T, s.t = e.t
theorem Flu.nil : Flu [] [] := ⟨by simp, by simp, (fun u h => by cases h), (fun u h => by cases h), (fun e h => by cases h)⟩
end Go.Proofs.YtoabnpdoicbpiaaGreat
namespace Go.Proofs.YtoabnpdoicbpiaaGreat
set_option linter.unusedVariables false
set_option linter.unusedSimpArgs false
open Go.RowKit Go.Shelf Go.Maps Go.Proofs.YtoabnpdoicbpiaaGreat.Nm
def modO (o : ByteArray) (f : List Ust → List Ust) (O : List Uo) : List Uo := O.map fun u => if u.o = o then { u with T := f u.T } else u
def modT (t : Int) (g : Ust → Ust) (T : List Ust) : List Ust := T.map fun s => if s.t = t then g s else s
theorem mem_modO {o : ByteArray} {f : List Ust → List Ust} {O : List Uo} {x : Uo} (h : x ∈ modO o f O) : ∃ u ∈ O, x.o = u.o ∧ x.b = u.b ∧ ((u.o = o ∧ x.T = f u.T) ∨ (u.o ≠ o ∧ x = u)) := by
 obtain ⟨u, hu, rfl⟩ := List.mem_map.1 h
 refine ⟨u, hu, ?_⟩
 split
 ·rename_i e
  exact ⟨rfl, rfl, .inl ⟨e, rfl⟩⟩
 ·rename_i e
  exact ⟨rfl, rfl, .inr ⟨e, rfl⟩⟩
theorem mem_modT {t : Int} {g : Ust → Ust} {T : List Ust} {x : Ust} (h : x ∈ modT t g T) : ∃ s ∈ T, (s.t = t ∧ x = g s) ∨ (s.t ≠ t ∧ x = s) := by
 obtain ⟨s, hs, rfl⟩ := List.mem_map.1 h
 refine ⟨s, hs, ?_⟩
 split
 ·rename_i e
  exact .inl ⟨e, rfl⟩
 ·rename_i e
  exact .inr ⟨e, rfl⟩
theorem map_block {kt : TypeId} {R : Value → Option (DataW Unit × List MemPlace)} {α κ : Type} {key : α → κ} {kl : κ → Lit} {G : κ → Prop} {dv : α → DataW Unit} {w : World} {b r : Nat} {S : List α} {cs : Array Value} {T : TypeId} (h : Lmap kt R key kl G dv w b S) (hb : Bx w r cs T) : b ≠ r := fun e => by
 obtain ⟨D, n, ⟨es, clock, hc, _⟩, _⟩ := h
 unfold Bx at hb
 rw [← e, hc] at hb
 cases hb
section
variable {w w' : World} {base D M : Nat} {apex : ByteArray} {soa : Rn} {O : List Uo}
theorem Dra.one (h : Dra w base D M apex soa O) {u v : Uo} (hu : u ∈ O) (hv : v ∈ O) (e : u.o = v.o) : u = v := by
 have hn := h.om.nodup
 have h1 := atK_mem hn hu
 have h2 := atK_mem hn hv
 rw [e] at h1
 exact Option.some.inj (h1.symm.trans h2)
theorem Dra.oneT (h : Dra w base D M apex soa O) {u : Uo} (hu : u ∈ O) {s s' : Ust} (hs : s ∈ u.T) (hs' : s' ∈ u.T) (e : s.t = s'.t) : s = s' := by
 have hn := (h.tm u hu).nodup
 have h1 := atK_mem hn hs
 have h2 := atK_mem hn hs'
 rw [e] at h1
 exact Option.some.inj (h1.symm.trans h2)
theorem Sep.turn (h : Sep M O) (o : ByteArray) (t : Int) (g : Ust → Ust) (hb : ∀ s, (g s).b = s.b) (hm : ∀ s, (g s).m = s.m) : Sep M (modO o (modT t g) O) := by
 have key : ∀ x ∈ modO o (modT t g) O, ∃ u ∈ O, x.b = u.b ∧ x = (if u.o = o then { u with T := modT t g u.T } else u) ∧ ∀ s' ∈ x.T, ∃ s ∈ u.T, s'.b = s.b ∧ s'.m = s.m ∧ s' = (if u.o = o then (if s.t = t then g s else s) else s) := fun x hx => by
  obtain ⟨u, hu, rfl⟩ := List.mem_map.1 hx
  refine ⟨u, hu, by split <;> rfl, rfl, fun s' hs' => ?_⟩
  by_cases e : u.o = o
  ·rw [if_pos e] at hs'
   obtain ⟨s, hs, rfl⟩ := List.mem_map.1 hs'
   refine ⟨s, hs, ?_, ?_, by rw [if_pos e]⟩
   ·split
    ·exact hb s
    ·rfl
   ·split
    ·exact hm s
    ·rfl
  ·rw [if_neg e] at hs'
   exact ⟨s', hs', rfl, rfl, by rw [if_neg e]⟩
 refine ⟨fun x hx => ?_, fun x hx s' hs' => ?_, fun x hx y hy s' hs' => ?_, fun x hx y hy e => ?_, fun x hx s1 hs1 y hy s2 hs2 e => ?_, fun x hx s1 hs1 y hy s2 hs2 e => ?_⟩
 ·obtain ⟨u, hu, e, _⟩ := key x hx
  rw [e]
  exact h.mu u hu
 ·obtain ⟨u, hu, _, _, k⟩ := key x hx
  obtain ⟨s, hs, _, e, _⟩ := k s' hs'
  rw [e]
  exact h.ms u hu s hs
 ·obtain ⟨u, hu, e1, _⟩ := key x hx
  obtain ⟨v, hv, _, _, k⟩ := key y hy
  obtain ⟨s, hs, _, e2, _⟩ := k s' hs'
  rw [e1, e2]
  exact h.us u hu v hv s hs
 ·obtain ⟨u, hu, e1, e2, _⟩ := key x hx
  obtain ⟨v, hv, e3, e4, _⟩ := key y hy
  rw [e1, e3] at e
  rw [e2, e4, h.uu u hu v hv e]
 ·obtain ⟨u, hu, _, e2, k⟩ := key x hx
  obtain ⟨v, hv, _, e4, k2⟩ := key y hy
  obtain ⟨a, ha, _, a2, a3⟩ := k s1 hs1
  obtain ⟨b, hb2, _, b2, b3⟩ := k2 s2 hs2
  rw [a2, b2] at e
  obtain ⟨r1, r2⟩ := h.ss u hu a ha v hv b hb2 e
  rw [e2, e4, a3, b3, r1, r2]
  exact ⟨rfl, rfl⟩
 ·obtain ⟨u, hu, _, e2, k⟩ := key x hx
  obtain ⟨v, hv, _, e4, k2⟩ := key y hy
  obtain ⟨a, ha, a2, _, a3⟩ := k s1 hs1
  obtain ⟨b, hb2, b2, _, b3⟩ := k2 s2 hs2
  rw [a2, b2] at e
  obtain ⟨r1, r2⟩ := h.bb u hu a ha v hv b hb2 e
  rw [e2, e4, a3, b3, r1, r2]
  exact ⟨rfl, rfl⟩
theorem Omap.mod {o : ByteArray} {f : List Ust → List Ust} (h : Omap w M O) : Omap w M (modO o f O) :=
 Lmap.turned h _ (fun u _ => by split <;> rfl) (fun u _ => by split <;> rfl)
theorem Tmap.mod {b : Nat} {T : List Ust} {t : Int} {g : Ust → Ust} (h : Tmap w b T) (ht : ∀ s, (g s).t = s.t) (hb : ∀ s, (g s).b = s.b) : Tmap w b (modT t g T) :=
 Lmap.turned h _ (fun s _ => by split; exact ht s; rfl) (fun s _ => by split; (show umD (g s).b = umD s.b); rw [hb]; rfl)
theorem Dra.putR (h : Dra w base D M apex soa O) {u : Uo} {s : Ust} (hu : u ∈ O) (hs : s ∈ u.T) (r : Rn) (hR : Rmap w' s.m (outK rkS (rkS r) s.R ++ [r])) (hg : w.grownBy w' (some s.m)) :
  Dra w' base D M apex soa (modO u.o (modT s.t (fun s => { s with R := outK rkS (rkS r) s.R ++ [r] })) O) := by
 have hbx : ∀ {q : Nat} {cs : Array Value} {X : TypeId}, Bx w q cs X → Bx w' q cs X := fun hb => hb.grown hg (fun e => map_block (h.rm u hu s hs) hb (Option.some.inj e))
 refine ⟨hbx h.bx, Omap.mod (h.om.kept hg (fun e => h.sep.ms u hu s hs (Option.some.inj e).symm)), fun x hx => ?_, fun x hx s' hs' => ?_, fun x hx s' hs' => ?_, h.sep.turn _ _ _ (fun _ => rfl) (fun _ => rfl), h.d0, h.m0, fun x hx => ?_⟩
 ·obtain ⟨v, hv, e1, e2, k⟩ := mem_modO hx
  have hk : Tmap w' v.b v.T := (h.tm v hv).kept hg (fun e => h.sep.us v hv u hu s hs (Option.some.inj e))
  rw [e2]
  rcases k with ⟨_, k⟩ | ⟨_, k⟩
  ·rw [k]
   exact hk.mod (fun _ => rfl) (fun _ => rfl)
  ·rw [k]
   exact hk
 ·obtain ⟨v, hv, e1, e2, k⟩ := mem_modO hx
  rcases k with ⟨_, k⟩ | ⟨_, k⟩
  ·rw [k] at hs'
   obtain ⟨a, ha, k2⟩ := mem_modT hs'
   have hb := hbx (h.sb v hv a ha)
   rcases k2 with ⟨_, k2⟩ | ⟨_, k2⟩
   ·rw [k2]
    exact hb
   ·rw [k2]
    exact hb
  ·rw [k] at hs'
   exact hbx (h.sb v hv s' hs')
 ·obtain ⟨v, hv, e1, e2, k⟩ := mem_modO hx
  have old : ∀ a ∈ v.T, (v = u → a ≠ s) → Rmap w' a.m a.R := fun a ha hne => (h.rm v hv a ha).kept hg (fun e => by
         obtain ⟨q1, q2⟩ := h.sep.ss v hv a ha u hu s hs (Option.some.inj e)
         exact hne q1 q2)
  rcases k with ⟨k0, k⟩ | ⟨k0, k⟩
  ·rw [k] at hs'
   obtain rfl := h.one hv hu k0
   obtain ⟨a, ha, k2⟩ := mem_modT hs'
   rcases k2 with ⟨k3, k2⟩ | ⟨k3, k2⟩
   ·obtain rfl := h.oneT hv ha hs k3
    rw [k2]
    exact hR
   ·rw [k2]
    exact old a ha (fun _ e => k3 (by rw [e]))
  ·rw [k] at hs'
   exact old s' hs' (fun e => absurd (by rw [e]) k0)
 ·obtain ⟨v, hv, e1, e2, k⟩ := mem_modO hx
  refine ⟨by rw [e2]; exact (h.ml v hv).1, fun s' hs' => ?_⟩
  rcases k with ⟨_, k⟩ | ⟨_, k⟩
  ·rw [k] at hs'
   obtain ⟨a, ha, k2⟩ := mem_modT hs'
   have hb := (h.ml v hv).2 a ha
   rcases k2 with ⟨_, k2⟩ | ⟨_, k2⟩
   ·rw [k2]
    exact hb
   ·rw [k2]
    exact hb
  ·rw [k] at hs'
   exact (h.ml v hv).2 s' hs'
end
end Go.Proofs.YtoabnpdoicbpiaaGreat
namespace Go.Proofs.YtoabnpdoicbpiaaGreat
set_option linter.unusedVariables false
set_option linter.unusedSimpArgs false
open Go.RowKit Go.Shelf Go.Maps Go.Proofs.YtoabnpdoicbpiaaGreat.Nm
theorem Bx.apartU {w w1 : World} {R r : Nat} {cs cs2 : Array Value} {T T2 : TypeId} (h : Bx w R cs T) (hr : Bx w r cs2 T2) (hT : T ≠ T2) (hg : w.grownBy w1 (some r)) : Bx w1 R cs T := h.grown hg (fun e => by
       injection e with e
       unfold Bx at h hr
       rw [← e, hr] at h
       injection h with h
       injection h with _ h _
       exact hT h.symm)
section
variable {w w1 w' : World} {base D M : Nat} {apex : ByteArray} {soa : Rn} {O : List Uo}
theorem Dra.idle (h : Dra w base D M apex soa O) (hg : w.grownBy w' none) : Dra w' base D M apex soa O :=
 ⟨h.bx.grown hg (by simp), h.om.kept hg (by simp), fun u hu => (h.tm u hu).kept hg (by simp), fun u hu s hs => (h.sb u hu s hs).grown hg (by simp), fun u hu s hs => (h.rm u hu s hs).kept hg (by simp), h.sep, h.d0, h.m0, h.ml⟩
theorem ml_turn (h : ∀ u ∈ O, base ≤ u.b ∧ ∀ s ∈ u.T, base ≤ s.b ∧ base ≤ s.m) (o : ByteArray) (t : Int) (g : Ust → Ust) (hb : ∀ s, (g s).b = s.b) (hm : ∀ s, (g s).m = s.m) : ∀ u ∈ modO o (modT t g) O, base ≤ u.b ∧ ∀ s ∈ u.T, base ≤ s.b ∧ base ≤ s.m := fun x hx => by
 obtain ⟨v, hv, e1, e2, k⟩ := mem_modO hx
 refine ⟨by rw [e2]; exact (h v hv).1, fun s' hs' => ?_⟩
 rcases k with ⟨_, k⟩ | ⟨_, k⟩
 ·rw [k] at hs'
  obtain ⟨a, ha, k2⟩ := mem_modT hs'
  have hb2 := (h v hv).2 a ha
  rcases k2 with ⟨_, k2⟩ | ⟨_, k2⟩
  ·rw [k2, hb, hm]
   exact hb2
  ·rw [k2]
   exact hb2
 ·rw [k] at hs'
  exact (h v hv).2 s' hs'
theorem Dra.setAge (h : Dra w base D M apex soa O) {u : Uo} {s : Ust} (hu : u ∈ O) (hs : s ∈ u.T) (l : Int) (hB : Bx w' s.b #[.int .i64 l, .map (some s.m)] 111) (hg : w.grownBy w' (some s.b)) :
  Dra w' base D M apex soa (modO u.o (modT s.t (fun s => { s with age := l })) O) := by
 have hsb := h.sb u hu s hs
 refine ⟨h.bx.apartU hsb (by decide) hg, Omap.mod (h.om.kept hg (fun e => map_block h.om hsb (Option.some.inj e))), fun x hx => ?_, fun x hx s' hs' => ?_, fun x hx s' hs' => ?_, h.sep.turn _ _ _ (fun _ => rfl) (fun _ => rfl), h.d0, h.m0, ml_turn h.ml _ _ _ (fun _ => rfl) (fun _ => rfl)⟩
 ·obtain ⟨v, hv, e1, e2, k⟩ := mem_modO hx
  have hk : Tmap w' v.b v.T := (h.tm v hv).kept hg (fun e => map_block (h.tm v hv) hsb (Option.some.inj e))
  rw [e2]
  rcases k with ⟨_, k⟩ | ⟨_, k⟩
  ·rw [k]
   exact Tmap.mod hk (fun _ => rfl) (fun _ => rfl)
  ·rw [k]
   exact hk
 ·obtain ⟨v, hv, e1, e2, k⟩ := mem_modO hx
  have old : ∀ a ∈ v.T, (v = u → a ≠ s) → Bx w' a.b #[.int .i64 a.age, .map (some a.m)] 111 := fun a ha hne => (h.sb v hv a ha).grown hg (fun e => by
         obtain ⟨q1, q2⟩ := h.sep.bb v hv a ha u hu s hs (Option.some.inj e).symm
         exact hne q1 q2)
  rcases k with ⟨k0, k⟩ | ⟨k0, k⟩
  ·rw [k] at hs'
   obtain rfl := h.one hv hu k0
   obtain ⟨a, ha, k2⟩ := mem_modT hs'
   rcases k2 with ⟨k3, k2⟩ | ⟨k3, k2⟩
   ·obtain rfl := h.oneT hv ha hs k3
    rw [k2]
    exact hB
   ·rw [k2]
    exact old a ha (fun _ e => k3 (by rw [e]))
  ·rw [k] at hs'
   exact old s' hs' (fun e => absurd (by rw [e]) k0)
 ·obtain ⟨v, hv, e1, e2, k⟩ := mem_modO hx
  have old : ∀ a ∈ v.T, Rmap w' a.m a.R := fun a ha => (h.rm v hv a ha).kept hg (fun e => map_block (h.rm v hv a ha) hsb (Option.some.inj e))
  rcases k with ⟨_, k⟩ | ⟨_, k⟩
  ·rw [k] at hs'
   obtain ⟨a, ha, k2⟩ := mem_modT hs'
   rcases k2 with ⟨_, k2⟩ | ⟨_, k2⟩
   ·rw [k2]
    exact old a ha
   ·rw [k2]
    exact old a ha
  ·rw [k] at hs'
   exact old s' hs'
theorem Dra.addO (h : Dra w base D M apex soa O) {o : ByteArray} {b : Nat} (hlo : base ≤ w.heap.size) (hg1 : w.grownBy w1 none) (hT : Tmap w1 b []) (hb : w.heap.size ≤ b) (hO : Omap w' M (O ++ [⟨o, b, []⟩])) (hg : w1.grownBy w' (some M)) : Dra w' base D M apex soa (O ++ [⟨o, b, []⟩]) := by
 have h1 := h.idle hg1
 have hMlt : M < w.heap.size := h.om.lt
 have hult : ∀ u ∈ O, u.b < w.heap.size := fun u hu => (h.tm u hu).lt
 have hslt : ∀ u ∈ O, ∀ s ∈ u.T, s.m < w.heap.size := fun u hu s hs => (h.rm u hu s hs).lt
 have hbx : ∀ {q : Nat} {cs : Array Value} {X : TypeId}, Bx w1 q cs X → Bx w' q cs X := fun hb => hb.grown hg (fun e => map_block h1.om hb (Option.some.inj e))
 refine ⟨hbx h1.bx, hO, fun u hu => ?_, fun u hu s hs => ?_, fun u hu s hs => ?_, ⟨fun u hu => ?_, fun u hu s hs => ?_, fun u hu v hv s hs => ?_, fun u hu v hv e => ?_, fun u hu s hs v hv s' hs' e => ?_, fun u hu s hs v hv s' hs' e => ?_⟩, h.d0, h.m0, fun u hu => ?_⟩
 ·rcases List.mem_append.1 hu with hu | hu
  ·exact (h1.tm u hu).kept hg (fun e => h.sep.mu u hu (Option.some.inj e))
  ·rw [List.mem_singleton.1 hu]
   exact hT.kept hg (fun e => by have := Option.some.inj e; omega)
 ·rcases List.mem_append.1 hu with hu | hu
  ·exact hbx (h1.sb u hu s hs)
  ·rw [List.mem_singleton.1 hu] at hs
   cases hs
 ·rcases List.mem_append.1 hu with hu | hu
  ·exact (h1.rm u hu s hs).kept hg (fun e => h.sep.ms u hu s hs (Option.some.inj e))
  ·rw [List.mem_singleton.1 hu] at hs
   cases hs
 ·rcases List.mem_append.1 hu with hu | hu
  ·exact h.sep.mu u hu
  ·rw [List.mem_singleton.1 hu]
   show b ≠ M
   omega
 ·rcases List.mem_append.1 hu with hu | hu
  ·exact h.sep.ms u hu s hs
  ·rw [List.mem_singleton.1 hu] at hs
   cases hs
 ·rcases List.mem_append.1 hv with hv | hv
  ·rcases List.mem_append.1 hu with hu | hu
   ·exact h.sep.us u hu v hv s hs
   ·rw [List.mem_singleton.1 hu]
    have := hslt v hv s hs
    show b ≠ s.m
    omega
  ·rw [List.mem_singleton.1 hv] at hs
   cases hs
 ·rcases List.mem_append.1 hu with hu | hu
  ·rcases List.mem_append.1 hv with hv | hv
   ·exact h.sep.uu u hu v hv e
   ·rw [List.mem_singleton.1 hv] at e
    have := hult u hu
    simp only at e
    omega
  ·rcases List.mem_append.1 hv with hv | hv
   ·rw [List.mem_singleton.1 hu] at e
    have := hult v hv
    simp only at e
    omega
   ·rw [List.mem_singleton.1 hu, List.mem_singleton.1 hv]
 ·rcases List.mem_append.1 hu with hu | hu
  ·rcases List.mem_append.1 hv with hv | hv
   ·exact h.sep.ss u hu s hs v hv s' hs' e
   ·rw [List.mem_singleton.1 hv] at hs'
    cases hs'
  ·rw [List.mem_singleton.1 hu] at hs
   cases hs
 ·rcases List.mem_append.1 hu with hu | hu
  ·rcases List.mem_append.1 hv with hv | hv
   ·exact h.sep.bb u hu s hs v hv s' hs' e
   ·rw [List.mem_singleton.1 hv] at hs'
    cases hs'
  ·rw [List.mem_singleton.1 hu] at hs
   cases hs
 ·rcases List.mem_append.1 hu with hu | hu
  ·exact h.ml u hu
  ·rw [List.mem_singleton.1 hu]
   exact ⟨Nat.le_trans hlo hb, fun s hs => by cases hs⟩
end
end Go.Proofs.YtoabnpdoicbpiaaGreat
namespace Go.Proofs.YtoabnpdoicbpiaaGreat
set_option linter.unusedVariables false
set_option linter.unusedSimpArgs false
open Go.RowKit Go.Shelf Go.Maps Go.Proofs.YtoabnpdoicbpiaaGreat.Nm
section
variable {w w1 w' : World} {base D M : Nat} {apex : ByteArray} {soa : Rn} {O : List Uo}
theorem Dra.addS (h : Dra w base D M apex soa O) {u : Uo} (hu : u ∈ O) {t : Int} {sb m : Nat} (hlo : base ≤ w.heap.size) (hg1 : w.grownBy w1 none) (hR : Rmap w1 m []) (hB : Bx w1 sb #[.int .i64 0, .map (some m)] 111) (hsb : w.heap.size ≤ sb) (hm : w.heap.size ≤ m) (hT : Tmap w' u.b (u.T ++ [⟨t, sb, m, 0, []⟩])) (hg : w1.grownBy w' (some u.b)) :
  Dra w' base D M apex soa (modO u.o (fun T => T ++ [⟨t, sb, m, 0, []⟩]) O) := by
 have h1 := h.idle hg1
 have hMlt : M < w.heap.size := h.om.lt
 have hult : ∀ u ∈ O, u.b < w.heap.size := fun u hu => (h.tm u hu).lt
 have hslt : ∀ u ∈ O, ∀ s ∈ u.T, s.m < w.heap.size := fun u hu s hs => (h.rm u hu s hs).lt
 have hblt : ∀ u ∈ O, ∀ s ∈ u.T, s.b < w.heap.size := fun u hu s hs => (h.sb u hu s hs).lt
 have hbx : ∀ {q : Nat} {cs : Array Value} {X : TypeId}, Bx w1 q cs X → Bx w' q cs X := fun hb => hb.grown hg (fun e => map_block (h1.tm u hu) hb (Option.some.inj e))
 have key : ∀ x ∈ modO u.o (fun T => T ++ [⟨t, sb, m, 0, []⟩]) O, ∃ v ∈ O, x.b = v.b ∧ x = (if v.o = u.o then { v with T := v.T ++ [⟨t, sb, m, 0, []⟩] } else v) ∧ ∀ s' ∈ x.T, s' ∈ v.T ∨ (s' = ⟨t, sb, m, 0, []⟩ ∧ v = u) := fun x hx => by
  obtain ⟨v, hv, rfl⟩ := List.mem_map.1 hx
  refine ⟨v, hv, by split <;> rfl, rfl, fun s' hs' => ?_⟩
  by_cases e : v.o = u.o
  ·rw [if_pos e] at hs'
   rcases List.mem_append.1 hs' with q | q
   ·exact .inl q
   ·exact .inr ⟨List.mem_singleton.1 q, h.one hv hu e⟩
  ·rw [if_neg e] at hs'
   exact .inl hs'
 refine ⟨hbx h1.bx, Omap.mod (h1.om.kept hg (fun e => h.sep.mu u hu (Option.some.inj e).symm)), fun x hx => ?_, fun x hx s' hs' => ?_, fun x hx s' hs' => ?_, ⟨fun x hx => ?_, fun x hx s' hs' => ?_, fun x hx y hy s' hs' => ?_, fun x hx y hy e => ?_, fun x hx s1 hs1 y hy s2 hs2 e => ?_, fun x hx s1 hs1 y hy s2 hs2 e => ?_⟩, h.d0, h.m0, fun x hx => ?_⟩
 ·obtain ⟨v, hv, e1, e2, _⟩ := key x hx
  by_cases e : v.o = u.o
  ·obtain rfl := h.one hv hu e
   rw [e2, if_pos rfl]
   exact hT
  ·rw [e2, if_neg e]
   exact (h1.tm v hv).kept hg (fun q => e (by rw [h.sep.uu v hv u hu (Option.some.inj q)]))
 ·obtain ⟨v, hv, e1, e2, k⟩ := key x hx
  rcases k s' hs' with q | ⟨rfl, _⟩
  ·exact hbx (h1.sb v hv s' q)
  ·exact hbx hB
 ·obtain ⟨v, hv, e1, e2, k⟩ := key x hx
  rcases k s' hs' with q | ⟨rfl, _⟩
  ·exact (h1.rm v hv s' q).kept hg (fun e => h.sep.us u hu v hv s' q (Option.some.inj e).symm)
  ·exact hR.kept hg (fun e => by
          have h2 : m = u.b := Option.some.inj e
          have h3 := hult u hu
          omega)
 ·obtain ⟨v, hv, e1, _⟩ := key x hx
  rw [e1]
  exact h.sep.mu v hv
 ·obtain ⟨v, hv, _, _, k⟩ := key x hx
  rcases k s' hs' with q | ⟨rfl, _⟩
  ·exact h.sep.ms v hv s' q
  ·show m ≠ M
   omega
 ·obtain ⟨v, hv, e1, _⟩ := key x hx
  obtain ⟨v2, hv2, _, _, k⟩ := key y hy
  rw [e1]
  rcases k s' hs' with q | ⟨rfl, _⟩
  ·exact h.sep.us v hv v2 hv2 s' q
  ·have := hult v hv
   show v.b ≠ m
   omega
 ·obtain ⟨v, hv, e1, e2, _⟩ := key x hx
  obtain ⟨v2, hv2, e3, e4, _⟩ := key y hy
  rw [e1, e3] at e
  rw [e2, e4, h.sep.uu v hv v2 hv2 e]
 ·obtain ⟨v, hv, _, e2, k⟩ := key x hx
  obtain ⟨v2, hv2, _, e4, k2⟩ := key y hy
  rcases k s1 hs1 with q | ⟨rfl, q⟩
  ·rcases k2 s2 hs2 with q2 | ⟨rfl, q2⟩
   ·obtain ⟨r1, r2⟩ := h.sep.ss v hv s1 q v2 hv2 s2 q2 e
    rw [e2, e4, r1, r2]
    exact ⟨rfl, rfl⟩
   ·have := hslt v hv s1 q
    simp only at e
    omega
  ·rcases k2 s2 hs2 with q2 | ⟨rfl, q2⟩
   ·have := hslt v2 hv2 s2 q2
    simp only at e
    omega
   ·rw [e2, e4, q, q2]
    exact ⟨rfl, rfl⟩
 ·obtain ⟨v, hv, _, e2, k⟩ := key x hx
  obtain ⟨v2, hv2, _, e4, k2⟩ := key y hy
  rcases k s1 hs1 with q | ⟨rfl, q⟩
  ·rcases k2 s2 hs2 with q2 | ⟨rfl, q2⟩
   ·obtain ⟨r1, r2⟩ := h.sep.bb v hv s1 q v2 hv2 s2 q2 e
    rw [e2, e4, r1, r2]
    exact ⟨rfl, rfl⟩
   ·have := hblt v hv s1 q
    simp only at e
    omega
  ·rcases k2 s2 hs2 with q2 | ⟨rfl, q2⟩
   ·have := hblt v2 hv2 s2 q2
    simp only at e
    omega
   ·rw [e2, e4, q, q2]
    exact ⟨rfl, rfl⟩
 ·obtain ⟨v, hv, e1, _, k⟩ := key x hx
  refine ⟨by rw [e1]; exact (h.ml v hv).1, fun s' hs' => ?_⟩
  rcases k s' hs' with q | ⟨rfl, _⟩
  ·exact (h.ml v hv).2 s' q
  ·exact ⟨Nat.le_trans hlo hsb, Nat.le_trans hlo hm⟩
end
structure FluW (O : List Uo) (E : List Rn) (p : ByteArray × Int) : Prop where
 sen : (E.map senS).Nodup
 on : (O.map Uo.o).Nodup
 tn : ∀ u ∈ O, (u.T.map Ust.t).Nodup
 rs : ∀ u ∈ O, ∀ s ∈ u.T, s.R.Perm (E.filter fun e => decide (plS (senS e) = (u.o, s.t))) ∧ ((u.o, s.t) ≠ p → s.R ≠ [] ∧ ageU E (u.o, s.t) = some s.age)
 all : ∀ e ∈ E, ∃ u ∈ O, u.o = foldB e.o ∧ ∃ s ∈ u.T, s.t = e.t
 has : ∃ u ∈ O, u.o = p.1 ∧ ∃ s ∈ u.T, s.t = p.2
theorem modO_o (o : ByteArray) (f : List Ust → List Ust) (O : List Uo) : (modO o f O).map Uo.o = O.map Uo.o := by
 unfold modO
 rw [List.map_map]
 exact List.map_congr_left (fun u _ => by simp only [Function.comp]; split <;> rfl)
theorem modT_t (t : Int) (g : Ust → Ust) (hg : ∀ s, (g s).t = s.t) (T : List Ust) : (modT t g T).map Ust.t = T.map Ust.t := by
 unfold modT
 rw [List.map_map]
 exact List.map_congr_left (fun s _ => by simp only [Function.comp]; split; exact hg s; rfl)
theorem filter_here (E : List Rn) (r : Rn) {p : ByteArray × Int} (hp : plS (senS r) = p) : (putU E r).filter (fun e => decide (plS (senS e) = p)) = outK rkS (rkS r) (E.filter fun e => decide (plS (senS e) = p)) ++ [r] := by
 subst hp
 unfold putU
 rw [List.filter_append]
 congr 1
 ·unfold outK
  rw [List.filter_filter, List.filter_filter]
  refine List.filter_congr (fun e _ => ?_)
  by_cases h : plS (senS e) = plS (senS r)
  ·have h2 : (senS e = senS r) ↔ rkS e = rkS r := by
    constructor
    ·intro q
     exact congrArg (fun s : Se => s.2.2) q
    ·intro q
     unfold plS at h
     simp only [Prod.mk.injEq] at h
     exact Prod.ext h.1 (Prod.ext h.2 q)
   simp [h, h2]
  ·simp [h]
 ·simp
theorem filter_there (E : List Rn) (r : Rn) {p : ByteArray × Int} (hp : plS (senS r) ≠ p) : (putU E r).filter (fun e => decide (plS (senS e) = p)) = E.filter (fun e => decide (plS (senS e) = p)) := by
 unfold putU
 rw [List.filter_append]
 have : [r].filter (fun e => decide (plS (senS e) = p)) = [] := by simp [hp]
 rw [this, List.append_nil]
 unfold outK
 rw [List.filter_filter]
 refine List.filter_congr (fun e _ => ?_)
 by_cases h : plS (senS e) = p
 ·have : senS e ≠ senS r := fun q => hp (by rw [← q]; exact h)
  simp [h, this]
 ·simp [h]
theorem FluW.put {O : List Uo} {E : List Rn} (r : Rn) (h : FluW O E (foldB r.o, r.t)) : Flu (modO (foldB r.o) (modT r.t fun s => { s with age := r.l, R := outK rkS (rkS r) s.R ++ [r] }) O) (putU E r) := by
 have hpl : plS (senS r) = (foldB r.o, r.t) := rfl
 have img : ∀ u ∈ O, ∀ s ∈ u.T, ∃ x ∈ modO (foldB r.o) (modT r.t fun s => { s with age := r.l, R := outK rkS (rkS r) s.R ++ [r] }) O, x.o = u.o ∧ ∃ s' ∈ x.T, s'.t = s.t := fun u hu s hs => by
  refine ⟨_, List.mem_map.2 ⟨u, hu, rfl⟩, by split <;> rfl, ?_⟩
  split
  ·refine ⟨_, List.mem_map.2 ⟨s, hs, rfl⟩, by split <;> rfl⟩
  ·exact ⟨s, hs, rfl⟩
 refine ⟨put_nodup h.sen, by rw [modO_o]; exact h.on, fun x hx => ?_, fun x hx s' hs' => ?_, fun e he => ?_⟩
 ·obtain ⟨u, hu, _, _, k⟩ := mem_modO hx
  rcases k with ⟨_, k⟩ | ⟨_, k⟩
  ·rw [k, modT_t r.t (fun s => { s with age := r.l, R := outK rkS (rkS r) s.R ++ [r] }) (fun _ => rfl)]
   exact h.tn u hu
  ·rw [k]
   exact h.tn u hu
 ·obtain ⟨u, hu, e1, _, k⟩ := mem_modO hx
  have old : ∀ a ∈ u.T, (u.o, a.t) ≠ (foldB r.o, r.t) → a.R.Perm ((putU E r).filter fun e => decide (plS (senS e) = (u.o, a.t))) ∧ a.R ≠ [] ∧ ageU (putU E r) (u.o, a.t) = some a.age := fun a ha hne => by
   obtain ⟨q1, q2⟩ := h.rs u hu a ha
   obtain ⟨q3, q4⟩ := q2 hne
   refine ⟨?_, q3, ?_⟩
   ·rw [filter_there E r (fun e => hne (hpl ▸ e.symm))]
    exact q1
   ·unfold ageU
    rw [lastP_put, if_neg (fun e => hne (hpl ▸ e.symm))]
    exact q4
  rw [e1]
  rcases k with ⟨k0, k⟩ | ⟨k0, k⟩
  ·rw [k] at hs'
   obtain ⟨a, ha, k2⟩ := mem_modT hs'
   rcases k2 with ⟨k3, k2⟩ | ⟨k3, k2⟩
   ·rw [k2]
    refine ⟨?_, by simp, ?_⟩
    ·have hq : plS (senS r) = (u.o, a.t) := by rw [hpl, k0, k3]
     show (outK rkS (rkS r) a.R ++ [r]).Perm ((putU E r).filter fun e => decide (plS (senS e) = (u.o, a.t)))
     rw [filter_here E r hq]
     exact List.Perm.append_right _ (((h.rs u hu a ha).1).filter _)
    ·show ageU (putU E r) (u.o, a.t) = some r.l
     unfold ageU
     rw [lastP_put, if_pos (by rw [hpl, k0, k3])]
     rfl
   ·rw [k2]
    exact old a ha (fun e => k3 (congrArg Prod.snd e))
  ·rw [k] at hs'
   exact old s' hs' (fun e => k0 (congrArg Prod.fst e))
 ·rcases List.mem_append.1 he with he | he
  ·obtain ⟨u, hu, e1, s, hs, e2⟩ := h.all e (mem_outK.1 he).1
   obtain ⟨x, hx, e3, s', hs', e4⟩ := img u hu s hs
   exact ⟨x, hx, e3.trans e1, s', hs', e4.trans e2⟩
  ·obtain rfl := List.mem_singleton.1 he
   obtain ⟨u, hu, e1, s, hs, e2⟩ := h.has
   obtain ⟨x, hx, e3, s', hs', e4⟩ := img u hu s hs
   exact ⟨x, hx, e3.trans e1, s', hs', e4.trans e2⟩
end Go.Proofs.YtoabnpdoicbpiaaGreat
