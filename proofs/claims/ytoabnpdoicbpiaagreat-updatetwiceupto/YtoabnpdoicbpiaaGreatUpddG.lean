import Derived.Test.YtoabnpdoicbpiaaGreatUpd5G
import Derived.Test.YtoabnpdoicbpiaaGreatFt1G
import Derived.Test.YtoabnpdoicbpiaaGreatGr0G
namespace Go.Proofs.YtoabnpdoicbpiaaGreat
set_option linter.unusedVariables false
set_option linter.unusedSimpArgs false
open Go.RowKit Go.Shelf Go.Maps Go.Proofs.YtoabnpdoicbpiaaGreat.Nm
structure Ru {α κ : Type} (key : α → κ) (kl : κ → Lit) (left : Lit → Bool) (S Done Rest : List α) : Prop where
 pm : (Done ++ Rest).Perm S
 rest : ∀ x ∈ Rest, left (kl (key x)) = true
 done : ∀ x ∈ Done, left (kl (key x)) = false
section
variable {α κ : Type} {key : α → κ} {kl : κ → Lit} {left : Lit → Bool} {S Done Rest : List α}
theorem Ru.start (h : ∀ x ∈ S, left (kl (key x)) = true) : Ru key kl left S [] S := ⟨by simp, h, (fun x hx => by cases hx)⟩
theorem Ru.last (h : Ru key kl left S Done Rest) (h0 : ∀ z, left z = false) : Done.Perm S := by
 have : Rest = [] := by
  cases Rest with
  | nil => rfl
  | cons a l =>
   have := h.rest a List.mem_cons_self
   rw [h0] at this
   cases this
 subst this
 simpa using h.pm
theorem Ru.step (h : Ru key kl left S Done Rest) (hn : (S.map key).Nodup) {a : α} (ha : a ∈ S) (hl : left (kl (key a)) = true) (hs : ∀ x ∈ S, (kl (key x)).sameKey (kl (key a)) = true ↔ key x = key a) :
  ∃ Rest', Ru key kl (fun z => left z && !z.sameKey (kl (key a))) S (Done ++ [a]) Rest' := by
 have h1 : a ∈ Rest := by
  rcases List.mem_append.1 (h.pm.mem_iff.2 ha) with q | q
  ·rw [h.done a q] at hl; cases hl
  ·exact q
 obtain ⟨A, B, rfl⟩ := List.append_of_mem h1
 have hp : ((Done ++ [a]) ++ (A ++ B)).Perm S := by
  refine List.Perm.trans ?_ h.pm
  rw [List.append_assoc, List.singleton_append]
  exact List.Perm.append_left _ List.perm_middle.symm
 have hn2 : (((Done ++ [a]) ++ (A ++ B)).map key).Nodup := (hp.map key).nodup_iff.2 hn
 refine ⟨A ++ B, hp, fun x hx => ?_, fun x hx => ?_⟩
 ·have hxr : x ∈ A ++ a :: B := by
   rcases List.mem_append.1 hx with q | q
   ·exact List.mem_append_left _ q
   ·exact List.mem_append_right _ (List.mem_cons_of_mem _ q)
  have hxS : x ∈ S := h.pm.mem_iff.1 (List.mem_append_right _ hxr)
  have hne : key x ≠ key a := fun e => by
   rw [List.map_append] at hn2
   exact (List.nodup_append.1 hn2).2.2 (key a) (List.mem_map.2 ⟨a, by simp, rfl⟩) (key x) (List.mem_map.2 ⟨x, hx, rfl⟩) e.symm
  have : (kl (key x)).sameKey (kl (key a)) = false := by
   rw [Bool.eq_false_iff]
   exact fun q => hne ((hs x hxS).1 q)
  simp [h.rest x hxr, this]
 ·rcases List.mem_append.1 hx with q | q
  ·simp [h.done x q]
  ·rw [List.mem_singleton.1 q]
   simp [(hs a ha).2 rfl]
end
def rowF (s : Ust) (r : Rn) : Rn := if s.t = 46 then r else { r with l := s.age }
def rowU (s : Ust) : List Rn := s.R.map (rowF s)
def flatO (O : List Uo) : List Rn := O.flatMap fun u => u.T.flatMap rowU
theorem flat_nodup {α β : Type} {f : α → List β} {l : List α} (h1 : ∀ a ∈ l, (f a).Nodup) (h2 : l.Pairwise fun a b => ∀ x ∈ f a, ∀ y ∈ f b, x ≠ y) : (l.flatMap f).Nodup := List.pairwise_flatMap.2 ⟨h1, h2⟩
theorem pw_key {α κ : Type} {key : α → κ} {S : List α} (h : (S.map key).Nodup) : S.Pairwise fun a b => key a ≠ key b := List.pairwise_map.1 h
theorem flat_perm {O : List Uo} {E : List Rn} (h : Flu O E) : (flatO O).Perm (listU E) := by
 have hm : ∀ u ∈ O, ∀ s ∈ u.T, ∀ x, x ∈ s.R ↔ x ∈ E ∧ plS (senS x) = (u.o, s.t) := fun u hu s hs x => by
  rw [(h.rs u hu s hs).1.mem_iff, List.mem_filter, decide_eq_true_iff]
 have e1 : flatO O = (O.flatMap fun u => u.T.flatMap Ust.R).map (recU E) := by
  unfold flatO
  rw [List.map_flatMap]
  rw [List.flatMap_def, List.flatMap_def]
  congr 1
  refine List.map_congr_left (fun u hu => ?_)
  rw [List.map_flatMap, List.flatMap_def, List.flatMap_def]
  congr 1
  refine List.map_congr_left (fun s hs => ?_)
  unfold rowU
  refine List.map_congr_left (fun r hr => ?_)
  obtain ⟨_, hp⟩ := (hm u hu s hs r).1 hr
  have ht : r.t = s.t := congrArg Prod.snd hp
  unfold rowF recU
  by_cases h46 : s.t = 46
  ·rw [if_pos h46, if_pos (ht.trans h46)]
  ·rw [if_neg h46, if_neg (by rw [ht]; exact h46), hp, (h.rs u hu s hs).2.2]
   rfl
 rw [e1]
 unfold listU
 refine List.Perm.map _ ((List.perm_ext_iff_of_nodup ?_ (nodup_of_sen h.sen)).2 (fun x => ?_))
 ·refine flat_nodup (fun u hu => ?_) ?_
  ·refine flat_nodup (fun s hs => ?_) ?_
   ·exact (h.rs u hu s hs).1.nodup_iff.2 ((nodup_of_sen h.sen).sublist List.filter_sublist)
   ·refine List.Pairwise.imp_of_mem (fun {a b} ha hb hne x hx y hy e => ?_) (pw_key (h.tn u hu))
    have p1 := ((hm u hu a ha x).1 hx).2
    have p2 := ((hm u hu b hb y).1 hy).2
    rw [e, p2] at p1
    exact hne (congrArg Prod.snd p1).symm
  ·refine List.Pairwise.imp_of_mem (fun {u v} hu hv hne x hx y hy e => ?_) (pw_key h.on)
   obtain ⟨s, hs, hx⟩ := List.mem_flatMap.1 hx
   obtain ⟨s', hs', hy⟩ := List.mem_flatMap.1 hy
   have p1 := ((hm u hu s hs x).1 hx).2
   have p2 := ((hm v hv s' hs' y).1 hy).2
   rw [e, p2] at p1
   exact hne (congrArg Prod.fst p1).symm
 ·constructor
  ·intro hx
   obtain ⟨u, hu, hx⟩ := List.mem_flatMap.1 hx
   obtain ⟨s, hs, hx⟩ := List.mem_flatMap.1 hx
   exact ((hm u hu s hs x).1 hx).1
  ·intro hx
   obtain ⟨u, hu, e2, s, hs, e3⟩ := h.all x hx
   refine List.mem_flatMap.2 ⟨u, hu, List.mem_flatMap.2 ⟨s, hs, (hm u hu s hs x).2 ⟨hx, ?_⟩⟩⟩
   show (foldB x.o, x.t) = (u.o, s.t)
   rw [e2, e3]
theorem flat_perm2 {O O' : List Uo} (h : O.Perm O') : (flatO O).Perm (flatO O') := h.flatMap_right _
end Go.Proofs.YtoabnpdoicbpiaaGreat
namespace Go.Proofs.YtoabnpdoicbpiaaGreat
set_option linter.unusedVariables false
set_option linter.unusedSimpArgs false
open Go.RowKit Go.Shelf Go.Maps Go.Proofs.YtoabnpdoicbpiaaGreat.Nm
theorem us_same {x y : ByteArray} (hx : usG x) (hy : usG y) : (usL x).sameKey (usL y) = true ↔ x = y := by
 constructor
 ·intro h
  by_cases e : x = y
  ·exact e
  ·rw [sameKey_ne (fun q => e (usL_inj x y hx hy q))] at h
   cases h
 ·rintro rfl
  unfold usL
  simp [Lit.sameKey]
theorem ui_same {x y : Int} (hx : uiG x) (hy : uiG y) : (uiL x).sameKey (uiL y) = true ↔ x = y := by
 constructor
 ·intro h
  by_cases e : x = y
  ·exact e
  ·rw [sameKey_ne (fun q => e (uiL_inj x y hx hy q))] at h
   cases h
 ·rintro rfl
  unfold uiL
  simp [Lit.sameKey]
section
variable {α κ : Type} {key : α → κ} {S : List α} {kl : κ → Lit} {G : κ → Prop} {dv : α → DataW Unit} {kt : TypeId} {R : Value → Option (DataW Unit × List MemPlace)} {w w' : World} {b r cnt : Nat} {left : Lit → Bool}
theorem Lmap.good (h : Lmap kt R key kl G dv w b S) : ∀ e ∈ S, G (key e) := by obtain ⟨D, n, _, h⟩ := h; exact h.good
theorem Lrng.iterU (h : Lrng kt R key kl G dv w b r left cnt S) : ∃ x y z u, w.heap[r]? = some (.mapIter x y z u) := by
 obtain ⟨D, n, ⟨es, clock, since, seen, c0, _, _, _, _, hi, _⟩, _⟩ := h
 exact ⟨_, _, _, _, hi⟩
theorem own_iter {base T n : Nat} {v : Value} {xs : List Value} {e : TypeId} (ho : w.ownsRow base e T v n xs) (h : Lrng kt R key kl G dv w b r left cnt S) : some r ≠ v.ownBlock := fun q => by
 obtain ⟨x, y, z, u, hi⟩ := h.iterU
 obtain ⟨hl, (⟨rfl, rfl⟩ | ⟨g, cap, cur, rfl, hb, hg, _⟩)⟩ := ho
 ·cases q
 ·have : r = g := by simpa [Value.ownBlock] using q
  subst this
  rw [hi] at hg
  cases hg
end
abbrev Orng (w : World) (M r : Nat) (left : Lit → Bool) (cnt : Nat) (O : List Uo) : Prop := Lrng 9 umE Uo.o usL usG (fun u => umD u.b) w M r left cnt O
abbrev Trng (w : World) (b r : Nat) (left : Lit → Bool) (cnt : Nat) (T : List Ust) : Prop := Lrng 3 upE Ust.t uiL uiG (fun s => umD s.b) w b r left cnt T
abbrev Rrng (w : World) (m r : Nat) (left : Lit → Bool) (cnt : Nat) (R : List Rn) : Prop := Lrng 9 urE rkS usL usG urD w m r left cnt R
section
variable {w : World} {b r cnt : Nat} {left : Lit → Bool}
theorem Omap.range {O : List Uo} (h : Omap w b O) : ∃ w' left, (Instr.range 70 (.map (some b))).run Tryz.prog w = .ok (.pointer (some ⟨w.heap.size, 0, none⟩)) w' ∧ Orng w' b w.heap.size left O.length O ∧ (∀ x ∈ O, left (usL x.o) = true) ∧ w.grownBy w' none ∧ w'.heap.size = w.heap.size + 1 :=
 Lmap.range h usKeyed Tryz.underlying70
theorem Tmap.range {T : List Ust} (h : Tmap w b T) : ∃ w' left, (Instr.range 107 (.map (some b))).run Tryz.prog w = .ok (.pointer (some ⟨w.heap.size, 0, none⟩)) w' ∧ Trng w' b w.heap.size left T.length T ∧ (∀ x ∈ T, left (uiL x.t) = true) ∧ w.grownBy w' none ∧ w'.heap.size = w.heap.size + 1 :=
 Lmap.range h uiKeyed Tryz.underlying107
theorem Rmap.range {R : List Rn} (h : Rmap w b R) : ∃ w' left, (Instr.range 109 (.map (some b))).run Tryz.prog w = .ok (.pointer (some ⟨w.heap.size, 0, none⟩)) w' ∧ Rrng w' b w.heap.size left R.length R ∧ (∀ x ∈ R, left (usL (rkS x)) = true) ∧ w.grownBy w' none ∧ w'.heap.size = w.heap.size + 1 :=
 Lmap.range h usKeyed Tryz.underlying109
theorem Orng.next {O : List Uo} (h : Orng w b r left cnt O) (ty : TypeId) : (cnt = 0 ∧ (∀ x, left x = false) ∧ (Instr.next (.pointer (some ⟨r, 0, none⟩)) false ty).run Tryz.prog w = .ok (.tuple #[.bool false]) w) ∨
  ∃ a ∈ O, ∃ w' cnt', left (usL a.o) = true ∧ (Instr.next (.pointer (some ⟨r, 0, none⟩)) false ty).run Tryz.prog w = .ok (.tuple #[.bool true, .string a.o, .map (some a.b)]) w' ∧
   Orng w' b r (fun x => left x && !x.sameKey (usL a.o)) cnt' O ∧ cnt' < cnt ∧ w.grownBy w' (some r) ∧ w'.heap.size = w.heap.size ∧ (Instr.entry (.pointer (some ⟨r, 0, none⟩))).run Tryz.prog w' = .ok (.tuple #[.string a.o, .map (some a.b)]) w' :=
 Lrng.next (mk := fun u => Value.map (some u.b)) (kv := fun u => Value.string u.o) h usKeyed (fun e => umE_inv e.b) (fun e he => usKey (h.map.good e he)) ty
theorem Trng.next {T : List Ust} (h : Trng w b r left cnt T) (ty : TypeId) : (cnt = 0 ∧ (∀ x, left x = false) ∧ (Instr.next (.pointer (some ⟨r, 0, none⟩)) false ty).run Tryz.prog w = .ok (.tuple #[.bool false]) w) ∨
  ∃ a ∈ T, ∃ w' cnt', left (uiL a.t) = true ∧ (Instr.next (.pointer (some ⟨r, 0, none⟩)) false ty).run Tryz.prog w = .ok (.tuple #[.bool true, .int .i64 a.t, .pointer (some ⟨a.b, 0, none⟩)]) w' ∧
   Trng w' b r (fun x => left x && !x.sameKey (uiL a.t)) cnt' T ∧ cnt' < cnt ∧ w.grownBy w' (some r) ∧ w'.heap.size = w.heap.size ∧ (Instr.entry (.pointer (some ⟨r, 0, none⟩))).run Tryz.prog w' = .ok (.tuple #[.int .i64 a.t, .pointer (some ⟨a.b, 0, none⟩)]) w' :=
 Lrng.next (mk := fun s => upV s.b) (kv := fun s => Value.int .i64 s.t) h uiKeyed (fun e => upE_inv e.b) (fun e he => uiKey (h.map.good e he)) ty
theorem Rrng.next {R : List Rn} (h : Rrng w b r left cnt R) (ty : TypeId) : (cnt = 0 ∧ (∀ x, left x = false) ∧ (Instr.next (.pointer (some ⟨r, 0, none⟩)) false ty).run Tryz.prog w = .ok (.tuple #[.bool false]) w) ∨
  ∃ a ∈ R, ∃ w' cnt', left (usL (rkS a)) = true ∧ (Instr.next (.pointer (some ⟨r, 0, none⟩)) false ty).run Tryz.prog w = .ok (.tuple #[.bool true, .string (rkS a), .agg #[.string a.o, .int .i64 a.t, .int .i64 a.c, .int .i64 a.l, .string a.d]]) w' ∧
   Rrng w' b r (fun x => left x && !x.sameKey (usL (rkS a))) cnt' R ∧ cnt' < cnt ∧ w.grownBy w' (some r) ∧ w'.heap.size = w.heap.size ∧ (Instr.entry (.pointer (some ⟨r, 0, none⟩))).run Tryz.prog w' = .ok (.tuple #[.string (rkS a), .agg #[.string a.o, .int .i64 a.t, .int .i64 a.c, .int .i64 a.l, .string a.d]]) w' :=
 Lrng.next (mk := urV) (kv := fun s => Value.string (rkS s)) h usKeyed (fun e => urE_inv e) (fun e he => usKey (h.map.good e he)) ty
end
theorem own_new1U {w wb : World} {base : Nat} {xo xd : ByteArray} {xt xc xl : Int} (h : w.alloc (.cells #[.string xo, .int .i64 xt, .int .i64 xc, .int .i64 xl, .string xd] 29) = wb) (hb : base ≤ w.heap.size) : wb.ownsRow base 29 5 (.slice (some ⟨w.heap.size, 0, none⟩) 1 1) 1 (rce5 [⟨xo, xt, xc, xl, xd⟩]) := by
 subst h
 exact ⟨rfl, Or.inr ⟨w.heap.size, 1, _, rfl, hb, World.alloc_heap_new w _, Nat.le_refl _, by unfold maxLen; omega, rfl, rfl⟩⟩
theorem rs_oneU {w : World} {B : Nat} {o d : ByteArray} {t c l : Int} {T : TypeId} (hb : Bx w B #[.string o, .int .i64 t, .int .i64 c, .int .i64 l, .string d] T) : RsAt w (some ⟨B, 0, none⟩) [⟨o, t, c, l, d⟩] := by
 intro k hk
 have e : k = 0 := by simp at hk; omega
 subst e
 exact ⟨B, 0, rfl, hb.lt, hb.cell rfl, hb.cell rfl, hb.cell rfl, hb.cell rfl, hb.cell rfl⟩
theorem rce5_appU (A B : List Rn) : rce5 (A ++ B) = rce5 A ++ rce5 B := by unfold rce5; exact List.flatMap_append
def LiU (w wr : World) (v : Value) (L : List Rn) : Prop := wr.ownsRow w.heap.size 29 5 v L.length (rce5 L)
theorem room_of {α κ β : Type} {key : α → κ} {kl : κ → Lit} {left : Lit → Bool} {S Done Rest : List α} {a : α} (h : Ru key kl left S (Done ++ [a]) Rest) (f : α → List β) : (Done.flatMap f).length + (f a).length ≤ (S.flatMap f).length := by
 have := (h.pm.flatMap_right f).length_eq
 rw [List.flatMap_append, List.flatMap_append, List.length_append, List.length_append, List.flatMap_singleton] at this
 omega
end Go.Proofs.YtoabnpdoicbpiaaGreat
namespace Go.Proofs.YtoabnpdoicbpiaaGreat
set_option linter.unusedVariables false
set_option linter.unusedSimpArgs false
open Go.RowKit Go.Shelf Go.Maps Go.Proofs.YtoabnpdoicbpiaaGreat.Nm
section
variable {α κ : Type} {key : α → κ} {S : List α} {kl : κ → Lit} {G : κ → Prop} {dv : α → DataW Unit} {kt : TypeId} {R : Value → Option (DataW Unit × List MemPlace)} {b r cnt : Nat} {left : Lit → Bool}
theorem Lrng.round {w4 w5 wa wx wc w9 : World} {r3 B base n T : Nat} {e : TypeId} {v : Value} {xs : List Value} (h : Lrng kt R key kl G dv w4 b r left cnt S) (g5 : w4.grownBy w5 (some r3)) (ga : w5.grownBy wa none) (gx : wa.grownBy wx (some B)) (gc : wx.grownBy wc none) (ho : wc.ownsRow base e T v n xs) (g9 : wc.grownBy w9 v.ownBlock) (hn : b < base ∧ b ≠ r3 ∧ r ≠ r3 ∧ b ≠ B ∧ r ≠ B) : Lrng kt R key kl G dv w9 b r left cnt S := by
 obtain ⟨hb, h1, h2, h3, h4⟩ := hn
 have k1 := h.kept g5 (fun q => h1 (Option.some.inj q)) (fun q => h2 (Option.some.inj q))
 have k2 := k1.kept ga (by simp) (by simp)
 have k3 := k2.kept gx (fun q => h3 (Option.some.inj q)) (fun q => h4 (Option.some.inj q))
 have k4 := k3.kept gc (by simp) (by simp)
 exact k4.kept g9 (fun q => by have := (ho.lt _ q.symm).1; omega) (own_iter ho k4)
theorem Lrng.own {w5 wa wx wc w9 : World} {B base n T : Nat} {e : TypeId} {v : Value} {xs : List Value} (h : Lrng kt R key kl G dv w5 b r left cnt S) (ga : w5.grownBy wa none) (gx : wa.grownBy wx (some B)) (gc : wx.grownBy wc none) (ho : wc.ownsRow base e T v n xs) (g9 : wc.grownBy w9 v.ownBlock) (hn : b < base ∧ b ≠ B ∧ r ≠ B) : Lrng kt R key kl G dv w9 b r left cnt S := by
 obtain ⟨hb, h3, h4⟩ := hn
 have k2 := h.kept ga (by simp) (by simp)
 have k3 := k2.kept gx (fun q => h3 (Option.some.inj q)) (fun q => h4 (Option.some.inj q))
 have k4 := k3.kept gc (by simp) (by simp)
 exact k4.kept g9 (fun q => by have := (ho.lt _ q.symm).1; omega) (own_iter ho k4)
end
theorem LiU.iter {w w4 w5 : World} {α κ : Type} {key : α → κ} {S : List α} {kl : κ → Lit} {G : κ → Prop} {dv : α → DataW Unit} {kt : TypeId} {R : Value → Option (DataW Unit × List MemPlace)} {b r cnt : Nat} {left : Lit → Bool} {v : Value} {L : List Rn} (h : LiU w w4 v L) (h3 : Lrng kt R key kl G dv w4 b r left cnt S) (g5 : w4.grownBy w5 (some r)) : LiU w w5 v L :=
 World.ownsRow.kept h g5 (Or.inr (fun e => own_iter h h3 e.symm))
theorem LiU.idleU {w w5 wa : World} {v : Value} {L : List Rn} (h : LiU w w5 v L) (ga : w5.grownBy wa none) : LiU w wa v L :=
 World.ownsRow.kept h ga (by
        cases hv : v.ownBlock with
  | none => exact .inl rfl
  | some g => exact .inr (by simp))
theorem LiU.thru {w w5 wa wx wc : World} {B : Nat} {v : Value} {L : List Rn} (h : LiU w w5 v L) (ga : w5.grownBy wa none) (gx : wa.grownBy wx (some B)) (gc : wx.grownBy wc none) (hB : w5.heap.size ≤ B) : LiU w wc v L := by
 have k3 : LiU w wx v L := World.ownsRow.kept (h.idleU ga) gx (Or.inr (fun e => by
        have := (World.ownsRow.lt h _ e).2
        omega))
 exact k3.idleU gc
end Go.Proofs.YtoabnpdoicbpiaaGreat
namespace Go.Proofs.YtoabnpdoicbpiaaGreat
set_option linter.unusedVariables false
set_option linter.unusedSimpArgs false
open Go.RowKit Go.Shelf Go.Maps Go.Proofs.YtoabnpdoicbpiaaGreat.Nm
theorem flatO_snoc (A : List Uo) (u : Uo) : flatO (A ++ [u]) = flatO A ++ u.T.flatMap rowU := by
 unfold flatO
 rw [List.flatMap_append, List.flatMap_singleton]
theorem perm_tail {x : Rn} {A B C : List Rn} (h : A.Perm (x :: B)) (h2 : B.Perm C) : A.Perm (x :: C) := h.trans (h2.cons x)
theorem row_end {soa : Rn} {L A : List Rn} {s : Ust} {DR : List Rn} (h : L.Perm (soa :: (A ++ DR.map (rowF s)))) (hp : DR.Perm s.R) : L.Perm (soa :: (A ++ rowU s)) :=
 perm_tail h (List.Perm.append_left _ (hp.map _))
theorem typ_end {soa : Rn} {L A : List Rn} {u : Uo} {DT : List Ust} (h : L.Perm (soa :: (A ++ DT.flatMap rowU))) (hp : DT.Perm u.T) : L.Perm (soa :: (A ++ u.T.flatMap rowU)) :=
 perm_tail h (List.Perm.append_left _ (hp.flatMap_right _))
theorem row_more {soa x : Rn} {L A B : List Rn} (h : L.Perm (soa :: (A ++ B))) : (L ++ [x]).Perm (soa :: (A ++ (B ++ [x]))) := by
 rw [← List.append_assoc]
 exact (h.append_right [x])
theorem own_snocU {w w9 : World} {v : Value} {E : List Rn} {x : Rn} (h : w9.ownsRow w.heap.size 29 5 v (E.length + [x].length) (rce5 E ++ rce5 [x])) : LiU w w9 v (E ++ [x]) := by
 unfold LiU
 rw [rce5_appU, List.length_append]
 exact h
theorem Bx.setU {w : World} {R : Nat} {a b c d e : Value} {T : TypeId} (h : Bx w R #[a, b, c, d, e] T) (x : Value) : Bx (w.setCell ⟨R, 3, none⟩ x) R #[a, b, c, x, e] T := h.set 3 x
set_option maxRecDepth 100000 in
set_option maxHeartbeats 16000000 in
theorem recordsU_any {w : World} {base D M : Nat} {apex : ByteArray} {soa : Rn} {O : List Uo} (h : Dra w base D M apex soa O) (hlen : (flatO O).length ≤ 1000000) :
  Calls Tryz.prog 31 #[.pointer (some ⟨D, 0, none⟩)] w fun r w' => (∃ v L, r = .returned v ∧ LiU w w' v L ∧ L.Perm (soa :: flatO O)) ∧ Below w.heap.size w w' := by
 have HD := hide' h
 have HLen : Hid ((flatO O).length ≤ 1000000) := hlen
 obtain ⟨d1, d2, d3, d4, d5, d6⟩ : w.cell? ⟨D, 1, none⟩ = some (.string soa.o) ∧ w.cell? ⟨D, 2, none⟩ = some (.int .i64 soa.t) ∧ w.cell? ⟨D, 3, none⟩ = some (.int .i64 soa.c) ∧ w.cell? ⟨D, 4, none⟩ = some (.int .i64 soa.l) ∧ w.cell? ⟨D, 5, none⟩ = some (.string soa.d) ∧ True := ⟨h.bx.cell rfl, h.bx.cell rfl, h.bx.cell rfl, h.bx.cell rfl, h.bx.cell rfl, trivial⟩
 clear d6
 obtain ⟨so, st, sc, sl, sd⟩ := soa
 simp only at d1 d2 d3 d4 d5
 obtain ⟨wb, hwb⟩ : ∃ v, w.alloc (.cells #[.string so, .int .i64 st, .int .i64 sc, .int .i64 sl, .string sd] 29) = v := ⟨_, rfl⟩
 have HO0 : Hid (LiU w wb (.slice (some ⟨w.heap.size, 0, none⟩) 1 1) [⟨so, st, sc, sl, sd⟩]) := own_new1U (base := w.heap.size) hwb (Nat.le_refl _)
 have HB0 : Hid (Below w.heap.size w wb) := hwb ▸ (Below.refl _ w).alloc (Nat.le_refl _) _
 have d6 : wb.cell? ⟨D, 6, none⟩ = some (.map (some M)) := (h.idle (grown_below HB0.out none)).bx.cell rfl
 obtain ⟨w0, left0, hrun0, hrg0, hall0, hg0, hs0⟩ := (h.idle (grown_below HB0.out none)).om.range
 have HR0 := hide' hrg0
 have HA0 := hide' hall0
 have HO1 := hide' (LiU.idleU HO0.out hg0)
 have HB1 : Hid (Below w.heap.size w w0) := HB0.out.grown hg0 HB0.out.size (fun k e => by cases e)
 have HS0 := hide' HB0.out.size
 have HML : Hid (M < w.heap.size ∧ (∀ u ∈ O, u.b < w.heap.size ∧ ∀ s ∈ u.T, s.m < w.heap.size)) := ⟨h.om.lt, fun u hu => ⟨(h.tm u hu).lt, fun s hs => (h.rm u hu s hs).lt⟩⟩
 have HON := hide' h.om.nodup
 have HOG := hide' h.om.good
 obtain ⟨r1, hr1⟩ : ∃ r1, wb.heap.size = r1 := ⟨_, rfl⟩
 rw [hr1] at hrun0 HR0 HS0
 clear h hlen hrg0 hall0 hg0 hs0
 go_enter Tryz.func31, Tryz.ntmps31
 go_wp2_with fail
 go_loopw [3] (fun v wr => ∃ (left : Lit → Bool) (cnt : Nat) (DO RO : List Uo) (L : List Rn) (p : Option Addr) (c : Nat), v = .slice p L.length c ∧ Hid (LiU w wr (.slice p L.length c) L) ∧ Hid (L.Perm (⟨so, st, sc, sl, sd⟩ :: flatO DO)) ∧ Hid (Ru Uo.o usL left O DO RO) ∧ Hid (Orng wr M r1 left cnt O) ∧ Hid (Below w.heap.size w wr)) (fun _ wr => wr.rangeLeft M r1)
 case atStart => exact ⟨left0, _, [], O, [⟨so, st, sc, sl, sd⟩], _, _, rfl, HO1.out, List.Perm.refl _, Ru.start HA0.out, HR0.out, HB1.out⟩
 case round =>
  obtain ⟨left, cnt, DO, RO, L, p, c, rfl, HL, HP, HU, HR, HB⟩ := hrel
  rcases HR.out.next 0 with ⟨hc0, hl0, hrun⟩ | ⟨u, hu, w1, cnt1, hla, hrun, hrg1, hlt, hg1, hs1, hen⟩
  ·have HE := hide' (flat_perm2 (HU.out.last hl0))
   clear hl0 hc0
   go_wp2_with fail
   go_ret
   exact ⟨⟨_, L, rfl, HL.out, perm_tail HP.out HE.out⟩, HB.out⟩
  ·obtain ⟨RO1, hU1⟩ := HU.out.step HON.out hu hla (fun x hx => us_same (HOG.out x hx) (HOG.out u hu))
   have HU1 := hide' hU1
   have HRm : Hid ((flatO DO).length + (u.T.flatMap rowU).length ≤ (flatO O).length) := room_of hU1 (fun u => u.T.flatMap rowU)
   have HLa := hide' (HL.out.iter HR.out hg1)
   have HBa : Hid (Below w.heap.size w w1) := HB.out.grown hg1 HB.out.size (fun k e => by injection e with e; rw [← e]; exact HS0.out)
   have HLt : Hid (cnt1 < cnt) := hlt
   have HM0 := hide' HR.out.left_eq
   have hD1 := HD.out.idle (grown_below HBa.out none)
   have hT1 := hD1.tm u hu
   obtain ⟨w2, left2, hrun2, hrg2, hall2, hg2, hs2⟩ := hT1.range
   have HTN := hide' hT1.nodup
   have HTG := hide' hT1.good
   have HR2 := hide' hrg2
   have HA2 := hide' hall2
   have HO2 := hide' (Lrng.kept hrg1 hg2 (by simp) (by simp))
   have HL2 := hide' (HLa.out.idleU hg2)
   have HB2 : Hid (Below w.heap.size w w2) := HBa.out.grown hg2 HBa.out.size (fun k e => by cases e)
   have hr1lt := hrg1.lt
   have hub := (HML.out.2 u hu).1
   have HK2 : Hid (r1 < w1.heap.size ∧ w.heap.size ≤ r1 ∧ M < w.heap.size ∧ u.b < w.heap.size ∧ ∀ s ∈ u.T, s.m < w.heap.size) := ⟨hr1lt, HS0.out, HML.out.1, hub, (HML.out.2 u hu).2⟩
   have HSb : Hid (∀ V, Below w.heap.size w V → ∀ s ∈ u.T, V.cell? ⟨s.b, 0, none⟩ = some (.int .i64 s.age) ∧ V.cell? ⟨s.b, 1, none⟩ = some (.map (some s.m)) ∧ Rmap V s.m s.R) := fun V hV s hs => by
    have hd := HD.out.idle (grown_below hV none)
    exact ⟨(hd.sb u hu s hs).cell rfl, (hd.sb u hu s hs).cell rfl, hd.rm u hu s hs⟩
   obtain ⟨r2, hr2⟩ : ∃ r2, w1.heap.size = r2 := ⟨_, rfl⟩
   rw [hr2] at hrun2 HR2 HK2
   clear hU1 hu hla hrg1 hlt hg1 hs1 hD1 hT1 hrg2 hall2 hg2 hs2 hr1lt hub
   go_wp2_with fail
   go_loopw [3] (fun v wr => ∃ (left3 : Lit → Bool) (cnt3 : Nat) (DT RT : List Ust) (L : List Rn) (p : Option Addr) (c : Nat), v = .slice p L.length c ∧ Hid (LiU w wr (.slice p L.length c) L) ∧ Hid (L.Perm (⟨so, st, sc, sl, sd⟩ :: (flatO DO ++ DT.flatMap rowU))) ∧ Hid (Ru Ust.t uiL left3 u.T DT RT) ∧ Hid (Trng wr u.b r2 left3 cnt3 u.T) ∧ Hid (Orng wr M r1 (fun x => left x && !x.sameKey (usL u.o)) cnt1 O) ∧ Hid (Below w.heap.size w wr)) (fun _ wr => wr.rangeLeft u.b r2)
   case atStart => exact ⟨left2, _, [], u.T, L, p, c, rfl, HL2.out, (by unfold Hid; simpa using HP.out), Ru.start HA2.out, HR2.out, HO2.out, HB2.out⟩
   case round =>
    obtain ⟨left3, cnt3, DT, RT, L3, p3, c3, rfl, HL3, HP3, HU3, HR3, HO3, HB3⟩ := hrel
    rcases HR3.out.next 0 with ⟨hc0, hl0, hrun3⟩ | ⟨s, hs, w3, cnt4, hla, hrun3, hrg3, hlt, hg3, hs3, hen3⟩
    ·have HE := hide' (typ_end HP3.out (HU3.out.last hl0))
     have HM1 := hide' HO3.out.left_eq
     clear hl0 hc0
     go_wp2_with fail
     go_roundw
     case rel => exact ⟨_, cnt1, DO ++ [u], RO1, L3, p3, c3, rfl, HL3.out, (by rw [flatO_snoc]; exact HE.out), HU1.out, HO3.out, HB3.out⟩
     case measure => rw [HM0.out, HM1.out]; exact HLt.out
    ·obtain ⟨RT1, hU4⟩ := HU3.out.step HTN.out hs hla (fun x hx => ui_same (HTG.out x hx) (HTG.out s hs))
     have HU4 := hide' hU4
     have HRs : Hid ((DT.flatMap rowU).length + (rowU s).length ≤ (u.T.flatMap rowU).length) := room_of hU4 rowU
     have HLa3 := hide' (HL3.out.iter HR3.out hg3)
     have HBa3 : Hid (Below w.heap.size w w3) := HB3.out.grown hg3 HB3.out.size (fun k e => by injection e with e; rw [← e]; have := HK2.out; omega)
     have HLt3 : Hid (cnt4 < cnt3) := hlt
     have HM3 := hide' HR3.out.left_eq
     obtain ⟨q0, q1, hRm⟩ := HSb.out w3 HBa3.out s hs
     obtain ⟨w4, left4, hrun4, hrg4, hall4, hg4, hs4⟩ := hRm.range
     have HRN := hide' hRm.nodup
     have HRG := hide' hRm.good
     have HR4 := hide' hrg4
     have HA4 := hide' hall4
     have HT4 := hide' (Lrng.kept hrg3 hg4 (by simp) (by simp))
     have HO4 := hide' ((HO3.out.kept hg3 (fun e => by injection e with e; have := HK2.out; omega) (fun e => by injection e with e; have := HK2.out; omega)).kept hg4 (by simp) (by simp))
     have HL4 := hide' (HLa3.out.idleU hg4)
     have HB4 : Hid (Below w.heap.size w w4) := HBa3.out.grown hg4 HBa3.out.size (fun k e => by cases e)
     have hr3lt := hrg3.lt
     have hsm := HK2.out.2.2.2.2 s hs
     have HK4 : Hid (r1 < r2 ∧ r2 < w3.heap.size ∧ w.heap.size ≤ r1 ∧ M < w.heap.size ∧ u.b < w.heap.size ∧ s.m < w.heap.size) := ⟨HK2.out.1, hr3lt, HK2.out.2.1, HK2.out.2.2.1, HK2.out.2.2.2.1, hsm⟩
     have HSc : Hid (∀ V, Below w.heap.size w V → V.cell? ⟨s.b, 0, none⟩ = some (.int .i64 s.age)) := fun V hV => (HSb.out V hV s hs).1
     obtain ⟨r3, hr3⟩ : ∃ r3, w3.heap.size = r3 := ⟨_, rfl⟩
     rw [hr3] at hrun4 HR4 HK4
     clear hU4 hs hla hrg3 hlt hg3 hs3 hRm hrg4 hall4 hg4 hs4 hr3lt hsm q0
     go_wp2_with fail
     go_loopw [3] (fun v wr => ∃ (left5 : Lit → Bool) (cnt5 : Nat) (DR RR : List Rn) (L : List Rn) (p : Option Addr) (c : Nat), v = .slice p L.length c ∧ Hid (LiU w wr (.slice p L.length c) L) ∧ Hid (L.Perm (⟨so, st, sc, sl, sd⟩ :: ((flatO DO ++ DT.flatMap rowU) ++ DR.map (rowF s)))) ∧ Hid (Ru rkS usL left5 s.R DR RR) ∧ Hid (Rrng wr s.m r3 left5 cnt5 s.R) ∧ Hid (Trng wr u.b r2 (fun x => left3 x && !x.sameKey (uiL s.t)) cnt4 u.T) ∧ Hid (Orng wr M r1 (fun x => left x && !x.sameKey (usL u.o)) cnt1 O) ∧ Hid (Below w.heap.size w wr)) (fun _ wr => wr.rangeLeft s.m r3)
     case atStart => exact ⟨left4, _, [], s.R, L3, p3, c3, rfl, HL4.out, (by unfold Hid; simpa using HP3.out), Ru.start HA4.out, HR4.out, HT4.out, HO4.out, HB4.out⟩
     case round =>
      obtain ⟨left5, cnt5, DR, RR, L5, p5, c5, rfl, HL5, HP5, HU5, HR5, HT5, HO5, HB5⟩ := hrel
      rcases HR5.out.next 0 with ⟨hc0, hl0, hrun5⟩ | ⟨a, ha, w5, cnt6, hla, hrun5, hrg5, hlt, hg5, hs5, hen5⟩
      ·have HE := hide' (row_end HP5.out (HU5.out.last hl0))
       have HM4 := hide' HT5.out.left_eq
       clear hl0 hc0
       go_wp2_with fail
       go_roundw
       case rel => exact ⟨_, cnt4, DT ++ [s], RT1, L5, p5, c5, rfl, HL5.out, (by unfold Hid; rw [List.flatMap_append, List.flatMap_singleton, ← List.append_assoc]; exact HE.out), HU4.out, HT5.out, HO5.out, HB5.out⟩
       case measure => rw [HM3.out, HM4.out]; exact HLt3.out
      ·obtain ⟨RR1, hU6⟩ := HU5.out.step HRN.out ha hla (fun x hx => us_same (HRG.out x hx) (HRG.out a ha))
       obtain ⟨ao, ta, ca, la, da⟩ := a
       simp only at hrun5 hen5
       have HU6 := hide' hU6
       have HN5 : Hid (L5.length + 1 ≤ 10000000) := by
        have h1 := HP5.out.length_eq
        have h2 := hU6.pm.length_eq
        have h3 := HRs.out
        have h4 := HRm.out
        have h5 := HLen.out
        have h6 : (rowU s).length = s.R.length := by unfold rowU; rw [List.length_map]
        unfold Hid
        simp only [List.length_cons, List.length_append, List.length_map, List.length_nil] at h1 h2 h3
        omega
       have HL6 := hide' (HL5.out.iter HR5.out hg5)
       have HS5 : Hid (w.heap.size ≤ w5.heap.size) := by have := HB5.out.size; unfold Hid; omega
       have HB6 : Hid (Below w.heap.size w w5) := HB5.out.grown hg5 HB5.out.size (fun k e => by injection e with e; rw [← e]; have := HK4.out; omega)
       have HR6 := hide' hrg5
       have HG5 := hide' hg5
       have HLt5 : Hid (cnt6 < cnt5) := hlt
       have HM5 := hide' HR5.out.left_eq
       have HK6 : Hid (r1 < w5.heap.size ∧ r2 < w5.heap.size) := by
        have h1 := HT5.out.lt
        have h2 := HO5.out.lt
        unfold Hid
        omega
       clear hU6 ha hla hrg5 hlt hg5 hs5
       obtain ⟨wa, hwa⟩ : ∃ v, w5.alloc (.cells #[.string ao, .int .i64 ta, .int .i64 ca, .int .i64 la, .string da] 29) = v := ⟨_, rfl⟩
       have HGa : Hid (w5.grownBy wa none) := hwa ▸ World.grownBy_alloc w5 _ none
       have HXa : Hid (Bx wa w5.heap.size #[.string ao, .int .i64 ta, .int .i64 ca, .int .i64 la, .string da] 29) := hwa ▸ World.alloc_heap_new w5 _
       have HBa5 : Hid (Below w.heap.size w wa) := HB6.out.grown HGa.out HB6.out.size (fun k e => by cases e)
       by_cases h46 : s.t = 46
       ·have b46 : (s.t == 46) = true := by rw [h46]; rfl
        have n46 : (s.t != 46) = false := by rw [h46]; rfl
        have HX6 : Hid (rowF s ⟨ao, ta, ca, la, da⟩ = ⟨ao, ta, ca, la, da⟩) := by unfold Hid rowF; rw [if_pos h46]
        have HGx : Hid (wa.grownBy wa (some w5.heap.size)) := grown_refl _ _
        have HXx : Hid (Bx wa w5.heap.size #[.string ao, .int .i64 ta, .int .i64 ca, .int .i64 la, .string da] 29) := HXa.out
        obtain ⟨v0, v1, v2, v3, v4⟩ := bx5U HXx.out
        obtain ⟨wc, hwc⟩ : ∃ v, wa.alloc (.cells #[.string ao, .int .i64 ta, .int .i64 ca, .int .i64 la, .string da] 29) = v := ⟨_, rfl⟩
        have HGc : Hid (wa.grownBy wc none) := hwc ▸ World.grownBy_alloc wa _ none
        have HRc : Hid (RsAt wc (some ⟨wa.heap.size, 0, none⟩) [⟨ao, ta, ca, la, da⟩]) := rs_oneU (hwc ▸ World.alloc_heap_new wa _ : Bx wc wa.heap.size _ 29)
        have HLc : Hid (wc.ownsRow w.heap.size 29 5 (.slice p5 L5.length c5) L5.length (rce5 L5)) := (HL6.out.thru HGa.out HGx.out HGc.out (Nat.le_refl _) : LiU w wc (.slice p5 L5.length c5) L5)
        have HBc : Hid (Below w.heap.size w wc) := (HBa5.out.grown HGx.out HBa5.out.size (fun k e => by injection e with e; rw [← e]; exact HS5.out)).grown HGc.out (Nat.le_trans HBa5.out.size HGx.out.size) (fun k e => by cases e)
        clear h46
        go_wp2_with (at_builtin; refine wpList_append_recsM rfl _ _ rfl w.heap.size _ L5.length (rce5 L5) rfl HLc.out (some ⟨wa.heap.size, 0, none⟩) [⟨ao, ta, ca, la, da⟩] 1 rfl HRc.out (fun h => absurd h (Option.some_ne_none _)) HN5.out HBc.out.size ?_; intro v9 w9 ho9 hg9; have HL9 := hide' (own_snocU ho9); have HG9 := hide' hg9; obtain ⟨p9, c9, hv9, -⟩ := own_shape ho9; subst hv9; clear ho9 hg9)
        have HP9 := hide' (row_more (x := ⟨ao, ta, ca, la, da⟩) HP5.out)
        have HR9 := hide' (HR6.out.own HGa.out HGx.out HGc.out HLc.out HG9.out ⟨HK4.out.2.2.2.2.2, (by have := HK4.out; have := HS5.out; omega), (by have := HR6.out.lt; omega)⟩)
        have HT9 := hide' (HT5.out.round HG5.out HGa.out HGx.out HGc.out HLc.out HG9.out ⟨HK4.out.2.2.2.2.1, (by have := HK4.out; omega), (by have := HK4.out; omega), (by have := HK4.out; have := HS5.out; omega), (by have := HK4.out; have := HR6.out.lt; omega)⟩)
        have HO9 := hide' (HO5.out.round HG5.out HGa.out HGx.out HGc.out HLc.out HG9.out ⟨HK4.out.2.2.2.1, (by have := HK4.out; omega), (by have := HK4.out; omega), (by have := HK4.out; have := HS5.out; omega), (by have := HK4.out; have := HR6.out.lt; omega)⟩)
        have HB9 : Hid (Below w.heap.size w w9) := HBc.out.grown HG9.out HBc.out.size (fun q e => (World.ownsRow.lt HLc.out _ e).1)
        have HM9 := hide' HR9.out.left_eq
        go_roundw
        case rel => exact ⟨_, cnt6, DR ++ [(⟨ao, ta, ca, la, da⟩ : Rn)], RR1, L5 ++ [(⟨ao, ta, ca, la, da⟩ : Rn)], p9, c9, by simp, (by have := HL9.out; unfold Hid; simpa using this), (by rw [List.map_append, List.map_singleton, HX6.out]; exact HP9.out), HU6.out, HR9.out, HT9.out, HO9.out, HB9.out⟩
        case measure => rw [HM5.out, HM9.out]; exact HLt5.out
       ·have b46 : (s.t == 46) = false := by rw [beq_eq_false_iff_ne]; exact h46
        have n46 : (s.t != 46) = true := by simpa using h46
        have HX6 : Hid (rowF s ⟨ao, ta, ca, la, da⟩ = ⟨ao, ta, ca, s.age, da⟩) := by unfold Hid rowF; rw [if_neg h46]
        have ag := HSc.out wa HBa5.out
        have fz : wa.frozen? ⟨w5.heap.size, 3, none⟩ = false := HXa.out.free 3
        obtain ⟨wx, hwx⟩ : ∃ v, wa.setCell ⟨w5.heap.size, 3, none⟩ (.int .i64 s.age) = v := ⟨_, rfl⟩
        have HGx : Hid (wa.grownBy wx (some w5.heap.size)) := hwx ▸ grown_set _ _ _ _
        have HXx : Hid (Bx wx w5.heap.size #[.string ao, .int .i64 ta, .int .i64 ca, .int .i64 s.age, .string da] 29) := hwx ▸ Bx.setU HXa.out _
        obtain ⟨v0, v1, v2, v3, v4⟩ := bx5U HXx.out
        obtain ⟨y0, y1, y2, y3, y4⟩ := bx5U HXa.out
        obtain ⟨wc, hwc⟩ : ∃ v, wx.alloc (.cells #[.string ao, .int .i64 ta, .int .i64 ca, .int .i64 s.age, .string da] 29) = v := ⟨_, rfl⟩
        have HGc : Hid (wx.grownBy wc none) := hwc ▸ World.grownBy_alloc wx _ none
        have HRc : Hid (RsAt wc (some ⟨wx.heap.size, 0, none⟩) [⟨ao, ta, ca, s.age, da⟩]) := rs_oneU (hwc ▸ World.alloc_heap_new wx _ : Bx wc wx.heap.size _ 29)
        have HLc : Hid (wc.ownsRow w.heap.size 29 5 (.slice p5 L5.length c5) L5.length (rce5 L5)) := (HL6.out.thru HGa.out HGx.out HGc.out (Nat.le_refl _) : LiU w wc (.slice p5 L5.length c5) L5)
        have HBc : Hid (Below w.heap.size w wc) := (HBa5.out.grown HGx.out HBa5.out.size (fun k e => by injection e with e; rw [← e]; exact HS5.out)).grown HGc.out (Nat.le_trans HBa5.out.size HGx.out.size) (fun k e => by cases e)
        clear h46
        go_wp2_with (at_builtin; refine wpList_append_recsM rfl _ _ rfl w.heap.size _ L5.length (rce5 L5) rfl HLc.out (some ⟨wx.heap.size, 0, none⟩) [⟨ao, ta, ca, s.age, da⟩] 1 rfl HRc.out (fun h => absurd h (Option.some_ne_none _)) HN5.out HBc.out.size ?_; intro v9 w9 ho9 hg9; have HL9 := hide' (own_snocU ho9); have HG9 := hide' hg9; obtain ⟨p9, c9, hv9, -⟩ := own_shape ho9; subst hv9; clear ho9 hg9)
        have HP9 := hide' (row_more (x := ⟨ao, ta, ca, s.age, da⟩) HP5.out)
        have HR9 := hide' (HR6.out.own HGa.out HGx.out HGc.out HLc.out HG9.out ⟨HK4.out.2.2.2.2.2, (by have := HK4.out; have := HS5.out; omega), (by have := HR6.out.lt; omega)⟩)
        have HT9 := hide' (HT5.out.round HG5.out HGa.out HGx.out HGc.out HLc.out HG9.out ⟨HK4.out.2.2.2.2.1, (by have := HK4.out; omega), (by have := HK4.out; omega), (by have := HK4.out; have := HS5.out; omega), (by have := HK4.out; have := HR6.out.lt; omega)⟩)
        have HO9 := hide' (HO5.out.round HG5.out HGa.out HGx.out HGc.out HLc.out HG9.out ⟨HK4.out.2.2.2.1, (by have := HK4.out; omega), (by have := HK4.out; omega), (by have := HK4.out; have := HS5.out; omega), (by have := HK4.out; have := HR6.out.lt; omega)⟩)
        have HB9 : Hid (Below w.heap.size w w9) := HBc.out.grown HG9.out HBc.out.size (fun q e => (World.ownsRow.lt HLc.out _ e).1)
        have HM9 := hide' HR9.out.left_eq
        go_roundw
        case rel => exact ⟨_, cnt6, DR ++ [(⟨ao, ta, ca, la, da⟩ : Rn)], RR1, L5 ++ [(⟨ao, ta, ca, s.age, da⟩ : Rn)], p9, c9, by simp, (by have := HL9.out; unfold Hid; simpa using this), (by rw [List.map_append, List.map_singleton, HX6.out]; exact HP9.out), HU6.out, HR9.out, HT9.out, HO9.out, HB9.out⟩
        case measure => rw [HM5.out, HM9.out]; exact HLt5.out
end Go.Proofs.YtoabnpdoicbpiaaGreat
