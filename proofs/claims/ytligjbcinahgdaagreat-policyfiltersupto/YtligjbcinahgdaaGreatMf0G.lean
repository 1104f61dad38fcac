import Derived.Maps.OwnSet
import Derived.Maps.OwnOps
import Derived.DeepKeys4
import Derived.Test.YtligjbcinahgdaaGreatProg
import Derived.Test.YtligjbcinahgdaaGreatGr0G
import Derived.Laws.AppendOwnNone
import Derived.Deep.AppendLies
import Derived.Deep.RegionLaw
/-
  Proofs: maps as functions. (The verifier's own text.)
-/
namespace Go.Proofs.YtligjbcinahgdaaGreat
set_option linter.unusedVariables false
set_option linter.unusedSimpArgs false
open Go.RowKit Go.Maps

theorem zlaid : laidOutB Tryz.prog = true := by kernel_rfl
theorem ztypes : ∃ m, Tryz.prog.types.size = m + 1 := ⟨Tryz.prog.types.size - 1, by
  have : (1 : Nat) ≤ Tryz.prog.types.size := of_decide_eq_true (by kernel_rfl)
  omega⟩
theorem zcInt : Tryz.prog.cellsOf 3 = 1 := by kernel_rfl

/-- a map in memory, as a function -/
def Mf {κ β : Type} (k : TypeId) (R : Value → Option (DataW Unit × List MemPlace)) (kl : κ → Lit) (G : κ → Prop) (dv : β → DataW Unit) (w : World) (b n : Nat) (f : κ → Option β) : Prop :=
  ∃ D : DataW Unit, w.ownsMap Tryz.prog k R b n D ∧ ∀ x, G x → Maps.has D (kl x) = (f x).isSome ∧ ∀ v, f x = some v → ∀ z, D.atKey (kl x) z = dv v
section
variable {κ β : Type} {k : TypeId} {R : Value → Option (DataW Unit × List MemPlace)} {kl : κ → Lit} {G : κ → Prop} {dv : β → DataW Unit} {w w' : World} {b n : Nat} {f f' : κ → Option β}
theorem Mf.made (w : World) : Mf k R kl G dv (w.alloc (.map #[] 0)) w.heap.size 0 (fun _ => (none : Option β)) :=
  ⟨.map [], World.ownsMap_made w Tryz.prog k R, fun x _ => ⟨rfl, fun v h => by cases h⟩⟩
theorem Mf.lt (h : Mf k R kl G dv w b n f) : b < w.heap.size := by obtain ⟨D, h, _⟩ := h; exact h.lt
theorem Mf.grown {r : Option Nat} (h : Mf k R kl G dv w b n f) (hg : w.grownBy w' r) (hne : some b ≠ r) : Mf k R kl G dv w' b n f := by
  obtain ⟨D, h, h'⟩ := h
  exact ⟨D, h.kept hg hne, h'⟩
theorem Mf.mono {n' : Nat} (h : Mf k R kl G dv w b n f) (hn : n ≤ n') : Mf k R kl G dv w b n' f := by
  obtain ⟨D, h, h'⟩ := h
  exact ⟨D, h.mono hn, h'⟩
theorem Mf.ext (h : Mf k R kl G dv w b n f) (he : ∀ x, G x → f' x = f x) : Mf k R kl G dv w b n f' := by
  obtain ⟨D, h, h'⟩ := h
  exact ⟨D, h, fun x hx => by rw [he x hx]; exact h' x hx⟩
theorem mf_put {D : DataW Unit} {n' : Nat} (K : Keyed Tryz.prog k) (hm : IsMap D) (h : ∀ x, G x → Maps.has D (kl x) = (f x).isSome ∧ ∀ v, f x = some v → ∀ z, D.atKey (kl x) z = dv v)
    (hk : ∀ x, G x → WideAt.IsKeyLit (kl x)) (hinj : ∀ x y, G x → G y → kl x = kl y → x = y) {x : κ} (hx : G x) {v : β} (hown : w'.ownsMap Tryz.prog k R b n' (D.put (kl x) (dv v)))
    (h1 : f' x = some v) (h2 : ∀ y, G y → y ≠ x → f' y = f y) : Mf k R kl G dv w' b n' f' := by
  refine ⟨_, hown, fun y hy => ?_⟩
  by_cases e : y = x
  · subst e
    rw [h1]
    refine ⟨?_, fun u hu z => ?_⟩
    · rw [has_put_same hm (hk y hy)]; rfl
    · cases hu
      exact atKey_put_same hm (hk y hy) _ _
  · have hne : kl y ≠ kl x := fun h => e (hinj y x hy hx h)
    rw [h2 y hy e]
    refine ⟨?_, fun u hu z => ?_⟩
    · rw [has_put_other hne]; exact (h y hy).1
    · rw [atKey_put_other hne]; exact (h y hy).2 u hu z
theorem mf_del {D : DataW Unit} {n' : Nat} (h : ∀ x, G x → Maps.has D (kl x) = (f x).isSome ∧ ∀ v, f x = some v → ∀ z, D.atKey (kl x) z = dv v)
    (hinj : ∀ x y, G x → G y → kl x = kl y → x = y) {x : κ} (hx : G x) (hown : w'.ownsMap Tryz.prog k R b n' (D.del (kl x)))
    (h1 : f' x = none) (h2 : ∀ y, G y → y ≠ x → f' y = f y) : Mf k R kl G dv w' b n' f' := by
  refine ⟨_, hown, fun y hy => ?_⟩
  by_cases e : y = x
  · subst e
    rw [h1]
    exact ⟨has_del_same, fun u hu => by cases hu⟩
  · have hne : kl y ≠ kl x := fun h => e (hinj y x hy hx h)
    rw [h2 y hy e]
    refine ⟨?_, fun u hu z => ?_⟩
    · rw [has_del_other hne]; exact (h y hy).1
    · rw [atKey_del_other hne]; exact (h y hy).2 u hu z
end
end Go.Proofs.YtligjbcinahgdaaGreat

/-
  Rows of structs in memory, whatever the struct. (The verifier's own text.)
-/
namespace Go.Proofs.YtligjbcinahgdaaGreat
set_option linter.unusedVariables false
open Go.RowKit Go.Shelf

section
variable {α : Type} {C : Nat} {V : α → List Value}
/-- structs as cells -/
def rowV (V : α → List Value) : List α → List Value
  | [] => []
  | x :: l => V x ++ rowV V l
theorem rowV_app : ∀ (L M : List α), rowV V (L ++ M) = rowV V L ++ rowV V M
  | [], M => by simp [rowV]
  | y :: l, M => by simp only [List.cons_append, rowV, rowV_app l M, List.append_assoc]
end

theorem bxNew (w : World) (cs : Array Value) (T : TypeId) : Bx (w.alloc (.cells cs T)) w.heap.size cs T := World.alloc_heap_new w _
end Go.Proofs.YtligjbcinahgdaaGreat

/-
  Rows of one's own that begin somewhere in their block: behind x = x[1:]. (The verifier's own text.)
-/
namespace Go.Proofs.YtligjbcinahgdaaGreat
set_option linter.unusedVariables false
open Go.RowKit Go.Shelf

/-- a row of one's own, from some place of its block on -/
def Orow (w : World) (base e size : Nat) (v : Value) (n : Nat) (xs : List Value) : Prop :=
  xs.length = n * size ∧ ((v = .slice none 0 0 ∧ n = 0) ∨ ∃ g o cap cur, v = .slice (some ⟨g, o * size, none⟩) n cap ∧ base ≤ g ∧ w.heap[g]? = some (.cells cur e (0, 0)) ∧ n ≤ cap ∧ cap ≤ maxLen ∧ cur.size = (o + cap) * size ∧ (cur.toList.drop (o * size)).take (n * size) = xs)
section
variable {w w' : World} {base e size n : Nat} {v : Value} {xs : List Value}
theorem Orow.empty (w : World) (base e size : Nat) : Orow w base e size (.slice none 0 0) 0 [] := ⟨by simp, .inl ⟨rfl, rfl⟩⟩
theorem Orow.lt (h : Orow w base e size v n xs) : ∀ k, v.ownBlock = some k → base ≤ k ∧ k < w.heap.size := by
  intro k hk
  rcases h.2 with ⟨rfl, _⟩ | ⟨g, o, cap, cur, rfl, hb, hg, _⟩
  · simp [Value.ownBlock] at hk
  · simp [Value.ownBlock] at hk
    subst hk
    exact ⟨hb, (Array.getElem?_eq_some_iff.1 hg).1⟩
theorem Orow.kept {row : Option Nat} (h : Orow w base e size v n xs) (hg : w.grownBy w' row) (hne : ∀ k, v.ownBlock = some k → row ≠ some k) : Orow w' base e size v n xs := by
  refine ⟨h.1, ?_⟩
  rcases h.2 with hn | ⟨g, o, cap, cur, rfl, hb, hgg, rest⟩
  · exact .inl hn
  · refine .inr ⟨g, o, cap, cur, rfl, hb, ?_, rest⟩
    rw [hg.block g (Array.getElem?_eq_some_iff.1 hgg).1 (fun e => hne g rfl e.symm)]
    exact hgg
theorem Orow.form (h : Orow w base e size v n xs) : ∃ p c, v = .slice p n c ∧ n ≤ c ∧ c ≤ maxLen ∧ (p = none → c = 0) := by
  rcases h.2 with ⟨rfl, rfl⟩ | ⟨g, o, cap, cur, rfl, hb, hg, hn, hc, _⟩
  · exact ⟨none, 0, rfl, Nat.le_refl _, Nat.zero_le _, fun _ => rfl⟩
  · exact ⟨_, cap, rfl, hn, hc, fun e => by cases e⟩
/-- its cells -/
theorem Orow.cells {ad : Addr} {c : Nat} (h : Orow w base e size (.slice (some ad) n c) n xs) : ∀ j u, xs[j]? = some u → w.cell? (ad.add j) = some u := by
  intro j u hu
  rcases h.2 with ⟨h, _⟩ | ⟨g, o, cap, cur, hv, _, hgg, _, _, _, htake⟩
  · cases h
  · injection hv with hv _ _
    injection hv with hv
    subst hv
    have hadd : (⟨g, o * size, none⟩ : Addr).add j = ⟨g, o * size + j, none⟩ := by unfold Addr.add; split <;> simp_all
    rw [hadd, cell_of_row w g (o * size + j) cur e (0, 0) hgg]
    rw [← htake, List.getElem?_take] at hu
    split at hu
    · rw [List.getElem?_drop] at hu
      simpa using hu
    · cases hu
/-- one that begins at its block's head -/
theorem Orow.own (h : w.ownsRow base e size v n xs) : Orow w base e size v n xs := by
  refine ⟨h.1, ?_⟩
  rcases h.2 with hn | ⟨g, cap, cur, rfl, hb, hgg, h1, h2, h3, h4⟩
  · exact .inl hn
  · exact .inr ⟨g, 0, cap, cur, by simp, hb, hgg, h1, h2, by simpa using h3, by simpa using h4⟩
/-- without its first element -/
theorem Orow.tail {xs' : List Value} (h : Orow w base e size v (n + 1) xs) (hx : xs.drop size = xs') : ∃ g o cap, v = .slice (some ⟨g, o * size, none⟩) (n + 1) cap ∧ n + 1 ≤ cap ∧ cap ≤ maxLen ∧ Orow w base e size (.slice (some ⟨g, o * size + size, none⟩) n (cap - 1)) n xs' := by
  subst hx
  rcases h.2 with ⟨_, h⟩ | ⟨g, o, cap, cur, rfl, hb, hgg, h1, h2, h3, h4⟩
  · omega
  · refine ⟨g, o, cap, rfl, h1, h2, ?_, .inr ⟨g, o + 1, cap - 1, cur, by rw [Nat.succ_mul], hb, hgg, by omega, by omega, by rw [h3]; congr 1; omega, ?_⟩⟩
    · rw [List.length_drop, h.1, Nat.succ_mul]; omega
    · rw [← h4, Nat.succ_mul, Nat.succ_mul, List.drop_take, List.drop_drop]
      congr 1
      omega
end
section
variable {P : Program} (w : World)
theorem run_append_off (t ty e : TypeId) (i : TypeInfo) (ht : P.underlying t = some (.slice e)) (hi : P.info? e = some i)
    (g k sLen sCap : Nat) (cur : Array Value) (hg : w.heap[g]? = some (.cells cur e (0, 0)))
    (a : Addr) (m c : Nat) (news : List Value) (hl : news.length = m * i.size) (hnews : ∀ j u, news[j]? = some u → w.cell? (a.add j) = some u) (h1 : ∀ u ∈ news, u.oneCell' = true)
    (hroom : sLen + m ≤ sCap) (hfit : k + sLen * i.size + news.length ≤ cur.size) :
    (Builtin.append_ #[t, t] ty #[.slice (some ⟨g, k, none⟩) sLen sCap, .slice (some a) m c]).run P w =
      .ok (.slice (some ⟨g, k, none⟩) (sLen + m) sCap) (w.setRow g (cur.toList.take (k + sLen * i.size) ++ news ++ cur.toList.drop (k + sLen * i.size + news.length)).toArray) := by
  have hf := run_firstCells_some (P := P) w i.size m a m c news hl hnews
  have hst := run_storeCells_at P g (k + sLen * i.size) e news 0 cur w hg (by simpa using hfit) h1
  simp only [Nat.add_zero] at hst
  simp [Builtin.append_, run_underlying ht, sizeOf, typeInfo, hi, Builtin.lenOf, hroom, hf, Addr.add_lit, hst]
/-- append onto such a row -/
theorem Orow.append (base : Nat) (t ty e : TypeId) (i : TypeInfo) (z : Value) (size bytes : Nat) (ht : P.underlying t = some (.slice e)) (hi : P.info? e = some i) (hz : i.zero = some z)
    (hsize : i.size = size) (hby : i.bytes = bytes) (hzs : z.cells.size = size) (hsz : 0 < size)
    (v : Value) (n : Nat) (xs : List Value) (hown : Orow w base e size v n xs)
    (a : Addr) (m c : Nat) (news : List Value) (hl : news.length = m * size) (hnews : ∀ j u, news[j]? = some u → w.cell? (a.add j) = some u) (h1 : ∀ u ∈ news, u.oneCell' = true)
    (hm : 0 < m) (h63 : n + m ≤ maxLen) (hbytes : (n + m) * bytes ≤ 140737488355328) (hbase : base ≤ w.heap.size) :
    ∃ g o cap w', (Builtin.append_ #[t, t] ty #[v, .slice (some a) m c]).run P w = .ok (.slice (some ⟨g, o * size, none⟩) (n + m) cap) w' ∧ Orow w' base e size (.slice (some ⟨g, o * size, none⟩) (n + m) cap) (n + m) (xs ++ news) ∧ w.grownBy w' v.ownBlock ∧
      (v.ownBlock = some g ∨ g = w.heap.size) := by
  subst hsize
  subst hby
  have hsmall : n + m ≤ 9223372036854775807 := by simp only [maxLen] at h63; omega
  have hlen : (xs ++ news).length = (n + m) * i.size := by rw [List.length_append, hown.1, hl, Nat.add_mul]
  have grown : ∀ (old : Nat), old < n + m → ∀ (row : Option Nat),
      Orow (w.drew.alloc (.cells (xs.toArray ++ news.toArray ++ Builtin.zeroCells z.cells (grownCap w (n + m) old e - (n + m))) e)) base e i.size
        (.slice (some ⟨w.heap.size, 0 * i.size, none⟩) (n + m) (grownCap w (n + m) old e)) (n + m) (xs ++ news) ∧
      w.grownBy (w.drew.alloc (.cells (xs.toArray ++ news.toArray ++ Builtin.zeroCells z.cells (grownCap w (n + m) old e - (n + m))) e)) row := by
    intro old ho row
    have hge := grownCap_ge w (n + m) old e
    have hcm : grownCap w (n + m) old e ≤ maxLen := grownCap_le_maxLen w (n + m) old e h63
    refine ⟨⟨hlen, .inr ⟨w.heap.size, 0, _, _, rfl, hbase, heap_alloc_new w.drew _, hge, hcm, ?_, ?_⟩⟩, ⟨rfl, rfl, rfl, by simp, fun k hk _ => Below.heap_alloc w.drew _ k hk⟩⟩
    · simp only [Array.size_append, List.size_toArray, size_zeroCells, hzs, hown.1, hl, ← Nat.add_mul, Nat.zero_add]
      congr 1
      omega
    · simp only [Array.toList_append, List.append_assoc, Nat.zero_mul, List.drop_zero]
      rw [← List.append_assoc, ← hlen]
      exact List.take_left
  rcases hown.2 with ⟨rfl, rfl⟩ | ⟨g, o, cap, cur, rfl, hbg, hg, hnc, hcm, hcs, htake⟩
  · have hx : xs = [] := List.eq_nil_of_length_eq_zero (by simpa using hown.1)
    subst hx
    have hr := run_append_nil (P := P) w t ty e i z ht hi hz a m c news hl hnews (by omega) (by omega) (by have hb := hbytes; simp only [Nat.zero_add] at hb; omega)
    have hgr := grown 0 (by omega) (Value.ownBlock (.slice none 0 0))
    simp only [Nat.zero_add, List.nil_append, Array.empty_append] at hgr ⊢
    refine ⟨w.heap.size, 0, _, _, ?_, hgr.1, hgr.2, .inr rfl⟩
    rw [hr]
    simp
  · by_cases hroom : n + m ≤ cap
    · have hfit : o * i.size + n * i.size + news.length ≤ cur.size := by
        rw [hl, hcs, ← Nat.add_mul, ← Nat.add_mul]
        exact Nat.mul_le_mul_right _ (by omega)
      have hr := run_append_off (P := P) w t ty e i ht hi g (o * i.size) n cap cur hg a m c news hl hnews h1 hroom hfit
      refine ⟨g, o, cap, _, hr, ⟨hlen, .inr ⟨g, o, cap, _, rfl, hbg, setRow_heap w g cur _ e _ hg, hroom, hcm, ?_, ?_⟩⟩, ⟨rfl, rfl, rfl, by simp, fun k _ hk => setRow_other w g k _ (fun e => hk (by simp [Value.ownBlock, e]))⟩, .inl rfl⟩
      · simp only [List.size_toArray, List.length_append, List.length_take, List.length_drop, Array.length_toList]
        omega
      · have hk : (cur.toList.take (o * i.size + n * i.size)).drop (o * i.size) = xs := by
          rw [List.drop_take, ← htake]
          congr 1
          omega
        have hl1 : (cur.toList.take (o * i.size + n * i.size)).length = o * i.size + n * i.size := by rw [List.length_take, Array.length_toList]; omega
        simp only [List.append_assoc]
        rw [List.drop_append_of_le_length (by rw [hl1]; omega), hk, ← List.append_assoc, ← hlen]
        exact List.take_left
    · have holds := hown.cells
      have hr := run_append_grow (P := P) w t ty e i z ht hi hz ⟨g, o * i.size, none⟩ n cap xs hown.1 holds a m c news hl hnews (by omega) (by omega) (growslice_fits (by omega) hbytes)
      have hgr := grown cap (by omega) (Value.ownBlock (.slice (some ⟨g, o * i.size, none⟩) n cap))
      refine ⟨w.heap.size, 0, _, _, ?_, hgr.1, hgr.2, .inr rfl⟩
      rw [hr]
      simp
/-- at a step of a region that draws its order -/
theorem step_append_orow {ops : Array Oper} {o : Oper} {a : Act} {K : Act → World → Prop} {Q : Exit → Act → World → Prop} {E : Prop} (hgd : o.guard = none) (s x : Operand) (t : TypeId)
    (ho : o.op = .call { callee := .builtin .append, args := #[s, x], argTypes := #[t, t] })
    (base : Nat) (e : TypeId) (i : TypeInfo) (z : Value) (size bytes : Nat) (ht : P.underlying t = some (.slice e)) (hi : P.info? e = some i) (hz : i.zero = some z)
    (hsize : i.size = size) (hby : i.bytes = bytes) (hzs : z.cells.size = size) (hsz : 0 < size)
    (v : Value) (n : Nat) (xs : List Value) (hs : a.eval s = v) (hown : Orow w base e size v n xs)
    (ad : Addr) (m c : Nat) (news : List Value) (hx : a.eval x = .slice (some ad) m c) (hl : news.length = m * size) (hnews : ∀ j u, news[j]? = some u → w.cell? (ad.add j) = some u) (h1 : ∀ u ∈ news, u.oneCell' = true)
    (hm : 0 < m) (h63 : n + m ≤ maxLen) (hbytes : (n + m) * bytes ≤ 140737488355328) (hbase : base ≤ w.heap.size)
    (h : ∀ g f cap w', Orow w' base e size (.slice (some ⟨g, f * size, none⟩) (n + m) cap) (n + m) (xs ++ news) → w.grownBy w' v.ownBlock → (v.ownBlock = some g ∨ g = w.heap.size) → K (a.put o.dst (.slice (some ⟨g, f * size, none⟩) (n + m) cap)) w') :
    if Region.wanted o (yielded ops a.tmps) = true then Oper.wp P o a w K Q else E := by
  have hw : Region.wanted o (yielded ops a.tmps) = true := by simp [Region.wanted, hgd]
  rw [if_pos hw]
  obtain ⟨g, f, cap, w', hr, h2, h3, h4⟩ := Orow.append (P := P) w base t o.type e i z size bytes ht hi hz hsize hby hzs hsz v n xs hown ad m c news hl hnews h1 hm h63 hbytes hbase
  unfold Oper.wp execOp
  simp only [ho, resolve, invoke, builtin, Sem.run_bind, Sem.run_pure, Result.andThen_ok, List.map_toArray, List.map_cons, List.map_nil, hs, hx, hr]
  exact h g f cap w' h2 h3 h4
/-- a builtin of two arguments, at a step of a region that draws its order -/
theorem step_builtin2 {ops : Array Oper} {o : Oper} {a : Act} {K : Act → World → Prop} {Q : Exit → Act → World → Prop} {E : Prop} (hgd : o.guard = none) (s x : Operand) (t u : TypeId)
    (ho : o.op = .call { callee := .builtin .delete, args := #[s, x], argTypes := #[t, u] }) (vs vx : Value) (hs : a.eval s = vs) (hx : a.eval x = vx) (r : Value) (w' : World)
    (hr : (Builtin.delete_ #[t, u] o.type #[vs, vx]).run P w = .ok r w') (h : K (a.put o.dst r) w') :
    if Region.wanted o (yielded ops a.tmps) = true then Oper.wp P o a w K Q else E := by
  have hw : Region.wanted o (yielded ops a.tmps) = true := by simp [Region.wanted, hgd]
  rw [if_pos hw]
  unfold Oper.wp execOp
  simp only [ho, resolve, invoke, builtin, Sem.run_bind, Sem.run_pure, Result.andThen_ok, List.map_toArray, List.map_cons, List.map_nil, hs, hx, hr]
  exact h
end
end Go.Proofs.YtligjbcinahgdaaGreat
