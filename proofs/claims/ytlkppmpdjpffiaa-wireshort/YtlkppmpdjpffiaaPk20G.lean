import Derived.Test.YtlkppmpdjpffiaaPk15G
import Derived.Laws.AppendOwnNone
import Derived.Deep.AppendLies
import Derived.Deep.RegionHeldLaw
namespace Go.Proofs.Ytlkppmpdjpffiaa
set_option linter.unusedVariables false
open Go.RowKit Go.Shelf Go.Maps Go.Proofs.Ytlkppmpdjpffiaa.Nm

/-- records as cells -/
def recV (x : Rn) : List Value := [.string x.o, .int .i64 x.t, .int .i64 x.c, .int .i64 x.l, .string x.d]
def recsV : List Rn → List Value
  | [] => []
  | x :: l => recV x ++ recsV l
theorem recsV_len : ∀ L : List Rn, (recsV L).length = L.length * 5
  | [] => rfl
  | x :: l => by simp only [recsV, List.length_append, recsV_len l, List.length_cons]; simp [recV]; omega
theorem recsV_snoc : ∀ (L : List Rn) (x : Rn), recsV (L ++ [x]) = recsV L ++ recV x
  | [], x => by simp [recsV]
  | y :: l, x => by simp only [List.cons_append, recsV, recsV_snoc l x, List.append_assoc]
theorem recsV_one : ∀ (L : List Rn), ∀ u ∈ recsV L, u.oneCell' = true
  | [], u, h => by cases h
  | x :: l, u, h => by
    rcases List.mem_append.1 h with h | h
    · simp [recV] at h; rcases h with rfl | rfl | rfl | rfl | rfl <;> rfl
    · exact recsV_one l u h
theorem recsV_get : ∀ (L : List Rn) (k r : Nat) (hk : k < L.length), r < 5 → (recsV L)[k * 5 + r]? = (recV L[k])[r]?
  | x :: l, 0, r, _, hr => by
    simp only [recsV, Nat.zero_mul, Nat.zero_add, List.getElem_cons_zero]
    rw [List.getElem?_append_left (by simp [recV]; omega)]
  | x :: l, k + 1, r, hk, hr => by
    simp only [recsV, List.getElem_cons_succ]
    rw [List.getElem?_append_right (by simp [recV]; omega)]
    have := recsV_get l k r (by simpa using hk) hr
    rw [← this]
    congr 1
    simp [recV]; omega
theorem recs_news {w : World} {ad : Addr} {L : List Rn} (h : RsAt w (some ad) L) : ∀ j u, (recsV L)[j]? = some u → w.cell? (ad.add j) = some u := by
  intro j u hj
  have hlt : j < L.length * 5 := by have := (List.getElem?_eq_some_iff.1 hj).1; rw [recsV_len] at this; exact this
  have hk : j / 5 < L.length := by omega
  obtain ⟨g, off, hp, _, e0, e1, e2, e3, e4⟩ := h (j / 5) hk
  obtain rfl := Option.some.inj hp
  have hjj : j = j / 5 * 5 + j % 5 := by omega
  have ha : (⟨g, off, none⟩ : Addr).add j = ⟨g, off + j, none⟩ := addr_add _ _ _
  rw [ha]
  have hr := recsV_get L (j / 5) (j % 5) hk (by omega)
  rw [← hjj, hj] at hr
  generalize hkk : j / 5 = k at *
  rcases (show j % 5 = 0 ∨ j % 5 = 1 ∨ j % 5 = 2 ∨ j % 5 = 3 ∨ j % 5 = 4 by omega) with e | e | e | e | e
  · rw [e] at hr; rw [show off + j = off + k * 5 by omega, e0]; simpa [recV] using hr.symm
  · rw [e] at hr; rw [show off + j = off + k * 5 + 1 by omega, e1]; simpa [recV] using hr.symm
  · rw [e] at hr; rw [show off + j = off + k * 5 + 2 by omega, e2]; simpa [recV] using hr.symm
  · rw [e] at hr; rw [show off + j = off + k * 5 + 3 by omega, e3]; simpa [recV] using hr.symm
  · rw [e] at hr; rw [show off + j = off + k * 5 + 4 by omega, e4]; simpa [recV] using hr.symm
theorem Try.infoRec : (Try.prog.info? 35).map (fun i => (i.zero, i.size, i.bytes)) = some (some (.agg #[.string ⟨#[]⟩, .int .i64 0, .int .i64 0, .int .i64 0, .string ⟨#[]⟩]), 5, 56) := by kernel_rfl
/-- 'append(v, l...)' of records, l nil too -/
theorem wpList_append_recs {w : World} {ops : Array Oper} {rest : List Oper} {o : Oper} {a : Act} {Q : Exit → Act → World → Prop} (hgd : o.guard = none) (s x : Operand)
    (ho : o.op = .call { callee := .builtin .append, args := #[s, x], argTypes := #[23, 23] })
    (base : Nat) (v : Value) (n : Nat) (xs : List Value) (hs : a.eval s = v) (hown : w.ownsRow base 35 5 v n xs)
    (p : Option Addr) (l : List Rn) (c : Nat) (hx : a.eval x = .slice p l.length c) (hat : RsAt w p l) (hnone : p = none → c = 0)
    (hsm : n + l.length ≤ 4294967296) (hbase : base ≤ w.heap.size)
    (h : ∀ v' w', w'.ownsRow base 35 5 v' (n + l.length) (xs ++ recsV l) → w.grownBy w' v.ownBlock → wpList Try.prog ops Q rest (a.put o.dst v') w') : wpList Try.prog ops Q (o :: rest) a w := by
  obtain ⟨i0, hi, hz0, hz1, hz2⟩ := info_parts Try.infoRec
  cases p with
  | none =>
    have hl : l = [] := by
      cases l with
      | nil => rfl
      | cons y l => obtain ⟨g, off, hp, _⟩ := hat 0 (by simp); cases hp
    subst hl
    have hc := hnone rfl
    subst hc
    refine wpList_append_own_none hgd s x 23 ho base 35 i0 5 Try.underlying23 hi v n xs hs hown hx (h v w ?_ (grown_refl _ _))
    simpa [recsV] using hown
  | some ad =>
    exact wpList_append_own w hgd s x 23 ho base 35 i0 (.agg #[.string ⟨#[]⟩, .int .i64 0, .int .i64 0, .int .i64 0, .string ⟨#[]⟩]) 5 56 Try.underlying23 hi hz0 hz1 hz2 rfl (by decide) v n xs hs hown ad l.length c (recsV l) hx (recsV_len l) (recs_news hat) (recsV_one l) (by unfold maxLen; omega) (by omega) hbase (fun v' w' h1 h2 _ => h v' w' h1 h2)
/-- a row of records, read -/
theorem rsAt_own {w : World} {base : Nat} {p : Option Addr} {c : Nat} {L : List Rn} (h : w.ownsRow base 35 5 (.slice p L.length c) L.length (recsV L)) : RsAt w p L := by
  intro k hk
  obtain ⟨g, hg⟩ : ∃ g, p = some ⟨g, 0, none⟩ := by
    rcases h.2 with ⟨h1, h0⟩ | ⟨g, cap, cur, h1, _⟩
    · omega
    · injection h1 with h1; exact ⟨g, h1⟩
  subst hg
  have hc : ∀ r, r < 5 → w.cell? ⟨g, k * 5 + r, none⟩ = (recV L[k])[r]? := fun r hr => by rw [h.cellAt (k * 5 + r) (by omega), recsV_get L k r hk hr]
  have h0 : w.cell? ⟨g, k * 5, none⟩ = some (.string L[k].o) := hc 0 (by omega)
  have h1 : w.cell? ⟨g, k * 5 + 1, none⟩ = some (.int .i64 L[k].t) := hc 1 (by omega)
  have h2 : w.cell? ⟨g, k * 5 + 2, none⟩ = some (.int .i64 L[k].c) := hc 2 (by omega)
  have h3 : w.cell? ⟨g, k * 5 + 3, none⟩ = some (.int .i64 L[k].l) := hc 3 (by omega)
  have h4 : w.cell? ⟨g, k * 5 + 4, none⟩ = some (.string L[k].d) := hc 4 (by omega)
  exact ⟨g, 0, rfl, (h.lt g rfl).2, by rw [Nat.zero_add]; exact h0, by rw [Nat.zero_add]; exact h1, by rw [Nat.zero_add]; exact h2, by rw [Nat.zero_add]; exact h3, by rw [Nat.zero_add]; exact h4⟩
end Go.Proofs.Ytlkppmpdjpffiaa

namespace Go.Proofs.Ytlkppmpdjpffiaa
set_option linter.unusedVariables false
open Go.RowKit Go.Shelf Go.Maps Go.Proofs.Ytlkppmpdjpffiaa.Nm

/-- one record more, with the first question's name: twelve bytes and its data more -/
theorem packS_more (i0 i2 i9 : Nat) (b1 b3 b4 b5 b6 b7 b8 : Bool) (Q : List Qn) (A U D : List Rn) (dt : ByteArray) (hq : 0 < Q.length) (hN : isN Q[0].n = true) (hr : Q[0].n ≠ ⟨#[0]⟩) (hfit : (packS i0 i2 i9 b1 b3 b4 b5 b6 b7 b8 Q A U D).out.size ≤ 65535) :
    (packS i0 i2 i9 b1 b3 b4 b5 b6 b7 b8 Q A U (D ++ [⟨Q[0].n, 731, 1, 0, dt⟩])).out.size = (packS i0 i2 i9 b1 b3 b4 b5 b6 b7 b8 Q A U D).out.size + 12 + dt.size := by
  obtain ⟨s, hs⟩ : ∃ s, headP i0 i2 i9 b1 b3 b4 b5 b6 b7 b8 Q.length A.length U.length D.length ⟨.empty, []⟩ = s := ⟨_, rfl⟩
  obtain ⟨t, ht⟩ : ∃ t, headP i0 i2 i9 b1 b3 b4 b5 b6 b7 b8 Q.length A.length U.length (D ++ [(⟨Q[0].n, 731, 1, 0, dt⟩ : Rn)]).length ⟨.empty, []⟩ = t := ⟨_, rfl⟩
  have hs1 := head_size i0 i2 i9 b1 b3 b4 b5 b6 b7 b8 Q.length A.length U.length D.length
  have ht1 := head_size i0 i2 i9 b1 b3 b4 b5 b6 b7 b8 Q.length A.length U.length (D ++ [(⟨Q[0].n, 731, 1, 0, dt⟩ : Rn)]).length
  rw [hs] at hs1
  rw [ht] at ht1
  unfold packS at hfit ⊢
  rw [hs] at hfit ⊢
  rw [ht, show A ++ U ++ (D ++ [(⟨Q[0].n, 731, 1, 0, dt⟩ : Rn)]) = (A ++ U ++ D) ++ [⟨Q[0].n, 731, 1, 0, dt⟩] by simp]
  have hsim : Sim t s := ⟨ht1.1.trans hs1.1.symm, ht1.2.trans hs1.2.symm⟩
  have hS := runR_sim 65535 (A ++ U ++ D) 0 0 (quesL_sim Q hsim)
  rw [runR_more 65535 (A ++ U ++ D) _ (quesL Q t) 0 (by rw [hS.sz]; omega)]
  have hno : tabF (runR 65535 (A ++ U ++ D) (quesL Q t) 0).1.tab Q[0].n = some 12 := by
    refine runR_keep 65535 _ _ 0 _ _ ?_
    cases Q with
    | nil => simp at hq
    | cons q l =>
      show tabF (quesL l (quesQ q t)).tab q.n = some 12
      refine quesL_keep l _ _ _ ?_
      have := name_noted hN hr t ht1.2 (by rw [ht1.1]; decide)
      rw [ht1.1] at this
      exact this
  generalize (runR 65535 (A ++ U ++ D) (quesL Q t) 0).1 = p at *
  rw [← hS.sz]
  have h1 := name_short hN hr p 12 hno
  show (recP Q[0].n 731 1 0 dt p).out.size = _
  rw [recP_size]
  have h2 := recH_size Q[0].n 731 1 0 p
  have h3 : dataP ((731 : Nat) : Int) dt (recH Q[0].n 731 1 0 p) = ⟨(recH Q[0].n 731 1 0 p).out ++ dt, (recH Q[0].n 731 1 0 p).tab⟩ := by
    unfold dataP; rw [if_pos (.inr rfl)]
  rw [h3]
  show ((recH Q[0].n 731 1 0 p).out ++ dt).size = _
  rw [ByteArray.size_append]
  omega
/-- that record is right -/
theorem more_ok {n : ByteArray} (hn : isN n = true) {dt : ByteArray} (hd : dt.size ≤ 65535) : rOK ⟨n, 731, 1, 0, dt⟩ = true := by
  unfold rOK recOK headOK dataOK
  have he : errD 731 dt = 0 := by
    unfold errD partsD
    rw [show kindsOf 731 = some [.unknown] by decide]
    simp only
    rw [if_neg (by omega)]
    have : partsOf [.unknown] dt = some [(.unknown, dt.extract 0 dt.size)] := by
      unfold partsOf
      show (partsOf [] (dt.extract dt.size dt.size)).map _ = _
      unfold partsOf
      rw [if_pos (by simp)]
      rfl
    rw [this]
  show (isN n && fitsN 731 16 && fitsN 1 16 && fitsN 0 32 && (if (731 : Int) = 41 then decide (dt.size ≤ 65535) else if dt.size = 0 ∧ ((1 : Int) = 254 ∨ (1 : Int) = 255) then true else decide (errD 731 dt = 0))) = true
  rw [hn, if_neg (by decide), if_neg (fun e => by rcases e.2 with e | e <;> cases e), he]
  decide
end Go.Proofs.Ytlkppmpdjpffiaa

namespace Go.Proofs.Ytlkppmpdjpffiaa
set_option linter.unusedVariables false
open Go.RowKit Go.Shelf Go.Maps Go.Proofs.Ytlkppmpdjpffiaa.Nm

/-- 'append(v, l...)' of records, l nil too, at a step of a region that draws its order -/
theorem step_append_recs {w : World} {ops : Array Oper} {o : Oper} {a : Act} {K : Act → World → Prop} {Q : Exit → Act → World → Prop} {E : Prop} (hgd : o.guard = none) (s x : Operand)
    (ho : o.op = .call { callee := .builtin .append, args := #[s, x], argTypes := #[23, 23] })
    (base : Nat) (v : Value) (n : Nat) (xs : List Value) (hs : a.eval s = v) (hown : w.ownsRow base 35 5 v n xs)
    (p : Option Addr) (l : List Rn) (c : Nat) (hx : a.eval x = .slice p l.length c) (hat : RsAt w p l) (hnone : p = none → c = 0)
    (hsm : n + l.length ≤ 4294967296) (hbase : base ≤ w.heap.size)
    (h : ∀ v' w', w'.ownsRow base 35 5 v' (n + l.length) (xs ++ recsV l) → w.grownBy w' v.ownBlock → K (a.put o.dst v') w') :
    if Region.wanted o (yielded ops a.tmps) = true then Oper.wp Try.prog o a w K Q else E := by
  have hw : Region.wanted o (yielded ops a.tmps) = true := by simp [Region.wanted, hgd]
  rw [if_pos hw]
  obtain ⟨i0, hi, hz0, hz1, hz2⟩ := info_parts Try.infoRec
  cases p with
  | none =>
    have hl : l = [] := by
      cases l with
      | nil => rfl
      | cons y l => obtain ⟨g, off, hp, _⟩ := hat 0 (by simp); cases hp
    subst hl
    have hc := hnone rfl
    subst hc
    have hrun := run_append_owned_none (P := Try.prog) (w := w) base 23 o.type 35 i0 5 Try.underlying23 hi v n xs hown
    have hx' : a.eval x = .slice none 0 0 := hx
    unfold Oper.wp execOp
    simp only [ho, resolve, invoke, builtin, Sem.run_bind, Sem.run_pure, Result.andThen_ok, List.map_toArray, List.map_cons, List.map_nil, hs, hx', hrun]
    exact h v w (by simpa [recsV] using hown) (grown_refl _ _)
  | some ad =>
    obtain ⟨v', w', hr, h2, h3, _, h5⟩ := run_append_own_at (P := Try.prog) w base 23 o.type 35 i0 (.agg #[.string ⟨#[]⟩, .int .i64 0, .int .i64 0, .int .i64 0, .string ⟨#[]⟩]) 5 56 Try.underlying23 hi hz0 hz1 hz2 rfl (by decide) v n xs hown ad l.length c (recsV l) (recsV_len l) (recs_news hat) (recsV_one l) (by unfold maxLen; omega) (by omega) hbase
    unfold Oper.wp execOp
    simp only [ho, resolve, invoke, builtin, Sem.run_bind, Sem.run_pure, Result.andThen_ok, List.map_toArray, List.map_cons, List.map_nil, hs, hx, hr]
    exact h v' w' h2 h3

/-- one record in a block of its own -/
theorem rs_one {w : World} {B : Nat} {o d : ByteArray} {t c l : Int} {T : TypeId} (hb : Bx w B #[.string o, .int .i64 t, .int .i64 c, .int .i64 l, .string d] T) : RsAt w (some ⟨B, 0, none⟩) [⟨o, t, c, l, d⟩] := by
  intro k hk
  obtain rfl : k = 0 := by simpa using hk
  exact ⟨B, 0, rfl, hb.lt, hb.cell rfl, hb.cell rfl, hb.cell rfl, hb.cell rfl, hb.cell rfl⟩
theorem bx_new (w : World) (cs : Array Value) (T : TypeId) : Bx (w.alloc (.cells cs T)) w.heap.size cs T := World.alloc_heap_new w _
theorem Bx.alloc {w : World} {R : Nat} {cs : Array Value} {T : TypeId} (h : Bx w R cs T) (o : Obj) : Bx (w.alloc o) R cs T := h.grown (World.grownBy_alloc w o none) (by simp)
theorem Bx.drew {w : World} {R : Nat} {cs : Array Value} {T : TypeId} (h : Bx w R cs T) : Bx w.drew R cs T := h
end Go.Proofs.Ytlkppmpdjpffiaa
