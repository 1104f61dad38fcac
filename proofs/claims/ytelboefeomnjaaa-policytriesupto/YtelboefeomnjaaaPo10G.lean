import Derived.Test.YtelboefeomnjaaaPo7G
import Derived.Test.YtelboefeomnjaaaPo1G
import Derived.Test.YtelboefeomnjaaaPo3G
import Derived.Test.YtelboefeomnjaaaFt1G
/-
  The servers that were drawn so far. (The verifier's own text.)
-/
namespace Go.Proofs.Ytelboefeomnjaaa
set_option linter.unusedVariables false
set_option linter.unusedSimpArgs false
open Go.RowKit Go.Shelf Go.Maps Go.Proofs.Ytelboefeomnjaaa.Nm Go.Proofs.Ytelboefeomnjaaa.Zs

/-- a record's priority -/
def prf (r : Rn) : Int := (enO r).f
theorem zat_belP {w w' : World} {p : Option Addr} {L : List Int} (h : ZAt w w.heap.size p L) (hb : Below w.heap.size w w') : ZAt w' w'.heap.size p L := fun k hk => by
  obtain ⟨g, off, h1, h2, h3⟩ := h k hk
  exact ⟨g, off, h1, Nat.lt_of_lt_of_le h2 hb.size, by rw [hb.cell (p := ⟨g, off + k, none⟩) h2]; exact h3⟩
theorem vN2_le (s : ByteArray) : vN s 2 ≤ 65535 := by
  have := vN_lt s 2
  omega
theorem enO_s (r : Rn) : 0 ≤ (enO r).s ∧ (enO r).s ≤ 65535 := by
  have := vN2_le (r.d.extract 2 4)
  simp only [enO]
  omega
theorem erase_permP {α : Type} (X : List α) (i : Nat) (hi : i < X.length) : List.Perm (X[i] :: X.eraseIdx i) X := by
  have hs : X = X.take i ++ X[i] :: X.drop (i + 1) := by rw [List.getElem_cons_drop, List.take_append_drop]
  rw [List.eraseIdx_eq_take_drop_succ]
  exact List.perm_middle.symm.trans (List.Perm.of_eq hs.symm)
/-- a sorted list of entries, each made of its record -/
structure Bg (L : List Rn) (B : List Et) : Prop where
  pm : B.Perm (L.map enO)
  up : B.Pairwise (fun a b => a.f ≤ b.f)
theorem Bg.self {L : List Rn} {B : List Et} (h : Bg L B) {x : Et} (hx : x ∈ B) : enO x.r = x := by
  obtain ⟨r, _, rfl⟩ := List.mem_map.1 (h.pm.mem_iff.1 hx)
  rfl
theorem Bg.len {L : List Rn} {B : List Et} (h : Bg L B) : B.length = L.length := by have := h.pm.length_eq; rw [List.length_map] at this; exact this
theorem Bg.recs {L : List Rn} {B : List Et} (h : Bg L B) : (B.map (·.r)).Perm L := by
  have := h.pm.map (fun e : Et => e.r)
  rw [List.map_map] at this
  have e : (fun e : Et => e.r) ∘ enO = id := rfl
  rw [e, List.map_id] at this
  exact this
/-- what is drawn so far -/
structure Od (w : World) (b g : Nat) (L : List Rn) (B : List Et) (p e : Nat) (F : Int) (X : List Et) (O : List Rn) (ov : Value) (wr : World) : Prop where
  eb : ∃ A Y, Eb wr g (A ++ X ++ (Y ++ B.drop e)) ∧ A.length = p ∧ p + X.length + Y.length = e
  bg : Bg L B
  en : e ≤ B.length
  ow : wr.ownsRow b 29 5 ov O.length (rce5 O)
  pm : (O ++ X.map (·.r)).Perm ((B.take e).map (·.r))
  fx : ∀ x ∈ X, x.f = F ∧ x ∈ B
  up : ∀ x ∈ B.take e, x.f ≤ F
  od : O.Pairwise (fun a c => prf a ≤ prf c)
  bl : Below w.heap.size w wr
  gb : w.heap.size ≤ g ∧ g < b ∧ b ≤ wr.heap.size
section
variable {w wr w2 : World} {b g p e : Nat} {L : List Rn} {B X : List Et} {F : Int} {O : List Rn} {ov : Value}
theorem Od.below (h : Od w b g L B p e F X O ov wr) (hb : Below wr.heap.size wr w2) : Od w b g L B p e F X O ov w2 := by
  obtain ⟨A, Y, h1, h2, h3⟩ := h.eb
  exact ⟨⟨A, Y, h1.below hb h1.lt, h2, h3⟩, h.bg, h.en, ownsRow_below h.ow hb, h.pm, h.fx, h.up, h.od, bstep h.bl hb h.bl.size, ⟨h.gb.1, h.gb.2.1, Nat.le_trans h.gb.2.2 hb.size⟩⟩
theorem Od.olen (h : Od w b g L B p e F X O ov wr) : O.length + X.length ≤ L.length := by
  have := h.pm.length_eq
  simp only [List.length_append, List.length_map, List.length_take] at this
  have := h.bg.len
  omega
theorem Od.part (h : Od w b g L B p e F X O ov wr) : EsAt wr g (p * 7) X := by
  obtain ⟨A, Y, h1, rfl, h3⟩ := h.eb
  exact h1.part
theorem Od.weights (h : Od w b g L B p e F X O ov wr) : ∀ x ∈ X, 0 ≤ x.s ∧ x.s ≤ 65535 := fun x hx => by
  have := enO_s x.r
  rw [h.bg.self (h.fx x hx).2] at this
  exact this
/-- one is drawn: it is behind the others, and is taken away -/
theorem Od.next (h : Od w b g L B p e F X O ov wr) {i : Nat} (hi : i < X.length) {w3 : World} {v' : Value} (ho : w2.ownsRow b 29 5 v' (O.length + 1) (rce5 O ++ rce5 [X[i].r])) (hb2 : b ≤ w2.heap.size)
    (hbl : Below w.heap.size w w2) (A Y : List Et) (hA : A.length = p) (hY : p + X.length + Y.length = e) (he : Eb w3 g (A ++ (X.eraseIdx i ++ [zE]) ++ (Y ++ B.drop e))) (hg : w2.grownBy w3 (some g)) : Od w b g L B p e F (X.eraseIdx i) (O ++ [X[i].r]) v' w3 := by
  have hxi := h.fx _ (List.getElem_mem hi)
  refine ⟨⟨A, zE :: Y, ?_, hA, ?_⟩, h.bg, h.en, ?_, ?_, fun x hx => h.fx x (List.mem_of_mem_eraseIdx hx), h.up, ?_, ?_, h.gb.1, h.gb.2.1, Nat.le_trans hb2 hg.size⟩
  · have e1 : A ++ (X.eraseIdx i ++ [zE]) ++ (Y ++ B.drop e) = A ++ X.eraseIdx i ++ (zE :: Y ++ B.drop e) := by simp
    rw [← e1]
    exact he
  · rw [List.length_eraseIdx, if_pos hi, List.length_cons]; omega
  · have := ho.kept hg (by
      cases hq : v'.ownBlock with
      | none => exact .inl rfl
      | some q => exact .inr (fun e => by injection e with e; have := ownBlock_le ho hq; have := h.gb.2.1; omega))
    rw [List.length_append, rce5_app]
    exact this
  · refine List.Perm.trans ?_ h.pm
    rw [List.append_assoc]
    refine List.Perm.append_left O ?_
    have := ((erase_permP X i hi).map (fun x : Et => x.r))
    exact this
  · rw [List.pairwise_append]
    refine ⟨h.od, List.pairwise_singleton _ _, fun a ha c hc => ?_⟩
    rw [List.mem_singleton] at hc
    subst hc
    have hm : a ∈ (B.take e).map (·.r) := h.pm.mem_iff.1 (List.mem_append_left _ ha)
    obtain ⟨y, hy, rfl⟩ := List.mem_map.1 hm
    have h1 := h.up y hy
    unfold prf
    rw [h.bg.self (List.mem_of_mem_take hy), h.bg.self hxi.2, hxi.1]
    exact h1
  · exact hbl.grown hg hbl.size (fun q hq => by injection hq with hq; have := h.gb.1; omega)
/-- those of the next priority -/
theorem Od.outer (h : Od w b g L B p p F [] O ov wr) {m : Nat} (h0 : p < B.length) (hm : m ≤ B.length - p) (hf : ∀ k (hk : k < (B.drop p).length), k < m → (B.drop p)[k].f = ((B.drop p)[0]'(by rw [List.length_drop]; omega)).f) : ∃ F', Od w b g L B p (p + m) F' ((B.drop p).take m) O ov wr := by
  have hl : (B.drop p).length = B.length - p := List.length_drop
  have ht : B.take (p + m) = B.take p ++ (B.drop p).take m := List.take_add
  have hx : ∀ x ∈ (B.drop p).take m, x.f = ((B.drop p)[0]'(by omega)).f := fun x hx => by
    obtain ⟨k, hk, rfl⟩ := List.getElem_of_mem hx
    rw [List.length_take] at hk
    rw [List.getElem_take]
    exact hf k (by omega) (by omega)
  refine ⟨((B.drop p)[0]'(by omega)).f, ?_, h.bg, by omega, h.ow, ?_, fun x hx' => ⟨hx x hx', List.mem_of_mem_drop (List.mem_of_mem_take hx')⟩, fun x hx' => ?_, h.od, h.bl, h.gb⟩
  · obtain ⟨A, Y, h1, h2, h3⟩ := h.eb
    obtain rfl : Y = [] := List.eq_nil_of_length_eq_zero (by have := List.length_nil (α := Et); omega)
    refine ⟨A, [], ?_, h2, by rw [List.length_take]; simp; omega⟩
    have e1 : A ++ (B.drop p).take m ++ ([] ++ B.drop (p + m)) = A ++ [] ++ ([] ++ B.drop p) := by
      rw [List.nil_append, List.nil_append, List.append_nil, List.append_assoc, ← List.drop_drop, List.take_append_drop]
    rw [e1]
    exact h1
  · have := h.pm
    rw [List.map_nil, List.append_nil] at this
    rw [ht, List.map_append]
    exact this.append_right _
  · rw [ht] at hx'
    rcases List.mem_append.1 hx' with h1 | h1
    · have hu := h.bg.up
      rw [← List.take_append_drop p B, List.pairwise_append] at hu
      exact hu.2.2 x h1 _ (List.getElem_mem _)
    · rw [hx x h1]; exact Int.le_refl _
theorem Od.close (h : Od w b g L B p e F [] O ov wr) : Od w b g L B e e F [] O ov wr := by
  obtain ⟨A, Y, h1, h2, h3⟩ := h.eb
  refine ⟨⟨A ++ Y, [], ?_, ?_, ?_⟩, h.bg, h.en, h.ow, h.pm, fun x hx => (by cases hx), h.up, h.od, h.bl, h.gb⟩
  · have e1 : A ++ Y ++ [] ++ ([] ++ B.drop e) = A ++ [] ++ (Y ++ B.drop e) := by simp
    rw [e1]; exact h1
  · rw [List.length_append]; simp at h3; omega
  · simp
theorem Od.rest (h : Od w b g L B p p F [] O ov wr) : EsAt wr g (p * 7) (B.drop p) := by
  obtain ⟨A, Y, h1, h2, h3⟩ := h.eb
  obtain rfl : Y = [] := List.eq_nil_of_length_eq_zero (by have := List.length_nil (α := Et); omega)
  rw [← h2]
  refine Eb.part (Z := []) ?_
  have e1 : A ++ B.drop A.length ++ [] = A ++ [] ++ ([] ++ B.drop p) := by rw [h2]; simp
  rw [e1]; exact h1
end
end Go.Proofs.Ytelboefeomnjaaa

/-
  Proofs: policy.Order. (The verifier's own text.)
-/
namespace Go.Proofs.Ytelboefeomnjaaa
set_option linter.unusedVariables false
set_option linter.unusedSimpArgs false
open Go.RowKit Go.Shelf Go.Maps Go.Proofs.Ytelboefeomnjaaa.Nm Go.Proofs.Ytelboefeomnjaaa.Zs

/-- how Order ends -/
def OrE (L : List Rn) (w : World) (r : Ending) (w' : World) : Prop := ∃ (q : Option Addr) (c : Nat) (O : List Rn) (e : Int), r = .returned (.tuple #[.slice q O.length c, .int .i64 e]) ∧ (e ≠ 0 → O = []) ∧ (O ≠ [] → srvB L = true ∧ O.Perm L ∧ O.Pairwise (fun a c => prf a ≤ prf c)) ∧ RsAt w' q O ∧ Below w.heap.size w w'
def lnV : Value → Nat
  | .slice _ n _ => n
  | _ => 0
theorem Od.done {w wr : World} {b g p : Nat} {L : List Rn} {B : List Et} {F : Int} {O : List Rn} {oq : Option Addr} {oc : Nat} (h : Od w b g L B p p F [] O (.slice oq O.length oc) wr) (hp : p = L.length) : RsAt wr oq O ∧ (O ≠ [] → O.Perm L) ∧ O.Pairwise (fun a c => prf a ≤ prf c) ∧ Below w.heap.size w wr := by
  refine ⟨?_, fun _ => ?_, h.od, h.bl⟩
  · rcases Nat.eq_zero_or_pos O.length with h0 | h0
    · intro k hk; omega
    · obtain ⟨g', c', e1⟩ := own_somP h.ow h0
      injection e1 with e1
      subst e1
      obtain ⟨rest, hr, _⟩ := rb_ownM h.ow
      exact rb_rs hr
  · have h1 := h.pm
    rw [List.map_nil, List.append_nil, List.take_of_length_le (by rw [h.bg.len]; omega)] at h1
    exact h1.trans h.bg.recs
theorem C7.rec5 {w : World} {g o : Nat} {e : Et} (h : C7 w g o e) : ∃ xo xt xc xl xd, e.r = ⟨xo, xt, xc, xl, xd⟩ ∧ w.cell? ⟨g, o + 2, none⟩ = some (.string xo) ∧ w.cell? ⟨g, o + 3, none⟩ = some (.int .i64 xt) ∧ w.cell? ⟨g, o + 4, none⟩ = some (.int .i64 xc) ∧ w.cell? ⟨g, o + 5, none⟩ = some (.int .i64 xl) ∧ w.cell? ⟨g, o + 6, none⟩ = some (.string xd) := ⟨_, _, _, _, _, rfl, h.2.2.1, h.2.2.2.1, h.2.2.2.2.1, h.2.2.2.2.2.1, h.2.2.2.2.2.2⟩
theorem wrap_succP {i : Nat} (h : i ≤ 1048576) : IntKind.i64.wrap ((i : Int) + 1) = (i : Int) + 1 := by rw [IntKind.wrap_i64]; omega
theorem alloc_belP {w wb : World} {o : Obj} (h : w.alloc o = wb) : Below w.heap.size w wb := by rw [← h]; exact (Below.refl _ w).alloc (Nat.le_refl _) _
theorem rs_newP {w wb : World} {xo xd : ByteArray} {xt xc xl : Int} (h : w.alloc (.cells #[.string xo, .int .i64 xt, .int .i64 xc, .int .i64 xl, .string xd] 29) = wb) : RsAt wb (some ⟨w.heap.size, 0, none⟩) [⟨xo, xt, xc, xl, xd⟩] := by
  subst h
  have hx : Bx (w.alloc (.cells #[.string xo, .int .i64 xt, .int .i64 xc, .int .i64 xl, .string xd] 29)) w.heap.size #[.string xo, .int .i64 xt, .int .i64 xc, .int .i64 xl, .string xd] 29 := World.alloc_heap_new w _
  intro k hk
  obtain rfl : k = 0 := by simp at hk; exact hk
  exact ⟨_, 0, rfl, hx.lt, hx.cell rfl, hx.cell rfl, hx.cell rfl, hx.cell rfl, hx.cell rfl⟩
/-- what is behind the append, and behind what is deleted then -/
theorem Od.append9 {w wb w9 : World} {b g p e : Nat} {L : List Rn} {B Y : List Et} {F : Int} {P : List Rn} {pq : Option Addr} {pc : Nat} {v9 : Value} (h : Od w b g L B p e F Y P (.slice pq P.length pc) wb) {i : Nat} (hi : i < Y.length) {x : Rn} (hx : Y[i].r = x) (ho : w9.ownsRow b 29 5 v9 (P.length + [x].length) (rce5 P ++ rce5 [x])) (hg : wb.grownBy w9 (Value.slice pq P.length pc).ownBlock) :
    ∃ q9 c9, v9 = .slice q9 (P.length + 1) c9 ∧ ∃ A Z, A.length = p ∧ Eb w9 g (A ++ Y ++ (Z ++ B.drop e)) ∧ ∀ w10, Eb w10 g (A ++ (Y.eraseIdx i ++ [zE]) ++ (Z ++ B.drop e)) → w9.grownBy w10 (some g) → (Y.eraseIdx i).length = Y.length - 1 ∧ Od w b g L B p e F (Y.eraseIdx i) (P ++ [x]) (.slice q9 (P ++ [x]).length c9) w10 := by
  subst hx
  have ho' : w9.ownsRow b 29 5 v9 (P.length + 1) (rce5 P ++ rce5 [Y[i].r]) := ho
  obtain ⟨q9, c9, hv, _⟩ := own_shape ho'
  subst hv
  obtain ⟨A, Z, h1, h2, h3⟩ := h.eb
  have hob : ∀ q, (Value.slice pq P.length pc).ownBlock = some q → b ≤ q := fun q hq => ownBlock_le h.ow hq
  refine ⟨q9, c9, rfl, A, Z, h2, Bx.grown h1 hg (fun q => by have := hob _ q; have := h.gb.2.1; omega), fun w10 h4 h5 => ⟨by rw [List.length_eraseIdx, if_pos hi], ?_⟩⟩
  have := h.next hi ho' (Nat.le_trans h.gb.2.2 hg.size) (h.bl.grown hg h.bl.size (fun k e => by have := hob k e; have := h.gb; omega)) A Z h2 h3 h4 h5
  rw [List.length_append]
  exact this
set_option maxRecDepth 100000 in
set_option maxHeartbeats 4000000 in
theorem order_no (L : List Rn) (p : Option Addr) (cap : Nat) (xs : List Int) (px : Option Addr) (cx : Nat) (w : World) (hL : L.length ≤ 1048576) (hat : RsAt w p L) (hz : ∀ r ∈ L, r.o.size ≤ maxLen ∧ r.d.size ≤ 9223372036854775807) (hn : srvB L = false) :
    Calls Try.prog 4 #[.slice p L.length cap, .slice px xs.length cx] w (OrE L w) := by
  have HE := hide' (entriesOf_no L p cap w hL hat hz hn)
  clear hat hz hn
  go_enter Try.func4, Try.ntmps4
  go_wp2_with (go_at_call 6; refine HE.out.mono ?_; rintro e w1 ⟨rfl, hB1⟩; have HB1 := hide' hB1; clear hB1)
  go_ret2
  exact ⟨none, 0, [], 8, rfl, (fun _ => rfl), (fun h => absurd rfl h), (fun k hk => by cases hk), HB1.out⟩
set_option maxRecDepth 100000 in
set_option maxHeartbeats 8000000 in
theorem order_yes (L : List Rn) (p : Option Addr) (cap : Nat) (xs : List Int) (px : Option Addr) (cx : Nat) (w : World) (hL : L.length ≤ 1048576) (hat : RsAt w p L) (hz : ∀ r ∈ L, r.o.size ≤ 1048576 ∧ r.d.size ≤ 1048576) (hs : srvB L = true) (hzx : ZAt w w.heap.size px xs) (hxl0 : xs.length ≤ 1048576) (hxb : ∀ x ∈ xs, -9223372036854775808 ≤ x ∧ x ≤ 9223372036854775807) :
    Calls Try.prog 4 #[.slice p L.length cap, .slice px xs.length cx] w (OrE L w) := by
  have HE := hide' (entriesOf_yes L p cap w hL hat (fun r hr => ⟨by have := (hz r hr).1; unfold maxLen; omega, by have := (hz r hr).2; omega⟩) hs)
  have HSo : Hid (∀ (g : Nat) (V : World), Eb V g (L.map enO) → Calls Try.prog 8 #[.slice (some ⟨g, 0, none⟩) L.length L.length, cmf] V fun r w' => r = .returned (.tuple #[]) ∧ ∃ B : List Et, Eb w' g B ∧ B.Perm (L.map enO) ∧ B.Pairwise (fun a b => a.f ≤ b.f) ∧ V.grownBy w' (some g)) := fun g V h => by
    have := sortE_any (L.map enO) g L.length V h (by rw [List.length_map]; exact hL)
    rw [List.length_map] at this
    exact this
  have HZX := hide' hzx
  have HXB := hide' hxb
  have HS := hide' hs
  obtain ⟨h0, hall, -⟩ := srv_facts hs
  have HO : Hid (∀ (g : Nat) (w2 w3 : World) (B : List Et), Ek w w2 g (L.map enO) → Eb w3 g B → B.Perm (L.map enO) → B.Pairwise (fun a b => a.f ≤ b.f) → w2.grownBy w3 (some g) → ∃ F, Od w w3.heap.size g L B 0 0 F [] [] (.slice none 0 0) w3) := fun g w2 w3 B h1 h2 h3 h4 h5 => ⟨0, ⟨[], [], by simpa using h2, rfl, rfl⟩, ⟨h3, h4⟩, Nat.zero_le _, World.ownsRow_nil _ _ _ _, List.Perm.refl _, (fun x hx => by cases hx), (fun x hx => by simp at hx), List.Pairwise.nil, h1.2.1.grown h5 h1.2.1.size (fun q hq => by injection hq with hq; have := h1.2.2; omega), h1.2.2, h2.lt, Nat.le_refl _⟩
  by_cases h1 : L.length = 1
  · have hone : ((L.length : Int) == 1) = true := by rw [beq_iff_eq]; omega
    have ht0 : L[0].t = 33 := (hall _ (List.getElem_mem h0)).2
    have HT := hide' (fun V => target33_any L[0].o L[0].d L[0].c L[0].l V (hz _ (List.getElem_mem h0)).2)
    obtain ⟨g0, off, rfl, hg, f0, f1, f2, f3, f4⟩ := hat 0 h0
    rw [Nat.zero_mul, Nat.add_zero, ht0] at f1
    rw [Nat.zero_mul, Nat.add_zero] at f0 f2 f3 f4
    generalize L[0].o = xo at *
    generalize L[0].c = xc at *
    generalize L[0].l = xl at *
    generalize L[0].d = xd at *
    have HF : Hid (∀ V, Below w.heap.size w V → V.cell? ⟨g0, off, none⟩ = some (.string xo) ∧ V.cell? ⟨g0, off + 1, none⟩ = some (.int .i64 33) ∧ V.cell? ⟨g0, off + 2, none⟩ = some (.int .i64 xc) ∧ V.cell? ⟨g0, off + 3, none⟩ = some (.int .i64 xl) ∧ V.cell? ⟨g0, off + 4, none⟩ = some (.string xd)) := fun V hV => ⟨(hV.cell (p := ⟨g0, off, none⟩) hg).trans f0, (hV.cell (p := ⟨g0, off + 1, none⟩) hg).trans f1, (hV.cell (p := ⟨g0, off + 2, none⟩) hg).trans f2, (hV.cell (p := ⟨g0, off + 3, none⟩) hg).trans f3, (hV.cell (p := ⟨g0, off + 4, none⟩) hg).trans f4⟩
    have hli : (0 : Int) < (L.length : Int) := by omega
    have H1 := hide' h1
    clear hat hz hs hzx hxb f0 f1 f2 f3 f4 hall ht0 h1 hg
    go_enter Try.func4, Try.ntmps4
    go_wp2_with (first
      | (go_at_call 6; refine HE.out.mono ?_; rintro e w1 ⟨g, rfl, hE1⟩; have HE1 := hide' hE1; obtain ⟨c0, c1, c2, c3, c4⟩ := HF.out w1 hE1.2.1; clear hE1)
      | (go_at_call 7; refine (HT.out _).mono ?_; rintro e w2 ⟨⟨s, rfl⟩, hB2⟩; have HE2 := hide' (HE1.out.below hB2); clear hB2 c0 c1 c2 c3 c4 HE1)
      | (go_at_call 8; refine (HSo.out g _ HE2.out.1).mono ?_; rintro e w3 ⟨rfl, B, hb3, hp3, ho3, hg3⟩; have HO0 := hide' (HO.out g _ w3 B HE2.out hb3 hp3 ho3 hg3); clear hb3 hp3 ho3 hg3 HE2))
    · go_ret2
      exact ⟨none, 0, [], 0, rfl, (fun e => absurd rfl e), (fun e => absurd rfl e), (fun k hk => by cases hk), HE2.out.2.1⟩
    · clear HT HF HE HSo HO
      go_loopw [6, 8] (fun lv ov wr => ∃ (p m : Nat) (q : Addr) (O : List Rn) (oq : Option Addr) (oc : Nat), lv = .slice (some q) m m ∧ ov = .slice oq O.length oc ∧ m ≤ L.length ∧ Hid (p + m = L.length) ∧ Hid (0 < m → q = ⟨g, p * 7, none⟩) ∧ Hid (∃ F, Od w w3.heap.size g L B p p F [] O ov wr)) (fun lv _ _ => lnV lv)
      case atStart => exact ⟨0, L.length, ⟨g, 0, none⟩, [], none, 0, rfl, rfl, Nat.le_refl _, Nat.zero_add _, (fun _ => by rw [Nat.zero_mul]), HO0.out⟩
      case round =>
        clear HO0
        obtain ⟨p, m, q, O, oq, oc, rfl, rfl, hm, HPM, HQ, HOD⟩ := hrel
        obtain ⟨F, hod⟩ := HOD.out
        have HD := hide' hod
        clear hod HOD
        rcases Nat.eq_zero_or_pos m with h0 | h0
        · subst h0
          have HRs : Hid (RsAt wr oq O ∧ (O ≠ [] → O.Perm L) ∧ O.Pairwise (fun a c => prf a ≤ prf c) ∧ Below w.heap.size w wr) := HD.out.done (by have := HPM.out; omega)
          go_wp2_with fail
          go_ret2
          exact ⟨oq, oc, O, 0, rfl, (fun e => absurd rfl e), (fun e => ⟨HS.out, HRs.out.2.1 e, HRs.out.2.2.1⟩), HRs.out.1, HRs.out.2.2.2⟩
        · obtain rfl := HQ.out h0
          obtain ⟨X, hX⟩ : ∃ X, B.drop p = X := ⟨_, rfl⟩
          have hdl : X.length = m := by rw [← hX, List.length_drop, HD.out.bg.len]; have := HPM.out; omega
          subst hdl
          have HRun := hide' (run_any g (p * 7) X.length X wr (by rw [← hX]; exact HD.out.rest) h0 (by omega) (by omega) (by unfold maxLen; omega))
          have HOut : Hid (∀ (W : World) e, Below wr.heap.size wr W → 0 < e → e ≤ X.length → (∀ k (hk : k < X.length), k < e → X[k].f = X[0].f) → ∃ F', Od w w3.heap.size g L B p (p + e) F' (X.take e) O (.slice oq O.length oc) W) := fun W e hW he0 he hf => by
            subst hX
            exact (HD.out.below hW).outer (by have := HPM.out; have := HD.out.bg.len; omega) (by rw [List.length_drop] at he; exact he) hf
          have HTk : Hid (∀ e, e ≤ X.length → (X.take e).length = e) := fun e he => by rw [List.length_take]; omega
          have pm0 : (0 : Int) < (X.length : Int) := by omega
          clear hX HD HQ
          have HAd : Hid (∀ e, ∃ Ad : Addr, (if X.length = e then some (⟨g, p * 7, none⟩ : Addr) else some ⟨g, p * 7 + e * 7, none⟩) = some Ad ∧ Hid (0 < X.length - e → Ad = ⟨g, (p + e) * 7, none⟩)) := fun e => by
            by_cases he : X.length = e
            · exact ⟨_, if_pos he, fun h => by omega⟩
            · exact ⟨_, if_neg he, fun _ => by rw [Nat.add_mul]⟩
          go_wp2_with (go_at_call 10; refine HRun.out.mono ?_; rintro r5 w5 ⟨⟨e, rfl, he0, hem, hef⟩, hB5⟩; have HX := hide' (HOut.out w5 e hB5 he0 hem hef); obtain ⟨Ad, hAd, HAq⟩ := HAd.out e; have HL5 := hide' (HTk.out e hem); clear hef hB5)
          have HPE : Hid (p + e + (X.length - e) = L.length) := by
            unfold Hid
            have := HPM.out
            omega
          have hxl : e ≤ 1048576 := by omega
          obtain ⟨F', hX'⟩ := HX.out
          rw [Hid] at HL5
          obtain ⟨X', hXe⟩ : ∃ X', X.take e = X' := ⟨_, rfl⟩
          rw [hXe] at hX' HL5
          have HI0 := hide' hX'
          clear hX' HX hXe HPM HRun HOut HTk
          go_loopw [9, 8] (fun xv ov wv => ∃ (Y : List Et) (P : List Rn) (oq : Option Addr) (oc : Nat), xv = .slice (some ⟨g, p * 7, none⟩) Y.length e ∧ ov = .slice oq P.length oc ∧ Y.length ≤ e ∧ Hid (Od w w3.heap.size g L B p (p + e) F' Y P (.slice oq P.length oc) wv)) (fun xv _ _ => lnV xv)
          case atStart => exact ⟨X', O, oq, oc, by rw [HL5], rfl, by omega, HI0⟩
          case round =>
            clear HI0
            obtain ⟨Y, P, pq, pc, rfl, rfl, hYe, HI⟩ := hrel
            rcases Nat.eq_zero_or_pos Y.length with h1 | h1
            · have hY : Y = [] := List.eq_nil_of_length_eq_zero h1
              subst hY
              have HC := hide' HI.out.close
              clear HI h1
              go_wp2_with fail
              exact ⟨⟨p + e, X.length - e, Ad, P, pq, pc, rfl, rfl, by omega, HPE, HAq, ⟨F', HC.out⟩⟩, by simp only [lnV]; omega⟩
            · have hPl := HI.out.olen
              have HRo : Hid (Calls Try.prog 12 #[.slice px xs.length cx, .int .i64 (P.length : Int)] wr _) := rollAt_any xs px cx P.length wr (zat_belP HZX.out HI.out.bl) hxl0 HXB.out
              have HDr : Hid (∀ z : Int, 0 ≤ z ∧ z ≤ 9223372036854775807 → Calls Try.prog 11 #[.slice (some ⟨g, p * 7, none⟩) Y.length e, .int .i64 z] wr _) := fun z hz => draw_any g (p * 7) e Y z wr HI.out.part h1 (by omega) HI.out.weights hz
              have HDe : Hid (∀ (A Z : List Et) (i : Nat) (W : World), A.length = p → Eb W g (A ++ Y ++ (Z ++ B.drop (p + e))) → i < Y.length → Calls Try.prog 13 #[.slice (some ⟨g, p * 7, none⟩) Y.length e, .int .i64 (i : Int), .int .i64 ((i : Int) + 1)] W fun r w' => r = .returned (.slice (some ⟨g, p * 7, none⟩) (Y.length - 1) e) ∧ Eb w' g (A ++ (Y.eraseIdx i ++ [zE]) ++ (Z ++ B.drop (p + e))) ∧ W.grownBy w' (some g)) := fun A Z i W hAl hW hi => by
                have := delete_any g e i A Y (Z ++ B.drop (p + e)) W hW hi hYe (by unfold maxLen; omega) (by omega)
                rw [hAl, show ((i + 1 : Nat) : Int) = (i : Int) + 1 by omega] at this
                exact this
              have y0 : (0 : Int) < (Y.length : Int) := by omega
              have hY2 : Y.length ≤ 1048576 := by omega
              have HP1 : Hid (P.length + 1 ≤ 10000000) := by
                unfold Hid
                omega
              go_wp2_with (first
                | (go_at_call 12; (with_reducible refine HRo.out.mono ?_); rintro r7 w7 ⟨⟨z, rfl, hz1, hz2⟩, hw7⟩; have hw7' := hw7.symm; subst hw7')
                | (go_at_call 11; (with_reducible refine (HDr.out z ⟨hz1, hz2⟩).mono ?_); rintro r8 w8 ⟨⟨i, rfl, hi⟩, hB8⟩; have HI8 := hide' (HI.out.below hB8); obtain ⟨xo, xt, xc, xl, xd, hx, c2, c3, c4, c5, c6⟩ := (HI8.out.part.2 i hi).rec5; have HHi := hide' hi; have hii : (i : Int) < (Y.length : Int) := Int.ofNat_lt.2 hi; have HXi := hide' hx; clear hx hB8; have ei := wrap_succP (Nat.le_trans (Nat.le_of_lt HHi.out) hY2); obtain ⟨wb, hwb⟩ : ∃ wb, w8.alloc (.cells #[.string xo, .int .i64 xt, .int .i64 xc, .int .i64 xl, .string xd] 29) = wb := ⟨_, rfl⟩; have HOb := hide' (HI8.out.below (alloc_belP hwb)); have HRb := hide' (rs_newP hwb))
                | (at_builtin; refine wpList_append_recsM rfl _ _ rfl w3.heap.size _ P.length (rce5 P) rfl HOb.out.ow (some ⟨w8.heap.size, 0, none⟩) [⟨xo, xt, xc, xl, xd⟩] 1 rfl HRb.out (fun h => absurd h (Option.some_ne_none _)) HP1.out HOb.out.gb.2.2 ?_; intro v9 w9 ho9 hg9; obtain ⟨q9, c9, hv9, HN9⟩ := HOb.out.append9 HHi.out HXi.out ho9 hg9; subst hv9; obtain ⟨A, Z, hAl, hE9, hN9⟩ := HN9; have HD9 := hide' (HDe.out A Z i w9 hAl hE9 HHi.out); have HNx := hide' hN9; clear ho9 hg9 hE9 hN9 hAl c2 c3 c4 c5 c6 hwb)
                | (go_at_call 13; (with_reducible refine HD9.out.mono ?_); rintro r10 w10 ⟨rfl, hE10, hG10⟩; have HI10 := hide' (HNx.out w10 hE10 hG10); clear hE10 hG10))
              have hel := HI10.out.1
              exact ⟨⟨Y.eraseIdx i, P ++ [Rn.mk xo xt xc xl xd], q9, c9, by rw [hel], by rw [List.length_append]; rfl, by rw [hel]; omega, hide' HI10.out.2⟩, by simp only [lnV]; have := HHi.out; omega⟩
  · have hone : ((L.length : Int) == 1) = false := by rw [beq_eq_false_iff_ne]; omega
    have H1 := hide' h1
    clear hat hz hs hzx hxb hall h1
    go_enter Try.func4, Try.ntmps4
    go_wp2_with (first
      | (go_at_call 6; refine HE.out.mono ?_; rintro e w1 ⟨g, rfl, hE1⟩; have HE2 := hide' hE1; clear hE1)
      | (go_at_call 8; refine (HSo.out g _ HE2.out.1).mono ?_; rintro e w3 ⟨rfl, B, hb3, hp3, ho3, hg3⟩; have HO0 := hide' (HO.out g _ w3 B HE2.out hb3 hp3 ho3 hg3); clear hb3 hp3 ho3 hg3 HE2))
    · clear HE HSo HO
      go_loopw [6, 8] (fun lv ov wr => ∃ (p m : Nat) (q : Addr) (O : List Rn) (oq : Option Addr) (oc : Nat), lv = .slice (some q) m m ∧ ov = .slice oq O.length oc ∧ m ≤ L.length ∧ Hid (p + m = L.length) ∧ Hid (0 < m → q = ⟨g, p * 7, none⟩) ∧ Hid (∃ F, Od w w3.heap.size g L B p p F [] O ov wr)) (fun lv _ _ => lnV lv)
      case atStart => exact ⟨0, L.length, ⟨g, 0, none⟩, [], none, 0, rfl, rfl, Nat.le_refl _, Nat.zero_add _, (fun _ => by rw [Nat.zero_mul]), HO0.out⟩
      case round =>
        clear HO0
        obtain ⟨p, m, q, O, oq, oc, rfl, rfl, hm, HPM, HQ, HOD⟩ := hrel
        obtain ⟨F, hod⟩ := HOD.out
        have HD := hide' hod
        clear hod HOD
        rcases Nat.eq_zero_or_pos m with h0 | h0
        · subst h0
          have HRs : Hid (RsAt wr oq O ∧ (O ≠ [] → O.Perm L) ∧ O.Pairwise (fun a c => prf a ≤ prf c) ∧ Below w.heap.size w wr) := HD.out.done (by have := HPM.out; omega)
          go_wp2_with fail
          go_ret2
          exact ⟨oq, oc, O, 0, rfl, (fun e => absurd rfl e), (fun e => ⟨HS.out, HRs.out.2.1 e, HRs.out.2.2.1⟩), HRs.out.1, HRs.out.2.2.2⟩
        · obtain rfl := HQ.out h0
          obtain ⟨X, hX⟩ : ∃ X, B.drop p = X := ⟨_, rfl⟩
          have hdl : X.length = m := by rw [← hX, List.length_drop, HD.out.bg.len]; have := HPM.out; omega
          subst hdl
          have HRun := hide' (run_any g (p * 7) X.length X wr (by rw [← hX]; exact HD.out.rest) h0 (by omega) (by omega) (by unfold maxLen; omega))
          have HOut : Hid (∀ (W : World) e, Below wr.heap.size wr W → 0 < e → e ≤ X.length → (∀ k (hk : k < X.length), k < e → X[k].f = X[0].f) → ∃ F', Od w w3.heap.size g L B p (p + e) F' (X.take e) O (.slice oq O.length oc) W) := fun W e hW he0 he hf => by
            subst hX
            exact (HD.out.below hW).outer (by have := HPM.out; have := HD.out.bg.len; omega) (by rw [List.length_drop] at he; exact he) hf
          have HTk : Hid (∀ e, e ≤ X.length → (X.take e).length = e) := fun e he => by rw [List.length_take]; omega
          have pm0 : (0 : Int) < (X.length : Int) := by omega
          clear hX HD HQ
          have HAd : Hid (∀ e, ∃ Ad : Addr, (if X.length = e then some (⟨g, p * 7, none⟩ : Addr) else some ⟨g, p * 7 + e * 7, none⟩) = some Ad ∧ Hid (0 < X.length - e → Ad = ⟨g, (p + e) * 7, none⟩)) := fun e => by
            by_cases he : X.length = e
            · exact ⟨_, if_pos he, fun h => by omega⟩
            · exact ⟨_, if_neg he, fun _ => by rw [Nat.add_mul]⟩
          go_wp2_with (go_at_call 10; refine HRun.out.mono ?_; rintro r5 w5 ⟨⟨e, rfl, he0, hem, hef⟩, hB5⟩; have HX := hide' (HOut.out w5 e hB5 he0 hem hef); obtain ⟨Ad, hAd, HAq⟩ := HAd.out e; have HL5 := hide' (HTk.out e hem); clear hef hB5)
          have HPE : Hid (p + e + (X.length - e) = L.length) := by
            unfold Hid
            have := HPM.out
            omega
          have hxl : e ≤ 1048576 := by omega
          obtain ⟨F', hX'⟩ := HX.out
          rw [Hid] at HL5
          obtain ⟨X', hXe⟩ : ∃ X', X.take e = X' := ⟨_, rfl⟩
          rw [hXe] at hX' HL5
          have HI0 := hide' hX'
          clear hX' HX hXe HPM HRun HOut HTk
          go_loopw [9, 8] (fun xv ov wv => ∃ (Y : List Et) (P : List Rn) (oq : Option Addr) (oc : Nat), xv = .slice (some ⟨g, p * 7, none⟩) Y.length e ∧ ov = .slice oq P.length oc ∧ Y.length ≤ e ∧ Hid (Od w w3.heap.size g L B p (p + e) F' Y P (.slice oq P.length oc) wv)) (fun xv _ _ => lnV xv)
          case atStart => exact ⟨X', O, oq, oc, by rw [HL5], rfl, by omega, HI0⟩
          case round =>
            clear HI0
            obtain ⟨Y, P, pq, pc, rfl, rfl, hYe, HI⟩ := hrel
            rcases Nat.eq_zero_or_pos Y.length with h1 | h1
            · have hY : Y = [] := List.eq_nil_of_length_eq_zero h1
              subst hY
              have HC := hide' HI.out.close
              clear HI h1
              go_wp2_with fail
              exact ⟨⟨p + e, X.length - e, Ad, P, pq, pc, rfl, rfl, by omega, HPE, HAq, ⟨F', HC.out⟩⟩, by simp only [lnV]; omega⟩
            · have hPl := HI.out.olen
              have HRo : Hid (Calls Try.prog 12 #[.slice px xs.length cx, .int .i64 (P.length : Int)] wr _) := rollAt_any xs px cx P.length wr (zat_belP HZX.out HI.out.bl) hxl0 HXB.out
              have HDr : Hid (∀ z : Int, 0 ≤ z ∧ z ≤ 9223372036854775807 → Calls Try.prog 11 #[.slice (some ⟨g, p * 7, none⟩) Y.length e, .int .i64 z] wr _) := fun z hz => draw_any g (p * 7) e Y z wr HI.out.part h1 (by omega) HI.out.weights hz
              have HDe : Hid (∀ (A Z : List Et) (i : Nat) (W : World), A.length = p → Eb W g (A ++ Y ++ (Z ++ B.drop (p + e))) → i < Y.length → Calls Try.prog 13 #[.slice (some ⟨g, p * 7, none⟩) Y.length e, .int .i64 (i : Int), .int .i64 ((i : Int) + 1)] W fun r w' => r = .returned (.slice (some ⟨g, p * 7, none⟩) (Y.length - 1) e) ∧ Eb w' g (A ++ (Y.eraseIdx i ++ [zE]) ++ (Z ++ B.drop (p + e))) ∧ W.grownBy w' (some g)) := fun A Z i W hAl hW hi => by
                have := delete_any g e i A Y (Z ++ B.drop (p + e)) W hW hi hYe (by unfold maxLen; omega) (by omega)
                rw [hAl, show ((i + 1 : Nat) : Int) = (i : Int) + 1 by omega] at this
                exact this
              have y0 : (0 : Int) < (Y.length : Int) := by omega
              have hY2 : Y.length ≤ 1048576 := by omega
              have HP1 : Hid (P.length + 1 ≤ 10000000) := by
                unfold Hid
                omega
              go_wp2_with (first
                | (go_at_call 12; (with_reducible refine HRo.out.mono ?_); rintro r7 w7 ⟨⟨z, rfl, hz1, hz2⟩, hw7⟩; have hw7' := hw7.symm; subst hw7')
                | (go_at_call 11; (with_reducible refine (HDr.out z ⟨hz1, hz2⟩).mono ?_); rintro r8 w8 ⟨⟨i, rfl, hi⟩, hB8⟩; have HI8 := hide' (HI.out.below hB8); obtain ⟨xo, xt, xc, xl, xd, hx, c2, c3, c4, c5, c6⟩ := (HI8.out.part.2 i hi).rec5; have HHi := hide' hi; have hii : (i : Int) < (Y.length : Int) := Int.ofNat_lt.2 hi; have HXi := hide' hx; clear hx hB8; have ei := wrap_succP (Nat.le_trans (Nat.le_of_lt HHi.out) hY2); obtain ⟨wb, hwb⟩ : ∃ wb, w8.alloc (.cells #[.string xo, .int .i64 xt, .int .i64 xc, .int .i64 xl, .string xd] 29) = wb := ⟨_, rfl⟩; have HOb := hide' (HI8.out.below (alloc_belP hwb)); have HRb := hide' (rs_newP hwb))
                | (at_builtin; refine wpList_append_recsM rfl _ _ rfl w3.heap.size _ P.length (rce5 P) rfl HOb.out.ow (some ⟨w8.heap.size, 0, none⟩) [⟨xo, xt, xc, xl, xd⟩] 1 rfl HRb.out (fun h => absurd h (Option.some_ne_none _)) HP1.out HOb.out.gb.2.2 ?_; intro v9 w9 ho9 hg9; obtain ⟨q9, c9, hv9, HN9⟩ := HOb.out.append9 HHi.out HXi.out ho9 hg9; subst hv9; obtain ⟨A, Z, hAl, hE9, hN9⟩ := HN9; have HD9 := hide' (HDe.out A Z i w9 hAl hE9 HHi.out); have HNx := hide' hN9; clear ho9 hg9 hE9 hN9 hAl c2 c3 c4 c5 c6 hwb)
                | (go_at_call 13; (with_reducible refine HD9.out.mono ?_); rintro r10 w10 ⟨rfl, hE10, hG10⟩; have HI10 := hide' (HNx.out w10 hE10 hG10); clear hE10 hG10))
              have hel := HI10.out.1
              exact ⟨⟨Y.eraseIdx i, P ++ [Rn.mk xo xt xc xl xd], q9, c9, by rw [hel], by rw [List.length_append]; rfl, by rw [hel]; omega, hide' HI10.out.2⟩, by simp only [lnV]; have := HHi.out; omega⟩
end Go.Proofs.Ytelboefeomnjaaa
