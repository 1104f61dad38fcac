import Derived.Test.YtgekfhghambacaaGreatCccG
import Derived.Test.YtgekfhghambacaaGreatMl0G
import Derived.Test.YtgekfhghambacaaGreatFt1G
import Derived.Test.YtgekfhghambacaaGreatPjkG
import Derived.Test.YtgekfhghambacaaGreatWkG
/-
  Chapter 12: (*cache.entry).known, (*cache.Cache).proofsOf, kindOf. (The verifier's own text; mkcce.py writes it.)
-/
namespace Go.Proofs.YtgekfhghambacaaGreat
set_option linter.unusedVariables false
set_option linter.unusedSimpArgs false
open Go.RowKit Go.Shelf Go.Maps Go.Proofs.YtgekfhghambacaaGreat.Nm

/-- a record with another age -/
def agR (l : Int) (r : Rn) : Rn := ⟨r.o, r.t, r.c, l, r.d⟩
/-- the first k are done -/
def dnL (l : Int) (M : List Rn) (k : Nat) : List Rn := (M.take k).map (agR l) ++ M.drop k
theorem dnL_len (l : Int) (M : List Rn) (k : Nat) : (dnL l M k).length = M.length := by
  unfold dnL
  rw [List.length_append, List.length_map, List.length_take, List.length_drop]
  omega
theorem dnL_at {l : Int} {M : List Rn} {k : Nat} (h : k < M.length) : (dnL l M k)[k]'(by rw [dnL_len]; exact h) = M[k] := by
  unfold dnL
  rw [List.getElem_append_right (by rw [List.length_map, List.length_take]; omega)]
  simp only [List.length_map, List.length_take, List.getElem_drop]
  congr 1
  omega
theorem dnL_succ {l : Int} {M : List Rn} {k : Nat} (h : k < M.length) (r : Rn) (hr : r = agR l M[k]) : (dnL l M k).set k r = dnL l M (k + 1) := by
  subst hr
  unfold dnL
  have hl : ((M.take k).map (agR l)).length = k := by rw [List.length_map, List.length_take]; omega
  rw [List.set_append_right _ _ (by omega), hl, Nat.sub_self, List.drop_eq_getElem_cons h, List.set_cons_zero, List.take_succ_eq_append_getElem h, List.map_append, List.append_assoc]
  rfl
theorem dnL_all (l : Int) (M : List Rn) : dnL l M M.length = M.map (agR l) := by
  unfold dnL
  rw [List.take_length, List.drop_length, List.append_nil]
theorem dnL_none (l : Int) (M : List Rn) : dnL l M 0 = M := by simp [dnL]
theorem rce5_atC {L : List Rn} {j : Nat} (hj : j < L.length) (rest : List Value) : rce5 L ++ rest = rce5 (L.take j) ++ (ren5 L[j] ++ (rce5 (L.drop (j + 1)) ++ rest)) := by
  have e : L = L.take j ++ L[j] :: L.drop (j + 1) := by rw [← List.drop_eq_getElem_cons hj, List.take_append_drop]
  conv => lhs; rw [e]
  rw [rce5_app]
  show rce5 (L.take j) ++ (ren5 L[j] ++ rce5 (L.drop (j + 1))) ++ rest = _
  simp only [List.append_assoc]
theorem rce5_putC {L : List Rn} {j : Nat} (hj : j < L.length) (r : Rn) (rest : List Value) : rce5 (L.set j r) ++ rest = rce5 (L.take j) ++ (ren5 r ++ (rce5 (L.drop (j + 1)) ++ rest)) := by
  rw [List.set_eq_take_append_cons_drop, if_pos hj, rce5_app]
  show rce5 (L.take j) ++ (ren5 r ++ rce5 (L.drop (j + 1))) ++ rest = _
  simp only [List.append_assoc]
theorem Rb.ageC {w : World} {g : Nat} {L : List Rn} {rest : List Value} (h : Rb w g L rest) {j : Nat} (hj : j < L.length) (l : Int) : Rb (w.setCell ⟨g, j * 5 + 3, none⟩ (.int .i64 l)) g (L.set j ⟨L[j].o, L[j].t, L[j].c, l, L[j].d⟩) rest := by
  unfold Rb at h ⊢
  have hl : (rce5 (L.take j) ++ [Value.string L[j].o, .int .i64 L[j].t, .int .i64 L[j].c]).length = j * 5 + 3 := by rw [List.length_append, rce5_len, List.length_take]; simp; omega
  rw [rce5_atC hj] at h
  rw [rce5_putC hj]
  have h2 := Bx.set h (j * 5 + 3) (.int .i64 l)
  have e1 : rce5 (L.take j) ++ (ren5 L[j] ++ (rce5 (L.drop (j + 1)) ++ rest)) = (rce5 (L.take j) ++ [Value.string L[j].o, .int .i64 L[j].t, .int .i64 L[j].c]) ++ Value.int .i64 L[j].l :: (.string L[j].d :: (rce5 (L.drop (j + 1)) ++ rest)) := by simp [ren5]
  have e2 : rce5 (L.take j) ++ (ren5 ⟨L[j].o, L[j].t, L[j].c, l, L[j].d⟩ ++ (rce5 (L.drop (j + 1)) ++ rest)) = (rce5 (L.take j) ++ [Value.string L[j].o, .int .i64 L[j].t, .int .i64 L[j].c]) ++ Value.int .i64 l :: (.string L[j].d :: (rce5 (L.drop (j + 1)) ++ rest)) := by simp [ren5]
  have e : (rce5 (L.take j) ++ (ren5 L[j] ++ (rce5 (L.drop (j + 1)) ++ rest))).toArray.setIfInBounds (j * 5 + 3) (.int .i64 l) = (rce5 (L.take j) ++ (ren5 ⟨L[j].o, L[j].t, L[j].c, l, L[j].d⟩ ++ (rce5 (L.drop (j + 1)) ++ rest))).toArray := by
    rw [e1, e2, ← hl]
    exact set_list (B := []) _
  rw [e] at h2
  exact h2
/-- a row of records again -/
theorem rb_back {w : World} {base g cap n : Nat} {L M : List Rn} (h : w.ownsRow base 36 5 (.slice (some ⟨g, 0, none⟩) n cap) n (rce5 L)) {w' : World} {rest : List Value} (h0 : Rb w g L rest) (h1 : Rb w' g M rest) (hl : M.length = L.length) : w'.ownsRow base 36 5 (.slice (some ⟨g, 0, none⟩) n cap) n (rce5 M) := by
  obtain ⟨hn, (⟨h2, _⟩ | ⟨g', cap', cur, h2, hb, hg, hc1, hc2, hc3, hc4⟩)⟩ := h
  · cases h2
  · injection h2 with h2 h3 h4
    injection h2 with h2
    injection h2 with h2
    subst h2 h4
    unfold Rb Bx at h0 h1
    rw [hg] at h0
    injection h0 with h0
    injection h0 with h0 _ _
    have hsz : (rce5 M).length = (rce5 L).length := by rw [rce5_len, rce5_len, hl]
    refine ⟨by rw [hsz]; exact hn, .inr ⟨g, cap, _, rfl, hb, h1, hc1, hc2, ?_, ?_⟩⟩
    · rw [h0] at hc3
      simp only [List.size_toArray, List.length_append] at hc3 ⊢
      rw [hsz]; exact hc3
    · rw [← hn, ← hsz]
      simp
/-- what is known by what was proved -/
def kindP (t : Int) : Int := if t = 1 then 4 else if t = 2 then 3 else 0
set_option maxRecDepth 100000 in
set_option maxHeartbeats 1000000 in
theorem kindOf_any (t : Int) (w : World) : Calls Tryz.prog 59 #[.int .i64 t] w fun e w' => e = .returned (.int .i64 (kindP t)) ∧ w' = w := by
  by_cases h1 : t = 1
  · subst h1
    go_enter Tryz.func59, Tryz.ntmps59
    go_wp2_with fail
    go_ret
    exact ⟨rfl, rfl⟩
  · by_cases h2 : t = 2
    · subst h2
      go_enter Tryz.func59, Tryz.ntmps59
      go_wp2_with fail
      go_ret
      exact ⟨rfl, rfl⟩
    · have e1 : (t == 1) = false := by rw [beq_eq_false_iff_ne]; exact h1
      have e2 : (t == 2) = false := by rw [beq_eq_false_iff_ne]; exact h2
      have HK : Hid (kindP t = 0) := by unfold Hid kindP; rw [if_neg h1, if_neg h2]
      clear h1 h2
      go_enter Tryz.func59, Tryz.ntmps59
      go_wp2_with fail
      go_ret
      exact ⟨by rw [HK.out]; rfl, rfl⟩
theorem bx3C {w : World} {R : Nat} {T : TypeId} {a b c : Value} (h : Bx w R #[a, b, c] T) : w.cell? ⟨R, 0, none⟩ = some a ∧ w.cell? ⟨R, 1, none⟩ = some b ∧ w.cell? ⟨R, 2, none⟩ = some c ∧ w.frozen? ⟨R, 0, none⟩ = false ∧ w.frozen? ⟨R, 1, none⟩ = false ∧ w.frozen? ⟨R, 2, none⟩ = false :=
  ⟨h.cell rfl, h.cell rfl, h.cell rfl, h.free _, h.free _, h.free _⟩
theorem bx3C_set {w : World} {R : Nat} {T : TypeId} {a b c : Value} (h : Bx w R #[a, b, c] T) (x y z : Value) : Bx (((w.setCell ⟨R, 0, none⟩ x).setCell ⟨R, 1, none⟩ y).setCell ⟨R, 2, none⟩ z) R #[x, y, z] T := ((h.set 0 x).set 1 y).set 2 z
theorem below3C {n : Nat} {w W : World} {R : Nat} (h : Below n w W) (hR : n ≤ R) (x y z : Value) : Below n w (((W.setCell ⟨R, 0, none⟩ x).setCell ⟨R, 1, none⟩ y).setCell ⟨R, 2, none⟩ z) :=
  ((h.setCell hR _).setCell hR _).setCell hR _
theorem own_geC {w : World} {base e size n : Nat} {xs : List Value} {g cap m : Nat} (h : w.ownsRow base e size (.slice (some ⟨g, 0, none⟩) m cap) n xs) : base ≤ g := by
  obtain ⟨_, (⟨h1, _⟩ | ⟨g', cap', cur, h1, hb, _⟩)⟩ := h
  · cases h1
  · injection h1 with h1
    injection h1 with h1
    injection h1 with h1
    subst h1
    exact hb
theorem Bx.far_setC {w : World} {R : Nat} {cs : Array Value} {T : TypeId} (h : Bx w R cs T) {g : Nat} (hne : R ≠ g) (j : Nat) (v : Value) : Bx (w.setCell ⟨g, j, none⟩ v).drew R cs T := by
  have h2 : Bx (w.setCell ⟨g, j, none⟩ v) R cs T := h.grown (grown_set w g j v) (fun e => hne (by injection e with e; exact e.symm))
  exact h2
theorem own3C {w : World} {base g cap n R : Nat} {xs : List Value} {T : TypeId} (h : w.ownsRow base 36 5 (.slice (some ⟨g, 0, none⟩) n cap) n xs) {a b c : Value} (hb : Bx w R #[a, b, c] T) (hR : R < base) (x y z : Value) : (((w.setCell ⟨R, 0, none⟩ x).setCell ⟨R, 1, none⟩ y).setCell ⟨R, 2, none⟩ z).ownsRow base 36 5 (.slice (some ⟨g, 0, none⟩) n cap) n xs := by
  have hg := own_geC h
  refine own_blk h (fun k hk => ?_)
  unfold Value.ownBlock at hk
  injection hk with hk
  subst hk
  have hne : g ≠ R := by omega
  rw [Below.heap_setCell _ _ _ _ hne, Below.heap_setCell _ _ _ _ hne, Below.heap_setCell _ _ _ _ hne]
theorem wrap_nnC2 (z : Int) (h0 : -4611686018427387904 ≤ z) (h : z ≤ 4611686018427387904) : IntKind.i64.wrap z = z := by
  simp [IntKind.wrap, IntKind.bits, IntKind.signed]
  omega
theorem own_some_sl {w : World} {base e size : Nat} {v : Value} {n : Nat} {xs : List Value} (h : w.ownsRow base e size v n xs) (hn : 0 < n) : ∃ g cap, v = .slice (some ⟨g, 0, none⟩) n cap := by
  obtain ⟨_, (⟨h1, h2⟩ | ⟨g, cap, cur, h1, _⟩)⟩ := h
  · omega
  · exact ⟨g, cap, h1⟩
theorem own_lowC {w : World} {base b2 e size : Nat} {v : Value} {n : Nat} {xs : List Value} (h : w.ownsRow base e size v n xs) (hb : b2 ≤ base) : w.ownsRow b2 e size v n xs := by
  obtain ⟨h0, (h1 | ⟨g, cap, cur, h1, h2, h3⟩)⟩ := h
  · exact ⟨h0, .inl h1⟩
  · exact ⟨h0, .inr ⟨g, cap, cur, h1, Nat.le_trans hb h2, h3⟩⟩
set_option maxRecDepth 100000 in
set_option maxHeartbeats 4000000 in
/-- (*cache.entry).known -/
theorem known_any (w : World) (base : Nat) (e : Ce) (kind now : Int) (he : Eat w base e) (hne : e.recs ≠ []) (hl : e.recs.length ≤ 1048576) (hf0 : 0 ≤ e.fin) (hf1 : e.fin ≤ 8589934592) (hn0 : 0 ≤ now) (hn1 : now ≤ 4294967295) :
    Calls Tryz.prog 20 #[peV e.blk, .int .i64 kind, .int .i64 now] w fun r w' => (∃ g cap, r = .returned (.agg #[.int .i64 kind, .int .i64 e.rank, .slice (some ⟨g, 0, none⟩) e.recs.length cap]) ∧ w'.ownsRow w.heap.size 36 5 (.slice (some ⟨g, 0, none⟩) e.recs.length cap) e.recs.length (rce5 (e.recs.map (agR (min (e.fin - now) e.age))))) ∧ Below w.heap.size w w' := by
  obtain ⟨key, fin, came, age, rank, R, pR, cR, E⟩ := e
  obtain ⟨hbx, hrs, -, hRc, hcm, hp0⟩ := he
  simp only at *
  obtain ⟨N, hN⟩ : ∃ N, R.length = N := ⟨_, rfl⟩
  obtain ⟨mn, hmn⟩ : ∃ mn, min (fin - now) age = mn := ⟨_, rfl⟩
  have hmn2 : min (fin - now) age = mn := hmn
  have hN0 : 0 < N := by rw [← hN]; exact List.length_pos_iff.2 hne
  obtain ⟨wa, hwa⟩ : ∃ wa, w.alloc (.cells #[.int .i64 0, .int .i64 0, .slice none 0 0] 33) = wa := ⟨_, rfl⟩
  have HBa : Hid (Below w.heap.size w wa) := hwa ▸ (Below.refl _ w).alloc (Nat.le_refl _) _
  have HKa : Hid (Bx wa w.heap.size #[.int .i64 0, .int .i64 0, .slice none 0 0] 33) := hwa ▸ World.alloc_heap_new w _
  have hsa : wa.heap.size = w.heap.size + 1 := by rw [← hwa]; exact World.size_alloc ..
  have HE0 : Hid (∀ V : World, Below w.heap.size w V → V.cell? ⟨E, 4, none⟩ = some (.int .i64 fin) ∧ V.cell? ⟨E, 6, none⟩ = some (.int .i64 age)) := fun V hV => by
    have hb := hbx.below hV hbx.lt
    exact ⟨hb.cell rfl, hb.cell rfl⟩
  have HE7 : Hid (∀ V : World, Below w.heap.size w V → V.cell? ⟨E, 7, none⟩ = some (.int .i64 rank)) := fun V hV => (hbx.below hV hbx.lt).cell rfl
  have e8 : wa.cell? ⟨E, 8, none⟩ = some (.slice pR N cR) := hN ▸ (hbx.below HBa.out hbx.lt).cell rfl
  have hcl := cloneR_any R pR cR wa hl (rs_bel hrs.1 HBa.out)
  rw [hN] at hcl
  have HCl := hide' hcl
  have HNe0 := hide' hN
  have hNl : N ≤ 1048576 := hN ▸ hl
  have hwr := wrap_nnC2 (fin - now) (by omega) (by omega)
  have HSa := hide' hsa
  clear hcl hbx hrs hsa hN hne hl hRc hcm hp0
  unfold peV
  go_enter Tryz.func20, Tryz.ntmps20
  go_wp2_with (go_at_call 25; refine HCl.out.mono ?_; rintro r1 w1 ⟨hv1, hB1⟩; obtain ⟨v, rfl, ho⟩ := hv1; obtain ⟨g, cap, rfl⟩ := own_some_sl ho hN0; have HO1 := hide' ho; have HB1 := hide' (bstep HBa.out hB1 HBa.out.size); have HK1 := hide' (HKa.out.below hB1 HKa.out.lt); clear ho hB1)
  obtain ⟨rest, hrb, hgg⟩ := rb_ownM HO1.out
  have hgw : w.heap.size + 1 ≤ g := by rw [← HSa.out]; exact hgg
  have HGg : Hid (w.heap.size ≤ g) := by unfold Hid; omega
  have HNe : Hid (w.heap.size ≠ g) := by unfold Hid; omega
  have HRb1 := hide' hrb
  have hNc : N ≤ cap := by
    obtain ⟨_, (⟨h1, _⟩ | ⟨g', cap', cur, h1, hb, hg, hc1, _⟩)⟩ := HO1.out
    · cases h1
    · injection h1 with h1 h2 h3
      subst h3
      exact hc1
  clear hrb hgg hgw
  have HMn := hide' hmn2
  go_loopw [16] (fun v wr => ∃ k : Nat, v = .int .i64 (k : Int) ∧ k ≤ N ∧ Hid (Rb wr g (dnL mn R k) rest) ∧ Hid (Below w.heap.size w wr) ∧ Hid (Bx wr w.heap.size #[.int .i64 0, .int .i64 0, .slice none 0 0] 33)) (fun v _ => N - (intOf v).toNat)
  case atStart => exact ⟨0, rfl, Nat.zero_le _, (by unfold Hid; rw [dnL_none]; exact HRb1.out), HB1.out, HK1.out⟩
  case round =>
    obtain ⟨k, rfl, hk, HRb, HBr, HKr⟩ := hrel
    by_cases hlt : k < N
    · have hkR : k < (dnL mn R k).length := by rw [dnL_len, HNe0.out]; exact hlt
      have hkR2 : k < R.length := by rw [HNe0.out]; exact hlt
      have HDn : Hid ((dnL mn R k).set k ⟨((dnL mn R k)[k]'hkR).o, ((dnL mn R k)[k]'hkR).t, ((dnL mn R k)[k]'hkR).c, mn, ((dnL mn R k)[k]'hkR).d⟩ = dnL mn R (k + 1)) := dnL_succ hkR2 _ (by have e : (dnL mn R k)[k]'hkR = R[k] := dnL_at hkR2; rw [e]; rfl)
      obtain ⟨-, -, -, q3, -⟩ := HRb.out.cells hkR
      have HCk : Hid (wr.cell? ⟨g, k * 5 + 3, none⟩ = some (.int .i64 ((dnL mn R k)[k]'hkR).l) ∧ wr.frozen? ⟨g, k * 5 + 3, none⟩ = false) := ⟨q3, HRb.out.free _⟩
      have HCe := hide' (HE0.out wr HBr.out)
      have HKl := hide' hkR
      clear q3 hkR2
      go_wp2_with fail
      refine wp_region_held_drew (S := fun V => V.cell? ⟨E, 4, none⟩ = some (.int .i64 fin) ∧ V.cell? ⟨E, 6, none⟩ = some (.int .i64 age)) (by kernel_rfl) ?_ (fun hHeld => ?_)
      · exact ⟨HCe.out.1, HCe.out.2⟩
      refine takeD 0 (some 19) (.slice (some ⟨g, 0, none⟩) N cap) rfl rfl (by kernel_rfl) (by kernel_rfl) (by kernel_rfl) (fun _ _ _ h => h) (Or.inl ⟨by rfl, ?_⟩) (by assumption) ?_
      · intro w hSw; (try dsimp only at hSw); obtain ⟨e4, e6⟩ := hSw; go_simp <;> (intros; omega)
      simp only [Act.put, List.setIfInBounds_toArray, List.set_cons_zero, List.set_cons_succ]
      refine takeD 1 (some 20) (.int .i64 (k : Int)) rfl rfl (by kernel_rfl) (by kernel_rfl) (by kernel_rfl) (fun _ _ _ h => h) (Or.inl ⟨by rfl, ?_⟩) (by assumption) ?_
      · intro w hSw; (try dsimp only at hSw); obtain ⟨e4, e6⟩ := hSw; go_simp <;> (intros; omega)
      simp only [Act.put, List.setIfInBounds_toArray, List.set_cons_zero, List.set_cons_succ]
      refine takeD 2 (some 21) (.pointer (some ⟨E, 0, none⟩)) rfl rfl (by kernel_rfl) (by kernel_rfl) (by kernel_rfl) (fun _ _ _ h => h) (Or.inl ⟨by rfl, ?_⟩) (by assumption) ?_
      · intro w hSw; (try dsimp only at hSw); obtain ⟨e4, e6⟩ := hSw; go_simp <;> (intros; omega)
      simp only [Act.put, List.setIfInBounds_toArray, List.set_cons_zero, List.set_cons_succ]
      refine takeD 3 (some 22) (.pointer (some ⟨E, 0, none⟩)) rfl rfl (by kernel_rfl) (by kernel_rfl) (by kernel_rfl) (fun _ _ _ h => h) (Or.inl ⟨by rfl, ?_⟩) (by assumption) ?_
      · intro w hSw; (try dsimp only at hSw); obtain ⟨e4, e6⟩ := hSw; go_simp <;> (intros; omega)
      simp only [Act.put, List.setIfInBounds_toArray, List.set_cons_zero, List.set_cons_succ]
      refine takeD 4 (some 23) (.pointer (some ⟨E, 4, none⟩)) rfl rfl (by kernel_rfl) (by kernel_rfl) (by kernel_rfl) (fun _ _ _ h => h) (Or.inl ⟨by rfl, ?_⟩) (by assumption) ?_
      · intro w hSw; (try dsimp only at hSw); obtain ⟨e4, e6⟩ := hSw; go_simp <;> (intros; omega)
      simp only [Act.put, List.setIfInBounds_toArray, List.set_cons_zero, List.set_cons_succ]
      refine takeD 5 (some 24) (.int .i64 fin) rfl rfl (by kernel_rfl) (by kernel_rfl) (by kernel_rfl) (fun _ _ _ h => h) (Or.inl ⟨by rfl, ?_⟩) (by assumption) ?_
      · intro w hSw; (try dsimp only at hSw); obtain ⟨e4, e6⟩ := hSw; go_simp <;> (intros; omega)
      simp only [Act.put, List.setIfInBounds_toArray, List.set_cons_zero, List.set_cons_succ]
      refine takeD 6 (some 25) (.int .i64 now) rfl rfl (by kernel_rfl) (by kernel_rfl) (by kernel_rfl) (fun _ _ _ h => h) (Or.inl ⟨by rfl, ?_⟩) (by assumption) ?_
      · intro w hSw; (try dsimp only at hSw); obtain ⟨e4, e6⟩ := hSw; go_simp <;> (intros; omega)
      simp only [Act.put, List.setIfInBounds_toArray, List.set_cons_zero, List.set_cons_succ]
      refine takeD 7 (some 26) (.int .i64 (fin - now)) rfl rfl (by kernel_rfl) (by kernel_rfl) (by kernel_rfl) (fun _ _ _ h => h) (Or.inl ⟨by rfl, ?_⟩) (by assumption) ?_
      · intro w hSw; (try dsimp only at hSw); obtain ⟨e4, e6⟩ := hSw; go_simp <;> (intros; omega)
      simp only [Act.put, List.setIfInBounds_toArray, List.set_cons_zero, List.set_cons_succ]
      refine takeD 8 (some 27) (.pointer (some ⟨E, 0, none⟩)) rfl rfl (by kernel_rfl) (by kernel_rfl) (by kernel_rfl) (fun _ _ _ h => h) (Or.inl ⟨by rfl, ?_⟩) (by assumption) ?_
      · intro w hSw; (try dsimp only at hSw); obtain ⟨e4, e6⟩ := hSw; go_simp <;> (intros; omega)
      simp only [Act.put, List.setIfInBounds_toArray, List.set_cons_zero, List.set_cons_succ]
      refine takeD 9 (some 28) (.pointer (some ⟨E, 0, none⟩)) rfl rfl (by kernel_rfl) (by kernel_rfl) (by kernel_rfl) (fun _ _ _ h => h) (Or.inl ⟨by rfl, ?_⟩) (by assumption) ?_
      · intro w hSw; (try dsimp only at hSw); obtain ⟨e4, e6⟩ := hSw; go_simp <;> (intros; omega)
      simp only [Act.put, List.setIfInBounds_toArray, List.set_cons_zero, List.set_cons_succ]
      refine takeD 10 (some 29) (.pointer (some ⟨E, 6, none⟩)) rfl rfl (by kernel_rfl) (by kernel_rfl) (by kernel_rfl) (fun _ _ _ h => h) (Or.inl ⟨by rfl, ?_⟩) (by assumption) ?_
      · intro w hSw; (try dsimp only at hSw); obtain ⟨e4, e6⟩ := hSw; go_simp <;> (intros; omega)
      simp only [Act.put, List.setIfInBounds_toArray, List.set_cons_zero, List.set_cons_succ]
      refine takeD 11 (some 30) (.int .i64 age) rfl rfl (by kernel_rfl) (by kernel_rfl) (by kernel_rfl) (fun _ _ _ h => h) (Or.inl ⟨by rfl, ?_⟩) (by assumption) ?_
      · intro w hSw; (try dsimp only at hSw); obtain ⟨e4, e6⟩ := hSw; go_simp <;> (intros; omega)
      simp only [Act.put, List.setIfInBounds_toArray, List.set_cons_zero, List.set_cons_succ]
      refine takeD 12 (some 31) (.int .i64 mn) rfl rfl (by kernel_rfl) (by kernel_rfl) (by kernel_rfl) (fun _ _ _ h => h) (Or.inl ⟨by rfl, ?_⟩) (by assumption) ?_
      · intro w hSw; (try dsimp only at hSw); obtain ⟨e4, e6⟩ := hSw; go_simp <;> (intros; omega)
      simp only [Act.put, List.setIfInBounds_toArray, List.set_cons_zero, List.set_cons_succ]
      refine takeD 13 (some 32) (.pointer (some ⟨g, k * 5, none⟩)) rfl rfl (by kernel_rfl) (by kernel_rfl) (by kernel_rfl) (fun _ _ _ h => h) (Or.inl ⟨by rfl, ?_⟩) (by assumption) ?_
      · intro w hSw; (try dsimp only at hSw); obtain ⟨e4, e6⟩ := hSw; go_simp <;> (intros; omega)
      simp only [Act.put, List.setIfInBounds_toArray, List.set_cons_zero, List.set_cons_succ]
      refine takeD 14 (some 33) (.pointer (some ⟨g, k * 5 + 3, none⟩)) rfl rfl (by kernel_rfl) (by kernel_rfl) (by kernel_rfl) (fun _ _ _ h => h) (Or.inl ⟨by rfl, ?_⟩) (by assumption) ?_
      · intro w hSw; (try dsimp only at hSw); obtain ⟨e4, e6⟩ := hSw; go_simp <;> (intros; omega)
      simp only [Act.put, List.setIfInBounds_toArray, List.set_cons_zero, List.set_cons_succ]
      have y3 := HCk.out.1
      have y4 := HCk.out.2
      refine wpAnyH_ready (rs := [15]) (by kernel_rfl) (by simp) ?_
      refine AllReadyH.cons rfl (fun K hK => ?_) AllReadyH.nil
      go_simp
      go_wp2_with fail
      obtain ⟨ws, hws⟩ : ∃ ws, (wr.setCell ⟨g, k * 5 + 3, none⟩ (.int .i64 mn)).drew = ws := ⟨_, rfl⟩
      have HRs : Hid (Rb ws g (dnL mn R (k + 1)) rest) := by rw [← HDn.out, ← hws]; exact HRb.out.ageC hkR mn
      have HBs : Hid (Below w.heap.size w ws) := by rw [← hws]; exact below_drewC (HBr.out.setCell (p := ⟨g, k * 5 + 3, none⟩) HGg.out _) 1
      have HEs : Hid (ws.cell? ⟨E, 4, none⟩ = some (.int .i64 fin) ∧ ws.cell? ⟨E, 6, none⟩ = some (.int .i64 age)) := HE0.out ws HBs.out
      have HKs : Hid (Bx ws w.heap.size #[.int .i64 0, .int .i64 0, .slice none 0 0] 33) := by rw [← hws]; exact HKr.out.far_setC HNe.out _ _
      rw [hws]
      clear hws y3 y4
      refine hK.out _ _ HEs.out (fun hHeld => ?_)
      clear hK K
      try simp only [Act.put, List.setIfInBounds_toArray, List.set_cons_zero, List.set_cons_succ]
      refine wpAnyH_done (by kernel_rfl) ?_ _
      clear hHeld
      go_wp2_with fail
      go_roundw
      case rel => exact ⟨k + 1, by go_num, hlt, HRs.out, HBs.out, HKs.out⟩
      case measure => simp [intOf]; omega
    · obtain rfl : k = N := by omega
      have HRn : Hid (Rb wr g (R.map (agR mn)) rest) := by
        have h := HRb.out
        rw [← HNe0.out, dnL_all] at h
        exact h
      have e7 := HE7.out wr HBr.out
      obtain ⟨z0, z1, z2, f0, f1, f2⟩ := bx3C HKr.out
      have HOn := hide' (rb_back HO1.out HRb1.out HRn.out (by rw [List.length_map]))
      go_wp2_with fail
      have hb := bx3C_set HKr.out (.int .i64 kind) (.int .i64 rank) (.slice (some ⟨g, 0, none⟩) k cap)
      have HBf := below3C HBr.out (Nat.le_refl _) (.int .i64 kind) (.int .i64 rank) (.slice (some ⟨g, 0, none⟩) k cap)
      obtain ⟨r0, r1, r2, -, -, -⟩ := bx3C hb
      refine bodyPost_ret (v := .agg #[.int .i64 kind, .int .i64 rank, .slice (some ⟨g, 0, none⟩) k cap]) (by simp [results, go_sem, r0, r1, r2]) rfl ⟨⟨g, cap, by rw [HNe0.out], ?_⟩, HBf⟩
      have ho := HOn.out
      rw [HSa.out] at ho
      have ho2 := own3C ho HKr.out (Nat.lt_succ_self _) (.int .i64 kind) (.int .i64 rank) (.slice (some ⟨g, 0, none⟩) k cap)
      rw [HNe0.out, HMn.out]
      exact own_lowC ho2 (Nat.le_succ _)
end Go.Proofs.YtgekfhghambacaaGreat

/-
  Chapter 12: (*cache.Cache).proofsOf. (The verifier's own text; mkccf.py writes it.)
-/
namespace Go.Proofs.YtgekfhghambacaaGreat
set_option linter.unusedVariables false
set_option linter.unusedSimpArgs false
open Go.RowKit Go.Shelf Go.Maps Go.Proofs.YtgekfhghambacaaGreat.Nm

/-- the records of those that are alive -/
def recsA (now : Int) (B : List Ce) : List Rn := (B.filter (fun e => decide (e.fin > now))).flatMap Ce.recs
/-- the proofs of an apex that are alive -/
def pfL (a : ByteArray) (now : Int) (S : List Ce) : List Rn := recsA now (prK a S)
theorem recsA_yes {now : Int} {B : List Ce} {e : Ce} (h : e.fin > now) : recsA now (B ++ [e]) = recsA now B ++ e.recs := by
  unfold recsA
  rw [List.filter_append, List.flatMap_append]
  simp [h]
theorem recsA_no {now : Int} {B : List Ce} {e : Ce} (h : ¬ e.fin > now) : recsA now (B ++ [e]) = recsA now B := by
  unfold recsA
  rw [List.filter_append, List.flatMap_append]
  simp [h]
theorem recsA_len {now : Int} : ∀ {B : List Ce}, (∀ e ∈ B, e.recs.length = 1) → (recsA now B).length ≤ B.length := by
  intro B h
  unfold recsA
  rw [List.length_flatMap]
  have : ∀ (C : List Ce), (∀ e ∈ C, e.recs.length = 1) → (C.map (fun e => e.recs.length)).sum = C.length := by
    intro C
    induction C with
    | nil => intro _; rfl
    | cons c C ih => intro hc; simp [hc c List.mem_cons_self, ih (fun e he => hc e (List.mem_cons_of_mem _ he))]; omega
  rw [this _ (fun e he => h e (List.mem_filter.1 he).1)]
  exact List.length_filter_le _ _
section
variable {w : World} {L M P base : Nat} {most came : Int} {S : List Ce} {Q : List Qe}
/-- the row of an apex, as pointers -/
theorem Cac.points (h : Cac w L M P base most came S Q) (a : ByteArray) : ∃ pr cr, slAt a Q = .slice pr (prK a S).length cr ∧ PtAt w pr ((prK a S).map Ce.blk) := by
  obtain ⟨v, hv, hrow, hc⟩ := h.row a
  rcases hc with ⟨rfl, h0, -⟩ | ⟨q, hq, rfl, rfl, -⟩
  · refine ⟨none, 0, by rw [hv, h0]; rfl, ?_⟩
    rw [h0]
    intro k hk
    exact absurd hk (Nat.not_lt_zero _)
  · obtain ⟨-, hb2, -, -⟩ := h.rows q hq
    obtain ⟨rest, hx1, hx2, hx3, hx4⟩ := row_cur hrow
    refine ⟨some ⟨q.g, 0, none⟩, q.c, by rw [hv]; unfold qeV; rw [hb2], fun k hk => ⟨q.g, rfl, ?_⟩⟩
    refine hx1.cell ?_
    rw [List.length_map] at hk
    rw [List.getElem?_toArray, List.getElem?_append_left (by rw [peR_len]; exact hk)]
    unfold peR
    rw [List.getElem?_map, List.getElem?_eq_getElem hk]
    simp
theorem pt_bel {w w' : World} {p : Option Addr} {B : List Nat} (h : PtAt w p B) (hb : Below w.heap.size w w') : PtAt w' p B := fun k hk => by
  obtain ⟨g, hg, hc⟩ := h k hk
  exact ⟨g, hg, (hb.cell (p := ⟨g, k, none⟩) (lt_cellC hc)).trans hc⟩
theorem below_grownC {w w' : World} (h : w.grownBy w' none) : Below w.heap.size w w' := ⟨h.os, h.tape, h.output, h.size, fun k hk => h.block k hk (by simp)⟩
set_option maxRecDepth 100000 in
set_option maxHeartbeats 4000000 in
/-- (*cache.Cache).proofsOf -/
theorem proofsOf_any (h : Cac w L M P base most came S Q) (apex : ByteArray) (now : Int) (ha : apex.size ≤ maxLen) (hfa : (foldB apex).size ≤ maxLen) (h1 : ∀ e ∈ S, e.key.1 = 3 → e.recs.length = 1) :
    Calls Tryz.prog 58 #[.pointer (some ⟨L, 0, none⟩), .string apex, .int .i64 now] w fun r w' => (∃ pl cl, r = .returned (.slice pl (pfL (foldB apex) now S).length cl) ∧ w'.ownsRow w.heap.size 36 5 (.slice pl (pfL (foldB apex) now S).length cl) (pfL (foldB apex) now S).length (rce5 (pfL (foldB apex) now S))) ∧ Below w.heap.size w w' := by
  have HFo := hide' (fun V => fold_any apex V ha)
  unfold pfL
  obtain ⟨fa, hfa2⟩ : ∃ fa, foldB apex = fa := ⟨_, rfl⟩
  rw [hfa2] at hfa HFo ⊢
  clear hfa2
  obtain ⟨pr, cr, hsl, hpt⟩ := h.points fa
  obtain ⟨B, hB⟩ : ∃ B, prK fa S = B := ⟨_, rfl⟩
  have HB1 : Hid (∀ e ∈ B, e.recs.length = 1) := fun e he => by
    rw [← hB] at he
    obtain ⟨h2, h3, -⟩ := mem_prK.1 he
    exact h1 e h2 h3
  have HBe : Hid (∀ e ∈ B, Eat w base e) := fun e he => by
    rw [← hB] at he
    exact h.en e (mem_prK.1 he).1
  have hBl : B.length ≤ 100000 := by rw [← hB]; exact Nat.le_trans prK_sub.length_le h.len
  rw [hB] at hsl hpt ⊢
  obtain ⟨N, hN⟩ : ∃ N, B.length = N := ⟨_, rfl⟩
  rw [hN] at hsl hBl
  have HN := hide' hN
  have HPt := hide' hpt
  have HF2 : Hid (∀ V : World, w.grownBy V none → V.cell? ⟨L, 3, none⟩ = some (.map (some P)) ∧ (Instr.lookup 48 (.map (some P)) (.string fa) false).run Tryz.prog V = .ok (.slice pr N cr) V) := fun V hg =>
    ⟨(h.idle hg).bx.cell rfl, hsl ▸ (h.idle hg).pm.look hfa⟩
  clear h h1 hB hsl hpt hN ha hfa
  go_enter Tryz.func58, Tryz.ntmps58
  go_wp2_with fail
  refine wp_region_held_drew (S := fun V => w.grownBy V none) (by kernel_rfl) ?_ (fun hHeld => ?_)
  · exact ⟨rfl, rfl, rfl, Nat.le_refl _, fun _ _ _ => rfl⟩
  refine takeD 0 (some 10) (.pointer (some ⟨L, 0, none⟩)) rfl rfl (by kernel_rfl) (by kernel_rfl) (by kernel_rfl) (fun _ _ _ h => h) (Or.inl ⟨by rfl, ?_⟩) (by assumption) ?_
  · intro w hSw; (try dsimp only at hSw); obtain ⟨c3, hl⟩ := HF2.out w hSw; go_simp <;> (intros; omega)
  simp only [Act.put, List.setIfInBounds_toArray, List.set_cons_zero, List.set_cons_succ]
  refine takeD 1 (some 11) (.pointer (some ⟨L, 0, none⟩)) rfl rfl (by kernel_rfl) (by kernel_rfl) (by kernel_rfl) (fun _ _ _ h => h) (Or.inl ⟨by rfl, ?_⟩) (by assumption) ?_
  · intro w hSw; (try dsimp only at hSw); obtain ⟨c3, hl⟩ := HF2.out w hSw; go_simp <;> (intros; omega)
  simp only [Act.put, List.setIfInBounds_toArray, List.set_cons_zero, List.set_cons_succ]
  refine takeD 2 (some 12) (.pointer (some ⟨L, 3, none⟩)) rfl rfl (by kernel_rfl) (by kernel_rfl) (by kernel_rfl) (fun _ _ _ h => h) (Or.inl ⟨by rfl, ?_⟩) (by assumption) ?_
  · intro w hSw; (try dsimp only at hSw); obtain ⟨c3, hl⟩ := HF2.out w hSw; go_simp <;> (intros; omega)
  simp only [Act.put, List.setIfInBounds_toArray, List.set_cons_zero, List.set_cons_succ]
  refine takeD 3 (some 13) (.map (some P)) rfl rfl (by kernel_rfl) (by kernel_rfl) (by kernel_rfl) (fun _ _ _ h => h) (Or.inl ⟨by rfl, ?_⟩) (by assumption) ?_
  · intro w hSw; (try dsimp only at hSw); obtain ⟨c3, hl⟩ := HF2.out w hSw; go_simp <;> (intros; omega)
  simp only [Act.put, List.setIfInBounds_toArray, List.set_cons_zero, List.set_cons_succ]
  refine takeD 4 (some 14) (.string apex) rfl rfl (by kernel_rfl) (by kernel_rfl) (by kernel_rfl) (fun _ _ _ h => h) (Or.inl ⟨by rfl, ?_⟩) (by assumption) ?_
  · intro w hSw; (try dsimp only at hSw); obtain ⟨c3, hl⟩ := HF2.out w hSw; go_simp <;> (intros; omega)
  simp only [Act.put, List.setIfInBounds_toArray, List.set_cons_zero, List.set_cons_succ]
  refine takeD 8 (some 18) (.int .i64 0) rfl rfl (by kernel_rfl) (by kernel_rfl) (by kernel_rfl) (fun _ _ _ h => h) (Or.inl ⟨by rfl, ?_⟩) (by assumption) ?_
  · intro w hSw; (try dsimp only at hSw); obtain ⟨c3, hl⟩ := HF2.out w hSw; go_simp <;> (intros; omega)
  simp only [Act.put, List.setIfInBounds_toArray, List.set_cons_zero, List.set_cons_succ]
  refine wpAnyH_ready (rs := [5]) (by kernel_rfl) (by simp) ?_
  refine AllReadyH.cons rfl (fun K hK => ?_) AllReadyH.nil
  go_simp
  go_at_call 39; refine (HFo.out _).mono ?_; rintro e1 w1 ⟨rfl, hB1⟩; have HG1 : Hid (w.grownBy w1 none) := (grown_trans hHeld (grown_below hB1 none)); have HBl1 : Hid (Below w.heap.size w w1) := below_grownC HG1.out; clear hB1
  go_wp2_with fail
  refine hK.out _ _ (HG1.out) (fun hHeld => ?_)
  clear hK K
  try simp only [Act.put, List.setIfInBounds_toArray, List.set_cons_zero, List.set_cons_succ]
  refine takeD 6 (some 16) (.slice pr N cr) rfl rfl (by kernel_rfl) (by kernel_rfl) (by kernel_rfl) (fun _ _ _ h => h) (Or.inl ⟨by rfl, ?_⟩) (by assumption) ?_
  · intro w hSw; (try dsimp only at hSw); obtain ⟨c3, hl⟩ := HF2.out w hSw; go_simp <;> (intros; omega)
  simp only [Act.put, List.setIfInBounds_toArray, List.set_cons_zero, List.set_cons_succ]
  refine takeD 7 (some 17) (.int .i64 (N : Int)) rfl rfl (by kernel_rfl) (by kernel_rfl) (by kernel_rfl) (fun _ _ _ h => h) (Or.inl ⟨by rfl, ?_⟩) (by assumption) ?_
  · intro w hSw; (try dsimp only at hSw); obtain ⟨c3, hl⟩ := HF2.out w hSw; go_simp <;> (intros; omega)
  simp only [Act.put, List.setIfInBounds_toArray, List.set_cons_zero, List.set_cons_succ]
  refine wpAnyH_done (by kernel_rfl) ?_ _
  clear hHeld
  go_wp2_with fail
  go_loopw [7, 18] (fun lv iv wr => ∃ (k n : Nat) (pl : Option Addr) (cl : Nat), lv = .slice pl n cl ∧ iv = .int .i64 (k : Int) ∧ k ≤ N ∧ n ≤ 100000 ∧ Hid (n = (recsA now (B.take k)).length) ∧ Hid (wr.ownsRow w.heap.size 36 5 (.slice pl n cl) n (rce5 (recsA now (B.take k)))) ∧ Hid (Below w.heap.size w wr)) (fun _ iv _ => N - (intOf iv).toNat)
  case atStart => exact ⟨0, 0, none, 0, rfl, rfl, Nat.zero_le _, by omega, rfl, World.ownsRow_nil _ _ _ _, HBl1.out⟩
  case round =>
    obtain ⟨k, n, pl, cl, rfl, rfl, hk, hn, HLn, HO, HB⟩ := hrel
    by_cases hlt : k < N
    · have hkB : k < B.length := by rw [HN.out]; exact hlt
      obtain ⟨g, rfl, hc⟩ := pt_bel HPt.out HB.out k (by rw [List.length_map]; exact hkB)
      obtain ⟨e, he⟩ : ∃ e, B[k] = e := ⟨_, rfl⟩
      have hem : e ∈ B := he ▸ List.getElem_mem hkB
      rw [List.getElem_map, he] at hc
      have HTk : Hid (B.take (k + 1) = B.take k ++ [e]) := by unfold Hid; rw [List.take_succ_eq_append_getElem hkB, he]
      have hEe := HBe.out e hem
      have hR1 := HB1.out e hem
      have hbx := hEe.1.below HB.out hEe.1.lt
      have HIA := hide' (isAlive_some now wr e hbx)
      have e8 : wr.cell? ⟨e.blk, 8, none⟩ = some (.slice e.p e.recs.length e.c) := hbx.cell rfl
      have HRe : Hid (RsAt wr e.p e.recs) := rs_bel hEe.2.1.1 HB.out
      have HPc := hide' hEe.2.2.2.2.2
      have HR1 := hide' hR1
      clear he hem hEe hbx hR1 hkB
      obtain ⟨key, fin, came', age, rank, R, pR, cR, E⟩ := e
      simp only at *
      unfold peV at *
      by_cases hf : fin > now
      · rw [decide_eq_true hf] at HIA
        have HS : Hid (recsA now (B.take (k + 1)) = recsA now (B.take k) ++ R) := by unfold Hid; rw [HTk.out]; exact recsA_yes hf
        have HLs : Hid (n + R.length = (recsA now (B.take (k + 1))).length) := by unfold Hid; rw [HS.out, List.length_append, ← HLn.out]
        have hn1 : n + 1 ≤ 100000 := by
          have h1 := HLs.out
          have h2 := recsA_len (now := now) (B := B.take (k + 1)) (fun e he => HB1.out e (List.mem_of_mem_take he))
          rw [List.length_take] at h2
          have h3 := HR1.out
          omega
        clear hf
        go_wp2_with (first
          | (go_at_call 19; refine HIA.out.mono ?_; rintro r2 w2 ⟨rfl, hw2⟩; have hw2' := hw2.symm; subst hw2')
          | (at_builtin; refine wpList_append_recsM rfl _ _ rfl w.heap.size _ n (rce5 (recsA now (B.take k))) rfl HO.out pR R cR rfl HRe.out HPc.out (by rw [HR1.out]; omega) HB.out.size ?_; intro v9 w9 ho9 hg9; rw [HR1.out] at ho9; obtain ⟨p9, c9, hv9, -⟩ := own_shape ho9; subst hv9; have HO9 := hide' ho9; have HB9 : Hid (Below w.heap.size w w9) := HB.out.grown hg9 HB.out.size (fun q e => ownBlock_le HO.out e); clear ho9 hg9))
        go_roundw
        case rel => exact ⟨k + 1, n + 1, p9, c9, rfl, by go_num, hlt, hn1, (by have h := HLs.out; rw [HR1.out] at h; exact h), (by rw [HS.out, rce5_app]; exact HO9.out), HB9.out⟩
        case measure => simp [intOf]; omega
      · rw [decide_eq_false hf] at HIA
        have HS : Hid (recsA now (B.take (k + 1)) = recsA now (B.take k)) := by unfold Hid; rw [HTk.out]; exact recsA_no hf
        clear hf
        go_wp2_with (go_at_call 19; refine HIA.out.mono ?_; rintro r2 w2 ⟨rfl, hw2⟩; have hw2' := hw2.symm; subst hw2')
        go_roundw
        case rel => exact ⟨k + 1, n, pl, cl, rfl, by go_num, hlt, hn, (by unfold Hid; rw [HS.out]; exact HLn.out), (by unfold Hid; rw [HS.out]; exact HO.out), HB.out⟩
        case measure => simp [intOf]; omega
    · obtain rfl : k = N := by omega
      have HBk : Hid (B.take k = B) := List.take_of_length_le (by rw [HN.out]; exact Nat.le_refl _)
      rw [HBk.out] at HLn HO
      go_wp2_with fail
      go_ret
      rw [← HLn.out]
      exact ⟨⟨pl, cl, rfl, HO.out⟩, HB.out⟩
end
end Go.Proofs.YtgekfhghambacaaGreat

/-
  Chapter 12: (*cache.Cache).proved. (The verifier's own text.)
-/
namespace Go.Proofs.YtgekfhghambacaaGreat
set_option linter.unusedVariables false
set_option linter.unusedSimpArgs false
open Go.RowKit Go.Shelf Go.Maps Go.Proofs.YtgekfhghambacaaGreat.Nm
attribute [local go_sem] Oper.semAt_some

theorem rs_ownC {w : World} {base : Nat} {p : Option Addr} {n c : Nat} {L : List Rn} (h : w.ownsRow base 36 5 (.slice p n c) n (rce5 L)) : RsAt w p L := by
  have hn : L.length = n := by
    have := h.1
    rw [rce5_len] at this
    omega
  have h' := h
  obtain ⟨_, (⟨h1, h2⟩ | ⟨g, cap, cur, h1, _⟩)⟩ := h
  · subst h2
    intro k hk
    exact absurd hk (by omega)
  · skip
    injection h1 with h1 h2 h3
    subst h1
    obtain ⟨rest, hr, _⟩ := rb_ownM h'
    exact rb_rs hr
theorem KeepsOthers.of_below {W W' : World} (h : Below W.heap.size W W') : KeepsOthers W W' :=
  ⟨h.size, fun k o hk _ => (h.block k (Array.getElem?_eq_some_iff.1 hk).1).trans hk⟩
theorem kpN_t {A B C : World} (h : KpN A B) (k : KpN B C) : KpN A C := trivial
theorem kpN_b (W : World) (l : Nat) (o o' : Obj) {w : World} (_ : w.heap.size ≤ l) (_ : W.heap[l]? = some o) (_ : o.isCells = false) (_ : o.isWalk = false) : KpN W (W.putObj l o') := trivial
/-- what is known by the proofs of the zone that is furthest down -/
def provedB (S : List Ce) (now : Int) (n : ByteArray) (t : Int) : Int := match (upL n).find? (fun x => !(pfL (foldB x) now S).isEmpty) with
  | some x => kindP (pjB x (pfL (foldB x) now S) n t)
  | none => 0
theorem proved_none {S : List Ce} {now : Int} {n : ByteArray} {t : Int} {ys : List UN} (hy : ys.map UN.v = upL n) (h : ∀ x ∈ ys, pfL (foldB x.v) now S = []) : provedB S now n t = 0 := by
  have h : ∀ x ∈ upL n, pfL (foldB x) now S = [] := fun x hx => by
    rw [← hy] at hx
    obtain ⟨u, hu, rfl⟩ := List.mem_map.1 hx
    exact h u hu
  unfold provedB
  rw [List.find?_eq_none.2 (fun x hx => by rw [h x hx]; simp)]
theorem proved_some {S : List Ce} {now : Int} {n : ByteArray} {t : Int} {us : List UN} {u : UN} (hp : (us ++ [u]).map UN.v <+: upL n) (h : ∀ x ∈ us, pfL (foldB x.v) now S = []) (hx : pfL (foldB u.v) now S ≠ []) : provedB S now n t = kindP (pjB u.v (pfL (foldB u.v) now S) n t) := by
  obtain ⟨x, hxv⟩ : ∃ x, u.v = x := ⟨_, rfl⟩
  obtain ⟨pre, hpre⟩ : ∃ pre, us.map UN.v = pre := ⟨_, rfl⟩
  have h : ∀ y ∈ pre, pfL (foldB y) now S = [] := fun y hy => by
    rw [← hpre] at hy
    obtain ⟨u', hu, rfl⟩ := List.mem_map.1 hy
    exact h u' hu
  rw [List.map_append, List.map_singleton, hxv, hpre] at hp
  rw [hxv] at hx ⊢
  unfold provedB
  obtain ⟨r, hr⟩ := hp
  have : (upL n).find? (fun x => !(pfL (foldB x) now S).isEmpty) = some x := by
    rw [← hr, List.append_assoc, List.find?_append, List.find?_eq_none.2 (fun y hy => by rw [h y hy]; simp)]
    have he : (!(pfL (foldB x) now S).isEmpty) = true := by
      cases hc : pfL (foldB x) now S with
      | nil => exact absurd hc hx
      | cons a l => rfl
    simp [he]
  rw [this]
theorem pfL_ok {S : List Ce} {a : ByteArray} {now : Int} (h : ∀ e ∈ S, e.key.1 = 3 → e.recs.length = 1 ∧ ∀ r ∈ e.recs, r.o.size ≤ 1048576 ∧ r.d.size ≤ 9223372036854775807) : ∀ r ∈ pfL a now S, r.o.size ≤ 1048576 ∧ r.d.size ≤ 9223372036854775807 := by
  intro r hr
  unfold pfL recsA at hr
  obtain ⟨e, he, hre⟩ := List.mem_flatMap.1 hr
  obtain ⟨h1, h2, -⟩ := mem_prK.1 (List.mem_filter.1 he).1
  exact (h e h1 h2).2 r hre
theorem pfL_len {S : List Ce} {a : ByteArray} {now : Int} (h : ∀ e ∈ S, e.key.1 = 3 → e.recs.length = 1 ∧ ∀ r ∈ e.recs, r.o.size ≤ 1048576 ∧ r.d.size ≤ 9223372036854775807) : (pfL a now S).length ≤ S.length := by
  unfold pfL
  refine Nat.le_trans (recsA_len (fun e he => ?_)) prK_sub.length_le
  obtain ⟨h1, h2, -⟩ := mem_prK.1 he
  exact (h e h1 h2).1
/-- the boxes of proved -/
structure PvB (w0 w1 w2 w3 w4 L : Nat) (n : ByteArray) (t now : Int) (W : World) : Prop where
  c : W.cell? ⟨w0, 0, none⟩ = some (.pointer (some ⟨L, 0, none⟩))
  n : W.cell? ⟨w1, 0, none⟩ = some (.string n)
  t : W.cell? ⟨w2, 0, none⟩ = some (.int .i64 t)
  now : W.cell? ⟨w3, 0, none⟩ = some (.int .i64 now)
  res : ∃ z : Int, W.cell? ⟨w4, 0, none⟩ = some (.int .i64 z)
  free : W.frozen? ⟨w4, 0, none⟩ = false
theorem PvB.own {w0 w1 w2 w3 w4 L : Nat} {n : ByteArray} {t now : Int} {A B : World} {row : Option Nat} (h : PvB w0 w1 w2 w3 w4 L n t now A) (hg : A.grownBy B row) (hr : ∀ r, row = some r → ∃ o : Obj, A.heap[r]? = some o ∧ o.isCells = false) : PvB w0 w1 w2 w3 w4 L n t now B := by
  obtain ⟨h1, h2, h3, h4, ⟨z, h5⟩, h6⟩ := h
  exact ⟨cell_kept h1 hg hr, cell_kept h2 hg hr, cell_kept h3 hg hr, cell_kept h4 hg hr, ⟨z, cell_kept h5 hg hr⟩, (frozen_kept h5 hg hr).trans h6⟩
theorem PvB.bel {w0 w1 w2 w3 w4 L : Nat} {n : ByteArray} {t now : Int} {A B : World} (h : PvB w0 w1 w2 w3 w4 L n t now A) (hb : Below A.heap.size A B) : PvB w0 w1 w2 w3 w4 L n t now B := h.own (grown_below hb none) (fun r e => by cases e)
set_option maxRecDepth 100000 in
set_option maxHeartbeats 4000000 in
/-- (*cache.Cache).proved -/
theorem proved_in {w : World} {L M P base : Nat} {most came : Int} {S : List Ce} {Q : List Qe} (h : Cac w L M P base most came S Q) (n : ByteArray) (t now : Int) (hn : isN n = true) (hz : ∀ e ∈ S, e.key.1 = 3 → e.recs.length = 1 ∧ ∀ r ∈ e.recs, r.o.size ≤ 1048576 ∧ r.d.size ≤ 9223372036854775807) :
    CallsIn Fence.wide 3 Tryz.prog 40 #[.pointer (some ⟨L, 0, none⟩), .string n, .int .i64 t, .int .i64 now] w fun r w' => r = .returned (.int .i64 (provedB S now n t)) ∧ Below w.heap.size w w' := by
  have hro : Fence.wide.round = none := rfl
  have hns : n.size ≤ 255 := ((isN_iff n).1 hn).1
  obtain ⟨a1, h1⟩ : ∃ a, w.alloc (.cells #[.pointer (some ⟨L, 0, none⟩)] 23) = a := ⟨_, rfl⟩
  obtain ⟨a2, h2⟩ : ∃ a, a1.alloc (.cells #[.string n] 9) = a := ⟨_, rfl⟩
  obtain ⟨a3, h3⟩ : ∃ a, a2.alloc (.cells #[.int .i64 t] 3) = a := ⟨_, rfl⟩
  obtain ⟨a4, h4⟩ : ∃ a, a3.alloc (.cells #[.int .i64 now] 3) = a := ⟨_, rfl⟩
  obtain ⟨a5, h5⟩ : ∃ a, a4.alloc (.cells #[.int .i64 0] 3) = a := ⟨_, rfl⟩
  obtain ⟨a6, h6⟩ : ∃ a, a5.alloc (.cells #[.string n] 9) = a := ⟨_, rfl⟩
  have HG1 : Hid (w.grownBy a1 none) := h1 ▸ World.grownBy_alloc w _ none
  have HG2 : Hid (a1.grownBy a2 none) := h2 ▸ World.grownBy_alloc a1 _ none
  have HG3 : Hid (a2.grownBy a3 none) := h3 ▸ World.grownBy_alloc a2 _ none
  have HG4 : Hid (a3.grownBy a4 none) := h4 ▸ World.grownBy_alloc a3 _ none
  have HG5 : Hid (a4.grownBy a5 none) := h5 ▸ World.grownBy_alloc a4 _ none
  have HG6 : Hid (a5.grownBy a6 none) := h6 ▸ World.grownBy_alloc a5 _ none
  have b1 : Bx a1 w.heap.size #[.pointer (some ⟨L, 0, none⟩)] 23 := h1 ▸ World.alloc_heap_new w _
  have b2 : Bx a2 a1.heap.size #[.string n] 9 := h2 ▸ World.alloc_heap_new a1 _
  have b3 : Bx a3 a2.heap.size #[.int .i64 t] 3 := h3 ▸ World.alloc_heap_new a2 _
  have b4 : Bx a4 a3.heap.size #[.int .i64 now] 3 := h4 ▸ World.alloc_heap_new a3 _
  have b5 : Bx a5 a4.heap.size #[.int .i64 0] 3 := h5 ▸ World.alloc_heap_new a4 _
  have b6 : Bx a6 a5.heap.size #[.string n] 9 := h6 ▸ World.alloc_heap_new a5 _
  have HPv : Hid (PvB w.heap.size a1.heap.size a2.heap.size a3.heap.size a4.heap.size L n t now a6) := by
    have g1 := ((((b1.grown HG2.out (by simp)).grown HG3.out (by simp)).grown HG4.out (by simp)).grown HG5.out (by simp)).grown HG6.out (by simp)
    have g2 := (((b2.grown HG3.out (by simp)).grown HG4.out (by simp)).grown HG5.out (by simp)).grown HG6.out (by simp)
    have g3 := ((b3.grown HG4.out (by simp)).grown HG5.out (by simp)).grown HG6.out (by simp)
    have g4 := (b4.grown HG5.out (by simp)).grown HG6.out (by simp)
    have g5 := b5.grown HG6.out (by simp)
    exact ⟨g1.cell rfl, g2.cell rfl, g3.cell rfl, g4.cell rfl, ⟨0, g5.cell rfl⟩, g5.free 0⟩
  have hsz : w.heap.size ≤ a4.heap.size := Nat.le_trans HG1.out.size (Nat.le_trans HG2.out.size (Nat.le_trans HG3.out.size HG4.out.size))
  have hsz5 : w.heap.size ≤ a5.heap.size := Nat.le_trans hsz HG5.out.size
  have hsz6 : a5.heap.size < a6.heap.size := b6.lt
  have hszw : w.heap.size ≤ a6.heap.size := by omega
  have HB6 : Hid (Below w.heap.size w a6) := (below_grownC (grown_trans HG1.out (grown_trans HG2.out (grown_trans HG3.out (grown_trans HG4.out (grown_trans HG5.out HG6.out))))))
  have x5 : a5.cell? ⟨a1.heap.size, 0, none⟩ = some (.string n) := (((b2.grown HG3.out (by simp)).grown HG4.out (by simp)).grown HG5.out (by simp)).cell rfl
  have HB6c : Hid (a6.cell? ⟨a5.heap.size, 0, none⟩ = some (.string n)) := b6.cell rfl
  have HZ := hide' hz
  have HC := hide' h
  have HNn := hide' hn
  have HNs := hide' hns
  have HSl : Hid (S.length ≤ 100000) := h.len
  clear b1 b2 b3 b4 b5 b6 hz h hn hns
  refine callsIn_of_wp_marks Tryz.func40 rfl trivial ?_ hro
  simp only [Tryz.ntmps40, List.size_toArray, List.length_cons, List.length_nil, Nat.reduceAdd, Nat.reduceSub, Array.replicate_succ, Array.replicate_zero, List.push_toArray, List.append_toArray, List.nil_append, List.cons_append]
  gi_wp2_with (refine ⟨trivial, ?_⟩; gi_at_call 28; refine (upward_in Fence.wide _ trivial rfl _ _).mono ?_; rintro e w6 ⟨rfl, hw6⟩; rw [h6] at hw6; have hw6' := hw6.symm; subst hw6')
  refine wpIn_rangeFunc_ownF hro (by omega) (gf := 45) (lb := #[.pointer (some ⟨a5.heap.size, 0, none⟩)]) rfl trivial (enters_of Tryz.func45 (by kernel_rfl) rfl)
    (upward_stops _ (by omega) a5.heap.size n HNn.out a6 hsz6 HB6c.out) kpN_t (fun W l o o' a b c d => kpN_b W l o o' a b c d) (Below.refl _ _) (fun _ => rfl)
    (fun pre W => (PvB w.heap.size a1.heap.size a2.heap.size a3.heap.size a4.heap.size L n t now W ∧ (∀ x ∈ pre, pfL (foldB x.v) now S = [])) ∧ Below w.heap.size w W)
    (fun c pre W => (c = .ret ∧ (∃ pre' x, pre = pre' ++ [x] ∧ (∀ y ∈ pre', pfL (foldB y.v) now S = []) ∧ pfL (foldB x.v) now S ≠ [] ∧ W.cell? ⟨a4.heap.size, 0, none⟩ = some (.int .i64 (kindP (pjB x.v (pfL (foldB x.v) now S) n t))))) ∧ Below w.heap.size w W)
    (OwnFrom.and (Own.from (fun s A B row hs hg hr => ⟨hs.1.own hg hr, hs.2⟩) _) (ownFrom_below (Nat.le_refl _) hszw))
    (fun c => OwnFrom.and (Own.from (fun s A B row hs hg hr => ⟨hs.1, by obtain ⟨p', x, g1, g2, g3, g4⟩ := hs.2; exact ⟨p', x, g1, g2, g3, cell_kept g4 hg hr⟩⟩) _) (ownFrom_below (Nat.le_refl _) hszw))
    ⟨⟨HPv.out, fun x hx => by cases hx⟩, HB6.out⟩
    (fun x => { tmps := #[.pointer (some ⟨L, 0, none⟩), .string n, .int .i64 t, .int .i64 now, .pointer (some ⟨w.heap.size, 0, none⟩), .pointer (some ⟨a1.heap.size, 0, none⟩), .pointer (some ⟨a2.heap.size, 0, none⟩), .pointer (some ⟨a3.heap.size, 0, none⟩), .pointer (some ⟨a4.heap.size, 0, none⟩), .string x.v, undef, .string n,
          .func (.func 45) #[] #[.pointer (some ⟨a5.heap.size, 0, none⟩)], .string x.v, undef, undef, undef, undef, undef, undef, undef, undef, undef, undef, undef, undef, undef], defers := [] }) ?assign ?body ?done ?stop
  case assign =>
    intro l x W K hK
    dsimp only [encU]
    gi_wp2
    exact hK
  case body =>
    rintro l pre ⟨x, hx⟩ W ⟨⟨hpv, hpre⟩, hB⟩ hlen
    have HPr := hide' hpre
    have HBW := hide' hB
    have HPV := hide' hpv
    have hxs : x.size ≤ 255 := ((isN_iff x).1 hx).1
    have HPO := hide' (proofsOf_any (HC.out.below hB) x now (by unfold maxLen; omega) (by unfold maxLen; have := foldB_size hx; omega) (fun e he h3 => (HZ.out e he h3).1))
    have HPk := hide' (pfL_ok (a := foldB x) (now := now) HZ.out)
    have HPl : Hid ((pfL (foldB x) now S).length ≤ 100000) := Nat.le_trans (pfL_len HZ.out) HSl.out
    obtain ⟨y4, y5, y6, y7, ⟨z, y8⟩, y8f⟩ := hpv
    have HXs := hide' hxs
    have HXi := hide' hx
    dsimp only
    clear hpre hB hlen hxs
    by_cases hp : pfL (foldB x) now S = []
    · have HP := hide' hp
      rw [hp] at HPO
      clear hp
      gi_wp2_with (refine ⟨trivial, ?_⟩; gi_at_call 58; refine (CallsIn.inRound l (callsIn_wide.2 HPO.out)).mono ?_; rintro e1 W1 ⟨hv1, hB1⟩; obtain ⟨pl, cl, rfl, ho⟩ := hv1; have HB1 := hide' hB1; clear hB1 ho)
      refine ⟨KeepsOthers.of_below HB1.out, trivial, ⟨HPV.out.bel HB1.out, fun y hy => ?_⟩, bstep HBW.out HB1.out HBW.out.size⟩
      rcases List.mem_append.1 hy with hy | hy
      · exact HPr.out y hy
      · obtain rfl := List.mem_singleton.1 hy; exact HP.out
    · have HP := hide' hp
      obtain ⟨PL, hPL⟩ : ∃ PL, pfL (foldB x) now S = PL := ⟨_, rfl⟩
      rw [hPL] at HPO HPk HPl HP
      have hpos : 0 < PL.length := List.length_pos_iff.2 HP.out
      obtain ⟨N, hN⟩ : ∃ N, PL.length = N := ⟨_, rfl⟩
      rw [hN] at HPO hpos
      have HN := hide' hN
      have HPL := hide' hPL
      clear hp hN hPL
      have HJ : Hid (∀ (V : World) pl cl, RsAt V pl PL → Calls Tryz.prog 60 #[.string x, .slice pl N cl, .string n, .int .i64 t] V fun r w' => r = .returned (.int .i64 (pjB x PL n t)) ∧ Below V.heap.size V w') := fun V pl cl hr => HN.out ▸ pJudge_any x PL pl cl n t V (by have := HPl.out; omega) (by have := HXs.out; omega) (by have := HNs.out; omega) hr HPk.out
      gi_wp2_with (first
        | (refine ⟨trivial, ?_⟩; gi_at_call 58; refine (CallsIn.inRound l (callsIn_wide.2 HPO.out)).mono ?_; rintro e1 W1 ⟨hv1, hB1⟩; obtain ⟨pl, cl, rfl, ho⟩ := hv1; have HB1 := hide' hB1; have HR1 := hide' (rs_ownC ho); obtain ⟨z4, z5, z6, z7, ⟨zz, z8⟩, z8f⟩ := HPV.out.bel HB1.out; have HPV1 := hide' (HPV.out.bel HB1.out); clear hB1 ho)
        | (refine ⟨trivial, ?_⟩; gi_at_call 60; refine (CallsIn.inRound l (callsIn_wide.2 (HJ.out _ _ _ HR1.out))).mono ?_; rintro e2 W2 ⟨rfl, hB2⟩; have HB2 := hide' hB2; have HPV2 := hide' (HPV1.out.bel HB2.out); obtain ⟨v4, v5, v6, v7, ⟨vz, v8⟩, v8f⟩ := HPV2.out; clear hB2)
        | (refine ⟨trivial, ?_⟩; gi_at_call 59; refine (CallsIn.inRound l (callsIn_wide.2 (kindOf_any _ _))).mono ?_; rintro e3 W3 ⟨rfl, hw3⟩; have hw3' := hw3.symm; subst hw3'))
      refine ⟨(KeepsOthers.of_below HB1.out).trans ((KeepsOthers.of_below HB2.out).trans (KeepsOthers.setCell _ _ _)), ⟨rfl, pre, ⟨x, _⟩, rfl, HPr.out, ?_, ?_⟩, ?_⟩
      · show pfL (foldB x) now S ≠ []
        rw [HPL.out]; exact HP.out
      · show _ = some (Value.int .i64 (kindP (pjB x (pfL (foldB x) now S) n t)))
        rw [HPL.out]
        exact World.cell?_setCell_same' _ _ _ (by rw [v8]; rfl)
      · exact (bstep (bstep HBW.out HB1.out HBW.out.size) HB2.out (Nat.le_trans HBW.out.size HB1.out.size)).setCell (p := ⟨a4.heap.size, 0, none⟩) hsz _
  case done =>
    rintro D ys W hD hys ⟨⟨hpv, hpre⟩, hB⟩ hK
    obtain ⟨y4, y5, y6, y7, ⟨z, y8⟩, y8f⟩ := hpv
    have HQ : Hid (provedB S now n t = 0) := proved_none hys hpre
    clear hpre hys
    gi_wp2
    have hK' := (KeepsOthers.setCell W ⟨a4.heap.size, 0, none⟩ (.int .i64 0)).same D _ hK rfl
    refine ⟨by simp, .inl ⟨_, _, rfl, run_takeDeferred hK', ?_⟩⟩
    have hc5 := cell_kept (World.cell?_setCell_same' W ⟨a4.heap.size, 0, none⟩ (.int .i64 0) (by rw [y8]; rfl)) (grownBy_putObj' _ D (.deferred none)) (fun r e => by cases e; exact ⟨_, hK', rfl⟩)
    refine ⟨.int .i64 0, ?_, by rw [HQ.out], (hB.setCell (p := ⟨a4.heap.size, 0, none⟩) hsz _).trans (belowK_b (w := w) (Nat.le_refl _) _ D _ _ (by omega) hK' rfl rfl)⟩
    simp [results, Tryz.f40, go_sem, hc5]
  case stop =>
    rintro D c pre W hD hpre ⟨⟨rfl, pre', x, rfl, hp1, hp2, hcr⟩, hB⟩ hK
    have HQ : Hid (provedB S now n t = kindP (pjB x.v (pfL (foldB x.v) now S) n t)) := proved_some hpre hp1 hp2
    clear hp1 hp2
    gi_wp2
    refine ⟨by simp, .inl ⟨_, _, rfl, run_takeDeferred hK, ?_⟩⟩
    have hc5 := cell_kept hcr (grownBy_putObj' _ D (.deferred none)) (fun r e => by cases e; exact ⟨_, hK, rfl⟩)
    refine ⟨.int .i64 (kindP (pjB x.v (pfL (foldB x.v) now S) n t)), ?_, by rw [HQ.out], hB.trans (belowK_b (w := w) (Nat.le_refl _) W D _ _ (by omega) hK rfl rfl)⟩
    simp [results, Tryz.f40, go_sem, hc5]
end Go.Proofs.YtgekfhghambacaaGreat
