import Derived.Test.YtjnhkiibnmbmfaaSy5
/-
  Chapter 7: the reference's Roll, at right ages. (The verifier's own text.)
-/
namespace Go.Proofs.Ytjnhkiibnmbmfaa
set_option linter.unusedVariables false
set_option linter.unusedSimpArgs false
open Go.RowKit Go.Shelf Go.Sort Go.Proofs.Ytjnhkiibnmbmfaa.Nm

theorem TsAt.cellsAt {w : World} {g off : Nat} {L : List Tk} (h : TsAt w (some ⟨g, off, none⟩) L) (k : Nat) (hk : k < L.length) : g < w.heap.size ∧ w.cell? ⟨g, off + k * 8, none⟩ = some (.int .i64 L[k].f) ∧ w.cell? ⟨g, off + k * 8 + 1, none⟩ = some (.int .i64 L[k].m) ∧ w.cell? ⟨g, off + k * 8 + 2, none⟩ = some (.int .i64 L[k].e) ∧ w.cell? ⟨g, off + k * 8 + 3, none⟩ = some (.int .i64 L[k].s) ∧ w.cell? ⟨g, off + k * 8 + 4, none⟩ = some (.int .i64 L[k].p) ∧ w.cell? ⟨g, off + k * 8 + 5, none⟩ = some (.int .i64 L[k].a) ∧ w.cell? ⟨g, off + k * 8 + 6, none⟩ = some (.int .i64 L[k].r) ∧ w.cell? ⟨g, off + k * 8 + 7, none⟩ = some (.int .i64 L[k].x) := by
  obtain ⟨g', off', hp, hg, e0, e1, e2, e3, e4, e5, e6, e7⟩ := TsAt.cells h k hk
  obtain ⟨rfl, rfl⟩ : g = g' ∧ off = off' := by simpa using hp
  exact ⟨hg, e0, e1, e2, e3, e4, e5, e6, e7⟩
set_option maxRecDepth 100000 in
set_option maxHeartbeats 4000000 in
/-- the reference's Roll, at right ages -/
theorem refRoll_ok (I : List Tk) (l : Tk) (g off cap : Nat) (f m e s now ka sa : Int) (w : World) (hat : TsAt w (some ⟨g, off, none⟩) (I ++ [l])) (hl : l.r = 4294967296) (hI : ∀ k ∈ I, k.r ≠ 4294967296) (hlb : lineB (I ++ [l]) = true) (hq0 : 0 ≤ l.a) (h : (ageB ka && ageB sa) = true) :
    Calls Try.prog 6 #[.slice (some ⟨g, off, none⟩) (I ++ [l]).length cap, .agg #[.int .i64 f, .int .i64 m, .int .i64 e, .int .i64 s], .int .i64 now, .int .i64 ka, .int .i64 sa] w fun r w' => rollEnd I l f m e s now ka sa r w' ∧ Below w.heap.size w w' := by
  have hL : (I ++ [l]).length ≤ 50 := by
    unfold lineB at hlb
    simp only [Bool.and_eq_true, decide_eq_true_eq] at hlb
    exact hlb.1
  have hb12 : ageB ka = true ∧ ageB sa = true := by simpa using h
  have ha : (0 ≤ ka ∧ ka ≤ 2147483647) ∧ (0 ≤ sa ∧ sa ≤ 2147483647) := by simpa [ageB] using hb12
  obtain ⟨⟨ha1, ha2⟩, ha3, ha4⟩ := ha
  have HZ : Hid (∀ (c : Int) (W : World), rollC I l f m e s now ka sa = c → c ≠ 0 → rollEnd I l f m e s now ka sa (rollNo c) W) := fun c W h1 h2 => rollEnd_no h1 h2 W
  have HZ0 : Hid (∀ p c W, rollC I l f m e s now ka sa = 0 → TsAt W p (rollL I l f m e s now ka sa) → rollEnd I l f m e s now ka sa (.returned (.tuple #[.slice p (I.length + 2) c, .int .i64 0])) W) := fun p c W h1 h2 => .inr ⟨h1, p, c, rfl, h2⟩
  have HC : Hid (rollC I l f m e s now ka sa = bif !rkB f m e s then 24 else bif (I ++ [l]).any (fun k => decide (pubB k.f k.m k.e k.s = pubB f m e s)) then 19 else bif decide (now < l.a) then 29 else bif decide (now > 4294967295 - ka - sa) then 25 else bif decide ((I ++ [l]).length = 50) then 20 else 0) := by
    unfold Hid rollC
    rw [h]
    rfl
  generalize rollEnd I l f m e s now ka sa = Z at *
  generalize rollC I l f m e s now ka sa = C at *
  have hB0 := (Below.refl w.heap.size w).alloc (Nat.le_refl _) (.cells #[.int .i64 f, .int .i64 m, .int .i64 e, .int .i64 s] 24)
  have HW : Hid (∀ W, Below (w.heap.size + 1) (w.alloc (.cells #[.int .i64 f, .int .i64 m, .int .i64 e, .int .i64 s] 24)) W → Below w.heap.size w W ∧ Bx W w.heap.size #[.int .i64 f, .int .i64 m, .int .i64 e, .int .i64 s] 24 ∧ TsAt W (some ⟨g, off, none⟩) (I ++ [l]) ∧ w.heap.size + 1 ≤ W.heap.size) := fun W hb => by
    have hb' : Below (w.alloc (.cells #[.int .i64 f, .int .i64 m, .int .i64 e, .int .i64 s] 24)).heap.size (w.alloc (.cells #[.int .i64 f, .int .i64 m, .int .i64 e, .int .i64 s] 24)) W := by rw [World.size_alloc]; exact hb
    have h1 := bstep hB0 hb' hB0.size
    refine ⟨h1, (bxNew w _ _).below hb' (bxNew w _ _).lt, TsAt.below hat h1, ?_⟩
    have := hb'.size
    rw [World.size_alloc] at this
    exact this
  have HE : Hid (∀ j (hj : j < (I ++ [l]).length), ((I ++ [l])[j].r = 4294967296 ↔ j = I.length)) := by
    intro j hj
    rw [List.length_append] at hj
    simp only [List.length_cons, List.length_nil] at hj
    rcases Nat.lt_or_ge j I.length with h | h
    · rw [List.getElem_append_left h]
      exact ⟨fun e => absurd e (hI _ (List.getElem_mem h)), fun e => by omega⟩
    · obtain rfl : j = I.length := by omega
      rw [List.getElem_append_right (Nat.le_refl _)]
      simp [hl]
  have HLA : Hid (∀ (hj : I.length < (I ++ [l]).length), (I ++ [l])[I.length].a = l.a) := by
    intro hj
    rw [List.getElem_append_right (Nat.le_refl _)]
    simp
  have HLINE := hide' (fun (W : World) (h : TsAt W (some ⟨g, off, none⟩) (I ++ [l])) => refLine_any (I ++ [l]) (some ⟨g, off, none⟩) cap W (by omega) h)
  rw [hlb] at HLINE
  have HKEY := hide' (refRight_any f m e s)
  have HPN := hide' (refPublic_any f m e s)
  have hlen : (I ++ [l]).length = I.length + 1 := by simp
  have HROW : Hid (∀ k (hk : k < (I ++ [l]).length), rowV tkV ((I ++ [oldT l now ka sa]).take (k + 1)) = rowV tkV ((I ++ [oldT l now ka sa]).take k) ++ rowV tkV [if k = I.length then oldT l now ka sa else (I ++ [l])[k]]) := by
    intro k hk
    rw [hlen] at hk
    have hk' : k < (I ++ [oldT l now ka sa]).length := by simp; omega
    have hx : (I ++ [oldT l now ka sa])[k] = if k = I.length then oldT l now ka sa else (I ++ [l])[k] := by
      by_cases hkn : k = I.length
      · subst hkn
        rw [if_pos rfl, List.getElem_append_right (Nat.le_refl _)]
        simp
      · rw [if_neg hkn, List.getElem_append_left (by omega), List.getElem_append_left (by omega)]
    rw [List.take_succ_eq_append_getElem hk', rowV_app, hx]
  have HOLD : Hid (∀ (hj : I.length < (I ++ [l]).length), oldT l now ka sa = oldT (I ++ [l])[I.length] now ka sa) := by
    intro hj
    rw [List.getElem_append_right (Nat.le_refl _)]
    simp
  have HTAKE : Hid ((I ++ [oldT l now ka sa]).take (I.length + 1) = I ++ [oldT l now ka sa]) := List.take_of_length_le (by simp)
  have HRL : Hid (rollL I l f m e s now ka sa = (I ++ [oldT l now ka sa]) ++ [newT f m e s now ka]) := rfl
  have HRN : Hid ((rollL I l f m e s now ka sa).length = I.length + 2) := rollL_len _ _ _ _ _ _ _ _ _
  clear hat hl hI hlb h hb12 hB0
  generalize rollL I l f m e s now ka sa = RL at *
  generalize I ++ [oldT l now ka sa] = M at *
  generalize oldT l now ka sa = old at *
  generalize I ++ [l] = L at *
  generalize hni : I.length = ni at *
  clear hni
  rw [hlen] at HLINE HC hL ⊢
  have HN := hide' hlen
  clear hlen
  go_enter Try.func6, Try.ntmps6
  go_wp2_with fail
  go_loopw [12, 35] (fun one i wr => ∃ k : Nat, i = .int .i64 (k : Int) ∧ k ≤ ni + 1 ∧ Below (w.heap.size + 1) (w.alloc (.cells #[.int .i64 f, .int .i64 m, .int .i64 e, .int .i64 s] 24)) wr ∧ ((k ≤ ni ∧ one = .int .i64 (-1)) ∨ (k = ni + 1 ∧ one = .int .i64 (ni : Int)))) (fun _ i _ => ni + 1 - (intOf i).toNat)
  case atStart => exact ⟨0, rfl, Nat.zero_le _, Below.refl _ _, .inl ⟨Nat.zero_le _, rfl⟩⟩
  case round =>
    obtain ⟨k, rfl, hk, hBr, hor⟩ := hrel
    have HBr := hide' hBr
    rcases hor with ⟨hkn, rfl⟩ | ⟨rfl, rfl⟩
    · have hkL : k < L.length := by have := HN.out; omega
      obtain ⟨hg, e0, e1, e2, e3, e4, e5, e6, e7⟩ := TsAt.cellsAt (HW.out _ hBr).2.2.1 k hkL
      have HEk := hide' (HE.out k (by have := HN.out; omega))
      generalize L[k] = x at *
      obtain ⟨xf, xm, xe, xs, xp, xa, rr, xx⟩ := x
      dsimp only at e0 e1 e2 e3 e4 e5 e6 e7
      clear hBr e0 e1 e2 e3 e4 e5 e7 hkL
      by_cases hr : rr = 4294967296
      · have hkn' : k = ni := HEk.out.1 hr
        subst hkn' hr
        go_wp2_with fail
        exact ⟨⟨k + 1, by go_num, by omega, HBr.out, .inr ⟨rfl, rfl⟩⟩, by simp [intOf]⟩
      · have hkn' : k ≠ ni := fun e => hr (HEk.out.2 e)
        go_wp2_with fail
        exact ⟨⟨k + 1, by go_num, by omega, HBr.out, .inl ⟨by omega, rfl⟩⟩, by simp [intOf]; omega⟩
    · have HA0 := hide' (HW.out _ hBr).2.2.1
      clear hBr
      cases hrk : rkB f m e s with
      | false =>
        rw [hrk] at HKEY HC
        have HZ1 : Hid (∀ W, Z (rollNo 24) W) := fun W => HZ.out 24 W HC.out (by decide)
        clear hrk
        go_wp2_with (first
          | (go_at_call 20; refine (HLINE.out _ HA0.out).mono ?_; rintro r1 w1 ⟨rfl, hB1⟩; have HB1 := hide' (bstep HBr.out hB1 (HW.out _ HBr.out).2.2.2); obtain ⟨k0, k1, k2, k3⟩ := bx4 (HW.out _ HB1.out).2.1; clear hB1)
          | (go_at_call 21; refine (HKEY.out _).mono ?_; rintro r2 w2 ⟨rfl, hB2⟩; have HB2 := hide' (bstep HB1.out hB2 (HW.out _ HB1.out).2.2.2); clear hB2))
        go_ret2
        exact ⟨HZ1.out _, (HW.out _ HB2.out).1⟩
      | true =>
        rw [hrk] at HKEY HC
        clear hrk
        go_wp2_with (first
          | (go_at_call 20; refine (HLINE.out _ HA0.out).mono ?_; rintro r1 w1 ⟨rfl, hB1⟩; have HB1 := hide' (bstep HBr.out hB1 (HW.out _ HBr.out).2.2.2); obtain ⟨k0, k1, k2, k3⟩ := bx4 (HW.out _ HB1.out).2.1; clear hB1)
          | (go_at_call 21; refine (HKEY.out _).mono ?_; rintro r2 w2 ⟨rfl, hB2⟩; have HB2 := hide' (bstep HB1.out hB2 (HW.out _ HB1.out).2.2.2); clear hB2))
        have HC19 : Hid (L.any (fun k => decide (pubB k.f k.m k.e k.s = pubB f m e s)) = true → C = 19) := fun h => by rw [HC.out, h]; rfl
        have HCN : Hid (L.any (fun k => decide (pubB k.f k.m k.e k.s = pubB f m e s)) = false → C = bif decide (now < l.a) then 29 else bif decide (now > 4294967295 - ka - sa) then 25 else bif decide (ni + 1 = 50) then 20 else 0) := fun h => by rw [HC.out, h]; rfl
        clear HC
        go_loopw [60] (fun i wr => ∃ k : Nat, i = .int .i64 (k : Int) ∧ k ≤ ni + 1 ∧ Below (w.heap.size + 1) (w.alloc (.cells #[.int .i64 f, .int .i64 m, .int .i64 e, .int .i64 s] 24)) wr ∧ Hid (∀ j (hj : j < L.length), j < k → pubB L[j].f L[j].m L[j].e L[j].s ≠ pubB f m e s)) (fun i _ => ni + 1 - (intOf i).toNat)
        case atStart => exact ⟨0, rfl, Nat.zero_le _, HB2.out, (fun j _ h => absurd h (Nat.not_lt_zero _))⟩
        case round =>
          obtain ⟨k, rfl, hk, hBr, HND⟩ := hrel
          have HBr := hide' hBr
          by_cases hlt : k < ni + 1
          · have hkL : k < L.length := by have := HN.out; omega
            obtain ⟨hg, e0, e1, e2, e3, e4, e5, e6, e7⟩ := TsAt.cellsAt (HW.out _ hBr).2.2.1 k hkL
            have HYES : Hid (pubB L[k].f L[k].m L[k].e L[k].s = pubB f m e s → C = 19) := fun h => HC19.out (List.any_eq_true.2 ⟨L[k], List.getElem_mem hkL, decide_eq_true h⟩)
            have HNO : Hid (pubB L[k].f L[k].m L[k].e L[k].s ≠ pubB f m e s → ∀ j (hj : j < L.length), j < k + 1 → pubB L[j].f L[j].m L[j].e L[j].s ≠ pubB f m e s) := by
              intro h j hj hjk
              rcases Nat.lt_or_ge j k with h' | h'
              · exact HND.out j hj h'
              · obtain rfl : j = k := by omega
                exact h
            generalize L[k] = x at *
            obtain ⟨xf, xm, xe, xs, xp, xa, xr, xx⟩ := x
            dsimp only at e0 e1 e2 e3 e4 e5 e6 e7 HYES HNO
            have HPX := hide' (refPublic_any xf xm xe xs)
            have hws := (HW.out _ hBr).2.2.2
            have HW1 : Hid (Below (w.heap.size + 1) (w.alloc (.cells #[.int .i64 f, .int .i64 m, .int .i64 e, .int .i64 s] 24)) (wr.alloc (.cells #[.int .i64 xf, .int .i64 xm, .int .i64 xe, .int .i64 xs, .int .i64 xp, .int .i64 xa, .int .i64 xr, .int .i64 xx] 29))) := hBr.alloc hws _
            have HXC : Hid (∀ w', Below (wr.alloc (.cells #[.int .i64 xf, .int .i64 xm, .int .i64 xe, .int .i64 xs, .int .i64 xp, .int .i64 xa, .int .i64 xr, .int .i64 xx] 29)).heap.size (wr.alloc (.cells #[.int .i64 xf, .int .i64 xm, .int .i64 xe, .int .i64 xs, .int .i64 xp, .int .i64 xa, .int .i64 xr, .int .i64 xx] 29)) w' → w'.cell? ⟨wr.heap.size, 0, none⟩ = some (.int .i64 xf) ∧ w'.cell? ⟨wr.heap.size, 1, none⟩ = some (.int .i64 xm) ∧ w'.cell? ⟨wr.heap.size, 2, none⟩ = some (.int .i64 xe) ∧ w'.cell? ⟨wr.heap.size, 3, none⟩ = some (.int .i64 xs) ∧ w'.cell? ⟨w.heap.size, 0, none⟩ = some (.int .i64 f) ∧ w'.cell? ⟨w.heap.size, 1, none⟩ = some (.int .i64 m) ∧ w'.cell? ⟨w.heap.size, 2, none⟩ = some (.int .i64 e) ∧ w'.cell? ⟨w.heap.size, 3, none⟩ = some (.int .i64 s)) := fun w' hb => by
              have b1 := bx8 ((bxNew wr #[.int .i64 xf, .int .i64 xm, .int .i64 xe, .int .i64 xs, .int .i64 xp, .int .i64 xa, .int .i64 xr, .int .i64 xx] 29).below hb (bxNew wr #[.int .i64 xf, .int .i64 xm, .int .i64 xe, .int .i64 xs, .int .i64 xp, .int .i64 xa, .int .i64 xr, .int .i64 xx] 29).lt)
              have b2 := bx4 (HW.out w' (bstep HW1.out hb (by rw [World.size_alloc]; omega))).2.1
              exact ⟨b1.1, b1.2.1, b1.2.2.1, b1.2.2.2.1, b2.1, b2.2.1, b2.2.2.1, b2.2.2.2⟩
            have hB := Below.refl (wr.alloc (.cells #[.int .i64 xf, .int .i64 xm, .int .i64 xe, .int .i64 xs, .int .i64 xp, .int .i64 xa, .int .i64 xr, .int .i64 xx] 29)).heap.size (wr.alloc (.cells #[.int .i64 xf, .int .i64 xm, .int .i64 xe, .int .i64 xs, .int .i64 xp, .int .i64 xa, .int .i64 xr, .int .i64 xx] 29))
            have hBd := hB.drew
            have hcc := HXC.out _ hB
            have HFIN : Hid (∀ w', Below (wr.alloc (.cells #[.int .i64 xf, .int .i64 xm, .int .i64 xe, .int .i64 xs, .int .i64 xp, .int .i64 xa, .int .i64 xr, .int .i64 xx] 29)).heap.size (wr.alloc (.cells #[.int .i64 xf, .int .i64 xm, .int .i64 xe, .int .i64 xs, .int .i64 xp, .int .i64 xa, .int .i64 xr, .int .i64 xx] 29)) w' → Below (w.heap.size + 1) (w.alloc (.cells #[.int .i64 f, .int .i64 m, .int .i64 e, .int .i64 s] 24)) w') := fun w' hb => bstep HW1.out hb (by rw [World.size_alloc]; omega)
            clear hBr hws hkL
            by_cases hp : pubB xf xm xe xs = pubB f m e s
            · have hE : ((pubB xf xm xe xs).toList == (pubB f m e s).toList) = true := by rw [hp]; exact beq_self_eq_true _
              have HZ1 : Hid (∀ W, Z (rollNo 19) W) := fun W => HZ.out 19 W (HYES.out hp) (by decide)
              clear hp HYES HNO
              go_wp2_with fail
              go_region_held3 (fun w' => w'.cell? ⟨wr.heap.size, 0, none⟩ = some (.int .i64 xf) ∧ w'.cell? ⟨wr.heap.size, 1, none⟩ = some (.int .i64 xm) ∧ w'.cell? ⟨wr.heap.size, 2, none⟩ = some (.int .i64 xe) ∧ w'.cell? ⟨wr.heap.size, 3, none⟩ = some (.int .i64 xs) ∧ w'.cell? ⟨w.heap.size, 0, none⟩ = some (.int .i64 f) ∧ w'.cell? ⟨w.heap.size, 1, none⟩ = some (.int .i64 m) ∧ w'.cell? ⟨w.heap.size, 2, none⟩ = some (.int .i64 e) ∧ w'.cell? ⟨w.heap.size, 3, none⟩ = some (.int .i64 s)) (first | go_keep | exact HXC.out _ hB) ((go_at_call 22; refine (refPublic_any _ _ _ _ _).mono ?_; rintro r5 w5 ⟨rfl, hB5⟩; with_reducible (first | have hB := bstep hBd hB5 hBd.size | have hB := bstep hB hB5 hB.size); have hcc := HXC.out _ hB; clear hB5))
              go_wp2_with fail
              all_goals
                go_ret2
                exact ⟨HZ1.out _, (HW.out _ (HFIN.out _ (by first | exact hB | exact hB.drew))).1⟩
            · have hE : ((pubB xf xm xe xs).toList == (pubB f m e s).toList) = false := by rw [beq_eq_false_iff_ne]; intro e; exact hp (toList_inj.1 e)
              have HZ1 := hide' (HNO.out hp)
              clear hp HYES HNO
              go_wp2_with fail
              go_region_held3 (fun w' => w'.cell? ⟨wr.heap.size, 0, none⟩ = some (.int .i64 xf) ∧ w'.cell? ⟨wr.heap.size, 1, none⟩ = some (.int .i64 xm) ∧ w'.cell? ⟨wr.heap.size, 2, none⟩ = some (.int .i64 xe) ∧ w'.cell? ⟨wr.heap.size, 3, none⟩ = some (.int .i64 xs) ∧ w'.cell? ⟨w.heap.size, 0, none⟩ = some (.int .i64 f) ∧ w'.cell? ⟨w.heap.size, 1, none⟩ = some (.int .i64 m) ∧ w'.cell? ⟨w.heap.size, 2, none⟩ = some (.int .i64 e) ∧ w'.cell? ⟨w.heap.size, 3, none⟩ = some (.int .i64 s)) (first | go_keep | exact HXC.out _ hB) ((go_at_call 22; refine (refPublic_any _ _ _ _ _).mono ?_; rintro r5 w5 ⟨rfl, hB5⟩; with_reducible (first | have hB := bstep hBd hB5 hBd.size | have hB := bstep hB hB5 hB.size); have hcc := HXC.out _ hB; clear hB5))
              go_wp2_with fail
              all_goals
                exact ⟨⟨k + 1, by go_num, by omega, HFIN.out _ (by first | exact hB | exact hB.drew), HZ1⟩, by simp [intOf]; omega⟩
          · obtain rfl : k = ni + 1 := by omega
            have HANY : Hid (L.any (fun k => decide (pubB k.f k.m k.e k.s = pubB f m e s)) = false) := by
              refine List.any_eq_false.2 fun x hx => ?_
              obtain ⟨j, hj, rfl⟩ := List.getElem_of_mem hx
              rw [decide_eq_false (HND.out j hj (by have := HN.out; omega))]
              decide
            have hC := HCN.out HANY.out
            clear HCN HC19 HANY HND
            have hkL : ni < L.length := by have := HN.out; omega
            obtain ⟨hg, e0, e1, e2, e3, e4, e5, e6, e7⟩ := TsAt.cellsAt (HW.out _ hBr).2.2.1 ni hkL
            rw [HLA.out hkL] at e5
            clear e0 e1 e2 e3 e4 e6 e7 hBr hkL
            by_cases h4 : now < l.a
            · have HZ1 : Hid (∀ W, Z (rollNo 29) W) := fun W => HZ.out 29 W (by rw [hC, decide_eq_true h4]; rfl) (by decide)
              clear hC
              go_wp2_with fail
              go_ret2
              exact ⟨HZ1.out _, (HW.out _ HBr.out).1⟩
            · by_cases h5 : now > 4294967295 - ka - sa
              · have HZ1 : Hid (∀ W, Z (rollNo 25) W) := fun W => HZ.out 25 W (by rw [hC, decide_eq_false h4, decide_eq_true h5]; rfl) (by decide)
                clear hC
                by_cases h7 : now > 4294967295
                · go_wp2_with fail
                  go_ret2
                  exact ⟨HZ1.out _, (HW.out _ HBr.out).1⟩
                · have h8 : now + ka + sa > 4294967295 := by omega
                  go_wp2_with fail
                  go_ret2
                  exact ⟨HZ1.out _, (HW.out _ HBr.out).1⟩
              · have h8 : now + ka + sa ≤ 4294967295 := by omega
                by_cases h6 : ni + 1 = 50
                · have HZ1 : Hid (∀ W, Z (rollNo 20) W) := fun W => HZ.out 20 W (by rw [hC, decide_eq_false h4, decide_eq_false h5, decide_eq_true h6]; rfl) (by decide)
                  have h9 : 49 ≤ ni := by omega
                  clear hC h6
                  go_wp2_with fail
                  go_ret2
                  exact ⟨HZ1.out _, (HW.out _ HBr.out).1⟩
                · have HC0 : Hid (C = 0) := by unfold Hid; rw [hC, decide_eq_false h4, decide_eq_false h5, decide_eq_false h6]; rfl
                  have h9 : ni < 49 := by omega
                  clear hC h6
                  go_wp2_with fail
                  go_loopw [16, 93] (fun v i wr => ∃ k : Nat, i = .int .i64 (k : Int) ∧ k ≤ ni + 1 ∧ Below (w.heap.size + 1) (w.alloc (.cells #[.int .i64 f, .int .i64 m, .int .i64 e, .int .i64 s] 24)) wr ∧ Hid (wr.ownsRow (w.heap.size + 1) 29 8 v k (rowV tkV (M.take k)))) (fun _ i _ => ni + 1 - (intOf i).toNat)
                  case atStart => exact ⟨0, rfl, Nat.zero_le _, HBr.out, row_nil _ _ _ _⟩
                  case round =>
                    obtain ⟨k, rfl, hk, hBr, HO⟩ := hrel
                    have hws := (HW.out _ hBr).2.2.2
                    obtain ⟨pv, cv, rfl, _, _, _⟩ := own_shape HO.out
                    have HGE : Hid (∀ q, (Value.slice pv k cv).ownBlock = some q → w.heap.size + 1 ≤ q) := fun q e => (HO.out.lt q e).1
                    by_cases hlt : k < ni + 1
                    · have hkL : k < L.length := by have := HN.out; omega
                      obtain ⟨hg, e0, e1, e2, e3, e4, e5, e6, e7⟩ := TsAt.cellsAt (HW.out _ hBr).2.2.1 k hkL
                      by_cases hkn : k = ni
                      · subst hkn
                        have hrow := HROW.out k hkL
                        rw [if_pos rfl, HOLD.out hkL] at hrow
                        have HR2 := hide' hrow
                        clear hrow
                        generalize L[k] = x at *
                        obtain ⟨xf, xm, xe, xs, xp, xa, xr, xx⟩ := x
                        dsimp only at e0 e1 e2 e3 e4 e5 e6 e7
                        dsimp only [oldT] at HR2
                        have HM : Hid (Below (w.heap.size + 1) (w.alloc (.cells #[.int .i64 f, .int .i64 m, .int .i64 e, .int .i64 s] 24)) ((wr.alloc (.cells #[.int .i64 xf, .int .i64 xm, .int .i64 xe, .int .i64 xs, .int .i64 xp, .int .i64 xa, .int .i64 (now + ka), .int .i64 (now + ka + sa)] 29)).alloc (.cells #[.int .i64 xf, .int .i64 xm, .int .i64 xe, .int .i64 xs, .int .i64 xp, .int .i64 xa, .int .i64 (now + ka), .int .i64 (now + ka + sa)] 29)) ∧ ((wr.alloc (.cells #[.int .i64 xf, .int .i64 xm, .int .i64 xe, .int .i64 xs, .int .i64 xp, .int .i64 xa, .int .i64 (now + ka), .int .i64 (now + ka + sa)] 29)).alloc (.cells #[.int .i64 xf, .int .i64 xm, .int .i64 xe, .int .i64 xs, .int .i64 xp, .int .i64 xa, .int .i64 (now + ka), .int .i64 (now + ka + sa)] 29)).ownsRow (w.heap.size + 1) 29 8 (.slice pv k cv) k (rowV tkV (M.take k)) ∧ RowAt 8 tkV ((wr.alloc (.cells #[.int .i64 xf, .int .i64 xm, .int .i64 xe, .int .i64 xs, .int .i64 xp, .int .i64 xa, .int .i64 (now + ka), .int .i64 (now + ka + sa)] 29)).alloc (.cells #[.int .i64 xf, .int .i64 xm, .int .i64 xe, .int .i64 xs, .int .i64 xp, .int .i64 xa, .int .i64 (now + ka), .int .i64 (now + ka + sa)] 29)) (some ⟨wr.heap.size + 1, 0, none⟩) [(⟨xf, xm, xe, xs, xp, xa, now + ka, now + ka + sa⟩ : Tk)] ∧ w.heap.size + 1 ≤ ((wr.alloc (.cells #[.int .i64 xf, .int .i64 xm, .int .i64 xe, .int .i64 xs, .int .i64 xp, .int .i64 xa, .int .i64 (now + ka), .int .i64 (now + ka + sa)] 29)).alloc (.cells #[.int .i64 xf, .int .i64 xm, .int .i64 xe, .int .i64 xs, .int .i64 xp, .int .i64 xa, .int .i64 (now + ka), .int .i64 (now + ka + sa)] 29)).heap.size) := by
                          have b1 := hBr.alloc hws (.cells #[.int .i64 xf, .int .i64 xm, .int .i64 xe, .int .i64 xs, .int .i64 xp, .int .i64 xa, .int .i64 (now + ka), .int .i64 (now + ka + sa)] 29)
                          have b3 := b1.alloc (by rw [World.size_alloc]; omega) (.cells #[.int .i64 xf, .int .i64 xm, .int .i64 xe, .int .i64 xs, .int .i64 xp, .int .i64 xa, .int .i64 (now + ka), .int .i64 (now + ka + sa)] 29)
                          have c1 := (Below.refl wr.heap.size wr).alloc (Nat.le_refl _) (.cells #[.int .i64 xf, .int .i64 xm, .int .i64 xe, .int .i64 xs, .int .i64 xp, .int .i64 xa, .int .i64 (now + ka), .int .i64 (now + ka + sa)] 29)
                          have c3 := c1.alloc (by rw [World.size_alloc]; omega) (.cells #[.int .i64 xf, .int .i64 xm, .int .i64 xe, .int .i64 xs, .int .i64 xp, .int .i64 xa, .int .i64 (now + ka), .int .i64 (now + ka + sa)] 29)
                          refine ⟨b3, row_bel HO.out c3 (Nat.le_refl _), ?_, by rw [World.size_alloc, World.size_alloc]; omega⟩
                          exact row_box (x := (⟨xf, xm, xe, xs, xp, xa, now + ka, now + ka + sa⟩ : Tk)) tkV_len (bxAt _ _ _ _ (by rw [World.size_alloc]))
                        clear hBr hkL
                        go_wp2_with (first
                          | (at_builtin; refine wpList_append_rows (V := tkV) Try.underlying30 infoTk rfl (by decide) (by decide) tkV_len tkV_one rfl _ _ rfl (w.heap.size + 1) (.slice pv k cv) k (rowV tkV (M.take k)) rfl HM.out.2.1 (some ⟨wr.heap.size + 1, 0, none⟩) [(⟨xf, xm, xe, xs, xp, xa, now + ka, now + ka + sa⟩ : Tk)] 1 rfl HM.out.2.2.1 (fun e => by cases e) (by simp; omega) HM.out.2.2.2 ?_; intro v9 w9 ho9 hg9; have HO10 := hide' ho9; have HB10 := hide' (HM.out.1.grown hg9 HM.out.2.2.2 HGE.out); clear ho9 hg9))
                        refine ⟨⟨k + 1, by go_num, by omega, HB10.out, ?_⟩, by simp [intOf]⟩
                        unfold Hid
                        rw [HR2.out]
                        exact HO10.out
                      · have hrow := HROW.out k hkL
                        rw [if_neg hkn] at hrow
                        have HR2 := hide' hrow
                        clear hrow
                        generalize L[k] = x at *
                        obtain ⟨xf, xm, xe, xs, xp, xa, xr, xx⟩ := x
                        dsimp only at e0 e1 e2 e3 e4 e5 e6 e7
                        have HM : Hid (Below (w.heap.size + 1) (w.alloc (.cells #[.int .i64 f, .int .i64 m, .int .i64 e, .int .i64 s] 24)) ((wr.alloc (.cells #[.int .i64 xf, .int .i64 xm, .int .i64 xe, .int .i64 xs, .int .i64 xp, .int .i64 xa, .int .i64 xr, .int .i64 xx] 29)).alloc (.cells #[.int .i64 xf, .int .i64 xm, .int .i64 xe, .int .i64 xs, .int .i64 xp, .int .i64 xa, .int .i64 xr, .int .i64 xx] 29)) ∧ ((wr.alloc (.cells #[.int .i64 xf, .int .i64 xm, .int .i64 xe, .int .i64 xs, .int .i64 xp, .int .i64 xa, .int .i64 xr, .int .i64 xx] 29)).alloc (.cells #[.int .i64 xf, .int .i64 xm, .int .i64 xe, .int .i64 xs, .int .i64 xp, .int .i64 xa, .int .i64 xr, .int .i64 xx] 29)).ownsRow (w.heap.size + 1) 29 8 (.slice pv k cv) k (rowV tkV (M.take k)) ∧ RowAt 8 tkV ((wr.alloc (.cells #[.int .i64 xf, .int .i64 xm, .int .i64 xe, .int .i64 xs, .int .i64 xp, .int .i64 xa, .int .i64 xr, .int .i64 xx] 29)).alloc (.cells #[.int .i64 xf, .int .i64 xm, .int .i64 xe, .int .i64 xs, .int .i64 xp, .int .i64 xa, .int .i64 xr, .int .i64 xx] 29)) (some ⟨wr.heap.size + 1, 0, none⟩) [(⟨xf, xm, xe, xs, xp, xa, xr, xx⟩ : Tk)] ∧ w.heap.size + 1 ≤ ((wr.alloc (.cells #[.int .i64 xf, .int .i64 xm, .int .i64 xe, .int .i64 xs, .int .i64 xp, .int .i64 xa, .int .i64 xr, .int .i64 xx] 29)).alloc (.cells #[.int .i64 xf, .int .i64 xm, .int .i64 xe, .int .i64 xs, .int .i64 xp, .int .i64 xa, .int .i64 xr, .int .i64 xx] 29)).heap.size) := by
                          have b1 := hBr.alloc hws (.cells #[.int .i64 xf, .int .i64 xm, .int .i64 xe, .int .i64 xs, .int .i64 xp, .int .i64 xa, .int .i64 xr, .int .i64 xx] 29)
                          have b3 := b1.alloc (by rw [World.size_alloc]; omega) (.cells #[.int .i64 xf, .int .i64 xm, .int .i64 xe, .int .i64 xs, .int .i64 xp, .int .i64 xa, .int .i64 xr, .int .i64 xx] 29)
                          have c1 := (Below.refl wr.heap.size wr).alloc (Nat.le_refl _) (.cells #[.int .i64 xf, .int .i64 xm, .int .i64 xe, .int .i64 xs, .int .i64 xp, .int .i64 xa, .int .i64 xr, .int .i64 xx] 29)
                          have c3 := c1.alloc (by rw [World.size_alloc]; omega) (.cells #[.int .i64 xf, .int .i64 xm, .int .i64 xe, .int .i64 xs, .int .i64 xp, .int .i64 xa, .int .i64 xr, .int .i64 xx] 29)
                          refine ⟨b3, row_bel HO.out c3 (Nat.le_refl _), ?_, by rw [World.size_alloc, World.size_alloc]; omega⟩
                          exact row_box (x := (⟨xf, xm, xe, xs, xp, xa, xr, xx⟩ : Tk)) tkV_len (bxAt _ _ _ _ (by rw [World.size_alloc]))
                        clear hBr hkL
                        go_wp2_with (first
                          | (at_builtin; refine wpList_append_rows (V := tkV) Try.underlying30 infoTk rfl (by decide) (by decide) tkV_len tkV_one rfl _ _ rfl (w.heap.size + 1) (.slice pv k cv) k (rowV tkV (M.take k)) rfl HM.out.2.1 (some ⟨wr.heap.size + 1, 0, none⟩) [(⟨xf, xm, xe, xs, xp, xa, xr, xx⟩ : Tk)] 1 rfl HM.out.2.2.1 (fun e => by cases e) (by simp; omega) HM.out.2.2.2 ?_; intro v9 w9 ho9 hg9; have HO10 := hide' ho9; have HB10 := hide' (HM.out.1.grown hg9 HM.out.2.2.2 HGE.out); clear ho9 hg9))
                        refine ⟨⟨k + 1, by go_num, by omega, HB10.out, ?_⟩, by simp [intOf]; omega⟩
                        unfold Hid
                        rw [HR2.out]
                        exact HO10.out
                    · obtain rfl : k = ni + 1 := by omega
                      obtain ⟨k0, k1, k2, k3⟩ := bx4 (HW.out _ hBr).2.1
                      have HM : Hid (Below (w.heap.size + 1) (w.alloc (.cells #[.int .i64 f, .int .i64 m, .int .i64 e, .int .i64 s] 24)) (wr.alloc (.cells #[.int .i64 f, .int .i64 m, .int .i64 e, .int .i64 s, .int .i64 now, .int .i64 (now + ka), .int .i64 4294967296, .int .i64 4294967296] 29)) ∧ (wr.alloc (.cells #[.int .i64 f, .int .i64 m, .int .i64 e, .int .i64 s, .int .i64 now, .int .i64 (now + ka), .int .i64 4294967296, .int .i64 4294967296] 29)).ownsRow (w.heap.size + 1) 29 8 (.slice pv (ni + 1) cv) (ni + 1) (rowV tkV (M.take (ni + 1))) ∧ RowAt 8 tkV (wr.alloc (.cells #[.int .i64 f, .int .i64 m, .int .i64 e, .int .i64 s, .int .i64 now, .int .i64 (now + ka), .int .i64 4294967296, .int .i64 4294967296] 29)) (some ⟨wr.heap.size, 0, none⟩) [newT f m e s now ka] ∧ w.heap.size + 1 ≤ (wr.alloc (.cells #[.int .i64 f, .int .i64 m, .int .i64 e, .int .i64 s, .int .i64 now, .int .i64 (now + ka), .int .i64 4294967296, .int .i64 4294967296] 29)).heap.size) := by
                        have b1 := hBr.alloc hws (.cells #[.int .i64 f, .int .i64 m, .int .i64 e, .int .i64 s, .int .i64 now, .int .i64 (now + ka), .int .i64 4294967296, .int .i64 4294967296] 29)
                        have c1 := (Below.refl wr.heap.size wr).alloc (Nat.le_refl _) (.cells #[.int .i64 f, .int .i64 m, .int .i64 e, .int .i64 s, .int .i64 now, .int .i64 (now + ka), .int .i64 4294967296, .int .i64 4294967296] 29)
                        refine ⟨b1, row_bel HO.out c1 (Nat.le_refl _), ?_, by rw [World.size_alloc]; omega⟩
                        exact row_box (x := newT f m e s now ka) tkV_len (bxNew _ _ _)
                      clear hBr
                      go_wp2_with (first
                        | (at_builtin; refine wpList_append_rows (V := tkV) Try.underlying30 infoTk rfl (by decide) (by decide) tkV_len tkV_one rfl _ _ rfl (w.heap.size + 1) (.slice pv (ni + 1) cv) (ni + 1) (rowV tkV (M.take (ni + 1))) rfl HM.out.2.1 (some ⟨wr.heap.size, 0, none⟩) [newT f m e s now ka] 1 rfl HM.out.2.2.1 (fun e => by cases e) (by simp; omega) HM.out.2.2.2 ?_; intro v9 w9 ho9 hg9; obtain ⟨p9, c9, rfl, _, _, _⟩ := own_shape ho9; have HO10 := hide' ho9; have HB10 := hide' (HM.out.1.grown hg9 HM.out.2.2.2 HGE.out); clear ho9 hg9))
                      go_ret2
                      refine ⟨HZ0.out p9 c9 _ HC0.out ?_, (HW.out _ HB10.out).1⟩
                      have h := HO10.out
                      rw [HTAKE.out, ← rowV_app, ← HRL.out] at h
                      have hl2 : RL.length = ni + 1 + [newT f m e s now ka].length := HRN.out
                      rw [← hl2] at h
                      exact row_own tkV_len h
end Go.Proofs.Ytjnhkiibnmbmfaa
