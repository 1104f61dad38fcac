import Derived.Test.YtjnhkiibnmbmfaaSy8
/-
  SignerRolls: the walk. (The verifier's own text.)
-/
namespace Go.Proofs.Ytjnhkiibnmbmfaa
set_option linter.unusedVariables false
set_option linter.unusedSimpArgs false
open Go.RowKit Go.Shelf Go.Sort Go.Proofs.Ytjnhkiibnmbmfaa.Nm

set_option maxRecDepth 100000 in
set_option maxHeartbeats 100000000 in
/-- gazetteerlaw4.SignerRolls, begin being too early -/
theorem rolls_low (begin ka sa to a b : Int) (T : List Tn) (p : Option Addr) (cap : Nat) (w : World) (hT : T.length ≤ 9223372036854775807) (hat : NtAt w p T) (ra : a ≤ 9223372036854775807) (rb : b ≤ 9223372036854775807) (h0 : begin < 0) :
    Calls Try.prog 3 #[.int .i64 begin, .slice p T.length cap, .int .i64 ka, .int .i64 sa, .int .i64 to, .int .i64 a, .int .i64 b] w fun e w' => e = .returned (.bool true) ∧ Below w.heap.size w w' := by
  obtain ⟨d, hkd, hrk⟩ := first_key
  have HNK := hide' (newKey_any 251 263 3 256)
  rw [hkd] at HNK
  have HFIRST : Hid (LOk ka sa 0 [] ⟨256, 66013, 3, d, 0, 0, 4294967296, 4294967296⟩) := LOk.first (by omega) (by omega) hrk
  have HT := hide' hat
  clear hat hkd hrk
  go_enter Try.func3, Try.ntmps3
  go_wp2_with (first
    | (go_at_call 4; refine (HNK.out _).mono ?_; rintro r1 w1 ⟨rfl, hB1⟩; have HB1 := hide' hB1; clear hB1))
  go_loopw [17, 49] (fun ln i wr => ∃ (k : Nat) (I : List Tk) (l : Tk) (g off cp : Nat), i = .int .i64 (k : Int) ∧ k ≤ T.length ∧ ln = .slice (some ⟨g, off, none⟩) (I ++ [l]).length cp ∧ Hid (TsAt wr (some ⟨g, off, none⟩) (I ++ [l])) ∧ Hid (LOk ka sa 0 I l) ∧ Below w.heap.size w wr) (fun _ i _ => T.length - (intOf i).toNat)
  case atStart =>
    have b2 := HB1.out.alloc HB1.out.size (.cells #[.int .i64 256, .int .i64 66013, .int .i64 3, .int .i64 d] 24)
    have b3 := b2.alloc b2.size (.cells #[.int .i64 256, .int .i64 66013, .int .i64 3, .int .i64 d, .int .i64 0, .int .i64 0, .int .i64 4294967296, .int .i64 4294967296] 29)
    exact ⟨0, [], ⟨256, 66013, 3, d, 0, 0, 4294967296, 4294967296⟩, w1.heap.size + 1, 0, 1, rfl, Nat.zero_le _, rfl, row_box (x := (⟨256, 66013, 3, d, 0, 0, 4294967296, 4294967296⟩ : Tk)) tkV_len (bxAt _ _ _ _ (by rw [World.size_alloc])), HFIRST, b3⟩
  case round =>
    obtain ⟨k, I, l, g, off, cp, rfl, hk, rfl, HAT, HOK, hBr⟩ := hrel
    have HBr := hide' hBr
    by_cases hlt : k < T.length
    · obtain ⟨tg, toff, rfl, htg, e0, e1, e2, e3⟩ := NtAt.cells (row_below' HT.out hBr) k hlt
      generalize T[k] = tn at *
      obtain ⟨P, Q, E, N⟩ := tn
      dsimp only at e0 e1 e2 e3
      obtain ⟨kf, km, ke, ks, kc, hkey⟩ := key_some P Q E 256
      have HKY := hide' (newKey_any P Q E 256)
      rw [hkey] at HKY
      clear hkey hBr
      have HTB : Hid (∀ w2, Below (wr.alloc (.cells #[.int .i64 P, .int .i64 Q, .int .i64 E, .int .i64 N] 32)).heap.size (wr.alloc (.cells #[.int .i64 P, .int .i64 Q, .int .i64 E, .int .i64 N] 32)) w2 → w2.cell? ⟨wr.heap.size, 0, none⟩ = some (.int .i64 P) ∧ w2.cell? ⟨wr.heap.size, 1, none⟩ = some (.int .i64 Q) ∧ w2.cell? ⟨wr.heap.size, 2, none⟩ = some (.int .i64 E) ∧ w2.cell? ⟨wr.heap.size, 3, none⟩ = some (.int .i64 N)) := fun w2 h => bx4 ((bxNew wr _ _).below h (bxNew wr _ _).lt)
      have hl50 := HOK.out.len
      have hL0 : (I ++ [l]).length ≠ 0 := by simp
      have HSL : Hid (∀ g3 c3 W, TsAt W (some ⟨g3, 0, none⟩) (I ++ [l]) → TsAt W (some ⟨g, off, none⟩) (I ++ [l]) → Calls Try.prog 7 #[.slice (some ⟨g3, 0, none⟩) (I ++ [l]).length c3, .slice (some ⟨g, off, none⟩) (I ++ [l]).length cp] W fun e w' => e = .returned (.bool true) ∧ Below W.heap.size W w') := fun g3 c3 W h1 h2 => sameLine_same (I ++ [l]) _ _ _ c3 cp W rfl h1 h2 (by omega)
      by_cases hc : rollC I l kf km ke ks N ka sa = 0
      · have HR1 : Hid (∀ (g3 o3 c3 : Nat) (W : World), TsAt W (some ⟨g3, o3, none⟩) (I ++ [l]) → Calls Try.prog 5 #[.slice (some ⟨g3, o3, none⟩) (I ++ [l]).length c3, .agg #[.int .i64 kf, .int .i64 km, .int .i64 ke, .int .i64 ks], .int .i64 N, .int .i64 ka, .int .i64 sa] W fun r w' => (∃ p4 c4, r = .returned (.tuple #[.slice p4 (rollL I l kf km ke ks N ka sa).length c4, .int .i64 0]) ∧ TsAt w' p4 (rollL I l kf km ke ks N ka sa)) ∧ Below W.heap.size W w') := fun g3 o3 c3 W h => (roll_any I l g3 o3 c3 kf km ke ks N ka sa W (by omega) h HOK.out.2.2.2.1 HOK.out.2.2.1 HOK.out.2.1 HOK.out.2.2.2.2).mono fun r w' ⟨hr, hb⟩ => by
          refine ⟨?_, hb⟩
          rcases hr with ⟨h1, _⟩ | ⟨_, h2⟩
          · exact absurd hc h1
          · rw [rollL_len]; exact h2
        have HR2 : Hid (∀ (W : World), TsAt W (some ⟨g, off, none⟩) (I ++ [l]) → Calls Try.prog 6 #[.slice (some ⟨g, off, none⟩) (I ++ [l]).length cp, .agg #[.int .i64 kf, .int .i64 km, .int .i64 ke, .int .i64 ks], .int .i64 N, .int .i64 ka, .int .i64 sa] W fun r w' => (∃ p4 c4, r = .returned (.tuple #[.slice p4 (rollL I l kf km ke ks N ka sa).length c4, .int .i64 0]) ∧ TsAt w' p4 (rollL I l kf km ke ks N ka sa)) ∧ Below W.heap.size W w') := fun W h => (refRoll_any I l g off cp kf km ke ks N ka sa W h HOK.out.2.2.2.1 HOK.out.2.2.1 HOK.out.2.1 HOK.out.2.2.2.2).mono fun r w' ⟨hr, hb⟩ => by
          refine ⟨?_, hb⟩
          rcases hr with ⟨h1, _⟩ | ⟨_, h2⟩
          · exact absurd hc h1
          · rw [rollL_len]; exact h2
        have HS1 : Hid (∀ (p4 p5 : Option Addr) (c4 c5 : Nat) (W : World), TsAt W p4 (rollL I l kf km ke ks N ka sa) → TsAt W p5 (rollL I l kf km ke ks N ka sa) → Calls Try.prog 7 #[.slice p4 (rollL I l kf km ke ks N ka sa).length c4, .slice p5 (rollL I l kf km ke ks N ka sa).length c5] W fun e w' => e = .returned (.bool true) ∧ Below W.heap.size W w') := fun p4 p5 c4 c5 W h1 h2 => sameLine_same _ _ _ _ c4 c5 W rfl h1 h2 (by rw [rollL_len]; simp at hl50; omega)
        have HNEXT := hide' (HOK.out.roll hc)
        have HRL : Hid (rollL I l kf km ke ks N ka sa = (I ++ [oldT l N ka sa]) ++ [newT kf km ke ks N ka]) := rfl
        have HSOME : Hid (∀ (W : World) (p5 : Option Addr), TsAt W p5 (rollL I l kf km ke ks N ka sa) → ∃ g5 o5, p5 = some ⟨g5, o5, none⟩) := fun W p5 h => by
          obtain ⟨g5, o5, h5, _⟩ := h 0 (by rw [rollL_len]; omega)
          exact ⟨g5, o5, h5⟩
        clear hc
        generalize hRL : rollL I l kf km ke ks N ka sa = RL at *
        have HRL2 := hide' hRL
        clear hRL
        generalize hLL : I ++ [l] = L at *
        have HLL := hide' hLL
        clear hLL
        go_wp2_with (first
        | (go_at_call 4; with_reducible refine (HKY.out _).mono ?_; rintro r2 w2 ⟨rfl, hB2⟩; have HCAR := hide' (turn_mem (f := kf) (m := km) (e := ke) (s := ks) HBr.out HAT.out hB2); obtain ⟨t0, t1, t2, t3⟩ := HTB.out _ hB2; clear hB2; obtain ⟨⟨q0, q1, q2, q3, q4⟩, _, _⟩ := HCAR.out _ (Below.refl _ _))
        | (at_builtin; refine wpList_append_rows (V := tkV) Try.underlying30 infoTk rfl (by decide) (by decide) tkV_len tkV_one rfl _ _ rfl (w2.alloc (.cells #[.int .i64 kf, .int .i64 km, .int .i64 ke, .int .i64 ks] 24)).heap.size (.slice none 0 0) 0 [] rfl (row_nil _ _ _ _) (some ⟨g, off, none⟩) L cp rfl (HCAR.out _ (Below.refl _ _)).2.1 (fun e => by cases e) (by omega) (Nat.le_refl _) ?_; intro v3 w3 ho3 hg3; rw [Nat.zero_add, List.nil_append] at ho3; obtain ⟨g3, c3, rfl, _, _⟩ := own_some' ho3 hL0; have HO3 := hide' (row_own tkV_len ho3); have HB3 := hide' ((Below.refl (w2.alloc (.cells #[.int .i64 kf, .int .i64 km, .int .i64 ke, .int .i64 ks] 24)).heap.size (w2.alloc (.cells #[.int .i64 kf, .int .i64 km, .int .i64 ke, .int .i64 ks] 24))).grown hg3 (Nat.le_refl _) (fun k e => by cases e)); clear ho3 hg3; obtain ⟨⟨x0, x1, x2, x3, x4⟩, _, _⟩ := HCAR.out _ HB3.out)
        | (go_at_call 5; refine (HR1.out g3 0 c3 _ HO3.out).mono ?_; rintro r4 w4 ⟨⟨p4, c4, rfl, hr4⟩, hB4⟩; have HR4 := hide' hr4; clear hr4; have HB4 := hide' (bstep HB3.out hB4 HB3.out.size); have HO4 := hide' (TsAt.below HO3.out hB4); clear hB4; obtain ⟨⟨y0, y1, y2, y3, y4⟩, _, _⟩ := HCAR.out _ HB4.out)
        | (go_at_call 6; refine (HR2.out _ (HCAR.out _ HB4.out).2.1).mono ?_; rintro r5 w5 ⟨⟨p5, c5, rfl, hr5⟩, hB5⟩; have HR5 := hide' hr5; clear hr5; have HB5 := hide' (bstep HB4.out hB5 HB4.out.size); have HO5 := hide' (TsAt.below HO4.out hB5); have HR4b := hide' (TsAt.below HR4.out hB5); clear hB5)
        | (go_at_call 7; with_reducible refine (HS1.out p4 p5 c4 c5 _ HR4b.out HR5.out).mono ?_; rintro r6 w6 ⟨rfl, hB6⟩; have HB6 := hide' (bstep HB5.out hB6 HB5.out.size); have HO6 := hide' (TsAt.below HO5.out hB6); have HR6 := hide' (TsAt.below HR5.out hB6); clear hB6)
        | (go_at_call 7; with_reducible refine (HSL.out g3 c3 _ HO6.out (HCAR.out _ HB6.out).2.1).mono ?_; rintro r7 w7 ⟨rfl, hB7⟩; have HB7 := hide' (bstep HB6.out hB7 HB6.out.size); have HR7 := hide' (TsAt.below HR6.out hB7); clear hB7))
        obtain ⟨g5, o5, rfl⟩ := HSOME.out _ _ HR7.out
        refine ⟨⟨k + 1, I ++ [oldT l N ka sa], newT kf km ke ks N ka, g5, o5, c5, by go_num, by omega, ?_, ?_, HNEXT, (HCAR.out _ HB7.out).2.2⟩, by simp [intOf]; omega⟩
        · rw [← HRL.out]
        · unfold Hid
          rw [← HRL.out]
          exact HR7.out
      · have HR1 : Hid (∀ (g3 o3 c3 : Nat) (W : World), TsAt W (some ⟨g3, o3, none⟩) (I ++ [l]) → Calls Try.prog 5 #[.slice (some ⟨g3, o3, none⟩) (I ++ [l]).length c3, .agg #[.int .i64 kf, .int .i64 km, .int .i64 ke, .int .i64 ks], .int .i64 N, .int .i64 ka, .int .i64 sa] W fun r w' => r = .returned (.tuple #[.slice none 0 0, .int .i64 (rollC I l kf km ke ks N ka sa)]) ∧ Below W.heap.size W w') := fun g3 o3 c3 W h => (roll_any I l g3 o3 c3 kf km ke ks N ka sa W (by omega) h HOK.out.2.2.2.1 HOK.out.2.2.1 HOK.out.2.1 HOK.out.2.2.2.2).mono fun r w' ⟨hr, hb⟩ => by
          refine ⟨?_, hb⟩
          rcases hr with ⟨_, h1⟩ | ⟨h2, _⟩
          · exact h1
          · exact absurd h2 hc
        have HR2 : Hid (∀ (W : World), TsAt W (some ⟨g, off, none⟩) (I ++ [l]) → Calls Try.prog 6 #[.slice (some ⟨g, off, none⟩) (I ++ [l]).length cp, .agg #[.int .i64 kf, .int .i64 km, .int .i64 ke, .int .i64 ks], .int .i64 N, .int .i64 ka, .int .i64 sa] W fun r w' => r = .returned (.tuple #[.slice none 0 0, .int .i64 (rollC I l kf km ke ks N ka sa)]) ∧ Below W.heap.size W w') := fun W h => (refRoll_any I l g off cp kf km ke ks N ka sa W h HOK.out.2.2.2.1 HOK.out.2.2.1 HOK.out.2.1 HOK.out.2.2.2.2).mono fun r w' ⟨hr, hb⟩ => by
          refine ⟨?_, hb⟩
          rcases hr with ⟨_, h1⟩ | ⟨h2, _⟩
          · exact h1
          · exact absurd h2 hc
        have HS0 : Hid (∀ (W : World), Calls Try.prog 7 #[.slice none 0 0, .slice none 0 0] W fun e w' => e = .returned (.bool true) ∧ Below W.heap.size W w') := fun W => sameLine_same [] none none 0 0 0 W rfl (fun k hk => absurd hk (Nat.not_lt_zero _)) (fun k hk => absurd hk (Nat.not_lt_zero _)) (by simp)
        generalize rollC I l kf km ke ks N ka sa = c at *
        generalize hLL : I ++ [l] = L at *
        have HLL := hide' hLL
        clear hLL
        go_wp2_with (first
        | (go_at_call 4; with_reducible refine (HKY.out _).mono ?_; rintro r2 w2 ⟨rfl, hB2⟩; have HCAR := hide' (turn_mem (f := kf) (m := km) (e := ke) (s := ks) HBr.out HAT.out hB2); obtain ⟨t0, t1, t2, t3⟩ := HTB.out _ hB2; clear hB2; obtain ⟨⟨q0, q1, q2, q3, q4⟩, _, _⟩ := HCAR.out _ (Below.refl _ _))
        | (at_builtin; refine wpList_append_rows (V := tkV) Try.underlying30 infoTk rfl (by decide) (by decide) tkV_len tkV_one rfl _ _ rfl (w2.alloc (.cells #[.int .i64 kf, .int .i64 km, .int .i64 ke, .int .i64 ks] 24)).heap.size (.slice none 0 0) 0 [] rfl (row_nil _ _ _ _) (some ⟨g, off, none⟩) L cp rfl (HCAR.out _ (Below.refl _ _)).2.1 (fun e => by cases e) (by omega) (Nat.le_refl _) ?_; intro v3 w3 ho3 hg3; rw [Nat.zero_add, List.nil_append] at ho3; obtain ⟨g3, c3, rfl, _, _⟩ := own_some' ho3 hL0; have HO3 := hide' (row_own tkV_len ho3); have HB3 := hide' ((Below.refl (w2.alloc (.cells #[.int .i64 kf, .int .i64 km, .int .i64 ke, .int .i64 ks] 24)).heap.size (w2.alloc (.cells #[.int .i64 kf, .int .i64 km, .int .i64 ke, .int .i64 ks] 24))).grown hg3 (Nat.le_refl _) (fun k e => by cases e)); clear ho3 hg3; obtain ⟨⟨x0, x1, x2, x3, x4⟩, _, _⟩ := HCAR.out _ HB3.out)
        | (go_at_call 5; refine (HR1.out g3 0 c3 _ HO3.out).mono ?_; rintro r4 w4 ⟨rfl, hB4⟩; have HB4 := hide' (bstep HB3.out hB4 HB3.out.size); have HO4 := hide' (TsAt.below HO3.out hB4); clear hB4; obtain ⟨⟨y0, y1, y2, y3, y4⟩, _, _⟩ := HCAR.out _ HB4.out)
        | (go_at_call 6; refine (HR2.out _ (HCAR.out _ HB4.out).2.1).mono ?_; rintro r5 w5 ⟨rfl, hB5⟩; have HB5 := hide' (bstep HB4.out hB5 HB4.out.size); have HO5 := hide' (TsAt.below HO4.out hB5); clear hB5)
        | (go_at_call 7; with_reducible refine (HS0.out _).mono ?_; rintro r6 w6 ⟨rfl, hB6⟩; have HB6 := hide' (bstep HB5.out hB6 HB5.out.size); have HO6 := hide' (TsAt.below HO5.out hB6); clear hB6)
        | (go_at_call 7; with_reducible refine (HSL.out g3 c3 _ HO6.out (HCAR.out _ HB6.out).2.1).mono ?_; rintro r7 w7 ⟨rfl, hB7⟩; have HB7 := hide' (bstep HB6.out hB7 HB6.out.size); clear hB7))
        refine ⟨⟨k + 1, I, l, g, off, cp, by go_num, by omega, ?_, ?_, HOK, (HCAR.out _ HB7.out).2.2⟩, by simp [intOf]; omega⟩
        · rw [HLL.out]
        · unfold Hid
          rw [HLL.out]
          exact (HCAR.out _ HB7.out).2.1
    · obtain rfl : k = T.length := by omega
      have hl50 := HOK.out.len
      have HL : Hid (∀ (u v : Int), u ≤ 4294967295 → v ≤ 4294967295 → v - u ≤ ka → u - v ≤ sa → 0 ≤ v → 0 ≤ u → servedB (I ++ [l]) u v = true) := fun u v h1 h2 h3 h4 h5 h6 => HOK.out.1.served h1 h2 h3 h4 h5 h6
      have HSFALL : Hid (argsB ka sa 0 to = true → ∀ (W : World), TsAt W (some ⟨g, off, none⟩) (I ++ [l]) → Calls Try.prog 8 #[.slice (some ⟨g, off, none⟩) (I ++ [l]).length cp, .int .i64 ka, .int .i64 sa, .int .i64 0, .int .i64 to] W fun r w' => r = errR 0 ∧ Below W.heap.size W w') := fun ha W h => (safe_any (I ++ [l]) _ cp ka sa 0 to W (by omega) h).mono fun r w' ⟨hs, hb⟩ => ⟨HOK.out.safe ha hs, hb⟩
      have HSV0 := hide' (fun (W : World) (h : TsAt W (some ⟨g, off, none⟩) (I ++ [l])) => refServed_any (I ++ [l]) (some ⟨g, off, none⟩) cp a b W (by omega) h)
      clear HOK hBr hlt
      generalize I ++ [l] = L at *
      by_cases q1 : ka < 0
      · clear HL HSFALL
        go_wp2_with fail
        go_ret
        exact ⟨rfl, HBr.out⟩
      · by_cases q2 : ka > 2147483647
        · clear HL HSFALL
          go_wp2_with fail
          go_ret
          exact ⟨rfl, HBr.out⟩
        · by_cases q3 : sa < 0
          · clear HL HSFALL
            go_wp2_with fail
            go_ret
            exact ⟨rfl, HBr.out⟩
          · by_cases q4 : sa > 2147483647
            · clear HL HSFALL
              go_wp2_with fail
              go_ret
              exact ⟨rfl, HBr.out⟩
            · by_cases q5 : to < 0
              · clear HL HSFALL
                go_wp2_with fail
                go_ret
                exact ⟨rfl, HBr.out⟩
              · by_cases q6 : to > 4294967295
                · clear HL HSFALL
                  go_wp2_with fail
                  go_ret
                  exact ⟨rfl, HBr.out⟩
                · have HSF := hide' (HSFALL.out (by simp only [argsB, ageB, Bool.and_eq_true, decide_eq_true_eq]; omega))
                  dsimp only [errR] at HSF
                  by_cases z1 : a < 0
                  · clear HL HSFALL
                    go_wp2_with (first
          | (go_at_call 8; refine (HSF.out _ HAT.out).mono ?_; rintro r2 w2 ⟨rfl, hB2⟩; have HB2 := hide' (bstep HBr.out hB2 HBr.out.size); have HA2 := hide' (TsAt.below HAT.out hB2); clear hB2)
          | (go_at_call 9; refine (HSV0.out _ HA2.out).mono ?_; rintro r3 w3 ⟨rfl, hB3⟩; have HB3 := hide' (bstep HB2.out hB3 HB2.out.size); clear hB3))
                    go_ret
                    exact ⟨rfl, HB2.out⟩
                  · by_cases z2 : b < 0
                    · clear HL HSFALL
                      go_wp2_with (first
          | (go_at_call 8; refine (HSF.out _ HAT.out).mono ?_; rintro r2 w2 ⟨rfl, hB2⟩; have HB2 := hide' (bstep HBr.out hB2 HBr.out.size); have HA2 := hide' (TsAt.below HAT.out hB2); clear hB2)
          | (go_at_call 9; refine (HSV0.out _ HA2.out).mono ?_; rintro r3 w3 ⟨rfl, hB3⟩; have HB3 := hide' (bstep HB2.out hB3 HB2.out.size); clear hB3))
                      go_ret
                      exact ⟨rfl, HB2.out⟩
                    · by_cases z3 : b - a > ka
                      · clear HL HSFALL
                        go_wp2_with (first
          | (go_at_call 8; refine (HSF.out _ HAT.out).mono ?_; rintro r2 w2 ⟨rfl, hB2⟩; have HB2 := hide' (bstep HBr.out hB2 HBr.out.size); have HA2 := hide' (TsAt.below HAT.out hB2); clear hB2)
          | (go_at_call 9; refine (HSV0.out _ HA2.out).mono ?_; rintro r3 w3 ⟨rfl, hB3⟩; have HB3 := hide' (bstep HB2.out hB3 HB2.out.size); clear hB3))
                        go_ret
                        exact ⟨rfl, HB2.out⟩
                      · by_cases z4 : a - b > sa
                        · clear HL HSFALL
                          go_wp2_with (first
          | (go_at_call 8; refine (HSF.out _ HAT.out).mono ?_; rintro r2 w2 ⟨rfl, hB2⟩; have HB2 := hide' (bstep HBr.out hB2 HBr.out.size); have HA2 := hide' (TsAt.below HAT.out hB2); clear hB2)
          | (go_at_call 9; refine (HSV0.out _ HA2.out).mono ?_; rintro r3 w3 ⟨rfl, hB3⟩; have HB3 := hide' (bstep HB2.out hB3 HB2.out.size); clear hB3))
                          go_ret
                          exact ⟨rfl, HB2.out⟩
                        · by_cases z5 : a > 4294967295
                          · clear HL HSFALL
                            go_wp2_with (first
          | (go_at_call 8; refine (HSF.out _ HAT.out).mono ?_; rintro r2 w2 ⟨rfl, hB2⟩; have HB2 := hide' (bstep HBr.out hB2 HBr.out.size); have HA2 := hide' (TsAt.below HAT.out hB2); clear hB2)
          | (go_at_call 9; refine (HSV0.out _ HA2.out).mono ?_; rintro r3 w3 ⟨rfl, hB3⟩; have HB3 := hide' (bstep HB2.out hB3 HB2.out.size); clear hB3))
                            go_ret
                            exact ⟨rfl, HB2.out⟩
                          · by_cases z6 : b > 4294967295
                            · clear HL HSFALL
                              go_wp2_with (first
          | (go_at_call 8; refine (HSF.out _ HAT.out).mono ?_; rintro r2 w2 ⟨rfl, hB2⟩; have HB2 := hide' (bstep HBr.out hB2 HBr.out.size); have HA2 := hide' (TsAt.below HAT.out hB2); clear hB2)
          | (go_at_call 9; refine (HSV0.out _ HA2.out).mono ?_; rintro r3 w3 ⟨rfl, hB3⟩; have HB3 := hide' (bstep HB2.out hB3 HB2.out.size); clear hB3))
                              go_ret
                              exact ⟨rfl, HB2.out⟩
                            · have HSV := hide' (fun (W : World) (h : TsAt W (some ⟨g, off, none⟩) L) => refServed_any L (some ⟨g, off, none⟩) cp a b W (by omega) h)
                              rw [HL.out a b (by omega) (by omega) (by omega) (by omega) (by omega) (by omega)] at HSV
                              clear HL HSFALL
                              go_wp2_with (first
          | (go_at_call 8; refine (HSF.out _ HAT.out).mono ?_; rintro r2 w2 ⟨rfl, hB2⟩; have HB2 := hide' (bstep HBr.out hB2 HBr.out.size); have HA2 := hide' (TsAt.below HAT.out hB2); clear hB2)
          | (go_at_call 9; refine (HSV.out _ HA2.out).mono ?_; rintro r3 w3 ⟨rfl, hB3⟩; have HB3 := hide' (bstep HB2.out hB3 HB2.out.size); clear hB3))
                              go_ret
                              exact ⟨rfl, HB3.out⟩
end Go.Proofs.Ytjnhkiibnmbmfaa
