import Derived.Test.YtclonjmhbgllkaaDoorMe6
namespace Go.Proofs.YtclonjmhbgllkaaDoor
set_option linter.unusedVariables false
open Go.RowKit Go.Shelf Nm

theorem owns_shape2 {w : World} {base e size : Nat} {v : Value} {n : Nat} {xs : List Value} (h : w.ownsRow base e size v n xs) : ∃ p c, v = .slice p n c ∧ n ≤ c ∧ c ≤ maxLen ∧ (p = none → c = 0) := by
  obtain ⟨hl, (⟨rfl, rfl⟩ | ⟨g, cap, cur, rfl, hb, hg, hn, hcap, hsz, ht⟩)⟩ := h
  · exact ⟨none, 0, rfl, Nat.le_refl _, Nat.zero_le _, fun _ => rfl⟩
  · exact ⟨_, cap, rfl, hn, hcap, fun e => by cases e⟩

theorem owns_base {w : World} {base base' e size : Nat} {v : Value} {n : Nat} {xs : List Value} (h : w.ownsRow base e size v n xs) (hb : base' ≤ base) : w.ownsRow base' e size v n xs := by
  obtain ⟨hl, (h0 | ⟨g, cap, cur, rfl, hg, rest⟩)⟩ := h
  · exact ⟨hl, .inl h0⟩
  · exact ⟨hl, .inr ⟨g, cap, cur, rfl, Nat.le_trans hb hg, rest⟩⟩

set_option maxRecDepth 100000 in
set_option maxHeartbeats 8000000 in
theorem entry_any (g : Nat) (f t : ByteArray) (k l : Nat) (w : World) (h : Sc w g f t k l) (ht : t.size ≤ 1048576) (hk : k < t.size) (hl : 1 ≤ l) (hl2 : l ≤ 1 + k) :
    Calls Tryd.prog 13 #[.pointer (some ⟨g, 0, none⟩)] w (entEnd (ent t k l 0 []) f t k l g w) := by
  have hlt := h.lt
  obtain ⟨w1, hw1⟩ : ∃ w1, w.alloc (.cells #[.int .i64 0, .bool false, .slice none 0 0] 31) = w1 := ⟨_, rfl⟩
  have h1 : Sc w1 g f t k l := hw1 ▸ h.alloc _
  have c1 := h1.c1
  have c2 := h1.c2
  have c3 := h1.c3
  obtain ⟨y, hy, HY, hyl⟩ := bt_wrap hk
  have HB := hide2 (fun (w : World) => isBlank_any y w hyl)
  have HE0 : Hid (EI w (w1.alloc (.cells #[.int .i64 (l : Int), .bool (isBl y), .slice none 0 0] 31)) g f t k l k l []) := by
    have hz : w1.heap.size = w.heap.size + 1 := by rw [← hw1]; simp
    have e0 := World.alloc_heap_new w (.cells entZ 31)
    have e1 := World.alloc_heap_new w1 (.cells #[.int .i64 (l : Int), .bool (isBl y), .slice none 0 0] 31)
    rw [hz] at e1
    refine ⟨h1.alloc _, ⟨_, by rw [HY]; exact e1, World.ownsRow_nil _ _ _ _⟩, ?_, ?_, hlt, by simp; omega⟩
    · refine grown_blk (World.grownBy_alloc w1 _ (some g)) (by omega) ?_
      rw [← hw1]; exact e0
    · rw [← hw1]; exact grown_trans (World.grownBy_alloc _ _ _) (World.grownBy_alloc _ _ _)
  have HR : Hid (w1.heap.size = w.heap.size + 1) := by unfold Hid; rw [← hw1]; simp
  go_enter Tryd.func13, Tryd.ntmps13
  go_wp2_with fail
  go_step3
  go_upto_region 1 with fail
  go_cut [4] from 9 (fun s4 wc => s4 = .pointer (some ⟨w.heap.size + 1, 0, none⟩) ∧ EI w wc g f t k l k l [])
  case first =>
    go_region_held3 (fun w' => w'.cell? ⟨g, 1, none⟩ = some (.string t) ∧ w'.cell? ⟨g, 2, none⟩ = some (.int .i64 (k : Int)) ∧ w'.cell? ⟨g, 3, none⟩ = some (.int .i64 (l : Int))) (first | go_keep) ((go_at_call 15; refine (HB.out _).mono ?_; rintro e w2 ⟨rfl, rfl⟩))
    all_goals
      go_wp2_with fail
      go_meet
      case rel => exact ⟨by rw [HR.out], HE0.out.move (HE0.out.sc.drewN 1) (grown_drewN _ 1 _)⟩
  case rest =>
    clear HE0 HR hw1 h1 c1 c2 c3 HB hy hyl HY
    obtain ⟨rfl, hE⟩ := hcut
    obtain ⟨i0, hi, hz0, hz1, hz2⟩ := info_parts Tryd.infoWord
    have HMo := hide2 (fun (k l : Nat) (w : World) (h : Sc w g f t k l) => more_any g f t k l w h ht)
    go_wp2_with fail
    go_step3
    go_wp2_with fail
    go_loopw [5] (fun ov wr => ∃ (o k' l' : Nat) (ws : List Wd), ov = .int .i64 (o : Int) ∧ k ≤ k' ∧ k' ≤ t.size ∧ 1 ≤ l' ∧ l' ≤ 1 + k' ∧ o ≤ l' ∧ ws.length ≤ k' ∧ Hid (ent t k l 0 [] = ent t k' l' o ws) ∧ EI w wr g f t k l k' l' ws)
      (fun _ wr => t.size - (match wr.cell? ⟨g, 2, none⟩ with | some (.int _ n) => n.toNat | _ => 0))
    case atStart => exact ⟨0, k, l, [], rfl, Nat.le_refl _, by omega, hl, hl2, by omega, by simp, rfl, hE⟩
    case round =>
      clear hE
      obtain ⟨o, k', l', ws, rfl, hkk, hk', hl1, hl3, hol, hwl, HR, hI⟩ := hrel
      have HM := hide2 hI.sc.c2
      have HMo1 := hide2 (HMo.out k' l')
      by_cases hlt2 : k' < t.size
      · have hd : decide (k' < t.size) = true := decide_eq_true hlt2
        rw [hd] at HMo1
        obtain ⟨y, hy, HY, hyl⟩ := bt_wrap hlt2
        have HB := hide2 (fun (w : World) => isBlank_any y w hyl)
        by_cases h10 : y = 10
        · subst h10
          by_cases ho : o = 0
          · subst ho
            have HQ : Hid (ent t k l 0 [] = .inr ((k' + 1), (l' + 1), ws)) := by unfold Hid; rw [HR.out, ent, if_pos hlt2, if_pos HY, if_pos rfl]
            clear HY HR HB
            go_wp2_with (go_at_call 12; refine (HMo1.out _ hI.sc).mono ?_; rintro e w2 ⟨rfl, m, hm⟩; have hI2 : EI w w2 g f t k l k' l' ws := hm ▸ hI.move (hI.sc.drewN m) (grown_drewN _ m _); clear hm; have s1 := hI2.sc.c1; have s2 := hI2.sc.c2)
            go_quiet (fail)
            have hIq : EI w (w2.drewN nq) g f t k l k' l' ws := hI2.move (hI2.sc.drewN nq) (grown_drewN _ nq _)
            clear s1 s2 hI2
            generalize w2.drewN nq = wq at *
            obtain ⟨wA, hwA⟩ : ∃ wA, wq.setCell ⟨g, 2, none⟩ (.int .i64 ((k' : Int) + 1)) = wA := ⟨_, rfl⟩
            have hIA : EI w wA g f t k l (k' + 1) l' ws := hwA ▸ hIq.move (hIq.sc.go (k' + 1) (by omega)) (grown_set _ _ _ _)
            obtain ⟨wB, hwB⟩ : ∃ wB, wA.setCell ⟨g, 3, none⟩ (.int .i64 ((l' : Int) + 1)) = wB := ⟨_, rfl⟩
            have hIB : EI w wB g f t k l (k' + 1) (l' + 1) ws := hwB ▸ hIA.move (hIA.sc.ln (l' + 1) (by omega)) (grown_set _ _ _ _)
            have s2 := hIq.sc.c2
            have f2 := hIq.sc.free 2
            have s3 := hIA.sc.c3
            have f3 := hIA.sc.free 3
            obtain ⟨v, ⟨e0, e1, e2, ez⟩, ⟨r0, r1, r2, rz⟩, hown⟩ := hIB.c
            obtain ⟨p, cp, rfl, hnc, hcm, hnn⟩ := owns_shape2 hown
            have z0 := rz 0
            have z1 := rz 1
            have z2 := rz 2
            go_wp2_with fail
            try rw [Exit.noGoto_ret]
            obtain ⟨q0, q1, q2⟩ := three_set r0 r1 r2 (.int .i64 (l : Int)) (.bool (isBl (bt t k))) (.slice p ws.length cp)
            refine bodyPost_ret (v := .tuple #[.agg #[.int .i64 (l : Int), .bool (isBl (bt t k)), .slice p ws.length cp], .nilIface]) (by simp [results, go_sem, q0, q1, q2]) rfl ?_
            rw [HQ.out]
            refine ⟨p, cp, rfl, ?_, ?_, grown_far (grown_far (grown_far hIB.gr (Nat.le_refl _) _ _) (Nat.le_refl _) _ _) (Nat.le_refl _) _ _⟩
            · exact owns_base (ownsRow_setCell_below (ownsRow_setCell_below (ownsRow_setCell_below hown (by show w.heap.size < w.heap.size + 2; omega) _) (by show w.heap.size < w.heap.size + 2; omega) _) (by show w.heap.size < w.heap.size + 2; omega) _) (by omega)
            · exact (Below.heap_setCell _ _ _ g (by show g ≠ w.heap.size; omega)).trans ((Below.heap_setCell _ _ _ g (by show g ≠ w.heap.size; omega)).trans ((Below.heap_setCell _ _ _ g (by show g ≠ w.heap.size; omega)).trans hIB.sc))
          · have HQ : Hid (ent t k l 0 [] = ent t (k' + 1) (l' + 1) o ws) := by unfold Hid; rw [HR.out, ent, if_pos hlt2, if_pos HY, if_neg ho]
            have ho1 : ((o : Int) == 0) = false := by rw [beq_eq_false_iff_ne]; omega
            clear HY HR HB
            go_wp2_with (go_at_call 12; refine (HMo1.out _ hI.sc).mono ?_; rintro e w2 ⟨rfl, m, hm⟩; have hI2 : EI w w2 g f t k l k' l' ws := hm ▸ hI.move (hI.sc.drewN m) (grown_drewN _ m _); clear hm; have s1 := hI2.sc.c1; have s2 := hI2.sc.c2)
            go_quiet (fail)
            have hIq : EI w (w2.drewN nq) g f t k l k' l' ws := hI2.move (hI2.sc.drewN nq) (grown_drewN _ nq _)
            clear s1 s2 hI2
            generalize w2.drewN nq = wq at *
            obtain ⟨wA, hwA⟩ : ∃ wA, wq.setCell ⟨g, 3, none⟩ (.int .i64 ((l' : Int) + 1)) = wA := ⟨_, rfl⟩
            have hIA : EI w wA g f t k l k' (l' + 1) ws := hwA ▸ hIq.move (hIq.sc.ln (l' + 1) (by omega)) (grown_set _ _ _ _)
            obtain ⟨wB, hwB⟩ : ∃ wB, wA.setCell ⟨g, 2, none⟩ (.int .i64 ((k' : Int) + 1)) = wB := ⟨_, rfl⟩
            have hIB : EI w wB g f t k l (k' + 1) (l' + 1) ws := hwB ▸ hIA.move (hIA.sc.go (k' + 1) (by omega)) (grown_set _ _ _ _)
            have s3 := hIq.sc.c3
            have f3 := hIq.sc.free 3
            have s2 := hIA.sc.c2
            have f2 := hIA.sc.free 2
            go_wp2_with fail
            go_roundw
            case rel => exact ⟨o, k' + 1, l' + 1, ws, rfl, by omega, by omega, by omega, by omega, by omega, by omega, HQ, hIB⟩
            case measure => rw [HM.out, hIB.sc.c2]; simp; omega
        · have hy10 : ((y : Int) == 10) = false := by rw [beq_eq_false_iff_ne]; omega
          by_cases hbb : isBl y = true
          · have hb := hbb
            rw [hb] at HB
            clear hbb
            have HQ : Hid (ent t k l 0 [] = ent t (k' + 1) l' o ws) := by unfold Hid; rw [HR.out, ent, if_pos hlt2, if_neg (by rw [HY]; exact h10), if_pos (by rw [HY]; exact hb)]
            clear HY HR
            go_wp2_with (go_at_call 12; refine (HMo1.out _ hI.sc).mono ?_; rintro e w2 ⟨rfl, m, hm⟩; have hI2 : EI w w2 g f t k l k' l' ws := hm ▸ hI.move (hI.sc.drewN m) (grown_drewN _ m _); clear hm; have s1 := hI2.sc.c1; have s2 := hI2.sc.c2)
            go_quiet (fail)
            have hIq : EI w (w2.drewN nq) g f t k l k' l' ws := hI2.move (hI2.sc.drewN nq) (grown_drewN _ nq _)
            clear s1 s2 hI2
            generalize w2.drewN nq = wq at *
            obtain ⟨wA, hwA⟩ : ∃ wA, wq.setCell ⟨g, 2, none⟩ (.int .i64 ((k' : Int) + 1)) = wA := ⟨_, rfl⟩
            have hIA : EI w wA g f t k l (k' + 1) l' ws := hwA ▸ hIq.move (hIq.sc.go (k' + 1) (by omega)) (grown_set _ _ _ _)
            have s2 := hIq.sc.c2
            have f2 := hIq.sc.free 2
            have s3 := hIq.sc.c3
            go_wp2_with (go_at_call 15; refine (HB.out _).mono ?_; rintro e w2 ⟨rfl, rfl⟩)
            go_roundw
            case rel => exact ⟨o, k' + 1, l', ws, rfl, by omega, by omega, by omega, by omega, by omega, by omega, HQ, hIA⟩
            case measure => rw [HM.out, hIA.sc.c2]; simp; omega
          · have hb : isBl y = false := by simpa using hbb
            rw [hb] at HB
            clear hbb
            by_cases h40 : y = 40
            · subst h40
              by_cases ho : o = 0
              · subst ho
                have HQ : Hid (ent t k l 0 [] = ent t (k' + 1) l' l' ws) := by unfold Hid; rw [HR.out, ent, if_pos hlt2, if_neg (by rw [HY]; exact h10), if_neg (by rw [HY, hb]; simp), if_pos HY, if_pos rfl]
                clear HY HR
                go_wp2_with (go_at_call 12; refine (HMo1.out _ hI.sc).mono ?_; rintro e w2 ⟨rfl, m, hm⟩; have hI2 : EI w w2 g f t k l k' l' ws := hm ▸ hI.move (hI.sc.drewN m) (grown_drewN _ m _); clear hm; have s1 := hI2.sc.c1; have s2 := hI2.sc.c2)
                go_quiet (fail)
                have hIq : EI w (w2.drewN nq) g f t k l k' l' ws := hI2.move (hI2.sc.drewN nq) (grown_drewN _ nq _)
                clear s1 s2 hI2
                generalize w2.drewN nq = wq at *
                obtain ⟨wA, hwA⟩ : ∃ wA, wq.setCell ⟨g, 2, none⟩ (.int .i64 ((k' : Int) + 1)) = wA := ⟨_, rfl⟩
                have hIA : EI w wA g f t k l (k' + 1) l' ws := hwA ▸ hIq.move (hIq.sc.go (k' + 1) (by omega)) (grown_set _ _ _ _)
                have s2 := hIq.sc.c2
                have f2 := hIq.sc.free 2
                have s3 := hIq.sc.c3
                go_wp2_with (go_at_call 15; refine (HB.out _).mono ?_; rintro e w2 ⟨rfl, rfl⟩)
                go_roundw
                case rel => exact ⟨l', k' + 1, l', ws, rfl, by omega, by omega, by omega, by omega, by omega, by omega, HQ, hIA⟩
                case measure => rw [HM.out, hIA.sc.c2]; simp; omega
              · have ho1 : ((o : Int) == 0) = false := by rw [beq_eq_false_iff_ne]; omega
                have ho2 : ((o : Int) != 0) = true := by rw [bne_iff_ne]; omega
                have HF := hide2 (fun (w : World) (h : Sc w g f t k' l') => fail_any g f t k' l' 2 l' w h)
                have HQ : Hid (ent t k l 0 [] = .inl (2, l')) := by unfold Hid; rw [HR.out, ent, if_pos hlt2, if_neg (by rw [HY]; exact h10), if_neg (by rw [HY, hb]; simp), if_pos HY, if_neg ho]
                clear HY HR
                go_wp2_with (go_at_call 12; refine (HMo1.out _ hI.sc).mono ?_; rintro e w2 ⟨rfl, m, hm⟩; have hI2 : EI w w2 g f t k l k' l' ws := hm ▸ hI.move (hI.sc.drewN m) (grown_drewN _ m _); clear hm; have s1 := hI2.sc.c1; have s2 := hI2.sc.c2)
                go_quiet (fail)
                have hIq : EI w (w2.drewN nq) g f t k l k' l' ws := hI2.move (hI2.sc.drewN nq) (grown_drewN _ nq _)
                clear s1 s2 hI2
                generalize w2.drewN nq = wq at *
                have s3 := hIq.sc.c3
                obtain ⟨v, ⟨e0, e1, e2, ez⟩, ⟨r0, r1, r2, rz⟩, hown⟩ := hIq.c
                have z0 := rz 0
                have z1 := rz 1
                have z2 := rz 2
                have hsc := hide2 hIq.sc
                have hgr := hide2 hIq.gr
                clear hIq hown
                go_wp2_with (first | (go_at_call 15; refine (HB.out _).mono ?_; rintro e w2 ⟨rfl, rfl⟩) | (go_at_call 16; refine (HF.out _ hsc.out).mono ?_; rintro e w2 ⟨rfl, rfl⟩))
                try rw [Exit.noGoto_ret]
                obtain ⟨q0, q1, q2⟩ := three_set r0 r1 r2 (.int .i64 0) (.bool false) (.slice none 0 0)
                refine bodyPost_ret (v := .tuple #[.agg #[.int .i64 0, .bool false, .slice none 0 0], .iface 54 (errA f 2 l')]) (by simp [results, go_sem, q0, q1, q2]) rfl ?_
                rw [HQ.out]
                exact ⟨rfl, grown_far (grown_far (grown_far hgr.out (Nat.le_refl _) _ _) (Nat.le_refl _) _ _) (Nat.le_refl _) _ _⟩
            · have hy40 : ((y : Int) == 40) = false := by rw [beq_eq_false_iff_ne]; omega
              by_cases h41 : y = 41
              · subst h41
                by_cases ho : o = 0
                · subst ho
                  have HF := hide2 (fun (w : World) (h : Sc w g f t k' l') => fail_any g f t k' l' 2 l' w h)
                  have HQ : Hid (ent t k l 0 [] = .inl (2, l')) := by unfold Hid; rw [HR.out, ent, if_pos hlt2, if_neg (by rw [HY]; exact h10), if_neg (by rw [HY, hb]; simp), if_neg (by rw [HY]; decide), if_pos HY, if_pos rfl]
                  clear HY HR
                  go_wp2_with (go_at_call 12; refine (HMo1.out _ hI.sc).mono ?_; rintro e w2 ⟨rfl, m, hm⟩; have hI2 : EI w w2 g f t k l k' l' ws := hm ▸ hI.move (hI.sc.drewN m) (grown_drewN _ m _); clear hm; have s1 := hI2.sc.c1; have s2 := hI2.sc.c2)
                  go_quiet (fail)
                  have hIq : EI w (w2.drewN nq) g f t k l k' l' ws := hI2.move (hI2.sc.drewN nq) (grown_drewN _ nq _)
                  clear s1 s2 hI2
                  generalize w2.drewN nq = wq at *
                  have s3 := hIq.sc.c3
                  obtain ⟨v, ⟨e0, e1, e2, ez⟩, ⟨r0, r1, r2, rz⟩, hown⟩ := hIq.c
                  have z0 := rz 0
                  have z1 := rz 1
                  have z2 := rz 2
                  have hsc := hide2 hIq.sc
                  have hgr := hide2 hIq.gr
                  clear hIq hown
                  go_wp2_with (first | (go_at_call 15; refine (HB.out _).mono ?_; rintro e w2 ⟨rfl, rfl⟩) | (go_at_call 16; refine (HF.out _ hsc.out).mono ?_; rintro e w2 ⟨rfl, rfl⟩))
                  try rw [Exit.noGoto_ret]
                  obtain ⟨q0, q1, q2⟩ := three_set r0 r1 r2 (.int .i64 0) (.bool false) (.slice none 0 0)
                  refine bodyPost_ret (v := .tuple #[.agg #[.int .i64 0, .bool false, .slice none 0 0], .iface 54 (errA f 2 l')]) (by simp [results, go_sem, q0, q1, q2]) rfl ?_
                  rw [HQ.out]
                  exact ⟨rfl, grown_far (grown_far (grown_far hgr.out (Nat.le_refl _) _ _) (Nat.le_refl _) _ _) (Nat.le_refl _) _ _⟩
                · have ho1 : ((o : Int) == 0) = false := by rw [beq_eq_false_iff_ne]; omega
                  have ho2 : ((o : Int) != 0) = true := by rw [bne_iff_ne]; omega
                  have HQ : Hid (ent t k l 0 [] = ent t (k' + 1) l' 0 ws) := by unfold Hid; rw [HR.out, ent, if_pos hlt2, if_neg (by rw [HY]; exact h10), if_neg (by rw [HY, hb]; simp), if_neg (by rw [HY]; decide), if_pos HY, if_neg ho]
                  clear HY HR
                  go_wp2_with (go_at_call 12; refine (HMo1.out _ hI.sc).mono ?_; rintro e w2 ⟨rfl, m, hm⟩; have hI2 : EI w w2 g f t k l k' l' ws := hm ▸ hI.move (hI.sc.drewN m) (grown_drewN _ m _); clear hm; have s1 := hI2.sc.c1; have s2 := hI2.sc.c2)
                  go_quiet (fail)
                  have hIq : EI w (w2.drewN nq) g f t k l k' l' ws := hI2.move (hI2.sc.drewN nq) (grown_drewN _ nq _)
                  clear s1 s2 hI2
                  generalize w2.drewN nq = wq at *
                  obtain ⟨wA, hwA⟩ : ∃ wA, wq.setCell ⟨g, 2, none⟩ (.int .i64 ((k' : Int) + 1)) = wA := ⟨_, rfl⟩
                  have hIA : EI w wA g f t k l (k' + 1) l' ws := hwA ▸ hIq.move (hIq.sc.go (k' + 1) (by omega)) (grown_set _ _ _ _)
                  have s2 := hIq.sc.c2
                  have f2 := hIq.sc.free 2
                  have s3 := hIq.sc.c3
                  go_wp2_with (go_at_call 15; refine (HB.out _).mono ?_; rintro e w2 ⟨rfl, rfl⟩)
                  go_roundw
                  case rel => exact ⟨0, k' + 1, l', ws, rfl, by omega, by omega, by omega, by omega, by omega, by omega, HQ, hIA⟩
                  case measure => rw [HM.out, hIA.sc.c2]; simp; omega
              · have hy41 : ((y : Int) == 41) = false := by rw [beq_eq_false_iff_ne]; omega
                by_cases h59 : y = 59
                · subst h59
                  have hrl := rEnd_lt t k' hlt2 (by rw [HY]; decide)
                  have HQ : Hid (ent t k l 0 [] = ent t (rEnd t k') l' o ws) := by unfold Hid; rw [HR.out, ent, if_pos hlt2, if_neg (by rw [HY]; exact h10), if_neg (by rw [HY, hb]; simp), if_neg (by rw [HY]; decide), if_neg (by rw [HY]; decide), if_pos HY, if_pos hrl.1]
                  have HP := hide2 (fun (w : World) (h : Sc w g f t k' l') => passRemark_any g f t k' l' w h ht hk')
                  generalize rEnd t k' = k2 at *
                  clear HY HR
                  go_wp2_with (go_at_call 12; refine (HMo1.out _ hI.sc).mono ?_; rintro e w2 ⟨rfl, m, hm⟩; have hI2 : EI w w2 g f t k l k' l' ws := hm ▸ hI.move (hI.sc.drewN m) (grown_drewN _ m _); clear hm; have s1 := hI2.sc.c1; have s2 := hI2.sc.c2)
                  go_quiet (fail)
                  have hIq : EI w (w2.drewN nq) g f t k l k' l' ws := hI2.move (hI2.sc.drewN nq) (grown_drewN _ nq _)
                  clear s1 s2 hI2
                  generalize w2.drewN nq = wq at *
                  go_wp2_with (first | (go_at_call 15; refine (HB.out _).mono ?_; rintro e w2 ⟨rfl, rfl⟩) | (go_at_call 17; refine (HP.out _ hIq.sc).mono ?_; rintro e w3 ⟨rfl, hs3, hg3⟩; have hI3 := hIq.move hs3 hg3; clear hg3))
                  go_roundw
                  case rel => exact ⟨o, k2, l', ws, rfl, by omega, by omega, by omega, by omega, by omega, by omega, HQ, hI3⟩
                  case measure => rw [HM.out, hI3.sc.c2]; simp; omega
                · have hy59 : ((y : Int) == 59) = false := by rw [beq_eq_false_iff_ne]; omega
                  cases hw : tokW t k' with
                  | none =>
                    have HQ : Hid (ent t k l 0 [] = .inl (2, l')) := by unfold Hid; rw [HR.out, ent, if_pos hlt2, if_neg (by rw [HY]; exact h10), if_neg (by rw [HY, hb]; simp), if_neg (by rw [HY]; exact h40), if_neg (by rw [HY]; exact h41), if_neg (by rw [HY]; exact h59), hw]
                    have HW := hide2 (fun (w : World) (h : Sc w g f t k' l') => word_any g f t k' l' w h ht hlt2)
                    rw [hw] at HW
                    clear HY HR hw
                    go_wp2_with (go_at_call 12; refine (HMo1.out _ hI.sc).mono ?_; rintro e w2 ⟨rfl, m, hm⟩; have hI2 : EI w w2 g f t k l k' l' ws := hm ▸ hI.move (hI.sc.drewN m) (grown_drewN _ m _); clear hm; have s1 := hI2.sc.c1; have s2 := hI2.sc.c2)
                    go_quiet (fail)
                    have hIq : EI w (w2.drewN nq) g f t k l k' l' ws := hI2.move (hI2.sc.drewN nq) (grown_drewN _ nq _)
                    clear s1 s2 hI2
                    generalize w2.drewN nq = wq at *
                    go_wp2_with (first | (go_at_call 15; refine (HB.out _).mono ?_; rintro e w2 ⟨rfl, rfl⟩) | (go_at_call 18; refine (HW.out _ hIq.sc).mono ?_; rintro e w3 ⟨rfl, hg3⟩; obtain ⟨v, ⟨e0, e1, e2, ez⟩, ⟨r0, r1, r2, rz⟩, hown⟩ := hIq.c; have hgr := hide2 (grown_trans hIq.gr hg3); have r0' := cell_alloc_l (.cells #[.string ⟨#[]⟩, .bool false] 33) (far_cell hg3 (by omega) r0); have r1' := cell_alloc_l (.cells #[.string ⟨#[]⟩, .bool false] 33) (far_cell hg3 (by omega) r1); have r2' := cell_alloc_l (.cells #[.string ⟨#[]⟩, .bool false] 33) (far_cell hg3 (by omega) r2); have z0 := frozen_alloc_l (.cells #[.string ⟨#[]⟩, .bool false] 33) (far_cell hg3 (by omega) r0) (far_free hg3 (by omega) (by have := hIq.sz; omega) (rz 0)); have z1 := frozen_alloc_l (.cells #[.string ⟨#[]⟩, .bool false] 33) (far_cell hg3 (by omega) r1) (far_free hg3 (by omega) (by have := hIq.sz; omega) (rz 1)); have z2 := frozen_alloc_l (.cells #[.string ⟨#[]⟩, .bool false] 33) (far_cell hg3 (by omega) r2) (far_free hg3 (by omega) (by have := hIq.sz; omega) (rz 2)); clear hg3 hIq hown e0 e1 e2 ez r0 r1 r2 rz))
                    try rw [Exit.noGoto_ret]
                    obtain ⟨q0, q1, q2⟩ := three_set r0' r1' r2' (.int .i64 0) (.bool false) (.slice none 0 0)
                    refine bodyPost_ret (v := .tuple #[.agg #[.int .i64 0, .bool false, .slice none 0 0], .iface 54 (errA f 2 l')]) (by simp [results, go_sem, q0, q1, q2]) rfl ?_
                    rw [HQ.out]
                    exact ⟨rfl, grown_far (grown_far (grown_far (grown_trans hgr.out (World.grownBy_alloc _ _ _)) (Nat.le_refl _) _ _) (Nat.le_refl _) _ _) (Nat.le_refl _) _ _⟩
                  | some x =>
                    have hkx := tokW_lt (x := x.1) (e := x.2) hlt2 (show isStop (bt t k') = false ∨ bt t k' = 34 by rw [HY]; by_cases h34 : y = 34; exact .inr h34; left; simp [isStop, hb, h10, h40, h41, h59, h34]) hw
                    have HQ : Hid (ent t k l 0 [] = ent t x.2 l' o (ws ++ [x.1])) := by unfold Hid; rw [HR.out, ent, if_pos hlt2, if_neg (by rw [HY]; exact h10), if_neg (by rw [HY, hb]; simp), if_neg (by rw [HY]; exact h40), if_neg (by rw [HY]; exact h41), if_neg (by rw [HY]; exact h59), hw]; simp only [if_pos hkx.1]
                    have HW := hide2 (fun (w : World) (h : Sc w g f t k' l') => word_any g f t k' l' w h ht hlt2)
                    rw [hw] at HW
                    obtain ⟨⟨X, xq⟩, k2⟩ := x
                    clear HY HR hw
                    go_wp2_with (go_at_call 12; refine (HMo1.out _ hI.sc).mono ?_; rintro e w2 ⟨rfl, m, hm⟩; have hI2 : EI w w2 g f t k l k' l' ws := hm ▸ hI.move (hI.sc.drewN m) (grown_drewN _ m _); clear hm; have s1 := hI2.sc.c1; have s2 := hI2.sc.c2)
                    go_quiet (fail)
                    have hIq : EI w (w2.drewN nq) g f t k l k' l' ws := hI2.move (hI2.sc.drewN nq) (grown_drewN _ nq _)
                    clear s1 s2 hI2
                    generalize w2.drewN nq = wq at *
                    go_wp2_with (first | (go_at_call 15; refine (HB.out _).mono ?_; rintro e w2 ⟨rfl, rfl⟩) | (go_at_call 18; refine (HW.out _ hIq.sc).mono ?_; rintro e w3 ⟨rfl, hs3, hg3⟩; have hI3 := hIq.move hs3 hg3; obtain ⟨v, ⟨e0, e1, e2, ez⟩, _, hown⟩ := hI3.c; obtain ⟨p, cp, rfl, hnc, hcm, hnn⟩ := owns_shape2 hown; have HO := hide2 hown; have E2 := cell_alloc_l (.cells #[.string X, .bool xq] 33) e2; clear hg3 hs3 hIq hown) | (at_builtin; refine wpList_append_own _ rfl _ _ 29 rfl (w.heap.size + 2) 33 i0 (.agg #[.string ⟨#[]⟩, .bool false]) 2 24 Tryd.underlying29 hi hz0 hz1 hz2 rfl (by decide) _ _ _ rfl ((HO.out.alloc _).alloc _) ⟨w3.heap.size + 1, 0, none⟩ 1 1 [.string X, .bool xq] rfl rfl (cells_new (by simp) #[.string X, .bool xq] 33) (by simp [Value.oneCell']) (by unfold maxLen; omega) (by omega) (by have := hI3.sz; simp; omega) ?_; intro v6 w6 hown6 hgrow6 _; obtain ⟨p6, cp6, rfl, _, _, _⟩ := owns_shape2 hown6; obtain ⟨hI6, E6, F6⟩ := EI.push (x := ⟨X, xq⟩) hI3 rfl e2 HO.out hown6 hgrow6; clear hgrow6 hown6))
                    go_roundw
                    case rel => exact ⟨o, k2, l', ws ++ [⟨X, xq⟩], rfl, by omega, hkx.2, by omega, by omega, by omega, by simp; omega, HQ, hI6⟩
                    case measure => rw [HM.out, hI6.sc.c2]; simp; omega
      · have hd : decide (k' < t.size) = false := decide_eq_false hlt2
        rw [hd] at HMo1
        by_cases ho : o = 0
        · subst ho
          have HQ : Hid (ent t k l 0 [] = .inr ((k' + 1), (l' + 1), ws)) := by unfold Hid; rw [HR.out, ent, if_neg hlt2, if_pos rfl]
          clear HR
          go_wp2_with (go_at_call 12; refine (HMo1.out _ hI.sc).mono ?_; rintro e w2 ⟨rfl, m, hm⟩; have hIq : EI w w2 g f t k l k' l' ws := hm ▸ hI.move (hI.sc.drewN m) (grown_drewN _ m _); clear hm; obtain ⟨wA, hwA⟩ : ∃ wA, w2.setCell ⟨g, 2, none⟩ (.int .i64 ((k' : Int) + 1)) = wA := ⟨_, rfl⟩; have hIA : EI w wA g f t k l (k' + 1) l' ws := hwA ▸ hIq.move (hIq.sc.go (k' + 1) (by omega)) (grown_set _ _ _ _); obtain ⟨wB, hwB⟩ : ∃ wB, wA.setCell ⟨g, 3, none⟩ (.int .i64 ((l' : Int) + 1)) = wB := ⟨_, rfl⟩; have hIB : EI w wB g f t k l (k' + 1) (l' + 1) ws := hwB ▸ hIA.move (hIA.sc.ln (l' + 1) (by omega)) (grown_set _ _ _ _); have s2 := hIq.sc.c2; have f2 := hIq.sc.free 2; have s3 := hIA.sc.c3; have f3 := hIA.sc.free 3; obtain ⟨v, ⟨e0, e1, e2, ez⟩, ⟨r0, r1, r2, rz⟩, hown⟩ := hIB.c; obtain ⟨p, cp, rfl, hnc, hcm, hnn⟩ := owns_shape2 hown; have z0 := rz 0; have z1 := rz 1; have z2 := rz 2)
          try rw [Exit.noGoto_ret]
          obtain ⟨q0, q1, q2⟩ := three_set r0 r1 r2 (.int .i64 (l : Int)) (.bool (isBl (bt t k))) (.slice p ws.length cp)
          refine bodyPost_ret (v := .tuple #[.agg #[.int .i64 (l : Int), .bool (isBl (bt t k)), .slice p ws.length cp], .nilIface]) (by simp [results, go_sem, q0, q1, q2]) rfl ?_
          rw [HQ.out]
          refine ⟨p, cp, rfl, ?_, ?_, grown_far (grown_far (grown_far hIB.gr (Nat.le_refl _) _ _) (Nat.le_refl _) _ _) (Nat.le_refl _) _ _⟩
          · exact owns_base (ownsRow_setCell_below (ownsRow_setCell_below (ownsRow_setCell_below hown (by show w.heap.size < w.heap.size + 2; omega) _) (by show w.heap.size < w.heap.size + 2; omega) _) (by show w.heap.size < w.heap.size + 2; omega) _) (by omega)
          · exact (Below.heap_setCell _ _ _ g (by show g ≠ w.heap.size; omega)).trans ((Below.heap_setCell _ _ _ g (by show g ≠ w.heap.size; omega)).trans ((Below.heap_setCell _ _ _ g (by show g ≠ w.heap.size; omega)).trans hIB.sc))
        · have HQ : Hid (ent t k l 0 [] = .inl (10, o)) := by unfold Hid; rw [HR.out, ent, if_neg hlt2, if_neg ho]
          have ho1 : ((o : Int) == 0) = false := by rw [beq_eq_false_iff_ne]; omega
          have ho2 : ((o : Int) != 0) = true := by rw [bne_iff_ne]; omega
          have HF := hide2 (fun (w : World) (h : Sc w g f t k' l') => fail_any g f t k' l' 10 o w h)
          clear HR
          go_wp2_with (first | (go_at_call 12; refine (HMo1.out _ hI.sc).mono ?_; rintro e w2 ⟨rfl, m, hm⟩; have hIq : EI w w2 g f t k l k' l' ws := hm ▸ hI.move (hI.sc.drewN m) (grown_drewN _ m _); clear hm; obtain ⟨v, ⟨e0, e1, e2, ez⟩, ⟨r0, r1, r2, rz⟩, hown⟩ := hIq.c; have z0 := rz 0; have z1 := rz 1; have z2 := rz 2; have hsc := hide2 hIq.sc; have hgr := hide2 hIq.gr; clear hIq hown) | (go_at_call 16; refine (HF.out _ hsc.out).mono ?_; rintro e w4 ⟨rfl, rfl⟩))
          try rw [Exit.noGoto_ret]
          obtain ⟨q0, q1, q2⟩ := three_set r0 r1 r2 (.int .i64 0) (.bool false) (.slice none 0 0)
          refine bodyPost_ret (v := .tuple #[.agg #[.int .i64 0, .bool false, .slice none 0 0], .iface 54 (errA f 10 o)]) (by simp [results, go_sem, q0, q1, q2]) rfl ?_
          rw [HQ.out]
          exact ⟨rfl, grown_far (grown_far (grown_far hgr.out (Nat.le_refl _) _ _) (Nat.le_refl _) _ _) (Nat.le_refl _) _ _⟩
end Go.Proofs.YtclonjmhbgllkaaDoor
