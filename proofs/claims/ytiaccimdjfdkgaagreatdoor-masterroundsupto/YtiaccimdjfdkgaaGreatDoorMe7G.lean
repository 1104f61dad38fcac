import Derived.Test.YtiaccimdjfdkgaaGreatDoorMe1G
import Derived.Lib.SlFresh
namespace Go.Proofs.YtiaccimdjfdkgaaGreatDoor
set_option linter.unusedVariables false
open Go.RowKit Go.Shelf Go.Proofs.YtiaccimdjfdkgaaGreatDoor.Nm

theorem owns_shape2 {w : World} {base e size : Nat} {v : Value} {n : Nat} {xs : List Value} (h : w.ownsRow base e size v n xs) : ∃ p c, v = .slice p n c ∧ n ≤ c ∧ c ≤ maxLen ∧ (p = none → c = 0) := by
  obtain ⟨hl, (⟨rfl, rfl⟩ | ⟨g, cap, cur, rfl, hb, hg, hn, hcap, hsz, ht⟩)⟩ := h
  · exact ⟨none, 0, rfl, Nat.le_refl _, Nat.zero_le _, fun _ => rfl⟩
  · exact ⟨_, cap, rfl, hn, hcap, fun e => by cases e⟩

theorem owns_base {w : World} {base base' e size : Nat} {v : Value} {n : Nat} {xs : List Value} (h : w.ownsRow base e size v n xs) (hb : base' ≤ base) : w.ownsRow base' e size v n xs := by
  obtain ⟨hl, (h0 | ⟨g, cap, cur, rfl, hg, rest⟩)⟩ := h
  · exact ⟨hl, .inl h0⟩
  · exact ⟨hl, .inr ⟨g, cap, cur, rfl, Nat.le_trans hb hg, rest⟩⟩

set_option maxRecDepth 100000 in
set_option maxHeartbeats 8000000 in
theorem entry_any (g : Nat) (f t : ByteArray) (k l : Nat) (w : World) (h : Sc w g f t k l) (ht : t.size ≤ 1073741824) (hk : k < t.size) (hl : 1 ≤ l) (hl2 : l ≤ 1 + k) :
    Calls Tryz.prog 57 #[.pointer (some ⟨g, 0, none⟩)] w (entEnd (ent t k l 0 []) f t k l g w) := by
  have hlt := h.lt
  obtain ⟨w1, hw1⟩ : ∃ w1, w.alloc (.cells #[.int .i64 0, .bool false, .slice none 0 0] 82) = w1 := ⟨_, rfl⟩
  have h1 : Sc w1 g f t k l := hw1 ▸ h.alloc _
  have c1 := h1.c1
  have c2 := h1.c2
  have c3 := h1.c3
  obtain ⟨y, hy, HY, hyl⟩ := bt_wrap hk
  have HB := hide2 (fun (w : World) => isBlank_any y w hyl)
  have HE0 : Hid (EI w (w1.alloc (.cells #[.int .i64 (l : Int), .bool (isBl y), .slice none 0 0] 82)) g f t k l k l []) := by
    have hz : w1.heap.size = w.heap.size + 1 := by rw [← hw1]; simp
    have e0 := World.alloc_heap_new w (.cells entZ 82)
    have e1 := World.alloc_heap_new w1 (.cells #[.int .i64 (l : Int), .bool (isBl y), .slice none 0 0] 82)
    rw [hz] at e1
    refine ⟨h1.alloc _, ⟨_, by rw [HY]; exact e1, World.ownsRow_nil _ _ _ _⟩, ?_, ?_, hlt, by simp; omega⟩
    · refine grown_blk (World.grownBy_alloc w1 _ (some g)) (by omega) ?_
      rw [← hw1]; exact e0
    · rw [← hw1]; exact grown_transM (World.grownBy_alloc _ _ _) (World.grownBy_alloc _ _ _)
  have HR : Hid (w1.heap.size = w.heap.size + 1) := by unfold Hid; rw [← hw1]; simp
  go_enter Tryz.func57, Tryz.ntmps57
  go_wp2_with fail
  go_step3
  go_upto_region 1 with fail
  go_cut [4] from 9 (fun s4 wc => s4 = .pointer (some ⟨w.heap.size + 1, 0, none⟩) ∧ EI w wc g f t k l k l [])
  case first =>
    go_region_held3 (fun w' => w'.cell? ⟨g, 1, none⟩ = some (.string t) ∧ w'.cell? ⟨g, 2, none⟩ = some (.int .i64 (k : Int)) ∧ w'.cell? ⟨g, 3, none⟩ = some (.int .i64 (l : Int))) (first | go_keep) ((go_at_call 79; refine (HB.out _).mono ?_; rintro e w2 ⟨rfl, rfl⟩))
    all_goals
      go_wp2_with fail
      go_meet
      case rel => exact ⟨by rw [HR.out], HE0.out.move (HE0.out.sc.drewN 1) (grown_drewNM _ 1 _)⟩
  case rest =>
    clear HE0 HR hw1 h1 c1 c2 c3 HB hy hyl HY
    obtain ⟨rfl, hE⟩ := hcut
    obtain ⟨i0, hi, hz0, hz1, hz2⟩ := info_parts Tryz.infoWord
    have HMo := hide2 (fun (k l : Nat) (w : World) (h : Sc w g f t k l) => more_any g f t k l w h ht)
    go_wp2_with fail
    go_step3
    go_wp2_with fail
    go_loopw [5] (fun ov wr => ∃ (o k' l' : Nat) (ws : List Wd), ov = .int .i64 (o : Int) ∧ k ≤ k' ∧ k' ≤ t.size ∧ 1 ≤ l' ∧ l' ≤ 1 + k' ∧ o ≤ l' ∧ ws.length ≤ k' ∧ Hid (ent t k l 0 [] = ent t k' l' o ws) ∧ EI w wr g f t k l k' l' ws)
      (fun _ wr => t.size - (match wr.cell? ⟨g, 2, none⟩ with | some (.int _ n) => n.toNat | _ => 0))
    case atStart => exact ⟨0, k, l, [], rfl, Nat.le_refl _, by omega, hl, hl2, by omega, by simp, rfl, hE⟩
    case round =>
      clear hE
      obtain ⟨o, k', l', ws, rfl, hkk, hk', hl1, hl3, hol, hwl, HR, hI⟩ := hrel
      have HM := hide2 hI.sc.c2
      have HMo1 := hide2 (HMo.out k' l')
      by_cases hlt2 : k' < t.size
      · have hd : decide (k' < t.size) = true := decide_eq_true hlt2
        rw [hd] at HMo1
        obtain ⟨y, hy, HY, hyl⟩ := bt_wrap hlt2
        have HB := hide2 (fun (w : World) => isBlank_any y w hyl)
        by_cases h10 : y = 10
        · subst h10
          by_cases ho : o = 0
          · subst ho
            have HQ : Hid (ent t k l 0 [] = .inr ((k' + 1), (l' + 1), ws)) := by unfold Hid; rw [HR.out, ent, if_pos hlt2, if_pos HY, if_pos rfl]
            clear HY HR HB
            go_wp2_with (go_at_call 56; refine (HMo1.out _ hI.sc).mono ?_; rintro e w2 ⟨rfl, m, hm⟩; have hI2 : EI w w2 g f t k l k' l' ws := hm ▸ hI.move (hI.sc.drewN m) (grown_drewNM _ m _); clear hm; have s1 := hI2.sc.c1; have s2 := hI2.sc.c2)
            go_quiet (fail)
            have hIq : EI w (w2.drewN nq) g f t k l k' l' ws := hI2.move (hI2.sc.drewN nq) (grown_drewNM _ nq _)
            clear s1 s2 hI2
            generalize w2.drewN nq = wq at *
            obtain ⟨wA, hwA⟩ : ∃ wA, wq.setCell ⟨g, 2, none⟩ (.int .i64 ((k' : Int) + 1)) = wA := ⟨_, rfl⟩
            have hIA : EI w wA g f t k l (k' + 1) l' ws := hwA ▸ hIq.move (hIq.sc.go (k' + 1) (by omega)) (grown_setM _ _ _ _)
            obtain ⟨wB, hwB⟩ : ∃ wB, wA.setCell ⟨g, 3, none⟩ (.int .i64 ((l' : Int) + 1)) = wB := ⟨_, rfl⟩
            have hIB : EI w wB g f t k l (k' + 1) (l' + 1) ws := hwB ▸ hIA.move (hIA.sc.ln (l' + 1) (by omega)) (grown_setM _ _ _ _)
            have s2 := hIq.sc.c2
            have f2 := hIq.sc.free 2
            have s3 := hIA.sc.c3
            have f3 := hIA.sc.free 3
            obtain ⟨v, ⟨e0, e1, e2, ez⟩, ⟨r0, r1, r2, rz⟩, hown⟩ := hIB.c
            obtain ⟨p, cp, rfl, hnc, hcm, hnn⟩ := owns_shape2 hown
            have z0 := rz 0
            have z1 := rz 1
            have z2 := rz 2
            go_wp2_with fail
            try rw [Exit.noGoto_ret]
            obtain ⟨q0, q1, q2⟩ := three_set r0 r1 r2 (.int .i64 (l : Int)) (.bool (isBl (bt t k))) (.slice p ws.length cp)
            refine bodyPost_ret (v := .tuple #[.agg #[.int .i64 (l : Int), .bool (isBl (bt t k)), .slice p ws.length cp], .nilIface]) (by simp [results, go_sem, q0, q1, q2]) rfl ?_
            rw [HQ.out]
            refine ⟨p, cp, rfl, ?_, ?_, grown_far (grown_far (grown_far hIB.gr (Nat.le_refl _) _ _) (Nat.le_refl _) _ _) (Nat.le_refl _) _ _⟩
            · exact owns_base (ownsRow_setCell_below (ownsRow_setCell_below (ownsRow_setCell_below hown (by show w.heap.size < w.heap.size + 2; omega) _) (by show w.heap.size < w.heap.size + 2; omega) _) (by show w.heap.size < w.heap.size + 2; omega) _) (by omega)
            · exact (Below.heap_setCell _ _ _ g (by show g ≠ w.heap.size; omega)).trans ((Below.heap_setCell _ _ _ g (by show g ≠ w.heap.size; omega)).trans ((Below.heap_setCell _ _ _ g (by show g ≠ w.heap.size; omega)).trans hIB.sc))
          · have HQ : Hid (ent t k l 0 [] = ent t (k' + 1) (l' + 1) o ws) := by unfold Hid; rw [HR.out, ent, if_pos hlt2, if_pos HY, if_neg ho]
            have ho1 : ((o : Int) == 0) = false := by rw [beq_eq_false_iff_ne]; omega
            clear HY HR HB
            go_wp2_with (go_at_call 56; refine (HMo1.out _ hI.sc).mono ?_; rintro e w2 ⟨rfl, m, hm⟩; have hI2 : EI w w2 g f t k l k' l' ws := hm ▸ hI.move (hI.sc.drewN m) (grown_drewNM _ m _); clear hm; have s1 := hI2.sc.c1; have s2 := hI2.sc.c2)
            go_quiet (fail)
            have hIq : EI w (w2.drewN nq) g f t k l k' l' ws := hI2.move (hI2.sc.drewN nq) (grown_drewNM _ nq _)
            clear s1 s2 hI2
            generalize w2.drewN nq = wq at *
            obtain ⟨wA, hwA⟩ : ∃ wA, wq.setCell ⟨g, 3, none⟩ (.int .i64 ((l' : Int) + 1)) = wA := ⟨_, rfl⟩
            have hIA : EI w wA g f t k l k' (l' + 1) ws := hwA ▸ hIq.move (hIq.sc.ln (l' + 1) (by omega)) (grown_setM _ _ _ _)
            obtain ⟨wB, hwB⟩ : ∃ wB, wA.setCell ⟨g, 2, none⟩ (.int .i64 ((k' : Int) + 1)) = wB := ⟨_, rfl⟩
            have hIB : EI w wB g f t k l (k' + 1) (l' + 1) ws := hwB ▸ hIA.move (hIA.sc.go (k' + 1) (by omega)) (grown_setM _ _ _ _)
            have s3 := hIq.sc.c3
            have f3 := hIq.sc.free 3
            have s2 := hIA.sc.c2
            have f2 := hIA.sc.free 2
            go_wp2_with fail
            go_roundw
            case rel => exact ⟨o, k' + 1, l' + 1, ws, rfl, by omega, by omega, by omega, by omega, by omega, by omega, HQ, hIB⟩
            case measure => rw [HM.out, hIB.sc.c2]; simp; omega
        · have hy10 : ((y : Int) == 10) = false := by rw [beq_eq_false_iff_ne]; omega
          by_cases hbb : isBl y = true
          · have hb := hbb
            rw [hb] at HB
            clear hbb
            have HQ : Hid (ent t k l 0 [] = ent t (k' + 1) l' o ws) := by unfold Hid; rw [HR.out, ent, if_pos hlt2, if_neg (by rw [HY]; exact h10), if_pos (by rw [HY]; exact hb)]
            clear HY HR
            go_wp2_with (go_at_call 56; refine (HMo1.out _ hI.sc).mono ?_; rintro e w2 ⟨rfl, m, hm⟩; have hI2 : EI w w2 g f t k l k' l' ws := hm ▸ hI.move (hI.sc.drewN m) (grown_drewNM _ m _); clear hm; have s1 := hI2.sc.c1; have s2 := hI2.sc.c2)
            go_quiet (fail)
            have hIq : EI w (w2.drewN nq) g f t k l k' l' ws := hI2.move (hI2.sc.drewN nq) (grown_drewNM _ nq _)
            clear s1 s2 hI2
            generalize w2.drewN nq = wq at *
            obtain ⟨wA, hwA⟩ : ∃ wA, wq.setCell ⟨g, 2, none⟩ (.int .i64 ((k' : Int) + 1)) = wA := ⟨_, rfl⟩
            have hIA : EI w wA g f t k l (k' + 1) l' ws := hwA ▸ hIq.move (hIq.sc.go (k' + 1) (by omega)) (grown_setM _ _ _ _)
            have s2 := hIq.sc.c2
            have f2 := hIq.sc.free 2
            have s3 := hIq.sc.c3
            go_wp2_with (go_at_call 79; refine (HB.out _).mono ?_; rintro e w2 ⟨rfl, rfl⟩)
            go_roundw
            case rel => exact ⟨o, k' + 1, l', ws, rfl, by omega, by omega, by omega, by omega, by omega, by omega, HQ, hIA⟩
            case measure => rw [HM.out, hIA.sc.c2]; simp; omega
          · have hb : isBl y = false := by simpa using hbb
            rw [hb] at HB
            clear hbb
            by_cases h40 : y = 40
            · subst h40
              by_cases ho : o = 0
              · subst ho
                have HQ : Hid (ent t k l 0 [] = ent t (k' + 1) l' l' ws) := by unfold Hid; rw [HR.out, ent, if_pos hlt2, if_neg (by rw [HY]; exact h10), if_neg (by rw [HY, hb]; simp), if_pos HY, if_pos rfl]
                clear HY HR
                go_wp2_with (go_at_call 56; refine (HMo1.out _ hI.sc).mono ?_; rintro e w2 ⟨rfl, m, hm⟩; have hI2 : EI w w2 g f t k l k' l' ws := hm ▸ hI.move (hI.sc.drewN m) (grown_drewNM _ m _); clear hm; have s1 := hI2.sc.c1; have s2 := hI2.sc.c2)
                go_quiet (fail)
                have hIq : EI w (w2.drewN nq) g f t k l k' l' ws := hI2.move (hI2.sc.drewN nq) (grown_drewNM _ nq _)
                clear s1 s2 hI2
                generalize w2.drewN nq = wq at *
                obtain ⟨wA, hwA⟩ : ∃ wA, wq.setCell ⟨g, 2, none⟩ (.int .i64 ((k' : Int) + 1)) = wA := ⟨_, rfl⟩
                have hIA : EI w wA g f t k l (k' + 1) l' ws := hwA ▸ hIq.move (hIq.sc.go (k' + 1) (by omega)) (grown_setM _ _ _ _)
                have s2 := hIq.sc.c2
                have f2 := hIq.sc.free 2
                have s3 := hIq.sc.c3
                go_wp2_with (go_at_call 79; refine (HB.out _).mono ?_; rintro e w2 ⟨rfl, rfl⟩)
                go_roundw
                case rel => exact ⟨l', k' + 1, l', ws, rfl, by omega, by omega, by omega, by omega, by omega, by omega, HQ, hIA⟩
                case measure => rw [HM.out, hIA.sc.c2]; simp; omega
              · have ho1 : ((o : Int) == 0) = false := by rw [beq_eq_false_iff_ne]; omega
                have ho2 : ((o : Int) != 0) = true := by rw [bne_iff_ne]; omega
                have HF := hide2 (fun (w : World) (h : Sc w g f t k' l') => fail_any g f t k' l' 2 l' w h)
                have HQ : Hid (ent t k l 0 [] = .inl (2, l')) := by unfold Hid; rw [HR.out, ent, if_pos hlt2, if_neg (by rw [HY]; exact h10), if_neg (by rw [HY, hb]; simp), if_pos HY, if_neg ho]
                clear HY HR
                go_wp2_with (go_at_call 56; refine (HMo1.out _ hI.sc).mono ?_; rintro e w2 ⟨rfl, m, hm⟩; have hI2 : EI w w2 g f t k l k' l' ws := hm ▸ hI.move (hI.sc.drewN m) (grown_drewNM _ m _); clear hm; have s1 := hI2.sc.c1; have s2 := hI2.sc.c2)
                go_quiet (fail)
                have hIq : EI w (w2.drewN nq) g f t k l k' l' ws := hI2.move (hI2.sc.drewN nq) (grown_drewNM _ nq _)
                clear s1 s2 hI2
                generalize w2.drewN nq = wq at *
                have s3 := hIq.sc.c3
                obtain ⟨v, ⟨e0, e1, e2, ez⟩, ⟨r0, r1, r2, rz⟩, hown⟩ := hIq.c
                have z0 := rz 0
                have z1 := rz 1
                have z2 := rz 2
                have hsc := hide2 hIq.sc
                have hgr := hide2 hIq.gr
                clear hIq hown
                go_wp2_with (first | (go_at_call 79; refine (HB.out _).mono ?_; rintro e w2 ⟨rfl, rfl⟩) | (go_at_call 80; refine (HF.out _ hsc.out).mono ?_; rintro e w2 ⟨rfl, rfl⟩))
                try rw [Exit.noGoto_ret]
                obtain ⟨q0, q1, q2⟩ := three_set r0 r1 r2 (.int .i64 0) (.bool false) (.slice none 0 0)
                refine bodyPost_ret (v := .tuple #[.agg #[.int .i64 0, .bool false, .slice none 0 0], .iface 71 (errA f 2 l')]) (by simp [results, go_sem, q0, q1, q2]) rfl ?_
                rw [HQ.out]
                exact ⟨rfl, grown_far (grown_far (grown_far hgr.out (Nat.le_refl _) _ _) (Nat.le_refl _) _ _) (Nat.le_refl _) _ _⟩
            · have hy40 : ((y : Int) == 40) = false := by rw [beq_eq_false_iff_ne]; omega
              by_cases h41 : y = 41
              · subst h41
                by_cases ho : o = 0
                · subst ho
                  have HF := hide2 (fun (w : World) (h : Sc w g f t k' l') => fail_any g f t k' l' 2 l' w h)
                  have HQ : Hid (ent t k l 0 [] = .inl (2, l')) := by unfold Hid; rw [HR.out, ent, if_pos hlt2, if_neg (by rw [HY]; exact h10), if_neg (by rw [HY, hb]; simp), if_neg (by rw [HY]; decide), if_pos HY, if_pos rfl]
                  clear HY HR
                  go_wp2_with (go_at_call 56; refine (HMo1.out _ hI.sc).mono ?_; rintro e w2 ⟨rfl, m, hm⟩; have hI2 : EI w w2 g f t k l k' l' ws := hm ▸ hI.move (hI.sc.drewN m) (grown_drewNM _ m _); clear hm; have s1 := hI2.sc.c1; have s2 := hI2.sc.c2)
                  go_quiet (fail)
                  have hIq : EI w (w2.drewN nq) g f t k l k' l' ws := hI2.move (hI2.sc.drewN nq) (grown_drewNM _ nq _)
                  clear s1 s2 hI2
                  generalize w2.drewN nq = wq at *
                  have s3 := hIq.sc.c3
                  obtain ⟨v, ⟨e0, e1, e2, ez⟩, ⟨r0, r1, r2, rz⟩, hown⟩ := hIq.c
                  have z0 := rz 0
                  have z1 := rz 1
                  have z2 := rz 2
                  have hsc := hide2 hIq.sc
                  have hgr := hide2 hIq.gr
                  clear hIq hown
                  go_wp2_with (first | (go_at_call 79; refine (HB.out _).mono ?_; rintro e w2 ⟨rfl, rfl⟩) | (go_at_call 80; refine (HF.out _ hsc.out).mono ?_; rintro e w2 ⟨rfl, rfl⟩))
                  try rw [Exit.noGoto_ret]
                  obtain ⟨q0, q1, q2⟩ := three_set r0 r1 r2 (.int .i64 0) (.bool false) (.slice none 0 0)
                  refine bodyPost_ret (v := .tuple #[.agg #[.int .i64 0, .bool false, .slice none 0 0], .iface 71 (errA f 2 l')]) (by simp [results, go_sem, q0, q1, q2]) rfl ?_
                  rw [HQ.out]
                  exact ⟨rfl, grown_far (grown_far (grown_far hgr.out (Nat.le_refl _) _ _) (Nat.le_refl _) _ _) (Nat.le_refl _) _ _⟩
                · have ho1 : ((o : Int) == 0) = false := by rw [beq_eq_false_iff_ne]; omega
                  have ho2 : ((o : Int) != 0) = true := by rw [bne_iff_ne]; omega
                  have HQ : Hid (ent t k l 0 [] = ent t (k' + 1) l' 0 ws) := by unfold Hid; rw [HR.out, ent, if_pos hlt2, if_neg (by rw [HY]; exact h10), if_neg (by rw [HY, hb]; simp), if_neg (by rw [HY]; decide), if_pos HY, if_neg ho]
                  clear HY HR
                  go_wp2_with (go_at_call 56; refine (HMo1.out _ hI.sc).mono ?_; rintro e w2 ⟨rfl, m, hm⟩; have hI2 : EI w w2 g f t k l k' l' ws := hm ▸ hI.move (hI.sc.drewN m) (grown_drewNM _ m _); clear hm; have s1 := hI2.sc.c1; have s2 := hI2.sc.c2)
                  go_quiet (fail)
                  have hIq : EI w (w2.drewN nq) g f t k l k' l' ws := hI2.move (hI2.sc.drewN nq) (grown_drewNM _ nq _)
                  clear s1 s2 hI2
                  generalize w2.drewN nq = wq at *
                  obtain ⟨wA, hwA⟩ : ∃ wA, wq.setCell ⟨g, 2, none⟩ (.int .i64 ((k' : Int) + 1)) = wA := ⟨_, rfl⟩
                  have hIA : EI w wA g f t k l (k' + 1) l' ws := hwA ▸ hIq.move (hIq.sc.go (k' + 1) (by omega)) (grown_setM _ _ _ _)
                  have s2 := hIq.sc.c2
                  have f2 := hIq.sc.free 2
                  have s3 := hIq.sc.c3
                  go_wp2_with (go_at_call 79; refine (HB.out _).mono ?_; rintro e w2 ⟨rfl, rfl⟩)
                  go_roundw
                  case rel => exact ⟨0, k' + 1, l', ws, rfl, by omega, by omega, by omega, by omega, by omega, by omega, HQ, hIA⟩
                  case measure => rw [HM.out, hIA.sc.c2]; simp; omega
              · have hy41 : ((y : Int) == 41) = false := by rw [beq_eq_false_iff_ne]; omega
                by_cases h59 : y = 59
                · subst h59
                  have hrl := rEnd_lt t k' hlt2 (by rw [HY]; decide)
                  have HQ : Hid (ent t k l 0 [] = ent t (rEnd t k') l' o ws) := by unfold Hid; rw [HR.out, ent, if_pos hlt2, if_neg (by rw [HY]; exact h10), if_neg (by rw [HY, hb]; simp), if_neg (by rw [HY]; decide), if_neg (by rw [HY]; decide), if_pos HY, if_pos hrl.1]
                  have HP := hide2 (fun (w : World) (h : Sc w g f t k' l') => passRemark_any g f t k' l' w h ht hk')
                  generalize rEnd t k' = k2 at *
                  clear HY HR
                  go_wp2_with (go_at_call 56; refine (HMo1.out _ hI.sc).mono ?_; rintro e w2 ⟨rfl, m, hm⟩; have hI2 : EI w w2 g f t k l k' l' ws := hm ▸ hI.move (hI.sc.drewN m) (grown_drewNM _ m _); clear hm; have s1 := hI2.sc.c1; have s2 := hI2.sc.c2)
                  go_quiet (fail)
                  have hIq : EI w (w2.drewN nq) g f t k l k' l' ws := hI2.move (hI2.sc.drewN nq) (grown_drewNM _ nq _)
                  clear s1 s2 hI2
                  generalize w2.drewN nq = wq at *
                  go_wp2_with (first | (go_at_call 79; refine (HB.out _).mono ?_; rintro e w2 ⟨rfl, rfl⟩) | (go_at_call 81; refine (HP.out _ hIq.sc).mono ?_; rintro e w3 ⟨rfl, hs3, hg3⟩; have hI3 := hIq.move hs3 hg3; clear hg3))
                  go_roundw
                  case rel => exact ⟨o, k2, l', ws, rfl, by omega, by omega, by omega, by omega, by omega, by omega, HQ, hI3⟩
                  case measure => rw [HM.out, hI3.sc.c2]; simp; omega
                · have hy59 : ((y : Int) == 59) = false := by rw [beq_eq_false_iff_ne]; omega
                  cases hw : tokW t k' with
                  | none =>
                    have HQ : Hid (ent t k l 0 [] = .inl (2, l')) := by unfold Hid; rw [HR.out, ent, if_pos hlt2, if_neg (by rw [HY]; exact h10), if_neg (by rw [HY, hb]; simp), if_neg (by rw [HY]; exact h40), if_neg (by rw [HY]; exact h41), if_neg (by rw [HY]; exact h59), hw]
                    have HW := hide2 (fun (w : World) (h : Sc w g f t k' l') => word_any g f t k' l' w h ht hlt2)
                    rw [hw] at HW
                    clear HY HR hw
                    go_wp2_with (go_at_call 56; refine (HMo1.out _ hI.sc).mono ?_; rintro e w2 ⟨rfl, m, hm⟩; have hI2 : EI w w2 g f t k l k' l' ws := hm ▸ hI.move (hI.sc.drewN m) (grown_drewNM _ m _); clear hm; have s1 := hI2.sc.c1; have s2 := hI2.sc.c2)
                    go_quiet (fail)
                    have hIq : EI w (w2.drewN nq) g f t k l k' l' ws := hI2.move (hI2.sc.drewN nq) (grown_drewNM _ nq _)
                    clear s1 s2 hI2
                    generalize w2.drewN nq = wq at *
                    go_wp2_with (first | (go_at_call 79; refine (HB.out _).mono ?_; rintro e w2 ⟨rfl, rfl⟩) | (go_at_call 82; refine (HW.out _ hIq.sc).mono ?_; rintro e w3 ⟨rfl, hg3⟩; obtain ⟨v, ⟨e0, e1, e2, ez⟩, ⟨r0, r1, r2, rz⟩, hown⟩ := hIq.c; have hgr := hide2 (grown_transM hIq.gr hg3); have r0' := cell_alloc_lM (.cells #[.string ⟨#[]⟩, .bool false] 121) (far_cell hg3 (by omega) r0); have r1' := cell_alloc_lM (.cells #[.string ⟨#[]⟩, .bool false] 121) (far_cell hg3 (by omega) r1); have r2' := cell_alloc_lM (.cells #[.string ⟨#[]⟩, .bool false] 121) (far_cell hg3 (by omega) r2); have z0 := frozen_alloc_lM (.cells #[.string ⟨#[]⟩, .bool false] 121) (far_cell hg3 (by omega) r0) (far_free hg3 (by omega) (by have := hIq.sz; omega) (rz 0)); have z1 := frozen_alloc_lM (.cells #[.string ⟨#[]⟩, .bool false] 121) (far_cell hg3 (by omega) r1) (far_free hg3 (by omega) (by have := hIq.sz; omega) (rz 1)); have z2 := frozen_alloc_lM (.cells #[.string ⟨#[]⟩, .bool false] 121) (far_cell hg3 (by omega) r2) (far_free hg3 (by omega) (by have := hIq.sz; omega) (rz 2)); clear hg3 hIq hown e0 e1 e2 ez r0 r1 r2 rz))
                    try rw [Exit.noGoto_ret]
                    obtain ⟨q0, q1, q2⟩ := three_set r0' r1' r2' (.int .i64 0) (.bool false) (.slice none 0 0)
                    refine bodyPost_ret (v := .tuple #[.agg #[.int .i64 0, .bool false, .slice none 0 0], .iface 71 (errA f 2 l')]) (by simp [results, go_sem, q0, q1, q2]) rfl ?_
                    rw [HQ.out]
                    exact ⟨rfl, grown_far (grown_far (grown_far (grown_transM hgr.out (World.grownBy_alloc _ _ _)) (Nat.le_refl _) _ _) (Nat.le_refl _) _ _) (Nat.le_refl _) _ _⟩
                  | some x =>
                    have hkx := tokW_lt (x := x.1) (e := x.2) hlt2 (show isStop (bt t k') = false ∨ bt t k' = 34 by rw [HY]; by_cases h34 : y = 34; exact .inr h34; left; simp [isStop, hb, h10, h40, h41, h59, h34]) hw
                    have HQ : Hid (ent t k l 0 [] = ent t x.2 l' o (ws ++ [x.1])) := by unfold Hid; rw [HR.out, ent, if_pos hlt2, if_neg (by rw [HY]; exact h10), if_neg (by rw [HY, hb]; simp), if_neg (by rw [HY]; exact h40), if_neg (by rw [HY]; exact h41), if_neg (by rw [HY]; exact h59), hw]; simp only [if_pos hkx.1]
                    have HW := hide2 (fun (w : World) (h : Sc w g f t k' l') => word_any g f t k' l' w h ht hlt2)
                    rw [hw] at HW
                    obtain ⟨⟨X, xq⟩, k2⟩ := x
                    clear HY HR hw
                    go_wp2_with (go_at_call 56; refine (HMo1.out _ hI.sc).mono ?_; rintro e w2 ⟨rfl, m, hm⟩; have hI2 : EI w w2 g f t k l k' l' ws := hm ▸ hI.move (hI.sc.drewN m) (grown_drewNM _ m _); clear hm; have s1 := hI2.sc.c1; have s2 := hI2.sc.c2)
                    go_quiet (fail)
                    have hIq : EI w (w2.drewN nq) g f t k l k' l' ws := hI2.move (hI2.sc.drewN nq) (grown_drewNM _ nq _)
                    clear s1 s2 hI2
                    generalize w2.drewN nq = wq at *
                    go_wp2_with (first | (go_at_call 79; refine (HB.out _).mono ?_; rintro e w2 ⟨rfl, rfl⟩) | (go_at_call 82; refine (HW.out _ hIq.sc).mono ?_; rintro e w3 ⟨rfl, hs3, hg3⟩; have hI3 := hIq.move hs3 hg3; obtain ⟨v, ⟨e0, e1, e2, ez⟩, _, hown⟩ := hI3.c; obtain ⟨p, cp, rfl, hnc, hcm, hnn⟩ := owns_shape2 hown; have HO := hide2 hown; have E2 := cell_alloc_lM (.cells #[.string X, .bool xq] 121) e2; clear hg3 hs3 hIq hown) | (at_builtin; refine wpList_append_own _ rfl _ _ 80 rfl (w.heap.size + 2) 121 i0 (.agg #[.string ⟨#[]⟩, .bool false]) 2 24 Tryz.underlying80 hi hz0 hz1 hz2 rfl (by decide) _ _ _ rfl ((HO.out.alloc _).alloc _) ⟨w3.heap.size + 1, 0, none⟩ 1 1 [.string X, .bool xq] rfl rfl (cells_new (by simp) #[.string X, .bool xq] 121) (by simp [Value.oneCell']) (by unfold maxLen; omega) (by omega) (by have := hI3.sz; simp; omega) ?_; intro v6 w6 hown6 hgrow6 _; obtain ⟨p6, cp6, rfl, _, _, _⟩ := owns_shape2 hown6; obtain ⟨hI6, E6, F6⟩ := EI.push (x := ⟨X, xq⟩) hI3 rfl e2 HO.out hown6 hgrow6; clear hgrow6 hown6))
                    go_roundw
                    case rel => exact ⟨o, k2, l', ws ++ [⟨X, xq⟩], rfl, by omega, hkx.2, by omega, by omega, by omega, by simp; omega, HQ, hI6⟩
                    case measure => rw [HM.out, hI6.sc.c2]; simp; omega
      · have hd : decide (k' < t.size) = false := decide_eq_false hlt2
        rw [hd] at HMo1
        by_cases ho : o = 0
        · subst ho
          have HQ : Hid (ent t k l 0 [] = .inr ((k' + 1), (l' + 1), ws)) := by unfold Hid; rw [HR.out, ent, if_neg hlt2, if_pos rfl]
          clear HR
          go_wp2_with (go_at_call 56; refine (HMo1.out _ hI.sc).mono ?_; rintro e w2 ⟨rfl, m, hm⟩; have hIq : EI w w2 g f t k l k' l' ws := hm ▸ hI.move (hI.sc.drewN m) (grown_drewNM _ m _); clear hm; obtain ⟨wA, hwA⟩ : ∃ wA, w2.setCell ⟨g, 2, none⟩ (.int .i64 ((k' : Int) + 1)) = wA := ⟨_, rfl⟩; have hIA : EI w wA g f t k l (k' + 1) l' ws := hwA ▸ hIq.move (hIq.sc.go (k' + 1) (by omega)) (grown_setM _ _ _ _); obtain ⟨wB, hwB⟩ : ∃ wB, wA.setCell ⟨g, 3, none⟩ (.int .i64 ((l' : Int) + 1)) = wB := ⟨_, rfl⟩; have hIB : EI w wB g f t k l (k' + 1) (l' + 1) ws := hwB ▸ hIA.move (hIA.sc.ln (l' + 1) (by omega)) (grown_setM _ _ _ _); have s2 := hIq.sc.c2; have f2 := hIq.sc.free 2; have s3 := hIA.sc.c3; have f3 := hIA.sc.free 3; obtain ⟨v, ⟨e0, e1, e2, ez⟩, ⟨r0, r1, r2, rz⟩, hown⟩ := hIB.c; obtain ⟨p, cp, rfl, hnc, hcm, hnn⟩ := owns_shape2 hown; have z0 := rz 0; have z1 := rz 1; have z2 := rz 2)
          try rw [Exit.noGoto_ret]
          obtain ⟨q0, q1, q2⟩ := three_set r0 r1 r2 (.int .i64 (l : Int)) (.bool (isBl (bt t k))) (.slice p ws.length cp)
          refine bodyPost_ret (v := .tuple #[.agg #[.int .i64 (l : Int), .bool (isBl (bt t k)), .slice p ws.length cp], .nilIface]) (by simp [results, go_sem, q0, q1, q2]) rfl ?_
          rw [HQ.out]
          refine ⟨p, cp, rfl, ?_, ?_, grown_far (grown_far (grown_far hIB.gr (Nat.le_refl _) _ _) (Nat.le_refl _) _ _) (Nat.le_refl _) _ _⟩
          · exact owns_base (ownsRow_setCell_below (ownsRow_setCell_below (ownsRow_setCell_below hown (by show w.heap.size < w.heap.size + 2; omega) _) (by show w.heap.size < w.heap.size + 2; omega) _) (by show w.heap.size < w.heap.size + 2; omega) _) (by omega)
          · exact (Below.heap_setCell _ _ _ g (by show g ≠ w.heap.size; omega)).trans ((Below.heap_setCell _ _ _ g (by show g ≠ w.heap.size; omega)).trans ((Below.heap_setCell _ _ _ g (by show g ≠ w.heap.size; omega)).trans hIB.sc))
        · have HQ : Hid (ent t k l 0 [] = .inl (10, o)) := by unfold Hid; rw [HR.out, ent, if_neg hlt2, if_neg ho]
          have ho1 : ((o : Int) == 0) = false := by rw [beq_eq_false_iff_ne]; omega
          have ho2 : ((o : Int) != 0) = true := by rw [bne_iff_ne]; omega
          have HF := hide2 (fun (w : World) (h : Sc w g f t k' l') => fail_any g f t k' l' 10 o w h)
          clear HR
          go_wp2_with (first | (go_at_call 56; refine (HMo1.out _ hI.sc).mono ?_; rintro e w2 ⟨rfl, m, hm⟩; have hIq : EI w w2 g f t k l k' l' ws := hm ▸ hI.move (hI.sc.drewN m) (grown_drewNM _ m _); clear hm; obtain ⟨v, ⟨e0, e1, e2, ez⟩, ⟨r0, r1, r2, rz⟩, hown⟩ := hIq.c; have z0 := rz 0; have z1 := rz 1; have z2 := rz 2; have hsc := hide2 hIq.sc; have hgr := hide2 hIq.gr; clear hIq hown) | (go_at_call 80; refine (HF.out _ hsc.out).mono ?_; rintro e w4 ⟨rfl, rfl⟩))
          try rw [Exit.noGoto_ret]
          obtain ⟨q0, q1, q2⟩ := three_set r0 r1 r2 (.int .i64 0) (.bool false) (.slice none 0 0)
          refine bodyPost_ret (v := .tuple #[.agg #[.int .i64 0, .bool false, .slice none 0 0], .iface 71 (errA f 10 o)]) (by simp [results, go_sem, q0, q1, q2]) rfl ?_
          rw [HQ.out]
          exact ⟨rfl, grown_far (grown_far (grown_far hgr.out (Nat.le_refl _) _ _) (Nat.le_refl _) _ _) (Nat.le_refl _) _ _⟩
end Go.Proofs.YtiaccimdjfdkgaaGreatDoor

namespace Go.Proofs.YtiaccimdjfdkgaaGreatDoor
set_option linter.unusedVariables false
open Go.RowKit Go.Shelf Go.Proofs.YtiaccimdjfdkgaaGreatDoor.Nm

/-- where a row lies behind an append: where it lay, or at a new place -/
theorem run_append_placeM {P : Program} (w : World) (base : Nat) (t ty e : TypeId) (i : TypeInfo) (z : Value) (size bytes : Nat) (ht : P.underlying t = some (.slice e)) (hi : P.info? e = some i) (hz : i.zero = some z)
    (hsize : i.size = size) (hby : i.bytes = bytes) (hzs : z.cells.size = size) (hsz : 0 < size)
    (v : Value) (n : Nat) (xs : List Value) (hown : w.ownsRow base e size v n xs)
    (a : Addr) (m c : Nat) (news : List Value) (hl : news.length = m * size) (hnews : ∀ j u, news[j]? = some u → w.cell? (a.add j) = some u) (h1 : ∀ u ∈ news, u.oneCell' = true)
    (h63 : n + m ≤ maxLen) (hbytes : (n + m) * bytes ≤ 140737488355328) (hbase : base ≤ w.heap.size) :
    ∃ v' w', (Builtin.append_ #[t, t] ty #[v, .slice (some a) m c]).run P w = .ok v' w' ∧ w'.ownsRow base e size v' (n + m) (xs ++ news) ∧ w.grownBy w' v.ownBlock ∧
      (v'.ownBlock = v.ownBlock ∨ v'.ownBlock = some w.heap.size) := by
  obtain ⟨v', w', hr, h2, h3, h4⟩ := run_append_own (P := P) w base t ty e i z size bytes ht hi hz hsize hby hzs hsz v n xs hown a m c news hl hnews h1 h63 hbytes hbase
  refine ⟨v', w', hr, h2, h3, ?_⟩
  subst hsize
  subst hby
  have hsmall : n + m ≤ 9223372036854775807 := by simp only [maxLen] at h63; omega
  rcases hown.2 with ⟨rfl, rfl⟩ | ⟨g, cap, cur, rfl, hbg, hg, hnc, hcm, hcs, htake⟩
  · by_cases hm : m = 0
    · rw [h4.2 ⟨rfl, hm⟩]; exact .inl rfl
    · rw [run_append_nil (P := P) w t ty e i z ht hi hz a m c news hl hnews (by omega) (by omega) (by have hb := hbytes; simp only [Nat.zero_add] at hb; omega)] at hr
      injection hr with hr1 hr2
      rw [← hr1]; exact .inr rfl
  · by_cases hroom : n + m ≤ cap
    · rw [run_append_room (P := P) w t ty e i ht hi g n cap cur hg a m c news hl hnews h1 hroom (by rw [hl, hcs, ← Nat.add_mul]; exact Nat.mul_le_mul_right _ hroom)] at hr
      injection hr with hr1 hr2
      rw [← hr1]; exact .inl rfl
    · rw [run_append_grow (P := P) w t ty e i z ht hi hz ⟨g, 0, none⟩ n cap xs hown.1 (hown.cells (g := g) rfl) a m c news hl hnews (by omega) (by omega) (growslice_fits (by omega) hbytes)] at hr
      injection hr with hr1 hr2
      rw [← hr1]; exact .inr rfl
/-- .. for the walk -/
theorem wpList_append_apartM {P : Program} (w : World) {ops : Array Oper} {rest : List Oper} {o : Oper} {a : Act} {Q : Exit → Act → World → Prop} (hgd : o.guard = none) (s x : Operand) (t : TypeId)
    (ho : o.op = .call { callee := .builtin .append, args := #[s, x], argTypes := #[t, t] })
    (base : Nat) (e : TypeId) (i : TypeInfo) (z : Value) (size bytes : Nat) (ht : P.underlying t = some (.slice e)) (hi : P.info? e = some i) (hz : i.zero = some z)
    (hsize : i.size = size) (hby : i.bytes = bytes) (hzs : z.cells.size = size) (hsz : 0 < size)
    (v : Value) (n : Nat) (xs : List Value) (hs : a.eval s = v) (hown : w.ownsRow base e size v n xs)
    (ad : Addr) (m c : Nat) (news : List Value) (hx : a.eval x = .slice (some ad) m c) (hl : news.length = m * size) (hnews : ∀ j u, news[j]? = some u → w.cell? (ad.add j) = some u) (h1 : ∀ u ∈ news, u.oneCell' = true)
    (h63 : n + m ≤ maxLen) (hbytes : (n + m) * bytes ≤ 140737488355328) (hbase : base ≤ w.heap.size)
    (h : ∀ v' w', w'.ownsRow base e size v' (n + m) (xs ++ news) → w.grownBy w' v.ownBlock → (v'.ownBlock = v.ownBlock ∨ v'.ownBlock = some w.heap.size) → wpList P ops Q rest (a.put o.dst v') w') : wpList P ops Q (o :: rest) a w := by
  obtain ⟨v', w', hr, h2, h3, h4⟩ := run_append_placeM (P := P) w base t o.type e i z size bytes ht hi hz hsize hby hzs hsz v n xs hown ad m c news hl hnews h1 h63 hbytes hbase
  exact Go.Lib.wpList_append_run_sl w hgd s x t ho v _ hs hx hr (h v' w' h2 h3 h4)

/-- an entry, the block of its words and their room -/
abbrev Ez := En × Nat × Nat
def encE (z : Ez) : List Value := [.int .i64 (z.1.l : Int), .bool z.1.b, .slice (some ⟨z.2.1, 0, none⟩) z.1.ws.length z.2.2]
def ecells (Z : List Ez) : List Value := Z.flatMap encE
theorem ecells_app (Z : List Ez) (z : Ez) : ecells (Z ++ [z]) = ecells Z ++ encE z := by simp [ecells]
def WR (w : World) (base : Nat) (z : Ez) : Prop := w.ownsRow base 121 2 (.slice (some ⟨z.2.1, 0, none⟩) z.1.ws.length z.2.2) z.1.ws.length (wcells z.1.ws)
theorem WR.lt {w : World} {base : Nat} {z : Ez} (h : WR w base z) : base ≤ z.2.1 ∧ z.2.1 < w.heap.size := World.ownsRow.lt h z.2.1 rfl
theorem WR.kept {w w' : World} {base : Nat} {z : Ez} {r : Option Nat} (h : WR w base z) (hg : w.grownBy w' r) (hne : some z.2.1 ≠ r) : WR w' base z :=
  World.ownsRow.kept h hg (.inr hne)
/-- entries in memory, with their places -/
structure EZ (w : World) (base : Nat) (v : Value) (Z : List Ez) : Prop where
  own : w.ownsRow base 82 3 v Z.length (ecells Z)
  rows : ∀ z ∈ Z, WR w base z
  apart : ∀ z ∈ Z, v.ownBlock ≠ some z.2.1
  asc : Z.Pairwise (fun a b => a.2.1 < b.2.1)
def EL (w : World) (base : Nat) (v : Value) (L : List En) : Prop := ∃ Z : List Ez, Z.map (·.1) = L ∧ EZ w base v Z
theorem EZ.grown {w w' : World} {base g : Nat} {v : Value} {Z : List Ez} (h : EZ w base v Z) (hg : w.grownBy w' (some g)) (hb : g < base) : EZ w' base v Z := by
  refine ⟨h.own.kept hg ?_, fun z hz => (h.rows z hz).kept hg ?_, h.apart, h.asc⟩
  · by_cases hv : v.ownBlock = none
    · exact .inl hv
    · right
      intro he
      have := h.own.lt g he
      omega
  · intro he
    have := (h.rows z hz).lt
    injection he with he
    omega
theorem EZ.below {w w' : World} {base : Nat} {v : Value} {Z : List Ez} (h : EZ w base v Z) (hb : Below w.heap.size w w') : EZ w' base v Z := by
  refine ⟨h.own.kept (grown_belowM hb none) ?_, fun z hz => (h.rows z hz).kept (grown_belowM hb none) (by simp), h.apart, h.asc⟩
  by_cases hv : v.ownBlock = none
  · exact .inl hv
  · exact .inr hv
theorem EZ.nil (w : World) (base : Nat) : EZ w base (.slice none 0 0) [] := ⟨World.ownsRow_nil _ _ _ _, (fun z hz => by cases hz), (fun z hz => by cases hz), List.Pairwise.nil⟩
/-- an entry more -/
theorem EZ.push {w w3 w6 : World} {base g : Nat} {v v' : Value} {Z : List Ez} {z : Ez} {o1 o2 : Obj} (h : EZ w base v Z) (hg : w.grownBy w3 (some g)) (hb : g < base) (hbase : base ≤ w.heap.size)
    (hz : WR w3 w.heap.size z) (hown : w6.ownsRow base 82 3 v' (Z.length + 1) (ecells Z ++ encE z)) (hgr : ((w3.alloc o1).alloc o2).grownBy w6 v.ownBlock)
    (hpl : v'.ownBlock = v.ownBlock ∨ v'.ownBlock = some ((w3.alloc o1).alloc o2).heap.size) : EZ w6 base v' (Z ++ [z]) := by
  have h3 := h.grown hg hb
  have hvl : ∀ q, v.ownBlock = some q → q < w.heap.size := fun q hq => (h.own.lt q hq).2
  have hz3 := hz.lt
  have hs3 : w.heap.size ≤ w3.heap.size := hg.size
  have hk : ∀ y, WR w3 base y → (∀ q, v.ownBlock = some q → q ≠ y.2.1) → WR w6 base y := by
    intro y hy hne
    have h1 : WR ((w3.alloc o1).alloc o2) base y := World.ownsRow.alloc (World.ownsRow.alloc hy o1) o2
    refine h1.kept hgr ?_
    intro he
    exact hne _ he.symm rfl
  refine ⟨by rw [List.length_append, ecells_app]; exact hown, ?_, ?_, ?_⟩
  · intro y hy
    rcases List.mem_append.1 hy with hy | hy
    · exact hk y (h3.rows y hy) (fun q hq e => h.apart y hy (by rw [hq, e]))
    · obtain rfl := List.mem_singleton.1 hy
      exact hk _ (owns_base hz hbase) (fun q hq e => by have := hvl q hq; omega)
  · intro y hy
    have hs : ((w3.alloc o1).alloc o2).heap.size = w3.heap.size + 2 := by simp
    rcases hpl with hp | hp
    · rw [hp]
      rcases List.mem_append.1 hy with hy | hy
      · exact h.apart y hy
      · obtain rfl := List.mem_singleton.1 hy
        intro e
        have := hvl _ e; omega
    · rw [hp, hs]
      intro e
      injection e with e
      rcases List.mem_append.1 hy with hy | hy
      · have := (h3.rows y hy).lt; omega
      · obtain rfl := List.mem_singleton.1 hy
        omega
  · rw [List.pairwise_append]
    refine ⟨h.asc, List.pairwise_singleton _ _, fun a ha b hb2 => ?_⟩
    obtain rfl := List.mem_singleton.1 hb2
    have := (h.rows a ha).lt; omega
theorem owns_some2 {w : World} {base e size : Nat} {p : Option Addr} {n c : Nat} {xs : List Value} (h : w.ownsRow base e size (.slice p n c) n xs) (hn : 0 < n) : ∃ b, p = some ⟨b, 0, none⟩ := by
  obtain ⟨hl, (⟨h1, h2⟩ | ⟨g, cap, cur, h1, rest⟩)⟩ := h
  · omega
  · injection h1 with h1 h2 h3; exact ⟨g, h1⟩
theorem Tryz.infoEntry : (Tryz.prog.info? 82).map (fun i => (i.zero, i.size, i.bytes)) = some (some (.agg #[.int .i64 0, .bool false, .slice none 0 0]), 3, 40) := by kernel_rfl
def scanEnd (r : Rs) (f : ByteArray) (w : World) (e : Ending) (w' : World) : Prop :=
  match r with
  | .inr L => ∃ v, e = .returned (.tuple #[v, .nilIface]) ∧ EL w' w.heap.size v L ∧ Below w.heap.size w w'
  | .inl (c, l) => e = .returned (.tuple #[.slice none 0 0, .iface 71 (errA f c l)]) ∧ Below w.heap.size w w'

set_option maxRecDepth 100000 in
set_option maxHeartbeats 4000000 in
/-- master.scan -/
theorem scan_any (f t : ByteArray) (w : World) (ht : t.size ≤ 1073741824) :
    Calls Tryz.prog 29 #[.agg #[.string f, .string t]] w (scanEnd (entsB t) f w) := by
  obtain ⟨i0, hi, hz0, hz1, hz2⟩ := info_parts Tryz.infoEntry
  have HMo := hide2 (fun (k l : Nat) (w1 : World) (h : Sc w1 (w.heap.size + 1) f t k l) => more_any (w.heap.size + 1) f t k l w1 h ht)
  obtain ⟨wa, hwa⟩ : ∃ wa, w.alloc (.cells #[.string f, .string t] 35) = wa := ⟨_, rfl⟩
  have za : wa.heap.size = w.heap.size + 1 := by rw [← hwa]; simp
  have a0 : wa.cell? ⟨w.heap.size, 0, none⟩ = some (.string f) := hwa ▸ new_cell rfl _ _ _
  have a1 : wa.cell? ⟨w.heap.size, 1, none⟩ = some (.string t) := hwa ▸ new_cell rfl _ _ _
  obtain ⟨wb, hwb⟩ : ∃ wb, wa.alloc (.cells #[.string f, .string t, .int .i64 0, .int .i64 1] 134) = wb := ⟨_, rfl⟩
  have hsb : Sc wb (w.heap.size + 1) f t 0 1 := by
    have := World.alloc_heap_new wa (.cells #[.string f, .string t, .int .i64 0, .int .i64 1] 134)
    rw [za, hwb] at this
    exact this
  have zb : wb.heap.size = w.heap.size + 2 := by rw [← hwb]; simp [za]
  have HBb : Hid (Below w.heap.size w wb) := by rw [← hwb, ← hwa]; exact ((Below.refl _ w).alloc (Nat.le_refl _) _).alloc (by simp) _
  go_enter Tryz.func29, Tryz.ntmps29
  go_wp2_with fail
  clear hwa hwb a0 a1
  go_loopw [4] (fun v wr => ∃ (k l : Nat) (L : List En), k ≤ t.size + 1 ∧ 1 ≤ l ∧ l ≤ 1 + k ∧ L.length ≤ k ∧ Hid (entsB t = ents t k l L) ∧ Sc wr (w.heap.size + 1) f t k l ∧ EL wr (w.heap.size + 2) v L ∧ Below w.heap.size w wr ∧ w.heap.size + 2 ≤ wr.heap.size)
    (fun _ wr => t.size + 1 - (match wr.cell? ⟨w.heap.size + 1, 2, none⟩ with | some (.int _ n) => n.toNat | _ => 0))
  case atStart => exact ⟨0, 1, [], by omega, by omega, by omega, Nat.le_refl _, rfl, hsb, ⟨[], rfl, EZ.nil _ _⟩, HBb.out, by omega⟩
  case round =>
    obtain ⟨k, l, L, hk, hl1, hl2, hLk, HR, hS, hL, hB, hsz⟩ := hrel
    clear hsb zb HBb za
    have HM := hide2 hS.c2
    have HMo1 := hide2 (HMo.out k l)
    by_cases hlt : k < t.size
    · have hd : decide (k < t.size) = true := decide_eq_true hlt
      rw [hd] at HMo1
      have HE := hide2 (fun (w1 : World) (h : Sc w1 (w.heap.size + 1) f t k l) => entry_any (w.heap.size + 1) f t k l w1 h ht hlt hl1 hl2)
      cases he : ent t k l 0 [] with
      | inl zz =>
        obtain ⟨c, l2⟩ := zz
        rw [he] at HE
        have HQ : Hid (entsB t = .inl (c, l2)) := by unfold Hid; rw [HR.out, ents, if_pos hlt, he]
        clear HR he hL HM
        go_wp2_with (first | (go_at_call 56; refine (HMo1.out _ hS).mono ?_; rintro e w2 ⟨rfl, m, hm⟩; have hS2 : Sc w2 (w.heap.size + 1) f t k l := hm ▸ hS.drewN m; have hB2 : Below w.heap.size w w2 := hm ▸ below_drewN hB m; clear hm) | (go_at_call 57; refine (HE.out _ hS2).mono ?_; rintro e w3 ⟨rfl, hg3⟩; have hB3 := hide2 (hB2.grown hg3 hB2.size (fun q hq => by injection hq with hq; omega)); clear hg3))
        go_ret2
        rw [HQ.out]
        exact ⟨rfl, hB3.out.alloc hB3.out.size _⟩
      | inr zz =>
        obtain ⟨k2, l2, ws⟩ := zz
        rw [he] at HE
        have hgd := ent_good t k l 0 [] k2 l2 ws (by omega) he
        have HQ : Hid (entsB t = ents t k2 l2 (putE L l (isBl (bt t k)) ws)) := by unfold Hid; rw [HR.out, ents, if_pos hlt, he]; simp only [if_pos hgd.1]
        by_cases hw0 : ws.length = 0
        · have HP : Hid (putE L l (isBl (bt t k)) ws = L) := by unfold Hid putE; rw [if_pos hw0]
          rw [HP.out] at HQ
          clear HR he HP
          go_wp2_with (first | (go_at_call 56; refine (HMo1.out _ hS).mono ?_; rintro e w2 ⟨rfl, m, hm⟩; have hS2 : Sc w2 (w.heap.size + 1) f t k l := hm ▸ hS.drewN m; have hB2 : Below w.heap.size w w2 := hm ▸ below_drewN hB m; have hL2 : EL w2 (w.heap.size + 2) u4 L := hm ▸ (by obtain ⟨Z, h1, h2⟩ := hL; exact ⟨Z, h1, h2.below (quiet_below m)⟩); clear hm) | (go_at_call 57; refine (HE.out _ hS2).mono ?_; rintro e w3 ⟨p, cp, rfl, hrow, hS3, hg3⟩; rw [hw0] at *))
          have hB3 := hB2.grown hg3 hB2.size (fun q hq => by injection hq with hq; omega)
          have hs2 : w.heap.size + 2 ≤ w3.heap.size := by have := hS3.lt; have := hg3.size; have := hB2.size; have h0 := hS2.lt; omega
          have hS4 := hS3.alloc (.cells #[.int .i64 (l : Int), .bool (isBl (bt t k)), .slice p 0 cp] 82)
          refine ⟨⟨k2, l2, L, by omega, by omega, by omega, by omega, HQ, hS4, ?_, hB3.alloc hB3.size _, by simp; omega⟩, ?_⟩
          · obtain ⟨Z, h1, h2⟩ := hL2
            exact ⟨Z, h1, (h2.grown hg3 (by omega)).below ((Below.refl _ w3).alloc (Nat.le_refl _) _)⟩
          · rw [HM.out, hS4.c2]; simp; omega
        · have HP : Hid (putE L l (isBl (bt t k)) ws = L ++ [⟨l, isBl (bt t k), ws⟩]) := by unfold Hid putE; rw [if_neg hw0]
          rw [HP.out] at HQ
          have hws : ws.length ≤ k2 := by simp at hgd; omega
          have hwp : 0 < ws.length := by omega
          obtain ⟨nw, hnw⟩ : ∃ nw, ws.length = nw := ⟨_, rfl⟩
          have HN := hide2 hnw
          have hwp2 : (0 : Int) < (nw : Int) := by omega
          clear HR he HP hw0
          go_upto_region 8 with (first | (go_at_call 56; refine (HMo1.out _ hS).mono ?_; rintro e w2 ⟨rfl, m, hm⟩; have hS2 : Sc w2 (w.heap.size + 1) f t k l := hm ▸ hS.drewN m; have hB2 : Below w.heap.size w w2 := hm ▸ below_drewN hB m; have hL2 : EL w2 (w.heap.size + 2) u4 L := hm ▸ (by obtain ⟨Z, h1, h2⟩ := hL; exact ⟨Z, h1, h2.below (quiet_below m)⟩); have hzz : w.heap.size + 2 ≤ w2.heap.size := hm ▸ hsz; clear hm) | (go_at_call 57; refine (HE.out _ hS2).mono ?_; rintro e w3 ⟨p, cp, rfl, hrow, hS3, hg3⟩; obtain ⟨b, rfl⟩ := owns_some2 hrow hwp; obtain ⟨Z, hZ1, hZ2⟩ := hL2; have HZ := hide2 hZ2; have HW := hide2 hrow; have HG3 := hide2 hg3; have hz3 := hg3.size; have HO := hide2 (hZ2.grown hg3 (by omega)).own; clear hZ2 hrow hg3; rw [hnw]))
          go_wp2_with (at_builtin; refine wpList_append_apartM _ rfl _ _ 77 rfl (w.heap.size + 2) 82 i0 (.agg #[.int .i64 0, .bool false, .slice none 0 0]) 3 40 Tryz.underlying77 hi hz0 hz1 hz2 rfl (by decide) _ _ _ rfl ((HO.out.alloc _).alloc _) ⟨w3.heap.size + 1, 0, none⟩ 1 1 [.int .i64 (l : Int), .bool (isBl (bt t k)), .slice (some ⟨b, 0, none⟩) nw cp] rfl rfl (cells_new (by simp) #[.int .i64 (l : Int), .bool (isBl (bt t k)), .slice (some ⟨b, 0, none⟩) nw cp] 82) (by simp [Value.oneCell']) (by rw [← List.length_map (f := (·.1)), hZ1]; unfold maxLen; omega) (by rw [← List.length_map (f := (·.1)), hZ1]; omega) (by simp; omega) ?_; intro v6 w6 hown6 hgrow6 hpl6; have HO6 := hide2 hown6; have HG6 := hide2 hgrow6; have HP6 := hide2 hpl6; clear hown6 hgrow6 hpl6)
          have hB3 := hB2.grown HG3.out hB2.size (fun q hq => by injection hq with hq; omega)
          have hle : ∀ q, u4.ownBlock = some q → w.heap.size + 2 ≤ q := fun q hq => (HO.out.lt q hq).1
          obtain rfl := HN.out
          have hE6 := EZ.push (z := (⟨l, isBl (bt t k), ws⟩, b, cp)) HZ.out HG3.out (by omega) hzz HW.out HO6.out HG6.out HP6.out
          have hsz3 : w3.heap.size + 2 ≤ w6.heap.size := by have := HG6.out.size; simp at this; omega
          have hS6 : Sc w6 (w.heap.size + 1) f t k2 l2 := by
            refine (HG6.out.block (w.heap.size + 1) (by simp; omega) (fun e => ?_)).trans ((hS3.alloc _).alloc _)
            have := hle _ e.symm; omega
          refine ⟨⟨k2, l2, L ++ [⟨l, isBl (bt t k), ws⟩], by omega, by omega, by omega, by simp; omega, HQ, hS6, ⟨_, by rw [List.map_append, hZ1]; rfl, hE6⟩, ?_, by omega⟩, ?_⟩
          · exact ((hB3.alloc hB3.size _).alloc (by have := hB3.size; simp; omega) _).grown HG6.out (by have := hB3.size; simp; omega) (fun q hq => by have := hle q hq; omega)
          · rw [HM.out, hS6.c2]; simp; omega
    · have hd : decide (k < t.size) = false := decide_eq_false hlt
      rw [hd] at HMo1
      have HQ : Hid (entsB t = .inr L) := by unfold Hid; rw [HR.out, ents, if_neg hlt]
      clear HR
      go_wp2_with (go_at_call 56; refine (HMo1.out _ hS).mono ?_; rintro e w2 ⟨rfl, m, hm⟩; have hB2 : Below w.heap.size w w2 := hm ▸ below_drewN hB m; have hL2 : EL w2 (w.heap.size + 2) u4 L := hm ▸ (by obtain ⟨Z, h1, h2⟩ := hL; exact ⟨Z, h1, h2.below (quiet_below m)⟩); clear hm)
      go_ret2
      rw [HQ.out]
      obtain ⟨Z, h1, h2⟩ := hL2
      exact ⟨u4, rfl, ⟨Z, h1, ⟨owns_base h2.own (by omega), fun z hz => owns_base (h2.rows z hz) (by omega), h2.apart, h2.asc⟩⟩, hB2⟩
end Go.Proofs.YtiaccimdjfdkgaaGreatDoor
