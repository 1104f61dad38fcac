import Derived.Test.YtclonjmhbgllkaaDoorMr2
import Derived.Deep.RegionLaw
namespace Go.Proofs.YtclonjmhbgllkaaDoor
set_option linter.unusedVariables false
open Go.RowKit Go.Shelf Go.Proofs.YtclonjmhbgllkaaDoor.Nm

theorem wrap_nat2 (d : Nat) (h : d ≤ 4294967296) : IntKind.i64.wrap (d : Int) = (d : Int) := by
  have e := Go.IntWalk.wrap64_in (d : Int) ⟨by omega, by omega⟩
  rw [Go.IntWalk.i64_left, e]
/-- within an entry -/
def NowI (w wc : World) (t : ByteArray) (v : Value) (Z : List Ez) (k l o : Nat) : Prop :=
  ∃ (nb l0 : Nat) (b0 : Bool) (x2 : Value) (ws : List Wd), RS w wc (.int .i64 (l0 : Int)) (.bool b0) x2 v Z nb ∧ wc.ownsRow nb 33 2 x2 ws.length (wcells ws) ∧ ws.length ≤ k ∧ Hid (entsB t = cont t (Z.map (·.1)) l0 b0 (ent t k l o ws))
/-- ahead of one -/
def BegI (w wc : World) (t : ByteArray) (v : Value) (Z : List Ez) (k l : Nat) : Prop :=
  ∃ (x0 x1 x2 : Value) (nb : Nat), RS w wc x0 x1 x2 v Z nb ∧ Hid (entsB t = ents t k l (Z.map (·.1)))
theorem EZ.vshape {w : World} {base : Nat} {v : Value} {Z : List Ez} (h : EZ w base v Z) : ∃ p c, v = .slice p Z.length c ∧ Z.length ≤ c := by
  obtain ⟨p, c, e, h1, _, _⟩ := owns_shape2 h.own; exact ⟨p, c, e, h1⟩

set_option maxRecDepth 100000 in
set_option maxHeartbeats 8000000 in
/-- gazetteerref2.Entries -/
theorem refEntries_any (t : ByteArray) (w : World) (ht : t.size ≤ 1048576) : Calls Tryd.prog 5 #[.string t] w (entriesEnd (entsB t) w) := by
  obtain ⟨i0, hi, hz0, hz1, hz2⟩ := info_parts Tryd.infoWord
  obtain ⟨j0, hj, hj0, hj1, hj2⟩ := info_parts Tryd.infoEntry
  obtain ⟨w1, hw1⟩ : ∃ w1, w.alloc (.cells #[.int .i64 0, .string ⟨#[]⟩, .int .i64 0] 25) = w1 := ⟨_, rfl⟩
  have hs1 : w1.heap.size = w.heap.size + 1 := by rw [← hw1]; simp
  obtain ⟨w2, hw2⟩ : ∃ w2, w1.alloc (.cells #[.int .i64 0, .bool false, .slice none 0 0] 31) = w2 := ⟨_, rfl⟩
  have hs2 : w2.heap.size = w.heap.size + 2 := by rw [← hw2]; simp [hs1]
  have HS : Hid (RS w w2 (.int .i64 0) (.bool false) (.slice none 0 0) (.slice none 0 0) [] w2.heap.size) := by
    have e0 := World.alloc_heap_new w (.cells #[.int .i64 0, .string ⟨#[]⟩, .int .i64 0] 25)
    have e1 := World.alloc_heap_new w1 (.cells #[.int .i64 0, .bool false, .slice none 0 0] 31)
    rw [hw1] at e0
    rw [hs1, hw2] at e1
    refine ⟨?_, e1, EZ.nil _ _, (fun q hq => by cases hq), (fun z hz => by cases hz), Nat.le_refl _, by omega, ?_⟩
    · rw [← hw2]; exact (((Below.refl _ w1).alloc (Nat.le_refl _) _).block w.heap.size (by omega)).trans e0
    · rw [← hw2, ← hw1]; exact ((Below.refl _ w).alloc (Nat.le_refl _) _).alloc (by simp) _
  go_enter Tryd.func5, Tryd.ntmps5
  go_wp2_with fail
  clear hw1 hw2 hs1
  go_loopw [4, 5, 6, 7, 9] (fun v lv ov bv kv wr => ∃ (k l o : Nat) (Z : List Ez), kv = .int .i64 (k : Int) ∧ lv = .int .i64 (l : Int) ∧ ov = .int .i64 (o : Int) ∧ k ≤ t.size ∧ 1 ≤ l ∧ l ≤ 1 + k ∧ o ≤ l ∧ Z.length ≤ k ∧ ((bv = .bool true ∧ o = 0 ∧ BegI w wr t v Z k l) ∨ (bv = .bool false ∧ NowI w wr t v Z k l o)))
    (fun _ _ _ _ kv _ => t.size - (intOf kv).toNat)
  case atStart => exact ⟨0, 1, 0, [], rfl, rfl, rfl, Nat.zero_le _, Nat.le_refl _, by omega, by omega, Nat.le_refl _, .inl ⟨rfl, rfl, _, _, _, _, HS.out, rfl⟩⟩
  case round =>
    clear HS hs2
    obtain ⟨k, l, o, Z, rfl, rfl, rfl, hk, hl1, hl2, hol, hZk, hbeg⟩ := hrel
    by_cases hlt : k < t.size
    · obtain ⟨y, hy, HY, hyl⟩ := bt_wrap hlt
      have HB := hide2 (fun (w : World) => refBlank_any y w hyl)
      go_upto_if 16 with fail
      go_cut [7] from 12 to 87 (fun s7 wc => s7 = .bool false ∧ NowI w wc t u4 Z k l o)
      case first =>
        rcases hbeg with ⟨rfl, rfl, x0, x1, x2, nb, hRS, HE⟩ | ⟨rfl, hN⟩
        · obtain ⟨⟨e0, e1, e2, ez⟩, _⟩ := hRS.c
          have z0 := ez 0
          have z1 := ez 1
          have z2 := ez 2
          have HR1 := hide2 (hRS.top.fresh (.int .i64 (l : Int)) (.bool (isBl y)) (.slice none 0 0))
          have HE2 : Hid (entsB t = cont t (Z.map (·.1)) l (isBl y) (ent t k l 0 [])) := by unfold Hid; rw [HE.out, ents_cont hlt, HY]
          clear hRS HE
          go_wp2_with (go_at_call 9; refine (HB.out _).mono ?_; rintro e w3 ⟨rfl, rfl⟩)
          go_meet
          case rel => exact ⟨rfl, _, l, isBl y, .slice none 0 0, [], HR1.out, World.ownsRow_nil _ _ _ _, Nat.zero_le _, HE2⟩
        · go_wp2_with fail
          go_meet
          case rel => exact ⟨rfl, hN⟩
      case rest =>
        obtain ⟨rfl, nb, l0, b0, x2, ws, hRS, hown, hwk, HE⟩ := hcut
        clear hbeg HB hy
        obtain ⟨p, cp, rfl, hpc, hpm, hpn⟩ := owns_shape2 hown
        obtain ⟨⟨e0, e1, e2, ez⟩, ⟨r0, r1, r2, rz⟩⟩ := hRS.c
        have z0 := rz 0
        have z1 := rz 1
        have z2 := rz 2
        by_cases h10 : y = 10
        · subst h10
          have HT := hide2 (fun (w : World) => token_sign t k w ht hlt (.inl HY))
          rw [HY] at HT
          by_cases ho : o = 0
          · subst ho
            have HQ0 : Hid (entsB t = ents t (k + 1) (l + 1) (putE (Z.map (·.1)) l0 b0 ws)) := by unfold Hid; rw [HE.out, ent, if_pos hlt, if_pos HY, if_pos rfl]; rfl
            by_cases hw0 : ws.length = 0
            · have HQ : Hid (entsB t = ents t (k + 1) (l + 1) (Z.map (·.1))) := by unfold Hid; rw [HQ0.out]; unfold putE; rw [if_pos hw0]
              rw [hw0] at e2
              clear HE HY HQ0
              go_wp2_with (go_at_call 10; refine (HT.out _).mono ?_; rintro e w3 ⟨rfl, rfl⟩)
              go_roundw
              case rel => first | exact ⟨k + 1, l + 1, 0, Z, by go_num, by go_num, by go_num, by omega, by omega, by omega, by omega, by first | omega | (simp; omega), .inl ⟨rfl, rfl, _, _, _, _, hRS, HQ⟩⟩ | ((repeat apply Exists.intro); exact ⟨⟨k + 1, l + 1, 0, Z, by go_num, by go_num, by go_num, by omega, by omega, by omega, by omega, by first | omega | (simp; omega), .inl ⟨rfl, rfl, _, _, _, _, hRS, HQ⟩⟩, rfl⟩)
              case measure => simp [intOf]; omega
            · have HQ : Hid (entsB t = ents t (k + 1) (l + 1) (Z.map (·.1) ++ [⟨l0, b0, ws⟩])) := by unfold Hid; rw [HQ0.out]; unfold putE; rw [if_neg hw0]
              obtain ⟨b, rfl⟩ := owns_some2 hown (by omega)
              obtain ⟨nw, hnw⟩ : ∃ nw, ws.length = nw := ⟨_, rfl⟩
              have HN := hide2 hnw
              have hwp2 : (0 : Int) < (nw : Int) := by omega
              have HO := hide2 hRS.ez.own
              have HRS := hide2 hRS
              have HW := hide2 hown
              have hnb1 := hRS.nb1
              have hnb2 := hRS.nb2
              clear HE HY HQ0 hw0 hRS hown
              rw [hnw] at e2
              go_wp2_with (first | (go_at_call 10; refine (HT.out _).mono ?_; rintro e w3 ⟨rfl, rfl⟩) | (at_builtin; refine wpList_append_lies _ rfl _ _ 22 rfl (w.heap.size + 2) 31 j0 (.agg #[.int .i64 0, .bool false, .slice none 0 0]) 3 40 Tryd.underlying22 hj hj0 hj1 hj2 rfl (by decide) u4 Z.length (ecells Z) rfl (HO.out.alloc _) ⟨_, 0, none⟩ 1 1 [.int .i64 (l0 : Int), .bool b0, .slice (some ⟨b, 0, none⟩) nw cp] rfl rfl (cells_new rfl #[.int .i64 (l0 : Int), .bool b0, .slice (some ⟨b, 0, none⟩) nw cp] 31) (by simp [Value.oneCell']) (by decide) (by unfold maxLen; omega) (by omega) (by simp; omega) _ rfl ?_; intro g6 cap6 w6 hown6 hgrow6 hpl6 _; have HO6 := hide2 hown6; have HG6 := hide2 hgrow6; have HP6 := hide2 hpl6; clear hown6 hgrow6 hpl6))
              obtain rfl := HN.out
              have hR6 := RS.entry (z := (⟨l0, b0, ws⟩, b, cp)) HRS.out HW.out HG6.out HO6.out (by simpa using HP6.out)
              go_roundw
              case rel => first | exact ⟨k + 1, l + 1, 0, Z ++ [(⟨l0, b0, ws⟩, b, cp)], by go_num, by go_num, by go_num, by omega, by omega, by omega, by omega, by first | omega | (simp; omega), .inl ⟨rfl, rfl, _, _, _, _, hR6, by rw [List.map_append]; exact HQ⟩⟩ | ((repeat apply Exists.intro); exact ⟨⟨k + 1, l + 1, 0, Z ++ [(⟨l0, b0, ws⟩, b, cp)], by go_num, by go_num, by go_num, by omega, by omega, by omega, by omega, by first | omega | (simp; omega), .inl ⟨rfl, rfl, _, _, _, _, hR6, by rw [List.map_append]; exact HQ⟩⟩, rfl⟩)
              case measure => simp [intOf]; omega
          · have ho1 : ((o : Int) == 0) = false := by rw [beq_eq_false_iff_ne]; omega
            have HQ : Hid (entsB t = cont t (Z.map (·.1)) l0 b0 (ent t (k + 1) (l + 1) o ws)) := by unfold Hid; rw [HE.out, ent, if_pos hlt, if_pos HY, if_neg ho]
            clear HE HY
            go_wp2_with (go_at_call 10; refine (HT.out _).mono ?_; rintro e w3 ⟨rfl, rfl⟩)
            go_roundw
            case rel => first | exact ⟨k + 1, l + 1, o, Z, by go_num, by go_num, by go_num, by omega, by omega, by omega, by omega, by first | omega | (simp; omega), .inr ⟨rfl, nb, l0, b0, .slice p ws.length cp, ws, hRS, hown, by omega, HQ⟩⟩ | ((repeat apply Exists.intro); exact ⟨⟨k + 1, l + 1, o, Z, by go_num, by go_num, by go_num, by omega, by omega, by omega, by omega, by first | omega | (simp; omega), .inr ⟨rfl, nb, l0, b0, .slice p ws.length cp, ws, hRS, hown, by omega, HQ⟩⟩, rfl⟩)
            case measure => simp [intOf]; omega
        · by_cases hbb : isBl y = true
          · have HT := hide2 (fun (w : World) => token_blank t k w ht hlt (by rw [HY]; exact hbb))
            have HQ : Hid (entsB t = cont t (Z.map (·.1)) l0 b0 (ent t (k + 1) l o ws)) := by unfold Hid; rw [HE.out, ent, if_pos hlt, if_neg (by rw [HY]; exact h10), if_pos (by rw [HY]; exact hbb)]
            clear HE HY
            go_wp2_with (go_at_call 10; refine (HT.out _).mono ?_; rintro e w3 ⟨rfl, rfl⟩)
            go_roundw
            case rel => first | exact ⟨k + 1, l, o, Z, by go_num, by go_num, by go_num, by omega, by omega, by omega, by omega, by first | omega | (simp; omega), .inr ⟨rfl, nb, l0, b0, .slice p ws.length cp, ws, hRS, hown, by omega, HQ⟩⟩ | ((repeat apply Exists.intro); exact ⟨⟨k + 1, l, o, Z, by go_num, by go_num, by go_num, by omega, by omega, by omega, by omega, by first | omega | (simp; omega), .inr ⟨rfl, nb, l0, b0, .slice p ws.length cp, ws, hRS, hown, by omega, HQ⟩⟩, rfl⟩)
            case measure => simp [intOf]; omega
          · have hb : isBl y = false := by simpa using hbb
            by_cases h40 : y = 40
            · subst h40
              have HT := hide2 (fun (w : World) => token_sign t k w ht hlt (.inr (.inl HY)))
              rw [HY] at HT
              by_cases ho : o = 0
              · subst ho
                have HQ : Hid (entsB t = cont t (Z.map (·.1)) l0 b0 (ent t (k + 1) l l ws)) := by unfold Hid; rw [HE.out, ent, if_pos hlt, if_neg (by rw [HY]; exact h10), if_neg (by rw [HY, hb]; simp), if_pos HY, if_pos rfl]
                clear HE HY
                go_wp2_with (go_at_call 10; refine (HT.out _).mono ?_; rintro e w3 ⟨rfl, rfl⟩)
                go_roundw
                case rel => first | exact ⟨k + 1, l, l, Z, by go_num, by go_num, by go_num, by omega, by omega, by omega, by omega, by first | omega | (simp; omega), .inr ⟨rfl, nb, l0, b0, .slice p ws.length cp, ws, hRS, hown, by omega, HQ⟩⟩ | ((repeat apply Exists.intro); exact ⟨⟨k + 1, l, l, Z, by go_num, by go_num, by go_num, by omega, by omega, by omega, by omega, by first | omega | (simp; omega), .inr ⟨rfl, nb, l0, b0, .slice p ws.length cp, ws, hRS, hown, by omega, HQ⟩⟩, rfl⟩)
                case measure => simp [intOf]; omega
              · have ho2 : (0 : Int) < (o : Int) := by omega
                have HQ : Hid (entsB t = .inl (2, l)) := by unfold Hid; rw [HE.out, ent, if_pos hlt, if_neg (by rw [HY]; exact h10), if_neg (by rw [HY, hb]; simp), if_pos HY, if_neg ho]; rfl
                clear HE HY
                have hB := hide2 hRS.b
                clear hRS hown
                go_wp2_with (go_at_call 10; refine (HT.out _).mono ?_; rintro e w3 ⟨rfl, rfl⟩)
                obtain ⟨q0, q1, q2⟩ := three_set r0 r1 r2 (.int .i64 2) (.string ⟨#[]⟩) (.int .i64 (l : Int))
                refine bodyPost_ret (v := .tuple #[.slice none 0 0, .agg #[.int .i64 2, .string ⟨#[]⟩, .int .i64 (l : Int)]]) (by simp [results, go_sem, q0, q1, q2]) rfl ?_
                rw [HQ.out]
                exact ⟨rfl, below_far (below_far (below_far hB.out (Nat.le_refl _) _ _) (Nat.le_refl _) _ _) (Nat.le_refl _) _ _⟩
            · by_cases h41 : y = 41
              · subst h41
                have HT := hide2 (fun (w : World) => token_sign t k w ht hlt (.inr (.inr HY)))
                rw [HY] at HT
                by_cases ho : o = 0
                · subst ho
                  have HQ : Hid (entsB t = .inl (2, l)) := by unfold Hid; rw [HE.out, ent, if_pos hlt, if_neg (by rw [HY]; exact h10), if_neg (by rw [HY, hb]; simp), if_neg (by rw [HY]; exact h40), if_pos HY, if_pos rfl]; rfl
                  clear HE HY
                  have hB := hide2 hRS.b
                  clear hRS hown
                  go_wp2_with (go_at_call 10; refine (HT.out _).mono ?_; rintro e w3 ⟨rfl, rfl⟩)
                  obtain ⟨q0, q1, q2⟩ := three_set r0 r1 r2 (.int .i64 2) (.string ⟨#[]⟩) (.int .i64 (l : Int))
                  refine bodyPost_ret (v := .tuple #[.slice none 0 0, .agg #[.int .i64 2, .string ⟨#[]⟩, .int .i64 (l : Int)]]) (by simp [results, go_sem, q0, q1, q2]) rfl ?_
                  rw [HQ.out]
                  exact ⟨rfl, below_far (below_far (below_far hB.out (Nat.le_refl _) _ _) (Nat.le_refl _) _ _) (Nat.le_refl _) _ _⟩
                · have ho1 : ((o : Int) == 0) = false := by rw [beq_eq_false_iff_ne]; omega
                  have HQ : Hid (entsB t = cont t (Z.map (·.1)) l0 b0 (ent t (k + 1) l 0 ws)) := by unfold Hid; rw [HE.out, ent, if_pos hlt, if_neg (by rw [HY]; exact h10), if_neg (by rw [HY, hb]; simp), if_neg (by rw [HY]; exact h40), if_pos HY, if_neg ho]
                  clear HE HY
                  go_wp2_with (go_at_call 10; refine (HT.out _).mono ?_; rintro e w3 ⟨rfl, rfl⟩)
                  go_roundw
                  case rel => first | exact ⟨k + 1, l, 0, Z, by go_num, by go_num, by go_num, by omega, by omega, by omega, by omega, by first | omega | (simp; omega), .inr ⟨rfl, nb, l0, b0, .slice p ws.length cp, ws, hRS, hown, by omega, HQ⟩⟩ | ((repeat apply Exists.intro); exact ⟨⟨k + 1, l, 0, Z, by go_num, by go_num, by go_num, by omega, by omega, by omega, by omega, by first | omega | (simp; omega), .inr ⟨rfl, nb, l0, b0, .slice p ws.length cp, ws, hRS, hown, by omega, HQ⟩⟩, rfl⟩)
                  case measure => simp [intOf]; omega
              · by_cases h59 : y = 59
                · subst h59
                  have HT := hide2 (fun (w : World) => token_remark t k w ht hlt HY)
                  have hrl := rEnd_lt t k hlt (by rw [HY]; decide)
                  have HQ : Hid (entsB t = cont t (Z.map (·.1)) l0 b0 (ent t (rEnd t k) l o ws)) := by unfold Hid; rw [HE.out, ent, if_pos hlt, if_neg (by rw [HY]; exact h10), if_neg (by rw [HY, hb]; simp), if_neg (by rw [HY]; exact h40), if_neg (by rw [HY]; exact h41), if_pos HY, if_pos hrl.1]
                  generalize rEnd t k = k2 at *
                  clear HE HY
                  go_wp2_with (go_at_call 10; refine (HT.out _).mono ?_; rintro e w3 ⟨rfl, rfl⟩)
                  go_roundw
                  case rel => first | exact ⟨k2, l, o, Z, by go_num, by go_num, by go_num, by omega, by omega, by omega, by omega, by first | omega | (simp; omega), .inr ⟨rfl, nb, l0, b0, .slice p ws.length cp, ws, hRS, hown, by omega, HQ⟩⟩ | ((repeat apply Exists.intro); exact ⟨⟨k2, l, o, Z, by go_num, by go_num, by go_num, by omega, by omega, by omega, by omega, by first | omega | (simp; omega), .inr ⟨rfl, nb, l0, b0, .slice p ws.length cp, ws, hRS, hown, by omega, HQ⟩⟩, rfl⟩)
                  case measure => simp [intOf]; omega
                · have hst : isStop y = false ∨ y = 34 := by
                    by_cases h34 : y = 34
                    · exact .inr h34
                    · left; simp [isStop, hb, h10, h40, h41, h59, h34]
                  have HE2 : Hid (entsB t = cont t (Z.map (·.1)) l0 b0 (match tokW t k with | none => .inl (2, l) | some x => if k < x.2 then ent t x.2 l o (ws ++ [x.1]) else .inl (0, 0))) := by
                    unfold Hid; rw [HE.out, ent, if_pos hlt, if_neg (by rw [HY]; exact h10), if_neg (by rw [HY, hb]; simp), if_neg (by rw [HY]; exact h40), if_neg (by rw [HY]; exact h41), if_neg (by rw [HY]; exact h59)]; cases tokW t k <;> rfl
                  by_cases h34 : y = 34
                  · subst h34
                    have HT := hide2 (fun (w : World) => token_quoted t k w ht hlt HY)
                    have HTK : tokW t k = (qEnd t (k + 1)).map (fun e => (⟨t.extract (k + 1) e, true⟩, e + 1)) := by unfold tokW; rw [if_pos HY]
                    cases hq : qEnd t (k + 1) with
                    | none =>
                      have HQ : Hid (entsB t = .inl (2, l)) := by unfold Hid; rw [HE2.out, HTK, hq]; rfl
                      rw [hq] at HT
                      clear HE HE2 HY HTK hq
                      have hB := hide2 hRS.b
                      clear hRS hown
                      go_wp2_with (go_at_call 10; refine (HT.out _).mono ?_; rintro e w3 ⟨⟨jx, rfl⟩, rfl⟩)
                      obtain ⟨q0, q1, q2⟩ := three_set r0 r1 r2 (.int .i64 2) (.string ⟨#[]⟩) (.int .i64 (l : Int))
                      refine bodyPost_ret (v := .tuple #[.slice none 0 0, .agg #[.int .i64 2, .string ⟨#[]⟩, .int .i64 (l : Int)]]) (by simp [results, go_sem, q0, q1, q2]) rfl ?_
                      rw [HQ.out]
                      exact ⟨rfl, below_far (below_far (below_far hB.out (Nat.le_refl _) _ _) (Nat.le_refl _) _ _) (Nat.le_refl _) _ _⟩
                    | some j =>
                      have hjl := qEnd_le t _ _ hq
                      have HQ : Hid (entsB t = cont t (Z.map (·.1)) l0 b0 (ent t (j + 1) l o (ws ++ [⟨t.extract (k + 1) j, true⟩]))) := by unfold Hid; rw [HE2.out, HTK, hq]; simp only [Option.map_some]; rw [if_pos (by omega)]
                      rw [hq] at HT
                      clear HE HE2 HY HTK hq
                      have hb1 := hjl.1
                      have hb2 : j ≤ t.size := by omega
                      have hb3 : (k : Int) + 1 ≤ (j : Int) := by omega
                      have hb4 : (0 : Int) ≤ (k : Int) + 1 := by omega
                      have hwr1 : IntKind.i64.wrap (j : Int) = (j : Int) := wrap_nat2 j (by omega)
                      have hwr2 : IntKind.i64.wrap ((k : Int) + 1) = (k : Int) + 1 := wrap_nat2 (k + 1) (by omega)
                      have HO := hide2 hown
                      have HRS := hide2 hRS
                      have hnb1 := hRS.nb1
                      have hnb2 := hRS.nb2
                      have hf2 := ez 2
                      clear hRS hown
                      go_wp2_with (go_at_call 10; refine (HT.out _).mono ?_; rintro e w3 ⟨rfl, rfl⟩)
                      have e2' := cell_alloc_l (.cells #[.string (t.extract (k + 1) j), .bool true] 33) e2
                      go_region_law ((refine step_append_lies _ rfl _ _ 29 rfl nb 33 i0 (.agg #[.string ⟨#[]⟩, .bool false]) 2 24 Tryd.underlying29 hi hz0 hz1 hz2 rfl (by decide) (.slice p ws.length cp) ws.length (wcells ws) rfl (HO.out.drew.alloc _) ⟨_, 0, none⟩ 1 1 [.string (t.extract (k + 1) j), .bool true] rfl rfl (cells_new rfl #[.string (t.extract (k + 1) j), .bool true] 33) (by simp [Value.oneCell']) (by decide) (by unfold maxLen; omega) (by omega) (by simp; omega) _ rfl ?_; intro g6 cap6 w6 hown6 hgrow6 hpl6 hlt6; obtain ⟨hR6, hO6, E6, F6⟩ := RS.word HRS.out HO.out (⟨hgrow6.os, hgrow6.tape, hgrow6.output, hgrow6.size, hgrow6.block⟩) hown6; clear hown6 hgrow6 hpl6 hlt6))
                      all_goals go_wp2_with fail
                      all_goals
                        refine ⟨⟨j + 1, l, o, Z, by go_num, by go_num, by go_num, by omega, by omega, by omega, by omega, by first | omega | (simp; omega), .inr ⟨rfl, nb, l0, b0, _, ws ++ [⟨t.extract (k + 1) j, true⟩], hR6, by rw [List.length_append, wcells_app]; exact hO6, by simp; omega, HQ⟩⟩, ?_⟩
                        simp [intOf]; omega
                  · have hst2 : isStop y = false := by rcases hst with h | h; exact h; exact absurd h h34
                    have HT := hide2 (fun (w : World) => token_plain t k w ht hlt (by rw [HY]; exact hst2))
                    have HTK : tokW t k = (wEnd t k).map (fun e => (⟨t.extract k e, false⟩, e)) := by unfold tokW; rw [if_neg (by rw [HY]; exact h34)]
                    cases hq : wEnd t k with
                    | none =>
                      have HQ : Hid (entsB t = .inl (2, l)) := by unfold Hid; rw [HE2.out, HTK, hq]; rfl
                      rw [hq] at HT
                      clear HE HE2 HY HTK hq
                      have hB := hide2 hRS.b
                      clear hRS hown
                      go_wp2_with (go_at_call 10; refine (HT.out _).mono ?_; rintro e w3 ⟨⟨jx, rfl⟩, rfl⟩)
                      obtain ⟨q0, q1, q2⟩ := three_set r0 r1 r2 (.int .i64 2) (.string ⟨#[]⟩) (.int .i64 (l : Int))
                      refine bodyPost_ret (v := .tuple #[.slice none 0 0, .agg #[.int .i64 2, .string ⟨#[]⟩, .int .i64 (l : Int)]]) (by simp [results, go_sem, q0, q1, q2]) rfl ?_
                      rw [HQ.out]
                      exact ⟨rfl, below_far (below_far (below_far hB.out (Nat.le_refl _) _ _) (Nat.le_refl _) _ _) (Nat.le_refl _) _ _⟩
                    | some j =>
                      have hjl := wEnd_lt t _ _ hlt (by rw [HY]; exact hst2) hq
                      have HQ : Hid (entsB t = cont t (Z.map (·.1)) l0 b0 (ent t j l o (ws ++ [⟨t.extract k j, false⟩]))) := by unfold Hid; rw [HE2.out, HTK, hq]; simp only [Option.map_some]; rw [if_pos (by omega)]
                      rw [hq] at HT
                      clear HE HE2 HY HTK hq
                      have hb2 := hjl.2
                      have hb3 : k ≤ j := by omega
                      have HO := hide2 hown
                      have HRS := hide2 hRS
                      have hnb1 := hRS.nb1
                      have hnb2 := hRS.nb2
                      have hf2 := ez 2
                      clear hRS hown
                      go_wp2_with (go_at_call 10; refine (HT.out _).mono ?_; rintro e w3 ⟨rfl, rfl⟩)
                      have e2' := cell_alloc_l (.cells #[.string (t.extract k j), .bool false] 33) e2
                      go_region_law ((refine step_append_lies _ rfl _ _ 29 rfl nb 33 i0 (.agg #[.string ⟨#[]⟩, .bool false]) 2 24 Tryd.underlying29 hi hz0 hz1 hz2 rfl (by decide) (.slice p ws.length cp) ws.length (wcells ws) rfl (HO.out.drew.alloc _) ⟨_, 0, none⟩ 1 1 [.string (t.extract k j), .bool false] rfl rfl (cells_new rfl #[.string (t.extract k j), .bool false] 33) (by simp [Value.oneCell']) (by decide) (by unfold maxLen; omega) (by omega) (by simp; omega) _ rfl ?_; intro g6 cap6 w6 hown6 hgrow6 hpl6 hlt6; obtain ⟨hR6, hO6, E6, F6⟩ := RS.word HRS.out HO.out (⟨hgrow6.os, hgrow6.tape, hgrow6.output, hgrow6.size, hgrow6.block⟩) hown6; clear hown6 hgrow6 hpl6 hlt6))
                      all_goals go_wp2_with fail
                      all_goals
                        refine ⟨⟨j, l, o, Z, by go_num, by go_num, by go_num, by omega, by omega, by omega, by omega, by first | omega | (simp; omega), .inr ⟨rfl, nb, l0, b0, _, ws ++ [⟨t.extract k j, false⟩], hR6, by rw [List.length_append, wcells_app]; exact hO6, by simp; omega, HQ⟩⟩, ?_⟩
                        simp [intOf]; omega
    · clear hol
      rcases hbeg with ⟨rfl, rfl, x0, x1, x2, nb, hRS, HE⟩ | ⟨rfl, nb, l0, b0, x2, ws, hRS, hown, hwk, HE⟩
      · have HQ : Hid (entsB t = .inr (Z.map (·.1))) := by unfold Hid; rw [HE.out, ents_out hlt]
        obtain ⟨_, ⟨r0, r1, r2, rz⟩⟩ := hRS.c
        have z0 := rz 0
        have z1 := rz 1
        have z2 := rz 2
        obtain ⟨pv, cv, rfl, hvc⟩ := hRS.ez.vshape
        have HRS := hide2 hRS
        clear hRS HE
        go_wp2_with fail
        obtain ⟨q0, q1, q2⟩ := three_set r0 r1 r2 (.int .i64 0) (.string ⟨#[]⟩) (.int .i64 0)
        refine bodyPost_ret (v := .tuple #[.slice pv Z.length cv, .agg #[.int .i64 0, .string ⟨#[]⟩, .int .i64 0]]) (by simp [results, go_sem, q0, q1, q2]) rfl ?_
        rw [HQ.out]
        have hnb2 := HRS.out.nb2
        refine ⟨pv, cv, by simp, ?_, below_far (below_far (below_far HRS.out.b (Nat.le_refl _) _ _) (Nat.le_refl _) _ _) (Nat.le_refl _) _ _⟩
        exact EL.base ⟨Z, rfl, by simpa using ((HRS.out.ez.far (by omega) _ _).far (by omega) _ _).far (by omega) _ _⟩ (by omega)
      · have HQ0 : Hid (entsB t = cont t (Z.map (·.1)) l0 b0 (if o = 0 then .inr ((k + 1), (l + 1), ws) else .inl (10, o))) := by unfold Hid; rw [HE.out, ent, if_neg hlt]
        obtain ⟨p, cp, rfl, hpc, hpm, hpn⟩ := owns_shape2 hown
        obtain ⟨⟨e0, e1, e2, ez⟩, ⟨r0, r1, r2, rz⟩⟩ := hRS.c
        have z0 := rz 0
        have z1 := rz 1
        have z2 := rz 2
        by_cases ho : o = 0
        · subst ho
          by_cases hw0 : ws.length = 0
          · have HQ : Hid (entsB t = .inr (Z.map (·.1))) := by unfold Hid; rw [HQ0.out, if_pos rfl]; show ents t (k + 1) (l + 1) (putE _ _ _ _) = _; rw [ents_out (by omega)]; unfold putE; rw [if_pos hw0]
            rw [hw0] at e2
            obtain ⟨pv, cv, rfl, hvc⟩ := hRS.ez.vshape
            have HRS := hide2 hRS
            clear hRS HE HQ0 hown
            go_wp2_with fail
            obtain ⟨q0, q1, q2⟩ := three_set r0 r1 r2 (.int .i64 0) (.string ⟨#[]⟩) (.int .i64 0)
            refine bodyPost_ret (v := .tuple #[.slice pv Z.length cv, .agg #[.int .i64 0, .string ⟨#[]⟩, .int .i64 0]]) (by simp [results, go_sem, q0, q1, q2]) rfl ?_
            rw [HQ.out]
            have hnb2 := HRS.out.nb2
            refine ⟨pv, cv, by simp, ?_, below_far (below_far (below_far HRS.out.b (Nat.le_refl _) _ _) (Nat.le_refl _) _ _) (Nat.le_refl _) _ _⟩
            exact EL.base ⟨Z, rfl, by simpa using ((HRS.out.ez.far (by omega) _ _).far (by omega) _ _).far (by omega) _ _⟩ (by omega)
          · have HQ : Hid (entsB t = .inr (Z.map (·.1) ++ [⟨l0, b0, ws⟩])) := by unfold Hid; rw [HQ0.out, if_pos rfl]; show ents t (k + 1) (l + 1) (putE _ _ _ _) = _; rw [ents_out (by omega)]; unfold putE; rw [if_neg hw0]
            obtain ⟨b, rfl⟩ := owns_some2 hown (by omega)
            obtain ⟨nw, hnw⟩ : ∃ nw, ws.length = nw := ⟨_, rfl⟩
            have HN := hide2 hnw
            have hwp2 : (0 : Int) < (nw : Int) := by omega
            have HO := hide2 hRS.ez.own
            have HRS := hide2 hRS
            have HW := hide2 hown
            have hnb1 := hRS.nb1
            have hnb2 := hRS.nb2
            clear HE HQ0 hw0 hRS hown r0 r1 r2 rz z0 z1 z2
            rw [hnw] at e2
            go_wp2_with (at_builtin; refine wpList_append_lies _ rfl _ _ 22 rfl (w.heap.size + 2) 31 j0 (.agg #[.int .i64 0, .bool false, .slice none 0 0]) 3 40 Tryd.underlying22 hj hj0 hj1 hj2 rfl (by decide) u4 Z.length (ecells Z) rfl (HO.out.alloc _) ⟨_, 0, none⟩ 1 1 [.int .i64 (l0 : Int), .bool b0, .slice (some ⟨b, 0, none⟩) nw cp] rfl rfl (cells_new rfl #[.int .i64 (l0 : Int), .bool b0, .slice (some ⟨b, 0, none⟩) nw cp] 31) (by simp [Value.oneCell']) (by decide) (by unfold maxLen; omega) (by omega) (by simp; omega) _ rfl ?_; intro g6 cap6 w6 hown6 hgrow6 hpl6 _; have HR6 := hide2 (RS.entry (z := (⟨l0, b0, ws⟩, b, cp)) HRS.out HW.out hgrow6 (by rw [show encE (⟨l0, b0, ws⟩, b, cp) = [.int .i64 (l0 : Int), .bool b0, .slice (some ⟨b, 0, none⟩) nw cp] by unfold encE; simp only [HN.out]]; exact hown6) (by simpa using hpl6)); obtain ⟨_, ⟨r0, r1, r2, rz⟩⟩ := HR6.out.c; have z0 := rz 0; have z1 := rz 1; have z2 := rz 2; clear hown6 hgrow6 hpl6)
            obtain ⟨q0, q1, q2⟩ := three_set r0 r1 r2 (.int .i64 0) (.string ⟨#[]⟩) (.int .i64 0)
            refine bodyPost_ret (v := .tuple #[.slice (some ⟨g6, 0, none⟩) (Z.length + 1) cap6, .agg #[.int .i64 0, .string ⟨#[]⟩, .int .i64 0]]) (by simp [results, go_sem, q0, q1, q2]) rfl ?_
            rw [HQ.out]
            have hnb6 := HR6.out.nb2
            refine ⟨some ⟨g6, 0, none⟩, cap6, by simp, ?_, below_far (below_far (below_far HR6.out.b (Nat.le_refl _) _ _) (Nat.le_refl _) _ _) (Nat.le_refl _) _ _⟩
            exact EL.base ⟨Z ++ [(⟨l0, b0, ws⟩, b, cp)], by simp, by simpa using ((HR6.out.ez.far (by omega) _ _).far (by omega) _ _).far (by omega) _ _⟩ (by omega)
        · have HQ : Hid (entsB t = .inl (10, o)) := by unfold Hid; rw [HQ0.out, if_neg ho]; rfl
          have ho2 : (0 : Int) < (o : Int) := by omega
          have hB := hide2 hRS.b
          clear hRS hown HE HQ0
          go_wp2_with fail
          obtain ⟨q0, q1, q2⟩ := three_set r0 r1 r2 (.int .i64 10) (.string ⟨#[]⟩) (.int .i64 (o : Int))
          refine bodyPost_ret (v := .tuple #[.slice none 0 0, .agg #[.int .i64 10, .string ⟨#[]⟩, .int .i64 (o : Int)]]) (by simp [results, go_sem, q0, q1, q2]) rfl ?_
          rw [HQ.out]
          exact ⟨rfl, below_far (below_far (below_far hB.out (Nat.le_refl _) _ _) (Nat.le_refl _) _ _) (Nat.le_refl _) _ _⟩
end Go.Proofs.YtclonjmhbgllkaaDoor
