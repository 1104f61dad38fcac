import Derived.Test.YtfonnepnaeehhaaCom
import Derived.Deep.RegionHeld3
namespace Go.Proofs.Ytfonnepnaeehhaa
set_option linter.unusedVariables false
open Go.RowKit Go.Shelf Nm

theorem wrap_nat (d : Nat) (h : d ≤ 4294967296) : IntKind.i64.wrap (d : Int) = (d : Int) := by
  have e := Go.IntWalk.wrap64_in (d : Int) ⟨by omega, by omega⟩
  rw [Go.IntWalk.i64_left, e]
theorem below_any {B : Nat} {a b b' c : World} (h : Below B a b) (k : Below b'.heap.size b' c) (e : b' = b ∨ b' = b.drew) (hB : B ≤ b.heap.size) : Below B a c := by
  rcases e with rfl | rfl
  · exact bstep h k hB
  · exact bstep h.drew k hB
def lenOf : Value → Nat | .slice _ n _ => n | _ => 0

set_option maxRecDepth 100000 in
set_option maxHeartbeats 2000000 in
/-- gazetteerref1.Compare -/
theorem refCompare_yes (a b : ByteArray) (w : World) (ha : a.size ≤ 1048576) (hb : b.size ≤ 1048576) (h1 : isN a = true) (h2 : isN b = true) :
    Calls Try.prog 10 #[.string a, .string b] w fun e w' => e = .returned (.int .i64 (cmpB a b)) ∧ Below w.heap.size w w' := by
  have HC : Hid (cmpB a b = cmpL ((labs a).map lowB).reverse ((labs b).map lowB).reverse) := cmpB_yes h1 h2
  have hal := labs_len_le h1
  have hbl := labs_len_le h2
  have HMA : Hid (∀ x ∈ labs a, x.size ≤ 63) := fun x hx => (labs_mem hx).2
  have HMB : Hid (∀ x ∈ labs b, x.size ≤ 63) := fun x hx => (labs_mem hx).2
  go_enter Try.func10, Try.ntmps10
  go_wp2_with fail
  refine (split_yes a _ ha h1).mono ?_
  rintro e w1 ⟨px, cx, rfl, ⟨hpx, hcx, hcx2, _⟩, hB1⟩
  go_wp2_with fail
  refine (split_yes b _ hb h2).mono ?_
  rintro e w2 ⟨py, cy, rfl, ⟨hpy, hcy, hcy2, _⟩, hB2⟩
  have hpx2 := hpx.below hB2
  have hBx := ext_t hB1 hB2
  clear hpx hB1 hB2
  go_wp2
  go_loopw [5, 7] (fun xv yv wr => ∃ i j : Nat, xv = .slice px i cx ∧ yv = .slice py j cy ∧ i ≤ (labs a).length ∧ j ≤ (labs b).length ∧
      Hid (cmpB a b = cmpL (((labs a).take i).map lowB).reverse (((labs b).take j).map lowB).reverse) ∧ Below w2.heap.size w2 wr)
    (fun xv _ _ => lenOf xv)
  case atStart => exact ⟨(labs a).length, (labs b).length, rfl, rfl, Nat.le_refl _, Nat.le_refl _, by rw [List.take_of_length_le (Nat.le_refl _), List.take_of_length_le (Nat.le_refl _)]; exact HC.out, Below.refl _ _⟩
  case round =>
    obtain ⟨i, j, rfl, rfl, hi, hj, HI, hB⟩ := hrel
    by_cases i0 : i = 0
    · subst i0
      by_cases j0 : j = 0
      · subst j0
        have HV : Hid (cmpB a b = 0) := by unfold Hid; rw [HI.out]; rfl
        go_wp2
        go_ret
        exact ⟨by rw [HV.out]; rfl, hBx.trans (hB.mono hBx.size)⟩
      · have HV : Hid (cmpB a b = -1) := by
          unfold Hid; rw [HI.out]
          cases hd : (((labs b).take j).map lowB).reverse with
          | nil => have := congrArg List.length hd; simp only [List.length_reverse, List.length_map, List.length_take, List.length_nil] at this; omega
          | cons => rfl
        have j0' : ((j : Int) == 0) = false := by rw [beq_eq_false_iff_ne]; omega
        go_wp2
        go_ret
        exact ⟨by rw [HV.out]; rfl, hBx.trans (hB.mono hBx.size)⟩
    · have i0' : ((i : Int) == 0) = false := by rw [beq_eq_false_iff_ne]; omega
      by_cases j0 : j = 0
      · subst j0
        have HV : Hid (cmpB a b = 1) := by
          unfold Hid; rw [HI.out]
          cases hd : (((labs a).take i).map lowB).reverse with
          | nil => have := congrArg List.length hd; simp only [List.length_reverse, List.length_map, List.length_take, List.length_nil] at this; omega
          | cons => rfl
        go_wp2
        go_ret
        exact ⟨by rw [HV.out]; rfl, hBx.trans (hB.mono hBx.size)⟩
      · have j0' : ((j : Int) == 0) = false := by rw [beq_eq_false_iff_ne]; omega
        obtain ⟨dx, hdx, hdx1, HDX⟩ : ∃ d : Nat, (i : Int) - 1 = (d : Int) ∧ d < (labs a).length ∧ Hid (i = d + 1) := ⟨i - 1, by omega, by omega, by unfold Hid; omega⟩
        obtain ⟨dy, hdy, hdy1, HDY⟩ : ∃ d : Nat, (j : Int) - 1 = (d : Int) ∧ d < (labs b).length ∧ Hid (j = d + 1) := ⟨j - 1, by omega, by omega, by unfold Hid; omega⟩
        have hdi : dx < i := by omega
        have hdj : dy < j := by omega
        have hdi' : (dx : Int) < (i : Int) := by omega
        have hdj' : (dy : Int) < (j : Int) := by omega
        have hdi0 : (0 : Int) ≤ (dx : Int) := by omega
        have hdj0 : (0 : Int) ≤ (dy : Int) := by omega
        have hwi : IntKind.i64.wrap ((i : Int) - 1) = (dx : Int) := by rw [hdx]; exact wrap_nat dx (by omega)
        have hwj : IntKind.i64.wrap ((j : Int) - 1) = (dy : Int) := by rw [hdy]; exact wrap_nat dy (by omega)
        have hwi2 : IntKind.i64.wrap (dx : Int) = (dx : Int) := wrap_nat dx (by omega)
        have hwj2 : IntKind.i64.wrap (dy : Int) = (dy : Int) := wrap_nat dy (by omega)
        obtain ⟨gx, ox, rfl, hgx, hcx0⟩ := hpx2 dx hdx1
        obtain ⟨gy, oy, rfl, hgy, hcy0⟩ := hpy dy hdy1
        have hcx1 := (hB.cell (p := ⟨gx, ox + dx, none⟩) hgx).trans hcx0
        have hcy1 := (hB.cell (p := ⟨gy, oy + dy, none⟩) hgy).trans hcy0
        have hxs : (labs a)[dx].size ≤ 1048576 := by have := HMA.out _ (List.getElem_mem hdx1); omega
        have hys : (labs b)[dy].size ≤ 1048576 := by have := HMB.out _ (List.getElem_mem hdy1); omega
        have HI2 : Hid (cmpB a b = cmpL (lowB (labs a)[dx] :: (((labs a).take dx).map lowB).reverse) (lowB (labs b)[dy] :: (((labs b).take dy).map lowB).reverse)) := by
          unfold Hid
          rw [HI.out, HDX.out, HDY.out, List.take_succ_eq_append_getElem hdx1, List.take_succ_eq_append_getElem hdy1, List.map_append, List.map_append, List.reverse_append, List.reverse_append]
          rfl
        generalize (labs a)[dx] = X at *
        generalize (labs b)[dy] = Y at *
        have hless1 := cb_less (lowB X) (lowB Y)
        have hr := cb_range (lowB X) (lowB Y)
        by_cases hc : cb (lowB X) (lowB Y) = 0
        · have HX : Hid (cmpB a b = cmpL (((labs a).take dx).map lowB).reverse (((labs b).take dy).map lowB).reverse) := by
            unfold Hid; rw [HI2.out]; simp only [cmpL]; rw [if_pos hc]
          have hl1 : Op.bytesLess (lowB X).toList (lowB Y).toList = false := by rw [hless1, hc]; rfl
          have hl2 : ((lowB X).toList == (lowB Y).toList) = true := by rw [(cb_zero _ _).1 hc]; exact beq_self_eq_true _
          clear hless1 hr hc HI HI2
          go_wp2_with fail
          go_region_held3 (fun w' => w'.cell? ⟨gx, ox + dx, none⟩ = some (.string X) ∧ w'.cell? ⟨gy, oy + dy, none⟩ = some (.string Y)) (first | go_keep | exact ⟨hcx1, hcy1⟩) ((go_at_call 19; refine (low_any _ _ ?_).mono ?_; assumption; rintro e w5 ⟨rfl, hB5⟩; have hB := below_any hB hB5 (by first | exact .inl rfl | exact .inr rfl) hB.size; have hcx1 := (hB.cell (p := ⟨gx, ox + dx, none⟩) hgx).trans hcx0; have hcy1 := (hB.cell (p := ⟨gy, oy + dy, none⟩) hgy).trans hcy0; clear hB5))
          go_wp2
          go_quiet (fail)
          go_wp2
          all_goals
            go_roundw
            case rel => exact ⟨dx, dy, rfl, rfl, by omega, by omega, HX, below_drewN hB _⟩
            case measure => simp [lenOf]; omega
        · have HX : Hid (cmpB a b = cb (lowB X) (lowB Y)) := by
            unfold Hid; rw [HI2.out]; simp only [cmpL]; rw [if_neg hc]
          have hl2 : ((lowB X).toList == (lowB Y).toList) = false := by rw [beq_eq_false_iff_ne]; intro e; exact hc ((cb_zero _ _).2 (toList_inj.1 e))
          by_cases hneg : cb (lowB X) (lowB Y) = -1
          · have hl1 : Op.bytesLess (lowB X).toList (lowB Y).toList = true := by rw [hless1, hneg]; rfl
            have HV : Hid (cmpB a b = -1) := by unfold Hid; rw [HX.out, hneg]
            clear hless1 hr hc HI HI2 hneg
            go_wp2_with fail
            go_region_held3 (fun w' => w'.cell? ⟨gx, ox + dx, none⟩ = some (.string X) ∧ w'.cell? ⟨gy, oy + dy, none⟩ = some (.string Y)) (first | go_keep | exact ⟨hcx1, hcy1⟩) ((go_at_call 19; refine (low_any _ _ ?_).mono ?_; assumption; rintro e w5 ⟨rfl, hB5⟩; have hB := below_any hB hB5 (by first | exact .inl rfl | exact .inr rfl) hB.size; have hcx1 := (hB.cell (p := ⟨gx, ox + dx, none⟩) hgx).trans hcx0; have hcy1 := (hB.cell (p := ⟨gy, oy + dy, none⟩) hgy).trans hcy0; clear hB5))
            go_wp2
            go_ret
            exact ⟨by rw [HV.out]; rfl, hBx.trans (hB.mono hBx.size)⟩
          · have hl1 : Op.bytesLess (lowB X).toList (lowB Y).toList = false := by rw [hless1]; exact decide_eq_false hneg
            have HV : Hid (cmpB a b = 1) := by unfold Hid; rw [HX.out]; omega
            clear hless1 hr hc HI HI2 hneg
            go_wp2_with fail
            go_region_held3 (fun w' => w'.cell? ⟨gx, ox + dx, none⟩ = some (.string X) ∧ w'.cell? ⟨gy, oy + dy, none⟩ = some (.string Y)) (first | go_keep | exact ⟨hcx1, hcy1⟩) ((go_at_call 19; refine (low_any _ _ ?_).mono ?_; assumption; rintro e w5 ⟨rfl, hB5⟩; have hB := below_any hB hB5 (by first | exact .inl rfl | exact .inr rfl) hB.size; have hcx1 := (hB.cell (p := ⟨gx, ox + dx, none⟩) hgx).trans hcx0; have hcy1 := (hB.cell (p := ⟨gy, oy + dy, none⟩) hgy).trans hcy0; clear hB5))
            go_wp2
            go_ret
            exact ⟨by rw [HV.out]; rfl, hBx.trans (hB.mono hBx.size)⟩

theorem refCompare_any (a b : ByteArray) (w : World) (ha : a.size ≤ 1048576) (hb : b.size ≤ 1048576) :
    Calls Try.prog 10 #[.string a, .string b] w fun e w' => e = .returned (.int .i64 (cmpB a b)) ∧ Below w.heap.size w w' := by
  by_cases hall : isN a = true ∧ isN b = true
  · exact refCompare_yes a b w ha hb hall.1 hall.2
  · have HV : Hid (cmpB a b = 0) := cmpB_no hall
    have hB0 := Below.refl w.heap.size w
    cases h1 : isN a with
    | false =>
      clear hall
      go_enter Try.func10, Try.ntmps10
      go_wp2_with (go_at_call 18; refine (split_any _ _ (by assumption)).mono ?_; rintro e w1 ⟨v, rfl, _, hB1⟩; have hB0 := ext_t hB0 hB1; clear hB1)
      go_ret
      refine ⟨by rw [HV.out]; rfl, ?_⟩
      assumption
    | true =>
      have h2 : isN b = false := by
        cases h2 : isN b with
        | false => rfl
        | true => exact absurd ⟨h1, h2⟩ hall
      clear hall
      go_enter Try.func10, Try.ntmps10
      go_wp2_with (go_at_call 18; refine (split_any _ _ (by assumption)).mono ?_; rintro e w1 ⟨v, rfl, _, hB1⟩; have hB0 := ext_t hB0 hB1; clear hB1)
      go_ret
      refine ⟨by rw [HV.out]; rfl, ?_⟩
      assumption
end Go.Proofs.Ytfonnepnaeehhaa
