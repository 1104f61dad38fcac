import Derived.Test.YtndkjnehkfleaaaTy1
import Derived.Test.YtndkjnehkfleaaaPrW
namespace Go.Proofs.Ytndkjnehkfleaaa
set_option linter.unusedVariables false
open Go.RowKit Go.Shelf Go.Proofs.Ytndkjnehkfleaaa.Nm

/-- the types of a set's blocks, whose numbers are above the last -/
def typF : Nat → Int → ByteArray → Option (List Nat)
  | 0, _, s => if s.size = 0 then some [] else none
  | f + 1, last, s =>
    if s.size = 0 then some []
    else if s.size < 2 then none
    else if (bt s 0 : Int) ≤ last ∨ bt s 1 < 1 ∨ 32 < bt s 1 then none
    else if s.size < 2 + bt s 1 then none
    else if bt s (1 + bt s 1) = 0 then none
    else (typF f (bt s 0) (s.extract (2 + bt s 1) s.size)).map (blkT (bt s 0) (s.extract 2 (2 + bt s 1)) (8 * bt s 1) ++ ·)
theorem typF_fuel : ∀ (f g : Nat) (last : Int) (s : ByteArray), s.size ≤ f → s.size ≤ g → typF f last s = typF g last s
  | 0, 0, _, _, _, _ => rfl
  | 0, g + 1, last, s, hf, hg => by
    have : s.size = 0 := by omega
    unfold typF; rw [if_pos this, if_pos this]
  | f + 1, 0, last, s, hf, hg => by
    have : s.size = 0 := by omega
    unfold typF; rw [if_pos this, if_pos this]
  | f + 1, g + 1, last, s, hf, hg => by
    unfold typF
    by_cases h0 : s.size = 0
    · rw [if_pos h0, if_pos h0]
    · rw [if_neg h0, if_neg h0, typF_fuel f g _ _ (by rw [size_extract' _ _ _ (Nat.le_refl _)]; omega) (by rw [size_extract' _ _ _ (Nat.le_refl _)]; omega)]
def typS (last : Int) (s : ByteArray) : Option (List Nat) := typF s.size last s
theorem typS_nil {last : Int} {s : ByteArray} (h : s.size = 0) : typS last s = some [] := by unfold typS; rw [h]; unfold typF; rw [if_pos h]
theorem typS_step {last : Int} {s : ByteArray} (h : s.size ≠ 0) : typS last s =
    if s.size < 2 then none
    else if (bt s 0 : Int) ≤ last ∨ bt s 1 < 1 ∨ 32 < bt s 1 then none
    else if s.size < 2 + bt s 1 then none
    else if bt s (1 + bt s 1) = 0 then none
    else (typS (bt s 0) (s.extract (2 + bt s 1) s.size)).map (blkT (bt s 0) (s.extract 2 (2 + bt s 1)) (8 * bt s 1) ++ ·) := by
  unfold typS
  obtain ⟨n, hn⟩ : ∃ n, s.size = n + 1 := ⟨s.size - 1, by omega⟩
  conv => lhs; rw [hn]; unfold typF
  rw [if_neg h, typF_fuel n (s.extract (2 + bt s 1) s.size).size _ _ (by rw [size_extract' _ _ _ (Nat.le_refl _)]; omega) (Nat.le_refl _)]
/-- the types of a set; none, if it is none -/
def typB (s : ByteArray) : Option (List Nat) := match typS (-1) s with
  | some l => if l.head? = some 0 then none else some l
  | none => none
theorem typB_none {s : ByteArray} (h : typS (-1) s = none) : typB s = none := by unfold typB; rw [h]
theorem typB_zero {s : ByteArray} {l : List Nat} (h : typS (-1) s = some l) (h0 : l.head? = some 0) : typB s = none := by unfold typB; rw [h]; simp [h0]
theorem typB_some {s : ByteArray} {l : List Nat} (h : typS (-1) s = some l) (h0 : l.head? ≠ some 0) : typB s = some l := by unfold typB; rw [h]; simp [h0]

def ssz : Value → Nat
  | .string r => r.size
  | _ => 0
theorem blkT_le {block : Nat} {s : ByteArray} (hb : block ≤ 255) : ∀ {k : Nat}, k ≤ 256 → ∀ x ∈ blkT block s k, x ≤ 65535
  | 0, _, x, hx => by cases hx
  | k + 1, hk, x, hx => by
    simp only [blkT] at hx
    split at hx
    · rcases List.mem_append.1 hx with h | h
      · exact blkT_le hb (by omega) x h
      · simp at h; omega
    · exact blkT_le hb (by omega) x hx
/-- how the types of a set end -/
def typEnd (w : World) (r : Option (List Nat)) (e : Ending) (w' : World) : Prop := match r with
  | some l => ∃ v, e = .returned v ∧ w'.ownsRow w.heap.size 3 1 v l.length (nums l)
  | none => e = .panicked (flt 7 0)

set_option maxRecDepth 100000 in
set_option maxHeartbeats 1000000 in
/-- data.typesOf -/
theorem typesOf_any (s : ByteArray) (w : World) (hs : s.size ≤ 1048576) :
    Calls Try.prog 85 #[.string s] w fun e w' => typEnd w (typB s) e w' ∧ Below w.heap.size w w' := by
  go_enter Try.func85, Try.ntmps85
  go_wp2_with fail
  go_loopw [0, 3, 4] (fun sv lv av wr => ∃ (r : ByteArray) (L : List Nat) (last : Int), sv = .string r ∧ av = .int .i64 last ∧ -1 ≤ last ∧ last ≤ 255 ∧ r.size ≤ s.size ∧ L.length + 8 * r.size ≤ 8 * s.size ∧ Hid (∀ x ∈ L, x ≤ 65535) ∧ Hid (typS (-1) s = (typS last r).map (L ++ ·)) ∧ wr.ownsRow w.heap.size 3 1 lv L.length (nums L) ∧ Below w.heap.size w wr) (fun sv _ _ _ => ssz sv)
  case atStart => exact ⟨s, [], -1, rfl, rfl, by omega, by omega, Nat.le_refl _, by simp, (fun x hx => by cases hx), by simp [Hid], World.ownsRow_nil _ _ _ _, Below.refl _ _⟩
  case round =>
    obtain ⟨r, L, last, rfl, rfl, hl1, hl2, hrs, hLn, HX, HT, hown, hBr⟩ := hrel
    by_cases h0 : r.size = 0
    · have he := isEmpty_true h0
      have HT2 : Hid (typS (-1) s = some L) := by unfold Hid; rw [HT.out, typS_nil h0]; simp
      obtain ⟨p, c, rfl, hpc, hc9, hsh⟩ := owns_shape hown
      clear HT h0
      cases L with
      | nil =>
        have HB : Hid (typB s = some []) := typB_some HT2.out (by simp)
        go_wp2
        go_ret
        exact ⟨by rw [HB.out]; exact ⟨_, rfl, hown⟩, hBr⟩
      | cons x l =>
        have hx := HX.out x (List.mem_cons_self ..)
        obtain ⟨g, rfl, hg1, hg2⟩ : ∃ g, p = some ⟨g, 0, none⟩ ∧ w.heap.size ≤ g ∧ g < wr.heap.size := by
          rcases hsh with ⟨_, h⟩ | h
          · simp at h
          · exact h
        have hcell : wr.cell? ⟨g, 0, none⟩ = some (.int .i64 (x : Int)) := by
          rw [hown.cellAt 0 (by simp)]; simp [nums]
        have hll : ((x :: l).length : Int) = (l.length : Int) + 1 := by simp
        by_cases hx0 : x = 0
        · subst hx0
          have HB : Hid (typB s = none) := typB_zero HT2.out (by simp)
          have HI : Hid (isTy (0 : Int) = false) := by unfold Hid isTy; decide
          clear hsh
          go_wp2_with (first
            | (go_at_call 35; refine (isType_any _ _).mono ?_; rintro e w2 ⟨rfl, rfl⟩; first | rw [HI.out] | rw [show isTy ((0 : Nat) : Int) = false from HI.out])
            | (go_at_call 22; refine (throw_any 7 0 _).mono ?_; rintro e w' ⟨rfl, rfl⟩))
          exact ⟨rfl, by rw [HB.out]; rfl, hBr⟩
        · have HB : Hid (typB s = some (x :: l)) := typB_some HT2.out (by simp; exact hx0)
          have HI : Hid (isTy (x : Int) = true) := by unfold Hid isTy; exact decide_eq_true (by omega)
          clear hsh hx0
          go_wp2_with (go_at_call 35; refine (isType_any _ _).mono ?_; rintro e w2 ⟨rfl, rfl⟩; rw [HI.out])
          go_ret
          exact ⟨by rw [HB.out]; exact ⟨_, rfl, hown⟩, hBr⟩
    · have he := isEmpty_false (r := r) (by omega)
      have HS := typS_step (last := last) h0
      have HNO : Hid (typS last r = none → typB s = none) := fun h => typB_none (by rw [HT.out, h]; rfl)
      have hr1 : r.size ≤ 1048576 := by omega
      clear h0
      by_cases h2 : r.size < 2
      · have HB : Hid (typB s = none) := HNO.out (by rw [HS, if_pos h2])
        clear HS HT
        go_wp2_with (go_at_call 58; refine (need_out r _ _ hr1 (by omega) (by omega)).mono ?_; rintro e w' ⟨rfl, rfl⟩)
        exact ⟨rfl, by rw [HB.out]; rfl, hBr⟩
      · rw [if_neg h2] at HS
        have hr2 : 2 ≤ r.size := by omega
        obtain ⟨b, hyb, HYb, hbl⟩ := bt_wrap (s := r) (i := 0) (by omega)
        obtain ⟨n, hyn, HYn, hnl⟩ := bt_wrap (s := r) (i := 1) (by omega)
        rw [HYb, HYn] at HS
        go_wp2_with (go_at_call 58; refine (need_in r _ _ hr1 (by omega) (by omega)).mono ?_; rintro e w' ⟨rfl, rfl⟩)
        go_quiet (fail)
        obtain ⟨wq, hwq⟩ : ∃ wq, w'.drewN nq = wq := ⟨_, rfl⟩
        have hownq : wq.ownsRow w.heap.size 3 1 u3 L.length (nums L) := hwq ▸ hown
        have hBq : Below w.heap.size w wq := hwq ▸ below_drewN hBr nq
        rw [hwq]
        clear hwq hown hBr hyb hyn
        by_cases hc1 : (b : Int) ≤ last ∨ n < 1 ∨ 32 < n
        · have HB : Hid (typB s = none) := HNO.out (by rw [HS, if_pos hc1])
          clear HS HT
          rcases (show (b : Int) ≤ last ∨ (last < (b : Int) ∧ n < 1) ∨ (last < (b : Int) ∧ 1 ≤ n ∧ 32 < n) by omega) with h | ⟨h, h'⟩ | ⟨h, h', h''⟩
          all_goals
            go_wp2_with (go_at_call 22; refine (throw_any 7 0 _).mono ?_; rintro e w' ⟨rfl, rfl⟩)
            exact ⟨rfl, by rw [HB.out]; rfl, hBq⟩
        · rw [if_neg hc1] at HS
          have hc1a : last < (b : Int) := by omega
          have hc1b : 1 ≤ n := by omega
          have hc1c : n ≤ 32 := by omega
          clear hc1
          by_cases hc2 : r.size < 2 + n
          · have HB : Hid (typB s = none) := HNO.out (by rw [HS, if_pos hc2])
            clear HS HT
            go_wp2_with (go_at_call 58; refine (need_out r _ _ hr1 (by omega) (by omega)).mono ?_; rintro e w' ⟨rfl, rfl⟩)
            exact ⟨rfl, by rw [HB.out]; rfl, hBq⟩
          · rw [if_neg hc2] at HS
            have hc2' : 2 + n ≤ r.size := by omega
            have hq : 1 + n < r.size := by omega
            obtain ⟨y, hy, HY, hyl⟩ := bt_wrap hq
            rw [HY] at HS
            have hidx : (2 : Int) + (n : Int) - 1 = ((1 + n : Nat) : Int) := by omega
            by_cases hc3 : y = 0
            · subst hc3
              have HB : Hid (typB s = none) := HNO.out (by rw [HS, if_pos rfl])
              clear HS HT HY
              go_wp2_with (first
                | (go_at_call 58; refine (need_in r _ _ hr1 (by omega) (by omega)).mono ?_; rintro e w' ⟨rfl, rfl⟩)
                | (go_at_call 22; refine (throw_any 7 0 _).mono ?_; rintro e w' ⟨rfl, rfl⟩))
              exact ⟨rfl, by rw [HB.out]; rfl, hBq⟩
            · rw [if_neg hc3] at HS
              have hy0 : ((y : Int) == 0) = false := by rw [beq_eq_false_iff_ne]; omega
              have hxz : (r.extract 2 (2 + n)).size = n := by rw [size_extract' _ _ _ hc2']; omega
              have hrz : (r.extract (2 + n) r.size).size = r.size - (2 + n) := size_extract' _ _ _ (Nat.le_refl _)
              obtain ⟨B1, hB1⟩ : ∃ B1, blkT b (r.extract 2 (2 + n)) (8 * n) = B1 := ⟨_, rfl⟩
              have HAB := appendBlock_any u3 L.length w.heap.size b (nums L) (r.extract 2 (2 + n)) wq hownq hbl (by omega) (by omega) hBq.size
              rw [hxz, hB1] at HAB
              rw [hB1] at HS
              have hB1n : B1.length ≤ 8 * n := by rw [← hB1]; exact blkT_len _ _ _
              have HXB : Hid (∀ x ∈ L ++ B1, x ≤ 65535) := fun x hx => by
                rcases List.mem_append.1 hx with h | h
                · exact HX.out x h
                · rw [← hB1] at h; exact blkT_le (by omega) (by omega) x h
              have HT2 : Hid (typS (-1) s = (typS (b : Int) (r.extract (2 + n) r.size)).map ((L ++ B1) ++ ·)) := by
                unfold Hid; rw [HT.out, HS, Option.map_map]; congr 1; funext q; simp
              have HABH := hide' HAB
              clear HS HT HY HAB hB1 hc3 HX HNO
              go_wp2_with (first
                | (go_at_call 58; refine (need_in r _ _ hr1 (by omega) (by omega)).mono ?_; rintro e w' ⟨rfl, rfl⟩)
                | (go_at_call 86; refine (HABH.out).mono ?_; rintro e w2 ⟨v2, rfl, hown2, hB2⟩))
              go_quiet (fail)
              go_wp2
              refine ⟨⟨r.extract (2 + n) r.size, L ++ B1, b, rfl, rfl, by omega, by omega, by omega, ?_, HXB, HT2, ?_, below_drewN (hBq.trans hB2) _⟩, ?_⟩
              · rw [List.length_append]; omega
              · rw [List.length_append]
                have e : nums (L ++ B1) = nums L ++ nums B1 := by simp [nums]
                rw [e]; exact hown2
              · show (r.extract (2 + n) r.size).size < r.size
                omega
end Go.Proofs.Ytndkjnehkfleaaa
