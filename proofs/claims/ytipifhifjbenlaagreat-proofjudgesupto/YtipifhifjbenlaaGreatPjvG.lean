import Derived.Test.YtipifhifjbenlaaGreatSk8G
import Derived.Test.YtipifhifjbenlaaGreatPjeG
import Derived.Test.YtipifhifjbenlaaGreatPjt
import Derived.Test.YtipifhifjbenlaaGreatPu1
import Derived.Test.YtipifhifjbenlaaGreatPu2
import Derived.Test.YtipifhifjbenlaaGreatPu3
import Derived.Test.YtipifhifjbenlaaGreatPu4
import Derived.Test.YtipifhifjbenlaaGreatPrW
import Derived.Test.YtipifhifjbenlaaGreatPrtG
import Derived.Test.YtipifhifjbenlaaGreatRf1G
/-
  Proofs: what the reference asks of an NSEC3 is what the program asks, plainly. (The verifier's own text.)
-/
namespace Go.Proofs.YtipifhifjbenlaaGreat
set_option linter.unusedVariables false
set_option linter.unusedSimpArgs false
open Go.RowKit Go.Shelf Go.Proofs.YtipifhifjbenlaaGreat.Nm

theorem two_first {d : ByteArray} (h : 2 ≤ d.size) : ((d.extract 0 2).toList == [1, 0]) = true ↔ (d.extract 0 1).toList = [1] ∧ (d.extract 1 2).toList = [0] := by
  have hd : ∃ x y r, d.data.toList = x :: y :: r := by
    have hl : d.data.toList.length = d.size := rfl
    match hm : d.data.toList with
    | [] => rw [hm] at hl; simp at hl; omega
    | [x] => rw [hm] at hl; simp at hl; omega
    | x :: y :: r => exact ⟨x, y, r, rfl⟩
  obtain ⟨x, y, r, hx⟩ := hd
  rw [beq_iff_eq, toList_eq, toList_eq, toList_eq]
  simp only [ByteArray.data_extract, Array.toList_extract, List.extract_eq_take_drop, hx]
  simp
theorem par_count {o apex : ByteArray} (hw : withinB o apex = true) : (0 < (labs o).length ∧ eqB (parB o) apex = true) ↔ ((labs o).length : Int) = cntI apex + 1 := by
  obtain ⟨n1, n2, n3, n4⟩ := (withinB_iff o apex).1 hw
  rw [cntI_yes n2]
  constructor
  · rintro ⟨h1, h2⟩
    obtain ⟨e1, e2, e3⟩ := (eqB_iff _ _).1 h2
    have hp : parB o = tailB o (((labs o).length - 1 : Nat) : Int) := by
      unfold parB
      rw [cntI_yes n1]
      congr 1
      omega
    obtain ⟨t1, t2, t3⟩ := tailB_yes n1 (show (labs o).length - 1 ≤ (labs o).length by omega)
    rw [hp, t2] at e3
    have := congrArg List.length e3
    simp only [List.length_map, List.length_drop] at this
    omega
  · intro h
    have hl : (labs o).length = (labs apex).length + 1 := by omega
    refine ⟨by omega, ?_⟩
    have hp : parB o = tailB o (((labs o).length - 1 : Nat) : Int) := by
      unfold parB
      rw [cntI_yes n1]
      congr 1
      omega
    obtain ⟨t1, t2, t3⟩ := tailB_yes n1 (show (labs o).length - 1 ≤ (labs o).length by omega)
    rw [eqB_iff, hp]
    refine ⟨t1, n2, ?_⟩
    rw [t2]
    rw [show (labs o).length - ((labs o).length - 1) = (labs o).length - (labs apex).length by omega]
    exact n4
theorem oh_size {o apex : ByteArray} (hw : withinB o apex = true) : (ohB apex o).size = 10 ↔ (0 < (labs o).length ∧ eqB (parB o) apex = true ∧ ∃ y, fromB 5 d32 (lowB ((labs o).headD .empty)) = some y ∧ (bts y).size = 10) := by
  rw [← and_assoc, par_count hw]
  unfold ohB
  by_cases h : ((labs o).length : Int) = cntI apex + 1
  · rw [if_pos h]
    cases hf : fromB 5 d32 (lowB ((labs o).headD .empty)) with
    | none =>
      constructor
      · intro e; cases e
      · rintro ⟨_, y, hy, _⟩; cases hy
    | some l =>
      constructor
      · intro e; exact ⟨h, l, rfl, e⟩
      · rintro ⟨_, y, hy, hz⟩; obtain rfl := Option.some.inj hy; exact hz
  · rw [if_neg h]
    constructor
    · intro e; cases e
    · intro e; exact absurd e.1 h
theorem oh_some {o apex : ByteArray} {y : List Nat} (hw : withinB o apex = true) (h1 : 0 < (labs o).length) (h2 : eqB (parB o) apex = true) (hy : fromB 5 d32 (lowB ((labs o).headD .empty)) = some y) : ohB apex o = bts y := by
  unfold ohB
  rw [if_pos ((par_count hw).1 ⟨h1, h2⟩), hy]
theorem ext2J (d : ByteArray) (a b x y : Nat) (h : a + y ≤ b) : (d.extract a b).extract x y = d.extract (a + x) (a + y) := by
  apply ByteArray.ext
  rw [ByteArray.data_extract, ByteArray.data_extract, ByteArray.data_extract, Array.extract_extract, Nat.min_eq_left h]
/-- the parts of an NSEC3, as both read them -/
theorem parts3 {d : ByteArray} (h1 : 5 + slZ d < d.size) (h2 : 6 + slZ d + hsZ d ≤ d.size) : ((d.extract 4 (5 + slZ d)).extract 1 (d.extract 4 (5 + slZ d)).size = sl3 d) ∧ ((d.extract (5 + slZ d) (6 + slZ d + hsZ d)).extract 1 (d.extract (5 + slZ d) (6 + slZ d + hsZ d)).size = nx3 d) ∧ d.extract (6 + slZ d + hsZ d) d.size = ts3 d ∧ (nx3 d).size = hsZ d := by
  unfold sl3 nx3 ts3 rs3
  generalize slZ d = s at *
  generalize hsZ d = z at *
  have z1 : (d.extract 4 (5 + s)).size = 1 + s := by rw [size_extract' _ _ _ (by omega)]; omega
  have z2 : (d.extract (5 + s) (6 + s + z)).size = 1 + z := by rw [size_extract' _ _ _ h2]; omega
  have z3 : (d.extract (5 + s) d.size).size = d.size - (5 + s) := by rw [size_extract' _ _ _ (Nat.le_refl _)]
  refine ⟨?_, ?_, ?_, ?_⟩
  · rw [z1, ext2J _ _ _ _ _ (by omega), show 4 + (1 + s) = 5 + s by omega]
  · rw [z2, ext2J _ _ _ _ _ (by omega), ext2J _ _ _ _ _ (by omega)]
  · rw [z3, ext2J _ _ _ _ _ (by omega), show 5 + s + (1 + z) = 6 + s + z by omega, show 5 + s + (d.size - (5 + s)) = d.size by omega]
  · rw [size_extract' _ _ _ (by omega)]
    omega
theorem ok3_iff {apex o d : ByteArray} (hw : withinB o apex = true) (h1 : 5 + slZ d < d.size) (h2 : 6 + slZ d + hsZ d ≤ d.size) : ok3 apex o d = true ↔ ((d.extract 0 1).toList = [1] ∧ (d.extract 1 2).toList = [0] ∧ rd3 d ≤ 50 ∧ (nx3 d).size = 10 ∧ 0 < (labs o).length ∧ eqB (parB o) apex = true ∧ ∃ y, fromB 5 d32 (lowB ((labs o).headD .empty)) = some y ∧ (bts y).size = 10) := by
  unfold ok3
  rw [Bool.and_eq_true, Bool.and_eq_true, Bool.and_eq_true, decide_eq_true_eq, decide_eq_true_eq, decide_eq_true_eq, two_first (by omega), oh_size hw, (parts3 h1 h2).2.2.2]
  constructor
  · rintro ⟨⟨a, b⟩, c, ⟨e, f, g⟩, k⟩
    exact ⟨a, b, c, k, e, f, g⟩
  · rintro ⟨a, b, c, k, e, f, g⟩
    exact ⟨⟨a, b⟩, c, ⟨e, f, g⟩, k⟩
end Go.Proofs.YtipifhifjbenlaaGreat

/-
  Proofs: the reference's Use, at any record. (The verifier's own text.)
-/
namespace Go.Proofs.YtipifhifjbenlaaGreat
set_option linter.unusedVariables false
set_option linter.unusedSimpArgs false
open Go.RowKit Go.Shelf Go.Maps Go.Proofs.YtipifhifjbenlaaGreat.Nm

theorem fromB_len {s : ByteArray} {y : List Nat} (hs : s.size ≤ 1000) (h : fromB 5 d32 s = some y) : y.length ≤ 1048576 := by
  unfold fromB at h
  split at h
  · cases h
  · split at h
    · obtain rfl := Option.some.inj h
      refine Nat.le_trans (codeP_len (by decide) _ _ (Nat.le_refl _)) ?_
      rw [List.length_take, bitsL_len, List.length_map, lst_len]
      omega
    · cases h
set_option maxHeartbeats 4000000 in
/-- Use, at an NSEC3 -/
theorem use_nsec3 (apex : ByteArray) (i : Nat) (o d : ByteArray) (c l : Int) (w : World) (ha : apex.size ≤ 1048576) (ho : o.size ≤ 1048576) (hd : d.size ≤ 9223372036854775807) (h : rgB apex ⟨o, 50, c, l, d⟩ = true) :
    Calls Tryz.prog 34 #[.string apex, .agg #[.string o, .int .i64 50, .int .i64 c, .int .i64 l, .string d]] w fun e w' => UseEnd apex i ⟨o, 50, c, l, d⟩ w w' e ∧ Below w.heap.size w w' := by
  have hr := h
  unfold rgB at hr
  rw [Bool.and_eq_true] at hr
  obtain ⟨m1, m2, m3, m4, ⟨ll, m5⟩, m6⟩ := nsec3_form (zon_err hr.2).2
  have hN : isN o = true := (zon_err hr.2).1
  dsimp only at m1 m2 m3 m4 m5 m6
  have hw : withinB o apex = true := hr.1
  obtain ⟨q1, q2, q3, q4⟩ := parts3 m1 m2
  have HZ : Hid (∀ W, Calls Tryz.prog 52 #[.agg #[.string o, .int .i64 50, .int .i64 c, .int .i64 l, .string d]] W fun r w' => r = .returned (.bool true) ∧ Below W.heap.size W w') := fun W => by
    have := zonal_any o d 50 c l W ho hd
    rw [show zonB o d 50 c l = true from hr.2] at this
    exact this
  have HW : Hid (∀ W, Calls Tryz.prog 13 #[.string o, .string apex] W fun r w' => r = .returned (.bool true) ∧ Below W.heap.size W w') := fun W => by
    have := refWithin_any o apex W ho ha
    rw [hw] at this
    exact this
  have HF : Hid (∀ W, Calls Tryz.prog 54 #[.int .i64 50] W fun r w' => r = .returned (.string (formK [.num 1, .num 1, .num 2, .salt, .hash, .set])) ∧ w' = W) := fun W => by
    have := form_any 50 W
    rw [formB_kinds kinds50] at this
    exact this
  have HP : Hid (∀ W, Calls Tryz.prog 53 #[.string (formK [.num 1, .num 1, .num 2, .salt, .hash, .set]), .string d] W fun r w' => (∃ g cp, r = .returned (.tuple #[.slice (some ⟨g, 0, none⟩) 6 cp, .bool true]) ∧ w'.ownsRow W.heap.size 9 1 (.slice (some ⟨g, 0, none⟩) 6 cp) 6 ([d.extract 0 1, d.extract 1 2, d.extract 2 4, d.extract 4 (5 + slZ d), d.extract (5 + slZ d) (6 + slZ d + hsZ d), d.extract (6 + slZ d + hsZ d) d.size].map Value.string)) ∧ Below W.heap.size W w') := fun W => by
    have hp := refParts_any [.num 1, .num 1, .num 2, .salt, .hash, .set] d W m4 (by decide) ((kinds_ok kinds50).resolve_left (by decide)).1
    rw [parts_of kinds50 m6] at hp
    refine hp.mono ?_
    rintro e w' ⟨⟨p, cp, rfl, hop⟩, hB⟩
    obtain ⟨g, c', hq⟩ := owns_some hop (by simp)
    injection hq with e1 e2 e3
    subst e1
    exact ⟨⟨g, cp, rfl, hop⟩, hB⟩
  have HV : Hid (∀ W, Calls Tryz.prog 56 #[.string (d.extract 2 4)] W fun r w' => r = .returned (.int .i64 (rd3 d : Int)) ∧ w' = W) := fun W => by
    have hz : (d.extract 2 4).size = 2 := by rw [size_extract' _ _ _ (by omega)]
    have := refValue4_any (d.extract 2 4) W (by omega)
    rw [hz] at this
    exact this
  have HT : Hid (∀ W, Calls Tryz.prog 55 #[.string (d.extract (6 + slZ d + hsZ d) d.size)] W fun r w' => (∃ v, r = .returned (.tuple #[v, .int .i64 0]) ∧ w'.ownsRow W.heap.size 3 1 v ll.length (nums ll)) ∧ Below W.heap.size W w') := fun W => by
    have := refTypes_any (d.extract (6 + slZ d + hsZ d) d.size) W (by rw [size_extract' _ _ _ (Nat.le_refl _)]; omega)
    rw [m5] at this
    exact this
  have HS : Hid (∀ W, Calls Tryz.prog 35 #[.string o] W fun r w' => (∃ p cs, r = .returned (.tuple #[.slice p (labs o).length cs, .bool true]) ∧ StrsAt w' p (labs o)) ∧ Below W.heap.size W w') := fun W => by
    refine (split_own o W ho hN).mono ?_
    rintro e w' ⟨p, cs, rfl, ⟨h1, _⟩, hB⟩
    exact ⟨⟨p, cs, rfl, h1⟩, hB⟩
  have HPA := hide' (fun W => refParent_any o W ho)
  have HEQ := hide' (fun W => equalName_any (parB o) apex W (by have := tailB_size o (cntI o - 1); unfold parB; omega) ha)
  have hx63 : ∀ x, (labs o).head? = some x → x.size ≤ 63 ∧ (labs o).headD .empty = x := fun x hx => by
    refine ⟨(labs_mem (List.mem_of_head? hx)).2, ?_⟩
    rw [List.headD_eq_head?_getD, hx]
    rfl
  have HFR : Hid (∀ W x, (labs o).head? = some x → Calls Tryz.prog 58 #[.string x] W fun r w' => r = fromEnd (fromB 5 d32 (lowB ((labs o).headD .empty))) ∧ Below W.heap.size W w') := fun W x hx => by
    obtain ⟨e1, e2⟩ := hx63 x hx
    rw [e2]
    exact refFrom32_any x W (by omega)
  have h3 : 1 ≤ (d.extract 4 (5 + slZ d)).size := by rw [size_extract' _ _ _ (by omega)]; omega
  have h4 : 1 ≤ (d.extract (5 + slZ d) (6 + slZ d + hsZ d)).size := by rw [size_extract' _ _ _ m2]; omega
  have hrv : rd3 d ≤ 65535 := by have := vN_lt (d.extract 2 4) 2; unfold rd3; omega
  have hnz : (nx3 d).size ≤ 65535 := by omega
  have hLo : (labs o).length ≤ 1048576 := by have := labs_len_le hN; omega
  have hok := ok3_iff hw m1 m2
  have HNQ : nqOf apex i ⟨o, 50, c, l, d⟩ = [] := by unfold nqOf; rw [if_neg (fun e => by cases e.1)]
  have hno : ok3 apex o d = false → hqOf apex i ⟨o, 50, c, l, d⟩ = [] := fun e => by unfold hqOf; rw [if_neg (fun e2 => by have e3 := e2.2.2; dsimp only at e3; rw [e] at e3; cases e3)]
  have hfalse : ∀ (P : Prop), (ok3 apex o d = true → P) → ¬ P → ok3 apex o d = false := fun P h1 h2 => by
    cases hh : ok3 apex o d with
    | false => rfl
    | true => exact absurd (h1 hh) h2
  have hNO : ok3 apex o d = false → ∀ e w', ((∃ x, e = Ending.returned (.tuple #[gA x, .bool false])) ∧ Below w.heap.size w w') → UseEnd apex i ⟨o, 50, c, l, d⟩ w w' e ∧ Below w.heap.size w w' := fun hf e w' he => by
    obtain ⟨⟨x, rfl⟩, hB⟩ := he
    exact ⟨use_no x HNQ (hno hf), hB⟩
  by_cases c0 : (d.extract 0 1).toList = [1]
  rotate_left
  · exact (use3_no0 apex o d c l w (d.extract 0 1) (d.extract 1 2) (d.extract 2 4) (d.extract 4 (5 + slZ d)) (d.extract (5 + slZ d) (6 + slZ d + hsZ d)) (d.extract (6 + slZ d + hsZ d) d.size) (formK [.num 1, .num 1, .num 2, .salt, .hash, .set]) (sl3 d) (nx3 d) ll (rd3 d) (labs o) (eqB (parB o) apex) (parB o) (fromB 5 d32 (lowB ((labs o).headD .empty))) HZ HW HF HP HV HT HS HPA HEQ HFR h3 h4 q1 q2 hrv hnz hLo c0).mono (hNO (hfalse _ (fun h => (hok.1 h).1) c0))
  by_cases c1 : (d.extract 1 2).toList = [0]
  rotate_left
  · exact (use3_no1 apex o d c l w (d.extract 0 1) (d.extract 1 2) (d.extract 2 4) (d.extract 4 (5 + slZ d)) (d.extract (5 + slZ d) (6 + slZ d + hsZ d)) (d.extract (6 + slZ d + hsZ d) d.size) (formK [.num 1, .num 1, .num 2, .salt, .hash, .set]) (sl3 d) (nx3 d) ll (rd3 d) (labs o) (eqB (parB o) apex) (parB o) (fromB 5 d32 (lowB ((labs o).headD .empty))) HZ HW HF HP HV HT HS HPA HEQ HFR h3 h4 q1 q2 hrv hnz hLo c0 c1).mono (hNO (hfalse _ (fun h => (hok.1 h).2.1) c1))
  by_cases c2 : rd3 d ≤ 50
  rotate_left
  · exact (use3_no2 apex o d c l w (d.extract 0 1) (d.extract 1 2) (d.extract 2 4) (d.extract 4 (5 + slZ d)) (d.extract (5 + slZ d) (6 + slZ d + hsZ d)) (d.extract (6 + slZ d + hsZ d) d.size) (formK [.num 1, .num 1, .num 2, .salt, .hash, .set]) (sl3 d) (nx3 d) ll (rd3 d) (labs o) (eqB (parB o) apex) (parB o) (fromB 5 d32 (lowB ((labs o).headD .empty))) HZ HW HF HP HV HT HS HPA HEQ HFR h3 h4 q1 q2 hrv hnz hLo c0 c1 c2).mono (hNO (hfalse _ (fun h => (hok.1 h).2.2.1) c2))
  by_cases c3 : (nx3 d).size = 10
  rotate_left
  · exact (use3_no3 apex o d c l w (d.extract 0 1) (d.extract 1 2) (d.extract 2 4) (d.extract 4 (5 + slZ d)) (d.extract (5 + slZ d) (6 + slZ d + hsZ d)) (d.extract (6 + slZ d + hsZ d) d.size) (formK [.num 1, .num 1, .num 2, .salt, .hash, .set]) (sl3 d) (nx3 d) ll (rd3 d) (labs o) (eqB (parB o) apex) (parB o) (fromB 5 d32 (lowB ((labs o).headD .empty))) HZ HW HF HP HV HT HS HPA HEQ HFR h3 h4 q1 q2 hrv hnz hLo c0 c1 c2 c3).mono (hNO (hfalse _ (fun h => (hok.1 h).2.2.2.1) c3))
  by_cases c4 : 0 < (labs o).length
  rotate_left
  · exact (use3_no4 apex o d c l w (d.extract 0 1) (d.extract 1 2) (d.extract 2 4) (d.extract 4 (5 + slZ d)) (d.extract (5 + slZ d) (6 + slZ d + hsZ d)) (d.extract (6 + slZ d + hsZ d) d.size) (formK [.num 1, .num 1, .num 2, .salt, .hash, .set]) (sl3 d) (nx3 d) ll (rd3 d) (labs o) (eqB (parB o) apex) (parB o) (fromB 5 d32 (lowB ((labs o).headD .empty))) HZ HW HF HP HV HT HS HPA HEQ HFR h3 h4 q1 q2 hrv hnz hLo c0 c1 c2 c3 c4).mono (hNO (hfalse _ (fun h => (hok.1 h).2.2.2.2.1) c4))
  cases c5 : eqB (parB o) apex with
  | false =>
    exact (use3_no5 apex o d c l w (d.extract 0 1) (d.extract 1 2) (d.extract 2 4) (d.extract 4 (5 + slZ d)) (d.extract (5 + slZ d) (6 + slZ d + hsZ d)) (d.extract (6 + slZ d + hsZ d) d.size) (formK [.num 1, .num 1, .num 2, .salt, .hash, .set]) (sl3 d) (nx3 d) ll (rd3 d) (labs o) (eqB (parB o) apex) (parB o) (fromB 5 d32 (lowB ((labs o).headD .empty))) HZ HW HF HP HV HT HS HPA HEQ HFR h3 h4 q1 q2 hrv hnz hLo c0 c1 c2 c3 c4 c5).mono (hNO (hfalse _ (fun h => (hok.1 h).2.2.2.2.2.1) (by rw [c5]; decide)))
  | true =>
    cases c6 : fromB 5 d32 (lowB ((labs o).headD .empty)) with
    | none =>
      exact (use3_no6 apex o d c l w (d.extract 0 1) (d.extract 1 2) (d.extract 2 4) (d.extract 4 (5 + slZ d)) (d.extract (5 + slZ d) (6 + slZ d + hsZ d)) (d.extract (6 + slZ d + hsZ d) d.size) (formK [.num 1, .num 1, .num 2, .salt, .hash, .set]) (sl3 d) (nx3 d) ll (rd3 d) (labs o) (eqB (parB o) apex) (parB o) (fromB 5 d32 (lowB ((labs o).headD .empty))) HZ HW HF HP HV HT HS HPA HEQ HFR h3 h4 q1 q2 hrv hnz hLo c0 c1 c2 c3 c4 c5 c6).mono (hNO (hfalse _ (fun h => (hok.1 h).2.2.2.2.2.2) (by rw [c6]; rintro ⟨y, hy, _⟩; cases hy)))
    | some yy =>
      have hyl : yy.length ≤ 1048576 := by
        refine fromB_len ?_ c6
        cases hh : (labs o).head? with
        | none => rw [List.head?_eq_none_iff] at hh; rw [hh] at c4; simp at c4
        | some x =>
          obtain ⟨e1, e2⟩ := hx63 x hh
          rw [e2, lowB_size]
          omega
      by_cases c7 : (bts yy).size = 10
      · refine (use3_yes apex o d c l w (d.extract 0 1) (d.extract 1 2) (d.extract 2 4) (d.extract 4 (5 + slZ d)) (d.extract (5 + slZ d) (6 + slZ d + hsZ d)) (d.extract (6 + slZ d + hsZ d) d.size) (formK [.num 1, .num 1, .num 2, .salt, .hash, .set]) (sl3 d) (nx3 d) ll (rd3 d) (labs o) (eqB (parB o) apex) (parB o) (fromB 5 d32 (lowB ((labs o).headD .empty))) HZ HW HF HP HV HT HS HPA HEQ HFR h3 h4 q1 q2 hrv hnz hLo c0 c1 c2 c3 c4 c5 yy hyl c6 c7).mono ?_
        rintro e w' ⟨⟨x, rfl, hnums, hfr, x1, x2, x3, x4, x5, x0, y, hy, x6⟩, hB⟩
        obtain rfl : yy = y := Option.some.inj (c6.symm.trans hy)
        have hok2 : ok3 apex o d = true := hok.2 ⟨c0, c1, c2, c3, c4, c5, yy, c6, c7⟩
        have hq : hqOf apex i ⟨o, 50, c, l, d⟩ = [⟨(i : Int), ts3 d, rd3 d, sl3 d, ohB apex o, nx3 d⟩] := by unfold hqOf; rw [if_pos ⟨rfl, h, hok2⟩]
        refine ⟨⟨x, true, rfl, fun e => (by cases e), fun _ => ⟨hnums, hfr, .inr ⟨_, hq, HNQ, x1, x2, ?_, x3, x4, ?_, by rw [x0]; exact ho⟩⟩⟩, hB⟩
        · show x.ow = ohB apex o
          rw [oh_some hw c4 c5 c6, x6]
        · show typB (ts3 d) = some x.ty
          rw [x5, ← q3]
          exact m5
      · exact (use3_no7 apex o d c l w (d.extract 0 1) (d.extract 1 2) (d.extract 2 4) (d.extract 4 (5 + slZ d)) (d.extract (5 + slZ d) (6 + slZ d + hsZ d)) (d.extract (6 + slZ d + hsZ d) d.size) (formK [.num 1, .num 1, .num 2, .salt, .hash, .set]) (sl3 d) (nx3 d) ll (rd3 d) (labs o) (eqB (parB o) apex) (parB o) (fromB 5 d32 (lowB ((labs o).headD .empty))) HZ HW HF HP HV HT HS HPA HEQ HFR h3 h4 q1 q2 hrv hnz hLo c0 c1 c2 c3 c4 c5 yy hyl c6 c7).mono (hNO (hfalse _ (fun h => (hok.1 h).2.2.2.2.2.2) (by rw [c6]; rintro ⟨y, hy, hys⟩; obtain rfl := Option.some.inj hy; exact c7 hys)))
/-- Use -/
theorem use_any (apex : ByteArray) (i : Nat) (r : Rn) (w : World) (ha : apex.size ≤ 1048576) (ho : r.o.size ≤ 1048576) (hd : r.d.size ≤ 9223372036854775807) :
    Calls Tryz.prog 34 #[.string apex, .agg #[.string r.o, .int .i64 r.t, .int .i64 r.c, .int .i64 r.l, .string r.d]] w fun e w' => UseEnd apex i r w w' e ∧ Below w.heap.size w w' := by
  obtain ⟨o, t, c, l, d⟩ := r
  by_cases h : rgB apex ⟨o, t, c, l, d⟩ = true ∧ (t = 47 ∨ t = 50)
  · obtain ⟨h1, h2⟩ := h
    rcases h2 with rfl | rfl
    · exact use_nsec apex i o d c l w ha ho hd h1
    · exact use_nsec3 apex i o d c l w ha ho hd h1
  · exact use_early apex i o d t c l w ha ho hd h
end Go.Proofs.YtipifhifjbenlaaGreat
