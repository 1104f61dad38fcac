import Derived.Test.YtfonnepnaeehhaaMath9
namespace Go.Proofs.Ytfonnepnaeehhaa.Nm
set_option linter.unusedVariables false

theorem cbl_trans : ∀ l m n : List UInt8, Go.Lib.compareBytes l m ≤ 0 → Go.Lib.compareBytes m n ≤ 0 → Go.Lib.compareBytes l n ≤ 0
  | [], _, [], _, _ => by simp [Go.Lib.compareBytes]
  | [], _, _ :: _, _, _ => by simp [Go.Lib.compareBytes]
  | _ :: _, [], _, h, _ => by simp [Go.Lib.compareBytes] at h
  | _ :: _, _ :: _, [], _, h => by simp [Go.Lib.compareBytes] at h
  | a :: l, b :: m, c :: n, h1, h2 => by
    unfold Go.Lib.compareBytes at h1 h2 ⊢
    by_cases ab : a < b
    · by_cases bc : b < c
      · rw [if_pos (UInt8.lt_trans ab bc)]; decide
      · rw [if_neg bc] at h2
        by_cases cb : c < b
        · rw [if_pos cb] at h2; exact absurd h2 (by decide)
        · have : b = c := UInt8.le_antisymm (UInt8.not_lt.1 cb) (UInt8.not_lt.1 bc)
          subst this
          rw [if_pos ab]; decide
    · rw [if_neg ab] at h1
      by_cases ba : b < a
      · rw [if_pos ba] at h1; exact absurd h1 (by decide)
      · rw [if_neg ba] at h1
        have : a = b := UInt8.le_antisymm (UInt8.not_lt.1 ba) (UInt8.not_lt.1 ab)
        subst this
        by_cases ac : a < c
        · rw [if_pos ac]; decide
        · rw [if_neg ac] at h2 ⊢
          by_cases ca : c < a
          · rw [if_pos ca] at h2; exact absurd h2 (by decide)
          · rw [if_neg ca] at h2 ⊢
            exact cbl_trans l m n h1 h2
theorem cb_trans {a b c : ByteArray} (h : cb a b ≤ 0) (k : cb b c ≤ 0) : cb a c ≤ 0 := cbl_trans _ _ _ h k

theorem cmpL_range : ∀ P Q, cmpL P Q = -1 ∨ cmpL P Q = 0 ∨ cmpL P Q = 1
  | [], [] => .inr (.inl rfl)
  | [], _ :: _ => .inl rfl
  | _ :: _, [] => .inr (.inr rfl)
  | a :: l, b :: m => by
    unfold cmpL; split
    · exact cmpL_range l m
    · exact cb_range a b
theorem cmpL_anti : ∀ P Q, cmpL Q P = - cmpL P Q
  | [], [] => rfl
  | [], _ :: _ => rfl
  | _ :: _, [] => rfl
  | a :: l, b :: m => by
    unfold cmpL
    have := cb_anti a b
    by_cases h : cb a b = 0
    · rw [if_pos h, if_pos (by omega)]; exact cmpL_anti l m
    · rw [if_neg h, if_neg (by omega)]; exact this
theorem cmpL_zero : ∀ P Q, cmpL P Q = 0 ↔ P = Q
  | [], [] => by simp [cmpL]
  | [], _ :: _ => by simp [cmpL]
  | _ :: _, [] => by simp [cmpL]
  | a :: l, b :: m => by
    unfold cmpL
    by_cases h : cb a b = 0
    · rw [if_pos h, cmpL_zero l m, (cb_zero a b).1 h]; simp
    · rw [if_neg h]
      constructor
      · intro e; exact absurd e h
      · intro e; exact absurd ((cb_zero a b).2 (List.cons.inj e).1) h
theorem cmpL_trans : ∀ P Q R, cmpL P Q ≤ 0 → cmpL Q R ≤ 0 → cmpL P R ≤ 0
  | [], _, [], _, _ => by simp [cmpL]
  | [], _, _ :: _, _, _ => by simp [cmpL]
  | _ :: _, [], _, h, _ => by simp [cmpL] at h
  | _ :: _, _ :: _, [], _, h => by simp [cmpL] at h
  | a :: l, b :: m, c :: n, h1, h2 => by
    unfold cmpL at h1 h2 ⊢
    by_cases ab : cb a b = 0
    · rw [if_pos ab] at h1
      obtain rfl := (cb_zero a b).1 ab
      by_cases bc : cb a c = 0
      · rw [if_pos bc] at h2 ⊢; exact cmpL_trans l m n h1 h2
      · rw [if_neg bc] at h2 ⊢; exact h2
    · rw [if_neg ab] at h1
      by_cases bc : cb b c = 0
      · obtain rfl := (cb_zero b c).1 bc
        rw [if_neg ab]; exact h1
      · rw [if_neg bc] at h2
        have h3 := cb_trans h1 h2
        by_cases ac : cb a c = 0
        · obtain rfl := (cb_zero a c).1 ac
          have := cb_anti a b
          omega
        · rw [if_neg ac]; exact h3
theorem cmpL_pre : ∀ P Q : List ByteArray, P <+: Q → cmpL P Q ≤ 0
  | [], [], _ => by simp [cmpL]
  | [], _ :: _, _ => by simp [cmpL]
  | _ :: _, [], h => by simp at h
  | a :: l, b :: m, h => by
    rw [List.cons_prefix_cons] at h
    obtain ⟨rfl, h⟩ := h
    unfold cmpL
    rw [if_pos ((cb_zero a a).2 rfl)]
    exact cmpL_pre l m h
theorem cmpL_between : ∀ P Q R : List ByteArray, cmpL P Q ≤ 0 → cmpL Q R ≤ 0 → P <+: R → P <+: Q
  | [], Q, _, _, _, _ => List.nil_prefix
  | a :: l, [], _, h, _, _ => by simp [cmpL] at h
  | a :: l, b :: m, [], _, _, h => by simp at h
  | a :: l, b :: m, c :: n, h1, h2, h => by
    rw [List.cons_prefix_cons] at h
    obtain ⟨rfl, h⟩ := h
    unfold cmpL at h1 h2
    have ha := cb_anti a b
    have hab : cb a b = 0 := by
      by_cases e : cb a b = 0
      · exact e
      · rw [if_neg e] at h1
        rw [if_neg (by omega)] at h2
        omega
    rw [if_pos hab] at h1
    rw [if_pos (by omega)] at h2
    rw [List.cons_prefix_cons]
    exact ⟨(cb_zero a b).1 hab, cmpL_between l m n h1 h2 h⟩

theorem withinB_pre {n z : ByteArray} (hn : isN n = true) (hz : isN z = true) : withinB n z = true ↔ ((labs z).map lowB).reverse <+: ((labs n).map lowB).reverse := by
  rw [withinB_iff, List.reverse_prefix]
  constructor
  · rintro ⟨_, _, h3, h4⟩
    refine ⟨((labs n).take ((labs n).length - (labs z).length)).map lowB, ?_⟩
    rw [← h4, ← List.map_append, List.take_append_drop]
  · rintro ⟨t, ht⟩
    have hl := congrArg List.length ht
    simp at hl
    refine ⟨hn, hz, by omega, ?_⟩
    rw [List.map_drop, ← ht, List.drop_left' (by omega)]

/-- what the order of names is asked -/
structure Ordered (a b c : ByteArray) (x y z x' : Int) (e wba wca : Bool) : Prop where
  anti : x' = -x
  rng : x = -1 ∨ x = 0 ∨ x = 1
  eq : e = decide (x = 0)
  yr : y = -1 ∨ y = 0 ∨ y = 1
  t1 : x ≤ 0 → y ≤ 0 → z ≤ 0
  t2 : x ≤ 0 → y < 0 → z < 0
  t3 : x < 0 → y ≤ 0 → z < 0
  w1 : wba = true → x ≤ 0
  w2 : x ≤ 0 → y ≤ 0 → wca = true → wba = true
theorem ordered {a b c : ByteArray} (ha : isN a = true) (hb : isN b = true) (hc : isN c = true) : Ordered a b c (cmpB a b) (cmpB b c) (cmpB a c) (cmpB b a) (eqB a b) (withinB b a) (withinB c a) := by
  rw [cmpB_yes ha hb, cmpB_yes hb hc, cmpB_yes ha hc, cmpB_yes hb ha]
  have hwb := withinB_pre hb ha
  have hwc := withinB_pre hc ha
  have heq : eqB a b = true ↔ ((labs a).map lowB).reverse = ((labs b).map lowB).reverse := by
    rw [eqB_iff, List.reverse_inj]; simp [ha, hb]
  generalize ((labs a).map lowB).reverse = P at *
  generalize ((labs b).map lowB).reverse = Q at *
  generalize ((labs c).map lowB).reverse = R at *
  have hzero := cmpL_zero P Q
  have strict : ∀ P Q R : List ByteArray, cmpL P Q ≤ 0 → cmpL Q R ≤ 0 → (cmpL P Q < 0 ∨ cmpL Q R < 0) → cmpL P R < 0 := by
    intro P Q R h1 h2 h3
    have h4 := cmpL_trans P Q R h1 h2
    by_cases e : cmpL P R = 0
    · obtain rfl := (cmpL_zero P R).1 e
      have := cmpL_anti P Q
      omega
    · omega
  refine ⟨cmpL_anti P Q, cmpL_range P Q, ?_, cmpL_range Q R, cmpL_trans P Q R, fun h1 h2 => strict P Q R h1 (by omega) (.inr h2), fun h1 h2 => strict P Q R (by omega) h2 (.inl h1), fun h => cmpL_pre _ _ (hwb.1 h), fun h1 h2 h3 => hwb.2 (cmpL_between P Q R h1 h2 (hwc.1 h3))⟩
  rw [Bool.eq_iff_iff, heq, decide_eq_true_iff, hzero]
end Go.Proofs.Ytfonnepnaeehhaa.Nm
