import Derived.Test.YtoabnpdoicbpiaaGreatMathG
import Derived.Lib.Bytealg
namespace Go.Proofs.YtoabnpdoicbpiaaGreat.Nm
set_option linter.unusedVariables false
structure IsST (x y : List ByteArray) (k : Nat) : Prop where
 lx : k ≤ x.length
 ly : k ≤ y.length
 same : ∀ j, j < k → x[x.length - 1 - j]? = y[y.length - 1 - j]?
 parts : k < x.length → k < y.length → x[x.length - 1 - k]? ≠ y[y.length - 1 - k]?
end Go.Proofs.YtoabnpdoicbpiaaGreat.Nm
namespace Go.Proofs.YtoabnpdoicbpiaaGreat.Nm
set_option linter.unusedVariables false
theorem cbl_zero : ∀ l m : List UInt8, Go.Lib.compareBytes l m = 0 ↔ l = m
 | [], [] => by simp [Go.Lib.compareBytes]
 | [], _ :: _ => by simp [Go.Lib.compareBytes]
 | _ :: _, [] => by simp [Go.Lib.compareBytes]
 | a :: l, b :: m => by
  unfold Go.Lib.compareBytes
  split
  ·rename_i h
   simp only [List.cons.injEq]
   constructor
   ·intro h; cases h
   ·rintro ⟨rfl, _⟩; exact absurd h (UInt8.lt_irrefl _)
  ·split
   ·rename_i h
    simp only [List.cons.injEq]
    constructor
    ·intro h; cases h
    ·rintro ⟨rfl, _⟩; exact absurd h (UInt8.lt_irrefl _)
   ·rename_i h1 h2
    have : a = b := UInt8.le_antisymm (UInt8.not_lt.1 h2) (UInt8.not_lt.1 h1)
    subst this
    rw [cbl_zero l m]; simp
theorem cbl_range : ∀ l m : List UInt8, Go.Lib.compareBytes l m = -1 ∨ Go.Lib.compareBytes l m = 0 ∨ Go.Lib.compareBytes l m = 1
 | [], [] => by simp [Go.Lib.compareBytes]
 | [], _ :: _ => by simp [Go.Lib.compareBytes]
 | _ :: _, [] => by simp [Go.Lib.compareBytes]
 | a :: l, b :: m => by
  unfold Go.Lib.compareBytes
  split
  ·exact .inl rfl
  ·split
   ·exact .inr (.inr rfl)
   ·exact cbl_range l m
theorem cbl_less : ∀ l m : List UInt8, Go.Op.bytesLess l m = decide (Go.Lib.compareBytes l m = -1)
 | [], [] => by simp [Go.Lib.compareBytes, Go.Op.bytesLess]
 | [], _ :: _ => by simp [Go.Lib.compareBytes, Go.Op.bytesLess]
 | _ :: _, [] => by simp [Go.Lib.compareBytes, Go.Op.bytesLess]
 | a :: l, b :: m => by
  unfold Go.Lib.compareBytes Go.Op.bytesLess
  split
  ·rename_i h; simp [h]
  ·rename_i h
   split
   ·rename_i h2
    have : ¬ a = b := fun e => by subst e; exact UInt8.lt_irrefl _ h2
    simp [h, this]
   ·rename_i h2
    have : a = b := UInt8.le_antisymm (UInt8.not_lt.1 h2) (UInt8.not_lt.1 h)
    subst this
    rw [cbl_less l m]; simp
theorem cbl_anti : ∀ l m : List UInt8, Go.Lib.compareBytes m l = - Go.Lib.compareBytes l m
 | [], [] => by simp [Go.Lib.compareBytes]
 | [], _ :: _ => by simp [Go.Lib.compareBytes]
 | _ :: _, [] => by simp [Go.Lib.compareBytes]
 | a :: l, b :: m => by
  unfold Go.Lib.compareBytes
  by_cases h1 : a < b
  ·have h2 : ¬ b < a := UInt8.not_lt.2 (UInt8.le_of_lt h1)
   rw [if_neg h2, if_pos h1, if_pos h1]; rfl
  ·by_cases h2 : b < a
   ·rw [if_pos h2, if_neg h1, if_pos h2]
   ·rw [if_neg h2, if_neg h1, if_neg h1, if_neg h2]; exact cbl_anti l m
def cb (a b : ByteArray) : Int := Go.Lib.compareBytes a.data.toList b.data.toList
theorem cb_zero (a b : ByteArray) : cb a b = 0 ↔ a = b := by
 unfold cb
 rw [cbl_zero]
 constructor
 ·intro h; apply ByteArray.ext; exact Array.toList_inj.1 h
 ·intro h; rw [h]
theorem cb_range (a b : ByteArray) : cb a b = -1 ∨ cb a b = 0 ∨ cb a b = 1 := cbl_range _ _
theorem cb_less (a b : ByteArray) : Go.Op.bytesLess a.toList b.toList = decide (cb a b = -1) := by rw [toList_eq, toList_eq]; exact cbl_less _ _
theorem cb_anti (a b : ByteArray) : cb b a = - cb a b := cbl_anti _ _
def cmpL : List ByteArray → List ByteArray → Int
 | [], [] => 0
 | [], _ :: _ => -1
 | _ :: _, [] => 1
 | a :: l, b :: m => if cb a b = 0 then cmpL l m else cb a b
theorem cmpL_drop : ∀ (k : Nat) (P Q : List ByteArray), k ≤ P.length → k ≤ Q.length → (∀ j, j < k → P[j]? = Q[j]?) → cmpL P Q = cmpL (P.drop k) (Q.drop k)
 | 0, P, Q, _, _, _ => rfl
 | k + 1, [], Q, h, _, _ => by simp at h
 | k + 1, _ :: _, [], _, h, _ => by simp at h
 | k + 1, p :: P, q :: Q, h1, h2, hs => by
  have h0 := hs 0 (by omega)
  simp at h0
  subst h0
  rw [List.drop_succ_cons, List.drop_succ_cons, ← cmpL_drop k P Q (by simpa using h1) (by simpa using h2) (fun j hj => by simpa using hs (j + 1) (by omega))]
  simp [cmpL, (cb_zero p p).2 rfl]
theorem rev_get (X : List ByteArray) (j : Nat) (h : j < X.length) : X.reverse[j]? = X[X.length - 1 - j]? := by
 rw [List.getElem?_reverse h]
theorem IsST.cmp {X Y : List ByteArray} {k : Nat} (h : IsST X Y k) :
  cmpL X.reverse Y.reverse = cmpL (X.reverse.drop k) (Y.reverse.drop k) := by
 have hx := h.lx
 have hy := h.ly
 apply cmpL_drop k _ _ (by simpa using hx) (by simpa using hy)
 intro j hj
 rw [rev_get _ _ (by omega), rev_get _ _ (by omega)]
 exact h.same j hj
def sgnI (a b : Int) : Int := if a < b then -1 else if b < a then 1 else 0
theorem IsST.cmp_end {X Y : List ByteArray} {k : Nat} (h : IsST X Y k) (he : k = X.length ∨ k = Y.length) : cmpL X.reverse Y.reverse = sgnI X.length Y.length := by
 rw [h.cmp]
 have hx := h.lx
 have hy := h.ly
 unfold sgnI
 rcases he with rfl | rfl
 ·rw [List.drop_of_length_le (by simp)]
  by_cases e : Y.length = X.length
  ·rw [List.drop_of_length_le (by simp; omega), if_neg (by omega), if_neg (by omega)]; rfl
  ·rw [if_pos (by omega)]
   cases hd : Y.reverse.drop X.length with
   | nil => have := congrArg List.length hd; simp at this; omega
   | cons => rfl
 ·rw [List.drop_of_length_le (l := Y.reverse) (by simp)]
  by_cases e : Y.length = X.length
  ·rw [List.drop_of_length_le (by simp; omega), if_neg (by omega), if_neg (by omega)]; rfl
  ·rw [if_neg (by omega), if_pos (by omega)]
   cases hd : X.reverse.drop Y.length with
   | nil => have := congrArg List.length hd; simp at this; omega
   | cons => rfl
theorem IsST.cmp_mid {X Y : List ByteArray} {k : Nat} (h : IsST X Y k) (h1 : k < X.length) (h2 : k < Y.length) :
  cmpL X.reverse Y.reverse = cb (X[X.length - 1 - k]'(by omega)) (Y[Y.length - 1 - k]'(by omega)) := by
 rw [h.cmp]
 have hp := h.parts h1 h2
 rw [List.getElem?_eq_getElem (by omega), List.getElem?_eq_getElem (by omega)] at hp
 rw [List.drop_eq_getElem_cons (l := X.reverse) (by simpa using h1), List.drop_eq_getElem_cons (l := Y.reverse) (by simpa using h2)]
 simp only [cmpL]
 rw [List.getElem_reverse, List.getElem_reverse, if_neg]
 intro e
 exact hp (by rw [(cb_zero _ _).1 e])
def cmpB (a b : ByteArray) : Int := if isN a = true ∧ isN b = true then cmpL ((labs a).map lowB).reverse ((labs b).map lowB).reverse else 0
theorem cmpB_yes {a b : ByteArray} (ha : isN a = true) (hb : isN b = true) : cmpB a b = cmpL ((labs a).map lowB).reverse ((labs b).map lowB).reverse := by unfold cmpB; rw [if_pos ⟨ha, hb⟩]
theorem cmpB_no {a b : ByteArray} (h : ¬ (isN a = true ∧ isN b = true)) : cmpB a b = 0 := by unfold cmpB; rw [if_neg h]
end Go.Proofs.YtoabnpdoicbpiaaGreat.Nm
namespace Go.Proofs.YtoabnpdoicbpiaaGreat.Nm
set_option linter.unusedVariables false
theorem cbl_trans : ∀ l m n : List UInt8, Go.Lib.compareBytes l m ≤ 0 → Go.Lib.compareBytes m n ≤ 0 → Go.Lib.compareBytes l n ≤ 0
 | [], _, [], _, _ => by simp [Go.Lib.compareBytes]
 | [], _, _ :: _, _, _ => by simp [Go.Lib.compareBytes]
 | _ :: _, [], _, h, _ => by simp [Go.Lib.compareBytes] at h
 | _ :: _, _ :: _, [], _, h => by simp [Go.Lib.compareBytes] at h
 | a :: l, b :: m, c :: n, h1, h2 => by
  unfold Go.Lib.compareBytes at h1 h2 ⊢
  by_cases ab : a < b
  ·by_cases bc : b < c
   ·rw [if_pos (UInt8.lt_trans ab bc)]; decide
   ·rw [if_neg bc] at h2
    by_cases cb : c < b
    ·rw [if_pos cb] at h2; exact absurd h2 (by decide)
    ·have : b = c := UInt8.le_antisymm (UInt8.not_lt.1 cb) (UInt8.not_lt.1 bc)
     subst this
     rw [if_pos ab]; decide
  ·rw [if_neg ab] at h1
   by_cases ba : b < a
   ·rw [if_pos ba] at h1; exact absurd h1 (by decide)
   ·rw [if_neg ba] at h1
    have : a = b := UInt8.le_antisymm (UInt8.not_lt.1 ba) (UInt8.not_lt.1 ab)
    subst this
    by_cases ac : a < c
    ·rw [if_pos ac]; decide
    ·rw [if_neg ac] at h2 ⊢
     by_cases ca : c < a
     ·rw [if_pos ca] at h2; exact absurd h2 (by decide)
     ·rw [if_neg ca] at h2 ⊢
      exact cbl_trans l m n h1 h2
theorem cb_trans {a b c : ByteArray} (h : cb a b ≤ 0) (k : cb b c ≤ 0) : cb a c ≤ 0 := cbl_trans _ _ _ h k
theorem cmpL_range : ∀ P Q, cmpL P Q = -1 ∨ cmpL P Q = 0 ∨ cmpL P Q = 1
 | [], [] => .inr (.inl rfl)
 | [], _ :: _ => .inl rfl
 | _ :: _, [] => .inr (.inr rfl)
 | a :: l, b :: m => by
  unfold cmpL; split
  ·exact cmpL_range l m
  ·exact cb_range a b
theorem cmpL_anti : ∀ P Q, cmpL Q P = - cmpL P Q
 | [], [] => rfl
 | [], _ :: _ => rfl
 | _ :: _, [] => rfl
 | a :: l, b :: m => by
  unfold cmpL
  have := cb_anti a b
  by_cases h : cb a b = 0
  ·rw [if_pos h, if_pos (by omega)]; exact cmpL_anti l m
  ·rw [if_neg h, if_neg (by omega)]; exact this
theorem cmpL_zero : ∀ P Q, cmpL P Q = 0 ↔ P = Q
 | [], [] => by simp [cmpL]
 | [], _ :: _ => by simp [cmpL]
 | _ :: _, [] => by simp [cmpL]
 | a :: l, b :: m => by
  unfold cmpL
  by_cases h : cb a b = 0
  ·rw [if_pos h, cmpL_zero l m, (cb_zero a b).1 h]; simp
  ·rw [if_neg h]
   constructor
   ·intro e; exact absurd e h
   ·intro e; exact absurd ((cb_zero a b).2 (List.cons.inj e).1) h
theorem cmpL_trans : ∀ P Q R, cmpL P Q ≤ 0 → cmpL Q R ≤ 0 → cmpL P R ≤ 0
 | [], _, [], _, _ => by simp [cmpL]
 | [], _, _ :: _, _, _ => by simp [cmpL]
 | _ :: _, [], _, h, _ => by simp [cmpL] at h
 | _ :: _, _ :: _, [], _, h => by simp [cmpL] at h
 | a :: l, b :: m, c :: n, h1, h2 => by
  unfold cmpL at h1 h2 ⊢
  by_cases ab : cb a b = 0
  ·rw [if_pos ab] at h1
   obtain rfl := (cb_zero a b).1 ab
   by_cases bc : cb a c = 0
   ·rw [if_pos bc] at h2 ⊢; exact cmpL_trans l m n h1 h2
   ·rw [if_neg bc] at h2 ⊢; exact h2
  ·rw [if_neg ab] at h1
   by_cases bc : cb b c = 0
   ·obtain rfl := (cb_zero b c).1 bc
    rw [if_neg ab]; exact h1
   ·rw [if_neg bc] at h2
    have h3 := cb_trans h1 h2
    by_cases ac : cb a c = 0
    ·obtain rfl := (cb_zero a c).1 ac
     have := cb_anti a b
     omega
    ·rw [if_neg ac]; exact h3
theorem cmpL_pre : ∀ P Q : List ByteArray, P <+: Q → cmpL P Q ≤ 0
 | [], [], _ => by simp [cmpL]
 | [], _ :: _, _ => by simp [cmpL]
 | _ :: _, [], h => by simp at h
 | a :: l, b :: m, h => by
  rw [List.cons_prefix_cons] at h
  obtain ⟨rfl, h⟩ := h
  unfold cmpL
  rw [if_pos ((cb_zero a a).2 rfl)]
  exact cmpL_pre l m h
theorem cmpL_between : ∀ P Q R : List ByteArray, cmpL P Q ≤ 0 → cmpL Q R ≤ 0 → P <+: R → P <+: Q
 | [], Q, _, _, _, _ => List.nil_prefix
 | a :: l, [], _, h, _, _ => by simp [cmpL] at h
 | a :: l, b :: m, [], _, _, h => by simp at h
 | a :: l, b :: m, c :: n, h1, h2, h => by
  rw [List.cons_prefix_cons] at h
  obtain ⟨rfl, h⟩ := h
  unfold cmpL at h1 h2
  have ha := cb_anti a b
  have hab : cb a b = 0 := by
   by_cases e : cb a b = 0
   ·exact e
   ·rw [if_neg e] at h1
    rw [if_neg (by omega)] at h2
    omega
  rw [if_pos hab] at h1
  rw [if_pos (by omega)] at h2
  rw [List.cons_prefix_cons]
  exact ⟨(cb_zero a b).1 hab, cmpL_between l m n h1 h2 h⟩
theorem withinB_pre {n z : ByteArray} (hn : isN n = true) (hz : isN z = true) : withinB n z = true ↔ ((labs z).map lowB).reverse <+: ((labs n).map lowB).reverse := by
 rw [withinB_iff, List.reverse_prefix]
 constructor
 ·rintro ⟨_, _, h3, h4⟩
  refine ⟨((labs n).take ((labs n).length - (labs z).length)).map lowB, ?_⟩
  rw [← h4, ← List.map_append, List.take_append_drop]
 ·rintro ⟨t, ht⟩
  have hl := congrArg List.length ht
  simp at hl
  refine ⟨hn, hz, by omega, ?_⟩
  rw [List.map_drop, ← ht, List.drop_left' (by omega)]
structure Ordered (a b c : ByteArray) (x y z x' : Int) (e wba wca : Bool) : Prop where
 anti : x' = -x
 rng : x = -1 ∨ x = 0 ∨ x = 1
 eq : e = decide (x = 0)
 yr : y = -1 ∨ y = 0 ∨ y = 1
 t1 : x ≤ 0 → y ≤ 0 → z ≤ 0
 t2 : x ≤ 0 → y < 0 → z < 0
 t3 : x < 0 → y ≤ 0 → z < 0
 w1 : wba = true → x ≤ 0
 w2 : x ≤ 0 → y ≤ 0 → wca = true → wba = true
theorem ordered {a b c : ByteArray} (ha : isN a = true) (hb : isN b = true) (hc : isN c = true) : Ordered a b c (cmpB a b) (cmpB b c) (cmpB a c) (cmpB b a) (eqB a b) (withinB b a) (withinB c a) := by
 rw [cmpB_yes ha hb, cmpB_yes hb hc, cmpB_yes ha hc, cmpB_yes hb ha]
 have hwb := withinB_pre hb ha
 have hwc := withinB_pre hc ha
 have heq : eqB a b = true ↔ ((labs a).map lowB).reverse = ((labs b).map lowB).reverse := by
  rw [eqB_iff, List.reverse_inj]; simp [ha, hb]
 generalize ((labs a).map lowB).reverse = P at *
 generalize ((labs b).map lowB).reverse = Q at *
 generalize ((labs c).map lowB).reverse = R at *
 have hzero := cmpL_zero P Q
 have strict : ∀ P Q R : List ByteArray, cmpL P Q ≤ 0 → cmpL Q R ≤ 0 → (cmpL P Q < 0 ∨ cmpL Q R < 0) → cmpL P R < 0 := by
  intro P Q R h1 h2 h3
  have h4 := cmpL_trans P Q R h1 h2
  by_cases e : cmpL P R = 0
  ·obtain rfl := (cmpL_zero P R).1 e
   have := cmpL_anti P Q
   omega
  ·omega
 refine ⟨cmpL_anti P Q, cmpL_range P Q, ?_, cmpL_range Q R, cmpL_trans P Q R, fun h1 h2 => strict P Q R h1 (by omega) (.inr h2), fun h1 h2 => strict P Q R (by omega) h2 (.inl h1), fun h => cmpL_pre _ _ (hwb.1 h), fun h1 h2 h3 => hwb.2 (cmpL_between P Q R h1 h2 (hwc.1 h3))⟩
 rw [Bool.eq_iff_iff, heq, decide_eq_true_iff, hzero]
end Go.Proofs.YtoabnpdoicbpiaaGreat.Nm
namespace Go.Proofs.YtoabnpdoicbpiaaGreat.Nm
set_option linter.unusedVariables false
end Go.Proofs.YtoabnpdoicbpiaaGreat.Nm
namespace Go.Proofs.YtoabnpdoicbpiaaGreat.Nm
set_option linter.unusedVariables false
def isStarB (s : ByteArray) : Bool := isN s && decide (bt s 0 = 1 ∧ bt s 1 = 42)
theorem toList_bt (a b : ByteArray) : (a.toList == b.toList) = decide (a = b) := by
 rw [Bool.eq_iff_iff, beq_iff_eq, toList_inj, decide_eq_true_iff]
theorem prefix_star {s : ByteArray} (hz : 2 ≤ s.size) : ((s.extract 0 2).toList == [1, 42]) = decide (bt s 0 = 1 ∧ bt s 1 = 42) := by
 have e : ([1, 42] : List UInt8) = (⟨#[1, 42]⟩ : ByteArray).toList := by rw [toList_eq]
 rw [e, toList_bt]
 rw [Bool.eq_iff_iff, decide_eq_true_iff, decide_eq_true_iff]
 constructor
 ·intro h
  have h0 := congrArg (fun t => bt t 0) h
  have h1 := congrArg (fun t => bt t 1) h
  rw [bt_extract _ _ _ _ (by omega) hz] at h0 h1
  exact ⟨h0, h1⟩
 ·rintro ⟨h0, h1⟩
  apply ba_ext
  ·rw [size_extract' _ _ _ hz]; rfl
  ·intro j hj
   rw [size_extract' _ _ _ hz] at hj
   rw [bt_extract _ _ _ _ (by omega) hz]
   have : j = 0 ∨ j = 1 := by omega
   rcases this with rfl | rfl
   ·exact h0
   ·exact h1
theorem isStar_first {s : ByteArray} (h : isN s = true) (hl : 0 < (labs s).length) : ((labs s)[0].toList == [42]) = decide (bt s 0 = 1 ∧ bt s 1 = 42) := by
 have hg : GoodL s 0 := by
  by_cases g : GoodL s 0
  ·exact g
  ·unfold labs at hl; rw [labsFrom_bad g] at hl; simp at hl
 have e : (labs s)[0] = s.extract 1 (1 + bt s 0) := by
  have this : labs s = s.extract (0 + 1) (0 + 1 + bt s 0) :: labsFrom s (0 + 1 + bt s 0) := labsFrom_good hg
  have h0 : (labs s)[0]? = some (s.extract (0 + 1) (0 + 1 + bt s 0)) := by rw [this]; rfl
  rw [List.getElem?_eq_getElem hl] at h0
  rw [Option.some.inj h0, Nat.zero_add]
 have e42 : ([42] : List UInt8) = (⟨#[42]⟩ : ByteArray).toList := by rw [toList_eq]
 have hr := hg.room
 rw [e, e42, toList_bt, Bool.eq_iff_iff, decide_eq_true_iff, decide_eq_true_iff]
 constructor
 ·intro h2
  have hz := congrArg ByteArray.size h2
  rw [size_extract' _ _ _ (by omega), show (⟨#[42]⟩ : ByteArray).size = 1 from rfl] at hz
  have h0 := congrArg (fun t => bt t 0) h2
  rw [bt_extract _ _ _ _ (by omega) (by omega)] at h0
  exact ⟨by omega, h0⟩
 ·rintro ⟨h0, h1⟩
  apply ba_ext
  ·rw [size_extract' _ _ _ (by omega), h0]; rfl
  ·intro j hj
   rw [size_extract' _ _ _ (by omega)] at hj
   rw [bt_extract _ _ _ _ (by omega) (by omega)]
   have : j = 0 := by omega
   subst this
   exact h1
theorem isStar_short {s : ByteArray} (h : isN s = true) (hl : (labs s).length = 0) : bt s 0 = 0 ∧ s.size = 1 := by
 have hg : ¬ GoodL s 0 := fun g => by unfold labs at hl; rw [labsFrom_good g] at hl; simp at hl
 have := (isN_iff s).1 h
 rw [fin_bad hg] at this
 exact ⟨this.2.2, this.2.1.symm⟩
theorem isStar_long {s : ByteArray} (h : isN s = true) (hl : 0 < (labs s).length) : 3 ≤ s.size := by
 have h1 := putB_labs h
 have h2 := putB_size (labs s)
 rw [h1] at h2
 cases hL : labs s with
 | nil => rw [hL] at hl; simp at hl
 | cons x l =>
  have hx := labs_mem (s := s) (x := x) (by rw [hL]; simp)
  rw [hL, chunks_cons, ByteArray.size_append, chunk_size] at h2
  omega
end Go.Proofs.YtoabnpdoicbpiaaGreat.Nm
