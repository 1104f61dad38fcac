import Derived.Laws.Closers25
namespace Go.Proofs.YtoabnpdoicbpiaaGreat.Nm
set_option linter.unusedVariables false
def bt (s : ByteArray) (i : Nat) : Nat := if h : i < s.size then (s[i]'h).toNat else 0
theorem bt_eq {s : ByteArray} {i : Nat} (h : i < s.size) : (s[i]'h).toNat = bt s i := by simp [bt, h]
theorem bt_lt (s : ByteArray) (i : Nat) : bt s i < 256 := by
 unfold bt; split
 ·exact UInt8.toNat_lt _
 ·omega
def GoodL (s : ByteArray) (i : Nat) : Prop := i < s.size ∧ 0 < bt s i ∧ bt s i ≤ 63 ∧ i + 1 + bt s i ≤ s.size
def goodL (s : ByteArray) (i : Nat) : Bool := decide (i < s.size ∧ 0 < bt s i ∧ bt s i ≤ 63 ∧ i + 1 + bt s i ≤ s.size)
theorem good_iff {s : ByteArray} {i : Nat} : goodL s i = true ↔ GoodL s i := by simp [goodL, GoodL]
theorem GoodL.room {s : ByteArray} {i : Nat} (h : GoodL s i) : i + 1 + bt s i ≤ s.size := h.2.2.2
theorem GoodL.lt {s : ByteArray} {i : Nat} (h : GoodL s i) : i < s.size := h.1
theorem GoodL.pos {s : ByteArray} {i : Nat} (h : GoodL s i) : 0 < bt s i := h.2.1
theorem GoodL.le {s : ByteArray} {i : Nat} (h : GoodL s i) : bt s i ≤ 63 := h.2.2.1
abbrev Lab (s : ByteArray) := { x : Nat × ByteArray // x.1 + 1 + x.2.size ≤ s.size }
def labAt (s : ByteArray) (i : Nat) (h : GoodL s i) : Lab s :=
 ⟨(i, s.extract (i + 1) (i + 1 + bt s i)), by have := h.room; simp [ByteArray.size_extract]; omega⟩
def seqFrom (s : ByteArray) : Nat → Nat → List (Lab s)
 | 0, _ => []
 | f + 1, i => if h : goodL s i = true then labAt s i (good_iff.1 h) :: seqFrom s f (i + 1 + bt s i) else []
theorem seqFrom_fuel (s : ByteArray) : ∀ (f g i : Nat), s.size < f + i → s.size < g + i → seqFrom s f i = seqFrom s g i
 | 0, g, i, hf, _ => by
  cases g with
  | zero => rfl
  | succ g =>
   simp only [seqFrom]
   rw [dif_neg]
   intro h; have := (good_iff.1 h).lt; omega
 | f + 1, 0, i, _, hg => by
  simp only [seqFrom]
  rw [dif_neg]
  intro h; have := (good_iff.1 h).lt; omega
 | f + 1, g + 1, i, hf, hg => by
  simp only [seqFrom]
  split
  ·rename_i h
   have := (good_iff.1 h).pos
   rw [seqFrom_fuel s f g _ (by omega) (by omega)]
  ·rfl
def rest (s : ByteArray) (i : Nat) : List (Lab s) := seqFrom s (s.size + 1) i
theorem rest_good {s : ByteArray} {i : Nat} (h : GoodL s i) : rest s i = labAt s i h :: rest s (i + 1 + bt s i) := by
 unfold rest
 conv => lhs; unfold seqFrom
 rw [dif_pos (good_iff.2 h)]
 have := h.pos
 rw [seqFrom_fuel s s.size (s.size + 1) _ (by omega) (by omega)]
theorem rest_bad {s : ByteArray} {i : Nat} (h : ¬ GoodL s i) : rest s i = [] := by
 unfold rest seqFrom
 rw [dif_neg (fun e => h (good_iff.1 e))]
def finFrom (s : ByteArray) : Nat → Nat → Nat
 | 0, i => i
 | f + 1, i => if goodL s i = true then finFrom s f (i + 1 + bt s i) else i
def fin (s : ByteArray) (i : Nat) : Nat := finFrom s (s.size + 1) i
theorem finFrom_fuel (s : ByteArray) : ∀ (f g i : Nat), s.size < f + i → s.size < g + i → finFrom s f i = finFrom s g i
 | 0, g, i, hf, _ => by
  cases g with
  | zero => rfl
  | succ g =>
   simp only [finFrom]
   rw [if_neg]
   intro h; have := (good_iff.1 h).lt; omega
 | f + 1, 0, i, _, hg => by
  simp only [finFrom]
  rw [if_neg]
  intro h; have := (good_iff.1 h).lt; omega
 | f + 1, g + 1, i, hf, hg => by
  simp only [finFrom]
  split
  ·rename_i h
   have := (good_iff.1 h).pos
   rw [finFrom_fuel s f g _ (by omega) (by omega)]
  ·rfl
theorem fin_good {s : ByteArray} {i : Nat} (h : GoodL s i) : fin s i = fin s (i + 1 + bt s i) := by
 unfold fin
 conv => lhs; unfold finFrom
 rw [if_pos (good_iff.2 h)]
 have := h.pos
 rw [finFrom_fuel s s.size (s.size + 1) _ (by omega) (by omega)]
theorem fin_bad {s : ByteArray} {i : Nat} (h : ¬ GoodL s i) : fin s i = i := by
 unfold fin finFrom
 rw [if_neg (fun e => h (good_iff.1 e))]
def lastEnd {s : ByteArray} : List (Lab s) → Nat → Nat
 | [], i => i
 | x :: l, _ => lastEnd l (x.1.1 + 1 + x.1.2.size)
theorem lastEnd_snoc {s : ByteArray} (l : List (Lab s)) (x : Lab s) (i : Nat) : lastEnd (l ++ [x]) i = x.1.1 + 1 + x.1.2.size := by
 induction l generalizing i with
 | nil => rfl
 | cons y l ih => exact ih _
theorem lastEnd_le {s : ByteArray} (l : List (Lab s)) (i : Nat) (h : i ≤ s.size) : lastEnd l i ≤ s.size := by
 induction l generalizing i with
 | nil => exact h
 | cons y l ih => exact ih _ y.2
theorem labAt_size {s : ByteArray} {i : Nat} (h : GoodL s i) : (labAt s i h).1.2.size = bt s i := by
 have := h.room
 simp [labAt, ByteArray.size_extract]; omega
theorem lastEnd_rest (s : ByteArray) : ∀ (k i : Nat), s.size - i ≤ k → lastEnd (rest s i) i = fin s i
 | k, i, hk => by
  by_cases h : GoodL s i
  ·rw [rest_good h, fin_good h]
   simp only [lastEnd]
   have e : (labAt s i h).1.1 + 1 + (labAt s i h).1.2.size = i + 1 + bt s i := by rw [labAt_size h]; rfl
   rw [e]
   have := h.lt
   cases k with
   | zero => omega
   | succ k => exact lastEnd_rest s k _ (by omega)
  ·rw [rest_bad h, fin_bad h]; rfl
def isN (s : ByteArray) : Bool := decide (s.size ≤ 255 ∧ fin s 0 + 1 = s.size ∧ bt s (fin s 0) = 0)
theorem toList_eq (s : ByteArray) : s.toList = s.data.toList := ByteArray.toList_eq s
theorem toList_extract (s : ByteArray) (a b : Nat) : (s.extract a b).toList = (s.data.toList.take b).drop a := by
 simp [toList_eq, ByteArray.data_extract, List.extract_eq_drop_take']
theorem bt_list (s : ByteArray) (i : Nat) (h : i < s.size) : (s.data.toList[i]'(by simpa using h)).toNat = bt s i := bt_eq h
theorem zero_end (s : ByteArray) (e : Nat) (he : e ≤ s.size) : ((s.extract e s.size).toList == [0]) = decide (e + 1 = s.size ∧ bt s e = 0) := by
 rw [toList_extract]
 have hl : s.data.toList.length = s.size := by simp
 rw [List.take_of_length_le (by omega)]
 by_cases h : e < s.size
 ·rw [List.drop_eq_getElem_cons (by omega)]
  have hb := bt_list s e h
  by_cases h1 : e + 1 = s.size
  ·rw [List.drop_of_length_le (by omega)]
   rw [Bool.eq_iff_iff]
   simp only [beq_iff_eq, decide_eq_true_eq, List.cons.injEq, and_true]
   constructor
   ·intro h2; rw [h2] at hb; exact ⟨h1, hb.symm⟩
   ·intro h2; apply UInt8.toNat_inj.1; rw [hb, h2.2]; rfl
  ·rw [List.drop_eq_getElem_cons (by omega)]
   simp [h1]
 ·rw [List.drop_of_length_le (by omega)]
  rw [Bool.eq_iff_iff]; simp; omega
structure From (s : ByteArray) (i : Nat) (r : ByteArray) : Prop where
 eq : r = s.extract i s.size
theorem From.size {s r : ByteArray} {i : Nat} (h : From s i r) : r.size = s.size - i := by rw [h.eq]; simp
theorem From.bt {s r : ByteArray} {i : Nat} (h : From s i r) (j : Nat) : bt r j = bt s (i + j) := by
 have hz := h.size
 unfold Nm.bt
 by_cases hj : i + j < s.size
 ·rw [dif_pos (by omega), dif_pos hj]
  obtain ⟨rfl⟩ := h
  rw [ByteArray.getElem_extract]
 ·rw [dif_neg (by omega), dif_neg hj]
theorem From.first {s r : ByteArray} {i : Nat} (h : From s i r) : Nm.bt r 0 = Nm.bt s i := h.bt 0
theorem From.extract {s r : ByteArray} {i : Nat} (h : From s i r) (a b : Nat) (hi : i ≤ s.size) (hb : b ≤ r.size) : r.extract a b = s.extract (i + a) (i + b) := by
 have hz := h.size
 rw [h.eq, ByteArray.extract_extract]
 congr 1; omega
theorem From.next {s r : ByteArray} {i : Nat} (h : From s i r) (hi : i ≤ s.size) (a : Nat) (ha : a ≤ r.size) : From s (i + a) (r.extract a r.size) := by
 have hz := h.size
 refine ⟨?_⟩
 rw [h.extract a r.size hi (Nat.le_refl _)]
 congr 1; omega
theorem isEmpty_true {r : ByteArray} (h : r.size = 0) : r.toList.isEmpty = true := by
 rw [toList_eq, List.isEmpty_iff]
 exact List.length_eq_zero_iff.1 (by rw [Array.length_toList]; exact h)
theorem isEmpty_false {r : ByteArray} (h : 0 < r.size) : r.toList.isEmpty = false := by
  rw [toList_eq]
  cases hl : r.data.toList with
  | nil => have : r.data.toList.length = r.size := by simp
           rw [hl] at this; simp at this; omega
  | cons => rfl
theorem bt_wrap {s : ByteArray} {i : Nat} (h : i < s.size) : ∃ k : Nat, ((s[i]'h).toNat : Int) = (k : Int) ∧ bt s i = k ∧ k < 256 := ⟨bt s i, by rw [bt_eq h], rfl, bt_lt s i⟩
def labsFrom (s : ByteArray) (i : Nat) : List ByteArray := (rest s i).map (fun x => x.1.2)
def labs (s : ByteArray) : List ByteArray := labsFrom s 0
theorem labsFrom_good {s : ByteArray} {i : Nat} (h : GoodL s i) : labsFrom s i = s.extract (i + 1) (i + 1 + bt s i) :: labsFrom s (i + 1 + bt s i) := by
 unfold labsFrom; rw [rest_good h]; rfl
theorem labsFrom_bad {s : ByteArray} {i : Nat} (h : ¬ GoodL s i) : labsFrom s i = [] := by
 unfold labsFrom; rw [rest_bad h]; rfl
end Go.Proofs.YtoabnpdoicbpiaaGreat.Nm
namespace Go.Proofs.YtoabnpdoicbpiaaGreat.Nm
set_option linter.unusedVariables false
def lowN (x : Nat) : Nat := if 65 ≤ x ∧ x ≤ 90 then x + 32 else x
def lowU (b : UInt8) : UInt8 := if 65 ≤ b.toNat ∧ b.toNat ≤ 90 then b + 32 else b
def lowB (s : ByteArray) : ByteArray := ⟨s.data.map lowU⟩
theorem lowU_toNat (b : UInt8) : (lowU b).toNat = lowN b.toNat := by
 unfold lowU lowN
 split
 ·rename_i h; rw [UInt8.toNat_add]; simp; omega
 ·rfl
theorem lowB_size (s : ByteArray) : (lowB s).size = s.size := Array.size_map
theorem lowB_bt (s : ByteArray) (j : Nat) : bt (lowB s) j = lowN (bt s j) := by
 have hz := lowB_size s
 unfold bt
 by_cases h : j < s.size
 ·rw [dif_pos (by omega), dif_pos h]
  have : (lowB s)[j]'(by omega) = lowU (s[j]) := by
   show (s.data.map lowU)[j]'_ = lowU (s.data[j]'_)
   exact Array.getElem_map ..
  rw [this, lowU_toNat]
 ·rw [dif_neg (by omega), dif_neg h]; rfl
theorem ba_ext {s t : ByteArray} (hz : s.size = t.size) (h : ∀ j, j < s.size → bt s j = bt t j) : s = t := by
 apply ByteArray.ext
 apply Array.ext hz
 intro j h1 h2
 have h1' : j < s.size := h1
 have h2' : j < t.size := h2
 have := h j h1'
 rw [← bt_eq h1', ← bt_eq h2'] at this
 exact UInt8.toNat_inj.1 this
end Go.Proofs.YtoabnpdoicbpiaaGreat.Nm
namespace Go.Proofs.YtoabnpdoicbpiaaGreat.Nm
set_option linter.unusedVariables false
def chunk (x : ByteArray) : ByteArray := ⟨#[UInt8.ofNat x.size]⟩ ++ x
def chunks (l : List ByteArray) : ByteArray := l.foldl (fun s x => s ++ chunk x) ByteArray.empty
def putB (l : List ByteArray) : ByteArray := chunks l ++ ⟨#[0]⟩
theorem chunks_snoc (l : List ByteArray) (x : ByteArray) : chunks (l ++ [x]) = chunks l ++ chunk x := by simp [chunks]
theorem chunk_size (x : ByteArray) : (chunk x).size = 1 + x.size := by simp [chunk, ByteArray.size_append]; rfl
theorem foldl_chunk (l : List ByteArray) : ∀ a : ByteArray, l.foldl (fun s x => s ++ chunk x) a = a ++ chunks l := by
 induction l with
 | nil => intro a; simp [chunks]
 | cons x l ih =>
  intro a
  have h1 := ih (a ++ chunk x)
  have h2 := ih (chunk x)
  unfold chunks
  simp only [List.foldl_cons]
  rw [h1, ByteArray.empty_append, h2, ByteArray.append_assoc]
theorem chunks_cons (x : ByteArray) (l : List ByteArray) : chunks (x :: l) = chunk x ++ chunks l := by
 have := foldl_chunk l (chunk x)
 unfold chunks at *
 simp only [List.foldl_cons, ByteArray.empty_append]
 exact this
theorem chunks_append (l m : List ByteArray) : chunks (l ++ m) = chunks l ++ chunks m := by
 unfold chunks; rw [List.foldl_append]; exact foldl_chunk m _
theorem chunks_size_take (l : List ByteArray) (k : Nat) : (chunks (l.take k)).size ≤ (chunks l).size := by
 conv => rhs; rw [← List.take_append_drop k l, chunks_append, ByteArray.size_append]
 omega
theorem chunks_len (l : List ByteArray) : l.length ≤ (chunks l).size := by
 induction l with
 | nil => exact Nat.zero_le _
 | cons x l ih => rw [chunks_cons, ByteArray.size_append, chunk_size, List.length_cons]; omega
theorem putB_size (l : List ByteArray) : (putB l).size = (chunks l).size + 1 := by simp [putB, ByteArray.size_append]; rfl
end Go.Proofs.YtoabnpdoicbpiaaGreat.Nm
namespace Go.Proofs.YtoabnpdoicbpiaaGreat.Nm
set_option linter.unusedVariables false
theorem labsFrom_mem {s : ByteArray} : ∀ (k i : Nat), s.size - i ≤ k → ∀ x ∈ labsFrom s i, 0 < x.size ∧ x.size ≤ 63
 | k, i, hk => by
  by_cases h : GoodL s i
  ·rw [labsFrom_good h]
   intro x hx
   have hp := h.pos
   have hle := h.le
   have hr := h.room
   cases List.mem_cons.1 hx with
   | inl e => subst e; simp only [ByteArray.size_extract]; omega
   | inr e =>
    cases k with
    | zero => have := h.lt; omega
    | succ k => exact labsFrom_mem k _ (by omega) x e
  ·rw [labsFrom_bad h]; intro x hx; cases hx
theorem labs_mem {s : ByteArray} {x : ByteArray} (h : x ∈ labs s) : 0 < x.size ∧ x.size ≤ 63 := labsFrom_mem s.size 0 (by omega) x h
theorem bt_append_left (a b : ByteArray) (j : Nat) (h : j < a.size) : bt (a ++ b) j = bt a j := by
 have hz : (a ++ b).size = a.size + b.size := ByteArray.size_append
 rw [← bt_eq h, ← bt_eq (s := a ++ b) (by omega)]
 rw [ByteArray.getElem_append_left h]
theorem bt_append_right (a b : ByteArray) (j : Nat) (h : a.size ≤ j) : bt (a ++ b) j = bt b (j - a.size) := by
 have hz : (a ++ b).size = a.size + b.size := ByteArray.size_append
 by_cases hj : j < a.size + b.size
 ·rw [← bt_eq (s := a ++ b) (by omega), ← bt_eq (s := b) (by omega)]
  rw [ByteArray.getElem_append_right h]
 ·unfold bt; rw [dif_neg (by omega), dif_neg (by omega)]
theorem bt_extract (s : ByteArray) (a b j : Nat) (h : j < b - a) (hb : b ≤ s.size) : bt (s.extract a b) j = bt s (a + j) := by
 have hz : (s.extract a b).size = b - a := by simp; omega
 rw [← bt_eq (s := s.extract a b) (by omega), ← bt_eq (s := s) (by omega)]
 rw [ByteArray.getElem_extract]
theorem size_extract' (s : ByteArray) (a b : Nat) (hb : b ≤ s.size) : (s.extract a b).size = b - a := by simp; omega
theorem bt_one (n : Nat) (h : n < 256) : bt ⟨#[UInt8.ofNat n]⟩ 0 = n := by
 rw [← bt_eq (s := ⟨#[UInt8.ofNat n]⟩) (i := 0) (Nat.zero_lt_one)]
 show (UInt8.ofNat n).toNat = n
 rw [UInt8.toNat_ofNat']; omega
theorem extract_join (s : ByteArray) (a b c : Nat) (hab : a ≤ b) (hbc : b ≤ c) (hc : c ≤ s.size) : s.extract a b ++ s.extract b c = s.extract a c := by
 apply ba_ext
 ·rw [ByteArray.size_append, size_extract' s a b (by omega), size_extract' s b c hc, size_extract' s a c hc]; omega
 ·intro j hj
  rw [ByteArray.size_append, size_extract' s a b (by omega), size_extract' s b c hc] at hj
  by_cases h : j < b - a
  ·rw [bt_append_left _ _ _ (by rw [size_extract' s a b (by omega)]; exact h), bt_extract _ _ _ _ h (by omega), bt_extract _ _ _ _ (by omega) hc]
  ·rw [bt_append_right _ _ _ (by rw [size_extract' s a b (by omega)]; omega), size_extract' s a b (by omega), bt_extract _ _ _ _ (by omega) hc, bt_extract _ _ _ _ (by omega) hc]
   congr 1; omega
theorem chunk_extract {s : ByteArray} {i : Nat} (h : GoodL s i) : chunk (s.extract (i + 1) (i + 1 + bt s i)) = s.extract i (i + 1 + bt s i) := by
 have hr := h.room
 have hz : (s.extract (i + 1) (i + 1 + bt s i)).size = bt s i := by rw [size_extract' _ _ _ hr]; omega
 rw [← extract_join s i (i + 1) (i + 1 + bt s i) (by omega) (by omega) hr]
 unfold chunk
 rw [hz]
 congr 1
 apply ba_ext
 ·rw [size_extract' _ _ _ (by omega)]; show 1 = _; omega
 ·intro j hj
  have : j = 0 := by have : j < 1 := hj; omega
  subst this
  rw [bt_one _ (bt_lt s i), bt_extract _ _ _ _ (by omega) (by omega)]; rfl
theorem fin_bounds (s : ByteArray) : ∀ (k i : Nat), s.size - i ≤ k → i ≤ s.size → i ≤ fin s i ∧ fin s i ≤ s.size
 | k, i, hk, hi => by
  by_cases h : GoodL s i
  ·rw [fin_good h]
   have hr := h.room
   have := h.lt
   cases k with
   | zero => omega
   | succ k => have := fin_bounds s k _ (by omega) hr; omega
  ·rw [fin_bad h]; omega
theorem chunks_labsFrom (s : ByteArray) : ∀ (k i : Nat), s.size - i ≤ k → i ≤ s.size → chunks (labsFrom s i) = s.extract i (fin s i)
 | k, i, hk, hi => by
  by_cases h : GoodL s i
  ·rw [fin_good h, labsFrom_good h, chunks_cons, chunk_extract h]
   have hr := h.room
   have hlt := h.lt
   cases k with
   | zero => omega
   | succ k =>
    rw [chunks_labsFrom s k _ (by omega) hr]
    have := fin_bounds s k _ (by omega) hr
    exact extract_join s _ _ _ (by omega) (by omega) (by omega)
  ·rw [fin_bad h, labsFrom_bad h]
   apply ba_ext
   ·rw [size_extract' _ _ _ hi, Nat.sub_self]; rfl
   ·intro j hj; exact absurd hj (Nat.not_lt_zero _)
theorem isN_iff (s : ByteArray) : isN s = true ↔ s.size ≤ 255 ∧ fin s 0 + 1 = s.size ∧ bt s (fin s 0) = 0 := by simp [isN]
theorem putB_labs {s : ByteArray} (h : isN s = true) : putB (labs s) = s := by
 obtain ⟨h1, h2, h3⟩ := (isN_iff s).1 h
 have hc := chunks_labsFrom s s.size 0 (by omega) (by omega)
 have hz : (s.extract 0 (fin s 0)).size = fin s 0 := by rw [size_extract' _ _ _ (by omega)]; omega
 unfold putB labs
 rw [hc]
 apply ba_ext
 ·rw [ByteArray.size_append, hz]; exact h2
 ·intro j hj
  rw [ByteArray.size_append, hz] at hj
  have hj' : j < fin s 0 + 1 := hj
  by_cases e : j < fin s 0
  ·rw [bt_append_left _ _ _ (by omega), bt_extract _ _ _ _ (by omega) (by omega), Nat.zero_add]
  ·rw [bt_append_right _ _ _ (by omega), hz, show j = fin s 0 by omega, Nat.sub_self, h3]
   rfl
theorem lowB_append (a b : ByteArray) : lowB (a ++ b) = lowB a ++ lowB b := by
 have h1 := lowB_size a
 have h2 := lowB_size b
 apply ba_ext
 ·rw [lowB_size, ByteArray.size_append, ByteArray.size_append, h1, h2]
 ·intro j _
  rw [lowB_bt]
  by_cases h : j < a.size
  ·rw [bt_append_left _ _ _ h, bt_append_left _ _ _ (by omega), lowB_bt]
  ·rw [bt_append_right _ _ _ (by omega), bt_append_right _ _ _ (by omega), lowB_bt, h1]
theorem lowB_chunk {x : ByteArray} (h : x.size ≤ 63) : chunk (lowB x) = lowB (chunk x) := by
 unfold chunk
 rw [lowB_append, lowB_size]
 congr 1
 apply ba_ext
 ·rw [lowB_size]
 ·intro j hj
  have : j = 0 := by have : j < 1 := hj; omega
  subst this
  rw [lowB_bt, bt_one _ (by omega), lowN, if_neg (by omega)]
theorem lowB_empty : lowB ByteArray.empty = ByteArray.empty := by
 apply ba_ext
 ·rw [lowB_size]
 ·intro j hj; rw [lowB_size] at hj; exact absurd hj (Nat.not_lt_zero _)
theorem lowB_zero : lowB ⟨#[0]⟩ = ⟨#[0]⟩ := by
 apply ba_ext
 ·rw [lowB_size]
 ·intro j hj
  rw [lowB_size] at hj
  have : j = 0 := by have : j < 1 := hj; omega
  subst this
  rw [lowB_bt]; rfl
theorem chunks_low (l : List ByteArray) (h : ∀ x ∈ l, x.size ≤ 63) : chunks (l.map lowB) = lowB (chunks l) := by
 induction l with
 | nil => exact lowB_empty.symm
 | cons x l ih =>
  rw [List.map_cons, chunks_cons, chunks_cons, lowB_append, lowB_chunk (h x (by simp)), ih (fun y hy => h y (by simp [hy]))]
theorem putB_low (l : List ByteArray) (h : ∀ x ∈ l, x.size ≤ 63) : putB (l.map lowB) = lowB (putB l) := by
 unfold putB; rw [chunks_low l h, lowB_append, lowB_zero]
theorem putB_low_labs {s : ByteArray} (h : isN s = true) : putB ((labs s).map lowB) = lowB s := by
 rw [putB_low _ (fun x hx => (labs_mem hx).2), putB_labs h]
def foldB (s : ByteArray) : ByteArray := if isN s = true then lowB s else ByteArray.empty
theorem foldB_yes {s : ByteArray} (h : isN s = true) : foldB s = lowB s := by simp [foldB, h]
theorem foldB_no {s : ByteArray} (h : isN s = false) : foldB s = ByteArray.empty := by simp [foldB, h]
end Go.Proofs.YtoabnpdoicbpiaaGreat.Nm
namespace Go.Proofs.YtoabnpdoicbpiaaGreat.Nm
set_option linter.unusedVariables false
def cntI (s : ByteArray) : Int := if isN s = true then ((labs s).length : Nat) else -1
theorem cntI_yes {s : ByteArray} (h : isN s = true) : cntI s = ((labs s).length : Nat) := by simp [cntI, h]
theorem cntI_no {s : ByteArray} (h : isN s = false) : cntI s = -1 := by simp [cntI, h]
theorem labs_len (s : ByteArray) : (labs s).length = (rest s 0).length := by simp [labs, labsFrom]
theorem labs_len_le {s : ByteArray} (h : isN s = true) : (labs s).length ≤ 254 := by
 have h1 := chunks_len (labs s)
 have h2 := putB_size (labs s)
 rw [putB_labs h] at h2
 have := ((isN_iff s).1 h).1
 omega
def tailB (s : ByteArray) (k : Int) : ByteArray := if isN s = true ∧ 0 ≤ k ∧ k ≤ (labs s).length then putB ((labs s).drop ((labs s).length - k.toNat)) else ByteArray.empty
theorem rest_drop (s : ByteArray) : ∀ (pre : List (Lab s)) (i : Nat) (post : List (Lab s)), rest s i = pre ++ post → ∃ j, i ≤ j ∧ post = rest s j ∧ fin s i = fin s j ∧ (i ≤ s.size → j ≤ s.size)
 | [], i, post, h => ⟨i, Nat.le_refl _, by simpa using h.symm, rfl, id⟩
 | x :: pre, i, post, h => by
  by_cases hg : GoodL s i
  ·rw [rest_good hg] at h
   have h2 : rest s (i + 1 + bt s i) = pre ++ post := by simpa using (List.cons.inj h).2
   obtain ⟨j, h3, h4, h5, h6⟩ := rest_drop s pre _ post h2
   have := hg.room
   exact ⟨j, by omega, h4, by rw [fin_good hg]; exact h5, fun _ => h6 (by omega)⟩
  ·rw [rest_bad hg] at h; cases h
theorem rest_head {s : ByteArray} {i : Nat} {x : Lab s} {post : List (Lab s)} (h : rest s i = x :: post) : x.1.1 = i := by
 by_cases hg : GoodL s i
 ·rw [rest_good hg] at h
  have := (List.cons.inj h).1
  rw [← this]; rfl
 ·rw [rest_bad hg] at h; cases h
theorem extract_tail {s : ByteArray} (hN : isN s = true) {j : Nat} (hj : j ≤ s.size) (hf : fin s 0 = fin s j) : s.extract j s.size = putB (labsFrom s j) := by
 obtain ⟨h1, h2, h3⟩ := (isN_iff s).1 hN
 have hc := chunks_labsFrom s s.size j (by omega) hj
 have hb := fin_bounds s s.size j (by omega) hj
 unfold putB
 rw [hc, ← extract_join s j (fin s j) s.size (by omega) (by omega) (Nat.le_refl _)]
 congr 1
 rw [← hf] at hb ⊢
 apply ba_ext
 ·rw [size_extract' _ _ _ (Nat.le_refl _)]; show _ = 1; omega
 ·intro k hk
  rw [size_extract' _ _ _ (Nat.le_refl _)] at hk
  have : k = 0 := by omega
  subst this
  rw [bt_extract _ _ _ _ (by omega) (Nat.le_refl _), Nat.add_zero, h3]; rfl
theorem tail_at {s : ByteArray} (hN : isN s = true) {pre : List (Lab s)} {x : Lab s} (h : pre ++ [x] <+: rest s 0) : s.extract x.1.1 s.size = putB ((labs s).drop pre.length) := by
 obtain ⟨post, hp⟩ := h
 rw [List.append_assoc] at hp
 obtain ⟨j, _, h4, h5, h6⟩ := rest_drop s pre 0 _ hp.symm
 have hx : x.1.1 = j := rest_head h4.symm
 rw [hx, extract_tail hN (h6 (by omega)) h5]
 congr 1
 unfold labs labsFrom
 rw [← hp, ← h4]
 simp
theorem labs_nil_putB : putB [] = ⟨#[0]⟩ := by
 unfold putB
 rw [show chunks [] = ByteArray.empty from rfl, ByteArray.empty_append]
end Go.Proofs.YtoabnpdoicbpiaaGreat.Nm
namespace Go.Proofs.YtoabnpdoicbpiaaGreat.Nm
set_option linter.unusedVariables false
def OkL (l : List ByteArray) : Prop := ∀ x ∈ l, 0 < x.size ∧ x.size ≤ 63
theorem okL_labs (s : ByteArray) : OkL (labs s) := fun _ hx => labs_mem hx
theorem OkL.drop {l : List ByteArray} (h : OkL l) (k : Nat) : OkL (l.drop k) := fun x hx => h x (List.mem_of_mem_drop hx)
theorem OkL.take {l : List ByteArray} (h : OkL l) (k : Nat) : OkL (l.take k) := fun x hx => h x (List.mem_of_mem_take hx)
theorem OkL.append {l m : List ByteArray} (h : OkL l) (k : OkL m) : OkL (l ++ m) := fun x hx => (List.mem_append.1 hx).elim (h x) (k x)
theorem OkL.low {l : List ByteArray} (h : OkL l) : OkL (l.map lowB) := by
 intro x hx
 obtain ⟨y, hy, rfl⟩ := List.mem_map.1 hx
 rw [lowB_size]; exact h y hy
theorem putB_cons (x : ByteArray) (l : List ByteArray) : putB (x :: l) = chunk x ++ putB l := by
 unfold putB; rw [chunks_cons, ByteArray.append_assoc]
theorem putB_append (l m : List ByteArray) : putB (l ++ m) = chunks l ++ putB m := by
 unfold putB; rw [chunks_append, ByteArray.append_assoc]
theorem bt_chunk (x : ByteArray) (h : x.size < 256) : bt (chunk x) 0 = x.size := by
 unfold chunk
 rw [bt_append_left _ _ _ Nat.zero_lt_one, bt_one _ h]
theorem extract_mid (p x q : ByteArray) : (p ++ (x ++ q)).extract p.size (p.size + x.size) = x := by
 apply ba_ext
 ·rw [size_extract' _ _ _ (by simp only [ByteArray.size_append]; omega)]; omega
 ·intro j hj
  rw [size_extract' _ _ _ (by simp only [ByteArray.size_append]; omega)] at hj
  rw [bt_extract _ _ _ _ (by omega) (by simp only [ByteArray.size_append]; omega), bt_append_right _ _ _ (by omega), show p.size + j - p.size = j by omega, bt_append_left _ _ _ (by omega)]
theorem parse_put : ∀ (l : List ByteArray) (p : ByteArray), OkL l → labsFrom (p ++ putB l) p.size = l ∧ fin (p ++ putB l) p.size = p.size + (chunks l).size
 | [], p, _ => by
  have hz : (p ++ putB []).size = p.size + 1 := by rw [ByteArray.size_append, labs_nil_putB]; rfl
  have h0 : bt (p ++ putB []) p.size = 0 := by rw [bt_append_right _ _ _ (Nat.le_refl _), labs_nil_putB, Nat.sub_self]; rfl
  have hb : ¬ GoodL (p ++ putB []) p.size := fun g => by have := g.pos; omega
  rw [labsFrom_bad hb, fin_bad hb]
  exact ⟨rfl, rfl⟩
 | x :: l, p, h => by
  obtain ⟨hx1, hx2⟩ := h x (by simp)
  have ih := parse_put l (p ++ chunk x) (fun y hy => h y (by simp [hy]))
  have hz1 : (p ++ chunk x).size = p.size + 1 + x.size := by rw [ByteArray.size_append, chunk_size]; omega
  have e : p ++ chunk x ++ putB l = p ++ putB (x :: l) := by rw [putB_cons, ByteArray.append_assoc]
  have hz : (p ++ putB (x :: l)).size = p.size + 1 + x.size + (putB l).size := by rw [← e, ByteArray.size_append, hz1]
  rw [e, hz1] at ih
  have hbt : bt (p ++ putB (x :: l)) p.size = x.size := by
   rw [bt_append_right _ _ _ (Nat.le_refl _), Nat.sub_self, putB_cons, bt_append_left _ _ _ (by rw [chunk_size]; omega), bt_chunk _ (by omega)]
  have hg : GoodL (p ++ putB (x :: l)) p.size := ⟨by omega, by omega, by omega, by omega⟩
  rw [labsFrom_good hg, fin_good hg, hbt, ih.1, ih.2]
  refine ⟨?_, ?_⟩
  ·congr 1
   have e2 : p ++ putB (x :: l) = (p ++ ⟨#[UInt8.ofNat x.size]⟩) ++ (x ++ putB l) := by
    rw [putB_cons]; unfold chunk; simp only [ByteArray.append_assoc]
   have hz3 : (p ++ ⟨#[UInt8.ofNat x.size]⟩ : ByteArray).size = p.size + 1 := by rw [ByteArray.size_append]; rfl
   rw [e2]
   have := extract_mid (p ++ ⟨#[UInt8.ofNat x.size]⟩) x (putB l)
   rw [hz3] at this
   exact this
  ·rw [chunks_cons, ByteArray.size_append, chunk_size]; omega
theorem labs_putB {l : List ByteArray} (h : OkL l) : labs (putB l) = l := by
 have := (parse_put l ByteArray.empty h).1
 rw [ByteArray.empty_append] at this
 exact this
theorem fin_putB {l : List ByteArray} (h : OkL l) : fin (putB l) 0 = (chunks l).size := by
 have := (parse_put l ByteArray.empty h).2
 rw [ByteArray.empty_append] at this
 rw [show (ByteArray.empty).size = 0 from rfl] at this
 omega
theorem isN_putB {l : List ByteArray} (h : OkL l) : isN (putB l) = decide ((putB l).size ≤ 255) := by
 have hf := fin_putB h
 have hz := putB_size l
 have h0 : bt (putB l) (chunks l).size = 0 := by
  unfold putB; rw [bt_append_right _ _ _ (Nat.le_refl _), Nat.sub_self]; rfl
 unfold isN
 rw [hf, h0, hz, Bool.eq_iff_iff]
 simp
theorem isN_low {s : ByteArray} (h : isN s = true) : isN (lowB s) = true ∧ labs (lowB s) = (labs s).map lowB := by
 rw [← putB_low_labs h]
 refine ⟨?_, labs_putB (okL_labs s).low⟩
 rw [isN_putB (okL_labs s).low, putB_low_labs h, lowB_size]
 simp [((isN_iff s).1 h).1]
theorem isN_pos {s : ByteArray} (h : isN s = true) : 0 < s.size := by have := (isN_iff s).1 h; omega
theorem isN_empty : isN ByteArray.empty = false := by decide
def eqB (a b : ByteArray) : Bool := isN a && ((foldB a).toList == (foldB b).toList)
theorem toList_inj {a b : ByteArray} : a.toList = b.toList ↔ a = b := by
 rw [toList_eq, toList_eq]
 constructor
 ·intro h; apply ByteArray.ext; exact Array.toList_inj.1 h
 ·intro h; rw [h]
theorem eqB_iff (a b : ByteArray) : eqB a b = true ↔ isN a = true ∧ isN b = true ∧ (labs a).map lowB = (labs b).map lowB := by
 unfold eqB
 rw [Bool.and_eq_true, beq_iff_eq, toList_inj]
 constructor
 ·rintro ⟨ha, h⟩
  have hb : isN b = true := by
   cases hb : isN b with
   | true => rfl
   | false =>
    rw [foldB_yes ha, foldB_no hb] at h
    have := congrArg ByteArray.size h
    rw [lowB_size] at this
    have := isN_pos ha
    have : (ByteArray.empty).size = 0 := rfl
    omega
  refine ⟨ha, hb, ?_⟩
  rw [foldB_yes ha, foldB_yes hb] at h
  rw [← (isN_low ha).2, h, (isN_low hb).2]
 ·rintro ⟨ha, hb, h⟩
  refine ⟨ha, ?_⟩
  rw [foldB_yes ha, foldB_yes hb, ← putB_low_labs ha, h, putB_low_labs hb]
theorem eqB_ref (a b : ByteArray) : (isN a && isN b && ((foldB a).toList == (foldB b).toList)) = eqB a b := by
 rw [Bool.eq_iff_iff]
 constructor
 ·intro h; simp only [Bool.and_eq_true] at h; unfold eqB; simp [h.1.1, h.2]
 ·intro h
  have h2 := (eqB_iff a b).1 h
  unfold eqB at h
  simp only [Bool.and_eq_true] at h
  simp [h.1, h2.2.1, h.2]
theorem tailB_yes {s : ByteArray} {k : Nat} (h : isN s = true) (hk : k ≤ (labs s).length) : isN (tailB s k) = true ∧ labs (tailB s k) = (labs s).drop ((labs s).length - k) ∧ tailB s k = putB ((labs s).drop ((labs s).length - k)) := by
 have e : tailB s k = putB ((labs s).drop ((labs s).length - k)) := by
  unfold tailB; rw [if_pos ⟨h, by omega, by omega⟩, Int.toNat_natCast]
 have ho := (okL_labs s).drop ((labs s).length - k)
 rw [e]
 refine ⟨?_, labs_putB ho, rfl⟩
 rw [isN_putB ho, decide_eq_true_iff]
 have h1 := ((isN_iff s).1 h).1
 have h2 := putB_labs h
 have h3 : (putB (labs s)).size = s.size := by rw [h2]
 have h4 : labs s = (labs s).take ((labs s).length - k) ++ (labs s).drop ((labs s).length - k) := (List.take_append_drop _ _).symm
 rw [h4, putB_append, ByteArray.size_append] at h3
 omega
theorem tailB_no {s : ByteArray} {k : Int} (h : ¬ (isN s = true ∧ 0 ≤ k ∧ k ≤ (labs s).length)) : tailB s k = ByteArray.empty := by unfold tailB; rw [if_neg h]
theorem tailB_size (s : ByteArray) (k : Int) : (tailB s k).size ≤ 255 := by
 by_cases h : isN s = true ∧ 0 ≤ k ∧ k ≤ (labs s).length
 ·obtain ⟨h1, h2, h3⟩ := h
  obtain ⟨q, rfl⟩ := Int.eq_ofNat_of_zero_le h2
  exact ((isN_iff _).1 (tailB_yes (k := q) h1 (by omega)).1).1
 ·rw [tailB_no h]; exact Nat.zero_le _
def withinB (n z : ByteArray) : Bool := eqB (tailB n (cntI z)) z
theorem eqB_tail {n z : ByteArray} {k : Int} (h : eqB (tailB n k) z = true) : isN n = true ∧ 0 ≤ k ∧ k ≤ (labs n).length ∧ isN z = true ∧ k = (labs z).length ∧ ((labs n).drop ((labs n).length - (labs z).length)).map lowB = (labs z).map lowB := by
 obtain ⟨h1, h2, h3⟩ := (eqB_iff _ _).1 h
 by_cases hc : isN n = true ∧ 0 ≤ k ∧ k ≤ (labs n).length
 ·obtain ⟨c1, c2, c3⟩ := hc
  obtain ⟨q, rfl⟩ := Int.eq_ofNat_of_zero_le c2
  have hq : q ≤ (labs n).length := by omega
  obtain ⟨t1, t2, t3⟩ := tailB_yes c1 hq
  have hl := congrArg List.length h3
  rw [t2] at hl h3
  simp at hl
  have : q = (labs z).length := by omega
  refine ⟨c1, c2, c3, h2, by omega, ?_⟩
  rw [← this]; exact h3
 ·rw [tailB_no hc, isN_empty] at h1; cases h1
theorem withinB_iff (n z : ByteArray) : withinB n z = true ↔ isN n = true ∧ isN z = true ∧ (labs z).length ≤ (labs n).length ∧ ((labs n).drop ((labs n).length - (labs z).length)).map lowB = (labs z).map lowB := by
 constructor
 ·intro h
  obtain ⟨h1, h2, h3, h4, h5, h6⟩ := eqB_tail h
  rw [cntI_yes h4] at h3
  exact ⟨h1, h4, by omega, h6⟩
 ·rintro ⟨h1, h2, h3, h4⟩
  unfold withinB
  rw [cntI_yes h2, eqB_iff]
  obtain ⟨t1, t2, t3⟩ := tailB_yes h1 h3
  exact ⟨t1, h2, by rw [t2]; exact h4⟩
theorem within_some {n z : ByteArray} {k : Int} (h : eqB (tailB n k) z = true) : withinB n z = true := by
 obtain ⟨h1, h2, h3, h4, h5, h6⟩ := eqB_tail h
 exact (withinB_iff n z).2 ⟨h1, h4, by omega, h6⟩
theorem within_none {n z : ByteArray} (h : ∀ k : Nat, k ≤ (labs n).length → eqB (tailB n k) z = false) : withinB n z = false := by
 cases hw : withinB n z with
 | false => rfl
 | true =>
  obtain ⟨h1, h2, h3, h4⟩ := (withinB_iff n z).1 hw
  have := h _ h3
  unfold withinB at hw
  rw [cntI_yes h2, this] at hw; cases hw
theorem within_noName {n z : ByteArray} (h : isN n = false) : withinB n z = false := by
 cases hw : withinB n z with
 | false => rfl
 | true => have := ((withinB_iff n z).1 hw).1; rw [h] at this; cases this
end Go.Proofs.YtoabnpdoicbpiaaGreat.Nm
namespace Go.Proofs.YtoabnpdoicbpiaaGreat.Nm
set_option linter.unusedVariables false
def graftB (n f t : ByteArray) : ByteArray × Int :=
 if isN n = true ∧ isN f = true ∧ isN t = true then
  if withinB n f = true then
   if (putB ((labs n).take ((labs n).length - (labs f).length) ++ labs t)).size ≤ 255 then (putB ((labs n).take ((labs n).length - (labs f).length) ++ labs t), 0) else (ByteArray.empty, 4)
  else (ByteArray.empty, 5)
 else (ByteArray.empty, 1)
end Go.Proofs.YtoabnpdoicbpiaaGreat.Nm
