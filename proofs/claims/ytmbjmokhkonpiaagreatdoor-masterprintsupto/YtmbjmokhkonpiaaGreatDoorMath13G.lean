import Derived.Test.YtmbjmokhkonpiaaGreatDoorMath8G
import Derived.Lib.AppendStr
namespace Go.Proofs.YtmbjmokhkonpiaaGreatDoor.Nm
set_option linter.unusedVariables false

end Go.Proofs.YtmbjmokhkonpiaaGreatDoor.Nm

namespace Go.Proofs.YtmbjmokhkonpiaaGreatDoor.Nm
set_option linter.unusedVariables false

/-- a byte among those of a text -/
def amB (s : ByteArray) (b : Nat) : Bool := (List.range s.size).any (fun j => bt s j == b)
theorem amB_true {s : ByteArray} {b j : Nat} (hj : j < s.size) (h : bt s j = b) : amB s b = true := by
  unfold amB; rw [List.any_eq_true]; exact ⟨j, List.mem_range.2 hj, by simp [h]⟩
theorem amB_false {s : ByteArray} {b : Nat} (h : ∀ j, j < s.size → bt s j ≠ b) : amB s b = false := by
  unfold amB; rw [List.any_eq_false]; intro j hj; simp [h j (List.mem_range.1 hj)]

/-- bytes as a text -/
def bts (l : List Nat) : ByteArray := ⟨(l.map UInt8.ofNat).toArray⟩
theorem bts_size (l : List Nat) : (bts l).size = l.length := by
  show (l.map UInt8.ofNat).toArray.size = _
  simp
theorem bts_bt (l : List Nat) (h : ∀ x ∈ l, x < 256) (j : Nat) (hj : j < l.length) : bt (bts l) j = l[j] := by
  have hz := bts_size l
  rw [← bt_eq (s := bts l) (by omega)]
  have e : (bts l)[j]'(by omega) = UInt8.ofNat l[j] := by
    have h2 : (l.map UInt8.ofNat).toArray[j]'(by simpa using hj) = UInt8.ofNat l[j] := by simp
    exact h2
  rw [e, UInt8.toNat_ofNat', Nat.mod_eq_of_lt (h _ (List.getElem_mem hj))]
def escL (b : Nat) : List Nat := [92, 48 + b / 100, 48 + b / 10 % 10, 48 + b % 10]
def marks : ByteArray := ⟨#[46, 92, 34, 40, 41, 59, 64, 36]⟩
/-- how a byte is written -/
def shL (b : Nat) : List Nat := if amB marks b = true then [92, b] else if b < 33 ∨ 126 < b then escL b else [b]
theorem marks_in {b : Nat} (h : amB marks b = true) : 33 < b ∧ b ≤ 126 := by
  unfold amB at h
  rw [List.any_eq_true] at h
  obtain ⟨j, hj, he⟩ := h
  have hj' : j < 8 := List.mem_range.1 hj
  have hb := eq_of_beq he
  have : ∀ i, i < 8 → 33 < bt marks i ∧ bt marks i ≤ 126 := by decide +kernel
  have := this j hj'
  omega
theorem shL_marked {b : Nat} (h : amB marks b = true) : shL b = [92, b] := by unfold shL; rw [if_pos h]
theorem shL_esc {b : Nat} (h : b < 33 ∨ 126 < b) : shL b = escL b := by
  unfold shL
  rw [if_neg, if_pos h]
  intro e; have := marks_in e; omega
theorem shL_plain {b : Nat} (h : amB marks b = false) (h1 : 33 ≤ b) (h2 : b ≤ 126) : shL b = [b] := by
  unfold shL; rw [if_neg (by rw [h]; decide), if_neg (by omega)]
theorem shL_lt {b : Nat} (hb : b < 256) : ∀ x ∈ shL b, x < 256 := by
  intro x hx
  unfold shL at hx
  split at hx
  · simp at hx; omega
  · split at hx
    · simp [escL] at hx; omega
    · simp at hx; omega
theorem shL_len (b : Nat) : 0 < (shL b).length ∧ (shL b).length ≤ 4 := by
  unfold shL; split
  · simp
  · split <;> simp [escL]
/-- how a byte is written, wherever: those below the first as numbers, the marked ones behind a sign -/
def shG (f : Nat) (m : ByteArray) (b : Nat) : List Nat := if b < f ∨ 126 < b then escL b else if amB m b = true then [92, b] else [b]
theorem shG_esc {f : Nat} {m : ByteArray} {b : Nat} (h : b < f ∨ 126 < b) : shG f m b = escL b := by unfold shG; rw [if_pos h]
theorem shG_marked {f : Nat} {m : ByteArray} {b : Nat} (h : ¬ (b < f ∨ 126 < b)) (hm : amB m b = true) : shG f m b = [92, b] := by unfold shG; rw [if_neg h, if_pos hm]
theorem shG_plain {f : Nat} {m : ByteArray} {b : Nat} (h : ¬ (b < f ∨ 126 < b)) (hm : amB m b = false) : shG f m b = [b] := by unfold shG; rw [if_neg h, if_neg (by rw [hm]; decide)]
theorem shG_name (b : Nat) : shG 33 marks b = shL b := by
  unfold shG shL
  by_cases h : b < 33 ∨ 126 < b
  · rw [if_pos h, if_pos h]
    split
    · next hm => have := marks_in hm; omega
    · rfl
  · rw [if_neg h, if_neg h]
theorem shG_len (f : Nat) (m : ByteArray) (b : Nat) : 0 < (shG f m b).length ∧ (shG f m b).length ≤ 4 := by
  unfold shG; split
  · simp [escL]
  · split <;> simp
theorem shG_lt {f : Nat} {m : ByteArray} {b : Nat} (hb : b < 256) : ∀ x ∈ shG f m b, x < 256 := by
  intro x hx
  unfold shG at hx
  split at hx
  · simp [escL] at hx; omega
  · split at hx
    · simp at hx; omega
    · simp at hx; omega
theorem bts_append (l m : List Nat) : bts (l ++ m) = bts l ++ bts m := by
  unfold bts
  apply ByteArray.ext
  rw [ByteArray.data_append]
  simp
theorem bts_cells (l : List Nat) (h : ∀ x ∈ l, x < 256) : Go.Lib.strCells (bts l) = l.map (fun x : Nat => Go.Value.int .u8 (x : Int)) := by
  unfold Go.Lib.strCells bts
  simp only [List.map_map]
  apply List.map_congr_left
  intro x hx
  simp only [Function.comp]
  rw [UInt8.toNat_ofNat', Nat.mod_eq_of_lt (h x hx)]

/-- a label, written: the bytes of its first k ones -/
def shTo (x : ByteArray) : Nat → List Nat
  | 0 => []
  | k + 1 => shTo x k ++ shL (bt x k)
def shLab (x : ByteArray) : List Nat := shTo x x.size ++ [46]
def shAll (l : List ByteArray) : List Nat := l.flatMap shLab
theorem shTo_lt (x : ByteArray) : ∀ k, ∀ y ∈ shTo x k, y < 256
  | 0, y, h => by simp [shTo] at h
  | k + 1, y, h => by
    rcases List.mem_append.1 h with h | h
    · exact shTo_lt x k y h
    · exact shL_lt (bt_lt x k) y h
theorem shTo_len (x : ByteArray) : ∀ k, (shTo x k).length ≤ 4 * k
  | 0 => by simp [shTo]
  | k + 1 => by
    have := shTo_len x k
    have := (shL_len (bt x k)).2
    simp only [shTo, List.length_append]; omega
theorem shLab_len (x : ByteArray) : (shLab x).length ≤ 4 * x.size + 1 := by
  have := shTo_len x x.size
  simp only [shLab, List.length_append, List.length_cons, List.length_nil]; omega
theorem shAll_snoc (l : List ByteArray) (x : ByteArray) : shAll (l ++ [x]) = shAll l ++ shLab x := by simp [shAll]
theorem shAll_len : ∀ l : List ByteArray, (shAll l).length ≤ 4 * (chunks l).size
  | [] => by simp [shAll]
  | x :: l => by
    have h1 := shAll_len l
    have h2 := shLab_len x
    have e : (shAll (x :: l)).length = (shLab x).length + (shAll l).length := by simp [shAll]
    rw [e, chunks_cons, ByteArray.size_append, chunk_size]; omega
/-- how a name is written -/
def showB (s : ByteArray) : ByteArray := if isN s = true then (if (labs s).length = 0 then bts [46] else bts (shAll (labs s))) else ByteArray.empty
theorem showB_no {s : ByteArray} (h : isN s = false) : showB s = ByteArray.empty := by unfold showB; rw [if_neg (by rw [h]; decide)]
theorem showB_root {s : ByteArray} (h : isN s = true) (hl : (labs s).length = 0) : showB s = bts [46] := by unfold showB; rw [if_pos h, if_pos hl]
theorem showB_yes {s : ByteArray} (h : isN s = true) (hl : 0 < (labs s).length) : showB s = bts (shAll (labs s)) := by unfold showB; rw [if_pos h, if_neg (by omega)]
end Go.Proofs.YtmbjmokhkonpiaaGreatDoor.Nm

namespace Go.Proofs.YtmbjmokhkonpiaaGreatDoor.Nm
set_option linter.unusedVariables false

/-- noughts and ones as a number, the highest first -/
def val (l : List Nat) : Nat := l.foldl (fun v b => 2 * v + b) 0
theorem foldl_val (l : List Nat) : ∀ a : Nat, l.foldl (fun v b => 2 * v + b) a = a * 2 ^ l.length + val l := by
  induction l with
  | nil => intro a; simp [val]
  | cons x l ih =>
    intro a
    have h1 := ih (2 * a + x)
    have h2 := ih (2 * 0 + x)
    unfold val
    simp only [List.foldl_cons, List.length_cons]
    rw [h1, h2, Nat.pow_succ]
    simp only [Nat.add_mul, Nat.mul_zero, Nat.zero_add]
    rw [show 2 * a * 2 ^ l.length = a * (2 ^ l.length * 2) by rw [Nat.mul_comm 2 a, Nat.mul_assoc, Nat.mul_comm 2 (2 ^ l.length)]]
    omega
theorem val_append (a b : List Nat) : val (a ++ b) = val a * 2 ^ b.length + val b := by
  unfold val; rw [List.foldl_append]; exact foldl_val b _
theorem val_snoc (a : List Nat) (x : Nat) : val (a ++ [x]) = 2 * val a + x := by rw [val_append]; simp [val]; omega
def Bin (l : List Nat) : Prop := ∀ x ∈ l, x < 2
theorem Bin.left {a b : List Nat} (h : Bin (a ++ b)) : Bin a := fun x hx => h x (List.mem_append_left _ hx)
theorem Bin.right {a b : List Nat} (h : Bin (a ++ b)) : Bin b := fun x hx => h x (List.mem_append_right _ hx)
theorem Bin.append {a b : List Nat} (h : Bin a) (k : Bin b) : Bin (a ++ b) := fun x hx => (List.mem_append.1 hx).elim (h x) (k x)
theorem Bin.take {a : List Nat} (h : Bin a) (k : Nat) : Bin (a.take k) := fun x hx => h x (List.mem_of_mem_take hx)
theorem Bin.drop {a : List Nat} (h : Bin a) (k : Nat) : Bin (a.drop k) := fun x hx => h x (List.mem_of_mem_drop hx)
theorem val_cons (x : Nat) (l : List Nat) : val (x :: l) = x * 2 ^ l.length + val l := by
  rw [show x :: l = [x] ++ l from rfl, val_append]
  congr 2
  simp [val]
theorem val_lt : ∀ {l : List Nat}, Bin l → val l < 2 ^ l.length
  | [], _ => by decide
  | x :: l, h => by
    have h1 := val_lt (l := l) (fun y hy => h y (List.mem_cons_of_mem _ hy))
    have h2 := h x (List.mem_cons_self ..)
    rw [val_cons, List.length_cons, Nat.pow_succ]
    have : x = 0 ∨ x = 1 := by omega
    rcases this with rfl | rfl <;> omega
theorem val_inj : ∀ {l m : List Nat}, Bin l → Bin m → l.length = m.length → val l = val m → l = m
  | [], [], _, _, _, _ => rfl
  | [], y :: m, _, _, h, _ => by simp at h
  | x :: l, [], _, _, h, _ => by simp at h
  | x :: l, y :: m, hl, hm, h, hv => by
    have hln : l.length = m.length := by simpa using h
    have hl' : Bin l := fun z hz => hl z (List.mem_cons_of_mem _ hz)
    have hm' : Bin m := fun z hz => hm z (List.mem_cons_of_mem _ hz)
    have b1 := val_lt hl'
    have b2 := val_lt hm'
    have hx := hl x (List.mem_cons_self ..)
    have hy := hm y (List.mem_cons_self ..)
    rw [val_cons, val_cons, hln] at hv
    rw [hln] at b1
    have e : x = y ∧ val l = val m := by
      have c1 : x = 0 ∨ x = 1 := by omega
      have c2 : y = 0 ∨ y = 1 := by omega
      rcases c1 with rfl | rfl <;> rcases c2 with rfl | rfl <;> omega
    rw [e.1, val_inj hl' hm' hln e.2]
/-- a number by w noughts and ones -/
def bitsW : Nat → Nat → List Nat
  | 0, _ => []
  | w + 1, v => bitsW w (v / 2) ++ [v % 2]
theorem bitsW_len : ∀ w v, (bitsW w v).length = w
  | 0, _ => rfl
  | w + 1, v => by simp [bitsW, bitsW_len w]
theorem bitsW_bin : ∀ w v, Bin (bitsW w v)
  | 0, _ => fun x hx => by cases hx
  | w + 1, v => (bitsW_bin w _).append (fun x hx => by simp at hx; omega)
theorem val_bitsW : ∀ w v, v < 2 ^ w → val (bitsW w v) = v
  | 0, v, h => by simp at h; subst h; rfl
  | w + 1, v, h => by
    rw [Nat.pow_succ] at h
    simp only [bitsW]
    rw [val_snoc, val_bitsW w (v / 2) (by omega)]
    omega
theorem bitsW_val {l : List Nat} (h : Bin l) : bitsW l.length (val l) = l :=
  val_inj (bitsW_bin _ _) h (bitsW_len _ _) (val_bitsW _ _ (val_lt h))
theorem bitsW_get : ∀ (w v i : Nat), i < w → (bitsW w v)[i]? = some (v / 2 ^ (w - 1 - i) % 2)
  | 0, _, _, h => by omega
  | w + 1, v, i, h => by
    simp only [bitsW]
    by_cases e : i < w
    · rw [List.getElem?_append_left (by rw [bitsW_len]; exact e), bitsW_get w (v / 2) i e, Nat.div_div_eq_div_mul]
      congr 3
      rw [show w + 1 - 1 - i = (w - 1 - i) + 1 by omega, Nat.pow_succ, Nat.mul_comm]
    · have : i = w := by omega
      subst this
      rw [List.getElem?_append_right (by rw [bitsW_len]; exact Nat.le_refl _), bitsW_len]
      simp
def bitsL (w : Nat) (l : List Nat) : List Nat := l.flatMap (bitsW w)
theorem bitsL_snoc (w : Nat) (l : List Nat) (x : Nat) : bitsL w (l ++ [x]) = bitsL w l ++ bitsW w x := by simp [bitsL]
theorem bitsL_len (w : Nat) : ∀ l : List Nat, (bitsL w l).length = w * l.length
  | [] => by simp [bitsL]
  | x :: l => by
    have := bitsL_len w l
    have e : bitsL w (x :: l) = bitsW w x ++ bitsL w l := by simp [bitsL]
    rw [e, List.length_append, bitsW_len, this, List.length_cons, Nat.mul_succ]; omega
theorem bitsL_bin (w : Nat) (l : List Nat) : Bin (bitsL w l) := fun x hx => by
  obtain ⟨y, _, hy⟩ := List.mem_flatMap.1 hx
  exact bitsW_bin w y x hy

/-- noughts and ones by so many to a number; the last one is filled with noughts -/
def codeF (w : Nat) : Nat → List Nat → List Nat
  | 0, _ => []
  | f + 1, bs => if bs = [] then [] else val (bs.take w ++ List.replicate (w - bs.length) 0) :: codeF w f (bs.drop w)
theorem codeF_fuel {w : Nat} (hw : 0 < w) : ∀ (f g : Nat) (bs : List Nat), bs.length ≤ f → bs.length ≤ g → codeF w f bs = codeF w g bs
  | 0, 0, bs, _, _ => rfl
  | 0, g + 1, bs, hf, _ => by
    have : bs = [] := List.length_eq_zero_iff.1 (by omega)
    simp [codeF, this]
  | f + 1, 0, bs, _, hg => by
    have : bs = [] := List.length_eq_zero_iff.1 (by omega)
    simp [codeF, this]
  | f + 1, g + 1, bs, hf, hg => by
    simp only [codeF]
    by_cases h : bs = []
    · rw [if_pos h, if_pos h]
    · have hp : 0 < bs.length := List.length_pos_iff.2 h
      rw [if_neg h, if_neg h, codeF_fuel hw f g _ (by rw [List.length_drop]; omega) (by rw [List.length_drop]; omega)]
def codeP (w : Nat) (bs : List Nat) : List Nat := codeF w bs.length bs
theorem codeP_nil (w : Nat) : codeP w [] = [] := rfl
theorem codeP_step {w : Nat} (hw : 0 < w) {bs : List Nat} (h : bs ≠ []) : codeP w bs = val (bs.take w ++ List.replicate (w - bs.length) 0) :: codeP w (bs.drop w) := by
  have hp : 0 < bs.length := List.length_pos_iff.2 h
  unfold codeP
  obtain ⟨n, hn⟩ : ∃ n, bs.length = n + 1 := ⟨bs.length - 1, by omega⟩
  rw [hn]
  simp only [codeF]
  rw [if_neg h, hn, codeF_fuel hw n (bs.drop w).length _ (by rw [List.length_drop]; omega) (Nat.le_refl _)]
theorem codeP_full {w : Nat} (hw : 0 < w) (a b : List Nat) (ha : a.length = w) : codeP w (a ++ b) = val a :: codeP w b := by
  have hne : a ++ b ≠ [] := fun e => by
    have h := congrArg List.length e
    rw [List.length_append, List.length_nil] at h
    omega
  rw [codeP_step hw hne, List.length_append, show w - (a.length + b.length) = 0 by omega]
  have e1 : (a ++ b).take w = a := by rw [← ha, List.take_left]
  have e2 : (a ++ b).drop w = b := by rw [← ha, List.drop_left]
  rw [e1, e2]; simp
theorem val_zeros (l : List Nat) (k : Nat) : val (l ++ List.replicate k 0) = val l * 2 ^ k := by
  rw [val_append, List.length_replicate]
  have : ∀ k, val (List.replicate k 0) = 0 := by
    intro k
    induction k with
    | zero => rfl
    | succ k ih => rw [List.replicate_succ, val_cons, ih]; simp
  rw [this]; rfl
theorem codeP_last {w : Nat} {a : List Nat} (h0 : a ≠ []) (h : a.length ≤ w) : codeP w a = [val a * 2 ^ (w - a.length)] := by
  have hp : 0 < a.length := List.length_pos_iff.2 h0
  rw [codeP_step (by omega) h0, List.take_of_length_le h, val_zeros, List.drop_of_length_le h, codeP_nil]
theorem codeP_lt {w : Nat} (hw : 0 < w) : ∀ (n : Nat) (bs : List Nat), bs.length ≤ n → Bin bs → ∀ v ∈ codeP w bs, v < 2 ^ w
  | 0, bs, hn, _, v, hv => by
    have : bs = [] := List.length_eq_zero_iff.1 (by omega)
    subst this; rw [codeP_nil] at hv; cases hv
  | n + 1, bs, hn, hb, v, hv => by
    by_cases h : bs = []
    · subst h; rw [codeP_nil] at hv; cases hv
    · have hp : 0 < bs.length := List.length_pos_iff.2 h
      rw [codeP_step hw h] at hv
      rcases List.mem_cons.1 hv with rfl | hv
      · have hB : Bin (bs.take w ++ List.replicate (w - bs.length) 0) := (hb.take w).append (fun x hx => by have := List.eq_of_mem_replicate hx; omega)
        have := val_lt hB
        have e : (bs.take w ++ List.replicate (w - bs.length) 0).length = w := by rw [List.length_append, List.length_take, List.length_replicate]; omega
        rw [e] at this; exact this
      · exact codeP_lt hw n (bs.drop w) (by rw [List.length_drop]; omega) (hb.drop w) v hv
theorem codeP_len {w : Nat} (hw : 0 < w) : ∀ (n : Nat) (bs : List Nat), bs.length ≤ n → (codeP w bs).length ≤ bs.length
  | 0, bs, hn => by
    have : bs = [] := List.length_eq_zero_iff.1 (by omega)
    subst this; exact Nat.le_refl _
  | n + 1, bs, hn => by
    by_cases h : bs = []
    · subst h; exact Nat.le_refl _
    · have hp : 0 < bs.length := List.length_pos_iff.2 h
      rw [codeP_step hw h, List.length_cons]
      have := codeP_len hw n (bs.drop w) (by rw [List.length_drop]; omega)
      rw [List.length_drop] at this; omega
/-- a text's bytes as a list -/
def lst (x : ByteArray) (k : Nat) : List Nat := (List.range k).map (bt x)
theorem lst_succ (x : ByteArray) (k : Nat) : lst x (k + 1) = lst x k ++ [bt x k] := by simp [lst, List.range_succ]
theorem lst_len (x : ByteArray) (k : Nat) : (lst x k).length = k := by simp [lst]
theorem bts_lst (x : ByteArray) : bts (lst x x.size) = x := by
  refine ba_ext (by rw [bts_size, lst_len]) fun j hj => ?_
  have hj' : j < x.size := by rw [bts_size, lst_len] at hj; exact hj
  rw [bts_bt _ (fun y hy => by obtain ⟨i, _, rfl⟩ := List.mem_map.1 hy; exact bt_lt _ _) j (by rw [lst_len]; exact hj')]
  simp [lst]
theorem lst_lt (x : ByteArray) (k : Nat) : ∀ y ∈ lst x k, y < 256 := fun y hy => by obtain ⟨i, _, rfl⟩ := List.mem_map.1 hy; exact bt_lt _ _
theorem lst_drop {x : ByteArray} {n k : Nat} (h : k < n) : (lst x n).drop k = bt x k :: (lst x n).drop (k + 1) := by
  rw [List.drop_eq_getElem_cons (by rw [lst_len]; exact h)]
  simp [lst]
end Go.Proofs.YtmbjmokhkonpiaaGreatDoor.Nm
