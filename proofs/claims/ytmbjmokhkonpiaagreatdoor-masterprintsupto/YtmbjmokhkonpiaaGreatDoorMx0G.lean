import Derived.Test.YtmbjmokhkonpiaaGreatDoorDa3G
import Derived.Test.YtmbjmokhkonpiaaGreatDoorMe1
import Derived.Test.YtmbjmokhkonpiaaGreatDoorWkG
import Derived.Test.YtmbjmokhkonpiaaGreatDoorShwG
import Derived.Shelf.Strings.Prefix
import Derived.Shelf.Lay
import Derived.WalkKit
/-
  Words that are told stand in a file as they are, plainly. (The verifier's own text.)
-/
namespace Go.Proofs.YtmbjmokhkonpiaaGreatDoor
set_option linter.unusedVariables false
set_option linter.unusedSimpArgs false
open Go Go.Proofs.YtmbjmokhkonpiaaGreatDoor.Nm

/-- a word of a file without quotes -/
def okf : List Nat → Bool
  | [] => true
  | x :: l => if isStop x = true then false else if x = 92 then (match l with | [] => false | y :: m => decide (y ≠ 10) && okf m) else okf l
theorem okf_plain {x : Nat} {l : List Nat} (h1 : isStop x = false) (h2 : x ≠ 92) : okf (x :: l) = okf l := by
  conv => lhs; unfold okf
  rw [if_neg (by rw [h1]; decide), if_neg h2]
theorem okf_mark {y : Nat} (l : List Nat) (hy : y ≠ 10) : okf (92 :: y :: l) = okf l := by
  conv => lhs; unfold okf
  rw [if_neg (by decide), if_pos rfl]
  simp [hy]
def calm (x : Nat) : Prop := x < 256 ∧ isStop x = false ∧ x ≠ 92
theorem calm_of {x : Nat} (h : (48 ≤ x ∧ x ≤ 57) ∨ x = 46 ∨ x = 58 ∨ x = 61 ∨ x = 45) : calm x := by
  unfold calm isStop isBl
  refine ⟨by omega, ?_, by omega⟩
  simp only [Bool.or_eq_false_iff, beq_eq_false_iff_ne]
  omega
/-- a byte of a label, as it is told -/
theorem okf_shL {b : Nat} (hb : b < 256) (l : List Nat) : okf (shL b ++ l) = okf l := by
  have key : ∀ b, b < 256 → (amB Nm.marks b = true → b ≠ 10) ∧ (amB Nm.marks b = false → 33 ≤ b → b ≤ 126 → isStop b = false ∧ b ≠ 92) := by decide +kernel
  obtain ⟨k1, k2⟩ := key b hb
  unfold shL
  split
  · rename_i hm
    exact okf_mark l (k1 hm)
  · rename_i hm
    split
    · unfold escL
      simp only [List.cons_append, List.nil_append]
      have c1 : calm (48 + b / 10 % 10) := calm_of (by omega)
      have c2 : calm (48 + b % 10) := calm_of (by omega)
      rw [okf_mark _ (by omega), okf_plain c1.2.1 c1.2.2, okf_plain c2.2.1 c2.2.2]
    · rename_i h2
      have := k2 (by simpa using hm) (by omega) (by omega)
      exact okf_plain this.1 this.2
theorem okf_shTo (x : ByteArray) : ∀ k l, okf (shTo x k ++ l) = okf l
  | 0, l => rfl
  | k + 1, l => by
    rw [show shTo x (k + 1) = shTo x k ++ shL (bt x k) from rfl, List.append_assoc, okf_shTo x k, okf_shL (bt_lt x k)]
theorem okf_shAll : ∀ l m, okf (shAll l ++ m) = okf m
  | [], m => rfl
  | x :: l, m => by
    have e : shAll (x :: l) = shTo x x.size ++ (46 :: shAll l) := by simp [shAll, shLab]
    have c : calm 46 := calm_of (by omega)
    rw [e, List.append_assoc, okf_shTo, List.cons_append, okf_plain c.2.1 c.2.2]
    exact okf_shAll l m
end Go.Proofs.YtmbjmokhkonpiaaGreatDoor

/-
  A file of told words, plainly: its entries are its lines. (The verifier's own text.)
-/
namespace Go.Proofs.YtmbjmokhkonpiaaGreatDoor
set_option linter.unusedVariables false
set_option linter.unusedSimpArgs false
open Go Go.Proofs.YtmbjmokhkonpiaaGreatDoor.Nm

/-- these bytes stand at k -/
def Stnd (s : ByteArray) (k : Nat) (m : List Nat) : Prop := ∀ j (h : j < m.length), k + j < s.size ∧ bt s (k + j) = m[j]
theorem Stnd.head {s : ByteArray} {k x : Nat} {m : List Nat} (h : Stnd s k (x :: m)) : k < s.size ∧ bt s k = x := by
  have := h 0 (by simp)
  simpa using this
theorem Stnd.tail {s : ByteArray} {k x : Nat} {m : List Nat} (h : Stnd s k (x :: m)) : Stnd s (k + 1) m := fun j hj => by
  have := h (j + 1) (by simp; omega)
  rw [show k + 1 + j = k + (j + 1) by omega]
  simpa using this
theorem Stnd.left {s : ByteArray} {k : Nat} {a b : List Nat} (h : Stnd s k (a ++ b)) : Stnd s k a := fun j hj => by
  have := h j (by simp; omega)
  rwa [List.getElem_append_left hj] at this
theorem Stnd.right {s : ByteArray} {k : Nat} {a b : List Nat} (h : Stnd s k (a ++ b)) : Stnd s (k + a.length) b := fun j hj => by
  have := h (a.length + j) (by simp; omega)
  rw [List.getElem_append_right (by omega)] at this
  simp only [Nat.add_sub_cancel_left] at this
  rwa [← Nat.add_assoc] at this
theorem Stnd.le {s : ByteArray} {k : Nat} {a : List Nat} (h : Stnd s k a) (h0 : a ≠ []) : k + a.length ≤ s.size := by
  have h1 : 0 < a.length := List.length_pos_iff.2 h0
  have := (h (a.length - 1) (by omega)).1
  omega
theorem Stnd.cut {s : ByteArray} {k : Nat} {a : List Nat} (h : Stnd s k a) (hlt : ∀ x ∈ a, x < 256) (hle : k + a.length ≤ s.size) : s.extract k (k + a.length) = bts a := by
  refine ba_ext (by rw [bts_size, size_extract' _ _ _ hle]; omega) fun j hj => ?_
  rw [size_extract' _ _ _ hle] at hj
  have hj' : j < a.length := by omega
  rw [bt_extract _ _ _ _ (by omega) hle, bts_bt _ hlt _ hj']
  exact (h j hj').2
/-- words with something blank ahead of each -/
def lnB (L : List (Nat × Wz)) : List Nat := L.flatMap fun p => p.1 :: shW p.2
theorem lnB_cons (p : Nat × Wz) (L : List (Nat × Wz)) : lnB (p :: L) = p.1 :: (shW p.2 ++ lnB L) := by simp [lnB]
/-- a line: an owner, or none, and words -/
structure Li where
  h : Option Wz
  r : List (Nat × Wz)
def liH : Option Wz → List Nat
  | some z => shW z
  | none => []
def liB (x : Li) : List Nat := liH x.h ++ (lnB x.r ++ [10])
end Go.Proofs.YtmbjmokhkonpiaaGreatDoor

/-
  An owner as it is told below an origin, plainly, and that it is read again. (The verifier's own text.)
-/
namespace Go.Proofs.YtmbjmokhkonpiaaGreatDoor
set_option linter.unusedVariables false
set_option linter.unusedSimpArgs false
open Go Go.Proofs.YtmbjmokhkonpiaaGreatDoor.Nm

theorem shL_headc {c : Nat} (hc : amB Nm.marks c = true) (h92 : c ≠ 92) (b : Nat) (l : List Nat) : (shL b ++ l).head? ≠ some c := by
  unfold shL
  split
  · simp; omega
  · rename_i hm
    split
    · simp [escL]; omega
    · simp
      intro e
      subst e
      exact hm hc
theorem shTo_headc {c : Nat} (hc : amB Nm.marks c = true) (h92 : c ≠ 92) (x : ByteArray) : ∀ k l, (0 < k ∨ (l : List Nat).head? ≠ some c) → (shTo x k ++ l).head? ≠ some c
  | 0, l, h => by
    rcases h with h | h
    · omega
    · exact h
  | k + 1, l, h => by
    rw [show shTo x (k + 1) = shTo x k ++ shL (bt x k) from rfl, List.append_assoc]
    exact shTo_headc hc h92 x k _ (.inr (shL_headc hc h92 _ _))
theorem shAll_lt (m : List ByteArray) : ∀ y ∈ shAll m, y < 256 := fun y hy => by
  obtain ⟨z, _, hz⟩ := List.mem_flatMap.1 hy
  rcases List.mem_append.1 hz with h | h
  · exact shTo_lt z _ y h
  · simp at h; omega
/-- labels as a text that goes on at the origin -/
def relL (A : List ByteArray) : List Nat := (shAll A).dropLast
theorem relL_snoc (l : List ByteArray) (y : ByteArray) : relL (l ++ [y]) = shAll l ++ shTo y y.size := by
  unfold relL
  have e : shAll (l ++ [y]) = (shAll l ++ shTo y y.size) ++ [46] := by simp [shAll, shLab]
  rw [e, List.dropLast_concat]
theorem relL_facts {A : List ByteArray} (h : A ≠ []) (hA : OkL A) : relL A ≠ [] ∧ (∀ x ∈ relL A, x < 256) ∧ okf (relL A) = true ∧ (∀ c, amB Nm.marks c = true → c ≠ 92 → (relL A).head? ≠ some c) ∧ shAll A = relL A ++ [46] := by
  obtain ⟨l, y, rfl⟩ : ∃ l y, A = l ++ [y] := ⟨A.dropLast, A.getLast h, (List.dropLast_concat_getLast h).symm⟩
  have hy := hA y (by simp)
  rw [relL_snoc]
  refine ⟨fun e => ?_, fun x hx => ?_, ?_, fun c hc h92 => ?_, by simp [shAll, shLab]⟩
  · have h1 := (List.append_eq_nil_iff.1 e).2
    have h2 := shTo_ge y y.size
    have h3 := congrArg List.length h1
    rw [List.length_nil] at h3
    omega
  · rcases List.mem_append.1 hx with h | h
    · exact shAll_lt l x h
    · exact shTo_lt y _ x h
  · rw [okf_shAll]
    have := okf_shTo y y.size []
    rw [List.append_nil] at this
    rw [this]; rfl
  · cases l with
    | nil =>
      have := shTo_headc hc h92 y y.size [] (.inl hy.1)
      rw [List.append_nil] at this
      exact this
    | cons x l =>
      have e : shAll (x :: l) ++ shTo y y.size = shTo x x.size ++ (46 :: (shAll l ++ shTo y y.size)) := by simp [shAll, shLab]
      rw [e]
      exact shTo_headc hc h92 x x.size _ (.inl (hA x (by simp)).1)
/-- an owner as it is told below an origin -/
def ownL (n o : ByteArray) : List Nat := if n = o then [64] else if tailB n (cntI o) = o then relL ((labs n).take ((labs n).length - (labs o).length)) else lsB (showB n)
theorem tail_form {n o : ByteArray} (hn : isN n = true) (ho : isN o = true) (ht : tailB n (cntI o) = o) (hne : n ≠ o) : ∃ A, A ≠ [] ∧ OkL A ∧ labs n = A ++ labs o ∧ (labs n).take ((labs n).length - (labs o).length) = A ∧ n = putB (A ++ labs o) := by
  have hc : cntI o = ((labs o).length : Int) := by unfold cntI; rw [if_pos ho]
  rw [hc] at ht
  unfold tailB at ht
  split at ht
  · rename_i h
    have hle : (labs o).length ≤ (labs n).length := by omega
    rw [Int.toNat_natCast] at ht
    have h1 : labs o = (labs n).drop ((labs n).length - (labs o).length) := by
      have := congrArg labs ht
      rw [labs_putB (fun z hz => okL_labs n z (List.mem_of_mem_drop hz))] at this
      exact this.symm
    have h2 : labs n = (labs n).take ((labs n).length - (labs o).length) ++ labs o := by
      conv => lhs; rw [← List.take_append_drop ((labs n).length - (labs o).length) (labs n), ← h1]
    refine ⟨_, fun e => ?_, fun z hz => okL_labs n z (List.mem_of_mem_take hz), h2, rfl, ?_⟩
    · rw [e, List.nil_append] at h2
      exact hne (by rw [← putB_labs hn, h2, putB_labs ho])
    · rw [← h2, putB_labs hn]
  · have h1 := (isN_iff o).1 ho
    rw [← ht] at h1
    have h3 := h1.2.1
    have h4 : ByteArray.empty.size = 0 := rfl
    omega
end Go.Proofs.YtmbjmokhkonpiaaGreatDoor

/-
  Proofs: master.showOwner. (The verifier's own text.)
-/
namespace Go.Proofs.YtmbjmokhkonpiaaGreatDoor
set_option linter.unusedVariables false
set_option linter.unusedSimpArgs false
open Go.RowKit Go.Shelf Go.Proofs.YtmbjmokhkonpiaaGreatDoor.Nm

def Tryz.lays102_ren : Go.Shelf.Ren := ⟨fun | 102 => 33 | 209 => 54 | 207 => 69 | n => n, fun | 9 => 9 | 4 => 4 | 3 => 3 | n => n, fun | n => n⟩
theorem Tryz.lays102 : Go.Proofs.Lays.n102 Tryz.prog Tryz.lays102_ren := {
  mixed := by kernel_rfl
  f102 := Tryz.func33.trans (congrArg some (by kernel_rfl))
  f207 := Tryz.func69.trans (congrArg some (by kernel_rfl))
  f209 := Tryz.func54.trans (congrArg some (by kernel_rfl))
  t3 := Tryz.underlying3
  a3 := Tryz.isAgg3
  z3 := Tryz.sizeOf3
  v3 := Tryz.zeroValue3
  t4 := Tryz.underlying4
  a4 := Tryz.isAgg4
  z4 := Tryz.sizeOf4
  v4 := Tryz.zeroValue4
  t9 := Tryz.underlying9
  a9 := Tryz.isAgg9
  z9 := Tryz.sizeOf9
  v9 := Tryz.zeroValue9 }
/-- strings.TrimSuffix of a last point -/
theorem trimDot_any (l : List Nat) (w : World) (hl : l.length ≤ 1073741824) :
    Calls Tryz.prog 33 #[.string (bts (l ++ [46])), .string ⟨#[46]⟩] w fun e w' => e = .returned (.string (bts l)) ∧ w' = w := by
  have h := Any.strings_TrimSuffix Tryz.lays102 (bts (l ++ [46])) ⟨#[46]⟩ w (by rw [bts_size, List.length_append, List.length_singleton]; omega)
  have e : (⟨(Lib.trimSuffix (bts (l ++ [46])).data.toList (⟨#[46]⟩ : ByteArray).data.toList).toArray⟩ : ByteArray) = bts l := by
    unfold Lib.trimSuffix Lib.hasSuffix bts
    simp
  rw [e] at h
  exact h
set_option maxRecDepth 100000 in
set_option maxHeartbeats 2000000 in
/-- master.showOwner -/
theorem showOwner_any (n o : ByteArray) (w : World) (hn : isN n = true) (ho : isN o = true) :
    Calls Tryz.prog 13 #[.string n, .string o] w fun e w' => e = .returned (.string (bts (ownL n o))) ∧ Below w.heap.size w w' := by
  have h255 := ((isN_iff n).1 hn).1
  have ho255 := ((isN_iff o).1 ho).1
  have hm : n.size ≤ maxLen := by unfold maxLen; omega
  have hmo : o.size ≤ maxLen := by unfold maxLen; omega
  have HC := hide' (fun V => count_any o V hmo)
  have HT := hide' (fun V => tail_any n (cntI o) V hm)
  have HS := hide' (fun V => show_any n V hm)
  have e1 := toList_bt n o
  have e2 := toList_bt (tailB n (cntI o)) o
  unfold ownL
  by_cases h1 : n = o
  · rw [decide_eq_true h1] at e1
    rw [if_pos h1]
    clear HC HT HS e2
    go_enter Tryz.func13, Tryz.ntmps13
    go_wp2_with fail
    go_ret
    exact ⟨rfl, Below.refl _ _⟩
  · rw [decide_eq_false h1] at e1
    rw [if_neg h1]
    by_cases h2 : tailB n (cntI o) = o
    · rw [decide_eq_true h2] at e2
      rw [if_pos h2]
      obtain ⟨A, a1, a2, a3, a4, a5⟩ := tail_form hn ho h2 h1
      obtain ⟨f1, f2, f3, f4, f5⟩ := relL_facts a1 a2
      rw [a4]
      have hz : n.size = (chunks A).size + o.size := by
        conv => lhs; rw [a5, putB_append, putB_labs ho]
        rw [ByteArray.size_append]
      have hpA : (putB A).size ≤ 255 := by
        have h1 := putB_size A
        have h2 := ((isN_iff o).1 ho).2.1
        omega
      have hA : isN (putB A) = true := by rw [isN_putB a2]; exact decide_eq_true hpA
      have HS2 := hide' (fun V => show_any (putB A) V (by unfold maxLen; omega))
      have hsh : showB (putB A) = bts (relL A ++ [46]) := by
        rw [showB_yes hA (by rw [labs_putB a2]; exact List.length_pos_iff.2 a1), labs_putB a2, f5]
      rw [hsh] at HS2
      have hlen : (relL A).length ≤ 1073741824 := by
        have := shAll_len A
        rw [f5, List.length_append] at this
        have := putB_size A
        omega
      have HD := hide' (fun V => trimDot_any (relL A) V hlen)
      have hcut : n.extract 0 (chunks A).size = chunks A := by
        conv => lhs; rw [a5, putB_append]
        exact ByteArray.extract_append_eq_left rfl
      have hwr : IntKind.i64.wrap ((n.size : Int) - (o.size : Int)) = ((chunks A).size : Int) := by
        have h3 : (n.size : Int) - (o.size : Int) = ((chunks A).size : Int) := by omega
        rw [h3]
        simp [IntKind.wrap, IntKind.bits, IntKind.signed]
        omega
      have hle : (chunks A).size ≤ n.size := by omega
      have hadd : chunks A ++ (⟨#[0]⟩ : ByteArray) = putB A := rfl
      have hsA : (chunks A).size ≤ 255 := by omega
      obtain ⟨X, hX⟩ : ∃ X, putB A = X := ⟨_, rfl⟩
      rw [hX] at hadd HS2
      obtain ⟨C, hC⟩ : ∃ C, chunks A = C := ⟨_, rfl⟩
      rw [hC] at hcut hwr hle hadd hz hsA
      obtain ⟨Y, hY⟩ : ∃ Y, bts (relL A ++ [46]) = Y := ⟨_, rfl⟩
      rw [hY] at HS2 HD
      have HAdd : Hid (n.extract 0 C.size ++ (⟨#[0]⟩ : ByteArray) = X) := by unfold Hid; rw [hcut]; exact hadd
      clear hX hC hY hlen hsh hA hpA hm hmo HS a5 a4 a3 h2 h1 f1 f2 f3 f4 f5 hz h255 ho255 hn ho hadd hcut
      go_enter Tryz.func13, Tryz.ntmps13
      go_wp2_with (first
        | (go_at_call 32; refine (HC.out _).mono ?_; rintro e3 w1 ⟨rfl, hB1⟩; have HB1 := hide' hB1; clear hB1)
        | (go_at_call 31; refine (HT.out _).mono ?_; rintro e4 w2 ⟨rfl, hB2⟩; have HB2 := hide' (bstep HB1.out hB2 HB1.out.size); clear hB2)
        | (go_at_call 11; (try rw [HAdd.out]); refine (HS2.out _).mono ?_; rintro e5 w3 ⟨rfl, hB3⟩; have HB3 := hide' (bstep HB2.out hB3 HB2.out.size); clear hB3)
        | (go_at_call 33; refine (HD.out _).mono ?_; rintro e6 w4 ⟨rfl, hw4⟩; have hw4' := hw4.symm; subst hw4'))
      go_ret
      exact ⟨rfl, HB3.out⟩
    · rw [decide_eq_false h2] at e2
      rw [if_neg h2, bts_ls]
      go_enter Tryz.func13, Tryz.ntmps13
      go_wp2_with (first
        | (go_at_call 32; refine (HC.out _).mono ?_; rintro e3 w1 ⟨rfl, hB1⟩; have HB1 := hide' hB1; clear hB1)
        | (go_at_call 31; refine (HT.out _).mono ?_; rintro e4 w2 ⟨rfl, hB2⟩; have HB2 := hide' (bstep HB1.out hB2 HB1.out.size); clear hB2)
        | (go_at_call 11; refine (HS.out _).mono ?_; rintro e5 w3 ⟨rfl, hB3⟩; have HB3 := hide' (bstep HB2.out hB3 HB2.out.size); clear hB3))
      go_ret
      exact ⟨rfl, HB3.out⟩
end Go.Proofs.YtmbjmokhkonpiaaGreatDoor
