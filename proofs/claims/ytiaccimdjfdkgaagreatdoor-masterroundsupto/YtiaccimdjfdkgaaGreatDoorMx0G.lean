import Derived.Test.YtiaccimdjfdkgaaGreatDoorDa3G
import Derived.Test.YtiaccimdjfdkgaaGreatDoorMe1G
import Derived.Test.YtiaccimdjfdkgaaGreatDoorWkG
import Derived.Test.YtiaccimdjfdkgaaGreatDoorShwG
import Derived.Shelf.Strings.Prefix
import Derived.Shelf.Lay
import Derived.WalkKit
/-
  Words that are told stand in a file as they are, plainly. (The verifier's own text.)
-/
namespace Go.Proofs.YtiaccimdjfdkgaaGreatDoor
set_option linter.unusedVariables false
set_option linter.unusedSimpArgs false
open Go Go.Proofs.YtiaccimdjfdkgaaGreatDoor.Nm

/-- a word of a file without quotes -/
def okf : List Nat → Bool
  | [] => true
  | x :: l => if isStop x = true then false else if x = 92 then (match l with | [] => false | y :: m => decide (y ≠ 10) && okf m) else okf l
/-- .. within quotes -/
def okg : List Nat → Bool
  | [] => true
  | x :: l => if x = 92 then (match l with | [] => false | y :: m => decide (y ≠ 10) && okg m) else if x = 34 ∨ x = 10 then false else okg l
theorem okf_plain {x : Nat} {l : List Nat} (h1 : isStop x = false) (h2 : x ≠ 92) : okf (x :: l) = okf l := by
  conv => lhs; unfold okf
  rw [if_neg (by rw [h1]; decide), if_neg h2]
theorem okf_mark {y : Nat} (l : List Nat) (hy : y ≠ 10) : okf (92 :: y :: l) = okf l := by
  conv => lhs; unfold okf
  rw [if_neg (by decide), if_pos rfl]
  simp [hy]
theorem okg_plain {x : Nat} {l : List Nat} (h1 : x ≠ 34) (h2 : x ≠ 92) (h3 : x ≠ 10) : okg (x :: l) = okg l := by
  conv => lhs; unfold okg
  rw [if_neg h2, if_neg (by omega)]
theorem okg_mark {y : Nat} (l : List Nat) (hy : y ≠ 10) : okg (92 :: y :: l) = okg l := by
  conv => lhs; unfold okg
  rw [if_pos rfl]
  simp [hy]
/-- a word as a file has it -/
structure OkF (z : Wz) : Prop where
  lt : ∀ x ∈ z.t, x < 256
  qu : z.q = true → okg z.t = true
  pl : z.q = false → z.t ≠ [] ∧ okf z.t = true
def calm (x : Nat) : Prop := x < 256 ∧ isStop x = false ∧ x ≠ 92
theorem okf_calm : ∀ {l : List Nat}, (∀ x ∈ l, calm x) → okf l = true
  | [], _ => rfl
  | x :: l, h => by
    have hx := h x List.mem_cons_self
    rw [okf_plain hx.2.1 hx.2.2]
    exact okf_calm fun y hy => h y (List.mem_cons_of_mem _ hy)
theorem okF_calm {t : List Nat} (h0 : t ≠ []) (h : ∀ x ∈ t, calm x) : OkF ⟨t, false⟩ := ⟨fun x hx => (h x hx).1, (fun e => by cases e), fun _ => ⟨h0, okf_calm h⟩⟩
theorem calm_of {x : Nat} (h : (48 ≤ x ∧ x ≤ 57) ∨ x = 46 ∨ x = 58 ∨ x = 61 ∨ x = 45) : calm x := by
  unfold calm isStop isBl
  refine ⟨by omega, ?_, by omega⟩
  simp only [Bool.or_eq_false_iff, beq_eq_false_iff_ne]
  omega
theorem okg_shQ {b : Nat} (hb : b < 256) (l : List Nat) : okg (shQ b ++ l) = okg l := by
  rcases shQ_cases (b := b) with ⟨e, he⟩ | ⟨e, he⟩ | ⟨e, h34, h92, h1, h2⟩
  · rw [e]
    unfold escL
    simp only [List.cons_append, List.nil_append]
    rw [okg_mark _ (by omega), okg_plain (by omega) (by omega) (by omega), okg_plain (by omega) (by omega) (by omega)]
  · rw [e]
    exact okg_mark l (by omega)
  · rw [e]
    exact okg_plain h34 h92 (by omega)
theorem okg_qt : ∀ l : List Nat, (∀ x ∈ l, x < 256) → okg (qtL l) = true
  | [], _ => rfl
  | b :: l, h => by rw [qtL_cons, okg_shQ (h b List.mem_cons_self)]; exact okg_qt l fun x hx => h x (List.mem_cons_of_mem _ hx)
theorem okF_quote {l : List Nat} (h : ∀ x ∈ l, x < 256) : OkF ⟨qtL l, true⟩ := ⟨qtL_lt h, fun _ => okg_qt l h, (fun e => by cases e)⟩
theorem d16_calm : ∀ v, v < 2 ^ 4 → calm (bt d16 v) := by unfold calm; decide +kernel
theorem d32_calm : ∀ v, v < 2 ^ 5 → calm (bt d32 v) := by unfold calm; decide +kernel
theorem d64_calm : ∀ v, v < 2 ^ 6 → calm (bt d64 v) := by unfold calm; decide +kernel
theorem dig_calm {W : Nat} {d : ByteArray} (hW : DgW W d) (hs : ∀ v, v < 2 ^ W → calm (bt d v)) (b : ByteArray) : ∀ x ∈ lsB (toWB W d b), calm x := fun x hx => by
  obtain ⟨j, hj, rfl⟩ := lst_mem hx
  exact toWB_all (P := calm) hW b hs j hj
theorem dgN_calm (u : Nat) : ∀ x ∈ dgN u, calm x := fun x hx => calm_of (.inl (dgN_dig u x hx))
theorem hxL_calm (u : Nat) : ∀ y ∈ hxL u, calm y := fun y hy => by
  obtain ⟨v, hv, rfl⟩ := List.mem_map.1 hy
  exact d16_calm v (hxV_lt u u (Nat.le_refl _) v hv)
theorem grL_calm {U : List Nat} {x : Nat} (h : x ∈ grL U) : calm x := by
  rcases jnC_mem h with e | ⟨y, hy, e⟩
  · exact calm_of (by omega)
  · obtain ⟨a, _, rfl⟩ := List.mem_map.1 hy
    exact hxL_calm a x e
theorem nameT_calm {t : Nat} (h1 : 1 ≤ t) (h2 : t ≤ 65535) : ∀ x ∈ lsB (nameT (t : Int)), calm x := by
  have hty : isTy (t : Int) = true := by unfold isTy; exact decide_eq_true (by omega)
  unfold nameT
  rw [if_pos hty]
  cases hf : twFind (t : Int) with
  | some s =>
    simp only
    unfold twFind at hf
    cases hq : tw.find? (fun r => decide ((r.1 : Int) = t)) with
    | none => rw [hq] at hf; cases hf
    | some r =>
      rw [hq] at hf
      simp only [Option.map_some, Option.some.injEq] at hf
      subst hf
      have hm := List.mem_of_find?_eq_some hq
      have key : ∀ r ∈ tw, ∀ x ∈ lsB r.2, calm x := by unfold calm; decide +kernel
      exact key r hm
  | none =>
    simp only
    have e : (⟨#[84, 89, 80, 69]⟩ : ByteArray) ++ ⟨(Lib.itoa (t : Int)).toArray⟩ = bts ([84, 89, 80, 69] ++ dgN t) := by
      rw [bts_append, bts_dg]
      congr 1
    have hlt : ∀ x ∈ [84, 89, 80, 69] ++ dgN t, calm x := fun x hx => by
      rcases List.mem_append.1 hx with h | h
      · have key : ∀ x ∈ [84, 89, 80, 69], calm x := by unfold calm; decide
        exact key x h
      · exact dgN_calm t x h
    rw [e, lsB_bts (fun x hx => (hlt x hx).1)]
    exact hlt
/-- a byte of a label, as it is told -/
theorem okf_shL {b : Nat} (hb : b < 256) (l : List Nat) : okf (shL b ++ l) = okf l := by
  have key : ∀ b, b < 256 → (amB Nm.marks b = true → b ≠ 10) ∧ (amB Nm.marks b = false → 33 ≤ b → b ≤ 126 → isStop b = false ∧ b ≠ 92) := by decide +kernel
  obtain ⟨k1, k2⟩ := key b hb
  unfold shL
  split
  · rename_i hm
    exact okf_mark l (k1 hm)
  · rename_i hm
    split
    · unfold escL
      simp only [List.cons_append, List.nil_append]
      have c1 : calm (48 + b / 10 % 10) := calm_of (by omega)
      have c2 : calm (48 + b % 10) := calm_of (by omega)
      rw [okf_mark _ (by omega), okf_plain c1.2.1 c1.2.2, okf_plain c2.2.1 c2.2.2]
    · rename_i h2
      have := k2 (by simpa using hm) (by omega) (by omega)
      exact okf_plain this.1 this.2
theorem okf_shTo (x : ByteArray) : ∀ k l, okf (shTo x k ++ l) = okf l
  | 0, l => rfl
  | k + 1, l => by
    rw [show shTo x (k + 1) = shTo x k ++ shL (bt x k) from rfl, List.append_assoc, okf_shTo x k, okf_shL (bt_lt x k)]
theorem okf_shAll : ∀ l m, okf (shAll l ++ m) = okf m
  | [], m => rfl
  | x :: l, m => by
    have e : shAll (x :: l) = shTo x x.size ++ (46 :: shAll l) := by simp [shAll, shLab]
    have c : calm 46 := calm_of (by omega)
    rw [e, List.append_assoc, okf_shTo, List.cons_append, okf_plain c.2.1 c.2.2]
    exact okf_shAll l m
theorem dom_okF {b : ByteArray} (hb : isN b = true) : OkF ⟨lsB (showB b), false⟩ := by
  have hk := (dom_ok hb).1
  refine ⟨hk.lt, (fun e => by cases e), fun _ => ⟨(hk.pl rfl).1, ?_⟩⟩
  by_cases hl : (labs b).length = 0
  · rw [showB_root hb hl, lsB_bts (by decide)]
    decide
  · rw [showB_yes hb (by omega)]
    have h1 := (shAll_facts (labs b)).1
    rw [lsB_bts (fun y hy => (h1 y hy).1)]
    have := okf_shAll (labs b) []
    rw [List.append_nil] at this
    exact this
theorem okF_dig {W : Nat} {d : ByteArray} (hW : DgW W d) (hs : ∀ v, v < 2 ^ W → calm (bt d v)) {b : ByteArray} (hb : 0 < b.size) : OkF ⟨lsB (toWB W d b), false⟩ :=
  okF_calm (lsB_ne (by rw [toWB_size]; exact cW_pos hW hb)) (dig_calm hW hs b)
theorem okF_dgN (u : Nat) : OkF ⟨dgN u, false⟩ := okF_calm (fun e => by have := dgN_pos u; rw [e] at this; simp at this) (dgN_calm u)
theorem okF_name {t : Nat} (h1 : 1 ≤ t) (h2 : t ≤ 65535) : OkF ⟨lsB (nameT (t : Int)), false⟩ := okF_calm (((nameT_ok h1 h2).1.pl rfl).1) (nameT_calm h1 h2)
set_option maxHeartbeats 1000000 in
theorem tell_okF (k : Kind) (b : ByteArray) (hk : kOk k = true) (h : kindSize k b = some b.size) (hb : b.size ≤ 65535) : ∀ z ∈ tellK k b, OkF z := by
  have hok := (tell_ok k b hk h hb).1
  have one : ∀ z : Wz, OkF z → (∀ y ∈ [z], OkF y) := fun z hz y hy => (List.mem_singleton.1 hy) ▸ hz
  rcases kind_cases k with rfl | rfl | rfl | rfl | rfl | rfl | rfl | rfl | rfl | rfl | rfl | rfl | rfl | ⟨n, rfl⟩
  · refine one _ (okF_calm ((hok _ (List.mem_singleton.2 rfl)).pl rfl).1 fun x hx => ?_)
    rcases jnC_mem hx with e | ⟨y, hy, e⟩
    · exact calm_of (by omega)
    · obtain ⟨a, _, rfl⟩ := List.mem_map.1 hy
      exact dgN_calm a x e
  · refine one _ (okF_calm ((hok _ (List.mem_singleton.2 rfl)).pl rfl).1 fun x hx => ?_)
    have hx' : x ∈ ip6U (g16 b) := hx
    unfold ip6U at hx'
    split at hx'
    · exact grL_calm hx'
    · rcases List.mem_append.1 hx' with e | e
      · exact grL_calm e
      · rcases List.mem_cons.1 e with e | e
        · exact calm_of (by omega)
        · rcases List.mem_cons.1 e with e | e
          · exact calm_of (by omega)
          · exact grL_calm e
  · have hd := (domS_some h).2.2.2
    rw [ext_full] at hd
    exact one _ (dom_okF hd)
  · exact one _ (okF_quote (lsB_lt _))
  · obtain ⟨x, L, hL, he⟩ := txtS_row h
    show ∀ z ∈ txtW b.size b, OkF z
    have hl := chunks_len (x :: L)
    rw [← he] at hl
    have e := txtW_chunks (x :: L) b.size hL hl
    rw [← he] at e
    rw [e]
    intro z hz
    obtain ⟨y, _, rfl⟩ := List.mem_map.1 hz
    exact okF_quote (lsB_lt _)
  · exact one _ (okF_calm ((hok _ (List.mem_singleton.2 rfl)).pl rfl).1 (dig_calm dg16 d16_calm b))
  · refine one _ (okF_calm ((hok _ (List.mem_singleton.2 rfl)).pl rfl).1 fun x hx => ?_)
    rcases List.mem_append.1 hx with e | e
    · exact dig_calm dg64 d64_calm b x e
    · have := List.eq_of_mem_replicate e
      exact calm_of (by omega)
  · have hok' : ∀ z ∈ (if b.size = 1 then [(⟨[45], false⟩ : Wz)] else [⟨lsB (toWB 4 d16 (b.extract 1 b.size)), false⟩]), OkW z := hok
    show ∀ z ∈ (if b.size = 1 then [(⟨[45], false⟩ : Wz)] else [⟨lsB (toWB 4 d16 (b.extract 1 b.size)), false⟩]), OkF z
    split at hok'
    · rename_i h1
      rw [if_pos h1]
      exact one _ (okF_calm (by simp) fun x hx => calm_of (by have := List.mem_singleton.1 hx; omega))
    · rename_i h1
      rw [if_neg h1]
      obtain ⟨X, hX⟩ : ∃ X, toWB 4 d16 (b.extract 1 b.size) = X := ⟨_, rfl⟩
      have hc := dig_calm dg16 d16_calm (b.extract 1 b.size)
      rw [hX] at hok' hc ⊢
      have h2 := (hok' ⟨lsB X, false⟩ (List.mem_singleton.2 rfl)).pl rfl
      exact one ⟨lsB X, false⟩ (okF_calm h2.1 hc)
  · have hok' : ∀ z ∈ [(⟨lsB (to32B (b.extract 1 b.size)), false⟩ : Wz)], OkW z := hok
    show ∀ z ∈ [(⟨lsB (to32B (b.extract 1 b.size)), false⟩ : Wz)], OkF z
    obtain ⟨X, hX⟩ : ∃ X, to32B (b.extract 1 b.size) = X := ⟨_, rfl⟩
    have hc := dig_calm dg32 d32_calm (b.extract 1 b.size)
    rw [← to32_toW] at hc
    rw [hX] at hok' hc ⊢
    have h2 := (hok' ⟨lsB X, false⟩ (List.mem_singleton.2 rfl)).pl rfl
    exact one ⟨lsB X, false⟩ (okF_calm h2.1 hc)
  · simp only [kindSize, setS] at h
    cases ht : typB b with
    | none => rw [ht] at h; cases h
    | some U =>
      obtain ⟨h1, h2, h3⟩ := typB_facts ht
      show ∀ z ∈ ((typB b).getD []).map _, OkF z
      rw [ht]
      intro z hz
      obtain ⟨t, ht, rfl⟩ := List.mem_map.1 hz
      exact okF_name (h2 t ht).1 (h2 t ht).2
  · simp only [kindSize] at h
    unfold oneS at h
    split at h
    · cases h
    · rename_i hno
      simp only [Option.some.injEq] at h
      have h0 := bt_lt b 0
      have h1 := bt_lt b 1
      have hv : vN b b.size = bt b 0 * 256 + bt b 1 := by
        rw [← h]
        simp [vN]
      have := okF_name (t := vN b b.size) (by omega) (by omega)
      exact one _ this
  · exact one _ (okF_quote (lsB_lt _))
  · intro z hz
    have hz' : z = ⟨[92, 35], false⟩ ∨ z = ⟨dgN b.size, false⟩ ∨ z ∈ (if b.size = 0 then [] else [(⟨lsB (toWB 4 d16 b), false⟩ : Wz)]) := by
      rcases List.mem_cons.1 hz with e | e
      · exact .inl e
      · rcases List.mem_cons.1 e with e | e
        · exact .inr (.inl e)
        · exact .inr (.inr e)
    rcases hz' with e | e | e
    · rw [e]; exact ⟨by decide, (fun e => by cases e), fun _ => ⟨by simp, by decide⟩⟩
    · rw [e]; exact okF_dgN _
    · split at e
      · cases e
      · rw [List.mem_singleton.1 e]
        exact okF_dig dg16 d16_calm (by omega)
  · exact one _ (okF_dgN _)
end Go.Proofs.YtiaccimdjfdkgaaGreatDoor

/-
  A file of told words, plainly: its entries are its lines. (The verifier's own text.)
-/
namespace Go.Proofs.YtiaccimdjfdkgaaGreatDoor
set_option linter.unusedVariables false
set_option linter.unusedSimpArgs false
open Go Go.Proofs.YtiaccimdjfdkgaaGreatDoor.Nm

/-- these bytes stand at k -/
def Stnd (s : ByteArray) (k : Nat) (m : List Nat) : Prop := ∀ j (h : j < m.length), k + j < s.size ∧ bt s (k + j) = m[j]
theorem Stnd.head {s : ByteArray} {k x : Nat} {m : List Nat} (h : Stnd s k (x :: m)) : k < s.size ∧ bt s k = x := by
  have := h 0 (by simp)
  simpa using this
theorem Stnd.tail {s : ByteArray} {k x : Nat} {m : List Nat} (h : Stnd s k (x :: m)) : Stnd s (k + 1) m := fun j hj => by
  have := h (j + 1) (by simp; omega)
  rw [show k + 1 + j = k + (j + 1) by omega]
  simpa using this
theorem Stnd.left {s : ByteArray} {k : Nat} {a b : List Nat} (h : Stnd s k (a ++ b)) : Stnd s k a := fun j hj => by
  have := h j (by simp; omega)
  rwa [List.getElem_append_left hj] at this
theorem Stnd.right {s : ByteArray} {k : Nat} {a b : List Nat} (h : Stnd s k (a ++ b)) : Stnd s (k + a.length) b := fun j hj => by
  have := h (a.length + j) (by simp; omega)
  rw [List.getElem_append_right (by omega)] at this
  simp only [Nat.add_sub_cancel_left] at this
  rwa [← Nat.add_assoc] at this
theorem Stnd.le {s : ByteArray} {k : Nat} {a : List Nat} (h : Stnd s k a) (h0 : a ≠ []) : k + a.length ≤ s.size := by
  have h1 : 0 < a.length := List.length_pos_iff.2 h0
  have := (h (a.length - 1) (by omega)).1
  omega
theorem Stnd.cut {s : ByteArray} {k : Nat} {a : List Nat} (h : Stnd s k a) (hlt : ∀ x ∈ a, x < 256) (hle : k + a.length ≤ s.size) : s.extract k (k + a.length) = bts a := by
  refine ba_ext (by rw [bts_size, size_extract' _ _ _ hle]; omega) fun j hj => ?_
  rw [size_extract' _ _ _ hle] at hj
  have hj' : j < a.length := by omega
  rw [bt_extract _ _ _ _ (by omega) hle, bts_bt _ hlt _ hj']
  exact (h j hj').2
theorem pre_bts {m : List Nat} (h : ∀ x ∈ m, x < 256) : Stnd (bts m) 0 m := fun j hj => by
  rw [Nat.zero_add]
  exact ⟨by rw [bts_size]; exact hj, bts_bt m h j hj⟩
/-- what may follow a word without quotes -/
def Stp (s : ByteArray) (k : Nat) : Prop := k ≤ s.size ∧ (k < s.size → isStop (bt s k) = true)
theorem wEnd_word (s : ByteArray) : ∀ (t : List Nat) (k : Nat), okf t = true → Stnd s k t → Stp s (k + t.length) → wEnd s k = some (k + t.length)
  | [], k, _, _, hs => by
    rw [wEnd]
    by_cases h : k < s.size
    · have h2 : isStop (bt s k) = true := hs.2 h
      rw [if_pos h, if_pos h2]; rfl
    · rw [if_neg h]; rfl
  | [x], k, ho, hp, hs => by
    obtain ⟨h1, h2⟩ := hp.head
    unfold okf at ho
    split at ho
    · cases ho
    · rename_i hst
      split at ho
      · simp at ho
      · rename_i h92
        rw [wEnd, if_pos h1, h2, if_neg hst, if_neg h92]
        have := wEnd_word s [] (k + 1) rfl hp.tail hs
        exact this
  | x :: y :: m, k, ho, hp, hs => by
    obtain ⟨h1, h2⟩ := hp.head
    obtain ⟨h3, h4⟩ := hp.tail.head
    unfold okf at ho
    split at ho
    · cases ho
    · rename_i hst
      split at ho
      · rename_i h92
        simp only [Bool.and_eq_true, decide_eq_true_eq] at ho
        rw [wEnd, if_pos h1, h2, if_neg hst, if_pos h92, if_pos ⟨h3, by rw [h4]; exact ho.1⟩]
        have := wEnd_word s m (k + 2) ho.2 hp.tail.tail (by rw [show k + 2 + m.length = k + (x :: y :: m).length by simp; omega]; exact hs)
        rw [this]; simp; omega
      · rename_i h92
        rw [wEnd, if_pos h1, h2, if_neg hst, if_neg h92]
        have := wEnd_word s (y :: m) (k + 1) ho hp.tail (by rw [show k + 1 + (y :: m).length = k + (x :: y :: m).length by simp; omega]; exact hs)
        rw [this]; simp; omega
theorem qEnd_word (s : ByteArray) : ∀ (t : List Nat) (k : Nat), okg t = true → Stnd s k (t ++ [34]) → qEnd s k = some (k + t.length)
  | [], k, _, hp => by
    obtain ⟨h1, h2⟩ := hp.head
    rw [qEnd, if_pos h1, h2, if_neg (by decide), if_pos rfl]; rfl
  | [x], k, ho, hp => by
    obtain ⟨h1, h2⟩ := hp.head
    unfold okg at ho
    split at ho
    · simp at ho
    · rename_i h92
      split at ho
      · cases ho
      · rename_i hx
        rw [qEnd, if_pos h1, h2, if_neg h92, if_neg (by omega), if_neg (by omega)]
        exact qEnd_word s [] (k + 1) rfl hp.tail
  | x :: y :: m, k, ho, hp => by
    obtain ⟨h1, h2⟩ := hp.head
    obtain ⟨h3, h4⟩ := hp.tail.head
    unfold okg at ho
    split at ho
    · rename_i h92
      simp only [Bool.and_eq_true, decide_eq_true_eq] at ho
      rw [qEnd, if_pos h1, h2, if_pos h92, if_pos ⟨h3, by rw [h4]; exact ho.1⟩]
      have := qEnd_word s m (k + 2) ho.2 hp.tail.tail
      rw [this]; simp; omega
    · rename_i h92
      split at ho
      · cases ho
      · rename_i hx
        rw [qEnd, if_pos h1, h2, if_neg h92, if_neg (by omega), if_neg (by omega)]
        have := qEnd_word s (y :: m) (k + 1) ho hp.tail
        rw [this]; simp; omega
/-- a told word as a file's word -/
def wdB (z : Wz) : Wd := ⟨bts z.t, z.q⟩
/-- how a told word begins -/
theorem shW_first {z : Wz} (h : OkF z) : ∃ x l, shW z = x :: l ∧ (isStop x = false ∧ z.q = false ∨ x = 34 ∧ z.q = true) := by
  obtain ⟨t, q⟩ := z
  cases q with
  | true => exact ⟨34, t ++ [34], rfl, .inr ⟨rfl, rfl⟩⟩
  | false =>
    obtain ⟨h1, h2⟩ := h.pl rfl
    cases t with
    | nil => exact absurd rfl h1
    | cons x l =>
      refine ⟨x, l, rfl, .inl ⟨?_, rfl⟩⟩
      unfold okf at h2
      split at h2
      · cases h2
      · rename_i hs
        simpa using hs
theorem tokW_word {s : ByteArray} {k : Nat} {z : Wz} (h : OkF z) (hp : Stnd s k (shW z)) (hs : Stp s (k + (shW z).length)) : tokW s k = some (wdB z, k + (shW z).length) := by
  obtain ⟨x, l, hx, hc⟩ := shW_first h
  obtain ⟨t, q⟩ := z
  have h0 := (hx ▸ hp : Stnd s k (x :: l)).head
  cases q with
  | true =>
    have hx34 : x = 34 := by rcases hc with hc | hc; { cases hc.2 }; { exact hc.1 }
    have hp' : Stnd s k (34 :: (t ++ [34])) := hp
    have hq := qEnd_word s t (k + 1) (h.qu rfl) hp'.tail
    unfold tokW
    rw [if_pos (by rw [h0.2, hx34]), hq]
    have hle := hp'.le (by simp)
    have hcut := hp'.tail.left.cut h.lt (by simp at hle; omega)
    have e : (shW ⟨t, true⟩).length = t.length + 2 := by show (34 :: (t ++ [34])).length = _; simp
    rw [e]
    simp only [Option.map_some, hcut]
    rw [show k + 1 + t.length + 1 = k + (t.length + 2) by omega]
    rfl
  | false =>
    have hp' : Stnd s k t := hp
    have hs' : Stp s (k + t.length) := hs
    have hst : isStop x = false := by rcases hc with hc | hc; { exact hc.1 }; { cases hc.2 }
    have hx34 : x ≠ 34 := fun e => by rw [e] at hst; revert hst; decide
    unfold tokW
    rw [if_neg (by rw [h0.2]; exact hx34), wEnd_word s t k (h.pl rfl).2 hp' hs']
    have hcut := hp'.cut h.lt hs'.1
    simp only [Option.map_some, hcut]
    rfl
/-- words with something blank ahead of each -/
def lnB (L : List (Nat × Wz)) : List Nat := L.flatMap fun p => p.1 :: shW p.2
theorem lnB_cons (p : Nat × Wz) (L : List (Nat × Wz)) : lnB (p :: L) = p.1 :: (shW p.2 ++ lnB L) := by simp [lnB]
theorem lnB_stp {s : ByteArray} {k : Nat} : ∀ {L : List (Nat × Wz)}, (∀ p ∈ L, isBl p.1 = true) → Stnd s k (lnB L ++ [10]) → Stp s k
  | [], _, hp => by
    have := Stnd.head (m := []) hp
    exact ⟨by omega, fun _ => by rw [this.2]; decide⟩
  | p :: L, hb, hp => by
    rw [lnB_cons, List.cons_append] at hp
    have := hp.head
    have hx := hb p List.mem_cons_self
    exact ⟨by omega, fun _ => by rw [this.2]; unfold isStop; rw [hx]; rfl⟩
/-- a word of an entry -/
theorem ent_word {s : ByteArray} {k l : Nat} {ws : List Wd} {z : Wz} (h : OkF z) (hp : Stnd s k (shW z)) (hs : Stp s (k + (shW z).length)) : ent s k l 0 ws = ent s (k + (shW z).length) l 0 (ws ++ [wdB z]) := by
  have ht := tokW_word h hp hs
  obtain ⟨x, m, hx, hc⟩ := shW_first h
  rw [hx] at hp
  obtain ⟨h1, h2⟩ := hp.head
  have hlen : 0 < (shW z).length := by rw [hx]; simp
  have hx2 : x ≠ 10 ∧ isBl x = false ∧ x ≠ 40 ∧ x ≠ 41 ∧ x ≠ 59 := by
    rcases hc with ⟨hc, _⟩ | ⟨hc, _⟩
    · unfold isStop at hc
      simp only [Bool.or_eq_false_iff, beq_eq_false_iff_ne] at hc
      exact ⟨hc.1.1.1.1.2, hc.1.1.1.1.1, hc.1.1.2, hc.1.2, hc.1.1.1.2⟩
    · subst hc; decide
  conv => lhs; rw [ent]
  rw [if_pos h1, h2, if_neg hx2.1, if_neg (by rw [hx2.2.1]; decide), if_neg hx2.2.2.1, if_neg hx2.2.2.2.1, if_neg hx2.2.2.2.2, ht]
  simp only
  rw [if_pos (by omega)]
/-- the rest of a line -/
theorem ent_line (s : ByteArray) : ∀ (L : List (Nat × Wz)) (k l : Nat) (ws : List Wd), (∀ p ∈ L, isBl p.1 = true ∧ OkF p.2) → Stnd s k (lnB L ++ [10]) →
    ent s k l 0 ws = .inr (k + (lnB L).length + 1, l + 1, ws ++ L.map fun p => wdB p.2)
  | [], k, l, ws, _, hp => by
    obtain ⟨h1, h2⟩ := Stnd.head (m := []) hp
    rw [ent, if_pos h1, if_pos h2, if_pos rfl]
    simp [lnB]
  | p :: L, k, l, ws, hL, hp => by
    have hpk := hL p List.mem_cons_self
    rw [lnB_cons, List.cons_append, List.append_assoc] at hp
    obtain ⟨h1, h2⟩ := hp.head
    have hb10 : p.1 ≠ 10 := fun e => by have := hpk.1; rw [e] at this; revert this; decide
    rw [ent, if_pos h1, h2, if_neg hb10, if_pos hpk.1]
    have hr := hp.tail.right
    rw [ent_word hpk.2 hp.tail.left (lnB_stp (fun p hp => (hL p (List.mem_cons_of_mem _ hp)).1) hr), ent_line s L _ l _ (fun p hp => hL p (List.mem_cons_of_mem _ hp)) hr, lnB_cons]
    simp only [List.map_cons, List.append_assoc, List.singleton_append, List.length_cons, List.length_append]
    congr 2
    omega
/-- a line: an owner, or none, and words -/
structure Li where
  h : Option Wz
  r : List (Nat × Wz)
def liH : Option Wz → List Nat
  | some z => shW z
  | none => []
def liB (x : Li) : List Nat := liH x.h ++ (lnB x.r ++ [10])
def liW (x : Li) : List Wd := x.h.toList.map wdB ++ x.r.map fun p => wdB p.2
structure LiOk (x : Li) : Prop where
  h : ∀ z, x.h = some z → OkF z
  r : ∀ p ∈ x.r, isBl p.1 = true ∧ OkF p.2
  ne : x.h = none → x.r ≠ []
def linesE : Nat → List Li → List En
  | _, [] => []
  | l, x :: X => ⟨l, x.h.isNone, liW x⟩ :: linesE (l + 1) X
theorem ents_lines (s : ByteArray) : ∀ (X : List Li) (k l : Nat) (out : List En), (∀ x ∈ X, LiOk x) → Stnd s k (X.flatMap liB) → k + (X.flatMap liB).length = s.size → ents s k l out = .inr (out ++ linesE l X)
  | [], k, l, out, _, _, hk => by
    rw [ents, if_neg (by simp at hk; omega)]
    simp [linesE]
  | x :: X, k, l, out, hX, hp, hk => by
    have hx := hX x List.mem_cons_self
    obtain ⟨h, r⟩ := x
    rw [List.flatMap_cons] at hp hk
    have hpx := hp.left
    have hpr := hp.right
    have key : k < s.size ∧ ent s k l 0 [] = .inr (k + (liB ⟨h, r⟩).length, l + 1, liW ⟨h, r⟩) ∧ isBl (bt s k) = h.isNone := by
      cases h with
      | none =>
        have hp2 : Stnd s k (lnB r ++ [10]) := hpx
        refine ⟨?_, ?_, ?_⟩
        · cases r with
          | nil => exact absurd rfl (hx.ne rfl)
          | cons p r => rw [lnB_cons, List.cons_append] at hp2; exact hp2.head.1
        · rw [ent_line s r k l [] hx.r hp2]
          simp [liB, liH, liW]
          omega
        · cases r with
          | nil => exact absurd rfl (hx.ne rfl)
          | cons p r => rw [lnB_cons, List.cons_append] at hp2; rw [hp2.head.2]; exact (hx.r p List.mem_cons_self).1
      | some z =>
        have hz := hx.h z rfl
        have hp2 : Stnd s k (shW z ++ (lnB r ++ [10])) := hpx
        obtain ⟨y, m, hy, hc⟩ := shW_first hz
        have h0 := (hy ▸ hp2.left : Stnd s k (y :: m)).head
        refine ⟨h0.1, ?_, ?_⟩
        · rw [ent_word hz hp2.left (lnB_stp (fun p hp => (hx.r p hp).1) hp2.right), ent_line s r _ l _ hx.r hp2.right]
          simp [liB, liH, liW]
          omega
        · rw [h0.2]
          show _ = false
          rcases hc with ⟨hc, _⟩ | ⟨hc, _⟩
          · unfold isStop at hc
            simp only [Bool.or_eq_false_iff] at hc
            exact hc.1.1.1.1.1
          · subst hc; decide
    have hne : (liW ⟨h, r⟩).length ≠ 0 := by
      cases h with
      | none =>
        have := hx.ne rfl
        simp [liW]
        exact this
      | some z => simp [liW]
    have hlen : 0 < (liB ⟨h, r⟩).length := by simp [liB]; omega
    rw [ents, if_pos key.1, key.2.1, key.2.2]
    simp only
    rw [if_pos (by omega)]
    unfold putE
    rw [if_neg hne, ents_lines s X _ _ _ (fun y hy => hX y (List.mem_cons_of_mem _ hy)) hpr (by rw [List.length_append] at hk; omega)]
    simp [linesE]
end Go.Proofs.YtiaccimdjfdkgaaGreatDoor

/-
  An owner as it is told below an origin, plainly, and that it is read again. (The verifier's own text.)
-/
namespace Go.Proofs.YtiaccimdjfdkgaaGreatDoor
set_option linter.unusedVariables false
set_option linter.unusedSimpArgs false
open Go Go.Proofs.YtiaccimdjfdkgaaGreatDoor.Nm

theorem shL_headc {c : Nat} (hc : amB Nm.marks c = true) (h92 : c ≠ 92) (b : Nat) (l : List Nat) : (shL b ++ l).head? ≠ some c := by
  unfold shL
  split
  · simp; omega
  · rename_i hm
    split
    · simp [escL]; omega
    · simp
      intro e
      subst e
      exact hm hc
theorem shTo_headc {c : Nat} (hc : amB Nm.marks c = true) (h92 : c ≠ 92) (x : ByteArray) : ∀ k l, (0 < k ∨ (l : List Nat).head? ≠ some c) → (shTo x k ++ l).head? ≠ some c
  | 0, l, h => by
    rcases h with h | h
    · omega
    · exact h
  | k + 1, l, h => by
    rw [show shTo x (k + 1) = shTo x k ++ shL (bt x k) from rfl, List.append_assoc]
    exact shTo_headc hc h92 x k _ (.inr (shL_headc hc h92 _ _))
theorem shTo_all (x : ByteArray) (q : List Nat) : ∀ y ∈ shTo x x.size ++ q, (∀ z ∈ q, z < 256) → y < 256 := fun y hy hq => by
  rcases List.mem_append.1 hy with h | h
  · exact shTo_lt x _ y h
  · exact hq y h
theorem shAll_lt (m : List ByteArray) : ∀ y ∈ shAll m, y < 256 := fun y hy => by
  obtain ⟨z, _, hz⟩ := List.mem_flatMap.1 hy
  rcases List.mem_append.1 hz with h | h
  · exact shTo_lt z _ y h
  · simp at h; omega
/-- a label's bytes, whatever stands behind -/
theorem scan_labelR (pre : List Nat) (x : ByteArray) (q : List Nat) (hp : ∀ y ∈ pre, y < 256) (hq : ∀ y ∈ q, y < 256) (hx : x.size ≤ 63) (L : List ByteArray) : ∀ j, j ≤ x.size →
    scanT (bts (pre ++ (shTo x x.size ++ q))) pre.length pre.length [] L = scanT (bts (pre ++ (shTo x x.size ++ q))) (pre.length + (shTo x j).length) pre.length (lst x j) L
  | 0, _ => by simp [shTo, lst]
  | j + 1, h => by
    have ih := scan_labelR pre x q hp hq hx L j (by omega)
    rw [ih]
    obtain ⟨tl, htl⟩ := shTo_split x j x.size (by omega)
    have hlt : ∀ y ∈ tl ++ q, y < 256 := by
      intro y hy
      rcases List.mem_append.1 hy with h | h
      · exact shTo_lt x x.size y (by rw [htl]; exact List.mem_append_right _ h)
      · exact hq y h
    have hT : pre ++ (shTo x x.size ++ q) = (pre ++ shTo x j) ++ (shL (bt x j) ++ (tl ++ q)) := by
      rw [htl]; simp
    have hk : pre.length + (shTo x j).length = (pre ++ shTo x j).length := by simp
    have hdr : (bts (pre ++ (shTo x x.size ++ q))).extract (pre.length + (shTo x j).length) (bts (pre ++ (shTo x x.size ++ q))).size = bts (shL (bt x j) ++ (tl ++ q)) := by
      rw [hT, hk, bts_drop _ _ (by simp only [List.length_append]; omega), List.drop_left]
    obtain ⟨hpc, h46⟩ := pc_shL (bt_lt x j) (tl ++ q) hlt
    have hpos := (shL_len (bt x j)).1
    have hsz : pre.length + (shTo x j).length < (bts (pre ++ (shTo x x.size ++ q))).size := by
      rw [bts_size, hT]; simp only [List.length_append]; omega
    have hne : bt (bts (pre ++ (shTo x x.size ++ q))) (pre.length + (shTo x j).length) ≠ 46 := by
      have e := bt_extract (bts (pre ++ (shTo x x.size ++ q))) (pre.length + (shTo x j).length) (bts (pre ++ (shTo x x.size ++ q))).size 0 (by omega) (Nat.le_refl _)
      rw [hdr, Nat.add_zero] at e
      rw [← e]; exact h46
    rw [scanT_byte hsz hne (by rw [hdr, hpc]; show (shL (bt x j)).length ≠ 0; omega) (by rw [lst_len]; omega), hdr, hpc, lst_succ]
    congr 1
    simp [shTo]; omega
theorem lst_ne {x : ByteArray} (h : 0 < x.size) : lst x x.size ≠ [] := fun e => by have := lst_len x x.size; rw [e] at this; simp at this; omega
/-- labels, the last one without its point -/
theorem scan_rel (y : ByteArray) (hy : 0 < y.size ∧ y.size ≤ 63) : ∀ (l pre : List ByteArray), OkL l →
    scanT (bts (shAll pre ++ (shAll l ++ shTo y y.size))) (shAll pre).length (shAll pre).length [] pre = ⟨0, 0, pre ++ (l ++ [y]), false⟩
  | [], pre, _ => by
    have h1 := scan_labelR (shAll pre) y [] (shAll_lt pre) (fun z hz => by cases hz) hy.2 pre y.size (Nat.le_refl _)
    rw [List.append_nil] at h1
    have e : shAll pre ++ (shAll [] ++ shTo y y.size) = shAll pre ++ shTo y y.size := by simp [shAll]
    rw [e, h1, scanT_end (by rw [bts_size, List.length_append]; exact Nat.le_refl _), if_neg (lst_ne hy.1), decide_eq_false (lst_ne hy.1), bts_lst]
    simp
  | x :: l, pre, hl => by
    have hx := hl x List.mem_cons_self
    have e : shAll pre ++ (shAll (x :: l) ++ shTo y y.size) = shAll pre ++ (shTo x x.size ++ (46 :: (shAll l ++ shTo y y.size))) := by simp [shAll, shLab]
    have hq : ∀ z ∈ 46 :: (shAll l ++ shTo y y.size), z < 256 := fun z hz => by
      rcases List.mem_cons.1 hz with h | h
      · omega
      · rcases List.mem_append.1 h with h | h
        · exact shAll_lt l z h
        · exact shTo_lt y _ z h
    have h1 := scan_labelR (shAll pre) x _ (shAll_lt pre) hq hx.2 pre x.size (Nat.le_refl _)
    rw [e, h1]
    have hlt : ∀ z ∈ shAll pre ++ (shTo x x.size ++ (46 :: (shAll l ++ shTo y y.size))), z < 256 := fun z hz => by
      rcases List.mem_append.1 hz with h | h
      · exact shAll_lt pre z h
      · rcases List.mem_append.1 h with h | h
        · exact shTo_lt x _ z h
        · exact hq z h
    have hk : (shAll pre).length + (shTo x x.size).length < (bts (shAll pre ++ (shTo x x.size ++ (46 :: (shAll l ++ shTo y y.size))))).size := by rw [bts_size]; simp
    have h46 : bt (bts (shAll pre ++ (shTo x x.size ++ (46 :: (shAll l ++ shTo y y.size))))) ((shAll pre).length + (shTo x x.size).length) = 46 := by
      rw [bts_bt _ hlt _ (by rw [bts_size] at hk; exact hk)]
      have e2 : shAll pre ++ (shTo x x.size ++ (46 :: (shAll l ++ shTo y y.size))) = (shAll pre ++ shTo x x.size) ++ (46 :: (shAll l ++ shTo y y.size)) := by simp
      simp only [e2]
      rw [List.getElem_append_right (by simp)]
      simp
    rw [scanT_dot hk h46 (lst_ne hx.1), bts_lst]
    have ih := scan_rel y hy l (pre ++ [x]) (fun z hz => hl z (List.mem_cons_of_mem _ hz))
    have e3 : shAll (pre ++ [x]) = shAll pre ++ (shTo x x.size ++ [46]) := by simp [shAll, shLab]
    have e4 : shAll (pre ++ [x]) ++ (shAll l ++ shTo y y.size) = shAll pre ++ (shTo x x.size ++ (46 :: (shAll l ++ shTo y y.size))) := by rw [e3]; simp
    have e5 : (shAll (pre ++ [x])).length = (shAll pre).length + (shTo x x.size).length + 1 := by rw [e3]; simp; omega
    rw [e4, e5] at ih
    rw [ih]
    simp
/-- labels as a text that goes on at the origin -/
def relL (A : List ByteArray) : List Nat := (shAll A).dropLast
theorem relL_snoc (l : List ByteArray) (y : ByteArray) : relL (l ++ [y]) = shAll l ++ shTo y y.size := by
  unfold relL
  have e : shAll (l ++ [y]) = (shAll l ++ shTo y y.size) ++ [46] := by simp [shAll, shLab]
  rw [e, List.dropLast_concat]
theorem relL_facts {A : List ByteArray} (h : A ≠ []) (hA : OkL A) : relL A ≠ [] ∧ (∀ x ∈ relL A, x < 256) ∧ okf (relL A) = true ∧ (∀ c, amB Nm.marks c = true → c ≠ 92 → (relL A).head? ≠ some c) ∧ shAll A = relL A ++ [46] := by
  obtain ⟨l, y, rfl⟩ : ∃ l y, A = l ++ [y] := ⟨A.dropLast, A.getLast h, (List.dropLast_concat_getLast h).symm⟩
  have hy := hA y (by simp)
  rw [relL_snoc]
  refine ⟨fun e => ?_, fun x hx => ?_, ?_, fun c hc h92 => ?_, by simp [shAll, shLab]⟩
  · have h1 := (List.append_eq_nil_iff.1 e).2
    have h2 := shTo_ge y y.size
    have h3 := congrArg List.length h1
    rw [List.length_nil] at h3
    omega
  · rcases List.mem_append.1 hx with h | h
    · exact shAll_lt l x h
    · exact shTo_lt y _ x h
  · rw [okf_shAll]
    have := okf_shTo y y.size []
    rw [List.append_nil] at this
    rw [this]; rfl
  · cases l with
    | nil =>
      have := shTo_headc hc h92 y y.size [] (.inl hy.1)
      rw [List.append_nil] at this
      exact this
    | cons x l =>
      have e : shAll (x :: l) ++ shTo y y.size = shTo x x.size ++ (46 :: (shAll l ++ shTo y y.size)) := by simp [shAll, shLab]
      rw [e]
      exact shTo_headc hc h92 x x.size _ (.inl (hA x (by simp)).1)
/-- .. is read again -/
theorem read_rel {A : List ByteArray} {o : ByteArray} (h : A ≠ []) (hA : OkL A) (ho : isN o = true) (hs : (putB (A ++ labs o)).size ≤ 255) : readB (bts (relL A)) o = (putB (A ++ labs o), 0, 0) := by
  obtain ⟨f1, f2, -, f4, -⟩ := relL_facts h hA
  obtain ⟨l, y, rfl⟩ : ∃ l y, A = l ++ [y] := ⟨A.dropLast, A.getLast h, (List.dropLast_concat_getLast h).symm⟩
  have hsc := scan_rel y (hA y (by simp)) l [] (fun z hz => hA z (by simp [hz]))
  have e : shAll [] ++ (shAll l ++ shTo y y.size) = relL (l ++ [y]) := by rw [relL_snoc]; simp [shAll]
  rw [e] at hsc
  have hz : (bts (relL (l ++ [y]))).size ≠ 0 := by rw [bts_size]; exact fun e => f1 (List.length_eq_zero_iff.1 e)
  have hnot : ∀ c, c < 256 → amB Nm.marks c = true → c ≠ 92 → bts (relL (l ++ [y])) ≠ bts [c] := fun c hc hm h92 e => by
    have e2 := congrArg lsB e
    rw [lsB_bts f2, lsB_bts (fun z hz => by rw [List.mem_singleton.1 hz]; exact hc)] at e2
    exact f4 c hm h92 (by rw [e2]; rfl)
  have hf := readB_fin ho hz (hnot 64 (by omega) (by decide +kernel) (by omega)) (hnot 46 (by omega) (by decide +kernel) (by omega)) hsc
  simpa using hf.2 (by simpa using hs)
/-- an owner as it is told below an origin -/
def ownL (n o : ByteArray) : List Nat := if n = o then [64] else if tailB n (cntI o) = o then relL ((labs n).take ((labs n).length - (labs o).length)) else lsB (showB n)
theorem tail_form {n o : ByteArray} (hn : isN n = true) (ho : isN o = true) (ht : tailB n (cntI o) = o) (hne : n ≠ o) : ∃ A, A ≠ [] ∧ OkL A ∧ labs n = A ++ labs o ∧ (labs n).take ((labs n).length - (labs o).length) = A ∧ n = putB (A ++ labs o) := by
  have hc : cntI o = ((labs o).length : Int) := by unfold cntI; rw [if_pos ho]
  rw [hc] at ht
  unfold tailB at ht
  split at ht
  · rename_i h
    have hle : (labs o).length ≤ (labs n).length := by omega
    rw [Int.toNat_natCast] at ht
    have h1 : labs o = (labs n).drop ((labs n).length - (labs o).length) := by
      have := congrArg labs ht
      rw [labs_putB (fun z hz => okL_labs n z (List.mem_of_mem_drop hz))] at this
      exact this.symm
    have h2 : labs n = (labs n).take ((labs n).length - (labs o).length) ++ labs o := by
      conv => lhs; rw [← List.take_append_drop ((labs n).length - (labs o).length) (labs n), ← h1]
    refine ⟨_, fun e => ?_, fun z hz => okL_labs n z (List.mem_of_mem_take hz), h2, rfl, ?_⟩
    · rw [e, List.nil_append] at h2
      exact hne (by rw [← putB_labs hn, h2, putB_labs ho])
    · rw [← h2, putB_labs hn]
  · have h1 := (isN_iff o).1 ho
    rw [← ht] at h1
    have h3 := h1.2.1
    have h4 : ByteArray.empty.size = 0 := rfl
    omega
theorem read_own {n o : ByteArray} (hn : isN n = true) (ho : isN o = true) : readB (bts (ownL n o)) o = (n, 0, 0) := by
  unfold ownL
  split
  · rename_i h; rw [readB_at ho rfl, h]
  · rename_i hne
    split
    · rename_i ht
      obtain ⟨A, h1, h2, h3, h4, h5⟩ := tail_form hn ho ht hne
      rw [h4, read_rel h1 h2 ho (by rw [← h5]; exact ((isN_iff n).1 hn).1), ← h5]
    · rw [bts_ls]; exact read_show hn ho
theorem own_okF {n o : ByteArray} (hn : isN n = true) (ho : isN o = true) : OkF ⟨ownL n o, false⟩ ∧ (ownL n o).head? ≠ some 36 := by
  unfold ownL
  split
  · exact ⟨⟨by decide, (fun e => by cases e), fun _ => ⟨by simp, by decide⟩⟩, by decide⟩
  · rename_i hne
    split
    · rename_i ht
      obtain ⟨A, h1, h2, h3, h4, h5⟩ := tail_form hn ho ht hne
      obtain ⟨f1, f2, f3, f4, -⟩ := relL_facts h1 h2
      rw [h4]
      exact ⟨⟨f2, (fun e => by cases e), fun _ => ⟨f1, f3⟩⟩, f4 36 (by decide +kernel) (by omega)⟩
    · refine ⟨dom_okF hn, ?_⟩
      by_cases hl : (labs n).length = 0
      · rw [showB_root hn hl, lsB_bts (by decide)]
        decide
      · rw [showB_yes hn (by omega), lsB_bts (shAll_lt _)]
        have hall := okL_labs n
        cases hx : labs n with
        | nil => rw [hx] at hl; simp at hl
        | cons x l =>
          rw [hx] at hall
          have e : shAll (x :: l) = shTo x x.size ++ (46 :: shAll l) := by simp [shAll, shLab]
          rw [e]
          exact shTo_headc (by decide +kernel) (by omega) x x.size _ (.inl (hall x List.mem_cons_self).1)
end Go.Proofs.YtiaccimdjfdkgaaGreatDoor

/-
  Proofs: master.showOwner. (The verifier's own text.)
-/
namespace Go.Proofs.YtiaccimdjfdkgaaGreatDoor
set_option linter.unusedVariables false
set_option linter.unusedSimpArgs false
open Go.RowKit Go.Shelf Go.Proofs.YtiaccimdjfdkgaaGreatDoor.Nm

def Tryz.lays102_ren : Go.Shelf.Ren := ⟨fun | 102 => 38 | 209 => 64 | 207 => 89 | n => n, fun | 9 => 9 | 4 => 4 | 3 => 3 | n => n, fun | n => n⟩
theorem Tryz.lays102 : Go.Proofs.Lays.n102 Tryz.prog Tryz.lays102_ren := {
  mixed := by kernel_rfl
  f102 := Tryz.func38.trans (congrArg some (by kernel_rfl))
  f207 := Tryz.func89.trans (congrArg some (by kernel_rfl))
  f209 := Tryz.func64.trans (congrArg some (by kernel_rfl))
  t3 := Tryz.underlying3
  a3 := Tryz.isAgg3
  z3 := Tryz.sizeOf3
  v3 := Tryz.zeroValue3
  t4 := Tryz.underlying4
  a4 := Tryz.isAgg4
  z4 := Tryz.sizeOf4
  v4 := Tryz.zeroValue4
  t9 := Tryz.underlying9
  a9 := Tryz.isAgg9
  z9 := Tryz.sizeOf9
  v9 := Tryz.zeroValue9 }
/-- strings.TrimSuffix of a last point -/
theorem trimDot_any (l : List Nat) (w : World) (hl : l.length ≤ 1073741824) :
    Calls Tryz.prog 38 #[.string (bts (l ++ [46])), .string ⟨#[46]⟩] w fun e w' => e = .returned (.string (bts l)) ∧ w' = w := by
  have h := Any.strings_TrimSuffix Tryz.lays102 (bts (l ++ [46])) ⟨#[46]⟩ w (by rw [bts_size, List.length_append, List.length_singleton]; omega)
  have e : (⟨(Lib.trimSuffix (bts (l ++ [46])).data.toList (⟨#[46]⟩ : ByteArray).data.toList).toArray⟩ : ByteArray) = bts l := by
    unfold Lib.trimSuffix Lib.hasSuffix bts
    simp
  rw [e] at h
  exact h
set_option maxRecDepth 100000 in
set_option maxHeartbeats 2000000 in
/-- master.showOwner -/
theorem showOwner_any (n o : ByteArray) (w : World) (hn : isN n = true) (ho : isN o = true) :
    Calls Tryz.prog 18 #[.string n, .string o] w fun e w' => e = .returned (.string (bts (ownL n o))) ∧ Below w.heap.size w w' := by
  have h255 := ((isN_iff n).1 hn).1
  have ho255 := ((isN_iff o).1 ho).1
  have hm : n.size ≤ maxLen := by unfold maxLen; omega
  have hmo : o.size ≤ maxLen := by unfold maxLen; omega
  have HC := hide' (fun V => count_any o V hmo)
  have HT := hide' (fun V => tail_any n (cntI o) V hm)
  have HS := hide' (fun V => show_any n V hm)
  have e1 := toList_bt n o
  have e2 := toList_bt (tailB n (cntI o)) o
  unfold ownL
  by_cases h1 : n = o
  · rw [decide_eq_true h1] at e1
    rw [if_pos h1]
    clear HC HT HS e2
    go_enter Tryz.func18, Tryz.ntmps18
    go_wp2_with fail
    go_ret
    exact ⟨rfl, Below.refl _ _⟩
  · rw [decide_eq_false h1] at e1
    rw [if_neg h1]
    by_cases h2 : tailB n (cntI o) = o
    · rw [decide_eq_true h2] at e2
      rw [if_pos h2]
      obtain ⟨A, a1, a2, a3, a4, a5⟩ := tail_form hn ho h2 h1
      obtain ⟨f1, f2, f3, f4, f5⟩ := relL_facts a1 a2
      rw [a4]
      have hz : n.size = (chunks A).size + o.size := by
        conv => lhs; rw [a5, putB_append, putB_labs ho]
        rw [ByteArray.size_append]
      have hpA : (putB A).size ≤ 255 := by
        have h1 := putB_size A
        have h2 := ((isN_iff o).1 ho).2.1
        omega
      have hA : isN (putB A) = true := by rw [isN_putB a2]; exact decide_eq_true hpA
      have HS2 := hide' (fun V => show_any (putB A) V (by unfold maxLen; omega))
      have hsh : showB (putB A) = bts (relL A ++ [46]) := by
        rw [showB_yes hA (by rw [labs_putB a2]; exact List.length_pos_iff.2 a1), labs_putB a2, f5]
      rw [hsh] at HS2
      have hlen : (relL A).length ≤ 1073741824 := by
        have := shAll_len A
        rw [f5, List.length_append] at this
        have := putB_size A
        omega
      have HD := hide' (fun V => trimDot_any (relL A) V hlen)
      have hcut : n.extract 0 (chunks A).size = chunks A := by
        conv => lhs; rw [a5, putB_append]
        exact ByteArray.extract_append_eq_left rfl
      have hwr : IntKind.i64.wrap ((n.size : Int) - (o.size : Int)) = ((chunks A).size : Int) := by
        have h3 : (n.size : Int) - (o.size : Int) = ((chunks A).size : Int) := by omega
        rw [h3]
        simp [IntKind.wrap, IntKind.bits, IntKind.signed]
        omega
      have hle : (chunks A).size ≤ n.size := by omega
      have hadd : chunks A ++ (⟨#[0]⟩ : ByteArray) = putB A := rfl
      have hsA : (chunks A).size ≤ 255 := by omega
      obtain ⟨X, hX⟩ : ∃ X, putB A = X := ⟨_, rfl⟩
      rw [hX] at hadd HS2
      obtain ⟨C, hC⟩ : ∃ C, chunks A = C := ⟨_, rfl⟩
      rw [hC] at hcut hwr hle hadd hz hsA
      obtain ⟨Y, hY⟩ : ∃ Y, bts (relL A ++ [46]) = Y := ⟨_, rfl⟩
      rw [hY] at HS2 HD
      have HAdd : Hid (n.extract 0 C.size ++ (⟨#[0]⟩ : ByteArray) = X) := by unfold Hid; rw [hcut]; exact hadd
      clear hX hC hY hlen hsh hA hpA hm hmo HS a5 a4 a3 h2 h1 f1 f2 f3 f4 f5 hz h255 ho255 hn ho hadd hcut
      go_enter Tryz.func18, Tryz.ntmps18
      go_wp2_with (first
        | (go_at_call 37; refine (HC.out _).mono ?_; rintro e3 w1 ⟨rfl, hB1⟩; have HB1 := hide' hB1; clear hB1)
        | (go_at_call 36; refine (HT.out _).mono ?_; rintro e4 w2 ⟨rfl, hB2⟩; have HB2 := hide' (bstep HB1.out hB2 HB1.out.size); clear hB2)
        | (go_at_call 16; (try rw [HAdd.out]); refine (HS2.out _).mono ?_; rintro e5 w3 ⟨rfl, hB3⟩; have HB3 := hide' (bstep HB2.out hB3 HB2.out.size); clear hB3)
        | (go_at_call 38; refine (HD.out _).mono ?_; rintro e6 w4 ⟨rfl, hw4⟩; have hw4' := hw4.symm; subst hw4'))
      go_ret
      exact ⟨rfl, HB3.out⟩
    · rw [decide_eq_false h2] at e2
      rw [if_neg h2, bts_ls]
      go_enter Tryz.func18, Tryz.ntmps18
      go_wp2_with (first
        | (go_at_call 37; refine (HC.out _).mono ?_; rintro e3 w1 ⟨rfl, hB1⟩; have HB1 := hide' hB1; clear hB1)
        | (go_at_call 36; refine (HT.out _).mono ?_; rintro e4 w2 ⟨rfl, hB2⟩; have HB2 := hide' (bstep HB1.out hB2 HB1.out.size); clear hB2)
        | (go_at_call 16; refine (HS.out _).mono ?_; rintro e5 w3 ⟨rfl, hB3⟩; have HB3 := hide' (bstep HB2.out hB3 HB2.out.size); clear hB3))
      go_ret
      exact ⟨rfl, HB3.out⟩
end Go.Proofs.YtiaccimdjfdkgaaGreatDoor
