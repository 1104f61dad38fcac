import Derived.Test.YtmbjmokhkonpiaaGreatDoorWs1G
import Derived.Test.YtmbjmokhkonpiaaGreatDoorTn1G
import Derived.Test.YtmbjmokhkonpiaaGreatDoorSk8
import Derived.Test.YtmbjmokhkonpiaaGreatDoorMath18G
import Derived.Test.YtmbjmokhkonpiaaGreatDoorVs1G
import Derived.Test.YtmbjmokhkonpiaaGreatDoorSu1G
import Derived.Test.YtmbjmokhkonpiaaGreatDoorBt1G
import Derived.Test.YtmbjmokhkonpiaaGreatDoorShwG
import Derived.Shelf.Strings.OnBuilder
import Derived.Shelf.Strings.Split
import Derived.Shelf.Strings.Cut
import Derived.Shelf.Strings.Repeat
import Derived.Shelf.Strings.Trim
import Derived.Shelf.Lay
import Derived.Lib.AtoiErrMem
import Derived.Ground.NamesProg
/-
  The words that tell data, plainly: each field's words, that they are words, and how long they are at the most. (The verifier's own text.)
-/
namespace Go.Proofs.YtmbjmokhkonpiaaGreatDoor
set_option linter.unusedVariables false
set_option linter.unusedSimpArgs false
open Go Go.Proofs.YtmbjmokhkonpiaaGreatDoor.Nm

/-- texts, one behind the other, by their lengths -/
def txtW : Nat → ByteArray → List Wz
  | 0, _ => []
  | n + 1, d => if d.size = 0 then [] else ⟨qtL (lsB (d.extract 1 (1 + bt d 0))), true⟩ :: txtW n (d.extract (1 + bt d 0) d.size)
def txW (x : ByteArray) : Wz := ⟨qtL (lsB x), true⟩
theorem txtW_chunks : ∀ (L : List ByteArray) (n : Nat), (∀ x ∈ L, x.size ≤ 255) → L.length ≤ n → txtW n (chunks L) = L.map txW
  | [], 0, _, _ => rfl
  | [], n + 1, _, _ => by
    have h : (chunks []).size = 0 := by simp [chunks]
    show (if (chunks []).size = 0 then ([] : List Wz) else _) = _
    rw [if_pos h]
    rfl
  | x :: L, 0, _, h => by simp at h
  | x :: L, n + 1, hL, h => by
    have hx := hL x List.mem_cons_self
    obtain ⟨h1, h2, h3⟩ := chunk_cut (r := chunks L) hx
    have hb : bt (chunk x ++ chunks L) 0 = x.size := by rw [bt_append_left _ _ _ (by rw [chunk_size]; omega), bt_chunk x (by omega)]
    have hz : (chunk x ++ chunks L).size = 1 + x.size + (chunks L).size := by rw [ByteArray.size_append, chunk_size]
    have e : (chunk x ++ chunks L).extract 1 (1 + x.size) = (chunk x).extract 1 (chunk x).size := by
      refine ba_ext (by simp only [ByteArray.size_extract, chunk_size]; omega) fun j hj => ?_
      simp only [ByteArray.size_extract] at hj
      have hzc := chunk_size x
      rw [bt_extract _ _ _ _ (by omega) (by omega), bt_extract _ _ _ _ (by omega) (Nat.le_refl _), bt_append_left _ _ _ (by omega)]
    have ih := txtW_chunks L n (fun y hy => hL y (List.mem_cons_of_mem _ hy)) (by simpa using h)
    rw [chunks_cons]
    generalize chunk x ++ chunks L = D at *
    show (if D.size = 0 then ([] : List Wz) else ⟨qtL (lsB (D.extract 1 (1 + bt D 0))), true⟩ :: txtW n (D.extract (1 + bt D 0) D.size)) = _
    rw [if_neg (by omega), hb, h2, e, chunk_tail, ih]
    rfl
/-- what goes behind a text in base 64 -/
def fil64 (n : Nat) : Nat := (4 - n % 4) % 4
/-- the words that tell a field -/
def tellK : Kind → ByteArray → List Wz
  | 0, b => [⟨ip4L b, false⟩]
  | 1, b => [⟨ip6U (g16 b), false⟩]
  | 2, b => [⟨lsB (showB b), false⟩]
  | 3, b => [⟨qtL (lsB (b.extract 1 b.size)), true⟩]
  | 4, b => txtW b.size b
  | 5, b => [⟨lsB (toWB 4 d16 b), false⟩]
  | 6, b => [⟨lsB (toWB 6 d64 b) ++ List.replicate (fil64 (toWB 6 d64 b).size) 61, false⟩]
  | 7, b => if b.size = 1 then [⟨[45], false⟩] else [⟨lsB (toWB 4 d16 (b.extract 1 b.size)), false⟩]
  | 8, b => [⟨lsB (to32B (b.extract 1 b.size)), false⟩]
  | 9, b => ((typB b).getD []).map fun t : Nat => ⟨lsB (nameT (t : Int)), false⟩
  | 10, b => [⟨lsB (nameT (vN b b.size : Int)), false⟩]
  | 11, b => [⟨qtL (lsB b), true⟩]
  | 12, b => ⟨[92, 35], false⟩ :: ⟨dgN b.size, false⟩ :: (if b.size = 0 then [] else [⟨lsB (toWB 4 d16 b), false⟩])
  | _ + 13, b => [⟨dgN (vN b b.size), false⟩]
/-- .. all fields -/
def tellA (ps : List (Kind × ByteArray)) : List Wz := ps.flatMap fun p => tellK p.1 p.2
theorem tellA_snoc (ps : List (Kind × ByteArray)) (p : Kind × ByteArray) : tellA (ps ++ [p]) = tellA ps ++ tellK p.1 p.2 := by simp [tellA]
theorem tellA_cons (ps : List (Kind × ByteArray)) (p : Kind × ByteArray) : tellA (p :: ps) = tellK p.1 p.2 ++ tellA ps := rfl

/-- how long words are -/
def cstW (z : Wz) : Nat := (shW z).length + 1
def cstA (Z : List Wz) : Nat := (Z.map cstW).sum
theorem cstA_app (a b : List Wz) : cstA (a ++ b) = cstA a + cstA b := by simp [cstA]
theorem cstA_one (z : Wz) : cstA [z] = cstW z := by simp [cstA]
theorem cstA_cons (z : Wz) (l : List Wz) : cstA (z :: l) = cstW z + cstA l := by simp [cstA]
theorem jnW_len : ∀ Z : List Wz, (jnW Z).length ≤ cstA Z ∧ Z.length ≤ cstA Z
  | [] => ⟨Nat.le_refl _, Nat.le_refl _⟩
  | z :: Z => by
    have ih := jnW_len Z
    rw [cstA_cons, jnW_cons, List.length_append, List.length_cons]
    unfold cstW
    cases Z with
    | nil => rw [sfx_nil, List.length_nil]; omega
    | cons y Z =>
      rw [sfx_true, List.length_cons, ← jnW_sfx]
      omega
theorem cst_plain (t : List Nat) : cstW ⟨t, false⟩ = t.length + 1 := rfl
theorem cst_quote (t : List Nat) : cstW ⟨t, true⟩ = t.length + 3 := by unfold cstW shW; simp
theorem jnC_len (c n : Nat) : ∀ L : List (List Nat), (∀ x ∈ L, x.length ≤ n) → (jnC c L).length ≤ (n + 1) * L.length
  | [], _ => Nat.zero_le _
  | [x], h => by rw [jnC_one]; have := h x List.mem_cons_self; simp; omega
  | x :: y :: L, h => by
    have ih := jnC_len c n (y :: L) (fun z hz => h z (List.mem_cons_of_mem _ hz))
    have hx := h x List.mem_cons_self
    rw [jnC_cons, List.length_append, List.length_cons, List.length_cons, Nat.mul_succ]
    omega
theorem lst_mem {x : ByteArray} {y : Nat} (h : y ∈ lsB x) : ∃ j, j < x.size ∧ y = bt x j := by
  obtain ⟨j, hj, rfl⟩ := List.mem_map.1 h
  exact ⟨j, List.mem_range.1 hj, rfl⟩
/-- a word without quotes -/
theorem okW_plain {t : List Nat} (h0 : t ≠ []) (h : ∀ x ∈ t, x < 256 ∧ x ≠ 32) (hq : t.head? ≠ some 34) : OkW ⟨t, false⟩ := ⟨fun x hx => (h x hx).1, (fun e => by cases e), fun _ => ⟨h0, fun x hx => (h x hx).2, hq⟩⟩
theorem okW_plain' {t : List Nat} (h0 : t ≠ []) (h : ∀ x ∈ t, x < 256 ∧ x ≠ 32 ∧ x ≠ 34) : OkW ⟨t, false⟩ := okW_plain h0 (fun x hx => ⟨(h x hx).1, (h x hx).2.1⟩) (fun e => (h 34 (List.mem_of_mem_head? e)).2.2 rfl)
theorem okW_quote {l : List Nat} (h : ∀ x ∈ l, x < 256) : OkW ⟨qtL l, true⟩ := ⟨qtL_lt h, fun _ => okq_qt l, (fun e => by cases e)⟩
theorem lsB_ne {x : ByteArray} (h : 0 < x.size) : lsB x ≠ [] := fun e => by have := lsB_len x; rw [e] at this; simp at this; omega
theorem okW_dig {W : Nat} {d : ByteArray} (hW : DgW W d) (hs : ∀ v, v < 2 ^ W → sgnD (bt d v)) {b : ByteArray} (hb : 0 < b.size) : OkW ⟨lsB (toWB W d b), false⟩ := by
  refine okW_plain' (lsB_ne (by rw [toWB_size]; exact cW_pos hW hb)) fun x hx => ?_
  obtain ⟨j, hj, rfl⟩ := lst_mem hx
  have := toWB_all (P := sgnD) hW b hs j hj
  exact ⟨bt_lt _ _, this.1, this.2.1⟩
theorem to32_toW (b : ByteArray) : to32B b = toWB 5 d32 b := rfl
theorem ip4_ok (b : ByteArray) (h : 0 < b.size) : OkW ⟨ip4L b, false⟩ ∧ cstW ⟨ip4L b, false⟩ ≤ 4 * b.size + 1 := by
  constructor
  · refine okW_plain' (fun e => ?_) fun x hx => ?_
    · unfold ip4L at e
      have h1 := lsB_ne h
      cases hl : lsB b with
      | nil => exact h1 hl
      | cons a l =>
        rw [hl] at e
        have := dgN_pos a
        cases l with
        | nil => rw [List.map_cons, List.map_nil, jnC_one] at e; rw [e] at this; simp at this
        | cons c l => rw [List.map_cons, List.map_cons, jnC_cons] at e; simp at e
    · rcases jnC_mem hx with e | ⟨y, hy, e⟩
      · omega
      · obtain ⟨a, _, rfl⟩ := List.mem_map.1 hy
        have := dgN_dig a x e
        omega
  · rw [cst_plain]
    have h1 := jnC_len 46 3 ((lsB b).map dgN) (fun y hy => by
      obtain ⟨a, ha, rfl⟩ := List.mem_map.1 hy
      have := lsB_lt b a ha
      exact dgN_len 2 a (by omega))
    rw [List.length_map, lsB_len] at h1
    unfold ip4L
    omega
theorem grL_len {U : List Nat} (h : ∀ u ∈ U, u < 65536) : (grL U).length ≤ 5 * U.length := by
  have := jnC_len 58 4 (U.map hxL) (fun y hy => by
    obtain ⟨a, ha, rfl⟩ := List.mem_map.1 hy
    rw [hxL_len]
    exact hxV_len 3 a (by have := h a ha; omega))
  rwa [List.length_map] at this
theorem grL_mem {U : List Nat} {x : Nat} (h : x ∈ grL U) : x < 256 ∧ x ≠ 32 ∧ x ≠ 34 := by
  rcases jnC_mem h with e | ⟨y, hy, e⟩
  · omega
  · obtain ⟨a, _, rfl⟩ := List.mem_map.1 hy
    have := hxL_ok a x e
    exact ⟨this.1, this.2.2.1, this.2.2.2⟩
theorem ip6_ok (b : ByteArray) : OkW ⟨ip6U (g16 b), false⟩ ∧ cstW ⟨ip6U (g16 b), false⟩ ≤ 100 := by
  have hl := g16_lt b
  have hn := g16_len b
  obtain ⟨h1, h2, _⟩ := gap_ok (g16 b)
  generalize g16 b = U at *
  constructor
  · refine okW_plain' ?_ ?_
    · unfold ip6U
      split
      · intro e; rw [grL_nil] at e; rw [e] at hn; simp at hn
      · intro e; simp at e
    · intro x hx
      unfold ip6U at hx
      split at hx
      · exact grL_mem hx
      · rcases List.mem_append.1 hx with e | e
        · exact grL_mem e
        · rcases List.mem_cons.1 e with e | e
          · omega
          · rcases List.mem_cons.1 e with e | e
            · omega
            · exact grL_mem e
  · rw [cst_plain]
    unfold ip6U
    split
    · have := grL_len hl; omega
    · have e1 := grL_len (U := U.take (gapF U).1) (fun u hu => hl u (List.mem_of_mem_take hu))
      have e2 := grL_len (U := U.drop (gapF U).2) (fun u hu => hl u (List.mem_of_mem_drop hu))
      rw [List.length_take] at e1
      rw [List.length_drop] at e2
      rw [List.length_append, List.length_cons, List.length_cons]
      omega
theorem shL_no32 {b : Nat} (hb : b < 256) : ∀ x ∈ shL b, x ≠ 32 := fun x hx => by
  unfold shL at hx
  split at hx
  · rename_i hm
    have := marks_in hm
    simp at hx; omega
  · split at hx
    · simp [escL] at hx; omega
    · simp at hx; omega
theorem am34 : amB Nm.marks 34 = true := by decide +kernel
theorem shL_head (b : Nat) : ∀ l, (shL b ++ l).head? ≠ some 34 := fun l => by
  unfold shL
  split
  · simp
  · rename_i hm
    split
    · simp [escL]
    · simp
      intro e
      subst e
      exact hm am34
theorem shTo_no32 (x : ByteArray) : ∀ k, ∀ y ∈ shTo x k, y ≠ 32
  | 0, y, h => by cases h
  | k + 1, y, h => by
    rcases List.mem_append.1 h with h | h
    · exact shTo_no32 x k y h
    · exact shL_no32 (bt_lt x k) y h
theorem shTo_head (x : ByteArray) : ∀ k l, (l : List Nat).head? ≠ some 34 → (shTo x k ++ l).head? ≠ some 34
  | 0, l, h => h
  | k + 1, l, h => by
    rw [show shTo x (k + 1) = shTo x k ++ shL (bt x k) from rfl, List.append_assoc]
    exact shTo_head x k _ (shL_head _ _)
theorem shAll_facts : ∀ l : List ByteArray, (∀ y ∈ shAll l, y < 256 ∧ y ≠ 32) ∧ (shAll l).head? ≠ some 34 ∧ (l ≠ [] → (shAll l).getLast? = some 46)
  | [] => ⟨(fun y h => by cases h), (by simp [shAll]), fun h => absurd rfl h⟩
  | x :: l => by
    obtain ⟨h1, h2, h3⟩ := shAll_facts l
    have e : shAll (x :: l) = shTo x x.size ++ (46 :: shAll l) := by simp [shAll, shLab]
    refine ⟨fun y hy => ?_, ?_, fun _ => ?_⟩
    · rw [e] at hy
      rcases List.mem_append.1 hy with h | h
      · exact ⟨shTo_lt x _ y h, shTo_no32 x _ y h⟩
      · rcases List.mem_cons.1 h with h | h
        · omega
        · exact h1 y h
    · rw [e]; exact shTo_head x _ _ (by simp)
    · rw [e]
      cases l with
      | nil => simp [shAll]
      | cons z l =>
        have := h3 (by simp)
        rw [List.getLast?_append, List.getLast?_cons, this]
        first | done | rfl
theorem lsB_bts {l : List Nat} (h : ∀ y ∈ l, y < 256) : lsB (bts l) = l := by
  refine List.ext_getElem (by rw [lsB_len, bts_size]) fun j h1 h2 => ?_
  have := bts_bt l h j h2
  simp [lsB, lst, this]
/-- a name is a word, and ends in a point -/
theorem dom_ok {b : ByteArray} (hb : isN b = true) : OkW ⟨lsB (showB b), false⟩ ∧ cstW ⟨lsB (showB b), false⟩ ≤ 4 * b.size + 2 ∧ (lsB (showB b)).getLast? = some 46 := by
  by_cases hl : (labs b).length = 0
  · rw [showB_root hb hl, lsB_bts (by decide)]
    exact ⟨okW_plain' (by simp) (by decide), by rw [cst_plain]; simp, rfl⟩
  · rw [showB_yes hb (by omega)]
    obtain ⟨h1, h2, h3⟩ := shAll_facts (labs b)
    have hne : labs b ≠ [] := fun e => hl (by rw [e]; rfl)
    rw [lsB_bts (fun y hy => (h1 y hy).1)]
    refine ⟨okW_plain ?_ h1 h2, ?_, h3 hne⟩
    · intro e
      have := h3 hne
      rw [e] at this
      cases this
    · rw [cst_plain]
      have e1 := shAll_len (labs b)
      have e2 := putB_size (labs b)
      rw [putB_labs hb] at e2
      omega
theorem nameT_ok {t : Nat} (h1 : 1 ≤ t) (h2 : t ≤ 65535) : OkW ⟨lsB (nameT (t : Int)), false⟩ ∧ (lsB (nameT (t : Int))).length ≤ 10 := by
  have hty : isTy (t : Int) = true := by unfold isTy; exact decide_eq_true (by omega)
  unfold nameT
  rw [if_pos hty]
  cases hf : twFind (t : Int) with
  | some s =>
    simp only
    unfold twFind at hf
    cases hq : tw.find? (fun r => decide ((r.1 : Int) = t)) with
    | none => rw [hq] at hf; cases hf
    | some r =>
      rw [hq] at hf
      simp only [Option.map_some, Option.some.injEq] at hf
      subst hf
      have hm := List.mem_of_find?_eq_some hq
      have key : ∀ r ∈ tw, lsB r.2 ≠ [] ∧ (∀ x ∈ lsB r.2, x < 256 ∧ x ≠ 32 ∧ x ≠ 34) ∧ (lsB r.2).length ≤ 10 := by decide +kernel
      obtain ⟨k1, k2, k3⟩ := key r hm
      exact ⟨okW_plain' k1 k2, k3⟩
  | none =>
    simp only
    have e : (⟨#[84, 89, 80, 69]⟩ : ByteArray) ++ ⟨(Lib.itoa (t : Int)).toArray⟩ = bts ([84, 89, 80, 69] ++ dgN t) := by
      rw [bts_append, bts_dg]
      congr 1
    have hlt : ∀ x ∈ [84, 89, 80, 69] ++ dgN t, x < 256 ∧ x ≠ 32 ∧ x ≠ 34 := fun x hx => by
      rcases List.mem_append.1 hx with h | h
      · have key : ∀ x ∈ [84, 89, 80, 69], x < 256 ∧ x ≠ 32 ∧ x ≠ 34 := by decide
        exact key x h
      · have := dgN_dig t x h
        omega
    rw [e, lsB_bts (fun x hx => (hlt x hx).1)]
    have := dgN_len 4 t (by omega)
    exact ⟨okW_plain' (by simp) hlt, by simp; omega⟩
end Go.Proofs.YtmbjmokhkonpiaaGreatDoor

/-
  A set's types as numbers that rise, and the words of any field, plainly. (The verifier's own text.)
-/
namespace Go.Proofs.YtmbjmokhkonpiaaGreatDoor
set_option linter.unusedVariables false
set_option linter.unusedSimpArgs false
open Go Go.Proofs.YtmbjmokhkonpiaaGreatDoor.Nm

theorem blkT_lenD (block : Nat) (s : ByteArray) : ∀ k, (blkT block s k).length ≤ k
  | 0 => Nat.le_refl _
  | k + 1 => by
    have := blkT_lenD block s k
    simp only [blkT]
    split
    · rw [List.length_append]; simp; omega
    · omega
theorem typF_len : ∀ (f : Nat) (last : Int) (s : ByteArray) (U : List Nat), typF f last s = some U → U.length ≤ 8 * s.size ∧ ∀ x ∈ U, x ≤ 65535
  | 0, last, s, U, h => by
    unfold typF at h
    split at h
    · simp only [Option.some.injEq] at h; subst h; exact ⟨Nat.zero_le _, fun x hx => by cases hx⟩
    · cases h
  | f + 1, last, s, U, h => by
    by_cases h0 : s.size = 0
    · unfold typF at h
      rw [if_pos h0] at h
      simp only [Option.some.injEq] at h; subst h; exact ⟨Nat.zero_le _, fun x hx => by cases hx⟩
    · obtain ⟨q, hB, hq⟩ := typF_blk h h0
      obtain ⟨h1, h2⟩ := typF_len f _ _ q hq
      have h3 := blkT_lenD (bt s 0) (s.extract 2 (2 + bt s 1)) (8 * bt s 1)
      have h4 := hB.room
      have h5 := hB.n32
      have h6 := bt_lt s 0
      rw [size_extract' _ _ _ (Nat.le_refl _)] at h1
      rw [hB.eq]
      refine ⟨by rw [List.length_append]; omega, fun x hx => ?_⟩
      rcases List.mem_append.1 hx with e | e
      · exact blkT_le (by omega) (by omega) x e
      · exact h2 x e
theorem typB_facts {s : ByteArray} {U : List Nat} (h : typB s = some U) : U.Pairwise (· < ·) ∧ (∀ x ∈ U, 1 ≤ x ∧ x ≤ 65535) ∧ U.length ≤ 8 * s.size := by
  unfold typB at h
  cases ht : typS (-1) s with
  | none => rw [ht] at h; cases h
  | some l =>
    rw [ht] at h
    simp only at h
    split at h
    · cases h
    · rename_i hne
      simp only [Option.some.injEq] at h
      subst h
      obtain ⟨h1, h2⟩ := typF_len _ _ _ _ ht
      refine ⟨(typF_rise _ _ _ _ (by omega) ht).1, fun x hx => ⟨?_, h2 x hx⟩, h1⟩
      rcases Nat.eq_zero_or_pos x with e | e
      · subst e; exact absurd (zero_head ht hx) hne
      · exact e
/-- kinds as the types' data have them -/
def kOk (k : Kind) : Bool := decide ((k : Nat) ≤ 17)
theorem cst_map (f : Nat → Wz) (m : Nat) : ∀ l : List Nat, (∀ x ∈ l, cstW (f x) ≤ m) → cstA (l.map f) ≤ m * l.length
  | [], _ => Nat.zero_le _
  | x :: l, h => by
    have ih := cst_map f m l (fun y hy => h y (List.mem_cons_of_mem _ hy))
    have hx := h x List.mem_cons_self
    rw [List.map_cons, cstA_cons, List.length_cons, Nat.mul_succ]
    omega
theorem cst_texts : ∀ L : List ByteArray, (∀ x ∈ L, x.size ≤ 255) → cstA (L.map txW) ≤ 4 * (chunks L).size
  | [], _ => Nat.zero_le _
  | x :: L, h => by
    have ih := cst_texts L (fun y hy => h y (List.mem_cons_of_mem _ hy))
    have h2 := (qtL_len (lsB x)).2
    rw [lsB_len] at h2
    have e : cstW (txW x) = (qtL (lsB x)).length + 3 := cst_quote _
    rw [List.map_cons, cstA_cons, chunks_cons, ByteArray.size_append, chunk_size, e]
    omega
theorem cW_len8 {W : Nat} {d : ByteArray} (h : DgW W d) (b : ByteArray) : (toWB W d b).size ≤ 8 * b.size := by rw [toWB_size]; exact cW_len h b
theorem size_tail (b : ByteArray) : (b.extract 1 b.size).size = b.size - 1 := size_extract' _ _ _ (Nat.le_refl _)
set_option maxHeartbeats 1000000 in
theorem tell_ok (k : Kind) (b : ByteArray) (hk : kOk k = true) (h : kindSize k b = some b.size) (hb : b.size ≤ 65535) : (∀ z ∈ tellK k b, OkW z) ∧ cstA (tellK k b) ≤ 100 * b.size + 100 := by
  have one : ∀ z : Wz, OkW z ∧ cstW z ≤ 100 * b.size + 100 → (∀ y ∈ [z], OkW y) ∧ cstA [z] ≤ 100 * b.size + 100 := fun z hz => ⟨fun y hy => (List.mem_singleton.1 hy) ▸ hz.1, by rw [cstA_one]; exact hz.2⟩
  have hpl : ∀ x : ByteArray, cstW ⟨lsB x, false⟩ = x.size + 1 := fun x => by rw [cst_plain, lsB_len]
  rcases kind_cases k with rfl | rfl | rfl | rfl | rfl | rfl | rfl | rfl | rfl | rfl | rfl | rfl | rfl | ⟨n, rfl⟩
  · simp only [kindSize, fixS] at h
    have := ip4_ok b (by split at h <;> simp at h; omega)
    exact one _ ⟨this.1, by omega⟩
  · have := ip6_ok b
    exact one _ ⟨this.1, by omega⟩
  · have hd := (domS_some h).2.2.2
    rw [ext_full] at hd
    have := dom_ok hd
    exact one _ ⟨this.1, by omega⟩
  · refine one _ ⟨okW_quote (lsB_lt _), ?_⟩
    have h2 := (qtL_len (lsB (b.extract 1 b.size))).2
    rw [lsB_len, size_tail] at h2
    rw [cst_quote]
    omega
  · obtain ⟨x, L, hL, he⟩ := txtS_row h
    show (∀ z ∈ txtW b.size b, OkW z) ∧ cstA (txtW b.size b) ≤ _
    have hl := chunks_len (x :: L)
    rw [← he] at hl
    have e := txtW_chunks (x :: L) b.size hL hl
    rw [← he] at e
    rw [e]
    refine ⟨fun z hz => ?_, ?_⟩
    · obtain ⟨y, _, rfl⟩ := List.mem_map.1 hz
      exact okW_quote (lsB_lt _)
    · have := cst_texts (x :: L) hL
      rw [← he] at this
      omega
  · simp only [kindSize, endS] at h
    refine one _ ⟨okW_dig dg16 d16_sgn (by split at h <;> simp at h; omega), ?_⟩
    have := cW_len8 dg16 b
    rw [hpl]; omega
  · simp only [kindSize, endS] at h
    have h0 : 0 < b.size := by split at h <;> simp at h; omega
    have h1 := cW_len8 dg64 b
    have h2 : fil64 (toWB 6 d64 b).size ≤ 3 := by unfold fil64; omega
    refine one _ ⟨okW_plain' ?_ ?_, ?_⟩
    · intro e
      have e1 := (List.append_eq_nil_iff.1 e).1
      exact lsB_ne (by rw [toWB_size]; exact cW_pos dg64 h0) e1
    · intro x hx
      rcases List.mem_append.1 hx with e | e
      · obtain ⟨j, hj, rfl⟩ := lst_mem e
        have := toWB_all (P := sgnD) dg64 b d64_sgn j hj
        exact ⟨bt_lt _ _, this.1, this.2.1⟩
      · have := List.eq_of_mem_replicate e
        omega
    · rw [cst_plain, List.length_append, lsB_len, List.length_replicate]
      omega
  · show (∀ z ∈ (if b.size = 1 then _ else _), OkW z) ∧ cstA (if b.size = 1 then _ else _) ≤ _
    split
    · exact one _ ⟨okW_plain' (by simp) (by decide), by rw [cst_plain, List.length_singleton]; omega⟩
    · have h3 := cntS_some h
      have h1 := cW_len8 dg16 (b.extract 1 b.size)
      rw [size_tail] at h1
      exact one _ ⟨okW_dig dg16 d16_sgn (by rw [size_tail]; omega), by rw [hpl]; omega⟩
  · have h1 := cW_len8 dg32 (b.extract 1 b.size)
    rw [size_tail] at h1
    have h2 : 1 < b.size := by
      simp only [kindSize] at h
      unfold hashS at h
      split at h
      · cases h
      · rename_i hno
        have h4 := cntS_some h
        rcases Nat.lt_or_ge 1 b.size with h5 | h5
        · exact h5
        · exfalso
          have h6 : b.size = 1 := by omega
          unfold cntS at h
          split at h
          · cases h
          · simp only [Option.some.injEq] at h
            exact hno (.inr (by omega))
    exact one _ ⟨okW_dig dg32 d32_sgn (by rw [size_tail]; omega), by rw [hpl, to32_toW]; omega⟩
  · simp only [kindSize, setS] at h
    cases ht : typB b with
    | none => rw [ht] at h; cases h
    | some U =>
      obtain ⟨h1, h2, h3⟩ := typB_facts ht
      show (∀ z ∈ ((typB b).getD []).map _, OkW z) ∧ cstA (((typB b).getD []).map _) ≤ _
      rw [ht]
      refine ⟨fun z hz => ?_, ?_⟩
      · obtain ⟨t, ht, rfl⟩ := List.mem_map.1 hz
        exact (nameT_ok (h2 t ht).1 (h2 t ht).2).1
      · have := cst_map (fun t : Nat => (⟨lsB (nameT (t : Int)), false⟩ : Wz)) 11 U (fun t ht => by
          have := (nameT_ok (h2 t ht).1 (h2 t ht).2).2
          rw [cst_plain]; omega)
        simp only [Option.getD_some]
        omega
  · simp only [kindSize] at h
    unfold oneS at h
    split at h
    · cases h
    · rename_i hno
      simp only [Option.some.injEq] at h
      have h0 := bt_lt b 0
      have h1 := bt_lt b 1
      have hv : vN b b.size = bt b 0 * 256 + bt b 1 := by
        rw [← h]
        simp [vN]
      have := nameT_ok (t := vN b b.size) (by omega) (by omega)
      exact one _ ⟨this.1, by rw [cst_plain]; omega⟩
  · refine one _ ⟨okW_quote (lsB_lt _), ?_⟩
    have h2 := (qtL_len (lsB b)).2
    rw [lsB_len] at h2
    rw [cst_quote]
    omega
  · have hd := dgN_len 4 b.size (by omega)
    have h1 := cW_len8 dg16 b
    show (∀ z ∈ _ :: _ :: (if b.size = 0 then _ else _), OkW z) ∧ cstA (_ :: _ :: (if b.size = 0 then _ else _)) ≤ _
    have hw : OkW ⟨[92, 35], false⟩ := okW_plain' (by simp) (by decide)
    have hc : cstW ⟨[92, 35], false⟩ = 3 := rfl
    split
    · refine ⟨fun z hz => ?_, ?_⟩
      · rcases List.mem_cons.1 hz with rfl | hz
        · exact hw
        · rw [List.mem_singleton.1 hz]; exact okW_dec _
      · rw [cstA_cons, cstA_one, hc, cst_plain]; omega
    · refine ⟨fun z hz => ?_, ?_⟩
      · rcases List.mem_cons.1 hz with rfl | hz
        · exact hw
        · rcases List.mem_cons.1 hz with rfl | hz
          · exact okW_dec _
          · rw [List.mem_singleton.1 hz]; exact okW_dig dg16 d16_sgn (by omega)
      · rw [cstA_cons, cstA_cons, cstA_one, hc, cst_plain, hpl]; omega
  · have hn : n ≤ 4 := by
      have h17 : (n + 13 : Nat) ≤ 17 := of_decide_eq_true hk
      omega
    simp only [kindSize, fixS] at h
    have hz : b.size = n := by split at h <;> simp at h; omega
    have hv := vN_lt b b.size
    have hp : 256 ^ b.size ≤ 256 ^ 4 := Nat.pow_le_pow_right (by omega) (by omega)
    have := dgN_len 9 (vN b b.size) (by omega)
    exact one _ ⟨okW_dec _, by rw [cst_plain]; omega⟩
end Go.Proofs.YtmbjmokhkonpiaaGreatDoor

/-
  Proofs: strings.Join, Split, Cut, Repeat, TrimRight off the shelf, over texts that are told by lists. (The verifier's own text.)
-/
namespace Go.Proofs.YtmbjmokhkonpiaaGreatDoor
set_option linter.unusedVariables false
set_option linter.unusedSimpArgs false
open Go.RowKit Go.Shelf Go.Proofs.YtmbjmokhkonpiaaGreatDoor.Nm

def Tryz.lays156_ren : Go.Shelf.Ren := ⟨fun | 156 => 37 | 165 => 57 | 166 => 10 | 169 => 17 | 240 => 27 | 241 => 71 | 276 => 51 | 277 => 78 | n => n, fun | 31 => 46 | 9 => 9 | 3 => 3 | 4 => 4 | 0 => 0 | 20 => 20 | 72 => 36 | 76 => 39 | 70 => 33 | 37 => 34 | 75 => 38 | 127 => 70 | 164 => 79 | 5 => 5 | 80 => 47 | n => n, fun | n => n⟩
theorem Tryz.lays156 : Go.Proofs.Lays.n156 Tryz.prog Tryz.lays156_ren := {
  mixed := by kernel_rfl
  f156 := Tryz.func37.trans (congrArg some (by kernel_rfl))
  f165 := Tryz.func57.trans (congrArg some (by kernel_rfl))
  f166 := Tryz.func10.trans (congrArg some (by kernel_rfl))
  f169 := Tryz.func17.trans (congrArg some (by kernel_rfl))
  f240 := Tryz.func27.trans (congrArg some (by kernel_rfl))
  f241 := Tryz.func71.trans (congrArg some (by kernel_rfl))
  f276 := Tryz.func51.trans (congrArg some (by kernel_rfl))
  f277 := Tryz.func78.trans (congrArg some (by kernel_rfl))
  t0 := Tryz.underlying0
  a0 := Tryz.isAgg0
  z0 := Tryz.sizeOf0
  v0 := Tryz.zeroValue0
  t3 := Tryz.underlying3
  a3 := Tryz.isAgg3
  z3 := Tryz.sizeOf3
  v3 := Tryz.zeroValue3
  t4 := Tryz.underlying4
  a4 := Tryz.isAgg4
  z4 := Tryz.sizeOf4
  v4 := Tryz.zeroValue4
  t9 := Tryz.underlying9
  a9 := Tryz.isAgg9
  z9 := Tryz.sizeOf9
  v9 := Tryz.zeroValue9
  t20 := Tryz.underlying20
  a20 := Tryz.isAgg20
  z20 := Tryz.sizeOf20
  v20 := Tryz.zeroValue20
  t31 := Tryz.underlying46
  a31 := Tryz.isAgg46
  z31 := Tryz.sizeOf46
  v31 := Tryz.zeroValue46
  t37 := Tryz.underlying34
  a37 := Tryz.isAgg34
  z37 := Tryz.sizeOf34
  v37 := Tryz.zeroValue34
  t70 := Tryz.underlying33
  a70 := Tryz.isAgg33
  z70 := Tryz.sizeOf33
  v70 := Tryz.zeroValue33
  t72 := Tryz.underlying36
  a72 := Tryz.isAgg36
  z72 := Tryz.sizeOf36
  v72 := Tryz.zeroValue36
  t75 := Tryz.underlying38
  a75 := Tryz.isAgg38
  z75 := Tryz.sizeOf38
  v75 := Tryz.zeroValue38
  t76 := Tryz.underlying39
  a76 := Tryz.isAgg39
  z76 := Tryz.sizeOf39
  v76 := Tryz.zeroValue39
  t127 := Tryz.underlying70
  a127 := Tryz.isAgg70
  z127 := Tryz.sizeOf70
  v127 := Tryz.zeroValue70
  t164 := Tryz.underlying79
  a164 := Tryz.isAgg79
  z164 := Tryz.sizeOf79
  v164 := Tryz.zeroValue79 }
def Tryz.lays105_ren : Go.Shelf.Ren := ⟨fun | 105 => 138 | 212 => 139 | 99 => 140 | 165 => 57 | 166 => 10 | 170 => 141 | 169 => 17 | 263 => 142 | 264 => 143 | 206 => 144 | 240 => 27 | 241 => 71 | 276 => 51 | 277 => 78 | n => n, fun | 9 => 9 | 3 => 3 | 4 => 4 | 20 => 20 | 0 => 0 | 46 => 126 | 109 => 149 | 5 => 5 | 72 => 36 | 76 => 39 | 51 => 124 | 146 => 151 | 53 => 115 | 148 => 153 | 70 => 33 | 37 => 34 | 75 => 38 | 127 => 70 | 164 => 79 | 80 => 47 | n => n, fun | n => n⟩
theorem Tryz.lays105 : Go.Proofs.Lays.n105 Tryz.prog Tryz.lays105_ren := {
  mixed := by kernel_rfl
  f99 := Tryz.func140.trans (congrArg some (by kernel_rfl))
  f105 := Tryz.func138.trans (congrArg some (by kernel_rfl))
  f165 := Tryz.func57.trans (congrArg some (by kernel_rfl))
  f166 := Tryz.func10.trans (congrArg some (by kernel_rfl))
  f169 := Tryz.func17.trans (congrArg some (by kernel_rfl))
  f170 := Tryz.func141.trans (congrArg some (by kernel_rfl))
  f206 := Tryz.func144.trans (congrArg some (by kernel_rfl))
  f212 := Tryz.func139.trans (congrArg some (by kernel_rfl))
  f240 := Tryz.func27.trans (congrArg some (by kernel_rfl))
  f241 := Tryz.func71.trans (congrArg some (by kernel_rfl))
  f263 := Tryz.func142.trans (congrArg some (by kernel_rfl))
  f264 := Tryz.func143.trans (congrArg some (by kernel_rfl))
  f276 := Tryz.func51.trans (congrArg some (by kernel_rfl))
  f277 := Tryz.func78.trans (congrArg some (by kernel_rfl))
  t0 := Tryz.underlying0
  a0 := Tryz.isAgg0
  z0 := Tryz.sizeOf0
  v0 := Tryz.zeroValue0
  t3 := Tryz.underlying3
  a3 := Tryz.isAgg3
  z3 := Tryz.sizeOf3
  v3 := Tryz.zeroValue3
  t4 := Tryz.underlying4
  a4 := Tryz.isAgg4
  z4 := Tryz.sizeOf4
  v4 := Tryz.zeroValue4
  t5 := Tryz.underlying5
  a5 := Tryz.isAgg5
  z5 := Tryz.sizeOf5
  v5 := Tryz.zeroValue5
  t9 := Tryz.underlying9
  a9 := Tryz.isAgg9
  z9 := Tryz.sizeOf9
  v9 := Tryz.zeroValue9
  t20 := Tryz.underlying20
  a20 := Tryz.isAgg20
  z20 := Tryz.sizeOf20
  v20 := Tryz.zeroValue20
  t37 := Tryz.underlying34
  a37 := Tryz.isAgg34
  z37 := Tryz.sizeOf34
  v37 := Tryz.zeroValue34
  t46 := Tryz.underlying126
  a46 := Tryz.isAgg126
  z46 := Tryz.sizeOf126
  v46 := Tryz.zeroValue126
  t51 := Tryz.underlying124
  a51 := Tryz.isAgg124
  z51 := Tryz.sizeOf124
  v51 := Tryz.zeroValue124
  t53 := Tryz.underlying115
  a53 := Tryz.isAgg115
  z53 := Tryz.sizeOf115
  v53 := Tryz.zeroValue115
  t70 := Tryz.underlying33
  a70 := Tryz.isAgg33
  z70 := Tryz.sizeOf33
  v70 := Tryz.zeroValue33
  t72 := Tryz.underlying36
  a72 := Tryz.isAgg36
  z72 := Tryz.sizeOf36
  v72 := Tryz.zeroValue36
  t75 := Tryz.underlying38
  a75 := Tryz.isAgg38
  z75 := Tryz.sizeOf38
  v75 := Tryz.zeroValue38
  t76 := Tryz.underlying39
  a76 := Tryz.isAgg39
  z76 := Tryz.sizeOf39
  v76 := Tryz.zeroValue39
  t109 := Tryz.underlying149
  a109 := Tryz.isAgg149
  z109 := Tryz.sizeOf149
  v109 := Tryz.zeroValue149
  t127 := Tryz.underlying70
  a127 := Tryz.isAgg70
  z127 := Tryz.sizeOf70
  v127 := Tryz.zeroValue70
  t146 := Tryz.underlying151
  a146 := Tryz.isAgg151
  z146 := Tryz.sizeOf151
  v146 := Tryz.zeroValue151
  t148 := Tryz.underlying153
  a148 := Tryz.isAgg153
  z148 := Tryz.sizeOf153
  v148 := Tryz.zeroValue153
  t164 := Tryz.underlying79
  a164 := Tryz.isAgg79
  z164 := Tryz.sizeOf79
  v164 := Tryz.zeroValue79 }
set_option maxRecDepth 100000 in
theorem Tryz.extra156 : Builder.Extra Tryz.prog Tryz.lays156_ren where
  sizeBuilder := by kernel_rfl
  liesBuilder := by kernel_rfl
  t5 := Tryz.underlying5
  a5 := Tryz.isAgg5
  z5 := Tryz.sizeOf5
  v5 := Tryz.zeroValue5
  infoByte := by kernel_rfl
  cellsByte := by kernel_rfl
  sizeByte := by kernel_rfl
  neB5 := by decide
set_option maxRecDepth 100000 in
theorem Tryz.extra105 : Builder.Extra Tryz.prog Tryz.lays105_ren where
  sizeBuilder := by kernel_rfl
  liesBuilder := by kernel_rfl
  t5 := Tryz.underlying5
  a5 := Tryz.isAgg5
  z5 := Tryz.sizeOf5
  v5 := Tryz.zeroValue5
  infoByte := by kernel_rfl
  cellsByte := by kernel_rfl
  sizeByte := by kernel_rfl
  neB5 := by decide
/-- an int lies where strings' search looks for its bound -/
def Gm (w : World) : Prop := ∃ m, w.cell? ⟨2, 0, none⟩ = some (.int .i64 m)
theorem Gm.below {w w' : World} (h : Gm w) (hb : Below w.heap.size w w') : Gm w' := by
  obtain ⟨m, hm⟩ := h
  exact ⟨m, (hb.cell (Lib.lt_of_cell hm)).trans hm⟩
/-- strings.Join of texts told by lists -/
theorem join_any (c : Nat) (L : List (List Nat)) (p : Option Addr) (cap : Nat) (base : Nat) (w : World) (ho : w.ownsRow base 9 1 (.slice p L.length cap) L.length (L.map fun l => Value.string (bts l))) (hl : (jnC c L).length ≤ 1073741824) (hn : L.length ≤ 1073741824) :
    Calls Tryz.prog 37 #[.slice p L.length cap, .string (bts [c])] w fun e w' => e = .returned (.string (bts (jnC c L))) ∧ Below w.heap.size w w' := by
  have HO := ho
  obtain ⟨_, (⟨h1, h2⟩ | ⟨g, cp, cur, h1, hb, hg, hle, hcap, hcur, htk⟩)⟩ := ho
  · have hL : L = [] := List.length_eq_zero_iff.1 (by assumption)
    subst hL
    cases h1
    exact (Any.strings_Join_none Tryz.lays156 Tryz.extra156 none 0 (bts [c]) w).mono fun e w' ⟨he, hw⟩ => ⟨he, hw ▸ Below.refl _ _⟩
  · cases h1
    have h := Any.strings_Join Tryz.lays156 Tryz.extra156 g 0 cap (L.map bts) (bts [c]) w ?_ (Array.getElem?_eq_some_iff.1 hg).1 (by rw [List.length_map]; omega) (by rw [List.length_map]; omega) ?_
    · rw [List.length_map] at h
      have e : (bts [c]).data.toList = [UInt8.ofNat c] := rfl
      rw [e, jnC_bts] at h
      exact h
    · intro j x hx
      rw [List.getElem?_map] at hx
      have hj : j < L.length := by
        rcases Nat.lt_or_ge j L.length with h | h
        · exact h
        · rw [List.getElem?_eq_none h] at hx; cases hx
      have h1 := HO.cellAt j (by omega)
      rw [Nat.zero_add, h1, List.getElem?_map]
      rw [List.getElem?_eq_getElem hj] at hx ⊢
      simp only [Option.map_some, Option.some.injEq] at hx ⊢
      rw [hx]
    · have e : (bts [c]).data.toList = [UInt8.ofNat c] := rfl
      rw [e, List.map_map, show L.map ((·.data.toList) ∘ bts) = L.map u8 from List.map_congr_left fun x _ => bts_u8 x, jnC_join, u8_len]
      omega
end Go.Proofs.YtmbjmokhkonpiaaGreatDoor
