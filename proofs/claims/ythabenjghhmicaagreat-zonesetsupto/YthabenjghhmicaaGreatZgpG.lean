import Derived.Test.YthabenjghhmicaaGreatZf6G
/-
  gazetteerref3: Find, plainly. (The verifier's own text.)
-/
namespace Go.Proofs.YthabenjghhmicaaGreat
set_option linter.unusedVariables false
set_option linter.unusedSimpArgs false
open Go.RowKit Go.Shelf Go.Maps Go.Proofs.YthabenjghhmicaaGreat.Nm Go.Proofs.YthabenjghhmicaaGreat.Zs

def setP (n : ByteArray) (t : Int) (r : Rn) : Bool := decide (r.t = t) && eqB r.o n
/-- the records of a name and a type -/
def rset (M : List Rn) (n : ByteArray) (t : Int) : List Rn := M.filter (setP n t)

/-- is a name there? -/
def rth (M : List Rn) (n : ByteArray) : Bool := M.any fun r => countB r && withinB r.o n
def stP (n : ByteArray) (t : Int) (r : Rn) : Bool := eqB r.o n && (decide (r.t = t) || (decide (t = 255) && countB r))
/-- what is found at a name that is there -/
def rstand (M : List Rn) (n : ByteArray) (t : Int) : Int × List Rn :=
  if (rset M n 5).isEmpty = false ∧ t ≠ 5 ∧ t ≠ 255 then (2, rset M n 5) else if (M.filter (stP n t)).isEmpty then (5, []) else (1, M.filter (stP n t))
/-- is the zone left at the name of k labels, and as what? -/
def rlvK (M : List Rn) (q : ByteArray) (t : Int) (k : Nat) : Int := if hasB M (tailB q k) 2 = true ∧ ¬ (k = (labs q).length ∧ t = 43) then 4 else if hasB M (tailB q k) 39 = true ∧ k < (labs q).length then 3 else 0
/-- where the zone is left -/
def rlvB (apex : ByteArray) (M : List Rn) (q : ByteArray) (t : Int) : Int × ByteArray := match (List.range ((labs q).length - (labs apex).length)).find? (fun i => decide (rlvK M q t ((labs apex).length + 1 + i) ≠ 0)) with | some i => (rlvK M q t ((labs apex).length + 1 + i), tailB q ((labs apex).length + 1 + i : Nat)) | none => (0, ⟨#[]⟩)
/-- the longest name above one that is there -/
def renc (M : List Rn) (q : ByteArray) : ByteArray := match (List.range ((labs q).length + 1)).find? (fun i => rth M (tailB q ((labs q).length - i : Nat))) with | some i => tailB q ((labs q).length - i : Nat) | none => ⟨#[]⟩
def rfind (apex : ByteArray) (M : List Rn) (q : ByteArray) (t : Int) : Fd :=
  if withinB q apex = true ∧ 1 ≤ t ∧ t ≤ 65535 then
    if (rlvB apex M q t).1 ≠ 0 then ⟨(rlvB apex M q t).1, (rlvB apex M q t).2, ⟨#[]⟩, false, rset M (rlvB apex M q t).2 (if (rlvB apex M q t).1 = 3 then 39 else 2)⟩
    else if rth M q = true then ⟨(rstand M q t).1, q, q, false, (rstand M q t).2⟩
    else if rth M (starB (renc M q)) = true then ⟨(rstand M (starB (renc M q)) t).1, starB (renc M q), renc M q, true, (rstand M (starB (renc M q)) t).2.map (ownR q)⟩
    else ⟨6, q, renc M q, false, []⟩
  else noFd
theorem rlv_some {apex : ByteArray} {M : List Rn} {q : ByteArray} {t : Int} {i : Nat} (hi : i < (labs q).length - (labs apex).length) (h : rlvK M q t ((labs apex).length + 1 + i) ≠ 0) (hb : ∀ j, j < i → rlvK M q t ((labs apex).length + 1 + j) = 0) : rlvB apex M q t = (rlvK M q t ((labs apex).length + 1 + i), tailB q ((labs apex).length + 1 + i : Nat)) := by
  unfold rlvB
  have : (List.range ((labs q).length - (labs apex).length)).find? (fun i => decide (rlvK M q t ((labs apex).length + 1 + i) ≠ 0)) = some i := by
    rw [List.find?_range_eq_some]
    exact ⟨decide_eq_true h, by simpa using hi, fun j hj => by simp [hb j hj]⟩
  rw [this]
theorem rlv_none {apex : ByteArray} {M : List Rn} {q : ByteArray} {t : Int} (hb : ∀ j, j < (labs q).length - (labs apex).length → rlvK M q t ((labs apex).length + 1 + j) = 0) : rlvB apex M q t = (0, ⟨#[]⟩) := by
  unfold rlvB
  have : (List.range ((labs q).length - (labs apex).length)).find? (fun i => decide (rlvK M q t ((labs apex).length + 1 + i) ≠ 0)) = none := by
    rw [List.find?_eq_none]
    intro x hx
    simp [hb x (List.mem_range.1 hx)]
  rw [this]
theorem renc_some {M : List Rn} {q : ByteArray} {i : Nat} (hi : i ≤ (labs q).length) (h : rth M (tailB q ((labs q).length - i : Nat)) = true) (hb : ∀ j, j < i → rth M (tailB q ((labs q).length - j : Nat)) = false) : renc M q = tailB q ((labs q).length - i : Nat) := by
  unfold renc
  have : (List.range ((labs q).length + 1)).find? (fun i => rth M (tailB q ((labs q).length - i : Nat))) = some i := by
    rw [List.find?_range_eq_some]
    exact ⟨h, by simp; omega, fun j hj => by rw [hb j hj]; rfl⟩
  rw [this]
theorem rst_len (M : List Rn) (n : ByteArray) (t : Int) : (rstand M n t).2.length ≤ M.length := by
  have h1 := List.length_filter_le (setP n 5) M
  have h2 := List.length_filter_le (stP n t) M
  unfold rstand rset
  (repeat' split) <;> simp <;> omega
theorem tail_sz (s : ByteArray) (k : Int) : (tailB s k).size ≤ 1048576 := by have := tailB_size s k; omega
theorem rfind_in {apex : ByteArray} {M : List Rn} {q : ByteArray} {t : Int} (h1 : withinB q apex = true) (h2 : 1 ≤ t) (h3 : t ≤ 65535) : rfind apex M q t = (if (rlvB apex M q t).1 ≠ 0 then ⟨(rlvB apex M q t).1, (rlvB apex M q t).2, ⟨#[]⟩, false, rset M (rlvB apex M q t).2 (if (rlvB apex M q t).1 = 3 then 39 else 2)⟩
    else if rth M q = true then ⟨(rstand M q t).1, q, q, false, (rstand M q t).2⟩
    else if rth M (starB (renc M q)) = true then ⟨(rstand M (starB (renc M q)) t).1, starB (renc M q), renc M q, true, (rstand M (starB (renc M q)) t).2.map (ownR q)⟩
    else ⟨6, q, renc M q, false, []⟩) := by unfold rfind; rw [if_pos ⟨h1, h2, h3⟩]
theorem rlvK_is (M : List Rn) (q : ByteArray) (t : Int) (k : Nat) : rlvK M q t k = if hasB M (tailB q (k : Int)) 2 = true ∧ ¬ (k = (labs q).length ∧ t = 43) then 4 else if hasB M (tailB q (k : Int)) 39 = true ∧ k < (labs q).length then 3 else 0 := rfl
theorem rlv_at {apex : ByteArray} {M : List Rn} {q : ByteArray} {t : Int} {i : Nat} (h1 : (labs apex).length + 1 ≤ i) (h2 : i ≤ (labs q).length) (h3 : rlvK M q t i ≠ 0) (h4 : ∀ j, (labs apex).length + 1 ≤ j → j < i → rlvK M q t j = 0) : rlvB apex M q t = (rlvK M q t i, tailB q (i : Int)) := by
  obtain ⟨j, rfl⟩ := Nat.exists_eq_add_of_le h1
  exact rlv_some (by omega) h3 (fun j' hj' => h4 _ (by omega) (by omega))
theorem rlv_no {apex : ByteArray} {M : List Rn} {q : ByteArray} {t : Int} (h : ∀ i, (labs apex).length + 1 ≤ i → i < (labs q).length + 1 → rlvK M q t i = 0) : rlvB apex M q t = (0, ⟨#[]⟩) := rlv_none (fun j hj => h _ (by omega) (by omega))
theorem within_cnt {n z : ByteArray} (h : withinB n z = true) : (labs z).length ≤ (labs n).length := ((withinB_iff n z).1 h).2.2.1
theorem labs_few {n : ByteArray} (h : isN n = true) : (labs n).length ≤ 255 := Nat.le_succ_of_le (labs_len_le h)
theorem renc_at {M : List Rn} {q : ByteArray} {ke : Nat} (h1 : ke ≤ (labs q).length) (h2 : rth M (tailB q (ke : Int)) = true) (h3 : ∀ m : Nat, ke < m → m ≤ (labs q).length → rth M (tailB q (m : Int)) = false) : renc M q = tailB q (ke : Int) := by
  have e : (labs q).length - ((labs q).length - ke) = ke := by omega
  have := renc_some (M := M) (q := q) (i := (labs q).length - ke) (by omega) (by rw [e]; exact h2) (fun j hj => h3 _ (by omega) (by omega))
  rw [e] at this
  exact this
theorem star_sz {m : ByteArray} (h : m.size ≤ 255) : (starB m).size ≤ 1048576 := by have := star_le h; omega
/-- the last that is so -/
theorem last_of (P : Nat → Bool) (a : Nat) (h : P a = true) : ∀ n, a ≤ n → ∃ k, k ≤ n ∧ P k = true ∧ ∀ m, k < m → m ≤ n → P m = false
  | 0, ha => ⟨0, Nat.le_refl _, by obtain rfl : a = 0 := by omega
                                   exact h, fun m h1 h2 => by omega⟩
  | n + 1, ha => by
    cases hp : P (n + 1) with
    | true => exact ⟨n + 1, Nat.le_refl _, hp, fun m h1 h2 => by omega⟩
    | false =>
      have ha2 : a ≤ n := by
        rcases Nat.lt_or_ge n a with h1 | h1
        · obtain rfl : a = n + 1 := by omega
          rw [hp] at h; cases h
        · exact h1
      obtain ⟨k, k1, k2, k3⟩ := last_of P a h n ha2
      refine ⟨k, by omega, k2, fun m h1 h2 => ?_⟩
      rcases Nat.lt_or_ge n m with h3 | h3
      · obtain rfl : m = n + 1 := by omega
        exact hp
      · exact k3 m h1 h3
/-- what is there lies above its own names: the apex, in the question's letters -/
theorem rth_apex {apex q : ByteArray} {M : List Rn} (hq : withinB q apex = true) (h : rth M apex = true) : rth M (tailB q ((labs apex).length : Nat)) = true := by
  obtain ⟨h1, h2, h3, h4⟩ := (withinB_iff q apex).1 hq
  unfold rth at h ⊢
  rw [List.any_eq_true] at h ⊢
  obtain ⟨r, hr, hr2⟩ := h
  rw [Bool.and_eq_true] at hr2
  refine ⟨r, hr, ?_⟩
  rw [Bool.and_eq_true]
  refine ⟨hr2.1, ?_⟩
  obtain ⟨g1, g2, g3, g4⟩ := (withinB_iff r.o apex).1 hr2.2
  obtain ⟨t1, t2, _⟩ := tailB_yes h1 h3
  rw [withinB_iff]
  refine ⟨g1, t1, ?_, ?_⟩
  · rw [t2, List.length_drop]; omega
  · rw [t2, List.length_drop, show (labs q).length - ((labs q).length - (labs apex).length) = (labs apex).length by omega, g4, h4]

end Go.Proofs.YthabenjghhmicaaGreat

/-
  gazetteerref3: Counts. (The verifier's own text.)
-/
namespace Go.Proofs.YthabenjghhmicaaGreat
set_option linter.unusedVariables false
set_option linter.unusedSimpArgs false
open Go.RowKit Go.Shelf Go.Maps Go.Proofs.YthabenjghhmicaaGreat.Nm Go.Proofs.YthabenjghhmicaaGreat.Zs

set_option maxRecDepth 100000 in
set_option maxHeartbeats 2000000 in
/-- gazetteerref3.Counts -/
theorem rcounts_any (r : Rn) (w : World) (hd : r.d.size ≤ 1048576) :
    Calls Tryz.prog 26 #[rcV r] w fun e w' => e = .returned (.bool (countB r)) ∧ Below w.heap.size w w' := by
  have K0 := hide' (Bk.start w r)
  obtain ⟨wa, hwa⟩ : ∃ wa, w.alloc (.cells #[.string r.o, .int .i64 r.t, .int .i64 r.c, .int .i64 r.l, .string r.d] 54) = wa := ⟨_, rfl⟩
  rw [hwa] at K0
  obtain ⟨v0, v1, v2, v3, v4⟩ := K0.out.cells
  obtain ⟨o, t, c, l, d⟩ := r
  unfold rcV countB pre50
  simp only at v0 v1 v2 v3 v4 hd hwa ⊢
  by_cases h5 : t = 50
  · subst h5
    go_enter Tryz.func26, Tryz.ntmps26
    go_wp2_with fail
    go_ret
    exact ⟨by simp, K0.out.bl⟩
  · have h5n : (t != 50) = true := by simp [h5]
    by_cases h4 : t = 46
    · subst h4
      by_cases h2 : 2 ≤ d.size
      · have i2 : (1 : Int) < (d.size : Int) := by omega
        have i3 : (0 : Int) ≤ 2 := by omega
        have i4 : (2 : Int) ≤ (d.size : Int) := by omega
        have HD : Hid (decide (2 ≤ d.size) = true) := decide_eq_true h2
        rw [HD.out]
        go_enter Tryz.func26, Tryz.ntmps26
        go_wp2_with fail
        go_ret
        exact ⟨by simp, K0.out.bl⟩
      · have i2 : ¬ (1 : Int) < (d.size : Int) := by omega
        go_enter Tryz.func26, Tryz.ntmps26
        go_wp2_with fail
        go_ret
        exact ⟨by simp [h2], K0.out.bl⟩
    · have h4n : (t == 46) = false := by simp [h4]
      go_enter Tryz.func26, Tryz.ntmps26
      go_wp2_with fail
      go_ret
      exact ⟨by simp [h5, h4], K0.out.bl⟩

end Go.Proofs.YthabenjghhmicaaGreat

/-
  Find of both sides, plainly: names, sets. (The verifier's own text.)
-/
namespace Go.Proofs.YthabenjghhmicaaGreat
set_option linter.unusedVariables false
set_option linter.unusedSimpArgs false
open Go.RowKit Go.Shelf Go.Maps Go.Proofs.YthabenjghhmicaaGreat.Nm Go.Proofs.YthabenjghhmicaaGreat.Zs

/-- the records of a zone: their owners are names of it -/
def OwnIn (apex : ByteArray) (T : List Rn) : Prop := ∀ r ∈ T, withinB r.o apex = true
theorem OwnIn.nm {apex : ByteArray} {T : List Rn} (h : OwnIn apex T) {r : Rn} (hr : r ∈ T) : isN r.o = true := ((withinB_iff r.o apex).1 (h r hr)).1
theorem st_rset {apex : ByteArray} {T : List Rn} (h : OwnIn apex T) (n : ByteArray) {t : Int} (ht : t ≠ 0) : stT T (foldB n) t = rset T n t := by
  unfold stT rset
  apply List.filter_congr
  intro r hr
  unfold mtc senS setP
  simp only
  rw [eq_dec (h.nm hr), decide_eq_false ht, Bool.false_or, Bool.and_comm]
theorem st_has {apex : ByteArray} {T : List Rn} (h : OwnIn apex T) (n : ByteArray) {t : Int} (ht : t ≠ 0) : (stT T (foldB n) t).isEmpty = !(hasB T n t) := by
  have e : (!(stT T (foldB n) t).isEmpty) = hasB T n t := by
    rw [stT_any]
    unfold hasB
    rw [Bool.eq_iff_iff, List.any_eq_true, List.any_eq_true]
    constructor
    · rintro ⟨r, hr, h2⟩
      refine ⟨r, hr, ?_⟩
      unfold mtc senS at h2
      simp only at h2
      rw [decide_eq_false ht, Bool.false_or, Bool.and_comm] at h2
      rw [eq_dec (h.nm hr)]; exact h2
    · rintro ⟨r, hr, h2⟩
      refine ⟨r, hr, ?_⟩
      unfold mtc senS
      simp only
      rw [decide_eq_false ht, Bool.false_or, Bool.and_comm]
      rw [eq_dec (h.nm hr)] at h2; exact h2
  rw [← e, Bool.not_not]
/-- what is said at a name -/
theorem say_stand {apex : ByteArray} {T : List Rn} (h : OwnIn apex T) (n : ByteArray) {t : Int} (ht : 1 ≤ t) : sayB T (foldB n) t = rstand T n t := by
  have h5 := st_rset h n (t := 5) (by omega)
  have htt := st_rset h n (t := t) (by omega)
  unfold sayB rstand
  rw [h5, htt]
  by_cases h2 : t = 255
  · subst h2
    have e : (stT T (foldB n) 0).filter countB = T.filter (stP n 255) := by
      unfold stT
      rw [List.filter_filter]
      apply List.filter_congr
      intro r hr
      unfold mtc senS stP
      simp only
      rw [eq_dec (h.nm hr)]
      by_cases h3 : r.t = 255
      · have : countB r = true := by unfold countB; rw [h3]; rfl
        rw [this]; simp [h3]
      · simp [h3, Bool.and_comm]
    have hx : ¬ ((rset T n 5).isEmpty = false ∧ (255 : Int) ≠ 5 ∧ (255 : Int) ≠ 255) := fun hc => hc.2.2 rfl
    rw [if_pos rfl, if_neg hx, e]
  · have e : T.filter (stP n t) = rset T n t := by
      unfold rset
      apply List.filter_congr
      intro r hr
      unfold stP setP
      simp [h2, Bool.and_comm]
    rw [if_neg h2, e]
    by_cases h3 : t ≠ 5 ∧ (rset T n 5).isEmpty = false
    · rw [if_pos h3, if_pos ⟨h3.2, h3.1, h2⟩]
    · have hx : ¬ ((rset T n 5).isEmpty = false ∧ t ≠ 5 ∧ t ≠ 255) := fun hc => h3 ⟨hc.2.1, hc.1⟩
      rw [if_neg h3, if_neg hx]

/-! ### the way up -/
theorem fold_put {n : ByteArray} (h : isN n = true) : foldB n = putB ((labs n).map lowB) := by rw [foldB_yes h, putB_low_labs h]
theorem fold_tail {q : ByteArray} {k : Nat} (hq : isN q = true) (hk : k ≤ (labs q).length) : foldB (tailB q (k : Int)) = putB (((labs q).map lowB).drop ((labs q).length - k)) := by
  obtain ⟨t1, t2, _⟩ := tailB_yes hq hk
  rw [fold_put t1, t2, List.map_drop]
theorem tail_within {apex q : ByteArray} {k : Nat} (hq : withinB q apex = true) (h1 : (labs apex).length ≤ k) (h2 : k ≤ (labs q).length) : withinB (tailB q (k : Int)) apex = true := by
  obtain ⟨g1, g2, g3, g4⟩ := (withinB_iff q apex).1 hq
  obtain ⟨t1, t2, _⟩ := tailB_yes g1 h2
  rw [withinB_iff]
  refine ⟨t1, g2, by rw [t2, List.length_drop]; omega, ?_⟩
  rw [t2, List.length_drop, List.drop_drop, show (labs q).length - k + ((labs q).length - ((labs q).length - k) - (labs apex).length) = (labs q).length - (labs apex).length by omega]
  exact g4
theorem ups_tails {apex q : ByteArray} (na : isN apex = true) (hq : withinB q apex = true) : ∀ d f, (labs apex).length + d ≤ (labs q).length → (foldB (tailB q (((labs apex).length + d : Nat) : Int))).size ≤ f → upsL apex.size f (foldB (tailB q (((labs apex).length + d : Nat) : Int))) = ((List.range (d + 1)).map fun i => foldB (tailB q (((labs apex).length + i : Nat) : Int))).reverse
  | 0, f, hd, hf => by
    have ia := inA_fold na (tail_within hq (Nat.le_refl _) hd)
    obtain ⟨g1, g2, g3, g4⟩ := (withinB_iff q apex).1 hq
    have t2 := (tailB_yes g1 g3).2.1
    have hs : ¬ apex.size < (foldB (tailB q (((labs apex).length + 0 : Nat) : Int))).size := by
      rcases ia.cases na with ⟨_, he⟩ | ⟨hl, _⟩
      · have : (foldB (tailB q (((labs apex).length : Nat) : Int))).size = apex.size := by rw [he, foldB_yes na, lowB_size]
        rw [Nat.add_zero]; omega
      · rw [(zisN_fold (tailB_yes g1 g3).1).2, List.length_map, t2, List.length_drop] at hl
        omega
    rw [ups_stop hs]
    simp
  | d + 1, f, hd, hf => by
    obtain ⟨g1, g2, g3, g4⟩ := (withinB_iff q apex).1 hq
    have ia := inA_fold na (tail_within (k := (labs apex).length + (d + 1)) hq (by omega) hd)
    obtain ⟨t1, t2, _⟩ := tailB_yes g1 hd
    have hz := zisN_fold t1
    have hs : apex.size < (foldB (tailB q (((labs apex).length + (d + 1) : Nat) : Int))).size := by
      rcases ia.cases na with ⟨he, _⟩ | ⟨_, hl⟩
      · rw [hz.2, List.length_map, t2, List.length_drop] at he
        omega
      · exact hl
    obtain ⟨f', rfl, hu⟩ := ups_go hs hf
    have h1 : 1 < (foldB (tailB q (((labs apex).length + (d + 1) : Nat) : Int))).size := by have := isN_pos na; omega
    have ha : abvB (foldB (tailB q (((labs apex).length + (d + 1) : Nat) : Int))) = foldB (tailB q (((labs apex).length + d : Nat) : Int)) := by
      rw [(abv_put hz.1 h1).1, hz.2, t2, fold_tail g1 (by omega), List.map_drop, List.drop_drop]
      congr 2
      omega
    have hsz := (abv_name hz.1 h1).2.2.1
    rw [ha] at hu hsz
    rw [hu, ups_tails na hq d f' (by omega) (by omega), List.range_succ (n := d + 1), List.map_append, List.reverse_append]
    rfl
theorem path_tails {apex q : ByteArray} (na : isN apex = true) (hq : withinB q apex = true) : pathL apex (foldB q) = (List.range ((labs q).length - (labs apex).length + 1)).map fun i => foldB (tailB q (((labs apex).length + i : Nat) : Int)) := by
  obtain ⟨g1, g2, g3, g4⟩ := (withinB_iff q apex).1 hq
  have hf : tailB q (((labs q).length : Nat) : Int) = q := by
    obtain ⟨_, _, t3⟩ := tailB_yes g1 (Nat.le_refl _)
    rw [t3, Nat.sub_self, List.drop_zero, putB_labs g1]
  have e : (labs apex).length + ((labs q).length - (labs apex).length) = (labs q).length := by omega
  have := ups_tails na hq ((labs q).length - (labs apex).length) (foldB q).size (by omega) (by rw [e, hf]; exact Nat.le_refl _)
  rw [e, hf] at this
  unfold pathL
  rw [this, List.reverse_reverse]
/-- a name is there for both -/
theorem th_rth {apex : ByteArray} {T : List Rn} (na : isN apex = true) (h : OwnIn apex T) {n : ByteArray} (hn : withinB n apex = true) : thB apex T (foldB n) = rth T n := by
  obtain ⟨n1, n2, n3, n4⟩ := (withinB_iff n apex).1 hn
  have key : ∀ r ∈ T, (foldB n ∈ pathL apex (foldB r.o) ↔ withinB r.o n = true) := by
    intro r hr
    obtain ⟨g1, g2, g3, g4⟩ := (withinB_iff r.o apex).1 (h r hr)
    rw [path_tails na (h r hr), List.mem_map]
    constructor
    · rintro ⟨i, hi, he⟩
      rw [List.mem_range] at hi
      have t1 := (tailB_yes g1 (k := (labs apex).length + i) (by omega)).1
      exact within_some (k := (((labs apex).length + i : Nat) : Int)) (by rw [eq_dec t1]; exact decide_eq_true he)
    · intro hw
      obtain ⟨_, _, w3, w4⟩ := (withinB_iff r.o n).1 hw
      refine ⟨(labs n).length - (labs apex).length, by rw [List.mem_range]; omega, ?_⟩
      rw [show (labs apex).length + ((labs n).length - (labs apex).length) = (labs n).length by omega, fold_tail g1 w3, ← List.map_drop, w4, fold_put n1]
  unfold thB namK rth
  rw [List.take_length, Bool.eq_iff_iff, List.any_eq_true, List.any_eq_true]
  constructor
  · rintro ⟨y, hy, he⟩
    have he2 := of_decide_eq_true he
    subst he2
    obtain ⟨r, hr, h2⟩ := List.mem_flatMap.1 hy
    refine ⟨r, hr, ?_⟩
    cases hc : countB r with
    | true => rw [hc] at h2; simp only [if_true] at h2; rw [(key r hr).1 h2]; rfl
    | false => rw [hc] at h2; simp at h2
  · rintro ⟨r, hr, h2⟩
    rw [Bool.and_eq_true] at h2
    exact ⟨foldB n, List.mem_flatMap.2 ⟨r, hr, by rw [if_pos h2.1]; exact (key r hr).2 h2.2⟩, decide_eq_true rfl⟩
end Go.Proofs.YthabenjghhmicaaGreat

/-
  Find of both sides, plainly: they say the same. (The verifier's own text.)
-/
namespace Go.Proofs.YthabenjghhmicaaGreat
set_option linter.unusedVariables false
set_option linter.unusedSimpArgs false
open Go.RowKit Go.Shelf Go.Maps Go.Proofs.YthabenjghhmicaaGreat.Nm Go.Proofs.YthabenjghhmicaaGreat.Zs

theorem fold_sizeZ {n : ByteArray} (h : isN n = true) : (foldB n).size = n.size := by rw [foldB_yes h, lowB_size]
/-- the letters of an end -/
theorem let_tail {q : ByteArray} {k : Nat} (hq : isN q = true) (hk : k ≤ (labs q).length) : letB q (foldB (tailB q (k : Int))) = tailB q (k : Int) := by
  obtain ⟨t1, t2, t3⟩ := tailB_yes hq hk
  unfold letB
  rw [fold_sizeZ t1, t3]
  have e : q = chunks ((labs q).take ((labs q).length - k)) ++ putB ((labs q).drop ((labs q).length - k)) := by
    rw [← putB_append, List.take_append_drop, putB_labs hq]
  obtain ⟨A, hA⟩ : ∃ A, chunks ((labs q).take ((labs q).length - k)) = A := ⟨_, rfl⟩
  obtain ⟨B, hB⟩ : ∃ B, putB ((labs q).drop ((labs q).length - k)) = B := ⟨_, rfl⟩
  rw [hA, hB] at e
  rw [hB]
  clear hA hB t1 t2 t3
  subst e
  rw [ByteArray.size_append]
  exact ByteArray.extract_append_eq_right (by omega) rfl
theorem fold_tail_eq {q : ByteArray} {k : Nat} (hq : isN q = true) (hk : k ≤ (labs q).length) : foldB (tailB q (k : Int)) = foldB q ↔ k = (labs q).length := by
  obtain ⟨t1, t2, t3⟩ := tailB_yes hq hk
  constructor
  · intro h
    have h2 : (labs (foldB (tailB q (k : Int)))).length = (labs (foldB q)).length := by rw [h]
    rw [(zisN_fold t1).2, (zisN_fold hq).2, List.length_map, List.length_map, t2, List.length_drop] at h2
    omega
  · intro h
    subst h
    rw [t3, Nat.sub_self, List.drop_zero, putB_labs hq]
theorem lvK_eq {apex : ByteArray} {T : List Rn} (h : OwnIn apex T) {q : ByteArray} (t : Int) {k : Nat} (hq : isN q = true) (hk : k ≤ (labs q).length) : lvK T (foldB q) t (foldB (tailB q (k : Int))) = rlvK T q t k := by
  have e := fold_tail_eq hq hk
  unfold lvK rlvK
  rw [st_has h _ (by omega), st_has h _ (by omega)]
  by_cases h1 : k = (labs q).length
  · have h2 := e.2 h1
    simp [h1, h2]
    simp [← h1, h2]
  · have h2 : ¬ foldB (tailB q (k : Int)) = foldB q := fun hc => h1 (e.1 hc)
    have h3 : k < (labs q).length := by omega
    simp [h1, h2, h3]
/-- where the zone is left -/
theorem lv_both {apex : ByteArray} {T : List Rn} (na : isN apex = true) (h : OwnIn apex T) {q : ByteArray} (t : Int) (hq : withinB q apex = true) :
    (∃ k : Nat, k ≤ (labs q).length ∧ rlvK T q t k ≠ 0 ∧ rlvB apex T q t = (rlvK T q t k, tailB q (k : Int)) ∧ lvB apex T (foldB q) t = (rlvK T q t k, foldB (tailB q (k : Int)))) ∨ (rlvB apex T q t = (0, ⟨#[]⟩) ∧ lvB apex T (foldB q) t = (0, ⟨#[]⟩)) := by
  obtain ⟨g1, g2, g3, g4⟩ := (withinB_iff q apex).1 hq
  obtain ⟨P, hP⟩ : ∃ P, (pathL apex (foldB q)).drop 1 = P := ⟨_, rfl⟩
  have hP2 : P = (List.range ((labs q).length - (labs apex).length)).map fun i => foldB (tailB q (((labs apex).length + 1 + i : Nat) : Int)) := by
    rw [← hP, path_tails na hq, List.range_succ_eq_map, List.map_cons, List.drop_one, List.tail_cons, List.map_map]
    apply List.map_congr_left
    intro i _
    simp only [Function.comp]
    rw [show (labs apex).length + i.succ = (labs apex).length + 1 + i by omega]
  have hl : P.length = (labs q).length - (labs apex).length := by rw [hP2, List.length_map, List.length_range]
  have hg : ∀ i, (hi : i < P.length) → lvK T (foldB q) t P[i] = rlvK T q t ((labs apex).length + 1 + i) ∧ P[i] = foldB (tailB q (((labs apex).length + 1 + i : Nat) : Int)) := by
    intro i hi
    have e : P[i] = foldB (tailB q (((labs apex).length + 1 + i : Nat) : Int)) := by
      simp only [hP2, List.getElem_map, List.getElem_range]
    refine ⟨?_, e⟩
    rw [e]
    exact lvK_eq h t g1 (by omega)
  rcases Classical.em (∃ i, i < P.length ∧ rlvK T q t ((labs apex).length + 1 + i) ≠ 0) with hex | hno
  · obtain ⟨i0, hi0, hz0⟩ := hex
    have hfirst : ∃ i, i < P.length ∧ rlvK T q t ((labs apex).length + 1 + i) ≠ 0 ∧ ∀ j, j < i → rlvK T q t ((labs apex).length + 1 + j) = 0 := by
      induction i0 using Nat.strongRecOn with
      | _ i ih =>
        rcases Classical.em (∃ j, j < i ∧ rlvK T q t ((labs apex).length + 1 + j) ≠ 0) with ⟨j, hj, hj2⟩ | hn
        · exact ih j hj (by omega) hj2
        · exact ⟨i, hi0, hz0, fun j hj => Classical.byContradiction fun hc => hn ⟨j, hj, hc⟩⟩
    obtain ⟨i, hi, hz, hb⟩ := hfirst
    left
    have r1 := rlv_some (apex := apex) (by omega) hz hb
    have r2 := lv_some hP hi (by rw [(hg i hi).1]; exact hz) (fun j hj hji => by rw [(hg j hj).1]; exact hb j hji)
    rw [(hg i hi).1, (hg i hi).2] at r2
    exact ⟨(labs apex).length + 1 + i, by omega, hz, r1, r2⟩
  · right
    have hz : ∀ i, i < P.length → rlvK T q t ((labs apex).length + 1 + i) = 0 := fun i hi => Classical.byContradiction fun hc => hno ⟨i, hi, hc⟩
    exact ⟨rlv_none (fun j hj => hz j (by omega)), lv_none hP (fun i hi => by rw [(hg i hi).1]; exact hz i hi)⟩
/-! ### stars -/
theorem star_isZ {s : ByteArray} (h : isN s = true) (hz : s.size ≤ 253) : isN (starB s) = true ∧ labs (starB s) = ⟨#[42]⟩ :: labs s := by
  have hok : OkL (⟨#[42]⟩ :: labs s) := by
    intro x hx
    rcases List.mem_cons.1 hx with rfl | hx
    · decide
    · exact okL_labs s x hx
  refine ⟨?_, by rw [starB_yes h hz, ← starB_put h, labs_putB hok]⟩
  rw [starB_yes h hz, ← starB_put h, isN_putB hok, starB_put h, decide_eq_true_eq, ByteArray.size_append]
  show 2 + s.size ≤ 255
  omega
theorem low_star : lowB ⟨#[1, 42]⟩ = ⟨#[1, 42]⟩ := by decide +kernel
theorem star_fold {s : ByteArray} (h : isN s = true) : starB (foldB s) = foldB (starB s) := by
  have hf := zisN_fold h
  by_cases hz : s.size ≤ 253
  · rw [starB_yes hf.1 (by rw [fold_sizeZ h]; exact hz), foldB_yes (star_isZ h hz).1, starB_yes h hz, lowB_append, foldB_yes h, low_star]
  · have e : starB s = ByteArray.empty := starB_no (fun hc => hz hc.2)
    rw [starB_no (fun hc => hz (by rw [← fold_sizeZ h]; exact hc.2)), e, foldB_no (by decide)]
theorem star_there {apex : ByteArray} {T : List Rn} (na : isN apex = true) (h : OwnIn apex T) {s : ByteArray} (hs : withinB s apex = true) : thB apex T (starB (foldB s)) = rth T (starB s) := by
  obtain ⟨g1, g2, g3, g4⟩ := (withinB_iff s apex).1 hs
  rw [star_fold g1]
  by_cases hz : s.size ≤ 253
  · obtain ⟨s1, s2⟩ := star_isZ g1 hz
    refine th_rth na h ?_
    rw [withinB_iff]
    refine ⟨s1, na, by rw [s2, List.length_cons]; omega, ?_⟩
    rw [s2, List.length_cons, show (labs s).length + 1 - (labs apex).length = ((labs s).length - (labs apex).length) + 1 by omega, List.drop_succ_cons]
    exact g4
  · have e : starB s = ByteArray.empty := starB_no (fun hc => hz hc.2)
    have r1 : rth T ByteArray.empty = false := by
      unfold rth
      rw [List.any_eq_false]
      intro r hr hc
      rw [Bool.and_eq_true] at hc
      have := ((withinB_iff r.o ByteArray.empty).1 hc.2).2.1
      exact absurd this (by decide)
    rw [e, r1, foldB_no (by decide)]
    unfold thB namK
    rw [List.take_length, List.any_eq_false]
    intro y hy hc
    have hc2 := of_decide_eq_true hc
    subst hc2
    obtain ⟨r, hr, h2⟩ := List.mem_flatMap.1 hy
    cases hcb : countB r with
    | true =>
      rw [hcb] at h2
      simp only [if_true] at h2
      unfold pathL at h2
      rw [List.mem_reverse] at h2
      have := ((ups_in na _ _ (inA_fold na (h r hr)) (Nat.le_refl _)).1 _ h2).nm
      exact absurd this (by decide)
    | false => rw [hcb] at h2; simp at h2
/-- the longest name above that is there -/
theorem enc_both {apex : ByteArray} {T : List Rn} (na : isN apex = true) (h : OwnIn apex T) {q : ByteArray} (hq : withinB q apex = true) (hap : rth T apex = true) :
    ∃ k : Nat, (labs apex).length ≤ k ∧ k ≤ (labs q).length ∧ renc T q = tailB q (k : Int) ∧ encB apex T (foldB q) = foldB (tailB q (k : Int)) := by
  obtain ⟨g1, g2, g3, g4⟩ := (withinB_iff q apex).1 hq
  have hr := rth_apex hq hap
  obtain ⟨ke, k1, k2, k3⟩ := last_of (fun k => rth T (tailB q (k : Int))) (labs apex).length hr (labs q).length g3
  have hk : (labs apex).length ≤ ke := by
    rcases Nat.lt_or_ge ke (labs apex).length with hc | hc
    · have := k3 _ hc g3
      rw [hr] at this; cases this
    · exact hc
  refine ⟨ke, hk, k1, renc_at k1 k2 k3, ?_⟩
  have hp := path_tails na hq
  unfold pathL at hp
  have hu : upsL apex.size (foldB q).size (foldB q) = ((List.range ((labs q).length - (labs apex).length + 1)).map fun i => foldB (tailB q (((labs apex).length + i : Nat) : Int))).reverse := by rw [← hp, List.reverse_reverse]
  unfold encB
  rw [hu]
  have hf : (((List.range ((labs q).length - (labs apex).length + 1)).map fun i => foldB (tailB q (((labs apex).length + i : Nat) : Int))).reverse).find? (thB apex T) = some (foldB (tailB q (ke : Int))) := by
    rw [List.find?_eq_some_iff_getElem]
    refine ⟨by rw [th_rth na h (tail_within hq hk k1)]; exact k2, (labs q).length - ke, by rw [List.length_reverse, List.length_map, List.length_range]; omega, ?_, ?_⟩
    · simp only [List.getElem_reverse, List.getElem_map, List.getElem_range, List.length_map, List.length_range]
      congr 3
      omega
    · intro j hj
      simp only [List.getElem_reverse, List.getElem_map, List.getElem_range, List.length_map, List.length_range]
      rw [th_rth na h (tail_within hq (by omega) (by omega)), k3 _ (by omega) (by omega)]
      rfl
  rw [hf]
  rfl
/-- both say the same -/
theorem find_both {apex : ByteArray} {T : List Rn} (na : isN apex = true) (h : OwnIn apex T) (hap : rth T apex = true) (q : ByteArray) (t : Int) : findB apex T q t = rfind apex T q t := by
  by_cases hin : withinB q apex = true ∧ 1 ≤ t ∧ t ≤ 65535
  · obtain ⟨hq, ht1, ht2⟩ := hin
    obtain ⟨g1, g2, g3, g4⟩ := (withinB_iff q apex).1 hq
    rw [rfind_in hq ht1 ht2]
    unfold findB
    rw [if_pos ⟨hq, ht1, ht2⟩]
    rcases lv_both na h t hq with ⟨k, hk, hz, r1, r2⟩ | ⟨r1, r2⟩
    · rw [r1, r2]
      simp only
      rw [if_pos hz, if_pos hz, let_tail g1 hk]
      rw [st_rset h _ (by split <;> omega)]
    · rw [r1, r2]
      simp only
      have hz0 : ¬ ((0 : Int) ≠ 0) := by simp
      rw [if_neg hz0, if_neg hz0, th_rth na h hq, say_stand h q ht1]
      cases hth : rth T q with
      | true => rfl
      | false =>
        obtain ⟨k, hk0, hk, e1, e2⟩ := enc_both na h hq hap
        have hw := tail_within hq hk0 hk
        have hn := ((withinB_iff _ apex).1 hw).1
        simp only [Bool.false_eq_true, if_false]
        unfold absB
        rw [e1, e2, star_there na h hw, let_tail g1 hk, star_fold hn, say_stand h _ ht1]
  · unfold findB rfind
    rw [if_neg hin, if_neg hin]
end Go.Proofs.YthabenjghhmicaaGreat

/-
  What a zone in memory says of its names. (The verifier's own text.)
-/
namespace Go.Proofs.YthabenjghhmicaaGreat
set_option linter.unusedVariables false
set_option linter.unusedSimpArgs false
open Go.RowKit Go.Shelf Go.Maps Go.Proofs.YthabenjghhmicaaGreat.Nm Go.Proofs.YthabenjghhmicaaGreat.Zs

section
variable {n N : Nat} {wr w2 : World} {apex : ByteArray} {L : List Rn} {ord : List Nat} {Z RW NM C m cnt : Nat} {p : Option Addr} {cp : Nat} {f : ByteArray → Option Nat}
theorem Zon.ownIn (h : Zon n wr apex L ord Z RW NM C m cnt p cp f) : OwnIn apex (ord.map (rAt L)) := fun r hr => h.laid.wi r (h.laid.perm.mem_iff.1 hr)
theorem Zon.rthApex (h : Zon n wr apex L ord Z RW NM C m cnt p cp f) : rth (ord.map (rAt L)) apex = true := by
  have h6 : (if hasB L apex 6 = true then (-2 : Int) else -1) = -2 := h.rule (i := 2) (by show 2 < 8; omega)
  have hh : hasB L apex 6 = true := by
    cases hb : hasB L apex 6 with
    | true => rfl
    | false => rw [hb] at h6; simp at h6
  unfold hasB at hh
  rw [List.any_eq_true] at hh
  obtain ⟨r, hr, hr2⟩ := hh
  rw [Bool.and_eq_true] at hr2
  unfold rth
  rw [List.any_eq_true]
  refine ⟨r, h.laid.perm.mem_iff.2 hr, ?_⟩
  have ht := of_decide_eq_true hr2.1
  rw [h.laid.wi r hr, show countB r = true by simp [countB, ht]]
  rfl
end
theorem find_len (apex : ByteArray) (T : List Rn) (q : ByteArray) (t : Int) : (findB apex T q t).r.length ≤ T.length := by
  unfold findB
  split
  · split
    · exact st_len _ _ _
    · split
      · exact say_len _ _ _
      · unfold absB
        split
        · simp only [List.length_map]
          exact say_len _ _ _
        · exact Nat.zero_le _
  · exact Nat.zero_le _
end Go.Proofs.YthabenjghhmicaaGreat
