import Derived.Test.YtiaccimdjfdkgaaGreatDoorTn1G
namespace Go.Proofs.YtiaccimdjfdkgaaGreatDoor
set_option linter.unusedVariables false
open Go.RowKit Go.Shelf Go.Proofs.YtiaccimdjfdkgaaGreatDoor.Nm

/-- a type's word, or nothing -/
def mnB (t : Int) : ByteArray := (twFind t).getD ⟨#[]⟩
end Go.Proofs.YtiaccimdjfdkgaaGreatDoor

namespace Go.Proofs.YtiaccimdjfdkgaaGreatDoor
set_option linter.unusedVariables false
open Go.RowKit Go.Shelf Go.Proofs.YtiaccimdjfdkgaaGreatDoor.Nm

theorem decDigits_more {u : Nat} (h : ¬ u < 10) : Lib.decDigits u = Lib.decDigits (u / 10) ++ [UInt8.ofNat (48 + u % 10)] := by rw [Lib.decDigits, dif_neg h]
theorem one_digit (W : World) (n : Nat) (hn : n < 256) : (convert 56 9 (.slice (some ⟨W.heap.size, 0, none⟩) 1 1)).run Tryz.prog (W.alloc (.cells #[.int .u8 (n : Int)] 5)) = .ok (.string ⟨#[UInt8.ofNat n]⟩) (W.alloc (.cells #[.int .u8 (n : Int)] 5)) := by
  have h := str_owns (W := W.alloc (.cells #[.int .u8 (n : Int)] 5)) (b := W.heap.size) (c := 1) (p := some ⟨W.heap.size, 0, none⟩) (xs := [n])
    (World.ownsRow_lit W #[.int .u8 (n : Int)] 1 (Nat.le_refl _) (by unfold maxLen; omega) rfl) (fun x hx => by simp at hx; omega)
  exact h
theorem one_digit_below (W W' : World) (n : Nat) (hn : n < 256) (hb : Below (W.alloc (.cells #[.int .u8 (n : Int)] 5)).heap.size (W.alloc (.cells #[.int .u8 (n : Int)] 5)) W') : (convert 56 9 (.slice (some ⟨W.heap.size, 0, none⟩) 1 1)).run Tryz.prog W' = .ok (.string ⟨#[UInt8.ofNat n]⟩) W' := by
  have h := str_owns (W := W') (b := W.heap.size) (c := 1) (p := some ⟨W.heap.size, 0, none⟩) (xs := [n])
    (ownsRow_below (World.ownsRow_lit W #[.int .u8 (n : Int)] 1 (Nat.le_refl _) (by unfold maxLen; omega) rfl) hb) (fun x hx => by simp at hx; omega)
  exact h
end Go.Proofs.YtiaccimdjfdkgaaGreatDoor

namespace Go.Proofs.YtiaccimdjfdkgaaGreatDoor
set_option linter.unusedVariables false
open Go.RowKit Go.Shelf Go.Proofs.YtiaccimdjfdkgaaGreatDoor.Nm

theorem tw_full : ∀ r ∈ tw, 1 ≤ r.2.size := by decide
theorem twFind_some {t : Int} {s : ByteArray} (h : twFind t = some s) : ∃ r ∈ tw, (r.1 : Int) = t ∧ r.2 = s := by
  unfold twFind at h
  obtain ⟨r, hr, rfl⟩ := Option.map_eq_some_iff.1 h
  exact ⟨r, List.mem_of_find?_eq_some hr, by simpa using List.find?_some hr, rfl⟩

end Go.Proofs.YtiaccimdjfdkgaaGreatDoor

namespace Go.Proofs.YtiaccimdjfdkgaaGreatDoor
set_option linter.unusedVariables false
open Go.RowKit Go.Shelf Go.Proofs.YtiaccimdjfdkgaaGreatDoor.Nm

/-- the number that the first k digits tell -/
def vNu (t : ByteArray) : Nat → Nat
  | 0 => 0
  | k + 1 => vNu t k * 10 + (bt t k - 48)
/-- digits from k on -/
def allF (t : ByteArray) : Nat → Nat → Bool
  | _, 0 => true
  | k, r + 1 => isD (bt t k) && allF t (k + 1) r
theorem vNu_le (t : ByteArray) : ∀ k, vNu t k + 29 ≤ 29 * 10 ^ k
  | 0 => by simp [vNu]
  | k + 1 => by
    have := vNu_le t k
    have := bt_lt t k
    unfold vNu; rw [Nat.pow_succ]; omega
theorem vNu_mono (t : ByteArray) (k : Nat) : ∀ r, vNu t k ≤ vNu t (k + r)
  | 0 => Nat.le_refl _
  | r + 1 => by
    have := vNu_mono t k r
    show _ ≤ vNu t (k + r) * 10 + (bt t (k + r) - 48)
    omega
def okU : Lib.NumEnd Nat → Option Nat
  | .ok u => some u
  | _ => none
theorem parse_from (t : ByteArray) (M : Nat) (hM : M ≤ 1000000000) : ∀ (r k : Nat), k + r = t.size → vNu t k ≤ M →
    okU (Lib.parseUintM M (vNu t k) (t.data.toList.drop k)) = if allF t k r = true ∧ vNu t (k + r) ≤ M then some (vNu t (k + r)) else none
  | 0, k, hk, hv => by
    rw [List.drop_eq_nil_of_le (by have : t.data.toList.length = t.size := by simp
                                   omega)]
    unfold Lib.parseUintM
    rw [if_pos ⟨rfl, hv⟩]; rfl
  | r + 1, k, hk, hv => by
    have hlen : t.data.toList.length = t.size := by simp
    have hkl : k < t.data.toList.length := by omega
    have hb := bt_list t k (by omega)
    rw [List.drop_eq_getElem_cons hkl]
    unfold Lib.parseUintM
    rw [hb]
    by_cases hd : 48 ≤ bt t k ∧ bt t k ≤ 57
    · have hD : isD (bt t k) = true := by unfold isD; exact decide_eq_true hd
      have hF : allF t k (r + 1) = allF t (k + 1) r := by show (isD (bt t k) && allF t (k + 1) r) = _; rw [hD]; rfl
      have hs : vNu t k * 10 + (bt t k - 48) = vNu t (k + 1) := rfl
      rw [if_pos hd, if_neg (by omega), hF, hs, show k + (r + 1) = (k + 1) + r by omega]
      by_cases hr : M < vNu t (k + 1)
      · rw [if_pos hr, if_neg]
        · rfl
        · intro h
          have := vNu_mono t (k + 1) r
          omega
      · rw [if_neg hr]
        exact parse_from t M hM r (k + 1) (by omega) (by omega)
    · have hD : isD (bt t k) = false := by unfold isD; exact decide_eq_false hd
      have hF : allF t k (r + 1) = false := by show (isD (bt t k) && allF t (k + 1) r) = _; rw [hD]; rfl
      rw [if_neg hd, if_neg (by rw [hF]; simp)]; rfl
theorem numR_is {t : ByteArray} : numR 16 5 t = if 1 ≤ t.size ∧ t.size ≤ 5 ∧ allF t 0 t.size = true ∧ vNu t t.size ≤ 65535 then some (vNu t t.size) else none := by
  unfold numR
  by_cases h5 : 5 < t.size
  · rw [if_pos h5, if_neg (by omega)]
  · rw [if_neg h5]
    have hlen : t.data.toList.length = t.size := by simp
    by_cases h0 : t.size = 0
    · have : t.data.toList = [] := List.length_eq_zero_iff.1 (by omega)
      rw [this, if_neg (by omega)]; rfl
    · have hne : t.data.toList ≠ [] := fun e => by rw [e] at hlen; simp at hlen; omega
      have := parse_from t 65535 (by omega) t.size 0 (by omega) (by show (0 : Nat) ≤ _; omega)
      rw [List.drop_zero, Nat.zero_add] at this
      have e : okU (Lib.parseUintB 16 t.data.toList) = okU (Lib.parseUintM 65535 (vNu t 0) t.data.toList) := by
        unfold Lib.parseUintB
        rw [if_neg hne]
        rfl
      have e2 : (match Lib.parseUintB 16 t.data.toList with | .ok u => some u | _ => none) = okU (Lib.parseUintB 16 t.data.toList) := by cases Lib.parseUintB 16 t.data.toList <;> rfl
      refine Eq.trans ?_ (e.trans this |>.trans ?_)
      · cases Lib.parseUintB 16 t.data.toList <;> rfl
      by_cases hc : allF t 0 t.size = true ∧ vNu t t.size ≤ 65535
      · rw [if_pos hc, if_pos ⟨by omega, by omega, hc.1, hc.2⟩]
      · rw [if_neg hc, if_neg (fun h => hc ⟨h.2.2.1, h.2.2.2⟩)]
/-- as the reference tells it -/
def numI : Option Nat → Int
  | some n => n
  | none => -1

end Go.Proofs.YtiaccimdjfdkgaaGreatDoor

namespace Go.Proofs.YtiaccimdjfdkgaaGreatDoor
set_option linter.unusedVariables false
open Go.RowKit Go.Shelf Go.Proofs.YtiaccimdjfdkgaaGreatDoor.Nm

/-- the row whose word is the text -/
def twWord (low : ByteArray) : Option (Nat × ByteArray) := tw.find? fun r => decide (lowB r.2 = low)
/-- the type that a text names -/
def typeOfB (low : ByteArray) : Nat := match twWord low with
  | some r => r.1
  | none => if 4 ≤ low.size ∧ low.extract 0 4 = ⟨#[116, 121, 112, 101]⟩ then (numR 16 5 (low.extract 4 low.size)).getD 0 else 0
theorem twWord_at {low : ByteArray} {i : Nat} (h : i < tw.length) (he : lowB tw[i].2 = low) (hn : ∀ j, (hj : j < tw.length) → j < i → lowB tw[j].2 ≠ low) : twWord low = some tw[i] := by
  unfold twWord
  rw [List.find?_eq_some_iff_getElem]
  exact ⟨by simpa using he, i, h, rfl, fun j hj => by simpa using hn j (by omega) hj⟩
theorem twWord_none {low : ByteArray} (hn : ∀ r ∈ tw, lowB r.2 ≠ low) : twWord low = none := List.find?_eq_none.2 (fun r hr => by simpa using hn r hr)
theorem typeOf_at {low : ByteArray} {r : Nat × ByteArray} (h : twWord low = some r) : typeOfB low = r.1 := by unfold typeOfB; rw [h]
theorem typeOf_yes {low : ByteArray} (h : twWord low = none) (h4 : 4 ≤ low.size) (hp : low.extract 0 4 = ⟨#[116, 121, 112, 101]⟩) : typeOfB low = (numR 16 5 (low.extract 4 low.size)).getD 0 := by unfold typeOfB; rw [h]; show (if _ then _ else _) = _; rw [if_pos ⟨h4, hp⟩]
theorem typeOf_no {low : ByteArray} (h : twWord low = none) (hp : ¬ (4 ≤ low.size ∧ low.extract 0 4 = ⟨#[116, 121, 112, 101]⟩)) : typeOfB low = 0 := by unfold typeOfB; rw [h]; show (if _ then _ else _) = _; rw [if_neg hp]
theorem low_type : lowB ⟨#[84, 89, 80, 69]⟩ = ⟨#[116, 121, 112, 101]⟩ := by decide +kernel

/-- strings.CutPrefix at the word that stands ahead of a number -/
theorem hasPrefixT_any (s p : ByteArray) (w : World) (hs : s.size ≤ 1048576) (hp : p.size ≤ 1048576) :
    Calls Tryz.prog 87 #[.string s, .string p] w fun e w' => e = .returned (.bool (decide (p.size ≤ s.size ∧ s.extract 0 p.size = p))) ∧ w' = w := by
  by_cases h : p.size ≤ s.size
  · have hq := toList_bt (s.extract 0 p.size) p
    by_cases h2 : s.extract 0 p.size = p
    · have HE : Hid (decide (p.size ≤ s.size ∧ s.extract 0 p.size = p) = true) := decide_eq_true ⟨h, h2⟩
      rw [decide_eq_true h2] at hq
      clear h2
      go_enter Tryz.func87, Tryz.ntmps87
      go_wp2
      go_ret
      exact ⟨by rw [HE.out]; rfl, rfl⟩
    · have HE : Hid (decide (p.size ≤ s.size ∧ s.extract 0 p.size = p) = false) := decide_eq_false (fun h => h2 h.2)
      rw [decide_eq_false h2] at hq
      clear h2
      go_enter Tryz.func87, Tryz.ntmps87
      go_wp2
      go_ret
      exact ⟨by rw [HE.out]; rfl, rfl⟩
  · have HE : Hid (decide (p.size ≤ s.size ∧ s.extract 0 p.size = p) = false) := decide_eq_false (fun h' => h h'.1)
    go_enter Tryz.func87, Tryz.ntmps87
    go_wp2
    go_ret
    exact ⟨by rw [HE.out]; rfl, rfl⟩
theorem cutPrefix_any (s p : ByteArray) (w : World) (hs : s.size ≤ 1048576) (hp : p.size ≤ 1048576) :
    Calls Tryz.prog 108 #[.string s, .string p] w fun e w' => e = .returned (.tuple #[.string (if p.size ≤ s.size ∧ s.extract 0 p.size = p then s.extract p.size s.size else s), .bool (decide (p.size ≤ s.size ∧ s.extract 0 p.size = p))]) ∧ w' = w := by
  have HH := hide' (fun w => hasPrefixT_any s p w hs hp)
  have key : Calls Tryz.prog 130 #[.string s, .string p] w fun e w' => e = .returned (.tuple #[.string (if p.size ≤ s.size ∧ s.extract 0 p.size = p then s.extract p.size s.size else s), .bool (decide (p.size ≤ s.size ∧ s.extract 0 p.size = p))]) ∧ w' = w := by
    by_cases h : p.size ≤ s.size ∧ s.extract 0 p.size = p
    · rw [decide_eq_true h] at HH
      rw [if_pos h, decide_eq_true h]
      have h1 := h.1
      clear h
      go_enter Tryz.func130, Tryz.ntmps130
      go_wp2_with (go_at_call 87; refine (HH.out _).mono ?_; rintro e w2 ⟨rfl, rfl⟩)
      go_ret2
      exact ⟨rfl, rfl⟩
    · rw [decide_eq_false h] at HH
      rw [if_neg h, decide_eq_false h]
      clear h
      go_enter Tryz.func130, Tryz.ntmps130
      go_wp2_with (go_at_call 87; refine (HH.out _).mono ?_; rintro e w2 ⟨rfl, rfl⟩)
      go_ret2
      exact ⟨rfl, rfl⟩
  have HK := hide' key
  generalize (if p.size ≤ s.size ∧ s.extract 0 p.size = p then s.extract p.size s.size else s) = X at *
  generalize (decide (p.size ≤ s.size ∧ s.extract 0 p.size = p)) = Y at *
  clear key HH
  go_enter Tryz.func108, Tryz.ntmps108
  go_wp2_with (go_at_call 130; refine HK.out.mono ?_; rintro e w2 ⟨rfl, rfl⟩)
  go_ret2
  exact ⟨rfl, rfl⟩

set_option maxRecDepth 100000 in
set_option maxHeartbeats 1000000 in
/-- data.TypeOf -/
theorem typeOf_any (s : ByteArray) (w : World) (hs : s.size ≤ 1048576) (hG : GW w) :
    Calls Tryz.prog 84 #[.string s] w fun e w' => e = .returned (.int .i64 (typeOfB (lowB s) : Nat)) ∧ Below w.heap.size w w' := by
  have HS := hide' (fun w => small_any s w hs)
  have hlz : (lowB s).size ≤ 1048576 := by rw [lowB_size]; exact hs
  have HSW : Hid (∀ r ∈ tw, ∀ w : World, Calls Tryz.prog 60 #[.string r.2] w fun e w' => e = .returned (.string (lowB r.2)) ∧ Below w.heap.size w w') := fun r hr w => small_any r.2 w (by have := (tw_small r hr).2.2; omega)
  have HST : Hid (∀ w : World, Calls Tryz.prog 60 #[.string ⟨#[84, 89, 80, 69]⟩] w fun e w' => e = .returned (.string ⟨#[116, 121, 112, 101]⟩) ∧ Below w.heap.size w w') := fun w => by
    have := small_any ⟨#[84, 89, 80, 69]⟩ w (by decide)
    rwa [low_type] at this
  generalize lowB s = low at *
  have hsz : (Tryz.prog.info? 102).map (·.size) = some twV.toArray.size := by kernel_rfl
  go_enter Tryz.func84, Tryz.ntmps84
  go_wp2_with (first
    | (go_at_call 60; refine (HS.out _).mono ?_; rintro e w1 ⟨rfl, hB1⟩; have hG1 := hG.below hB1; obtain ⟨tT, fT, hTW⟩ := hG1.words; have HTW := hide' hTW; clear hTW)
    | (refine wpList_load_row rfl 102 _ rfl 0 rfl tT twV.toArray fT _ HTW.out Tryz.underlying102 rfl hsz ?_))
  go_loopw [13] (fun iv wr => ∃ i : Nat, iv = .int .i64 i ∧ i ≤ 23 ∧ Hid (∀ j, (hj : j < tw.length) → j < i → lowB tw[j].2 ≠ low) ∧ Below w1.heap.size w1 wr) (fun iv _ => 23 - (intOf iv).toNat)
  case atStart => exact ⟨0, rfl, by omega, fun j hj h => absurd h (Nat.not_lt_zero _), Below.refl _ _⟩
  case round =>
    obtain ⟨i, rfl, hi, HJ, hBr⟩ := hrel
    by_cases hlt : i < 23
    · have hidx := tw_index i hlt
      have hil : i < tw.length := by rw [tw_len]; exact hlt
      have HSR := hide' (HSW.out tw[i] (List.getElem_mem hil))
      have hq := toList_bt (lowB tw[i].2) low
      by_cases he : lowB tw[i].2 = low
      · have HE : Hid (typeOfB low = tw[i].1) := typeOf_at (twWord_at hil he HJ.out)
        rw [decide_eq_true he] at hq
        clear he HJ
        generalize hX : lowB tw[i].2 = X at *
        clear hX
        generalize tw[i] = r at *
        go_wp2_with (go_at_call 60; refine (HSR.out _).mono ?_; rintro e w3 ⟨rfl, hB3⟩; have hcb : w3.cell? ⟨wr.heap.size, 0, none⟩ = some (.int .i64 (r.1 : Int)) := (hB3.cell (by simp)).trans (by simp))
        go_ret
        exact ⟨by rw [HE.out]; rfl, bstep hB1 (bstep (hBr.alloc hBr.size _) hB3 (by have := hBr.size; simp; omega)) hB1.size⟩
      · have HJ2 : Hid (∀ j, (hj : j < tw.length) → j < i + 1 → lowB tw[j].2 ≠ low) := fun j hj h => by
          by_cases e : j = i
          · subst e; exact he
          · exact HJ.out j hj (by omega)
        rw [decide_eq_false he] at hq
        clear he HJ
        generalize hX : lowB tw[i].2 = X at *
        clear hX
        generalize tw[i] = r at *
        go_wp2_with (go_at_call 60; refine (HSR.out _).mono ?_; rintro e w3 ⟨rfl, hB3⟩)
        exact ⟨⟨i + 1, by go_num, hlt, HJ2, bstep (hBr.alloc hBr.size _) hB3 (by have := hBr.size; simp; omega)⟩, by simp [intOf]; omega⟩
    · have hnf : twWord low = none := twWord_none (fun r hr => by
        obtain ⟨j, hj, rfl⟩ := List.mem_iff_getElem.1 hr
        have := tw_len
        exact HJ.out j hj (by omega))
      have HCP := hide' (fun w => cutPrefix_any low ⟨#[116, 121, 112, 101]⟩ w hlz (by decide))
      have hBwr : Below w.heap.size w wr := bstep hB1 hBr hB1.size
      have HGR := hide' (hG1.below hBr)
      have hp4 : (⟨#[116, 121, 112, 101]⟩ : ByteArray).size = 4 := rfl
      simp only [hp4] at HCP
      clear HJ hp4
      by_cases hpr : 4 ≤ low.size ∧ low.extract 0 4 = ⟨#[116, 121, 112, 101]⟩
      · have HE : Hid (typeOfB low = (numR 16 5 (low.extract 4 low.size)).getD 0) := typeOf_yes hnf hpr.1 hpr.2
        simp only [if_pos hpr, decide_eq_true hpr] at HCP
        have hxz : (low.extract 4 low.size).size ≤ 1048576 := by rw [size_extract' _ _ _ (Nat.le_refl _)]; omega
        have HNU : Hid (∀ w : World, Gl w → Calls Tryz.prog 73 #[.string (low.extract 4 low.size), .int .i64 5, .int .i64 16] w fun e w' => e = .returned (.tuple #[.int .i64 (((numR 16 5 (low.extract 4 low.size)).getD 0 : Nat) : Int), .bool (numR 16 5 (low.extract 4 low.size)).isSome]) ∧ Below w.heap.size w w') := fun w h => number_at (low.extract 4 low.size) 16 5 w (by omega) (by omega) hxz h
        generalize (numR 16 5 (low.extract 4 low.size)) = NR at *
        generalize (low.extract 4 low.size) = DG at *
        clear hpr hnf
        go_wp2_with (first
          | (go_at_call 60; refine (HST.out _).mono ?_; rintro e w3 ⟨rfl, hB3⟩)
          | (go_at_call 108; refine (HCP.out _).mono ?_; rintro e w4 ⟨rfl, rfl⟩)
          | (go_at_call 73; refine (HNU.out _ (HGR.out.below hB3).errs).mono ?_; rintro e w5 ⟨rfl, hB5⟩))
        go_ret
        exact ⟨by rw [HE.out]; rfl, bstep (bstep hBwr hB3 hBwr.size) hB5 (Nat.le_trans hBwr.size hB3.size)⟩
      · have HE : Hid (typeOfB low = 0) := typeOf_no hnf hpr
        simp only [if_neg hpr, decide_eq_false hpr] at HCP
        clear hpr hnf
        go_wp2_with (first
          | (go_at_call 60; refine (HST.out _).mono ?_; rintro e w3 ⟨rfl, hB3⟩)
          | (go_at_call 108; refine (HCP.out _).mono ?_; rintro e w4 ⟨rfl, rfl⟩))
        go_ret
        exact ⟨by rw [HE.out]; rfl, bstep hBwr hB3 hBwr.size⟩
end Go.Proofs.YtiaccimdjfdkgaaGreatDoor
