import Derived.Test.YtiaccimdjfdkgaaGreatDoorDbfG
import Derived.Test.YtiaccimdjfdkgaaGreatDoorMn1G
import Derived.Test.YtiaccimdjfdkgaaGreatDoorRlSG
/-
  Proofs: fields read from the words that tell them: texts, digits, hashes, salts, types. (The verifier's own text.)
-/
namespace Go.Proofs.YtiaccimdjfdkgaaGreatDoor
set_option linter.unusedVariables false
set_option linter.unusedSimpArgs false
open Go.RowKit Go.Shelf Go.Proofs.YtiaccimdjfdkgaaGreatDoor.Nm

/-- how the reading of a field ends -/
def RdE (W0 : World) (L : Nat) (q : Option Addr) (c : Nat) (Z : List Wz) (o : ByteArray) (n : Nat) (b : ByteArray) (w : World) (e : Ending) (w' : World) : Prop := e = .returned (.string b) ∧ Ln W0 L q c Z o n w' ∧ Rg w w' L
theorem low_app (a b : List Nat) : lowB (bts (a ++ b)) = lowB (bts a) ++ lowB (bts b) := by
  refine ba_ext (by rw [ByteArray.size_append, lowB_size, lowB_size, lowB_size, bts_append, ByteArray.size_append]) fun j hj => ?_
  rw [lowB_size] at hj
  rw [lowB_bt, bts_append]
  by_cases h : j < (bts a).size
  · rw [bt_append_left _ _ _ h, bt_append_left _ _ _ (by rw [lowB_size]; exact h), lowB_bt]
  · rw [bt_append_right _ _ _ (by omega), bt_append_right _ _ _ (by rw [lowB_size]; omega), lowB_size, lowB_bt]
theorem low_dig {l : List Nat} (h : ∀ x ∈ l, x < 65) : lowB (bts l) = bts l := by
  refine ba_ext (lowB_size _) fun j hj => ?_
  rw [lowB_size, bts_size] at hj
  have h1 := h _ (List.getElem_mem hj)
  rw [lowB_bt, bts_bt l (fun x hx => by have := h x hx; omega) j hj]
  unfold lowN
  rw [if_neg (by omega)]
/-- a type's name names that type -/
theorem typeOf_name {t : Nat} (h1 : 1 ≤ t) (h2 : t ≤ 65535) : typeOfB (lowB (nameT (t : Int))) = t := by
  have hty : isTy (t : Int) = true := by unfold isTy; exact decide_eq_true (by omega)
  unfold nameT
  rw [if_pos hty]
  cases hf : twFind (t : Int) with
  | some s =>
    simp only
    unfold twFind at hf
    cases hq : tw.find? (fun r => decide ((r.1 : Int) = t)) with
    | none => rw [hq] at hf; cases hf
    | some r =>
      rw [hq] at hf
      simp only [Option.map_some, Option.some.injEq] at hf
      subst hf
      have hm := List.mem_of_find?_eq_some hq
      have he := List.find?_some hq
      have he2 : (r.1 : Int) = t := of_decide_eq_true he
      have key : ∀ r ∈ tw, typeOfB (lowB r.2) = r.1 := by decide +kernel
      rw [key r hm]
      omega
  | none =>
    simp only
    have e : (⟨#[84, 89, 80, 69]⟩ : ByteArray) ++ ⟨(Lib.itoa (t : Int)).toArray⟩ = bts ([84, 89, 80, 69] ++ dgN t) := by
      rw [bts_append, bts_dg]
      congr 1
    have hd : lowB (bts (dgN t)) = bts (dgN t) := low_dig (fun x hx => by have := dgN_dig t x hx; omega)
    have hT : lowB (bts [84, 89, 80, 69]) = ⟨#[116, 121, 112, 101]⟩ := by decide +kernel
    rw [e, low_app, hd, hT]
    generalize hD : bts (dgN t) = D
    have hz : ((⟨#[116, 121, 112, 101]⟩ : ByteArray) ++ D).size = 4 + D.size := by rw [ByteArray.size_append]; rfl
    have hp : ((⟨#[116, 121, 112, 101]⟩ : ByteArray) ++ D).extract 0 4 = ⟨#[116, 121, 112, 101]⟩ := by
      refine ba_ext (by rw [size_pre (by omega)]; rfl) fun j hj => ?_
      rw [size_pre (by omega)] at hj
      rw [bt_pre (by omega) hj, bt_append_left _ _ _ (by exact hj)]
    have hr : ((⟨#[116, 121, 112, 101]⟩ : ByteArray) ++ D).extract 4 ((⟨#[116, 121, 112, 101]⟩ : ByteArray) ++ D).size = D := by
      refine ba_ext (by rw [size_extract' _ _ _ (Nat.le_refl _), hz]; omega) fun j hj => ?_
      rw [size_extract' _ _ _ (Nat.le_refl _), hz] at hj
      rw [bt_extract _ _ _ _ (by omega) (Nat.le_refl _), bt_append_right _ _ _ (by show 4 ≤ _; omega)]
      congr 1
      show 4 + j - 4 = j
      omega
    have hn : twWord ((⟨#[116, 121, 112, 101]⟩ : ByteArray) ++ D) = none := twWord_none (fun r hr he => by
      have key : ∀ r ∈ tw, (lowB r.2).extract 0 4 ≠ ⟨#[116, 121, 112, 101]⟩ := by decide +kernel
      exact key r hr (by rw [he]; exact hp))
    rw [typeOf_yes hn (by omega) hp, hr, ← hD, numR_dec (by decide) (by omega) (dgN_len 4 t (by omega))]
    rfl
set_option maxRecDepth 100000 in
/-- data.readType -/
theorem readType_any (W0 : World) (L : Nat) (q : Option Addr) (c : Nat) (Z : List Wz) (o : ByteArray) (n t : Nat) (w : World) (h : Ln W0 L q c Z o n w) (hz : Z[n]? = some ⟨lsB (nameT (t : Int)), false⟩) (h1 : 1 ≤ t) (h2 : t ≤ 65535) (hG : GD W0) :
    Calls Tryz.prog 240 #[.pointer (some ⟨L, 0, none⟩)] w fun e w' => e = .returned (.int .i64 (t : Int)) ∧ Ln W0 L q c Z o (n + 1) w' ∧ Rg w w' L := by
  have HP := hide' (plain_any W0 L q c Z o n _ w h hz rfl)
  simp only [bts_ls] at HP
  have hsz := (nameT_ok h1 h2).2
  rw [lsB_len] at hsz
  have HT : Hid (∀ V, Below W0.heap.size W0 V → Calls Tryz.prog 84 #[.string (nameT (t : Int))] V fun e w' => e = .returned (.int .i64 (t : Int)) ∧ Below V.heap.size V w') := fun V hV => by
    have := typeOf_any (nameT (t : Int)) V (by omega) (hG.gw.below hV)
    rw [typeOf_name h1 h2] at this
    exact this
  have HI : Hid (∀ V, Calls Tryz.prog 44 #[.int .i64 (t : Int)] V fun e w' => e = .returned (.bool true) ∧ w' = V) := fun V => by
    have := isType_any (t : Int) V
    rw [show isTy (t : Int) = true by unfold isTy; exact decide_eq_true (by omega)] at this
    exact this
  have HM := hide' (fun v V => must_any v V)
  generalize nameT (t : Int) = T at *
  clear hz
  go_enter Tryz.func240, Tryz.ntmps240
  go_wp2_with (first
    | (go_at_call 147; refine HP.out.mono ?_; rintro e0 w2 ⟨rfl, hL, hR⟩; have HL2 := hide' hL; have HR2 := hide' hR; clear hL hR)
    | (go_at_call 84; refine (HT.out _ HL2.out.bel).mono ?_; rintro e1 w3 ⟨rfl, hB1⟩; have HL3 := hide' (HL2.out.below hB1); have HR3 := hide' (HR2.out.trans (Rg.of_below hB1 L)); clear hB1)
    | (go_at_call 44; refine (HI.out _).mono ?_; rintro e1 w4 ⟨rfl, hw4⟩; have hw4' := hw4.symm; subst hw4')
    | (go_at_call 148; refine (HM.out _ _).mono ?_; rintro e1 w4 ⟨rfl, hw4⟩; have hw4' := hw4.symm; subst hw4'))
  go_ret
  exact ⟨rfl, HL3.out, HR3.out⟩
end Go.Proofs.YtiaccimdjfdkgaaGreatDoor

/-
  Proofs: fields read from the words that tell them: texts, tails, digits, salts, hashes, a type. (The verifier's own text; mkdbl.py.)
-/
namespace Go.Proofs.YtiaccimdjfdkgaaGreatDoor
set_option linter.unusedVariables false
set_option linter.unusedSimpArgs false
open Go.RowKit Go.Shelf Go.Proofs.YtiaccimdjfdkgaaGreatDoor.Nm

theorem nB_vN {b : ByteArray} (h : b.size ≤ 4) : nB (vN b b.size) b.size = b := by
  refine ba_ext (nB_size _ _) fun j hj => ?_
  rw [nB_size] at hj
  rw [nB_bt _ _ _ hj]
  have h0 := bt_lt b 0
  have h1 := bt_lt b 1
  have h2 := bt_lt b 2
  have h3 := bt_lt b 3
  have hs : b.size = 1 ∨ b.size = 2 ∨ b.size = 3 ∨ b.size = 4 := by omega
  rcases hs with e | e | e | e
  · rw [e] at hj ⊢
    obtain rfl : j = 0 := by omega
    simp [vN]; omega
  · rw [e] at hj ⊢
    have : j = 0 ∨ j = 1 := by omega
    rcases this with rfl | rfl <;> simp [vN] <;> omega
  · rw [e] at hj ⊢
    have : j = 0 ∨ j = 1 ∨ j = 2 := by omega
    rcases this with rfl | rfl | rfl <;> simp [vN] <;> omega
  · rw [e] at hj ⊢
    have : j = 0 ∨ j = 1 ∨ j = 2 ∨ j = 3 := by omega
    rcases this with rfl | rfl | rfl | rfl <;> simp [vN] <;> omega
set_option maxRecDepth 100000 in
set_option maxHeartbeats 4000000 in
theorem readText_any (W0 : World) (L : Nat) (q : Option Addr) (c : Nat) (Z : List Wz) (o : ByteArray) (n : Nat) (b : ByteArray) (w : World) (h : Ln W0 L q c Z o n w) (x : ByteArray) (hx : x.size ≤ 255) (hb : b = chunk x) (hz : Z[n]? = some (txW x)) (hG : GD W0) :
    Calls Tryz.prog 218 #[.agg #[], .pointer (some ⟨L, 0, none⟩)] w (RdE W0 L q c Z o (n + 1) b w) := by
  obtain ⟨wa, hwa⟩ : ∃ wa, w.alloc (.cells #[] 186) = wa := ⟨_, rfl⟩
  have HBa : Hid (Below w.heap.size w wa) := hwa ▸ (Below.refl _ w).alloc (Nat.le_refl _) _
  have HLa := hide' (h.below HBa.out)
  subst hb
  have HRb : Hid (∀ V, Ln W0 L q c Z o n V → Calls Tryz.prog 221 #[.pointer (some ⟨L, 0, none⟩)] V fun e w' => e = .returned (.string x) ∧ Ln W0 L q c Z o (n + 1) w' ∧ Rg V w' L) := fun V hV => by
    have := readBytes_any W0 L q c Z o n _ (lsB x) V hV hz rfl (lsB_lt x) (by rw [lsB_len]; omega) hG
    rw [bts_ls] at this
    exact this
  have HW := hide' (fun v V => withCount_any v x V hx)
  generalize chunk x = cx at *
  clear hz
  go_enter Tryz.func218, Tryz.ntmps218
  go_wp2_with (first
    | (go_at_call 221; refine (HRb.out _ HLa.out).mono ?_; rintro e2 w2 ⟨rfl, hL2, hR2⟩; have HL2 := hide' hL2; have HR2 := hide' ((Rg.of_below HBa.out L).trans hR2); clear hL2 hR2)
    | (go_at_call 220; refine (HW.out _ _).mono ?_; rintro e3 w3 ⟨rfl, hB3⟩; have HL3 := hide' (HL2.out.below hB3); have HR3 := hide' (HR2.out.trans (Rg.of_below hB3 L)); clear hB3))
  go_ret
  exact ⟨rfl, HL3.out, HR3.out⟩
set_option maxRecDepth 100000 in
set_option maxHeartbeats 4000000 in
theorem readTail_any (W0 : World) (L : Nat) (q : Option Addr) (c : Nat) (Z : List Wz) (o : ByteArray) (n : Nat) (b : ByteArray) (w : World) (h : Ln W0 L q c Z o n w) (hb : b.size ≤ 65535) (hz : Z[n]? = some ⟨qtL (lsB b), true⟩) (hG : GD W0) :
    Calls Tryz.prog 288 #[.agg #[], .pointer (some ⟨L, 0, none⟩)] w (RdE W0 L q c Z o (n + 1) b w) := by
  obtain ⟨wa, hwa⟩ : ∃ wa, w.alloc (.cells #[] 197) = wa := ⟨_, rfl⟩
  have HBa : Hid (Below w.heap.size w wa) := hwa ▸ (Below.refl _ w).alloc (Nat.le_refl _) _
  have HLa := hide' (h.below HBa.out)
  have HRb : Hid (∀ V, Ln W0 L q c Z o n V → Calls Tryz.prog 221 #[.pointer (some ⟨L, 0, none⟩)] V fun e w' => e = .returned (.string b) ∧ Ln W0 L q c Z o (n + 1) w' ∧ Rg V w' L) := fun V hV => by
    have := readBytes_any W0 L q c Z o n _ (lsB b) V hV hz rfl (lsB_lt b) (by rw [lsB_len]; omega) hG
    rw [bts_ls] at this
    exact this
  clear hz
  go_enter Tryz.func288, Tryz.ntmps288
  go_wp2_with (first
    | (go_at_call 221; refine (HRb.out _ HLa.out).mono ?_; rintro e2 w2 ⟨rfl, hL2, hR2⟩; have HL2 := hide' hL2; have HR2 := hide' ((Rg.of_below HBa.out L).trans hR2); clear hL2 hR2))
  go_ret
  exact ⟨rfl, HL2.out, HR2.out⟩
set_option maxRecDepth 100000 in
set_option maxHeartbeats 4000000 in
theorem readHex_any (W0 : World) (L : Nat) (q : Option Addr) (c : Nat) (Z : List Wz) (o : ByteArray) (n : Nat) (b : ByteArray) (w : World) (h : Ln W0 L q c Z o n w) (hb : b.size ≤ 65535) (h0 : 0 < b.size) (hz : Z[n]? = some ⟨lsB (toWB 4 d16 b), false⟩) (hn : n + 1 = Z.length) :
    Calls Tryz.prog 233 #[.agg #[], .pointer (some ⟨L, 0, none⟩)] w (RdE W0 L q c Z o (n + 1) b w) := by
  obtain ⟨wa, hwa⟩ : ∃ wa, w.alloc (.cells #[] 191) = wa := ⟨_, rfl⟩
  have HBa : Hid (Below w.heap.size w wa) := hwa ▸ (Below.refl _ w).alloc (Nat.le_refl _) _
  have HLa := hide' (h.below HBa.out)
  have HRb := hide' (fun V hV => toEnd16_any W0 L q c Z o n _ b V hV hz hn rfl rfl hb h0)
  clear hz hn
  go_enter Tryz.func233, Tryz.ntmps233
  go_wp2_with (first
    | (go_at_call 235; refine (HRb.out _ HLa.out).mono ?_; rintro e2 w2 ⟨rfl, hL2, hR2⟩; have HL2 := hide' hL2; have HR2 := hide' ((Rg.of_below HBa.out L).trans hR2); clear hL2 hR2))
  go_ret
  exact ⟨rfl, HL2.out, HR2.out⟩
set_option maxRecDepth 100000 in
set_option maxHeartbeats 4000000 in
theorem readBase64_any (W0 : World) (L : Nat) (q : Option Addr) (c : Nat) (Z : List Wz) (o : ByteArray) (n : Nat) (b : ByteArray) (w : World) (h : Ln W0 L q c Z o n w) (hb : b.size ≤ 65535) (h0 : 0 < b.size) (hz : Z[n]? = some ⟨lsB (toWB 6 d64 b) ++ List.replicate (fil64 (toWB 6 d64 b).size) 61, false⟩) (hn : n + 1 = Z.length) :
    Calls Tryz.prog 241 #[.agg #[], .pointer (some ⟨L, 0, none⟩)] w (RdE W0 L q c Z o (n + 1) b w) := by
  obtain ⟨wa, hwa⟩ : ∃ wa, w.alloc (.cells #[] 193) = wa := ⟨_, rfl⟩
  have HBa : Hid (Below w.heap.size w wa) := hwa ▸ (Below.refl _ w).alloc (Nat.le_refl _) _
  have HLa := hide' (h.below HBa.out)
  have HRb := hide' (fun V hV => toEnd64_any W0 L q c Z o n _ b V hV hz hn rfl rfl hb h0)
  clear hz hn
  go_enter Tryz.func241, Tryz.ntmps241
  go_wp2_with (first
    | (go_at_call 235; refine (HRb.out _ HLa.out).mono ?_; rintro e2 w2 ⟨rfl, hL2, hR2⟩; have HL2 := hide' hL2; have HR2 := hide' ((Rg.of_below HBa.out L).trans hR2); clear hL2 hR2))
  go_ret
  exact ⟨rfl, HL2.out, HR2.out⟩
set_option maxRecDepth 100000 in
set_option maxHeartbeats 4000000 in
theorem readOne_any (W0 : World) (L : Nat) (q : Option Addr) (c : Nat) (Z : List Wz) (o : ByteArray) (n : Nat) (b : ByteArray) (w : World) (h : Ln W0 L q c Z o n w) (t : Nat) (h1 : 1 ≤ t) (h2 : t ≤ 65535) (hb : nB t 2 = b) (hz : Z[n]? = some ⟨lsB (nameT (t : Int)), false⟩) (hG : GD W0) :
    Calls Tryz.prog 237 #[.agg #[], .pointer (some ⟨L, 0, none⟩)] w (RdE W0 L q c Z o (n + 1) b w) := by
  obtain ⟨wa, hwa⟩ : ∃ wa, w.alloc (.cells #[] 192) = wa := ⟨_, rfl⟩
  have HBa : Hid (Below w.heap.size w wa) := hwa ▸ (Below.refl _ w).alloc (Nat.le_refl _) _
  have HLa := hide' (h.below HBa.out)
  have HRb := hide' (fun V hV => readType_any W0 L q c Z o n t V hV hz h1 h2 hG)
  have HSb := hide' (fun V => spellBytes_any 2 t V (by omega) (by omega))
  rw [hb] at HSb
  clear hz hb
  go_enter Tryz.func237, Tryz.ntmps237
  go_wp2_with (first
    | (go_at_call 240; refine (HRb.out _ HLa.out).mono ?_; rintro e2 w2 ⟨rfl, hL2, hR2⟩; have HL2 := hide' hL2; have HR2 := hide' ((Rg.of_below HBa.out L).trans hR2); clear hL2 hR2)
    | (go_at_call 199; refine (HSb.out _).mono ?_; rintro e3 w3 ⟨rfl, hB3⟩; have HL3 := hide' (HL2.out.below hB3); have HR3 := hide' (HR2.out.trans (Rg.of_below hB3 L)); clear hB3))
  go_ret
  exact ⟨rfl, HL3.out, HR3.out⟩
set_option maxRecDepth 100000 in
set_option maxHeartbeats 4000000 in
theorem readHash_any (W0 : World) (L : Nat) (q : Option Addr) (c : Nat) (Z : List Wz) (o : ByteArray) (n : Nat) (b : ByteArray) (w : World) (h : Ln W0 L q c Z o n w) (x : ByteArray) (hx : x.size ≤ 255) (h0 : 0 < x.size) (hb : b = chunk x) (hz : Z[n]? = some ⟨lsB (to32B x), false⟩) :
    Calls Tryz.prog 283 #[.agg #[], .pointer (some ⟨L, 0, none⟩)] w (RdE W0 L q c Z o (n + 1) b w) := by
  obtain ⟨wa, hwa⟩ : ∃ wa, w.alloc (.cells #[] 196) = wa := ⟨_, rfl⟩
  have HBa : Hid (Below w.heap.size w wa) := hwa ▸ (Below.refl _ w).alloc (Nat.le_refl _) _
  have HLa := hide' (h.below HBa.out)
  subst hb
  have HP := hide' (fun V hV => plain_any W0 L q c Z o n _ V hV hz rfl)
  simp only [bts_ls] at HP
  have HF : Hid (∀ V, Calls Tryz.prog 286 #[.string (to32B x)] V fun e w' => e = .returned (.tuple #[.string x, .bool true]) ∧ Below V.heap.size V w') := fun V => by
    have hz8 := c32_len x
    have h := from32_any (to32B x) V (by rw [to32B_size]; omega)
    rw [from_to] at h
    unfold fromEnd at h
    simp only at h
    rw [bts_lst] at h
    exact h
  have HW := hide' (fun v V => withCount_any v x V hx)
  have HM := hide' (fun v V => must_any v V)
  have he := isEmpty_false (r := x) h0
  generalize chunk x = cx at *
  generalize to32B x = T at *
  clear hz
  go_enter Tryz.func283, Tryz.ntmps283
  go_wp2_with (first
    | (go_at_call 147; refine (HP.out _ HLa.out).mono ?_; rintro e2 w2 ⟨rfl, hL2, hR2⟩; have HL2 := hide' hL2; have HR2 := hide' ((Rg.of_below HBa.out L).trans hR2); clear hL2 hR2)
    | (go_at_call 286; refine (HF.out _).mono ?_; rintro e3 w3 ⟨rfl, hB3⟩; have HL3 := hide' (HL2.out.below hB3); have HR3 := hide' (HR2.out.trans (Rg.of_below hB3 L)); clear hB3)
    | (go_at_call 148; refine (HM.out _ _).mono ?_; rintro e9 w9 ⟨rfl, hw9⟩; have hw9' := hw9.symm; subst hw9')
    | (go_at_call 220; refine (HW.out _ _).mono ?_; rintro e4 w4 ⟨rfl, hB4⟩; have HL4 := hide' (HL3.out.below hB4); have HR4 := hide' (HR3.out.trans (Rg.of_below hB4 L)); clear hB4))
  go_ret
  exact ⟨rfl, HL4.out, HR4.out⟩
set_option maxRecDepth 100000 in
set_option maxHeartbeats 4000000 in
theorem readSalt0_any (W0 : World) (L : Nat) (q : Option Addr) (c : Nat) (Z : List Wz) (o : ByteArray) (n : Nat) (b : ByteArray) (w : World) (h : Ln W0 L q c Z o n w) (hb : b = chunk ⟨#[]⟩) (hz : Z[n]? = some ⟨[45], false⟩) :
    Calls Tryz.prog 281 #[.agg #[], .pointer (some ⟨L, 0, none⟩)] w (RdE W0 L q c Z o (n + 1) b w) := by
  obtain ⟨wa, hwa⟩ : ∃ wa, w.alloc (.cells #[] 195) = wa := ⟨_, rfl⟩
  have HBa : Hid (Below w.heap.size w wa) := hwa ▸ (Below.refl _ w).alloc (Nat.le_refl _) _
  have HLa := hide' (h.below HBa.out)
  subst hb
  have HP := hide' (fun V hV => plain_any W0 L q c Z o n _ V hV hz rfl)
  simp only [show bts [45] = ⟨#[45]⟩ from rfl] at HP
  have HW := hide' (fun v V => withCount_any v ⟨#[]⟩ V (by show (0 : Nat) ≤ 255; omega))
  generalize chunk ⟨#[]⟩ = cx at *
  clear hz
  go_enter Tryz.func281, Tryz.ntmps281
  go_wp2_with (first
    | (go_at_call 147; refine (HP.out _ HLa.out).mono ?_; rintro e2 w2 ⟨rfl, hL2, hR2⟩; have HL2 := hide' hL2; have HR2 := hide' ((Rg.of_below HBa.out L).trans hR2); clear hL2 hR2)
    | (go_at_call 220; refine (HW.out _ _).mono ?_; rintro e3 w3 ⟨rfl, hB3⟩; have HL3 := hide' (HL2.out.below hB3); have HR3 := hide' (HR2.out.trans (Rg.of_below hB3 L)); clear hB3))
  go_ret
  exact ⟨rfl, HL3.out, HR3.out⟩
set_option maxRecDepth 100000 in
set_option maxHeartbeats 4000000 in
theorem readSalt1_any (W0 : World) (L : Nat) (q : Option Addr) (c : Nat) (Z : List Wz) (o : ByteArray) (n : Nat) (b : ByteArray) (w : World) (h : Ln W0 L q c Z o n w) (x : ByteArray) (hx : x.size ≤ 255) (h0 : 0 < x.size) (hb : b = chunk x) (hz : Z[n]? = some ⟨lsB (toWB 4 d16 x), false⟩) :
    Calls Tryz.prog 281 #[.agg #[], .pointer (some ⟨L, 0, none⟩)] w (RdE W0 L q c Z o (n + 1) b w) := by
  obtain ⟨wa, hwa⟩ : ∃ wa, w.alloc (.cells #[] 195) = wa := ⟨_, rfl⟩
  have HBa : Hid (Below w.heap.size w wa) := hwa ▸ (Below.refl _ w).alloc (Nat.le_refl _) _
  have HLa := hide' (h.below HBa.out)
  subst hb
  have HP := hide' (fun V hV => plain_any W0 L q c Z o n _ V hV hz rfl)
  simp only [bts_ls] at HP
  have HF := hide' (fun V => from16_of x V (by omega))
  have HW := hide' (fun v V => withCount_any v x V hx)
  have HM := hide' (fun v V => must_any v V)
  have he := isEmpty_false (r := x) h0
  have hq : ((toWB 4 d16 x).toList == [45]) = false := by
    have h1 := toList_bt (toWB 4 d16 x) ⟨#[45]⟩
    rw [show (⟨#[45]⟩ : ByteArray).toList = [45] by decide +kernel] at h1
    rw [h1]
    refine decide_eq_false fun e => ?_
    have h2 : 0 < (toWB 4 d16 x).size := by rw [toWB_size]; exact cW_pos dg16 h0
    have h3 := (toWB_all (P := sgnD) dg16 x d16_sgn 0 h2).2.2.2
    rw [e] at h3
    exact h3 rfl
  generalize chunk x = cx at *
  generalize toWB 4 d16 x = T at *
  clear hz
  go_enter Tryz.func281, Tryz.ntmps281
  go_wp2_with (first
    | (go_at_call 147; refine (HP.out _ HLa.out).mono ?_; rintro e2 w2 ⟨rfl, hL2, hR2⟩; have HL2 := hide' hL2; have HR2 := hide' ((Rg.of_below HBa.out L).trans hR2); clear hL2 hR2)
    | (go_at_call 149; refine (HF.out _).mono ?_; rintro e3 w3 ⟨rfl, hB3⟩; have HL3 := hide' (HL2.out.below hB3); have HR3 := hide' (HR2.out.trans (Rg.of_below hB3 L)); clear hB3)
    | (go_at_call 148; refine (HM.out _ _).mono ?_; rintro e9 w9 ⟨rfl, hw9⟩; have hw9' := hw9.symm; subst hw9')
    | (go_at_call 220; refine (HW.out _ _).mono ?_; rintro e4 w4 ⟨rfl, hB4⟩; have HL4 := hide' (HL3.out.below hB4); have HR4 := hide' (HR3.out.trans (Rg.of_below hB4 L)); clear hB4))
  go_ret
  exact ⟨rfl, HL4.out, HR4.out⟩
end Go.Proofs.YtiaccimdjfdkgaaGreatDoor

/-
  Proofs: numbers and names read from the words that tell them. (The verifier's own text.)
-/
namespace Go.Proofs.YtiaccimdjfdkgaaGreatDoor
set_option linter.unusedVariables false
set_option linter.unusedSimpArgs false
open Go.RowKit Go.Shelf Go.Proofs.YtiaccimdjfdkgaaGreatDoor.Nm

set_option maxRecDepth 100000 in
set_option maxHeartbeats 4000000 in
theorem readDom_any (W0 : World) (L : Nat) (q : Option Addr) (c : Nat) (Z : List Wz) (o : ByteArray) (n : Nat) (b : ByteArray) (w : World) (h : Ln W0 L q c Z o n w) (hb : isN b = true) (ho : isN o = true) (hz : Z[n]? = some ⟨lsB (showB b), false⟩) (hG : GD W0) :
    Calls Tryz.prog 214 #[.agg #[], .pointer (some ⟨L, 0, none⟩)] w (RdE W0 L q c Z o (n + 1) b w) := by
  obtain ⟨wa, hwa⟩ : ∃ wa, w.alloc (.cells #[] 183) = wa := ⟨_, rfl⟩
  have HBa : Hid (Below w.heap.size w wa) := hwa ▸ (Below.refl _ w).alloc (Nat.le_refl _) _
  have HLa := hide' (h.below HBa.out)
  have HP := hide' (fun V hV => plain_any W0 L q c Z o n _ V hV hz rfl)
  simp only [bts_ls] at HP
  have HN : Hid (∀ V, Below W0.heap.size W0 V → Calls Tryz.prog 72 #[.string (showB b), .string o] V fun e w' => e = .returned (.tuple #[.string b, .int .i64 0, .int .i64 0]) ∧ Below V.heap.size V w') := fun V hV => by
    have h255 := ((isN_iff o).1 ho).1
    have := read_any (showB b) o V (showB_size hb) (by unfold maxLen; omega) (hG.gw.below hV).errs
    rw [read_show hb ho] at this
    exact this
  have cx := HLa.out.c1
  generalize showB b = T at *
  clear hz hb ho
  go_enter Tryz.func214, Tryz.ntmps214
  go_wp2_with fail
  go_region_held3 (fun V => V.cell? ⟨L, 1, none⟩ = some (.string o)) (first | exact HL2.out.c1 | exact (HL2.out.below hB3).c1 | go_keep) (first
    | (go_at_call 147; refine (HP.out _ HLa.out.drew).mono ?_; rintro e2 w2 ⟨rfl, hL2, hR2⟩; have HL2 := hide' hL2; have HR2 := hide' (((Rg.of_below HBa.out L).drew).trans hR2); clear hL2 hR2)
    | (go_at_call 72; refine (HN.out _ HL2.out.bel).mono ?_; rintro e3 w3 ⟨rfl, hB3⟩))
  go_wp2_with fail
  go_ret
  exact ⟨rfl, HL2.out.below hB3, HR2.out.trans (Rg.of_below hB3 L)⟩
set_option maxRecDepth 100000 in
set_option maxHeartbeats 4000000 in
theorem readNum_any (W0 : World) (L : Nat) (q : Option Addr) (c : Nat) (Z : List Wz) (o : ByteArray) (n : Nat) (b : ByteArray) (w : World) (h : Ln W0 L q c Z o n w) (N u : Nat) (hN : N = 1 ∨ N = 2 ∨ N = 4) (hu : u < 256 ^ N) (hb : nB u N = b) (hz : Z[n]? = some ⟨dgN u, false⟩) (hG : GD W0) :
    Calls Tryz.prog 196 #[.agg #[.int .i64 (N : Int)], .pointer (some ⟨L, 0, none⟩)] w (RdE W0 L q c Z o (n + 1) b w) := by
  obtain ⟨wa, hwa⟩ : ∃ wa, w.alloc (.cells #[.int .i64 (N : Int)] 180) = wa := ⟨_, rfl⟩
  have HBa : Hid (Below w.heap.size w wa) := hwa ▸ (Below.refl _ w).alloc (Nat.le_refl _) _
  have HLa := hide' (h.below HBa.out)
  have bxa : wa.cell? ⟨w.heap.size, 0, none⟩ = some (.int .i64 (N : Int)) := by rw [← hwa]; exact (cell_new_l w _ _).1
  have HBlt : Hid (w.heap.size < wa.heap.size) := by unfold Hid; rw [← hwa]; simp
  have HNe : Hid (w.heap.size ≠ L) := by unfold Hid; have := h.lt; omega
  have HP := hide' (fun V hV => plain_any W0 L q c Z o n _ V hV hz rfl)
  simp only at HP
  have hu4 : u < 256 ^ 4 := Nat.lt_of_lt_of_le hu (Nat.pow_le_pow_right (by omega) (by omega))
  have HNm : Hid (∀ V, Below W0.heap.size W0 V → Calls Tryz.prog 73 #[.string (bts (dgN u)), .int .i64 10, .int .i64 (8 * (N : Int))] V fun e w' => e = .returned (.tuple #[.int .i64 (u : Int), .bool true]) ∧ Below V.heap.size V w') := fun V hV => by
    have hl := dgN_len 9 u (by omega)
    have h1 := number_at (bts (dgN u)) (8 * N) 10 V (by omega) (by omega) (by rw [bts_size]; omega) (hG.gw.below hV).errs
    have h2 : 2 ^ (8 * N) = 256 ^ N := by rw [Nat.pow_mul]
    rw [numR_dec (by rcases hN with rfl | rfl | rfl <;> decide) (by rw [h2]; exact hu) hl] at h1
    have e : ((8 * N : Nat) : Int) = 8 * (N : Int) := by omega
    rw [e] at h1
    exact h1
  have HSb := hide' (fun V => spellBytes_any N u V (by omega) (by omega))
  rw [hb] at HSb
  have HM := hide' (fun v V => must_any v V)
  have hN4 : N ≤ 4 := by omega
  have hw8 : IntKind.i64.wrap (8 * (N : Int)) = 8 * (N : Int) := wrap_nn _ (by omega) (by omega)
  generalize bts (dgN u) = T at *
  clear hz hb hN hu hu4
  go_enter Tryz.func196, Tryz.ntmps196
  go_wp2_with fail
  go_region_held3 (fun V => V.cell? ⟨w.heap.size, 0, none⟩ = some (.int .i64 (N : Int))) (first | exact HX2.out | exact HX3.out | go_keep) (first
    | (go_at_call 147; refine (HP.out _ HLa.out.drew).mono ?_; rintro e2 w2 ⟨rfl, hL2, hR2⟩; have HL2 := hide' hL2; have HX2 : Hid (w2.cell? ⟨w.heap.size, 0, none⟩ = some (.int .i64 (N : Int))) := (World.cell?_of_block (hR2.block _ HBlt.out (fun e => HNe.out (by injection e)))).trans bxa; have HS2 : Hid (w.heap.size < w2.heap.size) := Nat.lt_of_lt_of_le HBlt.out hR2.size; have HR2 := hide' (((Rg.of_below HBa.out L).drew).trans hR2); clear hL2 hR2)
    | (go_at_call 73; refine (HNm.out _ HL2.out.bel).mono ?_; rintro e3 w3 ⟨rfl, hB3⟩; have HX3 : Hid (w3.cell? ⟨w.heap.size, 0, none⟩ = some (.int .i64 (N : Int))) := (hB3.cell (p := ⟨w.heap.size, 0, none⟩) HS2.out).trans HX2.out; have HL3 := hide' (HL2.out.below hB3); have HR3 := hide' (HR2.out.trans (Rg.of_below hB3 L)); clear hB3))
  have cx := HX3.out
  go_wp2_with (first
    | (go_at_call 148; refine (HM.out _ _).mono ?_; rintro e1 w4 ⟨rfl, hw4⟩; have hw4' := hw4.symm; subst hw4')
    | (go_at_call 199; refine (HSb.out _).mono ?_; rintro e4 w5 ⟨rfl, hB5⟩; have HL5 := hide' (HL3.out.below hB5); have HR5 := hide' (HR3.out.trans (Rg.of_below hB5 L)); clear hB5))
  go_ret
  exact ⟨rfl, HL5.out, HR5.out⟩
end Go.Proofs.YtiaccimdjfdkgaaGreatDoor

/-
  Proofs: texts and sets read from the words that tell them. (The verifier's own text.)
-/
namespace Go.Proofs.YtiaccimdjfdkgaaGreatDoor
set_option linter.unusedVariables false
set_option linter.unusedSimpArgs false
open Go.RowKit Go.Shelf Go.Proofs.YtiaccimdjfdkgaaGreatDoor.Nm

set_option maxRecDepth 100000 in
set_option maxHeartbeats 4000000 in
theorem readTexts_any (W0 : World) (L : Nat) (q : Option Addr) (c : Nat) (Z : List Wz) (o : ByteArray) (n : Nat) (X : List ByteArray) (w : World) (h : Ln W0 L q c Z o n w) (hX : ∀ x ∈ X, x.size ≤ 255) (h1 : 1 ≤ X.length) (hn : n + X.length = Z.length) (hz : ∀ j (hj : j < X.length), Z[n + j]? = some (txW X[j])) (hb : (chunks X).size ≤ 65535) (hG : GD W0) :
    Calls Tryz.prog 223 #[.agg #[], .pointer (some ⟨L, 0, none⟩)] w (RdE W0 L q c Z o (n + X.length) (chunks X) w) := by
  obtain ⟨wa, hwa⟩ : ∃ wa, w.alloc (.cells #[] 187) = wa := ⟨_, rfl⟩
  have HBa : Hid (Below w.heap.size w wa) := hwa ▸ (Below.refl _ w).alloc (Nat.le_refl _) _
  have HM : Hid (∀ (k : Nat) (V : World), k ≤ Z.length → Ln W0 L q c Z o k V → Calls Tryz.prog 131 #[.pointer (some ⟨L, 0, none⟩)] V fun e w' => e = .returned (.bool (decide (k < Z.length))) ∧ ∃ m, w' = V.drewN m) := fun k V hk hV => lmore_any W0 L q c Z o k V hV hk
  have HP : Hid (∀ (k : Nat) (hk : k < X.length) (V : World), Ln W0 L q c Z o (n + k) V → Calls Tryz.prog 218 #[.agg #[], .pointer (some ⟨L, 0, none⟩)] V (RdE W0 L q c Z o (n + k + 1) (chunk X[k]) V)) := fun k hk V hV => readText_any W0 L q c Z o (n + k) _ V hV X[k] (hX _ (List.getElem_mem hk)) rfl (hz k hk) hG
  have HSt : Hid (∀ k (hk : k < X.length), chunks (X.take (k + 1)) = chunks (X.take k) ++ chunk X[k] ∧ (chunks (X.take k)).size + (chunk X[k]).size ≤ 1073741824) := fun k hk => by
    have e : chunks (X.take (k + 1)) = chunks (X.take k) ++ chunk X[k] := by
      rw [List.take_add_one, List.getElem?_eq_getElem hk, Option.toList_some, chunks_snoc]
    refine ⟨e, ?_⟩
    have h2 := chunks_size_take X (k + 1)
    rw [e, ByteArray.size_append] at h2
    omega
  have HEnd : Hid (chunks (X.take X.length) = chunks X) := by unfold Hid; rw [List.take_length]
  have HT0 : Hid (chunks (X.take 0) = ⟨#[]⟩) := rfl
  have HB0 := hide' (Bd.new wa)
  have HBb : Hid (Below w.heap.size w (wa.alloc (.cells #[.pointer none, .slice none 0 0] 58))) := HBa.out.alloc HBa.out.size _
  have HLb := hide' (h.below HBb.out)
  have HLt : Hid (L < wa.heap.size) := Nat.lt_of_lt_of_le h.lt HBa.out.size
  have HSz : Hid (w.heap.size ≤ wa.heap.size) := HBa.out.size
  have HN := hide' hn
  have HP0 := hide' (HP.out 0 (by omega))
  have HS0 := hide' (HSt.out 0 (by omega))
  have hX0 : 0 < X.length := by omega
  generalize X[0] = x0 at *
  clear hX hz hb hn
  go_enter Tryz.func223, Tryz.ntmps223
  go_wp2_with (first
    | (go_at_call 218; refine (HP0.out _ HLb.out).mono ?_; rintro e1 w3 ⟨rfl, hL, hR⟩; have HL3 := hide' hL; have HR3 := hide' ((Rg.of_below HBb.out L).trans hR); have HB3 := hide' (HB0.out.rg hR HLt.out); clear hL hR)
    | (go_at_call 15; refine (bwrite_any _ _ _ _ _ HB3.out HS0.out.2).mono ?_; rintro e2 w4 ⟨rfl, hB4, hb4⟩; have HL4 := hide' (HL3.out.belowB hb4 HLt.out); have HR4 := hide' (HR3.out.belowB hb4 HSz.out); have HB4 := hide' hB4; clear hB4 hb4))
  go_loopw [10] (fun _ wr => ∃ k : Nat, 1 ≤ k ∧ k ≤ X.length ∧ Hid (Ln W0 L q c Z o (n + k) wr) ∧ Hid (Bd wa.heap.size wa.heap.size (chunks (X.take k)) wr) ∧ Hid (Rg w wr L))
    (fun _ wr => Z.length - (match wr.cell? ⟨L, 2, none⟩ with | some (.int _ n) => n.toNat | _ => 0))
  case atStart => exact ⟨1, Nat.le_refl _, by omega, HL4.out, (by rw [show (1 : Nat) = 0 + 1 from rfl, HS0.out.1]; exact HB4.out), HR4.out⟩
  case round =>
    clear HB0 HBb HLb HL3 HB3 HL4 HB4 HR3 HR4
    obtain ⟨k, hk1, hk, HL, HB, HR⟩ := hrel
    have HMs := hide' HL.out.c2
    have HM1 := hide' (HM.out (n + k) wr (by have := HN.out; omega) HL.out)
    by_cases hlt : k < X.length
    · rw [decide_eq_true (show n + k < Z.length by have := HN.out; omega)] at HM1
      have HP1 := hide' (HP.out k hlt)
      have HS1 := hide' (HSt.out k hlt)
      generalize X[k] = xk at *
      go_wp2_with (first
        | (go_at_call 131; refine HM1.out.mono ?_; rintro e0 w5 ⟨rfl, m, hw5⟩; have hw5' := hw5; subst hw5')
        | (go_at_call 218; refine (HP1.out _ (HL.out.drewN m)).mono ?_; rintro e1 w6 ⟨rfl, hL, hR⟩; have HL6 := hide' hL; have HR6 := hide' (HR.out.trans ((Rg.of_below (below_drewN (Below.refl _ _) m) L).trans hR)); have HB6 := hide' ((HB.out.below (below_drewN (Below.refl _ _) m)).rg hR HLt.out); clear hL hR)
        | (go_at_call 15; refine (bwrite_any _ _ _ _ _ HB6.out HS1.out.2).mono ?_; rintro e2 w7 ⟨rfl, hB7, hb7⟩; have HL7 := hide' (HL6.out.belowB hb7 HLt.out); have HR7 := hide' (HR6.out.belowB hb7 HSz.out); have HB7 := hide' hB7; clear hB7 hb7))
      go_roundw
      case rel => exact ⟨k + 1, by omega, by omega, HL7, (by rw [HS1.out.1]; exact HB7), HR7⟩
      case measure =>
        rw [HMs.out, HL7.out.c2]
        have := HN.out
        simp; omega
    · obtain rfl : k = X.length := by omega
      rw [decide_eq_false (show ¬ n + X.length < Z.length by have := HN.out; omega)] at HM1
      have HB' : Hid (Bd wa.heap.size wa.heap.size (chunks X) wr) := by have := HB.out; rw [HEnd.out] at this; exact this
      clear HB
      go_wp2_with (first
        | (go_at_call 131; refine HM1.out.mono ?_; rintro e0 w2 ⟨rfl, m, hw2⟩; have hw2' := hw2; subst hw2')
        | (go_at_call 22; refine (bstring_any _ _ _ _ (HB'.out.below (below_drewN (Below.refl _ _) m))).mono ?_; rintro e2 w4 ⟨rfl, -, hb4⟩; have HL4 := hide' ((HL.out.drewN m).belowB hb4 HLt.out); have HR4 := hide' ((HR.out.trans (Rg.of_below (below_drewN (Below.refl _ _) m) L)).belowB hb4 HSz.out); clear hb4))
      go_ret
      exact ⟨rfl, HL4.out, HR4.out⟩
theorem row_rg {w w' : World} {L base e size n : Nat} {v : Value} {xs : List Value} (h : w.ownsRow base e size v n xs) (hr : Rg w w' L) (hL : L < base) : w'.ownsRow base e size v n xs := by
  obtain ⟨h0, (⟨h1, h2⟩ | ⟨g, cap, cur, h1, hb, hg, h4, h5, h6, h7⟩)⟩ := h
  · exact ⟨h0, .inl ⟨h1, h2⟩⟩
  · exact ⟨h0, .inr ⟨g, cap, cur, h1, hb, (hr.block g (Array.getElem?_eq_some_iff.1 hg).1 (fun e => by injection e with e; omega)).trans hg, h4, h5, h6, h7⟩⟩
theorem nums_snoc (l : List Nat) (y : Nat) : nums (l ++ [y]) = nums l ++ [.int .i64 (y : Int)] := by simp [nums]
set_option maxRecDepth 100000 in
set_option maxHeartbeats 4000000 in
theorem readSet_any (W0 : World) (L : Nat) (q : Option Addr) (c : Nat) (Z : List Wz) (o : ByteArray) (n : Nat) (b : ByteArray) (U : List Nat) (w : World) (h : Ln W0 L q c Z o n w) (hU : typB b = some U) (hb : b.size ≤ 65535) (hn : n + U.length = Z.length) (hz : ∀ j (hj : j < U.length), Z[n + j]? = some ⟨lsB (nameT (U[j] : Int)), false⟩) (hG : GD W0) :
    Calls Tryz.prog 251 #[.agg #[], .pointer (some ⟨L, 0, none⟩)] w (RdE W0 L q c Z o (n + U.length) b w) := by
  obtain ⟨i0, hi, hz0, hz1, hz2⟩ := info_parts Tryz.infoInt
  obtain ⟨hU1, hU2, hU3⟩ := typB_facts hU
  have hback := setB_back hU
  have hsort := sort_rising hU1
  obtain ⟨wa, hwa⟩ : ∃ wa, w.alloc (.cells #[] 194) = wa := ⟨_, rfl⟩
  have HBa : Hid (Below w.heap.size w wa) := hwa ▸ (Below.refl _ w).alloc (Nat.le_refl _) _
  have HLa := hide' (h.below HBa.out)
  have HLt : Hid (L < wa.heap.size) := Nat.lt_of_lt_of_le h.lt HBa.out.size
  have HM : Hid (∀ (k : Nat) (V : World), k ≤ Z.length → Ln W0 L q c Z o k V → Calls Tryz.prog 131 #[.pointer (some ⟨L, 0, none⟩)] V fun e w' => e = .returned (.bool (decide (k < Z.length))) ∧ ∃ m, w' = V.drewN m) := fun k V hk hV => lmore_any W0 L q c Z o k V hV hk
  have HP : Hid (∀ (k : Nat) (hk : k < U.length) (V : World), Ln W0 L q c Z o (n + k) V → Calls Tryz.prog 240 #[.pointer (some ⟨L, 0, none⟩)] V fun e w' => e = .returned (.int .i64 (U[k] : Int)) ∧ Ln W0 L q c Z o (n + k + 1) w' ∧ Rg V w' L) := fun k hk V hV => readType_any W0 L q c Z o (n + k) U[k] V hV (hz k hk) (hU2 _ (List.getElem_mem hk)).1 (hU2 _ (List.getElem_mem hk)).2 hG
  have HSt : Hid (∀ k (hk : k < U.length), nums (U.take (k + 1)) = nums (U.take k) ++ [.int .i64 (U[k] : Int)]) := fun k hk => by
    rw [List.take_add_one, List.getElem?_eq_getElem hk, Option.toList_some, nums_snoc]
  have hUl : U.length ≤ 524280 := by omega
  have HSet : Hid (∀ (V : World) (p : Option Addr) (c' : Nat), U.length ≤ c' → c' ≤ 9223372036854775807 → V.ownsRow wa.heap.size 3 1 (.slice p U.length c') U.length (nums (U.take U.length)) → Calls Tryz.prog 254 #[.slice p U.length c'] V fun e w' => e = .returned (.string b) ∧ Below V.heap.size V w') := fun V p c' hc1 hc2 ho => by
    have hl : (U.map fun n : Nat => (n : Int)).length = U.length := List.length_map _
    have hzat : ZAt V V.heap.size p (U.map fun n : Nat => (n : Int)) := fun k hk => by
      rw [hl] at hk
      obtain ⟨g, c2, hpe⟩ := owns_some ho (by omega)
      simp only [Value.slice.injEq] at hpe
      obtain ⟨rfl, -, rfl⟩ := hpe
      have hc := ho.cellAt k (by omega)
      rw [List.take_length] at hc
      have e : (nums U)[k]? = some (.int .i64 (U[k] : Int)) := by unfold nums; rw [List.getElem?_map, List.getElem?_eq_getElem hk]; rfl
      rw [e] at hc
      refine ⟨g, 0, rfl, Lib.lt_of_cell hc, ?_⟩
      rw [Nat.zero_add, hc, List.getElem_map]
    have := set_any (U.map fun n : Nat => (n : Int)) p c' V (by omega) (by omega) hc2 hzat
    rw [hsort, hback, hl] at this
    exact this
  have HN := hide' hn
  clear hz hback hsort hU hU1 hU2 hU3 hb hn
  go_enter Tryz.func251, Tryz.ntmps251
  go_wp2_with fail
  go_loopw [5] (fun sv wr => ∃ (k : Nat) (p : Option Addr) (c' : Nat), sv = .slice p k c' ∧ k ≤ U.length ∧ Hid (Ln W0 L q c Z o (n + k) wr) ∧ Hid (wr.ownsRow wa.heap.size 3 1 (.slice p k c') k (nums (U.take k))) ∧ Hid (Rg w wr L) ∧ Hid (wa.heap.size ≤ wr.heap.size))
    (fun sv _ => U.length - (match sv with | .slice _ n _ => n | _ => 0))
  case atStart => exact ⟨0, none, 0, rfl, Nat.zero_le _, HLa.out, World.ownsRow_nil _ _ _ _, Rg.of_below HBa.out L, Nat.le_refl _⟩
  case round =>
    obtain ⟨k, p, c', rfl, hk, HL, HO, HR, HSz⟩ := hrel
    have HM1 := hide' (HM.out (n + k) wr (by have := HN.out; omega) HL.out)
    by_cases hlt : k < U.length
    · rw [decide_eq_true (show n + k < Z.length by have := HN.out; omega)] at HM1
      have HP1 := hide' (HP.out k hlt)
      have HS1 := hide' (HSt.out k hlt)
      generalize U[k] = u at *
      go_wp2_with (first
        | (go_at_call 131; refine HM1.out.mono ?_; rintro e0 w5 ⟨rfl, m, hw5⟩; have hw5' := hw5; subst hw5')
        | (go_at_call 240; refine (HP1.out _ (HL.out.drewN m)).mono ?_; rintro e1 w6 ⟨rfl, hL, hR⟩; have HL6 := hide' hL; have HO6 := hide' (row_rg (ownsRow_below HO.out (below_drewN (Below.refl _ _) m)) hR HLt.out); have HSz6 : Hid (wa.heap.size ≤ w6.heap.size) := Nat.le_trans HSz.out hR.size; have HR6 := hide' (HR.out.trans ((Rg.of_below (below_drewN (Below.refl _ _) m) L).trans hR)); clear hL hR)
        | (at_builtin; refine wpList_append_own _ rfl _ _ 299 rfl wa.heap.size 3 i0 (.int .i64 0) 1 8 Tryz.underlying299 hi hz0 hz1 hz2 rfl (by decide) (.slice p k c') k (nums (U.take k)) ?_ (HO6.out.alloc _) ⟨w6.heap.size, 0, none⟩ 1 1 [.int .i64 (u : Int)] ?_ rfl (cell_one_new _ _ _) (by simp [Value.oneCell']) (by unfold maxLen; omega) (by omega) (by have := HSz6.out; simp; omega) ?_; rfl; rfl; intro v7 w7 ho7 hg7 _; obtain ⟨g7, c7, hv7⟩ := owns_some ho7 (by omega); subst hv7; have HO7 := hide' ho7; have HB7 : Hid (Below wa.heap.size w6 w7) := below_app (Below.refl _ _) HSz6.out HO6.out hg7; clear ho7 hg7))
      refine ⟨⟨k + 1, _, c7, rfl, by omega, HL6.out.belowB HB7.out HLt.out, by rw [HS1.out]; exact HO7, HR6.out.belowB HB7.out HBa.out.size, Nat.le_trans HSz6.out HB7.out.size⟩, by simp; omega⟩
    · obtain rfl : k = U.length := by omega
      rw [decide_eq_false (show ¬ n + U.length < Z.length by have := HN.out; omega)] at HM1
      obtain ⟨_, _, hsh, hc8, hcm, -⟩ := own_shape HO.out
      have hcc : U.length ≤ c' := by simp only [Value.slice.injEq] at hsh; omega
      have hcx : c' ≤ 9223372036854775807 := by simp only [Value.slice.injEq] at hsh; unfold maxLen at hcm; omega
      clear hsh hc8 hcm
      have HS1 := hide' (fun m => HSet.out (wr.drewN m) p c' hcc hcx (ownsRow_below HO.out (below_drewN (Below.refl _ _) m)))
      clear HO HSet
      go_wp2_with (first
        | (go_at_call 131; refine HM1.out.mono ?_; rintro e0 w5 ⟨rfl, m, hw5⟩; have hw5' := hw5; subst hw5')
        | (go_at_call 254; refine (HS1.out m).mono ?_; rintro e1 w6 ⟨rfl, hB6⟩; have HL6 := hide' ((HL.out.drewN m).below hB6); have HR6 := hide' ((HR.out.trans (Rg.of_below (below_drewN (Below.refl _ _) m) L)).trans (Rg.of_below hB6 L)); clear hB6))
      go_ret
      exact ⟨rfl, HL6.out, HR6.out⟩
end Go.Proofs.YtiaccimdjfdkgaaGreatDoor

/-
  Proofs: strings.Split; an address of four bytes read from the word that tells it. (The verifier's own text.)
-/
namespace Go.Proofs.YtiaccimdjfdkgaaGreatDoor
set_option linter.unusedVariables false
set_option linter.unusedSimpArgs false
open Go.RowKit Go.Shelf Go.Proofs.YtiaccimdjfdkgaaGreatDoor.Nm

theorem split_any (c : Nat) (hc : c < 256) (x : List Nat) (L : List (List Nat)) (w : World) (h : ∀ z ∈ x :: L, ∀ y ∈ z, y < 256 ∧ y ≠ c) (hl : (jnC c (x :: L)).length ≤ 1048576) (hG : Gm w) :
    Calls Tryz.prog 205 #[.string (bts (jnC c (x :: L))), .string (bts [c])] w fun e w' => e = .returned (.slice (some ⟨w.heap.size, 0, none⟩) (L.length + 1) (L.length + 1)) ∧ w' = w.alloc (.cells ((x :: L).map fun l => Value.string (bts l)).toArray 9) := by
  obtain ⟨m, hm⟩ := hG
  have h1 := Any.strings_Split Tryz.lays146 (by kernel_rfl) (bts (jnC c (x :: L))) (bts [c]) m w (by rw [bts_size]; omega) hm (by show 1 ≤ 1; omega)
  obtain ⟨e1, e2⟩ := split_jn hc x L h
  rw [e1, e2, List.map_map] at h1
  exact h1
theorem row_new {w : World} {l : List Value} {T : TypeId} {j : Nat} {v : Value} (h : l[j]? = some v) : (w.alloc (.cells l.toArray T)).cell? ⟨w.heap.size, j, none⟩ = some v := by
  rw [World.cell?_alloc_mark]
  simpa using h
set_option maxRecDepth 100000 in
set_option maxHeartbeats 8000000 in
theorem readIp4_any (W0 : World) (L : Nat) (q : Option Addr) (c : Nat) (Z : List Wz) (o : ByteArray) (n : Nat) (b : ByteArray) (w : World) (h : Ln W0 L q c Z o n w) (hb : b.size = 4) (hz : Z[n]? = some ⟨ip4L b, false⟩) (hG : GD W0) :
    Calls Tryz.prog 202 #[.agg #[], .pointer (some ⟨L, 0, none⟩)] w (RdE W0 L q c Z o (n + 1) b w) := by
  obtain ⟨i0, hi, hz0, hz1, hz2⟩ := info_parts Tryz.infoByte
  obtain ⟨wa, hwa⟩ : ∃ wa, w.alloc (.cells #[] 182) = wa := ⟨_, rfl⟩
  have HBa : Hid (Below w.heap.size w wa) := hwa ▸ (Below.refl _ w).alloc (Nat.le_refl _) _
  have HLa := hide' (h.below HBa.out)
  have HP := hide' (fun V hV => plain_any W0 L q c Z o n _ V hV hz rfl)
  simp only at HP
  have hlen : (lsB b).length = 4 := by rw [lsB_len]; exact hb
  obtain ⟨b0, b1, b2, b3, hls⟩ : ∃ b0 b1 b2 b3, lsB b = [b0, b1, b2, b3] := by
    match hq : lsB b, hlen with
    | [b0, b1, b2, b3], _ => exact ⟨b0, b1, b2, b3, rfl⟩
  have hlt := lsB_lt b
  have hbb := bts_ls b
  have HSp : Hid (∀ V, Below W0.heap.size W0 V → Calls Tryz.prog 205 #[.string (bts (ip4L b)), .string ⟨#[46]⟩] V fun e w' => e = .returned (.slice (some ⟨V.heap.size, 0, none⟩) 4 4) ∧ w' = V.alloc (.cells (([b0, b1, b2, b3]).map fun x => Value.string (bts (dgN x))).toArray 9)) := fun V hV => by
    have e : ip4L b = jnC 46 (dgN b0 :: [dgN b1, dgN b2, dgN b3]) := by unfold ip4L; rw [hls]; rfl
    have h4 := jnC_len 46 3 (dgN b0 :: [dgN b1, dgN b2, dgN b3]) (fun y hy => by
      have : ∃ x ∈ lsB b, y = dgN x := by rw [hls]; simp at hy ⊢; exact hy
      obtain ⟨x, hx, rfl⟩ := this
      have := hlt x hx
      exact dgN_len 2 x (by omega))
    have := split_any 46 (by omega) (dgN b0) [dgN b1, dgN b2, dgN b3] V (fun z hz y hy => by
      have : ∃ x ∈ lsB b, z = dgN x := by rw [hls]; simp at hz ⊢; exact hz
      obtain ⟨x, _, rfl⟩ := this
      have := dgN_dig x y hy
      omega) (by simp at h4 ⊢; omega) (hG.gm.below hV)
    rw [e]
    exact this
  have HEl : Hid (∀ k, k < 4 → ∃ u, (([b0, b1, b2, b3]).map fun x => Value.string (bts (dgN x)))[k]? = some (.string (bts (dgN u))) ∧ u < 256 ∧ byts ([b0, b1, b2, b3].take (k + 1)) = byts ([b0, b1, b2, b3].take k) ++ [.int .u8 (u : Int)]) := fun k hk => by
    have hk' : k < [b0, b1, b2, b3].length := hk
    refine ⟨[b0, b1, b2, b3][k], by rw [List.getElem?_map, List.getElem?_eq_getElem hk']; rfl, by have := hlt [b0, b1, b2, b3][k] (by rw [hls]; exact List.getElem_mem hk'); exact this, by rw [List.take_add_one, List.getElem?_eq_getElem hk', Option.toList_some, byts_snoc]⟩
  have HCv : Hid (∀ (V : World) (B : Nat) (p : Option Addr) (c' : Nat), V.ownsRow B 5 1 (.slice p 4 c') 4 (byts ([b0, b1, b2, b3].take 4)) → (convert 56 9 (.slice p 4 c')).run Tryz.prog V = .ok (.string b) V) := fun V B p c' ho => by
    have := str_owns (W := V) (b := B) (c := c') (p := p) (xs := lsB b) (by rw [hls]; exact ho) hlt
    rw [hbb, hls] at this
    exact this
  have HNm : Hid (∀ V, Below W0.heap.size W0 V → ∀ u : Nat, u < 256 → Calls Tryz.prog 73 #[.string (bts (dgN u)), .int .i64 3, .int .i64 8] V fun e w' => e = .returned (.tuple #[.int .i64 (u : Int), .bool true]) ∧ Below V.heap.size V w') := fun V hV u hu => by
    have hl := dgN_len 2 u (by omega)
    have h1 := number_at (bts (dgN u)) 8 3 V (by omega) (by omega) (by rw [bts_size]; omega) (hG.gw.below hV).errs
    rw [numR_dec (by decide) (by omega) hl] at h1
    exact h1
  have HHd : Hid (∀ u : Nat, (bts (dgN u)).size ≠ 1 → 0 < (bts (dgN u)).size ∧ bt (bts (dgN u)) 0 ≠ 48) := fun u hu => by
    have h0 := dgN_pos u
    rw [bts_size] at hu ⊢
    refine ⟨h0, fun e => ?_⟩
    have h1 : 0 < u := by
      rcases Nat.eq_zero_or_pos u with e0 | e0
      · subst e0; rw [dgN_small (by omega)] at hu; exact absurd rfl hu
      · exact e0
    rw [bts_bt _ (fun x hx => by have := dgN_dig u x hx; omega) 0 h0] at e
    apply dgN_head u h1
    cases hd : dgN u with
    | nil => rw [hd] at h0; simp at h0
    | cons a l =>
      simp only [hd] at e
      simp at e
      rw [e]; rfl
  have HM := hide' (fun v V => must_any v V)
  generalize bts (ip4L b) = T at *
  clear hz hls hlen hb hlt hbb
  go_enter Tryz.func202, Tryz.ntmps202
  go_wp2_with (first
    | (go_at_call 147; refine (HP.out _ HLa.out).mono ?_; rintro e2 w2 ⟨rfl, hL2, hR2⟩; have HL2 := hide' hL2; have HR2 := hide' ((Rg.of_below HBa.out L).trans hR2); clear hL2 hR2)
    | (go_at_call 205; refine (HSp.out _ HL2.out.bel).mono ?_; rintro e3 w3 ⟨rfl, hw3⟩; have HW3 := hide' hw3; have HB3 : Hid (Below w2.heap.size w2 w3) := (by unfold Hid; rw [hw3]; exact (Below.refl _ _).alloc (Nat.le_refl _) _); clear hw3)
    | (go_at_call 148; refine (HM.out _ _).mono ?_; rintro e1 w4 ⟨rfl, hw4⟩; have hw4' := hw4.symm; subst hw4'))
  go_loopw [6, 21] (fun sv iv wr => ∃ (k : Nat) (p : Option Addr) (c' : Nat), iv = .int .i64 (k : Int) ∧ sv = .slice p k c' ∧ k ≤ 4 ∧ Hid (wr.ownsRow w3.heap.size 5 1 (.slice p k c') k (byts ([b0, b1, b2, b3].take k))) ∧ Hid (Below w3.heap.size w3 wr)) (fun _ iv _ => 4 - (intOf iv).toNat)
  case atStart => exact ⟨0, none, 0, rfl, rfl, by omega, World.ownsRow_nil _ _ _ _, Below.refl _ _⟩
  case round =>
    obtain ⟨k, p, c', rfl, rfl, hk, HO, HB⟩ := hrel
    by_cases hlt : k < 4
    · obtain ⟨u, h1, h2, h3⟩ := HEl.out k hlt
      have hcell : wr.cell? ⟨w2.heap.size, k, none⟩ = some (.string (bts (dgN u))) := by
        have hc3 : w3.cell? ⟨w2.heap.size, k, none⟩ = some (.string (bts (dgN u))) := by rw [HW3.out]; exact row_new h1
        exact (HB.out.cell (p := ⟨w2.heap.size, k, none⟩) (Lib.lt_of_cell hc3)).trans hc3
      have HE := hide' h3
      have HN1 := hide' (fun V hV => HNm.out V hV u h2)
      have HH1 := hide' (HHd.out u)
      have hw8 : IntKind.u8.wrap (u : Int) = (u : Int) := by
        simp [IntKind.wrap, IntKind.bits, IntKind.signed]
        omega
      have pk : (k : Int) < 4 := by omega
      generalize bts (dgN u) = X at *
      clear h1 h3
      by_cases hX : X.size = 1
      · have e1 : ((X.size : Int) == 1) = true := by rw [beq_iff_eq]; omega
        clear hX HH1
        go_wp2_with (first
          | (go_at_call 73; refine (HN1.out _ (HL2.out.below (bstep HB3.out HB.out HB3.out.size)).bel).mono ?_; rintro e5 w5 ⟨rfl, hB5⟩; have HB5 := hide' (bstep HB.out hB5 HB.out.size); have HO5 := hide' (ownsRow_below HO.out hB5); clear hB5)
          | (go_at_call 148; refine (HM.out _ _).mono ?_; rintro e1 w4 ⟨rfl, hw4⟩; have hw4' := hw4.symm; subst hw4')
          | (at_builtin; refine wpList_append_own _ rfl _ _ 56 rfl w3.heap.size 5 i0 (.int .u8 0) 1 1 Tryz.underlying56 hi hz0 hz1 hz2 rfl (by decide) (.slice p k c') k _ ?_ (HO5.out.alloc _) ⟨w5.heap.size, 0, none⟩ 1 1 [.int .u8 (u : Int)] ?_ rfl (cell_one_new _ _ _) (by simp [Value.oneCell']) (by unfold maxLen; omega) (by omega) (by have := HB5.out.size; simp; omega) ?_; rfl; rfl; intro v7 w7 ho7 hg7 _; obtain ⟨g7, c7, hv7⟩ := owns_some ho7 (by omega); subst hv7; have HO7 := hide' ho7; have HB7 := hide' (below_app HB5.out (Nat.le_refl _) HO5.out hg7); clear ho7 hg7))
        exact ⟨⟨k + 1, _, c7, by go_num, rfl, by omega, by rw [HE.out]; exact HO7, HB7⟩, by simp [intOf]; omega⟩
      · obtain ⟨hx0, hx1⟩ := HH1.out hX
        obtain ⟨y, hy, HY, hyl⟩ := bt_wrap hx0
        rw [HY] at hx1
        have e1 : ((X.size : Int) == 1) = false := by rw [beq_eq_false_iff_ne]; omega
        have e2 : ((y : Int) != 48) = true := by rw [bne_iff_ne]; omega
        clear HH1 HY
        go_wp2_with (first
          | (go_at_call 73; refine (HN1.out _ (HL2.out.below (bstep HB3.out HB.out HB3.out.size)).bel).mono ?_; rintro e5 w5 ⟨rfl, hB5⟩; have HB5 := hide' (bstep HB.out hB5 HB.out.size); have HO5 := hide' (ownsRow_below HO.out hB5); clear hB5)
          | (go_at_call 148; refine (HM.out _ _).mono ?_; rintro e1 w4 ⟨rfl, hw4⟩; have hw4' := hw4.symm; subst hw4')
          | (at_builtin; refine wpList_append_own _ rfl _ _ 56 rfl w3.heap.size 5 i0 (.int .u8 0) 1 1 Tryz.underlying56 hi hz0 hz1 hz2 rfl (by decide) (.slice p k c') k _ ?_ (HO5.out.alloc _) ⟨w5.heap.size, 0, none⟩ 1 1 [.int .u8 (u : Int)] ?_ rfl (cell_one_new _ _ _) (by simp [Value.oneCell']) (by unfold maxLen; omega) (by omega) (by have := HB5.out.size; simp; omega) ?_; rfl; rfl; intro v7 w7 ho7 hg7 _; obtain ⟨g7, c7, hv7⟩ := owns_some ho7 (by omega); subst hv7; have HO7 := hide' ho7; have HB7 := hide' (below_app HB5.out (Nat.le_refl _) HO5.out hg7); clear ho7 hg7))
        exact ⟨⟨k + 1, _, c7, by go_num, rfl, by omega, by rw [HE.out]; exact HO7, HB7⟩, by simp [intOf]; omega⟩
    · obtain rfl : k = 4 := by omega
      have hcv := HCv.out wr _ p c' HO.out
      clear HO HCv
      go_wp2
      go_ret
      exact ⟨rfl, HL2.out.below (bstep HB3.out HB.out HB3.out.size), HR2.out.trans (Rg.of_below (bstep HB3.out HB.out HB3.out.size) L)⟩
end Go.Proofs.YtiaccimdjfdkgaaGreatDoor
