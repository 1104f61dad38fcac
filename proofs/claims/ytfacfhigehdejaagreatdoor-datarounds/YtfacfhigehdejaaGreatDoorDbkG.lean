import Derived.Test.YtfacfhigehdejaaGreatDoorDbhG
import Derived.Test.YtfacfhigehdejaaGreatDoorNu1G
import Derived.Test.YtfacfhigehdejaaGreatDoorRlSG
/-
  Proofs: fields read from the words that tell them: texts, digits, hashes, salts, types. (The verifier's own text.)
-/
namespace Go.Proofs.YtfacfhigehdejaaGreatDoor
set_option linter.unusedVariables false
set_option linter.unusedSimpArgs false
open Go.RowKit Go.Shelf Go.Proofs.YtfacfhigehdejaaGreatDoor.Nm

/-- how the reading of a field ends -/
def RdE (W0 : World) (L : Nat) (q : Option Addr) (c : Nat) (Z : List Wz) (o : ByteArray) (n : Nat) (b : ByteArray) (w : World) (e : Ending) (w' : World) : Prop := e = .returned (.string b) ∧ Ln W0 L q c Z o n w' ∧ Rg w w' L
theorem low_app (a b : List Nat) : lowB (bts (a ++ b)) = lowB (bts a) ++ lowB (bts b) := by
  refine ba_ext (by rw [ByteArray.size_append, lowB_size, lowB_size, lowB_size, bts_append, ByteArray.size_append]) fun j hj => ?_
  rw [lowB_size] at hj
  rw [lowB_bt, bts_append]
  by_cases h : j < (bts a).size
  · rw [bt_append_left _ _ _ h, bt_append_left _ _ _ (by rw [lowB_size]; exact h), lowB_bt]
  · rw [bt_append_right _ _ _ (by omega), bt_append_right _ _ _ (by rw [lowB_size]; omega), lowB_size, lowB_bt]
theorem low_dig {l : List Nat} (h : ∀ x ∈ l, x < 65) : lowB (bts l) = bts l := by
  refine ba_ext (lowB_size _) fun j hj => ?_
  rw [lowB_size, bts_size] at hj
  have h1 := h _ (List.getElem_mem hj)
  rw [lowB_bt, bts_bt l (fun x hx => by have := h x hx; omega) j hj]
  unfold lowN
  rw [if_neg (by omega)]
/-- a type's name names that type -/
theorem typeOf_name {t : Nat} (h1 : 1 ≤ t) (h2 : t ≤ 65535) : typeOfB (lowB (nameT (t : Int))) = t := by
  have hty : isTy (t : Int) = true := by unfold isTy; exact decide_eq_true (by omega)
  unfold nameT
  rw [if_pos hty]
  cases hf : twFind (t : Int) with
  | some s =>
    simp only
    unfold twFind at hf
    cases hq : tw.find? (fun r => decide ((r.1 : Int) = t)) with
    | none => rw [hq] at hf; cases hf
    | some r =>
      rw [hq] at hf
      simp only [Option.map_some, Option.some.injEq] at hf
      subst hf
      have hm := List.mem_of_find?_eq_some hq
      have he := List.find?_some hq
      have he2 : (r.1 : Int) = t := of_decide_eq_true he
      have key : ∀ r ∈ tw, typeOfB (lowB r.2) = r.1 := by decide +kernel
      rw [key r hm]
      omega
  | none =>
    simp only
    have e : (⟨#[84, 89, 80, 69]⟩ : ByteArray) ++ ⟨(Lib.itoa (t : Int)).toArray⟩ = bts ([84, 89, 80, 69] ++ dgN t) := by
      rw [bts_append, bts_dg]
      congr 1
    have hd : lowB (bts (dgN t)) = bts (dgN t) := low_dig (fun x hx => by have := dgN_dig t x hx; omega)
    have hT : lowB (bts [84, 89, 80, 69]) = ⟨#[116, 121, 112, 101]⟩ := by decide +kernel
    rw [e, low_app, hd, hT]
    generalize hD : bts (dgN t) = D
    have hz : ((⟨#[116, 121, 112, 101]⟩ : ByteArray) ++ D).size = 4 + D.size := by rw [ByteArray.size_append]; rfl
    have hp : ((⟨#[116, 121, 112, 101]⟩ : ByteArray) ++ D).extract 0 4 = ⟨#[116, 121, 112, 101]⟩ := by
      refine ba_ext (by rw [size_pre (by omega)]; rfl) fun j hj => ?_
      rw [size_pre (by omega)] at hj
      rw [bt_pre (by omega) hj, bt_append_left _ _ _ (by exact hj)]
    have hr : ((⟨#[116, 121, 112, 101]⟩ : ByteArray) ++ D).extract 4 ((⟨#[116, 121, 112, 101]⟩ : ByteArray) ++ D).size = D := by
      refine ba_ext (by rw [size_extract' _ _ _ (Nat.le_refl _), hz]; omega) fun j hj => ?_
      rw [size_extract' _ _ _ (Nat.le_refl _), hz] at hj
      rw [bt_extract _ _ _ _ (by omega) (Nat.le_refl _), bt_append_right _ _ _ (by show 4 ≤ _; omega)]
      congr 1
      show 4 + j - 4 = j
      omega
    have hn : twWord ((⟨#[116, 121, 112, 101]⟩ : ByteArray) ++ D) = none := twWord_none (fun r hr he => by
      have key : ∀ r ∈ tw, (lowB r.2).extract 0 4 ≠ ⟨#[116, 121, 112, 101]⟩ := by decide +kernel
      exact key r hr (by rw [he]; exact hp))
    rw [typeOf_yes hn (by omega) hp, hr, ← hD, numR_dec (by decide) (by omega) (dgN_len 4 t (by omega))]
    rfl
set_option maxRecDepth 100000 in
/-- data.readType -/
theorem readType_any (W0 : World) (L : Nat) (q : Option Addr) (c : Nat) (Z : List Wz) (o : ByteArray) (n t : Nat) (w : World) (h : Ln W0 L q c Z o n w) (hz : Z[n]? = some ⟨lsB (nameT (t : Int)), false⟩) (h1 : 1 ≤ t) (h2 : t ≤ 65535) (hG : GD W0) :
    Calls Tryz.prog 154 #[.pointer (some ⟨L, 0, none⟩)] w fun e w' => e = .returned (.int .i64 (t : Int)) ∧ Ln W0 L q c Z o (n + 1) w' ∧ Rg w w' L := by
  have HP := hide' (plain_any W0 L q c Z o n _ w h hz rfl)
  simp only [bts_ls] at HP
  have hsz := (nameT_ok h1 h2).2
  rw [lsB_len] at hsz
  have HT : Hid (∀ V, Below W0.heap.size W0 V → Calls Tryz.prog 9 #[.string (nameT (t : Int))] V fun e w' => e = .returned (.int .i64 (t : Int)) ∧ Below V.heap.size V w') := fun V hV => by
    have := typeOf_any (nameT (t : Int)) V (by omega) (hG.gw.below hV)
    rw [typeOf_name h1 h2] at this
    exact this
  have HI : Hid (∀ V, Calls Tryz.prog 26 #[.int .i64 (t : Int)] V fun e w' => e = .returned (.bool true) ∧ w' = V) := fun V => by
    have := isType_any (t : Int) V
    rw [show isTy (t : Int) = true by unfold isTy; exact decide_eq_true (by omega)] at this
    exact this
  have HM := hide' (fun v V => must_any v V)
  generalize nameT (t : Int) = T at *
  clear hz
  go_enter Tryz.func154, Tryz.ntmps154
  go_wp2_with (first
    | (go_at_call 42; refine HP.out.mono ?_; rintro e0 w2 ⟨rfl, hL, hR⟩; have HL2 := hide' hL; have HR2 := hide' hR; clear hL hR)
    | (go_at_call 9; refine (HT.out _ HL2.out.bel).mono ?_; rintro e1 w3 ⟨rfl, hB1⟩; have HL3 := hide' (HL2.out.below hB1); have HR3 := hide' (HR2.out.trans (Rg.of_below hB1 L)); clear hB1)
    | (go_at_call 26; refine (HI.out _).mono ?_; rintro e1 w4 ⟨rfl, hw4⟩; have hw4' := hw4.symm; subst hw4')
    | (go_at_call 43; refine (HM.out _ _).mono ?_; rintro e1 w4 ⟨rfl, hw4⟩; have hw4' := hw4.symm; subst hw4'))
  go_ret
  exact ⟨rfl, HL3.out, HR3.out⟩
end Go.Proofs.YtfacfhigehdejaaGreatDoor

/-
  Proofs: fields read from the words that tell them: texts, tails, digits, salts, hashes, a type. (The verifier's own text; mkdbl.py.)
-/
namespace Go.Proofs.YtfacfhigehdejaaGreatDoor
set_option linter.unusedVariables false
set_option linter.unusedSimpArgs false
open Go.RowKit Go.Shelf Go.Proofs.YtfacfhigehdejaaGreatDoor.Nm

theorem nB_vN {b : ByteArray} (h : b.size ≤ 4) : nB (vN b b.size) b.size = b := by
  refine ba_ext (nB_size _ _) fun j hj => ?_
  rw [nB_size] at hj
  rw [nB_bt _ _ _ hj]
  have h0 := bt_lt b 0
  have h1 := bt_lt b 1
  have h2 := bt_lt b 2
  have h3 := bt_lt b 3
  have hs : b.size = 1 ∨ b.size = 2 ∨ b.size = 3 ∨ b.size = 4 := by omega
  rcases hs with e | e | e | e
  · rw [e] at hj ⊢
    obtain rfl : j = 0 := by omega
    simp [vN]; omega
  · rw [e] at hj ⊢
    have : j = 0 ∨ j = 1 := by omega
    rcases this with rfl | rfl <;> simp [vN] <;> omega
  · rw [e] at hj ⊢
    have : j = 0 ∨ j = 1 ∨ j = 2 := by omega
    rcases this with rfl | rfl | rfl <;> simp [vN] <;> omega
  · rw [e] at hj ⊢
    have : j = 0 ∨ j = 1 ∨ j = 2 ∨ j = 3 := by omega
    rcases this with rfl | rfl | rfl | rfl <;> simp [vN] <;> omega
set_option maxRecDepth 100000 in
set_option maxHeartbeats 4000000 in
theorem readText_any (W0 : World) (L : Nat) (q : Option Addr) (c : Nat) (Z : List Wz) (o : ByteArray) (n : Nat) (b : ByteArray) (w : World) (h : Ln W0 L q c Z o n w) (x : ByteArray) (hx : x.size ≤ 255) (hb : b = chunk x) (hz : Z[n]? = some (txW x)) (hG : GD W0) :
    Calls Tryz.prog 130 #[.agg #[], .pointer (some ⟨L, 0, none⟩)] w (RdE W0 L q c Z o (n + 1) b w) := by
  obtain ⟨wa, hwa⟩ : ∃ wa, w.alloc (.cells #[] 86) = wa := ⟨_, rfl⟩
  have HBa : Hid (Below w.heap.size w wa) := hwa ▸ (Below.refl _ w).alloc (Nat.le_refl _) _
  have HLa := hide' (h.below HBa.out)
  subst hb
  have HRb : Hid (∀ V, Ln W0 L q c Z o n V → Calls Tryz.prog 133 #[.pointer (some ⟨L, 0, none⟩)] V fun e w' => e = .returned (.string x) ∧ Ln W0 L q c Z o (n + 1) w' ∧ Rg V w' L) := fun V hV => by
    have := readBytes_any W0 L q c Z o n _ (lsB x) V hV hz rfl (lsB_lt x) (by rw [lsB_len]; omega) hG
    rw [bts_ls] at this
    exact this
  have HW := hide' (fun v V => withCount_any v x V hx)
  generalize chunk x = cx at *
  clear hz
  go_enter Tryz.func130, Tryz.ntmps130
  go_wp2_with (first
    | (go_at_call 133; refine (HRb.out _ HLa.out).mono ?_; rintro e2 w2 ⟨rfl, hL2, hR2⟩; have HL2 := hide' hL2; have HR2 := hide' ((Rg.of_below HBa.out L).trans hR2); clear hL2 hR2)
    | (go_at_call 132; refine (HW.out _ _).mono ?_; rintro e3 w3 ⟨rfl, hB3⟩; have HL3 := hide' (HL2.out.below hB3); have HR3 := hide' (HR2.out.trans (Rg.of_below hB3 L)); clear hB3))
  go_ret
  exact ⟨rfl, HL3.out, HR3.out⟩
set_option maxRecDepth 100000 in
set_option maxHeartbeats 4000000 in
theorem readTail_any (W0 : World) (L : Nat) (q : Option Addr) (c : Nat) (Z : List Wz) (o : ByteArray) (n : Nat) (b : ByteArray) (w : World) (h : Ln W0 L q c Z o n w) (hb : b.size ≤ 65535) (hz : Z[n]? = some ⟨qtL (lsB b), true⟩) (hG : GD W0) :
    Calls Tryz.prog 211 #[.agg #[], .pointer (some ⟨L, 0, none⟩)] w (RdE W0 L q c Z o (n + 1) b w) := by
  obtain ⟨wa, hwa⟩ : ∃ wa, w.alloc (.cells #[] 97) = wa := ⟨_, rfl⟩
  have HBa : Hid (Below w.heap.size w wa) := hwa ▸ (Below.refl _ w).alloc (Nat.le_refl _) _
  have HLa := hide' (h.below HBa.out)
  have HRb : Hid (∀ V, Ln W0 L q c Z o n V → Calls Tryz.prog 133 #[.pointer (some ⟨L, 0, none⟩)] V fun e w' => e = .returned (.string b) ∧ Ln W0 L q c Z o (n + 1) w' ∧ Rg V w' L) := fun V hV => by
    have := readBytes_any W0 L q c Z o n _ (lsB b) V hV hz rfl (lsB_lt b) (by rw [lsB_len]; omega) hG
    rw [bts_ls] at this
    exact this
  clear hz
  go_enter Tryz.func211, Tryz.ntmps211
  go_wp2_with (first
    | (go_at_call 133; refine (HRb.out _ HLa.out).mono ?_; rintro e2 w2 ⟨rfl, hL2, hR2⟩; have HL2 := hide' hL2; have HR2 := hide' ((Rg.of_below HBa.out L).trans hR2); clear hL2 hR2))
  go_ret
  exact ⟨rfl, HL2.out, HR2.out⟩
set_option maxRecDepth 100000 in
set_option maxHeartbeats 4000000 in
theorem readHex_any (W0 : World) (L : Nat) (q : Option Addr) (c : Nat) (Z : List Wz) (o : ByteArray) (n : Nat) (b : ByteArray) (w : World) (h : Ln W0 L q c Z o n w) (hb : b.size ≤ 65535) (h0 : 0 < b.size) (hz : Z[n]? = some ⟨lsB (toWB 4 d16 b), false⟩) (hn : n + 1 = Z.length) :
    Calls Tryz.prog 147 #[.agg #[], .pointer (some ⟨L, 0, none⟩)] w (RdE W0 L q c Z o (n + 1) b w) := by
  obtain ⟨wa, hwa⟩ : ∃ wa, w.alloc (.cells #[] 91) = wa := ⟨_, rfl⟩
  have HBa : Hid (Below w.heap.size w wa) := hwa ▸ (Below.refl _ w).alloc (Nat.le_refl _) _
  have HLa := hide' (h.below HBa.out)
  have HRb := hide' (fun V hV => toEnd16_any W0 L q c Z o n _ b V hV hz hn rfl rfl hb h0)
  clear hz hn
  go_enter Tryz.func147, Tryz.ntmps147
  go_wp2_with (first
    | (go_at_call 149; refine (HRb.out _ HLa.out).mono ?_; rintro e2 w2 ⟨rfl, hL2, hR2⟩; have HL2 := hide' hL2; have HR2 := hide' ((Rg.of_below HBa.out L).trans hR2); clear hL2 hR2))
  go_ret
  exact ⟨rfl, HL2.out, HR2.out⟩
set_option maxRecDepth 100000 in
set_option maxHeartbeats 4000000 in
theorem readBase64_any (W0 : World) (L : Nat) (q : Option Addr) (c : Nat) (Z : List Wz) (o : ByteArray) (n : Nat) (b : ByteArray) (w : World) (h : Ln W0 L q c Z o n w) (hb : b.size ≤ 65535) (h0 : 0 < b.size) (hz : Z[n]? = some ⟨lsB (toWB 6 d64 b) ++ List.replicate (fil64 (toWB 6 d64 b).size) 61, false⟩) (hn : n + 1 = Z.length) :
    Calls Tryz.prog 155 #[.agg #[], .pointer (some ⟨L, 0, none⟩)] w (RdE W0 L q c Z o (n + 1) b w) := by
  obtain ⟨wa, hwa⟩ : ∃ wa, w.alloc (.cells #[] 93) = wa := ⟨_, rfl⟩
  have HBa : Hid (Below w.heap.size w wa) := hwa ▸ (Below.refl _ w).alloc (Nat.le_refl _) _
  have HLa := hide' (h.below HBa.out)
  have HRb := hide' (fun V hV => toEnd64_any W0 L q c Z o n _ b V hV hz hn rfl rfl hb h0)
  clear hz hn
  go_enter Tryz.func155, Tryz.ntmps155
  go_wp2_with (first
    | (go_at_call 149; refine (HRb.out _ HLa.out).mono ?_; rintro e2 w2 ⟨rfl, hL2, hR2⟩; have HL2 := hide' hL2; have HR2 := hide' ((Rg.of_below HBa.out L).trans hR2); clear hL2 hR2))
  go_ret
  exact ⟨rfl, HL2.out, HR2.out⟩
set_option maxRecDepth 100000 in
set_option maxHeartbeats 4000000 in
theorem readOne_any (W0 : World) (L : Nat) (q : Option Addr) (c : Nat) (Z : List Wz) (o : ByteArray) (n : Nat) (b : ByteArray) (w : World) (h : Ln W0 L q c Z o n w) (t : Nat) (h1 : 1 ≤ t) (h2 : t ≤ 65535) (hb : nB t 2 = b) (hz : Z[n]? = some ⟨lsB (nameT (t : Int)), false⟩) (hG : GD W0) :
    Calls Tryz.prog 151 #[.agg #[], .pointer (some ⟨L, 0, none⟩)] w (RdE W0 L q c Z o (n + 1) b w) := by
  obtain ⟨wa, hwa⟩ : ∃ wa, w.alloc (.cells #[] 92) = wa := ⟨_, rfl⟩
  have HBa : Hid (Below w.heap.size w wa) := hwa ▸ (Below.refl _ w).alloc (Nat.le_refl _) _
  have HLa := hide' (h.below HBa.out)
  have HRb := hide' (fun V hV => readType_any W0 L q c Z o n t V hV hz h1 h2 hG)
  have HSb := hide' (fun V => spellBytes_any 2 t V (by omega) (by omega))
  rw [hb] at HSb
  clear hz hb
  go_enter Tryz.func151, Tryz.ntmps151
  go_wp2_with (first
    | (go_at_call 154; refine (HRb.out _ HLa.out).mono ?_; rintro e2 w2 ⟨rfl, hL2, hR2⟩; have HL2 := hide' hL2; have HR2 := hide' ((Rg.of_below HBa.out L).trans hR2); clear hL2 hR2)
    | (go_at_call 98; refine (HSb.out _).mono ?_; rintro e3 w3 ⟨rfl, hB3⟩; have HL3 := hide' (HL2.out.below hB3); have HR3 := hide' (HR2.out.trans (Rg.of_below hB3 L)); clear hB3))
  go_ret
  exact ⟨rfl, HL3.out, HR3.out⟩
set_option maxRecDepth 100000 in
set_option maxHeartbeats 4000000 in
theorem readHash_any (W0 : World) (L : Nat) (q : Option Addr) (c : Nat) (Z : List Wz) (o : ByteArray) (n : Nat) (b : ByteArray) (w : World) (h : Ln W0 L q c Z o n w) (x : ByteArray) (hx : x.size ≤ 255) (h0 : 0 < x.size) (hb : b = chunk x) (hz : Z[n]? = some ⟨lsB (to32B x), false⟩) :
    Calls Tryz.prog 206 #[.agg #[], .pointer (some ⟨L, 0, none⟩)] w (RdE W0 L q c Z o (n + 1) b w) := by
  obtain ⟨wa, hwa⟩ : ∃ wa, w.alloc (.cells #[] 96) = wa := ⟨_, rfl⟩
  have HBa : Hid (Below w.heap.size w wa) := hwa ▸ (Below.refl _ w).alloc (Nat.le_refl _) _
  have HLa := hide' (h.below HBa.out)
  subst hb
  have HP := hide' (fun V hV => plain_any W0 L q c Z o n _ V hV hz rfl)
  simp only [bts_ls] at HP
  have HF : Hid (∀ V, Calls Tryz.prog 209 #[.string (to32B x)] V fun e w' => e = .returned (.tuple #[.string x, .bool true]) ∧ Below V.heap.size V w') := fun V => by
    have hz8 := c32_len x
    have h := from32_any (to32B x) V (by rw [to32B_size]; omega)
    rw [from_to] at h
    unfold fromEnd at h
    simp only at h
    rw [bts_lst] at h
    exact h
  have HW := hide' (fun v V => withCount_any v x V hx)
  have HM := hide' (fun v V => must_any v V)
  have he := isEmpty_false (r := x) h0
  generalize chunk x = cx at *
  generalize to32B x = T at *
  clear hz
  go_enter Tryz.func206, Tryz.ntmps206
  go_wp2_with (first
    | (go_at_call 42; refine (HP.out _ HLa.out).mono ?_; rintro e2 w2 ⟨rfl, hL2, hR2⟩; have HL2 := hide' hL2; have HR2 := hide' ((Rg.of_below HBa.out L).trans hR2); clear hL2 hR2)
    | (go_at_call 209; refine (HF.out _).mono ?_; rintro e3 w3 ⟨rfl, hB3⟩; have HL3 := hide' (HL2.out.below hB3); have HR3 := hide' (HR2.out.trans (Rg.of_below hB3 L)); clear hB3)
    | (go_at_call 43; refine (HM.out _ _).mono ?_; rintro e9 w9 ⟨rfl, hw9⟩; have hw9' := hw9.symm; subst hw9')
    | (go_at_call 132; refine (HW.out _ _).mono ?_; rintro e4 w4 ⟨rfl, hB4⟩; have HL4 := hide' (HL3.out.below hB4); have HR4 := hide' (HR3.out.trans (Rg.of_below hB4 L)); clear hB4))
  go_ret
  exact ⟨rfl, HL4.out, HR4.out⟩
set_option maxRecDepth 100000 in
set_option maxHeartbeats 4000000 in
theorem readSalt0_any (W0 : World) (L : Nat) (q : Option Addr) (c : Nat) (Z : List Wz) (o : ByteArray) (n : Nat) (b : ByteArray) (w : World) (h : Ln W0 L q c Z o n w) (hb : b = chunk ⟨#[]⟩) (hz : Z[n]? = some ⟨[45], false⟩) :
    Calls Tryz.prog 204 #[.agg #[], .pointer (some ⟨L, 0, none⟩)] w (RdE W0 L q c Z o (n + 1) b w) := by
  obtain ⟨wa, hwa⟩ : ∃ wa, w.alloc (.cells #[] 95) = wa := ⟨_, rfl⟩
  have HBa : Hid (Below w.heap.size w wa) := hwa ▸ (Below.refl _ w).alloc (Nat.le_refl _) _
  have HLa := hide' (h.below HBa.out)
  subst hb
  have HP := hide' (fun V hV => plain_any W0 L q c Z o n _ V hV hz rfl)
  simp only [show bts [45] = ⟨#[45]⟩ from rfl] at HP
  have HW := hide' (fun v V => withCount_any v ⟨#[]⟩ V (by show (0 : Nat) ≤ 255; omega))
  generalize chunk ⟨#[]⟩ = cx at *
  clear hz
  go_enter Tryz.func204, Tryz.ntmps204
  go_wp2_with (first
    | (go_at_call 42; refine (HP.out _ HLa.out).mono ?_; rintro e2 w2 ⟨rfl, hL2, hR2⟩; have HL2 := hide' hL2; have HR2 := hide' ((Rg.of_below HBa.out L).trans hR2); clear hL2 hR2)
    | (go_at_call 132; refine (HW.out _ _).mono ?_; rintro e3 w3 ⟨rfl, hB3⟩; have HL3 := hide' (HL2.out.below hB3); have HR3 := hide' (HR2.out.trans (Rg.of_below hB3 L)); clear hB3))
  go_ret
  exact ⟨rfl, HL3.out, HR3.out⟩
set_option maxRecDepth 100000 in
set_option maxHeartbeats 4000000 in
theorem readSalt1_any (W0 : World) (L : Nat) (q : Option Addr) (c : Nat) (Z : List Wz) (o : ByteArray) (n : Nat) (b : ByteArray) (w : World) (h : Ln W0 L q c Z o n w) (x : ByteArray) (hx : x.size ≤ 255) (h0 : 0 < x.size) (hb : b = chunk x) (hz : Z[n]? = some ⟨lsB (toWB 4 d16 x), false⟩) :
    Calls Tryz.prog 204 #[.agg #[], .pointer (some ⟨L, 0, none⟩)] w (RdE W0 L q c Z o (n + 1) b w) := by
  obtain ⟨wa, hwa⟩ : ∃ wa, w.alloc (.cells #[] 95) = wa := ⟨_, rfl⟩
  have HBa : Hid (Below w.heap.size w wa) := hwa ▸ (Below.refl _ w).alloc (Nat.le_refl _) _
  have HLa := hide' (h.below HBa.out)
  subst hb
  have HP := hide' (fun V hV => plain_any W0 L q c Z o n _ V hV hz rfl)
  simp only [bts_ls] at HP
  have HF := hide' (fun V => from16_of x V (by omega))
  have HW := hide' (fun v V => withCount_any v x V hx)
  have HM := hide' (fun v V => must_any v V)
  have he := isEmpty_false (r := x) h0
  have hq : ((toWB 4 d16 x).toList == [45]) = false := by
    have h1 := toList_bt (toWB 4 d16 x) ⟨#[45]⟩
    rw [show (⟨#[45]⟩ : ByteArray).toList = [45] by decide +kernel] at h1
    rw [h1]
    refine decide_eq_false fun e => ?_
    have h2 : 0 < (toWB 4 d16 x).size := by rw [toWB_size]; exact cW_pos dg16 h0
    have h3 := (toWB_all (P := sgnD) dg16 x d16_sgn 0 h2).2.2.2
    rw [e] at h3
    exact h3 rfl
  generalize chunk x = cx at *
  generalize toWB 4 d16 x = T at *
  clear hz
  go_enter Tryz.func204, Tryz.ntmps204
  go_wp2_with (first
    | (go_at_call 42; refine (HP.out _ HLa.out).mono ?_; rintro e2 w2 ⟨rfl, hL2, hR2⟩; have HL2 := hide' hL2; have HR2 := hide' ((Rg.of_below HBa.out L).trans hR2); clear hL2 hR2)
    | (go_at_call 44; refine (HF.out _).mono ?_; rintro e3 w3 ⟨rfl, hB3⟩; have HL3 := hide' (HL2.out.below hB3); have HR3 := hide' (HR2.out.trans (Rg.of_below hB3 L)); clear hB3)
    | (go_at_call 43; refine (HM.out _ _).mono ?_; rintro e9 w9 ⟨rfl, hw9⟩; have hw9' := hw9.symm; subst hw9')
    | (go_at_call 132; refine (HW.out _ _).mono ?_; rintro e4 w4 ⟨rfl, hB4⟩; have HL4 := hide' (HL3.out.below hB4); have HR4 := hide' (HR3.out.trans (Rg.of_below hB4 L)); clear hB4))
  go_ret
  exact ⟨rfl, HL4.out, HR4.out⟩
end Go.Proofs.YtfacfhigehdejaaGreatDoor
