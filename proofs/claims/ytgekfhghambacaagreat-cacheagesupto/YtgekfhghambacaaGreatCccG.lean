import Derived.Test.YtgekfhghambacaaGreatCcaG
import Derived.RangeFuncWrites
import Derived.Test.YtgekfhghambacaaGreatCmpG
/-
  Chapter 12: strings.HasSuffix, (*cache.Cache).forgetBelow. (The verifier's own text; mkccc.py writes it.)
-/
namespace Go.Proofs.YtgekfhghambacaaGreat
set_option linter.unusedVariables false
set_option linter.unusedSimpArgs false
open Go.RowKit Go.Shelf Go.Maps Go.Proofs.YtgekfhghambacaaGreat.Nm

def sufB (s t : ByteArray) : Bool := decide (t.size ≤ s.size) && ((s.extract (s.size - t.size) s.size).toList == t.toList)
set_option maxRecDepth 100000 in
set_option maxHeartbeats 1000000 in
theorem hasSuffixS_any (s t : ByteArray) (w : World) (hs : s.size ≤ maxLen) (ht : t.size ≤ maxLen) : Calls Tryz.prog 67 #[.string s, .string t] w fun e w' => e = .returned (.bool (sufB s t)) ∧ w' = w := by
  unfold maxLen at hs ht
  by_cases hle : t.size ≤ s.size
  · obtain ⟨k, hk⟩ : ∃ k, s.size - t.size = k := ⟨_, rfl⟩
    have hk2 : (s.size : Int) - (t.size : Int) = (k : Int) := by omega
    have hge : ((s.size : Int) ≥ (t.size : Int)) := by omega
    obtain ⟨z, hz⟩ : ∃ z, ((s.extract k s.size).toList == t.toList) = z := ⟨_, rfl⟩
    have hsuf : sufB s t = z := by unfold sufB; rw [decide_eq_true hle, hk, hz]; rfl
    have HSf := hide' hsuf
    have hk3 : (k : Int) ≤ (s.size : Int) := by omega
    clear hsuf hk hle
    go_enter Tryz.func67, Tryz.ntmps67
    go_wp2_with fail
    go_ret
    refine ⟨by rw [HSf.out]; rfl, rfl⟩
  · have hge : ¬ ((s.size : Int) ≥ (t.size : Int)) := by omega
    have hsuf : sufB s t = false := by unfold sufB; rw [decide_eq_false hle]; rfl
    have HSf := hide' hsuf
    clear hsuf hle
    go_enter Tryz.func67, Tryz.ntmps67
    go_wp2_with fail
    go_ret
    refine ⟨by rw [HSf.out]; rfl, rfl⟩
set_option maxRecDepth 100000 in
set_option maxHeartbeats 1000000 in
theorem hasSuffix_any (s t : ByteArray) (w : World) (hs : s.size ≤ maxLen) (ht : t.size ≤ maxLen) : Calls Tryz.prog 52 #[.string s, .string t] w fun e w' => e = .returned (.bool (sufB s t)) ∧ w' = w := by
  go_enter Tryz.func52, Tryz.ntmps52
  go_wp2_with (go_at_call 67; refine (hasSuffixS_any s t _ hs ht).mono ?_; rintro e1 w1 ⟨rfl, hw1⟩; have hw1' := hw1.symm; subst hw1')
  go_ret
  exact ⟨rfl, rfl⟩
/-- does an entry go, if nothing is at or below a name? -/
def fbB (top : ByteArray) (e : Ce) : Bool := (decide (e.key.1 = 0) || decide (e.key.1 = 1)) && sufB e.key.2.1 top && withinB e.key.2.1 top
set_option maxRecDepth 100000 in
set_option maxHeartbeats 4000000 in
/-- (*cache.Cache).forgetBelow -/
theorem forgetBelow_any {w : World} {L M P base : Nat} {most came : Int} {S : List Ce} {Q : List Qe} {n : ByteArray} (h : Cac w L M P base most came S Q) (hM : Emap w M S) (hn : n.size ≤ maxLen) (hn2 : (foldB n).size ≤ maxLen) :
    Calls Tryz.prog 35 #[.pointer (some ⟨L, 0, none⟩), .string n] w fun r w' => r = .returned (.tuple #[]) ∧ ∃ Q', Cac w' L M P base most came (S.filter (fun e => !fbB (foldB n) e)) Q' ∧ Emap w' M (S.filter (fun e => !fbB (foldB n) e)) ∧ Fk (FK M P) base w w' := by
  have HLM : Hid (L ≠ M) := (h.neLM hM.isMap).1
  have HG := hide' hM.good
  have HN := hide' hM.nodup
  have HC := hide' h
  have HM := hide' hM
  have HFo := hide' (fold_any n w hn)
  have HTs := hide' hn2
  clear h hM hn hn2
  go_enter Tryz.func35, Tryz.ntmps35
  go_wp2_with (go_at_call 39; refine HFo.out.mono ?_; rintro e0 wd ⟨rfl, hBd⟩; have HGd := hide' (grown_below hBd none); have HSz : Hid (w.heap.size ≤ wd.heap.size) := hBd.size; have HCd := hide' (HC.out.idle HGd.out); have HMd : Hid (Emap wd M S) := Lmap.kept HM.out HGd.out (by simp); clear hBd; obtain ⟨w0, left0, hrun0, hrg0, hall0, hg0, hs0⟩ := Emap.range HMd.out; have HR0 : Hid (Erng w0 M wd.heap.size left0 S.length (cutF (fbB (foldB n)) left0 S)) := (by rw [cutF_all hall0]; exact hrg0); have HC0 : Hid (Cac w0 L M P base most came (cutF (fbB (foldB n)) left0 S) Q) := (by rw [cutF_all hall0]; exact HCd.out.idle hg0); have HF0 : Hid (Fk (FK M P) base w w0) := (Fk.idle HGd.out).trans (Fk.idle hg0); have c2 : wd.cell? ⟨L, 2, none⟩ = some (.map (some M)) := HCd.out.bx.cell rfl; clear hrg0 hall0 hg0 hs0)
  obtain ⟨rb, hrb⟩ : ∃ rb, wd.heap.size = rb := ⟨_, rfl⟩
  have HIt : Hid (w.heap.size ≤ rb) := hrb ▸ HSz.out
  rw [hrb] at HR0 ⊢
  clear hrb hrun0
  obtain ⟨top, htop⟩ : ∃ top, foldB n = top := ⟨_, rfl⟩
  rw [htop] at HR0 HC0 HTs ⊢
  have HTop := hide' htop
  clear htop HCd HMd c2 HFo HC HM HSz HGd
  go_loopw [] (fun wr => ∃ (left : Lit → Bool) (cnt : Nat) (Q1 : List Qe), Hid (Erng wr M rb left cnt (cutF (fbB top) left S)) ∧ Hid (Cac wr L M P base most came (cutF (fbB top) left S) Q1) ∧ Hid (Fk (FK M P) base w wr)) (fun wr => wr.rangeLeft M rb)
  case atStart => exact ⟨left0, _, Q, HR0.out, HC0.out, HF0.out⟩
  case round =>
    obtain ⟨left, cnt, Q1, HR, HC, HF⟩ := hrel
    rcases HR.out.next 0 with ⟨hc0, hl0, hrun⟩ | ⟨a, ha, w1, cnt1, hla, hrun, hr1, hlt, hg1, hs1, hen⟩
    · have hend := cutF_end (g := fbB top) (S := S) hl0
      have HC3 := hide' (hend ▸ HC.out)
      have HM3 := hide' (hend ▸ HR.out.map)
      clear hend hl0 hc0
      go_wp2_with fail
      go_end0
      rw [HTop.out]
      exact ⟨rfl, Q1, HC3.out, HM3.out, HF.out⟩
    · have HR1 := hide' hr1
      have HC1 : Hid (Cac w1 L M P base most came (cutF (fbB top) left S) Q1) := by
        obtain ⟨x, y, z, u, hi⟩ := HR.out.isIter
        exact HC.out.iter hi hg1
      have HF1 : Hid (Fk (FK M P) base w w1) := HF.out.fresh hg1 HIt.out
      have HAm : Hid (a ∈ S) := cutF_sub.mem ha
      have hba := (HC1.out.en a ha).1
      have HLt : Hid (cnt1 < cnt) := hlt
      have hml := HR.out.left_eq
      have HM0 := hide' hml
      obtain ⟨w2, hw2⟩ : ∃ w2, w1.alloc (.cells #[.int .i64 a.key.1, .string a.key.2.1, .int .i64 a.key.2.2.1, .string a.key.2.2.2] 57) = w2 := ⟨_, rfl⟩
      have HG2 : Hid (w1.grownBy w2 none) := hw2 ▸ World.grownBy_alloc w1 _ none
      have hkb : Bx w2 w1.heap.size #[.int .i64 a.key.1, .string a.key.2.1, .int .i64 a.key.2.2.1, .string a.key.2.2.2] 57 := hw2 ▸ alloc_key w1 a.key
      have HC2 := hide' (HC1.out.idle HG2.out)
      have HR2 : Hid (Erng w2 M rb (fun x => left x && !x.sameKey (kyL a.key)) cnt1 (cutF (fbB top) left S)) := Lrng.kept HR1.out HG2.out (by simp) (by simp)
      have HF2 : Hid (Fk (FK M P) base w w2) := HF1.out.trans (Fk.idle HG2.out)
      have hba2 := hba.grown HG2.out (by simp)
      have HKX : Hid (kyG a.key) := HG.out a HAm.out
      have HFG := hide' (forget_any (I := fun V T => ∃ c, c ≤ cnt1 ∧ Erng V M rb (fun x => left x && !x.sameKey (kyL a.key)) c T) (mvR M rb cnt1 HKX.out left_once) HC2.out ⟨cnt1, Nat.le_refl _, HR2.out⟩ HKX.out)
      have hkv : kyV a.key = .agg #[.int .i64 a.key.1, .string a.key.2.1, .int .i64 a.key.2.2.1, .string a.key.2.2.2] := rfl
      rw [hkv] at HFG
      have HKK : Hid ((w2.cell? ⟨w1.heap.size, 0, none⟩ = some (.int .i64 a.key.1)) ∧ (w2.cell? ⟨w1.heap.size, 1, none⟩ = some (.string a.key.2.1)) ∧ (w2.cell? ⟨w1.heap.size, 2, none⟩ = some (.int .i64 a.key.2.2.1)) ∧ (w2.cell? ⟨w1.heap.size, 3, none⟩ = some (.string a.key.2.2.2))) := ⟨hkb.cell rfl, hkb.cell rfl, hkb.cell rfl, hkb.cell rfl⟩
      unfold kyV at hrun hen
      clear hr1 hg1 hs1 hlt ha hla hml hba hkb hkv
      have HKS := hide' HKX.out.2.1
      clear hba2
      obtain ⟨⟨k0, k1, k2, k3⟩, hak⟩ : ∃ k, a.key = k := ⟨_, rfl⟩
      rw [hak] at HFG HKK hrun hen HR2 HKS
      have HAK := hide' hak
      simp only at HFG HKK hrun hen HKS
      have HSf := hide' (fun V => hasSuffix_any k1 top V HKS.out HTs.out)
      have HWi := hide' (fun V => within_any k1 top V HKS.out HTs.out)
      have hfb : fbB top a = ((decide (k0 = 0) || decide (k0 = 1)) && sufB k1 top && withinB k1 top) := by unfold fbB; rw [hak]
      have hw2' : w1.alloc (.cells #[.int .i64 k0, .string k1, .int .i64 k2, .string k3] 57) = w2 := by rw [← hw2, hak]
      clear hw2 hak
      have y0 : w2.cell? ⟨w1.heap.size, 0, none⟩ = some (.int .i64 k0) := HKK.out.1
      have y1 : w2.cell? ⟨w1.heap.size, 1, none⟩ = some (.string k1) := HKK.out.2.1

      have HKK2 : Hid (∀ V : World, w2.grownBy V none → V.cell? ⟨w1.heap.size, 0, none⟩ = some (.int .i64 k0) ∧ V.cell? ⟨w1.heap.size, 1, none⟩ = some (.string k1) ∧ V.cell? ⟨w1.heap.size, 2, none⟩ = some (.int .i64 k2) ∧ V.cell? ⟨w1.heap.size, 3, none⟩ = some (.string k3)) := fun V hV => by
        obtain ⟨x0, x1, x2, x3⟩ := HKK.out
        exact ⟨cell_kept x0 hV (fun r e => by cases e), cell_kept x1 hV (fun r e => by cases e), cell_kept x2 hV (fun r e => by cases e), cell_kept x3 hV (fun r e => by cases e)⟩
      have HKQ : Hid (kyG (k0, k1, k2, k3)) := HAK.out ▸ HKX.out
      have HFG2 : Hid (∀ V : World, w2.grownBy V none → Calls Tryz.prog 26 #[.pointer (some ⟨L, 0, none⟩), .agg #[.int .i64 k0, .string k1, .int .i64 k2, .string k3]] V fun e w' => e = .returned (.tuple #[]) ∧ ∃ Q', Cac w' L M P base most came (outK Ce.key (k0, k1, k2, k3) (cutF (fbB top) left S)) Q' ∧ (∃ c, c ≤ cnt1 ∧ Erng w' M rb (fun x => left x && !x.sameKey (kyL (k0, k1, k2, k3))) c (outK Ce.key (k0, k1, k2, k3) (cutF (fbB top) left S))) ∧ Fk (FK M P) base V w') := fun V hV =>
        forget_any (I := fun V T => ∃ c, c ≤ cnt1 ∧ Erng V M rb (fun x => left x && !x.sameKey (kyL (k0, k1, k2, k3))) c T) (x := (k0, k1, k2, k3)) (mvR M rb cnt1 HKQ.out left_once) (HC2.out.idle hV) ⟨cnt1, Nat.le_refl _, Lrng.kept HR2.out hV (by simp) (by simp)⟩ HKQ.out
      generalize sufB k1 top = zs at *
      generalize withinB k1 top = zw at *
      have HKp : Hid (fbB top a = false → ∃ Q', Hid (Erng w2 M rb (fun x => left x && !x.sameKey (kyL (k0, k1, k2, k3))) cnt1 (cutF (fbB top) (fun x => left x && !x.sameKey (kyL (k0, k1, k2, k3))) S)) ∧ Hid (Cac w2 L M P base most came (cutF (fbB top) (fun x => left x && !x.sameKey (kyL (k0, k1, k2, k3))) S) Q')) := fun hf => by
        have hk := cutF_keep (left := left) HG.out HN.out HAm.out hf
        rw [HAK.out] at hk
        exact ⟨Q1, hk ▸ HR2.out, hk ▸ HC2.out⟩
      have HDr : Hid (fbB top a = true → cutF (fbB top) (fun x => left x && !x.sameKey (kyL (k0, k1, k2, k3))) S = outK Ce.key (k0, k1, k2, k3) (cutF (fbB top) left S)) := fun hf => by
        have hk := cutF_drop (left := left) HG.out HN.out HAm.out hf
        rw [HAK.out] at hk
        exact hk
      by_cases h0 : k0 = 0
      · subst h0
        have e0 : ((0 : Int) == 0) = true := rfl
        cases zs with
        | false =>
          have HFb : Hid (fbB top a = false) := by unfold Hid; rw [hfb]; cases zw <;> simp
          clear hfb
          obtain ⟨Q', HRk, HCk⟩ := HKp.out HFb.out
          clear HFG HKp HDr
          go_wp2_with (first
            | (go_at_call 52; refine (HSf.out _).mono ?_; rintro r3 w3 ⟨rfl, hw3⟩; have hw3' := hw3.symm; subst hw3')
            | (go_at_call 33; refine (HWi.out _).mono ?_; rintro r4 w4 ⟨rfl, hB4⟩; have HB4 := hide' (grown_below hB4 none); clear hB4)
            | (go_at_call 26; refine HFG.out.mono ?_; rintro r5 w5 ⟨rfl, hw5⟩; obtain ⟨Q5, hC5, hR5, hf5⟩ := hw5; obtain ⟨cnt5, hc5, hR5⟩ := hR5; have HC5 := hide' hC5; have HR5 := hide' hR5; have Hf5 := hide' hf5; have Hc5 := hide' hc5; clear hC5 hR5 hf5 hc5))
          go_roundw
          case rel => exact ⟨_, cnt1, Q', HRk.out, HCk.out, HF2.out⟩
          case measure => rw [HM0.out, HRk.out.left_eq]; exact HLt.out
        | true =>
          cases zw with
          | false =>
            have HFb : Hid (fbB top a = false) := by unfold Hid; rw [hfb]; simp
            clear hfb
            obtain ⟨Q', HRk, HCk⟩ := HKp.out HFb.out
            clear HFG HKp HDr
            go_wp2_with (first
              | (go_at_call 52; refine (HSf.out _).mono ?_; rintro r3 w3 ⟨rfl, hw3⟩; have hw3' := hw3.symm; subst hw3')
              | (go_at_call 33; refine (HWi.out _).mono ?_; rintro r4 w4 ⟨rfl, hB4⟩; have HB4 := hide' (grown_below hB4 none); clear hB4)
              | (go_at_call 26; refine HFG.out.mono ?_; rintro r5 w5 ⟨rfl, hw5⟩; obtain ⟨Q5, hC5, hR5, hf5⟩ := hw5; obtain ⟨cnt5, hc5, hR5⟩ := hR5; have HC5 := hide' hC5; have HR5 := hide' hR5; have Hf5 := hide' hf5; have Hc5 := hide' hc5; clear hC5 hR5 hf5 hc5))
            go_roundw
            case rel => exact ⟨_, cnt1, Q', Lrng.kept HRk.out HB4.out (by simp) (by simp), HCk.out.idle HB4.out, HF2.out.trans (Fk.idle HB4.out)⟩
            case measure => rw [HM0.out, (Lrng.kept HRk.out HB4.out (by simp) (by simp)).left_eq]; exact HLt.out
          | true =>
            have HFb : Hid (fbB top a = true) := by unfold Hid; rw [hfb]; simp
            clear hfb
            have HD := hide' (HDr.out HFb.out)
            clear HFG HKp HDr
            go_wp2_with (first
              | (go_at_call 52; refine (HSf.out _).mono ?_; rintro r3 w3 ⟨rfl, hw3⟩; have hw3' := hw3.symm; subst hw3')
              | (go_at_call 33; refine (HWi.out _).mono ?_; rintro r4 w4 ⟨rfl, hB4⟩; have HB4 := hide' (grown_below hB4 none); clear hB4; have HFG := hide' (HFG2.out _ HB4.out); obtain ⟨x0, x1, x2, x3⟩ := HKK2.out _ HB4.out)
              | (go_at_call 26; refine HFG.out.mono ?_; rintro r5 w5 ⟨rfl, hw5⟩; obtain ⟨Q5, hC5, hR5, hf5⟩ := hw5; obtain ⟨cnt5, hc5, hR5⟩ := hR5; have HC5 := hide' hC5; have HR5 := hide' hR5; have Hf5 := hide' hf5; have Hc5 := hide' hc5; clear hC5 hR5 hf5 hc5))
            go_roundw
            case rel => exact ⟨_, cnt5, Q5, HD.out ▸ HR5.out, HD.out ▸ HC5.out, (HF2.out.trans (Fk.idle HB4.out)).trans Hf5.out⟩
            case measure => rw [HM0.out, HR5.out.left_eq]; exact Nat.lt_of_le_of_lt Hc5.out HLt.out
      · have e0 : (k0 == 0) = false := by rw [beq_eq_false_iff_ne]; exact h0
        have H0 := hide' h0
        by_cases h1 : k0 = 1
        · subst h1
          have e1 : ((1 : Int) == 1) = true := rfl
          clear h0
          cases zs with
          | false =>
            have HFb : Hid (fbB top a = false) := by unfold Hid; rw [hfb]; cases zw <;> simp
            clear hfb
            obtain ⟨Q', HRk, HCk⟩ := HKp.out HFb.out
            clear HFG HKp HDr
            go_wp2_with (first
              | (go_at_call 52; refine (HSf.out _).mono ?_; rintro r3 w3 ⟨rfl, hw3⟩; have hw3' := hw3.symm; subst hw3')
              | (go_at_call 33; refine (HWi.out _).mono ?_; rintro r4 w4 ⟨rfl, hB4⟩; have HB4 := hide' (grown_below hB4 none); clear hB4)
              | (go_at_call 26; refine HFG.out.mono ?_; rintro r5 w5 ⟨rfl, hw5⟩; obtain ⟨Q5, hC5, hR5, hf5⟩ := hw5; obtain ⟨cnt5, hc5, hR5⟩ := hR5; have HC5 := hide' hC5; have HR5 := hide' hR5; have Hf5 := hide' hf5; have Hc5 := hide' hc5; clear hC5 hR5 hf5 hc5))
            go_roundw
            case rel => exact ⟨_, cnt1, Q', HRk.out, HCk.out, HF2.out⟩
            case measure => rw [HM0.out, HRk.out.left_eq]; exact HLt.out
          | true =>
            cases zw with
            | false =>
              have HFb : Hid (fbB top a = false) := by unfold Hid; rw [hfb]; simp
              clear hfb
              obtain ⟨Q', HRk, HCk⟩ := HKp.out HFb.out
              clear HFG HKp HDr
              go_wp2_with (first
                | (go_at_call 52; refine (HSf.out _).mono ?_; rintro r3 w3 ⟨rfl, hw3⟩; have hw3' := hw3.symm; subst hw3')
                | (go_at_call 33; refine (HWi.out _).mono ?_; rintro r4 w4 ⟨rfl, hB4⟩; have HB4 := hide' (grown_below hB4 none); clear hB4)
                | (go_at_call 26; refine HFG.out.mono ?_; rintro r5 w5 ⟨rfl, hw5⟩; obtain ⟨Q5, hC5, hR5, hf5⟩ := hw5; obtain ⟨cnt5, hc5, hR5⟩ := hR5; have HC5 := hide' hC5; have HR5 := hide' hR5; have Hf5 := hide' hf5; have Hc5 := hide' hc5; clear hC5 hR5 hf5 hc5))
              go_roundw
              case rel => exact ⟨_, cnt1, Q', Lrng.kept HRk.out HB4.out (by simp) (by simp), HCk.out.idle HB4.out, HF2.out.trans (Fk.idle HB4.out)⟩
              case measure => rw [HM0.out, (Lrng.kept HRk.out HB4.out (by simp) (by simp)).left_eq]; exact HLt.out
            | true =>
              have HFb : Hid (fbB top a = true) := by unfold Hid; rw [hfb]; simp
              clear hfb
              have HD := hide' (HDr.out HFb.out)
              clear HFG HKp HDr
              go_wp2_with (first
                | (go_at_call 52; refine (HSf.out _).mono ?_; rintro r3 w3 ⟨rfl, hw3⟩; have hw3' := hw3.symm; subst hw3')
                | (go_at_call 33; refine (HWi.out _).mono ?_; rintro r4 w4 ⟨rfl, hB4⟩; have HB4 := hide' (grown_below hB4 none); clear hB4; have HFG := hide' (HFG2.out _ HB4.out); obtain ⟨x0, x1, x2, x3⟩ := HKK2.out _ HB4.out)
                | (go_at_call 26; refine HFG.out.mono ?_; rintro r5 w5 ⟨rfl, hw5⟩; obtain ⟨Q5, hC5, hR5, hf5⟩ := hw5; obtain ⟨cnt5, hc5, hR5⟩ := hR5; have HC5 := hide' hC5; have HR5 := hide' hR5; have Hf5 := hide' hf5; have Hc5 := hide' hc5; clear hC5 hR5 hf5 hc5))
              go_roundw
              case rel => exact ⟨_, cnt5, Q5, HD.out ▸ HR5.out, HD.out ▸ HC5.out, (HF2.out.trans (Fk.idle HB4.out)).trans Hf5.out⟩
              case measure => rw [HM0.out, HR5.out.left_eq]; exact Nat.lt_of_le_of_lt Hc5.out HLt.out
        · have e1 : (k0 == 1) = false := by rw [beq_eq_false_iff_ne]; exact h1
          have HFb : Hid (fbB top a = false) := by unfold Hid; rw [hfb, decide_eq_false h0, decide_eq_false h1]; rfl
          clear hfb h0 h1
          obtain ⟨Q', HRk, HCk⟩ := HKp.out HFb.out
          clear HFG HKp HDr
          go_wp2_with (first
            | (go_at_call 52; refine (HSf.out _).mono ?_; rintro r3 w3 ⟨rfl, hw3⟩; have hw3' := hw3.symm; subst hw3')
            | (go_at_call 33; refine (HWi.out _).mono ?_; rintro r4 w4 ⟨rfl, hB4⟩; have HB4 := hide' (grown_below hB4 none); clear hB4)
            | (go_at_call 26; refine HFG.out.mono ?_; rintro r5 w5 ⟨rfl, hw5⟩; obtain ⟨Q5, hC5, hR5, hf5⟩ := hw5; obtain ⟨cnt5, hc5, hR5⟩ := hR5; have HC5 := hide' hC5; have HR5 := hide' hR5; have Hf5 := hide' hf5; have Hc5 := hide' hc5; clear hC5 hR5 hf5 hc5))
          go_roundw
          case rel => exact ⟨_, cnt1, Q', HRk.out, HCk.out, HF2.out⟩
          case measure => rw [HM0.out, HRk.out.left_eq]; exact HLt.out
end Go.Proofs.YtgekfhghambacaaGreat

/-
  Chapter 12: cache.upward: a name and all names above it. (The verifier's own text.)
-/
namespace Go.Proofs.YtgekfhghambacaaGreat
set_option linter.unusedVariables false
set_option linter.unusedSimpArgs false
open Go.RowKit Go.Shelf Go.Maps Go.Proofs.YtgekfhghambacaaGreat.Nm
attribute [local go_sem] Oper.semAt_some

/-- the name so many labels up, nothing behind the root -/
def nmE (s : ByteArray) (j : Nat) : ByteArray := if j ≤ (labs s).length then putB ((labs s).drop j) else ByteArray.empty
theorem nmE_yes {s : ByteArray} {j : Nat} (h : isN s = true) (hj : j ≤ (labs s).length) : isN (nmE s j) = true ∧ labs (nmE s j) = (labs s).drop j := by
  have h1 := tailB_yes (k := (labs s).length - j) h (by omega)
  have e : nmE s j = tailB s (((labs s).length - j : Nat) : Int) := by
    rw [h1.2.2]
    unfold nmE
    rw [if_pos hj]
    congr 2
    omega
  rw [e]
  refine ⟨h1.1, ?_⟩
  rw [h1.2.1]
  congr 1
  omega
theorem nmE_zero {s : ByteArray} (h : isN s = true) : nmE s 0 = s := by
  unfold nmE
  rw [if_pos (Nat.zero_le _), List.drop_zero, putB_labs h]
theorem nmE_par {s : ByteArray} {j : Nat} (h : isN s = true) (hj : j ≤ (labs s).length) : parB (nmE s j) = nmE s (j + 1) := by
  obtain ⟨h1, h2⟩ := nmE_yes h hj
  by_cases hl : j + 1 ≤ (labs s).length
  · rw [parB_yes h1 (by rw [h2, List.length_drop]; omega), h2, List.drop_drop]
    unfold nmE
    rw [if_pos hl]
  · rw [parB_root h1 (by rw [h2, List.length_drop]; omega)]
    unfold nmE
    rw [if_neg hl]
theorem nmE_lt {s : ByteArray} {j : Nat} (h : isN s = true) (hj : j ≤ (labs s).length) : (nmE s (j + 1)).size < (nmE s j).size := by
  have h1 := isN_pos (nmE_yes h hj).1
  by_cases hl : j + 1 ≤ (labs s).length
  · have e1 : nmE s j = chunk ((labs s)[j]'(by omega)) ++ nmE s (j + 1) := by
      unfold nmE
      rw [if_pos hj, if_pos hl, ← putB_cons]
      congr 1
      rw [List.drop_eq_getElem_cons (by omega)]
    rw [e1, ByteArray.size_append, chunk_size]
    omega
  · have : nmE s (j + 1) = ByteArray.empty := by unfold nmE; rw [if_neg hl]
    rw [this]
    exact h1
/-- a name, and all above it -/
def upL (s : ByteArray) : List ByteArray := (List.range ((labs s).length + 1)).map (nmE s)
theorem upL_len (s : ByteArray) : (upL s).length = (labs s).length + 1 := by simp [upL]
theorem upL_take {s : ByteArray} {j : Nat} (hj : j ≤ (labs s).length) : (upL s).take (j + 1) = (upL s).take j ++ [nmE s j] := by
  have hl : j < (upL s).length := by rw [upL_len]; omega
  rw [List.take_succ_eq_append_getElem hl]
  congr 2
  simp [upL]
def sizeV (v : Value) : Nat := match v with | .string s => s.size | _ => 0
/-- a name that is one -/
structure UN where
  v : ByteArray
  ok : isN v = true
def encU (x : UN) : Array Value := #[.string x.v]
/-- nothing is wanted of a round -/
def KpN (W W' : World) : Prop := True
set_option maxRecDepth 100000 in
set_option maxHeartbeats 2000000 in
theorem upward1_in (n : Nat) (hn : 1 ≤ n) (l Bn B0 : Nat) (s : ByteArray) (hs : isN s = true) (J Jx : List UN → World → Prop) (hJ : AbidesFrom B0 J)
    (hY : ∀ pre x W, J pre W → pre.length < (labs s).length + 1 → YieldAt Fence.wide (n - 1) Tryz.prog l (encU x) W fun e W' =>
      (e = .returned (.bool true) ∧ J (pre ++ [x]) W' ∧ KpN W W') ∨ (e = .returned (.bool false) ∧ Jx (pre ++ [x]) W'))
    (W : World) (hBn : W.cell? ⟨Bn, 0, none⟩ = some (.string s)) (h0 : J [] W) :
    CallsIn Fence.wide n Tryz.prog 45 #[.func (.yield l) #[] #[], .pointer (some ⟨Bn, 0, none⟩)] W fun e W' => (∃ v, e = .returned v) ∧
      ((∃ ys, ys.map UN.v = upL s ∧ J ys W') ∨ (∃ pre, pre.map UN.v <+: upL s ∧ Jx pre W')) := by
  have HJ0 : Hid (J [] W) := h0
  have HJ := hide' hJ
  have HS := hide' hs
  have HP : Hid (∀ (x : ByteArray) (V : World), x.size ≤ 255 → CallsIn Fence.wide (n - 1) Tryz.prog 46 #[.string x] V fun e w' => e = .returned (.string (parB x)) ∧ Below V.heap.size V w') := fun x V hx => callsIn_wide.2 (parent_any x V (by unfold maxLen; omega))
  clear h0 hJ hs
  refine callsIn_of_wp Tryz.func45 rfl trivial ?_ rfl
  simp only [Tryz.ntmps45, List.size_toArray, List.length_cons, List.length_nil, Nat.reduceAdd, Nat.reduceSub, Array.replicate_succ, Array.replicate_zero, List.push_toArray, List.append_toArray, List.nil_append, List.cons_append]
  gi_wp2
  gi_loopw [3] (fun p wr => ∃ (j : Nat), Hid (p = .string (nmE s j)) ∧ (∃ x : ByteArray, p = .string x) ∧ j ≤ (labs s).length + 1 ∧ ∃ us : List UN, Hid (us.map UN.v = (upL s).take j) ∧ Hid (J us wr))
    (fun p _ => sizeV p)
  case atStart => exact ⟨0, (by unfold Hid; rw [nmE_zero HS.out]), ⟨_, rfl⟩, by omega, [], (by unfold Hid; rw [List.take_zero]; rfl), HJ0.out⟩
  case round =>
    obtain ⟨j, HPj, ⟨x, rfl⟩, hj, us, HUs, HJs⟩ := hrel
    have HX : Hid (x = nmE s j) := by have := HPj.out; injection this
    clear HPj
    by_cases hlt : j ≤ (labs s).length
    · have hx1 : isN x = true := by rw [HX.out]; exact (nmE_yes HS.out hlt).1
      have hxe : (x.toList == []) = false := by
        rw [beq_eq_false_iff_ne]
        intro e
        have h1 := isN_pos hx1
        have h2 : x.toList = ByteArray.empty.toList := e.trans (by rw [toList_eq]; rfl)
        rw [toList_inj.1 h2] at h1
        exact absurd h1 (by decide)
      have hxs : x.size ≤ 255 := ((isN_iff x).1 hx1).1
      have hul : us.length < (labs s).length + 1 := by
        have h := congrArg List.length HUs.out
        rw [List.length_map, List.length_take, upL_len] at h
        omega
      have hy := hY us ⟨x, hx1⟩ wr HJs.out hul
      have HT : Hid ((us ++ [(⟨x, hx1⟩ : UN)]).map UN.v = (upL s).take (j + 1)) := by unfold Hid; rw [upL_take hlt, List.map_append, HUs.out, ← HX.out]; rfl
      have HPx := hide' (HP.out x · hxs)
      have HN : Hid (parB x = nmE s (j + 1)) := by unfold Hid; rw [HX.out]; exact nmE_par HS.out hlt
      have HLt : Hid ((parB x).size < x.size) := by unfold Hid; rw [HN.out, HX.out]; exact nmE_lt HS.out hlt
      clear hul
      unfold encU at hy
      obtain ⟨fn, tmps, assign, body, hy, hR⟩ := hy
      gi_wp2
      refine hR.mono ?_
      rintro e W3 (⟨rfl, hJ3, hk3⟩ | ⟨rfl, hJx3⟩)
      · have HJ3 := hide' hJ3
        clear hJ3 hk3
        generalize parB x = y at *
        gi_wp2_with (refine ⟨trivial, ?_⟩; gi_at_call 46; refine (HPx.out _).mono ?_; rintro e4 w4 ⟨rfl, hB4⟩; have HB4 := hide' hB4; clear hB4)
        go_roundw
        case rel => exact ⟨j + 1, (by unfold Hid; rw [HN.out]), ⟨_, rfl⟩, by omega, us ++ [(⟨x, hx1⟩ : UN)], HT.out, HJ.out _ _ _ none HJ3.out (grown_below HB4.out none) (fun r e => by cases e)⟩
        case measure => exact HLt.out
      · gi_wp2
        refine bodyPost_ret (results_none rfl _ _ _) rfl ?_
        exact ⟨⟨_, rfl⟩, .inr ⟨us ++ [(⟨x, hx1⟩ : UN)], (by rw [HT.out]; exact List.take_prefix _ _), hJx3⟩⟩
    · have hxe : x = ByteArray.empty := by rw [HX.out]; unfold nmE; rw [if_neg hlt]
      have hxe2 : (x.toList == []) = true := by rw [hxe, toList_eq]; rfl
      have HE : Hid ((upL s).take j = upL s) := List.take_of_length_le (by rw [upL_len]; omega)
      clear hxe
      gi_wp2
      go_end0
      exact ⟨⟨_, rfl⟩, .inl ⟨us, (by rw [HUs.out, HE.out]), HJs.out⟩⟩
theorem upward_in (F : Fence) (n : Nat) (hf : F.fn 28) (hro : F.round = none) (s : ByteArray) (w : World) :
    CallsIn F n Tryz.prog 28 #[.string s] w fun e w' => e = .returned (.func (.func 45) #[] #[.pointer (some ⟨w.heap.size, 0, none⟩)]) ∧ w' = w.alloc (.cells #[.string s] 9) := by
  refine callsIn_of_wp Tryz.func28 rfl hf ?_ hro
  simp only [Tryz.ntmps28, List.size_toArray, List.length_cons, List.length_nil, Nat.reduceAdd, Nat.reduceSub, Array.replicate_succ, Array.replicate_zero, List.push_toArray, List.append_toArray, List.nil_append, List.cons_append]
  gi_wp2
  go_ret
  exact ⟨rfl, rfl⟩
theorem upward_stops (n : Nat) (hn : 1 ≤ n) (Bn : Nat) (s : ByteArray) (hs : isN s = true) (w : World) (hBn : Bn < w.heap.size) (hc : w.cell? ⟨Bn, 0, none⟩ = some (.string s)) :
    SeqStopsK Fence.wide n Tryz.prog 45 #[.pointer (some ⟨Bn, 0, none⟩)] encU KpN (fun ys => ys.map UN.v = upL s) (fun pre => pre.map UN.v <+: upL s) ((labs s).length + 1) w := fun l J Jx W hW hJ _ hY h0 =>
  upward1_in n hn l Bn W.heap.size s hs J Jx hJ hY W ((hW.cell (p := ⟨Bn, 0, none⟩) hBn).trans hc) h0
end Go.Proofs.YtgekfhghambacaaGreat
