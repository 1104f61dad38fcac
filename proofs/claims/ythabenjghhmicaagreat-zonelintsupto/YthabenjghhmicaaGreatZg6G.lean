import Derived.Test.YthabenjghhmicaaGreatZg4G
namespace Go.Proofs.YthabenjghhmicaaGreat
set_option linter.unusedVariables false
set_option linter.unusedSimpArgs false
open Go.RowKit Go.Shelf Go.Maps Go.Proofs.YthabenjghhmicaaGreat.Nm Go.Proofs.YthabenjghhmicaaGreat.Zs
set_option maxRecDepth 100000 in
set_option maxHeartbeats 8000000 in
theorem rfind_noname {zb : Nat} {apex : ByteArray} {M : List Rn} {p : Option Addr} {c : Nat} {W : World} (h : Yz W zb apex M p c) (q : ByteArray) (t : Int) (hq : q.size ≤ 1048576) (na : isN apex = true) (hin : withinB q apex = true ∧ 1 ≤ t ∧ t ≤ 65535) (hlv : (rlvB apex M q t).1 = 0) (hth : rth M q = false) (ke : Nat) (hke : ke ≤ (labs q).length) (hke1 : rth M (tailB q (ke : Int)) = true) (hke2 : ∀ m : Nat, ke < m → m ≤ (labs q).length → rth M (tailB q (m : Int)) = false) (hsr : rth M (starB (renc M q)) = false) :
  Calls Tryz.prog 14 #[.pointer (some ⟨zb, 0, none⟩), .string q, .int .i64 t] W (FdE (rfind apex M q t) W) := by
 have hre := renc_at hke hke1 hke2
 have hM2 := h.few
 have ha255 : apex.size ≤ 255 := ((isN_iff apex).1 na).1
 have HW := hide' (fun V => refWithin_any q apex V hq (by omega))
 have HR0 := hide' (R2.start W)
 obtain ⟨wb, hwb⟩ : ∃ wb, (W.alloc (.cells #[.int .i64 0, .string ⟨#[]⟩, .string ⟨#[]⟩, .bool false, .slice none 0 0] 34)).alloc (.cells #[.int .i64 0, .string ⟨#[]⟩, .string ⟨#[]⟩, .bool false, .slice none 0 0] 34) = wb := ⟨_, rfl⟩
 rw [hwb] at HR0
 have HR : Hid (∀ V, Below wb.heap.size wb V → R2 W V) := fun V hV => HR0.out.step hV
 have HY := hide' (fun V (hV : Below W.heap.size W V) => h.step hV)
 have HZ : Hid (∀ V, Below wb.heap.size wb V → V.cell? ⟨zb, 0, none⟩ = some (.string apex) ∧ V.cell? ⟨zb, 1, none⟩ = some (.slice p M.length c)) := fun V hV => ⟨(HY.out V (HR.out V hV).bl).yx.cell rfl, (HY.out V (HR.out V hV).bl).yx.cell rfl⟩
 have hB := Below.refl wb.heap.size wb
 obtain ⟨z0, z1⟩ := HZ.out _ hB
 have HTr : Hid (∀ V (n : ByteArray), n.size ≤ 1048576 → Below W.heap.size W V → Calls Tryz.prog 55 #[.pointer (some ⟨zb, 0, none⟩), .string n] V fun r w' => r = .returned (.bool (rth M n)) ∧ Below V.heap.size V w') := fun V n hn hV => rthere_any (HY.out V hV) n hn
 have HSt : Hid (∀ V (n : ByteArray), n.size ≤ 1048576 → Below W.heap.size W V → Calls Tryz.prog 56 #[.pointer (some ⟨zb, 0, none⟩), .string n, .int .i64 t] V (RstE M n t V)) := fun V n hn hV => rstands_all (HY.out V hV) n t hn
 obtain ⟨hwi, ht1, ht2⟩ := hin
 have hqN : isN q = true := ((withinB_iff q apex).1 hwi).1
 have HCa := hide' (fun V => refCount_any apex V (by omega))
 have HCq := hide' (fun V => refCount_any q V hq)
 rw [cntI_yes na] at HCa
 rw [cntI_yes hqN] at HCq
 have hle : (labs apex).length ≤ (labs q).length := within_cnt hwi
 have hl255 := labs_few hqN
 have HTl := hide' (fun V (k : Int) => refTail_any q k V hq)
 have HH : Hid (∀ V (n : ByteArray) (t : Int), n.size ≤ 1048576 → Below W.heap.size W V → Calls Tryz.prog 42 #[.slice p M.length c, .string n, .int .i64 t] V fun r w' => r = .returned (.bool (hasB M n t)) ∧ Below V.heap.size V w') := fun V n t hn hV => rhas_any M p c n t V (by have := h.few; omega) (HY.out V hV).rs (fun r hr => ok_small (h.ok r hr)) hn
 have HSe : Hid (∀ V (n : ByteArray) (t : Int), n.size ≤ 1048576 → Below W.heap.size W V → Calls Tryz.prog 22 #[.pointer (some ⟨zb, 0, none⟩), .string n, .int .i64 t] V fun r w' => (∃ v, r = .returned v ∧ w'.ownsRow V.heap.size 54 5 v (rset M n t).length (rce5 (rset M n t))) ∧ Below V.heap.size V w') := fun V n t hn hV => rset_any (HY.out V hV) n t hn
 have i1 : ¬ t < 1 := by omega
 have i2 : ¬ 65535 < t := by omega
 have HRf := hide' (rfind_in (M := M) hwi ht1 ht2)
 have HLs := hide' (fun i h1 h2 h3 => rlv_at (apex := apex) (M := M) (q := q) (t := t) (i := i) h1 h2 h3)
 have HLn := hide' (rlv_no (apex := apex) (M := M) (q := q) (t := t))
 have HKk := hide' (fun k => rlvK_is M q t k)
 obtain ⟨la, hla⟩ : ∃ la, (labs apex).length = la := ⟨_, rfl⟩
 obtain ⟨lq, hlq⟩ : ∃ lq, (labs q).length = lq := ⟨_, rfl⟩
 rw [hla] at HCa hle HLs HLn
 rw [hlq] at HCq hle HLs HLn HKk hl255 hke hke2
 rw [hwi] at HW
 clear h na hla hlq hwi hqN
 obtain ⟨tl, htl⟩ : ∃ tl, tailB q (ke : Int) = tl := ⟨_, rfl⟩
 have htz := tail_sz q (ke : Int)
 rw [htl] at hre htz
 obtain ⟨st, hst⟩ : ∃ st, starB tl = st := ⟨_, rfl⟩
 have HSr := hide' (fun V => refStar_any tl V htz)
 have hsz : st.size ≤ 1048576 := by rw [← hst]; exact star_sz (by have := tailB_size q (ke : Int); rw [htl] at this; exact this)
 rw [hst] at HSr
 rw [hre, hst] at hsr
 have HT2 := hide' (fun V hV => HTr.out V st hsz hV)
 rw [hsr] at HT2
 have HT0 := hide' (fun V hV => HTr.out V q hq hV)
 rw [hth] at HT0
 have HFd : Hid (rfind apex M q t = ⟨6, q, tl, false, []⟩) := by unfold Hid; rw [HRf.out, if_neg (by rw [hlv]; simp), if_neg (by rw [hth]; simp), hre, hst, if_neg (by rw [hsr]; simp)]
 clear hth hre hsr hst
 go_enter Tryz.func14, Tryz.ntmps14
 go_wp2_with (first
  | (go_at_call 52; refine (HW.out _).mono ?_; rintro e w1 ⟨rfl, hB1⟩; have hB := bstep hB hB1 hB.size; obtain ⟨z0, z1⟩ := HZ.out _ hB; clear hB1)
  | (go_at_call 53; refine (HCa.out _).mono ?_; rintro e w2 ⟨rfl, hB1⟩; have hB := bstep hB hB1 hB.size; obtain ⟨z0, z1⟩ := HZ.out _ hB; clear hB1))
 have HBh := hide' hB
 clear hB z0 z1
 go_loopw [8] (fun kv wr => ∃ k : Nat, kv = .int .i64 (k : Int) ∧ la + 1 ≤ k ∧ k ≤ lq + 1 ∧ Hid (∀ i, la + 1 ≤ i → i < k → rlvK M q t i = 0) ∧ Hid (Below wb.heap.size wb wr)) (fun kv _ => lq + 1 - (intOf kv).toNat)
 case atStart => exact ⟨la + 1, by go_num, Nat.le_refl _, by omega, (fun i h1 h2 => by omega), HBh.out⟩
 case round =>
  obtain ⟨k, rfl, hk1, hk2, HN, HBr⟩ := hrel
  have hB := HBr.out
  obtain ⟨z0, z1⟩ := HZ.out _ hB
  by_cases hlt : k ≤ lq
  ·have HT := hide' (fun V => HTl.out V (k : Int))
   have hn := tail_sz q (k : Int)
   have HK := hide' (HKk.out k)
   obtain ⟨n, hnn⟩ : ∃ n, tailB q (k : Int) = n := ⟨_, rfl⟩
   have HNn : Hid (tailB q (k : Int) = n) := hnn
   rw [hnn] at HT hn HK
   clear hnn
   have HH2 := hide' (fun V hV => HH.out V n 2 hn hV)
   have HH9 := hide' (fun V hV => HH.out V n 39 hn hV)
   have HS2 := hide' (fun V hV => HSe.out V n 2 hn hV)
   have HS9 := hide' (fun V hV => HSe.out V n 39 hn hV)
   obtain ⟨b2, hb2⟩ : ∃ b, hasB M n 2 = b := ⟨_, rfl⟩
   obtain ⟨b9, hb9⟩ : ∃ b, hasB M n 39 = b := ⟨_, rfl⟩
   rw [hb2] at HH2 HK
   rw [hb9] at HH9 HK
   clear hb2 hb9
   have pk : (k : Int) ≤ (lq : Int) := by omega
   by_cases he : k = lq
   ·subst he
    by_cases h43 : t = 43
    ·have h43b : (t == 43) = true := by simp [h43]
     have HK0 : Hid (rlvK M q t k = 0) := by unfold Hid; rw [HK.out]; simp [h43]
     clear h43
     have i3 : ¬ (k : Int) < (k : Int) := by omega
     cases b2 <;> cases b9
     ·have HN2 : Hid (∀ i, la + 1 ≤ i → i < k + 1 → rlvK M q t i = 0) := grow_no HN.out HK0.out
      clear HN HK HK0
      go_wp2_with (first
       | (go_at_call 53; refine (HCq.out _).mono ?_; rintro e w1 ⟨rfl, hB1⟩; have hB := bstep hB hB1 hB.size; obtain ⟨z0, z1⟩ := HZ.out _ hB; clear hB1)
       | (go_at_call 54; refine (HT.out _).mono ?_; rintro e w2 ⟨rfl, hB1⟩; have hB := bstep hB hB1 hB.size; obtain ⟨z0, z1⟩ := HZ.out _ hB; clear hB1)
       | (go_at_call 42; (with_reducible refine (HH2.out _ (HR.out _ hB).bl).mono ?_); rintro e w3 ⟨rfl, hB1⟩; have hB := bstep hB hB1 hB.size; obtain ⟨z0, z1⟩ := HZ.out _ hB; clear hB1)
       | (go_at_call 42; (with_reducible refine (HH9.out _ (HR.out _ hB).bl).mono ?_); rintro e w4 ⟨rfl, hB1⟩; have hB := bstep hB hB1 hB.size; obtain ⟨z0, z1⟩ := HZ.out _ hB; clear hB1))
      exact ⟨⟨k + 1, by go_num, by omega, by omega, HN2, hB⟩, by simp [intOf] <;> omega⟩
     ·have HN2 : Hid (∀ i, la + 1 ≤ i → i < k + 1 → rlvK M q t i = 0) := grow_no HN.out HK0.out
      clear HN HK HK0
      go_wp2_with (first
       | (go_at_call 53; refine (HCq.out _).mono ?_; rintro e w1 ⟨rfl, hB1⟩; have hB := bstep hB hB1 hB.size; obtain ⟨z0, z1⟩ := HZ.out _ hB; clear hB1)
       | (go_at_call 54; refine (HT.out _).mono ?_; rintro e w2 ⟨rfl, hB1⟩; have hB := bstep hB hB1 hB.size; obtain ⟨z0, z1⟩ := HZ.out _ hB; clear hB1)
       | (go_at_call 42; (with_reducible refine (HH2.out _ (HR.out _ hB).bl).mono ?_); rintro e w3 ⟨rfl, hB1⟩; have hB := bstep hB hB1 hB.size; obtain ⟨z0, z1⟩ := HZ.out _ hB; clear hB1)
       | (go_at_call 42; (with_reducible refine (HH9.out _ (HR.out _ hB).bl).mono ?_); rintro e w4 ⟨rfl, hB1⟩; have hB := bstep hB hB1 hB.size; obtain ⟨z0, z1⟩ := HZ.out _ hB; clear hB1))
      exact ⟨⟨k + 1, by go_num, by omega, by omega, HN2, hB⟩, by simp [intOf] <;> omega⟩
     ·have HN2 : Hid (∀ i, la + 1 ≤ i → i < k + 1 → rlvK M q t i = 0) := grow_no HN.out HK0.out
      clear HN HK HK0
      go_wp2_with (first
       | (go_at_call 53; refine (HCq.out _).mono ?_; rintro e w1 ⟨rfl, hB1⟩; have hB := bstep hB hB1 hB.size; obtain ⟨z0, z1⟩ := HZ.out _ hB; clear hB1)
       | (go_at_call 54; refine (HT.out _).mono ?_; rintro e w2 ⟨rfl, hB1⟩; have hB := bstep hB hB1 hB.size; obtain ⟨z0, z1⟩ := HZ.out _ hB; clear hB1)
       | (go_at_call 42; (with_reducible refine (HH2.out _ (HR.out _ hB).bl).mono ?_); rintro e w3 ⟨rfl, hB1⟩; have hB := bstep hB hB1 hB.size; obtain ⟨z0, z1⟩ := HZ.out _ hB; clear hB1)
       | (go_at_call 42; (with_reducible refine (HH9.out _ (HR.out _ hB).bl).mono ?_); rintro e w4 ⟨rfl, hB1⟩; have hB := bstep hB hB1 hB.size; obtain ⟨z0, z1⟩ := HZ.out _ hB; clear hB1))
      exact ⟨⟨k + 1, by go_num, by omega, by omega, HN2, hB⟩, by simp [intOf] <;> omega⟩
     ·have HN2 : Hid (∀ i, la + 1 ≤ i → i < k + 1 → rlvK M q t i = 0) := grow_no HN.out HK0.out
      clear HN HK HK0
      go_wp2_with (first
       | (go_at_call 53; refine (HCq.out _).mono ?_; rintro e w1 ⟨rfl, hB1⟩; have hB := bstep hB hB1 hB.size; obtain ⟨z0, z1⟩ := HZ.out _ hB; clear hB1)
       | (go_at_call 54; refine (HT.out _).mono ?_; rintro e w2 ⟨rfl, hB1⟩; have hB := bstep hB hB1 hB.size; obtain ⟨z0, z1⟩ := HZ.out _ hB; clear hB1)
       | (go_at_call 42; (with_reducible refine (HH2.out _ (HR.out _ hB).bl).mono ?_); rintro e w3 ⟨rfl, hB1⟩; have hB := bstep hB hB1 hB.size; obtain ⟨z0, z1⟩ := HZ.out _ hB; clear hB1)
       | (go_at_call 42; (with_reducible refine (HH9.out _ (HR.out _ hB).bl).mono ?_); rintro e w4 ⟨rfl, hB1⟩; have hB := bstep hB hB1 hB.size; obtain ⟨z0, z1⟩ := HZ.out _ hB; clear hB1))
      exact ⟨⟨k + 1, by go_num, by omega, by omega, HN2, hB⟩, by simp [intOf] <;> omega⟩
    ·have h43b : (t == 43) = false := by simp [h43]
     have i3 : ¬ (k : Int) < (k : Int) := by omega
     cases b2 with
     | true =>
      have HK0 : Hid (rlvK M q t k = 4) := by unfold Hid; rw [HK.out]; simp [h43]
      have hRL := HLs.out k hk1 hlt (by rw [HK0.out]; decide) HN.out
      rw [hRL, HK0.out] at hlv; exact absurd hlv (by simp)
     | false =>
      have HK0 : Hid (rlvK M q t k = 0) := by unfold Hid; rw [HK.out]; simp
      cases b9
      ·have HN2 : Hid (∀ i, la + 1 ≤ i → i < k + 1 → rlvK M q t i = 0) := grow_no HN.out HK0.out
       clear HN HK HK0
       go_wp2_with (first
        | (go_at_call 53; refine (HCq.out _).mono ?_; rintro e w1 ⟨rfl, hB1⟩; have hB := bstep hB hB1 hB.size; obtain ⟨z0, z1⟩ := HZ.out _ hB; clear hB1)
        | (go_at_call 54; refine (HT.out _).mono ?_; rintro e w2 ⟨rfl, hB1⟩; have hB := bstep hB hB1 hB.size; obtain ⟨z0, z1⟩ := HZ.out _ hB; clear hB1)
        | (go_at_call 42; (with_reducible refine (HH2.out _ (HR.out _ hB).bl).mono ?_); rintro e w3 ⟨rfl, hB1⟩; have hB := bstep hB hB1 hB.size; obtain ⟨z0, z1⟩ := HZ.out _ hB; clear hB1)
        | (go_at_call 42; (with_reducible refine (HH9.out _ (HR.out _ hB).bl).mono ?_); rintro e w4 ⟨rfl, hB1⟩; have hB := bstep hB hB1 hB.size; obtain ⟨z0, z1⟩ := HZ.out _ hB; clear hB1))
       exact ⟨⟨k + 1, by go_num, by omega, by omega, HN2, hB⟩, by simp [intOf] <;> omega⟩
      ·have HN2 : Hid (∀ i, la + 1 ≤ i → i < k + 1 → rlvK M q t i = 0) := grow_no HN.out HK0.out
       clear HN HK HK0
       go_wp2_with (first
        | (go_at_call 53; refine (HCq.out _).mono ?_; rintro e w1 ⟨rfl, hB1⟩; have hB := bstep hB hB1 hB.size; obtain ⟨z0, z1⟩ := HZ.out _ hB; clear hB1)
        | (go_at_call 54; refine (HT.out _).mono ?_; rintro e w2 ⟨rfl, hB1⟩; have hB := bstep hB hB1 hB.size; obtain ⟨z0, z1⟩ := HZ.out _ hB; clear hB1)
        | (go_at_call 42; (with_reducible refine (HH2.out _ (HR.out _ hB).bl).mono ?_); rintro e w3 ⟨rfl, hB1⟩; have hB := bstep hB hB1 hB.size; obtain ⟨z0, z1⟩ := HZ.out _ hB; clear hB1)
        | (go_at_call 42; (with_reducible refine (HH9.out _ (HR.out _ hB).bl).mono ?_); rintro e w4 ⟨rfl, hB1⟩; have hB := bstep hB hB1 hB.size; obtain ⟨z0, z1⟩ := HZ.out _ hB; clear hB1))
       exact ⟨⟨k + 1, by go_num, by omega, by omega, HN2, hB⟩, by simp [intOf] <;> omega⟩
   ·have i3 : (k : Int) < (lq : Int) := by omega
    have i4 : ((k : Int) == (lq : Int)) = false := by rw [beq_eq_false_iff_ne]; omega
    cases b2 with
    | true =>
     have HK0 : Hid (rlvK M q t k = 4) := by unfold Hid; rw [HK.out]; simp [he]
     have hRL := HLs.out k hk1 hlt (by rw [HK0.out]; decide) HN.out
     rw [hRL, HK0.out] at hlv; exact absurd hlv (by simp)
    | false =>
     cases b9 with
     | true =>
      have HK0 : Hid (rlvK M q t k = 3) := by unfold Hid; rw [HK.out]; simp; omega
      have hRL := HLs.out k hk1 hlt (by rw [HK0.out]; decide) HN.out
      rw [hRL, HK0.out] at hlv; exact absurd hlv (by simp)
     | false =>
      have HK0 : Hid (rlvK M q t k = 0) := by unfold Hid; rw [HK.out]; simp
      clear he
      have HN2 : Hid (∀ i, la + 1 ≤ i → i < k + 1 → rlvK M q t i = 0) := grow_no HN.out HK0.out
      clear HN HK HK0
      go_wp2_with (first
       | (go_at_call 53; refine (HCq.out _).mono ?_; rintro e w1 ⟨rfl, hB1⟩; have hB := bstep hB hB1 hB.size; obtain ⟨z0, z1⟩ := HZ.out _ hB; clear hB1)
       | (go_at_call 54; refine (HT.out _).mono ?_; rintro e w2 ⟨rfl, hB1⟩; have hB := bstep hB hB1 hB.size; obtain ⟨z0, z1⟩ := HZ.out _ hB; clear hB1)
       | (go_at_call 42; (with_reducible refine (HH2.out _ (HR.out _ hB).bl).mono ?_); rintro e w3 ⟨rfl, hB1⟩; have hB := bstep hB hB1 hB.size; obtain ⟨z0, z1⟩ := HZ.out _ hB; clear hB1)
       | (go_at_call 42; (with_reducible refine (HH9.out _ (HR.out _ hB).bl).mono ?_); rintro e w4 ⟨rfl, hB1⟩; have hB := bstep hB hB1 hB.size; obtain ⟨z0, z1⟩ := HZ.out _ hB; clear hB1))
      exact ⟨⟨k + 1, by go_num, by omega, by omega, HN2, hB⟩, by simp [intOf] <;> omega⟩
  ·obtain rfl : k = lq + 1 := by omega
   have pk : ¬ ((lq + 1 : Nat) : Int) ≤ (lq : Int) := by omega
   clear HN hlv HH HSe HKk HLs HLn HRf
   go_wp2_with (first
    | (go_at_call 53; refine (HCq.out _).mono ?_; rintro e w1 ⟨rfl, hB1⟩; have hB := bstep hB hB1 hB.size; clear hB1)
    | (go_at_call 55; refine (HT0.out _ (HR.out _ hB).bl).mono ?_; rintro e w6 ⟨rfl, hB1⟩; have hB := bstep hB hB1 hB.size; clear hB1))
   have HBl := hide' hB
   clear hB z0 z1
   go_loopw [10] (fun kv wv => ∃ k : Nat, kv = .int .i64 (k : Int) ∧ ke ≤ k ∧ k ≤ lq ∧ Hid (Below wb.heap.size wb wv)) (fun kv _ => (intOf kv).toNat)
   case atStart => exact ⟨lq, by go_num, hke, Nat.le_refl _, HBl.out⟩
   case round =>
    obtain ⟨k, rfl, hk1, hk2, HBv⟩ := hrel
    have hB := HBv.out
    have pk : (0 : Int) ≤ (k : Int) := by omega
    by_cases hkk : ke < k
    ·have HT := hide' (fun V => HTl.out V (k : Int))
     have HT1 := hide' (fun V hV => HTr.out V (tailB q (k : Int)) (tail_sz q (k : Int)) hV)
     rw [hke2 k hkk hk2] at HT1
     clear hke2
     go_wp2_with (first
      | (go_at_call 54; refine (HT.out _).mono ?_; rintro e w2 ⟨rfl, hB1⟩; have hB := bstep hB hB1 hB.size; clear hB1)
      | (go_at_call 55; refine (HT1.out _ (HR.out _ hB).bl).mono ?_; rintro e w6 ⟨rfl, hB1⟩; have hB := bstep hB hB1 hB.size; clear hB1))
     exact ⟨⟨k - 1, by go_num, by omega, by omega, hB⟩, by simp [intOf] <;> omega⟩
    ·obtain rfl : k = ke := by omega
     clear hkk hke2
     have HT := hide' (fun V => HTl.out V (k : Int))
     have HT1 := hide' (fun V hV => HTr.out V (tailB q (k : Int)) (tail_sz q (k : Int)) hV)
     rw [hke1] at HT1
     rw [htl] at HT HT1
     clear hke1
     go_wp2_with (first
      | (go_at_call 54; refine (HT.out _).mono ?_; rintro e w2 ⟨rfl, hB1⟩; have hB := bstep hB hB1 hB.size; obtain ⟨d0, d1, d2, d3, d4, d5, d6, d7, d8, d9⟩ := bx5_cells (HR.out _ hB).fx; have H2 := hide' ((HR.out _ hB).r3.put2 (.string tl)); obtain ⟨g0, g1, g2, g3, g4, g5, g6, g7, g8, g9⟩ := bx5_cells H2.out.fx; clear hB1)
      | (go_at_call 55; (with_reducible refine (HT1.out _ (HR.out _ hB).bl).mono ?_); rintro e w6 ⟨rfl, hB1⟩; have hB := bstep hB hB1 hB.size; clear hB1)
      | (go_at_call 57; refine (HSr.out _).mono ?_; rintro e w7 ⟨rfl, hB1⟩; have H7 := hide' (H2.out.step hB1); clear hB1)
      | (go_at_call 55; (with_reducible refine (HT2.out _ H7.out.bl).mono ?_); rintro e w8 ⟨rfl, hB1⟩; have H8 := hide' (H7.out.step hB1); obtain ⟨a0, a1, a2, a3, a4, a5, a6, a7, a8, a9⟩ := bx5_cells H8.out.fx; have H9 := hide' (H8.out.put3 (.bool false)); obtain ⟨b0, b1, b2, b3, b4, b5, b6, b7, b8, b9⟩ := bx5_cells H9.out.fx; have HA := hide' ((H9.out.put0 (.int .i64 6)).put1 (.string q)); obtain ⟨e0, e1, e2, e3, e4, e5, e6, e7, e8, e9⟩ := bx5_cells HA.out.fx; obtain ⟨cc0, cc1, cc2, cc3, cc4, cc5, cc6, cc7, cc8, cc9⟩ := bx5_cells HA.out.rx; clear hB1))
     have hrx := HA.out.rx
     have hbw := HA.out.bl
     have hb5 := bx5_set hrx (.int .i64 6) (.string q) (.string tl) (.bool false) (.slice none 0 0)
     have hg5 := grown5 (((w8.setCell ⟨W.heap.size + 1, 3, none⟩ (.bool false)).setCell ⟨W.heap.size + 1, 0, none⟩ (.int .i64 6)).setCell ⟨W.heap.size + 1, 1, none⟩ (.string q)) W.heap.size (.int .i64 6) (.string q) (.string tl) (.bool false) (.slice none 0 0)
     have hbf := hbw.grown hg5 hbw.size (fun k e => by cases e; exact Nat.le_refl _)
     generalize (((((((((w8.setCell ⟨W.heap.size + 1, 3, none⟩ (.bool false)).setCell ⟨W.heap.size + 1, 0, none⟩ (.int .i64 6)).setCell ⟨W.heap.size + 1, 1, none⟩ (.string q)).setCell ⟨W.heap.size, 0, none⟩ (.int .i64 6)).setCell ⟨W.heap.size, 1, none⟩ (.string q)).setCell ⟨W.heap.size, 2, none⟩ (.string tl)).setCell ⟨W.heap.size, 3, none⟩ (.bool false)).setCell ⟨W.heap.size, 4, none⟩ (.slice none 0 0))) = wz at hb5 hbf ⊢
     obtain ⟨r0, r1, r2, r3, r4, _⟩ := bx5_cells hb5
     refine bodyPost_ret (v := .agg #[.int .i64 6, .string q, .string tl, .bool false, .slice none 0 0]) (by simp [results, go_sem, r0, r1, r2, r3, r4]) rfl ?_
     rw [HFd.out]
     exact ⟨⟨_, rfl, World.ownsRow_nil _ _ _ _⟩, hbf⟩
end Go.Proofs.YthabenjghhmicaaGreat
namespace Go.Proofs.YthabenjghhmicaaGreat
set_option linter.unusedVariables false
set_option linter.unusedSimpArgs false
open Go.RowKit Go.Shelf Go.Maps Go.Proofs.YthabenjghhmicaaGreat.Nm Go.Proofs.YthabenjghhmicaaGreat.Zs
set_option maxRecDepth 100000 in
set_option maxHeartbeats 8000000 in
theorem rfind_wild {zb : Nat} {apex : ByteArray} {M : List Rn} {p : Option Addr} {c : Nat} {W : World} (h : Yz W zb apex M p c) (q : ByteArray) (t : Int) (hq : q.size ≤ 1048576) (na : isN apex = true) (hin : withinB q apex = true ∧ 1 ≤ t ∧ t ≤ 65535) (hlv : (rlvB apex M q t).1 = 0) (hth : rth M q = false) (ke : Nat) (hke : ke ≤ (labs q).length) (hke1 : rth M (tailB q (ke : Int)) = true) (hke2 : ∀ m : Nat, ke < m → m ≤ (labs q).length → rth M (tailB q (m : Int)) = false) (hsr : rth M (starB (renc M q)) = true) :
  Calls Tryz.prog 14 #[.pointer (some ⟨zb, 0, none⟩), .string q, .int .i64 t] W (FdE (rfind apex M q t) W) := by
 have hre := renc_at hke hke1 hke2
 have hM2 := h.few
 have ha255 : apex.size ≤ 255 := ((isN_iff apex).1 na).1
 have HW := hide' (fun V => refWithin_any q apex V hq (by omega))
 have HR0 := hide' (R2.start W)
 obtain ⟨wb, hwb⟩ : ∃ wb, (W.alloc (.cells #[.int .i64 0, .string ⟨#[]⟩, .string ⟨#[]⟩, .bool false, .slice none 0 0] 34)).alloc (.cells #[.int .i64 0, .string ⟨#[]⟩, .string ⟨#[]⟩, .bool false, .slice none 0 0] 34) = wb := ⟨_, rfl⟩
 rw [hwb] at HR0
 have HR : Hid (∀ V, Below wb.heap.size wb V → R2 W V) := fun V hV => HR0.out.step hV
 have HY := hide' (fun V (hV : Below W.heap.size W V) => h.step hV)
 have HZ : Hid (∀ V, Below wb.heap.size wb V → V.cell? ⟨zb, 0, none⟩ = some (.string apex) ∧ V.cell? ⟨zb, 1, none⟩ = some (.slice p M.length c)) := fun V hV => ⟨(HY.out V (HR.out V hV).bl).yx.cell rfl, (HY.out V (HR.out V hV).bl).yx.cell rfl⟩
 have hB := Below.refl wb.heap.size wb
 obtain ⟨z0, z1⟩ := HZ.out _ hB
 have HTr : Hid (∀ V (n : ByteArray), n.size ≤ 1048576 → Below W.heap.size W V → Calls Tryz.prog 55 #[.pointer (some ⟨zb, 0, none⟩), .string n] V fun r w' => r = .returned (.bool (rth M n)) ∧ Below V.heap.size V w') := fun V n hn hV => rthere_any (HY.out V hV) n hn
 have HSt : Hid (∀ V (n : ByteArray), n.size ≤ 1048576 → Below W.heap.size W V → Calls Tryz.prog 56 #[.pointer (some ⟨zb, 0, none⟩), .string n, .int .i64 t] V (RstE M n t V)) := fun V n hn hV => rstands_all (HY.out V hV) n t hn
 obtain ⟨hwi, ht1, ht2⟩ := hin
 have hqN : isN q = true := ((withinB_iff q apex).1 hwi).1
 have HCa := hide' (fun V => refCount_any apex V (by omega))
 have HCq := hide' (fun V => refCount_any q V hq)
 rw [cntI_yes na] at HCa
 rw [cntI_yes hqN] at HCq
 have hle : (labs apex).length ≤ (labs q).length := within_cnt hwi
 have hl255 := labs_few hqN
 have HTl := hide' (fun V (k : Int) => refTail_any q k V hq)
 have HH : Hid (∀ V (n : ByteArray) (t : Int), n.size ≤ 1048576 → Below W.heap.size W V → Calls Tryz.prog 42 #[.slice p M.length c, .string n, .int .i64 t] V fun r w' => r = .returned (.bool (hasB M n t)) ∧ Below V.heap.size V w') := fun V n t hn hV => rhas_any M p c n t V (by have := h.few; omega) (HY.out V hV).rs (fun r hr => ok_small (h.ok r hr)) hn
 have HSe : Hid (∀ V (n : ByteArray) (t : Int), n.size ≤ 1048576 → Below W.heap.size W V → Calls Tryz.prog 22 #[.pointer (some ⟨zb, 0, none⟩), .string n, .int .i64 t] V fun r w' => (∃ v, r = .returned v ∧ w'.ownsRow V.heap.size 54 5 v (rset M n t).length (rce5 (rset M n t))) ∧ Below V.heap.size V w') := fun V n t hn hV => rset_any (HY.out V hV) n t hn
 have i1 : ¬ t < 1 := by omega
 have i2 : ¬ 65535 < t := by omega
 have HRf := hide' (rfind_in (M := M) hwi ht1 ht2)
 have HLs := hide' (fun i h1 h2 h3 => rlv_at (apex := apex) (M := M) (q := q) (t := t) (i := i) h1 h2 h3)
 have HLn := hide' (rlv_no (apex := apex) (M := M) (q := q) (t := t))
 have HKk := hide' (fun k => rlvK_is M q t k)
 obtain ⟨la, hla⟩ : ∃ la, (labs apex).length = la := ⟨_, rfl⟩
 obtain ⟨lq, hlq⟩ : ∃ lq, (labs q).length = lq := ⟨_, rfl⟩
 rw [hla] at HCa hle HLs HLn
 rw [hlq] at HCq hle HLs HLn HKk hl255 hke hke2
 rw [hwi] at HW
 clear h na hla hlq hwi hqN
 obtain ⟨tl, htl⟩ : ∃ tl, tailB q (ke : Int) = tl := ⟨_, rfl⟩
 have htz := tail_sz q (ke : Int)
 rw [htl] at hre htz
 obtain ⟨st, hst⟩ : ∃ st, starB tl = st := ⟨_, rfl⟩
 have HSr := hide' (fun V => refStar_any tl V htz)
 have hsz : st.size ≤ 1048576 := by rw [← hst]; exact star_sz (by have := tailB_size q (ke : Int); rw [htl] at this; exact this)
 rw [hst] at HSr
 rw [hre, hst] at hsr
 have HT2 := hide' (fun V hV => HTr.out V st hsz hV)
 rw [hsr] at HT2
 have HT0 := hide' (fun V hV => HTr.out V q hq hV)
 rw [hth] at HT0
 obtain ⟨kk, X, hsy⟩ : ∃ kk X, rstand M st t = (kk, X) := ⟨_, _, rfl⟩
 have hXl : X.length ≤ M.length := by
  have := rst_len M st t
  rw [hsy] at this
  exact this
 have HS3 : Hid (∀ V, Below W.heap.size W V → Calls Tryz.prog 56 #[.pointer (some ⟨zb, 0, none⟩), .string st, .int .i64 t] V fun r w' => (∃ v, r = .returned (.tuple #[.int .i64 kk, v]) ∧ w'.ownsRow V.heap.size 54 5 v X.length (rce5 X)) ∧ Below V.heap.size V w') := fun V hV => by
  have := HSt.out V st hsz hV
  unfold RstE at this
  rw [hsy] at this
  exact this
 have HFd : Hid (rfind apex M q t = ⟨kk, st, tl, true, X.map (ownR q)⟩) := by unfold Hid; rw [HRf.out, if_neg (by rw [hlv]; simp), if_neg (by rw [hth]; simp), hre, hst, if_pos hsr, hsy]
 clear hth hre hsr hst
 go_enter Tryz.func14, Tryz.ntmps14
 go_wp2_with (first
  | (go_at_call 52; refine (HW.out _).mono ?_; rintro e w1 ⟨rfl, hB1⟩; have hB := bstep hB hB1 hB.size; obtain ⟨z0, z1⟩ := HZ.out _ hB; clear hB1)
  | (go_at_call 53; refine (HCa.out _).mono ?_; rintro e w2 ⟨rfl, hB1⟩; have hB := bstep hB hB1 hB.size; obtain ⟨z0, z1⟩ := HZ.out _ hB; clear hB1))
 have HBh := hide' hB
 clear hB z0 z1
 go_loopw [8] (fun kv wr => ∃ k : Nat, kv = .int .i64 (k : Int) ∧ la + 1 ≤ k ∧ k ≤ lq + 1 ∧ Hid (∀ i, la + 1 ≤ i → i < k → rlvK M q t i = 0) ∧ Hid (Below wb.heap.size wb wr)) (fun kv _ => lq + 1 - (intOf kv).toNat)
 case atStart => exact ⟨la + 1, by go_num, Nat.le_refl _, by omega, (fun i h1 h2 => by omega), HBh.out⟩
 case round =>
  obtain ⟨k, rfl, hk1, hk2, HN, HBr⟩ := hrel
  have hB := HBr.out
  obtain ⟨z0, z1⟩ := HZ.out _ hB
  by_cases hlt : k ≤ lq
  ·have HT := hide' (fun V => HTl.out V (k : Int))
   have hn := tail_sz q (k : Int)
   have HK := hide' (HKk.out k)
   obtain ⟨n, hnn⟩ : ∃ n, tailB q (k : Int) = n := ⟨_, rfl⟩
   have HNn : Hid (tailB q (k : Int) = n) := hnn
   rw [hnn] at HT hn HK
   clear hnn
   have HH2 := hide' (fun V hV => HH.out V n 2 hn hV)
   have HH9 := hide' (fun V hV => HH.out V n 39 hn hV)
   have HS2 := hide' (fun V hV => HSe.out V n 2 hn hV)
   have HS9 := hide' (fun V hV => HSe.out V n 39 hn hV)
   obtain ⟨b2, hb2⟩ : ∃ b, hasB M n 2 = b := ⟨_, rfl⟩
   obtain ⟨b9, hb9⟩ : ∃ b, hasB M n 39 = b := ⟨_, rfl⟩
   rw [hb2] at HH2 HK
   rw [hb9] at HH9 HK
   clear hb2 hb9
   have pk : (k : Int) ≤ (lq : Int) := by omega
   by_cases he : k = lq
   ·subst he
    by_cases h43 : t = 43
    ·have h43b : (t == 43) = true := by simp [h43]
     have HK0 : Hid (rlvK M q t k = 0) := by unfold Hid; rw [HK.out]; simp [h43]
     clear h43
     have i3 : ¬ (k : Int) < (k : Int) := by omega
     cases b2 <;> cases b9
     ·have HN2 : Hid (∀ i, la + 1 ≤ i → i < k + 1 → rlvK M q t i = 0) := grow_no HN.out HK0.out
      clear HN HK HK0
      go_wp2_with (first
       | (go_at_call 53; refine (HCq.out _).mono ?_; rintro e w1 ⟨rfl, hB1⟩; have hB := bstep hB hB1 hB.size; obtain ⟨z0, z1⟩ := HZ.out _ hB; clear hB1)
       | (go_at_call 54; refine (HT.out _).mono ?_; rintro e w2 ⟨rfl, hB1⟩; have hB := bstep hB hB1 hB.size; obtain ⟨z0, z1⟩ := HZ.out _ hB; clear hB1)
       | (go_at_call 42; (with_reducible refine (HH2.out _ (HR.out _ hB).bl).mono ?_); rintro e w3 ⟨rfl, hB1⟩; have hB := bstep hB hB1 hB.size; obtain ⟨z0, z1⟩ := HZ.out _ hB; clear hB1)
       | (go_at_call 42; (with_reducible refine (HH9.out _ (HR.out _ hB).bl).mono ?_); rintro e w4 ⟨rfl, hB1⟩; have hB := bstep hB hB1 hB.size; obtain ⟨z0, z1⟩ := HZ.out _ hB; clear hB1))
      exact ⟨⟨k + 1, by go_num, by omega, by omega, HN2, hB⟩, by simp [intOf] <;> omega⟩
     ·have HN2 : Hid (∀ i, la + 1 ≤ i → i < k + 1 → rlvK M q t i = 0) := grow_no HN.out HK0.out
      clear HN HK HK0
      go_wp2_with (first
       | (go_at_call 53; refine (HCq.out _).mono ?_; rintro e w1 ⟨rfl, hB1⟩; have hB := bstep hB hB1 hB.size; obtain ⟨z0, z1⟩ := HZ.out _ hB; clear hB1)
       | (go_at_call 54; refine (HT.out _).mono ?_; rintro e w2 ⟨rfl, hB1⟩; have hB := bstep hB hB1 hB.size; obtain ⟨z0, z1⟩ := HZ.out _ hB; clear hB1)
       | (go_at_call 42; (with_reducible refine (HH2.out _ (HR.out _ hB).bl).mono ?_); rintro e w3 ⟨rfl, hB1⟩; have hB := bstep hB hB1 hB.size; obtain ⟨z0, z1⟩ := HZ.out _ hB; clear hB1)
       | (go_at_call 42; (with_reducible refine (HH9.out _ (HR.out _ hB).bl).mono ?_); rintro e w4 ⟨rfl, hB1⟩; have hB := bstep hB hB1 hB.size; obtain ⟨z0, z1⟩ := HZ.out _ hB; clear hB1))
      exact ⟨⟨k + 1, by go_num, by omega, by omega, HN2, hB⟩, by simp [intOf] <;> omega⟩
     ·have HN2 : Hid (∀ i, la + 1 ≤ i → i < k + 1 → rlvK M q t i = 0) := grow_no HN.out HK0.out
      clear HN HK HK0
      go_wp2_with (first
       | (go_at_call 53; refine (HCq.out _).mono ?_; rintro e w1 ⟨rfl, hB1⟩; have hB := bstep hB hB1 hB.size; obtain ⟨z0, z1⟩ := HZ.out _ hB; clear hB1)
       | (go_at_call 54; refine (HT.out _).mono ?_; rintro e w2 ⟨rfl, hB1⟩; have hB := bstep hB hB1 hB.size; obtain ⟨z0, z1⟩ := HZ.out _ hB; clear hB1)
       | (go_at_call 42; (with_reducible refine (HH2.out _ (HR.out _ hB).bl).mono ?_); rintro e w3 ⟨rfl, hB1⟩; have hB := bstep hB hB1 hB.size; obtain ⟨z0, z1⟩ := HZ.out _ hB; clear hB1)
       | (go_at_call 42; (with_reducible refine (HH9.out _ (HR.out _ hB).bl).mono ?_); rintro e w4 ⟨rfl, hB1⟩; have hB := bstep hB hB1 hB.size; obtain ⟨z0, z1⟩ := HZ.out _ hB; clear hB1))
      exact ⟨⟨k + 1, by go_num, by omega, by omega, HN2, hB⟩, by simp [intOf] <;> omega⟩
     ·have HN2 : Hid (∀ i, la + 1 ≤ i → i < k + 1 → rlvK M q t i = 0) := grow_no HN.out HK0.out
      clear HN HK HK0
      go_wp2_with (first
       | (go_at_call 53; refine (HCq.out _).mono ?_; rintro e w1 ⟨rfl, hB1⟩; have hB := bstep hB hB1 hB.size; obtain ⟨z0, z1⟩ := HZ.out _ hB; clear hB1)
       | (go_at_call 54; refine (HT.out _).mono ?_; rintro e w2 ⟨rfl, hB1⟩; have hB := bstep hB hB1 hB.size; obtain ⟨z0, z1⟩ := HZ.out _ hB; clear hB1)
       | (go_at_call 42; (with_reducible refine (HH2.out _ (HR.out _ hB).bl).mono ?_); rintro e w3 ⟨rfl, hB1⟩; have hB := bstep hB hB1 hB.size; obtain ⟨z0, z1⟩ := HZ.out _ hB; clear hB1)
       | (go_at_call 42; (with_reducible refine (HH9.out _ (HR.out _ hB).bl).mono ?_); rintro e w4 ⟨rfl, hB1⟩; have hB := bstep hB hB1 hB.size; obtain ⟨z0, z1⟩ := HZ.out _ hB; clear hB1))
      exact ⟨⟨k + 1, by go_num, by omega, by omega, HN2, hB⟩, by simp [intOf] <;> omega⟩
    ·have h43b : (t == 43) = false := by simp [h43]
     have i3 : ¬ (k : Int) < (k : Int) := by omega
     cases b2 with
     | true =>
      have HK0 : Hid (rlvK M q t k = 4) := by unfold Hid; rw [HK.out]; simp [h43]
      have hRL := HLs.out k hk1 hlt (by rw [HK0.out]; decide) HN.out
      rw [hRL, HK0.out] at hlv; exact absurd hlv (by simp)
     | false =>
      have HK0 : Hid (rlvK M q t k = 0) := by unfold Hid; rw [HK.out]; simp
      cases b9
      ·have HN2 : Hid (∀ i, la + 1 ≤ i → i < k + 1 → rlvK M q t i = 0) := grow_no HN.out HK0.out
       clear HN HK HK0
       go_wp2_with (first
        | (go_at_call 53; refine (HCq.out _).mono ?_; rintro e w1 ⟨rfl, hB1⟩; have hB := bstep hB hB1 hB.size; obtain ⟨z0, z1⟩ := HZ.out _ hB; clear hB1)
        | (go_at_call 54; refine (HT.out _).mono ?_; rintro e w2 ⟨rfl, hB1⟩; have hB := bstep hB hB1 hB.size; obtain ⟨z0, z1⟩ := HZ.out _ hB; clear hB1)
        | (go_at_call 42; (with_reducible refine (HH2.out _ (HR.out _ hB).bl).mono ?_); rintro e w3 ⟨rfl, hB1⟩; have hB := bstep hB hB1 hB.size; obtain ⟨z0, z1⟩ := HZ.out _ hB; clear hB1)
        | (go_at_call 42; (with_reducible refine (HH9.out _ (HR.out _ hB).bl).mono ?_); rintro e w4 ⟨rfl, hB1⟩; have hB := bstep hB hB1 hB.size; obtain ⟨z0, z1⟩ := HZ.out _ hB; clear hB1))
       exact ⟨⟨k + 1, by go_num, by omega, by omega, HN2, hB⟩, by simp [intOf] <;> omega⟩
      ·have HN2 : Hid (∀ i, la + 1 ≤ i → i < k + 1 → rlvK M q t i = 0) := grow_no HN.out HK0.out
       clear HN HK HK0
       go_wp2_with (first
        | (go_at_call 53; refine (HCq.out _).mono ?_; rintro e w1 ⟨rfl, hB1⟩; have hB := bstep hB hB1 hB.size; obtain ⟨z0, z1⟩ := HZ.out _ hB; clear hB1)
        | (go_at_call 54; refine (HT.out _).mono ?_; rintro e w2 ⟨rfl, hB1⟩; have hB := bstep hB hB1 hB.size; obtain ⟨z0, z1⟩ := HZ.out _ hB; clear hB1)
        | (go_at_call 42; (with_reducible refine (HH2.out _ (HR.out _ hB).bl).mono ?_); rintro e w3 ⟨rfl, hB1⟩; have hB := bstep hB hB1 hB.size; obtain ⟨z0, z1⟩ := HZ.out _ hB; clear hB1)
        | (go_at_call 42; (with_reducible refine (HH9.out _ (HR.out _ hB).bl).mono ?_); rintro e w4 ⟨rfl, hB1⟩; have hB := bstep hB hB1 hB.size; obtain ⟨z0, z1⟩ := HZ.out _ hB; clear hB1))
       exact ⟨⟨k + 1, by go_num, by omega, by omega, HN2, hB⟩, by simp [intOf] <;> omega⟩
   ·have i3 : (k : Int) < (lq : Int) := by omega
    have i4 : ((k : Int) == (lq : Int)) = false := by rw [beq_eq_false_iff_ne]; omega
    cases b2 with
    | true =>
     have HK0 : Hid (rlvK M q t k = 4) := by unfold Hid; rw [HK.out]; simp [he]
     have hRL := HLs.out k hk1 hlt (by rw [HK0.out]; decide) HN.out
     rw [hRL, HK0.out] at hlv; exact absurd hlv (by simp)
    | false =>
     cases b9 with
     | true =>
      have HK0 : Hid (rlvK M q t k = 3) := by unfold Hid; rw [HK.out]; simp; omega
      have hRL := HLs.out k hk1 hlt (by rw [HK0.out]; decide) HN.out
      rw [hRL, HK0.out] at hlv; exact absurd hlv (by simp)
     | false =>
      have HK0 : Hid (rlvK M q t k = 0) := by unfold Hid; rw [HK.out]; simp
      clear he
      have HN2 : Hid (∀ i, la + 1 ≤ i → i < k + 1 → rlvK M q t i = 0) := grow_no HN.out HK0.out
      clear HN HK HK0
      go_wp2_with (first
       | (go_at_call 53; refine (HCq.out _).mono ?_; rintro e w1 ⟨rfl, hB1⟩; have hB := bstep hB hB1 hB.size; obtain ⟨z0, z1⟩ := HZ.out _ hB; clear hB1)
       | (go_at_call 54; refine (HT.out _).mono ?_; rintro e w2 ⟨rfl, hB1⟩; have hB := bstep hB hB1 hB.size; obtain ⟨z0, z1⟩ := HZ.out _ hB; clear hB1)
       | (go_at_call 42; (with_reducible refine (HH2.out _ (HR.out _ hB).bl).mono ?_); rintro e w3 ⟨rfl, hB1⟩; have hB := bstep hB hB1 hB.size; obtain ⟨z0, z1⟩ := HZ.out _ hB; clear hB1)
       | (go_at_call 42; (with_reducible refine (HH9.out _ (HR.out _ hB).bl).mono ?_); rintro e w4 ⟨rfl, hB1⟩; have hB := bstep hB hB1 hB.size; obtain ⟨z0, z1⟩ := HZ.out _ hB; clear hB1))
      exact ⟨⟨k + 1, by go_num, by omega, by omega, HN2, hB⟩, by simp [intOf] <;> omega⟩
  ·obtain rfl : k = lq + 1 := by omega
   have pk : ¬ ((lq + 1 : Nat) : Int) ≤ (lq : Int) := by omega
   clear HN hlv HH HSe HKk HLs HLn HRf
   go_wp2_with (first
    | (go_at_call 53; refine (HCq.out _).mono ?_; rintro e w1 ⟨rfl, hB1⟩; have hB := bstep hB hB1 hB.size; clear hB1)
    | (go_at_call 55; refine (HT0.out _ (HR.out _ hB).bl).mono ?_; rintro e w6 ⟨rfl, hB1⟩; have hB := bstep hB hB1 hB.size; clear hB1))
   have HBl := hide' hB
   clear hB z0 z1
   go_loopw [10] (fun kv wv => ∃ k : Nat, kv = .int .i64 (k : Int) ∧ ke ≤ k ∧ k ≤ lq ∧ Hid (Below wb.heap.size wb wv)) (fun kv _ => (intOf kv).toNat)
   case atStart => exact ⟨lq, by go_num, hke, Nat.le_refl _, HBl.out⟩
   case round =>
    obtain ⟨k, rfl, hk1, hk2, HBv⟩ := hrel
    have hB := HBv.out
    have pk : (0 : Int) ≤ (k : Int) := by omega
    by_cases hkk : ke < k
    ·have HT := hide' (fun V => HTl.out V (k : Int))
     have HT1 := hide' (fun V hV => HTr.out V (tailB q (k : Int)) (tail_sz q (k : Int)) hV)
     rw [hke2 k hkk hk2] at HT1
     clear hke2
     go_wp2_with (first
      | (go_at_call 54; refine (HT.out _).mono ?_; rintro e w2 ⟨rfl, hB1⟩; have hB := bstep hB hB1 hB.size; clear hB1)
      | (go_at_call 55; refine (HT1.out _ (HR.out _ hB).bl).mono ?_; rintro e w6 ⟨rfl, hB1⟩; have hB := bstep hB hB1 hB.size; clear hB1))
     exact ⟨⟨k - 1, by go_num, by omega, by omega, hB⟩, by simp [intOf] <;> omega⟩
    ·obtain rfl : k = ke := by omega
     clear hkk hke2
     have HT := hide' (fun V => HTl.out V (k : Int))
     have HT1 := hide' (fun V hV => HTr.out V (tailB q (k : Int)) (tail_sz q (k : Int)) hV)
     rw [hke1] at HT1
     rw [htl] at HT HT1
     clear hke1
     go_wp2_with (first
      | (go_at_call 54; refine (HT.out _).mono ?_; rintro e w2 ⟨rfl, hB1⟩; have hB := bstep hB hB1 hB.size; obtain ⟨d0, d1, d2, d3, d4, d5, d6, d7, d8, d9⟩ := bx5_cells (HR.out _ hB).fx; have H2 := hide' ((HR.out _ hB).r3.put2 (.string tl)); obtain ⟨g0, g1, g2, g3, g4, g5, g6, g7, g8, g9⟩ := bx5_cells H2.out.fx; clear hB1)
      | (go_at_call 55; (with_reducible refine (HT1.out _ (HR.out _ hB).bl).mono ?_); rintro e w6 ⟨rfl, hB1⟩; have hB := bstep hB hB1 hB.size; clear hB1)
      | (go_at_call 57; refine (HSr.out _).mono ?_; rintro e w7 ⟨rfl, hB1⟩; have H7 := hide' (H2.out.step hB1); clear hB1)
      | (go_at_call 55; (with_reducible refine (HT2.out _ H7.out.bl).mono ?_); rintro e w8 ⟨rfl, hB1⟩; have H8 := hide' (H7.out.step hB1); obtain ⟨a0, a1, a2, a3, a4, a5, a6, a7, a8, a9⟩ := bx5_cells H8.out.fx; have H9 := hide' (H8.out.put3 (.bool true)); obtain ⟨b0, b1, b2, b3, b4, b5, b6, b7, b8, b9⟩ := bx5_cells H9.out.fx; have HA := hide' (H9.out.put1 (.string st)); obtain ⟨x0, x1, x2, x3, x4, x5, x6, x7, x8, x9⟩ := bx5_cells HA.out.fx; clear hB1)
      | (go_at_call 56; refine (HS3.out _ HA.out.bl).mono ?_; rintro e w9 ⟨⟨v9, rfl, ho9⟩, hB1⟩; obtain ⟨p9, c9, rfl, _, _, _⟩ := own_shape ho9; have HO9 := hide' ho9; have HLT := hide' HA.out.lt; have HC9 := hide' (HA.out.step hB1); obtain ⟨u0, u1, u2, u3, u4, u5, u6, u7, u8, u9⟩ := bx5_cells HC9.out.fx; have HD := hide' ((HC9.out.put0 (.int .i64 kk)).put4 (.slice p9 X.length c9)); obtain ⟨e0, e1, e2, e3, e4, e5, e6, e7, e8, e9⟩ := bx5_cells HD.out.fx; clear hB1 ho9))
     have ho10 := own_far (own_far HO9.out (grown_set w9 (W.heap.size + 1) 0 (.int .i64 kk)) HLT.out) (grown_set _ (W.heap.size + 1) 4 (.slice p9 X.length c9)) HLT.out
     obtain ⟨BB, hBB⟩ : ∃ BB, ((w8.setCell ⟨W.heap.size + 1, 3, none⟩ (.bool true)).setCell ⟨W.heap.size + 1, 1, none⟩ (.string st)).heap.size = BB := ⟨_, rfl⟩
     rw [hBB] at ho10
     have HLB : Hid (W.heap.size + 1 < BB) := by unfold Hid; rw [← hBB]; exact HLT.out
     have HO10 := hide' ho10
     clear ho10 hBB
     go_loopw [143] (fun kv wv => ∃ k : Nat, kv = .int .i64 (k : Int) ∧ k ≤ X.length ∧ Hid (wv.ownsRow BB 54 5 (.slice p9 X.length c9) X.length (rce5 ((X.take k).map (ownR q) ++ X.drop k))) ∧ Hid (((w9.setCell ⟨W.heap.size + 1, 0, none⟩ (.int .i64 kk)).setCell ⟨W.heap.size + 1, 4, none⟩ (.slice p9 X.length c9)).grownBy wv (Value.slice p9 X.length c9).ownBlock)) (fun kv _ => X.length - (intOf kv).toNat)
     case atStart => exact ⟨0, rfl, Nat.zero_le _, by unfold Hid; simpa using HO10.out, grown_refl _ _⟩
     case round =>
      obtain ⟨k, rfl, hk, HO, HG⟩ := hrel
      have HRv := hide' (HD.out.grown HG.out (fun k e => by have := own_ge HO10.out e; have := HLB.out; omega))
      obtain ⟨y0, y1, y2, y3, y4, y5, y6, y7, y8, y9⟩ := bx5_cells HRv.out.fx
      by_cases hlt : k < X.length
      ·obtain ⟨g, c, hv⟩ := own_someZ HO.out (by omega)
       injection hv with hv1 hv2 hv3
       subst hv1 hv3
       have hFl : ((X.take k).map (ownR q) ++ X.drop k).length = X.length := by rw [List.length_append, List.length_map, List.length_take, List.length_drop]; omega
       have hFk : ((X.take k).map (ownR q) ++ X.drop k)[k]'(by omega) = X[k] := by
        rw [List.getElem_append_right (by rw [List.length_map, List.length_take]; omega), List.getElem_drop]
        congr 1
        rw [List.length_map, List.length_take]; omega
       obtain ⟨on1, on2, on3⟩ := own_owner HO.out hFl (j := k) (by omega) q
       rw [hFk, set_front hlt] at on1
       rw [hFk] at on2
       have HO1 := hide' on1
       have HG1 := hide' (grown_trans HG.out (grown_set wr g (k * 5) (.string q)))
       have pk : (k : Int) < (X.length : Int) := by omega
       have pk0 : (0 : Int) ≤ (k : Int) := by omega
       clear on1 hFl hFk
       go_wp2_with fail
       exact ⟨⟨k + 1, by go_num, by omega, HO1, HG1⟩, by simp [intOf] <;> omega⟩
      ·obtain rfl : k = X.length := by omega
       have hoX := HO.out
       rw [List.take_length, List.drop_length, List.append_nil] at hoX
       have HOX := hide' hoX
       obtain ⟨z0, z1, z2, z3, z4, z5, z6, z7, z8, z9⟩ := bx5_cells HRv.out.rx
       clear hoX
       go_wp2_with fail
       have hrx := HRv.out.rx
       have hbw := HRv.out.bl
       have hb5 := bx5_set hrx (.int .i64 kk) (.string st) (.string tl) (.bool true) (.slice p9 X.length c9)
       have hg5 := grown5 wr W.heap.size (.int .i64 kk) (.string st) (.string tl) (.bool true) (.slice p9 X.length c9)
       have hbf := hbw.grown hg5 hbw.size (fun k e => by cases e; exact Nat.le_refl _)
       have hof := own_baseZ (own_far HOX.out hg5 (Nat.lt_of_succ_lt HLB.out)) (Nat.le_of_lt (Nat.lt_of_succ_lt HLB.out))
       generalize ((((((wr.setCell ⟨W.heap.size, 0, none⟩ (.int .i64 kk)).setCell ⟨W.heap.size, 1, none⟩ (.string st)).setCell ⟨W.heap.size, 2, none⟩ (.string tl)).setCell ⟨W.heap.size, 3, none⟩ (.bool true)).setCell ⟨W.heap.size, 4, none⟩ (.slice p9 X.length c9))) = wz at hb5 hbf hof ⊢
       obtain ⟨r0, r1, r2, r3, r4, _⟩ := bx5_cells hb5
       refine bodyPost_ret (v := .agg #[.int .i64 kk, .string st, .string tl, .bool true, .slice p9 X.length c9]) (by simp [results, go_sem, r0, r1, r2, r3, r4]) rfl ?_
       rw [HFd.out]
       refine ⟨⟨_, rfl, ?_⟩, hbf⟩
       simpa [List.length_map] using hof
end Go.Proofs.YthabenjghhmicaaGreat
namespace Go.Proofs.YthabenjghhmicaaGreat
set_option linter.unusedVariables false
set_option linter.unusedSimpArgs false
open Go.RowKit Go.Shelf Go.Maps Go.Proofs.YthabenjghhmicaaGreat.Nm Go.Proofs.YthabenjghhmicaaGreat.Zs
theorem rfind_any {zb : Nat} {apex : ByteArray} {M : List Rn} {p : Option Addr} {c : Nat} {W : World} (h : Yz W zb apex M p c) (q : ByteArray) (t : Int) (hq : q.size ≤ 1048576) (na : isN apex = true) (hap : rth M apex = true) :
  Calls Tryz.prog 14 #[.pointer (some ⟨zb, 0, none⟩), .string q, .int .i64 t] W (FdE (rfind apex M q t) W) := by
 by_cases hin : withinB q apex = true ∧ 1 ≤ t ∧ t ≤ 65535
 ·by_cases hlv : (rlvB apex M q t).1 = 0
  ·cases hth : rth M q with
   | true => exact rfind_there h q t hq na hin hlv hth
   | false =>
    have hle := within_cnt hin.1
    obtain ⟨ke, k1, k2, k3⟩ := last_of (fun k => rth M (tailB q (k : Int))) (labs apex).length (rth_apex hin.1 hap) (labs q).length hle
    cases hsr : rth M (starB (renc M q)) with
    | true => exact rfind_wild h q t hq na hin hlv hth ke k1 k2 k3 hsr
    | false => exact rfind_noname h q t hq na hin hlv hth ke k1 k2 k3 hsr
  ·exact rfind_left h q t hq na hin hlv
 ·exact rfind_out h q t hq na hin
end Go.Proofs.YthabenjghhmicaaGreat
