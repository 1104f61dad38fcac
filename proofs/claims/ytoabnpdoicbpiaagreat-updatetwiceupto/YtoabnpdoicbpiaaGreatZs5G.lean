import Derived.Test.YtoabnpdoicbpiaaGreatZs1G
namespace Go.Proofs.YtoabnpdoicbpiaaGreat
set_option linter.unusedVariables false
set_option linter.unusedSimpArgs false
open Go.RowKit Go.Shelf Go.Proofs.YtoabnpdoicbpiaaGreat.Nm Go.Proofs.YtoabnpdoicbpiaaGreat.Zs
set_option maxRecDepth 100000 in
set_option maxHeartbeats 1000000 in
theorem symA_any (cv : Value) (lt : Nat → Nat → Bool) (O : Ord lt) (g cap n : Nat) (L : List Nat) (a b : Nat) (w : World) (h : Nb w g L) (hC : Cm w g n cv lt) (hn : ∀ x ∈ L, x < n) (ha : a + 1 < b) (hb : b ≤ L.length) (hL : L.length ≤ 1048576) (h2 : So lt L (a + 1) b) :
  Calls Tryz.prog 123 #[.slice (some ⟨g, 0, none⟩) L.length cap, .int .i64 (a : Int), .int .i64 ((a + 1 : Nat) : Int), .int .i64 (b : Int), cmf cv] w fun r w' => r = .returned (.tuple #[]) ∧ ∃ L', Rg L L' a b ∧ So lt L' a b ∧ Nw w w' g L L' := by
 have H0 : Hid (Nw w w g L L) := ⟨h, .refl _, grown_refl _ _⟩
 have HC := hide' hC
 have HN := hide' hn
 have HO := hide' O
 have HS := hide' h2
 clear h hC hn O h2
 obtain ⟨m, hm⟩ : ∃ m, a + 1 = m := ⟨_, rfl⟩
 have hma : (m : Int) - (a : Int) = 1 := by omega
 rw [hm]
 go_enter Tryz.func123, Tryz.ntmps123
 go_wp2_with fail
 go_loopw [10, 11] (fun iv jv wr => ∃ (i j : Nat), iv = .int .i64 (i : Int) ∧ jv = .int .i64 (j : Int) ∧ m ≤ i ∧ i ≤ j ∧ j ≤ b ∧ Hid (i = m ∨ lt (ix L (i - 1)) (ix L a) = true) ∧ Hid (j = b ∨ lt (ix L j) (ix L a) = false) ∧ Hid (Nw w wr g L L)) (fun iv jv _ => (intOf jv).toNat - (intOf iv).toNat)
 case atStart => exact ⟨m, b, rfl, rfl, Nat.le_refl _, by omega, Nat.le_refl _, Or.inl rfl, Or.inl rfl, H0⟩
 case round =>
  obtain ⟨i, j, rfl, rfl, him, hij, hjb, HI, HJ, HV⟩ := hrel
  by_cases hlt : i < j
  ·obtain ⟨q, hq⟩ : ∃ q, (i + j) / 2 = q := ⟨_, rfl⟩
   have hqz : ((i : Int) + (j : Int)) / 2 = (q : Int) := by omega
   have hqi : i ≤ q ∧ q < j := by omega
   have HK : Hid (∀ W, wr.grownBy W (some g) → Calls Tryz.prog 71 #[.int .i64 (ix L q : Int), .int .i64 (ix L a : Int), cv] W fun r w' => (∃ c : Int, r = .returned (.int .i64 c) ∧ decide (c < 0) = lt (ix L q) (ix L a)) ∧ Below W.heap.size W w') :=
    fun W hW => HC.out _ _ W (HN.out _ (ix_mem (by omega))) (HN.out _ (ix_mem (by omega))) (grown_trans HV.out.gr hW)
   have HCA : Hid (∀ W, Nw w W g L L → W.cell? ⟨g, q, none⟩ = some (.int .i64 (ix L q : Int)) ∧ W.cell? ⟨g, a, none⟩ = some (.int .i64 (ix L a : Int))) := fun W hW =>
    ⟨hW.nb.cell (k := q) (by omega), hW.nb.cell (k := a) (by omega)⟩
   have HT : Hid (lt (ix L q) (ix L a) = true → (q + 1 = m ∨ lt (ix L (q + 1 - 1)) (ix L a) = true)) := fun h => Or.inr h
   have HF : Hid (lt (ix L q) (ix L a) = false → (q = b ∨ lt (ix L q) (ix L a) = false)) := fun h => Or.inr h
   obtain ⟨x, hx⟩ : ∃ x, ix L q = x := ⟨_, rfl⟩
   obtain ⟨y, hy⟩ : ∃ y, ix L a = y := ⟨_, rfl⟩
   have HTx : Hid (lt x y = true → (q + 1 = m ∨ lt (ix L (q + 1 - 1)) (ix L a) = true)) := fun h => HT.out (by rw [hx, hy]; exact h)
   have HFx : Hid (lt x y = false → (q = b ∨ lt (ix L q) (ix L a) = false)) := fun h => HF.out (by rw [hx, hy]; exact h)
   rw [hx, hy] at HK HCA
   clear hx hy hq HT HF
   have p1 : (0 : Int) ≤ (q : Int) := by omega
   have p2 : (q : Int) < (L.length : Int) := by omega
   have p3 : (0 : Int) ≤ (a : Int) := by omega
   have p4 : (a : Int) < (L.length : Int) := by omega
   obtain ⟨ca, cb⟩ := HCA.out _ HV.out
   cases hlv : lt x y with
   | true =>
    rw [hlv] at HK
    have HLV := hide' hlv
    clear hlv
    go_wp2_with fail
    go_region_held3 (fun V => V.cell? ⟨g, q, none⟩ = some (.int .i64 (x : Int)) ∧ V.cell? ⟨g, a, none⟩ = some (.int .i64 (y : Int))) (first | go_keep | exact HCA.out _ HV2.out) ((go_at_call 71; refine (HK.out _ (grown_drewN _ 1 _)).mono ?_; rintro r w2 ⟨⟨c, rfl, hc⟩, hB2⟩; have hcn : c < 0 := of_decide_eq_true hc; have HV2 := hide' (HV.out.drew.below hB2); clear hB2))
    go_wp2_with fail
    refine ⟨⟨q + 1, j, by go_num, rfl, by omega, by omega, by omega, HTx.out HLV.out, HJ, HV2⟩, by simp [intOf]; omega⟩
   | false =>
    rw [hlv] at HK
    have HLV := hide' hlv
    clear hlv
    go_wp2_with fail
    go_region_held3 (fun V => V.cell? ⟨g, q, none⟩ = some (.int .i64 (x : Int)) ∧ V.cell? ⟨g, a, none⟩ = some (.int .i64 (y : Int))) (first | go_keep | exact HCA.out _ HV2.out) ((go_at_call 71; refine (HK.out _ (grown_drewN _ 1 _)).mono ?_; rintro r w2 ⟨⟨c, rfl, hc⟩, hB2⟩; have hcn : ¬ c < 0 := of_decide_eq_false hc; have HV2 := hide' (HV.out.drew.below hB2); clear hB2))
    go_wp2_with fail
    refine ⟨⟨i, q, rfl, rfl, by omega, by omega, by omega, HI, HFx.out HLV.out, HV2⟩, by simp [intOf]; omega⟩
  ·obtain rfl : i = j := by omega
   go_wp2_with fail
   go_loopw [13] (fun kv wr2 => ∃ (k : Nat) (L1 : List Nat), kv = .int .i64 (k : Int) ∧ a ≤ k ∧ k + 1 ≤ i ∧ Hid (Mv L L1 (up1 a k)) ∧ Hid (Nw w wr2 g L L1)) (fun kv _ => i - (intOf kv).toNat)
   case atStart => exact ⟨a, L, rfl, Nat.le_refl _, by omega, up1_zero L a, HV⟩
   case round =>
    obtain ⟨k, L1, rfl, hak, hki, HM, HW⟩ := hrel
    have hl1 := HW.out.len
    by_cases hkl : k + 1 < i
    ·have hkz : (k : Int) < (i : Int) - 1 := by omega
     have c1 := HW.out.nb.cell (k := k) (by omega)
     have c2 := HW.out.nb.cell (k := k + 1) (by omega)
     have f1 := HW.out.nb.free k
     have f2 := HW.out.nb.free (k + 1)
     obtain ⟨u, c3⟩ := HW.out.nb.any k (ix L1 (k + 1)) (j := k + 1) (by omega)
     have HW1 := hide' (HW.out.swapped (i := k) (j := k + 1) (by omega) (by omega))
     have HM1 := hide' (up1_next HM.out hak (by omega))
     obtain ⟨x, hx⟩ : ∃ x, ix L1 k = x := ⟨_, rfl⟩
     obtain ⟨y, hy⟩ : ∃ y, ix L1 (k + 1) = y := ⟨_, rfl⟩
     rw [hx, hy] at HW1
     rw [hx] at c1
     rw [hy] at c2 c3
     clear hx hy
     have p1 : (0 : Int) ≤ (k : Int) := by omega
     have p2 : (k : Int) < (L.length : Int) := by omega
     have p3 : (0 : Int) ≤ (k : Int) + 1 := by omega
     have p4 : (k : Int) + 1 < (L.length : Int) := by omega
     have rp : IntKind.i64.wrap ((k : Int) + 1) = (k : Int) + 1 := by rw [IntKind.wrap_i64]; omega
     have ep : ((k : Int) + 1).toNat = k + 1 := by omega
     go_wp2_with fail
     go_region_with (fail)
     all_goals
      go_wp2_with fail
      refine ⟨⟨k + 1, _, by go_num, by omega, by omega, HM1, HW1.out.drew⟩, by simp [intOf]; omega⟩
    ·have hkz : ¬ (k : Int) < (i : Int) - 1 := by omega
     obtain rfl : k = i - 1 := by omega
     go_wp2_with fail
     (try simp only [Exit.inBlock, Exit.then]); refine bodyPost_ret (results_none rfl _ _ _) rfl ?_
     refine ⟨rfl, L1, up1_rg HM.out HW.out.pm hak (by omega), into_up HO.out HS.out (by omega) hjb (by rw [hm]; exact HI.out) HJ.out HM.out, HW.out⟩
end Go.Proofs.YtoabnpdoicbpiaaGreat
namespace Go.Proofs.YtoabnpdoicbpiaaGreat
set_option linter.unusedVariables false
set_option linter.unusedSimpArgs false
open Go.RowKit Go.Shelf Go.Proofs.YtoabnpdoicbpiaaGreat.Nm Go.Proofs.YtoabnpdoicbpiaaGreat.Zs
set_option maxRecDepth 100000 in
set_option maxHeartbeats 1000000 in
theorem symB_any (cv : Value) (lt : Nat → Nat → Bool) (O : Ord lt) (g cap n : Nat) (L : List Nat) (a m : Nat) (w : World) (h : Nb w g L) (hC : Cm w g n cv lt) (hn : ∀ x ∈ L, x < n) (ha : a + 1 < m) (hb : m + 1 ≤ L.length) (hL : L.length ≤ 1048576) (h1 : So lt L a m) :
  Calls Tryz.prog 123 #[.slice (some ⟨g, 0, none⟩) L.length cap, .int .i64 (a : Int), .int .i64 (m : Int), .int .i64 ((m + 1 : Nat) : Int), cmf cv] w fun r w' => r = .returned (.tuple #[]) ∧ ∃ L', Rg L L' a (m + 1) ∧ So lt L' a (m + 1) ∧ Nw w w' g L L' := by
 have H0 : Hid (Nw w w g L L) := ⟨h, .refl _, grown_refl _ _⟩
 have HC := hide' hC
 have HN := hide' hn
 have HO := hide' O
 have HS := hide' h1
 clear h hC hn O h1
 obtain ⟨b, hm⟩ : ∃ b, m + 1 = b := ⟨_, rfl⟩
 have hma : ¬ (m : Int) - (a : Int) = 1 := by omega
 have hmd : ((m : Int) - (a : Int) == 1) = false := by simp; omega
 have hbm : (b : Int) - (m : Int) = 1 := by omega
 rw [hm]
 go_enter Tryz.func123, Tryz.ntmps123
 go_wp2_with fail
 go_loopw [14, 15] (fun iv jv wr => ∃ (i j : Nat), iv = .int .i64 (i : Int) ∧ jv = .int .i64 (j : Int) ∧ a ≤ i ∧ i ≤ j ∧ j ≤ m ∧ Hid (i = a ∨ lt (ix L m) (ix L (i - 1)) = false) ∧ Hid (j = m ∨ lt (ix L m) (ix L j) = true) ∧ Hid (Nw w wr g L L)) (fun iv jv _ => (intOf jv).toNat - (intOf iv).toNat)
 case atStart => exact ⟨a, m, rfl, rfl, Nat.le_refl _, by omega, Nat.le_refl _, Or.inl rfl, Or.inl rfl, H0⟩
 case round =>
  obtain ⟨i, j, rfl, rfl, him, hij, hjb, HI, HJ, HV⟩ := hrel
  by_cases hlt : i < j
  ·obtain ⟨q, hq⟩ : ∃ q, (i + j) / 2 = q := ⟨_, rfl⟩
   have hqz : ((i : Int) + (j : Int)) / 2 = (q : Int) := by omega
   have hqi : i ≤ q ∧ q < j := by omega
   have HK : Hid (∀ W, wr.grownBy W (some g) → Calls Tryz.prog 71 #[.int .i64 (ix L m : Int), .int .i64 (ix L q : Int), cv] W fun r w' => (∃ c : Int, r = .returned (.int .i64 c) ∧ decide (c < 0) = lt (ix L m) (ix L q)) ∧ Below W.heap.size W w') :=
    fun W hW => HC.out _ _ W (HN.out _ (ix_mem (by omega))) (HN.out _ (ix_mem (by omega))) (grown_trans HV.out.gr hW)
   have HCA : Hid (∀ W, Nw w W g L L → W.cell? ⟨g, m, none⟩ = some (.int .i64 (ix L m : Int)) ∧ W.cell? ⟨g, q, none⟩ = some (.int .i64 (ix L q : Int))) := fun W hW =>
    ⟨hW.nb.cell (k := m) (by omega), hW.nb.cell (k := q) (by omega)⟩
   have HF : Hid (lt (ix L m) (ix L q) = false → (q + 1 = a ∨ lt (ix L m) (ix L (q + 1 - 1)) = false)) := fun h => Or.inr h
   have HT : Hid (lt (ix L m) (ix L q) = true → (q = m ∨ lt (ix L m) (ix L q) = true)) := fun h => Or.inr h
   obtain ⟨x, hx⟩ : ∃ x, ix L m = x := ⟨_, rfl⟩
   obtain ⟨y, hy⟩ : ∃ y, ix L q = y := ⟨_, rfl⟩
   have HTx : Hid (lt x y = true → (q = m ∨ lt (ix L m) (ix L q) = true)) := fun h => HT.out (by rw [hx, hy]; exact h)
   have HFx : Hid (lt x y = false → (q + 1 = a ∨ lt (ix L m) (ix L (q + 1 - 1)) = false)) := fun h => HF.out (by rw [hx, hy]; exact h)
   rw [hx, hy] at HK HCA
   clear hx hy hq HT HF
   have p1 : (0 : Int) ≤ (q : Int) := by omega
   have p2 : (q : Int) < (L.length : Int) := by omega
   have p3 : (0 : Int) ≤ (m : Int) := by omega
   have p4 : (m : Int) < (L.length : Int) := by omega
   obtain ⟨ca, cb⟩ := HCA.out _ HV.out
   cases hlv : lt x y with
   | true =>
    rw [hlv] at HK
    have HLV := hide' hlv
    clear hlv
    go_wp2_with fail
    go_region_held3 (fun V => V.cell? ⟨g, m, none⟩ = some (.int .i64 (x : Int)) ∧ V.cell? ⟨g, q, none⟩ = some (.int .i64 (y : Int))) (first | go_keep | exact HCA.out _ HV2.out) ((go_at_call 71; refine (HK.out _ (grown_drewN _ 1 _)).mono ?_; rintro r w2 ⟨⟨c, rfl, hc⟩, hB2⟩; have hcn : c < 0 := of_decide_eq_true hc; have HV2 := hide' (HV.out.drew.below hB2); clear hB2))
    go_wp2_with fail
    refine ⟨⟨i, q, rfl, rfl, by omega, by omega, by omega, HI, HTx.out HLV.out, HV2⟩, by simp [intOf]; omega⟩
   | false =>
    rw [hlv] at HK
    have HLV := hide' hlv
    clear hlv
    go_wp2_with fail
    go_region_held3 (fun V => V.cell? ⟨g, m, none⟩ = some (.int .i64 (x : Int)) ∧ V.cell? ⟨g, q, none⟩ = some (.int .i64 (y : Int))) (first | go_keep | exact HCA.out _ HV2.out) ((go_at_call 71; refine (HK.out _ (grown_drewN _ 1 _)).mono ?_; rintro r w2 ⟨⟨c, rfl, hc⟩, hB2⟩; have hcn : ¬ c < 0 := of_decide_eq_false hc; have HV2 := hide' (HV.out.drew.below hB2); clear hB2))
    go_wp2_with fail
    refine ⟨⟨q + 1, j, by go_num, rfl, by omega, by omega, by omega, HFx.out HLV.out, HJ, HV2⟩, by simp [intOf]; omega⟩
  ·obtain rfl : i = j := by omega
   go_wp2_with fail
   go_loopw [17] (fun kv wr2 => ∃ (k : Nat) (L1 : List Nat), kv = .int .i64 (k : Int) ∧ i ≤ k ∧ k ≤ m ∧ Hid (Mv L L1 (dn1 m k)) ∧ Hid (Nw w wr2 g L L1)) (fun kv _ => (intOf kv).toNat)
   case atStart => exact ⟨m, L, rfl, by omega, Nat.le_refl _, dn1_zero L m, HV⟩
   case round =>
    obtain ⟨k, L1, rfl, hak, hki, HM, HW⟩ := hrel
    have hl1 := HW.out.len
    by_cases hkl : i < k
    ·obtain ⟨q, rfl⟩ : ∃ q, k = q + 1 := ⟨k - 1, by omega⟩
     have hkz : (i : Int) < (q : Int) + 1 := by omega
     have hkd : (q : Int) + 1 > (i : Int) := by omega
     have c1 := HW.out.nb.cell (k := q + 1) (by omega)
     have c2 := HW.out.nb.cell (k := q) (by omega)
     have f1 := HW.out.nb.free (q + 1)
     have f2 := HW.out.nb.free q
     obtain ⟨u, c3⟩ := HW.out.nb.any (q + 1) (ix L1 q) (j := q) (by omega)
     have HW1 := hide' (HW.out.swapped (i := q + 1) (j := q) (by omega) (by omega))
     have HM1 := hide' (dn1_next HM.out (by omega) hki (by omega))
     rw [Nat.add_sub_cancel] at HM1
     obtain ⟨x, hx⟩ : ∃ x, ix L1 (q + 1) = x := ⟨_, rfl⟩
     obtain ⟨y, hy⟩ : ∃ y, ix L1 q = y := ⟨_, rfl⟩
     rw [hx, hy] at HW1
     rw [hx] at c1
     rw [hy] at c2 c3
     clear hx hy
     have p1 : (0 : Int) ≤ (q : Int) := by omega
     have p2 : (q : Int) < (L.length : Int) := by omega
     have p3 : (0 : Int) ≤ (q : Int) + 1 := by omega
     have p4 : (q : Int) + 1 < (L.length : Int) := by omega
     have rp : IntKind.i64.wrap ((q : Int) + 1) = (q : Int) + 1 := by rw [IntKind.wrap_i64]; omega
     have rq : IntKind.i64.wrap (q : Int) = (q : Int) := by rw [IntKind.wrap_i64]; omega
     have ep : ((q : Int) + 1).toNat = q + 1 := by omega
     go_wp2_with fail
     go_region_with (fail)
     all_goals
      go_wp2_with fail
      refine ⟨⟨q, _, by go_num, by omega, by omega, HM1, HW1.out.drew⟩, by simp [intOf]⟩
    ·obtain rfl : k = i := by omega
     go_wp2_with fail
     (try simp only [Exit.inBlock, Exit.then]); refine bodyPost_ret (results_none rfl _ _ _) rfl ?_
     exact ⟨rfl, L1, dn1_rg HM.out HW.out.pm him hjb (by omega), by rw [← hm]; exact into_dn HO.out HS.out him hjb HI.out HJ.out HM.out, HW.out⟩
end Go.Proofs.YtoabnpdoicbpiaaGreat
namespace Go.Proofs.YtoabnpdoicbpiaaGreat
set_option linter.unusedVariables false
set_option linter.unusedSimpArgs false
open Go.RowKit Go.Shelf Go.Proofs.YtoabnpdoicbpiaaGreat.Nm Go.Proofs.YtoabnpdoicbpiaaGreat.Zs
theorem rt_id {s m e : Nat} (h1 : s ≤ m) (h2 : m ≤ e) (h : ¬ (s < m ∧ m < e)) (k : Nat) : rt s m e k = k := by
 unfold rt; (repeat' split) <;> omega
theorem mv_id (L : List Nat) {f : Nat → Nat} (h : ∀ k, f k = k) : Mv L L f := fun k => by rw [h k]
structure Hm (lt : Nat → Nat → Bool) (L L' : List Nat) (a s b : Nat) : Prop where
 rg : Rg L L' a b
 so : So lt L a s → So lt L s b → So lt L' a b
theorem Hm.none {lt : Nat → Nat → Bool} (L : List Nat) {a s b : Nat} (h1 : a ≤ s) (h2 : s ≤ b) (h : ¬ (a < s ∧ s < b)) : Hm lt L L a s b := by
 refine ⟨Rg.refl L a b, fun p1 p2 => ?_⟩
 by_cases e : a < s
 ·obtain rfl : s = b := by omega
  exact p1
 ·obtain rfl : a = s := by omega
  exact p2
theorem sym_end {lt : Nat → Nat → Bool} (O : Ord lt) {L L1 L2 L3 : List Nat} {a m b mid s e : Nat} (hv : Hv lt L1 a s mid e b) (pm : L1.Perm L) (mv : Mv L L1 (rt s m e)) (h1 : a ≤ s) (h2 : s ≤ mid) (h3 : mid ≤ e) (h4 : e ≤ b) (h5 : s ≤ m) (h6 : m ≤ e)
  (hl : Hm lt L1 L2 a s mid) (hr : Hm lt L2 L3 mid e b) : Rg L L3 a b ∧ So lt L3 a b := by
 have r0 : Rg L L1 a b := (Mv.rg mv pm h5 h6).wide h1 h4
 refine ⟨(r0.trans (hl.rg.wide (Nat.le_refl _) (by omega))).trans (hr.rg.wide (by omega) (Nat.le_refl _)), ?_⟩
 exact whole O hv h1 h2 h3 h4 hl.rg hr.rg (hl.so hv.p1 hv.p2) (hr.so (hv.p3.out hl.rg (Or.inr (Nat.le_refl _))) (hv.p4.out hl.rg (Or.inr h3)))
def Sy (cv : Value) (lt : Nat → Nat → Bool) (g cap n K : Nat) : Prop := ∀ (L : List Nat) (l a m b : Nat) (w : World), b - a < K → l = L.length → Nb w g L → Cm w g n cv lt → (∀ x ∈ L, x < n) → a < m → m < b → b ≤ L.length → L.length ≤ 1048576 → So lt L a m → So lt L m b →
  Calls Tryz.prog 123 #[.slice (some ⟨g, 0, none⟩) l cap, .int .i64 (a : Int), .int .i64 (m : Int), .int .i64 (b : Int), cmf cv] w fun r w' => r = .returned (.tuple #[]) ∧ ∃ L', Rg L L' a b ∧ So lt L' a b ∧ Nw w w' g L L'
theorem Nw.mem {w wr : World} {g n : Nat} {L L' : List Nat} (h : Nw w wr g L L') (hn : ∀ x ∈ L, x < n) : ∀ x ∈ L', x < n := fun x hx => hn x (h.pm.mem_iff.1 hx)
set_option maxRecDepth 100000 in
set_option maxHeartbeats 4000000 in
theorem symC1_any (cv : Value) (lt : Nat → Nat → Bool) (O : Ord lt) (g cap n : Nat) (L : List Nat) (a m b mid : Nat) (w : World) (IH : Sy cv lt g cap n (b - a)) (h : Nb w g L) (hC : Cm w g n cv lt) (hn : ∀ x ∈ L, x < n) (ha : a + 1 < m) (hm : m + 1 < b) (hb : b ≤ L.length) (hL : L.length ≤ 1048576) (h1 : So lt L a m) (h2 : So lt L m b) (hmid : mid = (a + b) / 2) (hcase : mid < m) :
  Calls Tryz.prog 123 #[.slice (some ⟨g, 0, none⟩) L.length cap, .int .i64 (a : Int), .int .i64 (m : Int), .int .i64 (b : Int), cmf cv] w fun r w' => r = .returned (.tuple #[]) ∧ ∃ L', Rg L L' a b ∧ So lt L' a b ∧ Nw w w' g L L' := by
 have H0 : Hid (Nw w w g L L) := ⟨h, .refl _, grown_refl _ _⟩
 have HC := hide' hC
 have HN := hide' hn
 have HO := hide' O
 have HS1 := hide' h1
 have HS2 := hide' h2
 have HIH := hide' IH
 have HRO := hide' (rotate_any (cmf cv) g cap L)
 have hma : ¬ (m : Int) - (a : Int) = 1 := by omega
 have hmd : ((m : Int) - (a : Int) == 1) = false := by simp; omega
 have hbm : ¬ (b : Int) - (m : Int) = 1 := by omega
 have hbd : ((b : Int) - (m : Int) == 1) = false := by simp; omega
 have hmz : ((a : Int) + (b : Int)) / 2 = (mid : Int) := by omega
 obtain ⟨N, hN⟩ : ∃ N, mid + m = N := ⟨_, rfl⟩
 have hNz : (mid : Int) + (m : Int) = (N : Int) := by omega
 obtain ⟨p, hp⟩ : ∃ p, N - 1 = p := ⟨_, rfl⟩
 have hpz : (N : Int) - 1 = (p : Int) := by omega
 have hcz : (m : Int) > (mid : Int) := by omega
 obtain ⟨lo, hlo⟩ : ∃ lo, mid + m - b = lo := ⟨_, rfl⟩
 have hloz : (N : Int) - (b : Int) = (lo : Int) := by omega
 have HMID := hide' hmid
 clear h hC hn O h1 h2 IH hmid
 have hmm : a < mid ∧ mid < b := by have := HMID.out; omega
 go_enter Tryz.func123, Tryz.ntmps123
 go_wp2_with fail
 go_loopw [20, 21] (fun sv rv wr => ∃ (s r : Nat), sv = .int .i64 (s : Int) ∧ rv = .int .i64 (r : Int) ∧ lo ≤ s ∧ s ≤ r ∧ r ≤ mid ∧ Hid (s = lo ∨ lt (ix L (p - (s - 1))) (ix L (s - 1)) = false) ∧ Hid (r = mid ∨ lt (ix L (p - r)) (ix L r) = true) ∧ Hid (Nw w wr g L L)) (fun sv rv _ => (intOf rv).toNat - (intOf sv).toNat)
 case atStart => exact ⟨lo, mid, rfl, rfl, Nat.le_refl _, by have := HMID.out; omega, Nat.le_refl _, Or.inl rfl, Or.inl rfl, H0⟩
 case round =>
  obtain ⟨s, r, rfl, rfl, hls, hsr, hrh, HI, HJ, HV⟩ := hrel
  by_cases hlt : s < r
  ·obtain ⟨q, hq⟩ : ∃ q, (s + r) / 2 = q := ⟨_, rfl⟩
   have hqz : ((s : Int) + (r : Int)) / 2 = (q : Int) := by omega
   have hqi : s ≤ q ∧ q < r := by omega
   obtain ⟨z, hz⟩ : ∃ z, p - q = z := ⟨_, rfl⟩
   have hzz : (p : Int) - (q : Int) = (z : Int) := by have := HMID.out; omega
   have hzl : z < L.length ∧ q < L.length := by have := HMID.out; omega
   have HK : Hid (∀ W, wr.grownBy W (some g) → Calls Tryz.prog 71 #[.int .i64 (ix L z : Int), .int .i64 (ix L q : Int), cv] W fun r w' => (∃ c : Int, r = .returned (.int .i64 c) ∧ decide (c < 0) = lt (ix L z) (ix L q)) ∧ Below W.heap.size W w') :=
    fun W hW => HC.out _ _ W (HN.out _ (ix_mem hzl.1)) (HN.out _ (ix_mem hzl.2)) (grown_trans HV.out.gr hW)
   have HCA : Hid (∀ W, Nw w W g L L → W.cell? ⟨g, z, none⟩ = some (.int .i64 (ix L z : Int)) ∧ W.cell? ⟨g, q, none⟩ = some (.int .i64 (ix L q : Int))) := fun W hW =>
    ⟨hW.nb.cell (k := z) hzl.1, hW.nb.cell (k := q) hzl.2⟩
   have HF : Hid (lt (ix L z) (ix L q) = false → (q + 1 = lo ∨ lt (ix L (p - (q + 1 - 1))) (ix L (q + 1 - 1)) = false)) := fun h => Or.inr (by rw [Nat.add_sub_cancel, hz]; exact h)
   have HT : Hid (lt (ix L z) (ix L q) = true → (q = mid ∨ lt (ix L (p - q)) (ix L q) = true)) := fun h => Or.inr (by rw [hz]; exact h)
   obtain ⟨x, hx⟩ : ∃ x, ix L z = x := ⟨_, rfl⟩
   obtain ⟨y, hy⟩ : ∃ y, ix L q = y := ⟨_, rfl⟩
   have HTx : Hid (lt x y = true → (q = mid ∨ lt (ix L (p - q)) (ix L q) = true)) := fun h => HT.out (by rw [hx, hy]; exact h)
   have HFx : Hid (lt x y = false → (q + 1 = lo ∨ lt (ix L (p - (q + 1 - 1))) (ix L (q + 1 - 1)) = false)) := fun h => HF.out (by rw [hx, hy]; exact h)
   rw [hx, hy] at HK HCA
   clear hx hy hq HT HF hz
   have p1 : (0 : Int) ≤ (q : Int) := by omega
   have p2 : (q : Int) < (L.length : Int) := by omega
   have p3 : (0 : Int) ≤ (z : Int) := by omega
   have p4 : (z : Int) < (L.length : Int) := by omega
   have rz : IntKind.i64.wrap ((p : Int) - (q : Int)) = (z : Int) := by rw [IntKind.wrap_i64]; omega
   have rw' : IntKind.i64.wrap (z : Int) = (z : Int) := by rw [IntKind.wrap_i64]; omega
   obtain ⟨ca, cb⟩ := HCA.out _ HV.out
   cases hlv : lt x y with
   | true =>
    rw [hlv] at HK
    have HLV := hide' hlv
    clear hlv
    go_wp2_with fail
    go_region_held3 (fun V => V.cell? ⟨g, z, none⟩ = some (.int .i64 (x : Int)) ∧ V.cell? ⟨g, q, none⟩ = some (.int .i64 (y : Int))) (first | go_keep | exact HCA.out _ HV2.out) ((go_at_call 71; refine (HK.out _ (grown_drewN _ 1 _)).mono ?_; rintro r w2 ⟨⟨c, rfl, hc⟩, hB2⟩; have hcn : c < 0 := of_decide_eq_true hc; have HV2 := hide' (HV.out.drew.below hB2); clear hB2))
    go_wp2_with fail
    refine ⟨⟨s, q, rfl, rfl, by omega, by omega, by omega, HI, HTx.out HLV.out, HV2⟩, by simp [intOf]; omega⟩
   | false =>
    rw [hlv] at HK
    have HLV := hide' hlv
    clear hlv
    go_wp2_with fail
    go_region_held3 (fun V => V.cell? ⟨g, z, none⟩ = some (.int .i64 (x : Int)) ∧ V.cell? ⟨g, q, none⟩ = some (.int .i64 (y : Int))) (first | go_keep | exact HCA.out _ HV2.out) ((go_at_call 71; refine (HK.out _ (grown_drewN _ 1 _)).mono ?_; rintro r w2 ⟨⟨c, rfl, hc⟩, hB2⟩; have hcn : ¬ c < 0 := of_decide_eq_false hc; have HV2 := hide' (HV.out.drew.below hB2); clear hB2))
    go_wp2_with fail
    refine ⟨⟨q + 1, r, by go_num, rfl, by omega, by omega, by omega, HFx.out HLV.out, HJ, HV2⟩, by simp [intOf]; omega⟩
  ·obtain rfl : s = r := by omega
   obtain ⟨e, he⟩ : ∃ e, N - s = e := ⟨_, rfl⟩
   have hez : (N : Int) - (s : Int) = (e : Int) := by have := HMID.out; omega
   have FD : Hid (Zs.Fd lt L lo mid (mid + m - 1) s) := ⟨hls, hrh, by rw [hN, hp]; exact HI.out, by rw [hN, hp]; exact HJ.out⟩
   have HHV : Hid (∀ L', Mv L L' (rt s m e) → Hv lt L' a s mid e b) := fun L' hv => halves HO.out (by omega) (by omega) HMID.out (by omega) (by omega) (by rw [if_pos hcase]; first | done | omega) (by rw [if_pos hcase]) HS1.out HS2.out FD.out hv
   have hfacts : a ≤ s ∧ s ≤ mid ∧ mid ≤ e ∧ e ≤ b ∧ s ≤ m ∧ m ≤ e := by have := HMID.out; omega
   obtain ⟨k1, k2, k3, k4, k5, k6⟩ := hfacts
   have HLc : Hid (∀ (W : World) (L1 : List Nat), Nw w W g L L1 → Hv lt L1 a s mid e b → a < s ∧ s < mid → Calls Tryz.prog 123 #[.slice (some ⟨g, 0, none⟩) L.length cap, .int .i64 (a : Int), .int .i64 (s : Int), .int .i64 (mid : Int), cmf cv] W fun r w' => r = .returned (.tuple #[]) ∧ ∃ L2, Hm lt L1 L2 a s mid ∧ Nw w w' g L L2) := fun W L1 hw hv hc => by
    have hl := hw.len
    refine (HIH.out L1 L.length a s mid W (by omega) hl.symm hw.nb (HC.out.grown hw.gr) (hw.mem HN.out) hc.1 hc.2 (by omega) (by omega) hv.p1 hv.p2).mono ?_
    rintro r w3 ⟨rfl, L2, hr2, hs2, hw2⟩
    exact ⟨rfl, L2, ⟨hr2, fun _ _ => hs2⟩, hw.next hw2⟩
   have HRc : Hid (∀ (W : World) (L1 L2 : List Nat), Nw w W g L L2 → Hv lt L1 a s mid e b → Hm lt L1 L2 a s mid → mid < e ∧ e < b → Calls Tryz.prog 123 #[.slice (some ⟨g, 0, none⟩) L.length cap, .int .i64 (mid : Int), .int .i64 (e : Int), .int .i64 (b : Int), cmf cv] W fun r w' => r = .returned (.tuple #[]) ∧ ∃ L3, Hm lt L2 L3 mid e b ∧ Nw w w' g L L3) := fun W L1 L2 hw hv hh hc => by
    have hl := hw.len
    refine (HIH.out L2 L.length mid e b W (by omega) hl.symm hw.nb (HC.out.grown hw.gr) (hw.mem HN.out) hc.1 hc.2 (by omega) (by omega) (hv.p3.out hh.rg (Or.inr (Nat.le_refl _))) (hv.p4.out hh.rg (Or.inr k3))).mono ?_
    rintro r w3 ⟨rfl, L3, hr3, hs3, hw3⟩
    exact ⟨rfl, L3, ⟨hr3, fun _ _ => hs3⟩, hw.next hw3⟩
   have HRo : Hid (∀ W, Nw w W g L L → s < m ∧ m < e → Calls Tryz.prog 139 #[.slice (some ⟨g, 0, none⟩) L.length cap, .int .i64 (s : Int), .int .i64 (m : Int), .int .i64 (e : Int), cmf cv] W fun r w' => r = .returned (.tuple #[]) ∧ ∃ L1, Mv L L1 (rt s m e) ∧ Nw w w' g L L1) := fun W hw hc => by
    refine (HRO.out s m e W hw.nb hc.1 hc.2 (by omega) hL).mono ?_
    rintro r w2 ⟨rfl, L1, hv1, hw1⟩
    exact ⟨rfl, L1, hv1, hw.next hw1⟩
   clear HI HJ he HRO HIH HC HN
   by_cases A : s < mid
   ·by_cases B : a < s
    ·by_cases C : e < b
     ·skip
      have z0 : (s : Int) < (m : Int) := by omega
      have w0 : decide ((s : Int) < (m : Int)) = true := decide_eq_true z0
      have z1 : (m : Int) < (e : Int) := by omega
      have w1 : decide ((m : Int) < (e : Int)) = true := decide_eq_true z1
      have z2 : (a : Int) < (s : Int) := by omega
      have w2 : decide ((a : Int) < (s : Int)) = true := decide_eq_true z2
      have z3 : (s : Int) < (mid : Int) := by omega
      have w3 : decide ((s : Int) < (mid : Int)) = true := decide_eq_true z3
      have z4 : (mid : Int) < (e : Int) := by omega
      have w4 : decide ((mid : Int) < (e : Int)) = true := decide_eq_true z4
      have z5 : (e : Int) < (b : Int) := by omega
      have w5 : decide ((e : Int) < (b : Int)) = true := decide_eq_true z5
      go_wp2_with (first | (go_at_call 139; (with_reducible refine (HRo.out _ HV.out (by omega)).mono ?_); rintro r w2 ⟨rfl, L1, hv1, hw1⟩; have HM1 := hide' hv1; have HW1 := hide' hw1; clear hv1 hw1; have HHX := hide' (HHV.out L1 HM1.out)) | (go_at_call 123; (with_reducible refine (HLc.out _ L1 HW1.out HHX.out (by omega)).mono ?_); rintro r w3 ⟨rfl, L2, hh2, hw2⟩; have HL2 := hide' hh2; have HW2 := hide' hw2; clear hh2 hw2) | (go_at_call 123; (with_reducible refine (HRc.out _ L1 L2 HW2.out HHX.out HL2.out (by omega)).mono ?_); rintro r w4 ⟨rfl, L3, hh3, hw3⟩; have HL3 := hide' hh3; have HW3 := hide' hw3; clear hh3 hw3))
      go_end0
      obtain ⟨y1, y2⟩ := sym_end HO.out HHX.out HW1.out.pm HM1.out k1 k2 k3 k4 k5 k6 HL2.out HL3.out
      exact ⟨rfl, L3, y1, y2, HW3.out⟩
     ·skip
      have z0 : (s : Int) < (m : Int) := by omega
      have w0 : decide ((s : Int) < (m : Int)) = true := decide_eq_true z0
      have z1 : (m : Int) < (e : Int) := by omega
      have w1 : decide ((m : Int) < (e : Int)) = true := decide_eq_true z1
      have z2 : (a : Int) < (s : Int) := by omega
      have w2 : decide ((a : Int) < (s : Int)) = true := decide_eq_true z2
      have z3 : (s : Int) < (mid : Int) := by omega
      have w3 : decide ((s : Int) < (mid : Int)) = true := decide_eq_true z3
      have z4 : (mid : Int) < (e : Int) := by omega
      have w4 : decide ((mid : Int) < (e : Int)) = true := decide_eq_true z4
      have z5 : ¬ (e : Int) < (b : Int) := by omega
      have w5 : decide ((e : Int) < (b : Int)) = false := decide_eq_false z5
      go_wp2_with (first | (go_at_call 139; (with_reducible refine (HRo.out _ HV.out (by omega)).mono ?_); rintro r w2 ⟨rfl, L1, hv1, hw1⟩; have HM1 := hide' hv1; have HW1 := hide' hw1; clear hv1 hw1; have HHX := hide' (HHV.out L1 HM1.out)) | (go_at_call 123; (with_reducible refine (HLc.out _ L1 HW1.out HHX.out (by omega)).mono ?_); rintro r w3 ⟨rfl, L2, hh2, hw2⟩; have HL2 := hide' hh2; have HW2 := hide' hw2; clear hh2 hw2))
      go_end0
      have HL3 : Hid (Hm lt L2 L2 mid e b) := Hm.none L2 k3 k4 (by omega)
      have HW3 := HW2
      obtain ⟨y1, y2⟩ := sym_end HO.out HHX.out HW1.out.pm HM1.out k1 k2 k3 k4 k5 k6 HL2.out HL3.out
      exact ⟨rfl, L2, y1, y2, HW3.out⟩
    ·by_cases C : e < b
     ·skip
      have z0 : (s : Int) < (m : Int) := by omega
      have w0 : decide ((s : Int) < (m : Int)) = true := decide_eq_true z0
      have z1 : (m : Int) < (e : Int) := by omega
      have w1 : decide ((m : Int) < (e : Int)) = true := decide_eq_true z1
      have z2 : ¬ (a : Int) < (s : Int) := by omega
      have w2 : decide ((a : Int) < (s : Int)) = false := decide_eq_false z2
      have z3 : (s : Int) < (mid : Int) := by omega
      have w3 : decide ((s : Int) < (mid : Int)) = true := decide_eq_true z3
      have z4 : (mid : Int) < (e : Int) := by omega
      have w4 : decide ((mid : Int) < (e : Int)) = true := decide_eq_true z4
      have z5 : (e : Int) < (b : Int) := by omega
      have w5 : decide ((e : Int) < (b : Int)) = true := decide_eq_true z5
      go_wp2_with (first | (go_at_call 139; (with_reducible refine (HRo.out _ HV.out (by omega)).mono ?_); rintro r w2 ⟨rfl, L1, hv1, hw1⟩; have HM1 := hide' hv1; have HW1 := hide' hw1; clear hv1 hw1; have HHX := hide' (HHV.out L1 HM1.out); have HL2 : Hid (Hm lt L1 L1 a s mid) := Hm.none L1 k1 k2 (by omega); have HW2 := HW1) | (go_at_call 123; (with_reducible refine (HRc.out _ L1 L1 HW2.out HHX.out HL2.out (by omega)).mono ?_); rintro r w4 ⟨rfl, L3, hh3, hw3⟩; have HL3 := hide' hh3; have HW3 := hide' hw3; clear hh3 hw3))
      go_end0
      obtain ⟨y1, y2⟩ := sym_end HO.out HHX.out HW1.out.pm HM1.out k1 k2 k3 k4 k5 k6 HL2.out HL3.out
      exact ⟨rfl, L3, y1, y2, HW3.out⟩
     ·skip
      have z0 : (s : Int) < (m : Int) := by omega
      have w0 : decide ((s : Int) < (m : Int)) = true := decide_eq_true z0
      have z1 : (m : Int) < (e : Int) := by omega
      have w1 : decide ((m : Int) < (e : Int)) = true := decide_eq_true z1
      have z2 : ¬ (a : Int) < (s : Int) := by omega
      have w2 : decide ((a : Int) < (s : Int)) = false := decide_eq_false z2
      have z3 : (s : Int) < (mid : Int) := by omega
      have w3 : decide ((s : Int) < (mid : Int)) = true := decide_eq_true z3
      have z4 : (mid : Int) < (e : Int) := by omega
      have w4 : decide ((mid : Int) < (e : Int)) = true := decide_eq_true z4
      have z5 : ¬ (e : Int) < (b : Int) := by omega
      have w5 : decide ((e : Int) < (b : Int)) = false := decide_eq_false z5
      go_wp2_with (first | (go_at_call 139; (with_reducible refine (HRo.out _ HV.out (by omega)).mono ?_); rintro r w2 ⟨rfl, L1, hv1, hw1⟩; have HM1 := hide' hv1; have HW1 := hide' hw1; clear hv1 hw1; have HHX := hide' (HHV.out L1 HM1.out); have HL2 : Hid (Hm lt L1 L1 a s mid) := Hm.none L1 k1 k2 (by omega); have HW2 := HW1))
      go_end0
      have HL3 : Hid (Hm lt L1 L1 mid e b) := Hm.none L1 k3 k4 (by omega)
      have HW3 := HW2
      obtain ⟨y1, y2⟩ := sym_end HO.out HHX.out HW1.out.pm HM1.out k1 k2 k3 k4 k5 k6 HL2.out HL3.out
      exact ⟨rfl, L1, y1, y2, HW3.out⟩
   ·skip
    have z0 : (s : Int) < (m : Int) := by omega
    have w0 : decide ((s : Int) < (m : Int)) = true := decide_eq_true z0
    have z1 : ¬ (m : Int) < (e : Int) := by omega
    have w1 : decide ((m : Int) < (e : Int)) = false := decide_eq_false z1
    have z2 : (a : Int) < (s : Int) := by omega
    have w2 : decide ((a : Int) < (s : Int)) = true := decide_eq_true z2
    have z3 : ¬ (s : Int) < (mid : Int) := by omega
    have w3 : decide ((s : Int) < (mid : Int)) = false := decide_eq_false z3
    have z4 : (mid : Int) < (e : Int) := by omega
    have w4 : decide ((mid : Int) < (e : Int)) = true := decide_eq_true z4
    have z5 : (e : Int) < (b : Int) := by omega
    have w5 : decide ((e : Int) < (b : Int)) = true := decide_eq_true z5
    have HM1 : Hid (Mv L L (rt s m e)) := mv_id L (rt_id k5 k6 (by omega))
    have HW1 := HV
    have HHX := hide' (HHV.out L HM1.out)
    have HL2 : Hid (Hm lt L L a s mid) := Hm.none L k1 k2 (by omega)
    have HW2 := HW1
    go_wp2_with (first | (go_at_call 123; (with_reducible refine (HRc.out _ L L HW2.out HHX.out HL2.out (by omega)).mono ?_); rintro r w4 ⟨rfl, L3, hh3, hw3⟩; have HL3 := hide' hh3; have HW3 := hide' hw3; clear hh3 hw3))
    go_end0
    obtain ⟨y1, y2⟩ := sym_end HO.out HHX.out HW1.out.pm HM1.out k1 k2 k3 k4 k5 k6 HL2.out HL3.out
    exact ⟨rfl, L3, y1, y2, HW3.out⟩
end Go.Proofs.YtoabnpdoicbpiaaGreat
namespace Go.Proofs.YtoabnpdoicbpiaaGreat
set_option linter.unusedVariables false
set_option linter.unusedSimpArgs false
open Go.RowKit Go.Shelf Go.Proofs.YtoabnpdoicbpiaaGreat.Nm Go.Proofs.YtoabnpdoicbpiaaGreat.Zs
set_option maxRecDepth 100000 in
set_option maxHeartbeats 4000000 in
theorem symC2_any (cv : Value) (lt : Nat → Nat → Bool) (O : Ord lt) (g cap n : Nat) (L : List Nat) (a m b mid : Nat) (w : World) (IH : Sy cv lt g cap n (b - a)) (h : Nb w g L) (hC : Cm w g n cv lt) (hn : ∀ x ∈ L, x < n) (ha : a + 1 < m) (hm : m + 1 < b) (hb : b ≤ L.length) (hL : L.length ≤ 1048576) (h1 : So lt L a m) (h2 : So lt L m b) (hmid : mid = (a + b) / 2) (hcase : m ≤ mid) :
  Calls Tryz.prog 123 #[.slice (some ⟨g, 0, none⟩) L.length cap, .int .i64 (a : Int), .int .i64 (m : Int), .int .i64 (b : Int), cmf cv] w fun r w' => r = .returned (.tuple #[]) ∧ ∃ L', Rg L L' a b ∧ So lt L' a b ∧ Nw w w' g L L' := by
 have H0 : Hid (Nw w w g L L) := ⟨h, .refl _, grown_refl _ _⟩
 have HC := hide' hC
 have HN := hide' hn
 have HO := hide' O
 have HS1 := hide' h1
 have HS2 := hide' h2
 have HIH := hide' IH
 have HRO := hide' (rotate_any (cmf cv) g cap L)
 have hma : ¬ (m : Int) - (a : Int) = 1 := by omega
 have hmd : ((m : Int) - (a : Int) == 1) = false := by simp; omega
 have hbm : ¬ (b : Int) - (m : Int) = 1 := by omega
 have hbd : ((b : Int) - (m : Int) == 1) = false := by simp; omega
 have hmz : ((a : Int) + (b : Int)) / 2 = (mid : Int) := by omega
 obtain ⟨N, hN⟩ : ∃ N, mid + m = N := ⟨_, rfl⟩
 have hNz : (mid : Int) + (m : Int) = (N : Int) := by omega
 obtain ⟨p, hp⟩ : ∃ p, N - 1 = p := ⟨_, rfl⟩
 have hpz : (N : Int) - 1 = (p : Int) := by omega
 have hcz : ¬ (m : Int) > (mid : Int) := by omega
 have HMID := hide' hmid
 clear h hC hn O h1 h2 IH hmid
 have hmm : a < mid ∧ mid < b := by have := HMID.out; omega
 go_enter Tryz.func123, Tryz.ntmps123
 go_wp2_with fail
 go_loopw [20, 21] (fun sv rv wr => ∃ (s r : Nat), sv = .int .i64 (s : Int) ∧ rv = .int .i64 (r : Int) ∧ a ≤ s ∧ s ≤ r ∧ r ≤ m ∧ Hid (s = a ∨ lt (ix L (p - (s - 1))) (ix L (s - 1)) = false) ∧ Hid (r = m ∨ lt (ix L (p - r)) (ix L r) = true) ∧ Hid (Nw w wr g L L)) (fun sv rv _ => (intOf rv).toNat - (intOf sv).toNat)
 case atStart => exact ⟨a, m, rfl, rfl, Nat.le_refl _, by have := HMID.out; omega, Nat.le_refl _, Or.inl rfl, Or.inl rfl, H0⟩
 case round =>
  obtain ⟨s, r, rfl, rfl, hls, hsr, hrh, HI, HJ, HV⟩ := hrel
  by_cases hlt : s < r
  ·obtain ⟨q, hq⟩ : ∃ q, (s + r) / 2 = q := ⟨_, rfl⟩
   have hqz : ((s : Int) + (r : Int)) / 2 = (q : Int) := by omega
   have hqi : s ≤ q ∧ q < r := by omega
   obtain ⟨z, hz⟩ : ∃ z, p - q = z := ⟨_, rfl⟩
   have hzz : (p : Int) - (q : Int) = (z : Int) := by have := HMID.out; omega
   have hzl : z < L.length ∧ q < L.length := by have := HMID.out; omega
   have HK : Hid (∀ W, wr.grownBy W (some g) → Calls Tryz.prog 71 #[.int .i64 (ix L z : Int), .int .i64 (ix L q : Int), cv] W fun r w' => (∃ c : Int, r = .returned (.int .i64 c) ∧ decide (c < 0) = lt (ix L z) (ix L q)) ∧ Below W.heap.size W w') :=
    fun W hW => HC.out _ _ W (HN.out _ (ix_mem hzl.1)) (HN.out _ (ix_mem hzl.2)) (grown_trans HV.out.gr hW)
   have HCA : Hid (∀ W, Nw w W g L L → W.cell? ⟨g, z, none⟩ = some (.int .i64 (ix L z : Int)) ∧ W.cell? ⟨g, q, none⟩ = some (.int .i64 (ix L q : Int))) := fun W hW =>
    ⟨hW.nb.cell (k := z) hzl.1, hW.nb.cell (k := q) hzl.2⟩
   have HF : Hid (lt (ix L z) (ix L q) = false → (q + 1 = a ∨ lt (ix L (p - (q + 1 - 1))) (ix L (q + 1 - 1)) = false)) := fun h => Or.inr (by rw [Nat.add_sub_cancel, hz]; exact h)
   have HT : Hid (lt (ix L z) (ix L q) = true → (q = m ∨ lt (ix L (p - q)) (ix L q) = true)) := fun h => Or.inr (by rw [hz]; exact h)
   obtain ⟨x, hx⟩ : ∃ x, ix L z = x := ⟨_, rfl⟩
   obtain ⟨y, hy⟩ : ∃ y, ix L q = y := ⟨_, rfl⟩
   have HTx : Hid (lt x y = true → (q = m ∨ lt (ix L (p - q)) (ix L q) = true)) := fun h => HT.out (by rw [hx, hy]; exact h)
   have HFx : Hid (lt x y = false → (q + 1 = a ∨ lt (ix L (p - (q + 1 - 1))) (ix L (q + 1 - 1)) = false)) := fun h => HF.out (by rw [hx, hy]; exact h)
   rw [hx, hy] at HK HCA
   clear hx hy hq HT HF hz
   have p1 : (0 : Int) ≤ (q : Int) := by omega
   have p2 : (q : Int) < (L.length : Int) := by omega
   have p3 : (0 : Int) ≤ (z : Int) := by omega
   have p4 : (z : Int) < (L.length : Int) := by omega
   have rz : IntKind.i64.wrap ((p : Int) - (q : Int)) = (z : Int) := by rw [IntKind.wrap_i64]; omega
   have rw' : IntKind.i64.wrap (z : Int) = (z : Int) := by rw [IntKind.wrap_i64]; omega
   obtain ⟨ca, cb⟩ := HCA.out _ HV.out
   cases hlv : lt x y with
   | true =>
    rw [hlv] at HK
    have HLV := hide' hlv
    clear hlv
    go_wp2_with fail
    go_region_held3 (fun V => V.cell? ⟨g, z, none⟩ = some (.int .i64 (x : Int)) ∧ V.cell? ⟨g, q, none⟩ = some (.int .i64 (y : Int))) (first | go_keep | exact HCA.out _ HV2.out) ((go_at_call 71; refine (HK.out _ (grown_drewN _ 1 _)).mono ?_; rintro r w2 ⟨⟨c, rfl, hc⟩, hB2⟩; have hcn : c < 0 := of_decide_eq_true hc; have HV2 := hide' (HV.out.drew.below hB2); clear hB2))
    go_wp2_with fail
    refine ⟨⟨s, q, rfl, rfl, by omega, by omega, by omega, HI, HTx.out HLV.out, HV2⟩, by simp [intOf]; omega⟩
   | false =>
    rw [hlv] at HK
    have HLV := hide' hlv
    clear hlv
    go_wp2_with fail
    go_region_held3 (fun V => V.cell? ⟨g, z, none⟩ = some (.int .i64 (x : Int)) ∧ V.cell? ⟨g, q, none⟩ = some (.int .i64 (y : Int))) (first | go_keep | exact HCA.out _ HV2.out) ((go_at_call 71; refine (HK.out _ (grown_drewN _ 1 _)).mono ?_; rintro r w2 ⟨⟨c, rfl, hc⟩, hB2⟩; have hcn : ¬ c < 0 := of_decide_eq_false hc; have HV2 := hide' (HV.out.drew.below hB2); clear hB2))
    go_wp2_with fail
    refine ⟨⟨q + 1, r, by go_num, rfl, by omega, by omega, by omega, HFx.out HLV.out, HJ, HV2⟩, by simp [intOf]; omega⟩
  ·obtain rfl : s = r := by omega
   obtain ⟨e, he⟩ : ∃ e, N - s = e := ⟨_, rfl⟩
   have hez : (N : Int) - (s : Int) = (e : Int) := by have := HMID.out; omega
   have FD : Hid (Zs.Fd lt L a m (mid + m - 1) s) := ⟨hls, hrh, by rw [hN, hp]; exact HI.out, by rw [hN, hp]; exact HJ.out⟩
   have HHV : Hid (∀ L', Mv L L' (rt s m e) → Hv lt L' a s mid e b) := fun L' hv => halves HO.out (by omega) (by omega) HMID.out (by omega) (by omega) (by rw [if_neg (by omega)]) (by rw [if_neg (by omega)]) HS1.out HS2.out FD.out hv
   have hfacts : a ≤ s ∧ s ≤ mid ∧ mid ≤ e ∧ e ≤ b ∧ s ≤ m ∧ m ≤ e := by have := HMID.out; omega
   obtain ⟨k1, k2, k3, k4, k5, k6⟩ := hfacts
   have HLc : Hid (∀ (W : World) (L1 : List Nat), Nw w W g L L1 → Hv lt L1 a s mid e b → a < s ∧ s < mid → Calls Tryz.prog 123 #[.slice (some ⟨g, 0, none⟩) L.length cap, .int .i64 (a : Int), .int .i64 (s : Int), .int .i64 (mid : Int), cmf cv] W fun r w' => r = .returned (.tuple #[]) ∧ ∃ L2, Hm lt L1 L2 a s mid ∧ Nw w w' g L L2) := fun W L1 hw hv hc => by
    have hl := hw.len
    refine (HIH.out L1 L.length a s mid W (by omega) hl.symm hw.nb (HC.out.grown hw.gr) (hw.mem HN.out) hc.1 hc.2 (by omega) (by omega) hv.p1 hv.p2).mono ?_
    rintro r w3 ⟨rfl, L2, hr2, hs2, hw2⟩
    exact ⟨rfl, L2, ⟨hr2, fun _ _ => hs2⟩, hw.next hw2⟩
   have HRc : Hid (∀ (W : World) (L1 L2 : List Nat), Nw w W g L L2 → Hv lt L1 a s mid e b → Hm lt L1 L2 a s mid → mid < e ∧ e < b → Calls Tryz.prog 123 #[.slice (some ⟨g, 0, none⟩) L.length cap, .int .i64 (mid : Int), .int .i64 (e : Int), .int .i64 (b : Int), cmf cv] W fun r w' => r = .returned (.tuple #[]) ∧ ∃ L3, Hm lt L2 L3 mid e b ∧ Nw w w' g L L3) := fun W L1 L2 hw hv hh hc => by
    have hl := hw.len
    refine (HIH.out L2 L.length mid e b W (by omega) hl.symm hw.nb (HC.out.grown hw.gr) (hw.mem HN.out) hc.1 hc.2 (by omega) (by omega) (hv.p3.out hh.rg (Or.inr (Nat.le_refl _))) (hv.p4.out hh.rg (Or.inr k3))).mono ?_
    rintro r w3 ⟨rfl, L3, hr3, hs3, hw3⟩
    exact ⟨rfl, L3, ⟨hr3, fun _ _ => hs3⟩, hw.next hw3⟩
   have HRo : Hid (∀ W, Nw w W g L L → s < m ∧ m < e → Calls Tryz.prog 139 #[.slice (some ⟨g, 0, none⟩) L.length cap, .int .i64 (s : Int), .int .i64 (m : Int), .int .i64 (e : Int), cmf cv] W fun r w' => r = .returned (.tuple #[]) ∧ ∃ L1, Mv L L1 (rt s m e) ∧ Nw w w' g L L1) := fun W hw hc => by
    refine (HRO.out s m e W hw.nb hc.1 hc.2 (by omega) hL).mono ?_
    rintro r w2 ⟨rfl, L1, hv1, hw1⟩
    exact ⟨rfl, L1, hv1, hw.next hw1⟩
   clear HI HJ he HRO HIH HC HN
   by_cases A : s < m
   ·by_cases B : a < s
    ·by_cases C : e < b
     ·skip
      have z0 : (s : Int) < (m : Int) := by omega
      have w0 : decide ((s : Int) < (m : Int)) = true := decide_eq_true z0
      have z1 : (m : Int) < (e : Int) := by omega
      have w1 : decide ((m : Int) < (e : Int)) = true := decide_eq_true z1
      have z2 : (a : Int) < (s : Int) := by omega
      have w2 : decide ((a : Int) < (s : Int)) = true := decide_eq_true z2
      have z3 : (s : Int) < (mid : Int) := by omega
      have w3 : decide ((s : Int) < (mid : Int)) = true := decide_eq_true z3
      have z4 : (mid : Int) < (e : Int) := by omega
      have w4 : decide ((mid : Int) < (e : Int)) = true := decide_eq_true z4
      have z5 : (e : Int) < (b : Int) := by omega
      have w5 : decide ((e : Int) < (b : Int)) = true := decide_eq_true z5
      go_wp2_with (first | (go_at_call 139; (with_reducible refine (HRo.out _ HV.out (by omega)).mono ?_); rintro r w2 ⟨rfl, L1, hv1, hw1⟩; have HM1 := hide' hv1; have HW1 := hide' hw1; clear hv1 hw1; have HHX := hide' (HHV.out L1 HM1.out)) | (go_at_call 123; (with_reducible refine (HLc.out _ L1 HW1.out HHX.out (by omega)).mono ?_); rintro r w3 ⟨rfl, L2, hh2, hw2⟩; have HL2 := hide' hh2; have HW2 := hide' hw2; clear hh2 hw2) | (go_at_call 123; (with_reducible refine (HRc.out _ L1 L2 HW2.out HHX.out HL2.out (by omega)).mono ?_); rintro r w4 ⟨rfl, L3, hh3, hw3⟩; have HL3 := hide' hh3; have HW3 := hide' hw3; clear hh3 hw3))
      go_end0
      obtain ⟨y1, y2⟩ := sym_end HO.out HHX.out HW1.out.pm HM1.out k1 k2 k3 k4 k5 k6 HL2.out HL3.out
      exact ⟨rfl, L3, y1, y2, HW3.out⟩
     ·skip
      have z0 : (s : Int) < (m : Int) := by omega
      have w0 : decide ((s : Int) < (m : Int)) = true := decide_eq_true z0
      have z1 : (m : Int) < (e : Int) := by omega
      have w1 : decide ((m : Int) < (e : Int)) = true := decide_eq_true z1
      have z2 : (a : Int) < (s : Int) := by omega
      have w2 : decide ((a : Int) < (s : Int)) = true := decide_eq_true z2
      have z3 : (s : Int) < (mid : Int) := by omega
      have w3 : decide ((s : Int) < (mid : Int)) = true := decide_eq_true z3
      have z4 : (mid : Int) < (e : Int) := by omega
      have w4 : decide ((mid : Int) < (e : Int)) = true := decide_eq_true z4
      have z5 : ¬ (e : Int) < (b : Int) := by omega
      have w5 : decide ((e : Int) < (b : Int)) = false := decide_eq_false z5
      go_wp2_with (first | (go_at_call 139; (with_reducible refine (HRo.out _ HV.out (by omega)).mono ?_); rintro r w2 ⟨rfl, L1, hv1, hw1⟩; have HM1 := hide' hv1; have HW1 := hide' hw1; clear hv1 hw1; have HHX := hide' (HHV.out L1 HM1.out)) | (go_at_call 123; (with_reducible refine (HLc.out _ L1 HW1.out HHX.out (by omega)).mono ?_); rintro r w3 ⟨rfl, L2, hh2, hw2⟩; have HL2 := hide' hh2; have HW2 := hide' hw2; clear hh2 hw2))
      go_end0
      have HL3 : Hid (Hm lt L2 L2 mid e b) := Hm.none L2 k3 k4 (by omega)
      have HW3 := HW2
      obtain ⟨y1, y2⟩ := sym_end HO.out HHX.out HW1.out.pm HM1.out k1 k2 k3 k4 k5 k6 HL2.out HL3.out
      exact ⟨rfl, L2, y1, y2, HW3.out⟩
    ·by_cases C : e < b
     ·skip
      have z0 : (s : Int) < (m : Int) := by omega
      have w0 : decide ((s : Int) < (m : Int)) = true := decide_eq_true z0
      have z1 : (m : Int) < (e : Int) := by omega
      have w1 : decide ((m : Int) < (e : Int)) = true := decide_eq_true z1
      have z2 : ¬ (a : Int) < (s : Int) := by omega
      have w2 : decide ((a : Int) < (s : Int)) = false := decide_eq_false z2
      have z3 : (s : Int) < (mid : Int) := by omega
      have w3 : decide ((s : Int) < (mid : Int)) = true := decide_eq_true z3
      have z4 : (mid : Int) < (e : Int) := by omega
      have w4 : decide ((mid : Int) < (e : Int)) = true := decide_eq_true z4
      have z5 : (e : Int) < (b : Int) := by omega
      have w5 : decide ((e : Int) < (b : Int)) = true := decide_eq_true z5
      go_wp2_with (first | (go_at_call 139; (with_reducible refine (HRo.out _ HV.out (by omega)).mono ?_); rintro r w2 ⟨rfl, L1, hv1, hw1⟩; have HM1 := hide' hv1; have HW1 := hide' hw1; clear hv1 hw1; have HHX := hide' (HHV.out L1 HM1.out); have HL2 : Hid (Hm lt L1 L1 a s mid) := Hm.none L1 k1 k2 (by omega); have HW2 := HW1) | (go_at_call 123; (with_reducible refine (HRc.out _ L1 L1 HW2.out HHX.out HL2.out (by omega)).mono ?_); rintro r w4 ⟨rfl, L3, hh3, hw3⟩; have HL3 := hide' hh3; have HW3 := hide' hw3; clear hh3 hw3))
      go_end0
      obtain ⟨y1, y2⟩ := sym_end HO.out HHX.out HW1.out.pm HM1.out k1 k2 k3 k4 k5 k6 HL2.out HL3.out
      exact ⟨rfl, L3, y1, y2, HW3.out⟩
     ·skip
      have z0 : (s : Int) < (m : Int) := by omega
      have w0 : decide ((s : Int) < (m : Int)) = true := decide_eq_true z0
      have z1 : (m : Int) < (e : Int) := by omega
      have w1 : decide ((m : Int) < (e : Int)) = true := decide_eq_true z1
      have z2 : ¬ (a : Int) < (s : Int) := by omega
      have w2 : decide ((a : Int) < (s : Int)) = false := decide_eq_false z2
      have z3 : (s : Int) < (mid : Int) := by omega
      have w3 : decide ((s : Int) < (mid : Int)) = true := decide_eq_true z3
      have z4 : (mid : Int) < (e : Int) := by omega
      have w4 : decide ((mid : Int) < (e : Int)) = true := decide_eq_true z4
      have z5 : ¬ (e : Int) < (b : Int) := by omega
      have w5 : decide ((e : Int) < (b : Int)) = false := decide_eq_false z5
      go_wp2_with (first | (go_at_call 139; (with_reducible refine (HRo.out _ HV.out (by omega)).mono ?_); rintro r w2 ⟨rfl, L1, hv1, hw1⟩; have HM1 := hide' hv1; have HW1 := hide' hw1; clear hv1 hw1; have HHX := hide' (HHV.out L1 HM1.out); have HL2 : Hid (Hm lt L1 L1 a s mid) := Hm.none L1 k1 k2 (by omega); have HW2 := HW1))
      go_end0
      have HL3 : Hid (Hm lt L1 L1 mid e b) := Hm.none L1 k3 k4 (by omega)
      have HW3 := HW2
      obtain ⟨y1, y2⟩ := sym_end HO.out HHX.out HW1.out.pm HM1.out k1 k2 k3 k4 k5 k6 HL2.out HL3.out
      exact ⟨rfl, L1, y1, y2, HW3.out⟩
   ·by_cases B : s < mid
    ·skip
     have z0 : ¬ (s : Int) < (m : Int) := by omega
     have w0 : decide ((s : Int) < (m : Int)) = false := decide_eq_false z0
     have z1 : (m : Int) < (e : Int) := by omega
     have w1 : decide ((m : Int) < (e : Int)) = true := decide_eq_true z1
     have z2 : (a : Int) < (s : Int) := by omega
     have w2 : decide ((a : Int) < (s : Int)) = true := decide_eq_true z2
     have z3 : (s : Int) < (mid : Int) := by omega
     have w3 : decide ((s : Int) < (mid : Int)) = true := decide_eq_true z3
     have z4 : ¬ (mid : Int) < (e : Int) := by omega
     have w4 : decide ((mid : Int) < (e : Int)) = false := decide_eq_false z4
     have z5 : (e : Int) < (b : Int) := by omega
     have w5 : decide ((e : Int) < (b : Int)) = true := decide_eq_true z5
     have HM1 : Hid (Mv L L (rt s m e)) := mv_id L (rt_id k5 k6 (by omega))
     have HW1 := HV
     have HHX := hide' (HHV.out L HM1.out)
     go_wp2_with (first | (go_at_call 123; (with_reducible refine (HLc.out _ L HW1.out HHX.out (by omega)).mono ?_); rintro r w3 ⟨rfl, L2, hh2, hw2⟩; have HL2 := hide' hh2; have HW2 := hide' hw2; clear hh2 hw2))
     go_end0
     have HL3 : Hid (Hm lt L2 L2 mid e b) := Hm.none L2 k3 k4 (by omega)
     have HW3 := HW2
     obtain ⟨y1, y2⟩ := sym_end HO.out HHX.out HW1.out.pm HM1.out k1 k2 k3 k4 k5 k6 HL2.out HL3.out
     exact ⟨rfl, L2, y1, y2, HW3.out⟩
    ·skip
     have z0 : ¬ (s : Int) < (m : Int) := by omega
     have w0 : decide ((s : Int) < (m : Int)) = false := decide_eq_false z0
     have z1 : ¬ (m : Int) < (e : Int) := by omega
     have w1 : decide ((m : Int) < (e : Int)) = false := decide_eq_false z1
     have z2 : (a : Int) < (s : Int) := by omega
     have w2 : decide ((a : Int) < (s : Int)) = true := decide_eq_true z2
     have z3 : ¬ (s : Int) < (mid : Int) := by omega
     have w3 : decide ((s : Int) < (mid : Int)) = false := decide_eq_false z3
     have z4 : ¬ (mid : Int) < (e : Int) := by omega
     have w4 : decide ((mid : Int) < (e : Int)) = false := decide_eq_false z4
     have z5 : (e : Int) < (b : Int) := by omega
     have w5 : decide ((e : Int) < (b : Int)) = true := decide_eq_true z5
     have HM1 : Hid (Mv L L (rt s m e)) := mv_id L (rt_id k5 k6 (by omega))
     have HW1 := HV
     have HHX := hide' (HHV.out L HM1.out)
     have HL2 : Hid (Hm lt L L a s mid) := Hm.none L k1 k2 (by omega)
     have HW2 := HW1
     go_wp2_with fail
     go_end0
     have HL3 : Hid (Hm lt L L mid e b) := Hm.none L k3 k4 (by omega)
     have HW3 := HW2
     obtain ⟨y1, y2⟩ := sym_end HO.out HHX.out HW1.out.pm HM1.out k1 k2 k3 k4 k5 k6 HL2.out HL3.out
     exact ⟨rfl, L, y1, y2, HW3.out⟩
end Go.Proofs.YtoabnpdoicbpiaaGreat
namespace Go.Proofs.YtoabnpdoicbpiaaGreat
set_option linter.unusedVariables false
set_option linter.unusedSimpArgs false
open Go.RowKit Go.Shelf Go.Proofs.YtoabnpdoicbpiaaGreat.Nm Go.Proofs.YtoabnpdoicbpiaaGreat.Zs
theorem sy_all (cv : Value) (lt : Nat → Nat → Bool) (O : Ord lt) (g cap n : Nat) : ∀ K, Sy cv lt g cap n K := by
 intro K
 induction K with
 | zero => intro L l a m b w h; omega
 | succ K ih =>
  intro L l a m b w hK hl h hC hn ha hm hb hL h1 h2
  subst hl
  have IH : Sy cv lt g cap n (b - a) := fun L l a' m' b' w' hK' => ih L l a' m' b' w' (by omega)
  by_cases e1 : m = a + 1
  ·subst e1
   exact symA_any cv lt O g cap n L a b w h hC hn (by omega) hb hL h2
  ·by_cases e2 : b = m + 1
   ·subst e2
    exact symB_any cv lt O g cap n L a m w h hC hn (by omega) hb hL h1
   ·by_cases e3 : (a + b) / 2 < m
    ·exact symC1_any cv lt O g cap n L a m b _ w IH h hC hn (by omega) (by omega) hb hL h1 h2 rfl e3
    ·exact symC2_any cv lt O g cap n L a m b _ w IH h hC hn (by omega) (by omega) hb hL h1 h2 rfl (by omega)
theorem insertion_i (cv : Value) (lt : Nat → Nat → Bool) (O : Ord lt) (g cap n : Nat) (L : List Nat) (l a b : Nat) (A B : Int) (w : World) (hA : A = (a : Int)) (hB : B = (b : Int)) (hl : l = L.length) (h : Nb w g L) (hC : Cm w g n cv lt) (hn : ∀ x ∈ L, x < n) (ha : a ≤ b) (hb : b ≤ L.length) (hL : L.length ≤ 1048576) :
  Calls Tryz.prog 122 #[.slice (some ⟨g, 0, none⟩) l cap, .int .i64 A, .int .i64 B, cmf cv] w fun r w' => r = .returned (.tuple #[]) ∧ ∃ L', Rg L L' a b ∧ So lt L' a b ∧ Nw w w' g L L' := by
 subst hA hB hl
 exact insertion_any cv lt O g cap n L a b w h hC hn ha hb hL
theorem sym_i (cv : Value) (lt : Nat → Nat → Bool) (O : Ord lt) (g cap n : Nat) (L : List Nat) (l a m b : Nat) (A M B : Int) (w : World) (hA : A = (a : Int)) (hM : M = (m : Int)) (hB : B = (b : Int)) (hl : l = L.length) (h : Nb w g L) (hC : Cm w g n cv lt) (hn : ∀ x ∈ L, x < n) (ha : a < m) (hm : m < b) (hb : b ≤ L.length) (hL : L.length ≤ 1048576) (h1 : So lt L a m) (h2 : So lt L m b) :
  Calls Tryz.prog 123 #[.slice (some ⟨g, 0, none⟩) l cap, .int .i64 A, .int .i64 M, .int .i64 B, cmf cv] w fun r w' => r = .returned (.tuple #[]) ∧ ∃ L', Rg L L' a b ∧ So lt L' a b ∧ Nw w w' g L L' := by
 subst hA hM hB
 exact sy_all cv lt O g cap n (b - a + 1) L l a m b w (by omega) hl h hC hn ha hm hb hL h1 h2
set_option maxRecDepth 100000 in
set_option maxHeartbeats 4000000 in
theorem stable_any (cv : Value) (lt : Nat → Nat → Bool) (O : Ord lt) (g cap n : Nat) (L : List Nat) (w : World) (h : Nb w g L) (hC : Cm w g n cv lt) (hn : ∀ x ∈ L, x < n) (hL : L.length ≤ 1048576) :
  Calls Tryz.prog 103 #[.slice (some ⟨g, 0, none⟩) L.length cap, .int .i64 (L.length : Int), cmf cv] w fun r w' => r = .returned (.tuple #[]) ∧ ∃ L', So lt L' 0 L.length ∧ Nw w w' g L L' := by
 have H0 : Hid (Nw w w g L L) := ⟨h, .refl _, grown_refl _ _⟩
 have HIn : Hid (∀ (W : World) (L1 : List Nat) (a b : Nat) (A B : Int), Nw w W g L L1 → A = (a : Int) → B = (b : Int) → a ≤ b → b ≤ L.length → Calls Tryz.prog 122 #[.slice (some ⟨g, 0, none⟩) L.length cap, .int .i64 A, .int .i64 B, cmf cv] W fun r w' => r = .returned (.tuple #[]) ∧ ∃ L', Rg L1 L' a b ∧ So lt L' a b ∧ Nw w w' g L L') := fun W L1 a b A B hw hA hB hab hb => by
  have hl := hw.len
  refine (insertion_i cv lt O g cap n L1 L.length a b A B W hA hB hl.symm hw.nb (hC.grown hw.gr) (hw.mem hn) hab (by omega) (by omega)).mono ?_
  rintro r w' ⟨rfl, L', h1, h2, h3⟩
  exact ⟨rfl, L', h1, h2, hw.next h3⟩
 have HSy : Hid (∀ (W : World) (L1 : List Nat) (a m b : Nat) (A M B : Int), Nw w W g L L1 → A = (a : Int) → M = (m : Int) → B = (b : Int) → a < m → m < b → b ≤ L.length → So lt L1 a m → So lt L1 m b → Calls Tryz.prog 123 #[.slice (some ⟨g, 0, none⟩) L.length cap, .int .i64 A, .int .i64 M, .int .i64 B, cmf cv] W fun r w' => r = .returned (.tuple #[]) ∧ ∃ L', Rg L1 L' a b ∧ So lt L' a b ∧ Nw w w' g L L') := fun W L1 a m b A M B hw hA hM hB ham hmb hb h1 h2 => by
  have hl := hw.len
  refine (sym_i cv lt O g cap n L1 L.length a m b A M B W hA hM hB hl.symm hw.nb (hC.grown hw.gr) (hw.mem hn) ham hmb (by omega) (by omega) h1 h2).mono ?_
  rintro r w' ⟨rfl, L', h1, h2, h3⟩
  exact ⟨rfl, L', h1, h2, hw.next h3⟩
 clear h hC hn O
 go_enter Tryz.func103, Tryz.ntmps103
 go_wp2_with fail
 go_loopw [7, 8] (fun av bv wr => ∃ (A t : Nat) (L1 : List Nat), av = .int .i64 (A : Int) ∧ bv = .int .i64 ((A : Int) + 20) ∧ Hid (A = t * 20) ∧ A ≤ L.length ∧ Hid (Bu lt L1 20 (t * 20)) ∧ Hid (Nw w wr g L L1)) (fun av _ _ => L.length - (intOf av).toNat)
 case atStart => exact ⟨0, 0, L, rfl, by go_num, rfl, Nat.zero_le _, Bu.zero L (by omega), H0⟩
 case round =>
  obtain ⟨A, t, L1, rfl, rfl, HA, hAn, HU, HW⟩ := hrel
  by_cases hlt : A + 20 ≤ L.length
  ·have hz : (A : Int) + 20 ≤ (L.length : Int) := by omega
   go_wp2_with (go_at_call 122; (with_reducible refine (HIn.out _ L1 A (A + 20) _ _ HW.out rfl (by omega) (by omega) hlt).mono ?_); rintro r w2 ⟨rfl, L2, hr2, hs2, hw2⟩; have HR2 := hide' hr2; have HS2 := hide' hs2; have HW2 := hide' hw2; clear hr2 hs2 hw2)
   have hAt := HA.out
   refine ⟨⟨A + 20, t + 1, L2, by go_num, by go_num, (by show A + 20 = (t + 1) * 20; omega), hlt, ?_, HW2⟩, by simp [intOf]; omega⟩
   exact HU.out.next (by omega) (by rw [← hAt]; exact HR2.out) (by rw [← hAt, show (t + 1) * 20 = A + 20 by omega]; exact HS2.out)
  ·have hz : ¬ (A : Int) + 20 ≤ (L.length : Int) := by omega
   have HBo : Hid (∀ L2, Rg L1 L2 A L.length → So lt L2 A L.length → Bl lt L2 20 L.length) := fun L2 hr hs => by
    have hAt := HA.out
    exact Bl.of (t := t) (by omega) HU.out (by rw [← hAt]; exact hr) (by rw [← hAt]; exact hs) (by omega)
   go_wp2_with (go_at_call 122; (with_reducible refine (HIn.out _ L1 A L.length _ _ HW.out rfl rfl hAn (Nat.le_refl _)).mono ?_); rintro r w2 ⟨rfl, L2, hr2, hs2, hw2⟩; have HB2 := hide' (HBo.out L2 hr2 hs2); have HW2 := hide' hw2; clear hr2 hs2 hw2)
   clear HBo HU HW HA HIn
   go_loopw [6] (fun sv wr2 => ∃ (s : Nat) (L3 : List Nat), sv = .int .i64 (s : Int) ∧ 0 < s ∧ s ≤ 2097152 ∧ Hid (Bl lt L3 s L.length) ∧ Hid (Nw w wr2 g L L3)) (fun sv _ => L.length - (intOf sv).toNat)
   case atStart => exact ⟨20, L2, rfl, by omega, by omega, HB2, HW2⟩
   case round =>
    obtain ⟨s, L3, rfl, hs0, hsm, HB3, HW3⟩ := hrel
    by_cases hsn : s < L.length
    ·have hsz : (s : Int) < (L.length : Int) := by omega
     obtain ⟨d, hd⟩ : ∃ d, 2 * s = d := ⟨_, rfl⟩
     have hdz : 2 * (s : Int) = (d : Int) := by omega
     have hdy : (s : Int) * 2 = (d : Int) := by omega
     have HD := hide' hd
     have hdr : s < d ∧ d ≤ 2097152 := by omega
     clear hd
     go_wp2_with fail
     go_loopw [7, 8] (fun av bv wr3 => ∃ (A t : Nat) (L4 : List Nat), av = .int .i64 (A : Int) ∧ bv = .int .i64 ((A : Int) + (d : Int)) ∧ Hid (A = t * d) ∧ A ≤ L.length ∧ Hid (Bu lt L4 d (t * d)) ∧ Hid (Bf lt L4 s L.length (t * d)) ∧ Hid (Nw w wr3 g L L4)) (fun av _ _ => L.length - (intOf av).toNat)
     case atStart => exact ⟨0, 0, L3, rfl, by go_num, (by show 0 = 0 * d; omega), Nat.zero_le _, Bu.zero L3 (by omega), HB3.out.from _, HW3⟩
     case round =>
      obtain ⟨A, t, L4, rfl, rfl, HA, hAn, HU4, HF4, HW4⟩ := hrel
      have HT : Hid ((t + 1) * d = A + d) := by
       unfold Hid
       rw [HA.out, Nat.add_mul, Nat.one_mul]
      by_cases hlt : A + d ≤ L.length
      ·have hz4 : (A : Int) + (d : Int) ≤ (L.length : Int) := by omega
       have HTW : Hid (So lt L4 A (A + s) ∧ So lt L4 (A + s) (A + d)) := by
        have hF := HF4.out
        have hT := HT.out
        have hA := HA.out
        have hD := HD.out
        subst hD
        have := hF.two (by rw [hT]; exact hlt)
        rw [← hA, hT] at this
        exact this
       go_wp2_with (go_at_call 123; (with_reducible refine (HSy.out _ L4 A (A + s) (A + d) _ _ _ HW4.out rfl (by omega) (by omega) (by omega) (by omega) hlt HTW.out.1 HTW.out.2).mono ?_); rintro r w5 ⟨rfl, L5, hr5, hs5, hw5⟩; have HR5 := hide' hr5; have HS5 := hide' hs5; have HW5 := hide' hw5; clear hr5 hs5 hw5)
       have hA := HA.out
       have hT := HT.out
       refine ⟨⟨A + d, t + 1, L5, by go_num, by go_num, hT.symm, hlt, ?_, ?_, HW5⟩, by simp [intOf]; omega⟩
       ·exact HU4.out.next (by omega) (by rw [← hA]; exact HR5.out) (by rw [← hA, hT]; exact HS5.out)
       ·exact HF4.out.next (a := A) (b := A + d) HR5.out (by rw [hT]; exact Nat.le_refl _) (by rw [hT, ← hA]; omega)
      ·have hz4 : ¬ (A : Int) + (d : Int) ≤ (L.length : Int) := by omega
       have HBo : Hid (∀ L5, Rg L4 L5 A L.length → So lt L5 A L.length → Bl lt L5 d L.length) := fun L5 hr hs => by
        have hA := HA.out
        have hT := HT.out
        exact Bl.of (t := t) (by omega) HU4.out (by rw [← hA]; exact hr) (by rw [← hA]; exact hs) (by rw [hT]; omega)
       by_cases hm : A + s < L.length
       ·have hmz : (A : Int) + (s : Int) < (L.length : Int) := by omega
        have HTW : Hid (So lt L4 A (A + s) ∧ So lt L4 (A + s) L.length) := by
         have hF := HF4.out
         have hT := HT.out
         have hA := HA.out
         have hD := HD.out
         subst hD
         have := hF.rest (by rw [hT]; omega) (by rw [← hA]; exact hm)
         rw [← hA] at this
         exact this
        go_wp2_with (go_at_call 123; (with_reducible refine (HSy.out _ L4 A (A + s) L.length _ _ _ HW4.out rfl (by omega) rfl (by omega) (by omega) (Nat.le_refl _) HTW.out.1 HTW.out.2).mono ?_); rintro r w5 ⟨rfl, L5, hr5, hs5, hw5⟩; have HB5 := hide' (HBo.out L5 hr5 hs5); have HW5 := hide' hw5; clear hr5 hs5 hw5)
        refine ⟨⟨d, L5, by go_num, by omega, by omega, HB5, HW5⟩, by simp [intOf]; omega⟩
       ·have hmz : ¬ (A : Int) + (s : Int) < (L.length : Int) := by omega
        have HB5 : Hid (Bl lt L4 d L.length) := HBo.out L4 (Rg.refl _ _ _) (by
               have hF := HF4.out
               have hA := HA.out
               have hD := HD.out
               subst hD
               have := hF.last (by rw [← hA]; omega)
               rw [← hA] at this
               exact this)
        go_wp2_with fail
        refine ⟨⟨d, L4, by go_num, by omega, by omega, HB5, HW4⟩, by simp [intOf]; omega⟩
    ·have hsz : ¬ (s : Int) < (L.length : Int) := by omega
     go_wp2_with fail
     go_end0
     exact ⟨rfl, L3, HB3.out.all (by omega), HW3.out⟩
set_option maxRecDepth 100000 in
set_option maxHeartbeats 1000000 in
theorem sortStable_any (cv : Value) (lt : Nat → Nat → Bool) (O : Ord lt) (g cap n : Nat) (L : List Nat) (w : World) (h : Nb w g L) (hC : Cm w g n cv lt) (hn : ∀ x ∈ L, x < n) (hL : L.length ≤ 1048576) :
  Calls Tryz.prog 70 #[.slice (some ⟨g, 0, none⟩) L.length cap, cmf cv] w fun r w' => r = .returned (.tuple #[]) ∧ ∃ L', So lt L' 0 L.length ∧ Nw w w' g L L' := by
 have HS := hide' (stable_any cv lt O g cap n L w h hC hn hL)
 clear h hC hn O
 go_enter Tryz.func70, Tryz.ntmps70
 go_wp2_with (go_at_call 103; refine HS.out.mono ?_; rintro r w2 ⟨rfl, L2, hs2, hw2⟩; have HS2 := hide' hs2; have HW2 := hide' hw2; clear hs2 hw2)
 go_end0
 exact ⟨rfl, L2, HS2.out, HW2.out⟩
end Go.Proofs.YtoabnpdoicbpiaaGreat
