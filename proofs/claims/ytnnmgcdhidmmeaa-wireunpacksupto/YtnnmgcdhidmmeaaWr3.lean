import Derived.Test.YtnnmgcdhidmmeaaWr1
import Derived.Test.YtnnmgcdhidmmeaaWr2
import Derived.Test.YtnnmgcdhidmmeaaWu10G
import Derived.Test.YtnnmgcdhidmmeaaWu12G
namespace Go.Proofs.Ytnnmgcdhidmmeaa
set_option linter.unusedVariables false
open Go.RowKit Go.Shelf Go.Proofs.Ytnnmgcdhidmmeaa.Nm

theorem win_run (b o len cap l h : Nat) {zl zh : Int} (hl : zl = (l : Int)) (hh : zh = (h : Int)) (h1 : l < h) (h2 : h ≤ cap) (W : World) : (Instr.slice 22 (.slice (some ⟨b, o, none⟩) len cap) (some (.int .i64 zl)) (some (.int .i64 zh)) none).run Try.prog W = .ok (.slice (some ⟨b, o + l, none⟩) (h - l) (cap - l)) W := by
  subst hl; subst hh
  obtain ⟨x, h3, h4⟩ := run_win b o len cap l h (by omega) h2
  rw [h3, h4 h1]
/-- a record under way: the result's box and the empty one's -/
structure Rc (w wx : World) (N0 b o : Nat) (B : ByteArray) : Prop where
  r : Bx wx w.heap.size #[.string ⟨#[]⟩, .int .i64 0, .int .i64 0, .int .i64 0, .string ⟨#[]⟩] 48
  n : Bx wx N0 #[.string ⟨#[]⟩, .int .i64 0, .int .i64 0, .int .i64 0, .string ⟨#[]⟩] 48
  by_ : Lib.Bytes wx b o B
  bl : Below w.heap.size w wx
  hN : w.heap.size < N0
  bb : b < w.heap.size
section
variable {w wx w2 : World} {N0 b o : Nat} {B : ByteArray}
theorem Rc.apart (h : Rc w wx N0 b o B) {r : Option Nat} (hg : wx.grownBy w2 r) (hr : ∀ q, r = some q → N0 < q) : Rc w w2 N0 b o B := by
  have h1 := h.hN
  have h2 := h.bb
  have h3 := h.bl.size
  refine ⟨h.r.grown hg (fun e => by have := hr _ e; omega), h.n.grown hg (fun e => by have := hr _ e; omega), h.by_.blk (hg.block b (by omega) (fun e => by have := hr _ e.symm; omega)), h.bl.grown hg h3 (fun q e => by have := hr _ e; omega), h1, h2⟩
theorem Rc.alloc (h : Rc w wx N0 b o B) (ob : Obj) : Rc w (wx.alloc ob) N0 b o B := h.apart (World.grownBy_alloc _ _ none) (fun q e => by cases e)
theorem Rc.drewN (h : Rc w wx N0 b o B) (m : Nat) : Rc w (wx.drewN m) N0 b o B := h.apart (grown_drewN _ _ none) (fun q e => by cases e)
theorem Rc.below (h : Rc w wx N0 b o B) (hb : Below wx.heap.size wx w2) : Rc w w2 N0 b o B := h.apart (grown_below hb none) (fun q e => by cases e)
theorem Rc.set (h : Rc w wx N0 b o B) {X : Nat} (hX : N0 < X) (j : Nat) (u : Value) : Rc w (wx.setCell ⟨X, j, none⟩ u) N0 b o B := h.apart (grown_set _ X _ _) (fun q e => by injection e; omega)
theorem below5 {m : Nat} {w w' : World} (h : Below m w w') {R : Nat} (hR : m ≤ R) (hm : m ≤ w'.heap.size) (a b c d e : Value) : Below m w (set5 w' R a b c d e) := ((((((BS.mk h hm).set hR 0 a).set hR 1 b).set hR 2 c).set hR 3 d).set hR 4 e).b
theorem Rc.bad (h : Rc w wx N0 b o B) (x y z u v : Value) : Bx (set5 wx w.heap.size x y z u v) w.heap.size #[x, y, z, u, v] 48 ∧ Below w.heap.size w (set5 wx w.heap.size x y z u v) :=
  ⟨bx5_set h.r _ _ _ _ _, below5 h.bl (Nat.le_refl _) h.bl.size _ _ _ _ _⟩
end
def rr2End (r : Except Nat (Rn × Nat)) (w : World) (e : Ending) (w' : World) : Prop := match r with
  | .ok r => e = .returned (.tuple #[.agg #[.string r.1.o, .int .i64 r.1.t, .int .i64 r.1.c, .int .i64 r.1.l, .string r.1.d], .int .i64 (r.2 : Int), .int .i64 0]) ∧ Below w.heap.size w w'
  | .error x => e = .returned (.tuple #[.agg #[.string ⟨#[]⟩, .int .i64 0, .int .i64 0, .int .i64 0, .string ⟨#[]⟩], .int .i64 0, .int .i64 (x : Int)]) ∧ Below w.heap.size w w'

set_option maxRecDepth 100000 in
set_option maxHeartbeats 8000000 in
/-- gazetteerref2.readRecord -/
theorem refRecord_any (b o cap k : Nat) (B : ByteArray) (w : World) (hB : Lib.Bytes w b o B) (hb : b < w.heap.size) (hk : k ≤ B.size) (hS : B.size ≤ 65535) (hc : B.size ≤ cap) :
    Calls Try.prog 14 #[.slice (some ⟨b, o, none⟩) B.size cap, .int .i64 (k : Int)] w (rr2End (rr2 B k) w) := by
  obtain ⟨wa, hwa⟩ : ∃ wa, w.alloc (.cells #[.string ⟨#[]⟩, .int .i64 0, .int .i64 0, .int .i64 0, .string ⟨#[]⟩] 48) = wa := ⟨_, rfl⟩
  obtain ⟨wb, hwb⟩ : ∃ wb, wa.alloc (.cells #[.string ⟨#[]⟩, .int .i64 0, .int .i64 0, .int .i64 0, .string ⟨#[]⟩] 48) = wb := ⟨_, rfl⟩
  have H0 : Hid (Rc w wb wa.heap.size b o B) := by
    have h1 : Bx wa w.heap.size #[.string ⟨#[]⟩, .int .i64 0, .int .i64 0, .int .i64 0, .string ⟨#[]⟩] 48 := hwa ▸ World.alloc_heap_new w _
    have hz : wa.heap.size = w.heap.size + 1 := by rw [← hwa]; simp
    refine ⟨hwb ▸ h1.grown (World.grownBy_alloc wa _ none) (by simp), hwb ▸ World.alloc_heap_new wa _, hB.blk ?_, ?_, by omega, hb⟩
    · rw [← hwb, ← hwa]; exact ((World.grownBy_alloc _ _ none).block b (by simp; omega) (fun e => by cases e)).trans ((World.grownBy_alloc w _ none).block b hb (fun e => by cases e))
    · rw [← hwb, ← hwa]; exact ((Below.refl _ w).alloc (Nat.le_refl _) _).alloc (by simp) _
  have HRn := hide' (refReadName_any b o cap B k k B.size 10 0 wb H0.out.by_ hk (Nat.le_refl _) hS hc hk (.inr rfl) (by omega))
  obtain ⟨⟨m0, m1, m2, m3, m4⟩, _⟩ := bx5 H0.out.n
  obtain ⟨⟨r0, r1, r2, r3, r4⟩, f0, f1, f2, f3, f4⟩ := bx5 H0.out.r
  cases hr : rn B k k B.size 10 0 with
  | error x =>
    have HX : Hid (rr2 B k = .error x) := by unfold Hid rr2; rw [hr]
    have hx : ((x : Int) != 0) = true := by
      have := rn_err _ _ _ _ _ _ hr
      simp [bne_iff_ne]; omega
    rw [hr] at HRn
    go_enter Try.func14, Try.ntmps14
    go_wp2_with (go_at_call 13; refine HRn.out.mono ?_; rintro e w1 ⟨⟨z, rfl⟩, h1⟩; have h1' := h1.symm; subst h1')
    obtain ⟨⟨q0, q1, q2, q3, q4⟩, _⟩ := bx5 (H0.out.bad (.string ⟨#[]⟩) (.int .i64 0) (.int .i64 0) (.int .i64 0) (.string ⟨#[]⟩)).1
    unfold set5 at q0 q1 q2 q3 q4
    refine bodyPost_ret (v := .tuple #[.agg #[.string ⟨#[]⟩, .int .i64 0, .int .i64 0, .int .i64 0, .string ⟨#[]⟩], .int .i64 0, .int .i64 (x : Int)]) (by simp [results, go_sem, q0, q1, q2, q3, q4]) rfl ?_
    rw [HX.out]
    exact ⟨rfl, (H0.out.bad _ _ _ _ _).2⟩
  | ok r =>
    obtain ⟨s, k1⟩ := r
    obtain ⟨n1, n2, n3, n4, n5⟩ := rn_name (Nat.le_refl _) hr
    rw [hr] at HRn
    replace HRn : Hid (Calls Try.prog 13 #[.slice (some ⟨b, o, none⟩) B.size cap, .int .i64 (k : Int), .int .i64 (k : Int), .int .i64 (B.size : Int), .int .i64 ((10 : Nat) : Int), .int .i64 ((0 : Nat) : Int)] wb fun e w' => e = .returned (.tuple #[.string s, .int .i64 (k1 : Int), .int .i64 0]) ∧ w' = wb) := HRn.out
    by_cases h10 : B.size < k1 + 10
    · have HX : Hid (rr2 B k = .error 10) := by unfold Hid rr2; rw [hr]; simp only; rw [if_pos h10]
      go_enter Try.func14, Try.ntmps14
      go_wp2_with (go_at_call 13; refine HRn.out.mono ?_; rintro e w1 ⟨rfl, h1⟩; have h1' := h1.symm; subst h1')
      obtain ⟨⟨q0, q1, q2, q3, q4⟩, _⟩ := bx5 (H0.out.bad (.string ⟨#[]⟩) (.int .i64 0) (.int .i64 0) (.int .i64 0) (.string ⟨#[]⟩)).1
      unfold set5 at q0 q1 q2 q3 q4
      refine bodyPost_ret (v := .tuple #[.agg #[.string ⟨#[]⟩, .int .i64 0, .int .i64 0, .int .i64 0, .string ⟨#[]⟩], .int .i64 0, .int .i64 10]) (by simp [results, go_sem, q0, q1, q2, q3, q4]) rfl ?_
      rw [HX.out]
      exact ⟨rfl, (H0.out.bad _ _ _ _ _).2⟩
    · have hk10 : k1 + 10 ≤ B.size := by omega
      have w1a : ∀ W : World, _ := win_run b o B.size cap k1 (k1 + 2) (zl := (k1 : Int)) (zh := (k1 : Int) + 2) rfl (by omega) (by omega) (by omega)
      have w2a : ∀ W : World, _ := win_run b o B.size cap (k1 + 2) (k1 + 4) (zl := (k1 : Int) + 2) (zh := (k1 : Int) + 4) (by omega) (by omega) (by omega) (by omega)
      have w3a : ∀ W : World, _ := win_run b o B.size cap (k1 + 4) (k1 + 8) (zl := (k1 : Int) + 4) (zh := (k1 : Int) + 8) (by omega) (by omega) (by omega) (by omega)
      have w4a : ∀ W : World, _ := win_run b o B.size cap (k1 + 8) (k1 + 10) (zl := (k1 : Int) + 8) (zh := (k1 : Int) + 10) (by omega) (by omega) (by omega) (by omega)
      rw [show k1 + 2 - k1 = 2 by omega] at w1a
      rw [show k1 + 4 - (k1 + 2) = 2 by omega] at w2a
      rw [show k1 + 8 - (k1 + 4) = 4 by omega] at w3a
      rw [show k1 + 10 - (k1 + 8) = 2 by omega] at w4a
      have x2 : IntKind.i64.wrap ((k1 : Int) + 2) = (k1 : Int) + 2 := by rw [IntWalk.i64_in] <;> omega
      have x4 : IntKind.i64.wrap ((k1 : Int) + 4) = (k1 : Int) + 4 := by rw [IntWalk.i64_in] <;> omega
      have x8 : IntKind.i64.wrap ((k1 : Int) + 8) = (k1 : Int) + 8 := by rw [IntWalk.i64_in] <;> omega
      obtain ⟨s1, hs1⟩ : ∃ s1, B.extract k1 (k1 + 2) = s1 := ⟨_, rfl⟩
      obtain ⟨s2, hs2⟩ : ∃ s1, B.extract (k1 + 2) (k1 + 2 + 2) = s1 := ⟨_, rfl⟩
      obtain ⟨s3, hs3⟩ : ∃ s1, B.extract (k1 + 4) (k1 + 4 + 4) = s1 := ⟨_, rfl⟩
      obtain ⟨s4, hs4⟩ : ∃ s1, B.extract (k1 + 8) (k1 + 8 + 2) = s1 := ⟨_, rfl⟩
      have v1 : ∀ W : World, Lib.Bytes W b o B → _ := fun W hW => conv_win (c := cap - k1) (n := 2) (l := k1) (x := o + k1) hW (fun _ => rfl) (by omega)
      have v2 : ∀ W : World, Lib.Bytes W b o B → _ := fun W hW => conv_win (c := cap - (k1 + 2)) (n := 2) (l := k1 + 2) (x := o + (k1 + 2)) hW (fun _ => rfl) (by omega)
      have v3 : ∀ W : World, Lib.Bytes W b o B → _ := fun W hW => conv_win (c := cap - (k1 + 4)) (n := 4) (l := k1 + 4) (x := o + (k1 + 4)) hW (fun _ => rfl) (by omega)
      have v4 : ∀ W : World, Lib.Bytes W b o B → _ := fun W hW => conv_win (c := cap - (k1 + 8)) (n := 2) (l := k1 + 8) (x := o + (k1 + 8)) hW (fun _ => rfl) (by omega)
      have z1 : s1.size ≤ 4 := by rw [← hs1]; simp [ByteArray.size_extract]; omega
      have z2 : s2.size ≤ 4 := by rw [← hs2]; simp [ByteArray.size_extract]; omega
      have z3 : s3.size ≤ 4 := by rw [← hs3]; simp [ByteArray.size_extract]; omega
      have z4 : s4.size ≤ 4 := by rw [← hs4]; simp [ByteArray.size_extract]; omega
      have hval : ∀ (l n : Nat) (s : ByteArray), B.extract l (l + n) = s → l + n ≤ B.size → be s 0 s.size = be B l n := fun l n s e hl => by
        subst e
        rw [show (B.extract l (l + n)).size = n by simp [ByteArray.size_extract]; omega, be_ext hl n (by omega), Nat.add_zero]
      obtain ⟨t, ht, HT⟩ : ∃ t, be s1 0 s1.size = t ∧ Hid (be B k1 2 = t) := ⟨_, rfl, (hval k1 2 s1 hs1 (by omega)).symm⟩
      obtain ⟨c, hcc, HC⟩ : ∃ t, be s2 0 s2.size = t ∧ Hid (be B (k1 + 2) 2 = t) := ⟨_, rfl, (hval (k1 + 2) 2 s2 hs2 (by omega)).symm⟩
      obtain ⟨tl, htl, HTL⟩ : ∃ t, be s3 0 s3.size = t ∧ Hid (be B (k1 + 4) 4 = t) := ⟨_, rfl, (hval (k1 + 4) 4 s3 hs3 (by omega)).symm⟩
      obtain ⟨n, hn, HN⟩ : ∃ t, be s4 0 s4.size = t ∧ Hid (be B (k1 + 8) 2 = t) := ⟨_, rfl, (hval (k1 + 8) 2 s4 hs4 (by omega)).symm⟩
      rw [hs1] at v1
      rw [hs2] at v2
      rw [hs3] at v3
      rw [hs4] at v4
      clear hs1 hs2 hs3 hs4 hval
      have hnl : n < 65536 := HN.out ▸ be2_lt _ _
      go_enter Try.func14, Try.ntmps14
      go_upto_region 7 with (go_at_call 13; refine HRn.out.mono ?_; rintro e w1 ⟨rfl, h1⟩; have h1' := h1.symm; subst h1')
      go_cut [11] from 40 (fun s11 wc => s11 = .pointer (some ⟨wb.heap.size, 0, none⟩) ∧ Rc w wc wa.heap.size b o B ∧ Bx wc wb.heap.size #[.string s, .int .i64 (t : Int), .int .i64 (c : Int), .int .i64 (tl : Int), .string ⟨#[]⟩] 48)
      case first =>
        have HBy := hide' H0.out.by_
        go_region_held3 (fun w' => Lib.Bytes w' b o B) (first | exact HBy.out | exact (H0.out.alloc _).by_) ((go_at_call 12; refine Calls.mono (refValue_any _ _ (by first | exact z1 | exact z2 | exact z3)) ?_; rintro e w8' ⟨rfl, rfl⟩))
        all_goals
          go_wp2_with fail
          go_meet
          case rel => exact ⟨rfl, (H0.out.alloc _).drewN 1, World.alloc_heap_new wb _⟩
      case rest =>
        obtain ⟨rfl, H1, X1⟩ := hcut
        clear hwa hwb m0 m1 m2 m3 m4 r0 r1 r2 r3 r4 f0 f1 f2 f3 f4 v1 v2 v3 w1a w2a w3a ht hcc htl HRn
        obtain ⟨⟨m0, m1, m2, m3, m4⟩, _⟩ := bx5 H1.n
        obtain ⟨⟨r0, r1, r2, r3, r4⟩, f0, f1, f2, f3, f4⟩ := bx5 H1.r
        have hX : Hid (wa.heap.size < wb.heap.size) := H0.out.n.lt
        have hby := H1.by_
        have h1' := hide' H1
        have X1' := hide' X1
        obtain ⟨⟨g0, g1, g2, g3, g4⟩, _⟩ := bx5 X1
        clear H1 X1 H0
        by_cases h7 : B.size < k1 + 10 + n
        · have HX : Hid (rr2 B k = .error 10) := by unfold Hid rr2; rw [hr]; simp only; rw [if_neg h10, HN.out, if_pos h7]
          go_wp2_with (go_at_call 12; refine Calls.mono (refValue_any _ _ z4) ?_; rintro e w3 ⟨rfl, h3⟩; have h3' := h3.symm; subst h3')
          obtain ⟨⟨q0, q1, q2, q3, q4⟩, _⟩ := bx5 (h1'.out.bad (.string ⟨#[]⟩) (.int .i64 0) (.int .i64 0) (.int .i64 0) (.string ⟨#[]⟩)).1
          unfold set5 at q0 q1 q2 q3 q4
          refine bodyPost_ret (v := .tuple #[.agg #[.string ⟨#[]⟩, .int .i64 0, .int .i64 0, .int .i64 0, .string ⟨#[]⟩], .int .i64 0, .int .i64 10]) (by simp [results, go_sem, q0, q1, q2, q3, q4]) rfl ?_
          rw [HX.out]
          exact ⟨rfl, (h1'.out.bad _ _ _ _ _).2⟩
        · have hen : k1 + 10 + n ≤ B.size := by omega
          have HX : Hid (rr2 B k = match sound (t : Int) (c : Int) (drR B (k1 + 10) (k1 + 10 + n) (t : Int)) with | .error e => .error e | .ok d => .ok (⟨s, (t : Int), (c : Int), (tl : Int), d⟩, k1 + 10 + n)) := by
            unfold Hid rr2; rw [hr]; simp only; rw [if_neg h10, HN.out, if_neg h7, HT.out, HC.out, HTL.out]
            rfl
          have HBf := hide' (fun (W : World) => refBrief_any (t : Int) W)
          have htl4 : t < 65536 := HT.out ▸ be2_lt _ _
          have hcl4 : c < 65536 := HC.out ▸ be2_lt _ _
          have htll : tl < 4294967296 := HTL.out ▸ be4_lt _ _
          have HOK : Hid (∀ d : ByteArray, recOK s (t : Int) (c : Int) (tl : Int) d = dataOK (t : Int) (c : Int) d) := by
            intro d
            unfold recOK headOK
            rw [n1, show fitsN (t : Int) 16 = true from decide_eq_true (by omega), show fitsN (c : Int) 16 = true from decide_eq_true (by omega), show fitsN (tl : Int) 32 = true from decide_eq_true (by omega)]
            rfl
          by_cases hP : 0 < n ∧ 0 < (brf (t : Int)).length
          · obtain ⟨hP1, hP2⟩ := hP
            have HDp : Hid (drR B (k1 + 10) (k1 + 10 + n) (t : Int) = match pr B (k1 + 10 + n) (brf (t : Int)) (k1 + 10) .empty with | .error e => .error e | .ok r => if r.2 ≠ k1 + 10 + n then .error 7 else .ok r.1) := by
              unfold Hid drR
              rw [if_pos ⟨by omega, fun e => by rw [e] at hP2; exact Nat.lt_irrefl _ hP2⟩]
              rfl
            have HB20 : Hid (∀ x ∈ brf (t : Int), x ≤ 20) := brf_le _
            have hbl3 : (brf (t : Int)).length ≤ 3 := brf_len _
            obtain ⟨BF, hBF⟩ : ∃ BF, brf (t : Int) = BF := ⟨_, rfl⟩
            unfold bfEnd at HBf
            rw [hBF] at HBf hP2 HDp HB20 hbl3
            clear hBF
            go_wp2_with (first
              | (go_at_call 12; refine Calls.mono (refValue_any _ _ z4) ?_; rintro e w3 ⟨rfl, h3⟩; have h3' := h3.symm; subst h3')
              | (go_at_call 24; refine (HBf.out _).mono ?_; rintro e w3 ⟨pb, cb, rfl, hns, hpb, hcb1, hcb2, hB3⟩; have HNS := hide' hns; have HPB := hide' hpb; have H2 := hide' (h1'.out.below hB3); have X2 := hide' (X1'.out.below hB3 X1'.out.lt); have HZ3 : Hid (wb.heap.size < wc.heap.size) := X1'.out.lt; clear hns hpb hB3))
            clear m0 m1 m2 m3 m4 r0 r1 r2 r3 r4 f0 f1 f2 f3 f4 g0 g1 g2 g3 g4 hby w4a v4 hn z4 x2 x4 x8
            go_loopw [9, 95] (fun kv iv wr => ∃ (j k' : Nat) (acc : ByteArray), iv = .int .i64 (j : Int) ∧ kv = .int .i64 (k' : Int) ∧ j ≤ BF.length ∧ k1 + 10 ≤ k' ∧ k' ≤ k1 + 10 + n ∧ acc.size ≤ 300 * j ∧ Hid (Rc w wr wa.heap.size b o B) ∧ Hid (Bx wr wb.heap.size #[.string s, .int .i64 (t : Int), .int .i64 (c : Int), .int .i64 (tl : Int), .string acc] 48) ∧ Hid (NsAt wr pb BF) ∧ Hid (pr B (k1 + 10 + n) BF (k1 + 10) .empty = pr B (k1 + 10 + n) (BF.drop j) k' acc)) (fun _ iv _ => BF.length - (intOf iv).toNat)
            case atStart => exact ⟨0, k1 + 10, .empty, rfl, by simp, Nat.zero_le _, Nat.le_refl _, by omega, by decide, H2, X2, HNS, rfl⟩
            case round =>
              clear H2 X2 HNS
              obtain ⟨j, k', acc, rfl, rfl, hj, hk1, hk2, hac, H3, X3, HNS, HPR⟩ := hrel
              have hby3 := H3.out.by_
              obtain ⟨⟨m0, m1, m2, m3, m4⟩, _⟩ := bx5 H3.out.n; obtain ⟨⟨r0, r1, r2, r3, r4⟩, f0, f1, f2, f3, f4⟩ := bx5 H3.out.r; obtain ⟨⟨g0, g1, g2, g3, g4⟩, e0, e1, e2, e3, e4⟩ := bx5 X3.out
              by_cases hlt : j < BF.length
              · obtain ⟨gb, hgb, hgl, hcell⟩ := HNS.out j hlt
                have HP2 := hide' (HPB.out gb hgb)
                subst hgb
                have hpm := HB20.out _ (List.getElem_mem hlt)
                have HDr : Hid (BF.drop j = BF[j] :: BF.drop (j + 1)) := List.drop_eq_getElem_cons hlt
                obtain ⟨pp, hpp⟩ : ∃ pp, BF[j] = pp := ⟨_, rfl⟩
                rw [hpp] at hcell hpm HDr
                clear hpp
                by_cases hp0 : 0 < pp
                · by_cases hov : k1 + 10 + n < k' + pp
                  · have HXe : Hid (rr2 B k = .error 7) := by
                      unfold Hid; rw [HX.out, HDp.out, HPR.out, HDr.out, pr, if_pos hp0, if_pos hov]; rfl
                    go_wp2_with fail
                    obtain ⟨⟨q0, q1, q2, q3, q4⟩, _⟩ := bx5 (H3.out.bad (.string ⟨#[]⟩) (.int .i64 0) (.int .i64 0) (.int .i64 0) (.string ⟨#[]⟩)).1
                    unfold set5 at q0 q1 q2 q3 q4
                    refine bodyPost_ret (v := .tuple #[.agg #[.string ⟨#[]⟩, .int .i64 0, .int .i64 0, .int .i64 0, .string ⟨#[]⟩], .int .i64 0, .int .i64 7]) (by simp [results, go_sem, q0, q1, q2, q3, q4]) rfl ?_
                    rw [HXe.out]
                    exact ⟨rfl, (H3.out.bad _ _ _ _ _).2⟩
                  · obtain ⟨x, hsl, hx⟩ := run_win b o B.size cap k' (k' + pp) (by omega) (by omega)
                    have hx' := hx (by omega)
                    subst hx'
                    rw [show k' + pp - k' = pp by omega, show (((k' + pp : Nat)) : Int) = (k' : Int) + (pp : Int) by omega] at hsl
                    have hcv : ∀ W : World, Lib.Bytes W b o B → (convert 22 9 (.slice (some ⟨b, o + k', none⟩) pp (cap - k'))).run Try.prog W = .ok (.string (B.extract k' (k' + pp))) W := fun W hW => conv_win hW (fun h => rfl) (by omega)
                    have hdz : (B.extract k' (k' + pp)).size ≤ 20 := by simp [ByteArray.size_extract]; omega
                    have hadd : ∀ W : World, (Op.stringOp .add acc (B.extract k' (k' + pp))).run Try.prog W = .ok (.string (acc ++ B.extract k' (k' + pp))) W := fun W => run_string_add_sum W _ _ (by omega)
                    have hwr : IntKind.i64.wrap ((k' : Int) + (pp : Int)) = (k' : Int) + (pp : Int) := by rw [IntWalk.i64_in] <;> omega
                    have HPn : Hid (pr B (k1 + 10 + n) BF (k1 + 10) .empty = pr B (k1 + 10 + n) (BF.drop (j + 1)) (k' + pp) (acc ++ B.extract k' (k' + pp))) := by
                      unfold Hid; rw [HPR.out, HDr.out, pr, if_pos hp0, if_neg hov]
                    have hzn : (acc ++ B.extract k' (k' + pp)).size ≤ 300 * (j + 1) := by rw [ByteArray.size_append]; omega
                    have hbyd : Lib.Bytes wr.drew b o B := hby3
                    clear hx hdz
                    go_wp2_with fail
                    go_region
                    go_wp2_with fail
                    go_roundw
                    case rel => exact ⟨j + 1, k' + pp, _, by go_num, by simp, by omega, by omega, by omega, hzn, (H3.out.set hX.out 4 (.string (acc ++ B.extract k' (k' + pp)))).drewN 1, X3.out.set 4 (.string (acc ++ B.extract k' (k' + pp))), NsAt.grown (w := wr) (w' := (wr.setCell ⟨wb.heap.size, 4, none⟩ (.string (acc ++ B.extract k' (k' + pp)))).drewN 1) (r := some wb.heap.size) HNS.out (grown_trans (grown_set wr wb.heap.size 4 _) (grown_drewN _ 1 _)) (fun g e h => by injection e with e; injection e; injection h; have := HP2.out; have := HZ3.out; omega), HPn⟩
                    case measure => simp [intOf]; omega
                · have HRn2 := hide' (refReadName_any b o cap B k' k' (k1 + 10 + n) 7 0 wr hby3 hk2 hen hS hc (by omega) (.inl rfl) (by omega))
                  have hcast : (((k1 + 10 + n : Nat)) : Int) = (k1 : Int) + 10 + (n : Int) := by omega
                  rw [hcast] at HRn2
                  clear hcast
                  cases hr2 : rn B k' k' (k1 + 10 + n) 7 0 with
                  | error x =>
                    have HXe : Hid (rr2 B k = .error x) := by
                      unfold Hid; rw [HX.out, HDp.out, HPR.out, HDr.out, pr, if_neg hp0, hr2]; rfl
                    have hx : ((x : Int) != 0) = true := by
                      have := rn_err _ _ _ _ _ _ hr2
                      simp [bne_iff_ne]; omega
                    rw [hr2] at HRn2
                    go_wp2_with (go_at_call 13; refine HRn2.out.mono ?_; rintro e w4 ⟨⟨z, rfl⟩, h4⟩; have h4' := h4.symm; subst h4')
                    obtain ⟨⟨q0, q1, q2, q3, q4⟩, _⟩ := bx5 (H3.out.bad (.string ⟨#[]⟩) (.int .i64 0) (.int .i64 0) (.int .i64 0) (.string ⟨#[]⟩)).1
                    unfold set5 at q0 q1 q2 q3 q4
                    refine bodyPost_ret (v := .tuple #[.agg #[.string ⟨#[]⟩, .int .i64 0, .int .i64 0, .int .i64 0, .string ⟨#[]⟩], .int .i64 0, .int .i64 (x : Int)]) (by simp [results, go_sem, q0, q1, q2, q3, q4]) rfl ?_
                    rw [HXe.out]
                    exact ⟨rfl, (H3.out.bad _ _ _ _ _).2⟩
                  | ok r2 =>
                    obtain ⟨ss, kk⟩ := r2
                    obtain ⟨y1, y2, y3, y4, y5⟩ := rn_name hen hr2
                    rw [hr2] at HRn2
                    replace HRn2 : Hid (Calls Try.prog 13 #[.slice (some ⟨b, o, none⟩) B.size cap, .int .i64 (k' : Int), .int .i64 (k' : Int), .int .i64 ((k1 : Int) + 10 + (n : Int)), .int .i64 ((7 : Nat) : Int), .int .i64 ((0 : Nat) : Int)] wr fun e w' => e = .returned (.tuple #[.string ss, .int .i64 (kk : Int), .int .i64 0]) ∧ w' = wr) := HRn2.out
                    have hadd : ∀ W : World, (Op.stringOp .add acc ss).run Try.prog W = .ok (.string (acc ++ ss)) W := fun W => run_string_add_sum W _ _ (by omega)
                    have HPn : Hid (pr B (k1 + 10 + n) BF (k1 + 10) .empty = pr B (k1 + 10 + n) (BF.drop (j + 1)) kk (acc ++ ss)) := by
                      unfold Hid; rw [HPR.out, HDr.out, pr, if_neg hp0, hr2]
                    have hzn : (acc ++ ss).size ≤ 300 * (j + 1) := by rw [ByteArray.size_append]; omega
                    go_wp2_with (go_at_call 13; refine HRn2.out.mono ?_; rintro e w4 ⟨rfl, h4⟩; have h4' := h4.symm; subst h4')
                    go_roundw
                    case rel => exact ⟨j + 1, kk, _, by go_num, rfl, by omega, by omega, by omega, hzn, H3.out.set hX.out _ _, X3.out.set 4 _, (HNS.out.grown (grown_set wr wb.heap.size 4 _) (fun g e h => by injection e with e; injection e; injection h; have := HP2.out; have := HZ3.out; omega)), HPn⟩
                    case measure => simp [intOf]; omega
              · have HPe : Hid (pr B (k1 + 10 + n) BF (k1 + 10) .empty = .ok (acc, k')) := by unfold Hid; rw [HPR.out, List.drop_eq_nil_of_le (by omega), pr]
                by_cases hne : k' = k1 + 10 + n
                · have hneb : ((k' : Int) != (k1 : Int) + 10 + (n : Int)) = false := by rw [bne_eq_false_iff_eq]; omega
                  have HD : drR B (k1 + 10) (k1 + 10 + n) (t : Int) = .ok acc := by rw [HDp.out, HPe.out]; simp only; rw [if_neg (by omega)]
                  have H4 := H3
                  have X4 := X3
                  have HRi := hide' (fun (W : World) => refRight_any s (t : Int) (c : Int) (tl : Int) acc W (by omega) (by omega))
                  rw [HOK.out acc] at HRi
                  cases hok : dataOK (t : Int) (c : Int) acc with
                  | false =>
                    have HXe : Hid (rr2 B k = .error 7) := by unfold Hid; rw [HX.out, HD, sound_no hok]
                    rw [hok] at HRi
                    go_wp2_with (first
                      | fail
                      | (go_at_call 25; refine (HRi.out _).mono ?_; rintro e w9 ⟨rfl, hB9⟩; have H9 := hide' (H4.out.below hB9); have X9 := hide' (X4.out.below hB9 X4.out.lt); clear m0 m1 m2 m3 m4 r0 r1 r2 r3 r4 f0 f1 f2 f3 f4 g0 g1 g2 g3 g4 e0 e1 e2 e3 e4; obtain ⟨⟨m0, m1, m2, m3, m4⟩, _⟩ := bx5 H9.out.n; obtain ⟨⟨r0, r1, r2, r3, r4⟩, f0, f1, f2, f3, f4⟩ := bx5 H9.out.r; obtain ⟨⟨g0, g1, g2, g3, g4⟩, e0, e1, e2, e3, e4⟩ := bx5 X9.out; clear hB9))
                    obtain ⟨⟨q0, q1, q2, q3, q4⟩, _⟩ := bx5 (H9.out.bad (.string ⟨#[]⟩) (.int .i64 0) (.int .i64 0) (.int .i64 0) (.string ⟨#[]⟩)).1
                    unfold set5 at q0 q1 q2 q3 q4
                    refine bodyPost_ret (v := .tuple #[.agg #[.string ⟨#[]⟩, .int .i64 0, .int .i64 0, .int .i64 0, .string ⟨#[]⟩], .int .i64 0, .int .i64 7]) (by simp [results, go_sem, q0, q1, q2, q3, q4]) rfl ?_
                    rw [HXe.out]
                    exact ⟨rfl, (H9.out.bad _ _ _ _ _).2⟩
                  | true =>
                    have HXe : Hid (rr2 B k = .ok (⟨s, (t : Int), (c : Int), (tl : Int), acc⟩, k1 + 10 + n)) := by
                      unfold Hid; rw [HX.out, HD]; unfold sound; simp only; rw [if_pos hok]
                    rw [hok] at HRi
                    go_wp2_with (first
                      | fail
                      | (go_at_call 25; refine (HRi.out _).mono ?_; rintro e w9 ⟨rfl, hB9⟩; have H9 := hide' (H4.out.below hB9); have X9 := hide' (X4.out.below hB9 X4.out.lt); clear m0 m1 m2 m3 m4 r0 r1 r2 r3 r4 f0 f1 f2 f3 f4 g0 g1 g2 g3 g4 e0 e1 e2 e3 e4; obtain ⟨⟨m0, m1, m2, m3, m4⟩, _⟩ := bx5 H9.out.n; obtain ⟨⟨r0, r1, r2, r3, r4⟩, f0, f1, f2, f3, f4⟩ := bx5 H9.out.r; obtain ⟨⟨g0, g1, g2, g3, g4⟩, e0, e1, e2, e3, e4⟩ := bx5 X9.out; clear hB9))
                    obtain ⟨⟨q0, q1, q2, q3, q4⟩, _⟩ := bx5 (H9.out.bad (.string s) (.int .i64 (t : Int)) (.int .i64 (c : Int)) (.int .i64 (tl : Int)) (.string acc)).1
                    unfold set5 at q0 q1 q2 q3 q4
                    refine bodyPost_ret (v := .tuple #[.agg #[.string s, .int .i64 (t : Int), .int .i64 (c : Int), .int .i64 (tl : Int), .string acc], .int .i64 ((k1 : Int) + 10 + (n : Int)), .int .i64 0]) (by simp [results, go_sem, q0, q1, q2, q3, q4]) rfl ?_
                    rw [HXe.out]
                    exact ⟨by simp, (H9.out.bad _ _ _ _ _).2⟩
                · have hneb : ((k' : Int) != (k1 : Int) + 10 + (n : Int)) = true := by rw [bne_iff_ne]; omega
                  have HXe : Hid (rr2 B k = .error 7) := by
                    unfold Hid; rw [HX.out, HDp.out, HPe.out]; simp only; rw [if_pos hne]; rfl
                  go_wp2_with fail
                  obtain ⟨⟨q0, q1, q2, q3, q4⟩, _⟩ := bx5 (H3.out.bad (.string ⟨#[]⟩) (.int .i64 0) (.int .i64 0) (.int .i64 0) (.string ⟨#[]⟩)).1
                  unfold set5 at q0 q1 q2 q3 q4
                  refine bodyPost_ret (v := .tuple #[.agg #[.string ⟨#[]⟩, .int .i64 0, .int .i64 0, .int .i64 0, .string ⟨#[]⟩], .int .i64 0, .int .i64 7]) (by simp [results, go_sem, q0, q1, q2, q3, q4]) rfl ?_
                  rw [HXe.out]
                  exact ⟨rfl, (H3.out.bad _ _ _ _ _).2⟩
          · have HD : drR B (k1 + 10) (k1 + 10 + n) (t : Int) = .ok (B.extract (k1 + 10) (k1 + 10 + n)) := by
              unfold drR
              rw [if_neg (fun h => hP ⟨by omega, by have := h.2; cases hb : brf (t : Int) with | nil => exact absurd hb this | cons a l => simp⟩)]
            have hdz : (B.extract (k1 + 10) (k1 + 10 + n)).size ≤ B.size := by simp [ByteArray.size_extract]; omega
            obtain ⟨x, hsl, hx⟩ := run_win b o B.size cap (k1 + 10) (k1 + 10 + n) (by omega) (by omega)
            rw [show k1 + 10 + n - (k1 + 10) = n by omega, show (((k1 + 10 : Nat)) : Int) = (k1 : Int) + 10 by omega, show (((k1 + 10 + n : Nat)) : Int) = (k1 : Int) + 10 + (n : Int) by omega] at hsl
            have hcv : ∀ W : World, Lib.Bytes W b o B → (convert 22 9 (.slice (some ⟨b, x, none⟩) n (cap - (k1 + 10)))).run Try.prog W = .ok (.string (B.extract (k1 + 10) (k1 + 10 + n))) W := fun W hW => conv_win hW (fun h => hx (by omega)) (by omega)
            by_cases hn0 : 0 < n
            · have hbf : ¬ 0 < (brf (t : Int)).length := fun h => hP ⟨hn0, h⟩
              have hx' := hx (by omega)
              subst hx'
              clear hP hx
              have HRi := hide' (fun (W : World) => refRight_any s (t : Int) (c : Int) (tl : Int) (B.extract (k1 + 10) (k1 + 10 + n)) W (by omega) (by omega))
              rw [HOK.out (B.extract (k1 + 10) (k1 + 10 + n))] at HRi
              cases hok : dataOK (t : Int) (c : Int) (B.extract (k1 + 10) (k1 + 10 + n)) with
              | false =>
                have HXe : Hid (rr2 B k = .error 7) := by unfold Hid; rw [HX.out, HD, sound_no hok]
                rw [hok] at HRi
                go_wp2_with (first
                  | (go_at_call 12; refine Calls.mono (refValue_any _ _ z4) ?_; rintro e w3 ⟨rfl, h3⟩; have h3' := h3.symm; subst h3')
                  | (go_at_call 24; refine (HBf.out _).mono ?_; rintro e w3 ⟨pb, cb, rfl, hns, hpb, hcb1, hcb2, hB3⟩; have H2 := hide' (h1'.out.below hB3); have X2 := hide' (X1'.out.below hB3 X1'.out.lt); have hby3 := H2.out.by_; clear hns hpb hB3; have gg4 := (bx5 X2.out).1.2.2.2.2; have ee4 := X2.out.free 4; obtain ⟨w4, hw4⟩ : ∃ w4, w3.setCell ⟨wb.heap.size, 4, none⟩ (.string (B.extract (k1 + 10) (k1 + 10 + n))) = w4 := ⟨_, rfl⟩; have H4 : Hid (Rc w w4 wa.heap.size b o B) := hw4 ▸ H2.out.set hX.out _ _; have X4 : Hid (Bx w4 wb.heap.size #[.string s, .int .i64 (t : Int), .int .i64 (c : Int), .int .i64 (tl : Int), .string (B.extract (k1 + 10) (k1 + 10 + n))] 48) := hw4 ▸ X2.out.set 4 _; clear m0 m1 m2 m3 m4 r0 r1 r2 r3 r4 f0 f1 f2 f3 f4 g0 g1 g2 g3 g4; obtain ⟨⟨m0, m1, m2, m3, m4⟩, _⟩ := bx5 H4.out.n; obtain ⟨⟨r0, r1, r2, r3, r4⟩, f0, f1, f2, f3, f4⟩ := bx5 H4.out.r; obtain ⟨⟨g0, g1, g2, g3, g4⟩, e0, e1, e2, e3, e4⟩ := bx5 X4.out)
                  | (go_at_call 25; refine (HRi.out _).mono ?_; rintro e w9 ⟨rfl, hB9⟩; have H9 := hide' (H4.out.below hB9); have X9 := hide' (X4.out.below hB9 X4.out.lt); clear m0 m1 m2 m3 m4 r0 r1 r2 r3 r4 f0 f1 f2 f3 f4 g0 g1 g2 g3 g4 e0 e1 e2 e3 e4; obtain ⟨⟨m0, m1, m2, m3, m4⟩, _⟩ := bx5 H9.out.n; obtain ⟨⟨r0, r1, r2, r3, r4⟩, f0, f1, f2, f3, f4⟩ := bx5 H9.out.r; obtain ⟨⟨g0, g1, g2, g3, g4⟩, e0, e1, e2, e3, e4⟩ := bx5 X9.out; clear hB9))
                obtain ⟨⟨q0, q1, q2, q3, q4⟩, _⟩ := bx5 (H9.out.bad (.string ⟨#[]⟩) (.int .i64 0) (.int .i64 0) (.int .i64 0) (.string ⟨#[]⟩)).1
                unfold set5 at q0 q1 q2 q3 q4
                refine bodyPost_ret (v := .tuple #[.agg #[.string ⟨#[]⟩, .int .i64 0, .int .i64 0, .int .i64 0, .string ⟨#[]⟩], .int .i64 0, .int .i64 7]) (by simp [results, go_sem, q0, q1, q2, q3, q4]) rfl ?_
                rw [HXe.out]
                exact ⟨rfl, (H9.out.bad _ _ _ _ _).2⟩
              | true =>
                have HXe : Hid (rr2 B k = .ok (⟨s, (t : Int), (c : Int), (tl : Int), (B.extract (k1 + 10) (k1 + 10 + n))⟩, k1 + 10 + n)) := by
                  unfold Hid; rw [HX.out, HD]; unfold sound; simp only; rw [if_pos hok]
                rw [hok] at HRi
                go_wp2_with (first
                  | (go_at_call 12; refine Calls.mono (refValue_any _ _ z4) ?_; rintro e w3 ⟨rfl, h3⟩; have h3' := h3.symm; subst h3')
                  | (go_at_call 24; refine (HBf.out _).mono ?_; rintro e w3 ⟨pb, cb, rfl, hns, hpb, hcb1, hcb2, hB3⟩; have H2 := hide' (h1'.out.below hB3); have X2 := hide' (X1'.out.below hB3 X1'.out.lt); have hby3 := H2.out.by_; clear hns hpb hB3; have gg4 := (bx5 X2.out).1.2.2.2.2; have ee4 := X2.out.free 4; obtain ⟨w4, hw4⟩ : ∃ w4, w3.setCell ⟨wb.heap.size, 4, none⟩ (.string (B.extract (k1 + 10) (k1 + 10 + n))) = w4 := ⟨_, rfl⟩; have H4 : Hid (Rc w w4 wa.heap.size b o B) := hw4 ▸ H2.out.set hX.out _ _; have X4 : Hid (Bx w4 wb.heap.size #[.string s, .int .i64 (t : Int), .int .i64 (c : Int), .int .i64 (tl : Int), .string (B.extract (k1 + 10) (k1 + 10 + n))] 48) := hw4 ▸ X2.out.set 4 _; clear m0 m1 m2 m3 m4 r0 r1 r2 r3 r4 f0 f1 f2 f3 f4 g0 g1 g2 g3 g4; obtain ⟨⟨m0, m1, m2, m3, m4⟩, _⟩ := bx5 H4.out.n; obtain ⟨⟨r0, r1, r2, r3, r4⟩, f0, f1, f2, f3, f4⟩ := bx5 H4.out.r; obtain ⟨⟨g0, g1, g2, g3, g4⟩, e0, e1, e2, e3, e4⟩ := bx5 X4.out)
                  | (go_at_call 25; refine (HRi.out _).mono ?_; rintro e w9 ⟨rfl, hB9⟩; have H9 := hide' (H4.out.below hB9); have X9 := hide' (X4.out.below hB9 X4.out.lt); clear m0 m1 m2 m3 m4 r0 r1 r2 r3 r4 f0 f1 f2 f3 f4 g0 g1 g2 g3 g4 e0 e1 e2 e3 e4; obtain ⟨⟨m0, m1, m2, m3, m4⟩, _⟩ := bx5 H9.out.n; obtain ⟨⟨r0, r1, r2, r3, r4⟩, f0, f1, f2, f3, f4⟩ := bx5 H9.out.r; obtain ⟨⟨g0, g1, g2, g3, g4⟩, e0, e1, e2, e3, e4⟩ := bx5 X9.out; clear hB9))
                obtain ⟨⟨q0, q1, q2, q3, q4⟩, _⟩ := bx5 (H9.out.bad (.string s) (.int .i64 (t : Int)) (.int .i64 (c : Int)) (.int .i64 (tl : Int)) (.string (B.extract (k1 + 10) (k1 + 10 + n)))).1
                unfold set5 at q0 q1 q2 q3 q4
                refine bodyPost_ret (v := .tuple #[.agg #[.string s, .int .i64 (t : Int), .int .i64 (c : Int), .int .i64 (tl : Int), .string (B.extract (k1 + 10) (k1 + 10 + n))], .int .i64 ((k1 : Int) + 10 + (n : Int)), .int .i64 0]) (by simp [results, go_sem, q0, q1, q2, q3, q4]) rfl ?_
                rw [HXe.out]
                exact ⟨by simp, (H9.out.bad _ _ _ _ _).2⟩
            · clear hP
              have HRi := hide' (fun (W : World) => refRight_any s (t : Int) (c : Int) (tl : Int) (B.extract (k1 + 10) (k1 + 10 + n)) W (by omega) (by omega))
              rw [HOK.out (B.extract (k1 + 10) (k1 + 10 + n))] at HRi
              cases hok : dataOK (t : Int) (c : Int) (B.extract (k1 + 10) (k1 + 10 + n)) with
              | false =>
                have HXe : Hid (rr2 B k = .error 7) := by unfold Hid; rw [HX.out, HD, sound_no hok]
                rw [hok] at HRi
                go_wp2_with (first
                  | (go_at_call 12; refine Calls.mono (refValue_any _ _ z4) ?_; rintro e w3 ⟨rfl, h3⟩; have h3' := h3.symm; subst h3')
                  | (go_at_call 24; refine (HBf.out _).mono ?_; rintro e w3 ⟨pb, cb, rfl, hns, hpb, hcb1, hcb2, hB3⟩; have H2 := hide' (h1'.out.below hB3); have X2 := hide' (X1'.out.below hB3 X1'.out.lt); have hby3 := H2.out.by_; clear hns hpb hB3; have gg4 := (bx5 X2.out).1.2.2.2.2; have ee4 := X2.out.free 4; obtain ⟨w4, hw4⟩ : ∃ w4, w3.setCell ⟨wb.heap.size, 4, none⟩ (.string (B.extract (k1 + 10) (k1 + 10 + n))) = w4 := ⟨_, rfl⟩; have H4 : Hid (Rc w w4 wa.heap.size b o B) := hw4 ▸ H2.out.set hX.out _ _; have X4 : Hid (Bx w4 wb.heap.size #[.string s, .int .i64 (t : Int), .int .i64 (c : Int), .int .i64 (tl : Int), .string (B.extract (k1 + 10) (k1 + 10 + n))] 48) := hw4 ▸ X2.out.set 4 _; clear m0 m1 m2 m3 m4 r0 r1 r2 r3 r4 f0 f1 f2 f3 f4 g0 g1 g2 g3 g4; obtain ⟨⟨m0, m1, m2, m3, m4⟩, _⟩ := bx5 H4.out.n; obtain ⟨⟨r0, r1, r2, r3, r4⟩, f0, f1, f2, f3, f4⟩ := bx5 H4.out.r; obtain ⟨⟨g0, g1, g2, g3, g4⟩, e0, e1, e2, e3, e4⟩ := bx5 X4.out)
                  | (go_at_call 25; refine (HRi.out _).mono ?_; rintro e w9 ⟨rfl, hB9⟩; have H9 := hide' (H4.out.below hB9); have X9 := hide' (X4.out.below hB9 X4.out.lt); clear m0 m1 m2 m3 m4 r0 r1 r2 r3 r4 f0 f1 f2 f3 f4 g0 g1 g2 g3 g4 e0 e1 e2 e3 e4; obtain ⟨⟨m0, m1, m2, m3, m4⟩, _⟩ := bx5 H9.out.n; obtain ⟨⟨r0, r1, r2, r3, r4⟩, f0, f1, f2, f3, f4⟩ := bx5 H9.out.r; obtain ⟨⟨g0, g1, g2, g3, g4⟩, e0, e1, e2, e3, e4⟩ := bx5 X9.out; clear hB9))
                obtain ⟨⟨q0, q1, q2, q3, q4⟩, _⟩ := bx5 (H9.out.bad (.string ⟨#[]⟩) (.int .i64 0) (.int .i64 0) (.int .i64 0) (.string ⟨#[]⟩)).1
                unfold set5 at q0 q1 q2 q3 q4
                refine bodyPost_ret (v := .tuple #[.agg #[.string ⟨#[]⟩, .int .i64 0, .int .i64 0, .int .i64 0, .string ⟨#[]⟩], .int .i64 0, .int .i64 7]) (by simp [results, go_sem, q0, q1, q2, q3, q4]) rfl ?_
                rw [HXe.out]
                exact ⟨rfl, (H9.out.bad _ _ _ _ _).2⟩
              | true =>
                have HXe : Hid (rr2 B k = .ok (⟨s, (t : Int), (c : Int), (tl : Int), (B.extract (k1 + 10) (k1 + 10 + n))⟩, k1 + 10 + n)) := by
                  unfold Hid; rw [HX.out, HD]; unfold sound; simp only; rw [if_pos hok]
                rw [hok] at HRi
                go_wp2_with (first
                  | (go_at_call 12; refine Calls.mono (refValue_any _ _ z4) ?_; rintro e w3 ⟨rfl, h3⟩; have h3' := h3.symm; subst h3')
                  | (go_at_call 24; refine (HBf.out _).mono ?_; rintro e w3 ⟨pb, cb, rfl, hns, hpb, hcb1, hcb2, hB3⟩; have H2 := hide' (h1'.out.below hB3); have X2 := hide' (X1'.out.below hB3 X1'.out.lt); have hby3 := H2.out.by_; clear hns hpb hB3; have gg4 := (bx5 X2.out).1.2.2.2.2; have ee4 := X2.out.free 4; obtain ⟨w4, hw4⟩ : ∃ w4, w3.setCell ⟨wb.heap.size, 4, none⟩ (.string (B.extract (k1 + 10) (k1 + 10 + n))) = w4 := ⟨_, rfl⟩; have H4 : Hid (Rc w w4 wa.heap.size b o B) := hw4 ▸ H2.out.set hX.out _ _; have X4 : Hid (Bx w4 wb.heap.size #[.string s, .int .i64 (t : Int), .int .i64 (c : Int), .int .i64 (tl : Int), .string (B.extract (k1 + 10) (k1 + 10 + n))] 48) := hw4 ▸ X2.out.set 4 _; clear m0 m1 m2 m3 m4 r0 r1 r2 r3 r4 f0 f1 f2 f3 f4 g0 g1 g2 g3 g4; obtain ⟨⟨m0, m1, m2, m3, m4⟩, _⟩ := bx5 H4.out.n; obtain ⟨⟨r0, r1, r2, r3, r4⟩, f0, f1, f2, f3, f4⟩ := bx5 H4.out.r; obtain ⟨⟨g0, g1, g2, g3, g4⟩, e0, e1, e2, e3, e4⟩ := bx5 X4.out)
                  | (go_at_call 25; refine (HRi.out _).mono ?_; rintro e w9 ⟨rfl, hB9⟩; have H9 := hide' (H4.out.below hB9); have X9 := hide' (X4.out.below hB9 X4.out.lt); clear m0 m1 m2 m3 m4 r0 r1 r2 r3 r4 f0 f1 f2 f3 f4 g0 g1 g2 g3 g4 e0 e1 e2 e3 e4; obtain ⟨⟨m0, m1, m2, m3, m4⟩, _⟩ := bx5 H9.out.n; obtain ⟨⟨r0, r1, r2, r3, r4⟩, f0, f1, f2, f3, f4⟩ := bx5 H9.out.r; obtain ⟨⟨g0, g1, g2, g3, g4⟩, e0, e1, e2, e3, e4⟩ := bx5 X9.out; clear hB9))
                obtain ⟨⟨q0, q1, q2, q3, q4⟩, _⟩ := bx5 (H9.out.bad (.string s) (.int .i64 (t : Int)) (.int .i64 (c : Int)) (.int .i64 (tl : Int)) (.string (B.extract (k1 + 10) (k1 + 10 + n)))).1
                unfold set5 at q0 q1 q2 q3 q4
                refine bodyPost_ret (v := .tuple #[.agg #[.string s, .int .i64 (t : Int), .int .i64 (c : Int), .int .i64 (tl : Int), .string (B.extract (k1 + 10) (k1 + 10 + n))], .int .i64 ((k1 : Int) + 10 + (n : Int)), .int .i64 0]) (by simp [results, go_sem, q0, q1, q2, q3, q4]) rfl ?_
                rw [HXe.out]
                exact ⟨by simp, (H9.out.bad _ _ _ _ _).2⟩
end Go.Proofs.Ytnnmgcdhidmmeaa
