import Derived.Test.YtnnmgcdhidmmeaaWu9
namespace Go.Proofs.Ytnnmgcdhidmmeaa
set_option linter.unusedVariables false
open Go.RowKit Go.Shelf Go.Proofs.Ytnnmgcdhidmmeaa.Nm

set_option maxRecDepth 100000 in
set_option maxHeartbeats 1000000 in
/-- gazetteerref1.Value -/
theorem refValue_any (s : ByteArray) (w : World) (hs : s.size ≤ 4) :
    Calls Try.prog 12 #[.string s] w fun e w' => e = .returned (.int .i64 (be s 0 s.size : Int)) ∧ w' = w := by
  go_enter Try.func12, Try.ntmps12
  go_wp2
  go_loop [3, 4] (fun a i => ∃ j : Nat, i = .int .i64 (j : Int) ∧ a = .int .i64 (be s 0 j : Int) ∧ j ≤ s.size) (fun _ i => s.size - (intOf i).toNat)
  case atStart => exact ⟨0, rfl, rfl, Nat.zero_le _⟩
  case round =>
    obtain ⟨j, rfl, rfl, hj⟩ := hrel
    by_cases hlt : j < s.size
    · obtain ⟨y, hy, HY, hyl⟩ := bt_wrap hlt
      have hl : be s 0 j < 16777216 := by
        have h1 := be_lt s 0 j
        have h2 : 256 ^ j ≤ 256 ^ 3 := Nat.pow_le_pow_right (by omega) (by omega)
        omega
      have HE : Hid (be s 0 (j + 1) = be s 0 j * 256 + y) := by unfold Hid; rw [be, Nat.zero_add, HY]
      generalize be s 0 j = x at *
      go_wp2
      go_round
      case rel => exact ⟨j + 1, by go_num, by rw [HE.out]; simp, by omega⟩
      case measure => simp [intOf]; omega
    · obtain rfl : j = s.size := by omega
      go_wp2
      go_ret
      exact ⟨rfl, rfl⟩
theorem refValue_win (B : ByteArray) (k n : Nat) (w : World) (hn : n ≤ 4) (hk : k + n ≤ B.size) :
    Calls Try.prog 12 #[.string (B.extract k (k + n))] w fun e w' => e = .returned (.int .i64 (be B k n : Int)) ∧ w' = w := by
  have hz : (B.extract k (k + n)).size = n := by simp [ByteArray.size_extract]; omega
  have := refValue_any (B.extract k (k + n)) w (by omega)
  rw [hz, be_ext hk n (by omega), Nat.add_zero] at this
  exact this

def rnEnd (r : Except Nat (ByteArray × Nat)) (w : World) (e : Ending) (w' : World) : Prop := match r with
  | .ok r => e = .returned (.tuple #[.string r.1, .int .i64 (r.2 : Int), .int .i64 0]) ∧ w' = w
  | .error x => (∃ z : Nat, e = .returned (.tuple #[.string ⟨#[]⟩, .int .i64 (z : Int), .int .i64 (x : Int)])) ∧ w' = w

set_option maxRecDepth 100000 in
set_option maxHeartbeats 4000000 in
/-- gazetteerref2.readName -/
theorem refReadName_any (b o cap : Nat) (B : ByteArray) (k st en ov had : Nat) (w : World) (hB : Lib.Bytes w b o B) (hk : k ≤ en) (hE : en ≤ B.size) (hS : B.size ≤ 65535) (hc : B.size ≤ cap) (hst : st ≤ B.size) (hov : ov = 7 ∨ ov = 10) (hh : had ≤ 254) :
    Calls Try.prog 13 #[.slice (some ⟨b, o, none⟩) B.size cap, .int .i64 (k : Int), .int .i64 (st : Int), .int .i64 (en : Int), .int .i64 (ov : Int), .int .i64 (had : Int)] w (rnEnd (rn B k st en ov had) w) := by
  by_cases hlt : k < en
  · have hbyte := hB.at_ (k := k) (by omega)
    have hyl := bt_lt B k
    obtain ⟨y, hy⟩ : ∃ y, bt B k = y := ⟨_, rfl⟩
    have HY : Hid (bt B k = y) := hy
    by_cases h0 : bt B k = 0
    · have HQ : Hid (rn B k st en ov had = .ok (⟨#[0]⟩, k + 1)) := rn_zero hlt h0
      have hy0 : ((y : Int) == 0) = true := by rw [beq_iff_eq]; omega
      rw [hy] at hbyte hyl h0
      clear hy
      go_enter Try.func13, Try.ntmps13
      go_wp2_with fail
      refine bodyPost_ret (v := .tuple #[.string ⟨#[0]⟩, .int .i64 ((k : Int) + 1), .int .i64 0]) (by simp [results, go_sem]) rfl ?_
      rw [HQ.out]
      exact ⟨by simp, rfl⟩
    have hy0 : ((y : Int) == 0) = false := by rw [beq_eq_false_iff_ne]; omega
    by_cases h6 : bt B k < 64
    · by_cases ho : en < k + 1 + bt B k
      · have HQ : Hid (rn B k st en ov had = .error ov) := rn_over hlt h0 h6 ho
        rw [hy] at hbyte hyl h0 h6 ho
        clear hy
        go_enter Try.func13, Try.ntmps13
        go_wp2_with fail
        refine bodyPost_ret (v := .tuple #[.string ⟨#[]⟩, .int .i64 0, .int .i64 (ov : Int)]) (by simp [results, go_sem]) rfl ?_
        rw [HQ.out]
        exact ⟨⟨0, rfl⟩, rfl⟩
      by_cases hl : 255 < had + 1 + bt B k + 1
      · have HQ : Hid (rn B k st en ov had = .error 4) := rn_long hlt h0 h6 ho hl
        rw [hy] at hbyte hyl h0 h6 ho hl
        clear hy
        go_enter Try.func13, Try.ntmps13
        go_wp2_with fail
        refine bodyPost_ret (v := .tuple #[.string ⟨#[]⟩, .int .i64 0, .int .i64 4]) (by simp [results, go_sem]) rfl ?_
        rw [HQ.out]
        exact ⟨⟨0, rfl⟩, rfl⟩
      have HIH := hide' (refReadName_any b o cap B (k + 1 + bt B k) st en ov (had + 1 + bt B k) w hB (by omega) hE hS hc hst hov (by omega))
      have HR : Hid (rn B k st en ov had = pre (B.extract k (k + 1 + bt B k)) (rn B (k + 1 + bt B k) st en ov (had + 1 + bt B k))) := rn_label hlt h0 h6 ho hl
      have he1 : (((k + 1 + bt B k : Nat)) : Int) = (k : Int) + 1 + (y : Int) := by omega
      have he2 : (((had + 1 + bt B k : Nat)) : Int) = (had : Int) + 1 + (y : Int) := by omega
      rw [he1, he2] at HIH
      clear he1 he2
      cases hr : rn B (k + 1 + bt B k) st en ov (had + 1 + bt B k) with
      | error x =>
        have HQ : Hid (rn B k st en ov had = .error x) := by unfold Hid; rw [HR.out, hr]; rfl
        have hx : ((x : Int) != 0) = true := by
          have := rn_err _ _ _ _ _ _ hr
          simp [bne_iff_ne]; omega
        rw [hr] at HIH
        rw [hy] at hbyte hyl h0 h6 ho hl
        clear hy hr HR
        go_enter Try.func13, Try.ntmps13
        go_wp2_with (go_at_call 13; refine HIH.out.mono ?_; rintro e w1 ⟨⟨z, rfl⟩, h1⟩; have h1' := h1.symm; subst h1')
        refine bodyPost_ret (v := .tuple #[.string ⟨#[]⟩, .int .i64 0, .int .i64 (x : Int)]) (by simp [results, go_sem]) rfl ?_
        rw [HQ.out]
        exact ⟨⟨0, rfl⟩, rfl⟩
      | ok r =>
        obtain ⟨s, nx⟩ := r
        obtain ⟨_, hn2, hn3, hn4⟩ := rn_ok _ _ _ _ _ _ _ hE (by omega) hr
        have HQ : Hid (rn B k st en ov had = .ok (B.extract k (k + 1 + bt B k) ++ s, nx)) := by unfold Hid; rw [HR.out, hr]; rfl
        rw [hr] at HIH
        rw [hy] at hbyte hyl h0 h6 ho hl HQ hn2
        replace HIH : Hid (Calls Try.prog 13 #[.slice (some ⟨b, o, none⟩) B.size cap, .int .i64 ((k : Int) + 1 + (y : Int)), .int .i64 (st : Int), .int .i64 (en : Int), .int .i64 (ov : Int), .int .i64 ((had : Int) + 1 + (y : Int))] w fun e w' => e = .returned (.tuple #[.string s, .int .i64 (nx : Int), .int .i64 0]) ∧ w' = w) := HIH.out
        clear hy hr HR
        obtain ⟨x, hsl, hx⟩ := run_win b o B.size cap k (k + 1 + y) (by omega) (by omega)
        have hcv : (convert 22 9 (.slice (some ⟨b, x, none⟩) (k + 1 + y - k) (cap - k))).run Try.prog w = .ok (.string (B.extract k (k + 1 + y))) w := by
          have := conv_win (W := w) (c := cap - k) (n := 1 + y) (l := k) hB (fun _ => hx (by omega)) (by omega)
          rw [show k + 1 + y - k = 1 + y by omega, Nat.add_assoc]
          exact this
        have hzz : (B.extract k (k + 1 + y)).size = 1 + y := by simp [ByteArray.size_extract]; omega
        have hadd : ∀ W : World, (Op.stringOp .add (B.extract k (k + 1 + y)) s).run Try.prog W = .ok (.string (B.extract k (k + 1 + y) ++ s)) W := fun W => run_string_add_sum W _ _ (by omega)
        have he3 : (((k + 1 + y : Nat)) : Int) = (k : Int) + 1 + (y : Int) := by omega
        rw [he3] at hsl
        clear hzz he3
        go_enter Try.func13, Try.ntmps13
        go_wp2_with (go_at_call 13; refine HIH.out.mono ?_; rintro e w1 ⟨rfl, h1⟩; have h1' := h1.symm; subst h1')
        refine bodyPost_ret (v := .tuple #[.string (B.extract k (k + 1 + y) ++ s), .int .i64 (nx : Int), .int .i64 0]) (by simp [results, go_sem]) rfl ?_
        rw [HQ.out]
        exact ⟨rfl, rfl⟩
    · by_cases h9 : bt B k < 192
      · have HQ : Hid (rn B k st en ov had = .error 9) := rn_mid hlt h6 h9
        rw [hy] at hbyte hyl h0 h6 h9
        clear hy
        go_enter Try.func13, Try.ntmps13
        go_wp2_with fail
        refine bodyPost_ret (v := .tuple #[.string ⟨#[]⟩, .int .i64 0, .int .i64 9]) (by simp [results, go_sem]) rfl ?_
        rw [HQ.out]
        exact ⟨⟨0, rfl⟩, rfl⟩
      by_cases ho : en < k + 2
      · have HQ : Hid (rn B k st en ov had = .error ov) := rn_short hlt h9 ho
        rw [hy] at hbyte hyl h0 h6 h9
        clear hy
        go_enter Try.func13, Try.ntmps13
        go_wp2_with fail
        refine bodyPost_ret (v := .tuple #[.string ⟨#[]⟩, .int .i64 0, .int .i64 (ov : Int)]) (by simp [results, go_sem]) rfl ?_
        rw [HQ.out]
        exact ⟨⟨0, rfl⟩, rfl⟩
      have hbyte2 := hB.at_ (k := k + 1) (by omega)
      have hzl := bt_lt B (k + 1)
      by_cases hp : (bt B k - 192) * 256 + bt B (k + 1) < st
      · have HIH := hide' (refReadName_any b o cap B ((bt B k - 192) * 256 + bt B (k + 1)) ((bt B k - 192) * 256 + bt B (k + 1)) B.size 10 had w hB (by omega) (Nat.le_refl _) hS hc (by omega) (.inr rfl) hh)
        have HR : Hid (rn B k st en ov had = bhd (k + 2) (rn B ((bt B k - 192) * 256 + bt B (k + 1)) ((bt B k - 192) * 256 + bt B (k + 1)) B.size 10 had)) := rn_ptr hlt h9 ho hp
        rw [hy] at hbyte hyl h0 h6 h9 hp HIH HR
        obtain ⟨z, hz⟩ : ∃ z, bt B (k + 1) = z := ⟨_, rfl⟩
        rw [hz] at hbyte2 hzl hp HIH HR
        obtain ⟨q, hq⟩ : ∃ q, (y - 192) * 256 + z = q := ⟨_, rfl⟩
        have hqe : ((y : Int) - 192) * 256 + (z : Int) = (q : Int) := by omega
        rw [hq] at hp HIH HR
        cases hr : rn B q q B.size 10 had with
        | error x =>
          have HQ : Hid (rn B k st en ov had = .error x) := by unfold Hid; rw [HR.out, hr]; rfl
          rw [hr] at HIH
          clear hy hz hq hr HR
          go_enter Try.func13, Try.ntmps13
          go_wp2_with (go_at_call 13; refine HIH.out.mono ?_; rintro e w1 ⟨⟨z2, rfl⟩, h1⟩; have h1' := h1.symm; subst h1')
          refine bodyPost_ret (v := .tuple #[.string ⟨#[]⟩, .int .i64 ((k : Int) + 2), .int .i64 (x : Int)]) (by simp [results, go_sem]) rfl ?_
          rw [HQ.out]
          exact ⟨⟨k + 2, by simp⟩, rfl⟩
        | ok r =>
          obtain ⟨s, nx⟩ := r
          have HQ : Hid (rn B k st en ov had = .ok (s, k + 2)) := by unfold Hid; rw [HR.out, hr]; rfl
          rw [hr] at HIH
          replace HIH : Hid (Calls Try.prog 13 #[.slice (some ⟨b, o, none⟩) B.size cap, .int .i64 (q : Int), .int .i64 (q : Int), .int .i64 (B.size : Int), .int .i64 ((10 : Nat) : Int), .int .i64 (had : Int)] w fun e w' => e = .returned (.tuple #[.string s, .int .i64 (nx : Int), .int .i64 0]) ∧ w' = w) := HIH.out
          clear hy hz hq hr HR
          go_enter Try.func13, Try.ntmps13
          go_wp2_with (go_at_call 13; refine HIH.out.mono ?_; rintro e w1 ⟨rfl, h1⟩; have h1' := h1.symm; subst h1')
          refine bodyPost_ret (v := .tuple #[.string s, .int .i64 ((k : Int) + 2), .int .i64 0]) (by simp [results, go_sem]) rfl ?_
          rw [HQ.out]
          exact ⟨by simp, rfl⟩
      · have HQ : Hid (rn B k st en ov had = .error 9) := rn_far hlt h9 ho hp
        rw [hy] at hbyte hyl h0 h6 h9 hp
        obtain ⟨z, hz⟩ : ∃ z, bt B (k + 1) = z := ⟨_, rfl⟩
        rw [hz] at hbyte2 hzl hp
        obtain ⟨q, hq⟩ : ∃ q, (y - 192) * 256 + z = q := ⟨_, rfl⟩
        have hqe : ((y : Int) - 192) * 256 + (z : Int) = (q : Int) := by omega
        rw [hq] at hp
        clear hy hz hq
        go_enter Try.func13, Try.ntmps13
        go_wp2_with fail
        refine bodyPost_ret (v := .tuple #[.string ⟨#[]⟩, .int .i64 0, .int .i64 9]) (by simp [results, go_sem]) rfl ?_
        rw [HQ.out]
        exact ⟨⟨0, rfl⟩, rfl⟩
  · have HQ : Hid (rn B k st en ov had = .error ov) := rn_end hlt
    go_enter Try.func13, Try.ntmps13
    go_wp2_with fail
    refine bodyPost_ret (v := .tuple #[.string ⟨#[]⟩, .int .i64 0, .int .i64 (ov : Int)]) (by simp [results, go_sem]) rfl ?_
    rw [HQ.out]
    exact ⟨⟨0, rfl⟩, rfl⟩
end Go.Proofs.Ytnnmgcdhidmmeaa
