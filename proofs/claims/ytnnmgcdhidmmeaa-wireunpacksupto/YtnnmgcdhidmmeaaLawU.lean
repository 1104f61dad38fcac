import Derived.Test.YtnnmgcdhidmmeaaMk1G
import Derived.Test.YtnnmgcdhidmmeaaWr8
import Derived.Test.YtnnmgcdhidmmeaaMk3
namespace Go.Proofs.Ytnnmgcdhidmmeaa
set_option linter.unusedVariables false
open Go.RowKit Go.Shelf Go.Proofs.Ytnnmgcdhidmmeaa.Nm

set_option maxRecDepth 100000 in
set_option maxHeartbeats 200000000 in
/-- the law WireUnpacks -/
theorem wireUnpacks_any (a0 : Option Addr) (cap : Nat) (B : ByteArray) (w : World) (hz : B.size ≤ 1048576) (hc : B.size ≤ cap) (hat : ∀ ad, a0 = some ad → 0 < B.size → ∃ b oo, ad = ⟨b, oo, none⟩ ∧ b < w.heap.size ∧ Lib.Bytes w b oo B) (hnone : a0 = none → B.size = 0 ∧ cap = 0) :
    Calls Try.prog 3 #[.slice a0 B.size cap] w fun e w' => e = .returned (.bool true) ∧ Below w.heap.size w w' := by
  obtain ⟨i0, i2, i9, s1, s3, s4, s5, s6, s7, s8, ls, at_, er, ⟨l1, l2, l3, l4⟩, hup⟩ := up_joined B
  have HUp := hide' hup
  clear hup
  have HUn := hide' (fun (W : World) (p : Option Addr) (c : Nat) (h1 : B.size ≤ c) (h2 : 12 ≤ B.size → ∃ b o, p = some ⟨b, o, none⟩ ∧ b < W.heap.size ∧ Lib.Bytes W b o B) => (unpack_any p c B W (by omega) h1 h2).mono (fun e w' h => HUp.out W e w' h))
  have HRf := hide' (fun (W : World) (p : Option Addr) (c : Nat) (h1 : B.size ≤ c) (h2 : 12 ≤ B.size → ∃ b o, p = some ⟨b, o, none⟩ ∧ b < W.heap.size ∧ Lib.Bytes W b o B) => (refUnpack_any p c B W (by omega) h1 h2).mono (fun e w' h => HUp.out W e w' h))
  have HAt : Hid (∀ W : World, Below w.heap.size w W → 12 ≤ B.size → ∃ b o, a0 = some ⟨b, o, none⟩ ∧ b < W.heap.size ∧ Lib.Bytes W b o B) := by
    intro W hW h12
    cases a0 with
    | none => have := (hnone rfl).1; omega
    | some ad =>
      obtain ⟨b, oo, rfl, h1, h2⟩ := hat ad rfl (by omega)
      exact ⟨b, oo, rfl, Nat.lt_of_lt_of_le h1 hW.size, h2.blk (hW.block b h1)⟩
  have HCa : Hid (∀ W : World, Below w.heap.size w W → (convert 22 9 (.slice a0 B.size cap)).run Try.prog W = .ok (.string B) W) := by
    intro W hW
    cases a0 with
    | none =>
      obtain ⟨h1, h2⟩ := hnone rfl
      subst h2
      have hB : B = ⟨#[]⟩ := by apply ByteArray.ext; exact Array.eq_empty_of_size_eq_zero h1
      subst hB
      exact Go.Lib.run_convert_nil_bytes W 22 9 5 0 Try.underlying22 Try.underlying5 Try.underlying9
    | some ad =>
      by_cases h0 : 0 < B.size
      · obtain ⟨b, oo, rfl, h1, h2⟩ := hat ad rfl h0
        have hW2 : Lib.Bytes W b oo B := h2.blk (hW.block b h1)
        have := conv_win (W := W) (c := cap) (n := B.size) (l := 0) (x := oo) hW2 (fun _ => rfl) (by omega)
        rw [Nat.zero_add, show B.extract 0 B.size = B by apply ByteArray.ext; simp] at this
        exact this
      · have hB : B = ⟨#[]⟩ := by apply ByteArray.ext; exact Array.eq_empty_of_size_eq_zero (show B.size = 0 by omega)
        subst hB
        exact run_convert_bytes_back (P := Try.prog) W 22 9 5 ad cap [] Try.underlying22 Try.underlying5 Try.underlying9 (fun j hj => (Nat.not_lt_zero _ hj).elim)
  have hat2 : ∀ ad, a0 = some ad → 0 < B.size → ∃ b oo, ad = ⟨b, oo, none⟩ ∧ Lib.Bytes w b oo B := fun ad e h0 => by obtain ⟨b, oo, h1, _, h2⟩ := hat ad e h0; exact ⟨b, oo, h1, h2⟩
  have HL3 : Hid (∀ (w1 w2 w3 : World) (cs : Array Value), Below w.heap.size w w1 → Below w1.heap.size w1 w2 → w2.alloc (.cells cs 26) = w3 → Below w.heap.size w w3) := by
    rintro w1 w2 w3 cs h1 h2 rfl
    have h3 := bstep h1 h2 h1.size
    exact h3.alloc h3.size _
  have HA2 := hide' hat2
  have HNo := hide' hnone
  clear hat hat2 hnone
  go_enter Try.func3, Try.ntmps3
  have F1 : Hid True := trivial
  have F2 : Hid True := trivial
  go_wp2_with (first
    | (at_builtin; refine wpList_append_bytes w rfl _ _ rfl w.heap.size B a0 cap rfl rfl HA2.out HNo.out (by omega) (Nat.le_refl _) ?_; intro v1 w1 hown hg; obtain ⟨p1, cp1, rfl, hcp1, _, hnp1⟩ := own_shape hown; have HO1 := hide' hown; have HB1 : Hid (Below w.heap.size w w1) := ⟨hg.os, hg.tape, hg.output, hg.size, fun k hk => hg.block k hk (fun e => by cases e)⟩; clear hown hg hnp1)
    | (go_at_call 4; have _ := F1; clear F1; refine Calls.mono (HUn.out _ _ _ hcp1 (fun h12 => by obtain ⟨g, rfl⟩ := own_one HO1.out (by omega); exact ⟨g, 0, rfl, (HO1.out.lt g rfl).2, own_bytes HO1.out⟩)) ?_; rintro e w2 ⟨a1, a2, a3, a4, c1, c2, c3, c4, rfl, hm2, hB2⟩; have HM2 := hide' hm2; have HB2 := hide' hB2; clear hm2 hB2; obtain ⟨w3, hw3⟩ : ∃ w3, w2.alloc (.cells #[.int .i64 i0, .bool s1, .int .i64 i2, .bool s3, .bool s4, .bool s5, .bool s6, .bool s7, .bool s8, .int .i64 i9, .slice a1 ls.q.length c1, .slice a2 ls.a.length c2, .slice a3 ls.u.length c3, .slice a4 ls.d.length c4] 26) = w3 := ⟨_, rfl⟩)
    | (go_at_call 5; refine Calls.mono (HRf.out _ _ _ hc (HAt.out _ (HL3.out w1 w2 w3 #[.int .i64 i0, .bool s1, .int .i64 i2, .bool s3, .bool s4, .bool s5, .bool s6, .bool s7, .bool s8, .int .i64 i9, .slice a1 ls.q.length c1, .slice a2 ls.a.length c2, .slice a3 ls.u.length c3, .slice a4 ls.d.length c4] HB1.out HB2.out hw3))) ?_; rintro e w4 ⟨b1, b2, b3, b4, d1, d2, d3, d4, rfl, hm4, hB4⟩; obtain ⟨w5, hw5⟩ : ∃ w5, w4.alloc (.cells #[.int .i64 i0, .bool s1, .int .i64 i2, .bool s3, .bool s4, .bool s5, .bool s6, .bool s7, .bool s8, .int .i64 i9, .slice b1 ls.q.length d1, .slice b2 ls.a.length d2, .slice b3 ls.u.length d3, .slice b4 ls.d.length d4] 26) = w5 := ⟨_, rfl⟩; have H5 := hide' (U5.mk' HO1.out HB1.out HM2.out HB2.out hw3 hm4 hB4 hw5); clear hm4 hB4; obtain ⟨x0, x1, x2, x3, x4, x5, x6, x7, x8, x9, x10, x11, x12, x13⟩ := bx14 H5.out.x4; obtain ⟨y0, y1, y2, y3, y4, y5, y6, y7, y8, y9, y10, y11, y12, y13⟩ := bx14 H5.out.x7)
    | (go_at_call 6; have _ := F2; clear F2; refine (sameMessages i0 i2 i9 s1 s3 s4 s5 s6 s7 s8 a1 a2 a3 a4 b1 b2 b3 b4 c1 c2 c3 c4 d1 d2 d3 d4 w1.heap.size w3.heap.size ls _ H5.out.m H5.out.x (by omega)).mono ?_; rintro e w6 ⟨rfl, hB6⟩; have H6 := hide' (H5.out.below hB6); clear hB6 x0 x1 x2 x3 x4 x5 x6 x7 x8 x9 x10 x11 x12 x13 y0 y1 y2 y3 y4 y5 y6 y7 y8 y9 y10 y11 y12 y13; obtain ⟨x0, x1, x2, x3, x4, x5, x6, x7, x8, x9, x10, x11, x12, x13⟩ := bx14 H6.out.x4)
    | (go_at_call 7; refine Calls.mono (sameBytes _ _ B _ (own_text H6.out.o) (HCa.out _ H6.out.bl)) ?_; rintro e w6' ⟨rfl, h6⟩; have h6' := h6.symm; subst h6')
    | (go_at_call 8; refine (mark_any i0 i2 i9 s1 s3 s4 s5 s6 s7 s8 a1 a2 a3 a4 c1 c2 c3 c4 w1.heap.size ls _ H6.out.m H6.out.sz l1 l2 l3 l4).mono ?_; rintro e w7 ⟨rfl, hF7⟩; have H7 := hide' (H6.out.marked hF7); clear hF7 x0 x1 x2 x3 x4 x5 x6 x7 x8 x9 x10 x11 x12 x13)
    | (go_at_call 4; refine Calls.mono (HUn.out _ _ _ hcp1 (fun h12 => by obtain ⟨g, rfl⟩ := own_one H7.out.o (by omega); exact ⟨g, 0, rfl, (H7.out.o.lt g rfl).2, own_bytes H7.out.o⟩)) ?_; rintro e w8 ⟨m1, m2, m3, m4, k1, k2, k3, k4, rfl, hm8, hB8⟩; have H8 := hide' (H7.out.again hm8 hB8); clear hm8 hB8; obtain ⟨r0, r1, r2, r3, r4, r5, r6, r7, r8, r9, r10, r11, r12, r13⟩ := bx14 H8.out.x4; obtain ⟨f0, f1, f2, f3, f4, f5, f6, f7, f8, f9, f10, f11, f12, f13⟩ := bx14_free H8.out.x4; obtain ⟨w9, hw9⟩ : ∃ w9, set14 w8 w2.heap.size (.int .i64 i0) (.bool s1) (.int .i64 i2) (.bool s3) (.bool s4) (.bool s5) (.bool s6) (.bool s7) (.bool s8) (.int .i64 i9) (.slice m1 ls.q.length k1) (.slice m2 ls.a.length k2) (.slice m3 ls.u.length k3) (.slice m4 ls.d.length k4) = w9 := ⟨_, rfl⟩; unfold set14 at hw9; have H9 := hide' (H8.out.stored (.int .i64 i0) (.bool s1) (.int .i64 i2) (.bool s3) (.bool s4) (.bool s5) (.bool s6) (.bool s7) (.bool s8) (.int .i64 i9) (.slice m1 ls.q.length k1) (.slice m2 ls.a.length k2) (.slice m3 ls.u.length k3) (.slice m4 ls.d.length k4) hw9); obtain ⟨x0, x1, x2, x3, x4, x5, x6, x7, x8, x9, x10, x11, x12, x13⟩ := bx14 H9.out.x4; obtain ⟨y0, y1, y2, y3, y4, y5, y6, y7, y8, y9, y10, y11, y12, y13⟩ := bx14 H9.out.x7)
    | (go_at_call 6; refine (sameMessages i0 i2 i9 s1 s3 s4 s5 s6 s7 s8 m1 m2 m3 m4 b1 b2 b3 b4 k1 k2 k3 k4 d1 d2 d3 d4 w7.heap.size w3.heap.size ls _ H9.out.m H9.out.x (by omega)).mono ?_; rintro e w10 ⟨rfl, hB10⟩; have HBf := hide' (bstep H9.out.bl hB10 H9.out.bl.size); clear hB10))
  go_ret
  exact ⟨rfl, HBf.out⟩
end Go.Proofs.Ytnnmgcdhidmmeaa
