import Derived.Test.YtlkppmpdjpffiaaPk25
import Derived.Test.YtlkppmpdjpffiaaPk19
namespace Go.Proofs.Ytlkppmpdjpffiaa
set_option linter.unusedVariables false
open Go.RowKit Go.Shelf Go.Maps Go.Proofs.Ytlkppmpdjpffiaa.Nm

set_option maxRecDepth 1000000 in
set_option maxHeartbeats 4000000 in
theorem short_tail (M X S L g8 c8 c5 n ev : Nat) (p5 : Option Addr) (dt : ByteArray) (v0 v1 v2 v3 v4 v5 v6 v7 v8 v9 v10 v11 v12 : Value) (w w9 : World)
    (HB : Hid (Below M w w9)) (HM : Hid (M ≤ w9.heap.size)) (HX : Hid (Bx w9 X #[v0, v1, v2, v3, v4, v5, v6, v7, v8, v9, v10, v11, v12, .slice (some ⟨g8, 0, none⟩) L c8] 25)) (hS : S ≤ 65535) (hdl : dt.size ≤ 60000) (hL : L ≤ 65536) (hn : n ≤ 1000000)
    (HP : Hid (Calls Try.prog 4 #[.agg #[v0, v1, v2, v3, v4, v5, v6, v7, v8, v9, v10, v11, v12, .slice (some ⟨g8, 0, none⟩) L c8]] w9 fun e w' => (∃ p c, e = .returned (.tuple #[.slice p n c, .int .i64 (ev : Int)])) ∧ Below w9.heap.size w9 w'))
    (hev : (ev = 8 ∧ 65535 < L) ∨ (ev = 12 ∧ 65535 < S + 12 + dt.size) ∨ (ev = 0 ∧ n = S + 12 + dt.size))
    (x0 x2 x3 x4 x6 x8 x9 x10 x11 x12 x13 x14 x15 x16 x17 x18 x19 x20 x21 x22 x23 x24 x25 x26 x27 x28 x29 x30 x31 x32 x33 x34 x35 x36 x37 x38 x39 x40 x41 x42 x43 x44 x45 x46 x47 x48 x49 x50 x51 x52 x53 x54 x55 x56 x57 x58 x59 x60 x61 x62 x63 x64 x65 x66 x67 x68 x69 x70 x71 x72 x73 x74 x75 x76 x77 x78 x79 x80 x81 x82 x83 x84 x85 x86 x87 x88 x89 x90 x91 x92 x93 x94 x95 x96 x97 x98 x99 x100 x101 x102 x103 x104 x105 x106 : Value) :
    Code.wp Try.prog (((Try.f3.body.map (tailsOf 14)).getD []).getD 0 .skip) (bodyPost Try.prog Try.f3 fun e w' => e = .returned (.bool true) ∧ Below M w w') ⟨List.toArray (x0 :: (.string dt : Value) :: x2 :: x3 :: x4 :: (.slice p5 S c5 : Value) :: x6 :: (.pointer (some ⟨X, 0, none⟩) : Value) :: x8 :: x9 :: x10 :: x11 :: x12 :: x13 :: x14 :: x15 :: x16 :: x17 :: x18 :: x19 :: x20 :: x21 :: x22 :: x23 :: x24 :: x25 :: x26 :: x27 :: x28 :: x29 :: x30 :: x31 :: x32 :: x33 :: x34 :: x35 :: x36 :: x37 :: x38 :: x39 :: x40 :: x41 :: x42 :: x43 :: x44 :: x45 :: x46 :: x47 :: x48 :: x49 :: x50 :: x51 :: x52 :: x53 :: x54 :: x55 :: x56 :: x57 :: x58 :: x59 :: x60 :: x61 :: x62 :: x63 :: x64 :: x65 :: x66 :: x67 :: x68 :: x69 :: x70 :: x71 :: x72 :: x73 :: x74 :: x75 :: x76 :: x77 :: x78 :: x79 :: x80 :: x81 :: x82 :: x83 :: x84 :: x85 :: x86 :: x87 :: x88 :: x89 :: x90 :: x91 :: x92 :: x93 :: x94 :: x95 :: x96 :: x97 :: x98 :: x99 :: x100 :: x101 :: x102 :: x103 :: x104 :: x105 :: x106 :: []), []⟩ w9 := by
  obtain ⟨m0, m1, m2, m3, m4, m5, m6, m7, m8, m9, m10, m11, m12, m13⟩ := bx14c HX.out
  conv => arg 2; whnf
  rcases hev with ⟨rfl, hv⟩ | ⟨rfl, hv⟩ | ⟨rfl, hv⟩
  all_goals
    go_wp2_with (go_at_call 4; refine HP.out.mono ?_; rintro e w10 ⟨⟨p10, c10, rfl⟩, hB10⟩; have HB10 := hide' (bstep HB.out hB10 HM.out); have z13 : w10.cell? ⟨X, 13, none⟩ = some (.slice (some ⟨g8, 0, none⟩) L c8) := (HX.out.below hB10 HX.out.lt).cell rfl; clear hB10)
  all_goals
    go_ret
    refine ⟨?_, HB10.out⟩
  · show Ending.returned (.bool (decide ((65535 : Int) < (L : Int)))) = _
    rw [decide_eq_true (by omega)]
  · rfl
  · rfl
end Go.Proofs.Ytlkppmpdjpffiaa

namespace Go.Proofs.Ytlkppmpdjpffiaa
set_option linter.unusedVariables false
open Go.RowKit Go.Shelf Go.Maps Go.Proofs.Ytlkppmpdjpffiaa.Nm

theorem msgOK_more {i0 i2 i9 : Int} {Q : List Qn} {A U D : List Rn} {r : Rn} (h : msgOK i0 i2 i9 Q A U D = true) (hr : rOK r = true) : msgOK i0 i2 i9 Q A U (D ++ [r]) = decide (D.length + 1 ≤ 65535) := by
  unfold msgOK lstOK at *
  simp only [Bool.and_eq_true] at h
  obtain ⟨⟨⟨⟨⟨⟨⟨h0, h2⟩, h9⟩, hq⟩, ha⟩, hu⟩, hd⟩, hl⟩ := h
  rw [h0, h2, h9, hq, ha, hu, hl.1, hl.2.1.1, hl.2.1.2, List.all_append, hl.2.2]
  simp [hr]

set_option maxRecDepth 1000000 in
set_option maxHeartbeats 4000000 in
theorem short_both (K : Act → World → Prop) (i0 i2 i9 : Nat) (b1 b3 b4 b5 b6 b7 b8 : Bool) (a0 u0 d0 : Option Addr) (gq oq qc ac uc dc X S c5 : Nat) (p5 : Option Addr) (Q : List Qn) (A U D : List Rn) (dt nn : ByteArray) (w W0 : World)
    (HL : Hid (LsAt w (some ⟨gq, oq, none⟩) a0 u0 d0 Q A U D)) (HMS : Hid (msgOK (i0 : Int) (i2 : Int) (i9 : Int) Q A U D = true)) (HSZ : Hid ((packS i0 i2 i9 b1 b3 b4 b5 b6 b7 b8 Q A U D).out.size = S)) (hS : S ≤ 65535)
    (hq : 0 < Q.length) (HN : Hid (Q[0].n = nn)) (HR : Hid (nn ≠ ⟨#[0]⟩)) (hdl : dt.size ≤ 60000) (HDN : Hid (d0 = none → dc = 0)) (hld : D.length ≤ 65535)
    (HB : Hid (Be w W0 w.heap.size X gq oq #[.int .i64 (i0 : Int), .bool b1, .int .i64 (i2 : Int), .bool b3, .bool b4, .bool b5, .bool b6, .bool b7, .bool b8, .int .i64 (i9 : Int), .slice (some ⟨gq, oq, none⟩) Q.length qc, .slice a0 A.length ac, .slice u0 U.length uc, .slice d0 D.length dc] nn d0 D W0)) (HM : Hid (w.heap.size < X)) (HG : Hid (gq < X)) (HXW : Hid (X < W0.heap.size))
    (x0 x3 x4 x6 x8 x9 x10 x11 x12 x13 x14 x15 x16 x17 x18 x19 x20 x21 x22 x23 x24 x25 x26 x27 x28 x29 x30 x31 x32 x33 x34 x35 x36 x37 x38 x39 x40 x41 x42 x43 x44 x45 x46 x47 x48 x49 x50 x51 x52 x53 x54 x55 x56 x57 x58 x59 x60 x61 x62 x63 x64 x65 x66 x67 x68 x69 x70 x71 x72 x73 x74 x75 x76 x77 x78 x79 x80 x81 x82 x83 x84 x85 x86 x87 x88 x89 x90 x91 x92 x93 x94 x95 x96 x97 x98 x99 x100 x101 x102 x103 x104 x105 x106 : Value)
    (hK : ∀ (a : Act) (W : World), Code.wp Try.prog (((Try.f3.body.map (tailsOf 14)).getD []).getD 0 .skip) (bodyPost Try.prog Try.f3 fun e w' => e = .returned (.bool true) ∧ Below w.heap.size w w') a W → K a W) :
    Code.wp Try.prog (((Try.f3.body.map (regOf 14)).getD []).getD 0 .skip) (Exit.then K (bodyPost Try.prog Try.f3 fun e w' => e = .returned (.bool true) ∧ Below w.heap.size w w')) ⟨List.toArray (x0 :: (.string dt : Value) :: (.pointer (some ⟨w.heap.size, 0, none⟩) : Value) :: x3 :: x4 :: (.slice p5 S c5 : Value) :: x6 :: (.pointer (some ⟨X, 0, none⟩) : Value) :: x8 :: x9 :: x10 :: x11 :: x12 :: x13 :: x14 :: x15 :: x16 :: x17 :: x18 :: x19 :: x20 :: x21 :: x22 :: x23 :: x24 :: x25 :: x26 :: x27 :: x28 :: x29 :: x30 :: x31 :: x32 :: x33 :: x34 :: x35 :: x36 :: x37 :: x38 :: x39 :: x40 :: x41 :: x42 :: x43 :: x44 :: x45 :: x46 :: x47 :: x48 :: x49 :: x50 :: x51 :: x52 :: x53 :: x54 :: x55 :: x56 :: x57 :: x58 :: x59 :: x60 :: x61 :: x62 :: x63 :: x64 :: x65 :: x66 :: x67 :: x68 :: x69 :: x70 :: x71 :: x72 :: x73 :: x74 :: x75 :: x76 :: x77 :: x78 :: x79 :: x80 :: x81 :: x82 :: x83 :: x84 :: x85 :: x86 :: x87 :: x88 :: x89 :: x90 :: x91 :: x92 :: x93 :: x94 :: x95 :: x96 :: x97 :: x98 :: x99 :: x100 :: x101 :: x102 :: x103 :: x104 :: x105 :: x106 :: []), []⟩ W0 := by
  refine short_reg K w.heap.size X gq oq Q.length qc dc d0 D dt nn (.int .i64 (i0 : Int)) (.bool b1) (.int .i64 (i2 : Int)) (.bool b3) (.bool b4) (.bool b5) (.bool b6) (.bool b7) (.bool b8) (.int .i64 (i9 : Int)) (.slice a0 A.length ac) (.slice u0 U.length uc) w W0 HB HM HG HXW HDN hld hq x0 x3 x4 (.slice p5 S c5) x6 x8 x9 x10 x11 x12 x13 x14 x15 x16 x17 x18 x19 x20 x21 x22 x23 x24 x25 x26 x27 x28 x29 x30 x31 x32 x33 x34 x35 x36 x37 x38 x39 x40 x41 x42 x43 x44 x45 x46 x47 x48 x49 x50 x51 x52 x53 x54 x55 x56 x57 x58 x59 x60 x61 x62 x63 x64 x65 x66 x67 x68 x69 x70 x71 x72 x73 x74 x75 x76 x77 x78 x79 x80 x81 x82 x83 x84 x85 x86 x87 x88 x89 x90 x91 x92 x93 x94 x95 x96 x97 x98 x99 x100 x101 x102 x103 x104 x105 x106 ?_
  intro g8 c8 w9 y61 y62 y63 y64 y65 y66 y67 y68 y69 y70 y71 y72 y73 hb hx hr8
  refine hK _ _ ?_
  have hNN : isN nn = true := by
    rw [← HN.out]
    exact (qOK_parts ((lstOK_parts (msgOK_parts HMS.out).2.2.2.2.2.2.2).1 _ (List.getElem_mem hq))).1
  have hnz : nn.size ≤ 255 := ((isN_iff nn).1 hNN).1
  have hDL : (D ++ [(⟨nn, 731, 1, 0, dt⟩ : Rn)]).length = D.length + 1 := by simp
  have hl9 : LsAt w9 (some ⟨gq, oq, none⟩) a0 u0 (some ⟨g8, 0, none⟩) Q A U (D ++ [(⟨nn, 731, 1, 0, dt⟩ : Rn)]) :=
    ⟨qsAt_below HL.out.q hb, rsAt_below HL.out.a hb, rsAt_below HL.out.u hb, hr8, HL.out.zqs, HL.out.zas, HL.out.zus, fun r hr => by
      rcases List.mem_append.1 hr with h | h
      · exact HL.out.zds r h
      · obtain rfl : r = (⟨nn, 731, 1, 0, dt⟩ : Rn) := by simpa using h
        exact ⟨by show nn.size ≤ maxLen; unfold maxLen; omega, by show dt.size ≤ _; omega⟩⟩
  have hmo := msgOK_more (r := (⟨nn, 731, 1, 0, dt⟩ : Rn)) HMS.out (more_ok hNN (by omega))
  have hsz := packS_more i0 i2 i9 b1 b3 b4 b5 b6 b7 b8 Q A U D dt hq (by rw [HN.out]; exact hNN) (by rw [HN.out]; exact HR.out) (by rw [HSZ.out]; exact hS)
  rw [HN.out, HSZ.out] at hsz
  have hxw : w.heap.size ≤ w9.heap.size := hb.size
  by_cases h6 : D.length + 1 ≤ 65535
  · rw [decide_eq_true h6] at hmo
    have hp := pack_yes i0 i2 i9 b1 b3 b4 b5 b6 b7 b8 (some ⟨gq, oq, none⟩) a0 u0 (some ⟨g8, 0, none⟩) qc ac uc c8 Q A U (D ++ [(⟨nn, 731, 1, 0, dt⟩ : Rn)]) w9 hl9 hmo
    rw [hDL] at hp
    by_cases hbg : 65535 < S + 12 + dt.size
    · refine short_tail w.heap.size X S (D.length + 1) g8 c8 c5 0 12 p5 dt (.int .i64 (i0 : Int)) (.bool b1) (.int .i64 (i2 : Int)) (.bool b3) (.bool b4) (.bool b5) (.bool b6) (.bool b7) (.bool b8) (.int .i64 (i9 : Int)) (.slice (some ⟨gq, oq, none⟩) Q.length qc) (.slice a0 A.length ac) (.slice u0 U.length uc) w w9 (hide' hb) (hide' hxw) (hide' hx) hS hdl (by omega) (by omega) (hide' (hp.mono ?_)) (.inr (.inl ⟨rfl, hbg⟩)) x0 (.pointer (some ⟨w.heap.size, 0, none⟩)) x3 x4 x6 x8 x9 x10 x11 x12 x13 x14 x15 x16 x17 x18 x19 x20 x21 x22 x23 x24 x25 x26 x27 x28 x29 x30 x31 x32 x33 x34 x35 x36 x37 x38 x39 x40 x41 x42 x43 x44 x45 x46 x47 x48 x49 x50 x51 x52 x53 x54 x55 x56 x57 x58 x59 x60 y61 y62 y63 y64 y65 y66 y67 y68 y69 y70 y71 y72 y73 x74 x75 x76 x77 x78 x79 x80 x81 x82 x83 x84 x85 x86 x87 x88 x89 x90 x91 x92 x93 x94 x95 x96 x97 x98 x99 x100 x101 x102 x103 x104 x105 x106
      rintro e w' ⟨h1, h2⟩
      rw [if_pos (by rw [hsz]; exact hbg)] at h1
      exact ⟨⟨none, 0, h1⟩, h2⟩
    · refine short_tail w.heap.size X S (D.length + 1) g8 c8 c5 (S + 12 + dt.size) 0 p5 dt (.int .i64 (i0 : Int)) (.bool b1) (.int .i64 (i2 : Int)) (.bool b3) (.bool b4) (.bool b5) (.bool b6) (.bool b7) (.bool b8) (.int .i64 (i9 : Int)) (.slice (some ⟨gq, oq, none⟩) Q.length qc) (.slice a0 A.length ac) (.slice u0 U.length uc) w w9 (hide' hb) (hide' hxw) (hide' hx) hS hdl (by omega) (by omega) (hide' (hp.mono ?_)) (.inr (.inr ⟨rfl, rfl⟩)) x0 (.pointer (some ⟨w.heap.size, 0, none⟩)) x3 x4 x6 x8 x9 x10 x11 x12 x13 x14 x15 x16 x17 x18 x19 x20 x21 x22 x23 x24 x25 x26 x27 x28 x29 x30 x31 x32 x33 x34 x35 x36 x37 x38 x39 x40 x41 x42 x43 x44 x45 x46 x47 x48 x49 x50 x51 x52 x53 x54 x55 x56 x57 x58 x59 x60 y61 y62 y63 y64 y65 y66 y67 y68 y69 y70 y71 y72 y73 x74 x75 x76 x77 x78 x79 x80 x81 x82 x83 x84 x85 x86 x87 x88 x89 x90 x91 x92 x93 x94 x95 x96 x97 x98 x99 x100 x101 x102 x103 x104 x105 x106
      rintro e w' ⟨h1, h2⟩
      rw [if_neg (by rw [hsz]; exact hbg), hsz] at h1
      obtain ⟨p, c, h3, _⟩ := h1
      exact ⟨⟨p, c, h3⟩, h2⟩
  · rw [decide_eq_false h6] at hmo
    have hp := pack_no (i0 : Int) (i2 : Int) (i9 : Int) b1 b3 b4 b5 b6 b7 b8 (some ⟨gq, oq, none⟩) a0 u0 (some ⟨g8, 0, none⟩) qc ac uc c8 Q A U (D ++ [(⟨nn, 731, 1, 0, dt⟩ : Rn)]) w9 hl9 hmo
    rw [hDL] at hp
    refine short_tail w.heap.size X S (D.length + 1) g8 c8 c5 0 8 p5 dt (.int .i64 (i0 : Int)) (.bool b1) (.int .i64 (i2 : Int)) (.bool b3) (.bool b4) (.bool b5) (.bool b6) (.bool b7) (.bool b8) (.int .i64 (i9 : Int)) (.slice (some ⟨gq, oq, none⟩) Q.length qc) (.slice a0 A.length ac) (.slice u0 U.length uc) w w9 (hide' hb) (hide' hxw) (hide' hx) hS hdl (by omega) (by omega) (hide' (hp.mono ?_)) (.inl ⟨rfl, by omega⟩) x0 (.pointer (some ⟨w.heap.size, 0, none⟩)) x3 x4 x6 x8 x9 x10 x11 x12 x13 x14 x15 x16 x17 x18 x19 x20 x21 x22 x23 x24 x25 x26 x27 x28 x29 x30 x31 x32 x33 x34 x35 x36 x37 x38 x39 x40 x41 x42 x43 x44 x45 x46 x47 x48 x49 x50 x51 x52 x53 x54 x55 x56 x57 x58 x59 x60 y61 y62 y63 y64 y65 y66 y67 y68 y69 y70 y71 y72 y73 x74 x75 x76 x77 x78 x79 x80 x81 x82 x83 x84 x85 x86 x87 x88 x89 x90 x91 x92 x93 x94 x95 x96 x97 x98 x99 x100 x101 x102 x103 x104 x105 x106
    rintro e w' ⟨h1, h2⟩
    exact ⟨⟨none, 0, h1⟩, h2⟩
end Go.Proofs.Ytlkppmpdjpffiaa
