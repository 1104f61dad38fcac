import Derived.Test.YtjnmbgmdkkiidaaGreatPp8
import Derived.Test.YtjnmbgmdkkiidaaGreatTw1
import Derived.Deep.RegionHeld3
/-
  The reference's PackMessage: its questions. (The verifier's own text.)
-/
namespace Go.Proofs.YtjnmbgmdkkiidaaGreat
set_option linter.unusedVariables false
open Go.RowKit Go.Shelf Go.Maps Go.Proofs.YtjnmbgmdkkiidaaGreat.Nm

/-- append of records that lie anywhere -/
theorem wpList_append_recs {ops : Array Oper} {rest : List Oper} {o : Oper} {a : Act} {w : World} {Q : Exit → Act → World → Prop} (hgd : o.guard = none) (s x : Operand) (ho : o.op = .call { callee := .builtin .append, args := #[s, x], argTypes := #[23, 23] })
    (base : Nat) (v : Value) (n : Nat) (xs : List Value) (hs : a.eval s = v) (hown : w.ownsRow base 59 5 v n xs) (p : Option Addr) (L : List Rn) (cap : Nat) (hx : a.eval x = .slice p L.length cap) (hat : RsAt w p L) (hn : p = none → cap = 0) (h63 : n + L.length ≤ 10000000) (hbase : base ≤ w.heap.size)
    (h : ∀ v' w', w'.ownsRow base 59 5 v' (n + L.length) (xs ++ rce5 L) → w.grownBy w' v.ownBlock → wpList Tryz.prog ops Q rest (a.put o.dst v') w') : wpList Tryz.prog ops Q (o :: rest) a w := by
  obtain ⟨i0, hi, hz0, hz1, hz2⟩ := info_parts infoR
  cases p with
  | none =>
    obtain rfl : L = [] := by
      cases L with
      | nil => rfl
      | cons y l => obtain ⟨g, off, hp, _⟩ := hat 0 (by simp); cases hp
    obtain rfl := hn rfl
    refine wpList_append_own_none hgd s x 23 ho base 59 i0 5 Tryz.underlying23 hi v n xs hs hown hx ?_
    exact h v w (by simpa [rce5] using hown) ⟨rfl, rfl, rfl, Nat.le_refl _, fun _ _ _ => rfl⟩
  | some ad =>
    refine wpList_append_own _ hgd s x 23 ho base 59 i0 (.agg #[.string .empty, .int .i64 0, .int .i64 0, .int .i64 0, .string .empty]) 5 56 Tryz.underlying23 hi hz0 hz1 hz2 rfl (by decide) v n xs hs hown ad L.length cap (rce5 L) hx (rce5_len L) (fun j u => rs_news hat j u) (rce5_one L) (by unfold maxLen; omega) (by omega) hbase ?_
    intro v' w' h1 h2 _
    exact h v' w' h1 h2
theorem rsS_own {w : World} {b n c : Nat} {p : Option Addr} {L : List Rn} {S : Nat → Prop} (h : w.ownsRow b 59 5 (.slice p n c) n (rce5 L)) (hn : n = L.length) (hS : ∀ k, S k → k < b) : RsS w S p L := fun k hk => by
  rcases id h.2 with ⟨h1, h0⟩ | ⟨g, cap, cur, h1, _⟩
  · omega
  · injection h1 with h1 _ h3
    subst h1
    obtain ⟨rest, h4, h5⟩ := rb_own h
    obtain ⟨e0, e1, e2, e3, e4⟩ := h4.cells hk
    exact ⟨g, 0, rfl, h4.lt, fun e => by have := hS g e; omega, by simpa using e0, by simpa using e1, by simpa using e2, by simpa using e3, by simpa using e4⟩

theorem put_fq {w4 W : World} {P base : Nat} {t1 t2 t3 : Value} {s : PS} {tx : ByteArray} (h : Pp W P base t1 t2 t3 s) (hf : Fq w4 W (own3 P t1 t2 t3) (own3 P t1 t2 t3)) (hz : s.out.size ≤ 1099511627776) (ht : tx.size ≤ 1048576) :
    Calls Tryz.prog 20 #[.pointer (some ⟨P, 0, none⟩), .string tx] W fun e w' => e = .returned (.tuple #[]) ∧ ∃ t4 t5 t6, Pp w' P base t4 t5 t6 ⟨s.out ++ tx, s.tab⟩ ∧ Fq w4 w' (own3 P t1 t2 t3) (own3 P t4 t5 t6) := by
  refine (pput_any P base t1 t2 t3 s tx W h hz ht).mono ?_
  rintro e w5 ⟨rfl, t4, t5, t6, r1, r2⟩
  exact ⟨rfl, t4, t5, t6, r1, hf.trans r2⟩
set_option maxRecDepth 100000 in
set_option maxHeartbeats 8000000 in
theorem pm_ques (i0 i2 i9 : Int) (b1 b3 b4 b5 b6 b7 b8 : Bool) (q0 a0 u0 d0 : Option Addr) (qc ac uc dc : Nat) (Q : List Qn) (A U D : List Rn) (P B : Nat) (u1 u2 u3 : Value) (s : PS) (w w0 : World) (HL : Hid (LsAt w q0 a0 u0 d0 Q A U D)) (HN : Hid ((a0 = none → ac = 0) ∧ (u0 = none → uc = 0) ∧ (d0 = none → dc = 0))) (HM : Hid (lstOK Q A U D = true)) (HLN : Hid (Q.length ≤ 65535 ∧ A.length ≤ 65535 ∧ U.length ≤ 65535 ∧ D.length ≤ 65535)) (HP : Hid (Pp w0 P w.heap.size u1 u2 u3 s)) (HB : Hid (Below w.heap.size w w0)) (HX : Hid (Bx w0 B #[.int .i64 i0, .bool b1, .int .i64 i2, .bool b3, .bool b4, .bool b5, .bool b6, .bool b7, .bool b8, .int .i64 i9, .slice q0 Q.length qc, .slice a0 A.length ac, .slice u0 U.length uc, .slice d0 D.length dc] 25)) (HNB : Hid (¬ own3 P u1 u2 u3 B)) (HOK : Hid (POk s)) (hs : s.out.size ≤ 12) (x0 x2 x3 x5 x6 x7 x8 x9 x10 x11 x12 x13 x14 x15 x16 x17 x18 x19 x20 x21 x22 x23 x24 x25 x26 x27 x28 x29 x30 x31 x32 x33 x34 x35 x36 x37 x38 x39 x40 x41 x42 x43 x44 x45 x46 x47 x48 x49 x50 x51 x52 x53 x54 x55 x56 x57 x58 x59 x60 x61 x62 x63 x64 x65 x66 x67 x68 x69 x70 x71 x72 x73 x74 x75 x76 x77 x78 x79 x80 x81 x82 x83 x84 x85 x86 x87 x88 x89 x90 x91 x92 x93 x94 x95 x96 x97 x98 x99 x100 x101 x102 x103 x104 x105 x106 x107 x108 x109 x110 x111 x112 x113 x114 x115 x116 x117 x118 x119 x120 x121 x122 x123 x124 x125 x126 x127 x128 x129 x130 x131 x132 x133 x134 x135 x136 : Value) :
    Code.wp Tryz.prog (((Tryz.f7.body.map (tailsN 5)).getD []).getD 0 .skip) (bodyPost Tryz.prog Tryz.f7 (packE (runR 65535 (A ++ U ++ D) (quesL Q s) 0).1 w)) ⟨List.toArray (x0 :: (.pointer (some ⟨B, 0, none⟩) : Value) :: x2 :: x3 :: (.pointer (some ⟨P, 0, none⟩) : Value) :: x5 :: x6 :: x7 :: x8 :: x9 :: x10 :: x11 :: x12 :: x13 :: x14 :: x15 :: x16 :: x17 :: x18 :: x19 :: x20 :: x21 :: x22 :: x23 :: x24 :: x25 :: x26 :: x27 :: x28 :: x29 :: x30 :: x31 :: x32 :: x33 :: x34 :: x35 :: x36 :: x37 :: x38 :: x39 :: x40 :: x41 :: x42 :: x43 :: x44 :: x45 :: x46 :: x47 :: x48 :: x49 :: x50 :: x51 :: x52 :: x53 :: x54 :: x55 :: x56 :: x57 :: x58 :: x59 :: x60 :: x61 :: x62 :: x63 :: x64 :: x65 :: x66 :: x67 :: x68 :: x69 :: x70 :: x71 :: x72 :: x73 :: x74 :: x75 :: x76 :: x77 :: x78 :: x79 :: x80 :: x81 :: x82 :: x83 :: x84 :: x85 :: x86 :: x87 :: x88 :: x89 :: x90 :: x91 :: x92 :: x93 :: x94 :: x95 :: x96 :: x97 :: x98 :: x99 :: x100 :: x101 :: x102 :: x103 :: x104 :: x105 :: x106 :: x107 :: x108 :: x109 :: x110 :: x111 :: x112 :: x113 :: x114 :: x115 :: x116 :: x117 :: x118 :: x119 :: x120 :: x121 :: x122 :: x123 :: x124 :: x125 :: x126 :: x127 :: x128 :: x129 :: x130 :: x131 :: x132 :: x133 :: x134 :: x135 :: x136 :: []), []⟩ w0 := by
  have hLN := HLN.out
  have m10 := HX.out.cell (j := 10) rfl
  conv => arg 2; whnf
  go_wp2_with fail
  go_loopw [81] (fun iv wr => ∃ (k : Nat) (sk : PS) (a1 a2 a3 : Value), iv = .int .i64 (k : Int) ∧ k ≤ Q.length ∧ Hid (quesL Q s = quesL (Q.drop k) sk) ∧ Hid (Pp wr P w.heap.size a1 a2 a3 sk) ∧ Hid (Below w.heap.size w wr) ∧ Hid (Bx wr B #[.int .i64 i0, .bool b1, .int .i64 i2, .bool b3, .bool b4, .bool b5, .bool b6, .bool b7, .bool b8, .int .i64 i9, .slice q0 Q.length qc, .slice a0 A.length ac, .slice u0 U.length uc, .slice d0 D.length dc] 25) ∧ Hid (¬ own3 P a1 a2 a3 B) ∧ Hid (POk sk) ∧ sk.out.size ≤ 12 + k * 300) (fun iv _ => Q.length - (intOf iv).toNat)
  case atStart => exact ⟨0, s, u1, u2, u3, rfl, Nat.zero_le _, by rw [List.drop_zero]; exact rfl, HP, HB, HX, HNB, HOK, by omega⟩
  case round =>
    obtain ⟨k, sk, a1, a2, a3, rfl, hk, HE, H, HBr, HXr, HNr, HO, hsk⟩ := hrel
    by_cases hlt : k < Q.length
    · obtain ⟨g, off, rfl, hg, e0, e1, e2⟩ := (HL.out.below HBr.out).q k hlt
      have hdrop : Q.drop k = Q[k] :: Q.drop (k + 1) := List.drop_eq_getElem_cons hlt
      have hr := (lstOK_parts HM.out).1 _ (List.getElem_mem hlt)
      obtain ⟨y, hy⟩ : ∃ y, Q[k] = y := ⟨_, rfl⟩
      rw [hy] at e0 e1 e2 hr hdrop
      obtain ⟨yn, yt', yc'⟩ := y
      obtain ⟨ho, ⟨yt, h1, htt⟩, ⟨yc, h2, hcc⟩⟩ := qOK_parts hr
      simp only at e0 e1 e2 ho h1 h2
      subst h1; subst h2
      rw [hdrop] at HE
      clear hdrop hy hr
      have hbk : k * 300 ≤ 65535 * 300 := by omega
      have HS := hide' (name_size ho sk)
      have HO1 := hide' (name_pok ho HO.out)
      have hny := ((isN_iff yn).1 ho).1
      have had : ∀ W : World, (Op.stringOp .add (numB yt 2) (numB yc 2)).run Tryz.prog W = .ok (.string (numB yt 2 ++ numB yc 2)) W := fun W => run_string_add_sum W _ _ (by rw [numB_size, numB_size]; decide)
      have HNF : Hid (Bx (wr.alloc (.cells #[.string yn, .int .i64 (yt : Int), .int .i64 (yc : Int)] 57)) wr.heap.size #[.string yn, .int .i64 (yt : Int), .int .i64 (yc : Int)] 57 ∧ ¬ own3 P a1 a2 a3 wr.heap.size) := ⟨World.alloc_heap_new wr _, fun e => by have := H.out.1.hi _ e; omega⟩
      have HXA := hide' (HXr.out.grown (World.grownBy_alloc wr (.cells #[.string yn, .int .i64 (yt : Int), .int .i64 (yc : Int)] 57) none) (by simp))
      have HQE : Hid (quesL (⟨yn, (yt : Int), (yc : Int)⟩ :: Q.drop (k + 1)) sk = quesL (Q.drop (k + 1)) ⟨(nameL (labs yn) sk).out ++ (numB yt 2 ++ numB yc 2), (nameL (labs yn) sk).tab⟩) := by
        unfold Hid quesL
        rw [List.foldl_cons]
        congr 1
        show quesP yn yt yc sk = _
        unfold quesP
        rw [ByteArray.append_assoc]
      have T1 : Hid True := trivial
      go_wp2_with (go_at_call 22; refine (rname_any P w.heap.size a1 a2 a3 sk yn _ ⟨H.out.1.alloc _, H.out.2⟩ ho HO.out.1 (by have := HO.out.2; omega) (by omega)).mono ?_; rintro e w5 ⟨rfl, t1, t2, t3, r1, r2⟩; have HP5 := hide' r1; have HF5 := hide' ((Fq.none (World.grownBy_alloc wr (.cells #[.string yn, .int .i64 (yt : Int), .int .i64 (yc : Int)] 57) Option.none) (own3 P a1 a2 a3)).trans r2); have HX5 := hide' (r2.bx HNF.out.1 HNF.out.2); have HM5 := hide' (r2.bx HXA.out HNr.out); have z1 := HX5.out.1.cell (j := 1) rfl; have z2 := HX5.out.1.cell (j := 2) rfl; clear r1 r2)
      go_region_held3 (fun W => W.cell? ⟨wr.heap.size, 1, none⟩ = some (.int .i64 (yt : Int)) ∧ W.cell? ⟨wr.heap.size, 2, none⟩ = some (.int .i64 (yc : Int))) (first | go_keep | exact ⟨HX8.out.1.cell rfl, HX8.out.1.cell rfl⟩ | exact ⟨HX7.out.1.cell rfl, HX7.out.1.cell rfl⟩ | exact ⟨HX6.out.1.cell rfl, HX6.out.1.cell rfl⟩ | exact ⟨HX5.out.1.cell rfl, HX5.out.1.cell rfl⟩) (first
        | (go_at_call 21; have _ := T1; clear T1; refine (refNumber_any 2 yt _ (by omega) (by omega)).mono ?_; rintro e w6 ⟨rfl, hB⟩; have F56 : Hid (Fq w5 w6 (own3 P t1 t2 t3) (own3 P t1 t2 t3)) := (by first | exact Fq.of hB _ | exact (Fq.drew w5 _).trans (Fq.of hB _)); have HP6 : Hid (Pp w6 P w.heap.size t1 t2 t3 (nameL (labs yn) sk)) := (by first | exact HP5.out.below hB | exact HP5.out.drew.below hB); have HF6 := hide' (HF5.out.trans F56.out); have HX6 := hide' (F56.out.bx HX5.out.1 HX5.out.2); have HM6 := hide' (F56.out.bx HM5.out.1 HM5.out.2); clear hB; have T2 : Hid True := trivial)
        | (go_at_call 21; have _ := T2; clear T2; refine (refNumber_any 2 yc _ (by omega) (by omega)).mono ?_; rintro e w7 ⟨rfl, hB⟩; have F67 : Hid (Fq w6 w7 (own3 P t1 t2 t3) (own3 P t1 t2 t3)) := (by first | exact Fq.of hB _ | exact (Fq.drew w6 _).trans (Fq.of hB _)); have HP7 : Hid (Pp w7 P w.heap.size t1 t2 t3 (nameL (labs yn) sk)) := (by first | exact HP6.out.below hB | exact HP6.out.drew.below hB); have HF7 := hide' (HF6.out.trans F67.out); have HX7 := hide' (F67.out.bx HX6.out.1 HX6.out.2); have HM7 := hide' (F67.out.bx HM6.out.1 HM6.out.2); clear hB)
        | (go_at_call 20; refine Calls.mono (show Calls Tryz.prog 20 _ _ (fun e w' => e = .returned (.tuple #[]) ∧ ∃ t4 t5 t6, Pp w' P w.heap.size t4 t5 t6 ⟨(nameL (labs yn) sk).out ++ (numB yt 2 ++ numB yc 2), (nameL (labs yn) sk).tab⟩ ∧ Fq w7 w' (own3 P t1 t2 t3) (own3 P t4 t5 t6)) by first | exact put_fq HP7.out (Fq.refl _ _) (by have := HS.out; omega) (by rw [ByteArray.size_append, numB_size, numB_size]; omega) | exact put_fq HP7.out.drew (Fq.drew _ _) (by have := HS.out; omega) (by rw [ByteArray.size_append, numB_size, numB_size]; omega)) ?_; rintro e w8 ⟨rfl, t4, t5, t6, r1, r2⟩; have HP8 := hide' r1; have HF8 := hide' (HF7.out.trans r2); have HX8 := hide' (r2.bx HX7.out.1 HX7.out.2); have HM8 := hide' (r2.bx HM7.out.1 HM7.out.2); clear r1 r2))
      all_goals
        have HB8 := hide' (HBr.out.trans (HF8.out.below HBr.out.size H.out.1.low))
        have hz8 : ((nameL (labs yn) sk).out ++ (numB yt 2 ++ numB yc 2)).size = (nameL (labs yn) sk).out.size + 4 := by rw [ByteArray.size_append, ByteArray.size_append, numB_size, numB_size]
        go_wp2_with fail
        go_roundw
        case rel =>
          first
            | exact ⟨k + 1, _, t4, t5, t6, by go_num, by omega, HE.out.trans HQE.out, HP8, HB8, HM8.out.1, HM8.out.2, HO1.out.more _, by show ((nameL (labs yn) sk).out ++ (numB yt 2 ++ numB yc 2)).size ≤ _; rw [hz8]; have := HS.out; omega⟩
            | exact ⟨k + 1, _, t4, t5, t6, by go_num, by omega, HE.out.trans HQE.out, HP8.out.drew, HB8.out.drew, HM8.out.1, HM8.out.2, HO1.out.more _, by show ((nameL (labs yn) sk).out ++ (numB yt 2 ++ numB yc 2)).size ≤ _; rw [hz8]; have := HS.out; omega⟩
        case measure => simp [intOf]; omega
    · obtain rfl : k = Q.length := by omega
      have HV : Hid (quesL Q s = sk) := by
        unfold Hid
        rw [HE.out, List.drop_length]
        rfl
      have m11 := HXr.out.cell (j := 11) rfl
      have T1 : Hid True := trivial
      have HRW : Hid (∀ r ∈ A ++ U ++ D, rOK r = true) := by
        obtain ⟨_, oa, ou, od⟩ := lstOK_parts HM.out
        intro r hr
        rcases List.mem_append.1 hr with h | h
        · rcases List.mem_append.1 h with h | h
          · exact oa r h
          · exact ou r h
        · exact od r h
      go_upto_region 15 with (first
        | (at_builtin; have _ := T1; clear T1; refine wpList_append_recs rfl _ _ rfl wr.heap.size (.slice none 0 0) 0 [] rfl (World.ownsRow_nil _ _ _ _) a0 A ac rfl (HL.out.below HBr.out).a HN.out.1 (by omega) (Nat.le_refl _) ?_; intro v1 w1 ho1 hg1; rw [Nat.zero_add, List.nil_append] at ho1; have HO1 := hide' ho1; have HG1 := hide' (show Below wr.heap.size wr w1 from (Below.refl _ wr).grown hg1 (Nat.le_refl _) (fun q e => by cases e)); have HX1 := hide' (HXr.out.below HG1.out HXr.out.lt); have m12 := HX1.out.cell (j := 12) rfl; clear ho1 hg1; have T2 : Hid True := trivial)
        | (at_builtin; have _ := T2; clear T2; refine wpList_append_recs rfl _ _ rfl wr.heap.size v1 A.length (rce5 A) rfl HO1.out u0 U uc rfl (HL.out.below (bstep HBr.out HG1.out HBr.out.size)).u HN.out.2.1 (by omega) HG1.out.size ?_; intro v2 w2 ho2 hg2; have HO2 := hide' ho2; have HG2 := hide' (HG1.out.grown hg2 HG1.out.size (fun q e => (HO1.out.lt q e).1)); have HX2 := hide' (HXr.out.below HG2.out HXr.out.lt); have m13 := HX2.out.cell (j := 13) rfl; clear ho2 hg2; have T3 : Hid True := trivial))
      rename_i K hK
      have HK := hide' hK
      clear hK
      go_wp2_with (at_builtin; have _ := T3; clear T3; refine wpList_append_recs rfl _ _ rfl wr.heap.size v2 (A.length + U.length) (rce5 A ++ rce5 U) rfl HO2.out d0 D dc rfl (HL.out.below (bstep HBr.out HG2.out HBr.out.size)).d HN.out.2.2 (by omega) HG2.out.size ?_; intro v3 w3 ho3 hg3; have HO3 := hide' ho3; have HG3 := hide' (HG2.out.grown hg3 HG2.out.size (fun q e => (HO2.out.lt q e).1)); obtain ⟨p3, c3, rfl, _⟩ := own_shape ho3; clear ho3 hg3)
      refine HK.out _ _ ?_
      have hlen : A.length + U.length + D.length = (A ++ U ++ D).length := by simp [Nat.add_assoc]
      have ho := HO3.out
      rw [← rce5_app, ← rce5_app] at ho
      rw [HV.out, hlen]
      rw [hlen] at ho
      exact pm_recs P a1 a2 a3 sk (A ++ U ++ D) p3 c3 w w3 (H.out.below HG3.out) (bstep HBr.out HG3.out HBr.out.size) (rsS_own ho rfl H.out.1.hi) HO HRW (by omega) (by rw [← hlen]; omega) _ _ _ _ _ _ _ _ _ _ _ _ _ _ _ _ _ _ _ _ _ _ _ _ _ _ _ _ _ _ _ _ _ _ _ _ _ _ _ _ _ _ _ _ _ _ _ _ _ _ _ _ _ _ _ _ _ _ _ _ _ _ _ _ _ _ _ _ _ _ _ _ _ _ _ _ _ _ _ _ _ _ _ _ _ _ _ _ _ _ _ _ _ _ _ _ _ _ _ _ _ _ _ _ _ _ _ _ _ _ _ _ _ _ _ _ _ _ _ _ _ _ _ _ _ _ _ _ _ _ _ _ _ _ _
end Go.Proofs.YtjnmbgmdkkiidaaGreat
