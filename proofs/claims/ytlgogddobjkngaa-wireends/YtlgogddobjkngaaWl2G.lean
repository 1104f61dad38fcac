import Derived.Test.YtlgogddobjkngaaWl0G
namespace Go.Proofs.Ytlgogddobjkngaa
set_option linter.unusedVariables false
open Go.RowKit Go.Shelf Go.Maps Go.Proofs.Ytlgogddobjkngaa.Nm

/-- b[:k:k] -/
theorem run_cut (p : Option Addr) (len cap k : Nat) (hk : k ≤ cap) (W : World) : (Instr.slice 26 (.slice p len cap) none (some (.int .i64 (k : Int))) (some (.int .i64 (k : Int)))).run Try.prog W = .ok (.slice p k k) W := by
  have ht' : Try.prog.underlying 26 = some (.slice (Try.prog.elem 26)) := by simp [Program.elem, Try.underlying26]
  have he' : Try.prog.elem 26 = 5 := by simp [Program.elem, Try.underlying26]
  rw [run_slice_hm W _ _ _ _ ht' .i64 .i64 _ _ (by omega) (by omega) (by omega), he', Try.sizeOf5]
  cases p with
  | none => simp [Result.andThen, sliced]
  | some ad => simp [Result.andThen, sliced, Addr.add]
theorem byAt_cut {w : World} {p : Option Addr} {B : ByteArray} (h : ByAt w p B) {k : Nat} (hk : k ≤ B.size) : ByAt w p (B.extract 0 k) := fun h0 => by
  have hz := cut_size hk
  obtain ⟨b, o, h1, h2, h3⟩ := h (by omega)
  refine ⟨b, o, h1, h2, fun i hi => ?_⟩
  have hi' : i < B.size := by omega
  have e : (B.extract 0 k)[i] = B[i] := by rw [ByteArray.getElem_extract]; congr 1; omega
  rw [h3 i hi', e]
/-- 'append(s, x...)' of bytes, x not empty -/
theorem wpList_append_bb {ops : Array Oper} {rest : List Oper} {o : Oper} {a : Act} {Q : Exit → Act → World → Prop} (w : World) (hgd : o.guard = none) (s x : Operand) (ho : o.op = .call { callee := .builtin .append, args := #[s, x], argTypes := #[26, 26] }) (base : Nat) (v : Value) (B X : ByteArray) (p : Option Addr) (c : Nat)
    (hs : a.eval s = v) (hown : w.ownsRow base 5 1 v B.size (Go.Lib.strCells B)) (hx : a.eval x = .slice p X.size c) (hat : ByAt w p X) (h0 : 0 < X.size) (hsm : B.size + X.size ≤ 65535) (hbase : base ≤ w.heap.size)
    (h : ∀ v' w', w'.ownsRow base 5 1 v' (B ++ X).size (Go.Lib.strCells (B ++ X)) → w.grownBy w' v.ownBlock → wpList Try.prog ops Q rest (a.put o.dst v') w') : wpList Try.prog ops Q (o :: rest) a w := by
  obtain ⟨i0, hi, hz0, hz1, hz2⟩ := info_parts Try.infoU8
  obtain ⟨b, oo, rfl, hb, hB⟩ := hat h0
  have hcat : Go.Lib.strCells (B ++ X) = Go.Lib.strCells B ++ Go.Lib.strCells X := by simp [Go.Lib.strCells]
  refine wpList_append_own w hgd s x 26 ho base 5 i0 (.int .u8 0) 1 1 Try.underlying26 hi hz0 hz1 hz2 rfl (by decide) v B.size (Go.Lib.strCells B) hs hown ⟨b, oo, none⟩ X.size c (Go.Lib.strCells X) hx (by rw [Go.Lib.strCells_length]; omega) ?_ (strCells_one X) (by unfold maxLen; omega) (by omega) hbase (fun v' w' h1 h2 _ => h v' w' (by rw [hcat, ByteArray.size_append]; exact h1) h2)
  have := Bytes_win hB (k := 0) (n := X.size) (by omega)
  simpa using this
set_option maxRecDepth 100000 in
/-- gazetteersame.Messages, of two that are empty -/
theorem sameNone (w : World) : Calls Try.prog 9 #[.agg #[.int .i64 0, .bool false, .int .i64 0, .bool false, .bool false, .bool false, .bool false, .bool false, .bool false, .int .i64 0, .slice none 0 0, .slice none 0 0, .slice none 0 0, .slice none 0 0], .agg #[.int .i64 0, .bool false, .int .i64 0, .bool false, .bool false, .bool false, .bool false, .bool false, .bool false, .int .i64 0, .slice none 0 0, .slice none 0 0, .slice none 0 0, .slice none 0 0]] w fun e w' => e = .returned (.bool true) ∧ Below w.heap.size w w' :=
  sameMessages2 0 0 0 false false false false false false false none none none none none none none none 0 0 0 0 0 0 0 0 ⟨[], [], [], []⟩ w ⟨fun k hk => absurd hk (Nat.not_lt_zero _), fun k hk => absurd hk (Nat.not_lt_zero _), fun k hk => absurd hk (Nat.not_lt_zero _), fun k hk => absurd hk (Nat.not_lt_zero _)⟩ ⟨fun k hk => absurd hk (Nat.not_lt_zero _), fun k hk => absurd hk (Nat.not_lt_zero _), fun k hk => absurd hk (Nat.not_lt_zero _), fun k hk => absurd hk (Nat.not_lt_zero _)⟩ ⟨Nat.zero_le _, Nat.zero_le _, Nat.zero_le _, Nat.zero_le _⟩
/-- a message that is cut -/
theorem unpack_cut {B : ByteArray} {ls : Ls} (hu : upk B = .ok ls) {k : Nat} (hk : k < B.size) (p : Option Addr) (w : World) (hp : ByAt w p B) :
    Calls Try.prog 7 #[.slice p k k] w fun e w' => ∃ at_ : Nat, e = .returned (.tuple #[.agg #[.int .i64 0, .bool false, .int .i64 0, .bool false, .bool false, .bool false, .bool false, .bool false, .bool false, .int .i64 0, .slice none 0 0, .slice none 0 0, .slice none 0 0, .slice none 0 0], .int .i64 (at_ : Int), .int .i64 10]) ∧ Below w.heap.size w w' := by
  obtain ⟨q, hq⟩ := upk_cut hu hk
  have hz := cut_size (show k ≤ B.size by omega)
  have hB := (upk_ok hu).1
  have := unpack_bad hq p k w (by omega) (by omega) (byAt_cut hp (by omega))
  rw [hz] at this
  exact this.mono fun e w' h => ⟨q, h⟩
/-- a message with something behind it -/
theorem unpack_more {B X : ByteArray} {ls : Ls} (hu : upk B = .ok ls) (hx : 0 < X.size) (hm : B.size + X.size ≤ 65535) (p : Option Addr) (cap : Nat) (w : World) (hc : (B ++ X).size ≤ cap) (hp : ByAt w p (B ++ X)) :
    Calls Try.prog 7 #[.slice p (B.size + X.size) cap] w fun e w' => e = .returned (.tuple #[.agg #[.int .i64 0, .bool false, .int .i64 0, .bool false, .bool false, .bool false, .bool false, .bool false, .bool false, .int .i64 0, .slice none 0 0, .slice none 0 0, .slice none 0 0, .slice none 0 0], .int .i64 (B.size : Int), .int .i64 11]) ∧ Below w.heap.size w w' := by
  have := unpack_bad (upk_ext hu hx hm) p cap w (by rw [ByteArray.size_append]; omega) hc hp
  rw [ByteArray.size_append] at this
  exact this

theorem own_cap {w : World} {b e s n c : Nat} {p : Option Addr} {xs : List Value} (h : w.ownsRow b e s (.slice p n c) n xs) : n ≤ c := by
  obtain ⟨_, _, hv, hv2, _⟩ := own_shape h
  injection hv with _ _ hv3
  omega
theorem below_none {w w' : World} (h : w.grownBy w' (Value.slice none 0 0).ownBlock) : Below w.heap.size w w' := ⟨h.os, h.tape, h.output, h.size, fun k hk => h.block k hk (fun e => by cases e)⟩
theorem sP_pos {B : ByteArray} {ls : Ls} {n : Nat} (h : upk B = .ok ls) (hn : B.size = n) : 0 < n := by
  have := (upk_ok h).2.1
  omega
/-- what grows is new -/
theorem below_own {w w4 w5 w6 w7 : World} {e s n : Nat} {v : Value} {xs : List Value} (h5 : Below w.heap.size w w5) (h6 : Below w5.heap.size w5 w6) (ho : w6.ownsRow w4.heap.size e s v n xs) (h45 : w.heap.size ≤ w4.heap.size) (hg : w6.grownBy w7 v.ownBlock) : Below w.heap.size w w7 := by
  have h6' : Below w.heap.size w w6 := bstep h5 h6 h5.size
  have h7 : Below w.heap.size w6 w7 := ⟨hg.os, hg.tape, hg.output, hg.size, fun k hk => hg.block k (Nat.lt_of_lt_of_le hk h6'.size) (fun e => by have := (ho.lt k e.symm).1; omega)⟩
  exact ⟨h7.os.trans h6'.os, h7.tape.trans h6'.tape, h7.output.trans h6'.output, Nat.le_trans h6'.size h7.size, fun k hk => (h7.block k hk).trans (h6'.block k hk)⟩
theorem below_al {w w' : World} (h : Below w.heap.size w w') (o : Obj) : Below w.heap.size w (w'.alloc o) := h.alloc h.size o
theorem ByAt.al {w : World} {p : Option Addr} {B : ByteArray} (h : ByAt w p B) (o : Obj) : ByAt (w.alloc o) p B := h.below ((Below.refl _ w).alloc (Nat.le_refl _) o)
set_option maxRecDepth 5000000 in
set_option maxHeartbeats 4000000 in
theorem wireEnds_no (i0 i2 i9 : Int) (b1 b3 b4 b5 b6 b7 b8 : Bool) (q0 a0 u0 d0 : Option Addr) (qc ac uc dc : Nat) (Q : List Qn) (A U D : List Rn) (cut : Int) (p : Option Addr) (cap : Nat) (X : ByteArray) (w : World) (hl : LsAt w q0 a0 u0 d0 Q A U D) (hS : X.size ≤ 140737488351232) (hc : X.size ≤ cap) (hp : ByAt w p X) (hm : msgOK i0 i2 i9 Q A U D = false) :
    Calls Try.prog 4 #[.agg #[.int .i64 i0, .bool b1, .int .i64 i2, .bool b3, .bool b4, .bool b5, .bool b6, .bool b7, .bool b8, .int .i64 i9, .slice q0 Q.length qc, .slice a0 A.length ac, .slice u0 U.length uc, .slice d0 D.length dc], .int .i64 cut, .slice p X.size cap] w fun e w' => e = .returned (.bool true) ∧ Below w.heap.size w w' := by
  have HX : Hid (Bx (w.alloc (.cells #[.int .i64 i0, .bool b1, .int .i64 i2, .bool b3, .bool b4, .bool b5, .bool b6, .bool b7, .bool b8, .int .i64 i9, .slice q0 Q.length qc, .slice a0 A.length ac, .slice u0 U.length uc, .slice d0 D.length dc] 25)) w.heap.size #[.int .i64 i0, .bool b1, .int .i64 i2, .bool b3, .bool b4, .bool b5, .bool b6, .bool b7, .bool b8, .int .i64 i9, .slice q0 Q.length qc, .slice a0 A.length ac, .slice u0 U.length uc, .slice d0 D.length dc] 25) := World.alloc_heap_new w _
  have HB := hide' ((Below.refl w.heap.size w).alloc (Nat.le_refl _) (.cells #[.int .i64 i0, .bool b1, .int .i64 i2, .bool b3, .bool b4, .bool b5, .bool b6, .bool b7, .bool b8, .int .i64 i9, .slice q0 Q.length qc, .slice a0 A.length ac, .slice u0 U.length uc, .slice d0 D.length dc] 25))
  have HW := hide' hl
  have HPB := hide' hp
  have T1 : Hid True := trivial
  clear hl hp
  go_enter Try.func4, Try.ntmps4
  go_wp2_with (first
    | (go_at_call 6; refine (question_any _).mono ?_; rintro e w1 ⟨g1, rfl, hL1, hB1⟩; have L1 := hide' hL1; have HB1 := hide' (bstep HB.out hB1 HB.out.size); have HX1 : Hid (Bx w1 w.heap.size #[.int .i64 i0, .bool b1, .int .i64 i2, .bool b3, .bool b4, .bool b5, .bool b6, .bool b7, .bool b8, .int .i64 i9, .slice q0 Q.length qc, .slice a0 A.length ac, .slice u0 U.length uc, .slice d0 D.length dc] 25) := HX.out.below hB1 HX.out.lt; clear hL1 hB1)
    | (go_at_call 5; have _ := T1; clear T1; refine (pack_yes 7 0 0 false false false true false false false (some ⟨g1, 0, none⟩) none none none 1 0 0 0 [exQ] [] [] [] _ L1.out exMsg).mono ?_; rintro e w2 ⟨h2', hB2⟩; rw [if_neg (by rw [exPack]; decide), exPack] at h2'; obtain ⟨p2, c2, rfl, hO2⟩ := h2'; have HB2 := hide' (bstep HB1.out hB2 HB1.out.size); have HX2 : Hid (Bx w2 w.heap.size #[.int .i64 i0, .bool b1, .int .i64 i2, .bool b3, .bool b4, .bool b5, .bool b6, .bool b7, .bool b8, .int .i64 i9, .slice q0 Q.length qc, .slice a0 A.length ac, .slice u0 U.length uc, .slice d0 D.length dc] 25) := HX1.out.below hB2 HX1.out.lt; obtain ⟨m0, m1, m2, m3, m4, m5, m6, m7, m8, m9, m10, m11, m12, m13⟩ := bx14 HX2.out; clear hB2 hO2)
    | (go_at_call 5; refine (pack_no i0 i2 i9 b1 b3 b4 b5 b6 b7 b8 q0 a0 u0 d0 qc ac uc dc Q A U D _ (HW.out.below HB2.out) hm).mono ?_; rintro e w3 ⟨rfl, hB3⟩; have HBf := hide' (bstep HB2.out hB3 HB2.out.size); clear hB3))
  go_ret
  exact ⟨rfl, HBf.out⟩
set_option maxRecDepth 5000000 in
set_option maxHeartbeats 4000000 in
theorem wireEnds_large (i0 i2 i9 : Nat) (b1 b3 b4 b5 b6 b7 b8 : Bool) (q0 a0 u0 d0 : Option Addr) (qc ac uc dc : Nat) (Q : List Qn) (A U D : List Rn) (cut : Int) (p : Option Addr) (cap : Nat) (X : ByteArray) (w : World) (hl : LsAt w q0 a0 u0 d0 Q A U D) (hS : X.size ≤ 140737488351232) (hc : X.size ≤ cap) (hp : ByAt w p X) (hm : msgOK i0 i2 i9 Q A U D = true) (hbig : 65535 < (packS i0 i2 i9 b1 b3 b4 b5 b6 b7 b8 Q A U D).out.size) :
    Calls Try.prog 4 #[.agg #[.int .i64 (i0 : Int), .bool b1, .int .i64 (i2 : Int), .bool b3, .bool b4, .bool b5, .bool b6, .bool b7, .bool b8, .int .i64 (i9 : Int), .slice q0 Q.length qc, .slice a0 A.length ac, .slice u0 U.length uc, .slice d0 D.length dc], .int .i64 cut, .slice p X.size cap] w fun e w' => e = .returned (.bool true) ∧ Below w.heap.size w w' := by
  have HX : Hid (Bx (w.alloc (.cells #[.int .i64 (i0 : Int), .bool b1, .int .i64 (i2 : Int), .bool b3, .bool b4, .bool b5, .bool b6, .bool b7, .bool b8, .int .i64 (i9 : Int), .slice q0 Q.length qc, .slice a0 A.length ac, .slice u0 U.length uc, .slice d0 D.length dc] 25)) w.heap.size #[.int .i64 (i0 : Int), .bool b1, .int .i64 (i2 : Int), .bool b3, .bool b4, .bool b5, .bool b6, .bool b7, .bool b8, .int .i64 (i9 : Int), .slice q0 Q.length qc, .slice a0 A.length ac, .slice u0 U.length uc, .slice d0 D.length dc] 25) := World.alloc_heap_new w _
  have HB := hide' ((Below.refl w.heap.size w).alloc (Nat.le_refl _) (.cells #[.int .i64 (i0 : Int), .bool b1, .int .i64 (i2 : Int), .bool b3, .bool b4, .bool b5, .bool b6, .bool b7, .bool b8, .int .i64 (i9 : Int), .slice q0 Q.length qc, .slice a0 A.length ac, .slice u0 U.length uc, .slice d0 D.length dc] 25))
  have HW := hide' hl
  have HPB := hide' hp
  have T1 : Hid True := trivial
  obtain ⟨sP, hsP⟩ : ∃ sP, packS i0 i2 i9 b1 b3 b4 b5 b6 b7 b8 Q A U D = sP := ⟨_, rfl⟩
  rw [hsP] at hbig
  have HSP := hide' hsP
  clear hsP
  clear hl hp
  go_enter Try.func4, Try.ntmps4
  go_wp2_with (first
    | (go_at_call 6; refine (question_any _).mono ?_; rintro e w1 ⟨g1, rfl, hL1, hB1⟩; have L1 := hide' hL1; have HB1 := hide' (bstep HB.out hB1 HB.out.size); have HX1 : Hid (Bx w1 w.heap.size #[.int .i64 (i0 : Int), .bool b1, .int .i64 (i2 : Int), .bool b3, .bool b4, .bool b5, .bool b6, .bool b7, .bool b8, .int .i64 (i9 : Int), .slice q0 Q.length qc, .slice a0 A.length ac, .slice u0 U.length uc, .slice d0 D.length dc] 25) := HX.out.below hB1 HX.out.lt; clear hL1 hB1)
    | (go_at_call 5; have _ := T1; clear T1; refine (pack_yes 7 0 0 false false false true false false false (some ⟨g1, 0, none⟩) none none none 1 0 0 0 [exQ] [] [] [] _ L1.out exMsg).mono ?_; rintro e w2 ⟨h2', hB2⟩; rw [if_neg (by rw [exPack]; decide), exPack] at h2'; obtain ⟨p2, c2, rfl, hO2⟩ := h2'; have HB2 := hide' (bstep HB1.out hB2 HB1.out.size); have HX2 : Hid (Bx w2 w.heap.size #[.int .i64 (i0 : Int), .bool b1, .int .i64 (i2 : Int), .bool b3, .bool b4, .bool b5, .bool b6, .bool b7, .bool b8, .int .i64 (i9 : Int), .slice q0 Q.length qc, .slice a0 A.length ac, .slice u0 U.length uc, .slice d0 D.length dc] 25) := HX1.out.below hB2 HX1.out.lt; obtain ⟨m0, m1, m2, m3, m4, m5, m6, m7, m8, m9, m10, m11, m12, m13⟩ := bx14 HX2.out; clear hB2 hO2)
    | (go_at_call 5; refine (pack_yes i0 i2 i9 b1 b3 b4 b5 b6 b7 b8 q0 a0 u0 d0 qc ac uc dc Q A U D _ (HW.out.below HB2.out) hm).mono ?_; rintro e w3 ⟨h3, hB3⟩; rw [HSP.out, if_pos hbig] at h3; subst h3; have HBf := hide' (bstep HB2.out hB3 HB2.out.size); clear hB3))
  go_ret
  exact ⟨rfl, HBf.out⟩
end Go.Proofs.Ytlgogddobjkngaa

namespace Go.Proofs.Ytlgogddobjkngaa
set_option linter.unusedVariables false
open Go.RowKit Go.Shelf Go.Maps Go.Proofs.Ytlgogddobjkngaa.Nm
set_option maxRecDepth 5000000 in
set_option maxHeartbeats 4000000 in
theorem wireEnds_good_in_none (i0 i2 i9 : Nat) (b1 b3 b4 b5 b6 b7 b8 : Bool) (q0 a0 u0 d0 : Option Addr) (qc ac uc dc : Nat) (Q : List Qn) (A U D : List Rn) (cut : Int) (p : Option Addr) (cap : Nat) (X : ByteArray) (w : World) (hl : LsAt w q0 a0 u0 d0 Q A U D) (hS : X.size ≤ 140737488351232) (hc : X.size ≤ cap) (hp : ByAt w p X) (hm : msgOK i0 i2 i9 Q A U D = true) (hbig : ¬ 65535 < (packS i0 i2 i9 b1 b3 b4 b5 b6 b7 b8 Q A U D).out.size) (hcut : 0 ≤ cut ∧ cut < ((packS i0 i2 i9 b1 b3 b4 b5 b6 b7 b8 Q A U D).out.size : Int)) (htl : X.size = 0) :
    Calls Try.prog 4 #[.agg #[.int .i64 (i0 : Int), .bool b1, .int .i64 (i2 : Int), .bool b3, .bool b4, .bool b5, .bool b6, .bool b7, .bool b8, .int .i64 (i9 : Int), .slice q0 Q.length qc, .slice a0 A.length ac, .slice u0 U.length uc, .slice d0 D.length dc], .int .i64 cut, .slice p X.size cap] w fun e w' => e = .returned (.bool true) ∧ Below w.heap.size w w' := by
  have HX : Hid (Bx (w.alloc (.cells #[.int .i64 (i0 : Int), .bool b1, .int .i64 (i2 : Int), .bool b3, .bool b4, .bool b5, .bool b6, .bool b7, .bool b8, .int .i64 (i9 : Int), .slice q0 Q.length qc, .slice a0 A.length ac, .slice u0 U.length uc, .slice d0 D.length dc] 25)) w.heap.size #[.int .i64 (i0 : Int), .bool b1, .int .i64 (i2 : Int), .bool b3, .bool b4, .bool b5, .bool b6, .bool b7, .bool b8, .int .i64 (i9 : Int), .slice q0 Q.length qc, .slice a0 A.length ac, .slice u0 U.length uc, .slice d0 D.length dc] 25) := World.alloc_heap_new w _
  have HB := hide' ((Below.refl w.heap.size w).alloc (Nat.le_refl _) (.cells #[.int .i64 (i0 : Int), .bool b1, .int .i64 (i2 : Int), .bool b3, .bool b4, .bool b5, .bool b6, .bool b7, .bool b8, .int .i64 (i9 : Int), .slice q0 Q.length qc, .slice a0 A.length ac, .slice u0 U.length uc, .slice d0 D.length dc] 25))
  have HW := hide' hl
  have HPB := hide' hp
  have T1 : Hid True := trivial
  obtain ⟨sP, hsP⟩ : ∃ sP, packS i0 i2 i9 b1 b3 b4 b5 b6 b7 b8 Q A U D = sP := ⟨_, rfl⟩
  have HUP := hide' (fun (p : Option Addr) (cap : Nat) (w : World) h2 h3 => unpack_pack i0 i2 i9 b1 b3 b4 b5 b6 b7 b8 Q A U D hm (by omega) p cap w h2 h3)
  have HK := hide' (upk_pack i0 i2 i9 b1 b3 b4 b5 b6 b7 b8 Q A U D hm (by omega)).1
  rw [hsP] at HUP HK
  rw [hsP] at hbig hcut
  have HSP := hide' hsP
  clear hsP
  obtain ⟨n, hn⟩ : ∃ n, sP.out.size = n := ⟨_, rfl⟩
  rw [hn] at hbig hcut
  have HN := hide' hn
  have hnl : n ≤ 65535 := by omega
  have HU1 : Hid (∀ (p : Option Addr) (W : World), ByAt W p sP.out → Calls Try.prog 7 #[.slice p n n] W fun e w' => ∃ a1 a2 a3 a4 c1 c2 c3 c4, e = .returned (.tuple #[.agg #[.int .i64 (i0 : Int), .bool b1, .int .i64 (i2 : Int), .bool b3, .bool b4, .bool b5, .bool b6, .bool b7, .bool b8, .int .i64 (i9 : Int), .slice a1 Q.length c1, .slice a2 A.length c2, .slice a3 U.length c3, .slice a4 D.length c4], .int .i64 0, .int .i64 0]) ∧ Mg4 w' W.heap.size (.slice a1 Q.length c1) (.slice a2 A.length c2) (.slice a3 U.length c3) (.slice a4 D.length c4) ⟨Q, A, U, D⟩ ∧ Below W.heap.size W w') := by
    intro p W h
    have := HUP.out p n W (by omega) h
    rw [hn] at this
    exact this
  clear hn
  obtain ⟨k, rfl⟩ : ∃ k : Nat, cut = (k : Int) := ⟨cut.toNat, by omega⟩
  have hkn : k < n := by omega
  have hk1 : (k : Int) < (n : Int) := by omega
  have hk0 : (0 : Int) ≤ (k : Int) := by omega
  clear hcut
  have ht0 : ((X.size : Int) == 0) = true := by rw [beq_iff_eq]; omega
  clear htl
  clear hl hp
  go_enter Try.func4, Try.ntmps4
  go_wp2_with (first
    | (go_at_call 6; refine (question_any _).mono ?_; rintro e w1 ⟨g1, rfl, hL1, hB1⟩; have L1 := hide' hL1; have HB1 := hide' (bstep HB.out hB1 HB.out.size); have HX1 : Hid (Bx w1 w.heap.size #[.int .i64 (i0 : Int), .bool b1, .int .i64 (i2 : Int), .bool b3, .bool b4, .bool b5, .bool b6, .bool b7, .bool b8, .int .i64 (i9 : Int), .slice q0 Q.length qc, .slice a0 A.length ac, .slice u0 U.length uc, .slice d0 D.length dc] 25) := HX.out.below hB1 HX.out.lt; clear hL1 hB1)
    | (go_at_call 5; have _ := T1; clear T1; refine (pack_yes 7 0 0 false false false true false false false (some ⟨g1, 0, none⟩) none none none 1 0 0 0 [exQ] [] [] [] _ L1.out exMsg).mono ?_; rintro e w2 ⟨h2', hB2⟩; rw [if_neg (by rw [exPack]; decide), exPack] at h2'; obtain ⟨p2, c2, rfl, hO2⟩ := h2'; have HB2 := hide' (bstep HB1.out hB2 HB1.out.size); have HX2 : Hid (Bx w2 w.heap.size #[.int .i64 (i0 : Int), .bool b1, .int .i64 (i2 : Int), .bool b3, .bool b4, .bool b5, .bool b6, .bool b7, .bool b8, .int .i64 (i9 : Int), .slice q0 Q.length qc, .slice a0 A.length ac, .slice u0 U.length uc, .slice d0 D.length dc] 25) := HX1.out.below hB2 HX1.out.lt; obtain ⟨m0, m1, m2, m3, m4, m5, m6, m7, m8, m9, m10, m11, m12, m13⟩ := bx14 HX2.out; clear hB2 hO2)
    | (go_at_call 5; refine (pack_yes i0 i2 i9 b1 b3 b4 b5 b6 b7 b8 q0 a0 u0 d0 qc ac uc dc Q A U D _ (HW.out.below HB2.out) hm).mono ?_; rintro e w3 ⟨h3, hB3⟩; rw [HSP.out, HN.out, if_neg hbig] at h3; obtain ⟨p3, c3, rfl, hO3⟩ := h3; have HO3 := hide' (byAt_own hO3); have hc3 : n ≤ c3 := own_cap hO3; have hcn3 := run_cut p3 n c3 n hc3; have hck3 := run_cut p3 n c3 k (by omega); have HB3 := hide' (bstep HB2.out hB3 HB2.out.size); have T2 : Hid True := trivial; clear hO3 hB3)
    | (go_at_call 7; have _ := T2; clear T2; refine Calls.mono (HU1.out p3 _ HO3.out) ?_; rintro e w4 ⟨r1, r2, r3, r4, z1, z2, z3, z4, rfl, hL4, hB4⟩; have HO4 := hide' (fun o : Obj => (HO3.out.below hB4).al o); have HB4 := hide' (fun o : Obj => below_al (bstep HB3.out hB4 HB3.out.size) o); have hB4s : Hid (w.heap.size ≤ w4.heap.size) := Nat.le_trans HB3.out.size hB4.size; have T3 : Hid True := trivial; clear hL4 hB4)
    | (go_at_call 7; have _ := T3; clear T3; refine Calls.mono (unpack_cut HK.out (by rw [HN.out]; exact hkn) p3 _ (HO4.out _)) ?_; rintro e w5 ⟨at5, rfl, hB5⟩; have HO5 := hide' ((HO4.out _).below hB5); have HB5 := hide' (bstep (HB4.out _) hB5 (HB4.out _).size); have hB5s : Hid (w.heap.size ≤ w5.heap.size) := Nat.le_trans (HB4.out _).size hB5.size; clear hB5))
  go_ret
  exact ⟨rfl, HB5.out⟩
set_option maxRecDepth 5000000 in
set_option maxHeartbeats 4000000 in
theorem wireEnds_good_neg_none (i0 i2 i9 : Nat) (b1 b3 b4 b5 b6 b7 b8 : Bool) (q0 a0 u0 d0 : Option Addr) (qc ac uc dc : Nat) (Q : List Qn) (A U D : List Rn) (cut : Int) (p : Option Addr) (cap : Nat) (X : ByteArray) (w : World) (hl : LsAt w q0 a0 u0 d0 Q A U D) (hS : X.size ≤ 140737488351232) (hc : X.size ≤ cap) (hp : ByAt w p X) (hm : msgOK i0 i2 i9 Q A U D = true) (hbig : ¬ 65535 < (packS i0 i2 i9 b1 b3 b4 b5 b6 b7 b8 Q A U D).out.size) (hcut : cut < 0) (htl : X.size = 0) :
    Calls Try.prog 4 #[.agg #[.int .i64 (i0 : Int), .bool b1, .int .i64 (i2 : Int), .bool b3, .bool b4, .bool b5, .bool b6, .bool b7, .bool b8, .int .i64 (i9 : Int), .slice q0 Q.length qc, .slice a0 A.length ac, .slice u0 U.length uc, .slice d0 D.length dc], .int .i64 cut, .slice p X.size cap] w fun e w' => e = .returned (.bool true) ∧ Below w.heap.size w w' := by
  have HX : Hid (Bx (w.alloc (.cells #[.int .i64 (i0 : Int), .bool b1, .int .i64 (i2 : Int), .bool b3, .bool b4, .bool b5, .bool b6, .bool b7, .bool b8, .int .i64 (i9 : Int), .slice q0 Q.length qc, .slice a0 A.length ac, .slice u0 U.length uc, .slice d0 D.length dc] 25)) w.heap.size #[.int .i64 (i0 : Int), .bool b1, .int .i64 (i2 : Int), .bool b3, .bool b4, .bool b5, .bool b6, .bool b7, .bool b8, .int .i64 (i9 : Int), .slice q0 Q.length qc, .slice a0 A.length ac, .slice u0 U.length uc, .slice d0 D.length dc] 25) := World.alloc_heap_new w _
  have HB := hide' ((Below.refl w.heap.size w).alloc (Nat.le_refl _) (.cells #[.int .i64 (i0 : Int), .bool b1, .int .i64 (i2 : Int), .bool b3, .bool b4, .bool b5, .bool b6, .bool b7, .bool b8, .int .i64 (i9 : Int), .slice q0 Q.length qc, .slice a0 A.length ac, .slice u0 U.length uc, .slice d0 D.length dc] 25))
  have HW := hide' hl
  have HPB := hide' hp
  have T1 : Hid True := trivial
  obtain ⟨sP, hsP⟩ : ∃ sP, packS i0 i2 i9 b1 b3 b4 b5 b6 b7 b8 Q A U D = sP := ⟨_, rfl⟩
  have HUP := hide' (fun (p : Option Addr) (cap : Nat) (w : World) h2 h3 => unpack_pack i0 i2 i9 b1 b3 b4 b5 b6 b7 b8 Q A U D hm (by omega) p cap w h2 h3)
  have HK := hide' (upk_pack i0 i2 i9 b1 b3 b4 b5 b6 b7 b8 Q A U D hm (by omega)).1
  rw [hsP] at HUP HK
  rw [hsP] at hbig
  have HSP := hide' hsP
  clear hsP
  obtain ⟨n, hn⟩ : ∃ n, sP.out.size = n := ⟨_, rfl⟩
  rw [hn] at hbig
  have HN := hide' hn
  have hnl : n ≤ 65535 := by omega
  have HU1 : Hid (∀ (p : Option Addr) (W : World), ByAt W p sP.out → Calls Try.prog 7 #[.slice p n n] W fun e w' => ∃ a1 a2 a3 a4 c1 c2 c3 c4, e = .returned (.tuple #[.agg #[.int .i64 (i0 : Int), .bool b1, .int .i64 (i2 : Int), .bool b3, .bool b4, .bool b5, .bool b6, .bool b7, .bool b8, .int .i64 (i9 : Int), .slice a1 Q.length c1, .slice a2 A.length c2, .slice a3 U.length c3, .slice a4 D.length c4], .int .i64 0, .int .i64 0]) ∧ Mg4 w' W.heap.size (.slice a1 Q.length c1) (.slice a2 A.length c2) (.slice a3 U.length c3) (.slice a4 D.length c4) ⟨Q, A, U, D⟩ ∧ Below W.heap.size W w') := by
    intro p W h
    have := HUP.out p n W (by omega) h
    rw [hn] at this
    exact this
  clear hn
  have hcn : ¬ (0 : Int) ≤ cut := by omega
  clear hcut
  have ht0 : ((X.size : Int) == 0) = true := by rw [beq_iff_eq]; omega
  clear htl
  clear hl hp
  go_enter Try.func4, Try.ntmps4
  go_wp2_with (first
    | (go_at_call 6; refine (question_any _).mono ?_; rintro e w1 ⟨g1, rfl, hL1, hB1⟩; have L1 := hide' hL1; have HB1 := hide' (bstep HB.out hB1 HB.out.size); have HX1 : Hid (Bx w1 w.heap.size #[.int .i64 (i0 : Int), .bool b1, .int .i64 (i2 : Int), .bool b3, .bool b4, .bool b5, .bool b6, .bool b7, .bool b8, .int .i64 (i9 : Int), .slice q0 Q.length qc, .slice a0 A.length ac, .slice u0 U.length uc, .slice d0 D.length dc] 25) := HX.out.below hB1 HX.out.lt; clear hL1 hB1)
    | (go_at_call 5; have _ := T1; clear T1; refine (pack_yes 7 0 0 false false false true false false false (some ⟨g1, 0, none⟩) none none none 1 0 0 0 [exQ] [] [] [] _ L1.out exMsg).mono ?_; rintro e w2 ⟨h2', hB2⟩; rw [if_neg (by rw [exPack]; decide), exPack] at h2'; obtain ⟨p2, c2, rfl, hO2⟩ := h2'; have HB2 := hide' (bstep HB1.out hB2 HB1.out.size); have HX2 : Hid (Bx w2 w.heap.size #[.int .i64 (i0 : Int), .bool b1, .int .i64 (i2 : Int), .bool b3, .bool b4, .bool b5, .bool b6, .bool b7, .bool b8, .int .i64 (i9 : Int), .slice q0 Q.length qc, .slice a0 A.length ac, .slice u0 U.length uc, .slice d0 D.length dc] 25) := HX1.out.below hB2 HX1.out.lt; obtain ⟨m0, m1, m2, m3, m4, m5, m6, m7, m8, m9, m10, m11, m12, m13⟩ := bx14 HX2.out; clear hB2 hO2)
    | (go_at_call 5; refine (pack_yes i0 i2 i9 b1 b3 b4 b5 b6 b7 b8 q0 a0 u0 d0 qc ac uc dc Q A U D _ (HW.out.below HB2.out) hm).mono ?_; rintro e w3 ⟨h3, hB3⟩; rw [HSP.out, HN.out, if_neg hbig] at h3; obtain ⟨p3, c3, rfl, hO3⟩ := h3; have HO3 := hide' (byAt_own hO3); have hc3 : n ≤ c3 := own_cap hO3; have hcn3 := run_cut p3 n c3 n hc3; have HB3 := hide' (bstep HB2.out hB3 HB2.out.size); have T2 : Hid True := trivial; clear hO3 hB3)
    | (go_at_call 7; have _ := T2; clear T2; refine Calls.mono (HU1.out p3 _ HO3.out) ?_; rintro e w4 ⟨r1, r2, r3, r4, z1, z2, z3, z4, rfl, hL4, hB4⟩; have HO4 := hide' (fun o : Obj => (HO3.out.below hB4).al o); have HB4 := hide' (fun o : Obj => below_al (bstep HB3.out hB4 HB3.out.size) o); have hB4s : Hid (w.heap.size ≤ w4.heap.size) := Nat.le_trans HB3.out.size hB4.size; have T3 : Hid True := trivial; clear hL4 hB4))
  go_ret
  exact ⟨rfl, (HB4.out _)⟩
set_option maxRecDepth 5000000 in
set_option maxHeartbeats 4000000 in
theorem wireEnds_good_far_none (i0 i2 i9 : Nat) (b1 b3 b4 b5 b6 b7 b8 : Bool) (q0 a0 u0 d0 : Option Addr) (qc ac uc dc : Nat) (Q : List Qn) (A U D : List Rn) (cut : Int) (p : Option Addr) (cap : Nat) (X : ByteArray) (w : World) (hl : LsAt w q0 a0 u0 d0 Q A U D) (hS : X.size ≤ 140737488351232) (hc : X.size ≤ cap) (hp : ByAt w p X) (hm : msgOK i0 i2 i9 Q A U D = true) (hbig : ¬ 65535 < (packS i0 i2 i9 b1 b3 b4 b5 b6 b7 b8 Q A U D).out.size) (hcut : ((packS i0 i2 i9 b1 b3 b4 b5 b6 b7 b8 Q A U D).out.size : Int) ≤ cut) (htl : X.size = 0) :
    Calls Try.prog 4 #[.agg #[.int .i64 (i0 : Int), .bool b1, .int .i64 (i2 : Int), .bool b3, .bool b4, .bool b5, .bool b6, .bool b7, .bool b8, .int .i64 (i9 : Int), .slice q0 Q.length qc, .slice a0 A.length ac, .slice u0 U.length uc, .slice d0 D.length dc], .int .i64 cut, .slice p X.size cap] w fun e w' => e = .returned (.bool true) ∧ Below w.heap.size w w' := by
  have HX : Hid (Bx (w.alloc (.cells #[.int .i64 (i0 : Int), .bool b1, .int .i64 (i2 : Int), .bool b3, .bool b4, .bool b5, .bool b6, .bool b7, .bool b8, .int .i64 (i9 : Int), .slice q0 Q.length qc, .slice a0 A.length ac, .slice u0 U.length uc, .slice d0 D.length dc] 25)) w.heap.size #[.int .i64 (i0 : Int), .bool b1, .int .i64 (i2 : Int), .bool b3, .bool b4, .bool b5, .bool b6, .bool b7, .bool b8, .int .i64 (i9 : Int), .slice q0 Q.length qc, .slice a0 A.length ac, .slice u0 U.length uc, .slice d0 D.length dc] 25) := World.alloc_heap_new w _
  have HB := hide' ((Below.refl w.heap.size w).alloc (Nat.le_refl _) (.cells #[.int .i64 (i0 : Int), .bool b1, .int .i64 (i2 : Int), .bool b3, .bool b4, .bool b5, .bool b6, .bool b7, .bool b8, .int .i64 (i9 : Int), .slice q0 Q.length qc, .slice a0 A.length ac, .slice u0 U.length uc, .slice d0 D.length dc] 25))
  have HW := hide' hl
  have HPB := hide' hp
  have T1 : Hid True := trivial
  obtain ⟨sP, hsP⟩ : ∃ sP, packS i0 i2 i9 b1 b3 b4 b5 b6 b7 b8 Q A U D = sP := ⟨_, rfl⟩
  have HUP := hide' (fun (p : Option Addr) (cap : Nat) (w : World) h2 h3 => unpack_pack i0 i2 i9 b1 b3 b4 b5 b6 b7 b8 Q A U D hm (by omega) p cap w h2 h3)
  have HK := hide' (upk_pack i0 i2 i9 b1 b3 b4 b5 b6 b7 b8 Q A U D hm (by omega)).1
  rw [hsP] at HUP HK
  rw [hsP] at hbig hcut
  have HSP := hide' hsP
  clear hsP
  obtain ⟨n, hn⟩ : ∃ n, sP.out.size = n := ⟨_, rfl⟩
  rw [hn] at hbig hcut
  have HN := hide' hn
  have hnl : n ≤ 65535 := by omega
  have HU1 : Hid (∀ (p : Option Addr) (W : World), ByAt W p sP.out → Calls Try.prog 7 #[.slice p n n] W fun e w' => ∃ a1 a2 a3 a4 c1 c2 c3 c4, e = .returned (.tuple #[.agg #[.int .i64 (i0 : Int), .bool b1, .int .i64 (i2 : Int), .bool b3, .bool b4, .bool b5, .bool b6, .bool b7, .bool b8, .int .i64 (i9 : Int), .slice a1 Q.length c1, .slice a2 A.length c2, .slice a3 U.length c3, .slice a4 D.length c4], .int .i64 0, .int .i64 0]) ∧ Mg4 w' W.heap.size (.slice a1 Q.length c1) (.slice a2 A.length c2) (.slice a3 U.length c3) (.slice a4 D.length c4) ⟨Q, A, U, D⟩ ∧ Below W.heap.size W w') := by
    intro p W h
    have := HUP.out p n W (by omega) h
    rw [hn] at this
    exact this
  clear hn
  have hcn : (0 : Int) ≤ cut := by omega
  have hcf : ¬ cut < (n : Int) := by omega
  clear hcut
  have ht0 : ((X.size : Int) == 0) = true := by rw [beq_iff_eq]; omega
  clear htl
  clear hl hp
  go_enter Try.func4, Try.ntmps4
  go_wp2_with (first
    | (go_at_call 6; refine (question_any _).mono ?_; rintro e w1 ⟨g1, rfl, hL1, hB1⟩; have L1 := hide' hL1; have HB1 := hide' (bstep HB.out hB1 HB.out.size); have HX1 : Hid (Bx w1 w.heap.size #[.int .i64 (i0 : Int), .bool b1, .int .i64 (i2 : Int), .bool b3, .bool b4, .bool b5, .bool b6, .bool b7, .bool b8, .int .i64 (i9 : Int), .slice q0 Q.length qc, .slice a0 A.length ac, .slice u0 U.length uc, .slice d0 D.length dc] 25) := HX.out.below hB1 HX.out.lt; clear hL1 hB1)
    | (go_at_call 5; have _ := T1; clear T1; refine (pack_yes 7 0 0 false false false true false false false (some ⟨g1, 0, none⟩) none none none 1 0 0 0 [exQ] [] [] [] _ L1.out exMsg).mono ?_; rintro e w2 ⟨h2', hB2⟩; rw [if_neg (by rw [exPack]; decide), exPack] at h2'; obtain ⟨p2, c2, rfl, hO2⟩ := h2'; have HB2 := hide' (bstep HB1.out hB2 HB1.out.size); have HX2 : Hid (Bx w2 w.heap.size #[.int .i64 (i0 : Int), .bool b1, .int .i64 (i2 : Int), .bool b3, .bool b4, .bool b5, .bool b6, .bool b7, .bool b8, .int .i64 (i9 : Int), .slice q0 Q.length qc, .slice a0 A.length ac, .slice u0 U.length uc, .slice d0 D.length dc] 25) := HX1.out.below hB2 HX1.out.lt; obtain ⟨m0, m1, m2, m3, m4, m5, m6, m7, m8, m9, m10, m11, m12, m13⟩ := bx14 HX2.out; clear hB2 hO2)
    | (go_at_call 5; refine (pack_yes i0 i2 i9 b1 b3 b4 b5 b6 b7 b8 q0 a0 u0 d0 qc ac uc dc Q A U D _ (HW.out.below HB2.out) hm).mono ?_; rintro e w3 ⟨h3, hB3⟩; rw [HSP.out, HN.out, if_neg hbig] at h3; obtain ⟨p3, c3, rfl, hO3⟩ := h3; have HO3 := hide' (byAt_own hO3); have hc3 : n ≤ c3 := own_cap hO3; have hcn3 := run_cut p3 n c3 n hc3; have HB3 := hide' (bstep HB2.out hB3 HB2.out.size); have T2 : Hid True := trivial; clear hO3 hB3)
    | (go_at_call 7; have _ := T2; clear T2; refine Calls.mono (HU1.out p3 _ HO3.out) ?_; rintro e w4 ⟨r1, r2, r3, r4, z1, z2, z3, z4, rfl, hL4, hB4⟩; have HO4 := hide' (fun o : Obj => (HO3.out.below hB4).al o); have HB4 := hide' (fun o : Obj => below_al (bstep HB3.out hB4 HB3.out.size) o); have hB4s : Hid (w.heap.size ≤ w4.heap.size) := Nat.le_trans HB3.out.size hB4.size; have T3 : Hid True := trivial; clear hL4 hB4))
  go_ret
  exact ⟨rfl, (HB4.out _)⟩
end Go.Proofs.Ytlgogddobjkngaa
