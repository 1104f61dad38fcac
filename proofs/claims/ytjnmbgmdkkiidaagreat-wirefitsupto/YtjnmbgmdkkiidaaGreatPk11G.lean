import Derived.Test.YtjnmbgmdkkiidaaGreatMo1G
import Derived.Test.YtjnmbgmdkkiidaaGreatWc6
namespace Go.Proofs.YtjnmbgmdkkiidaaGreat
set_option linter.unusedVariables false
open Go.RowKit Go.Shelf Go.Maps Go.Proofs.YtjnmbgmdkkiidaaGreat.Nm

def quesQ (q : Qn) (s : PS) : PS := quesP q.n q.t.toNat q.c.toNat s
def quesL (Q : List Qn) (s : PS) : PS := Q.foldl (fun s q => quesQ q s) s
theorem quesL_snoc (Q : List Qn) (q : Qn) (s : PS) : quesL (Q ++ [q]) s = quesQ q (quesL Q s) := by simp [quesL]
def recR (r : Rn) (s : PS) : PS := recP r.o r.t.toNat r.c.toNat r.l.toNat r.d s
/-- records, one behind the other, as long as there is room -/
def runR (most : Int) : List Rn → PS → Nat → PS × Nat
  | [], s, c => (s, c)
  | r :: l, s, c => if most < (s.out.size : Int) then (s, c) else runR most l (recR r s) (c + 1)
theorem fitsN_nat {n : Int} {b : Nat} (h : fitsN n b = true) : ∃ m : Nat, n = (m : Int) ∧ m < 2 ^ b := by
  have h1 := of_decide_eq_true h
  exact ⟨n.toNat, by omega, by omega⟩
theorem qOK_parts {q : Qn} (h : qOK q = true) : isN q.n = true ∧ (∃ t : Nat, q.t = (t : Int) ∧ t < 65536) ∧ (∃ c : Nat, q.c = (c : Int) ∧ c < 65536) := by
  unfold qOK headOK at h
  simp only [Bool.and_eq_true] at h
  exact ⟨h.1.1, fitsN_nat h.1.2, fitsN_nat h.2⟩
theorem rOK_parts {r : Rn} (h : rOK r = true) : isN r.o = true ∧ (∃ t : Nat, r.t = (t : Int) ∧ t < 65536) ∧ (∃ c : Nat, r.c = (c : Int) ∧ c < 65536) ∧ (∃ l : Nat, r.l = (l : Int) ∧ l < 4294967296) ∧ DatOK r.t r.d := by
  unfold rOK recOK headOK at h
  simp only [Bool.and_eq_true] at h
  exact ⟨h.1.1.1.1, fitsN_nat h.1.1.1.2, fitsN_nat h.1.1.2, fitsN_nat h.1.2, datOK_of h.2⟩
theorem quesQ_ok {q : Qn} (h : qOK q = true) {s : PS} (hs : POk s) : POk (quesQ q s) ∧ (quesQ q s).out.size ≤ s.out.size + 259 ∧ s.out.size ≤ (quesQ q s).out.size := by
  obtain ⟨h1, _, _⟩ := qOK_parts h
  have h2 := name_size h1 s
  have h3 : q.n.size ≤ 255 := ((isN_iff q.n).1 h1).1
  refine ⟨quesP_pok h1 _ _ hs, ?_, ?_⟩
  · unfold quesQ; rw [quesP_size]; omega
  · unfold quesQ; rw [quesP_size]; omega
theorem quesL_ok : ∀ (Q : List Qn) (s : PS), (∀ q ∈ Q, qOK q = true) → POk s → POk (quesL Q s) ∧ (quesL Q s).out.size ≤ s.out.size + 259 * Q.length
  | [], s, _, h => ⟨h, Nat.le_refl _⟩
  | q :: l, s, hQ, h => by
    obtain ⟨h1, h2, _⟩ := quesQ_ok (hQ q List.mem_cons_self) h
    obtain ⟨h3, h4⟩ := quesL_ok l (quesQ q s) (fun x hx => hQ x (List.mem_cons_of_mem _ hx)) h1
    refine ⟨h3, ?_⟩
    show (quesL l (quesQ q s)).out.size ≤ _
    simp only [List.length_cons]; omega
theorem recR_ok {r : Rn} (h : rOK r = true) {s : PS} (hs : POk s) : POk (recR r s) ∧ (recR r s).out.size ≤ s.out.size + 66000 ∧ s.out.size ≤ (recR r s).out.size := by
  obtain ⟨h1, ⟨t, ht, htl⟩, _, _, hd⟩ := rOK_parts h
  have h2 := name_size h1 s
  have h3 : r.o.size ≤ 255 := ((isN_iff r.o).1 h1).1
  have hd' : DatOK ((r.t.toNat : Nat) : Int) r.d := by rw [ht] at hd ⊢; simpa using hd
  have hp := recH_pok h1 r.t.toNat r.c.toNat r.l.toNat hs
  obtain ⟨a1, a2, a3⟩ := dataP_ok hd' hp
  have a4 := recH_size r.o r.t.toNat r.c.toNat r.l.toNat s
  have a5 := hd.1
  refine ⟨recP_pok h1 _ _ _ hd' hs, ?_, ?_⟩
  · unfold recR; rw [recP_size]; omega
  · unfold recR; rw [recP_size]; omega
/-- records in memory, below a mark -/
def RsB (w : World) (base : Nat) (p : Option Addr) (l : List Rn) : Prop := ∀ k, (hk : k < l.length) → ∃ g off, p = some ⟨g, off, none⟩ ∧ g < base ∧ w.cell? ⟨g, off + k * 5, none⟩ = some (.string l[k].o) ∧ w.cell? ⟨g, off + k * 5 + 1, none⟩ = some (.int .i64 l[k].t) ∧ w.cell? ⟨g, off + k * 5 + 2, none⟩ = some (.int .i64 l[k].c) ∧ w.cell? ⟨g, off + k * 5 + 3, none⟩ = some (.int .i64 l[k].l) ∧ w.cell? ⟨g, off + k * 5 + 4, none⟩ = some (.string l[k].d)
theorem RsB.low {w w' : World} {base : Nat} {p : Option Addr} {l : List Rn} (h : RsB w base p l) (hb : Below base w w') : RsB w' base p l := fun k hk => by
  obtain ⟨g, off, h1, h2, h3, h4, h5, h6, h7⟩ := h k hk
  exact ⟨g, off, h1, h2, (hb.cell (p := ⟨g, off + k * 5, none⟩) h2).trans h3, (hb.cell (p := ⟨g, off + k * 5 + 1, none⟩) h2).trans h4, (hb.cell (p := ⟨g, off + k * 5 + 2, none⟩) h2).trans h5, (hb.cell (p := ⟨g, off + k * 5 + 3, none⟩) h2).trans h6, (hb.cell (p := ⟨g, off + k * 5 + 4, none⟩) h2).trans h7⟩
end Go.Proofs.YtjnmbgmdkkiidaaGreat

namespace Go.Proofs.YtjnmbgmdkkiidaaGreat
set_option linter.unusedVariables false
open Go.RowKit Go.Shelf Go.Maps Go.Proofs.YtjnmbgmdkkiidaaGreat.Nm

/-- a message in memory, below a mark: its box, its lists -/
structure MsgAt (w : World) (base M : Nat) (i0 i2 i9 : Nat) (b1 b3 b4 b5 b6 b7 b8 : Bool) (q0 a0 u0 d0 : Option Addr) (qc ac uc dc : Nat) (Q : List Qn) (A U D : List Rn) : Prop where
  lt : M < base
  bx : Bx w M #[.int .i64 (i0 : Int), .bool b1, .int .i64 (i2 : Int), .bool b3, .bool b4, .bool b5, .bool b6, .bool b7, .bool b8, .int .i64 (i9 : Int), .slice q0 Q.length qc, .slice a0 A.length ac, .slice u0 U.length uc, .slice d0 D.length dc] 25
  q : ∀ k, (hk : k < Q.length) → ∃ g off, q0 = some ⟨g, off, none⟩ ∧ g < base ∧ w.cell? ⟨g, off + k * 3, none⟩ = some (.string Q[k].n) ∧ w.cell? ⟨g, off + k * 3 + 1, none⟩ = some (.int .i64 Q[k].t) ∧ w.cell? ⟨g, off + k * 3 + 2, none⟩ = some (.int .i64 Q[k].c)
  a : RsB w base a0 A
  u : RsB w base u0 U
  d : RsB w base d0 D
theorem MsgAt.low {w w' : World} {base M i0 i2 i9 : Nat} {b1 b3 b4 b5 b6 b7 b8 : Bool} {q0 a0 u0 d0 : Option Addr} {qc ac uc dc : Nat} {Q : List Qn} {A U D : List Rn} (h : MsgAt w base M i0 i2 i9 b1 b3 b4 b5 b6 b7 b8 q0 a0 u0 d0 qc ac uc dc Q A U D) (hb : Below base w w') : MsgAt w' base M i0 i2 i9 b1 b3 b4 b5 b6 b7 b8 q0 a0 u0 d0 qc ac uc dc Q A U D :=
  ⟨h.lt, h.bx.below hb h.lt, fun k hk => by
    obtain ⟨g, off, h1, h2, h3, h4, h5⟩ := h.q k hk
    exact ⟨g, off, h1, h2, (hb.cell (p := ⟨g, off + k * 3, none⟩) h2).trans h3, (hb.cell (p := ⟨g, off + k * 3 + 1, none⟩) h2).trans h4, (hb.cell (p := ⟨g, off + k * 3 + 2, none⟩) h2).trans h5⟩, h.a.low hb, h.u.low hb, h.d.low hb⟩
/-- what is left of the sections -/
def secL (A U D : List Rn) : Nat → List Rn
  | 0 => A ++ U ++ D
  | 1 => U ++ D
  | 2 => D
  | _ => []
def PkN (P Mb base : Nat) (v : Value) (r : PS × Nat) (w : World) (e : Ending) (w' : World) : Prop := e = .returned (.int .i64 (r.2 : Int)) ∧ ∃ v', Pk w' P Mb base v' r.1 ∧ Fz w w' P Mb v ∧ Loc w v v'

set_option maxRecDepth 100000 in
set_option maxHeartbeats 1000000 in
/-- (*packer).message -/
theorem pmessage_any (P Mb base M : Nat) (v : Value) (s : PS) (i0 i2 i9 : Nat) (b1 b3 b4 b5 b6 b7 b8 : Bool) (q0 a0 u0 d0 : Option Addr) (qc ac uc dc : Nat) (Q : List Qn) (A U D : List Rn) (most : Int) (w : World) (h : Pk w P Mb base v s)
    (hm : MsgAt w base M i0 i2 i9 b1 b3 b4 b5 b6 b7 b8 q0 a0 u0 d0 qc ac uc dc Q A U D) (h0 : i0 < 65536) (h2 : i2 < 16) (h9 : i9 < 16) (hQl : Q.length < 65536) (hAl : A.length < 65536) (hUl : U.length < 65536) (hDl : D.length < 65536)
    (hQ : ∀ q ∈ Q, qOK q = true) (hA : ∀ r ∈ A, rOK r = true) (hU : ∀ r ∈ U, rOK r = true) (hD : ∀ r ∈ D, rOK r = true) (hmost : most ≤ 65535) (hmost0 : -9223372036854775808 ≤ most) (hok : POk s) (hz : s.out.size = 0) :
    Calls Tryz.prog 18 #[.pointer (some ⟨P, 0, none⟩), .pointer (some ⟨M, 0, none⟩), .int .i64 most] w (PkN P Mb base v (runR most (A ++ U ++ D) (quesL Q (headP i0 i2 i9 b1 b3 b4 b5 b6 b7 b8 Q.length A.length U.length D.length s)) 0) w) := by
  have HP := hide' h
  have HM := hide' hm
  obtain ⟨s1, hs1⟩ : ∃ s1, headP i0 i2 i9 b1 b3 b4 b5 b6 b7 b8 Q.length A.length U.length D.length s = s1 := ⟨_, rfl⟩
  have HH := hide' (phead_any P Mb base M v s i0 i2 i9 b1 b3 b4 b5 b6 b7 b8 q0 a0 u0 d0 Q.length A.length U.length D.length qc ac uc dc w h hm.lt hm.bx h0 h2 h9 hQl hAl hUl hDl (by omega))
  have hok1 : POk s1 ∧ s1.out.size = 12 := by
    rw [← hs1]
    unfold headP
    refine ⟨(((((hok.more _).more _).more _).more _).more _).more _, ?_⟩
    show ((((((_ ++ _) ++ _) ++ _) ++ _) ++ _) ++ _ : ByteArray).size = 12
    simp only [ByteArray.size_append, numB_size, hz]
  rw [hs1] at HH ⊢
  obtain ⟨R0, hR0⟩ : ∃ R0, runR most (A ++ U ++ D) (quesL Q s1) 0 = R0 := ⟨_, rfl⟩
  rw [hR0]
  have HR0 := hide' hR0
  clear hR0
  obtain ⟨hok1, hz1⟩ := hok1
  clear h hm hs1 hok hz
  go_enter Tryz.func18, Tryz.ntmps18
  go_wp2_with (go_at_call 39; refine HH.out.mono ?_; rintro e w1 ⟨rfl, v1, r1, r2, r3⟩; have R1 := hide' r1; have HM1 := hide' (HM.out.low (r2.low HP.out)); have x10 : w1.cell? ⟨M, 10, none⟩ = some (.slice q0 Q.length qc) := HM1.out.bx.cell rfl; have HF1 := hide' r2; have HL1 := hide' r3; clear r1 r2 r3)
  have HQk := hide' (fun k : Nat => quesL_ok (Q.take k) s1 (fun q hq => hQ q (List.mem_of_mem_take hq)) hok1)
  clear HP HM HH
  go_loopw [22] (fun iv wr => ∃ (k : Nat) (v' : Value), iv = .int .i64 (k : Int) ∧ k ≤ Q.length ∧ Hid (Pk wr P Mb base v' (quesL (Q.take k) s1)) ∧ Hid (MsgAt wr base M i0 i2 i9 b1 b3 b4 b5 b6 b7 b8 q0 a0 u0 d0 qc ac uc dc Q A U D) ∧ Hid (Fz w wr P Mb v) ∧ Hid (Loc w v v')) (fun iv _ => Q.length - (intOf iv).toNat)
  case atStart => exact ⟨0, v1, rfl, Nat.zero_le _, R1, HM1, HF1, HL1⟩
  case round =>
    clear R1 HM1 HF1 HL1 x10
    obtain ⟨k, v', rfl, hk, H, HM, HF, HL⟩ := hrel
    obtain ⟨hokk, hszk⟩ := HQk.out k
    have hlen : (Q.take k).length ≤ 65535 := by rw [List.length_take]; omega
    by_cases hlt : k < Q.length
    · obtain ⟨gq, oq, rfl, hgq, c0, c1, c2⟩ := HM.out.q k hlt
      obtain ⟨hqn, ⟨tn, ht, htl⟩, ⟨cn, hc, hcl⟩⟩ := qOK_parts (hQ _ (List.getElem_mem hlt))
      have HS : Hid (quesL (Q.take (k + 1)) s1 = quesP Q[k].n tn cn (quesL (Q.take k) s1)) := by
        unfold Hid; rw [List.take_succ_eq_append_getElem hlt, quesL_snoc]; unfold quesQ; rw [ht, hc]; rfl
      rw [ht] at c1
      rw [hc] at c2
      generalize Q[k].n = nn at *
      clear ht hc
      have HA := hide' (H.out.alloc (.cells #[.string nn, .int .i64 (tn : Int), .int .i64 (cn : Int)] 57))
      go_wp2_with (go_at_call 40; refine (pquestion_any P Mb base v' _ nn tn cn _ HA.out hqn htl hcl hokk (by omega)).mono ?_; rintro e w2 ⟨rfl, v2, r1, r2, r3⟩; have S1 := hide' r1; have HFa := hide' (HF.out.trans (Fz.alloc wr P Mb v' (.cells #[.string nn, .int .i64 (tn : Int), .int .i64 (cn : Int)] 57)) HL.out); have HF2 := hide' (HFa.out.trans r2 HL.out); have HL2 := hide' (HL.out.trans HFa.out r3); have HM2 := hide' (HM.out.low (((Fz.alloc wr P Mb v' (.cells #[.string nn, .int .i64 (tn : Int), .int .i64 (cn : Int)] 57)).trans r2 (Loc.refl _ _)).low H.out)); clear r1 r2 r3)
      go_roundw
      case rel => exact ⟨k + 1, v2, by go_num, hlt, by unfold Hid; rw [HS.out]; exact S1.out, HM2, HF2, HL2⟩
      case measure => simp [intOf]; omega
    · obtain rfl : k = Q.length := by omega
      rw [List.take_length] at H hokk hszk hlen
      obtain ⟨s2, hs2⟩ : ∃ s2, quesL Q s1 = s2 := ⟨_, rfl⟩
      rw [hs2] at H hokk hszk HR0
      have hsz2 : s2.out.size ≤ 16973577 := by omega
      clear hs2 hszk hlen HQk hz1 hok1
      obtain ⟨wr0, hwr0⟩ : ∃ wr0, wr = wr0 := ⟨_, rfl⟩
      rw [hwr0] at H HM HF ⊢
      clear hwr0
      go_wp2_with (go_at_call 28; refine (sectionsOf_any M 0 _).mono ?_; rintro e w5 ⟨rfl, hB⟩; have V1 := hide' (H.out.below hB); have HM5 := hide' (HM.out.low (Below.mono hB H.out.lt.2.2)); have HF5 := hide' (HF.out.trans (Fz.below P Mb v' hB) HL.out); clear hB)
      have hl3 : (A ++ U ++ D).length ≤ 196605 := by simp only [List.length_append]; omega
      clear HM HF H hQ
      have hx0 : ∀ W : World, Sem.run Tryz.prog (Instr.index 65 (.agg #[.pointer (some ⟨M, 11, none⟩), .pointer (some ⟨M, 12, none⟩), .pointer (some ⟨M, 13, none⟩)]) (.int .i64 0)) W = .ok (.pointer (some ⟨M, 11, none⟩)) W := fun W => by first | rfl | simp [go_sem, Instr.index]
      have hx1 : ∀ W : World, Sem.run Tryz.prog (Instr.index 65 (.agg #[.pointer (some ⟨M, 11, none⟩), .pointer (some ⟨M, 12, none⟩), .pointer (some ⟨M, 13, none⟩)]) (.int .i64 1)) W = .ok (.pointer (some ⟨M, 12, none⟩)) W := fun W => by first | rfl | simp [go_sem, Instr.index]
      have hx2 : ∀ W : World, Sem.run Tryz.prog (Instr.index 65 (.agg #[.pointer (some ⟨M, 11, none⟩), .pointer (some ⟨M, 12, none⟩), .pointer (some ⟨M, 13, none⟩)]) (.int .i64 2)) W = .ok (.pointer (some ⟨M, 13, none⟩)) W := fun W => by first | rfl | simp [go_sem, Instr.index]
      go_loopw [9, 32] (fun cv jv wr => ∃ (j c : Nat) (v' : Value) (s' : PS), jv = .int .i64 (j : Int) ∧ cv = .int .i64 (c : Int) ∧ j ≤ 3 ∧ c ≤ 65535 * j ∧ s'.out.size ≤ 17100000 ∧ Hid (POk s') ∧ Hid (Pk wr P Mb base v' s') ∧ Hid (MsgAt wr base M i0 i2 i9 b1 b3 b4 b5 b6 b7 b8 q0 a0 u0 d0 qc ac uc dc Q A U D) ∧ Hid (Fz w wr P Mb v) ∧ Hid (Loc w v v') ∧ Hid (runR most (secL A U D j) s' c = R0)) (fun _ jv _ => 3 - (intOf jv).toNat)
      case atStart => exact ⟨0, 0, v', s2, rfl, rfl, Nat.zero_le _, by omega, by omega, hokk, V1, HM5, HF5, HL, HR0⟩
      case round =>
        clear V1 HM5 HF5 HL HR0 hokk hsz2 hl3
        obtain ⟨j, c, v', s', rfl, rfl, hj, hc, hsz, HK, H, HM, HF, HL, HR⟩ := hrel
        by_cases hlt3 : j < 3
        · have hj3 : j = 0 ∨ j = 1 ∨ j = 2 := by omega
          rcases hj3 with rfl | rfl | rfl
          · have x0 : wr.cell? ⟨M, 11, none⟩ = some (.slice a0 A.length ac) := HM.out.bx.cell rfl
            have HR2 : Hid (runR most (A.drop 0 ++ (U ++ D)) s' c = R0) := by unfold Hid; rw [← HR.out]; simp [secL]
            go_wp2_with fail
            clear x0 HR
            go_loopw [9, 39] (fun cv kv wr => ∃ (k c : Nat) (v' : Value) (s' : PS), kv = .int .i64 (k : Int) ∧ cv = .int .i64 (c : Int) ∧ k ≤ A.length ∧ c ≤ 65535 * 0 + k ∧ s'.out.size ≤ 17100000 ∧ Hid (POk s') ∧ Hid (Pk wr P Mb base v' s') ∧ Hid (MsgAt wr base M i0 i2 i9 b1 b3 b4 b5 b6 b7 b8 q0 a0 u0 d0 qc ac uc dc Q A U D) ∧ Hid (Fz w wr P Mb v) ∧ Hid (Loc w v v') ∧ Hid (runR most (A.drop k ++ (U ++ D)) s' c = R0)) (fun _ kv _ => A.length - (intOf kv).toNat)
            case atStart => exact ⟨0, c, v', s', rfl, rfl, Nat.zero_le _, by omega, hsz, HK, H, HM, HF, HL, HR2⟩
            case round =>
              clear HK H HM HF HL HR2 hsz hc
              obtain ⟨k, c, v', s', rfl, rfl, hk, hc, hsz, HK, H, HM, HF, HL, HR⟩ := hrel
              by_cases hlt : k < A.length
              · obtain ⟨gr, orr, rfl, hgr, e0, e1, e2, e3, e4⟩ := HM.out.a k hlt
                have hrk := hA _ (List.getElem_mem hlt)
                obtain ⟨hon, ⟨tn, ht, htl⟩, ⟨cn, hcn, hcl⟩, ⟨ln, hln, hll⟩, hdat⟩ := rOK_parts hrk
                have hst : A.drop k ++ (U ++ D) = A[k] :: (A.drop (k + 1) ++ (U ++ D)) := by rw [List.drop_eq_getElem_cons hlt]; rfl
                have HX : Hid (recR A[k] s' = recP A[k].o tn cn ln A[k].d s') := by unfold Hid recR; rw [ht, hcn, hln]; rfl
                have HOK := hide' (recR_ok hrk HK.out)
                rw [hst] at HR
                generalize A[k] = rr at *
                rw [ht] at e1 hdat
                rw [hcn] at e2
                rw [hln] at e3
                clear ht hcn hln hst
                obtain ⟨pv, cv, hpv, _⟩ := own_shape H.out.own
                subst hpv
                have HA := hide' (H.out.alloc (.cells #[.string rr.o, .int .i64 (tn : Int), .int .i64 (cn : Int), .int .i64 (ln : Int), .string rr.d] 59))
                have HFa := hide' (HF.out.trans (Fz.alloc wr P Mb (.slice pv s'.out.size cv) (.cells #[.string rr.o, .int .i64 (tn : Int), .int .i64 (cn : Int), .int .i64 (ln : Int), .string rr.d] 59)) HL.out)
                have y0 := HA.out.c0
                by_cases hmo : most < (s'.out.size : Int)
                · have HE : Hid (R0 = (s', c)) := by unfold Hid; rw [← HR.out, runR, if_pos hmo]
                  go_wp2_with fail
                  go_ret
                  rw [HE.out]
                  exact ⟨rfl, _, HA.out, HFa.out, HL.out⟩
                · have HR2 : Hid (runR most (A.drop (k + 1) ++ (U ++ D)) (recR rr s') (c + 1) = R0) := by unfold Hid; rw [← HR.out, runR, if_neg hmo]
                  go_wp2_with (go_at_call 41; refine (precord_any P Mb base _ s' rr.o tn cn ln rr.d _ HA.out hon htl hcl hll hdat HK.out (by omega)).mono ?_; rintro e w7 ⟨rfl, v7, r1, r2, r3⟩; have N1 : Hid (Pk w7 P Mb base v7 (recR rr s')) := HX.out ▸ r1; have HM7 := hide' (HM.out.low (((Fz.alloc wr P Mb (.slice pv s'.out.size cv) (.cells #[.string rr.o, .int .i64 (tn : Int), .int .i64 (cn : Int), .int .i64 (ln : Int), .string rr.d] 59)).trans r2 (Loc.refl _ _)).low H.out)); have HF7 := hide' (HFa.out.trans r2 HL.out); have HL7 := hide' (HL.out.trans HFa.out r3); clear r1 r2 r3)
                  have hs7 := HOK.out.2.1
                  go_roundw
                  case rel =>
                    (repeat apply Exists.intro)
                    refine ⟨?_, rfl⟩
                    exact ⟨k + 1, c + 1, v7, recR rr s', by go_num, by go_num, hlt, by omega, by omega, HOK.out.1, N1, HM7, HF7, HL7, HR2⟩
                  case measure => simp [intOf]; omega
              · obtain rfl : k = A.length := by omega
                have HR2 : Hid (runR most (secL A U D 1) s' c = R0) := by unfold Hid; rw [← HR.out, List.drop_length]; simp [secL]
                go_wp2_with fail
                refine ⟨⟨1, c, v', s', by go_num, rfl, by omega, by omega, hsz, HK, H, HM, HF, HL, HR2⟩, ?_⟩
                simp [intOf]
          · have x1 : wr.cell? ⟨M, 12, none⟩ = some (.slice u0 U.length uc) := HM.out.bx.cell rfl
            have HR2 : Hid (runR most (U.drop 0 ++ D) s' c = R0) := by unfold Hid; rw [← HR.out]; simp [secL]
            go_wp2_with fail
            clear x1 HR
            go_loopw [9, 39] (fun cv kv wr => ∃ (k c : Nat) (v' : Value) (s' : PS), kv = .int .i64 (k : Int) ∧ cv = .int .i64 (c : Int) ∧ k ≤ U.length ∧ c ≤ 65535 * 1 + k ∧ s'.out.size ≤ 17100000 ∧ Hid (POk s') ∧ Hid (Pk wr P Mb base v' s') ∧ Hid (MsgAt wr base M i0 i2 i9 b1 b3 b4 b5 b6 b7 b8 q0 a0 u0 d0 qc ac uc dc Q A U D) ∧ Hid (Fz w wr P Mb v) ∧ Hid (Loc w v v') ∧ Hid (runR most (U.drop k ++ D) s' c = R0)) (fun _ kv _ => U.length - (intOf kv).toNat)
            case atStart => exact ⟨0, c, v', s', rfl, rfl, Nat.zero_le _, by omega, hsz, HK, H, HM, HF, HL, HR2⟩
            case round =>
              clear HK H HM HF HL HR2 hsz hc
              obtain ⟨k, c, v', s', rfl, rfl, hk, hc, hsz, HK, H, HM, HF, HL, HR⟩ := hrel
              by_cases hlt : k < U.length
              · obtain ⟨gr, orr, rfl, hgr, e0, e1, e2, e3, e4⟩ := HM.out.u k hlt
                have hrk := hU _ (List.getElem_mem hlt)
                obtain ⟨hon, ⟨tn, ht, htl⟩, ⟨cn, hcn, hcl⟩, ⟨ln, hln, hll⟩, hdat⟩ := rOK_parts hrk
                have hst : U.drop k ++ D = U[k] :: (U.drop (k + 1) ++ D) := by rw [List.drop_eq_getElem_cons hlt]; rfl
                have HX : Hid (recR U[k] s' = recP U[k].o tn cn ln U[k].d s') := by unfold Hid recR; rw [ht, hcn, hln]; rfl
                have HOK := hide' (recR_ok hrk HK.out)
                rw [hst] at HR
                generalize U[k] = rr at *
                rw [ht] at e1 hdat
                rw [hcn] at e2
                rw [hln] at e3
                clear ht hcn hln hst
                obtain ⟨pv, cv, hpv, _⟩ := own_shape H.out.own
                subst hpv
                have HA := hide' (H.out.alloc (.cells #[.string rr.o, .int .i64 (tn : Int), .int .i64 (cn : Int), .int .i64 (ln : Int), .string rr.d] 59))
                have HFa := hide' (HF.out.trans (Fz.alloc wr P Mb (.slice pv s'.out.size cv) (.cells #[.string rr.o, .int .i64 (tn : Int), .int .i64 (cn : Int), .int .i64 (ln : Int), .string rr.d] 59)) HL.out)
                have y0 := HA.out.c0
                by_cases hmo : most < (s'.out.size : Int)
                · have HE : Hid (R0 = (s', c)) := by unfold Hid; rw [← HR.out, runR, if_pos hmo]
                  go_wp2_with fail
                  go_ret
                  rw [HE.out]
                  exact ⟨rfl, _, HA.out, HFa.out, HL.out⟩
                · have HR2 : Hid (runR most (U.drop (k + 1) ++ D) (recR rr s') (c + 1) = R0) := by unfold Hid; rw [← HR.out, runR, if_neg hmo]
                  go_wp2_with (go_at_call 41; refine (precord_any P Mb base _ s' rr.o tn cn ln rr.d _ HA.out hon htl hcl hll hdat HK.out (by omega)).mono ?_; rintro e w7 ⟨rfl, v7, r1, r2, r3⟩; have N1 : Hid (Pk w7 P Mb base v7 (recR rr s')) := HX.out ▸ r1; have HM7 := hide' (HM.out.low (((Fz.alloc wr P Mb (.slice pv s'.out.size cv) (.cells #[.string rr.o, .int .i64 (tn : Int), .int .i64 (cn : Int), .int .i64 (ln : Int), .string rr.d] 59)).trans r2 (Loc.refl _ _)).low H.out)); have HF7 := hide' (HFa.out.trans r2 HL.out); have HL7 := hide' (HL.out.trans HFa.out r3); clear r1 r2 r3)
                  have hs7 := HOK.out.2.1
                  go_roundw
                  case rel =>
                    (repeat apply Exists.intro)
                    refine ⟨?_, rfl⟩
                    exact ⟨k + 1, c + 1, v7, recR rr s', by go_num, by go_num, hlt, by omega, by omega, HOK.out.1, N1, HM7, HF7, HL7, HR2⟩
                  case measure => simp [intOf]; omega
              · obtain rfl : k = U.length := by omega
                have HR2 : Hid (runR most (secL A U D 2) s' c = R0) := by unfold Hid; rw [← HR.out, List.drop_length]; simp [secL]
                go_wp2_with fail
                refine ⟨⟨2, c, v', s', by go_num, rfl, by omega, by omega, hsz, HK, H, HM, HF, HL, HR2⟩, ?_⟩
                simp [intOf]
          · have x2 : wr.cell? ⟨M, 13, none⟩ = some (.slice d0 D.length dc) := HM.out.bx.cell rfl
            have HR2 : Hid (runR most (D.drop 0 ++ []) s' c = R0) := by unfold Hid; rw [← HR.out]; simp [secL]
            go_wp2_with fail
            clear x2 HR
            go_loopw [9, 39] (fun cv kv wr => ∃ (k c : Nat) (v' : Value) (s' : PS), kv = .int .i64 (k : Int) ∧ cv = .int .i64 (c : Int) ∧ k ≤ D.length ∧ c ≤ 65535 * 2 + k ∧ s'.out.size ≤ 17100000 ∧ Hid (POk s') ∧ Hid (Pk wr P Mb base v' s') ∧ Hid (MsgAt wr base M i0 i2 i9 b1 b3 b4 b5 b6 b7 b8 q0 a0 u0 d0 qc ac uc dc Q A U D) ∧ Hid (Fz w wr P Mb v) ∧ Hid (Loc w v v') ∧ Hid (runR most (D.drop k ++ []) s' c = R0)) (fun _ kv _ => D.length - (intOf kv).toNat)
            case atStart => exact ⟨0, c, v', s', rfl, rfl, Nat.zero_le _, by omega, hsz, HK, H, HM, HF, HL, HR2⟩
            case round =>
              clear HK H HM HF HL HR2 hsz hc
              obtain ⟨k, c, v', s', rfl, rfl, hk, hc, hsz, HK, H, HM, HF, HL, HR⟩ := hrel
              by_cases hlt : k < D.length
              · obtain ⟨gr, orr, rfl, hgr, e0, e1, e2, e3, e4⟩ := HM.out.d k hlt
                have hrk := hD _ (List.getElem_mem hlt)
                obtain ⟨hon, ⟨tn, ht, htl⟩, ⟨cn, hcn, hcl⟩, ⟨ln, hln, hll⟩, hdat⟩ := rOK_parts hrk
                have hst : D.drop k ++ [] = D[k] :: (D.drop (k + 1) ++ []) := by rw [List.drop_eq_getElem_cons hlt]; rfl
                have HX : Hid (recR D[k] s' = recP D[k].o tn cn ln D[k].d s') := by unfold Hid recR; rw [ht, hcn, hln]; rfl
                have HOK := hide' (recR_ok hrk HK.out)
                rw [hst] at HR
                generalize D[k] = rr at *
                rw [ht] at e1 hdat
                rw [hcn] at e2
                rw [hln] at e3
                clear ht hcn hln hst
                obtain ⟨pv, cv, hpv, _⟩ := own_shape H.out.own
                subst hpv
                have HA := hide' (H.out.alloc (.cells #[.string rr.o, .int .i64 (tn : Int), .int .i64 (cn : Int), .int .i64 (ln : Int), .string rr.d] 59))
                have HFa := hide' (HF.out.trans (Fz.alloc wr P Mb (.slice pv s'.out.size cv) (.cells #[.string rr.o, .int .i64 (tn : Int), .int .i64 (cn : Int), .int .i64 (ln : Int), .string rr.d] 59)) HL.out)
                have y0 := HA.out.c0
                by_cases hmo : most < (s'.out.size : Int)
                · have HE : Hid (R0 = (s', c)) := by unfold Hid; rw [← HR.out, runR, if_pos hmo]
                  go_wp2_with fail
                  go_ret
                  rw [HE.out]
                  exact ⟨rfl, _, HA.out, HFa.out, HL.out⟩
                · have HR2 : Hid (runR most (D.drop (k + 1) ++ []) (recR rr s') (c + 1) = R0) := by unfold Hid; rw [← HR.out, runR, if_neg hmo]
                  go_wp2_with (go_at_call 41; refine (precord_any P Mb base _ s' rr.o tn cn ln rr.d _ HA.out hon htl hcl hll hdat HK.out (by omega)).mono ?_; rintro e w7 ⟨rfl, v7, r1, r2, r3⟩; have N1 : Hid (Pk w7 P Mb base v7 (recR rr s')) := HX.out ▸ r1; have HM7 := hide' (HM.out.low (((Fz.alloc wr P Mb (.slice pv s'.out.size cv) (.cells #[.string rr.o, .int .i64 (tn : Int), .int .i64 (cn : Int), .int .i64 (ln : Int), .string rr.d] 59)).trans r2 (Loc.refl _ _)).low H.out)); have HF7 := hide' (HFa.out.trans r2 HL.out); have HL7 := hide' (HL.out.trans HFa.out r3); clear r1 r2 r3)
                  have hs7 := HOK.out.2.1
                  go_roundw
                  case rel =>
                    (repeat apply Exists.intro)
                    refine ⟨?_, rfl⟩
                    exact ⟨k + 1, c + 1, v7, recR rr s', by go_num, by go_num, hlt, by omega, by omega, HOK.out.1, N1, HM7, HF7, HL7, HR2⟩
                  case measure => simp [intOf]; omega
              · obtain rfl : k = D.length := by omega
                have HR2 : Hid (runR most (secL A U D 3) s' c = R0) := by unfold Hid; rw [← HR.out, List.drop_length]; simp [secL]
                go_wp2_with fail
                refine ⟨⟨3, c, v', s', by go_num, rfl, by omega, by omega, hsz, HK, H, HM, HF, HL, HR2⟩, ?_⟩
                simp [intOf]
        · obtain rfl : j = 3 := by omega
          have HE : Hid (R0 = (s', c)) := by unfold Hid; rw [← HR.out]; simp [secL, runR]
          go_wp2_with fail
          go_ret
          rw [HE.out]
          exact ⟨rfl, _, H.out, HF.out, HL.out⟩
end Go.Proofs.YtjnmbgmdkkiidaaGreat

namespace Go.Proofs.YtjnmbgmdkkiidaaGreat
set_option linter.unusedVariables false
open Go.RowKit Go.Shelf Go.Maps Go.Proofs.YtjnmbgmdkkiidaaGreat.Nm

def secF (A U D : List Rn) : Nat → List Rn
  | 0 => A
  | 1 => U
  | _ => D
/-- the lists of a message in memory -/
structure LsAt (w : World) (q0 a0 u0 d0 : Option Addr) (Q : List Qn) (A U D : List Rn) : Prop where
  q : QsAt w q0 Q
  a : RsAt w a0 A
  u : RsAt w u0 U
  d : RsAt w d0 D
  zqs : ∀ q ∈ Q, q.n.size ≤ maxLen
  zas : ∀ r ∈ A, r.o.size ≤ maxLen ∧ r.d.size ≤ 9223372036854775807
  zus : ∀ r ∈ U, r.o.size ≤ maxLen ∧ r.d.size ≤ 9223372036854775807
  zds : ∀ r ∈ D, r.o.size ≤ maxLen ∧ r.d.size ≤ 9223372036854775807
theorem qsAt_below {w w' : World} {p : Option Addr} {l : List Qn} (h : QsAt w p l) (hb : Below w.heap.size w w') : QsAt w' p l := fun k hk => by
  obtain ⟨g, off, h1, h2, h3, h4, h5⟩ := h k hk
  exact ⟨g, off, h1, Nat.lt_of_lt_of_le h2 hb.size, (hb.cell (p := ⟨g, off + k * 3, none⟩) h2).trans h3, (hb.cell (p := ⟨g, off + k * 3 + 1, none⟩) h2).trans h4, (hb.cell (p := ⟨g, off + k * 3 + 2, none⟩) h2).trans h5⟩
theorem rsAt_below {w w' : World} {p : Option Addr} {l : List Rn} (h : RsAt w p l) (hb : Below w.heap.size w w') : RsAt w' p l := fun k hk => by
  obtain ⟨g, off, h1, h2, h3, h4, h5, h6, h7⟩ := h k hk
  exact ⟨g, off, h1, Nat.lt_of_lt_of_le h2 hb.size, (hb.cell (p := ⟨g, off + k * 5, none⟩) h2).trans h3, (hb.cell (p := ⟨g, off + k * 5 + 1, none⟩) h2).trans h4, (hb.cell (p := ⟨g, off + k * 5 + 2, none⟩) h2).trans h5, (hb.cell (p := ⟨g, off + k * 5 + 3, none⟩) h2).trans h6, (hb.cell (p := ⟨g, off + k * 5 + 4, none⟩) h2).trans h7⟩
theorem LsAt.below {w w' : World} {q0 a0 u0 d0 : Option Addr} {Q : List Qn} {A U D : List Rn} (h : LsAt w q0 a0 u0 d0 Q A U D) (hb : Below w.heap.size w w') : LsAt w' q0 a0 u0 d0 Q A U D :=
  ⟨qsAt_below h.q hb, rsAt_below h.a hb, rsAt_below h.u hb, rsAt_below h.d hb, h.zqs, h.zas, h.zus, h.zds⟩
def lstOK (Q : List Qn) (A U D : List Rn) : Bool := Q.all qOK && (A.all rOK && U.all rOK && D.all rOK)
/-- wire.rightParts -/
theorem rightParts_any (g : Nat) (q0 a0 u0 d0 : Option Addr) (qc ac uc dc : Nat) (Q : List Qn) (A U D : List Rn) (w : World) (hg : g < w.heap.size) (hc : w.cell? ⟨g, 10, none⟩ = some (.slice q0 Q.length qc)) (hc1 : w.cell? ⟨g, 11, none⟩ = some (.slice a0 A.length ac)) (hc2 : w.cell? ⟨g, 12, none⟩ = some (.slice u0 U.length uc)) (hc3 : w.cell? ⟨g, 13, none⟩ = some (.slice d0 D.length dc)) (h : LsAt w q0 a0 u0 d0 Q A U D) (hq : Q.length ≤ 65535) (ha : A.length ≤ 65535) (hu : U.length ≤ 65535) (hd : D.length ≤ 65535) :
    Calls Tryz.prog 29 #[.pointer (some ⟨g, 0, none⟩)] w fun e w' => e = .returned (.bool (lstOK Q A U D)) ∧ Below w.heap.size w w' := by
  cases hQ : Q.all qOK with
  | false =>
    refine (rightParts_bad g 0 q0 qc Q w hg (by omega) (by simpa using hc) h.q h.zqs hQ).mono ?_
    rintro e w' ⟨rfl, hb⟩
    exact ⟨by unfold lstOK; rw [hQ]; rfl, hb⟩
  | true =>
    refine (rightParts_good g 0 q0 qc Q (fun m => match m with | 0 => a0 | 1 => u0 | _ => d0) (fun m => match m with | 0 => ac | 1 => uc | _ => dc) (secF A U D) w hg (by omega) (by simpa using hc) h.q h.zqs hQ (by simpa [secF] using hc1) (by simpa [secF] using hc2) (by simpa [secF] using hc3) ?_ ?_ ?_).mono ?_
    · intro m hm
      rcases (show m = 0 ∨ m = 1 ∨ m = 2 by omega) with rfl | rfl | rfl
      · exact h.a
      · exact h.u
      · exact h.d
    · intro m hm
      rcases (show m = 0 ∨ m = 1 ∨ m = 2 by omega) with rfl | rfl | rfl
      · show A.length ≤ _; omega
      · show U.length ≤ _; omega
      · show D.length ≤ _; omega
    · intro m hm
      rcases (show m = 0 ∨ m = 1 ∨ m = 2 by omega) with rfl | rfl | rfl
      · exact h.zas
      · exact h.zus
      · exact h.zds
    · rintro e w' ⟨rfl, hb⟩
      exact ⟨by unfold lstOK partsOK; rw [hQ]; rfl, hb⟩
/-- chapter 3's Check -/
def msgOK (i0 i2 i9 : Int) (Q : List Qn) (A U D : List Rn) : Bool :=
  fitsN i0 16 && fitsN i2 4 && fitsN i9 4 && decide (Q.length ≤ 65535) && decide (A.length ≤ 65535) && decide (U.length ≤ 65535) && decide (D.length ≤ 65535) && lstOK Q A U D
theorem fitsN_len (n : Nat) : fitsN (n : Int) 16 = decide (n ≤ 65535) := by
  unfold fitsN
  rw [decide_eq_decide]
  constructor <;> intro h <;> omega
end Go.Proofs.YtjnmbgmdkkiidaaGreat
