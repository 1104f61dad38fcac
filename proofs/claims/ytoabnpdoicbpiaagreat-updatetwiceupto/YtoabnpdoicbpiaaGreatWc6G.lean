import Derived.Test.YtoabnpdoicbpiaaGreatWc1G
import Derived.Test.YtoabnpdoicbpiaaGreatFt1G
import Derived.Test.YtoabnpdoicbpiaaGreatRn0G
import Derived.Laws.AppendOwnNone
import Derived.Lib.SliceRun
import Derived.Deep.Cut
import Derived.RegionTactic
import Derived.ChangeAlike
namespace Go.Proofs.YtoabnpdoicbpiaaGreat
set_option linter.unusedVariables false
open Go.RowKit Go.Shelf Go.Proofs.YtoabnpdoicbpiaaGreat.Nm
def rOK (r : Rn) : Bool := recOK r.o r.t r.c r.l r.d
theorem all_false_of {α : Type} (f : α → Bool) (L : List α) (k : Nat) (hk : k < L.length) (h : f L[k] = false) : L.all f = false := by
 rw [Bool.eq_false_iff]
 intro h2
 rw [List.all_eq_true] at h2
 rw [h2 _ (List.getElem_mem hk)] at h
 exact Bool.noConfusion h
def partsOK (S : Nat → List Rn) : Bool := (S 0).all rOK && (S 1).all rOK && (S 2).all rOK
set_option maxRecDepth 100000 in
set_option maxHeartbeats 4000000 in
theorem rightParts_good (g o : Nat) (p : Option Addr) (cap : Nat) (Q : List Qn) (P : Nat → Option Addr) (C : Nat → Nat) (S : Nat → List Rn) (w : World) (hg : g < w.heap.size) (hQl : Q.length ≤ 1048576) (hc : w.cell? ⟨g, o + 10, none⟩ = some (.slice p Q.length cap)) (hQ : QsAt w p Q) (hn : ∀ q ∈ Q, q.n.size ≤ maxLen) (hgood : Q.all qOK = true)
  (hs0 : w.cell? ⟨g, o + 11, none⟩ = some (.slice (P 0) (S 0).length (C 0))) (hs1 : w.cell? ⟨g, o + 12, none⟩ = some (.slice (P 1) (S 1).length (C 1))) (hs2 : w.cell? ⟨g, o + 13, none⟩ = some (.slice (P 2) (S 2).length (C 2)))
  (hS : ∀ m, m < 3 → RsAt w (P m) (S m)) (hSl : ∀ m, m < 3 → (S m).length ≤ 1048576) (hSn : ∀ m, m < 3 → ∀ r ∈ S m, r.o.size ≤ maxLen ∧ r.d.size ≤ 9223372036854775807) :
  Calls Tryz.prog 118 #[.pointer (some ⟨g, o, none⟩)] w fun e w' => e = .returned (.bool (partsOK S)) ∧ Below w.heap.size w w' := by
 go_enter Tryz.func118, Tryz.ntmps118
 go_wp2
 go_loopw [14] (fun i wr => ∃ k : Nat, i = .int .i64 k ∧ k ≤ Q.length ∧ Below w.heap.size w wr) (fun i _ => Q.length - (intOf i).toNat)
 case atStart => exact ⟨0, rfl, Nat.zero_le _, Below.refl _ _⟩
 case round =>
  obtain ⟨k, rfl, hk, hB⟩ := hrel
  by_cases hlt : k < Q.length
  ·obtain ⟨gq, oq, rfl, hgq, h0, h1, h2⟩ := hQ k hlt
   have hc0 := (hB.cell (p := ⟨gq, oq + k * 3, none⟩) hgq).trans h0
   have hc1 := (hB.cell (p := ⟨gq, oq + k * 3 + 1, none⟩) hgq).trans h1
   have hc2 := (hB.cell (p := ⟨gq, oq + k * 3 + 2, none⟩) hgq).trans h2
   have HH := hide' (fun w => rightHead_any Q[k].n Q[k].t Q[k].c w (hn _ (List.getElem_mem hlt)))
   have hq : headOK Q[k].n Q[k].t Q[k].c = true := (List.all_eq_true.1 hgood) _ (List.getElem_mem hlt)
   clear h0 h1 h2
   rw [hq] at HH
   generalize Q[k].n = qn at *
   generalize Q[k].t = qt at *
   generalize Q[k].c = qc at *
   go_wp2_with (go_at_call 135; refine (HH.out _).mono ?_; rintro e w1 ⟨rfl, hB1⟩)
   go_roundw
   case rel => exact ⟨k + 1, by go_num, by omega, bstep (hB.alloc hB.size _) hB1 (Nat.le_trans hB.size (by simp))⟩
   case measure => simp [intOf]; omega
  ·go_wp2_with (go_at_call 117; refine (sectionsOf_any g o _).mono ?_; rintro e w1 ⟨rfl, hB1⟩)
   have hB2 := bstep hB hB1 hB.size
   clear hB1 hlt hk
   go_loopw [24] (fun i wr => ∃ k : Nat, i = .int .i64 k ∧ k ≤ 3 ∧ (∀ m, m < k → (S m).all rOK = true) ∧ Below w.heap.size w wr) (fun i _ => 3 - (intOf i).toNat)
   case atStart => exact ⟨0, rfl, by omega, fun m hm => absurd hm (Nat.not_lt_zero _), hB2⟩
   case round =>
    clear hB hB2
    obtain ⟨k, rfl, hk, hT, hB⟩ := hrel
    rcases (show k = 3 ∨ k = 0 ∨ k = 1 ∨ k = 2 by omega) with rfl | rfl | rfl | rfl
    ·go_wp2
     go_ret
     exact ⟨by rw [show partsOK S = true by unfold partsOK; rw [hT 0 (by omega), hT 1 (by omega), hT 2 (by omega)]; rfl]; rfl, hB⟩
    ·have hs := (hB.cell (p := ⟨g, o + 11, none⟩) hg).trans hs0
     have hl := hSl 0 (by omega)
     have hx : ∀ v : World, Sem.run Tryz.prog (Instr.index 171 (.agg #[.pointer (some ⟨g, o + 11, none⟩), .pointer (some ⟨g, o + 12, none⟩), .pointer (some ⟨g, o + 13, none⟩)]) (.int .i64 0)) v = .ok (.pointer (some ⟨g, o + 11, none⟩)) v := fun v => by first | rfl | simp [go_sem, Instr.index]
     go_wp2
     go_loopw [31] (fun i wr => ∃ j : Nat, i = .int .i64 j ∧ j ≤ (S 0).length ∧ ((S 0).take j).all rOK = true ∧ Below w.heap.size w wr) (fun i _ => (S 0).length - (intOf i).toNat)
     case atStart => exact ⟨0, rfl, Nat.zero_le _, rfl, hB⟩
     case round =>
      clear hs hB
      obtain ⟨j, rfl, hj, hJ, hB⟩ := hrel
      by_cases hlt : j < (S 0).length
      ·obtain ⟨gr, or, hp, hgr, h0, h1, h2, h3, h4⟩ := hS 0 (by omega) j hlt
       have hc0 := (hB.cell (p := ⟨gr, or + j * 5, none⟩) hgr).trans h0
       have hc1 := (hB.cell (p := ⟨gr, or + j * 5 + 1, none⟩) hgr).trans h1
       have hc2 := (hB.cell (p := ⟨gr, or + j * 5 + 2, none⟩) hgr).trans h2
       have hc3 := (hB.cell (p := ⟨gr, or + j * 5 + 3, none⟩) hgr).trans h3
       have hc4 := (hB.cell (p := ⟨gr, or + j * 5 + 4, none⟩) hgr).trans h4
       have hsz := hSn 0 (by omega) _ (List.getElem_mem hlt)
       have HH := hide' (fun w => rightHead_any (S 0)[j].o (S 0)[j].t (S 0)[j].c w hsz.1)
       have HR := hide' (fun w => hasRoom_any (S 0)[j].l 32 w (by omega))
       have HD := hide' (fun w => rightData_any (S 0)[j].o (S 0)[j].t (S 0)[j].c (S 0)[j].l (S 0)[j].d w hsz.2)
       have hok : rOK (S 0)[j] = (headOK (S 0)[j].o (S 0)[j].t (S 0)[j].c && fitsN (S 0)[j].l 32 && dataOK (S 0)[j].t (S 0)[j].c (S 0)[j].d) := rfl
       have hno : rOK (S 0)[j] = false → partsOK S = false := fun h => by unfold partsOK; rw [all_false_of rOK (S 0) j hlt h]; simp
       have hye : rOK (S 0)[j] = true → ((S 0).take (j + 1)).all rOK = true := fun h => by rw [List.take_succ_eq_append_getElem hlt, List.all_append, hJ]; simp [h]
       generalize rOK (S 0)[j] = OK at *
       clear h0 h1 h2 h3 h4 hsz hs0 hs1 hs2 hSn hSl
       rw [hp] at *
       generalize (S 0)[j].o = ro at *
       generalize (S 0)[j].t = rt at *
       generalize (S 0)[j].c = rc at *
       generalize (S 0)[j].l = rl at *
       generalize (S 0)[j].d = rd at *
       have hB1 := fun x => (hB.alloc hB.size x)
       cases hh : headOK ro rt rc with
       | false =>
        rw [hh] at HH hok
        have HE : Hid (partsOK S = false) := hno hok
        clear hno hye hok hJ hT
        go_wp2_with (go_at_call 135; refine (HH.out _).mono ?_; rintro e w2 ⟨rfl, hB2⟩; have he0 : w2.cell? ⟨wr.heap.size, 0, none⟩ = some (.string ro) := (hB2.cell (by simp)).trans (by simp); have he1 : w2.cell? ⟨wr.heap.size, 1, none⟩ = some (.int .i64 rt) := (hB2.cell (by simp)).trans (by simp); have he2 : w2.cell? ⟨wr.heap.size, 2, none⟩ = some (.int .i64 rc) := (hB2.cell (by simp)).trans (by simp); have he3 : w2.cell? ⟨wr.heap.size, 3, none⟩ = some (.int .i64 rl) := (hB2.cell (by simp)).trans (by simp); have he4 : w2.cell? ⟨wr.heap.size, 4, none⟩ = some (.string rd) := (hB2.cell (by simp)).trans (by simp))
        go_ret
        exact ⟨by rw [HE.out]; rfl, bstep (hB1 _) hB2 (Nat.le_trans hB.size (by simp))⟩
       | true =>
        rw [hh] at HH hok
        cases hr : fitsN rl 32 with
        | false =>
         rw [hr] at HR hok
         have HE : Hid (partsOK S = false) := hno hok
         clear hno hye hok hJ hT
         go_wp2_with (first
          | (go_at_call 135; refine (HH.out _).mono ?_; rintro e w2 ⟨rfl, hB2⟩; have he0 : w2.cell? ⟨wr.heap.size, 0, none⟩ = some (.string ro) := (hB2.cell (by simp)).trans (by simp); have he1 : w2.cell? ⟨wr.heap.size, 1, none⟩ = some (.int .i64 rt) := (hB2.cell (by simp)).trans (by simp); have he2 : w2.cell? ⟨wr.heap.size, 2, none⟩ = some (.int .i64 rc) := (hB2.cell (by simp)).trans (by simp); have he3 : w2.cell? ⟨wr.heap.size, 3, none⟩ = some (.int .i64 rl) := (hB2.cell (by simp)).trans (by simp); have he4 : w2.cell? ⟨wr.heap.size, 4, none⟩ = some (.string rd) := (hB2.cell (by simp)).trans (by simp))
          | (go_at_call 116; refine (HR.out _).mono ?_; rintro e w3 ⟨rfl, rfl⟩))
         go_ret
         exact ⟨by rw [HE.out]; rfl, bstep (hB1 _) hB2 (Nat.le_trans hB.size (by simp))⟩
        | true =>
         rw [hr] at HR hok
         cases hd : dataOK rt rc rd with
         | false =>
          rw [hd] at HD hok
          have HE : Hid (partsOK S = false) := hno hok
          clear hno hye hok hJ hT
          go_wp2_with (first
           | (go_at_call 135; refine (HH.out _).mono ?_; rintro e w2 ⟨rfl, hB2⟩; have he0 : w2.cell? ⟨wr.heap.size, 0, none⟩ = some (.string ro) := (hB2.cell (by simp)).trans (by simp); have he1 : w2.cell? ⟨wr.heap.size, 1, none⟩ = some (.int .i64 rt) := (hB2.cell (by simp)).trans (by simp); have he2 : w2.cell? ⟨wr.heap.size, 2, none⟩ = some (.int .i64 rc) := (hB2.cell (by simp)).trans (by simp); have he3 : w2.cell? ⟨wr.heap.size, 3, none⟩ = some (.int .i64 rl) := (hB2.cell (by simp)).trans (by simp); have he4 : w2.cell? ⟨wr.heap.size, 4, none⟩ = some (.string rd) := (hB2.cell (by simp)).trans (by simp))
           | (go_at_call 116; refine (HR.out _).mono ?_; rintro e w3 ⟨rfl, rfl⟩)
           | (go_at_call 136; refine (HD.out _).mono ?_; rintro e w4 ⟨rfl, hB4⟩))
          go_ret
          exact ⟨by rw [HE.out]; rfl, bstep (bstep (hB1 _) hB2 (Nat.le_trans hB.size (by simp))) hB4 (Nat.le_trans hB.size (Nat.le_trans (by simp) hB2.size))⟩
         | true =>
          rw [hd] at HD hok
          have hJ2 := hye hok
          clear hno hye hok hJ
          go_wp2_with (first
           | (go_at_call 135; refine (HH.out _).mono ?_; rintro e w2 ⟨rfl, hB2⟩; have he0 : w2.cell? ⟨wr.heap.size, 0, none⟩ = some (.string ro) := (hB2.cell (by simp)).trans (by simp); have he1 : w2.cell? ⟨wr.heap.size, 1, none⟩ = some (.int .i64 rt) := (hB2.cell (by simp)).trans (by simp); have he2 : w2.cell? ⟨wr.heap.size, 2, none⟩ = some (.int .i64 rc) := (hB2.cell (by simp)).trans (by simp); have he3 : w2.cell? ⟨wr.heap.size, 3, none⟩ = some (.int .i64 rl) := (hB2.cell (by simp)).trans (by simp); have he4 : w2.cell? ⟨wr.heap.size, 4, none⟩ = some (.string rd) := (hB2.cell (by simp)).trans (by simp))
           | (go_at_call 116; refine (HR.out _).mono ?_; rintro e w3 ⟨rfl, rfl⟩)
           | (go_at_call 136; refine (HD.out _).mono ?_; rintro e w4 ⟨rfl, hB4⟩))
          go_roundw
          case rel =>
           refine ⟨_, _, _, _, _, _, _, _, _, _, _, _, _, _, _, _, _, _, _, _, _, _, _, _, _, _, _, ⟨j + 1, ?_, by omega, hJ2, bstep (bstep (hB1 _) hB2 (Nat.le_trans hB.size (by simp))) hB4 (Nat.le_trans hB.size (Nat.le_trans (by simp) hB2.size))⟩, rfl⟩
           go_num
          case measure => simp [intOf]; omega
      ·have hA : (S 0).all rOK = true := by rw [show (S 0).take j = S 0 from List.take_of_length_le (by omega)] at hJ; exact hJ
       go_wp2
       go_roundw
       case rel => exact ⟨0 + 1, by go_num, by omega, fun q hq => by rcases (show q < 0 ∨ q = 0 by omega) with h | rfl; exact hT q h; exact hA, hB⟩
       case measure => simp [intOf]
    ·have hs := (hB.cell (p := ⟨g, o + 12, none⟩) hg).trans hs1
     have hl := hSl 1 (by omega)
     have hx : ∀ v : World, Sem.run Tryz.prog (Instr.index 171 (.agg #[.pointer (some ⟨g, o + 11, none⟩), .pointer (some ⟨g, o + 12, none⟩), .pointer (some ⟨g, o + 13, none⟩)]) (.int .i64 1)) v = .ok (.pointer (some ⟨g, o + 12, none⟩)) v := fun v => by first | rfl | simp [go_sem, Instr.index]
     go_wp2
     go_loopw [31] (fun i wr => ∃ j : Nat, i = .int .i64 j ∧ j ≤ (S 1).length ∧ ((S 1).take j).all rOK = true ∧ Below w.heap.size w wr) (fun i _ => (S 1).length - (intOf i).toNat)
     case atStart => exact ⟨0, rfl, Nat.zero_le _, rfl, hB⟩
     case round =>
      clear hs hB
      obtain ⟨j, rfl, hj, hJ, hB⟩ := hrel
      by_cases hlt : j < (S 1).length
      ·obtain ⟨gr, or, hp, hgr, h0, h1, h2, h3, h4⟩ := hS 1 (by omega) j hlt
       have hc0 := (hB.cell (p := ⟨gr, or + j * 5, none⟩) hgr).trans h0
       have hc1 := (hB.cell (p := ⟨gr, or + j * 5 + 1, none⟩) hgr).trans h1
       have hc2 := (hB.cell (p := ⟨gr, or + j * 5 + 2, none⟩) hgr).trans h2
       have hc3 := (hB.cell (p := ⟨gr, or + j * 5 + 3, none⟩) hgr).trans h3
       have hc4 := (hB.cell (p := ⟨gr, or + j * 5 + 4, none⟩) hgr).trans h4
       have hsz := hSn 1 (by omega) _ (List.getElem_mem hlt)
       have HH := hide' (fun w => rightHead_any (S 1)[j].o (S 1)[j].t (S 1)[j].c w hsz.1)
       have HR := hide' (fun w => hasRoom_any (S 1)[j].l 32 w (by omega))
       have HD := hide' (fun w => rightData_any (S 1)[j].o (S 1)[j].t (S 1)[j].c (S 1)[j].l (S 1)[j].d w hsz.2)
       have hok : rOK (S 1)[j] = (headOK (S 1)[j].o (S 1)[j].t (S 1)[j].c && fitsN (S 1)[j].l 32 && dataOK (S 1)[j].t (S 1)[j].c (S 1)[j].d) := rfl
       have hno : rOK (S 1)[j] = false → partsOK S = false := fun h => by unfold partsOK; rw [all_false_of rOK (S 1) j hlt h]; simp
       have hye : rOK (S 1)[j] = true → ((S 1).take (j + 1)).all rOK = true := fun h => by rw [List.take_succ_eq_append_getElem hlt, List.all_append, hJ]; simp [h]
       generalize rOK (S 1)[j] = OK at *
       clear h0 h1 h2 h3 h4 hsz hs0 hs1 hs2 hSn hSl
       rw [hp] at *
       generalize (S 1)[j].o = ro at *
       generalize (S 1)[j].t = rt at *
       generalize (S 1)[j].c = rc at *
       generalize (S 1)[j].l = rl at *
       generalize (S 1)[j].d = rd at *
       have hB1 := fun x => (hB.alloc hB.size x)
       cases hh : headOK ro rt rc with
       | false =>
        rw [hh] at HH hok
        have HE : Hid (partsOK S = false) := hno hok
        clear hno hye hok hJ hT
        go_wp2_with (go_at_call 135; refine (HH.out _).mono ?_; rintro e w2 ⟨rfl, hB2⟩; have he0 : w2.cell? ⟨wr.heap.size, 0, none⟩ = some (.string ro) := (hB2.cell (by simp)).trans (by simp); have he1 : w2.cell? ⟨wr.heap.size, 1, none⟩ = some (.int .i64 rt) := (hB2.cell (by simp)).trans (by simp); have he2 : w2.cell? ⟨wr.heap.size, 2, none⟩ = some (.int .i64 rc) := (hB2.cell (by simp)).trans (by simp); have he3 : w2.cell? ⟨wr.heap.size, 3, none⟩ = some (.int .i64 rl) := (hB2.cell (by simp)).trans (by simp); have he4 : w2.cell? ⟨wr.heap.size, 4, none⟩ = some (.string rd) := (hB2.cell (by simp)).trans (by simp))
        go_ret
        exact ⟨by rw [HE.out]; rfl, bstep (hB1 _) hB2 (Nat.le_trans hB.size (by simp))⟩
       | true =>
        rw [hh] at HH hok
        cases hr : fitsN rl 32 with
        | false =>
         rw [hr] at HR hok
         have HE : Hid (partsOK S = false) := hno hok
         clear hno hye hok hJ hT
         go_wp2_with (first
          | (go_at_call 135; refine (HH.out _).mono ?_; rintro e w2 ⟨rfl, hB2⟩; have he0 : w2.cell? ⟨wr.heap.size, 0, none⟩ = some (.string ro) := (hB2.cell (by simp)).trans (by simp); have he1 : w2.cell? ⟨wr.heap.size, 1, none⟩ = some (.int .i64 rt) := (hB2.cell (by simp)).trans (by simp); have he2 : w2.cell? ⟨wr.heap.size, 2, none⟩ = some (.int .i64 rc) := (hB2.cell (by simp)).trans (by simp); have he3 : w2.cell? ⟨wr.heap.size, 3, none⟩ = some (.int .i64 rl) := (hB2.cell (by simp)).trans (by simp); have he4 : w2.cell? ⟨wr.heap.size, 4, none⟩ = some (.string rd) := (hB2.cell (by simp)).trans (by simp))
          | (go_at_call 116; refine (HR.out _).mono ?_; rintro e w3 ⟨rfl, rfl⟩))
         go_ret
         exact ⟨by rw [HE.out]; rfl, bstep (hB1 _) hB2 (Nat.le_trans hB.size (by simp))⟩
        | true =>
         rw [hr] at HR hok
         cases hd : dataOK rt rc rd with
         | false =>
          rw [hd] at HD hok
          have HE : Hid (partsOK S = false) := hno hok
          clear hno hye hok hJ hT
          go_wp2_with (first
           | (go_at_call 135; refine (HH.out _).mono ?_; rintro e w2 ⟨rfl, hB2⟩; have he0 : w2.cell? ⟨wr.heap.size, 0, none⟩ = some (.string ro) := (hB2.cell (by simp)).trans (by simp); have he1 : w2.cell? ⟨wr.heap.size, 1, none⟩ = some (.int .i64 rt) := (hB2.cell (by simp)).trans (by simp); have he2 : w2.cell? ⟨wr.heap.size, 2, none⟩ = some (.int .i64 rc) := (hB2.cell (by simp)).trans (by simp); have he3 : w2.cell? ⟨wr.heap.size, 3, none⟩ = some (.int .i64 rl) := (hB2.cell (by simp)).trans (by simp); have he4 : w2.cell? ⟨wr.heap.size, 4, none⟩ = some (.string rd) := (hB2.cell (by simp)).trans (by simp))
           | (go_at_call 116; refine (HR.out _).mono ?_; rintro e w3 ⟨rfl, rfl⟩)
           | (go_at_call 136; refine (HD.out _).mono ?_; rintro e w4 ⟨rfl, hB4⟩))
          go_ret
          exact ⟨by rw [HE.out]; rfl, bstep (bstep (hB1 _) hB2 (Nat.le_trans hB.size (by simp))) hB4 (Nat.le_trans hB.size (Nat.le_trans (by simp) hB2.size))⟩
         | true =>
          rw [hd] at HD hok
          have hJ2 := hye hok
          clear hno hye hok hJ
          go_wp2_with (first
           | (go_at_call 135; refine (HH.out _).mono ?_; rintro e w2 ⟨rfl, hB2⟩; have he0 : w2.cell? ⟨wr.heap.size, 0, none⟩ = some (.string ro) := (hB2.cell (by simp)).trans (by simp); have he1 : w2.cell? ⟨wr.heap.size, 1, none⟩ = some (.int .i64 rt) := (hB2.cell (by simp)).trans (by simp); have he2 : w2.cell? ⟨wr.heap.size, 2, none⟩ = some (.int .i64 rc) := (hB2.cell (by simp)).trans (by simp); have he3 : w2.cell? ⟨wr.heap.size, 3, none⟩ = some (.int .i64 rl) := (hB2.cell (by simp)).trans (by simp); have he4 : w2.cell? ⟨wr.heap.size, 4, none⟩ = some (.string rd) := (hB2.cell (by simp)).trans (by simp))
           | (go_at_call 116; refine (HR.out _).mono ?_; rintro e w3 ⟨rfl, rfl⟩)
           | (go_at_call 136; refine (HD.out _).mono ?_; rintro e w4 ⟨rfl, hB4⟩))
          go_roundw
          case rel =>
           refine ⟨_, _, _, _, _, _, _, _, _, _, _, _, _, _, _, _, _, _, _, _, _, _, _, _, _, _, _, ⟨j + 1, ?_, by omega, hJ2, bstep (bstep (hB1 _) hB2 (Nat.le_trans hB.size (by simp))) hB4 (Nat.le_trans hB.size (Nat.le_trans (by simp) hB2.size))⟩, rfl⟩
           go_num
          case measure => simp [intOf]; omega
      ·have hA : (S 1).all rOK = true := by rw [show (S 1).take j = S 1 from List.take_of_length_le (by omega)] at hJ; exact hJ
       go_wp2
       go_roundw
       case rel => exact ⟨1 + 1, by go_num, by omega, fun q hq => by rcases (show q < 1 ∨ q = 1 by omega) with h | rfl; exact hT q h; exact hA, hB⟩
       case measure => simp [intOf]
    ·have hs := (hB.cell (p := ⟨g, o + 13, none⟩) hg).trans hs2
     have hl := hSl 2 (by omega)
     have hx : ∀ v : World, Sem.run Tryz.prog (Instr.index 171 (.agg #[.pointer (some ⟨g, o + 11, none⟩), .pointer (some ⟨g, o + 12, none⟩), .pointer (some ⟨g, o + 13, none⟩)]) (.int .i64 2)) v = .ok (.pointer (some ⟨g, o + 13, none⟩)) v := fun v => by first | rfl | simp [go_sem, Instr.index]
     go_wp2
     go_loopw [31] (fun i wr => ∃ j : Nat, i = .int .i64 j ∧ j ≤ (S 2).length ∧ ((S 2).take j).all rOK = true ∧ Below w.heap.size w wr) (fun i _ => (S 2).length - (intOf i).toNat)
     case atStart => exact ⟨0, rfl, Nat.zero_le _, rfl, hB⟩
     case round =>
      clear hs hB
      obtain ⟨j, rfl, hj, hJ, hB⟩ := hrel
      by_cases hlt : j < (S 2).length
      ·obtain ⟨gr, or, hp, hgr, h0, h1, h2, h3, h4⟩ := hS 2 (by omega) j hlt
       have hc0 := (hB.cell (p := ⟨gr, or + j * 5, none⟩) hgr).trans h0
       have hc1 := (hB.cell (p := ⟨gr, or + j * 5 + 1, none⟩) hgr).trans h1
       have hc2 := (hB.cell (p := ⟨gr, or + j * 5 + 2, none⟩) hgr).trans h2
       have hc3 := (hB.cell (p := ⟨gr, or + j * 5 + 3, none⟩) hgr).trans h3
       have hc4 := (hB.cell (p := ⟨gr, or + j * 5 + 4, none⟩) hgr).trans h4
       have hsz := hSn 2 (by omega) _ (List.getElem_mem hlt)
       have HH := hide' (fun w => rightHead_any (S 2)[j].o (S 2)[j].t (S 2)[j].c w hsz.1)
       have HR := hide' (fun w => hasRoom_any (S 2)[j].l 32 w (by omega))
       have HD := hide' (fun w => rightData_any (S 2)[j].o (S 2)[j].t (S 2)[j].c (S 2)[j].l (S 2)[j].d w hsz.2)
       have hok : rOK (S 2)[j] = (headOK (S 2)[j].o (S 2)[j].t (S 2)[j].c && fitsN (S 2)[j].l 32 && dataOK (S 2)[j].t (S 2)[j].c (S 2)[j].d) := rfl
       have hno : rOK (S 2)[j] = false → partsOK S = false := fun h => by unfold partsOK; rw [all_false_of rOK (S 2) j hlt h]; simp
       have hye : rOK (S 2)[j] = true → ((S 2).take (j + 1)).all rOK = true := fun h => by rw [List.take_succ_eq_append_getElem hlt, List.all_append, hJ]; simp [h]
       generalize rOK (S 2)[j] = OK at *
       clear h0 h1 h2 h3 h4 hsz hs0 hs1 hs2 hSn hSl
       rw [hp] at *
       generalize (S 2)[j].o = ro at *
       generalize (S 2)[j].t = rt at *
       generalize (S 2)[j].c = rc at *
       generalize (S 2)[j].l = rl at *
       generalize (S 2)[j].d = rd at *
       have hB1 := fun x => (hB.alloc hB.size x)
       cases hh : headOK ro rt rc with
       | false =>
        rw [hh] at HH hok
        have HE : Hid (partsOK S = false) := hno hok
        clear hno hye hok hJ hT
        go_wp2_with (go_at_call 135; refine (HH.out _).mono ?_; rintro e w2 ⟨rfl, hB2⟩; have he0 : w2.cell? ⟨wr.heap.size, 0, none⟩ = some (.string ro) := (hB2.cell (by simp)).trans (by simp); have he1 : w2.cell? ⟨wr.heap.size, 1, none⟩ = some (.int .i64 rt) := (hB2.cell (by simp)).trans (by simp); have he2 : w2.cell? ⟨wr.heap.size, 2, none⟩ = some (.int .i64 rc) := (hB2.cell (by simp)).trans (by simp); have he3 : w2.cell? ⟨wr.heap.size, 3, none⟩ = some (.int .i64 rl) := (hB2.cell (by simp)).trans (by simp); have he4 : w2.cell? ⟨wr.heap.size, 4, none⟩ = some (.string rd) := (hB2.cell (by simp)).trans (by simp))
        go_ret
        exact ⟨by rw [HE.out]; rfl, bstep (hB1 _) hB2 (Nat.le_trans hB.size (by simp))⟩
       | true =>
        rw [hh] at HH hok
        cases hr : fitsN rl 32 with
        | false =>
         rw [hr] at HR hok
         have HE : Hid (partsOK S = false) := hno hok
         clear hno hye hok hJ hT
         go_wp2_with (first
          | (go_at_call 135; refine (HH.out _).mono ?_; rintro e w2 ⟨rfl, hB2⟩; have he0 : w2.cell? ⟨wr.heap.size, 0, none⟩ = some (.string ro) := (hB2.cell (by simp)).trans (by simp); have he1 : w2.cell? ⟨wr.heap.size, 1, none⟩ = some (.int .i64 rt) := (hB2.cell (by simp)).trans (by simp); have he2 : w2.cell? ⟨wr.heap.size, 2, none⟩ = some (.int .i64 rc) := (hB2.cell (by simp)).trans (by simp); have he3 : w2.cell? ⟨wr.heap.size, 3, none⟩ = some (.int .i64 rl) := (hB2.cell (by simp)).trans (by simp); have he4 : w2.cell? ⟨wr.heap.size, 4, none⟩ = some (.string rd) := (hB2.cell (by simp)).trans (by simp))
          | (go_at_call 116; refine (HR.out _).mono ?_; rintro e w3 ⟨rfl, rfl⟩))
         go_ret
         exact ⟨by rw [HE.out]; rfl, bstep (hB1 _) hB2 (Nat.le_trans hB.size (by simp))⟩
        | true =>
         rw [hr] at HR hok
         cases hd : dataOK rt rc rd with
         | false =>
          rw [hd] at HD hok
          have HE : Hid (partsOK S = false) := hno hok
          clear hno hye hok hJ hT
          go_wp2_with (first
           | (go_at_call 135; refine (HH.out _).mono ?_; rintro e w2 ⟨rfl, hB2⟩; have he0 : w2.cell? ⟨wr.heap.size, 0, none⟩ = some (.string ro) := (hB2.cell (by simp)).trans (by simp); have he1 : w2.cell? ⟨wr.heap.size, 1, none⟩ = some (.int .i64 rt) := (hB2.cell (by simp)).trans (by simp); have he2 : w2.cell? ⟨wr.heap.size, 2, none⟩ = some (.int .i64 rc) := (hB2.cell (by simp)).trans (by simp); have he3 : w2.cell? ⟨wr.heap.size, 3, none⟩ = some (.int .i64 rl) := (hB2.cell (by simp)).trans (by simp); have he4 : w2.cell? ⟨wr.heap.size, 4, none⟩ = some (.string rd) := (hB2.cell (by simp)).trans (by simp))
           | (go_at_call 116; refine (HR.out _).mono ?_; rintro e w3 ⟨rfl, rfl⟩)
           | (go_at_call 136; refine (HD.out _).mono ?_; rintro e w4 ⟨rfl, hB4⟩))
          go_ret
          exact ⟨by rw [HE.out]; rfl, bstep (bstep (hB1 _) hB2 (Nat.le_trans hB.size (by simp))) hB4 (Nat.le_trans hB.size (Nat.le_trans (by simp) hB2.size))⟩
         | true =>
          rw [hd] at HD hok
          have hJ2 := hye hok
          clear hno hye hok hJ
          go_wp2_with (first
           | (go_at_call 135; refine (HH.out _).mono ?_; rintro e w2 ⟨rfl, hB2⟩; have he0 : w2.cell? ⟨wr.heap.size, 0, none⟩ = some (.string ro) := (hB2.cell (by simp)).trans (by simp); have he1 : w2.cell? ⟨wr.heap.size, 1, none⟩ = some (.int .i64 rt) := (hB2.cell (by simp)).trans (by simp); have he2 : w2.cell? ⟨wr.heap.size, 2, none⟩ = some (.int .i64 rc) := (hB2.cell (by simp)).trans (by simp); have he3 : w2.cell? ⟨wr.heap.size, 3, none⟩ = some (.int .i64 rl) := (hB2.cell (by simp)).trans (by simp); have he4 : w2.cell? ⟨wr.heap.size, 4, none⟩ = some (.string rd) := (hB2.cell (by simp)).trans (by simp))
           | (go_at_call 116; refine (HR.out _).mono ?_; rintro e w3 ⟨rfl, rfl⟩)
           | (go_at_call 136; refine (HD.out _).mono ?_; rintro e w4 ⟨rfl, hB4⟩))
          go_roundw
          case rel =>
           refine ⟨_, _, _, _, _, _, _, _, _, _, _, _, _, _, _, _, _, _, _, _, _, _, _, _, _, _, _, ⟨j + 1, ?_, by omega, hJ2, bstep (bstep (hB1 _) hB2 (Nat.le_trans hB.size (by simp))) hB4 (Nat.le_trans hB.size (Nat.le_trans (by simp) hB2.size))⟩, rfl⟩
           go_num
          case measure => simp [intOf]; omega
      ·have hA : (S 2).all rOK = true := by rw [show (S 2).take j = S 2 from List.take_of_length_le (by omega)] at hJ; exact hJ
       go_wp2
       go_roundw
       case rel => exact ⟨2 + 1, by go_num, by omega, fun q hq => by rcases (show q < 2 ∨ q = 2 by omega) with h | rfl; exact hT q h; exact hA, hB⟩
       case measure => simp [intOf]
end Go.Proofs.YtoabnpdoicbpiaaGreat
namespace Go.Proofs.YtoabnpdoicbpiaaGreat
set_option linter.unusedVariables false
open Go.RowKit Go.Shelf Go.Maps Go.Proofs.YtoabnpdoicbpiaaGreat.Nm
structure LsAt (w : World) (q0 a0 u0 d0 : Option Addr) (Q : List Qn) (A U D : List Rn) : Prop where
 q : QsAt w q0 Q
 a : RsAt w a0 A
 u : RsAt w u0 U
 d : RsAt w d0 D
 zqs : ∀ q ∈ Q, q.n.size ≤ maxLen
 zas : ∀ r ∈ A, r.o.size ≤ maxLen ∧ r.d.size ≤ 9223372036854775807
 zus : ∀ r ∈ U, r.o.size ≤ maxLen ∧ r.d.size ≤ 9223372036854775807
 zds : ∀ r ∈ D, r.o.size ≤ maxLen ∧ r.d.size ≤ 9223372036854775807
theorem qsAt_below {w w' : World} {p : Option Addr} {l : List Qn} (h : QsAt w p l) (hb : Below w.heap.size w w') : QsAt w' p l := fun k hk => by
 obtain ⟨g, off, h1, h2, h3, h4, h5⟩ := h k hk
 exact ⟨g, off, h1, Nat.lt_of_lt_of_le h2 hb.size, (hb.cell (p := ⟨g, off + k * 3, none⟩) h2).trans h3, (hb.cell (p := ⟨g, off + k * 3 + 1, none⟩) h2).trans h4, (hb.cell (p := ⟨g, off + k * 3 + 2, none⟩) h2).trans h5⟩
theorem rsAt_below {w w' : World} {p : Option Addr} {l : List Rn} (h : RsAt w p l) (hb : Below w.heap.size w w') : RsAt w' p l := fun k hk => by
 obtain ⟨g, off, h1, h2, h3, h4, h5, h6, h7⟩ := h k hk
 exact ⟨g, off, h1, Nat.lt_of_lt_of_le h2 hb.size, (hb.cell (p := ⟨g, off + k * 5, none⟩) h2).trans h3, (hb.cell (p := ⟨g, off + k * 5 + 1, none⟩) h2).trans h4, (hb.cell (p := ⟨g, off + k * 5 + 2, none⟩) h2).trans h5, (hb.cell (p := ⟨g, off + k * 5 + 3, none⟩) h2).trans h6, (hb.cell (p := ⟨g, off + k * 5 + 4, none⟩) h2).trans h7⟩
theorem LsAt.below {w w' : World} {q0 a0 u0 d0 : Option Addr} {Q : List Qn} {A U D : List Rn} (h : LsAt w q0 a0 u0 d0 Q A U D) (hb : Below w.heap.size w w') : LsAt w' q0 a0 u0 d0 Q A U D :=
 ⟨qsAt_below h.q hb, rsAt_below h.a hb, rsAt_below h.u hb, rsAt_below h.d hb, h.zqs, h.zas, h.zus, h.zds⟩
end Go.Proofs.YtoabnpdoicbpiaaGreat
namespace Go.Proofs.YtoabnpdoicbpiaaGreat
set_option linter.unusedVariables false
open Go.RowKit Go.Shelf Go.Maps Go.Proofs.YtoabnpdoicbpiaaGreat.Nm
def secF (A U D : List Rn) : Nat → List Rn
 | 0 => A
 | 1 => U
 | _ => D
def lstOK (Q : List Qn) (A U D : List Rn) : Bool := Q.all qOK && (A.all rOK && U.all rOK && D.all rOK)
theorem rightParts_any (g : Nat) (q0 a0 u0 d0 : Option Addr) (qc ac uc dc : Nat) (Q : List Qn) (A U D : List Rn) (w : World) (hg : g < w.heap.size) (hc : w.cell? ⟨g, 10, none⟩ = some (.slice q0 Q.length qc)) (hc1 : w.cell? ⟨g, 11, none⟩ = some (.slice a0 A.length ac)) (hc2 : w.cell? ⟨g, 12, none⟩ = some (.slice u0 U.length uc)) (hc3 : w.cell? ⟨g, 13, none⟩ = some (.slice d0 D.length dc)) (h : LsAt w q0 a0 u0 d0 Q A U D) (hq : Q.length ≤ 65535) (ha : A.length ≤ 65535) (hu : U.length ≤ 65535) (hd : D.length ≤ 65535) :
  Calls Tryz.prog 118 #[.pointer (some ⟨g, 0, none⟩)] w fun e w' => e = .returned (.bool (lstOK Q A U D)) ∧ Below w.heap.size w w' := by
 cases hQ : Q.all qOK with
 | false =>
  refine (rightParts_bad g 0 q0 qc Q w hg (by omega) (by simpa using hc) h.q h.zqs hQ).mono ?_
  rintro e w' ⟨rfl, hb⟩
  exact ⟨by unfold lstOK; rw [hQ]; rfl, hb⟩
 | true =>
  refine (rightParts_good g 0 q0 qc Q (fun m => match m with | 0 => a0 | 1 => u0 | _ => d0) (fun m => match m with | 0 => ac | 1 => uc | _ => dc) (secF A U D) w hg (by omega) (by simpa using hc) h.q h.zqs hQ (by simpa [secF] using hc1) (by simpa [secF] using hc2) (by simpa [secF] using hc3) ?_ ?_ ?_).mono ?_
  ·intro m hm
   rcases (show m = 0 ∨ m = 1 ∨ m = 2 by omega) with rfl | rfl | rfl
   ·exact h.a
   ·exact h.u
   ·exact h.d
  ·intro m hm
   rcases (show m = 0 ∨ m = 1 ∨ m = 2 by omega) with rfl | rfl | rfl
   ·show A.length ≤ _; omega
   ·show U.length ≤ _; omega
   ·show D.length ≤ _; omega
  ·intro m hm
   rcases (show m = 0 ∨ m = 1 ∨ m = 2 by omega) with rfl | rfl | rfl
   ·exact h.zas
   ·exact h.zus
   ·exact h.zds
  ·rintro e w' ⟨rfl, hb⟩
   exact ⟨by unfold lstOK partsOK; rw [hQ]; rfl, hb⟩
def msgOK (i0 i2 i9 : Int) (Q : List Qn) (A U D : List Rn) : Bool :=
 fitsN i0 16 && fitsN i2 4 && fitsN i9 4 && decide (Q.length ≤ 65535) && decide (A.length ≤ 65535) && decide (U.length ≤ 65535) && decide (D.length ≤ 65535) && lstOK Q A U D
theorem fitsN_len (n : Nat) : fitsN (n : Int) 16 = decide (n ≤ 65535) := by
 unfold fitsN
 rw [decide_eq_decide]
 constructor <;> intro h <;> omega
end Go.Proofs.YtoabnpdoicbpiaaGreat
namespace Go.Proofs.YtoabnpdoicbpiaaGreat
set_option linter.unusedVariables false
open Go.RowKit Go.Shelf Go.Maps Go.Proofs.YtoabnpdoicbpiaaGreat.Nm
set_option maxRecDepth 100000 in
set_option maxHeartbeats 1000000 in
theorem wcheck_no0 (i0 i2 i9 : Int) (b1 b3 b4 b5 b6 b7 b8 : Bool) (q0 a0 u0 d0 : Option Addr) (qc ac uc dc : Nat) (Q : List Qn) (A U D : List Rn) (w : World) (hl : LsAt w q0 a0 u0 d0 Q A U D) (g0 : fitsN i0 16 = false) :
  Calls Tryz.prog 84 #[.agg #[.int .i64 i0, .bool b1, .int .i64 i2, .bool b3, .bool b4, .bool b5, .bool b6, .bool b7, .bool b8, .int .i64 i9, .slice q0 Q.length qc, .slice a0 A.length ac, .slice u0 U.length uc, .slice d0 D.length dc]] w fun e w' => e = .returned (.int .i64 8) ∧ Below w.heap.size w w' := by
 have HX : Hid (Bx (w.alloc (.cells #[.int .i64 i0, .bool b1, .int .i64 i2, .bool b3, .bool b4, .bool b5, .bool b6, .bool b7, .bool b8, .int .i64 i9, .slice q0 Q.length qc, .slice a0 A.length ac, .slice u0 U.length uc, .slice d0 D.length dc] 33)) w.heap.size #[.int .i64 i0, .bool b1, .int .i64 i2, .bool b3, .bool b4, .bool b5, .bool b6, .bool b7, .bool b8, .int .i64 i9, .slice q0 Q.length qc, .slice a0 A.length ac, .slice u0 U.length uc, .slice d0 D.length dc] 33) := World.alloc_heap_new w _
 have HB := hide' ((Below.refl w.heap.size w).alloc (Nat.le_refl _) (.cells #[.int .i64 i0, .bool b1, .int .i64 i2, .bool b3, .bool b4, .bool b5, .bool b6, .bool b7, .bool b8, .int .i64 i9, .slice q0 Q.length qc, .slice a0 A.length ac, .slice u0 U.length uc, .slice d0 D.length dc] 33))
 have HW := hide' (hl.below ((Below.refl w.heap.size w).alloc (Nat.le_refl _) (.cells #[.int .i64 i0, .bool b1, .int .i64 i2, .bool b3, .bool b4, .bool b5, .bool b6, .bool b7, .bool b8, .int .i64 i9, .slice q0 Q.length qc, .slice a0 A.length ac, .slice u0 U.length uc, .slice d0 D.length dc] 33)))
 have hx0 : ∀ W : World, Sem.run Tryz.prog (Instr.index 171 (.agg #[.pointer (some ⟨w.heap.size, 11, none⟩), .pointer (some ⟨w.heap.size, 12, none⟩), .pointer (some ⟨w.heap.size, 13, none⟩)]) (.int .i64 0)) W = .ok (.pointer (some ⟨w.heap.size, 11, none⟩)) W := fun W => by first | rfl | simp [go_sem, Instr.index]
 have hx1 : ∀ W : World, Sem.run Tryz.prog (Instr.index 171 (.agg #[.pointer (some ⟨w.heap.size, 11, none⟩), .pointer (some ⟨w.heap.size, 12, none⟩), .pointer (some ⟨w.heap.size, 13, none⟩)]) (.int .i64 1)) W = .ok (.pointer (some ⟨w.heap.size, 12, none⟩)) W := fun W => by first | rfl | simp [go_sem, Instr.index]
 have hx2 : ∀ W : World, Sem.run Tryz.prog (Instr.index 171 (.agg #[.pointer (some ⟨w.heap.size, 11, none⟩), .pointer (some ⟨w.heap.size, 12, none⟩), .pointer (some ⟨w.heap.size, 13, none⟩)]) (.int .i64 2)) W = .ok (.pointer (some ⟨w.heap.size, 13, none⟩)) W := fun W => by first | rfl | simp [go_sem, Instr.index]
 clear hl
 go_enter Tryz.func84, Tryz.ntmps84
 go_wp2_with (first
  | (go_at_call 116; refine (hasRoom_any _ _ _ (by decide)).mono ?_; rintro e wh ⟨rfl, hwh⟩; have hwh' := hwh.symm; subst hwh')
  | (go_at_call 117; refine (sectionsOf_any w.heap.size 0 _).mono ?_; rintro e w5 ⟨rfl, hB⟩; have HX5 : Hid (Bx w5 w.heap.size #[.int .i64 i0, .bool b1, .int .i64 i2, .bool b3, .bool b4, .bool b5, .bool b6, .bool b7, .bool b8, .int .i64 i9, .slice q0 Q.length qc, .slice a0 A.length ac, .slice u0 U.length uc, .slice d0 D.length dc] 33) := HX.out.below hB HX.out.lt; have x11 : w5.cell? ⟨w.heap.size, 11, none⟩ = some (.slice a0 A.length ac) := HX5.out.cell rfl; have x12 : w5.cell? ⟨w.heap.size, 12, none⟩ = some (.slice u0 U.length uc) := HX5.out.cell rfl; have x13 : w5.cell? ⟨w.heap.size, 13, none⟩ = some (.slice d0 D.length dc) := HX5.out.cell rfl; have HB5 := hide' (bstep HB.out hB HB.out.size); have HW5 := hide' (HW.out.below hB); clear hB))
 refine wp_loop_rounds 4 ?_
 rw [rounds_succ]
 go_wp2_with (go_at_call 116; refine (hasRoom_any _ _ _ (by decide)).mono ?_; rintro e wh ⟨rfl, hwh⟩; have hwh' := hwh.symm; subst hwh')
 rw [rounds_succ]
 go_wp2_with (go_at_call 116; refine (hasRoom_any _ _ _ (by decide)).mono ?_; rintro e wh ⟨rfl, hwh⟩; have hwh' := hwh.symm; subst hwh')
 rw [rounds_succ]
 go_wp2_with (go_at_call 116; refine (hasRoom_any _ _ _ (by decide)).mono ?_; rintro e wh ⟨rfl, hwh⟩; have hwh' := hwh.symm; subst hwh')
 rw [rounds_succ]
 go_wp2_with fail
 go_ret
 exact ⟨rfl, HB5.out⟩
set_option maxRecDepth 100000 in
set_option maxHeartbeats 1000000 in
theorem wcheck_no1 (i0 i2 i9 : Int) (b1 b3 b4 b5 b6 b7 b8 : Bool) (q0 a0 u0 d0 : Option Addr) (qc ac uc dc : Nat) (Q : List Qn) (A U D : List Rn) (w : World) (hl : LsAt w q0 a0 u0 d0 Q A U D) (g0 : fitsN i0 16 = true) (g2 : fitsN i2 4 = false) :
  Calls Tryz.prog 84 #[.agg #[.int .i64 i0, .bool b1, .int .i64 i2, .bool b3, .bool b4, .bool b5, .bool b6, .bool b7, .bool b8, .int .i64 i9, .slice q0 Q.length qc, .slice a0 A.length ac, .slice u0 U.length uc, .slice d0 D.length dc]] w fun e w' => e = .returned (.int .i64 8) ∧ Below w.heap.size w w' := by
 have HX : Hid (Bx (w.alloc (.cells #[.int .i64 i0, .bool b1, .int .i64 i2, .bool b3, .bool b4, .bool b5, .bool b6, .bool b7, .bool b8, .int .i64 i9, .slice q0 Q.length qc, .slice a0 A.length ac, .slice u0 U.length uc, .slice d0 D.length dc] 33)) w.heap.size #[.int .i64 i0, .bool b1, .int .i64 i2, .bool b3, .bool b4, .bool b5, .bool b6, .bool b7, .bool b8, .int .i64 i9, .slice q0 Q.length qc, .slice a0 A.length ac, .slice u0 U.length uc, .slice d0 D.length dc] 33) := World.alloc_heap_new w _
 have HB := hide' ((Below.refl w.heap.size w).alloc (Nat.le_refl _) (.cells #[.int .i64 i0, .bool b1, .int .i64 i2, .bool b3, .bool b4, .bool b5, .bool b6, .bool b7, .bool b8, .int .i64 i9, .slice q0 Q.length qc, .slice a0 A.length ac, .slice u0 U.length uc, .slice d0 D.length dc] 33))
 have HW := hide' (hl.below ((Below.refl w.heap.size w).alloc (Nat.le_refl _) (.cells #[.int .i64 i0, .bool b1, .int .i64 i2, .bool b3, .bool b4, .bool b5, .bool b6, .bool b7, .bool b8, .int .i64 i9, .slice q0 Q.length qc, .slice a0 A.length ac, .slice u0 U.length uc, .slice d0 D.length dc] 33)))
 have hx0 : ∀ W : World, Sem.run Tryz.prog (Instr.index 171 (.agg #[.pointer (some ⟨w.heap.size, 11, none⟩), .pointer (some ⟨w.heap.size, 12, none⟩), .pointer (some ⟨w.heap.size, 13, none⟩)]) (.int .i64 0)) W = .ok (.pointer (some ⟨w.heap.size, 11, none⟩)) W := fun W => by first | rfl | simp [go_sem, Instr.index]
 have hx1 : ∀ W : World, Sem.run Tryz.prog (Instr.index 171 (.agg #[.pointer (some ⟨w.heap.size, 11, none⟩), .pointer (some ⟨w.heap.size, 12, none⟩), .pointer (some ⟨w.heap.size, 13, none⟩)]) (.int .i64 1)) W = .ok (.pointer (some ⟨w.heap.size, 12, none⟩)) W := fun W => by first | rfl | simp [go_sem, Instr.index]
 have hx2 : ∀ W : World, Sem.run Tryz.prog (Instr.index 171 (.agg #[.pointer (some ⟨w.heap.size, 11, none⟩), .pointer (some ⟨w.heap.size, 12, none⟩), .pointer (some ⟨w.heap.size, 13, none⟩)]) (.int .i64 2)) W = .ok (.pointer (some ⟨w.heap.size, 13, none⟩)) W := fun W => by first | rfl | simp [go_sem, Instr.index]
 clear hl
 go_enter Tryz.func84, Tryz.ntmps84
 go_wp2_with (first
  | (go_at_call 116; refine (hasRoom_any _ _ _ (by decide)).mono ?_; rintro e wh ⟨rfl, hwh⟩; have hwh' := hwh.symm; subst hwh')
  | (go_at_call 117; refine (sectionsOf_any w.heap.size 0 _).mono ?_; rintro e w5 ⟨rfl, hB⟩; have HX5 : Hid (Bx w5 w.heap.size #[.int .i64 i0, .bool b1, .int .i64 i2, .bool b3, .bool b4, .bool b5, .bool b6, .bool b7, .bool b8, .int .i64 i9, .slice q0 Q.length qc, .slice a0 A.length ac, .slice u0 U.length uc, .slice d0 D.length dc] 33) := HX.out.below hB HX.out.lt; have x11 : w5.cell? ⟨w.heap.size, 11, none⟩ = some (.slice a0 A.length ac) := HX5.out.cell rfl; have x12 : w5.cell? ⟨w.heap.size, 12, none⟩ = some (.slice u0 U.length uc) := HX5.out.cell rfl; have x13 : w5.cell? ⟨w.heap.size, 13, none⟩ = some (.slice d0 D.length dc) := HX5.out.cell rfl; have HB5 := hide' (bstep HB.out hB HB.out.size); have HW5 := hide' (HW.out.below hB); clear hB))
 refine wp_loop_rounds 4 ?_
 rw [rounds_succ]
 go_wp2_with (go_at_call 116; refine (hasRoom_any _ _ _ (by decide)).mono ?_; rintro e wh ⟨rfl, hwh⟩; have hwh' := hwh.symm; subst hwh')
 rw [rounds_succ]
 go_wp2_with (go_at_call 116; refine (hasRoom_any _ _ _ (by decide)).mono ?_; rintro e wh ⟨rfl, hwh⟩; have hwh' := hwh.symm; subst hwh')
 rw [rounds_succ]
 go_wp2_with (go_at_call 116; refine (hasRoom_any _ _ _ (by decide)).mono ?_; rintro e wh ⟨rfl, hwh⟩; have hwh' := hwh.symm; subst hwh')
 rw [rounds_succ]
 go_wp2_with fail
 go_ret
 exact ⟨rfl, HB5.out⟩
set_option maxRecDepth 100000 in
set_option maxHeartbeats 1000000 in
theorem wcheck_no2 (i0 i2 i9 : Int) (b1 b3 b4 b5 b6 b7 b8 : Bool) (q0 a0 u0 d0 : Option Addr) (qc ac uc dc : Nat) (Q : List Qn) (A U D : List Rn) (w : World) (hl : LsAt w q0 a0 u0 d0 Q A U D) (g0 : fitsN i0 16 = true) (g2 : fitsN i2 4 = true) (g9 : fitsN i9 4 = false) :
  Calls Tryz.prog 84 #[.agg #[.int .i64 i0, .bool b1, .int .i64 i2, .bool b3, .bool b4, .bool b5, .bool b6, .bool b7, .bool b8, .int .i64 i9, .slice q0 Q.length qc, .slice a0 A.length ac, .slice u0 U.length uc, .slice d0 D.length dc]] w fun e w' => e = .returned (.int .i64 8) ∧ Below w.heap.size w w' := by
 have HX : Hid (Bx (w.alloc (.cells #[.int .i64 i0, .bool b1, .int .i64 i2, .bool b3, .bool b4, .bool b5, .bool b6, .bool b7, .bool b8, .int .i64 i9, .slice q0 Q.length qc, .slice a0 A.length ac, .slice u0 U.length uc, .slice d0 D.length dc] 33)) w.heap.size #[.int .i64 i0, .bool b1, .int .i64 i2, .bool b3, .bool b4, .bool b5, .bool b6, .bool b7, .bool b8, .int .i64 i9, .slice q0 Q.length qc, .slice a0 A.length ac, .slice u0 U.length uc, .slice d0 D.length dc] 33) := World.alloc_heap_new w _
 have HB := hide' ((Below.refl w.heap.size w).alloc (Nat.le_refl _) (.cells #[.int .i64 i0, .bool b1, .int .i64 i2, .bool b3, .bool b4, .bool b5, .bool b6, .bool b7, .bool b8, .int .i64 i9, .slice q0 Q.length qc, .slice a0 A.length ac, .slice u0 U.length uc, .slice d0 D.length dc] 33))
 have HW := hide' (hl.below ((Below.refl w.heap.size w).alloc (Nat.le_refl _) (.cells #[.int .i64 i0, .bool b1, .int .i64 i2, .bool b3, .bool b4, .bool b5, .bool b6, .bool b7, .bool b8, .int .i64 i9, .slice q0 Q.length qc, .slice a0 A.length ac, .slice u0 U.length uc, .slice d0 D.length dc] 33)))
 have hx0 : ∀ W : World, Sem.run Tryz.prog (Instr.index 171 (.agg #[.pointer (some ⟨w.heap.size, 11, none⟩), .pointer (some ⟨w.heap.size, 12, none⟩), .pointer (some ⟨w.heap.size, 13, none⟩)]) (.int .i64 0)) W = .ok (.pointer (some ⟨w.heap.size, 11, none⟩)) W := fun W => by first | rfl | simp [go_sem, Instr.index]
 have hx1 : ∀ W : World, Sem.run Tryz.prog (Instr.index 171 (.agg #[.pointer (some ⟨w.heap.size, 11, none⟩), .pointer (some ⟨w.heap.size, 12, none⟩), .pointer (some ⟨w.heap.size, 13, none⟩)]) (.int .i64 1)) W = .ok (.pointer (some ⟨w.heap.size, 12, none⟩)) W := fun W => by first | rfl | simp [go_sem, Instr.index]
 have hx2 : ∀ W : World, Sem.run Tryz.prog (Instr.index 171 (.agg #[.pointer (some ⟨w.heap.size, 11, none⟩), .pointer (some ⟨w.heap.size, 12, none⟩), .pointer (some ⟨w.heap.size, 13, none⟩)]) (.int .i64 2)) W = .ok (.pointer (some ⟨w.heap.size, 13, none⟩)) W := fun W => by first | rfl | simp [go_sem, Instr.index]
 clear hl
 go_enter Tryz.func84, Tryz.ntmps84
 go_wp2_with (first
  | (go_at_call 116; refine (hasRoom_any _ _ _ (by decide)).mono ?_; rintro e wh ⟨rfl, hwh⟩; have hwh' := hwh.symm; subst hwh')
  | (go_at_call 117; refine (sectionsOf_any w.heap.size 0 _).mono ?_; rintro e w5 ⟨rfl, hB⟩; have HX5 : Hid (Bx w5 w.heap.size #[.int .i64 i0, .bool b1, .int .i64 i2, .bool b3, .bool b4, .bool b5, .bool b6, .bool b7, .bool b8, .int .i64 i9, .slice q0 Q.length qc, .slice a0 A.length ac, .slice u0 U.length uc, .slice d0 D.length dc] 33) := HX.out.below hB HX.out.lt; have x11 : w5.cell? ⟨w.heap.size, 11, none⟩ = some (.slice a0 A.length ac) := HX5.out.cell rfl; have x12 : w5.cell? ⟨w.heap.size, 12, none⟩ = some (.slice u0 U.length uc) := HX5.out.cell rfl; have x13 : w5.cell? ⟨w.heap.size, 13, none⟩ = some (.slice d0 D.length dc) := HX5.out.cell rfl; have HB5 := hide' (bstep HB.out hB HB.out.size); have HW5 := hide' (HW.out.below hB); clear hB))
 refine wp_loop_rounds 4 ?_
 rw [rounds_succ]
 go_wp2_with (go_at_call 116; refine (hasRoom_any _ _ _ (by decide)).mono ?_; rintro e wh ⟨rfl, hwh⟩; have hwh' := hwh.symm; subst hwh')
 rw [rounds_succ]
 go_wp2_with (go_at_call 116; refine (hasRoom_any _ _ _ (by decide)).mono ?_; rintro e wh ⟨rfl, hwh⟩; have hwh' := hwh.symm; subst hwh')
 rw [rounds_succ]
 go_wp2_with (go_at_call 116; refine (hasRoom_any _ _ _ (by decide)).mono ?_; rintro e wh ⟨rfl, hwh⟩; have hwh' := hwh.symm; subst hwh')
 rw [rounds_succ]
 go_wp2_with fail
 go_ret
 exact ⟨rfl, HB5.out⟩
set_option maxRecDepth 100000 in
set_option maxHeartbeats 1000000 in
theorem wcheck_no3 (i0 i2 i9 : Int) (b1 b3 b4 b5 b6 b7 b8 : Bool) (q0 a0 u0 d0 : Option Addr) (qc ac uc dc : Nat) (Q : List Qn) (A U D : List Rn) (w : World) (hl : LsAt w q0 a0 u0 d0 Q A U D) (g0 : fitsN i0 16 = true) (g2 : fitsN i2 4 = true) (g9 : fitsN i9 4 = true) (gq : fitsN (Q.length : Int) 16 = false) :
  Calls Tryz.prog 84 #[.agg #[.int .i64 i0, .bool b1, .int .i64 i2, .bool b3, .bool b4, .bool b5, .bool b6, .bool b7, .bool b8, .int .i64 i9, .slice q0 Q.length qc, .slice a0 A.length ac, .slice u0 U.length uc, .slice d0 D.length dc]] w fun e w' => e = .returned (.int .i64 8) ∧ Below w.heap.size w w' := by
 have HX : Hid (Bx (w.alloc (.cells #[.int .i64 i0, .bool b1, .int .i64 i2, .bool b3, .bool b4, .bool b5, .bool b6, .bool b7, .bool b8, .int .i64 i9, .slice q0 Q.length qc, .slice a0 A.length ac, .slice u0 U.length uc, .slice d0 D.length dc] 33)) w.heap.size #[.int .i64 i0, .bool b1, .int .i64 i2, .bool b3, .bool b4, .bool b5, .bool b6, .bool b7, .bool b8, .int .i64 i9, .slice q0 Q.length qc, .slice a0 A.length ac, .slice u0 U.length uc, .slice d0 D.length dc] 33) := World.alloc_heap_new w _
 have HB := hide' ((Below.refl w.heap.size w).alloc (Nat.le_refl _) (.cells #[.int .i64 i0, .bool b1, .int .i64 i2, .bool b3, .bool b4, .bool b5, .bool b6, .bool b7, .bool b8, .int .i64 i9, .slice q0 Q.length qc, .slice a0 A.length ac, .slice u0 U.length uc, .slice d0 D.length dc] 33))
 have HW := hide' (hl.below ((Below.refl w.heap.size w).alloc (Nat.le_refl _) (.cells #[.int .i64 i0, .bool b1, .int .i64 i2, .bool b3, .bool b4, .bool b5, .bool b6, .bool b7, .bool b8, .int .i64 i9, .slice q0 Q.length qc, .slice a0 A.length ac, .slice u0 U.length uc, .slice d0 D.length dc] 33)))
 have hx0 : ∀ W : World, Sem.run Tryz.prog (Instr.index 171 (.agg #[.pointer (some ⟨w.heap.size, 11, none⟩), .pointer (some ⟨w.heap.size, 12, none⟩), .pointer (some ⟨w.heap.size, 13, none⟩)]) (.int .i64 0)) W = .ok (.pointer (some ⟨w.heap.size, 11, none⟩)) W := fun W => by first | rfl | simp [go_sem, Instr.index]
 have hx1 : ∀ W : World, Sem.run Tryz.prog (Instr.index 171 (.agg #[.pointer (some ⟨w.heap.size, 11, none⟩), .pointer (some ⟨w.heap.size, 12, none⟩), .pointer (some ⟨w.heap.size, 13, none⟩)]) (.int .i64 1)) W = .ok (.pointer (some ⟨w.heap.size, 12, none⟩)) W := fun W => by first | rfl | simp [go_sem, Instr.index]
 have hx2 : ∀ W : World, Sem.run Tryz.prog (Instr.index 171 (.agg #[.pointer (some ⟨w.heap.size, 11, none⟩), .pointer (some ⟨w.heap.size, 12, none⟩), .pointer (some ⟨w.heap.size, 13, none⟩)]) (.int .i64 2)) W = .ok (.pointer (some ⟨w.heap.size, 13, none⟩)) W := fun W => by first | rfl | simp [go_sem, Instr.index]
 clear hl
 go_enter Tryz.func84, Tryz.ntmps84
 go_wp2_with (first
  | (go_at_call 116; refine (hasRoom_any _ _ _ (by decide)).mono ?_; rintro e wh ⟨rfl, hwh⟩; have hwh' := hwh.symm; subst hwh')
  | (go_at_call 117; refine (sectionsOf_any w.heap.size 0 _).mono ?_; rintro e w5 ⟨rfl, hB⟩; have HX5 : Hid (Bx w5 w.heap.size #[.int .i64 i0, .bool b1, .int .i64 i2, .bool b3, .bool b4, .bool b5, .bool b6, .bool b7, .bool b8, .int .i64 i9, .slice q0 Q.length qc, .slice a0 A.length ac, .slice u0 U.length uc, .slice d0 D.length dc] 33) := HX.out.below hB HX.out.lt; have x11 : w5.cell? ⟨w.heap.size, 11, none⟩ = some (.slice a0 A.length ac) := HX5.out.cell rfl; have x12 : w5.cell? ⟨w.heap.size, 12, none⟩ = some (.slice u0 U.length uc) := HX5.out.cell rfl; have x13 : w5.cell? ⟨w.heap.size, 13, none⟩ = some (.slice d0 D.length dc) := HX5.out.cell rfl; have HB5 := hide' (bstep HB.out hB HB.out.size); have HW5 := hide' (HW.out.below hB); clear hB))
 refine wp_loop_rounds 4 ?_
 rw [rounds_succ]
 go_wp2_with (go_at_call 116; refine (hasRoom_any _ _ _ (by decide)).mono ?_; rintro e wh ⟨rfl, hwh⟩; have hwh' := hwh.symm; subst hwh')
 rw [rounds_succ]
 go_wp2_with (go_at_call 116; refine (hasRoom_any _ _ _ (by decide)).mono ?_; rintro e wh ⟨rfl, hwh⟩; have hwh' := hwh.symm; subst hwh')
 rw [rounds_succ]
 go_wp2_with (go_at_call 116; refine (hasRoom_any _ _ _ (by decide)).mono ?_; rintro e wh ⟨rfl, hwh⟩; have hwh' := hwh.symm; subst hwh')
 rw [rounds_succ]
 go_wp2_with fail
 go_ret
 exact ⟨rfl, HB5.out⟩
set_option maxRecDepth 100000 in
set_option maxHeartbeats 1000000 in
theorem wcheck_no4 (i0 i2 i9 : Int) (b1 b3 b4 b5 b6 b7 b8 : Bool) (q0 a0 u0 d0 : Option Addr) (qc ac uc dc : Nat) (Q : List Qn) (A U D : List Rn) (w : World) (hl : LsAt w q0 a0 u0 d0 Q A U D) (g0 : fitsN i0 16 = true) (g2 : fitsN i2 4 = true) (g9 : fitsN i9 4 = true) (gq : fitsN (Q.length : Int) 16 = true) (ga : fitsN (A.length : Int) 16 = false) :
  Calls Tryz.prog 84 #[.agg #[.int .i64 i0, .bool b1, .int .i64 i2, .bool b3, .bool b4, .bool b5, .bool b6, .bool b7, .bool b8, .int .i64 i9, .slice q0 Q.length qc, .slice a0 A.length ac, .slice u0 U.length uc, .slice d0 D.length dc]] w fun e w' => e = .returned (.int .i64 8) ∧ Below w.heap.size w w' := by
 have HX : Hid (Bx (w.alloc (.cells #[.int .i64 i0, .bool b1, .int .i64 i2, .bool b3, .bool b4, .bool b5, .bool b6, .bool b7, .bool b8, .int .i64 i9, .slice q0 Q.length qc, .slice a0 A.length ac, .slice u0 U.length uc, .slice d0 D.length dc] 33)) w.heap.size #[.int .i64 i0, .bool b1, .int .i64 i2, .bool b3, .bool b4, .bool b5, .bool b6, .bool b7, .bool b8, .int .i64 i9, .slice q0 Q.length qc, .slice a0 A.length ac, .slice u0 U.length uc, .slice d0 D.length dc] 33) := World.alloc_heap_new w _
 have HB := hide' ((Below.refl w.heap.size w).alloc (Nat.le_refl _) (.cells #[.int .i64 i0, .bool b1, .int .i64 i2, .bool b3, .bool b4, .bool b5, .bool b6, .bool b7, .bool b8, .int .i64 i9, .slice q0 Q.length qc, .slice a0 A.length ac, .slice u0 U.length uc, .slice d0 D.length dc] 33))
 have HW := hide' (hl.below ((Below.refl w.heap.size w).alloc (Nat.le_refl _) (.cells #[.int .i64 i0, .bool b1, .int .i64 i2, .bool b3, .bool b4, .bool b5, .bool b6, .bool b7, .bool b8, .int .i64 i9, .slice q0 Q.length qc, .slice a0 A.length ac, .slice u0 U.length uc, .slice d0 D.length dc] 33)))
 have hx0 : ∀ W : World, Sem.run Tryz.prog (Instr.index 171 (.agg #[.pointer (some ⟨w.heap.size, 11, none⟩), .pointer (some ⟨w.heap.size, 12, none⟩), .pointer (some ⟨w.heap.size, 13, none⟩)]) (.int .i64 0)) W = .ok (.pointer (some ⟨w.heap.size, 11, none⟩)) W := fun W => by first | rfl | simp [go_sem, Instr.index]
 have hx1 : ∀ W : World, Sem.run Tryz.prog (Instr.index 171 (.agg #[.pointer (some ⟨w.heap.size, 11, none⟩), .pointer (some ⟨w.heap.size, 12, none⟩), .pointer (some ⟨w.heap.size, 13, none⟩)]) (.int .i64 1)) W = .ok (.pointer (some ⟨w.heap.size, 12, none⟩)) W := fun W => by first | rfl | simp [go_sem, Instr.index]
 have hx2 : ∀ W : World, Sem.run Tryz.prog (Instr.index 171 (.agg #[.pointer (some ⟨w.heap.size, 11, none⟩), .pointer (some ⟨w.heap.size, 12, none⟩), .pointer (some ⟨w.heap.size, 13, none⟩)]) (.int .i64 2)) W = .ok (.pointer (some ⟨w.heap.size, 13, none⟩)) W := fun W => by first | rfl | simp [go_sem, Instr.index]
 clear hl
 go_enter Tryz.func84, Tryz.ntmps84
 go_wp2_with (first
  | (go_at_call 116; refine (hasRoom_any _ _ _ (by decide)).mono ?_; rintro e wh ⟨rfl, hwh⟩; have hwh' := hwh.symm; subst hwh')
  | (go_at_call 117; refine (sectionsOf_any w.heap.size 0 _).mono ?_; rintro e w5 ⟨rfl, hB⟩; have HX5 : Hid (Bx w5 w.heap.size #[.int .i64 i0, .bool b1, .int .i64 i2, .bool b3, .bool b4, .bool b5, .bool b6, .bool b7, .bool b8, .int .i64 i9, .slice q0 Q.length qc, .slice a0 A.length ac, .slice u0 U.length uc, .slice d0 D.length dc] 33) := HX.out.below hB HX.out.lt; have x11 : w5.cell? ⟨w.heap.size, 11, none⟩ = some (.slice a0 A.length ac) := HX5.out.cell rfl; have x12 : w5.cell? ⟨w.heap.size, 12, none⟩ = some (.slice u0 U.length uc) := HX5.out.cell rfl; have x13 : w5.cell? ⟨w.heap.size, 13, none⟩ = some (.slice d0 D.length dc) := HX5.out.cell rfl; have HB5 := hide' (bstep HB.out hB HB.out.size); have HW5 := hide' (HW.out.below hB); clear hB))
 refine wp_loop_rounds 4 ?_
 rw [rounds_succ]
 go_wp2_with (go_at_call 116; refine (hasRoom_any _ _ _ (by decide)).mono ?_; rintro e wh ⟨rfl, hwh⟩; have hwh' := hwh.symm; subst hwh')
 rw [rounds_succ]
 go_wp2_with (go_at_call 116; refine (hasRoom_any _ _ _ (by decide)).mono ?_; rintro e wh ⟨rfl, hwh⟩; have hwh' := hwh.symm; subst hwh')
 rw [rounds_succ]
 go_wp2_with (go_at_call 116; refine (hasRoom_any _ _ _ (by decide)).mono ?_; rintro e wh ⟨rfl, hwh⟩; have hwh' := hwh.symm; subst hwh')
 rw [rounds_succ]
 go_wp2_with fail
 go_ret
 exact ⟨rfl, HB5.out⟩
set_option maxRecDepth 100000 in
set_option maxHeartbeats 1000000 in
theorem wcheck_no5 (i0 i2 i9 : Int) (b1 b3 b4 b5 b6 b7 b8 : Bool) (q0 a0 u0 d0 : Option Addr) (qc ac uc dc : Nat) (Q : List Qn) (A U D : List Rn) (w : World) (hl : LsAt w q0 a0 u0 d0 Q A U D) (g0 : fitsN i0 16 = true) (g2 : fitsN i2 4 = true) (g9 : fitsN i9 4 = true) (gq : fitsN (Q.length : Int) 16 = true) (ga : fitsN (A.length : Int) 16 = true) (gu : fitsN (U.length : Int) 16 = false) :
  Calls Tryz.prog 84 #[.agg #[.int .i64 i0, .bool b1, .int .i64 i2, .bool b3, .bool b4, .bool b5, .bool b6, .bool b7, .bool b8, .int .i64 i9, .slice q0 Q.length qc, .slice a0 A.length ac, .slice u0 U.length uc, .slice d0 D.length dc]] w fun e w' => e = .returned (.int .i64 8) ∧ Below w.heap.size w w' := by
 have HX : Hid (Bx (w.alloc (.cells #[.int .i64 i0, .bool b1, .int .i64 i2, .bool b3, .bool b4, .bool b5, .bool b6, .bool b7, .bool b8, .int .i64 i9, .slice q0 Q.length qc, .slice a0 A.length ac, .slice u0 U.length uc, .slice d0 D.length dc] 33)) w.heap.size #[.int .i64 i0, .bool b1, .int .i64 i2, .bool b3, .bool b4, .bool b5, .bool b6, .bool b7, .bool b8, .int .i64 i9, .slice q0 Q.length qc, .slice a0 A.length ac, .slice u0 U.length uc, .slice d0 D.length dc] 33) := World.alloc_heap_new w _
 have HB := hide' ((Below.refl w.heap.size w).alloc (Nat.le_refl _) (.cells #[.int .i64 i0, .bool b1, .int .i64 i2, .bool b3, .bool b4, .bool b5, .bool b6, .bool b7, .bool b8, .int .i64 i9, .slice q0 Q.length qc, .slice a0 A.length ac, .slice u0 U.length uc, .slice d0 D.length dc] 33))
 have HW := hide' (hl.below ((Below.refl w.heap.size w).alloc (Nat.le_refl _) (.cells #[.int .i64 i0, .bool b1, .int .i64 i2, .bool b3, .bool b4, .bool b5, .bool b6, .bool b7, .bool b8, .int .i64 i9, .slice q0 Q.length qc, .slice a0 A.length ac, .slice u0 U.length uc, .slice d0 D.length dc] 33)))
 have hx0 : ∀ W : World, Sem.run Tryz.prog (Instr.index 171 (.agg #[.pointer (some ⟨w.heap.size, 11, none⟩), .pointer (some ⟨w.heap.size, 12, none⟩), .pointer (some ⟨w.heap.size, 13, none⟩)]) (.int .i64 0)) W = .ok (.pointer (some ⟨w.heap.size, 11, none⟩)) W := fun W => by first | rfl | simp [go_sem, Instr.index]
 have hx1 : ∀ W : World, Sem.run Tryz.prog (Instr.index 171 (.agg #[.pointer (some ⟨w.heap.size, 11, none⟩), .pointer (some ⟨w.heap.size, 12, none⟩), .pointer (some ⟨w.heap.size, 13, none⟩)]) (.int .i64 1)) W = .ok (.pointer (some ⟨w.heap.size, 12, none⟩)) W := fun W => by first | rfl | simp [go_sem, Instr.index]
 have hx2 : ∀ W : World, Sem.run Tryz.prog (Instr.index 171 (.agg #[.pointer (some ⟨w.heap.size, 11, none⟩), .pointer (some ⟨w.heap.size, 12, none⟩), .pointer (some ⟨w.heap.size, 13, none⟩)]) (.int .i64 2)) W = .ok (.pointer (some ⟨w.heap.size, 13, none⟩)) W := fun W => by first | rfl | simp [go_sem, Instr.index]
 clear hl
 go_enter Tryz.func84, Tryz.ntmps84
 go_wp2_with (first
  | (go_at_call 116; refine (hasRoom_any _ _ _ (by decide)).mono ?_; rintro e wh ⟨rfl, hwh⟩; have hwh' := hwh.symm; subst hwh')
  | (go_at_call 117; refine (sectionsOf_any w.heap.size 0 _).mono ?_; rintro e w5 ⟨rfl, hB⟩; have HX5 : Hid (Bx w5 w.heap.size #[.int .i64 i0, .bool b1, .int .i64 i2, .bool b3, .bool b4, .bool b5, .bool b6, .bool b7, .bool b8, .int .i64 i9, .slice q0 Q.length qc, .slice a0 A.length ac, .slice u0 U.length uc, .slice d0 D.length dc] 33) := HX.out.below hB HX.out.lt; have x11 : w5.cell? ⟨w.heap.size, 11, none⟩ = some (.slice a0 A.length ac) := HX5.out.cell rfl; have x12 : w5.cell? ⟨w.heap.size, 12, none⟩ = some (.slice u0 U.length uc) := HX5.out.cell rfl; have x13 : w5.cell? ⟨w.heap.size, 13, none⟩ = some (.slice d0 D.length dc) := HX5.out.cell rfl; have HB5 := hide' (bstep HB.out hB HB.out.size); have HW5 := hide' (HW.out.below hB); clear hB))
 refine wp_loop_rounds 4 ?_
 rw [rounds_succ]
 go_wp2_with (go_at_call 116; refine (hasRoom_any _ _ _ (by decide)).mono ?_; rintro e wh ⟨rfl, hwh⟩; have hwh' := hwh.symm; subst hwh')
 rw [rounds_succ]
 go_wp2_with (go_at_call 116; refine (hasRoom_any _ _ _ (by decide)).mono ?_; rintro e wh ⟨rfl, hwh⟩; have hwh' := hwh.symm; subst hwh')
 rw [rounds_succ]
 go_wp2_with (go_at_call 116; refine (hasRoom_any _ _ _ (by decide)).mono ?_; rintro e wh ⟨rfl, hwh⟩; have hwh' := hwh.symm; subst hwh')
 rw [rounds_succ]
 go_wp2_with fail
 go_ret
 exact ⟨rfl, HB5.out⟩
set_option maxRecDepth 100000 in
set_option maxHeartbeats 1000000 in
theorem wcheck_no6 (i0 i2 i9 : Int) (b1 b3 b4 b5 b6 b7 b8 : Bool) (q0 a0 u0 d0 : Option Addr) (qc ac uc dc : Nat) (Q : List Qn) (A U D : List Rn) (w : World) (hl : LsAt w q0 a0 u0 d0 Q A U D) (g0 : fitsN i0 16 = true) (g2 : fitsN i2 4 = true) (g9 : fitsN i9 4 = true) (gq : fitsN (Q.length : Int) 16 = true) (ga : fitsN (A.length : Int) 16 = true) (gu : fitsN (U.length : Int) 16 = true) (gd : fitsN (D.length : Int) 16 = false) :
  Calls Tryz.prog 84 #[.agg #[.int .i64 i0, .bool b1, .int .i64 i2, .bool b3, .bool b4, .bool b5, .bool b6, .bool b7, .bool b8, .int .i64 i9, .slice q0 Q.length qc, .slice a0 A.length ac, .slice u0 U.length uc, .slice d0 D.length dc]] w fun e w' => e = .returned (.int .i64 8) ∧ Below w.heap.size w w' := by
 have HX : Hid (Bx (w.alloc (.cells #[.int .i64 i0, .bool b1, .int .i64 i2, .bool b3, .bool b4, .bool b5, .bool b6, .bool b7, .bool b8, .int .i64 i9, .slice q0 Q.length qc, .slice a0 A.length ac, .slice u0 U.length uc, .slice d0 D.length dc] 33)) w.heap.size #[.int .i64 i0, .bool b1, .int .i64 i2, .bool b3, .bool b4, .bool b5, .bool b6, .bool b7, .bool b8, .int .i64 i9, .slice q0 Q.length qc, .slice a0 A.length ac, .slice u0 U.length uc, .slice d0 D.length dc] 33) := World.alloc_heap_new w _
 have HB := hide' ((Below.refl w.heap.size w).alloc (Nat.le_refl _) (.cells #[.int .i64 i0, .bool b1, .int .i64 i2, .bool b3, .bool b4, .bool b5, .bool b6, .bool b7, .bool b8, .int .i64 i9, .slice q0 Q.length qc, .slice a0 A.length ac, .slice u0 U.length uc, .slice d0 D.length dc] 33))
 have HW := hide' (hl.below ((Below.refl w.heap.size w).alloc (Nat.le_refl _) (.cells #[.int .i64 i0, .bool b1, .int .i64 i2, .bool b3, .bool b4, .bool b5, .bool b6, .bool b7, .bool b8, .int .i64 i9, .slice q0 Q.length qc, .slice a0 A.length ac, .slice u0 U.length uc, .slice d0 D.length dc] 33)))
 have hx0 : ∀ W : World, Sem.run Tryz.prog (Instr.index 171 (.agg #[.pointer (some ⟨w.heap.size, 11, none⟩), .pointer (some ⟨w.heap.size, 12, none⟩), .pointer (some ⟨w.heap.size, 13, none⟩)]) (.int .i64 0)) W = .ok (.pointer (some ⟨w.heap.size, 11, none⟩)) W := fun W => by first | rfl | simp [go_sem, Instr.index]
 have hx1 : ∀ W : World, Sem.run Tryz.prog (Instr.index 171 (.agg #[.pointer (some ⟨w.heap.size, 11, none⟩), .pointer (some ⟨w.heap.size, 12, none⟩), .pointer (some ⟨w.heap.size, 13, none⟩)]) (.int .i64 1)) W = .ok (.pointer (some ⟨w.heap.size, 12, none⟩)) W := fun W => by first | rfl | simp [go_sem, Instr.index]
 have hx2 : ∀ W : World, Sem.run Tryz.prog (Instr.index 171 (.agg #[.pointer (some ⟨w.heap.size, 11, none⟩), .pointer (some ⟨w.heap.size, 12, none⟩), .pointer (some ⟨w.heap.size, 13, none⟩)]) (.int .i64 2)) W = .ok (.pointer (some ⟨w.heap.size, 13, none⟩)) W := fun W => by first | rfl | simp [go_sem, Instr.index]
 clear hl
 go_enter Tryz.func84, Tryz.ntmps84
 go_wp2_with (first
  | (go_at_call 116; refine (hasRoom_any _ _ _ (by decide)).mono ?_; rintro e wh ⟨rfl, hwh⟩; have hwh' := hwh.symm; subst hwh')
  | (go_at_call 117; refine (sectionsOf_any w.heap.size 0 _).mono ?_; rintro e w5 ⟨rfl, hB⟩; have HX5 : Hid (Bx w5 w.heap.size #[.int .i64 i0, .bool b1, .int .i64 i2, .bool b3, .bool b4, .bool b5, .bool b6, .bool b7, .bool b8, .int .i64 i9, .slice q0 Q.length qc, .slice a0 A.length ac, .slice u0 U.length uc, .slice d0 D.length dc] 33) := HX.out.below hB HX.out.lt; have x11 : w5.cell? ⟨w.heap.size, 11, none⟩ = some (.slice a0 A.length ac) := HX5.out.cell rfl; have x12 : w5.cell? ⟨w.heap.size, 12, none⟩ = some (.slice u0 U.length uc) := HX5.out.cell rfl; have x13 : w5.cell? ⟨w.heap.size, 13, none⟩ = some (.slice d0 D.length dc) := HX5.out.cell rfl; have HB5 := hide' (bstep HB.out hB HB.out.size); have HW5 := hide' (HW.out.below hB); clear hB))
 refine wp_loop_rounds 4 ?_
 rw [rounds_succ]
 go_wp2_with (go_at_call 116; refine (hasRoom_any _ _ _ (by decide)).mono ?_; rintro e wh ⟨rfl, hwh⟩; have hwh' := hwh.symm; subst hwh')
 rw [rounds_succ]
 go_wp2_with (go_at_call 116; refine (hasRoom_any _ _ _ (by decide)).mono ?_; rintro e wh ⟨rfl, hwh⟩; have hwh' := hwh.symm; subst hwh')
 rw [rounds_succ]
 go_wp2_with (go_at_call 116; refine (hasRoom_any _ _ _ (by decide)).mono ?_; rintro e wh ⟨rfl, hwh⟩; have hwh' := hwh.symm; subst hwh')
 rw [rounds_succ]
 go_wp2_with fail
 go_ret
 exact ⟨rfl, HB5.out⟩
set_option maxRecDepth 100000 in
set_option maxHeartbeats 1000000 in
theorem wcheck_parts_false (i0 i2 i9 : Int) (b1 b3 b4 b5 b6 b7 b8 : Bool) (q0 a0 u0 d0 : Option Addr) (qc ac uc dc : Nat) (Q : List Qn) (A U D : List Rn) (w : World) (hl : LsAt w q0 a0 u0 d0 Q A U D) (g0 : fitsN i0 16 = true) (g2 : fitsN i2 4 = true) (g9 : fitsN i9 4 = true) (gq : fitsN (Q.length : Int) 16 = true) (ga : fitsN (A.length : Int) 16 = true) (gu : fitsN (U.length : Int) 16 = true) (gd : fitsN (D.length : Int) 16 = true) (gl : lstOK Q A U D = false) :
  Calls Tryz.prog 84 #[.agg #[.int .i64 i0, .bool b1, .int .i64 i2, .bool b3, .bool b4, .bool b5, .bool b6, .bool b7, .bool b8, .int .i64 i9, .slice q0 Q.length qc, .slice a0 A.length ac, .slice u0 U.length uc, .slice d0 D.length dc]] w fun e w' => e = .returned (.int .i64 8) ∧ Below w.heap.size w w' := by
 have hlq : Q.length ≤ 65535 := of_decide_eq_true ((fitsN_len _).symm.trans gq)
 have hla : A.length ≤ 65535 := of_decide_eq_true ((fitsN_len _).symm.trans ga)
 have hlu : U.length ≤ 65535 := of_decide_eq_true ((fitsN_len _).symm.trans gu)
 have hld : D.length ≤ 65535 := of_decide_eq_true ((fitsN_len _).symm.trans gd)
 have HX : Hid (Bx (w.alloc (.cells #[.int .i64 i0, .bool b1, .int .i64 i2, .bool b3, .bool b4, .bool b5, .bool b6, .bool b7, .bool b8, .int .i64 i9, .slice q0 Q.length qc, .slice a0 A.length ac, .slice u0 U.length uc, .slice d0 D.length dc] 33)) w.heap.size #[.int .i64 i0, .bool b1, .int .i64 i2, .bool b3, .bool b4, .bool b5, .bool b6, .bool b7, .bool b8, .int .i64 i9, .slice q0 Q.length qc, .slice a0 A.length ac, .slice u0 U.length uc, .slice d0 D.length dc] 33) := World.alloc_heap_new w _
 have HB := hide' ((Below.refl w.heap.size w).alloc (Nat.le_refl _) (.cells #[.int .i64 i0, .bool b1, .int .i64 i2, .bool b3, .bool b4, .bool b5, .bool b6, .bool b7, .bool b8, .int .i64 i9, .slice q0 Q.length qc, .slice a0 A.length ac, .slice u0 U.length uc, .slice d0 D.length dc] 33))
 have HW := hide' (hl.below ((Below.refl w.heap.size w).alloc (Nat.le_refl _) (.cells #[.int .i64 i0, .bool b1, .int .i64 i2, .bool b3, .bool b4, .bool b5, .bool b6, .bool b7, .bool b8, .int .i64 i9, .slice q0 Q.length qc, .slice a0 A.length ac, .slice u0 U.length uc, .slice d0 D.length dc] 33)))
 have hx0 : ∀ W : World, Sem.run Tryz.prog (Instr.index 171 (.agg #[.pointer (some ⟨w.heap.size, 11, none⟩), .pointer (some ⟨w.heap.size, 12, none⟩), .pointer (some ⟨w.heap.size, 13, none⟩)]) (.int .i64 0)) W = .ok (.pointer (some ⟨w.heap.size, 11, none⟩)) W := fun W => by first | rfl | simp [go_sem, Instr.index]
 have hx1 : ∀ W : World, Sem.run Tryz.prog (Instr.index 171 (.agg #[.pointer (some ⟨w.heap.size, 11, none⟩), .pointer (some ⟨w.heap.size, 12, none⟩), .pointer (some ⟨w.heap.size, 13, none⟩)]) (.int .i64 1)) W = .ok (.pointer (some ⟨w.heap.size, 12, none⟩)) W := fun W => by first | rfl | simp [go_sem, Instr.index]
 have hx2 : ∀ W : World, Sem.run Tryz.prog (Instr.index 171 (.agg #[.pointer (some ⟨w.heap.size, 11, none⟩), .pointer (some ⟨w.heap.size, 12, none⟩), .pointer (some ⟨w.heap.size, 13, none⟩)]) (.int .i64 2)) W = .ok (.pointer (some ⟨w.heap.size, 13, none⟩)) W := fun W => by first | rfl | simp [go_sem, Instr.index]
 clear hl
 go_enter Tryz.func84, Tryz.ntmps84
 go_wp2_with (first
  | (go_at_call 116; refine (hasRoom_any _ _ _ (by decide)).mono ?_; rintro e wh ⟨rfl, hwh⟩; have hwh' := hwh.symm; subst hwh')
  | (go_at_call 117; refine (sectionsOf_any w.heap.size 0 _).mono ?_; rintro e w5 ⟨rfl, hB⟩; have HX5 : Hid (Bx w5 w.heap.size #[.int .i64 i0, .bool b1, .int .i64 i2, .bool b3, .bool b4, .bool b5, .bool b6, .bool b7, .bool b8, .int .i64 i9, .slice q0 Q.length qc, .slice a0 A.length ac, .slice u0 U.length uc, .slice d0 D.length dc] 33) := HX.out.below hB HX.out.lt; have x11 : w5.cell? ⟨w.heap.size, 11, none⟩ = some (.slice a0 A.length ac) := HX5.out.cell rfl; have x12 : w5.cell? ⟨w.heap.size, 12, none⟩ = some (.slice u0 U.length uc) := HX5.out.cell rfl; have x13 : w5.cell? ⟨w.heap.size, 13, none⟩ = some (.slice d0 D.length dc) := HX5.out.cell rfl; have HB5 := hide' (bstep HB.out hB HB.out.size); have HW5 := hide' (HW.out.below hB); clear hB))
 refine wp_loop_rounds 4 ?_
 rw [rounds_succ]
 go_wp2_with (go_at_call 116; refine (hasRoom_any _ _ _ (by decide)).mono ?_; rintro e wh ⟨rfl, hwh⟩; have hwh' := hwh.symm; subst hwh')
 rw [rounds_succ]
 go_wp2_with (go_at_call 116; refine (hasRoom_any _ _ _ (by decide)).mono ?_; rintro e wh ⟨rfl, hwh⟩; have hwh' := hwh.symm; subst hwh')
 rw [rounds_succ]
 go_wp2_with (go_at_call 116; refine (hasRoom_any _ _ _ (by decide)).mono ?_; rintro e wh ⟨rfl, hwh⟩; have hwh' := hwh.symm; subst hwh')
 rw [rounds_succ]
 go_wp2_with (go_at_call 118; refine (rightParts_any w.heap.size q0 a0 u0 d0 qc ac uc dc Q A U D _ HX5.out.lt (HX5.out.cell rfl) (HX5.out.cell rfl) (HX5.out.cell rfl) (HX5.out.cell rfl) HW5.out hlq hla hlu hld).mono ?_; rintro e w7 ⟨rfl, hB⟩; have HB7 := hide' (bstep HB5.out hB HB5.out.size); clear hB)
 go_ret
 exact ⟨rfl, HB7.out⟩
set_option maxRecDepth 100000 in
set_option maxHeartbeats 1000000 in
theorem wcheck_parts_true (i0 i2 i9 : Int) (b1 b3 b4 b5 b6 b7 b8 : Bool) (q0 a0 u0 d0 : Option Addr) (qc ac uc dc : Nat) (Q : List Qn) (A U D : List Rn) (w : World) (hl : LsAt w q0 a0 u0 d0 Q A U D) (g0 : fitsN i0 16 = true) (g2 : fitsN i2 4 = true) (g9 : fitsN i9 4 = true) (gq : fitsN (Q.length : Int) 16 = true) (ga : fitsN (A.length : Int) 16 = true) (gu : fitsN (U.length : Int) 16 = true) (gd : fitsN (D.length : Int) 16 = true) (gl : lstOK Q A U D = true) :
  Calls Tryz.prog 84 #[.agg #[.int .i64 i0, .bool b1, .int .i64 i2, .bool b3, .bool b4, .bool b5, .bool b6, .bool b7, .bool b8, .int .i64 i9, .slice q0 Q.length qc, .slice a0 A.length ac, .slice u0 U.length uc, .slice d0 D.length dc]] w fun e w' => e = .returned (.int .i64 0) ∧ Below w.heap.size w w' := by
 have hlq : Q.length ≤ 65535 := of_decide_eq_true ((fitsN_len _).symm.trans gq)
 have hla : A.length ≤ 65535 := of_decide_eq_true ((fitsN_len _).symm.trans ga)
 have hlu : U.length ≤ 65535 := of_decide_eq_true ((fitsN_len _).symm.trans gu)
 have hld : D.length ≤ 65535 := of_decide_eq_true ((fitsN_len _).symm.trans gd)
 have HX : Hid (Bx (w.alloc (.cells #[.int .i64 i0, .bool b1, .int .i64 i2, .bool b3, .bool b4, .bool b5, .bool b6, .bool b7, .bool b8, .int .i64 i9, .slice q0 Q.length qc, .slice a0 A.length ac, .slice u0 U.length uc, .slice d0 D.length dc] 33)) w.heap.size #[.int .i64 i0, .bool b1, .int .i64 i2, .bool b3, .bool b4, .bool b5, .bool b6, .bool b7, .bool b8, .int .i64 i9, .slice q0 Q.length qc, .slice a0 A.length ac, .slice u0 U.length uc, .slice d0 D.length dc] 33) := World.alloc_heap_new w _
 have HB := hide' ((Below.refl w.heap.size w).alloc (Nat.le_refl _) (.cells #[.int .i64 i0, .bool b1, .int .i64 i2, .bool b3, .bool b4, .bool b5, .bool b6, .bool b7, .bool b8, .int .i64 i9, .slice q0 Q.length qc, .slice a0 A.length ac, .slice u0 U.length uc, .slice d0 D.length dc] 33))
 have HW := hide' (hl.below ((Below.refl w.heap.size w).alloc (Nat.le_refl _) (.cells #[.int .i64 i0, .bool b1, .int .i64 i2, .bool b3, .bool b4, .bool b5, .bool b6, .bool b7, .bool b8, .int .i64 i9, .slice q0 Q.length qc, .slice a0 A.length ac, .slice u0 U.length uc, .slice d0 D.length dc] 33)))
 have hx0 : ∀ W : World, Sem.run Tryz.prog (Instr.index 171 (.agg #[.pointer (some ⟨w.heap.size, 11, none⟩), .pointer (some ⟨w.heap.size, 12, none⟩), .pointer (some ⟨w.heap.size, 13, none⟩)]) (.int .i64 0)) W = .ok (.pointer (some ⟨w.heap.size, 11, none⟩)) W := fun W => by first | rfl | simp [go_sem, Instr.index]
 have hx1 : ∀ W : World, Sem.run Tryz.prog (Instr.index 171 (.agg #[.pointer (some ⟨w.heap.size, 11, none⟩), .pointer (some ⟨w.heap.size, 12, none⟩), .pointer (some ⟨w.heap.size, 13, none⟩)]) (.int .i64 1)) W = .ok (.pointer (some ⟨w.heap.size, 12, none⟩)) W := fun W => by first | rfl | simp [go_sem, Instr.index]
 have hx2 : ∀ W : World, Sem.run Tryz.prog (Instr.index 171 (.agg #[.pointer (some ⟨w.heap.size, 11, none⟩), .pointer (some ⟨w.heap.size, 12, none⟩), .pointer (some ⟨w.heap.size, 13, none⟩)]) (.int .i64 2)) W = .ok (.pointer (some ⟨w.heap.size, 13, none⟩)) W := fun W => by first | rfl | simp [go_sem, Instr.index]
 clear hl
 go_enter Tryz.func84, Tryz.ntmps84
 go_wp2_with (first
  | (go_at_call 116; refine (hasRoom_any _ _ _ (by decide)).mono ?_; rintro e wh ⟨rfl, hwh⟩; have hwh' := hwh.symm; subst hwh')
  | (go_at_call 117; refine (sectionsOf_any w.heap.size 0 _).mono ?_; rintro e w5 ⟨rfl, hB⟩; have HX5 : Hid (Bx w5 w.heap.size #[.int .i64 i0, .bool b1, .int .i64 i2, .bool b3, .bool b4, .bool b5, .bool b6, .bool b7, .bool b8, .int .i64 i9, .slice q0 Q.length qc, .slice a0 A.length ac, .slice u0 U.length uc, .slice d0 D.length dc] 33) := HX.out.below hB HX.out.lt; have x11 : w5.cell? ⟨w.heap.size, 11, none⟩ = some (.slice a0 A.length ac) := HX5.out.cell rfl; have x12 : w5.cell? ⟨w.heap.size, 12, none⟩ = some (.slice u0 U.length uc) := HX5.out.cell rfl; have x13 : w5.cell? ⟨w.heap.size, 13, none⟩ = some (.slice d0 D.length dc) := HX5.out.cell rfl; have HB5 := hide' (bstep HB.out hB HB.out.size); have HW5 := hide' (HW.out.below hB); clear hB))
 refine wp_loop_rounds 4 ?_
 rw [rounds_succ]
 go_wp2_with (go_at_call 116; refine (hasRoom_any _ _ _ (by decide)).mono ?_; rintro e wh ⟨rfl, hwh⟩; have hwh' := hwh.symm; subst hwh')
 rw [rounds_succ]
 go_wp2_with (go_at_call 116; refine (hasRoom_any _ _ _ (by decide)).mono ?_; rintro e wh ⟨rfl, hwh⟩; have hwh' := hwh.symm; subst hwh')
 rw [rounds_succ]
 go_wp2_with (go_at_call 116; refine (hasRoom_any _ _ _ (by decide)).mono ?_; rintro e wh ⟨rfl, hwh⟩; have hwh' := hwh.symm; subst hwh')
 rw [rounds_succ]
 go_wp2_with (go_at_call 118; refine (rightParts_any w.heap.size q0 a0 u0 d0 qc ac uc dc Q A U D _ HX5.out.lt (HX5.out.cell rfl) (HX5.out.cell rfl) (HX5.out.cell rfl) (HX5.out.cell rfl) HW5.out hlq hla hlu hld).mono ?_; rintro e w7 ⟨rfl, hB⟩; have HB7 := hide' (bstep HB5.out hB HB5.out.size); clear hB)
 go_ret
 exact ⟨rfl, HB7.out⟩
theorem wcheck_any (i0 i2 i9 : Int) (b1 b3 b4 b5 b6 b7 b8 : Bool) (q0 a0 u0 d0 : Option Addr) (qc ac uc dc : Nat) (Q : List Qn) (A U D : List Rn) (w : World) (hl : LsAt w q0 a0 u0 d0 Q A U D) :
  Calls Tryz.prog 84 #[.agg #[.int .i64 i0, .bool b1, .int .i64 i2, .bool b3, .bool b4, .bool b5, .bool b6, .bool b7, .bool b8, .int .i64 i9, .slice q0 Q.length qc, .slice a0 A.length ac, .slice u0 U.length uc, .slice d0 D.length dc]] w fun e w' => e = .returned (.int .i64 (if msgOK i0 i2 i9 Q A U D = true then 0 else 8)) ∧ Below w.heap.size w w' := by
 have hno : msgOK i0 i2 i9 Q A U D = false → (Calls Tryz.prog 84 #[.agg #[.int .i64 i0, .bool b1, .int .i64 i2, .bool b3, .bool b4, .bool b5, .bool b6, .bool b7, .bool b8, .int .i64 i9, .slice q0 Q.length qc, .slice a0 A.length ac, .slice u0 U.length uc, .slice d0 D.length dc]] w fun e w' => e = .returned (.int .i64 8) ∧ Below w.heap.size w w') → Calls Tryz.prog 84 #[.agg #[.int .i64 i0, .bool b1, .int .i64 i2, .bool b3, .bool b4, .bool b5, .bool b6, .bool b7, .bool b8, .int .i64 i9, .slice q0 Q.length qc, .slice a0 A.length ac, .slice u0 U.length uc, .slice d0 D.length dc]] w fun e w' => e = .returned (.int .i64 (if msgOK i0 i2 i9 Q A U D = true then 0 else 8)) ∧ Below w.heap.size w w' := fun h1 h2 => by
  rw [if_neg (by rw [h1]; decide)]; exact h2
 have hm : msgOK i0 i2 i9 Q A U D = (fitsN i0 16 && fitsN i2 4 && fitsN i9 4 && fitsN (Q.length : Int) 16 && fitsN (A.length : Int) 16 && fitsN (U.length : Int) 16 && fitsN (D.length : Int) 16 && lstOK Q A U D) := by
  unfold msgOK; rw [fitsN_len, fitsN_len, fitsN_len, fitsN_len]
 cases g0 : fitsN i0 16 with
 | false => exact hno (by rw [hm, g0]; simp) (wcheck_no0 i0 i2 i9 b1 b3 b4 b5 b6 b7 b8 q0 a0 u0 d0 qc ac uc dc Q A U D w hl g0)
 | true =>
  cases g2 : fitsN i2 4 with
  | false => exact hno (by rw [hm, g0, g2]; simp) (wcheck_no1 i0 i2 i9 b1 b3 b4 b5 b6 b7 b8 q0 a0 u0 d0 qc ac uc dc Q A U D w hl g0 g2)
  | true =>
   cases g9 : fitsN i9 4 with
   | false => exact hno (by rw [hm, g0, g2, g9]; simp) (wcheck_no2 i0 i2 i9 b1 b3 b4 b5 b6 b7 b8 q0 a0 u0 d0 qc ac uc dc Q A U D w hl g0 g2 g9)
   | true =>
    cases gq : fitsN (Q.length : Int) 16 with
    | false => exact hno (by rw [hm, g0, g2, g9, gq]; simp) (wcheck_no3 i0 i2 i9 b1 b3 b4 b5 b6 b7 b8 q0 a0 u0 d0 qc ac uc dc Q A U D w hl g0 g2 g9 gq)
    | true =>
     cases ga : fitsN (A.length : Int) 16 with
     | false => exact hno (by rw [hm, g0, g2, g9, gq, ga]; simp) (wcheck_no4 i0 i2 i9 b1 b3 b4 b5 b6 b7 b8 q0 a0 u0 d0 qc ac uc dc Q A U D w hl g0 g2 g9 gq ga)
     | true =>
      cases gu : fitsN (U.length : Int) 16 with
      | false => exact hno (by rw [hm, g0, g2, g9, gq, ga, gu]; simp) (wcheck_no5 i0 i2 i9 b1 b3 b4 b5 b6 b7 b8 q0 a0 u0 d0 qc ac uc dc Q A U D w hl g0 g2 g9 gq ga gu)
      | true =>
       cases gd : fitsN (D.length : Int) 16 with
       | false => exact hno (by rw [hm, g0, g2, g9, gq, ga, gu, gd]; simp) (wcheck_no6 i0 i2 i9 b1 b3 b4 b5 b6 b7 b8 q0 a0 u0 d0 qc ac uc dc Q A U D w hl g0 g2 g9 gq ga gu gd)
       | true =>
        cases gl : lstOK Q A U D with
        | false => exact hno (by rw [hm, gl]; simp) (wcheck_parts_false i0 i2 i9 b1 b3 b4 b5 b6 b7 b8 q0 a0 u0 d0 qc ac uc dc Q A U D w hl g0 g2 g9 gq ga gu gd gl)
        | true =>
         rw [if_pos (by rw [hm, g0, g2, g9, gq, ga, gu, gd, gl]; rfl)]
         exact wcheck_parts_true i0 i2 i9 b1 b3 b4 b5 b6 b7 b8 q0 a0 u0 d0 qc ac uc dc Q A U D w hl g0 g2 g9 gq ga gu gd gl
end Go.Proofs.YtoabnpdoicbpiaaGreat
