import Derived.Test.YtjnmbgmdkkiidaaGreatWc3G
namespace Go.Proofs.YtjnmbgmdkkiidaaGreat
set_option linter.unusedVariables false
open Go.RowKit Go.Shelf Go.Proofs.YtjnmbgmdkkiidaaGreat.Nm

def rOK (r : Rn) : Bool := recOK r.o r.t r.c r.l r.d
theorem all_false_of {α : Type} (f : α → Bool) (L : List α) (k : Nat) (hk : k < L.length) (h : f L[k] = false) : L.all f = false := by
  rw [Bool.eq_false_iff]
  intro h2
  rw [List.all_eq_true] at h2
  rw [h2 _ (List.getElem_mem hk)] at h
  exact Bool.noConfusion h
def partsOK (S : Nat → List Rn) : Bool := (S 0).all rOK && (S 1).all rOK && (S 2).all rOK

set_option maxRecDepth 100000 in
set_option maxHeartbeats 4000000 in
/-- rightParts, where every question is right -/
theorem rightParts_good (g o : Nat) (p : Option Addr) (cap : Nat) (Q : List Qn) (P : Nat → Option Addr) (C : Nat → Nat) (S : Nat → List Rn) (w : World) (hg : g < w.heap.size) (hQl : Q.length ≤ 1048576) (hc : w.cell? ⟨g, o + 10, none⟩ = some (.slice p Q.length cap)) (hQ : QsAt w p Q) (hn : ∀ q ∈ Q, q.n.size ≤ maxLen) (hgood : Q.all qOK = true)
    (hs0 : w.cell? ⟨g, o + 11, none⟩ = some (.slice (P 0) (S 0).length (C 0))) (hs1 : w.cell? ⟨g, o + 12, none⟩ = some (.slice (P 1) (S 1).length (C 1))) (hs2 : w.cell? ⟨g, o + 13, none⟩ = some (.slice (P 2) (S 2).length (C 2)))
    (hS : ∀ m, m < 3 → RsAt w (P m) (S m)) (hSl : ∀ m, m < 3 → (S m).length ≤ 1048576) (hSn : ∀ m, m < 3 → ∀ r ∈ S m, r.o.size ≤ maxLen ∧ r.d.size ≤ 9223372036854775807) :
    Calls Tryz.prog 29 #[.pointer (some ⟨g, o, none⟩)] w fun e w' => e = .returned (.bool (partsOK S)) ∧ Below w.heap.size w w' := by
  go_enter Tryz.func29, Tryz.ntmps29
  go_wp2
  go_loopw [14] (fun i wr => ∃ k : Nat, i = .int .i64 k ∧ k ≤ Q.length ∧ Below w.heap.size w wr) (fun i _ => Q.length - (intOf i).toNat)
  case atStart => exact ⟨0, rfl, Nat.zero_le _, Below.refl _ _⟩
  case round =>
    obtain ⟨k, rfl, hk, hB⟩ := hrel
    by_cases hlt : k < Q.length
    · obtain ⟨gq, oq, rfl, hgq, h0, h1, h2⟩ := hQ k hlt
      have hc0 := (hB.cell (p := ⟨gq, oq + k * 3, none⟩) hgq).trans h0
      have hc1 := (hB.cell (p := ⟨gq, oq + k * 3 + 1, none⟩) hgq).trans h1
      have hc2 := (hB.cell (p := ⟨gq, oq + k * 3 + 2, none⟩) hgq).trans h2
      have HH := hide' (fun w => rightHead_any Q[k].n Q[k].t Q[k].c w (hn _ (List.getElem_mem hlt)))
      have hq : headOK Q[k].n Q[k].t Q[k].c = true := (List.all_eq_true.1 hgood) _ (List.getElem_mem hlt)
      clear h0 h1 h2
      rw [hq] at HH
      generalize Q[k].n = qn at *
      generalize Q[k].t = qt at *
      generalize Q[k].c = qc at *
      go_wp2_with (go_at_call 46; refine (HH.out _).mono ?_; rintro e w1 ⟨rfl, hB1⟩)
      go_roundw
      case rel => exact ⟨k + 1, by go_num, by omega, bstep (hB.alloc hB.size _) hB1 (Nat.le_trans hB.size (by simp))⟩
      case measure => simp [intOf]; omega
    · go_wp2_with (go_at_call 28; refine (sectionsOf_any g o _).mono ?_; rintro e w1 ⟨rfl, hB1⟩)
      have hB2 := bstep hB hB1 hB.size
      clear hB1 hlt hk
      go_loopw [24] (fun i wr => ∃ k : Nat, i = .int .i64 k ∧ k ≤ 3 ∧ (∀ m, m < k → (S m).all rOK = true) ∧ Below w.heap.size w wr) (fun i _ => 3 - (intOf i).toNat)
      case atStart => exact ⟨0, rfl, by omega, fun m hm => absurd hm (Nat.not_lt_zero _), hB2⟩
      case round =>
        clear hB hB2
        obtain ⟨k, rfl, hk, hT, hB⟩ := hrel
        rcases (show k = 3 ∨ k = 0 ∨ k = 1 ∨ k = 2 by omega) with rfl | rfl | rfl | rfl
        · go_wp2
          go_ret
          exact ⟨by rw [show partsOK S = true by unfold partsOK; rw [hT 0 (by omega), hT 1 (by omega), hT 2 (by omega)]; rfl]; rfl, hB⟩
        · have hs := (hB.cell (p := ⟨g, o + 11, none⟩) hg).trans hs0
          have hl := hSl 0 (by omega)
          have hx : ∀ v : World, Sem.run Tryz.prog (Instr.index 65 (.agg #[.pointer (some ⟨g, o + 11, none⟩), .pointer (some ⟨g, o + 12, none⟩), .pointer (some ⟨g, o + 13, none⟩)]) (.int .i64 0)) v = .ok (.pointer (some ⟨g, o + 11, none⟩)) v := fun v => by first | rfl | simp [go_sem, Instr.index]
          go_wp2
          go_loopw [31] (fun i wr => ∃ j : Nat, i = .int .i64 j ∧ j ≤ (S 0).length ∧ ((S 0).take j).all rOK = true ∧ Below w.heap.size w wr) (fun i _ => (S 0).length - (intOf i).toNat)
          case atStart => exact ⟨0, rfl, Nat.zero_le _, rfl, hB⟩
          case round =>
            clear hs hB
            obtain ⟨j, rfl, hj, hJ, hB⟩ := hrel
            by_cases hlt : j < (S 0).length
            · obtain ⟨gr, or, hp, hgr, h0, h1, h2, h3, h4⟩ := hS 0 (by omega) j hlt
              have hc0 := (hB.cell (p := ⟨gr, or + j * 5, none⟩) hgr).trans h0
              have hc1 := (hB.cell (p := ⟨gr, or + j * 5 + 1, none⟩) hgr).trans h1
              have hc2 := (hB.cell (p := ⟨gr, or + j * 5 + 2, none⟩) hgr).trans h2
              have hc3 := (hB.cell (p := ⟨gr, or + j * 5 + 3, none⟩) hgr).trans h3
              have hc4 := (hB.cell (p := ⟨gr, or + j * 5 + 4, none⟩) hgr).trans h4
              have hsz := hSn 0 (by omega) _ (List.getElem_mem hlt)
              have HH := hide' (fun w => rightHead_any (S 0)[j].o (S 0)[j].t (S 0)[j].c w hsz.1)
              have HR := hide' (fun w => hasRoom_any (S 0)[j].l 32 w (by omega))
              have HD := hide' (fun w => rightData_any (S 0)[j].o (S 0)[j].t (S 0)[j].c (S 0)[j].l (S 0)[j].d w hsz.2)
              have hok : rOK (S 0)[j] = (headOK (S 0)[j].o (S 0)[j].t (S 0)[j].c && fitsN (S 0)[j].l 32 && dataOK (S 0)[j].t (S 0)[j].c (S 0)[j].d) := rfl
              have hno : rOK (S 0)[j] = false → partsOK S = false := fun h => by unfold partsOK; rw [all_false_of rOK (S 0) j hlt h]; simp
              have hye : rOK (S 0)[j] = true → ((S 0).take (j + 1)).all rOK = true := fun h => by rw [List.take_succ_eq_append_getElem hlt, List.all_append, hJ]; simp [h]
              generalize rOK (S 0)[j] = OK at *
              clear h0 h1 h2 h3 h4 hsz hs0 hs1 hs2 hSn hSl
              rw [hp] at *
              generalize (S 0)[j].o = ro at *
              generalize (S 0)[j].t = rt at *
              generalize (S 0)[j].c = rc at *
              generalize (S 0)[j].l = rl at *
              generalize (S 0)[j].d = rd at *
              have hB1 := fun x => (hB.alloc hB.size x)
              cases hh : headOK ro rt rc with
              | false =>
                rw [hh] at HH hok
                have HE : Hid (partsOK S = false) := hno hok
                clear hno hye hok hJ hT
                go_wp2_with (go_at_call 46; refine (HH.out _).mono ?_; rintro e w2 ⟨rfl, hB2⟩; have he0 : w2.cell? ⟨wr.heap.size, 0, none⟩ = some (.string ro) := (hB2.cell (by simp)).trans (by simp); have he1 : w2.cell? ⟨wr.heap.size, 1, none⟩ = some (.int .i64 rt) := (hB2.cell (by simp)).trans (by simp); have he2 : w2.cell? ⟨wr.heap.size, 2, none⟩ = some (.int .i64 rc) := (hB2.cell (by simp)).trans (by simp); have he3 : w2.cell? ⟨wr.heap.size, 3, none⟩ = some (.int .i64 rl) := (hB2.cell (by simp)).trans (by simp); have he4 : w2.cell? ⟨wr.heap.size, 4, none⟩ = some (.string rd) := (hB2.cell (by simp)).trans (by simp))
                go_ret
                exact ⟨by rw [HE.out]; rfl, bstep (hB1 _) hB2 (Nat.le_trans hB.size (by simp))⟩
              | true =>
                rw [hh] at HH hok
                cases hr : fitsN rl 32 with
                | false =>
                  rw [hr] at HR hok
                  have HE : Hid (partsOK S = false) := hno hok
                  clear hno hye hok hJ hT
                  go_wp2_with (first
                    | (go_at_call 46; refine (HH.out _).mono ?_; rintro e w2 ⟨rfl, hB2⟩; have he0 : w2.cell? ⟨wr.heap.size, 0, none⟩ = some (.string ro) := (hB2.cell (by simp)).trans (by simp); have he1 : w2.cell? ⟨wr.heap.size, 1, none⟩ = some (.int .i64 rt) := (hB2.cell (by simp)).trans (by simp); have he2 : w2.cell? ⟨wr.heap.size, 2, none⟩ = some (.int .i64 rc) := (hB2.cell (by simp)).trans (by simp); have he3 : w2.cell? ⟨wr.heap.size, 3, none⟩ = some (.int .i64 rl) := (hB2.cell (by simp)).trans (by simp); have he4 : w2.cell? ⟨wr.heap.size, 4, none⟩ = some (.string rd) := (hB2.cell (by simp)).trans (by simp))
                    | (go_at_call 27; refine (HR.out _).mono ?_; rintro e w3 ⟨rfl, rfl⟩))
                  go_ret
                  exact ⟨by rw [HE.out]; rfl, bstep (hB1 _) hB2 (Nat.le_trans hB.size (by simp))⟩
                | true =>
                  rw [hr] at HR hok
                  cases hd : dataOK rt rc rd with
                  | false =>
                    rw [hd] at HD hok
                    have HE : Hid (partsOK S = false) := hno hok
                    clear hno hye hok hJ hT
                    go_wp2_with (first
                      | (go_at_call 46; refine (HH.out _).mono ?_; rintro e w2 ⟨rfl, hB2⟩; have he0 : w2.cell? ⟨wr.heap.size, 0, none⟩ = some (.string ro) := (hB2.cell (by simp)).trans (by simp); have he1 : w2.cell? ⟨wr.heap.size, 1, none⟩ = some (.int .i64 rt) := (hB2.cell (by simp)).trans (by simp); have he2 : w2.cell? ⟨wr.heap.size, 2, none⟩ = some (.int .i64 rc) := (hB2.cell (by simp)).trans (by simp); have he3 : w2.cell? ⟨wr.heap.size, 3, none⟩ = some (.int .i64 rl) := (hB2.cell (by simp)).trans (by simp); have he4 : w2.cell? ⟨wr.heap.size, 4, none⟩ = some (.string rd) := (hB2.cell (by simp)).trans (by simp))
                      | (go_at_call 27; refine (HR.out _).mono ?_; rintro e w3 ⟨rfl, rfl⟩)
                      | (go_at_call 47; refine (HD.out _).mono ?_; rintro e w4 ⟨rfl, hB4⟩))
                    go_ret
                    exact ⟨by rw [HE.out]; rfl, bstep (bstep (hB1 _) hB2 (Nat.le_trans hB.size (by simp))) hB4 (Nat.le_trans hB.size (Nat.le_trans (by simp) hB2.size))⟩
                  | true =>
                    rw [hd] at HD hok
                    have hJ2 := hye hok
                    clear hno hye hok hJ
                    go_wp2_with (first
                      | (go_at_call 46; refine (HH.out _).mono ?_; rintro e w2 ⟨rfl, hB2⟩; have he0 : w2.cell? ⟨wr.heap.size, 0, none⟩ = some (.string ro) := (hB2.cell (by simp)).trans (by simp); have he1 : w2.cell? ⟨wr.heap.size, 1, none⟩ = some (.int .i64 rt) := (hB2.cell (by simp)).trans (by simp); have he2 : w2.cell? ⟨wr.heap.size, 2, none⟩ = some (.int .i64 rc) := (hB2.cell (by simp)).trans (by simp); have he3 : w2.cell? ⟨wr.heap.size, 3, none⟩ = some (.int .i64 rl) := (hB2.cell (by simp)).trans (by simp); have he4 : w2.cell? ⟨wr.heap.size, 4, none⟩ = some (.string rd) := (hB2.cell (by simp)).trans (by simp))
                      | (go_at_call 27; refine (HR.out _).mono ?_; rintro e w3 ⟨rfl, rfl⟩)
                      | (go_at_call 47; refine (HD.out _).mono ?_; rintro e w4 ⟨rfl, hB4⟩))
                    go_roundw
                    case rel =>
                      refine ⟨_, _, _, _, _, _, _, _, _, _, _, _, _, _, _, _, _, _, _, _, _, _, _, _, _, _, _, ⟨j + 1, ?_, by omega, hJ2, bstep (bstep (hB1 _) hB2 (Nat.le_trans hB.size (by simp))) hB4 (Nat.le_trans hB.size (Nat.le_trans (by simp) hB2.size))⟩, rfl⟩
                      go_num
                    case measure => simp [intOf]; omega
            · have hA : (S 0).all rOK = true := by rw [show (S 0).take j = S 0 from List.take_of_length_le (by omega)] at hJ; exact hJ
              go_wp2
              go_roundw
              case rel => exact ⟨0 + 1, by go_num, by omega, fun q hq => by rcases (show q < 0 ∨ q = 0 by omega) with h | rfl; exact hT q h; exact hA, hB⟩
              case measure => simp [intOf]
        · have hs := (hB.cell (p := ⟨g, o + 12, none⟩) hg).trans hs1
          have hl := hSl 1 (by omega)
          have hx : ∀ v : World, Sem.run Tryz.prog (Instr.index 65 (.agg #[.pointer (some ⟨g, o + 11, none⟩), .pointer (some ⟨g, o + 12, none⟩), .pointer (some ⟨g, o + 13, none⟩)]) (.int .i64 1)) v = .ok (.pointer (some ⟨g, o + 12, none⟩)) v := fun v => by first | rfl | simp [go_sem, Instr.index]
          go_wp2
          go_loopw [31] (fun i wr => ∃ j : Nat, i = .int .i64 j ∧ j ≤ (S 1).length ∧ ((S 1).take j).all rOK = true ∧ Below w.heap.size w wr) (fun i _ => (S 1).length - (intOf i).toNat)
          case atStart => exact ⟨0, rfl, Nat.zero_le _, rfl, hB⟩
          case round =>
            clear hs hB
            obtain ⟨j, rfl, hj, hJ, hB⟩ := hrel
            by_cases hlt : j < (S 1).length
            · obtain ⟨gr, or, hp, hgr, h0, h1, h2, h3, h4⟩ := hS 1 (by omega) j hlt
              have hc0 := (hB.cell (p := ⟨gr, or + j * 5, none⟩) hgr).trans h0
              have hc1 := (hB.cell (p := ⟨gr, or + j * 5 + 1, none⟩) hgr).trans h1
              have hc2 := (hB.cell (p := ⟨gr, or + j * 5 + 2, none⟩) hgr).trans h2
              have hc3 := (hB.cell (p := ⟨gr, or + j * 5 + 3, none⟩) hgr).trans h3
              have hc4 := (hB.cell (p := ⟨gr, or + j * 5 + 4, none⟩) hgr).trans h4
              have hsz := hSn 1 (by omega) _ (List.getElem_mem hlt)
              have HH := hide' (fun w => rightHead_any (S 1)[j].o (S 1)[j].t (S 1)[j].c w hsz.1)
              have HR := hide' (fun w => hasRoom_any (S 1)[j].l 32 w (by omega))
              have HD := hide' (fun w => rightData_any (S 1)[j].o (S 1)[j].t (S 1)[j].c (S 1)[j].l (S 1)[j].d w hsz.2)
              have hok : rOK (S 1)[j] = (headOK (S 1)[j].o (S 1)[j].t (S 1)[j].c && fitsN (S 1)[j].l 32 && dataOK (S 1)[j].t (S 1)[j].c (S 1)[j].d) := rfl
              have hno : rOK (S 1)[j] = false → partsOK S = false := fun h => by unfold partsOK; rw [all_false_of rOK (S 1) j hlt h]; simp
              have hye : rOK (S 1)[j] = true → ((S 1).take (j + 1)).all rOK = true := fun h => by rw [List.take_succ_eq_append_getElem hlt, List.all_append, hJ]; simp [h]
              generalize rOK (S 1)[j] = OK at *
              clear h0 h1 h2 h3 h4 hsz hs0 hs1 hs2 hSn hSl
              rw [hp] at *
              generalize (S 1)[j].o = ro at *
              generalize (S 1)[j].t = rt at *
              generalize (S 1)[j].c = rc at *
              generalize (S 1)[j].l = rl at *
              generalize (S 1)[j].d = rd at *
              have hB1 := fun x => (hB.alloc hB.size x)
              cases hh : headOK ro rt rc with
              | false =>
                rw [hh] at HH hok
                have HE : Hid (partsOK S = false) := hno hok
                clear hno hye hok hJ hT
                go_wp2_with (go_at_call 46; refine (HH.out _).mono ?_; rintro e w2 ⟨rfl, hB2⟩; have he0 : w2.cell? ⟨wr.heap.size, 0, none⟩ = some (.string ro) := (hB2.cell (by simp)).trans (by simp); have he1 : w2.cell? ⟨wr.heap.size, 1, none⟩ = some (.int .i64 rt) := (hB2.cell (by simp)).trans (by simp); have he2 : w2.cell? ⟨wr.heap.size, 2, none⟩ = some (.int .i64 rc) := (hB2.cell (by simp)).trans (by simp); have he3 : w2.cell? ⟨wr.heap.size, 3, none⟩ = some (.int .i64 rl) := (hB2.cell (by simp)).trans (by simp); have he4 : w2.cell? ⟨wr.heap.size, 4, none⟩ = some (.string rd) := (hB2.cell (by simp)).trans (by simp))
                go_ret
                exact ⟨by rw [HE.out]; rfl, bstep (hB1 _) hB2 (Nat.le_trans hB.size (by simp))⟩
              | true =>
                rw [hh] at HH hok
                cases hr : fitsN rl 32 with
                | false =>
                  rw [hr] at HR hok
                  have HE : Hid (partsOK S = false) := hno hok
                  clear hno hye hok hJ hT
                  go_wp2_with (first
                    | (go_at_call 46; refine (HH.out _).mono ?_; rintro e w2 ⟨rfl, hB2⟩; have he0 : w2.cell? ⟨wr.heap.size, 0, none⟩ = some (.string ro) := (hB2.cell (by simp)).trans (by simp); have he1 : w2.cell? ⟨wr.heap.size, 1, none⟩ = some (.int .i64 rt) := (hB2.cell (by simp)).trans (by simp); have he2 : w2.cell? ⟨wr.heap.size, 2, none⟩ = some (.int .i64 rc) := (hB2.cell (by simp)).trans (by simp); have he3 : w2.cell? ⟨wr.heap.size, 3, none⟩ = some (.int .i64 rl) := (hB2.cell (by simp)).trans (by simp); have he4 : w2.cell? ⟨wr.heap.size, 4, none⟩ = some (.string rd) := (hB2.cell (by simp)).trans (by simp))
                    | (go_at_call 27; refine (HR.out _).mono ?_; rintro e w3 ⟨rfl, rfl⟩))
                  go_ret
                  exact ⟨by rw [HE.out]; rfl, bstep (hB1 _) hB2 (Nat.le_trans hB.size (by simp))⟩
                | true =>
                  rw [hr] at HR hok
                  cases hd : dataOK rt rc rd with
                  | false =>
                    rw [hd] at HD hok
                    have HE : Hid (partsOK S = false) := hno hok
                    clear hno hye hok hJ hT
                    go_wp2_with (first
                      | (go_at_call 46; refine (HH.out _).mono ?_; rintro e w2 ⟨rfl, hB2⟩; have he0 : w2.cell? ⟨wr.heap.size, 0, none⟩ = some (.string ro) := (hB2.cell (by simp)).trans (by simp); have he1 : w2.cell? ⟨wr.heap.size, 1, none⟩ = some (.int .i64 rt) := (hB2.cell (by simp)).trans (by simp); have he2 : w2.cell? ⟨wr.heap.size, 2, none⟩ = some (.int .i64 rc) := (hB2.cell (by simp)).trans (by simp); have he3 : w2.cell? ⟨wr.heap.size, 3, none⟩ = some (.int .i64 rl) := (hB2.cell (by simp)).trans (by simp); have he4 : w2.cell? ⟨wr.heap.size, 4, none⟩ = some (.string rd) := (hB2.cell (by simp)).trans (by simp))
                      | (go_at_call 27; refine (HR.out _).mono ?_; rintro e w3 ⟨rfl, rfl⟩)
                      | (go_at_call 47; refine (HD.out _).mono ?_; rintro e w4 ⟨rfl, hB4⟩))
                    go_ret
                    exact ⟨by rw [HE.out]; rfl, bstep (bstep (hB1 _) hB2 (Nat.le_trans hB.size (by simp))) hB4 (Nat.le_trans hB.size (Nat.le_trans (by simp) hB2.size))⟩
                  | true =>
                    rw [hd] at HD hok
                    have hJ2 := hye hok
                    clear hno hye hok hJ
                    go_wp2_with (first
                      | (go_at_call 46; refine (HH.out _).mono ?_; rintro e w2 ⟨rfl, hB2⟩; have he0 : w2.cell? ⟨wr.heap.size, 0, none⟩ = some (.string ro) := (hB2.cell (by simp)).trans (by simp); have he1 : w2.cell? ⟨wr.heap.size, 1, none⟩ = some (.int .i64 rt) := (hB2.cell (by simp)).trans (by simp); have he2 : w2.cell? ⟨wr.heap.size, 2, none⟩ = some (.int .i64 rc) := (hB2.cell (by simp)).trans (by simp); have he3 : w2.cell? ⟨wr.heap.size, 3, none⟩ = some (.int .i64 rl) := (hB2.cell (by simp)).trans (by simp); have he4 : w2.cell? ⟨wr.heap.size, 4, none⟩ = some (.string rd) := (hB2.cell (by simp)).trans (by simp))
                      | (go_at_call 27; refine (HR.out _).mono ?_; rintro e w3 ⟨rfl, rfl⟩)
                      | (go_at_call 47; refine (HD.out _).mono ?_; rintro e w4 ⟨rfl, hB4⟩))
                    go_roundw
                    case rel =>
                      refine ⟨_, _, _, _, _, _, _, _, _, _, _, _, _, _, _, _, _, _, _, _, _, _, _, _, _, _, _, ⟨j + 1, ?_, by omega, hJ2, bstep (bstep (hB1 _) hB2 (Nat.le_trans hB.size (by simp))) hB4 (Nat.le_trans hB.size (Nat.le_trans (by simp) hB2.size))⟩, rfl⟩
                      go_num
                    case measure => simp [intOf]; omega
            · have hA : (S 1).all rOK = true := by rw [show (S 1).take j = S 1 from List.take_of_length_le (by omega)] at hJ; exact hJ
              go_wp2
              go_roundw
              case rel => exact ⟨1 + 1, by go_num, by omega, fun q hq => by rcases (show q < 1 ∨ q = 1 by omega) with h | rfl; exact hT q h; exact hA, hB⟩
              case measure => simp [intOf]
        · have hs := (hB.cell (p := ⟨g, o + 13, none⟩) hg).trans hs2
          have hl := hSl 2 (by omega)
          have hx : ∀ v : World, Sem.run Tryz.prog (Instr.index 65 (.agg #[.pointer (some ⟨g, o + 11, none⟩), .pointer (some ⟨g, o + 12, none⟩), .pointer (some ⟨g, o + 13, none⟩)]) (.int .i64 2)) v = .ok (.pointer (some ⟨g, o + 13, none⟩)) v := fun v => by first | rfl | simp [go_sem, Instr.index]
          go_wp2
          go_loopw [31] (fun i wr => ∃ j : Nat, i = .int .i64 j ∧ j ≤ (S 2).length ∧ ((S 2).take j).all rOK = true ∧ Below w.heap.size w wr) (fun i _ => (S 2).length - (intOf i).toNat)
          case atStart => exact ⟨0, rfl, Nat.zero_le _, rfl, hB⟩
          case round =>
            clear hs hB
            obtain ⟨j, rfl, hj, hJ, hB⟩ := hrel
            by_cases hlt : j < (S 2).length
            · obtain ⟨gr, or, hp, hgr, h0, h1, h2, h3, h4⟩ := hS 2 (by omega) j hlt
              have hc0 := (hB.cell (p := ⟨gr, or + j * 5, none⟩) hgr).trans h0
              have hc1 := (hB.cell (p := ⟨gr, or + j * 5 + 1, none⟩) hgr).trans h1
              have hc2 := (hB.cell (p := ⟨gr, or + j * 5 + 2, none⟩) hgr).trans h2
              have hc3 := (hB.cell (p := ⟨gr, or + j * 5 + 3, none⟩) hgr).trans h3
              have hc4 := (hB.cell (p := ⟨gr, or + j * 5 + 4, none⟩) hgr).trans h4
              have hsz := hSn 2 (by omega) _ (List.getElem_mem hlt)
              have HH := hide' (fun w => rightHead_any (S 2)[j].o (S 2)[j].t (S 2)[j].c w hsz.1)
              have HR := hide' (fun w => hasRoom_any (S 2)[j].l 32 w (by omega))
              have HD := hide' (fun w => rightData_any (S 2)[j].o (S 2)[j].t (S 2)[j].c (S 2)[j].l (S 2)[j].d w hsz.2)
              have hok : rOK (S 2)[j] = (headOK (S 2)[j].o (S 2)[j].t (S 2)[j].c && fitsN (S 2)[j].l 32 && dataOK (S 2)[j].t (S 2)[j].c (S 2)[j].d) := rfl
              have hno : rOK (S 2)[j] = false → partsOK S = false := fun h => by unfold partsOK; rw [all_false_of rOK (S 2) j hlt h]; simp
              have hye : rOK (S 2)[j] = true → ((S 2).take (j + 1)).all rOK = true := fun h => by rw [List.take_succ_eq_append_getElem hlt, List.all_append, hJ]; simp [h]
              generalize rOK (S 2)[j] = OK at *
              clear h0 h1 h2 h3 h4 hsz hs0 hs1 hs2 hSn hSl
              rw [hp] at *
              generalize (S 2)[j].o = ro at *
              generalize (S 2)[j].t = rt at *
              generalize (S 2)[j].c = rc at *
              generalize (S 2)[j].l = rl at *
              generalize (S 2)[j].d = rd at *
              have hB1 := fun x => (hB.alloc hB.size x)
              cases hh : headOK ro rt rc with
              | false =>
                rw [hh] at HH hok
                have HE : Hid (partsOK S = false) := hno hok
                clear hno hye hok hJ hT
                go_wp2_with (go_at_call 46; refine (HH.out _).mono ?_; rintro e w2 ⟨rfl, hB2⟩; have he0 : w2.cell? ⟨wr.heap.size, 0, none⟩ = some (.string ro) := (hB2.cell (by simp)).trans (by simp); have he1 : w2.cell? ⟨wr.heap.size, 1, none⟩ = some (.int .i64 rt) := (hB2.cell (by simp)).trans (by simp); have he2 : w2.cell? ⟨wr.heap.size, 2, none⟩ = some (.int .i64 rc) := (hB2.cell (by simp)).trans (by simp); have he3 : w2.cell? ⟨wr.heap.size, 3, none⟩ = some (.int .i64 rl) := (hB2.cell (by simp)).trans (by simp); have he4 : w2.cell? ⟨wr.heap.size, 4, none⟩ = some (.string rd) := (hB2.cell (by simp)).trans (by simp))
                go_ret
                exact ⟨by rw [HE.out]; rfl, bstep (hB1 _) hB2 (Nat.le_trans hB.size (by simp))⟩
              | true =>
                rw [hh] at HH hok
                cases hr : fitsN rl 32 with
                | false =>
                  rw [hr] at HR hok
                  have HE : Hid (partsOK S = false) := hno hok
                  clear hno hye hok hJ hT
                  go_wp2_with (first
                    | (go_at_call 46; refine (HH.out _).mono ?_; rintro e w2 ⟨rfl, hB2⟩; have he0 : w2.cell? ⟨wr.heap.size, 0, none⟩ = some (.string ro) := (hB2.cell (by simp)).trans (by simp); have he1 : w2.cell? ⟨wr.heap.size, 1, none⟩ = some (.int .i64 rt) := (hB2.cell (by simp)).trans (by simp); have he2 : w2.cell? ⟨wr.heap.size, 2, none⟩ = some (.int .i64 rc) := (hB2.cell (by simp)).trans (by simp); have he3 : w2.cell? ⟨wr.heap.size, 3, none⟩ = some (.int .i64 rl) := (hB2.cell (by simp)).trans (by simp); have he4 : w2.cell? ⟨wr.heap.size, 4, none⟩ = some (.string rd) := (hB2.cell (by simp)).trans (by simp))
                    | (go_at_call 27; refine (HR.out _).mono ?_; rintro e w3 ⟨rfl, rfl⟩))
                  go_ret
                  exact ⟨by rw [HE.out]; rfl, bstep (hB1 _) hB2 (Nat.le_trans hB.size (by simp))⟩
                | true =>
                  rw [hr] at HR hok
                  cases hd : dataOK rt rc rd with
                  | false =>
                    rw [hd] at HD hok
                    have HE : Hid (partsOK S = false) := hno hok
                    clear hno hye hok hJ hT
                    go_wp2_with (first
                      | (go_at_call 46; refine (HH.out _).mono ?_; rintro e w2 ⟨rfl, hB2⟩; have he0 : w2.cell? ⟨wr.heap.size, 0, none⟩ = some (.string ro) := (hB2.cell (by simp)).trans (by simp); have he1 : w2.cell? ⟨wr.heap.size, 1, none⟩ = some (.int .i64 rt) := (hB2.cell (by simp)).trans (by simp); have he2 : w2.cell? ⟨wr.heap.size, 2, none⟩ = some (.int .i64 rc) := (hB2.cell (by simp)).trans (by simp); have he3 : w2.cell? ⟨wr.heap.size, 3, none⟩ = some (.int .i64 rl) := (hB2.cell (by simp)).trans (by simp); have he4 : w2.cell? ⟨wr.heap.size, 4, none⟩ = some (.string rd) := (hB2.cell (by simp)).trans (by simp))
                      | (go_at_call 27; refine (HR.out _).mono ?_; rintro e w3 ⟨rfl, rfl⟩)
                      | (go_at_call 47; refine (HD.out _).mono ?_; rintro e w4 ⟨rfl, hB4⟩))
                    go_ret
                    exact ⟨by rw [HE.out]; rfl, bstep (bstep (hB1 _) hB2 (Nat.le_trans hB.size (by simp))) hB4 (Nat.le_trans hB.size (Nat.le_trans (by simp) hB2.size))⟩
                  | true =>
                    rw [hd] at HD hok
                    have hJ2 := hye hok
                    clear hno hye hok hJ
                    go_wp2_with (first
                      | (go_at_call 46; refine (HH.out _).mono ?_; rintro e w2 ⟨rfl, hB2⟩; have he0 : w2.cell? ⟨wr.heap.size, 0, none⟩ = some (.string ro) := (hB2.cell (by simp)).trans (by simp); have he1 : w2.cell? ⟨wr.heap.size, 1, none⟩ = some (.int .i64 rt) := (hB2.cell (by simp)).trans (by simp); have he2 : w2.cell? ⟨wr.heap.size, 2, none⟩ = some (.int .i64 rc) := (hB2.cell (by simp)).trans (by simp); have he3 : w2.cell? ⟨wr.heap.size, 3, none⟩ = some (.int .i64 rl) := (hB2.cell (by simp)).trans (by simp); have he4 : w2.cell? ⟨wr.heap.size, 4, none⟩ = some (.string rd) := (hB2.cell (by simp)).trans (by simp))
                      | (go_at_call 27; refine (HR.out _).mono ?_; rintro e w3 ⟨rfl, rfl⟩)
                      | (go_at_call 47; refine (HD.out _).mono ?_; rintro e w4 ⟨rfl, hB4⟩))
                    go_roundw
                    case rel =>
                      refine ⟨_, _, _, _, _, _, _, _, _, _, _, _, _, _, _, _, _, _, _, _, _, _, _, _, _, _, _, ⟨j + 1, ?_, by omega, hJ2, bstep (bstep (hB1 _) hB2 (Nat.le_trans hB.size (by simp))) hB4 (Nat.le_trans hB.size (Nat.le_trans (by simp) hB2.size))⟩, rfl⟩
                      go_num
                    case measure => simp [intOf]; omega
            · have hA : (S 2).all rOK = true := by rw [show (S 2).take j = S 2 from List.take_of_length_le (by omega)] at hJ; exact hJ
              go_wp2
              go_roundw
              case rel => exact ⟨2 + 1, by go_num, by omega, fun q hq => by rcases (show q < 2 ∨ q = 2 by omega) with h | rfl; exact hT q h; exact hA, hB⟩
              case measure => simp [intOf]
end Go.Proofs.YtjnmbgmdkkiidaaGreat
