import Derived.Test.YtkamjcpcdkejmaaDoorRl1
namespace Go.Proofs.YtkamjcpcdkejmaaDoor
set_option linter.unusedVariables false
open Go.RowKit Go.Shelf Nm

/-- what readLabels hands back -/
def rlEnd (S : Scan) : Ending := if S.code ≠ 0 then .returned (.tuple #[.string ByteArray.empty, .bool false, .int .i64 (S.place : Int), .int .i64 (S.code : Int)]) else .returned (.tuple #[.string (chunks S.labels), .bool S.whole, .int .i64 0, .int .i64 0])

theorem wireL_lb : ∀ {l : List (List Nat)}, (∀ now ∈ l, now ≠ []) → 2 * l.length ≤ (wireL l).length
  | [], _ => by simp
  | now :: l, h => by
    have h1 := wireL_lb (l := l) (fun x hx => h x (List.mem_cons_of_mem _ hx))
    have h2 : 0 < now.length := List.length_pos_iff.2 (h now (List.mem_cons_self ..))
    have e : (wireL (now :: l)).length = 1 + now.length + (wireL l).length := by simp [wireL]; omega
    rw [e, List.length_cons]; omega

theorem results_tmp4 {fn : Func} {t u v x : Tmp} (h : fn.results = #[.tmp t, .tmp u, .tmp v, .tmp x]) (tmps : Array Value) (P : Program) (w : World) :
    (results fn tmps).run P w = .ok (.tuple #[tmps.getD t undef, tmps.getD u undef, tmps.getD v undef, tmps.getD x undef]) w := by
  simp [results, h]

set_option maxRecDepth 100000 in
set_option maxHeartbeats 4000000 in
/-- name.readLabels -/
theorem readLabels_any (t : ByteArray) (w : World) (h0 : 0 < t.size) (ht : t.size ≤ 1048576) (hG : Gl w) :
    Calls Tryd.prog 18 #[.string t] w fun e w' => e = rlEnd (scanT t 0 0 [] []) ∧ Below w.heap.size w w' := by
  have hw := hG.lo
  have b1 := Boxed.new w 9 (.string t)
  have b2 := Boxed.new (w.alloc (.cells #[.string t] 9)) 39 (.slice none 0 0)
  have b3 := Boxed.new ((w.alloc (.cells #[.string t] 9)).alloc (.cells #[.slice none 0 0] 39)) 3 (.int .i64 0)
  rw [World.size_alloc] at b2
  rw [World.size_alloc, World.size_alloc] at b3
  have hmf : ∀ (fn : Fn) (first cap : Array Value) (w : World), (Instr.makeFunc fn first cap).run Tryd.prog w = .ok (.func fn first cap) w := fun _ _ _ _ => rfl
  go_enter Tryd.func18, Tryd.ntmps18
  go_wp2_with fail
  have hS0 : RL w.heap.size t 0 (wireL []) (((w.alloc (.cells #[.string t] 9)).alloc (.cells #[.slice none 0 0] 39)).alloc (.cells #[.int .i64 0] 3)) :=
    ⟨(b1.alloc _).alloc _, ⟨_, b2.alloc _, World.ownsRow_nil _ _ _ _⟩, b3, by simp⟩
  have hB0 : Below w.heap.size w (((w.alloc (.cells #[.string t] 9)).alloc (.cells #[.slice none 0 0] 39)).alloc (.cells #[.int .i64 0] 3)) := (((Below.refl _ w).alloc (Nat.le_refl _) _).alloc (by simp) _).alloc (by simp; omega) _
  clear b1 b2 b3
  go_loopw [9] (fun wv wr => ∃ (k : Nat) (LL : List (List Nat)) (wh : Bool), wv = .bool wh ∧ k ≤ t.size ∧ (k = 0 ∨ LL ≠ []) ∧ (wireL LL).length ≤ 64 * k ∧ Hid (∀ now ∈ LL, now.length ≤ 63 ∧ ∀ x ∈ now, x < 256) ∧
      Hid ((k < t.size ∧ scanT t 0 0 [] [] = scanT t k k [] (LL.map bts)) ∨ (k = t.size ∧ scanT t 0 0 [] [] = ⟨0, 0, LL.map bts, wh⟩)) ∧ RL w.heap.size t k (wireL LL) wr ∧ Below w.heap.size w wr)
    (fun _ wr => t.size - plOf w.heap.size wr)
  case atStart => exact ⟨0, [], false, rfl, Nat.zero_le _, .inl rfl, by simp [wireL], (fun x hx => by cases hx), .inl ⟨h0, rfl⟩, hS0, hB0⟩
  case round =>
    obtain ⟨k, LL, wh, rfl, hk, hLL, hwl, HL, HSC, hSr, hBr⟩ := hrel
    have cT := hSr.tx.cell
    have cA : wr.cell? ⟨w.heap.size + 1 + 1, 0, none⟩ = some (.int .i64 (k : Int)) := hSr.pl.cell
    have HM := hide' (plOf_eq hSr.pl)
    by_cases hlt : k < t.size
    · have HSC2 : Hid (scanT t 0 0 [] [] = scanT t k k [] (LL.map bts)) := by
        rcases HSC.out with h | h
        · exact h.2
        · omega
      clear HSC
      have hGr : Gl wr := hG.below hBr hw
      have HRL := hide' (readLabel_any w.heap.size k t (wireL LL) wr hSr hlt ht (by omega) hGr hw)
      clear hGr
      go_wp2_with fail
      refine (HRL.out).mono ?_
      rintro e w2 (⟨place, code, rfl, hc, hsc, hb2⟩ | ⟨k', now, rfl, hne, hnl, h256, hkk, hk', hend, hsc, hS2, hb2⟩)
      · have HE : Hid (rlEnd (scanT t 0 0 [] []) = .returned (.tuple #[.string ByteArray.empty, .bool false, .int .i64 (place : Int), .int .i64 (code : Int)])) := by
          unfold Hid rlEnd; rw [HSC2.out, hsc, if_pos hc]
        have hc' : ((code : Int) != 0) = true := by rw [bne_iff_ne]; omega
        have hc'' : ((code : Int) == 0) = false := by rw [beq_eq_false_iff_ne]; omega
        clear hc hsc
        go_wp2
        (try simp only [Exit.inBlock, Exit.then])
        refine bodyPost_ret (results_tmp4 rfl _ _ _) rfl ?_
        exact ⟨by rw [HE.out]; rfl, hBr.trans hb2⟩
      · have HL2 : Hid (∀ x ∈ LL ++ [now], x.length ≤ 63 ∧ ∀ y ∈ x, y < 256) := by
          intro x hx
          rcases List.mem_append.1 hx with h | h
          · exact HL.out x h
          · simp at h; rw [h]; exact ⟨hnl, h256⟩
        have HSC3 : Hid (scanT t 0 0 [] [] = scanT t k' k now (LL.map bts)) := HSC2.out.trans (hsc _)
        have hwl2 : (wireL (LL ++ [now])).length ≤ 64 * k' := by rw [wireL_snoc]; simp; omega
        rw [← wireL_snoc] at hS2
        have cT2 := hS2.tx.cell
        have cA2 : w2.cell? ⟨w.heap.size + 1 + 1, 0, none⟩ = some (.int .i64 (k' : Int)) := hS2.pl.cell
        have fA2 : w2.frozen? ⟨w.heap.size + 1 + 1, 0, none⟩ = false := hS2.pl.frozen
        have HNE := hide' hne
        have HEN := hide' hend
        clear hsc h256 hne hend HSC2
        by_cases hlt2 : k' < t.size
        · have h46 : bt t k' = 46 := by
            rcases HEN.out with h | h
            · omega
            · exact h
          have HSC4 : Hid (scanT t 0 0 [] [] = scanT t (k' + 1) (k' + 1) [] ((LL ++ [now]).map bts)) := by
            unfold Hid; rw [HSC3.out, scanT_dot hlt2 h46 HNE.out, List.map_append]; rfl
          clear h46 HSC3
          go_wp2
          have hS3 := RL.go (k' := k' + 1) (y := (k' : Int) + 1) hS2 (by simp)
          refine ⟨⟨k' + 1, LL ++ [now], true, rfl, hlt2, .inr (by simp), by omega, HL2, ?_, hS3, hBr.trans (hb2.setCell (p := ⟨w.heap.size + 2, 0, none⟩) (by show w.heap.size ≤ w.heap.size + 2; omega) _)⟩, ?_⟩
          · by_cases hq : k' + 1 < t.size
            · exact .inl ⟨hq, HSC4.out⟩
            · exact .inr ⟨by omega, by rw [HSC4.out, scanT_end (by omega)]; simp⟩
          · have := plOf_eq hS3.pl
            rw [HM.out]
            show t.size - plOf w.heap.size (w2.setCell ⟨w.heap.size + 2, 0, none⟩ (.int .i64 ((k' : Int) + 1))) < _
            rw [this]; omega
        · go_wp2
          refine ⟨⟨k', LL ++ [now], false, rfl, hk', .inr (by simp), hwl2, HL2, .inr ⟨by omega, ?_⟩, hS2, hBr.trans hb2⟩, ?_⟩
          · rw [HSC3.out, scanT_end (by omega), if_neg HNE.out]
            simp [HNE.out]
          · rw [HM.out, plOf_eq hS2.pl]; omega
    · have HSC2 : Hid (scanT t 0 0 [] [] = ⟨0, 0, LL.map bts, wh⟩) := by
        rcases HSC.out with h | h
        · omega
        · exact h.2
      have HE : Hid (rlEnd (scanT t 0 0 [] []) = .returned (.tuple #[.string (chunks (LL.map bts)), .bool wh, .int .i64 0, .int .i64 0])) := by
        unfold Hid rlEnd; rw [HSC2.out, if_neg (by simp)]
      obtain ⟨v, hv, hown⟩ := hSr.wr
      have hLne : LL ≠ [] := by
        rcases hLL with h | h
        · omega
        · exact h
      have hpos : 0 < (wireL LL).length := by
        cases LL with
        | nil => exact absurd rfl hLne
        | cons x l => simp [wireL]
      obtain ⟨g, cp, rfl⟩ := owns_some hown hpos
      have hz := bts_size (wireL LL)
      have hcv : (convert 39 9 (.slice (some ⟨g, 0, none⟩) (wireL LL).length cp)).run Tryd.prog wr = .ok (.string (chunks (LL.map bts))) wr := by
        have h := owns_str (t := bts (wireL LL)) (w := wr) (base := w.heap.size + 3) (g := g) (cap := cp) (by rw [hz, bts_cells _ (wireL_lt HL.out)]; exact hown)
        rw [hz, bts_wireL] at h; exact h
      have cW := hv.cell
      have hkt : k = t.size := by omega
      subst hkt
      clear hz hpos HSC hLne hLL
      go_wp2
      (try simp only [Exit.inBlock, Exit.then])
      refine bodyPost_ret (results_tmp4 rfl _ _ _) rfl ?_
      exact ⟨by rw [HE.out]; rfl, hBr⟩
end Go.Proofs.YtkamjcpcdkejmaaDoor
