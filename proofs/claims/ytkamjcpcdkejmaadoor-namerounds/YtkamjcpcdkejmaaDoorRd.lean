import Derived.Test.YtkamjcpcdkejmaaDoorRl2
import Derived.Test.YtkamjcpcdkejmaaDoorRdN
namespace Go.Proofs.YtkamjcpcdkejmaaDoor
set_option linter.unusedVariables false
open Go.RowKit Go.Shelf Nm

set_option maxRecDepth 100000 in
set_option maxHeartbeats 2000000 in
/-- name.Read -/
theorem read_any (t o : ByteArray) (w : World) (ht : t.size ≤ 1048576) (ho : o.size ≤ maxLen) (hG : Gl w) :
    Calls Tryd.prog 5 #[.string t, .string o] w fun e w' => e = .returned (.tuple #[.string (readB t o).1, .int .i64 ((readB t o).2.1 : Int), .int .i64 ((readB t o).2.2 : Int)]) ∧ Below w.heap.size w w' := by
  cases hN : isN o with
  | false =>
    have HR : Hid (readB t o = (ByteArray.empty, 0, 1)) := readB_noName hN
    go_enter Tryd.func5, Tryd.ntmps5
    go_wp2_with (go_at_call 17; refine (isName_any o _ ho).mono ?_; rintro e w1 ⟨rfl, hB1⟩; rw [hN])
    go_ret3
    exact ⟨by rw [HR.out]; rfl, hB1⟩
  | true =>
    have ho255 : o.size ≤ 255 := ((isN_iff o).1 hN).1
    by_cases h0 : t.size = 0
    · have HR : Hid (readB t o = (ByteArray.empty, 0, 2)) := readB_empty hN h0
      have he := isEmpty_true h0
      clear h0
      go_enter Tryd.func5, Tryd.ntmps5
      go_wp2_with (go_at_call 17; refine (isName_any o _ ho).mono ?_; rintro e w1 ⟨rfl, hB1⟩; rw [hN])
      go_ret3
      exact ⟨by rw [HR.out]; rfl, hB1⟩
    · have he := isEmpty_false (r := t) (by omega)
      by_cases h64 : t = bts [64]
      · have HR : Hid (readB t o = (o, 0, 0)) := readB_at hN h64
        have h64' : (t.toList == [64]) = true := by rw [show ([64] : List UInt8) = [UInt8.ofNat 64] from rfl, toList_lit]; exact decide_eq_true h64
        clear h64 h0
        go_enter Tryd.func5, Tryd.ntmps5
        go_wp2_with (go_at_call 17; refine (isName_any o _ ho).mono ?_; rintro e w1 ⟨rfl, hB1⟩; rw [hN])
        go_ret3
        exact ⟨by rw [HR.out]; rfl, hB1⟩
      · have h64' : (t.toList == [64]) = false := by rw [show ([64] : List UInt8) = [UInt8.ofNat 64] from rfl, toList_lit]; exact decide_eq_false h64
        by_cases h46 : t = bts [46]
        · have HR : Hid (readB t o = (bts [0], 0, 0)) := readB_dot hN h46
          have h46' : (t.toList == [46]) = true := by rw [show ([46] : List UInt8) = [UInt8.ofNat 46] from rfl, toList_lit]; exact decide_eq_true h46
          clear h64 h0 h46
          go_enter Tryd.func5, Tryd.ntmps5
          go_wp2_with (go_at_call 17; refine (isName_any o _ ho).mono ?_; rintro e w1 ⟨rfl, hB1⟩; rw [hN])
          go_ret3
          exact ⟨by rw [HR.out]; rfl, hB1⟩
        · have h46' : (t.toList == [46]) = false := by rw [show ([46] : List UInt8) = [UInt8.ofNat 46] from rfl, toList_lit]; exact decide_eq_false h46
          obtain ⟨c, k, l, b, hs⟩ : ∃ c k l b, scanT t 0 0 [] [] = ⟨c, k, l, b⟩ := ⟨_, _, _, _, rfl⟩
          have hrl := fun w hG => readLabels_any t w (by omega) ht hG
          by_cases hc : c = 0
          · subst hc
            have hk0 : k = 0 := scan_zero t _ _ _ _ _ hs
            subst hk0
            have HF := readB_fin hN h0 h64 h46 hs
            have HE : rlEnd (scanT t 0 0 [] []) = .returned (.tuple #[.string (chunks l), .bool b, .int .i64 0, .int .i64 0]) := by unfold rlEnd; rw [hs, if_neg (by simp)]
            rw [HE] at hrl
            have HRL := hide' hrl
            have hlz : (chunks l).size ≤ 67108928 := scan_size t hs ht
            cases b with
            | true =>
              rw [if_pos rfl, putB_whole] at HF
              have hz : (chunks l ++ bts [0]).size = (chunks l).size + 1 := by rw [ByteArray.size_append, bts_size]; rfl
              rw [hz] at HF
              have HFF := hide' HF
              have had : ∀ W : World, (Op.stringOp .add (chunks l) ⟨#[0]⟩).run Tryd.prog W = .ok (.string (chunks l ++ bts [0])) W := fun W => run_string_add_sum W _ _ (by rw [show (⟨#[0]⟩ : ByteArray).size = 1 from rfl]; omega)
              by_cases h255 : (chunks l).size + 1 ≤ 255
              · have HR := HFF.out.2 h255
                have HR' := hide' HR
                clear HR HF HE hs hrl h0 h64 h46 hz
                generalize chunks l = C at *
                go_enter Tryd.func5, Tryd.ntmps5
                go_wp2_with (first
                  | (go_at_call 17; refine (isName_any o _ ho).mono ?_; rintro e w1 ⟨rfl, hB1⟩; rw [hN])
                  | (go_at_call 18; refine (HRL.out _ (hG.grow hB1)).mono ?_; rintro e w2 ⟨rfl, hB2⟩))
                go_ret3
                exact ⟨by rw [HR'.out]; rfl, bstep hB1 hB2 hB1.size⟩
              · have HR := HFF.out.1 (by omega)
                have HR' := hide' HR
                have h255' : 255 < (chunks l).size + 1 := by omega
                clear HR HF HE hs hrl h0 h64 h46 hz h255
                generalize chunks l = C at *
                go_enter Tryd.func5, Tryd.ntmps5
                go_wp2_with (first
                  | (go_at_call 17; refine (isName_any o _ ho).mono ?_; rintro e w1 ⟨rfl, hB1⟩; rw [hN])
                  | (go_at_call 18; refine (HRL.out _ (hG.grow hB1)).mono ?_; rintro e w2 ⟨rfl, hB2⟩))
                go_ret3
                exact ⟨by rw [HR'.out]; rfl, bstep hB1 hB2 hB1.size⟩
            | false =>
              rw [if_neg (by decide), putB_rest hN] at HF
              have hz : (chunks l ++ o).size = (chunks l).size + o.size := by rw [ByteArray.size_append]
              rw [hz] at HF
              have HFF := hide' HF
              have had : ∀ W : World, (Op.stringOp .add (chunks l) o).run Tryd.prog W = .ok (.string (chunks l ++ o)) W := fun W => run_string_add_sum W _ _ (by omega)
              by_cases h255 : (chunks l).size + o.size ≤ 255
              · have HR := HFF.out.2 h255
                have HR' := hide' HR
                clear HR HF HE hs hrl h0 h64 h46 hz
                generalize chunks l = C at *
                go_enter Tryd.func5, Tryd.ntmps5
                go_wp2_with (first
                  | (go_at_call 17; refine (isName_any o _ ho).mono ?_; rintro e w1 ⟨rfl, hB1⟩; rw [hN])
                  | (go_at_call 18; refine (HRL.out _ (hG.grow hB1)).mono ?_; rintro e w2 ⟨rfl, hB2⟩))
                go_ret3
                exact ⟨by rw [HR'.out]; rfl, bstep hB1 hB2 hB1.size⟩
              · have HR := HFF.out.1 (by omega)
                have HR' := hide' HR
                have h255' : 255 < (chunks l).size + o.size := by omega
                clear HR HF HE hs hrl h0 h64 h46 hz h255
                generalize chunks l = C at *
                go_enter Tryd.func5, Tryd.ntmps5
                go_wp2_with (first
                  | (go_at_call 17; refine (isName_any o _ ho).mono ?_; rintro e w1 ⟨rfl, hB1⟩; rw [hN])
                  | (go_at_call 18; refine (HRL.out _ (hG.grow hB1)).mono ?_; rintro e w2 ⟨rfl, hB2⟩))
                go_ret3
                exact ⟨by rw [HR'.out]; rfl, bstep hB1 hB2 hB1.size⟩
          · have HR : Hid (readB t o = (ByteArray.empty, k, c)) := readB_err hN h0 h64 h46 hs hc
            have HE : rlEnd (scanT t 0 0 [] []) = .returned (.tuple #[.string ByteArray.empty, .bool false, .int .i64 (k : Int), .int .i64 (c : Int)]) := by unfold rlEnd; rw [hs, if_pos hc]
            rw [HE] at hrl
            have HRL := hide' hrl
            have hc' : ((c : Int) != 0) = true := by rw [bne_iff_ne]; omega
            have hc'' : ((c : Int) == 0) = false := by rw [beq_eq_false_iff_ne]; omega
            clear HE hs hrl h0 h64 h46 hc
            go_enter Tryd.func5, Tryd.ntmps5
            go_wp2_with (first
              | (go_at_call 17; refine (isName_any o _ ho).mono ?_; rintro e w1 ⟨rfl, hB1⟩; rw [hN])
              | (go_at_call 18; refine (HRL.out _ (hG.grow hB1)).mono ?_; rintro e w2 ⟨rfl, hB2⟩))
            go_ret3
            exact ⟨by rw [HR.out]; rfl, bstep hB1 hB2 hB1.size⟩
end Go.Proofs.YtkamjcpcdkejmaaDoor
