import Derived.Test.YtdaimcccdleodaaLma
import Derived.Test.YtdaimcccdleodaaLi5
/-
  Chapter 15: the closed fact of the statements. (The verifier's own text.)
-/
namespace Go.Proofs.Ytdaimcccdleodaa
set_option linter.unusedVariables false
set_option linter.unusedSimpArgs false
open Go.RowKit Go.Shelf Go.Maps

def sA : ByteArray := ⟨#[97, 98, 99, 100]⟩
def sB : ByteArray := ⟨#[97, 98, 99, 101]⟩
def sC : ByteArray := ⟨#[97, 98, 99, 102]⟩
def sD : ByteArray := ⟨#[97, 98, 99, 103]⟩
theorem al_in1 : insB sA 31 sB = true := by decide +kernel
theorem al_in2 : insB sA 32 sB = false := by decide +kernel
theorem al_1 : aB 1 2 [] sA 5 = true := by decide +kernel
theorem al_2 : aB 1 2 (aT 1 2 [] sA 5) sB 5 = true := by decide +kernel
theorem al_3 : aB 1 2 (aT 1 2 (aT 1 2 [] sA 5) sB 5) sC 5 = false := by decide +kernel
theorem al_4 : aB 1 2 (aT 1 2 (aT 1 2 (aT 1 2 [] sA 5) sB 5) sC 5) sD 6 = true := by decide +kernel
/-- Allow, from a list of who is seen -/
theorem allow_T {L M base n : Nat} {qv : Value} {rate burst now : Int} {S : List En} {T : List Tr} {s : ByteArray} {b : Bool} {w : World} (h : Lim w L M base qv n rate burst S) (hT : S.map trE = T) (hn : n < maxLen)
    (hg : 0 ≤ rate ∧ rate ≤ 1000 ∧ 1 ≤ burst ∧ burst ≤ 1000) (hnow : (Lit.int .i64 now).wf = true) (hb : aB rate burst T s now = b) :
    Calls Try.prog 12 #[.pointer (some ⟨L, 0, none⟩), .string s, .int .i64 now] w (alwE L M base n rate burst b (aT rate burst T s now) w) := by
  have := allow_any L M base n qv rate burst now S s w h hn hg.1 hg.2.1 hg.2.2.1 hg.2.2.2 hnow
  rw [hT, hb] at this
  exact this

set_option maxRecDepth 100000 in
set_option maxHeartbeats 4000000 in
/-- gazetteerlaw11.alive -/
theorem alive_any (w : World) : Calls Try.prog 6 #[] w fun e w' => e = .returned (.bool true) ∧ Below w.heap.size w w' := by
  have H0 := hidep (new_yes 1 2 w (by decide) (by decide) (by decide) (by decide))
  have H1 := hidep (fun W => inside_any sA sB 31 W)
  have H2 := hidep (fun W => inside_any sA sB 32 W)
  rw [al_in1] at H1
  rw [al_in2] at H2
  unfold sA sB at H1 H2
  go_enter Try.func6, Try.ntmps6
  go_wp2_with (first
    | (go_at_call 11; (with_reducible refine H0.out.mono ?_); rintro e w1 ⟨⟨L, M, rfl, hL1⟩, hG1⟩; have L1 := hidep hL1; have G1 := hidep hG1; clear hL1 hG1)
    | (go_at_call 7; (with_reducible refine (H1.out _).mono ?_); rintro e w2 ⟨rfl, hB2⟩; have B2 := hidep hB2; clear hB2)
    | (go_at_call 7; (with_reducible refine (H2.out _).mono ?_); rintro e w3 ⟨rfl, hB3⟩; have L3 := hidep ((L1.out.grown (grown_below B2.out none)).grown (grown_below hB3 none)); have F3 : Hid (Ft LK w.heap.size w w3) := (Ft.idle G1.out).trans ((Ft.of B2.out).trans (Ft.of hB3)); clear hB3)
    | (go_at_call 12; have _ := L3; refine (allow_T (s := sA) (b := true) L3.out rfl (by decide) (by decide) (by decide) al_1).mono ?_; rintro e w4 ⟨S4, q4, n4, rfl, hl4, ht4, hn4, hf4⟩; have L4 := hidep (And.intro hl4 (And.intro ht4 hn4)); have F4 := hidep (F3.out.trans hf4); clear hl4 ht4 hn4 hf4 L3)
    | (go_at_call 12; have _ := L4; refine (allow_T (s := sB) (b := true) L4.out.1 L4.out.2.1 (by have := L4.out.2.2; unfold maxLen; omega) (by decide) (by decide) al_2).mono ?_; rintro e w5 ⟨S5, q5, n5, rfl, hl5, ht5, hn5, hf5⟩; have L5 := hidep (And.intro hl5 (And.intro ht5 (Nat.le_trans hn5 (Nat.succ_le_succ L4.out.2.2)))); have F5 := hidep (F4.out.trans hf5); clear hl5 ht5 hn5 hf5 L4)
    | (go_at_call 12; have _ := L5; refine (allow_T (s := sC) (b := false) L5.out.1 L5.out.2.1 (by have := L5.out.2.2; unfold maxLen; omega) (by decide) (by decide) al_3).mono ?_; rintro e w6 ⟨S6, q6, n6, rfl, hl6, ht6, hn6, hf6⟩; have L6 := hidep (And.intro hl6 (And.intro ht6 (Nat.le_trans hn6 (Nat.succ_le_succ L5.out.2.2)))); have F6 := hidep (F5.out.trans hf6); clear hl6 ht6 hn6 hf6 L5)
    | (go_at_call 12; have _ := L6; refine (allow_T (s := sD) (b := true) L6.out.1 L6.out.2.1 (by have := L6.out.2.2; unfold maxLen; omega) (by decide) (by decide) al_4).mono ?_; rintro e w7 ⟨S7, q7, n7, rfl, hl7, ht7, hn7, hf7⟩; have F7 := hidep (F6.out.trans hf7); clear hl7 ht7 hn7 hf7 L6))
  go_ret
  exact ⟨rfl, F7.out.below (Nat.le_refl _)⟩
end Go.Proofs.Ytdaimcccdleodaa
