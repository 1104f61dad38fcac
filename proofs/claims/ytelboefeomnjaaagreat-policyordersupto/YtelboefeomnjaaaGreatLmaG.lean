import Derived.Test.YtelboefeomnjaaaGreatLm6G
import Derived.Test.YtelboefeomnjaaaGreatLi1G
/-
  Chapter 15: NewLimiter; Allow whole. (The verifier's own text.)
-/
namespace Go.Proofs.YtelboefeomnjaaaGreat
set_option linter.unusedVariables false
set_option linter.unusedSimpArgs false
open Go.RowKit Go.Shelf Go.Maps

/-- Allow, plainly -/
def aB (rate burst : Int) (T : List Tr) (s : ByteArray) (now : Int) : Bool := match whoB s with
  | none => false
  | some x => alwB rate burst T x now
def aT (rate burst : Int) (T : List Tr) (s : ByteArray) (now : Int) : List Tr := match whoB s with
  | none => T
  | some x => alwT rate burst T x now
theorem alw_in {S : List En} {e : En} {rate burst now : Int} (hn : (S.map (·.who)).Nodup) (he : e ∈ S) :
    alwB rate burst (S.map trE) e.who now = tkB (reL rate burst e.left e.last now) ∧ alwT rate burst (S.map trE) e.who now = putT (addT burst (S.map trE) e.who now) e.who (tkL (reL rate burst e.left e.last now)) (reT e.last now) := by
  unfold alwB alwT
  simp only [addT_in burst now he, getT_tr hn he]
  exact ⟨trivial, trivial⟩
theorem alw_out {S : List En} {x : ByteArray} {rate burst now : Int} (h : ∀ e ∈ S, e.who ≠ x) :
    alwB rate burst (S.map trE) x now = tkB (reL rate burst burst now now) ∧ alwT rate burst (S.map trE) x now = putT (addT burst (S.map trE) x now) x (tkL (reL rate burst burst now now)) (reT now now) := by
  have hg : getT (addT burst (S.map trE) x now) x = (burst, now) := by
    rw [addT_out burst now 0 h]
    unfold getT
    rw [find_tr, List.find?_append, List.find?_eq_none.2 (fun y hy => by simpa using h y (goL_mem hy))]
    simp [trE]
  unfold alwB alwT
  simp only [hg]
  exact ⟨trivial, trivial⟩
theorem tk_zero {l : Int} (h : l = 0) : tkB l = false ∧ tkL l = 0 := by subst h; exact ⟨rfl, rfl⟩
theorem tk_one {l : Int} (h : ¬ l = 0) : tkB l = true ∧ tkL l = l - 1 := by
  refine ⟨by unfold tkB; simp [h], if_neg h⟩
/-- (*policy.Limiter).Allow -/
theorem allow_any (L M base n : Nat) (qv : Value) (rate burst now : Int) (S : List En) (s : ByteArray) (w : World) (h : Lim w L M base qv n rate burst S) (hn : n < maxLen)
    (hr0 : 0 ≤ rate) (hr1 : rate ≤ 1000) (hb0 : 1 ≤ burst) (hb1 : burst ≤ 1000) (hnow : (Lit.int .i64 now).wf = true) :
    Calls Tryz.prog 16 #[.pointer (some ⟨L, 0, none⟩), .string s, .int .i64 now] w (alwE L M base n rate burst (aB rate burst (S.map trE) s now) (aT rate burst (S.map trE) s now) w) := by
  unfold aB aT
  cases hs : whoB s with
  | none => exact allow_no L M base n qv rate burst now S s w h hs
  | some x =>
    simp only
    cases hF : blkF S x with
    | none =>
      have hnew := blkF_no hF
      obtain ⟨e1, e2⟩ := alw_out (rate := rate) (burst := burst) (now := now) hnew
      rw [e1, e2]
      by_cases hz : reL rate burst burst now now = 0
      · rw [(tk_zero hz).1, (tk_zero hz).2]
        exact allow_out1 L M base n qv rate burst now S s x w h hs hnew hn hr0 hr1 hb0 hb1 hnow hz
      · rw [(tk_one hz).1, (tk_one hz).2]
        exact allow_out0 L M base n qv rate burst now S s x w h hs hnew hn hr0 hr1 hb0 hb1 hnow hz
    | some A =>
      obtain ⟨e, he, hw, _⟩ := blkF_some hF
      obtain ⟨e1, e2⟩ := alw_in (rate := rate) (burst := burst) (now := now) h.who he
      rw [hw] at e1 e2
      rw [e1, e2]
      by_cases hz : reL rate burst e.left e.last now = 0
      · rw [(tk_zero hz).1, (tk_zero hz).2]
        exact allow_in1 L M base n qv rate burst now S s x w h hs e he hw hr0 hr1 hb0 hb1 hnow hz
      · rw [(tk_one hz).1, (tk_one hz).2]
        exact allow_in0 L M base n qv rate burst now S s x w h hs e he hw hr0 hr1 hb0 hb1 hnow hz

def goodB (rate burst : Int) : Bool := decide (0 ≤ rate) && decide (rate ≤ 1000) && decide (1 ≤ burst) && decide (burst ≤ 1000)
def newE (rate burst : Int) (w : World) (e : Ending) (w' : World) : Prop :=
  (∃ L M, e = .returned (.tuple #[.pointer (some ⟨L, 0, none⟩), .int .i64 0]) ∧ Lim w' L M w.heap.size (.slice none 0 0) 0 rate burst []) ∧ w.grownBy w' none
set_option maxRecDepth 100000 in
set_option maxHeartbeats 1000000 in
theorem new_yes (rate burst : Int) (w : World) (hr0 : 0 ≤ rate) (hr1 : rate ≤ 1000) (hb0 : 1 ≤ burst) (hb1 : burst ≤ 1000) :
    Calls Tryz.prog 14 #[.int .i64 rate, .int .i64 burst] w (newE rate burst w) := by
  have e1 : decide (rate < 0) = false := by simp; omega
  have e2 : decide (1000 < rate) = false := by simp; omega
  have e3 : decide (burst < 1) = false := by simp; omega
  have e4 : decide (1000 < burst) = false := by simp; omega
  clear hr0 hr1 hb0 hb1
  have hmm := @run_makeMap Tryz.prog
  go_enter Tryz.func14, Tryz.ntmps14
  go_wp2_with fail
  go_ret2
  have hg : w.grownBy ((w.alloc (.map #[] 0)).alloc (.cells #[.int .i64 rate, .int .i64 burst, .map (some w.heap.size), .slice none 0 0] 68)) none := grown_trans (World.grownBy_alloc w _ _) (World.grownBy_alloc _ _ _)
  refine ⟨⟨w.heap.size + 1, w.heap.size, rfl, ⟨?_, ?_, Orow.empty _ _ _ _, (fun e he => by cases he), (fun e he => by cases he), (by simp), (by simp), (by simp), (by omega), Nat.le_refl _, (by simp; omega)⟩⟩, hg⟩
  · have := World.alloc_heap_new (w.alloc (.map #[] 0)) (.cells #[.int .i64 rate, .int .i64 burst, .map (some w.heap.size), .slice none 0 0] 68)
    have e : (w.alloc (.map #[] 0)).heap.size = w.heap.size + 1 := by simp
    rw [e] at this
    exact this
  · exact (Mf.made w).grown (World.grownBy_alloc _ _ none) (by simp)
theorem good_iff {rate burst : Int} (h : goodB rate burst = true) : 0 ≤ rate ∧ rate ≤ 1000 ∧ 1 ≤ burst ∧ burst ≤ 1000 := by
  unfold goodB at h
  simp at h
  omega
end Go.Proofs.YtelboefeomnjaaaGreat

/-
  Chapter 15: the closed fact of the statements. (The verifier's own text.)
-/
namespace Go.Proofs.YtelboefeomnjaaaGreat
set_option linter.unusedVariables false
set_option linter.unusedSimpArgs false
open Go.RowKit Go.Shelf Go.Maps

def sA : ByteArray := ⟨#[97, 98, 99, 100]⟩
def sB : ByteArray := ⟨#[97, 98, 99, 101]⟩
def sC : ByteArray := ⟨#[97, 98, 99, 102]⟩
def sD : ByteArray := ⟨#[97, 98, 99, 103]⟩
theorem al_in1 : insB sA 31 sB = true := by decide +kernel
theorem al_in2 : insB sA 32 sB = false := by decide +kernel
theorem al_1 : aB 1 2 [] sA 5 = true := by decide +kernel
theorem al_2 : aB 1 2 (aT 1 2 [] sA 5) sB 5 = true := by decide +kernel
theorem al_3 : aB 1 2 (aT 1 2 (aT 1 2 [] sA 5) sB 5) sC 5 = false := by decide +kernel
theorem al_4 : aB 1 2 (aT 1 2 (aT 1 2 (aT 1 2 [] sA 5) sB 5) sC 5) sD 6 = true := by decide +kernel
/-- Allow, from a list of who is seen -/
theorem allow_T {L M base n : Nat} {qv : Value} {rate burst now : Int} {S : List En} {T : List Tr} {s : ByteArray} {b : Bool} {w : World} (h : Lim w L M base qv n rate burst S) (hT : S.map trE = T) (hn : n < maxLen)
    (hg : 0 ≤ rate ∧ rate ≤ 1000 ∧ 1 ≤ burst ∧ burst ≤ 1000) (hnow : (Lit.int .i64 now).wf = true) (hb : aB rate burst T s now = b) :
    Calls Tryz.prog 16 #[.pointer (some ⟨L, 0, none⟩), .string s, .int .i64 now] w (alwE L M base n rate burst b (aT rate burst T s now) w) := by
  have := allow_any L M base n qv rate burst now S s w h hn hg.1 hg.2.1 hg.2.2.1 hg.2.2.2 hnow
  rw [hT, hb] at this
  exact this

set_option maxRecDepth 100000 in
set_option maxHeartbeats 4000000 in
/-- gazetteerlaw11.alive -/
theorem alive_any (w : World) : Calls Tryz.prog 4 #[] w fun e w' => e = .returned (.bool true) ∧ Below w.heap.size w w' := by
  have H0 := hidep (new_yes 1 2 w (by decide) (by decide) (by decide) (by decide))
  have H1 := hidep (fun W => inside_any sA sB 31 W)
  have H2 := hidep (fun W => inside_any sA sB 32 W)
  rw [al_in1] at H1
  rw [al_in2] at H2
  unfold sA sB at H1 H2
  go_enter Tryz.func4, Tryz.ntmps4
  go_wp2_with (first
    | (go_at_call 14; (with_reducible refine H0.out.mono ?_); rintro e w1 ⟨⟨L, M, rfl, hL1⟩, hG1⟩; have L1 := hidep hL1; have G1 := hidep hG1; clear hL1 hG1)
    | (go_at_call 15; (with_reducible refine (H1.out _).mono ?_); rintro e w2 ⟨rfl, hB2⟩; have B2 := hidep hB2; clear hB2)
    | (go_at_call 15; (with_reducible refine (H2.out _).mono ?_); rintro e w3 ⟨rfl, hB3⟩; have L3 := hidep ((L1.out.grown (grown_below B2.out none)).grown (grown_below hB3 none)); have F3 : Hid (Ft LK w.heap.size w w3) := (Ft.idle G1.out).trans ((Ft.of B2.out).trans (Ft.of hB3)); clear hB3)
    | (go_at_call 16; have _ := L3; refine (allow_T (s := sA) (b := true) L3.out rfl (by decide) (by decide) (by decide) al_1).mono ?_; rintro e w4 ⟨S4, q4, n4, rfl, hl4, ht4, hn4, hf4⟩; have L4 := hidep (And.intro hl4 (And.intro ht4 hn4)); have F4 := hidep (F3.out.trans hf4); clear hl4 ht4 hn4 hf4 L3)
    | (go_at_call 16; have _ := L4; refine (allow_T (s := sB) (b := true) L4.out.1 L4.out.2.1 (by have := L4.out.2.2; unfold maxLen; omega) (by decide) (by decide) al_2).mono ?_; rintro e w5 ⟨S5, q5, n5, rfl, hl5, ht5, hn5, hf5⟩; have L5 := hidep (And.intro hl5 (And.intro ht5 (Nat.le_trans hn5 (Nat.succ_le_succ L4.out.2.2)))); have F5 := hidep (F4.out.trans hf5); clear hl5 ht5 hn5 hf5 L4)
    | (go_at_call 16; have _ := L5; refine (allow_T (s := sC) (b := false) L5.out.1 L5.out.2.1 (by have := L5.out.2.2; unfold maxLen; omega) (by decide) (by decide) al_3).mono ?_; rintro e w6 ⟨S6, q6, n6, rfl, hl6, ht6, hn6, hf6⟩; have L6 := hidep (And.intro hl6 (And.intro ht6 (Nat.le_trans hn6 (Nat.succ_le_succ L5.out.2.2)))); have F6 := hidep (F5.out.trans hf6); clear hl6 ht6 hn6 hf6 L5)
    | (go_at_call 16; have _ := L6; refine (allow_T (s := sD) (b := true) L6.out.1 L6.out.2.1 (by have := L6.out.2.2; unfold maxLen; omega) (by decide) (by decide) al_4).mono ?_; rintro e w7 ⟨S7, q7, n7, rfl, hl7, ht7, hn7, hf7⟩; have F7 := hidep (F6.out.trans hf7); clear hl7 ht7 hn7 hf7 L6))
  go_ret
  exact ⟨rfl, F7.out.below (Nat.le_refl _)⟩
end Go.Proofs.YtelboefeomnjaaaGreat
