import Derived.Test.YtjnmbgmdkkiidaaGreatWc1G
import Derived.Test.YtjnmbgmdkkiidaaGreatRz1G
import Derived.RegionTactic
import Derived.ChangeAlike
import Derived.Test.YtjnmbgmdkkiidaaGreatLowG
namespace Go.Proofs.YtjnmbgmdkkiidaaGreat
set_option linter.unusedVariables false
open Go.RowKit Go.Shelf Go.Proofs.YtjnmbgmdkkiidaaGreat.Nm

/-- data that are none -/
def noneOK (c : Int) (d : ByteArray) : Bool := decide (d.size = 0 ∧ (c = 254 ∨ c = 255))
set_option maxRecDepth 100000 in
set_option maxHeartbeats 1000000 in
/-- the reference's empty -/
theorem refEmpty_any (o : ByteArray) (t c ttl : Int) (d : ByteArray) (w : World) (hd : d.size ≤ 9223372036854775807) :
    Calls Tryz.prog 49 #[.agg #[.string o, .int .i64 t, .int .i64 c, .int .i64 ttl, .string d]] w fun e w' => e = .returned (.bool (noneOK c d)) ∧ Below w.heap.size w w' := by
  have hB0 : ∀ o : Obj, Below w.heap.size w (w.alloc o) := fun o => (Below.refl _ w).alloc (Nat.le_refl _) o
  by_cases h0 : d.size = 0
  · have he := isEmpty_true h0
    by_cases hc : c = 254
    · have HE : Hid (noneOK c d = true) := decide_eq_true ⟨h0, .inl hc⟩
      subst hc
      clear h0
      go_enter Tryz.func49, Tryz.ntmps49
      go_wp2
      go_ret
      exact ⟨by rw [HE.out]; rfl, hB0 _⟩
    · by_cases hc2 : c = 255
      · have HE : Hid (noneOK c d = true) := decide_eq_true ⟨h0, .inr hc2⟩
        subst hc2
        clear h0
        go_enter Tryz.func49, Tryz.ntmps49
        go_wp2
        go_ret
        exact ⟨by rw [HE.out]; rfl, hB0 _⟩
      · have HE : Hid (noneOK c d = false) := decide_eq_false (fun h => h.2.elim hc hc2)
        have hcb : (c == 254) = false := by rw [beq_eq_false_iff_ne]; exact hc
        have hcb2 : (c == 255) = false := by rw [beq_eq_false_iff_ne]; exact hc2
        clear h0 hc hc2
        go_enter Tryz.func49, Tryz.ntmps49
        go_wp2
        go_ret
        exact ⟨by rw [HE.out, ← hcb2]; rfl, hB0 _⟩
  · have he := isEmpty_false (r := d) (by omega)
    have HE : Hid (noneOK c d = false) := decide_eq_false (fun h => h0 h.1)
    clear h0
    go_enter Tryz.func49, Tryz.ntmps49
    go_wp2
    go_ret
    exact ⟨by rw [HE.out]; rfl, hB0 _⟩

/-- a record of a message -/
def recOK (o : ByteArray) (t c ttl : Int) (d : ByteArray) : Bool := headOK o t c && fitsN ttl 32 && dataOK t c d
set_option maxRecDepth 100000 in
set_option maxHeartbeats 1000000 in
/-- the reference's Right -/
theorem refRight_any (o : ByteArray) (t c ttl : Int) (d : ByteArray) (w : World) (ho : o.size ≤ 1048576) (hd : d.size ≤ 9223372036854775807) :
    Calls Tryz.prog 31 #[.agg #[.string o, .int .i64 t, .int .i64 c, .int .i64 ttl, .string d]] w fun e w' => e = .returned (.bool (recOK o t c ttl d)) ∧ Below w.heap.size w w' := by
  have hB0 : ∀ o : Obj, Below w.heap.size w (w.alloc o) := fun o => (Below.refl _ w).alloc (Nat.le_refl _) o
  have hz : ∀ {o : Obj} {w1 : World}, Below (w.alloc o).heap.size (w.alloc o) w1 → w.heap.size ≤ w1.heap.size := fun h => Nat.le_trans (hB0 _).size h.size
  have HK := hide' (fun w => refIsName_any o w ho)
  cases hN : isN o with
  | false =>
    have HE : Hid (recOK o t c ttl d = false) := by unfold Hid recOK headOK; rw [hN]; rfl
    rw [hN] at HK
    clear hN
    go_enter Tryz.func31, Tryz.ntmps31
    go_wp2_with (go_at_call 30; refine (HK.out _).mono ?_; rintro e w1 ⟨rfl, hB1⟩)
    go_ret
    exact ⟨by rw [HE.out]; rfl, bstep (hB0 _) hB1 (by simp)⟩
  | true =>
    have HR : Hid (recOK o t c ttl d = (fitsN t 16 && fitsN c 16 && fitsN ttl 32 && dataOK t c d)) := by unfold Hid recOK headOK; rw [hN]; rfl
    rw [hN] at HK
    clear hN
    by_cases h1 : t < 0
    · have HE : Hid (recOK o t c ttl d = false) := by unfold Hid; rw [HR.out, show fitsN t 16 = false from decide_eq_false (by omega)]; simp
      clear HR
      go_enter Tryz.func31, Tryz.ntmps31
      go_wp2_with (go_at_call 30; refine (HK.out _).mono ?_; rintro e w1 ⟨rfl, hB1⟩; have hc1 : w1.cell? ⟨w.heap.size, 1, none⟩ = some (.int .i64 t) := (hB1.cell (by simp)).trans (by simp))
      go_ret
      exact ⟨by rw [HE.out]; rfl, bstep (hB0 _) hB1 (by simp)⟩
    by_cases h2 : t > 65535
    · have HE : Hid (recOK o t c ttl d = false) := by unfold Hid; rw [HR.out, show fitsN t 16 = false from decide_eq_false (by omega)]; simp
      clear HR
      go_enter Tryz.func31, Tryz.ntmps31
      go_wp2_with (go_at_call 30; refine (HK.out _).mono ?_; rintro e w1 ⟨rfl, hB1⟩; have hc1 : w1.cell? ⟨w.heap.size, 1, none⟩ = some (.int .i64 t) := (hB1.cell (by simp)).trans (by simp))
      go_ret
      exact ⟨by rw [HE.out]; rfl, bstep (hB0 _) hB1 (by simp)⟩
    by_cases h3 : c < 0
    · have HE : Hid (recOK o t c ttl d = false) := by unfold Hid; rw [HR.out, show fitsN c 16 = false from decide_eq_false (by omega)]; simp
      clear HR
      go_enter Tryz.func31, Tryz.ntmps31
      go_wp2_with (go_at_call 30; refine (HK.out _).mono ?_; rintro e w1 ⟨rfl, hB1⟩; have hc1 : w1.cell? ⟨w.heap.size, 1, none⟩ = some (.int .i64 t) := (hB1.cell (by simp)).trans (by simp); have hc2 : w1.cell? ⟨w.heap.size, 2, none⟩ = some (.int .i64 c) := (hB1.cell (by simp)).trans (by simp))
      go_ret
      exact ⟨by rw [HE.out]; rfl, bstep (hB0 _) hB1 (by simp)⟩
    by_cases h4 : c > 65535
    · have HE : Hid (recOK o t c ttl d = false) := by unfold Hid; rw [HR.out, show fitsN c 16 = false from decide_eq_false (by omega)]; simp
      clear HR
      go_enter Tryz.func31, Tryz.ntmps31
      go_wp2_with (go_at_call 30; refine (HK.out _).mono ?_; rintro e w1 ⟨rfl, hB1⟩; have hc1 : w1.cell? ⟨w.heap.size, 1, none⟩ = some (.int .i64 t) := (hB1.cell (by simp)).trans (by simp); have hc2 : w1.cell? ⟨w.heap.size, 2, none⟩ = some (.int .i64 c) := (hB1.cell (by simp)).trans (by simp))
      go_ret
      exact ⟨by rw [HE.out]; rfl, bstep (hB0 _) hB1 (by simp)⟩
    by_cases h5 : ttl < 0
    · have HE : Hid (recOK o t c ttl d = false) := by unfold Hid; rw [HR.out, show fitsN ttl 32 = false from decide_eq_false (by omega)]; simp
      clear HR
      go_enter Tryz.func31, Tryz.ntmps31
      go_wp2_with (go_at_call 30; refine (HK.out _).mono ?_; rintro e w1 ⟨rfl, hB1⟩; have hc1 : w1.cell? ⟨w.heap.size, 1, none⟩ = some (.int .i64 t) := (hB1.cell (by simp)).trans (by simp); have hc2 : w1.cell? ⟨w.heap.size, 2, none⟩ = some (.int .i64 c) := (hB1.cell (by simp)).trans (by simp); have hc3 : w1.cell? ⟨w.heap.size, 3, none⟩ = some (.int .i64 ttl) := (hB1.cell (by simp)).trans (by simp))
      go_ret
      exact ⟨by rw [HE.out]; rfl, bstep (hB0 _) hB1 (by simp)⟩
    by_cases h6 : ttl > 4294967295
    · have HE : Hid (recOK o t c ttl d = false) := by unfold Hid; rw [HR.out, show fitsN ttl 32 = false from decide_eq_false (by omega)]; simp
      clear HR
      go_enter Tryz.func31, Tryz.ntmps31
      go_wp2_with (go_at_call 30; refine (HK.out _).mono ?_; rintro e w1 ⟨rfl, hB1⟩; have hc1 : w1.cell? ⟨w.heap.size, 1, none⟩ = some (.int .i64 t) := (hB1.cell (by simp)).trans (by simp); have hc2 : w1.cell? ⟨w.heap.size, 2, none⟩ = some (.int .i64 c) := (hB1.cell (by simp)).trans (by simp); have hc3 : w1.cell? ⟨w.heap.size, 3, none⟩ = some (.int .i64 ttl) := (hB1.cell (by simp)).trans (by simp))
      go_ret
      exact ⟨by rw [HE.out]; rfl, bstep (hB0 _) hB1 (by simp)⟩
    have HE : Hid (recOK o t c ttl d = dataOK t c d) := by unfold Hid; rw [HR.out, show fitsN t 16 = true from decide_eq_true (by omega), show fitsN c 16 = true from decide_eq_true (by omega), show fitsN ttl 32 = true from decide_eq_true (by omega)]; rfl
    clear HR
    have HM := hide' (fun w => refEmpty_any o t c ttl d w hd)
    have HC := hide' (fun w => refCheckData_any t d w hd)
    by_cases h41 : t = 41
    · subst h41
      have HE2 : Hid (recOK o 41 c ttl d = decide (d.size ≤ 65535)) := by unfold Hid; rw [HE.out]; unfold dataOK; rw [if_pos rfl]
      clear HE
      go_enter Tryz.func31, Tryz.ntmps31
      go_wp2_with (go_at_call 30; refine (HK.out _).mono ?_; rintro e w1 ⟨rfl, hB1⟩; have hc1 : w1.cell? ⟨w.heap.size, 1, none⟩ = some (.int .i64 41) := (hB1.cell (by simp)).trans (by simp); have hc2 : w1.cell? ⟨w.heap.size, 2, none⟩ = some (.int .i64 c) := (hB1.cell (by simp)).trans (by simp); have hc3 : w1.cell? ⟨w.heap.size, 3, none⟩ = some (.int .i64 ttl) := (hB1.cell (by simp)).trans (by simp); have hc4 : w1.cell? ⟨w.heap.size, 4, none⟩ = some (.string d) := (hB1.cell (by simp)).trans (by simp))
      go_ret
      exact ⟨by rw [HE2.out]; show Ending.returned (Value.bool _) = Ending.returned (Value.bool _); congr 2; rw [Bool.eq_iff_iff, decide_eq_true_iff, decide_eq_true_iff]; omega, bstep (hB0 _) hB1 (by simp)⟩
    · have h41b : (t == 41) = false := by rw [beq_eq_false_iff_ne]; exact h41
      have HE2 : Hid (recOK o t c ttl d = (noneOK c d || decide (errD t d = 0))) := by
        unfold Hid; rw [HE.out]; unfold dataOK noneOK; rw [if_neg h41]
        by_cases h : d.size = 0 ∧ (c = 254 ∨ c = 255)
        · rw [if_pos h, decide_eq_true h]; rfl
        · rw [if_neg h, decide_eq_false h]; rfl
      have hres : ((errD t d : Int) == 0) = decide (errD t d = 0) := by rw [Bool.eq_iff_iff, beq_iff_eq, decide_eq_true_iff]; omega
      clear HE h41
      generalize decide (errD t d = 0) = OK at *
      generalize errD t d = ER at *
      cases hM : noneOK c d with
      | true =>
        rw [hM] at HM HE2
        clear hM
        go_enter Tryz.func31, Tryz.ntmps31
        go_wp2_with (first
          | (go_at_call 30; refine (HK.out _).mono ?_; rintro e w1 ⟨rfl, hB1⟩; have hc0 : w1.cell? ⟨w.heap.size, 0, none⟩ = some (.string o) := (hB1.cell (by simp)).trans (by simp); have hc1 : w1.cell? ⟨w.heap.size, 1, none⟩ = some (.int .i64 t) := (hB1.cell (by simp)).trans (by simp); have hc2 : w1.cell? ⟨w.heap.size, 2, none⟩ = some (.int .i64 c) := (hB1.cell (by simp)).trans (by simp); have hc3 : w1.cell? ⟨w.heap.size, 3, none⟩ = some (.int .i64 ttl) := (hB1.cell (by simp)).trans (by simp); have hc4 : w1.cell? ⟨w.heap.size, 4, none⟩ = some (.string d) := (hB1.cell (by simp)).trans (by simp))
          | (go_at_call 49; refine (HM.out _).mono ?_; rintro e w2 ⟨rfl, hB2⟩))
        go_ret
        exact ⟨by rw [HE2.out]; rfl, bstep (bstep (hB0 _) hB1 (by simp)) hB2 (hz hB1)⟩
      | false =>
        rw [hM] at HM HE2
        clear hM
        go_enter Tryz.func31, Tryz.ntmps31
        go_wp2_with (first
          | (go_at_call 30; refine (HK.out _).mono ?_; rintro e w1 ⟨rfl, hB1⟩; have hc0 : w1.cell? ⟨w.heap.size, 0, none⟩ = some (.string o) := (hB1.cell (by simp)).trans (by simp); have hc1 : w1.cell? ⟨w.heap.size, 1, none⟩ = some (.int .i64 t) := (hB1.cell (by simp)).trans (by simp); have hc2 : w1.cell? ⟨w.heap.size, 2, none⟩ = some (.int .i64 c) := (hB1.cell (by simp)).trans (by simp); have hc3 : w1.cell? ⟨w.heap.size, 3, none⟩ = some (.int .i64 ttl) := (hB1.cell (by simp)).trans (by simp); have hc4 : w1.cell? ⟨w.heap.size, 4, none⟩ = some (.string d) := (hB1.cell (by simp)).trans (by simp))
          | (go_at_call 49; refine (HM.out _).mono ?_; rintro e w2 ⟨rfl, hB2⟩; have hd1 : w2.cell? ⟨w.heap.size, 1, none⟩ = some (.int .i64 t) := (hB2.cell (by have h7 := hB1.size; rw [World.size_alloc] at h7; exact Nat.lt_of_lt_of_le (Nat.lt_succ_self _) h7)).trans hc1; have hd4 : w2.cell? ⟨w.heap.size, 4, none⟩ = some (.string d) := (hB2.cell (by have h7 := hB1.size; rw [World.size_alloc] at h7; exact Nat.lt_of_lt_of_le (Nat.lt_succ_self _) h7)).trans hc4)
          | (go_at_call 50; refine (HC.out _).mono ?_; rintro e w3 ⟨rfl, hB3⟩))
        go_ret
        exact ⟨by rw [HE2.out, ← hres]; rfl, bstep (bstep (bstep (hB0 _) hB1 (by simp)) hB2 (hz hB1)) hB3 (Nat.le_trans (hz hB1) hB2.size)⟩
end Go.Proofs.YtjnmbgmdkkiidaaGreat

namespace Go.Proofs.YtjnmbgmdkkiidaaGreat
set_option linter.unusedVariables false
open Go.RowKit Go.Shelf Go.Proofs.YtjnmbgmdkkiidaaGreat.Nm

set_option maxRecDepth 100000 in
set_option maxHeartbeats 1000000 in
/-- wire.sectionsOf -/
theorem sectionsOf_any (g o : Nat) (w : World) :
    Calls Tryz.prog 28 #[.pointer (some ⟨g, o, none⟩)] w fun e w' => e = .returned (.agg #[.pointer (some ⟨g, o + 11, none⟩), .pointer (some ⟨g, o + 12, none⟩), .pointer (some ⟨g, o + 13, none⟩)]) ∧ Below w.heap.size w w' := by
  go_enter Tryz.func28, Tryz.ntmps28
  go_wp2
  go_region
  go_wp2
  refine bodyPost_ret (v := .agg #[.pointer (some ⟨g, o + 11, none⟩), .pointer (some ⟨g, o + 12, none⟩), .pointer (some ⟨g, o + 13, none⟩)]) (by simp [results, go_sem]) rfl ⟨rfl, ?_⟩
  exact ((Below.refl _ w).alloc (Nat.le_refl _) _).drew
end Go.Proofs.YtjnmbgmdkkiidaaGreat

/-
  Questions and records in memory. (The verifier's own text; it stood in Wc5.)
-/
namespace Go.Proofs.YtjnmbgmdkkiidaaGreat
set_option linter.unusedVariables false
open Go.RowKit Go.Shelf Go.Proofs.YtjnmbgmdkkiidaaGreat.Nm

/-- a question: its name, type and class -/
structure Qn where
  n : ByteArray
  t : Int
  c : Int
/-- questions in memory -/
def QsAt (w : World) (p : Option Addr) (l : List Qn) : Prop := ∀ k, (hk : k < l.length) → ∃ g off, p = some ⟨g, off, none⟩ ∧ g < w.heap.size ∧ w.cell? ⟨g, off + k * 3, none⟩ = some (.string l[k].n) ∧ w.cell? ⟨g, off + k * 3 + 1, none⟩ = some (.int .i64 l[k].t) ∧ w.cell? ⟨g, off + k * 3 + 2, none⟩ = some (.int .i64 l[k].c)
/-- a record -/
structure Rn where
  o : ByteArray
  t : Int
  c : Int
  l : Int
  d : ByteArray
/-- records in memory -/
def RsAt (w : World) (p : Option Addr) (l : List Rn) : Prop := ∀ k, (hk : k < l.length) → ∃ g off, p = some ⟨g, off, none⟩ ∧ g < w.heap.size ∧ w.cell? ⟨g, off + k * 5, none⟩ = some (.string l[k].o) ∧ w.cell? ⟨g, off + k * 5 + 1, none⟩ = some (.int .i64 l[k].t) ∧ w.cell? ⟨g, off + k * 5 + 2, none⟩ = some (.int .i64 l[k].c) ∧ w.cell? ⟨g, off + k * 5 + 3, none⟩ = some (.int .i64 l[k].l) ∧ w.cell? ⟨g, off + k * 5 + 4, none⟩ = some (.string l[k].d)
end Go.Proofs.YtjnmbgmdkkiidaaGreat

namespace Go.Proofs.YtjnmbgmdkkiidaaGreat
set_option linter.unusedVariables false
open Go.RowKit Go.Shelf Go.Proofs.YtjnmbgmdkkiidaaGreat.Nm

def qOK (q : Qn) : Bool := headOK q.n q.t q.c

set_option maxRecDepth 100000 in
set_option maxHeartbeats 1000000 in
/-- rightParts, where a question is not right -/
theorem rightParts_bad (g o : Nat) (p : Option Addr) (cap : Nat) (Q : List Qn) (w : World) (hg : g < w.heap.size) (hQl : Q.length ≤ 1048576) (hc : w.cell? ⟨g, o + 10, none⟩ = some (.slice p Q.length cap)) (hQ : QsAt w p Q) (hn : ∀ q ∈ Q, q.n.size ≤ maxLen) (hbad : Q.all qOK = false) :
    Calls Tryz.prog 29 #[.pointer (some ⟨g, o, none⟩)] w fun e w' => e = .returned (.bool false) ∧ Below w.heap.size w w' := by
  go_enter Tryz.func29, Tryz.ntmps29
  go_wp2
  go_loopw [14] (fun i wr => ∃ k : Nat, i = .int .i64 k ∧ k ≤ Q.length ∧ (Q.take k).all qOK = true ∧ Below w.heap.size w wr) (fun i _ => Q.length - (intOf i).toNat)
  case atStart => exact ⟨0, rfl, Nat.zero_le _, rfl, Below.refl _ _⟩
  case round =>
    obtain ⟨k, rfl, hk, hT, hB⟩ := hrel
    by_cases hlt : k < Q.length
    · obtain ⟨gq, oq, rfl, hgq, h0, h1, h2⟩ := hQ k hlt
      have hc0 := (hB.cell (p := ⟨gq, oq + k * 3, none⟩) hgq).trans h0
      have hc1 := (hB.cell (p := ⟨gq, oq + k * 3 + 1, none⟩) hgq).trans h1
      have hc2 := (hB.cell (p := ⟨gq, oq + k * 3 + 2, none⟩) hgq).trans h2
      have HH := hide' (fun w => rightHead_any Q[k].n Q[k].t Q[k].c w (hn _ (List.getElem_mem hlt)))
      clear h0 h1 h2
      cases hq : headOK Q[k].n Q[k].t Q[k].c with
      | false =>
        rw [hq] at HH
        generalize Q[k].n = qn at *
        generalize Q[k].t = qt at *
        generalize Q[k].c = qc at *
        go_wp2_with (go_at_call 46; refine (HH.out _).mono ?_; rintro e w1 ⟨rfl, hB1⟩)
        go_ret
        exact ⟨rfl, bstep (hB.alloc hB.size _) hB1 (Nat.le_trans hB.size (by simp))⟩
      | true =>
        rw [hq] at HH
        have hT2 : (Q.take (k + 1)).all qOK = true := by rw [List.take_succ_eq_append_getElem hlt, List.all_append, hT]; simp [qOK, hq]
        generalize Q[k].n = qn at *
        generalize Q[k].t = qt at *
        generalize Q[k].c = qc at *
        go_wp2_with (go_at_call 46; refine (HH.out _).mono ?_; rintro e w1 ⟨rfl, hB1⟩)
        go_roundw
        case rel => exact ⟨k + 1, by go_num, by omega, hT2, bstep (hB.alloc hB.size _) hB1 (Nat.le_trans hB.size (by simp))⟩
        case measure => simp [intOf]; omega
    · exfalso
      have : Q.take k = Q := List.take_of_length_le (by omega)
      rw [this, hbad] at hT
      exact Bool.noConfusion hT
end Go.Proofs.YtjnmbgmdkkiidaaGreat
