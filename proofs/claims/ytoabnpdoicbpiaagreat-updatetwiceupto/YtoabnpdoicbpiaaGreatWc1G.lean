import Derived.Test.YtoabnpdoicbpiaaGreatRc1G
import Derived.Test.YtoabnpdoicbpiaaGreatRz1G
import Derived.RegionTactic
import Derived.ChangeAlike
import Derived.Test.YtoabnpdoicbpiaaGreatRn0G
namespace Go.Proofs.YtoabnpdoicbpiaaGreat
set_option linter.unusedVariables false
open Go.RowKit Go.Shelf Go.Proofs.YtoabnpdoicbpiaaGreat.Nm
def fitsN (n : Int) (b : Nat) : Bool := decide (0 ≤ n ∧ n < (2 ^ b : Nat))
set_option maxRecDepth 100000 in
theorem hasRoom_any (n : Int) (b : Nat) (w : World) (hb : b = 4 ∨ b = 16 ∨ b = 32) :
  Calls Tryz.prog 116 #[.int .i64 n, .int .i64 (b : Int)] w fun e w' => e = .returned (.bool (fitsN n b)) ∧ w' = w := by
 rcases hb with rfl | rfl | rfl
 all_goals
  go_enter Tryz.func116, Tryz.ntmps116
  go_wp2
  go_ret
  refine ⟨?_, rfl⟩
  show Ending.returned (Value.bool _) = Ending.returned (Value.bool (fitsN n _))
  congr 2
  unfold fitsN
  rw [Bool.eq_iff_iff, beq_iff_eq, decide_eq_true_iff]
  omega
def headOK (n : ByteArray) (t c : Int) : Bool := isN n && fitsN t 16 && fitsN c 16
set_option maxRecDepth 100000 in
set_option maxHeartbeats 1000000 in
theorem rightHead_any (n : ByteArray) (t c : Int) (w : World) (hn : n.size ≤ maxLen) :
  Calls Tryz.prog 135 #[.agg #[.string n, .int .i64 t, .int .i64 c]] w fun e w' => e = .returned (.bool (headOK n t c)) ∧ Below w.heap.size w w' := by
 have HK := hide' (fun w => check_any n w hn)
 have HR := hide' (fun x w => hasRoom_any x 16 w (by omega))
 cases hN : isN n with
 | false =>
  have hck : chk n = 1 := by unfold chk; rw [if_neg (by rw [hN]; decide)]
  have HE : Hid (headOK n t c = false) := by unfold Hid headOK; rw [hN]; rfl
  rw [hck] at HK
  clear hck hN
  go_enter Tryz.func135, Tryz.ntmps135
  go_wp2_with (go_at_call 10; refine (HK.out _).mono ?_; rintro e w1 ⟨rfl, hB1⟩)
  go_ret
  exact ⟨by rw [HE.out]; rfl, bstep ((Below.refl _ w).alloc (Nat.le_refl _) _) hB1 (by simp)⟩
 | true =>
  have hck : chk n = 0 := by unfold chk; rw [if_pos hN]
  have HE : Hid (headOK n t c = (fitsN t 16 && fitsN c 16)) := by unfold Hid headOK; rw [hN]; rfl
  rw [hck] at HK
  clear hck hN
  cases ht : fitsN t 16 with
  | false =>
   have HE2 : Hid (headOK n t c = false) := by unfold Hid; rw [HE.out, ht]; rfl
   have HT : Hid (fitsN t 16 = false) := ht
   clear ht HE
   go_enter Tryz.func135, Tryz.ntmps135
   go_wp2_with (first
    | (go_at_call 10; refine (HK.out _).mono ?_; rintro e w1 ⟨rfl, hB1⟩; have hc1 : w1.cell? ⟨w.heap.size, 1, none⟩ = some (.int .i64 t) := (hB1.cell (by simp)).trans (by simp); have hc2 : w1.cell? ⟨w.heap.size, 2, none⟩ = some (.int .i64 c) := (hB1.cell (by simp)).trans (by simp))
    | (go_at_call 116; refine (HR.out t _).mono ?_; rintro e w2 ⟨rfl, rfl⟩; rw [HT.out]))
   go_ret
   exact ⟨by rw [HE2.out]; rfl, bstep ((Below.refl _ w).alloc (Nat.le_refl _) _) hB1 (by simp)⟩
  | true =>
   have HE2 : Hid (headOK n t c = fitsN c 16) := by unfold Hid; rw [HE.out, ht]; rfl
   have HT : Hid (fitsN t 16 = true) := ht
   clear ht HE
   go_enter Tryz.func135, Tryz.ntmps135
   go_wp2_with (first
    | (go_at_call 10; refine (HK.out _).mono ?_; rintro e w1 ⟨rfl, hB1⟩; have hc1 : w1.cell? ⟨w.heap.size, 1, none⟩ = some (.int .i64 t) := (hB1.cell (by simp)).trans (by simp); have hc2 : w1.cell? ⟨w.heap.size, 2, none⟩ = some (.int .i64 c) := (hB1.cell (by simp)).trans (by simp))
    | (go_at_call 116; refine (HR.out t _).mono ?_; rintro e w2 ⟨rfl, rfl⟩; rw [HT.out])
    | (go_at_call 116; refine (HR.out c _).mono ?_; rintro e w3 ⟨rfl, rfl⟩))
   go_ret
   exact ⟨by rw [HE2.out]; rfl, bstep ((Below.refl _ w).alloc (Nat.le_refl _) _) hB1 (by simp)⟩
def dataOK (t c : Int) (d : ByteArray) : Bool := if t = 41 then decide (d.size ≤ 65535) else if d.size = 0 ∧ (c = 254 ∨ c = 255) then true else decide (errD t d = 0)
end Go.Proofs.YtoabnpdoicbpiaaGreat
namespace Go.Proofs.YtoabnpdoicbpiaaGreat
set_option linter.unusedVariables false
open Go.RowKit Go.Shelf Go.Proofs.YtoabnpdoicbpiaaGreat.Nm
set_option maxRecDepth 100000 in
set_option maxHeartbeats 1000000 in
theorem rightData_any (o : ByteArray) (t c ttl : Int) (d : ByteArray) (w : World) (hd : d.size ≤ 9223372036854775807) :
  Calls Tryz.prog 136 #[.agg #[.string o, .int .i64 t, .int .i64 c, .int .i64 ttl, .string d]] w fun e w' => e = .returned (.bool (dataOK t c d)) ∧ Below w.heap.size w w' := by
 have hB0 : ∀ o : Obj, Below w.heap.size w (w.alloc o) := fun o => (Below.refl _ w).alloc (Nat.le_refl _) o
 by_cases h41 : t = 41
 ·subst h41
  by_cases hl : d.size ≤ 65535
  ·have HE : Hid (dataOK 41 c d = true) := by unfold Hid dataOK; rw [if_pos rfl]; exact decide_eq_true hl
   go_enter Tryz.func136, Tryz.ntmps136
   go_wp2
   go_ret
   exact ⟨by rw [HE.out]; simp; omega, hB0 _⟩
  ·have HE : Hid (dataOK 41 c d = false) := by unfold Hid dataOK; rw [if_pos rfl]; exact decide_eq_false hl
   go_enter Tryz.func136, Tryz.ntmps136
   go_wp2
   go_ret
   exact ⟨by rw [HE.out]; simp; omega, hB0 _⟩
 ·have h41b : (t == 41) = false := by rw [beq_eq_false_iff_ne]; exact h41
  have HC := hide' (fun w => dataCheck_any t d w hd)
  have HD : Hid (dataOK t c d = if d.size = 0 ∧ (c = 254 ∨ c = 255) then true else decide (errD t d = 0)) := by unfold Hid dataOK; rw [if_neg h41]
  have hres : ((errD t d : Int) == 0) = decide (errD t d = 0) := by rw [Bool.eq_iff_iff, beq_iff_eq, decide_eq_true_iff]; omega
  generalize decide (errD t d = 0) = OK at *
  generalize errD t d = ER at *
  by_cases h0 : d.size = 0
  ·have he := isEmpty_true h0
   by_cases hc : c = 254
   ·have HE : Hid (dataOK t c d = true) := by unfold Hid; rw [HD.out, if_pos ⟨h0, .inl hc⟩]
    subst hc
    clear h0 HD
    go_enter Tryz.func136, Tryz.ntmps136
    go_wp2
    go_ret
    exact ⟨by rw [HE.out]; rfl, hB0 _⟩
   ·by_cases hc2 : c = 255
    ·have HE : Hid (dataOK t c d = true) := by unfold Hid; rw [HD.out, if_pos ⟨h0, .inr hc2⟩]
     subst hc2
     clear h0 HD hc
     go_enter Tryz.func136, Tryz.ntmps136
     go_wp2
     go_ret
     exact ⟨by rw [HE.out]; rfl, hB0 _⟩
    ·have HE : Hid (dataOK t c d = OK) := by unfold Hid; rw [HD.out, if_neg (fun h => h.2.elim hc hc2)]
     have hcb : (c == 254) = false := by rw [beq_eq_false_iff_ne]; exact hc
     have hcb2 : (c == 255) = false := by rw [beq_eq_false_iff_ne]; exact hc2
     clear h0 HD hc hc2
     go_enter Tryz.func136, Tryz.ntmps136
     go_wp2_with (go_at_call 66; refine (HC.out _).mono ?_; rintro e w1 ⟨rfl, hB1⟩)
     go_ret
     exact ⟨by rw [HE.out, ← hres]; rfl, bstep (hB0 _) hB1 (by simp)⟩
  ·have he := isEmpty_false (r := d) (by omega)
   have HE : Hid (dataOK t c d = OK) := by unfold Hid; rw [HD.out, if_neg (fun h => h0 h.1)]
   clear h0 HD
   go_enter Tryz.func136, Tryz.ntmps136
   go_wp2_with (go_at_call 66; refine (HC.out _).mono ?_; rintro e w1 ⟨rfl, hB1⟩)
   go_ret
   exact ⟨by rw [HE.out, ← hres]; rfl, bstep (hB0 _) hB1 (by simp)⟩
end Go.Proofs.YtoabnpdoicbpiaaGreat
namespace Go.Proofs.YtoabnpdoicbpiaaGreat
set_option linter.unusedVariables false
open Go.RowKit Go.Shelf Go.Proofs.YtoabnpdoicbpiaaGreat.Nm
def recOK (o : ByteArray) (t c ttl : Int) (d : ByteArray) : Bool := headOK o t c && fitsN ttl 32 && dataOK t c d
end Go.Proofs.YtoabnpdoicbpiaaGreat
namespace Go.Proofs.YtoabnpdoicbpiaaGreat
set_option linter.unusedVariables false
open Go.RowKit Go.Shelf Go.Proofs.YtoabnpdoicbpiaaGreat.Nm
set_option maxRecDepth 100000 in
set_option maxHeartbeats 1000000 in
theorem sectionsOf_any (g o : Nat) (w : World) :
  Calls Tryz.prog 117 #[.pointer (some ⟨g, o, none⟩)] w fun e w' => e = .returned (.agg #[.pointer (some ⟨g, o + 11, none⟩), .pointer (some ⟨g, o + 12, none⟩), .pointer (some ⟨g, o + 13, none⟩)]) ∧ Below w.heap.size w w' := by
 go_enter Tryz.func117, Tryz.ntmps117
 go_wp2
 go_region
 go_wp2
 refine bodyPost_ret (v := .agg #[.pointer (some ⟨g, o + 11, none⟩), .pointer (some ⟨g, o + 12, none⟩), .pointer (some ⟨g, o + 13, none⟩)]) (by simp [results, go_sem]) rfl ⟨rfl, ?_⟩
 exact ((Below.refl _ w).alloc (Nat.le_refl _) _).drew
end Go.Proofs.YtoabnpdoicbpiaaGreat
namespace Go.Proofs.YtoabnpdoicbpiaaGreat
set_option linter.unusedVariables false
open Go.RowKit Go.Shelf Go.Proofs.YtoabnpdoicbpiaaGreat.Nm
def qOK (q : Qn) : Bool := headOK q.n q.t q.c
set_option maxRecDepth 100000 in
set_option maxHeartbeats 1000000 in
theorem rightParts_bad (g o : Nat) (p : Option Addr) (cap : Nat) (Q : List Qn) (w : World) (hg : g < w.heap.size) (hQl : Q.length ≤ 1048576) (hc : w.cell? ⟨g, o + 10, none⟩ = some (.slice p Q.length cap)) (hQ : QsAt w p Q) (hn : ∀ q ∈ Q, q.n.size ≤ maxLen) (hbad : Q.all qOK = false) :
  Calls Tryz.prog 118 #[.pointer (some ⟨g, o, none⟩)] w fun e w' => e = .returned (.bool false) ∧ Below w.heap.size w w' := by
 go_enter Tryz.func118, Tryz.ntmps118
 go_wp2
 go_loopw [14] (fun i wr => ∃ k : Nat, i = .int .i64 k ∧ k ≤ Q.length ∧ (Q.take k).all qOK = true ∧ Below w.heap.size w wr) (fun i _ => Q.length - (intOf i).toNat)
 case atStart => exact ⟨0, rfl, Nat.zero_le _, rfl, Below.refl _ _⟩
 case round =>
  obtain ⟨k, rfl, hk, hT, hB⟩ := hrel
  by_cases hlt : k < Q.length
  ·obtain ⟨gq, oq, rfl, hgq, h0, h1, h2⟩ := hQ k hlt
   have hc0 := (hB.cell (p := ⟨gq, oq + k * 3, none⟩) hgq).trans h0
   have hc1 := (hB.cell (p := ⟨gq, oq + k * 3 + 1, none⟩) hgq).trans h1
   have hc2 := (hB.cell (p := ⟨gq, oq + k * 3 + 2, none⟩) hgq).trans h2
   have HH := hide' (fun w => rightHead_any Q[k].n Q[k].t Q[k].c w (hn _ (List.getElem_mem hlt)))
   clear h0 h1 h2
   cases hq : headOK Q[k].n Q[k].t Q[k].c with
   | false =>
    rw [hq] at HH
    generalize Q[k].n = qn at *
    generalize Q[k].t = qt at *
    generalize Q[k].c = qc at *
    go_wp2_with (go_at_call 135; refine (HH.out _).mono ?_; rintro e w1 ⟨rfl, hB1⟩)
    go_ret
    exact ⟨rfl, bstep (hB.alloc hB.size _) hB1 (Nat.le_trans hB.size (by simp))⟩
   | true =>
    rw [hq] at HH
    have hT2 : (Q.take (k + 1)).all qOK = true := by rw [List.take_succ_eq_append_getElem hlt, List.all_append, hT]; simp [qOK, hq]
    generalize Q[k].n = qn at *
    generalize Q[k].t = qt at *
    generalize Q[k].c = qc at *
    go_wp2_with (go_at_call 135; refine (HH.out _).mono ?_; rintro e w1 ⟨rfl, hB1⟩)
    go_roundw
    case rel => exact ⟨k + 1, by go_num, by omega, hT2, bstep (hB.alloc hB.size _) hB1 (Nat.le_trans hB.size (by simp))⟩
    case measure => simp [intOf]; omega
  ·exfalso
   have : Q.take k = Q := List.take_of_length_le (by omega)
   rw [this, hbad] at hT
   exact Bool.noConfusion hT
end Go.Proofs.YtoabnpdoicbpiaaGreat
