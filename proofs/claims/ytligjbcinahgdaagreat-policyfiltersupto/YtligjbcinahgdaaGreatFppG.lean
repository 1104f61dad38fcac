import Derived.Test.YtligjbcinahgdaaGreatFpn
import Derived.Test.YtligjbcinahgdaaGreatFpo
import Derived.Test.YtligjbcinahgdaaGreatMathG
import Derived.Test.YtligjbcinahgdaaGreatChecked
import Derived.Deep.Fields
import Derived.ChangeSlices
import Derived.Test.YtligjbcinahgdaaGreatCntG
import Derived.Test.YtligjbcinahgdaaGreatMl0G
import Derived.ProofKit
import Derived.OpenShut
import Derived.JoinedCond
import Derived.ShutString
import Derived.ChangeOld
import Derived.Carry
import Derived.Test.YtligjbcinahgdaaGreatRows
import Derived.Test.YtligjbcinahgdaaGreatRn0G
import Derived.Test.YtligjbcinahgdaaGreatSf8G
import Derived.ChangeArms
/-
  Proofs: PolicyFilters. (The verifier's own text.)
-/
namespace Go.Proofs.YtligjbcinahgdaaGreat
set_option linter.unusedVariables false
set_option linter.unusedSimpArgs false
open Go.RowKit Go.Shelf Go.Maps Go.Proofs.YtligjbcinahgdaaGreat.Nm

set_option maxRecDepth 100000 in
set_option maxHeartbeats 40000000 in
/-- PolicyFilters -/
theorem policyFilters_any (R : List Ru) (pr : Option Addr) (cr : Nat) (N : List ByteArray) (pn : Option Addr) (cn : Nat) (j0 j2 j9 : Int) (k1 k3 k4 k5 k6 k7 k8 : Bool) (r0 s0 t0 v0 : Option Addr) (rc sc tc vc : Nat) (P : List Qn) (Am Um Dm : List Rn) (i0 i2 i9 : Int) (b1 b3 b4 b5 b6 b7 b8 : Bool) (q0 a0 u0 d0 : Option Addr) (qc ac uc dc : Nat) (Q : List Qn) (A U D : List Rn) (w : World) (hA : RuAt w pr R) (hR : R.length ≤ 1048576) (hz : ∀ x ∈ R, x.n.size ≤ 1048576 ∧ x.d.size ≤ 1048576) (hN : StrsAt w pn N) (hNl : N.length ≤ 1048576) (hNz : ∀ s ∈ N, s.size ≤ 1048576) (hm : LsAt w r0 s0 t0 v0 P Am Um Dm) (hmn : (r0 = none → rc = 0) ∧ (s0 = none → sc = 0) ∧ (t0 = none → tc = 0) ∧ (v0 = none → vc = 0)) (hml : P.length ≤ 1048576 ∧ Am.length ≤ 1048576 ∧ Um.length ≤ 1048576 ∧ Dm.length ≤ 1048576) (hmq : ∀ q ∈ P, q.n.size ≤ 1048576) (hl : LsAt w q0 a0 u0 d0 Q A U D) (hln' : (q0 = none → qc = 0) ∧ (a0 = none → ac = 0) ∧ (u0 = none → uc = 0) ∧ (d0 = none → dc = 0)) (hln : Q.length ≤ 1048576 ∧ A.length ≤ 1048576 ∧ U.length ≤ 1048576 ∧ D.length ≤ 1048576) :
    Calls Tryz.prog 3 #[.slice pr R.length cr, .slice pn N.length cn, .agg #[.int .i64 j0, .bool k1, .int .i64 j2, .bool k3, .bool k4, .bool k5, .bool k6, .bool k7, .bool k8, .int .i64 j9, .slice r0 P.length rc, .slice s0 Am.length sc, .slice t0 Um.length tc, .slice v0 Dm.length vc], .agg #[.int .i64 i0, .bool b1, .int .i64 i2, .bool b3, .bool b4, .bool b5, .bool b6, .bool b7, .bool b8, .int .i64 i9, .slice q0 Q.length qc, .slice a0 A.length ac, .slice u0 U.length uc, .slice d0 D.length dc]] w fun e w' => e = .returned (.bool true) ∧ Below w.heap.size w w' := by
  obtain ⟨wr, hwr⟩ : ∃ W, (w.alloc (.cells #[.int .i64 j0, .bool k1, .int .i64 j2, .bool k3, .bool k4, .bool k5, .bool k6, .bool k7, .bool k8, .int .i64 j9, .slice r0 P.length rc, .slice s0 Am.length sc, .slice t0 Um.length tc, .slice v0 Dm.length vc] 27)).alloc (.cells #[.int .i64 i0, .bool b1, .int .i64 i2, .bool b3, .bool b4, .bool b5, .bool b6, .bool b7, .bool b8, .int .i64 i9, .slice q0 Q.length qc, .slice a0 A.length ac, .slice u0 U.length uc, .slice d0 D.length dc] 27) = W := ⟨_, rfl⟩
  have H0 : Hid (L2 w wr #[.int .i64 j0, .bool k1, .int .i64 j2, .bool k3, .bool k4, .bool k5, .bool k6, .bool k7, .bool k8, .int .i64 j9, .slice r0 P.length rc, .slice s0 Am.length sc, .slice t0 Um.length tc, .slice v0 Dm.length vc] #[.int .i64 i0, .bool b1, .int .i64 i2, .bool b3, .bool b4, .bool b5, .bool b6, .bool b7, .bool b8, .int .i64 i9, .slice q0 Q.length qc, .slice a0 A.length ac, .slice u0 U.length uc, .slice d0 D.length dc]) := hwr ▸ L2.new w _ _
  have HAl := hide' (fun V => alive_any V)
  have HAn := hide' hA
  have HNa := hide' hN
  have HNz := hide' hNz
  have HRp : Hid (∀ V s, Below w.heap.size w V → s.size ≤ 1048576 → Calls Tryz.prog 5 #[.slice pr R.length cr, .string s] V fun e w' => e = .returned (.int .i64 (ruI R s)) ∧ Below V.heap.size V w') := fun V s hV hs => policyRule_any R pr cr s V (ru_low hA hV) hR hz hs
  have HRr : Hid (∀ V s, Below w.heap.size w V → s.size ≤ 1048576 → Calls Tryz.prog 6 #[.slice pr R.length cr, .string s] V fun e w' => e = .returned (.int .i64 (ruI R s)) ∧ Below V.heap.size V w') := fun V s hV hs => refRule_any R pr cr s V (ru_low hA hV) hR hz hs
  go_enter Tryz.func3, Tryz.ntmps3
  go_wp2_with (go_at_call 4; (with_reducible refine (HAl.out _).mono ?_); rintro e w1 ⟨rfl, hB1⟩; have H1 := hide' (H0.out.step hB1); clear hB1)
  go_loopw [21] (fun kv wv => ∃ k : Nat, kv = .int .i64 (k : Int) ∧ k ≤ N.length ∧ Hid (L2 w wv #[.int .i64 j0, .bool k1, .int .i64 j2, .bool k3, .bool k4, .bool k5, .bool k6, .bool k7, .bool k8, .int .i64 j9, .slice r0 P.length rc, .slice s0 Am.length sc, .slice t0 Um.length tc, .slice v0 Dm.length vc] #[.int .i64 i0, .bool b1, .int .i64 i2, .bool b3, .bool b4, .bool b5, .bool b6, .bool b7, .bool b8, .int .i64 i9, .slice q0 Q.length qc, .slice a0 A.length ac, .slice u0 U.length uc, .slice d0 D.length dc])) (fun kv _ => N.length - (intOf kv).toNat)
  case atStart => exact ⟨0, rfl, Nat.zero_le _, H1⟩
  case round =>
    clear H1
    obtain ⟨k, rfl, hk, H2⟩ := hrel
    by_cases hlt : k < N.length
    · have pk : (k : Int) < (N.length : Int) := by omega
      have pk0 : (0 : Int) ≤ (k : Int) := by omega
      obtain ⟨g, off, rfl, hg, e0⟩ := (strs_low HNa.out H2.out.b) k hlt
      have hs := HNz.out _ (List.getElem_mem hlt)
      obtain ⟨s, hss⟩ : ∃ s, N[k] = s := ⟨_, rfl⟩
      rw [hss] at e0 hs
      clear hss
      have HP1 := hide' (fun V hV => HRp.out V s hV hs)
      have HP2 := hide' (fun V hV => HRr.out V s hV hs)
      obtain ⟨z, hz'⟩ : ∃ z, ruI R s = z := ⟨_, rfl⟩
      rw [hz'] at HP1 HP2
      clear hz' hs
      go_wp2_with (first
        | (go_at_call 5; (with_reducible refine (HP1.out _ H2.out.b).mono ?_); rintro e w3 ⟨rfl, hB3⟩; have H3 := hide' (H2.out.step hB3); clear hB3)
        | (go_at_call 6; (with_reducible refine (HP2.out _ H3.out.b).mono ?_); rintro e w4 ⟨rfl, hB4⟩; have H4 := hide' (H3.out.step hB4); clear hB4))
      exact ⟨⟨k + 1, by go_num, by omega, H4⟩, by simp [intOf]; omega⟩
    · obtain rfl : k = N.length := by omega
      go_upto_region 9 with fail
      rename_i K hK
      refine filters_nine _ _ (fun _ _ _ _ _ h => h) R pr cr j0 j2 j9 k1 k3 k4 k5 k6 k7 k8 r0 s0 t0 v0 rc sc tc vc P Am Um Dm i0 i2 i9 b1 b3 b4 b5 b6 b7 b8 q0 a0 u0 d0 qc ac uc dc Q A U D w wr hm hmn hml hmq hl hln' hln H2 _ _ _ _ _ _ _ _ _ _ _ _ _ _ _ _ _ _ _ _ _ _ _ _ _ _ _ _ _ _ _ _ _ _ _ _ _ _ _ _ _ _ _ _ _ _ _ _ _ _ _ _ _ _ _ _ _ _ _ _ _ _ _ _ _ _ _ _ _ _ _ _ _ _ _ _ _ _ _ _ _ ?_
      intro R1 R2 rq ma mu md e1 ea eu ed sq na nu nd f1 fa fu fd wx y33 y34 y35 y36 h9
      refine hK _ _ ?_
      exact filters_rest R pr cr j0 j2 j9 k1 k3 k4 k5 k6 k7 k8 r0 s0 t0 v0 rc sc tc vc P Am Um Dm i0 i2 i9 b1 b3 b4 b5 b6 b7 b8 q0 a0 u0 d0 qc ac uc dc Q A U D R1 R2 rq ma mu md e1 ea eu ed sq na nu nd f1 fa fu fd w wx hA hR hz hm hmn hml hmq hl hln' hln (hide' h9) _ _ _ _ _ _ _ _ _ _ _ _ _ _ _ _ _ _ _ _ _ _ _ _ _ _ _ _ _ _ _ _ _ _ _ _ _ _ _ _ _ _ _ _ _ _ _ _ _ _ _ _ _ _ _ _ _ _ _ _ _ _ _ _ _ _ _ _ _ _ _ _ _ _ _ _ _ _ _
end Go.Proofs.YtligjbcinahgdaaGreat

namespace Go.Proofs.YtligjbcinahgdaaGreat
set_option linter.unusedVariables false
open Go.ChangeShapes Go.WideShapes Go.Deep

section
variable {H : Type} {enc : TypeId × Value → H} {P : Program} {w : World} {base : Nat} {spare : Nat → Bool} {held : Bool}

end
theorem struct_of {t : TypeId} {k : Nat} {ts : List TypeId} (h : (Tryz.prog.underlying t).bind (fun u => match u with | .struct fs => some (oneCellFields Tryz.prog fs && decide (Tryz.prog.cellsOf t = fs.size) && decide (fs.size = k) && (fs.toList.map (·.type) == ts)) | _ => none) = some true) :
    ∃ fs : Array Field, Tryz.prog.underlying t = some (.struct fs) ∧ oneCellFields Tryz.prog fs = true ∧ Tryz.prog.cellsOf t = fs.size ∧ fs.size = k ∧ ∀ j, j < k → ∃ f, fs[j]? = some f ∧ ts[j]? = some f.type := by
  obtain ⟨u, hu, h⟩ := Option.bind_eq_some_iff.1 h
  split at h
  · rename_i fs
    simp only [Option.some.injEq, Bool.and_eq_true, decide_eq_true_eq, beq_iff_eq] at h
    refine ⟨fs, hu, h.1.1.1, h.1.1.2, h.1.2, fun j hj => ?_⟩
    have hj' : j < fs.size := by omega
    refine ⟨fs[j], by simp [hj'], ?_⟩
    rw [← h.2]
    simp [hj']
  · cases h

end Go.Proofs.YtligjbcinahgdaaGreat

namespace Go.Proofs.YtligjbcinahgdaaGreat
set_option linter.unusedVariables false
open Go.RowKit Go.Shelf Go.Maps Go.Proofs.YtligjbcinahgdaaGreat.Nm
open Go.ChangeShapes Go.WideShapes Go.Deep

section
variable {H : Type} {enc : TypeId × Value → H} {P : Program} {w : World} {base : Nat} {spare : Nat → Bool} {held : Bool}

end

section
variable {H : Type} {enc : TypeId × Value → H} {w : World} {base : Nat} {spare : Nat → Bool} {held : Bool}
theorem oneQ : (Tryz.prog.underlying 52).bind (fun t => match t with | .struct fs => some (oneCellFields Tryz.prog fs && decide (Tryz.prog.cellsOf 52 = fs.size) && decide (fs.size = 3) && (fs.toList.map (·.type) == [9, 3, 3])) | _ => none) = some true := by kernel_rfl
theorem oneR : (Tryz.prog.underlying 55).bind (fun t => match t with | .struct fs => some (oneCellFields Tryz.prog fs && decide (Tryz.prog.cellsOf 55 = fs.size) && decide (fs.size = 5) && (fs.toList.map (·.type) == [9, 3, 3, 3, 9])) | _ => none) = some true := by kernel_rfl
theorem oneM : (Tryz.prog.underlying 27).bind (fun t => match t with | .struct fs => some (oneCellFields Tryz.prog fs && decide (Tryz.prog.cellsOf 27 = fs.size) && decide (fs.size = 14) && (fs.toList.map (·.type) == [3, 4, 3, 4, 4, 4, 4, 4, 4, 3, 24, 25, 25, 25])) | _ => none) = some true := by kernel_rfl
end
end Go.Proofs.YtligjbcinahgdaaGreat

/-
  A message that comes in. (The verifier's own text.)
-/
namespace Go.Proofs.YtligjbcinahgdaaGreat.Fra
set_option linter.unusedVariables false
open Go.ChangeShapes Go.WideShapes Go.ChangeAt Go.RowKit
open Go.ChangeMaps (open_string shut_string)

theorem own : ownKnob Tryz.prog.godebug = none := by kernel_rfl
theorem laid : laidOutB Tryz.prog = true := by kernel_rfl
theorem array14 {cs : Array Value} (h : cs.size = 14) : cs = #[cs.toList.getD 0 undef, cs.toList.getD 1 undef, cs.toList.getD 2 undef, cs.toList.getD 3 undef, cs.toList.getD 4 undef, cs.toList.getD 5 undef, cs.toList.getD 6 undef, cs.toList.getD 7 undef, cs.toList.getD 8 undef, cs.toList.getD 9 undef, cs.toList.getD 10 undef, cs.toList.getD 11 undef, cs.toList.getD 12 undef, cs.toList.getD 13 undef] := by
  obtain ⟨l⟩ := cs
  match l, h with
  | [x0, x1, x2, x3, x4, x5, x6, x7, x8, x9, x10, x11, x12, x13], _ => rfl

end Go.Proofs.YtligjbcinahgdaaGreat.Fra

/-
  A message that comes in, and how much it holds. (The verifier's own text.)
-/
namespace Go.Proofs.YtligjbcinahgdaaGreat.Frb
set_option linter.unusedVariables false
open Go.RowKit Go.Shelf Go.Maps Go.Proofs.YtligjbcinahgdaaGreat.Nm
open Go.ChangeShapes Go.WideShapes Go.Deep

theorem bulk_pos {H : Type} (d : DataW H) : 1 ≤ Rows.uptoBulk d := by
  cases d with
  | lit l => cases l <;> simp [Rows.uptoBulk]
  | _ => simp [Rows.uptoBulk]
theorem bulk_len {H : Type} : ∀ l : List (DataW H), l.length ≤ Rows.uptoBulkAll l
  | [] => by simp [Rows.uptoBulkAll]
  | d :: l => by
    have := bulk_len l
    have := bulk_pos d
    simp only [Rows.uptoBulkAll, List.length_cons]
    omega
theorem bulk_mem {H : Type} : ∀ (l : List (DataW H)) (d : DataW H), d ∈ l → Rows.uptoBulk d ≤ Rows.uptoBulkAll l
  | [], d, h => by cases h
  | e :: l, d, h => by
    simp only [Rows.uptoBulkAll]
    rcases List.mem_cons.1 h with rfl | h
    · omega
    · have := bulk_mem l d h
      omega

section
variable {H : Type} {enc : TypeId × Value → H} {P : Program} {w : World} {base : Nat} {spare : Nat → Bool} {held : Bool}

/-- a slice of such structs -/
theorem rows_openB {t e : TypeId} {fs : Array Field} {fuel : Nat} {v : Value} {x : DataW H × List MemPlace} (ht : P.underlying t = some (.slice e)) (he : P.underlying e = some (.struct fs)) (hone : oneCellFields P fs = true) (hC : P.cellsOf e = fs.size) (hpos : 0 < fs.size)
    (h : DataW.trod enc P w base spare held fuel t [v] = some x) :
    ∃ (a : Option Addr) (len cap : Nat), v = .slice a len cap ∧ (a = none → cap = 0) ∧ len ≤ Rows.uptoBulk x.1 ∧ ∀ i, i < len → ∃ b o n, a = some ⟨b, o, none⟩ ∧ b < w.heap.size ∧ ∀ (j : Nat) (f : Field), fs[j]? = some f → ∃ V y, w.cell? ⟨b, o + i * fs.size + j, none⟩ = some V ∧ DataW.trod enc P w base spare held n f.type [V] = some y ∧ Rows.uptoBulk y.1 ≤ Rows.uptoBulk x.1 := by
  rcases open_slice ht h with ⟨hv, _⟩ | ⟨a, len, cap, m, n, D, Pl, hv, hb, hl, hm, hmm, hx, hel⟩
  · obtain rfl : v = .slice none 0 0 := by simpa using hv
    exact ⟨none, 0, 0, rfl, fun _ => rfl, Nat.zero_le _, fun i hi => absurd hi (Nat.not_lt_zero _)⟩
  · obtain rfl : v = .slice (some a) len cap := by simpa using hv
    have hlb : len ≤ Rows.uptoBulk x.1 := by
      rw [hx]
      have := bulk_len ((List.range len).map D)
      simp only [List.length_map, List.length_range] at this
      simp only [Rows.uptoBulk]
      omega
    refine ⟨some a, len, cap, rfl, (fun e => by cases e), hlb, fun i hi => ?_⟩
    have hDi : Rows.uptoBulk (D i) ≤ Rows.uptoBulk x.1 := by
      rw [hx]
      have := bulk_mem ((List.range len).map D) (D i) (List.mem_map.2 ⟨i, List.mem_range.2 hi, rfl⟩)
      simp only [Rows.uptoBulk]
      omega
    obtain ⟨b, o, spot⟩ := a
    have hspot : spot = none := by
      obtain ⟨cs0, hcs0, _⟩ := hel 0 (by rw [hmm]; split <;> omega)
      rw [hC] at hcs0
      obtain ⟨_, hlen0, hcell0⟩ := World.cells?_some hcs0
      have h0 := hcell0 0 hpos
      rw [List.getElem?_eq_getElem (by omega)] at h0
      have := World.cell?_spot h0
      simpa [Addr.add] using this
    obtain ⟨cs', hcs, htr⟩ := hel i (by rw [hmm]; split <;> omega)
    rw [hC] at hcs
    obtain ⟨_, hlen, hcell⟩ := World.cells?_some hcs
    obtain ⟨xs, k, _, hxe, _, hxl, hf⟩ := DataW.trod_struct he htr
    have h0 := hcell 0 hpos
    rw [List.getElem?_eq_getElem (by omega)] at h0
    subst hspot
    have ha : ∀ j, ((⟨b, o, none⟩ : Addr).add (i * fs.size)).add j = ⟨b, o + i * fs.size + j, none⟩ := fun j => by rw [add_add, addr_add, Nat.add_assoc]
    refine ⟨b, o, k, rfl, ?_, fun j f hj => ?_⟩
    · rw [ha] at h0
      unfold World.cell? at h0
      split at h0
      · rename_i hh
        exact (Array.getElem?_eq_some_iff.1 hh).1
      · cases h0
    · have hlt : j < fs.size := (Array.getElem?_eq_some_iff.1 hj).1
      obtain ⟨ho, hc1⟩ := hone_of hone j f hj
      have g := hf j f hj
      rw [ho, hc1, take1_drop _ j undef (by omega)] at g
      have hc := hcell j hlt
      rw [ha, List.getElem?_eq_getElem (by omega)] at hc
      refine ⟨cs'.getD j undef, xs[j]'(by omega), ?_, by rw [g, List.getElem?_eq_getElem (by omega)], ?_⟩
      rotate_left
      · have hD : D i = .agg (xs.map (·.1)) := congrArg Prod.fst hxe
        have := bulk_mem (xs.map (·.1)) (xs[j]'(by omega)).1 (List.mem_map.2 ⟨_, List.getElem_mem _, rfl⟩)
        rw [hD] at hDi
        simp only [Rows.uptoBulk] at hDi
        omega
      rw [hc, List.getD_eq_getElem?_getD, List.getElem?_eq_getElem (by omega)]; rfl
end


section
variable {H : Type} {enc : TypeId × Value → H} {w : World} {base : Nat} {spare : Nat → Bool} {held : Bool}
/-- questions that come in -/
theorem qs_openB {fuel : Nat} {v : Value} {x : DataW H × List MemPlace} (h : DataW.trod enc Tryz.prog w base spare held fuel 24 [v] = some x) :
    ∃ (a : Option Addr) (cap : Nat) (Q : List Qn), v = .slice a Q.length cap ∧ (a = none → cap = 0) ∧ QsAt w a Q ∧ (∀ q ∈ Q, q.n.size ≤ maxLen) ∧ Q.length ≤ Rows.uptoBulk x.1 ∧ ∀ q ∈ Q, q.n.size ≤ Rows.uptoBulk x.1 := by
  obtain ⟨fs, hs, hone, hC, h3, hty⟩ := struct_of oneQ
  obtain ⟨a, len, cap, rfl, hn, hlb, hel⟩ := rows_openB Tryz.underlying24 hs hone hC (by omega) h
  haveI : Inhabited Qn := ⟨⟨.empty, 0, 0⟩⟩
  obtain ⟨F, hF⟩ := choose_lt (α := Qn) (n := len) (p := fun i q => ∃ b o, a = some ⟨b, o, none⟩ ∧ b < w.heap.size ∧ w.cell? ⟨b, o + i * 3, none⟩ = some (.string q.n) ∧ w.cell? ⟨b, o + i * 3 + 1, none⟩ = some (.int .i64 q.t) ∧ w.cell? ⟨b, o + i * 3 + 2, none⟩ = some (.int .i64 q.c) ∧ q.n.size ≤ maxLen ∧ q.n.size ≤ Rows.uptoBulk x.1) (fun i hi => by
    obtain ⟨b, o, n, ha, hb, hf⟩ := hel i hi
    rw [h3] at hf
    obtain ⟨f0, g0, t0⟩ := hty 0 (by omega)
    obtain ⟨f1, g1, t1⟩ := hty 1 (by omega)
    obtain ⟨f2, g2, t2⟩ := hty 2 (by omega)
    obtain ⟨V0, y0, c0, r0, k0⟩ := hf 0 f0 g0
    obtain ⟨V1, y1, c1, r1, k1⟩ := hf 1 f1 g1
    obtain ⟨V2, y2, c2, r2, k2⟩ := hf 2 f2 g2
    rw [← Option.some.inj t0] at r0
    rw [← Option.some.inj t1] at r1
    rw [← Option.some.inj t2] at r2
    obtain ⟨s0, e0, hy0, z0⟩ := DataW.trod_string Tryz.underlying9 r0
    have kk : s0.size ≤ Rows.uptoBulk x.1 := by
      rw [hy0] at k0
      simp only [Rows.uptoBulk, Array.length_toList] at k0
      have : s0.data.size = s0.size := rfl
      omega
    obtain ⟨n1, e1, _, _⟩ := DataW.trod_int Tryz.underlying3 r1
    obtain ⟨n2, e2, _, _⟩ := DataW.trod_int Tryz.underlying3 r2
    obtain rfl : V0 = .string s0 := by simpa using e0
    obtain rfl : V1 = .int .i64 n1 := by simpa using e1
    obtain rfl : V2 = .int .i64 n2 := by simpa using e2
    exact ⟨⟨s0, n1, n2⟩, b, o, ha, hb, c0, c1, c2, z0, kk⟩)
  refine ⟨a, cap, (List.range len).map F, by simp, hn, fun k hk => ?_, fun q hq => ?_, by simpa using hlb, fun q hq => ?_⟩
  · have hk' : k < len := by simpa using hk
    obtain ⟨b, o, ha, hb, c0, c1, c2, _, _⟩ := hF k hk'
    exact ⟨b, o, ha, hb, by simpa using c0, by simpa using c1, by simpa using c2⟩
  · obtain ⟨i, hi, rfl⟩ := List.mem_map.1 hq
    obtain ⟨_, _, _, _, _, _, _, z, _⟩ := hF i (List.mem_range.1 hi)
    exact z
  · obtain ⟨i, hi, rfl⟩ := List.mem_map.1 hq
    obtain ⟨_, _, _, _, _, _, _, _, z⟩ := hF i (List.mem_range.1 hi)
    exact z
/-- records that come in -/
theorem rs_openB {fuel : Nat} {v : Value} {x : DataW H × List MemPlace} (h : DataW.trod enc Tryz.prog w base spare held fuel 25 [v] = some x) :
    ∃ (a : Option Addr) (cap : Nat) (L : List Rn), v = .slice a L.length cap ∧ (a = none → cap = 0) ∧ RsAt w a L ∧ (∀ r ∈ L, r.o.size ≤ maxLen ∧ r.d.size ≤ 9223372036854775807) ∧ L.length ≤ Rows.uptoBulk x.1 ∧ ∀ r ∈ L, r.o.size ≤ Rows.uptoBulk x.1 := by
  obtain ⟨fs, hs, hone, hC, h3, hty⟩ := struct_of oneR
  obtain ⟨a, len, cap, rfl, hn, hlb, hel⟩ := rows_openB Tryz.underlying25 hs hone hC (by omega) h
  haveI : Inhabited Rn := ⟨⟨.empty, 0, 0, 0, .empty⟩⟩
  obtain ⟨F, hF⟩ := choose_lt (α := Rn) (n := len) (p := fun i q => ∃ b o, a = some ⟨b, o, none⟩ ∧ b < w.heap.size ∧ w.cell? ⟨b, o + i * 5, none⟩ = some (.string q.o) ∧ w.cell? ⟨b, o + i * 5 + 1, none⟩ = some (.int .i64 q.t) ∧ w.cell? ⟨b, o + i * 5 + 2, none⟩ = some (.int .i64 q.c) ∧ w.cell? ⟨b, o + i * 5 + 3, none⟩ = some (.int .i64 q.l) ∧ w.cell? ⟨b, o + i * 5 + 4, none⟩ = some (.string q.d) ∧ q.o.size ≤ maxLen ∧ q.d.size ≤ maxLen ∧ q.o.size ≤ Rows.uptoBulk x.1) (fun i hi => by
    obtain ⟨b, o, n, ha, hb, hf⟩ := hel i hi
    rw [h3] at hf
    obtain ⟨f0, g0, t0⟩ := hty 0 (by omega)
    obtain ⟨f1, g1, t1⟩ := hty 1 (by omega)
    obtain ⟨f2, g2, t2⟩ := hty 2 (by omega)
    obtain ⟨f3, g3, t3⟩ := hty 3 (by omega)
    obtain ⟨f4, g4, t4⟩ := hty 4 (by omega)
    obtain ⟨V0, y0, c0, r0, k0⟩ := hf 0 f0 g0
    obtain ⟨V1, y1, c1, r1, k1⟩ := hf 1 f1 g1
    obtain ⟨V2, y2, c2, r2, k2⟩ := hf 2 f2 g2
    obtain ⟨V3, y3, c3, r3, k3⟩ := hf 3 f3 g3
    obtain ⟨V4, y4, c4, r4, k4⟩ := hf 4 f4 g4
    rw [← Option.some.inj t0] at r0
    rw [← Option.some.inj t1] at r1
    rw [← Option.some.inj t2] at r2
    rw [← Option.some.inj t3] at r3
    rw [← Option.some.inj t4] at r4
    obtain ⟨s0, e0, hy0, z0⟩ := DataW.trod_string Tryz.underlying9 r0
    have kk : s0.size ≤ Rows.uptoBulk x.1 := by
      rw [hy0] at k0
      simp only [Rows.uptoBulk, Array.length_toList] at k0
      have : s0.data.size = s0.size := rfl
      omega
    obtain ⟨n1, e1, _, _⟩ := DataW.trod_int Tryz.underlying3 r1
    obtain ⟨n2, e2, _, _⟩ := DataW.trod_int Tryz.underlying3 r2
    obtain ⟨n3, e3, _, _⟩ := DataW.trod_int Tryz.underlying3 r3
    obtain ⟨s4, e4, _, z4⟩ := DataW.trod_string Tryz.underlying9 r4
    obtain rfl : V0 = .string s0 := by simpa using e0
    obtain rfl : V1 = .int .i64 n1 := by simpa using e1
    obtain rfl : V2 = .int .i64 n2 := by simpa using e2
    obtain rfl : V3 = .int .i64 n3 := by simpa using e3
    obtain rfl : V4 = .string s4 := by simpa using e4
    exact ⟨⟨s0, n1, n2, n3, s4⟩, b, o, ha, hb, c0, c1, c2, c3, c4, z0, z4, kk⟩)
  refine ⟨a, cap, (List.range len).map F, by simp, hn, fun k hk => ?_, fun q hq => ?_, by simpa using hlb, fun q hq => ?_⟩
  · have hk' : k < len := by simpa using hk
    obtain ⟨b, o, ha, hb, c0, c1, c2, c3, c4, _, _, _⟩ := hF k hk'
    exact ⟨b, o, ha, hb, by simpa using c0, by simpa using c1, by simpa using c2, by simpa using c3, by simpa using c4⟩
  · obtain ⟨i, hi, rfl⟩ := List.mem_map.1 hq
    obtain ⟨_, _, _, _, _, _, _, _, _, z0, z4, _⟩ := hF i (List.mem_range.1 hi)
    exact ⟨z0, by unfold maxLen at z4; omega⟩
  · obtain ⟨i, hi, rfl⟩ := List.mem_map.1 hq
    obtain ⟨_, _, _, _, _, _, _, _, _, _, _, z⟩ := hF i (List.mem_range.1 hi)
    exact z
end
section
variable {H : Type} {enc : TypeId × Value → H} {P : Program} {w : World} {base : Nat} {spare : Nat → Bool} {held : Bool}

/-- a struct of one-cell fields that comes in by value -/
theorem agg_openB {t : TypeId} {fs : Array Field} {r : Reach} {b0 : Nat} {v : Value} {d : DataW H} {p : List MemPlace} (hs : P.underlying t = some (.struct fs)) (hone : oneCellFields P fs = true) (hC : P.cellsOf t = fs.size)
    (hv : Value.okWide P w r b0 t v) (h : DataW.Trod enc P w base spare held t v d p) :
    ∃ (cs : Array Value) (n : Nat), v = .agg cs ∧ cs.size = fs.size ∧ ∀ (i : Nat) (f : Field), fs[i]? = some f → ∃ y, DataW.trod enc P w base spare held n f.type [cs.toList.getD i undef] = some y ∧ Rows.uptoBulk y.1 ≤ Rows.uptoBulk d := by
  obtain ⟨cs, rfl, hsz⟩ := okWide_struct hs hv
  obtain ⟨fuel, hf⟩ := h
  obtain ⟨xs, n, _, hxe, _, hlen, hf'⟩ := DataW.trod_struct hs hf
  refine ⟨cs, n, rfl, hsz.trans hC, fun i f hi => ?_⟩
  have hlt : i < fs.size := (Array.getElem?_eq_some_iff.1 hi).1
  obtain ⟨ho, hc1⟩ := hone_of hone i f hi
  have g := hf' i f hi
  rw [ho, hc1] at g
  simp only [Value.cells] at g
  rw [take1_drop _ i undef (by rw [Array.length_toList]; omega)] at g
  refine ⟨xs[i]'(by omega), by rw [g, List.getElem?_eq_getElem (by omega)], ?_⟩
  have hD : d = .agg (xs.map (·.1)) := congrArg Prod.fst hxe
  have := bulk_mem (xs.map (·.1)) (xs[i]'(by omega)).1 (List.mem_map.2 ⟨_, List.getElem_mem _, rfl⟩)
  rw [hD]
  simp only [Rows.uptoBulk]
  omega

end

set_option maxRecDepth 100000 in
/-- a message that comes in -/
theorem msg_openB {H : Type} {enc : TypeId × Value → H} {w : World} {base : Nat} {spare : Nat → Bool} {held : Bool} {r : Reach} {b0 : Nat} {v : Value} {d : DataW H} {p : List MemPlace}
    (hv : Value.okWide Tryz.prog w r b0 27 v) (h : DataW.Trod enc Tryz.prog w base spare held 27 v d p) :
    ∃ (i0 i2 i9 : Int) (b1 b3 b4 b5 b6 b7 b8 : Bool) (q0 a0 u0 d0 : Option Addr) (qc ac uc dc : Nat) (Q : List Qn) (A U D : List Rn), v = .agg #[.int .i64 i0, .bool b1, .int .i64 i2, .bool b3, .bool b4, .bool b5, .bool b6, .bool b7, .bool b8, .int .i64 i9, .slice q0 Q.length qc, .slice a0 A.length ac, .slice u0 U.length uc, .slice d0 D.length dc] ∧ LsAt w q0 a0 u0 d0 Q A U D ∧ (q0 = none → qc = 0) ∧ (a0 = none → ac = 0) ∧ (u0 = none → uc = 0) ∧ (d0 = none → dc = 0) ∧ (Q.length ≤ Rows.uptoBulk d ∧ A.length ≤ Rows.uptoBulk d ∧ U.length ≤ Rows.uptoBulk d ∧ D.length ≤ Rows.uptoBulk d) ∧ (∀ x ∈ Q, x.n.size ≤ Rows.uptoBulk d) ∧ (∀ r ∈ A, r.o.size ≤ Rows.uptoBulk d) ∧ (∀ r ∈ U, r.o.size ≤ Rows.uptoBulk d) ∧ (∀ r ∈ D, r.o.size ≤ Rows.uptoBulk d) := by
  obtain ⟨fs, hs, hone, hC, h14, hty⟩ := struct_of oneM
  obtain ⟨cs, n, rfl, hsz, hf⟩ := agg_openB hs hone hC hv h
  obtain ⟨f0, g0, t0⟩ := hty 0 (by omega)
  obtain ⟨y0, r0, k0⟩ := hf 0 f0 g0
  rw [← Option.some.inj t0] at r0
  obtain ⟨f1, g1, t1⟩ := hty 1 (by omega)
  obtain ⟨y1, r1, k1⟩ := hf 1 f1 g1
  rw [← Option.some.inj t1] at r1
  obtain ⟨f2, g2, t2⟩ := hty 2 (by omega)
  obtain ⟨y2, r2, k2⟩ := hf 2 f2 g2
  rw [← Option.some.inj t2] at r2
  obtain ⟨f3, g3, t3⟩ := hty 3 (by omega)
  obtain ⟨y3, r3, k3⟩ := hf 3 f3 g3
  rw [← Option.some.inj t3] at r3
  obtain ⟨f4, g4, t4⟩ := hty 4 (by omega)
  obtain ⟨y4, r4, k4⟩ := hf 4 f4 g4
  rw [← Option.some.inj t4] at r4
  obtain ⟨f5, g5, t5⟩ := hty 5 (by omega)
  obtain ⟨y5, r5, k5⟩ := hf 5 f5 g5
  rw [← Option.some.inj t5] at r5
  obtain ⟨f6, g6, t6⟩ := hty 6 (by omega)
  obtain ⟨y6, r6, k6⟩ := hf 6 f6 g6
  rw [← Option.some.inj t6] at r6
  obtain ⟨f7, g7, t7⟩ := hty 7 (by omega)
  obtain ⟨y7, r7, k7⟩ := hf 7 f7 g7
  rw [← Option.some.inj t7] at r7
  obtain ⟨f8, g8, t8⟩ := hty 8 (by omega)
  obtain ⟨y8, r8, k8⟩ := hf 8 f8 g8
  rw [← Option.some.inj t8] at r8
  obtain ⟨f9, g9, t9⟩ := hty 9 (by omega)
  obtain ⟨y9, r9, k9⟩ := hf 9 f9 g9
  rw [← Option.some.inj t9] at r9
  obtain ⟨f10, g10, t10⟩ := hty 10 (by omega)
  obtain ⟨y10, r10, k10⟩ := hf 10 f10 g10
  rw [← Option.some.inj t10] at r10
  obtain ⟨f11, g11, t11⟩ := hty 11 (by omega)
  obtain ⟨y11, r11, k11⟩ := hf 11 f11 g11
  rw [← Option.some.inj t11] at r11
  obtain ⟨f12, g12, t12⟩ := hty 12 (by omega)
  obtain ⟨y12, r12, k12⟩ := hf 12 f12 g12
  rw [← Option.some.inj t12] at r12
  obtain ⟨f13, g13, t13⟩ := hty 13 (by omega)
  obtain ⟨y13, r13, k13⟩ := hf 13 f13 g13
  rw [← Option.some.inj t13] at r13
  obtain ⟨i0, e0, _, _⟩ := DataW.trod_int Tryz.underlying3 r0
  obtain ⟨b1, e1, _⟩ := DataW.trod_bool Tryz.underlying4 r1
  obtain ⟨i2, e2, _, _⟩ := DataW.trod_int Tryz.underlying3 r2
  obtain ⟨b3, e3, _⟩ := DataW.trod_bool Tryz.underlying4 r3
  obtain ⟨b4, e4, _⟩ := DataW.trod_bool Tryz.underlying4 r4
  obtain ⟨b5, e5, _⟩ := DataW.trod_bool Tryz.underlying4 r5
  obtain ⟨b6, e6, _⟩ := DataW.trod_bool Tryz.underlying4 r6
  obtain ⟨b7, e7, _⟩ := DataW.trod_bool Tryz.underlying4 r7
  obtain ⟨b8, e8, _⟩ := DataW.trod_bool Tryz.underlying4 r8
  obtain ⟨i9, e9, _, _⟩ := DataW.trod_int Tryz.underlying3 r9
  obtain ⟨q0, qc, Q, e10, n10, hQ, zQ, lQ, sQ⟩ := qs_openB r10
  obtain ⟨a0, ac, A, e11, n11, hA, zA, lA, sA⟩ := rs_openB r11
  obtain ⟨u0, uc, U, e12, n12, hU, zU, lU, sU⟩ := rs_openB r12
  obtain ⟨d0, dc, D, e13, n13, hD, zD, lD, sD⟩ := rs_openB r13
  refine ⟨i0, i2, i9, b1, b3, b4, b5, b6, b7, b8, q0, a0, u0, d0, qc, ac, uc, dc, Q, A, U, D, ?_, ⟨hQ, hA, hU, hD, zQ, zA, zU, zD⟩, n10, n11, n12, n13, ⟨by omega, by omega, by omega, by omega⟩, fun x h => Nat.le_trans (sQ x h) k10, fun x h => Nat.le_trans (sA x h) k11, fun x h => Nat.le_trans (sU x h) k12, fun x h => Nat.le_trans (sD x h) k13⟩
  rw [Fra.array14 (hsz.trans h14)]
  simp only [List.cons.injEq, and_true] at e0 e1 e2 e3 e4 e5 e6 e7 e8 e9
  rw [e0, e1, e2, e3, e4, e5, e6, e7, e8, e9, e10, e11, e12, e13]

end Go.Proofs.YtligjbcinahgdaaGreat.Frb

/-
  Records and questions that come in, and how much they hold. (The verifier's own text.)
-/
namespace Go.Proofs.YtligjbcinahgdaaGreat.Frj
set_option linter.unusedVariables false
set_option linter.unusedSimpArgs false
open Go.RowKit Go.Shelf Go.Maps Go.Proofs.YtligjbcinahgdaaGreat.Nm
open Go.ChangeShapes Go.WideShapes Go.Deep

theorem bulk_pos {H : Type} (d : DataW H) : 1 ≤ Rows.uptoBulk d := by
  cases d with
  | lit l => cases l <;> simp [Rows.uptoBulk]
  | _ => simp [Rows.uptoBulk]
theorem bulk_len {H : Type} : ∀ l : List (DataW H), l.length ≤ Rows.uptoBulkAll l
  | [] => by simp [Rows.uptoBulkAll]
  | d :: l => by
    have := bulk_len l
    have := bulk_pos d
    simp only [Rows.uptoBulkAll, List.length_cons]
    omega
theorem oneR : (Tryz.prog.underlying 55).bind (fun t => match t with | .struct fs => some (oneCellFields Tryz.prog fs && decide (Tryz.prog.cellsOf 55 = fs.size) && decide (fs.size = 5) && (fs.toList.map (·.type) == [9, 3, 3, 3, 9])) | _ => none) = some true := by kernel_rfl
section
variable {H : Type} {enc : TypeId × Value → H} {P : Program} {w : World} {base : Nat} {spare : Nat → Bool} {held : Bool}

/-- a slice of such structs -/
theorem rows_openS {t e : TypeId} {fs : Array Field} {fuel : Nat} {v : Value} {x : DataW H × List MemPlace} (ht : P.underlying t = some (.slice e)) (he : P.underlying e = some (.struct fs)) (hone : oneCellFields P fs = true) (hC : P.cellsOf e = fs.size) (hpos : 0 < fs.size)
    (h : DataW.trod enc P w base spare held fuel t [v] = some x) :
    ∃ (a : Option Addr) (len cap : Nat) (D : Nat → DataW H), v = .slice a len cap ∧ (a = none → cap = 0) ∧ len ≤ Rows.uptoBulk x.1 ∧ (0 < len → Rows.uptoBulkAll ((List.range len).map D) + 1 ≤ Rows.uptoBulk x.1) ∧ ∀ i, i < len → ∃ b o n, ∃ xs : List (DataW H × List MemPlace), a = some ⟨b, o, none⟩ ∧ b < w.heap.size ∧ D i = .agg (xs.map (·.1)) ∧ xs.length = fs.size ∧ ∀ (j : Nat) (f : Field), fs[j]? = some f → ∃ V y, w.cell? ⟨b, o + i * fs.size + j, none⟩ = some V ∧ DataW.trod enc P w base spare held n f.type [V] = some y ∧ xs[j]? = some y := by
  rcases open_slice ht h with ⟨hv, _⟩ | ⟨a, len, cap, m, n, D, Pl, hv, hb, hl, hm, hmm, hx, hel⟩
  · obtain rfl : v = .slice none 0 0 := by simpa using hv
    exact ⟨none, 0, 0, fun _ => .nil, rfl, fun _ => rfl, Nat.zero_le _, fun h => absurd h (Nat.lt_irrefl _), fun i hi => absurd hi (Nat.not_lt_zero _)⟩
  · obtain rfl : v = .slice (some a) len cap := by simpa using hv
    have hlb : len ≤ Rows.uptoBulk x.1 := by
      rw [hx]
      have := bulk_len ((List.range len).map D)
      simp only [List.length_map, List.length_range] at this
      simp only [Rows.uptoBulk]
      omega
    have hsum : Rows.uptoBulkAll ((List.range len).map D) + 1 ≤ Rows.uptoBulk x.1 := by
      rw [hx]
      simp only [Rows.uptoBulk]
      omega
    refine ⟨some a, len, cap, D, rfl, (fun e => by cases e), hlb, fun _ => hsum, fun i hi => ?_⟩
    obtain ⟨b, o, spot⟩ := a
    have hspot : spot = none := by
      obtain ⟨cs0, hcs0, _⟩ := hel 0 (by rw [hmm]; split <;> omega)
      rw [hC] at hcs0
      obtain ⟨_, hlen0, hcell0⟩ := World.cells?_some hcs0
      have h0 := hcell0 0 hpos
      rw [List.getElem?_eq_getElem (by omega)] at h0
      have := World.cell?_spot h0
      simpa [Addr.add] using this
    obtain ⟨cs', hcs, htr⟩ := hel i (by rw [hmm]; split <;> omega)
    rw [hC] at hcs
    obtain ⟨_, hlen, hcell⟩ := World.cells?_some hcs
    obtain ⟨xs, k, _, hxe, _, hxl, hf⟩ := DataW.trod_struct he htr
    have h0 := hcell 0 hpos
    rw [List.getElem?_eq_getElem (by omega)] at h0
    subst hspot
    have ha : ∀ j, ((⟨b, o, none⟩ : Addr).add (i * fs.size)).add j = ⟨b, o + i * fs.size + j, none⟩ := fun j => by rw [add_add, addr_add, Nat.add_assoc]
    refine ⟨b, o, k, xs, rfl, ?_, congrArg Prod.fst hxe, hxl, fun j f hj => ?_⟩
    · rw [ha] at h0
      unfold World.cell? at h0
      split at h0
      · rename_i hh
        exact (Array.getElem?_eq_some_iff.1 hh).1
      · cases h0
    · have hlt : j < fs.size := (Array.getElem?_eq_some_iff.1 hj).1
      obtain ⟨ho, hc1⟩ := hone_of hone j f hj
      have g := hf j f hj
      rw [ho, hc1, take1_drop _ j undef (by omega)] at g
      have hc := hcell j hlt
      rw [ha, List.getElem?_eq_getElem (by omega)] at hc
      refine ⟨cs'.getD j undef, xs[j]'(by omega), ?_, by rw [g, List.getElem?_eq_getElem (by omega)], List.getElem?_eq_getElem (by omega)⟩
      rw [hc, List.getD_eq_getElem?_getD, List.getElem?_eq_getElem (by omega)]; rfl
end
theorem bulk_mem {H : Type} : ∀ (l : List (DataW H)) (d : DataW H), d ∈ l → Rows.uptoBulk d ≤ Rows.uptoBulkAll l
  | [], d, h => by cases h
  | e :: l, d, h => by
    simp only [Rows.uptoBulkAll]
    rcases List.mem_cons.1 h with rfl | h
    · omega
    · have := bulk_mem l d h
      omega

theorem oneQ : (Tryz.prog.underlying 52).bind (fun t => match t with | .struct fs => some (oneCellFields Tryz.prog fs && decide (Tryz.prog.cellsOf 52 = fs.size) && decide (fs.size = 3) && (fs.toList.map (·.type) == [9, 3, 3])) | _ => none) = some true := by kernel_rfl
section
variable {H : Type} {enc : TypeId × Value → H} {w : World} {base : Nat} {spare : Nat → Bool} {held : Bool}
end
end Go.Proofs.YtligjbcinahgdaaGreat.Frj

/-
  Rules and names that come in, and how much they hold. (The verifier's own text.)
-/
namespace Go.Proofs.YtligjbcinahgdaaGreat.Frj
set_option linter.unusedVariables false
set_option linter.unusedSimpArgs false
open Go.RowKit Go.Shelf Go.Maps Go.Proofs.YtligjbcinahgdaaGreat.Nm
open Go.ChangeShapes Go.WideShapes Go.Deep

theorem oneU : (Tryz.prog.underlying 45).bind (fun t => match t with | .struct fs => some (oneCellFields Tryz.prog fs && decide (Tryz.prog.cellsOf 45 = fs.size) && decide (fs.size = 6) && (fs.toList.map (·.type) == [9, 4, 3, 3, 3, 9])) | _ => none) = some true := by kernel_rfl
section
variable {H : Type} {enc : TypeId × Value → H} {w : World} {base : Nat} {spare : Nat → Bool} {held : Bool}
theorem ru_openJ {fuel : Nat} {v : Value} {x : DataW H × List MemPlace} (h : DataW.trod enc Tryz.prog w base spare held fuel 22 [v] = some x) :
    ∃ (a : Option Addr) (cap : Nat) (L : List Ru), v = .slice a L.length cap ∧ RuAt w a L ∧ L.length ≤ Rows.uptoBulk x.1 ∧ ∀ q ∈ L, q.n.size + q.d.size ≤ Rows.uptoBulk x.1 := by
  obtain ⟨fs, hs, hone, hC, h3, hty⟩ := struct_of oneU
  obtain ⟨a, len, cap, D, rfl, hn, hlb, hsum, hel⟩ := rows_openS Tryz.underlying22 hs hone hC (by omega) h
  haveI : Inhabited Ru := ⟨zU⟩
  obtain ⟨F, hF⟩ := choose_lt (α := Ru) (n := len) (p := fun i q => ∃ b o, a = some ⟨b, o, none⟩ ∧ b < w.heap.size ∧ w.cell? ⟨b, o + i * 6, none⟩ = some (.string q.n) ∧ w.cell? ⟨b, o + i * 6 + 1, none⟩ = some (.bool q.b) ∧ w.cell? ⟨b, o + i * 6 + 2, none⟩ = some (.int .i64 q.k) ∧ w.cell? ⟨b, o + i * 6 + 3, none⟩ = some (.int .i64 q.t) ∧ w.cell? ⟨b, o + i * 6 + 4, none⟩ = some (.int .i64 q.l) ∧ w.cell? ⟨b, o + i * 6 + 5, none⟩ = some (.string q.d) ∧ q.n.size + q.d.size + 6 ≤ Rows.uptoBulk (D i)) (fun i hi => by
    obtain ⟨b, o, n, xs, ha, hb, hDi, hxs, hf⟩ := hel i hi
    rw [h3] at hf hxs
    obtain ⟨f0, g0, t0⟩ := hty 0 (by omega)
    obtain ⟨f1, g1, t1⟩ := hty 1 (by omega)
    obtain ⟨f2, g2, t2⟩ := hty 2 (by omega)
    obtain ⟨f3, g3, t3⟩ := hty 3 (by omega)
    obtain ⟨f4, g4, t4⟩ := hty 4 (by omega)
    obtain ⟨f5, g5, t5⟩ := hty 5 (by omega)
    obtain ⟨V0, y0, c0, r0, k0⟩ := hf 0 f0 g0
    rw [← Option.some.inj t0] at r0
    obtain ⟨V1, y1, c1, r1, k1⟩ := hf 1 f1 g1
    rw [← Option.some.inj t1] at r1
    obtain ⟨V2, y2, c2, r2, k2⟩ := hf 2 f2 g2
    rw [← Option.some.inj t2] at r2
    obtain ⟨V3, y3, c3, r3, k3⟩ := hf 3 f3 g3
    rw [← Option.some.inj t3] at r3
    obtain ⟨V4, y4, c4, r4, k4⟩ := hf 4 f4 g4
    rw [← Option.some.inj t4] at r4
    obtain ⟨V5, y5, c5, r5, k5⟩ := hf 5 f5 g5
    rw [← Option.some.inj t5] at r5
    obtain ⟨s0, e0, hy0, z0⟩ := DataW.trod_string Tryz.underlying9 r0
    obtain rfl : V0 = .string s0 := by simpa using e0
    obtain ⟨s1, e1, hy1⟩ := DataW.trod_bool Tryz.underlying4 r1
    obtain rfl : V1 = .bool s1 := by simpa using e1
    obtain ⟨s2, e2, hy2, _⟩ := DataW.trod_int Tryz.underlying3 r2
    obtain rfl : V2 = .int .i64 s2 := by simpa using e2
    obtain ⟨s3, e3, hy3, _⟩ := DataW.trod_int Tryz.underlying3 r3
    obtain rfl : V3 = .int .i64 s3 := by simpa using e3
    obtain ⟨s4, e4, hy4, _⟩ := DataW.trod_int Tryz.underlying3 r4
    obtain rfl : V4 = .int .i64 s4 := by simpa using e4
    obtain ⟨s5, e5, hy5, z5⟩ := DataW.trod_string Tryz.underlying9 r5
    obtain rfl : V5 = .string s5 := by simpa using e5
    have kk : s0.size + s5.size + 6 ≤ Rows.uptoBulk (D i) := by
      obtain ⟨l0, l1, l2, l3, l4, l5, rfl⟩ : ∃ l0 l1 l2 l3 l4 l5, xs = [l0, l1, l2, l3, l4, l5] := by
        match xs, hxs with
        | [l0, l1, l2, l3, l4, l5], _ => exact ⟨l0, l1, l2, l3, l4, l5, rfl⟩
      simp only [List.getElem?_cons_zero, List.getElem?_cons_succ, Option.some.injEq] at k0 k1 k2 k3 k4 k5
      subst k0
      subst k1
      subst k2
      subst k3
      subst k4
      subst k5
      rw [hDi, hy0, hy1, hy2, hy3, hy4, hy5]
      simp only [List.map_cons, List.map_nil, Rows.uptoBulk, Rows.uptoBulkAll, Array.length_toList]
      have q0 : s0.data.size = s0.size := rfl
      have q5 : s5.data.size = s5.size := rfl
      omega
    exact ⟨⟨s0, s1, s2, s3, s4, s5⟩, b, o, ha, hb, c0, c1, c2, c3, c4, c5, kk⟩)
  refine ⟨a, cap, (List.range len).map F, by simp, fun k hk => ?_, by simpa using hlb, fun q hq => ?_⟩
  · have hk' : k < len := by simpa using hk
    obtain ⟨b, o, ha, hb, c0, c1, c2, c3, c4, c5, _⟩ := hF k hk'
    exact ⟨b, o, ha, hb, by simpa using c0, by simpa using c1, by simpa using c2, by simpa using c3, by simpa using c4, by simpa using c5⟩
  · obtain ⟨i, hi, rfl⟩ := List.mem_map.1 hq
    have hi2 := List.mem_range.1 hi
    obtain ⟨_, _, _, _, _, _, _, _, _, _, z⟩ := hF i hi2
    have h1 := hsum (by omega)
    have h2 := bulk_mem ((List.range len).map D) (D i) (List.mem_map.2 ⟨i, List.mem_range.2 hi2, rfl⟩)
    omega
theorem bulk_strsJ {H : Type} (l : List ByteArray) : l.length ≤ Rows.uptoBulkAll (H := H) (strs l) ∧ ∀ x ∈ l, x.size ≤ Rows.uptoBulkAll (H := H) (strs l) := by
  induction l with
  | nil => exact ⟨Nat.zero_le _, fun x hx => by cases hx⟩
  | cons y l ih =>
    have e : Rows.uptoBulkAll (H := H) (strs (y :: l)) = (y.data.toList.length + 1) + Rows.uptoBulkAll (H := H) (strs l) := rfl
    have hz : y.data.toList.length = y.size := by rw [Array.length_toList]; rfl
    rw [e]
    refine ⟨by rw [List.length_cons]; omega, fun x hx => ?_⟩
    rcases List.mem_cons.1 hx with rfl | h
    · omega
    · have := ih.2 x h; omega
theorem cell_ltJ {W : World} {a : Addr} {v : Value} (h : W.cell? a = some v) : a.block < W.heap.size := by
  unfold World.cell? at h
  split at h
  · rename_i c e f hb
    exact (Array.getElem?_eq_some_iff.1 hb).1
  · cases h
/-- names that come in -/
theorem ns_openS {fuel : Nat} {a1 : Option Addr} {len1 cap1 : Nat} {x : DataW H × List MemPlace} (h : DataW.trod enc Tryz.prog w base spare held fuel 23 [.slice a1 len1 cap1] = some x) :
    ∃ l : List ByteArray, len1 = l.length ∧ StrsAt w a1 l ∧ l.length ≤ Rows.uptoBulk x.1 ∧ ∀ s ∈ l, s.size ≤ Rows.uptoBulk x.1 := by
  rcases open_strings Tryz.underlying23 Tryz.underlying9 (by kernel_rfl) h with ⟨hcs, hx⟩ | ⟨a, len', cap', ss, hcs, _, hl, hm, hz, hx, hcell, hws⟩
  · simp at hcs
    obtain ⟨rfl, rfl, rfl⟩ := hcs
    exact ⟨[], rfl, fun j hj => absurd hj (Nat.not_lt_zero _), Nat.zero_le _, fun s hs => by cases hs⟩
  · simp at hcs
    obtain ⟨rfl, rfl, rfl⟩ := hcs
    have hsl : len1 ≤ ss.length := by rw [hz]; split <;> omega
    obtain ⟨b1, b2⟩ := bulk_strsJ (H := H) (ss.take len1)
    have e1 : x.1 = .slice (strs (ss.take len1)) (strs (ss.drop len1)) := by rw [hx]
    refine ⟨ss.take len1, by rw [List.length_take]; omega, fun j hj => ?_, ?_, fun s hs => ?_⟩
    · rw [List.length_take] at hj
      have hc := hcell j (by omega)
      obtain ⟨g, off, spot⟩ := a
      have hspot : spot = none := by
        have h0 := hcell 0 (by omega)
        simpa [Addr.add] using World.cell?_spot h0
      subst hspot
      rw [addr_add] at hc
      refine ⟨g, off, rfl, cell_ltJ hc, ?_⟩
      rw [hc, List.getElem_take, List.getD_eq_getElem?_getD, List.getElem?_eq_getElem (by omega)]
      rfl
    · rw [e1]; simp only [Rows.uptoBulk]; omega
    · have := b2 s hs
      rw [e1]; simp only [Rows.uptoBulk]; omega
end
end Go.Proofs.YtligjbcinahgdaaGreat.Frj

namespace Go.Proofs.YtligjbcinahgdaaGreat.policyFiltersP
set_option linter.unusedVariables false
open Go.ChangeShapes Go.WideShapes Go.ChangeAt Go.RowKit
open Go.ChangeMaps (open_string shut_string)
open Go.Proofs.YtligjbcinahgdaaGreat.Fra Go.Proofs.YtligjbcinahgdaaGreat.Frb Go.Proofs.YtligjbcinahgdaaGreat.Nm

set_option maxRecDepth 100000 in
set_option maxHeartbeats 4000000 in
theorem contract (H : Type) (enc : TypeId × Value → H) (W : World) (base : Nat) (args : Array Value) (ds gs : List (DataW H)) (before : List MemPlace)
    (hval : ∀ (j : Nat) t v, Tryz.f3.params[j]? = some t → args[j]? = some v → Value.okWide Tryz.prog W .any base t v)
    (hW : DataW.Whole enc Tryz.prog Tryz.f3.params.toList Rows.policyFiltersSpec.vars false W args.toList ds gs before) (hk : Rows.uptoSmall H (ds ++ gs) = true) :
    Calls Tryz.prog 3 args W fun e W' => ∃ v, e = .returned v ∧ Rows.policyFiltersSpec.post enc Tryz.prog Tryz.f3 false true false false W args v W' := by
  have hW' := hW
  have hlt := hW.lt
  obtain ⟨p, q, hA0, hV, rfl, _, _⟩ := hW
  have hA : DataW.TrodAll enc Tryz.prog W 0 (fun _ => true) true Tryz.f3.params.toList args.toList ds p := hA0
  rw [Tryz.params3] at hA hval
  obtain ⟨v0, vs0, d0, ds0, p0, q0, hargs, rfl, rfl, h0, r0⟩ := trodAll_cons hA
  obtain ⟨v1, vs1, d1, ds1, p1, q1, rfl, rfl, rfl, h1, r1⟩ := trodAll_cons r0
  obtain ⟨v2, vs2, d2, ds2, p2, q2, rfl, rfl, rfl, h2, r2⟩ := trodAll_cons r1
  obtain ⟨v3, vs3, d3, ds3, p3, q3, rfl, rfl, rfl, h3, r3⟩ := trodAll_cons r2
  obtain ⟨rfl, rfl, rfl⟩ := trodAll_nil r3
  obtain rfl : args = #[v0, v1, v2, v3] := by cases args; simp_all
  obtain ⟨rfl, rfl⟩ := trodVars_none hV
  have s0 : ∀ W' : World, Below W.heap.size W W' → DataW.Trod enc Tryz.prog W' 0 (fun b => decide (b < W.heap.size)) true 22 v0 d0 p0 := fun W' hn => Below.trod laid (by kernel_rfl) (of_decide_eq_true (by kernel_rfl)) h0 hn (fun x hx => hlt x (by simp [hx]))
  have s1 : ∀ W' : World, Below W.heap.size W W' → DataW.Trod enc Tryz.prog W' 0 (fun b => decide (b < W.heap.size)) true 23 v1 d1 p1 := fun W' hn => Below.trod laid (by kernel_rfl) (of_decide_eq_true (by kernel_rfl)) h1 hn (fun x hx => hlt x (by simp [hx]))
  have s2 : ∀ W' : World, Below W.heap.size W W' → DataW.Trod enc Tryz.prog W' 0 (fun b => decide (b < W.heap.size)) true 27 v2 d2 p2 := fun W' hn => Below.trod laid (by kernel_rfl) (of_decide_eq_true (by kernel_rfl)) h2 hn (fun x hx => hlt x (by simp [hx]))
  have s3 : ∀ W' : World, Below W.heap.size W W' → DataW.Trod enc Tryz.prog W' 0 (fun b => decide (b < W.heap.size)) true 27 v3 d3 p3 := fun W' hn => Below.trod laid (by kernel_rfl) (of_decide_eq_true (by kernel_rfl)) h3 hn (fun x hx => hlt x (by simp [hx]))
  clear hA0
  simp only [List.append_nil] at hk
  have hbk : Rows.uptoBulk d0 ≤ 1048576 ∧ Rows.uptoBulk d1 ≤ 1048576 ∧ Rows.uptoBulk d2 ≤ 1048576 ∧ Rows.uptoBulk d3 ≤ 1048576 := by
    have h : Rows.uptoBulkAll [d0, d1, d2, d3] ≤ 1048576 := of_decide_eq_true hk
    simp only [Rows.uptoBulkAll] at h
    exact ⟨by omega, by omega, by omega, by omega⟩
  obtain ⟨b0, b1, b2, b3⟩ := hbk
  obtain ⟨pr, cr, R, rfl, hat, hrl, hrz⟩ : ∃ (a : Option Addr) (cap : Nat) (L : List Ru), v0 = .slice a L.length cap ∧ RuAt W a L ∧ L.length ≤ Rows.uptoBulk d0 ∧ ∀ q ∈ L, q.n.size + q.d.size ≤ Rows.uptoBulk d0 := by
    obtain ⟨fuel, hf⟩ := h0
    obtain ⟨z5, len5, cap5, hv5⟩ := okWide_slice Tryz.underlying22 (hval 0 22 v0 rfl rfl)
    have hc : v0.cells.toList = [v0] := by rw [hv5]; rfl
    rw [hc] at hf
    exact Frj.ru_openJ hf
  obtain ⟨pn, ln, cn, rfl⟩ := okWide_slice Tryz.underlying23 (hval 1 23 v1 rfl rfl)
  obtain ⟨N, rfl, hns, hnl, hnz⟩ : ∃ l : List ByteArray, ln = l.length ∧ StrsAt W pn l ∧ l.length ≤ Rows.uptoBulk d1 ∧ ∀ s ∈ l, s.size ≤ Rows.uptoBulk d1 := by
    obtain ⟨fuel, hf⟩ := h1
    exact Frj.ns_openS hf
  obtain ⟨j0, j2, j9, k1, k3, k4, k5, k6, k7, k8, rq0, sa0, t0, va0, rc, sc, tc, vc, P, Am, Um, Dm, rfl, hM, mq, ma, mu, md, ⟨mlq, mla, mlu, mld⟩, msq, msa, msu, msd⟩ := msg_openB (hval 2 27 v2 rfl rfl) h2
  obtain ⟨i0, i2, i9, c1, c3, c4, c5, c6, c7, c8, qq0, a0, u0, dd0, qc, ac, uc, dc, Q, A, U, D, rfl, hL, nq, na, nu, nd, ⟨lq, la, lu, ld⟩, sq, sa, su, sd⟩ := msg_openB (hval 3 27 v3 rfl rfl) h3
  refine (policyFilters_any R pr cr N pn cn j0 j2 j9 k1 k3 k4 k5 k6 k7 k8 rq0 sa0 t0 va0 rc sc tc vc P Am Um Dm i0 i2 i9 c1 c3 c4 c5 c6 c7 c8 qq0 a0 u0 dd0 qc ac uc dc Q A U D W hat (by omega) (fun x hx => by have := hrz x hx; exact ⟨by omega, by omega⟩) hns (by omega) (fun s hs => Nat.le_trans (hnz s hs) b1) hM ⟨mq, ma, mu, md⟩ ⟨by omega, by omega, by omega, by omega⟩ (fun q hq => Nat.le_trans (msq q hq) b2) hL ⟨nq, na, nu, nd⟩ ⟨by omega, by omega, by omega, by omega⟩).mono fun e W' ⟨he, bel⟩ => ?_
  subst he
  exact ⟨_, rfl, _, _, _, [], _, [], hW', trodAll_mk1 (shut_bool Tryz.underlying4 _), (trodAll_cons_mk (s0 W' bel) (trodAll_cons_mk (s1 W' bel) (trodAll_cons_mk (s2 W' bel) (trodAll_cons_mk (s3 W' bel) trodAll_mk0)))), rfl, bel.frame _, fun h => by cases h⟩

set_option maxRecDepth 100000 in
theorem lifted (os : Os) (started : os.Started) (H : Type) (enc : TypeId × Value → H) (F : Stop.Interp) :
    ReturnsInHanded {} Tryz.checked os 3 .any ((Rows.OpenSpec.upto Rows.policyFiltersSpec).pre6 enc Tryz.prog Tryz.f3 Rows.policyFiltersUptoRow.domain false) (((Rows.OpenSpec.upto Rows.policyFiltersSpec).at F).post enc Tryz.prog Tryz.f3 false true false false) := by
  refine returnsInHanded_of_cond (C := Tryz.checked) (s := Rows.OpenSpec.upto Rows.policyFiltersSpec) (k := Rows.uptoSmall) rfl own started (by kernel_rfl) Tryz.func3
    (OpenSpec.witness (enc := enc) (C := Tryz.checked) (s := Rows.OpenSpec.upto Rows.policyFiltersSpec) (k := Rows.uptoSmall) rfl false ⟨#[], #[.slice none 0 0, .slice none 0 0, .agg #[.int .i64 0, .bool false, .int .i64 0, .bool false, .bool false, .bool false, .bool false, .bool false, .bool false, .int .i64 0, .slice none 0 0, .slice none 0 0, .slice none 0 0, .slice none 0 0], .agg #[.int .i64 0, .bool false, .int .i64 0, .bool false, .bool false, .bool false, .bool false, .bool false, .bool false, .int .i64 0, .slice none 0 0, .slice none 0 0, .slice none 0 0, .slice none 0 0]], []⟩ 8 (by kernel_rfl) (by kernel_rfl) (by kernel_rfl)
      (x := ([.nil, .nil, .agg [.lit (.int .i64 0), .lit (.bool false), .lit (.int .i64 0), .lit (.bool false), .lit (.bool false), .lit (.bool false), .lit (.bool false), .lit (.bool false), .lit (.bool false), .lit (.int .i64 0), .nil, .nil, .nil, .nil], .agg [.lit (.int .i64 0), .lit (.bool false), .lit (.int .i64 0), .lit (.bool false), .lit (.bool false), .lit (.bool false), .lit (.bool false), .lit (.bool false), .lit (.bool false), .lit (.int .i64 0), .nil, .nil, .nil, .nil]], [], [])) (by kernel_rfl) rfl (by kernel_rfl)) ?_
  intro W base args ds gs before hval hW _ hk _
  exact contract H enc W base args ds gs before hval hW hk

theorem proved : Rows.PolicyFiltersUptoSaid :=
  OpenClaim.holds_of_cond 3 Tryz.f3 rfl rfl rfl rfl rfl rfl rfl ⟨rfl, rfl, rfl, rfl, rfl⟩ rfl rfl rfl rfl rfl (by kernel_rfl) Tryz.func3 (by kernel_rfl)
    (of_decide_eq_true (by kernel_rfl)) (by unfold Func.isWrapper; first | (rw [if_pos (by decide +kernel)]; kernel_rfl) | (rw [if_neg (by decide +kernel)]; exact ⟨rfl, rfl⟩))
    (fun os started H enc _ F => lifted os started H enc F)
end Go.Proofs.YtligjbcinahgdaaGreat.policyFiltersP
namespace Go.Proofs.YtligjbcinahgdaaGreat
theorem policyFilters_upto : Rows.PolicyFiltersUptoSaid := policyFiltersP.proved
end Go.Proofs.YtligjbcinahgdaaGreat
