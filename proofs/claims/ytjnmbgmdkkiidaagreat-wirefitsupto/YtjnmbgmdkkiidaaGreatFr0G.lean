import Derived.Test.YtjnmbgmdkkiidaaGreatMathG
import Derived.Test.YtjnmbgmdkkiidaaGreatChecked
import Derived.Deep.Fields
import Derived.ChangeSlices
import Derived.Test.YtjnmbgmdkkiidaaGreatPk11G
import Derived.ProofKit
import Derived.OpenShut
import Derived.JoinedCond
import Derived.ShutString
import Derived.ChangeOld
import Derived.Carry
import Derived.Test.YtjnmbgmdkkiidaaGreatRows
namespace Go.Proofs.YtjnmbgmdkkiidaaGreat
set_option linter.unusedVariables false
open Go.ChangeShapes Go.WideShapes Go.Deep

section
variable {H : Type} {enc : TypeId × Value → H} {P : Program} {w : World} {base : Nat} {spare : Nat → Bool} {held : Bool}

/-- a struct of one-cell fields that comes in by value -/
theorem agg_open {t : TypeId} {fs : Array Field} {r : Reach} {b0 : Nat} {v : Value} {d : DataW H} {p : List MemPlace} (hs : P.underlying t = some (.struct fs)) (hone : oneCellFields P fs = true) (hC : P.cellsOf t = fs.size)
    (hv : Value.okWide P w r b0 t v) (h : DataW.Trod enc P w base spare held t v d p) :
    ∃ (cs : Array Value) (n : Nat), v = .agg cs ∧ cs.size = fs.size ∧ ∀ (i : Nat) (f : Field), fs[i]? = some f → ∃ y, DataW.trod enc P w base spare held n f.type [cs.toList.getD i undef] = some y := by
  obtain ⟨cs, rfl, hsz⟩ := okWide_struct hs hv
  obtain ⟨fuel, hf⟩ := h
  obtain ⟨xs, n, _, _, _, hlen, hf'⟩ := DataW.trod_struct hs hf
  refine ⟨cs, n, rfl, hsz.trans hC, fun i f hi => ?_⟩
  have hlt : i < fs.size := (Array.getElem?_eq_some_iff.1 hi).1
  obtain ⟨ho, hc1⟩ := hone_of hone i f hi
  have g := hf' i f hi
  rw [ho, hc1] at g
  simp only [Value.cells] at g
  rw [take1_drop _ i undef (by rw [Array.length_toList]; omega)] at g
  exact ⟨xs[i]'(by omega), by rw [g, List.getElem?_eq_getElem (by omega)]⟩

end
theorem struct_of {t : TypeId} {k : Nat} {ts : List TypeId} (h : (Tryz.prog.underlying t).bind (fun u => match u with | .struct fs => some (oneCellFields Tryz.prog fs && decide (Tryz.prog.cellsOf t = fs.size) && decide (fs.size = k) && (fs.toList.map (·.type) == ts)) | _ => none) = some true) :
    ∃ fs : Array Field, Tryz.prog.underlying t = some (.struct fs) ∧ oneCellFields Tryz.prog fs = true ∧ Tryz.prog.cellsOf t = fs.size ∧ fs.size = k ∧ ∀ j, j < k → ∃ f, fs[j]? = some f ∧ ts[j]? = some f.type := by
  obtain ⟨u, hu, h⟩ := Option.bind_eq_some_iff.1 h
  split at h
  · rename_i fs
    simp only [Option.some.injEq, Bool.and_eq_true, decide_eq_true_eq, beq_iff_eq] at h
    refine ⟨fs, hu, h.1.1.1, h.1.1.2, h.1.2, fun j hj => ?_⟩
    have hj' : j < fs.size := by omega
    refine ⟨fs[j], by simp [hj'], ?_⟩
    rw [← h.2]
    simp [hj']
  · cases h

end Go.Proofs.YtjnmbgmdkkiidaaGreat

namespace Go.Proofs.YtjnmbgmdkkiidaaGreat
set_option linter.unusedVariables false
open Go.RowKit Go.Shelf Go.Maps Go.Proofs.YtjnmbgmdkkiidaaGreat.Nm
open Go.ChangeShapes Go.WideShapes Go.Deep

section
variable {H : Type} {enc : TypeId × Value → H} {P : Program} {w : World} {base : Nat} {spare : Nat → Bool} {held : Bool}

/-- a slice of such structs -/
theorem rows_open {t e : TypeId} {fs : Array Field} {fuel : Nat} {v : Value} {x : DataW H × List MemPlace} (ht : P.underlying t = some (.slice e)) (he : P.underlying e = some (.struct fs)) (hone : oneCellFields P fs = true) (hC : P.cellsOf e = fs.size) (hpos : 0 < fs.size)
    (h : DataW.trod enc P w base spare held fuel t [v] = some x) :
    ∃ (a : Option Addr) (len cap : Nat), v = .slice a len cap ∧ (a = none → cap = 0) ∧ ∀ i, i < len → ∃ b o n, a = some ⟨b, o, none⟩ ∧ b < w.heap.size ∧ ∀ (j : Nat) (f : Field), fs[j]? = some f → ∃ V y, w.cell? ⟨b, o + i * fs.size + j, none⟩ = some V ∧ DataW.trod enc P w base spare held n f.type [V] = some y := by
  rcases open_slice ht h with ⟨hv, _⟩ | ⟨a, len, cap, m, n, D, Pl, hv, hb, hl, hm, hmm, _, hel⟩
  · obtain rfl : v = .slice none 0 0 := by simpa using hv
    exact ⟨none, 0, 0, rfl, fun _ => rfl, fun i hi => absurd hi (Nat.not_lt_zero _)⟩
  · obtain rfl : v = .slice (some a) len cap := by simpa using hv
    refine ⟨some a, len, cap, rfl, (fun e => by cases e), fun i hi => ?_⟩
    obtain ⟨b, o, spot⟩ := a
    have hspot : spot = none := by
      obtain ⟨cs0, hcs0, _⟩ := hel 0 (by rw [hmm]; split <;> omega)
      rw [hC] at hcs0
      obtain ⟨_, hlen0, hcell0⟩ := World.cells?_some hcs0
      have h0 := hcell0 0 hpos
      rw [List.getElem?_eq_getElem (by omega)] at h0
      have := World.cell?_spot h0
      simpa [Addr.add] using this
    obtain ⟨cs', hcs, htr⟩ := hel i (by rw [hmm]; split <;> omega)
    rw [hC] at hcs
    obtain ⟨_, hlen, hcell⟩ := World.cells?_some hcs
    obtain ⟨xs, k, _, _, _, hxl, hf⟩ := DataW.trod_struct he htr
    have h0 := hcell 0 hpos
    rw [List.getElem?_eq_getElem (by omega)] at h0
    subst hspot
    have ha : ∀ j, ((⟨b, o, none⟩ : Addr).add (i * fs.size)).add j = ⟨b, o + i * fs.size + j, none⟩ := fun j => by rw [add_add, addr_add, Nat.add_assoc]
    refine ⟨b, o, k, rfl, ?_, fun j f hj => ?_⟩
    · rw [ha] at h0
      unfold World.cell? at h0
      split at h0
      · rename_i hh
        exact (Array.getElem?_eq_some_iff.1 hh).1
      · cases h0
    · have hlt : j < fs.size := (Array.getElem?_eq_some_iff.1 hj).1
      obtain ⟨ho, hc1⟩ := hone_of hone j f hj
      have g := hf j f hj
      rw [ho, hc1, take1_drop _ j undef (by omega)] at g
      have hc := hcell j hlt
      rw [ha, List.getElem?_eq_getElem (by omega)] at hc
      refine ⟨cs'.getD j undef, xs[j]'(by omega), ?_, by rw [g, List.getElem?_eq_getElem (by omega)]⟩
      rw [hc, List.getD_eq_getElem?_getD, List.getElem?_eq_getElem (by omega)]; rfl
end

section
variable {H : Type} {enc : TypeId × Value → H} {w : World} {base : Nat} {spare : Nat → Bool} {held : Bool}
theorem oneQ : (Tryz.prog.underlying 57).bind (fun t => match t with | .struct fs => some (oneCellFields Tryz.prog fs && decide (Tryz.prog.cellsOf 57 = fs.size) && decide (fs.size = 3) && (fs.toList.map (·.type) == [9, 3, 3])) | _ => none) = some true := by kernel_rfl
theorem oneR : (Tryz.prog.underlying 59).bind (fun t => match t with | .struct fs => some (oneCellFields Tryz.prog fs && decide (Tryz.prog.cellsOf 59 = fs.size) && decide (fs.size = 5) && (fs.toList.map (·.type) == [9, 3, 3, 3, 9])) | _ => none) = some true := by kernel_rfl
theorem oneM : (Tryz.prog.underlying 25).bind (fun t => match t with | .struct fs => some (oneCellFields Tryz.prog fs && decide (Tryz.prog.cellsOf 25 = fs.size) && decide (fs.size = 14) && (fs.toList.map (·.type) == [3, 4, 3, 4, 4, 4, 4, 4, 4, 3, 22, 23, 23, 23])) | _ => none) = some true := by kernel_rfl
/-- questions that come in -/
theorem qs_open {fuel : Nat} {v : Value} {x : DataW H × List MemPlace} (h : DataW.trod enc Tryz.prog w base spare held fuel 22 [v] = some x) :
    ∃ (a : Option Addr) (cap : Nat) (Q : List Qn), v = .slice a Q.length cap ∧ (a = none → cap = 0) ∧ QsAt w a Q ∧ ∀ q ∈ Q, q.n.size ≤ maxLen := by
  obtain ⟨fs, hs, hone, hC, h3, hty⟩ := struct_of oneQ
  obtain ⟨a, len, cap, rfl, hn, hel⟩ := rows_open Tryz.underlying22 hs hone hC (by omega) h
  haveI : Inhabited Qn := ⟨⟨.empty, 0, 0⟩⟩
  obtain ⟨F, hF⟩ := choose_lt (α := Qn) (n := len) (p := fun i q => ∃ b o, a = some ⟨b, o, none⟩ ∧ b < w.heap.size ∧ w.cell? ⟨b, o + i * 3, none⟩ = some (.string q.n) ∧ w.cell? ⟨b, o + i * 3 + 1, none⟩ = some (.int .i64 q.t) ∧ w.cell? ⟨b, o + i * 3 + 2, none⟩ = some (.int .i64 q.c) ∧ q.n.size ≤ maxLen) (fun i hi => by
    obtain ⟨b, o, n, ha, hb, hf⟩ := hel i hi
    rw [h3] at hf
    obtain ⟨f0, g0, t0⟩ := hty 0 (by omega)
    obtain ⟨f1, g1, t1⟩ := hty 1 (by omega)
    obtain ⟨f2, g2, t2⟩ := hty 2 (by omega)
    obtain ⟨V0, y0, c0, r0⟩ := hf 0 f0 g0
    obtain ⟨V1, y1, c1, r1⟩ := hf 1 f1 g1
    obtain ⟨V2, y2, c2, r2⟩ := hf 2 f2 g2
    rw [← Option.some.inj t0] at r0
    rw [← Option.some.inj t1] at r1
    rw [← Option.some.inj t2] at r2
    obtain ⟨s0, e0, _, z0⟩ := DataW.trod_string Tryz.underlying9 r0
    obtain ⟨n1, e1, _, _⟩ := DataW.trod_int Tryz.underlying3 r1
    obtain ⟨n2, e2, _, _⟩ := DataW.trod_int Tryz.underlying3 r2
    obtain rfl : V0 = .string s0 := by simpa using e0
    obtain rfl : V1 = .int .i64 n1 := by simpa using e1
    obtain rfl : V2 = .int .i64 n2 := by simpa using e2
    exact ⟨⟨s0, n1, n2⟩, b, o, ha, hb, c0, c1, c2, z0⟩)
  refine ⟨a, cap, (List.range len).map F, by simp, hn, fun k hk => ?_, fun q hq => ?_⟩
  · have hk' : k < len := by simpa using hk
    obtain ⟨b, o, ha, hb, c0, c1, c2, _⟩ := hF k hk'
    exact ⟨b, o, ha, hb, by simpa using c0, by simpa using c1, by simpa using c2⟩
  · obtain ⟨i, hi, rfl⟩ := List.mem_map.1 hq
    obtain ⟨_, _, _, _, _, _, _, z⟩ := hF i (List.mem_range.1 hi)
    exact z
/-- records that come in -/
theorem rs_open {fuel : Nat} {v : Value} {x : DataW H × List MemPlace} (h : DataW.trod enc Tryz.prog w base spare held fuel 23 [v] = some x) :
    ∃ (a : Option Addr) (cap : Nat) (L : List Rn), v = .slice a L.length cap ∧ (a = none → cap = 0) ∧ RsAt w a L ∧ ∀ r ∈ L, r.o.size ≤ maxLen ∧ r.d.size ≤ 9223372036854775807 := by
  obtain ⟨fs, hs, hone, hC, h3, hty⟩ := struct_of oneR
  obtain ⟨a, len, cap, rfl, hn, hel⟩ := rows_open Tryz.underlying23 hs hone hC (by omega) h
  haveI : Inhabited Rn := ⟨⟨.empty, 0, 0, 0, .empty⟩⟩
  obtain ⟨F, hF⟩ := choose_lt (α := Rn) (n := len) (p := fun i q => ∃ b o, a = some ⟨b, o, none⟩ ∧ b < w.heap.size ∧ w.cell? ⟨b, o + i * 5, none⟩ = some (.string q.o) ∧ w.cell? ⟨b, o + i * 5 + 1, none⟩ = some (.int .i64 q.t) ∧ w.cell? ⟨b, o + i * 5 + 2, none⟩ = some (.int .i64 q.c) ∧ w.cell? ⟨b, o + i * 5 + 3, none⟩ = some (.int .i64 q.l) ∧ w.cell? ⟨b, o + i * 5 + 4, none⟩ = some (.string q.d) ∧ q.o.size ≤ maxLen ∧ q.d.size ≤ maxLen) (fun i hi => by
    obtain ⟨b, o, n, ha, hb, hf⟩ := hel i hi
    rw [h3] at hf
    obtain ⟨f0, g0, t0⟩ := hty 0 (by omega)
    obtain ⟨f1, g1, t1⟩ := hty 1 (by omega)
    obtain ⟨f2, g2, t2⟩ := hty 2 (by omega)
    obtain ⟨f3, g3, t3⟩ := hty 3 (by omega)
    obtain ⟨f4, g4, t4⟩ := hty 4 (by omega)
    obtain ⟨V0, y0, c0, r0⟩ := hf 0 f0 g0
    obtain ⟨V1, y1, c1, r1⟩ := hf 1 f1 g1
    obtain ⟨V2, y2, c2, r2⟩ := hf 2 f2 g2
    obtain ⟨V3, y3, c3, r3⟩ := hf 3 f3 g3
    obtain ⟨V4, y4, c4, r4⟩ := hf 4 f4 g4
    rw [← Option.some.inj t0] at r0
    rw [← Option.some.inj t1] at r1
    rw [← Option.some.inj t2] at r2
    rw [← Option.some.inj t3] at r3
    rw [← Option.some.inj t4] at r4
    obtain ⟨s0, e0, _, z0⟩ := DataW.trod_string Tryz.underlying9 r0
    obtain ⟨n1, e1, _, _⟩ := DataW.trod_int Tryz.underlying3 r1
    obtain ⟨n2, e2, _, _⟩ := DataW.trod_int Tryz.underlying3 r2
    obtain ⟨n3, e3, _, _⟩ := DataW.trod_int Tryz.underlying3 r3
    obtain ⟨s4, e4, _, z4⟩ := DataW.trod_string Tryz.underlying9 r4
    obtain rfl : V0 = .string s0 := by simpa using e0
    obtain rfl : V1 = .int .i64 n1 := by simpa using e1
    obtain rfl : V2 = .int .i64 n2 := by simpa using e2
    obtain rfl : V3 = .int .i64 n3 := by simpa using e3
    obtain rfl : V4 = .string s4 := by simpa using e4
    exact ⟨⟨s0, n1, n2, n3, s4⟩, b, o, ha, hb, c0, c1, c2, c3, c4, z0, z4⟩)
  refine ⟨a, cap, (List.range len).map F, by simp, hn, fun k hk => ?_, fun q hq => ?_⟩
  · have hk' : k < len := by simpa using hk
    obtain ⟨b, o, ha, hb, c0, c1, c2, c3, c4, _, _⟩ := hF k hk'
    exact ⟨b, o, ha, hb, by simpa using c0, by simpa using c1, by simpa using c2, by simpa using c3, by simpa using c4⟩
  · obtain ⟨i, hi, rfl⟩ := List.mem_map.1 hq
    obtain ⟨_, _, _, _, _, _, _, _, _, z0, z4⟩ := hF i (List.mem_range.1 hi)
    exact ⟨z0, by unfold maxLen at z4; omega⟩
end
end Go.Proofs.YtjnmbgmdkkiidaaGreat

/-
  A message that comes in. (The verifier's own text.)
-/
namespace Go.Proofs.YtjnmbgmdkkiidaaGreat.Fra
set_option linter.unusedVariables false
open Go.ChangeShapes Go.WideShapes Go.ChangeAt Go.RowKit
open Go.ChangeMaps (open_string shut_string)

theorem own : ownKnob Tryz.prog.godebug = none := by kernel_rfl
theorem laid : laidOutB Tryz.prog = true := by kernel_rfl
theorem array14 {cs : Array Value} (h : cs.size = 14) : cs = #[cs.toList.getD 0 undef, cs.toList.getD 1 undef, cs.toList.getD 2 undef, cs.toList.getD 3 undef, cs.toList.getD 4 undef, cs.toList.getD 5 undef, cs.toList.getD 6 undef, cs.toList.getD 7 undef, cs.toList.getD 8 undef, cs.toList.getD 9 undef, cs.toList.getD 10 undef, cs.toList.getD 11 undef, cs.toList.getD 12 undef, cs.toList.getD 13 undef] := by
  obtain ⟨l⟩ := cs
  match l, h with
  | [x0, x1, x2, x3, x4, x5, x6, x7, x8, x9, x10, x11, x12, x13], _ => rfl

set_option maxRecDepth 100000 in
/-- a message that comes in -/
theorem msg_open {H : Type} {enc : TypeId × Value → H} {w : World} {base : Nat} {spare : Nat → Bool} {held : Bool} {r : Reach} {b0 : Nat} {v : Value} {d : DataW H} {p : List MemPlace}
    (hv : Value.okWide Tryz.prog w r b0 25 v) (h : DataW.Trod enc Tryz.prog w base spare held 25 v d p) :
    ∃ (i0 i2 i9 : Int) (b1 b3 b4 b5 b6 b7 b8 : Bool) (q0 a0 u0 d0 : Option Addr) (qc ac uc dc : Nat) (Q : List Qn) (A U D : List Rn), v = .agg #[.int .i64 i0, .bool b1, .int .i64 i2, .bool b3, .bool b4, .bool b5, .bool b6, .bool b7, .bool b8, .int .i64 i9, .slice q0 Q.length qc, .slice a0 A.length ac, .slice u0 U.length uc, .slice d0 D.length dc] ∧ LsAt w q0 a0 u0 d0 Q A U D ∧ (q0 = none → qc = 0) ∧ (a0 = none → ac = 0) ∧ (u0 = none → uc = 0) ∧ (d0 = none → dc = 0) := by
  obtain ⟨fs, hs, hone, hC, h14, hty⟩ := struct_of oneM
  obtain ⟨cs, n, rfl, hsz, hf⟩ := agg_open hs hone hC hv h
  obtain ⟨f0, g0, t0⟩ := hty 0 (by omega)
  obtain ⟨y0, r0⟩ := hf 0 f0 g0
  rw [← Option.some.inj t0] at r0
  obtain ⟨f1, g1, t1⟩ := hty 1 (by omega)
  obtain ⟨y1, r1⟩ := hf 1 f1 g1
  rw [← Option.some.inj t1] at r1
  obtain ⟨f2, g2, t2⟩ := hty 2 (by omega)
  obtain ⟨y2, r2⟩ := hf 2 f2 g2
  rw [← Option.some.inj t2] at r2
  obtain ⟨f3, g3, t3⟩ := hty 3 (by omega)
  obtain ⟨y3, r3⟩ := hf 3 f3 g3
  rw [← Option.some.inj t3] at r3
  obtain ⟨f4, g4, t4⟩ := hty 4 (by omega)
  obtain ⟨y4, r4⟩ := hf 4 f4 g4
  rw [← Option.some.inj t4] at r4
  obtain ⟨f5, g5, t5⟩ := hty 5 (by omega)
  obtain ⟨y5, r5⟩ := hf 5 f5 g5
  rw [← Option.some.inj t5] at r5
  obtain ⟨f6, g6, t6⟩ := hty 6 (by omega)
  obtain ⟨y6, r6⟩ := hf 6 f6 g6
  rw [← Option.some.inj t6] at r6
  obtain ⟨f7, g7, t7⟩ := hty 7 (by omega)
  obtain ⟨y7, r7⟩ := hf 7 f7 g7
  rw [← Option.some.inj t7] at r7
  obtain ⟨f8, g8, t8⟩ := hty 8 (by omega)
  obtain ⟨y8, r8⟩ := hf 8 f8 g8
  rw [← Option.some.inj t8] at r8
  obtain ⟨f9, g9, t9⟩ := hty 9 (by omega)
  obtain ⟨y9, r9⟩ := hf 9 f9 g9
  rw [← Option.some.inj t9] at r9
  obtain ⟨f10, g10, t10⟩ := hty 10 (by omega)
  obtain ⟨y10, r10⟩ := hf 10 f10 g10
  rw [← Option.some.inj t10] at r10
  obtain ⟨f11, g11, t11⟩ := hty 11 (by omega)
  obtain ⟨y11, r11⟩ := hf 11 f11 g11
  rw [← Option.some.inj t11] at r11
  obtain ⟨f12, g12, t12⟩ := hty 12 (by omega)
  obtain ⟨y12, r12⟩ := hf 12 f12 g12
  rw [← Option.some.inj t12] at r12
  obtain ⟨f13, g13, t13⟩ := hty 13 (by omega)
  obtain ⟨y13, r13⟩ := hf 13 f13 g13
  rw [← Option.some.inj t13] at r13
  obtain ⟨i0, e0, _, _⟩ := DataW.trod_int Tryz.underlying3 r0
  obtain ⟨b1, e1, _⟩ := DataW.trod_bool Tryz.underlying4 r1
  obtain ⟨i2, e2, _, _⟩ := DataW.trod_int Tryz.underlying3 r2
  obtain ⟨b3, e3, _⟩ := DataW.trod_bool Tryz.underlying4 r3
  obtain ⟨b4, e4, _⟩ := DataW.trod_bool Tryz.underlying4 r4
  obtain ⟨b5, e5, _⟩ := DataW.trod_bool Tryz.underlying4 r5
  obtain ⟨b6, e6, _⟩ := DataW.trod_bool Tryz.underlying4 r6
  obtain ⟨b7, e7, _⟩ := DataW.trod_bool Tryz.underlying4 r7
  obtain ⟨b8, e8, _⟩ := DataW.trod_bool Tryz.underlying4 r8
  obtain ⟨i9, e9, _, _⟩ := DataW.trod_int Tryz.underlying3 r9
  obtain ⟨q0, qc, Q, e10, n10, hQ, zQ⟩ := qs_open r10
  obtain ⟨a0, ac, A, e11, n11, hA, zA⟩ := rs_open r11
  obtain ⟨u0, uc, U, e12, n12, hU, zU⟩ := rs_open r12
  obtain ⟨d0, dc, D, e13, n13, hD, zD⟩ := rs_open r13
  refine ⟨i0, i2, i9, b1, b3, b4, b5, b6, b7, b8, q0, a0, u0, d0, qc, ac, uc, dc, Q, A, U, D, ?_, ⟨hQ, hA, hU, hD, zQ, zA, zU, zD⟩, n10, n11, n12, n13⟩
  rw [array14 (hsz.trans h14)]
  simp only [List.cons.injEq, and_true] at e0 e1 e2 e3 e4 e5 e6 e7 e8 e9
  rw [e0, e1, e2, e3, e4, e5, e6, e7, e8, e9, e10, e11, e12, e13]
end Go.Proofs.YtjnmbgmdkkiidaaGreat.Fra

/-
  A message that comes in, and how much it holds. (The verifier's own text.)
-/
namespace Go.Proofs.YtjnmbgmdkkiidaaGreat.Frb
set_option linter.unusedVariables false
open Go.RowKit Go.Shelf Go.Maps Go.Proofs.YtjnmbgmdkkiidaaGreat.Nm
open Go.ChangeShapes Go.WideShapes Go.Deep

theorem bulk_pos {H : Type} (d : DataW H) : 1 ≤ Rows.uptoBulk d := by
  cases d with
  | lit l => cases l <;> simp [Rows.uptoBulk]
  | _ => simp [Rows.uptoBulk]
theorem bulk_len {H : Type} : ∀ l : List (DataW H), l.length ≤ Rows.uptoBulkAll l
  | [] => by simp [Rows.uptoBulkAll]
  | d :: l => by
    have := bulk_len l
    have := bulk_pos d
    simp only [Rows.uptoBulkAll, List.length_cons]
    omega
theorem bulk_mem {H : Type} : ∀ (l : List (DataW H)) (d : DataW H), d ∈ l → Rows.uptoBulk d ≤ Rows.uptoBulkAll l
  | [], d, h => by cases h
  | e :: l, d, h => by
    simp only [Rows.uptoBulkAll]
    rcases List.mem_cons.1 h with rfl | h
    · omega
    · have := bulk_mem l d h
      omega

section
variable {H : Type} {enc : TypeId × Value → H} {P : Program} {w : World} {base : Nat} {spare : Nat → Bool} {held : Bool}

/-- a slice of such structs -/
theorem rows_openB {t e : TypeId} {fs : Array Field} {fuel : Nat} {v : Value} {x : DataW H × List MemPlace} (ht : P.underlying t = some (.slice e)) (he : P.underlying e = some (.struct fs)) (hone : oneCellFields P fs = true) (hC : P.cellsOf e = fs.size) (hpos : 0 < fs.size)
    (h : DataW.trod enc P w base spare held fuel t [v] = some x) :
    ∃ (a : Option Addr) (len cap : Nat), v = .slice a len cap ∧ (a = none → cap = 0) ∧ len ≤ Rows.uptoBulk x.1 ∧ ∀ i, i < len → ∃ b o n, a = some ⟨b, o, none⟩ ∧ b < w.heap.size ∧ ∀ (j : Nat) (f : Field), fs[j]? = some f → ∃ V y, w.cell? ⟨b, o + i * fs.size + j, none⟩ = some V ∧ DataW.trod enc P w base spare held n f.type [V] = some y ∧ Rows.uptoBulk y.1 ≤ Rows.uptoBulk x.1 := by
  rcases open_slice ht h with ⟨hv, _⟩ | ⟨a, len, cap, m, n, D, Pl, hv, hb, hl, hm, hmm, hx, hel⟩
  · obtain rfl : v = .slice none 0 0 := by simpa using hv
    exact ⟨none, 0, 0, rfl, fun _ => rfl, Nat.zero_le _, fun i hi => absurd hi (Nat.not_lt_zero _)⟩
  · obtain rfl : v = .slice (some a) len cap := by simpa using hv
    have hlb : len ≤ Rows.uptoBulk x.1 := by
      rw [hx]
      have := bulk_len ((List.range len).map D)
      simp only [List.length_map, List.length_range] at this
      simp only [Rows.uptoBulk]
      omega
    refine ⟨some a, len, cap, rfl, (fun e => by cases e), hlb, fun i hi => ?_⟩
    have hDi : Rows.uptoBulk (D i) ≤ Rows.uptoBulk x.1 := by
      rw [hx]
      have := bulk_mem ((List.range len).map D) (D i) (List.mem_map.2 ⟨i, List.mem_range.2 hi, rfl⟩)
      simp only [Rows.uptoBulk]
      omega
    obtain ⟨b, o, spot⟩ := a
    have hspot : spot = none := by
      obtain ⟨cs0, hcs0, _⟩ := hel 0 (by rw [hmm]; split <;> omega)
      rw [hC] at hcs0
      obtain ⟨_, hlen0, hcell0⟩ := World.cells?_some hcs0
      have h0 := hcell0 0 hpos
      rw [List.getElem?_eq_getElem (by omega)] at h0
      have := World.cell?_spot h0
      simpa [Addr.add] using this
    obtain ⟨cs', hcs, htr⟩ := hel i (by rw [hmm]; split <;> omega)
    rw [hC] at hcs
    obtain ⟨_, hlen, hcell⟩ := World.cells?_some hcs
    obtain ⟨xs, k, _, hxe, _, hxl, hf⟩ := DataW.trod_struct he htr
    have h0 := hcell 0 hpos
    rw [List.getElem?_eq_getElem (by omega)] at h0
    subst hspot
    have ha : ∀ j, ((⟨b, o, none⟩ : Addr).add (i * fs.size)).add j = ⟨b, o + i * fs.size + j, none⟩ := fun j => by rw [add_add, addr_add, Nat.add_assoc]
    refine ⟨b, o, k, rfl, ?_, fun j f hj => ?_⟩
    · rw [ha] at h0
      unfold World.cell? at h0
      split at h0
      · rename_i hh
        exact (Array.getElem?_eq_some_iff.1 hh).1
      · cases h0
    · have hlt : j < fs.size := (Array.getElem?_eq_some_iff.1 hj).1
      obtain ⟨ho, hc1⟩ := hone_of hone j f hj
      have g := hf j f hj
      rw [ho, hc1, take1_drop _ j undef (by omega)] at g
      have hc := hcell j hlt
      rw [ha, List.getElem?_eq_getElem (by omega)] at hc
      refine ⟨cs'.getD j undef, xs[j]'(by omega), ?_, by rw [g, List.getElem?_eq_getElem (by omega)], ?_⟩
      rotate_left
      · have hD : D i = .agg (xs.map (·.1)) := congrArg Prod.fst hxe
        have := bulk_mem (xs.map (·.1)) (xs[j]'(by omega)).1 (List.mem_map.2 ⟨_, List.getElem_mem _, rfl⟩)
        rw [hD] at hDi
        simp only [Rows.uptoBulk] at hDi
        omega
      rw [hc, List.getD_eq_getElem?_getD, List.getElem?_eq_getElem (by omega)]; rfl
end


section
variable {H : Type} {enc : TypeId × Value → H} {w : World} {base : Nat} {spare : Nat → Bool} {held : Bool}
/-- questions that come in -/
theorem qs_openB {fuel : Nat} {v : Value} {x : DataW H × List MemPlace} (h : DataW.trod enc Tryz.prog w base spare held fuel 22 [v] = some x) :
    ∃ (a : Option Addr) (cap : Nat) (Q : List Qn), v = .slice a Q.length cap ∧ (a = none → cap = 0) ∧ QsAt w a Q ∧ (∀ q ∈ Q, q.n.size ≤ maxLen) ∧ Q.length ≤ Rows.uptoBulk x.1 ∧ ∀ q ∈ Q, q.n.size ≤ Rows.uptoBulk x.1 := by
  obtain ⟨fs, hs, hone, hC, h3, hty⟩ := struct_of oneQ
  obtain ⟨a, len, cap, rfl, hn, hlb, hel⟩ := rows_openB Tryz.underlying22 hs hone hC (by omega) h
  haveI : Inhabited Qn := ⟨⟨.empty, 0, 0⟩⟩
  obtain ⟨F, hF⟩ := choose_lt (α := Qn) (n := len) (p := fun i q => ∃ b o, a = some ⟨b, o, none⟩ ∧ b < w.heap.size ∧ w.cell? ⟨b, o + i * 3, none⟩ = some (.string q.n) ∧ w.cell? ⟨b, o + i * 3 + 1, none⟩ = some (.int .i64 q.t) ∧ w.cell? ⟨b, o + i * 3 + 2, none⟩ = some (.int .i64 q.c) ∧ q.n.size ≤ maxLen ∧ q.n.size ≤ Rows.uptoBulk x.1) (fun i hi => by
    obtain ⟨b, o, n, ha, hb, hf⟩ := hel i hi
    rw [h3] at hf
    obtain ⟨f0, g0, t0⟩ := hty 0 (by omega)
    obtain ⟨f1, g1, t1⟩ := hty 1 (by omega)
    obtain ⟨f2, g2, t2⟩ := hty 2 (by omega)
    obtain ⟨V0, y0, c0, r0, k0⟩ := hf 0 f0 g0
    obtain ⟨V1, y1, c1, r1, k1⟩ := hf 1 f1 g1
    obtain ⟨V2, y2, c2, r2, k2⟩ := hf 2 f2 g2
    rw [← Option.some.inj t0] at r0
    rw [← Option.some.inj t1] at r1
    rw [← Option.some.inj t2] at r2
    obtain ⟨s0, e0, hy0, z0⟩ := DataW.trod_string Tryz.underlying9 r0
    have kk : s0.size ≤ Rows.uptoBulk x.1 := by
      rw [hy0] at k0
      simp only [Rows.uptoBulk, Array.length_toList] at k0
      have : s0.data.size = s0.size := rfl
      omega
    obtain ⟨n1, e1, _, _⟩ := DataW.trod_int Tryz.underlying3 r1
    obtain ⟨n2, e2, _, _⟩ := DataW.trod_int Tryz.underlying3 r2
    obtain rfl : V0 = .string s0 := by simpa using e0
    obtain rfl : V1 = .int .i64 n1 := by simpa using e1
    obtain rfl : V2 = .int .i64 n2 := by simpa using e2
    exact ⟨⟨s0, n1, n2⟩, b, o, ha, hb, c0, c1, c2, z0, kk⟩)
  refine ⟨a, cap, (List.range len).map F, by simp, hn, fun k hk => ?_, fun q hq => ?_, by simpa using hlb, fun q hq => ?_⟩
  · have hk' : k < len := by simpa using hk
    obtain ⟨b, o, ha, hb, c0, c1, c2, _, _⟩ := hF k hk'
    exact ⟨b, o, ha, hb, by simpa using c0, by simpa using c1, by simpa using c2⟩
  · obtain ⟨i, hi, rfl⟩ := List.mem_map.1 hq
    obtain ⟨_, _, _, _, _, _, _, z, _⟩ := hF i (List.mem_range.1 hi)
    exact z
  · obtain ⟨i, hi, rfl⟩ := List.mem_map.1 hq
    obtain ⟨_, _, _, _, _, _, _, _, z⟩ := hF i (List.mem_range.1 hi)
    exact z
/-- records that come in -/
theorem rs_openB {fuel : Nat} {v : Value} {x : DataW H × List MemPlace} (h : DataW.trod enc Tryz.prog w base spare held fuel 23 [v] = some x) :
    ∃ (a : Option Addr) (cap : Nat) (L : List Rn), v = .slice a L.length cap ∧ (a = none → cap = 0) ∧ RsAt w a L ∧ (∀ r ∈ L, r.o.size ≤ maxLen ∧ r.d.size ≤ 9223372036854775807) ∧ L.length ≤ Rows.uptoBulk x.1 ∧ ∀ r ∈ L, r.o.size ≤ Rows.uptoBulk x.1 := by
  obtain ⟨fs, hs, hone, hC, h3, hty⟩ := struct_of oneR
  obtain ⟨a, len, cap, rfl, hn, hlb, hel⟩ := rows_openB Tryz.underlying23 hs hone hC (by omega) h
  haveI : Inhabited Rn := ⟨⟨.empty, 0, 0, 0, .empty⟩⟩
  obtain ⟨F, hF⟩ := choose_lt (α := Rn) (n := len) (p := fun i q => ∃ b o, a = some ⟨b, o, none⟩ ∧ b < w.heap.size ∧ w.cell? ⟨b, o + i * 5, none⟩ = some (.string q.o) ∧ w.cell? ⟨b, o + i * 5 + 1, none⟩ = some (.int .i64 q.t) ∧ w.cell? ⟨b, o + i * 5 + 2, none⟩ = some (.int .i64 q.c) ∧ w.cell? ⟨b, o + i * 5 + 3, none⟩ = some (.int .i64 q.l) ∧ w.cell? ⟨b, o + i * 5 + 4, none⟩ = some (.string q.d) ∧ q.o.size ≤ maxLen ∧ q.d.size ≤ maxLen ∧ q.o.size ≤ Rows.uptoBulk x.1) (fun i hi => by
    obtain ⟨b, o, n, ha, hb, hf⟩ := hel i hi
    rw [h3] at hf
    obtain ⟨f0, g0, t0⟩ := hty 0 (by omega)
    obtain ⟨f1, g1, t1⟩ := hty 1 (by omega)
    obtain ⟨f2, g2, t2⟩ := hty 2 (by omega)
    obtain ⟨f3, g3, t3⟩ := hty 3 (by omega)
    obtain ⟨f4, g4, t4⟩ := hty 4 (by omega)
    obtain ⟨V0, y0, c0, r0, k0⟩ := hf 0 f0 g0
    obtain ⟨V1, y1, c1, r1, k1⟩ := hf 1 f1 g1
    obtain ⟨V2, y2, c2, r2, k2⟩ := hf 2 f2 g2
    obtain ⟨V3, y3, c3, r3, k3⟩ := hf 3 f3 g3
    obtain ⟨V4, y4, c4, r4, k4⟩ := hf 4 f4 g4
    rw [← Option.some.inj t0] at r0
    rw [← Option.some.inj t1] at r1
    rw [← Option.some.inj t2] at r2
    rw [← Option.some.inj t3] at r3
    rw [← Option.some.inj t4] at r4
    obtain ⟨s0, e0, hy0, z0⟩ := DataW.trod_string Tryz.underlying9 r0
    have kk : s0.size ≤ Rows.uptoBulk x.1 := by
      rw [hy0] at k0
      simp only [Rows.uptoBulk, Array.length_toList] at k0
      have : s0.data.size = s0.size := rfl
      omega
    obtain ⟨n1, e1, _, _⟩ := DataW.trod_int Tryz.underlying3 r1
    obtain ⟨n2, e2, _, _⟩ := DataW.trod_int Tryz.underlying3 r2
    obtain ⟨n3, e3, _, _⟩ := DataW.trod_int Tryz.underlying3 r3
    obtain ⟨s4, e4, _, z4⟩ := DataW.trod_string Tryz.underlying9 r4
    obtain rfl : V0 = .string s0 := by simpa using e0
    obtain rfl : V1 = .int .i64 n1 := by simpa using e1
    obtain rfl : V2 = .int .i64 n2 := by simpa using e2
    obtain rfl : V3 = .int .i64 n3 := by simpa using e3
    obtain rfl : V4 = .string s4 := by simpa using e4
    exact ⟨⟨s0, n1, n2, n3, s4⟩, b, o, ha, hb, c0, c1, c2, c3, c4, z0, z4, kk⟩)
  refine ⟨a, cap, (List.range len).map F, by simp, hn, fun k hk => ?_, fun q hq => ?_, by simpa using hlb, fun q hq => ?_⟩
  · have hk' : k < len := by simpa using hk
    obtain ⟨b, o, ha, hb, c0, c1, c2, c3, c4, _, _, _⟩ := hF k hk'
    exact ⟨b, o, ha, hb, by simpa using c0, by simpa using c1, by simpa using c2, by simpa using c3, by simpa using c4⟩
  · obtain ⟨i, hi, rfl⟩ := List.mem_map.1 hq
    obtain ⟨_, _, _, _, _, _, _, _, _, z0, z4, _⟩ := hF i (List.mem_range.1 hi)
    exact ⟨z0, by unfold maxLen at z4; omega⟩
  · obtain ⟨i, hi, rfl⟩ := List.mem_map.1 hq
    obtain ⟨_, _, _, _, _, _, _, _, _, _, _, z⟩ := hF i (List.mem_range.1 hi)
    exact z
end
section
variable {H : Type} {enc : TypeId × Value → H} {P : Program} {w : World} {base : Nat} {spare : Nat → Bool} {held : Bool}

/-- a struct of one-cell fields that comes in by value -/
theorem agg_openB {t : TypeId} {fs : Array Field} {r : Reach} {b0 : Nat} {v : Value} {d : DataW H} {p : List MemPlace} (hs : P.underlying t = some (.struct fs)) (hone : oneCellFields P fs = true) (hC : P.cellsOf t = fs.size)
    (hv : Value.okWide P w r b0 t v) (h : DataW.Trod enc P w base spare held t v d p) :
    ∃ (cs : Array Value) (n : Nat), v = .agg cs ∧ cs.size = fs.size ∧ ∀ (i : Nat) (f : Field), fs[i]? = some f → ∃ y, DataW.trod enc P w base spare held n f.type [cs.toList.getD i undef] = some y ∧ Rows.uptoBulk y.1 ≤ Rows.uptoBulk d := by
  obtain ⟨cs, rfl, hsz⟩ := okWide_struct hs hv
  obtain ⟨fuel, hf⟩ := h
  obtain ⟨xs, n, _, hxe, _, hlen, hf'⟩ := DataW.trod_struct hs hf
  refine ⟨cs, n, rfl, hsz.trans hC, fun i f hi => ?_⟩
  have hlt : i < fs.size := (Array.getElem?_eq_some_iff.1 hi).1
  obtain ⟨ho, hc1⟩ := hone_of hone i f hi
  have g := hf' i f hi
  rw [ho, hc1] at g
  simp only [Value.cells] at g
  rw [take1_drop _ i undef (by rw [Array.length_toList]; omega)] at g
  refine ⟨xs[i]'(by omega), by rw [g, List.getElem?_eq_getElem (by omega)], ?_⟩
  have hD : d = .agg (xs.map (·.1)) := congrArg Prod.fst hxe
  have := bulk_mem (xs.map (·.1)) (xs[i]'(by omega)).1 (List.mem_map.2 ⟨_, List.getElem_mem _, rfl⟩)
  rw [hD]
  simp only [Rows.uptoBulk]
  omega

end

set_option maxRecDepth 100000 in
/-- a message that comes in -/
theorem msg_openB {H : Type} {enc : TypeId × Value → H} {w : World} {base : Nat} {spare : Nat → Bool} {held : Bool} {r : Reach} {b0 : Nat} {v : Value} {d : DataW H} {p : List MemPlace}
    (hv : Value.okWide Tryz.prog w r b0 25 v) (h : DataW.Trod enc Tryz.prog w base spare held 25 v d p) :
    ∃ (i0 i2 i9 : Int) (b1 b3 b4 b5 b6 b7 b8 : Bool) (q0 a0 u0 d0 : Option Addr) (qc ac uc dc : Nat) (Q : List Qn) (A U D : List Rn), v = .agg #[.int .i64 i0, .bool b1, .int .i64 i2, .bool b3, .bool b4, .bool b5, .bool b6, .bool b7, .bool b8, .int .i64 i9, .slice q0 Q.length qc, .slice a0 A.length ac, .slice u0 U.length uc, .slice d0 D.length dc] ∧ LsAt w q0 a0 u0 d0 Q A U D ∧ (q0 = none → qc = 0) ∧ (a0 = none → ac = 0) ∧ (u0 = none → uc = 0) ∧ (d0 = none → dc = 0) ∧ (Q.length ≤ Rows.uptoBulk d ∧ A.length ≤ Rows.uptoBulk d ∧ U.length ≤ Rows.uptoBulk d ∧ D.length ≤ Rows.uptoBulk d) ∧ (∀ x ∈ Q, x.n.size ≤ Rows.uptoBulk d) ∧ (∀ r ∈ A, r.o.size ≤ Rows.uptoBulk d) ∧ (∀ r ∈ U, r.o.size ≤ Rows.uptoBulk d) ∧ (∀ r ∈ D, r.o.size ≤ Rows.uptoBulk d) := by
  obtain ⟨fs, hs, hone, hC, h14, hty⟩ := struct_of oneM
  obtain ⟨cs, n, rfl, hsz, hf⟩ := agg_openB hs hone hC hv h
  obtain ⟨f0, g0, t0⟩ := hty 0 (by omega)
  obtain ⟨y0, r0, k0⟩ := hf 0 f0 g0
  rw [← Option.some.inj t0] at r0
  obtain ⟨f1, g1, t1⟩ := hty 1 (by omega)
  obtain ⟨y1, r1, k1⟩ := hf 1 f1 g1
  rw [← Option.some.inj t1] at r1
  obtain ⟨f2, g2, t2⟩ := hty 2 (by omega)
  obtain ⟨y2, r2, k2⟩ := hf 2 f2 g2
  rw [← Option.some.inj t2] at r2
  obtain ⟨f3, g3, t3⟩ := hty 3 (by omega)
  obtain ⟨y3, r3, k3⟩ := hf 3 f3 g3
  rw [← Option.some.inj t3] at r3
  obtain ⟨f4, g4, t4⟩ := hty 4 (by omega)
  obtain ⟨y4, r4, k4⟩ := hf 4 f4 g4
  rw [← Option.some.inj t4] at r4
  obtain ⟨f5, g5, t5⟩ := hty 5 (by omega)
  obtain ⟨y5, r5, k5⟩ := hf 5 f5 g5
  rw [← Option.some.inj t5] at r5
  obtain ⟨f6, g6, t6⟩ := hty 6 (by omega)
  obtain ⟨y6, r6, k6⟩ := hf 6 f6 g6
  rw [← Option.some.inj t6] at r6
  obtain ⟨f7, g7, t7⟩ := hty 7 (by omega)
  obtain ⟨y7, r7, k7⟩ := hf 7 f7 g7
  rw [← Option.some.inj t7] at r7
  obtain ⟨f8, g8, t8⟩ := hty 8 (by omega)
  obtain ⟨y8, r8, k8⟩ := hf 8 f8 g8
  rw [← Option.some.inj t8] at r8
  obtain ⟨f9, g9, t9⟩ := hty 9 (by omega)
  obtain ⟨y9, r9, k9⟩ := hf 9 f9 g9
  rw [← Option.some.inj t9] at r9
  obtain ⟨f10, g10, t10⟩ := hty 10 (by omega)
  obtain ⟨y10, r10, k10⟩ := hf 10 f10 g10
  rw [← Option.some.inj t10] at r10
  obtain ⟨f11, g11, t11⟩ := hty 11 (by omega)
  obtain ⟨y11, r11, k11⟩ := hf 11 f11 g11
  rw [← Option.some.inj t11] at r11
  obtain ⟨f12, g12, t12⟩ := hty 12 (by omega)
  obtain ⟨y12, r12, k12⟩ := hf 12 f12 g12
  rw [← Option.some.inj t12] at r12
  obtain ⟨f13, g13, t13⟩ := hty 13 (by omega)
  obtain ⟨y13, r13, k13⟩ := hf 13 f13 g13
  rw [← Option.some.inj t13] at r13
  obtain ⟨i0, e0, _, _⟩ := DataW.trod_int Tryz.underlying3 r0
  obtain ⟨b1, e1, _⟩ := DataW.trod_bool Tryz.underlying4 r1
  obtain ⟨i2, e2, _, _⟩ := DataW.trod_int Tryz.underlying3 r2
  obtain ⟨b3, e3, _⟩ := DataW.trod_bool Tryz.underlying4 r3
  obtain ⟨b4, e4, _⟩ := DataW.trod_bool Tryz.underlying4 r4
  obtain ⟨b5, e5, _⟩ := DataW.trod_bool Tryz.underlying4 r5
  obtain ⟨b6, e6, _⟩ := DataW.trod_bool Tryz.underlying4 r6
  obtain ⟨b7, e7, _⟩ := DataW.trod_bool Tryz.underlying4 r7
  obtain ⟨b8, e8, _⟩ := DataW.trod_bool Tryz.underlying4 r8
  obtain ⟨i9, e9, _, _⟩ := DataW.trod_int Tryz.underlying3 r9
  obtain ⟨q0, qc, Q, e10, n10, hQ, zQ, lQ, sQ⟩ := qs_openB r10
  obtain ⟨a0, ac, A, e11, n11, hA, zA, lA, sA⟩ := rs_openB r11
  obtain ⟨u0, uc, U, e12, n12, hU, zU, lU, sU⟩ := rs_openB r12
  obtain ⟨d0, dc, D, e13, n13, hD, zD, lD, sD⟩ := rs_openB r13
  refine ⟨i0, i2, i9, b1, b3, b4, b5, b6, b7, b8, q0, a0, u0, d0, qc, ac, uc, dc, Q, A, U, D, ?_, ⟨hQ, hA, hU, hD, zQ, zA, zU, zD⟩, n10, n11, n12, n13, ⟨by omega, by omega, by omega, by omega⟩, fun x h => Nat.le_trans (sQ x h) k10, fun x h => Nat.le_trans (sA x h) k11, fun x h => Nat.le_trans (sU x h) k12, fun x h => Nat.le_trans (sD x h) k13⟩
  rw [Fra.array14 (hsz.trans h14)]
  simp only [List.cons.injEq, and_true] at e0 e1 e2 e3 e4 e5 e6 e7 e8 e9
  rw [e0, e1, e2, e3, e4, e5, e6, e7, e8, e9, e10, e11, e12, e13]

end Go.Proofs.YtjnmbgmdkkiidaaGreat.Frb
