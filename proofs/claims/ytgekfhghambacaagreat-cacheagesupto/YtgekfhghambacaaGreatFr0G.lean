import Derived.Test.YtgekfhghambacaaGreatMathG
import Derived.Test.YtgekfhghambacaaGreatChecked
import Derived.Deep.Fields
import Derived.ChangeSlices
import Derived.Test.YtgekfhghambacaaGreatRn0G
import Derived.Test.YtgekfhghambacaaGreatWkG
import Derived.Test.YtgekfhghambacaaGreatRows
import Derived.Test.YtgekfhghambacaaGreatCcs
import Derived.ProofKit
import Derived.OpenShut
import Derived.JoinedCond
import Derived.ShutString
import Derived.ChangeOld
import Derived.Carry
namespace Go.Proofs.YtgekfhghambacaaGreat
set_option linter.unusedVariables false
open Go.ChangeShapes Go.WideShapes Go.Deep

section
variable {H : Type} {enc : TypeId × Value → H} {P : Program} {w : World} {base : Nat} {spare : Nat → Bool} {held : Bool}

end
theorem struct_of {t : TypeId} {k : Nat} {ts : List TypeId} (h : (Tryz.prog.underlying t).bind (fun u => match u with | .struct fs => some (oneCellFields Tryz.prog fs && decide (Tryz.prog.cellsOf t = fs.size) && decide (fs.size = k) && (fs.toList.map (·.type) == ts)) | _ => none) = some true) :
    ∃ fs : Array Field, Tryz.prog.underlying t = some (.struct fs) ∧ oneCellFields Tryz.prog fs = true ∧ Tryz.prog.cellsOf t = fs.size ∧ fs.size = k ∧ ∀ j, j < k → ∃ f, fs[j]? = some f ∧ ts[j]? = some f.type := by
  obtain ⟨u, hu, h⟩ := Option.bind_eq_some_iff.1 h
  split at h
  · rename_i fs
    simp only [Option.some.injEq, Bool.and_eq_true, decide_eq_true_eq, beq_iff_eq] at h
    refine ⟨fs, hu, h.1.1.1, h.1.1.2, h.1.2, fun j hj => ?_⟩
    have hj' : j < fs.size := by omega
    refine ⟨fs[j], by simp [hj'], ?_⟩
    rw [← h.2]
    simp [hj']
  · cases h

end Go.Proofs.YtgekfhghambacaaGreat

/-
  Records and questions that come in, and how much they hold. (The verifier's own text.)
-/
namespace Go.Proofs.YtgekfhghambacaaGreat.Frj
set_option linter.unusedVariables false
set_option linter.unusedSimpArgs false
open Go.RowKit Go.Shelf Go.Maps Go.Proofs.YtgekfhghambacaaGreat.Nm
open Go.ChangeShapes Go.WideShapes Go.Deep

theorem bulk_pos {H : Type} (d : DataW H) : 1 ≤ Rows.uptoBulk d := by
  cases d with
  | lit l => cases l <;> simp [Rows.uptoBulk]
  | _ => simp [Rows.uptoBulk]
theorem bulk_len {H : Type} : ∀ l : List (DataW H), l.length ≤ Rows.uptoBulkAll l
  | [] => by simp [Rows.uptoBulkAll]
  | d :: l => by
    have := bulk_len l
    have := bulk_pos d
    simp only [Rows.uptoBulkAll, List.length_cons]
    omega
theorem bulk_sum {H : Type} : ∀ l : List (DataW H), Rows.uptoBulkAll l = (l.map Rows.uptoBulk).sum
  | [] => rfl
  | d :: l => by
    have h := bulk_sum l
    simp only [Rows.uptoBulkAll, List.map_cons, List.sum_cons]
    omega
theorem oneR : (Tryz.prog.underlying 36).bind (fun t => match t with | .struct fs => some (oneCellFields Tryz.prog fs && decide (Tryz.prog.cellsOf 36 = fs.size) && decide (fs.size = 5) && (fs.toList.map (·.type) == [9, 3, 3, 3, 9])) | _ => none) = some true := by kernel_rfl
section
variable {H : Type} {enc : TypeId × Value → H} {P : Program} {w : World} {base : Nat} {spare : Nat → Bool} {held : Bool}

/-- a slice of such structs -/
theorem rows_openS {t e : TypeId} {fs : Array Field} {fuel : Nat} {v : Value} {x : DataW H × List MemPlace} (ht : P.underlying t = some (.slice e)) (he : P.underlying e = some (.struct fs)) (hone : oneCellFields P fs = true) (hC : P.cellsOf e = fs.size) (hpos : 0 < fs.size)
    (h : DataW.trod enc P w base spare held fuel t [v] = some x) :
    ∃ (a : Option Addr) (len cap : Nat) (D : Nat → DataW H), v = .slice a len cap ∧ (a = none → cap = 0) ∧ len ≤ Rows.uptoBulk x.1 ∧ (0 < len → Rows.uptoBulkAll ((List.range len).map D) + 1 ≤ Rows.uptoBulk x.1) ∧ ∀ i, i < len → ∃ b o n, ∃ xs : List (DataW H × List MemPlace), a = some ⟨b, o, none⟩ ∧ b < w.heap.size ∧ D i = .agg (xs.map (·.1)) ∧ xs.length = fs.size ∧ ∀ (j : Nat) (f : Field), fs[j]? = some f → ∃ V y, w.cell? ⟨b, o + i * fs.size + j, none⟩ = some V ∧ DataW.trod enc P w base spare held n f.type [V] = some y ∧ xs[j]? = some y := by
  rcases open_slice ht h with ⟨hv, _⟩ | ⟨a, len, cap, m, n, D, Pl, hv, hb, hl, hm, hmm, hx, hel⟩
  · obtain rfl : v = .slice none 0 0 := by simpa using hv
    exact ⟨none, 0, 0, fun _ => .nil, rfl, fun _ => rfl, Nat.zero_le _, fun h => absurd h (Nat.lt_irrefl _), fun i hi => absurd hi (Nat.not_lt_zero _)⟩
  · obtain rfl : v = .slice (some a) len cap := by simpa using hv
    have hlb : len ≤ Rows.uptoBulk x.1 := by
      rw [hx]
      have := bulk_len ((List.range len).map D)
      simp only [List.length_map, List.length_range] at this
      simp only [Rows.uptoBulk]
      omega
    have hsum : Rows.uptoBulkAll ((List.range len).map D) + 1 ≤ Rows.uptoBulk x.1 := by
      rw [hx]
      simp only [Rows.uptoBulk]
      omega
    refine ⟨some a, len, cap, D, rfl, (fun e => by cases e), hlb, fun _ => hsum, fun i hi => ?_⟩
    obtain ⟨b, o, spot⟩ := a
    have hspot : spot = none := by
      obtain ⟨cs0, hcs0, _⟩ := hel 0 (by rw [hmm]; split <;> omega)
      rw [hC] at hcs0
      obtain ⟨_, hlen0, hcell0⟩ := World.cells?_some hcs0
      have h0 := hcell0 0 hpos
      rw [List.getElem?_eq_getElem (by omega)] at h0
      have := World.cell?_spot h0
      simpa [Addr.add] using this
    obtain ⟨cs', hcs, htr⟩ := hel i (by rw [hmm]; split <;> omega)
    rw [hC] at hcs
    obtain ⟨_, hlen, hcell⟩ := World.cells?_some hcs
    obtain ⟨xs, k, _, hxe, _, hxl, hf⟩ := DataW.trod_struct he htr
    have h0 := hcell 0 hpos
    rw [List.getElem?_eq_getElem (by omega)] at h0
    subst hspot
    have ha : ∀ j, ((⟨b, o, none⟩ : Addr).add (i * fs.size)).add j = ⟨b, o + i * fs.size + j, none⟩ := fun j => by rw [add_add, addr_add, Nat.add_assoc]
    refine ⟨b, o, k, xs, rfl, ?_, congrArg Prod.fst hxe, hxl, fun j f hj => ?_⟩
    · rw [ha] at h0
      unfold World.cell? at h0
      split at h0
      · rename_i hh
        exact (Array.getElem?_eq_some_iff.1 hh).1
      · cases h0
    · have hlt : j < fs.size := (Array.getElem?_eq_some_iff.1 hj).1
      obtain ⟨ho, hc1⟩ := hone_of hone j f hj
      have g := hf j f hj
      rw [ho, hc1, take1_drop _ j undef (by omega)] at g
      have hc := hcell j hlt
      rw [ha, List.getElem?_eq_getElem (by omega)] at hc
      refine ⟨cs'.getD j undef, xs[j]'(by omega), ?_, by rw [g, List.getElem?_eq_getElem (by omega)], List.getElem?_eq_getElem (by omega)⟩
      rw [hc, List.getD_eq_getElem?_getD, List.getElem?_eq_getElem (by omega)]; rfl
end
theorem bulk_mem {H : Type} : ∀ (l : List (DataW H)) (d : DataW H), d ∈ l → Rows.uptoBulk d ≤ Rows.uptoBulkAll l
  | [], d, h => by cases h
  | e :: l, d, h => by
    simp only [Rows.uptoBulkAll]
    rcases List.mem_cons.1 h with rfl | h
    · omega
    · have := bulk_mem l d h
      omega

section
variable {H : Type} {enc : TypeId × Value → H} {w : World} {base : Nat} {spare : Nat → Bool} {held : Bool}
theorem rs_openJ {fuel : Nat} {v : Value} {x : DataW H × List MemPlace} (h : DataW.trod enc Tryz.prog w base spare held fuel 29 [v] = some x) :
    ∃ (a : Option Addr) (cap : Nat) (L : List Rn), v = .slice a L.length cap ∧ (a = none → cap = 0) ∧ RsAt w a L ∧ (∀ q ∈ L, q.o.size ≤ maxLen ∧ q.d.size ≤ maxLen) ∧ L.length ≤ Rows.uptoBulk x.1 ∧ ∀ q ∈ L, q.o.size + q.d.size ≤ Rows.uptoBulk x.1 := by
  obtain ⟨fs, hs, hone, hC, h3, hty⟩ := struct_of oneR
  obtain ⟨a, len, cap, D, rfl, hn, hlb, hsum, hel⟩ := rows_openS Tryz.underlying29 hs hone hC (by omega) h
  haveI : Inhabited Rn := ⟨⟨.empty, 0, 0, 0, .empty⟩⟩
  obtain ⟨F, hF⟩ := choose_lt (α := Rn) (n := len) (p := fun i q => ∃ b o, a = some ⟨b, o, none⟩ ∧ b < w.heap.size ∧ w.cell? ⟨b, o + i * 5, none⟩ = some (.string q.o) ∧ w.cell? ⟨b, o + i * 5 + 1, none⟩ = some (.int .i64 q.t) ∧ w.cell? ⟨b, o + i * 5 + 2, none⟩ = some (.int .i64 q.c) ∧ w.cell? ⟨b, o + i * 5 + 3, none⟩ = some (.int .i64 q.l) ∧ w.cell? ⟨b, o + i * 5 + 4, none⟩ = some (.string q.d) ∧ q.o.size ≤ maxLen ∧ q.d.size ≤ maxLen ∧ q.o.size + q.d.size + 6 ≤ Rows.uptoBulk (D i)) (fun i hi => by
    obtain ⟨b, o, n, xs, ha, hb, hDi, hxs, hf⟩ := hel i hi
    rw [h3] at hf hxs
    obtain ⟨f0, g0, t0⟩ := hty 0 (by omega)
    obtain ⟨f1, g1, t1⟩ := hty 1 (by omega)
    obtain ⟨f2, g2, t2⟩ := hty 2 (by omega)
    obtain ⟨f3, g3, t3⟩ := hty 3 (by omega)
    obtain ⟨f4, g4, t4⟩ := hty 4 (by omega)
    obtain ⟨V0, y0, c0, r0, k0⟩ := hf 0 f0 g0
    rw [← Option.some.inj t0] at r0
    obtain ⟨V1, y1, c1, r1, k1⟩ := hf 1 f1 g1
    rw [← Option.some.inj t1] at r1
    obtain ⟨V2, y2, c2, r2, k2⟩ := hf 2 f2 g2
    rw [← Option.some.inj t2] at r2
    obtain ⟨V3, y3, c3, r3, k3⟩ := hf 3 f3 g3
    rw [← Option.some.inj t3] at r3
    obtain ⟨V4, y4, c4, r4, k4⟩ := hf 4 f4 g4
    rw [← Option.some.inj t4] at r4
    obtain ⟨s0, e0, hy0, z0⟩ := DataW.trod_string Tryz.underlying9 r0
    obtain rfl : V0 = .string s0 := by simpa using e0
    obtain ⟨n1, e1, hy1, _⟩ := DataW.trod_int Tryz.underlying3 r1
    obtain rfl : V1 = .int .i64 n1 := by simpa using e1
    obtain ⟨n2, e2, hy2, _⟩ := DataW.trod_int Tryz.underlying3 r2
    obtain rfl : V2 = .int .i64 n2 := by simpa using e2
    obtain ⟨n3, e3, hy3, _⟩ := DataW.trod_int Tryz.underlying3 r3
    obtain rfl : V3 = .int .i64 n3 := by simpa using e3
    obtain ⟨s4, e4, hy4, z4⟩ := DataW.trod_string Tryz.underlying9 r4
    obtain rfl : V4 = .string s4 := by simpa using e4
    have kk : s0.size + s4.size + 6 ≤ Rows.uptoBulk (D i) := by
      obtain ⟨l0, l1, l2, l3, l4, rfl⟩ : ∃ l0 l1 l2 l3 l4, xs = [l0, l1, l2, l3, l4] := by
        match xs, hxs with
        | [l0, l1, l2, l3, l4], _ => exact ⟨l0, l1, l2, l3, l4, rfl⟩
      simp only [List.getElem?_cons_zero, List.getElem?_cons_succ, Option.some.injEq] at k0 k1 k2 k3 k4
      subst k0
      subst k1
      subst k2
      subst k3
      subst k4
      rw [hDi, hy0, hy1, hy2, hy3, hy4]
      simp only [List.map_cons, List.map_nil, Rows.uptoBulk, Rows.uptoBulkAll, Array.length_toList]
      have q0 : s0.data.size = s0.size := rfl
      have q4 : s4.data.size = s4.size := rfl
      omega
    exact ⟨⟨s0, n1, n2, n3, s4⟩, b, o, ha, hb, c0, c1, c2, c3, c4, z0, z4, kk⟩)
  refine ⟨a, cap, (List.range len).map F, by simp, hn, fun k hk => ?_, fun q hq => ?_, by simpa using hlb, fun q hq => ?_⟩
  · have hk' : k < len := by simpa using hk
    obtain ⟨b, o, ha, hb, c0, c1, c2, c3, c4, _⟩ := hF k hk'
    exact ⟨b, o, ha, hb, by simpa using c0, by simpa using c1, by simpa using c2, by simpa using c3, by simpa using c4⟩
  · obtain ⟨i, hi, rfl⟩ := List.mem_map.1 hq
    obtain ⟨_, _, _, _, _, _, _, _, _, z0, z4, _⟩ := hF i (List.mem_range.1 hi)
    exact ⟨z0, z4⟩
  · obtain ⟨i, hi, rfl⟩ := List.mem_map.1 hq
    have hi2 := List.mem_range.1 hi
    obtain ⟨_, _, _, _, _, _, _, _, _, _, _, z⟩ := hF i hi2
    have h1 := hsum (by omega)
    have h2 := bulk_mem ((List.range len).map D) (D i) (List.mem_map.2 ⟨i, List.mem_range.2 hi2, rfl⟩)
    omega
end
end Go.Proofs.YtgekfhghambacaaGreat.Frj

/-
  Turns that come in, and how much they hold. (The verifier's own text.)
-/
namespace Go.Proofs.YtgekfhghambacaaGreat.Frj
set_option linter.unusedVariables false
set_option linter.unusedSimpArgs false
open Go.RowKit Go.Shelf Go.Maps Go.Proofs.YtgekfhghambacaaGreat.Nm
open Go.ChangeShapes Go.WideShapes Go.Deep

theorem oneTu : (Tryz.prog.underlying 31).bind (fun t => match t with | .struct fs => some (oneCellFields Tryz.prog fs && decide (Tryz.prog.cellsOf 31 = fs.size) && decide (fs.size = 6) && (fs.toList.map (·.type) == [3, 29, 9, 3, 3, 3])) | _ => none) = some true := by kernel_rfl
theorem sum_leT {f g : Nat → Nat} : ∀ l : List Nat, (∀ i ∈ l, f i ≤ g i) → (l.map f).sum ≤ (l.map g).sum
  | [], _ => Nat.le_refl _
  | a :: l, h => by
    have h1 := sum_leT l (fun i hi => h i (List.mem_cons_of_mem _ hi))
    have h2 := h a List.mem_cons_self
    simp only [List.map_cons, List.sum_cons]
    omega
section
variable {H : Type} {enc : TypeId × Value → H} {w : World} {base : Nat} {spare : Nat → Bool} {held : Bool}
theorem tu_openJ {fuel : Nat} {v : Value} {x : DataW H × List MemPlace} (h : DataW.trod enc Tryz.prog w base spare held fuel 22 [v] = some x) :
    ∃ (a : Option Addr) (cap : Nat) (TS : List Tu), v = .slice a TS.length cap ∧ TuAt w a TS ∧ TS.length ≤ Rows.uptoBulk x.1 ∧ costT TS ≤ Rows.uptoBulk x.1 ∧ ∀ t ∈ TS, t.n.size ≤ Rows.uptoBulk x.1 ∧ t.L.length ≤ Rows.uptoBulk x.1 ∧ (t.p = none → t.c = 0) ∧ ∀ r ∈ t.L, r.o.size ≤ Rows.uptoBulk x.1 ∧ r.d.size ≤ Rows.uptoBulk x.1 := by
  obtain ⟨fs, hs, hone, hC, h3, hty⟩ := struct_of oneTu
  obtain ⟨a, len, cap, D, rfl, hn, hlb, hsum, hel⟩ := rows_openS Tryz.underlying22 hs hone hC (by omega) h
  haveI : Inhabited Tu := ⟨⟨0, none, 0, [], .empty, 0, 0, 0⟩⟩
  obtain ⟨F, hF⟩ := choose_lt (α := Tu) (n := len) (p := fun i q => (∃ b o, a = some ⟨b, o, none⟩ ∧ b < w.heap.size ∧ w.cell? ⟨b, o + i * 6, none⟩ = some (.int .i64 q.k) ∧ w.cell? ⟨b, o + i * 6 + 1, none⟩ = some (.slice q.p q.L.length q.c) ∧ w.cell? ⟨b, o + i * 6 + 2, none⟩ = some (.string q.n) ∧ w.cell? ⟨b, o + i * 6 + 3, none⟩ = some (.int .i64 q.t) ∧ w.cell? ⟨b, o + i * 6 + 4, none⟩ = some (.int .i64 q.r) ∧ w.cell? ⟨b, o + i * 6 + 5, none⟩ = some (.int .i64 q.now) ∧ RsAt w q.p q.L) ∧ (q.p = none → q.c = 0) ∧ q.n.size + q.L.length + 1 ≤ Rows.uptoBulk (D i) ∧ ∀ r ∈ q.L, r.o.size + r.d.size ≤ Rows.uptoBulk (D i)) (fun i hi => by
    obtain ⟨b, o, n, xs, ha, hb, hDi, hxs, hf⟩ := hel i hi
    rw [h3] at hf hxs
    obtain ⟨f0, g0, t0⟩ := hty 0 (by omega)
    obtain ⟨f1, g1, t1⟩ := hty 1 (by omega)
    obtain ⟨f2, g2, t2⟩ := hty 2 (by omega)
    obtain ⟨f3, g3, t3⟩ := hty 3 (by omega)
    obtain ⟨f4, g4, t4⟩ := hty 4 (by omega)
    obtain ⟨f5, g5, t5⟩ := hty 5 (by omega)
    obtain ⟨V0, y0, c0, r0, k0⟩ := hf 0 f0 g0
    rw [← Option.some.inj t0] at r0
    obtain ⟨V1, y1, c1, r1, k1⟩ := hf 1 f1 g1
    rw [← Option.some.inj t1] at r1
    obtain ⟨V2, y2, c2, r2, k2⟩ := hf 2 f2 g2
    rw [← Option.some.inj t2] at r2
    obtain ⟨V3, y3, c3, r3, k3⟩ := hf 3 f3 g3
    rw [← Option.some.inj t3] at r3
    obtain ⟨V4, y4, c4, r4, k4⟩ := hf 4 f4 g4
    rw [← Option.some.inj t4] at r4
    obtain ⟨V5, y5, c5, r5, k5⟩ := hf 5 f5 g5
    rw [← Option.some.inj t5] at r5
    obtain ⟨s0, e0, hy0, _⟩ := DataW.trod_int Tryz.underlying3 r0
    obtain rfl : V0 = .int .i64 s0 := by simpa using e0
    obtain ⟨pl, cl, Ll, rfl, hnl, hat, _, hlb1, hoz⟩ := rs_openJ r1
    obtain ⟨s2, e2, hy2, z2⟩ := DataW.trod_string Tryz.underlying9 r2
    obtain rfl : V2 = .string s2 := by simpa using e2
    obtain ⟨s3, e3, hy3, _⟩ := DataW.trod_int Tryz.underlying3 r3
    obtain rfl : V3 = .int .i64 s3 := by simpa using e3
    obtain ⟨s4, e4, hy4, _⟩ := DataW.trod_int Tryz.underlying3 r4
    obtain rfl : V4 = .int .i64 s4 := by simpa using e4
    obtain ⟨s5, e5, hy5, _⟩ := DataW.trod_int Tryz.underlying3 r5
    obtain rfl : V5 = .int .i64 s5 := by simpa using e5
    have kk : s2.size + Rows.uptoBulk y1.1 + 1 ≤ Rows.uptoBulk (D i) := by
      obtain ⟨l0, l1, l2, l3, l4, l5, rfl⟩ : ∃ l0 l1 l2 l3 l4 l5, xs = [l0, l1, l2, l3, l4, l5] := by
        match xs, hxs with
        | [l0, l1, l2, l3, l4, l5], _ => exact ⟨l0, l1, l2, l3, l4, l5, rfl⟩
      simp only [List.getElem?_cons_zero, List.getElem?_cons_succ, Option.some.injEq] at k0 k1 k2 k3 k4 k5
      subst k0
      subst k1
      subst k2
      subst k3
      subst k4
      subst k5
      rw [hDi]
      simp only [List.map_cons, List.map_nil]
      rw [hy0, hy2, hy3, hy4, hy5]
      simp only [Rows.uptoBulk, Rows.uptoBulkAll, Array.length_toList]
      have q2 : s2.data.size = s2.size := rfl
      omega
    exact ⟨⟨s0, pl, cl, Ll, s2, s3, s4, s5⟩, ⟨b, o, ha, hb, c0, c1, c2, c3, c4, c5, hat⟩, hnl, by show s2.size + Ll.length + 1 ≤ _; omega, fun r hr => by have := hoz r hr; omega⟩)
  have hall : ∀ i, i < len → Rows.uptoBulk (D i) ≤ Rows.uptoBulk x.1 := fun i hi => by
    have h1 := hsum (by omega)
    have h2 := bulk_mem ((List.range len).map D) (D i) (List.mem_map.2 ⟨i, List.mem_range.2 hi, rfl⟩)
    omega
  refine ⟨a, cap, (List.range len).map F, by simp, fun k hk => ?_, by simpa using hlb, ?_, fun q hq => ?_⟩
  · have hk' : k < len := by simpa using hk
    obtain ⟨⟨b, o, ha, hb, c0, c1, c2, c3, c4, c5, c6⟩, _⟩ := hF k hk'
    have e : ((List.range len).map F)[k] = F k := by simp
    rw [e]
    exact ⟨b, o, ha, hb, c0, c1, c2, c3, c4, c5, c6⟩
  · rcases Nat.eq_zero_or_pos len with rfl | hp
    · exact Nat.zero_le _
    · have h1 := hsum hp
      rw [bulk_sum, List.map_map] at h1
      have h2 := sum_leT (f := fun i => (F i).L.length + 1) (g := fun i => Rows.uptoBulk (D i)) (List.range len) (fun i hi => by
        obtain ⟨_, _, z, _⟩ := hF i (List.mem_range.1 hi)
        show (F i).L.length + 1 ≤ Rows.uptoBulk (D i)
        omega)
      have e : costT ((List.range len).map F) = ((List.range len).map (fun i => (F i).L.length + 1)).sum := by
        unfold costT
        rw [List.map_map]
        rfl
      rw [e]
      have e2 : ((List.range len).map (Rows.uptoBulk ∘ D)).sum = ((List.range len).map (fun i => Rows.uptoBulk (D i))).sum := rfl
      omega
  · obtain ⟨i, hi, rfl⟩ := List.mem_map.1 hq
    have hi2 := List.mem_range.1 hi
    obtain ⟨_, z0, z1, z2⟩ := hF i hi2
    have h1 := hall i hi2
    exact ⟨by omega, by omega, z0, fun r hr => by have := z2 r hr; exact ⟨by omega, by omega⟩⟩
end
end Go.Proofs.YtgekfhghambacaaGreat.Frj

namespace Go.Proofs.YtgekfhghambacaaGreat.cacheAgesP
set_option linter.unusedVariables false
open Go.ChangeShapes Go.WideShapes Go.ChangeAt Go.RowKit Go.Deep
open Go.ChangeMaps (open_string shut_string)

theorem own : ownKnob Tryz.prog.godebug = none := by kernel_rfl
theorem laidOut : laidOutB Tryz.prog = true := by kernel_rfl
set_option maxRecDepth 100000 in
theorem contract (H : Type) (enc : TypeId × Value → H) (W : World) (base : Nat) (args : Array Value) (ds gs : List (DataW H)) (before : List MemPlace)
    (hval : ∀ (j : Nat) t v, Tryz.f3.params[j]? = some t → args[j]? = some v → Value.okWide Tryz.prog W .any base t v)
    (hW : DataW.Whole enc Tryz.prog Tryz.f3.params.toList Rows.cacheAgesSpec.vars false W args.toList ds gs before) (hk : Rows.uptoSmall H (ds ++ gs) = true) :
    Calls Tryz.prog 3 args W fun e W' => ∃ v, e = .returned v ∧ Rows.cacheAgesSpec.post enc Tryz.prog Tryz.f3 false true false false W args v W' := by
  have hW' := hW
  obtain ⟨p, q, hA0, hV, rfl, _, _⟩ := hW
  have hA : DataW.TrodAll enc Tryz.prog W 0 (fun _ => true) true Tryz.f3.params.toList args.toList ds p := hA0
  rw [Tryz.params3] at hA hval
  obtain ⟨v0, vs0, d0, ds0, p0, q0, hargs, rfl, rfl, h0, r0⟩ := trodAll_cons hA
  obtain ⟨v1, vs1, d1, ds1, p1, q1, rfl, rfl, rfl, h1, r1⟩ := trodAll_cons r0
  obtain ⟨rfl, rfl, rfl⟩ := trodAll_nil r1
  obtain rfl : args = #[v0, v1] := by cases args; simp_all
  obtain ⟨rfl, rfl⟩ := trodVars_none hV
  obtain ⟨s0, rfl, rfl, rfl, m0⟩ := open_int Tryz.underlying3 (hval 0 3 v0 rfl rfl) h0
  have k1 := h1
  have lt1 : ∀ x ∈ p1, x.block < W.heap.size := by obtain ⟨m, hm⟩ := k1; exact DataW.trod_lt m _ _ _ hm
  obtain ⟨pa, ca, TS, rfl, hat, hlb, hct, hz⟩ : ∃ (a : Option Addr) (cap : Nat) (TS : List Tu), v1 = .slice a TS.length cap ∧ TuAt W a TS ∧ TS.length ≤ Rows.uptoBulk d1 ∧ costT TS ≤ Rows.uptoBulk d1 ∧ ∀ t ∈ TS, t.n.size ≤ Rows.uptoBulk d1 ∧ t.L.length ≤ Rows.uptoBulk d1 ∧ (t.p = none → t.c = 0) ∧ ∀ r ∈ t.L, r.o.size ≤ Rows.uptoBulk d1 ∧ r.d.size ≤ Rows.uptoBulk d1 := by
    obtain ⟨fuel, hf⟩ := h1
    obtain ⟨z5, len5, cap5, hv5⟩ := okWide_slice Tryz.underlying22 (hval 1 22 v1 rfl rfl)
    have hc : v1.cells.toList = [v1] := by rw [hv5]; rfl
    rw [hc] at hf
    exact Frj.tu_openJ hf
  clear hA0
  have hb : Rows.uptoBulkAll [DataW.lit (H := H) (.int .i64 s0), d1] ≤ 1048576 := by
    have : Rows.uptoBulkAll ([DataW.lit (H := H) (.int .i64 s0), d1] ++ []) ≤ 1048576 := of_decide_eq_true hk
    rwa [List.append_nil] at this
  simp only [Rows.uptoBulkAll] at hb
  have hb1 : Rows.uptoBulk d1 ≤ 1048576 := by omega
  refine (cacheAges_any W s0 pa ca TS hat (by omega) (by omega) (fun t ht => by
    obtain ⟨z1, z2, z3, z4⟩ := hz t ht
    exact ⟨by omega, by omega, z3, fun r hr => by have := z4 r hr; exact ⟨by omega, by omega⟩⟩)).mono fun e W' ⟨he, bel⟩ => ?_
  subst he
  exact ⟨_, rfl, _, _, _, [], _, [], hW', trodAll_mk1 (shut_bool Tryz.underlying4 _), (trodAll_cons_mk (shut_int Tryz.underlying3 m0) (trodAll_cons_mk (Below.trod laidOut (by kernel_rfl) (of_decide_eq_true (by kernel_rfl)) k1 bel lt1) trodAll_mk0)), rfl, bel.frame _, fun h => by cases h⟩

set_option maxRecDepth 100000 in
theorem lifted (os : Os) (started : os.Started) (H : Type) (enc : TypeId × Value → H) (F : Stop.Interp) :
    ReturnsInHanded {} Tryz.checked os 3 .any ((Rows.OpenSpec.upto Rows.cacheAgesSpec).pre6 enc Tryz.prog Tryz.f3 Rows.cacheAgesUptoRow.domain false) (((Rows.OpenSpec.upto Rows.cacheAgesSpec).at F).post enc Tryz.prog Tryz.f3 false true false false) := by
  refine returnsInHanded_of_cond (C := Tryz.checked) (s := Rows.OpenSpec.upto Rows.cacheAgesSpec) (k := Rows.uptoSmall) rfl own started (by kernel_rfl) Tryz.func3
    (OpenSpec.witness (enc := enc) (C := Tryz.checked) (s := Rows.OpenSpec.upto Rows.cacheAgesSpec) (k := Rows.uptoSmall) rfl false ⟨#[], #[.int .i64 0, .slice none 0 0], []⟩ 8 (by kernel_rfl) (by kernel_rfl) (by kernel_rfl)
      (x := ([.lit (.int .i64 0), .nil], [], [])) (by kernel_rfl) rfl (by kernel_rfl)) ?_
  intro W base args ds gs before hval hW _ hk _
  exact contract H enc W base args ds gs before hval hW hk

theorem proved : Rows.CacheAgesUptoSaid :=
  OpenClaim.holds_of_cond 3 Tryz.f3 rfl rfl rfl rfl rfl rfl rfl ⟨rfl, rfl, rfl, rfl, rfl⟩ rfl rfl rfl rfl rfl (by kernel_rfl) Tryz.func3 (by kernel_rfl)
    (of_decide_eq_true (by kernel_rfl)) (by unfold Func.isWrapper; first | (rw [if_pos (by decide +kernel)]; kernel_rfl) | (rw [if_neg (by decide +kernel)]; exact ⟨rfl, rfl⟩))
    (fun os started H enc _ F => lifted os started H enc F)
end Go.Proofs.YtgekfhghambacaaGreat.cacheAgesP
namespace Go.Proofs.YtgekfhghambacaaGreat
theorem cacheAges_upto : Rows.CacheAgesUptoSaid := cacheAgesP.proved
end Go.Proofs.YtgekfhghambacaaGreat
